/- MoveControl: both texts. -/
import Derived.Test.YtfpfnnindlfgfaaCoC
import Derived.Test.YtfpfnnindlfgfaaCoB
namespace Go.Proofs.Ytfpfnnindlfgfaa.CoV
open Go.RowKit Lb IntS CtK CoM CoP CoF CoC CoB
open Bk (Blk)
set_option linter.unusedSimpArgs false
set_option linter.unusedVariables false

def LPost (w : World) (ss : List Ct) (ok : Bool) (e : Ending) (w' : World) : Prop := ∃ v, e = .returned (.tuple #[v, .bool ok]) ∧ Own w' w.heap.size v ss ∧ Below w.heap.size w w'
/-- The list in which the one with a code stands elsewhere. -/
def mvS (cs : List Ct) (x c : Int) : List Ct := cs.set (fiZ cs x).toNat ⟨x, c⟩
def mvO (m : Mp) (cs : List Ct) (x c : Int) : Bool := goodB m cs && (decide (0 ≤ fiZ cs x) && goodB m (mvS cs x c))
def mvL (m : Mp) (cs : List Ct) (x c : Int) : List Ct := if mvO m cs x c then mvS cs x c else []
theorem mv_len (m : Mp) (cs : List Ct) (x c : Int) : (mvL m cs x c).length ≤ cs.length := by
  unfold mvL mvS
  split
  · rw [List.length_set]; exact Nat.le_refl _
  · exact Nat.zero_le _
theorem mv_at {cs : List Ct} {x c : Int} {k : Nat} (h : fiZ cs x = (k : Int)) : mvS cs x c = cs.set k ⟨x, c⟩ := by unfold mvS; rw [h]; rfl

set_option maxRecDepth 20000 in
set_option maxHeartbeats 4000000 in
theorem move_impl (m : Mp) (cs : List Ct) (hl : cs.length ≤ 1048576) (hR : m.R.length ≤ maxLen) (hC : m.C.length ≤ maxLen) (x c : Int) (a b : Option Addr) (ca cb : Nat) (ad : Option Addr) (cap : Nat) (w : World) (h : Rd m cs a b ad w) :
    Calls Try.prog 33 #[.agg #[.int .i64 m.W, .int .i64 m.H, .slice a m.R.length ca, .slice b m.C.length cb], .slice ad cs.length cap, .int .i64 x, .int .i64 c] w (LPost w (mvL m cs x c) (mvO m cs x c)) := by
  have HB := Lib.hid ((Below.refl w.heap.size w).alloc (Nat.le_refl _) (.cells #[.int .i64 m.W, .int .i64 m.H, .slice a m.R.length ca, .slice b m.C.length cb] 26))
  have HK := Lib.hid (Blk.new w 26 #[.int .i64 m.W, .int .i64 m.H, .slice a m.R.length ca, .slice b m.C.length cb])
  have HR := Lib.hid h
  obtain ⟨g, hg⟩ : ∃ g, goodB m cs = g := ⟨_, rfl⟩
  have c1 := Lib.hid (fun w h => hg ▸ impl_good m cs hl hR hC a b ca cb ad cap w h)
  have HG := Lib.hid hg
  obtain ⟨ok, hok⟩ : ∃ o, mvO m cs x c = o := ⟨_, rfl⟩
  obtain ⟨z, hz⟩ : ∃ z, mvL m cs x c = z := ⟨_, rfl⟩
  have HO := Lib.hid hok
  have HZ := Lib.hid hz
  have HBAD := Lib.hid (fun e : ok = false => show z = [] from by rw [← hz]; unfold mvL; rw [hok, e]; rfl)
  rw [hok, hz]
  clear h hg hok hz
  go_enter Try.func33, Try.ntmps33
  go_wp2_with fail
  refine (c1.out _ (HR.out.later HB.out)).mono ?_
  rintro e w1 ⟨rfl, hb⟩
  have HB1 := Lib.hid (HB.out.trans (hb.mono HB.out.size))
  have HK1 := Lib.hid (HK.out.later hb)
  have hsz1 := HB1.out.size
  clear hb HB HK
  cases g with
  | false =>
    have h1 : ok = false := by rw [← HO.out]; unfold mvO; rw [HG.out]; rfl
    obtain rfl := HBAD.out h1
    subst h1
    go_wp2
    go_ret2
    exact ⟨_, rfl, own_none w1 w.heap.size hsz1, HB1.out.alloc hsz1 _⟩
  | true =>
    obtain ⟨k, hk⟩ := asc_plc (good_asc HG.out) x
    have c2 := Lib.hid (fun w h => place_any cs hl (good_asc HG.out) x k hk ad cap w h)
    have hfi := fi_plc hk
    obtain ⟨f, hf⟩ : ∃ f, fndB cs x k = f := ⟨_, rfl⟩
    rw [hf] at c2 hfi
    have hkn : f = true → k < cs.length ∧ (at_ cs k).co = x := fun e => by rw [e] at hf; exact of_decide_eq_true hf
    have hc10 := good_len HG.out
    have hA := Lib.hid (good_asc HG.out)
    clear hk hf
    go_wp2_with fail
    refine (c2.out _ (HR.out.later HB1.out).l).mono ?_
    rintro e w2 ⟨rfl, hb⟩
    have HB2 := Lib.hid (HB1.out.trans (hb.mono HB1.out.size))
    have HK2 := Lib.hid (HK1.out.later hb)
    have hsz2 := HB2.out.size
    clear hb HB1 HK1
    cases f with
    | false =>
      have h1 : ok = false := by rw [← HO.out]; unfold mvO; rw [hfi.2 rfl hA.out]; simp
      obtain rfl := HBAD.out h1
      subst h1
      clear hfi
      go_wp2
      go_ret2
      exact ⟨_, rfl, own_none w2 w.heap.size hsz2, HB2.out.alloc hsz2 _⟩
    | true =>
      obtain ⟨hkl, hkc⟩ := hkn rfl
      have hfk := hfi.1 rfl
      have HS := Lib.hid (show cs.set k { at_ cs k with ce := c } = mvS cs x c from by rw [mv_at hfk, ← hkc])
      obtain ⟨adx, rfl⟩ : ∃ x, ad = some x := by
        rcases HR.out.l with h0 | ⟨b', off, e, _⟩
        · omega
        · exact ⟨_, e⟩
      have c4 := Lib.hid (fun w hr => clone_any adx cap cs hl w hr)
      obtain ⟨g2, hg2⟩ : ∃ g, goodB m (mvS cs x c) = g := ⟨_, rfl⟩
      have HG2 := Lib.hid hg2
      have HO2 := Lib.hid (show ok = g2 from by rw [← HO.out]; unfold mvO; rw [HG.out, hfk, hg2]; simp)
      obtain ⟨n, hn⟩ : ∃ n, cs.length = n := ⟨_, rfl⟩
      have HN := Lib.hid hn
      rw [hn] at hkl c4 hc10 ⊢
      clear hfi hkn hfk hg2 hn hkc
      have hk0 : (0 : Int) ≤ (k : Int) := by omega
      have hk1 : (k : Int) < (n : Int) := by omega
      go_wp2_with fail
      refine (c4.out _ (HR.out.later HB2.out).l).mono ?_
      rintro e w3 ⟨v, rfl, ho, hb⟩
      obtain ⟨g, cp, rfl, hgb⟩ := own_some ho (by rw [HN.out]; omega)
      rw [HN.out] at ho ⊢
      have HB3 := Lib.hid (HB2.out.trans (hb.mono HB2.out.size))
      have HO3 := Lib.hid (ho.rebase HB2.out.size)
      have HK3 := Lib.hid (HK2.out.later hb)
      have hgw : w.heap.size < g := Nat.lt_of_lt_of_le HK2.out.lt hgb
      clear hb ho hgb HB2 HK2
      have HR3 := Lib.hid (show w3.ownsRow w.heap.size 58 2 (.slice (some ⟨g, 0, none⟩) n cp) n (cells cs) from by have h := HO3.out; unfold Own at h; rw [HN.out] at h; exact h)
      obtain ⟨u0, ck, fk⟩ := raw_at HR3.out (k := k * 2 + 1) (by omega)
      have HP := Lib.hid (own_ce HO3.out HN.out hkl c)
      have HB4 := Lib.hid (Below.setCell (p := ⟨g, k * 2 + 1, none⟩) HB3.out (Nat.le_of_lt hgw) (.int .i64 c))
      have HK4 := Lib.hid (HK3.out.far (p := ⟨g, k * 2 + 1, none⟩) (by show w.heap.size ≠ g; omega) (.int .i64 c))
      go_upto_region 8 with (fail)
      generalize w3.setCell ⟨g, k * 2 + 1, none⟩ (.int .i64 c) = w4 at *
      have HP4 := Lib.hid (show Own w4 w.heap.size (.slice (some ⟨g, 0, none⟩) n cp) (mvS cs x c) from by rw [← HS.out]; exact HP.out)
      have hln : (mvS cs x c).length = n := by unfold mvS; rw [List.length_set, HN.out]
      have c5 := Lib.hid (show Calls Try.prog 36 #[.agg #[.int .i64 m.W, .int .i64 m.H, .slice a m.R.length ca, .slice b m.C.length cb], .slice (some ⟨g, 0, none⟩) n cp] w4 fun e w' => e = .returned (.bool g2) ∧ Below w4.heap.size w4 w' from by
        have h := impl_good m (mvS cs x c) (by rw [hln]; omega) hR hC a b ca cb (some ⟨g, 0, none⟩) cp w4 ⟨RowAt.below HR.out.r HB4.out, RowAt.below HR.out.c HB4.out, by have h := HP4.out; rw [← hln] at h; exact h.row⟩
        rw [hln, HG2.out] at h
        exact h)
      clear HP HR3 HO3 HB3 HK3 hln ck fk
      obtain ⟨p0, p1, p2, p3, -⟩ := MapS.Blk.four HK4.out
      go_wp2_with fail
      refine c5.out.mono ?_
      rintro e w5 ⟨rfl, hb⟩
      have HB5 := Lib.hid (HB4.out.trans (hb.mono HB4.out.size))
      have HP5 := Lib.hid (HP4.out.below hb)
      have hsz5 := HB5.out.size
      clear hb
      cases g2 with
      | false =>
        have h1 : ok = false := HO2.out
        obtain rfl := HBAD.out h1
        subst h1
        go_wp2
        go_ret2
        exact ⟨_, rfl, own_none w5 w.heap.size hsz5, HB5.out.alloc hsz5 _⟩
      | true =>
        have h1 : ok = true := HO2.out
        have h2 : mvS cs x c = z := by rw [← HZ.out]; unfold mvL; rw [HO.out, h1]; rfl
        have HP6 := Lib.hid (show Own w5 w.heap.size (.slice (some ⟨g, 0, none⟩) n cp) z from by rw [← h2]; exact HP5.out)
        subst h1
        clear h2
        go_wp2
        go_ret2
        exact ⟨_, rfl, HP6.out, HB5.out⟩

set_option maxRecDepth 20000 in
set_option maxHeartbeats 4000000 in
theorem move_spec (m : Mp) (cs : List Ct) (hl : cs.length ≤ 1048576) (hR : m.R.length ≤ maxLen) (hC : m.C.length ≤ maxLen) (x c : Int) (a b : Option Addr) (ca cb : Nat) (ad : Option Addr) (cap : Nat) (w : World) (h : Rd m cs a b ad w) :
    Calls Try.prog 34 #[.agg #[.int .i64 m.W, .int .i64 m.H, .slice a m.R.length ca, .slice b m.C.length cb], .slice ad cs.length cap, .int .i64 x, .int .i64 c] w (LPost w (mvL m cs x c) (mvO m cs x c)) := by
  obtain ⟨t0, hi, hz0, hz1, hz2⟩ := info_parts info
  have HB := Lib.hid ((Below.refl w.heap.size w).alloc (Nat.le_refl _) (.cells #[.int .i64 m.W, .int .i64 m.H, .slice a m.R.length ca, .slice b m.C.length cb] 26))
  have HK := Lib.hid (Blk.new w 26 #[.int .i64 m.W, .int .i64 m.H, .slice a m.R.length ca, .slice b m.C.length cb])
  have HR := Lib.hid h
  obtain ⟨g, hg⟩ : ∃ g, goodB m cs = g := ⟨_, rfl⟩
  have c1 := Lib.hid (fun w h => hg ▸ spec_good m cs hl hR hC a b ca cb ad cap w h)
  have c2 := Lib.hid (fun w h => find_any cs hl x ad cap w h)
  have HG := Lib.hid hg
  obtain ⟨ok, hok⟩ : ∃ o, mvO m cs x c = o := ⟨_, rfl⟩
  obtain ⟨z, hz⟩ : ∃ z, mvL m cs x c = z := ⟨_, rfl⟩
  have HO := Lib.hid hok
  have HZ := Lib.hid hz
  have HBAD := Lib.hid (fun e : ok = false => show z = [] from by rw [← hz]; unfold mvL; rw [hok, e]; rfl)
  rw [hok, hz]
  clear h hg hok hz
  obtain ⟨f, hf⟩ : ∃ f, fiZ cs x = f := ⟨_, rfl⟩
  have hcase := fi_cases cs x
  rw [hf] at c2 hcase
  have HF := Lib.hid hf
  have HCs := Lib.hid hcase
  clear hf hcase
  go_enter Try.func34, Try.ntmps34
  go_wp2_with fail
  refine (c2.out _ (HR.out.later HB.out).l).mono ?_
  rintro e w1 ⟨rfl, rfl⟩
  obtain ⟨p0, p1, p2, p3, -⟩ := MapS.Blk.four HK.out
  go_wp2_with fail
  refine (c1.out _ (HR.out.later HB.out)).mono ?_
  rintro e w1 ⟨rfl, hb⟩
  have HB1 := Lib.hid (HB.out.trans (hb.mono HB.out.size))
  have HK1 := Lib.hid (HK.out.later hb)
  have hsz1 := HB1.out.size
  clear hb HB HK p0 p1 p2 p3
  cases g with
  | false =>
    have h1 : ok = false := by rw [← HO.out]; unfold mvO; rw [HG.out]; rfl
    obtain rfl := HBAD.out h1
    subst h1
    go_wp2
    go_ret2
    exact ⟨_, rfl, own_none w1 w.heap.size hsz1, HB1.out.alloc hsz1 _⟩
  | true =>
    rcases HCs.out with h0 | ⟨k, h0, hkl, hkc⟩
    · have h1 : ok = false := by rw [← HO.out]; unfold mvO; rw [HF.out, h0]; simp
      obtain rfl := HBAD.out h1
      subst h1 h0
      go_wp2
      go_ret2
      exact ⟨_, rfl, own_none w1 w.heap.size hsz1, HB1.out.alloc hsz1 _⟩
    · subst h0
      have hfk := HF.out
      have hd : decide ((k : Int) < 0) = false := decide_eq_false (by omega)
      obtain ⟨adx, rfl⟩ : ∃ x, ad = some x := by
        rcases HR.out.l with h0 | ⟨b', off, e, _⟩
        · omega
        · exact ⟨_, e⟩
      have HMv := Lib.hid (mv_at (c := c) hfk)
      obtain ⟨g2, hg2⟩ : ∃ g, goodB m (mvS cs x c) = g := ⟨_, rfl⟩
      have HG2 := Lib.hid hg2
      have HO2 := Lib.hid (show ok = g2 from by rw [← HO.out]; unfold mvO; rw [HG.out, hfk, hg2]; simp)
      have hc10 := good_len HG.out
      have HBe := Lib.hid (HB1.out.alloc hsz1 (.cells #[] 58))
      have HKe := Lib.hid (HK1.out.alloc (.cells #[] 58))
      have HNw := Lib.hid (Row.news ((HR.out.later HB1.out).l.later ((Below.refl _ _).alloc (Nat.le_refl _) (.cells #[] 58))))
      have hown := (Own.empty w1).rebase hsz1
      unfold Own at hown
      obtain ⟨n, hn⟩ : ∃ n, cs.length = n := ⟨_, rfl⟩
      have HNl := Lib.hid hn
      have hcl : (cells cs).length = n * 2 := by rw [cells_len, hn]
      rw [hn] at hkl hl hc10 ⊢
      have HKlt := Lib.hid HK1.out.lt
      clear hfk hg2 hn HB1 HK1
      have hk0 : (0 : Int) ≤ (k : Int) := by omega
      have hk1 : (k : Int) < (n : Int) := by omega
      go_upto_region 5 with (at_builtin; (refine wpList_append_own _ rfl (.tmp 24) (.tmp 25) 40 rfl w.heap.size 58 t0 (.agg #[.int .i64 no.co, .int .i64 no.ce]) 2 16 Try.underlying40 hi hz0 hz1 hz2 rfl (by decide) _ 0 _ rfl hown adx n cap (cells cs) rfl hcl HNw.out (cells_one cs) (by unfold maxLen; omega) (by omega) HBe.out.size ?_; intro v' w3 hown3 hgr3 _; have HO3 := Lib.hid (show Own w3 w.heap.size v' ([] ++ cs) from Own.cat rfl HNl.out hown3); have HB3 := Lib.hid (HBe.out.grown (show World.grownBy _ w3 (some w1.heap.size) from hgr3) HBe.out.size (fun q e => by cases e; exact hsz1)); have HK3 := Lib.hid (blk_grown HKe.out (show World.grownBy _ w3 (some w1.heap.size) from hgr3) (fun e => by have := HKe.out.lt; have h9 := (Option.some.inj e); simp only [World.size_alloc] at this; have h8 := HKlt.out; omega)); clear hown3 hgr3))
      obtain ⟨g, cp, rfl, hgb⟩ := own_some (show Own w3 w.heap.size v' cs from HO3.out) (by rw [HNl.out]; omega)
      rw [HNl.out] at HO3 ⊢
      replace HO3 := Lib.hid (show Own w3 w.heap.size (.slice (some ⟨g, 0, none⟩) n cp) cs from HO3.out)
      have hgne := Lib.hid (show w.heap.size ≠ g from fun e => by
        have h1 := HK3.out
        subst e
        rcases HO3.out.2 with ⟨h2, _⟩ | ⟨g', c', cur, hv, _, hg', _⟩
        · cases h2
        · have h3 : w.heap.size = g' := by simpa using (Value.slice.inj hv).1
          subst h3
          unfold Blk at h1
          rw [hg'] at h1
          simp at h1)
      have HR3 := Lib.hid (show w3.ownsRow w.heap.size 58 2 (.slice (some ⟨g, 0, none⟩) n cp) n (cells cs) from by have h := HO3.out; unfold Own at h; rw [HNl.out] at h; exact h)
      obtain ⟨u0, ck, fk⟩ := raw_at HR3.out (k := k * 2) (by omega)
      obtain ⟨u1, ck1, fk1⟩ := raw_at HR3.out (k := k * 2 + 1) (by omega)
      have HP := Lib.hid (HO3.out.put HNl.out (k := k) (by rw [HNl.out]; exact hkl) ⟨x, c⟩)
      have HB4 := Lib.hid (Below.setCell (p := ⟨g, k * 2 + 1, none⟩) (Below.setCell (p := ⟨g, k * 2, none⟩) HB3.out hgb (.int .i64 x)) hgb (.int .i64 c))
      have HK4 := Lib.hid ((HK3.out.far (p := ⟨g, k * 2, none⟩) hgne.out (.int .i64 x)).far (p := ⟨g, k * 2 + 1, none⟩) hgne.out (.int .i64 c))
      go_upto_region 6 with (fail)
      generalize (w3.setCell ⟨g, k * 2, none⟩ (.int .i64 x)).setCell ⟨g, k * 2 + 1, none⟩ (.int .i64 c) = w4 at *
      have HP4 := Lib.hid (show Own w4 w.heap.size (.slice (some ⟨g, 0, none⟩) n cp) (mvS cs x c) from by rw [HMv.out]; exact HP.out)
      have hln : (mvS cs x c).length = n := by unfold mvS; rw [List.length_set, HNl.out]
      have c5 := Lib.hid (show Calls Try.prog 98 #[.agg #[.int .i64 m.W, .int .i64 m.H, .slice a m.R.length ca, .slice b m.C.length cb], .slice (some ⟨g, 0, none⟩) n cp] w4 fun e w' => e = .returned (.bool g2) ∧ Below w4.heap.size w4 w' from by
        have h := spec_good m (mvS cs x c) (by rw [hln]; omega) hR hC a b ca cb (some ⟨g, 0, none⟩) cp w4 ⟨RowAt.below HR.out.r HB4.out, RowAt.below HR.out.c HB4.out, by have h := HP4.out; rw [← hln] at h; exact h.row⟩
        rw [hln, HG2.out] at h
        exact h)
      clear HP HR3 HO3 HB3 HK3 hln ck fk ck1 fk1
      obtain ⟨p0, p1, p2, p3, -⟩ := MapS.Blk.four HK4.out
      go_wp2_with fail
      refine c5.out.mono ?_
      rintro e w5 ⟨rfl, hb⟩
      have HB5 := Lib.hid (HB4.out.trans (hb.mono HB4.out.size))
      have HP5 := Lib.hid (HP4.out.below hb)
      have hsz5 := HB5.out.size
      clear hb
      cases g2 with
      | false =>
        have h1 : ok = false := HO2.out
        obtain rfl := HBAD.out h1
        subst h1
        go_wp2
        go_ret2
        exact ⟨_, rfl, own_none w5 w.heap.size hsz5, HB5.out.alloc hsz5 _⟩
      | true =>
        have h1 : ok = true := HO2.out
        have h2 : mvS cs x c = z := by rw [← HZ.out]; unfold mvL; rw [HO.out, h1]; rfl
        have HP6 := Lib.hid (show Own w5 w.heap.size (.slice (some ⟨g, 0, none⟩) n cp) z from by rw [← h2]; exact HP5.out)
        subst h1
        clear h2
        go_wp2
        go_ret2
        exact ⟨_, rfl, HP6.out, HB5.out⟩

/-- MoveControl: both. -/
theorem move (m : Mp) (hR : m.R.length ≤ maxLen) (hC : m.C.length ≤ maxLen) (cs : List Ct) (hf : ∀ i, i < cs.length → Is (at_ cs i)) (hl : cs.length ≤ 1048576) (x : Int) (hx : (Lit.int IntKind.i64 x).wf = true) (c : Int) (hc : (Lit.int IntKind.i64 c).wf = true) : ∃ (zs : List Ct) (ok : Bool), zs.length ≤ 1048576 ∧
    (∀ a b ca cb ad cap w, IRow w a m.R → IRow w b m.C → cs.length ≤ cap → Row w ad cs → Calls Try.prog 34 #[.agg #[.int .i64 m.W, .int .i64 m.H, .slice a m.R.length ca, .slice b m.C.length cb], .slice ad cs.length cap, .int .i64 x, .int .i64 c] w fun e w' => ∃ v, e = .returned (.tuple #[v, .bool ok]) ∧ Own w' w.heap.size v zs ∧ Below w.heap.size w w') ∧
    (∀ a b ca cb ad cap w, IRow w a m.R → IRow w b m.C → cs.length ≤ cap → Row w ad cs → Calls Try.prog 33 #[.agg #[.int .i64 m.W, .int .i64 m.H, .slice a m.R.length ca, .slice b m.C.length cb], .slice ad cs.length cap, .int .i64 x, .int .i64 c] w fun e w' => ∃ v, e = .returned (.tuple #[v, .bool ok]) ∧ Own w' w.heap.size v zs ∧ Below w.heap.size w w') :=
  ⟨_, _, Nat.le_trans (mv_len m cs x c) hl, fun a b ca cb ad cap w h1 h2 _ h3 => move_spec m cs hl hR hC x c a b ca cb ad cap w ⟨h1, h2, h3⟩, fun a b ca cb ad cap w h1 h2 _ h3 => move_impl m cs hl hR hC x c a b ca cb ad cap w ⟨h1, h2, h3⟩⟩

end Go.Proofs.Ytfpfnnindlfgfaa.CoV
