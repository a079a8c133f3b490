/- Courses: the program's stops. -/
import Derived.Test.YtdfmfmndmldggaaKrM
import Derived.Test.YtdfmfmndmldggaaBaC
import Derived.Test.YtdfmfmndmldggaaBaA
import Derived.Deep.LoopGhost
import Derived.Deep.AppendLies
import Derived.OwnWalk
namespace Go.Proofs.Ytdfmfmndmldggaa.KrI
open Go.RowKit Lb Bk IntS CtK CoM CoP CoF CoC KrM LtI
set_option linter.unusedSimpArgs false
set_option linter.unusedVariables false

/-- A map, controls and a course that can be read. -/
structure Rc (m : Mp) (cs : List Ct) (zs : List Int) (a b ad al : Option Addr) (w : World) : Prop where
  d : Rd m cs a b ad w
  z : IRow w al zs
theorem Rc.later {m : Mp} {cs : List Ct} {zs : List Int} {a b ad al : Option Addr} {w w' : World} (h : Rc m cs zs a b ad al w) (hb : Below w.heap.size w w') : Rc m cs zs a b ad al w' := ⟨h.d.later hb, RowAt.below h.z hb⟩
theorem Rc.drew {m : Mp} {cs : List Ct} {zs : List Int} {a b ad al : Option Addr} {w : World} (h : Rc m cs zs a b ad al w) : Rc m cs zs a b ad al w.drew := ⟨h.d.drew, h.z⟩
/-- The code at a place. -/
theorem Rc.cell {m : Mp} {cs : List Ct} {zs : List Int} {a b ad al : Option Addr} {w : World} (h : Rc m cs zs a b ad al w) {k : Nat} (hk : k < zs.length) : ∃ B off, al = some ⟨B, off, none⟩ ∧ ∀ j, j < zs.length → w.cell? ⟨B, off + j, none⟩ = some (.int .i64 (zAt zs j)) := by
  rcases h.z with h0 | ⟨B, off, e, hc⟩
  · omega
  · exact ⟨B, off, e, hc⟩

/-- The controls of a course. -/
def stL (cs : List Ct) (zs : List Int) : List Ct := zs.map (ctA cs)
theorem st_len (cs : List Ct) (zs : List Int) : (stL cs zs).length = zs.length := by simp [stL]
theorem st_at (cs : List Ct) {zs : List Int} {i : Nat} (h : i < zs.length) : at_ (stL cs zs) i = ctA cs (zAt zs i) := by
  rw [at_lt (by rw [st_len]; exact h)]
  simp [stL, zAt, h]
theorem st_next (cs : List Ct) {zs : List Int} {k : Nat} (h : k < zs.length) : stL cs (zs.take (k + 1)) = stL cs (zs.take k) ++ [ctA cs (zAt zs k)] := by
  unfold stL
  rw [zAt_take zs k h, List.map_append]
  rfl
def StP (m : Mp) (cs : List Ct) (zs : List Int) : Prop := goodB m cs = true ∧ (2 ≤ zs.length ∧ zs.length ≤ 8) ∧ ∀ i, i < zs.length → Fnd cs zs i
instance (m : Mp) (cs : List Ct) (zs : List Int) : Decidable (StP m cs zs) := by unfold StP; infer_instance
def stK (m : Mp) (cs : List Ct) (zs : List Int) : Bool := decide (StP m cs zs)
def stR (m : Mp) (cs : List Ct) (zs : List Int) : List Ct := if stK m cs zs then stL cs zs else []
theorem st_no {m : Mp} {cs : List Ct} {zs : List Int} (h : ¬ StP m cs zs) : stK m cs zs = false ∧ stR m cs zs = [] := by
  have : stK m cs zs = false := decide_eq_false h
  exact ⟨this, by unfold stR; rw [this]; rfl⟩
theorem st_yes {m : Mp} {cs : List Ct} {zs : List Int} (h : StP m cs zs) : stK m cs zs = true ∧ stR m cs zs = stL cs zs := by
  have : stK m cs zs = true := decide_eq_true h
  exact ⟨this, by unfold stR; rw [this]; rfl⟩
theorem st_bad {m : Mp} {cs : List Ct} {zs : List Int} (h : goodB m cs = false) : stK m cs zs = false ∧ stR m cs zs = [] := st_no fun g => by have := g.1; rw [h] at this; cases this
theorem take_all {k : Nat} (zs : List Int) (h : zs.length = k) : zs.take k = zs := List.take_of_length_le (by omega)
def CPost (w : World) (rs : List Ct) (ok : Bool) (e : Ending) (w' : World) : Prop := ∃ v, e = .returned (.tuple #[v, .bool ok]) ∧ Own w' w.heap.size v rs ∧ Below w.heap.size w w'
theorem own_none (w : World) (b : Nat) (hb : b ≤ w.heap.size) : Own (w.alloc (.cells #[] 70)) b (.slice (some ⟨w.heap.size, 0, none⟩) 0 0) [] := World.ownsRow_made w #[] 0 hb (Nat.zero_le _) rfl

set_option maxRecDepth 20000 in
set_option maxHeartbeats 4000000 in
theorem stops_any (m : Mp) (cs : List Ct) (hl : cs.length ≤ 1048576) (zs : List Int) (hl2 : zs.length ≤ 1048576) (hR : m.R.length ≤ maxLen) (hC : m.C.length ≤ maxLen) (a b : Option Addr) (ca cb : Nat) (ad : Option Addr) (cap : Nat) (al : Option Addr) (cl : Nat) (w : World) (h : Rc m cs zs a b ad al w) :
    Calls Try.prog 74 #[.agg #[.int .i64 m.W, .int .i64 m.H, .slice a m.R.length ca, .slice b m.C.length cb], .slice ad cs.length cap, .slice al zs.length cl] w (CPost w (stR m cs zs) (stK m cs zs)) := by
  obtain ⟨t0, hi0, hz0, hz1, hz2⟩ := info_parts CtK.info
  have HB := Lib.hid ((Below.refl w.heap.size w).alloc (Nat.le_refl _) (.cells #[.int .i64 m.W, .int .i64 m.H, .slice a m.R.length ca, .slice b m.C.length cb] 26))
  have H := Lib.hid h
  obtain ⟨g, hg⟩ : ∃ g, goodB m cs = g := ⟨_, rfl⟩
  have c1 := Lib.hid (fun w h => hg ▸ impl_good m cs hl hR hC a b ca cb ad cap w h)
  have HG := Lib.hid hg
  obtain ⟨ok, hok⟩ : ∃ o, stK m cs zs = o := ⟨_, rfl⟩
  obtain ⟨rs, hrs⟩ : ∃ o, stR m cs zs = o := ⟨_, rfl⟩
  have HO := Lib.hid hok
  have HZ := Lib.hid hrs
  rw [hok, hrs]
  obtain ⟨n, hn⟩ : ∃ n, zs.length = n := ⟨_, rfl⟩
  have HN := Lib.hid hn
  rw [hn] at hl2 ⊢
  clear h hg hok hrs hn
  go_enter Try.func74, Try.ntmps74
  go_wp2_with fail
  refine (c1.out _ (H.out.later HB.out).d).mono ?_
  rintro e w1 ⟨rfl, hb⟩
  have HB1 := Lib.hid (HB.out.trans (hb.mono (by simp)))
  have hs1 := HB1.out.size
  clear hb HB c1
  cases g with
  | false =>
    obtain ⟨h1, h2⟩ := st_bad (zs := zs) HG.out
    rw [HO.out] at h1
    rw [HZ.out] at h2
    subst h1 h2
    go_wp2
    go_ret2
    exact ⟨_, rfl, own_none w1 _ hs1, HB1.out.alloc hs1 _⟩
  | true =>
  by_cases hlo : n < 2
  · obtain ⟨h1, h2⟩ := st_no (m := m) (cs := cs) (zs := zs) (fun g => by have := g.2.1; have := HN.out; omega)
    rw [HO.out] at h1
    rw [HZ.out] at h2
    subst h1 h2
    go_wp2
    go_ret2
    exact ⟨_, rfl, own_none w1 _ hs1, HB1.out.alloc hs1 _⟩
  by_cases hhi : 8 < n
  · obtain ⟨h1, h2⟩ := st_no (m := m) (cs := cs) (zs := zs) (fun g => by have := g.2.1; have := HN.out; omega)
    rw [HO.out] at h1
    rw [HZ.out] at h2
    subst h1 h2
    go_wp2
    go_ret2
    exact ⟨_, rfl, own_none w1 _ hs1, HB1.out.alloc hs1 _⟩
  have hc10 := good_len HG.out
  have HA := Lib.hid (good_asc HG.out)
  have HS0 := Lib.hid (show Gr w (.slice (some ⟨w1.heap.size, 0, none⟩) 0 0) [] (w1.alloc (.cells #[] 70)) from ⟨HB1.out.alloc hs1 _, own_none w1 _ hs1⟩)
  clear hs1
  go_wp2
  go_loopg [31, 8] n (fun gk i v wr => ∃ k : Nat, k ≤ n ∧ gk = n - k ∧ i = .int .i64 k ∧ Gr w v (stL cs (zs.take k)) wr ∧ ∀ i, i < k → Fnd cs zs i)
  case atStart => exact ⟨0, Nat.zero_le _, rfl, rfl, HS0.out, fun i hi => absurd hi (Nat.not_lt_zero _)⟩
  case round =>
    clear HS0 HB1
    obtain ⟨k, hk, hgk, rfl, hS, hF⟩ := hrel
    have HS := Lib.hid hS
    have HF := Lib.hid hF
    clear hS hF
    by_cases hlt : k < n
    · obtain ⟨B, off, rfl, hce⟩ := (H.out.later HS.out.b).cell (k := k) (by rw [HN.out]; exact hlt)
      have c0 := hce k (by rw [HN.out]; exact hlt)
      obtain ⟨x, hx⟩ : ∃ x, zAt zs k = x := ⟨_, rfl⟩
      rw [hx] at c0
      have HX := Lib.hid hx
      obtain ⟨q, hq⟩ := asc_plc HA.out x
      have c2 := Lib.hid (fun w h => place_any cs hl HA.out x q hq ad cap w h)
      have hfi := fi_plc hq
      obtain ⟨f, hf⟩ : ∃ f, fndB cs x q = f := ⟨_, rfl⟩
      rw [hf] at c2 hfi
      have hkn : f = true → q < cs.length := fun e => by rw [e] at hf; exact (of_decide_eq_true hf).1
      have hk0 : (0 : Int) ≤ (k : Int) := by omega
      have hk1 : (k : Int) < (n : Int) := by omega
      clear hq hf hx hce
      go_wp2_with fail
      refine (c2.out _ (H.out.later HS.out.b).d.l).mono ?_
      rintro e w2 ⟨rfl, hb⟩
      have HS2 := Lib.hid (HS.out.below hb)
      have hs2 := HS2.out.b.size
      clear hb c2 HS c0
      cases f with
      | false =>
        obtain ⟨h1, h2⟩ := st_no (m := m) (cs := cs) (zs := zs) (fun g => by
          have h3 := g.2.2 k (by rw [HN.out]; exact hlt)
          unfold Fnd at h3
          rw [HX.out, hfi.2 rfl HA.out] at h3
          omega)
        rw [HO.out] at h1
        rw [HZ.out] at h2
        subst h1 h2
        clear hfi hkn
        go_wp2
        go_ret2
        exact ⟨_, rfl, own_none w2 _ hs2, HS2.out.b.alloc hs2 _⟩
      | true =>
        have hql := hkn rfl
        have h2 := hfi.1 rfl
        have HF2 := Lib.hid (show ∀ i, i < k + 1 → Fnd cs zs i from all_succ HF.out (by unfold Fnd; rw [HX.out, h2]; omega))
        obtain ⟨y, hy⟩ : ∃ y, at_ cs q = y := ⟨_, rfl⟩
        have HNx := Lib.hid (show stL cs (zs.take (k + 1)) = stL cs (zs.take k) ++ [y] from by
          rw [st_next cs (by rw [HN.out]; exact hlt), HX.out, ← hy]
          unfold ctA
          rw [h2, Int.toNat_natCast])
        obtain ⟨b1, off1, rfl, d0, d1⟩ := (H.out.later HS2.out.b).d.l.cells hql
        rw [hy] at d0 d1
        have HM := Lib.hid (show (stL cs (zs.take k)).length = k from by rw [st_len, List.length_take, HN.out]; omega)
        have hq0 : (0 : Int) ≤ (q : Int) := by omega
        have hq1 : (q : Int) < (cs.length : Int) := by omega
        have hown := HS2.out.own.below ((Below.refl _ _).alloc (Nat.le_refl _) (.cells #[.int .i64 y.co, .int .i64 y.ce] 70))
        unfold Own at hown
        rw [HM.out] at hown
        have HTa := Lib.hid (HS2.out.alloc (.cells #[.int .i64 y.co, .int .i64 y.ce] 70))
        clear hy hfi hkn h2 hl2
        go_wp2_with (go_loud (at_builtin; (refine wpList_append_own _ rfl (.tmp 44) (.tmp 49) 27 rfl w.heap.size 70 t0 (.agg #[.int .i64 (CtK.no).co, .int .i64 (CtK.no).ce]) 2 16 Try.underlying27 hi0 hz0 hz1 hz2 rfl (by decide) _ k _ rfl hown ⟨_, 0, none⟩ 1 1 (CtK.cells [y]) rfl rfl (World.news_of_block (Blk.new _ _ _)) (CtK.cells_one [y]) (by unfold maxLen; omega) (by omega) (by simp; omega) ?_; intro v' w3 hown3 hgr3 _; have HP3 := Lib.hid (HTa.out.put HM.out hgr3 hown3); clear hown3 hgr3)))
        go_roundg (n - (k + 1))
        case measure => omega
        case rel => exact ⟨k + 1, by omega, rfl, by go_num, by rw [HNx.out]; exact HP3.out, HF2.out⟩
    · obtain rfl : k = n := by omega
      obtain ⟨h1, h2⟩ := st_yes (m := m) (cs := cs) (zs := zs) ⟨HG.out, by rw [HN.out]; omega, by rw [HN.out]; exact HF.out⟩
      have HE := Lib.hid (show Own wr w.heap.size u8 rs from by
        have h := HS.out.own
        rw [take_all zs HN.out, ← h2, HZ.out] at h
        exact h)
      rw [HO.out] at h1
      subst h1
      clear h2
      go_wp2
      go_ret2
      exact ⟨_, rfl, HE.out, HS.out.b⟩
end Go.Proofs.Ytdfmfmndmldggaa.KrI
