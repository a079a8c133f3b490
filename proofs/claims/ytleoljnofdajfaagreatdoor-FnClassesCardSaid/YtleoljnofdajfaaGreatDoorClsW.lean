/- FnClasses: the walk of the law. -/
import Derived.Test.YtleoljnofdajfaaGreatDoorKaJ
import Derived.Test.YtleoljnofdajfaaGreatDoorKpM
import Derived.Test.YtleoljnofdajfaaGreatDoorClsD
import Derived.Test.YtleoljnofdajfaaGreatDoorTabH
import Derived.Test.YtleoljnofdajfaaGreatDoorKpI
import Derived.RegionTactic
import Derived.Deep.RegionHeld3
import Derived.Deep.QuietTactic
import Derived.BigQuiet
import Derived.Deep.CutBlock
namespace Go.Proofs.YtleoljnofdajfaaGreatDoor.ClsM
open Go.RowKit Lb Bk InA Wd KlI Fmt NumM KtT KtQ PfM KpM KaA KaG KaD KaF KaB KaJ
open KlK (at_ at_lt no)
set_option linter.unusedSimpArgs false
set_option linter.unusedVariables false

/-! Texts. -/
theorem sx_wo {c : Kl} (h : okK c = true) : (!(decide (sxOf c = bM))) = c.wo := by
  have hs := ok_sex h
  unfold sxOf
  cases hw : c.wo with
  | true => cases hm : c.me <;> decide
  | false =>
    cases hm : c.me with
    | true => decide
    | false => rw [hw, hm] at hs; cases hs
theorem sx_me {c : Kl} (h : okK c = true) : (!(decide (sxOf c = bW))) = c.me := by
  have hs := ok_sex h
  unfold sxOf
  cases hw : c.wo with
  | true => cases hm : c.me <;> decide
  | false =>
    cases hm : c.me with
    | true => decide
    | false => rw [hw, hm] at hs; cases hs
theorem vz_fmt {z : Int} (h0 : 0 ≤ z) (h1 : z ≤ 1000) : vz (fmtB z) = z := by unfold vz; rw [val_fmt z (by omega) (by omega)]; rfl
theorem can_tx {c : Kl} (h : okK c = true) : canS (txK c) = c := by
  obtain ⟨hid1, hid2⟩ := ok_id h
  obtain ⟨hlo, hlh, hhi⟩ := ok_ages h
  obtain ⟨hco1, hco2⟩ := ok_co h
  obtain ⟨hmo1, hmo2⟩ := ok_mo h
  have e0 : sAt (ws c (agK c) (sxOf c)) 0 = fmtB c.id := rfl
  have e1 : sAt (ws c (agK c) (sxOf c)) 1 = c.nm := rfl
  have e2 : sAt (ws c (agK c) (sxOf c)) 2 = agK c := rfl
  have e3 : sAt (ws c (agK c) (sxOf c)) 3 = sxOf c := rfl
  have e5 : sAt (ws c (agK c) (sxOf c)) 5 = fmtB c.co := rfl
  have e7 : sAt (ws c (agK c) (sxOf c)) 7 = fmtB c.mo := rfl
  have f0 : sAt [fmtB c.lo, fmtB c.hi] 0 = fmtB c.lo := rfl
  have f1 : sAt [fmtB c.lo, fmtB c.hi] 1 = fmtB c.hi := rfl
  unfold canS mkS
  rw [parts_tx h, e2, parts_ag h, e0, e1, e3, e5, e7, f0, f1, sx_wo h, sx_me h, vz_fmt (by omega) (by omega), vz_fmt (by omega) (by omega), vz_fmt (by omega) (by omega), vz_fmt (by omega) (by omega), vz_fmt (by omega) (by omega)]
theorem back {c : Kl} (h : okK c = true) : okS (ktx c) = true ∧ ansK (ktx c) = c := by
  have e : ktx c = txK c := by unfold ktx; rw [h]; rfl
  have hc := can_tx h
  obtain ⟨-, h1, h2, h3⟩ := can_same (s := txK c) h rfl
  have ho : okS (txK c) = true := by
    unfold okS
    rw [hc, h, decide_eq_true rfl, decide_eq_true ⟨h1, h2, h3⟩]
    rfl
  rw [e]
  exact ⟨ho, by rw [ans_yes ho, hc]⟩
theorem ktx_size (c : Kl) : (ktx c).size ≤ 60 := by
  unfold ktx
  split
  · rename_i h; exact tx_small h
  · exact Nat.zero_le _

/-! The best class. -/
theorem same_id {rs : List Kl} (hg : goodB rs = true) {i j : Nat} (hi : i < rs.length) (hj : j < rs.length) (e : (at_ rs i).id = (at_ rs j).id) : i = j := by
  rcases Nat.lt_trichotomy i j with h | h | h
  · have := good_lt hg h hj; omega
  · exact h
  · have := good_lt hg h hi; omega
/-- Whom the number picked is of. -/
theorem mo_is : ∀ (n : Nat) (fs : List Kl) (m : Kl), fs.length = n → mo fs = some m → m ∈ fs ∧ ∀ x ∈ fs, keyK m ≤ keyK x
  | 0, fs, m, hn, h => by
    have : fs = [] := List.length_eq_zero_iff.1 hn
    subst this
    cases h
  | n + 1, fs, m, hn, h => by
    rcases List.eq_nil_or_concat fs with e | ⟨gs, x, e⟩
    · subst e; cases hn
    · rw [List.concat_eq_append] at e
      subst e
      have hl : gs.length = n := by simpa using hn
      rw [mo_snoc] at h
      cases hm : mo gs with
      | none =>
        have hgn := mo_none.1 hm
        subst hgn
        rw [hm] at h
        have e : x = m := by unfold upd at h; exact Option.some.inj h
        subst e
        exact ⟨by simp, fun y hy => by have : y = x := by simpa using hy
                                       rw [this]; exact Int.le_refl _⟩
      | some q =>
        obtain ⟨i1, i2⟩ := mo_is n gs q hl hm
        rw [hm] at h
        unfold upd at h
        simp only at h
        split at h
        · rename_i hlt
          have e : x = m := Option.some.inj h
          subst e
          refine ⟨by simp, fun y hy => ?_⟩
          rcases List.mem_append.1 hy with hy | hy
          · have := i2 y hy; omega
          · have : y = x := by simpa using hy
            rw [this]; exact Int.le_refl _
        · rename_i hlt
          have e : q = m := Option.some.inj h
          subst e
          refine ⟨List.mem_append_left _ i1, fun y hy => ?_⟩
          rcases List.mem_append.1 hy with hy | hy
          · exact i2 y hy
          · have : y = x := by simpa using hy
            rw [this]; omega
/-- The width that the law finds. -/
def wdZ (rs : List Kl) (r : Ru) : Int := if beB rs r then ((beO rs r).getD no).hi - ((beO rs r).getD no).lo else 121
theorem be_ok {rs : List Kl} {r : Ru} (h : beB rs r = true) : cfB rs r = true ∧ ∃ m, beO rs r = some m := by
  unfold beB at h
  rw [Bool.and_eq_true] at h
  exact ⟨h.1, Option.isSome_iff_exists.1 h.2⟩
theorem cf_ok {rs : List Kl} {r : Ru} (h : cfB rs r = true) : goodB rs = true ∧ RuI.okR r = true := by
  unfold cfB at h
  rw [Bool.and_eq_true] at h
  exact h
theorem mem_at {rs : List Kl} {x : Kl} (h : x ∈ rs) : ∃ j, j < rs.length ∧ at_ rs j = x := by
  obtain ⟨j, hj, e⟩ := List.mem_iff_getElem.1 h
  exact ⟨j, hj, by rw [at_lt hj, e]⟩
theorem at_mem {rs : List Kl} {i : Nat} (hi : i < rs.length) : at_ rs i ∈ rs := by rw [at_lt hi]; exact List.getElem_mem hi
/-- Told exactly if some class admits. -/
theorem told_len (rs : List Kl) (r : Ru) : beB rs r = decide (0 < ((cfL rs r).length : Int)) := by
  unfold beB cfL
  cases hg : cfB rs r with
  | false => simp
  | true =>
    rw [if_pos rfl, ids_len]
    cases hm : beO rs r with
    | none =>
      have := mo_none.1 (show mo (rs.filter (fun c => admR c r)) = none from hm)
      rw [this]
      rfl
    | some m =>
      have hne : rs.filter (fun c => admR c r) ≠ [] := fun e => by
        have h2 : mo (rs.filter (fun c => admR c r)) = none := by rw [e]; rfl
        have h3 : mo (rs.filter (fun c => admR c r)) = some m := hm
        rw [h2] at h3; cases h3
      have hp := List.length_pos_iff.2 hne
      rw [decide_eq_true (by omega)]
      rfl
/-- The best one is among them. -/
theorem best_at {rs : List Kl} {r : Ru} (h : beB rs r = true) : ∃ j, j < rs.length ∧ beZ rs r = (at_ rs j).id ∧ wdZ rs r = (at_ rs j).hi - (at_ rs j).lo ∧ admR (at_ rs j) r = true ∧ ∀ i, i < rs.length → (at_ rs i).id = (at_ rs j).id → i = j := by
  obtain ⟨hg, m, hm⟩ := be_ok h
  obtain ⟨h1, -⟩ := mo_is _ _ m rfl (show mo (rs.filter (fun c => admR c r)) = some m from hm)
  obtain ⟨h2, h3⟩ := List.mem_filter.1 h1
  obtain ⟨j, hj, e⟩ := mem_at h2
  refine ⟨j, hj, ?_, ?_, by rw [e]; exact h3, fun i hi e2 => same_id (cf_ok hg).1 hi hj e2⟩
  · rw [(be_yes hg hm).2, e]
  · unfold wdZ
    rw [h, if_pos rfl, hm, e]
    rfl
theorem has_id {rs : List Kl} {r : Ru} (hg : cfB rs r = true) {i : Nat} (hi : i < rs.length) : decide ((at_ rs i).id ∈ cfL rs r) = admR (at_ rs i) r := by
  unfold cfL idsL
  rw [hg, if_pos rfl]
  cases ha : admR (at_ rs i) r with
  | true =>
    exact decide_eq_true (List.mem_map.2 ⟨at_ rs i, List.mem_filter.2 ⟨at_mem hi, ha⟩, rfl⟩)
  | false =>
    refine decide_eq_false fun h => ?_
    obtain ⟨x, hx, e⟩ := List.mem_map.1 h
    obtain ⟨h2, h3⟩ := List.mem_filter.1 hx
    obtain ⟨j, hj, e2⟩ := mem_at h2
    rw [← e2] at e h3
    have := same_id (cf_ok hg).1 hj hi e
    subst this
    rw [ha] at h3
    cases h3
theorem best_in {rs : List Kl} {r : Ru} (h : beB rs r = true) : decide (beZ rs r ∈ cfL rs r) = true := by
  obtain ⟨j, hj, e, -, ha, -⟩ := best_at h
  rw [e, has_id (be_ok h).1 hj, ha]
/-- No class that admits is narrower. -/
theorem width_le {rs : List Kl} {r : Ru} (hg : cfB rs r = true) {i : Nat} (hi : i < rs.length) (ha : admR (at_ rs i) r = true) : wdZ rs r ≤ (at_ rs i).hi - (at_ rs i).lo := by
  have hf : at_ rs i ∈ rs.filter (fun c => admR c r) := List.mem_filter.2 ⟨at_mem hi, ha⟩
  cases hm : mo (rs.filter (fun c => admR c r)) with
  | none => rw [mo_none.1 hm] at hf; cases hf
  | some m =>
    have hb : beB rs r = true := by unfold beB beO; rw [hg, hm]; rfl
    have hk := (mo_is _ _ m rfl hm).2 _ hf
    unfold wdZ beO
    rw [hb, if_pos rfl, hm]
    show m.hi - m.lo ≤ _
    unfold keyK at hk
    split at hk <;> split at hk <;> omega
theorem wd_no {rs : List Kl} {r : Ru} (h : beB rs r = false) : wdZ rs r = 121 := by unfold wdZ; rw [h]; rfl
theorem wd_j (rs : List Kl) (r : Ru) : ∃ j : Nat, (beB rs r = true → j < rs.length ∧ beZ rs r = (at_ rs j).id ∧ wdZ rs r = (at_ rs j).hi - (at_ rs j).lo ∧ okK (at_ rs j) = true ∧ ∀ i, i < rs.length → (at_ rs i).id = (at_ rs j).id → i = j) ∧ (beB rs r = false → wdZ rs r = 121) := by
  cases h : beB rs r with
  | false => exact ⟨0, fun e => (Bool.noConfusion e), fun _ => wd_no h⟩
  | true =>
    obtain ⟨j, h1, h2, h3, -, h5⟩ := best_at h
    exact ⟨j, fun _ => ⟨h1, h2, h3, good_ok (cf_ok (be_ok h).1).1 h1, h5⟩, fun e => Bool.noConfusion e⟩
theorem da_of {rs : List Kl} {r : Ru} (hg : cfB rs r = true) {i : Nat} (hi : i < rs.length) : daB (at_ rs i) r = true ∧ daA (at_ rs i) r = admR (at_ rs i) r := by
  have hb : daB (at_ rs i) r = true := by unfold daB; rw [good_ok (cf_ok hg).1 hi, (cf_ok hg).2]; rfl
  exact ⟨hb, by unfold daA; rw [hb, Bool.true_and]⟩
end Go.Proofs.YtleoljnofdajfaaGreatDoor.ClsM

namespace Go.Proofs.YtleoljnofdajfaaGreatDoor.ClsW
open Go.RowKit Lb Bk IntS CodB KlI KaA KaD KaF KaJ Fmt KtT KpM ClsM
open KlK (at_ at_lt)
set_option linter.unusedSimpArgs false
set_option linter.unusedVariables false

section
variable {w wx w' W : World}
/-- What stands while the classes are looked at. -/
structure St (W : World) (fa : Option Addr) (fs : List Kl) (ub : Nat) (u : Ru) (za : Option Addr) (zs : List Int) (wr : World) : Prop where
  B : Below W.heap.size W wr
  F : KlK.Row wr fa fs
  U : Blk wr ub 35 #[.int .i64 u.id, .string u.nm, .string u.cl, .int .i64 u.bo, .bool u.wo, .int .i64 u.ca]
  Z : IRow wr za zs
theorem St.later {fa za : Option Addr} {fs : List Kl} {zs : List Int} {ub : Nat} {u : Ru} (h : St W fa fs ub u za zs w) (hb : Below w.heap.size w w') : St W fa fs ub u za zs w' :=
  ⟨h.B.trans (hb.mono h.B.size), KlK.Row.later h.F hb, h.U.later hb, RowAt.below h.Z hb⟩
theorem da_okc {c : Kl} {r : Ru} (h : daB c r = true) : okK c = true := by
  unfold daB at h
  rw [Bool.and_eq_true] at h
  exact h.1
end

set_option maxRecDepth 100000 in
set_option maxHeartbeats 8000000 in
theorem law_any (W : World) (hG : KpI.Gl W) (a : Option Addr) (n cap : Nat) (xs : Nat → Nat) (hc : Bytes W a n xs) :
    Calls Tryz.prog 3 #[.slice a n cap] W fun e w' => e = .returned (.bool true) ∧ Below W.heap.size W w' := by
  have HC := Lib.hid (fun w' (hb : Below W.heap.size W w') => hc.below hb)
  have HG := Lib.hid (fun w' (hb : Below W.heap.size W w') => KpI.Gl.below hG hb)
  have c1 := Lib.hid (ClsD.text_any a n cap xs W hc)
  clear hc hG
  by_cases hbig : 65536 < n
  · go_enter Tryz.func3, Tryz.ntmps3
    go_wp2
    go_ret
    exact ⟨rfl, Below.refl _ _⟩
  go_enter Tryz.func3, Tryz.ntmps3
  go_wp2_with (go_at_call 4; go_in)
  refine c1.out.mono ?_
  rintro e w1 ⟨⟨f, rfl, hf⟩, hb⟩
  have B := Lib.hid hb
  have HF := Lib.hid hf
  clear hb hf c1
  have hb := (Below.refl w1.heap.size w1).alloc (Nat.le_refl _) (.cells #[.int .i64 f.id, .string f.nm, .int .i64 f.lo, .int .i64 f.hi, .bool f.wo, .bool f.me, .int .i64 f.co, .int .i64 f.mo] 25)
  replace B := Lib.hid (B.out.trans (hb.mono B.out.size))
  have K3 := Lib.hid (Blk.new w1 25 #[.int .i64 f.id, .string f.nm, .int .i64 f.lo, .int .i64 f.hi, .bool f.wo, .bool f.me, .int .i64 f.co, .int .i64 f.mo])
  clear hb
  go_upto_region 4 with (fail)
  generalize w1.alloc (.cells #[.int .i64 f.id, .string f.nm, .int .i64 f.lo, .int .i64 f.hi, .bool f.wo, .bool f.me, .int .i64 f.co, .int .i64 f.mo] 25) = w2 at *
  obtain ⟨⟨p0, p1, p2, p3, p4, p5, p6, p7⟩, -⟩ := KlK.blk_cells K3.out
  go_wp2_with fail
  refine (KtQ.impl_any f HF.out _ (HG.out _ B.out).1.tab).mono ?_
  rintro e w3 ⟨rfl, hb⟩
  clear p0 p1 p2 p3 p4 p5 p6 p7
  replace B := Lib.hid (B.out.trans (hb.mono B.out.size))
  replace K3 := Lib.hid (K3.out.later hb)
  clear hb
  obtain ⟨⟨p0, p1, p2, p3, p4, p5, p6, p7⟩, -⟩ := KlK.blk_cells K3.out
  go_wp2_with fail
  refine (KtT.spec_any f HF.out _).mono ?_
  rintro e w4 ⟨rfl, hb⟩
  clear p0 p1 p2 p3 p4 p5 p6 p7
  replace B := Lib.hid (B.out.trans (hb.mono B.out.size))
  replace K3 := Lib.hid (K3.out.later hb)
  clear hb
  obtain ⟨⟨p0, p1, p2, p3, p4, p5, p6, p7⟩, -⟩ := KlK.blk_cells K3.out
  have hts := ClsM.ktx_size f
  have HT := Lib.hid (ClsM.back (c := f))
  obtain ⟨t, ht⟩ : ∃ t, ktx f = t := ⟨_, rfl⟩
  obtain ⟨k, hk⟩ : ∃ k, okK f = k := ⟨_, rfl⟩
  have HI := Lib.hid (fun w => hk ▸ KlI.impl_any f HF.out w)
  rw [ht] at hts HT
  rw [hk] at HT
  rw [ht, hk]
  clear ht hk
  go_wp2_with fail
  refine (HI.out _).mono ?_
  rintro e w5 ⟨rfl, hb⟩
  clear p0 p1 p2 p3 p4 p5 p6 p7
  replace B := Lib.hid (B.out.trans (hb.mono B.out.size))
  replace K3 := Lib.hid (K3.out.later hb)
  clear hb HI HF
  go_wp2_with fail
  refine (KpI.impl_any t (by omega) _ (HG.out _ B.out)).mono ?_
  rintro e w6 ⟨rfl, hb⟩
  replace B := Lib.hid (B.out.trans (hb.mono B.out.size))
  replace K3 := Lib.hid (K3.out.later hb)
  clear hb hts
  obtain ⟨r, hr⟩ : ∃ r, ansK t = r := ⟨_, rfl⟩
  obtain ⟨q, hq⟩ : ∃ q, okS t = q := ⟨_, rfl⟩
  rw [hr, hq] at HT
  rw [hr, hq]
  clear hr hq
  have hb := (Below.refl w6.heap.size w6).alloc (Nat.le_refl _) (.cells #[.int .i64 r.id, .string r.nm, .int .i64 r.lo, .int .i64 r.hi, .bool r.wo, .bool r.me, .int .i64 r.co, .int .i64 r.mo] 25)
  replace B := Lib.hid (B.out.trans (hb.mono B.out.size))
  replace K3 := Lib.hid (K3.out.later hb)
  have K8 := Lib.hid (Blk.new w6 25 #[.int .i64 r.id, .string r.nm, .int .i64 r.lo, .int .i64 r.hi, .bool r.wo, .bool r.me, .int .i64 r.co, .int .i64 r.mo])
  clear hb
  go_upto_region 9 with (fail)
  generalize w6.alloc (.cells #[.int .i64 r.id, .string r.nm, .int .i64 r.lo, .int .i64 r.hi, .bool r.wo, .bool r.me, .int .i64 r.co, .int .i64 r.mo] 25) = w7 at *
  go_cut [78] from 69 to 77 (fun v wx => v = .bool false ∧ Below W.heap.size W wx)
  case first =>
    cases k with
    | false =>
      go_wp2
      go_meet
      exact ⟨rfl, B.out⟩
    | true =>
      obtain ⟨h1, h2⟩ := HT.out rfl
      subst h1 h2
      obtain ⟨⟨p0, p1, p2, p3, p4, p5, p6, p7⟩, -⟩ := KlK.blk_cells K3.out
      obtain ⟨⟨q0, q1, q2, q3, q4, q5, q6, q7⟩, -⟩ := KlK.blk_cells K8.out
      go_wp2
      go_meet
      exact ⟨rfl, B.out⟩
  case rest =>
  obtain ⟨rfl, hB⟩ := hcut
  have B := Lib.hid hB
  clear hB K3 K8 HT
  go_wp2_with fail
  refine (ClsD.parse_any a n cap xs _ (HC.out _ B.out)).mono ?_
  rintro e w8 ⟨⟨s, rfl, hs⟩, hb⟩
  replace B := Lib.hid (B.out.trans (hb.mono B.out.size))
  clear hb
  obtain ⟨rp, hr⟩ : ∃ r, ansK s = r := ⟨_, rfl⟩
  obtain ⟨fp, hq⟩ : ∃ q, okS s = q := ⟨_, rfl⟩
  have HPI := Lib.hid (fun w h => hr ▸ hq ▸ KpI.impl_any s (by omega) w h)
  have HPS := Lib.hid (fun w => hr ▸ hq ▸ KpS.spec_any s (by omega) w)
  clear hr hq
  go_wp2_with fail
  refine (HPI.out _ (HG.out _ B.out)).mono ?_
  rintro e w9 ⟨rfl, hb⟩
  replace B := Lib.hid (B.out.trans (hb.mono B.out.size))
  clear hb HPI HG
  have hb := (Below.refl w9.heap.size w9).alloc (Nat.le_refl _) (.cells #[.int .i64 rp.id, .string rp.nm, .int .i64 rp.lo, .int .i64 rp.hi, .bool rp.wo, .bool rp.me, .int .i64 rp.co, .int .i64 rp.mo] 25)
  replace B := Lib.hid (B.out.trans (hb.mono B.out.size))
  have K11 := Lib.hid (Blk.new w9 25 #[.int .i64 rp.id, .string rp.nm, .int .i64 rp.lo, .int .i64 rp.hi, .bool rp.wo, .bool rp.me, .int .i64 rp.co, .int .i64 rp.mo])
  clear hb
  go_upto_region 13 with (fail)
  generalize w9.alloc (.cells #[.int .i64 rp.id, .string rp.nm, .int .i64 rp.lo, .int .i64 rp.hi, .bool rp.wo, .bool rp.me, .int .i64 rp.co, .int .i64 rp.mo] 25) = w10 at *
  go_wp2_with fail
  refine (HPS.out _).mono ?_
  rintro e w11 ⟨rfl, hb⟩
  replace B := Lib.hid (B.out.trans (hb.mono B.out.size))
  replace K11 := Lib.hid (K11.out.later hb)
  clear hb HPS
  have hb := (Below.refl w11.heap.size w11).alloc (Nat.le_refl _) (.cells #[.int .i64 rp.id, .string rp.nm, .int .i64 rp.lo, .int .i64 rp.hi, .bool rp.wo, .bool rp.me, .int .i64 rp.co, .int .i64 rp.mo] 25)
  replace B := Lib.hid (B.out.trans (hb.mono B.out.size))
  replace K11 := Lib.hid (K11.out.later hb)
  have K13 := Lib.hid (Blk.new w11 25 #[.int .i64 rp.id, .string rp.nm, .int .i64 rp.lo, .int .i64 rp.hi, .bool rp.wo, .bool rp.me, .int .i64 rp.co, .int .i64 rp.mo])
  clear hb
  go_upto_region 14 with (fail)
  generalize w11.alloc (.cells #[.int .i64 rp.id, .string rp.nm, .int .i64 rp.lo, .int .i64 rp.hi, .bool rp.wo, .bool rp.me, .int .i64 rp.co, .int .i64 rp.mo] 25) = w12 at *
  obtain ⟨⟨p0, p1, p2, p3, p4, p5, p6, p7⟩, -⟩ := KlK.blk_cells K11.out
  obtain ⟨⟨q0, q1, q2, q3, q4, q5, q6, q7⟩, -⟩ := KlK.blk_cells K13.out
  have hnq : (fp != fp) = false := by simp
  go_wp2_with fail
  refine (ClsD.best_any a n cap xs _ (HC.out _ B.out)).mono ?_
  rintro e w13 ⟨v, fs, u, rfl, hx, hl⟩
  clear p0 p1 p2 p3 p4 p5 p6 p7
  clear q0 q1 q2 q3 q4 q5 q6 q7
  clear K11 K13
  have hb := hl.B
  replace B := Lib.hid (B.out.trans (hb.mono B.out.size))
  clear hnq hb
  obtain ⟨a1, c1, rfl, hrow, -⟩ := KlK.Own.slice hl.own
  have R1 := Lib.hid hrow
  have RI := Lib.hid hl.is
  have RL := Lib.hid (KlK.Own.le hl.own)
  have HX := Lib.hid hx
  have h9 := hl.le
  clear hl hrow hx
  have hb := (Below.refl w13.heap.size w13).alloc (Nat.le_refl _) (.cells #[.int .i64 u.id, .string u.nm, .string u.cl, .int .i64 u.bo, .bool u.wo, .int .i64 u.ca] 35)
  replace B := Lib.hid (B.out.trans (hb.mono B.out.size))
  replace R1 := Lib.hid (KlK.Row.later R1.out hb)
  have K16 := Lib.hid (Blk.new w13 35 #[.int .i64 u.id, .string u.nm, .string u.cl, .int .i64 u.bo, .bool u.wo, .int .i64 u.ca])
  clear hb
  go_upto_region 17 with (fail)
  generalize w13.alloc (.cells #[.int .i64 u.id, .string u.nm, .string u.cl, .int .i64 u.bo, .bool u.wo, .int .i64 u.ca] 35) = w14 at *
  obtain ⟨⟨p0, p1, p2, p3, p4, p5⟩, -⟩ := RuK.blk_cells K16.out
  obtain ⟨best, hbe⟩ : ∃ z, beZ fs u = z := ⟨_, rfl⟩
  obtain ⟨told, hto⟩ : ∃ z, beB fs u = z := ⟨_, rfl⟩
  obtain ⟨zs, hzs⟩ : ∃ z, cfL fs u = z := ⟨_, rfl⟩
  obtain ⟨known, hkn⟩ : ∃ z, cfB fs u = z := ⟨_, rfl⟩
  obtain ⟨wd, hwd⟩ : ∃ z, wdZ fs u = z := ⟨_, rfl⟩
  have hzl := cf_len fs u
  have htl := told_len fs u
  obtain ⟨j, hj1, hj0⟩ := wd_j fs u
  have HBI := Lib.hid (best_in (rs := fs) (r := u))
  have HHI := Lib.hid (fun h (i : Nat) hi => has_id (rs := fs) (r := u) h (i := i) hi)
  have HWL := Lib.hid (fun h (i : Nat) hi ha => width_le (rs := fs) (r := u) h (i := i) hi ha)
  have HDA := Lib.hid (fun h (i : Nat) hi => da_of (rs := fs) (r := u) h (i := i) hi)
  have CI := Lib.hid (fun w hr => hbe ▸ hto ▸ KaJ.best_impl fs RI.out (by omega) u HX.out a1 c1 w RL.out hr)
  have CS := Lib.hid (fun w hr => hbe ▸ hto ▸ KaJ.best_spec fs RI.out (by omega) u HX.out a1 c1 w hr)
  have FI := Lib.hid (fun w hr => hzs ▸ hkn ▸ KaF.for_impl fs RI.out (by omega) u HX.out a1 c1 w RL.out hr)
  have FS := Lib.hid (fun w hr => hzs ▸ hkn ▸ KaH.for_spec fs RI.out (by omega) u HX.out a1 c1 w hr)
  unfold KaJ.ZPost at CI CS
  unfold KaF.NPost at FI FS
  rw [hzs] at hzl htl HBI HHI
  rw [hto] at htl HBI hj1 hj0
  rw [hbe] at HBI hj1
  rw [hwd] at HWL hj1 hj0
  rw [hkn] at HHI HWL HDA
  obtain ⟨zn, hzn⟩ : ∃ z, zs.length = z := ⟨_, rfl⟩
  have HZN := Lib.hid hzn
  rw [hzn] at hzl htl
  have HTL := Lib.hid htl.symm
  clear htl
  obtain ⟨ln, hln⟩ : ∃ z, fs.length = z := ⟨_, rfl⟩
  have HLN := Lib.hid hln
  rw [hln] at hzl h9 CI CS FI FS hj1 HHI HWL HDA
  rw [hln]
  have HJ1 := Lib.hid hj1
  have HJ0 := Lib.hid hj0
  clear hbe hto hzs hkn hwd hzn hln hj1 hj0 RL
  go_wp2_with fail
  refine (CI.out _ R1.out).mono ?_
  rintro e w15 ⟨rfl, hb⟩
  clear p0 p1 p2 p3 p4 p5
  replace B := Lib.hid (B.out.trans (hb.mono B.out.size))
  replace R1 := Lib.hid (KlK.Row.later R1.out hb)
  replace K16 := Lib.hid (K16.out.later hb)
  clear hb CI
  obtain ⟨⟨p0, p1, p2, p3, p4, p5⟩, -⟩ := RuK.blk_cells K16.out
  go_wp2_with fail
  refine (CS.out _ R1.out).mono ?_
  rintro e w16 ⟨rfl, hb⟩
  clear p0 p1 p2 p3 p4 p5
  replace B := Lib.hid (B.out.trans (hb.mono B.out.size))
  replace R1 := Lib.hid (KlK.Row.later R1.out hb)
  replace K16 := Lib.hid (K16.out.later hb)
  clear hb CS
  obtain ⟨⟨p0, p1, p2, p3, p4, p5⟩, -⟩ := RuK.blk_cells K16.out
  have hnt : (told != told) = false := by simp
  have hnb : (best != best) = false := by simp
  go_wp2_with fail
  refine (FI.out _ R1.out).mono ?_
  rintro e w17 ⟨v1, rfl, ho, hb⟩
  clear p0 p1 p2 p3 p4 p5
  replace B := Lib.hid (B.out.trans (hb.mono B.out.size))
  replace R1 := Lib.hid (KlK.Row.later R1.out hb)
  replace K16 := Lib.hid (K16.out.later hb)
  obtain ⟨za, zc, rfl, hr, -⟩ := IntK.Own.slice ho
  have Z1 := Lib.hid hr
  clear ho hr hb FI hnt hnb
  rw [HZN.out]
  obtain ⟨⟨p0, p1, p2, p3, p4, p5⟩, -⟩ := RuK.blk_cells K16.out
  go_wp2_with fail
  refine (FS.out _ R1.out).mono ?_
  rintro e w18 ⟨v2, rfl, ho, hb⟩
  clear p0 p1 p2 p3 p4 p5
  replace B := Lib.hid (B.out.trans (hb.mono B.out.size))
  replace R1 := Lib.hid (KlK.Row.later R1.out hb)
  replace K16 := Lib.hid (K16.out.later hb)
  replace Z1 := Lib.hid (RowAt.below Z1.out hb)
  obtain ⟨z2, k2, rfl, hr, -⟩ := IntK.Own.slice ho
  have Z2 := Lib.hid hr
  clear ho hr hb FS
  rw [HZN.out]
  go_upto_region 23 with (fail)
  go_cut [160] from 136 to 159 (fun v wx => v = .bool false ∧ St W a1 fs w13.heap.size u za zs wx)
  case first =>
    have hnk : (known != known) = false := by simp
    have hnt : (told != told) = false := by simp
    cases told with
    | false =>
      have hz0 := of_decide_eq_false HTL.out
      obtain rfl : zn = 0 := by omega
      clear hz0
      go_wp2_with fail
      refine (SamH.ints_same za z2 zc k2 0 zs _ HZN.out (TabH.int_row Z1.out) (TabH.int_row Z2.out) (by omega)).mono ?_
      rintro e w19 ⟨rfl, hb⟩
      replace B := Lib.hid (B.out.trans (hb.mono B.out.size))
      replace R1 := Lib.hid (KlK.Row.later R1.out hb)
      replace K16 := Lib.hid (K16.out.later hb)
      replace Z1 := Lib.hid (RowAt.below Z1.out hb)
      replace Z2 := Lib.hid (RowAt.below Z2.out hb)
      clear hb
      go_wp2
      go_meet
      exact ⟨rfl, B.out, R1.out, K16.out, Z1.out⟩
    | true =>
      have hz0 := of_decide_eq_true HTL.out
      have hz1 : 0 < zn := by omega
      go_wp2_with fail
      refine (SamH.ints_same za z2 zc k2 zn zs _ HZN.out (TabH.int_row Z1.out) (TabH.int_row Z2.out) (by omega)).mono ?_
      rintro e w20 ⟨rfl, hb⟩
      replace B := Lib.hid (B.out.trans (hb.mono B.out.size))
      replace R1 := Lib.hid (KlK.Row.later R1.out hb)
      replace K16 := Lib.hid (K16.out.later hb)
      replace Z1 := Lib.hid (RowAt.below Z1.out hb)
      replace Z2 := Lib.hid (RowAt.below Z2.out hb)
      clear hb
      go_wp2_with fail
      refine (RHas.rhas_any za zc zn zs best true _ HZN.out (HBI.out (by simp)) Z1.out (by omega)).mono ?_
      rintro e wh ⟨rfl, rfl⟩
      go_wp2
      go_meet
      exact ⟨rfl, B.out, R1.out, K16.out, Z1.out⟩
  case rest =>
  obtain ⟨rfl, hS⟩ := hcut
  have SS := Lib.hid hS
  clear hS B R1 K16 Z1 Z2 HTL HBI
  generalize wc = wz at *
  go_upto_block 0 with (fail)
  go_cut [25, 26] from 161 to 187 (fun wv _ wx => wv = .int .i64 wd ∧ St W a1 fs w13.heap.size u za zs wx)
  case first =>
    go_wp2_with fail
    go_loopw [25, 26] (fun wv i wr => ∃ k : Nat, k ≤ ln ∧ i = .int .i64 k ∧ wv = .int .i64 (if j < k then wd else 121) ∧ St W a1 fs w13.heap.size u za zs wr) (fun _ i _ => ln - (intOf i).toNat)
    case atStart => exact ⟨0, Nat.zero_le _, rfl, rfl, SS.out⟩
    case round =>
      clear SS
      obtain ⟨k, hk, rfl, rfl, hS⟩ := hrel
      have SS := Lib.hid hS
      clear hS
      by_cases hlt : k < ln
      · have hlt' : (k : Int) < (ln : Int) := by omega
        cases told with
        | false =>
          have e : (if j < k then wd else (121 : Int)) = wd := by
            rw [HJ0.out rfl]
            split <;> rfl
          rw [e]
          clear e
          go_wp2
          go_meet
          exact ⟨rfl, SS.out⟩
        | true =>
          obtain ⟨hj1, hj2, hj3, hj4, hj5⟩ := HJ1.out rfl
          obtain ⟨b1, off, rfl, c0, -, c2, c3, -⟩ := SS.out.F.cells (i := k) (by rw [HLN.out]; exact hlt)
          by_cases he : k = j
          · have hd : ((at_ fs k).id == best) = true := by rw [hj2, he]; simp
            have e : (if j < k then wd else (121 : Int)) = 121 := if_neg (by omega)
            have HE := Lib.hid (show (if j < k + 1 then wd else (121 : Int)) = (at_ fs k).hi - (at_ fs k).lo from by rw [if_pos (by omega), hj3, he])
            obtain ⟨ha1, ha2, ha3⟩ := ok_ages hj4
            rw [← he] at ha1 ha2 ha3
            rw [e]
            clear e hj1 hj2 hj3 hj4 hj5 he
            obtain ⟨c, hc⟩ : ∃ c, at_ fs k = c := ⟨_, rfl⟩
            rw [hc] at hd HE ha1 ha2 ha3 c0 c2 c3
            clear hc
            have hws : IntKind.i64.wrap (c.hi - c.lo) = c.hi - c.lo := IntWalk.i64_in _ (by omega)
            go_wp2
            go_quiet (fail)
            go_wp2
            go_roundw
            case rel => exact ⟨k + 1, by omega, by go_num, by rw [HE.out], SS.out.later (below_drewN (Below.refl _ _) _)⟩
            case measure => simp [intOf]; omega
          · have hd : ((at_ fs k).id == best) = false := by
              rw [hj2]
              simp only [beq_eq_false_iff_ne, ne_eq]
              exact fun e => he (hj5 k hlt e)
            have HE := Lib.hid (show (if j < k + 1 then wd else (121 : Int)) = if j < k then wd else 121 from by
              by_cases hjk : j < k
              · rw [if_pos hjk, if_pos (by omega)]
              · rw [if_neg hjk, if_neg (by omega)])
            clear hj1 hj2 hj3 hj4 hj5 he c2 c3
            obtain ⟨x, hx⟩ : ∃ x : Int, (if j < k then wd else 121) = x := ⟨_, rfl⟩
            rw [hx] at HE ⊢
            clear hx
            obtain ⟨c, hc⟩ : ∃ c, at_ fs k = c := ⟨_, rfl⟩
            rw [hc] at hd c0
            clear hc
            go_wp2
            go_roundw
            case rel => exact ⟨k + 1, by omega, by go_num, by rw [HE.out], SS.out⟩
            case measure => simp [intOf]; omega
      · obtain rfl : k = ln := by omega
        have e : (if j < k then wd else (121 : Int)) = wd := by
          cases told with
          | false =>
            rw [HJ0.out rfl]
            split <;> rfl
          | true => exact if_pos (HJ1.out rfl).1
        rw [e]
        clear e
        go_wp2
        go_meet
        exact ⟨rfl, SS.out⟩
  case rest =>
  obtain ⟨rfl, hS⟩ := hcut
  have SS := Lib.hid hS
  clear hS HJ0 HJ1
  generalize wc = wz at *
  go_upto_block 2 with (fail)
  go_cut [27, 28, 29] from 188 to 236 (fun _ _ _ wx => Below W.heap.size W wx)
  case first =>
    go_wp2_with fail
    go_loopw [27] (fun i wr => ∃ k : Nat, k ≤ ln ∧ i = .int .i64 k ∧ St W a1 fs w13.heap.size u za zs wr) (fun i _ => ln - (intOf i).toNat)
    case atStart => exact ⟨0, Nat.zero_le _, rfl, SS.out⟩
    case round =>
      clear SS
      obtain ⟨k, hk, rfl, hS⟩ := hrel
      have SS := Lib.hid hS
      clear hS
      by_cases hlt : k < ln
      · have hlt' : (k : Int) < (ln : Int) := by omega
        cases known with
        | false =>
          go_wp2
          go_meet
          exact SS.out.B
        | true =>
          obtain ⟨hB, hA⟩ := HDA.out rfl k hlt
          have hid := HHI.out rfl k hlt
          have hwl := HWL.out rfl k hlt
          have hci := RI.out k (by rw [HLN.out]; exact hlt)
          obtain ⟨b1, off, rfl, c0, c1, c2, c3, c4, c5, c6, c7⟩ := SS.out.F.cells (i := k) (by rw [HLN.out]; exact hlt)
          obtain ⟨c, hc⟩ : ∃ c, at_ fs k = c := ⟨_, rfl⟩
          have HC3 := Lib.hid hc
          rw [hc] at hB hA hid hwl hci c0 c1 c2 c3 c4 c5 c6 c7
          obtain ⟨ad, had⟩ : ∃ x, admR c u = x := ⟨_, rfl⟩
          rw [had] at hA hid hwl
          have CD := Lib.hid (show ∀ w, Calls Tryz.prog 19 #[.agg #[.int .i64 c.id, .string c.nm, .int .i64 c.lo, .int .i64 c.hi, .bool c.wo, .bool c.me, .int .i64 c.co, .int .i64 c.mo], .agg #[.int .i64 u.id, .string u.nm, .string u.cl, .int .i64 u.bo, .bool u.wo, .int .i64 u.ca]] w (KaD.DPost w ad true) from fun w => by have h := KaD.does_impl c hci u HX.out w; rw [hA, hB] at h; exact h)
          obtain ⟨ha1, ha2, ha3⟩ := ok_ages (da_okc hB)
          have HID := Lib.hid hid
          have HWc := Lib.hid hwl
          clear hc had hB hA hid hwl hci
          obtain ⟨⟨r0, r1, r2, r3, r4, r5⟩, -⟩ := RuK.blk_cells SS.out.U
          go_wp2_with fail
          go_upto_region 34 with (fail)
          replace SS := Lib.hid (SS.out.later (Below.refl _ _).drew)
          refine wp_region_noPanic ?_
          refine wp_region_held_drew (S := (fun Wx : World => Wx.cell? ⟨b1, off + k * 8, none⟩ = some (.int .i64 c.id) ∧ Wx.cell? ⟨b1, off + k * 8 + 1, none⟩ = some (.string c.nm) ∧ Wx.cell? ⟨b1, off + k * 8 + 2, none⟩ = some (.int .i64 c.lo) ∧ Wx.cell? ⟨b1, off + k * 8 + 3, none⟩ = some (.int .i64 c.hi) ∧ Wx.cell? ⟨b1, off + k * 8 + 4, none⟩ = some (.bool c.wo) ∧ Wx.cell? ⟨b1, off + k * 8 + 5, none⟩ = some (.bool c.me) ∧ Wx.cell? ⟨b1, off + k * 8 + 6, none⟩ = some (.int .i64 c.co) ∧ Wx.cell? ⟨b1, off + k * 8 + 7, none⟩ = some (.int .i64 c.mo) ∧ Wx.cell? ⟨w13.heap.size, 0, none⟩ = some (.int .i64 u.id) ∧ Wx.cell? ⟨w13.heap.size, 1, none⟩ = some (.string u.nm) ∧ Wx.cell? ⟨w13.heap.size, 2, none⟩ = some (.string u.cl) ∧ Wx.cell? ⟨w13.heap.size, 3, none⟩ = some (.int .i64 u.bo) ∧ Wx.cell? ⟨w13.heap.size, 4, none⟩ = some (.bool u.wo) ∧ Wx.cell? ⟨w13.heap.size, 5, none⟩ = some (.int .i64 u.ca))) (by kernel_rfl) ⟨c0, c1, c2, c3, c4, c5, c6, c7, r0, r1, r2, r3, r4, r5⟩ (fun hHeld => ?_)
          refine wpAnyH_take (i := 0) (oi := _) (v := ?_) rfl (by kernel_rfl) (by kernel_rfl) (by kernel_rfl) (fun _ _ _ h => h) (Or.inl ⟨by rfl, ?_⟩) (by assumption) ?_; rotate_left; focus (intro W hSw; (try dsimp only at hSw); go_simp; (first | done | with_reducible rfl))
          (try simp only [List.getElem_toArray, List.getElem_cons_succ, List.getElem_cons_zero, Act.put, List.setIfInBounds_toArray, List.set_cons_zero, List.set_cons_succ])
          refine wpAnyH_take (i := 1) (oi := _) (v := ?_) rfl (by kernel_rfl) (by kernel_rfl) (by kernel_rfl) (fun _ _ _ h => h) (Or.inl ⟨by rfl, ?_⟩) (by assumption) ?_; rotate_left; focus (intro W hSw; (try dsimp only at hSw); go_simp; (first | done | with_reducible rfl))
          (try simp only [List.getElem_toArray, List.getElem_cons_succ, List.getElem_cons_zero, Act.put, List.setIfInBounds_toArray, List.set_cons_zero, List.set_cons_succ])
          refine wpAnyH_take (i := 2) (oi := _) (v := ?_) rfl (by kernel_rfl) (by kernel_rfl) (by kernel_rfl) (fun _ _ _ h => h) (Or.inl ⟨by rfl, ?_⟩) (by assumption) ?_; rotate_left; focus (intro W hSw; (try dsimp only at hSw); go_simp; (first | done | with_reducible rfl))
          (try simp only [List.getElem_toArray, List.getElem_cons_succ, List.getElem_cons_zero, Act.put, List.setIfInBounds_toArray, List.set_cons_zero, List.set_cons_succ])
          refine wpAnyH_take (i := 3) (oi := _) (v := ?_) rfl (by kernel_rfl) (by kernel_rfl) (by kernel_rfl) (fun _ _ _ h => h) (Or.inl ⟨by rfl, ?_⟩) (by assumption) ?_; rotate_left; focus (intro W hSw; (try dsimp only at hSw); go_simp; (first | done | with_reducible rfl))
          (try simp only [List.getElem_toArray, List.getElem_cons_succ, List.getElem_cons_zero, Act.put, List.setIfInBounds_toArray, List.set_cons_zero, List.set_cons_succ])
          refine wpAnyH_take (i := 4) (oi := _) (v := ?_) rfl (by kernel_rfl) (by kernel_rfl) (by kernel_rfl) (fun _ _ _ h => h) (Or.inl ⟨by rfl, ?_⟩) (by assumption) ?_; rotate_left; focus (intro W hSw; (try dsimp only at hSw); go_simp; (first | done | with_reducible rfl))
          (try simp only [List.getElem_toArray, List.getElem_cons_succ, List.getElem_cons_zero, Act.put, List.setIfInBounds_toArray, List.set_cons_zero, List.set_cons_succ])
          refine wpAnyH_ready (rs := [5]) (by kernel_rfl) (by simp) ?_
          refine AllReadyH.cons (o := _) rfl (fun K hK => ?_) AllReadyH.nil
          go_simp
          go_at_call 19
          refine (CD.out _).mono ?_
          rintro e wy ⟨rfl, hb⟩
          replace SS := Lib.hid (SS.out.later hb)
          clear hb c0 c1 c2 c3 c4 c5 c6 c7 r0 r1 r2 r3 r4 r5
          obtain ⟨b2, of2, he, c0, c1, c2, c3, c4, c5, c6, c7⟩ := SS.out.F.cells (i := k) (by rw [HLN.out]; exact hlt)
          cases he
          rw [HC3.out] at c0 c1 c2 c3 c4 c5 c6 c7
          obtain ⟨⟨r0, r1, r2, r3, r4, r5⟩, -⟩ := RuK.blk_cells SS.out.U
          go_wp2_with fail
          refine hK.out _ _ ⟨c0, c1, c2, c3, c4, c5, c6, c7, r0, r1, r2, r3, r4, r5⟩ (fun hsA => ?_)
          clear hK K hHeld
          refine wpAnyH_take (i := 6) (oi := _) (v := ?_) rfl (by kernel_rfl) (by kernel_rfl) (by kernel_rfl) (fun _ _ _ h => h) (Or.inl ⟨by rfl, ?_⟩) (by assumption) ?_; rotate_left; focus (intro W hSw; (try dsimp only at hSw); go_simp; (first | done | with_reducible rfl))
          (try simp only [List.getElem_toArray, List.getElem_cons_succ, List.getElem_cons_zero, Act.put, List.setIfInBounds_toArray, List.set_cons_zero, List.set_cons_succ])
          refine wpAnyH_take (i := 7) (oi := _) (v := ?_) rfl (by kernel_rfl) (by kernel_rfl) (by kernel_rfl) (fun _ _ _ h => h) (Or.inl ⟨by rfl, ?_⟩) (by assumption) ?_; rotate_left; focus (intro W hSw; (try dsimp only at hSw); go_simp; (first | done | with_reducible rfl))
          (try simp only [List.getElem_toArray, List.getElem_cons_succ, List.getElem_cons_zero, Act.put, List.setIfInBounds_toArray, List.set_cons_zero, List.set_cons_succ])
          refine wpAnyH_take (i := 8) (oi := _) (v := ?_) rfl (by kernel_rfl) (by kernel_rfl) (by kernel_rfl) (fun _ _ _ h => h) (Or.inl ⟨by rfl, ?_⟩) (by assumption) ?_; rotate_left; focus (intro W hSw; (try dsimp only at hSw); go_simp; (first | done | with_reducible rfl))
          (try simp only [List.getElem_toArray, List.getElem_cons_succ, List.getElem_cons_zero, Act.put, List.setIfInBounds_toArray, List.set_cons_zero, List.set_cons_succ])
          refine wpAnyH_take (i := 9) (oi := _) (v := ?_) rfl (by kernel_rfl) (by kernel_rfl) (by kernel_rfl) (fun _ _ _ h => h) (Or.inl ⟨by rfl, ?_⟩) (by assumption) ?_; rotate_left; focus (intro W hSw; (try dsimp only at hSw); go_simp; (first | done | with_reducible rfl))
          (try simp only [List.getElem_toArray, List.getElem_cons_succ, List.getElem_cons_zero, Act.put, List.setIfInBounds_toArray, List.set_cons_zero, List.set_cons_succ])
          refine wpAnyH_take (i := 10) (oi := _) (v := ?_) rfl (by kernel_rfl) (by kernel_rfl) (by kernel_rfl) (fun _ _ _ h => h) (Or.inl ⟨by rfl, ?_⟩) (by assumption) ?_; rotate_left; focus (intro W hSw; (try dsimp only at hSw); go_simp; (first | done | with_reducible rfl))
          (try simp only [List.getElem_toArray, List.getElem_cons_succ, List.getElem_cons_zero, Act.put, List.setIfInBounds_toArray, List.set_cons_zero, List.set_cons_succ])
          refine wpAnyH_done (by kernel_rfl) ?_ _
          refine NoPanic.normal ?_
          (try simp only [List.getElem_toArray, List.getElem_cons_succ, List.getElem_cons_zero, Act.put, List.setIfInBounds_toArray, List.set_cons_zero, List.set_cons_succ])
          clear hsA CD c1 c4 c5 c6 c7 r0 r1 r2 r3 r4 r5
          have CH := Lib.hid (fun m => RHas.rhas_any za zc zn zs c.id ad (wy.drewN m) HZN.out HID.out (show IRow (wy.drewN m) za zs from SS.out.Z) (by omega))
          have hna : (ad != ad) = false := by simp
          have hws : IntKind.i64.wrap (c.hi - c.lo) = c.hi - c.lo := IntWalk.i64_in _ (by omega)
          cases ad with
          | false =>
            clear c2 c3 hws HWc
            go_wp2
            go_quiet ((go_at_call 18; exact Calls.quiet_of_same (CH.out _)))
            go_wp2
            go_roundw
            case rel => exact ⟨k + 1, by omega, by go_num, SS.out.later (below_drewN (Below.refl _ _) _)⟩
            case measure => simp [intOf]; omega
          | true =>
            have hl2 : decide (c.hi - c.lo < wd) = false := decide_eq_false (by have := HWc.out rfl; omega)
            clear HWc
            go_wp2
            go_quiet ((go_at_call 18; exact Calls.quiet_of_same (CH.out _)))
            go_wp2
            go_roundw
            case rel => exact ⟨k + 1, by omega, by go_num, SS.out.later (below_drewN (Below.refl _ _) _)⟩
            case measure => simp [intOf]; omega
      · obtain rfl : k = ln := by omega
        go_wp2
        go_meet
        exact SS.out.B
  case rest =>
  have B := Lib.hid hcut
  clear hcut SS HDA HHI HWL RI HX HZN HLN
  generalize wc = wz at *
  go_wp2_with fail
  refine (ClsD.does_any a n cap xs _ (HC.out _ B.out)).mono ?_
  rintro e w21 ⟨y, z, rfl, hy, hz, hb⟩
  replace B := Lib.hid (B.out.trans (hb.mono B.out.size))
  have HY := Lib.hid hy
  have HZ := Lib.hid hz
  clear hb hy hz HC
  obtain ⟨ad, had⟩ : ∃ x, KaD.daA y z = x := ⟨_, rfl⟩
  obtain ⟨ab, hab⟩ : ∃ x, KaD.daB y z = x := ⟨_, rfl⟩
  have CI := Lib.hid (fun w => had ▸ hab ▸ KaD.does_impl y HY.out z HZ.out w)
  have CS := Lib.hid (fun w => had ▸ hab ▸ KaD.does_spec y HY.out z HZ.out w)
  unfold KaD.DPost at CI CS
  clear had hab
  have hb := (Below.refl w21.heap.size w21).alloc (Nat.le_refl _) (.cells #[.int .i64 y.id, .string y.nm, .int .i64 y.lo, .int .i64 y.hi, .bool y.wo, .bool y.me, .int .i64 y.co, .int .i64 y.mo] 25)
  replace B := Lib.hid (B.out.trans (hb.mono B.out.size))
  have K30 := Lib.hid (Blk.new w21 25 #[.int .i64 y.id, .string y.nm, .int .i64 y.lo, .int .i64 y.hi, .bool y.wo, .bool y.me, .int .i64 y.co, .int .i64 y.mo])
  clear hb
  have hb := (Below.refl (w21.alloc (.cells #[.int .i64 y.id, .string y.nm, .int .i64 y.lo, .int .i64 y.hi, .bool y.wo, .bool y.me, .int .i64 y.co, .int .i64 y.mo] 25)).heap.size (w21.alloc (.cells #[.int .i64 y.id, .string y.nm, .int .i64 y.lo, .int .i64 y.hi, .bool y.wo, .bool y.me, .int .i64 y.co, .int .i64 y.mo] 25))).alloc (Nat.le_refl _) (.cells #[.int .i64 z.id, .string z.nm, .string z.cl, .int .i64 z.bo, .bool z.wo, .int .i64 z.ca] 35)
  replace B := Lib.hid (B.out.trans (hb.mono B.out.size))
  replace K30 := Lib.hid (K30.out.later hb)
  have hk31 := Blk.new (w21.alloc (.cells #[.int .i64 y.id, .string y.nm, .int .i64 y.lo, .int .i64 y.hi, .bool y.wo, .bool y.me, .int .i64 y.co, .int .i64 y.mo] 25)) 35 #[.int .i64 z.id, .string z.nm, .string z.cl, .int .i64 z.bo, .bool z.wo, .int .i64 z.ca]
  rw [World.size_alloc] at hk31
  have K31 := Lib.hid hk31
  clear hb hk31
  go_upto_region 38 with (fail)
  generalize (w21.alloc (.cells #[.int .i64 y.id, .string y.nm, .int .i64 y.lo, .int .i64 y.hi, .bool y.wo, .bool y.me, .int .i64 y.co, .int .i64 y.mo] 25)).alloc (.cells #[.int .i64 z.id, .string z.nm, .string z.cl, .int .i64 z.bo, .bool z.wo, .int .i64 z.ca] 35) = w22 at *
  obtain ⟨⟨p0, p1, p2, p3, p4, p5, p6, p7⟩, -⟩ := KlK.blk_cells K30.out
  obtain ⟨⟨q0, q1, q2, q3, q4, q5⟩, -⟩ := RuK.blk_cells K31.out
  go_wp2_with fail
  refine (CI.out _).mono ?_
  rintro e w23 ⟨rfl, hb⟩
  clear p0 p1 p2 p3 p4 p5 p6 p7
  clear q0 q1 q2 q3 q4 q5
  replace B := Lib.hid (B.out.trans (hb.mono B.out.size))
  replace K30 := Lib.hid (K30.out.later hb)
  replace K31 := Lib.hid (K31.out.later hb)
  clear hb CI
  obtain ⟨⟨p0, p1, p2, p3, p4, p5, p6, p7⟩, -⟩ := KlK.blk_cells K30.out
  obtain ⟨⟨q0, q1, q2, q3, q4, q5⟩, -⟩ := RuK.blk_cells K31.out
  go_wp2_with fail
  refine (CS.out _).mono ?_
  rintro e w24 ⟨rfl, hb⟩
  clear p0 p1 p2 p3 p4 p5 p6 p7
  clear q0 q1 q2 q3 q4 q5
  replace B := Lib.hid (B.out.trans (hb.mono B.out.size))
  replace K30 := Lib.hid (K30.out.later hb)
  replace K31 := Lib.hid (K31.out.later hb)
  clear hb CS
  have h1 : (ad == ad) = true := by simp
  have h2 : (ab == ab) = true := by simp
  go_wp2
  go_ret
  exact ⟨rfl, B.out⟩

end Go.Proofs.YtleoljnofdajfaaGreatDoor.ClsW
