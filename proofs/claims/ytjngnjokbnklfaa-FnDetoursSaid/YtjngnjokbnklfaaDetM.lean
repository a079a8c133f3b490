/- What the law of detours asks beside equal answers: mathematics. -/
import Derived.Test.YtjngnjokbnklfaaCrI
import Derived.Test.YtjngnjokbnklfaaDtB
import Derived.Test.YtjngnjokbnklfaaWinI
import Derived.Test.YtjngnjokbnklfaaFarI
namespace Go.Proofs.Ytjngnjokbnklfaa.DetM
open Go.RowKit Lb IntS MapS MapV High Cells StepT StpF SpecB DjkB OpnI TmsI LtI FarI WinI CrI
set_option linter.unusedSimpArgs false
set_option linter.unusedVariables false

theorem lt_parts {m : Mp} {T : Nat → Nat → Int} {p q : Int} (h : ltB m T p q = true) : m.ok ∧ opB m p = true ∧ opB m q = true ∧ 0 ≤ T q.toNat p.toNat := by
  unfold ltB at h
  rw [Bool.and_eq_true, decide_eq_true_iff] at h
  obtain ⟨h1, h2, h3⟩ := askB_of h.1
  exact ⟨h1, h2, h3, h.2⟩

theorem dt_nn {m : Mp} {T : Nat → Nat → Int} (hT : TT m T) (p r q : Int) : 0 ≤ dtN m T p r q := by
  cases h : dtB m T p r q with
  | false => rw [dt_false h]; exact Int.le_refl _
  | true =>
    have h' := h
    unfold dtB at h
    rw [Bool.and_eq_true, Bool.and_eq_true] at h
    obtain ⟨h1, h2, h3⟩ := h
    obtain ⟨ok, o1, o2, t1⟩ := lt_parts h1
    obtain ⟨_, _, o3, t2⟩ := lt_parts h2
    obtain ⟨ww, hh, g⟩ := good_of ok
    obtain ⟨i, rfl, hi⟩ := opB_of g o1
    obtain ⟨j, rfl, hj⟩ := opB_of g o2
    obtain ⟨k, rfl, hk⟩ := opB_of g o3
    rw [Int.toNat_natCast, Int.toNat_natCast] at t1 t2
    rw [(dt_yes g hT hi hj hk t1 t2).2]
    have := (tt_trans g hT hj hk t1 t2).2
    omega

theorem crossed {m : Mp} {T : Nat → Nat → Int} {p r q : Int} (h : dtB m T p r q = true) : crK m T p q r = true ∧ crB m T p q r = (dtN m T p r q == 0) := by
  have h' := h
  unfold dtB at h'
  rw [Bool.and_eq_true, Bool.and_eq_true] at h'
  obtain ⟨h1, h2, h3⟩ := h'
  have hk : crK m T p q r = true := by
    unfold crK
    rw [h3, (lt_parts h2).2.1]
    rfl
  refine ⟨hk, ?_⟩
  unfold crB
  rw [hk, h]
  rfl

theorem mem_ints {l : List Nat} {z : Int} : z ∈ ints l ↔ ∃ c : Nat, c ∈ l ∧ z = (c : Int) := by
  unfold ints
  rw [List.mem_map]
  exact ⟨fun ⟨c, h, e⟩ => ⟨c, h, e.symm⟩, fun ⟨c, h, e⟩ => ⟨c, h, e.symm⟩⟩

/-- The cells within a time. -/
theorem within_more {F : Nat → Int} {t : Int} {n : Nat} : ∀ z, z ∈ ints (wl F t n) → z ∈ ints (wl F (t + 1) n) := by
  intro z hz
  obtain ⟨c, h, e⟩ := mem_ints.1 hz
  obtain ⟨h1, h2, h3⟩ := mem_wl.1 h
  exact mem_ints.2 ⟨c, mem_wl.2 ⟨h1, h2, by omega⟩, e⟩
theorem within_start {F : Nat → Int} {t : Int} {n i : Nat} (hi : i < n) (h0 : F i = 0) (ht : 0 ≤ t) : ((i : Nat) : Int) ∈ ints (wl F t n) :=
  mem_ints.2 ⟨i, mem_wl.2 ⟨hi, by omega, by omega⟩, rfl⟩
theorem within_far {F : Nat → Int} {t : Int} {n i : Nat} (hi : i < n) (h0 : F i = 0) : decide ((((farK F n).1 : Nat) : Int) ∈ ints (wl F t n)) = decide ((farK F n).2 ≤ t) := by
  have hm := far_max (F := F) hi
  have hf := far_at (F := F) (k := n) (by omega)
  apply decide_eq_decide.2
  constructor
  · intro h
    obtain ⟨c, hc, e⟩ := mem_ints.1 h
    have := mem_wl.1 hc
    have e' : (farK F n).1 = c := by omega
    rw [e'] at hf
    omega
  · intro h
    exact mem_ints.2 ⟨_, mem_wl.2 ⟨hf.1, by omega, by omega⟩, rfl⟩

/-- One answer for the texts of DetourTime and of CrossedBy. -/
theorem det_both (m : Mp) (p r q : Int) (hR : m.R.length ≤ maxLen) (hC : m.C.length ≤ maxLen) : ∃ (n : Int) (ok x k : Bool), 0 ≤ n ∧ (ok = true → k = true ∧ x = (n == 0)) ∧
    (∀ a b ca cb w, IRow w a m.R → IRow w b m.C → Calls Try.prog 28 #[.agg #[.int .i64 m.W, .int .i64 m.H, .slice a m.R.length ca, .slice b m.C.length cb], .int .i64 p, .int .i64 r, .int .i64 q] w (LPost w n ok)) ∧
    (∀ a b ca cb w, IRow w a m.R → IRow w b m.C → Calls Try.prog 29 #[.agg #[.int .i64 m.W, .int .i64 m.H, .slice a m.R.length ca, .slice b m.C.length cb], .int .i64 p, .int .i64 r, .int .i64 q] w (LPost w n ok)) ∧
    (∀ a b ca cb w, IRow w a m.R → IRow w b m.C → Calls Try.prog 19 #[.agg #[.int .i64 m.W, .int .i64 m.H, .slice a m.R.length ca, .slice b m.C.length cb], .int .i64 p, .int .i64 q, .int .i64 r] w (CrI.CPost w x k)) ∧
    (∀ a b ca cb w, IRow w a m.R → IRow w b m.C → Calls Try.prog 30 #[.agg #[.int .i64 m.W, .int .i64 m.H, .slice a m.R.length ca, .slice b m.C.length cb], .int .i64 p, .int .i64 q, .int .i64 r] w (CrI.CPost w x k)) := by
  obtain ⟨T, hT⟩ := tt_ex m
  exact ⟨_, _, _, _, dt_nn hT p r q, fun h => crossed h, fun a b ca cb w hr hc => DtI.impl_any m T hT p r q a b ca cb w hR hC hr hc, fun a b ca cb w hr hc => DtB.spec_any m T hT p r q a b ca cb w hR hC hr hc, fun a b ca cb w hr hc => CrI.impl_any m T hT p q r a b ca cb w hR hC hr hc, fun a b ca cb w hr hc => CrI.spec_any m T hT p q r a b ca cb w hR hC hr hc⟩

/-- One answer for both texts of CellsWithin; where they answer, those of the next time and of FarthestCell. -/
theorem win_both (m : Mp) (p t : Int) (hR : m.R.length ≤ maxLen) (hC : m.C.length ≤ maxLen) : ∃ (zs : List Int) (ok : Bool), zs.length ≤ 36 ∧
    (∀ a b ca cb w, IRow w a m.R → IRow w b m.C → Calls Try.prog 32 #[.agg #[.int .i64 m.W, .int .i64 m.H, .slice a m.R.length ca, .slice b m.C.length cb], .int .i64 p, .int .i64 t] w (Cells.NPost w zs ok)) ∧
    (∀ a b ca cb w, IRow w a m.R → IRow w b m.C → Calls Try.prog 33 #[.agg #[.int .i64 m.W, .int .i64 m.H, .slice a m.R.length ca, .slice b m.C.length cb], .int .i64 p, .int .i64 t] w (Cells.NPost w zs ok)) ∧
    (ok = true → ∃ (ys : List Int) (c f : Int), ys.length ≤ 36 ∧
      (∀ a b ca cb w, IRow w a m.R → IRow w b m.C → Calls Try.prog 32 #[.agg #[.int .i64 m.W, .int .i64 m.H, .slice a m.R.length ca, .slice b m.C.length cb], .int .i64 p, .int .i64 (t + 1)] w (Cells.NPost w ys true)) ∧
      (∀ a b ca cb w, IRow w a m.R → IRow w b m.C → Calls Try.prog 34 #[.agg #[.int .i64 m.W, .int .i64 m.H, .slice a m.R.length ca, .slice b m.C.length cb], .int .i64 p] w (FPost w c f true)) ∧
      (∀ z, z ∈ zs → z ∈ ys) ∧ p ∈ zs ∧ decide (c ∈ zs) = decide (f ≤ t)) := by
  obtain ⟨T, hT⟩ := tt_ex m
  obtain ⟨zs, ok, hz, hok, -, hy, hS, hI⟩ := WinI.both m T hT p t
  refine ⟨zs, ok, hz, fun a b ca cb w hr hc => hI a b ca cb w hR hC hr hc, fun a b ca cb w hr hc => hS a b ca cb w hR hC hr hc, ?_⟩
  intro h
  obtain ⟨ww, hh, i, F, g, hp, ho, hF, hzs⟩ := hy h
  rw [h] at hok
  have hok' := hok.symm
  rw [Bool.and_eq_true, decide_eq_true_iff] at hok'
  obtain ⟨ha, ht⟩ := hok'
  obtain ⟨ys, ok2, hy2, hok2, -, hyy, -, hI2⟩ := WinI.both m T hT p (t + 1)
  have e2 : ok2 = true := by rw [hok2, ha, decide_eq_true (by omega)]; rfl
  subst e2
  obtain ⟨ww2, hh2, i2, F2, g2, hp2, ho2, hF2, hys⟩ := hyy rfl
  obtain ⟨c, f, ok3, hok3, hff, -, hI3⟩ := FarI.both m T hT p
  have e3 : ok3 = true := by rw [hok3, ha]
  subst e3
  obtain ⟨ww3, hh3, i3, F3, g3, hp3, ho3, hF3, hc, hf⟩ := hff rfl
  have q2 : i2 = i := by omega
  have q3 : i3 = i := by omega
  subst q2
  subst q3
  have n2 : ww2 * hh2 = ww * hh := by rw [← g2.C, ← g.C]
  have n3 : ww3 * hh3 = ww * hh := by rw [← g3.C, ← g.C]
  have u2 : F2 = F := IsD.unique hF2 hF
  have u3 : F3 = F := IsD.unique hF3 hF
  have h0 : F i3 = 0 := IsD.self g ho (wts_from g) hF
  refine ⟨ys, c, f, hy2, fun a b ca cb w hr hc => hI2 a b ca cb w hR hC hr hc, fun a b ca cb w hr hc => hI3 a b ca cb w hR hC hr hc, ?_, ?_, ?_⟩
  · rw [hzs, hys, n2, u2]
    exact within_more
  · rw [hp, hzs]
    exact within_start ho.1 h0 ht
  · rw [hc, hf, hzs, n3, u3]
    exact within_far ho.1 h0

end Go.Proofs.Ytjngnjokbnklfaa.DetM
