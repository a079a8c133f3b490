/- How many features have each family: the model. -/
import Derived.Test.YtpfjdlaaakkimaaDoorSpO
import Derived.Test.YtpfjdlaaakkimaaDoorCntI
namespace Go.Proofs.YtpfjdlaaakkimaaDoor.CntS
open Go.RowKit Lb Bk FtS FtL CntI SpF
set_option linter.unusedSimpArgs false
set_option linter.unusedVariables false

set_option maxRecDepth 20000 in
set_option maxHeartbeats 2000000 in
theorem spec_long (a : Option Addr) (cap n : Nat) (w : World) (hn : 20 < n) (hl : n ≤ 1048576) :
    Calls Tryd.prog 26 #[.slice a n cap] w (CPost w [] false) := by
  have hmk := make_five w
  have hB := Lib.hid ((Below.refl w.heap.size w).alloc (Nat.le_refl _) (.cells (madeCells #[.int .i64 0] 5) 3))
  go_enter Tryd.func26, Tryd.ntmps26
  go_wp2
  go_ret2
  have h9 := none_own (w.alloc (.cells (madeCells #[.int .i64 0] 5) 3)) w.heap.size hB.out.size
  simp only [World.size_alloc] at h9
  exact ⟨_, rfl, h9, hB.out.alloc hB.out.size _⟩

set_option maxRecDepth 20000 in
set_option maxHeartbeats 4000000 in
theorem spec_loop (a : Option Addr) (cap n m : Nat) (h : Nat → Ft) (w : World) (hr : FRow w a n h) (hn : n ≤ 20) (hm : m ≤ n) (hok : ∀ i, i < m → okF (h i) = true) (hbad : m < n → okF (h m) = false) (zs : List Int) (ok : Bool) (hz1 : m < n → zs = [] ∧ ok = false) (hz2 : m = n → zs = [(cnt h n 0 : Int), cnt h n 1, cnt h n 2, cnt h n 3, cnt h n 4] ∧ ok = true) :
    Calls Tryd.prog 26 #[.slice a n cap] w (CPost w zs ok) := by
  have HZ1 := Lib.hid hz1
  have HZ2 := Lib.hid hz2
  have H := Lib.hid hr
  have HO := Lib.hid hok
  have HM := Lib.hid hbad
  clear hr hok hbad hz1 hz2
  have hmk := make_five w
  obtain ⟨g, hg⟩ : ∃ g, w.heap.size = g := ⟨_, rfl⟩
  have HC := Lib.hid (show Cst w (w.alloc (.cells (madeCells #[.int .i64 0] 5) 3)) g h 0 from by subst hg; exact ⟨(Below.refl _ _).alloc (Nat.le_refl _) _, made_z w⟩)
  have hgw : w.heap.size ≤ g := by omega
  go_enter Tryd.func26, Tryd.ntmps26
  go_wp2
  clear hmk hg
  go_loopw [5, 6] (fun i _ wr => ∃ k : Nat, k ≤ m ∧ i = .int .i64 k ∧ Cst w wr g h k) (fun i _ _ => n - (intOf i).toNat)
  case atStart => exact ⟨0, Nat.zero_le _, rfl, HC.out⟩
  case round =>
    obtain ⟨k, hk, rfl, hc⟩ := hrel
    have HCr := Lib.hid hc
    clear hc HC
    by_cases hlt : k < n
    · obtain ⟨b, off, rfl, c0, c1, c2, c3, c4⟩ := (H.out.later HCr.out.B).five hlt
      obtain ⟨f, hf⟩ : ∃ f, h k = f := ⟨_, rfl⟩
      have HF := Lib.hid hf
      rw [hf] at c0 c1 c2 c3 c4
      clear hf
      by_cases hkm : k < m
      · have hokk : okF f = true := by rw [← HF.out]; exact HO.out k hkm
        have HOF := Lib.hid (of_decide_eq_true (p := OkF f) hokk)
        have hf5 := HOF.out.1
        go_wp2_with fail
        refine (SpO.spec_any f _).mono ?_
        rw [hokk]
        rintro e w3 ⟨rfl, hb3⟩
        have HX3 := Lib.hid (HCr.out.later hb3)
        clear hb3 hokk c0 c1 c2 c3 c4
        obtain ⟨b', off', e', c0, c1, c2, c3, c4⟩ := (H.out.later HX3.out.B).five hlt
        cases e'
        rw [HF.out] at c0 c1 c2 c3 c4
        go_wp2_with fail
        refine (fam_any f.wt _).mono ?_
        rw [famZ_yes hf5]
        rintro e w4 ⟨rfl, hb4⟩
        have HX4 := Lib.hid (HX3.out.later hb4)
        clear hb4 c0 c1 c2 c3 c4
        obtain ⟨z0, z1⟩ := HX4.out.Z.cell (fam f.wt) hf5
        have hcl := cnt_le h (fam f.wt) k
        go_wp2
        go_roundw
        case rel =>
          refine ⟨k + 1, by omega, by go_num, HX4.out.B.setCell (by exact hgw) _, (HX4.out.Z.put hf5 _).congr fun j _ => ?_⟩
          rw [cnt, HF.out]
          by_cases e : j = fam f.wt
          · rw [if_pos e, if_pos e.symm, e]; omega
          · rw [if_neg e, if_neg (fun h => e h.symm)]
        case measure => simp [intOf]; omega
      · obtain rfl : k = m := by omega
        have hokk : okF f = false := by rw [← HF.out]; exact HM.out hlt
        obtain ⟨ez, eo⟩ := HZ1.out hlt
        have HE := Lib.hid ez
        have HE' := Lib.hid eo
        clear ez eo
        go_wp2_with fail
        refine (SpO.spec_any f _).mono ?_
        rw [hokk]
        rintro e w3 ⟨rfl, hb3⟩
        have HX3 := Lib.hid (HCr.out.later hb3)
        clear hb3 hokk c0 c1 c2 c3 c4
        go_wp2
        go_ret2
        rw [HE.out, HE'.out]
        exact ⟨_, rfl, none_own w3 _ HX3.out.B.size, HX3.out.B.alloc HX3.out.B.size _⟩
    · obtain rfl : k = n := by omega
      obtain rfl : k = m := by omega
      obtain ⟨ez, eo⟩ := HZ2.out rfl
      have HE := Lib.hid ez
      have HE' := Lib.hid eo
      clear ez eo
      go_wp2
      go_ret2
      rw [HE.out, HE'.out]
      exact ⟨_, rfl, HCr.out.Z.own hgw, HCr.out.B⟩

/-- The model and the program tell the same. -/
theorem both (n : Nat) (h : Nat → Ft) (hl : n ≤ 1048576) : ∃ (zs : List Int) (ok : Bool), zs.length ≤ 5 ∧
    (∀ a cap w, FRow w a n h → Calls Tryd.prog 26 #[.slice a n cap] w (CPost w zs ok)) ∧
    (∀ a cap w, FRow w a n h → Calls Tryd.prog 25 #[.slice a n cap] w (CPost w zs ok)) := by
  by_cases h20 : 20 < n
  · exact ⟨[], false, by simp, fun a cap w _ => spec_long a cap n w h20 hl, fun a cap w _ => impl_long a cap n w h20 hl⟩
  · by_cases hall : ∀ i, i < n → okF (h i) = true
    · exact ⟨[(cnt h n 0 : Int), cnt h n 1, cnt h n 2, cnt h n 3, cnt h n 4], true, Nat.le_refl 5,
        fun a cap w hr => spec_loop a cap n n h w hr (by omega) (Nat.le_refl _) hall (fun h => absurd h (Nat.lt_irrefl _)) _ true (fun h => absurd h (Nat.lt_irrefl _)) (fun _ => ⟨rfl, rfl⟩),
        fun a cap w hr => impl_loop a cap n n h w hr (by omega) (Nat.le_refl _) hall (fun h => absurd h (Nat.lt_irrefl _)) _ true (fun h => absurd h (Nat.lt_irrefl _)) (fun _ => ⟨rfl, rfl⟩)⟩
    · obtain ⟨m, hm, hb, hx⟩ := first_of hall
      have hx' : okF (h m) = false := by simpa using hx
      exact ⟨[], false, by simp,
        fun a cap w hr => spec_loop a cap n m h w hr (by omega) (by omega) hb (fun _ => hx') [] false (fun _ => ⟨rfl, rfl⟩) (fun e => absurd hm (by omega)),
        fun a cap w hr => impl_loop a cap n m h w hr (by omega) (by omega) hb (fun _ => hx') [] false (fun _ => ⟨rfl, rfl⟩) (fun e => absurd hm (by omega))⟩

end Go.Proofs.YtpfjdlaaakkimaaDoor.CntS
