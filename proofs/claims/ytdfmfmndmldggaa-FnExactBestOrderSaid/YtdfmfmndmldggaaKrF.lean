/- Courses: CourseFaults, both texts. -/
import Derived.Test.YtdfmfmndmldggaaKrW
import Derived.Test.YtdfmfmndmldggaaRtS
import Derived.Deep.Cut
import Derived.Deep.CutRange
import Derived.Deep.DeepCutAuto
namespace Go.Proofs.Ytdfmfmndmldggaa.KrF
open Go.RowKit Lb Bk IntS CtK CoM CoP CoF CoC KrM KrI KrG KrT KrW LtI
open KrR (blk_keep rn r_yes r_no)
open KrO (own_ints rn_le rn_csp lgC)
open Cells (NPost)
set_option linter.unusedSimpArgs false
set_option linter.unusedVariables false

/-- Whether one of the first codes stands ahead of itself; whether one of the first legs takes little. -/
def twB (zs : List Int) : Nat → Bool
  | 0 => false
  | k + 1 => twB zs k || decide (zAt zs k ∈ zs.take k)
def clB (f : Nat → Int) : Nat → Bool
  | 0 => false
  | k + 1 => clB f k || decide (f k < 3)
theorem tw_at {zs : List Int} : ∀ {k n : Nat}, k < n → decide (zAt zs k ∈ zs.take k) = true → twB zs n = true
  | k, 0, h, _ => by omega
  | k, n + 1, h, e => by
    rcases Nat.lt_or_ge k n with h1 | h1
    · rw [twB, tw_at h1 e]; rfl
    · obtain rfl : k = n := by omega
      rw [twB, e, Bool.or_true]
theorem cl_at {f : Nat → Int} : ∀ {k n : Nat}, k < n → f k < 3 → clB f n = true
  | k, 0, h, _ => by omega
  | k, n + 1, h, e => by
    rcases Nat.lt_or_ge k n with h1 | h1
    · rw [clB, cl_at h1 e]; rfl
    · obtain rfl : k = n := by omega
      rw [clB, decide_eq_true e, Bool.or_true]
theorem cl_ex {f : Nat → Int} : ∀ {n : Nat}, clB f n = true → ∃ k, k < n ∧ f k < 3
  | 0, h => by cases h
  | n + 1, h => by
    rw [clB, Bool.or_eq_true] at h
    rcases h with h | h
    · obtain ⟨k, h1, h2⟩ := cl_ex h
      exact ⟨k, by omega, h2⟩
    · exact ⟨n, by omega, of_decide_eq_true h⟩
theorem fold_min (zs : List Int) : ∀ a : Int, (zs.foldl min a < 3 ↔ a < 3 ∨ ∃ x, x ∈ zs ∧ x < 3) := by
  induction zs with
  | nil => intro a; simp
  | cons y r ih =>
    intro a
    rw [List.foldl_cons, ih]
    constructor
    · rintro (h | ⟨x, hx, h⟩)
      · by_cases h1 : a < 3
        · exact .inl h1
        · exact .inr ⟨y, List.mem_cons_self, by omega⟩
      · exact .inr ⟨x, List.mem_cons_of_mem _ hx, h⟩
    · rintro (h | ⟨x, hx, h⟩)
      · exact .inl (by omega)
      · rcases List.mem_cons.1 hx with rfl | hx
        · exact .inl (by omega)
        · exact .inr ⟨x, hx, h⟩
theorem min_cl {f : Nat → Int} {n : Nat} (hn : 0 < n) : decide (Lib.minOf (seqL f n) < 3) = clB f n := by
  obtain ⟨n, rfl⟩ : ∃ q, n = q + 1 := ⟨n - 1, by omega⟩
  have h0 : (seqL f (n + 1)).headD 0 = f 0 := by unfold seqL; rw [List.range_succ_eq_map]; rfl
  have hm : ∀ x, x ∈ seqL f (n + 1) ↔ ∃ k, k < n + 1 ∧ f k = x := by
    intro x
    unfold seqL
    simp
  cases hc : clB f (n + 1) with
  | true =>
    obtain ⟨k, h1, h2⟩ := cl_ex hc
    refine decide_eq_true ?_
    unfold Lib.minOf
    rw [fold_min]
    exact .inr ⟨f k, (hm _).2 ⟨k, h1, rfl⟩, h2⟩
  | false =>
    refine decide_eq_false fun h => ?_
    unfold Lib.minOf at h
    rw [fold_min, h0] at h
    rcases h with h | ⟨x, hx, h⟩
    · rw [cl_at (k := 0) (by omega) h] at hc; cases hc
    · obtain ⟨k, h1, rfl⟩ := (hm x).1 hx
      rw [cl_at h1 h] at hc
      cases hc
/-- What CourseFaults answers. -/
def ifL (b : Bool) (x : Int) : List Int := if b then [x] else []
theorem if_len (b : Bool) (x : Int) : (ifL b x).length ≤ 1 := by cases b <;> simp [ifL]
noncomputable def faL (m : Mp) (T : Nat → Nat → Int) (cs : List Ct) (zs : List Int) : List Int :=
  if csB m T cs zs then ifL (decide (zs.length < 4)) 1 ++ ifL (twB zs zs.length) 2 ++ ifL (clB (lgT T cs zs) (zs.length - 1)) 3 ++ ifL (decide (0 < (bkL m T cs zs (zs.length - 2)).length)) 4 else []
theorem fa_len (m : Mp) (T : Nat → Nat → Int) (cs : List Ct) (zs : List Int) : (faL m T cs zs).length ≤ 4 := by
  unfold faL
  split
  · simp only [List.length_append]
    have h1 := if_len (decide (zs.length < 4)) 1
    have h2 := if_len (twB zs zs.length) 2
    have h3 := if_len (clB (lgT T cs zs) (zs.length - 1)) 3
    have h4 := if_len (decide (0 < (bkL m T cs zs (zs.length - 2)).length)) 4
    omega
  · simp

set_option maxRecDepth 20000 in
set_option maxHeartbeats 2000000 in
theorem tw_impl (zs : List Int) (hl : zs.length ≤ 1048576) (al : Option Addr) (cl : Nat) (hcap : zs.length ≤ cl) (w : World) (hr : IRow w al zs) :
    Calls Try.prog 65 #[.slice al zs.length cl] w fun e w' => e = .returned (.bool (twB zs zs.length)) ∧ w' = w := by
  have H := Lib.hid hr
  obtain ⟨n, hn⟩ : ∃ n, zs.length = n := ⟨_, rfl⟩
  have HN := Lib.hid hn
  rw [hn] at hl hcap ⊢
  obtain ⟨ok, hok⟩ : ∃ o, twB zs n = o := ⟨_, rfl⟩
  have HO := Lib.hid hok
  rw [hok]
  clear hr hn hok
  go_enter Try.func65, Try.ntmps65
  go_wp2
  go_loop [7] (fun i => ∃ k : Nat, k ≤ n ∧ i = .int .i64 k ∧ twB zs k = false) (fun i => n - (intOf i).toNat)
  case atStart => exact ⟨0, Nat.zero_le _, rfl, rfl⟩
  case round =>
    obtain ⟨k, hk, rfl, htw⟩ := hrel
    have HTW := Lib.hid htw
    clear htw
    by_cases hlt : k < n
    · rcases H.out with h0 | ⟨b, off, rfl, hc⟩
      · rw [HN.out] at h0; omega
      have c0 := hc k (by rw [HN.out]; exact hlt)
      obtain ⟨x, hx⟩ : ∃ x, zAt zs k = x := ⟨_, rfl⟩
      simp only [hx] at c0
      have hk0 : (0 : Int) ≤ (k : Int) := by omega
      have hk1 : (k : Int) < (n : Int) := by omega
      have hk2 : (k : Int) ≤ (cl : Int) := by omega
      obtain ⟨d, hd⟩ : ∃ d, decide (x ∈ zs.take k) = d := ⟨_, rfl⟩
      have hlk : (zs.take k).length = k := by rw [List.length_take, HN.out]; omega
      have hct : (zs.take k).contains x = d := by rw [← hd]; simp
      have CC0 : ∀ w, w.cell? ⟨b, off + k, none⟩ = some (.int .i64 x) → IRow w (some ⟨b, off, none⟩) zs → Calls Try.prog 94 #[.slice (some ⟨b, off, none⟩) k cl, .int .i64 x] w fun e w' => e = .returned (.bool d) ∧ w' = w := by
        intro w _ hr
        rcases hr with h0 | ⟨b', off', e, hc⟩
        · rw [HN.out] at h0; omega
        cases e
        have := Try.slices_Contains_int b off k cl zs x w (by rw [HN.out]; omega) (by omega) (fun j hj => hc j hj)
        rwa [hct] at this
      have CC := Lib.hid (CC0 w c0 H.out)
      have HX := Lib.hid hx
      have HD := Lib.hid hd
      clear hc hx hd hct hlk CC0
      go_wp2_with fail
      refine CC.out.mono ?_
      rintro e w2 ⟨rfl, rfl⟩
      cases d with
      | false =>
        have HT2 := Lib.hid (show twB zs (k + 1) = false from by rw [twB, HTW.out, HX.out, HD.out]; rfl)
        go_wp2
        go_round
        case rel => exact ⟨k + 1, by omega, by go_num, HT2.out⟩
        case measure => simp [intOf]; omega
      | true =>
        have h1 := tw_at (zs := zs) hlt (by rw [HX.out]; exact HD.out)
        rw [HO.out] at h1
        subst h1
        go_wp2
        go_ret
        exact ⟨rfl, rfl⟩
    · obtain rfl : k = n := by omega
      have h1 : ok = false := by rw [← HO.out]; exact HTW.out
      subst h1
      go_wp2
      go_ret
      exact ⟨rfl, rfl⟩

set_option maxRecDepth 20000 in
set_option maxHeartbeats 2000000 in
theorem tw_spec (zs : List Int) (hl : zs.length ≤ 1048576) (al : Option Addr) (cl : Nat) (hcap : zs.length ≤ cl) (w : World) (hr : IRow w al zs) :
    Calls Try.prog 67 #[.slice al zs.length cl] w fun e w' => e = .returned (.bool (twB zs zs.length)) ∧ Below w.heap.size w w' := by
  have H := Lib.hid hr
  obtain ⟨n, hn⟩ : ∃ n, zs.length = n := ⟨_, rfl⟩
  have HN := Lib.hid hn
  have CH := Lib.hid (fun (k : Nat) (hk : k ≤ n) x (w : World) h => RtS.has_take (cap := cl) (a := al) (W := w) (zs := zs) h (k := k) (by rw [hn]; exact hk) hl x)
  rw [hn] at hl hcap ⊢
  obtain ⟨ok, hok⟩ : ∃ o, twB zs n = o := ⟨_, rfl⟩
  have HO := Lib.hid hok
  rw [hok]
  clear hr hn hok
  go_enter Try.func67, Try.ntmps67
  go_wp2
  go_loopg [3] n (fun gk i wr => ∃ k : Nat, k ≤ n ∧ gk = n - k ∧ i = .int .i64 k ∧ twB zs k = false ∧ Below w.heap.size w wr)
  case atStart => exact ⟨0, Nat.zero_le _, rfl, rfl, rfl, Below.refl _ _⟩
  case round =>
    obtain ⟨k, hk, hgk, rfl, htw, hb⟩ := hrel
    have HTW := Lib.hid htw
    have HB := Lib.hid hb
    clear htw hb
    by_cases hlt : k < n
    · have HR := Lib.hid (show IRow wr al zs from RowAt.below H.out HB.out)
      obtain ⟨b, off, rfl, hc⟩ : ∃ b off, al = some ⟨b, off, none⟩ ∧ ∀ j, j < zs.length → wr.cell? ⟨b, off + j, none⟩ = some (.int .i64 (zAt zs j)) := by
        rcases HR.out with h0 | h
        · rw [HN.out] at h0; omega
        · exact h
      have c0 := hc k (by rw [HN.out]; exact hlt)
      obtain ⟨x, hx⟩ : ∃ x, zAt zs k = x := ⟨_, rfl⟩
      simp only [hx] at c0
      have hk0 : (0 : Int) ≤ (k : Int) := by omega
      have hk1 : (k : Int) < (n : Int) := by omega
      have hk2 : (k : Int) ≤ (cl : Int) := by omega
      obtain ⟨d, hd⟩ : ∃ d, decide (x ∈ zs.take k) = d := ⟨_, rfl⟩
      have CC := Lib.hid (fun w h => hd ▸ CH.out k hk x w h)
      have HX := Lib.hid hx
      have HD := Lib.hid hd
      have hu : undef = Value.tuple #[] := rfl
      clear hc hx hd
      go_upto_region 4 with (fail)
      refine wp_region_noPanic ?_
      refine wp_region_held_drew (S := (fun Wx : World => Wx.cell? ⟨b, off + k, none⟩ = some (.int .i64 x))) (by kernel_rfl) (c0) (fun hHeld => ?_)
      refine wpAnyH_take (i := 0) (oi := _) (v := ?_) rfl (by kernel_rfl) (by kernel_rfl) (by kernel_rfl) (fun _ _ _ h => h) (Or.inl ⟨by rfl, ?_⟩) (by assumption) ?_; rotate_left; focus (intro W hSw; (try dsimp only at hSw); go_simp; (first | done | with_reducible rfl))
      (try simp only [List.getElem_toArray, List.getElem_cons_succ, List.getElem_cons_zero, Act.put, List.setIfInBounds_toArray, List.set_cons_zero, List.set_cons_succ])
      refine wpAnyH_take (i := 1) (oi := _) (v := ?_) rfl (by kernel_rfl) (by kernel_rfl) (by kernel_rfl) (fun _ _ _ h => h) (Or.inl ⟨by rfl, ?_⟩) (by assumption) ?_; rotate_left; focus (intro W hSw; (try dsimp only at hSw); go_simp; (first | done | with_reducible rfl))
      (try simp only [List.getElem_toArray, List.getElem_cons_succ, List.getElem_cons_zero, Act.put, List.setIfInBounds_toArray, List.set_cons_zero, List.set_cons_succ])
      refine wpAnyH_take (i := 2) (oi := _) (v := ?_) rfl (by kernel_rfl) (by kernel_rfl) (by kernel_rfl) (fun _ _ _ h => h) (Or.inl ⟨by rfl, ?_⟩) (by assumption) ?_; rotate_left; focus (intro W hSw; (try dsimp only at hSw); go_simp; (first | done | with_reducible rfl))
      (try simp only [List.getElem_toArray, List.getElem_cons_succ, List.getElem_cons_zero, Act.put, List.setIfInBounds_toArray, List.set_cons_zero, List.set_cons_succ])
      refine wpAnyH_take (i := 3) (oi := _) (v := ?_) rfl (by kernel_rfl) (by kernel_rfl) (by kernel_rfl) (fun _ _ _ h => h) (Or.inl ⟨by rfl, ?_⟩) (by assumption) ?_; rotate_left; focus (intro W hSw; (try dsimp only at hSw); go_simp; (first | done | with_reducible rfl))
      (try simp only [List.getElem_toArray, List.getElem_cons_succ, List.getElem_cons_zero, Act.put, List.setIfInBounds_toArray, List.set_cons_zero, List.set_cons_succ])
      refine wpAnyH_take (i := 4) (oi := _) (v := ?_) rfl (by kernel_rfl) (by kernel_rfl) (by kernel_rfl) (fun _ _ _ h => h) (Or.inl ⟨by rfl, ?_⟩) (by assumption) ?_; rotate_left; focus (intro W hSw; (try dsimp only at hSw); go_simp; (first | done | with_reducible rfl))
      (try simp only [List.getElem_toArray, List.getElem_cons_succ, List.getElem_cons_zero, Act.put, List.setIfInBounds_toArray, List.set_cons_zero, List.set_cons_succ])
      refine wpAnyH_take (i := 5) (oi := _) (v := ?_) rfl (by kernel_rfl) (by kernel_rfl) (by kernel_rfl) (fun _ _ _ h => h) (Or.inl ⟨by rfl, ?_⟩) (by assumption) ?_; rotate_left; focus (intro W hSw; (try dsimp only at hSw); go_simp; (first | done | with_reducible rfl))
      (try simp only [List.getElem_toArray, List.getElem_cons_succ, List.getElem_cons_zero, Act.put, List.setIfInBounds_toArray, List.set_cons_zero, List.set_cons_succ])
      refine wpAnyH_take (i := 6) (oi := _) (v := ?_) rfl (by kernel_rfl) (by kernel_rfl) (by kernel_rfl) (fun _ _ _ h => h) (Or.inl ⟨by rfl, ?_⟩) (by assumption) ?_; rotate_left; focus (intro W hSw; (try dsimp only at hSw); go_simp; (first | done | with_reducible rfl))
      (try simp only [List.getElem_toArray, List.getElem_cons_succ, List.getElem_cons_zero, Act.put, List.setIfInBounds_toArray, List.set_cons_zero, List.set_cons_succ])
      refine wpAnyH_ready (rs := [7]) (by kernel_rfl) (by simp) ?_
      refine AllReadyH.cons (o := _) rfl (fun K hK => ?_) AllReadyH.nil
      go_simp
      go_at_call 95
      refine (CC.out _ (show IRow wr.drew (some ⟨b, off, none⟩) zs from HR.out)).mono ?_
      rintro e w2 ⟨rfl, rfl⟩
      go_wp2_with fail
      refine hK.out _ _ c0 (fun _ => ?_)
      clear hK K hHeld
      refine wpAnyH_done (by kernel_rfl) ?_ _
      refine NoPanic.normal ?_
      (try simp only [List.getElem_toArray, List.getElem_cons_succ, List.getElem_cons_zero, Act.put, List.setIfInBounds_toArray, List.set_cons_zero, List.set_cons_succ])
      clear hu
      cases d with
      | false =>
        have HT2 := Lib.hid (show twB zs (k + 1) = false from by rw [twB, HTW.out, HX.out, HD.out]; rfl)
        go_wp2
        go_roundg (n - (k + 1))
        case measure => omega
        case rel => exact ⟨k + 1, by omega, rfl, by go_num, HT2.out, HB.out.drew⟩
      | true =>
        have h1 := tw_at (zs := zs) hlt (by rw [HX.out]; exact HD.out)
        rw [HO.out] at h1
        subst h1
        go_wp2
        go_ret
        exact ⟨rfl, HB.out.drew⟩
    · obtain rfl : k = n := by omega
      have h1 : ok = false := by rw [← HO.out]; exact HTW.out
      subst h1
      go_wp2
      go_ret
      exact ⟨rfl, HB.out⟩
end Go.Proofs.Ytdfmfmndmldggaa.KrF
