/- A Control that is taken out of a list: slices.Delete of one. -/
import Derived.Test.YtdfmfmndmldggaaKrQ
namespace Go.Proofs.Ytdfmfmndmldggaa.KrQ
open Go.RowKit Lb Bk CtK CtZ Go.Sort CoP
set_option linter.unusedSimpArgs false
set_option linter.unusedVariables false

/-- 'clear' of one Control. -/
theorem run_clear_one (w : World) (ty : TypeId) (b o c : Nat) (hc : ∀ j, j < 2 → (w.cell? ⟨b, o + j, none⟩).isSome = true) (hf : ∀ j, j < 2 → w.frozen? ⟨b, o + j, none⟩ = false) :
    (Builtin.clear_ #[27] ty #[.slice (some ⟨b, o, none⟩) 1 c]).run Try.prog w = .ok (.tuple #[]) (w.setCells b o [.int .i64 0, .int .i64 0]) := by
  have hz : ∀ w, (zeroValue 70).run Try.prog w = .ok (.agg #[.int .i64 0, .int .i64 0]) w := Try.zeroValue70
  have hzc : (Builtin.zeroCells (Value.cells (.agg #[.int .i64 0, .int .i64 0])) 1).toList = [.int .i64 0, .int .i64 0] := by kernel_rfl
  have hst := run_storeCells_cells (P := Try.prog) b o [.int .i64 0, .int .i64 0] 0 w (by simpa using hc) (by simpa using hf) (by intro v hv; simp at hv; subst hv; rfl)
  simp only [Nat.add_zero] at hst
  simp [Builtin.clear_, run_underlying Try.underlying27, hz, hzc, hst]
theorem erase_at (rs : List Ct) (i k : Nat) : at_ (rs.eraseIdx i) k = if k < i then at_ rs k else at_ rs (k + 1) := by
  unfold at_
  rw [List.getD_eq_getElem?_getD, List.getElem?_eraseIdx]
  split <;> simp [List.getD_eq_getElem?_getD]

set_option maxRecDepth 1000000 in
set_option maxHeartbeats 4000000 in
theorem del_any (base g i m cap : Nat) (rs : List Ct) (w : World) (h : Own w base (.slice (some ⟨g, 0, none⟩) (i + 1 + m) cap) rs) (hn : rs.length = i + 1 + m) (hl : i + 1 + m ≤ 1048576) :
    Calls Try.prog 103 #[.slice (some ⟨g, 0, none⟩) (i + 1 + m) cap, .int .i64 i, .int .i64 ((i : Int) + 1)] w fun e w' => e = .returned (.slice (some ⟨g, 0, none⟩) (i + m) cap) ∧ Row w' (some ⟨g, 0, none⟩) (rs.eraseIdx i) ∧ w.grownBy w' (some g) := by
  obtain ⟨t0, hi0, hz0, hz1, hz2⟩ := info_parts info
  have hcap := Own.le h
  rw [hn] at hcap
  have hraw := fun {k : Nat} (hk : k < (i + 1 + m) * 2) => own_raw h hn hk
  have hsome : ∀ k, k < (i + 1 + m) * 2 → ∃ u, w.cell? ⟨g, k, none⟩ = some u ∧ w.frozen? ⟨g, k, none⟩ = false := fun k hk => by
    have := hraw hk
    rw [List.getElem?_eq_getElem (by rw [cells_len]; omega)] at this
    exact ⟨_, this⟩
  obtain ⟨news, hnews⟩ : ∃ news, news = cells (rs.drop (i + 1)) := ⟨_, rfl⟩
  have hnl : news.length = m * 2 := by rw [hnews, cells_len, List.length_drop]; omega
  have hnat : ∀ t, t < m * 2 → news[t]? = (cells rs)[(i + 1) * 2 + t]? := fun t ht => by
    rw [hnews, ← cells_drop, List.getElem?_drop]
  obtain ⟨A, hA, hsrc⟩ : ∃ A : Addr, (if cap = i + 1 then some (⟨g, 0, none⟩ : Addr) else some ⟨g, (i + 1) * 2, none⟩) = some A ∧ ∀ t u, news[t]? = some u → w.drew.cell? (A.add t) = some u := by
    by_cases hce : cap = i + 1
    · refine ⟨⟨g, 0, none⟩, by simp [hce], fun t u hu => ?_⟩
      have h0 : news.length = 0 := by rw [hnl]; omega
      rw [List.length_eq_zero_iff.1 h0] at hu
      simp at hu
    · refine ⟨⟨g, (i + 1) * 2, none⟩, by simp [hce], fun t u hu => ?_⟩
      have ht : t < m * 2 := by
        have := (List.getElem?_eq_some_iff.1 hu).1
        rwa [hnl] at this
      rw [CtK.add_none]
      show w.cell? _ = _
      rw [(hraw (k := (i + 1) * 2 + t) (by omega)).1, ← hnat t ht, hu]
  replace hsrc := Lib.hid hsrc
  have s1 := Lib.hid hnl
  have s2 := Lib.hid (show ∀ u ∈ news, u.oneCell' = true from by rw [hnews]; exact cells_one _)
  have s3 := Lib.hid (show ∀ t, t < news.length → (w.drew.cell? ⟨g, 0 + i * 2 + t, none⟩).isSome = true ∧ w.drew.frozen? ⟨g, 0 + i * 2 + t, none⟩ = false from by
    intro t ht
    rw [hnl] at ht
    obtain ⟨u, h1, h2⟩ := hsome (0 + i * 2 + t) (by omega)
    exact ⟨by show (w.cell? _).isSome = true; rw [h1]; rfl, h2⟩)
  obtain ⟨W1, hW1⟩ : ∃ W1, W1 = w.drew.setCells g (0 + i * 2) news := ⟨_, rfl⟩
  have hd : ∀ k, k < (i + 1 + m) * 2 → (w.drew.cell? ⟨g, k, none⟩).isSome = true ∧ w.drew.frozen? ⟨g, k, none⟩ = false := fun k hk => by
    obtain ⟨u, h1, h2⟩ := hsome k hk
    exact ⟨by show (w.cell? _).isSome = true; rw [h1]; rfl, h2⟩
  have hW1c : ∀ k, k < (i + m) * 2 → W1.cell? ⟨g, k, none⟩ = (cells rs)[if k < i * 2 then k else k + 2]? := fun k hk => by
    rw [hW1]
    by_cases h1 : k < i * 2
    · rw [if_pos h1, World.cell?_setCells_out _ _ _ _ _ (fun _ _ => .inl (by show k < 0 + i * 2; omega))]
      exact (hraw (by omega)).1
    · rw [if_neg h1]
      have := World.cell?_setCells_in g news (0 + i * 2) w.drew (fun j hj => (hd _ (by rw [hnl] at hj; omega)).1) (k - i * 2) (by rw [hnl]; omega)
      rw [show 0 + i * 2 + (k - i * 2) = k by omega] at this
      rw [this, ← List.getElem?_eq_getElem, hnat _ (by omega)]
      congr 1
      omega
  have hW1s : ∀ k, k < (i + 1 + m) * 2 → (W1.cell? ⟨g, k, none⟩).isSome = true ∧ W1.frozen? ⟨g, k, none⟩ = false := fun k hk => by
    rw [hW1]
    refine ⟨World.isSome_setCells _ _ _ _ _ (hd k hk).1, ?_⟩
    rw [World.frozen?_setCells]
    exact (hd k hk).2
  have hg1 : w.grownBy W1 (some g) := by rw [hW1]; exact gr_trans (by exact ⟨rfl, rfl, rfl, Nat.le_refl _, fun k hk _ => rfl⟩) (gr_sets g news _ _)
  have hcl : ∀ ty, (Builtin.clear_ #[27] ty #[.slice (some ⟨g, (i + m) * 2, none⟩) (i + 1 + m - (i + m)) (cap - (i + m))]).run Try.prog W1 = .ok (.tuple #[]) (W1.setCells g ((i + m) * 2) [.int .i64 0, .int .i64 0]) := fun ty => by
    rw [show i + 1 + m - (i + m) = 1 by omega]
    exact run_clear_one W1 ty g _ _ (fun j hj => (hW1s _ (by omega)).1) (fun j hj => (hW1s _ (by omega)).2)
  have HR := Lib.hid (show Row (W1.setCells g ((i + m) * 2) [.int .i64 0, .int .i64 0]) (some ⟨g, 0, none⟩) (rs.eraseIdx i) from by
    have hle : (rs.eraseIdx i).length = i + m := by rw [List.length_eraseIdx_of_lt (by omega)]; omega
    refine .inr ⟨g, 0, rfl, fun k hk j hj => ?_⟩
    rw [hle] at hk
    rw [Nat.zero_add, World.cell?_setCells_out _ _ _ _ _ (fun _ _ => .inl (by show k * 2 + j < (i + m) * 2; omega)), hW1c _ (by omega), erase_at]
    by_cases h1 : k < i
    · rw [if_pos (by omega), if_pos h1]
      exact cells_at rs k (by omega) j hj
    · rw [if_neg (by omega), if_neg h1, show k * 2 + j + 2 = (k + 1) * 2 + j by omega]
      exact cells_at rs (k + 1) (by omega) j hj)
  have HG := Lib.hid (gr_trans hg1 (gr_sets g [.int .i64 0, .int .i64 0] ((i + m) * 2) W1))
  have hW := Lib.hid hW1
  have hi1 : (i : Int) ≤ (i : Int) + 1 := by omega
  have hi2 : (i : Int) + 1 ≤ ((i + 1 + m : Nat) : Int) := by omega
  have hi3 : ((i + 1 + m : Nat) : Int) ≤ (cap : Int) := by omega
  have hne : ((i : Int) == (i : Int) + 1) = false := by simp; omega
  have hj0 : (0 : Int) ≤ (i : Int) + 1 := by omega
  have hjt : ((i : Int) + 1).toNat = i + 1 := by omega
  clear hW1 hW1c hW1s hg1 hd hraw hsome hnews hnl hnat h hn
  go_enter Try.func103, Try.ntmps103
  have hic : (i : Int) ≤ (cap : Int) := by omega
  have hic2 : i ≤ cap := by omega
  have hjc : i + 1 ≤ cap := by omega
  have hjc2 : (i : Int) + 1 ≤ (i : Int) + 1 + (m : Int) := by omega
  go_wp2_with fail
  go_region_law (refine step_append_room rfl (.tmp 22) (.tmp 25) 27 rfl 70 t0 2 Try.underlying27 hi0 hz1 g 0 i cap (by simp [Act.eval, Act.put]) A m (cap - (i + 1)) news (by simp [Act.eval, Act.put]) s1.out hsrc.out s2.out (by omega) s3.out ?_; rw [← hW.out])
  go_wp2
  go_ret
  exact ⟨rfl, HR.out, HG.out⟩
end Go.Proofs.Ytdfmfmndmldggaa.KrQ
