/- slices.Insert of one element into a row of the call's own: impl.Control. -/
import Derived.Test.YtfpfnnindlfgfaaInsG
import Derived.Deep.RegionLaw
import Derived.OwnWalk
import Derived.Maps.AppendAt
import Derived.Lib.Hide
namespace Go.Proofs.Ytfpfnnindlfgfaa.CtV
open Go.RowKit Lb Bk InsG
set_option linter.unusedSimpArgs false
set_option linter.unusedVariables false

theorem info : (Try.prog.info? 58).map (fun i => (i.zero, i.size, i.bytes)) = some (some (Value.agg #[.int .i64 0, .int .i64 0]), 2, 16) := by kernel_rfl
theorem add_none (b o j : Nat) : (⟨b, o, none⟩ : Addr).add j = ⟨b, o + j, none⟩ := by unfold Addr.add; split <;> simp_all
theorem ovl (w : World) (g vb o m c lb cb : Nat) (tv tg : TypeId) (cs cur : Array Value) (hx : Blk w vb tv cs) (hg : Blk w g tg cur) (hne : vb ≠ g) (hp : 0 < cur.size) :
    (callFunc 139 #[.slice (some ⟨vb, 0, none⟩) m c, .slice (some ⟨g, o, none⟩) lb cb]).run Try.prog w = .ok (.value (.bool false)) w := by
  obtain ⟨t0, hi0, hz0, hz1, hz2⟩ := info_parts info
  rw [run_callFunc_extern Try.func139 (by kernel_rfl) (by kernel_rfl) (by kernel_rfl) (e := Extern.SlicesOverlaps.overlaps #[40, 40] #[4]) (by kernel_rfl),
    Lib.run_overlaps_apart w 40 4 58 Try.underlying40 2 (fun w => by simp [sizeOf, typeInfo, hi0, hz1]) ⟨vb, 0, none⟩ ⟨g, o, none⟩ m c lb cb hne tv tg cs.size cur.size (by unfold Blk at hx; simp [World.shape?, hx]) (by unfold Blk at hg; simp [World.shape?, hg]) (by omega) (hx.frozen 0) (hx.frozen _)]
  rfl

set_option maxRecDepth 100000 in
set_option maxHeartbeats 8000000 in
/-- Behind the last element. -/
theorem end_any (base : Nat) (v : Value) (n : Nat) (xs news : List Value) (hl : n ≤ 1048576) (vb : Nat) (tv : TypeId) (w : World) (ho : w.ownsRow base 58 2 v n xs) (hb : base ≤ w.heap.size)
    (hx : Blk w vb tv news.toArray) (hnl : news.length = 2) (h2 : ∀ u ∈ news, u.oneCell' = true) :
    Calls Try.prog 101 #[v, .int .i64 n, .slice (some ⟨vb, 0, none⟩) 1 1] w fun e w' => ∃ v', e = .returned v' ∧ w'.ownsRow base 58 2 v' (n + 1) (xs ++ news) ∧ w.grownBy w' v.ownBlock := by
  obtain ⟨t0, hi0, hz0, hz1, hz2⟩ := info_parts info
  have hnw : ∀ j u, news[j]? = some u → w.cell? ((⟨vb, 0, none⟩ : Addr).add j) = some u := fun j u hj => by rw [add_none, Nat.zero_add]; exact hx.cell j (by simpa using hj)
  have HO := Lib.hid ho
  have HW := Lib.hid hnw
  clear hx hnw
  rcases ho.2 with ⟨rfl, rfl⟩ | ⟨g, cap, cur, rfl, hbg, hg, hnc, hcm, hcs, htake⟩
  · clear ho
    go_enter Try.func101, Try.ntmps101
    go_wp2_with (go_loud (at_builtin; (refine wpList_append_own _ rfl (.tmp 23) (.tmp 24) 40 rfl base 58 t0 (Value.agg #[.int .i64 0, .int .i64 0]) 2 16 Try.underlying40 hi0 hz0 hz1 hz2 rfl (by decide) _ 0 _ rfl HO.out ⟨vb, 0, none⟩ 1 1 news rfl (by omega) HW.out h2 (by unfold maxLen; omega) (by omega) hb ?_; intro v' w3 hown3 hgr3 _; have HP3 := Lib.hid hown3; have HG3 := Lib.hid hgr3; clear hown3 hgr3)))
    all_goals (go_ret; exact ⟨_, rfl, HP3.out, HG3.out⟩)
  · clear ho hg hcs htake
    have hcm' : cap ≤ 9223372036854775807 := by unfold maxLen at hcm; omega
    clear hcm
    go_enter Try.func101, Try.ntmps101
    go_wp2_with (go_loud (at_builtin; (refine wpList_append_own _ rfl (.tmp 23) (.tmp 24) 40 rfl base 58 t0 (Value.agg #[.int .i64 0, .int .i64 0]) 2 16 Try.underlying40 hi0 hz0 hz1 hz2 rfl (by decide) _ n _ rfl HO.out ⟨vb, 0, none⟩ 1 1 news rfl (by omega) HW.out h2 (by unfold maxLen; omega) (by omega) hb ?_; intro v' w3 hown3 hgr3 _; have HP3 := Lib.hid hown3; have HG3 := Lib.hid hgr3; clear hown3 hgr3)))
    all_goals (go_ret; exact ⟨_, rfl, HP3.out, HG3.out⟩)

set_option maxRecDepth 100000 in
set_option maxHeartbeats 8000000 in
/-- In the middle, where there is room. -/
theorem shift_any (base g cap : Nat) (n k : Nat) (cur : Array Value) (xs news : List Value) (hk : k < n) (hroom : n + 1 ≤ cap) (hcm : cap ≤ maxLen) (vb : Nat) (tv : TypeId) (w : World) (hbg : base ≤ g)
    (hg : Blk w g 58 cur) (hcs : cur.size = cap * 2) (htake : cur.toList.take (n * 2) = xs) (hxl : xs.length = n * 2)
    (hx : Blk w vb tv news.toArray) (hnl : news.length = 2) (h1 : ∀ u ∈ xs, u.oneCell' = true) (h2 : ∀ u ∈ news, u.oneCell' = true) (hne : vb ≠ g) :
    Calls Try.prog 101 #[.slice (some ⟨g, 0, none⟩) n cap, .int .i64 k, .slice (some ⟨vb, 0, none⟩) 1 1] w fun e w' => ∃ v', e = .returned v' ∧ w'.ownsRow base 58 2 v' (n + 1) (xs.take (k * 2) ++ news ++ xs.drop (k * 2)) ∧ w.grownBy w' (some g) := by
  obtain ⟨t0, hi0, hz0, hz1, hz2⟩ := info_parts info
  have hsz : (Try.prog.info? 58).map (·.size) = some 2 := by rw [hi0]; simp [hz1]
  obtain ⟨r1, r2, r3⟩ := shift_take (xs := xs) (news := news) (cur := cur.toList) (K := k * 2) (M := 2) (N := n * 2) hxl (by omega) hnl (by rw [Array.length_toList, hcs]; omega) htake
  have hdl : (xs.drop (k * 2)).length = (n - k) * 2 := by rw [List.length_drop, hxl]; omega
  obtain ⟨c1, hc1⟩ : ∃ c1, cur.toList.take (k * 2 + 2) ++ xs.drop (k * 2) ++ cur.toList.drop (k * 2 + 2 + (xs.drop (k * 2)).length) = c1 := ⟨_, rfl⟩
  simp only [hc1] at r1 r2 r3
  obtain ⟨c2, hc2⟩ : ∃ c2, c1.take (k * 2) ++ news ++ c1.drop (k * 2 + news.length) = c2 := ⟨_, rfl⟩
  rw [hc2] at r1 r2
  have hsrc : ∀ j u, (xs.drop (k * 2))[j]? = some u → w.cell? ((⟨g, k * 2, none⟩ : Addr).add j) = some u := fun j u hj => by
    rw [add_none]
    refine hg.cell _ ?_
    rw [List.getElem?_drop, ← htake, List.getElem?_take] at hj
    split at hj
    · simpa using hj
    · cases hj
  have hcp1 : ∀ ty dc sc, (Builtin.copy_ #[40, 40] ty #[.slice (some ⟨g, (k + 1) * 2, none⟩) (n - k) dc, .slice (some ⟨g, k * 2, none⟩) (n + 1 - k) sc]).run Try.prog w.drew = .ok (goInt ((n - k : Nat) : Int)) (w.drew.setRow g c1.toArray) := fun ty dc sc => by
    have := run_copy_rowN (P := Try.prog) w.drew 40 40 ty 58 2 g ((k + 1) * 2) (n - k) dc ⟨g, k * 2, none⟩ (n + 1 - k) sc cur 58 (xs.drop (k * 2)) Try.underlying40 hsz hg.drew (by rw [hdl]; congr 1; simp only [Nat.min_def]; split <;> omega) hsrc (by rw [hdl, hcs]; omega) (fun u hu => h1 u (List.mem_of_mem_drop hu))
    rw [show (k + 1) * 2 = k * 2 + 2 by omega, hc1, show Nat.min (n + 1 - k) (n - k) = n - k by simp only [Nat.min_def]; split <;> omega] at this
    rw [show (k + 1) * 2 = k * 2 + 2 by omega]
    exact this
  obtain ⟨W1, hW1⟩ : ∃ W1, W1 = w.drew.setRow g c1.toArray := ⟨_, rfl⟩
  have hg1 : Blk W1 g 58 c1.toArray := by rw [hW1]; exact setRow_heap w.drew g cur _ _ _ hg.drew
  have hx1 : Blk W1 vb tv news.toArray := by rw [hW1]; exact (setRow_other w.drew g vb _ hne).trans hx.drew
  have hcp2 : ∀ ty dc, (Builtin.copy_ #[40, 40] ty #[.slice (some ⟨g, k * 2, none⟩) (n + 1 - k) dc, .slice (some ⟨vb, 0, none⟩) 1 1]).run Try.prog W1 = .ok (goInt 1) (W1.setRow g c2.toArray) := fun ty dc => by
    have := run_copy_rowN (P := Try.prog) W1 40 40 ty 58 2 g (k * 2) (n + 1 - k) dc ⟨vb, 0, none⟩ 1 1 c1.toArray 58 news Try.underlying40 hsz hg1 (by rw [hnl]; simp only [Nat.min_def]; split <;> omega) (fun j u hj => by rw [add_none, Nat.zero_add]; exact hx1.cell j (by simpa using hj)) (by rw [hnl]; simp only [List.size_toArray, r3, Array.length_toList, hcs]; omega) h2
    simp only [List.toList_toArray] at this
    rw [hc2, show Nat.min 1 (n + 1 - k) = 1 by simp only [Nat.min_def]; split <;> omega] at this
    exact this
  have HE := Lib.hid (show World.ownsRow (W1.setRow g c2.toArray) base 58 2 (.slice (some ⟨g, 0, none⟩) (n + 1) cap) (n + 1) (xs.take (k * 2) ++ news ++ xs.drop (k * 2)) from
    owns_of_block hbg (setRow_heap W1 g _ _ _ _ hg1) hroom hcm (by rw [r2, Array.length_toList, hcs]) (by rw [← r1, show (n + 1) * 2 = n * 2 + 2 by omega]) (by simp only [List.length_append, hdl, hnl, List.length_take, hxl]; omega))
  have HG := Lib.hid (show w.grownBy (W1.setRow g c2.toArray) (some g) from by
    rw [hW1]
    exact grown_two w g _ _)
  rw [← hW1] at hcp1
  have hov : ∀ lb cb, (callFunc 139 #[.slice (some ⟨vb, 0, none⟩) 1 1, .slice (some ⟨g, (k + 1) * 2, none⟩) lb cb]).run Try.prog w = .ok (.value (.bool false)) w := fun lb cb => ovl w g vb _ 1 1 lb cb tv _ _ _ hx hg hne (by rw [hcs]; omega)
  have hcm' : cap ≤ 9223372036854775807 := by unfold maxLen at hcm; omega
  clear hcm
  clear hg htake hx hsrc r1 r2 r3 hc1 hc2 hdl hg1 hx1 hW1 hcs hxl hnl h1 h2
  have hz2 : ¬ ((k : Int) = (n : Int)) := by omega
  have hw1 : IntKind.i64.wrap ((k : Int) + 1) = (k : Int) + 1 := by rw [IntKind.wrap_i64]; omega
  have hb1 : (0 : Int) ≤ (k : Int) + 1 := by omega
  have hin : k ≤ n := by omega
  have htn : ((k : Int) + 1).toNat = k + 1 := by omega
  have hb2 : ¬ (cap = k + 1) := by omega
  have hb3 : (k : Int) ≤ (n : Int) + 1 := by omega
  have hb4 : ¬ (cap = k) := by omega
  go_enter Try.func101, Try.ntmps101
  go_wp2_with (simp only [hov])
  go_region_law (refine step_copy_runI rfl _ _ 40 40 rfl _ _ (by simp [Act.eval, Act.put]) (by simp [Act.eval, Act.put]) (hcp1 _ _ _) ?_)
  go_wp2_with (at_builtin; refine wpList_copy_runI _ rfl _ _ 40 40 rfl _ _ rfl rfl (hcp2 _ _) ?_)
  go_ret
  exact ⟨_, rfl, HE.out, HG.out⟩

set_option maxRecDepth 100000 in
set_option maxHeartbeats 8000000 in
/-- In the middle, where there is no room: a new row. -/
theorem grow_any (base g cap : Nat) (n k : Nat) (xs news : List Value) (hk : k < n) (hl : n ≤ 1048576) (hroom : cap < n + 1) (hnc : n ≤ cap) (hcm : cap ≤ maxLen) (vb : Nat) (tv : TypeId) (w : World) (hb : base ≤ w.heap.size)
    (ho : w.ownsRow base 58 2 (.slice (some ⟨g, 0, none⟩) n cap) n xs)
    (hx : Blk w vb tv news.toArray) (hnl : news.length = 2) (h1 : ∀ u ∈ xs, u.oneCell' = true) (h2 : ∀ u ∈ news, u.oneCell' = true) :
    Calls Try.prog 101 #[.slice (some ⟨g, 0, none⟩) n cap, .int .i64 k, .slice (some ⟨vb, 0, none⟩) 1 1] w fun e w' => ∃ v', e = .returned v' ∧ w'.ownsRow base 58 2 v' (n + 1) (xs.take (k * 2) ++ news ++ xs.drop (k * 2)) ∧ w.grownBy w' (some g) := by
  obtain ⟨t0, hi0, hz0, hz1, hz2⟩ := info_parts info
  have hsz : (Try.prog.info? 58).map (·.size) = some 2 := by rw [hi0]; simp [hz1]
  have hxl := ho.1
  have hgw := (ho.lt g rfl).2
  have hxw := hx.lt
  have hdl : (xs.drop (k * 2)).length = (n - k) * 2 := by rw [List.length_drop, hxl]; omega
  have hcl : ∀ j u, xs[j]? = some u → w.cell? ⟨g, j, none⟩ = some u := fun j u hj => by
    have := ho.cells (g := g) rfl j u hj
    rwa [add_none, Nat.zero_add] at this
  have hik : k + (n + 1 - k) = n + 1 := by omega
  have hkk : (n : Int) + 1 - (k : Int) = ((n + 1 - k : Nat) : Int) := by omega
  obtain ⟨G, hG⟩ : ∃ G, grownCap w (n + 1) cap 58 = G := ⟨_, rfl⟩
  have hGn : n + 1 ≤ G := by rw [← hG]; exact grownCap_ge w _ _ _
  have hG63 : G ≤ maxLen := by
    rw [← hG]
    exact grownCap_le_maxLen w (n + 1) cap _ (by unfold maxLen; omega)
  have hold : (Builtin.firstCells t0.size k (.slice (some ⟨g, 0, none⟩) k cap)).run Try.prog w.drew = .ok (xs.take (k * 2)).toArray w.drew := by
    rw [hz1]
    exact run_firstCells_some w.drew 2 k ⟨g, 0, none⟩ k cap (xs.take (k * 2)) (by rw [List.length_take]; omega) (fun j u hj => by
      rw [add_none, Nat.zero_add]
      rw [List.getElem?_take] at hj
      split at hj
      · exact hcl j u hj
      · cases hj)
  obtain ⟨c0, hc0⟩ : ∃ c0 : List Value, ((xs.take (k * 2)).toArray ++ Builtin.zeroCells (Value.agg #[.int .i64 0, .int .i64 0]).cells (n + 1 - k) ++ Builtin.zeroCells (Value.agg #[.int .i64 0, .int .i64 0]).cells (G - (n + 1))).toList = c0 := ⟨_, rfl⟩
  have hc0' : ((xs.take (k * 2)).toArray ++ Builtin.zeroCells (Value.agg #[.int .i64 0, .int .i64 0]).cells (n + 1 - k) ++ Builtin.zeroCells (Value.agg #[.int .i64 0, .int .i64 0]).cells (G - (n + 1))) = c0.toArray := by rw [← hc0]
  have hl0 : c0.length = G * 2 := by
    rw [← hc0, Array.length_toList, Array.size_append, Array.size_append, size_zeroCells, size_zeroCells, List.size_toArray, List.length_take, hxl, show (Value.agg #[.int .i64 0, .int .i64 0]).cells.size = 2 from rfl]
    omega
  have ht0 : c0.take (k * 2) = xs.take (k * 2) := by
    rw [← hc0, Array.toList_append, Array.toList_append, List.append_assoc]
    exact List.take_left' (by simp only [List.length_take, hxl]; omega)
  have hrz : ∀ ty, (Builtin.append_ #[40, 3] ty #[.slice (some ⟨g, 0, none⟩) k cap, .int .i64 ((n : Int) + 1 - (k : Int))]).run Try.prog w =
      .ok (.slice (some ⟨w.heap.size, 0, none⟩) (n + 1) G) (w.drew.alloc (.cells c0.toArray 58)) := fun ty => by
    have h := Lib.run_append_grow_zeros w 40 3 ty 58 t0 _ .i64 .i64 Try.underlying40 Try.underlying3 hi0 hz0 (some ⟨g, 0, none⟩) k cap (xs.take (k * 2)).toArray.toList (by simpa using hold) (n + 1 - k) (by omega) (by omega) (by omega) (by omega) (by rw [hz2]; omega) (by rw [hz2, hik]; exact growslice_fits (by omega) (by omega))
    rw [hik, hG] at h
    rw [hkk, ← hc0']
    simpa using h
  obtain ⟨r1, r2, r3⟩ := grow_take (xs := xs) (news := news) (cur := c0) (K := k * 2) (M := 2) (N := n * 2) hxl (by omega) hnl (by rw [hl0]; omega) ht0
  obtain ⟨c1, hc1⟩ : ∃ c1, c0.take (k * 2) ++ news ++ c0.drop (k * 2 + news.length) = c1 := ⟨_, rfl⟩
  simp only [hc1] at r1 r2 r3
  obtain ⟨c2, hc2⟩ : ∃ c2, c1.take (k * 2 + 2) ++ xs.drop (k * 2) ++ c1.drop (k * 2 + 2 + (xs.drop (k * 2)).length) = c2 := ⟨_, rfl⟩
  rw [hc2] at r1 r2
  obtain ⟨W1, hW1⟩ : ∃ W1, w.drew.alloc (.cells c0.toArray 58) = W1 := ⟨_, rfl⟩
  rw [hW1] at hrz
  have hgN : Blk W1 w.heap.size 58 c0.toArray := by rw [← hW1]; exact Blk.new w.drew _ _
  have hxN : Blk W1 vb tv news.toArray := by rw [← hW1]; exact hx.drew.alloc _
  have hclN : ∀ j u, xs[j]? = some u → W1.cell? ⟨g, j, none⟩ = some u := fun j u hj => by rw [← hW1, World.cell?_alloc_past (w := w.drew) _ g j hgw]; exact hcl j u hj
  have hcpA : ∀ ty dc, (Builtin.copy_ #[40, 40] ty #[.slice (some ⟨w.heap.size, k * 2, none⟩) (n + 1 - k) dc, .slice (some ⟨vb, 0, none⟩) 1 1]).run Try.prog W1 = .ok (goInt 1) (W1.setRow w.heap.size c1.toArray) := fun ty dc => by
    have := run_copy_rowN (P := Try.prog) W1 40 40 ty 58 2 w.heap.size (k * 2) (n + 1 - k) dc ⟨vb, 0, none⟩ 1 1 c0.toArray 58 news Try.underlying40 hsz hgN (by rw [hnl]; simp only [Nat.min_def]; split <;> omega) (fun j u hj => by rw [add_none, Nat.zero_add]; exact hxN.cell j (by simpa using hj)) (by rw [hnl]; simp only [List.size_toArray, hl0]; omega) h2
    simp only [List.toList_toArray] at this
    rw [hc1, show Nat.min 1 (n + 1 - k) = 1 by simp only [Nat.min_def]; split <;> omega] at this
    exact this
  obtain ⟨W2, hW2⟩ : ∃ W2, W1.setRow w.heap.size c1.toArray = W2 := ⟨_, rfl⟩
  rw [hW2] at hcpA
  have hgM : Blk W2 w.heap.size 58 c1.toArray := by rw [← hW2]; exact setRow_heap W1 _ _ _ _ _ hgN
  have hclM : ∀ j u, xs[j]? = some u → W2.cell? ⟨g, j, none⟩ = some u := fun j u hj => by
    rw [← hW2]
    exact (World.cell?_of_block (setRow_other W1 w.heap.size g _ (by omega))).trans (hclN j u hj)
  have hcpB : ∀ ty dc sc, (Builtin.copy_ #[40, 40] ty #[.slice (some ⟨w.heap.size, (k + 1) * 2, none⟩) (n - k) dc, .slice (some ⟨g, k * 2, none⟩) (n - k) sc]).run Try.prog W2.drew = .ok (goInt ((n - k : Nat) : Int)) (W2.drew.setRow w.heap.size c2.toArray) := fun ty dc sc => by
    have := run_copy_rowN (P := Try.prog) W2.drew 40 40 ty 58 2 w.heap.size ((k + 1) * 2) (n - k) dc ⟨g, k * 2, none⟩ (n - k) sc c1.toArray 58 (xs.drop (k * 2)) Try.underlying40 hsz hgM.drew (by rw [hdl]; congr 1; simp only [Nat.min_def]; split <;> omega) (fun j u hj => by
      rw [List.getElem?_drop] at hj
      rw [add_none]
      exact hclM _ u hj) (by rw [hdl]; simp only [List.size_toArray, r3, hl0]; omega) (fun u hu => h1 u (List.mem_of_mem_drop hu))
    simp only [List.toList_toArray] at this
    rw [show (k + 1) * 2 = k * 2 + 2 by omega, hc2, show Nat.min (n - k) (n - k) = n - k by simp only [Nat.min_def]; split <;> omega] at this
    rw [show (k + 1) * 2 = k * 2 + 2 by omega]
    exact this
  have HE := Lib.hid (show World.ownsRow (W2.drew.setRow w.heap.size c2.toArray) base 58 2 (.slice (some ⟨w.heap.size, 0, none⟩) (n + 1) G) (n + 1) (xs.take (k * 2) ++ news ++ xs.drop (k * 2)) from
    owns_of_block hb (setRow_heap W2.drew _ _ _ _ _ hgM.drew) hGn hG63 (by rw [r2, hl0]) (by rw [← r1, show (n + 1) * 2 = n * 2 + 2 by omega]) (by simp only [List.length_append, hdl, hnl, List.length_take, hxl]; omega))
  have HG := Lib.hid (show w.grownBy (W2.drew.setRow w.heap.size c2.toArray) (some g) from by
    rw [← hW2, ← hW1]
    exact grown_new w _ _ _ _ _)
  have hcm' : cap ≤ 9223372036854775807 := by unfold maxLen at hcm; omega
  have hG63' : G ≤ 9223372036854775807 := by unfold maxLen at hG63; omega
  clear hcm hG63
  clear ho hx hold r1 r2 r3 hc0 hc0' hc1 hc2 hl0 ht0 hdl hgN hxN hclN hgM hclM hW1 hW2 hxl hnl h1 h2 hcl hkk hik hG
  have hz2 : ¬ ((k : Int) = (n : Int)) := by omega
  have hz3 : (cap : Int) < (n : Int) + 1 := by omega
  have hGi : ¬ (G = k) := by omega
  have hGim : ¬ (G = k + 1) := by omega
  have hci : ¬ (cap = k) := by omega
  have hw1 : IntKind.i64.wrap ((k : Int) + 1) = (k : Int) + 1 := by rw [IntKind.wrap_i64]; omega
  have hb1 : (0 : Int) ≤ (k : Int) + 1 := by omega
  have hin : k ≤ n := by omega
  have htn : ((k : Int) + 1).toNat = k + 1 := by omega
  have hb3 : (k : Int) ≤ (n : Int) := by omega
  go_enter Try.func101, Try.ntmps101
  go_wp2_with (first
    | (at_builtin; refine Lib.wpList_append_run _ rfl _ _ _ _ rfl _ _ rfl rfl _ _ (hrz _) ?_)
    | (at_builtin; refine wpList_copy_runI _ rfl _ _ 40 40 rfl _ _ rfl rfl (hcpA _ _) ?_))
  go_region_law (refine step_copy_runI rfl _ _ 40 40 rfl _ _ (by simp [Act.eval, Act.put]) (by simp [Act.eval, Act.put]) (hcpB _ _ _) ?_)
  go_wp2
  go_ret
  exact ⟨_, rfl, HE.out, HG.out⟩

/-- slices.Insert of one element. -/
theorem ins_any (base : Nat) (v : Value) (n k : Nat) (xs news : List Value) (hk : k ≤ n) (hl : n ≤ 1048576) (vb : Nat) (tv : TypeId) (w : World) (ho : w.ownsRow base 58 2 v n xs) (hb : base ≤ w.heap.size)
    (hx : Blk w vb tv news.toArray) (hnl : news.length = 2) (h1 : ∀ u ∈ xs, u.oneCell' = true) (h2 : ∀ u ∈ news, u.oneCell' = true) (hne : v.ownBlock ≠ some vb) :
    Calls Try.prog 101 #[v, .int .i64 k, .slice (some ⟨vb, 0, none⟩) 1 1] w fun e w' => ∃ v', e = .returned v' ∧ w'.ownsRow base 58 2 v' (n + 1) (xs.take (k * 2) ++ news ++ xs.drop (k * 2)) ∧ w.grownBy w' v.ownBlock := by
  rcases Nat.lt_or_ge k n with hkn | hkn
  · rcases ho.2 with ⟨rfl, rfl⟩ | ⟨g, cap, cur, rfl, hbg, hg, hnc, hcm, hcs, htake⟩
    · omega
    · rcases Nat.lt_or_ge cap (n + 1) with hr | hr
      · exact grow_any base g cap n k xs news hkn hl hr hnc hcm vb tv w hb ho hx hnl h1 h2
      · exact shift_any base g cap n k cur xs news hkn hr hcm vb tv w hbg hg hcs htake ho.1 hx hnl h1 h2 (fun e => hne (by rw [e]; rfl))
  · obtain rfl : k = n := by omega
    refine (end_any base v k xs news hl vb tv w ho hb hx hnl h2).mono ?_
    rintro e w' ⟨v', rfl, h3, h4⟩
    refine ⟨v', rfl, ?_, h4⟩
    rw [List.take_of_length_le (by rw [ho.1]; exact Nat.le_refl _), List.drop_eq_nil_of_le (by rw [ho.1]; exact Nat.le_refl _), List.append_nil]
    exact h3
end Go.Proofs.Ytfpfnnindlfgfaa.CtV
