/- A number put to its place in a list: the model's helper. -/
import Derived.Test.YtdfmfmndmldggaaBaN
import Derived.Deep.AppendLies
import Derived.Deep.RegionLaw
namespace Go.Proofs.Ytdfmfmndmldggaa.PutS
open Go.RowKit Lb IntS MapS SpecB TblS PrtB
set_option linter.unusedSimpArgs false
set_option linter.unusedVariables false

/-- An append at a step of a region that draws its order. -/
theorem step_own {P : Program} {w : World} {ops : Array Oper} {o : Oper} {a : Act} {K : Act → World → Prop} {Q : Exit → Act → World → Prop} {E : Prop} (hgd : o.guard = none) (s x : Operand) (t : TypeId)
    (ho : o.op = .call { callee := .builtin .append, args := #[s, x], argTypes := #[t, t] })
    (base : Nat) (e : TypeId) (i : TypeInfo) (z : Value) (size bytes : Nat) (ht : P.underlying t = some (.slice e)) (hi : P.info? e = some i) (hz : i.zero = some z)
    (hsize : i.size = size) (hby : i.bytes = bytes) (hzs : z.cells.size = size) (hsz : 0 < size)
    (v : Value) (n : Nat) (xs : List Value) (hs : a.eval s = v) (hown : w.ownsRow base e size v n xs)
    (ad : Addr) (m c : Nat) (news : List Value) (hx : a.eval x = .slice (some ad) m c) (hl : news.length = m * size) (hnews : ∀ j u, news[j]? = some u → w.cell? (ad.add j) = some u) (h1 : ∀ u ∈ news, u.oneCell' = true)
    (h63 : n + m ≤ maxLen) (hbytes : (n + m) * bytes ≤ 140737488355328) (hbase : base ≤ w.heap.size)
    (h : ∀ v' w', w'.ownsRow base e size v' (n + m) (xs ++ news) → w.grownBy w' v.ownBlock → K (a.put o.dst v') w') :
    if Region.wanted o (yielded ops a.tmps) = true then Oper.wp P o a w K Q else E := by
  have hw : Region.wanted o (yielded ops a.tmps) = true := by simp [Region.wanted, hgd]
  rw [if_pos hw]
  exact wp_append_own w s x t ho base e i z size bytes ht hi hz hsize hby hzs hsz v n xs hs hown ad m c news hx hl hnews h1 h63 hbytes hbase fun v' w' h2 h3 _ => h v' w' h2 h3

--LEM
theorem news_of {w W : World} {b off : Nat} {l sub : List Nat} (hc : ∀ j, j < l.length → w.cell? ⟨b, off + j, none⟩ = some (.int .i64 (l.getD j 0 : Nat))) (hb : b < w.heap.size) (hB : Below w.heap.size w W) (s : Nat) (ad : Addr)
    (hs : ∀ j, j < sub.length → s + j < l.length ∧ sub.getD j 0 = l.getD (s + j) 0 ∧ ad.add j = ⟨b, off + (s + j), none⟩) : ∀ (j : Nat) (u : Value), ((ints sub).map (Value.int .i64))[j]? = some u → W.cell? (ad.add j) = some u := by
  intro j u hu
  have hj : j < sub.length := by
    rcases Nat.lt_or_ge j sub.length with h | h
    · exact h
    · rw [List.getElem?_eq_none (by simp [ints]; exact h)] at hu; cases hu
  obtain ⟨h1, h2, h3⟩ := hs j hj
  rw [h3, hB.cell (p := ⟨b, off + (s + j), none⟩) hb, hc _ h1, ← h2, ← hu]
  simp [ints, hj]
theorem one_news {w : World} {g : Nat} {x : Value} (h : w.cell? ⟨g, 0, none⟩ = some x) : ∀ (j : Nat) (u : Value), [x][j]? = some u → w.cell? ((⟨g, 0, none⟩ : Addr).add j) = some u := by
  intro j u hu
  cases j with
  | zero => simp at hu; subst hu; simpa [Addr.add] using h
  | succ j => simp at hu
theorem ints_one (sub : List Nat) : ∀ u ∈ (ints sub).map (Value.int .i64), u.oneCell' = true := by
  intro u hu
  simp only [ints, List.map_map, List.mem_map] at hu
  obtain ⟨n, _, rfl⟩ := hu
  simp [Value.oneCell']
theorem ints_put {a c : List Nat} {y : Nat} : (([] ++ (ints a).map (Value.int .i64) ++ [Value.int .i64 y]) ++ (ints c).map (Value.int .i64)) = (ints (a ++ y :: c)).map (Value.int .i64) := by simp [ints]
theorem own_fin {w : World} {base j y : Nat} {v : Value} {l : List Nat} (hj : j ≤ l.length) (h : w.ownsRow base 3 1 v (0 + j + 1 + (l.length - j)) (([] ++ (ints (l.take j)).map (Value.int .i64) ++ [Value.int .i64 y]) ++ (ints (l.drop j)).map (Value.int .i64))) (hp : put l y = l.take j ++ y :: l.drop j) : OwnI w base v (ints (put l y)) := by
  unfold OwnI
  have e : (ints (l.take j ++ y :: l.drop j)).length = 0 + j + 1 + (l.length - j) := by simp [ints]; omega
  rw [hp, e, ← ints_put]
  exact h
theorem grown_cell {w w' : World} {r : Option Nat} {g : Nat} {x : Value} (h : w.cell? ⟨g, 0, none⟩ = some x) (hg : w.grownBy w' r) (hr : r ≠ some g) : w'.cell? ⟨g, 0, none⟩ = some x := hg.cell h (fun e => hr e.symm)

set_option maxRecDepth 100000 in
set_option maxHeartbeats 8000000 in
theorem put_new (l : List Nat) (y : Nat) (b off cap : Nat) (w : World) (hc : ∀ j, j < l.length → w.cell? ⟨b, off + j, none⟩ = some (.int .i64 (l.getD j 0 : Nat))) (hb : b < w.heap.size) (hl : l.length ≤ 1000) (hcap : l.length ≤ cap) (hs : l.Pairwise (· < ·)) (hy : y ∉ l) :
    Calls Try.prog 72 #[.slice (some ⟨b, off, none⟩) l.length cap, .int .i64 y] w fun e w' => (∃ v, e = .returned v ∧ OwnI w' w.heap.size v (ints (put l y))) ∧ Below w.heap.size w w' := by
  obtain ⟨t0, hi, hz0, hz1, hz2⟩ := info_parts iInfo
  have HC := Lib.hid hc
  have HS := Lib.hid hs
  have o1 := Lib.hid (show ((w.drew).alloc (.cells #[] 3)).ownsRow w.heap.size 3 1 (.slice (some ⟨w.heap.size, 0, none⟩) 0 0) 0 [] from World.ownsRow_made (e := 3) (size := 1) w.drew #[] 0 (Nat.le_refl _) (Nat.zero_le _) rfl)
  have o2 := Lib.hid (show (((w.drew).alloc (.cells #[] 3)).alloc (.cells #[.int .i64 y] 3)).ownsRow w.heap.size 3 1 (.slice (some ⟨w.heap.size, 0, none⟩) 0 0) 0 [] from o1.out.alloc _)
  have o3 := Lib.hid (show (((w.drew).alloc (.cells #[.int .i64 y] 3)).alloc (.cells #[] 3)).ownsRow w.heap.size 3 1 (.slice (some ⟨w.heap.size + 1, 0, none⟩) 0 0) 0 [] from by
    have := World.ownsRow_made (e := 3) (size := 1) (base := w.heap.size) ((w.drew).alloc (.cells #[.int .i64 y] 3)) #[] 0 (by simp) (Nat.zero_le _) rfl
    rw [World.size_alloc] at this
    exact this)
  have b1 := Lib.hid (show Below w.heap.size w ((w.drew).alloc (.cells #[] 3)) from ((Below.refl _ _).drew).alloc (Nat.le_refl _) _)
  have b2 := Lib.hid (show Below w.heap.size w (((w.drew).alloc (.cells #[] 3)).alloc (.cells #[.int .i64 y] 3)) from b1.out.alloc b1.out.size _)
  have b3 := Lib.hid (show Below w.heap.size w (((w.drew).alloc (.cells #[.int .i64 y] 3)).alloc (.cells #[] 3)) from (((Below.refl _ _).drew).alloc (Nat.le_refl _) _).alloc (by simp) _)
  have d2 := Lib.hid (show (((w.drew).alloc (.cells #[] 3)).alloc (.cells #[.int .i64 y] 3)).cell? ⟨w.heap.size + 1, 0, none⟩ = some (.int .i64 y) from by
    have := cell_one_new ((w.drew).alloc (.cells #[] 3)) (.int .i64 y) 3 0 (.int .i64 y) rfl
    simpa [Addr.add] using this)
  have d3 := Lib.hid (show (((w.drew).alloc (.cells #[.int .i64 y] 3)).alloc (.cells #[] 3)).cell? ⟨w.heap.size, 0, none⟩ = some (.int .i64 y) from by
    have := cell_one_new (w.drew) (.int .i64 y) 3 0 (.int .i64 y) rfl
    rw [World.cell?_alloc_lt _ _ _ (by simp)]
    simpa [Addr.add] using this)
  clear hc hs
  go_enter Try.func72, Try.ntmps72
  go_wp2
  go_loop [5] (fun i => ∃ j : Nat, j ≤ l.length ∧ i = .int .i64 j ∧ ∀ i, i < j → l.getD i 0 < y) (fun i => l.length - (intOf i).toNat)
  case atStart => exact ⟨0, Nat.zero_le _, rfl, fun i h => by omega⟩
  case round =>
    obtain ⟨j, hj, rfl, hlow⟩ := hrel
    have HTk := Lib.hid (fun W (hB : Below w.heap.size w W) => news_of (sub := l.take j) HC.out hb hB 0 ⟨b, off, none⟩ (fun i hi => by
      rw [List.length_take] at hi
      refine ⟨by omega, ?_, ?_⟩
      · simp [List.getD, List.getElem?_take, show i < j by omega]
      · rw [add_of_spot rfl]; simp))
    have HDr := Lib.hid (fun W (hB : Below w.heap.size w W) => news_of (sub := l.drop j) HC.out hb hB j (if cap = j then ⟨b, off, none⟩ else ⟨b, off + j, none⟩) (fun i hi => by
      rw [List.length_drop] at hi
      refine ⟨by omega, ?_, ?_⟩
      · simp [List.getD, List.getElem?_drop]
      · rw [if_neg (by omega), add_of_spot rfl]; simp; omega))
    have HLt := Lib.hid (show ((ints (l.take j)).map (Value.int .i64)).length = j * 1 from by simp [ints]; omega)
    have HLd := Lib.hid (show ((ints (l.drop j)).map (Value.int .i64)).length = (l.length - j) * 1 from by simp [ints])
    have hjc : j ≤ cap := by omega
    by_cases hlt : j < l.length
    · have g1 := HC.out j hlt
      by_cases hly : l.getD j 0 < y
      · have hly' : ((l.getD j 0 : Nat) : Int) < (y : Int) := by omega
        have HN := Lib.hid (all_succ (p := fun i => l.getD i 0 < y) hlow hly)
        obtain ⟨z, hz⟩ : ∃ z, l.getD j 0 = z := ⟨_, rfl⟩
        rw [hz] at g1 hly'
        clear hz hlow hly
        go_wp2
        go_round
        case rel => exact ⟨j + 1, by omega, by go_num, HN.out⟩
        case measure => simp [intOf]; omega
      · have hne : l.getD j 0 ≠ y := fun e => hy (by rw [← e]; exact getD_mem hlt)
        have HP := Lib.hid (put_split (n := y) HS.out hj hlow (fun _ => by omega))
        obtain ⟨z, hz⟩ : ∃ z, l.getD j 0 = z := ⟨_, rfl⟩
        rw [hz] at g1 hly hne
        have h1 : decide ((z : Int) < (y : Int)) = false := by simp; omega
        have h2 : ((z : Int) == (y : Int)) = false := by simp; omega
        have h3 : ¬ z < y := by omega
        have h4 : ¬ z = y := hne
        have h5 : decide (z < y) = false := by simp; omega
        clear hz hlow hly hne
        go_upto_region 6 with (fail)
        go_region_law (first
          | (refine step_own rfl (.tmp 33) (.tmp 36) 24 rfl w.heap.size 3 t0 (.int .i64 0) 1 8 Try.underlying24 hi hz0 hz1 hz2 rfl (by decide) (.slice (some ⟨w.heap.size, 0, none⟩) 0 0) 0 [] (by simp [Act.eval, Act.put]) o1.out ⟨b, off, none⟩ j cap ((ints (l.take j)).map (Value.int .i64)) (by simp [Act.eval, Act.put]) HLt.out (HTk.out _ b1.out) (ints_one _) (by unfold maxLen; omega) (by omega) (by simp <;> omega) ?_; intro v37 w37 h37 g37; have HB37 := Lib.hid (b1.out.grown g37 (by simp <;> omega) (fun k e => by simp [Value.ownBlock] at e; omega)); have H37 := Lib.hid h37; have HC37 := Lib.hid (show True from trivial); clear h37 g37)
          | (refine step_own rfl (.tmp 33) (.tmp 36) 24 rfl w.heap.size 3 t0 (.int .i64 0) 1 8 Try.underlying24 hi hz0 hz1 hz2 rfl (by decide) (.slice (some ⟨w.heap.size, 0, none⟩) 0 0) 0 [] (by simp [Act.eval, Act.put]) o2.out ⟨b, off, none⟩ j cap ((ints (l.take j)).map (Value.int .i64)) (by simp [Act.eval, Act.put]) HLt.out (HTk.out _ b2.out) (ints_one _) (by unfold maxLen; omega) (by omega) (by simp <;> omega) ?_; intro v37 w37 h37 g37; have HB37 := Lib.hid (b2.out.grown g37 (by simp <;> omega) (fun k e => by simp [Value.ownBlock] at e; omega)); have H37 := Lib.hid h37; have HC37 := Lib.hid (show w37.cell? ⟨w.heap.size + 1, 0, none⟩ = some (.int .i64 y) from grown_cell d2.out g37 (by simp [Value.ownBlock])); clear h37 g37)
          | (refine step_own rfl (.tmp 33) (.tmp 36) 24 rfl w.heap.size 3 t0 (.int .i64 0) 1 8 Try.underlying24 hi hz0 hz1 hz2 rfl (by decide) (.slice (some ⟨w.heap.size + 1, 0, none⟩) 0 0) 0 [] (by simp [Act.eval, Act.put]) o3.out ⟨b, off, none⟩ j cap ((ints (l.take j)).map (Value.int .i64)) (by simp [Act.eval, Act.put]) HLt.out (HTk.out _ b3.out) (ints_one _) (by unfold maxLen; omega) (by omega) (by simp <;> omega) ?_; intro v37 w37 h37 g37; have HB37 := Lib.hid (b3.out.grown g37 (by simp <;> omega) (fun k e => by simp [Value.ownBlock] at e; omega)); have H37 := Lib.hid h37; have HC37 := Lib.hid (show w37.cell? ⟨w.heap.size, 0, none⟩ = some (.int .i64 y) from grown_cell d3.out g37 (by simp [Value.ownBlock])); clear h37 g37)
          | (refine step_own rfl (.tmp 37) (.tmp 39) 24 rfl w.heap.size 3 t0 (.int .i64 0) 1 8 Try.underlying24 hi hz0 hz1 hz2 rfl (by decide) v37 (0 + j) _ (by simp [Act.eval, Act.put]) (H37.out.alloc _) ⟨w37.heap.size, 0, none⟩ 1 1 [.int .i64 y] (by simp [Act.eval, Act.put]) rfl (cell_one_new _ _ _) (by simp [Value.oneCell']) (by unfold maxLen; omega) (by omega) (by have := HB37.out.size; simp <;> omega) ?_; intro v40 w40 h40 g40; have HB40 := Lib.hid ((HB37.out.alloc HB37.out.size _).grown g40 (by have := HB37.out.size; simp <;> omega) (fun k e => (own_lt H37.out k e).1)); have H40 := Lib.hid h40; clear h40 g40)
          | (refine step_own rfl (.tmp 37) (.tmp 39) 24 rfl w.heap.size 3 t0 (.int .i64 0) 1 8 Try.underlying24 hi hz0 hz1 hz2 rfl (by decide) v37 (0 + j) _ (by simp [Act.eval, Act.put]) H37.out ⟨w.heap.size + 1, 0, none⟩ 1 1 [.int .i64 y] (by simp [Act.eval, Act.put]) rfl (one_news HC37.out) (by simp [Value.oneCell']) (by unfold maxLen; omega) (by omega) HB37.out.size ?_; intro v40 w40 h40 g40; have HB40 := Lib.hid (HB37.out.grown g40 HB37.out.size (fun k e => (own_lt H37.out k e).1)); have H40 := Lib.hid h40; clear h40 g40)
          | (refine step_own rfl (.tmp 37) (.tmp 39) 24 rfl w.heap.size 3 t0 (.int .i64 0) 1 8 Try.underlying24 hi hz0 hz1 hz2 rfl (by decide) v37 (0 + j) _ (by simp [Act.eval, Act.put]) H37.out ⟨w.heap.size, 0, none⟩ 1 1 [.int .i64 y] (by simp [Act.eval, Act.put]) rfl (one_news HC37.out) (by simp [Value.oneCell']) (by unfold maxLen; omega) (by omega) HB37.out.size ?_; intro v40 w40 h40 g40; have HB40 := Lib.hid (HB37.out.grown g40 HB37.out.size (fun k e => (own_lt H37.out k e).1)); have H40 := Lib.hid h40; clear h40 g40)
          | (refine step_own rfl (.tmp 40) (.tmp 43) 24 rfl w.heap.size 3 t0 (.int .i64 0) 1 8 Try.underlying24 hi hz0 hz1 hz2 rfl (by decide) v40 (0 + j + 1) _ (by simp [Act.eval, Act.put]) H40.out (if cap = j then ⟨b, off, none⟩ else ⟨b, off + j, none⟩) (l.length - j) (cap - j) ((ints (l.drop j)).map (Value.int .i64)) (by simp [Act.eval, Act.put]; split <;> rfl) HLd.out (HDr.out _ HB40.out) (ints_one _) (by unfold maxLen; omega) (by omega) HB40.out.size ?_; intro v44 w44 h44 g44; have HB44 := Lib.hid (HB40.out.grown g44 HB40.out.size (fun k e => (own_lt H40.out k e).1)); have H44 := Lib.hid h44; clear h44 g44))
        all_goals go_wp2
        all_goals go_ret
        all_goals exact ⟨⟨v44, rfl, own_fin hj H44.out HP.out⟩, HB44.out⟩
    · obtain rfl : j = l.length := by omega
      have HP := Lib.hid (put_split (n := y) HS.out hj hlow (fun h => by omega))
      clear hlow
      go_upto_region 6 with (fail)
      go_region_law (first
        | (refine step_own rfl (.tmp 33) (.tmp 36) 24 rfl w.heap.size 3 t0 (.int .i64 0) 1 8 Try.underlying24 hi hz0 hz1 hz2 rfl (by decide) (.slice (some ⟨w.heap.size, 0, none⟩) 0 0) 0 [] (by simp [Act.eval, Act.put]) o1.out ⟨b, off, none⟩ l.length cap ((ints (l.take l.length)).map (Value.int .i64)) (by simp [Act.eval, Act.put]) HLt.out (HTk.out _ b1.out) (ints_one _) (by unfold maxLen; omega) (by omega) (by simp <;> omega) ?_; intro v37 w37 h37 g37; have HB37 := Lib.hid (b1.out.grown g37 (by simp <;> omega) (fun k e => by simp [Value.ownBlock] at e; omega)); have H37 := Lib.hid h37; have HC37 := Lib.hid (show True from trivial); clear h37 g37)
        | (refine step_own rfl (.tmp 33) (.tmp 36) 24 rfl w.heap.size 3 t0 (.int .i64 0) 1 8 Try.underlying24 hi hz0 hz1 hz2 rfl (by decide) (.slice (some ⟨w.heap.size, 0, none⟩) 0 0) 0 [] (by simp [Act.eval, Act.put]) o2.out ⟨b, off, none⟩ l.length cap ((ints (l.take l.length)).map (Value.int .i64)) (by simp [Act.eval, Act.put]) HLt.out (HTk.out _ b2.out) (ints_one _) (by unfold maxLen; omega) (by omega) (by simp <;> omega) ?_; intro v37 w37 h37 g37; have HB37 := Lib.hid (b2.out.grown g37 (by simp <;> omega) (fun k e => by simp [Value.ownBlock] at e; omega)); have H37 := Lib.hid h37; have HC37 := Lib.hid (show w37.cell? ⟨w.heap.size + 1, 0, none⟩ = some (.int .i64 y) from grown_cell d2.out g37 (by simp [Value.ownBlock])); clear h37 g37)
        | (refine step_own rfl (.tmp 33) (.tmp 36) 24 rfl w.heap.size 3 t0 (.int .i64 0) 1 8 Try.underlying24 hi hz0 hz1 hz2 rfl (by decide) (.slice (some ⟨w.heap.size + 1, 0, none⟩) 0 0) 0 [] (by simp [Act.eval, Act.put]) o3.out ⟨b, off, none⟩ l.length cap ((ints (l.take l.length)).map (Value.int .i64)) (by simp [Act.eval, Act.put]) HLt.out (HTk.out _ b3.out) (ints_one _) (by unfold maxLen; omega) (by omega) (by simp <;> omega) ?_; intro v37 w37 h37 g37; have HB37 := Lib.hid (b3.out.grown g37 (by simp <;> omega) (fun k e => by simp [Value.ownBlock] at e; omega)); have H37 := Lib.hid h37; have HC37 := Lib.hid (show w37.cell? ⟨w.heap.size, 0, none⟩ = some (.int .i64 y) from grown_cell d3.out g37 (by simp [Value.ownBlock])); clear h37 g37)
        | (refine step_own rfl (.tmp 37) (.tmp 39) 24 rfl w.heap.size 3 t0 (.int .i64 0) 1 8 Try.underlying24 hi hz0 hz1 hz2 rfl (by decide) v37 (0 + l.length) _ (by simp [Act.eval, Act.put]) (H37.out.alloc _) ⟨w37.heap.size, 0, none⟩ 1 1 [.int .i64 y] (by simp [Act.eval, Act.put]) rfl (cell_one_new _ _ _) (by simp [Value.oneCell']) (by unfold maxLen; omega) (by omega) (by have := HB37.out.size; simp <;> omega) ?_; intro v40 w40 h40 g40; have HB40 := Lib.hid ((HB37.out.alloc HB37.out.size _).grown g40 (by have := HB37.out.size; simp <;> omega) (fun k e => (own_lt H37.out k e).1)); have H40 := Lib.hid h40; clear h40 g40)
        | (refine step_own rfl (.tmp 37) (.tmp 39) 24 rfl w.heap.size 3 t0 (.int .i64 0) 1 8 Try.underlying24 hi hz0 hz1 hz2 rfl (by decide) v37 (0 + l.length) _ (by simp [Act.eval, Act.put]) H37.out ⟨w.heap.size + 1, 0, none⟩ 1 1 [.int .i64 y] (by simp [Act.eval, Act.put]) rfl (one_news HC37.out) (by simp [Value.oneCell']) (by unfold maxLen; omega) (by omega) HB37.out.size ?_; intro v40 w40 h40 g40; have HB40 := Lib.hid (HB37.out.grown g40 HB37.out.size (fun k e => (own_lt H37.out k e).1)); have H40 := Lib.hid h40; clear h40 g40)
        | (refine step_own rfl (.tmp 37) (.tmp 39) 24 rfl w.heap.size 3 t0 (.int .i64 0) 1 8 Try.underlying24 hi hz0 hz1 hz2 rfl (by decide) v37 (0 + l.length) _ (by simp [Act.eval, Act.put]) H37.out ⟨w.heap.size, 0, none⟩ 1 1 [.int .i64 y] (by simp [Act.eval, Act.put]) rfl (one_news HC37.out) (by simp [Value.oneCell']) (by unfold maxLen; omega) (by omega) HB37.out.size ?_; intro v40 w40 h40 g40; have HB40 := Lib.hid (HB37.out.grown g40 HB37.out.size (fun k e => (own_lt H37.out k e).1)); have H40 := Lib.hid h40; clear h40 g40)
        | (refine step_own rfl (.tmp 40) (.tmp 43) 24 rfl w.heap.size 3 t0 (.int .i64 0) 1 8 Try.underlying24 hi hz0 hz1 hz2 rfl (by decide) v40 (0 + l.length + 1) _ (by simp [Act.eval, Act.put]) H40.out (if cap = l.length then ⟨b, off, none⟩ else ⟨b, off + l.length, none⟩) (l.length - l.length) (cap - l.length) ((ints (l.drop l.length)).map (Value.int .i64)) (by simp [Act.eval, Act.put]; split <;> rfl) HLd.out (HDr.out _ HB40.out) (ints_one _) (by unfold maxLen; omega) (by omega) HB40.out.size ?_; intro v44 w44 h44 g44; have HB44 := Lib.hid (HB40.out.grown g44 HB40.out.size (fun k e => (own_lt H40.out k e).1)); have H44 := Lib.hid h44; clear h44 g44))
      all_goals go_wp2
      all_goals go_ret
      all_goals exact ⟨⟨v44, rfl, own_fin hj H44.out HP.out⟩, HB44.out⟩

end Go.Proofs.Ytdfmfmndmldggaa.PutS
