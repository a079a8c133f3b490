/- SplitString: the program's loop over the parts. -/
import Derived.Test.YtnenaponiahalaaDoorSplI
import Derived.RangeFuncCalls
namespace Go.Proofs.YtnenaponiahalaaDoor.SplC
open Go.RowKit Go.Shelf Lb SplI
set_option linter.unusedSimpArgs false
set_option linter.unusedVariables false

attribute [local go_sem] Oper.semAt_some

theorem sInfo : (Tryd.prog.info? 9).map (fun i => (i.zero, i.size, i.bytes)) = some (some (.string ByteArray.empty), 1, 16) := by kernel_rfl

theorem rebase {w : World} {b b' : Nat} {e : TypeId} {size : Nat} {v : Value} {n : Nat} {xs : List Value} (h : w.ownsRow b e size v n xs) (hg : ∀ g, v.ownBlock = some g → b' ≤ g) : w.ownsRow b' e size v n xs := by
  refine ⟨h.1, ?_⟩
  rcases h.2 with h2 | ⟨g, cap, cur, hv, hb, r⟩
  · exact .inl h2
  · exact .inr ⟨g, cap, cur, hv, hg g (by rw [hv]; rfl), r⟩

/-- An append whose run is known. -/
theorem wpListIn_append_run {F : Fence} {n : Nat} {P : Program} {w : World} {ops : Array Oper} {rest : List Oper} {o : Oper} {a : Act} {Q : Exit → Act → World → Prop}
    (hg : o.guard = none) (s x : Operand) (t : TypeId) (hop : o.op = Op.call { callee := Callee.builtin Builtin.append, args := #[s, x], argTypes := #[t, t] })
    {v u v' : Value} {w' : World} (hs : a.eval s = v) (hx : a.eval x = u) (hrun : (Builtin.append_ #[t, t] o.type #[v, u]).run P w = .ok v' w') (hK : wpListIn F n P ops Q rest (a.put o.dst v') w') :
    wpListIn F n P ops Q (o :: rest) a w := by
  refine wpListIn_plain hg fun K hK' => ?_
  unfold Oper.wpIn
  refine ⟨?_, ?_⟩
  · simp [Oper.about, hop, resolve, Target.leads, Sem.run_pure]
  · rw [Oper.semAt_plain F _ _ (by rw [hop]; intro c hc'; cases hc')]
    simp [execOp, hop, resolve, invoke, builtin, hs, hx, hrun, Result.andThen]
    exact hK' _ _ hK

/-- The first append: to a slice without room: a new row. -/
theorem first_append (W : World) (g : Nat) (x : ByteArray) : ∃ cap cs,
    (Builtin.append_ #[37, 37] 37 #[.slice (some ⟨g, 0, none⟩) 0 0, .slice (some ⟨W.heap.size, 0, none⟩) 1 1]).run Tryd.prog (W.alloc (.cells #[.string x] 9)) =
      .ok (.slice (some ⟨W.heap.size + 1, 0, none⟩) 1 cap) ((W.alloc (.cells #[.string x] 9)).alloc (.cells cs 9)).drew ∧ cs.size = cap ∧ 1 ≤ cap ∧ cap ≤ maxLen ∧ cs.toList.take 1 = [.string x] := by
  obtain ⟨i0, hi, hz0, hz1, hz2⟩ := info_parts sInfo
  have h := run_append_grow (P := Tryd.prog) (W.alloc (.cells #[.string x] 9)) 37 37 9 i0 (.string ByteArray.empty) Tryd.underlying37 hi hz0 ⟨g, 0, none⟩ 0 0 [] (by simp) (by simp) ⟨W.heap.size, 0, none⟩ 1 1 [.string x] (by rw [hz1]; rfl) (cell_one_new _ _ _) (by omega) (by simp) (by rw [hz2]; decide)
  have hge := grownCap_ge (W.alloc (.cells #[.string x] 9)) 1 0 9
  have hle := grownCap_le_maxLen (W.alloc (.cells #[.string x] 9)) 1 0 9 (by unfold maxLen; omega)
  simp only [Nat.zero_add, World.size_alloc] at h
  refine ⟨_, _, h, ?_, hge, hle, ?_⟩
  · simp [Builtin.zeroCells, Value.cells]; omega
  · simp

/-- The slice under way: the first, empty one; or one that lies behind the captured variables. -/
def GG (w : World) (pre : List ByteArray) (v : Value) : Prop :=
  (pre = [] ∧ v = .slice (some ⟨w.heap.size, 0, none⟩) 0 0) ∨ (pre ≠ [] ∧ ∀ g, v.ownBlock = some g → w.heap.size + 4 ≤ g)

set_option maxRecDepth 100000 in
set_option maxHeartbeats 2000000 in
theorem split_in (F : Fence) (n : Nat) (h3 : F.fn 19) (h4 : F.fn 32) (h5 : F.fn 40) (hro : F.round = none) (hn : 3 ≤ n) (s sep : ByteArray) (hs : s.size ≤ 4000) (h1 : sep.size = 1) (hp : 0 < sep.size) (w : World) :
    CallsIn F n Tryd.prog 19 #[.string s, .string sep] w fun e W' => ∃ v, e = .returned (.tuple #[v, .bool true]) ∧ W'.ownsRow w.heap.size 9 1 v (parts s sep[0]).length ((parts s sep[0]).map Value.string) ∧ Below w.heap.size w W' := by
  have hn1 : 1 ≤ n := by omega
  have h2 : ((sep.size : Int) != 1) = false := by simp [h1]
  have hN := parts_length s sep[0]
  clear h1
  obtain ⟨i0, hi, hz0, hz1, hz2⟩ := info_parts sInfo
  refine callsIn_of_wp_marks Tryd.func19 rfl h3 ?_ hro
  simp only [Tryd.ntmps19, List.size_toArray, List.length_cons, List.length_nil, Nat.reduceAdd, Nat.reduceSub, Array.replicate_succ, Array.replicate_zero, List.push_toArray, List.append_toArray, List.nil_append, List.cons_append]
  gi_wp2_with (gi_at_call 32; refine (between_in F (n - 1) h4 hro _ _ _).mono ?_; rintro e w' ⟨rfl, rfl⟩)
  have bO := Boxed.new (w.alloc (.cells #[] 9)) 37 (.slice (some ⟨w.heap.size, 0, none⟩) 0 0)
  have bS := Boxed.new ((w.alloc (.cells #[] 9)).alloc (.cells #[.slice (some ⟨w.heap.size, 0, none⟩) 0 0] 37)) 9 (.string s)
  have bC := Boxed.new (((w.alloc (.cells #[] 9)).alloc (.cells #[.slice (some ⟨w.heap.size, 0, none⟩) 0 0] 37)).alloc (.cells #[.string s] 9)) 5 (.int .u8 sep[0].toNat)
  simp only [World.size_alloc] at bO bS bC
  have hB0 : Below w.heap.size w ((((w.alloc (.cells #[] 9)).alloc (.cells #[.slice (some ⟨w.heap.size, 0, none⟩) 0 0] 37)).alloc (.cells #[.string s] 9)).alloc (.cells #[.int .u8 sep[0].toNat] 5)) :=
    ((((Below.refl _ w).alloc (Nat.le_refl _) _).alloc (by simp) _).alloc (by simp; omega) _).alloc (by simp; omega) _
  have hO0 : (w.alloc (.cells #[] 9)).ownsRow w.heap.size 9 1 (.slice (some ⟨w.heap.size, 0, none⟩) 0 0) 0 [] := World.ownsRow_made w #[] 0 (Nat.le_refl _) (Nat.zero_le _) rfl
  refine wpIn_rangeFunc_ownG hro hn1 (gf := 40) (lb := #[.pointer (some ⟨w.heap.size + 1 + 1, 0, none⟩), .pointer (some ⟨w.heap.size + 1 + 1 + 1, 0, none⟩)]) rfl h5 (enters_of Tryd.func40 (by kernel_rfl) rfl)
    (iter_stops F (n - 1) h5 hro (by omega) (w.heap.size + 1 + 1) (w.heap.size + 1 + 1 + 1) s sep[0] hs _ (by simp) (by simp) (bS.alloc _).cell bC.cell) KeepB.trans (keepB_put (by simp) (by simp)) (Below.refl _ _) (fun _ => rfl)
    (fun (pre : List ByteArray) W => (∃ v, Boxed W (w.heap.size + 1) 37 v ∧ W.ownsRow w.heap.size 9 1 v pre.length (pre.map Value.string) ∧ GG w pre v) ∧ Below w.heap.size (((((w.alloc (.cells #[] 9)).alloc (.cells #[.slice (some ⟨w.heap.size, 0, none⟩) 0 0] 37)).alloc (.cells #[.string s] 9)).alloc (.cells #[.int .u8 sep[0].toNat] 5))) W)
    (fun _ _ _ => False)
    (OwnFrom.and (Own.from (holdsRow_own w.heap.size (w.heap.size + 1) 37 9 1 (fun (pre : List ByteArray) => pre.length) (fun pre => pre.map Value.string) (fun pre v => GG w pre v)) _) (ownFrom_below hB0.size hB0.size))
    (fun _ _ _ _ _ hs _ _ => hs)
    ⟨⟨_, (bO.alloc _).alloc _, ((hO0.alloc _).alloc _).alloc _, .inl ⟨rfl, rfl⟩⟩, Below.refl _ _⟩
    (fun (x : ByteArray) => { tmps := #[.string s, .string sep, undef, undef, .slice none 0 0, .bool false, .pointer (some ⟨w.heap.size + 1, 0, none⟩), .string x, .string s, .int .i64 s.size, .bool (decide (4000 < (s.size : Int))), .bool (decide (4000 < (s.size : Int))), .string sep, .int .i64 sep.size, .bool false, .bool (decide (4000 < (s.size : Int))), undef, .slice (some ⟨w.heap.size, 0, none⟩) 0 0, .string s, .string sep, .int .u8 sep[0].toNat, .func (.func 40) #[] #[.pointer (some ⟨w.heap.size + 1 + 1, 0, none⟩), .pointer (some ⟨w.heap.size + 1 + 1 + 1, 0, none⟩)], .string x, undef, undef, undef, undef, undef], defers := [] }) ?assign ?body ?done ?stop
  case assign =>
    intro l x W K hK
    gi_wp2
    exact hK
  case body =>
    rintro l pre x W ⟨⟨v, hv, hrow, hG⟩, hB⟩ hlt
    have hsz := hB.size
    simp only [World.size_alloc] at hsz
    rcases hG with ⟨rfl, rfl⟩ | ⟨hne, hG⟩
    · have hc := hv.cell
      obtain ⟨cap, cs, hrun, hcs, hc1, hc2, hc3⟩ := first_append W w.heap.size x
      have hv1 : Boxed ((W.alloc (.cells #[.string x] 9)).alloc (.cells cs 9)) (w.heap.size + 1) 37 (.slice (some ⟨w.heap.size, 0, none⟩) 0 0) := (hv.alloc _).alloc _
      have hc4 := hv1.cell
      have hf4 := hv1.frozen
      have hC := Lib.hid hcs
      have hC3 := Lib.hid hc3
      have hR := Lib.hid hrun
      clear hcs hc3 hrun
      gi_wp2_with (gi_at_builtin; refine wpListIn_append_run rfl _ _ 37 rfl rfl rfl hR.out ?_)
      refine ⟨((((KeepsOthers.alloc _ _).trans (KeepsOthers.alloc _ _)).trans (KeepsOthers.setCell _ _ _)).trans (KeepsOthers.drew _)).from _, ?_, ⟨_, hv1.set _, ?_, .inr ⟨by simp, fun g e => ?_⟩⟩, ?_⟩
      · intro k hk
        show (((W.alloc _).alloc _).setCell _ _).heap[k]? = _
        have hkn : k ≠ w.heap.size + 1 := by rcases hk with rfl | rfl <;> omega
        have hkl : k < W.heap.size := by rcases hk with rfl | rfl <;> omega
        rw [Below.heap_setCell _ _ _ _ hkn, Below.heap_alloc _ _ _ (by simp; omega), Below.heap_alloc _ _ _ hkl]
      · refine ⟨rfl, .inr ⟨W.heap.size + 1, cap, cs, rfl, by omega, ?_, hc1, hc2, by simpa using hC.out, by simpa using hC3.out⟩⟩
        show (((W.alloc _).alloc _).setCell _ _).heap[_]? = _
        rw [Below.heap_setCell _ _ _ _ (by show W.heap.size + 1 ≠ w.heap.size + 1; omega)]
        have := heap_alloc_new (W.alloc (.cells #[.string x] 9)) (.cells cs 9)
        rwa [World.size_alloc] at this
      · simp [Value.ownBlock] at e; omega
      · exact (((hB.alloc (by omega) _).alloc (by simp; omega) _).setCell (p := ⟨w.heap.size + 1, 0, none⟩) (Nat.le_succ _) _).drew
    · have hc := hv.cell
      have hrow' := rebase hrow hG
      gi_wp2_with (gi_at_builtin; refine wpListIn_append_own _ rfl _ _ 37 rfl (w.heap.size + 4) 9 i0 (.string ByteArray.empty) 1 16 Tryd.underlying37 hi hz0 hz1 hz2 rfl (by decide) _ _ _ rfl (hrow'.alloc _) ⟨W.heap.size, 0, none⟩ 1 1 [.string x] rfl rfl (cell_one_new _ _ _) (by simp [Value.oneCell']) (by unfold maxLen; omega) (by omega) (by simp; omega) ?_; intro v' w1 hown' hgrow _; obtain ⟨g', cap', rfl⟩ := ownsRow_succ hown'; obtain ⟨hv1, hv2, hr2, hk2, hb2⟩ := hv.appended (by decide) hrow (by omega) (Nat.le_succ _) (rebase hown' (fun g e => by have := (hown'.lt g e).1; omega)) hgrow; have hc1 := hv1.cell; have hf1 := hv1.frozen)
      have hg' : (W.alloc (.cells #[.string x] 9)).grownBy w1 v.ownBlock := hgrow
      refine ⟨hk2.from _, ?_, ⟨_, hv2, by simpa using hr2, .inr ⟨by simp, fun g e => (hown'.lt g e).1⟩⟩, hB.trans hb2⟩
      intro k hk
      have hkn : k ≠ w.heap.size + 1 := by rcases hk with rfl | rfl <;> omega
      have hkl : k < W.heap.size := by rcases hk with rfl | rfl <;> omega
      have hko : some k ≠ v.ownBlock := fun e => by have := hG k e.symm; rcases hk with rfl | rfl <;> omega
      rw [Below.heap_setCell _ _ _ _ hkn, hg'.block k (by simp; omega) hko, Below.heap_alloc _ _ _ hkl]
  case done =>
    rintro D ys W hD rfl ⟨⟨v, hv, hrow, _⟩, hB⟩ hK
    have hc := hv.cell
    gi_wp2
    refine ⟨by simp, .inl ⟨_, _, rfl, run_takeDeferred hK, ?_⟩⟩
    exact ⟨_, results_tmp2 rfl _ _ _, v, rfl, ownsRow_putObj hrow _ hK rfl, (hB0.trans hB).trans (belowK_b (w := w) (Nat.le_refl _) W D _ _ (by simp at hD; omega) hK rfl rfl)⟩
  case stop =>
    rintro D c pre W _ _ h _
    exact h.elim

end Go.Proofs.YtnenaponiahalaaDoor.SplC
