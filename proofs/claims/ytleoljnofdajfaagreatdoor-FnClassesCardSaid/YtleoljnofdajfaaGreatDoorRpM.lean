/- A runner read from its text: plain lemmas. -/
import Derived.Test.YtleoljnofdajfaaGreatDoorJoinM
import Derived.WalkSpells
import Derived.RangeFuncBox
import Derived.RangeFuncLeaves
import Derived.Shelf.Abstract
import Derived.WalkKit
import Derived.OwnWalkIn
import Derived.TacticsInMore
import Derived.LoopNIn
import Derived.LoopIn
import Derived.Maps.AppendAt
import Derived.WalkLawsBesides
import Derived.Test.YtleoljnofdajfaaGreatDoorProg
import Derived.RangeFuncCalls
import Derived.Test.YtleoljnofdajfaaGreatDoorBk
import Derived.Lib.Strings
import Derived.Lib.CutLaws
import Derived.Test.YtleoljnofdajfaaGreatDoorNumW
import Derived.Lib.Atoi
import Derived.Lib.AtoiTie
import Derived.Test.YtleoljnofdajfaaGreatDoorLib
import Derived.Lib.IndexBytes
import Derived.Lib.AtoiAllCases
import Derived.Test.YtleoljnofdajfaaGreatDoorRuQ
namespace Go.Proofs.YtleoljnofdajfaaGreatDoor.Lb
open Go.RowKit

/-- Where the part under way begins, and the parts before it, after 'k' bytes. -/
def cut (s : ByteArray) (c : UInt8) : Nat → Nat × List ByteArray
  | 0 => (0, [])
  | k + 1 => if h : k < s.size then (if s[k] = c then (k + 1, (cut s c k).2 ++ [s.extract (cut s c k).1 k]) else cut s c k) else cut s c k

def parts (s : ByteArray) (c : UInt8) : List ByteArray := (cut s c s.size).2 ++ [s.extract (cut s c s.size).1 s.size]

theorem cut_hit {s : ByteArray} {c : UInt8} {k : Nat} (h : k < s.size) (e : s[k] = c) : cut s c (k + 1) = (k + 1, (cut s c k).2 ++ [s.extract (cut s c k).1 k]) := by
  rw [cut, dif_pos h, if_pos e]
theorem cut_miss {s : ByteArray} {c : UInt8} {k : Nat} (h : k < s.size) (e : s[k] ≠ c) : cut s c (k + 1) = cut s c k := by
  rw [cut, dif_pos h, if_neg e]

theorem cut_le (s : ByteArray) (c : UInt8) : ∀ k, (cut s c k).1 ≤ k ∧ (cut s c k).2.length ≤ k
  | 0 => ⟨Nat.le_refl _, Nat.le_refl _⟩
  | k + 1 => by
    have ih := cut_le s c k
    rw [cut]
    split
    · split
      · simp; omega
      · omega
    · omega

theorem parts_length (s : ByteArray) (c : UInt8) : (parts s c).length ≤ s.size + 1 ∧ 0 < (parts s c).length := by
  have := cut_le s c s.size
  unfold parts
  simp; omega

theorem parts_ne (s : ByteArray) (c : UInt8) : parts s c ≠ [] := by unfold parts; simp

theorem cut_total (s : ByteArray) (c : UInt8) : ∀ k, k ≤ s.size → total (cut s c k).2 + (cut s c k).2.length = (cut s c k).1
  | 0, _ => by simp [cut, total]
  | k + 1, h => by
    have ih := cut_total s c k (by omega)
    have hl := cut_le s c k
    rw [cut, dif_pos (by omega)]
    split
    · simp only [total_append, total, List.length_append, List.length_cons, List.length_nil, ByteArray.size_extract]
      omega
    · exact ih

theorem parts_total (s : ByteArray) (c : UInt8) : total (parts s c) + (parts s c).length = s.size + 1 := by
  have h := cut_total s c s.size (Nat.le_refl _)
  have hl := cut_le s c s.size
  unfold parts
  simp only [total_append, total, List.length_append, List.length_cons, List.length_nil, ByteArray.size_extract]
  omega

theorem sAt_le (ss : List ByteArray) (k : Nat) : (sAt ss k).size ≤ total ss := size_le_total ss k

end Go.Proofs.YtleoljnofdajfaaGreatDoor.Lb

namespace Go.Proofs.YtleoljnofdajfaaGreatDoor.SplI
open Go.RowKit Go.Shelf Lb
set_option linter.unusedSimpArgs false
set_option linter.unusedVariables false

attribute [local go_sem] Oper.semAt_some

/-- What the loop's body must leave alone: the two captured variables. -/
def KeepB (bs bc : Nat) (W W' : World) : Prop := ∀ k, k = bs ∨ k = bc → W'.heap[k]? = W.heap[k]?
theorem KeepB.refl (bs bc : Nat) (W : World) : KeepB bs bc W W := fun _ _ => rfl
theorem KeepB.trans {bs bc : Nat} {A B C : World} (h : KeepB bs bc A B) (k : KeepB bs bc B C) : KeepB bs bc A C := fun i hi => (k i hi).trans (h i hi)
theorem KeepB.drew {bs bc : Nat} {A B : World} (h : KeepB bs bc A B) : KeepB bs bc A B.drew := h
theorem KeepB.cell {bs bc : Nat} {A B : World} (h : KeepB bs bc A B) {p : Addr} (hp : p.block = bs ∨ p.block = bc) : B.cell? p = A.cell? p := World.cell?_of_block (h _ hp)
theorem keepB_put {bs bc : Nat} {w : World} (h1 : bs < w.heap.size) (h2 : bc < w.heap.size) (W : World) (l : Nat) (o o' : Obj) (hl : w.heap.size ≤ l) (h : W.heap[l]? = some o) (_ : o.isCells = false) (_ : o.isWalk = false) : KeepB bs bc W (W.putObj l o') := by
  intro k hk
  refine (grownBy_putObj' W l o').block k ?_ (fun e => by cases e; omega)
  have := (Array.getElem?_eq_some_iff.1 h).1
  omega

set_option maxRecDepth 100000 in
set_option maxHeartbeats 1000000 in
theorem iter_in (F : Fence) (n : Nat) (h6 : F.fn 81) (hro : F.round = none) (hn : 1 ≤ n) (l Bs Bc : Nat) (s : ByteArray) (c : UInt8) (hs : s.size ≤ 4000) (J Jx : List ByteArray → World → Prop) (hJd : ∀ pre W, J pre W → J pre W.drew)
    (hY : ∀ pre x W, J pre W → pre.length < s.size + 1 → YieldAt F (n - 1) Tryz.prog l #[.string x] W fun e W' =>
      (e = .returned (.bool true) ∧ J (pre ++ [x]) W' ∧ KeepB Bs Bc W W') ∨ (e = .returned (.bool false) ∧ Jx (pre ++ [x]) W'))
    (W : World) (hBs : W.cell? ⟨Bs, 0, none⟩ = some (.string s)) (hBc : W.cell? ⟨Bc, 0, none⟩ = some (.int .u8 c.toNat)) (h0 : J [] W) :
    CallsIn F n Tryz.prog 81 #[.func (.yield l) #[] #[], .pointer (some ⟨Bs, 0, none⟩), .pointer (some ⟨Bc, 0, none⟩)] W fun e W' => (∃ v, e = .returned v) ∧
      ((∃ ys, ys = parts s c ∧ J ys W') ∨ (∃ pre, True ∧ Jx pre W')) := by
  refine callsIn_of_wp Tryz.func81 rfl h6 ?_ hro
  simp only [Tryz.ntmps81, List.size_toArray, List.length_cons, List.length_nil, Nat.reduceAdd, Nat.reduceSub, Array.replicate_succ, Array.replicate_zero, List.push_toArray, List.append_toArray, List.nil_append, List.cons_append]
  gi_wp2
  gi_loopw [4, 8] (fun f i wr => ∃ k : Nat, k ≤ s.size ∧ i = .int .i64 k ∧ f = .int .i64 ((cut s c k).1 : Nat) ∧ J (cut s c k).2 wr ∧ KeepB Bs Bc W wr)
    (fun _ i _ => s.size - (intOf i).toNat)
  case atStart => exact ⟨0, Nat.zero_le _, rfl, rfl, h0, KeepB.refl _ _ _⟩
  case round =>
    obtain ⟨k, hk, rfl, rfl, hJs, hnx⟩ := hrel
    have hs1 : wr.cell? ⟨Bs, 0, none⟩ = some (.string s) := (hnx.cell (p := ⟨Bs, 0, none⟩) (.inl rfl)).trans hBs
    have hc1 : wr.cell? ⟨Bc, 0, none⟩ = some (.int .u8 c.toNat) := (hnx.cell (p := ⟨Bc, 0, none⟩) (.inr rfl)).trans hBc
    have hcl := cut_le s c k
    by_cases hlt : k < s.size
    · by_cases he : s[k] = c
      · have hb : ((s[k].toNat : Int) != (c.toNat : Int)) = false := by subst he; simp
        obtain ⟨fn, tmps, assign, body, hy, hR⟩ := hY _ (s.extract (cut s c k).1 k) wr.drew (hJd _ _ hJs) (by omega)
        have hm := Lib.hid (cut_hit hlt he)
        clear he
        gi_wp2
        gi_region
        all_goals gi_wp2
        all_goals
          refine hR.mono ?_
          rintro e W3 (⟨rfl, hJ3, hk3⟩ | ⟨rfl, hJx3⟩)
          · have hs3 : W3.cell? ⟨Bs, 0, none⟩ = some (.string s) := (hk3.cell (p := ⟨Bs, 0, none⟩) (.inl rfl)).trans hs1
            have hc3 : W3.cell? ⟨Bc, 0, none⟩ = some (.int .u8 c.toNat) := (hk3.cell (p := ⟨Bc, 0, none⟩) (.inr rfl)).trans hc1
            gi_wp2
            go_roundw
            case rel => exact ⟨k + 1, by omega, by go_num, by rw [hm.out]; go_num, by rw [hm.out]; exact hJ3, hnx.drew.trans hk3⟩
            case measure => simp [intOf]; omega
          · gi_wp2
            refine bodyPost_ret (results_none rfl _ _ _) rfl ?_
            exact ⟨⟨_, rfl⟩, .inr ⟨_, trivial, hJx3⟩⟩
      · have hb : ((s[k].toNat : Int) != (c.toNat : Int)) = true := by have := u8_beq_no he; simp [bne, this]
        have hm := Lib.hid (cut_miss hlt he)
        clear he
        gi_wp2
        gi_region
        all_goals gi_wp2
        all_goals
          go_roundw
          case rel => exact ⟨k + 1, by omega, by go_num, by rw [hm.out], by rw [hm.out]; exact hJd _ _ hJs, hnx.drew⟩
          case measure => simp [intOf]; omega
    · obtain rfl : k = s.size := by omega
      obtain ⟨fn, tmps, assign, body, hy, hR⟩ := hY _ (s.extract (cut s c s.size).1 s.size) wr hJs (by omega)
      gi_wp2
      refine hR.mono ?_
      rintro e W3 (⟨rfl, hJ3, hk3⟩ | ⟨rfl, hJx3⟩)
      · gi_wp2
        go_end0
        exact ⟨⟨_, rfl⟩, .inl ⟨_, rfl, hJ3⟩⟩
      · gi_wp2
        go_end0
        exact ⟨⟨_, rfl⟩, .inr ⟨_, trivial, hJx3⟩⟩

set_option maxHeartbeats 1000000 in
theorem between_in (F : Fence) (n : Nat) (h5 : F.fn 59) (hro : F.round = none) (s : ByteArray) (c : UInt8) (w : World) :
    CallsIn F n Tryz.prog 59 #[.string s, .int .u8 c.toNat] w fun e w' => e = .returned (.func (.func 81) #[] #[.pointer (some ⟨w.heap.size, 0, none⟩), .pointer (some ⟨w.heap.size + 1, 0, none⟩)]) ∧
      w' = (w.alloc (.cells #[.string s] 9)).alloc (.cells #[.int .u8 c.toNat] 5) := by
  refine callsIn_of_wp Tryz.func59 rfl h5 ?_ hro
  simp only [Tryz.ntmps59, List.size_toArray, List.length_cons, List.length_nil, Nat.reduceAdd, Nat.reduceSub, Array.replicate_succ, Array.replicate_zero, List.push_toArray, List.append_toArray, List.nil_append, List.cons_append]
  gi_wp2
  go_ret
  exact ⟨rfl, rfl⟩

theorem iter_stops (F : Fence) (n : Nat) (h6 : F.fn 81) (hro : F.round = none) (hn : 1 ≤ n) (Bs Bc : Nat) (s : ByteArray) (c : UInt8) (hs : s.size ≤ 4000) (w : World) (hBs0 : Bs < w.heap.size) (hBc0 : Bc < w.heap.size)
    (hBs : w.cell? ⟨Bs, 0, none⟩ = some (.string s)) (hBc : w.cell? ⟨Bc, 0, none⟩ = some (.int .u8 c.toNat)) :
    SeqStopsK F n Tryz.prog 81 #[.pointer (some ⟨Bs, 0, none⟩), .pointer (some ⟨Bc, 0, none⟩)] (fun x : ByteArray => #[Value.string x]) (KeepB Bs Bc) (fun ys => ys = parts s c) (fun _ => True) (s.size + 1) w := fun l J Jx W hW hJ _ hY h0 =>
  iter_in F n h6 hro hn l Bs Bc s c hs J Jx (fun pre W h => hJ pre W W.drew none h ⟨rfl, rfl, rfl, Nat.le_refl _, fun _ _ _ => rfl⟩ (fun r e => by cases e)) hY W
    ((hW.cell (p := ⟨Bs, 0, none⟩) hBs0).trans hBs) ((hW.cell (p := ⟨Bc, 0, none⟩) hBc0).trans hBc) h0

end Go.Proofs.YtleoljnofdajfaaGreatDoor.SplI

namespace Go.Proofs.YtleoljnofdajfaaGreatDoor.SplC
open Go.RowKit Go.Shelf Lb SplI
set_option linter.unusedSimpArgs false
set_option linter.unusedVariables false

attribute [local go_sem] Oper.semAt_some

theorem sInfo : (Tryz.prog.info? 9).map (fun i => (i.zero, i.size, i.bytes)) = some (some (.string ByteArray.empty), 1, 16) := by kernel_rfl

theorem rebase {w : World} {b b' : Nat} {e : TypeId} {size : Nat} {v : Value} {n : Nat} {xs : List Value} (h : w.ownsRow b e size v n xs) (hg : ∀ g, v.ownBlock = some g → b' ≤ g) : w.ownsRow b' e size v n xs := by
  refine ⟨h.1, ?_⟩
  rcases h.2 with h2 | ⟨g, cap, cur, hv, hb, r⟩
  · exact .inl h2
  · exact .inr ⟨g, cap, cur, hv, hg g (by rw [hv]; rfl), r⟩

/-- An append whose run is known. -/
theorem wpListIn_append_run {F : Fence} {n : Nat} {P : Program} {w : World} {ops : Array Oper} {rest : List Oper} {o : Oper} {a : Act} {Q : Exit → Act → World → Prop}
    (hg : o.guard = none) (s x : Operand) (t : TypeId) (hop : o.op = Op.call { callee := Callee.builtin Builtin.append, args := #[s, x], argTypes := #[t, t] })
    {v u v' : Value} {w' : World} (hs : a.eval s = v) (hx : a.eval x = u) (hrun : (Builtin.append_ #[t, t] o.type #[v, u]).run P w = .ok v' w') (hK : wpListIn F n P ops Q rest (a.put o.dst v') w') :
    wpListIn F n P ops Q (o :: rest) a w := by
  refine wpListIn_plain hg fun K hK' => ?_
  unfold Oper.wpIn
  refine ⟨?_, ?_⟩
  · simp [Oper.about, hop, resolve, Target.leads, Sem.run_pure]
  · rw [Oper.semAt_plain F _ _ (by rw [hop]; intro c hc'; cases hc')]
    simp [execOp, hop, resolve, invoke, builtin, hs, hx, hrun, Result.andThen]
    exact hK' _ _ hK

/-- The first append: to a slice without room: a new row. -/
theorem first_append (W : World) (g : Nat) (x : ByteArray) : ∃ cap cs,
    (Builtin.append_ #[50, 50] 50 #[.slice (some ⟨g, 0, none⟩) 0 0, .slice (some ⟨W.heap.size, 0, none⟩) 1 1]).run Tryz.prog (W.alloc (.cells #[.string x] 9)) =
      .ok (.slice (some ⟨W.heap.size + 1, 0, none⟩) 1 cap) ((W.alloc (.cells #[.string x] 9)).alloc (.cells cs 9)).drew ∧ cs.size = cap ∧ 1 ≤ cap ∧ cap ≤ maxLen ∧ cs.toList.take 1 = [.string x] := by
  obtain ⟨i0, hi, hz0, hz1, hz2⟩ := info_parts sInfo
  have h := run_append_grow (P := Tryz.prog) (W.alloc (.cells #[.string x] 9)) 50 50 9 i0 (.string ByteArray.empty) Tryz.underlying50 hi hz0 ⟨g, 0, none⟩ 0 0 [] (by simp) (by simp) ⟨W.heap.size, 0, none⟩ 1 1 [.string x] (by rw [hz1]; rfl) (cell_one_new _ _ _) (by omega) (by simp) (by rw [hz2]; decide)
  have hge := grownCap_ge (W.alloc (.cells #[.string x] 9)) 1 0 9
  have hle := grownCap_le_maxLen (W.alloc (.cells #[.string x] 9)) 1 0 9 (by unfold maxLen; omega)
  simp only [Nat.zero_add, World.size_alloc] at h
  refine ⟨_, _, h, ?_, hge, hle, ?_⟩
  · simp [Builtin.zeroCells, Value.cells]; omega
  · simp

/-- The slice under way: the first, empty one; or one that lies behind the captured variables. -/
def GG (w : World) (pre : List ByteArray) (v : Value) : Prop :=
  (pre = [] ∧ v = .slice (some ⟨w.heap.size, 0, none⟩) 0 0) ∨ (pre ≠ [] ∧ ∀ g, v.ownBlock = some g → w.heap.size + 4 ≤ g)

set_option maxRecDepth 100000 in
set_option maxHeartbeats 2000000 in
theorem split_in (F : Fence) (n : Nat) (h3 : F.fn 29) (h4 : F.fn 59) (h5 : F.fn 81) (hro : F.round = none) (hn : 3 ≤ n) (s sep : ByteArray) (hs : s.size ≤ 4000) (h1 : sep.size = 1) (hp : 0 < sep.size) (w : World) :
    CallsIn F n Tryz.prog 29 #[.string s, .string sep] w fun e W' => ∃ v, e = .returned (.tuple #[v, .bool true]) ∧ W'.ownsRow w.heap.size 9 1 v (parts s sep[0]).length ((parts s sep[0]).map Value.string) ∧ Below w.heap.size w W' := by
  have hn1 : 1 ≤ n := by omega
  have h2 : ((sep.size : Int) != 1) = false := by simp [h1]
  have hN := parts_length s sep[0]
  clear h1
  obtain ⟨i0, hi, hz0, hz1, hz2⟩ := info_parts sInfo
  refine callsIn_of_wp_marks Tryz.func29 rfl h3 ?_ hro
  simp only [Tryz.ntmps29, List.size_toArray, List.length_cons, List.length_nil, Nat.reduceAdd, Nat.reduceSub, Array.replicate_succ, Array.replicate_zero, List.push_toArray, List.append_toArray, List.nil_append, List.cons_append]
  gi_wp2_with (gi_at_call 59; refine (between_in F (n - 1) h4 hro _ _ _).mono ?_; rintro e w' ⟨rfl, rfl⟩)
  have bO := Boxed.new (w.alloc (.cells #[] 9)) 50 (.slice (some ⟨w.heap.size, 0, none⟩) 0 0)
  have bS := Boxed.new ((w.alloc (.cells #[] 9)).alloc (.cells #[.slice (some ⟨w.heap.size, 0, none⟩) 0 0] 50)) 9 (.string s)
  have bC := Boxed.new (((w.alloc (.cells #[] 9)).alloc (.cells #[.slice (some ⟨w.heap.size, 0, none⟩) 0 0] 50)).alloc (.cells #[.string s] 9)) 5 (.int .u8 sep[0].toNat)
  simp only [World.size_alloc] at bO bS bC
  have hB0 : Below w.heap.size w ((((w.alloc (.cells #[] 9)).alloc (.cells #[.slice (some ⟨w.heap.size, 0, none⟩) 0 0] 50)).alloc (.cells #[.string s] 9)).alloc (.cells #[.int .u8 sep[0].toNat] 5)) :=
    ((((Below.refl _ w).alloc (Nat.le_refl _) _).alloc (by simp) _).alloc (by simp; omega) _).alloc (by simp; omega) _
  have hO0 : (w.alloc (.cells #[] 9)).ownsRow w.heap.size 9 1 (.slice (some ⟨w.heap.size, 0, none⟩) 0 0) 0 [] := World.ownsRow_made w #[] 0 (Nat.le_refl _) (Nat.zero_le _) rfl
  refine wpIn_rangeFunc_ownG hro hn1 (gf := 81) (lb := #[.pointer (some ⟨w.heap.size + 1 + 1, 0, none⟩), .pointer (some ⟨w.heap.size + 1 + 1 + 1, 0, none⟩)]) rfl h5 (enters_of Tryz.func81 (by kernel_rfl) rfl)
    (iter_stops F (n - 1) h5 hro (by omega) (w.heap.size + 1 + 1) (w.heap.size + 1 + 1 + 1) s sep[0] hs _ (by simp) (by simp) (bS.alloc _).cell bC.cell) KeepB.trans (keepB_put (by simp) (by simp)) (Below.refl _ _) (fun _ => rfl)
    (fun (pre : List ByteArray) W => (∃ v, Boxed W (w.heap.size + 1) 50 v ∧ W.ownsRow w.heap.size 9 1 v pre.length (pre.map Value.string) ∧ GG w pre v) ∧ Below w.heap.size (((((w.alloc (.cells #[] 9)).alloc (.cells #[.slice (some ⟨w.heap.size, 0, none⟩) 0 0] 50)).alloc (.cells #[.string s] 9)).alloc (.cells #[.int .u8 sep[0].toNat] 5))) W)
    (fun _ _ _ => False)
    (OwnFrom.and (Own.from (holdsRow_own w.heap.size (w.heap.size + 1) 50 9 1 (fun (pre : List ByteArray) => pre.length) (fun pre => pre.map Value.string) (fun pre v => GG w pre v)) _) (ownFrom_below hB0.size hB0.size))
    (fun _ _ _ _ _ hs _ _ => hs)
    ⟨⟨_, (bO.alloc _).alloc _, ((hO0.alloc _).alloc _).alloc _, .inl ⟨rfl, rfl⟩⟩, Below.refl _ _⟩
    (fun (x : ByteArray) => { tmps := #[.string s, .string sep, undef, undef, .slice none 0 0, .bool false, .pointer (some ⟨w.heap.size + 1, 0, none⟩), .string x, .string s, .int .i64 s.size, .bool (decide (4000 < (s.size : Int))), .bool (decide (4000 < (s.size : Int))), .string sep, .int .i64 sep.size, .bool false, .bool (decide (4000 < (s.size : Int))), undef, .slice (some ⟨w.heap.size, 0, none⟩) 0 0, .string s, .string sep, .int .u8 sep[0].toNat, .func (.func 81) #[] #[.pointer (some ⟨w.heap.size + 1 + 1, 0, none⟩), .pointer (some ⟨w.heap.size + 1 + 1 + 1, 0, none⟩)], .string x, undef, undef, undef, undef, undef], defers := [] }) ?assign ?body ?done ?stop
  case assign =>
    intro l x W K hK
    gi_wp2
    exact hK
  case body =>
    rintro l pre x W ⟨⟨v, hv, hrow, hG⟩, hB⟩ hlt
    have hsz := hB.size
    simp only [World.size_alloc] at hsz
    rcases hG with ⟨rfl, rfl⟩ | ⟨hne, hG⟩
    · have hc := hv.cell
      obtain ⟨cap, cs, hrun, hcs, hc1, hc2, hc3⟩ := first_append W w.heap.size x
      have hv1 : Boxed ((W.alloc (.cells #[.string x] 9)).alloc (.cells cs 9)) (w.heap.size + 1) 50 (.slice (some ⟨w.heap.size, 0, none⟩) 0 0) := (hv.alloc _).alloc _
      have hc4 := hv1.cell
      have hf4 := hv1.frozen
      have hC := Lib.hid hcs
      have hC3 := Lib.hid hc3
      have hR := Lib.hid hrun
      clear hcs hc3 hrun
      gi_wp2_with (gi_at_builtin; refine wpListIn_append_run rfl _ _ 50 rfl rfl rfl hR.out ?_)
      refine ⟨((((KeepsOthers.alloc _ _).trans (KeepsOthers.alloc _ _)).trans (KeepsOthers.setCell _ _ _)).trans (KeepsOthers.drew _)).from _, ?_, ⟨_, hv1.set _, ?_, .inr ⟨by simp, fun g e => ?_⟩⟩, ?_⟩
      · intro k hk
        show (((W.alloc _).alloc _).setCell _ _).heap[k]? = _
        have hkn : k ≠ w.heap.size + 1 := by rcases hk with rfl | rfl <;> omega
        have hkl : k < W.heap.size := by rcases hk with rfl | rfl <;> omega
        rw [Below.heap_setCell _ _ _ _ hkn, Below.heap_alloc _ _ _ (by simp; omega), Below.heap_alloc _ _ _ hkl]
      · refine ⟨rfl, .inr ⟨W.heap.size + 1, cap, cs, rfl, by omega, ?_, hc1, hc2, by simpa using hC.out, by simpa using hC3.out⟩⟩
        show (((W.alloc _).alloc _).setCell _ _).heap[_]? = _
        rw [Below.heap_setCell _ _ _ _ (by show W.heap.size + 1 ≠ w.heap.size + 1; omega)]
        have := heap_alloc_new (W.alloc (.cells #[.string x] 9)) (.cells cs 9)
        rwa [World.size_alloc] at this
      · simp [Value.ownBlock] at e; omega
      · exact (((hB.alloc (by omega) _).alloc (by simp; omega) _).setCell (p := ⟨w.heap.size + 1, 0, none⟩) (Nat.le_succ _) _).drew
    · have hc := hv.cell
      have hrow' := rebase hrow hG
      gi_wp2_with (gi_at_builtin; refine wpListIn_append_own _ rfl _ _ 50 rfl (w.heap.size + 4) 9 i0 (.string ByteArray.empty) 1 16 Tryz.underlying50 hi hz0 hz1 hz2 rfl (by decide) _ _ _ rfl (hrow'.alloc _) ⟨W.heap.size, 0, none⟩ 1 1 [.string x] rfl rfl (cell_one_new _ _ _) (by simp [Value.oneCell']) (by unfold maxLen; omega) (by omega) (by simp; omega) ?_; intro v' w1 hown' hgrow _; obtain ⟨g', cap', rfl⟩ := ownsRow_succ hown'; obtain ⟨hv1, hv2, hr2, hk2, hb2⟩ := hv.appended (by decide) hrow (by omega) (Nat.le_succ _) (rebase hown' (fun g e => by have := (hown'.lt g e).1; omega)) hgrow; have hc1 := hv1.cell; have hf1 := hv1.frozen)
      have hg' : (W.alloc (.cells #[.string x] 9)).grownBy w1 v.ownBlock := hgrow
      refine ⟨hk2.from _, ?_, ⟨_, hv2, by simpa using hr2, .inr ⟨by simp, fun g e => (hown'.lt g e).1⟩⟩, hB.trans hb2⟩
      intro k hk
      have hkn : k ≠ w.heap.size + 1 := by rcases hk with rfl | rfl <;> omega
      have hkl : k < W.heap.size := by rcases hk with rfl | rfl <;> omega
      have hko : some k ≠ v.ownBlock := fun e => by have := hG k e.symm; rcases hk with rfl | rfl <;> omega
      rw [Below.heap_setCell _ _ _ _ hkn, hg'.block k (by simp; omega) hko, Below.heap_alloc _ _ _ hkl]
  case done =>
    rintro D ys W hD rfl ⟨⟨v, hv, hrow, _⟩, hB⟩ hK
    have hc := hv.cell
    gi_wp2
    refine ⟨by simp, .inl ⟨_, _, rfl, run_takeDeferred hK, ?_⟩⟩
    exact ⟨_, results_tmp2 rfl _ _ _, v, rfl, ownsRow_putObj hrow _ hK rfl, (hB0.trans hB).trans (belowK_b (w := w) (Nat.le_refl _) W D _ _ (by simp at hD; omega) hK rfl rfl)⟩
  case stop =>
    rintro D c pre W _ _ h _
    exact h.elim

end Go.Proofs.YtleoljnofdajfaaGreatDoor.SplC

namespace Go.Proofs.YtleoljnofdajfaaGreatDoor.L1S
open Go.RowKit Lb
set_option linter.unusedSimpArgs false
set_option linter.unusedVariables false

theorem sInfo : (Tryz.prog.info? 9).map (fun i => (i.zero, i.size, i.bytes)) = some (some (.string ByteArray.empty), 1, 16) := by kernel_rfl

/-- A new list of strings. -/
def NewStrs (w : World) (ps : List ByteArray) (v : Value) (W' : World) : Prop :=
  W'.ownsRow w.heap.size 9 1 v ps.length (ps.map Value.string) ∧ Below w.heap.size w W'

set_option maxHeartbeats 1000000 in
theorem l1Split_any (s : ByteArray) (c : UInt8) (w : World) (hs : s.size ≤ 1048576) :
    Calls Tryz.prog 37 #[.string s, .int .u8 c.toNat] w fun e W' => ∃ v, e = .returned v ∧ NewStrs w (parts s c) v W' := by
  obtain ⟨i0, hi, hz0, hz1, hz2⟩ := info_parts sInfo
  go_enter Tryz.func37, Tryz.ntmps37
  go_wp2
  have hO0 : (w.alloc (.cells #[] 9)).ownsRow w.heap.size 9 1 (.slice (some ⟨w.heap.size, 0, none⟩) 0 0) 0 [] := World.ownsRow_made w #[] 0 (Nat.le_refl _) (Nat.zero_le _) rfl
  go_loopw [5, 6, 7] (fun o f i wr => ∃ k : Nat, k ≤ s.size ∧ i = .int .i64 k ∧ f = .int .i64 ((cut s c k).1 : Nat) ∧ wr.ownsRow w.heap.size 9 1 o (cut s c k).2.length ((cut s c k).2.map .string) ∧ Below w.heap.size w wr) (fun _ _ i _ => s.size - (intOf i).toNat)
  case atStart => exact ⟨0, Nat.zero_le _, rfl, rfl, hO0, (Below.refl _ _).alloc (Nat.le_refl _) _⟩
  case round =>
    obtain ⟨k, hk, rfl, rfl, hown, hbel⟩ := hrel
    have hcl := cut_le s c k
    have hsz := hbel.size
    by_cases hlt : k < s.size
    · by_cases he : s[k] = c
      · have hb := u8_beq_yes he
        have hm := Lib.hid (cut_hit hlt he)
        clear he
        go_wp2_with (at_builtin; refine wpList_append_own _ rfl (.tmp 20) (.tmp 25) 50 rfl w.heap.size 9 i0 (.string ByteArray.empty) 1 16 Tryz.underlying50 hi hz0 hz1 hz2 rfl (by decide) _ _ _ rfl (hown.alloc _) ⟨wr.heap.size, 0, none⟩ 1 1 [.string (s.extract (cut s c k).1 k)] rfl rfl (cell_one_new _ _ _) (by simp [Value.oneCell']) (by unfold maxLen; omega) (by omega) (by simp; omega) ?_; intro v' w1 hown1 hgrow _)
        have hb1 := ((hbel.alloc hsz (.cells #[.string (s.extract (cut s c k).1 k)] 9)).grown hgrow (by simp; omega) (fun k e => (hown.lt k e).1))
        go_roundw
        case rel => exact ⟨k + 1, by omega, by go_num, by rw [hm.out]; go_num, by rw [hm.out]; simpa using hown1, hb1⟩
        case measure => simp [intOf]; omega
      · have hb := u8_beq_no he
        have hm := Lib.hid (cut_miss hlt he)
        clear he
        go_wp2
        go_roundw
        case rel => exact ⟨k + 1, by omega, by go_num, by rw [hm.out], by rw [hm.out]; exact hown, hbel⟩
        case measure => simp [intOf]; omega
    · obtain rfl : k = s.size := by omega
      go_wp2_with (at_builtin; refine wpList_append_own _ rfl (.tmp 29) (.tmp 33) 50 rfl w.heap.size 9 i0 (.string ByteArray.empty) 1 16 Tryz.underlying50 hi hz0 hz1 hz2 rfl (by decide) _ _ _ rfl (hown.alloc _) ⟨wr.heap.size, 0, none⟩ 1 1 [.string (s.extract (cut s c s.size).1 s.size)] rfl rfl (cell_one_new _ _ _) (by simp [Value.oneCell']) (by unfold maxLen; omega) (by omega) (by simp; omega) ?_; intro v' w1 hown1 hgrow _)
      go_ret
      exact ⟨v', rfl, by simpa [parts] using hown1, ((hbel.alloc hsz _).grown hgrow (by simp; omega) (fun k e => (hown.lt k e).1))⟩

end Go.Proofs.YtleoljnofdajfaaGreatDoor.L1S

namespace Go.Proofs.YtleoljnofdajfaaGreatDoor.PfI
open Go.RowKit Lb Bk SplC
open L1S (NewStrs)
set_option linter.unusedSimpArgs false
set_option linter.unusedVariables false

/-- A list of strings and whether there is one. -/
def SplPost (w : World) (ps : List ByteArray) (ok : Bool) (e : Ending) (W' : World) : Prop :=
  ∃ v, e = .returned (.tuple #[v, .bool ok]) ∧ NewStrs w ps v W'
theorem split_ok (s : ByteArray) (w : World) (hs : s.size ≤ 4000) :
    Calls Tryz.prog 29 #[.string s, .string ⟨#[32]⟩] w (SplPost w (parts s 32) true) :=
  (callsIn_wide (n := 3)).1 ((split_in _ 3 trivial trivial trivial rfl (Nat.le_refl _) s ⟨#[32]⟩ hs rfl (by decide) w).mono fun e W' ⟨v, he, ho, hb⟩ => ⟨v, he, ho, hb⟩)
set_option maxHeartbeats 400000 in
theorem split_no (s : ByteArray) (w : World) (hs : s.size ≤ 1048576) (h1 : 4000 < s.size) :
    Calls Tryz.prog 29 #[.string s, .string ⟨#[32]⟩] w (SplPost w [] false) := by
  go_enter Tryz.func29, Tryz.ntmps29
  go_wp2
  go_ret2
  exact ⟨_, rfl, World.ownsRow_made w #[] 0 (Nat.le_refl _) (Nat.zero_le _) rfl, (Below.refl _ _).alloc (Nat.le_refl _) _⟩

theorem own_strs0 {w : World} {base : Nat} {v : Value} {ss : List ByteArray} (h : w.ownsRow base 9 1 v ss.length (ss.map Value.string)) (h0 : 0 < ss.length) : ∃ g cap, v = .slice (some ⟨g, 0, none⟩) ss.length cap ∧ StrRow w (some ⟨g, 0, none⟩) ss ∧ ss.length ≤ cap := by
  rcases h.2 with ⟨rfl, h1⟩ | ⟨g, cap, cur, rfl, hb, _, hle, _⟩
  · omega
  · exact ⟨g, cap, rfl, (RowAt.of_owns h).congr fun k hk => by simp [sAt, hk], hle⟩
theorem row_at {w : World} {g : Nat} {ss : List ByteArray} (h : StrRow w (some ⟨g, 0, none⟩) ss) (k : Nat) (hk : k < ss.length) : w.cell? ⟨g, k, none⟩ = some (.string (sAt ss k)) := by
  rcases h with h | ⟨b, off, e, hc⟩
  · omega
  · cases e
    have := hc k hk
    rwa [Nat.zero_add] at this
end Go.Proofs.YtleoljnofdajfaaGreatDoor.PfI

namespace Go.Proofs.YtleoljnofdajfaaGreatDoor.SJM
open Go.RowKit Lb

theorem byteAt (s : ByteArray) (k : Nat) (h : k < s.size) : s.data.toList[k]? = some s[k] := by
  rw [List.getElem?_eq_getElem (by simpa using h)]; rfl

theorem take_mid (l : List UInt8) (k e : Nat) (c : UInt8) (hc : l[k]? = some c) (he : k + 1 ≤ e) : l.take k ++ [c] ++ (l.drop (k + 1)).take (e - (k + 1)) = l.take e := by
  have hk : k < l.length := (List.getElem?_eq_some_iff.1 hc).1
  have h1 : l.take k ++ [c] = l.take (k + 1) := by
    rw [List.take_succ_eq_append_getElem hk]
    have := (List.getElem?_eq_some_iff.1 hc).2
    rw [this]
  rw [h1]
  have h2 : l.take e = l.take (k + 1) ++ (l.take e).drop (k + 1) := by
    have := (List.take_append_drop (k + 1) (l.take e)).symm
    rwa [List.take_take, Nat.min_eq_left he] at this
  rw [h2, List.drop_take]

theorem cut_join (s : ByteArray) (c : UInt8) : ∀ k, k ≤ s.size → ∀ e, (cut s c k).1 ≤ e →
    Lib.join (((cut s c k).2 ++ [s.extract (cut s c k).1 e]).map (·.data.toList)) [c] = s.data.toList.take e
  | 0, _, e, _ => by
    simp only [cut, List.nil_append, List.map_cons, List.map_nil, Lib.join_one]
    rw [Lib.extract_data]
    simp
  | k + 1, hk, e, he => by
    by_cases h : s[k] = c
    · rw [cut_hit (by omega) h] at he ⊢
      simp only at he ⊢
      rw [List.map_append, List.map_cons, List.map_nil, join_snoc _ _ _ (by simp), cut_join s c k (by omega) k (cut_le s c k).1, Lib.extract_data]
      exact take_mid _ k e c (by rw [byteAt s k (by omega), h]) he
    · rw [cut_miss (by omega) h] at he ⊢
      exact cut_join s c k (by omega) e he

theorem parts_join (s : ByteArray) (c : UInt8) : Lib.join ((parts s c).map (·.data.toList)) [c] = s.data.toList := by
  unfold parts
  rw [cut_join s c s.size (Nat.le_refl _) s.size (cut_le s c s.size).1, List.take_of_length_le]
  exact Nat.le_of_eq Array.length_toList

theorem one_byte (sep : ByteArray) (h1 : sep.size = 1) (hp : 0 < sep.size) : sep.data.toList = [sep[0]] := by
  have hl : sep.data.toList.length = 1 := by rw [Array.length_toList]; exact h1
  match hs : sep.data.toList, hl with
  | [x], _ =>
    have := byteAt sep 0 hp
    rw [hs] at this
    simp at this
    rw [this]

theorem parts_back (s sep : ByteArray) (h1 : sep.size = 1) (hp : 0 < sep.size) : jn sep (parts s sep[0]) (parts s sep[0]).length = s := by
  rw [← jn_all, one_byte sep h1 hp, parts_join]

theorem hasB_extract (s : ByteArray) (c : UInt8) (f k : Nat) (hk : k ≤ s.size) (h : ∀ i, f ≤ i → i < k → ∀ (hi : i < s.size), s[i] ≠ c) : hasB (s.extract f k) c = false := by
  apply hasB_none
  intro i hi
  have hi' : i < k - f := by rw [ByteArray.size_extract] at hi; omega
  rw [ByteArray.getElem_extract]
  exact h (f + i) (by omega) (by omega) (by omega)

theorem cut_clean (s : ByteArray) (c : UInt8) : ∀ k, k ≤ s.size → (∀ i, (cut s c k).1 ≤ i → i < k → ∀ (hi : i < s.size), s[i] ≠ c) ∧ ∀ p ∈ (cut s c k).2, hasB p c = false
  | 0, _ => ⟨fun i _ h => by omega, fun p hp => by simp [cut] at hp⟩
  | k + 1, hk => by
    obtain ⟨ih1, ih2⟩ := cut_clean s c k (by omega)
    by_cases h : s[k] = c
    · rw [cut_hit (by omega) h]
      refine ⟨fun i h1 h2 => by simp only at h1; omega, fun p hp => ?_⟩
      rcases List.mem_append.1 hp with hp | hp
      · exact ih2 p hp
      · simp only [List.mem_singleton] at hp
        subst hp
        exact hasB_extract s c _ k (by omega) ih1
    · rw [cut_miss (by omega) h]
      refine ⟨fun i h1 h2 hi => ?_, ih2⟩
      by_cases e : i = k
      · subst e; exact h
      · exact ih1 i h1 (by omega) hi

theorem parts_clean (s : ByteArray) (c : UInt8) (i : Nat) (hi : i < (parts s c).length) : hasB (sAt (parts s c) i) c = false := by
  obtain ⟨h1, h2⟩ := cut_clean s c s.size (Nat.le_refl _)
  have hm : sAt (parts s c) i ∈ parts s c := by
    have : sAt (parts s c) i = (parts s c)[i] := by simp [sAt, hi]
    rw [this]; exact List.getElem_mem hi
  generalize sAt (parts s c) i = p at hm
  unfold parts at hm
  rcases List.mem_append.1 hm with hp | hp
  · exact h2 p hp
  · simp only [List.mem_singleton] at hp
    subst hp
    exact hasB_extract s c _ _ (Nat.le_refl _) h1

theorem parts_good (s : ByteArray) (c : UInt8) (hs : s.size ≤ 4000) (i : Nat) (hi : i < (parts s c).length) : ¬ JBad c (parts s c) i := by
  rintro (h | h)
  · rw [parts_clean s c i hi] at h; cases h
  · have h1 := parts_total s c
    have h2 : total ((parts s c).take (i + 1)) + total ((parts s c).drop (i + 1)) = total (parts s c) := by rw [← total_append, List.take_append_drop]
    omega

theorem less_asymm : ∀ (a b : List UInt8), Op.bytesLess a b = true → Op.bytesLess b a = false
  | a, [], h => by simp [Op.bytesLess] at h
  | [], _ :: _, _ => by simp [Op.bytesLess]
  | a :: x, b :: y, h => by
    simp only [Op.bytesLess, Bool.or_eq_true, Bool.and_eq_true, decide_eq_true_eq, beq_iff_eq] at h
    rcases h with h | ⟨rfl, h⟩
    · have h1 : ¬ b < a := by rw [UInt8.lt_iff_toNat_lt] at h ⊢; omega
      have h2 : b ≠ a := by intro e; subst e; rw [UInt8.lt_iff_toNat_lt] at h; omega
      simp [Op.bytesLess, h1, h2]
    · have h1 : ¬ a < a := by rw [UInt8.lt_iff_toNat_lt]; omega
      simp [Op.bytesLess, h1, less_asymm x y h]

end Go.Proofs.YtleoljnofdajfaaGreatDoor.SJM

namespace Go.Proofs.YtleoljnofdajfaaGreatDoor.PfM
open Go.RowKit Lb
set_option linter.unusedVariables false

/-- The pieces between the bytes 'c'. -/
def spl (c : UInt8) : List UInt8 → List (List UInt8)
  | [] => [[]]
  | b :: l => if b = c then [] :: spl c l else match spl c l with
    | [] => [[b]]
    | w :: r => (b :: w) :: r
theorem spl_ne (c : UInt8) : ∀ l, spl c l ≠ []
  | [] => by simp [spl]
  | b :: l => by
    unfold spl
    split
    · simp
    · split <;> simp
theorem spl_sep (c : UInt8) (b : List UInt8) : ∀ a, spl c (a ++ c :: b) = spl c a ++ spl c b
  | [] => by simp [spl]
  | x :: a => by
    have ih := spl_sep c b a
    rw [List.cons_append, spl, spl, ih]
    by_cases e : x = c
    · rw [if_pos e, if_pos e]; rfl
    · rw [if_neg e, if_neg e]
      cases hs : spl c a with
      | nil => exact absurd hs (spl_ne c a)
      | cons w r => rfl
theorem spl_clean (c : UInt8) : ∀ l : List UInt8, c ∉ l → spl c l = [l]
  | [], _ => rfl
  | b :: l, h => by
    have h1 : c ∉ l := fun m => h (List.mem_cons_of_mem _ m)
    have h2 : b ≠ c := fun e => h (by rw [e]; exact List.mem_cons_self)
    rw [spl, if_neg h2, spl_clean c l h1]
theorem join_two (x y : List UInt8) (r : List (List UInt8)) (c : UInt8) : Lib.join (x :: y :: r) [c] = x ++ c :: Lib.join (y :: r) [c] := by
  rw [Lib.join_cons, Lib.join_cons]
  simp [Lib.joinTail]
theorem spl_join (c : UInt8) : ∀ ws : List (List UInt8), ws ≠ [] → (∀ w ∈ ws, c ∉ w) → spl c (Lib.join ws [c]) = ws
  | [], h, _ => absurd rfl h
  | [x], _, h => by rw [Lib.join_one]; exact spl_clean c x (h x (by simp))
  | x :: y :: r, _, h => by
    rw [join_two, spl_sep, spl_clean c x (h x (by simp)), spl_join c (y :: r) (by simp) (fun w hw => h w (by simp at hw ⊢; exact .inr hw))]
    rfl
theorem join_spl (c : UInt8) : ∀ l : List UInt8, Lib.join (spl c l) [c] = l
  | [] => by simp [spl, Lib.join_one]
  | b :: l => by
    have ih := join_spl c l
    rw [spl]
    by_cases e : b = c
    · rw [if_pos e]
      cases hs : spl c l with
      | nil => exact absurd hs (spl_ne c l)
      | cons w r => rw [join_two, ← hs, ih, e]; rfl
    · rw [if_neg e]
      cases hs : spl c l with
      | nil => exact absurd hs (spl_ne c l)
      | cons w r =>
        rw [hs] at ih
        cases r with
        | nil => rw [Lib.join_one] at ih ⊢; rw [ih]
        | cons y r => rw [join_two] at ih ⊢; rw [List.cons_append, ih]
theorem parts_spl (s : ByteArray) (c : UInt8) : (parts s c).map (·.data.toList) = spl c s.data.toList := by
  rw [← SJM.parts_join s c, spl_join]
  · simp [parts_ne]
  · intro w hw hc
    obtain ⟨p, hp, rfl⟩ := List.mem_map.1 hw
    obtain ⟨i, hi, rfl⟩ := List.mem_iff_getElem.1 hp
    have := SJM.parts_clean s c i hi
    unfold hasB at this
    rw [show sAt (parts s c) i = (parts s c)[i] from by simp [sAt, hi]] at this
    rw [List.contains_iff_mem.2 hc] at this
    cases this

theorem data_inj {a b : ByteArray} (h : a.data.toList = b.data.toList) : a = b := by
  cases a; cases b
  simp only [ByteArray.mk.injEq]
  exact Array.toList_inj.1 h
theorem map_inj : ∀ {a b : List ByteArray}, a.map (·.data.toList) = b.map (·.data.toList) → a = b
  | [], [], _ => rfl
  | [], _ :: _, h => by simp at h
  | _ :: _, [], h => by simp at h
  | x :: a, y :: b, h => by
    simp only [List.map_cons, List.cons.injEq] at h
    rw [data_inj h.1, map_inj h.2]
end Go.Proofs.YtleoljnofdajfaaGreatDoor.PfM

namespace Go.Proofs.YtleoljnofdajfaaGreatDoor.NumM
open Go.RowKit Lb Fmt Go.Lib

theorem digitVal_digit (d : Nat) (h : d < 10) : digitVal (UInt8.ofNat (48 + d)) = some d := by
  have e : (UInt8.ofNat (48 + d)).toNat = 48 + d := by simp [UInt8.toNat_ofNat']; omega
  unfold digitVal
  rw [e, if_pos (by omega)]
  simp

theorem decFrom_append (a b : List UInt8) (acc : Nat) : decFrom acc (a ++ b) = (decFrom acc a).bind (fun m => decFrom m b) := by
  induction a generalizing acc with
  | nil => rfl
  | cons c r ih =>
    simp only [List.cons_append, decFrom]
    cases digitVal c with
    | none => rfl
    | some d => exact ih _

theorem decFrom_digits (u : Nat) : decFrom 0 (decDigits u) = some u := by
  induction u using Nat.strongRecOn with
  | _ u ih =>
    by_cases h : u < 10
    · rw [decDigits_one h]
      simp only [decFrom, digitVal_digit u h]
      congr 1
      omega
    · rw [decDigits.eq_1 u, dif_neg h, decFrom_append, ih (u / 10) (by omega)]
      simp only [Option.bind_some, decFrom, digitVal_digit (u % 10) (Nat.mod_lt u (by omega))]
      congr 1
      omega

theorem decDigits_head (u : Nat) : ∃ d r, d < 10 ∧ decDigits u = UInt8.ofNat (48 + d) :: r := by
  induction u using Nat.strongRecOn with
  | _ u ih =>
    by_cases h : u < 10
    · exact ⟨u, [], h, decDigits_one h⟩
    · obtain ⟨d, r, hd, e⟩ := ih (u / 10) (by omega)
      exact ⟨d, r ++ [UInt8.ofNat (48 + u % 10)], hd, by rw [decDigits.eq_1 u, dif_neg h, e]; rfl⟩

theorem nDigits_le (k : Nat) : ∀ v : Nat, v < 10 ^ k → 0 < k → nDigits v ≤ k := by
  induction k with
  | zero => intro v _ h; omega
  | succ k ih =>
    intro v hv _
    by_cases h10 : v < 10
    · rw [nDigits_small h10]; omega
    · rw [nDigits, dif_neg h10]
      have hk : 0 < k := by
        rcases Nat.eq_zero_or_pos k with h0 | h0
        · subst h0; omega
        · exact h0
      have := ih (v / 10) (by rw [Nat.pow_succ] at hv; omega) hk
      omega

/-- Whether a text begins with a sign and goes on. -/
def negB (l : List UInt8) : Bool := decide (1 < l.length) && (l.head? == some 45)
/-- What stands behind the sign. -/
def mag (l : List UInt8) : List UInt8 := if negB l then l.tail else l
def sgn (l : List UInt8) (m : Nat) : Int := if negB l then -(m : Int) else m

/-- The number of a text, if it is the text of one. -/
def val (s : ByteArray) : Option Int :=
  if 1 ≤ (mag s.data.toList).length ∧ (mag s.data.toList).length ≤ 6 then
    match decFrom 0 (mag s.data.toList) with
    | some m => if fmtB (sgn s.data.toList m) = s then some (sgn s.data.toList m) else none
    | none => none
  else none

theorem decFrom_bound {l : List UInt8} {m : Nat} (h : decFrom 0 l = some m) (hl : l.length ≤ 6) : m ≤ 999999 := by
  have h1 := decFrom_lt l 0 m h
  have h2 : 10 ^ l.length ≤ 10 ^ 6 := Nat.pow_le_pow_right (by omega) hl
  omega

theorem val_some {s : ByteArray} {n : Int} (h : val s = some n) : -999999 ≤ n ∧ n ≤ 999999 ∧ fmtB n = s := by
  unfold val at h
  split at h
  · rename_i hl
    cases hd : decFrom 0 (mag s.data.toList) with
    | none => rw [hd] at h; cases h
    | some m =>
      rw [hd] at h
      have hm := decFrom_bound hd hl.2
      simp only at h
      split at h
      · rename_i hf
        cases h
        refine ⟨?_, ?_, hf⟩ <;> (unfold sgn; split <;> omega)
      · cases h
  · cases h

theorem fmtB_data (n : Int) : (fmtB n).data.toList = itoa n := by simp [fmtB]

theorem val_fmt (n : Int) (h0 : -999999 ≤ n) (h1 : n ≤ 999999) : val (fmtB n) = some n := by
  by_cases h : n < 0
  · obtain ⟨u, rfl⟩ : ∃ u : Nat, n = -(u : Int) := ⟨n.natAbs, by omega⟩
    have hi : itoa (-(u : Int)) = 45 :: decDigits u := by unfold itoa; rw [if_pos (by omega)]; simp
    have hlen : (decDigits u).length ≤ 6 := by rw [decDigits_length]; exact nDigits_le 6 u (by omega) (by omega)
    obtain ⟨d, r, _, hd⟩ := decDigits_head u
    have hpos : 1 ≤ (decDigits u).length := by rw [hd]; simp
    have hn : negB (45 :: decDigits u) = true := by simp [negB]; omega
    have hm : mag (45 :: decDigits u) = decDigits u := by unfold mag; rw [if_pos hn]; rfl
    unfold val
    rw [fmtB_data, hi, hm, if_pos ⟨hpos, hlen⟩, decFrom_digits]
    have hs : sgn (45 :: decDigits u) u = -(u : Int) := by unfold sgn; rw [if_pos hn]
    simp only [hs, if_true]
  · obtain ⟨u, rfl⟩ : ∃ u : Nat, n = (u : Int) := ⟨n.toNat, by omega⟩
    have hi : itoa (u : Int) = decDigits u := by unfold itoa; rw [if_neg (by omega)]; simp
    have hlen : (decDigits u).length ≤ 6 := by rw [decDigits_length]; exact nDigits_le 6 u (by omega) (by omega)
    obtain ⟨d, r, hd10, hd⟩ := decDigits_head u
    have hpos : 1 ≤ (decDigits u).length := by rw [hd]; simp
    have hne : UInt8.ofNat (48 + d) ≠ 45 := by
      intro e
      have := congrArg UInt8.toNat e
      simp [UInt8.toNat_ofNat'] at this
      omega
    have hn : negB (decDigits u) = false := by
      rw [hd]
      generalize UInt8.ofNat (48 + d) = c at hne
      simp [negB, hne]
    have hm : mag (decDigits u) = decDigits u := by unfold mag; rw [if_neg (by simp [hn])]
    unfold val
    rw [fmtB_data, hi, hm, if_pos ⟨hpos, hlen⟩, decFrom_digits]
    have hs : sgn (decDigits u) u = (u : Int) := by unfold sgn; rw [if_neg (by simp [hn])]
    simp only [hs, if_true]

/-- No text of a number in the range. -/
theorem val_none {s : ByteArray} (h : val s = none) (n : Int) (h0 : -999999 ≤ n) (h1 : n ≤ 999999) : fmtB n ≠ s := by
  intro e
  rw [← e, val_fmt n h0 h1] at h
  cases h

theorem atoi_fmt (n : Int) (h0 : -999999 ≤ n) (h1 : n ≤ 999999) : atoi (itoa n) = some n := by
  by_cases h : n < 0
  · obtain ⟨u, rfl⟩ : ∃ u : Nat, n = -(u : Int) := ⟨n.natAbs, by omega⟩
    have hi : itoa (-(u : Int)) = 45 :: decDigits u := by unfold itoa; rw [if_pos (by omega)]; simp
    obtain ⟨d, r, _, hd⟩ := decDigits_head u
    have hne : (decDigits u).isEmpty = false := by rw [hd]; rfl
    rw [hi]
    simp [atoi, decNat, hne, decFrom_digits]
  · obtain ⟨u, rfl⟩ : ∃ u : Nat, n = (u : Int) := ⟨n.toNat, by omega⟩
    have hi : itoa (u : Int) = decDigits u := by unfold itoa; rw [if_neg (by omega)]; simp
    obtain ⟨d, r, hd10, hd⟩ := decDigits_head u
    have h45 : UInt8.ofNat (48 + d) ≠ 45 := by
      intro e; have := congrArg UInt8.toNat e; simp [UInt8.toNat_ofNat'] at this; omega
    have h43 : UInt8.ofNat (48 + d) ≠ 43 := by
      intro e; have := congrArg UInt8.toNat e; simp [UInt8.toNat_ofNat'] at this; omega
    have hdf := decFrom_digits u
    rw [hi]
    rw [hd] at hdf ⊢
    generalize UInt8.ofNat (48 + d) = c at h45 h43 hdf
    simp [atoi, decNat, h45, h43, hdf]

theorem atoiAll_fmt (n : Int) (h0 : -999999 ≤ n) (h1 : n ≤ 999999) : atoiAll (fmtB n).data.toList = .ok n := by
  have hl : (itoa n).length ≤ 18 := by
    have := fmtB_size n (by omega) (by omega)
    have e : (fmtB n).size = (itoa n).length := by simp [fmtB, ByteArray.size]
    omega
  rw [fmtB_data, atoiAll_short _ hl, atoi_fmt n h0 h1]
  rfl

end Go.Proofs.YtleoljnofdajfaaGreatDoor.NumM

namespace Go.Proofs.YtleoljnofdajfaaGreatDoor.In
open Go.RowKit Lb
set_option linter.unusedSimpArgs false
set_option linter.unusedVariables false

theorem in_yes (x a b : Int) (w : World) (h1 : a ≤ x) (h2 : x ≤ b) :
    Calls Tryz.prog 56 #[.int .i64 x, .int .i64 a, .int .i64 b] w fun e w' => e = .returned (.bool true) ∧ w' = w := by
  go_enter Tryz.func56, Tryz.ntmps56
  have d2 : decide (x ≤ b) = true := by simpa using h2
  go_wp2
  go_ret
  exact ⟨rfl, rfl⟩

theorem in_no (x a b : Int) (w : World) (h : ¬ (a ≤ x ∧ x ≤ b)) :
    Calls Tryz.prog 56 #[.int .i64 x, .int .i64 a, .int .i64 b] w fun e w' => e = .returned (.bool false) ∧ w' = w := by
  by_cases h1 : a ≤ x
  · have d2 : decide (x ≤ b) = false := by simp; omega
    clear h
    go_enter Tryz.func56, Tryz.ntmps56
    go_wp2
    go_ret
    exact ⟨rfl, rfl⟩
  · clear h
    go_enter Tryz.func56, Tryz.ntmps56
    go_wp2
    go_ret
    exact ⟨rfl, rfl⟩

end Go.Proofs.YtleoljnofdajfaaGreatDoor.In

namespace Go.Proofs.YtleoljnofdajfaaGreatDoor.Rd
open Go.RowKit Lb Fmt NumM In Go.Lib
set_option linter.unusedSimpArgs false
set_option linter.unusedVariables false

/-- What ParseInt answers. -/
def RdPost (s : ByteArray) (e : Ending) : Prop := e = .returned (.tuple #[.int .i64 ((val s).getD 0), .bool (val s).isSome])

theorem len_list (t : ByteArray) : t.data.toList.length = t.size := Array.length_toList
theorem rd_none {s : ByteArray} (h : val s = none) : RdPost s (.returned (.tuple #[.int .i64 0, .bool false])) := by unfold RdPost; rw [h]; rfl
theorem rd_some {s : ByteArray} {n : Int} (h : val s = some n) : RdPost s (.returned (.tuple #[.int .i64 n, .bool true])) := by unfold RdPost; rw [h]; rfl

theorem digitVal_yes {b : UInt8} (h1 : 48 ≤ (b.toNat : Int)) (h2 : (b.toNat : Int) ≤ 57) : digitVal b = some (b.toNat - 48) := by
  unfold digitVal; rw [if_pos (by omega)]
theorem digitVal_no {b : UInt8} (h : ¬ (48 ≤ (b.toNat : Int) ∧ (b.toNat : Int) ≤ 57)) : digitVal b = none := by
  unfold digitVal; rw [if_neg (by omega)]
theorem decFrom_bad {l : List UInt8} {k : Nat} {b : UInt8} (hb : l[k]? = some b) (h : digitVal b = none) : decFrom 0 l = none := by
  cases hd : decFrom 0 l with
  | none => rfl
  | some n =>
    obtain ⟨d, e⟩ := digit_of_decFrom l 0 n hd k b hb
    rw [h] at e; cases e

theorem val_len {s : ByteArray} {l : List UInt8} (hm : mag s.data.toList = l) (h : ¬ (1 ≤ l.length ∧ l.length ≤ 6)) : val s = none := by
  unfold val; rw [hm, if_neg h]
theorem val_bad {s : ByteArray} {l : List UInt8} (hm : mag s.data.toList = l) (h : decFrom 0 l = none) : val s = none := by
  unfold val; rw [hm]; split
  · rw [h]
  · rfl
theorem val_neq {s : ByteArray} {l : List UInt8} {m : Nat} (hm : mag s.data.toList = l) (h : decFrom 0 l = some m) (hf : fmtB (sgn s.data.toList m) ≠ s) : val s = none := by
  unfold val; rw [hm]; split
  · rw [h]; simp only; rw [if_neg hf]
  · rfl
theorem val_eq {s : ByteArray} {l : List UInt8} {m : Nat} (hm : mag s.data.toList = l) (hl : 1 ≤ l.length ∧ l.length ≤ 6) (h : decFrom 0 l = some m) (hf : fmtB (sgn s.data.toList m) = s) : val s = some (sgn s.data.toList m) := by
  unfold val; rw [hm, if_pos hl, h]; simp only; rw [if_pos hf]
theorem byte_getElem? (t : ByteArray) (k : Nat) (h : k < t.size) : t.data.toList[k]? = some t[k] := by
  rw [List.getElem?_eq_getElem (by simpa using h)]; rfl
theorem take_one (t : ByteArray) (k m : Nat) (h : k < t.size) (hd : decFrom 0 (t.data.toList.take k) = some m) (h1 : 48 ≤ (t[k].toNat : Int)) (h2 : (t[k].toNat : Int) ≤ 57) :
    decFrom 0 (t.data.toList.take (k + 1)) = some (m * 10 + (t[k].toNat - 48)) :=
  decFrom_take _ k 0 m t[k] _ hd (byte_getElem? t k h) (digitVal_yes h1 h2)
theorem dec_small {l : List UInt8} {k m : Nat} (hk : k ≤ 6) (h : decFrom 0 (l.take k) = some m) : m ≤ 999999 := decFrom_bound h (by simp; omega)

set_option maxHeartbeats 1000000 in
theorem read_one (s : ByteArray) (w : World) (hs : s.size ≤ 1048576) (hneg : negB s.data.toList = false) (h0 : s.size ≤ 1) :
    Calls Tryz.prog 38 #[.string s] w fun e w' => RdPost s e ∧ Still w w' := by
  have hm : mag s.data.toList = s.data.toList := by unfold mag; rw [if_neg (by simp [hneg])]
  have HS := Lib.hid (fun m : Nat => (show sgn s.data.toList m = (m : Int) from by unfold sgn; rw [if_neg (by simp [hneg])]))
  clear hneg
  by_cases hl : 1 ≤ s.size ∧ s.size ≤ 6
  · -- the length fits
    have hl' : 1 ≤ s.data.toList.length ∧ s.data.toList.length ≤ 6 := by
      have e : s.data.toList.length = s.size := len_list _
      omega
    have HL := Lib.hid hl'
    have HM := Lib.hid hm
    clear hl' hm
    go_enter Tryz.func38, Tryz.ntmps38
    go_wp2_with (go_at_call 56; refine (in_yes _ _ _ _ (by omega) (by omega)).mono ?_; rintro e w' ⟨rfl, rfl⟩)
    go_loop [5, 6] (fun n i => ∃ k m : Nat, k ≤ s.size ∧ i = .int .i64 k ∧ n = .int .i64 m ∧ decFrom 0 (s.data.toList.take k) = some m) (fun _ i => s.size - (RowKit.intOf i).toNat)
    case atStart => exact ⟨0, 0, Nat.zero_le _, rfl, rfl, by simp [decFrom]⟩
    case round =>
      obtain ⟨k, m, hk, rfl, rfl, hd⟩ := hrel
      have hm6 := dec_small (by omega) hd
      by_cases hlt : k < s.size
      · have hb0 : 0 ≤ (s[k].toNat : Int) ∧ (s[k].toNat : Int) ≤ 255 := by have := s[k].toNat_lt; omega
        have HG := Lib.hid (byte_getElem? s k hlt)
        by_cases h48 : 48 ≤ (s[k].toNat : Int)
        · by_cases h57 : (s[k].toNat : Int) ≤ 57
          · have HT := Lib.hid (take_one s k m hlt hd h48 h57)
            clear hd
            go_wp2_with (first | (go_at_call 58; fail))
            go_round
            case rel => exact ⟨k + 1, m * 10 + (s[k].toNat - 48), by omega, by go_num, by go_num, HT.out⟩
            case measure => simp [RowKit.intOf]; omega
          · have hn := Lib.hid (val_bad HM.out (decFrom_bad HG.out (digitVal_no (by omega))))
            clear hd
            go_wp2_with (first | (go_at_call 58; fail))
            go_ret2
            exact ⟨rd_none hn.out, Still.refl _⟩
        · have hn := Lib.hid (val_bad HM.out (decFrom_bad HG.out (digitVal_no (by omega))))
          clear hd
          go_wp2_with (first | (go_at_call 58; fail))
          go_ret2
          exact ⟨rd_none hn.out, Still.refl _⟩
      · obtain rfl : k = s.size := by omega
        rw [List.take_of_length_le (Nat.le_of_eq (len_list _))] at hd
        have HD := Lib.hid hd
        clear hd
        go_wp2_with fail
        refine (num_any ((m : Int)) (by omega) (by omega) _).mono ?_
        rintro e w1 ⟨rfl, q, rfl⟩
        by_cases hf : fmtB ((m : Int)) = s
        · have hv := Lib.hid (val_eq HM.out HL.out HD.out (by rw [HS.out m]; exact hf))
          have hbe : (!(fmtB ((m : Int))).toList == s.toList) = false := by rw [hf]; simp
          clear hf
          go_wp2_with fail
          go_ret2
          refine ⟨?_, q, rfl⟩
          have := rd_some hv.out
          rw [HS.out m] at this
          exact this
        · have hv := Lib.hid (val_neq HM.out HD.out (by rw [HS.out m]; exact hf))
          have hbe := str_neq hf
          clear hf
          go_wp2_with fail
          go_ret2
          exact ⟨rd_none hv.out, q, rfl⟩
  · -- it doesn't
    have hn := Lib.hid (val_len hm (by
      have e : s.data.toList.length = s.size := len_list _
      omega))
    clear hm
    go_enter Tryz.func38, Tryz.ntmps38
    go_wp2_with (go_at_call 56; refine (in_no _ _ _ _ (by omega)).mono ?_; rintro e w' ⟨rfl, rfl⟩)
    go_ret2
    exact ⟨rd_none hn.out, Still.refl _⟩

set_option maxHeartbeats 1000000 in
theorem read_pos (s : ByteArray) (w : World) (hs : s.size ≤ 1048576) (hneg : negB s.data.toList = false) (h0 : 1 < s.size) (h45 : ((s[0].toNat : Int) == 45) = false) :
    Calls Tryz.prog 38 #[.string s] w fun e w' => RdPost s e ∧ Still w w' := by
  have hm : mag s.data.toList = s.data.toList := by unfold mag; rw [if_neg (by simp [hneg])]
  have HS := Lib.hid (fun m : Nat => (show sgn s.data.toList m = (m : Int) from by unfold sgn; rw [if_neg (by simp [hneg])]))
  clear hneg
  by_cases hl : 1 ≤ s.size ∧ s.size ≤ 6
  · -- the length fits
    have hl' : 1 ≤ s.data.toList.length ∧ s.data.toList.length ≤ 6 := by
      have e : s.data.toList.length = s.size := len_list _
      omega
    have HL := Lib.hid hl'
    have HM := Lib.hid hm
    clear hl' hm
    go_enter Tryz.func38, Tryz.ntmps38
    go_wp2_with (go_at_call 56; refine (in_yes _ _ _ _ (by omega) (by omega)).mono ?_; rintro e w' ⟨rfl, rfl⟩)
    go_loop [5, 6] (fun n i => ∃ k m : Nat, k ≤ s.size ∧ i = .int .i64 k ∧ n = .int .i64 m ∧ decFrom 0 (s.data.toList.take k) = some m) (fun _ i => s.size - (RowKit.intOf i).toNat)
    case atStart => exact ⟨0, 0, Nat.zero_le _, rfl, rfl, by simp [decFrom]⟩
    case round =>
      obtain ⟨k, m, hk, rfl, rfl, hd⟩ := hrel
      have hm6 := dec_small (by omega) hd
      by_cases hlt : k < s.size
      · have hb0 : 0 ≤ (s[k].toNat : Int) ∧ (s[k].toNat : Int) ≤ 255 := by have := s[k].toNat_lt; omega
        have HG := Lib.hid (byte_getElem? s k hlt)
        by_cases h48 : 48 ≤ (s[k].toNat : Int)
        · by_cases h57 : (s[k].toNat : Int) ≤ 57
          · have HT := Lib.hid (take_one s k m hlt hd h48 h57)
            clear hd
            go_wp2_with (first | (go_at_call 58; fail))
            go_round
            case rel => exact ⟨k + 1, m * 10 + (s[k].toNat - 48), by omega, by go_num, by go_num, HT.out⟩
            case measure => simp [RowKit.intOf]; omega
          · have hn := Lib.hid (val_bad HM.out (decFrom_bad HG.out (digitVal_no (by omega))))
            clear hd
            go_wp2_with (first | (go_at_call 58; fail))
            go_ret2
            exact ⟨rd_none hn.out, Still.refl _⟩
        · have hn := Lib.hid (val_bad HM.out (decFrom_bad HG.out (digitVal_no (by omega))))
          clear hd
          go_wp2_with (first | (go_at_call 58; fail))
          go_ret2
          exact ⟨rd_none hn.out, Still.refl _⟩
      · obtain rfl : k = s.size := by omega
        rw [List.take_of_length_le (Nat.le_of_eq (len_list _))] at hd
        have HD := Lib.hid hd
        clear hd
        go_wp2_with fail
        refine (num_any ((m : Int)) (by omega) (by omega) _).mono ?_
        rintro e w1 ⟨rfl, q, rfl⟩
        by_cases hf : fmtB ((m : Int)) = s
        · have hv := Lib.hid (val_eq HM.out HL.out HD.out (by rw [HS.out m]; exact hf))
          have hbe : (!(fmtB ((m : Int))).toList == s.toList) = false := by rw [hf]; simp
          clear hf
          go_wp2_with fail
          go_ret2
          refine ⟨?_, q, rfl⟩
          have := rd_some hv.out
          rw [HS.out m] at this
          exact this
        · have hv := Lib.hid (val_neq HM.out HD.out (by rw [HS.out m]; exact hf))
          have hbe := str_neq hf
          clear hf
          go_wp2_with fail
          go_ret2
          exact ⟨rd_none hv.out, q, rfl⟩
  · -- it doesn't
    have hn := Lib.hid (val_len hm (by
      have e : s.data.toList.length = s.size := len_list _
      omega))
    clear hm
    go_enter Tryz.func38, Tryz.ntmps38
    go_wp2_with (go_at_call 56; refine (in_no _ _ _ _ (by omega)).mono ?_; rintro e w' ⟨rfl, rfl⟩)
    go_ret2
    exact ⟨rd_none hn.out, Still.refl _⟩

set_option maxHeartbeats 1000000 in
theorem read_neg (s : ByteArray) (w : World) (hs : s.size ≤ 1048576) (hneg : negB s.data.toList = true) (h0 : 1 < s.size) (h45 : ((s[0].toNat : Int) == 45) = true) :
    Calls Tryz.prog 38 #[.string s] w fun e w' => RdPost s e ∧ Still w w' := by
  obtain ⟨t, hT⟩ : ∃ t, s.extract 1 s.size = t := ⟨_, rfl⟩
  have hm : mag s.data.toList = t.data.toList := by
    unfold mag; rw [if_pos hneg, ← hT, Lib.extract_to_end, ← List.drop_one]
  have HS := Lib.hid (fun m : Nat => (show sgn s.data.toList m = -(m : Int) from by unfold sgn; rw [if_pos hneg]))
  have hts : t.size = s.size - 1 := by rw [← hT, ByteArray.size_extract]; omega
  have htlt : t.size < s.size := by omega
  have HT0 := Lib.hid hT
  clear hneg hT
  by_cases hl : 1 ≤ t.size ∧ t.size ≤ 6
  · -- the length fits
    have hl' : 1 ≤ t.data.toList.length ∧ t.data.toList.length ≤ 6 := by
      have e : t.data.toList.length = t.size := len_list _
      omega
    have HL := Lib.hid hl'
    have hz1 : 2 ≤ s.size := by omega
    have hz2 : s.size ≤ 7 := by omega
    have HZ := Lib.hid hts
    clear hts
    have HM := Lib.hid hm
    clear hl' hm
    go_enter Tryz.func38, Tryz.ntmps38
    go_wp2_with (go_at_call 56; refine (in_yes _ _ _ _ (by omega) (by omega)).mono ?_; rintro e w' ⟨rfl, rfl⟩)
    rw [HT0.out]
    go_loop [5, 6] (fun n i => ∃ k m : Nat, k ≤ t.size ∧ i = .int .i64 k ∧ n = .int .i64 m ∧ decFrom 0 (t.data.toList.take k) = some m) (fun _ i => t.size - (RowKit.intOf i).toNat)
    case atStart => exact ⟨0, 0, Nat.zero_le _, rfl, rfl, by simp [decFrom]⟩
    case round =>
      obtain ⟨k, m, hk, rfl, rfl, hd⟩ := hrel
      have hm6 := dec_small (by omega) hd
      by_cases hlt : k < t.size
      · have hb0 : 0 ≤ (t[k].toNat : Int) ∧ (t[k].toNat : Int) ≤ 255 := by have := t[k].toNat_lt; omega
        have HG := Lib.hid (byte_getElem? t k hlt)
        by_cases h48 : 48 ≤ (t[k].toNat : Int)
        · by_cases h57 : (t[k].toNat : Int) ≤ 57
          · have HT := Lib.hid (take_one t k m hlt hd h48 h57)
            clear hd
            go_wp2_with (first | (go_at_call 58; fail))
            go_round
            case rel => exact ⟨k + 1, m * 10 + (t[k].toNat - 48), by omega, by go_num, by go_num, HT.out⟩
            case measure => simp [RowKit.intOf]; omega
          · have hn := Lib.hid (val_bad HM.out (decFrom_bad HG.out (digitVal_no (by omega))))
            clear hd
            go_wp2_with (first | (go_at_call 58; fail))
            go_ret2
            exact ⟨rd_none hn.out, Still.refl _⟩
        · have hn := Lib.hid (val_bad HM.out (decFrom_bad HG.out (digitVal_no (by omega))))
          clear hd
          go_wp2_with (first | (go_at_call 58; fail))
          go_ret2
          exact ⟨rd_none hn.out, Still.refl _⟩
      · obtain rfl : k = t.size := by omega
        rw [List.take_of_length_le (Nat.le_of_eq (len_list _))] at hd
        have HD := Lib.hid hd
        clear hd
        go_wp2_with fail
        refine (num_any (-(m : Int)) (by omega) (by omega) _).mono ?_
        rintro e w1 ⟨rfl, q, rfl⟩
        by_cases hf : fmtB (-(m : Int)) = s
        · have hv := Lib.hid (val_eq HM.out HL.out HD.out (by rw [HS.out m]; exact hf))
          have hbe : (!(fmtB (-(m : Int))).toList == s.toList) = false := by rw [hf]; simp
          clear hf
          go_wp2_with fail
          go_ret2
          refine ⟨?_, q, rfl⟩
          have := rd_some hv.out
          rw [HS.out m] at this
          exact this
        · have hv := Lib.hid (val_neq HM.out HD.out (by rw [HS.out m]; exact hf))
          have hbe := str_neq hf
          clear hf
          go_wp2_with fail
          go_ret2
          exact ⟨rd_none hv.out, q, rfl⟩
  · -- it doesn't
    have hn := Lib.hid (val_len hm (by
      have e : t.data.toList.length = t.size := len_list _
      omega))
    have hz : ¬ (1 ≤ s.size - 1 ∧ s.size - 1 ≤ 6) := by omega
    have HZ := Lib.hid hts
    clear hm hts
    go_enter Tryz.func38, Tryz.ntmps38
    go_wp2_with (go_at_call 56; refine (in_no _ _ _ _ (by omega)).mono ?_; rintro e w' ⟨rfl, rfl⟩)
    go_ret2
    exact ⟨rd_none hn.out, Still.refl _⟩

end Go.Proofs.YtleoljnofdajfaaGreatDoor.Rd

namespace Go.Proofs.YtleoljnofdajfaaGreatDoor.Fmt
open Go.RowKit Lb
set_option linter.unusedSimpArgs false
set_option linter.unusedVariables false

set_option maxHeartbeats 400000 in
theorem implFmt_ok (n : Int) (h0 : -999999 ≤ n) (h1 : n ≤ 999999) (w : World) (ht : Tab w) :
    Calls Tryz.prog 63 #[.int .i64 n] w fun e w' => e = .returned (.tuple #[.string (fmtB n), .bool true]) ∧ Below w.heap.size w w' := by
  have hc := Lib.hid (Tryz.strconv_Itoa n (by omega) (by omega) w ht)
  go_enter Tryz.func63, Tryz.ntmps63
  go_wp2_with fail
  refine hc.out.mono ?_
  rintro e w1 ⟨rfl, m, os, rfl⟩
  go_wp2
  go_ret2
  refine ⟨rfl, rfl, rfl, rfl, ?_, ?_⟩
  · show w.heap.size ≤ (w.heap ++ os).size
    simp
  · intro k hk
    show (w.heap ++ os)[k]? = _
    rw [Array.getElem?_append_left hk]

set_option maxHeartbeats 400000 in
theorem implFmt_no (n : Int) (hn : (Lit.int .i64 n).wf = true) (h : n < -999999 ∨ 999999 < n) (w : World) :
    Calls Tryz.prog 63 #[.int .i64 n] w fun e w' => e = .returned (.tuple #[.string ByteArray.empty, .bool false]) ∧ w' = w := by
  have hb : -9223372036854775808 ≤ n ∧ n ≤ 9223372036854775807 := by simpa [Lit.wf, IntKind.min, IntKind.max, IntKind.signed, IntKind.bits] using hn
  rcases h with h | h
  · go_enter Tryz.func63, Tryz.ntmps63
    go_wp2
    go_ret2
    exact ⟨rfl, rfl⟩
  · have h' : ¬ n < -999999 := by omega
    go_enter Tryz.func63, Tryz.ntmps63
    go_wp2
    go_ret2
    exact ⟨rfl, rfl⟩

end Go.Proofs.YtleoljnofdajfaaGreatDoor.Fmt

namespace Go.Proofs.YtleoljnofdajfaaGreatDoor.Prs
open Go.RowKit Lb Fmt NumM In Rd
set_option linter.unusedSimpArgs false
set_option linter.unusedVariables false

theorem read_any (s : ByteArray) (w : World) (hs : s.size ≤ 1048576) : Calls Tryz.prog 38 #[.string s] w fun e w' => RdPost s e ∧ Still w w' := by
  have hlen : s.data.toList.length = s.size := len_list s
  by_cases h0 : s.size ≤ 1
  · exact read_one s w hs (by unfold negB; rw [decide_eq_false (by omega)]; rfl) h0
  · have h1 : 1 < s.size := by omega
    have hh : s.data.toList.head? = some s[0] := by
      have := byte_getElem? s 0 (by omega)
      rw [← this, List.head?_eq_getElem?]
    by_cases h45 : s[0] = 45
    · refine read_neg s w hs ?_ h1 (by rw [h45]; rfl)
      unfold negB; rw [decide_eq_true (by omega), hh, h45]; rfl
    · refine read_pos s w hs ?_ h1 ?_
      · unfold negB; rw [decide_eq_true (by omega), hh]; simpa using h45
      · have := u8_beq_no h45
        exact this

/-- What the library's texts lean on: its table and its two errors. -/
structure Glob (w : World) : Prop where
  tab : Tab w
  syn : ∃ tp p, w.var? Tryz.prog "strconv.ErrSyntax" = some #[.iface tp p]
  ran : ∃ tp p, w.var? Tryz.prog "strconv.ErrRange" = some #[.iface tp p]

theorem gPow : Tryz.prog.globalNamed "internal/strconv.uint64pow10" = some 1 := by kernel_rfl
theorem gSyn : Tryz.prog.globalNamed "strconv.ErrSyntax" = some 2 := by kernel_rfl
theorem gRan : Tryz.prog.globalNamed "strconv.ErrRange" = some 3 := by kernel_rfl

theorem var_lt {w : World} {n : String} {g : Nat} {cs : Array Value} (hg : Tryz.prog.globalNamed n = some g) (h : w.var? Tryz.prog n = some cs) : g < w.heap.size := by
  unfold World.var? at h
  simp only [hg, Option.bind_some] at h
  by_cases hl : g < w.heap.size
  · exact hl
  · rw [Array.getElem?_eq_none (by omega)] at h
    simp at h

theorem tab_below {w w' : World} (h : Tab w) (hb : Below w.heap.size w w') : Tab w' := var?_below hb gPow (var_lt gPow h) h
theorem Glob.below {w w' : World} (h : Glob w) (hb : Below w.heap.size w w') : Glob w' := by
  obtain ⟨h1, ⟨a, b, h2⟩, ⟨c, d, h3⟩⟩ := h
  exact ⟨tab_below h1 hb, ⟨a, b, var?_below hb gSyn (var_lt gSyn h2) h2⟩, ⟨c, d, var?_below hb gRan (var_lt gRan h3) h3⟩⟩

theorem below_bytes (w : World) (e : TypeId) (t : ByteArray) : Below w.heap.size w (Lib.bytesWorld w e t) := by
  unfold Lib.bytesWorld World.freeze
  split
  · exact (Below.refl _ _).drew.alloc (Nat.le_refl _) _
  · refine ⟨rfl, rfl, rfl, ?_, fun k hk => ?_⟩
    · simp
    · show (Array.modify _ _ _)[k]? = _
      rw [Array.getElem?_modify, if_neg (by show ¬ w.heap.size = k; omega)]
      exact Below.heap_alloc w.drew _ k hk

set_option maxHeartbeats 1000000 in
theorem implParse_any (s : ByteArray) (w : World) (hg : Glob w) (hs : s.size ≤ 1048576) : Calls Tryz.prog 32 #[.string s] w fun e w' => RdPost s e ∧ Below w.heap.size w w' := by
  obtain ⟨htab, ⟨ts, ps, hsyn⟩, ⟨tr, pr, hran⟩⟩ := hg
  cases ha : Lib.atoiAll s.data.toList with
  | ok v =>
    have hv := Lib.atoiAll_bounds ha
    have ca := Lib.hid (Tryz.strconv_Atoi_ok s (by omega) v ha w)
    have HT := Lib.hid htab
    have HA := Lib.hid ha
    clear ha hsyn hran htab
    go_enter Tryz.func32, Tryz.ntmps32
    go_wp2_with fail
    refine ca.out.mono ?_
    rintro e w1 ⟨rfl, hw1⟩
    have hb1 := Lib.hid (show Below w.heap.size w w1 from by
      rcases hw1 with rfl | ⟨t, rfl⟩
      · exact Below.refl _ _
      · exact below_bytes _ _ _)
    have HT1 := Lib.hid (tab_below HT.out hb1.out)
    clear hw1
    by_cases hr : -999999 ≤ v ∧ v ≤ 999999
    · have cf := Lib.hid (implFmt_ok v hr.1 hr.2 w1 HT1.out)
      go_wp2_with fail
      refine cf.out.mono ?_
      rintro e w2 ⟨rfl, hb2⟩
      have hb3 := Lib.hid (hb1.out.trans (hb2.mono hb1.out.size))
      clear hb2
      by_cases hf : fmtB v = s
      · have hval := Lib.hid (show val s = some v from by rw [← hf]; exact val_fmt v hr.1 hr.2)
        have hbe : (!(fmtB v).toList == s.toList) = false := by rw [hf]; simp
        clear hf
        go_wp2_with fail
        go_ret2
        exact ⟨rd_some hval.out, hb3.out⟩
      · have hval := Lib.hid (show val s = none from by
          cases hv' : val s with
          | none => rfl
          | some n =>
            obtain ⟨h1, h2, h3⟩ := val_some hv'
            have h4 := atoiAll_fmt n h1 h2
            rw [h3, HA.out] at h4
            cases h4
            exact absurd h3 hf)
        have hbe := str_neq hf
        clear hf
        go_wp2_with fail
        go_ret2
        exact ⟨rd_none hval.out, hb3.out⟩
    · have cf := Lib.hid (implFmt_no v (by simp [Lit.wf, IntKind.min, IntKind.max, IntKind.signed, IntKind.bits]; omega) (by omega) w1)
      have hval := Lib.hid (show val s = none from by
          cases hv' : val s with
          | none => rfl
          | some n =>
            obtain ⟨h1, h2, h3⟩ := val_some hv'
            have h4 := atoiAll_fmt n h1 h2
            rw [h3, HA.out] at h4
            cases h4
            exact absurd ⟨h1, h2⟩ hr)
      clear hr
      go_wp2_with fail
      refine cf.out.mono ?_
      rintro e w2 ⟨rfl, rfl⟩
      go_wp2_with fail
      go_ret2
      exact ⟨rd_none hval.out, hb1.out⟩
  | _ =>
    have hval := Lib.hid (show val s = none from by
          cases hv' : val s with
          | none => rfl
          | some n =>
            obtain ⟨h1, h2, h3⟩ := val_some hv'
            have h4 := atoiAll_fmt n h1 h2
            rw [h3, ha] at h4
            cases h4)
    first
      | have ca := Lib.hid (Tryz.strconv_Atoi_syntax_var s (by omega) ha ts ps w hsyn)
      | have ca := Lib.hid (Tryz.strconv_Atoi_range_var s (by omega) ha tr pr w hran)
    clear ha hsyn hran htab
    go_enter Tryz.func32, Tryz.ntmps32
    go_wp2_with fail
    refine ca.out.mono ?_
    rintro e w1 ⟨N, rfl, _, _, hb⟩
    go_wp2_with fail
    go_ret2
    exact ⟨rd_none hval.out, hb⟩

end Go.Proofs.YtleoljnofdajfaaGreatDoor.Prs

namespace Go.Proofs.YtleoljnofdajfaaGreatDoor.RpM
open Go.RowKit Lb Bk InA Wd RuK RuI Fmt NumM RuT PfM
set_option linter.unusedSimpArgs false
set_option linter.unusedVariables false

def wB : ByteArray := ⟨#[119]⟩
/-- What is read off words. -/
def mk (ws : List ByteArray) : Ru := ⟨(val (sAt ws 0)).getD 0, sAt ws 1, sAt ws 3, (val (sAt ws 4)).getD 0, decide (sAt ws 5 = wB), if ws.length = 8 then (val (sAt ws 7)).getD 0 else 0⟩
def canR (s : ByteArray) : Ru := mk (parts s 32)
/-- Whether a text is a runner's: as the model asks it, as the program does. -/
def okS (s : ByteArray) : Bool := decide (s.size ≤ 60 ∧ ((parts s 32).length = 6 ∨ (parts s 32).length = 8)) && (okR (canR s) && decide (txR (canR s) = s))
def okI (s : ByteArray) : Bool := decide (s.size ≤ 4000 ∧ 6 ≤ (parts s 32).length) && (okR (canR s) && decide (txR (canR s) = s))
def ansR (s : ByteArray) : Ru := if okS s then canR s else no

theorem nd_le {n k : Nat} (h : n < 10 ^ k) (hk : 0 < k) : (fmtB (n : Int)).size ≤ k := by
  have h1 := nDigits_le k n h hk
  have h2 : (fmtB (n : Int)).size = (Lib.itoa (n : Int)).length := by rw [← fmtB_data]; exact Array.length_toList.symm
  rw [h2, Lib.itoa_nonneg, Lib.decDigits_length]
  exact h1
theorem int_size {z : Int} {k : Nat} (h0 : 0 ≤ z) (h : z.toNat < 10 ^ k) (hk : 0 < k) : (fmtB z).size ≤ k := by
  have := nd_le h hk
  rwa [Int.toNat_of_nonneg h0] at this
theorem tx_size {r : Ru} (h : okR r = true) : (txR r).size ≤ 60 := by
  obtain ⟨hid, hnm, hcl, hbo, hca⟩ := ok_parts h
  have hn := word_size hnm
  have hc := word_size hcl
  have s1 := int_size (z := r.id) (k := 3) (by omega) (by omega) (by omega)
  have s2 := int_size (z := r.bo) (k := 4) (by omega) (by omega) (by omega)
  have s3 := int_size (z := r.ca) (k := 4) (by omega) (by omega) (by omega)
  have e : (tB r).size ≤ 40 := by
    unfold tB tA
    simp only [ByteArray.size_append]
    have : (if r.wo then (⟨#[32, 119]⟩ : ByteArray) else ⟨#[32, 109]⟩).size = 2 := by split <;> rfl
    rw [this]
    show _ + 1 + _ + 4 + _ + 1 + _ + 2 ≤ 40
    omega
  unfold txR
  split
  · omega
  · simp only [ByteArray.size_append]
    show _ + 6 + _ ≤ 60
    omega

theorem dec_no32 (u : Nat) : (32 : UInt8) ∉ Lib.decDigits u := by
  rw [Lib.decDigits_eq]
  intro h
  obtain ⟨t, _, e⟩ := List.mem_map.1 h
  have h1 := congrArg UInt8.toNat e
  unfold Lib.dg at h1
  simp at h1
  omega
theorem num_clean (z : Int) (h0 : 0 ≤ z) (h1 : z ≤ 9999) : (32 : UInt8) ∉ (fmtB z).data.toList := by
  obtain ⟨u, rfl⟩ : ∃ u : Nat, z = (u : Int) := ⟨z.toNat, by omega⟩
  rw [fmtB_data, Lib.itoa_nonneg]
  exact dec_no32 u
theorem word_clean {x : ByteArray} (h : wordB x = true) : (32 : UInt8) ∉ x.data.toList := by
  intro m
  obtain ⟨k, hk, e⟩ := List.mem_iff_getElem.1 m
  have hk' : k < x.size := by have h := Rd.len_list x; omega
  have := (of_decide_eq_true h : WordP x).2 k hk' hk'
  have e2 : x[k] = 32 := by rw [← e]; rfl
  rw [e2] at this
  exact absurd this.1 (by decide)

def sxOf (r : Ru) : ByteArray := if r.wo then ⟨#[119]⟩ else ⟨#[109]⟩
theorem sx_eq (r : Ru) : (if r.wo then (⟨#[32, 119]⟩ : ByteArray) else ⟨#[32, 109]⟩) = ⟨#[32]⟩ ++ sxOf r := by unfold sxOf; split <;> rfl
/-- The words of a runner. -/
def wsR (r : Ru) : List ByteArray := if r.ca = 0 then RuQ.ws r (sxOf r) else RuQ.ws r (sxOf r) ++ [⟨#[99, 97, 114, 100]⟩, fmtB r.ca]
theorem wsR_len (r : Ru) : (wsR r).length = if r.ca = 0 then 6 else 8 := by unfold wsR; split <;> rfl
theorem tx_join (r : Ru) : (txR r).data.toList = Lib.join ((wsR r).map (·.data.toList)) [32] := by
  have h6 := RuQ.join6 r (sxOf r) (sx_eq r)
  have key : txR r = jn ⟨#[32]⟩ (wsR r) (wsR r).length := by
    unfold txR wsR
    split
    · exact h6.symm
    · exact (RuQ.join8 r (sxOf r) h6).symm
  rw [key, jn_data _ _ _ (Nat.le_refl _), List.take_length]
theorem ws_clean {r : Ru} (h : okR r = true) : ∀ x ∈ wsR r, (32 : UInt8) ∉ x.data.toList := by
  obtain ⟨hid, hnm, hcl, hbo, hca⟩ := ok_parts h
  have h1 := num_clean r.id (by omega) (by omega)
  have h2 := num_clean r.bo (by omega) (by omega)
  have h3 := num_clean r.ca (by omega) (by omega)
  have h4 := word_clean hnm
  have h5 := word_clean hcl
  have h6 : (32 : UInt8) ∉ (sxOf r).data.toList := by unfold sxOf; split <;> decide
  have key : ∀ x ∈ RuQ.ws r (sxOf r), (32 : UInt8) ∉ x.data.toList := by
    intro x hx
    simp only [RuQ.ws, List.mem_cons, List.not_mem_nil, or_false] at hx
    rcases hx with rfl | rfl | rfl | rfl | rfl | rfl
    · exact h1
    · exact h4
    · decide
    · exact h5
    · exact h2
    · exact h6
  unfold wsR
  split
  · exact key
  · intro x hx
    rcases List.mem_append.1 hx with hx | hx
    · exact key x hx
    · simp only [List.mem_cons, List.not_mem_nil, or_false] at hx
      rcases hx with rfl | rfl
      · decide
      · exact h3
theorem parts_tx {r : Ru} (h : okR r = true) : parts (txR r) 32 = wsR r := by
  refine map_inj ?_
  rw [parts_spl, tx_join, spl_join]
  · unfold wsR; split <;> simp [RuQ.ws]
  · intro w hw
    obtain ⟨x, hx, rfl⟩ := List.mem_map.1 hw
    exact ws_clean h x hx

/-- Both ask the same. -/
theorem ok_same (s : ByteArray) : okI s = okS s := by
  cases hk : (okR (canR s) && decide (txR (canR s) = s)) with
  | false => unfold okI okS; rw [hk, Bool.and_false, Bool.and_false]
  | true =>
    rw [Bool.and_eq_true] at hk
    have ht := of_decide_eq_true hk.2
    have hs := tx_size hk.1
    have hp := parts_tx hk.1
    have hl := wsR_len (canR s)
    rw [ht] at hs hp
    rw [← hp] at hl
    have h68 : (parts s 32).length = 6 ∨ (parts s 32).length = 8 := by
      rw [hl]; split
      · exact .inl rfl
      · exact .inr rfl
    unfold okI okS
    rw [decide_eq_true (show s.size ≤ 4000 ∧ 6 ≤ (parts s 32).length by omega), decide_eq_true (show s.size ≤ 60 ∧ ((parts s 32).length = 6 ∨ (parts s 32).length = 8) from ⟨hs, h68⟩)]
theorem wq {x : ByteArray} : (x.toList == [119]) = decide (x = wB) := by
  by_cases h : x = wB
  · rw [decide_eq_true h, h, ByteArray.toList_eq]; rfl
  · rw [decide_eq_false h]
    have := str_beq h
    rwa [show wB.toList = [119] from by rw [ByteArray.toList_eq]; rfl] at this
end Go.Proofs.YtleoljnofdajfaaGreatDoor.RpM
