/- SplitString: the walk of the program's text, a range over a function. -/
import Derived.RangeFuncBox
import Derived.RangeFuncLeaves
import Derived.Shelf.Abstract
import Derived.WalkKit
import Derived.OwnWalkIn
import Derived.TacticsInMore
import Derived.LoopNIn
import Derived.LoopIn
import Derived.Maps.AppendAt
import Derived.WalkLawsBesides
import Derived.Test.YtnenaponiahalaaDoorProg
import Derived.Test.YtnenaponiahalaaDoorSplM
namespace Go.Proofs.YtnenaponiahalaaDoor.SplI
open Go.RowKit Go.Shelf Lb
set_option linter.unusedSimpArgs false
set_option linter.unusedVariables false

attribute [local go_sem] Oper.semAt_some

/-- What the loop's body must leave alone: the two captured variables. -/
def KeepB (bs bc : Nat) (W W' : World) : Prop := ∀ k, k = bs ∨ k = bc → W'.heap[k]? = W.heap[k]?
theorem KeepB.refl (bs bc : Nat) (W : World) : KeepB bs bc W W := fun _ _ => rfl
theorem KeepB.trans {bs bc : Nat} {A B C : World} (h : KeepB bs bc A B) (k : KeepB bs bc B C) : KeepB bs bc A C := fun i hi => (k i hi).trans (h i hi)
theorem KeepB.drew {bs bc : Nat} {A B : World} (h : KeepB bs bc A B) : KeepB bs bc A B.drew := h
theorem KeepB.cell {bs bc : Nat} {A B : World} (h : KeepB bs bc A B) {p : Addr} (hp : p.block = bs ∨ p.block = bc) : B.cell? p = A.cell? p := World.cell?_of_block (h _ hp)
theorem keepB_put {bs bc : Nat} {w : World} (h1 : bs < w.heap.size) (h2 : bc < w.heap.size) (W : World) (l : Nat) (o o' : Obj) (hl : w.heap.size ≤ l) (h : W.heap[l]? = some o) (_ : o.isCells = false) (_ : o.isWalk = false) : KeepB bs bc W (W.putObj l o') := by
  intro k hk
  refine (grownBy_putObj' W l o').block k ?_ (fun e => by cases e; omega)
  have := (Array.getElem?_eq_some_iff.1 h).1
  omega

set_option maxRecDepth 100000 in
set_option maxHeartbeats 1000000 in
theorem iter_in (F : Fence) (n : Nat) (h6 : F.fn 40) (hro : F.round = none) (hn : 1 ≤ n) (l Bs Bc : Nat) (s : ByteArray) (c : UInt8) (hs : s.size ≤ 4000) (J Jx : List ByteArray → World → Prop) (hJd : ∀ pre W, J pre W → J pre W.drew)
    (hY : ∀ pre x W, J pre W → pre.length < s.size + 1 → YieldAt F (n - 1) Tryd.prog l #[.string x] W fun e W' =>
      (e = .returned (.bool true) ∧ J (pre ++ [x]) W' ∧ KeepB Bs Bc W W') ∨ (e = .returned (.bool false) ∧ Jx (pre ++ [x]) W'))
    (W : World) (hBs : W.cell? ⟨Bs, 0, none⟩ = some (.string s)) (hBc : W.cell? ⟨Bc, 0, none⟩ = some (.int .u8 c.toNat)) (h0 : J [] W) :
    CallsIn F n Tryd.prog 40 #[.func (.yield l) #[] #[], .pointer (some ⟨Bs, 0, none⟩), .pointer (some ⟨Bc, 0, none⟩)] W fun e W' => (∃ v, e = .returned v) ∧
      ((∃ ys, ys = parts s c ∧ J ys W') ∨ (∃ pre, True ∧ Jx pre W')) := by
  refine callsIn_of_wp Tryd.func40 rfl h6 ?_ hro
  simp only [Tryd.ntmps40, List.size_toArray, List.length_cons, List.length_nil, Nat.reduceAdd, Nat.reduceSub, Array.replicate_succ, Array.replicate_zero, List.push_toArray, List.append_toArray, List.nil_append, List.cons_append]
  gi_wp2
  gi_loopw [4, 8] (fun f i wr => ∃ k : Nat, k ≤ s.size ∧ i = .int .i64 k ∧ f = .int .i64 ((cut s c k).1 : Nat) ∧ J (cut s c k).2 wr ∧ KeepB Bs Bc W wr)
    (fun _ i _ => s.size - (intOf i).toNat)
  case atStart => exact ⟨0, Nat.zero_le _, rfl, rfl, h0, KeepB.refl _ _ _⟩
  case round =>
    obtain ⟨k, hk, rfl, rfl, hJs, hnx⟩ := hrel
    have hs1 : wr.cell? ⟨Bs, 0, none⟩ = some (.string s) := (hnx.cell (p := ⟨Bs, 0, none⟩) (.inl rfl)).trans hBs
    have hc1 : wr.cell? ⟨Bc, 0, none⟩ = some (.int .u8 c.toNat) := (hnx.cell (p := ⟨Bc, 0, none⟩) (.inr rfl)).trans hBc
    have hcl := cut_le s c k
    by_cases hlt : k < s.size
    · by_cases he : s[k] = c
      · have hb : ((s[k].toNat : Int) != (c.toNat : Int)) = false := by subst he; simp
        obtain ⟨fn, tmps, assign, body, hy, hR⟩ := hY _ (s.extract (cut s c k).1 k) wr.drew (hJd _ _ hJs) (by omega)
        have hm := Lib.hid (cut_hit hlt he)
        clear he
        gi_wp2
        gi_region
        all_goals gi_wp2
        all_goals
          refine hR.mono ?_
          rintro e W3 (⟨rfl, hJ3, hk3⟩ | ⟨rfl, hJx3⟩)
          · have hs3 : W3.cell? ⟨Bs, 0, none⟩ = some (.string s) := (hk3.cell (p := ⟨Bs, 0, none⟩) (.inl rfl)).trans hs1
            have hc3 : W3.cell? ⟨Bc, 0, none⟩ = some (.int .u8 c.toNat) := (hk3.cell (p := ⟨Bc, 0, none⟩) (.inr rfl)).trans hc1
            gi_wp2
            go_roundw
            case rel => exact ⟨k + 1, by omega, by go_num, by rw [hm.out]; go_num, by rw [hm.out]; exact hJ3, hnx.drew.trans hk3⟩
            case measure => simp [intOf]; omega
          · gi_wp2
            refine bodyPost_ret (results_none rfl _ _ _) rfl ?_
            exact ⟨⟨_, rfl⟩, .inr ⟨_, trivial, hJx3⟩⟩
      · have hb : ((s[k].toNat : Int) != (c.toNat : Int)) = true := by have := u8_beq_no he; simp [bne, this]
        have hm := Lib.hid (cut_miss hlt he)
        clear he
        gi_wp2
        gi_region
        all_goals gi_wp2
        all_goals
          go_roundw
          case rel => exact ⟨k + 1, by omega, by go_num, by rw [hm.out], by rw [hm.out]; exact hJd _ _ hJs, hnx.drew⟩
          case measure => simp [intOf]; omega
    · obtain rfl : k = s.size := by omega
      obtain ⟨fn, tmps, assign, body, hy, hR⟩ := hY _ (s.extract (cut s c s.size).1 s.size) wr hJs (by omega)
      gi_wp2
      refine hR.mono ?_
      rintro e W3 (⟨rfl, hJ3, hk3⟩ | ⟨rfl, hJx3⟩)
      · gi_wp2
        go_end0
        exact ⟨⟨_, rfl⟩, .inl ⟨_, rfl, hJ3⟩⟩
      · gi_wp2
        go_end0
        exact ⟨⟨_, rfl⟩, .inr ⟨_, trivial, hJx3⟩⟩

set_option maxHeartbeats 1000000 in
theorem between_in (F : Fence) (n : Nat) (h5 : F.fn 32) (hro : F.round = none) (s : ByteArray) (c : UInt8) (w : World) :
    CallsIn F n Tryd.prog 32 #[.string s, .int .u8 c.toNat] w fun e w' => e = .returned (.func (.func 40) #[] #[.pointer (some ⟨w.heap.size, 0, none⟩), .pointer (some ⟨w.heap.size + 1, 0, none⟩)]) ∧
      w' = (w.alloc (.cells #[.string s] 9)).alloc (.cells #[.int .u8 c.toNat] 5) := by
  refine callsIn_of_wp Tryd.func32 rfl h5 ?_ hro
  simp only [Tryd.ntmps32, List.size_toArray, List.length_cons, List.length_nil, Nat.reduceAdd, Nat.reduceSub, Array.replicate_succ, Array.replicate_zero, List.push_toArray, List.append_toArray, List.nil_append, List.cons_append]
  gi_wp2
  go_ret
  exact ⟨rfl, rfl⟩

theorem iter_stops (F : Fence) (n : Nat) (h6 : F.fn 40) (hro : F.round = none) (hn : 1 ≤ n) (Bs Bc : Nat) (s : ByteArray) (c : UInt8) (hs : s.size ≤ 4000) (w : World) (hBs0 : Bs < w.heap.size) (hBc0 : Bc < w.heap.size)
    (hBs : w.cell? ⟨Bs, 0, none⟩ = some (.string s)) (hBc : w.cell? ⟨Bc, 0, none⟩ = some (.int .u8 c.toNat)) :
    SeqStopsK F n Tryd.prog 40 #[.pointer (some ⟨Bs, 0, none⟩), .pointer (some ⟨Bc, 0, none⟩)] (fun x : ByteArray => #[Value.string x]) (KeepB Bs Bc) (fun ys => ys = parts s c) (fun _ => True) (s.size + 1) w := fun l J Jx W hW hJ _ hY h0 =>
  iter_in F n h6 hro hn l Bs Bc s c hs J Jx (fun pre W h => hJ pre W W.drew none h ⟨rfl, rfl, rfl, Nat.le_refl _, fun _ _ _ => rfl⟩ (fun r e => by cases e)) hY W
    ((hW.cell (p := ⟨Bs, 0, none⟩) hBs0).trans hBs) ((hW.cell (p := ⟨Bc, 0, none⟩) hBc0).trans hBc) h0

end Go.Proofs.YtnenaponiahalaaDoor.SplI
