/- The drawing of lists of runners and what goes with them. -/
import Derived.Test.YtjngnjokbnklfaaRuLs
import Derived.Test.YtjngnjokbnklfaaCodB
import Derived.Test.YtjngnjokbnklfaaRuO
namespace Go.Proofs.Ytjngnjokbnklfaa.RuDl
open Go.RowKit Lb Bk Cur RuK RuDr CodB
set_option linter.unusedSimpArgs false
set_option linter.unusedVariables false

/-- A list that was drawn. -/
structure Lst (w W : World) (v : Value) (fs : List Ru) : Prop where
  le : fs.length ≤ 11
  is : ∀ i, i < fs.length → Is (at_ fs i)
  own : Own W w.heap.size v fs
  B : Below w.heap.size w W
theorem Lst.of {w w1 W : World} {b m : Nat} {v : Value} {fs : List Ru} (hle : fs.length ≤ 11) (his : ∀ i, i < fs.length → Is (at_ fs i)) (h : Rl w1 W b m v fs) (hb : Below w.heap.size w w1) (hw : w.heap.size ≤ b) : Lst w W v fs :=
  ⟨hle, his, h.L.rebase hb.size, hb.trans ⟨h.G.os, h.G.tape, h.G.output, h.G.size, fun k hk => h.G.block k (Nat.lt_of_lt_of_le hk hb.size) (fun e => by cases e; omega)⟩⟩
theorem Lst.step {w W W' : World} {b : Nat} {v : Value} {fs : List Ru} (h : Lst w W v fs) (hg : W.grownBy W' (some b)) (hw : w.heap.size ≤ b) (hv : v.ownBlock ≠ some b) : Lst w W' v fs :=
  ⟨h.le, h.is, World.ownsRow.kept h.own hg (.inr hv), h.B.grown hg h.B.size (fun k e => by cases e; exact hw)⟩

set_option maxHeartbeats 1000000 in
theorem list_any (a : Option Addr) (n cap : Nat) (xs : Nat → Nat) (w : World) (hc : Bytes w a n xs) :
    Calls Try.prog 91 #[.slice a n cap] w fun e w' => ∃ v fs, e = .returned v ∧ Lst w w' v fs := by
  have HR := Lib.hid (begin_ hc cap)
  clear hc
  go_enter Try.func91, Try.ntmps91
  go_wp2_with fail
  refine (RuLs.runners_any w.heap.size 0 _ (by omega) HR.out).mono ?_
  rintro e w1 ⟨v, fs, rfl, hle, his, hl⟩
  have HL := Lib.hid (Lst.of hle his hl ((Below.refl _ _).alloc (Nat.le_refl _) _) (Nat.le_refl _))
  clear hle his hl
  go_wp2
  go_ret
  exact ⟨_, fs, rfl, HL.out⟩
set_option maxHeartbeats 1000000 in
theorem clubsof_any (a : Option Addr) (n cap : Nat) (xs : Nat → Nat) (w : World) (hc : Bytes w a n xs) :
    Calls Try.prog 40 #[.slice a n cap] w fun e w' => ∃ v fs, e = .returned v ∧ Lst w w' v fs := by
  have c1 := Lib.hid (list_any a n cap xs w hc)
  clear hc
  go_enter Try.func40, Try.ntmps40
  go_wp2_with fail
  refine c1.out.mono ?_
  rintro e w1 ⟨v, fs, rfl, hl⟩
  have HL := Lib.hid hl
  clear hl
  go_wp2
  go_ret
  exact ⟨_, fs, rfl, HL.out⟩
set_option maxHeartbeats 1000000 in
theorem members_any (a : Option Addr) (n cap : Nat) (xs : Nat → Nat) (w : World) (hc : Bytes w a n xs) :
    Calls Try.prog 48 #[.slice a n cap] w fun e w' => ∃ v fs s, e = .returned (.tuple #[v, .string s]) ∧ s.size ≤ 16 ∧ Lst w w' v fs := by
  have HR := Lib.hid (begin_ hc cap)
  clear hc
  go_enter Try.func48, Try.ntmps48
  go_wp2_with fail
  refine (RuLs.runners_any w.heap.size 0 _ (by omega) HR.out).mono ?_
  rintro e w1 ⟨v, fs, rfl, hle, his, hl⟩
  have HL := Lib.hid (Lst.of hle his hl ((Below.refl _ _).alloc (Nat.le_refl _) _) (Nat.le_refl _))
  have HO := Lib.hid hl.ok
  have hv : v.ownBlock ≠ some w.heap.size := fun e => by
    have := (World.ownsRow.lt hl.L _ e).1
    have h2 := hl.lb
    omega
  clear hle his hl
  go_wp2_with fail
  refine (of_new w.heap.size _ 4 16 [⟨#[104, 105, 108, 108]⟩, ⟨#[102, 101, 110]⟩, ⟨#[111, 97, 107]⟩, ⟨#[110, 111, 110, 101]⟩] _ (by first | rfl | simp) (by omega) rfl (by decide) (by decide) (by decide) HO.out).mono ?_
  rintro e w2 ⟨⟨s, rfl, hs⟩, hok, hg⟩
  have HL2 := Lib.hid (HL.out.step hg (Nat.le_refl _) hv)
  clear hok hg hv HL HO
  go_wp2
  go_ret2
  exact ⟨_, fs, s, rfl, hs, HL2.out⟩
set_option maxHeartbeats 1000000 in
theorem aged_any (a : Option Addr) (n cap : Nat) (xs : Nat → Nat) (w : World) (hc : Bytes w a n xs) :
    Calls Try.prog 51 #[.slice a n cap] w fun e w' => ∃ v fs lo hi, e = .returned (.tuple #[v, .int .i64 lo, .int .i64 hi]) ∧ Lst w w' v fs := by
  have HR := Lib.hid (begin_ hc cap)
  clear hc
  go_enter Try.func51, Try.ntmps51
  go_wp2_with fail
  refine (RuLs.runners_any w.heap.size 0 _ (by omega) HR.out).mono ?_
  rintro e w1 ⟨v, fs, rfl, hle, his, hl⟩
  have HL := Lib.hid (Lst.of hle his hl ((Below.refl _ _).alloc (Nat.le_refl _) _) (Nat.le_refl _))
  have HO := Lib.hid hl.ok
  have HV := Lib.hid (show v.ownBlock ≠ some w.heap.size from fun e => by
    have := (World.ownsRow.lt hl.L _ e).1
    have h2 := hl.lb
    omega)
  clear hle his hl
  go_wp2_with fail
  refine (among_new w.heap.size _ 6 [0, 6, 18, 36, 106, (-1)] _ (by first | rfl | simp) (by omega) rfl (by decide) (by decide) HO.out).mono ?_
  rintro e w2 ⟨⟨lo, rfl, hlo⟩, hok, hg⟩
  have hlo' : -1 ≤ lo ∧ lo ≤ 106 := by simp at hlo; omega
  have HL2 := Lib.hid (HL.out.step hg (Nat.le_refl _) HV.out)
  have HO2 := Lib.hid hok
  clear hok hg HL HO hlo
  go_wp2_with fail
  refine (among_new w.heap.size _ 5 [0, 10, 60, (-1), 121] _ (by first | rfl | simp) (by omega) rfl (by decide) (by decide) HO2.out).mono ?_
  rintro e w3 ⟨⟨d, rfl, hd⟩, hok, hg⟩
  have hd' : -1 ≤ d ∧ d ≤ 121 := by simp at hd; omega
  have HL3 := Lib.hid (HL2.out.step hg (Nat.le_refl _) HV.out)
  have hw : IntKind.i64.wrap (lo + d) = lo + d := IntWalk.i64_in _ (by omega)
  clear hok hg HL2 HO2 hd
  go_wp2
  go_ret3
  exact ⟨_, fs, lo, lo + d, rfl, HL3.out⟩
end Go.Proofs.Ytjngnjokbnklfaa.RuDl
