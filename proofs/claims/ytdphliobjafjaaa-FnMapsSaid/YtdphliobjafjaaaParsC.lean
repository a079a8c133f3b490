/- The text of a map, read back: the contracts that both readers use. -/
import Derived.Test.YtdphliobjafjaaaParsM
import Derived.Test.YtdphliobjafjaaaTextI
import Derived.Test.YtdphliobjafjaaaEmp
import Derived.RegionTactic
namespace Go.Proofs.Ytdphliobjafjaaa.ParsC
open Go.RowKit Lb IntS MapS MapV SpecB Emp TextS TextI
set_option linter.unusedSimpArgs false
set_option linter.unusedVariables false

def noMap : Mp := ⟨0, 0, [], []⟩
theorem own_none (w : World) (base : Nat) : OwnM w base (.agg #[.int .i64 0, .int .i64 0, .slice none 0 0, .slice none 0 0]) noMap :=
  ⟨none, 0, none, 0, rfl, World.ownsRow_nil w base _ _, World.ownsRow_nil w base _ _, fun x y h => by cases h⟩

theorem text_one {m : Mp} {w h w' h' : Nat} {s s' : ByteArray} (t : TextOf m w h s) (t' : TextOf m w' h' s') : s = s' := by
  have hW := t.g.W
  have hH := t.g.H
  have hW' := t'.g.W
  have hH' := t'.g.H
  obtain rfl : w = w' := by omega
  obtain rfl : h = h' := by omega
  rw [t.s, t'.s]

/-- What the text of a map says: the text, if there is one. -/
structure TextIs (m : Mp) (l : List UInt8) (ok : Bool) : Prop where
  some_ : ok = true → ∃ w h, TextOf m w h (bs l)
  all : ∀ w h s, TextOf m w h s → ok = true ∧ bs l = s

theorem textIs_of {ww hh : Nat} {R C : List Int} (g : GoodM ⟨ww, hh, R, C⟩ ww hh) (f : Nat) (hf : f ≤ ww * hh) (hall : ∀ i, i < f → HasT ⟨ww, hh, R, C⟩ i) (hend : f = ww * hh ∨ ¬ HasT ⟨ww, hh, R, C⟩ f) :
    TextIs ⟨ww, hh, R, C⟩ (if f = ww * hh then txt ⟨ww, hh, R, C⟩ ww (ww * hh) else []) (decide (f = ww * hh)) := by
  by_cases e : f = ww * hh
  · subst e
    have T : TextOf ⟨ww, hh, R, C⟩ ww hh (bs (txt ⟨ww, hh, R, C⟩ ww (ww * hh))) := ⟨g, hall, rfl⟩
    rw [if_pos rfl, decide_eq_true rfl]
    exact ⟨fun _ => ⟨ww, hh, T⟩, fun w h s t => ⟨rfl, text_one T t⟩⟩
  · rw [if_neg e, decide_eq_false e]
    refine ⟨fun h => (by cases h), fun w h s t => ?_⟩
    have hW := t.g.W
    have hH := t.g.H
    simp only at hW hH
    obtain rfl : ww = w := by omega
    obtain rfl : hh = h := by omega
    rcases hend with h | h
    · exact absurd h e
    · exact absurd (t.all f (by omega)) h

theorem ok_of {m : Mp} {ww hh : Nat} (g : GoodM m ww hh) : m.ok := by
  have hW := g.W
  have hH := g.H
  have hw1 := g.w1
  have hw6 := g.w6
  have hh1 := g.h1
  have hh6 := g.h6
  have hR := g.R
  have hC := g.C
  refine ⟨⟨by omega, by omega, by omega, by omega, ?_, by omega⟩, fun i hi => g.cell i (by omega)⟩
  rw [hR, hW, hH, Int.natCast_mul]
theorem bad_none {m : Mp} (h : ¬ m.ok) (hg : ∀ ww hh, GoodM m ww hh → m.ok) : TextIs m [] false := ⟨fun h => (by cases h), fun w hh s t => absurd (hg w hh t.g) h⟩

set_option maxRecDepth 100000 in
theorem impl_t (m : Mp) : ∃ (l : List UInt8) (ok : Bool), TextIs m l ok ∧
    (∀ a b ca cb w, m.R.length ≤ maxLen → m.C.length ≤ maxLen → IRow w a m.R → IRow w b m.C → Calls Try.prog 23 #[.agg #[.int .i64 m.W, .int .i64 m.H, .slice a m.R.length ca, .slice b m.C.length cb]] w fun e w' => e = .returned (.tuple #[.string (bs l), .bool ok]) ∧ Below w.heap.size w w') := by
  by_cases h : m.ok
  · obtain ⟨ww, hh, g⟩ := good_of h
    obtain ⟨W, H, R, C⟩ := m
    have e := mp_eq g
    injection e with e1 e2 _ _
    subst e1 e2
    obtain ⟨f, h1, h2, h3⟩ := first_bad (HasT ⟨ww, hh, R, C⟩) (ww * hh)
    exact ⟨_, _, textIs_of g f h1 h2 h3, fun a b ca cb w hR hC hr hc => impl_raw ww hh R C a b ca cb w h g hr hc f h1 h2 h3⟩
  · exact ⟨[], false, bad_none h (fun ww hh g => ok_of g), fun a b ca cb w hR hC hr hc => TextI.impl_no m a b ca cb w hR hC hr hc h⟩

set_option maxRecDepth 100000 in
theorem spec_t (m : Mp) (h : m.ok) : ∃ (l : List UInt8) (ok : Bool), TextIs m l ok ∧
    (∀ a b ca cb w, IRow w a m.R → IRow w b m.C → Calls Try.prog 64 #[.agg #[.int .i64 m.W, .int .i64 m.H, .slice a m.R.length ca, .slice b m.C.length cb]] w fun e w' => e = .returned (.tuple #[.string (bs l), .bool ok]) ∧ Below w.heap.size w w') := by
  obtain ⟨ww, hh, g⟩ := good_of h
  obtain ⟨W, H, R, C⟩ := m
  have e := mp_eq g
  injection e with e1 e2 _ _
  subst e1 e2
  obtain ⟨f, h1, h2, h3⟩ := first_bad (HasT ⟨ww, hh, R, C⟩) (ww * hh)
  exact ⟨_, _, textIs_of g f h1 h2 h3, fun a b ca cb w hr hc => text_raw ww hh R C a b ca cb w g hr hc f h1 h2 h3⟩

set_option maxHeartbeats 1000000 in
theorem emp_big (p q n : Nat) (w : World) (hn : p * q = n) (h36 : n ≤ 36) (hp : p ≤ 36) (hq : q ≤ 36) :
    Calls Try.prog 56 #[.int .i64 p, .int .i64 q] w (EPost w p q n) := by
  obtain ⟨t0, hi, hz0, hz1, hz2⟩ := info_parts iInfo
  have hmul : (p : Int) * (q : Int) = (n : Int) := by rw [← Int.natCast_mul, hn]
  have hm2 : 0 ≤ (p : Int) * (q : Int) := by omega
  have hm3 : (p : Int) * (q : Int) ≤ 36 := by omega
  have hmk : ∀ W : World, (Instr.makeSlice 24 (.int .i64 (n : Int)) (.int .i64 (n : Int))).run Try.prog W = .ok (.slice (some ⟨W.heap.size, 0, none⟩) n n) (W.alloc (.cells (madeCells #[.int .i64 0] n) 3)) := fun W => by
    have h := run_make (P := Try.prog) W 24 3 t0 (.int .i64 0) Try.underlying24 hi hz0 .i64 .i64 n n (by omega) (Int.le_refl _) (by rw [hz2]; omega) (by omega)
    simp only [Int.toNat_natCast, hz1, Nat.mul_one] at h
    exact h
  clear hn hi hz0 hz1 hz2
  go_enter Try.func56, Try.ntmps56
  go_wp2
  go_region
  · go_wp2
    refine bodyPost_ret (v := .agg #[.int .i64 p, .int .i64 q, .slice (some ⟨w.heap.size + 1, 0, none⟩) n n, .slice (some ⟨w.heap.size + 1 + 1, 0, none⟩) n n]) (by simp [results, Try.results56, go_sem]) rfl ⟨_, _, rfl, ?_, ?_, by omega, by omega, by omega, ?_⟩
    · exact ((made_row1 w _ n).alloc _).drew
    · exact (made_row2 w _ _ n).drew
    · exact three w _ _ _
  · go_wp2
    refine bodyPost_ret (v := .agg #[.int .i64 p, .int .i64 q, .slice (some ⟨w.heap.size + 1 + 1, 0, none⟩) n n, .slice (some ⟨w.heap.size + 1, 0, none⟩) n n]) (by simp [results, Try.results56, go_sem]) rfl ⟨_, _, rfl, ?_, ?_, by omega, by omega, by omega, ?_⟩
    · exact (made_row2 w _ _ n).drew
    · exact ((made_row1 w _ n).alloc _).drew
    · exact three w _ _ _

end Go.Proofs.Ytdphliobjafjaaa.ParsC
