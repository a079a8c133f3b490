/- The drawing of inputs: numbers, answers, texts: contracts that tell ranges alone. -/
import Derived.Test.YtleoljnofdajfaaCur
namespace Go.Proofs.Ytleoljnofdajfaa.Cur
open Go.RowKit Lb
set_option linter.unusedSimpArgs false
set_option linter.unusedVariables false

theorem gtrans {a b c : World} {r : Option Nat} (h : a.grownBy b r) (k : b.grownBy c r) : a.grownBy c r :=
  ⟨k.os.trans h.os, k.tape.trans h.tape, k.output.trans h.output, Nat.le_trans h.size k.size, fun i hi hr => (k.block i (Nat.lt_of_lt_of_le hi h.size) hr).trans (h.block i hi hr)⟩
theorem gbelow {a b : World} (h : Below a.heap.size a b) (r : Option Nat) : a.grownBy b r := ⟨h.os, h.tape, h.output, h.size, fun k hk _ => h.block k hk⟩
theorem Ok.lt {w : World} {b m : Nat} (h : Ok w b m) : b < w.heap.size := by
  obtain ⟨_, _, _, _, _, _, hb, _⟩ := h
  exact (Array.getElem?_eq_some_iff.1 hb).1
theorem Ok.mono {w : World} {b m m' : Nat} (h : Ok w b m) (hm : m ≤ m') : Ok w b m' := by
  obtain ⟨a, n, cap, xs, p, seed, hb, hp, r⟩ := h
  exact ⟨a, n, cap, xs, p, seed, hb, by omega, r⟩
theorem Ok.below {w w' : World} {b m : Nat} (h : Ok w b m) (hb : Below w.heap.size w w') : Ok w' b m := by
  have hl := h.lt
  obtain ⟨a, n, cap, xs, p, seed, hb0, hp, hn, hs, hr, hx, hne⟩ := h
  exact ⟨a, n, cap, xs, p, seed, (hb.block b hl).trans hb0, hp, hn, hs, hr.below hb, hx, hne⟩

/-- A number was drawn: below 'n', or 0. -/
def Drawn (n : Int) (e : Ending) : Prop := ∃ r : Nat, e = .returned (.int .i64 r) ∧ r ≤ 65535 ∧ (r = 0 ∨ (r : Int) < n)

set_option maxHeartbeats 1000000 in
theorem pick_any (b m : Nat) (n : Int) (w : World) (hm : m ≤ 1152921504606846970) (h0 : -1048576 ≤ n) (h1 : n ≤ 1048576) (hok : Ok w b m) :
    Calls Try.prog 41 #[.pointer (some ⟨b, 0, none⟩), .int .i64 n] w fun e w' => Drawn n e ∧ Ok w' b (m + 2) ∧ w.grownBy w' (some b) := by
  by_cases hn : n ≤ 1
  · have HO := Lib.hid hok
    clear hok
    go_enter Try.func41, Try.ntmps41
    go_wp2_with fail
    go_ret
    exact ⟨⟨0, rfl, by omega, .inl rfl⟩, HO.out.mono (by omega), World.grownBy.refl _ _⟩
  · have c1 := Lib.hid (next_any b m w (by omega) hok)
    have c2 := Lib.hid (fun w (h : Ok w b (m + 1)) => next_any b (m + 1) w (by omega) h)
    clear hok
    by_cases hbig : 200 < n
    · go_enter Try.func41, Try.ntmps41
      go_wp2_with fail
      refine c1.out.mono ?_
      rintro e w1 ⟨⟨r, rfl, hr⟩, hok1, hg1⟩
      have c3 := Lib.hid (c2.out w1 hok1)
      have HG := Lib.hid hg1
      clear hok1 hg1
      go_wp2_with fail
      refine c3.out.mono ?_
      rintro e w2 ⟨⟨r', rfl, hr'⟩, hok2, hg2⟩
      have HG2 := Lib.hid (gtrans HG.out hg2)
      have HO2 := Lib.hid hok2
      clear hok2 hg2
      have hx : 0 ≤ (r : Int) * 256 + (r' : Int) ∧ (r : Int) * 256 + (r' : Int) ≤ 65535 := by omega
      go_wp2_with fail
      go_ret
      refine ⟨⟨((r * 256 + r') % n.toNat), ret_int ?_, ?_, .inr ?_⟩, HO2.out, HG2.out⟩
      · rw [Int.natCast_emod, Int.toNat_of_nonneg (by omega)]
        rw [Int.natCast_add, Int.natCast_mul]
        rfl
      · exact Nat.le_trans (Nat.mod_le _ _) (by omega)
      · have := Nat.mod_lt (r * 256 + r') (show 0 < n.toNat by omega)
        omega
    · go_enter Try.func41, Try.ntmps41
      go_wp2_with fail
      refine c1.out.mono ?_
      rintro e w1 ⟨⟨r, rfl, hr⟩, hok1, hg1⟩
      have HG := Lib.hid hg1
      have HO := Lib.hid hok1
      clear hok1 hg1
      go_wp2_with fail
      go_ret
      refine ⟨⟨(r % n.toNat), ret_int ?_, ?_, .inr ?_⟩, HO.out.mono (by omega), HG.out⟩
      · rw [Int.natCast_emod, Int.toNat_of_nonneg (by omega)]
      · exact Nat.le_trans (Nat.mod_le _ _) (by omega)
      · have := Nat.mod_lt r (show 0 < n.toNat by omega)
        omega

set_option maxHeartbeats 400000 in
theorem one_any (b m : Nat) (n : Int) (w : World) (hm : m ≤ 1152921504606846970) (h0 : -1048576 ≤ n) (h1 : n ≤ 1048576) (hok : Ok w b m) :
    Calls Try.prog 31 #[.pointer (some ⟨b, 0, none⟩), .int .i64 n] w fun e w' => (∃ t, e = .returned (.bool t)) ∧ Ok w' b (m + 2) ∧ w.grownBy w' (some b) := by
  have c1 := Lib.hid (pick_any b m n w hm h0 h1 hok)
  clear hok
  go_enter Try.func31, Try.ntmps31
  go_wp2_with fail
  refine c1.out.mono ?_
  rintro e w1 ⟨⟨r, rfl, _, _⟩, hok1, hg1⟩
  have HG := Lib.hid hg1
  have HO := Lib.hid hok1
  clear hok1 hg1
  go_wp2_with fail
  go_ret
  exact ⟨⟨_, rfl⟩, HO.out, HG.out⟩

end Go.Proofs.Ytleoljnofdajfaa.Cur
