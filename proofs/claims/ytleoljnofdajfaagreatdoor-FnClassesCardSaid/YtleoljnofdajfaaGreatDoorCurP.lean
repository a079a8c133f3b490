/- The drawing of inputs: numbers, answers, texts: contracts that tell ranges alone. -/
import Derived.Test.YtleoljnofdajfaaGreatDoorProg
import Derived.Test.YtleoljnofdajfaaGreatDoorLib
import Derived.WalkLawsBesides
import Derived.WalkSpells
namespace Go.Proofs.YtleoljnofdajfaaGreatDoor.Cur
open Go.RowKit Lb
set_option linter.unusedSimpArgs false
set_option linter.unusedVariables false

/-- Block 'b' is a reader of choices: a list of bytes, a place not past 'm', a seed. -/
def Ok (w : World) (b : Nat) (m : Nat) : Prop :=
  ∃ (a : Option Addr) (n cap : Nat) (xs : Nat → Nat) (p : Nat) (seed : Int),
    w.heap[b]? = some (.cells #[.slice a n cap, .int .i64 p, .int .u64 seed] 64 (0, 0)) ∧ p ≤ m ∧ n ≤ maxLen ∧ (Lit.int .u64 seed).wf = true ∧
    RowAt w a n (fun k => .int .u8 (xs k)) ∧ (∀ k, xs k ≤ 255) ∧ ∀ x, a = some x → x.block < b

theorem cell_of {w : World} {b : Nat} {x y z : Value} {t : TypeId} (h : w.heap[b]? = some (.cells #[x, y, z] t (0, 0))) :
    w.cell? ⟨b, 0, none⟩ = some x ∧ w.cell? ⟨b, 1, none⟩ = some y ∧ w.cell? ⟨b, 2, none⟩ = some z ∧ ∀ o, w.frozen? ⟨b, o, none⟩ = false := by
  simp [World.cell?, World.frozen?, h]

theorem heap_two {w : World} {b : Nat} {x y z y' z' : Value} {t : TypeId} (h : w.heap[b]? = some (.cells #[x, y, z] t (0, 0))) :
    ((w.setCell ⟨b, 1, none⟩ y').setCell ⟨b, 2, none⟩ z').heap[b]? = some (.cells #[x, y', z'] t (0, 0)) := by
  have h1 := heap_setCell_same w b 1 _ t y' h
  have h2 := heap_setCell_same (w.setCell ⟨b, 1, none⟩ y') b 2 _ t z' h1
  simpa using h2

/-- After a step: the place has gone on by one, the seed has turned, all else is as it was. -/
theorem after {w w' : World} {b m n cap p : Nat} {a : Option Addr} {xs : Nat → Nat} {seed s' : Int}
    (hb : w.heap[b]? = some (.cells #[.slice a n cap, .int .i64 p, .int .u64 seed] 64 (0, 0))) (hp : p ≤ m) (hn : n ≤ maxLen) (hs : (Lit.int .u64 s').wf = true)
    (hr : RowAt w a n (fun k => .int .u8 (xs k))) (hx : ∀ k, xs k ≤ 255) (hne : ∀ x, a = some x → x.block < b)
    (hh : w'.heap = ((w.setCell ⟨b, 1, none⟩ (.int .i64 ((p : Int) + 1))).setCell ⟨b, 2, none⟩ (.int .u64 s')).heap) (ho : w'.os = w.os) (ht : w'.tape = w.tape) (hu : w'.output = w.output) :
    Ok w' b (m + 1) ∧ w.grownBy w' (some b) := by
  have hg : w.grownBy w' (some b) := by
    refine ⟨ho, ht, hu, by rw [hh]; simp [World.setCell], fun k hk hkb => ?_⟩
    have hkb' : k ≠ b := fun e => hkb (by rw [e])
    rw [hh, heap_setCell_other _ _ _ _ hkb', heap_setCell_other _ _ _ _ hkb']
  refine ⟨⟨a, n, cap, xs, p + 1, s', ?_, by omega, hn, hs, ?_, hx, hne⟩, hg⟩
  · rw [hh]
    have := heap_two (y' := .int .i64 ((p : Int) + 1)) (z' := .int .u64 s') hb
    rw [show ((p + 1 : Nat) : Int) = (p : Int) + 1 from by omega]
    exact this
  · rcases hr with h0 | ⟨br, off, rfl, hc⟩
    · exact .inl h0
    · exact .inr ⟨br, off, rfl, fun k hk => hg.cell (hc k hk) (fun e => Nat.ne_of_lt (hne _ rfl) (by simpa using e))⟩

theorem u64_wf (x : Int) : (Lit.int .u64 (IntKind.u64.wrap x)).wf = true := by
  rw [IntKind.wrap_u64]
  simp only [Lit.wf, IntKind.min, IntKind.max, IntKind.signed, IntKind.bits]
  simp
  omega

theorem low_byte (x : Int) : ∃ r : Nat, r ≤ 255 ∧ wrap64 (bits BinOp.and IntKind.u64 x 255) = (r : Int) := by
  refine ⟨(BitVec.ofInt IntKind.u64.bits x &&& BitVec.ofInt IntKind.u64.bits 255).toNat, ?_, ?_⟩
  · rw [BitVec.toNat_and]
    exact Nat.le_trans Nat.and_le_right (by decide)
  · have hle : (BitVec.ofInt IntKind.u64.bits x &&& BitVec.ofInt IntKind.u64.bits 255).toNat ≤ 255 := by
      rw [BitVec.toNat_and]
      exact Nat.le_trans Nat.and_le_right (by decide)
    have e : bits BinOp.and IntKind.u64 x 255 = IntKind.u64.wrap ((BitVec.ofInt IntKind.u64.bits x &&& BitVec.ofInt IntKind.u64.bits 255).toNat : Int) := rfl
    rw [e]
    generalize (BitVec.ofInt IntKind.u64.bits x &&& BitVec.ofInt IntKind.u64.bits 255).toNat = v at hle
    rw [IntKind.wrap_u64]
    unfold wrap64
    omega

set_option maxHeartbeats 1000000 in
theorem next_any (b m : Nat) (w : World) (hm : m ≤ 1152921504606846976) (hok : Ok w b m) :
    Calls Tryz.prog 85 #[.pointer (some ⟨b, 0, none⟩)] w fun e w' => (∃ r : Nat, e = .returned (.int .i64 r) ∧ r ≤ 255) ∧ Ok w' b (m + 1) ∧ w.grownBy w' (some b) := by
  obtain ⟨a, n, cap, xs, p, seed, hb, hp, hn, hseed, hr, hx, hne⟩ := hok
  obtain ⟨c0, c1, c2, f⟩ := cell_of hb
  have f1 := f 1
  have f2 := f 2
  unfold maxLen at hn
  have HB := Lib.hid hb
  have HS := Lib.hid hseed
  clear hb hseed f
  by_cases hlt : p < n
  · rcases hr with hr | ⟨br, off, rfl, hc⟩
    · omega
    have g := hc p hlt
    have hxp := hx p
    have HC := Lib.hid hc
    have HX := Lib.hid hx
    have HN := Lib.hid hne
    clear hc hx hne
    go_enter Tryz.func85, Tryz.ntmps85
    go_wp2
    go_quiet (fail)
    go_wp2
    go_quiet (fail)
    go_wp2
    go_quiet (fail)
    go_wp2
    go_ret
    exact ⟨⟨xs p, rfl, hxp⟩, after HB.out hp (by unfold maxLen; omega) (u64_wf _) (.inr ⟨br, off, rfl, HC.out⟩) HX.out HN.out rfl rfl rfl rfl⟩
  · have HR := Lib.hid hr
    have HX := Lib.hid hx
    have HN := Lib.hid hne
    clear hr hx hne
    go_enter Tryz.func85, Tryz.ntmps85
    go_wp2
    go_quiet (fail)
    go_wp2
    go_quiet (fail)
    go_wp2
    go_ret
    obtain ⟨r, hr1, hr2⟩ := low_byte (IntKind.u64.wrap (IntKind.u64.wrap (IntKind.u64.wrap (seed * 6364136223846793005)) + 938938) / 1099511627776)
    exact ⟨⟨r, ret_int hr2, hr1⟩, after HB.out hp (by unfold maxLen; omega) (u64_wf _) HR.out HX.out HN.out rfl rfl rfl rfl⟩

end Go.Proofs.YtleoljnofdajfaaGreatDoor.Cur

namespace Go.Proofs.YtleoljnofdajfaaGreatDoor.Cur
open Go.RowKit Lb
set_option linter.unusedSimpArgs false
set_option linter.unusedVariables false

theorem gtrans {a b c : World} {r : Option Nat} (h : a.grownBy b r) (k : b.grownBy c r) : a.grownBy c r :=
  ⟨k.os.trans h.os, k.tape.trans h.tape, k.output.trans h.output, Nat.le_trans h.size k.size, fun i hi hr => (k.block i (Nat.lt_of_lt_of_le hi h.size) hr).trans (h.block i hi hr)⟩
theorem gbelow {a b : World} (h : Below a.heap.size a b) (r : Option Nat) : a.grownBy b r := ⟨h.os, h.tape, h.output, h.size, fun k hk _ => h.block k hk⟩
theorem Ok.lt {w : World} {b m : Nat} (h : Ok w b m) : b < w.heap.size := by
  obtain ⟨_, _, _, _, _, _, hb, _⟩ := h
  exact (Array.getElem?_eq_some_iff.1 hb).1
theorem Ok.mono {w : World} {b m m' : Nat} (h : Ok w b m) (hm : m ≤ m') : Ok w b m' := by
  obtain ⟨a, n, cap, xs, p, seed, hb, hp, r⟩ := h
  exact ⟨a, n, cap, xs, p, seed, hb, by omega, r⟩
theorem Ok.below {w w' : World} {b m : Nat} (h : Ok w b m) (hb : Below w.heap.size w w') : Ok w' b m := by
  have hl := h.lt
  obtain ⟨a, n, cap, xs, p, seed, hb0, hp, hn, hs, hr, hx, hne⟩ := h
  exact ⟨a, n, cap, xs, p, seed, (hb.block b hl).trans hb0, hp, hn, hs, hr.below hb, hx, hne⟩

/-- A number was drawn: below 'n', or 0. -/
def Drawn (n : Int) (e : Ending) : Prop := ∃ r : Nat, e = .returned (.int .i64 r) ∧ r ≤ 65535 ∧ (r = 0 ∨ (r : Int) < n)

set_option maxHeartbeats 1000000 in
theorem pick_any (b m : Nat) (n : Int) (w : World) (hm : m ≤ 1152921504606846970) (h0 : -1048576 ≤ n) (h1 : n ≤ 1048576) (hok : Ok w b m) :
    Calls Tryz.prog 66 #[.pointer (some ⟨b, 0, none⟩), .int .i64 n] w fun e w' => Drawn n e ∧ Ok w' b (m + 2) ∧ w.grownBy w' (some b) := by
  by_cases hn : n ≤ 1
  · have HO := Lib.hid hok
    clear hok
    go_enter Tryz.func66, Tryz.ntmps66
    go_wp2_with fail
    go_ret
    exact ⟨⟨0, rfl, by omega, .inl rfl⟩, HO.out.mono (by omega), World.grownBy.refl _ _⟩
  · have c1 := Lib.hid (next_any b m w (by omega) hok)
    have c2 := Lib.hid (fun w (h : Ok w b (m + 1)) => next_any b (m + 1) w (by omega) h)
    clear hok
    by_cases hbig : 200 < n
    · go_enter Tryz.func66, Tryz.ntmps66
      go_wp2_with fail
      refine c1.out.mono ?_
      rintro e w1 ⟨⟨r, rfl, hr⟩, hok1, hg1⟩
      have c3 := Lib.hid (c2.out w1 hok1)
      have HG := Lib.hid hg1
      clear hok1 hg1
      go_wp2_with fail
      refine c3.out.mono ?_
      rintro e w2 ⟨⟨r', rfl, hr'⟩, hok2, hg2⟩
      have HG2 := Lib.hid (gtrans HG.out hg2)
      have HO2 := Lib.hid hok2
      clear hok2 hg2
      have hx : 0 ≤ (r : Int) * 256 + (r' : Int) ∧ (r : Int) * 256 + (r' : Int) ≤ 65535 := by omega
      go_wp2_with fail
      go_ret
      refine ⟨⟨((r * 256 + r') % n.toNat), ret_int ?_, ?_, .inr ?_⟩, HO2.out, HG2.out⟩
      · rw [Int.natCast_emod, Int.toNat_of_nonneg (by omega)]
        rw [Int.natCast_add, Int.natCast_mul]
        rfl
      · exact Nat.le_trans (Nat.mod_le _ _) (by omega)
      · have := Nat.mod_lt (r * 256 + r') (show 0 < n.toNat by omega)
        omega
    · go_enter Tryz.func66, Tryz.ntmps66
      go_wp2_with fail
      refine c1.out.mono ?_
      rintro e w1 ⟨⟨r, rfl, hr⟩, hok1, hg1⟩
      have HG := Lib.hid hg1
      have HO := Lib.hid hok1
      clear hok1 hg1
      go_wp2_with fail
      go_ret
      refine ⟨⟨(r % n.toNat), ret_int ?_, ?_, .inr ?_⟩, HO.out.mono (by omega), HG.out⟩
      · rw [Int.natCast_emod, Int.toNat_of_nonneg (by omega)]
      · exact Nat.le_trans (Nat.mod_le _ _) (by omega)
      · have := Nat.mod_lt r (show 0 < n.toNat by omega)
        omega

set_option maxHeartbeats 400000 in
theorem one_any (b m : Nat) (n : Int) (w : World) (hm : m ≤ 1152921504606846970) (h0 : -1048576 ≤ n) (h1 : n ≤ 1048576) (hok : Ok w b m) :
    Calls Tryz.prog 35 #[.pointer (some ⟨b, 0, none⟩), .int .i64 n] w fun e w' => (∃ t, e = .returned (.bool t)) ∧ Ok w' b (m + 2) ∧ w.grownBy w' (some b) := by
  have c1 := Lib.hid (pick_any b m n w hm h0 h1 hok)
  clear hok
  go_enter Tryz.func35, Tryz.ntmps35
  go_wp2_with fail
  refine c1.out.mono ?_
  rintro e w1 ⟨⟨r, rfl, _, _⟩, hok1, hg1⟩
  have HG := Lib.hid hg1
  have HO := Lib.hid hok1
  clear hok1 hg1
  go_wp2_with fail
  go_ret
  exact ⟨⟨_, rfl⟩, HO.out, HG.out⟩

end Go.Proofs.YtleoljnofdajfaaGreatDoor.Cur
