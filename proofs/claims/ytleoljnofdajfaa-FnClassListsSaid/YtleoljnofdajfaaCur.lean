/- The drawing of inputs: contracts that tell ranges alone. -/
import Derived.Test.YtleoljnofdajfaaProg
import Derived.Test.YtleoljnofdajfaaLib
import Derived.WalkLawsBesides
import Derived.WalkSpells
namespace Go.Proofs.Ytleoljnofdajfaa.Cur
open Go.RowKit Lb
set_option linter.unusedSimpArgs false
set_option linter.unusedVariables false

/-- Block 'b' is a reader of choices: a list of bytes, a place not past 'm', a seed. -/
def Ok (w : World) (b : Nat) (m : Nat) : Prop :=
  ∃ (a : Option Addr) (n cap : Nat) (xs : Nat → Nat) (p : Nat) (seed : Int),
    w.heap[b]? = some (.cells #[.slice a n cap, .int .i64 p, .int .u64 seed] 54 (0, 0)) ∧ p ≤ m ∧ n ≤ maxLen ∧ (Lit.int .u64 seed).wf = true ∧
    RowAt w a n (fun k => .int .u8 (xs k)) ∧ (∀ k, xs k ≤ 255) ∧ ∀ x, a = some x → x.block < b

theorem cell_of {w : World} {b : Nat} {x y z : Value} {t : TypeId} (h : w.heap[b]? = some (.cells #[x, y, z] t (0, 0))) :
    w.cell? ⟨b, 0, none⟩ = some x ∧ w.cell? ⟨b, 1, none⟩ = some y ∧ w.cell? ⟨b, 2, none⟩ = some z ∧ ∀ o, w.frozen? ⟨b, o, none⟩ = false := by
  simp [World.cell?, World.frozen?, h]

theorem heap_two {w : World} {b : Nat} {x y z y' z' : Value} {t : TypeId} (h : w.heap[b]? = some (.cells #[x, y, z] t (0, 0))) :
    ((w.setCell ⟨b, 1, none⟩ y').setCell ⟨b, 2, none⟩ z').heap[b]? = some (.cells #[x, y', z'] t (0, 0)) := by
  have h1 := heap_setCell_same w b 1 _ t y' h
  have h2 := heap_setCell_same (w.setCell ⟨b, 1, none⟩ y') b 2 _ t z' h1
  simpa using h2

/-- After a step: the place has gone on by one, the seed has turned, all else is as it was. -/
theorem after {w w' : World} {b m n cap p : Nat} {a : Option Addr} {xs : Nat → Nat} {seed s' : Int}
    (hb : w.heap[b]? = some (.cells #[.slice a n cap, .int .i64 p, .int .u64 seed] 54 (0, 0))) (hp : p ≤ m) (hn : n ≤ maxLen) (hs : (Lit.int .u64 s').wf = true)
    (hr : RowAt w a n (fun k => .int .u8 (xs k))) (hx : ∀ k, xs k ≤ 255) (hne : ∀ x, a = some x → x.block < b)
    (hh : w'.heap = ((w.setCell ⟨b, 1, none⟩ (.int .i64 ((p : Int) + 1))).setCell ⟨b, 2, none⟩ (.int .u64 s')).heap) (ho : w'.os = w.os) (ht : w'.tape = w.tape) (hu : w'.output = w.output) :
    Ok w' b (m + 1) ∧ w.grownBy w' (some b) := by
  have hg : w.grownBy w' (some b) := by
    refine ⟨ho, ht, hu, by rw [hh]; simp [World.setCell], fun k hk hkb => ?_⟩
    have hkb' : k ≠ b := fun e => hkb (by rw [e])
    rw [hh, heap_setCell_other _ _ _ _ hkb', heap_setCell_other _ _ _ _ hkb']
  refine ⟨⟨a, n, cap, xs, p + 1, s', ?_, by omega, hn, hs, ?_, hx, hne⟩, hg⟩
  · rw [hh]
    have := heap_two (y' := .int .i64 ((p : Int) + 1)) (z' := .int .u64 s') hb
    rw [show ((p + 1 : Nat) : Int) = (p : Int) + 1 from by omega]
    exact this
  · rcases hr with h0 | ⟨br, off, rfl, hc⟩
    · exact .inl h0
    · exact .inr ⟨br, off, rfl, fun k hk => hg.cell (hc k hk) (fun e => Nat.ne_of_lt (hne _ rfl) (by simpa using e))⟩

theorem u64_wf (x : Int) : (Lit.int .u64 (IntKind.u64.wrap x)).wf = true := by
  rw [IntKind.wrap_u64]
  simp only [Lit.wf, IntKind.min, IntKind.max, IntKind.signed, IntKind.bits]
  simp
  omega

theorem low_byte (x : Int) : ∃ r : Nat, r ≤ 255 ∧ wrap64 (bits BinOp.and IntKind.u64 x 255) = (r : Int) := by
  refine ⟨(BitVec.ofInt IntKind.u64.bits x &&& BitVec.ofInt IntKind.u64.bits 255).toNat, ?_, ?_⟩
  · rw [BitVec.toNat_and]
    exact Nat.le_trans Nat.and_le_right (by decide)
  · have hle : (BitVec.ofInt IntKind.u64.bits x &&& BitVec.ofInt IntKind.u64.bits 255).toNat ≤ 255 := by
      rw [BitVec.toNat_and]
      exact Nat.le_trans Nat.and_le_right (by decide)
    have e : bits BinOp.and IntKind.u64 x 255 = IntKind.u64.wrap ((BitVec.ofInt IntKind.u64.bits x &&& BitVec.ofInt IntKind.u64.bits 255).toNat : Int) := rfl
    rw [e]
    generalize (BitVec.ofInt IntKind.u64.bits x &&& BitVec.ofInt IntKind.u64.bits 255).toNat = v at hle
    rw [IntKind.wrap_u64]
    unfold wrap64
    omega

set_option maxHeartbeats 1000000 in
theorem next_any (b m : Nat) (w : World) (hm : m ≤ 1152921504606846976) (hok : Ok w b m) :
    Calls Try.prog 59 #[.pointer (some ⟨b, 0, none⟩)] w fun e w' => (∃ r : Nat, e = .returned (.int .i64 r) ∧ r ≤ 255) ∧ Ok w' b (m + 1) ∧ w.grownBy w' (some b) := by
  obtain ⟨a, n, cap, xs, p, seed, hb, hp, hn, hseed, hr, hx, hne⟩ := hok
  obtain ⟨c0, c1, c2, f⟩ := cell_of hb
  have f1 := f 1
  have f2 := f 2
  unfold maxLen at hn
  have HB := Lib.hid hb
  have HS := Lib.hid hseed
  clear hb hseed f
  by_cases hlt : p < n
  · rcases hr with hr | ⟨br, off, rfl, hc⟩
    · omega
    have g := hc p hlt
    have hxp := hx p
    have HC := Lib.hid hc
    have HX := Lib.hid hx
    have HN := Lib.hid hne
    clear hc hx hne
    go_enter Try.func59, Try.ntmps59
    go_wp2
    go_quiet (fail)
    go_wp2
    go_quiet (fail)
    go_wp2
    go_quiet (fail)
    go_wp2
    go_ret
    exact ⟨⟨xs p, rfl, hxp⟩, after HB.out hp (by unfold maxLen; omega) (u64_wf _) (.inr ⟨br, off, rfl, HC.out⟩) HX.out HN.out rfl rfl rfl rfl⟩
  · have HR := Lib.hid hr
    have HX := Lib.hid hx
    have HN := Lib.hid hne
    clear hr hx hne
    go_enter Try.func59, Try.ntmps59
    go_wp2
    go_quiet (fail)
    go_wp2
    go_quiet (fail)
    go_wp2
    go_ret
    obtain ⟨r, hr1, hr2⟩ := low_byte (IntKind.u64.wrap (IntKind.u64.wrap (IntKind.u64.wrap (seed * 6364136223846793005)) + 938938) / 1099511627776)
    exact ⟨⟨r, ret_int hr2, hr1⟩, after HB.out hp (by unfold maxLen; omega) (u64_wf _) HR.out HX.out HN.out rfl rfl rfl rfl⟩

end Go.Proofs.Ytleoljnofdajfaa.Cur
