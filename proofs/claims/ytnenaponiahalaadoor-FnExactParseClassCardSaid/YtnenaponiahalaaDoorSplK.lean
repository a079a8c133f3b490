/- SplitString at blanks; rows of strings. -/
import Derived.Test.YtnenaponiahalaaDoorSplC
import Derived.Test.YtnenaponiahalaaDoorL1S
import Derived.Test.YtnenaponiahalaaDoorBk
namespace Go.Proofs.YtnenaponiahalaaDoor.PfI
open Go.RowKit Lb Bk SplC
open L1S (NewStrs)
set_option linter.unusedSimpArgs false
set_option linter.unusedVariables false

/-- A list of strings and whether there is one. -/
def SplPost (w : World) (ps : List ByteArray) (ok : Bool) (e : Ending) (W' : World) : Prop :=
  ∃ v, e = .returned (.tuple #[v, .bool ok]) ∧ NewStrs w ps v W'
theorem split_ok (s : ByteArray) (w : World) (hs : s.size ≤ 4000) :
    Calls Tryd.prog 19 #[.string s, .string ⟨#[32]⟩] w (SplPost w (parts s 32) true) :=
  (callsIn_wide (n := 3)).1 ((split_in _ 3 trivial trivial trivial rfl (Nat.le_refl _) s ⟨#[32]⟩ hs rfl (by decide) w).mono fun e W' ⟨v, he, ho, hb⟩ => ⟨v, he, ho, hb⟩)
set_option maxHeartbeats 400000 in
theorem split_no (s : ByteArray) (w : World) (hs : s.size ≤ 1048576) (h1 : 4000 < s.size) :
    Calls Tryd.prog 19 #[.string s, .string ⟨#[32]⟩] w (SplPost w [] false) := by
  go_enter Tryd.func19, Tryd.ntmps19
  go_wp2
  go_ret2
  exact ⟨_, rfl, World.ownsRow_made w #[] 0 (Nat.le_refl _) (Nat.zero_le _) rfl, (Below.refl _ _).alloc (Nat.le_refl _) _⟩

theorem own_strs0 {w : World} {base : Nat} {v : Value} {ss : List ByteArray} (h : w.ownsRow base 9 1 v ss.length (ss.map Value.string)) (h0 : 0 < ss.length) : ∃ g cap, v = .slice (some ⟨g, 0, none⟩) ss.length cap ∧ StrRow w (some ⟨g, 0, none⟩) ss ∧ ss.length ≤ cap := by
  rcases h.2 with ⟨rfl, h1⟩ | ⟨g, cap, cur, rfl, hb, _, hle, _⟩
  · omega
  · exact ⟨g, cap, rfl, (RowAt.of_owns h).congr fun k hk => by simp [sAt, hk], hle⟩
theorem row_at {w : World} {g : Nat} {ss : List ByteArray} (h : StrRow w (some ⟨g, 0, none⟩) ss) (k : Nat) (hk : k < ss.length) : w.cell? ⟨g, k, none⟩ = some (.string (sAt ss k)) := by
  rcases h with h | ⟨b, off, e, hc⟩
  · omega
  · cases e
    have := hc k hk
    rwa [Nat.zero_add] at this
end Go.Proofs.YtnenaponiahalaaDoor.PfI
