/- The number of one byte: the model's reader. -/
import Derived.Test.YtdphliobjafjaaaParsC
import Derived.Test.YtdphliobjafjaaaL1S
namespace Go.Proofs.Ytdphliobjafjaaa.ParsR
open Go.RowKit Lb IntS MapS MapV SpecB ParsC TextS
set_option linter.unusedSimpArgs false
set_option linter.unusedVariables false

theorem dg_back (b : UInt8) (h1 : 48 ≤ b.toNat) (h2 : b.toNat ≤ 57) : dg ((b.toNat : Int) - 48) = b := by
  apply UInt8.toNat_inj.1
  have := dg_toNat (z := (b.toNat : Int) - 48) (by omega) (by omega)
  omega
theorem one_bs (t : ByteArray) (h : t.size = 1) : bs [t[0]] = t := by
  apply ByteArray.ext
  apply Array.ext
  · show 1 = t.size
    omega
  · intro i h1 h2
    have : i = 0 := by
      have : i < 1 := h1
      omega
    subst this
    rfl

/-- What is answered. -/
def RPost (b : UInt8) (e : Ending) : Prop := ∃ ok, e = .returned (.tuple #[.int .i64 (rd1 b), .bool ok])

set_option maxRecDepth 100000 in
set_option maxHeartbeats 1000000 in
theorem read_any (t : ByteArray) (w : World) (h : t.size = 1) :
    Calls Try.prog 69 #[.string t] w fun e w' => RPost t[0] e ∧ Still w w' := by
  have hb0 : 0 ≤ (t[0].toNat : Int) ∧ (t[0].toNat : Int) ≤ 255 := by have := t[0].toNat_lt; omega
  by_cases h48 : 48 ≤ (t[0].toNat : Int)
  · by_cases h57 : (t[0].toNat : Int) ≤ 57
    · have HR := Lib.hid (show rd1 t[0] = (t[0].toNat : Int) - 48 from by unfold rd1; rw [if_pos (by omega)])
      have HD := Lib.hid (show bs [dg ((t[0].toNat : Int) - 48)] = t from by rw [dg_back _ (by omega) (by omega)]; exact one_bs t h)
      have hpos : 0 < t.size := by omega
      go_enter Try.func69, Try.ntmps69
      go_wp2_with (go_at_call 85; refine (in_yes _ _ _ _ (by omega) (by omega)).mono ?_; rintro e w' ⟨rfl, rfl⟩)
      go_loop [5, 6] (fun n i => (i = .int .i64 0 ∧ n = .int .i64 0) ∨ (i = .int .i64 1 ∧ n = .int .i64 ((t[0].toNat : Int) - 48))) (fun _ i => 1 - (RowKit.intOf i).toNat)
      case atStart => exact .inl ⟨rfl, rfl⟩
      case round =>
        rcases hrel with ⟨rfl, rfl⟩ | ⟨rfl, rfl⟩
        · go_wp2_with fail
          go_round
          case rel => exact .inr ⟨by go_num, by go_num⟩
          case measure => simp [RowKit.intOf]
        · go_wp2_with fail
          refine (num_any _ _ (by omega) (by omega)).mono ?_
          rintro e w1 ⟨rfl, rfl⟩
          have hx : (!(bs [dg ((t[0].toNat : Int) - 48)]).toList == t.toList) = false := by rw [HD.out]; simp
          go_wp2_with fail
          go_ret2
          exact ⟨⟨true, by rw [HR.out]; rfl⟩, Still.refl _⟩
    · have HR := Lib.hid (show rd1 t[0] = 0 from by unfold rd1; rw [if_neg (by omega)])
      have hpos : 0 < t.size := by omega
      go_enter Try.func69, Try.ntmps69
      go_wp2_with (go_at_call 85; refine (in_yes _ _ _ _ (by omega) (by omega)).mono ?_; rintro e w' ⟨rfl, rfl⟩)
      go_loop [5, 6] (fun n i => (i = .int .i64 0 ∧ n = .int .i64 0)) (fun _ i => 1 - (RowKit.intOf i).toNat)
      case atStart => exact ⟨rfl, rfl⟩
      case round =>
        obtain ⟨rfl, rfl⟩ := hrel
        go_wp2_with fail
        go_ret2
        exact ⟨⟨false, by rw [HR.out]; rfl⟩, Still.refl _⟩
  · have HR := Lib.hid (show rd1 t[0] = 0 from by unfold rd1; rw [if_neg (by omega)])
    have hpos : 0 < t.size := by omega
    go_enter Try.func69, Try.ntmps69
    go_wp2_with (go_at_call 85; refine (in_yes _ _ _ _ (by omega) (by omega)).mono ?_; rintro e w' ⟨rfl, rfl⟩)
    go_loop [5, 6] (fun n i => (i = .int .i64 0 ∧ n = .int .i64 0)) (fun _ i => 1 - (RowKit.intOf i).toNat)
    case atStart => exact ⟨rfl, rfl⟩
    case round =>
      obtain ⟨rfl, rfl⟩ := hrel
      go_wp2_with fail
      go_ret2
      exact ⟨⟨false, by rw [HR.out]; rfl⟩, Still.refl _⟩

/-- A block of strings. -/
def StrB (w : World) (g : Nat) (cs : Array Value) : Prop := Blk w g 9 cs
theorem strB_of {w W' : World} {ps : List ByteArray} {v : Value} (h : L1S.NewStrs w ps v W') (hne : ps ≠ []) : ∃ g cap cs, v = .slice (some ⟨g, 0, none⟩) ps.length cap ∧ StrB W' g cs ∧ w.heap.size ≤ g ∧ ∀ k, k < ps.length → cs[k]? = some (.string (sAt ps k)) := by
  obtain ⟨⟨h1, h2⟩, -⟩ := h
  have hl : 0 < ps.length := List.length_pos_iff.2 hne
  rcases h2 with ⟨_, h0⟩ | ⟨g, cap, cur, hv, hb, hh, hc, _, hs, ht⟩
  · omega
  · refine ⟨g, cap, cur, hv, hh, hb, fun k hk => ?_⟩
    have e := congrArg (fun l => l[k]?) ht
    simp only [Nat.mul_one] at e
    rw [List.getElem?_take, if_pos hk, List.getElem?_map] at e
    rw [← Array.getElem?_toList, e]
    unfold sAt
    rw [List.getD_eq_getElem?_getD, List.getElem?_eq_getElem hk]
    rfl
theorem StrB.cell {w : World} {g : Nat} {cs : Array Value} (h : StrB w g cs) (k : Nat) : w.cell? ⟨g, k, none⟩ = cs[k]? := by
  unfold StrB Blk at h
  simp [World.cell?, h]

end Go.Proofs.Ytdphliobjafjaaa.ParsR
