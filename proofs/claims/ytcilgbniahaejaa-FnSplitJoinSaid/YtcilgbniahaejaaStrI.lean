/- JoinStrings: the walk of the program's text. -/
import Derived.Test.YtcilgbniahaejaaStrS
import Derived.Test.YtcilgbniahaejaaJoinM
import Derived.Test.YtcilgbniahaejaaShelf
import Derived.Deep.LoopGhost
import Derived.WalkLawsBesides
import Derived.WalkSpells
namespace Go.Proofs.Ytcilgbniahaejaa.StrI
open Go.RowKit Lb
set_option linter.unusedSimpArgs false
set_option linter.unusedVariables false

theorem implJ_none (a : Option Addr) (cap : Nat) (ss : List ByteArray) (sep : ByteArray) (w : World) (hl : ss.length ≤ maxLen) (hs : sep.size ≤ maxLen) (h : sep.size ≠ 1 ∨ ss = []) :
    Calls Try.prog 12 #[.slice a ss.length cap, .string sep] w fun e w' => e = .returned (.tuple #[.string ByteArray.empty, .bool false]) ∧ Below w.heap.size w w' := by
  unfold maxLen at hl hs
  by_cases h1 : ss = []
  · subst h1
    go_enter Try.func12, Try.ntmps12
    go_wp2
    go_step3
    go_wp2
    rw [Exit.noGoto_ret]
    go_ret2
    exact ⟨rfl, Below.refl _ _⟩
  · have h2 : sep.size ≠ 1 := by rcases h with h | h
                                 · exact h
                                 · exact absurd h h1
    have hpos : 0 < ss.length := List.length_pos_iff.2 h1
    have h3 : ((ss.length : Int) == 0) = false := by simp; omega
    have h4 : ((sep.size : Int) != 1) = true := by simp; omega
    clear h h1 h2
    go_enter Try.func12, Try.ntmps12
    go_wp2
    go_step3
    go_wp2
    rw [Exit.noGoto_ret]
    go_ret2
    exact ⟨rfl, Below.refl _ _⟩

set_option maxHeartbeats 1000000 in
/-- Every string goes in. -/
theorem implJ_ok (a : Option Addr) (cap : Nat) (ss : List ByteArray) (sep : ByteArray) (w : World) (hr : StrRow w a ss) (hl : ss.length ≤ 1048576) (hcap : ss.length ≤ cap) (hss : ∀ k, (sAt ss k).size ≤ 1048576) (h1 : sep.size = 1) (hne : ss ≠ []) (hp : 0 < sep.size)
    (hgood : ∀ i, i < ss.length → ¬ JBad sep[0] ss i) :
    Calls Try.prog 12 #[.slice a ss.length cap, .string sep] w fun e w' => e = .returned (.tuple #[.string (jn sep ss ss.length), .bool true]) ∧ Below w.heap.size w w' := by
  have hpos : 0 < ss.length := List.length_pos_iff.2 hne
  have h2 : ((ss.length : Int) == 0) = false := by simp; omega
  have h3 : ((sep.size : Int) == 1) = true := by simp [h1]
  have h4 : ((sep.size : Int) != 1) = false := by simp [h1]
  have H1 := Lib.hid h1
  have HG := Lib.hid hgood
  clear h1 hgood
  go_enter Try.func12, Try.ntmps12
  go_wp2
  go_step3
  go_wp2
  go_step3
  go_wp2
  go_loopw [6, 7, 21] (fun r v i wr => ∃ k : Nat, k ≤ ss.length ∧ i = .int .i64 k ∧ v = .bool true ∧ 0 ≤ (4001 : Int) - total (ss.take k) - k ∧ r = .int .i64 (4001 - total (ss.take k) - k) ∧ Still w wr) (fun _ _ i _ => ss.length - (intOf i).toNat)
  case atStart => exact ⟨0, Nat.zero_le _, rfl, rfl, by simp [total], by simp [total], Still.refl _⟩
  case round =>
    obtain ⟨k, hk, rfl, rfl, hp0, rfl, hst⟩ := hrel
    by_cases hkl : k < ss.length
    · have hr' : StrRow wr a ss := RowAt.heap hr hst.heap
      rcases hr' with hr' | ⟨b, off, rfl, hc⟩
      · omega
      have g1 : wr.cell? ⟨b, off + k, none⟩ = some (.string (sAt ss k)) := hc k hkl
      have hsz := hss k
      have hx := hst
      clear hst hc
      have hnb := HG.out k hkl
      have hb' : hasB (sAt ss k) sep[0] = false := by simpa using fun h => hnb (.inl h)
      have hn : ¬ 4000 < total (ss.take (k + 1)) + k := fun h => hnb (.inr h)
      clear hnb
      have ht := total_take ss k hkl
      have hroom : 0 ≤ (4001 : Int) - total (ss.take k) - k - ((sAt ss k).size + 1) := by omega
      have HT := Lib.hid ht
      have HB := Lib.hid hb'
      clear ht hb' hn
      go_wp2
      go_loopw [7, 34] (fun v i wx => ∃ n : Nat, n ≤ (sAt ss k).size ∧ i = .int .i64 n ∧ v = .bool true ∧ Still w wx) (fun _ i _ => (sAt ss k).size - (intOf i).toNat)
      case atStart => exact ⟨0, Nat.zero_le _, rfl, rfl, hx⟩
      case round =>
        obtain ⟨n, hn, rfl, rfl, hst⟩ := hrel
        by_cases hnl : n < (sAt ss k).size
        · have hb := u8_beq_no (hasB_no HB.out n hnl)
          go_wp2
          go_quiet (fail)
          go_wp2
          go_roundw
          case rel => exact ⟨n + 1, by omega, by go_num, rfl, hst.drewN _⟩
          case measure => simp [intOf]; omega
        · go_wp2
          go_roundw
          case rel => exact ⟨k + 1, by omega, by go_num, rfl, by rw [HT.out]; omega, by rw [HT.out]; go_num, hst⟩
          case measure => simp [intOf]; omega
    · obtain rfl : k = ss.length := by omega
      have hr' : StrRow wr a ss := RowAt.heap hr hst.heap
      rcases hr' with hr' | ⟨b, off, rfl, hc⟩
      · omega
      have hbk : b < wr.heap.size := World.block_lt_of_cell? wr _ (hc 0 hpos)
      have hcells := Lib.hid (cells_of_row hc)
      have hlen := Lib.hid (join_length sep ss H1.out)
      have hall := Lib.hid (jn_all sep ss)
      have hx := hst
      have hnb : ¬ 4000 < total (ss.take (ss.length - 1 + 1)) + (ss.length - 1) := fun h => HG.out (ss.length - 1) (by omega) (.inr h)
      rw [show ss.length - 1 + 1 = ss.length from by omega, List.take_length] at hnb
      have cj := Lib.hid (Try.strings_Join b off cap ss sep wr hcells.out hbk (by omega) hcap (by rw [hlen.out]; omega))
      clear hst hc hnb
      go_wp2_with (go_at_call 30; refine cj.out.mono ?_; rintro e w' ⟨rfl, hbel⟩)
      rw [Exit.noGoto_ret]
      go_ret2
      exact ⟨by rw [← hall.out]; rfl, (hx.below _).trans (by rw [hx.heap] at hbel; exact hbel)⟩

set_option maxHeartbeats 1000000 in
/-- A string holds the separator, or the text grows too long. -/
theorem implJ_bad (a : Option Addr) (cap : Nat) (ss : List ByteArray) (sep : ByteArray) (w : World) (hr : StrRow w a ss) (hl : ss.length ≤ 1048576) (hss : ∀ k, (sAt ss k).size ≤ 1048576) (h1 : sep.size = 1) (hne : ss ≠ []) (hp : 0 < sep.size)
    (j : Nat) (hj : j < ss.length) (hgood : ∀ i, i < j → ¬ JBad sep[0] ss i) (hbad : JBad sep[0] ss j) :
    Calls Try.prog 12 #[.slice a ss.length cap, .string sep] w fun e w' => e = .returned (.tuple #[.string ByteArray.empty, .bool false]) ∧ Below w.heap.size w w' := by
  have hpos : 0 < ss.length := List.length_pos_iff.2 hne
  have h2 : ((ss.length : Int) == 0) = false := by simp; omega
  have h3 : ((sep.size : Int) == 1) = true := by simp [h1]
  have h4 : ((sep.size : Int) != 1) = false := by simp [h1]
  have H1 := Lib.hid h1
  have HG := Lib.hid hgood
  have HX := Lib.hid hbad
  clear h1 hgood hbad
  go_enter Try.func12, Try.ntmps12
  go_wp2
  go_step3
  go_wp2
  go_step3
  go_wp2
  go_loopw [6, 7, 21] (fun r v i wr => ∃ k : Nat, k ≤ j ∧ i = .int .i64 k ∧ v = .bool true ∧ 0 ≤ (4001 : Int) - total (ss.take k) - k ∧ r = .int .i64 (4001 - total (ss.take k) - k) ∧ Still w wr) (fun _ _ i _ => ss.length - (intOf i).toNat)
  case atStart => exact ⟨0, Nat.zero_le _, rfl, rfl, by simp [total], by simp [total], Still.refl _⟩
  case round =>
    obtain ⟨k, hk, rfl, rfl, hp0, rfl, hst⟩ := hrel
    have hkl : k < ss.length := by omega
    have hr' : StrRow wr a ss := RowAt.heap hr hst.heap
    rcases hr' with hr' | ⟨b, off, rfl, hc⟩
    · omega
    have g1 : wr.cell? ⟨b, off + k, none⟩ = some (.string (sAt ss k)) := hc k hkl
    have hsz := hss k
    have hx := hst
    clear hst hc
    have ht := total_take ss k hkl
    by_cases hn : 4000 < total (ss.take (k + 1)) + k
    · have hroom : (4001 : Int) - total (ss.take k) - k - ((sAt ss k).size + 1) < 0 := by omega
      clear ht hn
      go_wp2
      rw [Exit.noGoto_ret]
      go_ret2
      exact ⟨rfl, hx.below _⟩
    · have hroom : 0 ≤ (4001 : Int) - total (ss.take k) - k - ((sAt ss k).size + 1) := by omega
      have HT := Lib.hid ht
      by_cases hb : hasB (sAt ss k) sep[0] = true
      · have hfind : ∃ q, q < (sAt ss k).size ∧ (∀ i, i < q → ∀ (h : i < (sAt ss k).size), (sAt ss k)[i] ≠ sep[0]) ∧ ¬ (∀ (h : q < (sAt ss k).size), (sAt ss k)[q] ≠ sep[0]) := first_of (fun h => by
          rw [hasB_none (fun i hi => h i hi hi)] at hb; cases hb)
        obtain ⟨q, hq, hbef, hat⟩ := hfind
        have hat' : (sAt ss k)[q] = sep[0] := by
          by_cases e : (sAt ss k)[q] = sep[0]
          · exact e
          · exact absurd (fun _ => e) hat
        have HQ := Lib.hid hbef
        have HA := Lib.hid hat'
        clear ht hn hb hbef hat hat'
        go_wp2
        go_loopw [7, 34] (fun v i wx => ∃ n : Nat, n ≤ q ∧ i = .int .i64 n ∧ v = .bool true ∧ Still w wx) (fun _ i _ => (sAt ss k).size - (intOf i).toNat)
        case atStart => exact ⟨0, Nat.zero_le _, rfl, rfl, hx⟩
        case round =>
          obtain ⟨n, hn, rfl, rfl, hst⟩ := hrel
          have hnl : n < (sAt ss k).size := by omega
          by_cases hnq : n < q
          · have hb := u8_beq_no (HQ.out n hnq hnl)
            go_wp2
            go_quiet (fail)
            go_wp2
            go_roundw
            case rel => exact ⟨n + 1, by omega, by go_num, rfl, hst.drewN _⟩
            case measure => simp [intOf]; omega
          · obtain rfl : n = q := by omega
            have hb := u8_beq_yes HA.out
            go_wp2
            go_quiet (fail)
            go_wp2
            rw [Exit.noGoto_ret]
            go_ret2
            exact ⟨rfl, (hst.drewN _).below _⟩
      · have hkj : k < j := by
          by_cases e : k = j
          · subst e
            rcases HX.out with h | h
            · exact absurd h hb
            · exact absurd h hn
          · omega
        have hb' : hasB (sAt ss k) sep[0] = false := by simpa using hb
        have HB := Lib.hid hb'
        clear ht hn hb hb'
        go_wp2
        go_loopw [7, 34] (fun v i wx => ∃ n : Nat, n ≤ (sAt ss k).size ∧ i = .int .i64 n ∧ v = .bool true ∧ Still w wx) (fun _ i _ => (sAt ss k).size - (intOf i).toNat)
        case atStart => exact ⟨0, Nat.zero_le _, rfl, rfl, hx⟩
        case round =>
          obtain ⟨n, hn, rfl, rfl, hst⟩ := hrel
          by_cases hnl : n < (sAt ss k).size
          · have hb := u8_beq_no (hasB_no HB.out n hnl)
            go_wp2
            go_quiet (fail)
            go_wp2
            go_roundw
            case rel => exact ⟨n + 1, by omega, by go_num, rfl, hst.drewN _⟩
            case measure => simp [intOf]; omega
          · go_wp2
            go_roundw
            case rel => exact ⟨k + 1, by omega, by go_num, rfl, by rw [HT.out]; omega, by rw [HT.out]; go_num, hst⟩
            case measure => simp [intOf]; omega

end Go.Proofs.Ytcilgbniahaejaa.StrI
