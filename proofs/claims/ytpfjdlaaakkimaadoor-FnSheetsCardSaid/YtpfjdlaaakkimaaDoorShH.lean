/- FnSheets: the law's helpers, the drawing of a word. -/
import Derived.Test.YtpfjdlaaakkimaaDoorFsD
import Derived.Test.YtpfjdlaaakkimaaDoorFndS
import Derived.Test.YtpfjdlaaakkimaaDoorShV
namespace Go.Proofs.YtpfjdlaaakkimaaDoor.ShH
open Go.RowKit Lb Bk Cur FtD CodB DrF ShV
set_option linter.unusedSimpArgs false
set_option linter.unusedVariables false

set_option maxHeartbeats 1000000 in
theorem ints_same (a b : Option Addr) (cap cap' n : Nat) (zs : List Int) (w : World) (hn : zs.length = n) (hr : ZRow w a zs) (hr' : ZRow w b zs) (hl : n ≤ 1048576) :
    Calls Tryd.prog 27 #[.slice a n cap, .slice b n cap'] w fun e w' => e = .returned (.bool true) ∧ Below w.heap.size w w' := by
  go_enter Tryd.func27, Tryd.ntmps27
  go_wp2
  go_loopw [5] (fun i wr => ∃ k : Nat, k ≤ n ∧ i = .int .i64 k ∧ Still w wr) (fun i _ => n - (intOf i).toNat)
  case atStart => exact ⟨0, Nat.zero_le _, rfl, Still.refl _⟩
  case round =>
    obtain ⟨k, hk, rfl, hst⟩ := hrel
    obtain ⟨q, rfl⟩ := hst
    by_cases hlt : k < n
    · rcases hr with hr | ⟨b1, off1, rfl, hc1⟩
      · omega
      rcases hr' with hr' | ⟨b2, off2, rfl, hc2⟩
      · omega
      obtain ⟨z, hz⟩ : ∃ z : Int, zs.getD k 0 = z := ⟨_, rfl⟩
      have g1 : w.cell? ⟨b1, off1 + k, none⟩ = some (.int .i64 z) := by rw [← hz]; exact hc1 k (by omega)
      have g2 : w.cell? ⟨b2, off2 + k, none⟩ = some (.int .i64 z) := by rw [← hz]; exact hc2 k (by omega)
      clear hc1 hc2 hz
      go_wp2
      go_quiet (fail)
      go_wp2
      go_roundw
      case rel => exact ⟨k + 1, by omega, by go_num, ⟨_, rfl⟩⟩
      case measure => simp [intOf]; omega
    · go_wp2
      go_ret
      exact ⟨rfl, Still.below ⟨_, rfl⟩ _⟩

set_option maxHeartbeats 1000000 in
theorem texts_same (a b : Option Addr) (cap cap' n : Nat) (ss : List ByteArray) (w : World) (hn : ss.length = n) (hr : StrRow w a ss) (hr' : StrRow w b ss) (hl : n ≤ 1048576) :
    Calls Tryd.prog 32 #[.slice a n cap, .slice b n cap'] w fun e w' => e = .returned (.bool true) ∧ Below w.heap.size w w' := by
  go_enter Tryd.func32, Tryd.ntmps32
  go_wp2
  go_loopw [5] (fun i wr => ∃ k : Nat, k ≤ n ∧ i = .int .i64 k ∧ Still w wr) (fun i _ => n - (intOf i).toNat)
  case atStart => exact ⟨0, Nat.zero_le _, rfl, Still.refl _⟩
  case round =>
    obtain ⟨k, hk, rfl, hst⟩ := hrel
    obtain ⟨q, rfl⟩ := hst
    by_cases hlt : k < n
    · rcases hr with hr | ⟨b1, off1, rfl, hc1⟩
      · omega
      rcases hr' with hr' | ⟨b2, off2, rfl, hc2⟩
      · omega
      obtain ⟨z, hz⟩ : ∃ z, sAt ss k = z := ⟨_, rfl⟩
      have g1 : w.cell? ⟨b1, off1 + k, none⟩ = some (.string z) := by rw [← hz]; exact hc1 k (by omega)
      have g2 : w.cell? ⟨b2, off2 + k, none⟩ = some (.string z) := by rw [← hz]; exact hc2 k (by omega)
      clear hc1 hc2 hz
      go_wp2
      go_quiet (fail)
      go_wp2
      go_roundw
      case rel => exact ⟨k + 1, by omega, by go_num, ⟨_, rfl⟩⟩
      case measure => simp [intOf]; omega
    · go_wp2
      go_ret
      exact ⟨rfl, Still.below ⟨_, rfl⟩ _⟩

/-- The sum of the first 'k' numbers. -/
def pre (zs : List Int) : Nat → Int
  | 0 => 0
  | k + 1 => pre zs k + zs.getD k 0
theorem pre_cons (z : Int) (zs : List Int) : ∀ k, pre (z :: zs) (k + 1) = z + pre zs k
  | 0 => by simp [pre]
  | k + 1 => by
    have := pre_cons z zs k
    rw [pre, this, pre]
    simp only [List.getD_cons_succ]
    omega
theorem pre_all : ∀ zs : List Int, pre zs zs.length = sumZ zs
  | [] => rfl
  | z :: r => by rw [List.length_cons, pre_cons, pre_all r, sumZ]
theorem pre_bound {zs : List Int} (h : ∀ z ∈ zs, 0 ≤ z ∧ z ≤ 1048576) : ∀ k : Nat, k ≤ zs.length → 0 ≤ pre zs k ∧ pre zs k ≤ 1048576 * k
  | 0, _ => ⟨Int.le_refl _, by simp [pre]⟩
  | k + 1, hk => by
    have ih := pre_bound h k (by omega)
    have hm : zs.getD k 0 ∈ zs := by simp [List.getD, show k < zs.length by omega]
    have := h _ hm
    rw [pre]
    constructor
    · omega
    · rw [Int.natCast_add]; omega

set_option maxHeartbeats 1000000 in
theorem sum_any (a : Option Addr) (cap n : Nat) (zs : List Int) (w : World) (hn : zs.length = n) (hr : ZRow w a zs) (hl : n ≤ 5) (hz : ∀ z ∈ zs, 0 ≤ z ∧ z ≤ 1048576) :
    Calls Tryd.prog 28 #[.slice a n cap] w fun e w' => e = .returned (.int .i64 (sumZ zs)) ∧ w' = w := by
  have HP := Lib.hid (fun k (hk : k ≤ n) => pre_bound hz k (by omega))
  have HA := Lib.hid (show pre zs n = sumZ zs from by rw [← hn]; exact pre_all zs)
  clear hz
  go_enter Tryd.func28, Tryd.ntmps28
  go_wp2
  go_loop [3, 4] (fun s i => ∃ k : Nat, k ≤ n ∧ i = .int .i64 k ∧ s = .int .i64 (pre zs k)) (fun _ i => n - (intOf i).toNat)
  case atStart => exact ⟨0, Nat.zero_le _, rfl, rfl⟩
  case round =>
    obtain ⟨k, hk, rfl, rfl⟩ := hrel
    by_cases hlt : k < n
    · rcases hr with hr | ⟨b1, off1, rfl, hc1⟩
      · omega
      have h1 := HP.out k hk
      have h2 := HP.out (k + 1) hlt
      have h3 : pre zs (k + 1) = pre zs k + zs.getD k 0 := rfl
      obtain ⟨z, hz⟩ : ∃ z : Int, zs.getD k 0 = z := ⟨_, rfl⟩
      rw [hz] at h3
      have g1 : w.cell? ⟨b1, off1 + k, none⟩ = some (.int .i64 z) := by rw [← hz]; exact hc1 k (by omega)
      obtain ⟨s, hs⟩ : ∃ s : Int, pre zs k = s := ⟨_, rfl⟩
      have HS := Lib.hid (show pre zs (k + 1) = s + z from by rw [h3, hs])
      rw [hs] at h1 ⊢
      have hwr : IntKind.i64.wrap (s + z) = s + z := IntWalk.i64_in _ (by rw [h3, hs] at h2; omega)
      clear hc1 hz h2 h3 hs
      go_wp2
      go_round
      case rel => exact ⟨k + 1, by omega, by go_num, by rw [HS.out]⟩
      case measure => simp [intOf]; omega
    · obtain rfl : k = n := by omega
      go_wp2
      go_ret
      exact ⟨by rw [HA.out]; rfl, rfl⟩

def drawn8 : List ByteArray := [⟨#[104, 105, 108, 108]⟩, ⟨#[115, 112, 117, 114]⟩, ⟨#[112, 105, 116]⟩, ⟨#[99, 108, 105, 102, 102]⟩, ⟨#[112, 111, 110, 100]⟩, ⟨#[119, 97, 108, 108]⟩, ⟨#[116, 114, 101, 101]⟩, ⟨#[]⟩]
set_option maxHeartbeats 1000000 in
theorem word_any (a : Option Addr) (n cap : Nat) (xs : Nat → Nat) (w : World) (hc : Bytes w a n xs) :
    Calls Tryd.prog 29 #[.slice a n cap] w fun e w' => (∃ x : ByteArray, e = .returned (.string x)) ∧ Below w.heap.size w w' := by
  have HR := Lib.hid (Rs.start (B := w.heap.size) hc cap rfl)
  clear hc
  go_enter Tryd.func29, Tryd.ntmps29
  go_wp2_with (go_at_call 73; go_in)
  have hlt := HR.out.ok.lt
  have HS := Lib.hid (show StrB ((w.alloc (.cells #[.slice a n cap, .int .i64 0, .int .u64 0] 80)).alloc (.cells #[.string ⟨#[104, 105, 108, 108]⟩, .string ⟨#[115, 112, 117, 114]⟩, .string ⟨#[112, 105, 116]⟩, .string ⟨#[99, 108, 105, 102, 102]⟩, .string ⟨#[112, 111, 110, 100]⟩, .string ⟨#[119, 97, 108, 108]⟩, .string ⟨#[116, 114, 101, 101]⟩, .string ⟨#[]⟩] 9)) (w.heap.size + 1) drawn8 from Blk.at_ (by simp))
  have H1 := Lib.hid (HR.out.below ((Below.refl _ _).alloc (Nat.le_refl _) (.cells #[.string ⟨#[104, 105, 108, 108]⟩, .string ⟨#[115, 112, 117, 114]⟩, .string ⟨#[112, 105, 116]⟩, .string ⟨#[99, 108, 105, 102, 102]⟩, .string ⟨#[112, 111, 110, 100]⟩, .string ⟨#[119, 97, 108, 108]⟩, .string ⟨#[116, 114, 101, 101]⟩, .string ⟨#[]⟩] 9)))
  refine (of_blk w.heap.size 0 (w.heap.size + 1) 8 8 drawn8 _ (by omega) rfl (by decide) (by decide) HS.out (by omega) H1.out.ok).mono ?_
  rintro e w1 ⟨⟨x, _, rfl⟩, hok, hg⟩
  have H2 := Lib.hid (H1.out.step hok hg)
  clear hok hg
  go_wp2
  go_ret
  exact ⟨⟨_, rfl⟩, H2.out.B⟩

end Go.Proofs.YtpfjdlaaakkimaaDoor.ShH
