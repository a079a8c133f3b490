/- CourseOf: both texts. -/
import Derived.Test.YtnenaponiahalaaKaG
namespace Go.Proofs.Ytnenaponiahalaa.KaO
open Go.RowKit Lb Bk KlK KlI KaA KaG
set_option linter.unusedSimpArgs false
set_option linter.unusedVariables false

/-- The first Class with an Id. -/
def fcl (rs : List Kl) (x : Int) : Option Kl := rs.find? (fun r => r.id == x)
theorem fcl_at {rs : List Kl} {x : Int} {k : Nat} (hk : k < rs.length) (h : ∀ j, j < k → (at_ rs j).id ≠ x) (h1 : (at_ rs k).id = x) : fcl rs x = some (at_ rs k) := find_at hk (fun j hj => by simpa using h j hj) (by simpa using h1)
theorem fcl_no {rs : List Kl} {x : Int} (h : ∀ j, j < rs.length → (at_ rs j).id ≠ x) : fcl rs x = none := find_no fun j hj => by simpa using h j hj
/-- What CourseOf answers. -/
def coB (rs : List Kl) (x : Int) : Bool := goodB rs && (fcl rs x).isSome
def coZ (rs : List Kl) (x : Int) : Int := if goodB rs then ((fcl rs x).getD no).co else 0
theorem co_bad {rs : List Kl} {x : Int} (h : goodB rs = false) : coB rs x = false ∧ coZ rs x = 0 := by
  unfold coB coZ
  rw [h]
  exact ⟨rfl, rfl⟩
theorem co_no {rs : List Kl} {x : Int} (h : ∀ j, j < rs.length → (at_ rs j).id ≠ x) : coB rs x = false ∧ coZ rs x = 0 := by
  unfold coB coZ
  rw [fcl_no h]
  exact ⟨by simp, by split <;> rfl⟩
theorem co_at {rs : List Kl} {x : Int} {k : Nat} (hg : goodB rs = true) (hk : k < rs.length) (h : ∀ j, j < k → (at_ rs j).id ≠ x) (h1 : (at_ rs k).id = x) : coB rs x = true ∧ coZ rs x = (at_ rs k).co := by
  unfold coB coZ
  rw [fcl_at hk h h1, hg]
  exact ⟨rfl, rfl⟩
def ZPost (w : World) (z : Int) (ok : Bool) (e : Ending) (w' : World) : Prop := e = .returned (.tuple #[.int .i64 z, .bool ok]) ∧ Below w.heap.size w w'

set_option maxRecDepth 20000 in
set_option maxHeartbeats 2000000 in
theorem impl_any (rs : List Kl) (hf : ∀ i, i < rs.length → Is (at_ rs i)) (hl : rs.length ≤ 1048576) (x : Int) (a : Option Addr) (cap : Nat) (w : World) (hc : rs.length ≤ cap) (hr : Row w a rs) :
    Calls Try.prog 46 #[.slice a rs.length cap, .int .i64 x] w (ZPost w (coZ rs x) (coB rs x)) := by
  have HR := Lib.hid hr
  have hml : rs.length ≤ maxLen := by unfold maxLen; omega
  obtain ⟨g, hg⟩ : ∃ g, goodB rs = g := ⟨_, rfl⟩
  have c1 := Lib.hid (fun w hr => hg ▸ KaA.impl_any a cap rs w hc hr hf hml)
  have HG := Lib.hid hg
  obtain ⟨ok, hok⟩ : ∃ o, coB rs x = o := ⟨_, rfl⟩
  obtain ⟨z, hz⟩ : ∃ z, coZ rs x = z := ⟨_, rfl⟩
  have HO := Lib.hid hok
  have HZ := Lib.hid hz
  rw [hok, hz]
  obtain ⟨n, hn⟩ : ∃ n, rs.length = n := ⟨_, rfl⟩
  have HN := Lib.hid hn
  rw [hn] at hl hml c1 hc ⊢
  clear hr hg hok hz hn hf
  go_enter Try.func46, Try.ntmps46
  go_wp2_with fail
  refine (c1.out _ HR.out).mono ?_
  rintro e w1 ⟨rfl, hb⟩
  have HB1 := Lib.hid hb
  clear hb
  cases g with
  | false =>
    obtain ⟨h1, h2⟩ := co_bad (x := x) HG.out
    rw [HO.out] at h1
    rw [HZ.out] at h2
    subst h1 h2
    go_wp2
    go_ret2
    exact ⟨rfl, HB1.out⟩
  | true =>
    go_wp2
    go_loopw [13] (fun i wr => ∃ k : Nat, k ≤ n ∧ i = .int .i64 k ∧ (∀ j, j < k → (at_ rs j).id ≠ x) ∧ Below w.heap.size w wr) (fun i _ => n - (intOf i).toNat)
    case atStart => exact ⟨0, Nat.zero_le _, rfl, (fun j hj => absurd hj (Nat.not_lt_zero _)), HB1.out⟩
    case round =>
      clear HB1
      obtain ⟨k, hk, rfl, hall, hB⟩ := hrel
      have HA := Lib.hid hall
      have HB := Lib.hid hB
      clear hall hB
      by_cases hlt : k < n
      · obtain ⟨b1, off, rfl, c0, c1, c2, c3, c4, c5, c6, c7⟩ := (HR.out.later HB.out).cells (i := k) (by rw [HN.out]; exact hlt)
        obtain ⟨y, hy⟩ : ∃ y, at_ rs k = y := ⟨_, rfl⟩
        rw [hy] at c0 c1 c2 c3 c4 c5 c6 c7
        have HY := Lib.hid hy
        clear hy
        have HB2 := Lib.hid (HB.out.alloc HB.out.size (.cells #[.int .i64 y.id, .string y.nm, .int .i64 y.lo, .int .i64 y.hi, .bool y.wo, .bool y.me, .int .i64 y.co, .int .i64 y.mo] 46))
        by_cases hq : y.id = x
        · obtain ⟨h1, h2⟩ := co_at HG.out (by rw [HN.out]; exact hlt) HA.out (by rw [HY.out]; exact hq)
          rw [HO.out] at h1
          rw [HZ.out, HY.out] at h2
          have hd : (y.id == x) = true := by simpa using hq
          subst h1 h2
          clear hq
          go_wp2
          go_ret2
          exact ⟨rfl, HB2.out⟩
        · have hp := Lib.hid (show (at_ rs k).id ≠ x from by rw [HY.out]; exact hq)
          have hd : (y.id == x) = false := by simpa using hq
          clear hq
          go_wp2
          go_roundw
          case rel => exact ⟨k + 1, by omega, by go_num, all_succ (p := fun j => (at_ rs j).id ≠ x) HA.out hp.out, HB2.out⟩
          case measure => simp [intOf]; omega
      · obtain rfl : k = n := by omega
        obtain ⟨h1, h2⟩ := co_no (rs := rs) (x := x) (by rw [HN.out]; exact HA.out)
        rw [HO.out] at h1
        rw [HZ.out] at h2
        subst h1 h2
        go_wp2
        go_ret2
        exact ⟨rfl, HB.out⟩

set_option maxRecDepth 20000 in
set_option maxHeartbeats 2000000 in
theorem spec_any (rs : List Kl) (hf : ∀ i, i < rs.length → Is (at_ rs i)) (hl : rs.length ≤ 1048576) (x : Int) (a : Option Addr) (cap : Nat) (w : World) (hr : Row w a rs) :
    Calls Try.prog 47 #[.slice a rs.length cap, .int .i64 x] w (ZPost w (coZ rs x) (coB rs x)) := by
  have HR := Lib.hid hr
  have hml : rs.length ≤ maxLen := by unfold maxLen; omega
  obtain ⟨g, hg⟩ : ∃ g, goodB rs = g := ⟨_, rfl⟩
  have c1 := Lib.hid (fun w hr => hg ▸ good_any a cap rs w hr hf hml)
  have HG := Lib.hid hg
  obtain ⟨ok, hok⟩ : ∃ o, coB rs x = o := ⟨_, rfl⟩
  obtain ⟨z, hz⟩ : ∃ z, coZ rs x = z := ⟨_, rfl⟩
  have HO := Lib.hid hok
  have HZ := Lib.hid hz
  rw [hok, hz]
  obtain ⟨n, hn⟩ : ∃ n, rs.length = n := ⟨_, rfl⟩
  have HN := Lib.hid hn
  rw [hn] at hl hml c1 ⊢
  clear hr hg hok hz hn hf
  go_enter Try.func47, Try.ntmps47
  go_wp2_with fail
  refine (c1.out _ HR.out).mono ?_
  rintro e w1 ⟨rfl, hb⟩
  have HB1 := Lib.hid hb
  clear hb
  cases g with
  | false =>
    obtain ⟨h1, h2⟩ := co_bad (x := x) HG.out
    rw [HO.out] at h1
    rw [HZ.out] at h2
    subst h1 h2
    go_wp2
    go_ret2
    exact ⟨rfl, HB1.out⟩
  | true =>
    go_wp2
    go_loopw [6] (fun i wr => ∃ k : Nat, k ≤ n ∧ i = .int .i64 k ∧ (∀ j, j < k → (at_ rs j).id ≠ x) ∧ Below w.heap.size w wr) (fun i _ => n - (intOf i).toNat)
    case atStart => exact ⟨0, Nat.zero_le _, rfl, (fun j hj => absurd hj (Nat.not_lt_zero _)), HB1.out⟩
    case round =>
      clear HB1
      obtain ⟨k, hk, rfl, hall, hB⟩ := hrel
      have HA := Lib.hid hall
      have HB := Lib.hid hB
      clear hall hB
      by_cases hlt : k < n
      · obtain ⟨b1, off, rfl, c0, c1, c2, c3, c4, c5, c6, c7⟩ := (HR.out.later HB.out).cells (i := k) (by rw [HN.out]; exact hlt)
        obtain ⟨y, hy⟩ : ∃ y, at_ rs k = y := ⟨_, rfl⟩
        rw [hy] at c0 c1 c2 c3 c4 c5 c6 c7
        have HY := Lib.hid hy
        clear hy
        by_cases hq : y.id = x
        · obtain ⟨h1, h2⟩ := co_at HG.out (by rw [HN.out]; exact hlt) HA.out (by rw [HY.out]; exact hq)
          rw [HO.out] at h1
          rw [HZ.out, HY.out] at h2
          have hd : (y.id == x) = true := by simpa using hq
          subst h1 h2
          clear hq
          go_wp2
          go_ret2
          exact ⟨rfl, HB.out⟩
        · have hp := Lib.hid (show (at_ rs k).id ≠ x from by rw [HY.out]; exact hq)
          have hd : (y.id == x) = false := by simpa using hq
          clear hq
          go_wp2
          go_roundw
          case rel => exact ⟨k + 1, by omega, by go_num, all_succ (p := fun j => (at_ rs j).id ≠ x) HA.out hp.out, HB.out⟩
          case measure => simp [intOf]; omega
      · obtain rfl : k = n := by omega
        obtain ⟨h1, h2⟩ := co_no (rs := rs) (x := x) (by rw [HN.out]; exact HA.out)
        rw [HO.out] at h1
        rw [HZ.out] at h2
        subst h1 h2
        go_wp2
        go_ret2
        exact ⟨rfl, HB.out⟩

theorem both (rs : List Kl) (hf : ∀ i, i < rs.length → Is (at_ rs i)) (hl : rs.length ≤ 1048576) (x : Int) (_ : (Lit.int IntKind.i64 x).wf = true) : ∃ (z : Int) (ok : Bool),
    (∀ a cap w, rs.length ≤ cap → Row w a rs → Calls Try.prog 47 #[.slice a rs.length cap, .int .i64 x] w fun e w' => e = .returned (.tuple #[.int .i64 z, .bool ok]) ∧ Below w.heap.size w w') ∧
    (∀ a cap w, rs.length ≤ cap → Row w a rs → Calls Try.prog 46 #[.slice a rs.length cap, .int .i64 x] w fun e w' => e = .returned (.tuple #[.int .i64 z, .bool ok]) ∧ Below w.heap.size w w') :=
  ⟨coZ rs x, coB rs x, fun a cap w _ hr => spec_any rs hf hl x a cap w hr, fun a cap w hc hr => impl_any rs hf hl x a cap w hc hr⟩
end Go.Proofs.Ytnenaponiahalaa.KaO
