/- Who uses a card: the program's search. -/
import Derived.Test.YtleoljnofdajfaaRuI
import Derived.Test.YtleoljnofdajfaaRuL
import Derived.Deep.CutRange
import Derived.Deep.DeepCutAuto
namespace Go.Proofs.Ytleoljnofdajfaa.RuU
open Go.RowKit Lb Bk InA Wd RuK RuI
set_option linter.unusedSimpArgs false
set_option linter.unusedVariables false

def usP (c : Int) (r : Ru) : Bool := r.ca == c && c != 0
def usB (rs : List Ru) (c : Int) : Bool := (rs.find? (usP c)).isSome
def usR (rs : List Ru) (c : Int) : Ru := (rs.find? (usP c)).getD no

theorem us_no {rs : List Ru} {c : Int} (h : ∀ j, j < rs.length → usP c (at_ rs j) = false) : usB rs c = false ∧ usR rs c = no := by
  unfold usB usR
  rw [find_no h]
  exact ⟨rfl, rfl⟩
theorem us_at {rs : List Ru} {c : Int} {k : Nat} (hk : k < rs.length) (h : ∀ j, j < k → usP c (at_ rs j) = false) (h1 : usP c (at_ rs k) = true) : usB rs c = true ∧ usR rs c = at_ rs k := by
  unfold usB usR
  rw [find_at hk h h1]
  exact ⟨rfl, rfl⟩
theorem us_iff {rs : List Ru} {c : Int} : usB rs c = true ↔ ∃ j, j < rs.length ∧ usP c (at_ rs j) = true := by
  constructor
  · intro h
    rcases Classical.em (∃ j, j < rs.length ∧ usP c (at_ rs j) = true) with h1 | h1
    · exact h1
    · rw [(us_no (fun j hj => by
        cases hp : usP c (at_ rs j) with
        | false => rfl
        | true => exact absurd ⟨j, hj, hp⟩ h1)).1] at h
      cases h
  · rintro ⟨j, hj, hp⟩
    unfold usB
    rw [List.find?_isSome]
    exact ⟨at_ rs j, by rw [at_lt hj]; exact List.getElem_mem hj, hp⟩

set_option maxRecDepth 20000 in
set_option maxHeartbeats 1000000 in
theorem us_any (a : Option Addr) (cap : Nat) (rs : List Ru) (c : Int) (w : World) (hr : Row w a rs) (hl : rs.length ≤ maxLen) :
    Calls Try.prog 46 #[.slice a rs.length cap, .int .i64 c] w fun e w' => e = .returned (.tuple #[.agg #[.int .i64 ((usR rs c)).id, .string ((usR rs c)).nm, .string ((usR rs c)).cl, .int .i64 ((usR rs c)).bo, .bool ((usR rs c)).wo, .int .i64 ((usR rs c)).ca], .bool (usB rs c)]) ∧ Below w.heap.size w w' := by
  unfold maxLen at hl
  have H := Lib.hid hr
  obtain ⟨n, hn⟩ : ∃ n, rs.length = n := ⟨_, rfl⟩
  have HN := Lib.hid hn
  obtain ⟨x, hx⟩ : ∃ x, usR rs c = x := ⟨_, rfl⟩
  obtain ⟨ok, hok⟩ : ∃ ok, usB rs c = ok := ⟨_, rfl⟩
  rw [hx, hok, hn]
  rw [hn] at hl
  have HX := Lib.hid hx
  have HO := Lib.hid hok
  have HB := Lib.hid ((Below.refl w.heap.size w).alloc (Nat.le_refl _) (.cells #[.int .i64 no.id, .string no.nm, .string no.cl, .int .i64 no.bo, .bool no.wo, .int .i64 no.ca] 37))
  have HK := Lib.hid (Blk.new w 37 #[.int .i64 no.id, .string no.nm, .string no.cl, .int .i64 no.bo, .bool no.wo, .int .i64 no.ca])
  clear hr hn hx hok
  go_enter Try.func46, Try.ntmps46
  go_wp2
  go_loopw [10, 7] (fun i _ wr => ∃ k : Nat, k ≤ n ∧ i = .int .i64 k ∧ (∀ j, j < k → usP c (at_ rs j) = false) ∧ Blk wr w.heap.size 37 #[.int .i64 no.id, .string no.nm, .string no.cl, .int .i64 no.bo, .bool no.wo, .int .i64 no.ca] ∧ Below w.heap.size w wr) (fun i _ _ => n - (intOf i).toNat)
  case atStart => exact ⟨0, Nat.zero_le _, rfl, (fun j hj => absurd hj (Nat.not_lt_zero _)), HK.out, HB.out⟩
  case round =>
    clear HB HK
    obtain ⟨k, hk, rfl, hall, hK, hB⟩ := hrel
    have HA := Lib.hid hall
    have HK := Lib.hid hK
    have HB := Lib.hid hB
    have hz := HK.out.lt
    clear hall hK hB
    by_cases hlt : k < n
    · obtain ⟨b, off, rfl, c0, c1, c2, c3, c4, c5⟩ := (H.out.later HB.out).cells (i := k) (by rw [HN.out]; exact hlt)
      obtain ⟨y, hy⟩ : ∃ y, at_ rs k = y := ⟨_, rfl⟩
      rw [hy] at c0 c1 c2 c3 c4 c5
      have HY := Lib.hid hy
      clear hy
      have HB2 := Lib.hid (HB.out.alloc HB.out.size (.cells #[.int .i64 y.id, .string y.nm, .string y.cl, .int .i64 y.bo, .bool y.wo, .int .i64 y.ca] 37))
      have HK2 := Lib.hid (HK.out.alloc (.cells #[.int .i64 y.id, .string y.nm, .string y.cl, .int .i64 y.bo, .bool y.wo, .int .i64 y.ca] 37))
      by_cases h1 : y.ca = c
      · by_cases h2 : c = 0
        · have hp := Lib.hid (show usP c (at_ rs k) = false from by rw [HY.out]; unfold usP; rw [h2]; simp)
          have h1' : (y.ca == c) = true := by simpa using h1
          have h2' : (c == 0) = true := by simpa using h2
          have h2'' : (c != 0) = false := by simpa using h2
          clear h1 h2
          go_wp2
          go_roundw
          case rel => exact ⟨k + 1, by omega, by go_num, all_succ (p := fun j => usP c (at_ rs j) = false) HA.out hp.out, HK2.out, HB2.out⟩
          case measure => simp [intOf]; omega
        · have hp := Lib.hid (us_at (by rw [HN.out]; exact hlt) HA.out (show usP c (at_ rs k) = true from by rw [HY.out]; unfold usP; simp [h1, h2]))
          have h1' : (y.ca == c) = true := by simpa using h1
          have h2' : (c == 0) = false := by simpa using h2
          have h2'' : (c != 0) = true := by simpa using h2
          have hxy : y = x := by rw [← HX.out, hp.out.2, HY.out]
          have hoo : ok = true := by rw [← HO.out, hp.out.1]
          subst hxy hoo
          obtain ⟨⟨p0, p1, p2, p3, p4, p5⟩, f0, f1, f2, f3, f4, f5⟩ := blk_cells HK2.out
          have hz2 := HK2.out.lt
          have HP := Lib.hid (blk_all HK2.out y)
          obtain ⟨⟨r0, r1, r2, r3, r4, r5⟩, -⟩ := blk_cells HP.out.1
          clear h1 h2
          go_upto_region 5 with (fail)
          obtain ⟨⟨e0, e1, e2, e3, e4, e5⟩, -⟩ := blk_cells (Blk.new wr 37 #[.int .i64 y.id, .string y.nm, .string y.cl, .int .i64 y.bo, .bool y.wo, .int .i64 y.ca])
          generalize wr.alloc (.cells #[.int .i64 y.id, .string y.nm, .string y.cl, .int .i64 y.bo, .bool y.wo, .int .i64 y.ca] 37) = wz at *
          go_wp2
          refine bodyPost_ret (v := .tuple #[.agg #[.int .i64 y.id, .string y.nm, .string y.cl, .int .i64 y.bo, .bool y.wo, .int .i64 y.ca], .bool true]) (by simp [results, Try.results46, go_sem, r0, r1, r2, r3, r4, r5]) rfl ⟨rfl, HB2.out.trans (HP.out.2 _ (Nat.le_refl _))⟩
      · have hp := Lib.hid (show usP c (at_ rs k) = false from by rw [HY.out]; unfold usP; simp [h1])
        have h1' : (y.ca == c) = false := by simpa using h1
        clear h1
        go_wp2
        go_roundw
        case rel => exact ⟨k + 1, by omega, by go_num, all_succ (p := fun j => usP c (at_ rs j) = false) HA.out hp.out, HK2.out, HB2.out⟩
        case measure => simp [intOf]; omega
    · obtain rfl : k = n := by omega
      have hp := Lib.hid (us_no (rs := rs) (c := c) (by rw [HN.out]; exact HA.out))
      have hxy : no = x := by rw [← HX.out, hp.out.2]
      have hoo : ok = false := by rw [← HO.out, hp.out.1]
      subst hxy hoo
      obtain ⟨⟨p0, p1, p2, p3, p4, p5⟩, f0, f1, f2, f3, f4, f5⟩ := blk_cells HK.out
      have HP := Lib.hid (blk_all HK.out no)
      obtain ⟨⟨r0, r1, r2, r3, r4, r5⟩, -⟩ := blk_cells HP.out.1
      simp only [no] at r0 r1 r2 r3 r4 r5
      go_wp2
      refine bodyPost_ret (v := .tuple #[.agg #[.int .i64 no.id, .string no.nm, .string no.cl, .int .i64 no.bo, .bool no.wo, .int .i64 no.ca], .bool false]) (by simp [results, Try.results46, go_sem, no, r0, r1, r2, r3, r4, r5]) rfl ⟨rfl, HB.out.trans (HP.out.2 _ (Nat.le_refl _))⟩

end Go.Proofs.Ytleoljnofdajfaa.RuU
