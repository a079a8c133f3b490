/- The members of a club: the model's text; the program's function value. -/
import Derived.Test.YtjngnjokbnklfaaRuE
namespace Go.Proofs.Ytjngnjokbnklfaa.RuH
open Go.RowKit Lb Bk InA Wd RuK RuI RuU RuA RuG RuC RuD RuE
open IntK (Gr)
open IntS (OwnI iInfo)
set_option linter.unusedSimpArgs false
set_option linter.unusedVariables false

/-- Whether one is of a club. -/
def ofB (c : ByteArray) (r : Ru) : Bool := r.cl.toList == c.toList
def memL (rs : List Ru) (c : ByteArray) : List Int := idsL (ofB c) rs

set_option maxHeartbeats 1000000 in
theorem of_any (r : Ru) (c : ByteArray) (bl : Nat) (w : World) (hl : w.cell? ⟨bl, 0, none⟩ = some (.string c)) :
    Calls Try.prog 99 #[.agg #[.int .i64 r.id, .string r.nm, .string r.cl, .int .i64 r.bo, .bool r.wo, .int .i64 r.ca], .pointer (some ⟨bl, 0, none⟩)] w fun e w' => e = .returned (.bool (ofB c r)) ∧ Below w.heap.size w w' := by
  have HB := Lib.hid ((Below.refl w.heap.size w).alloc (Nat.le_refl _) (.cells #[.int .i64 r.id, .string r.nm, .string r.cl, .int .i64 r.bo, .bool r.wo, .int .i64 r.ca] 70))
  obtain ⟨⟨p0, p1, p2, p3, p4, p5⟩, -⟩ := blk_cells (Blk.new w 70 #[.int .i64 r.id, .string r.nm, .string r.cl, .int .i64 r.bo, .bool r.wo, .int .i64 r.ca])
  have l0 : (w.alloc (.cells #[.int .i64 r.id, .string r.nm, .string r.cl, .int .i64 r.bo, .bool r.wo, .int .i64 r.ca] 70)).cell? ⟨bl, 0, none⟩ = some (.string c) := (((Below.refl w.heap.size w).alloc (Nat.le_refl _) (.cells #[.int .i64 r.id, .string r.nm, .string r.cl, .int .i64 r.bo, .bool r.wo, .int .i64 r.ca] 70)).cell (World.block_lt_of_cell? w _ hl)).trans hl
  clear hl
  go_enter Try.func99, Try.ntmps99
  go_wp2
  go_ret
  exact ⟨rfl, HB.out⟩

set_option maxRecDepth 20000 in
set_option maxHeartbeats 4000000 in
theorem members_any (rs : List Ru) (hl : rs.length ≤ 1048576) (c : ByteArray) (a : Option Addr) (cap : Nat) (w : World) (hr : Row w a rs) :
    Calls Try.prog 97 #[.slice a rs.length cap, .string c] w fun e w' => ∃ v, e = .returned v ∧ IntK.Own w' w.heap.size v (memL rs c) ∧ Below w.heap.size w w' := by
  obtain ⟨t0, hi0, hz0, hz1, hz2⟩ := info_parts iInfo
  have H := Lib.hid hr
  obtain ⟨zs, hzs⟩ : ∃ zs, memL rs c = zs := ⟨_, rfl⟩
  have HZ := Lib.hid hzs
  rw [hzs]
  obtain ⟨n, hn⟩ : ∃ n, rs.length = n := ⟨_, rfl⟩
  have HN := Lib.hid hn
  rw [hn] at hl ⊢
  have HS1 := Lib.hid (Gr.start w)
  clear hr hzs hn
  go_enter Try.func97, Try.ntmps97
  go_wp2_with fail
  go_loopg [6, 5] n (fun gk i v wr => ∃ k : Nat, k ≤ n ∧ gk = n - k ∧ i = .int .i64 k ∧ Gr w v (idsL (ofB c) (rs.take k)) wr)
  case atStart => exact ⟨0, Nat.zero_le _, rfl, rfl, by simpa [idsL] using HS1.out⟩
  case round =>
    clear HS1
    obtain ⟨k, hk, hgk, rfl, hS⟩ := hrel
    have HS := Lib.hid hS
    clear hS
    by_cases hlt : k < n
    · obtain ⟨b, off, rfl, k0, k1, k2, k3, k4, k5⟩ := (H.out.later HS.out.b).cells (i := k) (by rw [HN.out]; exact hlt)
      obtain ⟨y, hy⟩ : ∃ y, at_ rs k = y := ⟨_, rfl⟩
      rw [hy] at k0 k1 k2 k3 k4 k5
      have HY := Lib.hid hy
      clear hy
      cases ho : (y.cl.toList == c.toList) with
      | false =>
        have HSk := Lib.hid (ids_skip (p := ofB c) (rs := rs) (k := k) (by rw [HN.out]; exact hlt) (by rw [HY.out]; exact ho))
        go_wp2_with fail
        go_roundg (n - (k + 1))
        case measure => omega
        case rel => exact ⟨k + 1, by omega, rfl, by go_num, by rw [HSk.out]; exact HS.out⟩
      | true =>
        have HTk := Lib.hid (ids_take (p := ofB c) (rs := rs) (k := k) (by rw [HN.out]; exact hlt) (by rw [HY.out]; exact ho))
        have hml2 := ids_len (ofB c) (rs.take k)
        rw [RuA.take_len (rs := rs) (k := k) (by rw [HN.out]; omega)] at hml2
        obtain ⟨m, hm⟩ : ∃ m, (idsL (ofB c) (rs.take k)).length = m := ⟨_, rfl⟩
        rw [hm] at hml2
        have HM := Lib.hid hm
        clear hm
        have hown := HS.out.own.below ((Below.refl _ _).alloc (Nat.le_refl _) (.cells #[.int .i64 y.id] 3))
        unfold OwnI at hown
        rw [HM.out] at hown
        have HTa := Lib.hid (HS.out.alloc (.cells #[.int .i64 y.id] 3))
        have hsz := HS.out.b.size
        go_wp2_with (at_builtin; (refine wpList_append_own _ rfl (.tmp 21) (.tmp 27) 24 rfl w.heap.size 3 t0 (.int .i64 0) 1 8 Try.underlying24 hi0 hz0 hz1 hz2 rfl (by decide) _ m _ rfl hown ⟨_, 0, none⟩ 1 1 [.int .i64 y.id] rfl rfl (cell_one_new _ _ _) (by simp [Value.oneCell']) (by unfold maxLen; omega) (by omega) (by simp; omega) ?_; intro v' w3 hown3 hgr3 _; have HP3 := Lib.hid (HTa.out.put HM.out hgr3 hown3); clear hown3 hgr3))
        go_roundg (n - (k + 1))
        case measure => omega
        case rel => exact ⟨k + 1, by omega, rfl, by go_num, by rw [HTk.out, HY.out]; exact HP3.out⟩
    · obtain rfl : k = n := by omega
      have hq : Gr w u5 zs wr := by
        have h := HS.out
        rw [List.take_of_length_le (by rw [HN.out]; exact Nat.le_refl _)] at h
        rw [← HZ.out]
        exact h
      have HQ := Lib.hid hq
      clear hq
      go_wp2_with fail
      go_ret
      exact ⟨_, rfl, HQ.out.own, HQ.out.b⟩

/-- What ClubMembers answers. -/
def cmL (rs : List Ru) (c : ByteArray) : List Int := if goodB rs then memL rs c else []
theorem cm_len (rs : List Ru) (c : ByteArray) : (cmL rs c).length ≤ rs.length := by
  unfold cmL
  split
  · exact ids_len _ _
  · exact Nat.zero_le _

set_option maxRecDepth 20000 in
set_option maxHeartbeats 4000000 in
theorem spec_any (rs : List Ru) (hf : ∀ i, i < rs.length → Is (at_ rs i)) (hl : rs.length ≤ 1048576) (c : ByteArray) (a : Option Addr) (cap : Nat) (w : World) (hr : Row w a rs) :
    Calls Try.prog 49 #[.slice a rs.length cap, .string c] w (NPost w (cmL rs c) (goodB rs)) := by
  have H := Lib.hid hr
  have hml : rs.length ≤ maxLen := by unfold maxLen; omega
  obtain ⟨g, hg⟩ : ∃ g, goodB rs = g := ⟨_, rfl⟩
  have c1 := Lib.hid (fun w hr => hg ▸ good_any a cap rs w hr hf hml)
  have c2 := Lib.hid (fun w hr => members_any rs hl c a cap w hr)
  have HG := Lib.hid hg
  obtain ⟨zs, hzs⟩ : ∃ zs, cmL rs c = zs := ⟨_, rfl⟩
  have HX := Lib.hid hzs
  rw [hg, hzs]
  clear hr hg hf hzs
  go_enter Try.func49, Try.ntmps49
  go_wp2_with fail
  refine (c1.out _ H.out).mono ?_
  rintro e w1 ⟨rfl, hb⟩
  have HB1 := Lib.hid hb
  clear hb
  cases g with
  | false =>
    have hz : zs = [] := by rw [← HX.out]; unfold cmL; rw [HG.out]; rfl
    subst hz
    go_wp2
    go_ret2
    exact ⟨_, rfl, own_none w1 w.heap.size HB1.out.size, HB1.out.alloc HB1.out.size _⟩
  | true =>
    have hz : memL rs c = zs := by rw [← HX.out]; unfold cmL; rw [HG.out]; rfl
    rw [hz] at c2
    clear hz
    go_wp2_with fail
    refine (c2.out _ (H.out.later HB1.out)).mono ?_
    rintro e w2 ⟨v, rfl, ho, hb⟩
    have HO := Lib.hid ho
    have HB2 := Lib.hid (HB1.out.trans (hb.mono HB1.out.size))
    clear ho hb
    go_wp2
    go_ret2
    exact ⟨_, rfl, IntS.rebase HO.out HB1.out.size, HB2.out⟩

end Go.Proofs.Ytjngnjokbnklfaa.RuH
