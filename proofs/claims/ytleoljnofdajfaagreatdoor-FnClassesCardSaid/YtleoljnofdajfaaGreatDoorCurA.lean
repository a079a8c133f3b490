/- The drawing of inputs: one of some numbers or texts that the call has just laid. -/
import Derived.Test.YtleoljnofdajfaaGreatDoorCurP
import Derived.Test.YtleoljnofdajfaaGreatDoorBk
namespace Go.Proofs.YtleoljnofdajfaaGreatDoor.Cur
open Go.RowKit Lb
set_option linter.unusedSimpArgs false
set_option linter.unusedVariables false

set_option maxHeartbeats 400000 in
theorem of_any (b m : Nat) (a : Option Addr) (cap : Nat) (ss : List ByteArray) (w : World) (hm : m ≤ 1152921504606846970) (hpos : 0 < ss.length) (hl : ss.length ≤ 65536) (hr : StrRow w a ss) (hne : ∀ x, a = some x → x.block ≠ b) (hok : Ok w b m) :
    Calls Tryz.prog 64 #[.pointer (some ⟨b, 0, none⟩), .slice a ss.length cap] w fun e w' => (∃ r, r < ss.length ∧ e = .returned (.string (sAt ss r))) ∧ Ok w' b (m + 2) ∧ w.grownBy w' (some b) := by
  have c1 := Lib.hid (pick_any b m ss.length w hm (by omega) (by omega) hok)
  rcases hr with hr | ⟨g, off, rfl, hc⟩
  · omega
  have HC := Lib.hid hc
  have HN := Lib.hid (hne _ rfl)
  clear hok hne hc
  go_enter Tryz.func64, Tryz.ntmps64
  go_wp2_with fail
  refine c1.out.mono ?_
  rintro e w1 ⟨⟨r, rfl, _, hr⟩, hok1, hg1⟩
  have hlt : r < ss.length := by omega
  have g1 : w1.cell? ⟨g, off + r, none⟩ = some (.string (sAt ss r)) := hg1.cell (HC.out r hlt) (fun e => HN.out (by simpa using e))
  have HG := Lib.hid hg1
  have HO := Lib.hid hok1
  clear hok1 hg1 hr
  go_wp2_with fail
  go_ret
  exact ⟨⟨r, hlt, rfl⟩, HO.out, HG.out⟩

end Go.Proofs.YtleoljnofdajfaaGreatDoor.Cur

namespace Go.Proofs.YtleoljnofdajfaaGreatDoor.Cur
open Go.RowKit Lb Bk
set_option linter.unusedSimpArgs false
set_option linter.unusedVariables false

theorem ok_belowB {w w' : World} {b m B : Nat} (h : Ok w b m) (hb : Below B w w') (hB : b < B) : Ok w' b m := by
  obtain ⟨a, n, cap, xs, p, seed, hb0, hp, hn, hs, hr, hx, hne⟩ := h
  refine ⟨a, n, cap, xs, p, seed, (hb.block b hB).trans hb0, hp, hn, hs, ?_, hx, hne⟩
  rcases hr with h0 | ⟨g, off, rfl, hc⟩
  · exact .inl h0
  · have := hne _ rfl
    exact .inr ⟨g, off, rfl, fun k hk => (hb.cell (p := ⟨g, off + k, none⟩) (by show g < B; simp at this; omega)).trans (hc k hk)⟩
theorem grown_B {w wr w2 : World} {r : Option Nat} {B : Nat} (h : w.grownBy wr r) (hB : Below B wr w2) (hw : w.heap.size ≤ B) : w.grownBy w2 r :=
  ⟨hB.os.trans h.os, hB.tape.trans h.tape, hB.output.trans h.output, Nat.le_trans h.size hB.size, fun k hk hr => (hB.block k (Nat.lt_of_lt_of_le hk hw)).trans (h.block k hk hr)⟩
theorem sz_k {L : List ByteArray} {K : Nat} (h : ∀ x ∈ L, x.size ≤ K) (k : Nat) : (sAt L k).size ≤ K := by
  rcases Nat.lt_or_ge k L.length with hk | hk
  · have e : sAt L k = L[k] := by simp [sAt, hk]
    rw [e]; exact h _ (List.getElem_mem hk)
  · have e : sAt L k = ByteArray.empty := by simp [sAt, hk]
    rw [e]; exact Nat.zero_le _

theorem of_new (b m n K : Nat) (L : List ByteArray) (w : World) {g : Nat} (hgq : g = w.heap.size) (hm : m ≤ 1152921504606846970) (hn : L.length = n) (h0 : 0 < n) (h1 : n ≤ 65536) (hK : ∀ x ∈ L, x.size ≤ K) (hok : Ok w b m) :
    Calls Tryz.prog 64 #[.pointer (some ⟨b, 0, none⟩), .slice (some ⟨g, 0, none⟩) n n] (w.alloc (.cells (L.map Value.string).toArray 9)) fun e w' => (∃ s, e = .returned (.string s) ∧ s.size ≤ K) ∧ Ok w' b (m + 2) ∧ w.grownBy w' (some b) := by
  subst hgq
  have hl := hok.lt
  have hB : Below w.heap.size w (w.alloc (.cells (L.map Value.string).toArray 9)) := (Below.refl _ _).alloc (Nat.le_refl _) _
  have hr : StrRow (w.alloc (.cells (L.map Value.string).toArray 9)) (some ⟨w.heap.size, 0, none⟩) L := StrB.row (ss := L) (Blk.new w 9 (L.map Value.string).toArray)
  have := of_any b m (some ⟨w.heap.size, 0, none⟩) n L _ hm (by omega) (by omega) hr (fun x e => by cases e; exact fun e => absurd e (by show w.heap.size ≠ b; omega)) (hok.below hB)
  rw [hn] at this
  exact this.mono fun e w' ⟨⟨r, _, h1⟩, h2, h3⟩ => ⟨⟨_, h1, sz_k hK r⟩, h2, gtrans (gbelow hB (some b)) h3⟩

set_option maxHeartbeats 400000 in
theorem among_row (b m : Nat) (a : Option Addr) (cap : Nat) (zs : List Int) (w : World) (hm : m ≤ 1152921504606846970) (hpos : 0 < zs.length) (hl : zs.length ≤ 65536) (hr : IntRow w a zs) (hne : ∀ x, a = some x → x.block ≠ b) (hok : Ok w b m) :
    Calls Tryz.prog 34 #[.pointer (some ⟨b, 0, none⟩), .slice a zs.length cap] w fun e w' => (∃ z : Int, e = .returned (.int .i64 z) ∧ z ∈ zs) ∧ Ok w' b (m + 2) ∧ w.grownBy w' (some b) := by
  have c1 := Lib.hid (pick_any b m zs.length w hm (by omega) (by omega) hok)
  rcases hr with hr | ⟨g, off, rfl, hc⟩
  · omega
  have HC := Lib.hid hc
  have HN := Lib.hid (hne _ rfl)
  clear hok hne hc
  go_enter Tryz.func34, Tryz.ntmps34
  go_wp2_with fail
  refine c1.out.mono ?_
  rintro e w1 ⟨⟨r, rfl, _, hr⟩, hok1, hg1⟩
  have hlt : r < zs.length := by omega
  have hz := Lib.hid (show zs.getD r 0 ∈ zs from by simp [hlt])
  have g1 : w1.cell? ⟨g, off + r, none⟩ = some (.int .i64 (zs.getD r 0)) := hg1.cell (HC.out r hlt) (fun e => HN.out (by simpa using e))
  obtain ⟨z, hzz⟩ : ∃ z, zs.getD r 0 = z := ⟨_, rfl⟩
  rw [hzz] at g1 hz
  have HG := Lib.hid hg1
  have HO := Lib.hid hok1
  clear hok1 hg1 hr hzz
  go_wp2_with fail
  go_ret
  exact ⟨⟨_, rfl, hz.out⟩, HO.out, HG.out⟩
theorem among_new (b m n : Nat) (L : List Int) (w : World) {g : Nat} (hgq : g = w.heap.size) (hm : m ≤ 1152921504606846970) (hn : L.length = n) (h0 : 0 < n) (h1 : n ≤ 65536) (hok : Ok w b m) :
    Calls Tryz.prog 34 #[.pointer (some ⟨b, 0, none⟩), .slice (some ⟨g, 0, none⟩) n n] (w.alloc (.cells (L.map (Value.int .i64)).toArray 3)) fun e w' => (∃ z : Int, e = .returned (.int .i64 z) ∧ z ∈ L) ∧ Ok w' b (m + 2) ∧ w.grownBy w' (some b) := by
  subst hgq
  have hl := hok.lt
  have hB : Below w.heap.size w (w.alloc (.cells (L.map (Value.int .i64)).toArray 3)) := (Below.refl _ _).alloc (Nat.le_refl _) _
  have hr : IntRow (w.alloc (.cells (L.map (Value.int .i64)).toArray 3)) (some ⟨w.heap.size, 0, none⟩) L :=
    .inr ⟨w.heap.size, 0, rfl, fun k hk => by rw [Nat.zero_add]; exact (Blk.new w 3 (L.map (Value.int .i64)).toArray).cell k (by simp [hk])⟩
  have := among_row b m (some ⟨w.heap.size, 0, none⟩) n L _ hm (by omega) (by omega) hr (fun x e => by cases e; exact fun e => absurd e (by show w.heap.size ≠ b; omega)) (hok.below hB)
  rw [hn] at this
  exact this.mono fun e w' ⟨h1, h2, h3⟩ => ⟨h1, h2, gtrans (gbelow hB (some b)) h3⟩
end Go.Proofs.YtleoljnofdajfaaGreatDoor.Cur
