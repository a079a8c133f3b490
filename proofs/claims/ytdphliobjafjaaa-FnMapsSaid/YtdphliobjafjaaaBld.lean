/- strings.Builder, made and written by the call itself: contracts over this program. -/
import Derived.Test.YtdphliobjafjaaaProg
import Derived.Test.YtdphliobjafjaaaShelf
import Derived.Test.YtdphliobjafjaaaSpecB
import Derived.Lib.Builder
namespace Go.Proofs.Ytdphliobjafjaaa.Bld
open Go.RowKit Lb IntS MapS
set_option linter.unusedSimpArgs false
set_option linter.unusedVariables false

theorem pInfo : ∃ j, Try.prog.info? 65 = some j ∧ j.size = 2 := by
  have h : (Try.prog.info? 65).map (·.size) = some 2 := by kernel_rfl
  obtain ⟨j, hj, hs⟩ := Option.map_eq_some_iff.1 h
  exact ⟨j, hj, hs⟩
theorem bInfo : (Try.prog.info? 5).map (fun i => (i.zero, i.size, i.bytes)) = some (some (.int .u8 0), 1, 1) := by kernel_rfl

set_option maxRecDepth 100000 in
set_option maxHeartbeats 1000000 in
theorem check_used (b : Nat) (w : World) (h0 : w.cell? ⟨b, 0, none⟩ = some (.pointer (some ⟨b, 0, none⟩))) :
    Calls Try.prog 86 #[.pointer (some ⟨b, 0, none⟩)] w fun e w' => e = .returned (.tuple #[]) ∧ w' = w := by
  obtain ⟨j, hj, hs⟩ := pInfo
  go_enter Try.func86, Try.ntmps86
  go_wp2
  rw [Lib.run_neq_ptr_same w _ Try.underlying63 hj]
  go_wp2
  go_end0
  exact ⟨rfl, rfl⟩

set_option maxRecDepth 100000 in
set_option maxHeartbeats 1000000 in
theorem check_fresh (b : Nat) (w : World) (h0 : w.cell? ⟨b, 0, none⟩ = some (.pointer none)) (hsh : w.shape? b = some (65, 2)) (hfz : w.frozen? ⟨b, 0, none⟩ = false) :
    Calls Try.prog 86 #[.pointer (some ⟨b, 0, none⟩)] w fun e w' => e = .returned (.tuple #[]) ∧ w' = w.setCell ⟨b, 0, none⟩ (.pointer (some ⟨b, 0, none⟩)) := by
  obtain ⟨j, hj, hs⟩ := pInfo
  go_enter Try.func86, Try.ntmps86
  go_wp2
  rw [Lib.run_to_unsafe w ⟨b, 0, none⟩ Try.underlying63 Try.underlying102 hj (by rw [hs]; decide) hsh (Nat.zero_lt_succ 1)]
  simp only [Result.andThen]
  rw [Oper.upon_value]
  go_wp2
  rw [run_callFunc_extern Try.func96 (by kernel_rfl) (by kernel_rfl) (by kernel_rfl) (e := Extern.AbiNoEscape.same) (by kernel_rfl)]
  rw [Lib.run_noEscape]
  simp only [Result.andThen]
  rw [Oper.upon_value]
  go_wp2
  rw [Lib.run_from_unsafe w ⟨b, 0, none⟩ Try.underlying102 Try.underlying63 hj hsh (by kernel_rfl)]
  simp only [Result.andThen]
  rw [Oper.upon_value]
  go_wp2
  go_end0
  exact ⟨rfl, rfl⟩

/-- What a builder is here: in block 'b', holding the bytes 'l', all its own from 'b' on. -/
def Isb (b : Nat) (l : List UInt8) (w : World) : Prop := Lib.IsBuilder 65 5 b b (Lib.byteCells l) w

theorem check_any (b : Nat) (l : List UInt8) (w : World) (h : Isb b l w) :
    Calls Try.prog 86 #[.pointer (some ⟨b, 0, none⟩)] w fun e w' => e = .returned (.tuple #[]) ∧ Lib.BuilderAt 65 5 b b (.pointer (some ⟨b, 0, none⟩)) (Lib.byteCells l) w' ∧ Below b w w' := by
  rcases h with h | h
  · refine (check_fresh b w h.cell0 h.shape h.frozen0).mono ?_
    rintro e w' ⟨rfl, rfl⟩
    exact ⟨rfl, h.used _, (Below.refl b w).setCell (p := ⟨b, 0, none⟩) (Nat.le_refl _) _⟩
  · refine (check_used b w h.cell0).mono ?_
    rintro e w' ⟨rfl, rfl⟩
    exact ⟨rfl, h, Below.refl b _⟩

theorem byteCells_length (l : List UInt8) : (Lib.byteCells l).length = l.length := by simp [Lib.byteCells]

set_option maxRecDepth 100000 in
set_option maxHeartbeats 1000000 in
theorem byte_any (b : Nat) (l : List UInt8) (c : UInt8) (w : World) (h : Isb b l w) (hlen : l.length ≤ 1000000) (hbw : b ≤ w.heap.size) :
    Calls Try.prog 61 #[.pointer (some ⟨b, 0, none⟩), .int .u8 c.toNat] w fun e w' => e = .returned .nilIface ∧ Isb b (l ++ [c]) w' ∧ Below b w w' := by
  obtain ⟨i0, hi, hz0, hz1, hz2⟩ := info_parts bInfo
  have h63 : (Lib.byteCells l).length + 1 ≤ maxLen := by rw [byteCells_length]; unfold maxLen; omega
  have h64 : ((Lib.byteCells l).length + 1) * 1 ≤ 140737488355328 := by rw [byteCells_length]; omega
  go_enter Try.func61, Try.ntmps61
  go_wp2_with fail
  refine (check_any b l _ h).mono ?_
  rintro e w1 ⟨rfl, ⟨hB, v, hbk, hown, hne⟩, hb1⟩
  have c0 : w1.cell? ⟨b, 0, none⟩ = some (.pointer (some ⟨b, 0, none⟩)) := by rw [Lib.cell_of_heap hbk]; rfl
  have c1 : w1.cell? ⟨b, 1, none⟩ = some v := by rw [Lib.cell_of_heap hbk]; rfl
  have f1 : w1.frozen? ⟨b, 1, none⟩ = false := Lib.frozen_of_heap hbk 1
  have hsz := hb1.size
  have HB1 := Lib.hid hb1
  have HK := Lib.hid hbk
  have hlt : b < w1.heap.size := (Array.getElem?_eq_some_iff.1 hbk).1
  have hOB := Lib.hid (fun k e => (hown.lt k e))
  clear hb1 h hbk
  go_wp2_with (at_builtin; (refine wpList_append_own _ rfl (.tmp 11) (.tmp 13) 22 rfl b 5 i0 (.int .u8 0) 1 1 Try.underlying22 hi hz0 hz1 hz2 rfl (by decide) _ _ _ rfl (hown.alloc _) ⟨w1.heap.size, 0, none⟩ 1 1 [.int .u8 c.toNat] rfl rfl (cell_one_new _ _ _) (by simp [Value.oneCell']) h63 h64 (by simp; omega) ?_; intro v' w2 hown' hgrow _; obtain ⟨g', cap', rfl, _, _⟩ := hown'.form (by omega); have hb2 := (hgrow.block b (by simp; omega) (fun e => hne e.symm)).trans ((Below.heap_alloc w1 (.cells #[.int .u8 c.toNat] 5) b hlt).trans HK.out); have c2 := Lib.cell_of_heap hb2 1; have f2 := Lib.frozen_of_heap hb2 1; have HK2 := Lib.hid hb2; have HG := Lib.hid hgrow; have HO := Lib.hid hown'; clear hgrow hown' hb2))
  go_ret
  have hs2 := HG.out.size
  have e1 : Lib.byteCells (l ++ [c]) = Lib.byteCells l ++ [.int .u8 c.toNat] := by simp [Lib.byteCells]
  refine ⟨rfl, .inr (Lib.BuilderAt.put hB HK2.out ?_ (by decide)), ?_⟩
  · rw [e1]
    have e2 : (Lib.byteCells l ++ [Value.int .u8 c.toNat]).length = (Lib.byteCells l).length + 1 := by simp
    rw [e2]
    exact HO.out
  · exact ((HB1.out.alloc (by omega) _).grown HG.out (by simp; omega) (fun k e => (hOB.out k e).1)).setCell (p := ⟨b, 1, none⟩) (Nat.le_refl _) _

set_option maxRecDepth 100000 in
set_option maxHeartbeats 1000000 in
theorem text_any (b : Nat) (l : List UInt8) (s : ByteArray) (w : World) (h : Isb b l w) (hlen : l.length + s.size ≤ 1000000) (hbw : b ≤ w.heap.size) :
    Calls Try.prog 60 #[.pointer (some ⟨b, 0, none⟩), .string s] w fun e w' => e = .returned (.tuple #[.int .i64 s.size, .nilIface]) ∧ Isb b (l ++ s.data.toList) w' ∧ Below b w w' := by
  obtain ⟨i0, hi, hz0, hz1, hz2⟩ := info_parts bInfo
  have h63 : (Lib.byteCells l).length + s.size ≤ maxLen := by rw [byteCells_length]; unfold maxLen; omega
  have h64 : ((Lib.byteCells l).length + s.size) * 1 ≤ 140737488355328 := by rw [byteCells_length]; omega
  go_enter Try.func60, Try.ntmps60
  go_wp2_with fail
  refine (check_any b l _ h).mono ?_
  rintro e w1 ⟨rfl, ⟨hB, v, hbk, hown, hne⟩, hb1⟩
  have c0 : w1.cell? ⟨b, 0, none⟩ = some (.pointer (some ⟨b, 0, none⟩)) := by rw [Lib.cell_of_heap hbk]; rfl
  have c1 : w1.cell? ⟨b, 1, none⟩ = some v := by rw [Lib.cell_of_heap hbk]; rfl
  have f1 : w1.frozen? ⟨b, 1, none⟩ = false := Lib.frozen_of_heap hbk 1
  have hsz := hb1.size
  have HB1 := Lib.hid hb1
  have HK := Lib.hid hbk
  have hlt : b < w1.heap.size := (Array.getElem?_eq_some_iff.1 hbk).1
  have hOB := Lib.hid (fun k e => (hown.lt k e))
  clear hb1 h hbk
  go_wp2_with (at_builtin; (refine Lib.wpList_append_own_string _ rfl (.tmp 12) (.tmp 13) 22 9 rfl b 5 i0 Try.underlying22 Try.underlying9 hi hz0 hz1 hz2 _ _ _ rfl hown s rfl h63 (by omega) (by omega) ?_; intro v' w2 hown' hgrow _; obtain ⟨g', cap', rfl⟩ : ∃ g' cap', v' = .slice g' ((Lib.byteCells l).length + s.size) cap' := (by rcases hown'.2 with ⟨hv, h0⟩ | ⟨g, cap, cur, hv, _⟩; exact ⟨none, 0, by rw [hv, h0]⟩; exact ⟨_, _, hv⟩); have hb2 := (hgrow.block b hlt (fun e => hne e.symm)).trans HK.out; have c2 := Lib.cell_of_heap hb2 1; have f2 := Lib.frozen_of_heap hb2 1; have HK2 := Lib.hid hb2; have HG := Lib.hid hgrow; have HO := Lib.hid hown'; clear hgrow hown' hb2))
  go_ret2
  have hs2 := HG.out.size
  have e1 : Lib.byteCells (l ++ s.data.toList) = Lib.byteCells l ++ Lib.strCells s := by simp [Lib.byteCells, Lib.strCells]
  refine ⟨rfl, .inr (Lib.BuilderAt.put hB HK2.out ?_ (by decide)), ?_⟩
  · rw [e1]
    have e2 : (Lib.byteCells l ++ Lib.strCells s).length = (Lib.byteCells l).length + s.size := by rw [List.length_append, Lib.strCells_length]
    rw [e2]
    exact HO.out
  · exact (HB1.out.grown HG.out (by omega) (fun k e => (hOB.out k e).1)).setCell (p := ⟨b, 1, none⟩) (Nat.le_refl _) _

theorem fresh (w : World) : Isb w.heap.size [] (w.alloc (.cells #[.pointer none, .slice none 0 0] 65)) := Lib.fresh_isBuilder _ _ _
theorem string_any (b : Nat) (l : List UInt8) (w : World) (h : Isb b l w) (hbw : b ≤ w.heap.size) :
    Calls Try.prog 62 #[.pointer (some ⟨b, 0, none⟩)] w fun e w' => e = .returned (.string ⟨l.toArray⟩) ∧ Below b w w' := by
  have := Try.Builder_String_any b b l w h hbw
  exact this

end Go.Proofs.Ytdphliobjafjaaa.Bld
