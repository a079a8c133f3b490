/- RunnerText: the program's text. -/
import Derived.Test.YtleoljnofdajfaaGreatDoorRuT
import Derived.Test.YtleoljnofdajfaaGreatDoorJoinM
import Derived.Test.YtleoljnofdajfaaGreatDoorShelf
import Derived.Deep.MidRow
import Derived.Deep.AppendLies
import Derived.RegionTactic
import Derived.Deep.RegionHeld3
import Derived.Maps.AppendAt
namespace Go.Proofs.YtleoljnofdajfaaGreatDoor.RuQ
open Go.RowKit Lb Bk InA Wd RuK RuI Fmt RuT
set_option linter.unusedSimpArgs false
set_option linter.unusedVariables false

theorem sInfo : (Tryz.prog.info? 9).map (fun i => (i.zero, i.size, i.bytes)) = some (some (.string ⟨#[]⟩), 1, 16) := by kernel_rfl
theorem gPow : Tryz.prog.globalNamed "internal/strconv.uint64pow10" = some 1 := by kernel_rfl
theorem var_lt {w : World} {n : String} {g : Nat} {cs : Array Value} (hg : Tryz.prog.globalNamed n = some g) (h : w.var? Tryz.prog n = some cs) : g < w.heap.size := by
  unfold World.var? at h
  simp only [hg, Option.bind_some] at h
  by_cases hl : g < w.heap.size
  · exact hl
  · rw [Array.getElem?_eq_none (by omega)] at h
    simp at h
theorem tab_below {w w' : World} (h : Tab w) (hb : Below w.heap.size w w') : Tab w' := var?_below hb gPow (var_lt gPow h) h

theorem itoa_b (n : Int) (h0 : -999999 ≤ n) (h1 : n ≤ 999999) (w : World) (ht : Tab w) : Calls Tryz.prog 23 #[.int .i64 n] w fun e w' => e = .returned (.string (fmtB n)) ∧ Below w.heap.size w w' := by
  refine (Tryz.strconv_Itoa n (by omega) (by omega) w ht).mono ?_
  rintro e w1 ⟨rfl, m, os, rfl⟩
  refine ⟨rfl, rfl, rfl, rfl, ?_, ?_⟩
  · show w.heap.size ≤ (w.heap ++ os).size
    simp
  · intro k hk
    show (w.heap ++ os)[k]? = _
    rw [Array.getElem?_append_left hk]

def ws (r : Ru) (sx : ByteArray) : List ByteArray := [fmtB r.id, r.nm, ⟨#[111, 102]⟩, r.cl, fmtB r.bo, sx]
/-- What stands behind the words. -/
structure Wd6 (w : World) (r : Ru) (sx : ByteArray) (B : Nat) (wx : World) : Prop where
  b : Below w.heap.size w wx
  box : Blk wx w.heap.size 35 #[.int .i64 r.id, .string r.nm, .string r.cl, .int .i64 r.bo, .bool r.wo, .int .i64 r.ca]
  tab : Tab wx
  words : StrB wx B (ws r sx)
  lo : w.heap.size ≤ B
theorem Wd6.later {w : World} {r : Ru} {sx : ByteArray} {B : Nat} {wx w' : World} (h : Wd6 w r sx B wx) (hb : Below wx.heap.size wx w') : Wd6 w r sx B w' :=
  ⟨h.b.trans (hb.mono h.b.size), h.box.later hb, tab_below h.tab hb, StrB.later h.words hb, h.lo⟩
theorem Wd6.owns {w : World} {r : Ru} {sx : ByteArray} {B : Nat} {wx : World} (h : Wd6 w r sx B wx) : wx.ownsRow w.heap.size 9 1 (.slice (some ⟨B, 0, none⟩) 6 6) 6 ((ws r sx).map Value.string) := StrB.own h.words h.lo (by unfold maxLen ws; simp)
theorem str_read {w : World} {B : Nat} {ss : List ByteArray} (h : StrB w B ss) : (∀ (j : Nat) x, ss[j]? = some x → w.cell? ⟨B, 0 + j, none⟩ = some (.string x)) ∧ B < w.heap.size :=
  ⟨fun j x hj => by rw [Nat.zero_add]; exact Blk.cell h j (by simp [hj]), Blk.lt h⟩
theorem join_size (ss : List ByteArray) (sep : List UInt8) : (Lib.join (ss.map (·.data.toList)) sep).length = (⟨(Lib.join (ss.map (·.data.toList)) sep).toArray⟩ : ByteArray).size := by simp [ByteArray.size]
theorem own_read {w : World} {base n : Nat} {v : Value} {ss : List ByteArray} (h : w.ownsRow base 9 1 v n (ss.map Value.string)) (hn : ss.length = n) (hp : 0 < n) :
    ∃ g cap, v = .slice (some ⟨g, 0, none⟩) n cap ∧ ((∀ (j : Nat) x, ss[j]? = some x → w.cell? ⟨g, 0 + j, none⟩ = some (.string x)) ∧ g < w.heap.size) ∧ n ≤ cap := by
  have h' := h
  rcases h.2 with ⟨_, h0⟩ | ⟨g, cap, cur, rfl, hb, _, hle, _⟩
  · omega
  · refine ⟨g, cap, rfl, ⟨fun j x hj => ?_, (h'.lt g rfl).2⟩, hle⟩
    have hjl := (List.getElem?_eq_some_iff.1 hj).1
    rw [Nat.zero_add, h'.cellAt j (by omega)]
    simp [hj]
theorem join6 (r : Ru) (sx : ByteArray) (h : (if r.wo then ⟨#[32, 119]⟩ else ⟨#[32, 109]⟩) = (⟨#[32]⟩ ++ sx : ByteArray)) : jn ⟨#[32]⟩ (ws r sx) 6 = tB r := by
  have e : (⟨#[32, 111, 102, 32]⟩ : ByteArray) = ⟨#[32]⟩ ++ (⟨#[111, 102]⟩ ++ ⟨#[32]⟩) := rfl
  unfold tB tA
  rw [h, e]
  simp only [jn, ws, sAt, List.getD_cons_zero, List.getD_cons_succ, ByteArray.append_assoc]
theorem join8 (r : Ru) (sx : ByteArray) (h : jn ⟨#[32]⟩ (ws r sx) 6 = tB r) : jn ⟨#[32]⟩ (ws r sx ++ [⟨#[99, 97, 114, 100]⟩, fmtB r.ca]) 8 = tB r ++ ⟨#[32, 99, 97, 114, 100, 32]⟩ ++ fmtB r.ca := by
  have e : (⟨#[32, 99, 97, 114, 100, 32]⟩ : ByteArray) = ⟨#[32]⟩ ++ (⟨#[99, 97, 114, 100]⟩ ++ ⟨#[32]⟩) := rfl
  rw [← h, e]
  simp only [jn, ws, sAt, List.cons_append, List.nil_append, List.getD_cons_zero, List.getD_cons_succ, ByteArray.append_assoc]
theorem tB_size (r : Ru) (h : okR r = true) : (tB r).size ≤ 70 := by
  obtain ⟨hid, hnm, hcl, hbo, hca⟩ := ok_parts h
  have hn := word_size hnm
  have hc := word_size hcl
  have s1 := fmtB_size r.id (by omega) (by omega)
  have s2 := fmtB_size r.bo (by omega) (by omega)
  unfold tB tA
  simp only [ByteArray.size_append]
  have : (if r.wo then (⟨#[32, 119]⟩ : ByteArray) else ⟨#[32, 109]⟩).size = 2 := by split <;> rfl
  rw [this]
  show _ + 1 + _ + 4 + _ + 1 + _ + 2 ≤ 70
  omega

end Go.Proofs.YtleoljnofdajfaaGreatDoor.RuQ
