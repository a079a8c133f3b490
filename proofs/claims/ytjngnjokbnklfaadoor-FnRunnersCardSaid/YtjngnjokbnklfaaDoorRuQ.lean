/- RunnerText: the program's text. -/
import Derived.Test.YtjngnjokbnklfaaDoorRuT
import Derived.Test.YtjngnjokbnklfaaDoorJoinM
import Derived.Test.YtjngnjokbnklfaaDoorShelf
import Derived.Deep.MidRow
import Derived.Deep.AppendLies
import Derived.RegionTactic
import Derived.Deep.RegionHeld3
import Derived.Maps.AppendAt
namespace Go.Proofs.YtjngnjokbnklfaaDoor.RuQ
open Go.RowKit Lb Bk InA Wd RuK RuI Fmt RuT
set_option linter.unusedSimpArgs false
set_option linter.unusedVariables false

theorem sInfo : (Tryd.prog.info? 9).map (fun i => (i.zero, i.size, i.bytes)) = some (some (.string ⟨#[]⟩), 1, 16) := by kernel_rfl
theorem gPow : Tryd.prog.globalNamed "internal/strconv.uint64pow10" = some 0 := by kernel_rfl
theorem var_lt {w : World} {n : String} {g : Nat} {cs : Array Value} (hg : Tryd.prog.globalNamed n = some g) (h : w.var? Tryd.prog n = some cs) : g < w.heap.size := by
  unfold World.var? at h
  simp only [hg, Option.bind_some] at h
  by_cases hl : g < w.heap.size
  · exact hl
  · rw [Array.getElem?_eq_none (by omega)] at h
    simp at h
theorem tab_below {w w' : World} (h : Tab w) (hb : Below w.heap.size w w') : Tab w' := var?_below hb gPow (var_lt gPow h) h

theorem itoa_b (n : Int) (h0 : -999999 ≤ n) (h1 : n ≤ 999999) (w : World) (ht : Tab w) : Calls Tryd.prog 26 #[.int .i64 n] w fun e w' => e = .returned (.string (fmtB n)) ∧ Below w.heap.size w w' := by
  refine (Tryd.strconv_Itoa n (by omega) (by omega) w ht).mono ?_
  rintro e w1 ⟨rfl, m, os, rfl⟩
  refine ⟨rfl, rfl, rfl, rfl, ?_, ?_⟩
  · show w.heap.size ≤ (w.heap ++ os).size
    simp
  · intro k hk
    show (w.heap ++ os)[k]? = _
    rw [Array.getElem?_append_left hk]

def ws (r : Ru) (sx : ByteArray) : List ByteArray := [fmtB r.id, r.nm, ⟨#[111, 102]⟩, r.cl, fmtB r.bo, sx]
/-- What stands behind the words. -/
structure Wd6 (w : World) (r : Ru) (sx : ByteArray) (B : Nat) (wx : World) : Prop where
  b : Below w.heap.size w wx
  box : Blk wx w.heap.size 25 #[.int .i64 r.id, .string r.nm, .string r.cl, .int .i64 r.bo, .bool r.wo, .int .i64 r.ca]
  tab : Tab wx
  words : StrB wx B (ws r sx)
  lo : w.heap.size ≤ B
theorem Wd6.later {w : World} {r : Ru} {sx : ByteArray} {B : Nat} {wx w' : World} (h : Wd6 w r sx B wx) (hb : Below wx.heap.size wx w') : Wd6 w r sx B w' :=
  ⟨h.b.trans (hb.mono h.b.size), h.box.later hb, tab_below h.tab hb, StrB.later h.words hb, h.lo⟩
theorem Wd6.owns {w : World} {r : Ru} {sx : ByteArray} {B : Nat} {wx : World} (h : Wd6 w r sx B wx) : wx.ownsRow w.heap.size 9 1 (.slice (some ⟨B, 0, none⟩) 6 6) 6 ((ws r sx).map Value.string) := StrB.own h.words h.lo (by unfold maxLen ws; simp)
theorem str_read {w : World} {B : Nat} {ss : List ByteArray} (h : StrB w B ss) : (∀ (j : Nat) x, ss[j]? = some x → w.cell? ⟨B, 0 + j, none⟩ = some (.string x)) ∧ B < w.heap.size :=
  ⟨fun j x hj => by rw [Nat.zero_add]; exact Blk.cell h j (by simp [hj]), Blk.lt h⟩
theorem join_size (ss : List ByteArray) (sep : List UInt8) : (Lib.join (ss.map (·.data.toList)) sep).length = (⟨(Lib.join (ss.map (·.data.toList)) sep).toArray⟩ : ByteArray).size := by simp [ByteArray.size]
theorem own_read {w : World} {base n : Nat} {v : Value} {ss : List ByteArray} (h : w.ownsRow base 9 1 v n (ss.map Value.string)) (hn : ss.length = n) (hp : 0 < n) :
    ∃ g cap, v = .slice (some ⟨g, 0, none⟩) n cap ∧ ((∀ (j : Nat) x, ss[j]? = some x → w.cell? ⟨g, 0 + j, none⟩ = some (.string x)) ∧ g < w.heap.size) ∧ n ≤ cap := by
  have h' := h
  rcases h.2 with ⟨_, h0⟩ | ⟨g, cap, cur, rfl, hb, _, hle, _⟩
  · omega
  · refine ⟨g, cap, rfl, ⟨fun j x hj => ?_, (h'.lt g rfl).2⟩, hle⟩
    have hjl := (List.getElem?_eq_some_iff.1 hj).1
    rw [Nat.zero_add, h'.cellAt j (by omega)]
    simp [hj]
theorem join6 (r : Ru) (sx : ByteArray) (h : (if r.wo then ⟨#[32, 119]⟩ else ⟨#[32, 109]⟩) = (⟨#[32]⟩ ++ sx : ByteArray)) : jn ⟨#[32]⟩ (ws r sx) 6 = tB r := by
  have e : (⟨#[32, 111, 102, 32]⟩ : ByteArray) = ⟨#[32]⟩ ++ (⟨#[111, 102]⟩ ++ ⟨#[32]⟩) := rfl
  unfold tB tA
  rw [h, e]
  simp only [jn, ws, sAt, List.getD_cons_zero, List.getD_cons_succ, ByteArray.append_assoc]
theorem join8 (r : Ru) (sx : ByteArray) (h : jn ⟨#[32]⟩ (ws r sx) 6 = tB r) : jn ⟨#[32]⟩ (ws r sx ++ [⟨#[99, 97, 114, 100]⟩, fmtB r.ca]) 8 = tB r ++ ⟨#[32, 99, 97, 114, 100, 32]⟩ ++ fmtB r.ca := by
  have e : (⟨#[32, 99, 97, 114, 100, 32]⟩ : ByteArray) = ⟨#[32]⟩ ++ (⟨#[99, 97, 114, 100]⟩ ++ ⟨#[32]⟩) := rfl
  rw [← h, e]
  simp only [jn, ws, sAt, List.cons_append, List.nil_append, List.getD_cons_zero, List.getD_cons_succ, ByteArray.append_assoc]
theorem tB_size (r : Ru) (h : okR r = true) : (tB r).size ≤ 70 := by
  obtain ⟨hid, hnm, hcl, hbo, hca⟩ := ok_parts h
  have hn := word_size hnm
  have hc := word_size hcl
  have s1 := fmtB_size r.id (by omega) (by omega)
  have s2 := fmtB_size r.bo (by omega) (by omega)
  unfold tB tA
  simp only [ByteArray.size_append]
  have : (if r.wo then (⟨#[32, 119]⟩ : ByteArray) else ⟨#[32, 109]⟩).size = 2 := by split <;> rfl
  rw [this]
  show _ + 1 + _ + 4 + _ + 1 + _ + 2 ≤ 70
  omega

set_option maxRecDepth 100000 in
set_option maxHeartbeats 8000000 in
theorem impl_any (r : Ru) (hr : Is r) (w : World) (ht : Tab w) : Calls Tryd.prog 7 #[.agg #[.int .i64 r.id, .string r.nm, .string r.cl, .int .i64 r.bo, .bool r.wo, .int .i64 r.ca]] w fun e w' => e = .returned (.tuple #[.string (rtx r), .bool (okR r)]) ∧ Below w.heap.size w w' := by
  have hB0 := (Below.refl w.heap.size w).alloc (Nat.le_refl _) (.cells #[.int .i64 r.id, .string r.nm, .string r.cl, .int .i64 r.bo, .bool r.wo, .int .i64 r.ca] 25)
  have HB := Lib.hid hB0
  have HT := Lib.hid (tab_below ht hB0)
  have HK := Lib.hid (Blk.new w 25 #[.int .i64 r.id, .string r.nm, .string r.cl, .int .i64 r.bo, .bool r.wo, .int .i64 r.ca])
  obtain ⟨⟨p0, p1, p2, p3, p4, p5⟩, -⟩ := blk_cells HK.out
  cases hok : okR r with
  | false =>
    have c1 := Lib.hid (show ∀ w, Calls Tryd.prog 9 #[.agg #[.int .i64 r.id, .string r.nm, .string r.cl, .int .i64 r.bo, .bool r.wo, .int .i64 r.ca]] w fun e w' => e = .returned (.bool false) ∧ Below w.heap.size w w' from fun w => by have := RuI.impl_any r hr w; rw [hok] at this; exact this)
    have HX := Lib.hid (show rtx r = ⟨#[]⟩ from by unfold rtx; rw [hok]; rfl)
    clear hok hr ht hB0
    go_enter Tryd.func7, Tryd.ntmps7
    go_wp2_with fail
    refine (c1.out _).mono ?_
    rintro e w1 ⟨rfl, hb⟩
    have HB1 := Lib.hid (HB.out.trans (hb.mono (by simp)))
    clear hb
    go_wp2
    go_ret2
    exact ⟨by rw [HX.out]; rfl, HB1.out⟩
  | true =>
    have c1 := Lib.hid (show ∀ w, Calls Tryd.prog 9 #[.agg #[.int .i64 r.id, .string r.nm, .string r.cl, .int .i64 r.bo, .bool r.wo, .int .i64 r.ca]] w fun e w' => e = .returned (.bool true) ∧ Below w.heap.size w w' from fun w => by have := RuI.impl_any r hr w; rw [hok] at this; exact this)
    have HR := Lib.hid (show rtx r = txR r from by unfold rtx; rw [hok]; rfl)
    obtain ⟨hid, hnm, hcl, hbo, hca⟩ := ok_parts hok
    obtain ⟨hid1, hid2⟩ := hid
    obtain ⟨hbo1, hbo2⟩ := hbo
    obtain ⟨hca1, hca2⟩ := hca
    obtain ⟨wo, hwo⟩ : ∃ wo, r.wo = wo := ⟨_, rfl⟩
    have HWO := Lib.hid hwo
    clear hr ht hB0 hnm hcl hwo
    go_enter Tryd.func7, Tryd.ntmps7
    go_wp2_with fail
    refine (c1.out _).mono ?_
    rintro e w1 ⟨rfl, hb⟩
    have HB1 := Lib.hid (HB.out.trans (hb.mono (by simp)))
    have HK1 := Lib.hid (HK.out.later hb)
    have HT1 := Lib.hid (tab_below HT.out hb)
    clear hb HB HK HT p0 p1 p2 p3 p4 p5
    obtain ⟨⟨p0, p1, p2, p3, p4, p5⟩, -⟩ := blk_cells HK1.out
    rw [HWO.out] at p4
    cases wo with
    | true =>
      go_upto_region 6 with (fail)
      have HBd := Lib.hid (show Below w.heap.size w w1.drew from HB1.out.drew)
      have HKd := Lib.hid (show Blk w1.drew w.heap.size 25 #[.int .i64 r.id, .string r.nm, .string r.cl, .int .i64 r.bo, .bool r.wo, .int .i64 r.ca] from HK1.out)
      have HTd := Lib.hid (show Tab w1.drew from tab_below HT1.out (Below.refl _ _).drew)
      go_cut [5] from 11 to 23 (fun s wx => ∃ B, s = .slice (some ⟨B, 0, none⟩) 6 6 ∧ Wd6 w r ⟨#[119]⟩ B wx)
      case first =>
        refine wp_region_noPanic ?_
        refine wp_region_held_drew (S := (fun Wx : World => Wx.cell? ⟨w.heap.size, 0, none⟩ = some (.int .i64 r.id) ∧ Wx.cell? ⟨w.heap.size, 1, none⟩ = some (.string r.nm) ∧ Wx.cell? ⟨w.heap.size, 2, none⟩ = some (.string r.cl) ∧ Wx.cell? ⟨w.heap.size, 3, none⟩ = some (.int .i64 r.bo))) (by kernel_rfl) ⟨p0, p1, p2, p3⟩ (fun hHeld => ?_)
        refine wpAnyH_take (i := 0) (oi := _) (v := ?_) rfl (by kernel_rfl) (by kernel_rfl) (by kernel_rfl) (fun _ _ _ h => h) (Or.inl ⟨by rfl, ?_⟩) (by assumption) ?_; rotate_left; focus (intro W hSw; (try dsimp only at hSw); go_simp; (first | done | with_reducible rfl))
        (try simp only [List.getElem_toArray, List.getElem_cons_succ, List.getElem_cons_zero, Act.put, List.setIfInBounds_toArray, List.set_cons_zero, List.set_cons_succ])
        refine wpAnyH_take (i := 1) (oi := _) (v := ?_) rfl (by kernel_rfl) (by kernel_rfl) (by kernel_rfl) (fun _ _ _ h => h) (Or.inl ⟨by rfl, ?_⟩) (by assumption) ?_; rotate_left; focus (intro W hSw; (try dsimp only at hSw); go_simp; (first | done | with_reducible rfl))
        (try simp only [List.getElem_toArray, List.getElem_cons_succ, List.getElem_cons_zero, Act.put, List.setIfInBounds_toArray, List.set_cons_zero, List.set_cons_succ])
        refine wpAnyH_take (i := 3) (oi := _) (v := ?_) rfl (by kernel_rfl) (by kernel_rfl) (by kernel_rfl) (fun _ _ _ h => h) (Or.inl ⟨by rfl, ?_⟩) (by assumption) ?_; rotate_left; focus (intro W hSw; (try dsimp only at hSw); go_simp; (first | done | with_reducible rfl))
        (try simp only [List.getElem_toArray, List.getElem_cons_succ, List.getElem_cons_zero, Act.put, List.setIfInBounds_toArray, List.set_cons_zero, List.set_cons_succ])
        refine wpAnyH_take (i := 4) (oi := _) (v := ?_) rfl (by kernel_rfl) (by kernel_rfl) (by kernel_rfl) (fun _ _ _ h => h) (Or.inl ⟨by rfl, ?_⟩) (by assumption) ?_; rotate_left; focus (intro W hSw; (try dsimp only at hSw); go_simp; (first | done | with_reducible rfl))
        (try simp only [List.getElem_toArray, List.getElem_cons_succ, List.getElem_cons_zero, Act.put, List.setIfInBounds_toArray, List.set_cons_zero, List.set_cons_succ])
        refine wpAnyH_take (i := 5) (oi := _) (v := ?_) rfl (by kernel_rfl) (by kernel_rfl) (by kernel_rfl) (fun _ _ _ h => h) (Or.inl ⟨by rfl, ?_⟩) (by assumption) ?_; rotate_left; focus (intro W hSw; (try dsimp only at hSw); go_simp; (first | done | with_reducible rfl))
        (try simp only [List.getElem_toArray, List.getElem_cons_succ, List.getElem_cons_zero, Act.put, List.setIfInBounds_toArray, List.set_cons_zero, List.set_cons_succ])
        refine wpAnyH_take (i := 6) (oi := _) (v := ?_) rfl (by kernel_rfl) (by kernel_rfl) (by kernel_rfl) (fun _ _ _ h => h) (Or.inl ⟨by rfl, ?_⟩) (by assumption) ?_; rotate_left; focus (intro W hSw; (try dsimp only at hSw); go_simp; (first | done | with_reducible rfl))
        (try simp only [List.getElem_toArray, List.getElem_cons_succ, List.getElem_cons_zero, Act.put, List.setIfInBounds_toArray, List.set_cons_zero, List.set_cons_succ])
        refine wpAnyH_take (i := 7) (oi := _) (v := ?_) rfl (by kernel_rfl) (by kernel_rfl) (by kernel_rfl) (fun _ _ _ h => h) (Or.inl ⟨by rfl, ?_⟩) (by assumption) ?_; rotate_left; focus (intro W hSw; (try dsimp only at hSw); go_simp; (first | done | with_reducible rfl))
        (try simp only [List.getElem_toArray, List.getElem_cons_succ, List.getElem_cons_zero, Act.put, List.setIfInBounds_toArray, List.set_cons_zero, List.set_cons_succ])
        refine wpAnyH_take (i := 8) (oi := _) (v := ?_) rfl (by kernel_rfl) (by kernel_rfl) (by kernel_rfl) (fun _ _ _ h => h) (Or.inl ⟨by rfl, ?_⟩) (by assumption) ?_; rotate_left; focus (intro W hSw; (try dsimp only at hSw); go_simp; (first | done | with_reducible rfl))
        (try simp only [List.getElem_toArray, List.getElem_cons_succ, List.getElem_cons_zero, Act.put, List.setIfInBounds_toArray, List.set_cons_zero, List.set_cons_succ])
        refine wpAnyH_take (i := 10) (oi := _) (v := ?_) rfl (by kernel_rfl) (by kernel_rfl) (by kernel_rfl) (fun _ _ _ h => h) (Or.inl ⟨by rfl, ?_⟩) (by assumption) ?_; rotate_left; focus (intro W hSw; (try dsimp only at hSw); go_simp; (first | done | with_reducible rfl))
        (try simp only [List.getElem_toArray, List.getElem_cons_succ, List.getElem_cons_zero, Act.put, List.setIfInBounds_toArray, List.set_cons_zero, List.set_cons_succ])
        refine wpAnyH_ready (rs := [2]) (by kernel_rfl) (by simp) ?_
        refine AllReadyH.cons (o := _) rfl (fun K hK => ?_) AllReadyH.nil
        go_simp
        go_at_call 26
        refine (itoa_b r.id (by omega) (by omega) _ HTd.out).mono ?_
        rintro e wa ⟨rfl, hb⟩
        have HBwa := Lib.hid (HBd.out.trans (hb.mono HBd.out.size))
        have HKwa := Lib.hid (HKd.out.later hb)
        have HTwa := Lib.hid (tab_below HTd.out hb)
        have hS : (wa.cell? ⟨w.heap.size, 0, none⟩ = some (.int .i64 r.id) ∧ wa.cell? ⟨w.heap.size, 1, none⟩ = some (.string r.nm) ∧ wa.cell? ⟨w.heap.size, 2, none⟩ = some (.string r.cl) ∧ wa.cell? ⟨w.heap.size, 3, none⟩ = some (.int .i64 r.bo)) := by
          obtain ⟨⟨a0, a1, a2, a3, -, -⟩, -⟩ := blk_cells HKwa.out
          exact ⟨a0, a1, a2, a3⟩
        clear hb
        go_wp2_with fail
        refine hK.out _ _ hS (fun _ => ?_)
        clear hK K hS
        clear hHeld
        refine wpAnyH_ready (rs := [9]) (by kernel_rfl) (by simp) ?_
        refine AllReadyH.cons (o := _) rfl (fun K hK => ?_) AllReadyH.nil
        go_simp
        go_at_call 26
        refine (itoa_b r.bo (by omega) (by omega) _ HTwa.out).mono ?_
        rintro e wb ⟨rfl, hb⟩
        have HBwb := Lib.hid (HBwa.out.trans (hb.mono HBwa.out.size))
        have HKwb := Lib.hid (HKwa.out.later hb)
        have HTwb := Lib.hid (tab_below HTwa.out hb)
        have hS : (wb.cell? ⟨w.heap.size, 0, none⟩ = some (.int .i64 r.id) ∧ wb.cell? ⟨w.heap.size, 1, none⟩ = some (.string r.nm) ∧ wb.cell? ⟨w.heap.size, 2, none⟩ = some (.string r.cl) ∧ wb.cell? ⟨w.heap.size, 3, none⟩ = some (.int .i64 r.bo)) := by
          obtain ⟨⟨a0, a1, a2, a3, -, -⟩, -⟩ := blk_cells HKwb.out
          exact ⟨a0, a1, a2, a3⟩
        clear hb
        go_wp2_with fail
        refine hK.out _ _ hS (fun _ => ?_)
        clear hK K hS
        refine wpAnyH_ready (rs := [11]) (by kernel_rfl) (by simp) ?_
        refine AllReadyH.cons (o := _) rfl (fun K hK => ?_) AllReadyH.nil
        go_simp
        have HBz := Lib.hid (HBwb.out.alloc HBwb.out.size (.cells #[.string (fmtB r.id), .string r.nm, .string ⟨#[111, 102]⟩, .string r.cl, .string (fmtB r.bo), .string ⟨#[119]⟩] 9))
        have HKz := Lib.hid (HKwb.out.alloc (.cells #[.string (fmtB r.id), .string r.nm, .string ⟨#[111, 102]⟩, .string r.cl, .string (fmtB r.bo), .string ⟨#[119]⟩] 9))
        have hS : ((wb.alloc (.cells #[.string (fmtB r.id), .string r.nm, .string ⟨#[111, 102]⟩, .string r.cl, .string (fmtB r.bo), .string ⟨#[119]⟩] 9)).cell? ⟨w.heap.size, 0, none⟩ = some (.int .i64 r.id) ∧ (wb.alloc (.cells #[.string (fmtB r.id), .string r.nm, .string ⟨#[111, 102]⟩, .string r.cl, .string (fmtB r.bo), .string ⟨#[119]⟩] 9)).cell? ⟨w.heap.size, 1, none⟩ = some (.string r.nm) ∧ (wb.alloc (.cells #[.string (fmtB r.id), .string r.nm, .string ⟨#[111, 102]⟩, .string r.cl, .string (fmtB r.bo), .string ⟨#[119]⟩] 9)).cell? ⟨w.heap.size, 2, none⟩ = some (.string r.cl) ∧ (wb.alloc (.cells #[.string (fmtB r.id), .string r.nm, .string ⟨#[111, 102]⟩, .string r.cl, .string (fmtB r.bo), .string ⟨#[119]⟩] 9)).cell? ⟨w.heap.size, 3, none⟩ = some (.int .i64 r.bo)) := by
          obtain ⟨⟨a0, a1, a2, a3, -, -⟩, -⟩ := blk_cells HKz.out
          exact ⟨a0, a1, a2, a3⟩
        refine hK.out _ _ hS (fun _ => ?_)
        clear hK K hS
        refine wpAnyH_take (i := 12) (oi := _) (v := ?_) rfl (by kernel_rfl) (by kernel_rfl) (by kernel_rfl) (fun _ _ _ h => h) (Or.inl ⟨by rfl, ?_⟩) (by assumption) ?_; rotate_left; focus (intro W hSw; (try dsimp only at hSw); go_simp; (first | done | with_reducible rfl))
        (try simp only [List.getElem_toArray, List.getElem_cons_succ, List.getElem_cons_zero, Act.put, List.setIfInBounds_toArray, List.set_cons_zero, List.set_cons_succ])
        refine wpAnyH_done (by kernel_rfl) ?_ _
        refine NoPanic.normal ?_
        (try simp only [List.getElem_toArray, List.getElem_cons_succ, List.getElem_cons_zero, Act.put, List.setIfInBounds_toArray, List.set_cons_zero, List.set_cons_succ])
        go_wp2
        go_meet
        exact ⟨_, rfl, ⟨HBz.out, HKz.out, tab_below HTwb.out ((Below.refl _ _).alloc (Nat.le_refl _) _), Blk.new _ _ _, HBwb.out.size⟩⟩
      case rest =>
      obtain ⟨B, rfl, hW⟩ := hcut
      have HW := Lib.hid hW
      clear hW HB1 HK1 HT1 p0 p1 p2 p3 p4 p5
      obtain ⟨⟨p0, p1, p2, p3, p4, p5⟩, -⟩ := blk_cells HW.out.box
      have hTx := Lib.hid (join6 r ⟨#[119]⟩ (show (if r.wo then ⟨#[32, 119]⟩ else ⟨#[32, 109]⟩) = (⟨#[32]⟩ ++ ⟨#[119]⟩ : ByteArray) from by rw [HWO.out]; rfl))
      have hTz := tB_size r hok
      by_cases h0 : r.ca = 0
      · have h0' : (r.ca == 0) = true := by simpa using h0
        have h0'' : (r.ca != 0) = false := by simpa using h0
        have HX := Lib.hid (show txR r = tB r from by unfold txR; rw [if_pos h0])
        have hrd := str_read HW.out.words
        clear h0
        have HJ := Lib.hid (show (⟨(Lib.join ((ws r ⟨#[119]⟩).map (·.data.toList)) (⟨#[32]⟩ : ByteArray).data.toList).toArray⟩ : ByteArray) = tB r from by rw [jn_all]; exact hTx.out)
        go_wp2_with fail
        refine (Tryd.strings_Join B 0 6 (ws r ⟨#[119]⟩) ⟨#[32]⟩ _ hrd.1 hrd.2 (by simp [ws]) (by simp [ws]) (by rw [join_size, HJ.out]; omega)).mono ?_
        rw [HJ.out]
        rintro e w9 ⟨rfl, hb⟩
        have HB9 := Lib.hid (HW.out.b.trans (hb.mono HW.out.b.size))
        clear hb
        go_wp2
        go_ret2
        exact ⟨by rw [HR.out, HX.out]; rfl, HB9.out⟩
      · have h0' : (r.ca == 0) = false := by simpa using h0
        have h0'' : (r.ca != 0) = true := by simpa using h0
        have HX := Lib.hid (show txR r = tB r ++ ⟨#[32, 99, 97, 114, 100, 32]⟩ ++ fmtB r.ca from by unfold txR; rw [if_neg h0])
        clear h0
        go_wp2_with fail
        refine (itoa_b r.ca (by omega) (by omega) _ HW.out.tab).mono ?_
        rintro e w7 ⟨rfl, hb⟩
        have HW7 := Lib.hid (HW.out.later hb)
        clear hb
        obtain ⟨t0, hi0, hz0, hz1, hz2⟩ := info_parts sInfo
        have hown := HW7.out.owns.alloc (.cells #[.string ⟨#[99, 97, 114, 100]⟩, .string (fmtB r.ca)] 9)
        have HA7 := Lib.hid (HW7.out.later ((Below.refl w7.heap.size w7).alloc (Nat.le_refl _) (.cells #[.string ⟨#[99, 97, 114, 100]⟩, .string (fmtB r.ca)] 9)))
        have hs7 := HA7.out.b.size
        go_wp2_with (at_builtin; (refine wpList_append_own _ rfl (.tmp 26) (.tmp 30) 49 rfl w.heap.size 9 t0 (.string ⟨#[]⟩) 1 16 Tryd.underlying49 hi0 hz0 hz1 hz2 rfl (by decide) _ 6 _ rfl hown ⟨w7.heap.size, 0, none⟩ 2 2 [.string ⟨#[99, 97, 114, 100]⟩, .string (fmtB r.ca)] rfl rfl (World.news_of_block (Blk.new _ _ _)) (by simp [Value.oneCell']) (by decide) (by decide) hs7 ?_; intro v' w8 hown8 hgr8 _; have HO8 := Lib.hid (show w8.ownsRow w.heap.size 9 1 v' 8 ((ws r ⟨#[119]⟩ ++ [⟨#[99, 97, 114, 100]⟩, fmtB r.ca]).map Value.string) from hown8); have HB8 := Lib.hid (HA7.out.b.grown (show World.grownBy _ w8 (some B) from hgr8) hs7 (fun q e => by cases e; exact HW.out.lo)); clear hown8 hgr8))
        obtain ⟨g8, c8, rfl, hrd, hc8⟩ := own_read HO8.out (by simp [ws]) (by decide)
        have HJ := Lib.hid (show (⟨(Lib.join ((ws r ⟨#[119]⟩ ++ [⟨#[99, 97, 114, 100]⟩, fmtB r.ca]).map (·.data.toList)) (⟨#[32]⟩ : ByteArray).data.toList).toArray⟩ : ByteArray) = txR r from by rw [jn_all, HX.out]; exact join8 r ⟨#[119]⟩ hTx.out)
        have htz : (txR r).size ≤ 100 := by
          have := fmtB_size r.ca (by omega) (by omega)
          rw [HX.out, ByteArray.size_append, ByteArray.size_append]
          show _ + 6 + _ ≤ 100
          omega
        go_wp2_with fail
        refine (Tryd.strings_Join g8 0 c8 (ws r ⟨#[119]⟩ ++ [⟨#[99, 97, 114, 100]⟩, fmtB r.ca]) ⟨#[32]⟩ _ hrd.1 hrd.2 (by simp [ws]) (by simpa [ws] using hc8) (by rw [join_size, HJ.out]; omega)).mono ?_
        rw [HJ.out]
        rintro e w9 ⟨rfl, hb⟩
        have HB9 := Lib.hid (HB8.out.trans (hb.mono HB8.out.size))
        clear hb
        go_wp2
        go_ret2
        exact ⟨by rw [HR.out]; rfl, HB9.out⟩
    | false =>
      go_upto_region 6 with (fail)
      have HBd := Lib.hid (show Below w.heap.size w w1.drew from HB1.out.drew)
      have HKd := Lib.hid (show Blk w1.drew w.heap.size 25 #[.int .i64 r.id, .string r.nm, .string r.cl, .int .i64 r.bo, .bool r.wo, .int .i64 r.ca] from HK1.out)
      have HTd := Lib.hid (show Tab w1.drew from tab_below HT1.out (Below.refl _ _).drew)
      go_cut [5] from 11 to 23 (fun s wx => ∃ B, s = .slice (some ⟨B, 0, none⟩) 6 6 ∧ Wd6 w r ⟨#[109]⟩ B wx)
      case first =>
        refine wp_region_noPanic ?_
        refine wp_region_held_drew (S := (fun Wx : World => Wx.cell? ⟨w.heap.size, 0, none⟩ = some (.int .i64 r.id) ∧ Wx.cell? ⟨w.heap.size, 1, none⟩ = some (.string r.nm) ∧ Wx.cell? ⟨w.heap.size, 2, none⟩ = some (.string r.cl) ∧ Wx.cell? ⟨w.heap.size, 3, none⟩ = some (.int .i64 r.bo))) (by kernel_rfl) ⟨p0, p1, p2, p3⟩ (fun hHeld => ?_)
        refine wpAnyH_take (i := 0) (oi := _) (v := ?_) rfl (by kernel_rfl) (by kernel_rfl) (by kernel_rfl) (fun _ _ _ h => h) (Or.inl ⟨by rfl, ?_⟩) (by assumption) ?_; rotate_left; focus (intro W hSw; (try dsimp only at hSw); go_simp; (first | done | with_reducible rfl))
        (try simp only [List.getElem_toArray, List.getElem_cons_succ, List.getElem_cons_zero, Act.put, List.setIfInBounds_toArray, List.set_cons_zero, List.set_cons_succ])
        refine wpAnyH_take (i := 1) (oi := _) (v := ?_) rfl (by kernel_rfl) (by kernel_rfl) (by kernel_rfl) (fun _ _ _ h => h) (Or.inl ⟨by rfl, ?_⟩) (by assumption) ?_; rotate_left; focus (intro W hSw; (try dsimp only at hSw); go_simp; (first | done | with_reducible rfl))
        (try simp only [List.getElem_toArray, List.getElem_cons_succ, List.getElem_cons_zero, Act.put, List.setIfInBounds_toArray, List.set_cons_zero, List.set_cons_succ])
        refine wpAnyH_take (i := 3) (oi := _) (v := ?_) rfl (by kernel_rfl) (by kernel_rfl) (by kernel_rfl) (fun _ _ _ h => h) (Or.inl ⟨by rfl, ?_⟩) (by assumption) ?_; rotate_left; focus (intro W hSw; (try dsimp only at hSw); go_simp; (first | done | with_reducible rfl))
        (try simp only [List.getElem_toArray, List.getElem_cons_succ, List.getElem_cons_zero, Act.put, List.setIfInBounds_toArray, List.set_cons_zero, List.set_cons_succ])
        refine wpAnyH_take (i := 4) (oi := _) (v := ?_) rfl (by kernel_rfl) (by kernel_rfl) (by kernel_rfl) (fun _ _ _ h => h) (Or.inl ⟨by rfl, ?_⟩) (by assumption) ?_; rotate_left; focus (intro W hSw; (try dsimp only at hSw); go_simp; (first | done | with_reducible rfl))
        (try simp only [List.getElem_toArray, List.getElem_cons_succ, List.getElem_cons_zero, Act.put, List.setIfInBounds_toArray, List.set_cons_zero, List.set_cons_succ])
        refine wpAnyH_take (i := 5) (oi := _) (v := ?_) rfl (by kernel_rfl) (by kernel_rfl) (by kernel_rfl) (fun _ _ _ h => h) (Or.inl ⟨by rfl, ?_⟩) (by assumption) ?_; rotate_left; focus (intro W hSw; (try dsimp only at hSw); go_simp; (first | done | with_reducible rfl))
        (try simp only [List.getElem_toArray, List.getElem_cons_succ, List.getElem_cons_zero, Act.put, List.setIfInBounds_toArray, List.set_cons_zero, List.set_cons_succ])
        refine wpAnyH_take (i := 6) (oi := _) (v := ?_) rfl (by kernel_rfl) (by kernel_rfl) (by kernel_rfl) (fun _ _ _ h => h) (Or.inl ⟨by rfl, ?_⟩) (by assumption) ?_; rotate_left; focus (intro W hSw; (try dsimp only at hSw); go_simp; (first | done | with_reducible rfl))
        (try simp only [List.getElem_toArray, List.getElem_cons_succ, List.getElem_cons_zero, Act.put, List.setIfInBounds_toArray, List.set_cons_zero, List.set_cons_succ])
        refine wpAnyH_take (i := 7) (oi := _) (v := ?_) rfl (by kernel_rfl) (by kernel_rfl) (by kernel_rfl) (fun _ _ _ h => h) (Or.inl ⟨by rfl, ?_⟩) (by assumption) ?_; rotate_left; focus (intro W hSw; (try dsimp only at hSw); go_simp; (first | done | with_reducible rfl))
        (try simp only [List.getElem_toArray, List.getElem_cons_succ, List.getElem_cons_zero, Act.put, List.setIfInBounds_toArray, List.set_cons_zero, List.set_cons_succ])
        refine wpAnyH_take (i := 8) (oi := _) (v := ?_) rfl (by kernel_rfl) (by kernel_rfl) (by kernel_rfl) (fun _ _ _ h => h) (Or.inl ⟨by rfl, ?_⟩) (by assumption) ?_; rotate_left; focus (intro W hSw; (try dsimp only at hSw); go_simp; (first | done | with_reducible rfl))
        (try simp only [List.getElem_toArray, List.getElem_cons_succ, List.getElem_cons_zero, Act.put, List.setIfInBounds_toArray, List.set_cons_zero, List.set_cons_succ])
        refine wpAnyH_take (i := 10) (oi := _) (v := ?_) rfl (by kernel_rfl) (by kernel_rfl) (by kernel_rfl) (fun _ _ _ h => h) (Or.inl ⟨by rfl, ?_⟩) (by assumption) ?_; rotate_left; focus (intro W hSw; (try dsimp only at hSw); go_simp; (first | done | with_reducible rfl))
        (try simp only [List.getElem_toArray, List.getElem_cons_succ, List.getElem_cons_zero, Act.put, List.setIfInBounds_toArray, List.set_cons_zero, List.set_cons_succ])
        refine wpAnyH_ready (rs := [2]) (by kernel_rfl) (by simp) ?_
        refine AllReadyH.cons (o := _) rfl (fun K hK => ?_) AllReadyH.nil
        go_simp
        go_at_call 26
        refine (itoa_b r.id (by omega) (by omega) _ HTd.out).mono ?_
        rintro e wa ⟨rfl, hb⟩
        have HBwa := Lib.hid (HBd.out.trans (hb.mono HBd.out.size))
        have HKwa := Lib.hid (HKd.out.later hb)
        have HTwa := Lib.hid (tab_below HTd.out hb)
        have hS : (wa.cell? ⟨w.heap.size, 0, none⟩ = some (.int .i64 r.id) ∧ wa.cell? ⟨w.heap.size, 1, none⟩ = some (.string r.nm) ∧ wa.cell? ⟨w.heap.size, 2, none⟩ = some (.string r.cl) ∧ wa.cell? ⟨w.heap.size, 3, none⟩ = some (.int .i64 r.bo)) := by
          obtain ⟨⟨a0, a1, a2, a3, -, -⟩, -⟩ := blk_cells HKwa.out
          exact ⟨a0, a1, a2, a3⟩
        clear hb
        go_wp2_with fail
        refine hK.out _ _ hS (fun _ => ?_)
        clear hK K hS
        clear hHeld
        refine wpAnyH_ready (rs := [9]) (by kernel_rfl) (by simp) ?_
        refine AllReadyH.cons (o := _) rfl (fun K hK => ?_) AllReadyH.nil
        go_simp
        go_at_call 26
        refine (itoa_b r.bo (by omega) (by omega) _ HTwa.out).mono ?_
        rintro e wb ⟨rfl, hb⟩
        have HBwb := Lib.hid (HBwa.out.trans (hb.mono HBwa.out.size))
        have HKwb := Lib.hid (HKwa.out.later hb)
        have HTwb := Lib.hid (tab_below HTwa.out hb)
        have hS : (wb.cell? ⟨w.heap.size, 0, none⟩ = some (.int .i64 r.id) ∧ wb.cell? ⟨w.heap.size, 1, none⟩ = some (.string r.nm) ∧ wb.cell? ⟨w.heap.size, 2, none⟩ = some (.string r.cl) ∧ wb.cell? ⟨w.heap.size, 3, none⟩ = some (.int .i64 r.bo)) := by
          obtain ⟨⟨a0, a1, a2, a3, -, -⟩, -⟩ := blk_cells HKwb.out
          exact ⟨a0, a1, a2, a3⟩
        clear hb
        go_wp2_with fail
        refine hK.out _ _ hS (fun _ => ?_)
        clear hK K hS
        refine wpAnyH_ready (rs := [11]) (by kernel_rfl) (by simp) ?_
        refine AllReadyH.cons (o := _) rfl (fun K hK => ?_) AllReadyH.nil
        go_simp
        have HBz := Lib.hid (HBwb.out.alloc HBwb.out.size (.cells #[.string (fmtB r.id), .string r.nm, .string ⟨#[111, 102]⟩, .string r.cl, .string (fmtB r.bo), .string ⟨#[109]⟩] 9))
        have HKz := Lib.hid (HKwb.out.alloc (.cells #[.string (fmtB r.id), .string r.nm, .string ⟨#[111, 102]⟩, .string r.cl, .string (fmtB r.bo), .string ⟨#[109]⟩] 9))
        have hS : ((wb.alloc (.cells #[.string (fmtB r.id), .string r.nm, .string ⟨#[111, 102]⟩, .string r.cl, .string (fmtB r.bo), .string ⟨#[109]⟩] 9)).cell? ⟨w.heap.size, 0, none⟩ = some (.int .i64 r.id) ∧ (wb.alloc (.cells #[.string (fmtB r.id), .string r.nm, .string ⟨#[111, 102]⟩, .string r.cl, .string (fmtB r.bo), .string ⟨#[109]⟩] 9)).cell? ⟨w.heap.size, 1, none⟩ = some (.string r.nm) ∧ (wb.alloc (.cells #[.string (fmtB r.id), .string r.nm, .string ⟨#[111, 102]⟩, .string r.cl, .string (fmtB r.bo), .string ⟨#[109]⟩] 9)).cell? ⟨w.heap.size, 2, none⟩ = some (.string r.cl) ∧ (wb.alloc (.cells #[.string (fmtB r.id), .string r.nm, .string ⟨#[111, 102]⟩, .string r.cl, .string (fmtB r.bo), .string ⟨#[109]⟩] 9)).cell? ⟨w.heap.size, 3, none⟩ = some (.int .i64 r.bo)) := by
          obtain ⟨⟨a0, a1, a2, a3, -, -⟩, -⟩ := blk_cells HKz.out
          exact ⟨a0, a1, a2, a3⟩
        refine hK.out _ _ hS (fun _ => ?_)
        clear hK K hS
        refine wpAnyH_take (i := 12) (oi := _) (v := ?_) rfl (by kernel_rfl) (by kernel_rfl) (by kernel_rfl) (fun _ _ _ h => h) (Or.inl ⟨by rfl, ?_⟩) (by assumption) ?_; rotate_left; focus (intro W hSw; (try dsimp only at hSw); go_simp; (first | done | with_reducible rfl))
        (try simp only [List.getElem_toArray, List.getElem_cons_succ, List.getElem_cons_zero, Act.put, List.setIfInBounds_toArray, List.set_cons_zero, List.set_cons_succ])
        refine wpAnyH_done (by kernel_rfl) ?_ _
        refine NoPanic.normal ?_
        (try simp only [List.getElem_toArray, List.getElem_cons_succ, List.getElem_cons_zero, Act.put, List.setIfInBounds_toArray, List.set_cons_zero, List.set_cons_succ])
        go_wp2
        go_meet
        exact ⟨_, rfl, ⟨HBz.out, HKz.out, tab_below HTwb.out ((Below.refl _ _).alloc (Nat.le_refl _) _), Blk.new _ _ _, HBwb.out.size⟩⟩
      case rest =>
      obtain ⟨B, rfl, hW⟩ := hcut
      have HW := Lib.hid hW
      clear hW HB1 HK1 HT1 p0 p1 p2 p3 p4 p5
      obtain ⟨⟨p0, p1, p2, p3, p4, p5⟩, -⟩ := blk_cells HW.out.box
      have hTx := Lib.hid (join6 r ⟨#[109]⟩ (show (if r.wo then ⟨#[32, 119]⟩ else ⟨#[32, 109]⟩) = (⟨#[32]⟩ ++ ⟨#[109]⟩ : ByteArray) from by rw [HWO.out]; rfl))
      have hTz := tB_size r hok
      by_cases h0 : r.ca = 0
      · have h0' : (r.ca == 0) = true := by simpa using h0
        have h0'' : (r.ca != 0) = false := by simpa using h0
        have HX := Lib.hid (show txR r = tB r from by unfold txR; rw [if_pos h0])
        have hrd := str_read HW.out.words
        clear h0
        have HJ := Lib.hid (show (⟨(Lib.join ((ws r ⟨#[109]⟩).map (·.data.toList)) (⟨#[32]⟩ : ByteArray).data.toList).toArray⟩ : ByteArray) = tB r from by rw [jn_all]; exact hTx.out)
        go_wp2_with fail
        refine (Tryd.strings_Join B 0 6 (ws r ⟨#[109]⟩) ⟨#[32]⟩ _ hrd.1 hrd.2 (by simp [ws]) (by simp [ws]) (by rw [join_size, HJ.out]; omega)).mono ?_
        rw [HJ.out]
        rintro e w9 ⟨rfl, hb⟩
        have HB9 := Lib.hid (HW.out.b.trans (hb.mono HW.out.b.size))
        clear hb
        go_wp2
        go_ret2
        exact ⟨by rw [HR.out, HX.out]; rfl, HB9.out⟩
      · have h0' : (r.ca == 0) = false := by simpa using h0
        have h0'' : (r.ca != 0) = true := by simpa using h0
        have HX := Lib.hid (show txR r = tB r ++ ⟨#[32, 99, 97, 114, 100, 32]⟩ ++ fmtB r.ca from by unfold txR; rw [if_neg h0])
        clear h0
        go_wp2_with fail
        refine (itoa_b r.ca (by omega) (by omega) _ HW.out.tab).mono ?_
        rintro e w7 ⟨rfl, hb⟩
        have HW7 := Lib.hid (HW.out.later hb)
        clear hb
        obtain ⟨t0, hi0, hz0, hz1, hz2⟩ := info_parts sInfo
        have hown := HW7.out.owns.alloc (.cells #[.string ⟨#[99, 97, 114, 100]⟩, .string (fmtB r.ca)] 9)
        have HA7 := Lib.hid (HW7.out.later ((Below.refl w7.heap.size w7).alloc (Nat.le_refl _) (.cells #[.string ⟨#[99, 97, 114, 100]⟩, .string (fmtB r.ca)] 9)))
        have hs7 := HA7.out.b.size
        go_wp2_with (at_builtin; (refine wpList_append_own _ rfl (.tmp 26) (.tmp 30) 49 rfl w.heap.size 9 t0 (.string ⟨#[]⟩) 1 16 Tryd.underlying49 hi0 hz0 hz1 hz2 rfl (by decide) _ 6 _ rfl hown ⟨w7.heap.size, 0, none⟩ 2 2 [.string ⟨#[99, 97, 114, 100]⟩, .string (fmtB r.ca)] rfl rfl (World.news_of_block (Blk.new _ _ _)) (by simp [Value.oneCell']) (by decide) (by decide) hs7 ?_; intro v' w8 hown8 hgr8 _; have HO8 := Lib.hid (show w8.ownsRow w.heap.size 9 1 v' 8 ((ws r ⟨#[109]⟩ ++ [⟨#[99, 97, 114, 100]⟩, fmtB r.ca]).map Value.string) from hown8); have HB8 := Lib.hid (HA7.out.b.grown (show World.grownBy _ w8 (some B) from hgr8) hs7 (fun q e => by cases e; exact HW.out.lo)); clear hown8 hgr8))
        obtain ⟨g8, c8, rfl, hrd, hc8⟩ := own_read HO8.out (by simp [ws]) (by decide)
        have HJ := Lib.hid (show (⟨(Lib.join ((ws r ⟨#[109]⟩ ++ [⟨#[99, 97, 114, 100]⟩, fmtB r.ca]).map (·.data.toList)) (⟨#[32]⟩ : ByteArray).data.toList).toArray⟩ : ByteArray) = txR r from by rw [jn_all, HX.out]; exact join8 r ⟨#[109]⟩ hTx.out)
        have htz : (txR r).size ≤ 100 := by
          have := fmtB_size r.ca (by omega) (by omega)
          rw [HX.out, ByteArray.size_append, ByteArray.size_append]
          show _ + 6 + _ ≤ 100
          omega
        go_wp2_with fail
        refine (Tryd.strings_Join g8 0 c8 (ws r ⟨#[109]⟩ ++ [⟨#[99, 97, 114, 100]⟩, fmtB r.ca]) ⟨#[32]⟩ _ hrd.1 hrd.2 (by simp [ws]) (by simpa [ws] using hc8) (by rw [join_size, HJ.out]; omega)).mono ?_
        rw [HJ.out]
        rintro e w9 ⟨rfl, hb⟩
        have HB9 := Lib.hid (HB8.out.trans (hb.mono HB8.out.size))
        clear hb
        go_wp2
        go_ret2
        exact ⟨by rw [HR.out]; rfl, HB9.out⟩

end Go.Proofs.YtjngnjokbnklfaaDoor.RuQ
