/- A feature read from its text: the model. -/
import Derived.Test.YtpfjdlaaakkimaaDoorPfI
namespace Go.Proofs.YtpfjdlaaakkimaaDoor.PfS
open Go.RowKit Lb Bk Fmt NumM TxF PfM PfC Word Rd SplC PfI
open L1S (NewStrs)
set_option linter.unusedSimpArgs false
set_option linter.unusedVariables false

def side : ByteArray := ⟨#[115, 105, 100, 101]⟩
/-- What one word does, told the word ahead of it. -/
def stepS (f : Ft) (p x : ByteArray) : Ft :=
  if p = side then ⟨f.c, f.wh, f.wt, f.lk, x⟩ else if fam x < 5 then ⟨f.c, f.wh, x, f.lk, f.sd⟩ else if x ∈ whichs then ⟨f.c, x, f.wt, f.lk, f.sd⟩ else if x ∈ looks then ⟨f.c, f.wh, f.wt, x, f.sd⟩ else f
def fkS (ws : List ByteArray) (f0 : Ft) : Nat → Ft
  | 0 => f0
  | k + 1 => stepS (fkS ws f0 k) (sAt ws k) (sAt ws (k + 1))
def f0S (ws : List ByteArray) : Ft := ⟨(val (sAt ws 0)).getD 0, ⟨#[]⟩, ⟨#[]⟩, ⟨#[]⟩, ⟨#[]⟩⟩
def canS (s : ByteArray) : Ft := fkS (parts s 32) (f0S (parts s 32)) ((parts s 32).length - 1)
def okS (s : ByteArray) : Bool := decide (s.size ≤ 60) && (okF (canS s) && decide (cod (canS s) ++ txF (canS s) = s))
def ansS (s : ByteArray) : Ft := if okS s = true then canS s else FtL.noF

theorem side_list : side.toList = [115, 105, 100, 101] := by rw [ByteArray.toList_eq]; rfl
theorem side_yes {p : ByteArray} (h : p = side) : (p.toList == [115, 105, 100, 101]) = true := by rw [h, side_list]; rfl
theorem side_no {p : ByteArray} (h : ¬ p = side) : (p.toList == [115, 105, 100, 101]) = false := by
  rw [← side_list]; exact str_beq h
theorem at_z {ss : List ByteArray} {x : ByteArray} (h : x ∈ ss) : decide (0 ≤ idxZ ss x) = true := decide_eq_true ((idxZ_iff _ _).2 h)
theorem at_n {ss : List ByteArray} {x : ByteArray} (h : ¬ x ∈ ss) : decide (0 ≤ idxZ ss x) = false := decide_eq_false (fun k => h ((idxZ_iff _ _).1 k))
theorem fam_z {x : ByteArray} (h : fam x < 5) : decide (0 ≤ famZ x) = true := decide_eq_true (by rw [famZ_yes h]; omega)
theorem fam_n {x : ByteArray} (h : ¬ fam x < 5) : decide (0 ≤ famZ x) = false := decide_eq_false (by rw [famZ_no h]; omega)
end Go.Proofs.YtpfjdlaaakkimaaDoor.PfS
namespace Go.Proofs.YtpfjdlaaakkimaaDoor.PfI
open Go.RowKit Lb Bk Word
theorem Ps.put_sd {w W : World} {r g g2 : Nat} {f : Ft} {ws : List ByteArray} (h : Ps w W r g f g2 ws) (x : ByteArray) : Ps w (W.setCell ⟨g, 4, none⟩ (.string x)) r g ⟨f.c, f.wh, f.wt, f.lk, x⟩ g2 ws := h.put 4 _ rfl
theorem Ps.drew {w W : World} {r g g2 : Nat} {f : Ft} {ws : List ByteArray} (h : Ps w W r g f g2 ws) : Ps w W.drew r g f g2 ws := ⟨h.B.drew, h.R, h.F, h.S, h.L⟩
theorem Ps.drewN {w W : World} {r g g2 : Nat} {f : Ft} {ws : List ByteArray} (h : Ps w W r g f g2 ws) (q : Nat) : Ps w (W.drewN q) r g f g2 ws := ⟨below_drewN h.B q, h.R.drewN q, h.F.drewN q, RowAt.below h.S (below_drewN (Below.refl _ _) q), h.L⟩
theorem Ps.word {w W : World} {r g g2 : Nat} {f : Ft} {ws : List ByteArray} (h : Ps w W r g f g2 ws) {k : Nat} {x : ByteArray} (e : sAt ws k = x) (hk : k < ws.length) : W.cell? ⟨g2, k, none⟩ = some (.string x) := by rw [← e]; exact row_at h.S k hk
theorem Ps.five5 {w W : World} {r g g2 : Nat} {f : Ft} {ws : List ByteArray} (h : Ps w W r g f g2 ws) : W.cell? ⟨g, 0, none⟩ = some (.int .i64 f.c) ∧ W.cell? ⟨g, 1, none⟩ = some (.string f.wh) ∧ W.cell? ⟨g, 2, none⟩ = some (.string f.wt) ∧ W.cell? ⟨g, 3, none⟩ = some (.string f.lk) ∧ W.cell? ⟨g, 4, none⟩ = some (.string f.sd) :=
  ⟨h.F.cell 0 rfl, h.F.cell 1 rfl, h.F.cell 2 rfl, h.F.cell 3 rfl, h.F.cell 4 rfl⟩

end Go.Proofs.YtpfjdlaaakkimaaDoor.PfI
namespace Go.Proofs.YtpfjdlaaakkimaaDoor.PfS
open Go.RowKit Lb Bk Fmt NumM TxF PfM PfC Word Rd SplC PfI
open L1S (NewStrs)

set_option maxHeartbeats 8000000 in
theorem spec_any (s : ByteArray) (hs : s.size ≤ 1048576) (w : World) :
    Calls Tryd.prog 15 #[.string s] w fun e w' => e = .returned (.tuple #[.agg #[.int .i64 (ansS s).c, .string (ansS s).wh, .string (ansS s).wt, .string (ansS s).lk, .string (ansS s).sd], .bool (okS s)]) ∧ Below w.heap.size w w' := by
  have hB0 := Lib.hid ((Below.refl w.heap.size w).alloc (Nat.le_refl _) (.cells #[.int .i64 0, .string ⟨#[]⟩, .string ⟨#[]⟩, .string ⟨#[]⟩, .string ⟨#[]⟩] 25))
  have hK0 := Lib.hid (Blk.new w 25 #[.int .i64 0, .string ⟨#[]⟩, .string ⟨#[]⟩, .string ⟨#[]⟩, .string ⟨#[]⟩])
  go_enter Tryd.func15, Tryd.ntmps15
  go_wp2_with fail
  refine (L1S.l1Split_any s 32 _ hs).mono ?_
  rintro e w2 ⟨v, rfl, ho, hb2⟩
  have hwl := parts_length s 32
  have hwt := parts_total s 32
  have hw0 := sAt_le (parts s 32) 0
  obtain ⟨ws, hws⟩ : ∃ ws, parts s 32 = ws := ⟨_, rfl⟩
  rw [hws] at ho hwl hwt hw0
  obtain ⟨g2, c2, rfl, hr2, hc2⟩ := own_strs0 ho hwl.2
  have HWS := Lib.hid hws
  have hB2 := Lib.hid (hB0.out.trans (hb2.mono hB0.out.size))
  have hK2 := Lib.hid (hK0.out.later hb2)
  have hR2 := Lib.hid hr2
  obtain ⟨n, hn⟩ : ∃ n, ws.length = n + 1 := ⟨ws.length - 1, by omega⟩
  have HN := Lib.hid hn
  have hsz0 : (sAt ws 0).size ≤ 1048576 := by omega
  rw [hn] at hc2 hwl ⊢
  clear hb2 ho hr2 hn hws hwt hw0
  by_cases h60 : s.size ≤ 60
  · have d0 := row_at hR2.out 0 (by rw [HN.out]; omega)
    have hg2 : g2 < w2.heap.size := World.block_lt_of_cell? w2 _ d0
    go_wp2_with fail
    refine (Prs.read_any (sAt ws 0) _ hsz0).mono ?_
    rintro e w3 ⟨he, hst⟩
    unfold RdPost at he
    subst he
    obtain ⟨cz, hcz⟩ : ∃ cz, (val (sAt ws 0)).getD 0 = cz := ⟨_, rfl⟩
    have HCZ := Lib.hid hcz
    obtain ⟨ob, hob⟩ : ∃ ob, (val (sAt ws 0)).isSome = ob := ⟨_, rfl⟩
    rw [hcz, hob]
    clear hcz hob d0
    obtain ⟨f0, hf0⟩ : ∃ f0 : Ft, f0 = f0S ws := ⟨_, rfl⟩
    have HF0 := Lib.hid hf0
    have hb3 := Still.below hst w2.heap.size
    have HP3 := Lib.hid (show Ps w (w3.setCell ⟨w2.heap.size, 0, none⟩ (.int .i64 cz)) w.heap.size w2.heap.size f0 g2 ws from by
      have h0 : Ps w w3 w.heap.size w2.heap.size ⟨0, ⟨#[]⟩, ⟨#[]⟩, ⟨#[]⟩, ⟨#[]⟩⟩ g2 ws := 
        Ps.later (W := w2.alloc (.cells #[.int .i64 0, .string ⟨#[]⟩, .string ⟨#[]⟩, .string ⟨#[]⟩, .string ⟨#[]⟩] 25)) ⟨hB2.out.alloc hB2.out.size _, hK2.out.alloc _, Blk.new w2 _ _, RowAt.below hR2.out ((Below.refl _ _).alloc (Nat.le_refl _) _), hK2.out.lt, hg2, hB2.out.size⟩ (hst.below _)
      have h1 := h0.put 0 (.int .i64 cz) (f' := ⟨cz, ⟨#[]⟩, ⟨#[]⟩, ⟨#[]⟩, ⟨#[]⟩⟩) rfl
      have h2 : f0 = ⟨cz, ⟨#[]⟩, ⟨#[]⟩, ⟨#[]⟩, ⟨#[]⟩⟩ := by rw [hf0]; unfold f0S; rw [HCZ.out]
      rw [h2]
      exact h1)
    obtain ⟨p0, p1, p2, p3, p4, y0, y1, y2, y3, y4⟩ := ((Blk.new w2 25 #[.int .i64 0, .string ⟨#[]⟩, .string ⟨#[]⟩, .string ⟨#[]⟩, .string ⟨#[]⟩]).later (hst.below _)).five
    have hn60 : n ≤ 60 := by omega
    have H60 := Lib.hid h60
    clear hst hb3 hf0 h60
    go_wp2
    clear p0 p1 p2 p3 p4 y0 y1 y2 y3 y4
    go_loopw [6] (fun i wr => ∃ k : Nat, k ≤ n ∧ i = .int .i64 ((k : Int) + 1) ∧ Ps w wr w.heap.size w2.heap.size (fkS ws f0 k) g2 ws) (fun i _ => n + 1 - (intOf i).toNat)
    case atStart => exact ⟨0, Nat.zero_le _, rfl, HP3.out⟩
    case round =>
      obtain ⟨k, hk, rfl, hp⟩ := hrel
      have HP := Lib.hid hp
      clear hp
      by_cases hlt : k < n
      · obtain ⟨x, hx⟩ : ∃ x, sAt ws (k + 1) = x := ⟨_, rfl⟩
        have HX := Lib.hid hx
        obtain ⟨p, hp⟩ : ∃ p, sAt ws k = p := ⟨_, rfl⟩
        have HQ := Lib.hid hp
        obtain ⟨fc, hfc⟩ : ∃ fc, fkS ws f0 k = fc := ⟨_, rfl⟩
        have HE0 := Lib.hid (show fkS ws f0 (k + 1) = stepS fc p x from by show stepS (fkS ws f0 k) (sAt ws k) (sAt ws (k + 1)) = _; rw [hfc, hx, hp])
        have HPc := Lib.hid (show Ps w wr w.heap.size w2.heap.size fc g2 ws from by rw [← hfc]; exact HP.out)
        have hkw : k + 1 < ws.length := by rw [HN.out]; omega
        have HKW := Lib.hid hkw
        have cp := HPc.out.word hp (show k < ws.length by omega)
        have cx := HPc.out.word hx hkw
        clear hx hfc HP hp hkw
        by_cases hps : p = side
        · have hq : (p.toList == [115, 105, 100, 101]) = true := side_yes hps
          have HE := Lib.hid (show fkS ws f0 (k + 1) = ⟨fc.c, fc.wh, fc.wt, fc.lk, x⟩ from by rw [HE0.out]; exact if_pos hps)
          clear hps
          obtain ⟨p0, p1, p2, p3, p4, y0, y1, y2, y3, y4⟩ := HPc.out.F.five
          have HP5 := Lib.hid (HPc.out.put_sd x)
          go_wp2
          go_roundw
          case rel => exact ⟨k + 1, by omega, by go_num, by rw [HE.out]; exact HP5.out⟩
          case measure => simp [intOf]; omega
        · have hq : (p.toList == [115, 105, 100, 101]) = false := side_no hps
          have HPS := Lib.hid hps
          clear hps
          go_wp2_with fail
          clear cp cx
          refine (SpF.fam_any x _).mono ?_
          rintro e w4 ⟨rfl, hb4⟩
          have HP4 := Lib.hid (HPc.out.later hb4)
          clear hb4 HPc
          by_cases hfx : fam x < 5
          · have hz := fam_z hfx
            obtain ⟨p0, p1, p2, p3, p4, y0, y1, y2, y3, y4⟩ := HP4.out.F.five
            have cx := HP4.out.word HX.out HKW.out
            have HP5 := Lib.hid (HP4.out.put_wt x)
            have HE := Lib.hid (show fkS ws f0 (k + 1) = ⟨fc.c, fc.wh, x, fc.lk, fc.sd⟩ from by rw [HE0.out]; unfold stepS; rw [if_neg HPS.out, if_pos hfx])
            go_wp2
            go_roundw
            case rel => exact ⟨k + 1, by omega, by go_num, by rw [HE.out]; exact HP5.out⟩
            case measure => simp [intOf]; omega
          · have hz := fam_n hfx
            have HFX := Lib.hid hfx
            clear hfx
            have HS := HP4
            have hk1 : IntKind.i64.wrap ((k : Int) + 1) = (k : Int) + 1 := IntWalk.i64_in _ (by omega)
            have hi0 : (0 : Int) ≤ (k : Int) + 1 := by omega
            have hi1 : (k : Int) + 1 < (n : Int) + 1 := by omega
            go_wp2
            by_cases hwi : x ∈ whichs
            · have hz2 := at_z hwi
              go_region_held3 (fun W : World => W.cell? ⟨g2, k + 1, none⟩ = some (.string x)) (first | with_reducible exact HS.out.word HX.out HKW.out | with_reducible exact HS.out.drew.word HX.out HKW.out) (first
                | (go_at_call 62; refine (SpO.whiches_own _).mono ?_; rintro e w6 ⟨g6, rfl, hs6, hb6⟩; have HG6 := Lib.hid hs6; have HS6 := Lib.hid (show Ps w w6 w.heap.size w2.heap.size fc g2 ws from by first | exact HS.out.later hb6 | exact HS.out.drew.later hb6); clear hs6 hb6; have HS := HS6)
                | (go_at_call 61; have HD6 := Lib.hid HG6.out; refine (at_any _ _ whichs x _ (by first | exact HG6.out | exact HG6.out.drew) (by decide)).mono ?_; rintro e w7 ⟨rfl, rfl⟩))
              all_goals
                obtain ⟨p0, p1, p2, p3, p4, y0, y1, y2, y3, y4⟩ := HS.out.F.five
                have cx := HS.out.word HX.out HKW.out
                have HP5 := Lib.hid (HS.out.put_wh x)
                have HE := Lib.hid (show fkS ws f0 (k + 1) = ⟨fc.c, x, fc.wt, fc.lk, fc.sd⟩ from by rw [HE0.out]; unfold stepS; rw [if_neg HPS.out, if_neg HFX.out, if_pos hwi])
                go_wp2
                go_roundw
                case rel => exact ⟨k + 1, by omega, by go_num, by rw [HE.out]; exact HP5.out⟩
                case measure => simp [intOf]; omega
            · have hz2 := at_n hwi
              have HWI := Lib.hid hwi
              clear hwi
              go_region_held3 (fun W : World => W.cell? ⟨g2, k + 1, none⟩ = some (.string x)) (first | with_reducible exact HS.out.word HX.out HKW.out | with_reducible exact HS.out.drew.word HX.out HKW.out) (first
                | (go_at_call 62; refine (SpO.whiches_own _).mono ?_; rintro e w6 ⟨g6, rfl, hs6, hb6⟩; have HG6 := Lib.hid hs6; have HS6 := Lib.hid (show Ps w w6 w.heap.size w2.heap.size fc g2 ws from by first | exact HS.out.later hb6 | exact HS.out.drew.later hb6); clear hs6 hb6; have HS := HS6)
                | (go_at_call 61; have HD6 := Lib.hid HG6.out; refine (at_any _ _ whichs x _ (by first | exact HG6.out | exact HG6.out.drew) (by decide)).mono ?_; rintro e w7 ⟨rfl, rfl⟩))
              all_goals go_wp2
              all_goals clear hz2
              all_goals have hz2 := True.intro
              all_goals
                by_cases hli : x ∈ looks
                · have hz3 := at_z hli
                  go_region_held3 (fun W : World => W.cell? ⟨g2, k + 1, none⟩ = some (.string x)) (first | with_reducible exact HS.out.word HX.out HKW.out | with_reducible exact HS.out.drew.word HX.out HKW.out) (first
                    | (go_at_call 63; refine (SpO.looks_own _).mono ?_; rintro e w8 ⟨g8, rfl, hs8, hb8⟩; have HG8 := Lib.hid hs8; have HS8 := Lib.hid (show Ps w w8 w.heap.size w2.heap.size fc g2 ws from by first | exact HS.out.later hb8 | exact HS.out.drew.later hb8); clear hs8 hb8; have HS := HS8)
                    | (go_at_call 61; have HD8 := Lib.hid HG8.out; refine (at_any _ _ looks x _ (by first | exact HG8.out | exact HG8.out.drew) (by decide)).mono ?_; rintro e w7 ⟨rfl, rfl⟩))
                  all_goals
                    obtain ⟨p0, p1, p2, p3, p4, y0, y1, y2, y3, y4⟩ := HS.out.F.five
                    have cx := HS.out.word HX.out HKW.out
                    have HP5 := Lib.hid (HS.out.put_lk x)
                    have HE := Lib.hid (show fkS ws f0 (k + 1) = ⟨fc.c, fc.wh, fc.wt, x, fc.sd⟩ from by rw [HE0.out]; unfold stepS; rw [if_neg HPS.out, if_neg HFX.out, if_neg HWI.out, if_pos hli])
                    go_wp2
                    go_roundw
                    case rel => exact ⟨k + 1, by omega, by go_num, by rw [HE.out]; exact HP5.out⟩
                    case measure => simp [intOf]; omega
                · have hz3 := at_n hli
                  have HE := Lib.hid (show fkS ws f0 (k + 1) = fc from by rw [HE0.out]; unfold stepS; rw [if_neg HPS.out, if_neg HFX.out, if_neg HWI.out, if_neg hli])
                  clear hli
                  go_region_held3 (fun W : World => W.cell? ⟨g2, k + 1, none⟩ = some (.string x)) (first | with_reducible exact HS.out.word HX.out HKW.out | with_reducible exact HS.out.drew.word HX.out HKW.out) (first
                    | (go_at_call 63; refine (SpO.looks_own _).mono ?_; rintro e w8 ⟨g8, rfl, hs8, hb8⟩; have HG8 := Lib.hid hs8; have HS8 := Lib.hid (show Ps w w8 w.heap.size w2.heap.size fc g2 ws from by first | exact HS.out.later hb8 | exact HS.out.drew.later hb8); clear hs8 hb8; have HS := HS8)
                    | (go_at_call 61; have HD8 := Lib.hid HG8.out; refine (at_any _ _ looks x _ (by first | exact HG8.out | exact HG8.out.drew) (by decide)).mono ?_; rintro e w7 ⟨rfl, rfl⟩))
                  all_goals
                    go_wp2
                    go_roundw
                    case rel => exact ⟨k + 1, by omega, by go_num, by rw [HE.out]; first | exact HS.out | exact HS.out.drew⟩
                    case measure => simp [intOf]; omega
      · obtain rfl : k = n := by omega
        obtain ⟨gf, hgf⟩ : ∃ gf, fkS ws f0 k = gf := ⟨_, rfl⟩
        have HGF := Lib.hid (show canS s = gf from by
          unfold canS
          rw [HWS.out, HN.out, ← HF0.out, Nat.add_sub_cancel, hgf])
        have HS0 := Lib.hid (show Ps w wr w.heap.size w2.heap.size gf g2 ws from by rw [← hgf]; exact HP.out)
        clear hgf HP
        have HS := HS0
        by_cases hok : okF gf = true
        · have HOF := Lib.hid (of_decide_eq_true (p := OkF gf) hok)
          have HOK := Lib.hid hok
          have hc7 := cod_size HOF.out
          have ht7 := txF_size HOF.out.short
          have hcat : (9223372036854775807 < (cod gf).size + (txF gf).size) = False := by simp only [eq_iff_iff, iff_false]; omega
          clear hc7 ht7
          by_cases htx : cod gf ++ txF gf = s
          · have HO := Lib.hid (show okS s = true from by unfold okS; rw [HGF.out, hok, decide_eq_true htx, decide_eq_true H60.out]; rfl)
            have HA := Lib.hid (show ansS s = gf from by unfold ansS; rw [if_pos HO.out, HGF.out])
            have hq : ((cod gf ++ txF gf).toList == s.toList) = true := by rw [htx]; simp
            have hq' : ((cod gf ++ txF gf).toList != s.toList) = false := by rw [htx]; simp
            clear hok htx
            go_wp2
            go_region_held3 (fun W : World => W.cell? ⟨w2.heap.size, 0, none⟩ = some (.int .i64 gf.c) ∧ W.cell? ⟨w2.heap.size, 1, none⟩ = some (.string gf.wh) ∧ W.cell? ⟨w2.heap.size, 2, none⟩ = some (.string gf.wt) ∧ W.cell? ⟨w2.heap.size, 3, none⟩ = some (.string gf.lk) ∧ W.cell? ⟨w2.heap.size, 4, none⟩ = some (.string gf.sd)) (first | with_reducible exact HS.out.five5 | with_reducible exact HS.out.drew.five5) (first
              | (go_at_call 44; refine (SpO.spec_any gf _).mono ?_; rw [HOK.out]; rintro e w5 ⟨rfl, hb5⟩; have HS5 := Lib.hid (show Ps w w5 w.heap.size w2.heap.size gf g2 ws from by first | exact HS.out.later hb5 | exact HS.out.drew.later hb5); clear hb5; have HS := HS5)
              | (go_at_call 45; refine (num_f gf HOF.out _).mono ?_; rintro e w5 ⟨rfl, hst⟩; have HS5 := Lib.hid (show Ps w w5 w.heap.size w2.heap.size gf g2 ws from by first | exact HS.out.later (hst.below _) | exact HS.out.drew.later (hst.below _)); clear hst; have HS := HS5)
              | (go_at_call 46; refine (Txt.spec_text gf HOF.out.short _).mono ?_; rintro e w5 ⟨rfl, hb5⟩; have HS5 := Lib.hid (show Ps w w5 w.heap.size w2.heap.size gf g2 ws from by first | exact HS.out.later hb5 | exact HS.out.drew.later hb5); clear hb5; have HS := HS5))
            all_goals
              obtain ⟨r0, r1, r2, r3, r4, z0, z1, z2, z3, z4⟩ := HS.out.R.five
              obtain ⟨p0, p1, p2, p3, p4, -⟩ := HS.out.F.five
              go_wp2
              have hR := Lib.hid (all5 HS.out.R (.int .i64 gf.c) (.string gf.wh) (.string gf.wt) (.string gf.lk) (.string gf.sd))
              obtain ⟨u0, u1, u2, u3, u4, -⟩ := hR.out.five
              refine bodyPost_ret (v := .tuple #[.agg #[.int .i64 gf.c, .string gf.wh, .string gf.wt, .string gf.lk, .string gf.sd], .bool true]) (by simp [results, Tryd.results15, go_sem, u0, u1, u2, u3, u4]) rfl ⟨by rw [HO.out, HA.out], ?_⟩
              iterate 5 (refine Below.setCell ?_ (by simp) _)
              first | exact HS.out.B | exact HS.out.drew.B
          · have HO := Lib.hid (show okS s = false from by unfold okS; rw [HGF.out, decide_eq_false htx]; simp)
            have HA := Lib.hid (show ansS s = FtL.noF from by unfold ansS; rw [if_neg (by rw [HO.out]; decide)])
            have hq := str_beq htx
            have hq' : ((cod gf ++ txF gf).toList != s.toList) = true := by rw [bne, hq]; rfl
            clear hok htx
            go_wp2
            go_region_held3 (fun W : World => W.cell? ⟨w2.heap.size, 0, none⟩ = some (.int .i64 gf.c) ∧ W.cell? ⟨w2.heap.size, 1, none⟩ = some (.string gf.wh) ∧ W.cell? ⟨w2.heap.size, 2, none⟩ = some (.string gf.wt) ∧ W.cell? ⟨w2.heap.size, 3, none⟩ = some (.string gf.lk) ∧ W.cell? ⟨w2.heap.size, 4, none⟩ = some (.string gf.sd)) (first | with_reducible exact HS.out.five5 | with_reducible exact HS.out.drew.five5) (first
              | (go_at_call 44; refine (SpO.spec_any gf _).mono ?_; rw [HOK.out]; rintro e w5 ⟨rfl, hb5⟩; have HS5 := Lib.hid (show Ps w w5 w.heap.size w2.heap.size gf g2 ws from by first | exact HS.out.later hb5 | exact HS.out.drew.later hb5); clear hb5; have HS := HS5)
              | (go_at_call 45; refine (num_f gf HOF.out _).mono ?_; rintro e w5 ⟨rfl, hst⟩; have HS5 := Lib.hid (show Ps w w5 w.heap.size w2.heap.size gf g2 ws from by first | exact HS.out.later (hst.below _) | exact HS.out.drew.later (hst.below _)); clear hst; have HS := HS5)
              | (go_at_call 46; refine (Txt.spec_text gf HOF.out.short _).mono ?_; rintro e w5 ⟨rfl, hb5⟩; have HS5 := Lib.hid (show Ps w w5 w.heap.size w2.heap.size gf g2 ws from by first | exact HS.out.later hb5 | exact HS.out.drew.later hb5); clear hb5; have HS := HS5))
            all_goals
              obtain ⟨r0, r1, r2, r3, r4, z0, z1, z2, z3, z4⟩ := HS.out.R.five
              obtain ⟨p0, p1, p2, p3, p4, -⟩ := HS.out.F.five
              go_wp2
              have hR := Lib.hid (all5 HS.out.R (.int .i64 0) (.string ⟨#[]⟩) (.string ⟨#[]⟩) (.string ⟨#[]⟩) (.string ⟨#[]⟩))
              obtain ⟨u0, u1, u2, u3, u4, -⟩ := hR.out.five
              refine bodyPost_ret (v := .tuple #[.agg #[.int .i64 0, .string ⟨#[]⟩, .string ⟨#[]⟩, .string ⟨#[]⟩, .string ⟨#[]⟩], .bool false]) (by simp [results, Tryd.results15, go_sem, u0, u1, u2, u3, u4]) rfl ⟨by rw [HO.out, HA.out]; rfl, ?_⟩
              iterate 5 (refine Below.setCell ?_ (by simp) _)
              first | exact HS.out.B | exact HS.out.drew.B
        · have hok' : okF gf = false := by simpa using hok
          have HO := Lib.hid (show okS s = false from by unfold okS; rw [HGF.out, hok']; simp)
          have HA := Lib.hid (show ansS s = FtL.noF from by unfold ansS; rw [if_neg (by rw [HO.out]; decide)])
          have HOK := Lib.hid hok'
          clear hok hok'
          obtain ⟨p0, p1, p2, p3, p4, -⟩ := HS.out.F.five
          have hu : undef = Value.tuple #[] := rfl
          go_wp2
          first | go_region_with (first
              | (go_at_call 44; refine (SpO.spec_any gf _).mono ?_; rw [HOK.out]; rintro e w5 ⟨rfl, hb5⟩; have HS5 := Lib.hid (show Ps w w5 w.heap.size w2.heap.size gf g2 ws from by first | exact HS.out.later hb5 | exact HS.out.drew.later hb5); clear hb5; have HS := HS5)) | fail
          all_goals
            obtain ⟨r0, r1, r2, r3, r4, z0, z1, z2, z3, z4⟩ := HS.out.R.five
            obtain ⟨p0, p1, p2, p3, p4, -⟩ := HS.out.F.five
            go_wp2
            have hR := Lib.hid (all5 HS.out.R (.int .i64 0) (.string ⟨#[]⟩) (.string ⟨#[]⟩) (.string ⟨#[]⟩) (.string ⟨#[]⟩))
            obtain ⟨u0, u1, u2, u3, u4, -⟩ := hR.out.five
            refine bodyPost_ret (v := .tuple #[.agg #[.int .i64 0, .string ⟨#[]⟩, .string ⟨#[]⟩, .string ⟨#[]⟩, .string ⟨#[]⟩], .bool false]) (by simp [results, Tryd.results15, go_sem, u0, u1, u2, u3, u4]) rfl ⟨by rw [HO.out, HA.out]; rfl, ?_⟩
            iterate 5 (refine Below.setCell ?_ (by simp) _)
            first | exact HS.out.B | exact HS.out.drew.B
  · have HO := Lib.hid (show okS s = false from by unfold okS; rw [decide_eq_false h60]; rfl)
    have HA := Lib.hid (show ansS s = FtL.noF from by unfold ansS; rw [if_neg (by rw [HO.out]; decide)])
    obtain ⟨r0, r1, r2, r3, r4, z0, z1, z2, z3, z4⟩ := hK2.out.five
    go_wp2
    have hR := Lib.hid (all5 hK2.out (.int .i64 0) (.string ⟨#[]⟩) (.string ⟨#[]⟩) (.string ⟨#[]⟩) (.string ⟨#[]⟩))
    obtain ⟨u0, u1, u2, u3, u4, -⟩ := hR.out.five
    refine bodyPost_ret (v := .tuple #[.agg #[.int .i64 0, .string ⟨#[]⟩, .string ⟨#[]⟩, .string ⟨#[]⟩, .string ⟨#[]⟩], .bool false]) (by simp [results, Tryd.results15, go_sem, u0, u1, u2, u3, u4]) rfl ⟨by rw [HO.out, HA.out]; rfl, ?_⟩
    iterate 5 (refine Below.setCell ?_ (by simp) _)
    exact hB2.out

end Go.Proofs.YtpfjdlaaakkimaaDoor.PfS
