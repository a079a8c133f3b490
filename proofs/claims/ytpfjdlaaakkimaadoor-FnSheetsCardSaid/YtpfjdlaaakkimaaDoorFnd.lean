/- A word's family: the program's search. -/
import Derived.Test.YtpfjdlaaakkimaaDoorWord
namespace Go.Proofs.YtpfjdlaaakkimaaDoor.Fnd
open Go.RowKit Lb Bk Fam Word
set_option linter.unusedSimpArgs false
set_option linter.unusedVariables false

/-- What is answered where there is a family. -/
def Hit (x : ByteArray) (w : World) (e : Ending) (w' : World) : Prop :=
  ∃ gw gs, e = .returned (.tuple #[.agg #[.string (famN (fam x)), .slice (some ⟨gw, 0, none⟩) (famW (fam x)).length (famW (fam x)).length, .slice (some ⟨gs, 0, none⟩) (famS (fam x)).length (famS (fam x)).length], .int .i64 (fam x), .bool true]) ∧ StrB w' gs (famS (fam x)) ∧ w.heap.size ≤ gs ∧ Below w.heap.size w w'

set_option maxHeartbeats 2000000 in
theorem find_any (x : ByteArray) (w : World) : Calls Tryd.prog 47 #[.string x] w fun e w' =>
    (fam x < 5 → Hit x w e w') ∧ (¬ fam x < 5 → e = .returned (.tuple #[.agg #[.string ⟨#[]⟩, .slice none 0 0, .slice none 0 0], .int .i64 0, .bool false]) ∧ Below w.heap.size w w') := by
  have HB := Lib.hid ((Below.refl w.heap.size w).alloc (Nat.le_refl _) (.cells #[.string ⟨#[]⟩, .slice none 0 0, .slice none 0 0] 67))
  have HK := Lib.hid (Blk.new w 67 #[.string ⟨#[]⟩, .slice none 0 0, .slice none 0 0])
  go_enter Tryd.func47, Tryd.ntmps47
  go_wp2_with fail
  refine (tab_any _).mono ?_
  rintro e w1 ⟨rfl, ht, hb⟩
  rw [World.size_alloc] at ht ⊢
  have HT := Lib.hid ht
  have HB1 := Lib.hid (HB.out.trans (hb.mono (by simp)))
  have HK1 := Lib.hid (HK.out.later hb)
  clear ht hb
  go_wp2
  go_loopw [9, 5, 6] (fun i _ _ wr => ∃ k : Nat, k ≤ 5 ∧ i = .int .i64 k ∧ (∀ j, j < k → x ∉ famW j) ∧ Below w1.heap.size w1 wr) (fun i _ _ _ => 5 - (intOf i).toNat)
  case atStart => exact ⟨0, Nat.zero_le _, rfl, fun j h => by omega, Below.refl _ _⟩
  case round =>
    obtain ⟨k, hk, rfl, hno, hb⟩ := hrel
    have HBw := Lib.hid hb
    have HKr := Lib.hid (HK1.out.below hb HK1.out.lt)
    have HTr := Lib.hid (HT.out.later hb)
    have HBr := Lib.hid (HB1.out.trans (hb.mono HB1.out.size))
    clear hb
    by_cases hlt : k < 5
    · obtain ⟨c0, c1, c2⟩ := HTr.out.cells k hlt
      have HS := Lib.hid ((HTr.out.W k hlt).later ((Below.refl _ _).alloc (Nat.le_refl _) (.cells #[Value.string (famN k),
          Value.slice (some { block := w.heap.size + 1 + 2 * k, off := 0 }) (famW k).length (famW k).length,
          Value.slice (some { block := w.heap.size + 1 + (2 * k + 1), off := 0 }) (famS k).length (famS k).length] 67)))
      have hW : (famW k).length ≤ maxLen := Nat.le_trans (famW_len k) (by decide)
      have HL := Lib.hid HKr.out.lt
      have HKa := Lib.hid (HKr.out.alloc (.cells #[Value.string (famN k),
          Value.slice (some { block := w.heap.size + 1 + 2 * k, off := 0 }) (famW k).length (famW k).length,
          Value.slice (some { block := w.heap.size + 1 + (2 * k + 1), off := 0 }) (famS k).length (famS k).length] 67))
      have HV := Lib.hid (Blk.new wr 67 #[Value.string (famN k),
          Value.slice (some { block := w.heap.size + 1 + 2 * k, off := 0 }) (famW k).length (famW k).length,
          Value.slice (some { block := w.heap.size + 1 + (2 * k + 1), off := 0 }) (famS k).length (famS k).length])
      have HBa := Lib.hid (HBw.out.alloc HBw.out.size (.cells #[Value.string (famN k),
          Value.slice (some { block := w.heap.size + 1 + 2 * k, off := 0 }) (famW k).length (famW k).length,
          Value.slice (some { block := w.heap.size + 1 + (2 * k + 1), off := 0 }) (famS k).length (famS k).length] 67))
      by_cases hin : x ∈ famW k
      · have HF := Lib.hid (fam_first hlt hin hno)
        have hd : decide (x ∈ famW k) = true := decide_eq_true hin
        clear hno hin
        go_wp2_with fail
        refine (cont_any _ _ (famW k) x _ HS.out hW).mono ?_
        rw [hd]
        rintro e w2 ⟨rfl, rfl⟩
        clear c0 c1 c2 hd
        obtain ⟨p0, p1, p2, q0, q1, q2⟩ := HKa.out.three
        obtain ⟨p0', p1', p2', -⟩ := HV.out.three
        go_wp2_with fail
        clear p0 p1 p2 q0 q1 q2 p0' p1' p2'
        have B2 := ((HKa.out.set_ 0 (Value.string (famN k))).set_ 1 (Value.slice (some { block := w.heap.size + 1 + 2 * k, off := 0 }) (famW k).length (famW k).length)).set_ 2 (Value.slice (some { block := w.heap.size + 1 + (2 * k + 1), off := 0 }) (famS k).length (famS k).length)
        simp only [List.setIfInBounds_toArray, List.set_cons_succ, List.set_cons_zero] at B2
        obtain ⟨r0, r1, r2, -⟩ := B2.three
        refine bodyPost_ret (v := .tuple #[.agg #[.string (famN k), .slice (some ⟨w.heap.size + 1 + 2 * k, 0, none⟩) (famW k).length (famW k).length, .slice (some ⟨w.heap.size + 1 + (2 * k + 1), 0, none⟩) (famS k).length (famS k).length], .int .i64 k, .bool true]) (by simp [results, Tryd.results47, go_sem, r0, r1, r2]) rfl ?_
        clear r0 r1 r2 B2
        refine ⟨fun _ => ⟨_, w.heap.size + 1 + (2 * k + 1), by rw [HF.out], ?_, by omega, ?_⟩, fun h => absurd (by rw [HF.out]; exact hlt) h⟩
        · rw [HF.out]
          unfold StrB
          iterate 3 (refine Blk.far ?_ (by simp; omega) _)
          exact Blk.alloc (HTr.out.S k hlt) _
        · iterate 3 (refine Below.setCell ?_ (by simp) _)
          exact HBr.out.alloc HBr.out.size _
      · have HN := Lib.hid (all_succ (p := fun j => x ∉ famW j) hno hin)
        have hd : decide (x ∈ famW k) = false := decide_eq_false hin
        clear hno hin
        go_wp2_with fail
        refine (cont_any _ _ (famW k) x _ HS.out hW).mono ?_
        rw [hd]
        rintro e w2 ⟨rfl, rfl⟩
        clear c0 c1 c2 hd
        go_wp2
        go_roundw
        case rel => exact ⟨k + 1, by omega, by go_num, HN.out, HBa.out⟩
        case measure => simp [intOf]; omega
    · obtain rfl : k = 5 := by omega
      have HF := Lib.hid (fam_none hno)
      obtain ⟨p0, p1, p2, q0, q1, q2⟩ := HKr.out.three
      clear hno
      go_wp2_with fail
      clear p0 p1 p2 q0 q1 q2
      have B2 := ((HKr.out.set_ 0 (Value.string ⟨#[]⟩)).set_ 1 (Value.slice none 0 0)).set_ 2 (Value.slice none 0 0)
      simp only [List.setIfInBounds_toArray, List.set_cons_succ, List.set_cons_zero] at B2
      obtain ⟨r0, r1, r2, -⟩ := B2.three
      refine bodyPost_ret (v := .tuple #[.agg #[.string ⟨#[]⟩, .slice none 0 0, .slice none 0 0], .int .i64 0, .bool false]) (by simp [results, Tryd.results47, go_sem, r0, r1, r2]) rfl ?_
      clear r0 r1 r2 B2
      refine ⟨fun h => absurd h (by rw [HF.out]; decide), fun _ => ⟨rfl, ?_⟩⟩
      iterate 3 (refine Below.setCell ?_ (by simp) _)
      exact HBr.out

/-- What is answered, either way. -/
def FPost (x : ByteArray) (w : World) (e : Ending) (w' : World) : Prop :=
  ∃ aw nw cw az ns cs kz, e = .returned (.tuple #[.agg #[.string (famN (fam x)), .slice aw nw cw, .slice az ns cs], .int .i64 kz, .bool (decide (fam x < 5))]) ∧ (fam x < 5 → kz = fam x ∧ ∃ gs, Value.slice az ns cs = .slice (some ⟨gs, 0, none⟩) (famS (fam x)).length (famS (fam x)).length ∧ StrB w' gs (famS (fam x)) ∧ w.heap.size ≤ gs) ∧ (¬ fam x < 5 → Value.slice az ns cs = .slice none 0 0) ∧ Below w.heap.size w w'
theorem find_all (x : ByteArray) (w : World) : Calls Tryd.prog 47 #[.string x] w (FPost x w) := by
  refine (find_any x w).mono ?_
  rintro e w' ⟨h1, h2⟩
  by_cases h : fam x < 5
  · obtain ⟨gw, gs, rfl, hs, hg, hb⟩ := h1 h
    exact ⟨_, _, _, _, _, _, _, by rw [decide_eq_true h], fun _ => ⟨rfl, gs, rfl, hs, hg⟩, fun h' => absurd h h', hb⟩
  · obtain ⟨rfl, hb⟩ := h2 h
    have e5 : fam x = 5 := by have := fam_le x; omega
    exact ⟨_, _, _, _, _, _, _, by rw [decide_eq_false h, e5]; rfl, fun h' => absurd h' h, fun _ => rfl, hb⟩
theorem FPost.own {x : ByteArray} {w w' : World} {e : Ending} (h : FPost x w e w') : ∃ aw nw cw az ns cs kz, e = .returned (.tuple #[.agg #[.string (famN (fam x)), .slice aw nw cw, .slice az ns cs], .int .i64 kz, .bool (decide (fam x < 5))]) ∧ w'.ownsRow w.heap.size 9 1 (.slice az ns cs) (famS (fam x)).length ((famS (fam x)).map Value.string) ∧ Below w.heap.size w w' := by
  obtain ⟨aw, nw, cw, az, ns, cs, kz, rfl, h1, h2, hb⟩ := h
  refine ⟨aw, nw, cw, az, ns, cs, kz, rfl, ?_, hb⟩
  by_cases h : fam x < 5
  · obtain ⟨-, gs, e, hs, hg⟩ := h1 h
    rw [e]
    exact hs.own hg (Nat.le_trans (famS_len _) (by decide))
  · rw [h2 h, show fam x = 5 from by have := fam_le x; omega]
    exact ⟨rfl, .inl ⟨rfl, rfl⟩⟩

set_option maxHeartbeats 1000000 in
theorem fam_any (x : ByteArray) (w : World) : Calls Tryd.prog 33 #[.string x] w fun e w' => e = .returned (.tuple #[.string (famN (fam x)), .bool (decide (fam x < 5))]) ∧ Below w.heap.size w w' := by
  go_enter Tryd.func33, Tryd.ntmps33
  go_wp2_with fail
  refine (find_all x _).mono ?_
  rintro e w1 h
  obtain ⟨aw, nw, cw, az, ns, cs, kz, rfl, ho, hb⟩ := h.own
  have HB := Lib.hid (hb.alloc hb.size (.cells #[.string (famN (fam x)), .slice aw nw cw, .slice az ns cs] 67))
  clear h ho hb
  go_wp2
  go_ret2
  exact ⟨rfl, HB.out⟩

set_option maxHeartbeats 1000000 in
theorem sides_any (x : ByteArray) (w : World) : Calls Tryd.prog 30 #[.string x] w fun e w' => ∃ sd, e = .returned (.tuple #[sd, .bool (decide (fam x < 5))]) ∧ w'.ownsRow w.heap.size 9 1 sd (famS (fam x)).length ((famS (fam x)).map Value.string) ∧ Below w.heap.size w w' := by
  go_enter Tryd.func30, Tryd.ntmps30
  go_wp2_with fail
  refine (find_all x _).mono ?_
  rintro e w1 h
  obtain ⟨aw, nw, cw, az, ns, cs, kz, rfl, ho, hb⟩ := h.own
  have HB := Lib.hid (hb.alloc hb.size (.cells #[.string (famN (fam x)), .slice aw nw cw, .slice az ns cs] 67))
  have HO := Lib.hid (owns_below ho ((Below.refl _ _).alloc (Nat.le_refl _) (.cells #[.string (famN (fam x)), .slice aw nw cw, .slice az ns cs] 67)))
  clear h ho hb
  go_wp2
  go_ret2
  exact ⟨_, rfl, HO.out, HB.out⟩

end Go.Proofs.YtpfjdlaaakkimaaDoor.Fnd
