/- Features' words: the program and the model. -/
import Derived.Test.YtpfjdlaaakkimaaDoorBk
import Derived.Test.YtpfjdlaaakkimaaDoorTxM
namespace Go.Proofs.YtpfjdlaaakkimaaDoor.Txt
open Go.RowKit Lb Bk
set_option linter.unusedSimpArgs false
set_option linter.unusedVariables false

theorem is_nil {x : ByteArray} (h : x = ⟨#[]⟩) : x.toList = [] := by rw [h, ByteArray.toList_eq]
theorem is_emp {x : ByteArray} (h : x = ⟨#[]⟩) : x.toList.isEmpty = true := by rw [is_nil h]; rfl
theorem ne_nil {x : ByteArray} (h : ¬ x = ⟨#[]⟩) : ¬ x.toList = [] := fun e => h (toList_inj (e.trans (by rw [ByteArray.toList_eq])))
theorem ne_emp {x : ByteArray} (h : ¬ x = ⟨#[]⟩) : x.toList.isEmpty = false := by
  have := ne_nil h
  cases hx : x.toList with
  | nil => exact absurd hx this
  | cons a r => rfl

set_option maxHeartbeats 4000000 in
theorem spec_text (f : Ft) (hf : ShF f) (w : World) : Calls Tryd.prog 46 #[.agg #[.int .i64 f.c, .string f.wh, .string f.wt, .string f.lk, .string f.sd]] w fun e w' => e = .returned (.string (txF f)) ∧ Below w.heap.size w w' := by
  obtain ⟨b1, b2, b3, b4, hne⟩ := hf
  by_cases hwh : f.wh = ⟨#[]⟩
  · have t1wh := is_nil hwh
    have t2wh := is_emp hwh
    by_cases hlk : f.lk = ⟨#[]⟩
    · have t1lk := is_nil hlk
      have t2lk := is_emp hlk
      by_cases hsd : f.sd = ⟨#[]⟩
      · have t1sd := is_nil hsd
        have t2sd := is_emp hsd
        have H := Lib.hid (show txF f = _ from by unfold txF; rw [w1_nil hwh, w1_nil hlk, w1_ne hne, sdW_nil hsd])
        have HHwh := Lib.hid hwh
        clear hwh
        have HHlk := Lib.hid hlk
        clear hlk
        have HHsd := Lib.hid hsd
        clear hsd
        go_enter Tryd.func46, Tryd.ntmps46
        go_wp2
        go_ret
        refine ⟨?_, (Below.refl _ _).alloc (Nat.le_refl _) _⟩
        rw [H.out]
        simp only [app_assoc, nil_app, app_nil]
        rfl
      · have t1sd := ne_nil hsd
        have t2sd := ne_emp hsd
        have H := Lib.hid (show txF f = _ from by unfold txF; rw [w1_nil hwh, w1_nil hlk, w1_ne hne, sdW_ne hsd])
        have HHwh := Lib.hid hwh
        clear hwh
        have HHlk := Lib.hid hlk
        clear hlk
        go_enter Tryd.func46, Tryd.ntmps46
        go_wp2
        go_ret
        refine ⟨?_, (Below.refl _ _).alloc (Nat.le_refl _) _⟩
        rw [H.out]
        simp only [app_assoc, nil_app, app_nil]
        rfl
    · have t1lk := ne_nil hlk
      have t2lk := ne_emp hlk
      by_cases hsd : f.sd = ⟨#[]⟩
      · have t1sd := is_nil hsd
        have t2sd := is_emp hsd
        have H := Lib.hid (show txF f = _ from by unfold txF; rw [w1_nil hwh, w1_ne hlk, w1_ne hne, sdW_nil hsd])
        have HHwh := Lib.hid hwh
        clear hwh
        have HHsd := Lib.hid hsd
        clear hsd
        go_enter Tryd.func46, Tryd.ntmps46
        go_wp2
        go_ret
        refine ⟨?_, (Below.refl _ _).alloc (Nat.le_refl _) _⟩
        rw [H.out]
        simp only [app_assoc, nil_app, app_nil]
        rfl
      · have t1sd := ne_nil hsd
        have t2sd := ne_emp hsd
        have H := Lib.hid (show txF f = _ from by unfold txF; rw [w1_nil hwh, w1_ne hlk, w1_ne hne, sdW_ne hsd])
        have HHwh := Lib.hid hwh
        clear hwh
        go_enter Tryd.func46, Tryd.ntmps46
        go_wp2
        go_ret
        refine ⟨?_, (Below.refl _ _).alloc (Nat.le_refl _) _⟩
        rw [H.out]
        simp only [app_assoc, nil_app, app_nil]
        rfl
  · have t1wh := ne_nil hwh
    have t2wh := ne_emp hwh
    by_cases hlk : f.lk = ⟨#[]⟩
    · have t1lk := is_nil hlk
      have t2lk := is_emp hlk
      by_cases hsd : f.sd = ⟨#[]⟩
      · have t1sd := is_nil hsd
        have t2sd := is_emp hsd
        have H := Lib.hid (show txF f = _ from by unfold txF; rw [w1_ne hwh, w1_nil hlk, w1_ne hne, sdW_nil hsd])
        have HHlk := Lib.hid hlk
        clear hlk
        have HHsd := Lib.hid hsd
        clear hsd
        go_enter Tryd.func46, Tryd.ntmps46
        go_wp2
        go_ret
        refine ⟨?_, (Below.refl _ _).alloc (Nat.le_refl _) _⟩
        rw [H.out]
        simp only [app_assoc, nil_app, app_nil]
        rfl
      · have t1sd := ne_nil hsd
        have t2sd := ne_emp hsd
        have H := Lib.hid (show txF f = _ from by unfold txF; rw [w1_ne hwh, w1_nil hlk, w1_ne hne, sdW_ne hsd])
        have HHlk := Lib.hid hlk
        clear hlk
        go_enter Tryd.func46, Tryd.ntmps46
        go_wp2
        go_ret
        refine ⟨?_, (Below.refl _ _).alloc (Nat.le_refl _) _⟩
        rw [H.out]
        simp only [app_assoc, nil_app, app_nil]
        rfl
    · have t1lk := ne_nil hlk
      have t2lk := ne_emp hlk
      by_cases hsd : f.sd = ⟨#[]⟩
      · have t1sd := is_nil hsd
        have t2sd := is_emp hsd
        have H := Lib.hid (show txF f = _ from by unfold txF; rw [w1_ne hwh, w1_ne hlk, w1_ne hne, sdW_nil hsd])
        have HHsd := Lib.hid hsd
        clear hsd
        go_enter Tryd.func46, Tryd.ntmps46
        go_wp2
        go_ret
        refine ⟨?_, (Below.refl _ _).alloc (Nat.le_refl _) _⟩
        rw [H.out]
        simp only [app_assoc, nil_app, app_nil]
        rfl
      · have t1sd := ne_nil hsd
        have t2sd := ne_emp hsd
        have H := Lib.hid (show txF f = _ from by unfold txF; rw [w1_ne hwh, w1_ne hlk, w1_ne hne, sdW_ne hsd])
        go_enter Tryd.func46, Tryd.ntmps46
        go_wp2
        go_ret
        refine ⟨?_, (Below.refl _ _).alloc (Nat.le_refl _) _⟩
        rw [H.out]
        simp only [app_assoc, nil_app, app_nil]
        rfl

/-- What stands after 'k' of the three words. -/
def wd (f : Ft) : Nat → ByteArray
  | 0 => f.wh
  | 1 => f.lk
  | _ => f.wt
def upW (f : Ft) : Nat → ByteArray
  | 0 => ⟨#[]⟩
  | k + 1 => if wd f k = ⟨#[]⟩ then upW f k else upW f k ++ ((⟨#[32]⟩ : ByteArray) ++ wd f k)
theorem upW_nil {f : Ft} {k : Nat} (h : wd f k = ⟨#[]⟩) : upW f (k + 1) = upW f k := by rw [upW, if_pos h]
theorem upW_ne {f : Ft} {k : Nat} (h : ¬ wd f k = ⟨#[]⟩) : upW f (k + 1) = upW f k ++ ((⟨#[32]⟩ : ByteArray) ++ wd f k) := by rw [upW, if_neg h]
theorem upW_eq (f : Ft) (k : Nat) : upW f (k + 1) = upW f k ++ w1 (wd f k) := by
  by_cases h : wd f k = ⟨#[]⟩
  · rw [upW_nil h, w1_nil h, app_nil]
  · rw [upW_ne h, w1_ne h]
theorem upW_all (f : Ft) : upW f 3 ++ sdW f.sd = txF f := by
  rw [upW_eq, upW_eq, upW_eq]
  unfold txF
  simp only [app_assoc]
  show (⟨#[]⟩ : ByteArray) ++ _ = _
  rw [nil_app]
  rfl
theorem wd_size {f : Ft} (h : ShF f) (k : Nat) : (wd f k).size ≤ 9 := by
  unfold wd; split
  · exact h.wh
  · exact h.lk
  · exact h.wt
theorem upW_size {f : Ft} (h : ShF f) : ∀ k, (upW f k).size ≤ 10 * k
  | 0 => Nat.zero_le _
  | k + 1 => by
    have ih := upW_size h k
    have hk := wd_size h k
    by_cases e : wd f k = ⟨#[]⟩
    · rw [upW_nil e]; omega
    · rw [upW_ne e, ByteArray.size_append, ByteArray.size_append]
      have : (⟨#[32]⟩ : ByteArray).size = 1 := rfl
      omega

set_option maxHeartbeats 4000000 in
theorem impl_text (f : Ft) (hf : ShF f) (w : World) : Calls Tryd.prog 43 #[.agg #[.int .i64 f.c, .string f.wh, .string f.wt, .string f.lk, .string f.sd]] w fun e w' => e = .returned (.string (txF f)) ∧ Below w.heap.size w w' := by
  have HA := Lib.hid (upW_all f)
  have HW := Lib.hid (wd_size hf)
  have HU := Lib.hid (upW_size hf)
  have hsd := hf.sd
  clear hf
  have HK := Lib.hid ((Blk.new w 25 #[.int .i64 f.c, .string f.wh, .string f.wt, .string f.lk, .string f.sd]).alloc (.cells #[.string f.wh, .string f.lk, .string f.wt] 9))
  have HR := Lib.hid (Blk.at_ (w := w.alloc (.cells #[.int .i64 f.c, .string f.wh, .string f.wt, .string f.lk, .string f.sd] 25)) (t := 9) (cs := #[.string (wd f 0), .string (wd f 1), .string (wd f 2)]) (g := w.heap.size + 1) (by simp))
  have HB := Lib.hid (((Below.refl w.heap.size w).alloc (Nat.le_refl _) (.cells #[.int .i64 f.c, .string f.wh, .string f.wt, .string f.lk, .string f.sd] 25)).alloc (by simp) (.cells #[.string f.wh, .string f.lk, .string f.wt] 9))
  go_enter Tryd.func43, Tryd.ntmps43
  go_wp2
  go_loop [14, 3, 5] (fun i s _ => ∃ k : Nat, k ≤ 3 ∧ i = .int .i64 k ∧ s = .string (upW f k)) (fun i _ _ => 3 - (intOf i).toNat)
  case atStart => exact ⟨0, Nat.zero_le _, rfl, rfl⟩
  case round =>
    obtain ⟨k, hk, rfl, rfl⟩ := hrel
    by_cases hlt : k < 3
    · have hu := HU.out k
      have hw := HW.out k
      have c : (((w.alloc (.cells #[.int .i64 f.c, .string f.wh, .string f.wt, .string f.lk, .string f.sd] 25)).alloc (.cells #[.string f.wh, .string f.lk, .string f.wt] 9)).cell? ⟨w.heap.size + 1, k, none⟩) = some (.string (wd f k)) := by
        have := HR.out
        obtain rfl | rfl | rfl : k = 0 ∨ k = 1 ∨ k = 2 := by omega
        · exact Blk.cell this 0 rfl
        · exact Blk.cell this 1 rfl
        · exact Blk.cell this 2 rfl
      obtain ⟨x, hx⟩ : ∃ x, wd f k = x := ⟨_, rfl⟩
      by_cases he : wd f k = ⟨#[]⟩
      · have HS := Lib.hid (upW_nil he)
        rw [hx] at c hw he
        have t1 := is_nil he
        have t2 := is_emp he
        clear he hx
        go_wp2
        go_round
        case rel => exact ⟨k + 1, by omega, by go_num, by rw [HS.out]⟩
        case measure => simp [intOf]; omega
      · have HS := Lib.hid (upW_ne he)
        rw [hx] at c hw he HS
        have t1 := ne_nil he
        have t2 := ne_emp he
        clear he hx
        go_wp2
        go_round
        case rel => exact ⟨k + 1, by omega, by go_num, by rw [HS.out]⟩
        case measure => simp [intOf]; omega
    · obtain rfl : k = 3 := by omega
      have hu := HU.out 3
      obtain ⟨p0, p1, p2, p3, p4, -⟩ := HK.out.five
      by_cases he : f.sd = ⟨#[]⟩
      · have t1 := is_nil he
        have t2 := is_emp he
        have HE := Lib.hid (show upW f 3 = txF f from by rw [← HA.out, sdW_nil he, app_nil])
        clear he
        go_wp2
        go_ret
        exact ⟨by rw [← HE.out]; rfl, HB.out⟩
      · have t1 := ne_nil he
        have t2 := ne_emp he
        have HE := Lib.hid (show upW f 3 ++ ((⟨#[32, 115, 105, 100, 101, 32]⟩ : ByteArray) ++ f.sd) = txF f from by rw [← HA.out, sdW_ne he])
        clear he
        go_wp2
        go_ret
        exact ⟨by rw [← HE.out]; rfl, HB.out⟩

end Go.Proofs.YtpfjdlaaakkimaaDoor.Txt
