/- The drawn input of joining: a contract. -/
import Derived.Test.YtcilgbniahaejaaDrw
namespace Go.Proofs.Ytcilgbniahaejaa.DrwJ
open Go.RowKit Lb Cur Drw
set_option linter.unusedSimpArgs false
set_option linter.unusedVariables false

theorem sInfo : (Try.prog.info? 9).map (fun i => (i.zero, i.size, i.bytes)) = some (some (.string ByteArray.empty), 1, 16) := by kernel_rfl
theorem bInfo : (Try.prog.info? 5).map (fun i => (i.zero, i.size, i.bytes)) = some (some (.int .u8 0), 1, 1) := by kernel_rfl

theorem owns_kept {w w' : World} {base b : Nat} {e : TypeId} {v : Value} {n : Nat} {xs : List Value} (h : w.ownsRow base e 1 v n xs) (hg : w.grownBy w' (some b)) (hb : b < base) : w'.ownsRow base e 1 v n xs := by
  refine h.kept hg ?_
  cases hv : v.ownBlock with
  | none => exact .inl rfl
  | some k =>
    refine .inr (fun e => ?_)
    have h1 := (h.lt k hv).1
    have h2 : k = b := by simpa using e
    omega

theorem ok_beside {w w' : World} {b m : Nat} {r : Option Nat} (h : Ok w b m) (hg : w.grownBy w' r) (hr : ∀ k, r = some k → b < k) : Ok w' b m := by
  have hl := h.lt
  obtain ⟨a, n, cap, xs, p, seed, hb0, hp, hn, hs, hrow, hx, hne⟩ := h
  refine ⟨a, n, cap, xs, p, seed, (hg.block b hl (fun e => by have := hr b e.symm; omega)).trans hb0, hp, hn, hs, ?_, hx, hne⟩
  rcases hrow with h0 | ⟨br, off, rfl, hc⟩
  · exact .inl h0
  · refine .inr ⟨br, off, rfl, fun k hk => hg.cell (hc k hk) (fun e => ?_)⟩
    have h1 := hr br e.symm
    have h2 : br < b := hne _ rfl
    omega

def zerosB (n : Nat) : ByteArray := strOfNums (List.replicate n 0)
theorem zerosB_size (n : Nat) : (zerosB n).size = n := by unfold zerosB; rw [strOfNums_size, List.length_replicate]

theorem owns_none {w w' : World} {base : Nat} {e : TypeId} {v : Value} {n : Nat} {xs : List Value} (h : w.ownsRow base e 1 v n xs) (hg : w.grownBy w' none) : w'.ownsRow base e 1 v n xs := by
  refine h.kept hg ?_
  cases hv : v.ownBlock with
  | none => exact .inl rfl
  | some k => exact .inr (fun e => by cases e)

/-- What the drawing leaves. -/
def JPost (w : World) (e : Ending) (w' : World) : Prop :=
  ∃ (v : Value) (ss : List ByteArray) (sep : ByteArray), e = .returned (.tuple #[v, .string sep]) ∧ w'.ownsRow w.heap.size 9 1 v ss.length (ss.map Value.string) ∧ ss.length ≤ 4 ∧ total ss ≤ 5000 ∧ sep.size ≤ 16 ∧ Below w.heap.size w w'

theorem rebase {w : World} {b b' : Nat} {e : TypeId} {size : Nat} {v : Value} {n : Nat} {xs : List Value} (h : w.ownsRow b e size v n xs) (hb : b' ≤ b) : w.ownsRow b' e size v n xs := by
  refine ⟨h.1, ?_⟩
  rcases h.2 with h2 | ⟨g, cap, cur, hv, hg, r⟩
  · exact .inl h2
  · exact .inr ⟨g, cap, cur, hv, Nat.le_trans hb hg, r⟩

set_option maxHeartbeats 2000000 in
theorem drawJoin (a : Option Addr) (n cap : Nat) (xs : Nat → Nat) (w : World) (hc : Drw.Code w a n xs) :
    Calls Try.prog 11 #[.slice a n cap] w (JPost w) := by
  obtain ⟨i0, hi, hz0, hz1, hz2⟩ := info_parts sInfo
  obtain ⟨j0, hj, hy0, hy1, hy2⟩ := info_parts bInfo
  have hs := (Drw.start hc cap).below ((Below.refl _ _).alloc (Nat.le_refl _) (.cells #[] 9))
  have c1 := Lib.hid (pick_any _ 0 4 _ (by omega) (by omega) (by omega) hs)
  have HB := Lib.hid (show Below w.heap.size w ((w.alloc (.cells #[.slice a n cap, .int .i64 0, .int .u64 0] 44)).alloc (.cells #[] 9)) from ((Below.refl _ _).alloc (Nat.le_refl _) _).alloc (by simp) _)
  have HO := Lib.hid (show ((w.alloc (.cells #[.slice a n cap, .int .i64 0, .int .u64 0] 44)).alloc (.cells #[] 9)).ownsRow (w.heap.size + 1) 9 1 (.slice (some ⟨w.heap.size + 1, 0, none⟩) 0 0) 0 [] from by
    have := World.ownsRow_made (e := 9) (size := 1) (base := w.heap.size + 1) (w.alloc (.cells #[.slice a n cap, .int .i64 0, .int .u64 0] 44)) #[] 0 (by simp) (Nat.zero_le _) rfl
    rwa [World.size_alloc] at this)
  clear hs hc
  go_enter Try.func11, Try.ntmps11
  go_wp2_with fail
  refine c1.out.mono ?_
  rintro e w1 ⟨⟨q, rfl, _, hq⟩, hok1, hg1⟩
  have hq3 : q ≤ 3 := by omega
  have HB1 := Lib.hid (below_of_grown HB.out hg1 (Nat.le_refl _))
  have HO1 := Lib.hid (owns_kept HO.out hg1 (Nat.lt_succ_self _))
  have HK1 := Lib.hid hok1
  clear hok1 hg1 hq
  go_wp2_with fail
  go_loopw [5, 7] (fun l i wr => ∃ (k : Nat) (ss : List ByteArray), k ≤ q ∧ i = .int .i64 k ∧ ss.length = k ∧ total ss ≤ 16 * k ∧ wr.ownsRow (w.heap.size + 1) 9 1 l k (ss.map Value.string) ∧ Ok wr w.heap.size (2 + 2 * k) ∧ Below w.heap.size w wr) (fun _ i _ => q - (intOf i).toNat)
  case atStart => exact ⟨0, [], Nat.zero_le _, rfl, rfl, Nat.le_refl _, HO1.out, HK1.out, HB1.out⟩
  case round =>
    obtain ⟨k, ss, hk, rfl, hsl, htot, hown, hok, hb⟩ := hrel
    have HL := Lib.hid hsl
    have HW := Lib.hid hown
    have HK := Lib.hid hok
    have HX := Lib.hid hb
    clear hsl hown hok hb
    by_cases hlt : k < q
    · go_wp2_with fail
      refine (any1_any w.heap.size (2 + 2 * k) _ (by omega) HK.out).mono ?_
      rintro e w2 ⟨⟨s, rfl, hs⟩, hok2, hg2⟩
      have hown2 := owns_kept HW.out hg2 (Nat.lt_succ_self _)
      have HX2 := Lib.hid (below_of_grown HX.out hg2 (Nat.le_refl _))
      have hsz := HX2.out.size
      have hlb := hok2.lt
      have HK2 := Lib.hid (hok2.below ((Below.refl _ _).alloc (Nat.le_refl _) (.cells #[.string s] 9)))
      clear hok2 hg2
      go_wp2_with (at_builtin; refine wpList_append_own _ rfl (.tmp 19) (.tmp 22) 26 rfl (w.heap.size + 1) 9 i0 (.string ByteArray.empty) 1 16 Try.underlying26 hi hz0 hz1 hz2 rfl (by decide) _ _ _ rfl (hown2.alloc _) ⟨w2.heap.size, 0, none⟩ 1 1 [.string s] rfl rfl (cell_one_new _ _ _) (by simp [Value.oneCell']) (by unfold maxLen; omega) (by omega) (by simp; omega) ?_; intro v' w3 hown3 hgrow _)
      have hr : ∀ j, (hown2.alloc (.cells #[.string s] 9)).lt j = (hown2.alloc (.cells #[.string s] 9)).lt j := fun _ => rfl
      have hX3 := ((HX2.out.alloc hsz (.cells #[.string s] 9)).grown hgrow (by simp; omega) (fun j e => by have := (hown2.lt j e).1; omega))
      have hK3 := ok_beside HK2.out hgrow (fun j e => by have := (hown2.lt j e).1; omega)
      go_roundw
      case rel => exact ⟨k + 1, ss ++ [s], by omega, by go_num, by simp [HL.out], by rw [total_append]; simp [total]; omega, by simpa using hown3, hK3.mono (by omega), hX3⟩
      case measure => simp [intOf]; omega
    · obtain rfl : k = q := by omega
      go_wp2_with fail
      refine (one_any w.heap.size (2 + 2 * k) 20 _ (by omega) (by omega) (by omega) HK.out).mono ?_
      rintro e w2 ⟨⟨t, rfl⟩, hok2, hg2⟩
      have HW2 := Lib.hid (owns_kept HW.out hg2 (Nat.lt_succ_self _))
      have HX2 := Lib.hid (below_of_grown HX.out hg2 (Nat.le_refl _))
      have HK2 := Lib.hid hok2
      clear hok2 hg2
      cases t with
      | false =>
        go_wp2_with fail
        refine (of_new w.heap.size (2 + 2 * k + 2) seps2 _ (by omega) rfl HK2.out).mono ?_
        rintro e w3 ⟨⟨r, _, rfl⟩, hok3, hg3⟩
        have hown3 := Lib.hid (owns_kept HW2.out hg3 (Nat.lt_succ_self _))
        have hb3 := Lib.hid (below_of_grown HX2.out hg3 (Nat.le_refl _))
        clear hok3 hg3
        have hsp := sAt_small seps2_small r
        have hl := HL.out
        go_wp2_with fail
        go_ret2
        exact ⟨_, ss, _, rfl, by rw [HL.out]; exact rebase hown3.out (Nat.le_succ _), by omega, by omega, hsp, hb3.out⟩
      | true =>
        go_wp2_with fail
        refine (pick_any w.heap.size (2 + 2 * k + 2) 20 _ (by omega) (by omega) (by omega) HK2.out).mono ?_
        rintro e w3 ⟨⟨p, rfl, _, hp⟩, hok3, hg3⟩
        have hp20 : p < 20 := by omega
        have hown3 := Lib.hid (owns_kept HW2.out hg3 (Nat.lt_succ_self _))
        have HX3 := Lib.hid (below_of_grown HX2.out hg3 (Nat.le_refl _))
        have HK3 := Lib.hid hok3
        clear hok3 hg3 hp
        go_wp2_with (at_make; refine wpList_make_full _ rfl _ _ 22 rfl w3.heap.size 5 j0 (.int .u8 0) 1 Try.underlying22 hj hy0 hy1 .i64 .i64 _ _ (3990 + p) rfl rfl (by omega) (by omega) ?b2 ?b3 (Nat.le_refl _) ?_)
        case b2 => rw [hy2]; omega
        case b3 => unfold maxLen; omega
        intro w4 hown4 hgrow4
        have hz : (madeCells #[Value.int .u8 0] (3990 + p)).toList = List.replicate (3990 + p) (.int .u8 0) := toList_madeCells_one _ _
        rw [hz] at hown4
        have hcv := run_convert_bytes_arg (P := Try.prog) w4 22 5 Try.underlying22 Try.underlying5 w3.heap.size 0 (3990 + p) (3990 + p) (List.replicate (3990 + p) 0) (by simp) (by
          intro i hi
          have hh := hown4.cellAt i (by omega)
          rw [Nat.zero_add, hh, List.getElem?_replicate, if_pos hi]
          simp [List.getD, hi]) 9 Try.underlying9
        have hzd : strOfNums (List.replicate (3990 + p) 0) = zerosB (3990 + p) := rfl
        rw [hzd] at hcv
        have HZ := Lib.hid (zerosB_size (3990 + p))
        have hown4' := owns_none hown3.out hgrow4
        have HX4 := Lib.hid (HX3.out.grown hgrow4 HX3.out.size (fun j e => by cases e))
        have HK4 := Lib.hid (ok_beside HK3.out hgrow4 (fun j e => by cases e))
        have hsz := HX4.out.size
        have hlb := HK4.out.lt
        have HK5 := Lib.hid (HK4.out.below ((Below.refl _ _).alloc (Nat.le_refl _) (.cells #[.string (zerosB (3990 + p))] 9)))
        have HX5 := Lib.hid (HX4.out.alloc hsz (.cells #[.string (zerosB (3990 + p))] 9))
        clear hz hzd hown4 hgrow4
        go_wp2_with (at_builtin; refine wpList_append_own _ rfl (.tmp 26) (.tmp 32) 26 rfl (w.heap.size + 1) 9 i0 (.string ByteArray.empty) 1 16 Try.underlying26 hi hz0 hz1 hz2 rfl (by decide) _ _ _ rfl (hown4'.alloc _) ⟨w4.heap.size, 0, none⟩ 1 1 [.string (zerosB (3990 + p))] rfl rfl (cell_one_new _ _ _) (by simp [Value.oneCell']) (by unfold maxLen; omega) (by omega) (by simp; omega) ?_; intro v' w5 hown5 hgrow5 _)
        have hK6 := ok_beside HK5.out hgrow5 (fun j e => by have := (hown4'.lt j e).1; omega)
        have HX6 := Lib.hid (HX5.out.grown hgrow5 (by simp; omega) (fun j e => by have := (hown4'.lt j e).1; omega))
        refine (of_new w.heap.size (2 + 2 * k + 2 + 2) seps2 _ (by omega) rfl hK6).mono ?_
        rintro e w6 ⟨⟨r, _, rfl⟩, hok7, hg7⟩
        have hown7 := Lib.hid (owns_kept hown5 hg7 (Nat.lt_succ_self _))
        have hb7 := Lib.hid (below_of_grown HX6.out hg7 (Nat.le_refl _))
        clear hok7 hg7 hown5 hgrow5 hK6
        have hsp := sAt_small seps2_small r
        go_wp2_with fail
        go_ret2
        have hl := HL.out
        have hzz := HZ.out
        have h7 := rebase hown7.out (Nat.le_succ _)
        exact ⟨_, ss ++ [zerosB (3990 + p)], _, rfl, by simpa [HL.out] using h7, by simp; omega, by rw [total_append]; simp [total]; omega, hsp, hb7.out⟩

end Go.Proofs.Ytcilgbniahaejaa.DrwJ
