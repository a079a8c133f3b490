/- The drawn inputs of formatting, parsing and sealing: contracts. -/
import Derived.Test.YtcilgbniahaejaaDoorCurT
import Derived.Test.YtcilgbniahaejaaDoorFmt
import Derived.Maps.AppendAt
namespace Go.Proofs.YtcilgbniahaejaaDoor.DrwS
open Go.RowKit Lb Cur Fmt
set_option linter.unusedSimpArgs false
set_option linter.unusedVariables false

/-- A list of bytes that came in. -/
def CodeS (w : World) (a : Option Addr) (n : Nat) (xs : Nat → Nat) : Prop :=
  n ≤ maxLen ∧ RowAt w a n (fun k => .int .u8 (xs k)) ∧ (∀ k, xs k ≤ 255) ∧ ∀ x, a = some x → x.block < w.heap.size

theorem CodeS.below {w w' : World} {a : Option Addr} {n : Nat} {xs : Nat → Nat} (h : CodeS w a n xs) (hb : Below w.heap.size w w') : CodeS w' a n xs := by
  obtain ⟨h1, h2, h3, h4⟩ := h
  exact ⟨h1, h2.below hb, h3, fun x e => Nat.lt_of_lt_of_le (h4 x e) hb.size⟩

theorem startS {w : World} {a : Option Addr} {n : Nat} {xs : Nat → Nat} (h : CodeS w a n xs) (cap : Nat) :
    Ok (w.alloc (.cells #[.slice a n cap, .int .i64 0, .int .u64 0] 37)) w.heap.size 0 := by
  obtain ⟨h1, h2, h3, h4⟩ := h
  refine ⟨a, n, cap, xs, 0, 0, heap_alloc_new w _, Nat.le_refl _, h1, by decide, h2.below ((Below.refl _ _).alloc (Nat.le_refl _) _), h3, fun x e => h4 x e⟩

theorem below_of_grown {w w1 w2 : World} {b : Nat} (h : Below w.heap.size w w1) (hg : w1.grownBy w2 (some b)) (hb : w.heap.size ≤ b) : Below w.heap.size w w2 :=
  h.grown hg h.size (fun k e => by cases e; exact hb)

theorem below_none {w w1 w2 : World} (h : Below w.heap.size w w1) (hg : w1.grownBy w2 none) : Below w.heap.size w w2 :=
  h.grown hg h.size (fun k e => by cases e)

theorem bInfo : (Tryd.prog.info? 5).map (fun i => (i.zero, i.size, i.bytes)) = some (some (.int .u8 0), 1, 1) := by kernel_rfl

def zerosB (n : Nat) : ByteArray := strOfNums (List.replicate n 0)
theorem zerosB_size (n : Nat) : (zerosB n).size = n := by unfold zerosB; rw [strOfNums_size, List.length_replicate]

set_option maxHeartbeats 1000000 in
theorem drawAppend (a : Option Addr) (n cap : Nat) (xs : Nat → Nat) (w : World) (hc : CodeS w a n xs) :
    Calls Tryd.prog 15 #[.slice a n cap] w fun e w' => (∃ s : ByteArray, e = .returned (.string s) ∧ s.size ≤ 4000) ∧ Below w.heap.size w w' := by
  obtain ⟨j0, hj, hy0, hy1, hy2⟩ := info_parts bInfo
  have hs := startS hc cap
  have c1 := Lib.hid (one_any _ 0 20 _ (by omega) (by omega) (by omega) hs)
  have HB := Lib.hid (show Below w.heap.size w (w.alloc (.cells #[.slice a n cap, .int .i64 0, .int .u64 0] 37)) from (Below.refl _ _).alloc (Nat.le_refl _) _)
  clear hs hc
  go_enter Tryd.func15, Tryd.ntmps15
  go_wp2_with fail
  refine c1.out.mono ?_
  rintro e w1 ⟨⟨t, rfl⟩, hok1, hg1⟩
  have HB1 := Lib.hid (below_of_grown HB.out hg1 (Nat.le_refl _))
  have HK1 := Lib.hid hok1
  clear hok1 hg1
  cases t with
  | false =>
    go_wp2_with fail
    refine (any1_any _ _ _ (by omega) HK1.out).mono ?_
    rintro e w2 ⟨⟨s, rfl, hs⟩, hok2, hg2⟩
    have HB2 := Lib.hid (below_of_grown HB1.out hg2 (Nat.le_refl _))
    clear hok2 hg2
    go_wp2_with fail
    go_ret
    exact ⟨⟨s, rfl, by omega⟩, HB2.out⟩
  | true =>
    go_wp2_with fail
    refine (pick_any _ _ 10 _ (by omega) (by omega) (by omega) HK1.out).mono ?_
    rintro e w3 ⟨⟨p, rfl, _, hp⟩, hok3, hg3⟩
    have hp10 : p < 10 := by omega
    have HX3 := Lib.hid (below_of_grown HB1.out hg3 (Nat.le_refl _))
    clear hok3 hg3 hp
    go_wp2_with (at_make; refine wpList_make_full _ rfl _ _ 22 rfl w3.heap.size 5 j0 (.int .u8 0) 1 Tryd.underlying22 hj hy0 hy1 .i64 .i64 _ _ (3990 + p) rfl rfl (by omega) (by omega) ?b2 ?b3 (Nat.le_refl _) ?_)
    case b2 => rw [hy2]; omega
    case b3 => unfold maxLen; omega
    intro w4 hown4 hgrow4
    have hz : (madeCells #[Value.int .u8 0] (3990 + p)).toList = List.replicate (3990 + p) (.int .u8 0) := toList_madeCells_one _ _
    rw [hz] at hown4
    have hcv := run_convert_bytes_arg (P := Tryd.prog) w4 22 5 Tryd.underlying22 Tryd.underlying5 w3.heap.size 0 (3990 + p) (3990 + p) (List.replicate (3990 + p) 0) (by simp) (by
      intro i hi
      have hh := hown4.cellAt i (by omega)
      rw [Nat.zero_add, hh, List.getElem?_replicate, if_pos hi]
      simp [List.getD, hi]) 9 Tryd.underlying9
    have hzd : strOfNums (List.replicate (3990 + p) 0) = zerosB (3990 + p) := rfl
    rw [hzd] at hcv
    have HZ := Lib.hid (zerosB_size (3990 + p))
    have HX4 := Lib.hid (below_none HX3.out hgrow4)
    clear hz hzd hown4 hgrow4
    go_wp2_with fail
    go_ret
    have hzz := HZ.out
    exact ⟨⟨_, rfl, by omega⟩, HX4.out⟩

def texts2 : List ByteArray := [⟨#[]⟩, ⟨#[45]⟩, ⟨#[45, 48]⟩, ⟨#[48, 48]⟩, ⟨#[48, 49]⟩, ⟨#[45, 45, 49]⟩, ⟨#[49, 120]⟩, ⟨#[57, 57, 57, 57, 57, 57]⟩, ⟨#[49, 48, 48, 48, 48, 48, 48]⟩, ⟨#[45, 57, 57, 57, 57, 57, 57]⟩, ⟨#[49, 56, 52, 52, 54, 55, 52, 52, 48, 55, 51, 55, 48, 57, 53, 53, 49, 54, 49, 55]⟩]
theorem texts2_small : ∀ s ∈ texts2, s.size ≤ 20 := by
  intro s hs
  simp only [texts2, List.mem_cons, List.not_mem_nil, or_false] at hs
  rcases hs with rfl | rfl | rfl | rfl | rfl | rfl | rfl | rfl | rfl | rfl | rfl <;> decide

theorem of_new2 (b m : Nat) (w : World) (hm : m ≤ 1152921504606846970) (hok : Ok w b m) :
    Calls Tryd.prog 27 #[.pointer (some ⟨b, 0, none⟩), .slice (some ⟨w.heap.size, 0, none⟩) 11 11] (w.alloc (.cells (texts2.map Value.string).toArray 9)) fun e w' => (∃ r, r < texts2.length ∧ e = .returned (.string (sAt texts2 r))) ∧ Ok w' b (m + 2) ∧ w.grownBy w' (some b) := by
  have hl := hok.lt
  have hB : Below w.heap.size w (w.alloc (.cells (texts2.map Value.string).toArray 9)) := (Below.refl _ _).alloc (Nat.le_refl _) _
  have := of_any b m (some ⟨w.heap.size, 0, none⟩) 11 texts2 _ hm (by decide) (by decide) (row_alloc w 9 texts2) (fun x e => by cases e; exact fun e => absurd e (by show w.heap.size ≠ b; omega)) (hok.below hB)
  exact this.mono fun e w' ⟨h1, h2, h3⟩ => ⟨h1, h2, gtrans (gbelow hB (some b)) h3⟩

set_option maxHeartbeats 1000000 in
theorem drawParse (a : Option Addr) (n cap : Nat) (xs : Nat → Nat) (w : World) (hc : CodeS w a n xs) :
    Calls Tryd.prog 12 #[.slice a n cap] w fun e w' => (∃ s : ByteArray, e = .returned (.string s) ∧ s.size ≤ 20) ∧ Below w.heap.size w w' := by
  have hs := startS hc cap
  have c1 := Lib.hid (one_any _ 0 2 _ (by omega) (by omega) (by omega) hs)
  have HB := Lib.hid (show Below w.heap.size w (w.alloc (.cells #[.slice a n cap, .int .i64 0, .int .u64 0] 37)) from (Below.refl _ _).alloc (Nat.le_refl _) _)
  clear hs hc
  go_enter Tryd.func12, Tryd.ntmps12
  go_wp2_with fail
  refine c1.out.mono ?_
  rintro e w1 ⟨⟨t, rfl⟩, hok1, hg1⟩
  have HB1 := Lib.hid (below_of_grown HB.out hg1 (Nat.le_refl _))
  have HK1 := Lib.hid hok1
  clear hok1 hg1
  cases t with
  | true =>
    go_wp2_with fail
    refine (of_new2 _ _ _ (by omega) HK1.out).mono ?_
    rintro e w2 ⟨⟨r, _, rfl⟩, hok2, hg2⟩
    have HB2 := Lib.hid (below_of_grown HB1.out hg2 (Nat.le_refl _))
    clear hok2 hg2
    have ht := sAt_small texts2_small r
    go_wp2_with fail
    go_ret
    exact ⟨⟨_, rfl, ht⟩, HB2.out⟩
  | false =>
    go_wp2_with fail
    refine (pick_any _ _ 2000 _ (by omega) (by omega) (by omega) HK1.out).mono ?_
    rintro e w3 ⟨⟨p, rfl, _, hp⟩, hok3, hg3⟩
    have hp10 : p < 2000 := by omega
    have HX3 := Lib.hid (below_of_grown HB1.out hg3 (Nat.le_refl _))
    clear hok3 hg3 hp
    have hsz := fmtB_size ((p : Int) - 1000) (by omega) (by omega)
    have hnum := Lib.hid (num_any ((p : Int) - 1000) (by omega) (by omega) w3)
    go_wp2_with fail
    refine hnum.out.mono ?_
    rintro e w4 ⟨rfl, hst⟩
    have HX4 := Lib.hid (HX3.out.trans (hst.below _))
    clear hst
    go_wp2_with fail
    go_ret
    exact ⟨⟨_, rfl, by omega⟩, HX4.out⟩

/-- One of some numbers. -/
theorem among_any (b m : Nat) (a : Option Addr) (cap : Nat) (zs : List Int) (w : World) (hm : m ≤ 1152921504606846970) (hpos : 0 < zs.length) (hl : zs.length ≤ 65536) (hr : IntRow w a zs) (hne : ∀ x, a = some x → x.block ≠ b) (hok : Ok w b m) :
    Calls Tryd.prog 21 #[.pointer (some ⟨b, 0, none⟩), .slice a zs.length cap] w fun e w' => (∃ r, r < zs.length ∧ e = .returned (.int .i64 (zs.getD r 0))) ∧ Ok w' b (m + 2) ∧ w.grownBy w' (some b) := by
  have c1 := Lib.hid (pick_any b m zs.length w hm (by omega) (by omega) hok)
  rcases hr with hr | ⟨g, off, rfl, hc⟩
  · omega
  have HC := Lib.hid hc
  have HN := Lib.hid (hne _ rfl)
  clear hok hne hc
  go_enter Tryd.func21, Tryd.ntmps21
  go_wp2_with fail
  refine c1.out.mono ?_
  rintro e w1 ⟨⟨r, rfl, _, hr⟩, hok1, hg1⟩
  have hlt : r < zs.length := by omega
  have g1 : w1.cell? ⟨g, off + r, none⟩ = some (.int .i64 (zs.getD r 0)) := hg1.cell (HC.out r hlt) (fun e => HN.out (by simpa using e))
  generalize hv : zs.getD r 0 = v at g1
  have HG := Lib.hid hg1
  have HO := Lib.hid hok1
  have HV := Lib.hid hv
  clear hok1 hg1 hr hv
  go_wp2_with fail
  go_ret
  exact ⟨⟨r, hlt, by rw [HV.out]; rfl⟩, HO.out, HG.out⟩

def nums (v : Int) : List Int := [0, 1, -1, 10, 999999, -999999, 1000000, -1000000, v]
theorem nums_bd (v : Int) (h0 : -500 ≤ v) (h1 : v ≤ 500) (r : Nat) : -1000000 ≤ (nums v).getD r 0 ∧ (nums v).getD r 0 ≤ 1000000 := by
  unfold nums
  match r with
  | 0 | 1 | 2 | 3 | 4 | 5 | 6 | 7 => simp
  | 8 => simp; omega
  | r + 9 => simp

theorem intRow_alloc (w : World) (e : TypeId) (zs : List Int) : IntRow (w.alloc (.cells (zs.map (Value.int .i64)).toArray e)) (some ⟨w.heap.size, 0, none⟩) zs := by
  refine .inr ⟨w.heap.size, 0, rfl, fun k hk => ?_⟩
  rw [Nat.zero_add, World.cell?_alloc_at _ _ _ _ rfl]
  simp [hk]

theorem among_new (b m : Nat) (v : Int) (w : World) (hm : m ≤ 1152921504606846970) (hok : Ok w b m) :
    Calls Tryd.prog 21 #[.pointer (some ⟨b, 0, none⟩), .slice (some ⟨w.heap.size, 0, none⟩) 9 9] (w.alloc (.cells ((nums v).map (Value.int .i64)).toArray 3)) fun e w' => (∃ r, r < (nums v).length ∧ e = .returned (.int .i64 ((nums v).getD r 0))) ∧ Ok w' b (m + 2) ∧ w.grownBy w' (some b) := by
  have hl := hok.lt
  have hB : Below w.heap.size w (w.alloc (.cells ((nums v).map (Value.int .i64)).toArray 3)) := (Below.refl _ _).alloc (Nat.le_refl _) _
  have := among_any b m (some ⟨w.heap.size, 0, none⟩) 9 (nums v) _ hm (by simp [nums]) (by simp [nums]) (intRow_alloc w 3 (nums v)) (fun x e => by cases e; exact fun e => absurd e (by show w.heap.size ≠ b; omega)) (hok.below hB)
  exact this.mono fun e w' ⟨h1, h2, h3⟩ => ⟨h1, h2, gtrans (gbelow hB (some b)) h3⟩

set_option maxHeartbeats 1000000 in
theorem drawFormat (a : Option Addr) (n cap : Nat) (xs : Nat → Nat) (w : World) (hc : CodeS w a n xs) :
    Calls Tryd.prog 9 #[.slice a n cap] w fun e w' => (∃ z : Int, e = .returned (.int .i64 z) ∧ -1000000 ≤ z ∧ z ≤ 1000000) ∧ Below w.heap.size w w' := by
  have hs := startS hc cap
  have c1 := Lib.hid (pick_any _ 0 1000 _ (by omega) (by omega) (by omega) hs)
  have HB := Lib.hid (show Below w.heap.size w (w.alloc (.cells #[.slice a n cap, .int .i64 0, .int .u64 0] 37)) from (Below.refl _ _).alloc (Nat.le_refl _) _)
  clear hs hc
  go_enter Tryd.func9, Tryd.ntmps9
  go_wp2_with fail
  refine c1.out.mono ?_
  rintro e w1 ⟨⟨p, rfl, _, hp⟩, hok1, hg1⟩
  have hp10 : p < 1000 := by omega
  have HB1 := Lib.hid (below_of_grown HB.out hg1 (Nat.le_refl _))
  have HK1 := Lib.hid hok1
  clear hok1 hg1 hp
  go_wp2_with fail
  refine (among_new _ _ ((p : Int) - 500) _ (by omega) HK1.out).mono ?_
  rintro e w2 ⟨⟨r, _, rfl⟩, hok2, hg2⟩
  have HB2 := Lib.hid (below_of_grown HB1.out hg2 (Nat.le_refl _))
  clear hok2 hg2
  have hbd := nums_bd ((p : Int) - 500) (by omega) (by omega) r
  generalize (nums ((p : Int) - 500)).getD r 0 = z at hbd ⊢
  go_wp2_with fail
  go_ret
  exact ⟨⟨z, rfl, hbd.1, hbd.2⟩, HB2.out⟩

/-- A choice out of the list. -/
def vt (n : Nat) (xs : Nat → Nat) (i : Nat) : Nat := if i < n then xs i else (i * 7 + n) % 256
theorem vt_le (n : Nat) (xs : Nat → Nat) (hx : ∀ k, xs k ≤ 255) (i : Nat) : vt n xs i ≤ 255 := by
  unfold vt
  split
  · exact hx i
  · omega

set_option maxHeartbeats 400000 in
theorem vAt_any (a : Option Addr) (n cap : Nat) (xs : Nat → Nat) (w : World) (hc : CodeS w a n xs) (hn : n ≤ 65536) (i : Nat) (hi : i ≤ 100) :
    Calls Tryd.prog 19 #[.slice a n cap, .int .i64 i] w fun e w' => e = .returned (.int .i64 (vt n xs i)) ∧ w' = w := by
  obtain ⟨h1, hr, hx, _⟩ := hc
  by_cases h : i < n
  · rcases hr with hr | ⟨g, off, rfl, hcl⟩
    · omega
    have g1 : w.cell? ⟨g, off + i, none⟩ = some (.int .u8 (xs i)) := hcl i h
    have h255 := hx i
    have hv : xs i = vt n xs i := by unfold vt; rw [if_pos h]
    rw [hv] at g1 h255
    generalize vt n xs i = v at g1 h255 ⊢
    clear hcl hv
    go_enter Tryd.func19, Tryd.ntmps19
    go_wp2
    go_ret
    exact ⟨rfl, rfl⟩
  · have hv : ((i : Int) * 7 + n) % 256 = (vt n xs i : Nat) := by unfold vt; rw [if_neg h]; rfl
    have hv2 : Int.tmod ((i : Int) * 7 + n) 256 = (vt n xs i : Nat) := by rw [Int.tmod_eq_emod_of_nonneg (by omega), hv]
    generalize vt n xs i = v at hv hv2 ⊢
    have HV := Lib.hid hv
    have HV2 := Lib.hid hv2
    clear hv hv2
    go_enter Tryd.func19, Tryd.ntmps19
    go_wp2
    go_ret
    exact ⟨by first | (rw [← HV.out]; rfl) | (rw [← HV2.out]; rfl), rfl⟩

end Go.Proofs.YtcilgbniahaejaaDoor.DrwS
