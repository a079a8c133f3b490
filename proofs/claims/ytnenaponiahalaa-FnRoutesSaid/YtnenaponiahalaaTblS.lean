/- Lists of lists of numbers: what they are in memory, and the laws' own helpers over them. -/
import Derived.Test.YtnenaponiahalaaSpecB
namespace Go.Proofs.Ytnenaponiahalaa.TblS
open Go.RowKit Lb IntS MapS SpecB
set_option linter.unusedSimpArgs false
set_option linter.unusedVariables false

theorem rInfo : (Try.prog.info? 24).map (fun i => (i.zero, i.size, i.bytes)) = some (some (.slice none 0 0), 1, 24) := by kernel_rfl

/-- 'n' lists of numbers that can be read. -/
def Rd (w : World) (a : Option Addr) (n : Nat) (zs : Nat → List Int) : Prop :=
  ∃ rs : Nat → Value, RowAt w a n rs ∧ ∀ i, i < n → ∃ ai ci, rs i = .slice ai (zs i).length ci ∧ IRow w ai (zs i)
theorem Rd.below {w w' : World} {a : Option Addr} {n : Nat} {zs : Nat → List Int} (h : Rd w a n zs) (hb : Below w.heap.size w w') : Rd w' a n zs := by
  obtain ⟨rs, h1, h2⟩ := h
  refine ⟨rs, RowAt.below h1 hb, fun i hi => ?_⟩
  obtain ⟨ai, ci, e, h3⟩ := h2 i hi
  exact ⟨ai, ci, e, RowAt.below h3 hb⟩
theorem Rd.belowB {B : Nat} {w w' : World} {a : Option Addr} {n : Nat} {zs : Nat → List Int} (h : Rd w a n zs) (hb : Below B w w') (hB : w.heap.size ≤ B) : Rd w' a n zs := h.below (hb.mono hB)

/-- Lists of the call's own: a row of rows, all in blocks of their own. -/
structure OwnP (w : World) (base : Nat) (v : Value) (n : Nat) (zs : Nat → List Int) (rs : Nat → Value) : Prop where
  tbl : w.ownsRow base 24 1 v n ((List.range n).map rs)
  row : ∀ i, i < n → OwnI w base (rs i) (zs i)
  ne : ∀ i j, i < j → j < n → ∀ x, (rs i).ownBlock = some x → (rs j).ownBlock ≠ some x
theorem OwnP.below {w w' : World} {base n : Nat} {v : Value} {zs : Nat → List Int} {rs : Nat → Value} (h : OwnP w base v n zs rs) (hb : Below w.heap.size w w') : OwnP w' base v n zs rs :=
  ⟨owns_below h.tbl hb, fun i hi => owns_below (h.row i hi) hb, h.ne⟩
theorem OwnP.rebase {w : World} {b b' n : Nat} {v : Value} {zs : Nat → List Int} {rs : Nat → Value} (h : OwnP w b v n zs rs) (hb : b' ≤ b) : OwnP w b' v n zs rs :=
  ⟨IntS.rebase h.tbl hb, fun i hi => IntS.rebase (h.row i hi) hb, h.ne⟩
theorem OwnP.rd {w : World} {base n cap : Nat} {a : Option Addr} {zs : Nat → List Int} {rs : Nat → Value} (h : OwnP w base (.slice a n cap) n zs rs) : Rd w a n zs := by
  refine ⟨rs, ?_, fun i hi => ?_⟩
  · rcases h.tbl.2 with ⟨_, h0⟩ | ⟨g, c, cur, hv, _⟩
    · exact .inl h0
    · obtain rfl : a = some ⟨g, 0, none⟩ := by simpa using (Value.slice.inj hv).1
      exact (RowAt.of_owns h.tbl).congr fun k hk => by simp [hk]
  · obtain ⟨ai, ci, e, hr, _⟩ := OwnI.slice (h.row i hi)
    exact ⟨ai, ci, e, hr⟩
theorem OwnP.slice {w : World} {base n : Nat} {v : Value} {zs : Nat → List Int} {rs : Nat → Value} (h : OwnP w base v n zs rs) : ∃ a cap, v = .slice a n cap := by
  rcases h.tbl.2 with ⟨rfl, h0⟩ | ⟨g, cap, cur, rfl, _⟩
  · exact ⟨none, 0, by rw [h0]⟩
  · exact ⟨_, cap, rfl⟩
/-- Two rows of different kinds lie apart. -/
theorem own_own_ne {w : World} {b b' : Nat} {e e' : TypeId} {v v' : Value} {n n' : Nat} {xs xs' : List Value} (h : w.ownsRow b e 1 v n xs) (h' : w.ownsRow b' e' 1 v' n' xs') (hne : e ≠ e') : ∀ x y, v.ownBlock = some x → v'.ownBlock = some y → x ≠ y := by
  rintro x y hx hy rfl
  rcases h.2 with ⟨rfl, _⟩ | ⟨g, cap, cur, rfl, hg, hh, _⟩
  · simp [Value.ownBlock] at hx
  · rcases h'.2 with ⟨rfl, _⟩ | ⟨g', cap', cur', rfl, hg', hh', _⟩
    · simp [Value.ownBlock] at hy
    · obtain rfl : g = x := by simpa [Value.ownBlock] using hx
      obtain rfl : g' = g := by simpa [Value.ownBlock] using hy
      rw [hh] at hh'
      injection hh' with h3
      injection h3 with _ h4
      exact hne h4
theorem own_lt {w : World} {b : Nat} {e : TypeId} {v : Value} {n : Nat} {xs : List Value} (h : w.ownsRow b e 1 v n xs) : ∀ x, v.ownBlock = some x → b ≤ x ∧ x < w.heap.size := h.lt
/-- The sum of the lengths ahead of a list. -/
def tot (zs : Nat → List Int) : Nat → Nat
  | 0 => 0
  | n + 1 => tot zs n + (zs n).length
theorem tot_le {zs : Nat → List Int} {c n : Nat} (h : ∀ i, i < n → (zs i).length ≤ c) : tot zs n ≤ c * n := by
  induction n with
  | zero => simp [tot]
  | succ n ih =>
    have h1 := ih fun i hi => h i (by omega)
    have h2 := h n (by omega)
    rw [tot, Nat.mul_succ]
    omega
theorem tot_mono {zs : Nat → List Int} {i n : Nat} (h : i ≤ n) : tot zs i ≤ tot zs n := by
  induction n with
  | zero => simp [show i = 0 by omega]
  | succ n ih =>
    by_cases e : i = n + 1
    · subst e; exact Nat.le_refl _
    · have := ih (by omega)
      rw [tot]; omega
/-- What stands in the lists when the first 'i' are marked. -/
def mk (k : Int) (zs : Nat → List Int) (i : Nat) : Nat → List Int := fun j => if j < i then markZ (k + tot zs j) (zs j).length else zs j
theorem mk_zero (k : Int) (zs : Nat → List Int) : mk k zs 0 = zs := by funext j; simp [mk]
theorem mk_length (k : Int) (zs : Nat → List Int) (i j : Nat) : (mk k zs i j).length = (zs j).length := by
  unfold mk; split <;> simp [markZ_length]
theorem mk_succ_ne (k : Int) (zs : Nat → List Int) {i j : Nat} (h : j ≠ i) : mk k zs (i + 1) j = mk k zs i j := by
  unfold mk
  by_cases e : j < i
  · rw [if_pos e, if_pos (by omega)]
  · rw [if_neg e, if_neg (by omega)]
theorem mk_succ_at (k : Int) (zs : Nat → List Int) (i : Nat) : mk k zs (i + 1) i = markZ (k + tot zs i) (zs i).length := by
  unfold mk; rw [if_pos (by omega)]
theorem mk_at (k : Int) (zs : Nat → List Int) (i : Nat) : mk k zs i i = zs i := by unfold mk; rw [if_neg (by omega)]

/-- One list of the table has been written. -/
theorem OwnP.set_ {w w' : World} {base n : Nat} {v : Value} {zs : Nat → List Int} {rs : Nat → Value} (h : OwnP w base v n zs rs) {i : Nat} (hi : i < n) {zs' : Nat → List Int} (hz : ∀ j, j ≠ i → zs' j = zs j) (ho : OwnI w' base (rs i) (zs' i)) (hg : w.grownBy w' (rs i).ownBlock) : OwnP w' base v n zs' rs := by
  refine ⟨own_grown h.tbl hg (own_own_ne h.tbl (h.row i hi) (by decide)), fun j hj => ?_, h.ne⟩
  by_cases e : j = i
  · subst e; exact ho
  · rw [hz j e]
    refine own_grown (h.row j hj) hg (fun x y hx hy => ?_)
    rcases Nat.lt_or_gt_of_ne e with hlt | hgt
    · rintro rfl; exact h.ne j i hlt hi x hx hy
    · rintro rfl; exact h.ne i j hgt hj x hy hx

set_option maxHeartbeats 1000000 in
theorem mark_any (base : Nat) (a : Option Addr) (cap n : Nat) (zs : Nat → List Int) (rs : Nat → Value) (k : Int) (w : World) (h : OwnP w base (.slice a n cap) n zs rs) (hb : base ≤ w.heap.size) (hn : n ≤ maxLen) (h0 : 0 ≤ k) (h1 : k + tot zs n ≤ 9007199254740992) :
    Calls Try.prog 68 #[.slice a n cap, .int .i64 k] w fun e w' => e = .returned (.int .i64 (k + tot zs n)) ∧ OwnP w' base (.slice a n cap) n (mk k zs n) rs ∧ Below base w w' := by
  have HZ := Lib.hid (mk_zero k zs)
  unfold maxLen at hn
  have H := Lib.hid h
  clear h
  go_enter Try.func68, Try.ntmps68
  go_wp2
  go_loopg [1, 5] n (fun q kk ii wr => ∃ i : Nat, i ≤ n ∧ q = n - i ∧ ii = .int .i64 i ∧ kk = .int .i64 (k + tot zs i) ∧ OwnP wr base (.slice a n cap) n (mk k zs i) rs ∧ Below base w wr)
  case atStart => exact ⟨0, Nat.zero_le _, rfl, rfl, by simp [tot], by rw [HZ.out]; exact H.out, Below.refl _ _⟩
  case round =>
    obtain ⟨i, hi, hq, rfl, rfl, ho, hg⟩ := hrel
    have HO := Lib.hid ho
    have HG := Lib.hid hg
    clear ho hg
    by_cases hlt : i < n
    · have hrd := HO.out.rd
      obtain ⟨rs', hr1, hr2⟩ := hrd
      rcases HO.out.tbl.2 with ⟨_, hn0⟩ | ⟨g, c, cur, hv, _⟩
      · omega
      obtain rfl : a = some ⟨g, 0, none⟩ := by simpa using (Value.slice.inj hv).1
      obtain ⟨ai, ci, eri, -, -⟩ := OwnI.slice (HO.out.row i hlt)
      rw [mk_at] at eri
      have c1 : wr.cell? ⟨g, i, none⟩ = some (.slice ai (zs i).length ci) := by
        rw [HO.out.tbl.cellAt i (by omega)]
        simp [hlt, eri]
      have HR := Lib.hid (show OwnI wr base (.slice ai (zs i).length ci) (zs i) from by have := HO.out.row i hlt; rwa [mk_at, eri] at this)
      have HE := Lib.hid eri
      have ht1 := tot_mono (zs := zs) (show i + 1 ≤ n from hlt)
      rw [tot] at ht1
      clear hv hr1 hr2 eri
      go_wp2_with fail
      refine (IntS.mark_any base ai ci (zs i) _ _ HR.out (by omega) (by omega)).mono ?_
      rintro e w2 ⟨rfl, ho2, hg2⟩
      have HO2 := Lib.hid (HO.out.set_ hlt (zs' := mk k zs (i + 1)) (fun j e => mk_succ_ne k zs e) (w' := w2) (by rw [mk_succ_at, HE.out]; exact ho2) (by rw [HE.out]; exact hg2))
      have HB2 := Lib.hid (HG.out.grown hg2 (Nat.le_trans hb HG.out.size) (fun q e => (own_lt HR.out q e).1))
      clear ho2 hg2
      go_wp2
      go_roundg (n - (i + 1))
      case measure => omega
      case rel => exact ⟨i + 1, by omega, rfl, by go_num, by rw [tot]; go_num, HO2.out, HB2.out⟩
    · obtain rfl : i = n := by omega
      go_wp2
      go_ret
      exact ⟨rfl, HO.out, HG.out⟩

set_option maxHeartbeats 1000000 in
theorem held_any (a : Option Addr) (cap n : Nat) (zs : Nat → List Int) (k : Int) (w : World) (h : Rd w a n (mk k zs n)) (hn : n ≤ maxLen) (h0 : 0 ≤ k) (h1 : k + tot zs n ≤ 9007199254740992) :
    Calls Try.prog 69 #[.slice a n cap, .int .i64 k] w fun e w' => e = .returned (.int .i64 (k + tot zs n)) ∧ w' = w := by
  unfold maxLen at hn
  have H := Lib.hid h
  clear h
  go_enter Try.func69, Try.ntmps69
  go_wp2
  go_loop [1, 5] (fun kk ii => ∃ i : Nat, i ≤ n ∧ ii = .int .i64 i ∧ kk = .int .i64 (k + tot zs i)) (fun _ ii => n - (intOf ii).toNat)
  case atStart => exact ⟨0, Nat.zero_le _, rfl, by simp [tot]⟩
  case round =>
    obtain ⟨i, hi, rfl, rfl⟩ := hrel
    by_cases hlt : i < n
    · obtain ⟨rs, hr1, hr2⟩ := H.out
      rcases hr1 with h0 | ⟨b, off, rfl, hc⟩
      · omega
      obtain ⟨ai, ci, e, hr3⟩ := hr2 i hlt
      have c1 := hc i hlt
      rw [e, mk_length] at c1
      have HR := Lib.hid (show RowAt w ai (zs i).length (fun j => .int .i64 (k + tot zs i + j)) from by
        unfold IRow at hr3
        rw [mk_length] at hr3
        refine hr3.congr fun j hj => ?_
        rw [show mk k zs n i = markZ (k + tot zs i) (zs i).length from by unfold mk; rw [if_pos hlt], markZ_at _ _ _ hj])
      have ht1 := tot_mono (zs := zs) (show i + 1 ≤ n from hlt)
      rw [tot] at ht1
      clear hc hr2 hr3 e
      have ht2 : decide (k + (tot zs i : Int) + ((zs i).length : Int) < 0) = false := by simp; omega
      go_wp2_with fail
      refine (IntS.held_any ai ci (zs i).length _ _ HR.out (by omega) (by omega)).mono ?_
      rintro e w2 ⟨rfl, rfl⟩
      go_wp2
      go_round
      case rel => exact ⟨i + 1, by omega, by go_num, by rw [tot]; go_num⟩
      case measure => simp [intOf]; omega
    · obtain rfl : i = n := by omega
      go_wp2
      go_ret
      exact ⟨rfl, rfl⟩

set_option maxHeartbeats 1000000 in
theorem eq_same (a b : Option Addr) (cap cap' n : Nat) (zs : Nat → List Int) (w : World) (hr : Rd w a n zs) (hr' : Rd w b n zs) (hl : n ≤ maxLen) (hz : ∀ i, i < n → (zs i).length ≤ maxLen) :
    Calls Try.prog 67 #[.slice a n cap, .slice b n cap'] w fun e w' => e = .returned (.bool true) ∧ Below w.heap.size w w' := by
  unfold maxLen at hl
  have H := Lib.hid hr
  have H' := Lib.hid hr'
  clear hr hr'
  go_enter Try.func67, Try.ntmps67
  go_wp2
  go_loopg [5] n (fun q ii wr => ∃ i : Nat, i ≤ n ∧ q = n - i ∧ ii = .int .i64 i ∧ Below w.heap.size w wr)
  case atStart => exact ⟨0, Nat.zero_le _, rfl, rfl, Below.refl _ _⟩
  case round =>
    obtain ⟨i, hi, hq, rfl, hg⟩ := hrel
    have HG := Lib.hid hg
    clear hg
    by_cases hlt : i < n
    · obtain ⟨rs, hr1, hr2⟩ := H.out.below HG.out
      obtain ⟨rs', hr1', hr2'⟩ := H'.out.below HG.out
      rcases hr1 with h0 | ⟨b1, off1, rfl, hc1⟩
      · omega
      rcases hr1' with h0 | ⟨b2, off2, rfl, hc2⟩
      · omega
      obtain ⟨a1, k1, e1, h1⟩ := hr2 i hlt
      obtain ⟨a2, k2, e2, h2⟩ := hr2' i hlt
      have g1 := hc1 i hlt
      have g2 := hc2 i hlt
      rw [e1] at g1
      rw [e2] at g2
      have H1 := Lib.hid (show IRow wr.drew a1 (zs i) from h1)
      have H2 := Lib.hid (show IRow wr.drew a2 (zs i) from h2)
      have HD := Lib.hid (show Below w.heap.size w wr.drew from HG.out.drew)
      have HZ := Lib.hid (hz i hlt)
      clear hc1 hc2 hr2 hr2' e1 e2 h1 h2
      go_wp2_with fail
      go_region_with (go_at_call 61; refine (IntS.eq_same a1 a2 k1 k2 (zs i) _ H1.out H2.out HZ.out).mono ?_; rintro e w2 ⟨rfl, hb2⟩; have HB2 := Lib.hid (HD.out.trans (hb2.mono HD.out.size)); clear hb2)
      all_goals go_wp2
      all_goals go_roundg (n - (i + 1))
      all_goals first | omega | exact ⟨i + 1, by omega, rfl, by go_num, HB2.out⟩
    · obtain rfl : i = n := by omega
      go_wp2
      go_ret
      exact ⟨rfl, HG.out⟩

end Go.Proofs.Ytnenaponiahalaa.TblS
