/- A sheet: the program. -/
import Derived.Test.YtpfjdlaaakkimaaDoorShtM
import Derived.Test.YtpfjdlaaakkimaaDoorBldS
namespace Go.Proofs.YtpfjdlaaakkimaaDoor.ShtI
open Go.RowKit Lb Bk FtS FtL Fmt TxF ShtM BldS
set_option linter.unusedSimpArgs false
set_option linter.unusedVariables false

/-- A hundred Bools in a block. -/
def BlkU (w : World) (g : Nat) (u : Nat → Bool) : Prop := ∃ cs, Blk w g 94 cs ∧ cs.size = 100 ∧ ∀ c, c < 100 → cs[c]? = some (.bool (u c))
theorem BlkU.later {w w' : World} {g : Nat} {u : Nat → Bool} (H : BlkU w g u) (hb : Below w.heap.size w w') : BlkU w' g u := by
  obtain ⟨cs, hB, hs, hc⟩ := H
  exact ⟨cs, hB.later hb, hs, hc⟩
theorem BlkU.cell {w : World} {g : Nat} {u : Nat → Bool} (H : BlkU w g u) (c : Nat) (hc : c < 100) : w.cell? ⟨g, c, none⟩ = some (.bool (u c)) ∧ w.frozen? ⟨g, c, none⟩ = false := by
  obtain ⟨cs, hB, hs, h⟩ := H
  exact ⟨hB.cell c (h c hc), hB.frozen c⟩
theorem BlkU.put {w : World} {g : Nat} {u : Nat → Bool} (H : BlkU w g u) {p : Nat} (hp : p < 100) : BlkU (w.setCell ⟨g, p, none⟩ (.bool true)) g (fun c => if c = p then true else u c) := by
  obtain ⟨cs, hB, hs, hc⟩ := H
  refine ⟨_, hB.set_ p _, by simp [hs], fun j hj => ?_⟩
  show _ = some (Value.bool (if j = p then true else u j))
  by_cases e : j = p
  · subst e
    rw [if_pos rfl, Array.getElem?_setIfInBounds_self_of_lt (by omega)]
  · rw [if_neg e, Array.getElem?_setIfInBounds_ne (by omega)]
    exact hc j hj
theorem BlkU.congr {w : World} {g : Nat} {u u' : Nat → Bool} (H : BlkU w g u) (e : ∀ c, c < 100 → u c = u' c) : BlkU w g u' := by
  obtain ⟨cs, hB, hs, hc⟩ := H
  exact ⟨cs, hB, hs, fun j hj => by rw [hc j hj, e j hj]⟩

theorem zero_u : Tryd.zeroCells94 = (List.replicate 100 (Value.bool false)).toArray := by kernel_rfl
theorem start_u (w : World) (g : Nat) (e : g = w.heap.size) : BlkU (w.alloc (.cells Tryd.zeroCells94 94)) g (fun _ => false) := by
  refine ⟨_, Blk.at_ e, by rw [zero_u]; simp, fun c hc => ?_⟩
  rw [zero_u, List.getElem?_toArray, List.getElem?_replicate, if_pos hc]

/-- Which codes the first 'k' have. -/
def us (h : Nat → Ft) : Nat → Nat → Bool
  | 0, _ => false
  | k + 1, c => if c = (h k).c.toNat then true else us h k c
theorem us_iff {h : Nat → Ft} {c : Nat} : ∀ {k : Nat}, (∀ i, i < k → okF (h i) = true) → (us h k c = true ↔ ∃ i, i < k ∧ (h i).c = (c : Int))
  | 0, _ => ⟨fun e => (by cases e), fun ⟨i, hi, _⟩ => (by omega)⟩
  | k + 1, hk => by
    have ih := us_iff (h := h) (c := c) (k := k) (fun i hi => hk i (by omega))
    have hok : OkF (h k) := of_decide_eq_true (hk k (by omega))
    have hb := hok.2.1
    rw [us]
    by_cases e : c = (h k).c.toNat
    · rw [if_pos e]
      exact ⟨fun _ => ⟨k, by omega, by omega⟩, fun _ => rfl⟩
    · rw [if_neg e, ih]
      constructor
      · rintro ⟨i, hi, he⟩; exact ⟨i, by omega, he⟩
      · rintro ⟨i, hi, he⟩
        by_cases ek : i = k
        · subst ek; omega
        · exact ⟨i, by omega, he⟩

set_option maxRecDepth 20000 in
set_option maxHeartbeats 2000000 in
theorem impl_long (a : Option Addr) (cap n : Nat) (w : World) (hn : 20 < n) (hl : n ≤ 1048576) :
    Calls Tryd.prog 23 #[.slice a n cap] w fun e w' => e = .returned (.tuple #[.string ⟨#[]⟩, .bool false]) ∧ Below w.heap.size w w' := by
  go_enter Tryd.func23, Tryd.ntmps23
  go_wp2
  go_ret2
  exact ⟨rfl, Below.refl _ _⟩

theorem BlkU.lt {w : World} {g : Nat} {u : Nat → Bool} (H : BlkU w g u) : g < w.heap.size := by obtain ⟨cs, hB, _⟩ := H; exact hB.lt
theorem isb_later {w w' : World} {b : Nat} {l : List UInt8} (h : Isb b l w) (hb : Below w.heap.size w w') : Isb b l w' := by
  rcases h with h | h
  · obtain ⟨hB, v, hbk, hown, hne⟩ := h
    exact .inl ⟨hB, v, (hb.block b (Array.getElem?_eq_some_iff.1 hbk).1).trans hbk, owns_below hown hb, hne⟩
  · obtain ⟨hB, v, hbk, hown, hne⟩ := h
    exact .inr ⟨hB, v, (hb.block b (Array.getElem?_eq_some_iff.1 hbk).1).trans hbk, owns_below hown hb, hne⟩
theorem isb_set {w : World} {b g : Nat} {l : List UInt8} {t : TypeId} {cs : Array Value} (h : Isb b l w) (hk : Blk w g t cs) (hg : b ≠ g) (ht : t ≠ 5) (i : Nat) (u : Value) : Isb b l (w.setCell ⟨g, i, none⟩ u) := by
  have hgr : w.grownBy (w.setCell ⟨g, i, none⟩ u) (some g) := ⟨rfl, rfl, rfl, by simp, fun k _ hr => Below.heap_setCell w ⟨g, i, none⟩ u k (fun e => hr (by rw [e]))⟩
  rcases h with h | h
  · obtain ⟨hB, v, hbk, hown, hne⟩ := h
    exact .inl ⟨hB, v, (Below.heap_setCell w ⟨g, i, none⟩ u b hg).trans hbk, hown.kept hgr (.inr (own_ne hown hk ht)), hne⟩
  · obtain ⟨hB, v, hbk, hown, hne⟩ := h
    exact .inr ⟨hB, v, (Below.heap_setCell w ⟨g, i, none⟩ u b hg).trans hbk, hown.kept hgr (.inr (own_ne hown hk ht)), hne⟩
theorem back (s : ByteArray) : (⟨s.data.toList.toArray⟩ : ByteArray) = s := by cases s; simp
theorem isb_alloc {w : World} {b : Nat} {l : List UInt8} (h : Isb b l w) (o : Obj) : Isb b l (w.alloc o) := isb_later h ((Below.refl _ _).alloc (Nat.le_refl _) o)

/-- What stands between two rounds. -/
structure Sst (w W : World) (b : Nat) (h : Nat → Ft) (k : Nat) : Prop where
  B : Below w.heap.size w W
  U : BlkU W (b + 1) (us h k)
  S : Isb b (sh h k).data.toList W

theorem Sst.later {w W W' : World} {b k : Nat} {h : Nat → Ft} (H : Sst w W b h k) (hb : Below W.heap.size W W') : Sst w W' b h k := ⟨H.B.trans (hb.mono H.B.size), H.U.later hb, isb_later H.S hb⟩

set_option maxRecDepth 20000 in
set_option maxHeartbeats 8000000 in
theorem impl_loop (a : Option Addr) (cap n m : Nat) (h : Nat → Ft) (w : World) (hr : FRow w a n h) (hn : n ≤ 20) (hm : m ≤ n) (hok : ∀ i, i < m → Gd h i) (hbad : m < n → ¬ Gd h m) (t : ByteArray) (ok : Bool) (hz1 : m < n → t = ⟨#[]⟩ ∧ ok = false) (hz2 : m = n → t = sh h n ∧ ok = true) :
    Calls Tryd.prog 23 #[.slice a n cap] w fun e w' => e = .returned (.tuple #[.string t, .bool ok]) ∧ Below w.heap.size w w' := by
  have HZ1 := Lib.hid hz1
  have HZ2 := Lib.hid hz2
  have H := Lib.hid hr
  have HO := Lib.hid hok
  have HM := Lib.hid hbad
  clear hr hok hbad hz1 hz2
  go_enter Tryd.func23, Tryd.ntmps23
  go_wp2
  obtain ⟨b, hb⟩ : ∃ b, w.heap.size = b := ⟨_, rfl⟩
  have HC := Lib.hid (show Sst w ((w.alloc (.cells #[.pointer none, .slice none 0 0] 93)).alloc (.cells Tryd.zeroCells94 94)) b h 0 from by
    subst hb
    exact ⟨((Below.refl _ _).alloc (Nat.le_refl _) _).alloc (by simp) _, start_u _ _ (by simp), isb_alloc (fresh w) _⟩)
  have hbw : w.heap.size ≤ b := by omega
  rw [hb]
  clear hb
  go_loopw [15, 6, 7, 8, 9] (fun i _ _ _ _ wr => ∃ k : Nat, k ≤ m ∧ i = .int .i64 k ∧ Sst w wr b h k) (fun i _ _ _ _ _ => n - (intOf i).toNat)
  case atStart => exact ⟨0, Nat.zero_le _, rfl, HC.out⟩
  case round =>
    obtain ⟨k, hk, rfl, hc⟩ := hrel
    have HCr := Lib.hid hc
    clear hc HC
    by_cases hlt : k < n
    · obtain ⟨b1, off, rfl, c0, c1, c2, c3, c4⟩ := (H.out.later HCr.out.B).five hlt
      obtain ⟨f, hf⟩ : ∃ f, h k = f := ⟨_, rfl⟩
      have HF := Lib.hid hf
      rw [hf] at c0 c1 c2 c3 c4
      clear hf
      have HX := Lib.hid (HCr.out.later ((Below.refl _ _).alloc (Nat.le_refl _) (.cells #[.int .i64 f.c, .string f.wh, .string f.wt, .string f.lk, .string f.sd] 25)))
      have HK := Lib.hid (Blk.new wr 25 #[.int .i64 f.c, .string f.wh, .string f.wt, .string f.lk, .string f.sd])
      have hbr : b + 1 < wr.heap.size := HCr.out.U.lt
      clear HCr
      go_wp2_with fail
      clear c0 c1 c2 c3 c4
      refine (TxF.impl_any f _).mono ?_
      rintro e w2 ⟨rfl, hb2⟩
      have HX2 := Lib.hid (HX.out.later hb2)
      have HK2 := Lib.hid (HK.out.later hb2)
      have hs2 := hb2.size
      simp only [World.size_alloc] at hs2
      clear hb2 HX HK
      obtain ⟨p0, p1, p2, p3, p4, -⟩ := HK2.out.five
      by_cases hokk : okF f = true
      · have HOF := Lib.hid (of_decide_eq_true (p := OkF f) hokk)
        have HT := Lib.hid (tx_yes hokk)
        have hcb := HOF.out.2.1
        obtain ⟨c, hcc⟩ : ∃ c : Nat, f.c = (c : Int) := ⟨f.c.toNat, by omega⟩
        have HCC := Lib.hid hcc
        rw [hcc] at p0 hcb
        have hc100 : c < 100 := by omega
        rw [hokk]
        obtain ⟨u0, u1⟩ := HX2.out.U.cell c hc100
        by_cases hus : us h k c = true
        · have hkm : ¬ k < m := fun hkm => by
            obtain ⟨i, hi, he⟩ := (us_iff (fun i hi => (HO.out i (by omega)).1)).1 hus
            exact (HO.out k hkm).2 i hi (by rw [he, HF.out, HCC.out])
          obtain rfl : k = m := by omega
          obtain ⟨ez, eo⟩ := HZ1.out hlt
          have HE := Lib.hid ez
          have HE' := Lib.hid eo
          rw [hus] at u0
          clear ez eo hus hcc hokk
          go_wp2
          go_ret2
          exact ⟨by rw [HE.out, HE'.out]; rfl, HX2.out.B⟩
        · have hus' : us h k c = false := by simpa using hus
          have hkm : k < m := by
            rcases Nat.lt_or_ge k m with h1 | h1
            · exact h1
            · obtain rfl : k = m := by omega
              refine absurd ⟨by rw [HF.out]; exact hokk, fun i hi he => hus ?_⟩ (HM.out hlt)
              exact (us_iff (fun i hi => (HO.out i hi).1)).2 ⟨i, hi, by rw [he, HF.out, hcc]⟩
          have HP := Lib.hid (HX2.out.U.put hc100)
          have hd7 := dec_le k (by omega)
          have htx := tx_size (f := f)
          rw [hus'] at u0
          have hfr := u1
          clear hus hus' hcc hokk
          have HSB := Lib.hid (show Isb b (sh h k).data.toList (w2.setCell ⟨b + 1, c, none⟩ (.bool true)) from by
            obtain ⟨cs, hB, -⟩ := HX2.out.U
            exact isb_set HX2.out.S hB (by omega) (by decide) _ _)
          have HBB := Lib.hid (HX2.out.B.setCell (p := ⟨b + 1, c, none⟩) (by show w.heap.size ≤ b + 1; omega) (.bool true))
          have hsz := sh_size (fun i hi => HO.out i (by omega)) (show k ≤ 1000 by omega)
          have hbz := HX2.out.U.lt
          have hds : (⟨#[46, 32]⟩ : ByteArray).size = 2 := rfl
          have hns : (⟨#[10]⟩ : ByteArray).size = 1 := rfl
          go_wp2_with fail
          rw [show ((k : Int) + 1) = ((k + 1 : Nat) : Int) from rfl]
          refine (itoa_n k (by omega) _).mono ?_
          rintro e w3 ⟨rfl, rfl⟩
          go_wp2_with fail
          refine (text_any b (sh h k).data.toList _ _ HSB.out (by
            simp only [ByteArray.size_append, hds, hns]
            have e1 : (sh h k).data.toList.length = (sh h k).size := Array.length_toList
            omega) (by simp; omega)).mono ?_
          rintro e w4 ⟨rfl, hs4, hb4, hk4⟩
          have HX4 := Lib.hid (show Sst w w4 b h (k + 1) from by
            refine ⟨HBB.out.trans (hb4.mono hbw), ?_, ?_⟩
            · obtain ⟨cs, hB, h100, hc⟩ := HP.out
              refine BlkU.congr ⟨cs, hk4 _ _ _ hB (by omega) (by decide), h100, hc⟩ fun c' _ => ?_
              rw [us, HF.out, HCC.out, Int.toNat_natCast]
            · have e1 : sh h (k + 1) = sh h k ++ (dec (k + 1) ++ (⟨#[46, 32]⟩ : ByteArray) ++ tx f ++ (⟨#[10]⟩ : ByteArray)) := by
                rw [sh, ln, HF.out, HT.out]
                simp only [app_assoc]
              rw [e1, ByteArray.toList_data_append]
              exact hs4)
          clear hs4 hb4 hk4 HP HSB HBB HX2 HK2 u0 u1 hfr p0 p1 p2 p3 p4
          go_wp2
          go_roundw
          case rel => exact ⟨k + 1, by omega, by go_num, HX4.out⟩
          case measure => simp [intOf]; omega
      · have hok' : okF f = false := by simpa using hokk
        have hkm : ¬ k < m := fun hkm => hokk (by rw [← HF.out]; exact (HO.out k hkm).1)
        obtain rfl : k = m := by omega
        obtain ⟨ez, eo⟩ := HZ1.out hlt
        have HE := Lib.hid ez
        have HE' := Lib.hid eo
        rw [hok']
        clear ez eo hokk hok'
        go_wp2
        go_ret2
        exact ⟨by rw [HE.out, HE'.out]; rfl, HX2.out.B⟩
    · obtain rfl : k = n := by omega
      obtain rfl : k = m := by omega
      obtain ⟨ez, eo⟩ := HZ2.out rfl
      have HE := Lib.hid ez
      have HE' := Lib.hid eo
      have hbr : b + 1 < wr.heap.size := HCr.out.U.lt
      clear ez eo
      go_wp2_with fail
      refine (string_any b _ _ HCr.out.S (by omega)).mono ?_
      rw [back]
      rintro e w4 ⟨rfl, hb4⟩
      have HB4 := Lib.hid (HCr.out.B.trans (hb4.mono hbw))
      clear hb4
      go_wp2
      go_ret2
      exact ⟨by rw [HE.out, HE'.out]; rfl, HB4.out⟩

end Go.Proofs.YtpfjdlaaakkimaaDoor.ShtI
