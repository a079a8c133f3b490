/- How many features have each family: the program. -/
import Derived.Test.YtpfjdlaaakkimaaDoorIsF
import Derived.Test.YtpfjdlaaakkimaaDoorFtL
namespace Go.Proofs.YtpfjdlaaakkimaaDoor.CntI
open Go.RowKit Lb Bk Fam Word Fnd FtS FtL
set_option linter.unusedSimpArgs false
set_option linter.unusedVariables false

/-- How many of the first 'k' have the family 'j'. -/
def cnt (h : Nat → Ft) : Nat → Nat → Nat
  | 0, _ => 0
  | k + 1, j => if fam (h k).wt = j then cnt h k j + 1 else cnt h k j
theorem cnt_le (h : Nat → Ft) (j : Nat) : ∀ k, cnt h k j ≤ k
  | 0 => Nat.le_refl _
  | k + 1 => by have := cnt_le h j k; rw [cnt]; split <;> omega

/-- Five numbers in a block. -/
def BlkZ (w : World) (g : Nat) (c : Nat → Int) : Prop := ∃ cs, Blk w g 3 cs ∧ cs.size = 5 ∧ ∀ j, j < 5 → cs[j]? = some (.int .i64 (c j))
theorem BlkZ.later {w w' : World} {g : Nat} {c : Nat → Int} (H : BlkZ w g c) (hb : Below w.heap.size w w') : BlkZ w' g c := by
  obtain ⟨cs, hB, hs, hc⟩ := H
  exact ⟨cs, hB.later hb, hs, hc⟩
theorem BlkZ.lt {w : World} {g : Nat} {c : Nat → Int} (H : BlkZ w g c) : g < w.heap.size := by obtain ⟨cs, hB, _⟩ := H; exact hB.lt
theorem BlkZ.cell {w : World} {g : Nat} {c : Nat → Int} (H : BlkZ w g c) (j : Nat) (hj : j < 5) : w.cell? ⟨g, j, none⟩ = some (.int .i64 (c j)) ∧ w.frozen? ⟨g, j, none⟩ = false := by
  obtain ⟨cs, hB, hs, hc⟩ := H
  exact ⟨hB.cell j (hc j hj), hB.frozen j⟩
theorem BlkZ.put {w : World} {g : Nat} {c : Nat → Int} (H : BlkZ w g c) {p : Nat} (hp : p < 5) (z : Int) : BlkZ (w.setCell ⟨g, p, none⟩ (.int .i64 z)) g (fun j => if j = p then z else c j) := by
  obtain ⟨cs, hB, hs, hc⟩ := H
  refine ⟨_, hB.set_ p _, by simp [hs], fun j hj => ?_⟩
  show _ = some (Value.int .i64 (if j = p then z else c j))
  by_cases e : j = p
  · subst e
    rw [if_pos rfl, Array.getElem?_setIfInBounds_self_of_lt (by omega)]
  · rw [if_neg e, Array.getElem?_setIfInBounds_ne (by omega)]
    exact hc j hj
theorem BlkZ.congr {w : World} {g : Nat} {c c' : Nat → Int} (H : BlkZ w g c) (e : ∀ j, j < 5 → c j = c' j) : BlkZ w g c' := by
  obtain ⟨cs, hB, hs, hc⟩ := H
  exact ⟨cs, hB, hs, fun j hj => by rw [hc j hj, e j hj]⟩
theorem BlkZ.own {w : World} {g base : Nat} {c : Nat → Int} (H : BlkZ w g c) (hb : base ≤ g) : w.ownsRow base 3 1 (.slice (some ⟨g, 0, none⟩) 5 5) 5 ([c 0, c 1, c 2, c 3, c 4].map (Value.int .i64)) := by
  obtain ⟨cs, hB, hs, hc⟩ := H
  have e : cs = #[.int .i64 (c 0), .int .i64 (c 1), .int .i64 (c 2), .int .i64 (c 3), .int .i64 (c 4)] := by
    apply Array.ext_getElem?
    intro j
    by_cases hj : j < 5
    · rw [hc j hj]
      obtain rfl | rfl | rfl | rfl | rfl : j = 0 ∨ j = 1 ∨ j = 2 ∨ j = 3 ∨ j = 4 := by omega
      all_goals rfl
    · rw [Array.getElem?_eq_none (by omega), Array.getElem?_eq_none (by simp; omega)]
  subst e
  exact ⟨rfl, .inr ⟨g, 5, _, rfl, hb, hB, Nat.le_refl _, by decide, rfl, rfl⟩⟩
theorem made_z (w : World) : BlkZ (w.alloc (.cells (madeCells #[.int .i64 0] 5) 3)) w.heap.size (fun _ => 0) := by
  refine ⟨_, Blk.new w _ _, by simp [size_madeCells], fun j hj => ?_⟩
  unfold madeCells
  rw [Array.getElem?_map, Array.getElem?_range, if_pos hj]
  show some ((#[.int .i64 0] : Array Value)[j % 1]!) = _
  rw [Nat.mod_one]
  rfl

theorem iInfo : (Tryd.prog.info? 3).map (fun i => (i.zero, i.size, i.bytes)) = some (some (.int .i64 0), 1, 8) := by kernel_rfl
theorem make_five (w : World) : (Instr.makeSlice 43 (.int .i64 5) (.int .i64 5)).run Tryd.prog w = .ok (.slice (some ⟨w.heap.size, 0, none⟩) 5 5) (w.alloc (.cells (madeCells #[.int .i64 0] 5) 3)) := by
  obtain ⟨t0, hi, hz0, hz1, hz2⟩ := info_parts iInfo
  have h := run_make (P := Tryd.prog) w 43 3 t0 (.int .i64 0) Tryd.underlying43 hi hz0 .i64 .i64 5 5 (by omega) (Int.le_refl _) (by rw [hz2]; decide) (by omega)
  rw [hz1] at h
  exact h

/-- What is answered. -/
def CPost (w : World) (zs : List Int) (ok : Bool) (e : Ending) (w' : World) : Prop := ∃ v, e = .returned (.tuple #[v, .bool ok]) ∧ w'.ownsRow w.heap.size 3 1 v zs.length (zs.map (Value.int .i64)) ∧ Below w.heap.size w w'

theorem none_own (w : World) (base : Nat) (hb : base ≤ w.heap.size) : (w.alloc (.cells #[] 3)).ownsRow base 3 1 (.slice (some ⟨w.heap.size, 0, none⟩) 0 0) 0 [] :=
  ⟨rfl, .inr ⟨w.heap.size, 0, _, rfl, hb, Blk.new w 3 #[], Nat.le_refl _, by decide, rfl, rfl⟩⟩

set_option maxHeartbeats 2000000 in
theorem impl_long (a : Option Addr) (cap n : Nat) (w : World) (hn : 20 < n) (hl : n ≤ 1048576) :
    Calls Tryd.prog 25 #[.slice a n cap] w (CPost w [] false) := by
  go_enter Tryd.func25, Tryd.ntmps25
  go_wp2
  go_ret2
  exact ⟨_, rfl, none_own w _ (Nat.le_refl _), (Below.refl _ _).alloc (Nat.le_refl _) _⟩

/-- What stands between two rounds. -/
structure Cst (w W : World) (g : Nat) (h : Nat → Ft) (k : Nat) : Prop where
  B : Below w.heap.size w W
  Z : BlkZ W g (fun j => (cnt h k j : Int))
theorem Cst.later {w W W' : World} {g k : Nat} {h : Nat → Ft} (H : Cst w W g h k) (hb : Below W.heap.size W W') : Cst w W' g h k := ⟨H.B.trans (hb.mono H.B.size), H.Z.later hb⟩

set_option maxHeartbeats 4000000 in
theorem impl_loop (a : Option Addr) (cap n m : Nat) (h : Nat → Ft) (w : World) (hr : FRow w a n h) (hn : n ≤ 20) (hm : m ≤ n) (hok : ∀ i, i < m → okF (h i) = true) (hbad : m < n → okF (h m) = false) (zs : List Int) (ok : Bool) (hz1 : m < n → zs = [] ∧ ok = false) (hz2 : m = n → zs = [(cnt h n 0 : Int), cnt h n 1, cnt h n 2, cnt h n 3, cnt h n 4] ∧ ok = true) :
    Calls Tryd.prog 25 #[.slice a n cap] w (CPost w zs ok) := by
  have HZ1 := Lib.hid hz1
  have HZ2 := Lib.hid hz2
  clear hz1 hz2
  have H := Lib.hid hr
  have HO := Lib.hid hok
  have HM := Lib.hid hbad
  clear hr hok hbad
  go_enter Tryd.func25, Tryd.ntmps25
  go_wp2_with fail
  refine (tab_any _).mono ?_
  rintro e w1 ⟨rfl, -, hb1⟩
  have hmk := make_five w1
  have HC := Lib.hid (show Cst w (w1.alloc (.cells (madeCells #[.int .i64 0] 5) 3)) w1.heap.size h 0 from ⟨hb1.alloc hb1.size _, made_z w1⟩)
  have hgw := hb1.size
  clear hb1
  go_wp2
  obtain ⟨g, hg⟩ : ∃ g, w1.heap.size = g := ⟨_, rfl⟩
  rw [hg] at HC hgw ⊢
  clear hg hmk
  go_loopw [19, 6, 7, 8, 9] (fun i _ _ _ _ wr => ∃ k : Nat, k ≤ m ∧ i = .int .i64 k ∧ Cst w wr g h k) (fun i _ _ _ _ _ => n - (intOf i).toNat)
  case atStart => exact ⟨0, Nat.zero_le _, rfl, HC.out⟩
  case round =>
    obtain ⟨k, hk, rfl, hc⟩ := hrel
    have HCr := Lib.hid hc
    clear hc HC
    by_cases hlt : k < n
    · obtain ⟨b, off, rfl, c0, c1, c2, c3, c4⟩ := (H.out.later HCr.out.B).five hlt
      obtain ⟨f, hf⟩ : ∃ f, h k = f := ⟨_, rfl⟩
      have HF := Lib.hid hf
      rw [hf] at c0 c1 c2 c3 c4
      clear hf
      have HX := Lib.hid (HCr.out.later ((Below.refl _ _).alloc (Nat.le_refl _) (.cells #[.int .i64 f.c, .string f.wh, .string f.wt, .string f.lk, .string f.sd] 25)))
      have HK := Lib.hid (Blk.new wr 25 #[.int .i64 f.c, .string f.wh, .string f.wt, .string f.lk, .string f.sd])
      clear HCr
      go_wp2_with fail
      clear c0 c1 c2 c3 c4
      refine (find_all f.wt _).mono ?_
      rintro e w2 hp
      obtain ⟨aw, nw, cw, az, ns, cs, kz, rfl, h1, -, hb2⟩ := hp
      have HX2 := Lib.hid ((HX.out.later hb2).later ((Below.refl _ _).alloc (Nat.le_refl _) (.cells #[.string (famN (fam f.wt)), .slice aw nw cw, .slice az ns cs] 67)))
      have HK2 := Lib.hid ((HK.out.later hb2).alloc (.cells #[.string (famN (fam f.wt)), .slice aw nw cw, .slice az ns cs] 67))
      clear hb2 HX HK
      obtain ⟨p0, p1, p2, p3, p4, -⟩ := HK2.out.five
      have hltk := HK2.out.lt
      by_cases hkm : k < m
      · have hokk : okF f = true := by rw [← HF.out]; exact HO.out k hkm
        have HOF := Lib.hid (of_decide_eq_true (p := OkF f) hokk)
        have hf5 := HOF.out.1
        obtain ⟨hkz, -⟩ := h1 hf5
        subst hkz
        rw [decide_eq_true hf5]
        clear h1
        go_wp2_with fail
        refine (IsF.impl_any f _).mono ?_
        rw [hokk]
        rintro e w3 ⟨rfl, hb3⟩
        have HX3 := Lib.hid (HX2.out.later hb3)
        clear hb3 HX2 HK2 p0 p1 p2 p3 p4 hokk hltk
        obtain ⟨z0, z1⟩ := HX3.out.Z.cell (fam f.wt) hf5
        have hcl := cnt_le h (fam f.wt) k
        go_wp2
        go_roundw
        case rel =>
          refine ⟨k + 1, by omega, by go_num, HX3.out.B.setCell (by exact hgw) _, (HX3.out.Z.put hf5 _).congr fun j _ => ?_⟩
          rw [cnt, HF.out]
          by_cases e : j = fam f.wt
          · rw [if_pos e, if_pos e.symm, e]; omega
          · rw [if_neg e, if_neg (fun h => e h.symm)]
        case measure => simp [intOf]; omega
      · obtain rfl : k = m := by omega
        have hokk : okF f = false := by rw [← HF.out]; exact HM.out hlt
        obtain ⟨ez, eo⟩ := HZ1.out hlt
        have HE := Lib.hid ez
        have HE' := Lib.hid eo
        clear ez eo
        by_cases hf5 : fam f.wt < 5
        · rw [decide_eq_true hf5]
          clear h1 hf5
          go_wp2_with fail
          refine (IsF.impl_any f _).mono ?_
          rw [hokk]
          rintro e w3 ⟨rfl, hb3⟩
          have HX3 := Lib.hid (HX2.out.later hb3)
          clear hb3 HX2 HK2 p0 p1 p2 p3 p4 hokk hltk
          go_wp2
          go_ret2
          rw [HE.out, HE'.out]
          exact ⟨_, rfl, none_own w3 _ HX3.out.B.size, HX3.out.B.alloc HX3.out.B.size _⟩
        · rw [decide_eq_false hf5]
          clear h1 hf5
          go_wp2
          go_ret2
          rw [HE.out, HE'.out]
          have h9 := none_own _ w.heap.size HX2.out.B.size
          simp only [World.size_alloc] at h9
          exact ⟨_, rfl, h9, HX2.out.B.alloc HX2.out.B.size _⟩
    · obtain rfl : k = n := by omega
      obtain rfl : k = m := by omega
      obtain ⟨ez, eo⟩ := HZ2.out rfl
      have HE := Lib.hid ez
      have HE' := Lib.hid eo
      clear ez eo
      go_wp2
      go_ret2
      rw [HE.out, HE'.out]
      exact ⟨_, rfl, HCr.out.Z.own hgw, HCr.out.B⟩

end Go.Proofs.YtpfjdlaaakkimaaDoor.CntI
