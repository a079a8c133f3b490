/- 'FnCodes': the statement's frame: the walk is in CoU.law_any; here the given row is met by it. -/
import Derived.Test.YtfpfnnindlfgfaaMapD
import Derived.ProofKit
import Derived.OpenShut
import Derived.ChangeSlices
import Derived.WideShapes
import Derived.Test.YtfpfnnindlfgfaaStepT
import Derived.Test.YtfpfnnindlfgfaaMapV
import Derived.Deep.RegionHeld3
import Derived.Deep.MidRow
import Derived.Test.YtfpfnnindlfgfaaCtN
import Derived.Test.YtfpfnnindlfgfaaCtM
import Derived.Deep.LoopGhost
import Derived.Deep.AppendLies
import Derived.Maps.AppendAt
import Derived.Test.YtfpfnnindlfgfaaPrM
import Derived.Deep.RegionWith
import Derived.Laws.StructEq
import Derived.Test.YtfpfnnindlfgfaaCoQ
import Derived.Test.YtfpfnnindlfgfaaCoE
import Derived.Test.YtfpfnnindlfgfaaCoR
import Derived.Test.YtfpfnnindlfgfaaCoN
import Derived.Test.YtfpfnnindlfgfaaCoS
import Derived.Test.YtfpfnnindlfgfaaRows
import Derived.WalkKit
import Derived.ShutString
import Derived.ChangeOld
import Derived.Below
namespace Go.Proofs.Ytfpfnnindlfgfaa.CodM
open Go.ChangeShapes Go.WideShapes Go.ChangeAt Go.RowKit Lb Cur
set_option linter.unusedVariables false

def Bytes (w : World) (a : Option Addr) (n : Nat) (xs : Nat → Nat) : Prop :=
  n ≤ maxLen ∧ RowAt w a n (fun k => .int .u8 (xs k)) ∧ (∀ k, xs k ≤ 255) ∧ ∀ x, a = some x → x.block < w.heap.size
theorem Bytes.below {w w' : World} {a : Option Addr} {n : Nat} {xs : Nat → Nat} (h : Bytes w a n xs) (hb : Below w.heap.size w w') : Bytes w' a n xs := by
  obtain ⟨h1, h2, h3, h4⟩ := h
  exact ⟨h1, h2.below hb, h3, fun x e => Nat.lt_of_lt_of_le (h4 x e) hb.size⟩
/-- The reader that a drawing makes. -/
theorem begin_ {w : World} {a : Option Addr} {n : Nat} {xs : Nat → Nat} (h : Bytes w a n xs) (cap : Nat) :
    Ok (w.alloc (.cells #[.slice a n cap, .int .i64 0, .int .u64 0] 93)) w.heap.size 0 := by
  obtain ⟨h1, h2, h3, h4⟩ := h
  refine ⟨a, n, cap, xs, 0, 0, heap_alloc_new w _, Nat.le_refl _, h1, by decide, h2.below ((Below.refl _ _).alloc (Nat.le_refl _) _), h3, fun x e => h4 x e⟩
theorem below_of_grown {B : Nat} {w w1 w2 : World} {b : Nat} (h : Below B w w1) (hg : w1.grownBy w2 (some b)) (hw : B ≤ w1.heap.size) (hb : B ≤ b) : Below B w w2 :=
  h.grown hg hw (fun k e => by cases e; exact hb)

theorem okWide_lt {P : Program} {w : World} {r : Reach} {base : Nat} {t e : TypeId} {v : Value} (ht : P.underlying t = some (.slice e)) (h : Value.okWide P w r base t v) :
    ∀ a len cap, v = .slice (some a) len cap → a.block < w.heap.size := by
  rintro a len cap rfl
  simp only [Value.okWide, ht, Cell.okWide, Cell.ok] at h
  obtain ⟨_, _, _, _, row, cells, hsh, _⟩ := h
  unfold World.shape? at hsh
  rcases Nat.lt_or_ge a.block w.heap.size with h1 | h1
  · exact h1
  · simp [Array.getElem?_eq_none h1] at hsh

theorem open_bytes {P : Program} {H : Type} {enc : TypeId × Value → H} {W : World} {r : Reach} {b0 base : Nat} {spare : Nat → Bool} {held : Bool} {t e : TypeId} {v : Value} {d : DataW H} {p : List MemPlace} (ht : P.underlying t = some (.slice e)) (he : P.underlying e = some (.int .u8)) (hc : P.cellsOf e = 1)
    (hv : Value.okWide P W r b0 t v) (h : DataW.Trod enc P W base spare held t v d p) :
    ∃ (a : Option Addr) (n cap : Nat) (xs : Nat → Nat), v = .slice a n cap ∧ Bytes W a n xs := by
  have hlt := okWide_lt ht hv
  obtain ⟨a, len, cap, rfl⟩ := Go.WideShapes.okWide_slice ht hv
  obtain ⟨fuel, hf⟩ := h
  rcases open_ints ht he hc hf with ⟨hcs, _⟩ | ⟨x, l, c, zs, hcs, _, hl, hm, hz, _, hcell, hwf⟩
  · simp [Value.cells] at hcs
    obtain ⟨rfl, rfl, rfl⟩ := hcs
    exact ⟨none, 0, 0, fun _ => 0, rfl, by unfold maxLen; omega, .inl rfl, fun _ => Nat.zero_le _, fun x e => by cases e⟩
  · simp [Value.cells] at hcs
    obtain ⟨rfl, rfl, rfl⟩ := hcs
    have hlz : len ≤ zs.length := by rw [hz]; split <;> omega
    have hnn : ∀ k, 0 ≤ zs.getD k 0 ∧ zs.getD k 0 ≤ 255 := fun k => by
      by_cases hk : k < zs.length
      · have hmem : zs.getD k 0 ∈ zs := by
          rw [List.getD_eq_getElem?_getD, List.getElem?_eq_getElem hk]
          exact List.getElem_mem hk
        have := hwf _ hmem
        simp only [Lit.wf, Bool.and_eq_true] at this
        exact ⟨of_decide_eq_true this.1, of_decide_eq_true this.2⟩
      · rw [List.getD_eq_getElem?_getD, List.getElem?_eq_none (Nat.le_of_not_lt hk)]
        simp
    refine ⟨some x, len, cap, fun k => (zs.getD k 0).toNat, rfl, by omega, RowAt.of_add fun k hk => ?_, fun k => ?_, fun y e => ?_⟩
    · rw [hcell k (by omega)]
      have := (hnn k).1
      simp only [Int.toNat_of_nonneg this]
    · have := hnn k
      show (zs.getD k 0).toNat ≤ 255
      omega
    · cases e; exact hlt x len cap rfl

end Go.Proofs.Ytfpfnnindlfgfaa.CodM

namespace Go.Proofs.Ytfpfnnindlfgfaa.DrwM
open Go.RowKit Lb Cur IntS MapS MapV SpecB CurM CodM
set_option linter.unusedSimpArgs false
set_option linter.unusedVariables false

set_option maxHeartbeats 1000000 in
theorem cellb_any (b mm : Nat) (m : Mp) (ar ac : Option Addr) (cr cc : Nat) (w : World) (hm : mm ≤ 1152921504606846000) (hC : m.C.length ≤ 21) (hok : Ok w b mm) :
    Calls Try.prog 104 #[.pointer (some ⟨b, 0, none⟩), .agg #[.int .i64 m.W, .int .i64 m.H, .slice ar m.R.length cr, .slice ac m.C.length cc]] w fun e w' => (∃ z : Int, e = .returned (.int .i64 z) ∧ -1 ≤ z ∧ z ≤ 21) ∧ Ok w' b (mm + 4) ∧ w.grownBy w' (some b) := by
  have hbl := hok.lt
  have HB := Lib.hid ((Below.refl w.heap.size w).alloc (Nat.le_refl _) (.cells #[.int .i64 m.W, .int .i64 m.H, .slice ar m.R.length cr, .slice ac m.C.length cc] 26))
  obtain ⟨N, hN⟩ : ∃ N : Int, StepT.mostOf 1 (m.C.length : Int) = N := ⟨_, rfl⟩
  have hN1 : 1 ≤ N ∧ N ≤ 21 := by have := StepT.mostOf_eq 1 (m.C.length : Int); omega
  have HN := Lib.hid hN
  have c1 := Lib.hid (pick_any b mm (N + 1) _ (by omega) (by omega) (by omega) (hok.below HB.out))
  clear hok
  clear hN
  go_enter Try.func104, Try.ntmps104
  go_wp2_with fail
  refine (StepT.most_any _ _ _).mono ?_
  rintro e w1 ⟨rfl, rfl⟩
  rw [HN.out]
  go_wp2_with fail
  refine c1.out.mono ?_
  rintro e w2 ⟨⟨r1, rfl, hr1, hr1'⟩, hok2, hg2⟩
  have HA1 := Lib.hid (show r1 ≤ 21 from by omega)
  clear hr1'
  have HG2 := Lib.hid (gtrans (gbelow HB.out (some b)) hg2)
  have c2 := Lib.hid (pick_any b (mm + 2) 9 _ (by omega) (by omega) (by omega) hok2)
  clear hok2 hg2
  go_wp2_with fail
  refine c2.out.mono ?_
  rintro e w3 ⟨⟨r2, rfl, hr2, hr2'⟩, hok3, hg3⟩
  have HA2 := Lib.hid (show r2 ≤ 8 from by omega)
  clear hr2'
  have HG3 := Lib.hid (gtrans HG2.out hg3)
  have HO3 := Lib.hid hok3
  clear hok3 hg3
  go_wp2_with fail
  go_ret
  have h1 := HA1.out
  have h2 := HA2.out
  exact ⟨⟨_, rfl, by omega, by omega⟩, HO3.out, HG3.out⟩

theorem cell_any (b mm : Nat) (m : Mp) (ar ac : Option Addr) (cr cc : Nat) (w : World) (hm : mm ≤ 1152921504606846000) (hC : m.C.length ≤ 21) (hok : Ok w b mm) :
    Calls Try.prog 104 #[.pointer (some ⟨b, 0, none⟩), .agg #[.int .i64 m.W, .int .i64 m.H, .slice ar m.R.length cr, .slice ac m.C.length cc]] w fun e w' => (∃ z : Int, e = .returned (.int .i64 z)) ∧ Ok w' b (mm + 4) ∧ w.grownBy w' (some b) :=
  (cellb_any b mm m ar ac cr cc w hm hC hok).mono fun e w' ⟨⟨z, h, _⟩, h2⟩ => ⟨⟨z, h⟩, h2⟩

end Go.Proofs.Ytfpfnnindlfgfaa.DrwM

namespace Go.Proofs.Ytfpfnnindlfgfaa.DrwM
open Go.RowKit Lb Cur IntS MapS MapV SpecB CurM CodM
set_option linter.unusedSimpArgs false
set_option linter.unusedVariables false

/-- What stands while an open cell is drawn. -/
structure OSt (w : World) (m : Mp) (ar : Option Addr) (cr : Nat) (ac : Option Addr) (cc b B mm : Nat) (wx : World) : Prop where
  box : Blk wx B 26 #[.int .i64 m.W, .int .i64 m.H, .slice ar m.R.length cr, .slice ac m.C.length cc]
  r : IRow wx ar m.R
  c : IRow wx ac m.C
  ok : Ok wx b mm
  g : w.grownBy wx (some b)
section
variable {w : World} {m : Mp} {ar ac : Option Addr} {cr cc b B mm : Nat} {wx w' : World}
theorem OSt.below (h : OSt w m ar cr ac cc b B mm wx) (hb : Below wx.heap.size wx w') : OSt w m ar cr ac cc b B mm w' :=
  ⟨h.box.later hb, row_beside h.r (gbelow hb none) (by simp), row_beside h.c (gbelow hb none) (by simp), h.ok.below hb, gtrans h.g (gbelow hb _)⟩
theorem OSt.drew (h : OSt w m ar cr ac cc b B mm wx) : OSt w m ar cr ac cc b B mm wx.drew := ⟨h.box, h.r, h.c, h.ok, gtrans h.g (gbelow (Below.refl _ _).drew _)⟩
theorem OSt.drewN (h : OSt w m ar cr ac cc b B mm wx) (n : Nat) : OSt w m ar cr ac cc b B mm (wx.drewN n) := ⟨h.box, h.r, h.c, h.ok, ⟨h.g.os, h.g.tape, h.g.output, h.g.size, h.g.block⟩⟩
theorem OSt.mono {mm' : Nat} (h : OSt w m ar cr ac cc b B mm wx) (hm : mm ≤ mm') : OSt w m ar cr ac cc b B mm' wx := ⟨h.box, h.r, h.c, h.ok.mono hm, h.g⟩
theorem OSt.step {mm' : Nat} (h : OSt w m ar cr ac cc b B mm wx) (hB : b ≠ B) (n1 : ∀ x, ar = some x → x.block ≠ b) (n2 : ∀ x, ac = some x → x.block ≠ b) (ho : Ok w' b mm') (hg : wx.grownBy w' (some b)) : OSt w m ar cr ac cc b B mm' w' :=
  ⟨blk_grown h.box hg (by simpa using hB), row_beside h.r hg (fun x e => by simpa using (n1 x e).symm), row_beside h.c hg (fun x e => by simpa using (n2 x e).symm), ho, gtrans h.g hg⟩
end

set_option maxRecDepth 20000 in
set_option maxHeartbeats 1000000 in
theorem open_any (b mm : Nat) (m : Mp) (ar ac : Option Addr) (cr cc : Nat) (w : World) (hm : mm ≤ 1152921504606845000) (hR : m.R.length ≤ 21) (hC : m.C.length ≤ 21) (h1 : IRow w ar m.R) (h2 : IRow w ac m.C) (n1 : ∀ x, ar = some x → x.block ≠ b) (n2 : ∀ x, ac = some x → x.block ≠ b) (hok : Ok w b mm) :
    Calls Try.prog 94 #[.pointer (some ⟨b, 0, none⟩), .agg #[.int .i64 m.W, .int .i64 m.H, .slice ar m.R.length cr, .slice ac m.C.length cc]] w fun e w' => (∃ z : Int, e = .returned (.int .i64 z)) ∧ Ok w' b (mm + 6) ∧ w.grownBy w' (some b) := by
  have hbl := hok.lt
  obtain ⟨B, hBe⟩ : ∃ B, w.heap.size = B := ⟨_, rfl⟩
  have hbB : b ≠ B := by omega
  have HS0 := Lib.hid (show OSt w m ar cr ac cc b B mm (w.alloc (.cells #[.int .i64 m.W, .int .i64 m.H, .slice ar m.R.length cr, .slice ac m.C.length cc] 26)) from by
    have hA : Below w.heap.size w (w.alloc (.cells #[.int .i64 m.W, .int .i64 m.H, .slice ar m.R.length cr, .slice ac m.C.length cc] 26)) := (Below.refl _ _).alloc (Nat.le_refl _) _
    refine ⟨?_, row_beside h1 (gbelow hA none) (by simp), row_beside h2 (gbelow hA none) (by simp), hok.below hA, gbelow hA _⟩
    rw [← hBe]
    exact Blk.new w 26 #[.int .i64 m.W, .int .i64 m.H, .slice ar m.R.length cr, .slice ac m.C.length cc])
  have hRm : m.R.length ≤ maxLen := by unfold maxLen; omega
  have hCm : m.C.length ≤ maxLen := by unfold maxLen; omega
  have N1 := Lib.hid n1
  have N2 := Lib.hid n2
  have c1 := Lib.hid (cellb_any b mm m ar ac cr cc _ (by omega) hC HS0.out.ok)
  clear hok h1 h2 n1 n2
  obtain ⟨p0, p1, p2, p3, -⟩ := HS0.out.box.four
  rw [← hBe] at p0 p1 p2 p3
  go_enter Try.func94, Try.ntmps94
  go_wp2_with fail
  refine c1.out.mono ?_
  rintro e w1 ⟨⟨z, rfl, hz1, hz2⟩, hok1, hg1⟩
  have HS1 := Lib.hid (HS0.out.step hbB N1.out N2.out hok1 hg1)
  have HZ := Lib.hid (show ∃ q : Nat, StepT.mostOf 0 z = (q : Nat) ∧ q ≤ 21 from by
    rcases StepT.mostOf_eq 0 z with ⟨h1, h2⟩ | ⟨h1, h2⟩
    · exact ⟨0, by rw [h2]; rfl, by omega⟩
    · exact ⟨z.toNat, by rw [h2]; omega, by omega⟩)
  clear hok1 hg1 c1 p0 p1 p2 p3 hz1 hz2
  obtain ⟨p0, p1, p2, p3, -⟩ := HS1.out.box.four
  by_cases hmo : m.ok
  · have hk := okB_yes hmo
    obtain ⟨ww, hh, g⟩ := good_of hmo
    have hpos : 0 < m.C.length := by
      have h1 := g.C; have h2 := g.n1; omega
    clear hmo g
    go_wp2_with fail
    refine (MapV.spec_any m ar ac cr cc _ hRm hCm HS1.out.r HS1.out.c).mono ?_
    rw [hk]
    rintro e w2 ⟨rfl, hb2⟩
    have HS2 := Lib.hid (HS1.out.below hb2)
    have c2 := Lib.hid (one_any b (mm + 4) 10 _ (by omega) (by omega) (by omega) HS2.out.ok)
    clear hb2 hk p0 p1 p2 p3
    go_wp2_with fail
    refine c2.out.mono ?_
    rintro e w3 ⟨⟨t, rfl⟩, hok3, hg3⟩
    have HS3 := Lib.hid (HS2.out.step hbB N1.out N2.out hok3 hg3)
    clear hok3 hg3 c2
    obtain ⟨p0, p1, p2, p3, -⟩ := HS3.out.box.four
    cases t with
    | true =>
      go_wp2
      go_ret
      exact ⟨⟨_, rfl⟩, HS3.out.ok, HS3.out.g⟩
    | false =>
      obtain ⟨q, hq, hq2⟩ := HZ.out
      have HQ := Lib.hid hq
      clear hq p0 p1 p2 p3
      go_wp2_with fail
      go_loopg [6] m.C.length (fun r ii wr => ∃ k : Nat, k ≤ m.C.length ∧ r = m.C.length - k ∧ ii = .int .i64 k ∧ OSt w m ar cr ac cc b B (mm + 6) wr)
      case atStart => exact ⟨0, by omega, by omega, rfl, HS3.out⟩
      case round =>
        obtain ⟨k, hk, hq, rfl, hS⟩ := hrel
        have HSk := Lib.hid hS
        clear hS
        by_cases hlt : k < m.C.length
        · obtain ⟨s, hs⟩ : ∃ s, q + k = s := ⟨_, rfl⟩
          have hw : IntKind.i64.wrap ((q : Int) + (k : Int)) = (s : Int) := by rw [IntWalk.i64_in _ (by omega)]; omega
          obtain ⟨r, hr⟩ : ∃ r, s % m.C.length = r := ⟨_, rfl⟩
          have hrN : r < m.C.length := by rw [← hr]; exact Nat.mod_lt _ hpos
          have hr' : (s : Int).tmod (m.C.length : Int) = (r : Int) := by rw [← hr]; exact (Int.ofNat_tmod _ _).symm
          clear hs
          obtain ⟨p0, p1, p2, p3, -⟩ := HSk.out.box.four
          have hx0 := HSk.out.box.lt
          have hz : ¬ (m.C.length : Int) = 0 := by omega
          have hz2 : ¬ m.C.length = 0 := by omega
          have hz3 : (m.C.length == 0) = false := by simpa using hz2
          have hz4 : ((m.C.length : Int) == 0) = false := by simpa using hz
          have hz5 : ¬ (m.C.length : Int) = -1 := by omega
          have HMQ := Lib.hid (show ∀ w : World, Calls Try.prog 133 #[.int .i64 0, .int .i64 z] w fun e w' => e = .returned (.int .i64 (q : Nat)) ∧ w' = w from fun w => (StepT.most_any 0 z w).mono fun e w' ⟨h1, h2⟩ => ⟨by rw [h1, HQ.out], h2⟩)
          rcases HSk.out.c with h0 | ⟨g2, off, rfl, hc⟩
          · omega
          have gr := hc r hrN
          clear hc
          by_cases ho : 0 < zAt m.C r
          · have hd : decide (0 < zAt m.C r) = true := by simpa using ho
            go_upto_region 6 with (fail)
            go_region_with (go_at_call 133; refine (HMQ.out _).mono ?_; rintro e w2 ⟨rfl, hw2⟩; obtain rfl := hw2.symm)
            all_goals
              go_wp2
              go_ret
              exact ⟨⟨_, rfl⟩, HSk.out.drew.ok, HSk.out.drew.g⟩
          · have hd : decide (0 < zAt m.C r) = false := by simpa using ho
            go_upto_region 6 with (fail)
            go_region_with (go_at_call 133; refine (HMQ.out _).mono ?_; rintro e w2 ⟨rfl, hw2⟩; obtain rfl := hw2.symm)
            all_goals
              go_wp2
              go_roundg (m.C.length - (k + 1))
              all_goals first | omega | exact ⟨k + 1, by omega, rfl, by go_num, HSk.out.drew⟩
        · obtain rfl : k = m.C.length := by omega
          obtain ⟨p0, p1, p2, p3, -⟩ := HSk.out.box.four
          go_wp2
          go_ret
          exact ⟨⟨_, rfl⟩, HSk.out.ok, HSk.out.g⟩
  · have hk := okB_no hmo
    go_wp2_with fail
    refine (MapV.spec_any m ar ac cr cc _ hRm hCm HS1.out.r HS1.out.c).mono ?_
    rw [hk]
    rintro e w2 ⟨rfl, hb2⟩
    have HS2 := Lib.hid (HS1.out.below hb2)
    clear hb2 hk p0 p1 p2 p3
    go_wp2
    go_ret
    exact ⟨⟨_, rfl⟩, HS2.out.ok.mono (by omega), HS2.out.g⟩

end Go.Proofs.Ytfpfnnindlfgfaa.DrwM

namespace Go.Proofs.Ytfpfnnindlfgfaa.DrwM
open Go.RowKit Lb Cur IntS MapS MapV SpecB CurM CodM
set_option linter.unusedSimpArgs false
set_option linter.unusedVariables false

theorem ok_drew {w : World} {b m : Nat} (h : Ok w b m) : Ok w.drew b m := h

/-- A map and a number that were drawn. -/
def CPost (w : World) (e : Ending) (w' : World) : Prop := ∃ (v : Value) (z : Int), e = .returned (.tuple #[v, .int .i64 z]) ∧ (∃ m : Mp, OwnM w' w.heap.size v m ∧ m.R.length ≤ 21 ∧ m.C.length ≤ 21) ∧ Below w.heap.size w w'

/-- What stands while a step is drawn. -/
structure DSt (w : World) (m : Mp) (ar : Option Addr) (cr : Nat) (ac : Option Addr) (cc B mm : Nat) (wx : World) : Prop where
  b : Below w.heap.size w wx
  res : Blk wx w.heap.size 26 #[.int .i64 0, .int .i64 0, .slice none 0 0, .slice none 0 0]
  box : Blk wx B 26 #[.int .i64 m.W, .int .i64 m.H, .slice ar m.R.length cr, .slice ac m.C.length cc]
  r : OwnI wx (w.heap.size + 1 + 1) (.slice ar m.R.length cr) m.R
  c : OwnI wx (w.heap.size + 1 + 1) (.slice ac m.C.length cc) m.C
  ok : Ok wx (w.heap.size + 1) mm
section
variable {w : World} {m : Mp} {ar ac : Option Addr} {cr cc B mm : Nat} {wx w' : World}
theorem DSt.below (h : DSt w m ar cr ac cc B mm wx) (hb : Below wx.heap.size wx w') : DSt w m ar cr ac cc B mm w' :=
  ⟨h.b.trans (hb.mono h.b.size), h.res.later hb, h.box.later hb, h.r.below hb, h.c.below hb, h.ok.below hb⟩
theorem DSt.drew (h : DSt w m ar cr ac cc B mm wx) : DSt w m ar cr ac cc B mm wx.drew := ⟨h.b.drew, h.res, h.box, h.r, h.c, h.ok⟩
theorem DSt.mono {mm' : Nat} (h : DSt w m ar cr ac cc B mm wx) (hm : mm ≤ mm') : DSt w m ar cr ac cc B mm' wx := ⟨h.b, h.res, h.box, h.r, h.c, h.ok.mono hm⟩
theorem DSt.step {mm' : Nat} (h : DSt w m ar cr ac cc B mm wx) (hB : w.heap.size + 1 < B) (ho : Ok w' (w.heap.size + 1) mm') (hg : wx.grownBy w' (some (w.heap.size + 1))) : DSt w m ar cr ac cc B mm' w' :=
  ⟨below_of_grown h.b hg h.b.size (by omega), blk_grown h.res hg (by simp), blk_grown h.box hg (by simp; omega), own_grown h.r hg (fun x y hx hy => by cases hy; have := (h.r.lt x hx).1; omega), own_grown h.c hg (fun x y hx hy => by cases hy; have := (h.c.lt x hx).1; omega), ho⟩
theorem DSt.rowR (h : DSt w m ar cr ac cc B mm wx) : IRow wx ar m.R := OwnI.row h.r
theorem DSt.rowC (h : DSt w m ar cr ac cc B mm wx) : IRow wx ac m.C := OwnI.row h.c
end

/-- A map and two numbers that were drawn. -/
def SPost (w : World) (e : Ending) (w' : World) : Prop := ∃ (v : Value) (y z : Int), e = .returned (.tuple #[v, .int .i64 y, .int .i64 z]) ∧ (∃ m : Mp, OwnM w' w.heap.size v m ∧ m.R.length ≤ 21 ∧ m.C.length ≤ 21) ∧ Below w.heap.size w w'

/-- A map and three numbers that were drawn. -/
def TPost (w : World) (e : Ending) (w' : World) : Prop := ∃ (v : Value) (x y z : Int), e = .returned (.tuple #[v, .int .i64 x, .int .i64 y, .int .i64 z]) ∧ (∃ m : Mp, OwnM w' w.heap.size v m ∧ m.R.length ≤ 21 ∧ m.C.length ≤ 21) ∧ Below w.heap.size w w'

end Go.Proofs.Ytfpfnnindlfgfaa.DrwM

namespace Go.Proofs.Ytfpfnnindlfgfaa.DrwM
open Go.RowKit Lb Cur IntS MapS MapV SpecB CurM CodM
set_option linter.unusedSimpArgs false
set_option linter.unusedVariables false

set_option maxHeartbeats 400000 in
theorem amongz_any (b m : Nat) (a : Option Addr) (cap : Nat) (zs : List Int) (w : World) (hm : m ≤ 1152921504606846970) (hpos : 0 < zs.length) (hl : zs.length ≤ 65536) (hr : IRow w a zs) (hne : ∀ x, a = some x → x.block ≠ b) (hok : Ok w b m) :
    Calls Try.prog 100 #[.pointer (some ⟨b, 0, none⟩), .slice a zs.length cap] w fun e w' => (∃ z : Int, e = .returned (.int .i64 z) ∧ z ∈ zs) ∧ Ok w' b (m + 2) ∧ w.grownBy w' (some b) := by
  have c1 := Lib.hid (pick_any b m zs.length w hm (by omega) (by omega) hok)
  rcases hr with hr | ⟨g, off, rfl, hc⟩
  · omega
  have HC := Lib.hid hc
  have HN := Lib.hid (hne _ rfl)
  clear hok hne hc
  go_enter Try.func100, Try.ntmps100
  go_wp2_with fail
  refine c1.out.mono ?_
  rintro e w1 ⟨⟨r, rfl, _, hr⟩, hok1, hg1⟩
  have hlt : r < zs.length := by omega
  have HL := Lib.hid hlt
  have g1 : w1.cell? ⟨g, off + r, none⟩ = some (.int .i64 (zAt zs r)) := hg1.cell (HC.out r hlt) (fun e => HN.out (by simpa using e))
  have HG := Lib.hid hg1
  have HO := Lib.hid hok1
  clear hok1 hg1 hr
  go_wp2_with fail
  go_ret
  exact ⟨⟨_, rfl, by simp [zAt, HL.out]⟩, HO.out, HG.out⟩
/-- A map, a number, a small number that were drawn. -/
def WPost (w : World) (e : Ending) (w' : World) : Prop := ∃ (v : Value) (y z : Int), e = .returned (.tuple #[v, .int .i64 y, .int .i64 z]) ∧ (∃ m : Mp, OwnM w' w.heap.size v m ∧ m.R.length ≤ 21 ∧ m.C.length ≤ 21) ∧ Below w.heap.size w w' ∧ -1 ≤ z ∧ z ≤ 20
theorem row_lit (L : List Int) (w : World) (h : L.length ≤ 65536) : IRow (w.alloc (.cells (L.map (Value.int .i64)).toArray 3)) (some ⟨w.heap.size, 0, none⟩) L :=
  OwnI.row (base := w.heap.size) (cap := L.length) ⟨by simp, .inr ⟨w.heap.size, L.length, _, rfl, Nat.le_refl _, heap_alloc_new w _, Nat.le_refl _, by unfold maxLen; omega, by simp, by rw [Nat.mul_one]; exact List.take_of_length_le (by simp)⟩⟩

end Go.Proofs.Ytfpfnnindlfgfaa.DrwM

namespace Go.Proofs.Ytfpfnnindlfgfaa.CtDr
open Go.RowKit Lb Cur IntS MapS SpecB CurM CodM DrwM
set_option linter.unusedSimpArgs false
set_option linter.unusedVariables false

/-- What stands: a reader at 'b', a map that has been drawn and its box at 'B', a list that grows; all of it behind 'S'. -/
structure St (w : World) (b S B R G : Nat) (m : Mp) (ar : Option Addr) (cr : Nat) (ac : Option Addr) (cc : Nat) (mm : Nat) (v : Value) (fs : List Ct) (wx : World) : Prop where
  g : w.grownBy wx (some b)
  ok : Ok wx b mm
  bS : b < S
  sB : S ≤ B
  box : Blk wx B 26 #[.int .i64 m.W, .int .i64 m.H, .slice ar m.R.length cr, .slice ac m.C.length cc]
  r : OwnI wx S (.slice ar m.R.length cr) m.R
  c : OwnI wx S (.slice ac m.C.length cc) m.C
  L : CtK.Own wx S v fs
  res : Blk wx R 26 #[.int .i64 0, .int .i64 0, .slice none 0 0, .slice none 0 0]
  cd : Blk wx G 3 #[.int .i64 31, .int .i64 32, .int .i64 34, .int .i64 41, .int .i64 43, .int .i64 45, .int .i64 54, .int .i64 60, .int .i64 77, .int .i64 99]
  nRb : R ≠ b
  nGb : G ≠ b
section
variable {w : World} {b S B R G : Nat} {m : Mp} {ar ac : Option Addr} {cr cc mm : Nat} {v : Value} {fs : List Ct} {wx w' : World}
theorem St.below (h : St w b S B R G m ar cr ac cc mm v fs wx) (hb : Below wx.heap.size wx w') : St w b S B R G m ar cr ac cc mm v fs w' :=
  ⟨gtrans h.g (gbelow hb _), h.ok.below hb, h.bS, h.sB, h.box.later hb, h.r.below hb, h.c.below hb, h.L.below hb, h.res.later hb, h.cd.later hb, h.nRb, h.nGb⟩
theorem St.drew (h : St w b S B R G m ar cr ac cc mm v fs wx) : St w b S B R G m ar cr ac cc mm v fs wx.drew := h.below (Below.refl _ _).drew
theorem St.alloc (h : St w b S B R G m ar cr ac cc mm v fs wx) (o : Obj) : St w b S B R G m ar cr ac cc mm v fs (wx.alloc o) := h.below ((Below.refl _ _).alloc (Nat.le_refl _) _)
theorem St.mono {mm' : Nat} (h : St w b S B R G m ar cr ac cc mm v fs wx) (hm : mm ≤ mm') : St w b S B R G m ar cr ac cc mm' v fs wx := ⟨h.g, h.ok.mono hm, h.bS, h.sB, h.box, h.r, h.c, h.L, h.res, h.cd, h.nRb, h.nGb⟩
theorem own_kept {e : TypeId} {size n : Nat} {xs : List Value} (h : wx.ownsRow S e size v n xs) (hg : wx.grownBy w' (some b)) (hb : b < S) : w'.ownsRow S e size v n xs :=
  World.ownsRow.kept h hg (.inr (fun e => by have := (World.ownsRow.lt h b e).1; omega))
theorem St.step {mm' : Nat} (h : St w b S B R G m ar cr ac cc mm v fs wx) (ho : Ok w' b mm') (hg : wx.grownBy w' (some b)) : St w b S B R G m ar cr ac cc mm' v fs w' :=
  ⟨gtrans h.g hg, ho, h.bS, h.sB, blk_grown h.box hg (by have := h.bS; have := h.sB; simp; omega), own_kept h.r hg h.bS, own_kept h.c hg h.bS, own_kept h.L hg h.bS, blk_grown h.res hg (by have := h.nRb; simp; omega), blk_grown h.cd hg (by have := h.nGb; simp; omega), h.nRb, h.nGb⟩
theorem St.rowR (h : St w b S B R G m ar cr ac cc mm v fs wx) : IRow wx ar m.R := OwnI.row h.r
theorem St.rowC (h : St w b S B R G m ar cr ac cc mm v fs wx) : IRow wx ac m.C := OwnI.row h.c
theorem St.nR (h : St w b S B R G m ar cr ac cc mm v fs wx) : ∀ x, ar = some x → x.block ≠ b := fun x e => by have := (OwnI.lt h.r x e).1; have := h.bS; omega
theorem St.nC (h : St w b S B R G m ar cr ac cc mm v fs wx) : ∀ x, ac = some x → x.block ≠ b := fun x e => by have := (OwnI.lt h.c x e).1; have := h.bS; omega
theorem St.bB (h : St w b S B R G m ar cr ac cc mm v fs wx) : b ≠ B := by have := h.bS; have := h.sB; omega
/-- Rows of other elements, and boxes, stand beside a row that grows. -/
theorem ne_type {base base' n n' size size' : Nat} {e e' : TypeId} {v v' : Value} {xs xs' : List Value} (h : wx.ownsRow base e size v n xs) (h' : wx.ownsRow base' e' size' v' n' xs') (he : e ≠ e') : v.ownBlock = none ∨ v.ownBlock ≠ v'.ownBlock := by
  rcases h.2 with ⟨rfl, _⟩ | ⟨g, cap, cur, rfl, _, hg, _⟩
  · exact .inl rfl
  · refine .inr fun e0 => ?_
    rcases h'.2 with ⟨rfl, _⟩ | ⟨g', cap', cur', rfl, _, hg', _⟩
    · cases e0
    · have h1 : g = g' := by simpa [Value.ownBlock] using e0
      subst h1
      rw [hg] at hg'
      simp at hg'
      exact he hg'.2
theorem ne_box {base n size : Nat} {e t : TypeId} {v : Value} {xs : List Value} {A : Nat} {cs : Array Value} (h : wx.ownsRow base e size v n xs) (hb : Blk wx A t cs) (he : e ≠ t) : v.ownBlock ≠ some A := by
  intro e0
  rcases h.2 with ⟨rfl, _⟩ | ⟨g, cap, cur, rfl, _, hg, _⟩
  · cases e0
  · have h1 : g = A := by simpa [Value.ownBlock] using e0
    subst h1
    unfold Blk at hb
    rw [hg] at hb
    simp at hb
    exact he hb.2
theorem St.put {v' : Value} {x : Ct} (h : St w b S B R G m ar cr ac cc mm v fs wx) (hw : w.heap.size ≤ S) (ho : w'.ownsRow S 58 2 v' (fs.length + 1) (CtK.cells fs ++ CtK.cells [x])) (hg : wx.grownBy w' v.ownBlock) : St w b S B R G m ar cr ac cc mm v' (fs ++ [x]) w' := by
  have hbw : ∀ k, v.ownBlock = some k → S ≤ k := fun k e => (World.ownsRow.lt h.L k e).1
  have hwx : w.heap.size ≤ wx.heap.size := h.g.size
  refine ⟨?_, ?_, h.bS, h.sB, ?_, ?_, ?_, CtK.Own.cat rfl rfl ho, blk_grown h.res hg (fun e => ne_box h.L h.res (by decide) e), blk_grown h.cd hg (fun e => ne_box h.L h.cd (by decide) e), h.nRb, h.nGb⟩
  · exact ⟨hg.os.trans h.g.os, hg.tape.trans h.g.tape, hg.output.trans h.g.output, Nat.le_trans h.g.size hg.size, fun k hk hr => (hg.block k (by omega) (fun e => by have := hbw k e.symm; omega)).trans (h.g.block k hk hr)⟩
  · have hB : Below S wx w' := ⟨hg.os, hg.tape, hg.output, hg.size, fun k hk => hg.block k (by have h1 := h.ok.lt; have h2 := (World.ownsRow.lt h.L); have h3 := h.box.lt; have h4 := h.sB; omega) (fun e => by have := hbw k e.symm; omega)⟩
    exact ok_belowB h.ok hB h.bS
  · exact blk_grown h.box hg (fun e => ne_box h.L h.box (by decide) e)
  · exact World.ownsRow.kept h.r hg (ne_type h.r h.L (by decide))
  · exact World.ownsRow.kept h.c hg (ne_type h.c h.L (by decide))
end
/-- A map and a list of controls that were drawn. -/
def SiteP (w : World) (b mm : Nat) (e : Ending) (w' : World) : Prop := ∃ (v lv : Value) (m : Mp) (fs : List Ct), e = .returned (.tuple #[v, lv]) ∧ OwnM w' w.heap.size v m ∧ CtK.Own w' w.heap.size lv fs ∧ m.R.length ≤ 21 ∧ m.C.length ≤ 21 ∧ fs.length ≤ 11 ∧ Ok w' b mm ∧ w.grownBy w' (some b)
end Go.Proofs.Ytfpfnnindlfgfaa.CtDr

namespace Go.Proofs.Ytfpfnnindlfgfaa.CtSi
open Go.RowKit Lb Cur IntS MapS SpecB CurM CodM DrwM CtDr
set_option linter.unusedSimpArgs false
set_option linter.unusedVariables false

set_option maxRecDepth 20000 in
set_option maxHeartbeats 2000000 in
theorem code6_any (b mm : Nat) (w : World) (hm : mm ≤ 1152921504606845000) (hok : Ok w b mm) :
    Calls Try.prog 134 #[.pointer (some ⟨b, 0, none⟩)] w fun e w' => (∃ z : Int, e = .returned (.int .i64 z)) ∧ Ok w' b (mm + 4) ∧ w.grownBy w' (some b) := by
  have c1 := Lib.hid (one_any b mm 24 w (by omega) (by omega) (by omega) hok)
  clear hok
  go_enter Try.func134, Try.ntmps134
  go_wp2_with fail
  refine c1.out.mono ?_
  rintro e w1 ⟨⟨t, rfl⟩, hok1, hg1⟩
  have HO1 := Lib.hid hok1
  have HG1 := Lib.hid hg1
  clear hok1 hg1 c1
  cases t with
  | true =>
    go_wp2_with fail
    refine (among_new b (mm + 2) 5 ([0, 30, 31, 99, 100] : List Int) w1 (by omega) rfl (by omega) (by omega) HO1.out).mono ?_
    rintro e w2 ⟨⟨z, rfl⟩, hok2, hg2⟩
    have HO2 := Lib.hid hok2
    have HG2 := Lib.hid (gtrans HG1.out hg2)
    clear hok2 hg2
    go_wp2
    go_ret
    exact ⟨⟨z, rfl⟩, HO2.out.mono (by omega), HG2.out⟩
  | false =>
    go_wp2_with fail
    refine (among_new b (mm + 2) 10 ([31, 32, 34, 41, 43, 45, 54, 60, 77, 99] : List Int) w1 (by omega) rfl (by omega) (by omega) HO1.out).mono ?_
    rintro e w2 ⟨⟨z, rfl⟩, hok2, hg2⟩
    have HO2 := Lib.hid hok2
    have HG2 := Lib.hid (gtrans HG1.out hg2)
    clear hok2 hg2
    go_wp2
    go_ret
    exact ⟨⟨z, rfl⟩, HO2.out.mono (by omega), HG2.out⟩

set_option maxRecDepth 20000 in
set_option maxHeartbeats 2000000 in
theorem codeOf_any (b mm : Nat) (ad : Option Addr) (cap : Nat) (fs : List Ct) (w : World) (hm : mm ≤ 1152921504606844000) (hl : fs.length ≤ 1000) (hr : CtK.Row w ad fs) (hne : ∀ x, ad = some x → x.block ≠ b) (hok : Ok w b mm) :
    Calls Try.prog 93 #[.pointer (some ⟨b, 0, none⟩), .slice ad fs.length cap] w fun e w' => (∃ z : Int, e = .returned (.int .i64 z)) ∧ Ok w' b (mm + 6) ∧ w.grownBy w' (some b) := by
  have H := Lib.hid hr
  have HN := Lib.hid hne
  have HO := Lib.hid hok
  have c1 := Lib.hid (one_any b mm 10 w (by omega) (by omega) (by omega) hok)
  obtain ⟨n, hn⟩ : ∃ n, fs.length = n := ⟨_, rfl⟩
  have HL := Lib.hid hn
  rw [hn] at hl ⊢
  clear hr hne hok hn
  by_cases h0 : n = 0
  · subst h0
    go_enter Try.func93, Try.ntmps93
    go_wp2_with fail
    refine (code6_any b mm _ (by omega) HO.out).mono ?_
    rintro e w2 ⟨⟨z, rfl⟩, hok2, hg2⟩
    have HO2 := Lib.hid hok2
    have HG2 := Lib.hid hg2
    clear hok2 hg2
    go_wp2
    go_ret
    exact ⟨⟨z, rfl⟩, HO2.out.mono (by omega), HG2.out⟩
  have hz1 : (n == 0) = false := by simpa using h0
  have hz2 : ((n : Int) == 0) = false := by simpa using h0
  go_enter Try.func93, Try.ntmps93
  go_wp2_with fail
  refine c1.out.mono ?_
  rintro e w1 ⟨⟨t, rfl⟩, hok1, hg1⟩
  have HO1 := Lib.hid hok1
  have HG1 := Lib.hid hg1
  have HR1 := Lib.hid (H.out.beside hg1 (fun x e => by have := HN.out x e; simpa using this.symm))
  clear hok1 hg1 c1
  cases t with
  | true =>
    go_wp2_with fail
    refine (code6_any b (mm + 2) _ (by omega) HO1.out).mono ?_
    rintro e w2 ⟨⟨z, rfl⟩, hok2, hg2⟩
    have HO2 := Lib.hid hok2
    have HG2 := Lib.hid (gtrans HG1.out hg2)
    clear hok2 hg2
    go_wp2
    go_ret
    exact ⟨⟨z, rfl⟩, HO2.out.mono (by omega), HG2.out⟩
  | false =>
    go_wp2_with fail
    refine (pick_any b (mm + 2) n _ (by omega) (by omega) (by omega) HO1.out).mono ?_
    rintro e w2 ⟨⟨p, rfl, _, hp⟩, hok2, hg2⟩
    have HO2 := Lib.hid hok2
    have HG2 := Lib.hid (gtrans HG1.out hg2)
    have hpn : p < n := by omega
    obtain ⟨b1, off, rfl, c0, -⟩ := (HR1.out.beside hg2 (fun x e => by have := HN.out x e; simpa using this.symm)).cells (i := p) (by rw [HL.out]; exact hpn)
    have hp0 : (0 : Int) ≤ (p : Int) := by omega
    have hp1 : (p : Int) < (n : Int) := by omega
    clear hok2 hg2 hp
    go_wp2
    go_ret
    exact ⟨⟨_, rfl⟩, HO2.out.mono (by omega), HG2.out⟩

set_option maxRecDepth 100000 in
set_option maxHeartbeats 8000000 in
theorem site_any (b mm : Nat) (w : World) (hm : mm ≤ 1152921504606840000) (hok : Ok w b mm) :
    Calls Try.prog 92 #[.pointer (some ⟨b, 0, none⟩)] w (SiteP w b (mm + 400)) := by
  obtain ⟨t0, hi0, hz0, hz1, hz2⟩ := info_parts CtK.info
  have hbl := hok.lt
  have HB := Lib.hid ((Below.refl w.heap.size w).alloc (Nat.le_refl _) (.cells #[.int .i64 0, .int .i64 0, .slice none 0 0, .slice none 0 0] 26))
  have HQ0 := Lib.hid (Blk.new w 26 #[.int .i64 0, .int .i64 0, .slice none 0 0, .slice none 0 0])
  have c1 := Lib.hid (MapD.map_any b mm _ (by omega) (hok.below HB.out))
  clear hok
  go_enter Try.func92, Try.ntmps92
  go_wp2_with fail
  refine c1.out.mono ?_
  rintro e w1 ⟨⟨v, rfl, m, ho, hR, hC⟩, hok1, hg1⟩
  obtain ⟨ar, cr, ac, cc, rfl, h1, h2, hne⟩ := ho
  rw [World.size_alloc] at h1 h2
  obtain ⟨B, hBe⟩ : ∃ B, w1.heap.size = B := ⟨_, rfl⟩
  have hsz : w.heap.size + 1 ≤ B := by rw [← hBe]; have := hg1.size; rw [World.size_alloc] at this; exact this
  have HNe := Lib.hid hne
  have HS0 := Lib.hid (show St w b (w.heap.size + 1) B w.heap.size (B + 1) m ar cr ac cc (mm + 200) (.slice (some ⟨B + 1 + 1, 0, none⟩) 0 0) [] (((w1.alloc (.cells #[.int .i64 m.W, .int .i64 m.H, .slice ar m.R.length cr, .slice ac m.C.length cc] 26)).alloc (.cells #[.int .i64 31, .int .i64 32, .int .i64 34, .int .i64 41, .int .i64 43, .int .i64 45, .int .i64 54, .int .i64 60, .int .i64 77, .int .i64 99] 3)).alloc (.cells #[] 58)) from by
    have hA : Below w1.heap.size w1 (((w1.alloc (.cells #[.int .i64 m.W, .int .i64 m.H, .slice ar m.R.length cr, .slice ac m.C.length cc] 26)).alloc (.cells #[.int .i64 31, .int .i64 32, .int .i64 34, .int .i64 41, .int .i64 43, .int .i64 45, .int .i64 54, .int .i64 60, .int .i64 77, .int .i64 99] 3)).alloc (.cells #[] 58)) := (((Below.refl _ _).alloc (Nat.le_refl _) _).alloc (by simp) _).alloc (by simp; omega) _
    refine ⟨gtrans (gbelow HB.out _) (gtrans hg1 (gbelow hA _)), hok1.below hA, by omega, hsz, ?_, h1.below hA, h2.below hA, ?_, ?_, ?_, by omega, by omega⟩
    · rw [← hBe]
      exact ((Blk.new w1 26 #[.int .i64 m.W, .int .i64 m.H, .slice ar m.R.length cr, .slice ac m.C.length cc]).alloc _).alloc _
    · have e : ((w1.alloc (.cells #[.int .i64 m.W, .int .i64 m.H, .slice ar m.R.length cr, .slice ac m.C.length cc] 26)).alloc (.cells #[.int .i64 31, .int .i64 32, .int .i64 34, .int .i64 41, .int .i64 43, .int .i64 45, .int .i64 54, .int .i64 60, .int .i64 77, .int .i64 99] 3)).heap.size = B + 1 + 1 := by simp [hBe]
      rw [← e]
      exact World.ownsRow_made _ #[] 0 (by simp; omega) (Nat.zero_le _) rfl
    · exact (((blk_grown HQ0.out hg1 (by simp; omega)).alloc _).alloc _).alloc _
    · have h := (Blk.new (w1.alloc (.cells #[.int .i64 m.W, .int .i64 m.H, .slice ar m.R.length cr, .slice ac m.C.length cc] 26)) 3 #[.int .i64 31, .int .i64 32, .int .i64 34, .int .i64 41, .int .i64 43, .int .i64 45, .int .i64 54, .int .i64 60, .int .i64 77, .int .i64 99]).alloc (.cells #[] 58)
      simpa [hBe] using h)
  have hRm : m.R.length ≤ maxLen := by unfold maxLen; omega
  have hCm : m.C.length ≤ maxLen := by unfold maxLen; omega
  clear hok1 hg1 h1 h2 hne c1 HB HQ0
  go_upto_region 5 with (fail)
  generalize (((w1.alloc (.cells #[.int .i64 m.W, .int .i64 m.H, .slice ar m.R.length cr, .slice ac m.C.length cc] 26)).alloc (.cells #[.int .i64 31, .int .i64 32, .int .i64 34, .int .i64 41, .int .i64 43, .int .i64 45, .int .i64 54, .int .i64 60, .int .i64 77, .int .i64 99] 3)).alloc (.cells #[] 58)) = wa at *
  try rw [hBe]
  clear hBe
  go_wp2_with fail
  go_loopg [7, 6, 8, 9, 10] 10 (fun gk ii v _ _ _ wr => ∃ (i : Nat) (fs : List Ct), i ≤ 10 ∧ gk = 10 - i ∧ ii = .int .i64 i ∧ fs.length ≤ i ∧ St w b (w.heap.size + 1) B w.heap.size (B + 1) m ar cr ac cc (mm + 200 + 10 * i) v fs wr)
  case atStart => exact ⟨0, [], by omega, rfl, rfl, Nat.le_refl _, HS0.out⟩
  case round =>
    clear HS0
    obtain ⟨i, fs, hi, hgk, rfl, hfl, hS⟩ := hrel
    obtain ⟨a, cap, rfl, -, -⟩ := hS.L.slice
    have HS := Lib.hid hS
    clear hS
    by_cases hlt : i < 10
    · go_wp2_with fail
      refine (one_any b _ 2 _ (by omega) (by omega) (by omega) HS.out.ok).mono ?_
      rintro e w2 ⟨⟨t, rfl⟩, hok, hg⟩
      have HS2 := Lib.hid (HS.out.step hok hg)
      clear hok hg HS
      cases t with
      | true =>
        go_wp2_with fail
        go_roundg (10 - (i + 1))
        case measure => omega
        case rel => exact ⟨i + 1, fs, by omega, rfl, by go_num, by omega, HS2.out.mono (by omega)⟩
      | false =>
        obtain ⟨p0, p1, p2, p3, -⟩ := HS2.out.box.four
        go_wp2_with fail
        refine (open_any b _ m ar ac cr cc _ (by omega) hR hC HS2.out.rowR HS2.out.rowC HS2.out.nR HS2.out.nC HS2.out.ok).mono ?_
        rintro e w3 ⟨⟨z, rfl⟩, hok, hg⟩
        have HS3 := Lib.hid (HS2.out.step hok hg)
        clear hok hg HS2 p0 p1 p2 p3
        go_wp2_with fail
        go_loopg [10, 9] fs.length (fun gk2 jj tt wq => ∃ (j : Nat) (t : Bool), j ≤ fs.length ∧ gk2 = fs.length - j ∧ jj = .int .i64 j ∧ tt = .bool t ∧ wq = w3)
        case atStart => exact ⟨0, false, Nat.zero_le _, rfl, rfl, rfl, rfl⟩
        case round =>
          obtain ⟨j, t, hj, hgk2, rfl, rfl, hwq⟩ := hrel
          obtain rfl := hwq.symm
          have hfl2 : fs.length ≤ 10 := by omega
          by_cases hlt2 : j < fs.length
          · obtain ⟨b1, off, rfl, -, d0⟩ := (CtK.Own.row HS3.out.L).cells hlt2
            obtain ⟨y, hy⟩ : ∃ y, (CtK.at_ fs j).ce = y := ⟨_, rfl⟩
            rw [hy] at d0
            clear hy
            have hj0 : (0 : Int) ≤ (j : Int) := by omega
            have hj1 : (j : Int) < (fs.length : Int) := by omega
            obtain ⟨q, hq⟩ : ∃ q, (y == z) = q := ⟨_, rfl⟩
            cases t with
            | true =>
              clear hq
              go_wp2
              go_roundg (fs.length - (j + 1))
              case measure => omega
              case rel => exact ⟨j + 1, true, by omega, rfl, by go_num, rfl, rfl⟩
            | false =>
              go_wp2
              all_goals go_roundg (fs.length - (j + 1))
              all_goals first | omega | exact ⟨j + 1, _, by omega, rfl, by go_num, rfl, rfl⟩
          · obtain rfl : j = fs.length := by omega
            clear hlt2 hj hgk2
            go_upto_region 14 with (fail)
            go_cut [47] from 42 to 48 (fun s wx => ∃ q : Bool, s = .bool q ∧ St w b (w.heap.size + 1) B w.heap.size (B + 1) m ar cr ac cc (mm + 200 + 10 * i + 10) (.slice a fs.length cap) fs wx)
            case first =>
              cases t with
              | false =>
                go_wp2
                go_meet
                exact ⟨_, rfl, HS3.out.mono (by omega)⟩
              | true =>
                go_wp2_with fail
                refine (one_any b _ 40 _ (by omega) (by omega) (by omega) HS3.out.ok).mono ?_
                rintro e w4 ⟨⟨t, rfl⟩, hok, hg⟩
                have HS4 := Lib.hid (HS3.out.step hok hg)
                clear hok hg
                go_wp2
                go_meet
                exact ⟨_, rfl, HS4.out.mono (by omega)⟩
            case rest =>
            obtain ⟨q, rfl, hS4⟩ := hcut
            have HS4 := Lib.hid hS4
            clear hS4 HS3
            cases q with
            | false =>
              go_wp2_with fail
              go_roundg (10 - (i + 1))
              case measure => omega
              case rel => exact ⟨i + 1, fs, by omega, rfl, by go_num, by omega, HS4.out.mono (by omega)⟩
            | true =>
              obtain ⟨cv, hcv⟩ : ∃ cv : Int, (#[.int .i64 31, .int .i64 32, .int .i64 34, .int .i64 41, .int .i64 43, .int .i64 45, .int .i64 54, .int .i64 60, .int .i64 77, .int .i64 99] : Array Value)[i]? = some (.int .i64 cv) := by
                rcases (show i = 0 ∨ i = 1 ∨ i = 2 ∨ i = 3 ∨ i = 4 ∨ i = 5 ∨ i = 6 ∨ i = 7 ∨ i = 8 ∨ i = 9 by omega) with rfl | rfl | rfl | rfl | rfl | rfl | rfl | rfl | rfl | rfl
                all_goals exact ⟨_, rfl⟩
              have k0 := Bk.Blk.cell (show Bk.Blk _ _ _ _ from HS4.out.cd) i hcv
              have hown := HS4.out.L
              unfold CtK.Own at hown
              have HTa := Lib.hid (HS4.out.alloc (.cells #[.int .i64 cv, .int .i64 z] 58))
              have hsz4 : w.heap.size + 1 ≤ wc.heap.size := Nat.le_trans HS4.out.sB (Nat.le_of_lt HS4.out.box.lt)
              have hi0' : (0 : Int) ≤ (i : Int) := by omega
              have hi1' : (i : Int) < 10 := by omega
              clear hcv
              go_wp2_with (go_loud (at_builtin; (refine wpList_append_own _ rfl (.tmp 48) (.tmp 55) 40 rfl (w.heap.size + 1) 58 t0 (.agg #[.int .i64 (CtK.no).co, .int .i64 (CtK.no).ce]) 2 16 Try.underlying40 hi0 hz0 hz1 hz2 rfl (by decide) _ fs.length _ rfl (hown.alloc _) ⟨_, 0, none⟩ 1 1 (CtK.cells [⟨cv, z⟩]) rfl rfl (World.news_of_block (Blk.new _ _ _)) (CtK.cells_one [⟨cv, z⟩]) (by unfold maxLen; omega) (by omega) (by simp; omega) ?_; intro v' w3' hown3 hgr3 _; have HP := Lib.hid (HTa.out.put (x := ⟨cv, z⟩) (by omega) hown3 hgr3); clear hown3 hgr3)))
              go_roundg (10 - (i + 1))
              case measure => omega
              case rel => exact ⟨i + 1, fs ++ [⟨cv, z⟩], by omega, rfl, by go_num, by simp; omega, HP.out.mono (by omega)⟩
    · obtain rfl : i = 10 := by omega
      go_wp2_with fail
      refine (one_any b _ 32 _ (by omega) (by omega) (by omega) HS.out.ok).mono ?_
      rintro e w2 ⟨⟨t, rfl⟩, hok, hg⟩
      have HS2 := Lib.hid (HS.out.step hok hg)
      clear hok hg HS
      cases t with
      | false =>
        obtain ⟨r0, r1, r2, r3, l0, l1, l2, l3⟩ := HS2.out.res.four
        obtain ⟨p0, p1, p2, p3, -⟩ := HS2.out.box.four
        have hx1 := HS2.out.res.lt
        have hx2 := HS2.out.box.lt
        go_wp2
        refine bodyPost_ret (v := .tuple #[.agg #[.int .i64 m.W, .int .i64 m.H, .slice ar m.R.length cr, .slice ac m.C.length cc], .slice a fs.length cap]) (by simp [results, Try.results92, go_sem, r0, r1, r2, r3]) rfl ?_
        have hbz : Below w.heap.size w2 ((((w2.setCell ⟨w.heap.size, 0, none⟩ (.int .i64 m.W)).setCell ⟨w.heap.size, 1, none⟩ (.int .i64 m.H)).setCell ⟨w.heap.size, 2, none⟩ (.slice ar m.R.length cr)).setCell ⟨w.heap.size, 3, none⟩ (.slice ac m.C.length cc)) := by
          iterate 4 (refine Below.setCell ?_ (by simp) _)
          exact Below.refl _ _
        refine ⟨_, _, m, fs, rfl, ⟨ar, cr, ac, cc, rfl, ?_, ?_, HNe.out⟩, ?_, hR, hC, ?_, ok_belowB (HS2.out.ok.mono (by omega)) hbz hbl, grown_B HS2.out.g hbz (Nat.le_refl _)⟩
        · have h := HS2.out.r
          refine rebase (b := w.heap.size + 1) ?_ (by omega)
          iterate 4 (refine ownsRow_setCell_below ?_ (by show w.heap.size < _; omega) _)
          exact h
        · have h := HS2.out.c
          refine rebase (b := w.heap.size + 1) ?_ (by omega)
          iterate 4 (refine ownsRow_setCell_below ?_ (by show w.heap.size < _; omega) _)
          exact h
        · have h := HS2.out.L
          refine rebase (b := w.heap.size + 1) ?_ (by omega)
          iterate 4 (refine ownsRow_setCell_below ?_ (by show w.heap.size < _; omega) _)
          exact h
        · omega
      | true =>
        go_upto_region 17 with (fail)
        obtain ⟨p0, p1, p2, p3, -⟩ := HS2.out.box.four
        refine wp_region_noPanic ?_
        refine wp_region_held_drew (S := (fun Wx : World => Wx.cell? ⟨B, 0, none⟩ = some (.int .i64 m.W) ∧ Wx.cell? ⟨B, 1, none⟩ = some (.int .i64 m.H) ∧ Wx.cell? ⟨B, 2, none⟩ = some (.slice ar m.R.length cr) ∧ Wx.cell? ⟨B, 3, none⟩ = some (.slice ac m.C.length cc))) (by kernel_rfl) ⟨p0, p1, p2, p3⟩ (fun hHeld => ?_)
        refine wpAnyH_take (i := 0) (oi := _) (v := ?_) rfl (by kernel_rfl) (by kernel_rfl) (by kernel_rfl) (fun _ _ _ h => h) (Or.inl ⟨by rfl, ?_⟩) (by assumption) ?_; rotate_left; focus (intro W hSw; (try dsimp only at hSw); go_simp; (first | done | with_reducible rfl))
        (try simp only [List.getElem_toArray, List.getElem_cons_succ, List.getElem_cons_zero, Act.put, List.setIfInBounds_toArray, List.set_cons_zero, List.set_cons_succ])
        refine wpAnyH_take (i := 1) (oi := _) (v := ?_) rfl (by kernel_rfl) (by kernel_rfl) (by kernel_rfl) (fun _ _ _ h => h) (Or.inl ⟨by rfl, ?_⟩) (by assumption) ?_; rotate_left; focus (intro W hSw; (try dsimp only at hSw); go_simp; (first | done | with_reducible rfl))
        (try simp only [List.getElem_toArray, List.getElem_cons_succ, List.getElem_cons_zero, Act.put, List.setIfInBounds_toArray, List.set_cons_zero, List.set_cons_succ])
        refine wpAnyH_take (i := 3) (oi := _) (v := ?_) rfl (by kernel_rfl) (by kernel_rfl) (by kernel_rfl) (fun _ _ _ h => h) (Or.inl ⟨by rfl, ?_⟩) (by assumption) ?_; rotate_left; focus (intro W hSw; (try dsimp only at hSw); go_simp; (first | done | with_reducible rfl))
        (try simp only [List.getElem_toArray, List.getElem_cons_succ, List.getElem_cons_zero, Act.put, List.setIfInBounds_toArray, List.set_cons_zero, List.set_cons_succ])
        refine wpAnyH_take (i := 4) (oi := _) (v := ?_) rfl (by kernel_rfl) (by kernel_rfl) (by kernel_rfl) (fun _ _ _ h => h) (Or.inl ⟨by rfl, ?_⟩) (by assumption) ?_; rotate_left; focus (intro W hSw; (try dsimp only at hSw); go_simp; (first | done | with_reducible rfl))
        (try simp only [List.getElem_toArray, List.getElem_cons_succ, List.getElem_cons_zero, Act.put, List.setIfInBounds_toArray, List.set_cons_zero, List.set_cons_succ])
        refine wpAnyH_ready (rs := [2]) (by kernel_rfl) (by simp) ?_
        refine AllReadyH.cons (o := _) rfl (fun K hK => ?_) AllReadyH.nil
        go_simp
        go_at_call 134
        refine (code6_any b _ _ (by omega) HS2.out.drew.ok).mono ?_
        rintro e w3 ⟨⟨cv, rfl⟩, hok, hg⟩
        have HS3 := Lib.hid (HS2.out.drew.step hok hg)
        clear hok hg p0 p1 p2 p3
        obtain ⟨p0, p1, p2, p3, -⟩ := HS3.out.box.four
        go_wp2_with fail
        refine hK.out _ _ ⟨p0, p1, p2, p3⟩ (fun _ => ?_)
        clear hK K hHeld
        refine wpAnyH_ready (rs := [5]) (by kernel_rfl) (by simp) ?_
        refine AllReadyH.cons (o := _) rfl (fun K hK => ?_) AllReadyH.nil
        go_simp
        go_at_call 104
        refine (cell_any b _ m ar ac cr cc _ (by omega) hC HS3.out.ok).mono ?_
        rintro e w4 ⟨⟨z, rfl⟩, hok, hg⟩
        have HS4 := Lib.hid (HS3.out.step hok hg)
        clear hok hg p0 p1 p2 p3
        obtain ⟨p0, p1, p2, p3, -⟩ := HS4.out.box.four
        go_wp2_with fail
        refine hK.out _ _ ⟨p0, p1, p2, p3⟩ (fun _ => ?_)
        clear hK K p0 p1 p2 p3
        refine wpAnyH_take (i := 6) (oi := _) (v := ?_) rfl (by kernel_rfl) (by kernel_rfl) (by kernel_rfl) (fun _ _ _ h => h) (Or.inl ⟨by rfl, ?_⟩) (by assumption) ?_; rotate_left; focus (intro W hSw; (try dsimp only at hSw); go_simp; (first | done | with_reducible rfl))
        (try simp only [List.getElem_toArray, List.getElem_cons_succ, List.getElem_cons_zero, Act.put, List.setIfInBounds_toArray, List.set_cons_zero, List.set_cons_succ])
        refine wpAnyH_ready (rs := [7]) (by kernel_rfl) (by simp) ?_
        refine AllReadyH.cons (o := _) rfl (fun K hK => ?_) AllReadyH.nil
        go_simp
        have HTa := Lib.hid (HS4.out.alloc (.cells #[.int .i64 cv, .int .i64 z] 58))
        obtain ⟨p0, p1, p2, p3, -⟩ := HTa.out.box.four
        have HX := Lib.hid (Blk.new w4 58 #[.int .i64 cv, .int .i64 z])
        have hown := HTa.out.L
        unfold CtK.Own at hown
        have hszt : w.heap.size + 1 ≤ (w4.alloc (.cells #[.int .i64 cv, .int .i64 z] 58)).heap.size := Nat.le_trans HTa.out.sB (Nat.le_of_lt HTa.out.box.lt)
        refine hK.out _ _ ⟨p0, p1, p2, p3⟩ (fun _ => ?_)
        clear hK K p0 p1 p2 p3
        refine wpAnyH_ready (rs := [8]) (by kernel_rfl) (by simp) ?_
        refine AllReadyH.cons (o := _) rfl (fun K hK => ?_) AllReadyH.nil
        rw [if_pos (by rfl)]
        refine wp_append_own _ (.tmp 59) (.tmp 66) 40 rfl (w.heap.size + 1) 58 t0 (.agg #[.int .i64 (CtK.no).co, .int .i64 (CtK.no).ce]) 2 16 Try.underlying40 hi0 hz0 hz1 hz2 rfl (by decide) _ fs.length _ (by rfl) hown ⟨_, 0, none⟩ 1 1 (CtK.cells [⟨cv, z⟩]) (by (try simp only [Act.eval, Act.put]); rfl) rfl (World.news_of_block HX.out) (CtK.cells_one [⟨cv, z⟩]) (by unfold maxLen; omega) (by omega) hszt (fun v5 w5 hown3 hgr3 _ => ?_)
        have HP := Lib.hid (HTa.out.put (x := ⟨cv, z⟩) (by omega) hown3 hgr3)
        clear hown3 hgr3
        obtain ⟨p0, p1, p2, p3, -⟩ := HP.out.box.four
        (try simp only [Act.put, List.setIfInBounds_toArray, List.set_cons_zero, List.set_cons_succ])
        refine hK.out _ _ ⟨p0, p1, p2, p3⟩ (fun _ => ?_)
        clear hK K p0 p1 p2 p3
        refine wpAnyH_take (i := 9) (oi := _) (v := ?_) rfl (by kernel_rfl) (by kernel_rfl) (by kernel_rfl) (fun _ _ _ h => h) (Or.inl ⟨by rfl, ?_⟩) (by assumption) ?_; rotate_left; focus (intro W hSw; (try dsimp only at hSw); go_simp; (first | done | with_reducible rfl))
        (try simp only [List.getElem_toArray, List.getElem_cons_succ, List.getElem_cons_zero, Act.put, List.setIfInBounds_toArray, List.set_cons_zero, List.set_cons_succ])
        refine wpAnyH_done (by kernel_rfl) ?_ _
        refine NoPanic.normal ?_
        (try simp only [List.getElem_toArray, List.getElem_cons_succ, List.getElem_cons_zero, Act.put, List.setIfInBounds_toArray, List.set_cons_zero, List.set_cons_succ])
        obtain ⟨r0, r1, r2, r3, l0, l1, l2, l3⟩ := HP.out.res.four
        obtain ⟨p0, p1, p2, p3, -⟩ := HP.out.box.four
        have hx1 := HP.out.res.lt
        have hx2 := HP.out.box.lt
        go_wp2
        refine bodyPost_ret (v := .tuple #[.agg #[.int .i64 m.W, .int .i64 m.H, .slice ar m.R.length cr, .slice ac m.C.length cc], v5]) (by simp [results, Try.results92, go_sem, r0, r1, r2, r3]) rfl ?_
        have hbz : Below w.heap.size w5 ((((w5.setCell ⟨w.heap.size, 0, none⟩ (.int .i64 m.W)).setCell ⟨w.heap.size, 1, none⟩ (.int .i64 m.H)).setCell ⟨w.heap.size, 2, none⟩ (.slice ar m.R.length cr)).setCell ⟨w.heap.size, 3, none⟩ (.slice ac m.C.length cc)) := by
          iterate 4 (refine Below.setCell ?_ (by simp) _)
          exact Below.refl _ _
        refine ⟨_, _, m, fs ++ [⟨cv, z⟩], rfl, ⟨ar, cr, ac, cc, rfl, ?_, ?_, HNe.out⟩, ?_, hR, hC, ?_, ok_belowB (HP.out.ok.mono (by omega)) hbz hbl, grown_B HP.out.g hbz (Nat.le_refl _)⟩
        · have h := HP.out.r
          refine rebase (b := w.heap.size + 1) ?_ (by omega)
          iterate 4 (refine ownsRow_setCell_below ?_ (by show w.heap.size < _; omega) _)
          exact h
        · have h := HP.out.c
          refine rebase (b := w.heap.size + 1) ?_ (by omega)
          iterate 4 (refine ownsRow_setCell_below ?_ (by show w.heap.size < _; omega) _)
          exact h
        · have h := HP.out.L
          refine rebase (b := w.heap.size + 1) ?_ (by omega)
          iterate 4 (refine ownsRow_setCell_below ?_ (by show w.heap.size < _; omega) _)
          exact h
        · simp; omega

end Go.Proofs.Ytfpfnnindlfgfaa.CtSi

namespace Go.Proofs.Ytfpfnnindlfgfaa.CtDw
open Go.RowKit Lb Cur IntS MapS SpecB CurM CodM DrwM CtDr CtSi
set_option linter.unusedSimpArgs false
set_option linter.unusedVariables false

def DP0 (w : World) (e : Ending) (w' : World) : Prop := ∃ (v lv : Value) (m : Mp) (fs : List Ct), e = .returned (.tuple #[v, lv]) ∧ OwnM w' w.heap.size v m ∧ CtK.Own w' w.heap.size lv fs ∧ m.R.length ≤ 21 ∧ m.C.length ≤ 21 ∧ fs.length ≤ 11 ∧ Below w.heap.size w w'
def DP1 (P : Int → Prop) (w : World) (e : Ending) (w' : World) : Prop := ∃ (v lv : Value) (m : Mp) (fs : List Ct) (z1 : Int), e = .returned (.tuple #[v, lv, .int .i64 z1]) ∧ P z1 ∧ OwnM w' w.heap.size v m ∧ CtK.Own w' w.heap.size lv fs ∧ m.R.length ≤ 21 ∧ m.C.length ≤ 21 ∧ fs.length ≤ 11 ∧ Below w.heap.size w w'
def DP2 (w : World) (e : Ending) (w' : World) : Prop := ∃ (v lv : Value) (m : Mp) (fs : List Ct) (z1 z2 : Int), e = .returned (.tuple #[v, lv, .int .i64 z1, .int .i64 z2]) ∧ OwnM w' w.heap.size v m ∧ CtK.Own w' w.heap.size lv fs ∧ m.R.length ≤ 21 ∧ m.C.length ≤ 21 ∧ fs.length ≤ 11 ∧ Below w.heap.size w w'
/-- What stands while the numbers are drawn. -/
structure Dw (w : World) (m : Mp) (ar : Option Addr) (cr : Nat) (ac : Option Addr) (cc B mm : Nat) (ad : Option Addr) (cap : Nat) (fs : List Ct) (wx : World) : Prop where
  d : DSt w m ar cr ac cc B mm wx
  L : CtK.Own wx (w.heap.size + 1 + 1) (.slice ad fs.length cap) fs
section
variable {w : World} {m : Mp} {ar ac ad : Option Addr} {cr cc B mm cap : Nat} {fs : List Ct} {wx w' : World}
theorem Dw.drew (h : Dw w m ar cr ac cc B mm ad cap fs wx) : Dw w m ar cr ac cc B mm ad cap fs wx.drew := ⟨h.d.drew, h.L.drew⟩
theorem Dw.alloc (h : Dw w m ar cr ac cc B mm ad cap fs wx) (o : Obj) : Dw w m ar cr ac cc B mm ad cap fs (wx.alloc o) := ⟨h.d.below ((Below.refl _ _).alloc (Nat.le_refl _) _), h.L.below ((Below.refl _ _).alloc (Nat.le_refl _) _)⟩
theorem Dw.step {mm' : Nat} (h : Dw w m ar cr ac cc B mm ad cap fs wx) (hB : w.heap.size + 1 < B) (ho : Ok w' (w.heap.size + 1) mm') (hg : wx.grownBy w' (some (w.heap.size + 1))) : Dw w m ar cr ac cc B mm' ad cap fs w' :=
  ⟨h.d.step hB ho hg, own_kept h.L hg (Nat.lt_succ_self _)⟩
theorem Dw.nL (h : Dw w m ar cr ac cc B mm ad cap fs wx) : ∀ x, ad = some x → x.block ≠ w.heap.size + 1 := fun x e => by have := (CtK.Own.at_lt h.L x e).1; omega
theorem Dw.nR (h : Dw w m ar cr ac cc B mm ad cap fs wx) : ∀ x, ar = some x → x.block ≠ w.heap.size + 1 := fun x e => by have := (OwnI.lt h.d.r x e).1; omega
theorem Dw.nC (h : Dw w m ar cr ac cc B mm ad cap fs wx) : ∀ x, ac = some x → x.block ≠ w.heap.size + 1 := fun x e => by have := (OwnI.lt h.d.c x e).1; omega
end

set_option maxRecDepth 100000 in
set_option maxHeartbeats 4000000 in
theorem drawAreControls (a : Option Addr) (n cap : Nat) (xs : Nat → Nat) (w : World) (hc : Bytes w a n xs) :
    Calls Try.prog 106 #[.slice a n cap] w (DP0 w) := by
  have HB := Lib.hid ((Below.refl w.heap.size w).alloc (Nat.le_refl _) (.cells #[.int .i64 0, .int .i64 0, .slice none 0 0, .slice none 0 0] 26))
  have HQ0 := Lib.hid (Blk.new w 26 #[.int .i64 0, .int .i64 0, .slice none 0 0, .slice none 0 0])
  have c1 := Lib.hid (site_any _ 0 _ (by omega) (begin_ (hc.below HB.out) cap))
  rw [World.size_alloc] at c1
  clear hc
  go_enter Try.func106, Try.ntmps106
  go_wp2_with fail
  refine c1.out.mono ?_
  rintro e w1 ⟨v, lv, m, fs, rfl, ho, hL, hR, hC, hF, hok1, hg1⟩
  obtain ⟨ar, cr, ac, cc, rfl, h1, h2, hne⟩ := ho
  obtain ⟨ad, cpl, rfl, -, -⟩ := hL.slice
  rw [World.size_alloc, World.size_alloc] at h1 h2 hL
  have hz : w.heap.size + 1 < w1.heap.size := hok1.lt
  obtain ⟨B5, hB5e⟩ : ∃ B, w1.heap.size = B := ⟨_, rfl⟩
  have HS2 := Lib.hid (show Dw w m ar cr ac cc B5 400 ad cpl fs (w1.alloc (.cells #[.int .i64 m.W, .int .i64 m.H, .slice ar m.R.length cr, .slice ac m.C.length cc] 26)) from by
    have hA : Below w1.heap.size w1 (w1.alloc (.cells #[.int .i64 m.W, .int .i64 m.H, .slice ar m.R.length cr, .slice ac m.C.length cc] 26)) := (Below.refl _ _).alloc (Nat.le_refl _) _
    have hB1 := below_of_grown (HB.out.alloc (by simp) _) hg1 (by simp; omega) (by simp)
    refine ⟨⟨hB1.alloc hB1.size _, (blk_grown (HQ0.out.alloc _) hg1 (by simp)).alloc _, ?_, World.ownsRow.alloc h1 _, World.ownsRow.alloc h2 _, (hok1.below hA).mono (by omega)⟩, World.ownsRow.alloc hL _⟩
    rw [← hB5e]
    exact Blk.new w1 26 #[.int .i64 m.W, .int .i64 m.H, .slice ar m.R.length cr, .slice ac m.C.length cc])
  have HN := Lib.hid hne
  have hB5 : w.heap.size + 1 < B5 := by omega
  have hRm : m.R.length ≤ maxLen := by unfold maxLen; omega
  have hCm : m.C.length ≤ maxLen := by unfold maxLen; omega
  clear hg1 h1 h2 hL hne hok1 c1 HB HQ0
  obtain ⟨r0, r1, r2, r3, l0, l1, l2, l3⟩ := HS2.out.d.res.four
  have hx1 := HS2.out.d.res.lt
  have hx2 := HS2.out.d.box.lt
  obtain ⟨p0, p1, p2, p3, -⟩ := HS2.out.d.box.four
  rw [← hB5e] at p0 p1 p2 p3
  go_wp2
  refine bodyPost_ret (v := .tuple #[.agg #[.int .i64 m.W, .int .i64 m.H, .slice ar m.R.length cr, .slice ac m.C.length cc], .slice ad fs.length cpl]) (by simp [results, Try.results106, go_sem, r0, r1, r2, r3]) rfl ⟨_, _, m, fs, rfl, ⟨ar, cr, ac, cc, rfl, ?_, ?_, HN.out⟩, ?_, hR, hC, hF, ?_⟩
  · have h := HS2.out.d.r
    refine rebase (b := w.heap.size + 1 + 1) ?_ (by omega)
    iterate 4 (refine ownsRow_setCell_below ?_ (by show w.heap.size < _; omega) _)
    exact h
  · have h := HS2.out.d.c
    refine rebase (b := w.heap.size + 1 + 1) ?_ (by omega)
    iterate 4 (refine ownsRow_setCell_below ?_ (by show w.heap.size < _; omega) _)
    exact h
  · have h := HS2.out.L
    refine rebase (b := w.heap.size + 1 + 1) ?_ (by omega)
    iterate 4 (refine ownsRow_setCell_below ?_ (by show w.heap.size < _; omega) _)
    exact h
  · iterate 4 (refine Below.setCell ?_ (by simp) _)
    exact HS2.out.d.b

set_option maxRecDepth 100000 in
set_option maxHeartbeats 4000000 in
theorem drawCellOfCode (a : Option Addr) (n cap : Nat) (xs : Nat → Nat) (w : World) (hc : Bytes w a n xs) :
    Calls Try.prog 43 #[.slice a n cap] w (DP1 (fun _ => True) w) := by
  have HB := Lib.hid ((Below.refl w.heap.size w).alloc (Nat.le_refl _) (.cells #[.int .i64 0, .int .i64 0, .slice none 0 0, .slice none 0 0] 26))
  have HQ0 := Lib.hid (Blk.new w 26 #[.int .i64 0, .int .i64 0, .slice none 0 0, .slice none 0 0])
  have c1 := Lib.hid (site_any _ 0 _ (by omega) (begin_ (hc.below HB.out) cap))
  rw [World.size_alloc] at c1
  clear hc
  go_enter Try.func43, Try.ntmps43
  go_wp2_with fail
  refine c1.out.mono ?_
  rintro e w1 ⟨v, lv, m, fs, rfl, ho, hL, hR, hC, hF, hok1, hg1⟩
  obtain ⟨ar, cr, ac, cc, rfl, h1, h2, hne⟩ := ho
  obtain ⟨ad, cpl, rfl, -, -⟩ := hL.slice
  rw [World.size_alloc, World.size_alloc] at h1 h2 hL
  have hz : w.heap.size + 1 < w1.heap.size := hok1.lt
  obtain ⟨B5, hB5e⟩ : ∃ B, w1.heap.size = B := ⟨_, rfl⟩
  have HS2 := Lib.hid (show Dw w m ar cr ac cc B5 400 ad cpl fs (w1.alloc (.cells #[.int .i64 m.W, .int .i64 m.H, .slice ar m.R.length cr, .slice ac m.C.length cc] 26)) from by
    have hA : Below w1.heap.size w1 (w1.alloc (.cells #[.int .i64 m.W, .int .i64 m.H, .slice ar m.R.length cr, .slice ac m.C.length cc] 26)) := (Below.refl _ _).alloc (Nat.le_refl _) _
    have hB1 := below_of_grown (HB.out.alloc (by simp) _) hg1 (by simp; omega) (by simp)
    refine ⟨⟨hB1.alloc hB1.size _, (blk_grown (HQ0.out.alloc _) hg1 (by simp)).alloc _, ?_, World.ownsRow.alloc h1 _, World.ownsRow.alloc h2 _, (hok1.below hA).mono (by omega)⟩, World.ownsRow.alloc hL _⟩
    rw [← hB5e]
    exact Blk.new w1 26 #[.int .i64 m.W, .int .i64 m.H, .slice ar m.R.length cr, .slice ac m.C.length cc])
  have HN := Lib.hid hne
  have hB5 : w.heap.size + 1 < B5 := by omega
  have hRm : m.R.length ≤ maxLen := by unfold maxLen; omega
  have hCm : m.C.length ≤ maxLen := by unfold maxLen; omega
  clear hg1 h1 h2 hL hne hok1 c1 HB HQ0
  go_upto_region 3 with (fail)
  replace HS2 := Lib.hid HS2.out.drew
  try rw [hB5e]
  obtain ⟨p0, p1, p2, p3, -⟩ := HS2.out.d.box.four
  refine wp_region_noPanic ?_
  refine wp_region_held_drew (S := (fun Wx : World => Wx.cell? ⟨B5, 0, none⟩ = some (.int .i64 m.W) ∧ Wx.cell? ⟨B5, 1, none⟩ = some (.int .i64 m.H) ∧ Wx.cell? ⟨B5, 2, none⟩ = some (.slice ar m.R.length cr) ∧ Wx.cell? ⟨B5, 3, none⟩ = some (.slice ac m.C.length cc))) (by kernel_rfl) ⟨p0, p1, p2, p3⟩ (fun hHeld => ?_)
  refine wpAnyH_take (i := 0) (oi := _) (v := ?_) rfl (by kernel_rfl) (by kernel_rfl) (by kernel_rfl) (fun _ _ _ h => h) (Or.inl ⟨by rfl, ?_⟩) (by assumption) ?_; rotate_left; focus (intro W hSw; (try dsimp only at hSw); go_simp; (first | done | with_reducible rfl))
  (try simp only [List.getElem_toArray, List.getElem_cons_succ, List.getElem_cons_zero, Act.put, List.setIfInBounds_toArray, List.set_cons_zero, List.set_cons_succ])
  refine wpAnyH_take (i := 1) (oi := _) (v := ?_) rfl (by kernel_rfl) (by kernel_rfl) (by kernel_rfl) (fun _ _ _ h => h) (Or.inl ⟨by rfl, ?_⟩) (by assumption) ?_; rotate_left; focus (intro W hSw; (try dsimp only at hSw); go_simp; (first | done | with_reducible rfl))
  (try simp only [List.getElem_toArray, List.getElem_cons_succ, List.getElem_cons_zero, Act.put, List.setIfInBounds_toArray, List.set_cons_zero, List.set_cons_succ])
  refine wpAnyH_take (i := 2) (oi := _) (v := ?_) rfl (by kernel_rfl) (by kernel_rfl) (by kernel_rfl) (fun _ _ _ h => h) (Or.inl ⟨by rfl, ?_⟩) (by assumption) ?_; rotate_left; focus (intro W hSw; (try dsimp only at hSw); go_simp; (first | done | with_reducible rfl))
  (try simp only [List.getElem_toArray, List.getElem_cons_succ, List.getElem_cons_zero, Act.put, List.setIfInBounds_toArray, List.set_cons_zero, List.set_cons_succ])
  refine wpAnyH_take (i := 3) (oi := _) (v := ?_) rfl (by kernel_rfl) (by kernel_rfl) (by kernel_rfl) (fun _ _ _ h => h) (Or.inl ⟨by rfl, ?_⟩) (by assumption) ?_; rotate_left; focus (intro W hSw; (try dsimp only at hSw); go_simp; (first | done | with_reducible rfl))
  (try simp only [List.getElem_toArray, List.getElem_cons_succ, List.getElem_cons_zero, Act.put, List.setIfInBounds_toArray, List.set_cons_zero, List.set_cons_succ])
  refine wpAnyH_ready (rs := [4]) (by kernel_rfl) (by simp) ?_
  refine AllReadyH.cons (o := _) rfl (fun K hK => ?_) AllReadyH.nil
  go_simp
  go_at_call 93
  refine (codeOf_any (w.heap.size + 1) 400 ad cpl fs _ (by omega) (by omega) (CtK.Own.row HS2.out.L) HS2.out.nL HS2.out.d.ok).mono ?_
  rintro e w3 ⟨⟨z1, rfl⟩, hok, hg⟩
  have HS3 := Lib.hid (HS2.out.step hB5 hok hg)
  clear hok hg HS2
  obtain ⟨p0, p1, p2, p3, -⟩ := HS3.out.d.box.four
  go_wp2_with fail
  refine hK.out _ _ ⟨p0, p1, p2, p3⟩ (fun _ => ?_)
  clear hK K hHeld
  clear p0 p1 p2 p3
  obtain ⟨r0, r1, r2, r3, l0, l1, l2, l3⟩ := HS3.out.d.res.four
  have hx1 := HS3.out.d.res.lt
  have hx2 := HS3.out.d.box.lt
  refine wpAnyH_ready (rs := [5]) (by kernel_rfl) (by simp) ?_
  refine AllReadyH.cons (o := _) rfl (fun K hK => ?_) AllReadyH.nil
  go_simp
  have key : ∀ (W : World) (p : Addr) (u : Value), p.block = w.heap.size → Blk W B5 26 #[.int .i64 m.W, .int .i64 m.H, .slice ar m.R.length cr, .slice ac m.C.length cc] → Blk (W.setCell p u) B5 26 #[.int .i64 m.W, .int .i64 m.H, .slice ar m.R.length cr, .slice ac m.C.length cc] := fun W p u hp h => (Below.heap_setCell W p u B5 (by omega)).trans h
  obtain ⟨q0, q1, q2, q3, -⟩ := (key _ ⟨w.heap.size, 3, none⟩ (.slice ac m.C.length cc) rfl (key _ ⟨w.heap.size, 2, none⟩ (.slice ar m.R.length cr) rfl (key _ ⟨w.heap.size, 1, none⟩ (.int .i64 m.H) rfl (key _ ⟨w.heap.size, 0, none⟩ (.int .i64 m.W) rfl HS3.out.d.box)))).four
  clear key
  refine hK.out _ _ ⟨q0, q1, q2, q3⟩ (fun _ => ?_)
  clear hK K q0 q1 q2 q3
  refine wpAnyH_take (i := 6) (oi := _) (v := ?_) rfl (by kernel_rfl) (by kernel_rfl) (by kernel_rfl) (fun _ _ _ h => h) (Or.inl ⟨by rfl, ?_⟩) (by assumption) ?_; rotate_left; focus (intro W hSw; (try dsimp only at hSw); go_simp; (first | done | with_reducible rfl))
  (try simp only [List.getElem_toArray, List.getElem_cons_succ, List.getElem_cons_zero, Act.put, List.setIfInBounds_toArray, List.set_cons_zero, List.set_cons_succ])
  refine wpAnyH_take (i := 7) (oi := _) (v := ?_) rfl (by kernel_rfl) (by kernel_rfl) (by kernel_rfl) (fun _ _ _ h => h) (Or.inl ⟨by rfl, ?_⟩) (by assumption) ?_; rotate_left; focus (intro W hSw; (try dsimp only at hSw); go_simp; (first | done | with_reducible rfl))
  (try simp only [List.getElem_toArray, List.getElem_cons_succ, List.getElem_cons_zero, Act.put, List.setIfInBounds_toArray, List.set_cons_zero, List.set_cons_succ])
  refine wpAnyH_done (by kernel_rfl) ?_ _
  refine NoPanic.normal ?_
  (try simp only [List.getElem_toArray, List.getElem_cons_succ, List.getElem_cons_zero, Act.put, List.setIfInBounds_toArray, List.set_cons_zero, List.set_cons_succ])
  go_wp2
  refine bodyPost_ret (v := .tuple #[.agg #[.int .i64 m.W, .int .i64 m.H, .slice ar m.R.length cr, .slice ac m.C.length cc], .slice ad fs.length cpl, .int .i64 z1]) (by simp [results, Try.results43, go_sem, r0, r1, r2, r3]) rfl ⟨_, _, m, fs, z1, rfl, trivial, ⟨ar, cr, ac, cc, rfl, ?_, ?_, HN.out⟩, ?_, hR, hC, hF, ?_⟩
  · have h := HS3.out.d.r
    refine rebase (b := w.heap.size + 1 + 1) ?_ (by omega)
    iterate 4 (refine ownsRow_setCell_below ?_ (by show w.heap.size < _; omega) _)
    exact h
  · have h := HS3.out.d.c
    refine rebase (b := w.heap.size + 1 + 1) ?_ (by omega)
    iterate 4 (refine ownsRow_setCell_below ?_ (by show w.heap.size < _; omega) _)
    exact h
  · have h := HS3.out.L
    refine rebase (b := w.heap.size + 1 + 1) ?_ (by omega)
    iterate 4 (refine ownsRow_setCell_below ?_ (by show w.heap.size < _; omega) _)
    exact h
  · iterate 4 (refine Below.setCell ?_ (by simp) _)
    exact HS3.out.d.b

set_option maxRecDepth 100000 in
set_option maxHeartbeats 4000000 in
theorem drawNearestControl (a : Option Addr) (n cap : Nat) (xs : Nat → Nat) (w : World) (hc : Bytes w a n xs) :
    Calls Try.prog 56 #[.slice a n cap] w (DP1 (fun _ => True) w) := by
  have HB := Lib.hid ((Below.refl w.heap.size w).alloc (Nat.le_refl _) (.cells #[.int .i64 0, .int .i64 0, .slice none 0 0, .slice none 0 0] 26))
  have HQ0 := Lib.hid (Blk.new w 26 #[.int .i64 0, .int .i64 0, .slice none 0 0, .slice none 0 0])
  have c1 := Lib.hid (site_any _ 0 _ (by omega) (begin_ (hc.below HB.out) cap))
  rw [World.size_alloc] at c1
  clear hc
  go_enter Try.func56, Try.ntmps56
  go_wp2_with fail
  refine c1.out.mono ?_
  rintro e w1 ⟨v, lv, m, fs, rfl, ho, hL, hR, hC, hF, hok1, hg1⟩
  obtain ⟨ar, cr, ac, cc, rfl, h1, h2, hne⟩ := ho
  obtain ⟨ad, cpl, rfl, -, -⟩ := hL.slice
  rw [World.size_alloc, World.size_alloc] at h1 h2 hL
  have hz : w.heap.size + 1 < w1.heap.size := hok1.lt
  obtain ⟨B5, hB5e⟩ : ∃ B, w1.heap.size = B := ⟨_, rfl⟩
  have HS2 := Lib.hid (show Dw w m ar cr ac cc B5 400 ad cpl fs (w1.alloc (.cells #[.int .i64 m.W, .int .i64 m.H, .slice ar m.R.length cr, .slice ac m.C.length cc] 26)) from by
    have hA : Below w1.heap.size w1 (w1.alloc (.cells #[.int .i64 m.W, .int .i64 m.H, .slice ar m.R.length cr, .slice ac m.C.length cc] 26)) := (Below.refl _ _).alloc (Nat.le_refl _) _
    have hB1 := below_of_grown (HB.out.alloc (by simp) _) hg1 (by simp; omega) (by simp)
    refine ⟨⟨hB1.alloc hB1.size _, (blk_grown (HQ0.out.alloc _) hg1 (by simp)).alloc _, ?_, World.ownsRow.alloc h1 _, World.ownsRow.alloc h2 _, (hok1.below hA).mono (by omega)⟩, World.ownsRow.alloc hL _⟩
    rw [← hB5e]
    exact Blk.new w1 26 #[.int .i64 m.W, .int .i64 m.H, .slice ar m.R.length cr, .slice ac m.C.length cc])
  have HN := Lib.hid hne
  have hB5 : w.heap.size + 1 < B5 := by omega
  have hRm : m.R.length ≤ maxLen := by unfold maxLen; omega
  have hCm : m.C.length ≤ maxLen := by unfold maxLen; omega
  clear hg1 h1 h2 hL hne hok1 c1 HB HQ0
  go_upto_region 3 with (fail)
  replace HS2 := Lib.hid HS2.out.drew
  try rw [hB5e]
  obtain ⟨p0, p1, p2, p3, -⟩ := HS2.out.d.box.four
  refine wp_region_noPanic ?_
  refine wp_region_held_drew (S := (fun Wx : World => Wx.cell? ⟨B5, 0, none⟩ = some (.int .i64 m.W) ∧ Wx.cell? ⟨B5, 1, none⟩ = some (.int .i64 m.H) ∧ Wx.cell? ⟨B5, 2, none⟩ = some (.slice ar m.R.length cr) ∧ Wx.cell? ⟨B5, 3, none⟩ = some (.slice ac m.C.length cc))) (by kernel_rfl) ⟨p0, p1, p2, p3⟩ (fun hHeld => ?_)
  refine wpAnyH_take (i := 0) (oi := _) (v := ?_) rfl (by kernel_rfl) (by kernel_rfl) (by kernel_rfl) (fun _ _ _ h => h) (Or.inl ⟨by rfl, ?_⟩) (by assumption) ?_; rotate_left; focus (intro W hSw; (try dsimp only at hSw); go_simp; (first | done | with_reducible rfl))
  (try simp only [List.getElem_toArray, List.getElem_cons_succ, List.getElem_cons_zero, Act.put, List.setIfInBounds_toArray, List.set_cons_zero, List.set_cons_succ])
  refine wpAnyH_take (i := 1) (oi := _) (v := ?_) rfl (by kernel_rfl) (by kernel_rfl) (by kernel_rfl) (fun _ _ _ h => h) (Or.inl ⟨by rfl, ?_⟩) (by assumption) ?_; rotate_left; focus (intro W hSw; (try dsimp only at hSw); go_simp; (first | done | with_reducible rfl))
  (try simp only [List.getElem_toArray, List.getElem_cons_succ, List.getElem_cons_zero, Act.put, List.setIfInBounds_toArray, List.set_cons_zero, List.set_cons_succ])
  refine wpAnyH_take (i := 2) (oi := _) (v := ?_) rfl (by kernel_rfl) (by kernel_rfl) (by kernel_rfl) (fun _ _ _ h => h) (Or.inl ⟨by rfl, ?_⟩) (by assumption) ?_; rotate_left; focus (intro W hSw; (try dsimp only at hSw); go_simp; (first | done | with_reducible rfl))
  (try simp only [List.getElem_toArray, List.getElem_cons_succ, List.getElem_cons_zero, Act.put, List.setIfInBounds_toArray, List.set_cons_zero, List.set_cons_succ])
  refine wpAnyH_take (i := 3) (oi := _) (v := ?_) rfl (by kernel_rfl) (by kernel_rfl) (by kernel_rfl) (fun _ _ _ h => h) (Or.inl ⟨by rfl, ?_⟩) (by assumption) ?_; rotate_left; focus (intro W hSw; (try dsimp only at hSw); go_simp; (first | done | with_reducible rfl))
  (try simp only [List.getElem_toArray, List.getElem_cons_succ, List.getElem_cons_zero, Act.put, List.setIfInBounds_toArray, List.set_cons_zero, List.set_cons_succ])
  refine wpAnyH_ready (rs := [4]) (by kernel_rfl) (by simp) ?_
  refine AllReadyH.cons (o := _) rfl (fun K hK => ?_) AllReadyH.nil
  go_simp
  go_at_call 104
  refine (cell_any (w.heap.size + 1) 400 m ar ac cr cc _ (by omega) hC HS2.out.d.ok).mono ?_
  rintro e w3 ⟨⟨z1, rfl⟩, hok, hg⟩
  have HS3 := Lib.hid (HS2.out.step hB5 hok hg)
  clear hok hg HS2
  obtain ⟨p0, p1, p2, p3, -⟩ := HS3.out.d.box.four
  go_wp2_with fail
  refine hK.out _ _ ⟨p0, p1, p2, p3⟩ (fun _ => ?_)
  clear hK K hHeld
  clear p0 p1 p2 p3
  obtain ⟨r0, r1, r2, r3, l0, l1, l2, l3⟩ := HS3.out.d.res.four
  have hx1 := HS3.out.d.res.lt
  have hx2 := HS3.out.d.box.lt
  refine wpAnyH_ready (rs := [5]) (by kernel_rfl) (by simp) ?_
  refine AllReadyH.cons (o := _) rfl (fun K hK => ?_) AllReadyH.nil
  go_simp
  have key : ∀ (W : World) (p : Addr) (u : Value), p.block = w.heap.size → Blk W B5 26 #[.int .i64 m.W, .int .i64 m.H, .slice ar m.R.length cr, .slice ac m.C.length cc] → Blk (W.setCell p u) B5 26 #[.int .i64 m.W, .int .i64 m.H, .slice ar m.R.length cr, .slice ac m.C.length cc] := fun W p u hp h => (Below.heap_setCell W p u B5 (by omega)).trans h
  obtain ⟨q0, q1, q2, q3, -⟩ := (key _ ⟨w.heap.size, 3, none⟩ (.slice ac m.C.length cc) rfl (key _ ⟨w.heap.size, 2, none⟩ (.slice ar m.R.length cr) rfl (key _ ⟨w.heap.size, 1, none⟩ (.int .i64 m.H) rfl (key _ ⟨w.heap.size, 0, none⟩ (.int .i64 m.W) rfl HS3.out.d.box)))).four
  clear key
  refine hK.out _ _ ⟨q0, q1, q2, q3⟩ (fun _ => ?_)
  clear hK K q0 q1 q2 q3
  refine wpAnyH_take (i := 6) (oi := _) (v := ?_) rfl (by kernel_rfl) (by kernel_rfl) (by kernel_rfl) (fun _ _ _ h => h) (Or.inl ⟨by rfl, ?_⟩) (by assumption) ?_; rotate_left; focus (intro W hSw; (try dsimp only at hSw); go_simp; (first | done | with_reducible rfl))
  (try simp only [List.getElem_toArray, List.getElem_cons_succ, List.getElem_cons_zero, Act.put, List.setIfInBounds_toArray, List.set_cons_zero, List.set_cons_succ])
  refine wpAnyH_take (i := 7) (oi := _) (v := ?_) rfl (by kernel_rfl) (by kernel_rfl) (by kernel_rfl) (fun _ _ _ h => h) (Or.inl ⟨by rfl, ?_⟩) (by assumption) ?_; rotate_left; focus (intro W hSw; (try dsimp only at hSw); go_simp; (first | done | with_reducible rfl))
  (try simp only [List.getElem_toArray, List.getElem_cons_succ, List.getElem_cons_zero, Act.put, List.setIfInBounds_toArray, List.set_cons_zero, List.set_cons_succ])
  refine wpAnyH_done (by kernel_rfl) ?_ _
  refine NoPanic.normal ?_
  (try simp only [List.getElem_toArray, List.getElem_cons_succ, List.getElem_cons_zero, Act.put, List.setIfInBounds_toArray, List.set_cons_zero, List.set_cons_succ])
  go_wp2
  refine bodyPost_ret (v := .tuple #[.agg #[.int .i64 m.W, .int .i64 m.H, .slice ar m.R.length cr, .slice ac m.C.length cc], .slice ad fs.length cpl, .int .i64 z1]) (by simp [results, Try.results56, go_sem, r0, r1, r2, r3]) rfl ⟨_, _, m, fs, z1, rfl, trivial, ⟨ar, cr, ac, cc, rfl, ?_, ?_, HN.out⟩, ?_, hR, hC, hF, ?_⟩
  · have h := HS3.out.d.r
    refine rebase (b := w.heap.size + 1 + 1) ?_ (by omega)
    iterate 4 (refine ownsRow_setCell_below ?_ (by show w.heap.size < _; omega) _)
    exact h
  · have h := HS3.out.d.c
    refine rebase (b := w.heap.size + 1 + 1) ?_ (by omega)
    iterate 4 (refine ownsRow_setCell_below ?_ (by show w.heap.size < _; omega) _)
    exact h
  · have h := HS3.out.L
    refine rebase (b := w.heap.size + 1 + 1) ?_ (by omega)
    iterate 4 (refine ownsRow_setCell_below ?_ (by show w.heap.size < _; omega) _)
    exact h
  · iterate 4 (refine Below.setCell ?_ (by simp) _)
    exact HS3.out.d.b

set_option maxRecDepth 100000 in
set_option maxHeartbeats 4000000 in
theorem drawMoveControl (a : Option Addr) (n cap : Nat) (xs : Nat → Nat) (w : World) (hc : Bytes w a n xs) :
    Calls Try.prog 32 #[.slice a n cap] w (DP2 w) := by
  have HB := Lib.hid ((Below.refl w.heap.size w).alloc (Nat.le_refl _) (.cells #[.int .i64 0, .int .i64 0, .slice none 0 0, .slice none 0 0] 26))
  have HQ0 := Lib.hid (Blk.new w 26 #[.int .i64 0, .int .i64 0, .slice none 0 0, .slice none 0 0])
  have c1 := Lib.hid (site_any _ 0 _ (by omega) (begin_ (hc.below HB.out) cap))
  rw [World.size_alloc] at c1
  clear hc
  go_enter Try.func32, Try.ntmps32
  go_wp2_with fail
  refine c1.out.mono ?_
  rintro e w1 ⟨v, lv, m, fs, rfl, ho, hL, hR, hC, hF, hok1, hg1⟩
  obtain ⟨ar, cr, ac, cc, rfl, h1, h2, hne⟩ := ho
  obtain ⟨ad, cpl, rfl, -, -⟩ := hL.slice
  rw [World.size_alloc, World.size_alloc] at h1 h2 hL
  have hz : w.heap.size + 1 < w1.heap.size := hok1.lt
  obtain ⟨B5, hB5e⟩ : ∃ B, w1.heap.size = B := ⟨_, rfl⟩
  have HS2 := Lib.hid (show Dw w m ar cr ac cc B5 400 ad cpl fs (w1.alloc (.cells #[.int .i64 m.W, .int .i64 m.H, .slice ar m.R.length cr, .slice ac m.C.length cc] 26)) from by
    have hA : Below w1.heap.size w1 (w1.alloc (.cells #[.int .i64 m.W, .int .i64 m.H, .slice ar m.R.length cr, .slice ac m.C.length cc] 26)) := (Below.refl _ _).alloc (Nat.le_refl _) _
    have hB1 := below_of_grown (HB.out.alloc (by simp) _) hg1 (by simp; omega) (by simp)
    refine ⟨⟨hB1.alloc hB1.size _, (blk_grown (HQ0.out.alloc _) hg1 (by simp)).alloc _, ?_, World.ownsRow.alloc h1 _, World.ownsRow.alloc h2 _, (hok1.below hA).mono (by omega)⟩, World.ownsRow.alloc hL _⟩
    rw [← hB5e]
    exact Blk.new w1 26 #[.int .i64 m.W, .int .i64 m.H, .slice ar m.R.length cr, .slice ac m.C.length cc])
  have HN := Lib.hid hne
  have hB5 : w.heap.size + 1 < B5 := by omega
  have hRm : m.R.length ≤ maxLen := by unfold maxLen; omega
  have hCm : m.C.length ≤ maxLen := by unfold maxLen; omega
  clear hg1 h1 h2 hL hne hok1 c1 HB HQ0
  go_upto_region 3 with (fail)
  replace HS2 := Lib.hid HS2.out.drew
  try rw [hB5e]
  obtain ⟨p0, p1, p2, p3, -⟩ := HS2.out.d.box.four
  refine wp_region_noPanic ?_
  refine wp_region_held_drew (S := (fun Wx : World => Wx.cell? ⟨B5, 0, none⟩ = some (.int .i64 m.W) ∧ Wx.cell? ⟨B5, 1, none⟩ = some (.int .i64 m.H) ∧ Wx.cell? ⟨B5, 2, none⟩ = some (.slice ar m.R.length cr) ∧ Wx.cell? ⟨B5, 3, none⟩ = some (.slice ac m.C.length cc))) (by kernel_rfl) ⟨p0, p1, p2, p3⟩ (fun hHeld => ?_)
  refine wpAnyH_take (i := 0) (oi := _) (v := ?_) rfl (by kernel_rfl) (by kernel_rfl) (by kernel_rfl) (fun _ _ _ h => h) (Or.inl ⟨by rfl, ?_⟩) (by assumption) ?_; rotate_left; focus (intro W hSw; (try dsimp only at hSw); go_simp; (first | done | with_reducible rfl))
  (try simp only [List.getElem_toArray, List.getElem_cons_succ, List.getElem_cons_zero, Act.put, List.setIfInBounds_toArray, List.set_cons_zero, List.set_cons_succ])
  refine wpAnyH_take (i := 1) (oi := _) (v := ?_) rfl (by kernel_rfl) (by kernel_rfl) (by kernel_rfl) (fun _ _ _ h => h) (Or.inl ⟨by rfl, ?_⟩) (by assumption) ?_; rotate_left; focus (intro W hSw; (try dsimp only at hSw); go_simp; (first | done | with_reducible rfl))
  (try simp only [List.getElem_toArray, List.getElem_cons_succ, List.getElem_cons_zero, Act.put, List.setIfInBounds_toArray, List.set_cons_zero, List.set_cons_succ])
  refine wpAnyH_take (i := 2) (oi := _) (v := ?_) rfl (by kernel_rfl) (by kernel_rfl) (by kernel_rfl) (fun _ _ _ h => h) (Or.inl ⟨by rfl, ?_⟩) (by assumption) ?_; rotate_left; focus (intro W hSw; (try dsimp only at hSw); go_simp; (first | done | with_reducible rfl))
  (try simp only [List.getElem_toArray, List.getElem_cons_succ, List.getElem_cons_zero, Act.put, List.setIfInBounds_toArray, List.set_cons_zero, List.set_cons_succ])
  refine wpAnyH_take (i := 3) (oi := _) (v := ?_) rfl (by kernel_rfl) (by kernel_rfl) (by kernel_rfl) (fun _ _ _ h => h) (Or.inl ⟨by rfl, ?_⟩) (by assumption) ?_; rotate_left; focus (intro W hSw; (try dsimp only at hSw); go_simp; (first | done | with_reducible rfl))
  (try simp only [List.getElem_toArray, List.getElem_cons_succ, List.getElem_cons_zero, Act.put, List.setIfInBounds_toArray, List.set_cons_zero, List.set_cons_succ])
  refine wpAnyH_take (i := 5) (oi := _) (v := ?_) rfl (by kernel_rfl) (by kernel_rfl) (by kernel_rfl) (fun _ _ _ h => h) (Or.inl ⟨by rfl, ?_⟩) (by assumption) ?_; rotate_left; focus (intro W hSw; (try dsimp only at hSw); go_simp; (first | done | with_reducible rfl))
  (try simp only [List.getElem_toArray, List.getElem_cons_succ, List.getElem_cons_zero, Act.put, List.setIfInBounds_toArray, List.set_cons_zero, List.set_cons_succ])
  refine wpAnyH_take (i := 6) (oi := _) (v := ?_) rfl (by kernel_rfl) (by kernel_rfl) (by kernel_rfl) (fun _ _ _ h => h) (Or.inl ⟨by rfl, ?_⟩) (by assumption) ?_; rotate_left; focus (intro W hSw; (try dsimp only at hSw); go_simp; (first | done | with_reducible rfl))
  (try simp only [List.getElem_toArray, List.getElem_cons_succ, List.getElem_cons_zero, Act.put, List.setIfInBounds_toArray, List.set_cons_zero, List.set_cons_succ])
  refine wpAnyH_ready (rs := [4]) (by kernel_rfl) (by simp) ?_
  refine AllReadyH.cons (o := _) rfl (fun K hK => ?_) AllReadyH.nil
  go_simp
  go_at_call 93
  refine (codeOf_any (w.heap.size + 1) 400 ad cpl fs _ (by omega) (by omega) (CtK.Own.row HS2.out.L) HS2.out.nL HS2.out.d.ok).mono ?_
  rintro e w3 ⟨⟨z1, rfl⟩, hok, hg⟩
  have HS3 := Lib.hid (HS2.out.step hB5 hok hg)
  clear hok hg HS2
  obtain ⟨p0, p1, p2, p3, -⟩ := HS3.out.d.box.four
  go_wp2_with fail
  refine hK.out _ _ ⟨p0, p1, p2, p3⟩ (fun _ => ?_)
  clear hK K hHeld
  clear p0 p1 p2 p3
  refine wpAnyH_ready (rs := [7]) (by kernel_rfl) (by simp) ?_
  refine AllReadyH.cons (o := _) rfl (fun K hK => ?_) AllReadyH.nil
  go_simp
  go_at_call 94
  refine (open_any (w.heap.size + 1) 406 m ar ac cr cc _ (by omega) hR hC HS3.out.d.rowR HS3.out.d.rowC HS3.out.nR HS3.out.nC HS3.out.d.ok).mono ?_
  rintro e w4 ⟨⟨z2, rfl⟩, hok, hg⟩
  have HS4 := Lib.hid (HS3.out.step hB5 hok hg)
  clear hok hg HS3
  obtain ⟨p0, p1, p2, p3, -⟩ := HS4.out.d.box.four
  go_wp2_with fail
  refine hK.out _ _ ⟨p0, p1, p2, p3⟩ (fun _ => ?_)
  clear hK K
  clear p0 p1 p2 p3
  obtain ⟨r0, r1, r2, r3, l0, l1, l2, l3⟩ := HS4.out.d.res.four
  have hx1 := HS4.out.d.res.lt
  have hx2 := HS4.out.d.box.lt
  refine wpAnyH_ready (rs := [8]) (by kernel_rfl) (by simp) ?_
  refine AllReadyH.cons (o := _) rfl (fun K hK => ?_) AllReadyH.nil
  go_simp
  have key : ∀ (W : World) (p : Addr) (u : Value), p.block = w.heap.size → Blk W B5 26 #[.int .i64 m.W, .int .i64 m.H, .slice ar m.R.length cr, .slice ac m.C.length cc] → Blk (W.setCell p u) B5 26 #[.int .i64 m.W, .int .i64 m.H, .slice ar m.R.length cr, .slice ac m.C.length cc] := fun W p u hp h => (Below.heap_setCell W p u B5 (by omega)).trans h
  obtain ⟨q0, q1, q2, q3, -⟩ := (key _ ⟨w.heap.size, 3, none⟩ (.slice ac m.C.length cc) rfl (key _ ⟨w.heap.size, 2, none⟩ (.slice ar m.R.length cr) rfl (key _ ⟨w.heap.size, 1, none⟩ (.int .i64 m.H) rfl (key _ ⟨w.heap.size, 0, none⟩ (.int .i64 m.W) rfl HS4.out.d.box)))).four
  clear key
  refine hK.out _ _ ⟨q0, q1, q2, q3⟩ (fun _ => ?_)
  clear hK K q0 q1 q2 q3
  refine wpAnyH_take (i := 9) (oi := _) (v := ?_) rfl (by kernel_rfl) (by kernel_rfl) (by kernel_rfl) (fun _ _ _ h => h) (Or.inl ⟨by rfl, ?_⟩) (by assumption) ?_; rotate_left; focus (intro W hSw; (try dsimp only at hSw); go_simp; (first | done | with_reducible rfl))
  (try simp only [List.getElem_toArray, List.getElem_cons_succ, List.getElem_cons_zero, Act.put, List.setIfInBounds_toArray, List.set_cons_zero, List.set_cons_succ])
  refine wpAnyH_take (i := 10) (oi := _) (v := ?_) rfl (by kernel_rfl) (by kernel_rfl) (by kernel_rfl) (fun _ _ _ h => h) (Or.inl ⟨by rfl, ?_⟩) (by assumption) ?_; rotate_left; focus (intro W hSw; (try dsimp only at hSw); go_simp; (first | done | with_reducible rfl))
  (try simp only [List.getElem_toArray, List.getElem_cons_succ, List.getElem_cons_zero, Act.put, List.setIfInBounds_toArray, List.set_cons_zero, List.set_cons_succ])
  refine wpAnyH_take (i := 11) (oi := _) (v := ?_) rfl (by kernel_rfl) (by kernel_rfl) (by kernel_rfl) (fun _ _ _ h => h) (Or.inl ⟨by rfl, ?_⟩) (by assumption) ?_; rotate_left; focus (intro W hSw; (try dsimp only at hSw); go_simp; (first | done | with_reducible rfl))
  (try simp only [List.getElem_toArray, List.getElem_cons_succ, List.getElem_cons_zero, Act.put, List.setIfInBounds_toArray, List.set_cons_zero, List.set_cons_succ])
  refine wpAnyH_done (by kernel_rfl) ?_ _
  refine NoPanic.normal ?_
  (try simp only [List.getElem_toArray, List.getElem_cons_succ, List.getElem_cons_zero, Act.put, List.setIfInBounds_toArray, List.set_cons_zero, List.set_cons_succ])
  go_wp2
  refine bodyPost_ret (v := .tuple #[.agg #[.int .i64 m.W, .int .i64 m.H, .slice ar m.R.length cr, .slice ac m.C.length cc], .slice ad fs.length cpl, .int .i64 z1, .int .i64 z2]) (by simp [results, Try.results32, go_sem, r0, r1, r2, r3]) rfl ⟨_, _, m, fs, z1, z2, rfl, ⟨ar, cr, ac, cc, rfl, ?_, ?_, HN.out⟩, ?_, hR, hC, hF, ?_⟩
  · have h := HS4.out.d.r
    refine rebase (b := w.heap.size + 1 + 1) ?_ (by omega)
    iterate 4 (refine ownsRow_setCell_below ?_ (by show w.heap.size < _; omega) _)
    exact h
  · have h := HS4.out.d.c
    refine rebase (b := w.heap.size + 1 + 1) ?_ (by omega)
    iterate 4 (refine ownsRow_setCell_below ?_ (by show w.heap.size < _; omega) _)
    exact h
  · have h := HS4.out.L
    refine rebase (b := w.heap.size + 1 + 1) ?_ (by omega)
    iterate 4 (refine ownsRow_setCell_below ?_ (by show w.heap.size < _; omega) _)
    exact h
  · iterate 4 (refine Below.setCell ?_ (by simp) _)
    exact HS4.out.d.b

end Go.Proofs.Ytfpfnnindlfgfaa.CtDw

namespace Go.Proofs.Ytfpfnnindlfgfaa.CtDx
open Go.RowKit Lb Cur IntS MapS SpecB CurM CodM DrwM CtDr CtSi CtDw
set_option linter.unusedSimpArgs false
set_option linter.unusedVariables false

theorem _root_.Go.Proofs.Ytfpfnnindlfgfaa.CtDw.Dw.below {w : World} {m : Mp} {ar ac ad : Option Addr} {cr cc B mm cap : Nat} {fs : List Ct} {wx w' : World} (h : Dw w m ar cr ac cc B mm ad cap fs wx) (hb : Below wx.heap.size wx w') : Dw w m ar cr ac cc B mm ad cap fs w' := ⟨h.d.below hb, h.L.below hb⟩

set_option maxRecDepth 100000 in
set_option maxHeartbeats 4000000 in
theorem drawCloseControls (a : Option Addr) (n cap : Nat) (xs : Nat → Nat) (w : World) (hc : Bytes w a n xs) :
    Calls Try.prog 53 #[.slice a n cap] w (DP1 (fun z => -1 ≤ z ∧ z ≤ 5) w) := by
  have HB := Lib.hid ((Below.refl w.heap.size w).alloc (Nat.le_refl _) (.cells #[.int .i64 0, .int .i64 0, .slice none 0 0, .slice none 0 0] 26))
  have HQ0 := Lib.hid (Blk.new w 26 #[.int .i64 0, .int .i64 0, .slice none 0 0, .slice none 0 0])
  have c1 := Lib.hid (site_any _ 0 _ (by omega) (begin_ (hc.below HB.out) cap))
  rw [World.size_alloc] at c1
  clear hc
  go_enter Try.func53, Try.ntmps53
  go_wp2_with fail
  refine c1.out.mono ?_
  rintro e w1 ⟨v, lv, m, fs, rfl, ho, hL, hR, hC, hF, hok1, hg1⟩
  obtain ⟨ar, cr, ac, cc, rfl, h1, h2, hne⟩ := ho
  obtain ⟨ad, cpl, rfl, -, -⟩ := hL.slice
  rw [World.size_alloc, World.size_alloc] at h1 h2 hL
  have hz : w.heap.size + 1 < w1.heap.size := hok1.lt
  obtain ⟨B5, hB5e⟩ : ∃ B, w1.heap.size = B := ⟨_, rfl⟩
  have HS2 := Lib.hid (show Dw w m ar cr ac cc B5 400 ad cpl fs (w1.alloc (.cells #[.int .i64 m.W, .int .i64 m.H, .slice ar m.R.length cr, .slice ac m.C.length cc] 26)) from by
    have hA : Below w1.heap.size w1 (w1.alloc (.cells #[.int .i64 m.W, .int .i64 m.H, .slice ar m.R.length cr, .slice ac m.C.length cc] 26)) := (Below.refl _ _).alloc (Nat.le_refl _) _
    have hB1 := below_of_grown (HB.out.alloc (by simp) _) hg1 (by simp; omega) (by simp)
    refine ⟨⟨hB1.alloc hB1.size _, (blk_grown (HQ0.out.alloc _) hg1 (by simp)).alloc _, ?_, World.ownsRow.alloc h1 _, World.ownsRow.alloc h2 _, (hok1.below hA).mono (by omega)⟩, World.ownsRow.alloc hL _⟩
    rw [← hB5e]
    exact Blk.new w1 26 #[.int .i64 m.W, .int .i64 m.H, .slice ar m.R.length cr, .slice ac m.C.length cc])
  have HN := Lib.hid hne
  have hB5 : w.heap.size + 1 < B5 := by omega
  have hRm : m.R.length ≤ maxLen := by unfold maxLen; omega
  have hCm : m.C.length ≤ maxLen := by unfold maxLen; omega
  clear hg1 h1 h2 hL hne hok1 c1 HB HQ0
  go_upto_region 3 with (fail)
  try rw [hB5e]
  obtain ⟨p0, p1, p2, p3, -⟩ := HS2.out.d.box.four
  refine wp_region_noPanic ?_
  refine wp_region_held_drew (S := (fun Wx : World => Wx.cell? ⟨B5, 0, none⟩ = some (.int .i64 m.W) ∧ Wx.cell? ⟨B5, 1, none⟩ = some (.int .i64 m.H) ∧ Wx.cell? ⟨B5, 2, none⟩ = some (.slice ar m.R.length cr) ∧ Wx.cell? ⟨B5, 3, none⟩ = some (.slice ac m.C.length cc))) (by kernel_rfl) ⟨p0, p1, p2, p3⟩ (fun hHeld => ?_)
  refine wpAnyH_take (i := 0) (oi := _) (v := ?_) rfl (by kernel_rfl) (by kernel_rfl) (by kernel_rfl) (fun _ _ _ h => h) (Or.inl ⟨by rfl, ?_⟩) (by assumption) ?_; rotate_left; focus (intro W hSw; (try dsimp only at hSw); go_simp; (first | done | with_reducible rfl))
  (try simp only [List.getElem_toArray, List.getElem_cons_succ, List.getElem_cons_zero, Act.put, List.setIfInBounds_toArray, List.set_cons_zero, List.set_cons_succ])
  refine wpAnyH_take (i := 1) (oi := _) (v := ?_) rfl (by kernel_rfl) (by kernel_rfl) (by kernel_rfl) (fun _ _ _ h => h) (Or.inl ⟨by rfl, ?_⟩) (by assumption) ?_; rotate_left; focus (intro W hSw; (try dsimp only at hSw); go_simp; (first | done | with_reducible rfl))
  (try simp only [List.getElem_toArray, List.getElem_cons_succ, List.getElem_cons_zero, Act.put, List.setIfInBounds_toArray, List.set_cons_zero, List.set_cons_succ])
  refine wpAnyH_take (i := 2) (oi := _) (v := ?_) rfl (by kernel_rfl) (by kernel_rfl) (by kernel_rfl) (fun _ _ _ h => h) (Or.inl ⟨by rfl, ?_⟩) (by assumption) ?_; rotate_left; focus (intro W hSw; (try dsimp only at hSw); go_simp; (first | done | with_reducible rfl))
  (try simp only [List.getElem_toArray, List.getElem_cons_succ, List.getElem_cons_zero, Act.put, List.setIfInBounds_toArray, List.set_cons_zero, List.set_cons_succ])
  clear p0 p1 p2 p3
  refine wpAnyH_ready (rs := [3]) (by kernel_rfl) (by simp) ?_
  refine AllReadyH.cons (o := _) rfl (fun K hK => ?_) AllReadyH.nil
  go_simp
  obtain ⟨wq, hwq⟩ : ∃ wq, w1.alloc (.cells #[.int .i64 m.W, .int .i64 m.H, .slice ar m.R.length cr, .slice ac m.C.length cc] 26) = wq := ⟨_, rfl⟩
  have hq1 : wq.heap.size = B5 + 1 := by rw [← hwq]; simp [hB5e]
  rw [hwq]
  try rw [← hq1]
  rw [hwq] at HS2
  have hA : Below wq.heap.size wq (wq.alloc (.cells (([0, 1, 2, 3, 5, -1] : List Int).map (Value.int .i64)).toArray 3)).drew := ((Below.refl _ _).alloc (Nat.le_refl _) _).drew
  have HS3 := Lib.hid (HS2.out.below hA)
  have HRW := Lib.hid (show IRow (wq.alloc (.cells (([0, 1, 2, 3, 5, -1] : List Int).map (Value.int .i64)).toArray 3)).drew (some ⟨wq.heap.size, 0, none⟩) ([0, 1, 2, 3, 5, -1] : List Int) from row_lit ([0, 1, 2, 3, 5, -1] : List Int) wq (by decide))
  have hgq : B5 < wq.heap.size := HS2.out.d.box.lt
  have HNG := Lib.hid (show ∀ x, some (⟨wq.heap.size, 0, none⟩ : Addr) = some x → x.block ≠ w.heap.size + 1 from fun x e => by cases e; show wq.heap.size ≠ _; omega)
  clear hA hwq hq1 HS2
  obtain ⟨p0, p1, p2, p3, -⟩ := HS3.out.d.box.four
  refine hK.out _ _ ⟨p0, p1, p2, p3⟩ (fun _ => ?_)
  clear hK K hHeld
  clear p0 p1 p2 p3
  refine wpAnyH_ready (rs := [4]) (by kernel_rfl) (by simp) ?_
  refine AllReadyH.cons (o := _) rfl (fun K hK => ?_) AllReadyH.nil
  go_simp
  go_at_call 100
  refine (amongz_any (w.heap.size + 1) 400 _ _ ([0, 1, 2, 3, 5, -1] : List Int) _ (by omega) (by decide) (by decide) HRW.out HNG.out HS3.out.d.ok).mono ?_
  rintro e w4 ⟨⟨z1, rfl, hzm⟩, hok, hg⟩
  have HZm := Lib.hid hzm
  clear hzm
  have HS4 := Lib.hid (HS3.out.step hB5 hok hg)
  clear hok hg HS3
  obtain ⟨p0, p1, p2, p3, -⟩ := HS4.out.d.box.four
  go_wp2_with fail
  refine hK.out _ _ ⟨p0, p1, p2, p3⟩ (fun _ => ?_)
  clear hK K
  clear p0 p1 p2 p3
  have HP1 : -1 ≤ z1 ∧ z1 ≤ 5 := by have h := HZm.out; simp at h; omega
  obtain ⟨r0, r1, r2, r3, l0, l1, l2, l3⟩ := HS4.out.d.res.four
  have hx1 := HS4.out.d.res.lt
  have hx2 := HS4.out.d.box.lt
  refine wpAnyH_ready (rs := [5]) (by kernel_rfl) (by simp) ?_
  refine AllReadyH.cons (o := _) rfl (fun K hK => ?_) AllReadyH.nil
  go_simp
  have key : ∀ (W : World) (p : Addr) (u : Value), p.block = w.heap.size → Blk W B5 26 #[.int .i64 m.W, .int .i64 m.H, .slice ar m.R.length cr, .slice ac m.C.length cc] → Blk (W.setCell p u) B5 26 #[.int .i64 m.W, .int .i64 m.H, .slice ar m.R.length cr, .slice ac m.C.length cc] := fun W p u hp h => (Below.heap_setCell W p u B5 (by omega)).trans h
  obtain ⟨q0, q1, q2, q3, -⟩ := (key _ ⟨w.heap.size, 3, none⟩ (.slice ac m.C.length cc) rfl (key _ ⟨w.heap.size, 2, none⟩ (.slice ar m.R.length cr) rfl (key _ ⟨w.heap.size, 1, none⟩ (.int .i64 m.H) rfl (key _ ⟨w.heap.size, 0, none⟩ (.int .i64 m.W) rfl HS4.out.d.box)))).four
  clear key
  refine hK.out _ _ ⟨q0, q1, q2, q3⟩ (fun _ => ?_)
  clear hK K q0 q1 q2 q3
  refine wpAnyH_take (i := 6) (oi := _) (v := ?_) rfl (by kernel_rfl) (by kernel_rfl) (by kernel_rfl) (fun _ _ _ h => h) (Or.inl ⟨by rfl, ?_⟩) (by assumption) ?_; rotate_left; focus (intro W hSw; (try dsimp only at hSw); go_simp; (first | done | with_reducible rfl))
  (try simp only [List.getElem_toArray, List.getElem_cons_succ, List.getElem_cons_zero, Act.put, List.setIfInBounds_toArray, List.set_cons_zero, List.set_cons_succ])
  refine wpAnyH_take (i := 7) (oi := _) (v := ?_) rfl (by kernel_rfl) (by kernel_rfl) (by kernel_rfl) (fun _ _ _ h => h) (Or.inl ⟨by rfl, ?_⟩) (by assumption) ?_; rotate_left; focus (intro W hSw; (try dsimp only at hSw); go_simp; (first | done | with_reducible rfl))
  (try simp only [List.getElem_toArray, List.getElem_cons_succ, List.getElem_cons_zero, Act.put, List.setIfInBounds_toArray, List.set_cons_zero, List.set_cons_succ])
  refine wpAnyH_done (by kernel_rfl) ?_ _
  refine NoPanic.normal ?_
  (try simp only [List.getElem_toArray, List.getElem_cons_succ, List.getElem_cons_zero, Act.put, List.setIfInBounds_toArray, List.set_cons_zero, List.set_cons_succ])
  go_wp2
  refine bodyPost_ret (v := .tuple #[.agg #[.int .i64 m.W, .int .i64 m.H, .slice ar m.R.length cr, .slice ac m.C.length cc], .slice ad fs.length cpl, .int .i64 z1]) (by simp [results, Try.results53, go_sem, r0, r1, r2, r3]) rfl ⟨_, _, m, fs, z1, rfl, HP1, ⟨ar, cr, ac, cc, rfl, ?_, ?_, HN.out⟩, ?_, hR, hC, hF, ?_⟩
  · have h := HS4.out.d.r
    refine rebase (b := w.heap.size + 1 + 1) ?_ (by omega)
    iterate 4 (refine ownsRow_setCell_below ?_ (by show w.heap.size < _; omega) _)
    exact h
  · have h := HS4.out.d.c
    refine rebase (b := w.heap.size + 1 + 1) ?_ (by omega)
    iterate 4 (refine ownsRow_setCell_below ?_ (by show w.heap.size < _; omega) _)
    exact h
  · have h := HS4.out.L
    refine rebase (b := w.heap.size + 1 + 1) ?_ (by omega)
    iterate 4 (refine ownsRow_setCell_below ?_ (by show w.heap.size < _; omega) _)
    exact h
  · iterate 4 (refine Below.setCell ?_ (by simp) _)
    exact HS4.out.d.b

set_option maxRecDepth 100000 in
set_option maxHeartbeats 4000000 in
theorem drawRecodeControl (a : Option Addr) (n cap : Nat) (xs : Nat → Nat) (w : World) (hc : Bytes w a n xs) :
    Calls Try.prog 40 #[.slice a n cap] w (DP2 w) := by
  have HB := Lib.hid ((Below.refl w.heap.size w).alloc (Nat.le_refl _) (.cells #[.int .i64 0, .int .i64 0, .slice none 0 0, .slice none 0 0] 26))
  have HQ0 := Lib.hid (Blk.new w 26 #[.int .i64 0, .int .i64 0, .slice none 0 0, .slice none 0 0])
  have c1 := Lib.hid (site_any _ 0 _ (by omega) (begin_ (hc.below HB.out) cap))
  rw [World.size_alloc] at c1
  clear hc
  go_enter Try.func40, Try.ntmps40
  go_wp2_with fail
  refine c1.out.mono ?_
  rintro e w1 ⟨v, lv, m, fs, rfl, ho, hL, hR, hC, hF, hok1, hg1⟩
  obtain ⟨ar, cr, ac, cc, rfl, h1, h2, hne⟩ := ho
  obtain ⟨ad, cpl, rfl, -, -⟩ := hL.slice
  rw [World.size_alloc, World.size_alloc] at h1 h2 hL
  have hz : w.heap.size + 1 < w1.heap.size := hok1.lt
  obtain ⟨B5, hB5e⟩ : ∃ B, w1.heap.size = B := ⟨_, rfl⟩
  have HS2 := Lib.hid (show Dw w m ar cr ac cc B5 400 ad cpl fs (w1.alloc (.cells #[.int .i64 m.W, .int .i64 m.H, .slice ar m.R.length cr, .slice ac m.C.length cc] 26)) from by
    have hA : Below w1.heap.size w1 (w1.alloc (.cells #[.int .i64 m.W, .int .i64 m.H, .slice ar m.R.length cr, .slice ac m.C.length cc] 26)) := (Below.refl _ _).alloc (Nat.le_refl _) _
    have hB1 := below_of_grown (HB.out.alloc (by simp) _) hg1 (by simp; omega) (by simp)
    refine ⟨⟨hB1.alloc hB1.size _, (blk_grown (HQ0.out.alloc _) hg1 (by simp)).alloc _, ?_, World.ownsRow.alloc h1 _, World.ownsRow.alloc h2 _, (hok1.below hA).mono (by omega)⟩, World.ownsRow.alloc hL _⟩
    rw [← hB5e]
    exact Blk.new w1 26 #[.int .i64 m.W, .int .i64 m.H, .slice ar m.R.length cr, .slice ac m.C.length cc])
  have HN := Lib.hid hne
  have hB5 : w.heap.size + 1 < B5 := by omega
  have hRm : m.R.length ≤ maxLen := by unfold maxLen; omega
  have hCm : m.C.length ≤ maxLen := by unfold maxLen; omega
  clear hg1 h1 h2 hL hne hok1 c1 HB HQ0
  go_upto_region 3 with (fail)
  try rw [hB5e]
  obtain ⟨p0, p1, p2, p3, -⟩ := HS2.out.d.box.four
  refine wp_region_noPanic ?_
  refine wp_region_held_drew (S := (fun Wx : World => Wx.cell? ⟨B5, 0, none⟩ = some (.int .i64 m.W) ∧ Wx.cell? ⟨B5, 1, none⟩ = some (.int .i64 m.H) ∧ Wx.cell? ⟨B5, 2, none⟩ = some (.slice ar m.R.length cr) ∧ Wx.cell? ⟨B5, 3, none⟩ = some (.slice ac m.C.length cc))) (by kernel_rfl) ⟨p0, p1, p2, p3⟩ (fun hHeld => ?_)
  refine wpAnyH_take (i := 0) (oi := _) (v := ?_) rfl (by kernel_rfl) (by kernel_rfl) (by kernel_rfl) (fun _ _ _ h => h) (Or.inl ⟨by rfl, ?_⟩) (by assumption) ?_; rotate_left; focus (intro W hSw; (try dsimp only at hSw); go_simp; (first | done | with_reducible rfl))
  (try simp only [List.getElem_toArray, List.getElem_cons_succ, List.getElem_cons_zero, Act.put, List.setIfInBounds_toArray, List.set_cons_zero, List.set_cons_succ])
  refine wpAnyH_take (i := 1) (oi := _) (v := ?_) rfl (by kernel_rfl) (by kernel_rfl) (by kernel_rfl) (fun _ _ _ h => h) (Or.inl ⟨by rfl, ?_⟩) (by assumption) ?_; rotate_left; focus (intro W hSw; (try dsimp only at hSw); go_simp; (first | done | with_reducible rfl))
  (try simp only [List.getElem_toArray, List.getElem_cons_succ, List.getElem_cons_zero, Act.put, List.setIfInBounds_toArray, List.set_cons_zero, List.set_cons_succ])
  refine wpAnyH_take (i := 2) (oi := _) (v := ?_) rfl (by kernel_rfl) (by kernel_rfl) (by kernel_rfl) (fun _ _ _ h => h) (Or.inl ⟨by rfl, ?_⟩) (by assumption) ?_; rotate_left; focus (intro W hSw; (try dsimp only at hSw); go_simp; (first | done | with_reducible rfl))
  (try simp only [List.getElem_toArray, List.getElem_cons_succ, List.getElem_cons_zero, Act.put, List.setIfInBounds_toArray, List.set_cons_zero, List.set_cons_succ])
  refine wpAnyH_take (i := 3) (oi := _) (v := ?_) rfl (by kernel_rfl) (by kernel_rfl) (by kernel_rfl) (fun _ _ _ h => h) (Or.inl ⟨by rfl, ?_⟩) (by assumption) ?_; rotate_left; focus (intro W hSw; (try dsimp only at hSw); go_simp; (first | done | with_reducible rfl))
  (try simp only [List.getElem_toArray, List.getElem_cons_succ, List.getElem_cons_zero, Act.put, List.setIfInBounds_toArray, List.set_cons_zero, List.set_cons_succ])
  refine wpAnyH_take (i := 5) (oi := _) (v := ?_) rfl (by kernel_rfl) (by kernel_rfl) (by kernel_rfl) (fun _ _ _ h => h) (Or.inl ⟨by rfl, ?_⟩) (by assumption) ?_; rotate_left; focus (intro W hSw; (try dsimp only at hSw); go_simp; (first | done | with_reducible rfl))
  (try simp only [List.getElem_toArray, List.getElem_cons_succ, List.getElem_cons_zero, Act.put, List.setIfInBounds_toArray, List.set_cons_zero, List.set_cons_succ])
  clear p0 p1 p2 p3
  refine wpAnyH_ready (rs := [4, 6]) (by kernel_rfl) (by simp) ?_
  refine AllReadyH.cons (o := _) rfl (fun K hK => ?_) (AllReadyH.cons (o := _) rfl (fun K hK => ?_) (AllReadyH.nil))
  · go_simp
    replace HS2 := Lib.hid HS2.out.drew
    go_at_call 93
    refine (codeOf_any (w.heap.size + 1) 400 ad cpl fs _ (by omega) (by omega) (CtK.Own.row HS2.out.L) HS2.out.nL HS2.out.d.ok).mono ?_
    rintro e w3 ⟨⟨z1, rfl⟩, hok, hg⟩
    have HS3 := Lib.hid (HS2.out.step hB5 hok hg)
    clear hok hg HS2
    obtain ⟨p0, p1, p2, p3, -⟩ := HS3.out.d.box.four
    go_wp2_with fail
    refine hK.out _ _ ⟨p0, p1, p2, p3⟩ (fun _ => ?_)
    clear hK K hHeld
    clear p0 p1 p2 p3
    refine wpAnyH_ready (rs := [6]) (by kernel_rfl) (by simp) ?_
    refine AllReadyH.cons (o := _) rfl (fun K hK => ?_) AllReadyH.nil
    go_simp
    have hA : Below w3.heap.size w3 (w3.alloc (.cells (([33, 50, 88, 30, 100, 31, 45] : List Int).map (Value.int .i64)).toArray 3)) := (Below.refl _ _).alloc (Nat.le_refl _) _
    have HS4 := Lib.hid (HS3.out.below hA)
    have HRW := Lib.hid (row_lit ([33, 50, 88, 30, 100, 31, 45] : List Int) w3 (by decide))
    have HNG := Lib.hid (show ∀ x, some (⟨w3.heap.size, 0, none⟩ : Addr) = some x → x.block ≠ w.heap.size + 1 from fun x e => by cases e; have := HS3.out.d.box.lt; show w3.heap.size ≠ _; omega)
    clear hA
    obtain ⟨p0, p1, p2, p3, -⟩ := HS4.out.d.box.four
    refine hK.out _ _ ⟨p0, p1, p2, p3⟩ (fun _ => ?_)
    clear hK K
    clear p0 p1 p2 p3
    refine wpAnyH_ready (rs := [7]) (by kernel_rfl) (by simp) ?_
    refine AllReadyH.cons (o := _) rfl (fun K hK => ?_) AllReadyH.nil
    go_simp
    go_at_call 100
    refine (amongz_any (w.heap.size + 1) 406 _ _ ([33, 50, 88, 30, 100, 31, 45] : List Int) _ (by omega) (by decide) (by decide) HRW.out HNG.out HS4.out.d.ok).mono ?_
    rintro e w5 ⟨⟨z2, rfl, hzm⟩, hok, hg⟩
    have HZm := Lib.hid hzm
    clear hzm
    have HS5 := Lib.hid (HS4.out.step hB5 hok hg)
    clear hok hg HS4
    obtain ⟨p0, p1, p2, p3, -⟩ := HS5.out.d.box.four
    go_wp2_with fail
    refine hK.out _ _ ⟨p0, p1, p2, p3⟩ (fun _ => ?_)
    clear hK K
    clear p0 p1 p2 p3
    obtain ⟨r0, r1, r2, r3, l0, l1, l2, l3⟩ := HS5.out.d.res.four
    have hx1 := HS5.out.d.res.lt
    have hx2 := HS5.out.d.box.lt
    refine wpAnyH_ready (rs := [8]) (by kernel_rfl) (by simp) ?_
    refine AllReadyH.cons (o := _) rfl (fun K hK => ?_) AllReadyH.nil
    go_simp
    have key : ∀ (W : World) (p : Addr) (u : Value), p.block = w.heap.size → Blk W B5 26 #[.int .i64 m.W, .int .i64 m.H, .slice ar m.R.length cr, .slice ac m.C.length cc] → Blk (W.setCell p u) B5 26 #[.int .i64 m.W, .int .i64 m.H, .slice ar m.R.length cr, .slice ac m.C.length cc] := fun W p u hp h => (Below.heap_setCell W p u B5 (by omega)).trans h
    obtain ⟨q0, q1, q2, q3, -⟩ := (key _ ⟨w.heap.size, 3, none⟩ (.slice ac m.C.length cc) rfl (key _ ⟨w.heap.size, 2, none⟩ (.slice ar m.R.length cr) rfl (key _ ⟨w.heap.size, 1, none⟩ (.int .i64 m.H) rfl (key _ ⟨w.heap.size, 0, none⟩ (.int .i64 m.W) rfl HS5.out.d.box)))).four
    clear key
    refine hK.out _ _ ⟨q0, q1, q2, q3⟩ (fun _ => ?_)
    clear hK K q0 q1 q2 q3
    refine wpAnyH_take (i := 9) (oi := _) (v := ?_) rfl (by kernel_rfl) (by kernel_rfl) (by kernel_rfl) (fun _ _ _ h => h) (Or.inl ⟨by rfl, ?_⟩) (by assumption) ?_; rotate_left; focus (intro W hSw; (try dsimp only at hSw); go_simp; (first | done | with_reducible rfl))
    (try simp only [List.getElem_toArray, List.getElem_cons_succ, List.getElem_cons_zero, Act.put, List.setIfInBounds_toArray, List.set_cons_zero, List.set_cons_succ])
    refine wpAnyH_take (i := 10) (oi := _) (v := ?_) rfl (by kernel_rfl) (by kernel_rfl) (by kernel_rfl) (fun _ _ _ h => h) (Or.inl ⟨by rfl, ?_⟩) (by assumption) ?_; rotate_left; focus (intro W hSw; (try dsimp only at hSw); go_simp; (first | done | with_reducible rfl))
    (try simp only [List.getElem_toArray, List.getElem_cons_succ, List.getElem_cons_zero, Act.put, List.setIfInBounds_toArray, List.set_cons_zero, List.set_cons_succ])
    refine wpAnyH_take (i := 11) (oi := _) (v := ?_) rfl (by kernel_rfl) (by kernel_rfl) (by kernel_rfl) (fun _ _ _ h => h) (Or.inl ⟨by rfl, ?_⟩) (by assumption) ?_; rotate_left; focus (intro W hSw; (try dsimp only at hSw); go_simp; (first | done | with_reducible rfl))
    (try simp only [List.getElem_toArray, List.getElem_cons_succ, List.getElem_cons_zero, Act.put, List.setIfInBounds_toArray, List.set_cons_zero, List.set_cons_succ])
    refine wpAnyH_done (by kernel_rfl) ?_ _
    refine NoPanic.normal ?_
    (try simp only [List.getElem_toArray, List.getElem_cons_succ, List.getElem_cons_zero, Act.put, List.setIfInBounds_toArray, List.set_cons_zero, List.set_cons_succ])
    go_wp2
    refine bodyPost_ret (v := .tuple #[.agg #[.int .i64 m.W, .int .i64 m.H, .slice ar m.R.length cr, .slice ac m.C.length cc], .slice ad fs.length cpl, .int .i64 z1, .int .i64 z2]) (by simp [results, Try.results40, go_sem, r0, r1, r2, r3]) rfl ⟨_, _, m, fs, z1, z2, rfl, ⟨ar, cr, ac, cc, rfl, ?_, ?_, HN.out⟩, ?_, hR, hC, hF, ?_⟩
    · have h := HS5.out.d.r
      refine rebase (b := w.heap.size + 1 + 1) ?_ (by omega)
      iterate 4 (refine ownsRow_setCell_below ?_ (by show w.heap.size < _; omega) _)
      exact h
    · have h := HS5.out.d.c
      refine rebase (b := w.heap.size + 1 + 1) ?_ (by omega)
      iterate 4 (refine ownsRow_setCell_below ?_ (by show w.heap.size < _; omega) _)
      exact h
    · have h := HS5.out.L
      refine rebase (b := w.heap.size + 1 + 1) ?_ (by omega)
      iterate 4 (refine ownsRow_setCell_below ?_ (by show w.heap.size < _; omega) _)
      exact h
    · iterate 4 (refine Below.setCell ?_ (by simp) _)
      exact HS5.out.d.b
  · go_simp
    obtain ⟨wq, hwq⟩ : ∃ wq, w1.alloc (.cells #[.int .i64 m.W, .int .i64 m.H, .slice ar m.R.length cr, .slice ac m.C.length cc] 26) = wq := ⟨_, rfl⟩
    have hq1 : wq.heap.size = B5 + 1 := by rw [← hwq]; simp [hB5e]
    rw [hwq]
    try rw [← hq1]
    rw [hwq] at HS2
    have hA : Below wq.heap.size wq (wq.alloc (.cells (([33, 50, 88, 30, 100, 31, 45] : List Int).map (Value.int .i64)).toArray 3)).drew := ((Below.refl _ _).alloc (Nat.le_refl _) _).drew
    have HS3 := Lib.hid (HS2.out.below hA)
    have HRW := Lib.hid (show IRow (wq.alloc (.cells (([33, 50, 88, 30, 100, 31, 45] : List Int).map (Value.int .i64)).toArray 3)).drew (some ⟨wq.heap.size, 0, none⟩) ([33, 50, 88, 30, 100, 31, 45] : List Int) from row_lit ([33, 50, 88, 30, 100, 31, 45] : List Int) wq (by decide))
    have hgq : B5 < wq.heap.size := HS2.out.d.box.lt
    have HNG := Lib.hid (show ∀ x, some (⟨wq.heap.size, 0, none⟩ : Addr) = some x → x.block ≠ w.heap.size + 1 from fun x e => by cases e; show wq.heap.size ≠ _; omega)
    clear hA hwq hq1 HS2
    obtain ⟨p0, p1, p2, p3, -⟩ := HS3.out.d.box.four
    refine hK.out _ _ ⟨p0, p1, p2, p3⟩ (fun _ => ?_)
    clear hK K hHeld
    clear p0 p1 p2 p3
    have HRW0 := HRW
    clear HRW
    refine wpAnyH_ready (rs := [4]) (by kernel_rfl) (by simp) ?_
    refine AllReadyH.cons (o := _) rfl (fun K hK => ?_) AllReadyH.nil
    go_simp
    go_at_call 93
    refine (codeOf_any (w.heap.size + 1) 400 ad cpl fs _ (by omega) (by omega) (CtK.Own.row HS3.out.L) HS3.out.nL HS3.out.d.ok).mono ?_
    rintro e w4 ⟨⟨z1, rfl⟩, hok, hg⟩
    have HS4 := Lib.hid (HS3.out.step hB5 hok hg)
    have HRW := Lib.hid (row_beside HRW0.out hg (fun x e => by cases e; simp; omega)); clear hok hg HS3 HRW0
    obtain ⟨p0, p1, p2, p3, -⟩ := HS4.out.d.box.four
    go_wp2_with fail
    refine hK.out _ _ ⟨p0, p1, p2, p3⟩ (fun _ => ?_)
    clear hK K
    clear p0 p1 p2 p3
    refine wpAnyH_ready (rs := [7]) (by kernel_rfl) (by simp) ?_
    refine AllReadyH.cons (o := _) rfl (fun K hK => ?_) AllReadyH.nil
    go_simp
    go_at_call 100
    refine (amongz_any (w.heap.size + 1) 406 _ _ ([33, 50, 88, 30, 100, 31, 45] : List Int) _ (by omega) (by decide) (by decide) HRW.out HNG.out HS4.out.d.ok).mono ?_
    rintro e w5 ⟨⟨z2, rfl, hzm⟩, hok, hg⟩
    have HZm := Lib.hid hzm
    clear hzm
    have HS5 := Lib.hid (HS4.out.step hB5 hok hg)
    clear hok hg HS4
    obtain ⟨p0, p1, p2, p3, -⟩ := HS5.out.d.box.four
    go_wp2_with fail
    refine hK.out _ _ ⟨p0, p1, p2, p3⟩ (fun _ => ?_)
    clear hK K
    clear p0 p1 p2 p3
    obtain ⟨r0, r1, r2, r3, l0, l1, l2, l3⟩ := HS5.out.d.res.four
    have hx1 := HS5.out.d.res.lt
    have hx2 := HS5.out.d.box.lt
    refine wpAnyH_ready (rs := [8]) (by kernel_rfl) (by simp) ?_
    refine AllReadyH.cons (o := _) rfl (fun K hK => ?_) AllReadyH.nil
    go_simp
    have key : ∀ (W : World) (p : Addr) (u : Value), p.block = w.heap.size → Blk W B5 26 #[.int .i64 m.W, .int .i64 m.H, .slice ar m.R.length cr, .slice ac m.C.length cc] → Blk (W.setCell p u) B5 26 #[.int .i64 m.W, .int .i64 m.H, .slice ar m.R.length cr, .slice ac m.C.length cc] := fun W p u hp h => (Below.heap_setCell W p u B5 (by omega)).trans h
    obtain ⟨q0, q1, q2, q3, -⟩ := (key _ ⟨w.heap.size, 3, none⟩ (.slice ac m.C.length cc) rfl (key _ ⟨w.heap.size, 2, none⟩ (.slice ar m.R.length cr) rfl (key _ ⟨w.heap.size, 1, none⟩ (.int .i64 m.H) rfl (key _ ⟨w.heap.size, 0, none⟩ (.int .i64 m.W) rfl HS5.out.d.box)))).four
    clear key
    refine hK.out _ _ ⟨q0, q1, q2, q3⟩ (fun _ => ?_)
    clear hK K q0 q1 q2 q3
    refine wpAnyH_take (i := 9) (oi := _) (v := ?_) rfl (by kernel_rfl) (by kernel_rfl) (by kernel_rfl) (fun _ _ _ h => h) (Or.inl ⟨by rfl, ?_⟩) (by assumption) ?_; rotate_left; focus (intro W hSw; (try dsimp only at hSw); go_simp; (first | done | with_reducible rfl))
    (try simp only [List.getElem_toArray, List.getElem_cons_succ, List.getElem_cons_zero, Act.put, List.setIfInBounds_toArray, List.set_cons_zero, List.set_cons_succ])
    refine wpAnyH_take (i := 10) (oi := _) (v := ?_) rfl (by kernel_rfl) (by kernel_rfl) (by kernel_rfl) (fun _ _ _ h => h) (Or.inl ⟨by rfl, ?_⟩) (by assumption) ?_; rotate_left; focus (intro W hSw; (try dsimp only at hSw); go_simp; (first | done | with_reducible rfl))
    (try simp only [List.getElem_toArray, List.getElem_cons_succ, List.getElem_cons_zero, Act.put, List.setIfInBounds_toArray, List.set_cons_zero, List.set_cons_succ])
    refine wpAnyH_take (i := 11) (oi := _) (v := ?_) rfl (by kernel_rfl) (by kernel_rfl) (by kernel_rfl) (fun _ _ _ h => h) (Or.inl ⟨by rfl, ?_⟩) (by assumption) ?_; rotate_left; focus (intro W hSw; (try dsimp only at hSw); go_simp; (first | done | with_reducible rfl))
    (try simp only [List.getElem_toArray, List.getElem_cons_succ, List.getElem_cons_zero, Act.put, List.setIfInBounds_toArray, List.set_cons_zero, List.set_cons_succ])
    refine wpAnyH_done (by kernel_rfl) ?_ _
    refine NoPanic.normal ?_
    (try simp only [List.getElem_toArray, List.getElem_cons_succ, List.getElem_cons_zero, Act.put, List.setIfInBounds_toArray, List.set_cons_zero, List.set_cons_succ])
    go_wp2
    refine bodyPost_ret (v := .tuple #[.agg #[.int .i64 m.W, .int .i64 m.H, .slice ar m.R.length cr, .slice ac m.C.length cc], .slice ad fs.length cpl, .int .i64 z1, .int .i64 z2]) (by simp [results, Try.results40, go_sem, r0, r1, r2, r3]) rfl ⟨_, _, m, fs, z1, z2, rfl, ⟨ar, cr, ac, cc, rfl, ?_, ?_, HN.out⟩, ?_, hR, hC, hF, ?_⟩
    · have h := HS5.out.d.r
      refine rebase (b := w.heap.size + 1 + 1) ?_ (by omega)
      iterate 4 (refine ownsRow_setCell_below ?_ (by show w.heap.size < _; omega) _)
      exact h
    · have h := HS5.out.d.c
      refine rebase (b := w.heap.size + 1 + 1) ?_ (by omega)
      iterate 4 (refine ownsRow_setCell_below ?_ (by show w.heap.size < _; omega) _)
      exact h
    · have h := HS5.out.L
      refine rebase (b := w.heap.size + 1 + 1) ?_ (by omega)
      iterate 4 (refine ownsRow_setCell_below ?_ (by show w.heap.size < _; omega) _)
      exact h
    · iterate 4 (refine Below.setCell ?_ (by simp) _)
      exact HS5.out.d.b

set_option maxRecDepth 100000 in
set_option maxHeartbeats 4000000 in
theorem drawCodeAt (a : Option Addr) (n cap : Nat) (xs : Nat → Nat) (w : World) (hc : Bytes w a n xs) :
    Calls Try.prog 45 #[.slice a n cap] w (DP1 (fun _ => True) w) := by
  have HB := Lib.hid ((Below.refl w.heap.size w).alloc (Nat.le_refl _) (.cells #[.int .i64 0, .int .i64 0, .slice none 0 0, .slice none 0 0] 26))
  have HQ0 := Lib.hid (Blk.new w 26 #[.int .i64 0, .int .i64 0, .slice none 0 0, .slice none 0 0])
  have c1 := Lib.hid (site_any _ 0 _ (by omega) (begin_ (hc.below HB.out) cap))
  rw [World.size_alloc] at c1
  clear hc
  go_enter Try.func45, Try.ntmps45
  go_wp2_with fail
  refine c1.out.mono ?_
  rintro e w1 ⟨v, lv, m, fs, rfl, ho, hL, hR, hC, hF, hok1, hg1⟩
  obtain ⟨ar, cr, ac, cc, rfl, h1, h2, hne⟩ := ho
  obtain ⟨ad, cpl, rfl, -, -⟩ := hL.slice
  rw [World.size_alloc, World.size_alloc] at h1 h2 hL
  have hz : w.heap.size + 1 < w1.heap.size := hok1.lt
  obtain ⟨B5, hB5e⟩ : ∃ B, w1.heap.size = B := ⟨_, rfl⟩
  have HS2 := Lib.hid (show Dw w m ar cr ac cc B5 400 ad cpl fs (w1.alloc (.cells #[.int .i64 m.W, .int .i64 m.H, .slice ar m.R.length cr, .slice ac m.C.length cc] 26)) from by
    have hA : Below w1.heap.size w1 (w1.alloc (.cells #[.int .i64 m.W, .int .i64 m.H, .slice ar m.R.length cr, .slice ac m.C.length cc] 26)) := (Below.refl _ _).alloc (Nat.le_refl _) _
    have hB1 := below_of_grown (HB.out.alloc (by simp) _) hg1 (by simp; omega) (by simp)
    refine ⟨⟨hB1.alloc hB1.size _, (blk_grown (HQ0.out.alloc _) hg1 (by simp)).alloc _, ?_, World.ownsRow.alloc h1 _, World.ownsRow.alloc h2 _, (hok1.below hA).mono (by omega)⟩, World.ownsRow.alloc hL _⟩
    rw [← hB5e]
    exact Blk.new w1 26 #[.int .i64 m.W, .int .i64 m.H, .slice ar m.R.length cr, .slice ac m.C.length cc])
  have HN := Lib.hid hne
  have hB5 : w.heap.size + 1 < B5 := by omega
  have hRm : m.R.length ≤ maxLen := by unfold maxLen; omega
  have hCm : m.C.length ≤ maxLen := by unfold maxLen; omega
  clear hg1 h1 h2 hL hne hok1 c1 HB HQ0
  by_cases h0 : 0 < fs.length
  case neg =>
    have hd : decide (0 < (fs.length : Int)) = false := decide_eq_false (by omega)
    have hd2 : ¬ 0 < fs.length := h0
    go_upto_region 5 with (fail)
    try rw [hB5e]
    replace HS2 := Lib.hid HS2.out.drew
    obtain ⟨p0, p1, p2, p3, -⟩ := HS2.out.d.box.four
    refine wp_region_noPanic ?_
    refine wp_region_held_drew (S := (fun Wx : World => Wx.cell? ⟨B5, 0, none⟩ = some (.int .i64 m.W) ∧ Wx.cell? ⟨B5, 1, none⟩ = some (.int .i64 m.H) ∧ Wx.cell? ⟨B5, 2, none⟩ = some (.slice ar m.R.length cr) ∧ Wx.cell? ⟨B5, 3, none⟩ = some (.slice ac m.C.length cc))) (by kernel_rfl) ⟨p0, p1, p2, p3⟩ (fun hHeld => ?_)
    refine wpAnyH_take (i := 0) (oi := _) (v := ?_) rfl (by kernel_rfl) (by kernel_rfl) (by kernel_rfl) (fun _ _ _ h => h) (Or.inl ⟨by rfl, ?_⟩) (by assumption) ?_; rotate_left; focus (intro W hSw; (try dsimp only at hSw); go_simp; (first | done | with_reducible rfl))
    (try simp only [List.getElem_toArray, List.getElem_cons_succ, List.getElem_cons_zero, Act.put, List.setIfInBounds_toArray, List.set_cons_zero, List.set_cons_succ])
    refine wpAnyH_take (i := 1) (oi := _) (v := ?_) rfl (by kernel_rfl) (by kernel_rfl) (by kernel_rfl) (fun _ _ _ h => h) (Or.inl ⟨by rfl, ?_⟩) (by assumption) ?_; rotate_left; focus (intro W hSw; (try dsimp only at hSw); go_simp; (first | done | with_reducible rfl))
    (try simp only [List.getElem_toArray, List.getElem_cons_succ, List.getElem_cons_zero, Act.put, List.setIfInBounds_toArray, List.set_cons_zero, List.set_cons_succ])
    refine wpAnyH_take (i := 2) (oi := _) (v := ?_) rfl (by kernel_rfl) (by kernel_rfl) (by kernel_rfl) (fun _ _ _ h => h) (Or.inl ⟨by rfl, ?_⟩) (by assumption) ?_; rotate_left; focus (intro W hSw; (try dsimp only at hSw); go_simp; (first | done | with_reducible rfl))
    (try simp only [List.getElem_toArray, List.getElem_cons_succ, List.getElem_cons_zero, Act.put, List.setIfInBounds_toArray, List.set_cons_zero, List.set_cons_succ])
    refine wpAnyH_take (i := 3) (oi := _) (v := ?_) rfl (by kernel_rfl) (by kernel_rfl) (by kernel_rfl) (fun _ _ _ h => h) (Or.inl ⟨by rfl, ?_⟩) (by assumption) ?_; rotate_left; focus (intro W hSw; (try dsimp only at hSw); go_simp; (first | done | with_reducible rfl))
    (try simp only [List.getElem_toArray, List.getElem_cons_succ, List.getElem_cons_zero, Act.put, List.setIfInBounds_toArray, List.set_cons_zero, List.set_cons_succ])
    refine wpAnyH_ready (rs := [4]) (by kernel_rfl) (by simp) ?_
    refine AllReadyH.cons (o := _) rfl (fun K hK => ?_) AllReadyH.nil
    go_simp
    go_at_call 104
    refine (cell_any (w.heap.size + 1) 400 m ar ac cr cc _ (by omega) hC HS2.out.d.ok).mono ?_
    rintro e w3 ⟨⟨z1, rfl⟩, hok, hg⟩
    have HS3 := Lib.hid (HS2.out.step hB5 hok hg)
    clear hok hg HS2
    obtain ⟨p0, p1, p2, p3, -⟩ := HS3.out.d.box.four
    go_wp2_with fail
    refine hK.out _ _ ⟨p0, p1, p2, p3⟩ (fun _ => ?_)
    clear hK K hHeld
    clear p0 p1 p2 p3
    obtain ⟨r0, r1, r2, r3, l0, l1, l2, l3⟩ := HS3.out.d.res.four
    have hx1 := HS3.out.d.res.lt
    have hx2 := HS3.out.d.box.lt
    refine wpAnyH_ready (rs := [5]) (by kernel_rfl) (by simp) ?_
    refine AllReadyH.cons (o := _) rfl (fun K hK => ?_) AllReadyH.nil
    go_simp
    have key : ∀ (W : World) (p : Addr) (u : Value), p.block = w.heap.size → Blk W B5 26 #[.int .i64 m.W, .int .i64 m.H, .slice ar m.R.length cr, .slice ac m.C.length cc] → Blk (W.setCell p u) B5 26 #[.int .i64 m.W, .int .i64 m.H, .slice ar m.R.length cr, .slice ac m.C.length cc] := fun W p u hp h => (Below.heap_setCell W p u B5 (by omega)).trans h
    obtain ⟨q0, q1, q2, q3, -⟩ := (key _ ⟨w.heap.size, 3, none⟩ (.slice ac m.C.length cc) rfl (key _ ⟨w.heap.size, 2, none⟩ (.slice ar m.R.length cr) rfl (key _ ⟨w.heap.size, 1, none⟩ (.int .i64 m.H) rfl (key _ ⟨w.heap.size, 0, none⟩ (.int .i64 m.W) rfl HS3.out.d.box)))).four
    clear key
    refine hK.out _ _ ⟨q0, q1, q2, q3⟩ (fun _ => ?_)
    clear hK K q0 q1 q2 q3
    refine wpAnyH_take (i := 6) (oi := _) (v := ?_) rfl (by kernel_rfl) (by kernel_rfl) (by kernel_rfl) (fun _ _ _ h => h) (Or.inl ⟨by rfl, ?_⟩) (by assumption) ?_; rotate_left; focus (intro W hSw; (try dsimp only at hSw); go_simp; (first | done | with_reducible rfl))
    (try simp only [List.getElem_toArray, List.getElem_cons_succ, List.getElem_cons_zero, Act.put, List.setIfInBounds_toArray, List.set_cons_zero, List.set_cons_succ])
    refine wpAnyH_take (i := 7) (oi := _) (v := ?_) rfl (by kernel_rfl) (by kernel_rfl) (by kernel_rfl) (fun _ _ _ h => h) (Or.inl ⟨by rfl, ?_⟩) (by assumption) ?_; rotate_left; focus (intro W hSw; (try dsimp only at hSw); go_simp; (first | done | with_reducible rfl))
    (try simp only [List.getElem_toArray, List.getElem_cons_succ, List.getElem_cons_zero, Act.put, List.setIfInBounds_toArray, List.set_cons_zero, List.set_cons_succ])
    refine wpAnyH_done (by kernel_rfl) ?_ _
    refine NoPanic.normal ?_
    (try simp only [List.getElem_toArray, List.getElem_cons_succ, List.getElem_cons_zero, Act.put, List.setIfInBounds_toArray, List.set_cons_zero, List.set_cons_succ])
    go_wp2
    refine bodyPost_ret (v := .tuple #[.agg #[.int .i64 m.W, .int .i64 m.H, .slice ar m.R.length cr, .slice ac m.C.length cc], .slice ad fs.length cpl, .int .i64 z1]) (by simp [results, Try.results45, go_sem, r0, r1, r2, r3]) rfl ⟨_, _, m, fs, z1, rfl, trivial, ⟨ar, cr, ac, cc, rfl, ?_, ?_, HN.out⟩, ?_, hR, hC, hF, ?_⟩
    · have h := HS3.out.d.r
      refine rebase (b := w.heap.size + 1 + 1) ?_ (by omega)
      iterate 4 (refine ownsRow_setCell_below ?_ (by show w.heap.size < _; omega) _)
      exact h
    · have h := HS3.out.d.c
      refine rebase (b := w.heap.size + 1 + 1) ?_ (by omega)
      iterate 4 (refine ownsRow_setCell_below ?_ (by show w.heap.size < _; omega) _)
      exact h
    · have h := HS3.out.L
      refine rebase (b := w.heap.size + 1 + 1) ?_ (by omega)
      iterate 4 (refine ownsRow_setCell_below ?_ (by show w.heap.size < _; omega) _)
      exact h
    · iterate 4 (refine Below.setCell ?_ (by simp) _)
      exact HS3.out.d.b
  have hd : decide (0 < (fs.length : Int)) = true := decide_eq_true (by omega)
  go_wp2_with fail
  try rw [hB5e]
  refine (one_any (w.heap.size + 1) 400 2 _ (by omega) (by omega) (by omega) HS2.out.d.ok).mono ?_
  rintro e w3 ⟨⟨t, rfl⟩, hok, hg⟩
  have HS3 := Lib.hid (HS2.out.step hB5 hok hg)
  clear hok hg HS2
  cases t with
  | false =>
    go_upto_region 5 with (fail)
    try rw [hB5e]
    replace HS3 := Lib.hid HS3.out.drew
    obtain ⟨p0, p1, p2, p3, -⟩ := HS3.out.d.box.four
    refine wp_region_noPanic ?_
    refine wp_region_held_drew (S := (fun Wx : World => Wx.cell? ⟨B5, 0, none⟩ = some (.int .i64 m.W) ∧ Wx.cell? ⟨B5, 1, none⟩ = some (.int .i64 m.H) ∧ Wx.cell? ⟨B5, 2, none⟩ = some (.slice ar m.R.length cr) ∧ Wx.cell? ⟨B5, 3, none⟩ = some (.slice ac m.C.length cc))) (by kernel_rfl) ⟨p0, p1, p2, p3⟩ (fun hHeld => ?_)
    refine wpAnyH_take (i := 0) (oi := _) (v := ?_) rfl (by kernel_rfl) (by kernel_rfl) (by kernel_rfl) (fun _ _ _ h => h) (Or.inl ⟨by rfl, ?_⟩) (by assumption) ?_; rotate_left; focus (intro W hSw; (try dsimp only at hSw); go_simp; (first | done | with_reducible rfl))
    (try simp only [List.getElem_toArray, List.getElem_cons_succ, List.getElem_cons_zero, Act.put, List.setIfInBounds_toArray, List.set_cons_zero, List.set_cons_succ])
    refine wpAnyH_take (i := 1) (oi := _) (v := ?_) rfl (by kernel_rfl) (by kernel_rfl) (by kernel_rfl) (fun _ _ _ h => h) (Or.inl ⟨by rfl, ?_⟩) (by assumption) ?_; rotate_left; focus (intro W hSw; (try dsimp only at hSw); go_simp; (first | done | with_reducible rfl))
    (try simp only [List.getElem_toArray, List.getElem_cons_succ, List.getElem_cons_zero, Act.put, List.setIfInBounds_toArray, List.set_cons_zero, List.set_cons_succ])
    refine wpAnyH_take (i := 2) (oi := _) (v := ?_) rfl (by kernel_rfl) (by kernel_rfl) (by kernel_rfl) (fun _ _ _ h => h) (Or.inl ⟨by rfl, ?_⟩) (by assumption) ?_; rotate_left; focus (intro W hSw; (try dsimp only at hSw); go_simp; (first | done | with_reducible rfl))
    (try simp only [List.getElem_toArray, List.getElem_cons_succ, List.getElem_cons_zero, Act.put, List.setIfInBounds_toArray, List.set_cons_zero, List.set_cons_succ])
    refine wpAnyH_take (i := 3) (oi := _) (v := ?_) rfl (by kernel_rfl) (by kernel_rfl) (by kernel_rfl) (fun _ _ _ h => h) (Or.inl ⟨by rfl, ?_⟩) (by assumption) ?_; rotate_left; focus (intro W hSw; (try dsimp only at hSw); go_simp; (first | done | with_reducible rfl))
    (try simp only [List.getElem_toArray, List.getElem_cons_succ, List.getElem_cons_zero, Act.put, List.setIfInBounds_toArray, List.set_cons_zero, List.set_cons_succ])
    refine wpAnyH_ready (rs := [4]) (by kernel_rfl) (by simp) ?_
    refine AllReadyH.cons (o := _) rfl (fun K hK => ?_) AllReadyH.nil
    go_simp
    go_at_call 104
    refine (cell_any (w.heap.size + 1) 402 m ar ac cr cc _ (by omega) hC HS3.out.d.ok).mono ?_
    rintro e w4 ⟨⟨z1, rfl⟩, hok, hg⟩
    have HS4 := Lib.hid (HS3.out.step hB5 hok hg)
    clear hok hg HS3
    obtain ⟨p0, p1, p2, p3, -⟩ := HS4.out.d.box.four
    go_wp2_with fail
    refine hK.out _ _ ⟨p0, p1, p2, p3⟩ (fun _ => ?_)
    clear hK K hHeld
    clear p0 p1 p2 p3
    obtain ⟨r0, r1, r2, r3, l0, l1, l2, l3⟩ := HS4.out.d.res.four
    have hx1 := HS4.out.d.res.lt
    have hx2 := HS4.out.d.box.lt
    refine wpAnyH_ready (rs := [5]) (by kernel_rfl) (by simp) ?_
    refine AllReadyH.cons (o := _) rfl (fun K hK => ?_) AllReadyH.nil
    go_simp
    have key : ∀ (W : World) (p : Addr) (u : Value), p.block = w.heap.size → Blk W B5 26 #[.int .i64 m.W, .int .i64 m.H, .slice ar m.R.length cr, .slice ac m.C.length cc] → Blk (W.setCell p u) B5 26 #[.int .i64 m.W, .int .i64 m.H, .slice ar m.R.length cr, .slice ac m.C.length cc] := fun W p u hp h => (Below.heap_setCell W p u B5 (by omega)).trans h
    obtain ⟨q0, q1, q2, q3, -⟩ := (key _ ⟨w.heap.size, 3, none⟩ (.slice ac m.C.length cc) rfl (key _ ⟨w.heap.size, 2, none⟩ (.slice ar m.R.length cr) rfl (key _ ⟨w.heap.size, 1, none⟩ (.int .i64 m.H) rfl (key _ ⟨w.heap.size, 0, none⟩ (.int .i64 m.W) rfl HS4.out.d.box)))).four
    clear key
    refine hK.out _ _ ⟨q0, q1, q2, q3⟩ (fun _ => ?_)
    clear hK K q0 q1 q2 q3
    refine wpAnyH_take (i := 6) (oi := _) (v := ?_) rfl (by kernel_rfl) (by kernel_rfl) (by kernel_rfl) (fun _ _ _ h => h) (Or.inl ⟨by rfl, ?_⟩) (by assumption) ?_; rotate_left; focus (intro W hSw; (try dsimp only at hSw); go_simp; (first | done | with_reducible rfl))
    (try simp only [List.getElem_toArray, List.getElem_cons_succ, List.getElem_cons_zero, Act.put, List.setIfInBounds_toArray, List.set_cons_zero, List.set_cons_succ])
    refine wpAnyH_take (i := 7) (oi := _) (v := ?_) rfl (by kernel_rfl) (by kernel_rfl) (by kernel_rfl) (fun _ _ _ h => h) (Or.inl ⟨by rfl, ?_⟩) (by assumption) ?_; rotate_left; focus (intro W hSw; (try dsimp only at hSw); go_simp; (first | done | with_reducible rfl))
    (try simp only [List.getElem_toArray, List.getElem_cons_succ, List.getElem_cons_zero, Act.put, List.setIfInBounds_toArray, List.set_cons_zero, List.set_cons_succ])
    refine wpAnyH_done (by kernel_rfl) ?_ _
    refine NoPanic.normal ?_
    (try simp only [List.getElem_toArray, List.getElem_cons_succ, List.getElem_cons_zero, Act.put, List.setIfInBounds_toArray, List.set_cons_zero, List.set_cons_succ])
    go_wp2
    refine bodyPost_ret (v := .tuple #[.agg #[.int .i64 m.W, .int .i64 m.H, .slice ar m.R.length cr, .slice ac m.C.length cc], .slice ad fs.length cpl, .int .i64 z1]) (by simp [results, Try.results45, go_sem, r0, r1, r2, r3]) rfl ⟨_, _, m, fs, z1, rfl, trivial, ⟨ar, cr, ac, cc, rfl, ?_, ?_, HN.out⟩, ?_, hR, hC, hF, ?_⟩
    · have h := HS4.out.d.r
      refine rebase (b := w.heap.size + 1 + 1) ?_ (by omega)
      iterate 4 (refine ownsRow_setCell_below ?_ (by show w.heap.size < _; omega) _)
      exact h
    · have h := HS4.out.d.c
      refine rebase (b := w.heap.size + 1 + 1) ?_ (by omega)
      iterate 4 (refine ownsRow_setCell_below ?_ (by show w.heap.size < _; omega) _)
      exact h
    · have h := HS4.out.L
      refine rebase (b := w.heap.size + 1 + 1) ?_ (by omega)
      iterate 4 (refine ownsRow_setCell_below ?_ (by show w.heap.size < _; omega) _)
      exact h
    · iterate 4 (refine Below.setCell ?_ (by simp) _)
      exact HS4.out.d.b
  | true =>
    go_upto_region 4 with (fail)
    try rw [hB5e]
    replace HS3 := Lib.hid HS3.out.drew
    have HFc := Lib.hid (fun (wx : World) (hL : CtK.Own wx (w.heap.size + 1 + 1) (.slice ad fs.length cpl) fs) (p : Nat) (hp : p < fs.length) => (CtK.Own.row hL).cells hp)
    obtain ⟨b1, off, hadr, -, -⟩ := (CtK.Own.row HS3.out.L).cells h0
    subst hadr
    obtain ⟨p0, p1, p2, p3, -⟩ := HS3.out.d.box.four
    refine wp_region_noPanic ?_
    refine wp_region_held_drew (S := (fun Wx : World => (Wx.cell? ⟨B5, 0, none⟩ = some (.int .i64 m.W) ∧ Wx.cell? ⟨B5, 1, none⟩ = some (.int .i64 m.H) ∧ Wx.cell? ⟨B5, 2, none⟩ = some (.slice ar m.R.length cr) ∧ Wx.cell? ⟨B5, 3, none⟩ = some (.slice ac m.C.length cc)) ∧ ∀ q, q < fs.length → Wx.cell? ⟨b1, off + q * 2 + 1, none⟩ = some (.int .i64 (CtK.at_ fs q).ce))) (by kernel_rfl) ⟨⟨p0, p1, p2, p3⟩, fun q hq => by obtain ⟨b2, o2, e, -, d0⟩ := (CtK.Own.row HS3.out.L).cells hq; cases e; exact d0⟩ (fun hHeld => ?_)
    refine wpAnyH_take (i := 0) (oi := _) (v := ?_) rfl (by kernel_rfl) (by kernel_rfl) (by kernel_rfl) (fun _ _ _ h => h) (Or.inl ⟨by rfl, ?_⟩) (by assumption) ?_; rotate_left; focus (intro W hSw; (try dsimp only at hSw); go_simp; (first | done | with_reducible rfl))
    (try simp only [List.getElem_toArray, List.getElem_cons_succ, List.getElem_cons_zero, Act.put, List.setIfInBounds_toArray, List.set_cons_zero, List.set_cons_succ])
    refine wpAnyH_take (i := 1) (oi := _) (v := ?_) rfl (by kernel_rfl) (by kernel_rfl) (by kernel_rfl) (fun _ _ _ h => h) (Or.inl ⟨by rfl, ?_⟩) (by assumption) ?_; rotate_left; focus (intro W hSw; (try dsimp only at hSw); go_simp; (first | done | with_reducible rfl))
    (try simp only [List.getElem_toArray, List.getElem_cons_succ, List.getElem_cons_zero, Act.put, List.setIfInBounds_toArray, List.set_cons_zero, List.set_cons_succ])
    refine wpAnyH_take (i := 2) (oi := _) (v := ?_) rfl (by kernel_rfl) (by kernel_rfl) (by kernel_rfl) (fun _ _ _ h => h) (Or.inl ⟨by rfl, ?_⟩) (by assumption) ?_; rotate_left; focus (intro W hSw; (try dsimp only at hSw); go_simp; (first | done | with_reducible rfl))
    (try simp only [List.getElem_toArray, List.getElem_cons_succ, List.getElem_cons_zero, Act.put, List.setIfInBounds_toArray, List.set_cons_zero, List.set_cons_succ])
    refine wpAnyH_take (i := 3) (oi := _) (v := ?_) rfl (by kernel_rfl) (by kernel_rfl) (by kernel_rfl) (fun _ _ _ h => h) (Or.inl ⟨by rfl, ?_⟩) (by assumption) ?_; rotate_left; focus (intro W hSw; (try dsimp only at hSw); go_simp; (first | done | with_reducible rfl))
    (try simp only [List.getElem_toArray, List.getElem_cons_succ, List.getElem_cons_zero, Act.put, List.setIfInBounds_toArray, List.set_cons_zero, List.set_cons_succ])
    refine wpAnyH_take (i := 4) (oi := _) (v := ?_) rfl (by kernel_rfl) (by kernel_rfl) (by kernel_rfl) (fun _ _ _ h => h) (Or.inl ⟨by rfl, ?_⟩) (by assumption) ?_; rotate_left; focus (intro W hSw; (try dsimp only at hSw); go_simp; (first | done | with_reducible rfl))
    (try simp only [List.getElem_toArray, List.getElem_cons_succ, List.getElem_cons_zero, Act.put, List.setIfInBounds_toArray, List.set_cons_zero, List.set_cons_succ])
    refine wpAnyH_take (i := 5) (oi := _) (v := ?_) rfl (by kernel_rfl) (by kernel_rfl) (by kernel_rfl) (fun _ _ _ h => h) (Or.inl ⟨by rfl, ?_⟩) (by assumption) ?_; rotate_left; focus (intro W hSw; (try dsimp only at hSw); go_simp; (first | done | with_reducible rfl))
    (try simp only [List.getElem_toArray, List.getElem_cons_succ, List.getElem_cons_zero, Act.put, List.setIfInBounds_toArray, List.set_cons_zero, List.set_cons_succ])
    refine wpAnyH_ready (rs := [6]) (by kernel_rfl) (by simp) ?_
    refine AllReadyH.cons (o := _) rfl (fun K hK => ?_) AllReadyH.nil
    go_simp
    go_at_call 103
    refine (pick_any (w.heap.size + 1) 402 fs.length _ (by omega) (by omega) (by omega) HS3.out.d.ok).mono ?_
    rintro e w4 ⟨⟨p, rfl, _, hp⟩, hok, hg⟩
    have HS4 := Lib.hid (HS3.out.step hB5 hok hg)
    have hpn : p < fs.length := by omega
    clear hok hg HS3 p0 p1 p2 p3 hp
    obtain ⟨p0, p1, p2, p3, -⟩ := HS4.out.d.box.four
    go_wp2_with fail
    refine hK.out _ _ ⟨⟨p0, p1, p2, p3⟩, fun q hq => by obtain ⟨b2, o2, e, -, d0⟩ := (CtK.Own.row HS4.out.L).cells hq; cases e; exact d0⟩ (fun _ => ?_)
    clear hK K hHeld p0 p1 p2 p3
    have hp0 : (0 : Int) ≤ (p : Int) := by omega
    have hp1 : (p : Int) < (fs.length : Int) := by omega
    have hp2 : p < fs.length := hpn
    refine wpAnyH_take (i := 7) (oi := _) (v := ?_) rfl (by kernel_rfl) (by kernel_rfl) (by kernel_rfl) (fun _ _ _ h => h) (Or.inl ⟨by rfl, ?_⟩) (by assumption) ?_; rotate_left; focus (intro W hSw; (try dsimp only at hSw); go_simp; (first | done | with_reducible rfl))
    (try simp only [List.getElem_toArray, List.getElem_cons_succ, List.getElem_cons_zero, Act.put, List.setIfInBounds_toArray, List.set_cons_zero, List.set_cons_succ])
    refine wpAnyH_take (i := 8) (oi := _) (v := ?_) rfl (by kernel_rfl) (by kernel_rfl) (by kernel_rfl) (fun _ _ _ h => h) (Or.inl ⟨by rfl, ?_⟩) (by assumption) ?_; rotate_left; focus (intro W hSw; (try dsimp only at hSw); go_simp; (first | done | with_reducible rfl))
    (try simp only [List.getElem_toArray, List.getElem_cons_succ, List.getElem_cons_zero, Act.put, List.setIfInBounds_toArray, List.set_cons_zero, List.set_cons_succ])
    obtain ⟨z1, hz1⟩ : ∃ z, (CtK.at_ fs p).ce = z := ⟨_, rfl⟩
    refine wpAnyH_take (i := 9) (oi := _) (v := .int .i64 z1) rfl (by kernel_rfl) (by kernel_rfl) (by kernel_rfl) (fun _ _ _ h => h) (Or.inl ⟨by rfl, ?_⟩) (by assumption) ?_
    · intro W hSw
      have hq := hSw.2 p hpn
      rw [hz1] at hq
      clear hSw
      (try dsimp only)
      go_simp
      (first | done | with_reducible rfl)
    (try simp only [List.getElem_toArray, List.getElem_cons_succ, List.getElem_cons_zero, Act.put, List.setIfInBounds_toArray, List.set_cons_zero, List.set_cons_succ])
    obtain ⟨r0, r1, r2, r3, l0, l1, l2, l3⟩ := HS4.out.d.res.four
    have hx1 := HS4.out.d.res.lt
    have hx2 := HS4.out.d.box.lt
    refine wpAnyH_ready (rs := [10]) (by kernel_rfl) (by simp) ?_
    refine AllReadyH.cons (o := _) rfl (fun K hK => ?_) AllReadyH.nil
    go_simp
    have key : ∀ (W : World) (p : Addr) (u : Value), p.block = w.heap.size → Blk W B5 26 #[.int .i64 m.W, .int .i64 m.H, .slice ar m.R.length cr, .slice ac m.C.length cc] → Blk (W.setCell p u) B5 26 #[.int .i64 m.W, .int .i64 m.H, .slice ar m.R.length cr, .slice ac m.C.length cc] := fun W p u hp h => (Below.heap_setCell W p u B5 (by omega)).trans h
    obtain ⟨q0, q1, q2, q3, -⟩ := (key _ ⟨w.heap.size, 3, none⟩ (.slice ac m.C.length cc) rfl (key _ ⟨w.heap.size, 2, none⟩ (.slice ar m.R.length cr) rfl (key _ ⟨w.heap.size, 1, none⟩ (.int .i64 m.H) rfl (key _ ⟨w.heap.size, 0, none⟩ (.int .i64 m.W) rfl HS4.out.d.box)))).four
    clear key
    have hown5 : CtK.Own ((((w4.setCell ⟨w.heap.size, 0, none⟩ (.int .i64 m.W)).setCell ⟨w.heap.size, 1, none⟩ (.int .i64 m.H)).setCell ⟨w.heap.size, 2, none⟩ (.slice ar m.R.length cr)).setCell ⟨w.heap.size, 3, none⟩ (.slice ac m.C.length cc)) (w.heap.size + 1 + 1) (.slice (some ⟨b1, off, none⟩) fs.length cpl) fs := by
      iterate 4 (refine ownsRow_setCell_below ?_ (by show w.heap.size < _; omega) _)
      exact HS4.out.L
    refine hK.out _ _ ⟨⟨q0, q1, q2, q3⟩, fun q hq => by obtain ⟨b2, o2, e, -, d0⟩ := (CtK.Own.row hown5).cells hq; cases e; exact d0⟩ (fun _ => ?_)
    clear hK K q0 q1 q2 q3 hown5
    refine wpAnyH_take (i := 11) (oi := _) (v := ?_) rfl (by kernel_rfl) (by kernel_rfl) (by kernel_rfl) (fun _ _ _ h => h) (Or.inl ⟨by rfl, ?_⟩) (by assumption) ?_; rotate_left; focus (intro W hSw; (try dsimp only at hSw); go_simp; (first | done | with_reducible rfl))
    (try simp only [List.getElem_toArray, List.getElem_cons_succ, List.getElem_cons_zero, Act.put, List.setIfInBounds_toArray, List.set_cons_zero, List.set_cons_succ])
    refine wpAnyH_take (i := 12) (oi := _) (v := ?_) rfl (by kernel_rfl) (by kernel_rfl) (by kernel_rfl) (fun _ _ _ h => h) (Or.inl ⟨by rfl, ?_⟩) (by assumption) ?_; rotate_left; focus (intro W hSw; (try dsimp only at hSw); go_simp; (first | done | with_reducible rfl))
    (try simp only [List.getElem_toArray, List.getElem_cons_succ, List.getElem_cons_zero, Act.put, List.setIfInBounds_toArray, List.set_cons_zero, List.set_cons_succ])
    refine wpAnyH_done (by kernel_rfl) ?_ _
    refine NoPanic.normal ?_
    (try simp only [List.getElem_toArray, List.getElem_cons_succ, List.getElem_cons_zero, Act.put, List.setIfInBounds_toArray, List.set_cons_zero, List.set_cons_succ])
    go_wp2
    refine bodyPost_ret (v := .tuple #[.agg #[.int .i64 m.W, .int .i64 m.H, .slice ar m.R.length cr, .slice ac m.C.length cc], .slice (some ⟨b1, off, none⟩) fs.length cpl, .int .i64 z1]) (by simp [results, Try.results45, go_sem, r0, r1, r2, r3]) rfl ⟨_, _, m, fs, z1, rfl, trivial, ⟨ar, cr, ac, cc, rfl, ?_, ?_, HN.out⟩, ?_, hR, hC, hF, ?_⟩
    · have h := HS4.out.d.r
      refine rebase (b := w.heap.size + 1 + 1) ?_ (by omega)
      iterate 4 (refine ownsRow_setCell_below ?_ (by show w.heap.size < _; omega) _)
      exact h
    · have h := HS4.out.d.c
      refine rebase (b := w.heap.size + 1 + 1) ?_ (by omega)
      iterate 4 (refine ownsRow_setCell_below ?_ (by show w.heap.size < _; omega) _)
      exact h
    · have h := HS4.out.L
      refine rebase (b := w.heap.size + 1 + 1) ?_ (by omega)
      iterate 4 (refine ownsRow_setCell_below ?_ (by show w.heap.size < _; omega) _)
      exact h
    · iterate 4 (refine Below.setCell ?_ (by simp) _)
      exact HS4.out.d.b

set_option maxHeartbeats 2000000 in
theorem drawFreeCode (a : Option Addr) (n cap : Nat) (xs : Nat → Nat) (w : World) (hc : Bytes w a n xs) :
    Calls Try.prog 47 #[.slice a n cap] w (DP0 w) := by
  have HB := Lib.hid ((Below.refl w.heap.size w).alloc (Nat.le_refl _) (.cells #[.int .i64 0, .int .i64 0, .slice none 0 0, .slice none 0 0] 26))
  have HQ0 := Lib.hid (Blk.new w 26 #[.int .i64 0, .int .i64 0, .slice none 0 0, .slice none 0 0])
  have c1 := Lib.hid (drawAreControls a n cap xs _ (hc.below HB.out))
  clear hc
  go_enter Try.func47, Try.ntmps47
  go_wp2_with fail
  refine c1.out.mono ?_
  rintro e w1 ⟨v, lv, m, fs, rfl, ho, hL, hR, hC, hF, hb⟩
  obtain ⟨ar, cr, ac, cc, rfl, h1, h2, hne⟩ := ho
  rw [World.size_alloc] at h1 h2 hL
  have HQ1 := Lib.hid (HQ0.out.later hb)
  have HB1 := Lib.hid (HB.out.trans (hb.mono (by simp)))
  have H1 := Lib.hid h1
  have H2 := Lib.hid h2
  have H3 := Lib.hid hL
  have HN := Lib.hid hne
  clear h1 h2 hL hne hb HB HQ0
  obtain ⟨r0, r1, r2, r3, l0, l1, l2, l3⟩ := HQ1.out.four
  have hx1 := HQ1.out.lt
  go_wp2
  refine bodyPost_ret (v := .tuple #[.agg #[.int .i64 m.W, .int .i64 m.H, .slice ar m.R.length cr, .slice ac m.C.length cc], lv]) (by simp [results, Try.results47, go_sem, r0, r1, r2, r3]) rfl ⟨_, _, m, fs, rfl, ⟨ar, cr, ac, cc, rfl, ?_, ?_, HN.out⟩, ?_, hR, hC, hF, ?_⟩
  · have h := H1.out
    refine rebase (b := w.heap.size + 1) ?_ (by omega)
    iterate 4 (refine ownsRow_setCell_below ?_ (by show w.heap.size < _; omega) _)
    exact h
  · have h := H2.out
    refine rebase (b := w.heap.size + 1) ?_ (by omega)
    iterate 4 (refine ownsRow_setCell_below ?_ (by show w.heap.size < _; omega) _)
    exact h
  · have h := H3.out
    refine rebase (b := w.heap.size + 1) ?_ (by omega)
    iterate 4 (refine ownsRow_setCell_below ?_ (by show w.heap.size < _; omega) _)
    exact h
  · iterate 4 (refine Below.setCell ?_ (by simp) _)
    exact HB1.out

end Go.Proofs.Ytfpfnnindlfgfaa.CtDx

namespace Go.Proofs.Ytfpfnnindlfgfaa.CoX
open Go.RowKit Lb Bk
set_option linter.unusedSimpArgs false
set_option linter.unusedVariables false

set_option maxHeartbeats 2000000 in
theorem ctl_same (a b : Option Addr) (cap cap' : Nat) (fs : List Ct) (w : World) (hr : CtK.Row w a fs) (hr' : CtK.Row w b fs) (hl : fs.length ≤ 1000000) :
    Calls Try.prog 35 #[.slice a fs.length cap, .slice b fs.length cap'] w fun e w' => e = .returned (.bool true) ∧ Below w.heap.size w w' := by
  have H := Lib.hid hr
  have H' := Lib.hid hr'
  obtain ⟨n, hn⟩ : ∃ n, fs.length = n := ⟨_, rfl⟩
  have HN := Lib.hid hn
  rw [hn] at hl ⊢
  clear hr hr' hn
  go_enter Try.func35, Try.ntmps35
  go_wp2
  go_loopw [5] (fun i wr => ∃ k : Nat, k ≤ n ∧ i = .int .i64 k ∧ Below w.heap.size w wr) (fun i _ => n - (intOf i).toNat)
  case atStart => exact ⟨0, Nat.zero_le _, rfl, Below.refl _ _⟩
  case round =>
    obtain ⟨k, hk, rfl, hb⟩ := hrel
    have HB := Lib.hid hb
    clear hb
    by_cases hlt : k < n
    · obtain ⟨b1, o1, rfl, c0, c1⟩ := (H.out.later HB.out).cells (i := k) (by rw [HN.out]; exact hlt)
      obtain ⟨b2, o2, rfl, d0, d1⟩ := (H'.out.later HB.out).cells (i := k) (by rw [HN.out]; exact hlt)
      obtain ⟨x, hx⟩ : ∃ x, (CtK.at_ fs k).co = x := ⟨_, rfl⟩
      obtain ⟨y, hy⟩ : ∃ x, (CtK.at_ fs k).ce = x := ⟨_, rfl⟩
      rw [hx] at c0 d0
      rw [hy] at c1 d1
      have hk0 : (0 : Int) ≤ (k : Int) := by omega
      have hk1 : (k : Int) < (n : Int) := by omega
      clear hx hy
      go_wp2
      go_quiet (fail)
      go_wp2
      go_roundw
      case rel => exact ⟨k + 1, by omega, by go_num, below_drewN HB.out _⟩
      case measure => simp [intOf]; omega
    · obtain rfl : k = n := by omega
      go_wp2
      go_ret
      exact ⟨rfl, HB.out⟩

set_option maxRecDepth 4000 in
theorem eq_arrd (d : Nat) (x y : Int) (w : World) : (Op.equalIn (d + 1 + 1) 59 (.agg #[.int .i64 x, .int .i64 y]) (.agg #[.int .i64 x, .int .i64 y])).run Try.prog w = .ok true w := by
  have hs : Sem.run Try.prog (Go.sizeOf 3) w = .ok 1 w := by
    obtain ⟨i0, hi, hz0, hz1, hz2⟩ := info_parts (show (Try.prog.info? 3).map (fun i => (i.zero, i.size, i.bytes)) = some (some (.int .i64 0), 1, 8) by kernel_rfl)
    simp [Go.sizeOf, typeInfo, hi, hz1]
  have hi := run_equalIn_int (P := Try.prog) w d 3 .i64 .i64 x x Try.underlying3
  have hj := run_equalIn_int (P := Try.prog) w d 3 .i64 .i64 y y Try.underlying3
  have hp1 : (Sem.run Try.prog (part 3 #[.int .i64 x, .int .i64 y] 0) w) = .ok (.int .i64 x) w := by simp [part]
  have hp2 : (Sem.run Try.prog (part 3 #[.int .i64 x, .int .i64 y] 1) w) = .ok (.int .i64 y) w := by simp [part]
  rw [Op.equalIn]
  simp only [Sem.run_bind, run_underlying Try.underlying59, Result.andThen_ok, hs]
  simp [Std.Legacy.Range.forIn_eq_forIn_range', Std.Legacy.Range.size, List.range', hp1, hp2, hi, hj]
theorem neq_arr (x y : Int) (w : World) : (binOp .neq 59 (.agg #[.int .i64 x, .int .i64 y]) (.agg #[.int .i64 x, .int .i64 y])).run Try.prog w = .ok (.bool false) w := by
  rw [run_neq_struct, show (10000 : Nat) = 9998 + 1 + 1 from rfl, eq_arrd]
  rfl

set_option maxHeartbeats 2000000 in
theorem prs_same (a b : Option Addr) (cap cap' : Nat) (fs : List Pr) (w : World) (hr : PrK.Row w a fs) (hr' : PrK.Row w b fs) (hl : fs.length ≤ 1000000) :
    Calls Try.prog 52 #[.slice a fs.length cap, .slice b fs.length cap'] w fun e w' => e = .returned (.bool true) ∧ Below w.heap.size w w' := by
  have H := Lib.hid hr
  have H' := Lib.hid hr'
  obtain ⟨n, hn⟩ : ∃ n, fs.length = n := ⟨_, rfl⟩
  have HN := Lib.hid hn
  rw [hn] at hl ⊢
  clear hr hr' hn
  go_enter Try.func52, Try.ntmps52
  go_wp2
  go_loopw [5] (fun i wr => ∃ k : Nat, k ≤ n ∧ i = .int .i64 k ∧ Below w.heap.size w wr) (fun i _ => n - (intOf i).toNat)
  case atStart => exact ⟨0, Nat.zero_le _, rfl, Below.refl _ _⟩
  case round =>
    obtain ⟨k, hk, rfl, hb⟩ := hrel
    have HB := Lib.hid hb
    clear hb
    by_cases hlt : k < n
    · obtain ⟨b1, o1, rfl, c0, c1⟩ := (H.out.later HB.out).cells (i := k) (by rw [HN.out]; exact hlt)
      obtain ⟨b2, o2, rfl, d0, d1⟩ := (H'.out.later HB.out).cells (i := k) (by rw [HN.out]; exact hlt)
      obtain ⟨x, hx⟩ : ∃ x, (PrK.at_ fs k).a = x := ⟨_, rfl⟩
      obtain ⟨y, hy⟩ : ∃ x, (PrK.at_ fs k).b = x := ⟨_, rfl⟩
      rw [hx] at c0 d0
      rw [hy] at c1 d1
      have hk0 : (0 : Int) ≤ (k : Int) := by omega
      have hk1 : (k : Int) < (n : Int) := by omega
      clear hx hy
      have qn := neq_arr x y
      have qe : (Op.equalIn 10000 59 (.agg #[.int .i64 x, .int .i64 y]) (.agg #[.int .i64 x, .int .i64 y])) = Op.equalIn (9998 + 1 + 1) 59 (.agg #[.int .i64 x, .int .i64 y]) (.agg #[.int .i64 x, .int .i64 y]) := rfl
      have qf : ∀ w : World, (Op.equalIn 10000 59 (.agg #[.int .i64 x, .int .i64 y]) (.agg #[.int .i64 x, .int .i64 y])).run Try.prog w = .ok true w := fun w => by rw [qe]; exact eq_arrd 9998 x y w
      clear qe
      go_wp2
      go_quiet (fail)
      go_wp2
      go_roundw
      case rel => exact ⟨k + 1, by omega, by go_num, below_drewN HB.out _⟩
      case measure => simp [intOf]; omega
    · obtain rfl : k = n := by omega
      go_wp2
      go_ret
      exact ⟨rfl, HB.out⟩

end Go.Proofs.Ytfpfnnindlfgfaa.CoX

namespace Go.Proofs.Ytfpfnnindlfgfaa.CoZ
open Go.RowKit Lb CtK CoM CoP CoF CoC CoB CoR CoQ PrP CoL
open CoE (frB frI frO frZ tkn fr_yes)
open OpnI (opB)
set_option linter.unusedSimpArgs false
set_option linter.unusedVariables false

/-- The pairs, element by element. -/
def prs (p : Ct → Ct → Bool) : List Ct → List Pr
  | [] => []
  | x :: r => (r.filter (p x)).map (fun y => (⟨x.co, y.co⟩ : Pr)) ++ prs p r
theorem row_succ (p : Ct → Ct → Bool) (x : Ct) (r : List Ct) (i : Nat) : ∀ k, rowP p (x :: r) (i + 1) (k + 1) = rowP p r i k
  | 0 => row_none p (x :: r) (i + 1) (0 + 1) (by omega)
  | k + 1 => by
    have e : ∀ j, at_ (x :: r) (j + 1) = at_ r j := fun j => rfl
    show (if i + 1 < k + 1 ∧ p (at_ (x :: r) (i + 1)) (at_ (x :: r) (k + 1)) = true then rowP p (x :: r) (i + 1) (k + 1) ++ [⟨(at_ (x :: r) (i + 1)).co, (at_ (x :: r) (k + 1)).co⟩] else rowP p (x :: r) (i + 1) (k + 1)) = (if i < k ∧ p (at_ r i) (at_ r k) = true then rowP p r i k ++ [⟨(at_ r i).co, (at_ r k).co⟩] else rowP p r i k)
    rw [row_succ p x r i k, e, e]
    by_cases h : i < k ∧ p (at_ r i) (at_ r k) = true
    · rw [if_pos h, if_pos ⟨by omega, h.2⟩]
    · rw [if_neg h, if_neg (fun h2 => h ⟨by omega, h2.2⟩)]
theorem row_first (p : Ct → Ct → Bool) (x : Ct) (r : List Ct) : ∀ k, k ≤ r.length → rowP p (x :: r) 0 (k + 1) = ((r.take k).filter (p x)).map (fun y => (⟨x.co, y.co⟩ : Pr))
  | 0, _ => by rw [rowP, if_neg (by rintro ⟨h, _⟩; omega)]; rfl
  | k + 1, h => by
    rw [rowP, row_first p x r k (by omega), List.take_succ_eq_append_getElem (show k < r.length by omega), List.filter_append, List.map_append]
    have e0 : at_ (x :: r) 0 = x := rfl
    have e1 : at_ (x :: r) (k + 1) = r[k] := (show at_ (x :: r) (k + 1) = at_ r k from rfl).trans (at_lt (by omega))
    rw [e0, e1]
    cases hp : p x r[k] with
    | true => rw [if_pos ⟨by omega, rfl⟩]; simp [hp]
    | false => rw [if_neg (by rintro ⟨_, h⟩; cases h)]; simp [hp]
theorem all_succ' (p : Ct → Ct → Bool) (x : Ct) (r : List Ct) : ∀ i, allP p (x :: r) (i + 1) = (r.filter (p x)).map (fun y => (⟨x.co, y.co⟩ : Pr)) ++ allP p r i
  | 0 => by
    rw [allP, allP, allP, List.nil_append, List.append_nil]
    have := row_first p x r r.length (Nat.le_refl _)
    rw [List.take_of_length_le (Nat.le_refl _)] at this
    exact this
  | i + 1 => by
    rw [allP, all_succ' p x r i, allP, List.append_assoc]
    congr 2
    exact row_succ p x r i r.length
theorem all_prs (p : Ct → Ct → Bool) : ∀ cs : List Ct, allP p cs cs.length = prs p cs
  | [] => rfl
  | x :: r => by rw [List.length_cons, all_succ' p x r r.length, all_prs p r]; rfl
theorem prs_mono {p q : Ct → Ct → Bool} (h : ∀ x y, p x y = true → q x y = true) : ∀ cs : List Ct, (prs p cs).length ≤ (prs q cs).length
  | [] => Nat.le_refl _
  | x :: r => by
    simp only [prs, List.length_append, List.length_map]
    have h1 : (r.filter (p x)).length ≤ (r.filter (q x)).length := by
      rw [← List.countP_eq_length_filter, ← List.countP_eq_length_filter]
      exact List.countP_mono_left (fun y _ hy => h x y hy)
    have := prs_mono h r
    omega
theorem prs_tail (p : Ct → Ct → Bool) (cs : List Ct) : (prs p (cs.drop 1)).length ≤ (prs p cs).length := by
  cases cs with
  | nil => exact Nat.le_refl _
  | cons x r => simp only [List.drop_succ_cons, List.drop_zero, prs, List.length_append]; omega
theorem prs_mem {p : Ct → Ct → Bool} {z : Pr} : ∀ {cs : List Ct}, z ∈ prs p cs → ∃ x y, x ∈ cs ∧ y ∈ cs ∧ z = ⟨x.co, y.co⟩
  | [], h => by simp [prs] at h
  | x :: r, h => by
    simp only [prs, List.mem_append, List.mem_map, List.mem_filter] at h
    rcases h with ⟨y, ⟨hy, _⟩, rfl⟩ | h
    · exact ⟨x, y, by simp, by simp [hy], rfl⟩
    · obtain ⟨a, b, ha, hb, e⟩ := prs_mem h
      exact ⟨a, b, by simp [ha], by simp [hb], e⟩
/-- One that is in no pair may stand anywhere. -/
theorem prs_ins {p : Ct → Ct → Bool} {y : Ct} : ∀ {rs : List Ct}, (∀ z, z ∈ rs → p y z = false ∧ p z y = false) → ∀ k, prs p (rs.take k ++ [y] ++ rs.drop k) = prs p rs
  | rs, h, 0 => by
    simp only [List.take_zero, List.nil_append, List.drop_zero, List.singleton_append, prs]
    have : rs.filter (p y) = [] := by
      rw [List.filter_eq_nil_iff]
      intro z hz
      rw [(h z hz).1]
      exact Bool.false_ne_true
    rw [this]
    rfl
  | [], h, k + 1 => by simp [prs]
  | x :: r, h, k + 1 => by
    have ih := prs_ins (rs := r) (fun z hz => h z (by simp [hz])) k
    simp only [List.take_succ_cons, List.drop_succ_cons, List.cons_append, prs]
    rw [ih]
    congr 2
    have hx := (h x (by simp)).2
    rw [List.filter_append, List.filter_append]
    have e : [y].filter (p x) = [] := by simp [hx]
    rw [e, List.append_nil, ← List.filter_append, List.take_append_drop]
/-- Validity, element by element. -/
theorem good_L {m : Mp} {cs : List Ct} : goodB m cs = true ↔ okB m = true ∧ cs.length ≤ 10 ∧ (∀ x, x ∈ cs → (31 ≤ x.co ∧ x.co ≤ 99) ∧ opB m x.ce = true) ∧ cs.Pairwise (fun x y => x.co < y.co ∧ x.ce ≠ y.ce) := by
  constructor
  · intro h
    have g := good_iff.1 h
    refine ⟨g.1, g.2.1, fun x hx => ?_, ?_⟩
    · obtain ⟨i, hi, rfl⟩ := List.mem_iff_getElem.1 hx
      have := g.2.2 i hi
      unfold FitP at this
      rw [at_lt hi] at this
      exact ⟨this.1.1, this.1.2.1⟩
    · rw [List.pairwise_iff_getElem]
      intro i j hi hj hij
      have h1 := (good_asc h).lt hij hj
      have h2 := good_ne h hj hij
      rw [at_lt hi, at_lt hj] at h1 h2
      exact ⟨h1, h2⟩
  · rintro ⟨h1, h2, h3, h4⟩
    rw [List.pairwise_iff_getElem] at h4
    refine good_all h1 h2 (fun i hi => ?_)
    have := h3 _ (List.getElem_mem hi)
    unfold FitP
    rw [at_lt hi]
    refine ⟨⟨this.1, this.2, fun h0 => ?_⟩, fun j hj => ?_⟩
    · rw [at_lt (show i - 1 < cs.length by omega)]
      exact (h4 (i - 1) i (by omega) hi (by omega)).1
    · rw [at_lt (show j < cs.length by omega)]
      exact (h4 j i (by omega) hi hj).2
theorem ins_good {m : Mp} {rs : List Ct} {y : Ct} (hg : okB m = true) (hl : rs.length ≤ 9) (h1 : ∀ x, x ∈ rs → (31 ≤ x.co ∧ x.co ≤ 99) ∧ opB m x.ce = true) (h2 : rs.Pairwise (fun x y => x.co < y.co ∧ x.ce ≠ y.ce)) (hy : (31 ≤ y.co ∧ y.co ≤ 99) ∧ opB m y.ce = true) (hne : ∀ x, x ∈ rs → x.co ≠ y.co ∧ x.ce ≠ y.ce) (ha : Asc rs) : goodB m (insR rs y) = true := by
  rw [good_L]
  have hPl := plc_pl ha y.co
  refine ⟨hg, by rw [ins_len]; omega, fun x hx => ?_, ?_⟩
  · unfold insR at hx
    rcases List.mem_append.1 hx with h | h
    · rcases List.mem_append.1 h with h | h
      · exact h1 x (List.mem_of_mem_take h)
      · obtain rfl : x = y := by simpa using h
        exact hy
    · exact h1 x (List.mem_of_mem_drop h)
  · unfold insR
    rw [List.append_assoc, List.pairwise_append]
    have h3 := h2
    rw [← List.take_append_drop (pl rs y.co) rs, List.pairwise_append] at h3
    refine ⟨h3.1, ?_, ?_⟩
    · rw [List.singleton_append, List.pairwise_cons]
      refine ⟨fun b hb => ?_, h3.2.1⟩
      obtain ⟨i, hi, rfl⟩ := List.mem_iff_getElem.1 hb
      have hm := List.mem_of_mem_drop hb
      rw [List.length_drop] at hi
      have h5 := hPl.2.2 (pl rs y.co + i) (by omega) (by omega)
      rw [at_lt (by omega)] at h5
      rw [List.getElem_drop] at hm ⊢
      have h6 := hne _ hm
      exact ⟨by omega, fun e => h6.2 e.symm⟩
    · intro a ha' b hb
      rw [List.singleton_append, List.mem_cons] at hb
      rcases hb with rfl | hb
      · obtain ⟨i, hi, rfl⟩ := List.mem_iff_getElem.1 ha'
        have hm := List.mem_of_mem_take ha'
        rw [List.length_take] at hi
        have h5 := hPl.2.1 i (by omega)
        rw [at_lt (by omega)] at h5
        rw [List.getElem_take] at hm ⊢
        exact ⟨h5, (hne _ hm).2⟩
      · exact h3.2.2 a ha' b hb
theorem fr_is {m : Mp} {cs : List Ct} (h : frO m cs = true) : goodB m cs = true ∧ 31 ≤ frI cs ∧ frI cs ≤ 99 ∧ frB cs (frI cs) = true ∧ frZ m cs = (frI cs : Nat) := by
  have hz : frZ m cs = (frI cs : Nat) := by unfold frZ; rw [h]; rfl
  unfold frO at h
  rw [Bool.and_eq_true] at h
  have hk := of_decide_eq_true h.2
  have h1 := List.findIdx_getElem (xs := List.range 100) (p := fun x => decide (31 ≤ x) && frB cs x) (w := by simpa [frI] using hk)
  simp only [List.getElem_range] at h1
  rw [Bool.and_eq_true] at h1
  exact ⟨h.1, of_decide_eq_true h1.1, by omega, h1.2, hz⟩
/-- What holds of a list whose first one gets a free code. -/
theorem free_rec {m : Mp} {cs : List Ct} (h : frO m cs = true) (h0 : 0 < cs.length) :
    rcO m cs (at_ cs 0).co (frZ m cs) = true ∧ goodB m (rcL m cs (at_ cs 0).co (frZ m cs)) = true ∧ (cfL m (rcL m cs (at_ cs 0).co (frZ m cs))).length ≤ (cfL m cs).length ∧
    ∀ z, z ∈ cfL m (rcL m cs (at_ cs 0).co (frZ m cs)) → z.a ≠ frZ m cs ∧ z.b ≠ frZ m cs := by
  obtain ⟨hg, h31, h99, hfr, hz⟩ := fr_is h
  rw [hz]
  generalize frI cs = f at *
  have hfr' := fr_yes.1 hfr
  obtain ⟨e, he⟩ : ∃ e : Ct, e = ⟨(f : Int), (at_ cs 0).ce⟩ := ⟨_, rfl⟩
  have hy : e.co = (f : Int) := by rw [he]
  have hce : e.ce = (at_ cs 0).ce := by rw [he]
  have hf0 : fiZ cs (at_ cs 0).co = ((0 : Nat) : Int) := fi_at h0 (fun j hj => absurd hj (Nat.not_lt_zero _)) rfl
  have hrs : rsT cs 0 = cs.drop 1 := by unfold rsT; rfl
  have hS : rcS cs (at_ cs 0).co (f : Int) = insR (cs.drop 1) e := by rw [← hy, ← hrs]; exact rc_at hf0 hce
  obtain ⟨g1, g2, g3, g4⟩ := good_L.1 hg
  have hcs : cs = at_ cs 0 :: cs.drop 1 := by
    rw [at_lt h0]
    have := List.drop_eq_getElem_cons h0
    rw [List.drop_zero] at this
    exact this
  have hmem : ∀ x, x ∈ cs.drop 1 → x ∈ cs := fun x hx => List.mem_of_mem_drop hx
  have hpw := g4
  rw [hcs, List.pairwise_cons] at hpw
  have hno : ∀ x, x ∈ cs.drop 1 → x.co ≠ (f : Int) ∧ lkN x.co.toNat f = false := fun x hx => by
    obtain ⟨i, hi, rfl⟩ := List.mem_iff_getElem.1 (hmem x hx)
    have := hfr' i hi
    rw [at_lt hi] at this
    unfold tkn at this
    rw [Bool.or_eq_false_iff] at this
    exact ⟨by simpa using this.1, this.2⟩
  have hgo : goodB m (insR (cs.drop 1) e) = true := by
    refine ins_good g1 (by rw [List.length_drop]; omega) (fun x hx => g3 x (hmem x hx)) hpw.2 ?_ (fun x hx => ?_) ?_
    · rw [hy, hce]
      exact ⟨⟨by omega, by omega⟩, (g3 _ (by rw [at_lt h0]; exact List.getElem_mem h0)).2⟩
    · rw [hy, hce]
      exact ⟨(hno x hx).1, fun e2 => (hpw.1 x hx).2 e2.symm⟩
    · rw [← hrs]; exact rs_asc (good_asc hg) h0
  have hO : rcO m cs (at_ cs 0).co (f : Int) = true := by unfold rcO; rw [hg, hS, hgo, hf0]; simp
  have hL : rcL m cs (at_ cs 0).co (f : Int) = insR (cs.drop 1) e := by unfold rcL; rw [hO, ← hS]; rfl
  have hprs : prs cfB (insR (cs.drop 1) e) = prs cfB (cs.drop 1) := by
    unfold insR
    refine prs_ins (fun z hz => ?_) _
    have := (hno z hz).2
    unfold cfB
    rw [hy]
    exact ⟨by rw [lkN_comm]; exact this, this⟩
  have hcf : cfL m (insR (cs.drop 1) e) = prs cfB (cs.drop 1) := by unfold cfL; rw [hgo, ← hprs, ← all_prs]; rfl
  have hcf0 : cfL m cs = prs cfB cs := by unfold cfL; rw [hg, ← all_prs]; rfl
  rw [hL, hcf, hcf0]
  refine ⟨hO, hgo, prs_tail cfB cs, fun z hz => ?_⟩
  obtain ⟨x, y, hx, hy', rfl⟩ := prs_mem hz
  exact ⟨(hno x hx).1, (hno y hy').1⟩
/-- More are close at a greater distance. -/
theorem close_mono {m : Mp} {cs : List Ct} {D : Int} (h : clO m cs D = true) : clO m cs (D + 1) = true ∧ (clL m cs D).length ≤ (clL m cs (D + 1)).length := by
  have h' := h
  unfold clO at h'
  rw [Bool.and_eq_true] at h'
  have h0 := of_decide_eq_true h'.2
  have h1 : clO m cs (D + 1) = true := by unfold clO; rw [h'.1, decide_eq_true (show 0 ≤ D + 1 by omega)]; rfl
  refine ⟨h1, ?_⟩
  unfold clL
  rw [h, h1, if_pos rfl, if_pos rfl, all_prs, all_prs]
  refine prs_mono (fun x y hxy => ?_) cs
  unfold clB at hxy ⊢
  have := of_decide_eq_true hxy
  exact decide_eq_true (by omega)

end Go.Proofs.Ytfpfnnindlfgfaa.CoZ

namespace Go.Proofs.Ytfpfnnindlfgfaa.CoU
open Go.RowKit Lb Cur IntS MapS CodM CoM CoC CoF CoR CoZ
open CoQ (clO clL cfL cl_len cf_len cl_impl cl_spec cf_impl cf_spec)
open CoE (frO frZ free_impl free_spec)
open CoN (nrB nrZ near_impl near_spec)
set_option linter.unusedSimpArgs false
set_option linter.unusedVariables false

/-- A map in its box, and a list of controls. -/
structure Cx (m : Mp) (a : Option Addr) (ca : Nat) (b : Option Addr) (cb B : Nat) (ad : Option Addr) (fs : List Ct) (wx : World) : Prop where
  x : Blk wx B 26 #[.int .i64 m.W, .int .i64 m.H, .slice a m.R.length ca, .slice b m.C.length cb]
  r : IRow wx a m.R
  c : IRow wx b m.C
  l : CtK.Row wx ad fs
section
variable {m : Mp} {a b ad : Option Addr} {ca cb B : Nat} {fs : List Ct} {w wx w' W : World}
theorem Cx.later (h : Cx m a ca b cb B ad fs wx) (hb : Below wx.heap.size wx w') : Cx m a ca b cb B ad fs w' := ⟨h.x.later hb, RowAt.below h.r hb, RowAt.below h.c hb, h.l.later hb⟩
theorem Cx.drew (h : Cx m a ca b cb B ad fs wx) : Cx m a ca b cb B ad fs wx.drew := h.later (Below.refl _ _).drew
theorem Cx.new (hr : IRow w a m.R) (hc : IRow w b m.C) (hl : CtK.Row w ad fs) : Cx m a ca b cb w.heap.size ad fs (w.alloc (.cells #[.int .i64 m.W, .int .i64 m.H, .slice a m.R.length ca, .slice b m.C.length cb] 26)) :=
  ⟨Blk.new _ _ _, RowAt.below hr ((Below.refl _ _).alloc (Nat.le_refl _) _), RowAt.below hc ((Below.refl _ _).alloc (Nat.le_refl _) _), hl.later ((Below.refl _ _).alloc (Nat.le_refl _) _)⟩
theorem Cx.rd (h : Cx m a ca b cb B ad fs wx) : Rd m fs a b ad wx := ⟨h.r, h.c, h.l⟩
theorem Cx.rd2 {ad' : Option Addr} {gs : List Ct} (h : Cx m a ca b cb B ad fs wx) (hl : CtK.Row wx ad' gs) : Rd m gs a b ad' wx := ⟨h.r, h.c, hl⟩
theorem nxt (h : Below W.heap.size W w) (hb : Below w.heap.size w w') : Below W.heap.size W w' := h.trans (hb.mono h.size)
theorem al (h : Below W.heap.size W w) (o : Obj) : Below W.heap.size W (w.alloc o) := h.alloc h.size o
end

set_option maxRecDepth 100000 in
set_option maxHeartbeats 16000000 in
theorem law_any (W : World) (a : Option Addr) (n cap : Nat) (xs : Nat → Nat) (hc : Bytes W a n xs) :
    Calls Try.prog 5 #[.slice a n cap] W fun e w' => e = .returned (.bool true) ∧ Below W.heap.size W w' := by
  by_cases hbig : 65536 < n
  · have hbi : (65536 : Int) < (n : Int) := by omega
    go_enter Try.func5, Try.ntmps5
    go_wp2_with (go_at_call 15; go_in)
    go_ret
    exact ⟨rfl, Below.refl _ _⟩
  have HCo := Lib.hid (show ∀ w' : World, Below W.heap.size W w' → Bytes w' a n xs from fun w' h => hc.below h)
  have HB := Lib.hid (Below.refl W.heap.size W)
  have hbi : ¬ (65536 : Int) < (n : Int) := by omega
  clear hc hbig
  go_enter Try.func5, Try.ntmps5
  go_wp2_with (go_at_call 15; go_in)
  refine (CtDx.drawFreeCode a n cap xs _ (HCo.out _ HB.out)).mono ?_
  rintro e w1 ⟨v, lv, m1, fs1, rfl, ho, hL, hR1, hC1, hF1, hb⟩
  obtain ⟨ar1, cr1, ac1, cc1, rfl, h1, h2, -⟩ := ho
  obtain ⟨ad1, cp1, rfl, hl, -⟩ := hL.slice
  have hcp1 := hL.le
  replace HB := Lib.hid (nxt HB.out hb)
  have hA : Below w1.heap.size w1 (w1.alloc (.cells #[.int .i64 m1.W, .int .i64 m1.H, .slice ar1 m1.R.length cr1, .slice ac1 m1.C.length cc1] 26)) := (Below.refl _ _).alloc (Nat.le_refl _) _
  replace HB := Lib.hid (nxt HB.out hA)
  obtain ⟨B1, hB1⟩ : ∃ B, w1.heap.size = B := ⟨_, rfl⟩
  have M1 := Lib.hid (Cx.new (ca := cr1) (cb := cc1) (OwnI.row h1) (OwnI.row h2) hl)
  rw [hB1] at M1
  clear hA hb h1 h2 hl hL
  have hRm1 : m1.R.length ≤ maxLen := by unfold maxLen; omega
  have hCm1 : m1.C.length ≤ maxLen := by unfold maxLen; omega
  have hfl1 : fs1.length ≤ 1048576 := by omega
  obtain ⟨z1, hz1⟩ : ∃ x, frZ m1 fs1 = x := ⟨_, rfl⟩
  obtain ⟨o1, ho1⟩ : ∃ x, frO m1 fs1 = x := ⟨_, rfl⟩
  obtain ⟨u1, hu1⟩ : ∃ x, cfL m1 fs1 = x := ⟨_, rfl⟩
  obtain ⟨g1, hg1⟩ : ∃ x, goodB m1 fs1 = x := ⟨_, rfl⟩
  have hul1 : u1.length ≤ 100 := by rw [← hu1]; exact cf_len m1 fs1
  have cI := Lib.hid (fun w h => hz1 ▸ ho1 ▸ free_impl m1 fs1 hfl1 hRm1 hCm1 ar1 ac1 cr1 cc1 ad1 cp1 w h)
  have cS := Lib.hid (fun w h => hz1 ▸ ho1 ▸ free_spec m1 fs1 hfl1 hRm1 hCm1 ar1 ac1 cr1 cc1 ad1 cp1 w h)
  have dI := Lib.hid (fun w h => hu1 ▸ hg1 ▸ cf_impl m1 fs1 hfl1 hRm1 hCm1 ar1 ac1 cr1 cc1 ad1 cp1 w hcp1 h)
  have dS := Lib.hid (fun w h => hu1 ▸ hg1 ▸ cf_spec m1 fs1 hfl1 hRm1 hCm1 ar1 ac1 cr1 cc1 ad1 cp1 w h)
  have HZ1 := Lib.hid hz1
  have HO1 := Lib.hid ho1
  have HU1 := Lib.hid hu1
  clear hz1 ho1 hu1 hg1
  obtain ⟨p0, p1, p2, p3, -⟩ := MapS.Blk.four M1.out.x
  go_wp2_with fail
  refine (cI.out _ M1.out.rd).mono ?_
  rintro e w1 ⟨rfl, hb⟩
  clear p0 p1 p2 p3
  replace HB := Lib.hid (nxt HB.out hb)
  replace M1 := Lib.hid (M1.out.later hb)
  clear hb
  obtain ⟨p0, p1, p2, p3, -⟩ := MapS.Blk.four M1.out.x
  go_wp2_with fail
  refine (cS.out _ M1.out.rd).mono ?_
  rintro e w1 ⟨rfl, hb⟩
  clear p0 p1 p2 p3
  replace HB := Lib.hid (nxt HB.out hb)
  replace M1 := Lib.hid (M1.out.later hb)
  clear hb
  have e9 : (z1 != z1) = false := by simp
  have e10 : (o1 != o1) = false := by simp
  have e11 : (g1 != g1) = false := by simp
  obtain ⟨p0, p1, p2, p3, -⟩ := MapS.Blk.four M1.out.x
  go_wp2_with fail
  refine (dI.out _ M1.out.rd).mono ?_
  rintro e w1 ⟨v, rfl, ho, hb⟩
  clear p0 p1 p2 p3
  replace HB := Lib.hid (nxt HB.out hb)
  replace M1 := Lib.hid (M1.out.later hb)
  obtain ⟨i1a, i1c, rfl, hrr, -⟩ := ho.slice
  have i1h := Lib.hid ho.le
  have i1R := Lib.hid hrr
  clear ho hrr
  clear hb
  obtain ⟨p0, p1, p2, p3, -⟩ := MapS.Blk.four M1.out.x
  go_wp2_with fail
  refine (dS.out _ M1.out.rd).mono ?_
  rintro e w1 ⟨v, rfl, ho, hb⟩
  clear p0 p1 p2 p3
  replace HB := Lib.hid (nxt HB.out hb)
  replace M1 := Lib.hid (M1.out.later hb)
  replace i1R := Lib.hid (i1R.out.later hb)
  obtain ⟨s1a, s1c, rfl, hrr, -⟩ := ho.slice
  have s1h := Lib.hid ho.le
  have s1R := Lib.hid hrr
  clear ho hrr
  clear hb
  clear cI cS dI dS
  go_wp2_with fail
  refine (CoX.prs_same _ _ _ _ u1 _ i1R.out s1R.out (by omega)).mono ?_
  rintro e w1 ⟨rfl, hb⟩
  replace HB := Lib.hid (nxt HB.out hb)
  replace M1 := Lib.hid (M1.out.later hb)
  replace i1R := Lib.hid (i1R.out.later hb)
  replace s1R := Lib.hid (s1R.out.later hb)
  clear hb
  clear s1R
  clear i1R
  cases o1 with
  | false =>
    clear HZ1 HO1 HU1
    clear M1
    go_wp2_with fail
    refine (CtDx.drawCloseControls a n cap xs _ (HCo.out _ HB.out)).mono ?_
    rintro e w1 ⟨v, lv, m2, fs2, d2, rfl, hd2, ho, hL, hR2, hC2, hF2, hb⟩
    obtain ⟨ar2, cr2, ac2, cc2, rfl, h1, h2, -⟩ := ho
    obtain ⟨ad2, cp2, rfl, hl, -⟩ := hL.slice
    have hcp2 := hL.le
    replace HB := Lib.hid (nxt HB.out hb)
    have hA : Below w1.heap.size w1 (w1.alloc (.cells #[.int .i64 m2.W, .int .i64 m2.H, .slice ar2 m2.R.length cr2, .slice ac2 m2.C.length cc2] 26)) := (Below.refl _ _).alloc (Nat.le_refl _) _
    replace HB := Lib.hid (nxt HB.out hA)
    have M2 := Lib.hid (Cx.new (ca := cr2) (cb := cc2) (OwnI.row h1) (OwnI.row h2) hl)
    clear hA hb h1 h2 hl hL
    have hRm2 : m2.R.length ≤ maxLen := by unfold maxLen; omega
    have hCm2 : m2.C.length ≤ maxLen := by unfold maxLen; omega
    have hfl2 : fs2.length ≤ 1048576 := by omega
    have hD1 : -1 ≤ d2 := hd2.1
    have hD2 : d2 ≤ 5 := hd2.2
    clear hd2
    obtain ⟨u2, hu2⟩ : ∃ x, clL m2 fs2 d2 = x := ⟨_, rfl⟩
    obtain ⟨o2, ho2⟩ : ∃ x, clO m2 fs2 d2 = x := ⟨_, rfl⟩
    have hul2 : u2.length ≤ 100 := by rw [← hu2]; exact cl_len m2 fs2 d2
    have cI := Lib.hid (fun w h => hu2 ▸ ho2 ▸ cl_impl m2 fs2 hfl2 hRm2 hCm2 d2 ar2 ac2 cr2 cc2 ad2 cp2 w hcp2 h)
    have cS := Lib.hid (fun w h => hu2 ▸ ho2 ▸ cl_spec m2 fs2 hfl2 hRm2 hCm2 d2 ar2 ac2 cr2 cc2 ad2 cp2 w h)
    have HU2 := Lib.hid hu2
    have HO2 := Lib.hid ho2
    clear hu2 ho2
    obtain ⟨p0, p1, p2, p3, -⟩ := MapS.Blk.four M2.out.x
    go_wp2_with fail
    refine (cI.out _ M2.out.rd).mono ?_
    rintro e w1 ⟨v, rfl, ho, hb⟩
    clear p0 p1 p2 p3
    replace HB := Lib.hid (nxt HB.out hb)
    replace M2 := Lib.hid (M2.out.later hb)
    obtain ⟨i2a, i2c, rfl, hrr, -⟩ := ho.slice
    have i2h := Lib.hid ho.le
    have i2R := Lib.hid hrr
    clear ho hrr
    clear hb
    obtain ⟨p0, p1, p2, p3, -⟩ := MapS.Blk.four M2.out.x
    go_wp2_with fail
    refine (cS.out _ M2.out.rd).mono ?_
    rintro e w1 ⟨v, rfl, ho, hb⟩
    clear p0 p1 p2 p3
    replace HB := Lib.hid (nxt HB.out hb)
    replace M2 := Lib.hid (M2.out.later hb)
    replace i2R := Lib.hid (i2R.out.later hb)
    obtain ⟨s2a, s2c, rfl, hrr, -⟩ := ho.slice
    have s2h := Lib.hid ho.le
    have s2R := Lib.hid hrr
    clear ho hrr
    clear hb
    clear cI cS
    have e5 : (o2 != o2) = false := by simp
    go_wp2_with fail
    refine (CoX.prs_same _ _ _ _ u2 _ i2R.out s2R.out (by omega)).mono ?_
    rintro e w1 ⟨rfl, hb⟩
    replace HB := Lib.hid (nxt HB.out hb)
    replace M2 := Lib.hid (M2.out.later hb)
    replace i2R := Lib.hid (i2R.out.later hb)
    replace s2R := Lib.hid (s2R.out.later hb)
    clear hb
    clear s2R
    clear i2R
    cases o2 with
    | false =>
      clear HU2 HO2
      clear M2
      go_wp2_with fail
      refine (CtDw.drawNearestControl a n cap xs _ (HCo.out _ HB.out)).mono ?_
      rintro e w1 ⟨v, lv, m3, fs3, y3, rfl, -, ho, hL, hR3, hC3, hF3, hb⟩
      obtain ⟨ar3, cr3, ac3, cc3, rfl, h1, h2, -⟩ := ho
      obtain ⟨ad3, cp3, rfl, hl, -⟩ := hL.slice
      have hcp3 := hL.le
      replace HB := Lib.hid (nxt HB.out hb)
      have hA : Below w1.heap.size w1 (w1.alloc (.cells #[.int .i64 m3.W, .int .i64 m3.H, .slice ar3 m3.R.length cr3, .slice ac3 m3.C.length cc3] 26)) := (Below.refl _ _).alloc (Nat.le_refl _) _
      replace HB := Lib.hid (nxt HB.out hA)
      have M3 := Lib.hid (Cx.new (ca := cr3) (cb := cc3) (OwnI.row h1) (OwnI.row h2) hl)
      clear hA hb h1 h2 hl hL
      have hRm3 : m3.R.length ≤ maxLen := by unfold maxLen; omega
      have hCm3 : m3.C.length ≤ maxLen := by unfold maxLen; omega
      have hfl3 : fs3.length ≤ 1048576 := by omega
      obtain ⟨g3, hg3⟩ : ∃ x, nrZ m3 fs3 y3 = x := ⟨_, rfl⟩
      obtain ⟨q3, hq3⟩ : ∃ x, nrB m3 fs3 y3 = x := ⟨_, rfl⟩
      have cI := Lib.hid (fun w h => hg3 ▸ hq3 ▸ near_impl m3 fs3 hfl3 hRm3 hCm3 y3 ar3 ac3 cr3 cc3 ad3 cp3 w h)
      have cS := Lib.hid (fun w h => hg3 ▸ hq3 ▸ near_spec m3 fs3 hfl3 hRm3 hCm3 y3 ar3 ac3 cr3 cc3 ad3 cp3 w h)
      clear hg3 hq3
      obtain ⟨p0, p1, p2, p3, -⟩ := MapS.Blk.four M3.out.x
      go_wp2_with fail
      refine (cI.out _ M3.out.rd).mono ?_
      rintro e w1 ⟨rfl, hb⟩
      clear p0 p1 p2 p3
      replace HB := Lib.hid (nxt HB.out hb)
      replace M3 := Lib.hid (M3.out.later hb)
      clear hb
      obtain ⟨p0, p1, p2, p3, -⟩ := MapS.Blk.four M3.out.x
      go_wp2_with fail
      refine (cS.out _ M3.out.rd).mono ?_
      rintro e w1 ⟨rfl, hb⟩
      clear p0 p1 p2 p3
      replace HB := Lib.hid (nxt HB.out hb)
      replace M3 := Lib.hid (M3.out.later hb)
      clear hb
      have e1 : (g3 == g3) = true := by simp
      have e2 : (q3 == q3) = true := by simp
      go_wp2
      go_ret
      exact ⟨rfl, HB.out⟩
    | true =>
      obtain ⟨k1, k2⟩ := close_mono HO2.out
      rw [HU2.out] at k2
      obtain ⟨t2, ht2⟩ : ∃ x, clL m2 fs2 (d2 + 1) = x := ⟨_, rfl⟩
      rw [ht2] at k2
      have htl2 : t2.length ≤ 100 := by rw [← ht2]; exact cl_len m2 fs2 (d2 + 1)
      have cA := Lib.hid (fun w h => ht2 ▸ k1 ▸ cl_impl m2 fs2 hfl2 hRm2 hCm2 (d2 + 1) ar2 ac2 cr2 cc2 ad2 cp2 w hcp2 h)
      have e6 : decide ((t2.length : Int) < (u2.length : Int)) = false := decide_eq_false (by omega)
      have e7 : decide (t2.length < u2.length) = false := decide_eq_false (by omega)
      have e8 : ¬ t2.length < u2.length := by omega
      clear ht2 k1 k2 HU2 HO2
      obtain ⟨p0, p1, p2, p3, -⟩ := MapS.Blk.four M2.out.x
      go_wp2_with fail
      refine (cA.out _ M2.out.rd).mono ?_
      rintro e w1 ⟨v, rfl, ho, hb⟩
      clear p0 p1 p2 p3
      replace HB := Lib.hid (nxt HB.out hb)
      replace M2 := Lib.hid (M2.out.later hb)
      obtain ⟨b2a, b2c, rfl, hrr, -⟩ := ho.slice
      have b2h := Lib.hid ho.le
      have b2R := Lib.hid hrr
      clear ho hrr
      clear hb
      clear cA
      clear b2R
      clear M2
      go_wp2_with fail
      refine (CtDw.drawNearestControl a n cap xs _ (HCo.out _ HB.out)).mono ?_
      rintro e w1 ⟨v, lv, m3, fs3, y3, rfl, -, ho, hL, hR3, hC3, hF3, hb⟩
      obtain ⟨ar3, cr3, ac3, cc3, rfl, h1, h2, -⟩ := ho
      obtain ⟨ad3, cp3, rfl, hl, -⟩ := hL.slice
      have hcp3 := hL.le
      replace HB := Lib.hid (nxt HB.out hb)
      have hA : Below w1.heap.size w1 (w1.alloc (.cells #[.int .i64 m3.W, .int .i64 m3.H, .slice ar3 m3.R.length cr3, .slice ac3 m3.C.length cc3] 26)) := (Below.refl _ _).alloc (Nat.le_refl _) _
      replace HB := Lib.hid (nxt HB.out hA)
      have M3 := Lib.hid (Cx.new (ca := cr3) (cb := cc3) (OwnI.row h1) (OwnI.row h2) hl)
      clear hA hb h1 h2 hl hL
      have hRm3 : m3.R.length ≤ maxLen := by unfold maxLen; omega
      have hCm3 : m3.C.length ≤ maxLen := by unfold maxLen; omega
      have hfl3 : fs3.length ≤ 1048576 := by omega
      obtain ⟨g3, hg3⟩ : ∃ x, nrZ m3 fs3 y3 = x := ⟨_, rfl⟩
      obtain ⟨q3, hq3⟩ : ∃ x, nrB m3 fs3 y3 = x := ⟨_, rfl⟩
      have cI := Lib.hid (fun w h => hg3 ▸ hq3 ▸ near_impl m3 fs3 hfl3 hRm3 hCm3 y3 ar3 ac3 cr3 cc3 ad3 cp3 w h)
      have cS := Lib.hid (fun w h => hg3 ▸ hq3 ▸ near_spec m3 fs3 hfl3 hRm3 hCm3 y3 ar3 ac3 cr3 cc3 ad3 cp3 w h)
      clear hg3 hq3
      obtain ⟨p0, p1, p2, p3, -⟩ := MapS.Blk.four M3.out.x
      go_wp2_with fail
      refine (cI.out _ M3.out.rd).mono ?_
      rintro e w1 ⟨rfl, hb⟩
      clear p0 p1 p2 p3
      replace HB := Lib.hid (nxt HB.out hb)
      replace M3 := Lib.hid (M3.out.later hb)
      clear hb
      obtain ⟨p0, p1, p2, p3, -⟩ := MapS.Blk.four M3.out.x
      go_wp2_with fail
      refine (cS.out _ M3.out.rd).mono ?_
      rintro e w1 ⟨rfl, hb⟩
      clear p0 p1 p2 p3
      replace HB := Lib.hid (nxt HB.out hb)
      replace M3 := Lib.hid (M3.out.later hb)
      clear hb
      have e1 : (g3 == g3) = true := by simp
      have e2 : (q3 == q3) = true := by simp
      go_wp2
      go_ret
      exact ⟨rfl, HB.out⟩
  | true =>
    by_cases h0 : 0 < fs1.length
    case neg =>
      have hd : decide (0 < (fs1.length : Int)) = false := decide_eq_false (by omega)
      have hd3 : fs1.length = 0 := by omega
      clear HZ1 HO1 HU1
      clear M1
      go_wp2_with fail
      refine (CtDx.drawCloseControls a n cap xs _ (HCo.out _ HB.out)).mono ?_
      rintro e w1 ⟨v, lv, m2, fs2, d2, rfl, hd2, ho, hL, hR2, hC2, hF2, hb⟩
      obtain ⟨ar2, cr2, ac2, cc2, rfl, h1, h2, -⟩ := ho
      obtain ⟨ad2, cp2, rfl, hl, -⟩ := hL.slice
      have hcp2 := hL.le
      replace HB := Lib.hid (nxt HB.out hb)
      have hA : Below w1.heap.size w1 (w1.alloc (.cells #[.int .i64 m2.W, .int .i64 m2.H, .slice ar2 m2.R.length cr2, .slice ac2 m2.C.length cc2] 26)) := (Below.refl _ _).alloc (Nat.le_refl _) _
      replace HB := Lib.hid (nxt HB.out hA)
      have M2 := Lib.hid (Cx.new (ca := cr2) (cb := cc2) (OwnI.row h1) (OwnI.row h2) hl)
      clear hA hb h1 h2 hl hL
      have hRm2 : m2.R.length ≤ maxLen := by unfold maxLen; omega
      have hCm2 : m2.C.length ≤ maxLen := by unfold maxLen; omega
      have hfl2 : fs2.length ≤ 1048576 := by omega
      have hD1 : -1 ≤ d2 := hd2.1
      have hD2 : d2 ≤ 5 := hd2.2
      clear hd2
      obtain ⟨u2, hu2⟩ : ∃ x, clL m2 fs2 d2 = x := ⟨_, rfl⟩
      obtain ⟨o2, ho2⟩ : ∃ x, clO m2 fs2 d2 = x := ⟨_, rfl⟩
      have hul2 : u2.length ≤ 100 := by rw [← hu2]; exact cl_len m2 fs2 d2
      have cI := Lib.hid (fun w h => hu2 ▸ ho2 ▸ cl_impl m2 fs2 hfl2 hRm2 hCm2 d2 ar2 ac2 cr2 cc2 ad2 cp2 w hcp2 h)
      have cS := Lib.hid (fun w h => hu2 ▸ ho2 ▸ cl_spec m2 fs2 hfl2 hRm2 hCm2 d2 ar2 ac2 cr2 cc2 ad2 cp2 w h)
      have HU2 := Lib.hid hu2
      have HO2 := Lib.hid ho2
      clear hu2 ho2
      obtain ⟨p0, p1, p2, p3, -⟩ := MapS.Blk.four M2.out.x
      go_wp2_with fail
      refine (cI.out _ M2.out.rd).mono ?_
      rintro e w1 ⟨v, rfl, ho, hb⟩
      clear p0 p1 p2 p3
      replace HB := Lib.hid (nxt HB.out hb)
      replace M2 := Lib.hid (M2.out.later hb)
      obtain ⟨i2a, i2c, rfl, hrr, -⟩ := ho.slice
      have i2h := Lib.hid ho.le
      have i2R := Lib.hid hrr
      clear ho hrr
      clear hb
      obtain ⟨p0, p1, p2, p3, -⟩ := MapS.Blk.four M2.out.x
      go_wp2_with fail
      refine (cS.out _ M2.out.rd).mono ?_
      rintro e w1 ⟨v, rfl, ho, hb⟩
      clear p0 p1 p2 p3
      replace HB := Lib.hid (nxt HB.out hb)
      replace M2 := Lib.hid (M2.out.later hb)
      replace i2R := Lib.hid (i2R.out.later hb)
      obtain ⟨s2a, s2c, rfl, hrr, -⟩ := ho.slice
      have s2h := Lib.hid ho.le
      have s2R := Lib.hid hrr
      clear ho hrr
      clear hb
      clear cI cS
      have e5 : (o2 != o2) = false := by simp
      go_wp2_with fail
      refine (CoX.prs_same _ _ _ _ u2 _ i2R.out s2R.out (by omega)).mono ?_
      rintro e w1 ⟨rfl, hb⟩
      replace HB := Lib.hid (nxt HB.out hb)
      replace M2 := Lib.hid (M2.out.later hb)
      replace i2R := Lib.hid (i2R.out.later hb)
      replace s2R := Lib.hid (s2R.out.later hb)
      clear hb
      clear s2R
      clear i2R
      cases o2 with
      | false =>
        clear HU2 HO2
        clear M2
        go_wp2_with fail
        refine (CtDw.drawNearestControl a n cap xs _ (HCo.out _ HB.out)).mono ?_
        rintro e w1 ⟨v, lv, m3, fs3, y3, rfl, -, ho, hL, hR3, hC3, hF3, hb⟩
        obtain ⟨ar3, cr3, ac3, cc3, rfl, h1, h2, -⟩ := ho
        obtain ⟨ad3, cp3, rfl, hl, -⟩ := hL.slice
        have hcp3 := hL.le
        replace HB := Lib.hid (nxt HB.out hb)
        have hA : Below w1.heap.size w1 (w1.alloc (.cells #[.int .i64 m3.W, .int .i64 m3.H, .slice ar3 m3.R.length cr3, .slice ac3 m3.C.length cc3] 26)) := (Below.refl _ _).alloc (Nat.le_refl _) _
        replace HB := Lib.hid (nxt HB.out hA)
        have M3 := Lib.hid (Cx.new (ca := cr3) (cb := cc3) (OwnI.row h1) (OwnI.row h2) hl)
        clear hA hb h1 h2 hl hL
        have hRm3 : m3.R.length ≤ maxLen := by unfold maxLen; omega
        have hCm3 : m3.C.length ≤ maxLen := by unfold maxLen; omega
        have hfl3 : fs3.length ≤ 1048576 := by omega
        obtain ⟨g3, hg3⟩ : ∃ x, nrZ m3 fs3 y3 = x := ⟨_, rfl⟩
        obtain ⟨q3, hq3⟩ : ∃ x, nrB m3 fs3 y3 = x := ⟨_, rfl⟩
        have cI := Lib.hid (fun w h => hg3 ▸ hq3 ▸ near_impl m3 fs3 hfl3 hRm3 hCm3 y3 ar3 ac3 cr3 cc3 ad3 cp3 w h)
        have cS := Lib.hid (fun w h => hg3 ▸ hq3 ▸ near_spec m3 fs3 hfl3 hRm3 hCm3 y3 ar3 ac3 cr3 cc3 ad3 cp3 w h)
        clear hg3 hq3
        obtain ⟨p0, p1, p2, p3, -⟩ := MapS.Blk.four M3.out.x
        go_wp2_with fail
        refine (cI.out _ M3.out.rd).mono ?_
        rintro e w1 ⟨rfl, hb⟩
        clear p0 p1 p2 p3
        replace HB := Lib.hid (nxt HB.out hb)
        replace M3 := Lib.hid (M3.out.later hb)
        clear hb
        obtain ⟨p0, p1, p2, p3, -⟩ := MapS.Blk.four M3.out.x
        go_wp2_with fail
        refine (cS.out _ M3.out.rd).mono ?_
        rintro e w1 ⟨rfl, hb⟩
        clear p0 p1 p2 p3
        replace HB := Lib.hid (nxt HB.out hb)
        replace M3 := Lib.hid (M3.out.later hb)
        clear hb
        have e1 : (g3 == g3) = true := by simp
        have e2 : (q3 == q3) = true := by simp
        go_wp2
        go_ret
        exact ⟨rfl, HB.out⟩
      | true =>
        obtain ⟨k1, k2⟩ := close_mono HO2.out
        rw [HU2.out] at k2
        obtain ⟨t2, ht2⟩ : ∃ x, clL m2 fs2 (d2 + 1) = x := ⟨_, rfl⟩
        rw [ht2] at k2
        have htl2 : t2.length ≤ 100 := by rw [← ht2]; exact cl_len m2 fs2 (d2 + 1)
        have cA := Lib.hid (fun w h => ht2 ▸ k1 ▸ cl_impl m2 fs2 hfl2 hRm2 hCm2 (d2 + 1) ar2 ac2 cr2 cc2 ad2 cp2 w hcp2 h)
        have e6 : decide ((t2.length : Int) < (u2.length : Int)) = false := decide_eq_false (by omega)
        have e7 : decide (t2.length < u2.length) = false := decide_eq_false (by omega)
        have e8 : ¬ t2.length < u2.length := by omega
        clear ht2 k1 k2 HU2 HO2
        obtain ⟨p0, p1, p2, p3, -⟩ := MapS.Blk.four M2.out.x
        go_wp2_with fail
        refine (cA.out _ M2.out.rd).mono ?_
        rintro e w1 ⟨v, rfl, ho, hb⟩
        clear p0 p1 p2 p3
        replace HB := Lib.hid (nxt HB.out hb)
        replace M2 := Lib.hid (M2.out.later hb)
        obtain ⟨b2a, b2c, rfl, hrr, -⟩ := ho.slice
        have b2h := Lib.hid ho.le
        have b2R := Lib.hid hrr
        clear ho hrr
        clear hb
        clear cA
        clear b2R
        clear M2
        go_wp2_with fail
        refine (CtDw.drawNearestControl a n cap xs _ (HCo.out _ HB.out)).mono ?_
        rintro e w1 ⟨v, lv, m3, fs3, y3, rfl, -, ho, hL, hR3, hC3, hF3, hb⟩
        obtain ⟨ar3, cr3, ac3, cc3, rfl, h1, h2, -⟩ := ho
        obtain ⟨ad3, cp3, rfl, hl, -⟩ := hL.slice
        have hcp3 := hL.le
        replace HB := Lib.hid (nxt HB.out hb)
        have hA : Below w1.heap.size w1 (w1.alloc (.cells #[.int .i64 m3.W, .int .i64 m3.H, .slice ar3 m3.R.length cr3, .slice ac3 m3.C.length cc3] 26)) := (Below.refl _ _).alloc (Nat.le_refl _) _
        replace HB := Lib.hid (nxt HB.out hA)
        have M3 := Lib.hid (Cx.new (ca := cr3) (cb := cc3) (OwnI.row h1) (OwnI.row h2) hl)
        clear hA hb h1 h2 hl hL
        have hRm3 : m3.R.length ≤ maxLen := by unfold maxLen; omega
        have hCm3 : m3.C.length ≤ maxLen := by unfold maxLen; omega
        have hfl3 : fs3.length ≤ 1048576 := by omega
        obtain ⟨g3, hg3⟩ : ∃ x, nrZ m3 fs3 y3 = x := ⟨_, rfl⟩
        obtain ⟨q3, hq3⟩ : ∃ x, nrB m3 fs3 y3 = x := ⟨_, rfl⟩
        have cI := Lib.hid (fun w h => hg3 ▸ hq3 ▸ near_impl m3 fs3 hfl3 hRm3 hCm3 y3 ar3 ac3 cr3 cc3 ad3 cp3 w h)
        have cS := Lib.hid (fun w h => hg3 ▸ hq3 ▸ near_spec m3 fs3 hfl3 hRm3 hCm3 y3 ar3 ac3 cr3 cc3 ad3 cp3 w h)
        clear hg3 hq3
        obtain ⟨p0, p1, p2, p3, -⟩ := MapS.Blk.four M3.out.x
        go_wp2_with fail
        refine (cI.out _ M3.out.rd).mono ?_
        rintro e w1 ⟨rfl, hb⟩
        clear p0 p1 p2 p3
        replace HB := Lib.hid (nxt HB.out hb)
        replace M3 := Lib.hid (M3.out.later hb)
        clear hb
        obtain ⟨p0, p1, p2, p3, -⟩ := MapS.Blk.four M3.out.x
        go_wp2_with fail
        refine (cS.out _ M3.out.rd).mono ?_
        rintro e w1 ⟨rfl, hb⟩
        clear p0 p1 p2 p3
        replace HB := Lib.hid (nxt HB.out hb)
        replace M3 := Lib.hid (M3.out.later hb)
        clear hb
        have e1 : (g3 == g3) = true := by simp
        have e2 : (q3 == q3) = true := by simp
        go_wp2
        go_ret
        exact ⟨rfl, HB.out⟩
    have hd : decide (0 < (fs1.length : Int)) = true := decide_eq_true (by omega)
    obtain ⟨k1, k2, k3, k4⟩ := free_rec HO1.out h0
    rw [HZ1.out] at k1 k2 k3 k4
    rw [HU1.out] at k3
    obtain ⟨c0, hc0⟩ : ∃ c, (CtK.at_ fs1 0).co = c := ⟨_, rfl⟩
    rw [hc0] at k1 k2 k3 k4
    obtain ⟨t1, ht1⟩ : ∃ t, rcL m1 fs1 c0 z1 = t := ⟨_, rfl⟩
    have htl1 : t1.length ≤ 10 := by rw [← ht1]; exact rc_len m1 fs1 c0 z1
    rw [ht1] at k2 k3 k4
    obtain ⟨n1, hn1⟩ : ∃ t, cfL m1 t1 = t := ⟨_, rfl⟩
    have hnl1 : n1.length ≤ 100 := by rw [← hn1]; exact cf_len m1 t1
    rw [hn1] at k3 k4
    have cA := Lib.hid (fun w h => ht1 ▸ k1 ▸ recode_impl m1 fs1 hfl1 hRm1 hCm1 c0 z1 ar1 ac1 cr1 cc1 ad1 cp1 w hcp1 h)
    have cB := Lib.hid (fun (ad : Option Addr) (cp : Nat) w hc h => hn1 ▸ k2 ▸ cf_impl m1 t1 (by omega) hRm1 hCm1 ar1 ac1 cr1 cc1 ad cp w hc h)
    have K4 := Lib.hid k4
    have e12 : decide ((u1.length : Int) < (n1.length : Int)) = false := decide_eq_false (by omega)
    have e13 : decide (u1.length < n1.length) = false := decide_eq_false (by omega)
    have e14 : ¬ u1.length < n1.length := by omega
    have HC0 := Lib.hid hc0
    clear ht1 hn1 k1 k2 k3 k4 HZ1 HO1 HU1 hc0
    go_upto_region 13 with (fail)
    try rw [hB1]
    obtain ⟨b0, off0, hadr, y0, -⟩ := M1.out.l.cells h0
    subst hadr
    rw [HC0.out, Nat.zero_mul, Nat.add_zero] at y0
    obtain ⟨p0, p1, p2, p3, -⟩ := MapS.Blk.four M1.out.x
    have hlen1 : (0 : Int) < (fs1.length : Int) := by omega
    have hlen2 : ¬ fs1.length = 0 := by omega
    refine wp_region_noPanic ?_
    refine wp_region_held_drew (S := (fun Wx : World => Wx.cell? ⟨b0, off0, none⟩ = some (.int .i64 c0) ∧ Wx.cell? ⟨B1, 0, none⟩ = some (.int .i64 m1.W) ∧ Wx.cell? ⟨B1, 1, none⟩ = some (.int .i64 m1.H) ∧ Wx.cell? ⟨B1, 2, none⟩ = some (.slice ar1 m1.R.length cr1) ∧ Wx.cell? ⟨B1, 3, none⟩ = some (.slice ac1 m1.C.length cc1))) (by kernel_rfl) ⟨y0, p0, p1, p2, p3⟩ (fun hHeld => ?_)
    replace HB := Lib.hid (show Below W.heap.size W (World.drew _) from HB.out.drew)
    replace M1 := Lib.hid (M1.out.drew)
    refine wpAnyH_take (i := 0) (oi := _) (v := ?_) rfl (by kernel_rfl) (by kernel_rfl) (by kernel_rfl) (fun _ _ _ h => h) (Or.inl ⟨by rfl, ?_⟩) (by assumption) ?_; rotate_left; focus (intro W hSw; (try dsimp only at hSw); go_simp; (first | done | with_reducible rfl))
    (try simp only [List.getElem_toArray, List.getElem_cons_succ, List.getElem_cons_zero, Act.put, List.setIfInBounds_toArray, List.set_cons_zero, List.set_cons_succ])
    refine wpAnyH_take (i := 1) (oi := _) (v := ?_) rfl (by kernel_rfl) (by kernel_rfl) (by kernel_rfl) (fun _ _ _ h => h) (Or.inl ⟨by rfl, ?_⟩) (by assumption) ?_; rotate_left; focus (intro W hSw; (try dsimp only at hSw); go_simp; (first | done | with_reducible rfl))
    (try simp only [List.getElem_toArray, List.getElem_cons_succ, List.getElem_cons_zero, Act.put, List.setIfInBounds_toArray, List.set_cons_zero, List.set_cons_succ])
    refine wpAnyH_take (i := 2) (oi := _) (v := ?_) rfl (by kernel_rfl) (by kernel_rfl) (by kernel_rfl) (fun _ _ _ h => h) (Or.inl ⟨by rfl, ?_⟩) (by assumption) ?_; rotate_left; focus (intro W hSw; (try dsimp only at hSw); go_simp; (first | done | with_reducible rfl))
    (try simp only [List.getElem_toArray, List.getElem_cons_succ, List.getElem_cons_zero, Act.put, List.setIfInBounds_toArray, List.set_cons_zero, List.set_cons_succ])
    refine wpAnyH_take (i := 3) (oi := _) (v := ?_) rfl (by kernel_rfl) (by kernel_rfl) (by kernel_rfl) (fun _ _ _ h => h) (Or.inl ⟨by rfl, ?_⟩) (by assumption) ?_; rotate_left; focus (intro W hSw; (try dsimp only at hSw); go_simp; (first | done | with_reducible rfl))
    (try simp only [List.getElem_toArray, List.getElem_cons_succ, List.getElem_cons_zero, Act.put, List.setIfInBounds_toArray, List.set_cons_zero, List.set_cons_succ])
    refine wpAnyH_take (i := 4) (oi := _) (v := ?_) rfl (by kernel_rfl) (by kernel_rfl) (by kernel_rfl) (fun _ _ _ h => h) (Or.inl ⟨by rfl, ?_⟩) (by assumption) ?_; rotate_left; focus (intro W hSw; (try dsimp only at hSw); go_simp; (first | done | with_reducible rfl))
    (try simp only [List.getElem_toArray, List.getElem_cons_succ, List.getElem_cons_zero, Act.put, List.setIfInBounds_toArray, List.set_cons_zero, List.set_cons_succ])
    refine wpAnyH_take (i := 5) (oi := _) (v := ?_) rfl (by kernel_rfl) (by kernel_rfl) (by kernel_rfl) (fun _ _ _ h => h) (Or.inl ⟨by rfl, ?_⟩) (by assumption) ?_; rotate_left; focus (intro W hSw; (try dsimp only at hSw); go_simp; (first | done | with_reducible rfl))
    (try simp only [List.getElem_toArray, List.getElem_cons_succ, List.getElem_cons_zero, Act.put, List.setIfInBounds_toArray, List.set_cons_zero, List.set_cons_succ])
    refine wpAnyH_take (i := 6) (oi := _) (v := ?_) rfl (by kernel_rfl) (by kernel_rfl) (by kernel_rfl) (fun _ _ _ h => h) (Or.inl ⟨by rfl, ?_⟩) (by assumption) ?_; rotate_left; focus (intro W hSw; (try dsimp only at hSw); go_simp; (first | done | with_reducible rfl))
    (try simp only [List.getElem_toArray, List.getElem_cons_succ, List.getElem_cons_zero, Act.put, List.setIfInBounds_toArray, List.set_cons_zero, List.set_cons_succ])
    refine wpAnyH_ready (rs := [7]) (by kernel_rfl) (by simp) ?_
    refine AllReadyH.cons (o := _) rfl (fun K hK => ?_) AllReadyH.nil
    go_simp
    go_at_call 41
    refine (cA.out _ M1.out.rd).mono ?_
    rintro e w1 ⟨v, rfl, ho, hb⟩
    clear p0 p1 p2 p3
    replace y0 := (hb.cell (World.block_lt_of_cell? _ _ y0)).trans y0
    replace HB := Lib.hid (nxt HB.out hb)
    replace M1 := Lib.hid (M1.out.later hb)
    obtain ⟨ra, rc, rfl, hrr, -⟩ := ho.slice
    have rh := Lib.hid ho.le
    have rR := Lib.hid hrr
    clear ho hrr hb
    obtain ⟨p0, p1, p2, p3, -⟩ := MapS.Blk.four M1.out.x
    go_wp2_with fail
    refine hK.out _ _ ⟨y0, p0, p1, p2, p3⟩ (fun hsA => ?_)
    clear hK K hHeld p0 p1 p2 p3 y0
    refine wpAnyH_take (i := 8) (oi := _) (v := ?_) rfl (by kernel_rfl) (by kernel_rfl) (by kernel_rfl) (fun _ _ _ h => h) (Or.inl ⟨by rfl, ?_⟩) (by assumption) ?_; rotate_left; focus (intro W hSw; (try dsimp only at hSw); go_simp; (first | done | with_reducible rfl))
    (try simp only [List.getElem_toArray, List.getElem_cons_succ, List.getElem_cons_zero, Act.put, List.setIfInBounds_toArray, List.set_cons_zero, List.set_cons_succ])
    refine wpAnyH_take (i := 9) (oi := _) (v := ?_) rfl (by kernel_rfl) (by kernel_rfl) (by kernel_rfl) (fun _ _ _ h => h) (Or.inl ⟨by rfl, ?_⟩) (by assumption) ?_; rotate_left; focus (intro W hSw; (try dsimp only at hSw); go_simp; (first | done | with_reducible rfl))
    (try simp only [List.getElem_toArray, List.getElem_cons_succ, List.getElem_cons_zero, Act.put, List.setIfInBounds_toArray, List.set_cons_zero, List.set_cons_succ])
    refine wpAnyH_take (i := 10) (oi := _) (v := ?_) rfl (by kernel_rfl) (by kernel_rfl) (by kernel_rfl) (fun _ _ _ h => h) (Or.inl ⟨by rfl, ?_⟩) (by assumption) ?_; rotate_left; focus (intro W hSw; (try dsimp only at hSw); go_simp; (first | done | with_reducible rfl))
    (try simp only [List.getElem_toArray, List.getElem_cons_succ, List.getElem_cons_zero, Act.put, List.setIfInBounds_toArray, List.set_cons_zero, List.set_cons_succ])
    refine wpAnyH_take (i := 11) (oi := _) (v := ?_) rfl (by kernel_rfl) (by kernel_rfl) (by kernel_rfl) (fun _ _ _ h => h) (Or.inl ⟨by rfl, ?_⟩) (by assumption) ?_; rotate_left; focus (intro W hSw; (try dsimp only at hSw); go_simp; (first | done | with_reducible rfl))
    (try simp only [List.getElem_toArray, List.getElem_cons_succ, List.getElem_cons_zero, Act.put, List.setIfInBounds_toArray, List.set_cons_zero, List.set_cons_succ])
    refine wpAnyH_take (i := 12) (oi := _) (v := ?_) rfl (by kernel_rfl) (by kernel_rfl) (by kernel_rfl) (fun _ _ _ h => h) (Or.inl ⟨by rfl, ?_⟩) (by assumption) ?_; rotate_left; focus (intro W hSw; (try dsimp only at hSw); go_simp; (first | done | with_reducible rfl))
    (try simp only [List.getElem_toArray, List.getElem_cons_succ, List.getElem_cons_zero, Act.put, List.setIfInBounds_toArray, List.set_cons_zero, List.set_cons_succ])
    refine wpAnyH_done (by kernel_rfl) ?_ _
    refine NoPanic.normal ?_
    (try simp only [List.getElem_toArray, List.getElem_cons_succ, List.getElem_cons_zero, Act.put, List.setIfInBounds_toArray, List.set_cons_zero, List.set_cons_succ])
    clear hsA cA
    obtain ⟨p0, p1, p2, p3, -⟩ := MapS.Blk.four M1.out.x
    go_wp2_with fail
    refine (cB.out _ _ _ rh.out (M1.out.rd2 rR.out)).mono ?_
    rintro e w1 ⟨v, rfl, ho, hb⟩
    clear p0 p1 p2 p3
    replace HB := Lib.hid (nxt HB.out hb)
    replace M1 := Lib.hid (M1.out.later hb)
    replace rR := Lib.hid (rR.out.later hb)
    obtain ⟨na, nc, rfl, hrr, -⟩ := ho.slice
    have nh := Lib.hid ho.le
    have nR := Lib.hid hrr
    clear ho hrr
    clear hb
    clear cB
    clear rR
    clear M1
    go_wp2_with fail
    go_loopw [17] (fun i wr => ∃ k : Nat, k ≤ n1.length ∧ i = .int .i64 k ∧ wr = w1) (fun i _ => n1.length - (intOf i).toNat)
    case atStart => exact ⟨0, Nat.zero_le _, rfl, rfl⟩
    case round =>
      obtain ⟨k, hk, rfl, hwr⟩ := hrel
      obtain rfl := hwr.symm
      by_cases hlt : k < n1.length
      · obtain ⟨b9, off9, rfl, x0, x1⟩ := nR.out.cells hlt
        have hz9 := K4.out (PrK.at_ n1 k) (by rw [PrK.at_lt hlt]; exact List.getElem_mem hlt)
        obtain ⟨xa, hxa⟩ : ∃ x, (PrK.at_ n1 k).a = x := ⟨_, rfl⟩
        obtain ⟨xb, hxb⟩ : ∃ x, (PrK.at_ n1 k).b = x := ⟨_, rfl⟩
        rw [hxa] at x0 hz9
        rw [hxb] at x1 hz9
        have ea : (xa == z1) = false := by simpa using hz9.1
        have eb : (xb == z1) = false := by simpa using hz9.2
        have hkk0 : (0 : Int) ≤ (k : Int) := by omega
        have hkk1 : (k : Int) < (n1.length : Int) := by omega
        clear hxa hxb hz9
        go_wp2
        go_roundw
        case rel => exact ⟨k + 1, by omega, by go_num, by first | trivial | rfl⟩
        case measure => simp [intOf]; omega
      · obtain rfl : k = n1.length := by omega
        clear nR
        clear K4
        go_wp2_with fail
        refine (CtDx.drawCloseControls a n cap xs _ (HCo.out _ HB.out)).mono ?_
        rintro e w1 ⟨v, lv, m2, fs2, d2, rfl, hd2, ho, hL, hR2, hC2, hF2, hb⟩
        obtain ⟨ar2, cr2, ac2, cc2, rfl, h1, h2, -⟩ := ho
        obtain ⟨ad2, cp2, rfl, hl, -⟩ := hL.slice
        have hcp2 := hL.le
        replace HB := Lib.hid (nxt HB.out hb)
        have hA : Below w1.heap.size w1 (w1.alloc (.cells #[.int .i64 m2.W, .int .i64 m2.H, .slice ar2 m2.R.length cr2, .slice ac2 m2.C.length cc2] 26)) := (Below.refl _ _).alloc (Nat.le_refl _) _
        replace HB := Lib.hid (nxt HB.out hA)
        have M2 := Lib.hid (Cx.new (ca := cr2) (cb := cc2) (OwnI.row h1) (OwnI.row h2) hl)
        clear hA hb h1 h2 hl hL
        have hRm2 : m2.R.length ≤ maxLen := by unfold maxLen; omega
        have hCm2 : m2.C.length ≤ maxLen := by unfold maxLen; omega
        have hfl2 : fs2.length ≤ 1048576 := by omega
        have hD1 : -1 ≤ d2 := hd2.1
        have hD2 : d2 ≤ 5 := hd2.2
        clear hd2
        obtain ⟨u2, hu2⟩ : ∃ x, clL m2 fs2 d2 = x := ⟨_, rfl⟩
        obtain ⟨o2, ho2⟩ : ∃ x, clO m2 fs2 d2 = x := ⟨_, rfl⟩
        have hul2 : u2.length ≤ 100 := by rw [← hu2]; exact cl_len m2 fs2 d2
        have cI := Lib.hid (fun w h => hu2 ▸ ho2 ▸ cl_impl m2 fs2 hfl2 hRm2 hCm2 d2 ar2 ac2 cr2 cc2 ad2 cp2 w hcp2 h)
        have cS := Lib.hid (fun w h => hu2 ▸ ho2 ▸ cl_spec m2 fs2 hfl2 hRm2 hCm2 d2 ar2 ac2 cr2 cc2 ad2 cp2 w h)
        have HU2 := Lib.hid hu2
        have HO2 := Lib.hid ho2
        clear hu2 ho2
        obtain ⟨p0, p1, p2, p3, -⟩ := MapS.Blk.four M2.out.x
        go_wp2_with fail
        refine (cI.out _ M2.out.rd).mono ?_
        rintro e w1 ⟨v, rfl, ho, hb⟩
        clear p0 p1 p2 p3
        replace HB := Lib.hid (nxt HB.out hb)
        replace M2 := Lib.hid (M2.out.later hb)
        obtain ⟨i2a, i2c, rfl, hrr, -⟩ := ho.slice
        have i2h := Lib.hid ho.le
        have i2R := Lib.hid hrr
        clear ho hrr
        clear hb
        obtain ⟨p0, p1, p2, p3, -⟩ := MapS.Blk.four M2.out.x
        go_wp2_with fail
        refine (cS.out _ M2.out.rd).mono ?_
        rintro e w1 ⟨v, rfl, ho, hb⟩
        clear p0 p1 p2 p3
        replace HB := Lib.hid (nxt HB.out hb)
        replace M2 := Lib.hid (M2.out.later hb)
        replace i2R := Lib.hid (i2R.out.later hb)
        obtain ⟨s2a, s2c, rfl, hrr, -⟩ := ho.slice
        have s2h := Lib.hid ho.le
        have s2R := Lib.hid hrr
        clear ho hrr
        clear hb
        clear cI cS
        have e5 : (o2 != o2) = false := by simp
        go_wp2_with fail
        refine (CoX.prs_same _ _ _ _ u2 _ i2R.out s2R.out (by omega)).mono ?_
        rintro e w1 ⟨rfl, hb⟩
        replace HB := Lib.hid (nxt HB.out hb)
        replace M2 := Lib.hid (M2.out.later hb)
        replace i2R := Lib.hid (i2R.out.later hb)
        replace s2R := Lib.hid (s2R.out.later hb)
        clear hb
        clear s2R
        clear i2R
        cases o2 with
        | false =>
          clear HU2 HO2
          clear M2
          go_wp2_with fail
          refine (CtDw.drawNearestControl a n cap xs _ (HCo.out _ HB.out)).mono ?_
          rintro e w1 ⟨v, lv, m3, fs3, y3, rfl, -, ho, hL, hR3, hC3, hF3, hb⟩
          obtain ⟨ar3, cr3, ac3, cc3, rfl, h1, h2, -⟩ := ho
          obtain ⟨ad3, cp3, rfl, hl, -⟩ := hL.slice
          have hcp3 := hL.le
          replace HB := Lib.hid (nxt HB.out hb)
          have hA : Below w1.heap.size w1 (w1.alloc (.cells #[.int .i64 m3.W, .int .i64 m3.H, .slice ar3 m3.R.length cr3, .slice ac3 m3.C.length cc3] 26)) := (Below.refl _ _).alloc (Nat.le_refl _) _
          replace HB := Lib.hid (nxt HB.out hA)
          have M3 := Lib.hid (Cx.new (ca := cr3) (cb := cc3) (OwnI.row h1) (OwnI.row h2) hl)
          clear hA hb h1 h2 hl hL
          have hRm3 : m3.R.length ≤ maxLen := by unfold maxLen; omega
          have hCm3 : m3.C.length ≤ maxLen := by unfold maxLen; omega
          have hfl3 : fs3.length ≤ 1048576 := by omega
          obtain ⟨g3, hg3⟩ : ∃ x, nrZ m3 fs3 y3 = x := ⟨_, rfl⟩
          obtain ⟨q3, hq3⟩ : ∃ x, nrB m3 fs3 y3 = x := ⟨_, rfl⟩
          have cI := Lib.hid (fun w h => hg3 ▸ hq3 ▸ near_impl m3 fs3 hfl3 hRm3 hCm3 y3 ar3 ac3 cr3 cc3 ad3 cp3 w h)
          have cS := Lib.hid (fun w h => hg3 ▸ hq3 ▸ near_spec m3 fs3 hfl3 hRm3 hCm3 y3 ar3 ac3 cr3 cc3 ad3 cp3 w h)
          clear hg3 hq3
          obtain ⟨p0, p1, p2, p3, -⟩ := MapS.Blk.four M3.out.x
          go_wp2_with fail
          refine (cI.out _ M3.out.rd).mono ?_
          rintro e w1 ⟨rfl, hb⟩
          clear p0 p1 p2 p3
          replace HB := Lib.hid (nxt HB.out hb)
          replace M3 := Lib.hid (M3.out.later hb)
          clear hb
          obtain ⟨p0, p1, p2, p3, -⟩ := MapS.Blk.four M3.out.x
          go_wp2_with fail
          refine (cS.out _ M3.out.rd).mono ?_
          rintro e w1 ⟨rfl, hb⟩
          clear p0 p1 p2 p3
          replace HB := Lib.hid (nxt HB.out hb)
          replace M3 := Lib.hid (M3.out.later hb)
          clear hb
          have e1 : (g3 == g3) = true := by simp
          have e2 : (q3 == q3) = true := by simp
          go_wp2
          go_ret
          exact ⟨rfl, HB.out⟩
        | true =>
          obtain ⟨k1, k2⟩ := close_mono HO2.out
          rw [HU2.out] at k2
          obtain ⟨t2, ht2⟩ : ∃ x, clL m2 fs2 (d2 + 1) = x := ⟨_, rfl⟩
          rw [ht2] at k2
          have htl2 : t2.length ≤ 100 := by rw [← ht2]; exact cl_len m2 fs2 (d2 + 1)
          have cA := Lib.hid (fun w h => ht2 ▸ k1 ▸ cl_impl m2 fs2 hfl2 hRm2 hCm2 (d2 + 1) ar2 ac2 cr2 cc2 ad2 cp2 w hcp2 h)
          have e6 : decide ((t2.length : Int) < (u2.length : Int)) = false := decide_eq_false (by omega)
          have e7 : decide (t2.length < u2.length) = false := decide_eq_false (by omega)
          have e8 : ¬ t2.length < u2.length := by omega
          clear ht2 k1 k2 HU2 HO2
          obtain ⟨p0, p1, p2, p3, -⟩ := MapS.Blk.four M2.out.x
          go_wp2_with fail
          refine (cA.out _ M2.out.rd).mono ?_
          rintro e w1 ⟨v, rfl, ho, hb⟩
          clear p0 p1 p2 p3
          replace HB := Lib.hid (nxt HB.out hb)
          replace M2 := Lib.hid (M2.out.later hb)
          obtain ⟨b2a, b2c, rfl, hrr, -⟩ := ho.slice
          have b2h := Lib.hid ho.le
          have b2R := Lib.hid hrr
          clear ho hrr
          clear hb
          clear cA
          clear b2R
          clear M2
          go_wp2_with fail
          refine (CtDw.drawNearestControl a n cap xs _ (HCo.out _ HB.out)).mono ?_
          rintro e w1 ⟨v, lv, m3, fs3, y3, rfl, -, ho, hL, hR3, hC3, hF3, hb⟩
          obtain ⟨ar3, cr3, ac3, cc3, rfl, h1, h2, -⟩ := ho
          obtain ⟨ad3, cp3, rfl, hl, -⟩ := hL.slice
          have hcp3 := hL.le
          replace HB := Lib.hid (nxt HB.out hb)
          have hA : Below w1.heap.size w1 (w1.alloc (.cells #[.int .i64 m3.W, .int .i64 m3.H, .slice ar3 m3.R.length cr3, .slice ac3 m3.C.length cc3] 26)) := (Below.refl _ _).alloc (Nat.le_refl _) _
          replace HB := Lib.hid (nxt HB.out hA)
          have M3 := Lib.hid (Cx.new (ca := cr3) (cb := cc3) (OwnI.row h1) (OwnI.row h2) hl)
          clear hA hb h1 h2 hl hL
          have hRm3 : m3.R.length ≤ maxLen := by unfold maxLen; omega
          have hCm3 : m3.C.length ≤ maxLen := by unfold maxLen; omega
          have hfl3 : fs3.length ≤ 1048576 := by omega
          obtain ⟨g3, hg3⟩ : ∃ x, nrZ m3 fs3 y3 = x := ⟨_, rfl⟩
          obtain ⟨q3, hq3⟩ : ∃ x, nrB m3 fs3 y3 = x := ⟨_, rfl⟩
          have cI := Lib.hid (fun w h => hg3 ▸ hq3 ▸ near_impl m3 fs3 hfl3 hRm3 hCm3 y3 ar3 ac3 cr3 cc3 ad3 cp3 w h)
          have cS := Lib.hid (fun w h => hg3 ▸ hq3 ▸ near_spec m3 fs3 hfl3 hRm3 hCm3 y3 ar3 ac3 cr3 cc3 ad3 cp3 w h)
          clear hg3 hq3
          obtain ⟨p0, p1, p2, p3, -⟩ := MapS.Blk.four M3.out.x
          go_wp2_with fail
          refine (cI.out _ M3.out.rd).mono ?_
          rintro e w1 ⟨rfl, hb⟩
          clear p0 p1 p2 p3
          replace HB := Lib.hid (nxt HB.out hb)
          replace M3 := Lib.hid (M3.out.later hb)
          clear hb
          obtain ⟨p0, p1, p2, p3, -⟩ := MapS.Blk.four M3.out.x
          go_wp2_with fail
          refine (cS.out _ M3.out.rd).mono ?_
          rintro e w1 ⟨rfl, hb⟩
          clear p0 p1 p2 p3
          replace HB := Lib.hid (nxt HB.out hb)
          replace M3 := Lib.hid (M3.out.later hb)
          clear hb
          have e1 : (g3 == g3) = true := by simp
          have e2 : (q3 == q3) = true := by simp
          go_wp2
          go_ret
          exact ⟨rfl, HB.out⟩

end Go.Proofs.Ytfpfnnindlfgfaa.CoU

namespace Go.Proofs.Ytfpfnnindlfgfaa.fnCodesFr
open Go.ChangeShapes Go.WideShapes Go.ChangeAt Go.RowKit
open Go.ChangeMaps (open_string shut_string)
set_option linter.unusedVariables false

theorem own : ownKnob Try.prog.godebug = none := by kernel_rfl
theorem laidOut : laidOutB Try.prog = true := by kernel_rfl

set_option maxRecDepth 100000 in
theorem lifted (os : Os) (started : os.Started) (H : Type) (enc : TypeId × Value → H) :
    ReturnsInHanded {} Try.checked os 5 .any (Rows.fnCodesSpec.pre6 enc Try.prog Try.f5 Rows.fnCodesRow.domain false) (Rows.fnCodesSpec.post enc Try.prog Try.f5 false true false false) := by
  refine returnsInHanded_of_change (C := Try.checked) own started (by kernel_rfl) Try.func5
    (ChangeSpec.witness6 (enc := enc) (C := Try.checked) false ⟨#[], #[.slice none 0 0], []⟩ 8 (by kernel_rfl) (by kernel_rfl) (by kernel_rfl) (by kernel_rfl)) ?_
  intro W base args ds gs before hval0 hW hcnd _
  have hval : ∀ (j : Nat) t v, Try.f5.params[j]? = some t → args[j]? = some v → Value.okWide Try.prog W .any base t v := hval0
  have hW' := hW
  obtain ⟨p, q, hA0, hV, rfl, hfz, hnd⟩ := hW
  have hA : DataW.TrodAll enc Try.prog W 0 (fun _ => true) true Try.f5.params.toList args.toList ds p := hA0
  rw [Try.params5] at hA hval
  obtain ⟨v0, vs0, d0, ds0, p0, q0, hargs, rfl, rfl, h0, r0⟩ := trodAll_cons hA
  obtain ⟨rfl, rfl, rfl⟩ := trodAll_nil r0
  obtain rfl : args = #[v0] := by cases args; simp_all
  obtain ⟨rfl, rfl⟩ := trodVars_none hV
  have k0 := h0
  have lt0 : ∀ x ∈ p0, x.block < W.heap.size := by obtain ⟨m, hm⟩ := k0; exact DataW.trod_lt m _ _ _ hm
  obtain ⟨x0_0, x0_1, x0_2, x0_3, rfl, w0⟩ := (CodM.open_bytes Try.underlying22 Try.underlying5 (by kernel_rfl)) (hval 0 22 v0 rfl rfl) h0
  clear hA0 hval0
  refine (CoU.law_any W x0_0 x0_1 x0_2 x0_3 w0).mono fun e W' ⟨he, bel⟩ => ?_
  subst he
  exact ⟨_, rfl, _, _, _, [], _, [], hW', trodAll_mk1 (shut_bool Try.underlying4 _), (trodAll_cons_mk (Below.trod laidOut (by kernel_rfl) (of_decide_eq_true (by kernel_rfl)) k0 bel lt0) trodAll_mk0), rfl, bel.frame _, fun h => by cases h⟩

theorem over : Rows.fnCodesRow.holds Try.pinned (OpenSpec.ofChange Rows.fnCodesSpec) :=
  OpenClaim.holds_of_wide 5 Try.f5 rfl rfl rfl rfl rfl rfl rfl ⟨rfl, rfl, rfl, rfl, rfl⟩ rfl rfl rfl rfl rfl (by kernel_rfl) Try.func5 (by kernel_rfl)
    (of_decide_eq_true (by kernel_rfl)) (by unfold Func.isWrapper; first | (rw [if_pos (by decide +kernel)]; kernel_rfl) | (rw [if_neg (by decide +kernel)]; exact ⟨rfl, rfl⟩))
    (fun os started H enc _ => lifted os started H enc)

theorem proved : Rows.FnCodesSaid := over
end Go.Proofs.Ytfpfnnindlfgfaa.fnCodesFr
