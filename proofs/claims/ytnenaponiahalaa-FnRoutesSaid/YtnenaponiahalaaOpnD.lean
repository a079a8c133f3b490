/- A drawn open cell: its contract. -/
import Derived.Test.YtnenaponiahalaaCelD
import Derived.Test.YtnenaponiahalaaMapV
namespace Go.Proofs.Ytnenaponiahalaa.DrwM
open Go.RowKit Lb Cur IntS MapS MapV SpecB CurM CodM
set_option linter.unusedSimpArgs false
set_option linter.unusedVariables false

/-- What stands while an open cell is drawn. -/
structure OSt (w : World) (m : Mp) (ar : Option Addr) (cr : Nat) (ac : Option Addr) (cc b B mm : Nat) (wx : World) : Prop where
  box : Blk wx B 26 #[.int .i64 m.W, .int .i64 m.H, .slice ar m.R.length cr, .slice ac m.C.length cc]
  r : IRow wx ar m.R
  c : IRow wx ac m.C
  ok : Ok wx b mm
  g : w.grownBy wx (some b)
section
variable {w : World} {m : Mp} {ar ac : Option Addr} {cr cc b B mm : Nat} {wx w' : World}
theorem OSt.below (h : OSt w m ar cr ac cc b B mm wx) (hb : Below wx.heap.size wx w') : OSt w m ar cr ac cc b B mm w' :=
  ⟨h.box.later hb, row_beside h.r (gbelow hb none) (by simp), row_beside h.c (gbelow hb none) (by simp), h.ok.below hb, gtrans h.g (gbelow hb _)⟩
theorem OSt.drew (h : OSt w m ar cr ac cc b B mm wx) : OSt w m ar cr ac cc b B mm wx.drew := ⟨h.box, h.r, h.c, h.ok, gtrans h.g (gbelow (Below.refl _ _).drew _)⟩
theorem OSt.drewN (h : OSt w m ar cr ac cc b B mm wx) (n : Nat) : OSt w m ar cr ac cc b B mm (wx.drewN n) := ⟨h.box, h.r, h.c, h.ok, ⟨h.g.os, h.g.tape, h.g.output, h.g.size, h.g.block⟩⟩
theorem OSt.mono {mm' : Nat} (h : OSt w m ar cr ac cc b B mm wx) (hm : mm ≤ mm') : OSt w m ar cr ac cc b B mm' wx := ⟨h.box, h.r, h.c, h.ok.mono hm, h.g⟩
theorem OSt.step {mm' : Nat} (h : OSt w m ar cr ac cc b B mm wx) (hB : b ≠ B) (n1 : ∀ x, ar = some x → x.block ≠ b) (n2 : ∀ x, ac = some x → x.block ≠ b) (ho : Ok w' b mm') (hg : wx.grownBy w' (some b)) : OSt w m ar cr ac cc b B mm' w' :=
  ⟨blk_grown h.box hg (by simpa using hB), row_beside h.r hg (fun x e => by simpa using (n1 x e).symm), row_beside h.c hg (fun x e => by simpa using (n2 x e).symm), ho, gtrans h.g hg⟩
end

set_option maxRecDepth 20000 in
set_option maxHeartbeats 1000000 in
theorem open_any (b mm : Nat) (m : Mp) (ar ac : Option Addr) (cr cc : Nat) (w : World) (hm : mm ≤ 1152921504606845000) (hR : m.R.length ≤ 21) (hC : m.C.length ≤ 21) (h1 : IRow w ar m.R) (h2 : IRow w ac m.C) (n1 : ∀ x, ar = some x → x.block ≠ b) (n2 : ∀ x, ac = some x → x.block ≠ b) (hok : Ok w b mm) :
    Calls Try.prog 127 #[.pointer (some ⟨b, 0, none⟩), .agg #[.int .i64 m.W, .int .i64 m.H, .slice ar m.R.length cr, .slice ac m.C.length cc]] w fun e w' => (∃ z : Int, e = .returned (.int .i64 z)) ∧ Ok w' b (mm + 6) ∧ w.grownBy w' (some b) := by
  have hbl := hok.lt
  obtain ⟨B, hBe⟩ : ∃ B, w.heap.size = B := ⟨_, rfl⟩
  have hbB : b ≠ B := by omega
  have HS0 := Lib.hid (show OSt w m ar cr ac cc b B mm (w.alloc (.cells #[.int .i64 m.W, .int .i64 m.H, .slice ar m.R.length cr, .slice ac m.C.length cc] 26)) from by
    have hA : Below w.heap.size w (w.alloc (.cells #[.int .i64 m.W, .int .i64 m.H, .slice ar m.R.length cr, .slice ac m.C.length cc] 26)) := (Below.refl _ _).alloc (Nat.le_refl _) _
    refine ⟨?_, row_beside h1 (gbelow hA none) (by simp), row_beside h2 (gbelow hA none) (by simp), hok.below hA, gbelow hA _⟩
    rw [← hBe]
    exact Blk.new w 26 #[.int .i64 m.W, .int .i64 m.H, .slice ar m.R.length cr, .slice ac m.C.length cc])
  have hRm : m.R.length ≤ maxLen := by unfold maxLen; omega
  have hCm : m.C.length ≤ maxLen := by unfold maxLen; omega
  have N1 := Lib.hid n1
  have N2 := Lib.hid n2
  have c1 := Lib.hid (cellb_any b mm m ar ac cr cc _ (by omega) hC HS0.out.ok)
  clear hok h1 h2 n1 n2
  obtain ⟨p0, p1, p2, p3, -⟩ := HS0.out.box.four
  rw [← hBe] at p0 p1 p2 p3
  go_enter Try.func127, Try.ntmps127
  go_wp2_with fail
  refine c1.out.mono ?_
  rintro e w1 ⟨⟨z, rfl, hz1, hz2⟩, hok1, hg1⟩
  have HS1 := Lib.hid (HS0.out.step hbB N1.out N2.out hok1 hg1)
  have HZ := Lib.hid (show ∃ q : Nat, StepT.mostOf 0 z = (q : Nat) ∧ q ≤ 21 from by
    rcases StepT.mostOf_eq 0 z with ⟨h1, h2⟩ | ⟨h1, h2⟩
    · exact ⟨0, by rw [h2]; rfl, by omega⟩
    · exact ⟨z.toNat, by rw [h2]; omega, by omega⟩)
  clear hok1 hg1 c1 p0 p1 p2 p3 hz1 hz2
  obtain ⟨p0, p1, p2, p3, -⟩ := HS1.out.box.four
  by_cases hmo : m.ok
  · have hk := okB_yes hmo
    obtain ⟨ww, hh, g⟩ := good_of hmo
    have hpos : 0 < m.C.length := by
      have h1 := g.C; have h2 := g.n1; omega
    clear hmo g
    go_wp2_with fail
    refine (MapV.spec_any m ar ac cr cc _ hRm hCm HS1.out.r HS1.out.c).mono ?_
    rw [hk]
    rintro e w2 ⟨rfl, hb2⟩
    have HS2 := Lib.hid (HS1.out.below hb2)
    have c2 := Lib.hid (one_any b (mm + 4) 10 _ (by omega) (by omega) (by omega) HS2.out.ok)
    clear hb2 hk p0 p1 p2 p3
    go_wp2_with fail
    refine c2.out.mono ?_
    rintro e w3 ⟨⟨t, rfl⟩, hok3, hg3⟩
    have HS3 := Lib.hid (HS2.out.step hbB N1.out N2.out hok3 hg3)
    clear hok3 hg3 c2
    obtain ⟨p0, p1, p2, p3, -⟩ := HS3.out.box.four
    cases t with
    | true =>
      go_wp2
      go_ret
      exact ⟨⟨_, rfl⟩, HS3.out.ok, HS3.out.g⟩
    | false =>
      obtain ⟨q, hq, hq2⟩ := HZ.out
      have HQ := Lib.hid hq
      clear hq p0 p1 p2 p3
      go_wp2_with fail
      go_loopg [6] m.C.length (fun r ii wr => ∃ k : Nat, k ≤ m.C.length ∧ r = m.C.length - k ∧ ii = .int .i64 k ∧ OSt w m ar cr ac cc b B (mm + 6) wr)
      case atStart => exact ⟨0, by omega, by omega, rfl, HS3.out⟩
      case round =>
        obtain ⟨k, hk, hq, rfl, hS⟩ := hrel
        have HSk := Lib.hid hS
        clear hS
        by_cases hlt : k < m.C.length
        · obtain ⟨s, hs⟩ : ∃ s, q + k = s := ⟨_, rfl⟩
          have hw : IntKind.i64.wrap ((q : Int) + (k : Int)) = (s : Int) := by rw [IntWalk.i64_in _ (by omega)]; omega
          obtain ⟨r, hr⟩ : ∃ r, s % m.C.length = r := ⟨_, rfl⟩
          have hrN : r < m.C.length := by rw [← hr]; exact Nat.mod_lt _ hpos
          have hr' : (s : Int).tmod (m.C.length : Int) = (r : Int) := by rw [← hr]; exact (Int.ofNat_tmod _ _).symm
          clear hs
          obtain ⟨p0, p1, p2, p3, -⟩ := HSk.out.box.four
          have hx0 := HSk.out.box.lt
          have hz : ¬ (m.C.length : Int) = 0 := by omega
          have hz2 : ¬ m.C.length = 0 := by omega
          have hz3 : (m.C.length == 0) = false := by simpa using hz2
          have hz4 : ((m.C.length : Int) == 0) = false := by simpa using hz
          have hz5 : ¬ (m.C.length : Int) = -1 := by omega
          have HMQ := Lib.hid (show ∀ w : World, Calls Try.prog 141 #[.int .i64 0, .int .i64 z] w fun e w' => e = .returned (.int .i64 (q : Nat)) ∧ w' = w from fun w => (StepT.most_any 0 z w).mono fun e w' ⟨h1, h2⟩ => ⟨by rw [h1, HQ.out], h2⟩)
          rcases HSk.out.c with h0 | ⟨g2, off, rfl, hc⟩
          · omega
          have gr := hc r hrN
          clear hc
          by_cases ho : 0 < zAt m.C r
          · have hd : decide (0 < zAt m.C r) = true := by simpa using ho
            go_upto_region 6 with (fail)
            go_region_with (go_at_call 141; refine (HMQ.out _).mono ?_; rintro e w2 ⟨rfl, hw2⟩; obtain rfl := hw2.symm)
            all_goals
              go_wp2
              go_ret
              exact ⟨⟨_, rfl⟩, HSk.out.drew.ok, HSk.out.drew.g⟩
          · have hd : decide (0 < zAt m.C r) = false := by simpa using ho
            go_upto_region 6 with (fail)
            go_region_with (go_at_call 141; refine (HMQ.out _).mono ?_; rintro e w2 ⟨rfl, hw2⟩; obtain rfl := hw2.symm)
            all_goals
              go_wp2
              go_roundg (m.C.length - (k + 1))
              all_goals first | omega | exact ⟨k + 1, by omega, rfl, by go_num, HSk.out.drew⟩
        · obtain rfl : k = m.C.length := by omega
          obtain ⟨p0, p1, p2, p3, -⟩ := HSk.out.box.four
          go_wp2
          go_ret
          exact ⟨⟨_, rfl⟩, HSk.out.ok, HSk.out.g⟩
  · have hk := okB_no hmo
    go_wp2_with fail
    refine (MapV.spec_any m ar ac cr cc _ hRm hCm HS1.out.r HS1.out.c).mono ?_
    rw [hk]
    rintro e w2 ⟨rfl, hb2⟩
    have HS2 := Lib.hid (HS1.out.below hb2)
    clear hb2 hk p0 p1 p2 p3
    go_wp2
    go_ret
    exact ⟨⟨_, rfl⟩, HS2.out.ok.mono (by omega), HS2.out.g⟩

end Go.Proofs.Ytnenaponiahalaa.DrwM
