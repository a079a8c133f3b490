/- 'FnExactFillClasses' answers as its model, at every argument: the walk of the law. -/
import Derived.Test.YtnenaponiahalaaKaV
import Derived.Test.YtnenaponiahalaaKlO
import Derived.Test.YtnenaponiahalaaKlK
import Derived.Test.YtnenaponiahalaaRuO
import Derived.Test.YtnenaponiahalaaRuK
import Derived.Test.YtnenaponiahalaaIntA
import Derived.Test.YtnenaponiahalaaLwK
import Derived.RegionTactic
import Derived.Deep.RegionWith
namespace Go.Proofs.Ytnenaponiahalaa.FilL
open Go.RowKit Lb Bk LwK
set_option linter.unusedSimpArgs false
set_option linter.unusedVariables false

set_option maxRecDepth 100000 in
set_option maxHeartbeats 8000000 in
theorem law_any (W : World) (a0 : Option Addr) (cap0 : Nat) (rs0 : List Kl) (hi0 : KlK.IsS W a0 rs0) (a1 : Option Addr) (cap1 : Nat) (rs1 : List Ru) (hi1 : RuK.IsS W a1 rs1) :
    Calls Try.prog 13 #[.slice a0 rs0.length cap0, .slice a1 rs1.length cap1] W fun e w' => e = .returned (.bool true) ∧ Below W.heap.size W w' := by
  have hB := Lib.hid (show Below W.heap.size W W from (Below.refl _ _))
  have hR0 := Lib.hid hi0.R
  have hF0 := Lib.hid hi0.f
  have hL0 := Lib.hid hi0.l
  clear hi0
  have hR1 := Lib.hid hi1.R
  have hF1 := Lib.hid hi1.f
  have hL1 := Lib.hid hi1.l
  clear hi1
  go_enter Try.func13, Try.ntmps13
  go_wp2_with fail
  refine (KlK.szS_any a0 cap0 rs0 _ _ (KlK.Row.later hR0.out hB.out) hF0.out hL0.out (by omega) (by omega)).mono ?_
  rintro e w1 ⟨⟨r0, rfl, hr⟩, hb⟩
  replace hB := Lib.hid (hB.out.trans (hb.mono hB.out.size))
  clear hb
  rcases hr with rfl | ⟨h0, hr⟩
  · go_wp2
    go_ret
    exact ⟨rfl, hB.out⟩
  have ht := KlK.tot_nn rs0 rs0.length
  have hn0 : rs0.length ≤ 1048576 := by omega
  have hneg0 : decide (r0 < 0) = false := decide_eq_false (by omega)
  have hu0 : 0 ≤ r0 ∧ r0 ≤ 1048576 := by omega
  obtain ⟨hv0, hw0⟩ := hu0
  clear hr ht h0
  go_wp2_with fail
  refine (RuK.szS_any a1 cap1 rs1 _ _ (RuK.Row.later hR1.out hB.out) hF1.out hL1.out (by omega) (by omega)).mono ?_
  rintro e w1 ⟨⟨r1, rfl, hr⟩, hb⟩
  replace hB := Lib.hid (hB.out.trans (hb.mono hB.out.size))
  clear hb
  rcases hr with rfl | ⟨h0, hr⟩
  · go_wp2
    go_ret
    exact ⟨rfl, hB.out⟩
  have ht := RuK.tot_nn rs1 rs1.length
  have hn1 : rs1.length ≤ 1048576 := by omega
  have hneg1 : decide (r1 < 0) = false := decide_eq_false (by omega)
  have hu1 : 0 ≤ r1 ∧ r1 ≤ 1048576 := by omega
  obtain ⟨hv1, hw1⟩ := hu1
  clear hr ht h0
  obtain ⟨u0, u1, hul0, HS, HI⟩ := KaV.both rs0 hF0.out hn0 rs1 hF1.out hn1
  replace HS := Lib.hid HS
  replace HI := Lib.hid HI
  have hum0 : u0.length ≤ maxLen := by unfold maxLen; omega
  go_wp2_with fail
  refine (KlK.toS_any a0 cap0 rs0 _ (KlK.Row.later hR0.out hB.out) hn0).mono ?_
  rintro e w1 ⟨v, rfl, ho, hb⟩
  replace hB := Lib.hid (hB.out.trans (hb.mono hB.out.size))
  obtain ⟨wa0, wc0, rfl, -, wl0⟩ := KlK.Own.slice ho
  have wX0 := Lib.hid ho
  clear ho hb
  go_wp2_with fail
  refine (RuK.toS_any a1 cap1 rs1 _ (RuK.Row.later hR1.out hB.out) hn1).mono ?_
  rintro e w1 ⟨v, rfl, ho, hb⟩
  replace hB := Lib.hid (hB.out.trans (hb.mono hB.out.size))
  replace wX0 := Lib.hid (KlK.Own.below wX0.out hb)
  obtain ⟨wa1, wc1, rfl, -, wl1⟩ := RuK.Own.slice ho
  have wX1 := Lib.hid ho
  clear ho hb
  go_wp2_with fail
  refine (HS.out _ _ _ _ _ (KlK.Own.le wX0.out) (KlK.Own.row wX0.out) (RuK.Own.le wX1.out) (RuK.Own.row wX1.out)).mono ?_
  rintro e w1 ⟨v0, rfl, ho0, hb⟩
  replace hB := Lib.hid (hB.out.trans (hb.mono hB.out.size))
  replace wX0 := Lib.hid (KlK.Own.below wX0.out hb)
  replace wX1 := Lib.hid (RuK.Own.below wX1.out hb)
  obtain ⟨wa0, wc0, rfl, wr0, wl0⟩ := IntK.Own.slice ho0
  have wW0 := Lib.hid wr0
  clear ho0 wr0
  clear hb
  try clear wX0
  try clear wX1
  obtain ⟨z0, hz0⟩ : ∃ z, w1.heap.size = z := ⟨_, rfl⟩
  have hhi0 := Lib.hid (show ∀ x, wa0 = some x → x.block < z0 from fun x e => hz0 ▸ (wl0 x e).2)
  clear wl0
  have hWz := Lib.hid (show W.heap.size ≤ z0 from hz0 ▸ hB.out.size)
  have hZ := Lib.hid (show z0 ≤ w1.heap.size from Nat.le_of_eq hz0.symm)
  clear hz0
  go_wp2_with fail
  refine (KlK.toS_any a0 cap0 rs0 _ (KlK.Row.later hR0.out hB.out) hn0).mono ?_
  rintro e w1 ⟨v, rfl, ho, hb⟩
  obtain ⟨xa0, xc0, rfl, -, xl⟩ := KlK.Own.slice ho
  have xlo0 := Lib.hid (show ∀ x, xa0 = some x → z0 ≤ x.block from fun x e => Nat.le_trans hZ.out (xl x e).1)
  replace hB := Lib.hid (hB.out.trans (hb.mono hB.out.size))
  replace wW0 := Lib.hid (IntK.Row.later wW0.out hb)
  replace hZ := Lib.hid (Nat.le_trans hZ.out hb.size)
  have xup0 := Lib.hid (show ∀ x, xa0 = some x → x.block < w1.heap.size from fun x e => (xl x e).2)
  have xX0 := Lib.hid ho
  clear ho hb xl
  go_wp2_with fail
  refine (RuK.toS_any a1 cap1 rs1 _ (RuK.Row.later hR1.out hB.out) hn1).mono ?_
  rintro e w1 ⟨v, rfl, ho, hb⟩
  obtain ⟨xa1, xc1, rfl, -, xl⟩ := RuK.Own.slice ho
  have xlo1 := Lib.hid (show ∀ x, xa1 = some x → z0 ≤ x.block from fun x e => Nat.le_trans hZ.out (xl x e).1)
  have xne1_0 := Lib.hid (show ∀ x y, xa1 = some x → xa0 = some y → y.block ≠ x.block from fun x y hx hy e => by have h1 := xup0.out y hy; have h2 := (xl x hx).1; omega)
  replace hB := Lib.hid (hB.out.trans (hb.mono hB.out.size))
  replace wW0 := Lib.hid (IntK.Row.later wW0.out hb)
  replace hZ := Lib.hid (Nat.le_trans hZ.out hb.size)
  replace xX0 := Lib.hid (KlK.Own.below xX0.out hb)
  replace xup0 := Lib.hid (fun x e => Nat.lt_of_lt_of_le (xup0.out x e) hb.size)
  have xup1 := Lib.hid (show ∀ x, xa1 = some x → x.block < w1.heap.size from fun x e => (xl x e).2)
  have xX1 := Lib.hid ho
  clear ho hb xl
  obtain ⟨z1, hz1⟩ : ∃ z, w1.heap.size = z := ⟨_, rfl⟩
  have xhi0 := Lib.hid (show ∀ x, xa0 = some x → x.block < z1 from fun x e => hz1 ▸ xup0.out x e)
  clear xup0
  have xhi1 := Lib.hid (show ∀ x, xa1 = some x → x.block < z1 from fun x e => hz1 ▸ xup1.out x e)
  clear xup1
  have hz01 : z0 ≤ z1 := hz1 ▸ hZ.out
  have hY := Lib.hid (show z1 ≤ w1.heap.size from Nat.le_of_eq hz1.symm)
  clear hz1
  go_wp2_with fail
  refine (HI.out _ _ _ _ _ (KlK.Own.le xX0.out) (KlK.Own.row xX0.out) (RuK.Own.le xX1.out) (RuK.Own.row xX1.out)).mono ?_
  rintro e w1 ⟨v0, rfl, ho0, hb⟩
  obtain ⟨ga0, gc0, rfl, -, gl0⟩ := IntK.Own.slice ho0
  have glo0 := Lib.hid (show ∀ x, ga0 = some x → z1 ≤ x.block from fun x e => Nat.le_trans hY.out (gl0 x e).1)
  replace hB := Lib.hid (hB.out.trans (hb.mono hB.out.size))
  replace wW0 := Lib.hid (IntK.Row.later wW0.out hb)
  replace hZ := Lib.hid (Nat.le_trans hZ.out hb.size)
  replace xX0 := Lib.hid (KlK.Own.below xX0.out hb)
  replace xX1 := Lib.hid (RuK.Own.below xX1.out hb)
  replace hY := Lib.hid (Nat.le_trans hY.out hb.size)
  have gX0 := Lib.hid ho0
  clear ho0 gl0
  clear hb
  go_wp2_with fail
  refine (IntK.eqS_same _ _ _ _ u0 _ (IntK.Own.row gX0.out) wW0.out hum0).mono ?_
  rintro e w1 ⟨rfl, hb⟩
  replace hB := Lib.hid (hB.out.trans (hb.mono hB.out.size))
  replace wW0 := Lib.hid (IntK.Row.later wW0.out hb)
  replace hZ := Lib.hid (Nat.le_trans hZ.out hb.size)
  replace xX0 := Lib.hid (KlK.Own.below xX0.out hb)
  replace xX1 := Lib.hid (RuK.Own.below xX1.out hb)
  replace hY := Lib.hid (Nat.le_trans hY.out hb.size)
  replace gX0 := Lib.hid (IntK.Own.below gX0.out hb)
  clear hb
  go_wp2_with fail
  refine (KlK.toS_any a0 cap0 rs0 _ (KlK.Row.later hR0.out hB.out) hn0).mono ?_
  rintro e w1 ⟨v, rfl, ho, hb⟩
  obtain ⟨ya, yc, rfl, hyr, -⟩ := KlK.Own.slice ho
  replace hB := Lib.hid (hB.out.trans (hb.mono hB.out.size))
  replace wW0 := Lib.hid (IntK.Row.later wW0.out hb)
  replace hZ := Lib.hid (Nat.le_trans hZ.out hb.size)
  replace xX0 := Lib.hid (KlK.Own.below xX0.out hb)
  replace xX1 := Lib.hid (RuK.Own.below xX1.out hb)
  replace hY := Lib.hid (Nat.le_trans hY.out hb.size)
  replace gX0 := Lib.hid (IntK.Own.below gX0.out hb)
  clear ho hb
  go_wp2_with fail
  refine (KlK.eqS_same _ _ _ _ rs0 _ (KlK.Own.row xX0.out) hyr (by unfold maxLen; omega)).mono ?_
  rintro e w1 ⟨rfl, hb⟩
  replace hB := Lib.hid (hB.out.trans (hb.mono hB.out.size))
  replace wW0 := Lib.hid (IntK.Row.later wW0.out hb)
  replace hZ := Lib.hid (Nat.le_trans hZ.out hb.size)
  replace xX0 := Lib.hid (KlK.Own.below xX0.out hb)
  replace xX1 := Lib.hid (RuK.Own.below xX1.out hb)
  replace hY := Lib.hid (Nat.le_trans hY.out hb.size)
  replace gX0 := Lib.hid (IntK.Own.below gX0.out hb)
  clear hb hyr
  go_wp2_with fail
  refine (RuK.toS_any a1 cap1 rs1 _ (RuK.Row.later hR1.out hB.out) hn1).mono ?_
  rintro e w1 ⟨v, rfl, ho, hb⟩
  obtain ⟨ya, yc, rfl, hyr, -⟩ := RuK.Own.slice ho
  replace hB := Lib.hid (hB.out.trans (hb.mono hB.out.size))
  replace wW0 := Lib.hid (IntK.Row.later wW0.out hb)
  replace hZ := Lib.hid (Nat.le_trans hZ.out hb.size)
  replace xX0 := Lib.hid (KlK.Own.below xX0.out hb)
  replace xX1 := Lib.hid (RuK.Own.below xX1.out hb)
  replace hY := Lib.hid (Nat.le_trans hY.out hb.size)
  replace gX0 := Lib.hid (IntK.Own.below gX0.out hb)
  clear ho hb
  go_wp2_with fail
  refine (RuK.eqS_same _ _ _ _ rs1 _ (RuK.Own.row xX1.out) hyr (by unfold maxLen; omega)).mono ?_
  rintro e w1 ⟨rfl, hb⟩
  replace hB := Lib.hid (hB.out.trans (hb.mono hB.out.size))
  replace wW0 := Lib.hid (IntK.Row.later wW0.out hb)
  replace hZ := Lib.hid (Nat.le_trans hZ.out hb.size)
  replace xX0 := Lib.hid (KlK.Own.below xX0.out hb)
  replace xX1 := Lib.hid (RuK.Own.below xX1.out hb)
  replace hY := Lib.hid (Nat.le_trans hY.out hb.size)
  replace gX0 := Lib.hid (IntK.Own.below gX0.out hb)
  clear hb hyr
  obtain ⟨m0, hm0⟩ : ∃ m : Nat, m = 1 := ⟨_, rfl⟩
  have hmk := Lib.hid hm0
  clear hm0
  obtain ⟨mx0, hmx0⟩ : ∃ m : Nat, 1 + 8 * rs0.length = m := ⟨_, rfl⟩
  have hmc := Lib.hid (fun (w : World) (base : Nat) h => hmx0 ▸ KlK.markS_any base xa0 xc0 rs0 1 w h (by omega) (by omega))
  have hneg : decide ((mx0 : Int) < 0) = false := pos_cast _
  have hmlo0 : 1 ≤ mx0 ∧ mx0 ≤ 20000000 := by omega
  replace hmx0 := Lib.hid hmx0
  go_wp2_with fail
  refine (hmc.out _ _ xX0.out).mono ?_
  rintro e w1 ⟨rfl, -, hg⟩
  clear xX0 hmc
  have hgs := hg.size
  replace hB := Lib.hid (below_grown hB.out hg hB.out.size (fun x e => by have h1 := xlo0.out x e; have h2 := hWz.out; omega))
  replace wW0 := Lib.hid (IntK.Row.beside wW0.out hg (ne_block (fun x y hx hy => by have h1 := hhi0.out x hx; have h2 := xlo0.out y hy; omega)))
  replace hZ := Lib.hid (Nat.le_trans hZ.out hgs)
  replace xX1 := Lib.hid (show RuK.Own _ _ _ _ from World.ownsRow.kept xX1.out hg (ne_own (fun x y hx hy => by exact (fun e => xne1_0.out x y hx hy e))))
  replace hY := Lib.hid (Nat.le_trans hY.out hgs)
  replace gX0 := Lib.hid (show IntK.Own _ _ _ _ from World.ownsRow.kept gX0.out hg (ne_own (fun x y hx hy => by have h1 := glo0.out x hx; have h2 := xhi0.out y hy; omega)))
  clear hg hgs
  obtain ⟨mx1, hmx1⟩ : ∃ m : Nat, mx0 + 6 * rs1.length = m := ⟨_, rfl⟩
  have hmc := Lib.hid (fun (w : World) (base : Nat) h => hmx1 ▸ RuK.markS_any base xa1 xc1 rs1 mx0 w h (by omega) (by omega))
  have hneg : decide ((mx1 : Int) < 0) = false := pos_cast _
  have hm1_1 : 1 ≤ mx0 := by omega
  have hmlo1 : 1 ≤ mx1 ∧ mx1 ≤ 40000000 := by omega
  replace hmx1 := Lib.hid hmx1
  go_wp2_with fail
  refine (hmc.out _ _ xX1.out).mono ?_
  rintro e w1 ⟨rfl, -, hg⟩
  clear xX1 hmc
  have hgs := hg.size
  replace hB := Lib.hid (below_grown hB.out hg hB.out.size (fun x e => by have h1 := xlo1.out x e; have h2 := hWz.out; omega))
  replace wW0 := Lib.hid (IntK.Row.beside wW0.out hg (ne_block (fun x y hx hy => by have h1 := hhi0.out x hx; have h2 := xlo1.out y hy; omega)))
  replace hZ := Lib.hid (Nat.le_trans hZ.out hgs)
  replace hY := Lib.hid (Nat.le_trans hY.out hgs)
  replace gX0 := Lib.hid (show IntK.Own _ _ _ _ from World.ownsRow.kept gX0.out hg (ne_own (fun x y hx hy => by have h1 := glo0.out x hx; have h2 := xhi1.out y hy; omega)))
  clear hg hgs
  go_wp2_with fail
  refine (IntK.eqS_same _ _ _ _ u0 _ (IntK.Own.row gX0.out) wW0.out hum0).mono ?_
  rintro e w1 ⟨rfl, hb⟩
  replace hB := Lib.hid (hB.out.trans (hb.mono hB.out.size))
  replace wW0 := Lib.hid (IntK.Row.later wW0.out hb)
  replace hZ := Lib.hid (Nat.le_trans hZ.out hb.size)
  replace hY := Lib.hid (Nat.le_trans hY.out hb.size)
  replace gX0 := Lib.hid (IntK.Own.below gX0.out hb)
  clear hb
  obtain ⟨mg0, hmg0⟩ : ∃ m : Nat, 1 + 1 * u0.length = m := ⟨_, rfl⟩
  have hmc := Lib.hid (fun (w : World) (base : Nat) h => hmg0 ▸ IntK.markS_any base ga0 gc0 u0 1 w h (by omega) (by omega))
  have hneg : decide ((mg0 : Int) < 0) = false := pos_cast _
  have hhc0 := Lib.hid (fun w h => hmg0 ▸ IntK.heldS_any ga0 gc0 u0.length 1 w h (by omega) (by omega))
  replace hmg0 := Lib.hid hmg0
  go_wp2_with fail
  refine (hmc.out _ _ gX0.out).mono ?_
  rintro e w1 ⟨rfl, hmo, hg⟩
  clear gX0 hmc
  have glz0 := Lib.hid (show ∀ x, ga0 = some x → z0 ≤ x.block from fun x e => Nat.le_trans hz01 (glo0.out x e))
  have hgs := hg.size
  replace hB := Lib.hid (below_grown hB.out hg hB.out.size (fun x e => by have h1 := glz0.out x e; have h2 := hWz.out; omega))
  replace wW0 := Lib.hid (IntK.Row.beside wW0.out hg (ne_block (fun x y hx hy => by have h1 := hhi0.out x hx; have h2 := glz0.out y hy; omega)))
  replace hZ := Lib.hid (Nat.le_trans hZ.out hgs)
  replace hY := Lib.hid (Nat.le_trans hY.out hgs)
  clear hg hgs
  have gM0 := Lib.hid (show IntK.Row _ ga0 (IntK.mkL 1 u0.length) from by
    have h := hmo
    obtain ⟨a', c', e, hr, -⟩ := IntK.Own.slice h
    rw [(Value.slice.inj e).1]
    exact hr)
  clear hmo
  go_wp2_with fail
  refine (hhc0.out _ gM0.out).mono ?_
  rintro e w1 ⟨rfl, hb⟩
  replace hB := Lib.hid (hB.out.trans (hb.mono hB.out.size))
  replace wW0 := Lib.hid (IntK.Row.later wW0.out hb)
  replace hZ := Lib.hid (Nat.le_trans hZ.out hb.size)
  replace hY := Lib.hid (Nat.le_trans hY.out hb.size)
  replace gM0 := Lib.hid (IntK.Row.later gM0.out hb)
  clear hb
  go_wp2_with fail
  refine (KlK.toS_any a0 cap0 rs0 _ (KlK.Row.later hR0.out hB.out) hn0).mono ?_
  rintro e w1 ⟨v, rfl, ho, hb⟩
  replace hB := Lib.hid (hB.out.trans (hb.mono hB.out.size))
  replace wW0 := Lib.hid (IntK.Row.later wW0.out hb)
  replace hZ := Lib.hid (Nat.le_trans hZ.out hb.size)
  replace hY := Lib.hid (Nat.le_trans hY.out hb.size)
  replace gM0 := Lib.hid (IntK.Row.later gM0.out hb)
  obtain ⟨ha0, hc0, rfl, -, hl0⟩ := KlK.Own.slice ho
  have hX0 := Lib.hid ho
  clear ho hb
  go_wp2_with fail
  refine (RuK.toS_any a1 cap1 rs1 _ (RuK.Row.later hR1.out hB.out) hn1).mono ?_
  rintro e w1 ⟨v, rfl, ho, hb⟩
  replace hB := Lib.hid (hB.out.trans (hb.mono hB.out.size))
  replace wW0 := Lib.hid (IntK.Row.later wW0.out hb)
  replace hZ := Lib.hid (Nat.le_trans hZ.out hb.size)
  replace hY := Lib.hid (Nat.le_trans hY.out hb.size)
  replace gM0 := Lib.hid (IntK.Row.later gM0.out hb)
  replace hX0 := Lib.hid (KlK.Own.below hX0.out hb)
  obtain ⟨ha1, hc1, rfl, -, hl1⟩ := RuK.Own.slice ho
  have hX1 := Lib.hid ho
  clear ho hb
  go_wp2_with fail
  refine (HI.out _ _ _ _ _ (KlK.Own.le hX0.out) (KlK.Own.row hX0.out) (RuK.Own.le hX1.out) (RuK.Own.row hX1.out)).mono ?_
  rintro e w1 ⟨v0, rfl, ho0, hb⟩
  replace hB := Lib.hid (hB.out.trans (hb.mono hB.out.size))
  replace wW0 := Lib.hid (IntK.Row.later wW0.out hb)
  replace hZ := Lib.hid (Nat.le_trans hZ.out hb.size)
  replace hY := Lib.hid (Nat.le_trans hY.out hb.size)
  replace gM0 := Lib.hid (IntK.Row.later gM0.out hb)
  replace hX0 := Lib.hid (KlK.Own.below hX0.out hb)
  replace hX1 := Lib.hid (RuK.Own.below hX1.out hb)
  obtain ⟨ha0, hc0, rfl, hr0, hl0⟩ := IntK.Own.slice ho0
  have hX0 := Lib.hid ho0
  clear ho0 hr0
  clear hb
  go_wp2_with fail
  refine (IntK.eqS_same _ _ _ _ u0 _ (IntK.Own.row hX0.out) wW0.out hum0).mono ?_
  rintro e w1 ⟨rfl, hb⟩
  replace hB := Lib.hid (hB.out.trans (hb.mono hB.out.size))
  replace wW0 := Lib.hid (IntK.Row.later wW0.out hb)
  replace hZ := Lib.hid (Nat.le_trans hZ.out hb.size)
  replace hY := Lib.hid (Nat.le_trans hY.out hb.size)
  replace gM0 := Lib.hid (IntK.Row.later gM0.out hb)
  replace hX0 := Lib.hid (IntK.Own.below hX0.out hb)
  clear hb
  go_wp2_with fail
  refine (hhc0.out _ gM0.out).mono ?_
  rintro e w1 ⟨rfl, hb⟩
  replace hB := Lib.hid (hB.out.trans (hb.mono hB.out.size))
  replace wW0 := Lib.hid (IntK.Row.later wW0.out hb)
  replace hZ := Lib.hid (Nat.le_trans hZ.out hb.size)
  replace hY := Lib.hid (Nat.le_trans hY.out hb.size)
  replace gM0 := Lib.hid (IntK.Row.later gM0.out hb)
  replace hX0 := Lib.hid (IntK.Own.below hX0.out hb)
  clear hb
  go_wp2
  go_ret
  exact ⟨rfl, hB.out⟩

end Go.Proofs.Ytnenaponiahalaa.FilL
