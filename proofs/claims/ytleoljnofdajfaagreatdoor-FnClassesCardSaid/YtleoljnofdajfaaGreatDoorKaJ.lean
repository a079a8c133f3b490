/- BestClass: both texts. -/
import Derived.Test.YtleoljnofdajfaaGreatDoorKaB
namespace Go.Proofs.YtleoljnofdajfaaGreatDoor.KaJ
open Go.RowKit Lb Bk InA KlI KaA KaG KaD KaF KaH KaB
open KlK (at_ at_lt no Row Own cells cells_one blk_cells info blk_all)
set_option linter.unusedSimpArgs false
set_option linter.unusedVariables false

/-- What BestClass answers. -/
def beO (rs : List Kl) (r : Ru) : Option Kl := mo (rs.filter (fun c => admR c r))
def beB (rs : List Kl) (r : Ru) : Bool := cfB rs r && (beO rs r).isSome
def beZ (rs : List Kl) (r : Ru) : Int := if cfB rs r then ((beO rs r).getD no).id else 0
theorem be_bad {rs : List Kl} {r : Ru} (h : cfB rs r = false) : beB rs r = false ∧ beZ rs r = 0 := by
  unfold beB beZ
  rw [h]
  exact ⟨rfl, rfl⟩
theorem be_no {rs : List Kl} {r : Ru} (h : beO rs r = none) : beB rs r = false ∧ beZ rs r = 0 := by
  unfold beB beZ
  rw [h]
  exact ⟨by simp, by split <;> rfl⟩
theorem be_yes {rs : List Kl} {r : Ru} {m : Kl} (hg : cfB rs r = true) (h : beO rs r = some m) : beB rs r = true ∧ beZ rs r = m.id := by
  unfold beB beZ
  rw [h, hg]
  exact ⟨rfl, rfl⟩
def ZPost (w : World) (z : Int) (ok : Bool) (e : Ending) (w' : World) : Prop := e = .returned (.tuple #[.int .i64 z, .bool ok]) ∧ Below w.heap.size w w'
theorem fil_ok {p : Kl → Bool} {rs : List Kl} (h : goodB rs = true) : ∀ i, i < (rs.filter p).length → okK (at_ (rs.filter p) i) = true := by
  intro i hi
  rw [at_lt hi]
  have h1 := List.getElem_mem hi
  have h2 := (List.mem_filter.1 h1).1
  obtain ⟨j, hj, e⟩ := List.mem_iff_getElem.1 h2
  rw [← e, ← at_lt hj]
  exact good_ok h hj

set_option maxRecDepth 20000 in
set_option maxHeartbeats 4000000 in
theorem best_impl (rs : List Kl) (hf : ∀ i, i < rs.length → KlK.Is (at_ rs i)) (hl : rs.length ≤ 1048576) (r : Ru) (hr0 : RuK.Is r) (a : Option Addr) (cap : Nat) (w : World) (hc : rs.length ≤ cap) (hr : Row w a rs) :
    Calls Tryz.prog 13 #[.slice a rs.length cap, .agg #[.int .i64 r.id, .string r.nm, .string r.cl, .int .i64 r.bo, .bool r.wo, .int .i64 r.ca]] w (ZPost w (beZ rs r) (beB rs r)) := by
  have HB := Lib.hid ((Below.refl w.heap.size w).alloc (Nat.le_refl _) (.cells #[.int .i64 r.id, .string r.nm, .string r.cl, .int .i64 r.bo, .bool r.wo, .int .i64 r.ca] 35))
  have HK := Lib.hid (Blk.new w 35 #[.int .i64 r.id, .string r.nm, .string r.cl, .int .i64 r.bo, .bool r.wo, .int .i64 r.ca])
  have H := Lib.hid (hr.later HB.out)
  have hml : rs.length ≤ maxLen := by unfold maxLen; omega
  obtain ⟨g, hg⟩ : ∃ g, goodB rs = g := ⟨_, rfl⟩
  have c1 := Lib.hid (fun w hr => hg ▸ KaA.impl_any a cap rs w hc hr hf hml)
  have HG := Lib.hid hg
  obtain ⟨v, hv⟩ : ∃ v, RuI.okR r = v := ⟨_, rfl⟩
  have c2 := Lib.hid (fun w => hv ▸ RuI.impl_any r hr0 w)
  have HV := Lib.hid hv
  obtain ⟨ok, hok⟩ : ∃ ok, beB rs r = ok := ⟨_, rfl⟩
  obtain ⟨z, hz⟩ : ∃ z, beZ rs r = z := ⟨_, rfl⟩
  have HO := Lib.hid hok
  have HZ := Lib.hid hz
  rw [hok, hz]
  have c3 := Lib.hid (fun (h : RuI.okR r = true) w hr => admitting_any r (ok_bo h).1 (ok_bo h).2 rs hl a cap w hr)
  have HL := Lib.hid hl
  clear hr hg hok hz hf hv hr0
  obtain ⟨⟨q0, q1, q2, q3, q4, q5⟩, -⟩ := RuK.blk_cells HK.out
  go_enter Tryz.func13, Tryz.ntmps13
  go_wp2_with fail
  refine (c1.out _ H.out).mono ?_
  rintro e w1 ⟨rfl, hb⟩
  have HB1 := Lib.hid (HB.out.trans (hb.mono HB.out.size))
  have HK1 := Lib.hid (HK.out.later hb)
  have H1 := Lib.hid (H.out.later hb)
  clear hb HB HK H q0 q1 q2 q3 q4 q5
  obtain ⟨⟨q0, q1, q2, q3, q4, q5⟩, -⟩ := RuK.blk_cells HK1.out
  cases g with
  | false =>
    obtain ⟨h1, h2⟩ := be_bad (rs := rs) (r := r) (by unfold cfB; rw [HG.out]; rfl)
    rw [HO.out] at h1
    rw [HZ.out] at h2
    subst h1 h2
    go_wp2
    go_ret2
    exact ⟨rfl, HB1.out⟩
  | true =>
  go_wp2_with fail
  refine (c2.out _).mono ?_
  rintro e w2 ⟨rfl, hb⟩
  have HB2 := Lib.hid (HB1.out.trans (hb.mono HB1.out.size))
  have HK2 := Lib.hid (HK1.out.later hb)
  have H2 := Lib.hid (H1.out.later hb)
  clear hb HB1 HK1 H1 q0 q1 q2 q3 q4 q5
  obtain ⟨⟨q0, q1, q2, q3, q4, q5⟩, -⟩ := RuK.blk_cells HK2.out
  have hsz := HB2.out.size
  cases v with
  | false =>
    obtain ⟨h1, h2⟩ := be_bad (rs := rs) (r := r) (by unfold cfB; rw [HV.out]; simp)
    rw [HO.out] at h1
    rw [HZ.out] at h2
    subst h1 h2
    go_wp2
    go_ret2
    exact ⟨rfl, HB2.out⟩
  | true =>
    have HC := Lib.hid (show cfB rs r = true from by unfold cfB; rw [HG.out, HV.out]; rfl)
    obtain ⟨fs, hfs⟩ : ∃ fs, rs.filter (fun c => admR c r) = fs := ⟨_, rfl⟩
    have hfl : fs.length ≤ 1048576 := by rw [← hfs]; have := fil_len (fun c => admR c r) rs; omega
    have HE := Lib.hid (show beO rs r = mo fs from by rw [← hfs]; rfl)
    have HQ := Lib.hid (show ∀ i, i < fs.length → okK (at_ fs i) = true from by rw [← hfs]; exact fil_ok HG.out)
    have c4 := Lib.hid (fun w hr => hfs ▸ c3.out HV.out w hr)
    clear hfs c3 c1 c2
    go_wp2_with fail
    refine (c4.out _ H2.out).mono ?_
    rintro e w4 ⟨v4, rfl, ho, hb⟩
    obtain ⟨fa, fc, rfl, hrow, -⟩ := ho.slice
    have HF4 := Lib.hid hrow
    have HB4 := Lib.hid (HB2.out.trans (hb.mono hsz))
    clear ho hb hrow c4 q0 q1 q2 q3 q4 q5
    rcases hmo : mo fs with _ | m
    · have he := mo_none.1 hmo
      obtain ⟨h1, h2⟩ := be_no (HE.out.trans hmo)
      rw [HO.out] at h1
      rw [HZ.out] at h2
      subst h1 h2
      subst he
      clear hmo
      go_wp2
      go_ret2
      exact ⟨rfl, HB4.out⟩
    · obtain ⟨h1, h2⟩ := be_yes HC.out (HE.out.trans hmo)
      rw [HO.out] at h1
      rw [HZ.out] at h2
      have HW2 := Lib.hid h2
      have hpos : 0 < fs.length := by
        rcases Nat.eq_zero_or_pos fs.length with h | h
        · rw [mo_none.2 (List.eq_nil_of_length_eq_zero h)] at hmo
          cases hmo
        · exact h
      have CM := Lib.hid (fun w hr => min_any 44 #[] (fun c => okK c = true) w (fun args w => FnEn.enter_of Tryz.func44 (by kernel_rfl) rfl args w)
        (fun x y hx hy w' _ => (cw_any x y (ok_ages hx) (ok_ages hy) w').mono fun e w'' h => ⟨⟨_, h.1, cw_lt x y⟩, h.2⟩) fa fc fs hr HQ.out hfl m hmo)
      obtain ⟨n, hn⟩ : ∃ n, fs.length = n := ⟨_, rfl⟩
      have hne : ((n : Int) == 0) = false := by simp; omega
      have hne2 : ¬ n = 0 := by omega
      rw [hn] at CM hpos hfl ⊢
      subst h1
      have hfd : ∀ w : World, (Instr.field 25 (.agg #[.int .i64 m.id, .string m.nm, .int .i64 m.lo, .int .i64 m.hi, .bool m.wo, .bool m.me, .int .i64 m.co, .int .i64 m.mo]) 0).run Tryz.prog w = .ok (.int .i64 m.id) w := fun _ => by kernel_rfl
      clear hmo h2 hn
      go_wp2_with fail
      refine (CM.out _ HF4.out).mono ?_
      rintro e w5 ⟨rfl, hb⟩
      have HB5 := Lib.hid (HB4.out.trans (hb.mono HB4.out.size))
      clear hb
      go_wp2
      go_ret2
      exact ⟨by rw [← HW2.out]; rfl, HB5.out⟩

set_option maxHeartbeats 1000000 in
theorem key_any (c : Kl) (hk : 0 ≤ c.lo ∧ c.lo ≤ c.hi ∧ c.hi ≤ 120) (w : World) : Calls Tryz.prog 48 #[.agg #[.int .i64 c.id, .string c.nm, .int .i64 c.lo, .int .i64 c.hi, .bool c.wo, .bool c.me, .int .i64 c.co, .int .i64 c.mo]] w fun e w' => e = .returned (.int .i64 (keyK c)) ∧ Below w.heap.size w w' := by
  obtain ⟨⟨p0, p1, p2, p3, p4, p5, p6, p7⟩, -⟩ := blk_cells (Blk.new w 25 #[.int .i64 c.id, .string c.nm, .int .i64 c.lo, .int .i64 c.hi, .bool c.wo, .bool c.me, .int .i64 c.co, .int .i64 c.mo])
  obtain ⟨z, hz⟩ : ∃ z, keyK c = z := ⟨_, rfl⟩
  obtain ⟨wo, hwo⟩ : ∃ d, c.wo = d := ⟨_, rfl⟩
  obtain ⟨me, hme⟩ : ∃ d, c.me = d := ⟨_, rfl⟩
  have HZ := Lib.hid (show 2 * (c.hi - c.lo) + (if (wo && me) then (1 : Int) else 0) = z from by rw [← hz, ← hwo, ← hme]; rfl)
  rw [hz]
  rw [hwo] at p4
  rw [hme] at p5
  obtain ⟨k1, k2, k3⟩ := hk
  clear hz
  cases wo
  · go_enter Tryz.func48, Tryz.ntmps48
    go_wp2
    go_ret
    exact ⟨KaB.ret_int (by rw [← HZ.out]; simp), (Below.refl _ _).alloc (Nat.le_refl _) _⟩
  · cases me
    all_goals
      go_enter Tryz.func48, Tryz.ntmps48
      go_wp2
      go_ret
      exact ⟨KaB.ret_int (by rw [← HZ.out]; simp), (Below.refl _ _).alloc (Nat.le_refl _) _⟩

/-- The place of the best one of the first ones. -/
def BA (rs : List Kl) (p : Kl → Bool) (k : Nat) (z : Int) : Prop := (z = -1 ∧ mo ((rs.take k).filter p) = none) ∨ ∃ j : Nat, j < k ∧ z = (j : Int) ∧ mo ((rs.take k).filter p) = some (at_ rs j)
theorem BA.skip {rs : List Kl} {p : Kl → Bool} {k : Nat} {z : Int} (h : BA rs p k z) (hk : k < rs.length) (hp : p (at_ rs k) = false) : BA rs p (k + 1) z := by
  unfold BA
  rw [fil_skip hk hp]
  rcases h with h | ⟨j, h1, h2, h3⟩
  · exact .inl h
  · exact .inr ⟨j, by omega, h2, h3⟩
theorem BA.keep {rs : List Kl} {p : Kl → Bool} {k j : Nat} (h : mo ((rs.take k).filter p) = some (at_ rs j)) (hj : j < k) (hk : k < rs.length) (hp : p (at_ rs k) = true) (hq : ¬ keyK (at_ rs k) < keyK (at_ rs j)) : BA rs p (k + 1) (j : Int) := by
  unfold BA
  rw [fil_take hk hp, mo_snoc, h]
  exact .inr ⟨j, by omega, rfl, if_neg hq⟩
theorem BA.first {rs : List Kl} {p : Kl → Bool} {k : Nat} (h : mo ((rs.take k).filter p) = none) (hk : k < rs.length) (hp : p (at_ rs k) = true) : BA rs p (k + 1) (k : Int) := by
  unfold BA
  rw [fil_take hk hp, mo_snoc, h]
  exact .inr ⟨k, by omega, rfl, rfl⟩
theorem BA.take {rs : List Kl} {p : Kl → Bool} {k j : Nat} (h : mo ((rs.take k).filter p) = some (at_ rs j)) (hk : k < rs.length) (hp : p (at_ rs k) = true) (hq : keyK (at_ rs k) < keyK (at_ rs j)) : BA rs p (k + 1) (k : Int) := by
  unfold BA
  rw [fil_take hk hp, mo_snoc, h]
  exact .inr ⟨k, by omega, rfl, if_pos hq⟩

set_option maxRecDepth 20000 in
set_option maxHeartbeats 8000000 in
theorem best_spec (rs : List Kl) (hf : ∀ i, i < rs.length → KlK.Is (at_ rs i)) (hl : rs.length ≤ 1048576) (r : Ru) (hr0 : RuK.Is r) (a : Option Addr) (cap : Nat) (w : World) (hr : Row w a rs) :
    Calls Tryz.prog 14 #[.slice a rs.length cap, .agg #[.int .i64 r.id, .string r.nm, .string r.cl, .int .i64 r.bo, .bool r.wo, .int .i64 r.ca]] w (ZPost w (beZ rs r) (beB rs r)) := by
  have HB := Lib.hid ((Below.refl w.heap.size w).alloc (Nat.le_refl _) (.cells #[.int .i64 r.id, .string r.nm, .string r.cl, .int .i64 r.bo, .bool r.wo, .int .i64 r.ca] 35))
  have HK := Lib.hid (Blk.new w 35 #[.int .i64 r.id, .string r.nm, .string r.cl, .int .i64 r.bo, .bool r.wo, .int .i64 r.ca])
  have H := Lib.hid (hr.later HB.out)
  have hml : rs.length ≤ maxLen := by unfold maxLen; omega
  obtain ⟨g, hg⟩ : ∃ g, goodB rs = g := ⟨_, rfl⟩
  have c1 := Lib.hid (fun w hr => hg ▸ good_any a cap rs w hr hf hml)
  have HG := Lib.hid hg
  obtain ⟨v, hv⟩ : ∃ v, RuI.okR r = v := ⟨_, rfl⟩
  have c2 := Lib.hid (fun w => hv ▸ RuI.spec_one r hr0 w)
  have HV := Lib.hid hv
  obtain ⟨ok, hok⟩ : ∃ ok, beB rs r = ok := ⟨_, rfl⟩
  obtain ⟨z, hz⟩ : ∃ z, beZ rs r = z := ⟨_, rfl⟩
  have HO := Lib.hid hok
  have HZ := Lib.hid hz
  rw [hok, hz]
  obtain ⟨n, hn⟩ : ∃ n, rs.length = n := ⟨_, rfl⟩
  have HN := Lib.hid hn
  rw [hn] at hl c1 ⊢
  obtain ⟨B, hB⟩ : ∃ B, w.heap.size = B := ⟨_, rfl⟩
  have HBq := Lib.hid hB
  obtain ⟨⟨q0, q1, q2, q3, q4, q5⟩, -⟩ := RuK.blk_cells HK.out
  clear hr hg hok hz hf hv hr0 hn hB hml
  go_enter Tryz.func14, Tryz.ntmps14
  go_wp2_with fail
  refine (c1.out _ H.out).mono ?_
  rintro e w1 ⟨rfl, hb⟩
  have HB1 := Lib.hid (HB.out.trans (hb.mono HB.out.size))
  have HK1 := Lib.hid (HK.out.later hb)
  have H1 := Lib.hid (H.out.later hb)
  clear hb HB HK H q0 q1 q2 q3 q4 q5
  obtain ⟨⟨q0, q1, q2, q3, q4, q5⟩, -⟩ := RuK.blk_cells HK1.out
  cases g with
  | false =>
    obtain ⟨h1, h2⟩ := be_bad (rs := rs) (r := r) (by unfold cfB; rw [HG.out]; rfl)
    rw [HO.out] at h1
    rw [HZ.out] at h2
    subst h1 h2
    go_wp2
    go_ret2
    exact ⟨rfl, HB1.out⟩
  | true =>
  go_wp2_with fail
  refine (c2.out _).mono ?_
  rintro e w2 ⟨rfl, hb⟩
  have HB2 := Lib.hid (HB1.out.trans (hb.mono HB1.out.size))
  have HK2 := Lib.hid (HK1.out.later hb)
  have H2 := Lib.hid (H1.out.later hb)
  clear hb HB1 HK1 H1 q0 q1 q2 q3 q4 q5
  cases v with
  | false =>
    obtain ⟨h1, h2⟩ := be_bad (rs := rs) (r := r) (by unfold cfB; rw [HV.out]; simp)
    rw [HO.out] at h1
    rw [HZ.out] at h2
    subst h1 h2
    go_wp2
    go_ret2
    exact ⟨rfl, HB2.out⟩
  | true =>
    have HC := Lib.hid (show cfB rs r = true from by unfold cfB; rw [HG.out, HV.out]; rfl)
    obtain ⟨hb1, hb2⟩ := ok_bo HV.out
    obtain ⟨ag, hag⟩ : ∃ x, 2026 - r.bo = x := ⟨_, rfl⟩
    have hwr : IntKind.i64.wrap (2026 - r.bo) = ag := by rw [← hag]; exact IntWalk.i64_in _ (by omega)
    have HAG := Lib.hid hag
    have HSz := Lib.hid HB2.out.size
    have HGL := Lib.hid (good_len HG.out)
    have HKq := Lib.hid (show Blk w2 B 35 #[.int .i64 r.id, .string r.nm, .string r.cl, .int .i64 r.bo, .bool r.wo, .int .i64 r.ca] from HBq.out ▸ HK2.out)
    clear hag hb1 hb2 c1 c2 HK2
    go_wp2_with fail
    try rw [HBq.out]
    go_loopw [7, 6] (fun i bz wr => ∃ (k : Nat) (z : Int), k ≤ n ∧ i = .int .i64 k ∧ bz = .int .i64 z ∧ BA rs (fun c => admR c r) k z ∧ Below w.heap.size w wr ∧ Blk wr B 35 #[.int .i64 r.id, .string r.nm, .string r.cl, .int .i64 r.bo, .bool r.wo, .int .i64 r.ca] ∧ Row wr a rs) (fun i _ _ => n - (intOf i).toNat)
    case atStart => exact ⟨0, -1, Nat.zero_le _, rfl, rfl, .inl ⟨rfl, rfl⟩, HB2.out, HKq.out, H2.out⟩
    case round =>
      clear HB2 HKq H2 HSz
      obtain ⟨k, bz, hk, rfl, rfl, hA, hB, hK, hR⟩ := hrel
      have HA := Lib.hid hA
      have HB := Lib.hid hB
      have HK := Lib.hid hK
      have HR := Lib.hid hR
      clear hA hB hK hR
      by_cases hlt : k < n
      · obtain ⟨b, off, rfl, c0, c1, c2, c3, c4, c5, c6, c7⟩ := HR.out.cells (i := k) (by rw [HN.out]; exact hlt)
        obtain ⟨y, hy⟩ : ∃ y, at_ rs k = y := ⟨_, rfl⟩
        rw [hy] at c0 c1 c2 c3 c4 c5 c6 c7
        have HY := Lib.hid hy
        have HOK := Lib.hid (show okK y = true from by have := good_ok HG.out (i := k) (by rw [HN.out]; exact hlt); rwa [hy] at this)
        obtain ⟨⟨q0, q1, q2, q3, q4, q5⟩, -⟩ := RuK.blk_cells HK.out
        obtain ⟨ad, had⟩ : ∃ o, admR y r = o := ⟨_, rfl⟩
        have HAD := Lib.hid had
        have CP := Lib.hid (fun w => (show admB y ag r.wo = ad from by rw [← had, ← HAG.out]; rfl) ▸ adm_spec y ag r.wo w)
        clear hy had
        have hk0 : (0 : Int) ≤ (k : Int) := by omega
        have hk1 : (k : Int) < (n : Int) := by omega
        go_upto_region 7 with (fail)
        go_cut [48] from 22 to 49 (fun t wx => (∃ tk : Bool, t = .bool tk ∧ BA rs (fun c => admR c r) (k + 1) (if tk then (k : Int) else bz)) ∧ Below w.heap.size w wx ∧ Blk wx B 35 #[.int .i64 r.id, .string r.nm, .string r.cl, .int .i64 r.bo, .bool r.wo, .int .i64 r.ca] ∧ Row wx (some ⟨b, off, none⟩) rs)
        case first =>
          have hu : undef = Value.tuple #[] := rfl
          cases ad with
          | false =>
            refine wp_region_noPanic ?_
            refine wp_region_held_drew (S := (fun Wx : World => Wx.cell? ⟨b, off + k * 8, none⟩ = some (.int .i64 y.id) ∧ Wx.cell? ⟨b, off + k * 8 + 1, none⟩ = some (.string y.nm) ∧ Wx.cell? ⟨b, off + k * 8 + 2, none⟩ = some (.int .i64 y.lo) ∧ Wx.cell? ⟨b, off + k * 8 + 3, none⟩ = some (.int .i64 y.hi) ∧ Wx.cell? ⟨b, off + k * 8 + 4, none⟩ = some (.bool y.wo) ∧ Wx.cell? ⟨b, off + k * 8 + 5, none⟩ = some (.bool y.me) ∧ Wx.cell? ⟨b, off + k * 8 + 6, none⟩ = some (.int .i64 y.co) ∧ Wx.cell? ⟨b, off + k * 8 + 7, none⟩ = some (.int .i64 y.mo) ∧ Wx.cell? ⟨B, 0, none⟩ = some (.int .i64 r.id) ∧ Wx.cell? ⟨B, 1, none⟩ = some (.string r.nm) ∧ Wx.cell? ⟨B, 2, none⟩ = some (.string r.cl) ∧ Wx.cell? ⟨B, 3, none⟩ = some (.int .i64 r.bo) ∧ Wx.cell? ⟨B, 4, none⟩ = some (.bool r.wo) ∧ Wx.cell? ⟨B, 5, none⟩ = some (.int .i64 r.ca))) (by kernel_rfl) ⟨c0, c1, c2, c3, c4, c5, c6, c7, q0, q1, q2, q3, q4, q5⟩ (fun hHeld => ?_)
            refine wpAnyH_take (i := 0) (oi := _) (v := ?_) rfl (by kernel_rfl) (by kernel_rfl) (by kernel_rfl) (fun _ _ _ h => h) (Or.inl ⟨by rfl, ?_⟩) (by assumption) ?_; rotate_left; focus (intro W hSw; (try dsimp only at hSw); go_simp; (first | done | with_reducible rfl))
            (try simp only [List.getElem_toArray, List.getElem_cons_succ, List.getElem_cons_zero, Act.put, List.setIfInBounds_toArray, List.set_cons_zero, List.set_cons_succ])
            refine wpAnyH_take (i := 1) (oi := _) (v := ?_) rfl (by kernel_rfl) (by kernel_rfl) (by kernel_rfl) (fun _ _ _ h => h) (Or.inl ⟨by rfl, ?_⟩) (by assumption) ?_; rotate_left; focus (intro W hSw; (try dsimp only at hSw); go_simp; (first | done | with_reducible rfl))
            (try simp only [List.getElem_toArray, List.getElem_cons_succ, List.getElem_cons_zero, Act.put, List.setIfInBounds_toArray, List.set_cons_zero, List.set_cons_succ])
            refine wpAnyH_take (i := 2) (oi := _) (v := ?_) rfl (by kernel_rfl) (by kernel_rfl) (by kernel_rfl) (fun _ _ _ h => h) (Or.inl ⟨by rfl, ?_⟩) (by assumption) ?_; rotate_left; focus (intro W hSw; (try dsimp only at hSw); go_simp; (first | done | with_reducible rfl))
            (try simp only [List.getElem_toArray, List.getElem_cons_succ, List.getElem_cons_zero, Act.put, List.setIfInBounds_toArray, List.set_cons_zero, List.set_cons_succ])
            refine wpAnyH_take (i := 3) (oi := _) (v := ?_) rfl (by kernel_rfl) (by kernel_rfl) (by kernel_rfl) (fun _ _ _ h => h) (Or.inl ⟨by rfl, ?_⟩) (by assumption) ?_; rotate_left; focus (intro W hSw; (try dsimp only at hSw); go_simp; (first | done | with_reducible rfl))
            (try simp only [List.getElem_toArray, List.getElem_cons_succ, List.getElem_cons_zero, Act.put, List.setIfInBounds_toArray, List.set_cons_zero, List.set_cons_succ])
            refine wpAnyH_take (i := 4) (oi := _) (v := ?_) rfl (by kernel_rfl) (by kernel_rfl) (by kernel_rfl) (fun _ _ _ h => h) (Or.inl ⟨by rfl, ?_⟩) (by assumption) ?_; rotate_left; focus (intro W hSw; (try dsimp only at hSw); go_simp; (first | done | with_reducible rfl))
            (try simp only [List.getElem_toArray, List.getElem_cons_succ, List.getElem_cons_zero, Act.put, List.setIfInBounds_toArray, List.set_cons_zero, List.set_cons_succ])
            refine wpAnyH_take (i := 5) (oi := _) (v := ?_) rfl (by kernel_rfl) (by kernel_rfl) (by kernel_rfl) (fun _ _ _ h => h) (Or.inl ⟨by rfl, ?_⟩) (by assumption) ?_; rotate_left; focus (intro W hSw; (try dsimp only at hSw); go_simp; (first | done | with_reducible rfl))
            (try simp only [List.getElem_toArray, List.getElem_cons_succ, List.getElem_cons_zero, Act.put, List.setIfInBounds_toArray, List.set_cons_zero, List.set_cons_succ])
            refine wpAnyH_take (i := 6) (oi := _) (v := ?_) rfl (by kernel_rfl) (by kernel_rfl) (by kernel_rfl) (fun _ _ _ h => h) (Or.inl ⟨by rfl, ?_⟩) (by assumption) ?_; rotate_left; focus (intro W hSw; (try dsimp only at hSw); go_simp; (first | done | with_reducible rfl))
            (try simp only [List.getElem_toArray, List.getElem_cons_succ, List.getElem_cons_zero, Act.put, List.setIfInBounds_toArray, List.set_cons_zero, List.set_cons_succ])
            refine wpAnyH_take (i := 7) (oi := _) (v := ?_) rfl (by kernel_rfl) (by kernel_rfl) (by kernel_rfl) (fun _ _ _ h => h) (Or.inl ⟨by rfl, ?_⟩) (by assumption) ?_; rotate_left; focus (intro W hSw; (try dsimp only at hSw); go_simp; (first | done | with_reducible rfl))
            (try simp only [List.getElem_toArray, List.getElem_cons_succ, List.getElem_cons_zero, Act.put, List.setIfInBounds_toArray, List.set_cons_zero, List.set_cons_succ])
            refine wpAnyH_take (i := 8) (oi := _) (v := ?_) rfl (by kernel_rfl) (by kernel_rfl) (by kernel_rfl) (fun _ _ _ h => h) (Or.inl ⟨by rfl, ?_⟩) (by assumption) ?_; rotate_left; focus (intro W hSw; (try dsimp only at hSw); go_simp; (first | done | with_reducible rfl))
            (try simp only [List.getElem_toArray, List.getElem_cons_succ, List.getElem_cons_zero, Act.put, List.setIfInBounds_toArray, List.set_cons_zero, List.set_cons_succ])
            refine wpAnyH_ready (rs := [9]) (by kernel_rfl) (by simp) ?_
            refine AllReadyH.cons (o := _) rfl (fun K hK => ?_) AllReadyH.nil
            go_simp
            go_at_call 47
            refine (CP.out _).mono ?_
            rintro e w3 ⟨rfl, hb⟩
            have hS3 : (w3.cell? ⟨b, off + k * 8, none⟩ = some (.int .i64 y.id) ∧ w3.cell? ⟨b, off + k * 8 + 1, none⟩ = some (.string y.nm) ∧ w3.cell? ⟨b, off + k * 8 + 2, none⟩ = some (.int .i64 y.lo) ∧ w3.cell? ⟨b, off + k * 8 + 3, none⟩ = some (.int .i64 y.hi) ∧ w3.cell? ⟨b, off + k * 8 + 4, none⟩ = some (.bool y.wo) ∧ w3.cell? ⟨b, off + k * 8 + 5, none⟩ = some (.bool y.me) ∧ w3.cell? ⟨b, off + k * 8 + 6, none⟩ = some (.int .i64 y.co) ∧ w3.cell? ⟨b, off + k * 8 + 7, none⟩ = some (.int .i64 y.mo) ∧ w3.cell? ⟨B, 0, none⟩ = some (.int .i64 r.id) ∧ w3.cell? ⟨B, 1, none⟩ = some (.string r.nm) ∧ w3.cell? ⟨B, 2, none⟩ = some (.string r.cl) ∧ w3.cell? ⟨B, 3, none⟩ = some (.int .i64 r.bo) ∧ w3.cell? ⟨B, 4, none⟩ = some (.bool r.wo) ∧ w3.cell? ⟨B, 5, none⟩ = some (.int .i64 r.ca)) := ⟨(hb.cell (World.block_lt_of_cell? wr.drew _ c0)).trans c0, (hb.cell (World.block_lt_of_cell? wr.drew _ c1)).trans c1, (hb.cell (World.block_lt_of_cell? wr.drew _ c2)).trans c2, (hb.cell (World.block_lt_of_cell? wr.drew _ c3)).trans c3, (hb.cell (World.block_lt_of_cell? wr.drew _ c4)).trans c4, (hb.cell (World.block_lt_of_cell? wr.drew _ c5)).trans c5, (hb.cell (World.block_lt_of_cell? wr.drew _ c6)).trans c6, (hb.cell (World.block_lt_of_cell? wr.drew _ c7)).trans c7, (hb.cell (World.block_lt_of_cell? wr.drew _ q0)).trans q0, (hb.cell (World.block_lt_of_cell? wr.drew _ q1)).trans q1, (hb.cell (World.block_lt_of_cell? wr.drew _ q2)).trans q2, (hb.cell (World.block_lt_of_cell? wr.drew _ q3)).trans q3, (hb.cell (World.block_lt_of_cell? wr.drew _ q4)).trans q4, (hb.cell (World.block_lt_of_cell? wr.drew _ q5)).trans q5⟩
            have HB3 := Lib.hid (HB.out.drew.trans (hb.mono HB.out.size))
            have HK3 := Lib.hid (HK.out.drew.later hb)
            have HR3 := Lib.hid (Row.later (Row.drew HR.out) hb)
            clear hb
            go_wp2_with fail
            refine hK.out _ _ hS3 (fun _ => ?_)
            clear hK K hHeld
            obtain ⟨e0, e1, e2, e3, e4, e5, e6, e7, e8, e9, e10, e11, e12, e13⟩ := hS3
            refine wpAnyH_take (i := 10) (oi := _) (v := ?_) rfl (by kernel_rfl) (by kernel_rfl) (by kernel_rfl) (fun _ _ _ h => h) (Or.inl ⟨by rfl, ?_⟩) (by assumption) ?_; rotate_left; focus (intro W hSw; (try dsimp only at hSw); go_simp; (first | done | with_reducible rfl))
            (try simp only [List.getElem_toArray, List.getElem_cons_succ, List.getElem_cons_zero, Act.put, List.setIfInBounds_toArray, List.set_cons_zero, List.set_cons_succ])
            refine wpAnyH_take (i := 11) (oi := _) (v := _) rfl (by kernel_rfl) (by kernel_rfl) (by kernel_rfl) (fun _ _ _ h => h) (Or.inr ⟨by rfl, rfl⟩) (by assumption) ?_
            (try simp only [List.getElem_toArray, List.getElem_cons_succ, List.getElem_cons_zero, Act.put, List.setIfInBounds_toArray, List.set_cons_zero, List.set_cons_succ])
            refine wpAnyH_take (i := 12) (oi := _) (v := _) rfl (by kernel_rfl) (by kernel_rfl) (by kernel_rfl) (fun _ _ _ h => h) (Or.inr ⟨by rfl, rfl⟩) (by assumption) ?_
            (try simp only [List.getElem_toArray, List.getElem_cons_succ, List.getElem_cons_zero, Act.put, List.setIfInBounds_toArray, List.set_cons_zero, List.set_cons_succ])
            refine wpAnyH_take (i := 13) (oi := _) (v := _) rfl (by kernel_rfl) (by kernel_rfl) (by kernel_rfl) (fun _ _ _ h => h) (Or.inr ⟨by rfl, rfl⟩) (by assumption) ?_
            (try simp only [List.getElem_toArray, List.getElem_cons_succ, List.getElem_cons_zero, Act.put, List.setIfInBounds_toArray, List.set_cons_zero, List.set_cons_succ])
            refine wpAnyH_take (i := 14) (oi := _) (v := _) rfl (by kernel_rfl) (by kernel_rfl) (by kernel_rfl) (fun _ _ _ h => h) (Or.inr ⟨by rfl, rfl⟩) (by assumption) ?_
            (try simp only [List.getElem_toArray, List.getElem_cons_succ, List.getElem_cons_zero, Act.put, List.setIfInBounds_toArray, List.set_cons_zero, List.set_cons_succ])
            refine wpAnyH_take (i := 15) (oi := _) (v := _) rfl (by kernel_rfl) (by kernel_rfl) (by kernel_rfl) (fun _ _ _ h => h) (Or.inr ⟨by rfl, rfl⟩) (by assumption) ?_
            (try simp only [List.getElem_toArray, List.getElem_cons_succ, List.getElem_cons_zero, Act.put, List.setIfInBounds_toArray, List.set_cons_zero, List.set_cons_succ])
            refine wpAnyH_take (i := 16) (oi := _) (v := _) rfl (by kernel_rfl) (by kernel_rfl) (by kernel_rfl) (fun _ _ _ h => h) (Or.inr ⟨by rfl, rfl⟩) (by assumption) ?_
            (try simp only [List.getElem_toArray, List.getElem_cons_succ, List.getElem_cons_zero, Act.put, List.setIfInBounds_toArray, List.set_cons_zero, List.set_cons_succ])
            refine wpAnyH_take (i := 17) (oi := _) (v := _) rfl (by kernel_rfl) (by kernel_rfl) (by kernel_rfl) (fun _ _ _ h => h) (Or.inr ⟨by rfl, rfl⟩) (by assumption) ?_
            (try simp only [List.getElem_toArray, List.getElem_cons_succ, List.getElem_cons_zero, Act.put, List.setIfInBounds_toArray, List.set_cons_zero, List.set_cons_succ])
            refine wpAnyH_take (i := 18) (oi := _) (v := _) rfl (by kernel_rfl) (by kernel_rfl) (by kernel_rfl) (fun _ _ _ h => h) (Or.inr ⟨by rfl, rfl⟩) (by assumption) ?_
            (try simp only [List.getElem_toArray, List.getElem_cons_succ, List.getElem_cons_zero, Act.put, List.setIfInBounds_toArray, List.set_cons_zero, List.set_cons_succ])
            refine wpAnyH_take (i := 19) (oi := _) (v := _) rfl (by kernel_rfl) (by kernel_rfl) (by kernel_rfl) (fun _ _ _ h => h) (Or.inr ⟨by rfl, rfl⟩) (by assumption) ?_
            (try simp only [List.getElem_toArray, List.getElem_cons_succ, List.getElem_cons_zero, Act.put, List.setIfInBounds_toArray, List.set_cons_zero, List.set_cons_succ])
            refine wpAnyH_take (i := 20) (oi := _) (v := _) rfl (by kernel_rfl) (by kernel_rfl) (by kernel_rfl) (fun _ _ _ h => h) (Or.inr ⟨by rfl, rfl⟩) (by assumption) ?_
            (try simp only [List.getElem_toArray, List.getElem_cons_succ, List.getElem_cons_zero, Act.put, List.setIfInBounds_toArray, List.set_cons_zero, List.set_cons_succ])
            refine wpAnyH_take (i := 21) (oi := _) (v := _) rfl (by kernel_rfl) (by kernel_rfl) (by kernel_rfl) (fun _ _ _ h => h) (Or.inr ⟨by rfl, rfl⟩) (by assumption) ?_
            (try simp only [List.getElem_toArray, List.getElem_cons_succ, List.getElem_cons_zero, Act.put, List.setIfInBounds_toArray, List.set_cons_zero, List.set_cons_succ])
            refine wpAnyH_take (i := 22) (oi := _) (v := _) rfl (by kernel_rfl) (by kernel_rfl) (by kernel_rfl) (fun _ _ _ h => h) (Or.inr ⟨by rfl, rfl⟩) (by assumption) ?_
            (try simp only [List.getElem_toArray, List.getElem_cons_succ, List.getElem_cons_zero, Act.put, List.setIfInBounds_toArray, List.set_cons_zero, List.set_cons_succ])
            refine wpAnyH_take (i := 23) (oi := _) (v := _) rfl (by kernel_rfl) (by kernel_rfl) (by kernel_rfl) (fun _ _ _ h => h) (Or.inr ⟨by rfl, rfl⟩) (by assumption) ?_
            (try simp only [List.getElem_toArray, List.getElem_cons_succ, List.getElem_cons_zero, Act.put, List.setIfInBounds_toArray, List.set_cons_zero, List.set_cons_succ])
            refine wpAnyH_take (i := 24) (oi := _) (v := _) rfl (by kernel_rfl) (by kernel_rfl) (by kernel_rfl) (fun _ _ _ h => h) (Or.inr ⟨by rfl, rfl⟩) (by assumption) ?_
            (try simp only [List.getElem_toArray, List.getElem_cons_succ, List.getElem_cons_zero, Act.put, List.setIfInBounds_toArray, List.set_cons_zero, List.set_cons_succ])
            refine wpAnyH_take (i := 25) (oi := _) (v := _) rfl (by kernel_rfl) (by kernel_rfl) (by kernel_rfl) (fun _ _ _ h => h) (Or.inr ⟨by rfl, rfl⟩) (by assumption) ?_
            (try simp only [List.getElem_toArray, List.getElem_cons_succ, List.getElem_cons_zero, Act.put, List.setIfInBounds_toArray, List.set_cons_zero, List.set_cons_succ])
            refine wpAnyH_take (i := 26) (oi := _) (v := ?_) rfl (by kernel_rfl) (by kernel_rfl) (by kernel_rfl) (fun _ _ _ h => h) (Or.inl ⟨by rfl, ?_⟩) (by assumption) ?_; rotate_left; focus (intro W hSw; (try dsimp only at hSw); go_simp; (first | done | with_reducible rfl))
            (try simp only [List.getElem_toArray, List.getElem_cons_succ, List.getElem_cons_zero, Act.put, List.setIfInBounds_toArray, List.set_cons_zero, List.set_cons_succ])
            refine wpAnyH_done (by kernel_rfl) ?_ _
            refine NoPanic.normal ?_
            (try simp only [List.getElem_toArray, List.getElem_cons_succ, List.getElem_cons_zero, Act.put, List.setIfInBounds_toArray, List.set_cons_zero, List.set_cons_succ])
            clear hu e0 e1 e2 e3 e4 e5 e6 e7 e8 e9 e10 e11 e12 e13
            have HNX := Lib.hid (HA.out.skip (by rw [HN.out]; exact hlt) (show (fun c => admR c r) (at_ rs k) = false from by rw [HY.out]; exact HAD.out))
            go_wp2
            go_meet
            exact ⟨⟨false, rfl, HNX.out⟩, HB3.out, HK3.out, HR3.out⟩
          | true =>
            have HPK := Lib.hid (show (fun c => admR c r) (at_ rs k) = true from by rw [HY.out]; exact HAD.out)
            rcases HA.out with ⟨hz, hmo⟩ | ⟨j, hj, hz, hmo⟩
            · have HMO := Lib.hid hmo
              subst hz
              clear hmo HA
              refine wp_region_noPanic ?_
              refine wp_region_held_drew (S := (fun Wx : World => Wx.cell? ⟨b, off + k * 8, none⟩ = some (.int .i64 y.id) ∧ Wx.cell? ⟨b, off + k * 8 + 1, none⟩ = some (.string y.nm) ∧ Wx.cell? ⟨b, off + k * 8 + 2, none⟩ = some (.int .i64 y.lo) ∧ Wx.cell? ⟨b, off + k * 8 + 3, none⟩ = some (.int .i64 y.hi) ∧ Wx.cell? ⟨b, off + k * 8 + 4, none⟩ = some (.bool y.wo) ∧ Wx.cell? ⟨b, off + k * 8 + 5, none⟩ = some (.bool y.me) ∧ Wx.cell? ⟨b, off + k * 8 + 6, none⟩ = some (.int .i64 y.co) ∧ Wx.cell? ⟨b, off + k * 8 + 7, none⟩ = some (.int .i64 y.mo) ∧ Wx.cell? ⟨B, 0, none⟩ = some (.int .i64 r.id) ∧ Wx.cell? ⟨B, 1, none⟩ = some (.string r.nm) ∧ Wx.cell? ⟨B, 2, none⟩ = some (.string r.cl) ∧ Wx.cell? ⟨B, 3, none⟩ = some (.int .i64 r.bo) ∧ Wx.cell? ⟨B, 4, none⟩ = some (.bool r.wo) ∧ Wx.cell? ⟨B, 5, none⟩ = some (.int .i64 r.ca))) (by kernel_rfl) ⟨c0, c1, c2, c3, c4, c5, c6, c7, q0, q1, q2, q3, q4, q5⟩ (fun hHeld => ?_)
              refine wpAnyH_take (i := 0) (oi := _) (v := ?_) rfl (by kernel_rfl) (by kernel_rfl) (by kernel_rfl) (fun _ _ _ h => h) (Or.inl ⟨by rfl, ?_⟩) (by assumption) ?_; rotate_left; focus (intro W hSw; (try dsimp only at hSw); go_simp; (first | done | with_reducible rfl))
              (try simp only [List.getElem_toArray, List.getElem_cons_succ, List.getElem_cons_zero, Act.put, List.setIfInBounds_toArray, List.set_cons_zero, List.set_cons_succ])
              refine wpAnyH_take (i := 1) (oi := _) (v := ?_) rfl (by kernel_rfl) (by kernel_rfl) (by kernel_rfl) (fun _ _ _ h => h) (Or.inl ⟨by rfl, ?_⟩) (by assumption) ?_; rotate_left; focus (intro W hSw; (try dsimp only at hSw); go_simp; (first | done | with_reducible rfl))
              (try simp only [List.getElem_toArray, List.getElem_cons_succ, List.getElem_cons_zero, Act.put, List.setIfInBounds_toArray, List.set_cons_zero, List.set_cons_succ])
              refine wpAnyH_take (i := 2) (oi := _) (v := ?_) rfl (by kernel_rfl) (by kernel_rfl) (by kernel_rfl) (fun _ _ _ h => h) (Or.inl ⟨by rfl, ?_⟩) (by assumption) ?_; rotate_left; focus (intro W hSw; (try dsimp only at hSw); go_simp; (first | done | with_reducible rfl))
              (try simp only [List.getElem_toArray, List.getElem_cons_succ, List.getElem_cons_zero, Act.put, List.setIfInBounds_toArray, List.set_cons_zero, List.set_cons_succ])
              refine wpAnyH_take (i := 3) (oi := _) (v := ?_) rfl (by kernel_rfl) (by kernel_rfl) (by kernel_rfl) (fun _ _ _ h => h) (Or.inl ⟨by rfl, ?_⟩) (by assumption) ?_; rotate_left; focus (intro W hSw; (try dsimp only at hSw); go_simp; (first | done | with_reducible rfl))
              (try simp only [List.getElem_toArray, List.getElem_cons_succ, List.getElem_cons_zero, Act.put, List.setIfInBounds_toArray, List.set_cons_zero, List.set_cons_succ])
              refine wpAnyH_take (i := 4) (oi := _) (v := ?_) rfl (by kernel_rfl) (by kernel_rfl) (by kernel_rfl) (fun _ _ _ h => h) (Or.inl ⟨by rfl, ?_⟩) (by assumption) ?_; rotate_left; focus (intro W hSw; (try dsimp only at hSw); go_simp; (first | done | with_reducible rfl))
              (try simp only [List.getElem_toArray, List.getElem_cons_succ, List.getElem_cons_zero, Act.put, List.setIfInBounds_toArray, List.set_cons_zero, List.set_cons_succ])
              refine wpAnyH_take (i := 5) (oi := _) (v := ?_) rfl (by kernel_rfl) (by kernel_rfl) (by kernel_rfl) (fun _ _ _ h => h) (Or.inl ⟨by rfl, ?_⟩) (by assumption) ?_; rotate_left; focus (intro W hSw; (try dsimp only at hSw); go_simp; (first | done | with_reducible rfl))
              (try simp only [List.getElem_toArray, List.getElem_cons_succ, List.getElem_cons_zero, Act.put, List.setIfInBounds_toArray, List.set_cons_zero, List.set_cons_succ])
              refine wpAnyH_take (i := 6) (oi := _) (v := ?_) rfl (by kernel_rfl) (by kernel_rfl) (by kernel_rfl) (fun _ _ _ h => h) (Or.inl ⟨by rfl, ?_⟩) (by assumption) ?_; rotate_left; focus (intro W hSw; (try dsimp only at hSw); go_simp; (first | done | with_reducible rfl))
              (try simp only [List.getElem_toArray, List.getElem_cons_succ, List.getElem_cons_zero, Act.put, List.setIfInBounds_toArray, List.set_cons_zero, List.set_cons_succ])
              refine wpAnyH_take (i := 7) (oi := _) (v := ?_) rfl (by kernel_rfl) (by kernel_rfl) (by kernel_rfl) (fun _ _ _ h => h) (Or.inl ⟨by rfl, ?_⟩) (by assumption) ?_; rotate_left; focus (intro W hSw; (try dsimp only at hSw); go_simp; (first | done | with_reducible rfl))
              (try simp only [List.getElem_toArray, List.getElem_cons_succ, List.getElem_cons_zero, Act.put, List.setIfInBounds_toArray, List.set_cons_zero, List.set_cons_succ])
              refine wpAnyH_take (i := 8) (oi := _) (v := ?_) rfl (by kernel_rfl) (by kernel_rfl) (by kernel_rfl) (fun _ _ _ h => h) (Or.inl ⟨by rfl, ?_⟩) (by assumption) ?_; rotate_left; focus (intro W hSw; (try dsimp only at hSw); go_simp; (first | done | with_reducible rfl))
              (try simp only [List.getElem_toArray, List.getElem_cons_succ, List.getElem_cons_zero, Act.put, List.setIfInBounds_toArray, List.set_cons_zero, List.set_cons_succ])
              refine wpAnyH_ready (rs := [9]) (by kernel_rfl) (by simp) ?_
              refine AllReadyH.cons (o := _) rfl (fun K hK => ?_) AllReadyH.nil
              go_simp
              go_at_call 47
              refine (CP.out _).mono ?_
              rintro e w3 ⟨rfl, hb⟩
              have hS3 : (w3.cell? ⟨b, off + k * 8, none⟩ = some (.int .i64 y.id) ∧ w3.cell? ⟨b, off + k * 8 + 1, none⟩ = some (.string y.nm) ∧ w3.cell? ⟨b, off + k * 8 + 2, none⟩ = some (.int .i64 y.lo) ∧ w3.cell? ⟨b, off + k * 8 + 3, none⟩ = some (.int .i64 y.hi) ∧ w3.cell? ⟨b, off + k * 8 + 4, none⟩ = some (.bool y.wo) ∧ w3.cell? ⟨b, off + k * 8 + 5, none⟩ = some (.bool y.me) ∧ w3.cell? ⟨b, off + k * 8 + 6, none⟩ = some (.int .i64 y.co) ∧ w3.cell? ⟨b, off + k * 8 + 7, none⟩ = some (.int .i64 y.mo) ∧ w3.cell? ⟨B, 0, none⟩ = some (.int .i64 r.id) ∧ w3.cell? ⟨B, 1, none⟩ = some (.string r.nm) ∧ w3.cell? ⟨B, 2, none⟩ = some (.string r.cl) ∧ w3.cell? ⟨B, 3, none⟩ = some (.int .i64 r.bo) ∧ w3.cell? ⟨B, 4, none⟩ = some (.bool r.wo) ∧ w3.cell? ⟨B, 5, none⟩ = some (.int .i64 r.ca)) := ⟨(hb.cell (World.block_lt_of_cell? wr.drew _ c0)).trans c0, (hb.cell (World.block_lt_of_cell? wr.drew _ c1)).trans c1, (hb.cell (World.block_lt_of_cell? wr.drew _ c2)).trans c2, (hb.cell (World.block_lt_of_cell? wr.drew _ c3)).trans c3, (hb.cell (World.block_lt_of_cell? wr.drew _ c4)).trans c4, (hb.cell (World.block_lt_of_cell? wr.drew _ c5)).trans c5, (hb.cell (World.block_lt_of_cell? wr.drew _ c6)).trans c6, (hb.cell (World.block_lt_of_cell? wr.drew _ c7)).trans c7, (hb.cell (World.block_lt_of_cell? wr.drew _ q0)).trans q0, (hb.cell (World.block_lt_of_cell? wr.drew _ q1)).trans q1, (hb.cell (World.block_lt_of_cell? wr.drew _ q2)).trans q2, (hb.cell (World.block_lt_of_cell? wr.drew _ q3)).trans q3, (hb.cell (World.block_lt_of_cell? wr.drew _ q4)).trans q4, (hb.cell (World.block_lt_of_cell? wr.drew _ q5)).trans q5⟩
              have HB3 := Lib.hid (HB.out.drew.trans (hb.mono HB.out.size))
              have HK3 := Lib.hid (HK.out.drew.later hb)
              have HR3 := Lib.hid (Row.later (Row.drew HR.out) hb)
              clear hb
              go_wp2_with fail
              refine hK.out _ _ hS3 (fun _ => ?_)
              clear hK K hHeld
              obtain ⟨e0, e1, e2, e3, e4, e5, e6, e7, e8, e9, e10, e11, e12, e13⟩ := hS3
              refine wpAnyH_take (i := 10) (oi := _) (v := ?_) rfl (by kernel_rfl) (by kernel_rfl) (by kernel_rfl) (fun _ _ _ h => h) (Or.inl ⟨by rfl, ?_⟩) (by assumption) ?_; rotate_left; focus (intro W hSw; (try dsimp only at hSw); go_simp; (first | done | with_reducible rfl))
              (try simp only [List.getElem_toArray, List.getElem_cons_succ, List.getElem_cons_zero, Act.put, List.setIfInBounds_toArray, List.set_cons_zero, List.set_cons_succ])
              refine wpAnyH_take (i := 11) (oi := _) (v := ?_) rfl (by kernel_rfl) (by kernel_rfl) (by kernel_rfl) (fun _ _ _ h => h) (Or.inl ⟨by rfl, ?_⟩) (by assumption) ?_; rotate_left; focus (intro W hSw; (try dsimp only at hSw); go_simp; (first | done | with_reducible rfl))
              (try simp only [List.getElem_toArray, List.getElem_cons_succ, List.getElem_cons_zero, Act.put, List.setIfInBounds_toArray, List.set_cons_zero, List.set_cons_succ])
              refine wpAnyH_take (i := 12) (oi := _) (v := ?_) rfl (by kernel_rfl) (by kernel_rfl) (by kernel_rfl) (fun _ _ _ h => h) (Or.inl ⟨by rfl, ?_⟩) (by assumption) ?_; rotate_left; focus (intro W hSw; (try dsimp only at hSw); go_simp; (first | done | with_reducible rfl))
              (try simp only [List.getElem_toArray, List.getElem_cons_succ, List.getElem_cons_zero, Act.put, List.setIfInBounds_toArray, List.set_cons_zero, List.set_cons_succ])
              refine wpAnyH_take (i := 13) (oi := _) (v := ?_) rfl (by kernel_rfl) (by kernel_rfl) (by kernel_rfl) (fun _ _ _ h => h) (Or.inl ⟨by rfl, ?_⟩) (by assumption) ?_; rotate_left; focus (intro W hSw; (try dsimp only at hSw); go_simp; (first | done | with_reducible rfl))
              (try simp only [List.getElem_toArray, List.getElem_cons_succ, List.getElem_cons_zero, Act.put, List.setIfInBounds_toArray, List.set_cons_zero, List.set_cons_succ])
              refine wpAnyH_take (i := 14) (oi := _) (v := _) rfl (by kernel_rfl) (by kernel_rfl) (by kernel_rfl) (fun _ _ _ h => h) (Or.inr ⟨by rfl, rfl⟩) (by assumption) ?_
              (try simp only [List.getElem_toArray, List.getElem_cons_succ, List.getElem_cons_zero, Act.put, List.setIfInBounds_toArray, List.set_cons_zero, List.set_cons_succ])
              refine wpAnyH_take (i := 15) (oi := _) (v := _) rfl (by kernel_rfl) (by kernel_rfl) (by kernel_rfl) (fun _ _ _ h => h) (Or.inr ⟨by rfl, rfl⟩) (by assumption) ?_
              (try simp only [List.getElem_toArray, List.getElem_cons_succ, List.getElem_cons_zero, Act.put, List.setIfInBounds_toArray, List.set_cons_zero, List.set_cons_succ])
              refine wpAnyH_take (i := 16) (oi := _) (v := _) rfl (by kernel_rfl) (by kernel_rfl) (by kernel_rfl) (fun _ _ _ h => h) (Or.inr ⟨by rfl, rfl⟩) (by assumption) ?_
              (try simp only [List.getElem_toArray, List.getElem_cons_succ, List.getElem_cons_zero, Act.put, List.setIfInBounds_toArray, List.set_cons_zero, List.set_cons_succ])
              refine wpAnyH_take (i := 17) (oi := _) (v := _) rfl (by kernel_rfl) (by kernel_rfl) (by kernel_rfl) (fun _ _ _ h => h) (Or.inr ⟨by rfl, rfl⟩) (by assumption) ?_
              (try simp only [List.getElem_toArray, List.getElem_cons_succ, List.getElem_cons_zero, Act.put, List.setIfInBounds_toArray, List.set_cons_zero, List.set_cons_succ])
              refine wpAnyH_take (i := 18) (oi := _) (v := _) rfl (by kernel_rfl) (by kernel_rfl) (by kernel_rfl) (fun _ _ _ h => h) (Or.inr ⟨by rfl, rfl⟩) (by assumption) ?_
              (try simp only [List.getElem_toArray, List.getElem_cons_succ, List.getElem_cons_zero, Act.put, List.setIfInBounds_toArray, List.set_cons_zero, List.set_cons_succ])
              refine wpAnyH_take (i := 19) (oi := _) (v := _) rfl (by kernel_rfl) (by kernel_rfl) (by kernel_rfl) (fun _ _ _ h => h) (Or.inr ⟨by rfl, rfl⟩) (by assumption) ?_
              (try simp only [List.getElem_toArray, List.getElem_cons_succ, List.getElem_cons_zero, Act.put, List.setIfInBounds_toArray, List.set_cons_zero, List.set_cons_succ])
              refine wpAnyH_take (i := 20) (oi := _) (v := _) rfl (by kernel_rfl) (by kernel_rfl) (by kernel_rfl) (fun _ _ _ h => h) (Or.inr ⟨by rfl, rfl⟩) (by assumption) ?_
              (try simp only [List.getElem_toArray, List.getElem_cons_succ, List.getElem_cons_zero, Act.put, List.setIfInBounds_toArray, List.set_cons_zero, List.set_cons_succ])
              refine wpAnyH_take (i := 21) (oi := _) (v := _) rfl (by kernel_rfl) (by kernel_rfl) (by kernel_rfl) (fun _ _ _ h => h) (Or.inr ⟨by rfl, rfl⟩) (by assumption) ?_
              (try simp only [List.getElem_toArray, List.getElem_cons_succ, List.getElem_cons_zero, Act.put, List.setIfInBounds_toArray, List.set_cons_zero, List.set_cons_succ])
              refine wpAnyH_take (i := 22) (oi := _) (v := _) rfl (by kernel_rfl) (by kernel_rfl) (by kernel_rfl) (fun _ _ _ h => h) (Or.inr ⟨by rfl, rfl⟩) (by assumption) ?_
              (try simp only [List.getElem_toArray, List.getElem_cons_succ, List.getElem_cons_zero, Act.put, List.setIfInBounds_toArray, List.set_cons_zero, List.set_cons_succ])
              refine wpAnyH_take (i := 23) (oi := _) (v := _) rfl (by kernel_rfl) (by kernel_rfl) (by kernel_rfl) (fun _ _ _ h => h) (Or.inr ⟨by rfl, rfl⟩) (by assumption) ?_
              (try simp only [List.getElem_toArray, List.getElem_cons_succ, List.getElem_cons_zero, Act.put, List.setIfInBounds_toArray, List.set_cons_zero, List.set_cons_succ])
              refine wpAnyH_take (i := 24) (oi := _) (v := _) rfl (by kernel_rfl) (by kernel_rfl) (by kernel_rfl) (fun _ _ _ h => h) (Or.inr ⟨by rfl, rfl⟩) (by assumption) ?_
              (try simp only [List.getElem_toArray, List.getElem_cons_succ, List.getElem_cons_zero, Act.put, List.setIfInBounds_toArray, List.set_cons_zero, List.set_cons_succ])
              refine wpAnyH_take (i := 25) (oi := _) (v := ?_) rfl (by kernel_rfl) (by kernel_rfl) (by kernel_rfl) (fun _ _ _ h => h) (Or.inl ⟨by rfl, ?_⟩) (by assumption) ?_; rotate_left; focus (intro W hSw; (try dsimp only at hSw); go_simp; (first | done | with_reducible rfl))
              (try simp only [List.getElem_toArray, List.getElem_cons_succ, List.getElem_cons_zero, Act.put, List.setIfInBounds_toArray, List.set_cons_zero, List.set_cons_succ])
              refine wpAnyH_take (i := 26) (oi := _) (v := ?_) rfl (by kernel_rfl) (by kernel_rfl) (by kernel_rfl) (fun _ _ _ h => h) (Or.inl ⟨by rfl, ?_⟩) (by assumption) ?_; rotate_left; focus (intro W hSw; (try dsimp only at hSw); go_simp; (first | done | with_reducible rfl))
              (try simp only [List.getElem_toArray, List.getElem_cons_succ, List.getElem_cons_zero, Act.put, List.setIfInBounds_toArray, List.set_cons_zero, List.set_cons_succ])
              refine wpAnyH_done (by kernel_rfl) ?_ _
              refine NoPanic.normal ?_
              (try simp only [List.getElem_toArray, List.getElem_cons_succ, List.getElem_cons_zero, Act.put, List.setIfInBounds_toArray, List.set_cons_zero, List.set_cons_succ])
              clear hu e0 e1 e2 e3 e4 e5 e6 e7 e8 e9 e10 e11 e12 e13
              have HNX := Lib.hid (BA.first HMO.out (by rw [HN.out]; exact hlt) HPK.out)
              go_wp2
              go_meet
              exact ⟨⟨true, rfl, HNX.out⟩, HB3.out, HK3.out, HR3.out⟩
            · have HMO := Lib.hid hmo
              subst hz
              clear hmo HA
              have hjn : j < n := by omega
              obtain ⟨b2, off2, e2, d0, d1, d2, d3, d4, d5, d6, d7⟩ := HR.out.cells (i := j) (by rw [HN.out]; omega)
              cases e2
              obtain ⟨m, hm⟩ : ∃ m, at_ rs j = m := ⟨_, rfl⟩
              rw [hm] at d0 d1 d2 d3 d4 d5 d6 d7
              have HM := Lib.hid hm
              have HOM := Lib.hid (show okK m = true from by have := good_ok HG.out (i := j) (by rw [HN.out]; omega); rwa [hm] at this)
              obtain ⟨ky, hky⟩ : ∃ x, keyK y = x := ⟨_, rfl⟩
              obtain ⟨km, hkm⟩ : ∃ x, keyK m = x := ⟨_, rfl⟩
              have CY := Lib.hid (fun w => hky ▸ key_any y (ok_ages HOK.out) w)
              have CM := Lib.hid (fun w => hkm ▸ key_any m (ok_ages HOM.out) w)
              have HKY := Lib.hid hky
              have HKM := Lib.hid hkm
              clear hm hky hkm
              have hj0 : (0 : Int) ≤ (j : Int) := by omega
              have hj1 : (j : Int) < (n : Int) := by omega
              have hjz : ¬ (j : Int) < 0 := by omega
              have hjd : decide ((j : Int) < 0) = false := decide_eq_false hjz
              refine wp_region_noPanic ?_
              refine wp_region_held_drew (S := (fun Wx : World => Wx.cell? ⟨b, off + k * 8, none⟩ = some (.int .i64 y.id) ∧ Wx.cell? ⟨b, off + k * 8 + 1, none⟩ = some (.string y.nm) ∧ Wx.cell? ⟨b, off + k * 8 + 2, none⟩ = some (.int .i64 y.lo) ∧ Wx.cell? ⟨b, off + k * 8 + 3, none⟩ = some (.int .i64 y.hi) ∧ Wx.cell? ⟨b, off + k * 8 + 4, none⟩ = some (.bool y.wo) ∧ Wx.cell? ⟨b, off + k * 8 + 5, none⟩ = some (.bool y.me) ∧ Wx.cell? ⟨b, off + k * 8 + 6, none⟩ = some (.int .i64 y.co) ∧ Wx.cell? ⟨b, off + k * 8 + 7, none⟩ = some (.int .i64 y.mo) ∧ Wx.cell? ⟨b, off + j * 8, none⟩ = some (.int .i64 m.id) ∧ Wx.cell? ⟨b, off + j * 8 + 1, none⟩ = some (.string m.nm) ∧ Wx.cell? ⟨b, off + j * 8 + 2, none⟩ = some (.int .i64 m.lo) ∧ Wx.cell? ⟨b, off + j * 8 + 3, none⟩ = some (.int .i64 m.hi) ∧ Wx.cell? ⟨b, off + j * 8 + 4, none⟩ = some (.bool m.wo) ∧ Wx.cell? ⟨b, off + j * 8 + 5, none⟩ = some (.bool m.me) ∧ Wx.cell? ⟨b, off + j * 8 + 6, none⟩ = some (.int .i64 m.co) ∧ Wx.cell? ⟨b, off + j * 8 + 7, none⟩ = some (.int .i64 m.mo) ∧ Wx.cell? ⟨B, 0, none⟩ = some (.int .i64 r.id) ∧ Wx.cell? ⟨B, 1, none⟩ = some (.string r.nm) ∧ Wx.cell? ⟨B, 2, none⟩ = some (.string r.cl) ∧ Wx.cell? ⟨B, 3, none⟩ = some (.int .i64 r.bo) ∧ Wx.cell? ⟨B, 4, none⟩ = some (.bool r.wo) ∧ Wx.cell? ⟨B, 5, none⟩ = some (.int .i64 r.ca))) (by kernel_rfl) ⟨c0, c1, c2, c3, c4, c5, c6, c7, d0, d1, d2, d3, d4, d5, d6, d7, q0, q1, q2, q3, q4, q5⟩ (fun hHeld => ?_)
              refine wpAnyH_take (i := 0) (oi := _) (v := ?_) rfl (by kernel_rfl) (by kernel_rfl) (by kernel_rfl) (fun _ _ _ h => h) (Or.inl ⟨by rfl, ?_⟩) (by assumption) ?_; rotate_left; focus (intro W hSw; (try dsimp only at hSw); go_simp; (first | done | with_reducible rfl))
              (try simp only [List.getElem_toArray, List.getElem_cons_succ, List.getElem_cons_zero, Act.put, List.setIfInBounds_toArray, List.set_cons_zero, List.set_cons_succ])
              refine wpAnyH_take (i := 1) (oi := _) (v := ?_) rfl (by kernel_rfl) (by kernel_rfl) (by kernel_rfl) (fun _ _ _ h => h) (Or.inl ⟨by rfl, ?_⟩) (by assumption) ?_; rotate_left; focus (intro W hSw; (try dsimp only at hSw); go_simp; (first | done | with_reducible rfl))
              (try simp only [List.getElem_toArray, List.getElem_cons_succ, List.getElem_cons_zero, Act.put, List.setIfInBounds_toArray, List.set_cons_zero, List.set_cons_succ])
              refine wpAnyH_take (i := 2) (oi := _) (v := ?_) rfl (by kernel_rfl) (by kernel_rfl) (by kernel_rfl) (fun _ _ _ h => h) (Or.inl ⟨by rfl, ?_⟩) (by assumption) ?_; rotate_left; focus (intro W hSw; (try dsimp only at hSw); go_simp; (first | done | with_reducible rfl))
              (try simp only [List.getElem_toArray, List.getElem_cons_succ, List.getElem_cons_zero, Act.put, List.setIfInBounds_toArray, List.set_cons_zero, List.set_cons_succ])
              refine wpAnyH_take (i := 3) (oi := _) (v := ?_) rfl (by kernel_rfl) (by kernel_rfl) (by kernel_rfl) (fun _ _ _ h => h) (Or.inl ⟨by rfl, ?_⟩) (by assumption) ?_; rotate_left; focus (intro W hSw; (try dsimp only at hSw); go_simp; (first | done | with_reducible rfl))
              (try simp only [List.getElem_toArray, List.getElem_cons_succ, List.getElem_cons_zero, Act.put, List.setIfInBounds_toArray, List.set_cons_zero, List.set_cons_succ])
              refine wpAnyH_take (i := 4) (oi := _) (v := ?_) rfl (by kernel_rfl) (by kernel_rfl) (by kernel_rfl) (fun _ _ _ h => h) (Or.inl ⟨by rfl, ?_⟩) (by assumption) ?_; rotate_left; focus (intro W hSw; (try dsimp only at hSw); go_simp; (first | done | with_reducible rfl))
              (try simp only [List.getElem_toArray, List.getElem_cons_succ, List.getElem_cons_zero, Act.put, List.setIfInBounds_toArray, List.set_cons_zero, List.set_cons_succ])
              refine wpAnyH_take (i := 5) (oi := _) (v := ?_) rfl (by kernel_rfl) (by kernel_rfl) (by kernel_rfl) (fun _ _ _ h => h) (Or.inl ⟨by rfl, ?_⟩) (by assumption) ?_; rotate_left; focus (intro W hSw; (try dsimp only at hSw); go_simp; (first | done | with_reducible rfl))
              (try simp only [List.getElem_toArray, List.getElem_cons_succ, List.getElem_cons_zero, Act.put, List.setIfInBounds_toArray, List.set_cons_zero, List.set_cons_succ])
              refine wpAnyH_take (i := 6) (oi := _) (v := ?_) rfl (by kernel_rfl) (by kernel_rfl) (by kernel_rfl) (fun _ _ _ h => h) (Or.inl ⟨by rfl, ?_⟩) (by assumption) ?_; rotate_left; focus (intro W hSw; (try dsimp only at hSw); go_simp; (first | done | with_reducible rfl))
              (try simp only [List.getElem_toArray, List.getElem_cons_succ, List.getElem_cons_zero, Act.put, List.setIfInBounds_toArray, List.set_cons_zero, List.set_cons_succ])
              refine wpAnyH_take (i := 7) (oi := _) (v := ?_) rfl (by kernel_rfl) (by kernel_rfl) (by kernel_rfl) (fun _ _ _ h => h) (Or.inl ⟨by rfl, ?_⟩) (by assumption) ?_; rotate_left; focus (intro W hSw; (try dsimp only at hSw); go_simp; (first | done | with_reducible rfl))
              (try simp only [List.getElem_toArray, List.getElem_cons_succ, List.getElem_cons_zero, Act.put, List.setIfInBounds_toArray, List.set_cons_zero, List.set_cons_succ])
              refine wpAnyH_take (i := 8) (oi := _) (v := ?_) rfl (by kernel_rfl) (by kernel_rfl) (by kernel_rfl) (fun _ _ _ h => h) (Or.inl ⟨by rfl, ?_⟩) (by assumption) ?_; rotate_left; focus (intro W hSw; (try dsimp only at hSw); go_simp; (first | done | with_reducible rfl))
              (try simp only [List.getElem_toArray, List.getElem_cons_succ, List.getElem_cons_zero, Act.put, List.setIfInBounds_toArray, List.set_cons_zero, List.set_cons_succ])
              refine wpAnyH_ready (rs := [9]) (by kernel_rfl) (by simp) ?_
              refine AllReadyH.cons (o := _) rfl (fun K hK => ?_) AllReadyH.nil
              go_simp
              go_at_call 47
              refine (CP.out _).mono ?_
              rintro e w3 ⟨rfl, hb⟩
              have hS3 : (w3.cell? ⟨b, off + k * 8, none⟩ = some (.int .i64 y.id) ∧ w3.cell? ⟨b, off + k * 8 + 1, none⟩ = some (.string y.nm) ∧ w3.cell? ⟨b, off + k * 8 + 2, none⟩ = some (.int .i64 y.lo) ∧ w3.cell? ⟨b, off + k * 8 + 3, none⟩ = some (.int .i64 y.hi) ∧ w3.cell? ⟨b, off + k * 8 + 4, none⟩ = some (.bool y.wo) ∧ w3.cell? ⟨b, off + k * 8 + 5, none⟩ = some (.bool y.me) ∧ w3.cell? ⟨b, off + k * 8 + 6, none⟩ = some (.int .i64 y.co) ∧ w3.cell? ⟨b, off + k * 8 + 7, none⟩ = some (.int .i64 y.mo) ∧ w3.cell? ⟨b, off + j * 8, none⟩ = some (.int .i64 m.id) ∧ w3.cell? ⟨b, off + j * 8 + 1, none⟩ = some (.string m.nm) ∧ w3.cell? ⟨b, off + j * 8 + 2, none⟩ = some (.int .i64 m.lo) ∧ w3.cell? ⟨b, off + j * 8 + 3, none⟩ = some (.int .i64 m.hi) ∧ w3.cell? ⟨b, off + j * 8 + 4, none⟩ = some (.bool m.wo) ∧ w3.cell? ⟨b, off + j * 8 + 5, none⟩ = some (.bool m.me) ∧ w3.cell? ⟨b, off + j * 8 + 6, none⟩ = some (.int .i64 m.co) ∧ w3.cell? ⟨b, off + j * 8 + 7, none⟩ = some (.int .i64 m.mo) ∧ w3.cell? ⟨B, 0, none⟩ = some (.int .i64 r.id) ∧ w3.cell? ⟨B, 1, none⟩ = some (.string r.nm) ∧ w3.cell? ⟨B, 2, none⟩ = some (.string r.cl) ∧ w3.cell? ⟨B, 3, none⟩ = some (.int .i64 r.bo) ∧ w3.cell? ⟨B, 4, none⟩ = some (.bool r.wo) ∧ w3.cell? ⟨B, 5, none⟩ = some (.int .i64 r.ca)) := ⟨(hb.cell (World.block_lt_of_cell? wr.drew _ c0)).trans c0, (hb.cell (World.block_lt_of_cell? wr.drew _ c1)).trans c1, (hb.cell (World.block_lt_of_cell? wr.drew _ c2)).trans c2, (hb.cell (World.block_lt_of_cell? wr.drew _ c3)).trans c3, (hb.cell (World.block_lt_of_cell? wr.drew _ c4)).trans c4, (hb.cell (World.block_lt_of_cell? wr.drew _ c5)).trans c5, (hb.cell (World.block_lt_of_cell? wr.drew _ c6)).trans c6, (hb.cell (World.block_lt_of_cell? wr.drew _ c7)).trans c7, (hb.cell (World.block_lt_of_cell? wr.drew _ d0)).trans d0, (hb.cell (World.block_lt_of_cell? wr.drew _ d1)).trans d1, (hb.cell (World.block_lt_of_cell? wr.drew _ d2)).trans d2, (hb.cell (World.block_lt_of_cell? wr.drew _ d3)).trans d3, (hb.cell (World.block_lt_of_cell? wr.drew _ d4)).trans d4, (hb.cell (World.block_lt_of_cell? wr.drew _ d5)).trans d5, (hb.cell (World.block_lt_of_cell? wr.drew _ d6)).trans d6, (hb.cell (World.block_lt_of_cell? wr.drew _ d7)).trans d7, (hb.cell (World.block_lt_of_cell? wr.drew _ q0)).trans q0, (hb.cell (World.block_lt_of_cell? wr.drew _ q1)).trans q1, (hb.cell (World.block_lt_of_cell? wr.drew _ q2)).trans q2, (hb.cell (World.block_lt_of_cell? wr.drew _ q3)).trans q3, (hb.cell (World.block_lt_of_cell? wr.drew _ q4)).trans q4, (hb.cell (World.block_lt_of_cell? wr.drew _ q5)).trans q5⟩
              have HB3 := Lib.hid (HB.out.drew.trans (hb.mono HB.out.size))
              have HK3 := Lib.hid (HK.out.drew.later hb)
              have HR3 := Lib.hid (Row.later (Row.drew HR.out) hb)
              clear hb
              go_wp2_with fail
              refine hK.out _ _ hS3 (fun _ => ?_)
              clear hK K hHeld
              obtain ⟨e0, e1, e2, e3, e4, e5, e6, e7, e8, e9, e10, e11, e12, e13, e14, e15, e16, e17, e18, e19, e20, e21⟩ := hS3
              refine wpAnyH_take (i := 10) (oi := _) (v := ?_) rfl (by kernel_rfl) (by kernel_rfl) (by kernel_rfl) (fun _ _ _ h => h) (Or.inl ⟨by rfl, ?_⟩) (by assumption) ?_; rotate_left; focus (intro W hSw; (try dsimp only at hSw); go_simp; (first | done | with_reducible rfl))
              (try simp only [List.getElem_toArray, List.getElem_cons_succ, List.getElem_cons_zero, Act.put, List.setIfInBounds_toArray, List.set_cons_zero, List.set_cons_succ])
              refine wpAnyH_take (i := 11) (oi := _) (v := ?_) rfl (by kernel_rfl) (by kernel_rfl) (by kernel_rfl) (fun _ _ _ h => h) (Or.inl ⟨by rfl, ?_⟩) (by assumption) ?_; rotate_left; focus (intro W hSw; (try dsimp only at hSw); go_simp; (first | done | with_reducible rfl))
              (try simp only [List.getElem_toArray, List.getElem_cons_succ, List.getElem_cons_zero, Act.put, List.setIfInBounds_toArray, List.set_cons_zero, List.set_cons_succ])
              refine wpAnyH_take (i := 12) (oi := _) (v := ?_) rfl (by kernel_rfl) (by kernel_rfl) (by kernel_rfl) (fun _ _ _ h => h) (Or.inl ⟨by rfl, ?_⟩) (by assumption) ?_; rotate_left; focus (intro W hSw; (try dsimp only at hSw); go_simp; (first | done | with_reducible rfl))
              (try simp only [List.getElem_toArray, List.getElem_cons_succ, List.getElem_cons_zero, Act.put, List.setIfInBounds_toArray, List.set_cons_zero, List.set_cons_succ])
              refine wpAnyH_take (i := 13) (oi := _) (v := ?_) rfl (by kernel_rfl) (by kernel_rfl) (by kernel_rfl) (fun _ _ _ h => h) (Or.inl ⟨by rfl, ?_⟩) (by assumption) ?_; rotate_left; focus (intro W hSw; (try dsimp only at hSw); go_simp; (first | done | with_reducible rfl))
              (try simp only [List.getElem_toArray, List.getElem_cons_succ, List.getElem_cons_zero, Act.put, List.setIfInBounds_toArray, List.set_cons_zero, List.set_cons_succ])
              refine wpAnyH_take (i := 14) (oi := _) (v := ?_) rfl (by kernel_rfl) (by kernel_rfl) (by kernel_rfl) (fun _ _ _ h => h) (Or.inl ⟨by rfl, ?_⟩) (by assumption) ?_; rotate_left; focus (intro W hSw; (try dsimp only at hSw); go_simp; (first | done | with_reducible rfl))
              (try simp only [List.getElem_toArray, List.getElem_cons_succ, List.getElem_cons_zero, Act.put, List.setIfInBounds_toArray, List.set_cons_zero, List.set_cons_succ])
              refine wpAnyH_take (i := 15) (oi := _) (v := ?_) rfl (by kernel_rfl) (by kernel_rfl) (by kernel_rfl) (fun _ _ _ h => h) (Or.inl ⟨by rfl, ?_⟩) (by assumption) ?_; rotate_left; focus (intro W hSw; (try dsimp only at hSw); go_simp; (first | done | with_reducible rfl))
              (try simp only [List.getElem_toArray, List.getElem_cons_succ, List.getElem_cons_zero, Act.put, List.setIfInBounds_toArray, List.set_cons_zero, List.set_cons_succ])
              refine wpAnyH_take (i := 16) (oi := _) (v := ?_) rfl (by kernel_rfl) (by kernel_rfl) (by kernel_rfl) (fun _ _ _ h => h) (Or.inl ⟨by rfl, ?_⟩) (by assumption) ?_; rotate_left; focus (intro W hSw; (try dsimp only at hSw); go_simp; (first | done | with_reducible rfl))
              (try simp only [List.getElem_toArray, List.getElem_cons_succ, List.getElem_cons_zero, Act.put, List.setIfInBounds_toArray, List.set_cons_zero, List.set_cons_succ])
              refine wpAnyH_take (i := 17) (oi := _) (v := ?_) rfl (by kernel_rfl) (by kernel_rfl) (by kernel_rfl) (fun _ _ _ h => h) (Or.inl ⟨by rfl, ?_⟩) (by assumption) ?_; rotate_left; focus (intro W hSw; (try dsimp only at hSw); go_simp; (first | done | with_reducible rfl))
              (try simp only [List.getElem_toArray, List.getElem_cons_succ, List.getElem_cons_zero, Act.put, List.setIfInBounds_toArray, List.set_cons_zero, List.set_cons_succ])
              refine wpAnyH_take (i := 19) (oi := _) (v := ?_) rfl (by kernel_rfl) (by kernel_rfl) (by kernel_rfl) (fun _ _ _ h => h) (Or.inl ⟨by rfl, ?_⟩) (by assumption) ?_; rotate_left; focus (intro W hSw; (try dsimp only at hSw); go_simp; (first | done | with_reducible rfl))
              (try simp only [List.getElem_toArray, List.getElem_cons_succ, List.getElem_cons_zero, Act.put, List.setIfInBounds_toArray, List.set_cons_zero, List.set_cons_succ])
              refine wpAnyH_take (i := 20) (oi := _) (v := ?_) rfl (by kernel_rfl) (by kernel_rfl) (by kernel_rfl) (fun _ _ _ h => h) (Or.inl ⟨by rfl, ?_⟩) (by assumption) ?_; rotate_left; focus (intro W hSw; (try dsimp only at hSw); go_simp; (first | done | with_reducible rfl))
              (try simp only [List.getElem_toArray, List.getElem_cons_succ, List.getElem_cons_zero, Act.put, List.setIfInBounds_toArray, List.set_cons_zero, List.set_cons_succ])
              refine wpAnyH_take (i := 21) (oi := _) (v := ?_) rfl (by kernel_rfl) (by kernel_rfl) (by kernel_rfl) (fun _ _ _ h => h) (Or.inl ⟨by rfl, ?_⟩) (by assumption) ?_; rotate_left; focus (intro W hSw; (try dsimp only at hSw); go_simp; (first | done | with_reducible rfl))
              (try simp only [List.getElem_toArray, List.getElem_cons_succ, List.getElem_cons_zero, Act.put, List.setIfInBounds_toArray, List.set_cons_zero, List.set_cons_succ])
              refine wpAnyH_take (i := 22) (oi := _) (v := ?_) rfl (by kernel_rfl) (by kernel_rfl) (by kernel_rfl) (fun _ _ _ h => h) (Or.inl ⟨by rfl, ?_⟩) (by assumption) ?_; rotate_left; focus (intro W hSw; (try dsimp only at hSw); go_simp; (first | done | with_reducible rfl))
              (try simp only [List.getElem_toArray, List.getElem_cons_succ, List.getElem_cons_zero, Act.put, List.setIfInBounds_toArray, List.set_cons_zero, List.set_cons_succ])
              refine wpAnyH_ready (rs := [18]) (by kernel_rfl) (by simp) ?_
              refine AllReadyH.cons (o := _) rfl (fun K hK => ?_) AllReadyH.nil
              go_simp
              go_at_call 48
              refine (CY.out _).mono ?_
              rintro e w4 ⟨rfl, hb⟩
              have hS4 : (w4.cell? ⟨b, off + k * 8, none⟩ = some (.int .i64 y.id) ∧ w4.cell? ⟨b, off + k * 8 + 1, none⟩ = some (.string y.nm) ∧ w4.cell? ⟨b, off + k * 8 + 2, none⟩ = some (.int .i64 y.lo) ∧ w4.cell? ⟨b, off + k * 8 + 3, none⟩ = some (.int .i64 y.hi) ∧ w4.cell? ⟨b, off + k * 8 + 4, none⟩ = some (.bool y.wo) ∧ w4.cell? ⟨b, off + k * 8 + 5, none⟩ = some (.bool y.me) ∧ w4.cell? ⟨b, off + k * 8 + 6, none⟩ = some (.int .i64 y.co) ∧ w4.cell? ⟨b, off + k * 8 + 7, none⟩ = some (.int .i64 y.mo) ∧ w4.cell? ⟨b, off + j * 8, none⟩ = some (.int .i64 m.id) ∧ w4.cell? ⟨b, off + j * 8 + 1, none⟩ = some (.string m.nm) ∧ w4.cell? ⟨b, off + j * 8 + 2, none⟩ = some (.int .i64 m.lo) ∧ w4.cell? ⟨b, off + j * 8 + 3, none⟩ = some (.int .i64 m.hi) ∧ w4.cell? ⟨b, off + j * 8 + 4, none⟩ = some (.bool m.wo) ∧ w4.cell? ⟨b, off + j * 8 + 5, none⟩ = some (.bool m.me) ∧ w4.cell? ⟨b, off + j * 8 + 6, none⟩ = some (.int .i64 m.co) ∧ w4.cell? ⟨b, off + j * 8 + 7, none⟩ = some (.int .i64 m.mo) ∧ w4.cell? ⟨B, 0, none⟩ = some (.int .i64 r.id) ∧ w4.cell? ⟨B, 1, none⟩ = some (.string r.nm) ∧ w4.cell? ⟨B, 2, none⟩ = some (.string r.cl) ∧ w4.cell? ⟨B, 3, none⟩ = some (.int .i64 r.bo) ∧ w4.cell? ⟨B, 4, none⟩ = some (.bool r.wo) ∧ w4.cell? ⟨B, 5, none⟩ = some (.int .i64 r.ca)) := ⟨(hb.cell (World.block_lt_of_cell? w3 _ e0)).trans e0, (hb.cell (World.block_lt_of_cell? w3 _ e1)).trans e1, (hb.cell (World.block_lt_of_cell? w3 _ e2)).trans e2, (hb.cell (World.block_lt_of_cell? w3 _ e3)).trans e3, (hb.cell (World.block_lt_of_cell? w3 _ e4)).trans e4, (hb.cell (World.block_lt_of_cell? w3 _ e5)).trans e5, (hb.cell (World.block_lt_of_cell? w3 _ e6)).trans e6, (hb.cell (World.block_lt_of_cell? w3 _ e7)).trans e7, (hb.cell (World.block_lt_of_cell? w3 _ e8)).trans e8, (hb.cell (World.block_lt_of_cell? w3 _ e9)).trans e9, (hb.cell (World.block_lt_of_cell? w3 _ e10)).trans e10, (hb.cell (World.block_lt_of_cell? w3 _ e11)).trans e11, (hb.cell (World.block_lt_of_cell? w3 _ e12)).trans e12, (hb.cell (World.block_lt_of_cell? w3 _ e13)).trans e13, (hb.cell (World.block_lt_of_cell? w3 _ e14)).trans e14, (hb.cell (World.block_lt_of_cell? w3 _ e15)).trans e15, (hb.cell (World.block_lt_of_cell? w3 _ e16)).trans e16, (hb.cell (World.block_lt_of_cell? w3 _ e17)).trans e17, (hb.cell (World.block_lt_of_cell? w3 _ e18)).trans e18, (hb.cell (World.block_lt_of_cell? w3 _ e19)).trans e19, (hb.cell (World.block_lt_of_cell? w3 _ e20)).trans e20, (hb.cell (World.block_lt_of_cell? w3 _ e21)).trans e21⟩
              have HB4 := Lib.hid (HB3.out.trans (hb.mono HB3.out.size))
              have HK4 := Lib.hid (HK3.out.later hb)
              have HR4 := Lib.hid (HR3.out.later hb)
              clear hb
              go_wp2_with fail
              refine hK.out _ _ hS4 (fun _ => ?_)
              clear hK K
              obtain ⟨f0, f1, f2, f3, f4, f5, f6, f7, f8, f9, f10, f11, f12, f13, f14, f15, f16, f17, f18, f19, f20, f21⟩ := hS4
              refine wpAnyH_ready (rs := [23]) (by kernel_rfl) (by simp) ?_
              refine AllReadyH.cons (o := _) rfl (fun K hK => ?_) AllReadyH.nil
              go_simp
              go_at_call 48
              refine (CM.out _).mono ?_
              rintro e w5 ⟨rfl, hb⟩
              have hS5 : (w5.cell? ⟨b, off + k * 8, none⟩ = some (.int .i64 y.id) ∧ w5.cell? ⟨b, off + k * 8 + 1, none⟩ = some (.string y.nm) ∧ w5.cell? ⟨b, off + k * 8 + 2, none⟩ = some (.int .i64 y.lo) ∧ w5.cell? ⟨b, off + k * 8 + 3, none⟩ = some (.int .i64 y.hi) ∧ w5.cell? ⟨b, off + k * 8 + 4, none⟩ = some (.bool y.wo) ∧ w5.cell? ⟨b, off + k * 8 + 5, none⟩ = some (.bool y.me) ∧ w5.cell? ⟨b, off + k * 8 + 6, none⟩ = some (.int .i64 y.co) ∧ w5.cell? ⟨b, off + k * 8 + 7, none⟩ = some (.int .i64 y.mo) ∧ w5.cell? ⟨b, off + j * 8, none⟩ = some (.int .i64 m.id) ∧ w5.cell? ⟨b, off + j * 8 + 1, none⟩ = some (.string m.nm) ∧ w5.cell? ⟨b, off + j * 8 + 2, none⟩ = some (.int .i64 m.lo) ∧ w5.cell? ⟨b, off + j * 8 + 3, none⟩ = some (.int .i64 m.hi) ∧ w5.cell? ⟨b, off + j * 8 + 4, none⟩ = some (.bool m.wo) ∧ w5.cell? ⟨b, off + j * 8 + 5, none⟩ = some (.bool m.me) ∧ w5.cell? ⟨b, off + j * 8 + 6, none⟩ = some (.int .i64 m.co) ∧ w5.cell? ⟨b, off + j * 8 + 7, none⟩ = some (.int .i64 m.mo) ∧ w5.cell? ⟨B, 0, none⟩ = some (.int .i64 r.id) ∧ w5.cell? ⟨B, 1, none⟩ = some (.string r.nm) ∧ w5.cell? ⟨B, 2, none⟩ = some (.string r.cl) ∧ w5.cell? ⟨B, 3, none⟩ = some (.int .i64 r.bo) ∧ w5.cell? ⟨B, 4, none⟩ = some (.bool r.wo) ∧ w5.cell? ⟨B, 5, none⟩ = some (.int .i64 r.ca)) := ⟨(hb.cell (World.block_lt_of_cell? w4 _ f0)).trans f0, (hb.cell (World.block_lt_of_cell? w4 _ f1)).trans f1, (hb.cell (World.block_lt_of_cell? w4 _ f2)).trans f2, (hb.cell (World.block_lt_of_cell? w4 _ f3)).trans f3, (hb.cell (World.block_lt_of_cell? w4 _ f4)).trans f4, (hb.cell (World.block_lt_of_cell? w4 _ f5)).trans f5, (hb.cell (World.block_lt_of_cell? w4 _ f6)).trans f6, (hb.cell (World.block_lt_of_cell? w4 _ f7)).trans f7, (hb.cell (World.block_lt_of_cell? w4 _ f8)).trans f8, (hb.cell (World.block_lt_of_cell? w4 _ f9)).trans f9, (hb.cell (World.block_lt_of_cell? w4 _ f10)).trans f10, (hb.cell (World.block_lt_of_cell? w4 _ f11)).trans f11, (hb.cell (World.block_lt_of_cell? w4 _ f12)).trans f12, (hb.cell (World.block_lt_of_cell? w4 _ f13)).trans f13, (hb.cell (World.block_lt_of_cell? w4 _ f14)).trans f14, (hb.cell (World.block_lt_of_cell? w4 _ f15)).trans f15, (hb.cell (World.block_lt_of_cell? w4 _ f16)).trans f16, (hb.cell (World.block_lt_of_cell? w4 _ f17)).trans f17, (hb.cell (World.block_lt_of_cell? w4 _ f18)).trans f18, (hb.cell (World.block_lt_of_cell? w4 _ f19)).trans f19, (hb.cell (World.block_lt_of_cell? w4 _ f20)).trans f20, (hb.cell (World.block_lt_of_cell? w4 _ f21)).trans f21⟩
              have HB5 := Lib.hid (HB4.out.trans (hb.mono HB4.out.size))
              have HK5 := Lib.hid (HK4.out.later hb)
              have HR5 := Lib.hid (HR4.out.later hb)
              clear hb
              go_wp2_with fail
              refine hK.out _ _ hS5 (fun _ => ?_)
              clear hK K
              obtain ⟨g0, g1, g2, g3, g4, g5, g6, g7, g8, g9, g10, g11, g12, g13, g14, g15, g16, g17, g18, g19, g20, g21⟩ := hS5
              clear e0 e1 e2 e3 e4 e5 e6 e7 e8 e9 e10 e11 e12 e13 e14 e15 e16 e17 e18 e19 e20 e21 f0 f1 f2 f3 f4 f5 f6 f7 f8 f9 f10 f11 f12 f13 f14 f15 f16 f17 f18 f19 f20 f21 g0 g1 g2 g3 g4 g5 g6 g7 g8 g9 g10 g11 g12 g13 g14 g15 g16 g17 g18 g19 g20 g21
              by_cases hkk : ky < km
              · have hd : decide (ky < km) = true := decide_eq_true hkk
                have HNX := Lib.hid (BA.take HMO.out (by rw [HN.out]; exact hlt) HPK.out (by rw [HY.out, HM.out, HKY.out, HKM.out]; exact hkk))
                clear hkk
                refine wpAnyH_take (i := 24) (oi := _) (v := ?_) rfl (by kernel_rfl) (by kernel_rfl) (by kernel_rfl) (fun _ _ _ h => h) (Or.inl ⟨by rfl, ?_⟩) (by assumption) ?_; rotate_left; focus (intro W hSw; (try dsimp only at hSw); go_simp; (first | done | with_reducible rfl))
                (try simp only [List.getElem_toArray, List.getElem_cons_succ, List.getElem_cons_zero, Act.put, List.setIfInBounds_toArray, List.set_cons_zero, List.set_cons_succ])
                refine wpAnyH_take (i := 25) (oi := _) (v := ?_) rfl (by kernel_rfl) (by kernel_rfl) (by kernel_rfl) (fun _ _ _ h => h) (Or.inl ⟨by rfl, ?_⟩) (by assumption) ?_; rotate_left; focus (intro W hSw; (try dsimp only at hSw); go_simp; (first | done | with_reducible rfl))
                (try simp only [List.getElem_toArray, List.getElem_cons_succ, List.getElem_cons_zero, Act.put, List.setIfInBounds_toArray, List.set_cons_zero, List.set_cons_succ])
                refine wpAnyH_take (i := 26) (oi := _) (v := ?_) rfl (by kernel_rfl) (by kernel_rfl) (by kernel_rfl) (fun _ _ _ h => h) (Or.inl ⟨by rfl, ?_⟩) (by assumption) ?_; rotate_left; focus (intro W hSw; (try dsimp only at hSw); go_simp; (first | done | with_reducible rfl))
                (try simp only [List.getElem_toArray, List.getElem_cons_succ, List.getElem_cons_zero, Act.put, List.setIfInBounds_toArray, List.set_cons_zero, List.set_cons_succ])
                refine wpAnyH_done (by kernel_rfl) ?_ _
                refine NoPanic.normal ?_
                (try simp only [List.getElem_toArray, List.getElem_cons_succ, List.getElem_cons_zero, Act.put, List.setIfInBounds_toArray, List.set_cons_zero, List.set_cons_succ])
                clear hu
                go_wp2
                go_meet
                exact ⟨⟨true, rfl, HNX.out⟩, HB5.out, HK5.out, HR5.out⟩
              · have hd : decide (ky < km) = false := decide_eq_false hkk
                have HNX := Lib.hid (BA.keep HMO.out hj (by rw [HN.out]; exact hlt) HPK.out (by rw [HY.out, HM.out, HKY.out, HKM.out]; exact hkk))
                clear hkk
                refine wpAnyH_take (i := 24) (oi := _) (v := ?_) rfl (by kernel_rfl) (by kernel_rfl) (by kernel_rfl) (fun _ _ _ h => h) (Or.inl ⟨by rfl, ?_⟩) (by assumption) ?_; rotate_left; focus (intro W hSw; (try dsimp only at hSw); go_simp; (first | done | with_reducible rfl))
                (try simp only [List.getElem_toArray, List.getElem_cons_succ, List.getElem_cons_zero, Act.put, List.setIfInBounds_toArray, List.set_cons_zero, List.set_cons_succ])
                refine wpAnyH_take (i := 25) (oi := _) (v := ?_) rfl (by kernel_rfl) (by kernel_rfl) (by kernel_rfl) (fun _ _ _ h => h) (Or.inl ⟨by rfl, ?_⟩) (by assumption) ?_; rotate_left; focus (intro W hSw; (try dsimp only at hSw); go_simp; (first | done | with_reducible rfl))
                (try simp only [List.getElem_toArray, List.getElem_cons_succ, List.getElem_cons_zero, Act.put, List.setIfInBounds_toArray, List.set_cons_zero, List.set_cons_succ])
                refine wpAnyH_take (i := 26) (oi := _) (v := ?_) rfl (by kernel_rfl) (by kernel_rfl) (by kernel_rfl) (fun _ _ _ h => h) (Or.inl ⟨by rfl, ?_⟩) (by assumption) ?_; rotate_left; focus (intro W hSw; (try dsimp only at hSw); go_simp; (first | done | with_reducible rfl))
                (try simp only [List.getElem_toArray, List.getElem_cons_succ, List.getElem_cons_zero, Act.put, List.setIfInBounds_toArray, List.set_cons_zero, List.set_cons_succ])
                refine wpAnyH_done (by kernel_rfl) ?_ _
                refine NoPanic.normal ?_
                (try simp only [List.getElem_toArray, List.getElem_cons_succ, List.getElem_cons_zero, Act.put, List.setIfInBounds_toArray, List.set_cons_zero, List.set_cons_succ])
                clear hu
                go_wp2
                go_meet
                exact ⟨⟨false, rfl, HNX.out⟩, HB5.out, HK5.out, HR5.out⟩
        case rest =>
        obtain ⟨⟨tk, rfl, hnx⟩, hB5, hK5, hR5⟩ := hcut
        have HNX := Lib.hid hnx
        have HB5 := Lib.hid hB5
        have HK5 := Lib.hid hK5
        have HR5 := Lib.hid hR5
        clear hnx hB5 hK5 hR5 HA HB HK HR c0 c1 c2 c3 c4 c5 c6 c7 q0 q1 q2 q3 q4 q5 CP
        cases tk with
        | false =>
          go_wp2
          go_roundw
          case rel => exact ⟨k + 1, bz, by omega, by go_num, rfl, HNX.out, HB5.out, HK5.out, HR5.out⟩
          case measure => simp [intOf]; omega
        | true =>
          go_wp2
          go_roundw
          case rel => exact ⟨k + 1, k, by omega, by go_num, rfl, HNX.out, HB5.out, HK5.out, HR5.out⟩
          case measure => simp [intOf]; omega
      · obtain rfl : k = n := by omega
        have HA2 := HA.out
        unfold BA at HA2
        rw [show rs.take k = rs from List.take_of_length_le (by rw [HN.out]; exact Nat.le_refl _)] at HA2
        rcases HA2 with ⟨hz, hmo⟩ | ⟨j, hj, hz, hmo⟩
        · obtain ⟨h1, h2⟩ := be_no (rs := rs) (r := r) hmo
          rw [HO.out] at h1
          rw [HZ.out] at h2
          subst h1 h2 hz
          clear hmo
          go_wp2
          go_ret2
          exact ⟨rfl, HB.out⟩
        · obtain ⟨h1, h2⟩ := be_yes HC.out (show beO rs r = some (at_ rs j) from hmo)
          rw [HO.out] at h1
          rw [HZ.out] at h2
          obtain ⟨b, off, rfl, c0, -⟩ := HR.out.cells (i := j) (by rw [HN.out]; exact hj)
          rw [← h2] at c0
          subst h1 hz
          have hj0 : (0 : Int) ≤ (j : Int) := by omega
          have hj1 : (j : Int) < (k : Int) := by omega
          have hjz : ¬ (j : Int) < 0 := by omega
          clear hmo h2
          go_wp2
          go_ret2
          exact ⟨rfl, HB.out⟩

theorem both (rs : List Kl) (hf : ∀ i, i < rs.length → KlK.Is (at_ rs i)) (hl : rs.length ≤ 1048576) (r : Ru) (hr0 : RuK.Is r) : ∃ (z : Int) (ok : Bool),
    (∀ a cap w, rs.length ≤ cap → Row w a rs → Calls Tryz.prog 14 #[.slice a rs.length cap, .agg #[.int .i64 r.id, .string r.nm, .string r.cl, .int .i64 r.bo, .bool r.wo, .int .i64 r.ca]] w fun e w' => e = .returned (.tuple #[.int .i64 z, .bool ok]) ∧ Below w.heap.size w w') ∧
    (∀ a cap w, rs.length ≤ cap → Row w a rs → Calls Tryz.prog 13 #[.slice a rs.length cap, .agg #[.int .i64 r.id, .string r.nm, .string r.cl, .int .i64 r.bo, .bool r.wo, .int .i64 r.ca]] w fun e w' => e = .returned (.tuple #[.int .i64 z, .bool ok]) ∧ Below w.heap.size w w') :=
  ⟨beZ rs r, beB rs r, fun a cap w _ hr => best_spec rs hf hl r hr0 a cap w hr, fun a cap w hc hr => best_impl rs hf hl r hr0 a cap w hc hr⟩
end Go.Proofs.YtleoljnofdajfaaGreatDoor.KaJ
