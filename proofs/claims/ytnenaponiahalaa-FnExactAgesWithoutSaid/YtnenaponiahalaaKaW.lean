/- AgesWithout: both texts. -/
import Derived.Test.YtnenaponiahalaaKaF
import Derived.Test.YtnenaponiahalaaKaH
import Derived.Test.YtnenaponiahalaaKaM
import Derived.Test.YtnenaponiahalaaKaT
import Derived.Test.YtnenaponiahalaaKlZ
import Derived.Test.YtnenaponiahalaaRuP
namespace Go.Proofs.Ytnenaponiahalaa.KaW
open Go.RowKit Lb Bk InA KlI KaA KaG KaD KaF KaH KaM KaT
open KlK (at_ at_lt no Row Own cells blk_cells)
open TblS (rInfo)
open IntS (OwnI)
open RuP (cmpZ cmp_any)
set_option linter.unusedSimpArgs false
set_option linter.unusedVariables false

/-- Those of a sex; what AgesWithout answers. -/
def sexL (rs : List Kl) (woman : Bool) : List Kl := rs.filter (fun c => sexB c woman)
def agL (rs : List Kl) (woman : Bool) : List (Nat × Nat) := if goodB rs then sp (frF (sexL rs woman)) 121 else []
theorem ag_len (rs : List Kl) (woman : Bool) : (agL rs woman).length ≤ 121 := by
  unfold agL
  split
  · exact sp_len _ _
  · exact Nat.zero_le _
def loZ (x y : Kl) : Int := cmpZ x.lo y.lo
theorem lo_lt (x y : Kl) : ltOf loZ x y = decide (x.lo < y.lo) := by
  unfold ltOf loZ cmpZ
  apply decide_eq_decide.2
  by_cases h1 : x.lo < y.lo
  · simp [h1]
  · by_cases h2 : y.lo < x.lo <;> simp [h1, h2]
theorem lo_swo : Go.Sort.SWO (ltOf loZ) where
  irrefl x := by rw [lo_lt]; simp
  trans x y z h1 h2 := by rw [lo_lt] at *; simp at *; omega
  ntrans x y z h1 h2 := by rw [lo_lt] at *; simp at *; omega

set_option maxHeartbeats 1000000 in
theorem lo_any (x y : Kl) (W : World) : Calls Try.prog 109 #[.agg #[.int .i64 x.id, .string x.nm, .int .i64 x.lo, .int .i64 x.hi, .bool x.wo, .bool x.me, .int .i64 x.co, .int .i64 x.mo], .agg #[.int .i64 y.id, .string y.nm, .int .i64 y.lo, .int .i64 y.hi, .bool y.wo, .bool y.me, .int .i64 y.co, .int .i64 y.mo]] W fun e w' => e = .returned (.int .i64 (loZ x y)) ∧ ∃ q os', w' = Go.Sort.grow (W.drewN q) os' := by
  obtain ⟨⟨p0, p1, p2, p3, p4, p5, p6, p7⟩, -⟩ := blk_cells ((Blk.new W 46 #[.int .i64 x.id, .string x.nm, .int .i64 x.lo, .int .i64 x.hi, .bool x.wo, .bool x.me, .int .i64 x.co, .int .i64 x.mo]).alloc (.cells #[.int .i64 y.id, .string y.nm, .int .i64 y.lo, .int .i64 y.hi, .bool y.wo, .bool y.me, .int .i64 y.co, .int .i64 y.mo] 46))
  obtain ⟨⟨q0, q1, q2, q3, q4, q5, q6, q7⟩, -⟩ := blk_cells (show Blk ((W.alloc (.cells #[.int .i64 x.id, .string x.nm, .int .i64 x.lo, .int .i64 x.hi, .bool x.wo, .bool x.me, .int .i64 x.co, .int .i64 x.mo] 46)).alloc (.cells #[.int .i64 y.id, .string y.nm, .int .i64 y.lo, .int .i64 y.hi, .bool y.wo, .bool y.me, .int .i64 y.co, .int .i64 y.mo] 46)) (W.heap.size + 1) 46 #[.int .i64 y.id, .string y.nm, .int .i64 y.lo, .int .i64 y.hi, .bool y.wo, .bool y.me, .int .i64 y.co, .int .i64 y.mo] from by simpa using Blk.new (W.alloc (.cells #[.int .i64 x.id, .string x.nm, .int .i64 x.lo, .int .i64 x.hi, .bool x.wo, .bool x.me, .int .i64 x.co, .int .i64 x.mo] 46)) 46 #[.int .i64 y.id, .string y.nm, .int .i64 y.lo, .int .i64 y.hi, .bool y.wo, .bool y.me, .int .i64 y.co, .int .i64 y.mo])
  obtain ⟨z, hz⟩ : ∃ z, cmpZ x.lo y.lo = z := ⟨_, rfl⟩
  have C := Lib.hid (fun w => hz ▸ cmp_any x.lo y.lo w)
  rw [show loZ x y = z from hz]
  clear hz
  go_enter Try.func109, Try.ntmps109
  go_wp2_with fail
  refine (C.out _).mono ?_
  rintro e w1 ⟨rfl, rfl⟩
  go_wp2
  go_ret
  exact ⟨rfl, 0, _, by rw [Go.Sort.alloc_eq_grow, Go.Sort.alloc_eq_grow, Go.Sort.grow_grow]; rfl⟩

set_option maxHeartbeats 1000000 in
theorem sx1_any (c : Kl) (woman : Bool) (B : Nat) (w : World) (hw : w.cell? ⟨B, 0, none⟩ = some (.bool woman)) : Calls Try.prog 106 #[.agg #[.int .i64 c.id, .string c.nm, .int .i64 c.lo, .int .i64 c.hi, .bool c.wo, .bool c.me, .int .i64 c.co, .int .i64 c.mo], .pointer (some ⟨B, 0, none⟩)] w fun e w' => e = .returned (.bool (sexB c woman)) ∧ Below w.heap.size w w' := by
  have HB := Lib.hid ((Below.refl w.heap.size w).alloc (Nat.le_refl _) (.cells #[.int .i64 c.id, .string c.nm, .int .i64 c.lo, .int .i64 c.hi, .bool c.wo, .bool c.me, .int .i64 c.co, .int .i64 c.mo] 46))
  obtain ⟨⟨p0, p1, p2, p3, p4, p5, p6, p7⟩, -⟩ := blk_cells (Blk.new w 46 #[.int .i64 c.id, .string c.nm, .int .i64 c.lo, .int .i64 c.hi, .bool c.wo, .bool c.me, .int .i64 c.co, .int .i64 c.mo])
  have l0 := (HB.out.cell (World.block_lt_of_cell? w _ hw)).trans hw
  obtain ⟨o, ho⟩ : ∃ o, sexB c woman = o := ⟨_, rfl⟩
  have C := Lib.hid (fun w => ho ▸ sex_any c woman w)
  rw [ho]
  clear ho hw
  go_enter Try.func106, Try.ntmps106
  go_upto_region 1 with (fail)
  generalize w.alloc (.cells #[.int .i64 c.id, .string c.nm, .int .i64 c.lo, .int .i64 c.hi, .bool c.wo, .bool c.me, .int .i64 c.co, .int .i64 c.mo] 46) = wz at *
  go_wp2_with fail
  refine (C.out _).mono ?_
  rintro e w1 ⟨rfl, hb⟩
  have HB1 := Lib.hid (HB.out.trans (hb.mono HB.out.size))
  clear hb
  go_wp2
  go_ret
  exact ⟨rfl, HB1.out⟩

set_option maxRecDepth 20000 in
set_option maxHeartbeats 8000000 in
theorem ages_impl (rs : List Kl) (hf : ∀ i, i < rs.length → KlK.Is (at_ rs i)) (hl : rs.length ≤ 1048576) (woman : Bool) (a : Option Addr) (cap : Nat) (w : World) (hc : rs.length ≤ cap) (hr : Row w a rs) :
    Calls Try.prog 38 #[.slice a rs.length cap, .bool woman] w (TPost w (agL rs woman) (goodB rs)) := by
  obtain ⟨t1, ri, rz0, rz1, rz2⟩ := info_parts rInfo
  have HB := Lib.hid ((Below.refl w.heap.size w).alloc (Nat.le_refl _) (.cells #[.bool woman] 4))
  have HK := Lib.hid (Blk.new w 4 #[.bool woman])
  have H := Lib.hid hr
  have hml : rs.length ≤ maxLen := by unfold maxLen; omega
  obtain ⟨g, hg⟩ : ∃ g, goodB rs = g := ⟨_, rfl⟩
  have c1 := Lib.hid (fun w hr => hg ▸ KaA.impl_any a cap rs w hc hr hf hml)
  have HG := Lib.hid hg
  obtain ⟨l, hl2⟩ : ∃ l, agL rs woman = l := ⟨_, rfl⟩
  have HLL := Lib.hid hl2
  rw [hg, hl2]
  have HLn := Lib.hid hl
  clear hr hg hl2 hf hc hml hl
  go_enter Try.func38, Try.ntmps38
  go_wp2_with fail
  refine (c1.out _ (H.out.later HB.out)).mono ?_
  rintro e w1 ⟨rfl, hb⟩
  have HB1 := Lib.hid (HB.out.trans (hb.mono HB.out.size))
  have HK1 := Lib.hid (HK.out.later hb)
  clear hb HB HK
  cases g with
  | false =>
    have h2 : l = [] := by rw [← HLL.out]; unfold agL; rw [HG.out]; rfl
    subst h2
    have HT := Lib.hid (Tg.start HB1.out)
    go_wp2
    go_ret2
    exact ⟨_, _, rfl, HT.out.own, HT.out.b⟩
  | true =>
    have hn8 := good_len HG.out
    have h2 := Lib.hid (show sp (frF (sexL rs woman)) 121 = l from by rw [← HLL.out]; unfold agL; rw [HG.out]; rfl)
    have C2 := Lib.hid (that_any 106 #[.pointer (some ⟨w.heap.size, 0, none⟩)] (fun c => sexB c woman) (fun _ => True) w1 (fun args w => FnEn.enter_of Try.func106 (by kernel_rfl) rfl args w)
      (fun c _ w' hb => sx1_any c woman w.heap.size w' ((HK1.out.later hb).cell 0 rfl)) a cap rs (H.out.later HB1.out) (fun _ _ => trivial) HLn.out)
    have hsz := HB1.out.size
    go_wp2_with fail
    refine C2.out.mono ?_
    rintro e w2 ⟨v2, rfl, ho, hb⟩
    have HO2 := Lib.hid (show Own w2 w1.heap.size v2 (sexL rs woman) from ho)
    have HB2 := Lib.hid (HB1.out.trans (hb.mono hsz))
    clear ho hb HB1 C2 c1
    have hsl : (sexL rs woman).length ≤ 8 := Nat.le_trans (fil_len _ rs) hn8
    obtain ⟨fs, hfs⟩ : ∃ fs, sexL rs woman = fs := ⟨_, rfl⟩
    have HFs := Lib.hid hfs
    have HOK := Lib.hid (show ∀ x, x ∈ fs → okK x = true from by
      rw [← hfs]
      intro x hx
      obtain ⟨j, hj, e⟩ := List.mem_iff_getElem.1 (List.mem_filter.1 hx).1
      rw [← e, ← at_lt hj]
      exact good_ok HG.out hj)
    rw [hfs] at h2 HO2 hsl
    have C3 := Lib.hid (fun w h => KlZ.sort_any 109 loZ lo_swo (fun args w => FnEn.enter_of Try.func109 (by kernel_rfl) rfl args w) (fun x y W => lo_any x y W) w1.heap.size v2 fs w h (by omega))
    clear hfs
    go_wp2_with fail
    refine (C3.out _ HO2.out).mono ?_
    rintro e w3 ⟨rfl, gs, hgl, hgm, hgs, ho, hgr⟩
    have hb3 : Below w.heap.size w2 w3 := (Below.refl _ _).grown hgr HB2.out.size (fun k e => Nat.le_trans hsz (World.ownsRow.lt HO2.out k e).1)
    have HB3 := Lib.hid (HB2.out.trans hb3)
    obtain ⟨ga, gc, rfl, -, -⟩ := ho.slice
    have HO3 := Lib.hid ho
    have HGL := Lib.hid (show ∀ i, i < gs.length → okK (at_ gs i) = true from fun i hi => by
      rw [at_lt hi]
      exact HOK.out _ ((hgm _).1 (List.getElem_mem hi)))
    have HSo := Lib.hid (show ∀ j, j < gs.length → ∀ i, j ≤ i → i < gs.length → (at_ gs j).lo ≤ (at_ gs i).lo from fun j hj i hji hi => by
      rcases Nat.lt_or_ge j i with h1 | h1
      · have := hgs j i h1 hi
        rw [lo_lt] at this
        have := of_decide_eq_false this
        omega
      · obtain rfl : i = j := by omega
        exact Int.le_refl _)
    have h3 := Lib.hid (show sp (frF gs) 121 = l from by rw [fr_same hgm]; exact h2.out)
    have hg8 : gs.length ≤ 8 := by omega
    have hsz3 := HB3.out.size
    have HT3 := Lib.hid (Tg.start HB3.out)
    have HO4 := Lib.hid (show Own (w3.alloc (.cells #[] 24)) w1.heap.size (.slice ga gs.length gc) gs from HO3.out.alloc _)
    obtain ⟨n, hn⟩ : ∃ n, gs.length = n := ⟨_, rfl⟩
    have HN := Lib.hid hn
    rw [hn] at HO4 hg8 ⊢
    clear hgl hgm hgs ho hgr hb3 HB2 HO2 C3 hsl h2 HOK HFs HB3 HO3 hn
    go_wp2_with fail
    go_loopg [23, 8, 7] n (fun gk i nx v wr => ∃ (k N : Nat) (rr : Nat → Value), k ≤ n ∧ gk = n - k ∧ i = .int .i64 k ∧ nx = .int .i64 N ∧ Sw gs k N ∧ Tg w v (sp (frF gs) N) rr wr ∧ Own wr w1.heap.size (.slice ga n gc) gs)
    case atStart => exact ⟨0, 0, _, Nat.zero_le _, rfl, rfl, rfl, Sw.start gs, HT3.out, HO4.out⟩
    case round =>
      clear HT3 HO4
      obtain ⟨k, N, rr, hk, hgk, rfl, rfl, hS, hT, hO⟩ := hrel
      have HS := Lib.hid hS
      have HO := Lib.hid hO
      have HT := Lib.hid hT
      have hN := hS.le
      clear hS hT hO
      by_cases hlt : k < n
      · obtain ⟨b, off, rfl, c0, c1, c2, c3, c4, c5, c6, c7⟩ := (show Row wr ga gs from by have h := HO.out; rw [← HN.out] at h; exact h.row).cells (i := k) (by rw [HN.out]; exact hlt)
        obtain ⟨y, hy⟩ : ∃ y, at_ gs k = y := ⟨_, rfl⟩
        have hag := ok_ages (HGL.out k (by rw [HN.out]; exact hlt))
        rw [hy] at c0 c1 c2 c3 c4 c5 c6 c7 hag
        obtain ⟨l0, hl0⟩ : ∃ x : Nat, y.lo = (x : Int) := ⟨y.lo.toNat, by omega⟩
        obtain ⟨h0, hh0⟩ : ∃ x : Nat, y.hi = (x : Int) := ⟨y.hi.toNat, by omega⟩
        have HSt := Lib.hid (HS.out.step (j := k) (by rw [HN.out]; exact hlt) (by rw [hy]; exact hl0) (by rw [hy]; exact hh0) (by omega) (by omega) (HSo.out k (by rw [HN.out]; exact hlt)))
        have hlb : l0 ≤ 120 := by omega
        have hhb : h0 ≤ 120 := by omega
        have HL0 := Lib.hid hl0
        have HH0 := Lib.hid hh0
        have HT2 := Lib.hid (HT.out.alloc (.cells #[.int .i64 y.id, .string y.nm, .int .i64 y.lo, .int .i64 y.hi, .bool y.wo, .bool y.me, .int .i64 y.co, .int .i64 y.mo] 46))
        have HO2 := Lib.hid (show Own (wr.alloc (.cells #[.int .i64 y.id, .string y.nm, .int .i64 y.lo, .int .i64 y.hi, .bool y.wo, .bool y.me, .int .i64 y.co, .int .i64 y.mo] 46)) w1.heap.size (.slice (some ⟨b, off, none⟩) n gc) gs from HO.out.alloc _)
        have HK2 := Lib.hid (Blk.new wr 46 #[.int .i64 y.id, .string y.nm, .int .i64 y.lo, .int .i64 y.hi, .bool y.wo, .bool y.me, .int .i64 y.co, .int .i64 y.mo])
        have hspl := sp_len (frF gs) N
        obtain ⟨sl, hsl⟩ : ∃ x, (sp (frF gs) N).length = x := ⟨_, rfl⟩
        rw [hsl] at hspl
        have HM := Lib.hid hsl
        clear hy hl0 hh0 hag HT HO hsl
        have hmx : IntKind.i64.wrap ((h0 : Int) + 1) = ((h0 + 1 : Nat) : Int) := by rw [IntWalk.i64_in _ (by omega)]; omega
        go_upto_region 10 with (fail)
        obtain ⟨⟨e0, e1, e2, e3, e4, e5, e6, e7⟩, -⟩ := blk_cells HK2.out
        generalize wr.alloc (.cells #[.int .i64 y.id, .string y.nm, .int .i64 y.lo, .int .i64 y.hi, .bool y.wo, .bool y.me, .int .i64 y.co, .int .i64 y.mo] 46) = wz at *
        rw [HL0.out] at e2
        rw [HH0.out] at e3
        clear c0 c1 c2 c3 c4 c5 c6 c7
        have HT := HT2
        by_cases hNl : N < l0
        · have hd : decide ((N : Int) < (l0 : Int)) = true := decide_eq_true (by omega)
          have hl1 : 1 ≤ l0 := by omega
          have hw1 : ((l0 : Int) - 1) = ((l0 - 1 : Nat) : Int) := by omega
          have HE2 := Lib.hid (HSt.out.2.1 hNl)
          have HHw := Lib.hid hw1
          go_upto_region 11 with (fail)
          have HTa := Lib.hid ((HT.out.alloc (.cells #[.int .i64 (N : Nat), .int .i64 (l0 - 1 : Nat)] 3)).alloc (.cells #[.slice (some ⟨wz.heap.size, 0, none⟩) 2 2] 24))
          have HQa := Lib.hid ((own_two wz wz.heap.size (N : Nat) (l0 - 1 : Nat) (Nat.le_refl _)).alloc (.cells #[.slice (some ⟨wz.heap.size, 0, none⟩) 2 2] 24))
          have HLo := Lib.hid HT.out.low
          have hcn := cell_one_new (wz.alloc (.cells #[.int .i64 (N : Nat), .int .i64 (l0 - 1 : Nat)] 3)) (.slice (some ⟨wz.heap.size, 0, none⟩) 2 2) 24
          rw [World.size_alloc] at hcn
          have hown := HTa.out.own.tbl
          rw [HM.out] at hown
          have hsz := HT.out.b.size
          go_wp2_with (at_builtin; (refine wpList_append_own _ rfl (.tmp 31) (.tmp 37) 52 rfl w.heap.size 24 t1 (.slice none 0 0) 1 24 Try.underlying52 ri rz0 rz1 rz2 rfl (by decide) _ sl _ rfl hown ⟨_, 0, none⟩ 1 1 [.slice (some ⟨wz.heap.size, 0, none⟩) 2 2] rfl rfl hcn (by simp [Value.oneCell']) (by unfold maxLen; omega) (by omega) (by simp; omega) ?_; intro v' w3 hown3 hgr3 _; have HOP := Lib.hid (show Own w3 w1.heap.size (.slice (some ⟨b, off, none⟩) n gc) gs from ((HO2.out.alloc _).alloc _).kept hgr3 (own_apart ((HO2.out.alloc _).alloc _) HTa.out.own.tbl (by decide))); have HKp := blk_keep HTa.out.own.tbl ((HK2.out.alloc (.cells #[.int .i64 (N : Nat), .int .i64 (l0 - 1 : Nat)] 3)).alloc (.cells #[.slice (some ⟨wz.heap.size, 0, none⟩) 2 2] 24)) (by decide) hgr3; have e3n : w3.cell? ⟨wr.heap.size, 3, none⟩ = some (.int .i64 (h0 : Nat)) := (by have h := (blk_cells HKp).1.2.2.2.1; rwa [HH0.out] at h); clear HKp;  have HP3 := Lib.hid (HTa.out.push HQa.out (by omega) HLo.out (by rw [HM.out]; exact hown3) hgr3); clear hown3 hgr3))
          go_roundg (n - (k + 1))
          case measure => omega
          case rel => exact ⟨k + 1, max N (h0 + 1), _, by omega, rfl, by go_num, by go_num, HSt.out.1, by rw [HE2.out]; exact HP3.out, HOP.out⟩
        · have hd : decide ((N : Int) < (l0 : Int)) = false := decide_eq_false (by omega)
          have HE2 := Lib.hid (HSt.out.2.2 hNl)
          go_wp2
          go_roundg (n - (k + 1))
          case measure => omega
          case rel => exact ⟨k + 1, max N (h0 + 1), _, by omega, rfl, by go_num, by go_num, HSt.out.1, by rw [HE2.out]; exact HT.out, HO2.out⟩
      · obtain rfl : k = n := by omega
        have HDn := Lib.hid (show Sw gs gs.length N from by rw [HN.out]; exact HS.out).done
        have hspl := sp_len (frF gs) N
        obtain ⟨sl, hsl⟩ : ∃ x, (sp (frF gs) N).length = x := ⟨_, rfl⟩
        rw [hsl] at hspl
        have HM := Lib.hid hsl
        clear hsl
        by_cases hN2 : N ≤ 120
        · have hd : decide ((N : Int) ≤ 120) = true := decide_eq_true (by omega)
          have HE2 := Lib.hid (HDn.out.1 hN2)
          go_upto_region 15 with (fail)
          have HTa := Lib.hid ((HT.out.alloc (.cells #[.int .i64 (N : Nat), .int .i64 (120 : Nat)] 3)).alloc (.cells #[.slice (some ⟨wr.heap.size, 0, none⟩) 2 2] 24))
          have HQa := Lib.hid ((own_two wr wr.heap.size (N : Nat) (120 : Nat) (Nat.le_refl _)).alloc (.cells #[.slice (some ⟨wr.heap.size, 0, none⟩) 2 2] 24))
          have HLo := Lib.hid HT.out.low
          have hcn := cell_one_new (wr.alloc (.cells #[.int .i64 (N : Nat), .int .i64 (120 : Nat)] 3)) (.slice (some ⟨wr.heap.size, 0, none⟩) 2 2) 24
          rw [World.size_alloc] at hcn
          have hown := HTa.out.own.tbl
          rw [HM.out] at hown
          have hsz := HT.out.b.size
          go_wp2_with (at_builtin; (refine wpList_append_own _ rfl (.tmp 47) (.tmp 50) 52 rfl w.heap.size 24 t1 (.slice none 0 0) 1 24 Try.underlying52 ri rz0 rz1 rz2 rfl (by decide) _ sl _ rfl hown ⟨_, 0, none⟩ 1 1 [.slice (some ⟨wr.heap.size, 0, none⟩) 2 2] rfl rfl hcn (by simp [Value.oneCell']) (by unfold maxLen; omega) (by omega) (by simp; omega) ?_; intro v' w3 hown3 hgr3 _;  have HP3 := Lib.hid (HTa.out.push HQa.out (by omega) HLo.out (by rw [HM.out]; exact hown3) hgr3); clear hown3 hgr3))
          go_ret2
          exact ⟨_, _, rfl, by have h := HP3.out.own; rw [show sp (frF gs) N ++ [(N, 120)] = l from by rw [← HE2.out, h3.out]] at h; exact h, HP3.out.b⟩
        · have hd : decide ((N : Int) ≤ 120) = false := decide_eq_false (by omega)
          have HE2 := Lib.hid (HDn.out.2 hN2)
          go_wp2
          go_ret2
          exact ⟨_, _, rfl, by have h := HT.out.own; rw [show sp (frF gs) N = l from by rw [← HE2.out, h3.out]] at h; exact h, HT.out.b⟩
end Go.Proofs.Ytnenaponiahalaa.KaW
