/- The Classes that a function value tells; those that admit a Runner; ClassesFor: both texts. -/
import Derived.Test.YtleoljnofdajfaaGreatDoorKaD
import Derived.Test.YtleoljnofdajfaaGreatDoorKaG
import Derived.Test.YtleoljnofdajfaaGreatDoorKlW
import Derived.Test.YtleoljnofdajfaaGreatDoorIntA
import Derived.Test.YtleoljnofdajfaaGreatDoorFnEn
import Derived.Deep.LoopGhost
import Derived.Deep.AppendLies
import Derived.Maps.AppendAt
import Derived.Shelf.Abstract
import Derived.OwnWalk
import Derived.Deep.CutRange
import Derived.Deep.DeepCutAuto
namespace Go.Proofs.YtleoljnofdajfaaGreatDoor.KaF
open Go.RowKit Lb Bk InA KlI KaA KaG KaD
open KlK (at_ at_lt no Row Own cells cells_one blk_cells info)
open IntS (OwnI iInfo)
set_option linter.unusedSimpArgs false
set_option linter.unusedVariables false

/-- Two rows of different kinds lie apart. -/
theorem own_apart {w : World} {b b' : Nat} {e e' : TypeId} {k k' : Nat} {v v' : Value} {n n' : Nat} {xs xs' : List Value} (h : w.ownsRow b e k v n xs) (h' : w.ownsRow b' e' k' v' n' xs') (hne : e ≠ e') : v.ownBlock = none ∨ v.ownBlock ≠ v'.ownBlock := by
  rcases h.2 with ⟨rfl, _⟩ | ⟨g, cap, cur, rfl, hg, hh, _⟩
  · exact .inl rfl
  · refine .inr fun e2 => ?_
    rcases h'.2 with ⟨rfl, _⟩ | ⟨g', cap', cur', rfl, hg', hh', _⟩
    · simp [Value.ownBlock] at e2
    · obtain rfl : g = g' := by simpa [Value.ownBlock] using e2
      rw [hh] at hh'
      injection hh' with h3
      injection h3 with _ h4
      exact hne h4

theorem fil_take {p : Kl → Bool} {rs : List Kl} {k : Nat} (hk : k < rs.length) (h : p (at_ rs k) = true) : (rs.take (k + 1)).filter p = (rs.take k).filter p ++ [at_ rs k] := by
  rw [List.take_succ_eq_append_getElem hk, List.filter_append, ← at_lt hk]
  simp [h]
theorem fil_skip {p : Kl → Bool} {rs : List Kl} {k : Nat} (hk : k < rs.length) (h : p (at_ rs k) = false) : (rs.take (k + 1)).filter p = (rs.take k).filter p := by
  rw [List.take_succ_eq_append_getElem hk, List.filter_append, ← at_lt hk]
  simp [h]
theorem fil_len (p : Kl → Bool) (rs : List Kl) : (rs.filter p).length ≤ rs.length := List.length_filter_le _ _
def idsL (rs : List Kl) : List Int := rs.map (·.id)
theorem ids_take {rs : List Kl} {k : Nat} (hk : k < rs.length) : idsL (rs.take (k + 1)) = idsL (rs.take k) ++ [(at_ rs k).id] := by
  unfold idsL
  rw [List.take_succ_eq_append_getElem hk, List.map_append, ← at_lt hk]
  rfl
theorem ids_len (rs : List Kl) : (idsL rs).length = rs.length := by unfold idsL; rw [List.length_map]

set_option maxRecDepth 20000 in
set_option maxHeartbeats 4000000 in
theorem that_any (g : Nat) (cb : Array Value) (p : Kl → Bool) (Q : Kl → Prop) (w : World) (eg : ∀ args w, (callFunc g args).run Tryz.prog w = .ok (.enter g args) w)
    (hp : ∀ r, Q r → ∀ w', Below w.heap.size w w' → Calls Tryz.prog g (#[.agg #[.int .i64 r.id, .string r.nm, .int .i64 r.lo, .int .i64 r.hi, .bool r.wo, .bool r.me, .int .i64 r.co, .int .i64 r.mo]] ++ cb) w' fun e w'' => e = .returned (.bool (p r)) ∧ Below w'.heap.size w' w'')
    (a : Option Addr) (cap : Nat) (rs : List Kl) (hr : Row w a rs) (hf : ∀ i, i < rs.length → Q (at_ rs i)) (hl : rs.length ≤ 1048576) :
    Calls Tryz.prog 71 #[.slice a rs.length cap, .func (.func g) #[] cb] w fun e w' => ∃ v, e = .returned v ∧ Own w' w.heap.size v (rs.filter p) ∧ Below w.heap.size w w' := by
  obtain ⟨t0, hi0, hz0, hz1, hz2⟩ := info_parts info
  have H := Lib.hid hr
  have HF := Lib.hid hf
  have HP := Lib.hid hp
  obtain ⟨n, hn⟩ : ∃ n, rs.length = n := ⟨_, rfl⟩
  have HN := Lib.hid hn
  rw [hn] at hl ⊢
  have HS0 := Lib.hid (KlK.Gr.start w)
  clear hr hf hp hn
  go_enter Tryz.func71, Tryz.ntmps71
  go_wp2
  go_loopg [11, 5, 7] n (fun gk i v _ wr => ∃ k : Nat, k ≤ n ∧ gk = n - k ∧ i = .int .i64 k ∧ KlK.Gr w v ((rs.take k).filter p) wr)
  case atStart => exact ⟨0, Nat.zero_le _, rfl, rfl, by simpa using HS0.out⟩
  case round =>
    clear HS0
    obtain ⟨k, hk, hgk, rfl, hS⟩ := hrel
    have HS := Lib.hid hS
    clear hS
    by_cases hlt : k < n
    · obtain ⟨b, off, rfl, c0, c1, c2, c3, c4, c5, c6, c7⟩ := (H.out.later HS.out.b).cells (i := k) (by rw [HN.out]; exact hlt)
      obtain ⟨y, hy⟩ : ∃ y, at_ rs k = y := ⟨_, rfl⟩
      rw [hy] at c0 c1 c2 c3 c4 c5 c6 c7
      have HY := Lib.hid hy
      have HI := Lib.hid (show Q y from by have := HF.out k (by rw [HN.out]; exact hlt); rw [hy] at this; exact this)
      obtain ⟨o, ho⟩ : ∃ o, p y = o := ⟨_, rfl⟩
      have HO := Lib.hid ho
      have HS2 := Lib.hid (HS.out.alloc (.cells #[.int .i64 y.id, .string y.nm, .int .i64 y.lo, .int .i64 y.hi, .bool y.wo, .bool y.me, .int .i64 y.co, .int .i64 y.mo] 25))
      have HK2 := Lib.hid (Blk.new wr 25 #[.int .i64 y.id, .string y.nm, .int .i64 y.lo, .int .i64 y.hi, .bool y.wo, .bool y.me, .int .i64 y.co, .int .i64 y.mo])
      have CP := Lib.hid (HP.out y HI.out _ HS2.out.b)
      rw [ho] at CP
      clear hy ho
      go_upto_region 5 with (fail)
      obtain ⟨⟨e0, e1, e2, e3, e4, e5, e6, e7⟩, -⟩ := blk_cells HK2.out
      generalize wr.alloc (.cells #[.int .i64 y.id, .string y.nm, .int .i64 y.lo, .int .i64 y.hi, .bool y.wo, .bool y.me, .int .i64 y.co, .int .i64 y.mo] 25) = wz at *
      clear c0 c1 c2 c3 c4 c5 c6 c7
      cases o with
      | false =>
        have HSk := Lib.hid (fil_skip (p := p) (rs := rs) (k := k) (by rw [HN.out]; exact hlt) (by rw [HY.out]; exact HO.out))
        go_wp2_with (go_at_fn g; refine CP.out.mono ?_; rintro e w2 ⟨rfl, hb⟩; have HS3 := Lib.hid (HS2.out.below hb); clear hb)
        go_roundg (n - (k + 1))
        case measure => omega
        case rel => exact ⟨k + 1, by omega, rfl, by go_num, by rw [HSk.out]; exact HS3.out⟩
      | true =>
        have HTk := Lib.hid (fil_take (p := p) (rs := rs) (k := k) (by rw [HN.out]; exact hlt) (by rw [HY.out]; exact HO.out))
        have hml := fil_len p (rs.take k)
        rw [KaA.take_len (rs := rs) (k := k) (by rw [HN.out]; omega)] at hml
        obtain ⟨m, hm⟩ : ∃ m, ((rs.take k).filter p).length = m := ⟨_, rfl⟩
        rw [hm] at hml
        have HM := Lib.hid hm
        clear hm
        go_upto_if 17 with (go_at_fn g; refine CP.out.mono ?_; rintro e w2 ⟨rfl, hb⟩; have HS3 := Lib.hid (HS2.out.below hb); have HK3 := Lib.hid (HK2.out.later hb); clear hb)
        obtain ⟨⟨q0, q1, q2, q3, q4, q5, q6, q7⟩, -⟩ := blk_cells HK3.out
        have hown := HS3.out.own.below ((Below.refl _ _).alloc (Nat.le_refl _) (.cells #[.int .i64 y.id, .string y.nm, .int .i64 y.lo, .int .i64 y.hi, .bool y.wo, .bool y.me, .int .i64 y.co, .int .i64 y.mo] 25))
        unfold Own at hown
        rw [HM.out] at hown
        have HTa := Lib.hid (HS3.out.alloc (.cells #[.int .i64 y.id, .string y.nm, .int .i64 y.lo, .int .i64 y.hi, .bool y.wo, .bool y.me, .int .i64 y.co, .int .i64 y.mo] 25))
        have hsz := HS3.out.b.size
        go_wp2_with (at_builtin; (refine wpList_append_own _ rfl (.tmp 18) (.tmp 20) 33 rfl w.heap.size 25 t0 (.agg #[.int .i64 no.id, .string no.nm, .int .i64 no.lo, .int .i64 no.hi, .bool no.wo, .bool no.me, .int .i64 no.co, .int .i64 no.mo]) 8 64 Tryz.underlying33 hi0 hz0 hz1 hz2 rfl (by decide) _ m _ rfl hown ⟨_, 0, none⟩ 1 1 (cells [y]) rfl rfl (World.news_of_block (Blk.new _ _ _)) (cells_one [y]) (by unfold maxLen; omega) (by omega) (by simp; omega) ?_; intro v' w3 hown3 hgr3 _; have HP3 := Lib.hid (HTa.out.put HM.out hgr3 hown3); clear hown3 hgr3))
        go_roundg (n - (k + 1))
        case measure => omega
        case rel => exact ⟨k + 1, by omega, rfl, by go_num, by rw [HTk.out, HY.out]; exact HP3.out⟩
    · obtain rfl : k = n := by omega
      go_wp2
      go_ret
      refine ⟨_, rfl, ?_, HS.out.b⟩
      have h := HS.out.own
      rw [show rs.take k = rs from List.take_of_length_le (by rw [HN.out]; exact Nat.le_refl _)] at h
      exact h

set_option maxRecDepth 20000 in
set_option maxHeartbeats 2000000 in
theorem one_any (c : Kl) (r : Ru) (hb1 : 1920 ≤ r.bo) (hb2 : r.bo ≤ 2020) (B : Nat) (w : World) (hK : Blk w B 35 #[.int .i64 r.id, .string r.nm, .string r.cl, .int .i64 r.bo, .bool r.wo, .int .i64 r.ca]) :
    Calls Tryz.prog 72 #[.agg #[.int .i64 c.id, .string c.nm, .int .i64 c.lo, .int .i64 c.hi, .bool c.wo, .bool c.me, .int .i64 c.co, .int .i64 c.mo], .pointer (some ⟨B, 0, none⟩)] w fun e w' => e = .returned (.bool (admR c r)) ∧ Below w.heap.size w w' := by
  have HB := Lib.hid ((Below.refl w.heap.size w).alloc (Nat.le_refl _) (.cells #[.int .i64 c.id, .string c.nm, .int .i64 c.lo, .int .i64 c.hi, .bool c.wo, .bool c.me, .int .i64 c.co, .int .i64 c.mo] 25))
  obtain ⟨⟨p0, p1, p2, p3, p4, p5, p6, p7⟩, -⟩ := blk_cells (Blk.new w 25 #[.int .i64 c.id, .string c.nm, .int .i64 c.lo, .int .i64 c.hi, .bool c.wo, .bool c.me, .int .i64 c.co, .int .i64 c.mo])
  obtain ⟨⟨q0, q1, q2, q3, q4, q5⟩, -⟩ := RuK.blk_cells (hK.alloc (.cells #[.int .i64 c.id, .string c.nm, .int .i64 c.lo, .int .i64 c.hi, .bool c.wo, .bool c.me, .int .i64 c.co, .int .i64 c.mo] 25))
  obtain ⟨o, ho⟩ : ∃ o, admR c r = o := ⟨_, rfl⟩
  have C := Lib.hid (fun w => ho ▸ adm_impl c r hb1 hb2 w)
  rw [ho]
  clear ho hK hb1 hb2
  go_enter Tryz.func72, Tryz.ntmps72
  go_upto_region 1 with (fail)
  generalize w.alloc (.cells #[.int .i64 c.id, .string c.nm, .int .i64 c.lo, .int .i64 c.hi, .bool c.wo, .bool c.me, .int .i64 c.co, .int .i64 c.mo] 25) = wz at *
  go_wp2_with fail
  refine (C.out _).mono ?_
  rintro e w1 ⟨rfl, hb⟩
  have HB1 := Lib.hid (HB.out.trans (hb.mono HB.out.size))
  clear hb
  go_wp2
  go_ret
  exact ⟨rfl, HB1.out⟩

set_option maxRecDepth 20000 in
set_option maxHeartbeats 2000000 in
theorem admitting_any (r : Ru) (hb1 : 1920 ≤ r.bo) (hb2 : r.bo ≤ 2020) (rs : List Kl) (hl : rs.length ≤ 1048576) (a : Option Addr) (cap : Nat) (w : World) (hr : Row w a rs) :
    Calls Tryz.prog 42 #[.slice a rs.length cap, .agg #[.int .i64 r.id, .string r.nm, .string r.cl, .int .i64 r.bo, .bool r.wo, .int .i64 r.ca]] w fun e w' => ∃ v, e = .returned v ∧ Own w' w.heap.size v (rs.filter (fun c => admR c r)) ∧ Below w.heap.size w w' := by
  have HB := Lib.hid ((Below.refl w.heap.size w).alloc (Nat.le_refl _) (.cells #[.int .i64 r.id, .string r.nm, .string r.cl, .int .i64 r.bo, .bool r.wo, .int .i64 r.ca] 35))
  have HK := Lib.hid (Blk.new w 35 #[.int .i64 r.id, .string r.nm, .string r.cl, .int .i64 r.bo, .bool r.wo, .int .i64 r.ca])
  have H := Lib.hid (hr.later HB.out)
  have C := Lib.hid (that_any 72 #[.pointer (some ⟨w.heap.size, 0, none⟩)] (fun c => admR c r) (fun _ => True) (w.alloc (.cells #[.int .i64 r.id, .string r.nm, .string r.cl, .int .i64 r.bo, .bool r.wo, .int .i64 r.ca] 35)) (fun args w => FnEn.enter_of Tryz.func72 (by kernel_rfl) rfl args w)
    (fun c _ w' hb => one_any c r hb1 hb2 w.heap.size w' (HK.out.later hb)) a cap rs H.out (fun _ _ => trivial) hl)
  clear hr hb1 hb2
  go_enter Tryz.func42, Tryz.ntmps42
  go_wp2_with fail
  refine C.out.mono ?_
  rintro e w1 ⟨v, rfl, ho, hb⟩
  have HO1 := Lib.hid (show Own w1 w.heap.size v _ from KlK.Own.rebase ho (by simp))
  have HB1 := Lib.hid (HB.out.trans (hb.mono HB.out.size))
  clear ho hb
  go_wp2
  go_ret
  exact ⟨_, rfl, HO1.out, HB1.out⟩

/-- What ClassesFor answers. -/
def cfB (rs : List Kl) (r : Ru) : Bool := goodB rs && RuI.okR r
def cfL (rs : List Kl) (r : Ru) : List Int := if cfB rs r then idsL (rs.filter (fun c => admR c r)) else []
theorem cf_len (rs : List Kl) (r : Ru) : (cfL rs r).length ≤ rs.length := by
  unfold cfL
  split
  · rw [ids_len]; exact fil_len _ _
  · exact Nat.zero_le _
/-- The answer: a list of the call's own, and whether. -/
def NPost (w : World) (zs : List Int) (ok : Bool) (e : Ending) (w' : World) : Prop := ∃ v, e = .returned (.tuple #[v, .bool ok]) ∧ IntK.Own w' w.heap.size v zs ∧ Below w.heap.size w w'
theorem own_none (w : World) (b : Nat) (hb : b ≤ w.heap.size) : IntK.Own (w.alloc (.cells #[] 3)) b (.slice (some ⟨w.heap.size, 0, none⟩) 0 0) [] := World.ownsRow_made w #[] 0 hb (Nat.zero_le _) rfl

set_option maxRecDepth 20000 in
set_option maxHeartbeats 4000000 in
theorem for_impl (rs : List Kl) (hf : ∀ i, i < rs.length → KlK.Is (at_ rs i)) (hl : rs.length ≤ 1048576) (r : Ru) (hr0 : RuK.Is r) (a : Option Addr) (cap : Nat) (w : World) (hc : rs.length ≤ cap) (hr : Row w a rs) :
    Calls Tryz.prog 15 #[.slice a rs.length cap, .agg #[.int .i64 r.id, .string r.nm, .string r.cl, .int .i64 r.bo, .bool r.wo, .int .i64 r.ca]] w (NPost w (cfL rs r) (cfB rs r)) := by
  obtain ⟨t0, hi0, hz0, hz1, hz2⟩ := info_parts iInfo
  have HB := Lib.hid ((Below.refl w.heap.size w).alloc (Nat.le_refl _) (.cells #[.int .i64 r.id, .string r.nm, .string r.cl, .int .i64 r.bo, .bool r.wo, .int .i64 r.ca] 35))
  have HK := Lib.hid (Blk.new w 35 #[.int .i64 r.id, .string r.nm, .string r.cl, .int .i64 r.bo, .bool r.wo, .int .i64 r.ca])
  have H := Lib.hid (hr.later HB.out)
  have hml : rs.length ≤ maxLen := by unfold maxLen; omega
  obtain ⟨g, hg⟩ : ∃ g, goodB rs = g := ⟨_, rfl⟩
  have c1 := Lib.hid (fun w hr => hg ▸ KaA.impl_any a cap rs w hc hr hf hml)
  have HG := Lib.hid hg
  obtain ⟨v, hv⟩ : ∃ v, RuI.okR r = v := ⟨_, rfl⟩
  have c2 := Lib.hid (fun w => hv ▸ RuI.impl_any r hr0 w)
  have HV := Lib.hid hv
  obtain ⟨ok, hok⟩ : ∃ ok, cfB rs r = ok := ⟨_, rfl⟩
  obtain ⟨zs, hzs⟩ : ∃ zs, cfL rs r = zs := ⟨_, rfl⟩
  have HO := Lib.hid hok
  have HZ := Lib.hid hzs
  rw [hok, hzs]
  have c3 := Lib.hid (fun (h : RuI.okR r = true) w hr => admitting_any r (ok_bo h).1 (ok_bo h).2 rs hl a cap w hr)
  have HL := Lib.hid hl
  clear hr hg hok hzs hf hv hr0
  obtain ⟨⟨q0, q1, q2, q3, q4, q5⟩, -⟩ := RuK.blk_cells HK.out
  go_enter Tryz.func15, Tryz.ntmps15
  go_wp2_with fail
  refine (c1.out _ H.out).mono ?_
  rintro e w1 ⟨rfl, hb⟩
  have HB1 := Lib.hid (HB.out.trans (hb.mono HB.out.size))
  have HK1 := Lib.hid (HK.out.later hb)
  have H1 := Lib.hid (H.out.later hb)
  clear hb HB HK H q0 q1 q2 q3 q4 q5
  obtain ⟨⟨q0, q1, q2, q3, q4, q5⟩, -⟩ := RuK.blk_cells HK1.out
  have hsz := HB1.out.size
  cases g with
  | false =>
    have h1 : ok = false := by rw [← HO.out]; unfold cfB; rw [HG.out]; rfl
    have h2 : zs = [] := by rw [← HZ.out]; unfold cfL cfB; rw [HG.out]; rfl
    subst h1 h2
    go_wp2
    go_ret2
    exact ⟨_, rfl, own_none w1 w.heap.size hsz, HB1.out.alloc hsz _⟩
  | true =>
  go_wp2_with fail
  refine (c2.out _).mono ?_
  rintro e w2 ⟨rfl, hb⟩
  have HB2 := Lib.hid (HB1.out.trans (hb.mono HB1.out.size))
  have HK2 := Lib.hid (HK1.out.later hb)
  have H2 := Lib.hid (H1.out.later hb)
  clear hb HB1 HK1 H1 q0 q1 q2 q3 q4 q5 hsz
  have hsz := HB2.out.size
  cases v with
  | false =>
    have h1 : ok = false := by rw [← HO.out]; unfold cfB; rw [HV.out]; simp
    have h2 : zs = [] := by rw [← HZ.out]; unfold cfL cfB; rw [HV.out]; simp
    subst h1 h2
    go_wp2
    go_ret2
    exact ⟨_, rfl, own_none w2 w.heap.size hsz, HB2.out.alloc hsz _⟩
  | true =>
    have h1 : ok = true := by rw [← HO.out]; unfold cfB; rw [HG.out, HV.out]; rfl
    have h2 := Lib.hid (show idsL (rs.filter (fun c => admR c r)) = zs from by rw [← HZ.out]; unfold cfL cfB; rw [HG.out, HV.out]; rfl)
    subst h1
    obtain ⟨fs, hfs⟩ : ∃ fs, rs.filter (fun c => admR c r) = fs := ⟨_, rfl⟩
    have hfl : fs.length ≤ 1048576 := by rw [← hfs]; have := fil_len (fun c => admR c r) rs; omega
    have c4 := Lib.hid (fun w hr => hfs ▸ c3.out HV.out w hr)
    rw [hfs] at h2
    have HS3 := Lib.hid (show IntK.Gr w (.slice (some ⟨w2.heap.size, 0, none⟩) 0 0) [] (w2.alloc (.cells #[] 3)) from ⟨HB2.out.alloc hsz _, own_none w2 w.heap.size hsz⟩)
    have HK3 := Lib.hid (HK2.out.alloc (.cells #[] 3))
    have H3 := Lib.hid (H2.out.later ((Below.refl _ _).alloc (Nat.le_refl _) (.cells #[] 3)))
    clear hfs c3 HK2 H2
    obtain ⟨⟨q0, q1, q2, q3, q4, q5⟩, -⟩ := RuK.blk_cells HK3.out
    go_wp2_with fail
    refine (c4.out _ H3.out).mono ?_
    rintro e w4 ⟨v4, rfl, ho, hb⟩
    obtain ⟨fa, fc, rfl, -, -⟩ := ho.slice
    have HF4 := Lib.hid ho
    have HS4 := Lib.hid (HS3.out.below hb)
    clear ho hb HB2 HS3 HK3 H3 q0 q1 q2 q3 q4 q5 hsz c1 c2 c4
    obtain ⟨n, hn⟩ : ∃ n, fs.length = n := ⟨_, rfl⟩
    have HN := Lib.hid hn
    rw [hn] at hfl HF4 ⊢
    clear hn
    go_wp2_with fail
    go_loopg [23, 6] n (fun gk i v wr => ∃ k : Nat, k ≤ n ∧ gk = n - k ∧ i = .int .i64 k ∧ IntK.Gr w v (idsL (fs.take k)) wr ∧ Own wr (w2.heap.size + 1) (.slice fa n fc) fs)
    case atStart => exact ⟨0, Nat.zero_le _, rfl, rfl, by simpa [idsL] using HS4.out, by simpa using HF4.out⟩
    case round =>
      clear HS4 HF4
      obtain ⟨k, hk, hgk, rfl, hS, hF⟩ := hrel
      have HS := Lib.hid hS
      have HF := Lib.hid hF
      clear hS hF
      by_cases hlt : k < n
      · obtain ⟨b, off, rfl, c0, c1, c2, c3, c4, c5, c6, c7⟩ := (show Row wr fa fs from by have h := HF.out; rw [← HN.out] at h; exact h.row).cells (i := k) (by rw [HN.out]; exact hlt)
        obtain ⟨y, hy⟩ : ∃ y, at_ fs k = y := ⟨_, rfl⟩
        rw [hy] at c0 c1 c2 c3 c4 c5 c6 c7
        have HTk := Lib.hid (ids_take (rs := fs) (k := k) (by rw [HN.out]; exact hlt))
        rw [hy] at HTk
        have HM := Lib.hid (show (idsL (fs.take k)).length = k from by rw [ids_len, KaA.take_len (by rw [HN.out]; omega)])
        have HS2 := Lib.hid (HS.out.alloc (.cells #[.int .i64 y.id, .string y.nm, .int .i64 y.lo, .int .i64 y.hi, .bool y.wo, .bool y.me, .int .i64 y.co, .int .i64 y.mo] 25))
        have HF2 := Lib.hid (show Own (wr.alloc (.cells #[.int .i64 y.id, .string y.nm, .int .i64 y.lo, .int .i64 y.hi, .bool y.wo, .bool y.me, .int .i64 y.co, .int .i64 y.mo] 25)) (w2.heap.size + 1) (.slice (some ⟨b, off, none⟩) n fc) fs from HF.out.alloc _)
        have HK2 := Lib.hid (Blk.new wr 25 #[.int .i64 y.id, .string y.nm, .int .i64 y.lo, .int .i64 y.hi, .bool y.wo, .bool y.me, .int .i64 y.co, .int .i64 y.mo])
        clear hy HS HF
        go_upto_region 7 with (fail)
        obtain ⟨⟨e0, e1, e2, e3, e4, e5, e6, e7⟩, -⟩ := blk_cells HK2.out
        generalize wr.alloc (.cells #[.int .i64 y.id, .string y.nm, .int .i64 y.lo, .int .i64 y.hi, .bool y.wo, .bool y.me, .int .i64 y.co, .int .i64 y.mo] 25) = wz at *
        clear c0 c1 c2 c3 c4 c5 c6 c7
        have hown := HS2.out.own.below ((Below.refl _ _).alloc (Nat.le_refl _) (.cells #[.int .i64 y.id] 3))
        unfold OwnI at hown
        rw [HM.out] at hown
        have HTa := Lib.hid (HS2.out.alloc (.cells #[.int .i64 y.id] 3))
        have HFa := Lib.hid (show Own (wz.alloc (.cells #[.int .i64 y.id] 3)) (w2.heap.size + 1) (.slice (some ⟨b, off, none⟩) n fc) fs from HF2.out.alloc _)
        have hsz := HS2.out.b.size
        go_wp2_with (at_builtin; (refine wpList_append_own _ rfl (.tmp 27) (.tmp 30) 40 rfl w.heap.size 3 t0 (.int .i64 0) 1 8 Tryz.underlying40 hi0 hz0 hz1 hz2 rfl (by decide) _ k _ rfl hown ⟨_, 0, none⟩ 1 1 [.int .i64 y.id] rfl rfl (cell_one_new _ _ _) (by simp [Value.oneCell']) (by unfold maxLen; omega) (by omega) (by simp; omega) ?_; intro v' w3 hown3 hgr3 _; have HFP := Lib.hid (show Own w3 (w2.heap.size + 1) (.slice (some ⟨b, off, none⟩) n fc) fs from HFa.out.kept hgr3 (own_apart HFa.out HTa.out.own (by decide))); have HP3 := Lib.hid (HTa.out.put HM.out hgr3 hown3); clear hown3 hgr3))
        go_roundg (n - (k + 1))
        case measure => omega
        case rel => exact ⟨k + 1, by omega, rfl, by go_num, by rw [HTk.out]; exact HP3.out, HFP.out⟩
      · obtain rfl : k = n := by omega
        have hq : IntK.Gr w u6 zs wr := by
          have h := HS.out
          rw [List.take_of_length_le (by rw [HN.out]; exact Nat.le_refl _), h2.out] at h
          exact h
        have HQ := Lib.hid hq
        clear hq
        go_wp2_with fail
        go_ret2
        exact ⟨_, rfl, HQ.out.own, HQ.out.b⟩
end Go.Proofs.YtleoljnofdajfaaGreatDoor.KaF
