/- The parts of a map: the model. -/
import Derived.Test.YtijcdnmcmngheaaPutS
import Derived.Test.YtijcdnmcmngheaaCells
import Derived.Test.YtijcdnmcmngheaaStepT
namespace Go.Proofs.Ytijcdnmcmngheaa.PrtS
open Go.RowKit Lb IntS MapS MapV SpecB TblS PrtB PutS
open Go.Proofs.Ytijcdnmcmngheaa.Cells (spec_next)
open Go.Proofs.Ytijcdnmcmngheaa.StepT (has_any)
set_option linter.unusedSimpArgs false
set_option linter.unusedVariables false

theorem mem_ints {p : List Nat} {j : Nat} : ((j : Nat) : Int) ∈ ints p ↔ j ∈ p := by
  unfold ints
  rw [List.mem_map]
  constructor
  · rintro ⟨a, ha, e⟩
    have : a = j := Int.ofNat.inj e
    rwa [← this]
  · intro h; exact ⟨j, h, rfl⟩
theorem dec_yes {p : List Nat} {j : Nat} (h : j ∈ p) : decide (((j : Nat) : Int) ∈ ints p) = true := decide_eq_true (mem_ints.2 h)
theorem dec_no {p : List Nat} {j : Nat} (h : j ∉ p) : decide (((j : Nat) : Int) ∈ ints p) = false := decide_eq_false fun e => h (mem_ints.1 e)

/-- A round over all cells: what has been found, and whether that is new. -/
structure Rnd (m : Mp) (c : Nat) (p q : List Nat) (ag : Bool) (j : Nat) : Prop where
  grow : Grow m c q
  le : p.length ≤ q.length
  yes : ag = true → p.length < q.length
  no : ag = false → q = p ∧ ∀ i, i < j → i ∈ p → ∀ y ∈ nx m i, y ∈ p
theorem Rnd.start {m : Mp} {c : Nat} {p : List Nat} (h : Grow m c p) : Rnd m c p p false 0 := ⟨h, Nat.le_refl _, (fun e => by cases e), fun _ => ⟨rfl, fun i hi => by omega⟩⟩
theorem Rnd.skip {m : Mp} {c : Nat} {p q : List Nat} {ag : Bool} {j : Nat} (h : Rnd m c p q ag j) (hj : j ∉ q) : Rnd m c p q ag (j + 1) :=
  ⟨h.grow, h.le, h.yes, fun e => by
    obtain ⟨h1, h2⟩ := h.no e
    refine ⟨h1, fun i hi hip => ?_⟩
    by_cases e2 : i = j
    · subst e2; rw [h1] at hj; exact absurd hip hj
    · exact h2 i (by omega) hip⟩
/-- The cells next to one of them, the first 'k' of which are there. -/
structure Rnk (m : Mp) (c : Nat) (p q : List Nat) (ag : Bool) (j k : Nat) : Prop where
  rnd : Rnd m c p q ag j
  mem : j ∈ q
  here : ag = false → ∀ r, r < k → r < (nx m j).length → (nx m j).getD r 0 ∈ p
theorem Rnk.start {m : Mp} {c : Nat} {p q : List Nat} {ag : Bool} {j : Nat} (h : Rnd m c p q ag j) (hj : j ∈ q) : Rnk m c p q ag j 0 := ⟨h, hj, fun _ r hr => by omega⟩
theorem Rnk.skip {m : Mp} {c : Nat} {p q : List Nat} {ag : Bool} {j k : Nat} (h : Rnk m c p q ag j k) (hy : (nx m j).getD k 0 ∈ q) : Rnk m c p q ag j (k + 1) :=
  ⟨h.rnd, h.mem, fun e r hr hl => by
    by_cases e2 : r = k
    · subst e2; rw [(h.rnd.no e).1] at hy; exact hy
    · exact h.here e r (by omega) hl⟩
theorem Rnk.put {m : Mp} {c : Nat} {p q : List Nat} {ag : Bool} {j k : Nat} (h : Rnk m c p q ag j k) (hk : k < (nx m j).length) (hy : (nx m j).getD k 0 ∉ q) : Rnk m c p (Lb.put q ((nx m j).getD k 0)) true j (k + 1) := by
  have hl := put_length h.rnd.grow.sorted hy
  have := h.rnd.le
  refine ⟨⟨h.rnd.grow.put h.mem (getD_mem hk), by omega, fun _ => by omega, fun e => by cases e⟩, put_mem_old h.mem, fun e => by cases e⟩
theorem Rnk.full {m : Mp} {c : Nat} {p q : List Nat} {ag : Bool} {j k : Nat} (h : Rnk m c p q ag j k) (hk : (nx m j).length ≤ k) : Rnd m c p q ag (j + 1) :=
  ⟨h.rnd.grow, h.rnd.le, h.rnd.yes, fun e => by
    obtain ⟨h1, h2⟩ := h.rnd.no e
    refine ⟨h1, fun i hi hip y hy => ?_⟩
    by_cases e2 : i = j
    · subst e2
      obtain ⟨r, hr, e3⟩ := List.mem_iff_getElem.1 hy
      have := h.here e r (by omega) hr
      rwa [show (nx m i).getD r 0 = y by simp [hr, e3]] at this
    · exact h2 i (by omega) hip y hy⟩

/-- What stands while a part grows. -/
structure PSt (w : World) (box : Array Value) (p : List Nat) (v : Value) (wr : World) : Prop where
  b : Below w.heap.size w wr
  box : Blk wr w.heap.size 26 box
  own : OwnI wr w.heap.size v (ints p)
theorem PSt.below {w : World} {box : Array Value} {p : List Nat} {v : Value} {wr w' : World} (h : PSt w box p v wr) (hb : Below wr.heap.size wr w') : PSt w box p v w' :=
  ⟨h.b.trans (hb.mono h.b.size), h.box.later hb, h.own.below hb⟩
theorem own_cap {w : World} {base g n cap : Nat} {zs : List Int} (h : OwnI w base (.slice (some ⟨g, 0, none⟩) n cap) zs) : n ≤ cap := by
  unfold OwnI at h
  rcases h.2 with ⟨h1, _⟩ | ⟨g', c', cur, hv, _, _, h3, _⟩
  · cases h1
  · obtain ⟨-, h4, rfl⟩ := Value.slice.inj hv
    omega

set_option maxRecDepth 100000 in
set_option maxHeartbeats 4000000 in
theorem part_raw (ww hh : Nat) (R C : List Int) (a b : Option Addr) (ca cb : Nat) (c : Nat) (w : World) (g : GoodM ⟨ww, hh, R, C⟩ ww hh) (hc : IRow w b C) (ho : Opn ⟨ww, hh, R, C⟩ (ww * hh) c) :
    Calls Try.prog 76 #[.agg #[.int .i64 ww, .int .i64 hh, .slice a R.length ca, .slice b C.length cb], .int .i64 c] w fun e w' => (∃ v, e = .returned v ∧ ∃ p, OwnI w' w.heap.size v (ints p) ∧ IsPart ⟨ww, hh, R, C⟩ c p) ∧ Below w.heap.size w w' := by
  have n36 := g.n36
  have HG := Lib.hid g
  have HO := Lib.hid ho
  have hcn := ho.1
  have HCl := Lib.hid (show C.length = ww * hh from g.C)
  have HCr := Lib.hid hc
  have HK := Lib.hid (Blk.new w 26 #[.int .i64 ww, .int .i64 hh, .slice a R.length ca, .slice b C.length cb])
  clear g ho hc
  go_enter Try.func76, Try.ntmps76
  go_wp2_with fail
--TAIL
  have HP0 := Lib.hid (show PSt w #[.int .i64 ww, .int .i64 hh, .slice a R.length ca, .slice b C.length cb] [c] (.slice (some ⟨w.heap.size + 1, 0, none⟩) 1 1) ((w.alloc (.cells #[.int .i64 ww, .int .i64 hh, .slice a R.length ca, .slice b C.length cb] 26)).alloc (.cells #[.int .i64 c] 3)) from by
    refine ⟨((Below.refl _ _).alloc (Nat.le_refl _) _).alloc (by simp) _, HK.out.alloc _, ?_⟩
    have := own_one (w.alloc (.cells #[.int .i64 ww, .int .i64 hh, .slice a R.length ca, .slice b C.length cb] 26)) w.heap.size c (by simp)
    rw [World.size_alloc] at this
    simpa [ints] using this)
  go_loopg [6, 5] (ww * hh) (fun q ag vp wr => ∃ (p : List Nat) (agb : Bool), ag = .bool agb ∧ q = (ww * hh - p.length) + (if agb then 1 else 0) ∧ Grow ⟨ww, hh, R, C⟩ c p ∧ (agb = false → ∀ i, i < ww * hh → i ∈ p → ∀ y ∈ nx ⟨ww, hh, R, C⟩ i, y ∈ p) ∧ PSt w #[.int .i64 ww, .int .i64 hh, .slice a R.length ca, .slice b C.length cb] p vp wr)
  case atStart => exact ⟨[c], true, rfl, by simp; omega, .start _ _, (fun e => by cases e), HP0.out⟩
  case round =>
    clear HP0
    obtain ⟨p, agb, rfl, hq, hgr, hcl, hS⟩ := hrel
    have HGr := Lib.hid hgr
    have HCd := Lib.hid hcl
    have HS := Lib.hid hS
    have hpl : p.length ≤ ww * hh := hgr.length HG.out HO.out
    clear hgr hcl hS
    cases agb with
    | false =>
      go_wp2
      go_ret
      exact ⟨⟨_, rfl, p, HS.out.own, HGr.out.full HG.out HO.out (HCd.out (by simp))⟩, HS.out.b⟩
    | true =>
      have hq' : gk = ww * hh - p.length + 1 := hq
      go_wp2_with fail
      go_loopg [7, 6, 5] (ww * hh) (fun q i ag vp wr => ∃ (j : Nat) (p1 : List Nat) (agb : Bool), j ≤ ww * hh ∧ q = ww * hh - j ∧ i = .int .i64 j ∧ ag = .bool agb ∧ Rnd ⟨ww, hh, R, C⟩ c p p1 agb j ∧ PSt w #[.int .i64 ww, .int .i64 hh, .slice a R.length ca, .slice b C.length cb] p1 vp wr)
      case atStart => exact ⟨0, p, false, Nat.zero_le _, rfl, rfl, rfl, .start HGr.out, HS.out⟩
      case round =>
        clear HS
        obtain ⟨j, p1, ag1, hj, hq2, rfl, rfl, hrn, hS1⟩ := hrel
        have HRn := Lib.hid hrn
        have HS1 := Lib.hid hS1
        have hpl1 : p1.length ≤ ww * hh := hrn.grow.length HG.out HO.out
        have hp10 : 0 < p1.length := List.length_pos_of_mem hrn.grow.head
        clear hrn hS1
        obtain ⟨p0, p1', p2, p3, -⟩ := HS1.out.box.four
        by_cases hlt : j < ww * hh
        · have hjC : j < C.length := by have := HCl.out; omega
          obtain ⟨gq, cq, rfl⟩ := own_ints_slice HS1.out.own hp10
          have HRow := Lib.hid (show IRow wr (some ⟨gq, 0, none⟩) (ints p1) from by
            have h := HS1.out.own
            obtain ⟨a', c', e, hr, _⟩ := OwnI.slice h
            rw [ints_length] at e
            cases e; exact hr)
          have hil : (ints p1).length = p1.length := ints_length p1
          have hhas := Lib.hid (has_any (some ⟨gq, 0, none⟩) cq (ints p1) (j : Nat) wr HRow.out (by rw [hil]; unfold maxLen; omega))
          rw [hil] at hhas
          by_cases hm : j ∈ p1
          · have HM := Lib.hid hm
            have hd := dec_yes hm
            rw [hd] at hhas
            clear hm hd
            go_wp2_with fail
            refine hhas.out.mono ?_
            rintro e w2 ⟨rfl, rfl⟩
            go_wp2_with fail
            refine (spec_next ⟨ww, hh, R, C⟩ ww hh HG.out a b ca cb j _ (RowAt.below HCr.out HS1.out.b) hlt).mono ?_
            rintro e w3 ⟨⟨v8, rfl, ho8⟩, hb3⟩
            obtain ⟨a8, c8, rfl, hr8, -⟩ := OwnI.slice ho8
            rw [ints_length]
            have HS3 := Lib.hid (HS1.out.below hb3)
            have HV8 := Lib.hid hr8
            have HK0 := Lib.hid (Rnk.start HRn.out HM.out)
            have hnl := nx_length ⟨ww, hh, R, C⟩ j
            clear ho8 hr8 hb3 hhas HRow p0 p1' p2 p3
            go_wp2_with fail
            go_loopg [9, 6, 5] (nx ⟨ww, hh, R, C⟩ j).length (fun q i ag vp wr => ∃ (k : Nat) (q1 : List Nat) (agb : Bool), k ≤ (nx ⟨ww, hh, R, C⟩ j).length ∧ q = (nx ⟨ww, hh, R, C⟩ j).length - k ∧ i = .int .i64 k ∧ ag = .bool agb ∧ Rnk ⟨ww, hh, R, C⟩ c p q1 agb j k ∧ PSt w #[.int .i64 ww, .int .i64 hh, .slice a R.length ca, .slice b C.length cb] q1 vp wr ∧ IRow wr a8 (ints (nx ⟨ww, hh, R, C⟩ j)))
            case atStart => exact ⟨0, p1, ag1, Nat.zero_le _, rfl, rfl, rfl, HK0.out, HS3.out, HV8.out⟩
            case round =>
              clear HS3 HV8 HK0 HS1 HRn HM hpl1 hp10 hil
              obtain ⟨k, q1, ag2, hk, hq3, rfl, rfl, hrk, hS4, hV4⟩ := hrel
              have HRk := Lib.hid hrk
              have HS4 := Lib.hid hS4
              have HV4 := Lib.hid hV4
              have hql := hrk.rnd.grow.length HG.out HO.out
              have hq0 : 0 < q1.length := List.length_pos_of_mem hrk.rnd.grow.head
              clear hrk hS4 hV4
              by_cases hkl : k < (nx ⟨ww, hh, R, C⟩ j).length
              · obtain ⟨gp, cp, rfl⟩ := own_ints_slice HS4.out.own hq0
                obtain ⟨y, hy⟩ : ∃ y, (nx ⟨ww, hh, R, C⟩ j).getD k 0 = y := ⟨_, rfl⟩
                have HY := Lib.hid hy
                have g8 : ∃ b8 o8, a8 = some ⟨b8, o8, none⟩ ∧ wr.cell? ⟨b8, o8 + k, none⟩ = some (.int .i64 (y : Nat)) := by
                  rcases HV4.out with h0 | ⟨b8, o8, e8, h8⟩
                  · rw [ints_length] at h0; omega
                  · exact ⟨b8, o8, e8, by rw [h8 k (by rw [ints_length]; exact hkl)]; show some (Value.int .i64 (zAt (ints (nx ⟨ww, hh, R, C⟩ j)) k)) = _; rw [zAt_ints _ _ hkl, hy]⟩
                obtain ⟨b8, o8, rfl, g8⟩ := g8
                have HRow := Lib.hid (show IRow wr (some ⟨gp, 0, none⟩) (ints q1) from by
                  have h := HS4.out.own
                  obtain ⟨a', c', e, hr, _⟩ := OwnI.slice h
                  rw [ints_length] at e
                  cases e; exact hr)
                have hil : (ints q1).length = q1.length := ints_length q1
                have hhas := Lib.hid (has_any (some ⟨gp, 0, none⟩) cp (ints q1) (y : Nat) wr HRow.out (by rw [hil]; unfold maxLen; omega))
                rw [hil] at hhas
                clear hy
                by_cases hm : y ∈ q1
                · have hd := dec_yes hm
                  rw [hd] at hhas
                  have HSk := Lib.hid (HRk.out.skip (by rw [HY.out]; exact hm))
                  clear hd hm
                  go_wp2_with fail
                  refine hhas.out.mono ?_
                  rintro e w5 ⟨rfl, rfl⟩
                  go_wp2_with fail
                  go_roundg ((nx ⟨ww, hh, R, C⟩ j).length - (k + 1))
                  case measure => omega
                  case rel => exact ⟨k + 1, q1, ag2, by omega, rfl, by go_num, rfl, HSk.out, HS4.out, HV4.out⟩
                · have hd := dec_no hm
                  rw [hd] at hhas
                  have HPt := Lib.hid (HRk.out.put hkl (by rw [HY.out]; exact hm))
                  rw [HY.out] at HPt
                  have hgp := HS4.out.own.lt gp (by simp [Value.ownBlock])
                  have hcap := own_cap HS4.out.own
                  have HPn := Lib.hid (put_new q1 y gp 0 cp wr (fun i hi => by rw [Nat.zero_add]; exact own_ints_cell HS4.out.own hi) hgp.2 (by omega) hcap HRk.out.rnd.grow.sorted hm)
                  clear hd hm
                  go_wp2_with fail
                  refine hhas.out.mono ?_
                  rintro e w5 ⟨rfl, rfl⟩
                  go_wp2_with fail
                  refine HPn.out.mono ?_
                  rintro e w6 ⟨⟨v6, rfl, ho6⟩, hb6⟩
                  have HS6 := Lib.hid (show PSt w #[.int .i64 ww, .int .i64 hh, .slice a R.length ca, .slice b C.length cb] (put q1 y) v6 w6 from ⟨(HS4.out.below hb6).b, (HS4.out.below hb6).box, rebase ho6 HS4.out.b.size⟩)
                  have HV6 := Lib.hid (RowAt.below HV4.out hb6)
                  clear ho6 hb6
                  go_wp2_with fail
                  go_roundg ((nx ⟨ww, hh, R, C⟩ j).length - (k + 1))
                  case measure => omega
                  case rel => exact ⟨k + 1, put q1 y, true, by omega, rfl, by go_num, rfl, HPt.out, HS6.out, HV6.out⟩
              · have HFl := Lib.hid (HRk.out.full (by omega))
                go_wp2_with fail
                go_roundg (ww * hh - (j + 1))
                case measure => omega
                case rel => exact ⟨j + 1, q1, ag2, by omega, rfl, by go_num, rfl, HFl.out, HS4.out⟩
          · have hd := dec_no hm
            rw [hd] at hhas
            have HSk := Lib.hid (HRn.out.skip hm)
            clear hd hm
            go_wp2_with fail
            refine hhas.out.mono ?_
            rintro e w2 ⟨rfl, rfl⟩
            go_wp2_with fail
            go_roundg (ww * hh - (j + 1))
            case measure => omega
            case rel => exact ⟨j + 1, p1, ag1, by omega, rfl, by go_num, rfl, HSk.out, HS1.out⟩
        · obtain rfl : j = ww * hh := by omega
          have hnC : ¬ ww * hh < C.length := by have := HCl.out; omega
          have HRe := Lib.hid (show (ag1 = false → ∀ i, i < ww * hh → i ∈ p1 → ∀ y ∈ nx ⟨ww, hh, R, C⟩ i, y ∈ p1) ∧ (ww * hh - p1.length) + (if ag1 then 1 else 0) < ww * hh - p.length + 1 from by
            refine ⟨fun e => ?_, ?_⟩
            · obtain ⟨h1, h2⟩ := HRn.out.no e
              rw [h1]; exact h2
            · have h1 := HRn.out.le
              cases hag : ag1 with
              | false => simp; omega
              | true => have := HRn.out.yes hag; simp; omega)
          have HGr1 := Lib.hid HRn.out.grow
          clear hq
          go_wp2_with fail
          go_roundg ((ww * hh - p1.length) + (if ag1 then 1 else 0))
          case measure => rw [hq']; exact HRe.out.2
          case rel => exact ⟨p1, ag1, rfl, rfl, HGr1.out, HRe.out.1, HS1.out⟩

end Go.Proofs.Ytijcdnmcmngheaa.PrtS
