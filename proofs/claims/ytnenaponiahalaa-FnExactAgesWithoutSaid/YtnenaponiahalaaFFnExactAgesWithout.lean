/- 'FnExactAgesWithout': the statement's frame: the walk is in AgwL.law_any; here the given row is met by it. -/
import Derived.Test.YtnenaponiahalaaKaW
import Derived.Test.YtnenaponiahalaaKaT
import Derived.Test.YtnenaponiahalaaKlO
import Derived.Test.YtnenaponiahalaaKlK
import Derived.Test.YtnenaponiahalaaLwK
import Derived.RegionTactic
import Derived.Deep.RegionWith
import Derived.Test.YtnenaponiahalaaRows
import Derived.WalkKit
import Derived.ProofKit
import Derived.OpenShut
import Derived.ShutString
import Derived.ChangeOld
import Derived.Below
namespace Go.Proofs.Ytnenaponiahalaa.KaY
open Go.RowKit Lb Bk InA KlI KaA KaG KaD KaF KaH KaM KaT KaW
open KlK (at_ at_lt no Row Own cells blk_cells)
open TblS (rInfo)
open IntS (OwnI)
set_option linter.unusedSimpArgs false
set_option linter.unusedVariables false

/-- Whether one of them admits. -/
def anyB (rs : List Kl) (woman : Bool) (x : Nat) : Bool := rs.any (fun c => admB c (x : Int) woman)
theorem any_take {rs : List Kl} {woman : Bool} {x k : Nat} (hk : k < rs.length) : anyB (rs.take (k + 1)) woman x = (anyB (rs.take k) woman x || admB (at_ rs k) (x : Int) woman) := by
  unfold anyB
  rw [List.take_succ_eq_append_getElem hk, List.any_append, ← at_lt hk]
  simp
theorem any_free (rs : List Kl) (woman : Bool) (x : Nat) : anyB rs woman x = !(frF (sexL rs woman) x) := by
  unfold anyB frF sexL
  rw [Bool.not_not, List.any_filter]
  congr 1
  funext c
  unfold admB
  exact Bool.and_comm _ _
theorem ext_none {l : List (Nat × Nat)} {k : Nat} (h : l.getLast? = none) : l = [] ∧ ext l k = [(k, k)] := by
  have := List.getLast?_eq_none_iff.1 h
  subst this
  exact ⟨rfl, rfl⟩
theorem ext_same {l : List (Nat × Nat)} {p : Nat × Nat} {k : Nat} (h : p.2 + 1 = k) : ext (l ++ [p]) k = l ++ [(p.1, k)] := by
  obtain ⟨s, e⟩ := p
  subst h
  exact ext_on l s e
theorem ext_far {l : List (Nat × Nat)} {p : Nat × Nat} {k : Nat} (h : ¬ p.2 + 1 = k) : ext (l ++ [p]) k = (l ++ [p]) ++ [(k, k)] := by
  refine ext_new fun q hq => ?_
  rw [List.getLast?_concat] at hq
  cases hq
  exact h

set_option maxRecDepth 20000 in
set_option maxHeartbeats 8000000 in
theorem ages_spec (rs : List Kl) (hf : ∀ i, i < rs.length → KlK.Is (at_ rs i)) (hl : rs.length ≤ 1048576) (woman : Bool) (a : Option Addr) (cap : Nat) (w : World) (hr : Row w a rs) :
    Calls Try.prog 39 #[.slice a rs.length cap, .bool woman] w (TPost w (agL rs woman) (goodB rs)) := by
  obtain ⟨t1, ri, rz0, rz1, rz2⟩ := info_parts rInfo
  have H := Lib.hid hr
  have hml : rs.length ≤ maxLen := by unfold maxLen; omega
  obtain ⟨g, hg⟩ : ∃ g, goodB rs = g := ⟨_, rfl⟩
  have c1 := Lib.hid (fun w hr => hg ▸ good_any a cap rs w hr hf hml)
  have HG := Lib.hid hg
  obtain ⟨l, hl2⟩ : ∃ l, agL rs woman = l := ⟨_, rfl⟩
  have HLL := Lib.hid hl2
  rw [hg, hl2]
  obtain ⟨m, hm⟩ : ∃ m, rs.length = m := ⟨_, rfl⟩
  have HMm := Lib.hid hm
  rw [hm] at hl c1 ⊢
  have HT0 := Lib.hid (Tg.start (Below.refl w.heap.size w))
  clear hr hg hl2 hf hml hm
  go_enter Try.func39, Try.ntmps39
  go_wp2_with fail
  refine (c1.out _ (H.out.later HT0.out.b)).mono ?_
  rintro e w1 ⟨rfl, hb⟩
  have HT1 := Lib.hid (HT0.out.below hb)
  clear hb HT0
  cases g with
  | false =>
    have h2 : l = [] := by rw [← HLL.out]; unfold agL; rw [HG.out]; rfl
    subst h2
    go_wp2
    go_ret2
    exact ⟨_, _, rfl, HT1.out.own, HT1.out.b⟩
  | true =>
    have hm8 := good_len HG.out
    rw [HMm.out] at hm8
    have h2 := Lib.hid (show sp (frF (sexL rs woman)) 121 = l from by rw [← HLL.out]; unfold agL; rw [HG.out]; rfl)
    clear c1
    obtain ⟨F, hF⟩ : ∃ F, frF (sexL rs woman) = F := ⟨_, rfl⟩
    have HFq := Lib.hid hF
    rw [hF] at h2
    clear hF
    go_wp2_with fail
    go_loopg [7, 6, 8, 9, 10] 121 (fun gk i v _ _ _ wr => ∃ (k : Nat) (rr : Nat → Value), k ≤ 121 ∧ gk = 121 - k ∧ i = .int .i64 k ∧ Tg w v (sp F k) rr wr)
    case atStart => exact ⟨0, _, by omega, rfl, rfl, HT1.out⟩
    case round =>
      clear HT1
      obtain ⟨k, rr, hk, hgk, rfl, hT⟩ := hrel
      have HT := Lib.hid hT
      clear hT
      by_cases hlt : k < 121
      · have hk120 : (k : Int) ≤ 120 := by omega
        obtain ⟨WA, rfl⟩ : ∃ WA, WA = wr := ⟨wr, rfl⟩
        go_wp2_with fail
        go_loopw [9, 8] (fun j d wq => ∃ q : Nat, q ≤ m ∧ j = .int .i64 q ∧ d = .bool (anyB (rs.take q) woman k) ∧ Below WA.heap.size WA wq) (fun j _ _ => m - (intOf j).toNat)
        case atStart => exact ⟨0, Nat.zero_le _, rfl, rfl, Below.refl _ _⟩
        case round =>
          obtain ⟨q, hq, rfl, rfl, hB⟩ := hrel
          have HB := Lib.hid hB
          clear hB
          obtain ⟨an, han⟩ : ∃ x, anyB (rs.take q) woman k = x := ⟨_, rfl⟩
          rw [han]
          by_cases hlt2 : q < m
          · have HNx := Lib.hid (any_take (rs := rs) (woman := woman) (x := k) (k := q) (by rw [HMm.out]; exact hlt2))
            rw [han] at HNx
            obtain ⟨b, off, rfl, c0, c1, c2, c3, c4, c5, c6, c7⟩ := (H.out.later (HT.out.b.trans (HB.out.mono HT.out.b.size))).cells (i := q) (by rw [HMm.out]; exact hlt2)
            obtain ⟨y, hy⟩ : ∃ y, at_ rs q = y := ⟨_, rfl⟩
            rw [hy] at c0 c1 c2 c3 c4 c5 c6 c7 HNx
            obtain ⟨ad, had⟩ : ∃ o, admB y (k : Int) woman = o := ⟨_, rfl⟩
            rw [had] at HNx
            have CP := Lib.hid (fun w => had ▸ adm_spec y (k : Int) woman w)
            have hq0 : (0 : Int) ≤ (q : Int) := by omega
            have hq1 : (q : Int) < (m : Int) := by omega
            clear hy had han
            cases an with
            | true =>
              go_wp2
              go_roundw
              case rel => exact ⟨q + 1, by omega, by go_num, by rw [HNx.out]; rfl, HB.out⟩
              case measure => simp [intOf]; omega
            | false =>
              go_wp2_with fail
              refine (CP.out _).mono ?_
              rintro e w4 ⟨rfl, hb⟩
              have HB4 := Lib.hid (HB.out.trans (hb.mono HB.out.size))
              clear hb
              go_wp2
              go_roundw
              case rel => exact ⟨q + 1, by omega, by go_num, by rw [HNx.out]; rfl, HB4.out⟩
              case measure => simp [intOf]; omega
          · obtain rfl : q = m := by omega
            have HA := Lib.hid (show an = !(F k) from by
              rw [← HFq.out, ← any_free, ← han, List.take_of_length_le (by rw [HMm.out]; exact Nat.le_refl _)])
            have HTn := Lib.hid (HT.out.below HB.out)
            clear han HT HB
            cases an with
            | true =>
              have HE := Lib.hid (show sp F (k + 1) = sp F k from by
                have h := HA.out
                rw [sp]
                cases hF : F k with
                | false => rfl
                | true => rw [hF] at h; cases h)
              go_wp2
              go_roundg (121 - (k + 1))
              case measure => omega
              case rel => exact ⟨k + 1, _, by omega, rfl, by go_num, by rw [HE.out]; exact HTn.out⟩
            | false =>
              have HE := Lib.hid (show sp F (k + 1) = ext (sp F k) k from by
                have h := HA.out
                rw [sp]
                cases hF : F k with
                | true => rfl
                | false => rw [hF] at h; cases h)
              have hspl := sp_len F k
              obtain ⟨L, hL⟩ : ∃ L, sp F k = L := ⟨_, rfl⟩
              rw [hL] at HTn HE hspl
              clear hL HA
              have HT := HTn
              rcases List.eq_nil_or_concat L with hnil | ⟨L', p, hcc⟩
              · subst hnil
                have HE2 := Lib.hid (show sp F (k + 1) = [] ++ [(k, k)] from by rw [HE.out]; rfl)
                have HM := Lib.hid (show ([] : List (Nat × Nat)).length = 0 from rfl)
                obtain ⟨oa, oc, rfl⟩ := HT.out.own.slice
                rw [HM.out] at *
                go_upto_region 16 with (fail)
                have HTa := Lib.hid ((HT.out.alloc (.cells #[.int .i64 (k : Nat), .int .i64 (k : Nat)] 3)).alloc (.cells #[.slice (some ⟨wr.heap.size, 0, none⟩) 2 2] 24))
                have HQa := Lib.hid ((own_two wr wr.heap.size (k : Nat) (k : Nat) (Nat.le_refl _)).alloc (.cells #[.slice (some ⟨wr.heap.size, 0, none⟩) 2 2] 24))
                have HLo := Lib.hid HT.out.low
                have hcn := cell_one_new (wr.alloc (.cells #[.int .i64 (k : Nat), .int .i64 (k : Nat)] 3)) (.slice (some ⟨wr.heap.size, 0, none⟩) 2 2) 24
                rw [World.size_alloc] at hcn
                have hown := HTa.out.own.tbl
                rw [HM.out] at hown
                have hsz := HT.out.b.size
                go_wp2_with (at_builtin; (refine wpList_append_own _ rfl (.tmp 66) (.tmp 70) 52 rfl w.heap.size 24 t1 (.slice none 0 0) 1 24 Try.underlying52 ri rz0 rz1 rz2 rfl (by decide) _ 0 _ rfl hown ⟨_, 0, none⟩ 1 1 [.slice (some ⟨wr.heap.size, 0, none⟩) 2 2] rfl rfl hcn (by simp [Value.oneCell']) (by unfold maxLen; omega) (by omega) (by simp; omega) ?_; intro v' w3 hown3 hgr3 _;  have HP3 := Lib.hid (HTa.out.push HQa.out (by omega) HLo.out (by rw [HM.out]; exact hown3) hgr3); clear hown3 hgr3))
                go_roundg (121 - (k + 1))
                case measure => omega
                case rel => exact ⟨k + 1, _, by omega, rfl, by go_num, by rw [HE2.out]; exact HP3.out⟩
              · rw [List.concat_eq_append] at hcc
                subst hcc
                obtain ⟨n', hn'⟩ : ∃ x, L'.length = x := ⟨_, rfl⟩
                have HN' := Lib.hid hn'
                have hspl2 : n' + 1 ≤ k := by rw [← hn']; simpa using hspl
                obtain ⟨tg, tc, tb, tbc, rfl, d0, d1, d2, d3⟩ := HT.out.last
                have HM := Lib.hid (show (L' ++ [p]).length = n' + 1 from by rw [← hn']; simp)
                have HTl := HT.out
                rw [hn'] at HTl d0 d3 ⊢
                replace HT := Lib.hid HTl
                clear HTl
                have hw1 : IntKind.i64.wrap ((k : Int) - 1) = (k : Int) - 1 := IntWalk.i64_in _ (by omega)
                have hn1 : (((n' + 1 : Nat) : Int) - 1) = (n' : Int) := by omega
                have hn0 : (0 : Int) ≤ (n' : Int) := by omega
                have hn2 : (n' : Int) < ((n' + 1 : Nat) : Int) := by omega
                have hpos : decide ((0 : Int) < ((n' + 1 : Nat) : Int)) = true := decide_eq_true (by omega)
                clear hspl hn'
                by_cases he : p.2 + 1 = k
                · have hd : (((p.2 : Nat) : Int) == (k : Int) - 1) = true := by simp; omega
                  have HE2 := Lib.hid (show sp F (k + 1) = L' ++ [(p.1, k)] from by rw [HE.out, ext_same he])
                  clear he
                  have hal := (Below.refl wr.heap.size wr).alloc (Nat.le_refl _) (.cells #[.int .i64 (p.1 : Nat), .int .i64 (k : Nat)] 3)
                  have hsz := HT.out.b.size
                  have HR := Lib.hid (Tg.repl (n := n' + 1) (HT.out.alloc (.cells #[.int .i64 (p.1 : Nat), .int .i64 (k : Nat)] 3)) (by rw [HN'.out]) (own_two wr wr.heap.size (p.1 : Nat) (k : Nat) (Nat.le_refl _)) hsz (fun i hi x hx => HT.out.low i (by rw [List.length_append]; exact hi) x hx))
                  rw [HN'.out] at HR
                  have htg := World.block_lt_of_cell? wr _ d0
                  rw [World.setCell_alloc_past _ _ _ _ htg] at HR
                  have f0 : (wr.alloc (.cells #[.int .i64 (p.1 : Nat), .int .i64 (k : Nat)] 3)).cell? ⟨tg, n', none⟩ = some (.slice (some ⟨tb, 0, none⟩) 2 tbc) := (hal.cell htg).trans d0
                  have f3 : (wr.alloc (.cells #[.int .i64 (p.1 : Nat), .int .i64 (k : Nat)] 3)).frozen? ⟨tg, n', none⟩ = false := (hal.frozen htg).trans d3
                  clear hal
                  go_wp2
                  go_roundg (121 - (k + 1))
                  case measure => omega
                  case rel => exact ⟨k + 1, _, by omega, rfl, by go_num, by rw [HE2.out]; exact HR.out⟩
                · have hd : (((p.2 : Nat) : Int) == (k : Int) - 1) = false := by simp; omega
                  have HE2 := Lib.hid (show sp F (k + 1) = (L' ++ [p]) ++ [(k, k)] from by rw [HE.out, ext_far he])
                  clear he
                  go_upto_region 16 with (fail)
                  have HTa := Lib.hid ((HT.out.alloc (.cells #[.int .i64 (k : Nat), .int .i64 (k : Nat)] 3)).alloc (.cells #[.slice (some ⟨wr.heap.size, 0, none⟩) 2 2] 24))
                  have HQa := Lib.hid ((own_two wr wr.heap.size (k : Nat) (k : Nat) (Nat.le_refl _)).alloc (.cells #[.slice (some ⟨wr.heap.size, 0, none⟩) 2 2] 24))
                  have HLo := Lib.hid HT.out.low
                  have hcn := cell_one_new (wr.alloc (.cells #[.int .i64 (k : Nat), .int .i64 (k : Nat)] 3)) (.slice (some ⟨wr.heap.size, 0, none⟩) 2 2) 24
                  rw [World.size_alloc] at hcn
                  have hown := HTa.out.own.tbl
                  rw [HM.out] at hown
                  have hsz := HT.out.b.size
                  go_wp2_with (at_builtin; (refine wpList_append_own _ rfl (.tmp 66) (.tmp 70) 52 rfl w.heap.size 24 t1 (.slice none 0 0) 1 24 Try.underlying52 ri rz0 rz1 rz2 rfl (by decide) _ (n' + 1) _ rfl hown ⟨_, 0, none⟩ 1 1 [.slice (some ⟨wr.heap.size, 0, none⟩) 2 2] rfl rfl hcn (by simp [Value.oneCell']) (by unfold maxLen; omega) (by omega) (by simp; omega) ?_; intro v' w3 hown3 hgr3 _;  have HP3 := Lib.hid (HTa.out.push HQa.out (by omega) HLo.out (by rw [HM.out]; exact hown3) hgr3); clear hown3 hgr3))
                  go_roundg (121 - (k + 1))
                  case measure => omega
                  case rel => exact ⟨k + 1, _, by omega, rfl, by go_num, by rw [HE2.out]; exact HP3.out⟩
      · obtain rfl : k = 121 := by omega
        go_wp2
        go_ret2
        exact ⟨_, _, rfl, by have h := HT.out.own; rw [h2.out] at h; exact h, HT.out.b⟩

/-- The table as the laws' helpers take it. -/
theorem both (rs : List Kl) (hf : ∀ i, i < rs.length → KlK.Is (at_ rs i)) (hl : rs.length ≤ 1048576) (woman : Bool) : ∃ (l : List (Nat × Nat)) (ok : Bool), l.length ≤ 121 ∧
    (∀ a cap w, rs.length ≤ cap → Row w a rs → Calls Try.prog 39 #[.slice a rs.length cap, .bool woman] w (TPost w l ok)) ∧
    (∀ a cap w, rs.length ≤ cap → Row w a rs → Calls Try.prog 38 #[.slice a rs.length cap, .bool woman] w (TPost w l ok)) :=
  ⟨agL rs woman, goodB rs, ag_len rs woman, fun a cap w _ hr => ages_spec rs hf hl woman a cap w hr, fun a cap w hc hr => ages_impl rs hf hl woman a cap w hc hr⟩
end Go.Proofs.Ytnenaponiahalaa.KaY

namespace Go.Proofs.Ytnenaponiahalaa.TbR
open Go.RowKit Lb IntS TblS PrtB
set_option linter.unusedVariables false

theorem own_keep {w w' : World} {base : Nat} {e : TypeId} {v : Value} {n : Nat} {xs : List Value} (h : w.ownsRow base e 1 v n xs) (hk : ∀ x, v.ownBlock = some x → x < w.heap.size → w'.heap[x]? = w.heap[x]?) : w'.ownsRow base e 1 v n xs := by
  have hlt := h.lt
  refine ⟨h.1, ?_⟩
  rcases h.2 with h2 | ⟨g, c, cur, hv, hg, hh, r⟩
  · exact .inl h2
  · have e1 : v.ownBlock = some g := by rw [hv]; simp [Value.ownBlock]
    exact .inr ⟨g, c, cur, hv, hg, (hk g e1 (hlt g e1).2).trans hh, r⟩
/-- Where a table lies. -/
def InB (lo hi : Nat) (v : Value) (n : Nat) (rs : Nat → Value) : Prop := (∀ x, v.ownBlock = some x → lo ≤ x ∧ x < hi) ∧ ∀ i, i < n → ∀ x, (rs i).ownBlock = some x → lo ≤ x ∧ x < hi
theorem inB_of {w : World} {base n : Nat} {v : Value} {zs : Nat → List Int} {rs : Nat → Value} (h : OwnP w base v n zs rs) : InB base w.heap.size v n rs := ⟨fun x e => h.tbl.lt x e, fun i hi x e => (h.row i hi).lt x e⟩
theorem inB_low {lo lo' hi n : Nat} {v : Value} {rs : Nat → Value} (h : InB lo hi v n rs) (hl : lo' ≤ lo) : InB lo' hi v n rs :=
  ⟨fun x e => ⟨Nat.le_trans hl (h.1 x e).1, (h.1 x e).2⟩, fun i hi x e => ⟨Nat.le_trans hl (h.2 i hi x e).1, (h.2 i hi x e).2⟩⟩
theorem own_base {w : World} {base base' : Nat} {e : TypeId} {v : Value} {n : Nat} {xs : List Value} (h : w.ownsRow base e 1 v n xs) (hl : base' ≤ base) : w.ownsRow base' e 1 v n xs := by
  refine ⟨h.1, ?_⟩
  rcases h.2 with h2 | ⟨g, c, cur, hv, hg, r⟩
  · exact .inl h2
  · exact .inr ⟨g, c, cur, hv, Nat.le_trans hl hg, r⟩
theorem base_low {w : World} {base base' n : Nat} {v : Value} {zs : Nat → List Int} {rs : Nat → Value} (h : OwnP w base v n zs rs) (hl : base' ≤ base) : OwnP w base' v n zs rs :=
  ⟨own_base h.tbl hl, fun i hi => own_base (h.row i hi) hl, h.ne⟩
theorem keep_of {w w' : World} {base n : Nat} {v : Value} {zs : Nat → List Int} {rs : Nat → Value} (h : OwnP w base v n zs rs) (hk : ∀ x, (v.ownBlock = some x ∨ ∃ i, i < n ∧ (rs i).ownBlock = some x) → x < w.heap.size → w'.heap[x]? = w.heap[x]?) : OwnP w' base v n zs rs :=
  ⟨own_keep h.tbl fun x e hl => hk x (.inl e) hl, fun i hi => own_keep (h.row i hi) fun x e hl => hk x (.inr ⟨i, hi, e⟩) hl, h.ne⟩
theorem in_of {l h' n : Nat} {v : Value} {rs : Nat → Value} (hb : InB l h' v n rs) {x : Nat} (hx : v.ownBlock = some x ∨ ∃ i, i < n ∧ (rs i).ownBlock = some x) : l ≤ x ∧ x < h' := by
  rcases hx with hx | ⟨i, hi, hx⟩
  · exact hb.1 x hx
  · exact hb.2 i hi x hx
theorem low_of {w w' : World} {base n B l h' : Nat} {v : Value} {zs : Nat → List Int} {rs : Nat → Value} (h : OwnP w base v n zs rs) (hB : Below B w w') (hb : InB l h' v n rs) (hd : h' ≤ B) : OwnP w' base v n zs rs :=
  keep_of h fun x hx hl => hB.block x (by have := in_of hb hx; omega)
/-- Beside a row that grew at or behind lo. -/
theorem grown_of {w w' : World} {base n l h' lo : Nat} {v u : Value} {zs : Nat → List Int} {rs : Nat → Value} (h : OwnP w base v n zs rs) (hg : w.grownBy w' u.ownBlock) (hb : InB l h' v n rs) (hu : ∀ y, u.ownBlock = some y → lo ≤ y) (hd : h' ≤ lo) : OwnP w' base v n zs rs :=
  keep_of h fun x hx hl => hg.block x hl (by
    have h1 := in_of hb hx
    intro e
    have h2 := hu x e.symm
    omega)
theorem grown_up {w w' : World} {base n l h' : Nat} {v u : Value} {zs : Nat → List Int} {rs : Nat → Value} (h : OwnP w base v n zs rs) (hg : w.grownBy w' u.ownBlock) (hb : InB l h' v n rs) (hu : ∀ y, u.ownBlock = some y → y < l) : OwnP w' base v n zs rs :=
  keep_of h fun x hx hl => hg.block x hl (by
    have h1 := in_of hb hx
    intro e
    have h2 := hu x e.symm
    omega)
theorem own_ge {a : Option Addr} {n cap z : Nat} (h : ∀ x, a = some x → z ≤ x.block) (y : Nat) (e : (Value.slice a n cap).ownBlock = some y) : z ≤ y := by
  cases a with
  | none => simp [Value.ownBlock] at e
  | some p => simp [Value.ownBlock] at e; subst e; exact h p rfl
theorem own_lt {a : Option Addr} {n cap z : Nat} (h : ∀ x, a = some x → x.block < z) (y : Nat) (e : (Value.slice a n cap).ownBlock = some y) : y < z := by
  cases a with
  | none => simp [Value.ownBlock] at e
  | some p => simp [Value.ownBlock] at e; subst e; exact h p rfl
end Go.Proofs.Ytnenaponiahalaa.TbR

namespace Go.Proofs.Ytnenaponiahalaa.KaT
open Go.RowKit TblS
theorem zsP_max (l : List (Nat × Nat)) (i : Nat) (_ : i < l.length) : (zsP l i).length ≤ maxLen := by
  have := zsP_len l i
  unfold maxLen
  omega
theorem tot_two (l : List (Nat × Nat)) : TblS.tot (zsP l) l.length ≤ 2 * l.length := tot_le fun i _ => Nat.le_of_eq (zsP_len l i)
end Go.Proofs.Ytnenaponiahalaa.KaT

namespace Go.Proofs.Ytnenaponiahalaa.AgwL
open Go.RowKit Lb Bk LwK TblS PrtB
set_option linter.unusedSimpArgs false
set_option linter.unusedVariables false

set_option maxRecDepth 100000 in
set_option maxHeartbeats 8000000 in
theorem law_any (W : World) (a0 : Option Addr) (cap0 : Nat) (rs0 : List Kl) (hi0 : KlK.IsS W a0 rs0) (t1 : Bool) :
    Calls Try.prog 12 #[.slice a0 rs0.length cap0, .bool t1] W fun e w' => e = .returned (.bool true) ∧ Below W.heap.size W w' := by
  have hB := Lib.hid (show Below W.heap.size W W from (Below.refl _ _))
  have hR0 := Lib.hid hi0.R
  have hF0 := Lib.hid hi0.f
  have hL0 := Lib.hid hi0.l
  clear hi0
  go_enter Try.func12, Try.ntmps12
  go_wp2_with fail
  refine (KlK.szS_any a0 cap0 rs0 _ _ (KlK.Row.later hR0.out hB.out) hF0.out hL0.out (by omega) (by omega)).mono ?_
  rintro e w1 ⟨⟨r0, rfl, hr⟩, hb⟩
  replace hB := Lib.hid (hB.out.trans (hb.mono hB.out.size))
  clear hb
  rcases hr with rfl | ⟨h0, hr⟩
  · go_wp2
    go_ret
    exact ⟨rfl, hB.out⟩
  have ht := KlK.tot_nn rs0 rs0.length
  have hn0 : rs0.length ≤ 1048576 := by omega
  have hneg0 : decide (r0 < 0) = false := decide_eq_false (by omega)
  have hu0 : 0 ≤ r0 ∧ r0 ≤ 1048576 := by omega
  obtain ⟨hv0, hw0⟩ := hu0
  clear hr ht h0
  obtain ⟨u0, u1, hul0, HS, HI⟩ := KaY.both rs0 hF0.out hn0 t1
  replace HS := Lib.hid HS
  replace HI := Lib.hid HI
  have hum0 : u0.length ≤ maxLen := by unfold maxLen; omega
  have hun0 : u0.length ≤ 121 := hul0
  have hzz0 := Lib.hid (KaT.zsP_max u0)
  have htt0 := KaT.tot_two u0
  go_wp2_with fail
  refine (KlK.toS_any a0 cap0 rs0 _ (KlK.Row.later hR0.out hB.out) hn0).mono ?_
  rintro e w1 ⟨v, rfl, ho, hb⟩
  replace hB := Lib.hid (hB.out.trans (hb.mono hB.out.size))
  obtain ⟨wa0, wc0, rfl, -, wl0⟩ := KlK.Own.slice ho
  have wX0 := Lib.hid ho
  clear ho hb
  go_wp2_with fail
  refine (HS.out _ _ _ (KlK.Own.le wX0.out) (KlK.Own.row wX0.out)).mono ?_
  rintro e w1 ⟨v0, wrs, rfl, ho0, hb⟩
  have hIW := Lib.hid (TbR.inB_of ho0)
  replace hB := Lib.hid (hB.out.trans (hb.mono hB.out.size))
  replace wX0 := Lib.hid (KlK.Own.below wX0.out hb)
  obtain ⟨wa0, wc0, rfl⟩ := ho0.slice
  have wW0 := Lib.hid ho0
  clear ho0
  clear hb
  try clear wX0
  obtain ⟨z0, hz0⟩ : ∃ z, w1.heap.size = z := ⟨_, rfl⟩
  rw [hz0] at hIW
  have hWz := Lib.hid (show W.heap.size ≤ z0 from hz0 ▸ hB.out.size)
  have hZ := Lib.hid (show z0 ≤ w1.heap.size from Nat.le_of_eq hz0.symm)
  clear hz0
  go_wp2_with fail
  refine (KlK.toS_any a0 cap0 rs0 _ (KlK.Row.later hR0.out hB.out) hn0).mono ?_
  rintro e w1 ⟨v, rfl, ho, hb⟩
  obtain ⟨xa0, xc0, rfl, -, xl⟩ := KlK.Own.slice ho
  have xlo0 := Lib.hid (show ∀ x, xa0 = some x → z0 ≤ x.block from fun x e => Nat.le_trans hZ.out (xl x e).1)
  replace hB := Lib.hid (hB.out.trans (hb.mono hB.out.size))
  replace wW0 := Lib.hid (OwnP.below wW0.out hb)
  replace hZ := Lib.hid (Nat.le_trans hZ.out hb.size)
  have xup0 := Lib.hid (show ∀ x, xa0 = some x → x.block < w1.heap.size from fun x e => (xl x e).2)
  have xX0 := Lib.hid ho
  clear ho hb xl
  obtain ⟨z1, hz1⟩ : ∃ z, w1.heap.size = z := ⟨_, rfl⟩
  have xhi0 := Lib.hid (show ∀ x, xa0 = some x → x.block < z1 from fun x e => hz1 ▸ xup0.out x e)
  clear xup0
  have hz01 : z0 ≤ z1 := hz1 ▸ hZ.out
  have hY := Lib.hid (show z1 ≤ w1.heap.size from Nat.le_of_eq hz1.symm)
  clear hz1
  go_wp2_with fail
  refine (HI.out _ _ _ (KlK.Own.le xX0.out) (KlK.Own.row xX0.out)).mono ?_
  rintro e w1 ⟨v0, grs, rfl, ho0, hb⟩
  have hIG := Lib.hid (TbR.inB_low (TbR.inB_of ho0) hY.out)
  replace ho0 := TbR.base_low ho0 hY.out
  obtain ⟨ga0, gc0, rfl⟩ := ho0.slice
  replace hB := Lib.hid (hB.out.trans (hb.mono hB.out.size))
  replace wW0 := Lib.hid (OwnP.below wW0.out hb)
  replace hZ := Lib.hid (Nat.le_trans hZ.out hb.size)
  replace xX0 := Lib.hid (KlK.Own.below xX0.out hb)
  replace hY := Lib.hid (Nat.le_trans hY.out hb.size)
  have gX0 := Lib.hid ho0
  clear ho0
  clear hb
  go_wp2_with fail
  refine (TblS.eq_same _ _ _ _ u0.length (KaT.zsP u0) _ (OwnP.rd gX0.out) (OwnP.rd wW0.out) hum0 hzz0.out).mono ?_
  rintro e w1 ⟨rfl, hb⟩
  replace hB := Lib.hid (hB.out.trans (hb.mono hB.out.size))
  replace wW0 := Lib.hid (OwnP.below wW0.out hb)
  replace hZ := Lib.hid (Nat.le_trans hZ.out hb.size)
  replace xX0 := Lib.hid (KlK.Own.below xX0.out hb)
  replace hY := Lib.hid (Nat.le_trans hY.out hb.size)
  replace gX0 := Lib.hid (OwnP.below gX0.out hb)
  clear hb
  go_wp2_with fail
  refine (KlK.toS_any a0 cap0 rs0 _ (KlK.Row.later hR0.out hB.out) hn0).mono ?_
  rintro e w1 ⟨v, rfl, ho, hb⟩
  obtain ⟨ya, yc, rfl, hyr, -⟩ := KlK.Own.slice ho
  replace hB := Lib.hid (hB.out.trans (hb.mono hB.out.size))
  replace wW0 := Lib.hid (OwnP.below wW0.out hb)
  replace hZ := Lib.hid (Nat.le_trans hZ.out hb.size)
  replace xX0 := Lib.hid (KlK.Own.below xX0.out hb)
  replace hY := Lib.hid (Nat.le_trans hY.out hb.size)
  replace gX0 := Lib.hid (OwnP.below gX0.out hb)
  clear ho hb
  go_wp2_with fail
  refine (KlK.eqS_same _ _ _ _ rs0 _ (KlK.Own.row xX0.out) hyr (by unfold maxLen; omega)).mono ?_
  rintro e w1 ⟨rfl, hb⟩
  replace hB := Lib.hid (hB.out.trans (hb.mono hB.out.size))
  replace wW0 := Lib.hid (OwnP.below wW0.out hb)
  replace hZ := Lib.hid (Nat.le_trans hZ.out hb.size)
  replace xX0 := Lib.hid (KlK.Own.below xX0.out hb)
  replace hY := Lib.hid (Nat.le_trans hY.out hb.size)
  replace gX0 := Lib.hid (OwnP.below gX0.out hb)
  clear hb hyr
  obtain ⟨m0, hm0⟩ : ∃ m : Nat, m = 1 := ⟨_, rfl⟩
  have hmk := Lib.hid hm0
  clear hm0
  obtain ⟨mx0, hmx0⟩ : ∃ m : Nat, 1 + 8 * rs0.length = m := ⟨_, rfl⟩
  have hmc := Lib.hid (fun (w : World) (base : Nat) h => hmx0 ▸ KlK.markS_any base xa0 xc0 rs0 1 w h (by omega) (by omega))
  have hneg : decide ((mx0 : Int) < 0) = false := pos_cast _
  have hmlo0 : 1 ≤ mx0 ∧ mx0 ≤ 20000000 := by omega
  replace hmx0 := Lib.hid hmx0
  go_wp2_with fail
  refine (hmc.out _ _ xX0.out).mono ?_
  rintro e w1 ⟨rfl, -, hg⟩
  clear xX0 hmc
  have hgs := hg.size
  replace hB := Lib.hid (below_grown hB.out hg hB.out.size (fun x e => by have h1 := xlo0.out x e; have h2 := hWz.out; omega))
  replace wW0 := Lib.hid (TbR.grown_of wW0.out hg hIW.out (fun y => TbR.own_ge xlo0.out y) (Nat.le_refl _))
  replace hZ := Lib.hid (Nat.le_trans hZ.out hgs)
  replace hY := Lib.hid (Nat.le_trans hY.out hgs)
  replace gX0 := Lib.hid (TbR.grown_up gX0.out hg hIG.out (fun y => TbR.own_lt xhi0.out y))
  clear hg hgs
  go_wp2_with fail
  refine (TblS.eq_same _ _ _ _ u0.length (KaT.zsP u0) _ (OwnP.rd gX0.out) (OwnP.rd wW0.out) hum0 hzz0.out).mono ?_
  rintro e w1 ⟨rfl, hb⟩
  replace hB := Lib.hid (hB.out.trans (hb.mono hB.out.size))
  replace wW0 := Lib.hid (OwnP.below wW0.out hb)
  replace hZ := Lib.hid (Nat.le_trans hZ.out hb.size)
  replace hY := Lib.hid (Nat.le_trans hY.out hb.size)
  replace gX0 := Lib.hid (OwnP.below gX0.out hb)
  clear hb
  obtain ⟨mg0, hmg0⟩ : ∃ m : Nat, 1 + TblS.tot (KaT.zsP u0) u0.length = m := ⟨_, rfl⟩
  have hg1 : ((1 : Int) + (TblS.tot (KaT.zsP u0) u0.length : Nat)) = (mg0 : Int) := by omega
  have hmc := Lib.hid (fun (w : World) h hb => hg1 ▸ TblS.mark_any z1 ga0 gc0 u0.length (KaT.zsP u0) grs 1 w h hb hum0 (by omega) (by omega))
  have hneg : decide ((mg0 : Int) < 0) = false := pos_cast _
  have hhc0 := Lib.hid (fun w h => hg1 ▸ TblS.held_any ga0 gc0 u0.length (KaT.zsP u0) 1 w h hum0 (by omega) (by omega))
  replace hg1 := Lib.hid hg1
  replace hmg0 := Lib.hid hmg0
  replace htt0 := Lib.hid htt0
  go_wp2_with fail
  refine (hmc.out _ gX0.out hY.out).mono ?_
  rintro e w1 ⟨rfl, hmo, hg⟩
  clear gX0 hmc
  have hgs := hg.size
  have hWz1 := Lib.hid (show W.heap.size ≤ z1 from Nat.le_trans hWz.out hz01)
  replace hB := Lib.hid (hB.out.trans (hg.mono hWz1.out))
  replace wW0 := Lib.hid (TbR.low_of wW0.out hg hIW.out hz01)
  replace hZ := Lib.hid (Nat.le_trans hZ.out hgs)
  replace hY := Lib.hid (Nat.le_trans hY.out hgs)
  clear hgs hg
  have gM0 := Lib.hid hmo
  clear hmo
  go_wp2_with fail
  refine (hhc0.out _ (OwnP.rd gM0.out)).mono ?_
  rintro e w9 ⟨rfl, rfl⟩
  go_wp2_with fail
  refine (KlK.toS_any a0 cap0 rs0 _ (KlK.Row.later hR0.out hB.out) hn0).mono ?_
  rintro e w1 ⟨v, rfl, ho, hb⟩
  replace hB := Lib.hid (hB.out.trans (hb.mono hB.out.size))
  replace wW0 := Lib.hid (OwnP.below wW0.out hb)
  replace hZ := Lib.hid (Nat.le_trans hZ.out hb.size)
  replace hY := Lib.hid (Nat.le_trans hY.out hb.size)
  replace gM0 := Lib.hid (OwnP.below gM0.out hb)
  obtain ⟨ha0, hc0, rfl, -, hl0⟩ := KlK.Own.slice ho
  have hX0 := Lib.hid ho
  clear ho hb
  go_wp2_with fail
  refine (HI.out _ _ _ (KlK.Own.le hX0.out) (KlK.Own.row hX0.out)).mono ?_
  rintro e w1 ⟨v0, hrs, rfl, ho0, hb⟩
  replace hB := Lib.hid (hB.out.trans (hb.mono hB.out.size))
  replace wW0 := Lib.hid (OwnP.below wW0.out hb)
  replace hZ := Lib.hid (Nat.le_trans hZ.out hb.size)
  replace hY := Lib.hid (Nat.le_trans hY.out hb.size)
  replace gM0 := Lib.hid (OwnP.below gM0.out hb)
  replace hX0 := Lib.hid (KlK.Own.below hX0.out hb)
  obtain ⟨ha0, hc0, rfl⟩ := ho0.slice
  have hX0 := Lib.hid ho0
  clear ho0
  clear hb
  go_wp2_with fail
  refine (TblS.eq_same _ _ _ _ u0.length (KaT.zsP u0) _ (OwnP.rd hX0.out) (OwnP.rd wW0.out) hum0 hzz0.out).mono ?_
  rintro e w1 ⟨rfl, hb⟩
  replace hB := Lib.hid (hB.out.trans (hb.mono hB.out.size))
  replace wW0 := Lib.hid (OwnP.below wW0.out hb)
  replace hZ := Lib.hid (Nat.le_trans hZ.out hb.size)
  replace hY := Lib.hid (Nat.le_trans hY.out hb.size)
  replace gM0 := Lib.hid (OwnP.below gM0.out hb)
  replace hX0 := Lib.hid (OwnP.below hX0.out hb)
  clear hb
  go_wp2_with fail
  refine (hhc0.out _ (OwnP.rd gM0.out)).mono ?_
  rintro e w9 ⟨rfl, rfl⟩
  go_wp2
  go_ret
  exact ⟨rfl, hB.out⟩

end Go.Proofs.Ytnenaponiahalaa.AgwL

namespace Go.Proofs.Ytnenaponiahalaa.fnExactAgesWithoutFr
open Go.ChangeShapes Go.WideShapes Go.ChangeAt Go.RowKit
open Go.ChangeMaps (open_string shut_string)
set_option linter.unusedVariables false

theorem own : ownKnob Try.prog.godebug = none := by kernel_rfl
theorem laidOut : laidOutB Try.prog = true := by kernel_rfl

set_option maxRecDepth 100000 in
theorem lifted (os : Os) (started : os.Started) (H : Type) (enc : TypeId × Value → H) :
    ReturnsInHanded {} Try.checked os 12 .any (Rows.fnExactAgesWithoutSpec.pre6 enc Try.prog Try.f12 Rows.fnExactAgesWithoutRow.domain false) (Rows.fnExactAgesWithoutSpec.post enc Try.prog Try.f12 false true false false) := by
  refine returnsInHanded_of_change (C := Try.checked) own started (by kernel_rfl) Try.func12
    (ChangeSpec.witness6 (enc := enc) (C := Try.checked) false ⟨#[], #[.slice none 0 0, .bool false], []⟩ 8 (by kernel_rfl) (by kernel_rfl) (by kernel_rfl) (by kernel_rfl)) ?_
  intro W base args ds gs before hval0 hW hcnd _
  have hval : ∀ (j : Nat) t v, Try.f12.params[j]? = some t → args[j]? = some v → Value.okWide Try.prog W .any base t v := hval0
  have hW' := hW
  obtain ⟨p, q, hA0, hV, rfl, hfz, hnd⟩ := hW
  have hA : DataW.TrodAll enc Try.prog W 0 (fun _ => true) true Try.f12.params.toList args.toList ds p := hA0
  rw [Try.params12] at hA hval
  obtain ⟨v0, vs0, d0, ds0, p0, q0, hargs, rfl, rfl, h0, r0⟩ := trodAll_cons hA
  obtain ⟨v1, vs1, d1, ds1, p1, q1, rfl, rfl, rfl, h1, r1⟩ := trodAll_cons r0
  obtain ⟨rfl, rfl, rfl⟩ := trodAll_nil r1
  obtain rfl : args = #[v0, v1] := by cases args; simp_all
  obtain ⟨rfl, rfl⟩ := trodVars_none hV
  have k0 := h0
  have lt0 : ∀ x ∈ p0, x.block < W.heap.size := by obtain ⟨m, hm⟩ := k0; exact DataW.trod_lt m _ _ _ hm
  obtain ⟨x0_0, x0_1, x0_2, rfl, w0⟩ := (KlK.open_list Try.underlying67 Try.underlying62 (by kernel_rfl) (by kernel_rfl) Try.underlying3 Try.underlying9 Try.underlying3 Try.underlying3 Try.underlying4 Try.underlying4 Try.underlying3 Try.underlying3) (hval 0 67 v0 rfl rfl) h0
  have k1 := h1
  have lt1 : ∀ x ∈ p1, x.block < W.heap.size := by obtain ⟨m, hm⟩ := k1; exact DataW.trod_lt m _ _ _ hm
  obtain ⟨a1, rfl, rfl, rfl⟩ := open_bool Try.underlying4 (hval 1 4 v1 rfl rfl) h1
  clear hA0 hval0
  refine (AgwL.law_any W x0_0 x0_1 x0_2 w0 a1).mono fun e W' ⟨he, bel⟩ => ?_
  subst he
  exact ⟨_, rfl, _, _, _, [], _, [], hW', trodAll_mk1 (shut_bool Try.underlying4 _), (trodAll_cons_mk (Below.trod laidOut (by kernel_rfl) (of_decide_eq_true (by kernel_rfl)) k0 bel lt0) (trodAll_cons_mk (Below.trod laidOut (by kernel_rfl) (of_decide_eq_true (by kernel_rfl)) k1 bel lt1) trodAll_mk0)), rfl, bel.frame _, fun h => by cases h⟩

theorem over : Rows.fnExactAgesWithoutRow.holds Try.pinned (OpenSpec.ofChange Rows.fnExactAgesWithoutSpec) :=
  OpenClaim.holds_of_wide 12 Try.f12 rfl rfl rfl rfl rfl rfl rfl ⟨rfl, rfl, rfl, rfl, rfl⟩ rfl rfl rfl rfl rfl (by kernel_rfl) Try.func12 (by kernel_rfl)
    (of_decide_eq_true (by kernel_rfl)) (by unfold Func.isWrapper; first | (rw [if_pos (by decide +kernel)]; kernel_rfl) | (rw [if_neg (by decide +kernel)]; exact ⟨rfl, rfl⟩))
    (fun os started H enc _ => lifted os started H enc)

theorem proved : Rows.FnExactAgesWithoutSaid := over
end Go.Proofs.Ytnenaponiahalaa.fnExactAgesWithoutFr
