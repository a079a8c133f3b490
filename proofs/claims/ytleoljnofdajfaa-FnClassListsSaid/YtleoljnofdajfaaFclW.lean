/- FnClassLists: the walk of the law. -/
import Derived.Test.YtleoljnofdajfaaKaV
import Derived.Test.YtleoljnofdajfaaKaY
import Derived.Test.YtleoljnofdajfaaBk
import Derived.Deep.MidRow
import Derived.Test.YtleoljnofdajfaaKaF
import Derived.Test.YtleoljnofdajfaaKaH
import Derived.Deep.CutBlock
import Derived.Test.YtleoljnofdajfaaKaG
import Derived.Test.YtleoljnofdajfaaMark
import Derived.Test.YtleoljnofdajfaaCodB
import Derived.Test.YtleoljnofdajfaaIntA
import Derived.Deep.LoopGhost
import Derived.Deep.QuietTactic
import Derived.Test.YtleoljnofdajfaaTblS
import Derived.Test.YtleoljnofdajfaaKlDl
import Derived.RegionTactic
import Derived.Deep.RegionHeld3
import Derived.BigQuiet
namespace Go.Proofs.Ytleoljnofdajfaa.FclM
open Go.RowKit Lb Bk InA KlI KaA KaG KaD KaF KaL KaM KaW
open KlK (at_ at_lt)
set_option linter.unusedSimpArgs false
set_option linter.unusedVariables false

theorem id_inj {rs : List Kl} (hg : goodB rs = true) {i j : Nat} (hi : i < rs.length) (hj : j < rs.length) (e : (at_ rs i).id = (at_ rs j).id) : i = j := by
  rcases Nat.lt_trichotomy i j with h | h | h
  · have := good_lt hg h hj; omega
  · exact h
  · have := good_lt hg h hi; omega
/-- Whom the number picked is of. -/
theorem pk_of {rs : List Kl} (hg : goodB rs = true) {ids : List Int} {r : Ru} {k : Nat} (hk : k < rs.length) (h : pkI rs ids r = (at_ rs k).id) : admR (at_ rs k) r = true ∧ (cn ids (at_ rs k).id : Int) < (at_ rs k).mo := by
  have h1 := (ok_id (good_ok hg hk)).1
  unfold pkI at h
  cases ho : pkO rs ids r with
  | none => rw [ho] at h; change (0 : Int) = _ at h; omega
  | some c =>
    rw [ho] at h
    change c.id = _ at h
    have hm := List.mem_of_find?_eq_some ho
    have hp := List.find?_some ho
    obtain ⟨j, hj, rfl⟩ := List.mem_iff_getElem.1 hm
    rw [← at_lt hj] at h hp
    obtain rfl := id_inj hg hj hk h
    unfold fitB at hp
    rw [Bool.and_eq_true] at hp
    exact ⟨hp.1, of_decide_eq_true hp.2⟩
theorem pk_none {rs : List Kl} (hg : goodB rs = true) {ids : List Int} {r : Ru} (h : pkI rs ids r = 0) {k : Nat} (hk : k < rs.length) (ha : admR (at_ rs k) r = true) : (at_ rs k).mo ≤ (cn ids (at_ rs k).id : Int) := by
  unfold pkI at h
  cases ho : pkO rs ids r with
  | some c =>
    rw [ho] at h
    change c.id = 0 at h
    have hm := List.mem_of_find?_eq_some ho
    obtain ⟨j, hj, rfl⟩ := List.mem_iff_getElem.1 hm
    have := (ok_id (good_ok hg hj)).1
    rw [at_lt hj] at this
    omega
  | none =>
    have hn := List.find?_eq_none.1 ho (at_ rs k) (by rw [at_lt hk]; exact List.getElem_mem hk)
    unfold fitB at hn
    rw [ha] at hn
    simp at hn
    omega
/-- No class gets more than it takes. -/
theorem cn_most {rs : List Kl} (hg : goodB rs = true) (us : List Ru) {k : Nat} (hk : k < rs.length) : ∀ j, j ≤ us.length → (cn (filL rs (us.take j)) (at_ rs k).id : Int) ≤ (at_ rs k).mo
  | 0, _ => by
    have := (ok_mo (good_ok hg hk)).1
    simp [filL, cn]
    omega
  | j + 1, h => by
    have ih := cn_most hg us hk j (by omega)
    rw [fil_next (by omega), cn_snoc]
    by_cases e : pkI rs (filL rs (us.take j)) (RuK.at_ us j) = (at_ rs k).id
    · have := (pk_of hg hk e).2
      rw [if_pos e]
      omega
    · rw [if_neg e]
      omega
theorem cn_mono (rs : List Kl) (us : List Ru) (x : Int) (i : Nat) : ∀ j, i ≤ j → j ≤ us.length → cn (filL rs (us.take i)) x ≤ cn (filL rs (us.take j)) x
  | 0, h, _ => by
    obtain rfl : i = 0 := by omega
    exact Nat.le_refl _
  | j + 1, h, hl => by
    by_cases e : i = j + 1
    · rw [e]; exact Nat.le_refl _
    · have ih := cn_mono rs us x i j (by omega) (by omega)
      rw [fil_next (by omega), cn_snoc]
      omega
theorem fil_at (rs : List Kl) (us : List Ru) (i : Nat) : ∀ j, i < j → j ≤ us.length → (filL rs (us.take j))[i]? = some (pkI rs (filL rs (us.take i)) (RuK.at_ us i))
  | 0, h, _ => by omega
  | j + 1, h, hl => by
    rw [fil_next (by omega)]
    by_cases e : i = j
    · subst e
      rw [List.getElem?_append_right (by rw [fil_leng rs us i (by omega)]; exact Nat.le_refl _), fil_leng rs us i (by omega)]
      simp
    · rw [List.getElem?_append_left (by rw [fil_leng rs us j (by omega)]; omega)]
      exact fil_at rs us i j (by omega) (by omega)
/-- What the law asks of each class and runner. -/
theorem fill_facts {rs : List Kl} (hg : goodB rs = true) (us : List Ru) {k : Nat} (hk : k < rs.length) : (cn (filL rs us) (at_ rs k).id : Int) ≤ (at_ rs k).mo ∧ (filL rs us).length = us.length ∧
    ∀ i, i < us.length → ∃ z, (filL rs us)[i]? = some z ∧ (z = 0 → admR (at_ rs k) (RuK.at_ us i) = true → (at_ rs k).mo ≤ (cn (filL rs us) (at_ rs k).id : Int)) ∧ (z = (at_ rs k).id → admR (at_ rs k) (RuK.at_ us i) = true) := by
  have hm := cn_most hg us hk us.length (Nat.le_refl _)
  have hl := fil_leng rs us us.length (Nat.le_refl _)
  rw [List.take_length] at hm hl
  refine ⟨hm, hl, fun i hi => ?_⟩
  have hf := fil_at rs us i us.length hi (Nat.le_refl _)
  have hmo := cn_mono rs us (at_ rs k).id i us.length (by omega) (Nat.le_refl _)
  rw [List.take_length] at hf hmo
  refine ⟨_, hf, fun h0 ha => ?_, fun h => (pk_of hg hk h).1⟩
  have := pk_none hg h0 hk ha
  omega

/-- Each age of a span is free. -/
theorem sp_all {F : Nat → Bool} : ∀ {k : Nat} {p : Nat × Nat}, p ∈ sp F k → ∀ x, p.1 ≤ x → x ≤ p.2 → F x = true
  | 0, p, h => by simp [sp] at h
  | k + 1, p, h => by
    intro x h1 h2
    rw [sp] at h
    cases hF : F k with
    | false => rw [hF] at h; exact sp_all (k := k) h x h1 h2
    | true =>
      rw [hF] at h
      change p ∈ ext (sp F k) k at h
      rcases List.eq_nil_or_concat (sp F k) with hn | ⟨l, q, hc⟩
      · rw [hn, ext_nil] at h
        simp at h
        subst h
        obtain rfl : x = k := by omega
        exact hF
      · rw [List.concat_eq_append] at hc
        have hsub : ∀ y, y ∈ l ++ [q] → y ∈ sp F k := fun y hy => by rw [hc]; exact hy
        by_cases e : q.2 + 1 = k
        · rw [hc, KaY.ext_same e] at h
          rcases List.mem_append.1 h with h | h
          · exact sp_all (hsub p (List.mem_append.2 (.inl h))) x h1 h2
          · simp at h
            subst h
            by_cases ex : x = k
            · rw [ex]; exact hF
            · exact sp_all (hsub q (List.mem_append.2 (.inr (by simp)))) x h1 (by change x ≤ k at h2; omega)
        · rw [hc, KaY.ext_far e] at h
          rcases List.mem_append.1 h with h | h
          · exact sp_all (hsub p h) x h1 h2
          · simp at h
            subst h
            obtain rfl : x = k := by change k ≤ x at h1; change x ≤ k at h2; omega
            exact hF
/-- No class of the sex meets a span. -/
theorem ages_facts {rs : List Kl} {woman : Bool} {p : Nat × Nat} (hp : p ∈ agL rs woman) : p.1 ≤ p.2 ∧ p.2 ≤ 120 ∧ ∀ k, k < rs.length → sexB (at_ rs k) woman = true → ¬ ((at_ rs k).lo ≤ (p.2 : Int) ∧ (p.1 : Int) ≤ (at_ rs k).hi) := by
  unfold agL at hp
  cases hg : goodB rs with
  | false => rw [hg] at hp; cases hp
  | true =>
    rw [hg] at hp
    change p ∈ sp _ 121 at hp
    obtain ⟨-, h1, h2⟩ := sp_end hp
    refine ⟨h2, by omega, fun k hk hs ⟨ha, hb⟩ => ?_⟩
    obtain ⟨h3, h4, h5⟩ := ok_ages (good_ok hg hk)
    have hm : at_ rs k ∈ sexL rs woman := by
      unfold sexL
      rw [List.mem_filter]
      exact ⟨by rw [at_lt hk]; exact List.getElem_mem hk, hs⟩
    obtain ⟨x, hx⟩ : ∃ x : Nat, x = max p.1 (at_ rs k).lo.toNat := ⟨_, rfl⟩
    have hF := sp_all hp x (by omega) (by omega)
    rw [fr_no hm (by omega) (by omega)] at hF
    cases hF
end Go.Proofs.Ytleoljnofdajfaa.FclM

namespace Go.Proofs.Ytleoljnofdajfaa.Ar21
open Go.RowKit Lb Bk
set_option linter.unusedSimpArgs false
set_option linter.unusedVariables false

def cs (c : Nat → Int) : Array Value := ((List.range 21).map fun i => Value.int .i64 (c i)).toArray
def upd (c : Nat → Int) (i : Nat) (v : Int) : Nat → Int := fun j => if j = i then v else c j
theorem cs_set (c : Nat → Int) (j : Nat) (v : Int) : (cs c).setIfInBounds j (.int .i64 v) = cs (upd c j v) := by
  unfold cs upd
  apply Array.ext
  · simp
  · intro i h1 h2
    simp only [Array.size_setIfInBounds, List.size_toArray, List.length_map, List.length_range] at h1
    by_cases e : j = i
    · subst e; simp [Array.getElem_setIfInBounds]
    · simp [Array.getElem_setIfInBounds, e, show ¬ i = j by omega]
theorem cs_congr {c d : Nat → Int} (h : ∀ j, j < 21 → c j = d j) : cs c = cs d := by
  unfold cs
  congr 1
  exact List.map_congr_left fun i hi => by rw [h i (by simpa using hi)]
theorem cell {w : World} {g : Nat} {t : TypeId} {c : Nat → Int} (h : Blk w g t (cs c)) {j : Nat} (hj : j < 21) : w.cell? ⟨g, j, none⟩ = some (.int .i64 (c j)) ∧ w.frozen? ⟨g, j, none⟩ = false := by
  unfold Blk at h
  constructor
  · simp [World.cell?, h, cs, hj]
  · simp [World.frozen?, h]
theorem put {w : World} {g : Nat} {t : TypeId} {c : Nat → Int} (h : Blk w g t (cs c)) (j : Nat) (v : Int) : Blk (w.setCell ⟨g, j, none⟩ (.int .i64 v)) g t (cs (upd c j v)) := by rw [← cs_set]; exact h.set_ j _
def ls (c : Nat → Int) : List Value := (List.range 21).map fun i => Value.int .i64 (c i)
theorem ls_len (c : Nat → Int) : (ls c).length = 21 := by simp [ls]
theorem range {w : World} {g : Nat} {t : TypeId} {c : Nat → Int} (h : Blk w g t (cs c)) : w.rangeAt g 0 (ls c) := by
  intro j v hv
  have hj : j < 21 := by
    have := (List.getElem?_eq_some_iff.1 hv).1
    rwa [ls_len] at this
  rw [Nat.zero_add, (cell h hj).1, ← hv]
  simp [ls, hj]
theorem info : (Try.prog.info? 70).map (·.size) = some 21 := by kernel_rfl
theorem load {w : World} {g : Nat} {t : TypeId} {c : Nat → Int} (h : Blk w g t (cs c)) : (Instr.loadAt 70 (.pointer (some ⟨g, 0, none⟩))).run Try.prog w = .ok (.agg (cs c)) w :=
  run_loadAt_mid w g 0 70 (ls c) _ (range h) Try.underlying70 rfl (by rw [ls_len]; exact info)
theorem index (c : Nat → Int) (j : Nat) (hj : j < 21) (W : World) : (Instr.index 70 (.agg (cs c)) (.int .i64 j)).run Try.prog W = .ok (.int .i64 (c j)) W := by
  have h1 : (j : Int) < 21 := by omega
  have h2 : (cs c)[j]? = some (.int .i64 (c j)) := by simp [cs, hj]
  simp [Instr.index, run_underlying Try.underlying70, asIntOf, go_sem, h1, hj, h2]
end Go.Proofs.Ytleoljnofdajfaa.Ar21

namespace Go.Proofs.Ytleoljnofdajfaa.KaS
open Go.RowKit Lb Bk InA KlI KaA KaG KaF KaH
open KlK (at_ at_lt no Row Own cells blk_cells)
open IntS (OwnI iInfo)
set_option linter.unusedSimpArgs false
set_option linter.unusedVariables false

/-- How many Classes run a course. -/
def cnt (rs : List Kl) (j : Nat) : Nat := (rs.filter (fun r => r.co == (j : Int))).length
theorem cnt_le (rs : List Kl) (j : Nat) : cnt rs j ≤ rs.length := List.length_filter_le _ _
theorem cnt_take {rs : List Kl} {k : Nat} (hk : k < rs.length) (j : Nat) : cnt (rs.take (k + 1)) j = cnt (rs.take k) j + if (at_ rs k).co = (j : Int) then 1 else 0 := by
  unfold cnt
  by_cases h : (at_ rs k).co = (j : Int)
  · rw [fil_take (p := fun r => r.co == (j : Int)) hk (by simpa using h), if_pos h, List.length_append]
    rfl
  · rw [fil_skip (p := fun r => r.co == (j : Int)) hk (by simpa using h), if_neg h]
    rfl
theorem cnt_zero {rs : List Kl} (h : goodB rs = true) : cnt rs 0 = 0 := by
  unfold cnt
  rw [List.length_eq_zero_iff, List.filter_eq_nil_iff]
  intro r hr
  obtain ⟨j, hj, rfl⟩ := List.mem_iff_getElem.1 hr
  have := (ok_co (good_ok h hj)).1
  rw [at_lt hj] at this
  simp
  omega
/-- The shared courses below a number. -/
def shL (rs : List Kl) (k : Nat) : List Int := ((List.range k).filter (fun j => decide (2 ≤ cnt rs j))).map (fun j => ((j : Nat) : Int))
theorem sh_len (rs : List Kl) (k : Nat) : (shL rs k).length ≤ k := by
  unfold shL
  rw [List.length_map]
  have := List.length_filter_le (fun j => decide (2 ≤ cnt rs j)) (List.range k)
  simpa using this
theorem sh_yes {rs : List Kl} {k : Nat} (h : 2 ≤ cnt rs k) : shL rs (k + 1) = shL rs k ++ [(k : Int)] := by
  unfold shL
  rw [List.range_succ, List.filter_append, List.map_append]
  simp [h]
theorem sh_no {rs : List Kl} {k : Nat} (h : ¬ 2 ≤ cnt rs k) : shL rs (k + 1) = shL rs k := by
  unfold shL
  rw [List.range_succ, List.filter_append, List.map_append]
  simp [h]
/-- What SharedCourses answers. -/
def scL (rs : List Kl) : List Int := if goodB rs then shL rs 21 else []
theorem sc_len (rs : List Kl) : (scL rs).length ≤ 21 := by
  unfold scL
  split
  · exact sh_len rs 21
  · exact Nat.zero_le _
theorem upd_cnt {rs : List Kl} {k c : Nat} (hk : k < rs.length) (hc : (at_ rs k).co = (c : Int)) : Ar21.cs (Ar21.upd (fun j => (cnt (rs.take k) j : Int)) c ((cnt (rs.take k) c : Int) + 1)) = Ar21.cs (fun j => (cnt (rs.take (k + 1)) j : Int)) := by
  refine Ar21.cs_congr fun j _ => ?_
  unfold Ar21.upd
  rw [cnt_take hk, hc]
  by_cases h : j = c
  · subst h; simp
  · rw [if_neg h, if_neg (by omega)]; simp

set_option maxRecDepth 20000 in
set_option maxHeartbeats 4000000 in
theorem sc_impl (rs : List Kl) (hf : ∀ i, i < rs.length → KlK.Is (at_ rs i)) (hl : rs.length ≤ 1048576) (a : Option Addr) (cap : Nat) (w : World) (hc : rs.length ≤ cap) (hr : Row w a rs) :
    Calls Try.prog 15 #[.slice a rs.length cap] w (NPost w (scL rs) (goodB rs)) := by
  obtain ⟨t0, hi0, hz0, hz1, hz2⟩ := info_parts iInfo
  have H := Lib.hid hr
  have hml : rs.length ≤ maxLen := by unfold maxLen; omega
  obtain ⟨g, hg⟩ : ∃ g, goodB rs = g := ⟨_, rfl⟩
  have c1 := Lib.hid (fun w hr => hg ▸ KaA.impl_any a cap rs w hc hr hf hml)
  have HG := Lib.hid hg
  obtain ⟨zs, hzs⟩ : ∃ zs, scL rs = zs := ⟨_, rfl⟩
  have HZ := Lib.hid hzs
  rw [hg, hzs]
  obtain ⟨n, hn⟩ : ∃ n, rs.length = n := ⟨_, rfl⟩
  have HN := Lib.hid hn
  rw [hn] at hl c1 hc hml ⊢
  clear hr hg hzs hf hn
  go_enter Try.func15, Try.ntmps15
  go_wp2_with fail
  refine (c1.out _ H.out).mono ?_
  rintro e w1 ⟨rfl, hb⟩
  have HB1 := Lib.hid hb
  clear hb
  have hsz := HB1.out.size
  cases g with
  | false =>
    have h2 : zs = [] := by rw [← HZ.out]; unfold scL; rw [HG.out]; rfl
    subst h2
    go_wp2
    go_ret2
    exact ⟨_, rfl, own_none w1 w.heap.size hsz, HB1.out.alloc hsz _⟩
  | true =>
    have hn8 := good_len HG.out
    rw [HN.out] at hn8
    have h2 := Lib.hid (show shL rs 21 = zs from by rw [← HZ.out]; unfold scL; rw [HG.out]; rfl)
    obtain ⟨G, hGq⟩ : ∃ G, w1.heap.size = G := ⟨_, rfl⟩
    have HB2 := Lib.hid (HB1.out.alloc hsz (.cells (Ar21.cs fun _ => 0) 70))
    have HA2 := Lib.hid (show Blk (w1.alloc (.cells (Ar21.cs fun _ => 0) 70)) G 70 (Ar21.cs fun _ => 0) from by rw [← hGq]; exact Blk.new w1 _ _)
    have hG0 : w.heap.size ≤ G := by omega
    have HGq := Lib.hid hGq
    have hG21 : G < (w1.alloc (.cells (Ar21.cs fun _ => 0) 70)).heap.size := HA2.out.lt
    clear hGq HB1 c1 hsz
    go_wp2_with fail
    try rw [HGq.out]
    go_loopw [16] (fun i wr => ∃ k : Nat, k ≤ n ∧ i = .int .i64 k ∧ Below w.heap.size w wr ∧ Blk wr G 70 (Ar21.cs fun j => (cnt (rs.take k) j : Int)) ∧ G < wr.heap.size) (fun i _ => n - (intOf i).toNat)
    case atStart => exact ⟨0, Nat.zero_le _, rfl, HB2.out, HA2.out, hG21⟩
    case round =>
      clear HB2 HA2 hG21
      obtain ⟨k, hk, rfl, hB, hA, hGs⟩ := hrel
      have HB := Lib.hid hB
      have HA := Lib.hid hA
      clear hB hA
      by_cases hlt : k < n
      · obtain ⟨b, off, rfl, c0, c1, c2, c3, c4, c5, c6, c7⟩ := (H.out.later HB.out).cells (i := k) (by rw [HN.out]; exact hlt)
        obtain ⟨y, hy⟩ : ∃ y, at_ rs k = y := ⟨_, rfl⟩
        have hco := ok_co (good_ok HG.out (i := k) (by rw [HN.out]; exact hlt))
        rw [hy] at c0 c1 c2 c3 c4 c5 c6 c7 hco
        obtain ⟨c, hc⟩ : ∃ c : Nat, y.co = (c : Int) := ⟨y.co.toNat, by omega⟩
        have HC := Lib.hid hc
        have hc1 : c < 21 := by omega
        have hc2 : (c : Int) < 21 := by omega
        have hc3 : (0 : Int) ≤ (c : Int) := by omega
        have HNX := Lib.hid (upd_cnt (rs := rs) (k := k) (c := c) (by rw [HN.out]; exact hlt) (by rw [hy]; exact hc))
        have hcl := cnt_le (rs.take k) c
        rw [KaA.take_len (by rw [HN.out]; omega)] at hcl
        obtain ⟨z, hz⟩ : ∃ z, cnt (rs.take k) c = z := ⟨_, rfl⟩
        rw [hz] at hcl
        have HB2 := Lib.hid (HB.out.alloc HB.out.size (.cells #[.int .i64 y.id, .string y.nm, .int .i64 y.lo, .int .i64 y.hi, .bool y.wo, .bool y.me, .int .i64 y.co, .int .i64 y.mo] 33))
        have HK2 := Lib.hid (Blk.new wr 33 #[.int .i64 y.id, .string y.nm, .int .i64 y.lo, .int .i64 y.hi, .bool y.wo, .bool y.me, .int .i64 y.co, .int .i64 y.mo])
        have HA2 := Lib.hid (HA.out.alloc (.cells #[.int .i64 y.id, .string y.nm, .int .i64 y.lo, .int .i64 y.hi, .bool y.wo, .bool y.me, .int .i64 y.co, .int .i64 y.mo] 33))
        have hGs2 : G < (wr.alloc (.cells #[.int .i64 y.id, .string y.nm, .int .i64 y.lo, .int .i64 y.hi, .bool y.wo, .bool y.me, .int .i64 y.co, .int .i64 y.mo] 33)).heap.size := by rw [World.size_alloc]; omega
        obtain ⟨x0, x1⟩ := Ar21.cell HA2.out hc1
        rw [hz] at x0
        have HZq := Lib.hid hz
        clear hy hc hco HB HA hz
        go_upto_region 7 with (fail)
        obtain ⟨⟨e0, e1, e2, e3, e4, e5, e6, e7⟩, -⟩ := blk_cells HK2.out
        generalize wr.alloc (.cells #[.int .i64 y.id, .string y.nm, .int .i64 y.lo, .int .i64 y.hi, .bool y.wo, .bool y.me, .int .i64 y.co, .int .i64 y.mo] 33) = wz at *
        rw [HC.out] at e6
        clear c0 c1 c2 c3 c4 c5 c6 c7
        have HP := Lib.hid (show Blk (wz.setCell ⟨G, c, none⟩ (.int .i64 ((z : Int) + 1))) G 70 (Ar21.cs fun j => (cnt (rs.take (k + 1)) j : Int)) from by
          have h := Ar21.put HA2.out c ((z : Int) + 1)
          rw [show ((z : Int) + 1) = (cnt (rs.take k) c : Int) + 1 from by rw [HZq.out], HNX.out] at h
          rw [show ((z : Int) + 1) = (cnt (rs.take k) c : Int) + 1 from by rw [HZq.out]]
          exact h)
        have HBp := Lib.hid (HB2.out.setCell (p := ⟨G, c, none⟩) hG0 (.int .i64 ((z : Int) + 1)))
        go_wp2
        go_roundw
        case rel => exact ⟨k + 1, by omega, by go_num, HBp.out, HP.out, by simpa using hGs2⟩
        case measure => simp [intOf]; omega
      · obtain rfl : k = n := by omega
        have HA1 := Lib.hid (show Blk wr G 70 (Ar21.cs fun j => (cnt rs j : Int)) from by
          have h := HA.out
          rwa [show rs.take k = rs from List.take_of_length_le (by rw [HN.out]; exact Nat.le_refl _)] at h)
        have hrg := Lib.hid (Ar21.range ((HA1.out).alloc (.cells #[] 3)))
        have HS1 := Lib.hid (show IntK.Gr w (.slice (some ⟨wr.heap.size, 0, none⟩) 0 0) [] (wr.alloc (.cells #[] 3)) from ⟨HB.out.alloc HB.out.size _, own_none wr w.heap.size HB.out.size⟩)
        obtain ⟨c, hcq⟩ : ∃ c : Nat → Int, (fun j => (cnt rs j : Int)) = c := ⟨_, rfl⟩
        rw [hcq] at hrg
        have hcc := Lib.hid (fun j => congrFun hcq j)
        clear HA HB hcq
        go_upto_region 10 with (fail)
        apply wp_region_lit
        refine wpList_load_mid rfl 70 (.tmp 4) rfl G 0 rfl (Ar21.ls c) _ hrg.out Try.underlying70 rfl (by rw [Ar21.ls_len]; exact Ar21.info) ?_
        rw [show (Ar21.ls c).toArray = Ar21.cs c from rfl]
        clear hrg
        go_wp2_with fail
        go_loopg [29, 7] 21 (fun gk i v wq => ∃ q : Nat, q ≤ 21 ∧ gk = 21 - q ∧ i = .int .i64 q ∧ IntK.Gr w v (shL rs q) wq)
        case atStart => exact ⟨0, by omega, rfl, rfl, HS1.out⟩
        case round =>
          clear HS1
          obtain ⟨q, hq, hgk, rfl, hS⟩ := hrel
          have HS := Lib.hid hS
          clear hS
          by_cases hlt2 : q < 21
          · obtain ⟨m, hm⟩ : ∃ m, cnt rs q = m := ⟨_, rfl⟩
            have hmc : c q = (m : Int) := by rw [← hm]; exact (hcc.out q).symm
            have hix : ∀ W, (Instr.index 70 (.agg (Ar21.cs c)) (.int .i64 q)).run Try.prog W = .ok (.int .i64 m) W := fun W => by rw [← hmc]; exact Ar21.index c q hlt2 W
            have hm2 := cnt_le rs q
            rw [HN.out, hm] at hm2
            have hsl := sh_len rs q
            obtain ⟨fl, hfl⟩ : ∃ x, (shL rs q).length = x := ⟨_, rfl⟩
            rw [hfl] at hsl
            have HM := Lib.hid hfl
            have HMq := Lib.hid hm
            clear hmc hfl hm
            by_cases h2m : 2 ≤ m
            · have HTk := Lib.hid (sh_yes (rs := rs) (k := q) (by rw [HMq.out]; exact h2m))
              have hown := HS.out.own.below ((Below.refl _ _).alloc (Nat.le_refl _) (.cells #[.int .i64 q] 3))
              unfold OwnI at hown
              rw [HM.out] at hown
              have HTa := Lib.hid (HS.out.alloc (.cells #[.int .i64 q] 3))
              have hsz := HS.out.b.size
              go_wp2_with (at_builtin; (refine wpList_append_own _ rfl (.tmp 35) (.tmp 37) 28 rfl w.heap.size 3 t0 (.int .i64 0) 1 8 Try.underlying28 hi0 hz0 hz1 hz2 rfl (by decide) _ fl _ rfl hown ⟨_, 0, none⟩ 1 1 [.int .i64 q] rfl rfl (cell_one_new _ _ _) (by simp [Value.oneCell']) (by unfold maxLen; omega) (by omega) (by simp; omega) ?_; intro v' w3 hown3 hgr3 _; have HP3 := Lib.hid (HTa.out.put HM.out hgr3 hown3); clear hown3 hgr3))
              go_roundg (21 - (q + 1))
              case measure => omega
              case rel => exact ⟨q + 1, by omega, rfl, by go_num, by rw [HTk.out]; exact HP3.out⟩
            · have HTk := Lib.hid (sh_no (rs := rs) (k := q) (by rw [HMq.out]; exact h2m))
              go_wp2
              go_roundg (21 - (q + 1))
              case measure => omega
              case rel => exact ⟨q + 1, by omega, rfl, by go_num, by rw [HTk.out]; exact HS.out⟩
          · obtain rfl : q = 21 := by omega
            have HQ := Lib.hid (show IntK.Gr w u7 zs wr from by have h := HS.out; rwa [h2.out] at h)
            go_wp2_with fail
            go_ret2
            exact ⟨_, rfl, HQ.out.own, HQ.out.b⟩

set_option maxRecDepth 20000 in
set_option maxHeartbeats 4000000 in
theorem sc_spec (rs : List Kl) (hf : ∀ i, i < rs.length → KlK.Is (at_ rs i)) (hl : rs.length ≤ 1048576) (a : Option Addr) (cap : Nat) (w : World) (hr : Row w a rs) :
    Calls Try.prog 16 #[.slice a rs.length cap] w (NPost w (scL rs) (goodB rs)) := by
  obtain ⟨t0, hi0, hz0, hz1, hz2⟩ := info_parts iInfo
  have H := Lib.hid hr
  have hml : rs.length ≤ maxLen := by unfold maxLen; omega
  obtain ⟨g, hg⟩ : ∃ g, goodB rs = g := ⟨_, rfl⟩
  have c1 := Lib.hid (fun w hr => hg ▸ good_any a cap rs w hr hf hml)
  have HG := Lib.hid hg
  obtain ⟨zs, hzs⟩ : ∃ zs, scL rs = zs := ⟨_, rfl⟩
  have HZ := Lib.hid hzs
  rw [hg, hzs]
  obtain ⟨n, hn⟩ : ∃ n, rs.length = n := ⟨_, rfl⟩
  have HN := Lib.hid hn
  rw [hn] at hl c1 hml ⊢
  have HS0 := Lib.hid (IntK.Gr.start w)
  clear hr hg hzs hf hn
  go_enter Try.func16, Try.ntmps16
  go_wp2_with fail
  refine (c1.out _ (H.out.later HS0.out.b)).mono ?_
  rintro e w1 ⟨rfl, hb⟩
  have HS1 := Lib.hid (HS0.out.below hb)
  clear hb HS0
  cases g with
  | false =>
    have h2 : zs = [] := by rw [← HZ.out]; unfold scL; rw [HG.out]; rfl
    subst h2
    go_wp2
    go_ret2
    exact ⟨_, rfl, HS1.out.own, HS1.out.b⟩
  | true =>
    have hn8 := good_len HG.out
    rw [HN.out] at hn8
    have h2 := Lib.hid (show shL rs 21 = zs from by rw [← HZ.out]; unfold scL; rw [HG.out]; rfl)
    have h10 := Lib.hid (show shL rs 1 = [] from by rw [sh_no (k := 0) (by rw [cnt_zero HG.out]; omega)]; rfl)
    go_wp2_with fail
    go_loopg [5, 4, 6, 7] 21 (fun gk i v _ _ wq => ∃ q : Nat, 1 ≤ q ∧ q ≤ 21 ∧ gk = 22 - q ∧ i = .int .i64 q ∧ IntK.Gr w v (shL rs q) wq)
    case atStart => exact ⟨1, by omega, by omega, rfl, rfl, by rw [h10.out]; exact HS1.out⟩
    case round =>
      clear HS1
      obtain ⟨q, hq1, hq, hgk, rfl, hS⟩ := hrel
      have HS := Lib.hid hS
      clear hS
      by_cases hlt2 : q < 21
      · have hq20 : (q : Int) ≤ 20 := by omega
        go_wp2_with fail
        go_loop [7, 6] (fun i z => ∃ k : Nat, k ≤ n ∧ i = .int .i64 k ∧ z = .int .i64 (cnt (rs.take k) q)) (fun i _ => n - (intOf i).toNat)
        case atStart => exact ⟨0, Nat.zero_le _, rfl, rfl⟩
        case round =>
          obtain ⟨k, hk, rfl, rfl⟩ := hrel
          by_cases hlt : k < n
          · obtain ⟨b, off, rfl, -, -, -, -, -, -, c6, -⟩ := (H.out.later HS.out.b).cells (i := k) (by rw [HN.out]; exact hlt)
            obtain ⟨y, hy⟩ : ∃ y, (at_ rs k).co = y := ⟨_, rfl⟩
            rw [hy] at c6
            have HT := Lib.hid (cnt_take (rs := rs) (k := k) (by rw [HN.out]; exact hlt) q)
            have hcl := cnt_le (rs.take k) q
            rw [KaA.take_len (by rw [HN.out]; omega)] at hcl
            obtain ⟨z, hz⟩ : ∃ z, cnt (rs.take k) q = z := ⟨_, rfl⟩
            rw [hz] at hcl HT ⊢
            rw [hy] at HT
            have hk0 : (0 : Int) ≤ (k : Int) := by omega
            have hk1 : (k : Int) < (n : Int) := by omega
            clear hy hz
            by_cases hyq : y = (q : Int)
            · have hd : (y == (q : Int)) = true := by simpa using hyq
              have HT2 := Lib.hid (show cnt (rs.take (k + 1)) q = z + 1 from by rw [HT.out, if_pos hyq])
              clear hyq
              go_wp2
              go_round
              case rel => exact ⟨k + 1, by omega, by go_num, by rw [HT2.out]; go_num⟩
              case measure => simp [intOf]; omega
            · have hd : (y == (q : Int)) = false := by simpa using hyq
              have HT2 := Lib.hid (show cnt (rs.take (k + 1)) q = z from by rw [HT.out, if_neg hyq]; rfl)
              clear hyq
              go_wp2
              go_round
              case rel => exact ⟨k + 1, by omega, by go_num, by rw [HT2.out]⟩
              case measure => simp [intOf]; omega
          · obtain rfl : k = n := by omega
            have e : rs.take k = rs := List.take_of_length_le (by rw [HN.out]; exact Nat.le_refl _)
            rw [e]
            clear e
            have hm2 := cnt_le rs q
            obtain ⟨m, hm⟩ : ∃ m, cnt rs q = m := ⟨_, rfl⟩
            rw [HN.out, hm] at hm2
            rw [hm]
            have hsl := sh_len rs q
            obtain ⟨fl, hfl⟩ : ∃ x, (shL rs q).length = x := ⟨_, rfl⟩
            rw [hfl] at hsl
            have HM := Lib.hid hfl
            have HMq := Lib.hid hm
            clear hfl hm
            by_cases h2m : 2 ≤ m
            · have HTk := Lib.hid (sh_yes (rs := rs) (k := q) (by rw [HMq.out]; exact h2m))
              have hown := HS.out.own.below ((Below.refl _ _).alloc (Nat.le_refl _) (.cells #[.int .i64 q] 3))
              unfold OwnI at hown
              rw [HM.out] at hown
              have HTa := Lib.hid (HS.out.alloc (.cells #[.int .i64 q] 3))
              have hsz := HS.out.b.size
              go_wp2_with (at_builtin; (refine wpList_append_own _ rfl (.tmp 34) (.tmp 36) 28 rfl w.heap.size 3 t0 (.int .i64 0) 1 8 Try.underlying28 hi0 hz0 hz1 hz2 rfl (by decide) _ fl _ rfl hown ⟨_, 0, none⟩ 1 1 [.int .i64 q] rfl rfl (cell_one_new _ _ _) (by simp [Value.oneCell']) (by unfold maxLen; omega) (by omega) (by simp; omega) ?_; intro v' w3 hown3 hgr3 _; have HP3 := Lib.hid (HTa.out.put HM.out hgr3 hown3); clear hown3 hgr3))
              go_roundg (22 - (q + 1))
              case measure => omega
              case rel => exact ⟨q + 1, by omega, by omega, rfl, by go_num, by rw [HTk.out]; exact HP3.out⟩
            · have HTk := Lib.hid (sh_no (rs := rs) (k := q) (by rw [HMq.out]; exact h2m))
              go_wp2
              go_roundg (22 - (q + 1))
              case measure => omega
              case rel => exact ⟨q + 1, by omega, by omega, rfl, by go_num, by rw [HTk.out]; exact HS.out⟩
      · obtain rfl : q = 21 := by omega
        have HQ := Lib.hid (show IntK.Gr w u4 zs wr from by have h := HS.out; rwa [h2.out] at h)
        go_wp2_with fail
        go_ret2
        exact ⟨_, rfl, HQ.out.own, HQ.out.b⟩

theorem both (rs : List Kl) (hf : ∀ i, i < rs.length → KlK.Is (at_ rs i)) (hl : rs.length ≤ 1048576) : ∃ (zs : List Int) (ok : Bool), zs.length ≤ 1048576 ∧
    (∀ a cap w, rs.length ≤ cap → Row w a rs → Calls Try.prog 16 #[.slice a rs.length cap] w fun e w' => ∃ v, e = .returned (.tuple #[v, .bool ok]) ∧ IntK.Own w' w.heap.size v zs ∧ Below w.heap.size w w') ∧
    (∀ a cap w, rs.length ≤ cap → Row w a rs → Calls Try.prog 15 #[.slice a rs.length cap] w fun e w' => ∃ v, e = .returned (.tuple #[v, .bool ok]) ∧ IntK.Own w' w.heap.size v zs ∧ Below w.heap.size w w') :=
  ⟨scL rs, goodB rs, by have := sc_len rs; omega, fun a cap w _ hr => sc_spec rs hf hl a cap w hr, fun a cap w hc hr => sc_impl rs hf hl a cap w hc hr⟩
end Go.Proofs.Ytleoljnofdajfaa.KaS

namespace Go.Proofs.Ytleoljnofdajfaa.KaO
open Go.RowKit Lb Bk KlK KlI KaA KaG
set_option linter.unusedSimpArgs false
set_option linter.unusedVariables false

/-- The first Class with an Id. -/
def fcl (rs : List Kl) (x : Int) : Option Kl := rs.find? (fun r => r.id == x)
theorem fcl_at {rs : List Kl} {x : Int} {k : Nat} (hk : k < rs.length) (h : ∀ j, j < k → (at_ rs j).id ≠ x) (h1 : (at_ rs k).id = x) : fcl rs x = some (at_ rs k) := find_at hk (fun j hj => by simpa using h j hj) (by simpa using h1)
theorem fcl_no {rs : List Kl} {x : Int} (h : ∀ j, j < rs.length → (at_ rs j).id ≠ x) : fcl rs x = none := find_no fun j hj => by simpa using h j hj
/-- What CourseOf answers. -/
def coB (rs : List Kl) (x : Int) : Bool := goodB rs && (fcl rs x).isSome
def coZ (rs : List Kl) (x : Int) : Int := if goodB rs then ((fcl rs x).getD no).co else 0
theorem co_bad {rs : List Kl} {x : Int} (h : goodB rs = false) : coB rs x = false ∧ coZ rs x = 0 := by
  unfold coB coZ
  rw [h]
  exact ⟨rfl, rfl⟩
theorem co_no {rs : List Kl} {x : Int} (h : ∀ j, j < rs.length → (at_ rs j).id ≠ x) : coB rs x = false ∧ coZ rs x = 0 := by
  unfold coB coZ
  rw [fcl_no h]
  exact ⟨by simp, by split <;> rfl⟩
theorem co_at {rs : List Kl} {x : Int} {k : Nat} (hg : goodB rs = true) (hk : k < rs.length) (h : ∀ j, j < k → (at_ rs j).id ≠ x) (h1 : (at_ rs k).id = x) : coB rs x = true ∧ coZ rs x = (at_ rs k).co := by
  unfold coB coZ
  rw [fcl_at hk h h1, hg]
  exact ⟨rfl, rfl⟩
def ZPost (w : World) (z : Int) (ok : Bool) (e : Ending) (w' : World) : Prop := e = .returned (.tuple #[.int .i64 z, .bool ok]) ∧ Below w.heap.size w w'

set_option maxRecDepth 20000 in
set_option maxHeartbeats 2000000 in
theorem impl_any (rs : List Kl) (hf : ∀ i, i < rs.length → Is (at_ rs i)) (hl : rs.length ≤ 1048576) (x : Int) (a : Option Addr) (cap : Nat) (w : World) (hc : rs.length ≤ cap) (hr : Row w a rs) :
    Calls Try.prog 19 #[.slice a rs.length cap, .int .i64 x] w (ZPost w (coZ rs x) (coB rs x)) := by
  have HR := Lib.hid hr
  have hml : rs.length ≤ maxLen := by unfold maxLen; omega
  obtain ⟨g, hg⟩ : ∃ g, goodB rs = g := ⟨_, rfl⟩
  have c1 := Lib.hid (fun w hr => hg ▸ KaA.impl_any a cap rs w hc hr hf hml)
  have HG := Lib.hid hg
  obtain ⟨ok, hok⟩ : ∃ o, coB rs x = o := ⟨_, rfl⟩
  obtain ⟨z, hz⟩ : ∃ z, coZ rs x = z := ⟨_, rfl⟩
  have HO := Lib.hid hok
  have HZ := Lib.hid hz
  rw [hok, hz]
  obtain ⟨n, hn⟩ : ∃ n, rs.length = n := ⟨_, rfl⟩
  have HN := Lib.hid hn
  rw [hn] at hl hml c1 hc ⊢
  clear hr hg hok hz hn hf
  go_enter Try.func19, Try.ntmps19
  go_wp2_with fail
  refine (c1.out _ HR.out).mono ?_
  rintro e w1 ⟨rfl, hb⟩
  have HB1 := Lib.hid hb
  clear hb
  cases g with
  | false =>
    obtain ⟨h1, h2⟩ := co_bad (x := x) HG.out
    rw [HO.out] at h1
    rw [HZ.out] at h2
    subst h1 h2
    go_wp2
    go_ret2
    exact ⟨rfl, HB1.out⟩
  | true =>
    go_wp2
    go_loopw [13] (fun i wr => ∃ k : Nat, k ≤ n ∧ i = .int .i64 k ∧ (∀ j, j < k → (at_ rs j).id ≠ x) ∧ Below w.heap.size w wr) (fun i _ => n - (intOf i).toNat)
    case atStart => exact ⟨0, Nat.zero_le _, rfl, (fun j hj => absurd hj (Nat.not_lt_zero _)), HB1.out⟩
    case round =>
      clear HB1
      obtain ⟨k, hk, rfl, hall, hB⟩ := hrel
      have HA := Lib.hid hall
      have HB := Lib.hid hB
      clear hall hB
      by_cases hlt : k < n
      · obtain ⟨b1, off, rfl, c0, c1, c2, c3, c4, c5, c6, c7⟩ := (HR.out.later HB.out).cells (i := k) (by rw [HN.out]; exact hlt)
        obtain ⟨y, hy⟩ : ∃ y, at_ rs k = y := ⟨_, rfl⟩
        rw [hy] at c0 c1 c2 c3 c4 c5 c6 c7
        have HY := Lib.hid hy
        clear hy
        have HB2 := Lib.hid (HB.out.alloc HB.out.size (.cells #[.int .i64 y.id, .string y.nm, .int .i64 y.lo, .int .i64 y.hi, .bool y.wo, .bool y.me, .int .i64 y.co, .int .i64 y.mo] 33))
        by_cases hq : y.id = x
        · obtain ⟨h1, h2⟩ := co_at HG.out (by rw [HN.out]; exact hlt) HA.out (by rw [HY.out]; exact hq)
          rw [HO.out] at h1
          rw [HZ.out, HY.out] at h2
          have hd : (y.id == x) = true := by simpa using hq
          subst h1 h2
          clear hq
          go_wp2
          go_ret2
          exact ⟨rfl, HB2.out⟩
        · have hp := Lib.hid (show (at_ rs k).id ≠ x from by rw [HY.out]; exact hq)
          have hd : (y.id == x) = false := by simpa using hq
          clear hq
          go_wp2
          go_roundw
          case rel => exact ⟨k + 1, by omega, by go_num, all_succ (p := fun j => (at_ rs j).id ≠ x) HA.out hp.out, HB2.out⟩
          case measure => simp [intOf]; omega
      · obtain rfl : k = n := by omega
        obtain ⟨h1, h2⟩ := co_no (rs := rs) (x := x) (by rw [HN.out]; exact HA.out)
        rw [HO.out] at h1
        rw [HZ.out] at h2
        subst h1 h2
        go_wp2
        go_ret2
        exact ⟨rfl, HB.out⟩

set_option maxRecDepth 20000 in
set_option maxHeartbeats 2000000 in
theorem spec_any (rs : List Kl) (hf : ∀ i, i < rs.length → Is (at_ rs i)) (hl : rs.length ≤ 1048576) (x : Int) (a : Option Addr) (cap : Nat) (w : World) (hr : Row w a rs) :
    Calls Try.prog 20 #[.slice a rs.length cap, .int .i64 x] w (ZPost w (coZ rs x) (coB rs x)) := by
  have HR := Lib.hid hr
  have hml : rs.length ≤ maxLen := by unfold maxLen; omega
  obtain ⟨g, hg⟩ : ∃ g, goodB rs = g := ⟨_, rfl⟩
  have c1 := Lib.hid (fun w hr => hg ▸ good_any a cap rs w hr hf hml)
  have HG := Lib.hid hg
  obtain ⟨ok, hok⟩ : ∃ o, coB rs x = o := ⟨_, rfl⟩
  obtain ⟨z, hz⟩ : ∃ z, coZ rs x = z := ⟨_, rfl⟩
  have HO := Lib.hid hok
  have HZ := Lib.hid hz
  rw [hok, hz]
  obtain ⟨n, hn⟩ : ∃ n, rs.length = n := ⟨_, rfl⟩
  have HN := Lib.hid hn
  rw [hn] at hl hml c1 ⊢
  clear hr hg hok hz hn hf
  go_enter Try.func20, Try.ntmps20
  go_wp2_with fail
  refine (c1.out _ HR.out).mono ?_
  rintro e w1 ⟨rfl, hb⟩
  have HB1 := Lib.hid hb
  clear hb
  cases g with
  | false =>
    obtain ⟨h1, h2⟩ := co_bad (x := x) HG.out
    rw [HO.out] at h1
    rw [HZ.out] at h2
    subst h1 h2
    go_wp2
    go_ret2
    exact ⟨rfl, HB1.out⟩
  | true =>
    go_wp2
    go_loopw [6] (fun i wr => ∃ k : Nat, k ≤ n ∧ i = .int .i64 k ∧ (∀ j, j < k → (at_ rs j).id ≠ x) ∧ Below w.heap.size w wr) (fun i _ => n - (intOf i).toNat)
    case atStart => exact ⟨0, Nat.zero_le _, rfl, (fun j hj => absurd hj (Nat.not_lt_zero _)), HB1.out⟩
    case round =>
      clear HB1
      obtain ⟨k, hk, rfl, hall, hB⟩ := hrel
      have HA := Lib.hid hall
      have HB := Lib.hid hB
      clear hall hB
      by_cases hlt : k < n
      · obtain ⟨b1, off, rfl, c0, c1, c2, c3, c4, c5, c6, c7⟩ := (HR.out.later HB.out).cells (i := k) (by rw [HN.out]; exact hlt)
        obtain ⟨y, hy⟩ : ∃ y, at_ rs k = y := ⟨_, rfl⟩
        rw [hy] at c0 c1 c2 c3 c4 c5 c6 c7
        have HY := Lib.hid hy
        clear hy
        by_cases hq : y.id = x
        · obtain ⟨h1, h2⟩ := co_at HG.out (by rw [HN.out]; exact hlt) HA.out (by rw [HY.out]; exact hq)
          rw [HO.out] at h1
          rw [HZ.out, HY.out] at h2
          have hd : (y.id == x) = true := by simpa using hq
          subst h1 h2
          clear hq
          go_wp2
          go_ret2
          exact ⟨rfl, HB.out⟩
        · have hp := Lib.hid (show (at_ rs k).id ≠ x from by rw [HY.out]; exact hq)
          have hd : (y.id == x) = false := by simpa using hq
          clear hq
          go_wp2
          go_roundw
          case rel => exact ⟨k + 1, by omega, by go_num, all_succ (p := fun j => (at_ rs j).id ≠ x) HA.out hp.out, HB.out⟩
          case measure => simp [intOf]; omega
      · obtain rfl : k = n := by omega
        obtain ⟨h1, h2⟩ := co_no (rs := rs) (x := x) (by rw [HN.out]; exact HA.out)
        rw [HO.out] at h1
        rw [HZ.out] at h2
        subst h1 h2
        go_wp2
        go_ret2
        exact ⟨rfl, HB.out⟩

theorem both (rs : List Kl) (hf : ∀ i, i < rs.length → Is (at_ rs i)) (hl : rs.length ≤ 1048576) (x : Int) (_ : (Lit.int IntKind.i64 x).wf = true) : ∃ (z : Int) (ok : Bool),
    (∀ a cap w, rs.length ≤ cap → Row w a rs → Calls Try.prog 20 #[.slice a rs.length cap, .int .i64 x] w fun e w' => e = .returned (.tuple #[.int .i64 z, .bool ok]) ∧ Below w.heap.size w w') ∧
    (∀ a cap w, rs.length ≤ cap → Row w a rs → Calls Try.prog 19 #[.slice a rs.length cap, .int .i64 x] w fun e w' => e = .returned (.tuple #[.int .i64 z, .bool ok]) ∧ Below w.heap.size w w') :=
  ⟨coZ rs x, coB rs x, fun a cap w _ hr => spec_any rs hf hl x a cap w hr, fun a cap w hc hr => impl_any rs hf hl x a cap w hc hr⟩
end Go.Proofs.Ytleoljnofdajfaa.KaO

namespace Go.Proofs.Ytleoljnofdajfaa.StrK
open Go.RowKit Lb Mrk Bk
set_option linter.unusedVariables false

def Row (w : World) (a : Option Addr) (rs : List ByteArray) : Prop := StrRow w a rs
def Own (w : World) (base : Nat) (v : Value) (rs : List ByteArray) : Prop := w.ownsRow base 9 1 v rs.length (rs.map Value.string)
theorem Row.later {w w' : World} {a : Option Addr} {rs : List ByteArray} (H : Row w a rs) (hb : Below w.heap.size w w') : Row w' a rs := RowAt.below H hb
theorem Row.drew {w : World} {a : Option Addr} {rs : List ByteArray} (H : Row w a rs) : Row w.drew a rs := H
theorem Row.beside {w w' : World} {a : Option Addr} {rs : List ByteArray} (H : Row w a rs) {r : Option Nat} (hg : w.grownBy w' r) (hr : ∀ x, a = some x → r ≠ some x.block) : Row w' a rs := by
  rcases H with h | ⟨b, o, rfl, hc⟩
  · exact .inl h
  · exact RowAt.grown (.inr ⟨b, o, rfl, hc⟩) hg (hr _ rfl)
theorem Own.slice {w : World} {base : Nat} {v : Value} {rs : List ByteArray} (h : Own w base v rs) :
    ∃ a cap, v = .slice a rs.length cap ∧ Row w a rs ∧ ∀ x, a = some x → base ≤ x.block ∧ x.block < w.heap.size := by
  have h' := h
  unfold Own at h
  rcases h.2 with ⟨rfl, h0⟩ | ⟨g, cap, cur, rfl, hb, _⟩
  · exact ⟨none, 0, by rw [h0], .inl h0, fun x e => by cases e⟩
  · refine ⟨some ⟨g, 0, none⟩, cap, rfl, (RowAt.of_owns h).congr fun k hk => ?_, fun x e => ?_⟩
    · simp [sAt, hk]
    · cases e; exact h.lt g rfl
theorem Own.row {w : World} {base cap : Nat} {a : Option Addr} {rs : List ByteArray} (h : Own w base (.slice a rs.length cap) rs) : Row w a rs := by
  obtain ⟨a', c', e, hr, _⟩ := h.slice
  cases e; exact hr
theorem Own.le {w : World} {base n cap : Nat} {a : Option Addr} {rs : List ByteArray} (h : Own w base (.slice a n cap) rs) : rs.length ≤ cap := by
  unfold Own at h
  rcases h.2 with ⟨h1, h0⟩ | ⟨g', c', cur, hv, _, _, h3, _⟩
  · omega
  · obtain ⟨-, -, rfl⟩ := Value.slice.inj hv
    omega
theorem Own.below {w w' : World} {base : Nat} {v : Value} {rs : List ByteArray} (h : Own w base v rs) (hb : Below w.heap.size w w') : Own w' base v rs := Bk.owns_below h hb
theorem Own.drew {w : World} {base : Nat} {v : Value} {rs : List ByteArray} (h : Own w base v rs) : Own w.drew base v rs := h.below (Below.refl _ _).drew
def mkL (k n : Nat) : List ByteArray := (List.range n).map fun j => markOf (k + j)
theorem mkL_len (k n : Nat) : (mkL k n).length = n := by simp [mkL]
end Go.Proofs.Ytleoljnofdajfaa.StrK

namespace Go.Proofs.Ytleoljnofdajfaa.SamH
open Go.RowKit Lb Bk
set_option linter.unusedSimpArgs false
set_option linter.unusedVariables false

set_option maxHeartbeats 1000000 in
theorem ints_same (a b : Option Addr) (cap cap' n : Nat) (zs : List Int) (w : World) (hn : zs.length = n) (hr : IntRow w a zs) (hr' : IntRow w b zs) (hl : n ≤ 1048576) :
    Calls Try.prog 8 #[.slice a n cap, .slice b n cap'] w fun e w' => e = .returned (.bool true) ∧ Below w.heap.size w w' := by
  go_enter Try.func8, Try.ntmps8
  go_wp2
  go_loopw [5] (fun i wr => ∃ k : Nat, k ≤ n ∧ i = .int .i64 k ∧ Still w wr) (fun i _ => n - (intOf i).toNat)
  case atStart => exact ⟨0, Nat.zero_le _, rfl, Still.refl _⟩
  case round =>
    obtain ⟨k, hk, rfl, hst⟩ := hrel
    obtain ⟨q, rfl⟩ := hst
    by_cases hlt : k < n
    · rcases hr with hr | ⟨b1, off1, rfl, hc1⟩
      · omega
      rcases hr' with hr' | ⟨b2, off2, rfl, hc2⟩
      · omega
      obtain ⟨z, hz⟩ : ∃ z : Int, zs.getD k 0 = z := ⟨_, rfl⟩
      have g1 : w.cell? ⟨b1, off1 + k, none⟩ = some (.int .i64 z) := by rw [← hz]; exact hc1 k (by omega)
      have g2 : w.cell? ⟨b2, off2 + k, none⟩ = some (.int .i64 z) := by rw [← hz]; exact hc2 k (by omega)
      clear hc1 hc2 hz
      go_wp2
      go_quiet (fail)
      go_wp2
      go_roundw
      case rel => exact ⟨k + 1, by omega, by go_num, ⟨_, rfl⟩⟩
      case measure => simp [intOf]; omega
    · go_wp2
      go_ret
      exact ⟨rfl, Still.below ⟨_, rfl⟩ _⟩

theorem int_row {w : World} {base : Nat} {v : Value} {zs : List Int} (h : IntK.Own w base v zs) : ∃ a cap, v = .slice a zs.length cap ∧ IntRow w a zs := by
  have h' : w.ownsRow base 3 1 v zs.length (zs.map (Value.int .i64)) := h
  rcases h'.2 with ⟨rfl, h0⟩ | ⟨g, cap, cur, rfl, hb, _⟩
  · exact ⟨none, 0, by rw [h0], .inl h0⟩
  · refine ⟨some ⟨g, 0, none⟩, cap, rfl, .inr ⟨g, 0, rfl, fun k hk => ?_⟩⟩
    rw [Nat.zero_add, World.ownsRow.cellAt h' k (by omega)]
    simp [hk]
theorem IntRow.later {w w' : World} {a : Option Addr} {zs : List Int} (h : IntRow w a zs) (hb : Below w.heap.size w w') : IntRow w' a zs := RowAt.below h hb
end Go.Proofs.Ytleoljnofdajfaa.SamH

namespace Go.Proofs.Ytleoljnofdajfaa.TabH
open Go.RowKit Lb Bk IntS TblS
set_option linter.unusedSimpArgs false
set_option linter.unusedVariables false

theorem int_row {w : World} {a : Option Addr} {zs : List Int} (h : IRow w a zs) : IntRow w a zs := by
  rcases h with h | ⟨b, off, e, hc⟩
  · exact .inl h
  · exact .inr ⟨b, off, e, hc⟩
set_option maxHeartbeats 1000000 in
theorem tab_same (a b : Option Addr) (cap cap' n : Nat) (zs : Nat → List Int) (w : World) (hr : Rd w a n zs) (hr' : Rd w b n zs) (hl : n ≤ maxLen) (hz : ∀ i, i < n → (zs i).length ≤ 1048576) :
    Calls Try.prog 13 #[.slice a n cap, .slice b n cap'] w fun e w' => e = .returned (.bool true) ∧ Below w.heap.size w w' := by
  unfold maxLen at hl
  have H := Lib.hid hr
  have H' := Lib.hid hr'
  clear hr hr'
  go_enter Try.func13, Try.ntmps13
  go_wp2
  go_loopg [5] n (fun q ii wr => ∃ i : Nat, i ≤ n ∧ q = n - i ∧ ii = .int .i64 i ∧ Below w.heap.size w wr)
  case atStart => exact ⟨0, Nat.zero_le _, rfl, rfl, Below.refl _ _⟩
  case round =>
    obtain ⟨i, hi, hq, rfl, hg⟩ := hrel
    have HG := Lib.hid hg
    clear hg
    by_cases hlt : i < n
    · obtain ⟨rs, hr1, hr2⟩ := H.out.below HG.out
      obtain ⟨rs', hr1', hr2'⟩ := H'.out.below HG.out
      rcases hr1 with h0 | ⟨b1, off1, rfl, hc1⟩
      · omega
      rcases hr1' with h0 | ⟨b2, off2, rfl, hc2⟩
      · omega
      obtain ⟨a1, k1, e1, h1⟩ := hr2 i hlt
      obtain ⟨a2, k2, e2, h2⟩ := hr2' i hlt
      have g1 := hc1 i hlt
      have g2 := hc2 i hlt
      rw [e1] at g1
      rw [e2] at g2
      have H1 := Lib.hid (show IRow wr.drew a1 (zs i) from h1)
      have H2 := Lib.hid (show IRow wr.drew a2 (zs i) from h2)
      have HD := Lib.hid (show Below w.heap.size w wr.drew from HG.out.drew)
      have HZ := Lib.hid (hz i hlt)
      clear hc1 hc2 hr2 hr2' e1 e2 h1 h2
      go_wp2_with fail
      go_region_with (go_at_call 8; refine (SamH.ints_same a1 a2 k1 k2 _ (zs i) _ rfl (int_row H1.out) (int_row H2.out) HZ.out).mono ?_; rintro e w2 ⟨rfl, hb2⟩; have HB2 := Lib.hid (HD.out.trans (hb2.mono HD.out.size)); clear hb2)
      all_goals go_wp2
      all_goals go_roundg (n - (i + 1))
      all_goals first | omega | exact ⟨i + 1, by omega, rfl, by go_num, HB2.out⟩
    · obtain rfl : i = n := by omega
      go_wp2
      go_ret
      exact ⟨rfl, HG.out⟩
end Go.Proofs.Ytleoljnofdajfaa.TabH

namespace Go.Proofs.Ytleoljnofdajfaa.FclW
open Go.RowKit Lb Bk IntS TblS CodB KlI KaA KaD KaL KaT KaW FclM
open KlK (at_ at_lt)
open KaF (NPost)
set_option linter.unusedSimpArgs false
set_option linter.unusedVariables false

section
variable {w wx w' W : World}
theorem nxt (h : Below W.heap.size W w) (hb : Below w.heap.size w w') : Below W.heap.size W w' := h.trans (hb.mono h.size)
theorem row_at {rb ro : Nat} {zs : List Int} (h : IRow w (some ⟨rb, ro, none⟩) zs) {j : Nat} (hj : j < zs.length) : w.cell? ⟨rb, ro + j, none⟩ = some (.int .i64 (zAt zs j)) := by
  rcases h with h | ⟨b, off, e, hc⟩
  · omega
  · cases e
    exact hc j hj
theorem row_ad {a : Option Addr} {zs : List Int} (h : IRow w a zs) (hp : 0 < zs.length) : ∃ rb ro, a = some ⟨rb, ro, none⟩ := by
  rcases h with h | ⟨b, off, e, hc⟩
  · omega
  · exact ⟨b, off, e⟩
theorem cn_take {zs : List Int} {j : Nat} (hj : j < zs.length) (x : Int) : cn (zs.take (j + 1)) x = cn (zs.take j) x + if zAt zs j = x then 1 else 0 := by
  rw [List.take_succ_eq_append_getElem hj, cn_snoc]
  have e : zAt zs j = zs[j] := by unfold zAt; rw [List.getD_eq_getElem?_getD, List.getElem?_eq_getElem hj]; rfl
  rw [e]
theorem us_ok {us : List Ru} (h : RuA.goodB us = true) {j : Nat} (hj : j < us.length) : RuI.okR (RuK.at_ us j) = true := ((of_decide_eq_true h : RuA.GoodP us).2 j hj).1
/-- What stands while the filling is looked at. -/
structure St (W : World) (fa : Option Addr) (fs : List Kl) (ra : Option Addr) (rs : List Ru) (za : Option Addr) (zs : List Int) (wr : World) : Prop where
  B : Below W.heap.size W wr
  F : KlK.Row wr fa fs
  U : RuK.Row wr ra rs
  Z : IRow wr za zs
theorem St.later {fa ra za : Option Addr} {fs : List Kl} {rs : List Ru} {zs : List Int} (h : St W fa fs ra rs za zs w) (hb : Below w.heap.size w w') : St W fa fs ra rs za zs w' :=
  ⟨nxt h.B hb, KlK.Row.later h.F hb, RuK.Row.later h.U hb, RowAt.below h.Z hb⟩
/-- .. and the spans. -/
structure Sa (W : World) (la : Option Addr) (ls : List Kl) (ta : Option Addr) (L : List (Nat × Nat)) (wr : World) : Prop where
  B : Below W.heap.size W wr
  F : KlK.Row wr la ls
  T : Rd wr ta L.length (zsP L)
theorem Sa.later {la ta : Option Addr} {ls : List Kl} {L : List (Nat × Nat)} (h : Sa W la ls ta L w) (hb : Below w.heap.size w w') : Sa W la ls ta L w' :=
  ⟨nxt h.B hb, KlK.Row.later h.F hb, h.T.below hb⟩
end

set_option maxRecDepth 100000 in
set_option maxHeartbeats 8000000 in
theorem law_any (W : World) (a : Option Addr) (n cap : Nat) (xs : Nat → Nat) (hc : Bytes W a n xs) :
    Calls Try.prog 3 #[.slice a n cap] W fun e w' => e = .returned (.bool true) ∧ Below W.heap.size W w' := by
  by_cases hbig : 65536 < n
  · have hbi : (65536 : Int) < (n : Int) := by omega
    go_enter Try.func3, Try.ntmps3
    go_wp2_with (go_at_call 4; go_in)
    go_ret
    exact ⟨rfl, Below.refl _ _⟩
  have HCo := Lib.hid (show ∀ w' : World, Below W.heap.size W w' → Bytes w' a n xs from fun w' h => hc.below h)
  have c1 := Lib.hid (KlDl.fill_any a n cap xs W hc)
  have hbi : ¬ (65536 : Int) < (n : Int) := by omega
  clear hc hbig
  go_enter Try.func3, Try.ntmps3
  go_wp2_with (go_at_call 4; go_in)
  refine c1.out.mono ?_
  rintro e wz ⟨v, fs, u, rs, rfl, hl, hrl, hri, hru⟩
  obtain ⟨fa, fc, rfl, hrow, -⟩ := KlK.Own.slice hl.own
  obtain ⟨ra, rc, rfl, hrru, -⟩ := RuK.Own.slice hru
  have hfc := KlK.Own.le hl.own
  have hrc := RuK.Own.le hru
  have hfl := hl.le
  have hfi := hl.is
  have WW := Lib.hid hl.B
  have FF := Lib.hid hrow
  have UU := Lib.hid hrru
  obtain ⟨zs, hzs⟩ : ∃ x, fcL fs rs = x := ⟨_, rfl⟩
  obtain ⟨ok, hok⟩ : ∃ x, fcB fs rs = x := ⟨_, rfl⟩
  have hzl := fc_len fs rs
  have HG := Lib.hid (show ok = true → goodB fs = true ∧ RuA.goodB rs = true ∧ filL fs rs = zs from fun h => by
    rw [h] at hok
    have h2 := hok
    unfold fcB at h2
    rw [Bool.and_eq_true] at h2
    refine ⟨h2.1, h2.2, ?_⟩
    rw [← hzs]
    unfold fcL
    rw [hok]
    rfl)
  rw [hzs] at hzl
  have HFI := Lib.hid (fun w h1 h2 => hok ▸ hzs ▸ KaL.fill_impl fs hfi (by omega) rs hri (by omega) fa fc ra rc w hfc h1 hrc h2)
  have HFS := Lib.hid (fun w h1 h2 => hok ▸ hzs ▸ KaV.fill_spec fs hfi (by omega) rs hri (by omega) fa fc ra rc w h1 h2)
  have HfI := Lib.hid hfi
  have HrI := Lib.hid hri
  clear c1 hl hrow hrru hru hok hzs hfi hri
  go_wp2_with fail
  refine (HFI.out _ FF.out UU.out).mono ?_
  rintro e wz ⟨v1, rfl, ho, hb⟩
  replace WW := Lib.hid (nxt WW.out hb)
  replace FF := Lib.hid (KlK.Row.later FF.out hb)
  replace UU := Lib.hid (RuK.Row.later UU.out hb)
  obtain ⟨za, zc, rfl, hr, -⟩ := IntK.Own.slice ho
  have ZZ := Lib.hid hr
  clear ho hr
  clear hb
  go_wp2_with fail
  refine (HFS.out _ FF.out UU.out).mono ?_
  rintro e wz ⟨v2, rfl, ho, hb⟩
  replace WW := Lib.hid (nxt WW.out hb)
  replace FF := Lib.hid (KlK.Row.later FF.out hb)
  replace UU := Lib.hid (RuK.Row.later UU.out hb)
  replace ZZ := Lib.hid (RowAt.below ZZ.out hb)
  obtain ⟨z2, k2, rfl, hr, -⟩ := IntK.Own.slice ho
  have Z2 := Lib.hid hr
  clear ho hr
  clear hb
  have hne : (ok != ok) = false := by simp
  go_wp2_with fail
  refine (SamH.ints_same za z2 zc k2 _ zs _ rfl (TabH.int_row ZZ.out) (TabH.int_row Z2.out) (by omega)).mono ?_
  rintro e wz ⟨rfl, hb⟩
  replace WW := Lib.hid (nxt WW.out hb)
  replace FF := Lib.hid (KlK.Row.later FF.out hb)
  replace UU := Lib.hid (RuK.Row.later UU.out hb)
  replace ZZ := Lib.hid (RowAt.below ZZ.out hb)
  replace Z2 := Lib.hid (RowAt.below Z2.out hb)
  clear hb
  have SS := Lib.hid (show St W fa fs ra rs za zs wz from ⟨WW.out, FF.out, UU.out, ZZ.out⟩)
  clear WW FF UU ZZ Z2 HFI HFS hne hfc hrc
  go_upto_block 0 with (fail)
  go_cut [9, 10, 11, 12, 13, 14] from 62 to 151 (fun _ _ _ _ _ _ wx => Below W.heap.size W wx)
  case rest =>
    have WW := Lib.hid hcut
    clear hcut SS HG HfI HrI
    generalize wc = wz at *
    have c9 := Lib.hid (KlDl.ages_any a n cap xs _ (HCo.out _ WW.out))
    go_wp2_with fail
    refine c9.out.mono ?_
    rintro e wz ⟨v, ls, wm, rfl, hl⟩
    obtain ⟨la, lc, rfl, hrow, -⟩ := KlK.Own.slice hl.own
    have hlc := KlK.Own.le hl.own
    have hll := hl.le
    replace WW := Lib.hid (nxt WW.out hl.B)
    have LL := Lib.hid hrow
    have hli := hl.is
    obtain ⟨L, hL⟩ : ∃ x, agL ls wm = x := ⟨_, rfl⟩
    obtain ⟨lb, hlb⟩ : ∃ x, goodB ls = x := ⟨_, rfl⟩
    have hLn := ag_len ls wm
    have HAg := Lib.hid (show ∀ p, p ∈ L → p.1 ≤ p.2 ∧ p.2 ≤ 120 ∧ ∀ k, k < ls.length → sexB (at_ ls k) wm = true → ¬ ((at_ ls k).lo ≤ (p.2 : Int) ∧ (p.1 : Int) ≤ (at_ ls k).hi) from fun p hp => ages_facts (hL ▸ hp))
    rw [hL] at hLn
    have HS := Lib.hid (fun w hr => hlb ▸ hL ▸ KaY.ages_spec ls hli (by omega) wm la lc w hr)
    have HI := Lib.hid (fun w hr => hlb ▸ hL ▸ KaW.ages_impl ls hli (by omega) wm la lc w hlc hr)
    clear c9 hl hrow hL hlb hli
    go_wp2_with fail
    refine (HI.out _ LL.out).mono ?_
    rintro e wz ⟨v1, q1, rfl, ho, hb⟩
    replace WW := Lib.hid (nxt WW.out hb)
    replace LL := Lib.hid (KlK.Row.later LL.out hb)
    obtain ⟨t1, k1, rfl⟩ := OwnP.slice ho
    have T1 := Lib.hid ho.rd
    clear ho
    clear hb
    go_wp2_with fail
    refine (HS.out _ LL.out).mono ?_
    rintro e wz ⟨v2, q2, rfl, ho, hb⟩
    replace WW := Lib.hid (nxt WW.out hb)
    replace LL := Lib.hid (KlK.Row.later LL.out hb)
    replace T1 := Lib.hid (Rd.below T1.out hb)
    obtain ⟨t2, k2, rfl⟩ := OwnP.slice ho
    have T2 := Lib.hid ho.rd
    clear ho
    clear hb
    have hne : (lb != lb) = false := by simp
    go_wp2_with fail
    refine (TabH.tab_same t1 t2 k1 k2 L.length (zsP L) _ T1.out T2.out (by unfold maxLen; omega) (fun i _ => by rw [zsP_len]; omega)).mono ?_
    rintro e wz ⟨rfl, hb⟩
    replace WW := Lib.hid (nxt WW.out hb)
    replace LL := Lib.hid (KlK.Row.later LL.out hb)
    replace T1 := Lib.hid (Rd.below T1.out hb)
    replace T2 := Lib.hid (Rd.below T2.out hb)
    clear hb
    clear T2 HS HI hne
    have AA := Lib.hid (show Sa W la ls t1 L wz from ⟨WW.out, LL.out, T1.out⟩)
    clear WW LL T1
    go_wp2_with fail
    go_loopw [21] (fun i wr => ∃ j : Nat, j ≤ L.length ∧ i = .int .i64 j ∧ Sa W la ls t1 L wr) (fun i _ => L.length - (intOf i).toNat)
    case atStart => exact ⟨0, Nat.zero_le _, rfl, AA.out⟩
    case round =>
      clear AA
      obtain ⟨j, hj, rfl, hA⟩ := hrel
      have AA := Lib.hid hA
      clear hA
      by_cases hlt : j < L.length
      · skip
        obtain ⟨p, hp⟩ : ∃ p, L.getD j (0, 0) = p := ⟨_, rfl⟩
        have hpm : p ∈ L := by rw [← hp, List.getD_eq_getElem?_getD, List.getElem?_eq_getElem hlt]; exact List.getElem_mem hlt
        obtain ⟨hp1, hp2, hp3⟩ := HAg.out p hpm
        have HP3 := Lib.hid hp3
        have hzp : zsP L j = [(p.1 : Int), (p.2 : Int)] := by unfold zsP; rw [hp]
        have HZP := Lib.hid hzp
        clear hp hpm hp3 hzp
        have hjl : (j : Int) < (L.length : Int) := by omega
        go_wp2_with fail
        go_loopw [22] (fun i wr => ∃ k : Nat, k ≤ ls.length ∧ i = .int .i64 k ∧ Sa W la ls t1 L wr) (fun i _ => ls.length - (intOf i).toNat)
        case atStart => exact ⟨0, Nat.zero_le _, rfl, AA.out⟩
        case round =>
          clear AA
          obtain ⟨k, hk, rfl, hA⟩ := hrel
          have AA := Lib.hid hA
          clear hA
          by_cases hkl : k < ls.length
          · skip
            obtain ⟨b1, off, rfl, -, -, c2, c3, c4, c5, -⟩ := AA.out.F.cells hkl
            obtain ⟨qs, hr1, hr2⟩ := AA.out.T
            rcases hr1 with h0 | ⟨tb, tf, rfl, hc1⟩
            · omega
            have g1 := hc1 j hlt
            obtain ⟨a1, kk1, e1, h1⟩ := hr2 j hlt
            rw [e1] at g1
            rw [HZP.out] at g1 h1
            rcases h1 with h0 | ⟨xb, xo, rfl, hx⟩
            · cases h0
            have x0 : _ = some (Value.int .i64 (p.1 : Int)) := hx 0 (by simp)
            have x1 : _ = some (Value.int .i64 (p.2 : Int)) := hx 1 (by simp)
            rw [Nat.add_zero] at x0
            have hkk : (k : Int) < (ls.length : Int) := by omega
            obtain ⟨c, hc⟩ : ∃ c, at_ ls k = c := ⟨_, rfl⟩
            have hp3 := HP3.out k hkl
            rw [hc] at c2 c3 c4 c5 hp3
            clear hc1 hr2 hx hc e1
            cases wm with
            | true =>
              obtain ⟨sx, hsx⟩ : ∃ b, c.wo = b := ⟨_, rfl⟩
              rw [hsx] at c4
              cases sx with
              | false =>
                clear hsx hp3
                go_wp2
                go_quiet (fail)
                go_wp2
                go_roundw
                case rel => exact ⟨k + 1, by omega, by go_num, AA.out.later (below_drewN (Below.refl _ _) _)⟩
                case measure => simp [intOf]; omega
              | true =>
                replace hp3 := hp3 (by unfold sexB; exact hsx)
                clear hsx
                by_cases hlo : c.lo ≤ (p.2 : Int)
                · have hd1 : decide (c.lo ≤ (p.2 : Int)) = true := decide_eq_true hlo
                  have hd2 : decide ((p.1 : Int) ≤ c.hi) = false := decide_eq_false (fun h => hp3 ⟨hlo, h⟩)
                  clear hp3 hlo
                  go_wp2
                  go_quiet (fail)
                  go_wp2
                  go_roundw
                  case rel => exact ⟨k + 1, by omega, by go_num, AA.out.later (below_drewN (Below.refl _ _) _)⟩
                  case measure => simp [intOf]; omega
                · have hd1 : decide (c.lo ≤ (p.2 : Int)) = false := decide_eq_false hlo
                  clear hp3 hlo
                  go_wp2
                  go_quiet (fail)
                  go_wp2
                  go_roundw
                  case rel => exact ⟨k + 1, by omega, by go_num, AA.out.later (below_drewN (Below.refl _ _) _)⟩
                  case measure => simp [intOf]; omega
            | false =>
              obtain ⟨sx, hsx⟩ : ∃ b, c.me = b := ⟨_, rfl⟩
              rw [hsx] at c5
              cases sx with
              | false =>
                clear hsx hp3
                go_wp2
                go_quiet (fail)
                go_wp2
                go_roundw
                case rel => exact ⟨k + 1, by omega, by go_num, AA.out.later (below_drewN (Below.refl _ _) _)⟩
                case measure => simp [intOf]; omega
              | true =>
                replace hp3 := hp3 (by unfold sexB; exact hsx)
                clear hsx
                by_cases hlo : c.lo ≤ (p.2 : Int)
                · have hd1 : decide (c.lo ≤ (p.2 : Int)) = true := decide_eq_true hlo
                  have hd2 : decide ((p.1 : Int) ≤ c.hi) = false := decide_eq_false (fun h => hp3 ⟨hlo, h⟩)
                  clear hp3 hlo
                  go_wp2
                  go_quiet (fail)
                  go_wp2
                  go_roundw
                  case rel => exact ⟨k + 1, by omega, by go_num, AA.out.later (below_drewN (Below.refl _ _) _)⟩
                  case measure => simp [intOf]; omega
                · have hd1 : decide (c.lo ≤ (p.2 : Int)) = false := decide_eq_false hlo
                  clear hp3 hlo
                  go_wp2
                  go_quiet (fail)
                  go_wp2
                  go_roundw
                  case rel => exact ⟨k + 1, by omega, by go_num, AA.out.later (below_drewN (Below.refl _ _) _)⟩
                  case measure => simp [intOf]; omega
          · obtain rfl : k = ls.length := by omega
            go_wp2
            go_roundw
            case rel => exact ⟨j + 1, by omega, by go_num, AA.out⟩
            case measure => simp [intOf]; omega
      · obtain rfl : j = L.length := by omega
        have WW := Lib.hid AA.out.B
        clear AA HAg
        have c7 := Lib.hid (KlDl.shared_any a n cap xs _ (HCo.out _ WW.out))
        go_wp2_with fail
        refine c7.out.mono ?_
        rintro e wz ⟨v, gs, rfl, hl⟩
        obtain ⟨ga, gc, rfl, hrow, -⟩ := KlK.Own.slice hl.own
        have hgc := KlK.Own.le hl.own
        have hgl := hl.le
        replace WW := Lib.hid (nxt WW.out hl.B)
        have GG := Lib.hid hrow
        have hgi := hl.is
        obtain ⟨sl, hsl⟩ : ∃ x, KaS.scL gs = x := ⟨_, rfl⟩
        obtain ⟨gb, hgb⟩ : ∃ x, goodB gs = x := ⟨_, rfl⟩
        have hsn := KaS.sc_len gs
        rw [hsl] at hsn
        have HS := Lib.hid (fun w hr => hgb ▸ hsl ▸ KaS.sc_spec gs hgi (by omega) ga gc w hr)
        have HI := Lib.hid (fun w hr => hgb ▸ hsl ▸ KaS.sc_impl gs hgi (by omega) ga gc w hgc hr)
        have HA := Lib.hid (fun w hr => hgb ▸ KaA.impl_any ga gc gs w hgc hr hgi (by unfold maxLen; omega))
        clear c7 hl hrow hsl hgb hgi
        go_wp2_with fail
        refine (HI.out _ GG.out).mono ?_
        rintro e wz ⟨v1, rfl, ho, hb⟩
        replace WW := Lib.hid (nxt WW.out hb)
        replace GG := Lib.hid (KlK.Row.later GG.out hb)
        obtain ⟨s1, k1, rfl, hr, -⟩ := IntK.Own.slice ho
        have S1 := Lib.hid hr
        clear ho hr
        clear hb
        go_wp2_with fail
        refine (HS.out _ GG.out).mono ?_
        rintro e wz ⟨v2, rfl, ho, hb⟩
        replace WW := Lib.hid (nxt WW.out hb)
        replace GG := Lib.hid (KlK.Row.later GG.out hb)
        replace S1 := Lib.hid (RowAt.below S1.out hb)
        obtain ⟨s2, k2, rfl, hr, -⟩ := IntK.Own.slice ho
        have S2 := Lib.hid hr
        clear ho hr
        clear hb
        have hne : (gb != gb) = false := by simp
        go_wp2_with fail
        refine (SamH.ints_same s1 s2 k1 k2 _ sl _ rfl (TabH.int_row S1.out) (TabH.int_row S2.out) (by omega)).mono ?_
        rintro e wz ⟨rfl, hb⟩
        replace WW := Lib.hid (nxt WW.out hb)
        replace GG := Lib.hid (KlK.Row.later GG.out hb)
        replace S1 := Lib.hid (RowAt.below S1.out hb)
        replace S2 := Lib.hid (RowAt.below S2.out hb)
        clear hb
        go_wp2_with fail
        refine (HA.out _ GG.out).mono ?_
        rintro e wz ⟨rfl, hb⟩
        replace WW := Lib.hid (nxt WW.out hb)
        replace GG := Lib.hid (KlK.Row.later GG.out hb)
        replace S1 := Lib.hid (RowAt.below S1.out hb)
        replace S2 := Lib.hid (RowAt.below S2.out hb)
        clear hb
        clear S1 S2 GG HS HI HA hne hsn hgc hgl
        have c5 := Lib.hid (KlDl.course_any a n cap xs _ (HCo.out _ WW.out))
        go_wp2_with fail
        refine c5.out.mono ?_
        rintro e wz ⟨v, cs, cz, rfl, hl⟩
        obtain ⟨va, vc, rfl, hrow, -⟩ := KlK.Own.slice hl.own
        have hvc := KlK.Own.le hl.own
        have hcl := hl.le
        replace WW := Lib.hid (nxt WW.out hl.B)
        have VV := Lib.hid hrow
        obtain ⟨co, hco⟩ : ∃ x, KaO.coZ cs cz = x := ⟨_, rfl⟩
        obtain ⟨ck, hck⟩ : ∃ x, KaO.coB cs cz = x := ⟨_, rfl⟩
        have hci := hl.is
        have HS := Lib.hid (fun w hr => hco ▸ hck ▸ KaO.spec_any cs hci (by omega) cz va vc w hr)
        have HI := Lib.hid (fun w hr => hco ▸ hck ▸ KaO.impl_any cs hci (by omega) cz va vc w hvc hr)
        clear c5 hl hrow hco hck hci
        go_wp2_with fail
        refine (HI.out _ VV.out).mono ?_
        rintro e wz ⟨rfl, hb⟩
        replace WW := Lib.hid (nxt WW.out hb)
        replace VV := Lib.hid (KlK.Row.later VV.out hb)
        clear hb
        go_wp2_with fail
        refine (HS.out _ VV.out).mono ?_
        rintro e wz ⟨rfl, hb⟩
        replace WW := Lib.hid (nxt WW.out hb)
        replace VV := Lib.hid (KlK.Row.later VV.out hb)
        clear hb
        go_wp2
        go_ret
        exact ⟨by simp, WW.out⟩
  go_wp2_with fail
  go_loopw [9] (fun i wr => ∃ k : Nat, k ≤ fs.length ∧ i = .int .i64 k ∧ St W fa fs ra rs za zs wr) (fun i _ => fs.length - (intOf i).toNat)
  case atStart => exact ⟨0, Nat.zero_le _, rfl, SS.out⟩
  case round =>
    clear SS
    obtain ⟨k, hk, rfl, hS⟩ := hrel
    have SS := Lib.hid hS
    clear hS
    by_cases hlt : k < fs.length
    · have hlt' : (k : Int) < (fs.length : Int) := by omega
      cases ok with
      | false =>
        go_wp2
        go_meet
        exact SS.out.B
      | true =>
        obtain ⟨hgd, hgr, hfil⟩ := HG.out rfl
        obtain ⟨hmo, hlen, hrun⟩ := fill_facts hgd rs hlt
        rw [hfil] at hmo hlen hrun
        have HLn := Lib.hid hlen
        clear hlen
        have hokc := good_ok hgd hlt
        have hci := HfI.out k hlt
        obtain ⟨c, hc⟩ : ∃ c, at_ fs k = c := ⟨_, rfl⟩
        have HC := Lib.hid hc
        rw [hc] at hmo hrun hokc hci
        have HR := Lib.hid hrun
        have HOc := Lib.hid hokc
        have hid1 := (ok_id hokc).1
        have HGr := Lib.hid hgr
        clear hrun hokc hc hgd hgr hfil
        go_wp2_with fail
        go_loopw [10, 11] (fun nn i wr => ∃ j : Nat, j ≤ zs.length ∧ i = .int .i64 j ∧ nn = .int .i64 (cn (zs.take j) c.id : Nat) ∧ St W fa fs ra rs za zs wr) (fun _ i _ => zs.length - (intOf i).toNat)
        case atStart => exact ⟨0, Nat.zero_le _, rfl, rfl, SS.out⟩
        case round =>
          clear SS
          obtain ⟨j, hj, rfl, rfl, hS⟩ := hrel
          have SS := Lib.hid hS
          clear hS
          by_cases hjl : j < zs.length
          · have hcn := cn_take hjl c.id
            have hcb := cn_le (zs.take j) c.id
            rw [List.length_take] at hcb
            obtain ⟨q, hq⟩ : ∃ q, cn (zs.take j) c.id = q := ⟨_, rfl⟩
            rw [hq] at hcn hcb ⊢
            obtain ⟨b1, off, rfl, c0, -⟩ := SS.out.F.cells hlt
            rw [HC.out] at c0
            obtain ⟨zb, zo, rfl⟩ := row_ad SS.out.Z (by omega)
            have d := row_at SS.out.Z hjl
            obtain ⟨z, hz⟩ : ∃ z, zAt zs j = z := ⟨_, rfl⟩
            rw [hz] at d hcn
            have HCN := Lib.hid hcn
            have hj' : (j : Int) < (zs.length : Int) := by omega
            have hqb : (q : Int) ≤ 11 := by omega
            clear hcn hq hz hcb
            by_cases he : z = c.id
            · have hd : (z == c.id) = true := by simpa using he
              replace HCN := Lib.hid (show cn (zs.take (j + 1)) c.id = q + 1 from by rw [HCN.out, if_pos he])
              clear he
              go_wp2
              go_quiet (fail)
              go_wp2
              go_roundw
              case rel => exact ⟨j + 1, by omega, by go_num, by rw [HCN.out]; go_num, SS.out.later (below_drewN (Below.refl _ _) _)⟩
              case measure => simp [intOf]; omega
            · have hd : (z == c.id) = false := by simpa using he
              replace HCN := Lib.hid (show cn (zs.take (j + 1)) c.id = q from by rw [HCN.out, if_neg he]; rfl)
              clear he
              go_wp2
              go_quiet (fail)
              go_wp2
              go_roundw
              case rel => exact ⟨j + 1, by omega, by go_num, by rw [HCN.out], SS.out.later (below_drewN (Below.refl _ _) _)⟩
              case measure => simp [intOf]; omega
          · obtain rfl : j = zs.length := by omega
            rw [List.take_length]
            obtain ⟨q, hq⟩ : ∃ q, cn zs c.id = q := ⟨_, rfl⟩
            rw [hq] at hmo HR ⊢
            clear hq
            obtain ⟨b1, off, rfl, -, -, -, -, -, -, -, c7⟩ := SS.out.F.cells hlt
            rw [HC.out] at c7
            have hd : decide (c.mo < (q : Int)) = false := decide_eq_false (by omega)
            go_wp2_with fail
            clear c7
            go_loopw [12] (fun i wr => ∃ j : Nat, j ≤ zs.length ∧ i = .int .i64 j ∧ St W (some ⟨b1, off, none⟩) fs ra rs za zs wr) (fun i _ => zs.length - (intOf i).toNat)
            case atStart => exact ⟨0, Nat.zero_le _, rfl, SS.out⟩
            case round =>
              clear SS
              obtain ⟨j, hj', rfl, hS⟩ := hrel
              have SS := Lib.hid hS
              clear hS
              by_cases hjl : j < zs.length
              · skip
                have hjr : j < rs.length := by rw [← HLn.out]; exact hjl
                obtain ⟨z, hzq, hz0, hzc⟩ := HR.out j hjr
                have hzz : zAt zs j = z := by unfold zAt; rw [List.getD_eq_getElem?_getD, hzq]; rfl
                have hui := HrI.out j hjr
                have hoku := us_ok HGr.out hjr
                obtain ⟨u, hu⟩ : ∃ u, RuK.at_ rs j = u := ⟨_, rfl⟩
                have HUq := Lib.hid hu
                rw [hu] at hz0 hzc hui hoku
                obtain ⟨ad, had⟩ : ∃ b, admR c u = b := ⟨_, rfl⟩
                have hB : daB c u = true := by unfold daB; rw [HOc.out, hoku]; rfl
                have hA : daA c u = ad := by unfold daA; rw [hB, had]; rfl
                have CD := Lib.hid (show ∀ w, Calls Try.prog 9 #[.agg #[.int .i64 c.id, .string c.nm, .int .i64 c.lo, .int .i64 c.hi, .bool c.wo, .bool c.me, .int .i64 c.co, .int .i64 c.mo], .agg #[.int .i64 u.id, .string u.nm, .string u.cl, .int .i64 u.bo, .bool u.wo, .int .i64 u.ca]] w (DPost w ad true) from fun w => by have h := KaD.does_impl c hci u hui w; rw [hA, hB] at h; exact h)
                rw [had] at hz0 hzc
                have HZ0 := Lib.hid hz0
                have HZC := Lib.hid hzc
                have HZZ := Lib.hid hzz
                clear hzq hu hui hoku had hB hA hz0 hzc hzz
                obtain ⟨b3, of3, rfl, -⟩ := SS.out.U.cells hjr
                obtain ⟨zb, zo, rfl⟩ := row_ad SS.out.Z (by omega)
                have hjj : (j : Int) < (rs.length : Int) := by omega
                have hjz : (j : Int) < (zs.length : Int) := by omega
                obtain ⟨b2, of2, he, c0, c1, c2, c3, c4, c5, c6, c7⟩ := SS.out.F.cells hlt
                cases he
                rw [HC.out] at c0 c1 c2 c3 c4 c5 c6 c7
                obtain ⟨b4, of4, he, r0, r1, r2, r3, r4, r5⟩ := SS.out.U.cells hjr
                cases he
                rw [HUq.out] at r0 r1 r2 r3 r4 r5
                go_upto_region 22 with (fail)
                replace SS := Lib.hid (SS.out.later (Below.refl _ _).drew)
                refine wp_region_noPanic ?_
                refine wp_region_held_drew (S := (fun Wx : World => Wx.cell? ⟨b1, off + k * 8, none⟩ = some (.int .i64 c.id) ∧ Wx.cell? ⟨b1, off + k * 8 + 1, none⟩ = some (.string c.nm) ∧ Wx.cell? ⟨b1, off + k * 8 + 2, none⟩ = some (.int .i64 c.lo) ∧ Wx.cell? ⟨b1, off + k * 8 + 3, none⟩ = some (.int .i64 c.hi) ∧ Wx.cell? ⟨b1, off + k * 8 + 4, none⟩ = some (.bool c.wo) ∧ Wx.cell? ⟨b1, off + k * 8 + 5, none⟩ = some (.bool c.me) ∧ Wx.cell? ⟨b1, off + k * 8 + 6, none⟩ = some (.int .i64 c.co) ∧ Wx.cell? ⟨b1, off + k * 8 + 7, none⟩ = some (.int .i64 c.mo) ∧ Wx.cell? ⟨b3, of3 + j * 6, none⟩ = some (.int .i64 u.id) ∧ Wx.cell? ⟨b3, of3 + j * 6 + 1, none⟩ = some (.string u.nm) ∧ Wx.cell? ⟨b3, of3 + j * 6 + 2, none⟩ = some (.string u.cl) ∧ Wx.cell? ⟨b3, of3 + j * 6 + 3, none⟩ = some (.int .i64 u.bo) ∧ Wx.cell? ⟨b3, of3 + j * 6 + 4, none⟩ = some (.bool u.wo) ∧ Wx.cell? ⟨b3, of3 + j * 6 + 5, none⟩ = some (.int .i64 u.ca))) (by kernel_rfl) ⟨c0, c1, c2, c3, c4, c5, c6, c7, r0, r1, r2, r3, r4, r5⟩ (fun hHeld => ?_)
                refine wpAnyH_take (i := 0) (oi := _) (v := ?_) rfl (by kernel_rfl) (by kernel_rfl) (by kernel_rfl) (fun _ _ _ h => h) (Or.inl ⟨by rfl, ?_⟩) (by assumption) ?_; rotate_left; focus (intro W hSw; (try dsimp only at hSw); go_simp; (first | done | with_reducible rfl))
                (try simp only [List.getElem_toArray, List.getElem_cons_succ, List.getElem_cons_zero, Act.put, List.setIfInBounds_toArray, List.set_cons_zero, List.set_cons_succ])
                refine wpAnyH_take (i := 1) (oi := _) (v := ?_) rfl (by kernel_rfl) (by kernel_rfl) (by kernel_rfl) (fun _ _ _ h => h) (Or.inl ⟨by rfl, ?_⟩) (by assumption) ?_; rotate_left; focus (intro W hSw; (try dsimp only at hSw); go_simp; (first | done | with_reducible rfl))
                (try simp only [List.getElem_toArray, List.getElem_cons_succ, List.getElem_cons_zero, Act.put, List.setIfInBounds_toArray, List.set_cons_zero, List.set_cons_succ])
                refine wpAnyH_take (i := 2) (oi := _) (v := ?_) rfl (by kernel_rfl) (by kernel_rfl) (by kernel_rfl) (fun _ _ _ h => h) (Or.inl ⟨by rfl, ?_⟩) (by assumption) ?_; rotate_left; focus (intro W hSw; (try dsimp only at hSw); go_simp; (first | done | with_reducible rfl))
                (try simp only [List.getElem_toArray, List.getElem_cons_succ, List.getElem_cons_zero, Act.put, List.setIfInBounds_toArray, List.set_cons_zero, List.set_cons_succ])
                refine wpAnyH_take (i := 3) (oi := _) (v := ?_) rfl (by kernel_rfl) (by kernel_rfl) (by kernel_rfl) (fun _ _ _ h => h) (Or.inl ⟨by rfl, ?_⟩) (by assumption) ?_; rotate_left; focus (intro W hSw; (try dsimp only at hSw); go_simp; (first | done | with_reducible rfl))
                (try simp only [List.getElem_toArray, List.getElem_cons_succ, List.getElem_cons_zero, Act.put, List.setIfInBounds_toArray, List.set_cons_zero, List.set_cons_succ])
                refine wpAnyH_take (i := 4) (oi := _) (v := ?_) rfl (by kernel_rfl) (by kernel_rfl) (by kernel_rfl) (fun _ _ _ h => h) (Or.inl ⟨by rfl, ?_⟩) (by assumption) ?_; rotate_left; focus (intro W hSw; (try dsimp only at hSw); go_simp; (first | done | with_reducible rfl))
                (try simp only [List.getElem_toArray, List.getElem_cons_succ, List.getElem_cons_zero, Act.put, List.setIfInBounds_toArray, List.set_cons_zero, List.set_cons_succ])
                refine wpAnyH_take (i := 5) (oi := _) (v := ?_) rfl (by kernel_rfl) (by kernel_rfl) (by kernel_rfl) (fun _ _ _ h => h) (Or.inl ⟨by rfl, ?_⟩) (by assumption) ?_; rotate_left; focus (intro W hSw; (try dsimp only at hSw); go_simp; (first | done | with_reducible rfl))
                (try simp only [List.getElem_toArray, List.getElem_cons_succ, List.getElem_cons_zero, Act.put, List.setIfInBounds_toArray, List.set_cons_zero, List.set_cons_succ])
                refine wpAnyH_take (i := 6) (oi := _) (v := ?_) rfl (by kernel_rfl) (by kernel_rfl) (by kernel_rfl) (fun _ _ _ h => h) (Or.inl ⟨by rfl, ?_⟩) (by assumption) ?_; rotate_left; focus (intro W hSw; (try dsimp only at hSw); go_simp; (first | done | with_reducible rfl))
                (try simp only [List.getElem_toArray, List.getElem_cons_succ, List.getElem_cons_zero, Act.put, List.setIfInBounds_toArray, List.set_cons_zero, List.set_cons_succ])
                refine wpAnyH_take (i := 7) (oi := _) (v := ?_) rfl (by kernel_rfl) (by kernel_rfl) (by kernel_rfl) (fun _ _ _ h => h) (Or.inl ⟨by rfl, ?_⟩) (by assumption) ?_; rotate_left; focus (intro W hSw; (try dsimp only at hSw); go_simp; (first | done | with_reducible rfl))
                (try simp only [List.getElem_toArray, List.getElem_cons_succ, List.getElem_cons_zero, Act.put, List.setIfInBounds_toArray, List.set_cons_zero, List.set_cons_succ])
                refine wpAnyH_ready (rs := [8]) (by kernel_rfl) (by simp) ?_
                refine AllReadyH.cons (o := _) rfl (fun K hK => ?_) AllReadyH.nil
                go_simp
                go_at_call 9
                refine (CD.out _).mono ?_
                rintro e wy ⟨rfl, hb⟩
                replace SS := Lib.hid (SS.out.later hb)
                clear hb c0 c1 c2 c3 c4 c5 c6 c7 r0 r1 r2 r3 r4 r5
                obtain ⟨b2, of2, he, c0, c1, c2, c3, c4, c5, c6, c7⟩ := SS.out.F.cells hlt
                cases he
                rw [HC.out] at c0 c1 c2 c3 c4 c5 c6 c7
                obtain ⟨b4, of4, he, r0, r1, r2, r3, r4, r5⟩ := SS.out.U.cells hjr
                cases he
                rw [HUq.out] at r0 r1 r2 r3 r4 r5
                go_wp2_with fail
                refine hK.out _ _ ⟨c0, c1, c2, c3, c4, c5, c6, c7, r0, r1, r2, r3, r4, r5⟩ (fun hsA => ?_)
                clear hK K hHeld
                refine wpAnyH_take (i := 9) (oi := _) (v := ?_) rfl (by kernel_rfl) (by kernel_rfl) (by kernel_rfl) (fun _ _ _ h => h) (Or.inl ⟨by rfl, ?_⟩) (by assumption) ?_; rotate_left; focus (intro W hSw; (try dsimp only at hSw); go_simp; (first | done | with_reducible rfl))
                (try simp only [List.getElem_toArray, List.getElem_cons_succ, List.getElem_cons_zero, Act.put, List.setIfInBounds_toArray, List.set_cons_zero, List.set_cons_succ])
                refine wpAnyH_take (i := 10) (oi := _) (v := ?_) rfl (by kernel_rfl) (by kernel_rfl) (by kernel_rfl) (fun _ _ _ h => h) (Or.inl ⟨by rfl, ?_⟩) (by assumption) ?_; rotate_left; focus (intro W hSw; (try dsimp only at hSw); go_simp; (first | done | with_reducible rfl))
                (try simp only [List.getElem_toArray, List.getElem_cons_succ, List.getElem_cons_zero, Act.put, List.setIfInBounds_toArray, List.set_cons_zero, List.set_cons_succ])
                refine wpAnyH_take (i := 11) (oi := _) (v := ?_) rfl (by kernel_rfl) (by kernel_rfl) (by kernel_rfl) (fun _ _ _ h => h) (Or.inl ⟨by rfl, ?_⟩) (by assumption) ?_; rotate_left; focus (intro W hSw; (try dsimp only at hSw); go_simp; (first | done | with_reducible rfl))
                (try simp only [List.getElem_toArray, List.getElem_cons_succ, List.getElem_cons_zero, Act.put, List.setIfInBounds_toArray, List.set_cons_zero, List.set_cons_succ])
                refine wpAnyH_take (i := 12) (oi := _) (v := ?_) rfl (by kernel_rfl) (by kernel_rfl) (by kernel_rfl) (fun _ _ _ h => h) (Or.inl ⟨by rfl, ?_⟩) (by assumption) ?_; rotate_left; focus (intro W hSw; (try dsimp only at hSw); go_simp; (first | done | with_reducible rfl))
                (try simp only [List.getElem_toArray, List.getElem_cons_succ, List.getElem_cons_zero, Act.put, List.setIfInBounds_toArray, List.set_cons_zero, List.set_cons_succ])
                refine wpAnyH_take (i := 13) (oi := _) (v := ?_) rfl (by kernel_rfl) (by kernel_rfl) (by kernel_rfl) (fun _ _ _ h => h) (Or.inl ⟨by rfl, ?_⟩) (by assumption) ?_; rotate_left; focus (intro W hSw; (try dsimp only at hSw); go_simp; (first | done | with_reducible rfl))
                (try simp only [List.getElem_toArray, List.getElem_cons_succ, List.getElem_cons_zero, Act.put, List.setIfInBounds_toArray, List.set_cons_zero, List.set_cons_succ])
                refine wpAnyH_done (by kernel_rfl) ?_ _
                refine NoPanic.normal ?_
                (try simp only [List.getElem_toArray, List.getElem_cons_succ, List.getElem_cons_zero, Act.put, List.setIfInBounds_toArray, List.set_cons_zero, List.set_cons_succ])
                clear hsA CD c1 c2 c3 c4 c5 c6 r0 r1 r2 r3 r4 r5
                have d := row_at SS.out.Z hjl
                rw [HZZ.out] at d
                by_cases hz : z = 0
                · have q0 : (z == 0) = true := by simpa using hz
                  have q1 : (z == c.id) = false := by simp; omega
                  cases ad with
                  | false =>
                    clear hz
                    go_wp2
                    go_quiet (fail)
                    go_wp2
                    go_roundw
                    case rel => exact ⟨j + 1, by omega, by go_num, SS.out.later (below_drewN (Below.refl _ _) _)⟩
                    case measure => simp [intOf]; omega
                  | true =>
                    have hl2 : decide ((q : Int) < c.mo) = false := decide_eq_false (by have := HZ0.out hz rfl; omega)
                    clear hz
                    go_wp2
                    go_quiet (fail)
                    go_wp2
                    go_roundw
                    case rel => exact ⟨j + 1, by omega, by go_num, SS.out.later (below_drewN (Below.refl _ _) _)⟩
                    case measure => simp [intOf]; omega
                · have q0 : (z == 0) = false := by simpa using hz
                  by_cases hi : z = c.id
                  · have q1 : (z == c.id) = true := by simpa using hi
                    obtain rfl : ad = true := HZC.out hi
                    clear hz hi
                    go_wp2
                    go_quiet (fail)
                    go_wp2
                    go_roundw
                    case rel => exact ⟨j + 1, by omega, by go_num, SS.out.later (below_drewN (Below.refl _ _) _)⟩
                    case measure => simp [intOf]; omega
                  · have q1 : (z == c.id) = false := by simpa using hi
                    clear hz hi
                    cases ad with
                    | false =>
                      go_wp2
                      go_quiet (fail)
                      go_wp2
                      go_roundw
                      case rel => exact ⟨j + 1, by omega, by go_num, SS.out.later (below_drewN (Below.refl _ _) _)⟩
                      case measure => simp [intOf]; omega
                    | true =>
                      go_wp2
                      go_quiet (fail)
                      go_wp2
                      go_roundw
                      case rel => exact ⟨j + 1, by omega, by go_num, SS.out.later (below_drewN (Below.refl _ _) _)⟩
                      case measure => simp [intOf]; omega
              · obtain rfl : j = zs.length := by omega
                go_wp2
                go_roundw
                case rel => first | exact ⟨k + 1, by omega, by go_num, SS.out⟩ | ((repeat apply Exists.intro); exact ⟨⟨k + 1, by omega, by go_num, SS.out⟩, rfl⟩)
                case measure => simp [intOf]; omega
    · obtain rfl : k = fs.length := by omega
      go_wp2
      go_meet
      exact SS.out.B
end Go.Proofs.Ytleoljnofdajfaa.FclW
