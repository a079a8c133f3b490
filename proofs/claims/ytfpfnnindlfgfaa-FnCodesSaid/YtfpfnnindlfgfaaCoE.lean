/- FreeCode: both texts. -/
import Derived.Test.YtfpfnnindlfgfaaCoC
import Derived.Test.YtfpfnnindlfgfaaCoL
import Derived.Test.YtfpfnnindlfgfaaFnEn
import Derived.Deep.LoopGhost
namespace Go.Proofs.Ytfpfnnindlfgfaa.CoE
open Go.RowKit Lb IntS CtK CoM CoL CoC CoF
open Bk (Blk)
set_option linter.unusedSimpArgs false
set_option linter.unusedVariables false

theorem good_num {m : Mp} {cs : List Ct} (h : goodB m cs = true) {i : Nat} (hi : i < cs.length) : ∃ p : Nat, (at_ cs i).co = (p : Int) ∧ 31 ≤ p ∧ p ≤ 99 := by
  obtain ⟨h1, h2⟩ := good_code h hi
  exact ⟨(at_ cs i).co.toNat, by omega, by omega, by omega⟩
/-- Whether a control takes a code away; a code is free; the first free one. -/
def tkn (x : Nat) (c : Ct) : Bool := c.co == (x : Int) || lkN c.co.toNat x
def frB (cs : List Ct) (x : Nat) : Bool := !(cs.any (tkn x))
def frI (cs : List Ct) : Nat := (List.range 100).findIdx (fun x => decide (31 ≤ x) && frB cs x)
theorem fr_yes {cs : List Ct} {x : Nat} : frB cs x = true ↔ ∀ j, j < cs.length → tkn x (at_ cs j) = false := by
  unfold frB
  rw [Bool.not_eq_true', List.any_eq_false]
  constructor
  · intro h j hj
    have := h (at_ cs j) (by rw [at_lt hj]; exact List.getElem_mem hj)
    simpa using this
  · intro h c hc
    obtain ⟨j, hj, rfl⟩ := List.mem_iff_getElem.1 hc
    have := h j hj
    rw [at_lt hj] at this
    simp [this]
theorem fr_at {cs : List Ct} {k : Nat} (h31 : 31 ≤ k) (hk : k ≤ 99) (h : ∀ x, 31 ≤ x → x < k → frB cs x = false) (h1 : frB cs k = true) : frI cs = k := by
  unfold frI
  rw [List.findIdx_eq (by simp; omega)]
  refine ⟨by simp [h31, h1], fun j hj => ?_⟩
  simp only [List.getElem_range]
  rcases Nat.lt_or_ge j 31 with h2 | h2
  · simp [show ¬ 31 ≤ j by omega]
  · rw [h j h2 hj, Bool.and_false]
theorem fr_no {cs : List Ct} (h : ∀ x, 31 ≤ x → x < 100 → frB cs x = false) : ¬ frI cs < 100 := by
  intro hk
  have h1 := List.findIdx_getElem (xs := List.range 100) (p := fun x => decide (31 ≤ x) && frB cs x) (w := by simpa [frI] using hk)
  simp only [List.getElem_range] at h1
  rw [Bool.and_eq_true] at h1
  have h2 := h _ (of_decide_eq_true h1.1) (by simpa [frI] using hk)
  rw [h2] at h1
  exact Bool.noConfusion h1.2
/-- What FreeCode answers. -/
def frO (m : Mp) (cs : List Ct) : Bool := goodB m cs && decide (frI cs < 100)
def frZ (m : Mp) (cs : List Ct) : Int := if frO m cs then (frI cs : Nat) else 0
theorem frz_no {m : Mp} {cs : List Ct} (h : frO m cs = false) : frZ m cs = 0 := by unfold frZ; rw [h]; rfl

set_option maxRecDepth 20000 in
set_option maxHeartbeats 2000000 in
theorem index_any (g : Nat) (cb : Array Value) (p : Ct → Bool) (w : World) (eg : ∀ args w, (callFunc g args).run Try.prog w = .ok (.enter g args) w) (cs : List Ct) (hl : cs.length ≤ 1048576)
    (hp : ∀ i, i < cs.length → ∀ w', Below w.heap.size w w' → Calls Try.prog g (#[.agg #[.int .i64 (at_ cs i).co, .int .i64 (at_ cs i).ce]] ++ cb) w' fun e w'' => e = .returned (.bool (p (at_ cs i))) ∧ Below w'.heap.size w' w'')
    (ad : Option Addr) (cap : Nat) (hr : Row w ad cs) :
    Calls Try.prog 148 #[.slice ad cs.length cap, .func (.func g) #[] cb] w fun e w' => (∃ z : Int, e = .returned (.int .i64 z) ∧ decide (0 ≤ z) = cs.any p) ∧ Below w.heap.size w w' := by
  have H := Lib.hid hr
  have HP := Lib.hid hp
  obtain ⟨n, hn⟩ : ∃ n, cs.length = n := ⟨_, rfl⟩
  have HN := Lib.hid hn
  rw [hn] at hl ⊢
  clear hr hp hn
  go_enter Try.func148, Try.ntmps148
  go_wp2
  go_loopg [8, 5] n (fun gk ii _ wr => ∃ i : Nat, i ≤ n ∧ gk = n - i ∧ ii = .int .i64 i ∧ (∀ j, j < i → p (at_ cs j) = false) ∧ Below w.heap.size w wr)
  case atStart => exact ⟨0, Nat.zero_le _, rfl, rfl, (fun j hj => absurd hj (Nat.not_lt_zero _)), Below.refl _ _⟩
  case round =>
    obtain ⟨i, hi, hgk, rfl, hall, hB⟩ := hrel
    have HA := Lib.hid hall
    have HB := Lib.hid hB
    clear hall hB
    by_cases hlt : i < n
    · obtain ⟨b, off, rfl, c0, c1⟩ := (H.out.later HB.out).cells (i := i) (by rw [HN.out]; exact hlt)
      obtain ⟨x, hx⟩ : ∃ x, at_ cs i = x := ⟨_, rfl⟩
      rw [hx] at c0 c1
      obtain ⟨o, ho⟩ : ∃ o, p x = o := ⟨_, rfl⟩
      have CP := Lib.hid (HP.out i (by rw [HN.out]; exact hlt) wr HB.out)
      rw [hx, ho] at CP
      have HX := Lib.hid hx
      have HO := Lib.hid ho
      have hi0 : (0 : Int) ≤ (i : Int) := by omega
      have hi1 : (i : Int) < (n : Int) := by omega
      clear hx ho
      cases o with
      | false =>
        have hq := Lib.hid (show p (at_ cs i) = false from by rw [HX.out]; exact HO.out)
        go_wp2_with (go_at_fn g; refine CP.out.mono ?_; rintro e w2 ⟨rfl, hb⟩; have HB2 := Lib.hid (HB.out.trans (hb.mono HB.out.size)); clear hb)
        go_roundg (n - (i + 1))
        case measure => omega
        case rel => exact ⟨i + 1, by omega, rfl, by go_num, all_succ (p := fun j => p (at_ cs j) = false) HA.out hq.out, HB2.out⟩
      | true =>
        have HE := Lib.hid (show decide ((0 : Int) ≤ (i : Int)) = cs.any p from by
          have h1 : cs.any p = true := by
            rw [List.any_eq_true]
            refine ⟨at_ cs i, ?_, by rw [HX.out]; exact HO.out⟩
            rw [at_lt (by rw [HN.out]; exact hlt)]
            exact List.getElem_mem _
          rw [h1]
          exact decide_eq_true hi0)
        go_wp2_with (go_at_fn g; refine CP.out.mono ?_; rintro e w2 ⟨rfl, hb⟩; have HB2 := Lib.hid (HB.out.trans (hb.mono HB.out.size)); clear hb)
        go_ret
        exact ⟨⟨_, rfl, HE.out⟩, HB2.out⟩
    · obtain rfl : i = n := by omega
      have HE := Lib.hid (show decide ((0 : Int) ≤ -1) = cs.any p from by
        have h1 : cs.any p = false := by
          rw [List.any_eq_false]
          intro c hc
          obtain ⟨j, hj, rfl⟩ := List.mem_iff_getElem.1 hc
          have := HA.out j (by rw [← HN.out]; exact hj)
          rw [at_lt hj] at this
          simp [this]
        rw [h1]
        rfl)
      go_wp2
      go_ret
      exact ⟨⟨_, rfl, HE.out⟩, HB.out⟩

set_option maxHeartbeats 1000000 in
theorem contains_any (g : Nat) (cb : Array Value) (p : Ct → Bool) (w : World) (eg : ∀ args w, (callFunc g args).run Try.prog w = .ok (.enter g args) w) (cs : List Ct) (hl : cs.length ≤ 1048576)
    (hp : ∀ i, i < cs.length → ∀ w', Below w.heap.size w w' → Calls Try.prog g (#[.agg #[.int .i64 (at_ cs i).co, .int .i64 (at_ cs i).ce]] ++ cb) w' fun e w'' => e = .returned (.bool (p (at_ cs i))) ∧ Below w'.heap.size w' w'')
    (ad : Option Addr) (cap : Nat) (hr : Row w ad cs) :
    Calls Try.prog 142 #[.slice ad cs.length cap, .func (.func g) #[] cb] w fun e w' => e = .returned (.bool (cs.any p)) ∧ Below w.heap.size w w' := by
  have C := Lib.hid (index_any g cb p w eg cs hl hp ad cap hr)
  clear hp hr
  go_enter Try.func142, Try.ntmps142
  go_wp2_with fail
  refine C.out.mono ?_
  rintro e w2 ⟨⟨z, rfl, hz⟩, hb⟩
  have HB := Lib.hid hb
  clear hb
  go_wp2
  go_ret
  exact ⟨rfl, HB.out⟩

set_option maxRecDepth 20000 in
set_option maxHeartbeats 1000000 in
theorem taken_any (c : Ct) (q x : Nat) (hq : c.co = (q : Int)) (hq9 : q ≤ 99) (hx9 : x ≤ 99) (bl : Nat) (w : World) (hb : Blk w bl 3 #[.int .i64 x]) :
    Calls Try.prog 143 #[.agg #[.int .i64 c.co, .int .i64 c.ce], .pointer (some ⟨bl, 0, none⟩)] w fun e w' => e = .returned (.bool (tkn x c)) ∧ Below w.heap.size w w' := by
  have HB := Lib.hid ((Below.refl w.heap.size w).alloc (Nat.le_refl _) (.cells #[.int .i64 c.co, .int .i64 c.ce] 58))
  obtain ⟨⟨e0, -⟩, -⟩ := blk_cells (Blk.new w 58 #[.int .i64 c.co, .int .i64 c.ce])
  have l0 := (hb.alloc (.cells #[.int .i64 c.co, .int .i64 c.ce] 58)).cell 0 rfl
  obtain ⟨r, hr⟩ : ∃ r, lkN q x = r := ⟨_, rfl⟩
  have C := Lib.hid (fun w => hr ▸ conf_any q x (by omega) (by omega) w)
  have HE := Lib.hid (show tkn x c = (((q : Int) == (x : Int)) || r) from by unfold tkn; rw [hq, ← hr]; rfl)
  have HQ := Lib.hid hq
  clear hb hr hq
  by_cases h : (q : Int) = (x : Int)
  · have h1 : ((q : Int) == (x : Int)) = true := by simpa using h
    rw [HE.out, h1]
    clear h HE
    go_enter Try.func143, Try.ntmps143
    go_upto_region 1 with (fail)
    generalize w.alloc (.cells #[.int .i64 c.co, .int .i64 c.ce] 58) = wz at *
    rw [HQ.out] at e0
    go_wp2
    go_ret
    exact ⟨rfl, HB.out⟩
  · have h1 : ((q : Int) == (x : Int)) = false := by simpa using h
    rw [HE.out, h1]
    clear HE
    go_enter Try.func143, Try.ntmps143
    go_upto_region 1 with (fail)
    generalize w.alloc (.cells #[.int .i64 c.co, .int .i64 c.ce] 58) = wz at *
    rw [HQ.out] at e0
    go_wp2_with fail
    refine (C.out _).mono ?_
    rintro e w2 ⟨rfl, hb⟩
    have HB2 := Lib.hid (HB.out.trans (hb.mono HB.out.size))
    clear hb
    go_wp2
    go_ret
    exact ⟨rfl, HB2.out⟩

set_option maxHeartbeats 1000000 in
theorem free_any (m : Mp) (cs : List Ct) (hg : goodB m cs = true) (x : Nat) (hx9 : x ≤ 99) (ad : Option Addr) (cap : Nat) (w : World) (hr : Row w ad cs) :
    Calls Try.prog 107 #[.slice ad cs.length cap, .int .i64 x] w fun e w' => e = .returned (.bool (frB cs x)) ∧ Below w.heap.size w w' := by
  have HB := Lib.hid ((Below.refl w.heap.size w).alloc (Nat.le_refl _) (.cells #[.int .i64 x] 3))
  have HK := Lib.hid (Blk.new w 3 #[.int .i64 x])
  have C := Lib.hid (contains_any 143 #[.pointer (some ⟨w.heap.size, 0, none⟩)] (tkn x) (w.alloc (.cells #[.int .i64 x] 3)) (fun args w => FnEn.enter_of Try.func143 (by kernel_rfl) rfl args w) cs (by have := good_len hg; omega)
    (fun i hi w' hb => by
      obtain ⟨q, hq, -, hq9⟩ := good_num hg hi
      exact taken_any _ q x hq hq9 hx9 w.heap.size w' (HK.out.later hb)) ad cap (hr.later ((Below.refl _ _).alloc (Nat.le_refl _) _)))
  clear hr hg
  go_enter Try.func107, Try.ntmps107
  go_wp2_with fail
  refine C.out.mono ?_
  rintro e w2 ⟨rfl, hb⟩
  have HB2 := Lib.hid (HB.out.trans (hb.mono HB.out.size))
  clear hb
  go_wp2
  go_ret
  exact ⟨rfl, HB2.out⟩

set_option maxRecDepth 20000 in
set_option maxHeartbeats 2000000 in
theorem free_impl (m : Mp) (cs : List Ct) (hl : cs.length ≤ 1048576) (hR : m.R.length ≤ maxLen) (hC : m.C.length ≤ maxLen) (a b : Option Addr) (ca cb : Nat) (ad : Option Addr) (cap : Nat) (w : World) (h : Rd m cs a b ad w) :
    Calls Try.prog 48 #[.agg #[.int .i64 m.W, .int .i64 m.H, .slice a m.R.length ca, .slice b m.C.length cb], .slice ad cs.length cap] w (ZPost w (frZ m cs) (frO m cs)) := by
  have HB := Lib.hid ((Below.refl w.heap.size w).alloc (Nat.le_refl _) (.cells #[.int .i64 m.W, .int .i64 m.H, .slice a m.R.length ca, .slice b m.C.length cb] 26))
  have HR := Lib.hid h
  obtain ⟨g, hg⟩ : ∃ g, goodB m cs = g := ⟨_, rfl⟩
  have c1 := Lib.hid (fun w h => hg ▸ impl_good m cs hl hR hC a b ca cb ad cap w h)
  have HG := Lib.hid hg
  obtain ⟨ok, hok⟩ : ∃ o, frO m cs = o := ⟨_, rfl⟩
  obtain ⟨z, hz⟩ : ∃ z, frZ m cs = z := ⟨_, rfl⟩
  have HO := Lib.hid hok
  have HZ := Lib.hid hz
  have HBAD := Lib.hid (fun e : ok = false => show z = 0 from by rw [← hz]; exact frz_no (by rw [hok, e]))
  rw [hok, hz]
  clear h hg hok hz
  go_enter Try.func48, Try.ntmps48
  go_wp2_with fail
  refine (c1.out _ (HR.out.later HB.out)).mono ?_
  rintro e w1 ⟨rfl, hb⟩
  have HB1 := Lib.hid (HB.out.trans (hb.mono HB.out.size))
  clear hb HB
  cases g with
  | false =>
    have h1 : ok = false := by rw [← HO.out]; unfold frO; rw [HG.out]; rfl
    obtain rfl := HBAD.out h1
    subst h1
    go_wp2
    go_ret2
    exact ⟨rfl, HB1.out⟩
  | true =>
  go_wp2
  go_loopg [6] 69 (fun gk ii wr => ∃ k : Nat, 31 ≤ k ∧ k ≤ 100 ∧ gk = 100 - k ∧ ii = .int .i64 k ∧ (∀ x, 31 ≤ x → x < k → frB cs x = false) ∧ Below w.heap.size w wr)
  case atStart => exact ⟨31, Nat.le_refl _, by omega, rfl, rfl, (fun x h1 h2 => by omega), HB1.out⟩
  case round =>
    clear HB1
    obtain ⟨k, hk31, hk, hgk, rfl, hall, hB⟩ := hrel
    have HA := Lib.hid hall
    have HB := Lib.hid hB
    clear hall hB
    by_cases hlt : k ≤ 99
    · obtain ⟨f, hf⟩ : ∃ f, frB cs k = f := ⟨_, rfl⟩
      have C := Lib.hid (fun w h => hf ▸ free_any m cs HG.out k hlt ad cap w h)
      have HF := Lib.hid hf
      have hd : decide ((k : Int) ≤ 99) = true := decide_eq_true (by omega)
      clear hf
      cases f with
      | true =>
        have hfi := fr_at hk31 hlt HA.out HF.out
        have h1 : ok = true := by rw [← HO.out]; unfold frO; rw [HG.out, hfi]; simp; omega
        have h2 : (k : Int) = z := by rw [← HZ.out]; unfold frZ; rw [HO.out, h1, hfi]; rfl
        subst h1 h2
        clear hfi
        go_wp2_with fail
        refine (C.out _ (HR.out.later HB.out).l).mono ?_
        rintro e w2 ⟨rfl, hb⟩
        have HB2 := Lib.hid (HB.out.trans (hb.mono HB.out.size))
        clear hb
        go_wp2
        go_ret2
        exact ⟨rfl, HB2.out⟩
      | false =>
        have HA2 := Lib.hid (show ∀ x, 31 ≤ x → x < k + 1 → frB cs x = false from fun x h1 h2 => by
          rcases Nat.lt_or_ge x k with h3 | h3
          · exact HA.out x h1 h3
          · obtain rfl : x = k := by omega
            exact HF.out)
        go_wp2_with fail
        refine (C.out _ (HR.out.later HB.out).l).mono ?_
        rintro e w2 ⟨rfl, hb⟩
        have HB2 := Lib.hid (HB.out.trans (hb.mono HB.out.size))
        clear hb
        go_wp2
        go_roundg (100 - (k + 1))
        case measure => omega
        case rel => exact ⟨k + 1, by omega, by omega, rfl, by go_num, HA2.out, HB2.out⟩
    · obtain rfl : k = 100 := by omega
      have h1 : ok = false := by rw [← HO.out]; unfold frO; rw [decide_eq_false (fr_no HA.out), Bool.and_false]
      obtain rfl := HBAD.out h1
      subst h1
      go_wp2
      go_ret2
      exact ⟨rfl, HB.out⟩

/-- Whether a code is not there and none of the first 'j' is like it. -/
def frT (cs : List Ct) (x j : Nat) : Bool := decide (fiZ cs (x : Int) < 0) && decide (∀ i, i < j → lkN x (at_ cs i).co.toNat = false)
theorem frt_zero (cs : List Ct) (x : Nat) : frT cs x 0 = decide (fiZ cs (x : Int) < 0) := by
  unfold frT
  rw [decide_eq_true (show ∀ i, i < 0 → lkN x (at_ cs i).co.toNat = false from fun i h => by omega), Bool.and_true]
theorem frt_succ (cs : List Ct) (x j : Nat) : frT cs x (j + 1) = (frT cs x j && !lkN x (at_ cs j).co.toNat) := by
  unfold frT
  rw [Bool.and_assoc]
  congr 1
  cases h : lkN x (at_ cs j).co.toNat with
  | true =>
    rw [Bool.not_true, Bool.and_false]
    exact decide_eq_false (fun h2 => by rw [h2 j (Nat.lt_succ_self _)] at h; cases h)
  | false =>
    rw [Bool.not_false, Bool.and_true]
    congr 1
    apply propext
    constructor
    · exact fun h2 i hi => h2 i (by omega)
    · intro h2 i hi
      rcases Nat.lt_or_ge i j with h3 | h3
      · exact h2 i h3
      · obtain rfl : i = j := by omega
        exact h
theorem fi_neg {cs : List Ct} {x : Int} : fiZ cs x < 0 ↔ ∀ j, j < cs.length → (at_ cs j).co ≠ x := by
  constructor
  · intro h j hj e
    by_cases h2 : cs.findIdx (fun r => r.co == x) < cs.length
    · unfold fiZ at h
      rw [if_pos h2] at h
      omega
    · exact h2 (List.findIdx_lt_length_of_exists ⟨at_ cs j, by rw [at_lt hj]; exact List.getElem_mem hj, by simpa using e⟩)
  · intro h
    rw [fi_no h]
    omega
theorem frt_all {m : Mp} {cs : List Ct} (hg : goodB m cs = true) (x : Nat) : frT cs x cs.length = frB cs x := by
  rw [Bool.eq_iff_iff, fr_yes]
  unfold frT
  rw [Bool.and_eq_true, decide_eq_true_iff, decide_eq_true_iff, fi_neg]
  constructor
  · rintro ⟨h1, h2⟩ j hj
    unfold tkn
    rw [lkN_comm, h2 j hj, Bool.or_false]
    simpa using h1 j hj
  · intro h
    refine ⟨fun j hj e => ?_, fun j hj => ?_⟩
    · have := h j hj
      unfold tkn at this
      rw [e] at this
      simp at this
    · have := h j hj
      unfold tkn at this
      rw [Bool.or_eq_false_iff] at this
      rw [lkN_comm]
      exact this.2

set_option maxRecDepth 20000 in
set_option maxHeartbeats 4000000 in
theorem free_spec (m : Mp) (cs : List Ct) (hl : cs.length ≤ 1048576) (hR : m.R.length ≤ maxLen) (hC : m.C.length ≤ maxLen) (a b : Option Addr) (ca cb : Nat) (ad : Option Addr) (cap : Nat) (w : World) (h : Rd m cs a b ad w) :
    Calls Try.prog 49 #[.agg #[.int .i64 m.W, .int .i64 m.H, .slice a m.R.length ca, .slice b m.C.length cb], .slice ad cs.length cap] w (ZPost w (frZ m cs) (frO m cs)) := by
  have HB := Lib.hid ((Below.refl w.heap.size w).alloc (Nat.le_refl _) (.cells #[.int .i64 m.W, .int .i64 m.H, .slice a m.R.length ca, .slice b m.C.length cb] 26))
  have HR := Lib.hid h
  obtain ⟨g, hg⟩ : ∃ g, goodB m cs = g := ⟨_, rfl⟩
  have c1 := Lib.hid (fun w h => hg ▸ spec_good m cs hl hR hC a b ca cb ad cap w h)
  have HG := Lib.hid hg
  obtain ⟨ok, hok⟩ : ∃ o, frO m cs = o := ⟨_, rfl⟩
  obtain ⟨z, hz⟩ : ∃ z, frZ m cs = z := ⟨_, rfl⟩
  have HO := Lib.hid hok
  have HZ := Lib.hid hz
  have HBAD := Lib.hid (fun e : ok = false => show z = 0 from by rw [← hz]; exact frz_no (by rw [hok, e]))
  rw [hok, hz]
  have cF := Lib.hid (fun (x : Int) w h => find_any cs hl x ad cap w h)
  obtain ⟨n, hn⟩ : ∃ n, cs.length = n := ⟨_, rfl⟩
  have HN := Lib.hid hn
  rw [hn] at hl c1 cF ⊢
  clear h hg hok hz hn
  go_enter Try.func49, Try.ntmps49
  go_wp2_with fail
  refine (c1.out _ (HR.out.later HB.out)).mono ?_
  rintro e w1 ⟨rfl, hb⟩
  have HB1 := Lib.hid (HB.out.trans (hb.mono HB.out.size))
  clear hb HB
  cases g with
  | false =>
    have h1 : ok = false := by rw [← HO.out]; unfold frO; rw [HG.out]; rfl
    obtain rfl := HBAD.out h1
    subst h1
    go_wp2
    go_ret2
    exact ⟨rfl, HB1.out⟩
  | true =>
  go_wp2
  go_loopg [6, 7, 8] 69 (fun gk ii _ _ wr => ∃ k : Nat, 31 ≤ k ∧ k ≤ 100 ∧ gk = 100 - k ∧ ii = .int .i64 k ∧ (∀ x, 31 ≤ x → x < k → frB cs x = false) ∧ Below w.heap.size w wr)
  case atStart => exact ⟨31, Nat.le_refl _, by omega, rfl, rfl, (fun x h1 h2 => by omega), HB1.out⟩
  case round =>
    clear HB1
    obtain ⟨k, hk31, hk, hgk, rfl, hall, hB⟩ := hrel
    have HA := Lib.hid hall
    have HB := Lib.hid hB
    clear hall hB
    by_cases hlt : k ≤ 99
    · have hd : decide ((k : Int) ≤ 99) = true := decide_eq_true (by omega)
      obtain ⟨fz, hfz⟩ : ∃ f, fiZ cs (k : Int) = f := ⟨_, rfl⟩
      have C := Lib.hid (fun w h => hfz ▸ cF.out (k : Int) w h)
      have HF0 := Lib.hid (show frT cs k 0 = decide (fz < 0) from by rw [frt_zero, hfz])
      clear hfz
      go_wp2_with fail
      refine (C.out _ (HR.out.later HB.out).l).mono ?_
      rintro e w2 ⟨rfl, rfl⟩
      go_wp2_with fail
      go_loopg [8, 7] n (fun gk2 jj tt wr => ∃ j : Nat, j ≤ n ∧ gk2 = n - j ∧ jj = .int .i64 j ∧ tt = .bool (frT cs k j) ∧ Below w.heap.size w wr)
      case atStart => exact ⟨0, Nat.zero_le _, rfl, rfl, by rw [HF0.out], HB.out⟩
      case round =>
        clear HB
        obtain ⟨j, hj, hgk2, rfl, rfl, hB⟩ := hrel
        have HB := Lib.hid hB
        clear hB
        by_cases hlt2 : j < n
        · obtain ⟨b1, off, rfl, c0, -⟩ := (HR.out.later HB.out).l.cells (i := j) (by rw [HN.out]; exact hlt2)
          obtain ⟨q, hq, hq31, hq9⟩ := good_num HG.out (show j < cs.length by rw [HN.out]; exact hlt2)
          have HSu := Lib.hid (frt_succ cs k j)
          rw [hq] at HSu c0
          have hqn : (q : Int).toNat = q := rfl
          rw [hqn] at HSu
          have hne : frT cs k j = true → k ≠ q := fun h e => by
            unfold frT at h
            rw [Bool.and_eq_true] at h
            exact (fi_neg.1 (of_decide_eq_true h.1)) j (by rw [HN.out]; exact hlt2) (by rw [hq, e])
          obtain ⟨t, ht⟩ : ∃ t, frT cs k j = t := ⟨_, rfl⟩
          rw [ht] at HSu hne ⊢
          have hjj0 : (0 : Int) ≤ (j : Int) := by omega
          have hjj1 : (j : Int) < (n : Int) := by omega
          clear hq hqn ht
          cases t with
          | false =>
            go_wp2
            go_roundg (n - (j + 1))
            case measure => omega
            case rel => exact ⟨j + 1, by omega, rfl, by go_num, by rw [HSu.out]; rfl, HB.out⟩
          | true =>
            obtain ⟨r, hr⟩ : ∃ r, lkN k q = r := ⟨_, rfl⟩
            have CL := Lib.hid (fun w => hr ▸ like_any k q (by omega) (by omega) (hne rfl) w)
            rw [hr] at HSu
            clear hr hne
            go_wp2_with fail
            refine (CL.out _).mono ?_
            rintro e w3 ⟨rfl, hw3⟩
            obtain rfl := hw3.symm
            go_wp2
            go_roundg (n - (j + 1))
            case measure => omega
            case rel => exact ⟨j + 1, by omega, rfl, by go_num, by rw [HSu.out]; rfl, HB.out⟩
        · obtain rfl : j = n := by omega
          have HFa := Lib.hid (show frT cs k j = frB cs k from by rw [← HN.out]; exact frt_all HG.out k)
          obtain ⟨f, hf⟩ : ∃ f, frB cs k = f := ⟨_, rfl⟩
          have HF := Lib.hid hf
          rw [HFa.out, hf]
          clear hf
          cases f with
          | true =>
            have hfi := fr_at hk31 hlt HA.out HF.out
            have h1 : ok = true := by rw [← HO.out]; unfold frO; rw [HG.out, hfi]; simp; omega
            have h2 : (k : Int) = z := by rw [← HZ.out]; unfold frZ; rw [HO.out, h1, hfi]; rfl
            subst h1 h2
            clear hfi
            go_wp2
            go_ret2
            exact ⟨rfl, HB.out⟩
          | false =>
            have HA2 := Lib.hid (show ∀ x, 31 ≤ x → x < k + 1 → frB cs x = false from fun x h1 h2 => by
              rcases Nat.lt_or_ge x k with h3 | h3
              · exact HA.out x h1 h3
              · obtain rfl : x = k := by omega
                exact HF.out)
            go_wp2
            go_roundg (100 - (k + 1))
            case measure => omega
            case rel => exact ⟨k + 1, by omega, by omega, rfl, by go_num, HA2.out, HB.out⟩
    · obtain rfl : k = 100 := by omega
      have h1 : ok = false := by rw [← HO.out]; unfold frO; rw [decide_eq_false (fr_no HA.out), Bool.and_false]
      obtain rfl := HBAD.out h1
      subst h1
      go_wp2
      go_ret2
      exact ⟨rfl, HB.out⟩

/-- FreeCode: both. -/
theorem free (m : Mp) (hR : m.R.length ≤ maxLen) (hC : m.C.length ≤ maxLen) (cs : List Ct) (hf : ∀ i, i < cs.length → Is (at_ cs i)) (hl : cs.length ≤ 1048576) : ∃ (z : Int) (ok : Bool),
    (∀ a b ca cb ad cap w, IRow w a m.R → IRow w b m.C → cs.length ≤ cap → Row w ad cs → Calls Try.prog 49 #[.agg #[.int .i64 m.W, .int .i64 m.H, .slice a m.R.length ca, .slice b m.C.length cb], .slice ad cs.length cap] w fun e w' => e = .returned (.tuple #[.int .i64 z, .bool ok]) ∧ Below w.heap.size w w') ∧
    (∀ a b ca cb ad cap w, IRow w a m.R → IRow w b m.C → cs.length ≤ cap → Row w ad cs → Calls Try.prog 48 #[.agg #[.int .i64 m.W, .int .i64 m.H, .slice a m.R.length ca, .slice b m.C.length cb], .slice ad cs.length cap] w fun e w' => e = .returned (.tuple #[.int .i64 z, .bool ok]) ∧ Below w.heap.size w w') :=
  ⟨_, _, fun a b ca cb ad cap w h1 h2 _ h3 => free_spec m cs hl hR hC a b ca cb ad cap w ⟨h1, h2, h3⟩, fun a b ca cb ad cap w h1 h2 _ h3 => free_impl m cs hl hR hC a b ca cb ad cap w ⟨h1, h2, h3⟩⟩

end Go.Proofs.Ytfpfnnindlfgfaa.CoE
