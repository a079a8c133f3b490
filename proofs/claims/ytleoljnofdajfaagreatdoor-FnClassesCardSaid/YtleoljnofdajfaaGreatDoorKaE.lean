/- slices.IndexFunc and slices.ContainsFunc over lists of Class. -/
import Derived.Test.YtleoljnofdajfaaGreatDoorKlS
import Derived.Test.YtleoljnofdajfaaGreatDoorFnEn
import Derived.Deep.LoopGhost
import Derived.Shelf.Abstract
namespace Go.Proofs.YtleoljnofdajfaaGreatDoor.KaE
open Go.RowKit Lb Bk KlK
set_option linter.unusedSimpArgs false
set_option linter.unusedVariables false

set_option maxRecDepth 20000 in
set_option maxHeartbeats 2000000 in
theorem index_any (g : Nat) (cb : Array Value) (p : Kl → Bool) (w : World) (eg : ∀ args w, (callFunc g args).run Tryz.prog w = .ok (.enter g args) w) (cs : List Kl) (hl : cs.length ≤ 1048576)
    (hp : ∀ i, i < cs.length → ∀ w', Below w.heap.size w w' → Calls Tryz.prog g (#[.agg #[.int .i64 (at_ cs i).id, .string (at_ cs i).nm, .int .i64 (at_ cs i).lo, .int .i64 (at_ cs i).hi, .bool (at_ cs i).wo, .bool (at_ cs i).me, .int .i64 (at_ cs i).co, .int .i64 (at_ cs i).mo]] ++ cb) w' fun e w'' => e = .returned (.bool (p (at_ cs i))) ∧ Below w'.heap.size w' w'')
    (ad : Option Addr) (cap : Nat) (hr : Row w ad cs) :
    Calls Tryz.prog 86 #[.slice ad cs.length cap, .func (.func g) #[] cb] w fun e w' => (∃ z : Int, e = .returned (.int .i64 z) ∧ decide (0 ≤ z) = cs.any p) ∧ Below w.heap.size w w' := by
  have H := Lib.hid hr
  have HP := Lib.hid hp
  obtain ⟨n, hn⟩ : ∃ n, cs.length = n := ⟨_, rfl⟩
  have HN := Lib.hid hn
  rw [hn] at hl ⊢
  clear hr hp hn
  go_enter Tryz.func86, Tryz.ntmps86
  go_wp2
  go_loopg [8, 5] n (fun gk ii _ wr => ∃ i : Nat, i ≤ n ∧ gk = n - i ∧ ii = .int .i64 i ∧ (∀ j, j < i → p (at_ cs j) = false) ∧ Below w.heap.size w wr)
  case atStart => exact ⟨0, Nat.zero_le _, rfl, rfl, (fun j hj => absurd hj (Nat.not_lt_zero _)), Below.refl _ _⟩
  case round =>
    obtain ⟨i, hi, hgk, rfl, hall, hB⟩ := hrel
    have HA := Lib.hid hall
    have HB := Lib.hid hB
    clear hall hB
    by_cases hlt : i < n
    · obtain ⟨b, off, rfl, c0, c1, c2, c3, c4, c5, c6, c7⟩ := (H.out.later HB.out).cells (i := i) (by rw [HN.out]; exact hlt)
      obtain ⟨x, hx⟩ : ∃ x, at_ cs i = x := ⟨_, rfl⟩
      rw [hx] at c0 c1 c2 c3 c4 c5 c6 c7
      obtain ⟨o, ho⟩ : ∃ o, p x = o := ⟨_, rfl⟩
      have CP := Lib.hid (HP.out i (by rw [HN.out]; exact hlt) wr HB.out)
      rw [hx, ho] at CP
      have HX := Lib.hid hx
      have HO := Lib.hid ho
      have hi0 : (0 : Int) ≤ (i : Int) := by omega
      have hi1 : (i : Int) < (n : Int) := by omega
      clear hx ho
      cases o with
      | false =>
        have hq := Lib.hid (show p (at_ cs i) = false from by rw [HX.out]; exact HO.out)
        go_wp2_with (go_at_fn g; refine CP.out.mono ?_; rintro e w2 ⟨rfl, hb⟩; have HB2 := Lib.hid (HB.out.trans (hb.mono HB.out.size)); clear hb)
        go_roundg (n - (i + 1))
        case measure => omega
        case rel => exact ⟨i + 1, by omega, rfl, by go_num, all_succ (p := fun j => p (at_ cs j) = false) HA.out hq.out, HB2.out⟩
      | true =>
        have HE := Lib.hid (show decide ((0 : Int) ≤ (i : Int)) = cs.any p from by
          have h1 : cs.any p = true := by
            rw [List.any_eq_true]
            refine ⟨at_ cs i, ?_, by rw [HX.out]; exact HO.out⟩
            rw [at_lt (by rw [HN.out]; exact hlt)]
            exact List.getElem_mem _
          rw [h1]
          exact decide_eq_true hi0)
        go_wp2_with (go_at_fn g; refine CP.out.mono ?_; rintro e w2 ⟨rfl, hb⟩; have HB2 := Lib.hid (HB.out.trans (hb.mono HB.out.size)); clear hb)
        go_ret
        exact ⟨⟨_, rfl, HE.out⟩, HB2.out⟩
    · obtain rfl : i = n := by omega
      have HE := Lib.hid (show decide ((0 : Int) ≤ -1) = cs.any p from by
        have h1 : cs.any p = false := by
          rw [List.any_eq_false]
          intro c hc
          obtain ⟨j, hj, rfl⟩ := List.mem_iff_getElem.1 hc
          have := HA.out j (by rw [← HN.out]; exact hj)
          rw [at_lt hj] at this
          simp [this]
        rw [h1]
        rfl)
      go_wp2
      go_ret
      exact ⟨⟨_, rfl, HE.out⟩, HB.out⟩

set_option maxHeartbeats 1000000 in
theorem contains_any (g : Nat) (cb : Array Value) (p : Kl → Bool) (w : World) (eg : ∀ args w, (callFunc g args).run Tryz.prog w = .ok (.enter g args) w) (cs : List Kl) (hl : cs.length ≤ 1048576)
    (hp : ∀ i, i < cs.length → ∀ w', Below w.heap.size w w' → Calls Tryz.prog g (#[.agg #[.int .i64 (at_ cs i).id, .string (at_ cs i).nm, .int .i64 (at_ cs i).lo, .int .i64 (at_ cs i).hi, .bool (at_ cs i).wo, .bool (at_ cs i).me, .int .i64 (at_ cs i).co, .int .i64 (at_ cs i).mo]] ++ cb) w' fun e w'' => e = .returned (.bool (p (at_ cs i))) ∧ Below w'.heap.size w' w'')
    (ad : Option Addr) (cap : Nat) (hr : Row w ad cs) :
    Calls Tryz.prog 68 #[.slice ad cs.length cap, .func (.func g) #[] cb] w fun e w' => e = .returned (.bool (cs.any p)) ∧ Below w.heap.size w w' := by
  have C := Lib.hid (index_any g cb p w eg cs hl hp ad cap hr)
  clear hp hr
  go_enter Tryz.func68, Tryz.ntmps68
  go_wp2_with fail
  refine C.out.mono ?_
  rintro e w2 ⟨⟨z, rfl, hz⟩, hb⟩
  have HB := Lib.hid hb
  clear hb
  go_wp2
  go_ret
  exact ⟨rfl, HB.out⟩

end Go.Proofs.YtleoljnofdajfaaGreatDoor.KaE
