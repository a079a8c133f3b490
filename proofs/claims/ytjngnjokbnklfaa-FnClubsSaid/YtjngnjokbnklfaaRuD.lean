/- The Ids of those that a function value tells: the program's loop. -/
import Derived.Test.YtjngnjokbnklfaaRuC
import Derived.Test.YtjngnjokbnklfaaIntA
import Derived.Deep.LoopGhost
import Derived.Maps.AppendAt
import Derived.Shelf.Abstract
import Derived.OwnWalk
import Derived.Deep.CutRange
import Derived.Deep.DeepCutAuto
namespace Go.Proofs.Ytjngnjokbnklfaa.RuD
open Go.RowKit Lb Bk InA Wd RuK RuI RuU RuA RuG RuC
open IntK (Gr)
open IntS (OwnI iInfo)
set_option linter.unusedSimpArgs false
set_option linter.unusedVariables false

def idsL (p : Ru → Bool) (rs : List Ru) : List Int := (rs.filter p).map (·.id)
theorem ids_take {p : Ru → Bool} {rs : List Ru} {k : Nat} (hk : k < rs.length) (h : p (at_ rs k) = true) : idsL p (rs.take (k + 1)) = idsL p (rs.take k) ++ [(at_ rs k).id] := by
  unfold idsL
  rw [List.take_succ_eq_append_getElem hk, List.filter_append, List.map_append, ← at_lt hk]
  simp [h]
theorem ids_skip {p : Ru → Bool} {rs : List Ru} {k : Nat} (hk : k < rs.length) (h : p (at_ rs k) = false) : idsL p (rs.take (k + 1)) = idsL p (rs.take k) := by
  unfold idsL
  rw [List.take_succ_eq_append_getElem hk, List.filter_append, List.map_append, ← at_lt hk]
  simp [h]
theorem ids_len (p : Ru → Bool) (rs : List Ru) : (idsL p rs).length ≤ rs.length := by
  unfold idsL
  rw [List.length_map]
  exact List.length_filter_le _ _

/-- A function value with a text is entered. -/
theorem enter_of {P : Program} {f : FuncId} {fn : Func} {c : Code} (hf : P.funcs[f]? = some fn) (hname : (fn.name == "runtime.NumGoroutine") = false) (hb : fn.body = some c) (args : Array Value) (w : World) : (callFunc f args).run P w = .ok (.enter f args) w := by
  have h1 : fn.name ≠ "runtime.NumGoroutine" := by simpa using hname
  simp [callFunc, hf, h1, hb]

set_option maxRecDepth 20000 in
set_option maxHeartbeats 4000000 in
theorem ids_any (g : Nat) (cb : Array Value) (p : Ru → Bool) (Q : Ru → Prop) (w : World) (eg : ∀ args w, (callFunc g args).run Try.prog w = .ok (.enter g args) w)
    (hp : ∀ r, Q r → ∀ w', Below w.heap.size w w' → Calls Try.prog g (#[.agg #[.int .i64 r.id, .string r.nm, .string r.cl, .int .i64 r.bo, .bool r.wo, .int .i64 r.ca]] ++ cb) w' fun e w'' => e = .returned (.bool (p r)) ∧ Below w'.heap.size w' w'')
    (a : Option Addr) (cap : Nat) (rs : List Ru) (hr : Row w a rs) (hf : ∀ i, i < rs.length → Q (at_ rs i)) (hl : rs.length ≤ 1048576) :
    Calls Try.prog 98 #[.slice a rs.length cap, .func (.func g) #[] cb] w fun e w' => ∃ v, e = .returned v ∧ IntK.Own w' w.heap.size v (idsL p rs) ∧ Below w.heap.size w w' := by
  obtain ⟨t0, hi0, hz0, hz1, hz2⟩ := info_parts iInfo
  have H := Lib.hid hr
  have HF := Lib.hid hf
  have HP := Lib.hid hp
  obtain ⟨n, hn⟩ : ∃ n, rs.length = n := ⟨_, rfl⟩
  have HN := Lib.hid hn
  rw [hn] at hl ⊢
  have HS0 := Lib.hid (Gr.start w)
  clear hr hf hp hn
  go_enter Try.func98, Try.ntmps98
  go_wp2
  go_loopg [11, 5, 7] n (fun gk i v _ wr => ∃ k : Nat, k ≤ n ∧ gk = n - k ∧ i = .int .i64 k ∧ Gr w v (idsL p (rs.take k)) wr)
  case atStart => exact ⟨0, Nat.zero_le _, rfl, rfl, by simpa [idsL] using HS0.out⟩
  case round =>
    clear HS0
    obtain ⟨k, hk, hgk, rfl, hS⟩ := hrel
    have HS := Lib.hid hS
    clear hS
    by_cases hlt : k < n
    · obtain ⟨b, off, rfl, c0, c1, c2, c3, c4, c5⟩ := (H.out.later HS.out.b).cells (i := k) (by rw [HN.out]; exact hlt)
      obtain ⟨y, hy⟩ : ∃ y, at_ rs k = y := ⟨_, rfl⟩
      rw [hy] at c0 c1 c2 c3 c4 c5
      have HY := Lib.hid hy
      have HI := Lib.hid (show Q y from by have := HF.out k (by rw [HN.out]; exact hlt); rw [hy] at this; exact this)
      obtain ⟨o, ho⟩ : ∃ o, p y = o := ⟨_, rfl⟩
      have HO := Lib.hid ho
      have HS2 := Lib.hid (HS.out.alloc (.cells #[.int .i64 y.id, .string y.nm, .string y.cl, .int .i64 y.bo, .bool y.wo, .int .i64 y.ca] 70))
      have HK2 := Lib.hid (Blk.new wr 70 #[.int .i64 y.id, .string y.nm, .string y.cl, .int .i64 y.bo, .bool y.wo, .int .i64 y.ca])
      have CP := Lib.hid (HP.out y HI.out _ HS2.out.b)
      rw [ho] at CP
      clear hy ho
      go_upto_region 5 with (fail)
      obtain ⟨⟨e0, e1, e2, e3, e4, e5⟩, -⟩ := blk_cells HK2.out
      generalize wr.alloc (.cells #[.int .i64 y.id, .string y.nm, .string y.cl, .int .i64 y.bo, .bool y.wo, .int .i64 y.ca] 70) = wz at *
      clear c0 c1 c2 c3 c4 c5
      cases o with
      | false =>
        have HSk := Lib.hid (ids_skip (p := p) (rs := rs) (k := k) (by rw [HN.out]; exact hlt) (by rw [HY.out]; exact HO.out))
        go_wp2_with (go_at_fn g; refine CP.out.mono ?_; rintro e w2 ⟨rfl, hb⟩; have HS3 := Lib.hid (HS2.out.below hb); clear hb)
        go_roundg (n - (k + 1))
        case measure => omega
        case rel => exact ⟨k + 1, by omega, rfl, by go_num, by rw [HSk.out]; exact HS3.out⟩
      | true =>
        have HTk := Lib.hid (ids_take (p := p) (rs := rs) (k := k) (by rw [HN.out]; exact hlt) (by rw [HY.out]; exact HO.out))
        have hml := ids_len p (rs.take k)
        rw [RuA.take_len (rs := rs) (k := k) (by rw [HN.out]; omega)] at hml
        obtain ⟨m, hm⟩ : ∃ m, (idsL p (rs.take k)).length = m := ⟨_, rfl⟩
        rw [hm] at hml
        have HM := Lib.hid hm
        clear hm
        go_upto_if 17 with (go_at_fn g; refine CP.out.mono ?_; rintro e w2 ⟨rfl, hb⟩; have HS3 := Lib.hid (HS2.out.below hb); have HK3 := Lib.hid (HK2.out.later hb); clear hb)
        obtain ⟨⟨q0, q1, q2, q3, q4, q5⟩, -⟩ := blk_cells HK3.out
        have hown := HS3.out.own.below ((Below.refl _ _).alloc (Nat.le_refl _) (.cells #[.int .i64 y.id] 3))
        unfold OwnI at hown
        rw [HM.out] at hown
        have HTa := Lib.hid (HS3.out.alloc (.cells #[.int .i64 y.id] 3))
        have hsz := HS3.out.b.size
        go_wp2_with (at_builtin; (refine wpList_append_own _ rfl (.tmp 18) (.tmp 21) 24 rfl w.heap.size 3 t0 (.int .i64 0) 1 8 Try.underlying24 hi0 hz0 hz1 hz2 rfl (by decide) _ m _ rfl hown ⟨_, 0, none⟩ 1 1 [.int .i64 y.id] rfl rfl (cell_one_new _ _ _) (by simp [Value.oneCell']) (by unfold maxLen; omega) (by omega) (by simp; omega) ?_; intro v' w3 hown3 hgr3 _; have HP3 := Lib.hid (HTa.out.put HM.out hgr3 hown3); clear hown3 hgr3))
        go_roundg (n - (k + 1))
        case measure => omega
        case rel => exact ⟨k + 1, by omega, rfl, by go_num, by rw [HTk.out, HY.out]; exact HP3.out⟩
    · obtain rfl : k = n := by omega
      go_wp2
      go_ret
      refine ⟨_, rfl, ?_, HS.out.b⟩
      have h := HS.out.own
      rw [List.take_of_length_le (by rw [HN.out]; exact Nat.le_refl _)] at h
      exact h

end Go.Proofs.Ytjngnjokbnklfaa.RuD
