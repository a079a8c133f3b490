/- The pairs that a test holds of: what they are; the program's loops with any function value. -/
import Derived.Test.YtfpfnnindlfgfaaCoM
import Derived.Test.YtfpfnnindlfgfaaPrN
import Derived.Deep.LoopGhost
import Derived.Maps.AppendAt
import Derived.Shelf.Abstract
import Derived.OwnWalk
import Derived.Deep.AppendLies
import Derived.Deep.CutRange
import Derived.Deep.DeepCutAuto
namespace Go.Proofs.Ytfpfnnindlfgfaa.PrP
open Go.RowKit Lb Bk CtK
set_option linter.unusedSimpArgs false
set_option linter.unusedVariables false

/-- The pairs of the element at 'i' with those behind it, up to 'k'; of all up to 'i'. -/
def rowP (p : Ct → Ct → Bool) (cs : List Ct) (i : Nat) : Nat → List Pr
  | 0 => []
  | k + 1 => if i < k ∧ p (at_ cs i) (at_ cs k) = true then rowP p cs i k ++ [⟨(at_ cs i).co, (at_ cs k).co⟩] else rowP p cs i k
def allP (p : Ct → Ct → Bool) (cs : List Ct) : Nat → List Pr
  | 0 => []
  | i + 1 => allP p cs i ++ rowP p cs i cs.length
theorem row_none (p : Ct → Ct → Bool) (cs : List Ct) (i : Nat) : ∀ k, k ≤ i + 1 → rowP p cs i k = []
  | 0, _ => rfl
  | k + 1, h => by rw [rowP, if_neg (by rintro ⟨h1, _⟩; omega), row_none p cs i k (by omega)]
theorem row_yes {p : Ct → Ct → Bool} {cs : List Ct} {i k : Nat} (h : i < k) (hp : p (at_ cs i) (at_ cs k) = true) : rowP p cs i (k + 1) = rowP p cs i k ++ [⟨(at_ cs i).co, (at_ cs k).co⟩] := by
  rw [rowP, if_pos ⟨h, hp⟩]
theorem row_no {p : Ct → Ct → Bool} {cs : List Ct} {i k : Nat} (hp : p (at_ cs i) (at_ cs k) = false) : rowP p cs i (k + 1) = rowP p cs i k := by
  rw [rowP, if_neg (by rintro ⟨_, h⟩; rw [hp] at h; cases h)]
theorem row_len (p : Ct → Ct → Bool) (cs : List Ct) (i : Nat) : ∀ k, (rowP p cs i k).length ≤ k
  | 0 => Nat.le_refl _
  | k + 1 => by
    have := row_len p cs i k
    rw [rowP]
    split
    · simp only [List.length_append, List.length_cons, List.length_nil]; omega
    · omega
theorem all_len (p : Ct → Ct → Bool) (cs : List Ct) : ∀ i, (allP p cs i).length ≤ i * cs.length
  | 0 => by simp [allP]
  | i + 1 => by
    have h1 := all_len p cs i
    have h2 := row_len p cs i cs.length
    rw [allP, List.length_append, Nat.succ_mul]
    omega
/-- A list that grows, of the call's own. -/
structure Gr (w : World) (v : Value) (zs : List Pr) (wr : World) : Prop where
  b : Below w.heap.size w wr
  own : PrK.Own wr w.heap.size v zs
theorem Gr.below {w : World} {v : Value} {zs : List Pr} {wr w' : World} (h : Gr w v zs wr) (hb : Below wr.heap.size wr w') : Gr w v zs w' := ⟨h.b.trans (hb.mono h.b.size), h.own.below hb⟩
theorem Gr.alloc {w : World} {v : Value} {zs : List Pr} {wr : World} (h : Gr w v zs wr) (o : Obj) : Gr w v zs (wr.alloc o) := h.below ((Below.refl _ _).alloc (Nat.le_refl _) _)
theorem Gr.put {w : World} {v v' : Value} {zs : List Pr} {x y : Int} {n : Nat} {wr w' : World} (h : Gr w v zs wr) (hn : zs.length = n) (hg : wr.grownBy w' v.ownBlock) (ho : w'.ownsRow w.heap.size 59 2 v' (n + 1) (PrK.cells zs ++ [.int .i64 x, .int .i64 y])) : Gr w v' (zs ++ [⟨x, y⟩]) w' :=
  ⟨h.b.grown hg h.b.size (fun k e => (World.ownsRow.lt h.own k e).1), by unfold PrK.Own; rw [PrK.cells_app, List.length_append]; subst hn; exact ho⟩
theorem Gr.start (w : World) : Gr w (.slice (some ⟨w.heap.size, 0, none⟩) 0 0) [] (w.alloc (.cells #[] 59)) :=
  ⟨(Below.refl _ _).alloc (Nat.le_refl _) _, PrK.Own.empty w⟩
theorem own_ne {w : World} {base : Nat} {v : Value} {zs : List Pr} {A : Nat} {cs : Array Value} (h : PrK.Own w base v zs) (hb : Blk w A 58 cs) : v.ownBlock ≠ some A := by
  intro e
  rcases h.2 with ⟨rfl, _⟩ | ⟨g, cap, cur, rfl, _, hg, _⟩
  · cases e
  · have h1 : g = A := by simpa [Value.ownBlock] using e
    subst h1
    unfold Blk at hb
    rw [hg] at hb
    simp at hb
theorem blk_put {w w' : World} {base : Nat} {v : Value} {zs : List Pr} {A : Nat} {cs : Array Value} (h : PrK.Own w base v zs) (hb : Blk w A 58 cs) (hg : w.grownBy w' v.ownBlock) : Blk w' A 58 cs :=
  (hg.block A hb.lt (fun e => own_ne h hb e.symm)).trans hb

set_option maxRecDepth 20000 in
set_option maxHeartbeats 4000000 in
theorem pairs_any (g : Nat) (cb : Array Value) (p : Ct → Ct → Bool) (w : World) (eg : ∀ args w, (callFunc g args).run Try.prog w = .ok (.enter g args) w) (cs : List Ct)
    (hp : ∀ i k, i < k → k < cs.length → ∀ w', Below w.heap.size w w' → Calls Try.prog g (#[.agg #[.int .i64 (at_ cs i).co, .int .i64 (at_ cs i).ce], .agg #[.int .i64 (at_ cs k).co, .int .i64 (at_ cs k).ce]] ++ cb) w' fun e w'' => e = .returned (.bool (p (at_ cs i) (at_ cs k))) ∧ Below w'.heap.size w' w'')
    (ad : Option Addr) (cap : Nat) (hcap : cs.length ≤ cap) (hr : Row w ad cs) (hl : cs.length ≤ 10) :
    Calls Try.prog 109 #[.slice ad cs.length cap, .func (.func g) #[] cb] w fun e w' => ∃ v, e = .returned v ∧ PrK.Own w' w.heap.size v (allP p cs cs.length) ∧ Below w.heap.size w w' := by
  obtain ⟨t0, hi0, hz0, hz1, hz2⟩ := info_parts PrK.info
  have H := Lib.hid hr
  have HP := Lib.hid hp
  obtain ⟨n, hn⟩ : ∃ n, cs.length = n := ⟨_, rfl⟩
  have HN := Lib.hid hn
  rw [hn] at hl hcap ⊢
  have HS0 := Lib.hid (Gr.start w)
  clear hr hp hn
  go_enter Try.func109, Try.ntmps109
  go_wp2
  go_loopg [13, 5] n (fun gk ii v wr => ∃ i : Nat, i ≤ n ∧ gk = n - i ∧ ii = .int .i64 i ∧ Gr w v (allP p cs i) wr)
  case atStart => exact ⟨0, Nat.zero_le _, rfl, rfl, by simpa [allP] using HS0.out⟩
  case round =>
    clear HS0
    obtain ⟨i, hi, hgk, rfl, hS⟩ := hrel
    have HS := Lib.hid hS
    clear hS
    by_cases hlt : i < n
    · obtain ⟨b, off, rfl, c0, c1⟩ := (H.out.later HS.out.b).cells (i := i) (by rw [HN.out]; exact hlt)
      obtain ⟨x, hx⟩ : ∃ x, at_ cs i = x := ⟨_, rfl⟩
      rw [hx] at c0 c1
      have HX := Lib.hid hx
      have HS2 := Lib.hid (HS.out.alloc (.cells #[.int .i64 x.co, .int .i64 x.ce] 58))
      have HK2 := Lib.hid (Blk.new wr 58 #[.int .i64 x.co, .int .i64 x.ce])
      have hlA := all_len p cs i
      rw [HN.out] at hlA
      have hlA' : (allP p cs i).length ≤ 100 := Nat.le_trans hlA (Nat.le_trans (Nat.mul_le_mul hi hl) (Nat.mul_le_mul hl (Nat.le_refl _)))
      clear hx hlA
      have hi1 : (i : Int) + 1 ≤ (n : Int) := by omega
      have hi2 : (n : Int) ≤ (cap : Int) := by omega
      go_upto_region 5 with (fail)
      generalize hwz : wr.alloc (.cells #[.int .i64 x.co, .int .i64 x.ce] 58) = wz at *
      obtain ⟨A, hA⟩ : ∃ A, wr.heap.size = A := ⟨_, rfl⟩
      rw [hA] at HK2
      try rw [hA]
      clear hA hwz c0 c1 HS
      go_cut [21, 22, 23] from 18 to 24 (fun s21 s22 s23 wx => ∃ (o2 c2 : Nat), s21 = .slice (some ⟨b, o2, none⟩) (n - (i + 1)) c2 ∧ s22 = .int .i64 (n - (i + 1) : Nat) ∧ s23 = .int .i64 (0 : Nat) ∧ (i + 1 < n → o2 = off + (i + 1) * 2) ∧ wx = wz)
      case first =>
        by_cases hce : cap = i + 1
        · subst hce
          go_wp2
          go_meet
          exact ⟨off, 0, by first | rfl | (congr 1; omega) | simp, by first | rfl | (congr 1; omega) | simp, rfl, fun h => absurd h (by omega), rfl⟩
        · have hce' : i + 1 < cap := by omega
          go_wp2
          go_meet
          exact ⟨_, _, rfl, rfl, rfl, fun _ => rfl, rfl⟩
      case rest =>
      obtain ⟨o2, c2, rfl, rfl, rfl, ho2, rfl⟩ := hcut
      have hm2 : n - (i + 1) ≤ 10 := by omega
      obtain ⟨r, hr2⟩ : ∃ r, n - (i + 1) = r := ⟨_, rfl⟩
      have HRr := Lib.hid hr2
      rw [hr2] at hm2
      try rw [hr2]
      clear hr2
      go_wp2_with fail
      go_loopg [23, 5] r (fun gk2 tt v wq => ∃ t : Nat, t ≤ r ∧ gk2 = r - t ∧ tt = .int .i64 t ∧ Gr w v (allP p cs i ++ rowP p cs i (i + 1 + t)) wq ∧ Blk wq A 58 #[.int .i64 x.co, .int .i64 x.ce])
      case atStart => exact ⟨0, Nat.zero_le _, rfl, rfl, by rw [row_none p cs i (i + 1 + 0) (Nat.le_refl _), List.append_nil]; exact HS2.out, HK2.out⟩
      case round =>
        clear HS2 HK2
        obtain ⟨t, ht, hgk2, rfl, hS, hKa⟩ := hrel
        have HS := Lib.hid hS
        have HK := Lib.hid hKa
        clear hS hKa
        by_cases hlt2 : t < r
        · have hkn : i + 1 + t < n := by have := HRr.out; omega
          have HKN := Lib.hid hkn
          obtain ⟨b', off', e, c0, c1⟩ := (H.out.later HS.out.b).cells (i := i + 1 + t) (by rw [HN.out]; exact hkn)
          cases e
          obtain rfl := ho2 (by omega)
          rw [show off + (i + 1 + t) * 2 = off + (i + 1) * 2 + t * 2 by omega] at c0 c1
          obtain ⟨y, hy⟩ : ∃ y, at_ cs (i + 1 + t) = y := ⟨_, rfl⟩
          rw [hy] at c0 c1
          have HY := Lib.hid hy
          have HS3 := Lib.hid (HS.out.alloc (.cells #[.int .i64 y.co, .int .i64 y.ce] 58))
          have HK3 := Lib.hid (HK.out.alloc (.cells #[.int .i64 y.co, .int .i64 y.ce] 58))
          have HL3 := Lib.hid (Blk.new wr 58 #[.int .i64 y.co, .int .i64 y.ce])
          obtain ⟨o, ho⟩ : ∃ o, p x y = o := ⟨_, rfl⟩
          have HO := Lib.hid ho
          have CP := Lib.hid (HP.out i (i + 1 + t) (by omega) (by rw [HN.out]; exact hkn) _ HS3.out.b)
          rw [HX.out, HY.out, ho] at CP
          clear hy ho hkn
          go_upto_region 8 with (fail)
          obtain ⟨⟨e0, e1⟩, -⟩ := blk_cells HK3.out
          obtain ⟨⟨f0, f1⟩, -⟩ := blk_cells HL3.out
          generalize wr.alloc (.cells #[.int .i64 y.co, .int .i64 y.ce] 58) = wz at *
          obtain ⟨B, hB⟩ : ∃ B, wr.heap.size = B := ⟨_, rfl⟩
          rw [hB] at HL3 f0 f1
          try rw [hB]
          clear hB c0 c1 HS HK
          cases o with
          | false =>
            have HSk := Lib.hid (row_no (p := p) (cs := cs) (i := i) (k := i + 1 + t) (by rw [HX.out, HY.out]; exact HO.out))
            go_wp2_with (go_at_fn g; refine CP.out.mono ?_; rintro e w2 ⟨rfl, hb⟩; have HS4 := Lib.hid (HS3.out.below hb); have HK4 := Lib.hid (HK3.out.later hb); clear hb)
            go_roundg (r - (t + 1))
            case measure => omega
            case rel => exact ⟨t + 1, by omega, rfl, by go_num, by rw [show i + 1 + (t + 1) = i + 1 + t + 1 by omega, HSk.out]; exact HS4.out, HK4.out⟩
          | true =>
            have HTk := Lib.hid (row_yes (p := p) (cs := cs) (i := i) (k := i + 1 + t) (by omega) (by rw [HX.out, HY.out]; exact HO.out))
            obtain ⟨xs, hxs⟩ : ∃ xs, allP p cs i ++ rowP p cs i (i + 1 + t) = xs := ⟨_, rfl⟩
            have HXS := Lib.hid hxs
            rw [hxs] at HS3
            have hml : xs.length ≤ 111 := by
              rw [← hxs, List.length_append]
              have := row_len p cs i (i + 1 + t)
              have := HKN.out
              omega
            obtain ⟨mm, hm⟩ : ∃ mm, xs.length = mm := ⟨_, rfl⟩
            rw [hm] at hml
            have HM := Lib.hid hm
            clear hm hxs hlA'
            go_upto_if 30 with (go_at_fn g; refine CP.out.mono ?_; rintro e w2 ⟨rfl, hb⟩; have HS4 := Lib.hid (HS3.out.below hb); have HK4 := Lib.hid (HK3.out.later hb); have HL4 := Lib.hid (HL3.out.later hb); clear hb)
            clear e0 e1 f0 f1
            obtain ⟨⟨e0, e1⟩, -⟩ := blk_cells HK4.out
            obtain ⟨⟨f0, f1⟩, -⟩ := blk_cells HL4.out
            have hown := HS4.out.own.below ((Below.refl _ _).alloc (Nat.le_refl _) (.cells #[.int .i64 x.co, .int .i64 y.co] 59))
            unfold PrK.Own at hown
            rw [HM.out] at hown
            have HTa := Lib.hid (HS4.out.alloc (.cells #[.int .i64 x.co, .int .i64 y.co] 59))
            have HKa := Lib.hid (HK4.out.alloc (.cells #[.int .i64 x.co, .int .i64 y.co] 59))
            have hsz := HS4.out.b.size
            go_wp2_with (go_loud (at_builtin; (refine wpList_append_own _ rfl (.tmp 31) (.tmp 37) 53 rfl w.heap.size 59 t0 (.agg #[.int .i64 (PrK.no).a, .int .i64 (PrK.no).b]) 2 16 Try.underlying53 hi0 hz0 hz1 hz2 rfl (by decide) _ mm _ rfl hown ⟨_, 0, none⟩ 1 1 [.int .i64 x.co, .int .i64 y.co] rfl rfl (World.news_of_block (Blk.new _ _ _)) (by simp [Value.oneCell']) (by unfold maxLen; omega) (by omega) (by simp; omega) ?_; intro v' w3 hown3 hgr3 _; have HP3 := Lib.hid (HTa.out.put HM.out hgr3 hown3); have HK5 := Lib.hid (blk_put HTa.out.own HKa.out hgr3); clear hown3 hgr3)))
            go_roundg (r - (t + 1))
            case measure => omega
            case rel => exact ⟨t + 1, by omega, rfl, by go_num, by rw [show i + 1 + (t + 1) = i + 1 + t + 1 by omega, HTk.out, ← List.append_assoc, HXS.out, HX.out, HY.out]; exact HP3.out, HK5.out⟩
        · obtain rfl : t = r := by omega
          have HE := Lib.hid (show Gr w u5 (allP p cs (i + 1)) wr from by
            have h := HS.out
            have e : i + 1 + t = n := by have := HRr.out; omega
            rw [e] at h
            rw [allP, HN.out]
            exact h)
          go_wp2
          go_roundg (n - (i + 1))
          case measure => omega
          case rel => exact ⟨i + 1, by omega, rfl, by go_num, HE.out⟩
    · obtain rfl : i = n := by omega
      go_wp2
      go_ret
      exact ⟨_, rfl, HS.out.own, HS.out.b⟩

end Go.Proofs.Ytfpfnnindlfgfaa.PrP
