/- The drawing of lists of features. -/
import Derived.Test.YtpfjdlaaakkimaaDoorDrF
import Derived.Test.YtpfjdlaaakkimaaDoorFtL
import Derived.Deep.CutRange
import Derived.Deep.DeepCutAuto
import Derived.Deep.LoopGhost
import Derived.Deep.AppendLies
namespace Go.Proofs.YtpfjdlaaakkimaaDoor.FsD
open Go.RowKit Lb Bk Cur FtD FtG CodB DrF FtL
set_option linter.unusedSimpArgs false
set_option linter.unusedVariables false

/-- The cells of a list of features. -/
def cellsF : List Ft → List Value
  | [] => []
  | f :: r => .int .i64 f.c :: .string f.wh :: .string f.wt :: .string f.lk :: .string f.sd :: cellsF r
theorem cells_app (f : Ft) : ∀ fs, cellsF (fs ++ [f]) = cellsF fs ++ [.int .i64 f.c, .string f.wh, .string f.wt, .string f.lk, .string f.sd]
  | [] => rfl
  | g :: r => by rw [List.cons_append, cellsF, cells_app f r, cellsF]; rfl
theorem cells_len : ∀ fs, (cellsF fs).length = fs.length * 5
  | [] => rfl
  | g :: r => by rw [cellsF, List.length_cons, List.length_cons, List.length_cons, List.length_cons, List.length_cons, List.length_cons, cells_len r]; omega
theorem cells_at : ∀ (fs : List Ft) (i : Nat), i < fs.length → ∀ j, j < 5 → (cellsF fs)[i * 5 + j]? = some (cF (fAt fs i) j)
  | [], i, h, _, _ => absurd h (Nat.not_lt_zero _)
  | f :: r, 0, _, j, hj => by
    rw [Nat.zero_mul, Nat.zero_add]
    obtain rfl | rfl | rfl | rfl | rfl : j = 0 ∨ j = 1 ∨ j = 2 ∨ j = 3 ∨ j = 4 := by omega
    all_goals rfl
  | f :: r, i + 1, h, j, hj => by
    rw [show (i + 1) * 5 + j = (i * 5 + j) + 5 by omega]
    have := cells_at r i (by simpa using h) j hj
    simpa [cellsF, fAt] using this

/-- The list that is drawn, of its own; the reader beside it. -/
structure Fl (w W : World) (b m : Nat) (v : Value) (fs : List Ft) : Prop where
  ok : Ok W b m
  lb : b < w.heap.size
  G : w.grownBy W (some b)
  L : W.ownsRow w.heap.size 25 5 v fs.length (cellsF fs)
theorem Fl.step {w W W' : World} {b m m' : Nat} {v : Value} {fs : List Ft} (h : Fl w W b m v fs) (ho : Ok W' b m') (hg : W.grownBy W' (some b)) : Fl w W' b m' v fs := by
  refine ⟨ho, h.lb, gtrans h.G hg, h.L.kept hg ?_⟩
  cases hv : v.ownBlock with
  | none => exact .inl rfl
  | some k =>
    have := (h.L.lt k hv).1
    have h2 := h.lb
    exact .inr (fun e => by have : k = b := by simpa using e
                            omega)
theorem Fl.mono {w W : World} {b m m' : Nat} {v : Value} {fs : List Ft} (h : Fl w W b m v fs) (hm : m ≤ m') : Fl w W b m' v fs := ⟨h.ok.mono hm, h.lb, h.G, h.L⟩
theorem Fl.below {w W W' : World} {b m : Nat} {v : Value} {fs : List Ft} (h : Fl w W b m v fs) (hb : Below W.heap.size W W') : Fl w W' b m v fs :=
  ⟨h.ok.below hb, h.lb, gtrans h.G (gbelow hb _), h.L.kept (row := none) (gbelow hb _) (by cases hv : v.ownBlock with
    | none => exact .inl rfl
    | some k => exact .inr (by simp))⟩
theorem Fl.put {w W W' : World} {b m : Nat} {v : Value} {fs : List Ft} (h : Fl w W b m v fs) (f : Ft) {g cap : Nat}
    (ho : W'.ownsRow w.heap.size 25 5 (.slice (some ⟨g, 0, none⟩) (fs.length + 1) cap) (fs.length + 1) (cellsF fs ++ [.int .i64 f.c, .string f.wh, .string f.wt, .string f.lk, .string f.sd])) (hg : W.grownBy W' v.ownBlock) :
    Fl w W' b m (.slice (some ⟨g, 0, none⟩) (fs.length + 1) cap) (fs ++ [f]) := by
  have hB : Below w.heap.size W W' := (Below.refl _ _).grown hg h.G.size (fun k e => (h.L.lt k e).1)
  refine ⟨ok_belowB h.ok hB h.lb, h.lb, grown_B h.G hB (Nat.le_refl _), ?_⟩
  rw [cells_app, List.length_append]
  exact ho
theorem Fl.start {w : World} {b m : Nat} (h : Ok w b m) : Fl w (w.alloc (.cells #[] 25)) b m (.slice (some ⟨w.heap.size, 0, none⟩) 0 0) [] :=
  ⟨h.below ((Below.refl _ _).alloc (Nat.le_refl _) _), h.lt, gbelow ((Below.refl _ _).alloc (Nat.le_refl _) _) _, World.ownsRow_made w #[] 0 (Nat.le_refl _) (Nat.zero_le _) rfl⟩

theorem Fl.form {w W : World} {b m : Nat} {v : Value} {fs : List Ft} (h : Fl w W b m v fs) : ∃ a cap, v = .slice a fs.length cap ∧ FRow W a fs.length (fAt fs) ∧ ∀ x, a = some x → x.block < W.heap.size := by
  rcases h.L.2 with ⟨rfl, hn⟩ | ⟨g, cap, cur, rfl, hg, hh, r⟩
  · exact ⟨none, 0, by rw [hn], .inl hn, fun x e => by cases e⟩
  · refine ⟨_, cap, rfl, .inr ⟨g, 0, rfl, fun i hi j hj => ?_⟩, fun x e => ?_⟩
    · rw [Nat.zero_add]
      exact (h.L.cellAt _ (by omega)).trans (cells_at fs i hi j hj)
    · cases e
      exact (h.L.lt g (by simp [Value.ownBlock])).2

set_option maxRecDepth 20000 in
set_option maxHeartbeats 4000000 in
theorem features_any (b m : Nat) (w : World) (hm : m ≤ 1152921504606830000) (hok : Ok w b m) :
    Calls Tryd.prog 69 #[.pointer (some ⟨b, 0, none⟩)] w fun e w' => ∃ v fs, e = .returned v ∧ fs.length ≤ 21 ∧ Fl w w' b (m + 200) v fs := by
  obtain ⟨t0, hi, hz0, hz1, hz2⟩ := info_parts fInfo
  have H0 := Lib.hid (Fl.start hok)
  clear hok
  go_enter Tryd.func69, Tryd.ntmps69
  go_wp2_with fail
  refine (pick_any b m 6 _ (by omega) (by omega) (by omega) H0.out.ok).mono ?_
  rintro e w1 ⟨⟨N, rfl, _, hN'⟩, hok, hg⟩
  have hN : N ≤ 5 := by omega
  have H1 := Lib.hid (H0.out.step hok hg)
  clear hok hg hN' H0
  go_wp2_with fail
  go_loopg [3, 4] N (fun gk v i wr => ∃ k : Nat, k ≤ 5 ∧ gk = k ∧ i = .int .i64 k ∧ ∃ fs : List Ft, fs.length + k = N ∧ Fl w wr b (m + 2 + 24 * fs.length) v fs)
  case atStart => exact ⟨N, hN, rfl, rfl, [], by simp, H1.out.mono (by omega)⟩
  case round =>
    obtain ⟨k, hk, hgk, rfl, fs, hfs, hF⟩ := hrel
    have H2 := Lib.hid hF
    clear hF H1
    by_cases hlt : 0 < k
    · have hlt' : (0 : Int) < (k : Int) := by omega
      have hwr : IntKind.i64.wrap ((k : Int) - 1) = (k : Int) - 1 := IntWalk.i64_in _ (by omega)
      go_wp2_with fail
      refine (feature_any b _ _ (by omega) H2.out.ok).mono ?_
      rintro e w3 ⟨⟨f, rfl⟩, hok, hg⟩
      have H3 := Lib.hid (H2.out.step hok hg)
      clear hok hg H2
      have hown := H3.out.L
      have h63 : fs.length + 1 ≤ maxLen := by unfold maxLen; omega
      have h64 : (fs.length + 1) * 72 ≤ 140737488355328 := by omega
      have HTa := Lib.hid (H3.out.below ((Below.refl _ _).alloc (Nat.le_refl _) (.cells #[.int .i64 f.c, .string f.wh, .string f.wt, .string f.lk, .string f.sd] 25)))
      have hsz := H3.out.G.size
      go_wp2_with (at_builtin; (refine wpList_append_lies _ rfl (.tmp 12) (.tmp 15) 40 rfl w.heap.size 25 t0 (.agg #[.int .i64 noF.c, .string noF.wh, .string noF.wt, .string noF.lk, .string noF.sd]) 5 72 Tryd.underlying40 hi hz0 hz1 hz2 rfl (by decide) _ fs.length _ rfl (hown.alloc _) ⟨_, 0, none⟩ 1 1 [.int .i64 f.c, .string f.wh, .string f.wt, .string f.lk, .string f.sd] rfl rfl (World.news_of_block (Blk.new _ _ _)) (by simp [Value.oneCell']) (by decide) h63 h64 (by simp; omega) _ rfl ?_; intro g' cap' w3' hown3 hgr3 _ _; have HP := Lib.hid (HTa.out.put f hown3 hgr3); clear hown3 hgr3))
      go_roundg (k - 1)
      case measure => omega
      case rel => exact ⟨k - 1, by omega, rfl, by go_num, fs ++ [f], by simp; omega, by
        rw [List.length_append]
        exact HP.out.mono (by simp; omega)⟩
    · have hk0 : k = 0 := by omega
      subst hk0
      go_upto_if 18 with (go_at_call 56; refine (one_any b _ 24 _ (by omega) (by omega) (by omega) H2.out.ok).mono ?_; rintro e w4 ⟨⟨t, rfl⟩, hok, hg⟩; have H3 := Lib.hid (H2.out.step hok hg); clear hok hg)
      go_cut [3] from 19 to 31 (fun v wx => ∃ fs : List Ft, fs.length ≤ 21 ∧ Fl w wx b (m + 200) v fs)
      case first =>
        cases t with
        | false =>
          go_wp2
          go_meet
          exact ⟨fs, by omega, H3.out.mono (by omega)⟩
        | true =>
          go_wp2_with fail
          go_loopg [3] (21 - fs.length) (fun gk v wr => ∃ fs : List Ft, fs.length ≤ 21 ∧ gk = 21 - fs.length ∧ Fl w wr b (m + 130 + 2 * fs.length) v fs)
          case atStart => exact ⟨fs, by omega, rfl, H3.out.mono (by omega)⟩
          case round =>
            clear H3 H2 hfs hk
            obtain ⟨ps, hps, hgk, hF⟩ := hrel
            obtain ⟨pa, pc, rfl, hrow, hblk⟩ := hF.form
            have H4 := Lib.hid hF
            clear hF hrow hblk
            go_wp2_with fail
            refine (pick_any b _ 2 _ (by omega) (by omega) (by omega) H4.out.ok).mono ?_
            rintro e w5 ⟨⟨q, rfl, _, hq'⟩, hok, hg⟩
            have hq : q ≤ 1 := by omega
            have H5 := Lib.hid (H4.out.step hok hg)
            clear hok hg hq' H4
            have hwr : IntKind.i64.wrap (20 + (q : Int)) = 20 + q := IntWalk.i64_in _ (by omega)
            by_cases hlt : ps.length < 20 + q
            · have hlt' : (ps.length : Int) < 20 + (q : Int) := by omega
              have hw2 : IntKind.i64.wrap (40 + (ps.length : Int)) = 40 + ps.length := IntWalk.i64_in _ (by omega)
              obtain ⟨f, hf⟩ : ∃ f : Ft, f = ⟨40 + ps.length, ⟨#[]⟩, ⟨#[112, 105, 116]⟩, ⟨#[]⟩, ⟨#[]⟩⟩ := ⟨_, rfl⟩
              have hown := H5.out.L
              have h63 : ps.length + 1 ≤ maxLen := by unfold maxLen; omega
              have h64 : (ps.length + 1) * 72 ≤ 140737488355328 := by omega
              have HTa := Lib.hid (H5.out.below ((Below.refl _ _).alloc (Nat.le_refl _) (.cells #[.int .i64 (40 + ps.length), .string ⟨#[]⟩, .string ⟨#[112, 105, 116]⟩, .string ⟨#[]⟩, .string ⟨#[]⟩] 25)))
              have hsz := H5.out.G.size
              go_wp2_with (at_builtin; (refine wpList_append_lies _ rfl (.tmp 25) (.tmp 30) 40 rfl w.heap.size 25 t0 (.agg #[.int .i64 noF.c, .string noF.wh, .string noF.wt, .string noF.lk, .string noF.sd]) 5 72 Tryd.underlying40 hi hz0 hz1 hz2 rfl (by decide) _ ps.length _ rfl (hown.alloc _) ⟨_, 0, none⟩ 1 1 [.int .i64 (40 + ps.length), .string ⟨#[]⟩, .string ⟨#[112, 105, 116]⟩, .string ⟨#[]⟩, .string ⟨#[]⟩] rfl rfl (World.news_of_block (Blk.new _ _ _)) (by simp [Value.oneCell']) (by decide) h63 h64 (by simp; omega) _ rfl ?_; intro g' cap' w3' hown3 hgr3 _ _; have HP := Lib.hid (HTa.out.put ⟨40 + ps.length, ⟨#[]⟩, ⟨#[112, 105, 116]⟩, ⟨#[]⟩, ⟨#[]⟩⟩ hown3 hgr3); clear hown3 hgr3))
              go_roundg (21 - (ps.length + 1))
              case measure => omega
              case rel => exact ⟨ps ++ [⟨40 + ps.length, ⟨#[]⟩, ⟨#[112, 105, 116]⟩, ⟨#[]⟩, ⟨#[]⟩⟩], by simp; omega, by simp, by
                have h1 := HP.out
                rw [List.length_append]
                exact h1.mono (by simp; omega)⟩
            · have hlt' : ¬ (ps.length : Int) < 20 + (q : Int) := by omega
              go_wp2
              go_meet
              exact ⟨ps, hps, H5.out.mono (by omega)⟩
      case rest =>
      obtain ⟨fs2, hl2, hF⟩ := hcut
      have H6 := Lib.hid hF
      clear hF
      go_wp2
      go_ret
      exact ⟨_, fs2, rfl, hl2, H6.out⟩

set_option maxHeartbeats 1000000 in
theorem sheet_any (a : Option Addr) (n cap : Nat) (xs : Nat → Nat) (w : World) (hc : Bytes w a n xs) :
    Calls Tryd.prog 22 #[.slice a n cap] w fun e w' => (∃ a k c h, e = .returned (.slice a k c) ∧ k ≤ 21 ∧ FRow w' a k h) ∧ Below w.heap.size w w' := by
  have HR := Lib.hid (Rs.start (B := w.heap.size) hc cap rfl)
  clear hc
  go_enter Tryd.func22, Tryd.ntmps22
  go_wp2_with fail
  refine (features_any _ 0 _ (by omega) HR.out.ok).mono ?_
  rintro e w1 ⟨v, fs, rfl, hl, hF⟩
  have H1 := Lib.hid (HR.out.step hF.ok hF.G)
  obtain ⟨a1, c1, rfl, hrow, -⟩ := hF.form
  have HF := Lib.hid hrow
  clear hF hrow
  go_wp2
  go_ret
  exact ⟨⟨_, _, _, _, rfl, hl, HF.out⟩, H1.out.B⟩

end Go.Proofs.YtpfjdlaaakkimaaDoor.FsD
