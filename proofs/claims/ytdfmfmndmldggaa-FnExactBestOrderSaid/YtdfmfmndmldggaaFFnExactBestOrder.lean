/- 'FnExactBestOrder': the statement's frame: the walk is in BorL.law_any; here the given row is met by it. -/
import Derived.Test.YtdfmfmndmldggaaKrD
import Derived.Test.YtdfmfmndmldggaaKrV
import Derived.Test.YtdfmfmndmldggaaKrQ2
import Derived.Test.YtdfmfmndmldggaaCoB
import Derived.Test.YtdfmfmndmldggaaTmsI
import Derived.Test.YtdfmfmndmldggaaKrE
import Derived.Test.YtdfmfmndmldggaaKrU
import Derived.Test.YtdfmfmndmldggaaPutS
import Derived.Test.YtdfmfmndmldggaaBaA
import Derived.Test.YtdfmfmndmldggaaBaC
import Derived.RegionTactic
import Derived.Deep.RegionWith
import Derived.Test.YtdfmfmndmldggaaRows
import Derived.WalkKit
import Derived.ProofKit
import Derived.OpenShut
import Derived.ShutString
import Derived.ChangeOld
import Derived.Below
namespace Go.Proofs.Ytdfmfmndmldggaa.KrP
open Go.RowKit Lb Bk IntS CtK CoM CoP CoF KrM KrI KrD LtI
open KrO (own_ints)
set_option linter.unusedSimpArgs false
set_option linter.unusedVariables false

/-- A beginning in memory: the codes up to it, the newest one first, and its time. -/
def Ch (cs : List Ct) (w : World) : List Int → Int → Option Addr → Prop
  | [], _, p => p = none
  | x :: r, t, p => ∃ B q t', p = some ⟨B, 0, none⟩ ∧ (w.cell? ⟨B, 0, none⟩ = some (.pointer q) ∧ w.cell? ⟨B, 1, none⟩ = some (.int .i64 x) ∧ w.cell? ⟨B, 2, none⟩ = some (.int .i64 (ceA cs x)) ∧ w.cell? ⟨B, 3, none⟩ = some (.int .i64 t)) ∧ Ch cs w r t' q
theorem Ch.later {cs : List Ct} {w w' : World} (hb : Below w.heap.size w w') : ∀ {l : List Int} {t : Int} {p : Option Addr}, Ch cs w l t p → Ch cs w' l t p
  | [], _, _, h => h
  | x :: r, t, p, ⟨B, q, t', h1, ⟨c0, c1, c2, c3⟩, h3⟩ => ⟨B, q, t', h1, ⟨(hb.cell (World.block_lt_of_cell? w _ c0)).trans c0, (hb.cell (World.block_lt_of_cell? w _ c1)).trans c1, (hb.cell (World.block_lt_of_cell? w _ c2)).trans c2, (hb.cell (World.block_lt_of_cell? w _ c3)).trans c3⟩, Ch.later hb h3⟩
/-- The table of the times between codes. -/
def Tb (T : Nat → Nat → Int) (cs : List Ct) (S : List Int) (g : Nat) (w : World) : Prop :=
  ∀ x, x ∈ S → ∃ R, w.cell? ⟨g, (ceA cs x).toNat, none⟩ = some (.slice (some ⟨R, 0, none⟩) 36 36) ∧ ∀ y, y ∈ S → w.cell? ⟨R, (ceA cs y).toNat, none⟩ = some (.int .i64 (DD T cs x y))
theorem Tb.later {T : Nat → Nat → Int} {cs : List Ct} {S : List Int} {g : Nat} {w w' : World} (h : Tb T cs S g w) (hb : Below w.heap.size w w') : Tb T cs S g w' := fun x hx => by
  obtain ⟨R, h1, h2⟩ := h x hx
  exact ⟨R, (hb.cell (World.block_lt_of_cell? w _ h1)).trans h1, fun y hy => (hb.cell (World.block_lt_of_cell? w _ (h2 y hy))).trans (h2 y hy)⟩
/-- What the codes are: found, and with ways between them. -/
structure Cd (m : Mp) (T : Nat → Nat → Int) (cs : List Ct) (S : List Int) (ww hh : Nat) : Prop where
  g : GoodM m ww hh
  ok : goodB m cs = true
  fnd : ∀ x, x ∈ S → 0 ≤ fiZ cs x
  dd : ∀ x y, x ∈ S → y ∈ S → 0 ≤ DD T cs x y ∧ DD T cs x y ≤ 972
theorem Cd.cell {m : Mp} {T : Nat → Nat → Int} {cs : List Ct} {S : List Int} {ww hh : Nat} (h : Cd m T cs S ww hh) {x : Int} (hx : x ∈ S) : ∃ c : Nat, ceA cs x = (c : Int) ∧ c < ww * hh := by
  obtain ⟨c, h1, h2⟩ := fnd_open h.g h.ok (h.fnd x hx)
  exact ⟨c, h1, h2.1⟩

set_option maxRecDepth 100000 in
set_option maxHeartbeats 4000000 in
theorem gone_any (m : Mp) (T : Nat → Nat → Int) (cs : List Ct) (S : List Int) (ww hh : Nat) (C : Cd m T cs S ww hh) (x y : Int) (hx : x ∈ S) (hy : y ∈ S) (r : List Int) (t : Int) (ht0 : 0 ≤ t) (ht : t ≤ 100000) (p : Option Addr) (g cap : Nat) (w : World) (hT : Tb T cs S g w) (hC : Ch cs w (x :: r) t p) :
    Calls Try.prog 102 #[.slice (some ⟨g, 0, none⟩) (ww * hh) cap, .pointer p, .agg #[.int .i64 y, .int .i64 (ceA cs y)]] w fun e w' => ∃ q, e = .returned (.pointer q) ∧ Ch cs w' (y :: x :: r) (t + DD T cs x y) q ∧ Below w.heap.size w w' := by
  obtain ⟨cx, ecx, hcx⟩ := C.cell hx
  obtain ⟨cy, ecy, hcy⟩ := C.cell hy
  have n36 := C.g.n36
  have hd := C.dd x y hx hy
  obtain ⟨R, r0, r1⟩ := hT x hx
  have r1 := r1 y hy
  rw [ecx] at r0
  rw [ecy] at r1
  rw [Int.toNat_natCast] at r0 r1
  have HC := Lib.hid hC
  obtain ⟨B, q0, t', rfl, ⟨b0, b1, b2, b3⟩, hrest⟩ := hC
  rw [ecx] at b2
  obtain ⟨d, hdd⟩ : ∃ d, DD T cs x y = d := ⟨_, rfl⟩
  rw [hdd] at r1 hd
  have HE := Lib.hid ecy
  rw [ecy, hdd]
  obtain ⟨NB, hNB⟩ : ∃ z, w.heap.size = z := ⟨_, rfl⟩
  have hb := (Below.refl w.heap.size w).alloc (Nat.le_refl _) (.cells #[.int .i64 y, .int .i64 (cy : Int)] 70)
  have HB := Lib.hid hb
  have HN := Lib.hid hNB
  have hK := Blk.new w 70 #[.int .i64 y, .int .i64 (cy : Int)]
  rw [hNB] at hK
  have n0 := hK.cell 0 rfl
  have n1 := hK.cell 1 rfl
  replace b0 := (hb.cell (World.block_lt_of_cell? w _ b0)).trans b0
  replace b1 := (hb.cell (World.block_lt_of_cell? w _ b1)).trans b1
  replace b2 := (hb.cell (World.block_lt_of_cell? w _ b2)).trans b2
  replace b3 := (hb.cell (World.block_lt_of_cell? w _ b3)).trans b3
  replace r0 := (hb.cell (World.block_lt_of_cell? w _ r0)).trans r0
  replace r1 := (hb.cell (World.block_lt_of_cell? w _ r1)).trans r1
  obtain ⟨td, htd⟩ : ∃ z, t + d = z := ⟨_, rfl⟩
  have hwt : IntKind.i64.wrap (t + d) = td := by rw [← htd]; exact IntWalk.i64_in _ (by omega)
  rw [htd]
  have hc0 : (0 : Int) ≤ (cx : Int) := by omega
  have hc1 : (cx : Int) < ((ww * hh : Nat) : Int) := by omega
  have hc2 : (cx : Int) < (ww : Int) * (hh : Int) := by rw [← Int.natCast_mul]; omega
  have hc3 : (0 : Int) ≤ (cy : Int) := by omega
  have hc4 : (cy : Int) < 36 := by omega
  have hu : undef = Value.tuple #[] := rfl
  clear hK hb hT hrest ecx ecy hdd hd C hx hy ht0 ht htd
  go_enter Try.func102, Try.ntmps102
  try rw [hNB]
  go_upto_region 1 with (fail)
  try rw [hNB]
  clear hNB
  generalize hwz : w.alloc (.cells #[.int .i64 y, .int .i64 (cy : Int)] 70) = wz at *
  have HWz := Lib.hid hwz
  clear hwz
  refine wp_region_noPanic ?_
  refine wp_region_held_drew (S := (fun Wx : World => Wx.cell? ⟨NB, 0, none⟩ = some (.int .i64 y) ∧ Wx.cell? ⟨NB, 1, none⟩ = some (.int .i64 cy) ∧ Wx.cell? ⟨B, 0, none⟩ = some (.pointer q0) ∧ Wx.cell? ⟨B, 1, none⟩ = some (.int .i64 x) ∧ Wx.cell? ⟨B, 2, none⟩ = some (.int .i64 cx) ∧ Wx.cell? ⟨B, 3, none⟩ = some (.int .i64 t) ∧ Wx.cell? ⟨g, cx, none⟩ = some (.slice (some ⟨R, 0, none⟩) 36 36) ∧ Wx.cell? ⟨R, cy, none⟩ = some (.int .i64 d))) (by kernel_rfl) ⟨n0, n1, b0, b1, b2, b3, r0, r1⟩ (fun hHeld => ?_)
  refine wpAnyH_take (i := 0) (oi := _) (v := ?_) rfl (by kernel_rfl) (by kernel_rfl) (by kernel_rfl) (fun _ _ _ h => h) (Or.inl ⟨by rfl, ?_⟩) (by assumption) ?_; rotate_left; focus (intro W hSw; (try dsimp only at hSw); go_simp; (first | done | with_reducible rfl))
  (try simp only [List.getElem_toArray, List.getElem_cons_succ, List.getElem_cons_zero, Act.put, List.setIfInBounds_toArray, List.set_cons_zero, List.set_cons_succ])
  refine wpAnyH_take (i := 1) (oi := _) (v := ?_) rfl (by kernel_rfl) (by kernel_rfl) (by kernel_rfl) (fun _ _ _ h => h) (Or.inl ⟨by rfl, ?_⟩) (by assumption) ?_; rotate_left; focus (intro W hSw; (try dsimp only at hSw); go_simp; (first | done | with_reducible rfl))
  (try simp only [List.getElem_toArray, List.getElem_cons_succ, List.getElem_cons_zero, Act.put, List.setIfInBounds_toArray, List.set_cons_zero, List.set_cons_succ])
  refine wpAnyH_take (i := 2) (oi := _) (v := ?_) rfl (by kernel_rfl) (by kernel_rfl) (by kernel_rfl) (fun _ _ _ h => h) (Or.inl ⟨by rfl, ?_⟩) (by assumption) ?_; rotate_left; focus (intro W hSw; (try dsimp only at hSw); go_simp; (first | done | with_reducible rfl))
  (try simp only [List.getElem_toArray, List.getElem_cons_succ, List.getElem_cons_zero, Act.put, List.setIfInBounds_toArray, List.set_cons_zero, List.set_cons_succ])
  refine wpAnyH_take (i := 3) (oi := _) (v := ?_) rfl (by kernel_rfl) (by kernel_rfl) (by kernel_rfl) (fun _ _ _ h => h) (Or.inl ⟨by rfl, ?_⟩) (by assumption) ?_; rotate_left; focus (intro W hSw; (try dsimp only at hSw); go_simp; (first | done | with_reducible rfl))
  (try simp only [List.getElem_toArray, List.getElem_cons_succ, List.getElem_cons_zero, Act.put, List.setIfInBounds_toArray, List.set_cons_zero, List.set_cons_succ])
  refine wpAnyH_take (i := 4) (oi := _) (v := ?_) rfl (by kernel_rfl) (by kernel_rfl) (by kernel_rfl) (fun _ _ _ h => h) (Or.inl ⟨by rfl, ?_⟩) (by assumption) ?_; rotate_left; focus (intro W hSw; (try dsimp only at hSw); go_simp; (first | done | with_reducible rfl))
  (try simp only [List.getElem_toArray, List.getElem_cons_succ, List.getElem_cons_zero, Act.put, List.setIfInBounds_toArray, List.set_cons_zero, List.set_cons_succ])
  refine wpAnyH_take (i := 5) (oi := _) (v := ?_) rfl (by kernel_rfl) (by kernel_rfl) (by kernel_rfl) (fun _ _ _ h => h) (Or.inl ⟨by rfl, ?_⟩) (by assumption) ?_; rotate_left; focus (intro W hSw; (try dsimp only at hSw); go_simp; (first | done | with_reducible rfl))
  (try simp only [List.getElem_toArray, List.getElem_cons_succ, List.getElem_cons_zero, Act.put, List.setIfInBounds_toArray, List.set_cons_zero, List.set_cons_succ])
  refine wpAnyH_take (i := 6) (oi := _) (v := ?_) rfl (by kernel_rfl) (by kernel_rfl) (by kernel_rfl) (fun _ _ _ h => h) (Or.inl ⟨by rfl, ?_⟩) (by assumption) ?_; rotate_left; focus (intro W hSw; (try dsimp only at hSw); go_simp; (first | done | with_reducible rfl))
  (try simp only [List.getElem_toArray, List.getElem_cons_succ, List.getElem_cons_zero, Act.put, List.setIfInBounds_toArray, List.set_cons_zero, List.set_cons_succ])
  refine wpAnyH_take (i := 7) (oi := _) (v := ?_) rfl (by kernel_rfl) (by kernel_rfl) (by kernel_rfl) (fun _ _ _ h => h) (Or.inl ⟨by rfl, ?_⟩) (by assumption) ?_; rotate_left; focus (intro W hSw; (try dsimp only at hSw); go_simp; (first | done | with_reducible rfl))
  (try simp only [List.getElem_toArray, List.getElem_cons_succ, List.getElem_cons_zero, Act.put, List.setIfInBounds_toArray, List.set_cons_zero, List.set_cons_succ])
  refine wpAnyH_take (i := 8) (oi := _) (v := ?_) rfl (by kernel_rfl) (by kernel_rfl) (by kernel_rfl) (fun _ _ _ h => h) (Or.inl ⟨by rfl, ?_⟩) (by assumption) ?_; rotate_left; focus (intro W hSw; (try dsimp only at hSw); go_simp; (first | done | with_reducible rfl))
  (try simp only [List.getElem_toArray, List.getElem_cons_succ, List.getElem_cons_zero, Act.put, List.setIfInBounds_toArray, List.set_cons_zero, List.set_cons_succ])
  refine wpAnyH_take (i := 9) (oi := _) (v := ?_) rfl (by kernel_rfl) (by kernel_rfl) (by kernel_rfl) (fun _ _ _ h => h) (Or.inl ⟨by rfl, ?_⟩) (by assumption) ?_; rotate_left; focus (intro W hSw; (try dsimp only at hSw); go_simp; (first | done | with_reducible rfl))
  (try simp only [List.getElem_toArray, List.getElem_cons_succ, List.getElem_cons_zero, Act.put, List.setIfInBounds_toArray, List.set_cons_zero, List.set_cons_succ])
  refine wpAnyH_take (i := 10) (oi := _) (v := ?_) rfl (by kernel_rfl) (by kernel_rfl) (by kernel_rfl) (fun _ _ _ h => h) (Or.inl ⟨by rfl, ?_⟩) (by assumption) ?_; rotate_left; focus (intro W hSw; (try dsimp only at hSw); go_simp; (first | done | with_reducible rfl))
  (try simp only [List.getElem_toArray, List.getElem_cons_succ, List.getElem_cons_zero, Act.put, List.setIfInBounds_toArray, List.set_cons_zero, List.set_cons_succ])
  refine wpAnyH_take (i := 11) (oi := _) (v := ?_) rfl (by kernel_rfl) (by kernel_rfl) (by kernel_rfl) (fun _ _ _ h => h) (Or.inl ⟨by rfl, ?_⟩) (by assumption) ?_; rotate_left; focus (intro W hSw; (try dsimp only at hSw); go_simp; (first | done | with_reducible rfl))
  (try simp only [List.getElem_toArray, List.getElem_cons_succ, List.getElem_cons_zero, Act.put, List.setIfInBounds_toArray, List.set_cons_zero, List.set_cons_succ])
  refine wpAnyH_take (i := 12) (oi := _) (v := ?_) rfl (by kernel_rfl) (by kernel_rfl) (by kernel_rfl) (fun _ _ _ h => h) (Or.inl ⟨by rfl, ?_⟩) (by assumption) ?_; rotate_left; focus (intro W hSw; (try dsimp only at hSw); go_simp; (first | done | with_reducible rfl))
  (try simp only [List.getElem_toArray, List.getElem_cons_succ, List.getElem_cons_zero, Act.put, List.setIfInBounds_toArray, List.set_cons_zero, List.set_cons_succ])
  refine wpAnyH_take (i := 13) (oi := _) (v := ?_) rfl (by kernel_rfl) (by kernel_rfl) (by kernel_rfl) (fun _ _ _ h => h) (Or.inl ⟨by rfl, ?_⟩) (by assumption) ?_; rotate_left; focus (intro W hSw; (try dsimp only at hSw); go_simp; (first | done | with_reducible rfl))
  (try simp only [List.getElem_toArray, List.getElem_cons_succ, List.getElem_cons_zero, Act.put, List.setIfInBounds_toArray, List.set_cons_zero, List.set_cons_succ])
  refine wpAnyH_take (i := 14) (oi := _) (v := ?_) rfl (by kernel_rfl) (by kernel_rfl) (by kernel_rfl) (fun _ _ _ h => h) (Or.inl ⟨by rfl, ?_⟩) (by assumption) ?_; rotate_left; focus (intro W hSw; (try dsimp only at hSw); go_simp; (first | done | with_reducible rfl))
  (try simp only [List.getElem_toArray, List.getElem_cons_succ, List.getElem_cons_zero, Act.put, List.setIfInBounds_toArray, List.set_cons_zero, List.set_cons_succ])
  refine wpAnyH_take (i := 15) (oi := _) (v := ?_) rfl (by kernel_rfl) (by kernel_rfl) (by kernel_rfl) (fun _ _ _ h => h) (Or.inl ⟨by rfl, ?_⟩) (by assumption) ?_; rotate_left; focus (intro W hSw; (try dsimp only at hSw); go_simp; (first | done | with_reducible rfl))
  (try simp only [List.getElem_toArray, List.getElem_cons_succ, List.getElem_cons_zero, Act.put, List.setIfInBounds_toArray, List.set_cons_zero, List.set_cons_succ])
  refine wpAnyH_take (i := 16) (oi := _) (v := ?_) rfl (by kernel_rfl) (by kernel_rfl) (by kernel_rfl) (fun _ _ _ h => h) (Or.inl ⟨by rfl, ?_⟩) (by assumption) ?_; rotate_left; focus (intro W hSw; (try dsimp only at hSw); go_simp; (first | done | with_reducible rfl))
  (try simp only [List.getElem_toArray, List.getElem_cons_succ, List.getElem_cons_zero, Act.put, List.setIfInBounds_toArray, List.set_cons_zero, List.set_cons_succ])
  refine wpAnyH_take (i := 17) (oi := _) (v := ?_) rfl (by kernel_rfl) (by kernel_rfl) (by kernel_rfl) (fun _ _ _ h => h) (Or.inl ⟨by rfl, ?_⟩) (by assumption) ?_; rotate_left; focus (intro W hSw; (try dsimp only at hSw); go_simp; (first | done | with_reducible rfl))
  (try simp only [List.getElem_toArray, List.getElem_cons_succ, List.getElem_cons_zero, Act.put, List.setIfInBounds_toArray, List.set_cons_zero, List.set_cons_succ])
  refine wpAnyH_take (i := 18) (oi := _) (v := ?_) rfl (by kernel_rfl) (by kernel_rfl) (by kernel_rfl) (fun _ _ _ h => h) (Or.inl ⟨by rfl, ?_⟩) (by assumption) ?_; rotate_left; focus (intro W hSw; (try dsimp only at hSw); go_simp; (first | done | with_reducible rfl))
  (try simp only [List.getElem_toArray, List.getElem_cons_succ, List.getElem_cons_zero, Act.put, List.setIfInBounds_toArray, List.set_cons_zero, List.set_cons_succ])
  refine wpAnyH_take (i := 19) (oi := _) (v := ?_) rfl (by kernel_rfl) (by kernel_rfl) (by kernel_rfl) (fun _ _ _ h => h) (Or.inl ⟨by rfl, ?_⟩) (by assumption) ?_; rotate_left; focus (intro W hSw; (try dsimp only at hSw); go_simp; (first | done | with_reducible rfl))
  (try simp only [List.getElem_toArray, List.getElem_cons_succ, List.getElem_cons_zero, Act.put, List.setIfInBounds_toArray, List.set_cons_zero, List.set_cons_succ])
  refine wpAnyH_ready (rs := [20]) (by kernel_rfl) (by simp) ?_
  refine AllReadyH.cons (o := _) rfl (fun K hK => ?_) AllReadyH.nil
  go_simp
  have hb2 : Below wz.heap.size wz (wz.alloc (.cells #[.pointer (some ⟨B, 0, none⟩), .int .i64 y, .int .i64 (cy : Int), .int .i64 td] 84)).drew := ((Below.refl _ _).alloc (Nat.le_refl _) _).drew
  have hK2 := Blk.new wz 84 #[.pointer (some ⟨B, 0, none⟩), .int .i64 y, .int .i64 (cy : Int), .int .i64 td]
  have hB2 : Below w.heap.size w (wz.alloc (.cells #[.pointer (some ⟨B, 0, none⟩), .int .i64 y, .int .i64 (cy : Int), .int .i64 td] 84)).drew := HB.out.trans (hb2.mono HB.out.size)
  have HF := Lib.hid (show Ch cs (wz.alloc (.cells #[.pointer (some ⟨B, 0, none⟩), .int .i64 y, .int .i64 (cy : Int), .int .i64 td] 84)).drew (y :: x :: r) td (some ⟨wz.heap.size, 0, none⟩) from
    ⟨wz.heap.size, some ⟨B, 0, none⟩, t, rfl, ⟨hK2.cell 0 rfl, hK2.cell 1 rfl, by rw [HE.out]; exact hK2.cell 2 rfl, hK2.cell 3 rfl⟩, HC.out.later hB2⟩)
  have HB2 := Lib.hid hB2
  have hb := hb2
  have hS : ((wz.alloc (.cells #[.pointer (some ⟨B, 0, none⟩), .int .i64 y, .int .i64 (cy : Int), .int .i64 td] 84)).drew.cell? ⟨NB, 0, none⟩ = some (.int .i64 y) ∧ (wz.alloc (.cells #[.pointer (some ⟨B, 0, none⟩), .int .i64 y, .int .i64 (cy : Int), .int .i64 td] 84)).drew.cell? ⟨NB, 1, none⟩ = some (.int .i64 cy) ∧ (wz.alloc (.cells #[.pointer (some ⟨B, 0, none⟩), .int .i64 y, .int .i64 (cy : Int), .int .i64 td] 84)).drew.cell? ⟨B, 0, none⟩ = some (.pointer q0) ∧ (wz.alloc (.cells #[.pointer (some ⟨B, 0, none⟩), .int .i64 y, .int .i64 (cy : Int), .int .i64 td] 84)).drew.cell? ⟨B, 1, none⟩ = some (.int .i64 x) ∧ (wz.alloc (.cells #[.pointer (some ⟨B, 0, none⟩), .int .i64 y, .int .i64 (cy : Int), .int .i64 td] 84)).drew.cell? ⟨B, 2, none⟩ = some (.int .i64 cx) ∧ (wz.alloc (.cells #[.pointer (some ⟨B, 0, none⟩), .int .i64 y, .int .i64 (cy : Int), .int .i64 td] 84)).drew.cell? ⟨B, 3, none⟩ = some (.int .i64 t) ∧ (wz.alloc (.cells #[.pointer (some ⟨B, 0, none⟩), .int .i64 y, .int .i64 (cy : Int), .int .i64 td] 84)).drew.cell? ⟨g, cx, none⟩ = some (.slice (some ⟨R, 0, none⟩) 36 36) ∧ (wz.alloc (.cells #[.pointer (some ⟨B, 0, none⟩), .int .i64 y, .int .i64 (cy : Int), .int .i64 td] 84)).drew.cell? ⟨R, cy, none⟩ = some (.int .i64 d)) := ⟨(hb.cell (World.block_lt_of_cell? wz _ n0)).trans n0, (hb.cell (World.block_lt_of_cell? wz _ n1)).trans n1, (hb.cell (World.block_lt_of_cell? wz _ b0)).trans b0, (hb.cell (World.block_lt_of_cell? wz _ b1)).trans b1, (hb.cell (World.block_lt_of_cell? wz _ b2)).trans b2, (hb.cell (World.block_lt_of_cell? wz _ b3)).trans b3, (hb.cell (World.block_lt_of_cell? wz _ r0)).trans r0, (hb.cell (World.block_lt_of_cell? wz _ r1)).trans r1⟩
  clear hb hb2 hK2 hB2
  refine hK.out _ _ hS (fun _ => ?_)
  clear hK K hS hHeld
  refine wpAnyH_take (i := 21) (oi := _) (v := ?_) rfl (by kernel_rfl) (by kernel_rfl) (by kernel_rfl) (fun _ _ _ h => h) (Or.inl ⟨by rfl, ?_⟩) (by assumption) ?_; rotate_left; focus (intro W hSw; (try dsimp only at hSw); go_simp; (first | done | with_reducible rfl))
  (try simp only [List.getElem_toArray, List.getElem_cons_succ, List.getElem_cons_zero, Act.put, List.setIfInBounds_toArray, List.set_cons_zero, List.set_cons_succ])
  refine wpAnyH_done (by kernel_rfl) ?_ _
  refine NoPanic.normal ?_
  (try simp only [List.getElem_toArray, List.getElem_cons_succ, List.getElem_cons_zero, Act.put, List.setIfInBounds_toArray, List.set_cons_zero, List.set_cons_succ])
  clear hu
  go_wp2
  go_ret
  exact ⟨_, rfl, HF.out, by rw [← HN.out]; exact HB2.out⟩

set_option maxRecDepth 20000 in
set_option maxHeartbeats 4000000 in
theorem codes_any (cs : List Ct) (l : List Int) (t : Int) (hl : l.length ≤ 1000) (hp : l ≠ []) (p : Option Addr) (w : World) (hC : Ch cs w l t p) :
    Calls Try.prog 80 #[.pointer p] w fun e w' => ∃ v, e = .returned v ∧ OwnI w' w.heap.size v l.reverse ∧ Below w.heap.size w w' := by
  obtain ⟨t0, hi0, hz0, hz1, hz2⟩ := info_parts iInfo
  have HC := Lib.hid hC
  have HS0 := Lib.hid (IntK.Gr.start w)
  have HPn := Lib.hid hp
  clear hC hp
  go_enter Try.func80, Try.ntmps80
  go_wp2
  go_loopg [4, 3] l.length (fun gk b v wr => ∃ (l1 l2 : List Int) (u : Int) (q : Option Addr), l = l1 ++ l2 ∧ gk = l2.length ∧ b = .pointer q ∧ Ch cs w l2 u q ∧ IntK.Gr w v l1 wr)
  case atStart => exact ⟨[], l, t, p, rfl, rfl, rfl, HC.out, HS0.out⟩
  case round =>
    clear HS0
    obtain ⟨l1, l2, u, q, hll, hgk, rfl, hch, hS⟩ := hrel
    have HS := Lib.hid hS
    have HL := Lib.hid hll
    clear hS
    cases l2 with
    | nil =>
      have hq : q = none := hch
      subst hq
      have HE := Lib.hid (show IntK.Gr w u3 l wr from by have := HS.out; rwa [show l1 = l from by rw [HL.out, List.append_nil]] at this)
      obtain ⟨ga, gc, e3, -, -⟩ := OwnI.slice HE.out.own
      obtain ⟨gb, rfl⟩ : ∃ g, ga = some ⟨g, 0, none⟩ := by
        rcases HE.out.own.2 with ⟨_, h0⟩ | ⟨g, c, cur, e, _⟩
        · exact absurd (List.eq_nil_of_length_eq_zero h0) HPn.out
        · rw [e] at e3
          exact ⟨g, by simpa using (Value.slice.inj e3).1.symm⟩
      subst e3
      have CR := Lib.hid (KrV.rev_own w.heap.size gb l.length gc l wr HE.out.own rfl (by omega))
      have hsz := HE.out.own.lt gb rfl
      clear hll hch HS HL
      go_wp2_with fail
      refine CR.out.mono ?_
      rintro e w3 ⟨rfl, ho, hg⟩
      have HO3 := Lib.hid ho
      have HB3 := Lib.hid (HE.out.b.grown hg HE.out.b.size (fun q e => by cases e; exact hsz.1))
      clear ho hg
      go_wp2
      go_ret
      exact ⟨_, rfl, HO3.out, HB3.out⟩
    | cons x r =>
      obtain ⟨B, q', t', rfl, ⟨b0, b1, b2, b3⟩, hrest⟩ := hch
      have HR := Lib.hid hrest
      have hb := HS.out.b
      have HW0 := Lib.hid b0
      replace b0 := (hb.cell (World.block_lt_of_cell? w _ b0)).trans b0
      replace b1 := (hb.cell (World.block_lt_of_cell? w _ b1)).trans b1
      have hlt : B < wr.heap.size := World.block_lt_of_cell? wr _ b0
      have hml : l1.length ≤ 1000 := by rw [hll, List.length_append] at hl; omega
      obtain ⟨mm, hm⟩ : ∃ mm, l1.length = mm := ⟨_, rfl⟩
      rw [hm] at hml
      have HM := Lib.hid hm
      have hown := HS.out.own.below ((Below.refl _ _).alloc (Nat.le_refl _) (.cells #[.int .i64 x] 3))
      unfold OwnI at hown
      rw [hm] at hown
      have HTa := Lib.hid (HS.out.alloc (.cells #[.int .i64 x] 3))
      have hsz := HS.out.b.size
      clear hm hll hrest hb b2 b3 hl
      go_wp2_with (go_loud (at_builtin; (refine wpList_append_own _ rfl (.tmp 13) (.tmp 19) 24 rfl w.heap.size 3 t0 (.int .i64 0) 1 8 Try.underlying24 hi0 hz0 hz1 hz2 rfl (by decide) _ mm _ rfl hown ⟨_, 0, none⟩ 1 1 [.int .i64 x] rfl rfl (cell_one_new _ _ _) (by simp [Value.oneCell']) (by unfold maxLen; omega) (by omega) (by simp; omega) ?_; intro v' w3 hown3 hgr3 _; have HP3 := Lib.hid (HTa.out.put HM.out hgr3 hown3); have c0 := (HP3.out.b.cell (World.block_lt_of_cell? w _ HW0.out)).trans HW0.out; clear hown3 hgr3)))
      go_roundg r.length
      case measure => simp only [List.length_cons] at *; omega
      case rel => exact ⟨l1 ++ [x], r, t', q', by rw [HL.out]; simp, rfl, rfl, HR.out, HP3.out⟩
end Go.Proofs.Ytdfmfmndmldggaa.KrP

namespace Go.Proofs.Ytdfmfmndmldggaa.KrP
open Go.RowKit Lb Bk IntS CtK CoM CoP CoF KrM KrI KrD LtI
open KrO (own_ints)
set_option linter.unusedSimpArgs false
set_option linter.unusedVariables false

theorem Ch.time {cs : List Ct} {w : World} : ∀ {l : List Int} {t : Int} {p : Option Addr}, Ch cs w l t p → l ≠ [] → ∃ B, p = some ⟨B, 0, none⟩ ∧ w.cell? ⟨B, 3, none⟩ = some (.int .i64 t)
  | [], _, _, _, hn => absurd rfl hn
  | x :: r, t, p, ⟨B, q, t', h1, ⟨c0, c1, c2, c3⟩, h3⟩, _ => ⟨B, h1, c3⟩
def WPost (cs : List Ct) (b : List Int × Int) (x : Int) (r : List Int) (t : Int) (w : World) (e : Ending) (w' : World) : Prop := ∃ q, e = .returned (.pointer q) ∧ Ch cs w' (b.1.reverse ++ x :: r) (t + b.2) q ∧ Below w.heap.size w w'
/-- The way by the k-th of the codes that are left. -/
def cw (D : Int → Int → Int) (n : Nat) (x : Int) (l : List Int) (f : Int) (k : Nat) : List Int × Int := (zAt l k :: (bw D n (zAt l k) (l.eraseIdx k) f).1, D x (zAt l k) + (bw D n (zAt l k) (l.eraseIdx k) f).2)
theorem bw_succ (D : Int → Int → Int) (n : Nat) (x : Int) (l : List Int) (f : Int) : bw D (n + 1) x l f = pkR (cw D n x l f) (n + 1) := rfl
theorem map_erase (rs : List Ct) (k : Nat) : (rs.eraseIdx k).map (·.co) = (rs.map (·.co)).eraseIdx k := by
  induction rs generalizing k with
  | nil => simp
  | cons c r ih => cases k with
    | zero => rfl
    | succ k => simp [ih]
theorem map_at (rs : List Ct) {k : Nat} (h : k < rs.length) : zAt (rs.map (·.co)) k = (at_ rs k).co := by
  rw [at_lt h]
  simp [zAt, h]
theorem at_mem {rs : List Ct} {k : Nat} (h : k < rs.length) : at_ rs k ∈ rs := by rw [at_lt h]; exact List.getElem_mem h
/-- The bounds of a way. -/
theorem bw_bd {D : Int → Int → Int} {S : List Int} (hD : ∀ x y, x ∈ S → y ∈ S → 0 ≤ D x y ∧ D x y ≤ 972) : ∀ (n : Nat) (x : Int) (l : List Int) (f : Int), x ∈ S → f ∈ S → (∀ y, y ∈ l → y ∈ S) → l.length = n → 0 ≤ (bw D n x l f).2 ∧ (bw D n x l f).2 ≤ 972 * (n + 1)
  | 0, x, l, f, hx, hf, hl, hn => by
    have := hD x f hx hf
    simp only [bw]
    omega
  | n + 1, x, l, f, hx, hf, hl, hn => by
    rw [bw_succ]
    obtain ⟨j, hj, e⟩ := pk_is (cw D n x l f) n
    rw [e]
    have hm := zAt_mem (zs := l) (i := j) (by omega)
    have h1 := hD x (zAt l j) hx (hl _ hm)
    have h2 := bw_bd hD n (zAt l j) (l.eraseIdx j) f (hl _ hm) hf (fun y hy => hl y (List.mem_of_mem_eraseIdx hy)) (by rw [List.length_eraseIdx_of_lt (by omega)]; omega)
    unfold cw
    simp only
    omega

set_option maxRecDepth 100000 in
set_option maxHeartbeats 8000000 in
theorem whole_any (m : Mp) (T : Nat → Nat → Int) (cs : List Ct) (S : List Int) (ww hh : Nat) (C : Cd m T cs S ww hh) (g tcap : Nat) : ∀ (n : Nat) (rs : List Ct), rs.length = n → n ≤ 7 → (∀ c, c ∈ rs → c.co ∈ S ∧ c.ce = ceA cs c.co) → ∀ (x : Int), x ∈ S → ∀ (f : Int), f ∈ S → ∀ (r : List Int) (t : Int), 0 ≤ t → t + 972 * (n + 1) ≤ 100000 → ∀ (p a : Option Addr) (cap : Nat) (w : World), n ≤ cap → Row w a rs → Tb T cs S g w → Ch cs w (x :: r) t p →
    Calls Try.prog 78 #[.slice (some ⟨g, 0, none⟩) (ww * hh) tcap, .pointer p, .slice a n cap, .agg #[.int .i64 f, .int .i64 (ceA cs f)]] w (WPost cs (bw (DD T cs) n x (rs.map (·.co)) f) x r t w)
  | 0, rs, hn, h7, hrs, x, hx, f, hf, r, t, ht0, ht, p, a, cap, w, hcap, hrow, hT, hC => by
    have HB := Lib.hid ((Below.refl w.heap.size w).alloc (Nat.le_refl _) (.cells #[.int .i64 f, .int .i64 (ceA cs f)] 70))
    have hK := Blk.new w 70 #[.int .i64 f, .int .i64 (ceA cs f)]
    have CG := Lib.hid (gone_any m T cs S ww hh C x f hx hf r t ht0 (by omega) p g tcap (w.alloc (.cells #[.int .i64 f, .int .i64 (ceA cs f)] 70)) (hT.later HB.out) (hC.later HB.out))
    obtain ⟨cf, hcf⟩ : ∃ z, ceA cs f = z := ⟨_, rfl⟩
    rw [hcf] at hK CG HB ⊢
    have n0 := hK.cell 0 rfl
    have n1 := hK.cell 1 rfl
    clear hK hrow hT hC hrs ht0 ht hcf
    go_enter Try.func78, Try.ntmps78
    go_wp2_with fail
    refine CG.out.mono ?_
    rintro e w2 ⟨q, rfl, hch, hb⟩
    have HC := Lib.hid hch
    have HB2 := Lib.hid (HB.out.trans (hb.mono HB.out.size))
    clear hch hb CG HB n0 n1
    go_wp2
    go_ret
    exact ⟨_, rfl, HC.out, HB2.out⟩
  | n + 1, rs, hn, h7, hrs, x, hx, f, hf, r, t, ht0, ht, p, a, cap, w, hcap, hrow, hT, hC => by
    have HIH := Lib.hid (whole_any m T cs S ww hh C g tcap n)
    have HB := Lib.hid ((Below.refl w.heap.size w).alloc (Nat.le_refl _) (.cells #[.int .i64 f, .int .i64 (ceA cs f)] 70))
    have HK := Lib.hid (Blk.new w 70 #[.int .i64 f, .int .i64 (ceA cs f)])
    have HRw := Lib.hid (hrow.later HB.out)
    have HTb := Lib.hid (hT.later HB.out)
    have HCh := Lib.hid (hC.later HB.out)
    have HRs := Lib.hid hrs
    have HX := Lib.hid hx
    have HF := Lib.hid hf
    have HC := Lib.hid C
    have HBd := Lib.hid (bw_bd (D := DD T cs) (S := S) (fun x y hx hy => C.dd x y hx hy))
    obtain ⟨ab, ao, rfl, -⟩ : ∃ b off, a = some ⟨b, off, none⟩ ∧ True := by
      rcases hrow with h0 | ⟨b, off, e, _⟩
      · omega
      · exact ⟨b, off, e, trivial⟩
    rw [bw_succ]
    obtain ⟨l, hl⟩ : ∃ l, rs.map (·.co) = l := ⟨_, rfl⟩
    have HL := Lib.hid hl
    obtain ⟨cc, hcc⟩ : ∃ c, cw (DD T cs) n x l f = c := ⟨_, rfl⟩
    have HCC := Lib.hid hcc
    rw [hl, hcc]
    obtain ⟨cf, hcf⟩ : ∃ z, ceA cs f = z := ⟨_, rfl⟩
    have HCF := Lib.hid hcf
    rw [hcf] at HK HB HRw HTb HCh ⊢
    obtain ⟨FB, hFB⟩ : ∃ z, w.heap.size = z := ⟨_, rfl⟩
    have HFB := Lib.hid hFB
    rw [hFB] at HK
    have HN := Lib.hid hn
    have HT0 := Lib.hid ht0
    have HT1 := Lib.hid ht
    clear hrow hT hC hrs hx hf C hl hcc hcf hFB hn ht0 ht
    go_enter Try.func78, Try.ntmps78
    go_wp2
    try rw [HFB.out]
    obtain ⟨w0, hw0⟩ : ∃ w0, w.alloc (.cells #[.int .i64 f, .int .i64 cf] 70) = w0 := ⟨_, rfl⟩
    rw [hw0] at HB HK HRw HTb HCh
    try rw [hw0]
    clear hw0
    go_loopg [23, 9] (n + 1) (fun gk i b wr => ∃ (k : Nat) (q : Option Addr), k ≤ n + 1 ∧ gk = n + 1 - k ∧ i = .int .i64 k ∧ b = .pointer q ∧ (k = 0 → q = none) ∧ (0 < k → Ch cs wr ((pkR cc k).1.reverse ++ x :: r) (t + (pkR cc k).2) q) ∧ Below w0.heap.size w0 wr)
    case atStart => exact ⟨0, none, Nat.zero_le _, rfl, rfl, rfl, fun _ => rfl, fun h => absurd h (Nat.lt_irrefl _), Below.refl _ _⟩
    case round =>
      obtain ⟨k, q, hk, hgk, rfl, rfl, hq0, hq1, hb⟩ := hrel
      have HQ0 := Lib.hid hq0
      have HQ1 := Lib.hid hq1
      have HBr := Lib.hid hb
      clear hq0 hq1 hb
      by_cases hlt : k < n + 1
      · have hkr : k < rs.length := by rw [HN.out]; exact hlt
        obtain ⟨b1, off1, e1, c0, c1⟩ := (HRw.out.later HBr.out).cells hkr
        cases e1
        have hmem := HRs.out _ (at_mem hkr)
        have hzk : zAt l k = (at_ rs k).co := by rw [← HL.out]; exact map_at rs hkr
        obtain ⟨y, hy⟩ : ∃ y, (at_ rs k).co = y := ⟨_, rfl⟩
        rw [hy] at c0 hmem hzk
        obtain ⟨cy, hcy⟩ : ∃ z, ceA cs y = z := ⟨_, rfl⟩
        rw [hmem.2, hcy] at c1
        have HCY := Lib.hid hcy
        have HYS := Lib.hid hmem.1
        have HZK := Lib.hid hzk
        have hk0 : (0 : Int) ≤ (k : Int) := by omega
        have hk1 : (k : Int) < ((n + 1 : Nat) : Int) := by omega
        have hk2 : (k : Int) < (n : Int) + 1 := by omega
        have hkw : IntKind.i64.wrap ((k : Int) + 1) = (k : Int) + 1 := IntWalk.i64_in _ (by omega)
        have HBa := Lib.hid (HBr.out.alloc HBr.out.size (.cells #[.int .i64 y, .int .i64 cy] 70))
        have HKn := Lib.hid (Blk.new wr 70 #[.int .i64 y, .int .i64 cy])
        clear hmem hcy hy hzk
        go_upto_region 7 with (fail)
        obtain ⟨NB, hNB⟩ : ∃ z, wr.heap.size = z := ⟨_, rfl⟩
        rw [hNB] at HKn
        try rw [hNB]
        have hbl := ((Below.refl wr.heap.size wr).alloc (Nat.le_refl _) (.cells #[.int .i64 y, .int .i64 cy] 70))
        have HQ2 := Lib.hid (fun h => (HQ1.out h).later hbl)
        generalize wr.alloc (.cells #[.int .i64 y, .int .i64 cy] 70) = wa at *
        have CCl := Lib.hid (HN.out ▸ CoB.clone_any ⟨ab, ao, none⟩ cap rs (by rw [HN.out]; omega) wa (HRw.out.later HBa.out))
        clear c0 c1 hNB hbl HQ1 HBr
        go_wp2_with fail
        refine CCl.out.mono ?_
        rintro e w2 ⟨v2, rfl, ho, hb⟩
        obtain ⟨g2, cap2, rfl, hg2⟩ := CoB.own_some ho (by omega)
        rw [HN.out] at ho ⊢
        obtain ⟨mm, hmm⟩ : ∃ mm, n = k + mm := ⟨n - k, by omega⟩
        have CD0 := KrQ.del_any wa.heap.size g2 k mm cap2 rs w2 (by rw [show k + 1 + mm = n + 1 by omega]; exact ho) (by rw [HN.out]; omega) (by omega)
        rw [show k + 1 + mm = n + 1 by omega, show k + mm = n by omega] at CD0
        have CD := Lib.hid CD0
        have hcap2 : n + 1 ≤ cap2 := by have := CtK.Own.le ho; rwa [HN.out] at this
        have HB2 := Lib.hid (HBa.out.trans (hb.mono HBa.out.size))
        have HK2 := Lib.hid (HK.out.later HB2.out)
        have hbs := hb.size
        have HG2 := Lib.hid hg2
        have HBW := Lib.hid hb
        clear hb ho hg2 CCl CD0 hmm
        go_wp2_with fail
        refine CD.out.mono ?_
        rintro e w3 ⟨rfl, hr3, hg3⟩
        have hb3 : Below wa.heap.size w2 w3 := (Below.refl _ _).grown hg3 hbs (fun q e => by cases e; exact HG2.out)
        have hbw := HBW.out.trans hb3
        have HB3 := Lib.hid (HBa.out.trans (hbw.mono HBa.out.size))
        have HKn3 := Lib.hid (HKn.out.later hbw)
        have HK3 := Lib.hid (HK.out.later HB3.out)
        have HQ4 := Lib.hid (fun h => (HQ2.out h).later hbw)
        have HR3 := Lib.hid hr3
        have hle : (rs.eraseIdx k).length = n := by rw [List.length_eraseIdx_of_lt hkr, HN.out]; rfl
        have HLe := Lib.hid hle
        have hyd := HC.out.dd x y HX.out HYS.out
        obtain ⟨d, hd⟩ : ∃ d, DD (T) cs x y = d := ⟨_, rfl⟩
        have CG0 := fun w hT hC => gone_any m T cs S ww hh HC.out x y HX.out HYS.out r t HT0.out (by have := HT1.out; omega) p g tcap w hT hC
        rw [HCY.out, hd] at CG0
        have CG := Lib.hid CG0
        rw [hd] at hyd
        obtain ⟨bb, hbb⟩ : ∃ b, bw (DD T cs) n y (l.eraseIdx k) f = b := ⟨_, rfl⟩
        have hme : (rs.eraseIdx k).map (·.co) = l.eraseIdx k := by rw [map_erase, HL.out]
        have CI0 := fun (q1 : Option Addr) (w : World) hr hT hC => HIH.out (rs.eraseIdx k) hle (by omega) (fun c hc => HRs.out c (List.mem_of_mem_eraseIdx hc)) y HYS.out f HF.out (x :: r) (t + d) (by have := HT0.out; omega) (by have := HT1.out; omega) q1 (some ⟨g2, 0, none⟩) cap2 w (by omega) hr hT hC
        rw [hme, hbb, HCF.out] at CI0
        have CI := Lib.hid CI0
        have hck : cc k = (y :: bb.1, d + bb.2) := by
          rw [← HCC.out]
          unfold cw
          rw [HZK.out, hd, hbb]
        have HCK := Lib.hid hck
        have hbbd := HBd.out n y (l.eraseIdx k) f HYS.out HF.out (fun z hz => by
          rw [← hme] at hz
          obtain ⟨c, hc, rfl⟩ := List.mem_map.1 hz
          exact (HRs.out c (List.mem_of_mem_eraseIdx hc)).1) (by rw [← hme, List.length_map, hle])
        rw [hbb] at hbbd
        have HBB := Lib.hid hbbd
        obtain ⟨n0, n1⟩ : w3.cell? ⟨NB, 0, none⟩ = some (.int .i64 y) ∧ w3.cell? ⟨NB, 1, none⟩ = some (.int .i64 cy) := ⟨HKn3.out.cell 0 rfl, HKn3.out.cell 1 rfl⟩
        obtain ⟨f0, f1⟩ : w3.cell? ⟨FB, 0, none⟩ = some (.int .i64 f) ∧ w3.cell? ⟨FB, 1, none⟩ = some (.int .i64 cf) := ⟨HK3.out.cell 0 rfl, HK3.out.cell 1 rfl⟩
        have hu : undef = Value.tuple #[] := rfl
        clear hbw hb3 hg3 hr3 HBW HKn HBa HQ2 hle hd CG0 hbb hme CI0 hck hbbd CD hbs HB2 HK2
        go_upto_region 8 with (fail)
        refine wp_region_noPanic ?_
        refine wp_region_held_drew (S := (fun Wx : World => Wx.cell? ⟨NB, 0, none⟩ = some (.int .i64 y) ∧ Wx.cell? ⟨NB, 1, none⟩ = some (.int .i64 cy) ∧ Wx.cell? ⟨FB, 0, none⟩ = some (.int .i64 f) ∧ Wx.cell? ⟨FB, 1, none⟩ = some (.int .i64 cf))) (by kernel_rfl) ⟨n0, n1, f0, f1⟩ (fun hHeld => ?_)
        refine wpAnyH_take (i := 0) (oi := _) (v := ?_) rfl (by kernel_rfl) (by kernel_rfl) (by kernel_rfl) (fun _ _ _ h => h) (Or.inl ⟨by rfl, ?_⟩) (by assumption) ?_; rotate_left; focus (intro W hSw; (try dsimp only at hSw); go_simp; (first | done | with_reducible rfl))
        (try simp only [List.getElem_toArray, List.getElem_cons_succ, List.getElem_cons_zero, Act.put, List.setIfInBounds_toArray, List.set_cons_zero, List.set_cons_succ])
        refine wpAnyH_take (i := 1) (oi := _) (v := ?_) rfl (by kernel_rfl) (by kernel_rfl) (by kernel_rfl) (fun _ _ _ h => h) (Or.inl ⟨by rfl, ?_⟩) (by assumption) ?_; rotate_left; focus (intro W hSw; (try dsimp only at hSw); go_simp; (first | done | with_reducible rfl))
        (try simp only [List.getElem_toArray, List.getElem_cons_succ, List.getElem_cons_zero, Act.put, List.setIfInBounds_toArray, List.set_cons_zero, List.set_cons_succ])
        refine wpAnyH_take (i := 2) (oi := _) (v := ?_) rfl (by kernel_rfl) (by kernel_rfl) (by kernel_rfl) (fun _ _ _ h => h) (Or.inl ⟨by rfl, ?_⟩) (by assumption) ?_; rotate_left; focus (intro W hSw; (try dsimp only at hSw); go_simp; (first | done | with_reducible rfl))
        (try simp only [List.getElem_toArray, List.getElem_cons_succ, List.getElem_cons_zero, Act.put, List.setIfInBounds_toArray, List.set_cons_zero, List.set_cons_succ])
        refine wpAnyH_take (i := 3) (oi := _) (v := ?_) rfl (by kernel_rfl) (by kernel_rfl) (by kernel_rfl) (fun _ _ _ h => h) (Or.inl ⟨by rfl, ?_⟩) (by assumption) ?_; rotate_left; focus (intro W hSw; (try dsimp only at hSw); go_simp; (first | done | with_reducible rfl))
        (try simp only [List.getElem_toArray, List.getElem_cons_succ, List.getElem_cons_zero, Act.put, List.setIfInBounds_toArray, List.set_cons_zero, List.set_cons_succ])
        refine wpAnyH_take (i := 5) (oi := _) (v := ?_) rfl (by kernel_rfl) (by kernel_rfl) (by kernel_rfl) (fun _ _ _ h => h) (Or.inl ⟨by rfl, ?_⟩) (by assumption) ?_; rotate_left; focus (intro W hSw; (try dsimp only at hSw); go_simp; (first | done | with_reducible rfl))
        (try simp only [List.getElem_toArray, List.getElem_cons_succ, List.getElem_cons_zero, Act.put, List.setIfInBounds_toArray, List.set_cons_zero, List.set_cons_succ])
        refine wpAnyH_take (i := 6) (oi := _) (v := ?_) rfl (by kernel_rfl) (by kernel_rfl) (by kernel_rfl) (fun _ _ _ h => h) (Or.inl ⟨by rfl, ?_⟩) (by assumption) ?_; rotate_left; focus (intro W hSw; (try dsimp only at hSw); go_simp; (first | done | with_reducible rfl))
        (try simp only [List.getElem_toArray, List.getElem_cons_succ, List.getElem_cons_zero, Act.put, List.setIfInBounds_toArray, List.set_cons_zero, List.set_cons_succ])
        refine wpAnyH_ready (rs := [4]) (by kernel_rfl) (by simp) ?_
        refine AllReadyH.cons (o := _) rfl (fun K hK => ?_) AllReadyH.nil
        go_simp
        go_at_call 102
        refine (CG.out _ (HTb.out.later HB3.out.drew) (HCh.out.later HB3.out.drew)).mono ?_
        rintro e w4 ⟨q1, rfl, hch, hb⟩
        have HC4 := Lib.hid hch
        have HB4 := Lib.hid (HB3.out.drew.trans (hb.mono HB3.out.size))
        have HR4 := Lib.hid (HR3.out.later ((Below.refl _ _).drew.trans hb))
        have HQ5 := Lib.hid (fun h => (HQ4.out h).later ((Below.refl _ _).drew.trans hb))
        have hS : (w4.cell? ⟨NB, 0, none⟩ = some (.int .i64 y) ∧ w4.cell? ⟨NB, 1, none⟩ = some (.int .i64 cy) ∧ w4.cell? ⟨FB, 0, none⟩ = some (.int .i64 f) ∧ w4.cell? ⟨FB, 1, none⟩ = some (.int .i64 cf)) := ⟨(hb.cell (World.block_lt_of_cell? w3.drew _ n0)).trans n0, (hb.cell (World.block_lt_of_cell? w3.drew _ n1)).trans n1, (hb.cell (World.block_lt_of_cell? w3.drew _ f0)).trans f0, (hb.cell (World.block_lt_of_cell? w3.drew _ f1)).trans f1⟩
        clear hch hb HQ4 HR3 HB3 HKn3 HK3
        go_wp2_with fail
        refine hK.out _ _ hS (fun _ => ?_)
        clear hK K hHeld n0 n1 f0 f1
        obtain ⟨n0, n1, f0, f1⟩ := hS
        refine wpAnyH_ready (rs := [7]) (by kernel_rfl) (by simp) ?_
        refine AllReadyH.cons (o := _) rfl (fun K hK => ?_) AllReadyH.nil
        go_simp
        go_at_call 78
        refine (CI.out q1 _ HR4.out (HTb.out.later HB4.out) HC4.out).mono ?_
        rintro e w5 ⟨q2, rfl, hch, hb⟩
        have HW5 := Lib.hid (show Ch cs w5 ((cc k).1.reverse ++ x :: r) (t + (cc k).2) q2 from by
          rw [HCK.out]
          have h := hch
          rw [Int.add_assoc] at h
          simpa using h)
        have HB5 := Lib.hid (HB4.out.trans (hb.mono HB4.out.size))
        have HQ6 := Lib.hid (fun h => (HQ5.out h).later hb)
        have hS : (w5.cell? ⟨NB, 0, none⟩ = some (.int .i64 y) ∧ w5.cell? ⟨NB, 1, none⟩ = some (.int .i64 cy) ∧ w5.cell? ⟨FB, 0, none⟩ = some (.int .i64 f) ∧ w5.cell? ⟨FB, 1, none⟩ = some (.int .i64 cf)) := ⟨(hb.cell (World.block_lt_of_cell? w4 _ n0)).trans n0, (hb.cell (World.block_lt_of_cell? w4 _ n1)).trans n1, (hb.cell (World.block_lt_of_cell? w4 _ f0)).trans f0, (hb.cell (World.block_lt_of_cell? w4 _ f1)).trans f1⟩
        clear hch hb HQ5 HC4 HR4 HB4
        go_wp2_with fail
        refine hK.out _ _ hS (fun _ => ?_)
        clear hK K n0 n1 f0 f1 hS
        refine wpAnyH_take (i := 8) (oi := _) (v := ?_) rfl (by kernel_rfl) (by kernel_rfl) (by kernel_rfl) (fun _ _ _ h => h) (Or.inl ⟨by rfl, ?_⟩) (by assumption) ?_; rotate_left; focus (intro W hSw; (try dsimp only at hSw); go_simp; (first | done | with_reducible rfl))
        (try simp only [List.getElem_toArray, List.getElem_cons_succ, List.getElem_cons_zero, Act.put, List.setIfInBounds_toArray, List.set_cons_zero, List.set_cons_succ])
        refine wpAnyH_done (by kernel_rfl) ?_ _
        refine NoPanic.normal ?_
        (try simp only [List.getElem_toArray, List.getElem_cons_succ, List.getElem_cons_zero, Act.put, List.setIfInBounds_toArray, List.set_cons_zero, List.set_cons_succ])
        obtain ⟨Bq, rfl, wt⟩ := HW5.out.time (by simp)
        have hckt : (cc k).2 = d + bb.2 := by rw [HCK.out]
        obtain ⟨tk, htk⟩ : ∃ z, t + (cc k).2 = z := ⟨_, rfl⟩
        rw [htk] at wt
        rcases Nat.eq_zero_or_pos k with hk0' | hkp
        · have hqn := HQ0.out hk0'
          subst hk0' hqn
          have HNx := Lib.hid (show Ch cs w5 ((pkR cc (0 + 1)).1.reverse ++ x :: r) (t + (pkR cc (0 + 1)).2) (some ⟨Bq, 0, none⟩) from HW5.out)
          clear wt hckt htk
          go_upto_region 9 with (fail)
          refine wp_region_noPanic ?_
          refine wp_region_held_drew (S := (fun Wx : World => True)) (by kernel_rfl) trivial (fun hHeld => ?_)
          refine wpAnyH_take (i := 0) (oi := _) (v := ?_) rfl (by kernel_rfl) (by kernel_rfl) (by kernel_rfl) (fun _ _ _ h => h) (Or.inl ⟨by rfl, ?_⟩) (by assumption) ?_; rotate_left; focus (intro W hSw; (try dsimp only at hSw); go_simp; (first | done | with_reducible rfl))
          (try simp only [List.getElem_toArray, List.getElem_cons_succ, List.getElem_cons_zero, Act.put, List.setIfInBounds_toArray, List.set_cons_zero, List.set_cons_succ])
          refine wpAnyH_take (i := 1) (oi := _) (v := ?_) rfl (by kernel_rfl) (by kernel_rfl) (by kernel_rfl) (fun _ _ _ h => h) (Or.inl ⟨by rfl, ?_⟩) (by assumption) ?_; rotate_left; focus (intro W hSw; (try dsimp only at hSw); go_simp; (first | done | with_reducible rfl))
          (try simp only [List.getElem_toArray, List.getElem_cons_succ, List.getElem_cons_zero, Act.put, List.setIfInBounds_toArray, List.set_cons_zero, List.set_cons_succ])
          refine wpAnyH_take (i := 2) (oi := _) (v := ?_) rfl (by kernel_rfl) (by kernel_rfl) (by kernel_rfl) (fun _ _ _ h => h) (Or.inl ⟨by rfl, ?_⟩) (by assumption) ?_; rotate_left; focus (intro W hSw; (try dsimp only at hSw); go_simp; (first | done | with_reducible rfl))
          (try simp only [List.getElem_toArray, List.getElem_cons_succ, List.getElem_cons_zero, Act.put, List.setIfInBounds_toArray, List.set_cons_zero, List.set_cons_succ])
          refine wpAnyH_take (i := 3) (oi := _) (v := _) rfl (by kernel_rfl) (by kernel_rfl) (by kernel_rfl) (fun _ _ _ h => h) (Or.inr ⟨by rfl, rfl⟩) (by assumption) ?_
          (try simp only [List.getElem_toArray, List.getElem_cons_succ, List.getElem_cons_zero, Act.put, List.setIfInBounds_toArray, List.set_cons_zero, List.set_cons_succ])
          refine wpAnyH_take (i := 4) (oi := _) (v := _) rfl (by kernel_rfl) (by kernel_rfl) (by kernel_rfl) (fun _ _ _ h => h) (Or.inr ⟨by rfl, rfl⟩) (by assumption) ?_
          (try simp only [List.getElem_toArray, List.getElem_cons_succ, List.getElem_cons_zero, Act.put, List.setIfInBounds_toArray, List.set_cons_zero, List.set_cons_succ])
          refine wpAnyH_take (i := 5) (oi := _) (v := _) rfl (by kernel_rfl) (by kernel_rfl) (by kernel_rfl) (fun _ _ _ h => h) (Or.inr ⟨by rfl, rfl⟩) (by assumption) ?_
          (try simp only [List.getElem_toArray, List.getElem_cons_succ, List.getElem_cons_zero, Act.put, List.setIfInBounds_toArray, List.set_cons_zero, List.set_cons_succ])
          refine wpAnyH_take (i := 6) (oi := _) (v := _) rfl (by kernel_rfl) (by kernel_rfl) (by kernel_rfl) (fun _ _ _ h => h) (Or.inr ⟨by rfl, rfl⟩) (by assumption) ?_
          (try simp only [List.getElem_toArray, List.getElem_cons_succ, List.getElem_cons_zero, Act.put, List.setIfInBounds_toArray, List.set_cons_zero, List.set_cons_succ])
          refine wpAnyH_take (i := 7) (oi := _) (v := _) rfl (by kernel_rfl) (by kernel_rfl) (by kernel_rfl) (fun _ _ _ h => h) (Or.inr ⟨by rfl, rfl⟩) (by assumption) ?_
          (try simp only [List.getElem_toArray, List.getElem_cons_succ, List.getElem_cons_zero, Act.put, List.setIfInBounds_toArray, List.set_cons_zero, List.set_cons_succ])
          refine wpAnyH_take (i := 8) (oi := _) (v := _) rfl (by kernel_rfl) (by kernel_rfl) (by kernel_rfl) (fun _ _ _ h => h) (Or.inr ⟨by rfl, rfl⟩) (by assumption) ?_
          (try simp only [List.getElem_toArray, List.getElem_cons_succ, List.getElem_cons_zero, Act.put, List.setIfInBounds_toArray, List.set_cons_zero, List.set_cons_succ])
          refine wpAnyH_take (i := 9) (oi := _) (v := _) rfl (by kernel_rfl) (by kernel_rfl) (by kernel_rfl) (fun _ _ _ h => h) (Or.inr ⟨by rfl, rfl⟩) (by assumption) ?_
          (try simp only [List.getElem_toArray, List.getElem_cons_succ, List.getElem_cons_zero, Act.put, List.setIfInBounds_toArray, List.set_cons_zero, List.set_cons_succ])
          refine wpAnyH_take (i := 10) (oi := _) (v := _) rfl (by kernel_rfl) (by kernel_rfl) (by kernel_rfl) (fun _ _ _ h => h) (Or.inr ⟨by rfl, rfl⟩) (by assumption) ?_
          (try simp only [List.getElem_toArray, List.getElem_cons_succ, List.getElem_cons_zero, Act.put, List.setIfInBounds_toArray, List.set_cons_zero, List.set_cons_succ])
          refine wpAnyH_take (i := 11) (oi := _) (v := _) rfl (by kernel_rfl) (by kernel_rfl) (by kernel_rfl) (fun _ _ _ h => h) (Or.inr ⟨by rfl, rfl⟩) (by assumption) ?_
          (try simp only [List.getElem_toArray, List.getElem_cons_succ, List.getElem_cons_zero, Act.put, List.setIfInBounds_toArray, List.set_cons_zero, List.set_cons_succ])
          refine wpAnyH_take (i := 12) (oi := _) (v := ?_) rfl (by kernel_rfl) (by kernel_rfl) (by kernel_rfl) (fun _ _ _ h => h) (Or.inl ⟨by rfl, ?_⟩) (by assumption) ?_; rotate_left; focus (intro W hSw; (try dsimp only at hSw); go_simp; (first | done | with_reducible rfl))
          (try simp only [List.getElem_toArray, List.getElem_cons_succ, List.getElem_cons_zero, Act.put, List.setIfInBounds_toArray, List.set_cons_zero, List.set_cons_succ])
          refine wpAnyH_done (by kernel_rfl) ?_ _
          refine NoPanic.normal ?_
          (try simp only [List.getElem_toArray, List.getElem_cons_succ, List.getElem_cons_zero, Act.put, List.setIfInBounds_toArray, List.set_cons_zero, List.set_cons_succ])
          clear hu hHeld
          go_wp2
          go_roundg (n + 1 - (0 + 1))
          case measure => omega
          case rel => exact ⟨0 + 1, _, by omega, rfl, by go_num, rfl, fun h => absurd h (by omega), fun _ => HNx.out.later (Below.refl _ _).drew, HB5.out.drew⟩
        · obtain ⟨j, rfl⟩ : ∃ j, k = j + 1 := ⟨k - 1, by omega⟩
          have HQ7 := Lib.hid (HQ6.out (Nat.succ_pos _))
          obtain ⟨Bb, rfl, wb⟩ := HQ7.out.time (by simp)
          obtain ⟨tb, htb⟩ : ∃ z, t + (pkR cc (j + 1)).2 = z := ⟨_, rfl⟩
          rw [htb] at wb
          have HPK := Lib.hid (show pkR cc (j + 1 + 1) = if (cc (j + 1)).2 < (pkR cc (j + 1)).2 then cc (j + 1) else pkR cc (j + 1) from rfl)
          by_cases hle : tk < tb
          · have hdl : decide (tk < tb) = true := decide_eq_true hle
            have HNx := Lib.hid (show Ch cs w5 ((pkR cc (j + 1 + 1)).1.reverse ++ x :: r) (t + (pkR cc (j + 1 + 1)).2) (some ⟨Bq, 0, none⟩) from by rw [HPK.out, if_pos (by omega)]; exact HW5.out)
            clear hckt htk htb hle
            go_upto_region 9 with (fail)
            refine wp_region_noPanic ?_
            refine wp_region_held_drew (S := (fun Wx : World => Wx.cell? ⟨Bq, 3, none⟩ = some (.int .i64 tk) ∧ Wx.cell? ⟨Bb, 3, none⟩ = some (.int .i64 tb))) (by kernel_rfl) ⟨wt, wb⟩ (fun hHeld => ?_)
            refine wpAnyH_take (i := 0) (oi := _) (v := ?_) rfl (by kernel_rfl) (by kernel_rfl) (by kernel_rfl) (fun _ _ _ h => h) (Or.inl ⟨by rfl, ?_⟩) (by assumption) ?_; rotate_left; focus (intro W hSw; (try dsimp only at hSw); go_simp; (first | done | with_reducible rfl))
            (try simp only [List.getElem_toArray, List.getElem_cons_succ, List.getElem_cons_zero, Act.put, List.setIfInBounds_toArray, List.set_cons_zero, List.set_cons_succ])
            refine wpAnyH_take (i := 1) (oi := _) (v := ?_) rfl (by kernel_rfl) (by kernel_rfl) (by kernel_rfl) (fun _ _ _ h => h) (Or.inl ⟨by rfl, ?_⟩) (by assumption) ?_; rotate_left; focus (intro W hSw; (try dsimp only at hSw); go_simp; (first | done | with_reducible rfl))
            (try simp only [List.getElem_toArray, List.getElem_cons_succ, List.getElem_cons_zero, Act.put, List.setIfInBounds_toArray, List.set_cons_zero, List.set_cons_succ])
            refine wpAnyH_take (i := 2) (oi := _) (v := ?_) rfl (by kernel_rfl) (by kernel_rfl) (by kernel_rfl) (fun _ _ _ h => h) (Or.inl ⟨by rfl, ?_⟩) (by assumption) ?_; rotate_left; focus (intro W hSw; (try dsimp only at hSw); go_simp; (first | done | with_reducible rfl))
            (try simp only [List.getElem_toArray, List.getElem_cons_succ, List.getElem_cons_zero, Act.put, List.setIfInBounds_toArray, List.set_cons_zero, List.set_cons_succ])
            refine wpAnyH_take (i := 3) (oi := _) (v := ?_) rfl (by kernel_rfl) (by kernel_rfl) (by kernel_rfl) (fun _ _ _ h => h) (Or.inl ⟨by rfl, ?_⟩) (by assumption) ?_; rotate_left; focus (intro W hSw; (try dsimp only at hSw); go_simp; (first | done | with_reducible rfl))
            (try simp only [List.getElem_toArray, List.getElem_cons_succ, List.getElem_cons_zero, Act.put, List.setIfInBounds_toArray, List.set_cons_zero, List.set_cons_succ])
            refine wpAnyH_take (i := 4) (oi := _) (v := ?_) rfl (by kernel_rfl) (by kernel_rfl) (by kernel_rfl) (fun _ _ _ h => h) (Or.inl ⟨by rfl, ?_⟩) (by assumption) ?_; rotate_left; focus (intro W hSw; (try dsimp only at hSw); go_simp; (first | done | with_reducible rfl))
            (try simp only [List.getElem_toArray, List.getElem_cons_succ, List.getElem_cons_zero, Act.put, List.setIfInBounds_toArray, List.set_cons_zero, List.set_cons_succ])
            refine wpAnyH_take (i := 5) (oi := _) (v := ?_) rfl (by kernel_rfl) (by kernel_rfl) (by kernel_rfl) (fun _ _ _ h => h) (Or.inl ⟨by rfl, ?_⟩) (by assumption) ?_; rotate_left; focus (intro W hSw; (try dsimp only at hSw); go_simp; (first | done | with_reducible rfl))
            (try simp only [List.getElem_toArray, List.getElem_cons_succ, List.getElem_cons_zero, Act.put, List.setIfInBounds_toArray, List.set_cons_zero, List.set_cons_succ])
            refine wpAnyH_take (i := 6) (oi := _) (v := ?_) rfl (by kernel_rfl) (by kernel_rfl) (by kernel_rfl) (fun _ _ _ h => h) (Or.inl ⟨by rfl, ?_⟩) (by assumption) ?_; rotate_left; focus (intro W hSw; (try dsimp only at hSw); go_simp; (first | done | with_reducible rfl))
            (try simp only [List.getElem_toArray, List.getElem_cons_succ, List.getElem_cons_zero, Act.put, List.setIfInBounds_toArray, List.set_cons_zero, List.set_cons_succ])
            refine wpAnyH_take (i := 7) (oi := _) (v := ?_) rfl (by kernel_rfl) (by kernel_rfl) (by kernel_rfl) (fun _ _ _ h => h) (Or.inl ⟨by rfl, ?_⟩) (by assumption) ?_; rotate_left; focus (intro W hSw; (try dsimp only at hSw); go_simp; (first | done | with_reducible rfl))
            (try simp only [List.getElem_toArray, List.getElem_cons_succ, List.getElem_cons_zero, Act.put, List.setIfInBounds_toArray, List.set_cons_zero, List.set_cons_succ])
            refine wpAnyH_take (i := 8) (oi := _) (v := ?_) rfl (by kernel_rfl) (by kernel_rfl) (by kernel_rfl) (fun _ _ _ h => h) (Or.inl ⟨by rfl, ?_⟩) (by assumption) ?_; rotate_left; focus (intro W hSw; (try dsimp only at hSw); go_simp; (first | done | with_reducible rfl))
            (try simp only [List.getElem_toArray, List.getElem_cons_succ, List.getElem_cons_zero, Act.put, List.setIfInBounds_toArray, List.set_cons_zero, List.set_cons_succ])
            refine wpAnyH_take (i := 9) (oi := _) (v := ?_) rfl (by kernel_rfl) (by kernel_rfl) (by kernel_rfl) (fun _ _ _ h => h) (Or.inl ⟨by rfl, ?_⟩) (by assumption) ?_; rotate_left; focus (intro W hSw; (try dsimp only at hSw); go_simp; (first | done | with_reducible rfl))
            (try simp only [List.getElem_toArray, List.getElem_cons_succ, List.getElem_cons_zero, Act.put, List.setIfInBounds_toArray, List.set_cons_zero, List.set_cons_succ])
            refine wpAnyH_take (i := 10) (oi := _) (v := ?_) rfl (by kernel_rfl) (by kernel_rfl) (by kernel_rfl) (fun _ _ _ h => h) (Or.inl ⟨by rfl, ?_⟩) (by assumption) ?_; rotate_left; focus (intro W hSw; (try dsimp only at hSw); go_simp; (first | done | with_reducible rfl))
            (try simp only [List.getElem_toArray, List.getElem_cons_succ, List.getElem_cons_zero, Act.put, List.setIfInBounds_toArray, List.set_cons_zero, List.set_cons_succ])
            refine wpAnyH_take (i := 11) (oi := _) (v := ?_) rfl (by kernel_rfl) (by kernel_rfl) (by kernel_rfl) (fun _ _ _ h => h) (Or.inl ⟨by rfl, ?_⟩) (by assumption) ?_; rotate_left; focus (intro W hSw; (try dsimp only at hSw); go_simp; (first | done | with_reducible rfl))
            (try simp only [List.getElem_toArray, List.getElem_cons_succ, List.getElem_cons_zero, Act.put, List.setIfInBounds_toArray, List.set_cons_zero, List.set_cons_succ])
            refine wpAnyH_take (i := 12) (oi := _) (v := ?_) rfl (by kernel_rfl) (by kernel_rfl) (by kernel_rfl) (fun _ _ _ h => h) (Or.inl ⟨by rfl, ?_⟩) (by assumption) ?_; rotate_left; focus (intro W hSw; (try dsimp only at hSw); go_simp; (first | done | with_reducible rfl))
            (try simp only [List.getElem_toArray, List.getElem_cons_succ, List.getElem_cons_zero, Act.put, List.setIfInBounds_toArray, List.set_cons_zero, List.set_cons_succ])
            refine wpAnyH_done (by kernel_rfl) ?_ _
            refine NoPanic.normal ?_
            (try simp only [List.getElem_toArray, List.getElem_cons_succ, List.getElem_cons_zero, Act.put, List.setIfInBounds_toArray, List.set_cons_zero, List.set_cons_succ])
            clear hu hHeld
            go_wp2
            go_roundg (n + 1 - (j + 1 + 1))
            case measure => omega
            case rel => exact ⟨j + 1 + 1, _, by omega, rfl, by go_num, rfl, fun h => absurd h (by omega), fun _ => HNx.out.later (Below.refl _ _).drew, HB5.out.drew⟩
          · have hdl : decide (tk < tb) = false := decide_eq_false hle
            have HNx := Lib.hid (show Ch cs w5 ((pkR cc (j + 1 + 1)).1.reverse ++ x :: r) (t + (pkR cc (j + 1 + 1)).2) (some ⟨Bb, 0, none⟩) from by rw [HPK.out, if_neg (by omega)]; exact HQ7.out)
            clear hckt htk htb hle
            go_upto_region 9 with (fail)
            refine wp_region_noPanic ?_
            refine wp_region_held_drew (S := (fun Wx : World => Wx.cell? ⟨Bq, 3, none⟩ = some (.int .i64 tk) ∧ Wx.cell? ⟨Bb, 3, none⟩ = some (.int .i64 tb))) (by kernel_rfl) ⟨wt, wb⟩ (fun hHeld => ?_)
            refine wpAnyH_take (i := 0) (oi := _) (v := ?_) rfl (by kernel_rfl) (by kernel_rfl) (by kernel_rfl) (fun _ _ _ h => h) (Or.inl ⟨by rfl, ?_⟩) (by assumption) ?_; rotate_left; focus (intro W hSw; (try dsimp only at hSw); go_simp; (first | done | with_reducible rfl))
            (try simp only [List.getElem_toArray, List.getElem_cons_succ, List.getElem_cons_zero, Act.put, List.setIfInBounds_toArray, List.set_cons_zero, List.set_cons_succ])
            refine wpAnyH_take (i := 1) (oi := _) (v := ?_) rfl (by kernel_rfl) (by kernel_rfl) (by kernel_rfl) (fun _ _ _ h => h) (Or.inl ⟨by rfl, ?_⟩) (by assumption) ?_; rotate_left; focus (intro W hSw; (try dsimp only at hSw); go_simp; (first | done | with_reducible rfl))
            (try simp only [List.getElem_toArray, List.getElem_cons_succ, List.getElem_cons_zero, Act.put, List.setIfInBounds_toArray, List.set_cons_zero, List.set_cons_succ])
            refine wpAnyH_take (i := 2) (oi := _) (v := ?_) rfl (by kernel_rfl) (by kernel_rfl) (by kernel_rfl) (fun _ _ _ h => h) (Or.inl ⟨by rfl, ?_⟩) (by assumption) ?_; rotate_left; focus (intro W hSw; (try dsimp only at hSw); go_simp; (first | done | with_reducible rfl))
            (try simp only [List.getElem_toArray, List.getElem_cons_succ, List.getElem_cons_zero, Act.put, List.setIfInBounds_toArray, List.set_cons_zero, List.set_cons_succ])
            refine wpAnyH_take (i := 3) (oi := _) (v := ?_) rfl (by kernel_rfl) (by kernel_rfl) (by kernel_rfl) (fun _ _ _ h => h) (Or.inl ⟨by rfl, ?_⟩) (by assumption) ?_; rotate_left; focus (intro W hSw; (try dsimp only at hSw); go_simp; (first | done | with_reducible rfl))
            (try simp only [List.getElem_toArray, List.getElem_cons_succ, List.getElem_cons_zero, Act.put, List.setIfInBounds_toArray, List.set_cons_zero, List.set_cons_succ])
            refine wpAnyH_take (i := 4) (oi := _) (v := ?_) rfl (by kernel_rfl) (by kernel_rfl) (by kernel_rfl) (fun _ _ _ h => h) (Or.inl ⟨by rfl, ?_⟩) (by assumption) ?_; rotate_left; focus (intro W hSw; (try dsimp only at hSw); go_simp; (first | done | with_reducible rfl))
            (try simp only [List.getElem_toArray, List.getElem_cons_succ, List.getElem_cons_zero, Act.put, List.setIfInBounds_toArray, List.set_cons_zero, List.set_cons_succ])
            refine wpAnyH_take (i := 5) (oi := _) (v := ?_) rfl (by kernel_rfl) (by kernel_rfl) (by kernel_rfl) (fun _ _ _ h => h) (Or.inl ⟨by rfl, ?_⟩) (by assumption) ?_; rotate_left; focus (intro W hSw; (try dsimp only at hSw); go_simp; (first | done | with_reducible rfl))
            (try simp only [List.getElem_toArray, List.getElem_cons_succ, List.getElem_cons_zero, Act.put, List.setIfInBounds_toArray, List.set_cons_zero, List.set_cons_succ])
            refine wpAnyH_take (i := 6) (oi := _) (v := ?_) rfl (by kernel_rfl) (by kernel_rfl) (by kernel_rfl) (fun _ _ _ h => h) (Or.inl ⟨by rfl, ?_⟩) (by assumption) ?_; rotate_left; focus (intro W hSw; (try dsimp only at hSw); go_simp; (first | done | with_reducible rfl))
            (try simp only [List.getElem_toArray, List.getElem_cons_succ, List.getElem_cons_zero, Act.put, List.setIfInBounds_toArray, List.set_cons_zero, List.set_cons_succ])
            refine wpAnyH_take (i := 7) (oi := _) (v := ?_) rfl (by kernel_rfl) (by kernel_rfl) (by kernel_rfl) (fun _ _ _ h => h) (Or.inl ⟨by rfl, ?_⟩) (by assumption) ?_; rotate_left; focus (intro W hSw; (try dsimp only at hSw); go_simp; (first | done | with_reducible rfl))
            (try simp only [List.getElem_toArray, List.getElem_cons_succ, List.getElem_cons_zero, Act.put, List.setIfInBounds_toArray, List.set_cons_zero, List.set_cons_succ])
            refine wpAnyH_take (i := 8) (oi := _) (v := ?_) rfl (by kernel_rfl) (by kernel_rfl) (by kernel_rfl) (fun _ _ _ h => h) (Or.inl ⟨by rfl, ?_⟩) (by assumption) ?_; rotate_left; focus (intro W hSw; (try dsimp only at hSw); go_simp; (first | done | with_reducible rfl))
            (try simp only [List.getElem_toArray, List.getElem_cons_succ, List.getElem_cons_zero, Act.put, List.setIfInBounds_toArray, List.set_cons_zero, List.set_cons_succ])
            refine wpAnyH_take (i := 9) (oi := _) (v := ?_) rfl (by kernel_rfl) (by kernel_rfl) (by kernel_rfl) (fun _ _ _ h => h) (Or.inl ⟨by rfl, ?_⟩) (by assumption) ?_; rotate_left; focus (intro W hSw; (try dsimp only at hSw); go_simp; (first | done | with_reducible rfl))
            (try simp only [List.getElem_toArray, List.getElem_cons_succ, List.getElem_cons_zero, Act.put, List.setIfInBounds_toArray, List.set_cons_zero, List.set_cons_succ])
            refine wpAnyH_take (i := 10) (oi := _) (v := ?_) rfl (by kernel_rfl) (by kernel_rfl) (by kernel_rfl) (fun _ _ _ h => h) (Or.inl ⟨by rfl, ?_⟩) (by assumption) ?_; rotate_left; focus (intro W hSw; (try dsimp only at hSw); go_simp; (first | done | with_reducible rfl))
            (try simp only [List.getElem_toArray, List.getElem_cons_succ, List.getElem_cons_zero, Act.put, List.setIfInBounds_toArray, List.set_cons_zero, List.set_cons_succ])
            refine wpAnyH_take (i := 11) (oi := _) (v := ?_) rfl (by kernel_rfl) (by kernel_rfl) (by kernel_rfl) (fun _ _ _ h => h) (Or.inl ⟨by rfl, ?_⟩) (by assumption) ?_; rotate_left; focus (intro W hSw; (try dsimp only at hSw); go_simp; (first | done | with_reducible rfl))
            (try simp only [List.getElem_toArray, List.getElem_cons_succ, List.getElem_cons_zero, Act.put, List.setIfInBounds_toArray, List.set_cons_zero, List.set_cons_succ])
            refine wpAnyH_take (i := 12) (oi := _) (v := ?_) rfl (by kernel_rfl) (by kernel_rfl) (by kernel_rfl) (fun _ _ _ h => h) (Or.inl ⟨by rfl, ?_⟩) (by assumption) ?_; rotate_left; focus (intro W hSw; (try dsimp only at hSw); go_simp; (first | done | with_reducible rfl))
            (try simp only [List.getElem_toArray, List.getElem_cons_succ, List.getElem_cons_zero, Act.put, List.setIfInBounds_toArray, List.set_cons_zero, List.set_cons_succ])
            refine wpAnyH_done (by kernel_rfl) ?_ _
            refine NoPanic.normal ?_
            (try simp only [List.getElem_toArray, List.getElem_cons_succ, List.getElem_cons_zero, Act.put, List.setIfInBounds_toArray, List.set_cons_zero, List.set_cons_succ])
            clear hu hHeld
            go_wp2
            go_roundg (n + 1 - (j + 1 + 1))
            case measure => omega
            case rel => exact ⟨j + 1 + 1, _, by omega, rfl, by go_num, rfl, fun h => absurd h (by omega), fun _ => HNx.out.later (Below.refl _ _).drew, HB5.out.drew⟩
      · obtain rfl : k = n + 1 := by omega
        have HE := Lib.hid (HQ1.out (Nat.succ_pos _))
        go_wp2
        go_ret
        exact ⟨_, rfl, HE.out, HB.out.trans (HBr.out.mono HB.out.size)⟩
end Go.Proofs.Ytdfmfmndmldggaa.KrP

namespace Go.Proofs.Ytdfmfmndmldggaa.KrP
open Go.RowKit Lb Bk IntS CtK CoM CoP CoF KrM KrI KrD LtI DjkB TmsI
open KrO (own_ints)
open TblS (rInfo)
set_option linter.unusedSimpArgs false
set_option linter.unusedVariables false

/-- The table when the first 'k' rows stand. -/
structure Tk (m : Mp) (ss : List Ct) (g N k : Nat) (wr : World) : Prop where
  ex : ∃ cur : Array Value, Blk wr g 24 cur ∧ cur.size = N ∧ ∀ i, i < k → ∃ A D, cur[(at_ ss i).ce.toNat]? = some (.slice (some ⟨A, 0, none⟩) 36 36) ∧ IsD m (stp m) (at_ ss i).ce.toNat D ∧ Blk wr A 111 (timeCs fun d => tmOf (D d))

set_option maxRecDepth 100000 in
set_option maxHeartbeats 4000000 in
theorem between_any (m : Mp) (T : Nat → Nat → Int) (hT : TT m T) (ww hh : Nat) (gm : GoodM m ww hh) (ss : List Ct) (hss : ∀ i, i < ss.length → ∃ c : Nat, (at_ ss i).ce = (c : Int) ∧ Opn m (ww * hh) c) (hl : ss.length ≤ 8) (a b : Option Addr) (ca cb : Nat) (sa : Option Addr) (sc : Nat) (w : World) (hr : IRow w a m.R) (hc : IRow w b m.C) (hrow : Row w sa ss) :
    Calls Try.prog 79 #[.agg #[.int .i64 m.W, .int .i64 m.H, .slice a m.R.length ca, .slice b m.C.length cb], .slice sa ss.length sc] w fun e w' => ∃ g, e = .returned (.slice (some ⟨g, 0, none⟩) m.C.length m.C.length) ∧ Tk m ss g m.C.length ss.length w' ∧ Below w.heap.size w w' := by
  obtain ⟨t1, ri, rz0, rz1, rz2⟩ := info_parts rInfo
  have n36 := gm.n36
  have HG := Lib.hid gm
  have HT := Lib.hid hT
  have HB := Lib.hid ((Below.refl w.heap.size w).alloc (Nat.le_refl _) (.cells #[.int .i64 m.W, .int .i64 m.H, .slice a m.R.length ca, .slice b m.C.length cb] 26))
  have HK := Lib.hid (Blk.new w 26 #[.int .i64 m.W, .int .i64 m.H, .slice a m.R.length ca, .slice b m.C.length cb])
  have HR := Lib.hid (RowAt.below hr HB.out)
  have HC := Lib.hid (RowAt.below hc HB.out)
  have HRw := Lib.hid (hrow.later HB.out)
  have HSS := Lib.hid hss
  obtain ⟨B, hB⟩ : ∃ B, w.heap.size = B := ⟨_, rfl⟩
  have HBq := Lib.hid hB
  have hNw : m.C.length = ww * hh := gm.C
  have HNw := Lib.hid hNw
  obtain ⟨n, hn⟩ : ∃ n, ss.length = n := ⟨_, rfl⟩
  have HL := Lib.hid hn
  rw [hn] at hl ⊢
  have hN36 : m.C.length ≤ 36 := by omega
  have hmk : ∀ W : World, (Instr.makeSlice 62 (.int .i64 (m.C.length : Int)) (.int .i64 (m.C.length : Int))).run Try.prog W = .ok (.slice (some ⟨W.heap.size, 0, none⟩) m.C.length m.C.length) (W.alloc (.cells (madeCells #[.slice none 0 0] m.C.length) 24)) := fun W => by
    have h := run_make (P := Try.prog) W 62 24 t1 (.slice none 0 0) Try.underlying62 ri rz0 .i64 .i64 m.C.length m.C.length (by omega) (Int.le_refl _) (by rw [rz2]; omega) (by omega)
    simp only [Int.toNat_natCast, rz1, Nat.mul_one] at h
    exact h
  obtain ⟨p0, p1, p2, p3, -⟩ := MapS.Blk.four HK.out
  rw [hB] at p0 p1 p2 p3 HK
  clear hr hc hrow hss gm hT hB hn hNw
  have HG1 := Lib.hid (show (w.alloc (.cells #[.int .i64 m.W, .int .i64 m.H, .slice a m.R.length ca, .slice b m.C.length cb] 26)).heap.size = B + 1 from by rw [World.size_alloc, HBq.out])
  have HTk := Lib.hid (show Tk m ss (w.alloc (.cells #[.int .i64 m.W, .int .i64 m.H, .slice a m.R.length ca, .slice b m.C.length cb] 26)).heap.size m.C.length 0 ((w.alloc (.cells #[.int .i64 m.W, .int .i64 m.H, .slice a m.R.length ca, .slice b m.C.length cb] 26)).alloc (.cells (madeCells #[.slice none 0 0] m.C.length) 24)) from
    ⟨_, Blk.new _ _ _, by simp [madeCells], fun i hi => absurd hi (Nat.not_lt_zero _)⟩)
  have HB1 := Lib.hid (show Below (w.alloc (.cells #[.int .i64 m.W, .int .i64 m.H, .slice a m.R.length ca, .slice b m.C.length cb] 26)).heap.size (w.alloc (.cells #[.int .i64 m.W, .int .i64 m.H, .slice a m.R.length ca, .slice b m.C.length cb] 26)) ((w.alloc (.cells #[.int .i64 m.W, .int .i64 m.H, .slice a m.R.length ca, .slice b m.C.length cb] 26)).alloc (.cells (madeCells #[.slice none 0 0] m.C.length) 24)) from (Below.refl _ _).alloc (Nat.le_refl _) _)
  go_enter Try.func79, Try.ntmps79
  go_wp2
  try rw [HBq.out]
  generalize w.alloc (.cells #[.int .i64 m.W, .int .i64 m.H, .slice a m.R.length ca, .slice b m.C.length cb] 26) = w0 at *
  try rw [HG1.out]
  rw [HG1.out] at HTk HB1
  go_loopg [15] n (fun gk i wr => ∃ k : Nat, k ≤ n ∧ gk = n - k ∧ i = .int .i64 k ∧ Tk m ss (B + 1) m.C.length k wr ∧ Below (B + 1) w0 wr)
  case atStart => exact ⟨0, Nat.zero_le _, rfl, rfl, HTk.out, HB1.out⟩
  case round =>
    clear HTk HB1
    obtain ⟨k, hk, hgk, rfl, hT, hb⟩ := hrel
    have HTk := Lib.hid hT
    have HB1 := Lib.hid (show Below w0.heap.size w0 wr from by rw [HG1.out]; exact hb)
    clear hT hb
    by_cases hlt : k < n
    · have hkr : k < ss.length := by rw [HL.out]; exact hlt
      obtain ⟨b1, off1, rfl, c0, c1⟩ := (HRw.out.later HB1.out).cells hkr
      obtain ⟨cc, hcc, hoc⟩ := HSS.out k hkr
      obtain ⟨y, hy⟩ : ∃ y, (at_ ss k).co = y := ⟨_, rfl⟩
      rw [hy] at c0
      rw [hcc] at c1
      have HCC := Lib.hid hcc
      have HOC := Lib.hid hoc
      have hk0 : (0 : Int) ≤ (k : Int) := by omega
      have hk1 : (k : Int) < (n : Int) := by omega
      have HBa := Lib.hid (HB1.out.alloc HB1.out.size (.cells #[.int .i64 y, .int .i64 (cc : Int)] 70))
      have HKn := Lib.hid (Blk.new wr 70 #[.int .i64 y, .int .i64 (cc : Int)])
      have hTa := (show Tk m ss (B + 1) m.C.length k (wr.alloc (.cells #[.int .i64 y, .int .i64 (cc : Int)] 70)) from by
        obtain ⟨cur, h1, h2, h3⟩ := HTk.out.ex
        exact ⟨cur, h1.alloc _, h2, fun i hi => by obtain ⟨A, D, h4, h6, h5⟩ := h3 i hi; exact ⟨A, D, h4, h6, h5.alloc _⟩⟩)
      have HTa := Lib.hid hTa
      clear hcc hoc hy hTa
      go_upto_region 5 with (fail)
      obtain ⟨NB, hNB⟩ : ∃ z, wr.heap.size = z := ⟨_, rfl⟩
      rw [hNB] at HKn
      try rw [hNB]
      generalize wr.alloc (.cells #[.int .i64 y, .int .i64 (cc : Int)] 70) = wa at *
      have hmap := HK.out.later HBa.out
      obtain ⟨p0, p1, p2, p3, -⟩ := MapS.Blk.four hmap
      obtain ⟨n0, n1⟩ : wa.cell? ⟨NB, 0, none⟩ = some (.int .i64 y) ∧ wa.cell? ⟨NB, 1, none⟩ = some (.int .i64 (cc : Int)) := ⟨HKn.out.cell 0 rfl, HKn.out.cell 1 rfl⟩
      obtain ⟨D, hD⟩ := isD_ex HG.out HOC.out (wts_from HG.out)
      have HD := Lib.hid hD
      have CF := Lib.hid (TmsI.from_any m ww hh HG.out a b ca cb cc wa (RowAt.below HR.out HBa.out) (RowAt.below HC.out HBa.out) HOC.out D hD)
      clear c0 c1 hNB hmap hD
      go_wp2_with fail
      refine CF.out.mono ?_
      rintro e w2 ⟨rfl, hb⟩
      have HB2 := Lib.hid (HBa.out.trans (hb.mono HBa.out.size))
      have HT2 := Lib.hid (show Tk m ss (B + 1) m.C.length k w2 from by
        obtain ⟨cur, h1, h2, h3⟩ := HTa.out.ex
        exact ⟨cur, h1.later hb, h2, fun i hi => by obtain ⟨A, D, h4, h6, h5⟩ := h3 i hi; exact ⟨A, D, h4, h6, h5.later hb⟩⟩)
      have HKn2 := Lib.hid (HKn.out.later hb)
      clear hb p0 p1 p2 p3 n0 n1 CF HTa HKn
      have HS3 := Lib.hid (stored_new w2 (fun i => tmOf (D i)))
      have HTh := Lib.hid (there_new w2)
      have hs2 := HB2.out.size
      dsimp only
      go_step
      go_step
      go_step
      go_step
      refine wpList_store_mid rfl 111 (.tmp 8) (.tmp 22) rfl w2.heap.size 0 (timeL fun i => tmOf (D i)).toArray rfl rfl (by rw [timeS_len]; exact HTh.out) (by rw [timeS_len]; exact info_times) (all_oneCell_toArray timeL_one) ?_
      obtain ⟨w3, hw3⟩ : ∃ w3, ((w2.alloc (.cells (timeCs fun _ => 0) 111)).setCells w2.heap.size 0 (timeL fun i => tmOf (D i))) = w3 := ⟨_, rfl⟩
      rw [hw3] at HS3
      change wpList _ _ _ _ _ ((w2.alloc (.cells (timeCs fun _ => 0) 111)).setCells w2.heap.size 0 (timeL fun i => tmOf (D i)))
      rw [hw3]
      obtain ⟨AB, hAB⟩ : ∃ z, w2.heap.size = z := ⟨_, rfl⟩
      have hb3 := HS3.out.2
      have HKA := Lib.hid (show Blk w3 AB 111 (timeCs fun i => tmOf (D i)) from by rw [← hAB]; exact HS3.out.1)
      have HB3 := Lib.hid (HB2.out.trans (hb3.mono hs2))
      have hn1 := (HKn2.out.later hb3).cell 1 rfl
      have hT3 : Tk m ss (B + 1) m.C.length k w3 := by
        obtain ⟨cur, h1, h2, h3⟩ := HT2.out.ex
        exact ⟨cur, h1.later hb3, h2, fun i hi => by obtain ⟨A, D, h4, h6, h5⟩ := h3 i hi; exact ⟨A, D, h4, h6, h5.later hb3⟩⟩
      obtain ⟨cur, hk1', hk2, hk3⟩ := hT3.ex
      have hccl : cc < m.C.length := by rw [HNw.out]; exact HOC.out.1
      have hcur := List.getElem?_eq_getElem (l := cur.toList) (i := cc) (by rw [Array.length_toList, hk2]; exact hccl)
      rw [Array.getElem?_toList] at hcur
      obtain ⟨u, hu0⟩ : ∃ u, cur.toList[cc]'(by rw [Array.length_toList, hk2]; exact hccl) = u := ⟨_, rfl⟩
      rw [hu0] at hcur
      have tc := hk1'.cell cc hcur
      have tf := hk1'.frozen cc
      have HKt := Lib.hid hk1'
      have HK2 := Lib.hid hk2
      have HK3 := Lib.hid hk3
      have hc0 : (0 : Int) ≤ (cc : Int) := by omega
      have hc1 : (cc : Int) < (m.C.length : Int) := by omega
      have hneN : B + 1 ≠ NB := by
        intro e
        have h1 := HKn2.out.later hb3
        rw [← e] at h1
        unfold Blk at h1 hk1'
        rw [hk1'] at h1
        injection h1 with h2
        injection h2 with _ h3
        exact absurd h3 (by decide)
      have hu : undef = Value.tuple #[] := rfl
      rw [hAB]
      clear hw3 hAB HS3 HTh hb3 hT3 hu0 hcur HT2 HB2 HKn2 hs2 hk1' hk2 hk3
      go_upto_region 6 with (fail)
      refine wp_region_noPanic ?_
      refine wp_region_held_drew (S := (fun Wx : World => Wx.cell? ⟨NB, 1, none⟩ = some (.int .i64 (cc : Int)))) (by kernel_rfl) (hn1) (fun hHeld => ?_)
      refine wpAnyH_take (i := 0) (oi := _) (v := ?_) rfl (by kernel_rfl) (by kernel_rfl) (by kernel_rfl) (fun _ _ _ h => h) (Or.inl ⟨by rfl, ?_⟩) (by assumption) ?_; rotate_left; focus (intro W hSw; (try dsimp only at hSw); go_simp; (first | done | with_reducible rfl))
      (try simp only [List.getElem_toArray, List.getElem_cons_succ, List.getElem_cons_zero, Act.put, List.setIfInBounds_toArray, List.set_cons_zero, List.set_cons_succ])
      refine wpAnyH_take (i := 1) (oi := _) (v := ?_) rfl (by kernel_rfl) (by kernel_rfl) (by kernel_rfl) (fun _ _ _ h => h) (Or.inl ⟨by rfl, ?_⟩) (by assumption) ?_; rotate_left; focus (intro W hSw; (try dsimp only at hSw); go_simp; (first | done | with_reducible rfl))
      (try simp only [List.getElem_toArray, List.getElem_cons_succ, List.getElem_cons_zero, Act.put, List.setIfInBounds_toArray, List.set_cons_zero, List.set_cons_succ])
      refine wpAnyH_take (i := 2) (oi := _) (v := ?_) rfl (by kernel_rfl) (by kernel_rfl) (by kernel_rfl) (fun _ _ _ h => h) (Or.inl ⟨by rfl, ?_⟩) (by assumption) ?_; rotate_left; focus (intro W hSw; (try dsimp only at hSw); go_simp; (first | done | with_reducible rfl))
      (try simp only [List.getElem_toArray, List.getElem_cons_succ, List.getElem_cons_zero, Act.put, List.setIfInBounds_toArray, List.set_cons_zero, List.set_cons_succ])
      refine wpAnyH_take (i := 3) (oi := _) (v := ?_) rfl (by kernel_rfl) (by kernel_rfl) (by kernel_rfl) (fun _ _ _ h => h) (Or.inl ⟨by rfl, ?_⟩) (by assumption) ?_; rotate_left; focus (intro W hSw; (try dsimp only at hSw); go_simp; (first | done | with_reducible rfl))
      (try simp only [List.getElem_toArray, List.getElem_cons_succ, List.getElem_cons_zero, Act.put, List.setIfInBounds_toArray, List.set_cons_zero, List.set_cons_succ])
      refine wpAnyH_take (i := 4) (oi := _) (v := ?_) rfl (by kernel_rfl) (by kernel_rfl) (by kernel_rfl) (fun _ _ _ h => h) (Or.inl ⟨by rfl, ?_⟩) (by assumption) ?_; rotate_left; focus (intro W hSw; (try dsimp only at hSw); go_simp; (first | done | with_reducible rfl))
      (try simp only [List.getElem_toArray, List.getElem_cons_succ, List.getElem_cons_zero, Act.put, List.setIfInBounds_toArray, List.set_cons_zero, List.set_cons_succ])
      refine wpAnyH_ready (rs := [5]) (by kernel_rfl) (by simp) ?_
      refine AllReadyH.cons (o := _) rfl (fun K hK => ?_) AllReadyH.nil
      go_simp
      have hneA : AB ≠ B + 1 := by
        intro e
        have h1 := HKA.out
        have h2 := HKt.out
        rw [e] at h1
        unfold Blk at h1 h2
        rw [h2] at h1
        injection h1 with h3
        injection h3 with _ h4
        exact absurd h4 (by decide)
      have HT4 := Lib.hid (show Tk m ss (B + 1) m.C.length (k + 1) (w3.setCell ⟨B + 1, cc, none⟩ (.slice (some ⟨AB, 0, none⟩) 36 36)).drew from by
        refine ⟨_, (HKt.out.set_ cc (.slice (some ⟨AB, 0, none⟩) 36 36)).drew, by simp [HK2.out], fun i hi => ?_⟩
        by_cases hic : (at_ ss i).ce.toNat = cc
        · refine ⟨AB, D, ?_, by rw [hic]; exact HD.out, (HKA.out.far hneA _).drew⟩
          rw [hic]
          simp [HK2.out, hccl]
        · have hik : i < k := by
            rcases Nat.lt_or_ge i k with h | h
            · exact h
            · obtain rfl : i = k := by omega
              exact absurd (by rw [HCC.out, Int.toNat_natCast]) hic
          obtain ⟨A, D', h4, h6, h5⟩ := HK3.out i hik
          have hneA2 : A ≠ B + 1 := by
            intro e
            have h1 := h5
            have h2 := HKt.out
            rw [e] at h1
            unfold Blk at h1 h2
            rw [h2] at h1
            injection h1 with h3
            injection h3 with _ h4
            exact absurd h4 (by decide)
          refine ⟨A, D', ?_, h6, (h5.far hneA2 _).drew⟩
          rw [Array.getElem?_setIfInBounds_ne (fun e => hic e.symm)]
          exact h4)
      have HB4 := Lib.hid (show Below (B + 1) w0 (w3.setCell ⟨B + 1, cc, none⟩ (.slice (some ⟨AB, 0, none⟩) 36 36)).drew from by
        have h := HB3.out
        rw [HG1.out] at h
        exact (h.setCell (Nat.le_refl _) _).drew)
      have hS : (w3.setCell ⟨B + 1, cc, none⟩ (.slice (some ⟨AB, 0, none⟩) 36 36)).drew.cell? ⟨NB, 1, none⟩ = some (.int .i64 (cc : Int)) := by
        show (w3.setCell ⟨B + 1, cc, none⟩ (.slice (some ⟨AB, 0, none⟩) 36 36)).cell? ⟨NB, 1, none⟩ = _
        rw [World.cell?_setCell_far _ _ _ _ hneN]
        exact hn1
      refine hK.out _ _ hS (fun _ => ?_)
      clear hK K hS hHeld tc tf hn1
      refine wpAnyH_done (by kernel_rfl) ?_ _
      refine NoPanic.normal ?_
      (try simp only [List.getElem_toArray, List.getElem_cons_succ, List.getElem_cons_zero, Act.put, List.setIfInBounds_toArray, List.set_cons_zero, List.set_cons_succ])
      clear hu
      go_wp2
      go_roundg (n - (k + 1))
      case measure => omega
      case rel => exact ⟨k + 1, by omega, rfl, by go_num, HT4.out, HB4.out⟩
    · obtain rfl : k = n := by omega
      go_wp2
      go_ret
      exact ⟨_, rfl, HTk.out, HB.out.trans (HB1.out.mono HB.out.size)⟩
end Go.Proofs.Ytdfmfmndmldggaa.KrP

namespace Go.Proofs.Ytdfmfmndmldggaa.KrP
open Go.RowKit Lb Bk IntS CtK CoM CoP CoF CoC KrM KrI KrD KrE KrF LtI DjkB TmsI
open KrO (own_ints)
open Cells (NPost)
set_option linter.unusedSimpArgs false
set_option linter.unusedVariables false

theorem tm_nn {d : Int} (h : 0 ≤ d) : tmOf d = d := if_neg (by omega)
/-- The table, by codes. -/
theorem tb_of {m : Mp} {T : Nat → Nat → Int} (hT : TT m T) {cs : List Ct} {S : List Int} {ww hh : Nat} (C : Cd m T cs S ww hh) {ss : List Ct} {g N : Nat} {w : World} (hk : Tk m ss g N ss.length w) (hs : ∀ x, x ∈ S → ∃ i, i < ss.length ∧ (at_ ss i).ce = ceA cs x) : Tb T cs S g w := by
  obtain ⟨cur, h1, h2, h3⟩ := hk.ex
  intro x hx
  obtain ⟨i, hi, he⟩ := hs x hx
  obtain ⟨A, D, h4, h5, h6⟩ := h3 i hi
  rw [he] at h4 h5
  obtain ⟨cx, ecx, ocx⟩ := fnd_open C.g C.ok (C.fnd x hx)
  refine ⟨A, h1.cell _ h4, fun y hy => ?_⟩
  obtain ⟨cy, ecy, ocy⟩ := fnd_open C.g C.ok (C.fnd y hy)
  have hd := (C.dd x y hx hy).1
  have n36 := C.g.n36
  unfold DD at hd ⊢
  rw [ecx, Int.toNat_natCast] at h5
  rw [ecx, ecy, Int.toNat_natCast, Int.toNat_natCast] at hd ⊢
  have hsw : D cy = T cy cx := IsD.swap C.g (fun _ _ => rfl) ocx ocy h5 (hT ww hh C.g cy ocy)
  have h36 : cy < 36 := by have := ocy.1; omega
  have hc := h6.cell cy (v := .int .i64 (tmOf (D cy))) (by simp [timeCs, h36])
  rw [hsw, tm_nn hd] at hc
  exact hc
def coZ (x y : Ct) : Int := cmpZ x.co y.co
theorem co_lt (x y : Ct) : ltOf coZ x y = decide (x.co < y.co) := by
  unfold ltOf coZ cmpZ
  apply decide_eq_decide.2
  by_cases h1 : x.co < y.co
  · simp [h1]
  · by_cases h2 : y.co < x.co <;> simp [h1, h2]
theorem co_swo : Go.Sort.SWO (ltOf coZ) where
  irrefl x := by rw [co_lt]; simp
  trans x y z h1 h2 := by rw [co_lt] at *; simp at *; omega
  ntrans x y z h1 h2 := by rw [co_lt] at *; simp at *; omega

set_option maxHeartbeats 1000000 in
theorem cof_any (x y : Ct) (W : World) : Calls Try.prog 76 #[.agg #[.int .i64 x.co, .int .i64 x.ce], .agg #[.int .i64 y.co, .int .i64 y.ce]] W fun e w' => e = .returned (.int .i64 (coZ x y)) ∧ ∃ q os', w' = Go.Sort.grow (W.drewN q) os' := by
  obtain ⟨⟨p0, p1⟩, -⟩ := blk_cells ((Blk.new W 70 #[.int .i64 x.co, .int .i64 x.ce]).alloc (.cells #[.int .i64 y.co, .int .i64 y.ce] 70))
  obtain ⟨⟨q0, q1⟩, -⟩ := blk_cells (show Blk ((W.alloc (.cells #[.int .i64 x.co, .int .i64 x.ce] 70)).alloc (.cells #[.int .i64 y.co, .int .i64 y.ce] 70)) (W.heap.size + 1) 70 #[.int .i64 y.co, .int .i64 y.ce] from by simpa using Blk.new (W.alloc (.cells #[.int .i64 x.co, .int .i64 x.ce] 70)) 70 #[.int .i64 y.co, .int .i64 y.ce])
  obtain ⟨z, hz⟩ : ∃ z, cmpZ x.co y.co = z := ⟨_, rfl⟩
  have C := Lib.hid (fun w => hz ▸ cmp_any x.co y.co w)
  rw [show coZ x y = z from hz]
  clear hz
  go_enter Try.func76, Try.ntmps76
  go_wp2_with fail
  refine (C.out _).mono ?_
  rintro e w1 ⟨rfl, rfl⟩
  go_wp2
  go_ret
  exact ⟨rfl, 0, _, by rw [Go.Sort.alloc_eq_grow, Go.Sort.alloc_eq_grow, Go.Sort.grow_grow]; rfl⟩

/-- A course's parts. -/
theorem zs_split {zs : List Int} {r : Nat} (h : zs.length = r + 2) : ∃ x0 mz xl, zs = x0 :: (mz ++ [xl]) ∧ mz.length = r ∧ zAt zs 0 = x0 ∧ zAt zs (r + 1) = xl ∧ ∀ i, i < r → zAt zs (i + 1) = zAt mz i := by
  cases zs with
  | nil => simp at h
  | cons x0 t =>
    have ht : t.length = r + 1 := by simpa using h
    have hne : t ≠ [] := by rintro rfl; simp at ht
    obtain ⟨mz, xl, rfl⟩ : ∃ mz xl, t = mz ++ [xl] := ⟨_, _, (List.dropLast_concat_getLast hne).symm⟩
    have hm : mz.length = r := by simpa using ht
    refine ⟨x0, mz, xl, rfl, hm, rfl, ?_, fun i hi => ?_⟩
    · rw [zAt_cons]
      unfold zAt
      rw [List.getD_eq_getElem?_getD, List.getElem?_append_right (by omega), hm]
      simp
    · rw [zAt_cons]
      unfold zAt
      rw [List.getD_eq_getElem?_getD, List.getD_eq_getElem?_getD, List.getElem?_append_left (by omega)]
def BPost3 (w : World) (us : List Int) (z : Int) (ok : Bool) (e : Ending) (w' : World) : Prop := ∃ v, e = .returned (.tuple #[v, .int .i64 z, .bool ok]) ∧ OwnI w' w.heap.size v us ∧ Below w.heap.size w w'
theorem cd_of {m : Mp} {T : Nat → Nat → Int} (hT : TT m T) {cs : List Ct} {zs : List Int} (h : CsP m T cs zs) {ww hh : Nat} (g : GoodM m ww hh) : Cd m T cs zs ww hh := ⟨g, h.1, fun x hx => CsP.fnd h hx, fun x y hx hy => CsP.dd hT h hx hy⟩

set_option maxRecDepth 100000 in
set_option maxHeartbeats 8000000 in
theorem order_impl (m : Mp) (T : Nat → Nat → Int) (hT : TT m T) (cs : List Ct) (hl : cs.length ≤ 1048576) (zs : List Int) (hl2 : zs.length ≤ 1048576) (hR : m.R.length ≤ maxLen) (hC : m.C.length ≤ maxLen) (a b : Option Addr) (ca cb : Nat) (ad : Option Addr) (cap : Nat) (al : Option Addr) (cl : Nat) (w : World) (h : Rc m cs zs a b ad al w) (hcl : zs.length ≤ cl) :
    Calls Try.prog 46 #[.agg #[.int .i64 m.W, .int .i64 m.H, .slice a m.R.length ca, .slice b m.C.length cb], .slice ad cs.length cap, .slice al zs.length cl] w (BPost3 w (boL m T cs zs) (boT m T cs zs) (boB m T cs zs)) := by
  have HB := Lib.hid ((Below.refl w.heap.size w).alloc (Nat.le_refl _) (.cells #[.int .i64 m.W, .int .i64 m.H, .slice a m.R.length ca, .slice b m.C.length cb] 26))
  have HK := Lib.hid (Blk.new w 26 #[.int .i64 m.W, .int .i64 m.H, .slice a m.R.length ca, .slice b m.C.length cb])
  have H := Lib.hid h
  obtain ⟨gd, hgd⟩ : ∃ o, csB m T cs zs = o := ⟨_, rfl⟩
  have c1 := Lib.hid (fun w h => hgd ▸ KrO.is_impl m T hT cs hl zs hl2 hR hC a b ca cb ad cap al cl w h)
  have c2 := Lib.hid (fun w h => tw_impl zs hl2 al cl hcl w h)
  have c3 := Lib.hid (fun w h => stops_any m cs hl zs hl2 hR hC a b ca cb ad cap al cl w h)
  have HGd := Lib.hid hgd
  obtain ⟨ok, hok⟩ : ∃ o, boB m T cs zs = o := ⟨_, rfl⟩
  obtain ⟨us, hus⟩ : ∃ o, boL m T cs zs = o := ⟨_, rfl⟩
  obtain ⟨tz, htz⟩ : ∃ o, boT m T cs zs = o := ⟨_, rfl⟩
  have HO := Lib.hid hok
  have HU := Lib.hid hus
  have HZ := Lib.hid htz
  have HT := Lib.hid hT
  obtain ⟨n, hn⟩ : ∃ n, zs.length = n := ⟨_, rfl⟩
  have HN := Lib.hid hn
  rw [hn] at c1 c2 c3 hcl hl2
  rw [hok, hus, htz, hn]
  obtain ⟨B, hB⟩ : ∃ B, w.heap.size = B := ⟨_, rfl⟩
  have HBq := Lib.hid hB
  rw [hB] at HK
  have hno : ok = false → us = [] ∧ tz = 0 := fun e => by
    have := bo_no (show boB m T cs zs = false from by rw [HO.out]; exact e)
    rwa [HU.out, HZ.out] at this
  have HNo := Lib.hid hno
  clear h hT hgd hok hus htz hn hB hno
  go_enter Try.func46, Try.ntmps46
  go_wp2_with fail
  refine (c1.out _ (H.out.later HB.out)).mono ?_
  rintro e w1 ⟨rfl, hb⟩
  have HB1 := Lib.hid (HB.out.trans (hb.mono (by simp)))
  have HK1 := Lib.hid (HK.out.later hb)
  have hs1 := HB1.out.size
  try rw [HBq.out]
  clear hb HB HK c1
  cases gd with
  | false =>
    have h1 : ok = false := by rw [← HO.out]; unfold boB; rw [HGd.out]; rfl
    obtain ⟨h2, h3⟩ := HNo.out h1
    subst h1 h2 h3
    go_wp2
    go_ret3
    exact ⟨_, rfl, own_ints w1 _ hs1, HB1.out.alloc hs1 _⟩
  | true =>
  have HP := Lib.hid (cs_iff.1 HGd.out)
  have hn28 := HP.out.2.1
  rw [HN.out] at hn28
  obtain ⟨hn2, hn8⟩ := hn28
  by_cases h7 : 7 < n
  · have h1 : ok = false := by rw [← HO.out]; unfold boB; rw [HN.out, decide_eq_false (by omega)]; simp
    obtain ⟨h2, h3⟩ := HNo.out h1
    subst h1 h2 h3
    have hd : decide ((7 : Int) < (n : Int)) = true := decide_eq_true (by omega)
    go_wp2
    go_ret3
    exact ⟨_, rfl, own_ints w1 _ hs1, HB1.out.alloc hs1 _⟩
  have hd7 : decide ((7 : Int) < (n : Int)) = false := decide_eq_false (by omega)
  obtain ⟨tw, htw⟩ : ∃ t, twB zs zs.length = t := ⟨_, rfl⟩
  have HTw := Lib.hid htw
  rw [HN.out] at htw
  have C2 := Lib.hid (c2.out w1 (H.out.later HB1.out).z)
  rw [htw] at C2
  clear c2 htw
  go_wp2_with fail
  refine C2.out.mono ?_
  rintro e w2 ⟨rfl, hq⟩
  obtain rfl := hq.symm
  clear C2 hq
  cases tw with
  | true =>
    have h1 : ok = false := by rw [← HO.out]; unfold boB; rw [HTw.out]; simp
    obtain ⟨h2, h3⟩ := HNo.out h1
    subst h1 h2 h3
    go_wp2
    go_ret3
    exact ⟨_, rfl, own_ints w1 _ hs1, HB1.out.alloc hs1 _⟩
  | false =>
  have h1 : ok = true := by rw [← HO.out]; exact bo_iff.2 ⟨HP.out, by rw [HN.out]; omega, HTw.out⟩
  subst h1
  have hby := bo_yes HO.out
  rw [HU.out, HZ.out] at hby
  have HBY := Lib.hid hby
  have C3 := c3.out w1 (H.out.later HB1.out)
  have hst := st_yes (KrR.stp_of HP.out)
  rw [hst.1, hst.2] at C3
  obtain ⟨r, hr⟩ : ∃ r, n = r + 2 := ⟨n - 2, by omega⟩
  have HRn := Lib.hid (show zs.length = r + 2 from by rw [HN.out]; exact hr)
  obtain ⟨x0, mz, xl, ezs, hmz, e0, el, emz⟩ := zs_split HRn.out
  have hsl : stL cs zs = [ctA cs x0] ++ mz.map (ctA cs) ++ [ctA cs xl] := by unfold stL; rw [ezs]; simp
  rw [hsl] at C3
  have HC3 := Lib.hid C3
  have HE0 := Lib.hid e0
  have HEl := Lib.hid el
  have HEm := Lib.hid emz
  have HMz := Lib.hid hmz
  have hmem0 : ∀ x, x ∈ zs ↔ x = x0 ∨ x ∈ mz ∨ x = xl := fun x => by rw [ezs]; simp
  have HMem := Lib.hid hmem0
  obtain ⟨p0, p1, p2, p3, -⟩ := MapS.Blk.four HK1.out
  have hr5 : r ≤ 5 := by omega
  clear hby C3 hst hr hsl e0 el emz hmz hmem0 c3 ezs HNo
  go_wp2_with fail
  refine HC3.out.mono ?_
  rintro e w3 ⟨v3, rfl, ho, hb⟩
  have HB3 := Lib.hid (HB1.out.trans (hb.mono hs1))
  have HK3 := Lib.hid (HK1.out.later hb)
  have hlen : ([ctA cs x0] ++ mz.map (ctA cs) ++ [ctA cs xl]).length = r + 2 := by simp [HMz.out]
  obtain ⟨sa, sc, rfl, -, -⟩ := Own.slice ho
  obtain ⟨sb, rfl⟩ : ∃ g, sa = some ⟨g, 0, none⟩ := by
    rcases ho.2 with ⟨_, h0⟩ | ⟨g, c, cur, e, _⟩
    · rw [hlen] at h0; omega
    · exact ⟨g, by simpa using (Value.slice.inj e).1⟩
  rw [hlen]
  rw [hlen] at ho
  have hsc := Own.le ho
  rw [hlen] at hsc
  have hsbl := Own.at_lt ho _ rfl
  have hs3 := HB3.out.size
  have HSo := Lib.hid (KrQ.sort_sub 76 coZ co_swo (fun args w => KrO.enter_of Try.func76 (by kernel_rfl) rfl args w) cof_any w1.heap.size sb (r + 2) sc (sc - 1) [ctA cs x0] (mz.map (ctA cs)) [ctA cs xl] w3 ho hlen (by omega))
  have hmz2 := HMz.out
  have hmzl : (mz.map (ctA cs)).length = r := by rw [List.length_map]; exact hmz2
  rw [hmzl] at HSo
  have hc1 : (1 : Int) ≤ (r : Int) + 1 := by omega
  have hc2 : (r : Int) + 1 ≤ (sc : Int) := by omega
  have hc3 : ¬ sc = 1 := by omega
  have hrw : IntKind.i64.wrap ((r : Int) + 2 - 1) = (r : Int) + 1 := by rw [IntWalk.i64_in _ (by omega)]; omega
  have hBlt := HK1.out.lt
  have hsb1 := hsbl.1
  have hw13 := hb.size
  clear hb ho HB1 HK1 HC3 p0 p1 p2 p3 hmz2 hmzl
  go_wp2_with fail
  refine HSo.out.mono ?_
  rintro e w4 ⟨rfl, gs, hgl, hgp, hgs, hrow, hg⟩
  have hb4 : Below w1.heap.size w3 w4 := (Below.refl _ _).grown hg hw13 (fun q e => by cases e; exact hsb1)
  have HB4 := Lib.hid (HB3.out.trans (hb4.mono hs1))
  have HK4 := Lib.hid (HK3.out.below hb4 hBlt)
  have HRow := Lib.hid hrow
  have hx0 : x0 ∈ zs := (HMem.out x0).2 (.inl rfl)
  have hxl : xl ∈ zs := (HMem.out xl).2 (.inr (.inr rfl))
  have HX0 := Lib.hid hx0
  have HXl := Lib.hid hxl
  have hco : ∀ x, x ∈ zs → (ctA cs x).co = x := fun x hx => (fnd_at (CsP.fnd HP.out hx)).2
  have HCo := Lib.hid hco
  have hgl2 : gs.length = r := hgl
  have HGl := Lib.hid hgl2
  have hgm : ∀ c, c ∈ gs ↔ ∃ x, x ∈ mz ∧ ctA cs x = c := fun c => by rw [hgp.mem_iff, List.mem_map]
  have HGm := Lib.hid hgm
  have hmc : (mz.map (ctA cs)).map (·.co) = mz := by
    rw [List.map_map]
    exact (List.map_congr_left fun x hx => hco x ((HMem.out x).2 (.inr (.inl hx)))).trans (List.map_id _)
  have hmn : mz.Nodup := by
    rw [List.nodup_iff_pairwise_ne, List.pairwise_iff_getElem]
    intro i j hi hj hij e
    have h1 : zAt zs (i + 1) = mz[i] := by rw [HEm.out i (by rw [← HMz.out]; exact hi)]; simp [zAt, hi]
    have h2 : zAt zs (j + 1) = mz[j] := by rw [HEm.out j (by rw [← HMz.out]; exact hj)]; simp [zAt, hj]
    have h3 := HMz.out
    have h4 := HRn.out
    exact tw_ne HTw.out (i := i + 1) (j := j + 1) (by omega) (by omega) (Nat.le_refl _) (by rw [h1, h2, e])
  have hgn : (gs.map (·.co)).Nodup := by
    rw [(hgp.map (·.co)).nodup_iff, hmc]
    exact hmn
  have hlf : gs.map (·.co) = lfL zs := lf_of HP.out (fun i j hij hj => by
    have h1 := hgs i j hij hj
    rw [co_lt, decide_eq_false_iff_not] at h1
    have h2 : (at_ gs i).co ≠ (at_ gs j).co := by
      intro e
      rw [List.nodup_iff_pairwise_ne, List.pairwise_iff_getElem] at hgn
      refine hgn i j (by simp; omega) (by simpa using hj) hij ?_
      simp only [List.getElem_map]
      rw [at_lt (by omega), at_lt hj] at e
      exact e
    omega) (fun x => by
    have h4 := HRn.out
    constructor
    · rintro ⟨c, hc, rfl⟩
      obtain ⟨y, hy, rfl⟩ := (hgm c).1 hc
      rw [hco y ((HMem.out y).2 (.inr (.inl hy)))]
      obtain ⟨i, hi, e⟩ := mem_zAt hy
      have h5 := HMz.out
      exact ⟨i + 1, by omega, by omega, by rw [HEm.out i (by omega), e]⟩
    · rintro ⟨i, h1, h2, rfl⟩
      obtain ⟨j, rfl⟩ : ∃ j, i = j + 1 := ⟨i - 1, by omega⟩
      have h5 := HMz.out
      have h6 : zAt zs (j + 1) ∈ mz := by rw [HEm.out j (by omega)]; exact zAt_mem (by omega)
      exact ⟨_, (hgm _).2 ⟨_, h6, rfl⟩, hco _ ((HMem.out _).2 (.inr (.inl h6)))⟩)
  have HLf := Lib.hid hlf
  have hssl : ([ctA cs x0] ++ gs ++ [ctA cs xl]).length = r + 2 := by simp [hgl2]
  have hmemS : ∀ c, c ∈ [ctA cs x0] ++ gs ++ [ctA cs xl] ↔ ∃ x, x ∈ zs ∧ ctA cs x = c := fun c => by
    simp only [List.mem_append, List.mem_singleton, hgm]
    constructor
    · rintro ((rfl | ⟨x, hx, rfl⟩) | rfl)
      · exact ⟨x0, hx0, rfl⟩
      · exact ⟨x, (HMem.out x).2 (.inr (.inl hx)), rfl⟩
      · exact ⟨xl, hxl, rfl⟩
    · rintro ⟨x, hx, rfl⟩
      rcases (HMem.out x).1 hx with rfl | h | rfl
      · exact .inl (.inl rfl)
      · exact .inl (.inr ⟨x, h, rfl⟩)
      · exact .inr rfl
  have HMemS := Lib.hid hmemS
  have HSsl := Lib.hid hssl
  obtain ⟨ww, hh, gm⟩ := good_of (good_ok HP.out.1)
  have HCd := Lib.hid (cd_of HT.out HP.out gm)
  have HGm2 := Lib.hid gm
  have HRG := Lib.hid (show Row w4 (some ⟨sb, 2, none⟩) gs from by
    have h1 := (hrow.drop 1).take r
    rw [Nat.zero_add, Nat.one_mul] at h1
    have h2 : (([ctA cs x0] ++ gs ++ [ctA cs xl]).drop 1).take r = gs := by
      simp [← hgl2]
    rwa [h2] at h1)
  obtain ⟨b1, o1, e1, c0, d0⟩ := hrow.cells (i := 0) (by rw [hssl]; omega)
  cases e1
  obtain ⟨b1, o1, e1, c1, d1⟩ := hrow.cells (i := r + 1) (by rw [hssl]; omega)
  cases e1
  have ha0 : at_ ([ctA cs x0] ++ gs ++ [ctA cs xl]) 0 = ctA cs x0 := by simp [at_]
  have hal : at_ ([ctA cs x0] ++ gs ++ [ctA cs xl]) (r + 1) = ctA cs xl := by
    unfold at_
    rw [List.getD_eq_getElem?_getD, List.getElem?_append_right (by simp [hgl2])]
    simp [hgl2]
  rw [ha0] at c0 d0
  rw [hal] at c1 d1
  rw [hco x0 hx0] at c0
  rw [hco xl hxl] at c1
  change w4.cell? ⟨sb, 1, none⟩ = some (.int .i64 (ceA cs x0)) at d0
  change w4.cell? ⟨sb, 0, none⟩ = some (.int .i64 x0) at c0
  change w4.cell? ⟨sb, 0 + (r + 1) * 2 + 1, none⟩ = some (.int .i64 (ceA cs xl)) at d1
  rw [Nat.zero_add] at c1 d1
  have hsb4 : sb < w4.heap.size := World.block_lt_of_cell? w4 _ c0
  have hk0 : (0 : Int) ≤ (r : Int) + 1 := by omega
  have hk1 : (r : Int) + 1 < (r : Int) + 2 := by omega
  have hk2 : (0 : Int) < (r : Int) + 2 := by omega
  clear hb4 hgp hgs hg hgl hgm hmc hmn hgn hlf hssl hmemS gm ha0 hal hx0 hxl hco HB3 HK3 hBlt hsb1 hw13 hrow hgl2 HSo
  go_upto_region 8 with (fail)
  obtain ⟨SB, hSB⟩ : ∃ z, w4.heap.size = z := ⟨_, rfl⟩
  have hba := (Below.refl w4.heap.size w4).alloc (Nat.le_refl _) (.cells #[.pointer none, .int .i64 x0, .int .i64 (ceA cs x0), .int .i64 0] 84)
  have hKb := Blk.new w4 84 #[.pointer none, .int .i64 x0, .int .i64 (ceA cs x0), .int .i64 0]
  rw [hSB] at hKb
  have HCh := Lib.hid (show Ch cs (w4.alloc (.cells #[.pointer none, .int .i64 x0, .int .i64 (ceA cs x0), .int .i64 0] 84)) [x0] 0 (some ⟨SB, 0, none⟩) from ⟨SB, none, 0, rfl, ⟨hKb.cell 0 rfl, hKb.cell 1 rfl, hKb.cell 2 rfl, hKb.cell 3 rfl⟩, rfl⟩)
  have HBa := Lib.hid (HB4.out.trans (hba.mono HB4.out.size))
  have hmap := HK4.out.later hba
  have HRa := Lib.hid (HRow.out.later hba)
  have HRGa := Lib.hid (HRG.out.later hba)
  have l0 := (hba.cell (World.block_lt_of_cell? w4 _ c1)).trans c1
  have l1 := (hba.cell (World.block_lt_of_cell? w4 _ d1)).trans d1
  try rw [hSB]
  clear hSB hba hKb c0 d0 c1 d1 hsb4 hsbl HB4 HK4 HRow HRG
  generalize w4.alloc (.cells #[.pointer none, .int .i64 x0, .int .i64 (ceA cs x0), .int .i64 0] 84) = wa at *
  obtain ⟨p0, p1, p2, p3, -⟩ := MapS.Blk.four hmap
  obtain ⟨ss, hss⟩ : ∃ s, [ctA cs x0] ++ gs ++ [ctA cs xl] = s := ⟨_, rfl⟩
  rw [hss] at HRa HMemS HSsl
  have hopn : ∀ i, i < ss.length → ∃ c : Nat, (at_ ss i).ce = (c : Int) ∧ Opn m (ww * hh) c := fun i hi => by
    have h1 : at_ ss i ∈ ss := by rw [at_lt hi]; exact List.getElem_mem hi
    obtain ⟨x, hx, e⟩ := (HMemS.out _).1 h1
    rw [← e]
    exact fnd_open HGm2.out HP.out.1 (CsP.fnd HP.out hx)
  have CB0 := fun (w : World) hr hc hrow => between_any m T HT.out ww hh HGm2.out ss hopn (by rw [HSsl.out]; omega) a b ca cb (some ⟨sb, 0, none⟩) sc w hr hc hrow
  rw [HSsl.out] at CB0
  have CB := Lib.hid CB0
  have hmC : m.C.length = ww * hh := HGm2.out.C
  have CW0 := fun (w : World) (g tcap : Nat) hrow hT hC => whole_any m T cs zs ww hh HCd.out g tcap r gs HGl.out (by omega) (fun c hc => by
    obtain ⟨x, hx, rfl⟩ := (HGm.out c).1 hc
    have hz := (HMem.out x).2 (.inr (.inl hx))
    rw [HCo.out x hz]
    exact ⟨hz, rfl⟩) x0 HX0.out xl HXl.out [] 0 (Int.le_refl _) (by omega) (some ⟨SB, 0, none⟩) (some ⟨sb, 2, none⟩) (sc - 1) w (by omega) hrow hT hC
  rw [HLf.out] at CW0
  obtain ⟨cel, hcel⟩ : ∃ z, ceA cs xl = z := ⟨_, rfl⟩
  rw [hcel] at CW0 l1
  have CW := Lib.hid CW0
  have hbw : boW T cs zs = bw (DD T cs) r x0 (lfL zs) xl := by
    unfold boW
    rw [HRn.out, show r + 2 - 2 = r by omega, show r + 2 - 1 = r + 1 by omega, HE0.out, HEl.out]
  have HBW := Lib.hid hbw
  have hbl : (boW T cs zs).1.length = r + 1 := by rw [hbw]; exact bw_len _ _ _ (by have := lf_len HP.out HTw.out; rw [this, HRn.out]; rfl)
  have HBl := Lib.hid hbl
  have HMC := Lib.hid hmC
  have hu : undef = Value.tuple #[] := rfl
  clear hmap hss hopn CB0 CW0 hcel hbw hbl hmC
  refine wp_region_noPanic ?_
  refine wp_region_held_drew (S := (fun Wx : World => Wx.cell? ⟨B, 0, none⟩ = some (.int .i64 m.W) ∧ Wx.cell? ⟨B, 1, none⟩ = some (.int .i64 m.H) ∧ Wx.cell? ⟨B, 2, none⟩ = some (.slice a m.R.length ca) ∧ Wx.cell? ⟨B, 3, none⟩ = some (.slice b m.C.length cb) ∧ Wx.cell? ⟨sb, (r + 1) * 2, none⟩ = some (.int .i64 xl) ∧ Wx.cell? ⟨sb, (r + 1) * 2 + 1, none⟩ = some (.int .i64 cel))) (by kernel_rfl) ⟨p0, p1, p2, p3, l0, l1⟩ (fun hHeld => ?_)
  refine wpAnyH_take (i := 0) (oi := _) (v := ?_) rfl (by kernel_rfl) (by kernel_rfl) (by kernel_rfl) (fun _ _ _ h => h) (Or.inl ⟨by rfl, ?_⟩) (by assumption) ?_; rotate_left; focus (intro W hSw; (try dsimp only at hSw); go_simp; (first | done | with_reducible rfl))
  (try simp only [List.getElem_toArray, List.getElem_cons_succ, List.getElem_cons_zero, Act.put, List.setIfInBounds_toArray, List.set_cons_zero, List.set_cons_succ])
  refine wpAnyH_take (i := 1) (oi := _) (v := ?_) rfl (by kernel_rfl) (by kernel_rfl) (by kernel_rfl) (fun _ _ _ h => h) (Or.inl ⟨by rfl, ?_⟩) (by assumption) ?_; rotate_left; focus (intro W hSw; (try dsimp only at hSw); go_simp; (first | done | with_reducible rfl))
  (try simp only [List.getElem_toArray, List.getElem_cons_succ, List.getElem_cons_zero, Act.put, List.setIfInBounds_toArray, List.set_cons_zero, List.set_cons_succ])
  refine wpAnyH_take (i := 3) (oi := _) (v := ?_) rfl (by kernel_rfl) (by kernel_rfl) (by kernel_rfl) (fun _ _ _ h => h) (Or.inl ⟨by rfl, ?_⟩) (by assumption) ?_; rotate_left; focus (intro W hSw; (try dsimp only at hSw); go_simp; (first | done | with_reducible rfl))
  (try simp only [List.getElem_toArray, List.getElem_cons_succ, List.getElem_cons_zero, Act.put, List.setIfInBounds_toArray, List.set_cons_zero, List.set_cons_succ])
  refine wpAnyH_take (i := 4) (oi := _) (v := ?_) rfl (by kernel_rfl) (by kernel_rfl) (by kernel_rfl) (fun _ _ _ h => h) (Or.inl ⟨by rfl, ?_⟩) (by assumption) ?_; rotate_left; focus (intro W hSw; (try dsimp only at hSw); go_simp; (first | done | with_reducible rfl))
  (try simp only [List.getElem_toArray, List.getElem_cons_succ, List.getElem_cons_zero, Act.put, List.setIfInBounds_toArray, List.set_cons_zero, List.set_cons_succ])
  refine wpAnyH_take (i := 5) (oi := _) (v := ?_) rfl (by kernel_rfl) (by kernel_rfl) (by kernel_rfl) (fun _ _ _ h => h) (Or.inl ⟨by rfl, ?_⟩) (by assumption) ?_; rotate_left; focus (intro W hSw; (try dsimp only at hSw); go_simp; (first | done | with_reducible rfl))
  (try simp only [List.getElem_toArray, List.getElem_cons_succ, List.getElem_cons_zero, Act.put, List.setIfInBounds_toArray, List.set_cons_zero, List.set_cons_succ])
  refine wpAnyH_take (i := 6) (oi := _) (v := ?_) rfl (by kernel_rfl) (by kernel_rfl) (by kernel_rfl) (fun _ _ _ h => h) (Or.inl ⟨by rfl, ?_⟩) (by assumption) ?_; rotate_left; focus (intro W hSw; (try dsimp only at hSw); go_simp; (first | done | with_reducible rfl))
  (try simp only [List.getElem_toArray, List.getElem_cons_succ, List.getElem_cons_zero, Act.put, List.setIfInBounds_toArray, List.set_cons_zero, List.set_cons_succ])
  refine wpAnyH_take (i := 7) (oi := _) (v := ?_) rfl (by kernel_rfl) (by kernel_rfl) (by kernel_rfl) (fun _ _ _ h => h) (Or.inl ⟨by rfl, ?_⟩) (by assumption) ?_; rotate_left; focus (intro W hSw; (try dsimp only at hSw); go_simp; (first | done | with_reducible rfl))
  (try simp only [List.getElem_toArray, List.getElem_cons_succ, List.getElem_cons_zero, Act.put, List.setIfInBounds_toArray, List.set_cons_zero, List.set_cons_succ])
  refine wpAnyH_take (i := 8) (oi := _) (v := ?_) rfl (by kernel_rfl) (by kernel_rfl) (by kernel_rfl) (fun _ _ _ h => h) (Or.inl ⟨by rfl, ?_⟩) (by assumption) ?_; rotate_left; focus (intro W hSw; (try dsimp only at hSw); go_simp; (first | done | with_reducible rfl))
  (try simp only [List.getElem_toArray, List.getElem_cons_succ, List.getElem_cons_zero, Act.put, List.setIfInBounds_toArray, List.set_cons_zero, List.set_cons_succ])
  refine wpAnyH_ready (rs := [2]) (by kernel_rfl) (by simp) ?_
  refine AllReadyH.cons (o := _) rfl (fun K hK => ?_) AllReadyH.nil
  go_simp
  go_at_call 79
  refine (CB.out _ (H.out.later HBa.out.drew).d.r (H.out.later HBa.out.drew).d.c HRa.out.drew).mono ?_
  rintro e w5 ⟨g, rfl, htk, hb⟩
  have HTb := Lib.hid (tb_of HT.out HCd.out (S := zs) (by rw [HSsl.out]; exact htk) (fun x hx => by
    have h1 : ctA cs x ∈ ss := (HMemS.out _).2 ⟨x, hx, rfl⟩
    obtain ⟨i, hi, e⟩ := List.mem_iff_getElem.1 h1
    exact ⟨i, hi, by rw [at_lt hi, e]; rfl⟩))
  have HB5 := Lib.hid (HBa.out.drew.trans (hb.mono HBa.out.size))
  have HR5 := Lib.hid (HRGa.out.later ((Below.refl _ _).drew.trans hb))
  have HC5 := Lib.hid (HCh.out.later ((Below.refl _ _).drew.trans hb))
  have hS : (w5.cell? ⟨B, 0, none⟩ = some (.int .i64 m.W) ∧ w5.cell? ⟨B, 1, none⟩ = some (.int .i64 m.H) ∧ w5.cell? ⟨B, 2, none⟩ = some (.slice a m.R.length ca) ∧ w5.cell? ⟨B, 3, none⟩ = some (.slice b m.C.length cb) ∧ w5.cell? ⟨sb, (r + 1) * 2, none⟩ = some (.int .i64 xl) ∧ w5.cell? ⟨sb, (r + 1) * 2 + 1, none⟩ = some (.int .i64 cel)) := ⟨(hb.cell (World.block_lt_of_cell? wa.drew _ p0)).trans p0, (hb.cell (World.block_lt_of_cell? wa.drew _ p1)).trans p1, (hb.cell (World.block_lt_of_cell? wa.drew _ p2)).trans p2, (hb.cell (World.block_lt_of_cell? wa.drew _ p3)).trans p3, (hb.cell (World.block_lt_of_cell? wa.drew _ l0)).trans l0, (hb.cell (World.block_lt_of_cell? wa.drew _ l1)).trans l1⟩
  rw [HMC.out]
  clear htk hb HRGa HCh HBa HRa
  go_wp2_with fail
  refine hK.out _ _ hS (fun _ => ?_)
  clear hK K hHeld p0 p1 p2 p3 l0 l1
  obtain ⟨p0, p1, p2, p3, l0, l1⟩ := hS
  refine wpAnyH_ready (rs := [9]) (by kernel_rfl) (by simp) ?_
  refine AllReadyH.cons (o := _) rfl (fun K hK => ?_) AllReadyH.nil
  go_simp
  go_at_call 78
  refine (CW.out _ _ _ HR5.out HTb.out HC5.out).mono ?_
  rintro e w6 ⟨q, rfl, hch, hb⟩
  have HC6 := Lib.hid (show Ch cs w6 ((boW T cs zs).1.reverse ++ [x0]) (boW T cs zs).2 q from by
    rw [HBW.out]
    rwa [Int.zero_add] at hch)
  have HB6 := Lib.hid (HB5.out.trans (hb.mono HB5.out.size))
  have hS : (w6.cell? ⟨B, 0, none⟩ = some (.int .i64 m.W) ∧ w6.cell? ⟨B, 1, none⟩ = some (.int .i64 m.H) ∧ w6.cell? ⟨B, 2, none⟩ = some (.slice a m.R.length ca) ∧ w6.cell? ⟨B, 3, none⟩ = some (.slice b m.C.length cb) ∧ w6.cell? ⟨sb, (r + 1) * 2, none⟩ = some (.int .i64 xl) ∧ w6.cell? ⟨sb, (r + 1) * 2 + 1, none⟩ = some (.int .i64 cel)) := ⟨(hb.cell (World.block_lt_of_cell? w5 _ p0)).trans p0, (hb.cell (World.block_lt_of_cell? w5 _ p1)).trans p1, (hb.cell (World.block_lt_of_cell? w5 _ p2)).trans p2, (hb.cell (World.block_lt_of_cell? w5 _ p3)).trans p3, (hb.cell (World.block_lt_of_cell? w5 _ l0)).trans l0, (hb.cell (World.block_lt_of_cell? w5 _ l1)).trans l1⟩
  clear hch hb HR5 HTb HC5
  go_wp2_with fail
  refine hK.out _ _ hS (fun _ => ?_)
  clear hK K hS p0 p1 p2 p3 l0 l1
  refine wpAnyH_take (i := 10) (oi := _) (v := ?_) rfl (by kernel_rfl) (by kernel_rfl) (by kernel_rfl) (fun _ _ _ h => h) (Or.inl ⟨by rfl, ?_⟩) (by assumption) ?_; rotate_left; focus (intro W hSw; (try dsimp only at hSw); go_simp; (first | done | with_reducible rfl))
  (try simp only [List.getElem_toArray, List.getElem_cons_succ, List.getElem_cons_zero, Act.put, List.setIfInBounds_toArray, List.set_cons_zero, List.set_cons_succ])
  refine wpAnyH_done (by kernel_rfl) ?_ _
  refine NoPanic.normal ?_
  (try simp only [List.getElem_toArray, List.getElem_cons_succ, List.getElem_cons_zero, Act.put, List.setIfInBounds_toArray, List.set_cons_zero, List.set_cons_succ])
  obtain ⟨Bq, rfl, wt⟩ := HC6.out.time (by simp)
  obtain ⟨h2a, h2b⟩ := HBY.out
  rw [HE0.out] at h2a
  have CC0 := fun w h => codes_any cs ((boW T cs zs).1.reverse ++ [x0]) (boW T cs zs).2 (by rw [List.length_append, List.length_reverse, HBl.out]; simp; omega) (by simp) (some ⟨Bq, 0, none⟩) w h
  rw [show ((boW T cs zs).1.reverse ++ [x0]).reverse = us from by rw [h2a]; simp] at CC0
  have CC := Lib.hid CC0
  rw [← h2b] at wt
  clear CC0 h2a h2b
  go_upto_region 9 with (fail)
  refine wp_region_noPanic ?_
  refine wp_region_held_drew (S := (fun Wx : World => Wx.cell? ⟨Bq, 3, none⟩ = some (.int .i64 tz))) (by kernel_rfl) (wt) (fun hHeld => ?_)
  refine wpAnyH_take (i := 0) (oi := _) (v := ?_) rfl (by kernel_rfl) (by kernel_rfl) (by kernel_rfl) (fun _ _ _ h => h) (Or.inl ⟨by rfl, ?_⟩) (by assumption) ?_; rotate_left; focus (intro W hSw; (try dsimp only at hSw); go_simp; (first | done | with_reducible rfl))
  (try simp only [List.getElem_toArray, List.getElem_cons_succ, List.getElem_cons_zero, Act.put, List.setIfInBounds_toArray, List.set_cons_zero, List.set_cons_succ])
  refine wpAnyH_take (i := 2) (oi := _) (v := ?_) rfl (by kernel_rfl) (by kernel_rfl) (by kernel_rfl) (fun _ _ _ h => h) (Or.inl ⟨by rfl, ?_⟩) (by assumption) ?_; rotate_left; focus (intro W hSw; (try dsimp only at hSw); go_simp; (first | done | with_reducible rfl))
  (try simp only [List.getElem_toArray, List.getElem_cons_succ, List.getElem_cons_zero, Act.put, List.setIfInBounds_toArray, List.set_cons_zero, List.set_cons_succ])
  refine wpAnyH_take (i := 3) (oi := _) (v := ?_) rfl (by kernel_rfl) (by kernel_rfl) (by kernel_rfl) (fun _ _ _ h => h) (Or.inl ⟨by rfl, ?_⟩) (by assumption) ?_; rotate_left; focus (intro W hSw; (try dsimp only at hSw); go_simp; (first | done | with_reducible rfl))
  (try simp only [List.getElem_toArray, List.getElem_cons_succ, List.getElem_cons_zero, Act.put, List.setIfInBounds_toArray, List.set_cons_zero, List.set_cons_succ])
  refine wpAnyH_take (i := 4) (oi := _) (v := ?_) rfl (by kernel_rfl) (by kernel_rfl) (by kernel_rfl) (fun _ _ _ h => h) (Or.inl ⟨by rfl, ?_⟩) (by assumption) ?_; rotate_left; focus (intro W hSw; (try dsimp only at hSw); go_simp; (first | done | with_reducible rfl))
  (try simp only [List.getElem_toArray, List.getElem_cons_succ, List.getElem_cons_zero, Act.put, List.setIfInBounds_toArray, List.set_cons_zero, List.set_cons_succ])
  refine wpAnyH_take (i := 5) (oi := _) (v := ?_) rfl (by kernel_rfl) (by kernel_rfl) (by kernel_rfl) (fun _ _ _ h => h) (Or.inl ⟨by rfl, ?_⟩) (by assumption) ?_; rotate_left; focus (intro W hSw; (try dsimp only at hSw); go_simp; (first | done | with_reducible rfl))
  (try simp only [List.getElem_toArray, List.getElem_cons_succ, List.getElem_cons_zero, Act.put, List.setIfInBounds_toArray, List.set_cons_zero, List.set_cons_succ])
  refine wpAnyH_ready (rs := [1]) (by kernel_rfl) (by simp) ?_
  refine AllReadyH.cons (o := _) rfl (fun K hK => ?_) AllReadyH.nil
  go_simp
  go_at_call 80
  refine (CC.out _ (HC6.out.later (Below.refl _ _).drew)).mono ?_
  rintro e w7 ⟨v, rfl, ho, hb⟩
  have HO7 := Lib.hid (show OwnI w7 w.heap.size v us from IntS.rebase ho HB6.out.size)
  have HB7 := Lib.hid (HB6.out.drew.trans (hb.mono HB6.out.size))
  have hS : w7.cell? ⟨Bq, 3, none⟩ = some (.int .i64 tz) := (hb.cell (World.block_lt_of_cell? w6 _ wt)).trans wt
  clear ho hb
  go_wp2_with fail
  refine hK.out _ _ hS (fun _ => ?_)
  clear hK K hS hHeld
  refine wpAnyH_take (i := 6) (oi := _) (v := ?_) rfl (by kernel_rfl) (by kernel_rfl) (by kernel_rfl) (fun _ _ _ h => h) (Or.inl ⟨by rfl, ?_⟩) (by assumption) ?_; rotate_left; focus (intro W hSw; (try dsimp only at hSw); go_simp; (first | done | with_reducible rfl))
  (try simp only [List.getElem_toArray, List.getElem_cons_succ, List.getElem_cons_zero, Act.put, List.setIfInBounds_toArray, List.set_cons_zero, List.set_cons_succ])
  refine wpAnyH_take (i := 7) (oi := _) (v := ?_) rfl (by kernel_rfl) (by kernel_rfl) (by kernel_rfl) (fun _ _ _ h => h) (Or.inl ⟨by rfl, ?_⟩) (by assumption) ?_; rotate_left; focus (intro W hSw; (try dsimp only at hSw); go_simp; (first | done | with_reducible rfl))
  (try simp only [List.getElem_toArray, List.getElem_cons_succ, List.getElem_cons_zero, Act.put, List.setIfInBounds_toArray, List.set_cons_zero, List.set_cons_succ])
  refine wpAnyH_take (i := 8) (oi := _) (v := ?_) rfl (by kernel_rfl) (by kernel_rfl) (by kernel_rfl) (fun _ _ _ h => h) (Or.inl ⟨by rfl, ?_⟩) (by assumption) ?_; rotate_left; focus (intro W hSw; (try dsimp only at hSw); go_simp; (first | done | with_reducible rfl))
  (try simp only [List.getElem_toArray, List.getElem_cons_succ, List.getElem_cons_zero, Act.put, List.setIfInBounds_toArray, List.set_cons_zero, List.set_cons_succ])
  refine wpAnyH_done (by kernel_rfl) ?_ _
  refine NoPanic.normal ?_
  (try simp only [List.getElem_toArray, List.getElem_cons_succ, List.getElem_cons_zero, Act.put, List.setIfInBounds_toArray, List.set_cons_zero, List.set_cons_succ])
  clear hu
  go_wp2
  go_ret3
  exact ⟨_, rfl, HO7.out, HB7.out⟩
end Go.Proofs.Ytdfmfmndmldggaa.KrP

namespace Go.Proofs.Ytdfmfmndmldggaa.KrN
open Go.RowKit Lb Bk IntS CtK CoM CoP CoF CoC KrM KrI KrD KrE KrF KrG KrT KrU LtI
open KrO (own_ints)
open KrP (Cd cw bw_succ bw_bd)
open KrR (blk_keep)
open Cells (NPost)
set_option linter.unusedSimpArgs false
set_option linter.unusedVariables false

set_option maxRecDepth 20000 in
set_option maxHeartbeats 1000000 in
theorem own_any (ad : Addr) (cap : Nat) (zs : List Int) (hl : zs.length ≤ 1048576) (w : World) (hr : IRow w (some ad) zs) :
    Calls Try.prog 96 #[.slice (some ad) zs.length cap] w fun e w' => ∃ v, e = .returned v ∧ OwnI w' w.heap.size v zs ∧ Below w.heap.size w w' := by
  obtain ⟨t0, hi, hz0, hz1, hz2⟩ := info_parts iInfo
  have hB := (Below.refl w.heap.size w).alloc (Nat.le_refl _) (.cells #[] 3)
  have HB := Lib.hid hB
  have HN := Lib.hid (show ∀ j u, (zs.map (Value.int .i64))[j]? = some u → (w.alloc (.cells #[] 3)).cell? (ad.add j) = some u from by
    intro j u h
    have hj : j < zs.length := by have := (List.getElem?_eq_some_iff.1 h).1; simpa using this
    rcases RowAt.below hr hB with h0 | ⟨b, off, e, hc⟩
    · omega
    · cases e
      rw [CtK.add_none, hc j hj]
      simp [zAt, hj] at h ⊢
      exact h)
  have hown := own_ints w w.heap.size (Nat.le_refl _)
  unfold OwnI at hown
  obtain ⟨n, hn⟩ : ∃ n, zs.length = n := ⟨_, rfl⟩
  have HNl := Lib.hid hn
  have hcl : (zs.map (Value.int .i64)).length = n * 1 := by simp [hn]
  rw [hn] at hl ⊢
  clear hr hB hn
  go_enter Try.func96, Try.ntmps96
  go_wp2_with (go_loud (at_builtin; (refine wpList_append_own _ rfl (.tmp 3) (.tmp 4) 24 rfl w.heap.size 3 t0 (.int .i64 0) 1 8 Try.underlying24 hi hz0 hz1 hz2 rfl (by decide) _ 0 _ rfl hown ad n cap (zs.map (Value.int .i64)) rfl hcl HN.out (by simp [Value.oneCell']) (by unfold maxLen; omega) (by omega) HB.out.size ?_; intro v' w3 hown3 hgr3 _; have HO := Lib.hid (show OwnI w3 w.heap.size v' zs from by unfold OwnI; rw [HNl.out]; simpa using hown3); have HB3 := Lib.hid (HB.out.grown (show World.grownBy _ w3 (some w.heap.size) from hgr3) HB.out.size (fun q e => by cases e; exact Nat.le_refl _)); clear hown3 hgr3)))
  go_ret
  exact ⟨_, rfl, HO.out, HB3.out⟩

/-- The time of a beginning. -/
def tB (T : Nat → Nat → Int) (cs : List Ct) (l : List Int) : Int := smZ (seqL (lgT T cs l) (l.length - 1))
theorem zAt_app (l r : List Int) {i : Nat} (h : i < l.length) : zAt (l ++ r) i = zAt l i := by
  unfold zAt
  rw [List.getD_eq_getElem?_getD, List.getD_eq_getElem?_getD, List.getElem?_append_left h]
theorem zAt_last (l : List Int) (x : Int) : zAt (l ++ [x]) l.length = x := by
  unfold zAt
  rw [List.getD_eq_getElem?_getD, List.getElem?_append_right (Nat.le_refl _)]
  simp
theorem tB_one (T : Nat → Nat → Int) (cs : List Ct) (x : Int) : tB T cs [x] = 0 := rfl
theorem tB_app (T : Nat → Nat → Int) (cs : List Ct) (bz : List Int) (x y : Int) : tB T cs (bz ++ [x] ++ [y]) = tB T cs (bz ++ [x]) + DD T cs x y := by
  unfold tB
  have h1 : (bz ++ [x] ++ [y]).length - 1 = bz.length + 1 := by simp
  have h2 : (bz ++ [x]).length - 1 = bz.length := by simp
  rw [h1, h2, seq_next, sm_app]
  have h3 : seqL (lgT T cs (bz ++ [x] ++ [y])) bz.length = seqL (lgT T cs (bz ++ [x])) bz.length := by
    unfold seqL
    refine List.map_congr_left fun i hi => ?_
    have hi' : i < bz.length := by simpa using hi
    rw [lg_dd, lg_dd, zAt_app (bz ++ [x]) [y] (by simp; omega), zAt_app (bz ++ [x]) [y] (by simp; omega)]
  have h4 : lgT T cs (bz ++ [x] ++ [y]) bz.length = DD T cs x y := by
    have h5 : zAt (bz ++ [x] ++ [y]) bz.length = x := by rw [zAt_app (bz ++ [x]) [y] (by simp), zAt_last]
    have h6 : zAt (bz ++ [x] ++ [y]) (bz.length + 1) = y := by
      have := zAt_last (bz ++ [x]) y
      simpa using this
    rw [lg_dd, h5, h6]
  rw [h3, h4]
  simp [smZ]
/-- The answer of the recursion: a course and its time. -/
def OPost (w : World) (us : List Int) (z : Int) (e : Ending) (w' : World) : Prop := ∃ v, e = .returned (.tuple #[v, .int .i64 z]) ∧ OwnI w' w.heap.size v us ∧ Below w.heap.size w w'
theorem own_addr {w : World} {base : Nat} {v : Value} {zs : List Int} (h : OwnI w base v zs) (hn : 0 < zs.length) : ∃ g cap, v = .slice (some ⟨g, 0, none⟩) zs.length cap ∧ zs.length ≤ cap ∧ base ≤ g := by
  rcases h.2 with ⟨_, h0⟩ | ⟨g, cap, cur, hv, hb, _, h3, _⟩
  · omega
  · exact ⟨g, cap, hv, h3, hb⟩

set_option maxRecDepth 20000 in
set_option maxHeartbeats 4000000 in
theorem ord_zero (m : Mp) (T : Nat → Nat → Int) (hT : TT m T) (cs : List Ct) (hl : cs.length ≤ 1048576) (S : List Int) (ww hh : Nat) (C : Cd m T cs S ww hh) (hR : m.R.length ≤ maxLen) (hC : m.C.length ≤ maxLen) (bz : List Int) (x : Int) (hbz : ∀ y, y ∈ bz ++ [x] → y ∈ S) (h7 : bz.length + 2 ≤ 7) (f : Int) (hf : f ∈ S) (a b : Option Addr) (ca cb : Nat) (ad : Option Addr) (cap : Nat) (ba : Option Addr) (bc : Nat) (la : Option Addr) (lc : Nat) (w : World) (h : Rc m cs (bz ++ [x]) a b ad ba w) :
    Calls Try.prog 73 #[.agg #[.int .i64 m.W, .int .i64 m.H, .slice a m.R.length ca, .slice b m.C.length cb], .slice ad cs.length cap, .slice ba (bz ++ [x]).length bc, .slice la 0 lc, .int .i64 f] w (OPost w (bz ++ [x] ++ [f]) (tB T cs (bz ++ [x]) + DD T cs x f)) := by
  obtain ⟨t0, hi0, hz0, hz1, hz2⟩ := info_parts iInfo
  have HB := Lib.hid ((Below.refl w.heap.size w).alloc (Nat.le_refl _) (.cells #[.int .i64 m.W, .int .i64 m.H, .slice a m.R.length ca, .slice b m.C.length cb] 26))
  have HK := Lib.hid (Blk.new w 26 #[.int .i64 m.W, .int .i64 m.H, .slice a m.R.length ca, .slice b m.C.length cb])
  have H0 := Lib.hid h
  have H1 := Lib.hid (h.later HB.out)
  have hln : (bz ++ [x]).length = bz.length + 1 := by simp
  obtain ⟨bb, bo, rfl, -⟩ := h.cell (k := 0) (by rw [hln]; omega)
  have CO := Lib.hid (own_any ⟨bb, bo, none⟩ bc (bz ++ [x]) (by rw [hln]; omega) _ H1.out.z)
  have hg := C.ok
  have hfnd : ∀ i, i < (bz ++ [x] ++ [f]).length → Fnd cs (bz ++ [x] ++ [f]) i := fun i hi => by
    have h1 := zAt_mem hi
    unfold Fnd
    rcases List.mem_append.1 h1 with h2 | h2
    · exact C.fnd _ (hbz _ h2)
    · rw [List.mem_singleton.1 h2]
      exact C.fnd _ hf
  rw [← tB_app]
  obtain ⟨us, hus⟩ : ∃ us, bz ++ [x] ++ [f] = us := ⟨_, rfl⟩
  have hul : us.length = bz.length + 2 := by rw [← hus]; simp
  rw [hus] at hfnd ⊢
  have CT0 := fun al cl w h => times_any m T hT cs hl us (by omega) hg hfnd a b ca cb ad cap al cl w h
  have CS0 := fun al cl w h => sum_any (seqL (lgT T cs us) (us.length - 1)) (by rw [seq_len]; omega) (lg_bd2 hT hg hfnd) al cl w h
  obtain ⟨zz, hzz⟩ : ∃ z, tB T cs us = z := ⟨_, rfl⟩
  have hzz2 : smZ (seqL (lgT T cs us) (us.length - 1)) = zz := hzz
  obtain ⟨tl, htl⟩ : ∃ l, seqL (lgT T cs us) (us.length - 1) = l := ⟨_, rfl⟩
  have htll : tl.length = us.length - 1 := by rw [← htl, seq_len]
  rw [htl] at CT0 CS0 hzz2
  rw [hzz2] at CS0
  rw [hzz, hln]
  rw [hln] at CO
  rw [hul] at CT0 htll
  have CT := Lib.hid CT0
  have CS := Lib.hid CS0
  have HUS := Lib.hid hus
  have HUL := Lib.hid hul
  have HTL := Lib.hid htll
  have HLN := Lib.hid hln
  clear h hus hul hln CT0 CS0 hzz hzz2 htl htll hT hg hfnd hbz hf C
  go_enter Try.func73, Try.ntmps73
  go_wp2_with fail
  refine CO.out.mono ?_
  rintro e w1 ⟨v1, rfl, ho, hb⟩
  have HB1 := Lib.hid (HB.out.trans (hb.mono HB.out.size))
  have HK1 := Lib.hid (HK.out.later hb)
  have HO1 := Lib.hid ho
  have hbs := hb.size
  have hw0 : w.heap.size ≤ (w.alloc (.cells #[.int .i64 m.W, .int .i64 m.H, .slice a m.R.length ca, .slice b m.C.length cb] 26)).heap.size := by simp
  have HX := Lib.hid (show IntK.Gr w v1 (bz ++ [x]) w1 from ⟨HB1.out, IntS.rebase ho hw0⟩)
  clear ho hb HB CO
  have hown := HX.out.own.below ((Below.refl _ _).alloc (Nat.le_refl _) (.cells #[.int .i64 f] 3))
  unfold OwnI at hown
  rw [HLN.out] at hown
  have HTa := Lib.hid (HX.out.alloc (.cells #[.int .i64 f] 3))
  have HKa := Lib.hid (HK1.out.alloc (.cells #[.int .i64 f] 3))
  have hsz := HX.out.b.size
  go_upto_region 3 with (go_loud (at_builtin; (refine wpList_append_own _ rfl (.tmp 23) (.tmp 25) 24 rfl w.heap.size 3 t0 (.int .i64 0) 1 8 Try.underlying24 hi0 hz0 hz1 hz2 rfl (by decide) _ (bz.length + 1) _ rfl hown ⟨_, 0, none⟩ 1 1 [.int .i64 f] rfl rfl (cell_one_new _ _ _) (by simp [Value.oneCell']) (by unfold maxLen; omega) (by omega) (by simp; omega) ?_; intro v' w3 hown3 hgr3 _; have HP3 := Lib.hid (HTa.out.put HLN.out hgr3 hown3); have HKP := Lib.hid (blk_keep hown HKa.out (by decide) hgr3); clear hown3 hgr3)))
  rw [HUS.out] at HP3
  obtain ⟨p0, p1, p2, p3, -⟩ := MapS.Blk.four HKP.out
  obtain ⟨g3, c3, rfl, hc3, -⟩ := own_addr HP3.out.own (by rw [HUL.out]; omega)
  rw [HUL.out]
  have HRc := Lib.hid (show Rc m cs us a b ad (some ⟨g3, 0, none⟩) w3 from ⟨(H0.out.later HP3.out.b).d, by
    obtain ⟨a', c', e, hr, -⟩ := OwnI.slice HP3.out.own
    rw [(Value.slice.inj e).1]
    exact hr⟩)
  clear H0 H1 HTa HKa HX HK1
  go_wp2_with fail
  refine (CT.out _ _ _ HRc.out).mono ?_
  rintro e w4 ⟨v4, rfl, ho, hb⟩
  have HB4 := Lib.hid (HP3.out.b.trans (hb.mono HP3.out.b.size))
  have HO4 := Lib.hid (show OwnI w4 w.heap.size (.slice (some ⟨g3, 0, none⟩) (bz.length + 2) c3) us from by have h := HP3.out.own.below hb; rwa [HUL.out] at h)
  obtain ⟨ta, tc, rfl, hrow, -⟩ := OwnI.slice ho
  have HR4 := Lib.hid hrow
  rw [HTL.out]
  have CS2 := CS.out ta tc w4 HR4.out
  rw [HTL.out] at CS2
  have CS3 := Lib.hid CS2
  clear ho hb hrow CT HRc HP3 HKP CS2 p0 p1 p2 p3
  go_wp2_with fail
  refine CS3.out.mono ?_
  rintro e w5 ⟨rfl, hq⟩
  obtain rfl := hq.symm
  go_wp2
  go_ret2
  exact ⟨_, rfl, HO4.out, HB4.out⟩
end Go.Proofs.Ytdfmfmndmldggaa.KrN

namespace Go.Proofs.Ytdfmfmndmldggaa.KrN
open Go.RowKit Lb Bk IntS CtK CoM CoP CoF CoC KrM KrI KrD KrE KrF KrG KrT KrU LtI
open KrO (own_ints)
open KrP (Cd cw bw_succ bw_bd)
open KrR (blk_keep)
open Cells (NPost)
set_option linter.unusedSimpArgs false
set_option linter.unusedVariables false

theorem ownI_kept {w w' : World} {b b' : Nat} {v v' : Value} {zs : List Int} {n : Nat} {xs : List Value} (h : OwnI w b v zs) (h' : w.ownsRow b' 3 1 v' n xs) (hg : w.grownBy w' v'.ownBlock) (hne : ∀ x y, v.ownBlock = some x → v'.ownBlock = some y → x ≠ y) : OwnI w' b v zs := World.ownsRow.kept h hg (by
  cases hv : v.ownBlock with
  | none => exact .inl rfl
  | some x =>
    refine .inr fun e => ?_
    exact hne x x hv e.symm rfl)
theorem tB_bd {m : Mp} {T : Nat → Nat → Int} {cs : List Ct} {S : List Int} {ww hh : Nat} (C : Cd m T cs S ww hh) (l : List Int) (hl : ∀ y, y ∈ l → y ∈ S) : 0 ≤ tB T cs l ∧ tB T cs l ≤ 972 * l.length := by
  have h := sm_bd (zs := seqL (lgT T cs l) (l.length - 1)) (B := 972) (by decide) (fun i hi => by
    rw [seq_len] at hi
    rw [seq_at _ hi, lg_dd]
    exact C.dd _ _ (hl _ (zAt_mem (by omega))) (hl _ (zAt_mem (by omega)))) (l.length - 1) (by rw [seq_len]; exact Nat.le_refl _)
  rw [take_all _ (seq_len _ _)] at h
  unfold tB
  omega
theorem pk_bd {cc : Nat → List Int × Int} {N : Nat} (h : ∀ k, k < N → 0 ≤ (cc k).2) : ∀ j, j < N → 0 ≤ (pkR cc (j + 1)).2 := fun j hj => by
  obtain ⟨i, h1, h2⟩ := pk_is cc j
  rw [h2]
  exact h i (by omega)

set_option maxRecDepth 100000 in
set_option maxHeartbeats 16000000 in
theorem ord_any (m : Mp) (T : Nat → Nat → Int) (hT : TT m T) (cs : List Ct) (hl : cs.length ≤ 1048576) (S : List Int) (ww hh : Nat) (C : Cd m T cs S ww hh) (hR : m.R.length ≤ maxLen) (hC : m.C.length ≤ maxLen) (f : Int) (hf : f ∈ S) (a b : Option Addr) (ca cb : Nat) (ad : Option Addr) (cap : Nat) : ∀ (n : Nat) (left : List Int), left.length = n → (∀ y, y ∈ left → y ∈ S) → ∀ (bz : List Int) (x : Int), (∀ y, y ∈ bz ++ [x] → y ∈ S) → bz.length + 2 + n ≤ 7 → ∀ (ba : Option Addr) (bc : Nat) (la : Option Addr) (lc : Nat) (w : World), n ≤ lc → Rc m cs (bz ++ [x]) a b ad ba w → IRow w la left →
    Calls Try.prog 73 #[.agg #[.int .i64 m.W, .int .i64 m.H, .slice a m.R.length ca, .slice b m.C.length cb], .slice ad cs.length cap, .slice ba (bz ++ [x]).length bc, .slice la n lc, .int .i64 f] w (OPost w (bz ++ x :: (bw (DD T cs) n x left f).1) (tB T cs (bz ++ [x]) + (bw (DD T cs) n x left f).2))
  | 0, left, hn, hls, bz, x, hbz, h7, ba, bc, la, lc, w, hlc, h, hrow => by
    have := ord_zero m T hT cs hl S ww hh C hR hC bz x hbz (by omega) f hf a b ca cb ad cap ba bc la lc w h
    simpa [bw] using this
  | n + 1, left, hn, hls, bz, x, hbz, h7, ba, bc, la, lc, w, hlc, h, hrow => by
    obtain ⟨t0, hi0, hz0, hz1, hz2⟩ := info_parts iInfo
    have HIH := Lib.hid (ord_any m T hT cs hl S ww hh C hR hC f hf a b ca cb ad cap n)
    have HB := Lib.hid ((Below.refl w.heap.size w).alloc (Nat.le_refl _) (.cells #[.int .i64 m.W, .int .i64 m.H, .slice a m.R.length ca, .slice b m.C.length cb] 26))
    have HK := Lib.hid (Blk.new w 26 #[.int .i64 m.W, .int .i64 m.H, .slice a m.R.length ca, .slice b m.C.length cb])
    have H0 := Lib.hid h
    have HRow := Lib.hid hrow
    have HN := Lib.hid hn
    have HLs := Lib.hid hls
    have HBz := Lib.hid hbz
    have HCd := Lib.hid C
    have HF := Lib.hid hf
    have hx : x ∈ S := hbz x (by simp)
    have HX := Lib.hid hx
    have hln : (bz ++ [x]).length = bz.length + 1 := by simp
    have HLN := Lib.hid hln
    have HTB := Lib.hid (tB_bd C (bz ++ [x]) hbz).1
    have htbd := (tB_bd C (bz ++ [x]) hbz).2
    have HTB2 := Lib.hid htbd
    have HBW := Lib.hid (bw_bd (D := DD T cs) (S := S) (fun x y hx hy => C.dd x y hx hy))
    obtain ⟨bb0, bo0, eba, -⟩ := h.cell (k := 0) (by rw [hln]; omega)
    obtain ⟨lb, lo, ela, hlcells⟩ : ∃ b off, la = some ⟨b, off, none⟩ ∧ ∀ j, j < left.length → w.cell? ⟨b, off + j, none⟩ = some (.int .i64 (zAt left j)) := by
      rcases hrow with h0 | h
      · rw [hn] at h0; omega
      · exact h
    subst eba ela
    have HLB := Lib.hid (show lb < w.heap.size from World.block_lt_of_cell? w _ (hlcells 0 (by rw [hn]; omega)))
    rw [bw_succ, hln]
    obtain ⟨cc, hcc⟩ : ∃ c, cw (DD T cs) n x left f = c := ⟨_, rfl⟩
    have HCC := Lib.hid hcc
    rw [hcc]
    have HPB := Lib.hid (pk_bd (cc := cc) (N := n + 1) (fun k hk => by
      rw [← hcc]
      have hm := zAt_mem (zs := left) (i := k) (by rw [hn]; exact hk)
      have h1 := C.dd x (zAt left k) hx (hls _ hm)
      have h2 := bw_bd (D := DD T cs) (S := S) (fun x y hx hy => C.dd x y hx hy) n (zAt left k) (left.eraseIdx k) f (hls _ hm) hf (fun y hy => hls y (List.mem_of_mem_eraseIdx hy)) (by rw [List.length_eraseIdx_of_lt (by rw [hn]; exact hk), hn]; rfl)
      unfold cw
      simp only
      omega))
    obtain ⟨B, hB⟩ : ∃ B, w.heap.size = B := ⟨_, rfl⟩
    have HBq := Lib.hid hB
    have HS0 := Lib.hid (show OwnI ((w.alloc (.cells #[.int .i64 m.W, .int .i64 m.H, .slice a m.R.length ca, .slice b m.C.length cb] 26)).alloc (.cells #[] 3)) w.heap.size (.slice (some ⟨w.heap.size + 1, 0, none⟩) 0 0) [] from by
      have := own_ints (w.alloc (.cells #[.int .i64 m.W, .int .i64 m.H, .slice a m.R.length ca, .slice b m.C.length cb] 26)) w.heap.size (by simp)
      rwa [World.size_alloc] at this)
    have HB0 := Lib.hid (show Below w.heap.size w ((w.alloc (.cells #[.int .i64 m.W, .int .i64 m.H, .slice a m.R.length ca, .slice b m.C.length cb] 26)).alloc (.cells #[] 3)) from HB.out.alloc (by simp) _)
    have HK0 := Lib.hid (show Blk ((w.alloc (.cells #[.int .i64 m.W, .int .i64 m.H, .slice a m.R.length ca, .slice b m.C.length cb] 26)).alloc (.cells #[] 3)) B 26 #[.int .i64 m.W, .int .i64 m.H, .slice a m.R.length ca, .slice b m.C.length cb] from by rw [← hB]; exact HK.out.alloc _)
    clear h hrow hn hls hbz C hf hx hln hcc hB HB HK htbd hlcells
    go_enter Try.func73, Try.ntmps73
    go_wp2
    try rw [HBq.out]
    go_loopg [15, 13, 14] (n + 1) (fun gk i v zz wr => ∃ (k : Nat) (vb : Value) (zb : Int), k ≤ n + 1 ∧ gk = n + 1 - k ∧ i = .int .i64 k ∧ v = vb ∧ zz = .int .i64 zb ∧ (k = 0 → zb = -1) ∧ (0 < k → zb = tB T cs (bz ++ [x]) + (pkR cc k).2 ∧ OwnI wr w.heap.size vb (bz ++ x :: (pkR cc k).1)) ∧ Below w.heap.size w wr ∧ Blk wr B 26 #[.int .i64 m.W, .int .i64 m.H, .slice a m.R.length ca, .slice b m.C.length cb])
    case atStart => exact ⟨0, _, -1, Nat.zero_le _, rfl, rfl, rfl, rfl, fun _ => rfl, fun h => absurd h (Nat.lt_irrefl _), HB0.out, HK0.out⟩
    case round =>
      clear HS0 HB0 HK0
      obtain ⟨k, vb, zb, hk, hgk, rfl, hvb, rfl, hz0', hz1', hb, hKm⟩ := hrel
      obtain rfl := hvb.symm
      have HZ0 := Lib.hid hz0'
      have HZ1 := Lib.hid hz1'
      have HBr := Lib.hid hb
      have HKr := Lib.hid hKm
      clear hz0' hz1' hb hKm
      by_cases hlt : k < n + 1
      · have hkl : k < left.length := by rw [HN.out]; exact hlt
        have hbs := HBr.out.size
        have HBrs := Lib.hid hbs
        have hrow := RowAt.below HRow.out HBr.out
        have HRr := Lib.hid (show IRow wr (some ⟨lb, lo, none⟩) left from hrow)
        obtain ⟨lb', lo', e', hc⟩ : ∃ b off, (some ⟨lb, lo, none⟩ : Option Addr) = some ⟨b, off, none⟩ ∧ ∀ j, j < left.length → wr.cell? ⟨b, off + j, none⟩ = some (.int .i64 (zAt left j)) := by
          rcases hrow with h0 | h
          · rw [HN.out] at h0; omega
          · exact h
        cases e'
        have HCe := Lib.hid hc
        have htk : (left.take k).length = k := by rw [List.length_take]; omega
        have HTkr := Lib.hid (show IRow wr (some ⟨lb, lo, none⟩) (left.take k) from .inr ⟨lb, lo, rfl, fun j hj => by
          rw [htk] at hj
          rw [hc j (by omega)]
          show some (Value.int .i64 (zAt left j)) = some (Value.int .i64 (zAt (left.take k) j))
          unfold zAt
          rw [List.getD_eq_getElem?_getD, List.getD_eq_getElem?_getD, List.getElem?_take, if_pos hj]⟩)
        have CO8 := fun w h => own_any ⟨lb, lo, none⟩ lc (left.take k) (by rw [htk]; omega) w h
        rw [htk] at CO8
        have HO8a := Lib.hid CO8
        obtain ⟨A, hA, hsrc⟩ : ∃ A : Addr, (if lc = k + 1 then some (⟨lb, lo, none⟩ : Addr) else some ⟨lb, lo + (k + 1), none⟩) = some A ∧ ∀ W : World, Below w.heap.size w W → ∀ t u, ((left.drop (k + 1)).map (Value.int .i64))[t]? = some u → W.cell? (A.add t) = some u := by
          have hget : ∀ t u, ((left.drop (k + 1)).map (Value.int .i64))[t]? = some u → k + 1 + t < left.length ∧ u = .int .i64 (zAt left (k + 1 + t)) := fun t u hu => by
            have h1 := (List.getElem?_eq_some_iff.1 hu).1
            rw [List.length_map, List.length_drop] at h1
            rw [List.getElem?_map, List.getElem?_drop, List.getElem?_eq_getElem (by omega)] at hu
            refine ⟨by omega, ?_⟩
            unfold zAt
            rw [List.getD_eq_getElem?_getD, List.getElem?_eq_getElem (by omega)]
            simpa using hu.symm
          by_cases hce : lc = k + 1
          · refine ⟨⟨lb, lo, none⟩, by simp [hce], fun W hW t u hu => ?_⟩
            have := (hget t u hu).1
            rw [HN.out] at this
            omega
          · refine ⟨⟨lb, lo + (k + 1), none⟩, by simp [hce], fun W hW t u hu => ?_⟩
            obtain ⟨h1, rfl⟩ := hget t u hu
            rw [CtK.add_none, show lo + (k + 1) + t = lo + (k + 1 + t) by omega]
            rcases (RowAt.below HRow.out hW : IRow W _ left) with h0 | ⟨b2, o2, e2, hc2⟩
            · rw [HN.out] at h0; omega
            · cases e2
              exact hc2 _ h1
        have HSrc := Lib.hid hsrc
        have hdl : ((left.drop (k + 1)).map (Value.int .i64)).length = (n - k) * 1 := by simp [HN.out]
        have HDl := Lib.hid hdl
        have hers : (left.take k).map (Value.int .i64) ++ (left.drop (k + 1)).map (Value.int .i64) = (left.eraseIdx k).map (Value.int .i64) := by rw [← List.map_append, List.eraseIdx_eq_take_drop_succ]
        have HErs := Lib.hid hers
        have hle : (left.eraseIdx k).length = n := by rw [List.length_eraseIdx_of_lt hkl, HN.out]; rfl
        have HLE := Lib.hid hle
        have hk0 : (0 : Int) ≤ (k : Int) := by omega
        have hk0' : (0 : Int) ≤ (k : Int) + 1 := by omega
        have hk1 : (k : Int) < (n : Int) + 1 := by omega
        have hk2 : (k : Int) ≤ (lc : Int) := by omega
        have hk3 : k ≤ lc := by omega
        have hk4 : (k : Int) + 1 ≤ (n : Int) + 1 := by omega
        have hk5 : k + 1 ≤ lc := by omega
        have hk6 : (n : Int) + 1 ≤ (lc : Int) := by omega
        have hkw : IntKind.i64.wrap ((k : Int) + 1) = (k : Int) + 1 := IntWalk.i64_in _ (by omega)
        have hk7 : n + 1 - (k + 1) = n - k := by omega
        have hkn : k ≤ n := by omega
        have hu : undef = Value.tuple #[] := rfl
        clear hrow hc htk CO8 hsrc hdl hers hle hkl
        go_upto_region 8 with (fail)
        refine wp_region_noPanic ?_
        refine wp_region_held_drew (S := (fun Wx : World => True)) (by kernel_rfl) trivial (fun hHeld => ?_)
        refine wpAnyH_take (i := 0) (oi := _) (v := ?_) rfl (by kernel_rfl) (by kernel_rfl) (by kernel_rfl) (fun _ _ _ h => h) (Or.inl ⟨by rfl, ?_⟩) (by assumption) ?_; rotate_left; focus (intro W hSw; (try dsimp only at hSw); go_simp; (first | done | with_reducible rfl))
        (try simp only [List.getElem_toArray, List.getElem_cons_succ, List.getElem_cons_zero, Act.put, List.setIfInBounds_toArray, List.set_cons_zero, List.set_cons_succ])
        refine wpAnyH_take (i := 1) (oi := _) (v := ?_) rfl (by kernel_rfl) (by kernel_rfl) (by kernel_rfl) (fun _ _ _ h => h) (Or.inl ⟨by rfl, ?_⟩) (by assumption) ?_; rotate_left; focus (intro W hSw; (try dsimp only at hSw); go_simp; (first | done | with_reducible rfl))
        (try simp only [List.getElem_toArray, List.getElem_cons_succ, List.getElem_cons_zero, Act.put, List.setIfInBounds_toArray, List.set_cons_zero, List.set_cons_succ])
        refine wpAnyH_take (i := 2) (oi := _) (v := ?_) rfl (by kernel_rfl) (by kernel_rfl) (by kernel_rfl) (fun _ _ _ h => h) (Or.inl ⟨by rfl, ?_⟩) (by assumption) ?_; rotate_left; focus (intro W hSw; (try dsimp only at hSw); go_simp; (first | done | with_reducible rfl))
        (try simp only [List.getElem_toArray, List.getElem_cons_succ, List.getElem_cons_zero, Act.put, List.setIfInBounds_toArray, List.set_cons_zero, List.set_cons_succ])
        refine wpAnyH_take (i := 4) (oi := _) (v := ?_) rfl (by kernel_rfl) (by kernel_rfl) (by kernel_rfl) (fun _ _ _ h => h) (Or.inl ⟨by rfl, ?_⟩) (by assumption) ?_; rotate_left; focus (intro W hSw; (try dsimp only at hSw); go_simp; (first | done | with_reducible rfl))
        (try simp only [List.getElem_toArray, List.getElem_cons_succ, List.getElem_cons_zero, Act.put, List.setIfInBounds_toArray, List.set_cons_zero, List.set_cons_succ])
        refine wpAnyH_take (i := 5) (oi := _) (v := ?_) rfl (by kernel_rfl) (by kernel_rfl) (by kernel_rfl) (fun _ _ _ h => h) (Or.inl ⟨by rfl, ?_⟩) (by assumption) ?_; rotate_left; focus (intro W hSw; (try dsimp only at hSw); go_simp; (first | done | with_reducible rfl))
        (try simp only [List.getElem_toArray, List.getElem_cons_succ, List.getElem_cons_zero, Act.put, List.setIfInBounds_toArray, List.set_cons_zero, List.set_cons_succ])
        refine wpAnyH_take (i := 6) (oi := _) (v := ?_) rfl (by kernel_rfl) (by kernel_rfl) (by kernel_rfl) (fun _ _ _ h => h) (Or.inl ⟨by rfl, ?_⟩) (by assumption) ?_; rotate_left; focus (intro W hSw; (try dsimp only at hSw); go_simp; (first | done | with_reducible rfl))
        (try simp only [List.getElem_toArray, List.getElem_cons_succ, List.getElem_cons_zero, Act.put, List.setIfInBounds_toArray, List.set_cons_zero, List.set_cons_succ])
        refine wpAnyH_take (i := 7) (oi := _) (v := ?_) rfl (by kernel_rfl) (by kernel_rfl) (by kernel_rfl) (fun _ _ _ h => h) (Or.inl ⟨by rfl, ?_⟩) (by assumption) ?_; rotate_left; focus (intro W hSw; (try dsimp only at hSw); go_simp; (first | done | with_reducible rfl))
        (try simp only [List.getElem_toArray, List.getElem_cons_succ, List.getElem_cons_zero, Act.put, List.setIfInBounds_toArray, List.set_cons_zero, List.set_cons_succ])
        refine wpAnyH_ready (rs := [3]) (by kernel_rfl) (by simp) ?_
        refine AllReadyH.cons (o := _) rfl (fun K hK => ?_) AllReadyH.nil
        go_simp
        go_at_call 96
        refine (HO8a.out _ (show IRow wr.drew _ _ from HTkr.out)).mono ?_
        rintro e w2 ⟨v2, rfl, ho, hb⟩
        have HB2 := Lib.hid (HBr.out.drew.trans (hb.mono hbs))
        have HK2 := Lib.hid (HKr.out.drew.later hb)
        have HX2 := Lib.hid (show OwnI w2 w.heap.size v2 (left.take k) from IntS.rebase ho hbs)
        have HX2b := Lib.hid (show OwnI w2 wr.heap.size v2 (left.take k) from ho)
        have HBs2w := Lib.hid (show wr.heap.size ≤ w2.heap.size from by have := hb.size; simpa using this)
        have HBs2 := Lib.hid (fun (hk : 0 < k) => ((HZ1.out hk).2.below ((Below.refl _ _).drew.trans hb)))
        have HBlt := Lib.hid (fun (hk : 0 < k) => fun z (e : vb.ownBlock = some z) => ((HZ1.out hk).2.lt z e).2)
        clear ho hb
        go_wp2_with fail
        refine hK.out _ _ trivial (fun _ => ?_)
        clear hK K hHeld
        have hown2 := HX2b.out
        unfold OwnI at hown2
        have htk : (left.take k).length = k := by rw [List.length_take, HN.out]; omega
        rw [htk] at hown2
        have hsz2 := HBs2w.out
        refine wpAnyH_ready (rs := [8]) (by kernel_rfl) (by simp) ?_
        refine AllReadyH.cons (o := _) rfl (fun K hK => ?_) AllReadyH.nil
        rw [if_pos (by rfl)]
        refine wp_append_own _ (.tmp 43) (.tmp 47) 24 rfl wr.heap.size 3 t0 (.int .i64 0) 1 8 Try.underlying24 hi0 hz0 hz1 hz2 rfl (by decide) _ k _ (by (try simp only [Act.eval, Act.put]); rfl) hown2 A (n - k) (lc - (k + 1)) ((left.drop (k + 1)).map (Value.int .i64)) (by (try simp only [Act.eval, Act.put]); rfl) HDl.out (HSrc.out _ HB2.out) (by intro u hu; obtain ⟨z, -, rfl⟩ := List.mem_map.1 hu; rfl) (by unfold maxLen; omega) (by omega) hsz2 ?_
        intro v16 w3 hown3 hgr3 _
        have HO16w := Lib.hid (show OwnI w3 wr.heap.size v16 (left.eraseIdx k) from by
          unfold OwnI
          rw [HErs.out] at hown3
          rw [HLE.out]
          have e : k + (n - k) = n := by omega
          rw [e] at hown3
          exact hown3)
        have HB3 := Lib.hid (HB2.out.grown (show World.grownBy _ w3 v2.ownBlock from hgr3) (by exact HB2.out.size) (fun q e => by have := (World.ownsRow.lt hown2 q e).1; have h2 := HBrs.out; omega))
        have HK3 := Lib.hid (blk_keep hown2 HK2.out (by decide) hgr3)
        have HBs3 := Lib.hid (fun (hk : 0 < k) => show OwnI w3 w.heap.size vb (bz ++ x :: (pkR cc k).1) from ownI_kept (HBs2.out hk) hown2 hgr3 (fun x' y' e1 e2 => by have h1 := HBlt.out hk _ e1; have h2 := (World.ownsRow.lt hown2 _ e2).1; omega))
        have HRlt := Lib.hid (show ∀ z, v16.ownBlock = some z → z < w3.heap.size from fun z e => (HO16w.out.lt z e).2)
        have HR3 := Lib.hid (show OwnI w3 w.heap.size v16 (left.eraseIdx k) from IntS.rebase HO16w.out HBrs.out)
        have HBw3 := Lib.hid (show wr.heap.size ≤ w3.heap.size from Nat.le_trans hsz2 (show World.grownBy _ w3 v2.ownBlock from hgr3).size)
        refine hK.out _ _ trivial (fun _ => ?_)
        clear hK K hown3 hgr3 hown2 hsz2 htk
        refine wpAnyH_take (i := 9) (oi := _) (v := ?_) rfl (by kernel_rfl) (by kernel_rfl) (by kernel_rfl) (fun _ _ _ h => h) (Or.inl ⟨by rfl, ?_⟩) (by assumption) ?_; rotate_left; focus (intro W hSw; (try dsimp only at hSw); go_simp; (first | done | with_reducible rfl))
        (try simp only [List.getElem_toArray, List.getElem_cons_succ, List.getElem_cons_zero, Act.put, List.setIfInBounds_toArray, List.set_cons_zero, List.set_cons_succ])
        refine wpAnyH_done (by kernel_rfl) ?_ _
        refine NoPanic.normal ?_
        (try simp only [List.getElem_toArray, List.getElem_cons_succ, List.getElem_cons_zero, Act.put, List.setIfInBounds_toArray, List.set_cons_zero, List.set_cons_succ])
        clear hu
        obtain ⟨y, hy⟩ : ∃ y, zAt left k = y := ⟨_, rfl⟩
        have hkl : k < left.length := by rw [HN.out]; exact hlt
        have hyl : y ∈ left := by rw [← hy]; exact zAt_mem hkl
        have hys := HLs.out y hyl
        obtain ⟨dv, hdv⟩ : ∃ z, DD T cs x y = z := ⟨_, rfl⟩
        obtain ⟨bb, hbb⟩ : ∃ q, bw (DD T cs) n y (left.eraseIdx k) f = q := ⟨_, rfl⟩
        have HDY := Lib.hid hdv
        have HCK := Lib.hid (show cc k = (y :: bb.1, dv + bb.2) from by rw [← HCC.out, ← hbb, ← hdv, ← hy]; rfl)
        have HLN2 := Lib.hid (show (bz ++ [x] ++ [y]).length = bz.length + 2 from by simp)
        have hci := HIH.out (left.eraseIdx k) HLE.out (fun z hz => HLs.out z (List.mem_of_mem_eraseIdx hz)) (bz ++ [x]) y (fun z hz => by
          rcases List.mem_append.1 hz with h1 | h1
          · exact HBz.out z h1
          · rw [List.mem_singleton.1 h1]; exact hys) (by rw [HLN.out]; omega)
        rw [hbb] at hci
        have CI := Lib.hid hci
        have cob := fun w h => own_any ⟨bb0, bo0, none⟩ bc (bz ++ [x]) (by rw [HLN.out]; omega) w h
        rw [HLN.out] at cob
        have COb := Lib.hid cob
        have HRb3 := Lib.hid (H0.out.later HB3.out).z
        obtain ⟨p0, p1, p2, p3, -⟩ := MapS.Blk.four HK3.out
        have c0 : w3.cell? ⟨lb, lo + k, none⟩ = some (.int .i64 y) := by
          rcases (RowAt.below HRow.out HB3.out : IRow w3 _ left) with h0 | ⟨b2, o2, e2, hc2⟩
          · rw [HN.out] at h0; omega
          · cases e2
            rw [hc2 k hkl]
            exact congrArg (fun z => some (Value.int .i64 z)) hy
        clear hy hkl hyl hys hdv hbb hci cob
        have hu : undef = Value.tuple #[] := rfl
        go_upto_region 9 with (fail)
        refine wp_region_noPanic ?_
        refine wp_region_held_drew (S := (fun Wx : World => Wx.cell? ⟨B, 0, none⟩ = some (.int .i64 m.W) ∧ Wx.cell? ⟨B, 1, none⟩ = some (.int .i64 m.H) ∧ Wx.cell? ⟨B, 2, none⟩ = some (.slice a m.R.length ca) ∧ Wx.cell? ⟨B, 3, none⟩ = some (.slice b m.C.length cb) ∧ Wx.cell? ⟨lb, lo + k, none⟩ = some (.int .i64 y))) (by kernel_rfl) ⟨p0, p1, p2, p3, c0⟩ (fun hHeld => ?_)
        refine wpAnyH_take (i := 0) (oi := _) (v := ?_) rfl (by kernel_rfl) (by kernel_rfl) (by kernel_rfl) (fun _ _ _ h => h) (Or.inl ⟨by rfl, ?_⟩) (by assumption) ?_; rotate_left; focus (intro W hSw; (try dsimp only at hSw); go_simp; (first | done | with_reducible rfl))
        (try simp only [List.getElem_toArray, List.getElem_cons_succ, List.getElem_cons_zero, Act.put, List.setIfInBounds_toArray, List.set_cons_zero, List.set_cons_succ])
        refine wpAnyH_take (i := 1) (oi := _) (v := ?_) rfl (by kernel_rfl) (by kernel_rfl) (by kernel_rfl) (fun _ _ _ h => h) (Or.inl ⟨by rfl, ?_⟩) (by assumption) ?_; rotate_left; focus (intro W hSw; (try dsimp only at hSw); go_simp; (first | done | with_reducible rfl))
        (try simp only [List.getElem_toArray, List.getElem_cons_succ, List.getElem_cons_zero, Act.put, List.setIfInBounds_toArray, List.set_cons_zero, List.set_cons_succ])
        refine wpAnyH_take (i := 2) (oi := _) (v := ?_) rfl (by kernel_rfl) (by kernel_rfl) (by kernel_rfl) (fun _ _ _ h => h) (Or.inl ⟨by rfl, ?_⟩) (by assumption) ?_; rotate_left; focus (intro W hSw; (try dsimp only at hSw); go_simp; (first | done | with_reducible rfl))
        (try simp only [List.getElem_toArray, List.getElem_cons_succ, List.getElem_cons_zero, Act.put, List.setIfInBounds_toArray, List.set_cons_zero, List.set_cons_succ])
        refine wpAnyH_take (i := 4) (oi := _) (v := ?_) rfl (by kernel_rfl) (by kernel_rfl) (by kernel_rfl) (fun _ _ _ h => h) (Or.inl ⟨by rfl, ?_⟩) (by assumption) ?_; rotate_left; focus (intro W hSw; (try dsimp only at hSw); go_simp; (first | done | with_reducible rfl))
        (try simp only [List.getElem_toArray, List.getElem_cons_succ, List.getElem_cons_zero, Act.put, List.setIfInBounds_toArray, List.set_cons_zero, List.set_cons_succ])
        refine wpAnyH_take (i := 5) (oi := _) (v := ?_) rfl (by kernel_rfl) (by kernel_rfl) (by kernel_rfl) (fun _ _ _ h => h) (Or.inl ⟨by rfl, ?_⟩) (by assumption) ?_; rotate_left; focus (intro W hSw; (try dsimp only at hSw); go_simp; (first | done | with_reducible rfl))
        (try simp only [List.getElem_toArray, List.getElem_cons_succ, List.getElem_cons_zero, Act.put, List.setIfInBounds_toArray, List.set_cons_zero, List.set_cons_succ])
        refine wpAnyH_take (i := 6) (oi := _) (v := ?_) rfl (by kernel_rfl) (by kernel_rfl) (by kernel_rfl) (fun _ _ _ h => h) (Or.inl ⟨by rfl, ?_⟩) (by assumption) ?_; rotate_left; focus (intro W hSw; (try dsimp only at hSw); go_simp; (first | done | with_reducible rfl))
        (try simp only [List.getElem_toArray, List.getElem_cons_succ, List.getElem_cons_zero, Act.put, List.setIfInBounds_toArray, List.set_cons_zero, List.set_cons_succ])
        refine wpAnyH_take (i := 7) (oi := _) (v := ?_) rfl (by kernel_rfl) (by kernel_rfl) (by kernel_rfl) (fun _ _ _ h => h) (Or.inl ⟨by rfl, ?_⟩) (by assumption) ?_; rotate_left; focus (intro W hSw; (try dsimp only at hSw); go_simp; (first | done | with_reducible rfl))
        (try simp only [List.getElem_toArray, List.getElem_cons_succ, List.getElem_cons_zero, Act.put, List.setIfInBounds_toArray, List.set_cons_zero, List.set_cons_succ])
        refine wpAnyH_take (i := 10) (oi := _) (v := ?_) rfl (by kernel_rfl) (by kernel_rfl) (by kernel_rfl) (fun _ _ _ h => h) (Or.inl ⟨by rfl, ?_⟩) (by assumption) ?_; rotate_left; focus (intro W hSw; (try dsimp only at hSw); go_simp; (first | done | with_reducible rfl))
        (try simp only [List.getElem_toArray, List.getElem_cons_succ, List.getElem_cons_zero, Act.put, List.setIfInBounds_toArray, List.set_cons_zero, List.set_cons_succ])
        refine wpAnyH_take (i := 11) (oi := _) (v := ?_) rfl (by kernel_rfl) (by kernel_rfl) (by kernel_rfl) (fun _ _ _ h => h) (Or.inl ⟨by rfl, ?_⟩) (by assumption) ?_; rotate_left; focus (intro W hSw; (try dsimp only at hSw); go_simp; (first | done | with_reducible rfl))
        (try simp only [List.getElem_toArray, List.getElem_cons_succ, List.getElem_cons_zero, Act.put, List.setIfInBounds_toArray, List.set_cons_zero, List.set_cons_succ])
        refine wpAnyH_ready (rs := [3, 8]) (by kernel_rfl) (by simp) ?_
        refine AllReadyH.cons (o := _) rfl (fun K hK => ?_) (AllReadyH.cons (o := _) rfl (fun K hK => ?_) (AllReadyH.nil))
        · go_simp
          go_at_call 96
          refine (COb.out _ (show IRow w3.drew _ _ from HRb3.out)).mono ?_
          rintro e w4 ⟨v4, rfl, ho, hb⟩
          have HB4 := Lib.hid (HB3.out.drew.trans (hb.mono HB3.out.size))
          have HK4 := Lib.hid (HK3.out.drew.later hb)
          have HX4 := Lib.hid (show IntK.Gr w v4 (bz ++ [x]) w4 from ⟨HB4.out, IntS.rebase ho HB3.out.size⟩)
          have HApt := Lib.hid (show ∀ z, v4.ownBlock = some z → w3.heap.size ≤ z from fun z e => (ho.lt z e).1)
          have HRT := Lib.hid (show OwnI _ w.heap.size v16 (left.eraseIdx k) from HR3.out.below ((Below.refl _ _).drew.trans hb))
          have HBsT := Lib.hid (fun (hk : 0 < k) => show OwnI _ w.heap.size vb (bz ++ x :: (pkR cc k).1) from (HBs3.out hk).below ((Below.refl _ _).drew.trans hb))
          have hS : (w4.cell? ⟨B, 0, none⟩ = some (.int .i64 m.W) ∧ w4.cell? ⟨B, 1, none⟩ = some (.int .i64 m.H) ∧ w4.cell? ⟨B, 2, none⟩ = some (.slice a m.R.length ca) ∧ w4.cell? ⟨B, 3, none⟩ = some (.slice b m.C.length cb) ∧ w4.cell? ⟨lb, lo + k, none⟩ = some (.int .i64 y)) := by
            obtain ⟨p0, p1, p2, p3, c0⟩ := hHeld
            exact ⟨(hb.cell (World.block_lt_of_cell? w3.drew _ p0)).trans p0, (hb.cell (World.block_lt_of_cell? w3.drew _ p1)).trans p1, (hb.cell (World.block_lt_of_cell? w3.drew _ p2)).trans p2, (hb.cell (World.block_lt_of_cell? w3.drew _ p3)).trans p3, (hb.cell (World.block_lt_of_cell? w3.drew _ c0)).trans c0⟩
          clear ho hb
          go_wp2_with fail
          refine hK.out _ _ hS (fun _ => ?_)
          clear hK K hHeld
          refine wpAnyH_ready (rs := [8]) (by kernel_rfl) (by simp) ?_
          refine AllReadyH.cons (o := _) rfl (fun K hK => ?_) AllReadyH.nil
          go_simp
          have hb : Below w4.heap.size w4 (w4.alloc (.cells #[.int .i64 y] 3)) := (Below.refl _ _).alloc (Nat.le_refl _) _
          have hcn := cell_one_new w4 (.int .i64 y) 3
          have HX5 := Lib.hid (HX4.out.alloc (.cells #[.int .i64 y] 3))
          have HK5 := Lib.hid (HK4.out.alloc (.cells #[.int .i64 y] 3))
          have HRT5 := Lib.hid (show OwnI _ w.heap.size v16 (left.eraseIdx k) from HRT.out.below hb)
          have HBsT5 := Lib.hid (fun (hk : 0 < k) => show OwnI _ w.heap.size vb (bz ++ x :: (pkR cc k).1) from (HBsT.out hk).below hb)
          have hS : ((w4.alloc (.cells #[.int .i64 y] 3)).cell? ⟨B, 0, none⟩ = some (.int .i64 m.W) ∧ (w4.alloc (.cells #[.int .i64 y] 3)).cell? ⟨B, 1, none⟩ = some (.int .i64 m.H) ∧ (w4.alloc (.cells #[.int .i64 y] 3)).cell? ⟨B, 2, none⟩ = some (.slice a m.R.length ca) ∧ (w4.alloc (.cells #[.int .i64 y] 3)).cell? ⟨B, 3, none⟩ = some (.slice b m.C.length cb) ∧ (w4.alloc (.cells #[.int .i64 y] 3)).cell? ⟨lb, lo + k, none⟩ = some (.int .i64 y)) := by
            obtain ⟨p0, p1, p2, p3, c0⟩ := hS
            exact ⟨(hb.cell (World.block_lt_of_cell? w4 _ p0)).trans p0, (hb.cell (World.block_lt_of_cell? w4 _ p1)).trans p1, (hb.cell (World.block_lt_of_cell? w4 _ p2)).trans p2, (hb.cell (World.block_lt_of_cell? w4 _ p3)).trans p3, (hb.cell (World.block_lt_of_cell? w4 _ c0)).trans c0⟩
          clear hb
          refine hK.out _ _ hS (fun _ => ?_)
          clear hK K
          have hownb := HX5.out.own
          unfold OwnI at hownb
          rw [HLN.out] at hownb
          have hszb := HX5.out.b.size
          refine wpAnyH_ready (rs := [9]) (by kernel_rfl) (by simp) ?_
          refine AllReadyH.cons (o := _) rfl (fun K hK => ?_) AllReadyH.nil
          rw [if_pos (by rfl)]
          refine wp_append_own _ (.tmp 53) (.tmp 58) 24 rfl w.heap.size 3 t0 (.int .i64 0) 1 8 Try.underlying24 hi0 hz0 hz1 hz2 rfl (by decide) _ (bz.length + 1) _ (by (try simp only [Act.eval, Act.put]); rfl) hownb ⟨w4.heap.size, 0, none⟩ 1 1 [.int .i64 y] (by (try simp only [Act.eval, Act.put]); rfl) rfl hcn (by simp [Value.oneCell']) (by unfold maxLen; omega) (by omega) hszb ?_
          intro v7 w7 hown7 hgr7 _
          have HP7 := Lib.hid (HX5.out.put HLN.out hgr7 hown7)
          have HK7 := Lib.hid (blk_keep hownb HK5.out (by decide) hgr7)
          have HR7 := Lib.hid (show OwnI w7 w.heap.size v16 (left.eraseIdx k) from ownI_kept HRT5.out hownb hgr7 (fun q1 q2 e1 e2 => by have h1 := HRlt.out _ e1; have h2 := HApt.out _ e2; omega))
          have HBst7 := Lib.hid (fun (hk : 0 < k) => show OwnI w7 w.heap.size vb (bz ++ x :: (pkR cc k).1) from ownI_kept (HBsT5.out hk) hownb hgr7 (fun q1 q2 e1 e2 => by have h1 := HBlt.out hk _ e1; have h2 := HApt.out _ e2; have h3 := HBw3.out; omega))
          have hS : (w7.cell? ⟨B, 0, none⟩ = some (.int .i64 m.W) ∧ w7.cell? ⟨B, 1, none⟩ = some (.int .i64 m.H) ∧ w7.cell? ⟨B, 2, none⟩ = some (.slice a m.R.length ca) ∧ w7.cell? ⟨B, 3, none⟩ = some (.slice b m.C.length cb) ∧ w7.cell? ⟨lb, lo + k, none⟩ = some (.int .i64 y)) := by
            obtain ⟨q0, q1, q2, q3, -⟩ := MapS.Blk.four HK7.out
            obtain ⟨-, -, -, -, c0⟩ := hS
            have hne : ∀ z, v4.ownBlock = some z → w.heap.size ≤ z := fun z e => (World.ownsRow.lt hownb z e).1
            exact ⟨q0, q1, q2, q3, hgr7.cell c0 (fun e => by have h1 := hne _ e.symm; have h2 := HLB.out; simp at h1; omega)⟩
          refine hK.out _ _ hS (fun _ => ?_)
          clear hK K hown7 hgr7 hownb
          obtain ⟨g7, c7, rfl, hc7, -⟩ := own_addr HP7.out.own (by rw [HLN2.out]; omega)
          have HRc7 := Lib.hid (show Rc m cs (bz ++ [x] ++ [y]) a b ad (some ⟨g7, 0, none⟩) w7 from ⟨(H0.out.later HP7.out.b).d, by
            obtain ⟨a', c', e, hr, -⟩ := OwnI.slice HP7.out.own
            rw [(Value.slice.inj e).1]
            exact hr⟩)
          obtain ⟨ra, rc, er, hrr, -⟩ := OwnI.slice HR7.out
          have hrle : (left.eraseIdx k).length ≤ rc := IntK.Own.le (show IntK.Own w7 w.heap.size (.slice ra (left.eraseIdx k).length rc) (left.eraseIdx k) from by rw [← er]; exact HR7.out)
          rw [HLE.out] at er hrle
          have CI0 := CI.out (some ⟨g7, 0, none⟩) c7 ra rc w7 hrle HRc7.out hrr
          rw [HLN2.out] at CI0
          obtain ⟨tk, htk⟩ : ∃ z, tB T cs (bz ++ [x]) + (cc k).2 = z := ⟨_, rfl⟩
          have hz8 : tB T cs (bz ++ [x] ++ [y]) + bb.2 = tk := by rw [← htk, HCK.out, tB_app, HDY.out]; simp; omega
          rw [hz8] at CI0
          clear hz8
          subst er
          have CI1 := Lib.hid CI0
          have hszp := HP7.out.b.size
          clear hrr hrle CI0
          refine wpAnyH_ready (rs := [12]) (by kernel_rfl) (by simp) ?_
          refine AllReadyH.cons (o := _) rfl (fun K hK => ?_) AllReadyH.nil
          go_simp
          go_at_call 73
          refine CI1.out.mono ?_
          rintro e w8 ⟨v8, rfl, ho, hb⟩
          have HO8 := Lib.hid (show OwnI w8 w.heap.size v8 (bz ++ x :: (cc k).1) from by
            rw [HCK.out]
            have h : OwnI w8 w.heap.size v8 ((bz ++ [x]) ++ y :: bb.1) := IntS.rebase ho hszp
            rw [List.append_assoc] at h
            exact h)
          have HB8 := Lib.hid (HP7.out.b.trans (hb.mono hszp))
          have HK8 := Lib.hid (HK7.out.later hb)
          have HBst8 := Lib.hid (fun (hk : 0 < k) => (show OwnI w8 w.heap.size vb (bz ++ x :: (pkR cc k).1) from (HBst7.out hk).below hb))
          have hS : (w8.cell? ⟨B, 0, none⟩ = some (.int .i64 m.W) ∧ w8.cell? ⟨B, 1, none⟩ = some (.int .i64 m.H) ∧ w8.cell? ⟨B, 2, none⟩ = some (.slice a m.R.length ca) ∧ w8.cell? ⟨B, 3, none⟩ = some (.slice b m.C.length cb) ∧ w8.cell? ⟨lb, lo + k, none⟩ = some (.int .i64 y)) := by
            obtain ⟨p0, p1, p2, p3, c0⟩ := hS
            exact ⟨(hb.cell (World.block_lt_of_cell? w7 _ p0)).trans p0, (hb.cell (World.block_lt_of_cell? w7 _ p1)).trans p1, (hb.cell (World.block_lt_of_cell? w7 _ p2)).trans p2, (hb.cell (World.block_lt_of_cell? w7 _ p3)).trans p3, (hb.cell (World.block_lt_of_cell? w7 _ c0)).trans c0⟩
          clear ho hb
          go_wp2_with fail
          refine hK.out _ _ hS (fun _ => ?_)
          clear hK K hS
          refine wpAnyH_take (i := 13) (oi := _) (v := ?_) rfl (by kernel_rfl) (by kernel_rfl) (by kernel_rfl) (fun _ _ _ h => h) (Or.inl ⟨by rfl, ?_⟩) (by assumption) ?_; rotate_left; focus (intro W hSw; (try dsimp only at hSw); go_simp; (first | done | with_reducible rfl))
          (try simp only [List.getElem_toArray, List.getElem_cons_succ, List.getElem_cons_zero, Act.put, List.setIfInBounds_toArray, List.set_cons_zero, List.set_cons_succ])
          refine wpAnyH_take (i := 14) (oi := _) (v := ?_) rfl (by kernel_rfl) (by kernel_rfl) (by kernel_rfl) (fun _ _ _ h => h) (Or.inl ⟨by rfl, ?_⟩) (by assumption) ?_; rotate_left; focus (intro W hSw; (try dsimp only at hSw); go_simp; (first | done | with_reducible rfl))
          (try simp only [List.getElem_toArray, List.getElem_cons_succ, List.getElem_cons_zero, Act.put, List.setIfInBounds_toArray, List.set_cons_zero, List.set_cons_succ])
          refine wpAnyH_take (i := 15) (oi := _) (v := ?_) rfl (by kernel_rfl) (by kernel_rfl) (by kernel_rfl) (fun _ _ _ h => h) (Or.inl ⟨by rfl, ?_⟩) (by assumption) ?_; rotate_left; focus (intro W hSw; (try dsimp only at hSw); go_simp; (first | done | with_reducible rfl))
          (try simp only [List.getElem_toArray, List.getElem_cons_succ, List.getElem_cons_zero, Act.put, List.setIfInBounds_toArray, List.set_cons_zero, List.set_cons_succ])
          refine wpAnyH_take (i := 16) (oi := _) (v := ?_) rfl (by kernel_rfl) (by kernel_rfl) (by kernel_rfl) (fun _ _ _ h => h) (Or.inl ⟨by rfl, ?_⟩) (by assumption) ?_; rotate_left; focus (intro W hSw; (try dsimp only at hSw); go_simp; (first | done | with_reducible rfl))
          (try simp only [List.getElem_toArray, List.getElem_cons_succ, List.getElem_cons_zero, Act.put, List.setIfInBounds_toArray, List.set_cons_zero, List.set_cons_succ])
          refine wpAnyH_take (i := 17) (oi := _) (v := ?_) rfl (by kernel_rfl) (by kernel_rfl) (by kernel_rfl) (fun _ _ _ h => h) (Or.inl ⟨by rfl, ?_⟩) (by assumption) ?_; rotate_left; focus (intro W hSw; (try dsimp only at hSw); go_simp; (first | done | with_reducible rfl))
          (try simp only [List.getElem_toArray, List.getElem_cons_succ, List.getElem_cons_zero, Act.put, List.setIfInBounds_toArray, List.set_cons_zero, List.set_cons_succ])
          refine wpAnyH_done (by kernel_rfl) ?_ _
          refine NoPanic.normal ?_
          (try simp only [List.getElem_toArray, List.getElem_cons_succ, List.getElem_cons_zero, Act.put, List.setIfInBounds_toArray, List.set_cons_zero, List.set_cons_succ])
          clear hu
          rcases Nat.eq_zero_or_pos k with hk0' | hkp
          · have hzm := HZ0.out hk0'
            subst hk0' hzm
            go_wp2
            go_roundg (n + 1 - (0 + 1))
            case measure => omega
            case rel => exact ⟨0 + 1, _, tk, by omega, rfl, by go_num, rfl, rfl, fun h => absurd h (by omega), fun _ => ⟨htk.symm, HO8.out⟩, HB8.out, HK8.out⟩
          · obtain ⟨j, rfl⟩ : ∃ j, k = j + 1 := ⟨k - 1, by omega⟩
            have hzb := (HZ1.out (Nat.succ_pos _)).1
            have HBs := Lib.hid (HBst8.out (Nat.succ_pos _))
            have hpkb := HPB.out j (by omega)
            have htb0 := HTB.out
            have hzn : decide (zb < 0) = false := decide_eq_false (by omega)
            have HPK := Lib.hid (show pkR cc (j + 1 + 1) = if (cc (j + 1)).2 < (pkR cc (j + 1)).2 then cc (j + 1) else pkR cc (j + 1) from rfl)
            by_cases hlt2 : tk < zb
            · have hdl : decide (tk < zb) = true := decide_eq_true hlt2
              have HNx := Lib.hid (show pkR cc (j + 1 + 1) = cc (j + 1) from by rw [HPK.out, if_pos (by omega)])
              have HTK := Lib.hid htk
              clear htk hzb hpkb htb0 hlt2
              go_wp2
              go_roundg (n + 1 - (j + 1 + 1))
              case measure => omega
              case rel => exact ⟨j + 1 + 1, _, tk, by omega, rfl, by go_num, rfl, rfl, fun h => absurd h (by omega), fun _ => ⟨by rw [HNx.out]; exact HTK.out.symm, by rw [HNx.out]; exact HO8.out⟩, HB8.out, HK8.out⟩
            · have hdl : decide (tk < zb) = false := decide_eq_false hlt2
              have HNx := Lib.hid (show pkR cc (j + 1 + 1) = pkR cc (j + 1) from by rw [HPK.out, if_neg (by omega)])
              have HZB := Lib.hid hzb
              clear htk hzb hpkb htb0 hlt2
              go_wp2
              go_roundg (n + 1 - (j + 1 + 1))
              case measure => omega
              case rel => exact ⟨j + 1 + 1, _, zb, by omega, rfl, by go_num, rfl, rfl, fun h => absurd h (by omega), fun _ => ⟨by rw [HNx.out]; exact HZB.out, by rw [HNx.out]; exact HBs.out⟩, HB8.out, HK8.out⟩
        · go_simp
          have hb : Below w3.heap.size w3 (w3.drew.alloc (.cells #[.int .i64 y] 3)) := (Below.refl _ _).drew.alloc (Nat.le_refl _) _
          have hcn := cell_one_new w3.drew (.int .i64 y) 3
          have HB4 := Lib.hid (HB3.out.trans (hb.mono HB3.out.size))
          have HK4 := Lib.hid (HK3.out.later hb)
          have HRT := Lib.hid (show OwnI _ w.heap.size v16 (left.eraseIdx k) from HR3.out.below hb)
          have HBsT := Lib.hid (fun (hk : 0 < k) => show OwnI _ w.heap.size vb (bz ++ x :: (pkR cc k).1) from (HBs3.out hk).below hb)
          have HRb4 := Lib.hid (RowAt.below HRb3.out hb)
          have HS4 := Lib.hid (show w3.heap.size < (w3.drew.alloc (.cells #[.int .i64 y] 3)).heap.size from by simp)
          have hS : ((w3.drew.alloc (.cells #[.int .i64 y] 3)).cell? ⟨B, 0, none⟩ = some (.int .i64 m.W) ∧ (w3.drew.alloc (.cells #[.int .i64 y] 3)).cell? ⟨B, 1, none⟩ = some (.int .i64 m.H) ∧ (w3.drew.alloc (.cells #[.int .i64 y] 3)).cell? ⟨B, 2, none⟩ = some (.slice a m.R.length ca) ∧ (w3.drew.alloc (.cells #[.int .i64 y] 3)).cell? ⟨B, 3, none⟩ = some (.slice b m.C.length cb) ∧ (w3.drew.alloc (.cells #[.int .i64 y] 3)).cell? ⟨lb, lo + k, none⟩ = some (.int .i64 y)) := by
            obtain ⟨p0, p1, p2, p3, c0⟩ := hHeld
            exact ⟨(hb.cell (World.block_lt_of_cell? w3 _ p0)).trans p0, (hb.cell (World.block_lt_of_cell? w3 _ p1)).trans p1, (hb.cell (World.block_lt_of_cell? w3 _ p2)).trans p2, (hb.cell (World.block_lt_of_cell? w3 _ p3)).trans p3, (hb.cell (World.block_lt_of_cell? w3 _ c0)).trans c0⟩
          clear hb
          refine hK.out _ _ hS (fun _ => ?_)
          clear hK K hHeld
          refine wpAnyH_ready (rs := [3]) (by kernel_rfl) (by simp) ?_
          refine AllReadyH.cons (o := _) rfl (fun K hK => ?_) AllReadyH.nil
          go_simp
          go_at_call 96
          refine (COb.out _ HRb4.out).mono ?_
          rintro e w5 ⟨v4, rfl, ho, hb⟩
          have hs4 := HS4.out
          have HB5 := Lib.hid (HB4.out.trans (hb.mono HB4.out.size))
          have HK5 := Lib.hid (HK4.out.later hb)
          have HX5 := Lib.hid (show IntK.Gr w v4 (bz ++ [x]) w5 from ⟨HB5.out, IntS.rebase ho HB4.out.size⟩)
          have HApt := Lib.hid (show ∀ z, v4.ownBlock = some z → w3.heap.size ≤ z from fun z e => Nat.le_trans (Nat.le_of_lt HS4.out) (ho.lt z e).1)
          have HRT5 := Lib.hid (show OwnI _ w.heap.size v16 (left.eraseIdx k) from HRT.out.below hb)
          have HBsT5 := Lib.hid (fun (hk : 0 < k) => show OwnI _ w.heap.size vb (bz ++ x :: (pkR cc k).1) from (HBsT.out hk).below hb)
          have hcn : ∀ j u, [Value.int .i64 y][j]? = some u → w5.cell? ((⟨w3.heap.size, 0, none⟩ : Addr).add j) = some u := by
            intro j u h
            have h1 := hcn j u h
            rw [CtK.add_none] at h1 ⊢
            exact (hb.cell (show w3.heap.size < _ from HS4.out)).trans h1
          have hS : (w5.cell? ⟨B, 0, none⟩ = some (.int .i64 m.W) ∧ w5.cell? ⟨B, 1, none⟩ = some (.int .i64 m.H) ∧ w5.cell? ⟨B, 2, none⟩ = some (.slice a m.R.length ca) ∧ w5.cell? ⟨B, 3, none⟩ = some (.slice b m.C.length cb) ∧ w5.cell? ⟨lb, lo + k, none⟩ = some (.int .i64 y)) := by
            obtain ⟨p0, p1, p2, p3, c0⟩ := hS
            exact ⟨(hb.cell (World.block_lt_of_cell? (w3.drew.alloc (.cells #[.int .i64 y] 3)) _ p0)).trans p0, (hb.cell (World.block_lt_of_cell? (w3.drew.alloc (.cells #[.int .i64 y] 3)) _ p1)).trans p1, (hb.cell (World.block_lt_of_cell? (w3.drew.alloc (.cells #[.int .i64 y] 3)) _ p2)).trans p2, (hb.cell (World.block_lt_of_cell? (w3.drew.alloc (.cells #[.int .i64 y] 3)) _ p3)).trans p3, (hb.cell (World.block_lt_of_cell? (w3.drew.alloc (.cells #[.int .i64 y] 3)) _ c0)).trans c0⟩
          clear ho hb hs4
          go_wp2_with fail
          refine hK.out _ _ hS (fun _ => ?_)
          clear hK K
          have hownb := HX5.out.own
          unfold OwnI at hownb
          rw [HLN.out] at hownb
          have hszb := HX5.out.b.size
          refine wpAnyH_ready (rs := [9]) (by kernel_rfl) (by simp) ?_
          refine AllReadyH.cons (o := _) rfl (fun K hK => ?_) AllReadyH.nil
          rw [if_pos (by rfl)]
          refine wp_append_own _ (.tmp 53) (.tmp 58) 24 rfl w.heap.size 3 t0 (.int .i64 0) 1 8 Try.underlying24 hi0 hz0 hz1 hz2 rfl (by decide) _ (bz.length + 1) _ (by (try simp only [Act.eval, Act.put]); rfl) hownb ⟨w3.heap.size, 0, none⟩ 1 1 [.int .i64 y] (by (try simp only [Act.eval, Act.put]); rfl) rfl hcn (by simp [Value.oneCell']) (by unfold maxLen; omega) (by omega) hszb ?_
          intro v7 w7 hown7 hgr7 _
          have HP7 := Lib.hid (HX5.out.put HLN.out hgr7 hown7)
          have HK7 := Lib.hid (blk_keep hownb HK5.out (by decide) hgr7)
          have HR7 := Lib.hid (show OwnI w7 w.heap.size v16 (left.eraseIdx k) from ownI_kept HRT5.out hownb hgr7 (fun q1 q2 e1 e2 => by have h1 := HRlt.out _ e1; have h2 := HApt.out _ e2; omega))
          have HBst7 := Lib.hid (fun (hk : 0 < k) => show OwnI w7 w.heap.size vb (bz ++ x :: (pkR cc k).1) from ownI_kept (HBsT5.out hk) hownb hgr7 (fun q1 q2 e1 e2 => by have h1 := HBlt.out hk _ e1; have h2 := HApt.out _ e2; have h3 := HBw3.out; omega))
          have hS : (w7.cell? ⟨B, 0, none⟩ = some (.int .i64 m.W) ∧ w7.cell? ⟨B, 1, none⟩ = some (.int .i64 m.H) ∧ w7.cell? ⟨B, 2, none⟩ = some (.slice a m.R.length ca) ∧ w7.cell? ⟨B, 3, none⟩ = some (.slice b m.C.length cb) ∧ w7.cell? ⟨lb, lo + k, none⟩ = some (.int .i64 y)) := by
            obtain ⟨q0, q1, q2, q3, -⟩ := MapS.Blk.four HK7.out
            obtain ⟨-, -, -, -, c0⟩ := hS
            have hne : ∀ z, v4.ownBlock = some z → w.heap.size ≤ z := fun z e => (World.ownsRow.lt hownb z e).1
            exact ⟨q0, q1, q2, q3, hgr7.cell c0 (fun e => by have h1 := hne _ e.symm; have h2 := HLB.out; simp at h1; omega)⟩
          refine hK.out _ _ hS (fun _ => ?_)
          clear hK K hown7 hgr7 hownb
          obtain ⟨g7, c7, rfl, hc7, -⟩ := own_addr HP7.out.own (by rw [HLN2.out]; omega)
          have HRc7 := Lib.hid (show Rc m cs (bz ++ [x] ++ [y]) a b ad (some ⟨g7, 0, none⟩) w7 from ⟨(H0.out.later HP7.out.b).d, by
            obtain ⟨a', c', e, hr, -⟩ := OwnI.slice HP7.out.own
            rw [(Value.slice.inj e).1]
            exact hr⟩)
          obtain ⟨ra, rc, er, hrr, -⟩ := OwnI.slice HR7.out
          have hrle : (left.eraseIdx k).length ≤ rc := IntK.Own.le (show IntK.Own w7 w.heap.size (.slice ra (left.eraseIdx k).length rc) (left.eraseIdx k) from by rw [← er]; exact HR7.out)
          rw [HLE.out] at er hrle
          have CI0 := CI.out (some ⟨g7, 0, none⟩) c7 ra rc w7 hrle HRc7.out hrr
          rw [HLN2.out] at CI0
          obtain ⟨tk, htk⟩ : ∃ z, tB T cs (bz ++ [x]) + (cc k).2 = z := ⟨_, rfl⟩
          have hz8 : tB T cs (bz ++ [x] ++ [y]) + bb.2 = tk := by rw [← htk, HCK.out, tB_app, HDY.out]; simp; omega
          rw [hz8] at CI0
          clear hz8
          subst er
          have CI1 := Lib.hid CI0
          have hszp := HP7.out.b.size
          clear hrr hrle CI0
          refine wpAnyH_ready (rs := [12]) (by kernel_rfl) (by simp) ?_
          refine AllReadyH.cons (o := _) rfl (fun K hK => ?_) AllReadyH.nil
          go_simp
          go_at_call 73
          refine CI1.out.mono ?_
          rintro e w8 ⟨v8, rfl, ho, hb⟩
          have HO8 := Lib.hid (show OwnI w8 w.heap.size v8 (bz ++ x :: (cc k).1) from by
            rw [HCK.out]
            have h : OwnI w8 w.heap.size v8 ((bz ++ [x]) ++ y :: bb.1) := IntS.rebase ho hszp
            rw [List.append_assoc] at h
            exact h)
          have HB8 := Lib.hid (HP7.out.b.trans (hb.mono hszp))
          have HK8 := Lib.hid (HK7.out.later hb)
          have HBst8 := Lib.hid (fun (hk : 0 < k) => (show OwnI w8 w.heap.size vb (bz ++ x :: (pkR cc k).1) from (HBst7.out hk).below hb))
          have hS : (w8.cell? ⟨B, 0, none⟩ = some (.int .i64 m.W) ∧ w8.cell? ⟨B, 1, none⟩ = some (.int .i64 m.H) ∧ w8.cell? ⟨B, 2, none⟩ = some (.slice a m.R.length ca) ∧ w8.cell? ⟨B, 3, none⟩ = some (.slice b m.C.length cb) ∧ w8.cell? ⟨lb, lo + k, none⟩ = some (.int .i64 y)) := by
            obtain ⟨p0, p1, p2, p3, c0⟩ := hS
            exact ⟨(hb.cell (World.block_lt_of_cell? w7 _ p0)).trans p0, (hb.cell (World.block_lt_of_cell? w7 _ p1)).trans p1, (hb.cell (World.block_lt_of_cell? w7 _ p2)).trans p2, (hb.cell (World.block_lt_of_cell? w7 _ p3)).trans p3, (hb.cell (World.block_lt_of_cell? w7 _ c0)).trans c0⟩
          clear ho hb
          go_wp2_with fail
          refine hK.out _ _ hS (fun _ => ?_)
          clear hK K hS
          refine wpAnyH_take (i := 13) (oi := _) (v := ?_) rfl (by kernel_rfl) (by kernel_rfl) (by kernel_rfl) (fun _ _ _ h => h) (Or.inl ⟨by rfl, ?_⟩) (by assumption) ?_; rotate_left; focus (intro W hSw; (try dsimp only at hSw); go_simp; (first | done | with_reducible rfl))
          (try simp only [List.getElem_toArray, List.getElem_cons_succ, List.getElem_cons_zero, Act.put, List.setIfInBounds_toArray, List.set_cons_zero, List.set_cons_succ])
          refine wpAnyH_take (i := 14) (oi := _) (v := ?_) rfl (by kernel_rfl) (by kernel_rfl) (by kernel_rfl) (fun _ _ _ h => h) (Or.inl ⟨by rfl, ?_⟩) (by assumption) ?_; rotate_left; focus (intro W hSw; (try dsimp only at hSw); go_simp; (first | done | with_reducible rfl))
          (try simp only [List.getElem_toArray, List.getElem_cons_succ, List.getElem_cons_zero, Act.put, List.setIfInBounds_toArray, List.set_cons_zero, List.set_cons_succ])
          refine wpAnyH_take (i := 15) (oi := _) (v := ?_) rfl (by kernel_rfl) (by kernel_rfl) (by kernel_rfl) (fun _ _ _ h => h) (Or.inl ⟨by rfl, ?_⟩) (by assumption) ?_; rotate_left; focus (intro W hSw; (try dsimp only at hSw); go_simp; (first | done | with_reducible rfl))
          (try simp only [List.getElem_toArray, List.getElem_cons_succ, List.getElem_cons_zero, Act.put, List.setIfInBounds_toArray, List.set_cons_zero, List.set_cons_succ])
          refine wpAnyH_take (i := 16) (oi := _) (v := ?_) rfl (by kernel_rfl) (by kernel_rfl) (by kernel_rfl) (fun _ _ _ h => h) (Or.inl ⟨by rfl, ?_⟩) (by assumption) ?_; rotate_left; focus (intro W hSw; (try dsimp only at hSw); go_simp; (first | done | with_reducible rfl))
          (try simp only [List.getElem_toArray, List.getElem_cons_succ, List.getElem_cons_zero, Act.put, List.setIfInBounds_toArray, List.set_cons_zero, List.set_cons_succ])
          refine wpAnyH_take (i := 17) (oi := _) (v := ?_) rfl (by kernel_rfl) (by kernel_rfl) (by kernel_rfl) (fun _ _ _ h => h) (Or.inl ⟨by rfl, ?_⟩) (by assumption) ?_; rotate_left; focus (intro W hSw; (try dsimp only at hSw); go_simp; (first | done | with_reducible rfl))
          (try simp only [List.getElem_toArray, List.getElem_cons_succ, List.getElem_cons_zero, Act.put, List.setIfInBounds_toArray, List.set_cons_zero, List.set_cons_succ])
          refine wpAnyH_done (by kernel_rfl) ?_ _
          refine NoPanic.normal ?_
          (try simp only [List.getElem_toArray, List.getElem_cons_succ, List.getElem_cons_zero, Act.put, List.setIfInBounds_toArray, List.set_cons_zero, List.set_cons_succ])
          clear hu
          rcases Nat.eq_zero_or_pos k with hk0' | hkp
          · have hzm := HZ0.out hk0'
            subst hk0' hzm
            go_wp2
            go_roundg (n + 1 - (0 + 1))
            case measure => omega
            case rel => exact ⟨0 + 1, _, tk, by omega, rfl, by go_num, rfl, rfl, fun h => absurd h (by omega), fun _ => ⟨htk.symm, HO8.out⟩, HB8.out, HK8.out⟩
          · obtain ⟨j, rfl⟩ : ∃ j, k = j + 1 := ⟨k - 1, by omega⟩
            have hzb := (HZ1.out (Nat.succ_pos _)).1
            have HBs := Lib.hid (HBst8.out (Nat.succ_pos _))
            have hpkb := HPB.out j (by omega)
            have htb0 := HTB.out
            have hzn : decide (zb < 0) = false := decide_eq_false (by omega)
            have HPK := Lib.hid (show pkR cc (j + 1 + 1) = if (cc (j + 1)).2 < (pkR cc (j + 1)).2 then cc (j + 1) else pkR cc (j + 1) from rfl)
            by_cases hlt2 : tk < zb
            · have hdl : decide (tk < zb) = true := decide_eq_true hlt2
              have HNx := Lib.hid (show pkR cc (j + 1 + 1) = cc (j + 1) from by rw [HPK.out, if_pos (by omega)])
              have HTK := Lib.hid htk
              clear htk hzb hpkb htb0 hlt2
              go_wp2
              go_roundg (n + 1 - (j + 1 + 1))
              case measure => omega
              case rel => exact ⟨j + 1 + 1, _, tk, by omega, rfl, by go_num, rfl, rfl, fun h => absurd h (by omega), fun _ => ⟨by rw [HNx.out]; exact HTK.out.symm, by rw [HNx.out]; exact HO8.out⟩, HB8.out, HK8.out⟩
            · have hdl : decide (tk < zb) = false := decide_eq_false hlt2
              have HNx := Lib.hid (show pkR cc (j + 1 + 1) = pkR cc (j + 1) from by rw [HPK.out, if_neg (by omega)])
              have HZB := Lib.hid hzb
              clear htk hzb hpkb htb0 hlt2
              go_wp2
              go_roundg (n + 1 - (j + 1 + 1))
              case measure => omega
              case rel => exact ⟨j + 1 + 1, _, zb, by omega, rfl, by go_num, rfl, rfl, fun h => absurd h (by omega), fun _ => ⟨by rw [HNx.out]; exact HZB.out, by rw [HNx.out]; exact HBs.out⟩, HB8.out, HK8.out⟩
      · obtain rfl : k = n + 1 := by omega
        obtain ⟨h1, h2⟩ := HZ1.out (Nat.succ_pos _)
        have HO1 := Lib.hid h2
        subst h1
        go_wp2
        go_ret2
        exact ⟨_, rfl, HO1.out, HBr.out⟩
end Go.Proofs.Ytdfmfmndmldggaa.KrN

namespace Go.Proofs.Ytdfmfmndmldggaa.KrN
open Go.RowKit Lb Bk IntS CtK CoM CoP CoF CoC KrM KrI KrD KrE KrF KrG KrT KrU LtI PrtB PutS
open KrO (own_ints)
open KrP (Cd cw bw_succ bw_bd BPost3 cd_of)
open KrR (blk_keep)
open Cells (NPost)
set_option linter.unusedSimpArgs false
set_option linter.unusedVariables false

set_option maxRecDepth 100000 in
set_option maxHeartbeats 8000000 in
theorem order_spec (m : Mp) (T : Nat → Nat → Int) (hT : TT m T) (cs : List Ct) (hl : cs.length ≤ 1048576) (zs : List Int) (hl2 : zs.length ≤ 1048576) (hR : m.R.length ≤ maxLen) (hC : m.C.length ≤ maxLen) (a b : Option Addr) (ca cb : Nat) (ad : Option Addr) (cap : Nat) (al : Option Addr) (cl : Nat) (w : World) (h : Rc m cs zs a b ad al w) (hcl : zs.length ≤ cl) :
    Calls Try.prog 45 #[.agg #[.int .i64 m.W, .int .i64 m.H, .slice a m.R.length ca, .slice b m.C.length cb], .slice ad cs.length cap, .slice al zs.length cl] w (BPost3 w (boL m T cs zs) (boT m T cs zs) (boB m T cs zs)) := by
  have HB := Lib.hid ((Below.refl w.heap.size w).alloc (Nat.le_refl _) (.cells #[.int .i64 m.W, .int .i64 m.H, .slice a m.R.length ca, .slice b m.C.length cb] 26))
  have HK := Lib.hid (Blk.new w 26 #[.int .i64 m.W, .int .i64 m.H, .slice a m.R.length ca, .slice b m.C.length cb])
  have H := Lib.hid h
  obtain ⟨gd, hgd⟩ : ∃ o, csB m T cs zs = o := ⟨_, rfl⟩
  have c1 := Lib.hid (fun w h => hgd ▸ good_any m T hT cs hl zs hl2 hR hC a b ca cb ad cap al cl w h)
  have c2 := Lib.hid (fun w h => tw_spec zs hl2 al cl hcl w h)
  have HGd := Lib.hid hgd
  obtain ⟨ok, hok⟩ : ∃ o, boB m T cs zs = o := ⟨_, rfl⟩
  obtain ⟨us, hus⟩ : ∃ o, boL m T cs zs = o := ⟨_, rfl⟩
  obtain ⟨tz, htz⟩ : ∃ o, boT m T cs zs = o := ⟨_, rfl⟩
  have HO := Lib.hid hok
  have HU := Lib.hid hus
  have HZ := Lib.hid htz
  have HT := Lib.hid hT
  obtain ⟨n, hn⟩ : ∃ n, zs.length = n := ⟨_, rfl⟩
  have HN := Lib.hid hn
  rw [hn] at c1 c2 hcl hl2
  rw [hok, hus, htz, hn]
  obtain ⟨B, hB⟩ : ∃ B, w.heap.size = B := ⟨_, rfl⟩
  have HBq := Lib.hid hB
  rw [hB] at HK
  have hno : ok = false → us = [] ∧ tz = 0 := fun e => by
    have := bo_no (show boB m T cs zs = false from by rw [HO.out]; exact e)
    rwa [HU.out, HZ.out] at this
  have HNo := Lib.hid hno
  clear h hT hgd hok hus htz hn hB hno
  go_enter Try.func45, Try.ntmps45
  go_wp2_with fail
  refine (c1.out _ (H.out.later HB.out)).mono ?_
  rintro e w1 ⟨rfl, hb⟩
  have HB1 := Lib.hid (HB.out.trans (hb.mono (by simp)))
  have HK1 := Lib.hid (HK.out.later hb)
  have hs1 := HB1.out.size
  try rw [HBq.out]
  clear hb HB HK c1
  cases gd with
  | false =>
    have h1 : ok = false := by rw [← HO.out]; unfold boB; rw [HGd.out]; rfl
    obtain ⟨h2, h3⟩ := HNo.out h1
    subst h1 h2 h3
    go_wp2
    go_ret3
    exact ⟨_, rfl, own_ints w1 _ hs1, HB1.out.alloc hs1 _⟩
  | true =>
  have HP := Lib.hid (cs_iff.1 HGd.out)
  have hn28 := HP.out.2.1
  rw [HN.out] at hn28
  obtain ⟨hn2, hn8⟩ := hn28
  by_cases h7 : 7 < n
  · have h1 : ok = false := by rw [← HO.out]; unfold boB; rw [HN.out, decide_eq_false (by omega)]; simp
    obtain ⟨h2, h3⟩ := HNo.out h1
    subst h1 h2 h3
    have hd : decide ((7 : Int) < (n : Int)) = true := decide_eq_true (by omega)
    go_wp2
    go_ret3
    exact ⟨_, rfl, own_ints w1 _ hs1, HB1.out.alloc hs1 _⟩
  have hd7 : decide ((7 : Int) < (n : Int)) = false := decide_eq_false (by omega)
  obtain ⟨tw, htw⟩ : ∃ t, twB zs zs.length = t := ⟨_, rfl⟩
  have HTw := Lib.hid htw
  rw [HN.out] at htw
  have C2 := Lib.hid (c2.out w1 (H.out.later HB1.out).z)
  rw [htw] at C2
  clear c2 htw
  go_wp2_with fail
  refine C2.out.mono ?_
  rintro e w2 ⟨rfl, hb⟩
  have HB2 := Lib.hid (HB1.out.trans (hb.mono hs1))
  have HK2 := Lib.hid (HK1.out.later hb)
  have hs2 := HB2.out.size
  clear C2 hb HB1 HK1
  cases tw with
  | true =>
    have h1 : ok = false := by rw [← HO.out]; unfold boB; rw [HTw.out]; simp
    obtain ⟨h2, h3⟩ := HNo.out h1
    subst h1 h2 h3
    go_wp2
    go_ret3
    exact ⟨_, rfl, own_ints w2 _ hs2, HB2.out.alloc hs2 _⟩
  | false =>
  have h1 : ok = true := by rw [← HO.out]; exact bo_iff.2 ⟨HP.out, by rw [HN.out]; omega, HTw.out⟩
  subst h1
  have hby := bo_yes HO.out
  rw [HU.out, HZ.out] at hby
  have HBY := Lib.hid hby
  obtain ⟨r, rfl⟩ : ∃ r, n = r + 2 := ⟨n - 2, by omega⟩
  obtain ⟨ww, hh, gm⟩ := good_of (good_ok HP.out.1)
  have HCd := Lib.hid (cd_of HT.out HP.out gm)
  obtain ⟨zb, zo, rfl, hcells⟩ := H.out.cell (k := 0) (by rw [HN.out]; omega)
  have HCz := Lib.hid hcells
  have hzb : zb < w.heap.size := World.block_lt_of_cell? w _ (hcells 0 (by rw [HN.out]; omega))
  have h0 : ∀ i, i < zs.length → 0 ≤ zAt zs i := fun i hi => by have := fnd_nn HP.out.1 (HP.out.2.2.1 i hi); omega
  have H0 := Lib.hid h0
  have HPl := Lib.hid (fun k (hk : k ≤ r) => pa_len h0 HTw.out k (by rw [HN.out]; omega))
  have HPn := Lib.hid (fun k (hk : k < r) => pa_new h0 HTw.out (k := k) (by rw [HN.out]; omega))
  obtain ⟨x0, hx0⟩ : ∃ x, zAt zs 0 = x := ⟨_, rfl⟩
  obtain ⟨xl, hxl⟩ : ∃ x, zAt zs (r + 1) = x := ⟨_, rfl⟩
  have HX0 := Lib.hid hx0
  have HXl := Lib.hid hxl
  have hm0 : x0 ∈ zs := by rw [← hx0]; exact zAt_mem (by rw [HN.out]; omega)
  have hml : xl ∈ zs := by rw [← hxl]; exact zAt_mem (by rw [HN.out]; omega)
  have hr5 : r ≤ 5 := by omega
  have hfl : (KrE.lfL zs).length = r := by rw [lf_len HP.out HTw.out, HN.out]; rfl
  have HFl := Lib.hid hfl
  have HFe := Lib.hid (show KrE.lfL zs = ints (pa zs r) from by unfold KrE.lfL; rw [HN.out]; rfl)
  have CO8 := fun la lc w h1 h2 h3 => ord_any m T HT.out cs hl zs ww hh HCd.out hR hC xl hml (a) b ca cb ad cap r (KrE.lfL zs) hfl (fun y hy => by obtain ⟨i, h1, h2, h3⟩ := (lf_mem HP.out).1 hy; rw [← h3]; exact zAt_mem (by rw [HN.out] at h2 ⊢; omega)) [] x0 (fun y hy => by rw [List.mem_singleton.1 hy]; exact hm0) (by simp; omega) (some ⟨zb, zo, none⟩) cl la lc w h1 h2 h3
  rw [show ([] ++ [x0] : List Int).length = 1 from rfl, show tB T cs ([] ++ [x0]) = 0 from rfl] at CO8
  have CO := Lib.hid CO8
  have hus : us = [] ++ x0 :: (bw (DD T cs) r x0 (KrE.lfL zs) xl).1 ∧ tz = 0 + (bw (DD T cs) r x0 (KrE.lfL zs) xl).2 := by
    obtain ⟨h1, h2⟩ := HBY.out
    have hbw : boW T cs zs = bw (DD T cs) r x0 (KrE.lfL zs) xl := by
      unfold boW
      rw [HN.out, ← hx0, ← hxl]
      rfl
    rw [h1, h2, hbw, hx0]
    exact ⟨rfl, (Int.zero_add _).symm⟩
  obtain ⟨hu1, hu2⟩ := hus
  have hrw : IntKind.i64.wrap ((r : Int) + 2 - 1) = (r : Int) + 1 := by rw [IntWalk.i64_in _ (by omega)]; omega
  have HS0 := Lib.hid (show OwnI (w2.alloc (.cells #[] 3)) w.heap.size (.slice (some ⟨w2.heap.size, 0, none⟩) 0 0) (ints (pa zs 0)) from own_ints w2 _ hs2)
  have HB0 := Lib.hid (HB2.out.alloc hs2 (.cells #[] 3))
  have HK0 := Lib.hid (HK2.out.alloc (.cells #[] 3))
  rw [← hu1, ← hu2] at CO
  clear CO8 hu1 hu2 hfl h0 hx0 hxl hcells hby HBY HNo HO hm0 hml gm HB2 HK2
  go_wp2
  go_loopg [11, 10] r (fun gk i v wr => ∃ (k g cp : Nat), k ≤ r ∧ gk = r - k ∧ i = .int .i64 ((k : Int) + 1) ∧ v = .slice (some ⟨g, 0, none⟩) k cp ∧ OwnI wr w.heap.size (.slice (some ⟨g, 0, none⟩) k cp) (ints (pa zs k)) ∧ Below w.heap.size w wr ∧ Blk wr B 26 #[.int .i64 m.W, .int .i64 m.H, .slice a m.R.length ca, .slice b m.C.length cb])
  case atStart => exact ⟨0, _, _, Nat.zero_le _, rfl, rfl, rfl, HS0.out, HB0.out, HK0.out⟩
  case round =>
    clear HS0 HB0 HK0
    obtain ⟨k, g, cp, hk, hgk, rfl, rfl, ho, hb, hKm⟩ := hrel
    have HOr := Lib.hid ho
    have HBr := Lib.hid hb
    have HKr := Lib.hid hKm
    have hwr := hb.size
    have hcz : ∀ j, j < r + 2 → wr.cell? ⟨zb, zo + j, none⟩ = some (.int .i64 (zAt zs j)) := fun j hj => (hb.cell (show zb < _ from hzb)).trans (HCz.out j (by rw [HN.out]; exact hj))
    have hpl := HPl.out k hk
    clear ho hb hKm
    by_cases hlt : k < r
    · have hg := HOr.out.lt g rfl
      have hcp : k ≤ cp := by have := IntK.Own.le (show IntK.Own wr w.heap.size (.slice (some ⟨g, 0, none⟩) k cp) (ints (pa zs k)) from HOr.out); rwa [ints_length, hpl] at this
      obtain ⟨y, hy⟩ : ∃ y : Nat, zAt zs (k + 1) = (y : Int) := ⟨(zAt zs (k + 1)).toNat, by have := H0.out (k + 1) (by rw [HN.out]; omega); omega⟩
      have hyn : (zAt zs (k + 1)).toNat = y := by rw [hy]; rfl
      have hpn := put_new (pa zs k) y g 0 cp wr (fun j hj => by rw [Nat.zero_add]; exact own_ints_cell HOr.out hj) hg.2 (by omega) (by omega) (pa_sorted zs k) (by have := HPn.out k hlt; rwa [hyn] at this)
      rw [hpl] at hpn
      have HPut := Lib.hid hpn
      have c1 := hcz (k + 1) (by omega)
      rw [hy] at c1
      have hk0 : (0 : Int) ≤ (k : Int) + 1 := by omega
      have hk1 : (k : Int) + 1 < (r : Int) + 2 := by omega
      have hk2 : (k : Int) + 1 < (r : Int) + 1 := by omega
      have hd2 : decide ((k : Int) + 1 < (r : Int) + 1) = true := decide_eq_true hk2
      have hkw : IntKind.i64.wrap ((k : Int) + 1 + 1) = (k : Int) + 1 + 1 := IntWalk.i64_in _ (by omega)
      have hk3 : k + 1 < r + 2 := by omega
      have HYn := Lib.hid hyn
      clear hy hyn hpn hcz
      go_wp2_with fail
      refine HPut.out.mono ?_
      rintro e w6 ⟨⟨v6, rfl, ho6⟩, hb6⟩
      have HB6 := Lib.hid (HBr.out.trans (hb6.mono hwr))
      have HK6 := Lib.hid (HKr.out.later hb6)
      have ho7 : OwnI w6 w.heap.size v6 (ints (pa zs (k + 1))) := by
        have := IntS.rebase ho6 hwr
        rw [← HYn.out] at this
        exact this
      have hpl7 := HPl.out (k + 1) (by omega)
      obtain ⟨g6, c6, rfl, hc6, -⟩ := own_addr ho7 (by rw [ints_length]; omega)
      rw [ints_length, hpl7] at ho7 ⊢
      have HO7 := Lib.hid ho7
      clear ho6 hb6 ho7 hc6
      go_wp2_with fail
      go_roundg (r - (k + 1))
      case measure => omega
      case rel => exact ⟨k + 1, g6, c6, by omega, rfl, by go_num, rfl, HO7.out, HB6.out, HK6.out⟩
    · obtain rfl : k = r := by omega
      have hd2 : decide ((k : Int) + 1 < (k : Int) + 1) = false := decide_eq_false (by omega)
      have hcp : k ≤ cp := by have := IntK.Own.le (show IntK.Own wr w.heap.size (.slice (some ⟨g, 0, none⟩) k cp) (ints (pa zs k)) from HOr.out); rwa [ints_length, hpl] at this
      have c0 := hcz (k + 1) (by omega)
      rw [HXl.out] at c0
      have hcr := RowAt.below H.out.z HBr.out
      have hrc : Rc m cs [x0] a b ad (some ⟨zb, zo, none⟩) wr := ⟨(H.out.later HBr.out).d, .inr ⟨zb, zo, rfl, fun j hj => by
        obtain rfl : j = 0 := by simpa using hj
        rw [hcz 0 (by omega)]
        exact congrArg (fun z => some (Value.int .i64 z)) HX0.out⟩⟩
      have hir : IRow wr (some ⟨g, 0, none⟩) (KrE.lfL zs) := by
        obtain ⟨a', c', e, hr, -⟩ := OwnI.slice HOr.out
        rw [HFe.out, (Value.slice.inj e).1]
        exact hr
      have HC8d := Lib.hid (CO.out (some ⟨g, 0, none⟩) cp wr.drew hcp ⟨hrc.d.drew, hrc.z⟩ hir)
      obtain ⟨p0, p1, p2, p3, -⟩ := MapS.Blk.four HKr.out
      have hq0 : (1 : Int) ≤ (cl : Int) := by omega
      have hq1 : 1 ≤ cl := by omega
      have hq2 : (0 : Int) ≤ (k : Int) + 1 := by omega
      have hq3 : (k : Int) + 1 < (k : Int) + 2 := by omega
      have hq4 : k + 1 < k + 2 := by omega
      have hu : undef = Value.tuple #[] := rfl
      clear hcz hcr hrc hir CO
      go_upto_region 9 with (fail)
      refine wp_region_noPanic ?_
      refine wp_region_held_drew (S := (fun Wx : World => Wx.cell? ⟨B, 0, none⟩ = some (.int .i64 m.W) ∧ Wx.cell? ⟨B, 1, none⟩ = some (.int .i64 m.H) ∧ Wx.cell? ⟨B, 2, none⟩ = some (.slice a m.R.length ca) ∧ Wx.cell? ⟨B, 3, none⟩ = some (.slice b m.C.length cb) ∧ Wx.cell? ⟨zb, zo + (k + 1), none⟩ = some (.int .i64 xl))) (by kernel_rfl) ⟨p0, p1, p2, p3, c0⟩ (fun hHeld => ?_)
      refine wpAnyH_take (i := 0) (oi := _) (v := ?_) rfl (by kernel_rfl) (by kernel_rfl) (by kernel_rfl) (fun _ _ _ h => h) (Or.inl ⟨by rfl, ?_⟩) (by assumption) ?_; rotate_left; focus (intro W hSw; (try dsimp only at hSw); go_simp; (first | done | with_reducible rfl))
      (try simp only [List.getElem_toArray, List.getElem_cons_succ, List.getElem_cons_zero, Act.put, List.setIfInBounds_toArray, List.set_cons_zero, List.set_cons_succ])
      refine wpAnyH_take (i := 1) (oi := _) (v := ?_) rfl (by kernel_rfl) (by kernel_rfl) (by kernel_rfl) (fun _ _ _ h => h) (Or.inl ⟨by rfl, ?_⟩) (by assumption) ?_; rotate_left; focus (intro W hSw; (try dsimp only at hSw); go_simp; (first | done | with_reducible rfl))
      (try simp only [List.getElem_toArray, List.getElem_cons_succ, List.getElem_cons_zero, Act.put, List.setIfInBounds_toArray, List.set_cons_zero, List.set_cons_succ])
      refine wpAnyH_take (i := 2) (oi := _) (v := ?_) rfl (by kernel_rfl) (by kernel_rfl) (by kernel_rfl) (fun _ _ _ h => h) (Or.inl ⟨by rfl, ?_⟩) (by assumption) ?_; rotate_left; focus (intro W hSw; (try dsimp only at hSw); go_simp; (first | done | with_reducible rfl))
      (try simp only [List.getElem_toArray, List.getElem_cons_succ, List.getElem_cons_zero, Act.put, List.setIfInBounds_toArray, List.set_cons_zero, List.set_cons_succ])
      refine wpAnyH_take (i := 3) (oi := _) (v := ?_) rfl (by kernel_rfl) (by kernel_rfl) (by kernel_rfl) (fun _ _ _ h => h) (Or.inl ⟨by rfl, ?_⟩) (by assumption) ?_; rotate_left; focus (intro W hSw; (try dsimp only at hSw); go_simp; (first | done | with_reducible rfl))
      (try simp only [List.getElem_toArray, List.getElem_cons_succ, List.getElem_cons_zero, Act.put, List.setIfInBounds_toArray, List.set_cons_zero, List.set_cons_succ])
      refine wpAnyH_take (i := 4) (oi := _) (v := ?_) rfl (by kernel_rfl) (by kernel_rfl) (by kernel_rfl) (fun _ _ _ h => h) (Or.inl ⟨by rfl, ?_⟩) (by assumption) ?_; rotate_left; focus (intro W hSw; (try dsimp only at hSw); go_simp; (first | done | with_reducible rfl))
      (try simp only [List.getElem_toArray, List.getElem_cons_succ, List.getElem_cons_zero, Act.put, List.setIfInBounds_toArray, List.set_cons_zero, List.set_cons_succ])
      refine wpAnyH_take (i := 5) (oi := _) (v := ?_) rfl (by kernel_rfl) (by kernel_rfl) (by kernel_rfl) (fun _ _ _ h => h) (Or.inl ⟨by rfl, ?_⟩) (by assumption) ?_; rotate_left; focus (intro W hSw; (try dsimp only at hSw); go_simp; (first | done | with_reducible rfl))
      (try simp only [List.getElem_toArray, List.getElem_cons_succ, List.getElem_cons_zero, Act.put, List.setIfInBounds_toArray, List.set_cons_zero, List.set_cons_succ])
      refine wpAnyH_take (i := 6) (oi := _) (v := ?_) rfl (by kernel_rfl) (by kernel_rfl) (by kernel_rfl) (fun _ _ _ h => h) (Or.inl ⟨by rfl, ?_⟩) (by assumption) ?_; rotate_left; focus (intro W hSw; (try dsimp only at hSw); go_simp; (first | done | with_reducible rfl))
      (try simp only [List.getElem_toArray, List.getElem_cons_succ, List.getElem_cons_zero, Act.put, List.setIfInBounds_toArray, List.set_cons_zero, List.set_cons_succ])
      refine wpAnyH_take (i := 7) (oi := _) (v := ?_) rfl (by kernel_rfl) (by kernel_rfl) (by kernel_rfl) (fun _ _ _ h => h) (Or.inl ⟨by rfl, ?_⟩) (by assumption) ?_; rotate_left; focus (intro W hSw; (try dsimp only at hSw); go_simp; (first | done | with_reducible rfl))
      (try simp only [List.getElem_toArray, List.getElem_cons_succ, List.getElem_cons_zero, Act.put, List.setIfInBounds_toArray, List.set_cons_zero, List.set_cons_succ])
      refine wpAnyH_take (i := 8) (oi := _) (v := ?_) rfl (by kernel_rfl) (by kernel_rfl) (by kernel_rfl) (fun _ _ _ h => h) (Or.inl ⟨by rfl, ?_⟩) (by assumption) ?_; rotate_left; focus (intro W hSw; (try dsimp only at hSw); go_simp; (first | done | with_reducible rfl))
      (try simp only [List.getElem_toArray, List.getElem_cons_succ, List.getElem_cons_zero, Act.put, List.setIfInBounds_toArray, List.set_cons_zero, List.set_cons_succ])
      refine wpAnyH_take (i := 9) (oi := _) (v := ?_) rfl (by kernel_rfl) (by kernel_rfl) (by kernel_rfl) (fun _ _ _ h => h) (Or.inl ⟨by rfl, ?_⟩) (by assumption) ?_; rotate_left; focus (intro W hSw; (try dsimp only at hSw); go_simp; (first | done | with_reducible rfl))
      (try simp only [List.getElem_toArray, List.getElem_cons_succ, List.getElem_cons_zero, Act.put, List.setIfInBounds_toArray, List.set_cons_zero, List.set_cons_succ])
      refine wpAnyH_ready (rs := [10]) (by kernel_rfl) (by simp) ?_
      refine AllReadyH.cons (o := _) rfl (fun K hK => ?_) AllReadyH.nil
      go_simp
      go_at_call 73
      refine HC8d.out.mono ?_
      rintro e w8 ⟨v8, rfl, ho, hb⟩
      have HO8 := Lib.hid (show OwnI w8 w.heap.size v8 us from IntS.rebase ho hwr)
      have HB8 := Lib.hid (HBr.out.drew.trans (hb.mono hwr))
      have hS : (w8.cell? ⟨B, 0, none⟩ = some (.int .i64 m.W) ∧ w8.cell? ⟨B, 1, none⟩ = some (.int .i64 m.H) ∧ w8.cell? ⟨B, 2, none⟩ = some (.slice a m.R.length ca) ∧ w8.cell? ⟨B, 3, none⟩ = some (.slice b m.C.length cb) ∧ w8.cell? ⟨zb, zo + (k + 1), none⟩ = some (.int .i64 xl)) := by
        obtain ⟨p0, p1, p2, p3, c0⟩ := hHeld
        exact ⟨(hb.cell (World.block_lt_of_cell? wr.drew _ p0)).trans p0, (hb.cell (World.block_lt_of_cell? wr.drew _ p1)).trans p1, (hb.cell (World.block_lt_of_cell? wr.drew _ p2)).trans p2, (hb.cell (World.block_lt_of_cell? wr.drew _ p3)).trans p3, (hb.cell (World.block_lt_of_cell? wr.drew _ c0)).trans c0⟩
      clear ho hb
      go_wp2_with fail
      refine hK.out _ _ hS (fun _ => ?_)
      clear hK K hS hHeld
      refine wpAnyH_take (i := 11) (oi := _) (v := ?_) rfl (by kernel_rfl) (by kernel_rfl) (by kernel_rfl) (fun _ _ _ h => h) (Or.inl ⟨by rfl, ?_⟩) (by assumption) ?_; rotate_left; focus (intro W hSw; (try dsimp only at hSw); go_simp; (first | done | with_reducible rfl))
      (try simp only [List.getElem_toArray, List.getElem_cons_succ, List.getElem_cons_zero, Act.put, List.setIfInBounds_toArray, List.set_cons_zero, List.set_cons_succ])
      refine wpAnyH_take (i := 12) (oi := _) (v := ?_) rfl (by kernel_rfl) (by kernel_rfl) (by kernel_rfl) (fun _ _ _ h => h) (Or.inl ⟨by rfl, ?_⟩) (by assumption) ?_; rotate_left; focus (intro W hSw; (try dsimp only at hSw); go_simp; (first | done | with_reducible rfl))
      (try simp only [List.getElem_toArray, List.getElem_cons_succ, List.getElem_cons_zero, Act.put, List.setIfInBounds_toArray, List.set_cons_zero, List.set_cons_succ])
      refine wpAnyH_take (i := 13) (oi := _) (v := ?_) rfl (by kernel_rfl) (by kernel_rfl) (by kernel_rfl) (fun _ _ _ h => h) (Or.inl ⟨by rfl, ?_⟩) (by assumption) ?_; rotate_left; focus (intro W hSw; (try dsimp only at hSw); go_simp; (first | done | with_reducible rfl))
      (try simp only [List.getElem_toArray, List.getElem_cons_succ, List.getElem_cons_zero, Act.put, List.setIfInBounds_toArray, List.set_cons_zero, List.set_cons_succ])
      refine wpAnyH_take (i := 14) (oi := _) (v := ?_) rfl (by kernel_rfl) (by kernel_rfl) (by kernel_rfl) (fun _ _ _ h => h) (Or.inl ⟨by rfl, ?_⟩) (by assumption) ?_; rotate_left; focus (intro W hSw; (try dsimp only at hSw); go_simp; (first | done | with_reducible rfl))
      (try simp only [List.getElem_toArray, List.getElem_cons_succ, List.getElem_cons_zero, Act.put, List.setIfInBounds_toArray, List.set_cons_zero, List.set_cons_succ])
      refine wpAnyH_take (i := 15) (oi := _) (v := ?_) rfl (by kernel_rfl) (by kernel_rfl) (by kernel_rfl) (fun _ _ _ h => h) (Or.inl ⟨by rfl, ?_⟩) (by assumption) ?_; rotate_left; focus (intro W hSw; (try dsimp only at hSw); go_simp; (first | done | with_reducible rfl))
      (try simp only [List.getElem_toArray, List.getElem_cons_succ, List.getElem_cons_zero, Act.put, List.setIfInBounds_toArray, List.set_cons_zero, List.set_cons_succ])
      refine wpAnyH_done (by kernel_rfl) ?_ _
      refine NoPanic.normal ?_
      (try simp only [List.getElem_toArray, List.getElem_cons_succ, List.getElem_cons_zero, Act.put, List.setIfInBounds_toArray, List.set_cons_zero, List.set_cons_succ])
      clear hu
      go_wp2
      go_ret3
      exact ⟨_, rfl, HO8.out, HB8.out⟩

theorem bo_len (m : Mp) (T : Nat → Nat → Int) (cs : List Ct) (zs : List Int) : (boL m T cs zs).length ≤ 1048576 := by
  unfold boL
  split
  · next h =>
    obtain ⟨h1, h2, h3⟩ := bo_iff.1 h
    unfold boW
    have := h1.2.1
    rw [List.length_cons, bw_len _ _ _ (by rw [lf_len h1 h3])]
    omega
  · simp
theorem order (m : Mp) (hR : m.R.length ≤ maxLen) (hC : m.C.length ≤ maxLen) (cs : List Ct) (hf : ∀ i, i < cs.length → Is (at_ cs i)) (hl : cs.length ≤ 1048576) (zs : List Int) (hz : zs.length ≤ 1048576) : ∃ (us : List Int) (z : Int) (ok : Bool), us.length ≤ 1048576 ∧
    (∀ a b ca cb ad cap al cl w, IRow w a m.R → IRow w b m.C → cs.length ≤ cap → Row w ad cs → zs.length ≤ cl → IntK.Row w al zs → Calls Try.prog 45 #[.agg #[.int .i64 m.W, .int .i64 m.H, .slice a m.R.length ca, .slice b m.C.length cb], .slice ad cs.length cap, .slice al zs.length cl] w fun e w' => ∃ v, e = .returned (.tuple #[v, .int .i64 z, .bool ok]) ∧ IntK.Own w' w.heap.size v us ∧ Below w.heap.size w w') ∧
    (∀ a b ca cb ad cap al cl w, IRow w a m.R → IRow w b m.C → cs.length ≤ cap → Row w ad cs → zs.length ≤ cl → IntK.Row w al zs → Calls Try.prog 46 #[.agg #[.int .i64 m.W, .int .i64 m.H, .slice a m.R.length ca, .slice b m.C.length cb], .slice ad cs.length cap, .slice al zs.length cl] w fun e w' => ∃ v, e = .returned (.tuple #[v, .int .i64 z, .bool ok]) ∧ IntK.Own w' w.heap.size v us ∧ Below w.heap.size w w') := by
  obtain ⟨T, hT⟩ := tt_ex m
  refine ⟨boL m T cs zs, boT m T cs zs, boB m T cs zs, bo_len m T cs zs, fun a b ca cb ad cap al cl w h1 h2 _ h3 h4 h5 => order_spec m T hT cs hl zs hz hR hC a b ca cb ad cap al cl w ⟨⟨h1, h2, h3⟩, h5⟩ h4, fun a b ca cb ad cap al cl w h1 h2 _ h3 h4 h5 => KrP.order_impl m T hT cs hl zs hz hR hC a b ca cb ad cap al cl w ⟨⟨h1, h2, h3⟩, h5⟩ h4⟩
end Go.Proofs.Ytdfmfmndmldggaa.KrN

namespace Go.Proofs.Ytdfmfmndmldggaa.BorL
open Go.RowKit Lb Bk LwK IntS
set_option linter.unusedSimpArgs false
set_option linter.unusedVariables false

set_option maxRecDepth 100000 in
set_option maxHeartbeats 8000000 in
theorem law_any (W : World) (m : Mp) (a : Option Addr) (ca : Nat) (b : Option Addr) (cb : Nat) (hi : MapO.IsMp W m a b) (a1 : Option Addr) (cap1 : Nat) (rs1 : List Ct) (hi1 : CtK.IsS W a1 rs1) (rs2 : List Int) (a2 : Option Addr) (cap2 : Nat) (hi2 : LisO.IsL W rs2 a2) :
    Calls Try.prog 10 #[.agg #[.int .i64 m.W, .int .i64 m.H, .slice a m.R.length ca, .slice b m.C.length cb], .slice a1 rs1.length cap1, .slice a2 rs2.length cap2] W fun e w' => e = .returned (.bool true) ∧ Below W.heap.size W w' := by
  have hB := Lib.hid (show Below W.heap.size W (W.alloc (.cells #[.int .i64 m.W, .int .i64 m.H, .slice a m.R.length ca, .slice b m.C.length cb] 38)) from ((Below.refl _ _).alloc (by simp) _))
  have hK0 := Lib.hid (Blk.new W 38 #[.int .i64 m.W, .int .i64 m.H, .slice a m.R.length ca, .slice b m.C.length cb])
  have hMR := Lib.hid hi.R
  have hMC := Lib.hid hi.C
  have lMR := Lib.hid hi.lR
  have lMC := Lib.hid hi.lC
  clear hi
  have hR1 := Lib.hid hi1.R
  have hF1 := Lib.hid hi1.f
  have hL1 := Lib.hid hi1.l
  clear hi1
  have hR2 := Lib.hid (show IntK.Row W a2 rs2 from hi2.row)
  have hLm2 := hi2.len
  unfold maxLen at hLm2
  clear hi2
  by_cases hbig2 : 1048576 < rs2.length
  · go_enter Try.func10, Try.ntmps10
    go_wp2
    go_ret
    exact ⟨rfl, hB.out⟩
  by_cases hbig : 1048576 < m.R.length + m.C.length
  · go_enter Try.func10, Try.ntmps10
    go_wp2_with fail
    refine (MapS.sz_no m a b ca cb _ lMR.out lMC.out hbig).mono ?_
    rintro e w1 ⟨rfl, hb⟩
    go_wp2
    go_ret
    exact ⟨rfl, hB.out.trans (hb.mono hB.out.size)⟩
  have hsm : m.R.length + m.C.length ≤ 1048576 := by omega
  obtain ⟨rM, hrM⟩ : ∃ r : Int, 1048576 - (m.R.length : Int) - (m.C.length : Int) = r := ⟨_, rfl⟩
  have hvM : 0 ≤ rM := by omega
  have hwM : rM ≤ 1048576 := by omega
  have hnegM : decide (rM < 0) = false := decide_eq_false (by omega)
  have hzM := Lib.hid (fun w => hrM ▸ MapS.sz_yes m a b ca cb w hsm)
  replace hrM := Lib.hid hrM
  clear hbig
  go_enter Try.func10, Try.ntmps10
  obtain ⟨p0, p1, p2, p3, -⟩ := MapS.Blk.four hK0.out
  go_wp2_with fail
  refine (hzM.out _).mono ?_
  rintro e w1 ⟨rfl, hb⟩
  replace hB := Lib.hid (hB.out.trans (hb.mono hB.out.size))
  replace hK0 := Lib.hid (hK0.out.later hb)
  clear hb hzM
  clear p0 p1 p2 p3
  go_wp2_with fail
  refine (CtK.szS_any a1 cap1 rs1 _ _ (CtK.Row.later hR1.out hB.out) hF1.out hL1.out (by omega) (by omega)).mono ?_
  rintro e w1 ⟨⟨r1, rfl, hr⟩, hb⟩
  replace hB := Lib.hid (hB.out.trans (hb.mono hB.out.size))
  replace hK0 := Lib.hid (hK0.out.later hb)
  clear hb
  rcases hr with rfl | ⟨h0, hr⟩
  · go_wp2
    go_ret
    exact ⟨rfl, hB.out⟩
  have ht := CtK.tot_nn rs1 rs1.length
  have hn1 : rs1.length ≤ 1048576 := by omega
  have hneg1 : decide (r1 < 0) = false := decide_eq_false (by omega)
  have hu1 : 0 ≤ r1 ∧ r1 ≤ 1048576 := by omega
  obtain ⟨hv1, hw1⟩ := hu1
  clear hr ht h0
  have hn2 : rs2.length ≤ 1048576 := by omega
  obtain ⟨u0, u1, u2, hul0, HS, HI⟩ := KrN.order m lMR.out lMC.out rs1 hF1.out hn1 rs2 hn2
  replace HS := Lib.hid HS
  replace HI := Lib.hid HI
  have hum0 : u0.length ≤ maxLen := by unfold maxLen; omega
  obtain ⟨p0, p1, p2, p3, -⟩ := MapS.Blk.four hK0.out
  go_wp2_with fail
  refine (MapS.to_any m a b ca cb _ (RowAt.below hMR.out hB.out) (RowAt.below hMC.out hB.out) hsm).mono ?_
  rintro e w1 ⟨⟨v, rfl, ho⟩, hb⟩
  replace hB := Lib.hid (hB.out.trans (hb.mono hB.out.size))
  replace hK0 := Lib.hid (hK0.out.later hb)
  obtain ⟨wma, wmca, wmb, wmcb, rfl, hoa, hob, hon⟩ := ho
  have wXMA := Lib.hid (show IntK.Own _ _ _ _ from hoa)
  have wXMC := Lib.hid (show IntK.Own _ _ _ _ from hob)
  clear hoa hob hon hb
  clear p0 p1 p2 p3
  go_wp2_with fail
  refine (CtK.toS_any a1 cap1 rs1 _ (CtK.Row.later hR1.out hB.out) hn1).mono ?_
  rintro e w1 ⟨v, rfl, ho, hb⟩
  replace hB := Lib.hid (hB.out.trans (hb.mono hB.out.size))
  replace hK0 := Lib.hid (hK0.out.later hb)
  replace wXMA := Lib.hid (IntK.Own.below wXMA.out hb)
  replace wXMC := Lib.hid (IntK.Own.below wXMC.out hb)
  obtain ⟨wa1, wc1, rfl, -, wl1⟩ := CtK.Own.slice ho
  have wX1 := Lib.hid ho
  clear ho hb
  go_wp2_with fail
  refine (IntK.toS_any a2 cap2 rs2 _ (IntK.Row.later hR2.out hB.out) hn2).mono ?_
  rintro e w1 ⟨v, rfl, ho, hb⟩
  replace hB := Lib.hid (hB.out.trans (hb.mono hB.out.size))
  replace hK0 := Lib.hid (hK0.out.later hb)
  replace wXMA := Lib.hid (IntK.Own.below wXMA.out hb)
  replace wXMC := Lib.hid (IntK.Own.below wXMC.out hb)
  replace wX1 := Lib.hid (CtK.Own.below wX1.out hb)
  obtain ⟨wa2, wc2, rfl, -, wl2⟩ := IntK.Own.slice ho
  have wX2 := Lib.hid ho
  clear ho hb
  go_wp2_with fail
  refine (HS.out _ _ _ _ _ _ _ _ _ (IntK.Own.row wXMA.out) (IntK.Own.row wXMC.out) (CtK.Own.le wX1.out) (CtK.Own.row wX1.out) (IntK.Own.le wX2.out) (IntK.Own.row wX2.out)).mono ?_
  rintro e w1 ⟨v0, rfl, ho0, hb⟩
  replace hB := Lib.hid (hB.out.trans (hb.mono hB.out.size))
  replace hK0 := Lib.hid (hK0.out.later hb)
  replace wXMA := Lib.hid (IntK.Own.below wXMA.out hb)
  replace wXMC := Lib.hid (IntK.Own.below wXMC.out hb)
  replace wX1 := Lib.hid (CtK.Own.below wX1.out hb)
  replace wX2 := Lib.hid (IntK.Own.below wX2.out hb)
  obtain ⟨wa0, wc0, rfl, wr0, wl0⟩ := IntK.Own.slice ho0
  have wW0 := Lib.hid wr0
  clear ho0 wr0
  clear hb
  try clear wXMA
  try clear wXMC
  try clear wX1
  try clear wX2
  obtain ⟨z0, hz0⟩ : ∃ z, w1.heap.size = z := ⟨_, rfl⟩
  have hhi0 := Lib.hid (show ∀ x, wa0 = some x → x.block < z0 from fun x e => hz0 ▸ (wl0 x e).2)
  clear wl0
  have hWz := Lib.hid (show W.heap.size ≤ z0 from hz0 ▸ hB.out.size)
  have hKz0 := Lib.hid (show (W.heap.size) < z0 from hz0 ▸ hK0.out.lt)
  have hZ := Lib.hid (show z0 ≤ w1.heap.size from Nat.le_of_eq hz0.symm)
  clear hz0
  obtain ⟨p0, p1, p2, p3, -⟩ := MapS.Blk.four hK0.out
  go_wp2_with fail
  refine (MapS.to_any m a b ca cb _ (RowAt.below hMR.out hB.out) (RowAt.below hMC.out hB.out) hsm).mono ?_
  rintro e w1 ⟨⟨v, rfl, ho⟩, hb⟩
  have hZo := hZ.out
  replace hB := Lib.hid (hB.out.trans (hb.mono hB.out.size))
  replace hK0 := Lib.hid (hK0.out.later hb)
  replace wW0 := Lib.hid (IntK.Row.later wW0.out hb)
  replace hZ := Lib.hid (Nat.le_trans hZ.out hb.size)
  obtain ⟨xma, xmca, xmb, xmcb, rfl, hoa, hob, hon⟩ := ho
  have xXMA := Lib.hid (show IntK.Own _ _ _ _ from hoa)
  have xXMC := Lib.hid (show IntK.Own _ _ _ _ from hob)
  have xNM := Lib.hid hon
  clear hoa hob hon hb
  clear p0 p1 p2 p3
  obtain ⟨zb, hzb⟩ : ∃ z, w1.heap.size = z := ⟨_, rfl⟩
  have xloMA := Lib.hid (show ∀ x, xma = some x → x.block < zb from fun x e => hzb ▸ (MapS.OwnI.lt xXMA.out x e).2)
  have xloMC := Lib.hid (show ∀ x, xmb = some x → x.block < zb from fun x e => hzb ▸ (MapS.OwnI.lt xXMC.out x e).2)
  replace xXMA := Lib.hid (show IntK.Own _ z0 _ _ from IntS.rebase xXMA.out hZo)
  replace xXMC := Lib.hid (show IntK.Own _ z0 _ _ from IntS.rebase xXMC.out hZo)
  clear hZo
  have hz0b := Lib.hid (show z0 ≤ zb from hzb ▸ hZ.out)
  have hb1 : Below w1.heap.size w1 (w1.alloc (.cells #[.int .i64 m.W, .int .i64 m.H, .slice xma m.R.length xmca, .slice xmb m.C.length xmcb] 26)) := (Below.refl _ _).alloc (Nat.le_refl _) _
  replace hB := Lib.hid (hB.out.trans (hb1.mono hB.out.size))
  replace hK0 := Lib.hid (hK0.out.later hb1)
  replace wW0 := Lib.hid (IntK.Row.later wW0.out hb1)
  replace hZ := Lib.hid (Nat.le_trans hZ.out hb1.size)
  replace xXMA := Lib.hid (IntK.Own.below xXMA.out hb1)
  replace xXMC := Lib.hid (IntK.Own.below xXMC.out hb1)
  clear hb1
  have hXm := Lib.hid (show Blk (w1.alloc (.cells #[.int .i64 m.W, .int .i64 m.H, .slice xma m.R.length xmca, .slice xmb m.C.length xmcb] 26)) zb 26 #[.int .i64 m.W, .int .i64 m.H, .slice xma m.R.length xmca, .slice xmb m.C.length xmcb] from by rw [← hzb]; exact Blk.new w1 26 _)
  have hZb := Lib.hid (show zb + 1 ≤ (w1.alloc (.cells #[.int .i64 m.W, .int .i64 m.H, .slice xma m.R.length xmca, .slice xmb m.C.length xmcb] 26)).heap.size from by rw [World.size_alloc, hzb]; exact Nat.le_refl _)
  replace hzb := Lib.hid hzb
  go_wp2_with fail
  try rw [hzb.out]
  refine (CtK.toS_any a1 cap1 rs1 _ (CtK.Row.later hR1.out hB.out) hn1).mono ?_
  rintro e w1 ⟨v, rfl, ho, hb⟩
  obtain ⟨xa1, xc1, rfl, -, xl⟩ := CtK.Own.slice ho
  have xlo1 := Lib.hid (show ∀ x, xa1 = some x → z0 ≤ x.block from fun x e => Nat.le_trans hZ.out (xl x e).1)
  have xlb1 := Lib.hid (show ∀ x, xa1 = some x → zb + 1 ≤ x.block from fun x e => Nat.le_trans hZb.out (xl x e).1)
  replace hB := Lib.hid (hB.out.trans (hb.mono hB.out.size))
  replace hK0 := Lib.hid (hK0.out.later hb)
  replace wW0 := Lib.hid (IntK.Row.later wW0.out hb)
  replace hZ := Lib.hid (Nat.le_trans hZ.out hb.size)
  replace xXMA := Lib.hid (IntK.Own.below xXMA.out hb)
  replace xXMC := Lib.hid (IntK.Own.below xXMC.out hb)
  replace hXm := Lib.hid (hXm.out.later hb)
  replace hZb := Lib.hid (Nat.le_trans hZb.out hb.size)
  have xup1 := Lib.hid (show ∀ x, xa1 = some x → x.block < w1.heap.size from fun x e => (xl x e).2)
  have xX1 := Lib.hid ho
  clear ho hb xl
  go_wp2_with fail
  refine (IntK.toS_any a2 cap2 rs2 _ (IntK.Row.later hR2.out hB.out) hn2).mono ?_
  rintro e w1 ⟨v, rfl, ho, hb⟩
  obtain ⟨xa2, xc2, rfl, -, xl⟩ := IntK.Own.slice ho
  have xlo2 := Lib.hid (show ∀ x, xa2 = some x → z0 ≤ x.block from fun x e => Nat.le_trans hZ.out (xl x e).1)
  have xlb2 := Lib.hid (show ∀ x, xa2 = some x → zb + 1 ≤ x.block from fun x e => Nat.le_trans hZb.out (xl x e).1)
  have xne2_1 := Lib.hid (show ∀ x y, xa2 = some x → xa1 = some y → y.block ≠ x.block from fun x y hx hy e => by have h1 := xup1.out y hy; have h2 := (xl x hx).1; omega)
  replace hB := Lib.hid (hB.out.trans (hb.mono hB.out.size))
  replace hK0 := Lib.hid (hK0.out.later hb)
  replace wW0 := Lib.hid (IntK.Row.later wW0.out hb)
  replace hZ := Lib.hid (Nat.le_trans hZ.out hb.size)
  replace xXMA := Lib.hid (IntK.Own.below xXMA.out hb)
  replace xXMC := Lib.hid (IntK.Own.below xXMC.out hb)
  replace hXm := Lib.hid (hXm.out.later hb)
  replace hZb := Lib.hid (Nat.le_trans hZb.out hb.size)
  replace xX1 := Lib.hid (CtK.Own.below xX1.out hb)
  replace xup1 := Lib.hid (fun x e => Nat.lt_of_lt_of_le (xup1.out x e) hb.size)
  have xup2 := Lib.hid (show ∀ x, xa2 = some x → x.block < w1.heap.size from fun x e => (xl x e).2)
  have xX2 := Lib.hid ho
  clear ho hb xl
  obtain ⟨z1, hz1⟩ : ∃ z, w1.heap.size = z := ⟨_, rfl⟩
  have xhi1 := Lib.hid (show ∀ x, xa1 = some x → x.block < z1 from fun x e => hz1 ▸ xup1.out x e)
  clear xup1
  have xhi2 := Lib.hid (show ∀ x, xa2 = some x → x.block < z1 from fun x e => hz1 ▸ xup2.out x e)
  clear xup2
  have hz01 : z0 ≤ z1 := hz1 ▸ hZ.out
  have hzb1 := Lib.hid (show zb + 1 ≤ z1 from hz1 ▸ hZb.out)
  have hY := Lib.hid (show z1 ≤ w1.heap.size from Nat.le_of_eq hz1.symm)
  clear hz1
  obtain ⟨q0, q1, q2, q3, -⟩ := MapS.Blk.four hXm.out
  go_wp2_with fail
  refine (HI.out _ _ _ _ _ _ _ _ _ (IntK.Own.row xXMA.out) (IntK.Own.row xXMC.out) (CtK.Own.le xX1.out) (CtK.Own.row xX1.out) (IntK.Own.le xX2.out) (IntK.Own.row xX2.out)).mono ?_
  rintro e w1 ⟨v0, rfl, ho0, hb⟩
  obtain ⟨ga0, gc0, rfl, -, gl0⟩ := IntK.Own.slice ho0
  have glo0 := Lib.hid (show ∀ x, ga0 = some x → z1 ≤ x.block from fun x e => Nat.le_trans hY.out (gl0 x e).1)
  replace hB := Lib.hid (hB.out.trans (hb.mono hB.out.size))
  replace hK0 := Lib.hid (hK0.out.later hb)
  replace wW0 := Lib.hid (IntK.Row.later wW0.out hb)
  replace hZ := Lib.hid (Nat.le_trans hZ.out hb.size)
  replace xXMA := Lib.hid (IntK.Own.below xXMA.out hb)
  replace xXMC := Lib.hid (IntK.Own.below xXMC.out hb)
  replace hXm := Lib.hid (hXm.out.later hb)
  replace hZb := Lib.hid (Nat.le_trans hZb.out hb.size)
  replace xX1 := Lib.hid (CtK.Own.below xX1.out hb)
  replace xX2 := Lib.hid (IntK.Own.below xX2.out hb)
  replace hY := Lib.hid (Nat.le_trans hY.out hb.size)
  have gX0 := Lib.hid ho0
  clear ho0 gl0
  clear hb
  clear q0 q1 q2 q3
  go_wp2_with fail
  refine (IntK.eqS_same _ _ _ _ u0 _ (IntK.Own.row gX0.out) wW0.out hum0).mono ?_
  rintro e w1 ⟨rfl, hb⟩
  replace hB := Lib.hid (hB.out.trans (hb.mono hB.out.size))
  replace hK0 := Lib.hid (hK0.out.later hb)
  replace wW0 := Lib.hid (IntK.Row.later wW0.out hb)
  replace hZ := Lib.hid (Nat.le_trans hZ.out hb.size)
  replace xXMA := Lib.hid (IntK.Own.below xXMA.out hb)
  replace xXMC := Lib.hid (IntK.Own.below xXMC.out hb)
  replace hXm := Lib.hid (hXm.out.later hb)
  replace hZb := Lib.hid (Nat.le_trans hZb.out hb.size)
  replace xX1 := Lib.hid (CtK.Own.below xX1.out hb)
  replace xX2 := Lib.hid (IntK.Own.below xX2.out hb)
  replace hY := Lib.hid (Nat.le_trans hY.out hb.size)
  replace gX0 := Lib.hid (IntK.Own.below gX0.out hb)
  clear hb
  go_wp2_with fail
  replace hB := Lib.hid (show Below W.heap.size W (World.drew _) from hB.out.drew)
  replace hK0 := Lib.hid (hK0.out.drew)
  replace wW0 := Lib.hid (IntK.Row.drew wW0.out)
  replace xXMA := Lib.hid (IntK.Own.drew xXMA.out)
  replace xXMC := Lib.hid (IntK.Own.drew xXMC.out)
  replace hXm := Lib.hid (hXm.out.drew)
  replace xX1 := Lib.hid (CtK.Own.drew xX1.out)
  replace xX2 := Lib.hid (IntK.Own.drew xX2.out)
  replace gX0 := Lib.hid (IntK.Own.drew gX0.out)
  obtain ⟨p0, p1, p2, p3, -⟩ := MapS.Blk.four hK0.out
  obtain ⟨q0, q1, q2, q3, -⟩ := MapS.Blk.four hXm.out
  go_region_held3 (fun Wx : World => (Wx.cell? ⟨W.heap.size, 0, none⟩ = some (.int .i64 m.W) ∧ Wx.cell? ⟨W.heap.size, 1, none⟩ = some (.int .i64 m.H) ∧ Wx.cell? ⟨W.heap.size, 2, none⟩ = some (.slice a m.R.length ca) ∧ Wx.cell? ⟨W.heap.size, 3, none⟩ = some (.slice b m.C.length cb)) ∧ (Wx.cell? ⟨zb, 0, none⟩ = some (.int .i64 m.W) ∧ Wx.cell? ⟨zb, 1, none⟩ = some (.int .i64 m.H) ∧ Wx.cell? ⟨zb, 2, none⟩ = some (.slice xma m.R.length xmca) ∧ Wx.cell? ⟨zb, 3, none⟩ = some (.slice xmb m.C.length xmcb))) ((first | with_reducible exact ⟨⟨p0, p1, p2, p3⟩, ⟨q0, q1, q2, q3⟩⟩ | with_reducible exact ⟨MpA.f4 hK0.out, MpA.f4 hXm.out⟩)) (first
      | (go_at_call 34; refine (MapS.to_any m a b ca cb _ (RowAt.below hMR.out hB.out) (RowAt.below hMC.out hB.out) hsm).mono ?_; rintro e w2 ⟨⟨v, rfl, ho⟩, hb⟩; replace hB := Lib.hid (hB.out.trans (hb.mono hB.out.size)); replace hK0 := Lib.hid (hK0.out.later hb); replace wW0 := Lib.hid (IntK.Row.later wW0.out hb); replace hZ := Lib.hid (Nat.le_trans hZ.out hb.size); replace xXMA := Lib.hid (IntK.Own.below xXMA.out hb); replace xXMC := Lib.hid (IntK.Own.below xXMC.out hb); replace hXm := Lib.hid (hXm.out.later hb); replace hZb := Lib.hid (Nat.le_trans hZb.out hb.size); replace xX1 := Lib.hid (CtK.Own.below xX1.out hb); replace xX2 := Lib.hid (IntK.Own.below xX2.out hb); replace hY := Lib.hid (Nat.le_trans hY.out hb.size); replace gX0 := Lib.hid (IntK.Own.below gX0.out hb); obtain ⟨ya, yca, yb, ycb, rfl, yo, yp, -⟩ := ho; have yA := Lib.hid (IntK.Own.row yo); have yC := Lib.hid (IntK.Own.row yp); clear yo yp hb)
      | (go_at_call 37; refine (MapS.eq_same m _ _ _ _ _ _ _ _ _ (IntK.Own.row xXMA.out) (IntK.Own.row xXMC.out) yA.out yC.out lMR.out lMC.out).mono ?_; rintro e w2 ⟨rfl, hb⟩; replace hB := Lib.hid (hB.out.trans (hb.mono hB.out.size)); replace hK0 := Lib.hid (hK0.out.later hb); replace wW0 := Lib.hid (IntK.Row.later wW0.out hb); replace hZ := Lib.hid (Nat.le_trans hZ.out hb.size); replace xXMA := Lib.hid (IntK.Own.below xXMA.out hb); replace xXMC := Lib.hid (IntK.Own.below xXMC.out hb); replace hXm := Lib.hid (hXm.out.later hb); replace hZb := Lib.hid (Nat.le_trans hZb.out hb.size); replace xX1 := Lib.hid (CtK.Own.below xX1.out hb); replace xX2 := Lib.hid (IntK.Own.below xX2.out hb); replace hY := Lib.hid (Nat.le_trans hY.out hb.size); replace gX0 := Lib.hid (IntK.Own.below gX0.out hb); clear hb yA yC))
  clear p0 p1 p2 p3 q0 q1 q2 q3
  go_wp2_with fail
  refine (CtK.toS_any a1 cap1 rs1 _ (CtK.Row.later hR1.out hB.out) hn1).mono ?_
  rintro e w1 ⟨v, rfl, ho, hb⟩
  obtain ⟨ya, yc, rfl, hyr, -⟩ := CtK.Own.slice ho
  replace hB := Lib.hid (hB.out.trans (hb.mono hB.out.size))
  replace hK0 := Lib.hid (hK0.out.later hb)
  replace wW0 := Lib.hid (IntK.Row.later wW0.out hb)
  replace hZ := Lib.hid (Nat.le_trans hZ.out hb.size)
  replace xXMA := Lib.hid (IntK.Own.below xXMA.out hb)
  replace xXMC := Lib.hid (IntK.Own.below xXMC.out hb)
  replace hXm := Lib.hid (hXm.out.later hb)
  replace hZb := Lib.hid (Nat.le_trans hZb.out hb.size)
  replace xX1 := Lib.hid (CtK.Own.below xX1.out hb)
  replace xX2 := Lib.hid (IntK.Own.below xX2.out hb)
  replace hY := Lib.hid (Nat.le_trans hY.out hb.size)
  replace gX0 := Lib.hid (IntK.Own.below gX0.out hb)
  clear ho hb
  go_wp2_with fail
  refine (CtK.eqS_same _ _ _ _ rs1 _ (CtK.Own.row xX1.out) hyr (by unfold maxLen; omega)).mono ?_
  rintro e w1 ⟨rfl, hb⟩
  replace hB := Lib.hid (hB.out.trans (hb.mono hB.out.size))
  replace hK0 := Lib.hid (hK0.out.later hb)
  replace wW0 := Lib.hid (IntK.Row.later wW0.out hb)
  replace hZ := Lib.hid (Nat.le_trans hZ.out hb.size)
  replace xXMA := Lib.hid (IntK.Own.below xXMA.out hb)
  replace xXMC := Lib.hid (IntK.Own.below xXMC.out hb)
  replace hXm := Lib.hid (hXm.out.later hb)
  replace hZb := Lib.hid (Nat.le_trans hZb.out hb.size)
  replace xX1 := Lib.hid (CtK.Own.below xX1.out hb)
  replace xX2 := Lib.hid (IntK.Own.below xX2.out hb)
  replace hY := Lib.hid (Nat.le_trans hY.out hb.size)
  replace gX0 := Lib.hid (IntK.Own.below gX0.out hb)
  clear hb hyr
  go_wp2_with fail
  refine (IntK.toS_any a2 cap2 rs2 _ (IntK.Row.later hR2.out hB.out) hn2).mono ?_
  rintro e w1 ⟨v, rfl, ho, hb⟩
  obtain ⟨ya, yc, rfl, hyr, -⟩ := IntK.Own.slice ho
  replace hB := Lib.hid (hB.out.trans (hb.mono hB.out.size))
  replace hK0 := Lib.hid (hK0.out.later hb)
  replace wW0 := Lib.hid (IntK.Row.later wW0.out hb)
  replace hZ := Lib.hid (Nat.le_trans hZ.out hb.size)
  replace xXMA := Lib.hid (IntK.Own.below xXMA.out hb)
  replace xXMC := Lib.hid (IntK.Own.below xXMC.out hb)
  replace hXm := Lib.hid (hXm.out.later hb)
  replace hZb := Lib.hid (Nat.le_trans hZb.out hb.size)
  replace xX1 := Lib.hid (CtK.Own.below xX1.out hb)
  replace xX2 := Lib.hid (IntK.Own.below xX2.out hb)
  replace hY := Lib.hid (Nat.le_trans hY.out hb.size)
  replace gX0 := Lib.hid (IntK.Own.below gX0.out hb)
  clear ho hb
  go_wp2_with fail
  refine (IntK.eqS_same _ _ _ _ rs2 _ (IntK.Own.row xX2.out) hyr (by unfold maxLen; omega)).mono ?_
  rintro e w1 ⟨rfl, hb⟩
  replace hB := Lib.hid (hB.out.trans (hb.mono hB.out.size))
  replace hK0 := Lib.hid (hK0.out.later hb)
  replace wW0 := Lib.hid (IntK.Row.later wW0.out hb)
  replace hZ := Lib.hid (Nat.le_trans hZ.out hb.size)
  replace xXMA := Lib.hid (IntK.Own.below xXMA.out hb)
  replace xXMC := Lib.hid (IntK.Own.below xXMC.out hb)
  replace hXm := Lib.hid (hXm.out.later hb)
  replace hZb := Lib.hid (Nat.le_trans hZb.out hb.size)
  replace xX1 := Lib.hid (CtK.Own.below xX1.out hb)
  replace xX2 := Lib.hid (IntK.Own.below xX2.out hb)
  replace hY := Lib.hid (Nat.le_trans hY.out hb.size)
  replace gX0 := Lib.hid (IntK.Own.below gX0.out hb)
  clear hb hyr
  obtain ⟨q0, q1, q2, q3, -⟩ := MapS.Blk.four hXm.out
  obtain ⟨mM, hmM⟩ : ∃ k : Nat, 1 + m.R.length + m.C.length = k := ⟨_, rfl⟩
  have hmMe : (1 + (m.R.length : Int) + (m.C.length : Int)) = (mM : Int) := by omega
  have hneg : decide ((mM : Int) < 0) = false := pos_cast _
  replace hmMe := Lib.hid hmMe
  replace hmM := Lib.hid (show 1 ≤ mM ∧ mM ≤ 1048577 from by omega)
  go_wp2_with fail
  refine (MapS.mark_any m xma xmb xmca xmcb z0 zb _ W xXMA.out xXMC.out xNM.out xloMA.out xloMC.out hsm hZ.out).mono ?_
  rw [hmMe.out]
  rintro e w1 ⟨rfl, -, -, hc⟩
  clear q0 q1 q2 q3
  have hmb := hmM.out.1
  have hmc9 := hmM.out.2
  clear xXMA xXMC
  replace hB := Lib.hid (hB.out.trans ((hc.below hZ.out).mono hWz.out))
  replace hK0 := Lib.hid (show Blk _ _ _ _ from (hc.block _ hK0.out.lt (.inl hKz0.out)).trans hK0.out)
  replace wW0 := Lib.hid (IntK.Row.chg hc wW0.out (fun x e => .inl (hhi0.out x e)))
  replace hZ := Lib.hid (Nat.le_trans hZ.out hc.size)
  replace hXm := Lib.hid (show Blk _ _ _ _ from (hc.block zb hXm.out.lt (.inr (Nat.le_refl _))).trans hXm.out)
  replace hZb := Lib.hid (Nat.le_trans hZb.out hc.size)
  replace xX1 := Lib.hid (CtK.Own.chg hc xX1.out (fun x e => .inr (by have h1 := xlb1.out x e; omega)))
  replace xX2 := Lib.hid (IntK.Own.chg hc xX2.out (fun x e => .inr (by have h1 := xlb2.out x e; omega)))
  replace hY := Lib.hid (Nat.le_trans hY.out hc.size)
  replace gX0 := Lib.hid (IntK.Own.chg hc gX0.out (fun x e => .inr (by have h1 := glo0.out x e; have h2 := hzb1.out; omega)))
  clear hc
  clear hXm
  obtain ⟨mx1, hmx1⟩ : ∃ m : Nat, mM + 2 * rs1.length = m := ⟨_, rfl⟩
  have hmc := Lib.hid (fun (w : World) (base : Nat) h => hmx1 ▸ CtK.markS_any base xa1 xc1 rs1 mM w h (by omega) (by omega))
  have hneg : decide ((mx1 : Int) < 0) = false := pos_cast _
  have hm1_1 : 1 ≤ mM := by omega
  have hmlo1 : 1 ≤ mx1 ∧ mx1 ≤ 3145729 := by omega
  replace hmx1 := Lib.hid hmx1
  go_wp2_with fail
  refine (hmc.out _ _ xX1.out).mono ?_
  rintro e w1 ⟨rfl, -, hg⟩
  clear xX1 hmc
  have hgs := hg.size
  replace hB := Lib.hid (below_grown hB.out hg hB.out.size (fun x e => by have h1 := xlo1.out x e; have h2 := hWz.out; omega))
  replace hK0 := Lib.hid (blk_grown hK0.out hg (fun x e => by have h1 := xlo1.out x e; have h2 := hKz0.out; omega))
  replace wW0 := Lib.hid (IntK.Row.beside wW0.out hg (ne_block (fun x y hx hy => by have h1 := hhi0.out x hx; have h2 := xlo1.out y hy; omega)))
  replace hZ := Lib.hid (Nat.le_trans hZ.out hgs)
  replace hZb := Lib.hid (Nat.le_trans hZb.out hgs)
  replace xX2 := Lib.hid (show IntK.Own _ _ _ _ from World.ownsRow.kept xX2.out hg (ne_own (fun x y hx hy => by exact (fun e => xne2_1.out x y hx hy e))))
  replace hY := Lib.hid (Nat.le_trans hY.out hgs)
  replace gX0 := Lib.hid (show IntK.Own _ _ _ _ from World.ownsRow.kept gX0.out hg (ne_own (fun x y hx hy => by have h1 := glo0.out x hx; have h2 := xhi1.out y hy; omega)))
  clear hg hgs
  obtain ⟨mx2, hmx2⟩ : ∃ m : Nat, mx1 + 1 * rs2.length = m := ⟨_, rfl⟩
  have hmc := Lib.hid (fun (w : World) (base : Nat) h => hmx2 ▸ IntK.markS_any base xa2 xc2 rs2 mx1 w h (by omega) (by omega))
  have hneg : decide ((mx2 : Int) < 0) = false := pos_cast _
  have hm1_2 : 1 ≤ mx1 := by omega
  have hmlo2 : 1 ≤ mx2 ∧ mx2 ≤ 4194305 := by omega
  replace hmx2 := Lib.hid hmx2
  go_wp2_with fail
  refine (hmc.out _ _ xX2.out).mono ?_
  rintro e w1 ⟨rfl, -, hg⟩
  clear xX2 hmc
  have hgs := hg.size
  replace hB := Lib.hid (below_grown hB.out hg hB.out.size (fun x e => by have h1 := xlo2.out x e; have h2 := hWz.out; omega))
  replace hK0 := Lib.hid (blk_grown hK0.out hg (fun x e => by have h1 := xlo2.out x e; have h2 := hKz0.out; omega))
  replace wW0 := Lib.hid (IntK.Row.beside wW0.out hg (ne_block (fun x y hx hy => by have h1 := hhi0.out x hx; have h2 := xlo2.out y hy; omega)))
  replace hZ := Lib.hid (Nat.le_trans hZ.out hgs)
  replace hZb := Lib.hid (Nat.le_trans hZb.out hgs)
  replace hY := Lib.hid (Nat.le_trans hY.out hgs)
  replace gX0 := Lib.hid (show IntK.Own _ _ _ _ from World.ownsRow.kept gX0.out hg (ne_own (fun x y hx hy => by have h1 := glo0.out x hx; have h2 := xhi2.out y hy; omega)))
  clear hg hgs
  go_wp2_with fail
  refine (IntK.eqS_same _ _ _ _ u0 _ (IntK.Own.row gX0.out) wW0.out hum0).mono ?_
  rintro e w1 ⟨rfl, hb⟩
  replace hB := Lib.hid (hB.out.trans (hb.mono hB.out.size))
  replace hK0 := Lib.hid (hK0.out.later hb)
  replace wW0 := Lib.hid (IntK.Row.later wW0.out hb)
  replace hZ := Lib.hid (Nat.le_trans hZ.out hb.size)
  replace hZb := Lib.hid (Nat.le_trans hZb.out hb.size)
  replace hY := Lib.hid (Nat.le_trans hY.out hb.size)
  replace gX0 := Lib.hid (IntK.Own.below gX0.out hb)
  clear hb
  obtain ⟨mg0, hmg0⟩ : ∃ m : Nat, 1 + 1 * u0.length = m := ⟨_, rfl⟩
  have hmc := Lib.hid (fun (w : World) (base : Nat) h => hmg0 ▸ IntK.markS_any base ga0 gc0 u0 1 w h (by omega) (by omega))
  have hneg : decide ((mg0 : Int) < 0) = false := pos_cast _
  have hhc0 := Lib.hid (fun w h => hmg0 ▸ IntK.heldS_any ga0 gc0 u0.length 1 w h (by omega) (by omega))
  replace hmg0 := Lib.hid hmg0
  go_wp2_with fail
  refine (hmc.out _ _ gX0.out).mono ?_
  rintro e w1 ⟨rfl, hmo, hg⟩
  clear gX0 hmc
  have glz0 := Lib.hid (show ∀ x, ga0 = some x → z0 ≤ x.block from fun x e => Nat.le_trans hz01 (glo0.out x e))
  have hgs := hg.size
  replace hB := Lib.hid (below_grown hB.out hg hB.out.size (fun x e => by have h1 := glz0.out x e; have h2 := hWz.out; omega))
  replace hK0 := Lib.hid (blk_grown hK0.out hg (fun x e => by have h1 := glz0.out x e; have h2 := hKz0.out; omega))
  replace wW0 := Lib.hid (IntK.Row.beside wW0.out hg (ne_block (fun x y hx hy => by have h1 := hhi0.out x hx; have h2 := glz0.out y hy; omega)))
  replace hZ := Lib.hid (Nat.le_trans hZ.out hgs)
  replace hZb := Lib.hid (Nat.le_trans hZb.out hgs)
  replace hY := Lib.hid (Nat.le_trans hY.out hgs)
  clear hg hgs
  have gM0 := Lib.hid (show IntK.Row _ ga0 (IntK.mkL 1 u0.length) from by
    have h := hmo
    obtain ⟨a', c', e, hr, -⟩ := IntK.Own.slice h
    rw [(Value.slice.inj e).1]
    exact hr)
  clear hmo
  go_wp2_with fail
  refine (hhc0.out _ gM0.out).mono ?_
  rintro e w1 ⟨rfl, hb⟩
  replace hB := Lib.hid (hB.out.trans (hb.mono hB.out.size))
  replace hK0 := Lib.hid (hK0.out.later hb)
  replace wW0 := Lib.hid (IntK.Row.later wW0.out hb)
  replace hZ := Lib.hid (Nat.le_trans hZ.out hb.size)
  replace hZb := Lib.hid (Nat.le_trans hZb.out hb.size)
  replace hY := Lib.hid (Nat.le_trans hY.out hb.size)
  replace gM0 := Lib.hid (IntK.Row.later gM0.out hb)
  clear hb
  obtain ⟨p0, p1, p2, p3, -⟩ := MapS.Blk.four hK0.out
  go_wp2_with fail
  refine (MapS.to_any m a b ca cb _ (RowAt.below hMR.out hB.out) (RowAt.below hMC.out hB.out) hsm).mono ?_
  rintro e w1 ⟨⟨v, rfl, ho⟩, hb⟩
  replace hB := Lib.hid (hB.out.trans (hb.mono hB.out.size))
  replace hK0 := Lib.hid (hK0.out.later hb)
  replace wW0 := Lib.hid (IntK.Row.later wW0.out hb)
  replace hZ := Lib.hid (Nat.le_trans hZ.out hb.size)
  replace hZb := Lib.hid (Nat.le_trans hZb.out hb.size)
  replace hY := Lib.hid (Nat.le_trans hY.out hb.size)
  replace gM0 := Lib.hid (IntK.Row.later gM0.out hb)
  obtain ⟨hma, hmca, hmb, hmcb, rfl, hoa, hob, hon⟩ := ho
  have hXMA := Lib.hid (show IntK.Own _ _ _ _ from hoa)
  have hXMC := Lib.hid (show IntK.Own _ _ _ _ from hob)
  clear hoa hob hon hb
  clear p0 p1 p2 p3
  go_wp2_with fail
  refine (CtK.toS_any a1 cap1 rs1 _ (CtK.Row.later hR1.out hB.out) hn1).mono ?_
  rintro e w1 ⟨v, rfl, ho, hb⟩
  replace hB := Lib.hid (hB.out.trans (hb.mono hB.out.size))
  replace hK0 := Lib.hid (hK0.out.later hb)
  replace wW0 := Lib.hid (IntK.Row.later wW0.out hb)
  replace hZ := Lib.hid (Nat.le_trans hZ.out hb.size)
  replace hZb := Lib.hid (Nat.le_trans hZb.out hb.size)
  replace hY := Lib.hid (Nat.le_trans hY.out hb.size)
  replace gM0 := Lib.hid (IntK.Row.later gM0.out hb)
  replace hXMA := Lib.hid (IntK.Own.below hXMA.out hb)
  replace hXMC := Lib.hid (IntK.Own.below hXMC.out hb)
  obtain ⟨ha1, hc1, rfl, -, hl1⟩ := CtK.Own.slice ho
  have hX1 := Lib.hid ho
  clear ho hb
  go_wp2_with fail
  refine (IntK.toS_any a2 cap2 rs2 _ (IntK.Row.later hR2.out hB.out) hn2).mono ?_
  rintro e w1 ⟨v, rfl, ho, hb⟩
  replace hB := Lib.hid (hB.out.trans (hb.mono hB.out.size))
  replace hK0 := Lib.hid (hK0.out.later hb)
  replace wW0 := Lib.hid (IntK.Row.later wW0.out hb)
  replace hZ := Lib.hid (Nat.le_trans hZ.out hb.size)
  replace hZb := Lib.hid (Nat.le_trans hZb.out hb.size)
  replace hY := Lib.hid (Nat.le_trans hY.out hb.size)
  replace gM0 := Lib.hid (IntK.Row.later gM0.out hb)
  replace hXMA := Lib.hid (IntK.Own.below hXMA.out hb)
  replace hXMC := Lib.hid (IntK.Own.below hXMC.out hb)
  replace hX1 := Lib.hid (CtK.Own.below hX1.out hb)
  obtain ⟨ha2, hc2, rfl, -, hl2⟩ := IntK.Own.slice ho
  have hX2 := Lib.hid ho
  clear ho hb
  go_wp2_with fail
  refine (HI.out _ _ _ _ _ _ _ _ _ (IntK.Own.row hXMA.out) (IntK.Own.row hXMC.out) (CtK.Own.le hX1.out) (CtK.Own.row hX1.out) (IntK.Own.le hX2.out) (IntK.Own.row hX2.out)).mono ?_
  rintro e w1 ⟨v0, rfl, ho0, hb⟩
  replace hB := Lib.hid (hB.out.trans (hb.mono hB.out.size))
  replace hK0 := Lib.hid (hK0.out.later hb)
  replace wW0 := Lib.hid (IntK.Row.later wW0.out hb)
  replace hZ := Lib.hid (Nat.le_trans hZ.out hb.size)
  replace hZb := Lib.hid (Nat.le_trans hZb.out hb.size)
  replace hY := Lib.hid (Nat.le_trans hY.out hb.size)
  replace gM0 := Lib.hid (IntK.Row.later gM0.out hb)
  replace hXMA := Lib.hid (IntK.Own.below hXMA.out hb)
  replace hXMC := Lib.hid (IntK.Own.below hXMC.out hb)
  replace hX1 := Lib.hid (CtK.Own.below hX1.out hb)
  replace hX2 := Lib.hid (IntK.Own.below hX2.out hb)
  obtain ⟨ha0, hc0, rfl, hr0, hl0⟩ := IntK.Own.slice ho0
  have hX0 := Lib.hid ho0
  clear ho0 hr0
  clear hb
  go_wp2_with fail
  refine (IntK.eqS_same _ _ _ _ u0 _ (IntK.Own.row hX0.out) wW0.out hum0).mono ?_
  rintro e w1 ⟨rfl, hb⟩
  replace hB := Lib.hid (hB.out.trans (hb.mono hB.out.size))
  replace hK0 := Lib.hid (hK0.out.later hb)
  replace wW0 := Lib.hid (IntK.Row.later wW0.out hb)
  replace hZ := Lib.hid (Nat.le_trans hZ.out hb.size)
  replace hZb := Lib.hid (Nat.le_trans hZb.out hb.size)
  replace hY := Lib.hid (Nat.le_trans hY.out hb.size)
  replace gM0 := Lib.hid (IntK.Row.later gM0.out hb)
  replace hXMA := Lib.hid (IntK.Own.below hXMA.out hb)
  replace hXMC := Lib.hid (IntK.Own.below hXMC.out hb)
  replace hX0 := Lib.hid (IntK.Own.below hX0.out hb)
  clear hb
  go_wp2_with fail
  refine (hhc0.out _ gM0.out).mono ?_
  rintro e w1 ⟨rfl, hb⟩
  replace hB := Lib.hid (hB.out.trans (hb.mono hB.out.size))
  replace hK0 := Lib.hid (hK0.out.later hb)
  replace wW0 := Lib.hid (IntK.Row.later wW0.out hb)
  replace hZ := Lib.hid (Nat.le_trans hZ.out hb.size)
  replace hZb := Lib.hid (Nat.le_trans hZb.out hb.size)
  replace hY := Lib.hid (Nat.le_trans hY.out hb.size)
  replace gM0 := Lib.hid (IntK.Row.later gM0.out hb)
  replace hXMA := Lib.hid (IntK.Own.below hXMA.out hb)
  replace hXMC := Lib.hid (IntK.Own.below hXMC.out hb)
  replace hX0 := Lib.hid (IntK.Own.below hX0.out hb)
  clear hb
  go_wp2
  go_ret
  exact ⟨rfl, hB.out⟩

end Go.Proofs.Ytdfmfmndmldggaa.BorL

namespace Go.Proofs.Ytdfmfmndmldggaa.fnExactBestOrderFr
open Go.ChangeShapes Go.WideShapes Go.ChangeAt Go.RowKit
open Go.ChangeMaps (open_string shut_string)
set_option linter.unusedVariables false

theorem own : ownKnob Try.prog.godebug = none := by kernel_rfl
theorem laidOut : laidOutB Try.prog = true := by kernel_rfl

set_option maxRecDepth 100000 in
theorem lifted (os : Os) (started : os.Started) (H : Type) (enc : TypeId × Value → H) :
    ReturnsInHanded {} Try.checked os 10 .any (Rows.fnExactBestOrderSpec.pre6 enc Try.prog Try.f10 Rows.fnExactBestOrderRow.domain false) (Rows.fnExactBestOrderSpec.post enc Try.prog Try.f10 false true false false) := by
  refine returnsInHanded_of_change (C := Try.checked) own started (by kernel_rfl) Try.func10
    (ChangeSpec.witness6 (enc := enc) (C := Try.checked) false ⟨#[], #[.agg #[.int .i64 0, .int .i64 0, .slice none 0 0, .slice none 0 0], .slice none 0 0, .slice none 0 0], []⟩ 8 (by kernel_rfl) (by kernel_rfl) (by kernel_rfl) (by kernel_rfl)) ?_
  intro W base args ds gs before hval0 hW hcnd _
  have hval : ∀ (j : Nat) t v, Try.f10.params[j]? = some t → args[j]? = some v → Value.okWide Try.prog W .any base t v := hval0
  have hW' := hW
  obtain ⟨p, q, hA0, hV, rfl, hfz, hnd⟩ := hW
  have hA : DataW.TrodAll enc Try.prog W 0 (fun _ => true) true Try.f10.params.toList args.toList ds p := hA0
  rw [Try.params10] at hA hval
  obtain ⟨v0, vs0, d0, ds0, p0, q0, hargs, rfl, rfl, h0, r0⟩ := trodAll_cons hA
  obtain ⟨v1, vs1, d1, ds1, p1, q1, rfl, rfl, rfl, h1, r1⟩ := trodAll_cons r0
  obtain ⟨v2, vs2, d2, ds2, p2, q2, rfl, rfl, rfl, h2, r2⟩ := trodAll_cons r1
  obtain ⟨rfl, rfl, rfl⟩ := trodAll_nil r2
  obtain rfl : args = #[v0, v1, v2] := by cases args; simp_all
  obtain ⟨rfl, rfl⟩ := trodVars_none hV
  have k0 := h0
  have lt0 : ∀ x ∈ p0, x.block < W.heap.size := by obtain ⟨m, hm⟩ := k0; exact DataW.trod_lt m _ _ _ hm
  obtain ⟨x0_0, x0_1, x0_2, x0_3, x0_4, rfl, w0⟩ := (MapO.open_map Try.underlying38 (by kernel_rfl) (by kernel_rfl) Try.underlying3 Try.underlying3 Try.underlying24 Try.underlying24 Try.underlying3 (by kernel_rfl)) (hval 0 38 v0 rfl rfl) h0
  have k1 := h1
  have lt1 : ∀ x ∈ p1, x.block < W.heap.size := by obtain ⟨m, hm⟩ := k1; exact DataW.trod_lt m _ _ _ hm
  obtain ⟨x1_0, x1_1, x1_2, rfl, w1⟩ := (CtK.open_list Try.underlying39 Try.underlying72 (by kernel_rfl) (by kernel_rfl) Try.underlying3 Try.underlying3) (hval 1 39 v1 rfl rfl) h1
  have k2 := h2
  have lt2 : ∀ x ∈ p2, x.block < W.heap.size := by obtain ⟨m, hm⟩ := k2; exact DataW.trod_lt m _ _ _ hm
  obtain ⟨x2_0, x2_1, x2_2, rfl, w2⟩ := (LisO.open_list Try.underlying24 Try.underlying3 (by kernel_rfl)) (hval 2 24 v2 rfl rfl) h2
  clear hA0 hval0
  refine (BorL.law_any W x0_0 x0_1 x0_2 x0_3 x0_4 w0 x1_0 x1_1 x1_2 w1 x2_0 x2_1 x2_2 w2).mono fun e W' ⟨he, bel⟩ => ?_
  subst he
  exact ⟨_, rfl, _, _, _, [], _, [], hW', trodAll_mk1 (shut_bool Try.underlying4 _), (trodAll_cons_mk (Below.trod laidOut (by kernel_rfl) (of_decide_eq_true (by kernel_rfl)) k0 bel lt0) (trodAll_cons_mk (Below.trod laidOut (by kernel_rfl) (of_decide_eq_true (by kernel_rfl)) k1 bel lt1) (trodAll_cons_mk (Below.trod laidOut (by kernel_rfl) (of_decide_eq_true (by kernel_rfl)) k2 bel lt2) trodAll_mk0))), rfl, bel.frame _, fun h => by cases h⟩

theorem over : Rows.fnExactBestOrderRow.holds Try.pinned (OpenSpec.ofChange Rows.fnExactBestOrderSpec) :=
  OpenClaim.holds_of_wide 10 Try.f10 rfl rfl rfl rfl rfl rfl rfl ⟨rfl, rfl, rfl, rfl, rfl⟩ rfl rfl rfl rfl rfl (by kernel_rfl) Try.func10 (by kernel_rfl)
    (of_decide_eq_true (by kernel_rfl)) (by unfold Func.isWrapper; first | (rw [if_pos (by decide +kernel)]; kernel_rfl) | (rw [if_neg (by decide +kernel)]; exact ⟨rfl, rfl⟩))
    (fun os started H enc _ => lifted os started H enc)

theorem proved : Rows.FnExactBestOrderSaid := over
end Go.Proofs.Ytdfmfmndmldggaa.fnExactBestOrderFr
