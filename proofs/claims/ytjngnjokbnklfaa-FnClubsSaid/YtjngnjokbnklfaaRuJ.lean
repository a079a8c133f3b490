/- ClubMembers: the program's text; both. -/
import Derived.Test.YtjngnjokbnklfaaRuH
namespace Go.Proofs.Ytjngnjokbnklfaa.RuJ
open Go.RowKit Lb Bk InA Wd RuK RuI RuU RuA RuG RuC RuD RuE RuH
open IntK (Gr)
open IntS (OwnI iInfo)
set_option linter.unusedSimpArgs false
set_option linter.unusedVariables false

set_option maxRecDepth 20000 in
set_option maxHeartbeats 4000000 in
theorem impl_any (rs : List Ru) (hf : ∀ i, i < rs.length → Is (at_ rs i)) (hl : rs.length ≤ 1048576) (c : ByteArray) (a : Option Addr) (cap : Nat) (w : World) (hc : rs.length ≤ cap) (hr : Row w a rs) :
    Calls Try.prog 46 #[.slice a rs.length cap, .string c] w (NPost w (cmL rs c) (goodB rs)) := by
  have H := Lib.hid hr
  have HB := Lib.hid ((Below.refl w.heap.size w).alloc (Nat.le_refl _) (.cells #[.string c] 9))
  have HK1 := Lib.hid (Blk.new w 9 #[.string c])
  have hml : rs.length ≤ maxLen := by unfold maxLen; omega
  obtain ⟨g, hg⟩ : ∃ g, goodB rs = g := ⟨_, rfl⟩
  have c1 := Lib.hid (fun w hr => hg ▸ RuA.impl_any a cap rs w hc hr hf hml)
  have HG := Lib.hid hg
  obtain ⟨zs, hzs⟩ : ∃ zs, cmL rs c = zs := ⟨_, rfl⟩
  have HZ := Lib.hid hzs
  rw [hg, hzs]
  clear hr hg hzs hf
  go_enter Try.func46, Try.ntmps46
  go_wp2_with fail
  refine (c1.out _ (H.out.later ((Below.refl w.heap.size w).alloc (Nat.le_refl _) _))).mono ?_
  rintro e w1 ⟨rfl, hb⟩
  have HB1 := Lib.hid (HB.out.trans (hb.mono HB.out.size))
  have HK11 := Lib.hid (HK1.out.later hb)
  clear hb HB HK1
  have p0 : w1.cell? ⟨w.heap.size, 0, none⟩ = some (.string c) := HK11.out.cell 0 rfl
  have hsz := HB1.out.size
  cases g with
  | false =>
    have h2 : zs = [] := by rw [← HZ.out]; unfold cmL; rw [HG.out]; rfl
    subst h2
    go_wp2
    go_ret2
    exact ⟨_, rfl, own_none w1 w.heap.size hsz, HB1.out.alloc hsz _⟩
  | true =>
    have h2 : idsL (ofB c) rs = zs := by rw [← HZ.out]; unfold cmL memL; rw [HG.out]; rfl
    have c3 := Lib.hid (ids_any 99 #[.pointer (some ⟨w.heap.size, 0, none⟩)] (ofB c) (fun _ => True) w1 (fun args w => enter_of Try.func99 (by kernel_rfl) rfl args w)
      (fun r _ w' hbw => of_any r c w.heap.size w' ((hbw.cell (World.block_lt_of_cell? w1 _ p0)).trans p0))
      a cap rs (H.out.later HB1.out) (fun _ _ => trivial) hl)
    rw [h2] at c3
    clear h2
    go_wp2_with fail
    refine c3.out.mono ?_
    rintro e w3 ⟨v, rfl, ho, hb⟩
    have HO3 := Lib.hid ho
    have HB3 := Lib.hid (HB1.out.trans (hb.mono hsz))
    clear ho hb
    go_wp2
    go_ret2
    exact ⟨_, rfl, IntS.rebase HO3.out hsz, HB3.out⟩

theorem both (rs : List Ru) (hf : ∀ i, i < rs.length → Is (at_ rs i)) (hl : rs.length ≤ 1048576) (c : ByteArray) (_ : c.size ≤ 1048576) : ∃ (zs : List Int) (ok : Bool), zs.length ≤ 1048576 ∧
    (∀ a cap w, rs.length ≤ cap → Row w a rs → Calls Try.prog 49 #[.slice a rs.length cap, .string c] w fun e w' => ∃ v, e = .returned (.tuple #[v, .bool ok]) ∧ IntK.Own w' w.heap.size v zs ∧ Below w.heap.size w w') ∧
    (∀ a cap w, rs.length ≤ cap → Row w a rs → Calls Try.prog 46 #[.slice a rs.length cap, .string c] w fun e w' => ∃ v, e = .returned (.tuple #[v, .bool ok]) ∧ IntK.Own w' w.heap.size v zs ∧ Below w.heap.size w w') :=
  ⟨cmL rs c, goodB rs, by have := cm_len rs c; omega, fun a cap w _ hr => spec_any rs hf hl c a cap w hr, fun a cap w hc hr => impl_any rs hf hl c a cap w hc hr⟩

end Go.Proofs.Ytjngnjokbnklfaa.RuJ
