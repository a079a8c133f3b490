/- The clubs of a list: the program's text; both. -/
import Derived.Test.YtjngnjokbnklfaaClS
import Derived.Test.YtjngnjokbnklfaaSeS
import Derived.Test.YtjngnjokbnklfaaStV
import Derived.Test.YtjngnjokbnklfaaRuE
namespace Go.Proofs.Ytjngnjokbnklfaa.ClI
open Go.RowKit Lb Bk InA Wd RuK RuI RuU RuA RuG RuC ClM
set_option linter.unusedSimpArgs false
set_option linter.unusedVariables false

theorem ins_str (base : Nat) (v : Value) (cs : List ByteArray) (hl : cs.length ≤ 1048576) (c : ByteArray) (vb : Nat) (tv : TypeId) (w : World) (ho : StrK.Own w base v cs) (hb : base ≤ w.heap.size)
    (hx : Blk w vb tv #[.string c]) (hne : v.ownBlock ≠ some vb) (hf : ClM.hasB cs c = false) :
    Calls Try.prog 94 #[v, .int .i64 (plc cs c), .slice (some ⟨vb, 0, none⟩) 1 1] w fun e w' => ∃ v', e = .returned v' ∧ StrK.Own w' base v' (insC cs c) ∧ w.grownBy w' v.ownBlock := by
  refine (StV.ins_any base v cs.length (plc cs c) (cs.map Value.string) [.string c] (plc_le cs c) hl vb tv w ho hb hx rfl (ClS.str_one cs) (ClS.str_one [c]) hne).mono ?_
  rintro e w' ⟨v', rfl, h1, h2⟩
  refine ⟨v', rfl, ?_, h2⟩
  have e1 : insC cs c = cs.take (plc cs c) ++ [c] ++ cs.drop (plc cs c) := by unfold insC; rw [hf]; rfl
  have hl1 : (insC cs c).length = cs.length + 1 := by
    have := plc_le cs c
    rw [e1]; simp only [List.length_append, List.length_take, List.length_drop, List.length_cons, List.length_nil]; omega
  unfold StrK.Own
  rw [hl1, e1, List.map_append, List.map_append, List.map_take, List.map_drop]
  rw [Nat.mul_one] at h1
  exact h1
/-- The answer: a list of texts of the call's own, and whether. -/
def SPost (w : World) (zs : List ByteArray) (ok : Bool) (e : Ending) (w' : World) : Prop := ∃ v, e = .returned (.tuple #[v, .bool ok]) ∧ StrK.Own w' w.heap.size v zs ∧ Below w.heap.size w w'
theorem own_none (w : World) (b : Nat) (hb : b ≤ w.heap.size) : StrK.Own (w.alloc (.cells #[] 9)) b (.slice (some ⟨w.heap.size, 0, none⟩) 0 0) [] := World.ownsRow_made w #[] 0 hb (Nat.zero_le _) rfl
theorem rebase {w : World} {b b' : Nat} {v : Value} {cs : List ByteArray} (h : StrK.Own w b v cs) (hb : b' ≤ b) : StrK.Own w b' v cs := by
  refine ⟨h.1, ?_⟩
  rcases h.2 with h2 | ⟨g, cap, cur, hv, hg, r⟩
  · exact .inl h2
  · exact .inr ⟨g, cap, cur, hv, Nat.le_trans hb hg, r⟩
/-- What ClubsOf answers. -/
def coL (rs : List Ru) : List ByteArray := if goodB rs then clubL rs else []
theorem co_len (rs : List Ru) : (coL rs).length ≤ rs.length := by
  unfold coL
  split
  · have := club_len rs.length rs
    rwa [List.take_of_length_le (Nat.le_refl _)] at this
  · exact Nat.zero_le _

set_option maxRecDepth 20000 in
set_option maxHeartbeats 4000000 in
theorem impl_any (rs : List Ru) (hf : ∀ i, i < rs.length → Is (at_ rs i)) (hl : rs.length ≤ 1048576) (a : Option Addr) (cap : Nat) (w : World) (hc : rs.length ≤ cap) (hr : Row w a rs) :
    Calls Try.prog 41 #[.slice a rs.length cap] w (SPost w (coL rs) (goodB rs)) := by
  have H := Lib.hid hr
  have hml : rs.length ≤ maxLen := by unfold maxLen; omega
  obtain ⟨g, hg⟩ : ∃ g, goodB rs = g := ⟨_, rfl⟩
  have c1 := Lib.hid (fun w hr => hg ▸ RuA.impl_any a cap rs w hc hr hf hml)
  have HG := Lib.hid hg
  obtain ⟨zs, hzs⟩ : ∃ zs, coL rs = zs := ⟨_, rfl⟩
  have HZ := Lib.hid hzs
  rw [hg, hzs]
  obtain ⟨n, hn⟩ : ∃ n, rs.length = n := ⟨_, rfl⟩
  have HN := Lib.hid hn
  rw [hn] at hl hml hc c1 ⊢
  clear hr hg hzs hf hn
  go_enter Try.func41, Try.ntmps41
  go_wp2_with fail
  refine (c1.out _ H.out).mono ?_
  rintro e w1 ⟨rfl, hb⟩
  have HB1 := Lib.hid hb
  clear hb
  have hsz := HB1.out.size
  cases g with
  | false =>
    have h2 : zs = [] := by rw [← HZ.out]; unfold coL; rw [HG.out]; rfl
    subst h2
    go_wp2
    go_ret2
    exact ⟨_, rfl, own_none w1 w.heap.size hsz, HB1.out.alloc hsz _⟩
  | true =>
    have HE := Lib.hid (show clubL rs = zs from by rw [← HZ.out]; unfold coL; rw [HG.out]; rfl)
    have HO1 := Lib.hid (own_none w1 w.heap.size hsz)
    have HB2 := Lib.hid (HB1.out.alloc hsz (.cells #[] 9))
    clear HZ hsz
    go_wp2
    go_loopg [16, 4, 6, 7, 8] n (fun gk s v _ _ _ wr => ∃ i : Nat, i ≤ n ∧ gk = n - i ∧ s = .int .i64 i ∧ StrK.Own wr w.heap.size v (clubL (rs.take i)) ∧ Below w.heap.size w wr)
    case atStart => exact ⟨0, Nat.zero_le _, rfl, rfl, HO1.out, HB2.out⟩
    case round =>
      clear HO1 HB2
      obtain ⟨i, hi, hgk, rfl, hO, hB⟩ := hrel
      obtain ⟨cs, hcs⟩ : ∃ cs, clubL (rs.take i) = cs := ⟨_, rfl⟩
      rw [hcs] at hO
      have HC := Lib.hid hcs
      have HA := Lib.hid (show SAsc cs from hcs ▸ club_asc i rs)
      have hmi : cs.length ≤ i := by rw [← hcs]; exact club_len i rs
      have HO := Lib.hid hO
      have HB := Lib.hid hB
      clear hcs hO hB
      by_cases hlt : i < n
      · obtain ⟨b, off, rfl, c0, c1, c2, c3, c4, c5⟩ := (H.out.later HB.out).cells (i := i) (by rw [HN.out]; exact hlt)
        obtain ⟨y, hy⟩ : ∃ y, at_ rs i = y := ⟨_, rfl⟩
        rw [hy] at c0 c1 c2 c3 c4 c5
        have HNx := Lib.hid (show clubL (rs.take (i + 1)) = insC cs y.cl from by rw [club_take (by rw [HN.out]; exact hlt), HC.out, hy])
        clear hy
        have HB2 := Lib.hid (HB.out.alloc HB.out.size (.cells #[.int .i64 y.id, .string y.nm, .string y.cl, .int .i64 y.bo, .bool y.wo, .int .i64 y.ca] 70))
        have HK2 := Lib.hid (Blk.new wr 70 #[.int .i64 y.id, .string y.nm, .string y.cl, .int .i64 y.bo, .bool y.wo, .int .i64 y.ca])
        have HO2 := Lib.hid (HO.out.below ((Below.refl _ _).alloc (Nat.le_refl _) (.cells #[.int .i64 y.id, .string y.nm, .string y.cl, .int .i64 y.bo, .bool y.wo, .int .i64 y.ca] 70)))
        obtain ⟨a', cap', hv, hrw, -⟩ := HO2.out.slice
        obtain ⟨p, hp⟩ : ∃ p, plc cs y.cl = p := ⟨_, rfl⟩
        obtain ⟨f, hfq⟩ : ∃ f, ClM.hasB cs y.cl = f := ⟨_, rfl⟩
        have CS := Lib.hid (fun w hr => hp ▸ hfq ▸ SeS.search_any cs (by omega) HA.out y.cl a' cap' w hr)
        have HRW := Lib.hid hrw
        have HP := Lib.hid hp
        have HF := Lib.hid hfq
        obtain ⟨m, hm⟩ : ∃ m, cs.length = m := ⟨_, rfl⟩
        rw [hm] at CS hv hmi
        have HM := Lib.hid hm
        clear hrw hp hfq hm
        subst hv
        go_upto_region 7 with (fail)
        obtain ⟨⟨e0, e1, e2, e3, e4, e5⟩, -⟩ := blk_cells HK2.out
        generalize wr.alloc (.cells #[.int .i64 y.id, .string y.nm, .string y.cl, .int .i64 y.bo, .bool y.wo, .int .i64 y.ca] 70) = wz at *
        clear c0 c1 c2 c3 c4 c5
        cases f with
        | true =>
          have HNy := Lib.hid (show clubL (rs.take (i + 1)) = cs from by rw [HNx.out]; unfold insC; rw [HF.out]; rfl)
          go_wp2_with (go_at_call 93; refine (CS.out _ HRW.out).mono ?_; rintro e w2 ⟨rfl, hb⟩; have HB3 := Lib.hid (HB2.out.trans (hb.mono HB2.out.size)); have HO3 := Lib.hid (HO2.out.below hb); clear hb)
          go_roundg (n - (i + 1))
          case measure => omega
          case rel => exact ⟨i + 1, by omega, rfl, by go_num, by rw [HNy.out]; exact HO3.out, HB3.out⟩
        | false =>
          go_upto_if 28 with (go_at_call 93; refine (CS.out _ HRW.out).mono ?_; rintro e w2 ⟨rfl, hb⟩; have HB3 := Lib.hid (HB2.out.trans (hb.mono HB2.out.size)); have HO3 := Lib.hid (HO2.out.below hb); have HK3 := Lib.hid (HK2.out.later hb); clear hb)
          obtain ⟨⟨q0, q1, q2, q3, q4, q5⟩, -⟩ := blk_cells HK3.out
          have HO4 := Lib.hid (HO3.out.below ((Below.refl _ _).alloc (Nat.le_refl _) (.cells #[.string y.cl] 9)))
          have HB4 := Lib.hid (HB3.out.alloc HB3.out.size (.cells #[.string y.cl] 9))
          have HN4 := Lib.hid (Blk.new w2 9 #[.string y.cl])
          go_wp2_with (go_at_call 94; refine (HP.out ▸ ins_str w.heap.size _ cs (by rw [HM.out]; omega) y.cl w2.heap.size 9 _ HO4.out HB4.out.size HN4.out (fun e => Nat.lt_irrefl _ ((World.ownsRow.lt HO3.out _ e).2)) HF.out).mono ?_; rintro e w5 ⟨v5, rfl, ho, hgr⟩; have HO5 := Lib.hid ho; have HB5 := Lib.hid (HB4.out.grown hgr HB4.out.size (fun q e => (World.ownsRow.lt HO4.out q e).1)); clear ho hgr)
          go_roundg (n - (i + 1))
          case measure => omega
          case rel => exact ⟨i + 1, by omega, rfl, by go_num, by rw [HNx.out]; exact HO5.out, HB5.out⟩
      · obtain rfl : i = n := by omega
        have hq : StrK.Own wr w.heap.size u4 zs := by
          have := HO.out
          rwa [← HC.out, List.take_of_length_le (by rw [HN.out]; exact Nat.le_refl _), HE.out] at this
        have HQ := Lib.hid hq
        clear hq
        go_wp2_with fail
        go_ret2
        exact ⟨_, rfl, HQ.out, HB.out⟩

set_option maxRecDepth 20000 in
set_option maxHeartbeats 4000000 in
theorem spec_any (rs : List Ru) (hf : ∀ i, i < rs.length → Is (at_ rs i)) (hl : rs.length ≤ 1048576) (a : Option Addr) (cap : Nat) (w : World) (hr : Row w a rs) :
    Calls Try.prog 42 #[.slice a rs.length cap] w (SPost w (coL rs) (goodB rs)) := by
  have H := Lib.hid hr
  have hml : rs.length ≤ maxLen := by unfold maxLen; omega
  obtain ⟨g, hg⟩ : ∃ g, goodB rs = g := ⟨_, rfl⟩
  have c1 := Lib.hid (fun w hr => hg ▸ good_any a cap rs w hr hf hml)
  have c2 := Lib.hid (fun w hr => ClS.clubs_any rs hl a cap w hr)
  have HG := Lib.hid hg
  obtain ⟨zs, hzs⟩ : ∃ zs, coL rs = zs := ⟨_, rfl⟩
  have HX := Lib.hid hzs
  rw [hg, hzs]
  clear hr hg hf hzs
  go_enter Try.func42, Try.ntmps42
  go_wp2_with fail
  refine (c1.out _ H.out).mono ?_
  rintro e w1 ⟨rfl, hb⟩
  have HB1 := Lib.hid hb
  clear hb
  cases g with
  | false =>
    have hz : zs = [] := by rw [← HX.out]; unfold coL; rw [HG.out]; rfl
    subst hz
    go_wp2
    go_ret2
    exact ⟨_, rfl, own_none w1 w.heap.size HB1.out.size, HB1.out.alloc HB1.out.size _⟩
  | true =>
    have hz : clubL rs = zs := by rw [← HX.out]; unfold coL; rw [HG.out]; rfl
    rw [hz] at c2
    clear hz
    go_wp2_with fail
    refine (c2.out _ (H.out.later HB1.out)).mono ?_
    rintro e w2 ⟨v, rfl, ho, hb⟩
    have HO := Lib.hid ho
    have HB2 := Lib.hid (HB1.out.trans (hb.mono HB1.out.size))
    clear ho hb
    go_wp2
    go_ret2
    exact ⟨_, rfl, rebase HO.out HB1.out.size, HB2.out⟩

theorem both (rs : List Ru) (hf : ∀ i, i < rs.length → Is (at_ rs i)) (hl : rs.length ≤ 1048576) : ∃ (zs : List ByteArray) (ok : Bool), zs.length ≤ 1048576 ∧
    (∀ a cap w, rs.length ≤ cap → Row w a rs → Calls Try.prog 42 #[.slice a rs.length cap] w fun e w' => ∃ v, e = .returned (.tuple #[v, .bool ok]) ∧ StrK.Own w' w.heap.size v zs ∧ Below w.heap.size w w') ∧
    (∀ a cap w, rs.length ≤ cap → Row w a rs → Calls Try.prog 41 #[.slice a rs.length cap] w fun e w' => ∃ v, e = .returned (.tuple #[v, .bool ok]) ∧ StrK.Own w' w.heap.size v zs ∧ Below w.heap.size w w') :=
  ⟨coL rs, goodB rs, by have := co_len rs; omega, fun a cap w _ hr => spec_any rs hf hl a cap w hr, fun a cap w hc hr => impl_any rs hf hl a cap w hc hr⟩

end Go.Proofs.Ytjngnjokbnklfaa.ClI
