/- The biggest club: both texts. -/
import Derived.Test.YtjngnjokbnklfaaClI
import Derived.Test.YtjngnjokbnklfaaRuJ
namespace Go.Proofs.Ytjngnjokbnklfaa.BgI
open Go.RowKit Lb Bk InA Wd RuK RuI RuU RuA RuG RuC ClM
set_option linter.unusedSimpArgs false
set_option linter.unusedVariables false

/-- The best so far. -/
def bgS (rs : List Ru) (s : ByteArray × Nat) (c : ByteArray) : ByteArray × Nat := if s.2 < (RuH.memL rs c).length then (c, (RuH.memL rs c).length) else s
def bgF (rs : List Ru) (cs : List ByteArray) : ByteArray × Nat := cs.foldl (bgS rs) (⟨#[]⟩, 0)
theorem bg_take {rs : List Ru} {cs : List ByteArray} {k : Nat} (hk : k < cs.length) (d : ByteArray) : bgF rs (cs.take (k + 1)) = bgS rs (bgF rs (cs.take k)) (cs.getD k d) := by
  unfold bgF
  rw [List.take_succ_eq_append_getElem hk, List.foldl_append]
  simp [hk]
theorem bg_le (rs : List Ru) : ∀ (k : Nat) (cs : List ByteArray), (bgF rs (cs.take k)).2 ≤ rs.length
  | 0, cs => by simp [bgF]
  | k + 1, cs => by
    rcases Nat.lt_or_ge k cs.length with h | h
    · rw [bg_take h ⟨#[]⟩]
      unfold bgS
      split
      · exact RuD.ids_len _ _
      · exact bg_le rs k cs
    · have h2 := bg_le rs k cs
      rw [List.take_of_length_le (by omega)] at h2 ⊢
      exact h2
theorem ins_pos (cs : List ByteArray) (c : ByteArray) : 0 < (insC cs c).length := by
  unfold insC
  split
  · rename_i h
    have := (of_decide_eq_true h : plc cs c < cs.length ∧ _).1
    omega
  · simp only [List.length_append, List.length_cons, List.length_nil]; omega
theorem club_pos {rs : List Ru} (h : 0 < rs.length) : 0 < (clubL rs).length := by
  obtain ⟨n, hn⟩ : ∃ n, rs.length = n + 1 := ⟨rs.length - 1, by omega⟩
  have := club_take (rs := rs) (k := n) (by omega)
  rw [List.take_of_length_le (by omega)] at this
  rw [this]
  exact ins_pos _ _
/-- What BiggestClub answers. -/
def bcB (rs : List Ru) : Bool := goodB rs && decide (0 < rs.length)
def bcS (rs : List Ru) : ByteArray := if bcB rs then (bgF rs (clubL rs)).1 else ⟨#[]⟩
def bcN (rs : List Ru) : Nat := if bcB rs then (bgF rs (clubL rs)).2 else 0
def BPost (w : World) (s : ByteArray) (n : Nat) (ok : Bool) (e : Ending) (w' : World) : Prop := e = .returned (.tuple #[.string s, .int .i64 n, .bool ok]) ∧ Below w.heap.size w w'

set_option maxRecDepth 20000 in
set_option maxHeartbeats 4000000 in
theorem spec_any (rs : List Ru) (hf : ∀ i, i < rs.length → Is (at_ rs i)) (hl : rs.length ≤ 1048576) (a : Option Addr) (cap : Nat) (w : World) (hr : Row w a rs) :
    Calls Try.prog 45 #[.slice a rs.length cap] w (BPost w (bcS rs) (bcN rs) (bcB rs)) := by
  have H := Lib.hid hr
  have hml : rs.length ≤ maxLen := by unfold maxLen; omega
  obtain ⟨g, hg⟩ : ∃ g, goodB rs = g := ⟨_, rfl⟩
  have c1 := Lib.hid (fun w hr => hg ▸ good_any a cap rs w hr hf hml)
  have c2 := Lib.hid (fun w hr => ClS.clubs_any rs hl a cap w hr)
  have c3 := Lib.hid (fun c w hr => RuH.members_any rs hl c a cap w hr)
  have HG := Lib.hid hg
  obtain ⟨bs, hbs⟩ : ∃ x, bcS rs = x := ⟨_, rfl⟩
  obtain ⟨bn, hbn⟩ : ∃ x, bcN rs = x := ⟨_, rfl⟩
  obtain ⟨bb, hbb⟩ : ∃ x, bcB rs = x := ⟨_, rfl⟩
  have H1 := Lib.hid hbs
  have H2 := Lib.hid hbn
  have H3 := Lib.hid hbb
  rw [hbs, hbn, hbb]
  obtain ⟨n, hn⟩ : ∃ n, rs.length = n := ⟨_, rfl⟩
  have HN := Lib.hid hn
  rw [hn] at hl hml c1 c2 c3 ⊢
  clear hr hg hf hbs hbn hbb hn
  have key : (g = false ∨ n = 0) → bb = false ∧ bs = ⟨#[]⟩ ∧ bn = 0 := by
    intro h
    have hb : bb = false := by
      rw [← H3.out]; unfold bcB; rw [HG.out, HN.out]
      rcases h with rfl | rfl <;> simp
    exact ⟨hb, by rw [← H1.out]; unfold bcS; rw [H3.out, hb]; rfl, by rw [← H2.out]; unfold bcN; rw [H3.out, hb]; rfl⟩
  have HK := Lib.hid key
  clear key
  cases g with
  | false =>
    obtain ⟨rfl, rfl, rfl⟩ := HK.out (.inl rfl)
    go_enter Try.func45, Try.ntmps45
    go_wp2_with fail
    refine (c1.out _ H.out).mono ?_
    rintro e w1 ⟨rfl, hb⟩
    have HB1 := Lib.hid hb
    clear hb
    go_wp2
    go_ret3
    exact ⟨rfl, HB1.out⟩
  | true =>
    by_cases hn0 : n = 0
    · obtain ⟨rfl, rfl, rfl⟩ := HK.out (.inr hn0)
      subst hn0
      go_enter Try.func45, Try.ntmps45
      go_wp2_with fail
      refine (c1.out _ H.out).mono ?_
      rintro e w1 ⟨rfl, hb⟩
      have HB1 := Lib.hid hb
      clear hb
      go_wp2
      go_ret3
      exact ⟨rfl, HB1.out⟩
    · obtain ⟨cs, hcs⟩ : ∃ cs, clubL rs = cs := ⟨_, rfl⟩
      have HC := Lib.hid hcs
      have hb : bb = true := by rw [← H3.out]; unfold bcB; rw [HG.out, HN.out]; simp; omega
      have HE := Lib.hid (show bgF rs cs = (bs, bn) from by
        rw [← H1.out, ← H2.out]; unfold bcS bcN; rw [H3.out, hb, hcs]; rfl)
      have hm := club_len rs.length rs
      rw [List.take_of_length_le (Nat.le_refl _), hcs, HN.out] at hm
      rw [hcs] at c2
      have hne : ¬ ((n : Int) = 0) := by omega
      have hne2 : ((n : Int) == 0) = false := by simp; omega
      subst hb
      clear hcs HK H1 H2 H3
      go_enter Try.func45, Try.ntmps45
      go_wp2_with fail
      refine (c1.out _ H.out).mono ?_
      rintro e w1 ⟨rfl, hb⟩
      have HB1 := Lib.hid hb
      clear hb
      go_wp2_with fail
      refine (c2.out _ (H.out.later HB1.out)).mono ?_
      rintro e w2 ⟨v, rfl, ho, hb⟩
      have HB2 := Lib.hid (HB1.out.trans (hb.mono HB1.out.size))
      obtain ⟨a', cap', rfl, hrw, -⟩ := ho.slice
      have HRW := Lib.hid hrw
      obtain ⟨m, hmq⟩ : ∃ m, cs.length = m := ⟨_, rfl⟩
      rw [hmq] at hm
      have HM := Lib.hid hmq
      rw [hmq]
      clear ho hb hrw hmq
      go_wp2
      go_loopg [8, 5, 6, 9] m (fun gk s x y _ wr => ∃ (i : Nat) (bx : ByteArray) (ny : Nat), i ≤ m ∧ gk = m - i ∧ s = .int .i64 i ∧ x = .string bx ∧ y = .int .i64 ny ∧ Aside (bgF rs (cs.take i) = (bx, ny)) ∧ ny ≤ n ∧ Below w2.heap.size w2 wr)
      case atStart => exact ⟨0, ⟨#[]⟩, 0, Nat.zero_le _, rfl, rfl, rfl, rfl, (rfl : bgF rs (cs.take 0) = (⟨#[]⟩, 0)), Nat.zero_le _, Below.refl _ _⟩
      case round =>
        obtain ⟨i, bx, ny, hi, hgk, rfl, rfl, rfl, I, hny, hB⟩ := hrel
        have HB := Lib.hid hB
        clear hB
        by_cases hlt : i < m
        · obtain ⟨b, off, rfl, c0⟩ := SeS.cells_ (StrK.Row.later HRW.out HB.out) (i := i) (by rw [HM.out]; exact hlt) ⟨#[]⟩
          obtain ⟨c, hc⟩ : ∃ c, cs.getD i ⟨#[]⟩ = c := ⟨_, rfl⟩
          rw [hc] at c0
          obtain ⟨q, hq⟩ : ∃ q, (RuH.memL rs c).length = q := ⟨_, rfl⟩
          have hqn : q ≤ n := by rw [← hq, ← HN.out]; exact RuD.ids_len _ _
          have HQ := Lib.hid hq
          have HT := Lib.hid (show bgF rs (cs.take (i + 1)) = if ny < q then (c, q) else (bx, ny) from by rw [bg_take (by rw [HM.out]; exact hlt) ⟨#[]⟩, I.out, hc]; unfold bgS; rw [hq])
          clear hc hq
          by_cases hgt : ny < q
          · have HT2 := Lib.hid (show bgF rs (cs.take (i + 1)) = (c, q) from by rw [HT.out, if_pos hgt])
            have d1 : decide ((ny : Int) < (q : Int)) = true := decide_eq_true (by omega)
            have HRq := Lib.hid (show StrK.Row wr (some ⟨b, off, none⟩) cs from StrK.Row.later HRW.out HB.out)
            go_upto_region 9 with (go_at_call 97; refine (c3.out c _ (H.out.later (HB2.out.trans (HB.out.mono HB2.out.size)))).mono ?_; rintro e w3 ⟨v3, rfl, ho, hb⟩; obtain ⟨a3, cap3, rfl, -, -⟩ := ho.slice; rw [HQ.out]; have HB3 := Lib.hid (HB.out.trans (hb.mono HB.out.size)); have c0' := (hb.cell (World.block_lt_of_cell? wr _ c0)).trans c0; clear ho hb)
            go_wp2
            go_roundg (m - (i + 1))
            case measure => omega
            case rel => exact ⟨i + 1, c, q, by omega, rfl, by go_num, rfl, rfl, HT2.out, hqn, HB3.out⟩
          · have HT2 := Lib.hid (show bgF rs (cs.take (i + 1)) = (bx, ny) from by rw [HT.out, if_neg hgt])
            have d1 : decide ((ny : Int) < (q : Int)) = false := decide_eq_false (by omega)
            go_upto_region 9 with (go_at_call 97; refine (c3.out c _ (H.out.later (HB2.out.trans (HB.out.mono HB2.out.size)))).mono ?_; rintro e w3 ⟨v3, rfl, ho, hb⟩; obtain ⟨a3, cap3, rfl, -, -⟩ := ho.slice; rw [HQ.out]; have HB3 := Lib.hid (HB.out.trans (hb.mono HB.out.size)); clear ho hb)
            go_wp2
            go_roundg (m - (i + 1))
            case measure => omega
            case rel => exact ⟨i + 1, bx, ny, by omega, rfl, by go_num, rfl, rfl, HT2.out, hny, HB3.out⟩
        · obtain rfl : i = m := by omega
          have hq : bx = bs ∧ ny = bn := by
            have := I.out
            rw [List.take_of_length_le (by rw [HM.out]; exact Nat.le_refl _), HE.out] at this
            cases this
            exact ⟨rfl, rfl⟩
          obtain ⟨rfl, rfl⟩ := hq
          go_wp2_with fail
          go_ret3
          exact ⟨rfl, HB2.out.trans (HB.out.mono HB2.out.size)⟩

set_option maxRecDepth 20000 in
set_option maxHeartbeats 4000000 in
theorem impl_any (rs : List Ru) (hf : ∀ i, i < rs.length → Is (at_ rs i)) (hl : rs.length ≤ 1048576) (a : Option Addr) (cap : Nat) (w : World) (hc : rs.length ≤ cap) (hr : Row w a rs) :
    Calls Try.prog 44 #[.slice a rs.length cap] w (BPost w (bcS rs) (bcN rs) (bcB rs)) := by
  have H := Lib.hid hr
  have hml : rs.length ≤ maxLen := by unfold maxLen; omega
  obtain ⟨g, hg⟩ : ∃ g, goodB rs = g := ⟨_, rfl⟩
  have c2 := Lib.hid (fun w hr => ClI.impl_any rs hf hl a cap w hc hr)
  have c3 := Lib.hid (fun c w hr => RuJ.impl_any rs hf hl c a cap w hc hr)
  unfold ClI.SPost at c2
  unfold RuE.NPost at c3
  rw [hg] at c2 c3
  have HG := Lib.hid hg
  obtain ⟨bs, hbs⟩ : ∃ x, bcS rs = x := ⟨_, rfl⟩
  obtain ⟨bn, hbn⟩ : ∃ x, bcN rs = x := ⟨_, rfl⟩
  obtain ⟨bb, hbb⟩ : ∃ x, bcB rs = x := ⟨_, rfl⟩
  have H1 := Lib.hid hbs
  have H2 := Lib.hid hbn
  have H3 := Lib.hid hbb
  rw [hbs, hbn, hbb]
  obtain ⟨n, hn⟩ : ∃ n, rs.length = n := ⟨_, rfl⟩
  have HN := Lib.hid hn
  rw [hn] at hl hml hc c2 c3 ⊢
  clear hr hg hf hbs hbn hbb hn
  have key : (g = false ∨ n = 0) → bb = false ∧ bs = ⟨#[]⟩ ∧ bn = 0 := by
    intro h
    have hb : bb = false := by
      rw [← H3.out]; unfold bcB; rw [HG.out, HN.out]
      rcases h with rfl | rfl <;> simp
    exact ⟨hb, by rw [← H1.out]; unfold bcS; rw [H3.out, hb]; rfl, by rw [← H2.out]; unfold bcN; rw [H3.out, hb]; rfl⟩
  have HK := Lib.hid key
  clear key
  obtain ⟨cs, hcs⟩ : ∃ cs, ClI.coL rs = cs := ⟨_, rfl⟩
  have HC := Lib.hid hcs
  rw [hcs] at c2
  obtain ⟨m, hmq⟩ : ∃ m, cs.length = m := ⟨_, rfl⟩
  have HM := Lib.hid hmq
  have hm : m ≤ n := by rw [← hmq, ← hcs, ← HN.out]; exact ClI.co_len rs
  clear hcs
  go_enter Try.func44, Try.ntmps44
  go_wp2_with fail
  refine (c2.out _ H.out).mono ?_
  rintro e w2 ⟨v, rfl, ho, hb⟩
  have HB2 := Lib.hid hb
  obtain ⟨a', cap', rfl, hrw, -⟩ := ho.slice
  have HRW := Lib.hid hrw
  rw [hmq]
  clear ho hb hrw hmq
  cases g with
  | false =>
    obtain ⟨rfl, rfl, rfl⟩ := HK.out (.inl rfl)
    go_wp2
    go_ret3
    exact ⟨rfl, HB2.out⟩
  | true =>
    by_cases hm0 : m = 0
    · have hn0 : n = 0 := by
        rcases Nat.eq_zero_or_pos n with h | h
        · exact h
        · have h2 := club_pos (rs := rs) (by rw [HN.out]; exact h)
          have h3 : ClI.coL rs = clubL rs := by unfold ClI.coL; rw [HG.out]; rfl
          rw [← h3, HC.out, HM.out] at h2
          omega
      obtain ⟨rfl, rfl, rfl⟩ := HK.out (.inr hn0)
      subst hm0
      go_wp2
      go_ret3
      exact ⟨rfl, HB2.out⟩
    · have hn0 : 0 < n := by omega
      have hb : bb = true := by rw [← H3.out]; unfold bcB; rw [HG.out, HN.out]; simp; omega
      have HE := Lib.hid (show bgF rs cs = (bs, bn) from by
        have h3 : ClI.coL rs = clubL rs := by unfold ClI.coL; rw [HG.out]; rfl
        rw [← H1.out, ← H2.out, ← HC.out, h3]; unfold bcS bcN; rw [H3.out, hb]; rfl)
      have HMem := Lib.hid (show ∀ c, RuH.cmL rs c = RuH.memL rs c from fun c => by unfold RuH.cmL; rw [HG.out]; rfl)
      have hne : ¬ ((m : Int) = 0) := by omega
      have hne2 : ((m : Int) == 0) = false := by simp; omega
      subst hb
      clear HK H1 H2 H3 hm0
      go_wp2
      go_loopg [27, 7, 8, 10, 11, 12] m (fun gk s x y _ _ _ wr => ∃ (i : Nat) (bx : ByteArray) (ny : Nat), i ≤ m ∧ gk = m - i ∧ s = .int .i64 i ∧ x = .string bx ∧ y = .int .i64 ny ∧ Aside (bgF rs (cs.take i) = (bx, ny)) ∧ ny ≤ n ∧ Below w2.heap.size w2 wr)
      case atStart => exact ⟨0, ⟨#[]⟩, 0, Nat.zero_le _, rfl, rfl, rfl, rfl, (rfl : bgF rs (cs.take 0) = (⟨#[]⟩, 0)), Nat.zero_le _, Below.refl _ _⟩
      case round =>
        obtain ⟨i, bx, ny, hi, hgk, rfl, rfl, rfl, I, hny, hB⟩ := hrel
        have HB := Lib.hid hB
        clear hB
        by_cases hlt : i < m
        · obtain ⟨b, off, rfl, c0⟩ := SeS.cells_ (StrK.Row.later HRW.out HB.out) (i := i) (by rw [HM.out]; exact hlt) ⟨#[]⟩
          obtain ⟨c, hc⟩ : ∃ c, cs.getD i ⟨#[]⟩ = c := ⟨_, rfl⟩
          rw [hc] at c0
          obtain ⟨q, hq⟩ : ∃ q, (RuH.cmL rs c).length = q := ⟨_, rfl⟩
          have hqn : q ≤ n := by rw [← hq, ← HN.out]; exact RuH.cm_len _ _
          have HQ := Lib.hid hq
          have HT := Lib.hid (show bgF rs (cs.take (i + 1)) = if ny < q then (c, q) else (bx, ny) from by rw [bg_take (by rw [HM.out]; exact hlt) ⟨#[]⟩, I.out, hc]; unfold bgS; rw [← HMem.out c, hq])
          clear hc hq
          by_cases hgt : ny < q
          · have HT2 := Lib.hid (show bgF rs (cs.take (i + 1)) = (c, q) from by rw [HT.out, if_pos hgt])
            have d1 : decide ((ny : Int) < (q : Int)) = true := decide_eq_true (by omega)
            go_upto_region 9 with (go_at_call 46; refine (c3.out c _ (H.out.later (HB2.out.trans (HB.out.mono HB2.out.size)))).mono ?_; rintro e w3 ⟨v3, rfl, ho, hb⟩; obtain ⟨a3, cap3, rfl, -, -⟩ := ho.slice; rw [HQ.out]; have HB3 := Lib.hid (HB.out.trans (hb.mono HB.out.size)); clear ho hb)
            go_wp2
            go_roundg (m - (i + 1))
            case measure => omega
            case rel => exact ⟨i + 1, c, q, by omega, rfl, by go_num, rfl, rfl, HT2.out, hqn, HB3.out⟩
          · have HT2 := Lib.hid (show bgF rs (cs.take (i + 1)) = (bx, ny) from by rw [HT.out, if_neg hgt])
            have d1 : decide ((ny : Int) < (q : Int)) = false := decide_eq_false (by omega)
            go_upto_region 9 with (go_at_call 46; refine (c3.out c _ (H.out.later (HB2.out.trans (HB.out.mono HB2.out.size)))).mono ?_; rintro e w3 ⟨v3, rfl, ho, hb⟩; obtain ⟨a3, cap3, rfl, -, -⟩ := ho.slice; rw [HQ.out]; have HB3 := Lib.hid (HB.out.trans (hb.mono HB.out.size)); clear ho hb)
            go_wp2
            go_roundg (m - (i + 1))
            case measure => omega
            case rel => exact ⟨i + 1, bx, ny, by omega, rfl, by go_num, rfl, rfl, HT2.out, hny, HB3.out⟩
        · obtain rfl : i = m := by omega
          have hq : bx = bs ∧ ny = bn := by
            have := I.out
            rw [List.take_of_length_le (by rw [HM.out]; exact Nat.le_refl _), HE.out] at this
            cases this
            exact ⟨rfl, rfl⟩
          obtain ⟨rfl, rfl⟩ := hq
          go_wp2_with fail
          go_ret3
          exact ⟨rfl, HB2.out.trans (HB.out.mono HB2.out.size)⟩

theorem both (rs : List Ru) (hf : ∀ i, i < rs.length → Is (at_ rs i)) (hl : rs.length ≤ 1048576) : ∃ (s : ByteArray) (n : Int) (ok : Bool),
    (∀ a cap w, rs.length ≤ cap → Row w a rs → Calls Try.prog 45 #[.slice a rs.length cap] w fun e w' => e = .returned (.tuple #[.string s, .int .i64 n, .bool ok]) ∧ Below w.heap.size w w') ∧
    (∀ a cap w, rs.length ≤ cap → Row w a rs → Calls Try.prog 44 #[.slice a rs.length cap] w fun e w' => e = .returned (.tuple #[.string s, .int .i64 n, .bool ok]) ∧ Below w.heap.size w w') :=
  ⟨bcS rs, (bcN rs : Nat), bcB rs, fun a cap w _ hr => spec_any rs hf hl a cap w hr, fun a cap w hc hr => impl_any rs hf hl a cap w hc hr⟩

end Go.Proofs.Ytjngnjokbnklfaa.BgI
