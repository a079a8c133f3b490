/- Clubs and their members counted: plain lemmas for FnClubs. -/
import Derived.Test.YtjngnjokbnklfaaBgI
import Derived.Test.YtjngnjokbnklfaaRuE
namespace Go.Proofs.Ytjngnjokbnklfaa.ClbM
open Go.RowKit Lb RuK ClM BgI
set_option linter.unusedSimpArgs false
set_option linter.unusedVariables false

theorem plc_mem {cs : List ByteArray} {c : ByteArray} (h : ClM.hasB cs c = true) : c ∈ cs := by
  obtain ⟨h1, h2⟩ := of_decide_eq_true h
  rw [← h2]
  simp [h1]
theorem ins_mem {cs : List ByteArray} {c x : ByteArray} : x ∈ insC cs c ↔ x = c ∨ x ∈ cs := by
  unfold insC
  split
  · rename_i h
    constructor
    · exact .inr
    · rintro (rfl | h1)
      · exact plc_mem h
      · exact h1
  · have e : cs = cs.take (plc cs c) ++ cs.drop (plc cs c) := (List.take_append_drop _ _).symm
    constructor
    · intro h
      rcases List.mem_append.1 h with h1 | h1
      · rcases List.mem_append.1 h1 with h2 | h2
        · exact .inr (List.mem_of_mem_take h2)
        · exact .inl (by simpa using h2)
      · exact .inr (List.mem_of_mem_drop h1)
    · rintro (rfl | h)
      · simp
      · rw [e] at h
        rcases List.mem_append.1 h with h1 | h1
        · exact List.mem_append_left _ (List.mem_append_left _ h1)
        · exact List.mem_append_right _ h1
theorem fold_mem (x : ByteArray) : ∀ (rs : List Ru) (cs : List ByteArray), x ∈ rs.foldl (fun cs r => insC cs r.cl) cs ↔ x ∈ cs ∨ ∃ r, r ∈ rs ∧ r.cl = x
  | [], cs => by simp
  | r :: rs, cs => by
    rw [List.foldl_cons, fold_mem x rs, ins_mem]
    constructor
    · rintro ((rfl | h) | ⟨q, h1, h2⟩)
      · exact .inr ⟨r, by simp, rfl⟩
      · exact .inl h
      · exact .inr ⟨q, by simp [h1], h2⟩
    · rintro (h | ⟨q, h1, h2⟩)
      · exact .inl (.inr h)
      · rcases List.mem_cons.1 h1 with rfl | h1
        · exact .inl (.inl h2.symm)
        · exact .inr ⟨q, h1, h2⟩
theorem club_mem {x : ByteArray} {rs : List Ru} : x ∈ clubL rs ↔ ∃ r, r ∈ rs ∧ r.cl = x := by
  unfold clubL
  rw [fold_mem]
  simp
theorem club_nodup (rs : List Ru) : (clubL rs).Nodup := by
  have h := club_asc rs.length rs
  rw [List.take_of_length_le (Nat.le_refl _)] at h
  refine List.Pairwise.imp (fun {a b} hab e => ?_) h
  subst e
  rw [ltB_irrefl] at hab
  cases hab
theorem of_iff {c : ByteArray} {r : Ru} : RuH.ofB c r = true ↔ r.cl = c := by
  unfold RuH.ofB
  rw [beq_iff_eq]
  exact ⟨eq_of_toList, fun h => by rw [h]⟩
/-- How many members. -/
def mN (rs : List Ru) (c : ByteArray) : Nat := (RuH.memL rs c).length
theorem mN_cons (r : Ru) (rs : List Ru) (c : ByteArray) : mN (r :: rs) c = (if r.cl = c then 1 else 0) + mN rs c := by
  unfold mN RuH.memL RuD.idsL
  rw [List.length_map, List.length_map]
  by_cases h : r.cl = c
  · rw [if_pos h, List.filter_cons_of_pos (of_iff.2 h), List.length_cons]; omega
  · rw [if_neg h, List.filter_cons_of_neg (fun hh => h (of_iff.1 hh))]; omega
theorem mN_pos {rs : List Ru} {c : ByteArray} (h : c ∈ clubL rs) : 0 < mN rs c := by
  obtain ⟨r, hr, he⟩ := club_mem.1 h
  unfold mN RuH.memL RuD.idsL
  rw [List.length_map]
  exact List.length_pos_of_mem (List.mem_filter.2 ⟨hr, of_iff.2 he⟩)
/-- Sums over clubs. -/
def smL (f : ByteArray → Nat) : List ByteArray → Nat
  | [] => 0
  | c :: cs => f c + smL f cs
theorem sm_app (f : ByteArray → Nat) (c : ByteArray) : ∀ cs, smL f (cs ++ [c]) = smL f cs + f c
  | [] => by simp [smL]
  | x :: cs => by rw [List.cons_append, smL, sm_app f c cs, smL]; omega
theorem sm_add (f g h : ByteArray → Nat) (e : ∀ c, f c = g c + h c) : ∀ cs, smL f cs = smL g cs + smL h cs
  | [] => rfl
  | x :: cs => by rw [smL, smL, smL, e, sm_add f g h e cs]; omega
theorem sm_zero {f : ByteArray → Nat} : ∀ {cs : List ByteArray}, (∀ c, c ∈ cs → f c = 0) → smL f cs = 0
  | [], _ => rfl
  | x :: cs, h => by rw [smL, h x (by simp), sm_zero fun c hc => h c (by simp [hc])]
theorem sm_one (d : ByteArray) : ∀ {cs : List ByteArray}, cs.Nodup → d ∈ cs → smL (fun c => if d = c then 1 else 0) cs = 1
  | [], _, h => by simp at h
  | x :: cs, hn, h => by
    obtain ⟨h1, h2⟩ := List.nodup_cons.1 hn
    rw [smL]
    by_cases e : d = x
    · subst e
      rw [if_pos rfl, sm_zero fun c hc => if_neg (fun e => h1 (by rw [e]; exact hc))]
    · rw [if_neg e, sm_one d h2 (by rcases List.mem_cons.1 h with h | h; exact absurd h e; exact h)]
theorem sm_all {cs : List ByteArray} (hn : cs.Nodup) : ∀ {rs : List Ru}, (∀ r, r ∈ rs → r.cl ∈ cs) → smL (mN rs) cs = rs.length
  | [], _ => sm_zero fun c _ => rfl
  | r :: rs, h => by
    rw [sm_add (mN (r :: rs)) (fun c => if r.cl = c then 1 else 0) (mN rs) (fun c => mN_cons r rs c), sm_one r.cl hn (h r (by simp)), sm_all hn fun q hq => h q (by simp [hq]), List.length_cons]
    omega
theorem sm_clubs (rs : List Ru) : smL (mN rs) (clubL rs) = rs.length := sm_all (club_nodup rs) fun r hr => club_mem.2 ⟨r, hr, rfl⟩
theorem sm_take {f : ByteArray → Nat} {cs : List ByteArray} {k : Nat} (hk : k < cs.length) (d : ByteArray) : smL f (cs.take (k + 1)) = smL f (cs.take k) + f (cs.getD k d) := by
  rw [List.take_succ_eq_append_getElem hk, sm_app]
  simp [hk]
theorem sm_split (f : ByteArray → Nat) : ∀ (cs : List ByteArray) (i : Nat), smL f cs = smL f (cs.take i) + smL f (cs.drop i)
  | [], i => by simp [smL]
  | x :: cs, 0 => by simp [smL]
  | x :: cs, i + 1 => by rw [List.take_succ_cons, List.drop_succ_cons, smL, smL, sm_split f cs i]; omega
theorem sm_le {f : ByteArray → Nat} {B : Nat} : ∀ {cs : List ByteArray}, (∀ c, c ∈ cs → f c ≤ B) → smL f cs ≤ cs.length * B
  | [], _ => by simp [smL]
  | x :: cs, h => by
    rw [smL, List.length_cons, Nat.succ_mul]
    have := h x (by simp)
    have := sm_le (f := f) (B := B) (cs := cs) fun c hc => h c (by simp [hc])
    omega

/-- The biggest one is not smaller than any, and has that many. -/
theorem bg_inv (rs : List Ru) (cs : List ByteArray) : ∀ k, k ≤ cs.length → (∀ j, j < k → mN rs (cs.getD j ⟨#[]⟩) ≤ (bgF rs (cs.take k)).2) ∧ (0 < (bgF rs (cs.take k)).2 → mN rs (bgF rs (cs.take k)).1 = (bgF rs (cs.take k)).2)
  | 0, _ => ⟨fun j hj => absurd hj (Nat.not_lt_zero _), fun h => by simp [bgF] at h⟩
  | k + 1, hk => by
    obtain ⟨h1, h2⟩ := bg_inv rs cs k (by omega)
    rw [bg_take (by omega) ⟨#[]⟩]
    unfold bgS
    by_cases hlt : (bgF rs (cs.take k)).2 < (RuH.memL rs (cs.getD k ⟨#[]⟩)).length
    · rw [if_pos hlt]
      refine ⟨fun j hj => ?_, fun _ => rfl⟩
      rcases Nat.lt_or_ge j k with h | h
      · exact Nat.le_trans (h1 j h) (Nat.le_of_lt hlt)
      · obtain rfl : j = k := by omega
        exact Nat.le_refl _
    · rw [if_neg hlt]
      refine ⟨fun j hj => ?_, h2⟩
      rcases Nat.lt_or_ge j k with h | h
      · exact h1 j h
      · obtain rfl : j = k := by omega
        exact Nat.le_of_not_lt hlt
theorem bg_all (rs : List Ru) {cs : List ByteArray} {j : Nat} (hj : j < cs.length) : mN rs (cs.getD j ⟨#[]⟩) ≤ (bgF rs cs).2 ∧ (cs.getD j ⟨#[]⟩ = (bgF rs cs).1 → 0 < mN rs (cs.getD j ⟨#[]⟩) → mN rs (cs.getD j ⟨#[]⟩) = (bgF rs cs).2) := by
  obtain ⟨h1, h2⟩ := bg_inv rs cs cs.length (Nat.le_refl _)
  rw [List.take_of_length_le (Nat.le_refl _)] at h1 h2
  refine ⟨h1 j hj, fun e hp => ?_⟩
  have h3 := h1 j hj
  rw [e] at hp ⊢
  rw [e] at h3
  exact h2 (by omega)
theorem aged_all {rs : List Ru} (h : RuA.goodB rs = true) : (RuE.rgL rs 0 120).length = rs.length ∧ RuE.rgB rs 0 120 = true := by
  have hb : RuE.rgB rs 0 120 = true := by unfold RuE.rgB; rw [h]; decide
  refine ⟨?_, hb⟩
  unfold RuE.rgL
  rw [hb, if_pos rfl]
  unfold RuD.idsL
  rw [List.length_map, List.filter_eq_self.2]
  intro r hr
  obtain ⟨i, hi, rfl⟩ := List.mem_iff_getElem.1 hr
  have := RuE.good_bo h hi
  rw [RuK.at_lt hi] at this
  unfold RuE.agedB
  exact decide_eq_true (by omega)
end Go.Proofs.Ytjngnjokbnklfaa.ClbM
