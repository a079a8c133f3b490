/- A sealed text with one byte changed is not sealed: the mathematics. -/
import Derived.Test.YtcilgbniahaejaaDoorVerW
import Derived.Test.YtcilgbniahaejaaDoorNumM
namespace Go.Proofs.YtcilgbniahaejaaDoor.Chg
open Go.RowKit Lb Fmt SealM

theorem step_inj_h {h h' : Int} {c : UInt8} (h0 : 0 ≤ h) (h1 : h < 999979) (h2 : 0 ≤ h') (h3 : h' < 999979) (e : Ck.sumStep h c = Ck.sumStep h' c) : h = h' := by
  unfold Ck.sumStep at e
  omega

theorem step_inj_c {h : Int} {c d : UInt8} (e : Ck.sumStep h c = Ck.sumStep h d) : c = d := by
  unfold Ck.sumStep at e
  have h1 := c.toNat_lt
  have h2 := d.toNat_lt
  have : c.toNat = d.toNat := by omega
  exact UInt8.toNat_inj.1 this

theorem fold_inj : ∀ (l : List UInt8) (h h' : Int), 0 ≤ h → h < 999979 → 0 ≤ h' → h' < 999979 → l.foldl Ck.sumStep h = l.foldl Ck.sumStep h' → h = h' := by
  intro l
  induction l with
  | nil => intro h h' _ _ _ _ e; exact e
  | cons c l ih =>
    intro h h' h0 h1 h2 h3 e
    have a := Ck.step_bd h c
    have b := Ck.step_bd h' c
    exact step_inj_h h0 h1 h2 h3 (ih _ _ a.1 a.2 b.1 b.2 e)

theorem fold_set : ∀ (l : List UInt8) (h : Int) (k : Nat) (b : UInt8), (∀ c, l[k]? = some c → c ≠ b) → k < l.length → l.foldl Ck.sumStep h ≠ (l.set k b).foldl Ck.sumStep h := by
  intro l
  induction l with
  | nil => intro h k b _ hk; simp at hk
  | cons c l ih =>
    intro h k b hne hk
    cases k with
    | zero =>
      intro e
      have a := Ck.step_bd h c
      have a' := Ck.step_bd h b
      exact hne c (by simp) (step_inj_c (fold_inj l _ _ a.1 a.2 a'.1 a'.2 e))
    | succ k => exact ih _ k b (fun d hd => hne d (by simpa using hd)) (by simpa using hk)

theorem sum_set (l : List UInt8) (k : Nat) (b : UInt8) (hk : k < l.length) (hne : ∀ c, l[k]? = some c → c ≠ b) : Ck.sum l ≠ Ck.sum (l.set k b) := fold_set l 7 k b hne hk

theorem changed (F : List UInt8 → List UInt8) (hF : ∀ l, (35 : UInt8) ∉ F l) (hI : ∀ l m, F l = F m → Ck.sum l = Ck.sum m) (X T : List UInt8) (k : Nat) (b c : UInt8) (hk : (X ++ 35 :: F X)[k]? = some c) (hne : c ≠ b)
    (hX : (35 : UInt8) ∉ X) (hT : (35 : UInt8) ∉ T) (heq : (X ++ 35 :: F X).set k b = T ++ 35 :: F T) : False := by
  have hkl : k < (X ++ 35 :: F X).length := (List.getElem?_eq_some_iff.1 hk).1
  have at' : ∀ i, i ≠ k → (X ++ 35 :: F X)[i]? = (T ++ 35 :: F T)[i]? := fun i hi => by
    rw [← heq, List.getElem?_set_ne (fun e => hi e.symm)]
  have atk : (T ++ 35 :: F T)[k]? = some b := by rw [← heq, List.getElem?_set_self hkl]
  have mid : ∀ (A B : List UInt8), (A ++ 35 :: B)[A.length]? = some 35 := fun A B => by simp
  have inA : ∀ (A B : List UInt8) (i : Nat) (y : UInt8), i < A.length → (A ++ 35 :: B)[i]? = some y → y ∈ A := fun A B i y hi h => by
    rw [List.getElem?_append_left hi] at h
    exact List.mem_of_getElem? h
  have inB : ∀ (A B : List UInt8) (i : Nat) (y : UInt8), A.length < i → (A ++ 35 :: B)[i]? = some y → y ∈ B := fun A B i y hi h => by
    rw [List.getElem?_append_right (by omega)] at h
    obtain ⟨j, hj⟩ : ∃ j, i - A.length = j + 1 := ⟨i - A.length - 1, by omega⟩
    rw [hj, List.getElem?_cons_succ] at h
    exact List.mem_of_getElem? h
  rcases Nat.lt_trichotomy X.length T.length with h | h | h
  · by_cases e : X.length = k
    · exact hF X (inB X (F X) T.length 35 h (by rw [at' T.length (by omega)]; exact mid T _))
    · exact hT (inA T (F T) X.length 35 h (by rw [← at' X.length e]; exact mid X _))
  · have htk : ∀ l : List UInt8, (X ++ l).take X.length = X := fun l => by simp
    have hdr : ∀ l : List UInt8, (X ++ l).drop X.length = l := fun l => by simp
    rcases Nat.lt_or_ge k X.length with hlt | hge
    · rw [List.set_append_left _ _ hlt] at heq
      have h1 := List.append_inj heq (by simpa using h)
      have h2 : F X = F T := by simpa using h1.2
      refine sum_set X k b hlt (fun d hd => ?_) ((hI _ _ h2).trans (by rw [h1.1]))
      rw [List.getElem?_append_left hlt, hd] at hk
      cases hk
      exact hne
    · rw [List.set_append_right _ _ hge] at heq
      have h1 := List.append_inj heq h
      rw [← h1.1, hk] at atk
      cases atk
      exact hne rfl
  · by_cases e : T.length = k
    · exact hF T (inB T (F T) X.length 35 h (by rw [← at' X.length (by omega)]; exact mid X _))
    · exact hX (inA X (F X) T.length 35 h (by rw [at' T.length e]; exact mid T _))

theorem dec_no (u : Nat) : (35 : UInt8) ∉ Lib.decDigits u := by
  intro h
  rw [Lib.decDigits_eq, List.mem_map] at h
  obtain ⟨t, _, ht⟩ := h
  unfold Lib.dg at ht
  have := congrArg UInt8.toNat ht
  simp at this
  omega

def fm (l : List UInt8) : List UInt8 := Lib.itoa (Ck.sum l)
theorem fm_no (l : List UInt8) : (35 : UInt8) ∉ fm l := by
  unfold fm
  have h := Ck.sum_bd l
  obtain ⟨u, hu⟩ : ∃ u : Nat, Ck.sum l = (u : Int) := ⟨(Ck.sum l).toNat, by omega⟩
  rw [hu, Lib.itoa_nonneg]
  exact dec_no u
theorem fm_inj (l m : List UInt8) (h : fm l = fm m) : Ck.sum l = Ck.sum m := by
  have a := Ck.sum_bd l
  have b := Ck.sum_bd m
  have e : fmtB (Ck.sum l) = fmtB (Ck.sum m) := by unfold fmtB; exact congrArg _ (congrArg _ h)
  have h1 := NumM.val_fmt (Ck.sum l) (by omega) (by omega)
  rw [e, NumM.val_fmt (Ck.sum m) (by omega) (by omega)] at h1
  exact (Option.some.inj h1).symm

theorem seal_data (t : ByteArray) : (sealB t).data.toList = t.data.toList ++ 35 :: fm t.data.toList := by
  unfold sealB fm fmtB
  simp

theorem no_of {t : ByteArray} (h : hasB t 35 = false) : (35 : UInt8) ∉ t.data.toList := by
  unfold hasB at h
  intro e
  rw [List.contains_iff_mem.2 e] at h
  cases h

/-- A sealed text with one byte changed. -/
theorem ver_changed (t s' : ByteArray) (k : Nat) (b c : UInt8) (ht : hasB t 35 = false) (hk : (sealB t).data.toList[k]? = some c) (hne : c ≠ b) (hs : s'.data.toList = (sealB t).data.toList.set k b) : verR s' = none := by
  refine VerW.ver_neq fun e => ?_
  have h2 := congrArg (fun x : ByteArray => x.data.toList) e
  simp only [seal_data] at h2 hk hs
  rw [hs] at h2
  exact changed fm fm_no fm_inj t.data.toList (before s').data.toList k b c hk hne (no_of ht) (no_of (hasB_before s')) h2.symm

end Go.Proofs.YtcilgbniahaejaaDoor.Chg
