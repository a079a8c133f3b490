/- A class read from its text: plain lemmas. -/
import Derived.Test.YtleoljnofdajfaaGreatDoorKtQ
import Derived.Test.YtleoljnofdajfaaGreatDoorRpM
namespace Go.Proofs.YtleoljnofdajfaaGreatDoor.KpM
open Go.RowKit Lb Bk InA Wd KlK KlI Fmt NumM KtT KtQ PfM
open RpM (int_size num_clean word_clean nd_le)
set_option linter.unusedSimpArgs false
set_option linter.unusedVariables false

def bW : ByteArray := ⟨#[119]⟩
def bM : ByteArray := ⟨#[109]⟩
def cutA (x : ByteArray) : ByteArray := ⟨(Lib.cut x.data.toList [45]).1.toArray⟩
def cutB (x : ByteArray) : ByteArray := ⟨(Lib.cut x.data.toList [45]).2.1.toArray⟩
def hasC (x : ByteArray) (c : UInt8) : Bool := decide (0 ≤ Lib.indexByte x.data.toList c)
def vz (x : ByteArray) : Int := (val x).getD 0
/-- What is read off words: by the model, by the program. -/
def mkS (ws ag : List ByteArray) : Kl := ⟨vz (sAt ws 0), sAt ws 1, vz (sAt ag 0), vz (sAt ag 1), !(decide (sAt ws 3 = bM)), !(decide (sAt ws 3 = bW)), vz (sAt ws 5), vz (sAt ws 7)⟩
def mkI (ws : List ByteArray) : Kl := ⟨vz (sAt ws 0), sAt ws 1, vz (cutA (sAt ws 2)), vz (cutB (sAt ws 2)), hasC (sAt ws 3) 119, hasC (sAt ws 3) 109, vz (sAt ws 5), vz (sAt ws 7)⟩
def canS (s : ByteArray) : Kl := mkS (parts s 32) (parts (sAt (parts s 32) 2) 45)
def canI (s : ByteArray) : Kl := mkI (parts s 32)
/-- Whether a text is a class's: as the model asks it, as the program does. -/
def okS (s : ByteArray) : Bool := decide (s.size ≤ 60 ∧ (parts s 32).length = 8 ∧ (parts (sAt (parts s 32) 2) 45).length = 2) && (okK (canS s) && decide (txK (canS s) = s))
def okI (s : ByteArray) : Bool := decide (s.size ≤ 4000 ∧ (parts s 32).length = 8) && (okK (canI s) && decide (txK (canI s) = s))
def ansK (s : ByteArray) : Kl := if okS s then canS s else no

theorem tx_small {r : Kl} (h : okK r = true) : (txK r).size ≤ 60 := by
  obtain ⟨hid1, hid2⟩ := ok_id h
  obtain ⟨hlo, hlh, hhi⟩ := ok_ages h
  obtain ⟨hco1, hco2⟩ := ok_co h
  obtain ⟨hmo1, hmo2⟩ := ok_mo h
  have hn := word_size (ok_word h)
  have s1 := int_size (z := r.id) (k := 3) (by omega) (by omega) (by omega)
  have s2 := int_size (z := r.lo) (k := 3) (by omega) (by omega) (by omega)
  have s3 := int_size (z := r.hi) (k := 3) (by omega) (by omega) (by omega)
  have s4 := int_size (z := r.co) (k := 3) (by omega) (by omega) (by omega)
  have s5 := int_size (z := r.mo) (k := 3) (by omega) (by omega) (by omega)
  have s6 : (sxK r).size ≤ 3 := by unfold sxK; split <;> (try split) <;> decide
  unfold txK tK
  simp only [ByteArray.size_append]
  show _ + 1 + _ + 1 + _ + 1 + _ + _ + 8 + _ + 6 + _ ≤ 60
  omega

def sxOf (r : Kl) : ByteArray := if r.wo then (if r.me then ⟨#[119, 109]⟩ else ⟨#[119]⟩) else ⟨#[109]⟩
theorem sx_eq (r : Kl) : sxK r = (⟨#[32]⟩ ++ sxOf r : ByteArray) := by unfold sxK sxOf; split <;> (try split) <;> rfl
theorem sx_no32 (r : Kl) : (32 : UInt8) ∉ (sxOf r).data.toList := by unfold sxOf; split <;> (try split) <;> decide
theorem dec_no45 (u : Nat) : (45 : UInt8) ∉ Lib.decDigits u := by
  rw [Lib.decDigits_eq]
  intro h
  obtain ⟨t, _, e⟩ := List.mem_map.1 h
  have h1 := congrArg UInt8.toNat e
  unfold Lib.dg at h1
  simp at h1
  omega
theorem num_no45 (z : Int) (h0 : 0 ≤ z) : (45 : UInt8) ∉ (fmtB z).data.toList := by
  obtain ⟨u, rfl⟩ : ∃ u : Nat, z = (u : Int) := ⟨z.toNat, by omega⟩
  rw [fmtB_data, Lib.itoa_nonneg]
  exact dec_no45 u
theorem ag_list (r : Kl) : (agK r).data.toList = (fmtB r.lo).data.toList ++ 45 :: (fmtB r.hi).data.toList := by
  unfold agK
  simp [ByteArray.data_append]
theorem ag_no32 {r : Kl} (h : okK r = true) : (32 : UInt8) ∉ (agK r).data.toList := by
  obtain ⟨hlo, hlh, hhi⟩ := ok_ages h
  have h1 := num_clean r.lo (by omega) (by omega)
  have h2 := num_clean r.hi (by omega) (by omega)
  rw [ag_list]
  intro m
  rcases List.mem_append.1 m with m | m
  · exact h1 m
  · rcases List.mem_cons.1 m with m | m
    · exact absurd m (by decide)
    · exact h2 m
theorem tx_list (r : Kl) : (txK r).data.toList = Lib.join ((ws r (agK r) (sxOf r)).map (·.data.toList)) [32] := by
  have h := KtQ.join8 r (sxOf r) (sx_eq r)
  have h8 : (ws r (agK r) (sxOf r)).length = 8 := rfl
  have key : txK r = jn ⟨#[32]⟩ (ws r (agK r) (sxOf r)) (ws r (agK r) (sxOf r)).length := by rw [h8]; exact h.symm
  rw [key, jn_data _ _ _ (Nat.le_refl _), List.take_length]
theorem parts_tx {r : Kl} (h : okK r = true) : parts (txK r) 32 = ws r (agK r) (sxOf r) := by
  obtain ⟨hid1, hid2⟩ := ok_id h
  obtain ⟨hco1, hco2⟩ := ok_co h
  obtain ⟨hmo1, hmo2⟩ := ok_mo h
  have h1 := num_clean r.id (by omega) (by omega)
  have h2 := num_clean r.co (by omega) (by omega)
  have h3 := num_clean r.mo (by omega) (by omega)
  have h4 := word_clean (ok_word h)
  have h5 := ag_no32 h
  have h6 := sx_no32 r
  refine map_inj ?_
  rw [parts_spl, tx_list, spl_join]
  · simp [ws]
  · intro w hw
    obtain ⟨x, hx, rfl⟩ := List.mem_map.1 hw
    simp only [ws, List.mem_cons, List.not_mem_nil, or_false] at hx
    rcases hx with rfl | rfl | rfl | rfl | rfl | rfl | rfl | rfl
    · exact h1
    · exact h4
    · exact h5
    · exact h6
    · decide
    · exact h2
    · decide
    · exact h3
theorem parts_ag {r : Kl} (h : okK r = true) : parts (agK r) 45 = [fmtB r.lo, fmtB r.hi] := by
  obtain ⟨hlo, hlh, hhi⟩ := ok_ages h
  refine map_inj ?_
  rw [parts_spl, ag_list, spl_sep, spl_clean _ _ (num_no45 r.lo (by omega)), spl_clean _ _ (num_no45 r.hi (by omega))]
  rfl
theorem index_sep (c : UInt8) (b : List UInt8) : ∀ a : List UInt8, c ∉ a → Lib.indexByte (a ++ c :: b) c = (a.length : Int)
  | [], _ => by simp [Lib.indexByte]
  | x :: a, h => by
    have h1 : c ∉ a := fun m => h (List.mem_cons_of_mem _ m)
    have h2 : (x == c) = false := by
      rw [beq_eq_false_iff_ne]
      exact fun e => h (by rw [e]; exact List.mem_cons_self)
    have ih := index_sep c b a h1
    rw [List.cons_append, Lib.indexByte, ih]
    simp [h2]
    try omega
theorem cut_ag {r : Kl} (h : okK r = true) : cutA (agK r) = fmtB r.lo ∧ cutB (agK r) = fmtB r.hi := by
  obtain ⟨hlo, hlh, hhi⟩ := ok_ages h
  have hi := index_sep 45 (fmtB r.hi).data.toList _ (num_no45 r.lo (by omega))
  have hc : Lib.cut (agK r).data.toList [45] = ((fmtB r.lo).data.toList, (fmtB r.hi).data.toList, true) := by
    unfold Lib.cut
    rw [Lib.index_one, ag_list, hi, if_pos (by omega)]
    simp [List.take_append, List.drop_append]
  unfold cutA cutB
  rw [hc]
  exact ⟨rfl, rfl⟩
theorem sx_both {r : Kl} (h : okK r = true) : (!(decide (sxOf r = bM))) = hasC (sxOf r) 119 ∧ (!(decide (sxOf r = bW))) = hasC (sxOf r) 109 := by
  have hs := ok_sex h
  unfold sxOf
  cases hw : r.wo with
  | true =>
    cases hm : r.me with
    | true => exact ⟨by decide, by decide⟩
    | false => exact ⟨by decide, by decide⟩
  | false =>
    cases hm : r.me with
    | true => exact ⟨by decide, by decide⟩
    | false => rw [hw, hm] at hs; cases hs
theorem can_same {s : ByteArray} {c : Kl} (h : okK c = true) (ht : txK c = s) : canS s = canI s ∧ s.size ≤ 60 ∧ (parts s 32).length = 8 ∧ (parts (sAt (parts s 32) 2) 45).length = 2 := by
  have hz := tx_small h
  have hp := parts_tx h
  have ha := parts_ag h
  obtain ⟨hc1, hc2⟩ := cut_ag h
  obtain ⟨hx1, hx2⟩ := sx_both h
  subst ht
  have e2 : sAt (ws c (agK c) (sxOf c)) 2 = agK c := rfl
  have e3 : sAt (ws c (agK c) (sxOf c)) 3 = sxOf c := rfl
  refine ⟨?_, hz, by rw [hp]; rfl, by rw [hp, e2, ha]; rfl⟩
  unfold canS canI mkS mkI
  rw [hp, e2, e3, ha, hc1, hc2, hx1, hx2]
  rfl
theorem ok_same (s : ByteArray) : okI s = okS s := by
  cases hk : okI s with
  | true =>
    have h := hk
    unfold okI at h
    rw [Bool.and_eq_true, Bool.and_eq_true] at h
    have ht := of_decide_eq_true h.2.2
    obtain ⟨h1, h2, h3, h4⟩ := can_same h.2.1 ht
    unfold okS
    rw [h1, h.2.1, h.2.2, decide_eq_true ⟨h2, h3, h4⟩]
    rfl
  | false =>
    cases hs : okS s with
    | false => rfl
    | true =>
      have h := hs
      unfold okS at h
      rw [Bool.and_eq_true, Bool.and_eq_true] at h
      have ht := of_decide_eq_true h.2.2
      obtain ⟨h1, h2, h3, h4⟩ := can_same h.2.1 ht
      rw [← hk]
      unfold okI
      rw [← h1, h.2.1, h.2.2, decide_eq_true (show s.size ≤ 4000 ∧ (parts s 32).length = 8 from ⟨by omega, h3⟩)]
      rfl
theorem ans_I (s : ByteArray) : ansK s = if okI s then canI s else no := by
  unfold ansK
  rw [← ok_same]
  cases hk : okI s with
  | false => rfl
  | true =>
    have h := hk
    unfold okI at h
    rw [Bool.and_eq_true, Bool.and_eq_true] at h
    exact (can_same h.2.1 (of_decide_eq_true h.2.2)).1
theorem ans_no {s : ByteArray} (h : okS s = false) : ansK s = no := by unfold ansK; rw [h]; rfl
theorem ans_yes {s : ByteArray} (h : okS s = true) : ansK s = canS s := by unfold ansK; rw [h]; rfl
theorem mq {x : ByteArray} : (x.toList == [109]) = decide (x = bM) := by
  by_cases h : x = bM
  · rw [decide_eq_true h, h, ByteArray.toList_eq]; rfl
  · rw [decide_eq_false h]
    have := str_beq h
    rwa [show bM.toList = [109] from by rw [ByteArray.toList_eq]; rfl] at this
theorem wq {x : ByteArray} : (x.toList == [119]) = decide (x = bW) := by
  by_cases h : x = bW
  · rw [decide_eq_true h, h, ByteArray.toList_eq]; rfl
  · rw [decide_eq_false h]
    have := str_beq h
    rwa [show bW.toList = [119] from by rw [ByteArray.toList_eq]; rfl] at this
theorem cut_size (x : ByteArray) : (cutA x).size ≤ x.size ∧ (cutB x).size ≤ x.size := by
  have h : ∀ l : List UInt8, (Lib.cut l [45]).1.length ≤ l.length ∧ (Lib.cut l [45]).2.1.length ≤ l.length := by
    intro l
    unfold Lib.cut
    split
    · exact ⟨by rw [List.length_take]; exact Nat.min_le_right _ _, by rw [List.length_drop]; exact Nat.sub_le _ _⟩
    · exact ⟨Nat.le_refl _, Nat.zero_le _⟩
  have hx := h x.data.toList
  have hl : x.data.toList.length = x.size := Array.length_toList
  rw [hl] at hx
  exact ⟨show ((Lib.cut x.data.toList [45]).1.toArray).size ≤ x.size from by rw [List.size_toArray]; exact hx.1, show ((Lib.cut x.data.toList [45]).2.1.toArray).size ≤ x.size from by rw [List.size_toArray]; exact hx.2⟩
theorem mkS_is {s : ByteArray} (hs : s.size ≤ 1048576) (ag : List ByteArray) : Is (mkS (parts s 32) ag) := by
  have ht := parts_total s 32
  have h1 := sAt_le (parts s 32) 1
  exact ⟨show (sAt (parts s 32) 1).size ≤ maxLen from by unfold maxLen; omega⟩
theorem mkI_is {s : ByteArray} (hs : s.size ≤ 1048576) : Is (mkI (parts s 32)) := by
  have ht := parts_total s 32
  have h1 := sAt_le (parts s 32) 1
  exact ⟨show (sAt (parts s 32) 1).size ≤ maxLen from by unfold maxLen; omega⟩
end Go.Proofs.YtleoljnofdajfaaGreatDoor.KpM
