/- A runner read from its text: plain lemmas. -/
import Derived.Test.YtnenaponiahalaaDoorRuQ
import Derived.Test.YtnenaponiahalaaDoorSplK
import Derived.Test.YtnenaponiahalaaDoorSpM
import Derived.Test.YtnenaponiahalaaDoorPrsI
namespace Go.Proofs.YtnenaponiahalaaDoor.RpM
open Go.RowKit Lb Bk InA Wd RuK RuI Fmt NumM RuT PfM
set_option linter.unusedSimpArgs false
set_option linter.unusedVariables false

def wB : ByteArray := ⟨#[119]⟩
/-- What is read off words. -/
def mk (ws : List ByteArray) : Ru := ⟨(val (sAt ws 0)).getD 0, sAt ws 1, sAt ws 3, (val (sAt ws 4)).getD 0, decide (sAt ws 5 = wB), if ws.length = 8 then (val (sAt ws 7)).getD 0 else 0⟩
def canR (s : ByteArray) : Ru := mk (parts s 32)
/-- Whether a text is a runner's: as the model asks it, as the program does. -/
def okS (s : ByteArray) : Bool := decide (s.size ≤ 60 ∧ ((parts s 32).length = 6 ∨ (parts s 32).length = 8)) && (okR (canR s) && decide (txR (canR s) = s))
def okI (s : ByteArray) : Bool := decide (s.size ≤ 4000 ∧ 6 ≤ (parts s 32).length) && (okR (canR s) && decide (txR (canR s) = s))
def ansR (s : ByteArray) : Ru := if okS s then canR s else no

theorem nd_le {n k : Nat} (h : n < 10 ^ k) (hk : 0 < k) : (fmtB (n : Int)).size ≤ k := by
  have h1 := nDigits_le k n h hk
  have h2 : (fmtB (n : Int)).size = (Lib.itoa (n : Int)).length := by rw [← fmtB_data]; exact Array.length_toList.symm
  rw [h2, Lib.itoa_nonneg, Lib.decDigits_length]
  exact h1
theorem int_size {z : Int} {k : Nat} (h0 : 0 ≤ z) (h : z.toNat < 10 ^ k) (hk : 0 < k) : (fmtB z).size ≤ k := by
  have := nd_le h hk
  rwa [Int.toNat_of_nonneg h0] at this
theorem tx_size {r : Ru} (h : okR r = true) : (txR r).size ≤ 60 := by
  obtain ⟨hid, hnm, hcl, hbo, hca⟩ := ok_parts h
  have hn := word_size hnm
  have hc := word_size hcl
  have s1 := int_size (z := r.id) (k := 3) (by omega) (by omega) (by omega)
  have s2 := int_size (z := r.bo) (k := 4) (by omega) (by omega) (by omega)
  have s3 := int_size (z := r.ca) (k := 4) (by omega) (by omega) (by omega)
  have e : (tB r).size ≤ 40 := by
    unfold tB tA
    simp only [ByteArray.size_append]
    have : (if r.wo then (⟨#[32, 119]⟩ : ByteArray) else ⟨#[32, 109]⟩).size = 2 := by split <;> rfl
    rw [this]
    show _ + 1 + _ + 4 + _ + 1 + _ + 2 ≤ 40
    omega
  unfold txR
  split
  · omega
  · simp only [ByteArray.size_append]
    show _ + 6 + _ ≤ 60
    omega

theorem dec_no32 (u : Nat) : (32 : UInt8) ∉ Lib.decDigits u := by
  rw [Lib.decDigits_eq]
  intro h
  obtain ⟨t, _, e⟩ := List.mem_map.1 h
  have h1 := congrArg UInt8.toNat e
  unfold Lib.dg at h1
  simp at h1
  omega
theorem num_clean (z : Int) (h0 : 0 ≤ z) (h1 : z ≤ 9999) : (32 : UInt8) ∉ (fmtB z).data.toList := by
  obtain ⟨u, rfl⟩ : ∃ u : Nat, z = (u : Int) := ⟨z.toNat, by omega⟩
  rw [fmtB_data, Lib.itoa_nonneg]
  exact dec_no32 u
theorem word_clean {x : ByteArray} (h : wordB x = true) : (32 : UInt8) ∉ x.data.toList := by
  intro m
  obtain ⟨k, hk, e⟩ := List.mem_iff_getElem.1 m
  have hk' : k < x.size := by have h := Rd.len_list x; omega
  have := (of_decide_eq_true h : WordP x).2 k hk' hk'
  have e2 : x[k] = 32 := by rw [← e]; rfl
  rw [e2] at this
  exact absurd this.1 (by decide)

def sxOf (r : Ru) : ByteArray := if r.wo then ⟨#[119]⟩ else ⟨#[109]⟩
theorem sx_eq (r : Ru) : (if r.wo then (⟨#[32, 119]⟩ : ByteArray) else ⟨#[32, 109]⟩) = ⟨#[32]⟩ ++ sxOf r := by unfold sxOf; split <;> rfl
/-- The words of a runner. -/
def wsR (r : Ru) : List ByteArray := if r.ca = 0 then RuQ.ws r (sxOf r) else RuQ.ws r (sxOf r) ++ [⟨#[99, 97, 114, 100]⟩, fmtB r.ca]
theorem wsR_len (r : Ru) : (wsR r).length = if r.ca = 0 then 6 else 8 := by unfold wsR; split <;> rfl
theorem tx_join (r : Ru) : (txR r).data.toList = Lib.join ((wsR r).map (·.data.toList)) [32] := by
  have h6 := RuQ.join6 r (sxOf r) (sx_eq r)
  have key : txR r = jn ⟨#[32]⟩ (wsR r) (wsR r).length := by
    unfold txR wsR
    split
    · exact h6.symm
    · exact (RuQ.join8 r (sxOf r) h6).symm
  rw [key, jn_data _ _ _ (Nat.le_refl _), List.take_length]
theorem ws_clean {r : Ru} (h : okR r = true) : ∀ x ∈ wsR r, (32 : UInt8) ∉ x.data.toList := by
  obtain ⟨hid, hnm, hcl, hbo, hca⟩ := ok_parts h
  have h1 := num_clean r.id (by omega) (by omega)
  have h2 := num_clean r.bo (by omega) (by omega)
  have h3 := num_clean r.ca (by omega) (by omega)
  have h4 := word_clean hnm
  have h5 := word_clean hcl
  have h6 : (32 : UInt8) ∉ (sxOf r).data.toList := by unfold sxOf; split <;> decide
  have key : ∀ x ∈ RuQ.ws r (sxOf r), (32 : UInt8) ∉ x.data.toList := by
    intro x hx
    simp only [RuQ.ws, List.mem_cons, List.not_mem_nil, or_false] at hx
    rcases hx with rfl | rfl | rfl | rfl | rfl | rfl
    · exact h1
    · exact h4
    · decide
    · exact h5
    · exact h2
    · exact h6
  unfold wsR
  split
  · exact key
  · intro x hx
    rcases List.mem_append.1 hx with hx | hx
    · exact key x hx
    · simp only [List.mem_cons, List.not_mem_nil, or_false] at hx
      rcases hx with rfl | rfl
      · decide
      · exact h3
theorem parts_tx {r : Ru} (h : okR r = true) : parts (txR r) 32 = wsR r := by
  refine map_inj ?_
  rw [parts_spl, tx_join, spl_join]
  · unfold wsR; split <;> simp [RuQ.ws]
  · intro w hw
    obtain ⟨x, hx, rfl⟩ := List.mem_map.1 hw
    exact ws_clean h x hx

/-- Both ask the same. -/
theorem ok_same (s : ByteArray) : okI s = okS s := by
  cases hk : (okR (canR s) && decide (txR (canR s) = s)) with
  | false => unfold okI okS; rw [hk, Bool.and_false, Bool.and_false]
  | true =>
    rw [Bool.and_eq_true] at hk
    have ht := of_decide_eq_true hk.2
    have hs := tx_size hk.1
    have hp := parts_tx hk.1
    have hl := wsR_len (canR s)
    rw [ht] at hs hp
    rw [← hp] at hl
    have h68 : (parts s 32).length = 6 ∨ (parts s 32).length = 8 := by
      rw [hl]; split
      · exact .inl rfl
      · exact .inr rfl
    unfold okI okS
    rw [decide_eq_true (show s.size ≤ 4000 ∧ 6 ≤ (parts s 32).length by omega), decide_eq_true (show s.size ≤ 60 ∧ ((parts s 32).length = 6 ∨ (parts s 32).length = 8) from ⟨hs, h68⟩)]
theorem wq {x : ByteArray} : (x.toList == [119]) = decide (x = wB) := by
  by_cases h : x = wB
  · rw [decide_eq_true h, h, ByteArray.toList_eq]; rfl
  · rw [decide_eq_false h]
    have := str_beq h
    rwa [show wB.toList = [119] from by rw [ByteArray.toList_eq]; rfl] at this
end Go.Proofs.YtnenaponiahalaaDoor.RpM
