/- Sheets: what they are. -/
import Derived.Test.YtpfjdlaaakkimaaDoorTxF
import Derived.Test.YtpfjdlaaakkimaaDoorFsO
namespace Go.Proofs.YtpfjdlaaakkimaaDoor.ShtM
open Go.RowKit Lb Bk FtS FtL Fmt TxF
set_option linter.unusedSimpArgs false
set_option linter.unusedVariables false

/-- A line of a sheet. -/
def ln (h : Nat → Ft) (i : Nat) : ByteArray := dec (i + 1) ++ ((⟨#[46, 32]⟩ : ByteArray) ++ (cod (h i) ++ (txF (h i) ++ (⟨#[10]⟩ : ByteArray))))
/-- The first 'k' lines. -/
def sh (h : Nat → Ft) : Nat → ByteArray
  | 0 => ⟨#[]⟩
  | k + 1 => sh h k ++ ln h k
/-- What is asked of the feature at a place. -/
def Gd (h : Nat → Ft) (i : Nat) : Prop := okF (h i) = true ∧ ∀ k, k < i → (h k).c ≠ (h i).c
theorem ln_size {h : Nat → Ft} {i : Nat} (g : okF (h i) = true) (hi : i ≤ 1000) : (ln h i).size ≤ 70 := by
  have hk : OkF (h i) := of_decide_eq_true g
  unfold ln
  rw [ByteArray.size_append, ByteArray.size_append, ByteArray.size_append, ByteArray.size_append]
  have h1 := dec_size (i + 1) (by omega)
  have h2 := cod_size hk
  have h3 := txF_size hk.short
  have h4 : (⟨#[46, 32]⟩ : ByteArray).size = 2 := rfl
  have h5 : (⟨#[10]⟩ : ByteArray).size = 1 := rfl
  omega
theorem sh_size {h : Nat → Ft} : ∀ {k : Nat}, (∀ i, i < k → Gd h i) → k ≤ 1000 → (sh h k).size ≤ 70 * k
  | 0, _, _ => Nat.zero_le _
  | k + 1, hg, hk => by
    have ih := sh_size (k := k) (fun i hi => hg i (by omega)) (by omega)
    have hl := ln_size (hg k (by omega)).1 (by omega)
    rw [sh, ByteArray.size_append]
    omega
theorem dec_le (i : Nat) (hi : i ≤ 1000) : (dec (i + 1)).size ≤ 7 := dec_size _ (by omega)
theorem itoa_n (i : Nat) (hi : i < 99) (w : World) : Calls Tryd.prog 42 #[.int .i64 (i + 1 : Nat)] w fun e w' => e = .returned (.string (dec (i + 1))) ∧ w' = w := Tryd.strconv_Itoa_small (i + 1) (by omega) w
theorem num_n (i : Nat) (hi : i ≤ 1000) (w : World) : Calls Tryd.prog 45 #[.int .i64 (i + 1 : Nat)] w fun e w' => e = .returned (.string (dec (i + 1))) ∧ Still w w' := by
  rw [← fmtB_nat]
  exact num_any _ (by omega) (by omega) w

end Go.Proofs.YtpfjdlaaakkimaaDoor.ShtM
