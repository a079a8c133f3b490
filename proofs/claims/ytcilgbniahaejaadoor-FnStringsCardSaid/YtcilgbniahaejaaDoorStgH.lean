/- Formatting and parsing are inverse, sealing and verifying are inverse: what the walk uses. -/
import Derived.Test.YtcilgbniahaejaaDoorDrwS
import Derived.Test.YtcilgbniahaejaaDoorChg
import Derived.Test.YtcilgbniahaejaaDoorPrs
import Derived.Test.YtcilgbniahaejaaDoorTab
import Derived.Lib.ConvBytes
namespace Go.Proofs.YtcilgbniahaejaaDoor.StgH
open Go.RowKit Lb Cur DrwS Fmt SealM SealW VerW NumM Rd Prs
set_option linter.unusedSimpArgs false
set_option linter.unusedVariables false

theorem fmt_both (z : Int) (h0 : -1000000 ≤ z) (h1 : z ≤ 1000000) : ∃ (s : ByteArray) (ok : Bool), s.size ≤ 8 ∧ (ok = true → val s = some z) ∧
    (∀ w, Tab w → Calls Tryd.prog 10 #[.int .i64 z] w fun e w' => e = .returned (.tuple #[.string s, .bool ok]) ∧ Below w.heap.size w w') ∧
    (∀ w, Calls Tryd.prog 11 #[.int .i64 z] w fun e w' => e = .returned (.tuple #[.string s, .bool ok]) ∧ Below w.heap.size w w') := by
  by_cases h : -999999 ≤ z ∧ z ≤ 999999
  · exact ⟨fmtB z, true, fmtB_size z (by omega) (by omega), fun _ => val_fmt z h.1 h.2, fun w ht => implFmt_ok z h.1 h.2 w ht, fun w => (specFmt_ok z h.1 h.2 w).mono fun e w' ⟨a, b⟩ => ⟨a, b.below _⟩⟩
  · have hwf : (Lit.int .i64 z).wf = true := by simp [Lit.wf, IntKind.min, IntKind.max, IntKind.signed, IntKind.bits]; omega
    have h' : z < -999999 ∨ 999999 < z := by
      by_cases e : z < -999999
      · exact .inl e
      · exact .inr (by
          by_cases e2 : 999999 < z
          · exact e2
          · exact absurd ⟨by omega, by omega⟩ h)
    refine ⟨ByteArray.empty, false, Nat.zero_le _, (by intro e; cases e), fun w _ => (implFmt_no z hwf h' w).mono ?_, fun w => (specFmt_no z hwf h' w).mono ?_⟩
    all_goals
      rintro e w' ⟨a, rfl⟩
      exact ⟨a, Below.refl _ _⟩

theorem before_seal (t : ByteArray) (h : hasB t 35 = false) : before (sealB t) = t := by
  have hs := seal_size t
  have hd := Chg.seal_data t
  have hl : t.data.toList.length = t.size := by simp
  have hj : t.size < (sealB t).size := by omega
  have at' : ∀ i (hi : i < (sealB t).size), (sealB t).data.toList[i]? = some (sealB t)[i] := fun i hi => by
    simp [ByteArray.getElem_eq_getElem_data]
  have hc : (sealB t)[t.size] = 35 := by
    have h1 := at' t.size hj
    rw [hd, List.getElem?_append_right (by omega), hl] at h1
    simpa using h1.symm
  rw [before_first hj hc (fun i hi hi' => ?_)]
  · have e : (sealB t) = t ++ (⟨#[35]⟩ ++ fmtB (Ck.sum t.data.toList)) := by unfold sealB; rw [ByteArray.append_assoc]
    rw [e]
    apply ByteArray.ext
    simp
  · intro e
    have h1 := at' i hi'
    rw [hd, List.getElem?_append_left (by omega), e] at h1
    exact Chg.no_of h (List.mem_of_getElem? h1)

/-- What a sealed text is. -/
theorem sealed {x y : ByteArray} (h : appR x = some y) : y = sealB x ∧ hasB x 35 = false ∧ y.size ≤ 4000 ∧ verR y = some x ∧ 0 < y.size := by
  unfold appR at h
  split at h
  · rename_i hc
    cases h
    have hb := before_seal x hc.2.1
    have hz := seal_size x
    refine ⟨rfl, hc.2.1, hc.2.2, ?_, by omega⟩
    rw [ver_eq hc.2.2 (by rw [hb]), hb]
  · cases h

/-- The bytes of a text, in new memory. -/
theorem to_bytes (w : World) (y : ByteArray) : ∃ (wB : World) (cap : Nat),
    (convert 9 22 (.string y)).run Tryd.prog w = .ok (.slice (some ⟨w.heap.size, 0, none⟩) y.size cap) wB ∧
    (∀ j, j < y.size → wB.cell? ⟨w.heap.size, j, none⟩ = some (.int .u8 (y.data.toList.getD j 0).toNat)) ∧
    (∀ j, j < y.size → wB.frozen? ⟨w.heap.size, j, none⟩ = false) ∧ Below w.heap.size w wB := by
  refine ⟨_, _, Lib.run_convert_string_bytes w 9 22 5 y Tryd.underlying9 Tryd.underlying22 Tryd.underlying5, fun j hj => Lib.bytesWorld_cell w _ y j hj, fun j hj => ?_, below_bytes w _ y⟩
  have hsz : y.size ≤ (Lib.bytesCells w 5 y).size := by
    unfold Lib.bytesCells
    simp
  simp only [World.frozen?, Lib.bytesWorld_at_new]
  simp
  omega

/-- The numbers of a text's bytes, one changed. -/
def numsC (y : ByteArray) (k : Nat) (v : Int) : List Int := (y.data.toList.map fun b => (b.toNat : Int)).set k v

theorem numsC_back (y : ByteArray) (k : Nat) (b : UInt8) : (strOfNums (numsC y k (b.toNat : Int))).data.toList = y.data.toList.set k b := by
  rw [strOfNums_data]
  unfold numsC
  rw [List.map_set, List.map_map]
  congr 1
  · conv => rhs; rw [← List.map_id y.data.toList]
    apply List.map_congr_left
    intro a _
    simp
  · simp

theorem numsC_at (y : ByteArray) (k : Nat) (b : UInt8) (j : Nat) (hj : j < y.size) : (numsC y k (b.toNat : Int)).getD j 0 = if j = k then (b.toNat : Int) else ((y.data.toList.getD j 0).toNat : Int) := by
  have hl : j < y.data.toList.length := by simpa using hj
  unfold numsC
  rw [List.getD_eq_getElem?_getD, List.getElem?_set]
  by_cases h : j = k
  · subst h
    simp [hj]
  · have h' : ¬ k = j := fun e => h e.symm
    simp [h, h', hj]

theorem numsC_length (y : ByteArray) (k : Nat) (v : Int) : (numsC y k v).length = y.size := by simp [numsC]

theorem xor_byte (o : UInt8) (v : Nat) (hv : v ≤ 255) : ∃ b : UInt8, o ≠ b ∧ bits BinOp.xor IntKind.u8 (o.toNat : Int) (IntKind.u8.wrap (IntKind.i64.wrap (1 + (v : Int).tmod 255))) = (b.toNat : Int) := by
  have e1 : (v : Int).tmod 255 = ((v % 255 : Nat) : Int) := by rw [Int.tmod_eq_emod_of_nonneg (by omega)]; rfl
  have hd : v % 255 < 255 := Nat.mod_lt _ (by decide)
  rw [e1]
  generalize v % 255 = r at hd
  have e2 : IntKind.u8.wrap (IntKind.i64.wrap (1 + (r : Int))) = 1 + (r : Int) := by
    simp only [IntKind.wrap, IntKind.signed, IntKind.bits]
    simp
    omega
  rw [e2]
  have hO : BitVec.ofInt 8 (o.toNat : Int) = o.toBitVec := by
    apply BitVec.eq_of_toNat_eq
    rw [BitVec.toNat_ofInt]
    have := o.toNat_lt
    have h2 : o.toBitVec.toNat = o.toNat := rfl
    omega
  have hD : (BitVec.ofInt 8 (1 + (r : Int))).toNat = 1 + r := by
    rw [BitVec.toNat_ofInt]
    omega
  refine ⟨⟨BitVec.ofInt 8 (o.toNat : Int) ^^^ BitVec.ofInt 8 (1 + (r : Int))⟩, fun e => ?_, ?_⟩
  · have h1 : o.toBitVec = o.toBitVec ^^^ BitVec.ofInt 8 (1 + (r : Int)) := by
      have := congrArg UInt8.toBitVec e
      rw [hO] at this
      exact this
    have h2 : BitVec.ofInt 8 (1 + (r : Int)) = 0#8 := by
      have : o.toBitVec ^^^ (o.toBitVec ^^^ BitVec.ofInt 8 (1 + (r : Int))) = BitVec.ofInt 8 (1 + (r : Int)) := by
        rw [← BitVec.xor_assoc, BitVec.xor_self, BitVec.zero_xor]
      rw [← h1, BitVec.xor_self] at this
      exact this.symm
    rw [h2] at hD
    simp at hD
    omega
  · have e : bits BinOp.xor IntKind.u8 (o.toNat : Int) (1 + (r : Int)) = IntKind.u8.wrap (((BitVec.ofInt 8 (o.toNat : Int) ^^^ BitVec.ofInt 8 (1 + (r : Int))).toNat : Nat) : Int) := rfl
    rw [e]
    have hlt := (BitVec.ofInt 8 (o.toNat : Int) ^^^ BitVec.ofInt 8 (1 + (r : Int))).isLt
    show _ = (((BitVec.ofInt 8 (o.toNat : Int) ^^^ BitVec.ofInt 8 (1 + (r : Int))).toNat : Nat) : Int)
    generalize (BitVec.ofInt 8 (o.toNat : Int) ^^^ BitVec.ofInt 8 (1 + (r : Int))).toNat = q at hlt
    simp only [IntKind.wrap, IntKind.signed, IntKind.bits]
    simp
    omega

end Go.Proofs.YtcilgbniahaejaaDoor.StgH
