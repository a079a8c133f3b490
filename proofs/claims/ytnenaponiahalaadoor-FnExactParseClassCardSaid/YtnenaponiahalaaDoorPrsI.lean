/- ParseInt: the model's reader and the program's text. -/
import Derived.Test.YtnenaponiahalaaDoorRd
import Derived.Test.YtnenaponiahalaaDoorFmtI
import Derived.Test.YtnenaponiahalaaDoorJoinM
import Derived.Lib.AtoiAllCases
namespace Go.Proofs.YtnenaponiahalaaDoor.Prs
open Go.RowKit Lb Fmt NumM In Rd
set_option linter.unusedSimpArgs false
set_option linter.unusedVariables false

theorem read_any (s : ByteArray) (w : World) (hs : s.size ≤ 1048576) : Calls Tryd.prog 18 #[.string s] w fun e w' => RdPost s e ∧ Still w w' := by
  have hlen : s.data.toList.length = s.size := len_list s
  by_cases h0 : s.size ≤ 1
  · exact read_one s w hs (by unfold negB; rw [decide_eq_false (by omega)]; rfl) h0
  · have h1 : 1 < s.size := by omega
    have hh : s.data.toList.head? = some s[0] := by
      have := byte_getElem? s 0 (by omega)
      rw [← this, List.head?_eq_getElem?]
    by_cases h45 : s[0] = 45
    · refine read_neg s w hs ?_ h1 (by rw [h45]; rfl)
      unfold negB; rw [decide_eq_true (by omega), hh, h45]; rfl
    · refine read_pos s w hs ?_ h1 ?_
      · unfold negB; rw [decide_eq_true (by omega), hh]; simpa using h45
      · have := u8_beq_no h45
        exact this

/-- What the library's texts lean on: its table and its two errors. -/
structure Glob (w : World) : Prop where
  tab : Tab w
  syn : ∃ tp p, w.var? Tryd.prog "strconv.ErrSyntax" = some #[.iface tp p]
  ran : ∃ tp p, w.var? Tryd.prog "strconv.ErrRange" = some #[.iface tp p]

theorem gPow : Tryd.prog.globalNamed "internal/strconv.uint64pow10" = some 1 := by kernel_rfl
theorem gSyn : Tryd.prog.globalNamed "strconv.ErrSyntax" = some 2 := by kernel_rfl
theorem gRan : Tryd.prog.globalNamed "strconv.ErrRange" = some 3 := by kernel_rfl

theorem var_lt {w : World} {n : String} {g : Nat} {cs : Array Value} (hg : Tryd.prog.globalNamed n = some g) (h : w.var? Tryd.prog n = some cs) : g < w.heap.size := by
  unfold World.var? at h
  simp only [hg, Option.bind_some] at h
  by_cases hl : g < w.heap.size
  · exact hl
  · rw [Array.getElem?_eq_none (by omega)] at h
    simp at h

theorem tab_below {w w' : World} (h : Tab w) (hb : Below w.heap.size w w') : Tab w' := var?_below hb gPow (var_lt gPow h) h
theorem Glob.below {w w' : World} (h : Glob w) (hb : Below w.heap.size w w') : Glob w' := by
  obtain ⟨h1, ⟨a, b, h2⟩, ⟨c, d, h3⟩⟩ := h
  exact ⟨tab_below h1 hb, ⟨a, b, var?_below hb gSyn (var_lt gSyn h2) h2⟩, ⟨c, d, var?_below hb gRan (var_lt gRan h3) h3⟩⟩

theorem below_bytes (w : World) (e : TypeId) (t : ByteArray) : Below w.heap.size w (Lib.bytesWorld w e t) := by
  unfold Lib.bytesWorld World.freeze
  split
  · exact (Below.refl _ _).drew.alloc (Nat.le_refl _) _
  · refine ⟨rfl, rfl, rfl, ?_, fun k hk => ?_⟩
    · simp
    · show (Array.modify _ _ _)[k]? = _
      rw [Array.getElem?_modify, if_neg (by show ¬ w.heap.size = k; omega)]
      exact Below.heap_alloc w.drew _ k hk

set_option maxHeartbeats 1000000 in
theorem implParse_any (s : ByteArray) (w : World) (hg : Glob w) (hs : s.size ≤ 1048576) : Calls Tryd.prog 22 #[.string s] w fun e w' => RdPost s e ∧ Below w.heap.size w w' := by
  obtain ⟨htab, ⟨ts, ps, hsyn⟩, ⟨tr, pr, hran⟩⟩ := hg
  cases ha : Lib.atoiAll s.data.toList with
  | ok v =>
    have hv := Lib.atoiAll_bounds ha
    have ca := Lib.hid (Tryd.strconv_Atoi_ok s (by omega) v ha w)
    have HT := Lib.hid htab
    have HA := Lib.hid ha
    clear ha hsyn hran htab
    go_enter Tryd.func22, Tryd.ntmps22
    go_wp2_with fail
    refine ca.out.mono ?_
    rintro e w1 ⟨rfl, hw1⟩
    have hb1 := Lib.hid (show Below w.heap.size w w1 from by
      rcases hw1 with rfl | ⟨t, rfl⟩
      · exact Below.refl _ _
      · exact below_bytes _ _ _)
    have HT1 := Lib.hid (tab_below HT.out hb1.out)
    clear hw1
    by_cases hr : -999999 ≤ v ∧ v ≤ 999999
    · have cf := Lib.hid (implFmt_ok v hr.1 hr.2 w1 HT1.out)
      go_wp2_with fail
      refine cf.out.mono ?_
      rintro e w2 ⟨rfl, hb2⟩
      have hb3 := Lib.hid (hb1.out.trans (hb2.mono hb1.out.size))
      clear hb2
      by_cases hf : fmtB v = s
      · have hval := Lib.hid (show val s = some v from by rw [← hf]; exact val_fmt v hr.1 hr.2)
        have hbe : (!(fmtB v).toList == s.toList) = false := by rw [hf]; simp
        clear hf
        go_wp2_with fail
        go_ret2
        exact ⟨rd_some hval.out, hb3.out⟩
      · have hval := Lib.hid (show val s = none from by
          cases hv' : val s with
          | none => rfl
          | some n =>
            obtain ⟨h1, h2, h3⟩ := val_some hv'
            have h4 := atoiAll_fmt n h1 h2
            rw [h3, HA.out] at h4
            cases h4
            exact absurd h3 hf)
        have hbe := str_neq hf
        clear hf
        go_wp2_with fail
        go_ret2
        exact ⟨rd_none hval.out, hb3.out⟩
    · have cf := Lib.hid (implFmt_no v (by simp [Lit.wf, IntKind.min, IntKind.max, IntKind.signed, IntKind.bits]; omega) (by omega) w1)
      have hval := Lib.hid (show val s = none from by
          cases hv' : val s with
          | none => rfl
          | some n =>
            obtain ⟨h1, h2, h3⟩ := val_some hv'
            have h4 := atoiAll_fmt n h1 h2
            rw [h3, HA.out] at h4
            cases h4
            exact absurd ⟨h1, h2⟩ hr)
      clear hr
      go_wp2_with fail
      refine cf.out.mono ?_
      rintro e w2 ⟨rfl, rfl⟩
      go_wp2_with fail
      go_ret2
      exact ⟨rd_none hval.out, hb1.out⟩
  | _ =>
    have hval := Lib.hid (show val s = none from by
          cases hv' : val s with
          | none => rfl
          | some n =>
            obtain ⟨h1, h2, h3⟩ := val_some hv'
            have h4 := atoiAll_fmt n h1 h2
            rw [h3, ha] at h4
            cases h4)
    first
      | have ca := Lib.hid (Tryd.strconv_Atoi_syntax_var s (by omega) ha ts ps w hsyn)
      | have ca := Lib.hid (Tryd.strconv_Atoi_range_var s (by omega) ha tr pr w hran)
    clear ha hsyn hran htab
    go_enter Tryd.func22, Tryd.ntmps22
    go_wp2_with fail
    refine ca.out.mono ?_
    rintro e w1 ⟨N, rfl, _, _, hb⟩
    go_wp2_with fail
    go_ret2
    exact ⟨rd_none hval.out, hb⟩

end Go.Proofs.YtnenaponiahalaaDoor.Prs
