/- Both readings answer alike. -/
import Derived.Test.YtpfjdlaaakkimaaDoorPfS
namespace Go.Proofs.YtpfjdlaaakkimaaDoor.PfE
open Go.RowKit Lb Bk Fmt NumM TxF PfM PfC Word Rd SplC PfI PfS
set_option linter.unusedSimpArgs false
set_option linter.unusedVariables false

def foldS (f : Ft) (p : ByteArray) : List ByteArray → Ft
  | [] => f
  | x :: r => foldS (stepS f p x) x r
theorem fk_shift (w0 x : ByteArray) (r : List ByteArray) (f0 : Ft) : ∀ k, fkS (w0 :: x :: r) f0 (k + 1) = fkS (x :: r) (stepS f0 w0 x) k
  | 0 => rfl
  | k + 1 => by
    show stepS (fkS (w0 :: x :: r) f0 (k + 1)) _ _ = stepS (fkS (x :: r) (stepS f0 w0 x) k) _ _
    rw [fk_shift w0 x r f0 k]
    rfl
theorem fk_fold : ∀ (r : List ByteArray) (w0 : ByteArray) (f0 : Ft), fkS (w0 :: r) f0 r.length = foldS f0 w0 r
  | [], _, _ => rfl
  | x :: r, w0, f0 => by
    show fkS (w0 :: x :: r) f0 (r.length + 1) = foldS (stepS f0 w0 x) x r
    rw [fk_shift, fk_fold r x]
theorem which_fam {x : ByteArray} (h : x ∈ whichs) : ¬ fam x < 5 := fun k => what_which k h
theorem look_fam {x : ByteArray} (h : x ∈ looks) : ¬ fam x < 5 := fun k => what_look k h
theorem st_wh {g : Ft} {p x : ByteArray} (hp : p ≠ side) (h : x ∈ whichs) : stepS g p x = ⟨g.c, x, g.wt, g.lk, g.sd⟩ := by unfold stepS; rw [if_neg hp, if_neg (which_fam h), if_pos h]
theorem st_lk {g : Ft} {p x : ByteArray} (hp : p ≠ side) (h : x ∈ looks) : stepS g p x = ⟨g.c, g.wh, g.wt, x, g.sd⟩ := by unfold stepS; rw [if_neg hp, if_neg (look_fam h), if_neg (look_which h), if_pos h]
theorem st_wt {g : Ft} {p x : ByteArray} (hp : p ≠ side) (h : fam x < 5) : stepS g p x = ⟨g.c, g.wh, x, g.lk, g.sd⟩ := by unfold stepS; rw [if_neg hp, if_pos h]
theorem st_mark {g : Ft} {p : ByteArray} (hp : p ≠ side) : stepS g p side = g := by
  unfold stepS
  rw [if_neg hp, if_neg (by decide), if_neg (by decide), if_neg (by decide)]
theorem st_sd {g : Ft} {x : ByteArray} : stepS g side x = ⟨g.c, g.wh, g.wt, g.lk, x⟩ := by unfold stepS; rw [if_pos rfl]
theorem ne_side {x : ByteArray} (h : x.data.toList ≠ sideB) : x ≠ side := fun e => h (by rw [e]; rfl)

/-- One word of the head, if there is one. -/
theorem one {g g' : Ft} {p x : ByteArray} {r : List ByteArray} (hp : p ≠ side) (hx : x ≠ side) (h0 : x = ⟨#[]⟩ → g = g') (h1 : ¬ x = ⟨#[]⟩ → stepS g p x = g') : ∃ p', p' ≠ side ∧ foldS g p (wB x ++ r) = foldS g' p' r := by
  unfold wB
  by_cases e : x = ⟨#[]⟩
  · rw [if_pos e]; exact ⟨p, hp, by rw [h0 e]; rfl⟩
  · rw [if_neg e]; exact ⟨x, hx, by show foldS (stepS g p x) x r = _; rw [h1 e]⟩

/-- The words of a whole text. -/
def wsA (f : Ft) : List ByteArray := hdB f ++ (if f.sd = ⟨#[]⟩ then [] else [side, f.sd])
theorem fold_text {f : Ft} (h : OkF f) : foldS ⟨f.c, ⟨#[]⟩, ⟨#[]⟩, ⟨#[]⟩, ⟨#[]⟩⟩ (cod f) (wsA f).tail = f := by
  have hc := OkF.cl h
  obtain ⟨h0, h1, h2, h3, h4, h5⟩ := h
  have hwt : ¬ f.wt = ⟨#[]⟩ := (OkF.short ⟨h0, h1, h2, h3, h4, h5⟩).ne
  have ht : (wsA f).tail = wB f.wh ++ (wB f.lk ++ (wB f.wt ++ (if f.sd = ⟨#[]⟩ then [] else [side, f.sd]))) := by
    unfold wsA hdB
    simp
  rw [ht]
  obtain ⟨p1, hp1, e1⟩ := one (g := ⟨f.c, ⟨#[]⟩, ⟨#[]⟩, ⟨#[]⟩, ⟨#[]⟩⟩) (g' := ⟨f.c, f.wh, ⟨#[]⟩, ⟨#[]⟩, ⟨#[]⟩⟩) (r := wB f.lk ++ (wB f.wt ++ (if f.sd = ⟨#[]⟩ then [] else [side, f.sd]))) (ne_side hc.co.2) (ne_side hc.wh.2) (fun e => by rw [e]) (fun e => st_wh (ne_side hc.co.2) (h2.resolve_left e))
  obtain ⟨p2, hp2, e2⟩ := one (g := ⟨f.c, f.wh, ⟨#[]⟩, ⟨#[]⟩, ⟨#[]⟩⟩) (g' := ⟨f.c, f.wh, ⟨#[]⟩, f.lk, ⟨#[]⟩⟩) (r := wB f.wt ++ (if f.sd = ⟨#[]⟩ then [] else [side, f.sd])) hp1 (ne_side hc.lk.2) (fun e => by rw [e]) (fun e => st_lk hp1 (h3.resolve_left e))
  obtain ⟨p3, hp3, e3⟩ := one (g := ⟨f.c, f.wh, ⟨#[]⟩, f.lk, ⟨#[]⟩⟩) (g' := ⟨f.c, f.wh, f.wt, f.lk, ⟨#[]⟩⟩) (r := (if f.sd = ⟨#[]⟩ then [] else [side, f.sd])) hp2 (ne_side hc.wt.2) (fun e => absurd e hwt) (fun e => st_wt hp2 h0)
  rw [e1, e2, e3]
  by_cases e : f.sd = ⟨#[]⟩
  · rw [if_pos e]
    show (⟨f.c, f.wh, f.wt, f.lk, ⟨#[]⟩⟩ : Ft) = f
    rw [← e]
  · rw [if_neg e]
    show stepS (stepS ⟨f.c, f.wh, f.wt, f.lk, ⟨#[]⟩⟩ p3 side) side f.sd = f
    rw [st_mark hp3, st_sd]
theorem parts_tx {f : Ft} (h : OkF f) : parts (cod f ++ txF f) 32 = wsA f := by
  have hc := OkF.cl h
  apply map_inj
  rw [parts_spl, tx_bf]
  unfold wsA
  by_cases e : f.sd = ⟨#[]⟩
  · rw [if_pos e, sdW_nil e, app_nil, spl_bf hc, List.append_nil, hdB_map]
  · rw [if_neg e, sdW_ne e, ByteArray.toList_data_append, ByteArray.toList_data_append]
    show spl 32 ((bf f).data.toList ++ (sideSp ++ f.sd.data.toList)) = _
    rw [spl_occ, spl_bf hc, spl_clean 32 _ hc.sd.1, List.map_append, hdB_map]
    rfl
theorem canS_text {f : Ft} (h : OkF f) : canS (cod f ++ txF f) = f := by
  have hv := val_cod h
  have hw : wsA f = cod f :: (wsA f).tail := by unfold wsA hdB; simp
  unfold canS
  rw [parts_tx h]
  have h0 : f0S (wsA f) = ⟨f.c, ⟨#[]⟩, ⟨#[]⟩, ⟨#[]⟩, ⟨#[]⟩⟩ := by
    unfold f0S
    rw [hw, show sAt (cod f :: (wsA f).tail) 0 = cod f from rfl, hv]
    rfl
  rw [h0, hw, show (cod f :: (wsA f).tail).length - 1 = (wsA f).tail.length from rfl, fk_fold]
  exact fold_text h
theorem cut_both {f : Ft} (h : OkF f) : bfr (cod f ++ txF f) = bf f ∧ aft (cod f ++ txF f) = f.sd := by
  have hc := OkF.cl h
  have hb : sideS.data.toList = sideSp := rfl
  unfold bfr aft
  rw [hb]
  by_cases e : f.sd = ⟨#[]⟩
  · rw [cut_none hc e]
    exact ⟨data_inj (by simp), data_inj (by rw [e])⟩
  · rw [cut_some hc e]
    exact ⟨data_inj (by simp), data_inj (by simp)⟩
theorem canI_text {f : Ft} (h : OkF f) : canI (cod f ++ txF f) = f := by
  obtain ⟨e1, e2⟩ := cut_both h
  unfold canI
  rw [e1, e2, parts_bf (OkF.cl h)]
  exact rdI_text h

/-- What is read, told once: the feature of the text, if it is one's. -/
theorem yes_both {f : Ft} (h : OkF f) : okI (tx f) = true ∧ okS (tx f) = true ∧ canI (tx f) = f ∧ canS (tx f) = f := by
  have hk := okF_yes h
  have ht := tx_yes hk
  have h53 := tx_size (f := f)
  have hI : canI (tx f) = f := by rw [ht]; exact canI_text h
  have hS : canS (tx f) = f := by rw [ht]; exact canS_text h
  have hb := bfr_size (tx f)
  refine ⟨?_, ?_, hI, hS⟩
  · unfold okI
    rw [hI, hk, decide_eq_true (show (bfr (tx f)).size ≤ 4000 by omega), decide_eq_true rfl]; rfl
  · unfold okS
    rw [hS, hk, decide_eq_true (show (tx f).size ≤ 60 by omega), decide_eq_true ht.symm]; rfl
theorem of_okI {s : ByteArray} (h : okI s = true) : OkF (canI s) ∧ tx (canI s) = s := by
  unfold okI at h
  simp only [Bool.and_eq_true, decide_eq_true_eq] at h
  exact ⟨of_decide_eq_true h.2.1, h.2.2⟩
theorem of_okS {s : ByteArray} (h : okS s = true) : OkF (canS s) ∧ tx (canS s) = s := by
  unfold okS at h
  simp only [Bool.and_eq_true, decide_eq_true_eq] at h
  exact ⟨of_decide_eq_true h.2.1, by rw [tx_yes h.2.1]; exact h.2.2⟩
theorem ok_eq (s : ByteArray) : okS s = okI s := by
  rw [Bool.eq_iff_iff]
  constructor
  · intro h
    obtain ⟨h1, h2⟩ := of_okS h
    have := (yes_both h1).1
    rwa [h2] at this
  · intro h
    obtain ⟨h1, h2⟩ := of_okI h
    have := (yes_both h1).2.1
    rwa [h2] at this
theorem ans_eq (s : ByteArray) : ansS s = ansI s := by
  unfold ansS ansI
  rw [ok_eq s]
  by_cases h : okI s = true
  · rw [if_pos h, if_pos h]
    obtain ⟨h1, h2⟩ := of_okI h
    have := (yes_both h1).2.2.2
    rwa [h2] at this
  · rw [if_neg h, if_neg h]

theorem both_v (s : ByteArray) (hs : s.size ≤ 1048576) : ∃ (f : Ft) (ok : Bool), (OkF f ∧ tx f = s ∧ ok = true ∨ ok = false ∧ f = FtL.noF) ∧
    (∀ (w : World), Prs.Glob w → ∀ (m : Int), w.cell? ⟨0, 0, none⟩ = some (.int .i64 m) →
      Calls Tryd.prog 13 #[.string s] w fun e w' => e = .returned (.tuple #[.agg #[.int .i64 f.c, .string f.wh, .string f.wt, .string f.lk, .string f.sd], .bool ok]) ∧ Below w.heap.size w w') ∧
    (∀ w, Calls Tryd.prog 15 #[.string s] w fun e w' => e = .returned (.tuple #[.agg #[.int .i64 f.c, .string f.wh, .string f.wt, .string f.lk, .string f.sd], .bool ok]) ∧ Below w.heap.size w w') := by
  refine ⟨ansI s, okI s, ?_, fun w hg m hm => impl_any s hs w hg m hm, fun w => ?_⟩
  · cases h : okI s with
    | true =>
      have h1 := of_okI h
      have e : ansI s = canI s := by unfold ansI; rw [if_pos h]
      exact .inl ⟨by rw [e]; exact h1.1, by rw [e]; exact h1.2, rfl⟩
    | false => exact .inr ⟨rfl, by unfold ansI; rw [if_neg (by rw [h]; decide)]⟩
  · have := spec_any s hs w
    rwa [ans_eq, ok_eq] at this

end Go.Proofs.YtpfjdlaaakkimaaDoor.PfE
