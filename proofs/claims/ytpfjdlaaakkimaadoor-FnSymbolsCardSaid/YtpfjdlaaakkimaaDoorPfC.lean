/- A feature read from its text: what the program and the model read. -/
import Derived.Test.YtpfjdlaaakkimaaDoorPfM
namespace Go.Proofs.YtpfjdlaaakkimaaDoor.PfC
open Go.RowKit Lb Fmt NumM TxF PfM
set_option linter.unusedVariables false

def sideSp : List UInt8 := [32, 115, 105, 100, 101, 32]
theorem occ_split {s sub : List UInt8} {i : Nat} (h : Lib.occAt s sub i = true) : ∃ t, s = s.take i ++ (sub ++ t) := by
  unfold Lib.occAt at h
  obtain ⟨t, ht⟩ := List.isPrefixOf_iff_prefix.1 h
  exact ⟨t, by rw [ht, List.take_append_drop]⟩
theorem spl_occ (x t : List UInt8) : spl 32 (x ++ (sideSp ++ t)) = spl 32 x ++ sideB :: spl 32 t := by
  show spl 32 (x ++ 32 :: (sideB ++ 32 :: t)) = _
  rw [spl_sep, spl_sep, spl_clean 32 sideB (by decide)]
  rfl

theorem cut_none {f : Ft} (h : Cl f) (hs : f.sd = ⟨#[]⟩) : Lib.cut (cod f ++ txF f).data.toList sideSp = ((bf f).data.toList, [], false) := by
  have hb : cod f ++ txF f = bf f := by rw [tx_bf, sdW_nil hs, app_nil]
  rw [hb]
  rcases Lib.index_spec (bf f).data.toList sideSp with ⟨hi, _⟩ | ⟨i, hi, hle, ho, _⟩
  · unfold Lib.cut
    rw [hi]
    rfl
  · obtain ⟨t, ht⟩ := occ_split ho
    have h2 := spl_bf h
    rw [ht, spl_occ] at h2
    exact absurd h2 (fun e => mark_none (side_hd h) e)

theorem cut_some {f : Ft} (h : Cl f) (hs : ¬ f.sd = ⟨#[]⟩) : Lib.cut (cod f ++ txF f).data.toList sideSp = ((bf f).data.toList, f.sd.data.toList, true) := by
  have hb : (cod f ++ txF f).data.toList = (bf f).data.toList ++ (sideSp ++ f.sd.data.toList) := by
    rw [tx_bf, sdW_ne hs, ByteArray.toList_data_append, ByteArray.toList_data_append]
    rfl
  rw [hb]
  have hspl : spl 32 ((bf f).data.toList ++ (sideSp ++ f.sd.data.toList)) = hd f ++ [sideB, f.sd.data.toList] := by
    rw [spl_occ, spl_bf h, spl_clean 32 _ h.sd.1]
  have hocc : Lib.occAt ((bf f).data.toList ++ (sideSp ++ f.sd.data.toList)) sideSp (bf f).data.toList.length = true := by
    unfold Lib.occAt
    rw [List.drop_left]
    exact List.isPrefixOf_iff_prefix.2 ⟨_, rfl⟩
  rcases Lib.index_spec ((bf f).data.toList ++ (sideSp ++ f.sd.data.toList)) sideSp with ⟨_, hno⟩ | ⟨i, hi, hle, ho, _⟩
  · have := hno (bf f).data.toList.length (by simp)
    rw [hocc] at this
    cases this
  · obtain ⟨t, ht⟩ := occ_split ho
    have h2 := hspl
    rw [ht, spl_occ] at h2
    have h3 := mark_unique (side_hd h) (fun e => h.sd.2 e.symm) h2
    rw [← spl_bf h] at h3
    have h4 := congrArg (fun l => Lib.join l [32]) h3
    simp only [join_spl] at h4
    have h5 : i = (bf f).data.toList.length := by
      have := congrArg List.length h4
      rw [List.length_take] at this
      omega
    unfold Lib.cut
    rw [hi, if_pos (by omega), Int.toNat_natCast, h5, List.take_left, ← List.drop_drop, List.drop_left]
    rfl

/-- What one word says. -/
def stepI (f : Ft) (w : ByteArray) : Ft := if w ∈ whichs then ⟨f.c, w, f.wt, f.lk, f.sd⟩ else if w ∈ looks then ⟨f.c, f.wh, f.wt, w, f.sd⟩ else ⟨f.c, f.wh, w, f.lk, f.sd⟩
/-- What the program reads off words and a side. -/
def rdI (ws : List ByteArray) (side : ByteArray) : Ft := ws.tail.foldl stepI ⟨(val (sAt ws 0)).getD 0, ⟨#[]⟩, ⟨#[]⟩, ⟨#[]⟩, side⟩

def wB (x : ByteArray) : List ByteArray := if x = ⟨#[]⟩ then [] else [x]
def hdB (f : Ft) : List ByteArray := cod f :: (wB f.wh ++ (wB f.lk ++ wB f.wt))
theorem map_wB (x : ByteArray) : (wB x).map (·.data.toList) = wl x := by unfold wB wl; split <;> rfl
theorem hdB_map (f : Ft) : (hdB f).map (·.data.toList) = hd f := by
  unfold hdB hd
  rw [List.map_cons, List.map_append, List.map_append, map_wB, map_wB, map_wB]
  simp
theorem data_inj {a b : ByteArray} (h : a.data.toList = b.data.toList) : a = b := by
  cases a; cases b
  simp only [ByteArray.mk.injEq]
  exact Array.toList_inj.1 h
theorem map_inj : ∀ {a b : List ByteArray}, a.map (·.data.toList) = b.map (·.data.toList) → a = b
  | [], [], _ => rfl
  | [], _ :: _, h => by simp at h
  | _ :: _, [], h => by simp at h
  | x :: a, y :: b, h => by
    simp only [List.map_cons, List.cons.injEq] at h
    rw [data_inj h.1, map_inj h.2]
theorem parts_bf {f : Ft} (h : Cl f) : parts (bf f) 32 = hdB f := map_inj (by rw [parts_spl, spl_bf h, hdB_map])

theorem val_cod {f : Ft} (h : OkF f) : val (cod f) = some f.c := by
  obtain ⟨u, hu⟩ : ∃ u : Nat, f.c = (u : Int) := ⟨f.c.toNat, by have := h.2.1; omega⟩
  have hc : cod f = dec u := by unfold cod; rw [hu, Int.toNat_natCast]
  rw [hc, hu, ← fmtB_nat]
  exact val_fmt u (by omega) (by have := h.2.1; omega)

theorem apart {a b : List ByteArray} (h : (a.all fun x => !decide (x ∈ b)) = true) {x : ByteArray} (hx : x ∈ a) : x ∉ b := by
  have := List.all_eq_true.1 h x hx
  simpa using this
theorem look_which {x : ByteArray} (h : x ∈ looks) : x ∉ whichs := apart (by decide) h
theorem what_which {x : ByteArray} (h : fam x < 5) : x ∉ whichs := by
  have hf : ∀ i, i < 5 → ((famW i).all fun x => !decide (x ∈ whichs)) = true := by decide
  exact apart (hf _ h) (fam_mem h)
theorem what_look {x : ByteArray} (h : fam x < 5) : x ∉ looks := by
  have hf : ∀ i, i < 5 → ((famW i).all fun x => !decide (x ∈ looks)) = true := by decide
  exact apart (hf _ h) (fam_mem h)
theorem step_wh {g : Ft} {x : ByteArray} (h : x ∈ whichs) : stepI g x = ⟨g.c, x, g.wt, g.lk, g.sd⟩ := if_pos h
theorem step_lk {g : Ft} {x : ByteArray} (h : x ∈ looks) : stepI g x = ⟨g.c, g.wh, g.wt, x, g.sd⟩ := by unfold stepI; rw [if_neg (look_which h), if_pos h]
theorem step_wt {g : Ft} {x : ByteArray} (h : fam x < 5) : stepI g x = ⟨g.c, g.wh, x, g.lk, g.sd⟩ := by unfold stepI; rw [if_neg (what_which h), if_neg (what_look h)]

/-- What the program reads off a text is the feature. -/
theorem rdI_text {f : Ft} (h : OkF f) : rdI (hdB f) f.sd = f := by
  have hv := val_cod h
  obtain ⟨h0, h1, h2, h3, h4, h5⟩ := h
  have hwt : ¬ f.wt = ⟨#[]⟩ := (OkF.short ⟨h0, h1, h2, h3, h4, h5⟩).ne
  unfold rdI hdB
  rw [show sAt (cod f :: (wB f.wh ++ (wB f.lk ++ wB f.wt))) 0 = cod f from rfl, hv]
  show List.foldl stepI _ (wB f.wh ++ (wB f.lk ++ wB f.wt)) = f
  rw [List.foldl_append, List.foldl_append]
  have e1 : List.foldl stepI ⟨f.c, ⟨#[]⟩, ⟨#[]⟩, ⟨#[]⟩, f.sd⟩ (wB f.wh) = ⟨f.c, f.wh, ⟨#[]⟩, ⟨#[]⟩, f.sd⟩ := by
    unfold wB
    by_cases e : f.wh = ⟨#[]⟩
    · rw [if_pos e, e]; rfl
    · rw [if_neg e]; exact step_wh (h2.resolve_left e)
  have e2 : List.foldl stepI ⟨f.c, f.wh, ⟨#[]⟩, ⟨#[]⟩, f.sd⟩ (wB f.lk) = ⟨f.c, f.wh, ⟨#[]⟩, f.lk, f.sd⟩ := by
    unfold wB
    by_cases e : f.lk = ⟨#[]⟩
    · rw [if_pos e, e]; rfl
    · rw [if_neg e]; exact step_lk (h3.resolve_left e)
  have e3 : List.foldl stepI ⟨f.c, f.wh, ⟨#[]⟩, f.lk, f.sd⟩ (wB f.wt) = ⟨f.c, f.wh, f.wt, f.lk, f.sd⟩ := by
    unfold wB
    rw [if_neg hwt]; exact step_wt h0
  show List.foldl stepI (List.foldl stepI (List.foldl stepI ⟨f.c, ⟨#[]⟩, ⟨#[]⟩, ⟨#[]⟩, f.sd⟩ _) _) _ = f
  rw [e1, e2, e3]

end Go.Proofs.YtpfjdlaaakkimaaDoor.PfC
