/- Sheets: when they are told, their lines; families counted: plain lemmas and the calls. -/
import Derived.Test.YtpfjdlaaakkimaaDoorShtL
import Derived.Test.YtpfjdlaaakkimaaDoorCntS
namespace Go.Proofs.YtpfjdlaaakkimaaDoor.ShV
open Go.RowKit Lb Bk FtS FtL Fmt FsO ShtM TxF CntI
set_option linter.unusedSimpArgs false
set_option linter.unusedVariables false

/-- What a told sheet is. -/
def IsSh (n : Nat) (h : Nat → Ft) (t : ByteArray) : Prop := n ≤ 20 ∧ (∀ i, i < n → Gd h i) ∧ t = sh h n

theorem sheet_both (n : Nat) (h : Nat → Ft) (hl : n ≤ 1048576) : ∃ (t : ByteArray) (ok : Bool), (ok = true → IsSh n h t) ∧ t.size ≤ 1400 ∧
    (∀ a cap w, FRow w a n h → Calls Tryd.prog 24 #[.slice a n cap] w fun e w' => e = .returned (.tuple #[.string t, .bool ok]) ∧ Below w.heap.size w w') ∧
    (∀ a cap w, FRow w a n h → Calls Tryd.prog 23 #[.slice a n cap] w fun e w' => e = .returned (.tuple #[.string t, .bool ok]) ∧ Below w.heap.size w w') := by
  by_cases h0 : n = 0
  · subst h0
    refine ⟨⟨#[]⟩, true, fun _ => ⟨by omega, fun i hi => by omega, rfl⟩, by decide, fun a cap w _ => ShtL.spec_none a cap w, fun a cap w hr => ShtI.impl_loop a cap 0 0 h w hr (by omega) (Nat.le_refl _) (fun i hi => by omega) (fun e => by omega) _ _ (fun e => by omega) (fun _ => ⟨rfl, rfl⟩)⟩
  have hsp : ∀ (m : Nat) (t : ByteArray) (ok : Bool), m ≤ min n 21 → (∀ i, i < m → Gd h i) → (m < min n 21 → ¬ Gd h m) → (m < min n 21 ∨ 20 < n → t = ⟨#[]⟩ ∧ ok = false) → (m = min n 21 → n ≤ 20 → t = sh h n ∧ ok = true) →
      ∀ a cap w, FRow w a n h → Calls Tryd.prog 24 #[.slice a n cap] w fun e w' => e = .returned (.tuple #[.string t, .bool ok]) ∧ Below w.heap.size w w' := by
    intro m t ok h1 h2 h3 h4 h5 a cap w hr
    rcases hr with hr | ⟨b, off, rfl, hc⟩
    · exact absurd hr h0
    · exact ShtS.spec_loop b off cap n (min n 21) m h w (.inr ⟨b, off, rfl, hc⟩) hl rfl h1 h2 h3 t ok h4 h5
  by_cases h20 : 20 < n
  · by_cases hall : ∀ i, i < min n 21 → Gd h i
    · exact ⟨⟨#[]⟩, false, nofun, by decide, hsp (min n 21) _ _ (Nat.le_refl _) hall (fun e => absurd e (Nat.lt_irrefl _)) (fun _ => ⟨rfl, rfl⟩) (fun _ e => absurd e (by omega)), fun a cap w _ => ShtI.impl_long a cap n w h20 hl⟩
    · obtain ⟨m, hm, hb, hx⟩ := first_of hall
      exact ⟨⟨#[]⟩, false, nofun, by decide, hsp m _ _ (by omega) hb (fun _ => hx) (fun _ => ⟨rfl, rfl⟩) (fun _ e => absurd e (by omega)), fun a cap w _ => ShtI.impl_long a cap n w h20 hl⟩
  · have hmin : min n 21 = n := by omega
    by_cases hall : ∀ i, i < n → Gd h i
    · exact ⟨sh h n, true, fun _ => ⟨by omega, hall, rfl⟩, by have := sh_size hall (by omega); omega, hsp n _ _ (by omega) hall (fun e => absurd e (by omega)) (fun e => absurd e (by omega)) (fun _ _ => ⟨rfl, rfl⟩),
        fun a cap w hr => ShtI.impl_loop a cap n n h w hr (by omega) (Nat.le_refl _) hall (fun e => absurd e (Nat.lt_irrefl _)) _ _ (fun e => absurd e (Nat.lt_irrefl _)) (fun _ => ⟨rfl, rfl⟩)⟩
    · obtain ⟨m, hm, hb, hx⟩ := first_of hall
      exact ⟨⟨#[]⟩, false, nofun, by decide, hsp m _ _ (by omega) hb (fun _ => hx) (fun _ => ⟨rfl, rfl⟩) (fun e _ => absurd e (by omega)),
        fun a cap w hr => ShtI.impl_loop a cap n m h w hr (by omega) (by omega) hb (fun _ => hx) _ _ (fun _ => ⟨rfl, rfl⟩) (fun e => absurd e (by omega))⟩

def sumZ : List Int → Int
  | [] => 0
  | z :: r => z + sumZ r
theorem cnt_sum {h : Nat → Ft} : ∀ {n : Nat}, (∀ i, i < n → okF (h i) = true) → cnt h n 0 + cnt h n 1 + cnt h n 2 + cnt h n 3 + cnt h n 4 = n
  | 0, _ => rfl
  | n + 1, hok => by
    have ih := cnt_sum (n := n) (fun i hi => hok i (by omega))
    have hk : OkF (h n) := of_decide_eq_true (hok n (by omega))
    have hf := hk.1
    simp only [cnt]
    obtain e | e | e | e | e : fam (h n).wt = 0 ∨ fam (h n).wt = 1 ∨ fam (h n).wt = 2 ∨ fam (h n).wt = 3 ∨ fam (h n).wt = 4 := by omega
    all_goals
      rw [e]
      simp
      omega
/-- What told counts are. -/
theorem counts_both (n : Nat) (h : Nat → Ft) (hl : n ≤ 1048576) : ∃ (zs : List Int) (ok : Bool), (n ≤ 20 → (∀ i, i < n → okF (h i) = true) → ok = true) ∧ (ok = true → sumZ zs = n) ∧ (∀ z ∈ zs, 0 ≤ z ∧ z ≤ 1048576) ∧ zs.length ≤ 5 ∧
    (∀ a cap w, FRow w a n h → Calls Tryd.prog 26 #[.slice a n cap] w (CPost w zs ok)) ∧
    (∀ a cap w, FRow w a n h → Calls Tryd.prog 25 #[.slice a n cap] w (CPost w zs ok)) := by
  by_cases h20 : 20 < n
  · exact ⟨[], false, fun e => by omega, nofun, by simp, by simp, fun a cap w _ => CntS.spec_long a cap n w h20 hl, fun a cap w _ => impl_long a cap n w h20 hl⟩
  · by_cases hall : ∀ i, i < n → okF (h i) = true
    · refine ⟨[(cnt h n 0 : Int), cnt h n 1, cnt h n 2, cnt h n 3, cnt h n 4], true, fun _ _ => rfl, fun _ => ?_, ?_, Nat.le_refl 5,
        fun a cap w hr => CntS.spec_loop a cap n n h w hr (by omega) (Nat.le_refl _) hall (fun h => absurd h (Nat.lt_irrefl _)) _ true (fun h => absurd h (Nat.lt_irrefl _)) (fun _ => ⟨rfl, rfl⟩),
        fun a cap w hr => impl_loop a cap n n h w hr (by omega) (Nat.le_refl _) hall (fun h => absurd h (Nat.lt_irrefl _)) _ true (fun h => absurd h (Nat.lt_irrefl _)) (fun _ => ⟨rfl, rfl⟩)⟩
      · have := cnt_sum hall
        simp only [sumZ]
        omega
      · have c0 := cnt_le h 0 n
        have c1 := cnt_le h 1 n
        have c2 := cnt_le h 2 n
        have c3 := cnt_le h 3 n
        have c4 := cnt_le h 4 n
        intro z hz
        simp only [List.mem_cons, List.not_mem_nil, or_false] at hz
        rcases hz with rfl | rfl | rfl | rfl | rfl <;> omega
    · obtain ⟨m, hm, hb, hx⟩ := first_of hall
      have hx' : okF (h m) = false := by simpa using hx
      exact ⟨[], false, fun _ k => absurd k hall, nofun, by simp, by simp,
        fun a cap w hr => CntS.spec_loop a cap n m h w hr (by omega) (by omega) hb (fun _ => hx') [] false (fun _ => ⟨rfl, rfl⟩) (fun e => absurd hm (by omega)),
        fun a cap w hr => impl_loop a cap n m h w hr (by omega) (by omega) hb (fun _ => hx') [] false (fun _ => ⟨rfl, rfl⟩) (fun e => absurd hm (by omega))⟩

/-- How many line ends. -/
def nl (l : List UInt8) : Nat := l.count 10
def cl (x : ByteArray) : Bool := nl x.data.toList == 0
theorem nl_app (a b : ByteArray) : nl (a ++ b).data.toList = nl a.data.toList + nl b.data.toList := by
  unfold nl
  rw [ByteArray.toList_data_append, List.count_append]
theorem cl_of {ss : List ByteArray} (h : ss.all cl = true) {x : ByteArray} (hx : x ∈ ss) : nl x.data.toList = 0 := by
  have := List.all_eq_true.1 h x hx
  unfold cl at this
  simpa using this
theorem nl_w1 {x : ByteArray} (h : nl x.data.toList = 0) : nl (w1 x).data.toList = 0 := by
  by_cases e : x = ⟨#[]⟩
  · rw [w1_nil e]; rfl
  · rw [w1_ne e, nl_app, h]; rfl
theorem nl_sd {x : ByteArray} (h : nl x.data.toList = 0) : nl (sdW x).data.toList = 0 := by
  by_cases e : x = ⟨#[]⟩
  · rw [sdW_nil e]; rfl
  · rw [sdW_ne e, nl_app, h]; rfl
theorem nl_dec (u : Nat) (h : u < 100) : nl (dec u).data.toList = 0 := by
  have hd : ∀ u, u < 100 → cl (dec u) = true := by decide +kernel
  have := hd u h
  unfold cl at this
  simpa using this
theorem nl_txF {f : Ft} (h : OkF f) : nl (txF f).data.toList = 0 := by
  obtain ⟨h0, h1, h2, h3, h4, h5⟩ := h
  have hf : ∀ i, i < 5 → (famW i).all cl = true := by decide
  have hs : ∀ i, i < 5 → (famS i).all cl = true := by decide
  have a1 : nl f.wh.data.toList = 0 := by
    rcases h2 with e | e
    · rw [e]; rfl
    · exact cl_of (by decide) e
  have a2 : nl f.lk.data.toList = 0 := by
    rcases h3 with e | e
    · rw [e]; rfl
    · exact cl_of (by decide) e
  have a3 : nl f.wt.data.toList = 0 := cl_of (hf _ h0) (fam_mem h0)
  have a4 : nl f.sd.data.toList = 0 := by
    rcases h5 with e | e
    · rw [e]; rfl
    · exact cl_of (hs _ h0) e
  unfold txF
  simp only [nl_app, nl_w1 a1, nl_w1 a2, nl_w1 a3, nl_sd a4]
theorem nl_ln {h : Nat → Ft} {i : Nat} (hi : i < 50) (hok : okF (h i) = true) : nl (ln h i).data.toList = 1 := by
  have hk : OkF (h i) := of_decide_eq_true hok
  unfold ln
  have hc : nl (cod (h i)).data.toList = 0 := nl_dec _ (by have := hk.2.1; omega)
  rw [nl_app, nl_app, nl_app, nl_app, nl_dec _ (by omega), hc, nl_txF hk]
  rfl
theorem nl_sh {h : Nat → Ft} : ∀ {k : Nat}, (∀ i, i < k → Gd h i) → k ≤ 50 → nl (sh h k).data.toList = k
  | 0, _, _ => rfl
  | k + 1, hg, hk => by
    rw [sh, nl_app, nl_sh (fun i hi => hg i (by omega)) (by omega), nl_ln (by omega) (hg k (by omega)).1]

end Go.Proofs.YtpfjdlaaakkimaaDoor.ShV
