/- The parts of a map: plain lemmas. -/
import Derived.Test.YtleoljnofdajfaaMapM
namespace Go.Proofs.Ytleoljnofdajfaa.Lb
open Go.RowKit
set_option linter.unusedVariables false

theorem len_le_of_sub : ∀ (a b : List Nat), a.Nodup → (∀ x ∈ a, x ∈ b) → a.length ≤ b.length
  | [], b, _, _ => by simp
  | x :: a, b, hn, hs => by
    have hx : x ∈ b := hs x (by simp)
    have hn' := List.nodup_cons.1 hn
    have := len_le_of_sub a (b.erase x) hn'.2 (fun y hy => by
      have hne : y ≠ x := fun e => hn'.1 (e ▸ hy)
      exact (List.mem_erase_of_ne hne).2 (hs y (by simp [hy])))
    rw [List.length_erase_of_mem hx] at this
    have : 0 < b.length := List.length_pos_of_mem hx
    simp only [List.length_cons]
    omega
theorem len_le_of_lt (a : List Nat) (n : Nat) (hn : a.Nodup) (hs : ∀ x ∈ a, x < n) : a.length ≤ n := by
  have := len_le_of_sub a (List.range n) hn (fun x hx => by simpa using hs x hx)
  simpa using this
theorem len_eq_of_mem (a b : List Nat) (ha : a.Nodup) (hb : b.Nodup) (h : ∀ x, x ∈ a ↔ x ∈ b) : a.length = b.length :=
  Nat.le_antisymm (len_le_of_sub a b ha fun x hx => (h x).1 hx) (len_le_of_sub b a hb fun x hx => (h x).2 hx)

theorem sorted_ext : ∀ (a b : List Nat), a.Pairwise (· < ·) → b.Pairwise (· < ·) → (∀ x, x ∈ a ↔ x ∈ b) → a = b
  | [], [], _, _, _ => rfl
  | [], y :: b, _, _, h => absurd ((h y).2 (by simp)) (by simp)
  | x :: a, [], _, _, h => absurd ((h x).1 (by simp)) (by simp)
  | x :: a, y :: b, ha, hb, h => by
    obtain ⟨ha1, ha2⟩ := List.pairwise_cons.1 ha
    obtain ⟨hb1, hb2⟩ := List.pairwise_cons.1 hb
    have hxy : x = y := by
      have h1 := (h x).1 (by simp)
      have h2 := (h y).2 (by simp)
      simp only [List.mem_cons] at h1 h2
      rcases h1 with h1 | h1
      · exact h1
      · rcases h2 with h2 | h2
        · exact h2.symm
        · have := ha1 _ h2
          have := hb1 _ h1
          omega
    subst hxy
    rw [sorted_ext a b ha2 hb2 fun z => ⟨fun hz => by
      have h1 := (h z).1 (by simp [hz])
      simp only [List.mem_cons] at h1
      rcases h1 with h1 | h1
      · have := ha1 z hz; omega
      · exact h1, fun hz => by
      have h1 := (h z).2 (by simp [hz])
      simp only [List.mem_cons] at h1
      rcases h1 with h1 | h1
      · have := hb1 z hz; omega
      · exact h1⟩]

/-- The cells to which one comes from a cell. -/
inductive Rch (m : Mp) (c : Nat) : Nat → Prop
  | here : Rch m c c
  | next {x y : Nat} : Rch m c x → y ∈ nx m x → Rch m c y

theorem Rch.trans {m : Mp} {a b c : Nat} (h1 : Rch m a b) (h2 : Rch m b c) : Rch m a c := by
  induction h2 with
  | here => exact h1
  | next _ hy ih => exact .next ih hy
/-- A cell that is not forbidden. -/
def Opn (m : Mp) (n c : Nat) : Prop := c < n ∧ 0 < zAt m.C c
theorem Rch.opn {m : Mp} {w h : Nat} (g : GoodM m w h) {c x : Nat} (hc : Opn m (w * h) c) (hr : Rch m c x) : Opn m (w * h) x := by
  induction hr with
  | here => exact hc
  | next _ hy ih => exact nx_lt g ih.1 hy
theorem Rch.sym {m : Mp} {w h : Nat} (g : GoodM m w h) {c x : Nat} (hc : Opn m (w * h) c) (hr : Rch m c x) : Rch m x c := by
  induction hr with
  | here => exact .here
  | next hr' hy ih =>
    have ho := hr'.opn g hc
    exact Rch.trans (.next .here (nx_sym g ho.1 ho.2 hy)) ih

def IsPart (m : Mp) (c : Nat) (p : List Nat) : Prop := p.Pairwise (· < ·) ∧ ∀ x, x ∈ p ↔ Rch m c x
theorem IsPart.unique {m : Mp} {c : Nat} {p q : List Nat} (hp : IsPart m c p) (hq : IsPart m c q) : p = q :=
  sorted_ext p q hp.1 hq.1 fun x => (hp.2 x).trans (hq.2 x).symm
theorem nodup_of_sorted {p : List Nat} (h : p.Pairwise (· < ·)) : p.Nodup := h.imp fun h => by omega
theorem IsPart.length {m : Mp} {w h : Nat} (g : GoodM m w h) {c : Nat} (hc : Opn m (w * h) c) {p : List Nat} (hp : IsPart m c p) : p.length ≤ w * h :=
  len_le_of_lt p _ (nodup_of_sorted hp.1) fun x hx => (((hp.2 x).1 hx).opn g hc).1

/-- Whether the parts up to a cell have a part that begins at it. -/
def Heads (m : Mp) (n c : Nat) : Prop := Opn m n c ∧ ∀ x, Rch m c x → c ≤ x
inductive PartsTo (m : Mp) (n : Nat) : Nat → List (List Nat) → Prop
  | zero : PartsTo m n 0 []
  | yes {k : Nat} {ps : List (List Nat)} {p : List Nat} : PartsTo m n k ps → Heads m n k → IsPart m k p → PartsTo m n (k + 1) (ps ++ [p])
  | no {k : Nat} {ps : List (List Nat)} : PartsTo m n k ps → ¬ Heads m n k → PartsTo m n (k + 1) ps

theorem PartsTo.unique {m : Mp} {n k : Nat} {ps qs : List (List Nat)} (hp : PartsTo m n k ps) (hq : PartsTo m n k qs) : ps = qs := by
  induction hp generalizing qs with
  | zero => cases hq; rfl
  | yes _ hh hpp ih =>
    cases hq with
    | yes hq' _ hq2 => rw [ih hq', hpp.unique hq2]
    | no _ hn => exact absurd hh hn
  | no _ hn ih =>
    cases hq with
    | yes _ hh _ => exact absurd hh hn
    | no hq' _ => exact ih hq'
theorem PartsTo.length {m : Mp} {n k : Nat} {ps : List (List Nat)} (hp : PartsTo m n k ps) : ps.length ≤ k := by
  induction hp with
  | zero => simp
  | yes _ _ _ ih => simp; omega
  | no _ _ ih => omega
theorem PartsTo.parts {m : Mp} {n k : Nat} {ps : List (List Nat)} (hp : PartsTo m n k ps) : ∀ p ∈ ps, ∃ c, Opn m n c ∧ IsPart m c p := by
  induction hp with
  | zero => simp
  | yes _ hh hq ih =>
    intro p hp
    rcases List.mem_append.1 hp with hp | hp
    · exact ih p hp
    · simp only [List.mem_singleton] at hp
      subst hp
      exact ⟨_, hh.1, hq⟩
  | no _ _ ih => exact ih

/-- What has been seen by a cell: all parts of the cells ahead of it. -/
def Seen (m : Mp) (n k i : Nat) : Prop := ∃ c, c < k ∧ Opn m n c ∧ Rch m c i
theorem seen_zero {m : Mp} {n i : Nat} : ¬ Seen m n 0 i := fun ⟨_, h, _⟩ => by omega
theorem seen_forb {m : Mp} {n k i : Nat} (h : ¬ Opn m n k) : Seen m n (k + 1) i ↔ Seen m n k i := by
  constructor
  · rintro ⟨c, hc, ho, hr⟩
    by_cases e : c = k
    · subst e; exact absurd ho h
    · exact ⟨c, by omega, ho, hr⟩
  · rintro ⟨c, hc, ho, hr⟩; exact ⟨c, by omega, ho, hr⟩
theorem seen_old {m : Mp} {n k i : Nat} (h : Seen m n k k) : Seen m n (k + 1) i ↔ Seen m n k i := by
  constructor
  · rintro ⟨c, hc, ho, hr⟩
    by_cases e : c = k
    · subst e
      obtain ⟨d, hd, hod, hrd⟩ := h
      exact ⟨d, hd, hod, hrd.trans hr⟩
    · exact ⟨c, by omega, ho, hr⟩
  · rintro ⟨c, hc, ho, hr⟩; exact ⟨c, by omega, ho, hr⟩
theorem seen_new {m : Mp} {n k i : Nat} (h : Opn m n k) : Seen m n (k + 1) i ↔ Seen m n k i ∨ Rch m k i := by
  constructor
  · rintro ⟨c, hc, ho, hr⟩
    by_cases e : c = k
    · subst e; exact .inr hr
    · exact .inl ⟨c, by omega, ho, hr⟩
  · rintro (⟨c, hc, ho, hr⟩ | hr)
    · exact ⟨c, by omega, ho, hr⟩
    · exact ⟨k, by omega, h, hr⟩
theorem not_heads_forb {m : Mp} {n k : Nat} (h : ¬ Opn m n k) : ¬ Heads m n k := fun hh => h hh.1
theorem not_heads_seen {m : Mp} {w h k : Nat} (g : GoodM m w h) (hs : Seen m (w * h) k k) : ¬ Heads m (w * h) k := by
  rintro ⟨_, hall⟩
  obtain ⟨c, hc, ho, hr⟩ := hs
  have := hall c (hr.sym g ho)
  omega
theorem heads_new {m : Mp} {w h k : Nat} (g : GoodM m w h) (ho : Opn m (w * h) k) (hs : ¬ Seen m (w * h) k k) : Heads m (w * h) k := by
  refine ⟨ho, fun x hx => ?_⟩
  by_cases hlt : x < k
  · exact absurd ⟨x, hlt, hx.opn g ho, hx.sym g ho⟩ hs
  · omega
/-- What has been seen is closed. -/
theorem seen_closed {m : Mp} {w h k x y : Nat} (g : GoodM m w h) (hs : Seen m (w * h) k x) (hy : Rch m x y) : Seen m (w * h) k y := by
  obtain ⟨c, hc, ho, hr⟩ := hs
  exact ⟨c, hc, ho, hr.trans hy⟩
theorem seen_opn {m : Mp} {w h k x : Nat} (g : GoodM m w h) (hs : Seen m (w * h) k x) : Opn m (w * h) x := by
  obtain ⟨c, hc, ho, hr⟩ := hs
  exact hr.opn g ho

/-- The search from a cell: what it has found, up to the place where it looks. -/
structure Bfs (m : Mp) (n k : Nat) (p : List Nat) (d : Nat) : Prop where
  nodup : p.Nodup
  head : k ∈ p
  rch : ∀ x ∈ p, Rch m k x
  unseen : ∀ x ∈ p, ¬ Seen m n k x
  done : ∀ j, j < d → j < p.length → ∀ y ∈ nx m (p.getD j 0), Seen m n k y ∨ y ∈ p

theorem Bfs.start {m : Mp} {n k : Nat} (hs : ¬ Seen m n k k) : Bfs m n k [k] 0 :=
  ⟨by simp, by simp, fun x hx => by simp at hx; subst hx; exact .here, fun x hx => by simp at hx; subst hx; exact hs, fun j hj => by omega⟩

/-- The search is at its end: all cells of the part are found. -/
theorem Bfs.full {m : Mp} {w h k : Nat} (g : GoodM m w h) (ho : Opn m (w * h) k) {p : List Nat} {d : Nat} (b : Bfs m (w * h) k p d) (hd : p.length ≤ d) :
    ∀ x, x ∈ p ↔ Rch m k x := by
  intro x
  refine ⟨b.rch x, fun hr => ?_⟩
  induction hr with
  | here => exact b.head
  | next hr' hy ih =>
    rename_i x y
    obtain ⟨j, hj, e⟩ := List.mem_iff_getElem.1 ih
    have he : p.getD j 0 = x := by simp [hj, e]
    rcases b.done j (by omega) hj y (by rw [he]; exact hy) with hs | hm
    · have ho' := hr'.opn g ho
      have : Rch m y x := .next .here (nx_sym g ho'.1 ho'.2 hy)
      exact absurd (seen_closed g hs this) (b.unseen _ ih)
    · exact hm

theorem Bfs.length {m : Mp} {w h k : Nat} (g : GoodM m w h) (ho : Opn m (w * h) k) {p : List Nat} {d : Nat} (b : Bfs m (w * h) k p d) : p.length ≤ w * h :=
  len_le_of_lt p _ b.nodup fun x hx => ((b.rch x hx).opn g ho).1

/-- One look: the cells next to one that has been found, the first 'i' of which have been looked at. -/
structure Look (m : Mp) (n k : Nat) (p : List Nat) (d x i : Nat) : Prop where
  bfs : Bfs m n k p d
  at_ : p.getD d 0 = x
  lt : d < p.length
  looked : ∀ j, j < i → j < (nx m x).length → Seen m n k ((nx m x).getD j 0) ∨ (nx m x).getD j 0 ∈ p

theorem Look.start {m : Mp} {n k d : Nat} {p : List Nat} (b : Bfs m n k p d) (h : d < p.length) : Look m n k p d (p.getD d 0) 0 :=
  ⟨b, rfl, h, fun j hj => by omega⟩
theorem getD_mem {l : List Nat} {i : Nat} (h : i < l.length) : l.getD i 0 ∈ l := by simp [h]
theorem Look.skip {m : Mp} {n k d x i : Nat} {p : List Nat} (l : Look m n k p d x i) (h : Seen m n k ((nx m x).getD i 0) ∨ (nx m x).getD i 0 ∈ p) : Look m n k p d x (i + 1) :=
  ⟨l.bfs, l.at_, l.lt, fun j hj hl => by
    by_cases e : j = i
    · subst e; exact h
    · exact l.looked j (by omega) hl⟩
theorem Look.put {m : Mp} {n k d x i : Nat} {p : List Nat} (l : Look m n k p d x i) (hi : i < (nx m x).length) (h1 : ¬ Seen m n k ((nx m x).getD i 0)) (h2 : (nx m x).getD i 0 ∉ p) :
    Look m n k (p ++ [(nx m x).getD i 0]) d x (i + 1) := by
  have hx : x ∈ p := by rw [← l.at_]; exact getD_mem l.lt
  refine ⟨⟨?_, ?_, ?_, ?_, ?_⟩, ?_, ?_, ?_⟩
  · rw [List.nodup_append]
    exact ⟨l.bfs.nodup, by simp, fun a ha b hb => by intro e; exact h2 (by rw [← List.mem_singleton.1 hb, ← e]; exact ha)⟩
  · exact List.mem_append.2 (.inl l.bfs.head)
  · intro y hy
    rcases List.mem_append.1 hy with hy | hy
    · exact l.bfs.rch y hy
    · simp only [List.mem_singleton] at hy
      subst hy
      exact .next (l.bfs.rch x hx) (getD_mem hi)
  · intro y hy
    rcases List.mem_append.1 hy with hy | hy
    · exact l.bfs.unseen y hy
    · simp only [List.mem_singleton] at hy
      subst hy; exact h1
  · intro j hj hl y hy
    have hjp : j < p.length := by have := l.lt; omega
    have e : (p ++ [(nx m x).getD i 0]).getD j 0 = p.getD j 0 := by simp [List.getD, List.getElem?_append_left hjp]
    rw [e] at hy
    rcases l.bfs.done j hj hjp y hy with h | h
    · exact .inl h
    · exact .inr (List.mem_append.2 (.inl h))
  · have := l.lt
    rw [← l.at_]
    simp [List.getD, List.getElem?_append_left this]
  · have := l.lt
    simp; omega
  · intro j hj hl
    by_cases e : j = i
    · subst e; exact .inr (List.mem_append.2 (.inr (by simp)))
    · rcases l.looked j (by omega) hl with h | h
      · exact .inl h
      · exact .inr (List.mem_append.2 (.inl h))
theorem Look.full {m : Mp} {n k d x i : Nat} {p : List Nat} (l : Look m n k p d x i) (hi : (nx m x).length ≤ i) : Bfs m n k p (d + 1) :=
  ⟨l.bfs.nodup, l.bfs.head, l.bfs.rch, l.bfs.unseen, fun j hj hl y hy => by
    by_cases e : j = d
    · subst e
      rw [l.at_] at hy
      obtain ⟨q, hq, e⟩ := List.mem_iff_getElem.1 hy
      have := l.looked q (by omega) hq
      rwa [show (nx m x).getD q 0 = y by simp [hq, e]] at this
    · exact l.bfs.done j (by omega) hl y hy⟩

/-! The model's way: a list that grows until nothing is new. -/
structure Grow (m : Mp) (c : Nat) (p : List Nat) : Prop where
  sorted : p.Pairwise (· < ·)
  head : c ∈ p
  rch : ∀ x ∈ p, Rch m c x
theorem Grow.start (m : Mp) (c : Nat) : Grow m c [c] := ⟨by simp, by simp, fun x hx => by simp at hx; subst hx; exact .here⟩
theorem Grow.length {m : Mp} {w h c : Nat} (g : GoodM m w h) (ho : Opn m (w * h) c) {p : List Nat} (b : Grow m c p) : p.length ≤ w * h :=
  len_le_of_lt p _ (nodup_of_sorted b.sorted) fun x hx => ((b.rch x hx).opn g ho).1
theorem Grow.full {m : Mp} {w h c : Nat} (g : GoodM m w h) (ho : Opn m (w * h) c) {p : List Nat} (b : Grow m c p) (hc : ∀ i, i < w * h → i ∈ p → ∀ y ∈ nx m i, y ∈ p) : IsPart m c p := by
  refine ⟨b.sorted, fun x => ⟨b.rch x, fun hr => ?_⟩⟩
  induction hr with
  | here => exact b.head
  | next hr' hy ih => exact hc _ (hr'.opn g ho).1 ih _ hy

/-- A number put to its place. -/
def put (l : List Nat) (n : Nat) : List Nat := l.filter (· < n) ++ n :: l.filter (fun x => n < x)
theorem mem_put {l : List Nat} {n x : Nat} : x ∈ put l n ↔ x = n ∨ (x ∈ l ∧ x ≠ n) := by
  unfold put
  simp only [List.mem_append, List.mem_filter, List.mem_cons, decide_eq_true_eq]
  by_cases h : x ∈ l <;> simp only [h, true_and, false_and, false_or, or_false] <;> omega
theorem put_sorted {l : List Nat} {n : Nat} (h : l.Pairwise (· < ·)) : (put l n).Pairwise (· < ·) := by
  unfold put
  rw [List.pairwise_append]
  refine ⟨h.filter _, List.pairwise_cons.2 ⟨fun x hx => by simpa using (List.mem_filter.1 hx).2, h.filter _⟩, fun a ha b hb => ?_⟩
  have h1 : a < n := by simpa using (List.mem_filter.1 ha).2
  rcases List.mem_cons.1 hb with rfl | hb
  · exact h1
  · have : n < b := by simpa using (List.mem_filter.1 hb).2
    omega
theorem Grow.put {m : Mp} {c x y : Nat} {p : List Nat} (b : Grow m c p) (hx : x ∈ p) (hy : y ∈ nx m x) : Grow m c (put p y) :=
  ⟨put_sorted b.sorted, by rw [mem_put]; have := b.head; by_cases e : c = y <;> simp [e, this], fun z hz => by
    rcases mem_put.1 hz with rfl | hz
    · exact .next (b.rch x hx) hy
    · exact b.rch z hz.1⟩
theorem put_mem_old {l : List Nat} {n x : Nat} (h : x ∈ l) : x ∈ put l n := by
  rw [mem_put]
  by_cases e : x = n
  · exact .inl e
  · exact .inr ⟨h, e⟩
theorem put_length {l : List Nat} {n : Nat} (hs : l.Pairwise (· < ·)) (h : n ∉ l) : (put l n).length = l.length + 1 := by
  have h1 := len_eq_of_mem (put l n) (n :: l) (nodup_of_sorted (put_sorted hs)) (List.nodup_cons.2 ⟨h, nodup_of_sorted hs⟩) fun x => by
    rw [mem_put, List.mem_cons]
    constructor
    · rintro (h | h)
      · exact .inl h
      · exact .inr h.1
    · rintro (h' | h')
      · exact .inl h'
      · exact .inr ⟨h', fun e => h (e ▸ h')⟩
  simpa using h1
/-- The list parts where the number belongs. -/
theorem put_split {l : List Nat} {n k : Nat} (hs : l.Pairwise (· < ·)) (hk : k ≤ l.length) (h1 : ∀ i, i < k → l.getD i 0 < n) (h2 : k < l.length → n < l.getD k 0) :
    put l n = l.take k ++ n :: l.drop k := by
  have e : l = l.take k ++ l.drop k := (List.take_append_drop k l).symm
  have ht : ∀ x ∈ l.take k, x < n := by
    intro x hx
    obtain ⟨i, hi, rfl⟩ := List.mem_iff_getElem.1 hx
    have hi' : i < k := by simp at hi; omega
    have := h1 i hi'
    rw [List.getElem_take]
    simpa [show i < l.length by omega] using this
  have hd : ∀ x ∈ l.drop k, n < x := by
    intro x hx
    obtain ⟨i, hi, rfl⟩ := List.mem_iff_getElem.1 hx
    simp only [List.length_drop] at hi
    have h3 := h2 (by omega)
    rw [List.getElem_drop]
    by_cases h0 : i = 0
    · subst h0
      simpa [show k < l.length by omega] using h3
    · have := (List.pairwise_iff_getElem.1 hs) k (k + i) (by omega) (by omega) (by omega)
      have h4 : n < l[k]'(by omega) := by simpa [show k < l.length by omega] using h3
      omega
  unfold Lb.put
  conv => lhs; rw [e]
  rw [List.filter_append, List.filter_append]
  rw [List.filter_eq_self.2 (fun x hx => by simpa using ht x hx), List.filter_eq_nil_iff.2 (fun x hx => by have := hd x hx; simp; omega),
    List.filter_eq_nil_iff.2 (fun x hx => by have := ht x hx; simp; omega), List.filter_eq_self.2 (fun x hx => by simpa using hd x hx)]
  simp

/-- Whether the part begins at its cell. -/
theorem part_head {m : Mp} {n c : Nat} {p : List Nat} (ho : Opn m n c) (hp : IsPart m c p) : p.getD 0 0 = c ↔ Heads m n c := by
  have hc : c ∈ p := (hp.2 c).2 .here
  obtain ⟨a, q, rfl⟩ : ∃ a q, p = a :: q := by
    cases p with
    | nil => cases hc
    | cons a q => exact ⟨a, q, rfl⟩
  have hq := List.pairwise_cons.1 hp.1
  simp only [List.getD_cons_zero]
  constructor
  · rintro rfl
    refine ⟨ho, fun x hx => ?_⟩
    rcases List.mem_cons.1 ((hp.2 x).2 hx) with rfl | hm
    · exact Nat.le_refl _
    · exact Nat.le_of_lt (hq.1 x hm)
  · rintro ⟨_, hall⟩
    have h1 := hall a ((hp.2 a).1 (by simp))
    rcases List.mem_cons.1 hc with e | hm
    · exact e.symm
    · have := hq.1 c hm; omega

/-! All parts together. -/
theorem PartsTo.all {m : Mp} {w h k : Nat} (g : GoodM m w h) {ps : List (List Nat)} (hp : PartsTo m (w * h) k ps) : ps.flatten.Nodup ∧ ∀ x, x ∈ ps.flatten ↔ Seen m (w * h) k x := by
  induction hp with
  | zero => exact ⟨by simp, fun x => by simp [seen_zero]⟩
  | yes hp' hh hq ih =>
    rename_i k ps p
    refine ⟨?_, fun x => ?_⟩
    · rw [List.flatten_append, List.nodup_append]
      refine ⟨ih.1, by simpa using nodup_of_sorted hq.1, fun a ha b hb => ?_⟩
      intro e
      subst e
      have h1 := (ih.2 a).1 ha
      have h2 : a ∈ p := by simpa using hb
      obtain ⟨c, hc, ho, hr⟩ := h1
      have hka := (hq.2 a).1 h2
      have := hh.2 c (hka.trans (hr.sym g ho))
      omega
    · rw [List.flatten_append, List.mem_append, ih.2, seen_new hh.1]
      simp [hq.2]
  | no hp' hn ih =>
    rename_i k ps
    refine ⟨ih.1, fun x => ?_⟩
    rw [ih.2]
    by_cases ho : Opn m (w * h) k
    · by_cases hs : Seen m (w * h) k k
      · exact (seen_old hs).symm
      · exact absurd (heads_new g ho hs) hn
    · exact (seen_forb ho).symm

theorem PartsTo.count {m : Mp} {w h : Nat} (g : GoodM m w h) {ps : List (List Nat)} (hp : PartsTo m (w * h) (w * h) ps) :
    (ps.map List.length).sum = ((List.range (w * h)).filter (opn m)).length := by
  have ha := hp.all g
  rw [← List.length_flatten]
  refine len_eq_of_mem _ _ ha.1 (List.nodup_range.filter _) fun x => ?_
  rw [ha.2, List.mem_filter, List.mem_range]
  unfold opn
  simp only [decide_eq_true_eq]
  constructor
  · intro hs
    exact seen_opn g hs
  · intro ho
    exact ⟨x, ho.1, ho, .here⟩

end Go.Proofs.Ytleoljnofdajfaa.Lb
