/- A feature read from its text: the program. -/
import Derived.Test.YtpfjdlaaakkimaaDoorPfC
import Derived.Test.YtpfjdlaaakkimaaDoorPrsI
import Derived.Test.YtpfjdlaaakkimaaDoorSplC
import Derived.Test.YtpfjdlaaakkimaaDoorL1S
import Derived.Test.YtpfjdlaaakkimaaDoorFtL
namespace Go.Proofs.YtpfjdlaaakkimaaDoor.PfI
open Go.RowKit Lb Bk Fmt NumM TxF PfM PfC Word Rd SplC
open L1S (NewStrs)
set_option linter.unusedSimpArgs false
set_option linter.unusedVariables false

/-- A list of strings and whether there is one. -/
def SplPost (w : World) (ps : List ByteArray) (ok : Bool) (e : Ending) (W' : World) : Prop :=
  ∃ v, e = .returned (.tuple #[v, .bool ok]) ∧ NewStrs w ps v W'
theorem split_ok (s : ByteArray) (w : World) (hs : s.size ≤ 4000) :
    Calls Tryd.prog 53 #[.string s, .string ⟨#[32]⟩] w (SplPost w (parts s 32) true) :=
  (callsIn_wide (n := 3)).1 ((split_in _ 3 trivial trivial trivial rfl (Nat.le_refl _) s ⟨#[32]⟩ hs rfl (by decide) w).mono fun e W' ⟨v, he, ho, hb⟩ => ⟨v, he, ho, hb⟩)
set_option maxHeartbeats 400000 in
theorem split_no (s : ByteArray) (w : World) (hs : s.size ≤ 1048576) (h1 : 4000 < s.size) :
    Calls Tryd.prog 53 #[.string s, .string ⟨#[32]⟩] w (SplPost w [] false) := by
  go_enter Tryd.func53, Tryd.ntmps53
  go_wp2
  go_ret2
  exact ⟨_, rfl, World.ownsRow_made w #[] 0 (Nat.le_refl _) (Nat.zero_le _) rfl, (Below.refl _ _).alloc (Nat.le_refl _) _⟩

def sideS : ByteArray := ⟨#[32, 115, 105, 100, 101, 32]⟩
def bfr (s : ByteArray) : ByteArray := ⟨(Lib.cut s.data.toList sideS.data.toList).1.toArray⟩
def aft (s : ByteArray) : ByteArray := ⟨(Lib.cut s.data.toList sideS.data.toList).2.1.toArray⟩
/-- What the program reads off a text. -/
def canI (s : ByteArray) : Ft := rdI (parts (bfr s) 32) (aft s)
def okI (s : ByteArray) : Bool := decide ((bfr s).size ≤ 4000) && (okF (canI s) && decide (tx (canI s) = s))
def ansI (s : ByteArray) : Ft := if okI s = true then canI s else FtL.noF
theorem bfr_size (s : ByteArray) : (bfr s).size ≤ s.size := by
  unfold bfr
  show (Lib.cut s.data.toList sideS.data.toList).1.toArray.size ≤ _
  have hl : s.data.toList.length = s.size := Array.length_toList
  unfold Lib.cut
  split
  · simp; omega
  · simp [hl]

/-- What is read after 'k' words. -/
def fk (ws : List ByteArray) (f0 : Ft) : Nat → Ft
  | 0 => f0
  | k + 1 => stepI (fk ws f0 k) (sAt ws (k + 1))
theorem fk_take (x : ByteArray) (t : List ByteArray) (f0 : Ft) : ∀ k, k ≤ t.length → (t.take k).foldl stepI f0 = fk (x :: t) f0 k
  | 0, _ => rfl
  | k + 1, h => by
    rw [take_succ_getD t ByteArray.empty k (by omega), List.foldl_append, fk_take x t f0 k (by omega)]
    rfl
theorem fk_all {ws : List ByteArray} {n : Nat} (h : ws.length = n + 1) (f0 : Ft) : ws.tail.foldl stepI f0 = fk ws f0 n := by
  cases ws with
  | nil => simp at h
  | cons x t =>
    have hl : t.length = n := by simpa using h
    have := fk_take x t f0 t.length (Nat.le_refl _)
    rw [List.take_length, hl] at this
    exact this

/-- What stands while the words are read: the box of the result, the feature's box, the words. -/
structure Ps (w W : World) (r g : Nat) (f : Ft) (g2 : Nat) (ws : List ByteArray) : Prop where
  B : Below w.heap.size w W
  R : Blk W r 25 #[.int .i64 0, .string ⟨#[]⟩, .string ⟨#[]⟩, .string ⟨#[]⟩, .string ⟨#[]⟩]
  F : Blk W g 25 #[.int .i64 f.c, .string f.wh, .string f.wt, .string f.lk, .string f.sd]
  S : StrRow W (some ⟨g2, 0, none⟩) ws
  L : r < g ∧ g2 < g ∧ w.heap.size ≤ g
theorem Ps.later {w W W' : World} {r g g2 : Nat} {f : Ft} {ws : List ByteArray} (h : Ps w W r g f g2 ws) (hb : Below W.heap.size W W') : Ps w W' r g f g2 ws := ⟨h.B.trans (hb.mono h.B.size), h.R.later hb, h.F.later hb, RowAt.below h.S hb, h.L⟩
theorem Ps.put {w W : World} {r g g2 : Nat} {f f' : Ft} {ws : List ByteArray} (h : Ps w W r g f g2 ws) (i : Nat) (v : Value) (e : (#[.int .i64 f.c, .string f.wh, .string f.wt, .string f.lk, .string f.sd]).setIfInBounds i v = #[.int .i64 f'.c, .string f'.wh, .string f'.wt, .string f'.lk, .string f'.sd]) : Ps w (W.setCell ⟨g, i, none⟩ v) r g f' g2 ws := by
  refine ⟨h.B.setCell (p := ⟨g, i, none⟩) h.L.2.2 v, h.R.far (p := ⟨g, i, none⟩) (by have := h.L.1; show r ≠ g; omega) v, by have := h.F.set_ i v; rwa [e] at this, ?_, h.L⟩
  rcases h.S with h0 | ⟨b, off, ha, hc⟩
  · exact .inl h0
  · refine .inr ⟨b, off, ha, fun k hk => ?_⟩
    cases ha
    exact (World.cell?_of_block (Below.heap_setCell W ⟨g, i, none⟩ v g2 (by have := h.L.2.1; show g2 ≠ g; omega))).trans (hc k hk)
theorem Ps.put_wh {w W : World} {r g g2 : Nat} {f : Ft} {ws : List ByteArray} (h : Ps w W r g f g2 ws) (x : ByteArray) : Ps w (W.setCell ⟨g, 1, none⟩ (.string x)) r g ⟨f.c, x, f.wt, f.lk, f.sd⟩ g2 ws := h.put 1 _ rfl
theorem Ps.put_wt {w W : World} {r g g2 : Nat} {f : Ft} {ws : List ByteArray} (h : Ps w W r g f g2 ws) (x : ByteArray) : Ps w (W.setCell ⟨g, 2, none⟩ (.string x)) r g ⟨f.c, f.wh, x, f.lk, f.sd⟩ g2 ws := h.put 2 _ rfl
theorem Ps.put_lk {w W : World} {r g g2 : Nat} {f : Ft} {ws : List ByteArray} (h : Ps w W r g f g2 ws) (x : ByteArray) : Ps w (W.setCell ⟨g, 3, none⟩ (.string x)) r g ⟨f.c, f.wh, f.wt, x, f.sd⟩ g2 ws := h.put 3 _ rfl

theorem all5 {W : World} {g : Nat} {t : TypeId} {x0 x1 x2 x3 x4 : Value} (h : Blk W g t #[x0, x1, x2, x3, x4]) (y0 y1 y2 y3 y4 : Value) :
    Blk (((((W.setCell ⟨g, 0, none⟩ y0).setCell ⟨g, 1, none⟩ y1).setCell ⟨g, 2, none⟩ y2).setCell ⟨g, 3, none⟩ y3).setCell ⟨g, 4, none⟩ y4) g t #[y0, y1, y2, y3, y4] := by
  have := ((((h.set_ 0 y0).set_ 1 y1).set_ 2 y2).set_ 3 y3).set_ 4 y4
  simpa using this
theorem own_strs0 {w : World} {base : Nat} {v : Value} {ss : List ByteArray} (h : w.ownsRow base 9 1 v ss.length (ss.map Value.string)) (h0 : 0 < ss.length) : ∃ g cap, v = .slice (some ⟨g, 0, none⟩) ss.length cap ∧ StrRow w (some ⟨g, 0, none⟩) ss ∧ ss.length ≤ cap := by
  rcases h.2 with ⟨rfl, h1⟩ | ⟨g, cap, cur, rfl, hb, _, hle, _⟩
  · omega
  · exact ⟨g, cap, rfl, (RowAt.of_owns h).congr fun k hk => by simp [sAt, hk], hle⟩
theorem row_at {w : World} {g : Nat} {ss : List ByteArray} (h : StrRow w (some ⟨g, 0, none⟩) ss) (k : Nat) (hk : k < ss.length) : w.cell? ⟨g, k, none⟩ = some (.string (sAt ss k)) := by
  rcases h with h | ⟨b, off, e, hc⟩
  · omega
  · cases e
    have := hc k hk
    rwa [Nat.zero_add] at this
theorem own_strs {w : World} {base : Nat} {v : Value} {ss : List ByteArray} (h : w.ownsRow base 9 1 v ss.length (ss.map Value.string)) : ∃ a cap, v = .slice a ss.length cap ∧ StrRow w a ss ∧ ss.length ≤ cap := by
  rcases h.2 with ⟨rfl, h0⟩ | ⟨g, cap, cur, rfl, hb, _, hle, _⟩
  · exact ⟨none, 0, by rw [h0], .inl h0, by omega⟩
  · exact ⟨some ⟨g, 0, none⟩, cap, rfl, (RowAt.of_owns h).congr fun k hk => by simp [sAt, hk], hle⟩

set_option maxHeartbeats 8000000 in
theorem impl_any (s : ByteArray) (hs : s.size ≤ 1048576) (w : World) (hg : Prs.Glob w) (m : Int) (hm : w.cell? ⟨0, 0, none⟩ = some (.int .i64 m)) :
    Calls Tryd.prog 13 #[.string s] w fun e w' => e = .returned (.tuple #[.agg #[.int .i64 (ansI s).c, .string (ansI s).wh, .string (ansI s).wt, .string (ansI s).lk, .string (ansI s).sd], .bool (okI s)]) ∧ Below w.heap.size w w' := by
  have hB0 := Lib.hid ((Below.refl w.heap.size w).alloc (Nat.le_refl _) (.cells #[.int .i64 0, .string ⟨#[]⟩, .string ⟨#[]⟩, .string ⟨#[]⟩, .string ⟨#[]⟩] 25))
  have hK0 := Lib.hid (Blk.new w 25 #[.int .i64 0, .string ⟨#[]⟩, .string ⟨#[]⟩, .string ⟨#[]⟩, .string ⟨#[]⟩])
  have hbz := bfr_size s
  go_enter Tryd.func13, Tryd.ntmps13
  go_wp2_with fail
  refine (Tryd.strings_Cut s sideS m _ (by omega) (by
    have hl := World.block_lt_of_cell? w _ hm
    rw [← hm]
    exact ((Below.refl w.heap.size w).alloc (Nat.le_refl _) _).cell hl)).mono ?_
  rintro e w1 ⟨rfl, q1, rfl⟩
  obtain ⟨bv, hbv⟩ : ∃ bv : ByteArray, bv = bfr s := ⟨_, rfl⟩
  obtain ⟨av, hav⟩ : ∃ av : ByteArray, av = aft s := ⟨_, rfl⟩
  obtain ⟨fv, hfv⟩ : ∃ fv : Bool, fv = (Lib.cut s.data.toList sideS.data.toList).2.2 := ⟨_, rfl⟩
  rw [show (⟨(Lib.cut s.data.toList sideS.data.toList).1.toArray⟩ : ByteArray) = bv from hbv.symm, show (⟨(Lib.cut s.data.toList sideS.data.toList).2.1.toArray⟩ : ByteArray) = av from hav.symm, ← hfv]
  rw [← hbv] at hbz
  have HBV := Lib.hid hbv
  have HAV := Lib.hid hav
  clear hbv hav hfv
  have hB1 := Lib.hid (below_drewN hB0.out q1)
  have hK1 := Lib.hid (hK0.out.alloc (.cells #[] 9))
  by_cases h4 : bv.size ≤ 4000
  · go_wp2_with fail
    refine (split_ok bv _ h4).mono ?_
    rintro e w2 ⟨v, rfl, ho, hb2⟩
    have hwl := parts_length bv 32
    have hwt := parts_total bv 32
    have hw0 := sAt_le (parts bv 32) 0
    obtain ⟨ws, hws⟩ : ∃ ws, parts bv 32 = ws := ⟨_, rfl⟩
    rw [hws] at ho hwl hwt hw0
    obtain ⟨g2, c2, rfl, hr2, hc2⟩ := own_strs0 ho hwl.2
    have HWS := Lib.hid hws
    have hB2 := Lib.hid (hB1.out.trans (hb2.mono hB1.out.size))
    have hK2 := Lib.hid ((show Blk _ _ _ _ from (hK0.out.drewN q1)).later hb2)
    have hR2 := Lib.hid hr2
    have hG2 := Lib.hid (Prs.Glob.below hg hB2.out)
    obtain ⟨n, hn⟩ : ∃ n, ws.length = n + 1 := ⟨ws.length - 1, by omega⟩
    have HN := Lib.hid hn
    have d0 := row_at hr2 0 (by omega)
    rw [hn] at hc2 hwl ⊢
    have hsz0 : (sAt ws 0).size ≤ 1048576 := by omega
    clear hb2 ho hr2 hn hws hwt hw0
    go_wp2_with fail
    refine (Prs.implParse_any (sAt ws 0) _ hG2.out hsz0).mono ?_
    rintro e w3 ⟨he, hb3⟩
    unfold RdPost at he
    subst he
    obtain ⟨cz, hcz⟩ : ∃ cz, (val (sAt ws 0)).getD 0 = cz := ⟨_, rfl⟩
    have HCZ := Lib.hid hcz
    obtain ⟨ob, hob⟩ : ∃ ob, (val (sAt ws 0)).isSome = ob := ⟨_, rfl⟩
    rw [hcz, hob]
    clear hcz hob d0
    obtain ⟨f0, hf0⟩ : ∃ f0 : Ft, f0 = ⟨cz, ⟨#[]⟩, ⟨#[]⟩, ⟨#[]⟩, av⟩ := ⟨_, rfl⟩
    have HP3 := Lib.hid (show Ps w (w3.alloc (.cells #[.int .i64 cz, .string ⟨#[]⟩, .string ⟨#[]⟩, .string ⟨#[]⟩, .string av] 25)) w.heap.size w3.heap.size f0 g2 ws from by
      subst hf0
      exact ⟨(hB2.out.trans (hb3.mono hB2.out.size)).alloc (by have := hB2.out.size; have := hb3.size; omega) _, (hK2.out.later hb3).alloc _, Blk.new w3 _ _, RowAt.below (RowAt.below hR2.out hb3) ((Below.refl _ _).alloc (Nat.le_refl _) _), by have := hB2.out.size; have := hb3.size; have := hK2.out.lt; omega, by have := World.block_lt_of_cell? w2 _ (row_at hR2.out 0 (by rw [HN.out]; omega)); have := hb3.size; simp only at *; omega, by have := hB2.out.size; have := hb3.size; omega⟩)
    have HF0 := Lib.hid hf0
    clear hb3 hf0
    by_cases hc1 : c2 = 1
    · subst hc1
      obtain rfl : n = 0 := by omega
      go_wp2
      go_loopw [43, 13] (fun i _ wr => ∃ k : Nat, k ≤ 0 ∧ i = .int .i64 k ∧ Ps w wr w.heap.size w3.heap.size (fk ws f0 k) g2 ws) (fun i _ _ => 0 - (intOf i).toNat)
      case atStart => exact ⟨0, Nat.zero_le _, rfl, HP3.out⟩
      case round =>
        obtain ⟨k, hk, rfl, hp⟩ := hrel
        have HP := Lib.hid hp
        clear hp
        by_cases hlt : k < 0
        · omega
        · obtain rfl : k = 0 := by omega
          obtain ⟨gf, hgf⟩ : ∃ gf, fk ws f0 0 = gf := ⟨_, rfl⟩
          have HGF := Lib.hid (show canI s = gf from by
            unfold canI rdI
            rw [← HBV.out, HWS.out, fk_all HN.out, ← HAV.out, HCZ.out, ← hgf, HF0.out])
          have HPg := Lib.hid (show Ps w wr w.heap.size w3.heap.size gf g2 ws from by rw [← hgf]; exact HP.out)
          clear hgf HP
          have hrg : w.heap.size < wr.heap.size := HPg.out.R.lt
          obtain ⟨p0, p1, p2, p3, p4, -⟩ := HPg.out.F.five
          go_wp2_with fail
          clear p0 p1 p2 p3 p4
          refine (TxF.impl_any gf _).mono ?_
          rintro e w5 ⟨rfl, hb5⟩
          have HP5 := Lib.hid (HPg.out.later hb5)
          clear hb5 HPg hrg
          obtain ⟨r0, r1, r2, r3, r4, z0, z1, z2, z3, z4⟩ := HP5.out.R.five
          obtain ⟨p0, p1, p2, p3, p4, -⟩ := HP5.out.F.five
          by_cases hok : okF gf = true
          · by_cases htx : tx gf = s
            · have HO := Lib.hid (show okI s = true from by unfold okI; rw [HGF.out, hok, decide_eq_true htx, decide_eq_true (by rw [← HBV.out]; exact h4)]; rfl)
              have HA := Lib.hid (show ansI s = gf from by unfold ansI; rw [if_pos HO.out, HGF.out])
              have hq : ((tx gf).toList == s.toList) = true := by rw [htx]; simp
              rw [hok]
              clear hok htx
              go_wp2_with fail
              have hR := Lib.hid (all5 HP5.out.R (.int .i64 gf.c) (.string gf.wh) (.string gf.wt) (.string gf.lk) (.string gf.sd))
              obtain ⟨u0, u1, u2, u3, u4, -⟩ := hR.out.five
              refine bodyPost_ret (v := .tuple #[.agg #[.int .i64 gf.c, .string gf.wh, .string gf.wt, .string gf.lk, .string gf.sd], .bool true]) (by simp [results, Tryd.results13, go_sem, u0, u1, u2, u3, u4]) rfl ⟨by rw [HO.out, HA.out], ?_⟩
              iterate 5 (refine Below.setCell ?_ (by simp) _)
              exact HP5.out.B
            · have HO := Lib.hid (show okI s = false from by unfold okI; rw [HGF.out, decide_eq_false htx]; simp)
              have HA := Lib.hid (show ansI s = FtL.noF from by unfold ansI; rw [if_neg (by rw [HO.out]; decide)])
              have hq := str_beq htx
              rw [hok]
              clear hok htx
              go_wp2_with fail
              have hR := Lib.hid (all5 HP5.out.R (.int .i64 0) (.string ⟨#[]⟩) (.string ⟨#[]⟩) (.string ⟨#[]⟩) (.string ⟨#[]⟩))
              obtain ⟨u0, u1, u2, u3, u4, -⟩ := hR.out.five
              refine bodyPost_ret (v := .tuple #[.agg #[.int .i64 0, .string ⟨#[]⟩, .string ⟨#[]⟩, .string ⟨#[]⟩, .string ⟨#[]⟩], .bool false]) (by simp [results, Tryd.results13, go_sem, u0, u1, u2, u3, u4]) rfl ⟨by rw [HO.out, HA.out]; rfl, ?_⟩
              iterate 5 (refine Below.setCell ?_ (by simp) _)
              exact HP5.out.B
          · have hok' : okF gf = false := by simpa using hok
            have HO := Lib.hid (show okI s = false from by unfold okI; rw [HGF.out, hok']; simp)
            have HA := Lib.hid (show ansI s = FtL.noF from by unfold ansI; rw [if_neg (by rw [HO.out]; decide)])
            rw [hok']
            clear hok hok'
            go_wp2_with fail
            have hR := Lib.hid (all5 HP5.out.R (.int .i64 0) (.string ⟨#[]⟩) (.string ⟨#[]⟩) (.string ⟨#[]⟩) (.string ⟨#[]⟩))
            obtain ⟨u0, u1, u2, u3, u4, -⟩ := hR.out.five
            refine bodyPost_ret (v := .tuple #[.agg #[.int .i64 0, .string ⟨#[]⟩, .string ⟨#[]⟩, .string ⟨#[]⟩, .string ⟨#[]⟩], .bool false]) (by simp [results, Tryd.results13, go_sem, u0, u1, u2, u3, u4]) rfl ⟨by rw [HO.out, HA.out]; rfl, ?_⟩
            iterate 5 (refine Below.setCell ?_ (by simp) _)
            exact HP5.out.B
    · skip
      go_wp2
      go_loopw [43, 13] (fun i _ wr => ∃ k : Nat, k ≤ n ∧ i = .int .i64 k ∧ Ps w wr w.heap.size w3.heap.size (fk ws f0 k) g2 ws) (fun i _ _ => n - (intOf i).toNat)
      case atStart => exact ⟨0, Nat.zero_le _, rfl, HP3.out⟩
      case round =>
        obtain ⟨k, hk, rfl, hp⟩ := hrel
        have HP := Lib.hid hp
        clear hp
        by_cases hlt : k < n
        · obtain ⟨x, hx⟩ : ∃ x, sAt ws (k + 1) = x := ⟨_, rfl⟩
          have HX := Lib.hid hx
          obtain ⟨fc, hfc⟩ : ∃ fc, fk ws f0 k = fc := ⟨_, rfl⟩
          have HFK := Lib.hid hfc
          have HPc := Lib.hid (show Ps w wr w.heap.size w3.heap.size fc g2 ws from by rw [← hfc]; exact HP.out)
          have cx : wr.cell? ⟨g2, 1 + k, none⟩ = some (.string x) := by rw [show 1 + k = k + 1 by omega, ← hx]; exact row_at HP.out.S (k + 1) (by rw [HN.out]; omega)
          clear hx hfc HP
          go_wp2_with fail
          clear cx
          refine (which_any x _).mono ?_
          by_cases hwi : x ∈ whichs
          · rw [decide_eq_true hwi]
            rintro e w4 ⟨rfl, hb4⟩
            have HP4 := Lib.hid (HPc.out.later hb4)
            clear hb4 HPc
            obtain ⟨p0, p1, p2, p3, p4, y0, y1, y2, y3, y4⟩ := HP4.out.F.five
            have HP5 := Lib.hid (HP4.out.put_wh x)
            have HE := Lib.hid (show fk ws f0 (k + 1) = ⟨fc.c, x, fc.wt, fc.lk, fc.sd⟩ from by show stepI (fk ws f0 k) (sAt ws (k + 1)) = _; rw [HX.out, HFK.out]; exact if_pos hwi)
            go_wp2
            go_roundw
            case rel => exact ⟨k + 1, by omega, by go_num, by rw [HE.out]; exact HP5.out⟩
            case measure => simp [intOf]; omega
          · rw [decide_eq_false hwi]
            rintro e w4 ⟨rfl, hb4⟩
            have HPd := Lib.hid (HPc.out.later hb4)
            clear hb4 HPc
            go_wp2_with fail
            refine (look_any x _).mono ?_
            by_cases hli : x ∈ looks
            · rw [decide_eq_true hli]
              rintro e w5 ⟨rfl, hb5⟩
              have HP4 := Lib.hid (HPd.out.later hb5)
              clear hb5 HPd
              obtain ⟨p0, p1, p2, p3, p4, y0, y1, y2, y3, y4⟩ := HP4.out.F.five
              have HP5 := Lib.hid (HP4.out.put_lk x)
              have HE := Lib.hid (show fk ws f0 (k + 1) = ⟨fc.c, fc.wh, fc.wt, x, fc.sd⟩ from by show stepI (fk ws f0 k) (sAt ws (k + 1)) = _; rw [HX.out, HFK.out]; unfold stepI; rw [if_neg hwi, if_pos hli])
              go_wp2
              go_roundw
              case rel => exact ⟨k + 1, by omega, by go_num, by rw [HE.out]; exact HP5.out⟩
              case measure => simp [intOf]; omega
            · rw [decide_eq_false hli]
              rintro e w5 ⟨rfl, hb5⟩
              have HP4 := Lib.hid (HPd.out.later hb5)
              clear hb5 HPd
              obtain ⟨p0, p1, p2, p3, p4, y0, y1, y2, y3, y4⟩ := HP4.out.F.five
              have HP5 := Lib.hid (HP4.out.put_wt x)
              have HE := Lib.hid (show fk ws f0 (k + 1) = ⟨fc.c, fc.wh, x, fc.lk, fc.sd⟩ from by show stepI (fk ws f0 k) (sAt ws (k + 1)) = _; rw [HX.out, HFK.out]; unfold stepI; rw [if_neg hwi, if_neg hli])
              go_wp2
              go_roundw
              case rel => exact ⟨k + 1, by omega, by go_num, by rw [HE.out]; exact HP5.out⟩
              case measure => simp [intOf]; omega
        · obtain rfl : k = n := by omega
          obtain ⟨gf, hgf⟩ : ∃ gf, fk ws f0 k = gf := ⟨_, rfl⟩
          have HGF := Lib.hid (show canI s = gf from by
            unfold canI rdI
            rw [← HBV.out, HWS.out, fk_all HN.out, ← HAV.out, HCZ.out, ← hgf, HF0.out])
          have HPg := Lib.hid (show Ps w wr w.heap.size w3.heap.size gf g2 ws from by rw [← hgf]; exact HP.out)
          clear hgf HP
          have hrg : w.heap.size < wr.heap.size := HPg.out.R.lt
          obtain ⟨p0, p1, p2, p3, p4, -⟩ := HPg.out.F.five
          go_wp2_with fail
          clear p0 p1 p2 p3 p4
          refine (TxF.impl_any gf _).mono ?_
          rintro e w5 ⟨rfl, hb5⟩
          have HP5 := Lib.hid (HPg.out.later hb5)
          clear hb5 HPg hrg
          obtain ⟨r0, r1, r2, r3, r4, z0, z1, z2, z3, z4⟩ := HP5.out.R.five
          obtain ⟨p0, p1, p2, p3, p4, -⟩ := HP5.out.F.five
          by_cases hok : okF gf = true
          · by_cases htx : tx gf = s
            · have HO := Lib.hid (show okI s = true from by unfold okI; rw [HGF.out, hok, decide_eq_true htx, decide_eq_true (by rw [← HBV.out]; exact h4)]; rfl)
              have HA := Lib.hid (show ansI s = gf from by unfold ansI; rw [if_pos HO.out, HGF.out])
              have hq : ((tx gf).toList == s.toList) = true := by rw [htx]; simp
              rw [hok]
              clear hok htx
              go_wp2_with fail
              have hR := Lib.hid (all5 HP5.out.R (.int .i64 gf.c) (.string gf.wh) (.string gf.wt) (.string gf.lk) (.string gf.sd))
              obtain ⟨u0, u1, u2, u3, u4, -⟩ := hR.out.five
              refine bodyPost_ret (v := .tuple #[.agg #[.int .i64 gf.c, .string gf.wh, .string gf.wt, .string gf.lk, .string gf.sd], .bool true]) (by simp [results, Tryd.results13, go_sem, u0, u1, u2, u3, u4]) rfl ⟨by rw [HO.out, HA.out], ?_⟩
              iterate 5 (refine Below.setCell ?_ (by simp) _)
              exact HP5.out.B
            · have HO := Lib.hid (show okI s = false from by unfold okI; rw [HGF.out, decide_eq_false htx]; simp)
              have HA := Lib.hid (show ansI s = FtL.noF from by unfold ansI; rw [if_neg (by rw [HO.out]; decide)])
              have hq := str_beq htx
              rw [hok]
              clear hok htx
              go_wp2_with fail
              have hR := Lib.hid (all5 HP5.out.R (.int .i64 0) (.string ⟨#[]⟩) (.string ⟨#[]⟩) (.string ⟨#[]⟩) (.string ⟨#[]⟩))
              obtain ⟨u0, u1, u2, u3, u4, -⟩ := hR.out.five
              refine bodyPost_ret (v := .tuple #[.agg #[.int .i64 0, .string ⟨#[]⟩, .string ⟨#[]⟩, .string ⟨#[]⟩, .string ⟨#[]⟩], .bool false]) (by simp [results, Tryd.results13, go_sem, u0, u1, u2, u3, u4]) rfl ⟨by rw [HO.out, HA.out]; rfl, ?_⟩
              iterate 5 (refine Below.setCell ?_ (by simp) _)
              exact HP5.out.B
          · have hok' : okF gf = false := by simpa using hok
            have HO := Lib.hid (show okI s = false from by unfold okI; rw [HGF.out, hok']; simp)
            have HA := Lib.hid (show ansI s = FtL.noF from by unfold ansI; rw [if_neg (by rw [HO.out]; decide)])
            rw [hok']
            clear hok hok'
            go_wp2_with fail
            have hR := Lib.hid (all5 HP5.out.R (.int .i64 0) (.string ⟨#[]⟩) (.string ⟨#[]⟩) (.string ⟨#[]⟩) (.string ⟨#[]⟩))
            obtain ⟨u0, u1, u2, u3, u4, -⟩ := hR.out.five
            refine bodyPost_ret (v := .tuple #[.agg #[.int .i64 0, .string ⟨#[]⟩, .string ⟨#[]⟩, .string ⟨#[]⟩, .string ⟨#[]⟩], .bool false]) (by simp [results, Tryd.results13, go_sem, u0, u1, u2, u3, u4]) rfl ⟨by rw [HO.out, HA.out]; rfl, ?_⟩
            iterate 5 (refine Below.setCell ?_ (by simp) _)
            exact HP5.out.B
  · have HO := Lib.hid (show okI s = false from by unfold okI; rw [decide_eq_false (by rw [← HBV.out]; exact h4)]; rfl)
    have HA := Lib.hid (show ansI s = FtL.noF from by unfold ansI; rw [if_neg (by rw [HO.out]; decide)])
    go_wp2_with fail
    refine (split_no bv _ (by omega) (by omega)).mono ?_
    rintro e w2 ⟨v, rfl, ho, hb2⟩
    obtain ⟨a2, c2, rfl, -⟩ := own_strs ho
    have hB2 := Lib.hid (hB1.out.trans (hb2.mono hB1.out.size))
    have hK2 := Lib.hid ((show Blk _ _ _ _ from (hK0.out.drewN q1)).later hb2)
    clear hb2 ho
    obtain ⟨r0, r1, r2, r3, r4, z0, z1, z2, z3, z4⟩ := hK2.out.five
    go_wp2_with fail
    have hR := Lib.hid (all5 hK2.out (.int .i64 0) (.string ⟨#[]⟩) (.string ⟨#[]⟩) (.string ⟨#[]⟩) (.string ⟨#[]⟩))
    obtain ⟨u0, u1, u2, u3, u4, -⟩ := hR.out.five
    refine bodyPost_ret (v := .tuple #[.agg #[.int .i64 0, .string ⟨#[]⟩, .string ⟨#[]⟩, .string ⟨#[]⟩, .string ⟨#[]⟩], .bool false]) (by simp [results, Tryd.results13, go_sem, u0, u1, u2, u3, u4]) rfl ⟨by rw [HO.out, HA.out]; rfl, ?_⟩
    iterate 5 (refine Below.setCell ?_ (by simp) _)
    exact hB2.out

end Go.Proofs.YtpfjdlaaakkimaaDoor.PfI
