/-
  Draws of lists and vectors: contracts.
  Conditions: the source stands in a block of known cells.
  Draws of vectors: contracts.
  Conditions: the source stands in a block of known cells.
  Draws of spaces: contracts.
  Conditions: the source stands in a block of known cells.
-/
import Derived.Test.YtndneccgomfkdaaQm1
import Derived.Test.YtndneccgomfkdaaQm3
import Derived.Test.YtndneccgomfkdaaQm4
import Derived.Deep.DeepCutAuto
import Derived.Deep.RegionHeld3
namespace Go.Proofs.Ytndneccgomfkdaa
open Go.RowKit
set_option linter.unusedVariables false

theorem Src.lt {w : World} {b : Nat} {a : Option Addr} {len cap : Nat} {zs : List Int} (h : Src w b a len cap zs) : b < w.heap.size := by
  obtain ⟨k, x, s⟩ := h
  exact s.lt
/-- Changes at a later block leave the source as it is. -/
theorem Src.far {w w' : World} {b k : Nat} {a : Option Addr} {len cap : Nat} {zs : List Int} (h : Src w b a len cap zs) (ho : Only k w w') (hk : b < k) : Src w' b a len cap zs := by
  obtain ⟨n, x, lt, c0, c1, c2, f1, f2, le, sm, by_⟩ := h
  have hne : b ≠ k := by omega
  refine ⟨n, x, Nat.lt_of_lt_of_le lt ho.size, (ho.cell (p := ⟨b, 0, none⟩) lt hne).trans c0, (ho.cell (p := ⟨b, 1, none⟩) lt hne).trans c1, (ho.cell (p := ⟨b, 2, none⟩) lt hne).trans c2, (ho.frozen (p := ⟨b, 1, none⟩) lt hne).trans f1, (ho.frozen (p := ⟨b, 2, none⟩) lt hne).trans f2, le, sm, ?_⟩
  rcases by_ with h | ⟨xb, xo, ha, hb, hs, hc⟩
  · exact .inl h
  · exact .inr ⟨xb, xo, ha, hb, Nat.lt_of_lt_of_le hs ho.size, fun i hi => ⟨(hc i hi).1, (ho.cell (p := ⟨xb, xo + i, none⟩) hs (by show xb ≠ k; omega)).trans (hc i hi).2⟩⟩
theorem only_of {w w' : World} {row : Option Nat} (h : w.grownBy w' row) {B : Nat} (hr : ∀ k, row = some k → B ≤ k) (hB : B ≤ w.heap.size) : ∃ k, B ≤ k ∧ Only k w w' := by
  cases row with
  | none => exact ⟨w.heap.size, hB, h.os, h.tape, h.output, h.size, fun k hk _ => h.block k hk (by simp)⟩
  | some g => exact ⟨g, hr g rfl, h.os, h.tape, h.output, h.size, fun k hk hne => h.block k hk (by simp; exact fun e => hne e)⟩
theorem Src.grown {w w' : World} {b : Nat} {a : Option Addr} {len cap : Nat} {zs : List Int} {row : Option Nat} (h : Src w b a len cap zs) (hg : w.grownBy w' row) (hr : ∀ k, row = some k → b < k) : Src w' b a len cap zs := by
  obtain ⟨k, hk, ho⟩ := only_of hg (B := b + 1) (fun k e => hr k e) h.lt
  exact h.far ho hk
theorem Only.grown {b : Nat} {u v w : World} {row : Option Nat} (h : Only b u v) (hg : v.grownBy w row) (hr : ∀ k, row = some k → u.heap.size ≤ k) : Only b u w :=
  ⟨hg.os.trans h.os, hg.tape.trans h.tape, hg.output.trans h.output, Nat.le_trans h.size hg.size, fun k hk hne => (hg.block k (Nat.lt_of_lt_of_le hk h.size) (by
    cases row with
    | none => simp
    | some g => simp; intro e; have := hr g rfl; omega)).trans (h.block k hk hne)⟩
theorem OutR.only {B k : Nat} {w w' : World} {v : Value} {zs : List Int} (h : OutR B w v zs) (ho : Only k w w') (hk : k < B) : OutR B w' v zs :=
  World.ownsRow.kept h ⟨ho.os, ho.tape, ho.output, ho.size, fun j hj hne => ho.block j hj (fun e => hne (by rw [e]))⟩ (by
    cases hv : v.ownBlock with
    | none => exact .inl rfl
    | some g => exact .inr (by intro e; injection e with e; have := (World.ownsRow.lt h g hv).1; omega))
theorem OutR.push {B : Nat} {w : World} {v : Value} {X : List Int} {x : Int} (h : w.ownsRow B 2 1 v (X.length + 1) (X.map (Value.int .i64) ++ [.int .i64 x])) : OutR B w v (X ++ [x]) := by
  unfold OutR
  rw [List.length_append, List.map_append]
  exact h

/-- One of the numbers of a list, as it lies in memory. -/
theorem pick_in (c m : Nat) (ls : List Int) (b : Nat) (a : Option Addr) (len cap : Nat) (zs : List Int) (w : World) (hs : Src w b a len cap zs) (hrow : RowAt w c ls) (hl : ls.length = m) (m1 : 1 ≤ m) (m2 : m ≤ 1000) (hc : c < w.heap.size) (hne : c ≠ b) :
    Calls Try.prog 33 #[.pointer (some ⟨b, 0, none⟩), .slice (some ⟨c, 0, none⟩) m m] w (Drawn (fun x => x ∈ ls) b a len cap zs w) := by
  have HS := Lib.hid hs
  have HR := Lib.hid hrow
  have HL := Lib.hid hl
  clear hs hrow hl
  go_enter Try.func33, Try.ntmps33
  go_wp2_with (go_at_call 34; refine (next_any (m : Int) b a len cap zs _ HS.out).mono ?_; rintro e w1 ⟨x, rfl, hx, ho, hs1⟩; obtain ⟨hx0, hx1⟩ := hx (by omega); obtain ⟨j, rfl⟩ := Int.eq_ofNat_of_zero_le hx0; have hcell := (ho.cell (p := ⟨c, j, none⟩) hc hne).trans (HR.out j (by rw [HL.out]; omega)); have HJ : Hid (ls.getD j 0 ∈ ls) := (by show _ ∈ _; have hj : j < ls.length := (by rw [HL.out]; omega); rw [getD_at hj]; exact List.getElem_mem hj); clear hx)
  go_ret
  exact ⟨_, rfl, HJ.out, ho, hs1⟩

/-- A list that has been drawn: new, growing on. -/
def DrawnO (Q : List Int → Prop) (b : Nat) (a : Option Addr) (len cap : Nat) (zs : List Int) (w : World) (e : Ending) (w' : World) : Prop :=
  ∃ v X, e = .returned v ∧ Q X ∧ OutR w.heap.size w' v X ∧ Only b w w' ∧ Src w' b a len cap zs
/-- .. to be read. -/
def DrawnR (Q : List Int → Prop) (b : Nat) (a : Option Addr) (len cap : Nat) (zs : List Int) (w : World) (e : Ending) (w' : World) : Prop :=
  ∃ r c X, e = .returned (.slice r X.length c) ∧ Q X ∧ RowIn w.heap.size w'.heap.size w' r X ∧ Only b w w' ∧ Src w' b a len cap zs

end Go.Proofs.Ytndneccgomfkdaa

namespace Go.Proofs.Ytndneccgomfkdaa
open Go.RowKit
set_option linter.unusedVariables false

theorem rowOwn_in {lo tp : Nat} {w : World} {b o n : Nat} {f : Nat → Int} (h : RowOwn w b o n f) (h0 : lo ≤ b) (h1 : b < tp) : RowIn lo tp w (some ⟨b, o, none⟩) (mkR n f) :=
  .inr ⟨b, o, rfl, h0, h1, fun j hj => by
    rw [mkR_len] at hj
    rw [mkR_at _ hj]
    exact h.cell j hj⟩
theorem rowOwn_stay {w w' : World} {b o n : Nat} {f : Nat → Int} (h : RowOwn w b o n f) (e : w'.heap[b]? = w.heap[b]?) : RowOwn w' b o n f :=
  ⟨fun j hj => (World.cell?_of_block (w := w) (a := ⟨b, o + j, none⟩) e).trans (h.cell j hj), fun j hj => (World.frozen?_of_block (w := w) (a := ⟨b, o + j, none⟩) e).trans (h.free j hj)⟩
theorem rowOwn_put {w : World} {b o n : Nat} {f : Nat → Int} (h : RowOwn w b o n f) {j : Nat} (hj : j < n) (v : Int) : RowOwn (w.setCell ⟨b, o + j, none⟩ (.int .i64 v)) b o n (fun i => if i = j then v else f i) where
  cell i hi := by
    by_cases e : i = j
    · subst e; rw [if_pos rfl]; exact World.cell?_setCell_same w _ _ (h.cell i hi)
    · rw [if_neg e]; exact (World.cell?_setCell_other _ _ _ _ (by first | (simp; done) | (simp; omega))).trans (h.cell i hi)
  free i hi := by simp [go_sem, h.free i hi]
theorem rowOwn_put0 {w : World} {b o n : Nat} {f : Nat → Int} (h : RowOwn w b o n f) (hn : 0 < n) (v : Int) : RowOwn (w.setCell ⟨b, o, none⟩ (.int .i64 v)) b o n (fun i => if i = 0 then v else f i) := rowOwn_put h (j := 0) hn v
theorem heap_other (w : World) (o : Obj) {k : Nat} (h : k < w.heap.size) : (w.alloc o).heap[k]? = w.heap[k]? := (below_alloc w o).block k h

end Go.Proofs.Ytndneccgomfkdaa

namespace Go.Proofs.Ytndneccgomfkdaa
open Go.RowKit
set_option linter.unusedVariables false

/-- Two cells of a struct that may be written. -/
def L2 (w : World) (g : Nat) (u v : Value) : Prop := w.cell? ⟨g, 0, none⟩ = some u ∧ w.cell? ⟨g, 1, none⟩ = some v ∧ w.frozen? ⟨g, 0, none⟩ = false ∧ w.frozen? ⟨g, 1, none⟩ = false
theorem L2.only {w w' : World} {k g : Nat} {u v : Value} (h : L2 w g u v) (ho : Only k w w') (l : g < w.heap.size) (hne : g ≠ k) : L2 w' g u v :=
  ⟨(ho.cell (p := ⟨g, 0, none⟩) l hne).trans h.1, (ho.cell (p := ⟨g, 1, none⟩) l hne).trans h.2.1, (ho.frozen (p := ⟨g, 0, none⟩) l hne).trans h.2.2.1, (ho.frozen (p := ⟨g, 1, none⟩) l hne).trans h.2.2.2⟩
theorem L2.below {w w' : World} {g : Nat} {u v : Value} (h : L2 w g u v) (ho : Below w.heap.size w w') (l : g < w.heap.size) : L2 w' g u v :=
  ⟨(ho.cell (p := ⟨g, 0, none⟩) l).trans h.1, (ho.cell (p := ⟨g, 1, none⟩) l).trans h.2.1, (ho.frozen (p := ⟨g, 0, none⟩) l).trans h.2.2.1, (ho.frozen (p := ⟨g, 1, none⟩) l).trans h.2.2.2⟩
theorem L2.alloc {w : World} {g : Nat} {u v : Value} (h : L2 w g u v) (o : Obj) (l : g < w.heap.size) : L2 (w.alloc o) g u v := h.below (below_alloc w o) l
theorem L2.grown {w w' : World} {row : Option Nat} {g : Nat} {u v : Value} (h : L2 w g u v) (hg : w.grownBy w' row) (l : g < w.heap.size) (hr : ∀ k, row = some k → g < k) : L2 w' g u v := by
  obtain ⟨k, hk, ho⟩ := only_of hg (B := g + 1) (fun k e => hr k e) l
  exact h.only ho l (by omega)
theorem L2.new (w : World) (u v : Value) (T : TypeId) : L2 (w.alloc (.cells #[u, v] T)) w.heap.size u v := by
  refine ⟨?_, ?_, ?_, ?_⟩ <;> simp [go_sem]
theorem L2.put0 {w : World} {g : Nat} {u v : Value} (h : L2 w g u v) (x : Value) : L2 (w.setCell ⟨g, 0, none⟩ x) g x v :=
  ⟨World.cell?_setCell_same w _ _ h.1, (World.cell?_setCell_other _ _ _ _ (by simp)).trans h.2.1, by simp [go_sem, h.2.2.1], by simp [go_sem, h.2.2.2]⟩
theorem L2.put1 {w : World} {g : Nat} {u v : Value} (h : L2 w g u v) (x : Value) : L2 (w.setCell ⟨g, 1, none⟩ x) g u x :=
  ⟨(World.cell?_setCell_other _ _ _ _ (by simp)).trans h.1, World.cell?_setCell_same w _ _ h.2.1, by simp [go_sem, h.2.2.1], by simp [go_sem, h.2.2.2]⟩
theorem L2.far {w : World} {g k i : Nat} {u v : Value} (h : L2 w g u v) (x : Value) (hne : g ≠ k) : L2 (w.setCell ⟨k, i, none⟩ x) g u v :=
  ⟨(World.cell?_setCell_other _ ⟨k, i, none⟩ ⟨g, 0, none⟩ _ (fun e => by injection e with e1; omega)).trans h.1, (World.cell?_setCell_other _ ⟨k, i, none⟩ ⟨g, 1, none⟩ _ (fun e => by injection e with e1; omega)).trans h.2.1, by simp [go_sem, h.2.2.1], by simp [go_sem, h.2.2.2]⟩
theorem OutR.base {B B' : Nat} {w : World} {v : Value} {zs : List Int} (h : OutR B w v zs) (hB : B' ≤ B) : OutR B' w v zs :=
  ⟨h.1, h.2.imp id (fun ⟨g, cap, cur, e, hb, r⟩ => ⟨g, cap, cur, e, Nat.le_trans hB hb, r⟩)⟩
theorem OutR.nil (w : World) (B : Nat) : OutR B w (.slice none 0 0) [] := ⟨rfl, .inl ⟨rfl, rfl⟩⟩
theorem OutR.put {B k i : Nat} {w : World} {v : Value} {zs : List Int} (h : OutR B w v zs) (x : Value) (hk : k < B) : OutR B (w.setCell ⟨k, i, none⟩ x) v zs :=
  h.only (Only.set k i w x) hk
theorem OutR.alloc {B : Nat} {w : World} {v : Value} {zs : List Int} (h : OutR B w v zs) (o : Obj) : OutR B (w.alloc o) v zs := h.below (below_alloc w o)
theorem OutR.drew {B : Nat} {w : World} {v : Value} {zs : List Int} (h : OutR B w v zs) : OutR B w.drew v zs := h.below (below_drew w)

/-- A space that has been drawn. -/
def DrawnS (Q : List Int → Prop) (b : Nat) (a : Option Addr) (len cap : Nat) (zs : List Int) (w : World) (e : Ending) (w' : World) : Prop :=
  ∃ p r X c, e = .returned (.agg #[.int .i64 p, .slice r X.length c]) ∧ Q X ∧ OutR w.heap.size w' (.slice r X.length c) X ∧ Only b w w' ∧ Src w' b a len cap zs

set_option maxRecDepth 100000 in
set_option maxHeartbeats 3200000 in
theorem any_any (most : Int) (b : Nat) (a : Option Addr) (len cap : Nat) (zs : List Int) (w : World) (hs : Src w b a len cap zs) (m0 : 1 ≤ most) (m1 : most ≤ 6) :
    Calls Try.prog 32 #[.pointer (some ⟨b, 0, none⟩), .int .i64 most] w (DrawnS (fun X => 1 ≤ X.length ∧ X.length ≤ 6) b a len cap zs w) := by
  obtain ⟨i0, hi, hz0, hz1, hz2⟩ := info_parts info64
  have hlt := hs.lt
  have HS := Lib.hid hs
  clear hs
  go_enter Try.func32, Try.ntmps32
  go_upto_region 3 with (go_at_call 56; (with_reducible refine (drawPrime_any b a len cap zs _ (HS.out.alloc _)).mono ?_); rintro e wa ⟨p, rfl, _, on1, s1⟩; have HS1 := Lib.hid s1; have HON1 := Lib.hid (((Only.refl b w).alloc (.cells #[.int .i64 0, .slice none 0 0] 26)).trans on1); have HR1 := Lib.hid ((L2.new w (.int .i64 0) (.slice none 0 0) 26).only on1 (lt_alloc w _) (Nat.ne_of_gt hlt)); have zy1 := on1.size; clear on1 s1)
  have hRw : w.heap.size < wa.heap.size := by simp at zy1; omega
  obtain ⟨wb, hwb⟩ : ∃ z, z = wa.alloc (.cells #[.int .i64 p, .slice none 0 0] 26) := ⟨_, rfl⟩
  obtain ⟨g, hg⟩ : ∃ z, z = wa.heap.size := ⟨_, rfl⟩
  have HG2 : Hid (L2 wb g (.int .i64 p) (.slice none 0 0)) := by show L2 _ _ _ _; rw [hwb, hg]; exact L2.new _ _ _ _
  have HR2 : Hid (L2 wb w.heap.size (.int .i64 0) (.slice none 0 0)) := by show L2 _ _ _ _; rw [hwb]; exact HR1.out.alloc _ hRw
  have HS2 : Hid (Src wb b a len cap zs) := by show Src _ _ _ _ _ _; rw [hwb]; exact HS1.out.alloc _
  have HON2 : Hid (Only b w wb) := by show Only _ _ _; rw [hwb]; exact HON1.out.alloc _
  have hgb : g < wb.heap.size := by rw [hwb, hg]; simp
  have hRg : w.heap.size < g := by rw [hg]; exact hRw
  rw [← hwb, ← hg]
  clear hwb hg HR1 HS1 HON1 zy1 hRw
  have hbg : b < g := Nat.lt_trans hlt hRg
  go_upto_region 4 with (go_at_call 34; (with_reducible refine (next_any most b a len cap zs _ HS2.out).mono ?_); rintro e wc ⟨x, rfl, hx, on3, s3⟩; obtain ⟨hx0, hx1⟩ := hx m0; obtain ⟨xn, rfl⟩ := Int.eq_ofNat_of_zero_le hx0; have e1 : IntKind.i64.wrap (1 + (xn : Int)) = ((xn + 1 : Nat) : Int) := (by rw [IntWalk.i64_in _ (by omega)]; omega); have HS3 := Lib.hid s3; have HON3 := Lib.hid (HON2.out.trans on3); have HG3 := Lib.hid (HG2.out.only on3 hgb (Nat.ne_of_gt hbg)); have HR3 := Lib.hid (HR2.out.only on3 (Nat.lt_trans hRg hgb) (Nat.ne_of_gt hlt)); have hgc := Nat.lt_of_lt_of_le hgb on3.size; clear on3 s3 hx)
  have hxn : xn ≤ 5 := by omega
  have hgB := hgc
  clear HS2 HON2 HG2 HR2 hgb
  go_loopw [7] (fun t wr => ∃ (j : Nat) (r : Option Addr) (c : Nat) (X : List Int), t = .int .i64 j ∧ X.length + j = xn + 1 ∧ L2 wr g (.int .i64 p) (.slice r X.length c) ∧ OutR wc.heap.size wr (.slice r X.length c) X ∧ L2 wr w.heap.size (.int .i64 0) (.slice none 0 0) ∧ Src wr b a len cap zs ∧ Only b w wr ∧ wc.heap.size ≤ wr.heap.size) (fun t _ => (intOf t).toNat)
  case atStart => exact ⟨xn + 1, none, 0, [], by first | rfl | rw [e1], by simp, HG3.out, OutR.nil _ _, HR3.out, HS3.out, HON3.out, Nat.le_refl _⟩
  case round =>
    obtain ⟨j, r, c, X, rfl, hXj, hg2, ho, hr2, hsr, hon, hsz⟩ := hrel
    have HGR := Lib.hid hg2
    have HO := Lib.hid ho
    have HRR := Lib.hid hr2
    have HSR := Lib.hid hsr
    have HON := Lib.hid hon
    clear hg2 ho hr2 hsr hon e1
    by_cases hj : 0 < j
    · have hj1 : (0 : Int) < (j : Int) := by omega
      have hgr : g < wr.heap.size := by omega
      go_wp2_with (first
        | (go_at_call 34; (with_reducible refine (next_any (wrap64 (p - 1)) b a len cap zs wr HSR.out).mono ?_); rintro e w4 ⟨y, rfl, _, on4, s4⟩; have HS4 := Lib.hid s4; have HON4 := Lib.hid (HON.out.trans on4); have HG4 := Lib.hid (HGR.out.only on4 hgr (Nat.ne_of_gt hbg)); have HR4 := Lib.hid (HRR.out.only on4 (Nat.lt_trans hRg hgr) (Nat.ne_of_gt hlt)); have HO4 := Lib.hid (HO.out.only on4 (Nat.lt_trans hbg hgB)); have hg4 := Nat.lt_of_lt_of_le hgr on4.size; have zy4 := Nat.le_trans hsz on4.size; clear on4 s4)
        | (go_at_call 33; refine (pick_any w4.heap.size 4 [1, wrap64 (p - 1), wrap64 (1 + y), 1] b a len cap zs _ (HS4.out.alloc _) (rowOf w4 [1, wrap64 (p - 1), wrap64 (1 + y), 1] _) rfl (by omega) (by omega) (by simp) (by omega)).mono ?_; rintro e w5 ⟨z, rfl, _, on5, s5⟩; have HS5 := Lib.hid s5; have HON5 := Lib.hid ((HON4.out.alloc _).trans on5); have hg4a := Nat.lt_of_lt_of_le hg4 (size_alloc w4 (.cells (List.map (Value.int .i64) [1, wrap64 (p - 1), wrap64 (1 + y), 1]).toArray 2)); have HG5 := Lib.hid ((HG4.out.alloc _ hg4).only on5 hg4a (Nat.ne_of_gt hbg)); have HR5 := Lib.hid ((HR4.out.alloc _ (Nat.lt_trans hRg hg4)).only on5 (Nat.lt_trans hRg hg4a) (Nat.ne_of_gt hlt)); have HO5 := Lib.hid ((HO4.out.alloc _).only on5 (Nat.lt_trans hbg hgB)); have hg5 := Nat.lt_of_lt_of_le hg4a on5.size; have zy5 := Nat.le_trans (Nat.le_trans zy4 (size_alloc w4 _)) on5.size; clear on5 s5)
        | (go_at_call 34; (with_reducible refine (next_any 10 b a len cap zs w5 HS5.out).mono ?_); rintro e w6 ⟨q, rfl, _, on6, s6⟩; have HS6 := Lib.hid s6; have HON6 := Lib.hid (HON5.out.trans on6); have HG6 := Lib.hid (HG5.out.only on6 hg5 (Nat.ne_of_gt hbg)); have HR6 := Lib.hid (HR5.out.only on6 (Nat.lt_trans hRg hg5) (Nat.ne_of_gt hlt)); have HO6 := Lib.hid (HO5.out.only on6 (Nat.lt_trans hbg hgB)); have H6 : Hid (w6.ownsRow wc.heap.size 2 1 (.slice r X.length c) X.length (X.map (Value.int .i64))) := HO6; have hg6 := Nat.lt_of_lt_of_le hg5 on6.size; have zy6 := Nat.le_trans zy5 on6.size; have gc1 := HG6.out.2.1; clear on6 s6)
        | ((at_builtin; refine wpList_append_lies _ rfl _ _ 24 rfl wc.heap.size 2 i0 (.int .i64 0) 1 8 Try.underlying24 hi hz0 hz1 hz2 rfl (by decide) (.slice r X.length c) X.length (X.map (Value.int .i64)) rfl (H6.out.alloc _) ⟨w6.heap.size, 0, none⟩ 1 1 [.int .i64 z] rfl rfl (World.news_of_block (cs := #[.int .i64 z]) (t := 2) (fr := (0, 0)) (heap_alloc_new w6 _)) (by simp [Value.oneCell']) (by omega) (by unfold maxLen; omega) (by omega) (by simp; omega) (w6.heap.size + 1) (by simp) ?_; intro gg cap w1 hown1 hgrow hat hlt1); have HG7 := Lib.hid ((HG6.out.alloc _ hg6).grown hgrow (Nat.lt_of_lt_of_le hg6 (size_alloc w6 _)) (fun k e => Nat.lt_of_lt_of_le hgB (H6.out.lt _ e).1)); have d1 := HG7.out.2.1; have d2 := HG7.out.2.2.2)
        | ((at_builtin; refine wpList_append_lies _ rfl _ _ 24 rfl wc.heap.size 2 i0 (.int .i64 0) 1 8 Try.underlying24 hi hz0 hz1 hz2 rfl (by decide) (.slice r X.length c) X.length (X.map (Value.int .i64)) rfl (H6.out.alloc _) ⟨w6.heap.size, 0, none⟩ 1 1 [.int .i64 0] rfl rfl (World.news_of_block (cs := #[.int .i64 0]) (t := 2) (fr := (0, 0)) (heap_alloc_new w6 _)) (by simp [Value.oneCell']) (by omega) (by unfold maxLen; omega) (by omega) (by simp; omega) (w6.heap.size + 1) (by simp) ?_; intro gg cap w1 hown1 hgrow hat hlt1); have HG7 := Lib.hid ((HG6.out.alloc _ hg6).grown hgrow (Nat.lt_of_lt_of_le hg6 (size_alloc w6 _)) (fun k e => Nat.lt_of_lt_of_le hgB (H6.out.lt _ e).1)); have d1 := HG7.out.2.1; have d2 := HG7.out.2.2.2))
      all_goals
        go_wp2
        go_roundw
        case rel => first | exact ⟨j - 1, some ⟨gg, 0, none⟩, cap, X ++ [0], by go_num, by rw [List.length_append]; show X.length + 1 + (j - 1) = xn + 1; omega, by have e : (X ++ [0]).length = X.length + 1 := (by simp); rw [e]; exact HG7.out.put1 _, by have e : (X ++ [0]).length = X.length + 1 := (by simp); rw [e]; exact (OutR.push hown1).put _ hgB, ((HR6.out.alloc _ (Nat.lt_trans hRg hg6)).grown hgrow (Nat.lt_of_lt_of_le (Nat.lt_trans hRg hg6) (size_alloc w6 _)) (fun k e => Nat.lt_of_lt_of_le (Nat.lt_trans hRg hgB) (H6.out.lt _ e).1)).far _ (Nat.ne_of_lt hRg), ((HS6.out.alloc _).grown hgrow (fun k e => Nat.lt_of_lt_of_le (Nat.lt_trans hbg hgB) (H6.out.lt _ e).1)).far (Only.set _ _ _ _) hbg, (((HON6.out.alloc _).grown hgrow (fun k e => Nat.le_trans (Nat.le_of_lt (Nat.lt_trans hRg hgB)) (H6.out.lt _ e).1))).setCell (.inr (Nat.le_of_lt hRg)) _, by have h1 := hgrow.size; have h2 := size_alloc w6 (.cells #[.int .i64 0] 2); simp [World.setCell]; omega⟩ | exact ⟨j - 1, some ⟨gg, 0, none⟩, cap, X ++ [z], by go_num, by rw [List.length_append]; show X.length + 1 + (j - 1) = xn + 1; omega, by have e : (X ++ [z]).length = X.length + 1 := (by simp); rw [e]; exact HG7.out.put1 _, by have e : (X ++ [z]).length = X.length + 1 := (by simp); rw [e]; exact (OutR.push hown1).put _ hgB, ((HR6.out.alloc _ (Nat.lt_trans hRg hg6)).grown hgrow (Nat.lt_of_lt_of_le (Nat.lt_trans hRg hg6) (size_alloc w6 _)) (fun k e => Nat.lt_of_lt_of_le (Nat.lt_trans hRg hgB) (H6.out.lt _ e).1)).far _ (Nat.ne_of_lt hRg), ((HS6.out.alloc _).grown hgrow (fun k e => Nat.lt_of_lt_of_le (Nat.lt_trans hbg hgB) (H6.out.lt _ e).1)).far (Only.set _ _ _ _) hbg, (((HON6.out.alloc _).grown hgrow (fun k e => Nat.le_trans (Nat.le_of_lt (Nat.lt_trans hRg hgB)) (H6.out.lt _ e).1))).setCell (.inr (Nat.le_of_lt hRg)) _, by have h1 := hgrow.size; have h2 := size_alloc w6 (.cells #[.int .i64 z] 2); simp [World.setCell]; omega⟩
        case measure => simp [intOf]; omega
    · have hj0 : j = 0 := by omega
      subst hj0
      have hj1 : ¬ (0 : Int) < ((0 : Nat) : Int) := by omega
      have g0 := HGR.out.1
      have g1 := HGR.out.2.1
      have r0 := HRR.out.1
      have r1 := HRR.out.2.1
      have r2 := HRR.out.2.2.1
      have r3 := HRR.out.2.2.2
      go_wp2
      refine bodyPost_ret (v := .agg #[.int .i64 p, .slice r X.length c]) (by simp [results, Try.results32, go_sem, r0, r1]) rfl ⟨p, r, X, c, rfl, by omega, ((HO.out.put _ (Nat.lt_trans hRg hgB)).put _ (Nat.lt_trans hRg hgB)).base (by omega), (HON.out.setCell (.inr (Nat.le_refl _)) _).setCell (.inr (Nat.le_refl _)) _, (HSR.out.far (Only.set _ _ _ _) hlt).far (Only.set _ _ _ _) hlt⟩

end Go.Proofs.Ytndneccgomfkdaa
