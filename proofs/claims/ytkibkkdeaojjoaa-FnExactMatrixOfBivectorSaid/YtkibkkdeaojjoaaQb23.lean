/-
  Bivectors: grade tests and checks: contracts of the program and of the model.
  Conditions: the lists are nil or rows of known cells, of at most 1048576 numbers.
-/
import Derived.Test.YtkibkkdeaojjoaaQb21
import Derived.Test.YtkibkkdeaojjoaaQb22
import Derived.Test.YtkibkkdeaojjoaaQb17
import Derived.Test.YtkibkkdeaojjoaaQb20
import Derived.Deep.RegionHeld3
import Derived.Deep.DeepCutAuto
namespace Go.Proofs.Ytkibkkdeaojjoaa
open Go.RowKit
set_option linter.unusedVariables false

theorem bvC_cases (p : Int) (S : List Int) (m : List (List Int)) : (regC p S m ≠ 0 ∧ bvC p S m = regC p S m) ∨ (regC p S m = 0 ∧ m.all isB2 = false ∧ bvC p S m = 5) ∨ (regC p S m = 0 ∧ m.all isB2 = true ∧ bvC p S m = 0) := by
  unfold bvC
  by_cases h : regC p S m = 0
  · cases h4 : m.all isB2 with
    | true => exact .inr (.inr ⟨h, rfl, by rw [if_pos h, if_pos rfl]⟩)
    | false => exact .inr (.inl ⟨h, rfl, by rw [if_pos h, if_neg (by decide)]⟩)
  · exact .inl ⟨h, if_neg h⟩
theorem regC_mv {p : Int} {S : List Int} {m : List (List Int)} (h : regC p S m = 0) : isSp p S = true ∧ m.all (isMv p S) = true ∧ discN p S ≠ 0 := by
  rcases regC_cases p S m with ⟨_, _, h3⟩ | ⟨_, _, h3⟩ | ⟨_, _, _, _, h3⟩ | ⟨h1, h2, _, h5, _⟩
  · rw [h3] at h; cases h
  · rw [h3] at h; cases h
  · rw [h3] at h; cases h
  · exact ⟨h1, h2, h5⟩
theorem bvC_zero {p : Int} {S : List Int} {m : List (List Int)} (h : bvC p S m = 0) : regC p S m = 0 ∧ m.all isB2 = true := by
  rcases bvC_cases p S m with ⟨h1, h2⟩ | ⟨_, _, h2⟩ | ⟨h1, h2, _⟩
  · rw [h2] at h; exact absurd h h1
  · rw [h2] at h; cases h
  · exact ⟨h1, h2⟩
theorem bvC_one {p : Int} {S x : List Int} (h : bvC p S [x] = 0) : isSp p S = true ∧ isMv p S x = true ∧ discN p S ≠ 0 ∧ isB2 x = true := by
  have h1 := bvC_zero h
  have h2 := regC_mv h1.1
  have h3 := h2.2.1
  have h4 := h1.2
  simp only [List.all_cons, List.all_nil, Bool.and_true] at h3 h4
  exact ⟨h2.1, h3, h2.2.2, h4⟩
theorem bvC_two {p : Int} {S x y : List Int} (h : bvC p S [x, y] = 0) : isSp p S = true ∧ (isMv p S x = true ∧ isMv p S y = true) ∧ discN p S ≠ 0 ∧ isB2 x = true ∧ isB2 y = true := by
  have h1 := bvC_zero h
  have h2 := regC_mv h1.1
  have h3 := h2.2.1
  have h4 := h1.2
  simp only [List.all_cons, List.all_nil, Bool.and_true, Bool.and_eq_true] at h3 h4
  exact ⟨h2.1, h3, h2.2.2, h4⟩
/-- Three live cells of a struct. -/
def W3 (g : Nat) (v0 v1 v2 : Value) (W : World) : Prop :=
  (W.cell? ⟨g, 0, none⟩ = some v0 ∧ W.cell? ⟨g, 1, none⟩ = some v1 ∧ W.cell? ⟨g, 2, none⟩ = some v2) ∧ W.frozen? ⟨g, 0, none⟩ = false ∧ W.frozen? ⟨g, 1, none⟩ = false ∧ W.frozen? ⟨g, 2, none⟩ = false
theorem W3.below {g B : Nat} {v0 v1 v2 : Value} {w w' : World} (h : W3 g v0 v1 v2 w) (b : Below B w w') (l : g < B) : W3 g v0 v1 v2 w' :=
  ⟨⟨(b.cell (p := ⟨g, 0, none⟩) l).trans h.1.1, (b.cell (p := ⟨g, 1, none⟩) l).trans h.1.2.1, (b.cell (p := ⟨g, 2, none⟩) l).trans h.1.2.2⟩, (b.frozen (p := ⟨g, 0, none⟩) l).trans h.2.1, (b.frozen (p := ⟨g, 1, none⟩) l).trans h.2.2.1, (b.frozen (p := ⟨g, 2, none⟩) l).trans h.2.2.2⟩
theorem W3.new (w : World) (v0 v1 v2 : Value) (T : TypeId) : W3 w.heap.size v0 v1 v2 (w.alloc (.cells #[v0, v1, v2] T)) :=
  ⟨⟨by simp [go_sem], by simp [go_sem], by simp [go_sem]⟩, by simp [go_sem], by simp [go_sem], by simp [go_sem]⟩
theorem W3.far {g f : Nat} {v0 v1 v2 : Value} {w : World} (h : W3 g v0 v1 v2 w) (hne : g ≠ f) (k : Nat) (v : Value) : W3 g v0 v1 v2 (w.setCell ⟨f, k, none⟩ v) :=
  ⟨⟨(World.cell?_setCell_other w ⟨f, k, none⟩ ⟨g, 0, none⟩ _ (fun e => hne (by injection e with e1; exact e1.symm))).trans h.1.1, (World.cell?_setCell_other w ⟨f, k, none⟩ ⟨g, 1, none⟩ _ (fun e => hne (by injection e with e1; exact e1.symm))).trans h.1.2.1, (World.cell?_setCell_other w ⟨f, k, none⟩ ⟨g, 2, none⟩ _ (fun e => hne (by injection e with e1; exact e1.symm))).trans h.1.2.2⟩, by have := h.2.1; simp [go_sem, this], by have := h.2.2.1; simp [go_sem, this], by have := h.2.2.2; simp [go_sem, this]⟩
def wput3 (g : Nat) (v0 v1 v2 : Value) (W : World) : World := ((W.setCell ⟨g, 0, none⟩ v0).setCell ⟨g, 1, none⟩ v1).setCell ⟨g, 2, none⟩ v2
theorem below_wput3 {B g : Nat} {w w' : World} {v0 v1 v2 : Value} (h : Below B w w') (hg : B ≤ g) : Below B w (wput3 g v0 v1 v2 w') := ((h.setCell hg _).setCell hg _).setCell hg _

theorem bi_all {p : Int} {S : List Int} {m : List (List Int)} (h : m.all (isMv p S) = true) {i : Nat} (hi : i < m.length) : isMv p S (rw' m i) = true := by
  have := List.all_eq_true.1 h (rw' m i) (mem_row hi)
  exact this
/-- What stands at a place of a list of lists. -/
def BiQ (w : World) (am : Option Addr) (m : List (List Int)) (j : Nat) (a : Option Addr) (c : Nat) : Prop := ∃ b o, am = some ⟨b, o, none⟩ ∧ w.cell? ⟨b, o + j, none⟩ = some (.slice a (rw' m j).length c)
theorem isB2_no {x : List Int} {j : Nat} (hj : j < x.length) (h0 : x.getD j 0 ≠ 0) (h : gr j ≠ 2) : isB2 x = false := by
  cases e : isB2 x with
  | false => rfl
  | true => exact absurd (isB2_iff.1 e j hj h0) h

set_option maxRecDepth 100000 in
set_option maxHeartbeats 6400000 in
theorem isOfGrade_any (pS : Int) (aS : Option Addr) (S : List Int) (cS loS tpS : Nat) (ax : Option Addr) (x : List Int) (cx lox tpx : Nat) (w : World) (hs : isSp pS S = true) (hS : RowIn loS tpS w aS S) (tS : tpS ≤ w.heap.size) (hx : RowIn lox tpx w ax x) (tx : tpx ≤ w.heap.size) (mx : isMv pS S x = true) :
    Calls Try.prog 42 #[.agg #[.int .i64 pS, .slice aS S.length cS, .slice ax x.length cx], .int .i64 2] w (fun e w' => e = .returned (.bool (isB2 x)) ∧ Below w.heap.size w w') := by
  have HNB : Hid (∀ j, j < x.length → -100 ≤ x.getD j 0 ∧ x.getD j 0 ≤ 100) := fun j hj => by have := Mv.num mx j hj; have := prm_bd (isSp_iff.1 hs).prime; omega
  have HS := Lib.hid hS
  have Hx := Lib.hid hx
  have HMx := Lib.hid mx
  have h6 := (isSp_iff.1 hs).hi
  have hpb := prm_bd (isSp_iff.1 hs).prime
  have hbl := bl_le h6
  have hb0 := bl_pos S
  have HB0 := Lib.hid (below_alloc w (.cells #[.int .i64 pS, .slice aS S.length cS, .slice ax x.length cx] 53))
  have k0 := BoxM.new w pS aS S.length cS ax x.length cx 53
  have hx64 : x.length ≤ 64 := by rw [Mv.len mx]; exact bl_le (isSp_iff.1 hs).hi
  clear hS hx
  go_enter Try.func42, Try.ntmps42
  go_upto_region 1 with fail
  obtain ⟨w1, hw1⟩ : ∃ z, z = w.alloc (.cells #[.int .i64 pS, .slice aS S.length cS, .slice ax x.length cx] 53) := ⟨_, rfl⟩
  rw [← hw1] at HB0 k0 ⊢
  have hw0 : w.heap.size < w1.heap.size := by rw [hw1]; simp
  clear hw1
  obtain ⟨k0a, k0b, k0c⟩ := k0
  go_wp2_with (first | (go_at_call 71; (with_reducible refine (termsOf_any ax x cx lox tpx w1 (Hx.out.below HB0.out tx) (Nat.le_trans tx HB0.out.size) hx64 HNB.out).mono ?_); rintro e w5 ⟨bT, D, rfl, lT, uT, oT, tT, b5⟩; have HOT := Lib.hid oT; have HTM := Lib.hid tT; have HB5 := Lib.hid b5; have z5 := b5.size; clear oT tT b5) | (at_range; refine wpList_range_own _ rfl _ 85 rfl 3 2 lawK Try.underlying85 (plainElem (H := Unit) Try.prog 2) bT x.length D rfl HOT.out ?_; intro w6 hrg0 hg0 hs0))
  go_frame
  have HB6 : Hid (Below w.heap.size w w6) := HB0.out.trans ((HB5.out.grown hg0 z5 (fun j hj => by cases hj)).mono (by omega))
  go_loopw [5] (fun _ wr => ∃ (left : Lit → Bool) (cnt : Nat), wr.ranges Try.prog 3 (plainElem (H := Unit) Try.prog 2) bT w5.heap.size x.length D left cnt ∧ Sub left D ∧ (∀ j, j < x.length → x.getD j 0 ≠ 0 → td left j = false → gr j = 2) ∧ Below w.heap.size w wr ∧ w6.heap.size ≤ wr.heap.size) (fun _ wr => wr.rangeLeft bT w5.heap.size)
  case atStart => exact ⟨_, _, hrg0, sub_refl D, fun j hj hne htd => by (have := td_all HTM.out hj hne; rw [this] at htd; cases htd), HB6.out, Nat.le_refl _⟩
  case round =>
    obtain ⟨left, cnt, hrg, hsub, hpar, hnx, hsz⟩ := hrel
    have HPAR := Lib.hid hpar
    have HNXB := Lib.hid hnx
    have HSUB := Lib.hid hsub
    clear hpar hnx hsub
    go_wp2_with (first | (at_next; refine wpList_next_ranges_ii _ rfl _ rfl 3 2 .i64 .i64 lawK Try.underlying3 Try.underlying2 bT w5.heap.size x.length D left cnt rfl hrg ?_ ?_) | go_in)
    · intro hc0 hl0
      have HV : Hid (isB2 x = true) := isB2_iff.2 fun j hj hne => HPAR.out j hj hne (td_none hl0 j)
      go_wp2
      go_ret
      exact ⟨by rw [HV.out]; rfl, HNXB.out⟩
    · intro kx c w7 cnt1 hwx hwc hlx' hat hrg1 hlt hg1 hs1' hen
      obtain ⟨j, hj, rfl, hcx, hne0, htd⟩ := HTM.out.come HSUB.out hlx' hat
      have HB7 : Hid (Below w.heap.size w w7) := HNXB.out.grown hg1 (by omega) (fun i hi => by cases hi; omega)
      have hz7 := hg1.size
      have HNE := Lib.hid hne0
      have HRG1 := Lib.hid hrg1
      have hg6 : gr j < 7 := by have := gr_le j; omega
      obtain ⟨q, hq⟩ : ∃ q, q = gr j := ⟨_, rfl⟩
      have HQ := Lib.hid hq
      rw [← hq] at hg6
      clear hcx hne0 hq
      by_cases hp : q = 2
      · have hp1 : (((q : Int) != 2) = false) := by rw [hp]; rfl
        have HP := Lib.hid hp
        clear hp
        go_wp2_with (first | (go_at_call 72; (with_reducible refine (gradeOf_any j (by omega) _).mono ?_); rintro e w8 ⟨rfl, rfl⟩; rw [← HQ.out]) | go_in)
        go_roundw
        case rel => exact ⟨_, cnt1, HRG1.out, sub_strike HSUB.out _, fun i hi hne ht => by
          by_cases e : i = j
          · subst e; rw [← HQ.out]; exact HP.out
          · rw [td_other left e] at ht; exact HPAR.out i hi hne ht, HB7.out, by omega⟩
        case measure => rw [HRG1.out.left_eq, hrg.left_eq]; exact hlt
      · have hp1 : (((q : Int) != 2) = true) := by simpa using (show ¬ (q : Int) = 2 by omega)
        have HV : Hid (isB2 x = false) := isB2_no hj HNE.out (by rw [← HQ.out]; exact hp)
        clear hp
        go_wp2_with (first | (go_at_call 72; (with_reducible refine (gradeOf_any j (by omega) _).mono ?_); rintro e w8 ⟨rfl, rfl⟩; rw [← HQ.out]) | go_in)
        go_ret
        exact ⟨by rw [HV.out]; rfl, HB7.out⟩

/-- The cells of a bivector at a place. -/
def BvAt (Q : Option Addr → Nat → Prop) (g o : Nat) (p : Int) (aS : Option Addr) (S : List Int) (cS : Nat) (x : List Int) (W : World) : Prop :=
  ∃ (ax : Option Addr) (cx : Nat), Q ax cx ∧ (W.cell? ⟨g, o, none⟩ = some (.int .i64 p) ∧ W.cell? ⟨g, o + 1, none⟩ = some (.slice aS S.length cS) ∧ W.cell? ⟨g, o + 2, none⟩ = some (.slice ax x.length cx))
theorem BvAt.below {Q : Option Addr → Nat → Prop} {g o B : Nat} {p : Int} {aS : Option Addr} {S : List Int} {cS : Nat} {x : List Int} {w w' : World} (h : BvAt Q g o p aS S cS x w) (b : Below B w w') (l : g < B) : BvAt Q g o p aS S cS x w' := by
  obtain ⟨ax, cx, hQ, h0, h1, h2⟩ := h
  exact ⟨ax, cx, hQ, (b.cell (p := ⟨g, o, none⟩) l).trans h0, (b.cell (p := ⟨g, o + 1, none⟩) l).trans h1, (b.cell (p := ⟨g, o + 2, none⟩) l).trans h2⟩
def F3 (g o : Nat) (W : World) : Prop :=
  (W.cell? ⟨g, o, none⟩ = some (.int .i64 0) ∧ W.cell? ⟨g, o + 1, none⟩ = some (.slice none 0 0) ∧ W.cell? ⟨g, o + 2, none⟩ = some (.slice none 0 0)) ∧ W.frozen? ⟨g, o, none⟩ = false ∧ W.frozen? ⟨g, o + 1, none⟩ = false ∧ W.frozen? ⟨g, o + 2, none⟩ = false
theorem F3.below {g o B : Nat} {w w' : World} (h : F3 g o w) (b : Below B w w') (l : g < B) : F3 g o w' :=
  ⟨⟨(b.cell (p := ⟨g, o, none⟩) l).trans h.1.1, (b.cell (p := ⟨g, o + 1, none⟩) l).trans h.1.2.1, (b.cell (p := ⟨g, o + 2, none⟩) l).trans h.1.2.2⟩, (b.frozen (p := ⟨g, o, none⟩) l).trans h.2.1, (b.frozen (p := ⟨g, o + 1, none⟩) l).trans h.2.2.1, (b.frozen (p := ⟨g, o + 2, none⟩) l).trans h.2.2.2⟩
theorem F3.made (w : World) (n : Nat) (t : TypeId) {i : Nat} (hi : i < n) : F3 w.heap.size (i * 3) (w.alloc (.cells (madeCells #[.int .i64 0, .slice none 0 0, .slice none 0 0] (n * 3)) t)) := by
  have key : ∀ j, j < 3 → (w.alloc (.cells (madeCells #[.int .i64 0, .slice none 0 0, .slice none 0 0] (n * 3)) t)).cell? ⟨w.heap.size, i * 3 + j, none⟩ = some ((#[Value.int .i64 0, .slice none 0 0, .slice none 0 0] : Array Value)[j]!) := fun j hj => by
    rw [World.cell?_alloc_new]
    have h1 : i * 3 + j < n * 3 := by omega
    have h2 : (i * 3 + j) % 3 = j := by omega
    simp [madeCells, h1, h2]
  exact ⟨⟨key 0 (by omega), key 1 (by omega), key 2 (by omega)⟩, by simp [go_sem]⟩
theorem info_bivector : (Try.prog.info? 58).map (fun i => (i.zero, i.size, i.bytes)) = some (some (.agg #[.int .i64 0, .slice none 0 0, .slice none 0 0]), 3, 56) := by kernel_rfl
theorem make_bivectors (n : Nat) (h : n ≤ 1024) (w : World) : (Instr.makeSlice 76 (.int .i64 (n : Int)) (.int .i64 (n : Int))).run Try.prog w = .ok (.slice (some ⟨w.heap.size, 0, none⟩) n n) (w.alloc (.cells (madeCells #[.int .i64 0, .slice none 0 0, .slice none 0 0] (n * 3)) 58)) := by
  obtain ⟨i, hi, hzz⟩ := Option.map_eq_some_iff.1 info_bivector
  simp only [Prod.mk.injEq] at hzz
  obtain ⟨hz, hs, hb⟩ := hzz
  have hr := run_make (P := Try.prog) w 76 _ i _ (Try.underlying76) hi hz .i64 .i64 n n (by omega) (Int.le_refl _) (by rw [hb]; omega) (by omega)
  simp only [Int.toNat_natCast, hs] at hr
  exact hr
def put3o (g o : Nat) (v0 v1 v2 : Value) (W : World) : World := ((W.setCell ⟨g, o, none⟩ v0).setCell ⟨g, o + 1, none⟩ v1).setCell ⟨g, o + 2, none⟩ v2
theorem put3o_size (g o : Nat) (v0 v1 v2 : Value) (w : World) : (put3o g o v0 v1 v2 w).heap.size = w.heap.size := by simp [put3o, World.setCell]
theorem put3o_off {g o : Nat} {v0 v1 v2 : Value} {w : World} {b i : Nat} (h : b ≠ g ∨ i < o ∨ o + 3 ≤ i) : (put3o g o v0 v1 v2 w).cell? ⟨b, i, none⟩ = w.cell? ⟨b, i, none⟩ := by
  have e : ∀ (W : World) (j : Nat) (v : Value), (b ≠ g ∨ i ≠ j) → (W.setCell ⟨g, j, none⟩ v).cell? ⟨b, i, none⟩ = W.cell? ⟨b, i, none⟩ := fun W j v hh => World.cell?_setCell_other W ⟨g, j, none⟩ ⟨b, i, none⟩ v (fun e => by injection e with e1 e2; omega)
  unfold put3o
  rw [e _ _ _ (by omega), e _ _ _ (by omega), e _ _ _ (by omega)]
theorem put3o_in {g o : Nat} {v0 v1 v2 : Value} {w : World} (h : F3 g o w) : (put3o g o v0 v1 v2 w).cell? ⟨g, o, none⟩ = some v0 ∧ (put3o g o v0 v1 v2 w).cell? ⟨g, o + 1, none⟩ = some v1 ∧ (put3o g o v0 v1 v2 w).cell? ⟨g, o + 2, none⟩ = some v2 := by
  have e : ∀ (W : World) (j : Nat) (v : Value) (i : Nat), i ≠ j → (W.setCell ⟨g, j, none⟩ v).cell? ⟨g, i, none⟩ = W.cell? ⟨g, i, none⟩ := fun W j v i hi => World.cell?_setCell_other W ⟨g, j, none⟩ ⟨g, i, none⟩ v (fun e => hi (by injection e with _ e2; exact e2.symm))
  have s : ∀ (W : World) (j : Nat) (v u : Value), W.cell? ⟨g, j, none⟩ = some u → (W.setCell ⟨g, j, none⟩ v).cell? ⟨g, j, none⟩ = some v := fun W j v u hu => World.cell?_setCell_same W _ _ hu
  obtain ⟨⟨h0, h1, h2⟩, _⟩ := h
  unfold put3o
  refine ⟨?_, ?_, ?_⟩
  · rw [e _ _ _ _ (by omega), e _ _ _ _ (by omega)]; exact s _ _ _ _ h0
  · rw [e _ _ _ _ (by omega)]; exact s _ _ _ _ (by rw [e _ _ _ _ (by omega)]; exact h1)
  · exact s _ _ _ _ (by rw [e _ _ _ _ (by omega), e _ _ _ _ (by omega)]; exact h2)
theorem F3.keep3 {g o j : Nat} {w : World} {v0 v1 v2 : Value} (h : F3 g o w) (hj : j + 3 ≤ o) : F3 g o (put3o g j v0 v1 v2 w) :=
  ⟨⟨(put3o_off (.inr (.inr (by omega)))).trans h.1.1, (put3o_off (.inr (.inr (by omega)))).trans h.1.2.1, (put3o_off (.inr (.inr (by omega)))).trans h.1.2.2⟩, by have := h.2; simpa [put3o, go_sem] using this⟩
theorem BvAt.keep3 {Q : Option Addr → Nat → Prop} {g o j : Nat} {p : Int} {aS : Option Addr} {S : List Int} {cS : Nat} {x : List Int} {w : World} {v0 v1 v2 : Value} (h : BvAt Q g o p aS S cS x w) (hj : o + 3 ≤ j) : BvAt Q g o p aS S cS x (put3o g j v0 v1 v2 w) := by
  obtain ⟨ax, cx, hQ, h0, h1, h2⟩ := h
  exact ⟨ax, cx, hQ, (put3o_off (.inr (.inl (by omega)))).trans h0, (put3o_off (.inr (.inl (by omega)))).trans h1, (put3o_off (.inr (.inl (by omega)))).trans h2⟩
theorem below_put3o {B g o : Nat} {w w' : World} {v0 v1 v2 : Value} (h : Below B w w') (hg : B ≤ g) : Below B w (put3o g o v0 v1 v2 w') := ((h.setCell hg _).setCell hg _).setCell hg _
/-- The bivectors of a list of multivectors, or a code. -/
def ChBvs (p : Int) (aS : Option Addr) (S : List Int) (cS : Nat) (am : Option Addr) (m : List (List Int)) (w : World) (e : Ending) (w' : World) : Prop :=
  (bvC p S m = 0 ∧ ∃ g, e = .returned (.tuple #[.slice (some ⟨g, 0, none⟩) m.length m.length, .int .i64 0]) ∧ (∀ j, j < m.length → BvAt (BiQ w am m j) g (j * 3) p aS S cS (rw' m j) w') ∧ w.heap.size ≤ g ∧ g < w'.heap.size ∧ Below w.heap.size w w')
  ∨ (bvC p S m ≠ 0 ∧ e = .returned (.tuple #[.slice none 0 0, .int .i64 (bvC p S m)]) ∧ Below w.heap.size w w')

set_option maxRecDepth 100000 in
set_option maxHeartbeats 6400000 in
theorem checkBivectors_any (pS : Int) (aS : Option Addr) (S : List Int) (cS loS tpS : Nat) (am : Option Addr) (m : List (List Int)) (cm lom tpm : Nat) (w : World) (hS : RowIn loS tpS w aS S) (tS : tpS ≤ w.heap.size) (sS : S.length ≤ 1048576) (hm : MatIn lom tpm w am m) (tm : tpm ≤ w.heap.size) (sm : m.length ≤ 1024) (sr : ∀ i, i < m.length → (rw' m i).length ≤ 1048576) :
    Calls Try.prog 63 #[.agg #[.int .i64 pS, .slice aS S.length cS], .slice am m.length cm] w (ChBvs pS aS S cS am m w) := by
  have HS := Lib.hid hS
  have Hm := Lib.hid hm
  have HSR := Lib.hid sr
  have HB0 := Lib.hid (below_alloc w (.cells #[.int .i64 pS, .slice aS S.length cS] 28))
  have k0 := nw0 w (.int .i64 pS) (.slice aS S.length cS) 28
  have k1 := nw1 w (.int .i64 pS) (.slice aS S.length cS) 28
  have hbad : regC pS S m ≠ 0 → bvC pS S m = regC pS S m := fun h => if_neg h
  have HBAD := Lib.hid hbad
  clear hS hm sr hbad
  by_cases hc : regC pS S m = 0
  · have HC := Lib.hid hc
    have HI := Lib.hid (regC_mv hc).1
    have HA := Lib.hid (regC_mv hc).2.1
    have hmk := make_bivectors m.length sm
    clear hc
    go_enter Try.func63, Try.ntmps63
    go_upto_region 4 with (go_at_call 41; ((with_reducible refine (checkRegular_any pS aS S cS loS tpS am m cm lom tpm _ (HS.out.below HB0.out tS) (Nat.le_trans tS HB0.out.size) sS (Hm.out.below HB0.out tm) (Nat.le_trans tm HB0.out.size) (by omega) HSR.out).mono ?_); rintro e w2 ⟨rfl, b_⟩; rw [HC.out]; have HB2 := Lib.hid (below_step HB0.out HB0.out.size b_); have k0' := (b_.cell (p := ⟨w.heap.size, 0, none⟩) (lt_alloc w (.cells #[.int .i64 pS, .slice aS S.length cS] 28))).trans k0; have k1' := (b_.cell (p := ⟨w.heap.size, 1, none⟩) (lt_alloc w (.cells #[.int .i64 pS, .slice aS S.length cS] 28))).trans k1; have hd2 := Nat.lt_of_lt_of_le (lt_alloc w (.cells #[.int .i64 pS, .slice aS S.length cS] 28)) b_.size; clear b_ k0 k1))
    go_upto_region 5 with fail
    obtain ⟨g, hg⟩ : ∃ b, b = w2.heap.size := ⟨_, rfl⟩
    obtain ⟨w3, hw3⟩ : ∃ z, z = w2.alloc (.cells (madeCells #[.int .i64 0, .slice none 0 0, .slice none 0 0] (m.length * 3)) 58) := ⟨_, rfl⟩
    have hF : ∀ i, 0 ≤ i → i < m.length → F3 g (i * 3) w3 := fun i _ hi => by rw [hw3, hg]; exact F3.made w2 _ _ hi
    have HB3 : Hid (Below w.heap.size w w3) := by show Below _ _ _; rw [hw3]; exact HB2.out.alloc HB2.out.size _
    have k03 : w3.cell? ⟨w.heap.size, 0, none⟩ = some (.int .i64 pS) := by rw [hw3]; exact (World.cell?_alloc_old _ _ _ (show w.heap.size ≠ w2.heap.size by omega)).trans k0'
    have k13 : w3.cell? ⟨w.heap.size, 1, none⟩ = some (.slice aS S.length cS) := by rw [hw3]; exact (World.cell?_alloc_old _ _ _ (show w.heap.size ≠ w2.heap.size by omega)).trans k1'
    have hwg : w.heap.size < g := by omega
    have hg3 : g < w3.heap.size := by rw [hw3, hg]; simp
    rw [← hw3, ← hg]
    clear hw3 hmk hg k0' k1'
    have K3 := Lib.hid (And.intro k03 k13)
    have HF3 := Lib.hid hF
    clear k03 k13 hF
    go_wp2
    go_loopw [22] (fun t wr => ∃ i : Nat, i ≤ m.length ∧ t = .int .i64 i ∧ (∀ j, j < i → isB2 (rw' m j) = true ∧ BvAt (BiQ w am m j) g (j * 3) pS aS S cS (rw' m j) wr) ∧ (∀ j, i ≤ j → j < m.length → F3 g (j * 3) wr) ∧ (wr.cell? ⟨w.heap.size, 0, none⟩ = some (.int .i64 pS) ∧ wr.cell? ⟨w.heap.size, 1, none⟩ = some (.slice aS S.length cS)) ∧ Below w.heap.size w wr ∧ w3.heap.size ≤ wr.heap.size) (fun t _ => m.length - (intOf t).toNat)
    case atStart => exact ⟨0, Nat.zero_le _, rfl, fun j hj => by omega, HF3.out, K3.out, HB3.out, Nat.le_refl _⟩
    case round =>
      obtain ⟨i, hi, rfl, hd, hf, hk, hbel, hz⟩ := hrel
      have HD := Lib.hid hd
      have HF := Lib.hid hf
      have HK := Lib.hid hk
      have HB := Lib.hid hbel
      by_cases hlt : i < m.length
      · obtain ⟨b9, o9, rv, cv, ha9, _, hb9, hr90, hrow0⟩ := Hm.out.row hlt
        subst ha9
        have hr9 := (hbel.cell (p := ⟨b9, o9 + i, none⟩) (Nat.lt_of_lt_of_le hb9 tm)).trans hr90
        have hrow := hrow0.below hbel tm
        have HQR : Hid (BiQ w (some ⟨b9, o9, none⟩) m i rv cv) := ⟨b9, o9, rfl, hr90⟩
        clear hr90 hrow0
        have hi1 : (i : Int) < (m.length : Int) := Int.ofNat_lt.2 hlt
        have HMV := Lib.hid (bi_all HA.out hlt)
        have HROW := Lib.hid hrow
        have k0 := hk.1
        have k1 := hk.2
        have hgr : g < wr.heap.size := Nat.lt_of_lt_of_le hg3 hz
        have hbz := hbel.size
        clear hd hf hk hbel hrow
        go_upto_region 8 with fail
        go_upto_region 9 with fail
        obtain ⟨w5, hw5⟩ : ∃ z, z = wr.alloc (.cells #[.int .i64 pS, .slice aS S.length cS, .slice rv (rw' m i).length cv] 53) := ⟨_, rfl⟩
        obtain ⟨q5, hq5⟩ : ∃ b, b = wr.heap.size := ⟨_, rfl⟩
        have VV5 : Hid (W3 q5 (.int .i64 pS) (.slice aS S.length cS) (.slice rv (rw' m i).length cv) w5) := by show W3 _ _ _ _ _; rw [hw5, hq5]; exact W3.new _ _ _ _ _
        have B5 : Hid (Below wr.heap.size wr w5) := by show Below _ _ _; rw [hw5]; exact below_alloc wr _
        have l5 : q5 < w5.heap.size := by rw [hw5, hq5]; exact lt_alloc wr _
        have hqg : g ≠ q5 := by rw [hq5]; exact Nat.ne_of_lt hgr
        rw [← hw5, ← hq5]
        clear hw5 hq5
        obtain ⟨⟨v0, v1, v2⟩, _⟩ := VV5.out
        by_cases hbl : isB2 (rw' m i) = true
        · have HBL := Lib.hid hbl
          clear hbl
          go_upto_region 11 with (go_at_call 42; ((with_reducible refine (isOfGrade_any pS aS S cS loS tpS rv (rw' m i) cv lom tpm w5 HI.out ((HS.out.below HB.out tS).below B5.out (Nat.le_trans tS hbz)) (Nat.le_trans tS (Nat.le_trans hbz B5.out.size)) (HROW.out.below B5.out (Nat.le_trans tm hbz)) (Nat.le_trans tm (Nat.le_trans hbz B5.out.size)) HMV.out).mono ?_); rintro e w6 ⟨rfl, b_⟩; rw [HBL.out]; have B56 := Lib.hid b_; have B6 := Lib.hid (below_step B5.out B5.out.size b_); have VV6 := Lib.hid (VV5.out.below b_ l5); clear b_ v0 v1 v2 k0 k1 hr9; obtain ⟨⟨v0, v1, v2⟩, _⟩ := VV6.out))
          obtain ⟨⟨f0, f1, f2⟩, y0, y1, y2⟩ := (HF.out i (Nat.le_refl _) hlt).below B6.out hgr
          go_wp2
          go_roundw
          case rel =>
            have hz6 := B6.out.size
            have hng : w.heap.size ≠ g := by omega
            refine ⟨i + 1, by omega, by go_num, fun j hj => ?_, fun j hj1 hj2 => ?_, ?_, ?_, ?_⟩
            · by_cases e : j = i
              · subst e
                exact ⟨HBL.out, rv, cv, HQR.out, put3o_in ((HF.out j (Nat.le_refl _) hlt).below B6.out hgr)⟩
              · have hD := HD.out j (by omega)
                exact ⟨hD.1, (hD.2.below B6.out hgr).keep3 (by omega)⟩
            · exact ((HF.out j (by omega) hj2).below B6.out hgr).keep3 (by omega)
            · exact ⟨(put3o_off (.inl hng)).trans ((B6.out.cell (p := ⟨w.heap.size, 0, none⟩) (by show w.heap.size < wr.heap.size; omega)).trans HK.out.1), (put3o_off (.inl hng)).trans ((B6.out.cell (p := ⟨w.heap.size, 1, none⟩) (by show w.heap.size < wr.heap.size; omega)).trans HK.out.2)⟩
            · exact below_put3o (HB.out.trans (B6.out.mono hbz)) (Nat.le_of_lt hwg)
            · show w3.heap.size ≤ (put3o g (i * 3) _ _ _ w6).heap.size
              rw [put3o_size]; omega
          case measure => simp [intOf]; omega
        · have HBL : Hid (isB2 (rw' m i) = false) := by show _ = _; simpa using hbl
          have HNB : Hid (m.all isB2 = false) := by
            show _ = _
            cases e : m.all isB2 with
            | false => rfl
            | true => exact absurd (List.all_eq_true.1 e _ (mem_row hlt)) hbl
          clear hbl
          go_wp2_with (go_at_call 42; ((with_reducible refine (isOfGrade_any pS aS S cS loS tpS rv (rw' m i) cv lom tpm w5 HI.out ((HS.out.below HB.out tS).below B5.out (Nat.le_trans tS hbz)) (Nat.le_trans tS (Nat.le_trans hbz B5.out.size)) (HROW.out.below B5.out (Nat.le_trans tm hbz)) (Nat.le_trans tm (Nat.le_trans hbz B5.out.size)) HMV.out).mono ?_); rintro e w6 ⟨rfl, b_⟩; rw [HBL.out]; have B6 := Lib.hid (below_step B5.out B5.out.size b_); clear b_ v0 v1 v2 k0 k1 hr9))
          go_ret2
          have h5 : bvC pS S m = 5 := by unfold bvC; rw [if_pos HC.out, if_neg (by rw [HNB.out]; decide)]
          exact .inr ⟨by rw [h5]; decide, by rw [h5]; rfl, HB.out.trans (B6.out.mono hbz)⟩
      · have hin : i = m.length := by omega
        subst hin
        have HALL : Hid (m.all isB2 = true) := by
          show _ = _
          rw [List.all_eq_true]
          intro y hy
          obtain ⟨j, hj, rfl⟩ := List.getElem_of_mem hy
          have := (hd j hj).1
          rwa [show rw' m j = m[j] by simp [rw', List.getD, hj]] at this
        clear hd hf hk hbel
        go_wp2
        go_ret2
        exact .inl ⟨by unfold bvC; rw [if_pos HC.out, if_pos HALL.out], g, rfl, fun j hj => (HD.out j hj).2, Nat.le_of_lt hwg, Nat.lt_of_lt_of_le hg3 hz, HB.out⟩
  · have HC := Lib.hid hc
    obtain ⟨C, hCe⟩ : ∃ c, c = regC pS S m := ⟨_, rfl⟩
    have hc1 : (C != 0) = true := by rw [hCe]; simpa using hc
    have HCE := Lib.hid hCe
    clear hc hCe
    go_enter Try.func63, Try.ntmps63
    go_wp2_with (go_at_call 41; ((with_reducible refine (checkRegular_any pS aS S cS loS tpS am m cm lom tpm _ (HS.out.below HB0.out tS) (Nat.le_trans tS HB0.out.size) sS (Hm.out.below HB0.out tm) (Nat.le_trans tm HB0.out.size) (by omega) HSR.out).mono ?_); rintro e w2 ⟨rfl, b_⟩; rw [← HCE.out]; have HB2 := Lib.hid (below_step HB0.out HB0.out.size b_); clear b_ k0 k1))
    go_ret2
    exact .inr ⟨by rw [HBAD.out HC.out]; exact HC.out, by rw [HBAD.out HC.out, HCE.out]; rfl, HB2.out⟩

theorem checkBivectors_1 (p : Int) (aS : Option Addr) (S : List Int) (cS loS tpS : Nat) (av : Option Addr) (v : List Int) (cv lov tpv : Nat) (b cap : Nat) (W : World) (T : TypeId) (hb : b = W.heap.size) (hS : RowIn loS tpS W aS S) (tS : tpS ≤ W.heap.size) (sS : S.length ≤ 1048576) (hv : RowIn lov tpv W av v) (tv : tpv ≤ W.heap.size) (sv : v.length ≤ 1048576) :
    Calls Try.prog 63 #[.agg #[.int .i64 p, .slice aS S.length cS], .slice (some ⟨b, 0, none⟩) 1 cap] (W.alloc (.cells #[.slice av v.length cv] T)) (ChBvs p aS S cS (some ⟨b, 0, none⟩) [v] (W.alloc (.cells #[.slice av v.length cv] T))) :=
  checkBivectors_any p aS S cS loS tpS (some ⟨b, 0, none⟩) [v] cap 0 _ _ (hS.below (below_alloc W _) tS) (Nat.le_trans tS (size_alloc W _)) sS (mv_one hb hv tv T) (Nat.le_refl _) (by show 1 ≤ 1024; omega) (fun i hi => by match i, hi with | 0, _ => exact sv)
theorem checkBivectors_1y (p : Int) (aS : Option Addr) (S : List Int) (cS loS tpS : Nat) (av : Option Addr) (v : List Int) (cv lov tpv : Nat) (b cap : Nat) (W : World) (T : TypeId) (hb : b = W.heap.size) (hS : RowIn loS tpS W aS S) (tS : tpS ≤ W.heap.size) (sS : S.length ≤ 1048576) (hv : RowIn lov tpv W av v) (tv : tpv ≤ W.heap.size) (sv : v.length ≤ 1048576) (hc : bvC p S [v] = 0) :
    Calls Try.prog 63 #[.agg #[.int .i64 p, .slice aS S.length cS], .slice (some ⟨b, 0, none⟩) 1 cap] (W.alloc (.cells #[.slice av v.length cv] T)) fun e w' => ∃ g : Nat, e = .returned (.tuple #[.slice (some ⟨g, 0, none⟩) 1 1, .int .i64 0]) ∧ ((w'.cell? ⟨g, 0, none⟩ = some (.int .i64 p) ∧ w'.cell? ⟨g, 1, none⟩ = some (.slice aS S.length cS) ∧ w'.cell? ⟨g, 2, none⟩ = some (.slice av v.length cv))) ∧ W.heap.size < g ∧ g < w'.heap.size ∧ Below W.heap.size W w' :=
  (checkBivectors_1 p aS S cS loS tpS av v cv lov tpv b cap W T hb hS tS sS hv tv sv).mono fun e w' h => by
    rcases h with ⟨_, g, rfl, hb', hg0, hg1, hbl⟩ | ⟨h, _⟩
    rotate_left
    · exact absurd hc h
    obtain ⟨a0, c0, ⟨bb0, ob0, hbb0, hcc0⟩, q0⟩ := hb' 0 (by show 0 < 1; omega)
    have e0 : b = bb0 ∧ 0 = ob0 := by injection hbb0 with h1; injection h1 with h2 h3; exact ⟨h2, h3⟩
    rw [← e0.1, ← e0.2, hb, World.cell?_alloc_new] at hcc0
    have f0 : (av = a0) ∧ (cv = c0) := by simp at hcc0; exact ⟨hcc0.1, hcc0.2.2⟩
    obtain ⟨rfl, rfl⟩ := f0
    have hW : W.heap.size < (W.alloc (.cells #[.slice av v.length cv] T)).heap.size := by simp
    exact ⟨g, rfl, q0, by omega, hg1, below_step (below_alloc W _) (size_alloc W _) hbl⟩
theorem checkBivectors_1n (p : Int) (aS : Option Addr) (S : List Int) (cS loS tpS : Nat) (av : Option Addr) (v : List Int) (cv lov tpv : Nat) (b cap : Nat) (W : World) (T : TypeId) (hb : b = W.heap.size) (hS : RowIn loS tpS W aS S) (tS : tpS ≤ W.heap.size) (sS : S.length ≤ 1048576) (hv : RowIn lov tpv W av v) (tv : tpv ≤ W.heap.size) (sv : v.length ≤ 1048576) (hc : bvC p S [v] ≠ 0) :
    Calls Try.prog 63 #[.agg #[.int .i64 p, .slice aS S.length cS], .slice (some ⟨b, 0, none⟩) 1 cap] (W.alloc (.cells #[.slice av v.length cv] T)) fun e w' => e = .returned (.tuple #[.slice none 0 0, .int .i64 (bvC p S [v])]) ∧ Below W.heap.size W w' :=
  (checkBivectors_1 p aS S cS loS tpS av v cv lov tpv b cap W T hb hS tS sS hv tv sv).mono fun e w' h => by
    rcases h with ⟨h, _⟩ | ⟨_, h, hbl⟩
    · exact absurd h hc
    · exact ⟨h, below_step (below_alloc W _) (size_alloc W _) hbl⟩

theorem checkBivectors_2 (p : Int) (aS : Option Addr) (S : List Int) (cS loS tpS : Nat) (av : Option Addr) (v : List Int) (cv lov tpv : Nat) (au : Option Addr) (u : List Int) (cu lou tpu : Nat) (b cap : Nat) (W : World) (T : TypeId) (hb : b = W.heap.size) (hS : RowIn loS tpS W aS S) (tS : tpS ≤ W.heap.size) (sS : S.length ≤ 1048576) (hv : RowIn lov tpv W av v) (tv : tpv ≤ W.heap.size) (sv : v.length ≤ 1048576) (hu : RowIn lou tpu W au u) (tu : tpu ≤ W.heap.size) (su : u.length ≤ 1048576) :
    Calls Try.prog 63 #[.agg #[.int .i64 p, .slice aS S.length cS], .slice (some ⟨b, 0, none⟩) 2 cap] (W.alloc (.cells #[.slice av v.length cv, .slice au u.length cu] T)) (ChBvs p aS S cS (some ⟨b, 0, none⟩) [v, u] (W.alloc (.cells #[.slice av v.length cv, .slice au u.length cu] T))) :=
  checkBivectors_any p aS S cS loS tpS (some ⟨b, 0, none⟩) [v, u] cap 0 _ _ (hS.below (below_alloc W _) tS) (Nat.le_trans tS (size_alloc W _)) sS (mv_two hb hv tv hu tu T) (Nat.le_refl _) (by show 2 ≤ 1024; omega) (fun i hi => by match i, hi with | 0, _ => exact sv | 1, _ => exact su)
theorem checkBivectors_2y (p : Int) (aS : Option Addr) (S : List Int) (cS loS tpS : Nat) (av : Option Addr) (v : List Int) (cv lov tpv : Nat) (au : Option Addr) (u : List Int) (cu lou tpu : Nat) (b cap : Nat) (W : World) (T : TypeId) (hb : b = W.heap.size) (hS : RowIn loS tpS W aS S) (tS : tpS ≤ W.heap.size) (sS : S.length ≤ 1048576) (hv : RowIn lov tpv W av v) (tv : tpv ≤ W.heap.size) (sv : v.length ≤ 1048576) (hu : RowIn lou tpu W au u) (tu : tpu ≤ W.heap.size) (su : u.length ≤ 1048576) (hc : bvC p S [v, u] = 0) :
    Calls Try.prog 63 #[.agg #[.int .i64 p, .slice aS S.length cS], .slice (some ⟨b, 0, none⟩) 2 cap] (W.alloc (.cells #[.slice av v.length cv, .slice au u.length cu] T)) fun e w' => ∃ g : Nat, e = .returned (.tuple #[.slice (some ⟨g, 0, none⟩) 2 2, .int .i64 0]) ∧ ((w'.cell? ⟨g, 0, none⟩ = some (.int .i64 p) ∧ w'.cell? ⟨g, 1, none⟩ = some (.slice aS S.length cS) ∧ w'.cell? ⟨g, 2, none⟩ = some (.slice av v.length cv)) ∧ (w'.cell? ⟨g, 3, none⟩ = some (.int .i64 p) ∧ w'.cell? ⟨g, 4, none⟩ = some (.slice aS S.length cS) ∧ w'.cell? ⟨g, 5, none⟩ = some (.slice au u.length cu))) ∧ W.heap.size < g ∧ g < w'.heap.size ∧ Below W.heap.size W w' :=
  (checkBivectors_2 p aS S cS loS tpS av v cv lov tpv au u cu lou tpu b cap W T hb hS tS sS hv tv sv hu tu su).mono fun e w' h => by
    rcases h with ⟨_, g, rfl, hb', hg0, hg1, hbl⟩ | ⟨h, _⟩
    rotate_left
    · exact absurd hc h
    obtain ⟨a0, c0, ⟨bb0, ob0, hbb0, hcc0⟩, q0⟩ := hb' 0 (by show 0 < 2; omega)
    have e0 : b = bb0 ∧ 0 = ob0 := by injection hbb0 with h1; injection h1 with h2 h3; exact ⟨h2, h3⟩
    rw [← e0.1, ← e0.2, hb, World.cell?_alloc_new] at hcc0
    have f0 : (av = a0) ∧ (cv = c0) := by simp at hcc0; exact ⟨hcc0.1, hcc0.2.2⟩
    obtain ⟨rfl, rfl⟩ := f0
    obtain ⟨a1, c1, ⟨bb1, ob1, hbb1, hcc1⟩, q1⟩ := hb' 1 (by show 1 < 2; omega)
    have e1 : b = bb1 ∧ 0 = ob1 := by injection hbb1 with h1; injection h1 with h2 h3; exact ⟨h2, h3⟩
    rw [← e1.1, ← e1.2, hb, World.cell?_alloc_new] at hcc1
    have f1 : (au = a1) ∧ (cu = c1) := by simp at hcc1; exact ⟨hcc1.1, hcc1.2.2⟩
    obtain ⟨rfl, rfl⟩ := f1
    have hW : W.heap.size < (W.alloc (.cells #[.slice av v.length cv, .slice au u.length cu] T)).heap.size := by simp
    exact ⟨g, rfl, ⟨q0, q1⟩, by omega, hg1, below_step (below_alloc W _) (size_alloc W _) hbl⟩
theorem checkBivectors_2n (p : Int) (aS : Option Addr) (S : List Int) (cS loS tpS : Nat) (av : Option Addr) (v : List Int) (cv lov tpv : Nat) (au : Option Addr) (u : List Int) (cu lou tpu : Nat) (b cap : Nat) (W : World) (T : TypeId) (hb : b = W.heap.size) (hS : RowIn loS tpS W aS S) (tS : tpS ≤ W.heap.size) (sS : S.length ≤ 1048576) (hv : RowIn lov tpv W av v) (tv : tpv ≤ W.heap.size) (sv : v.length ≤ 1048576) (hu : RowIn lou tpu W au u) (tu : tpu ≤ W.heap.size) (su : u.length ≤ 1048576) (hc : bvC p S [v, u] ≠ 0) :
    Calls Try.prog 63 #[.agg #[.int .i64 p, .slice aS S.length cS], .slice (some ⟨b, 0, none⟩) 2 cap] (W.alloc (.cells #[.slice av v.length cv, .slice au u.length cu] T)) fun e w' => e = .returned (.tuple #[.slice none 0 0, .int .i64 (bvC p S [v, u])]) ∧ Below W.heap.size W w' :=
  (checkBivectors_2 p aS S cS loS tpS av v cv lov tpv au u cu lou tpu b cap W T hb hS tS sS hv tv sv hu tu su).mono fun e w' h => by
    rcases h with ⟨h, _⟩ | ⟨_, h, hbl⟩
    · exact absurd h hc
    · exact ⟨h, below_step (below_alloc W _) (size_alloc W _) hbl⟩

def BvY (p : Int) (aS : Option Addr) (S : List Int) (cS : Nat) (ax : Option Addr) (n cx : Nat) (w : World) (e : Ending) (w' : World) : Prop := e = .returned (.tuple #[.agg #[.int .i64 p, .slice aS S.length cS, .slice ax n cx], .int .i64 0]) ∧ Below w.heap.size w w'
def BvN (C : Int) (w : World) (e : Ending) (w' : World) : Prop := e = .returned (.tuple #[.agg #[.int .i64 0, .slice none 0 0, .slice none 0 0], .int .i64 C]) ∧ Below w.heap.size w w'
set_option maxRecDepth 100000 in
set_option maxHeartbeats 3200000 in
theorem checkBivector_y (pS : Int) (aS : Option Addr) (S : List Int) (cS loS tpS : Nat) (ax : Option Addr) (x : List Int) (cx lox tpx : Nat) (w : World) (hS : RowIn loS tpS w aS S) (tS : tpS ≤ w.heap.size) (sS : S.length ≤ 1048576) (hx : RowIn lox tpx w ax x) (tx : tpx ≤ w.heap.size) (sx : x.length ≤ 1048576) (hc : bvC pS S [x] = 0) :
    Calls Try.prog 52 #[.agg #[.int .i64 pS, .slice aS S.length cS], .slice ax x.length cx] w (BvY pS aS S cS ax x.length cx w) := by
  have HS := Lib.hid hS
  have Hx := Lib.hid hx
  have k0 := nw0 w (.int .i64 pS) (.slice aS S.length cS) 28
  have k1 := nw1 w (.int .i64 pS) (.slice aS S.length cS) 28
  have HB0 := Lib.hid (below_alloc w (.cells #[.int .i64 pS, .slice aS S.length cS] 28))
  clear hS hx
  have HC := Lib.hid hc
  clear hc
  go_enter Try.func52, Try.ntmps52
  go_upto_region 1 with fail
  obtain ⟨w0, hw0'⟩ : ∃ z, z = w.alloc (.cells #[.int .i64 pS, .slice aS S.length cS] 28) := ⟨_, rfl⟩
  rw [← hw0'] at HB0 k0 k1 ⊢
  have hw0 : w.heap.size < w0.heap.size := by rw [hw0']; simp
  have hwz : w.heap.size + 1 = w0.heap.size := by rw [hw0']; simp
  try rw [hwz]
  clear hw0'
  obtain ⟨w1, hw1⟩ : ∃ z, z = w0.alloc (.cells #[.int .i64 0, .slice none 0 0, .slice none 0 0] 58) := ⟨_, rfl⟩
  obtain ⟨g, hg⟩ : ∃ b, b = w0.heap.size := ⟨_, rfl⟩
  have hs0 : w1.cell? ⟨w.heap.size, 0, none⟩ = some (.int .i64 pS) ∧ w1.cell? ⟨w.heap.size, 1, none⟩ = some (.slice aS S.length cS) := by rw [hw1]; exact ss2 (below_alloc w0 _) hw0 ⟨k0, k1⟩
  have hzz : W3 g (.int .i64 0) (.slice none 0 0) (.slice none 0 0) w1 := by rw [hw1, hg]; exact W3.new _ _ _ _ _
  have HB1 : Hid (Below w.heap.size w w1) := by show Below _ _ _; rw [hw1]; exact HB0.out.alloc HB0.out.size _
  have hg1 : g < w1.heap.size := by rw [hw1, hg]; simp
  have hwg : w.heap.size < g := by omega
  have hd1 : w.heap.size < w1.heap.size := Nat.lt_trans hwg hg1
  rw [← hw1]
  rw [← hg]
  clear hw1 hwz hg k0 k1
  have k0 := hs0.1
  have k1 := hs0.2
  have K1 := Lib.hid hs0
  have ZZ := Lib.hid hzz
  clear hs0 hzz
  go_upto_region 2 with (go_at_call 63; ((with_reducible refine (checkBivectors_1y pS aS S cS loS tpS ax x cx lox tpx _ _ w1 _ rfl (HS.out.below HB1.out tS) (Nat.le_trans tS HB1.out.size) sS (Hx.out.below HB1.out tx) (Nat.le_trans tx HB1.out.size) sx HC.out).mono ?_); rintro e w2 ⟨b, rfl, ⟨q0, q1, q2⟩, hb0, hb1, b_⟩; have B2 := Lib.hid b_; obtain ⟨⟨z0, z1, z2⟩, y0, y1, y2⟩ := ZZ.out.below b_ hg1; clear b_ k0 k1))
  have hbg : b ≠ g := by omega
  go_wp2
  refine bodyPost_ret (v := .tuple #[.agg #[.int .i64 pS, .slice aS S.length cS, .slice ax x.length cx], .int .i64 0]) (by simp [results, Try.results52, go_sem, z0, z1, z2]) rfl ⟨rfl, ?_⟩
  exact below_wput3 (HB1.out.trans (B2.out.mono (Nat.le_of_lt hd1))) (Nat.le_of_lt hwg)

set_option maxRecDepth 100000 in
set_option maxHeartbeats 3200000 in
theorem checkBivector_n (pS : Int) (aS : Option Addr) (S : List Int) (cS loS tpS : Nat) (ax : Option Addr) (x : List Int) (cx lox tpx : Nat) (w : World) (hS : RowIn loS tpS w aS S) (tS : tpS ≤ w.heap.size) (sS : S.length ≤ 1048576) (hx : RowIn lox tpx w ax x) (tx : tpx ≤ w.heap.size) (sx : x.length ≤ 1048576) (hc : bvC pS S [x] ≠ 0) :
    Calls Try.prog 52 #[.agg #[.int .i64 pS, .slice aS S.length cS], .slice ax x.length cx] w (BvN (bvC pS S [x]) w) := by
  have HS := Lib.hid hS
  have Hx := Lib.hid hx
  have k0 := nw0 w (.int .i64 pS) (.slice aS S.length cS) 28
  have k1 := nw1 w (.int .i64 pS) (.slice aS S.length cS) 28
  have HB0 := Lib.hid (below_alloc w (.cells #[.int .i64 pS, .slice aS S.length cS] 28))
  clear hS hx
  have HC := Lib.hid hc
  obtain ⟨C, hC⟩ : ∃ c, c = bvC pS S [x] := ⟨_, rfl⟩
  have hc1 : (C != 0) = true := by rw [hC]; simpa using hc
  have HCE := Lib.hid hC
  clear hc
  rw [← hC]
  clear hC
  go_enter Try.func52, Try.ntmps52
  go_upto_region 1 with fail
  obtain ⟨w0, hw0'⟩ : ∃ z, z = w.alloc (.cells #[.int .i64 pS, .slice aS S.length cS] 28) := ⟨_, rfl⟩
  rw [← hw0'] at HB0 k0 k1 ⊢
  have hw0 : w.heap.size < w0.heap.size := by rw [hw0']; simp
  have hwz : w.heap.size + 1 = w0.heap.size := by rw [hw0']; simp
  try rw [hwz]
  clear hw0'
  obtain ⟨w1, hw1⟩ : ∃ z, z = w0.alloc (.cells #[.int .i64 0, .slice none 0 0, .slice none 0 0] 58) := ⟨_, rfl⟩
  obtain ⟨g, hg⟩ : ∃ b, b = w0.heap.size := ⟨_, rfl⟩
  have hs0 : w1.cell? ⟨w.heap.size, 0, none⟩ = some (.int .i64 pS) ∧ w1.cell? ⟨w.heap.size, 1, none⟩ = some (.slice aS S.length cS) := by rw [hw1]; exact ss2 (below_alloc w0 _) hw0 ⟨k0, k1⟩
  have hzz : W3 g (.int .i64 0) (.slice none 0 0) (.slice none 0 0) w1 := by rw [hw1, hg]; exact W3.new _ _ _ _ _
  have HB1 : Hid (Below w.heap.size w w1) := by show Below _ _ _; rw [hw1]; exact HB0.out.alloc HB0.out.size _
  have hg1 : g < w1.heap.size := by rw [hw1, hg]; simp
  have hwg : w.heap.size < g := by omega
  have hd1 : w.heap.size < w1.heap.size := Nat.lt_trans hwg hg1
  rw [← hw1]
  rw [← hg]
  clear hw1 hwz hg k0 k1
  have k0 := hs0.1
  have k1 := hs0.2
  have K1 := Lib.hid hs0
  have ZZ := Lib.hid hzz
  clear hs0 hzz
  go_wp2_with (go_at_call 63; ((with_reducible refine (checkBivectors_1n pS aS S cS loS tpS ax x cx lox tpx _ _ w1 _ rfl (HS.out.below HB1.out tS) (Nat.le_trans tS HB1.out.size) sS (Hx.out.below HB1.out tx) (Nat.le_trans tx HB1.out.size) sx HC.out).mono ?_); rintro e w2 ⟨rfl, b_⟩; rw [← HCE.out]; have B2 := Lib.hid b_; obtain ⟨⟨z0, z1, z2⟩, y0, y1, y2⟩ := ZZ.out.below b_ hg1; clear b_ k0 k1))
  refine bodyPost_ret (v := .tuple #[.agg #[.int .i64 0, .slice none 0 0, .slice none 0 0], .int .i64 C]) (by simp [results, Try.results52, go_sem, z0, z1, z2]) rfl ⟨rfl, ?_⟩
  exact below_wput3 (HB1.out.trans (B2.out.mono (Nat.le_of_lt hd1))) (Nat.le_of_lt hwg)

end Go.Proofs.Ytkibkkdeaojjoaa
