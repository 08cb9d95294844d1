/-
  The signs of those grades of which a multivector has blades: contracts of the program and of the model.
  Conditions: the lists are nil or rows of known cells, of at most 1048576 numbers.
-/
import Derived.Test.YtcamegdjdjacpaaQr13
import Derived.Test.YtcamegdjdjacpaaQr7
import Derived.Test.YtcamegdjdjacpaaQr16
namespace Go.Proofs.Ytcamegdjdjacpaa
open Go.RowKit
set_option linter.unusedVariables false

/-- Whether a term of grade g has come. -/
def cm (x : List Int) (left : Lit → Bool) (g : Nat) : Bool := (List.range x.length).any fun j => decide (gr j = g) && decide (x.getD j 0 ≠ 0) && !(td left j)
theorem cm_iff {x : List Int} {left : Lit → Bool} {g : Nat} : cm x left g = true ↔ ∃ j, j < x.length ∧ gr j = g ∧ x.getD j 0 ≠ 0 ∧ td left j = false := by
  unfold cm
  simp only [List.any_eq_true, List.mem_range, Bool.and_eq_true, decide_eq_true_eq, Bool.not_eq_true']
  exact ⟨fun ⟨j, h1, h2, h3⟩ => ⟨j, h1, h2.1, h2.2, h3⟩, fun ⟨j, h1, h2, h3, h4⟩ => ⟨j, h1, ⟨h2, h3⟩, h4⟩⟩
theorem bool_ext {a b : Bool} (h : a = true ↔ b = true) : a = b := by cases a <;> cases b <;> simp at h ⊢
theorem cm_start {D : DataW Unit} {x : List Int} (h : Tm D x x.length) (g : Nat) : cm x (Maps.has D) g = false := by
  cases e : cm x (Maps.has D) g with
  | false => rfl
  | true =>
    obtain ⟨j, h1, h2, h3, h4⟩ := cm_iff.1 e
    rw [td_all h h1 h3] at h4; cases h4
theorem cm_end {x : List Int} {left : Lit → Bool} (h : ∀ kl, left kl = false) (g : Nat) : cm x left g = hasGr x g :=
  bool_ext ⟨fun e => by obtain ⟨j, h1, h2, h3, _⟩ := cm_iff.1 e; exact hasGr_iff.2 ⟨j, h1, h2, h3⟩, fun e => by obtain ⟨j, h1, h2, h3⟩ := hasGr_iff.1 e; exact cm_iff.2 ⟨j, h1, h2, h3, td_none h j⟩⟩
theorem cm_same {x : List Int} {left : Lit → Bool} {k : Nat} (hk : k < x.length) (hne : x.getD k 0 ≠ 0) : cm x (fun z => left z && !z.sameKey (.int .i64 (k : Int))) (gr k) = true := cm_iff.2 ⟨k, hk, rfl, hne, td_same left k⟩
theorem cm_other {x : List Int} {left : Lit → Bool} {k g : Nat} (h : g ≠ gr k) : cm x (fun z => left z && !z.sameKey (.int .i64 (k : Int))) g = cm x left g :=
  bool_ext ⟨fun e => by
    obtain ⟨j, h1, h2, h3, h4⟩ := cm_iff.1 e
    have hj : j ≠ k := fun e2 => h (by rw [← h2, e2])
    rw [td_other left hj] at h4
    exact cm_iff.2 ⟨j, h1, h2, h3, h4⟩, fun e => by
    obtain ⟨j, h1, h2, h3, h4⟩ := cm_iff.1 e
    have hj : j ≠ k := fun e2 => h (by rw [← h2, e2])
    exact cm_iff.2 ⟨j, h1, h2, h3, by rw [td_other left hj]; exact h4⟩⟩
def kp (f : Nat → Int) (x : List Int) (g : Nat) : Int := if hasGr x g = true then f g else 0

set_option maxRecDepth 100000 in
set_option maxHeartbeats 3200000 in
theorem on_any (f : Nat → Int) (ax : Option Addr) (x : List Int) (cx lox tpx : Nat) (w : World) (hx : RowIn lox tpx w ax x) (tx : tpx ≤ w.heap.size) (sx : x.length ≤ 64) (nx : ∀ j, j < x.length → -100 ≤ x.getD j 0 ∧ x.getD j 0 ≤ 100) :
    Calls Try.prog 106 #[.agg #[.int .i64 (f 0), .int .i64 (f 1), .int .i64 (f 2), .int .i64 (f 3), .int .i64 (f 4), .int .i64 (f 5), .int .i64 (f 6)], .slice ax x.length cx] w fun e w' => e = .returned (.agg #[.int .i64 (kp f x 0), .int .i64 (kp f x 1), .int .i64 (kp f x 2), .int .i64 (kp f x 3), .int .i64 (kp f x 4), .int .i64 (kp f x 5), .int .i64 (kp f x 6)]) ∧ Below w.heap.size w w' := by
  have HNB := Lib.hid nx
  have Hx := Lib.hid hx
  clear hx nx
  go_enter Try.func106, Try.ntmps106
  go_upto_region 2 with fail
  obtain ⟨w1, hw1⟩ : ∃ z, z = ((w.alloc (.cells #[.int .i64 (f 0), .int .i64 (f 1), .int .i64 (f 2), .int .i64 (f 3), .int .i64 (f 4), .int .i64 (f 5), .int .i64 (f 6)] 89)).alloc (.cells #[.int .i64 0, .int .i64 0, .int .i64 0, .int .i64 0, .int .i64 0, .int .i64 0, .int .i64 0] 89)).alloc (.cells #[.int .i64 0, .int .i64 0, .int .i64 0, .int .i64 0, .int .i64 0, .int .i64 0, .int .i64 0] 89) := ⟨_, rfl⟩
  have HA : Hid (RowOwn w1 w.heap.size 0 7 f) := by
    show RowOwn _ _ _ _ _
    rw [hw1]; exact row_alloc (row_alloc (arr' (f := f) rfl ⟨rfl, rfl, rfl, rfl, rfl, rfl, rfl⟩) (by simp)) (by simp; omega)
  have HZ : Hid (RowOwn w1 (w.heap.size + 1) 0 7 (fun _ => 0)) := by
    show RowOwn _ _ _ _ _
    rw [hw1]; exact row_alloc (arr' (f := fun _ => 0) (by simp) ⟨rfl, rfl, rfl, rfl, rfl, rfl, rfl⟩) (by simp)
  have HK : Hid (RowOwn w1 (w.heap.size + 2) 0 7 (fun _ => 0)) := by
    show RowOwn _ _ _ _ _
    rw [hw1]; exact arr' (f := fun _ => 0) (by simp) ⟨rfl, rfl, rfl, rfl, rfl, rfl, rfl⟩
  have HB1 : Hid (Below w.heap.size w w1) := by show Below _ _ _; rw [hw1]; exact ((below_alloc w _).alloc (by simp) _).alloc (by simp; omega) _
  have hs1 : w1.heap.size = w.heap.size + 3 := by rw [hw1]; simp
  rw [← hw1]
  clear hw1
  go_wp2_with (first | (go_at_call 109; (with_reducible refine (termsOf_any ax x cx lox tpx w1 (Hx.out.below HB1.out tx) (Nat.le_trans tx HB1.out.size) sx HNB.out).mono ?_); rintro e w5 ⟨bT, D, rfl, lT, uT, oT, tT, b5⟩; have HOT := Lib.hid oT; have HTM := Lib.hid tT; have HB5 := Lib.hid b5; have z5 := b5.size; clear oT tT b5) | (at_range; refine wpList_range_own _ rfl _ 93 rfl 3 2 lawK Try.underlying93 (plainElem (H := Unit) Try.prog 2) bT x.length D rfl HOT.out ?_; intro w6 hrg0 hg0 hs0))
  go_frame
  have HA6 : Hid (RowOwn w6 w.heap.size 0 7 f) := (HA.out.stay (HB5.out.block _ (by omega))).stay (hg0.block _ (by omega) (by simp))
  have HZ6 : Hid (RowOwn w6 (w.heap.size + 1) 0 7 (fun _ => 0)) := (HZ.out.stay (HB5.out.block _ (by omega))).stay (hg0.block _ (by omega) (by simp))
  have HK6 : Hid (RowOwn w6 (w.heap.size + 2) 0 7 (fun g => if cm x (Maps.has D) g = true then f g else 0)) := ((HK.out.stay (HB5.out.block _ (by omega))).stay (hg0.block _ (by omega) (by simp))).congr (fun j _ => by rw [cm_start HTM.out]; rfl)
  have HB6 : Hid (Below w.heap.size w w6) := HB1.out.trans ((HB5.out.grown hg0 z5 (fun j hj => by cases hj)).mono (by omega))
  go_loopw [6] (fun _ wr => ∃ (left : Lit → Bool) (cnt : Nat), wr.ranges Try.prog 3 (plainElem (H := Unit) Try.prog 2) bT w5.heap.size x.length D left cnt ∧ Sub left D ∧ RowOwn wr w.heap.size 0 7 f ∧ RowOwn wr (w.heap.size + 1) 0 7 (fun _ => 0) ∧ RowOwn wr (w.heap.size + 2) 0 7 (fun g => if cm x left g = true then f g else 0) ∧ Below w.heap.size w wr ∧ w6.heap.size ≤ wr.heap.size) (fun _ wr => wr.rangeLeft bT w5.heap.size)
  case atStart => exact ⟨_, _, hrg0, sub_refl D, HA6.out, HZ6.out, HK6.out, HB6.out, Nat.le_refl _⟩
  case round =>
    obtain ⟨left, cnt, hrg, hsub, ha, hz, hk, hnx, hsz⟩ := hrel
    have HAR := Lib.hid ha
    have HZR := Lib.hid hz
    have HKR := Lib.hid hk
    have HNXB := Lib.hid hnx
    have HSUB := Lib.hid hsub
    clear ha hz hk hnx hsub
    go_wp2_with (first | (at_next; refine wpList_next_ranges_ii _ rfl _ rfl 3 2 .i64 .i64 lawK Try.underlying3 Try.underlying2 bT w5.heap.size x.length D left cnt rfl hrg ?_ ?_) | go_in)
    · intro hc0 hl0
      have HE : Hid (RowOwn wr (w.heap.size + 2) 0 7 (kp f x)) := HKR.out.congr (fun j _ => by unfold kp; rw [cm_end hl0])
      have A0 : wr.cell? ⟨w.heap.size + 2, 0, none⟩ = some (.int .i64 (kp f x 0)) := HE.out.cell 0 (by omega)
      have Z0 : wr.cell? ⟨w.heap.size + 1, 0, none⟩ = some (.int .i64 0) := HZR.out.cell 0 (by omega)
      have F0 : wr.frozen? ⟨w.heap.size + 1, 0, none⟩ = false := HZR.out.free 0 (by omega)
      have A1 : wr.cell? ⟨w.heap.size + 2, 1, none⟩ = some (.int .i64 (kp f x 1)) := HE.out.cell 1 (by omega)
      have Z1 : wr.cell? ⟨w.heap.size + 1, 1, none⟩ = some (.int .i64 0) := HZR.out.cell 1 (by omega)
      have F1 : wr.frozen? ⟨w.heap.size + 1, 1, none⟩ = false := HZR.out.free 1 (by omega)
      have A2 : wr.cell? ⟨w.heap.size + 2, 2, none⟩ = some (.int .i64 (kp f x 2)) := HE.out.cell 2 (by omega)
      have Z2 : wr.cell? ⟨w.heap.size + 1, 2, none⟩ = some (.int .i64 0) := HZR.out.cell 2 (by omega)
      have F2 : wr.frozen? ⟨w.heap.size + 1, 2, none⟩ = false := HZR.out.free 2 (by omega)
      have A3 : wr.cell? ⟨w.heap.size + 2, 3, none⟩ = some (.int .i64 (kp f x 3)) := HE.out.cell 3 (by omega)
      have Z3 : wr.cell? ⟨w.heap.size + 1, 3, none⟩ = some (.int .i64 0) := HZR.out.cell 3 (by omega)
      have F3 : wr.frozen? ⟨w.heap.size + 1, 3, none⟩ = false := HZR.out.free 3 (by omega)
      have A4 : wr.cell? ⟨w.heap.size + 2, 4, none⟩ = some (.int .i64 (kp f x 4)) := HE.out.cell 4 (by omega)
      have Z4 : wr.cell? ⟨w.heap.size + 1, 4, none⟩ = some (.int .i64 0) := HZR.out.cell 4 (by omega)
      have F4 : wr.frozen? ⟨w.heap.size + 1, 4, none⟩ = false := HZR.out.free 4 (by omega)
      have A5 : wr.cell? ⟨w.heap.size + 2, 5, none⟩ = some (.int .i64 (kp f x 5)) := HE.out.cell 5 (by omega)
      have Z5 : wr.cell? ⟨w.heap.size + 1, 5, none⟩ = some (.int .i64 0) := HZR.out.cell 5 (by omega)
      have F5 : wr.frozen? ⟨w.heap.size + 1, 5, none⟩ = false := HZR.out.free 5 (by omega)
      have A6 : wr.cell? ⟨w.heap.size + 2, 6, none⟩ = some (.int .i64 (kp f x 6)) := HE.out.cell 6 (by omega)
      have Z6 : wr.cell? ⟨w.heap.size + 1, 6, none⟩ = some (.int .i64 0) := HZR.out.cell 6 (by omega)
      have F6 : wr.frozen? ⟨w.heap.size + 1, 6, none⟩ = false := HZR.out.free 6 (by omega)
      go_wp2
      refine bodyPost_ret (v := .agg #[.int .i64 (kp f x 0), .int .i64 (kp f x 1), .int .i64 (kp f x 2), .int .i64 (kp f x 3), .int .i64 (kp f x 4), .int .i64 (kp f x 5), .int .i64 (kp f x 6)]) (by simp [results, Try.results106, go_sem, Z0, Z1, Z2, Z3, Z4, Z5, Z6]) rfl ⟨rfl, ?_⟩
      have hb := HNXB.out
      have hz := hb.size
      (have hs_hb := hb.size; (repeat' (first | with_reducible exact Below.refl _ _ | (with_reducible refine Below.setCell ?_ ?_ _) | (with_reducible refine Below.alloc ?_ ?_ _) | (with_reducible refine Below.drew ?_) | (with_reducible refine below_step ?_ ?_ hb))); all_goals (first | (simp; done) | omega | (simp; omega) | (simp at hs_hb ⊢; omega)))
    · intro kx c w7 cnt1 hwx hwc hlx' hat hrg1 hlt hg1 hs1' hen
      obtain ⟨j, hj, rfl, hcx, hne0, htd⟩ := HTM.out.come HSUB.out hlx' hat
      have HA7 : Hid (RowOwn w7 w.heap.size 0 7 f) := HAR.out.stay (hg1.block _ (by omega) (by simp; omega))
      have HZ7 : Hid (RowOwn w7 (w.heap.size + 1) 0 7 (fun _ => 0)) := HZR.out.stay (hg1.block _ (by omega) (by simp; omega))
      have HK7 : Hid (RowOwn w7 (w.heap.size + 2) 0 7 (fun g => if cm x left g = true then f g else 0)) := HKR.out.stay (hg1.block _ (by omega) (by simp; omega))
      have HB7 : Hid (Below w.heap.size w w7) := HNXB.out.grown hg1 (by omega) (fun i hi => by cases hi; omega)
      have hz7 := hg1.size
      have HNE := Lib.hid hne0
      have HRG1 := Lib.hid hrg1
      have hg6 : gr j < 7 := by have := gr_le j; omega
      obtain ⟨q, hq⟩ : ∃ q, q = gr j := ⟨_, rfl⟩
      have HQ := Lib.hid hq
      rw [← hq] at hg6
      have a0 := HA7.out.cell q hg6
      have c0 := HK7.out.cell q hg6
      have f0 := HK7.out.free q hg6
      rw [Nat.zero_add] at a0 c0 f0
      have hq1 : (q : Int) < 7 := by omega
      clear hcx hne0 hq
      go_wp2_with (first | (go_at_call 110; (with_reducible refine (gradeOf_any j (by omega) _).mono ?_); rintro e w8 ⟨rfl, rfl⟩; rw [← HQ.out]) | go_in)
      have HRG2 := Lib.hid (ranges_set HRG1.out (w.heap.size + 2) q (.int .i64 (f q)) (by omega) (by omega))
      go_roundw
      case rel => exact ⟨_, cnt1, HRG2.out, sub_strike HSUB.out _, row_far HA7.out (by omega), row_far HZ7.out (by omega), row_put0 HK7.out hg6 (fun i _ => by
        by_cases e : i = q
        · subst e; rw [if_pos rfl, HQ.out, cm_same hj HNE.out, if_pos rfl]
        · rw [if_neg e, cm_other (by rw [← HQ.out]; exact e)]), HB7.out.trans ((wrote_put0 (Wrote.refl (w.heap.size + 2) 0 7 _) hg6 _).belowB (by omega)), by simp [World.setCell]; omega⟩
      case measure => rw [HRG2.out.left_eq, hrg.left_eq]; exact hlt

end Go.Proofs.Ytcamegdjdjacpaa
