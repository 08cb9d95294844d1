/-
  Checks of lists of vectors under one bound on all numbers.
  Conditions: they are nil or rows of known cells, of at most 1048576 numbers.
  What the program's checks of matrices return, and its new matrices of zeros.
  Conditions: the matrices are nil or rows of known cells.
  Sizes of matrices.
  No conditions.
  The reduced basis as a function of the rows; the model's SpanBasis and RankOf: contracts.
  Conditions: the list of vectors is a row of rows of known cells.
  Vectors of a kernel out of reduced rows, column by column. No Go in sight.
  No conditions.
  Solutions of linear equations out of reduced rows. No Go in sight.
  No conditions.
  What the model's turned matrices are: a contract.
  Conditions: the matrix is a row of rows of known cells, all of one length.
  A matrix that is filled row by row, each row in blocks of its own.
  No conditions.
-/
import Derived.Test.YtdamdlihicinlaaKit
import Derived.Test.YtdamdlihicinlaaIsM
import Derived.Test.YtdamdlihicinlaaApp
import Derived.RegionTactic
import Derived.ChangeAlike
import Derived.Test.YtdamdlihicinlaaRect
import Derived.Test.YtdamdlihicinlaaBas
import Derived.Test.YtdamdlihicinlaaElim
import Derived.Deep.AppendLies
import Derived.Test.YtdamdlihicinlaaInp
namespace Go.Proofs.Ytdamdlihicinlaa
open Go.RowKit
set_option linter.unusedVariables false

theorem len_of {m : List (List Int)} (h : m.length + tot m m.length ≤ 1048576) : m.length ≤ 9223372036854775807 ∧ ∀ i, i < m.length → (rw' m i).length ≤ 9223372036854775807 :=
  ⟨by omega, fun i hi => by have := tot_row (m := m) hi; omega⟩

theorem isRows_one (p : Int) (a : Option Addr) (m : List (List Int)) (cap lo tp : Nat) (w : World) (hm : MatIn lo tp w a m) (hs : m.length + tot m m.length ≤ 1048576) :
    Calls Try.prog 188 #[.int .i64 p, .slice a m.length cap, .int .i64 1] w fun e w' => e = .returned (.bool (isM p m)) ∧ w = w' :=
  isRows_any p a m 1 cap lo tp w (by omega) hm (len_of hs).1 (len_of hs).2
theorem isRows_none (p : Int) (a : Option Addr) (m : List (List Int)) (cap lo tp : Nat) (w : World) (hm : MatIn lo tp w a m) (hs : m.length + tot m m.length ≤ 1048576) :
    Calls Try.prog 188 #[.int .i64 p, .slice a m.length cap, .int .i64 0] w fun e w' => e = .returned (.bool (isL 0 p m)) ∧ w = w' :=
  isRows_any p a m 0 cap lo tp w (by omega) hm (len_of hs).1 (len_of hs).2

end Go.Proofs.Ytdamdlihicinlaa

namespace Go.Proofs.Ytdamdlihicinlaa
open Go.RowKit
set_option linter.unusedVariables false

set_option maxHeartbeats 800000 in
theorem isMatrix_q (p : Int) (a : Option Addr) (m : List (List Int)) (cap lo tp : Nat) (w : World) (hm : MatIn lo tp w a m) (hs : m.length + tot m m.length ≤ 1048576) :
    Calls Try.prog 170 #[.int .i64 p, .slice a m.length cap] w fun e w' => e = .returned (.bool (isM p m)) ∧ w = w' := by
  have HM := Lib.hid hm
  have HS := Lib.hid hs
  clear hm hs
  go_enter Try.func170, Try.ntmps170
  go_wp2_with (go_at_call 188; (with_reducible refine (isRows_one _ _ _ _ lo tp _ HM.out HS.out).mono ?_); rintro e w1 ⟨rfl, rfl⟩)
  go_ret
  exact ⟨rfl, rfl⟩

/-- The code of one matrix, of two. -/
def chk1 (p : Int) (m : List (List Int)) : Int := if isM p m = true then 0 else 1
def chk2 (p : Int) (m m' : List (List Int)) : Int := if isM p m = true ∧ isM p m' = true then 0 else 1
theorem chk1_yes {p : Int} {m : List (List Int)} (h : isM p m = true) : chk1 p m = 0 := if_pos h
theorem chk1_no {p : Int} {m : List (List Int)} (h : isM p m = false) : chk1 p m = 1 := if_neg (by simp [h])
theorem chk2_yes {p : Int} {m m' : List (List Int)} (h : isM p m = true) (h' : isM p m' = true) : chk2 p m m' = 0 := if_pos ⟨h, h'⟩
theorem chk2_no {p : Int} {m m' : List (List Int)} (h : isM p m = false ∨ isM p m' = false) : chk2 p m m' = 1 := if_neg (fun e => by rcases h with h | h <;> simp [h] at e)

set_option maxHeartbeats 800000 in
theorem checkOne (p : Int) (b : Nat) (a : Option Addr) (m : List (List Int)) (cap c lo tp : Nat) (w : World) (hb : w.cell? ⟨b, 0, none⟩ = some (.slice a m.length cap)) (hm : MatIn lo tp w a m) (hs : m.length + tot m m.length ≤ 1048576) :
    Calls Try.prog 143 #[.int .i64 p, .slice (some ⟨b, 0, none⟩) 1 c] w fun e w' => e = .returned (.int .i64 (chk1 p m)) ∧ w = w' := by
  have HM := Lib.hid hm
  have HS := Lib.hid hs
  clear hm hs
  by_cases h : isM p m = true
  · have H := Lib.hid h
    clear h
    go_enter Try.func143, Try.ntmps143
    go_wp2
    go_loop [9] (fun t => ∃ i : Nat, i ≤ 1 ∧ t = .int .i64 i) (fun t => 1 - (intOf t).toNat)
    case atStart => exact ⟨0, Nat.zero_le _, rfl⟩
    case round =>
      obtain ⟨i, hi, rfl⟩ := hrel
      by_cases hlt : i < 1
      · obtain rfl : 0 = i := by omega
        go_wp2_with (go_at_call 170; (with_reducible refine (isMatrix_q _ _ _ _ lo tp _ HM.out HS.out).mono ?_); rintro e w1 ⟨rfl, rfl⟩; rw [H.out])
        go_round
        case rel => exact ⟨1, by omega, by go_num⟩
        case measure => simp [intOf]
      · go_wp2
        go_ret
        exact ⟨by rw [chk1_yes H.out]; rfl, rfl⟩
  · have H : Hid (isM p m = false) := by show isM p m = false; simpa using h
    clear h
    go_enter Try.func143, Try.ntmps143
    go_wp2
    go_loop [9] (fun t => t = .int .i64 0) (fun t => 0)
    case atStart => exact rfl
    case round =>
      subst hrel
      go_wp2_with (go_at_call 170; (with_reducible refine (isMatrix_q _ _ _ _ lo tp _ HM.out HS.out).mono ?_); rintro e w1 ⟨rfl, rfl⟩; rw [H.out])
      go_ret
      exact ⟨by rw [chk1_no H.out]; rfl, rfl⟩

set_option maxHeartbeats 1600000 in
theorem checkTwo (p : Int) (b : Nat) (a a' : Option Addr) (m m' : List (List Int)) (cap cap' c lo tp lo' tp' : Nat) (w : World) (hb : w.cell? ⟨b, 0, none⟩ = some (.slice a m.length cap)) (hb' : w.cell? ⟨b, 1, none⟩ = some (.slice a' m'.length cap')) (hm : MatIn lo tp w a m) (hm' : MatIn lo' tp' w a' m') (hs : m.length + tot m m.length ≤ 1048576) (hs' : m'.length + tot m' m'.length ≤ 1048576) :
    Calls Try.prog 143 #[.int .i64 p, .slice (some ⟨b, 0, none⟩) 2 c] w fun e w' => e = .returned (.int .i64 (chk2 p m m')) ∧ w = w' := by
  have HM := Lib.hid hm
  have HS := Lib.hid hs
  have HM' := Lib.hid hm'
  have HS' := Lib.hid hs'
  clear hm hs hm' hs'
  by_cases h : isM p m = true
  · have H := Lib.hid h
    clear h
    by_cases h' : isM p m' = true
    · have H' := Lib.hid h'
      clear h'
      go_enter Try.func143, Try.ntmps143
      go_wp2
      go_loop [9] (fun t => ∃ i : Nat, i ≤ 2 ∧ t = .int .i64 i) (fun t => 2 - (intOf t).toNat)
      case atStart => exact ⟨0, Nat.zero_le _, rfl⟩
      case round =>
        obtain ⟨i, hi, rfl⟩ := hrel
        by_cases h0 : i = 0
        · obtain rfl : 0 = i := by omega
          clear h0
          go_wp2_with (go_at_call 170; (with_reducible refine (isMatrix_q _ _ _ _ lo tp _ HM.out HS.out).mono ?_); rintro e w1 ⟨rfl, rfl⟩; rw [H.out])
          go_round
          case rel => exact ⟨1, by omega, by go_num⟩
          case measure => simp [intOf]
        · by_cases h1 : i = 1
          · obtain rfl : 1 = i := by omega
            clear h0 h1
            go_wp2_with (go_at_call 170; (with_reducible refine (isMatrix_q _ _ _ _ lo' tp' _ HM'.out HS'.out).mono ?_); rintro e w1 ⟨rfl, rfl⟩; rw [H'.out])
            go_round
            case rel => exact ⟨2, by omega, by go_num⟩
            case measure => simp [intOf]
          · obtain rfl : 2 = i := by omega
            clear h0 h1
            go_wp2
            go_ret
            exact ⟨by rw [chk2_yes H.out H'.out]; rfl, rfl⟩
    · have H' : Hid (isM p m' = false) := by show isM p m' = false; simpa using h'
      clear h'
      go_enter Try.func143, Try.ntmps143
      go_wp2
      go_loop [9] (fun t => ∃ i : Nat, i ≤ 1 ∧ t = .int .i64 i) (fun t => 2 - (intOf t).toNat)
      case atStart => exact ⟨0, Nat.zero_le _, rfl⟩
      case round =>
        obtain ⟨i, hi, rfl⟩ := hrel
        by_cases h0 : i = 0
        · obtain rfl : 0 = i := by omega
          clear h0
          go_wp2_with (go_at_call 170; (with_reducible refine (isMatrix_q _ _ _ _ lo tp _ HM.out HS.out).mono ?_); rintro e w1 ⟨rfl, rfl⟩; rw [H.out])
          go_round
          case rel => exact ⟨1, by omega, by go_num⟩
          case measure => simp [intOf]
        · obtain rfl : 1 = i := by omega
          clear h0
          go_wp2_with (go_at_call 170; (with_reducible refine (isMatrix_q _ _ _ _ lo' tp' _ HM'.out HS'.out).mono ?_); rintro e w1 ⟨rfl, rfl⟩; rw [H'.out])
          go_ret
          exact ⟨by rw [chk2_no (.inr H'.out)]; rfl, rfl⟩
  · have H : Hid (isM p m = false) := by show isM p m = false; simpa using h
    clear h
    go_enter Try.func143, Try.ntmps143
    go_wp2
    go_loop [9] (fun t => t = .int .i64 0) (fun t => 0)
    case atStart => exact rfl
    case round =>
      subst hrel
      go_wp2_with (go_at_call 170; (with_reducible refine (isMatrix_q _ _ _ _ lo tp _ HM.out HS.out).mono ?_); rintro e w1 ⟨rfl, rfl⟩; rw [H.out])
      go_ret
      exact ⟨by rw [chk2_no (.inl H.out)]; rfl, rfl⟩

theorem new_one (w : World) (x : Value) (t : TypeId) : (w.alloc (.cells #[x] t)).cell? ⟨w.heap.size, 0, none⟩ = some x := by simp [go_sem]
theorem new_two0 (w : World) (x y : Value) (t : TypeId) : (w.alloc (.cells #[x, y] t)).cell? ⟨w.heap.size, 0, none⟩ = some x := by simp [go_sem]
theorem new_two1 (w : World) (x y : Value) (t : TypeId) : (w.alloc (.cells #[x, y] t)).cell? ⟨w.heap.size, 1, none⟩ = some y := by simp [go_sem]
theorem checkOne_new (p : Int) (a : Option Addr) (m : List (List Int)) (cap lo tp : Nat) (w : World) (t : TypeId) (hm : MatIn lo tp w a m) (ht : tp ≤ w.heap.size) (hs : m.length + tot m m.length ≤ 1048576) :
    Calls Try.prog 143 #[.int .i64 p, .slice (some ⟨w.heap.size, 0, none⟩) 1 1] (w.alloc (.cells #[.slice a m.length cap] t)) fun e w' => e = .returned (.int .i64 (chk1 p m)) ∧ (w.alloc (.cells #[.slice a m.length cap] t)) = w' :=
  checkOne p w.heap.size a m cap 1 lo tp _ (new_one w _ t) (hm.below ((Below.refl _ _).alloc (Nat.le_refl _) _) ht) hs
theorem checkTwo_new (p : Int) (a a' : Option Addr) (m m' : List (List Int)) (cap cap' lo tp lo' tp' : Nat) (w : World) (t : TypeId) (hm : MatIn lo tp w a m) (ht : tp ≤ w.heap.size) (hs : m.length + tot m m.length ≤ 1048576) (hm' : MatIn lo' tp' w a' m') (ht' : tp' ≤ w.heap.size) (hs' : m'.length + tot m' m'.length ≤ 1048576) :
    Calls Try.prog 143 #[.int .i64 p, .slice (some ⟨w.heap.size, 0, none⟩) 2 2] (w.alloc (.cells #[.slice a m.length cap, .slice a' m'.length cap'] t)) fun e w' => e = .returned (.int .i64 (chk2 p m m')) ∧ (w.alloc (.cells #[.slice a m.length cap, .slice a' m'.length cap'] t)) = w' :=
  checkTwo p w.heap.size a a' m m' cap cap' 2 lo tp lo' tp' _ (new_two0 w _ _ t) (new_two1 w _ _ t) (hm.below ((Below.refl _ _).alloc (Nat.le_refl _) _) ht) (hm'.below ((Below.refl _ _).alloc (Nat.le_refl _) _) ht') hs hs'

/-- The code of a square matrix. -/
def sqC (p : Int) (m : List (List Int)) : Int := if isM p m = true then (if m.length = (rw' m 0).length then 0 else 2) else 1

set_option maxHeartbeats 800000 in
theorem checkSquare_any (p : Int) (a : Option Addr) (m : List (List Int)) (cap lo tp : Nat) (w : World) (hm : MatIn lo tp w a m) (ht : tp ≤ w.heap.size) (hs : m.length + tot m m.length ≤ 1048576) :
    Calls Try.prog 119 #[.int .i64 p, .slice a m.length cap] w fun e w' => e = .returned (.int .i64 (sqC p m)) ∧ Below w.heap.size w w' := by
  have HM := Lib.hid hm
  have HS := Lib.hid hs
  by_cases h : isM p m = true
  · have H : Hid (chk1 p m = 0) := chk1_yes h
    have h0 := (isL_iff.1 h).lo
    obtain ⟨b, o, r0, c0, ha, _, hb, hr0, _⟩ := hm.row (i := 0) (by omega)
    subst ha
    rw [Nat.add_zero] at hr0
    have hb' : b < w.heap.size := Nat.lt_of_lt_of_le hb ht
    have hl := tot_row (m := m) (i := 0) (by omega)
    have HI := Lib.hid h
    by_cases hq : m.length = (rw' m 0).length
    · have HQ := Lib.hid hq
      rw [← hq] at hr0
      clear hm hs h hq hl
      go_enter Try.func119, Try.ntmps119
      go_wp2_with (go_at_call 143; (with_reducible refine (checkOne_new p _ m cap lo tp w _ HM.out ht HS.out).mono ?_); rintro e w1 ⟨rfl, rfl⟩; rw [H.out])
      go_ret
      exact ⟨by unfold sqC; rw [if_pos HI.out, if_pos HQ.out]; rfl, (Below.refl _ _).alloc (Nat.le_refl _) _⟩
    · have HQ : Hid (¬ m.length = (rw' m 0).length) := hq
      obtain ⟨e1, e2⟩ := neq_spell hq
      clear hm hs h hq hl
      go_enter Try.func119, Try.ntmps119
      go_wp2_with (go_at_call 143; (with_reducible refine (checkOne_new p _ m cap lo tp w _ HM.out ht HS.out).mono ?_); rintro e w1 ⟨rfl, rfl⟩; rw [H.out])
      go_ret
      exact ⟨by unfold sqC; rw [if_pos HI.out, if_neg HQ.out]; rfl, (Below.refl _ _).alloc (Nat.le_refl _) _⟩
  · have H : Hid (chk1 p m = 1) := chk1_no (by simpa using h)
    have HI : Hid (¬ isM p m = true) := h
    clear hm hs h
    go_enter Try.func119, Try.ntmps119
    go_wp2_with (go_at_call 143; (with_reducible refine (checkOne_new p _ m cap lo tp w _ HM.out ht HS.out).mono ?_); rintro e w1 ⟨rfl, rfl⟩; rw [H.out])
    go_ret
    exact ⟨by unfold sqC; rw [if_neg HI.out]; rfl, (Below.refl _ _).alloc (Nat.le_refl _) _⟩

end Go.Proofs.Ytdamdlihicinlaa

namespace Go.Proofs.Ytdamdlihicinlaa
set_option linter.unusedVariables false

theorem rect_of {n : Nat} {p : Int} {m : List (List Int)} (h : Lst n p m) : Rect p m (rw' m 0).length where
  rows := by have := h.hi; omega
  cols := by
    by_cases h0 : 0 < m.length
    · have := h.c1 0 h0; omega
    · have e : m = [] := List.eq_nil_of_length_eq_zero (by omega)
      rw [e]; simp [rw']
  len := h.len
  num i hi := Nums.of (h.all i hi)

theorem tot_const {m : List (List Int)} {c : Nat} (h : ∀ i, i < m.length → (rw' m i).length = c) : ∀ {k : Nat}, k ≤ m.length → tot m k = k * c := by
  intro k
  induction k with
  | zero => intro _; simp [tot]
  | succ k ih => intro hk; simp only [tot]; rw [ih (by omega), h k (by omega), Nat.succ_mul]
theorem mk_size {n c : Nat} {f : Nat → Nat → Int} (hn : n ≤ 1024) (hc : c ≤ 1023) : (mk n c f).length + tot (mk n c f) (mk n c f).length ≤ 1048576 := by
  have h := tot_const (m := mk n c f) (c := c) (fun i hi => mk_rowLen f (by rwa [mk_len] at hi)) (k := n) (by rw [mk_len]; exact Nat.le_refl _)
  rw [mk_len, h]
  have : n * c ≤ 1024 * 1023 := Nat.mul_le_mul hn hc
  omega
theorem Lst.c16 {n : Nat} {p : Int} {m : List (List Int)} (h : Lst n p m) : (rw' m 0).length ≤ 16 := by
  by_cases h0 : 0 < m.length
  · exact h.c1 0 h0
  · have e : m = [] := List.eq_nil_of_length_eq_zero (by omega)
    rw [e]; simp [rw']
end Go.Proofs.Ytdamdlihicinlaa

namespace Go.Proofs.Ytdamdlihicinlaa
open Go.RowKit
set_option linter.unusedVariables false

open Classical in
/-- The reduced basis of what the rows make. -/
noncomputable def bas (p : Int) (A : List (List Int)) : List (List Int) := if h : ∃ m, IsBas p (rw' A 0).length A m then Classical.choose h else []
theorem bas_eq {p : Int} {A m : List (List Int)} (hp : 1 < p) (h : IsBas p (rw' A 0).length A m) : m = bas p A := by
  unfold bas
  rw [dif_pos ⟨m, h⟩]
  exact h.unique hp (Classical.choose_spec (⟨m, h⟩ : ∃ m, IsBas p (rw' A 0).length A m))
theorem bas_nil {p : Int} (hp : 1 < p) : bas p [] = [] := by
  refine (bas_eq hp (m := []) ⟨fun i hi => by simp at hi, ⟨fun _ => 0, ?_⟩, fun x => Iff.rfl⟩).symm
  constructor <;> intros <;> simp at * <;> omega
noncomputable def basV (p : Int) (m : List (List Int)) : List (List Int) := if isL 0 p m = true then bas p m else []
noncomputable def rankV (p : Int) (m : List (List Int)) : Int := if isM p m = true then ((bas p m).length : Int) else 0
def chk0 (p : Int) (m : List (List Int)) : Int := if isL 0 p m = true then 0 else 1
theorem chk0_yes {p : Int} {m : List (List Int)} (h : isL 0 p m = true) : chk0 p m = 0 := if_pos h
theorem chk0_no {p : Int} {m : List (List Int)} (h : isL 0 p m = false) : chk0 p m = 1 := if_neg (by simp [h])
theorem isL_pos {p : Int} {m : List (List Int)} (h : 0 < m.length) : isL 0 p m = isM p m := by
  have e : isL 0 p m = true ↔ isM p m = true :=
    ⟨fun k => isL_iff.2 { isL_iff.1 k with lo := h }, fun k => isL_iff.2 { isL_iff.1 k with lo := Nat.zero_le _ }⟩
  by_cases k : isL 0 p m = true
  · rw [k, e.1 k]
  · have k2 : ¬ isM p m = true := fun j => k (e.2 j)
    rw [Bool.not_eq_true] at k k2
    rw [k, k2]
theorem isL_nil {p : Int} : isL 0 p [] = prm p := by
  by_cases hp : prm p = true
  · rw [hp]; exact isL_iff.2 ⟨hp, Nat.zero_le _, by simp, fun i hi => by simp at hi, fun i hi => by simp at hi, fun i hi => by simp at hi, fun i hi => by simp at hi⟩
  · have hp : prm p = false := by simpa using hp
    rw [hp]; exact isM_nprime hp

theorem l01Own2_nil (a : Option Addr) (ca : Nat) (w : World) :
    Calls Try.prog 159 #[.slice a 0 ca] w fun e w' => ∃ r k, e = .returned (.slice r 0 k) ∧ Below w.heap.size w w' := by
  have h := l01Own2_any a ([] : List (List Int)) ca 0 0 w (.inl rfl) (Nat.zero_le _) (by simp) (fun i hi => by simp at hi)
  refine h.mono ?_
  rintro e w' ⟨r, k, rfl, _, hb⟩
  exact ⟨r, k, rfl, hb⟩
set_option maxHeartbeats 800000 in
theorem l02Basis_nil (p : Int) (a : Option Addr) (ca : Nat) (w : World) :
    Calls Try.prog 162 #[.int .i64 p, .slice a 0 ca] w fun e w' => ∃ r k, e = .returned (.slice r 0 k) ∧ Below w.heap.size w w' := by
  go_enter Try.func162, Try.ntmps162
  go_wp2_with (go_at_call 159; (with_reducible refine (l01Own2_nil _ _ _).mono ?_); rintro e w1 ⟨r, k, rfl, hb1⟩; have HB := Lib.hid hb1; clear hb1)
  go_loopw [6, 7] (fun s t wr => s = .int .i64 0 ∧ t = .int .i64 0 ∧ wr = w1) (fun _ _ _ => 0)
  case atStart => exact ⟨rfl, rfl, rfl⟩
  case round =>
    obtain ⟨rfl, rfl, rfl⟩ := hrel
    go_wp2
    go_ret
    exact ⟨_, _, rfl, HB.out⟩

/-- The reduced basis in new memory. -/
def NewBas (p : Int) (A : List (List Int)) (w : World) (e : Ending) (w' : World) : Prop :=
  ∃ r k, e = .returned (.slice r (bas p A).length k) ∧ MatIn w.heap.size w'.heap.size w' r (bas p A) ∧ Below w.heap.size w w' ∧ IsBas p (rw' A 0).length A (bas p A)
theorem basis_any (p : Int) (a : Option Addr) (A : List (List Int)) (ca lo tp : Nat) (w : World) (hm : MatIn lo tp w a A) (ht : tp ≤ w.heap.size) (hA : isL 0 p A = true) :
    Calls Try.prog 162 #[.int .i64 p, .slice a A.length ca] w (NewBas p A w) := by
  have hL := isL_iff.1 hA
  have hp := (prm_bd hL.prime).1
  by_cases h0 : A = []
  · subst h0
    refine (l02Basis_nil p a ca w).mono ?_
    rintro e w' ⟨r, k, rfl, hb⟩
    have e0 := bas_nil (p := p) (by omega)
    refine ⟨r, k, by rw [e0]; rfl, by rw [e0]; exact .inl rfl, hb, ?_⟩
    rw [e0]
    refine ⟨fun i hi => by simp at hi, ⟨fun _ => 0, ?_⟩, fun x => Iff.rfl⟩
    constructor <;> intros <;> simp at * <;> omega
  · have h1 : 0 < A.length := List.length_pos_iff.2 h0
    have hR := rect_of hL
    have hc := hL.c0 0 h1
    have hc16 := hL.c16
    refine (l02Basis_any p a A ca lo tp (rw' A 0).length w hL.prime hm ht h1 (by have := hL.hi; omega) (by omega) (by omega) hL.len (fun i hi j hj => hR.at hi hj)).mono ?_
    rintro e w' ⟨r, k, m, rfl, hM, hB, hb⟩
    have e1 := bas_eq (by omega) hB
    subst e1
    exact ⟨r, k, rfl, hM, hb, hB⟩
theorem Rref.rows_le {p : Int} {n c : Nat} {R : Nat → Nat → Int} {P : Nat → Nat} (h : Rref p n c R P) : n ≤ c := by
  have key : ∀ i, i < n → i ≤ P i := by
    intro i
    induction i with
    | zero => intro _; exact Nat.zero_le _
    | succ i ih => intro hi; have := ih (by omega); have := h.mono i (i + 1) (by omega) hi; omega
  by_cases h0 : n = 0
  · omega
  · have := key (n - 1) (by omega); have := h.pv (n - 1) (by omega); omega
theorem bas_small {p : Int} {A : List (List Int)} (hA : isL 0 p A = true) (h : IsBas p (rw' A 0).length A (bas p A)) : (bas p A).length ≤ 1024 ∧ ∀ i, i < (bas p A).length → 0 < (rw' (bas p A) i).length ∧ (rw' (bas p A) i).length ≤ 1024 := by
  have hL := isL_iff.1 hA
  have hc16 := hL.c16
  obtain ⟨P, hP⟩ := h.red
  have hle : (bas p A).length ≤ (rw' A 0).length := hP.rows_le
  refine ⟨by omega, fun i hi => ?_⟩
  rw [h.len i hi]
  omega

end Go.Proofs.Ytdamdlihicinlaa

namespace Go.Proofs.Ytdamdlihicinlaa
set_option linter.unusedVariables false

/-- Where the first number other than 0 stands. -/
def fstN (z : List Int) : Nat := z.findIdx (fun x => x != 0)
theorem fstN_le (z : List Int) : fstN z ≤ z.length := List.findIdx_le_length
theorem fstN_eq {z : List Int} {q : Nat} (hq : q < z.length) (h1 : z.getD q 0 ≠ 0) (h0 : ∀ j, j < q → z.getD j 0 = 0) : fstN z = q := by
  unfold fstN
  rw [List.findIdx_eq hq]
  refine ⟨by simpa [List.getD, hq] using h1, fun j hj => ?_⟩
  have := h0 j hj
  have hj' : j < z.length := by omega
  simp [List.getD, hj'] at this
  simp [this]
theorem fstN_lt {z : List Int} (h : fstN z < z.length) : z.getD (fstN z) 0 ≠ 0 := by
  have h1 := List.findIdx_getElem (xs := z) (p := fun x => x != 0) (w := h)
  have h2 : z.getD (fstN z) 0 = z[z.findIdx (fun x => x != 0)]'h := by unfold fstN at h ⊢; simp [List.getD, h]
  rw [h2]
  exact (bne_iff_ne).1 h1
/-- The places of the first numbers of rows. -/
def pvs (B : List (List Int)) (i : Nat) : Nat := fstN (rw' B i)
theorem Rref.pvs {p : Int} {c : Nat} {B : List (List Int)} {P : Nat → Nat} (h : Rref p B.length c (at' B) P) (hl : ∀ i, i < B.length → (rw' B i).length = c) {i : Nat} (hi : i < B.length) : Go.Proofs.Ytdamdlihicinlaa.pvs B i = P i := by
  unfold Go.Proofs.Ytdamdlihicinlaa.pvs
  refine fstN_eq (by rw [hl i hi]; exact h.pv i hi) ?_ (fun j hj => h.fst i hi j hj)
  have := h.one i hi
  unfold at' at this
  rw [this]; decide
theorem Rref.congrP {p : Int} {n c : Nat} {R : Nat → Nat → Int} {P P' : Nat → Nat} (h : Rref p n c R P) (e : ∀ i, i < n → P' i = P i) : Rref p n c R P' where
  pv i hi := by rw [e i hi]; exact h.pv i hi
  mono i i' hi hi' := by rw [e i (by omega), e i' hi']; exact h.mono i i' hi hi'
  one i hi := by rw [e i hi]; exact h.one i hi
  zer i hi i' hi' hne := by rw [e i hi]; exact h.zer i hi i' hi' hne
  fst i hi j hj := by rw [e i hi] at hj; exact h.fst i hi j hj
  rng := h.rng
theorem IsBas.pivs {p : Int} {c : Nat} {A B : List (List Int)} (h : IsBas p c A B) : Rref p B.length c (at' B) (pvs B) := by
  obtain ⟨P, hP⟩ := h.red
  exact hP.congrP (fun i hi => hP.pvs h.len hi)

/-- Whether a column is a pivot. -/
def isPv (P : Nat → Nat) (n k : Nat) : Bool := (List.range n).any fun i => P i == k
theorem isPv_iff {P : Nat → Nat} {n k : Nat} : isPv P n k = true ↔ ∃ i, i < n ∧ P i = k := by
  unfold isPv
  rw [List.any_eq_true]
  constructor
  · rintro ⟨i, hi, h⟩; exact ⟨i, List.mem_range.1 hi, by simpa using h⟩
  · rintro ⟨i, hi, h⟩; exact ⟨i, List.mem_range.2 hi, by simpa using h⟩
theorem isPv_no {P : Nat → Nat} {n k : Nat} (h : isPv P n k = false) {i : Nat} (hi : i < n) : P i ≠ k := fun e => by
  rw [isPv_iff.2 ⟨i, hi, e⟩] at h; cases h

/-- The vector of column k after i of the rows. -/
def kvec (p : Int) (B : List (List Int)) (P : Nat → Nat) (c i k : Nat) : List Int := mkR c fun j => kv i (at' B) P k j % p
theorem kv_zero (R : Nat → Nat → Int) (P : Nat → Nat) (k j : Nat) : kv 0 R P k j = if j = k then 1 else 0 := by simp [kv, sm]
theorem kv_succ (i : Nat) (R : Nat → Nat → Int) (P : Nat → Nat) (k j : Nat) : kv (i + 1) R P k j = kv i R P k j + (if j = P i then - R i k else 0) := by
  simp only [kv, sm]; omega
theorem kv_before {p : Int} {n c : Nat} {R : Nat → Nat → Int} {P : Nat → Nat} (h : Rref p n c R P) {i k : Nat} (hi : i < n) (hk : P i ≠ k) : kv i R P k (P i) = 0 := by
  have e : sm i (fun i' => if P i = P i' then - R i' k else 0) = sm i (fun _ => 0) := sm_congr (fun i' hi' => by
    have := h.mono i' i hi' hi
    rw [if_neg (by omega)])
  unfold kv
  rw [e, sm_zero, if_neg hk]; rfl
theorem kvec_step {p : Int} {c : Nat} {B : List (List Int)} {P : Nat → Nat} {n i k : Nat} (h : Rref p n c (at' B) P) (hi : i < n) (hk : P i ≠ k) {j : Nat} (hj : j < c) :
    kv (i + 1) (at' B) P k j % p = if j = P i then (p - at' B i k) % p else kv i (at' B) P k j % p := by
  rw [kv_succ]
  by_cases e : j = P i
  · subst e
    rw [if_pos rfl, if_pos rfl, kv_before h hi hk, Int.zero_add, Int.sub_eq_add_neg, Int.add_emod p, Int.emod_self, Int.zero_add, Int.emod_emod]
  · rw [if_neg e, if_neg e, Int.add_zero]
/-- The vectors of the first k columns that are no pivots. -/
def kerN (p : Int) (B : List (List Int)) (P : Nat → Nat) (c n : Nat) : Nat → List (List Int)
  | 0 => []
  | k + 1 => if isPv P n k = true then kerN p B P c n k else kerN p B P c n k ++ [kvec p B P c n k]
theorem kerN_pv {p : Int} {B : List (List Int)} {P : Nat → Nat} {c n k : Nat} (h : isPv P n k = true) : kerN p B P c n (k + 1) = kerN p B P c n k := if_pos h
theorem kerN_no {p : Int} {B : List (List Int)} {P : Nat → Nat} {c n k : Nat} (h : isPv P n k = false) : kerN p B P c n (k + 1) = kerN p B P c n k ++ [kvec p B P c n k] := if_neg (by simp [h])
theorem kerN_len (p : Int) (B : List (List Int)) (P : Nat → Nat) (c n k : Nat) : (kerN p B P c n k).length ≤ k := by
  induction k with
  | zero => simp [kerN]
  | succ k ih =>
    cases h : isPv P n k with
    | true => rw [kerN_pv h]; omega
    | false => rw [kerN_no h]; simp; omega
theorem kerN_mem {p : Int} {B : List (List Int)} {P : Nat → Nat} {c n k : Nat} {z : List Int} (h : z ∈ kerN p B P c n k) : ∃ k', k' < k ∧ z = kvec p B P c n k' := by
  induction k with
  | zero => simp [kerN] at h
  | succ k ih =>
    cases e : isPv P n k with
    | true => rw [kerN_pv e] at h; obtain ⟨k', h1, h2⟩ := ih h; exact ⟨k', by omega, h2⟩
    | false =>
      rw [kerN_no e] at h
      rcases List.mem_append.1 h with h | h
      · obtain ⟨k', h1, h2⟩ := ih h; exact ⟨k', by omega, h2⟩
      · exact ⟨k, by omega, by simpa using h⟩
theorem kerN_congr {p : Int} {B : List (List Int)} {P P' : Nat → Nat} {c n : Nat} (e : ∀ i, i < n → P i = P' i) (k : Nat) : kerN p B P c n k = kerN p B P' c n k := by
  have e1 : ∀ k, isPv P n k = isPv P' n k := fun k => by
    unfold isPv
    apply Bool.eq_iff_iff.2
    rw [List.any_eq_true, List.any_eq_true]
    constructor <;> rintro ⟨i, hi, h⟩ <;> refine ⟨i, hi, ?_⟩
    · rw [← e i (List.mem_range.1 hi)]; exact h
    · rw [e i (List.mem_range.1 hi)]; exact h
  have e2 : ∀ k, kvec p B P c n k = kvec p B P' c n k := fun k => by
    unfold kvec
    apply mkR_congr
    intro j _
    unfold kv
    rw [sm_congr (fun i hi => by rw [e i hi])]
  induction k with
  | zero => rfl
  | succ k ih => simp only [kerN]; rw [ih, e1, e2]
theorem kerN_lst {p : Int} {B : List (List Int)} {P : Nat → Nat} {c n k : Nat} (hp : prm p = true) (hc : 1 ≤ c) (hc2 : c ≤ 16) (hk : k ≤ c) : Lst 0 p (kerN p B P c n k) := by
  have hpb := prm_bd hp
  have hl := kerN_len p B P c n k
  have key : ∀ i, i < (kerN p B P c n k).length → ∃ k', rw' (kerN p B P c n k) i = kvec p B P c n k' := fun i hi => by
    obtain ⟨k', _, h⟩ := kerN_mem (mem_row hi)
    exact ⟨k', h⟩
  have hlen : ∀ i, i < (kerN p B P c n k).length → (rw' (kerN p B P c n k) i).length = c := fun i hi => by
    obtain ⟨k', h⟩ := key i hi
    rw [h]; exact mkR_len _ _
  refine ⟨hp, Nat.zero_le _, by omega, fun i hi => ?_, fun i hi => ?_, fun i hi => ?_, fun i hi => ?_⟩
  · rw [hlen i hi, hlen 0 (by omega)]
  · rw [hlen i hi]; exact hc
  · rw [hlen i hi]; exact hc2
  · obtain ⟨k', h⟩ := key i hi
    rw [h, List.all_eq_true]
    intro x hx
    unfold kvec mkR at hx
    obtain ⟨j, _, rfl⟩ := List.mem_map.1 hx
    have h0 := Int.emod_nonneg (kv n (at' B) P k' j) (by omega : p ≠ 0)
    have h1 := Int.emod_lt_of_pos (kv n (at' B) P k' j) (by omega : 0 < p)
    simp [inr, h0, h1]

end Go.Proofs.Ytdamdlihicinlaa

namespace Go.Proofs.Ytdamdlihicinlaa
set_option linter.unusedVariables false

/-- Rows with the rows of others behind them. -/
def bes (A O : List (List Int)) : List (List Int) := (List.range A.length).map fun i => rw' A i ++ rw' O i
theorem bes_len (A O : List (List Int)) : (bes A O).length = A.length := by simp [bes]
theorem bes_row {A O : List (List Int)} {i : Nat} (h : i < A.length) : rw' (bes A O) i = rw' A i ++ rw' O i := by simp [bes, rw', List.getD, h]
theorem bes_at {A O : List (List Int)} {i j c : Nat} (h : i < A.length) (hc : (rw' A i).length = c) : at' (bes A O) i j = if j < c then at' A i j else at' O i (j - c) := by
  unfold at'
  rw [bes_row h]
  simp only [List.getD_eq_getElem?_getD]
  split
  · rename_i e; rw [List.getElem?_append_left (by omega)]
  · rename_i e; rw [List.getElem?_append_right (by omega), hc]
/-- A column behind the rows. -/
def col (v : List Int) : List (List Int) := (List.range v.length).map fun i => [v.getD i 0]
theorem col_len (v : List Int) : (col v).length = v.length := by simp [col]
theorem col_row {v : List Int} {i : Nat} (h : i < v.length) : rw' (col v) i = [v.getD i 0] := by simp [col, rw', List.getD, h]
theorem col_tr (v : List Int) : trM [v] = col v := by
  unfold trM col mk
  show (List.range v.length).map _ = _
  apply List.map_congr_left
  intro i _
  simp [mkR, at', rw']
/-- Rows of one length with numbers of the prime, at least one, longer ones too. -/
structure RowsX (p : Int) (c : Nat) (A : List (List Int)) : Prop where
  prime : prm p = true
  lo : 0 < A.length
  hi : A.length ≤ 1024
  c0 : 1 ≤ c
  c1 : c ≤ 1024
  len : ∀ i, i < A.length → (rw' A i).length = c
  rng : ∀ i, i < A.length → ∀ j, j < c → 0 ≤ at' A i j ∧ at' A i j < p
theorem RowsX.len0 {p : Int} {c : Nat} {A : List (List Int)} (h : RowsX p c A) : (rw' A 0).length = c := h.len 0 h.lo
theorem bes_rows {p : Int} {A O : List (List Int)} {d : Nat} (h : Lst 1 p A) (hO : ∀ i, i < A.length → (rw' O i).length = d) (hd : d ≤ 64) (hr : ∀ i, i < A.length → ∀ j, j < d → 0 ≤ at' O i j ∧ at' O i j < p) : RowsX p ((rw' A 0).length + d) (bes A O) where
  prime := h.prime
  lo := by rw [bes_len]; exact h.lo
  hi := by rw [bes_len]; have := h.hi; omega
  c0 := by have := h.c0 0 h.lo; omega
  c1 := by have := h.c1 0 h.lo; omega
  len i hi := by
    rw [bes_len] at hi
    rw [bes_row hi, List.length_append, h.len i hi, hO i hi]
  rng i hi j hj := by
    rw [bes_len] at hi
    have hl : (rw' A i).length = (rw' A 0).length := h.len i hi
    rw [bes_at hi hl]
    split
    · rename_i e; exact h.at hi e
    · exact hr i hi _ (by omega)
theorem col_rows {p : Int} {A : List (List Int)} {v : List Int} (h : Lst 1 p A) (hl : v.length = A.length) (hv : v.all (inr p) = true) : RowsX p ((rw' A 0).length + 1) (bes A (col v)) := by
  refine bes_rows h (fun i hi => by rw [col_row (by omega)]; rfl) (by omega) (fun i hi j hj => ?_)
  have e : at' (col v) i j = v.getD i 0 := by
    have : j = 0 := by omega
    subst this
    unfold at'; rw [col_row (by omega)]; rfl
  rw [e]
  rw [List.all_eq_true] at hv
  have hi' : i < v.length := by omega
  have hm : v.getD i 0 ∈ v := by simp [List.getD, hi']
  exact inr_iff.1 (hv _ hm)

/-- The numbers of a solution after i rows: c is the place of the right side. -/
def solvec (B : List (List Int)) (P : Nat → Nat) (c i : Nat) : List Int := mkR c fun j => sm i fun i' => if j = P i' then at' B i' c else 0
theorem solvec_len (B : List (List Int)) (P : Nat → Nat) (c i : Nat) : (solvec B P c i).length = c := mkR_len _ _
theorem solvec_zero (B : List (List Int)) (P : Nat → Nat) (c : Nat) : solvec B P c 0 = mkR c fun _ => 0 := rfl
noncomputable def solB (p : Int) (A : List (List Int)) (v : List Int) : List (List Int) := bas p (bes A (col v))
noncomputable def solOk (p : Int) (A : List (List Int)) (v : List Int) : Bool := !isPv (pvs (solB p A v)) (solB p A v).length (rw' A 0).length
noncomputable def solL (p : Int) (A : List (List Int)) (v : List Int) : List Int := if solOk p A v = true then solvec (solB p A v) (pvs (solB p A v)) (rw' A 0).length (solB p A v).length else []

end Go.Proofs.Ytdamdlihicinlaa

namespace Go.Proofs.Ytdamdlihicinlaa
open Go.RowKit
set_option linter.unusedVariables false

set_option maxRecDepth 100000 in
set_option maxHeartbeats 3200000 in
theorem l02Turn_any (a : Option Addr) (m : List (List Int)) (ca lo tp : Nat) (w : World) (hm : MatIn lo tp w a m) (ht : tp ≤ w.heap.size) (h0 : 0 < m.length) (hc : ∀ i, i < m.length → (rw' m i).length = (rw' m 0).length) (hn : m.length ≤ 1024) (hn2 : (rw' m 0).length ≤ 1024) :
    Calls Try.prog 169 #[.slice a m.length ca] w (NewM (trM m) w) := by
  obtain ⟨i0, hi, hz0, hz1, hz2⟩ := info_parts info64
  obtain ⟨j0, kj, kz0, kz1, kz2⟩ := info_parts info_slice
  have HM := Lib.hid hm
  have HC := Lib.hid hc
  obtain ⟨b, o, r0, c0, ha, _, hb, hr0, _⟩ := HM.out.row h0
  subst ha
  rw [Nat.add_zero] at hr0
  have HR0 := Lib.hid hr0
  obtain ⟨c, hcc⟩ : ∃ c, c = (rw' m 0).length := ⟨_, rfl⟩
  rw [← hcc] at hn2 hr0
  have HCC := Lib.hid hcc
  have hb' : b < w.heap.size := Nat.lt_of_lt_of_le hb ht
  clear hm hc hcc
  go_enter Try.func169, Try.ntmps169
  go_wp2
  go_loopw [3, 4] (fun v t wr => ∃ k : Nat, k ≤ c ∧ t = .int .i64 k ∧ OutM w.heap.size wr v (mk k m.length fun k i => at' m i k) ∧ Below w.heap.size w wr) (fun _ t _ => c - (intOf t).toNat)
  case atStart => exact ⟨0, Nat.zero_le _, rfl, OutM.start w _ _ (Nat.le_refl _) rfl, by ((repeat' (first | with_reducible exact Below.refl _ _ | (with_reducible refine Below.setCell ?_ ?_ _) | (with_reducible refine Below.alloc ?_ ?_ _) | (with_reducible refine Below.drew ?_))); all_goals (first | (simp; done) | omega | (simp; omega)))⟩
  case round =>
    obtain ⟨k, hk, rfl, ho, hbel⟩ := hrel
    have HO := Lib.hid ho
    have HBEL := Lib.hid hbel
    have hwz := hbel.size
    have hr0 := (hbel.cell (p := ⟨b, o, none⟩) hb').trans hr0
    rename World => wo
    clear ho
    by_cases hlt : k < c
    · have hk1 : (k : Int) < (c : Int) := by omega
      clear hbel
      go_wp2
      go_loopw [5, 6] (fun v t wr => ∃ i : Nat, i ≤ m.length ∧ t = .int .i64 i ∧ OutR wo.heap.size wr v (mkR i fun i => at' m i k) ∧ Below wo.heap.size wo wr) (fun _ t _ => m.length - (intOf t).toNat)
      case atStart => exact ⟨0, Nat.zero_le _, rfl, OutR.start wo _ _ (Nat.le_refl _) rfl, by ((repeat' (first | with_reducible exact Below.refl _ _ | (with_reducible refine Below.setCell ?_ ?_ _) | (with_reducible refine Below.alloc ?_ ?_ _) | (with_reducible refine Below.drew ?_))); all_goals (first | (simp; done) | omega | (simp; omega)))⟩
      case round =>
        obtain ⟨i, hi', rfl, hoi, hbi⟩ := hrel
        have HOI := Lib.hid hoi
        have HBI := Lib.hid hbi
        have hwi := hbi.size
        clear hoi hr0
        by_cases hlti : i < m.length
        · have hbw := HBEL.out.trans (HBI.out.mono hwz)
          obtain ⟨b1, o1, r, c1, ha1, _, hb1, hr1, hrow⟩ := (HM.out.below hbw ht).row hlti
          cases ha1
          have hcl := HC.out i hlti
          rw [← HCC.out] at hcl
          obtain ⟨b2, o2, ha2, _, hb2, hc2⟩ := hrow.num (j := k) (by omega)
          subst ha2
          rw [hcl] at hr1
          have HS : Hid (mkR (i + 1) (fun i => at' m i k) = mkR i (fun i => at' m i k) ++ [(rw' m i).getD k 0]) := mkR_succ _ _
          obtain ⟨x, hx⟩ : ∃ x, x = (rw' m i).getD k 0 := ⟨_, rfl⟩
          rw [← hx] at hc2 HS
          obtain ⟨X, hX⟩ : ∃ X, X = (mkR i (fun i => at' m i k)).map (Value.int .i64) := ⟨_, rfl⟩
          have HX := Lib.hid hX
          have HO2 : Hid (wr.ownsRow wo.heap.size 2 1 u5 i X) := by
            have := HOI.out; unfold OutR at this; rw [mkR_len, ← hX] at this; exact this
          clear hX hx hcl hrow hbw hbi
          go_wp2_with (at_builtin; refine wpList_append_lies _ rfl _ _ 22 rfl wo.heap.size 2 i0 (.int .i64 0) 1 8 Try.underlying22 hi hz0 hz1 hz2 rfl (by decide) u5 i X rfl (HO2.out.alloc _) ⟨wr.heap.size, 0, none⟩ 1 1 [.int .i64 x] rfl rfl (World.news_of_block (cs := #[.int .i64 x]) (t := 2) (fr := (0, 0)) (heap_alloc_new wr _)) (by simp [Value.oneCell']) (by omega) (by unfold maxLen; omega) (by omega) (by simp; omega) (wr.heap.size + 1) (by simp) ?_; intro gg cap w1 hown1 hgrow hat hlt1)
          go_wp2
          go_roundw
          case rel => exact ⟨i + 1, by omega, by go_num, OutR.step HO2.out HX.out HS.out hown1, (HBI.out.alloc hwi _).grown hgrow (by simp; omega) (fun _ hk => (HO2.out.lt _ hk).1)⟩
          case measure => simp [intOf]; omega
        · have hn : i = m.length := by omega
          subst hn
          obtain ⟨r, cp, hv, htag⟩ := HOI.out.tag
          rw [mkR_len] at hv
          subst hv
          obtain ⟨vals, hvo, hvr⟩ := HO.out.below HBI.out
          rw [mk_len] at hvo hvr
          have HV := Lib.hid hvo
          have HVR := Lib.hid hvr
          have HT := Lib.hid htag
          clear hvo hvr htag hbi
          go_wp2_with (at_builtin; refine wpList_append_lies _ rfl _ _ 63 rfl w.heap.size 22 j0 (.slice none 0 0) 1 24 Try.underlying63 kj kz0 kz1 kz2 rfl (by decide) u3 k vals rfl (HV.out.alloc _) ⟨wr.heap.size, 0, none⟩ 1 1 [.slice r m.length cp] rfl rfl (World.news_of_block (cs := #[.slice r m.length cp]) (t := 22) (fr := (0, 0)) (heap_alloc_new wr _)) (by simp [Value.oneCell']) (by omega) (by unfold maxLen; omega) (by omega) (by simp; omega) (wr.heap.size + 1) (by simp) ?_; intro gg cap w1 hown1 hgrow hat hlt1)
          go_wp2
          go_roundw
          case rel => exact ⟨k + 1, by omega, by go_num, OutM.next HV.out HVR.out HT.out rfl hwz hown1 hgrow, ((HBEL.out.trans (HBI.out.mono hwz)).alloc (by omega) _).grown hgrow (by simp; omega) (fun _ hk => (HV.out.lt _ hk).1)⟩
          case measure => simp [intOf]; omega
    · have hn : k = c := by omega
      subst hn
      have HE : Hid (trM m = mk k m.length fun k i => at' m i k) := by show trM m = _; unfold trM; rw [← HCC.out]
      clear hbel
      go_wp2
      go_ret
      rw [HE.out]
      exact HO.out.new HBEL.out

end Go.Proofs.Ytdamdlihicinlaa

namespace Go.Proofs.Ytdamdlihicinlaa
open Go.RowKit Go.ChangeShapes Go.WideShapes
set_option linter.unusedVariables false

/-- i rows are there: row j in blocks from lo j up to tp j, behind block b and behind those of the rows before it. -/
structure HalfG (w : World) (b i : Nat) (m : List (List Int)) (A : Nat → Option Addr) (C lo tp : Nat → Nat) : Prop where
  lt : b < w.heap.size
  done : ∀ j, j < i → w.cell? ⟨b, j, none⟩ = some (.slice (A j) (rw' m j).length (C j))
  rest : ∀ j, i ≤ j → j < m.length → w.cell? ⟨b, j, none⟩ = some (.slice none 0 0)
  free : ∀ j, w.frozen? ⟨b, j, none⟩ = false
  rows : ∀ j, j < i → OwnR (lo j) (tp j) w (A j) (rw' m j) ∧ b < lo j ∧ tp j ≤ w.heap.size
  apart : ∀ j j', j < j' → j' < i → tp j ≤ lo j'
theorem HalfG.start (w : World) (m : List (List Int)) (t : TypeId) (A : Nat → Option Addr) (C lo tp : Nat → Nat) : HalfG (w.alloc (.cells (madeCells #[.slice none 0 0] m.length) t)) w.heap.size 0 m A C lo tp where
  lt := by simp
  done j hj := by omega
  rest j _ hj := by
    have h := World.cell?_alloc_new (w := w) (madeCells #[.slice none 0 0] m.length) t j
    rw [h]
    simp [madeCells, hj, Nat.mod_one]
  free j := by simp [go_sem]
  rows j hj := by omega
  apart j j' _ hj := by omega
/-- One row more. -/
theorem HalfG.next {w w1 : World} {b i : Nat} {m : List (List Int)} {A : Nat → Option Addr} {C lo tp : Nat → Nat} {r : Option Addr} {c T : Nat} (h : HalfG w b i m A C lo tp) (hi : i < m.length)
    (hk : ∀ k, k < w.heap.size → k ≠ b → w1.heap[k]? = w.heap[k]?) (hs : w.heap.size ≤ w1.heap.size) (hT : T ≤ w1.heap.size)
    (hci : w1.cell? ⟨b, i, none⟩ = some (.slice r (rw' m i).length c)) (hc : ∀ j, j ≠ i → w1.cell? ⟨b, j, none⟩ = w.cell? ⟨b, j, none⟩) (hf : ∀ j, w1.frozen? ⟨b, j, none⟩ = false)
    (hr : OwnR w.heap.size T w1 r (rw' m i)) :
    HalfG w1 b (i + 1) m (fun j => if j = i then r else A j) (fun j => if j = i then c else C j) (fun j => if j = i then w.heap.size else lo j) (fun j => if j = i then T else tp j) where
  lt := Nat.lt_of_lt_of_le h.lt hs
  done j hj := by
    by_cases e : j = i
    · subst e; simp only [if_pos]; exact hci
    · simp only [if_neg e]; exact (hc j e).trans (h.done j (by omega))
  rest j hj hl := (hc j (by omega)).trans (h.rest j (by omega) hl)
  free := hf
  rows j hj := by
    by_cases e : j = i
    · subst e; simp only [if_pos]; exact ⟨hr, h.lt, hT⟩
    · simp only [if_neg e]
      obtain ⟨h1, h2, h3⟩ := h.rows j (by omega)
      exact ⟨h1.same (fun k k0 k1 => hk k (by omega) (by omega)), h2, by omega⟩
  apart j j' hj hj' := by
    have e : ¬ j = i := by omega
    simp only [if_neg e]
    by_cases e' : j' = i
    · simp only [if_pos e']; exact (h.rows j (by omega)).2.2
    · simp only [if_neg e']; exact h.apart j j' hj (by omega)
def blk (a : Option Addr) : Nat := match a with | some a => a.block | none => 0
def ofs (a : Option Addr) : Nat := match a with | some a => a.off | none => 0
theorem OwnR.at {lo tp : Nat} {w : World} {a : Option Addr} {zs : List Int} (h : OwnR lo tp w a zs) {j : Nat} (hj : j < zs.length) : a = some ⟨blk a, ofs a, none⟩ ∧ lo ≤ blk a ∧ blk a < tp ∧ w.cell? ⟨blk a, ofs a + j, none⟩ = some (.int .i64 (zs.getD j 0)) ∧ w.frozen? ⟨blk a, ofs a + j, none⟩ = false := by
  rcases h with h | ⟨b, o, rfl, h0, h1, hc⟩
  · rw [h] at hj; simp at hj
  · exact ⟨rfl, h0, h1, (hc j hj).1, (hc j hj).2⟩
theorem HalfG.own {w : World} {b : Nat} {m : List (List Int)} {A : Nat → Option Addr} {C lo tp : Nat → Nat} (h : HalfG w b m.length m A C lo tp) : OwnM b w.heap.size w (some ⟨b, 0, none⟩) m :=
  .inr ⟨⟨b, 0, A, fun j => blk (A j), fun j => ofs (A j), C⟩, rfl, {
    rng := fun _ => ⟨Nat.le_refl _, h.lt⟩
    top := fun i hi => by show w.cell? ⟨b, 0 + i, none⟩ = _; rw [Nat.zero_add]; exact h.done i hi
    row := fun i hi => by
      by_cases h0 : (rw' m i).length = 0
      · exact .inl h0
      · exact .inr ((h.rows i hi).1.at (j := 0) (by omega)).1
    rrng := fun i hi hl => by
      obtain ⟨h1, h2, h3⟩ := h.rows i hi
      have := h1.at (j := 0) hl
      exact ⟨by show b ≤ blk (A i); omega, by show blk (A i) < _; omega⟩
    cell := fun i hi j hj => ((h.rows i hi).1.at hj).2.2.2.1
    free := fun i hi j hj => ((h.rows i hi).1.at hj).2.2.2.2
    apart := fun i hi i' hi' hne j hj j' hj' e => by
      have h1 := (h.rows i hi).1.at hj
      have h2 := (h.rows i' hi').1.at hj'
      have e1 : blk (A i) = blk (A i') := e.1
      rcases Nat.lt_or_ge i i' with l | l
      · have := h.apart i i' l hi'; omega
      · have := h.apart i' i (by omega) hi; omega
    tops := fun i hi j hj i' hi' e => by
      obtain ⟨h1, h2, h3⟩ := h.rows i hi
      have := h1.at hj
      have e1 : blk (A i) = b := e.1
      omega }⟩

theorem RowOwn.block {w w' : World} {b o n : Nat} {f : Nat → Int} (h : RowOwn w b o n f) (e : w'.heap[b]? = w.heap[b]?) : RowOwn w' b o n f :=
  ⟨fun j hj => (World.cell?_of_block (w := w) (a := ⟨b, o + j, none⟩) e).trans (h.cell j hj), fun j hj => (World.frozen?_of_block (w := w) (a := ⟨b, o + j, none⟩) e).trans (h.free j hj)⟩
theorem RowOwn.far {w : World} {b o n : Nat} {f : Nat → Int} (h : RowOwn w b o n f) (c i : Nat) (v : Value) (hne : b ≠ c) : RowOwn (w.setCell ⟨c, i, none⟩ v) b o n f :=
  h.block (Below.heap_setCell _ _ _ _ hne)
/-- A new row is stored and rewritten in place. -/
theorem HalfG.fill {w w3 w5 : World} {b i g o n c : Nat} {m : List (List Int)} {A : Nat → Option Addr} {C lo tp : Nat → Nat} {f : Nat → Int} (h : HalfG w b i m A C lo tp) (hi : i < m.length)
    (hb : Below w.heap.size w w3) (hg0 : w.heap.size ≤ g) (hg1 : g < w3.heap.size) (hn : (rw' m i).length = n)
    (hw : Wrote g o n (w3.setCell ⟨b, i, none⟩ (.slice (some ⟨g, o, none⟩) n c)) w5) (hr : RowOwn w5 g o n f) (hf : ∀ j, j < n → (rw' m i).getD j 0 = f j) :
    HalfG w5 b (i + 1) m (fun j => if j = i then some ⟨g, o, none⟩ else A j) (fun j => if j = i then c else C j) (fun j => if j = i then w.heap.size else lo j) (fun j => if j = i then w3.heap.size else tp j) ∧ Below b w w5 := by
  have hlt := h.lt
  have hs := hb.size
  have hz : w5.heap.size = w3.heap.size := by rw [hw.size]; simp [World.setCell]
  have hbg : b ≠ g := by omega
  have hk : ∀ k, k < w.heap.size → k ≠ b → w5.heap[k]? = w.heap[k]? := fun k k0 k1 => (hw.block k (by omega)).trans ((Below.heap_setCell _ _ _ _ k1).trans (hb.block k k0))
  have out : ∀ j, w5.cell? ⟨b, j, none⟩ = (w3.setCell ⟨b, i, none⟩ (.slice (some ⟨g, o, none⟩) n c)).cell? ⟨b, j, none⟩ := fun j => World.cell?_of_block (w := w3.setCell ⟨b, i, none⟩ (.slice (some ⟨g, o, none⟩) n c)) (a := ⟨b, j, none⟩) (hw.block b hbg)
  have g0 := (hb.cell (p := ⟨b, i, none⟩) hlt).trans (h.rest i (Nat.le_refl _) hi)
  refine ⟨h.next hi hk (by omega) (by omega) ?_ (fun j hj => ?_) (fun j => ?_) ?_, ?_⟩
  · rw [out, hn]; exact World.cell?_setCell_same w3 _ _ g0
  · rw [out]; exact (World.cell?_setCell_other _ _ _ _ (fun e => hj (by injection e with _ e2; exact e2.symm))).trans (hb.cell (p := ⟨b, j, none⟩) hlt)
  · have h1 := World.frozen?_of_block (w := w3.setCell ⟨b, i, none⟩ (.slice (some ⟨g, o, none⟩) n c)) (w' := w5) (a := ⟨b, j, none⟩) (hw.block b hbg)
    rw [h1]
    have := (hb.frozen (p := ⟨b, j, none⟩) hlt).trans (h.free j)
    simp [go_sem, this]
  · exact .inr ⟨g, o, rfl, hg0, hg1, fun j hj => ⟨by rw [hf j (by omega)]; exact hr.cell j (by omega), hr.free j (by omega)⟩⟩
  · exact ⟨hw.os.trans hb.os, hw.tape.trans hb.tape, hw.output.trans hb.output, by omega, fun k k0 => hk k (by omega) (by omega)⟩

end Go.Proofs.Ytdamdlihicinlaa
