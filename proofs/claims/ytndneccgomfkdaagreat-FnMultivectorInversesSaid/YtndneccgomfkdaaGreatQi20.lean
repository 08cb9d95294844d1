/-
  What the program's and the model's checks of lists of numbers, matrices and lists of vectors return.
  Conditions: they are nil or rows of known cells.
  Checks of lists of vectors under one bound on all numbers.
  Conditions: they are nil or rows of known cells, of at most 1048576 numbers.
  What the program's checks of matrices return, and its new matrices of zeros.
  Conditions: the matrices are nil or rows of known cells.
  The reduced basis as a function of the rows; the model's SpanBasis and RankOf: contracts.
  Conditions: the list of vectors is a row of rows of known cells.
  Solutions of linear equations out of reduced rows. No Go in sight.
  No conditions.
  A solution that is read off the reduced rows solves. No Go in sight.
  No conditions.
  Inverses of multivectors: what solves one equation is the inverse on both sides. No Go in sight.
  No conditions.
-/
import Derived.Test.YtndneccgomfkdaaGreatQi8
import Derived.Test.YtndneccgomfkdaaGreatQi5
import Derived.Test.YtndneccgomfkdaaGreatQi3
import Derived.RegionTactic
import Derived.ChangeAlike
import Derived.Test.YtndneccgomfkdaaGreatQi1
import Derived.Test.YtndneccgomfkdaaGreatQi19
import Derived.Test.YtndneccgomfkdaaGreatQi11
import Derived.Test.YtndneccgomfkdaaGreatQi18
import Derived.Test.YtndneccgomfkdaaGreatQi17
namespace Go.Proofs.YtndneccgomfkdaaGreat
open Go.RowKit Go.ChangeShapes Go.WideShapes
set_option linter.unusedVariables false

theorem isM_nprime {p : Int} {n : Nat} {m : List (List Int)} (h : prm p = false) : isL n p m = false := not_isL fun k => by rw [k.prime] at h; cases h
theorem isM_nlen {p : Int} {n : Nat} {m : List (List Int)} (h : ¬ (n ≤ m.length ∧ m.length ≤ 16)) : isL n p m = false := not_isL fun k => h ⟨k.lo, k.hi⟩
theorem isM_nrow {p : Int} {n : Nat} {m : List (List Int)} {i : Nat} (hi : i < m.length) (h : ¬ (1 ≤ (rw' m i).length ∧ (rw' m i).length ≤ 16)) : isL n p m = false := not_isL fun k => h ⟨k.c0 i hi, k.c1 i hi⟩
theorem isM_ncol {p : Int} {n : Nat} {m : List (List Int)} {i : Nat} (hi : i < m.length) (h : ¬ (rw' m i).length = (rw' m 0).length) : isL n p m = false := not_isL fun k => h (k.len i hi)
theorem isM_nall {p : Int} {n : Nat} {m : List (List Int)} {i : Nat} (hi : i < m.length) (h : (rw' m i).all (inr p) = false) : isL n p m = false := not_isL fun k => by rw [k.all i hi] at h; cases h
/-- What has been seen of the first i rows. -/
def Seen (p : Int) (m : List (List Int)) (i : Nat) : Prop := ∀ i', i' < i → (rw' m i').length = (rw' m 0).length ∧ (1 ≤ (rw' m i').length ∧ (rw' m i').length ≤ 16) ∧ (rw' m i').all (inr p) = true
theorem Seen.zero (p : Int) (m : List (List Int)) : Seen p m 0 := fun i' h => by omega
theorem Seen.next {p : Int} {m : List (List Int)} {i : Nat} (h : Seen p m i) (h1 : (rw' m i).length = (rw' m 0).length) (h2 : 1 ≤ (rw' m i).length ∧ (rw' m i).length ≤ 16) (h3 : (rw' m i).all (inr p) = true) : Seen p m (i + 1) := by
  intro i' hi'
  by_cases e : i' = i
  · subst e; exact ⟨h1, h2, h3⟩
  · exact h i' (by omega)
theorem Seen.yes {p : Int} {n : Nat} {m : List (List Int)} {i : Nat} (h : Seen p m i) (hi : m.length ≤ i) (hp : prm p = true) (h1 : n ≤ m.length ∧ m.length ≤ 16) : isL n p m = true :=
  isL_iff.2 ⟨hp, h1.1, h1.2, fun j hj => (h j (by omega)).1, fun j hj => (h j (by omega)).2.1.1, fun j hj => (h j (by omega)).2.1.2, fun j hj => (h j (by omega)).2.2⟩
theorem neq_spell {a b : Nat} (h : ¬ a = b) : ((a : Int) == (b : Int)) = false ∧ ((a : Int) != (b : Int)) = true := by
  have : ¬ (a : Int) = (b : Int) := by omega
  simp [this]
set_option maxHeartbeats 1600000 in
theorem isRows_any (p : Int) (a : Option Addr) (m : List (List Int)) (n cap lo tp : Nat) (w : World) (hn1 : n ≤ 1) (hm : MatIn lo tp w a m) (h1 : m.length ≤ 9223372036854775807) (h2 : ∀ i, i < m.length → (rw' m i).length ≤ 9223372036854775807) :
    Calls Tryz.prog 144 #[.int .i64 p, .slice a m.length cap, .int .i64 n] w fun e w' => e = .returned (.bool (isL n p m)) ∧ w = w' := by
  have HM := Lib.hid hm
  have HL := Lib.hid h2
  clear hm h2
  by_cases hp : prm p = true
  · have HP := Lib.hid hp
    clear hp
    by_cases hn : n ≤ m.length ∧ m.length ≤ 16
    · have HN := Lib.hid hn
      have hd1 : decide (m.length < n) = false := by simp; omega
      have hn2 := hn.2
      clear hn
      go_enter Tryz.func144, Tryz.ntmps144
      go_wp2_with (go_at_call 145; refine (isPrime_any _ _).mono ?_; rintro e w' ⟨rfl, rfl⟩; rw [HP.out])
      clear hd1
      go_loop [25] (fun t => ∃ i : Nat, i ≤ m.length ∧ t = .int .i64 i ∧ Seen p m i) (fun t => m.length - (intOf t).toNat)
      case atStart => exact ⟨0, Nat.zero_le _, rfl, Seen.zero _ _⟩
      case round =>
        obtain ⟨i, hi, rfl, hs⟩ := hrel
        have HS := Lib.hid hs
        clear hs
        by_cases hlt : i < m.length
        · obtain ⟨b, o, r, c, ha, _, _, hr, hrow⟩ := HM.out.row hlt
          subst ha
          obtain ⟨b', o', r0, c0, ha, _, _, hr0, _⟩ := HM.out.row (i := 0) (by omega)
          cases ha
          rw [Nat.add_zero] at hr0
          have HR := Lib.hid hrow
          have hln := HL.out i hlt
          have hl0 := HL.out 0 (by omega)
          clear hrow
          by_cases hc : 1 ≤ (rw' m i).length ∧ (rw' m i).length ≤ 16
          · have HC := Lib.hid hc
            obtain ⟨hc1, hc2⟩ := hc
            by_cases hcol : (rw' m i).length = (rw' m 0).length
            · have HCol := Lib.hid hcol
              clear hcol
              rw [← HCol.out] at hr0 hl0
              by_cases hall : (rw' m i).all (inr p) = true
              · have HAll := Lib.hid (code_ok HP.out hall)
                have HA2 := Lib.hid hall
                clear hall
                go_wp2_with (go_at_call 103; (with_reducible refine (checkRow _ _ _ _ _ _ _ HP.out HR.out (by omega)).mono ?_); rintro e w' ⟨rfl, rfl⟩; rw [HAll.out])
                go_round
                case rel => exact ⟨i + 1, by omega, by go_num, HS.out.next HCol.out HC.out HA2.out⟩
                case measure => simp [intOf]; omega
              · have hall' : (rw' m i).all (inr p) = false := by simpa using hall
                have HAll := Lib.hid (code_bad HP.out hall')
                have HF := Lib.hid (isM_nall (n := n) hlt hall')
                clear hall hall'
                go_wp2_with (go_at_call 103; (with_reducible refine (checkRow _ _ _ _ _ _ _ HP.out HR.out (by omega)).mono ?_); rintro e w' ⟨rfl, rfl⟩; rw [HAll.out])
                go_ret
                exact ⟨by rw [HF.out]; rfl, rfl⟩
            · have HF := Lib.hid (isM_ncol (n := n) (p := p) hlt hcol)
              obtain ⟨e1, e2⟩ := neq_spell hcol
              clear hcol
              go_wp2
              go_ret
              exact ⟨by rw [HF.out]; rfl, rfl⟩
          · have HF := Lib.hid (isM_nrow (n := n) (p := p) hlt hc)
            by_cases hz : (rw' m i).length < 1
            · clear hc
              go_wp2
              go_ret
              exact ⟨by rw [HF.out]; rfl, rfl⟩
            · have hz2 : 16 < (rw' m i).length := by omega
              clear hc
              go_wp2
              go_ret
              exact ⟨by rw [HF.out]; rfl, rfl⟩
        · have HF := Lib.hid (HS.out.yes (n := n) (by omega) HP.out HN.out)
          go_wp2
          go_ret
          exact ⟨by rw [HF.out]; rfl, rfl⟩
    · have HF := Lib.hid (isM_nlen (p := p) hn)
      by_cases hz : m.length < n
      · have hd1 : decide (m.length < n) = true := by simp; omega
        clear hn
        go_enter Tryz.func144, Tryz.ntmps144
        go_wp2_with (go_at_call 145; refine (isPrime_any _ _).mono ?_; rintro e w' ⟨rfl, rfl⟩; rw [HP.out])
        go_ret
        exact ⟨by rw [HF.out]; rfl, rfl⟩
      · have hd1 : decide (m.length < n) = false := by simp; omega
        have hz2 : 16 < m.length := by omega
        clear hn
        go_enter Tryz.func144, Tryz.ntmps144
        go_wp2_with (go_at_call 145; refine (isPrime_any _ _).mono ?_; rintro e w' ⟨rfl, rfl⟩; rw [HP.out])
        go_ret
        exact ⟨by rw [HF.out]; rfl, rfl⟩
  · have hp' : prm p = false := by simpa using hp
    have HP := Lib.hid hp'
    have HF := Lib.hid (isM_nprime (n := n) (m := m) hp')
    clear hp hp'
    go_enter Tryz.func144, Tryz.ntmps144
    go_wp2_with (go_at_call 145; refine (isPrime_any _ _).mono ?_; rintro e w' ⟨rfl, rfl⟩; rw [HP.out])
    go_ret
    exact ⟨by rw [HF.out]; rfl, rfl⟩

end Go.Proofs.YtndneccgomfkdaaGreat

namespace Go.Proofs.YtndneccgomfkdaaGreat
open Go.RowKit
set_option linter.unusedVariables false

theorem len_of {m : List (List Int)} (h : m.length + tot m m.length ≤ 1048576) : m.length ≤ 9223372036854775807 ∧ ∀ i, i < m.length → (rw' m i).length ≤ 9223372036854775807 :=
  ⟨by omega, fun i hi => by have := tot_row (m := m) hi; omega⟩

theorem isRows_one (p : Int) (a : Option Addr) (m : List (List Int)) (cap lo tp : Nat) (w : World) (hm : MatIn lo tp w a m) (hs : m.length + tot m m.length ≤ 1048576) :
    Calls Tryz.prog 144 #[.int .i64 p, .slice a m.length cap, .int .i64 1] w fun e w' => e = .returned (.bool (isM p m)) ∧ w = w' :=
  isRows_any p a m 1 cap lo tp w (by omega) hm (len_of hs).1 (len_of hs).2
end Go.Proofs.YtndneccgomfkdaaGreat

namespace Go.Proofs.YtndneccgomfkdaaGreat
open Go.RowKit
set_option linter.unusedVariables false

set_option maxHeartbeats 800000 in
theorem isMatrix_q (p : Int) (a : Option Addr) (m : List (List Int)) (cap lo tp : Nat) (w : World) (hm : MatIn lo tp w a m) (hs : m.length + tot m m.length ≤ 1048576) :
    Calls Tryz.prog 102 #[.int .i64 p, .slice a m.length cap] w fun e w' => e = .returned (.bool (isM p m)) ∧ w = w' := by
  have HM := Lib.hid hm
  have HS := Lib.hid hs
  clear hm hs
  go_enter Tryz.func102, Tryz.ntmps102
  go_wp2_with (go_at_call 144; (with_reducible refine (isRows_one _ _ _ _ lo tp _ HM.out HS.out).mono ?_); rintro e w1 ⟨rfl, rfl⟩)
  go_ret
  exact ⟨rfl, rfl⟩

/-- The code of one matrix, of two. -/
def chk1 (p : Int) (m : List (List Int)) : Int := if isM p m = true then 0 else 1
theorem chk1_yes {p : Int} {m : List (List Int)} (h : isM p m = true) : chk1 p m = 0 := if_pos h
theorem chk1_no {p : Int} {m : List (List Int)} (h : isM p m = false) : chk1 p m = 1 := if_neg (by simp [h])
set_option maxHeartbeats 800000 in
theorem checkOne (p : Int) (b : Nat) (a : Option Addr) (m : List (List Int)) (cap c lo tp : Nat) (w : World) (hb : w.cell? ⟨b, 0, none⟩ = some (.slice a m.length cap)) (hm : MatIn lo tp w a m) (hs : m.length + tot m m.length ≤ 1048576) :
    Calls Tryz.prog 61 #[.int .i64 p, .slice (some ⟨b, 0, none⟩) 1 c] w fun e w' => e = .returned (.int .i64 (chk1 p m)) ∧ w = w' := by
  have HM := Lib.hid hm
  have HS := Lib.hid hs
  clear hm hs
  by_cases h : isM p m = true
  · have H := Lib.hid h
    clear h
    go_enter Tryz.func61, Tryz.ntmps61
    go_wp2
    go_loop [9] (fun t => ∃ i : Nat, i ≤ 1 ∧ t = .int .i64 i) (fun t => 1 - (intOf t).toNat)
    case atStart => exact ⟨0, Nat.zero_le _, rfl⟩
    case round =>
      obtain ⟨i, hi, rfl⟩ := hrel
      by_cases hlt : i < 1
      · obtain rfl : 0 = i := by omega
        go_wp2_with (go_at_call 102; (with_reducible refine (isMatrix_q _ _ _ _ lo tp _ HM.out HS.out).mono ?_); rintro e w1 ⟨rfl, rfl⟩; rw [H.out])
        go_round
        case rel => exact ⟨1, by omega, by go_num⟩
        case measure => simp [intOf]
      · go_wp2
        go_ret
        exact ⟨by rw [chk1_yes H.out]; rfl, rfl⟩
  · have H : Hid (isM p m = false) := by show isM p m = false; simpa using h
    clear h
    go_enter Tryz.func61, Tryz.ntmps61
    go_wp2
    go_loop [9] (fun t => t = .int .i64 0) (fun t => 0)
    case atStart => exact rfl
    case round =>
      subst hrel
      go_wp2_with (go_at_call 102; (with_reducible refine (isMatrix_q _ _ _ _ lo tp _ HM.out HS.out).mono ?_); rintro e w1 ⟨rfl, rfl⟩; rw [H.out])
      go_ret
      exact ⟨by rw [chk1_no H.out]; rfl, rfl⟩

theorem checkOne_new (p : Int) (a : Option Addr) (m : List (List Int)) (cap lo tp : Nat) (w : World) (t : TypeId) (hm : MatIn lo tp w a m) (ht : tp ≤ w.heap.size) (hs : m.length + tot m m.length ≤ 1048576) :
    Calls Tryz.prog 61 #[.int .i64 p, .slice (some ⟨w.heap.size, 0, none⟩) 1 1] (w.alloc (.cells #[.slice a m.length cap] t)) fun e w' => e = .returned (.int .i64 (chk1 p m)) ∧ (w.alloc (.cells #[.slice a m.length cap] t)) = w' :=
  checkOne p w.heap.size a m cap 1 lo tp _ (new_one w _ t) (hm.below ((Below.refl _ _).alloc (Nat.le_refl _) _) ht) hs
/-- The code of a square matrix. -/
def sqC (p : Int) (m : List (List Int)) : Int := if isM p m = true then (if m.length = (rw' m 0).length then 0 else 2) else 1

set_option maxHeartbeats 800000 in
theorem checkSquare_any (p : Int) (a : Option Addr) (m : List (List Int)) (cap lo tp : Nat) (w : World) (hm : MatIn lo tp w a m) (ht : tp ≤ w.heap.size) (hs : m.length + tot m m.length ≤ 1048576) :
    Calls Tryz.prog 42 #[.int .i64 p, .slice a m.length cap] w fun e w' => e = .returned (.int .i64 (sqC p m)) ∧ Below w.heap.size w w' := by
  have HM := Lib.hid hm
  have HS := Lib.hid hs
  by_cases h : isM p m = true
  · have H : Hid (chk1 p m = 0) := chk1_yes h
    have h0 := (isL_iff.1 h).lo
    obtain ⟨b, o, r0, c0, ha, _, hb, hr0, _⟩ := hm.row (i := 0) (by omega)
    subst ha
    rw [Nat.add_zero] at hr0
    have hb' : b < w.heap.size := Nat.lt_of_lt_of_le hb ht
    have hl := tot_row (m := m) (i := 0) (by omega)
    have HI := Lib.hid h
    by_cases hq : m.length = (rw' m 0).length
    · have HQ := Lib.hid hq
      rw [← hq] at hr0
      clear hm hs h hq hl
      go_enter Tryz.func42, Tryz.ntmps42
      go_wp2_with (go_at_call 61; (with_reducible refine (checkOne_new p _ m cap lo tp w _ HM.out ht HS.out).mono ?_); rintro e w1 ⟨rfl, rfl⟩; rw [H.out])
      go_ret
      exact ⟨by unfold sqC; rw [if_pos HI.out, if_pos HQ.out]; rfl, (Below.refl _ _).alloc (Nat.le_refl _) _⟩
    · have HQ : Hid (¬ m.length = (rw' m 0).length) := hq
      obtain ⟨e1, e2⟩ := neq_spell hq
      clear hm hs h hq hl
      go_enter Tryz.func42, Tryz.ntmps42
      go_wp2_with (go_at_call 61; (with_reducible refine (checkOne_new p _ m cap lo tp w _ HM.out ht HS.out).mono ?_); rintro e w1 ⟨rfl, rfl⟩; rw [H.out])
      go_ret
      exact ⟨by unfold sqC; rw [if_pos HI.out, if_neg HQ.out]; rfl, (Below.refl _ _).alloc (Nat.le_refl _) _⟩
  · have H : Hid (chk1 p m = 1) := chk1_no (by simpa using h)
    have HI : Hid (¬ isM p m = true) := h
    clear hm hs h
    go_enter Tryz.func42, Tryz.ntmps42
    go_wp2_with (go_at_call 61; (with_reducible refine (checkOne_new p _ m cap lo tp w _ HM.out ht HS.out).mono ?_); rintro e w1 ⟨rfl, rfl⟩; rw [H.out])
    go_ret
    exact ⟨by unfold sqC; rw [if_neg HI.out]; rfl, (Below.refl _ _).alloc (Nat.le_refl _) _⟩

end Go.Proofs.YtndneccgomfkdaaGreat

namespace Go.Proofs.YtndneccgomfkdaaGreat
open Go.RowKit
set_option linter.unusedVariables false

open Classical in
/-- The reduced basis of what the rows make. -/
noncomputable def bas (p : Int) (A : List (List Int)) : List (List Int) := if h : ∃ m, IsBas p (rw' A 0).length A m then Classical.choose h else []
theorem bas_eq {p : Int} {A m : List (List Int)} (hp : 1 < p) (h : IsBas p (rw' A 0).length A m) : m = bas p A := by
  unfold bas
  rw [dif_pos ⟨m, h⟩]
  exact h.unique hp (Classical.choose_spec (⟨m, h⟩ : ∃ m, IsBas p (rw' A 0).length A m))
theorem bas_nil {p : Int} (hp : 1 < p) : bas p [] = [] := by
  refine (bas_eq hp (m := []) ⟨fun i hi => by simp at hi, ⟨fun _ => 0, ?_⟩, fun x => Iff.rfl⟩).symm
  constructor <;> intros <;> simp at * <;> omega
/-- The reduced basis in new memory. -/
def NewBas (p : Int) (A : List (List Int)) (w : World) (e : Ending) (w' : World) : Prop :=
  ∃ r k, e = .returned (.slice r (bas p A).length k) ∧ MatIn w.heap.size w'.heap.size w' r (bas p A) ∧ Below w.heap.size w w' ∧ IsBas p (rw' A 0).length A (bas p A)
theorem Rref.rows_le {p : Int} {n c : Nat} {R : Nat → Nat → Int} {P : Nat → Nat} (h : Rref p n c R P) : n ≤ c := by
  have key : ∀ i, i < n → i ≤ P i := by
    intro i
    induction i with
    | zero => intro _; exact Nat.zero_le _
    | succ i ih => intro hi; have := ih (by omega); have := h.mono i (i + 1) (by omega) hi; omega
  by_cases h0 : n = 0
  · omega
  · have := key (n - 1) (by omega); have := h.pv (n - 1) (by omega); omega
end Go.Proofs.YtndneccgomfkdaaGreat

namespace Go.Proofs.YtndneccgomfkdaaGreat
set_option linter.unusedVariables false

/-- Rows with the rows of others behind them. -/
def bes (A O : List (List Int)) : List (List Int) := (List.range A.length).map fun i => rw' A i ++ rw' O i
theorem bes_len (A O : List (List Int)) : (bes A O).length = A.length := by simp [bes]
theorem bes_row {A O : List (List Int)} {i : Nat} (h : i < A.length) : rw' (bes A O) i = rw' A i ++ rw' O i := by simp [bes, rw', List.getD, h]
theorem bes_at {A O : List (List Int)} {i j c : Nat} (h : i < A.length) (hc : (rw' A i).length = c) : at' (bes A O) i j = if j < c then at' A i j else at' O i (j - c) := by
  unfold at'
  rw [bes_row h]
  simp only [List.getD_eq_getElem?_getD]
  split
  · rename_i e; rw [List.getElem?_append_left (by omega)]
  · rename_i e; rw [List.getElem?_append_right (by omega), hc]
/-- A column behind the rows. -/
def col (v : List Int) : List (List Int) := (List.range v.length).map fun i => [v.getD i 0]
theorem col_len (v : List Int) : (col v).length = v.length := by simp [col]
theorem col_row {v : List Int} {i : Nat} (h : i < v.length) : rw' (col v) i = [v.getD i 0] := by simp [col, rw', List.getD, h]
theorem col_tr (v : List Int) : trM [v] = col v := by
  unfold trM col mk
  show (List.range v.length).map _ = _
  apply List.map_congr_left
  intro i _
  simp [mkR, at', rw']
/-- Rows of one length with numbers of the prime, at least one, longer ones too. -/
structure RowsX (p : Int) (c : Nat) (A : List (List Int)) : Prop where
  prime : prm p = true
  lo : 0 < A.length
  hi : A.length ≤ 1024
  c0 : 1 ≤ c
  c1 : c ≤ 1024
  len : ∀ i, i < A.length → (rw' A i).length = c
  rng : ∀ i, i < A.length → ∀ j, j < c → 0 ≤ at' A i j ∧ at' A i j < p
theorem RowsX.len0 {p : Int} {c : Nat} {A : List (List Int)} (h : RowsX p c A) : (rw' A 0).length = c := h.len 0 h.lo
theorem bes_rows {p : Int} {A O : List (List Int)} {d : Nat} (h : Lst 1 p A) (hO : ∀ i, i < A.length → (rw' O i).length = d) (hd : d ≤ 64) (hr : ∀ i, i < A.length → ∀ j, j < d → 0 ≤ at' O i j ∧ at' O i j < p) : RowsX p ((rw' A 0).length + d) (bes A O) where
  prime := h.prime
  lo := by rw [bes_len]; exact h.lo
  hi := by rw [bes_len]; have := h.hi; omega
  c0 := by have := h.c0 0 h.lo; omega
  c1 := by have := h.c1 0 h.lo; omega
  len i hi := by
    rw [bes_len] at hi
    rw [bes_row hi, List.length_append, h.len i hi, hO i hi]
  rng i hi j hj := by
    rw [bes_len] at hi
    have hl : (rw' A i).length = (rw' A 0).length := h.len i hi
    rw [bes_at hi hl]
    split
    · rename_i e; exact h.at hi e
    · exact hr i hi _ (by omega)
theorem col_rows {p : Int} {A : List (List Int)} {v : List Int} (h : Lst 1 p A) (hl : v.length = A.length) (hv : v.all (inr p) = true) : RowsX p ((rw' A 0).length + 1) (bes A (col v)) := by
  refine bes_rows h (fun i hi => by rw [col_row (by omega)]; rfl) (by omega) (fun i hi j hj => ?_)
  have e : at' (col v) i j = v.getD i 0 := by
    have : j = 0 := by omega
    subst this
    unfold at'; rw [col_row (by omega)]; rfl
  rw [e]
  rw [List.all_eq_true] at hv
  have hi' : i < v.length := by omega
  have hm : v.getD i 0 ∈ v := by simp [List.getD, hi']
  exact inr_iff.1 (hv _ hm)

/-- The numbers of a solution after i rows: c is the place of the right side. -/
def solvec (B : List (List Int)) (P : Nat → Nat) (c i : Nat) : List Int := mkR c fun j => sm i fun i' => if j = P i' then at' B i' c else 0
theorem solvec_len (B : List (List Int)) (P : Nat → Nat) (c i : Nat) : (solvec B P c i).length = c := mkR_len _ _
theorem solvec_zero (B : List (List Int)) (P : Nat → Nat) (c : Nat) : solvec B P c 0 = mkR c fun _ => 0 := rfl
noncomputable def solB (p : Int) (A : List (List Int)) (v : List Int) : List (List Int) := bas p (bes A (col v))
noncomputable def solOk (p : Int) (A : List (List Int)) (v : List Int) : Bool := !isPv (pvs (solB p A v)) (solB p A v).length (rw' A 0).length
noncomputable def solL (p : Int) (A : List (List Int)) (v : List Int) : List Int := if solOk p A v = true then solvec (solB p A v) (pvs (solB p A v)) (rw' A 0).length (solB p A v).length else []

end Go.Proofs.YtndneccgomfkdaaGreat

namespace Go.Proofs.YtndneccgomfkdaaGreat
open Go.RowKit
set_option linter.unusedVariables false

/-- One number of a list that is set at different places. -/
theorem pick_bd {p : Int} {n c j : Nat} {P : Nat → Nat} {f : Nat → Int} (hp : 0 < p) (mono : ∀ i i', i < i' → i' < n → P i < P i') (hf : ∀ i, i < n → 0 ≤ f i ∧ f i < p) : 0 ≤ sm n (fun i => if j = P i then f i else 0) ∧ sm n (fun i => if j = P i then f i else 0) < p := by
  by_cases e : ∃ i, i < n ∧ P i = j
  · obtain ⟨i, hi, rfl⟩ := e
    have h : ∀ i', i' < n → (if P i = P i' then f i' else 0) = if i' = i then f i else 0 := fun i' hi' => by
      by_cases e2 : i' = i
      · subst e2; rw [if_pos rfl, if_pos rfl]
      · have : P i ≠ P i' := by
          rcases Nat.lt_or_gt_of_ne e2 with l | l
          · have := mono i' i l hi; omega
          · have := mono i i' l hi'; omega
        rw [if_neg this, if_neg e2]
    rw [sm_congr h, sm_single, if_pos hi]
    exact hf i hi
  · rw [sm_congr (g := fun _ => 0) (fun i hi => if_neg (fun h => e ⟨i, hi, h.symm⟩)), sm_zero]
    omega
/-- What is told to be a solution is one. -/
theorem sol_solves {p : Int} {c : Nat} {A : List (List Int)} {v : List Int} (hp : 1 < p) (hA : ∀ i, i < A.length → (rw' A i).length = c) (h0 : 0 < A.length) (hl : v.length = A.length)
    (hb : IsBas p (c + 1) (bes A (col v)) (solB p A v)) (hok : solOk p A v = true) : (∀ j, j < c → 0 ≤ (solL p A v).getD j 0 ∧ (solL p A v).getD j 0 < p) ∧ (solL p A v).length = c ∧ ∀ i, i < A.length → sm c (fun j => at' A i j * (solL p A v).getD j 0) % p = v.getD i 0 % p := by
  have hR := hb.pivs
  have hc0 : (rw' A 0).length = c := hA 0 h0
  have hno : ∀ i, i < (solB p A v).length → pvs (solB p A v) i ≠ c := fun i hi => by
    unfold solOk at hok
    rw [hc0] at hok
    exact isPv_no (by simpa using hok) hi
  have hL : solL p A v = mkR c (fun j => sm (solB p A v).length fun i' => if j = pvs (solB p A v) i' then at' (solB p A v) i' c else 0) := by
    unfold solL solvec; rw [if_pos hok, hc0]
  have hpc : ∀ i, i < (solB p A v).length → pvs (solB p A v) i < c := fun i hi => by have := hR.pv i hi; have := hno i hi; omega
  refine ⟨fun j hj => ?_, by rw [hL, mkR_len], ?_⟩
  · rw [hL, mkR_at _ hj]
    exact pick_bd (c := c) (by omega) hR.mono (fun i hi => hR.rng i hi c (by omega))
  · have hz : nul p (solB p A v).length (c + 1) (at' (solB p A v)) (fun j => if j < c then (solL p A v).getD j 0 else -1) := fun k hk => by
      show (sm c _ + _) % p = 0
      have e1 : sm c (fun j => at' (solB p A v) k j * (if j < c then (solL p A v).getD j 0 else -1)) = at' (solB p A v) k c := by
        have e2 : ∀ j, j < c → at' (solB p A v) k j * (if j < c then (solL p A v).getD j 0 else -1) = sm (solB p A v).length (fun i' => if j = pvs (solB p A v) i' then at' (solB p A v) i' c * at' (solB p A v) k (pvs (solB p A v) i') else 0) := fun j hj => by
          rw [if_pos hj, hL, mkR_at _ hj, ← sm_mul]
          apply sm_congr
          intro i' _
          rw [ite_mul']
          by_cases e : j = pvs (solB p A v) i'
          · rw [if_pos e, if_pos e, e, Int.mul_comm]
          · rw [if_neg e, if_neg e]
        rw [sm_congr e2, sm_swap, ← hR.pick hk (fun i' => at' (solB p A v) i' c)]
        apply sm_congr
        intro i' hi'
        rw [sm_single, if_pos (hpc i' hi')]
      rw [e1]
      show (at' (solB p A v) k c + at' (solB p A v) k c * (if c < c then _ else -1)) % p = 0
      rw [if_neg (Nat.lt_irrefl _)]
      have : at' (solB p A v) k c + at' (solB p A v) k c * -1 = 0 := by omega
      rw [this]; rfl
    intro i hi
    have hb1 := (hb.nul _).2 hz i (by rw [bes_len]; exact hi)
    have e3 : sm (c + 1) (fun j => at' (bes A (col v)) i j * (if j < c then (solL p A v).getD j 0 else -1)) = sm c (fun j => at' A i j * (solL p A v).getD j 0) + v.getD i 0 * -1 := by
      show sm c _ + _ = _
      congr 1
      · apply sm_congr
        intro j hj
        rw [bes_at hi (hA i hi), if_pos hj, if_pos hj]
      · show at' (bes A (col v)) i c * (if c < c then _ else -1) = _
        rw [if_neg (Nat.lt_irrefl _), bes_at hi (hA i hi), if_neg (Nat.lt_irrefl _), Nat.sub_self]
        unfold at'; rw [col_row (by omega)]; rfl
    rw [e3] at hb1
    have h4 : (sm c (fun j => at' A i j * (solL p A v).getD j 0) - v.getD i 0) % p = 0 := by
      have e5 : sm c (fun j => at' A i j * (solL p A v).getD j 0) - v.getD i 0 = sm c (fun j => at' A i j * (solL p A v).getD j 0) + v.getD i 0 * -1 := by omega
      rw [e5]; exact hb1
    exact Int.emod_eq_emod_iff_emod_sub_eq_zero.2 h4

end Go.Proofs.YtndneccgomfkdaaGreat

namespace Go.Proofs.YtndneccgomfkdaaGreat
open Go.RowKit
set_option linter.unusedVariables false

/-- The matrix of the products with x. -/
def leftM (p : Int) (S x : List Int) : List (List Int) := mk (bl S) (bl S) fun i j => prodF p S x (bladeM S j) i
/-- Its product with a list is the geometric product. -/
theorem left_prod {p : Int} {S x y : List Int} {i : Nat} (hi : i < bl S) : sm (bl S) (fun j => prodF p S x (bladeM S j) i * y.getD j 0) % p = prodF p S x y i := by
  have hi' : i < 2 ^ S.length := hi
  have e1 : ∀ j, j < bl S → prodF p S x (bladeM S j) i = (x.getD (i ^^^ j) 0 * fz S (i ^^^ j) j S.length) % p := fun j hj => by
    unfold prodF gpz
    have h : ∀ a, a < 2 ^ S.length → x.getD a 0 * fz S a (a ^^^ i) S.length * (bladeM S j).getD (a ^^^ i) 0 = if a = i ^^^ j then x.getD (i ^^^ j) 0 * fz S (i ^^^ j) j S.length else 0 := fun a ha => by
      unfold bladeM
      rw [mkR_at _ (show a ^^^ i < bl S from Nat.xor_lt_two_pow ha hi')]
      by_cases e : a = i ^^^ j
      · have e2 : a ^^^ i = j := by rw [e, Nat.xor_comm i j, Nat.xor_assoc, Nat.xor_self, Nat.xor_zero]
        rw [if_pos e, if_pos e2, e2, ← e, Int.mul_one]
      · have e2 : ¬ a ^^^ i = j := fun h => e (by rw [← h, Nat.xor_comm a i, xor_back])
        rw [if_neg e, if_neg e2, Int.mul_zero]
    rw [sm_congr h, sm_single, if_pos (Nat.xor_lt_two_pow hi' hj)]
  have e2 : sm (bl S) (fun j => prodF p S x (bladeM S j) i * y.getD j 0) % p = sm (bl S) (fun j => x.getD (j ^^^ i) 0 * fz S (j ^^^ i) j S.length * y.getD j 0) % p := by
    apply sm_congr_p
    intro j hj
    rw [e1 j hj, em_l, Nat.xor_comm i j]
  rw [e2]
  unfold prodF gpz
  congr 1
  rw [← sm_xor S.length i hi' (fun a => x.getD a 0 * fz S a (a ^^^ i) S.length * y.getD (a ^^^ i) 0)]
  apply sm_congr
  intro j _
  show _ = x.getD (j ^^^ i) 0 * fz S (j ^^^ i) (j ^^^ i ^^^ i) S.length * y.getD (j ^^^ i ^^^ i) 0
  rw [Nat.xor_assoc, Nat.xor_self, Nat.xor_zero]

end Go.Proofs.YtndneccgomfkdaaGreat
