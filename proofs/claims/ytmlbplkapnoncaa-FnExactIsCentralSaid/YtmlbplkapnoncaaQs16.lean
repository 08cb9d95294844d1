/-
  Sizes of matrices.
  No conditions.
  The reduced basis as a function of the rows; the model's SpanBasis and RankOf: contracts.
  Conditions: the list of vectors is a row of rows of known cells.
  Solutions of linear equations out of reduced rows. No Go in sight.
  No conditions.
  A solution that is read off the reduced rows solves. No Go in sight.
  No conditions.
  Inverses of multivectors: what solves one equation is the inverse on both sides. No Go in sight.
  No conditions.
  What the model's turned matrices are: a contract.
  Conditions: the matrix is a row of rows of known cells, all of one length.
  A matrix that is filled row by row, each row in blocks of its own.
  No conditions.
-/
import Derived.Test.YtmlbplkapnoncaaQs7
import Derived.Test.YtmlbplkapnoncaaQs15
import Derived.Test.YtmlbplkapnoncaaQs3
import Derived.Test.YtmlbplkapnoncaaQs14
import Derived.Test.YtmlbplkapnoncaaQs13
import Derived.Test.YtmlbplkapnoncaaQs6
import Derived.Deep.AppendLies
import Derived.Test.YtmlbplkapnoncaaQs8
namespace Go.Proofs.Ytmlbplkapnoncaa
set_option linter.unusedVariables false

theorem rect_of {n : Nat} {p : Int} {m : List (List Int)} (h : Lst n p m) : Rect p m (rw' m 0).length where
  rows := by have := h.hi; omega
  cols := by
    by_cases h0 : 0 < m.length
    · have := h.c1 0 h0; omega
    · have e : m = [] := List.eq_nil_of_length_eq_zero (by omega)
      rw [e]; simp [rw']
  len := h.len
  num i hi := Nums.of (h.all i hi)

theorem tot_const {m : List (List Int)} {c : Nat} (h : ∀ i, i < m.length → (rw' m i).length = c) : ∀ {k : Nat}, k ≤ m.length → tot m k = k * c := by
  intro k
  induction k with
  | zero => intro _; simp [tot]
  | succ k ih => intro hk; simp only [tot]; rw [ih (by omega), h k (by omega), Nat.succ_mul]
theorem Lst.c16 {n : Nat} {p : Int} {m : List (List Int)} (h : Lst n p m) : (rw' m 0).length ≤ 16 := by
  by_cases h0 : 0 < m.length
  · exact h.c1 0 h0
  · have e : m = [] := List.eq_nil_of_length_eq_zero (by omega)
    rw [e]; simp [rw']
end Go.Proofs.Ytmlbplkapnoncaa

namespace Go.Proofs.Ytmlbplkapnoncaa
open Go.RowKit
set_option linter.unusedVariables false

open Classical in
/-- The reduced basis of what the rows make. -/
noncomputable def bas (p : Int) (A : List (List Int)) : List (List Int) := if h : ∃ m, IsBas p (rw' A 0).length A m then Classical.choose h else []
theorem bas_eq {p : Int} {A m : List (List Int)} (hp : 1 < p) (h : IsBas p (rw' A 0).length A m) : m = bas p A := by
  unfold bas
  rw [dif_pos ⟨m, h⟩]
  exact h.unique hp (Classical.choose_spec (⟨m, h⟩ : ∃ m, IsBas p (rw' A 0).length A m))
theorem bas_nil {p : Int} (hp : 1 < p) : bas p [] = [] := by
  refine (bas_eq hp (m := []) ⟨fun i hi => by simp at hi, ⟨fun _ => 0, ?_⟩, fun x => Iff.rfl⟩).symm
  constructor <;> intros <;> simp at * <;> omega
theorem l01Own2_nil (a : Option Addr) (ca : Nat) (w : World) :
    Calls Try.prog 72 #[.slice a 0 ca] w fun e w' => ∃ r k, e = .returned (.slice r 0 k) ∧ Below w.heap.size w w' := by
  have h := l01Own2_any a ([] : List (List Int)) ca 0 0 w (.inl rfl) (Nat.zero_le _) (by simp) (fun i hi => by simp at hi)
  refine h.mono ?_
  rintro e w' ⟨r, k, rfl, _, hb⟩
  exact ⟨r, k, rfl, hb⟩
set_option maxHeartbeats 800000 in
theorem l02Basis_nil (p : Int) (a : Option Addr) (ca : Nat) (w : World) :
    Calls Try.prog 115 #[.int .i64 p, .slice a 0 ca] w fun e w' => ∃ r k, e = .returned (.slice r 0 k) ∧ Below w.heap.size w w' := by
  go_enter Try.func115, Try.ntmps115
  go_wp2_with (go_at_call 72; (with_reducible refine (l01Own2_nil _ _ _).mono ?_); rintro e w1 ⟨r, k, rfl, hb1⟩; have HB := Lib.hid hb1; clear hb1)
  go_loopw [6, 7] (fun s t wr => s = .int .i64 0 ∧ t = .int .i64 0 ∧ wr = w1) (fun _ _ _ => 0)
  case atStart => exact ⟨rfl, rfl, rfl⟩
  case round =>
    obtain ⟨rfl, rfl, rfl⟩ := hrel
    go_wp2
    go_ret
    exact ⟨_, _, rfl, HB.out⟩

/-- The reduced basis in new memory. -/
def NewBas (p : Int) (A : List (List Int)) (w : World) (e : Ending) (w' : World) : Prop :=
  ∃ r k, e = .returned (.slice r (bas p A).length k) ∧ MatIn w.heap.size w'.heap.size w' r (bas p A) ∧ Below w.heap.size w w' ∧ IsBas p (rw' A 0).length A (bas p A)
theorem basis_any (p : Int) (a : Option Addr) (A : List (List Int)) (ca lo tp : Nat) (w : World) (hm : MatIn lo tp w a A) (ht : tp ≤ w.heap.size) (hA : isL 0 p A = true) :
    Calls Try.prog 115 #[.int .i64 p, .slice a A.length ca] w (NewBas p A w) := by
  have hL := isL_iff.1 hA
  have hp := (prm_bd hL.prime).1
  by_cases h0 : A = []
  · subst h0
    refine (l02Basis_nil p a ca w).mono ?_
    rintro e w' ⟨r, k, rfl, hb⟩
    have e0 := bas_nil (p := p) (by omega)
    refine ⟨r, k, by rw [e0]; rfl, by rw [e0]; exact .inl rfl, hb, ?_⟩
    rw [e0]
    refine ⟨fun i hi => by simp at hi, ⟨fun _ => 0, ?_⟩, fun x => Iff.rfl⟩
    constructor <;> intros <;> simp at * <;> omega
  · have h1 : 0 < A.length := List.length_pos_iff.2 h0
    have hR := rect_of hL
    have hc := hL.c0 0 h1
    have hc16 := hL.c16
    refine (l02Basis_any p a A ca lo tp (rw' A 0).length w hL.prime hm ht h1 (by have := hL.hi; omega) (by omega) (by omega) hL.len (fun i hi j hj => hR.at hi hj)).mono ?_
    rintro e w' ⟨r, k, m, rfl, hM, hB, hb⟩
    have e1 := bas_eq (by omega) hB
    subst e1
    exact ⟨r, k, rfl, hM, hb, hB⟩
theorem Rref.rows_le {p : Int} {n c : Nat} {R : Nat → Nat → Int} {P : Nat → Nat} (h : Rref p n c R P) : n ≤ c := by
  have key : ∀ i, i < n → i ≤ P i := by
    intro i
    induction i with
    | zero => intro _; exact Nat.zero_le _
    | succ i ih => intro hi; have := ih (by omega); have := h.mono i (i + 1) (by omega) hi; omega
  by_cases h0 : n = 0
  · omega
  · have := key (n - 1) (by omega); have := h.pv (n - 1) (by omega); omega
theorem bas_small {p : Int} {A : List (List Int)} (hA : isL 0 p A = true) (h : IsBas p (rw' A 0).length A (bas p A)) : (bas p A).length ≤ 1024 ∧ ∀ i, i < (bas p A).length → 0 < (rw' (bas p A) i).length ∧ (rw' (bas p A) i).length ≤ 1024 := by
  have hL := isL_iff.1 hA
  have hc16 := hL.c16
  obtain ⟨P, hP⟩ := h.red
  have hle : (bas p A).length ≤ (rw' A 0).length := hP.rows_le
  refine ⟨by omega, fun i hi => ?_⟩
  rw [h.len i hi]
  omega

end Go.Proofs.Ytmlbplkapnoncaa

namespace Go.Proofs.Ytmlbplkapnoncaa
set_option linter.unusedVariables false

/-- Rows with the rows of others behind them. -/
def bes (A O : List (List Int)) : List (List Int) := (List.range A.length).map fun i => rw' A i ++ rw' O i
theorem bes_len (A O : List (List Int)) : (bes A O).length = A.length := by simp [bes]
theorem bes_row {A O : List (List Int)} {i : Nat} (h : i < A.length) : rw' (bes A O) i = rw' A i ++ rw' O i := by simp [bes, rw', List.getD, h]
theorem bes_at {A O : List (List Int)} {i j c : Nat} (h : i < A.length) (hc : (rw' A i).length = c) : at' (bes A O) i j = if j < c then at' A i j else at' O i (j - c) := by
  unfold at'
  rw [bes_row h]
  simp only [List.getD_eq_getElem?_getD]
  split
  · rename_i e; rw [List.getElem?_append_left (by omega)]
  · rename_i e; rw [List.getElem?_append_right (by omega), hc]
/-- A column behind the rows. -/
def col (v : List Int) : List (List Int) := (List.range v.length).map fun i => [v.getD i 0]
theorem col_row {v : List Int} {i : Nat} (h : i < v.length) : rw' (col v) i = [v.getD i 0] := by simp [col, rw', List.getD, h]
/-- Rows of one length with numbers of the prime, at least one, longer ones too. -/
structure RowsX (p : Int) (c : Nat) (A : List (List Int)) : Prop where
  prime : prm p = true
  lo : 0 < A.length
  hi : A.length ≤ 1024
  c0 : 1 ≤ c
  c1 : c ≤ 1024
  len : ∀ i, i < A.length → (rw' A i).length = c
  rng : ∀ i, i < A.length → ∀ j, j < c → 0 ≤ at' A i j ∧ at' A i j < p
theorem RowsX.len0 {p : Int} {c : Nat} {A : List (List Int)} (h : RowsX p c A) : (rw' A 0).length = c := h.len 0 h.lo
theorem bes_rows {p : Int} {A O : List (List Int)} {d : Nat} (h : Lst 1 p A) (hO : ∀ i, i < A.length → (rw' O i).length = d) (hd : d ≤ 64) (hr : ∀ i, i < A.length → ∀ j, j < d → 0 ≤ at' O i j ∧ at' O i j < p) : RowsX p ((rw' A 0).length + d) (bes A O) where
  prime := h.prime
  lo := by rw [bes_len]; exact h.lo
  hi := by rw [bes_len]; have := h.hi; omega
  c0 := by have := h.c0 0 h.lo; omega
  c1 := by have := h.c1 0 h.lo; omega
  len i hi := by
    rw [bes_len] at hi
    rw [bes_row hi, List.length_append, h.len i hi, hO i hi]
  rng i hi j hj := by
    rw [bes_len] at hi
    have hl : (rw' A i).length = (rw' A 0).length := h.len i hi
    rw [bes_at hi hl]
    split
    · rename_i e; exact h.at hi e
    · exact hr i hi _ (by omega)
theorem col_rows {p : Int} {A : List (List Int)} {v : List Int} (h : Lst 1 p A) (hl : v.length = A.length) (hv : v.all (inr p) = true) : RowsX p ((rw' A 0).length + 1) (bes A (col v)) := by
  refine bes_rows h (fun i hi => by rw [col_row (by omega)]; rfl) (by omega) (fun i hi j hj => ?_)
  have e : at' (col v) i j = v.getD i 0 := by
    have : j = 0 := by omega
    subst this
    unfold at'; rw [col_row (by omega)]; rfl
  rw [e]
  rw [List.all_eq_true] at hv
  have hi' : i < v.length := by omega
  have hm : v.getD i 0 ∈ v := by simp [List.getD, hi']
  exact inr_iff.1 (hv _ hm)

/-- The numbers of a solution after i rows: c is the place of the right side. -/
def solvec (B : List (List Int)) (P : Nat → Nat) (c i : Nat) : List Int := mkR c fun j => sm i fun i' => if j = P i' then at' B i' c else 0
theorem solvec_len (B : List (List Int)) (P : Nat → Nat) (c i : Nat) : (solvec B P c i).length = c := mkR_len _ _
theorem solvec_zero (B : List (List Int)) (P : Nat → Nat) (c : Nat) : solvec B P c 0 = mkR c fun _ => 0 := rfl
noncomputable def solB (p : Int) (A : List (List Int)) (v : List Int) : List (List Int) := bas p (bes A (col v))
noncomputable def solOk (p : Int) (A : List (List Int)) (v : List Int) : Bool := !isPv (pvs (solB p A v)) (solB p A v).length (rw' A 0).length
noncomputable def solL (p : Int) (A : List (List Int)) (v : List Int) : List Int := if solOk p A v = true then solvec (solB p A v) (pvs (solB p A v)) (rw' A 0).length (solB p A v).length else []

end Go.Proofs.Ytmlbplkapnoncaa

namespace Go.Proofs.Ytmlbplkapnoncaa
open Go.RowKit
set_option linter.unusedVariables false

/-- One number of a list that is set at different places. -/
theorem pick_bd {p : Int} {n c j : Nat} {P : Nat → Nat} {f : Nat → Int} (hp : 0 < p) (mono : ∀ i i', i < i' → i' < n → P i < P i') (hf : ∀ i, i < n → 0 ≤ f i ∧ f i < p) : 0 ≤ sm n (fun i => if j = P i then f i else 0) ∧ sm n (fun i => if j = P i then f i else 0) < p := by
  by_cases e : ∃ i, i < n ∧ P i = j
  · obtain ⟨i, hi, rfl⟩ := e
    have h : ∀ i', i' < n → (if P i = P i' then f i' else 0) = if i' = i then f i else 0 := fun i' hi' => by
      by_cases e2 : i' = i
      · subst e2; rw [if_pos rfl, if_pos rfl]
      · have : P i ≠ P i' := by
          rcases Nat.lt_or_gt_of_ne e2 with l | l
          · have := mono i' i l hi; omega
          · have := mono i i' l hi'; omega
        rw [if_neg this, if_neg e2]
    rw [sm_congr h, sm_single, if_pos hi]
    exact hf i hi
  · rw [sm_congr (g := fun _ => 0) (fun i hi => if_neg (fun h => e ⟨i, hi, h.symm⟩)), sm_zero]
    omega
/-- What is told to be a solution is one. -/
theorem sol_solves {p : Int} {c : Nat} {A : List (List Int)} {v : List Int} (hp : 1 < p) (hA : ∀ i, i < A.length → (rw' A i).length = c) (h0 : 0 < A.length) (hl : v.length = A.length)
    (hb : IsBas p (c + 1) (bes A (col v)) (solB p A v)) (hok : solOk p A v = true) : (∀ j, j < c → 0 ≤ (solL p A v).getD j 0 ∧ (solL p A v).getD j 0 < p) ∧ (solL p A v).length = c ∧ ∀ i, i < A.length → sm c (fun j => at' A i j * (solL p A v).getD j 0) % p = v.getD i 0 % p := by
  have hR := hb.pivs
  have hc0 : (rw' A 0).length = c := hA 0 h0
  have hno : ∀ i, i < (solB p A v).length → pvs (solB p A v) i ≠ c := fun i hi => by
    unfold solOk at hok
    rw [hc0] at hok
    exact isPv_no (by simpa using hok) hi
  have hL : solL p A v = mkR c (fun j => sm (solB p A v).length fun i' => if j = pvs (solB p A v) i' then at' (solB p A v) i' c else 0) := by
    unfold solL solvec; rw [if_pos hok, hc0]
  have hpc : ∀ i, i < (solB p A v).length → pvs (solB p A v) i < c := fun i hi => by have := hR.pv i hi; have := hno i hi; omega
  refine ⟨fun j hj => ?_, by rw [hL, mkR_len], ?_⟩
  · rw [hL, mkR_at _ hj]
    exact pick_bd (c := c) (by omega) hR.mono (fun i hi => hR.rng i hi c (by omega))
  · have hz : nul p (solB p A v).length (c + 1) (at' (solB p A v)) (fun j => if j < c then (solL p A v).getD j 0 else -1) := fun k hk => by
      show (sm c _ + _) % p = 0
      have e1 : sm c (fun j => at' (solB p A v) k j * (if j < c then (solL p A v).getD j 0 else -1)) = at' (solB p A v) k c := by
        have e2 : ∀ j, j < c → at' (solB p A v) k j * (if j < c then (solL p A v).getD j 0 else -1) = sm (solB p A v).length (fun i' => if j = pvs (solB p A v) i' then at' (solB p A v) i' c * at' (solB p A v) k (pvs (solB p A v) i') else 0) := fun j hj => by
          rw [if_pos hj, hL, mkR_at _ hj, ← sm_mul]
          apply sm_congr
          intro i' _
          rw [ite_mul']
          by_cases e : j = pvs (solB p A v) i'
          · rw [if_pos e, if_pos e, e, Int.mul_comm]
          · rw [if_neg e, if_neg e]
        rw [sm_congr e2, sm_swap, ← hR.pick hk (fun i' => at' (solB p A v) i' c)]
        apply sm_congr
        intro i' hi'
        rw [sm_single, if_pos (hpc i' hi')]
      rw [e1]
      show (at' (solB p A v) k c + at' (solB p A v) k c * (if c < c then _ else -1)) % p = 0
      rw [if_neg (Nat.lt_irrefl _)]
      have : at' (solB p A v) k c + at' (solB p A v) k c * -1 = 0 := by omega
      rw [this]; rfl
    intro i hi
    have hb1 := (hb.nul _).2 hz i (by rw [bes_len]; exact hi)
    have e3 : sm (c + 1) (fun j => at' (bes A (col v)) i j * (if j < c then (solL p A v).getD j 0 else -1)) = sm c (fun j => at' A i j * (solL p A v).getD j 0) + v.getD i 0 * -1 := by
      show sm c _ + _ = _
      congr 1
      · apply sm_congr
        intro j hj
        rw [bes_at hi (hA i hi), if_pos hj, if_pos hj]
      · show at' (bes A (col v)) i c * (if c < c then _ else -1) = _
        rw [if_neg (Nat.lt_irrefl _), bes_at hi (hA i hi), if_neg (Nat.lt_irrefl _), Nat.sub_self]
        unfold at'; rw [col_row (by omega)]; rfl
    rw [e3] at hb1
    have h4 : (sm c (fun j => at' A i j * (solL p A v).getD j 0) - v.getD i 0) % p = 0 := by
      have e5 : sm c (fun j => at' A i j * (solL p A v).getD j 0) - v.getD i 0 = sm c (fun j => at' A i j * (solL p A v).getD j 0) + v.getD i 0 * -1 := by omega
      rw [e5]; exact hb1
    exact Int.emod_eq_emod_iff_emod_sub_eq_zero.2 h4

end Go.Proofs.Ytmlbplkapnoncaa

namespace Go.Proofs.Ytmlbplkapnoncaa
open Go.RowKit
set_option linter.unusedVariables false

/-- The matrix of the products with x. -/
def leftM (p : Int) (S x : List Int) : List (List Int) := mk (bl S) (bl S) fun i j => prodF p S x (bladeM S j) i
/-- Its product with a list is the geometric product. -/
theorem left_prod {p : Int} {S x y : List Int} {i : Nat} (hi : i < bl S) : sm (bl S) (fun j => prodF p S x (bladeM S j) i * y.getD j 0) % p = prodF p S x y i := by
  have hi' : i < 2 ^ S.length := hi
  have e1 : ∀ j, j < bl S → prodF p S x (bladeM S j) i = (x.getD (i ^^^ j) 0 * fz S (i ^^^ j) j S.length) % p := fun j hj => by
    unfold prodF gpz
    have h : ∀ a, a < 2 ^ S.length → x.getD a 0 * fz S a (a ^^^ i) S.length * (bladeM S j).getD (a ^^^ i) 0 = if a = i ^^^ j then x.getD (i ^^^ j) 0 * fz S (i ^^^ j) j S.length else 0 := fun a ha => by
      unfold bladeM
      rw [mkR_at _ (show a ^^^ i < bl S from Nat.xor_lt_two_pow ha hi')]
      by_cases e : a = i ^^^ j
      · have e2 : a ^^^ i = j := by rw [e, Nat.xor_comm i j, Nat.xor_assoc, Nat.xor_self, Nat.xor_zero]
        rw [if_pos e, if_pos e2, e2, ← e, Int.mul_one]
      · have e2 : ¬ a ^^^ i = j := fun h => e (by rw [← h, Nat.xor_comm a i, xor_back])
        rw [if_neg e, if_neg e2, Int.mul_zero]
    rw [sm_congr h, sm_single, if_pos (Nat.xor_lt_two_pow hi' hj)]
  have e2 : sm (bl S) (fun j => prodF p S x (bladeM S j) i * y.getD j 0) % p = sm (bl S) (fun j => x.getD (j ^^^ i) 0 * fz S (j ^^^ i) j S.length * y.getD j 0) % p := by
    apply sm_congr_p
    intro j hj
    rw [e1 j hj, em_l, Nat.xor_comm i j]
  rw [e2]
  unfold prodF gpz
  congr 1
  rw [← sm_xor S.length i hi' (fun a => x.getD a 0 * fz S a (a ^^^ i) S.length * y.getD (a ^^^ i) 0)]
  apply sm_congr
  intro j _
  show _ = x.getD (j ^^^ i) 0 * fz S (j ^^^ i) (j ^^^ i ^^^ i) S.length * y.getD (j ^^^ i ^^^ i) 0
  rw [Nat.xor_assoc, Nat.xor_self, Nat.xor_zero]

end Go.Proofs.Ytmlbplkapnoncaa

namespace Go.Proofs.Ytmlbplkapnoncaa
open Go.RowKit
set_option linter.unusedVariables false

set_option maxRecDepth 100000 in
set_option maxHeartbeats 3200000 in
theorem l02Turn_any (a : Option Addr) (m : List (List Int)) (ca lo tp : Nat) (w : World) (hm : MatIn lo tp w a m) (ht : tp ≤ w.heap.size) (h0 : 0 < m.length) (hc : ∀ i, i < m.length → (rw' m i).length = (rw' m 0).length) (hn : m.length ≤ 1024) (hn2 : (rw' m 0).length ≤ 1024) :
    Calls Try.prog 99 #[.slice a m.length ca] w (NewM (trM m) w) := by
  obtain ⟨i0, hi, hz0, hz1, hz2⟩ := info_parts info64
  obtain ⟨j0, kj, kz0, kz1, kz2⟩ := info_parts info_slice
  have HM := Lib.hid hm
  have HC := Lib.hid hc
  obtain ⟨b, o, r0, c0, ha, _, hb, hr0, _⟩ := HM.out.row h0
  subst ha
  rw [Nat.add_zero] at hr0
  have HR0 := Lib.hid hr0
  obtain ⟨c, hcc⟩ : ∃ c, c = (rw' m 0).length := ⟨_, rfl⟩
  rw [← hcc] at hn2 hr0
  have HCC := Lib.hid hcc
  have hb' : b < w.heap.size := Nat.lt_of_lt_of_le hb ht
  clear hm hc hcc
  go_enter Try.func99, Try.ntmps99
  go_wp2
  go_loopw [3, 4] (fun v t wr => ∃ k : Nat, k ≤ c ∧ t = .int .i64 k ∧ OutM w.heap.size wr v (mk k m.length fun k i => at' m i k) ∧ Below w.heap.size w wr) (fun _ t _ => c - (intOf t).toNat)
  case atStart => exact ⟨0, Nat.zero_le _, rfl, OutM.start w _ _ (Nat.le_refl _) rfl, by ((repeat' (first | with_reducible exact Below.refl _ _ | (with_reducible refine Below.setCell ?_ ?_ _) | (with_reducible refine Below.alloc ?_ ?_ _) | (with_reducible refine Below.drew ?_))); all_goals (first | (simp; done) | omega | (simp; omega)))⟩
  case round =>
    obtain ⟨k, hk, rfl, ho, hbel⟩ := hrel
    have HO := Lib.hid ho
    have HBEL := Lib.hid hbel
    have hwz := hbel.size
    have hr0 := (hbel.cell (p := ⟨b, o, none⟩) hb').trans hr0
    rename World => wo
    clear ho
    by_cases hlt : k < c
    · have hk1 : (k : Int) < (c : Int) := by omega
      clear hbel
      go_wp2
      go_loopw [5, 6] (fun v t wr => ∃ i : Nat, i ≤ m.length ∧ t = .int .i64 i ∧ OutR wo.heap.size wr v (mkR i fun i => at' m i k) ∧ Below wo.heap.size wo wr) (fun _ t _ => m.length - (intOf t).toNat)
      case atStart => exact ⟨0, Nat.zero_le _, rfl, OutR.start wo _ _ (Nat.le_refl _) rfl, by ((repeat' (first | with_reducible exact Below.refl _ _ | (with_reducible refine Below.setCell ?_ ?_ _) | (with_reducible refine Below.alloc ?_ ?_ _) | (with_reducible refine Below.drew ?_))); all_goals (first | (simp; done) | omega | (simp; omega)))⟩
      case round =>
        obtain ⟨i, hi', rfl, hoi, hbi⟩ := hrel
        have HOI := Lib.hid hoi
        have HBI := Lib.hid hbi
        have hwi := hbi.size
        clear hoi hr0
        by_cases hlti : i < m.length
        · have hbw := HBEL.out.trans (HBI.out.mono hwz)
          obtain ⟨b1, o1, r, c1, ha1, _, hb1, hr1, hrow⟩ := (HM.out.below hbw ht).row hlti
          cases ha1
          have hcl := HC.out i hlti
          rw [← HCC.out] at hcl
          obtain ⟨b2, o2, ha2, _, hb2, hc2⟩ := hrow.num (j := k) (by omega)
          subst ha2
          rw [hcl] at hr1
          have HS : Hid (mkR (i + 1) (fun i => at' m i k) = mkR i (fun i => at' m i k) ++ [(rw' m i).getD k 0]) := mkR_succ _ _
          obtain ⟨x, hx⟩ : ∃ x, x = (rw' m i).getD k 0 := ⟨_, rfl⟩
          rw [← hx] at hc2 HS
          obtain ⟨X, hX⟩ : ∃ X, X = (mkR i (fun i => at' m i k)).map (Value.int .i64) := ⟨_, rfl⟩
          have HX := Lib.hid hX
          have HO2 : Hid (wr.ownsRow wo.heap.size 2 1 u5 i X) := by
            have := HOI.out; unfold OutR at this; rw [mkR_len, ← hX] at this; exact this
          clear hX hx hcl hrow hbw hbi
          go_wp2_with (at_builtin; refine wpList_append_lies _ rfl _ _ 22 rfl wo.heap.size 2 i0 (.int .i64 0) 1 8 Try.underlying22 hi hz0 hz1 hz2 rfl (by decide) u5 i X rfl (HO2.out.alloc _) ⟨wr.heap.size, 0, none⟩ 1 1 [.int .i64 x] rfl rfl (World.news_of_block (cs := #[.int .i64 x]) (t := 2) (fr := (0, 0)) (heap_alloc_new wr _)) (by simp [Value.oneCell']) (by omega) (by unfold maxLen; omega) (by omega) (by simp; omega) (wr.heap.size + 1) (by simp) ?_; intro gg cap w1 hown1 hgrow hat hlt1)
          go_wp2
          go_roundw
          case rel => exact ⟨i + 1, by omega, by go_num, OutR.step HO2.out HX.out HS.out hown1, (HBI.out.alloc hwi _).grown hgrow (by simp; omega) (fun _ hk => (HO2.out.lt _ hk).1)⟩
          case measure => simp [intOf]; omega
        · have hn : i = m.length := by omega
          subst hn
          obtain ⟨r, cp, hv, htag⟩ := HOI.out.tag
          rw [mkR_len] at hv
          subst hv
          obtain ⟨vals, hvo, hvr⟩ := HO.out.below HBI.out
          rw [mk_len] at hvo hvr
          have HV := Lib.hid hvo
          have HVR := Lib.hid hvr
          have HT := Lib.hid htag
          clear hvo hvr htag hbi
          go_wp2_with (at_builtin; refine wpList_append_lies _ rfl _ _ 35 rfl w.heap.size 22 j0 (.slice none 0 0) 1 24 Try.underlying35 kj kz0 kz1 kz2 rfl (by decide) u3 k vals rfl (HV.out.alloc _) ⟨wr.heap.size, 0, none⟩ 1 1 [.slice r m.length cp] rfl rfl (World.news_of_block (cs := #[.slice r m.length cp]) (t := 22) (fr := (0, 0)) (heap_alloc_new wr _)) (by simp [Value.oneCell']) (by omega) (by unfold maxLen; omega) (by omega) (by simp; omega) (wr.heap.size + 1) (by simp) ?_; intro gg cap w1 hown1 hgrow hat hlt1)
          go_wp2
          go_roundw
          case rel => exact ⟨k + 1, by omega, by go_num, OutM.next HV.out HVR.out HT.out rfl hwz hown1 hgrow, ((HBEL.out.trans (HBI.out.mono hwz)).alloc (by omega) _).grown hgrow (by simp; omega) (fun _ hk => (HV.out.lt _ hk).1)⟩
          case measure => simp [intOf]; omega
    · have hn : k = c := by omega
      subst hn
      have HE : Hid (trM m = mk k m.length fun k i => at' m i k) := by show trM m = _; unfold trM; rw [← HCC.out]
      clear hbel
      go_wp2
      go_ret
      rw [HE.out]
      exact HO.out.new HBEL.out

end Go.Proofs.Ytmlbplkapnoncaa

namespace Go.Proofs.Ytmlbplkapnoncaa
open Go.RowKit Go.ChangeShapes Go.WideShapes
set_option linter.unusedVariables false

/-- i rows are there: row j in blocks from lo j up to tp j, behind block b and behind those of the rows before it. -/
structure HalfG (w : World) (b i : Nat) (m : List (List Int)) (A : Nat → Option Addr) (C lo tp : Nat → Nat) : Prop where
  lt : b < w.heap.size
  done : ∀ j, j < i → w.cell? ⟨b, j, none⟩ = some (.slice (A j) (rw' m j).length (C j))
  rest : ∀ j, i ≤ j → j < m.length → w.cell? ⟨b, j, none⟩ = some (.slice none 0 0)
  free : ∀ j, w.frozen? ⟨b, j, none⟩ = false
  rows : ∀ j, j < i → OwnR (lo j) (tp j) w (A j) (rw' m j) ∧ b < lo j ∧ tp j ≤ w.heap.size
  apart : ∀ j j', j < j' → j' < i → tp j ≤ lo j'
theorem HalfG.start (w : World) (m : List (List Int)) (t : TypeId) (A : Nat → Option Addr) (C lo tp : Nat → Nat) : HalfG (w.alloc (.cells (madeCells #[.slice none 0 0] m.length) t)) w.heap.size 0 m A C lo tp where
  lt := by simp
  done j hj := by omega
  rest j _ hj := by
    have h := World.cell?_alloc_new (w := w) (madeCells #[.slice none 0 0] m.length) t j
    rw [h]
    simp [madeCells, hj, Nat.mod_one]
  free j := by simp [go_sem]
  rows j hj := by omega
  apart j j' _ hj := by omega
/-- One row more. -/
theorem HalfG.next {w w1 : World} {b i : Nat} {m : List (List Int)} {A : Nat → Option Addr} {C lo tp : Nat → Nat} {r : Option Addr} {c T : Nat} (h : HalfG w b i m A C lo tp) (hi : i < m.length)
    (hk : ∀ k, k < w.heap.size → k ≠ b → w1.heap[k]? = w.heap[k]?) (hs : w.heap.size ≤ w1.heap.size) (hT : T ≤ w1.heap.size)
    (hci : w1.cell? ⟨b, i, none⟩ = some (.slice r (rw' m i).length c)) (hc : ∀ j, j ≠ i → w1.cell? ⟨b, j, none⟩ = w.cell? ⟨b, j, none⟩) (hf : ∀ j, w1.frozen? ⟨b, j, none⟩ = false)
    (hr : OwnR w.heap.size T w1 r (rw' m i)) :
    HalfG w1 b (i + 1) m (fun j => if j = i then r else A j) (fun j => if j = i then c else C j) (fun j => if j = i then w.heap.size else lo j) (fun j => if j = i then T else tp j) where
  lt := Nat.lt_of_lt_of_le h.lt hs
  done j hj := by
    by_cases e : j = i
    · subst e; simp only [if_pos]; exact hci
    · simp only [if_neg e]; exact (hc j e).trans (h.done j (by omega))
  rest j hj hl := (hc j (by omega)).trans (h.rest j (by omega) hl)
  free := hf
  rows j hj := by
    by_cases e : j = i
    · subst e; simp only [if_pos]; exact ⟨hr, h.lt, hT⟩
    · simp only [if_neg e]
      obtain ⟨h1, h2, h3⟩ := h.rows j (by omega)
      exact ⟨h1.same (fun k k0 k1 => hk k (by omega) (by omega)), h2, by omega⟩
  apart j j' hj hj' := by
    have e : ¬ j = i := by omega
    simp only [if_neg e]
    by_cases e' : j' = i
    · simp only [if_pos e']; exact (h.rows j (by omega)).2.2
    · simp only [if_neg e']; exact h.apart j j' hj (by omega)
def blk (a : Option Addr) : Nat := match a with | some a => a.block | none => 0
def ofs (a : Option Addr) : Nat := match a with | some a => a.off | none => 0
theorem OwnR.at {lo tp : Nat} {w : World} {a : Option Addr} {zs : List Int} (h : OwnR lo tp w a zs) {j : Nat} (hj : j < zs.length) : a = some ⟨blk a, ofs a, none⟩ ∧ lo ≤ blk a ∧ blk a < tp ∧ w.cell? ⟨blk a, ofs a + j, none⟩ = some (.int .i64 (zs.getD j 0)) ∧ w.frozen? ⟨blk a, ofs a + j, none⟩ = false := by
  rcases h with h | ⟨b, o, rfl, h0, h1, hc⟩
  · rw [h] at hj; simp at hj
  · exact ⟨rfl, h0, h1, (hc j hj).1, (hc j hj).2⟩
theorem HalfG.own {w : World} {b : Nat} {m : List (List Int)} {A : Nat → Option Addr} {C lo tp : Nat → Nat} (h : HalfG w b m.length m A C lo tp) : OwnM b w.heap.size w (some ⟨b, 0, none⟩) m :=
  .inr ⟨⟨b, 0, A, fun j => blk (A j), fun j => ofs (A j), C⟩, rfl, {
    rng := fun _ => ⟨Nat.le_refl _, h.lt⟩
    top := fun i hi => by show w.cell? ⟨b, 0 + i, none⟩ = _; rw [Nat.zero_add]; exact h.done i hi
    row := fun i hi => by
      by_cases h0 : (rw' m i).length = 0
      · exact .inl h0
      · exact .inr ((h.rows i hi).1.at (j := 0) (by omega)).1
    rrng := fun i hi hl => by
      obtain ⟨h1, h2, h3⟩ := h.rows i hi
      have := h1.at (j := 0) hl
      exact ⟨by show b ≤ blk (A i); omega, by show blk (A i) < _; omega⟩
    cell := fun i hi j hj => ((h.rows i hi).1.at hj).2.2.2.1
    free := fun i hi j hj => ((h.rows i hi).1.at hj).2.2.2.2
    apart := fun i hi i' hi' hne j hj j' hj' e => by
      have h1 := (h.rows i hi).1.at hj
      have h2 := (h.rows i' hi').1.at hj'
      have e1 : blk (A i) = blk (A i') := e.1
      rcases Nat.lt_or_ge i i' with l | l
      · have := h.apart i i' l hi'; omega
      · have := h.apart i' i (by omega) hi; omega
    tops := fun i hi j hj i' hi' e => by
      obtain ⟨h1, h2, h3⟩ := h.rows i hi
      have := h1.at hj
      have e1 : blk (A i) = b := e.1
      omega }⟩

theorem RowOwn.block {w w' : World} {b o n : Nat} {f : Nat → Int} (h : RowOwn w b o n f) (e : w'.heap[b]? = w.heap[b]?) : RowOwn w' b o n f :=
  ⟨fun j hj => (World.cell?_of_block (w := w) (a := ⟨b, o + j, none⟩) e).trans (h.cell j hj), fun j hj => (World.frozen?_of_block (w := w) (a := ⟨b, o + j, none⟩) e).trans (h.free j hj)⟩
theorem RowOwn.far {w : World} {b o n : Nat} {f : Nat → Int} (h : RowOwn w b o n f) (c i : Nat) (v : Value) (hne : b ≠ c) : RowOwn (w.setCell ⟨c, i, none⟩ v) b o n f :=
  h.block (Below.heap_setCell _ _ _ _ hne)
end Go.Proofs.Ytmlbplkapnoncaa
