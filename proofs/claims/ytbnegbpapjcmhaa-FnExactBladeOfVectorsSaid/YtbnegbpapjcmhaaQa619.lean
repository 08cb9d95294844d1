/-
  Elimination row by row as a relation: what steps have led from the rows taken to the reduced rows, their pivots and the determinant. No Go in sight.
  No conditions.
  What the program's elimination counts is the determinant. No Go in sight.
  No conditions.
  The wedge product of vectors and the determinant. No Go in sight.
  No conditions.
  Changes of signs by grades, and the signs of all grades: contracts of the program.
  Conditions: the lists are nil or rows of known cells, of at most 1048576 numbers.
  What the program's operations on numbers return: contracts of remainderOf, plus, minus, times.
  Conditions: the prime is one, and the numbers are remainders by it.
  A number that lies in memory: what keeps it, what writes it, what reads it.
  No conditions.
  Signs changed, and the laws' three functions that do so: contracts of the program and of the model.
  Conditions: the lists are nil or rows of known cells, of at most 1048576 numbers.
  The signs of those grades of which a multivector has blades: contracts of the program and of the model.
  Conditions: the lists are nil or rows of known cells, of at most 1048576 numbers.
  ReverseOf, InvoluteOf and ConjugateOf: contracts of the program and of the model.
  Conditions: the lists are nil or rows of known cells, of at most 1048576 numbers.
-/
import Derived.Test.YtbnegbpapjcmhaaQa618
import Derived.Test.YtbnegbpapjcmhaaQa616
import Derived.Test.YtbnegbpapjcmhaaQa69
import Derived.Test.YtbnegbpapjcmhaaQa61
import Derived.Outline
import Derived.Test.YtbnegbpapjcmhaaQa610
import Derived.Deep.RegionHeld3
import Derived.Deep.DeepCutAuto
import Derived.Deep.AppendLies
import Derived.StillTailTactics
namespace Go.Proofs.Ytbnegbpapjcmhaa
set_option linter.unusedVariables false

/-- A row reduced by the first k of reduced rows: with the sum that was added. -/
structure Red2 (p : Int) (c : Nat) (m : List (List Int)) (P : Nat → Nat) (r r' : List Int) (k : Nat) : Prop extends Redu p c m P r r' k where
  lin : ∃ K : Nat → Int, ∀ j, j < c → num r' j % p = (num r j + sm m.length (fun i => K i * at' m i j)) % p
theorem sm_upd (n k : Nat) (K : Nat → Int) (x : Int) (f : Nat → Int) (hk : k < n) : sm n (fun i => (if i = k then K i + x else K i) * f i) = sm n (fun i => K i * f i) + x * f k := by
  have e : sm n (fun i => (if i = k then K i + x else K i) * f i) = sm n (fun i => K i * f i + (if i = k then x * f k else 0)) := sm_congr (fun i _ => by
    by_cases e : i = k
    · subst e; rw [if_pos rfl, if_pos rfl, Int.add_mul]
    · rw [if_neg e, if_neg e, Int.add_zero])
  rw [e, sm_add, sm_single, if_pos hk]
theorem Red2.start {p : Int} {c : Nat} {m : List (List Int)} {P : Nat → Nat} {r : List Int} (hl : r.length = c) (hr : ∀ j, j < c → 0 ≤ num r j ∧ num r j < p) : Red2 p c m P r r 0 where
  toRedu := Redu.start hl hr
  lin := by
    refine ⟨fun _ => 0, fun j _ => ?_⟩
    have : sm m.length (fun i => (0 : Int) * at' m i j) = sm m.length (fun _ => 0) := sm_congr (fun i _ => Int.zero_mul _)
    rw [this, sm_zero, Int.add_zero]
theorem Red2.next {p : Int} {c : Nat} {m : List (List Int)} {P : Nat → Nat} {r r' r'' : List Int} {k : Nat} (hp : prm p = true) (h : Red2 p c m P r r' k) (hR : Rref p m.length c (at' m) P) (hk : k < m.length)
    (hl : r''.length = c) (hn : ∀ j, j < c → num r'' j = (num r' j + (p - num r' (P k)) % p * at' m k j) % p) : Red2 p c m P r r'' (k + 1) where
  toRedu := h.toRedu.next hp hR hk hl hn
  lin := by
    obtain ⟨K, hK⟩ := h.lin
    refine ⟨fun i => if i = k then K i + (p - num r' (P k)) % p else K i, fun j hj => ?_⟩
    rw [sm_upd _ _ _ _ _ hk, hn j hj, Int.emod_emod, Int.add_emod, hK j hj, ← Int.add_emod, Int.add_assoc]

/-- What a row that is taken and left does to the rows that are kept. -/
structure Took (p : Int) (c : Nat) (m : List (List Int)) (P : Nat → Nat) (r r' s : List Int) (m' : List (List Int)) (q t : Nat) : Prop where
  rl : r.length = c
  red : Red2 p c m P r r' m.length
  qc : q < c
  q0 : num r' q ≠ 0
  ql : ∀ j, j < q → num r' j = 0
  ss : ∀ j, j < c → num s j = num r' j * inv p (num r' q) % p
  sl : s.length = c
  ml : m'.length = m.length
  mc : ∀ i, i < m.length → (rw' m' i).length = c
  mr : ∀ i, i < m.length → ∀ j, j < c → at' m' i j = (at' m i j + (p - at' m i q) % p * num s j) % p
  tn : t ≤ m.length
  tl : ∀ i, i < t → P i < q
  tr : ∀ i, t ≤ i → i < m.length → q < P i
/-- The sign of an insertion at t of n. -/
def esgn (p : Int) (n t : Nat) (x : Int) : Int := if (n - t) % 2 = 0 then x else -x % p
inductive Elm (p : Int) (c : Nat) : List (List Int) → List (List Int) → (Nat → Nat) → Int → Prop
  | start (P : Nat → Nat) : Elm p c [] [] P 1
  | same {A m : List (List Int)} {P : Nat → Nat} {d : Int} {r r' : List Int} : Elm p c A m P d → r.length = c → Red2 p c m P r r' m.length → (∀ j, j < c → num r' j = 0) → Elm p c (A ++ [r]) m P d
  | more {A m m' : List (List Int)} {P : Nat → Nat} {d : Int} {r r' s : List Int} {q t : Nat} : Elm p c A m P d → Took p c m P r r' s m' q t →
      Elm p c (A ++ [r]) (ins _ m' t s) (fun i => if i = t then q else P (old t i)) (d * esgn p m.length t (num r' q) % p)

theorem Elm.kept {p : Int} {c : Nat} {A m : List (List Int)} {P : Nat → Nat} {d : Int} (hp : prm p = true) (h : Elm p c A m P d) : Kept p c A m P := by
  induction h with
  | start P => exact Kept.start p c P
  | same _ _ hr h0 ih => exact ih.same hr.van h0
  | more _ k ih => exact ih.more hp k.red.van k.red.zer k.red.rng k.qc k.q0 k.ql k.ss k.sl k.ml k.mc k.mr k.tn k.tl k.tr
theorem Elm.det {p : Int} {c : Nat} {A m : List (List Int)} {P : Nat → Nat} {d : Int} (hp : prm p = true) (h : Elm p c A m P d) : 0 ≤ d ∧ d < p := by
  have := prm_bd hp
  induction h with
  | start P => omega
  | same _ _ _ _ ih => exact ih
  | more _ _ _ => exact mod_bd hp _

end Go.Proofs.Ytbnegbpapjcmhaa

namespace Go.Proofs.Ytbnegbpapjcmhaa
set_option linter.unusedVariables false

theorem at_app (a b : List (List Int)) (i : Nat) : at' (a ++ b) i = if i < a.length then at' a i else at' b (i - a.length) := by
  funext j
  unfold at' rw'
  simp only [List.getD_eq_getElem?_getD, List.getElem?_append]
  split <;> rfl
theorem at_cons0 (z : List Int) (b : List (List Int)) : at' (z :: b) 0 = num z := by funext j; rfl
theorem at_cons (z : List Int) (b : List (List Int)) (i : Nat) : at' (z :: b) (i + 1) = at' b i := by funext j; rfl
theorem at_mid (m : List (List Int)) (z : List Int) (X : List (List Int)) : at' (m ++ z :: X) m.length = num z := by
  rw [at_app, if_neg (Nat.lt_irrefl _), Nat.sub_self, at_cons0]
theorem emod_mul (a b p : Int) : a % p * b % p = a * b % p := by rw [Int.mul_emod, Int.emod_emod, ← Int.mul_emod]
theorem mul_emod_r (a b p : Int) : a * (b % p) % p = a * b % p := by rw [Int.mul_emod, Int.emod_emod, ← Int.mul_emod]

theorem dt_red {p : Int} {n : Nat} {m : List (List Int)} {P : Nat → Nat} {r r' : List Int} {X : List (List Int)} (hr : Red2 p n m P r r' m.length) (hn : m.length < n) :
    dt n (at' (m ++ r :: X)) % p = dt n (upd (at' (m ++ r :: X)) m.length (num r')) % p := by
  obtain ⟨K, hK⟩ := hr.lin
  rw [← dt_addsum hn (Nat.le_refl _) (at' (m ++ r :: X)) K]
  apply dt_mod
  intro i hi j hj
  unfold upd
  by_cases e : i = m.length
  · rw [if_pos e, if_pos e, hK j hj, at_mid]
    congr 2
    apply sm_congr
    intro i' hi'
    rw [at_app, if_pos hi']
  · rw [if_neg e, if_neg e]
theorem ins_end {m : List (List Int)} (s : List Int) (X : List (List Int)) : ins _ m m.length s ++ X = m ++ s :: X := by
  unfold ins
  rw [List.take_of_length_le (Nat.le_refl _), List.drop_of_length_le (Nat.le_refl _)]
  simp
theorem dt_ins_step {n t : Nat} {m : List (List Int)} (s : List Int) (X : List (List Int)) (ht : t < m.length) (hn : m.length < n) : dt n (at' (ins _ m t s ++ X)) = - dt n (at' (ins _ m (t + 1) s ++ X)) := by
  rw [← dt_swap (k := t) (l := t + 1) (by omega) (by omega) (at' (ins _ m (t + 1) s ++ X))]
  apply dt_congr
  intro i hi j hj
  have l1 : (ins _ m t s).length = m.length + 1 := ins_len s (by omega)
  have l2 : (ins _ m (t + 1) s).length = m.length + 1 := ins_len s (by omega)
  have g1 : at' (ins _ m (t + 1) s ++ X) (t + 1) = num s := by rw [at_app, if_pos (by omega), at_ins_new s (by omega)]
  have g0 : at' (ins _ m (t + 1) s ++ X) t = at' m t := by
    rw [at_app, if_pos (by omega), at_ins s (by omega) (by omega)]
    have : old (t + 1) t = t := if_pos (by omega)
    rw [this]
  by_cases e : i = t
  · subst e
    rw [upd_ne _ (by omega), upd_same, g1, at_app, if_pos (by omega), at_ins_new s (by omega)]
  · by_cases e' : i = t + 1
    · subst e'
      rw [upd_same, g0, at_app, if_pos (by omega), at_ins s (by omega) (by omega)]
      have : old t (t + 1) = t := by unfold old; rw [if_neg (by omega)]; omega
      rw [this]
    · rw [upd_ne _ e', upd_ne _ e, at_app, at_app, l1, l2]
      by_cases l : i < m.length + 1
      · rw [if_pos l, if_pos l, at_ins s (by omega) e, at_ins s (by omega) e']
        have : old t i = old (t + 1) i := by unfold old; split <;> split <;> omega
        rw [this]
      · rw [if_neg l, if_neg l]
theorem dt_ins {n t : Nat} {m : List (List Int)} (s : List Int) (X : List (List Int)) (ht : t ≤ m.length) (hn : m.length < n) : dt n (at' (ins _ m t s ++ X)) = dsg (m.length - t) * dt n (at' (m ++ s :: X)) := by
  obtain ⟨d, hd⟩ : ∃ d, m.length = t + d := ⟨m.length - t, by omega⟩
  induction d generalizing t with
  | zero =>
    have : t = m.length := by omega
    subst this
    rw [ins_end, Nat.sub_self]
    have e1 : dsg 0 = 1 := rfl
    rw [e1, Int.one_mul]
  | succ d ih =>
    rw [dt_ins_step s X (by omega) hn, ih (by omega) (by omega)]
    have e : m.length - t = (m.length - (t + 1)) + 1 := by omega
    rw [e, sg_succ, Int.neg_mul]

theorem Elm.detX {p : Int} {n : Nat} {A m : List (List Int)} {P : Nat → Nat} {d : Int} (hp : prm p = true) (h : Elm p n A m P d) : ∀ X : List (List Int), A.length + X.length = n →
    (m.length = A.length ∧ dt n (at' (A ++ X)) % p = d * dt n (at' (m ++ X)) % p) ∨ (m.length < A.length ∧ dt n (at' (A ++ X)) % p = 0) := by
  have hpb := prm_bd hp
  induction h with
  | start P => intro X _; exact .inl ⟨rfl, by rw [Int.one_mul]⟩
  | @same A m P d r r' _ hrl hr h0 ih =>
    intro X hX
    simp only [List.length_append, List.length_cons, List.length_nil] at hX ⊢
    have e : A ++ [r] ++ X = A ++ r :: X := by simp
    rw [e]
    rcases ih (r :: X) (by simp only [List.length_cons]; omega) with ⟨h1, h2⟩ | ⟨h1, h2⟩
    · refine .inr ⟨by omega, ?_⟩
      rw [h2]
      have k : dt n (at' (m ++ r :: X)) % p = 0 := by
        rw [dt_red hr (by omega), dt_zero (k := m.length) (by omega) (fun j hj => by rw [upd_same]; exact h0 j hj)]
        rfl
      rw [Int.mul_emod, k]; simp
    · exact .inr ⟨by omega, h2⟩
  | @more A m m' P d r r' s q t _ k ih =>
    intro X hX
    simp only [List.length_append, List.length_cons, List.length_nil] at hX ⊢
    have e : A ++ [r] ++ X = A ++ r :: X := by simp
    have hl : (ins _ m' t s).length = m.length + 1 := by rw [ins_len s (by rw [k.ml]; exact k.tn), k.ml]
    rw [e, hl]
    rcases ih (r :: X) (by simp only [List.length_cons]; omega) with ⟨h1, h2⟩ | ⟨h1, h2⟩
    · refine .inl ⟨by omega, ?_⟩
      have hmn : m.length < n := by omega
      have hrq := k.red.rng q k.qc
      have hinv : num r' q * inv p (num r' q) % p = 1 := inv_mul hp (by have := k.q0; omega) hrq.2
      have e1 : dt n (upd (at' (m ++ r :: X)) m.length (num r')) % p = num r' q * dt n (upd (at' (m ++ r :: X)) m.length (num s)) % p := by
        rw [← dt_scale hmn]
        apply dt_mod
        intro i hi j hj
        unfold upd
        by_cases ei : i = m.length
        · rw [if_pos ei, if_pos ei, k.ss j hj, mul_emod_r, Int.mul_left_comm, ← mul_emod_r, hinv, Int.mul_one]
        · rw [if_neg ei, if_neg ei]
      have e2 : dt n (upd (at' (m ++ r :: X)) m.length (num s)) % p = dt n (at' (m' ++ s :: X)) % p := by
        rw [← dt_addcol hmn (Nat.le_refl _) (upd (at' (m ++ r :: X)) m.length (num s)) (fun i => (p - at' m i q) % p)]
        apply dt_mod
        intro i hi j hj
        rw [at_app]
        by_cases li : i < m.length
        · rw [if_pos li, if_pos (by rw [k.ml]; exact li), upd_ne _ (by omega), upd_same, k.mr i li j hj, Int.emod_emod, at_app, if_pos li]
        · rw [if_neg li, if_neg (by rw [k.ml]; exact li), k.ml]
          by_cases ei : i = m.length
          · rw [ei, upd_same, Nat.sub_self, at_cons0]
          · obtain ⟨x, hx⟩ : ∃ x, i - m.length = x + 1 := ⟨i - m.length - 1, by omega⟩
            rw [upd_ne _ ei, at_app, if_neg li, hx, at_cons, at_cons]
      have e3 := dt_ins s X (t := t) (m := m') (n := n) (by rw [k.ml]; exact k.tn) (by rw [k.ml]; exact hmn)
      rw [k.ml] at e3
      have e4 : dt n (at' (m ++ r :: X)) % p = num r' q * dt n (at' (m' ++ s :: X)) % p := by
        rw [dt_red k.red hmn, e1, Int.mul_emod, e2, ← Int.mul_emod]
      rw [h2, Int.mul_emod, e4, ← Int.mul_emod, e3, emod_mul]
      generalize dt n (at' (m' ++ s :: X)) = D
      unfold esgn dsg
      by_cases ev : (m.length - t) % 2 = 0
      · rw [if_pos ev, if_pos ev, Int.one_mul, Int.mul_assoc]
      · rw [if_neg ev, if_neg ev]
        generalize num r' q = x
        have c1 : d * (-x % p) * (-1 * D) = -1 * D * d * (-x % p) := by rw [Int.mul_comm (d * (-x % p)), ← Int.mul_assoc]
        have c2 : -1 * D * d * (-x) = d * (x * D) := by
          simp only [Int.neg_mul, Int.mul_neg, Int.neg_neg, Int.one_mul]
          rw [Int.mul_comm D d, Int.mul_assoc, Int.mul_comm D x]
        rw [c1, mul_emod_r, c2]
    · exact .inr ⟨by omega, h2⟩

theorem Rref.unit {p : Int} {n : Nat} {R : Nat → Nat → Int} {P : Nat → Nat} (h : Rref p n n R P) : (∀ i, i < n → P i = i) ∧ ∀ i, i < n → ∀ j, j < n → R i j = if i = j then 1 else 0 := by
  have lo : ∀ i, i < n → i ≤ P i := by
    intro i
    induction i with
    | zero => intro _; exact Nat.zero_le _
    | succ i ih => intro hi; have := ih (by omega); have := h.mono i (i + 1) (by omega) hi; omega
  have up : ∀ k i, i + k < n → P i + k ≤ P (i + k) := by
    intro k
    induction k with
    | zero => intro i _; exact Nat.le_refl _
    | succ k ih => intro i hi; have := ih i (by omega); have := h.mono (i + k) (i + (k + 1)) (by omega) hi; omega
  have eq : ∀ i, i < n → P i = i := fun i hi => by
    have h1 := lo i hi
    have h2 := up (n - 1 - i) i (by omega)
    have h3 := h.pv (i + (n - 1 - i)) (by omega)
    omega
  refine ⟨eq, fun i hi j hj => ?_⟩
  by_cases e : i = j
  · subst e; rw [if_pos rfl]; have := h.one i hi; rwa [eq i hi] at this
  · rw [if_neg e]; have := h.zer j hj i hi (fun q => e q.symm); rwa [eq j hj] at this
/-- The determinant of a square matrix modulo p. -/
def detP (p : Int) (A : List (List Int)) : Int := dt A.length (at' A) % p
theorem Elm.value {p : Int} {n : Nat} {A m : List (List Int)} {P : Nat → Nat} {d : Int} (hp : prm p = true) (h : Elm p n A m P d) (hn : A.length = n) :
    (m.length = n ∧ detP p A = d ∧ ∀ i, i < n → P i = i) ∨ (m.length < n ∧ detP p A = 0) := by
  unfold detP
  rcases h.detX hp [] (by simpa using hn) with ⟨h1, h2⟩ | ⟨h1, h2⟩
  · have hk := (h.kept hp).red
    have hmn : m.length = n := by omega
    rw [hmn] at hk
    refine .inl ⟨hmn, ?_, hk.unit.1⟩
    rw [List.append_nil, List.append_nil] at h2
    rw [hn, h2, dt_one hk.unit.2, Int.mul_one]
    have := h.det hp
    exact Int.emod_eq_of_lt this.1 this.2
  · rw [List.append_nil] at h2
    exact .inr ⟨by omega, by rw [hn]; exact h2⟩

end Go.Proofs.Ytbnegbpapjcmhaa

namespace Go.Proofs.Ytbnegbpapjcmhaa
open Go.RowKit
set_option linter.unusedVariables false

theorem eps_sg (k : Nat) : eps k = dsg k := by
  unfold eps dsg
  rcases Nat.mod_two_eq_zero_or_one k with h | h <;> simp [h]
theorem pow_bit (i j : Nat) : 2 ^ i / 2 ^ j % 2 = if i = j then 1 else 0 := by
  rw [← Nat.toNat_testBit, Nat.testBit_two_pow]
  by_cases h : i = j <;> simp [h]
theorem fz_pow (S : List Int) {a i : Nat} (ha : a / 2 ^ i % 2 = 0) : ∀ n, fz S a (2 ^ i) n = if i < n then eps (gr (a / 2 ^ (i + 1))) else 1
  | 0 => rfl
  | n + 1 => by
    show fz S a (2 ^ i) n * gi S a (2 ^ i) n = _
    rw [fz_pow S ha n]
    unfold gi
    rw [pow_bit]
    by_cases e : i = n
    · subst e
      rw [if_pos rfl, if_pos rfl, if_neg (Nat.lt_irrefl _), if_pos (Nat.lt_succ_self _), if_neg (by omega)]
      simp
    · rw [if_neg e, if_neg (show ¬ (0 : Nat) = 1 by decide), Int.mul_one]
      by_cases h : i < n
      · rw [if_pos h, if_pos (by omega)]
      · rw [if_neg h, if_neg (by omega)]
theorem pow_inj {i j : Nat} (h : 2 ^ i = 2 ^ j) : i = j := (Nat.pow_right_inj (by decide)).1 h
theorem vecF_sum (v : List Int) (b : Nat) : ∀ k, vecF v k b = sm k (fun i => if b = 2 ^ i then v.getD i 0 else 0)
  | 0 => rfl
  | k + 1 => by
    show (if b = 2 ^ k then v.getD k 0 else vecF v k b) = sm k _ + (if b = 2 ^ k then v.getD k 0 else 0)
    by_cases e : b = 2 ^ k
    · rw [if_pos e, if_pos e, sm_congr (g := fun _ => 0) (fun i hi => if_neg (fun h => by have := pow_inj (e.symm.trans h); omega)), sm_zero, Int.zero_add]
    · rw [if_neg e, if_neg e, Int.add_zero, vecF_sum v b k]
theorem bit_and : ∀ c, c < 64 → ∀ i, i < 6 → ((c ^^^ 2 ^ i) &&& 2 ^ i == 0) = decide (c / 2 ^ i % 2 = 1) := by decide +kernel
theorem bit_flip : ∀ c, c < 64 → ∀ i, i < 6 → c / 2 ^ i % 2 = 1 → (c ^^^ 2 ^ i) / 2 ^ i % 2 = 0 ∧ (c ^^^ 2 ^ i) / 2 ^ (i + 1) = c / 2 ^ (i + 1) := by decide +kernel
theorem sm_more {n N : Nat} (h : n ≤ N) {f : Nat → Int} (hz : ∀ i, n ≤ i → i < N → f i = 0) : sm N f = sm n f := by
  induction N with
  | zero => rw [show n = 0 by omega]
  | succ N ih =>
    by_cases e : n = N + 1
    · rw [e]
    · show sm N f + f N = sm n f
      rw [ih (by omega) (fun i h1 h2 => hz i h1 (by omega)), hz N (by omega) (Nat.lt_succ_self N), Int.add_zero]
/-- The wedge product with a vector. -/
theorem wg_vec (p : Int) {S : List Int} (h6 : S.length ≤ 6) (x : List Int) {v : List Int} (hv : v.length = S.length) {c : Nat} (hc : c < bl S) :
    kF p S 0 x (vecM S v) c = sm S.length (fun i => if c / 2 ^ i % 2 = 1 then x.getD (c ^^^ 2 ^ i) 0 * fm p S (c ^^^ 2 ^ i) (2 ^ i) S.length * v.getD i 0 else 0) % p := by
  unfold kF
  congr 1
  have hbl := bl_le h6
  have h1 : ∀ a, a < bl S → tk p S 0 x (vecM S v) c a = sm S.length (fun i => if a = c ^^^ 2 ^ i then (if c / 2 ^ i % 2 = 1 then x.getD (c ^^^ 2 ^ i) 0 * fm p S (c ^^^ 2 ^ i) (2 ^ i) S.length * v.getD i 0 else 0) else 0) := fun a ha => by
    have hx : a ^^^ c < bl S := Nat.xor_lt_two_pow ha hc
    have hy : (vecM S v).getD (a ^^^ c) 0 = sm S.length (fun i => if a ^^^ c = 2 ^ i then v.getD i 0 else 0) := by
      unfold vecM; rw [mkR_at _ hx, vecF_sum, hv]
    have hE : tk p S 0 x (vecM S v) c a = sm S.length (fun i => if kp 0 a (a ^^^ c) = true then x.getD a 0 * fm p S a (a ^^^ c) S.length * (if a ^^^ c = 2 ^ i then v.getD i 0 else 0) else 0) := by
      unfold tk tm
      rw [hy]
      by_cases hk : kp 0 a (a ^^^ c) = true
      · rw [if_pos hk, ← sm_mul]
        exact sm_congr fun i _ => by rw [if_pos hk]
      · rw [if_neg hk, sm_congr (g := fun _ => 0) (fun i _ => if_neg hk), sm_zero]
    rw [hE]
    apply sm_congr
    intro i hi
    have hi6 : i < 6 := by omega
    by_cases e : a = c ^^^ 2 ^ i
    · have e2 : a ^^^ c = 2 ^ i := by rw [e, Nat.xor_comm c, Nat.xor_assoc, Nat.xor_self, Nat.xor_zero]
      rw [if_pos e, e2, if_pos rfl]
      have e3 : kp 0 a (2 ^ i) = decide (c / 2 ^ i % 2 = 1) := by rw [e]; exact bit_and c (by omega) i hi6
      rw [e3]
      by_cases hb : c / 2 ^ i % 2 = 1
      · rw [if_pos (decide_eq_true hb), if_pos hb, e]
      · rw [if_neg (by simpa using hb), if_neg hb]
    · have e2 : ¬ a ^^^ c = 2 ^ i := fun h => e (by rw [← h, Nat.xor_comm a, ← Nat.xor_assoc, Nat.xor_self, Nat.zero_xor])
      rw [if_neg e, if_neg e2, Int.mul_zero, ite_self]
  rw [sm_congr h1, sm_swap]
  apply sm_congr
  intro i hi
  rw [sm_single, if_pos (show c ^^^ 2 ^ i < bl S from Nat.xor_lt_two_pow hc (Nat.pow_lt_pow_right (by decide) hi))]
theorem wv_wD {p : Int} {S : List Int} (hs : isSp p S = true) {m : List (List Int)} (hm : ∀ i, i < m.length → isVec p S.length (rw' m i) = true) : ∀ k, k ≤ m.length → ∀ c, c < bl S → (wvM p S m k).getD c 0 = wD (at' m) k c % p
  | 0, _, c, hc => by
    have hp := prm_bd (isSp_iff.1 hs).prime
    show (mOne S).getD c 0 = (if c = 0 then (1 : Int) else 0) % p
    unfold mOne
    rw [mkR_at _ hc]
    unfold oneF
    split
    · exact (Int.emod_eq_of_lt (by omega) (by omega)).symm
    · exact (Int.zero_emod p).symm
  | k + 1, hk, c, hc => by
    have h6 := (isSp_iff.1 hs).hi
    have hbl := bl_le h6
    have hv := (isVec_iff.1 (hm k (by omega))).len
    show (kM p S 0 (wvM p S m k) (vecM S (rw' m k))).getD c 0 = _
    rw [kM_at _ _ _ _ _ hc, wg_vec p h6 _ hv hc]
    have hT : wD (at' m) (k + 1) c = sm S.length (fun i => if c / 2 ^ i % 2 = 1 then wD (at' m) k (c ^^^ 2 ^ i) * dsg (gr (c / 2 ^ (i + 1))) * at' m k i else 0) := by
      show sm 6 _ = _
      exact sm_more h6 fun i hi _ => if_neg (by
        rw [Nat.div_eq_of_lt (Nat.lt_of_lt_of_le hc (Nat.pow_le_pow_right (by decide) hi))]; decide)
    rw [hT]
    apply sm_congr_p
    intro i hi
    have hi6 : i < 6 := by omega
    by_cases hb : c / 2 ^ i % 2 = 1
    · rw [if_pos hb, if_pos hb]
      obtain ⟨f1, f2⟩ := bit_flip c (by omega) i hi6 hb
      have hx : c ^^^ 2 ^ i < bl S := Nat.xor_lt_two_pow hc (Nat.pow_lt_pow_right (by decide) hi)
      rw [wv_wD hs hm k (by omega) _ hx]
      unfold fm
      rw [fz_pow S f1, if_pos hi, f2, eps_sg]
      show wD (at' m) k (c ^^^ 2 ^ i) % p * (dsg (gr (c / 2 ^ (i + 1))) % p) * at' m k i % p = _
      rw [← em_l, em_l (wD (at' m) k (c ^^^ 2 ^ i)), em_r, em_l]
    · rw [if_neg hb, if_neg hb]
end Go.Proofs.Ytbnegbpapjcmhaa

namespace Go.Proofs.Ytbnegbpapjcmhaa
open Go.RowKit
set_option linter.unusedVariables false

theorem tmod_neg {n p : Int} (hn : n < 0) (hp : 0 < p) : n.tmod p = -((-n) % p) := by
  have h : n = -(-n) := by omega
  rw [h, Int.neg_tmod, Int.tmod_eq_emod_of_nonneg (by omega)]
  simp
theorem tmod_facts {n p : Int} (hn : n < 0) (hp : 0 < p) : -p < n.tmod p ∧ n.tmod p ≤ 0 ∧ (n.tmod p < 0 → n.tmod p + p = n % p) ∧ (n.tmod p = 0 → n % p = 0) := by
  rw [tmod_neg hn hp]
  have h1 := Int.emod_nonneg (-n) (by omega : p ≠ 0)
  have h2 := Int.emod_lt_of_pos (-n) hp
  have h3 := Int.emod_nonneg n (by omega : p ≠ 0)
  have h4 := Int.emod_lt_of_pos n hp
  have h5 := Int.mul_ediv_add_emod (-n) p
  have h6 := Int.mul_ediv_add_emod n p
  have key : ∀ q : Int, (0 < (-n) % p + n % p - 0 → True) := fun _ _ => trivial
  have h7 : ((-n) % p + n % p) % p = 0 := by rw [← Int.add_emod, Int.add_left_neg]; simp
  refine ⟨by omega, by omega, fun h => ?_, fun h => ?_⟩
  · have h8 : (-n) % p + n % p = p := by
      by_cases hlt : (-n) % p + n % p < p
      · rw [Int.emod_eq_of_lt (by omega) hlt] at h7; omega
      · have h9 : ((-n) % p + n % p - p) % p = 0 := by rw [Int.sub_emod, h7]; simp
        rw [Int.emod_eq_of_lt (by omega) (by omega)] at h9; omega
    omega
  · have h8 : (-n) % p = 0 := by omega
    rw [h8, Int.zero_add, Int.emod_eq_of_lt h3 h4] at h7
    exact h7

set_option maxHeartbeats 400000 in
theorem remainderOf_any (p n : Int) (w : World) (hp : prm p = true) (n0 : -9223372036854775808 ≤ n) (n1 : n ≤ 9223372036854775807) :
    Calls Try.prog 113 #[.int .i64 p, .int .i64 n] w fun e w' => e = .returned (.agg #[.int .i64 p, .int .i64 (n % p)]) ∧ Below w.heap.size w w' := by
  have hb := prm_bd hp
  have hm := mod_bd hp n
  clear hp
  by_cases hn : 0 ≤ n
  · go_enter Try.func113, Try.ntmps113
    go_wp2
    exact bodyPost_ret (v := .agg #[.int .i64 p, .int .i64 (n % p)]) (by simp [results, Try.results113, go_sem]) rfl ⟨rfl, (Below.refl _ _).alloc (Nat.le_refl _) _⟩
  · obtain ⟨t1, t2, t3, t4⟩ := tmod_facts (n := n) (p := p) (by omega) (by omega)
    by_cases ht : n.tmod p < 0
    · have H := Lib.hid (t3 ht)
      clear t3 t4
      go_enter Try.func113, Try.ntmps113
      go_wp2
      rw [H.out]
      exact bodyPost_ret (v := .agg #[.int .i64 p, .int .i64 (n % p)]) (by simp [results, Try.results113, go_sem]) rfl ⟨rfl, (Below.refl _ _).alloc (Nat.le_refl _) _⟩
    · have H0 : Hid (n.tmod p = n % p) := by show n.tmod p = n % p; have : n.tmod p = 0 := by omega
                                             rw [t4 this, this]
      clear t3 t4
      go_enter Try.func113, Try.ntmps113
      go_wp2
      rw [H0.out]
      exact bodyPost_ret (v := .agg #[.int .i64 p, .int .i64 (n % p)]) (by simp [results, Try.results113, go_sem]) rfl ⟨rfl, (Below.refl _ _).alloc (Nat.le_refl _) _⟩

set_option maxHeartbeats 400000 in
theorem times_any (p a b : Int) (w : World) (hp : prm p = true) (a0 : 0 ≤ a) (a1 : a < p) (b0 : 0 ≤ b) (b1 : b < p) :
    Calls Try.prog 108 #[.agg #[.int .i64 p, .int .i64 a], .agg #[.int .i64 p, .int .i64 b]] w fun e w' => e = .returned (.agg #[.int .i64 p, .int .i64 (a * b % p)]) ∧ Below w.heap.size w w' := by
  have hb := prm_bd hp
  obtain ⟨m0, m1⟩ := mul_bd hp a0 a1 b0 b1
  have HP := Lib.hid hp
  clear hp
  go_enter Try.func108, Try.ntmps108
  go_wp2_with (go_at_call 113; refine (remainderOf_any _ _ _ HP.out (by omega) (by omega)).mono ?_; rintro e w1 ⟨rfl, hb1⟩; obtain ⟨hc, hf⟩ := bcell hb1)
  refine bodyPost_ret (v := .agg #[.int .i64 p, .int .i64 (a * b % p)]) (by simp [results, Try.results108, go_sem, hc]) rfl ⟨rfl, ?_⟩
  (have hs_hb1 := hb1.size; (repeat' (first | with_reducible exact Below.refl _ _ | (with_reducible refine Below.setCell ?_ ?_ _) | (with_reducible refine Below.alloc ?_ ?_ _) | (with_reducible refine Below.drew ?_) | (with_reducible refine below_step ?_ ?_ hb1))); all_goals (first | (simp; done) | omega | (simp; omega) | (simp at hs_hb1 ⊢; omega)))

end Go.Proofs.Ytbnegbpapjcmhaa

namespace Go.Proofs.Ytbnegbpapjcmhaa
open Go.RowKit
set_option linter.unusedVariables false

theorem field_value (x y : Value) (w : World) : (Instr.field 97 (.agg #[x, y]) 1).run Try.prog w = .ok y w := by kernel_rfl

/-- A number lies in a block: its prime and its value. -/
structure NumAt (w : World) (b : Nat) (p v : Int) : Prop where
  c0 : w.cell? ⟨b, 0, none⟩ = some (.int .i64 p)
  c1 : w.cell? ⟨b, 1, none⟩ = some (.int .i64 v)
  f0 : w.frozen? ⟨b, 0, none⟩ = false
  f1 : w.frozen? ⟨b, 1, none⟩ = false
theorem NumAt.keep {w w1 : World} {b : Nat} {p v : Int} (h : NumAt w b p v) (hb : Below w.heap.size w w1) (lt : b < w.heap.size) : NumAt w1 b p v :=
  ⟨(hb.cell (p := ⟨b, 0, none⟩) lt).trans h.c0, (hb.cell (p := ⟨b, 1, none⟩) lt).trans h.c1, (hb.frozen (p := ⟨b, 0, none⟩) lt).trans h.f0, (hb.frozen (p := ⟨b, 1, none⟩) lt).trans h.f1⟩
theorem NumAt.alloc {w : World} {b : Nat} {p v : Int} (h : NumAt w b p v) (lt : b < w.heap.size) (o : Obj) : NumAt (w.alloc o) b p v :=
  h.keep ((Below.refl _ _).alloc (Nat.le_refl _) o) lt
theorem numAt_new (w : World) (p v : Int) (t : TypeId) : NumAt (w.alloc (.cells #[.int .i64 p, .int .i64 v] t)) w.heap.size p v :=
  ⟨by simp [go_sem], by simp [go_sem], by simp [go_sem], by simp [go_sem]⟩
theorem NumAt.drew {w : World} {b : Nat} {p v : Int} (h : NumAt w b p v) : NumAt w.drew b p v := ⟨h.c0, h.c1, h.f0, h.f1⟩
theorem NumAt.set {w : World} {b : Nat} {p v : Int} (h : NumAt w b p v) (q u : Int) : NumAt ((w.setCell ⟨b, 0, none⟩ (.int .i64 q)).setCell ⟨b, 1, none⟩ (.int .i64 u)) b q u :=
  ⟨by simp [go_sem, h.c0], by simp [go_sem, h.c1], by simp [go_sem, h.f0], by simp [go_sem, h.f1]⟩
theorem NumAt.far {w : World} {b c : Nat} {p v : Int} (h : NumAt w b p v) (hne : b ≠ c) (o : Nat) (x : Value) : NumAt (w.setCell ⟨c, o, none⟩ x) b p v :=
  ⟨(World.cell?_setCell_other _ _ _ _ (fun e => hne (by injection e with e1; exact e1.symm))).trans h.c0, (World.cell?_setCell_other _ _ _ _ (fun e => hne (by injection e with e1; exact e1.symm))).trans h.c1, by simp [go_sem, h.f0], by simp [go_sem, h.f1]⟩

end Go.Proofs.Ytbnegbpapjcmhaa

namespace Go.Proofs.Ytbnegbpapjcmhaa
open Go.RowKit
set_option linter.unusedVariables false

theorem ca0 {W : World} {o : Obj} {a : Addr} {u : Value} (h : W.cell? a = some u) : (W.alloc o).cell? a = some u := Lib.cell?_alloc_some o h
end Go.Proofs.Ytbnegbpapjcmhaa

namespace Go.Proofs.Ytbnegbpapjcmhaa
open Go.RowKit
set_option linter.unusedVariables false

/-- Whether a term of grade g has come. -/
def cm (x : List Int) (left : Lit → Bool) (g : Nat) : Bool := (List.range x.length).any fun j => decide (gr j = g) && decide (x.getD j 0 ≠ 0) && !(td left j)
end Go.Proofs.Ytbnegbpapjcmhaa

namespace Go.Proofs.Ytbnegbpapjcmhaa
open Go.RowKit
set_option linter.unusedVariables false

/-- A list is handed back by the model. -/
def SRow (R : List Int) (w : World) (e : Ending) (w' : World) : Prop := ∃ r k, e = .returned (.slice r R.length k) ∧ RowIn w.heap.size w'.heap.size w' r R ∧ Below w.heap.size w w'
end Go.Proofs.Ytbnegbpapjcmhaa
