/-
  Elimination row by row: what taking one row more does to reduced rows. No Go in sight.
  No conditions.
  Elimination row by row as a relation: what steps have led from the rows taken to the reduced rows, their pivots and the determinant. No Go in sight.
  No conditions.
  What the program's elimination counts is the determinant. No Go in sight.
  No conditions.
  The wedge product of vectors and the determinant. No Go in sight.
  No conditions.
  A matrix whose outer list is one's own, each row in a block of numbers: rows are put in the place of others.
  No conditions.
  A number that lies in memory: what keeps it, what writes it, what reads it.
  No conditions.
  What inverses of numbers are, in the program and in the model: contracts (for a seat that holds no more of chapter 1).
  Conditions: the prime is one, the numbers are remainders by it.
  The model's reduced bases: a contract.
  Conditions: the list of vectors is a row of rows of known cells with numbers of the prime, all of one length.
  The model's determinant, step by step. No Go in sight.
  No conditions.
  The model's reduced bases: the walk.
  Conditions: the list of vectors is a row of rows of known cells with numbers of the prime, all of one length, at least one.
  What the program's and the model's checks of lists of numbers, matrices and lists of vectors return.
  Conditions: they are nil or rows of known cells.
  Checks of lists of vectors under one bound on all numbers.
  Conditions: they are nil or rows of known cells, of at most 1048576 numbers.
  What the program's checks of matrices return, and its new matrices of zeros.
  Conditions: the matrices are nil or rows of known cells.
  Sizes of matrices.
  No conditions.
  The reduced basis as a function of the rows; the model's SpanBasis and RankOf: contracts.
  Conditions: the list of vectors is a row of rows of known cells.
-/
import Derived.Test.YtcmedhkamjclmaaQv4
import Derived.Test.YtcmedhkamjclmaaQv2
import Derived.Test.YtcmedhkamjclmaaQv1
import Derived.Outline
import Derived.BigQuiet
import Derived.Deep.QuietTactic
import Derived.Deep.RegionHeld3
import Derived.RegionTactic
import Derived.Deep.RegionLaw
import Derived.Deep.RegionWith
import Derived.ChangeAlike
namespace Go.Proofs.Ytcmedhkamjclmaa
set_option linter.unusedVariables false

/-- Reduced rows m, with pivots P, of the rows A. -/
structure Kept (p : Int) (c : Nat) (A m : List (List Int)) (P : Nat → Nat) : Prop where
  len : ∀ i, i < m.length → (rw' m i).length = c
  red : Rref p m.length c (at' m) P
  nul : ∀ x, Go.Proofs.Ytcmedhkamjclmaa.nul p A.length c (at' A) x ↔ Go.Proofs.Ytcmedhkamjclmaa.nul p m.length c (at' m) x
theorem Kept.start (p : Int) (c : Nat) (P : Nat → Nat) : Kept p c [] [] P where
  len i hi := by simp at hi
  red := ⟨fun i hi => by simp at hi, fun i i' _ hi => by simp at hi, fun i hi => by simp at hi, fun i hi => by simp at hi, fun i hi => by simp at hi, fun i hi => by simp at hi⟩
  nul x := by simp [Go.Proofs.Ytcmedhkamjclmaa.nul]
/-- The numbers of a list. -/
def num (z : List Int) (j : Nat) : Int := z.getD j 0
theorem at_append_old {m : List (List Int)} {z : List Int} {i : Nat} (h : i < m.length) : at' (m ++ [z]) i = at' m i := by
  funext j
  unfold at' rw'
  simp only [List.getD_eq_getElem?_getD]
  rw [List.getElem?_append_left h]
theorem at_append_new (m : List (List Int)) (z : List Int) : at' (m ++ [z]) m.length = num z := by
  funext j
  unfold at' rw' num
  simp
theorem nul_append {p : Int} {c : Nat} {A : List (List Int)} {r : List Int} {x : Nat → Int} : nul p (A ++ [r]).length c (at' (A ++ [r])) x ↔ nul p A.length c (at' A) x ∧ van p c (num r) x := by
  simp only [List.length_append, List.length_cons, List.length_nil]
  constructor
  · intro h
    refine ⟨fun i hi => ?_, ?_⟩
    · have := h i (by omega); rw [at_append_old hi] at this; exact this
    · have := h A.length (by omega); rw [at_append_new] at this; exact this
  · rintro ⟨h1, h2⟩ i hi
    by_cases e : i < A.length
    · rw [at_append_old e]; exact h1 i e
    · have : i = A.length := by omega
      subst this
      rw [at_append_new]; exact h2
/-- The row that was taken is a sum of multiples of those before it. -/
theorem Kept.same {p : Int} {c : Nat} {A m : List (List Int)} {P : Nat → Nat} {r r' : List Int} (h : Kept p c A m P) (hr : ∀ x, Go.Proofs.Ytcmedhkamjclmaa.nul p m.length c (at' m) x → (van p c (num r') x ↔ van p c (num r) x)) (h0 : ∀ j, j < c → num r' j = 0) : Kept p c (A ++ [r]) m P :=
  ⟨h.len, h.red, fun x => by
    rw [nul_append, h.nul x]
    constructor
    · exact fun g => g.1
    · intro g
      refine ⟨g, (hr x g).1 ?_⟩
      unfold van
      have e : sm c (fun j => num r' j * x j) = sm c (fun _ => 0) := sm_congr (fun j hj => by rw [h0 j hj, Int.zero_mul])
      rw [e, sm_zero]; rfl⟩
def ins (α : Type) (l : List α) (t : Nat) (x : α) : List α := l.take t ++ x :: l.drop t
theorem ins_len {α : Type} {l : List α} {t : Nat} (x : α) (h : t ≤ l.length) : (ins α l t x).length = l.length + 1 := by
  simp [ins]; omega
theorem ins_lt {α : Type} {l : List α} {t i : Nat} (x d : α) (h : t ≤ l.length) (hi : i < t) : (ins α l t x).getD i d = l.getD i d := by
  simp only [ins, List.getD_eq_getElem?_getD]
  rw [List.getElem?_append_left (by rw [List.length_take]; omega), List.getElem?_take, if_pos hi]
theorem ins_eq {α : Type} {l : List α} {t : Nat} (x d : α) (h : t ≤ l.length) : (ins α l t x).getD t d = x := by
  simp only [ins, List.getD_eq_getElem?_getD]
  rw [List.getElem?_append_right (by rw [List.length_take]; omega), List.length_take, Nat.min_eq_left h]
  simp
theorem ins_gt {α : Type} {l : List α} {t i : Nat} (x d : α) (h : t ≤ l.length) (hi : t < i) : (ins α l t x).getD i d = l.getD (i - 1) d := by
  simp only [ins, List.getD_eq_getElem?_getD]
  rw [List.getElem?_append_right (by rw [List.length_take]; omega), List.length_take, Nat.min_eq_left h]
  obtain ⟨k, rfl⟩ : ∃ k, i = t + 1 + k := ⟨i - t - 1, by omega⟩
  have e1 : t + 1 + k - t = k + 1 := by omega
  have e2 : t + 1 + k - 1 = t + k := by omega
  rw [e1, e2, List.getElem?_cons_succ, List.getElem?_drop]
/-- Where an index of the longer list comes from. -/
def old (t i : Nat) : Nat := if i < t then i else i - 1
theorem old_lt {n t i : Nat} (h : i < n + 1) (hne : i ≠ t) (ht : t ≤ n) : old t i < n := by unfold old; split <;> omega
theorem old_inj {t i i' : Nat} (h : i ≠ t) (h' : i' ≠ t) (hne : i ≠ i') : old t i ≠ old t i' := by unfold old; split <;> split <;> omega
theorem at_ins {m : List (List Int)} {t i : Nat} (z : List Int) (ht : t ≤ m.length) (hne : i ≠ t) : at' (ins _ m t z) i = at' m (old t i) := by
  funext j
  unfold at' rw' old
  rcases Nat.lt_trichotomy i t with l | l | l
  · rw [if_pos l, ins_lt z [] ht l]
  · exact absurd l hne
  · rw [if_neg (by omega), ins_gt z [] ht l]
theorem at_ins_new {m : List (List Int)} {t : Nat} (z : List Int) (ht : t ≤ m.length) : at' (ins _ m t z) t = num z := by
  funext j
  unfold at' rw' num
  rw [ins_eq z [] ht]
theorem rw_ins {m : List (List Int)} {t i : Nat} (z : List Int) (ht : t ≤ m.length) (hne : i ≠ t) : rw' (ins _ m t z) i = rw' m (old t i) := by
  unfold rw' old
  rcases Nat.lt_trichotomy i t with l | l | l
  · rw [if_pos l, ins_lt z [] ht l]
  · exact absurd l hne
  · rw [if_neg (by omega), ins_gt z [] ht l]
theorem rw_ins_new {m : List (List Int)} {t : Nat} (z : List Int) (ht : t ≤ m.length) : rw' (ins _ m t z) t = z := by unfold rw'; rw [ins_eq z [] ht]

/-- One row more, with its pivot q, put at place t. -/
theorem Kept.more {p : Int} {c : Nat} {A m m' : List (List Int)} {P : Nat → Nat} {r r' s : List Int} {q t : Nat} (hp : prm p = true) (h : Kept p c A m P)
    (hr : ∀ x, Go.Proofs.Ytcmedhkamjclmaa.nul p m.length c (at' m) x → (van p c (num r') x ↔ van p c (num r) x)) (hP : ∀ i, i < m.length → num r' (P i) = 0) (hrr : ∀ j, j < c → 0 ≤ num r' j ∧ num r' j < p)
    (hq : q < c) (hq0 : num r' q ≠ 0) (hql : ∀ j, j < q → num r' j = 0)
    (hs : ∀ j, j < c → num s j = num r' j * inv p (num r' q) % p) (hsl : s.length = c)
    (hm : m'.length = m.length) (hml : ∀ i, i < m.length → (rw' m' i).length = c) (hmr : ∀ i, i < m.length → ∀ j, j < c → at' m' i j = (at' m i j + (p - at' m i q) % p * num s j) % p)
    (ht : t ≤ m.length) (htl : ∀ i, i < t → P i < q) (htr : ∀ i, t ≤ i → i < m.length → q < P i) :
    Kept p c (A ++ [r]) (ins _ m' t s) (fun i => if i = t then q else P (old t i)) := by
  have hpb := prm_bd hp
  have hrq := hrr q hq
  have ht' : t ≤ m'.length := by omega
  have hlen : (ins _ m' t s).length = m.length + 1 := by rw [ins_len s ht', hm]
  have hsq : num s q = 1 := by rw [hs q hq]; exact inv_mul hp (by omega) hrq.2
  have hs0 : ∀ j, j < q → num s j = 0 := fun j hj => by rw [hs j (by omega), hql j hj]; simp
  have hsP : ∀ i, i < m.length → num s (P i) = 0 := fun i hi => by rw [hs _ (h.red.pv i hi), hP i hi]; simp
  have hmq : ∀ i, i < m.length → at' m' i q = 0 := fun i hi => by
    rw [hmr i hi q hq, hsq, Int.mul_one]
    have r1 := h.red.rng i hi q hq
    by_cases e : at' m i q = 0
    · rw [e]; simp
    · rw [Int.emod_eq_of_lt (a := p - at' m i q) (by omega) (by omega)]
      have : at' m i q + (p - at' m i q) = p := by omega
      rw [this]; simp
  have hkeep : ∀ i, i < m.length → ∀ j, j < c → num s j = 0 → at' m' i j = at' m i j := fun i hi j hj h0 => by
    rw [hmr i hi j hj, h0, Int.mul_zero, Int.add_zero]
    have r1 := h.red.rng i hi j hj
    exact Int.emod_eq_of_lt r1.1 r1.2
  have htq : ∀ i, i < m.length → (i < t ↔ P i < q) := fun i hi => ⟨htl i, fun g => by
    rcases Nat.lt_or_ge i t with l | l
    · exact l
    · have := htr i l hi; omega⟩
  have fstm : ∀ i, i < m.length → ∀ j, j < P i → at' m' i j = 0 := fun i hi j hj => by
    have hjc : j < c := Nat.lt_trans hj (h.red.pv i hi)
    rw [hmr i hi j hjc, h.red.fst i hi j hj, Int.zero_add]
    by_cases e : P i < q
    · rw [hs0 j (by omega)]; simp
    · have hPq : q < P i := by
        rcases Nat.lt_or_ge i t with l | l
        · exact absurd (htl i l) e
        · exact htr i l hi
      rw [h.red.fst i hi q hPq]; simp
  refine ⟨fun i hi => ?_, ?_, fun x => ?_⟩
  · rw [hlen] at hi
    by_cases e : i = t
    · subst e; rw [rw_ins_new s ht']; exact hsl
    · rw [rw_ins s ht' e]; exact hml _ (old_lt hi e ht)
  · rw [hlen]
    refine ⟨fun i hi => ?_, fun i i' hii hi' => ?_, fun i hi => ?_, fun i hi i' hi' hne => ?_, fun i hi j hj => ?_, fun i hi j hj => ?_⟩
    · show (if i = t then q else P (old t i)) < c
      by_cases e : i = t
      · rw [if_pos e]; exact hq
      · rw [if_neg e]; exact h.red.pv _ (old_lt hi e ht)
    · show (if i = t then q else P (old t i)) < if i' = t then q else P (old t i')
      by_cases e : i = t
      · rw [if_pos e, if_neg (by omega)]
        exact htr _ (by unfold old; rw [if_neg (by omega)]; omega) (old_lt hi' (by omega) ht)
      · rw [if_neg e]
        by_cases e' : i' = t
        · rw [if_pos e']
          exact htl _ (by unfold old; rw [if_pos (by omega)]; omega)
        · rw [if_neg e']
          exact h.red.mono _ _ (by unfold old; split <;> split <;> omega) (old_lt hi' e' ht)
    · show at' (ins _ m' t s) i (if i = t then q else P (old t i)) = 1
      by_cases e : i = t
      · rw [if_pos e, e, at_ins_new s ht']; exact hsq
      · have ho := old_lt hi e ht
        rw [if_neg e, at_ins s ht' e, hkeep _ ho _ (h.red.pv _ ho) (hsP _ ho)]
        exact h.red.one _ ho
    · show at' (ins _ m' t s) i' (if i = t then q else P (old t i)) = 0
      by_cases e : i = t
      · have e' : i' ≠ t := by omega
        rw [if_pos e, at_ins s ht' e']
        exact hmq _ (old_lt hi' e' ht)
      · have ho := old_lt hi e ht
        rw [if_neg e]
        by_cases e' : i' = t
        · rw [e', at_ins_new s ht']; exact hsP _ ho
        · have ho' := old_lt hi' e' ht
          rw [at_ins s ht' e', hkeep _ ho' _ (h.red.pv _ ho) (hsP _ ho)]
          exact h.red.zer _ ho _ ho' (old_inj e e' hne)
    · have hj' : j < (if i = t then q else P (old t i)) := hj
      by_cases e : i = t
      · rw [if_pos e] at hj'; rw [e, at_ins_new s ht']; exact hs0 j hj'
      · rw [if_neg e] at hj'; rw [at_ins s ht' e]; exact fstm _ (old_lt hi e ht) j hj'
    · by_cases e : i = t
      · rw [e, at_ins_new s ht', hs j hj]; exact mod_bd hp _
      · rw [at_ins s ht' e, hmr _ (old_lt hi e ht) j hj]; exact mod_bd hp _
  · rw [nul_append, h.nul x, hlen]
    have vs : van p c (num s) x ↔ van p c (num r') x := van_scale (g := num r' q) hs (by rw [Int.mul_comm, inv_mul hp (by omega) hrq.2, Int.emod_eq_of_lt (by omega) (by omega)])
    have vm : van p c (num s) x → ∀ i, i < m.length → (van p c (at' m' i) x ↔ van p c (at' m i) x) := fun hv i hi => van_add (hmr i hi) hv
    constructor
    · rintro ⟨g1, g2⟩ i hi
      have hv : van p c (num s) x := vs.2 ((hr x g1).2 g2)
      by_cases e : i = t
      · rw [e, at_ins_new s ht']; exact hv
      · have ho := old_lt hi e ht
        rw [at_ins s ht' e]; exact (vm hv _ ho).2 (g1 _ ho)
    · intro g
      have hv : van p c (num s) x := by have := g t (by omega); rw [at_ins_new s ht'] at this; exact this
      have g1 : Go.Proofs.Ytcmedhkamjclmaa.nul p m.length c (at' m) x := fun i hi => by
        by_cases e : i < t
        · have := g i (by omega)
          rw [at_ins s ht' (by omega)] at this
          have e2 : old t i = i := by unfold old; rw [if_pos e]
          rw [e2] at this
          exact (vm hv i hi).1 this
        · have := g (i + 1) (by omega)
          rw [at_ins s ht' (by omega)] at this
          have e2 : old t (i + 1) = i := by unfold old; rw [if_neg (by omega)]; omega
          rw [e2] at this
          exact (vm hv i hi).1 this
      exact ⟨g1, (hr x g1).1 (vs.1 hv)⟩

/-- A row is reduced by the first k of reduced rows. -/
structure Redu (p : Int) (c : Nat) (m : List (List Int)) (P : Nat → Nat) (r r' : List Int) (k : Nat) : Prop where
  len : r'.length = c
  rng : ∀ j, j < c → 0 ≤ num r' j ∧ num r' j < p
  zer : ∀ i, i < k → num r' (P i) = 0
  van : ∀ x, Go.Proofs.Ytcmedhkamjclmaa.nul p m.length c (at' m) x → (Go.Proofs.Ytcmedhkamjclmaa.van p c (num r') x ↔ Go.Proofs.Ytcmedhkamjclmaa.van p c (num r) x)
theorem Redu.start {p : Int} {c : Nat} {m : List (List Int)} {P : Nat → Nat} {r : List Int} (hl : r.length = c) (hr : ∀ j, j < c → 0 ≤ num r j ∧ num r j < p) : Redu p c m P r r 0 :=
  ⟨hl, hr, fun i hi => by omega, fun x _ => Iff.rfl⟩
theorem Redu.next {p : Int} {c : Nat} {m : List (List Int)} {P : Nat → Nat} {r r' r'' : List Int} {k : Nat} (hp : prm p = true) (h : Redu p c m P r r' k) (hR : Rref p m.length c (at' m) P) (hk : k < m.length)
    (hl : r''.length = c) (hn : ∀ j, j < c → num r'' j = (num r' j + (p - num r' (P k)) % p * at' m k j) % p) : Redu p c m P r r'' (k + 1) := by
  have hpb := prm_bd hp
  refine ⟨hl, fun j hj => by rw [hn j hj]; exact mod_bd hp _, fun i hi => ?_, fun x hx => ?_⟩
  · have hik : i < m.length := by omega
    rw [hn _ (hR.pv i hik)]
    by_cases e : i = k
    · subst e
      rw [hR.one i hk, Int.mul_one]
      have r1 := h.rng _ (hR.pv i hk)
      by_cases e0 : num r' (P i) = 0
      · rw [e0]; simp
      · rw [Int.emod_eq_of_lt (a := p - num r' (P i)) (by omega) (by omega)]
        have : num r' (P i) + (p - num r' (P i)) = p := by omega
        rw [this]; simp
    · rw [hR.zer i hik k hk e, h.zer i (by omega)]; simp
  · exact (van_add hn (hx k hk)).trans (h.van x hx)

end Go.Proofs.Ytcmedhkamjclmaa

namespace Go.Proofs.Ytcmedhkamjclmaa
set_option linter.unusedVariables false

/-- A row reduced by the first k of reduced rows: with the sum that was added. -/
structure Red2 (p : Int) (c : Nat) (m : List (List Int)) (P : Nat → Nat) (r r' : List Int) (k : Nat) : Prop extends Redu p c m P r r' k where
  lin : ∃ K : Nat → Int, ∀ j, j < c → num r' j % p = (num r j + sm m.length (fun i => K i * at' m i j)) % p
theorem sm_upd (n k : Nat) (K : Nat → Int) (x : Int) (f : Nat → Int) (hk : k < n) : sm n (fun i => (if i = k then K i + x else K i) * f i) = sm n (fun i => K i * f i) + x * f k := by
  have e : sm n (fun i => (if i = k then K i + x else K i) * f i) = sm n (fun i => K i * f i + (if i = k then x * f k else 0)) := sm_congr (fun i _ => by
    by_cases e : i = k
    · subst e; rw [if_pos rfl, if_pos rfl, Int.add_mul]
    · rw [if_neg e, if_neg e, Int.add_zero])
  rw [e, sm_add, sm_single, if_pos hk]
theorem Red2.start {p : Int} {c : Nat} {m : List (List Int)} {P : Nat → Nat} {r : List Int} (hl : r.length = c) (hr : ∀ j, j < c → 0 ≤ num r j ∧ num r j < p) : Red2 p c m P r r 0 where
  toRedu := Redu.start hl hr
  lin := by
    refine ⟨fun _ => 0, fun j _ => ?_⟩
    have : sm m.length (fun i => (0 : Int) * at' m i j) = sm m.length (fun _ => 0) := sm_congr (fun i _ => Int.zero_mul _)
    rw [this, sm_zero, Int.add_zero]
theorem Red2.next {p : Int} {c : Nat} {m : List (List Int)} {P : Nat → Nat} {r r' r'' : List Int} {k : Nat} (hp : prm p = true) (h : Red2 p c m P r r' k) (hR : Rref p m.length c (at' m) P) (hk : k < m.length)
    (hl : r''.length = c) (hn : ∀ j, j < c → num r'' j = (num r' j + (p - num r' (P k)) % p * at' m k j) % p) : Red2 p c m P r r'' (k + 1) where
  toRedu := h.toRedu.next hp hR hk hl hn
  lin := by
    obtain ⟨K, hK⟩ := h.lin
    refine ⟨fun i => if i = k then K i + (p - num r' (P k)) % p else K i, fun j hj => ?_⟩
    rw [sm_upd _ _ _ _ _ hk, hn j hj, Int.emod_emod, Int.add_emod, hK j hj, ← Int.add_emod, Int.add_assoc]

/-- What a row that is taken and left does to the rows that are kept. -/
structure Took (p : Int) (c : Nat) (m : List (List Int)) (P : Nat → Nat) (r r' s : List Int) (m' : List (List Int)) (q t : Nat) : Prop where
  rl : r.length = c
  red : Red2 p c m P r r' m.length
  qc : q < c
  q0 : num r' q ≠ 0
  ql : ∀ j, j < q → num r' j = 0
  ss : ∀ j, j < c → num s j = num r' j * inv p (num r' q) % p
  sl : s.length = c
  ml : m'.length = m.length
  mc : ∀ i, i < m.length → (rw' m' i).length = c
  mr : ∀ i, i < m.length → ∀ j, j < c → at' m' i j = (at' m i j + (p - at' m i q) % p * num s j) % p
  tn : t ≤ m.length
  tl : ∀ i, i < t → P i < q
  tr : ∀ i, t ≤ i → i < m.length → q < P i
/-- The sign of an insertion at t of n. -/
def sgn (p : Int) (n t : Nat) (x : Int) : Int := if (n - t) % 2 = 0 then x else -x % p
inductive Elm (p : Int) (c : Nat) : List (List Int) → List (List Int) → (Nat → Nat) → Int → Prop
  | start (P : Nat → Nat) : Elm p c [] [] P 1
  | same {A m : List (List Int)} {P : Nat → Nat} {d : Int} {r r' : List Int} : Elm p c A m P d → r.length = c → Red2 p c m P r r' m.length → (∀ j, j < c → num r' j = 0) → Elm p c (A ++ [r]) m P d
  | more {A m m' : List (List Int)} {P : Nat → Nat} {d : Int} {r r' s : List Int} {q t : Nat} : Elm p c A m P d → Took p c m P r r' s m' q t →
      Elm p c (A ++ [r]) (ins _ m' t s) (fun i => if i = t then q else P (old t i)) (d * sgn p m.length t (num r' q) % p)

theorem Elm.kept {p : Int} {c : Nat} {A m : List (List Int)} {P : Nat → Nat} {d : Int} (hp : prm p = true) (h : Elm p c A m P d) : Kept p c A m P := by
  induction h with
  | start P => exact Kept.start p c P
  | same _ _ hr h0 ih => exact ih.same hr.van h0
  | more _ k ih => exact ih.more hp k.red.van k.red.zer k.red.rng k.qc k.q0 k.ql k.ss k.sl k.ml k.mc k.mr k.tn k.tl k.tr
theorem Elm.det {p : Int} {c : Nat} {A m : List (List Int)} {P : Nat → Nat} {d : Int} (hp : prm p = true) (h : Elm p c A m P d) : 0 ≤ d ∧ d < p := by
  have := prm_bd hp
  induction h with
  | start P => omega
  | same _ _ _ _ ih => exact ih
  | more _ _ _ => exact mod_bd hp _

end Go.Proofs.Ytcmedhkamjclmaa

namespace Go.Proofs.Ytcmedhkamjclmaa
set_option linter.unusedVariables false

theorem at_app (a b : List (List Int)) (i : Nat) : at' (a ++ b) i = if i < a.length then at' a i else at' b (i - a.length) := by
  funext j
  unfold at' rw'
  simp only [List.getD_eq_getElem?_getD, List.getElem?_append]
  split <;> rfl
theorem at_cons0 (z : List Int) (b : List (List Int)) : at' (z :: b) 0 = num z := by funext j; rfl
theorem at_cons (z : List Int) (b : List (List Int)) (i : Nat) : at' (z :: b) (i + 1) = at' b i := by funext j; rfl
theorem at_mid (m : List (List Int)) (z : List Int) (X : List (List Int)) : at' (m ++ z :: X) m.length = num z := by
  rw [at_app, if_neg (Nat.lt_irrefl _), Nat.sub_self, at_cons0]
theorem emod_mul (a b p : Int) : a % p * b % p = a * b % p := by rw [Int.mul_emod, Int.emod_emod, ← Int.mul_emod]
theorem mul_emod_r (a b p : Int) : a * (b % p) % p = a * b % p := by rw [Int.mul_emod, Int.emod_emod, ← Int.mul_emod]

theorem dt_red {p : Int} {n : Nat} {m : List (List Int)} {P : Nat → Nat} {r r' : List Int} {X : List (List Int)} (hr : Red2 p n m P r r' m.length) (hn : m.length < n) :
    dt n (at' (m ++ r :: X)) % p = dt n (upd (at' (m ++ r :: X)) m.length (num r')) % p := by
  obtain ⟨K, hK⟩ := hr.lin
  rw [← dt_addsum hn (Nat.le_refl _) (at' (m ++ r :: X)) K]
  apply dt_mod
  intro i hi j hj
  unfold upd
  by_cases e : i = m.length
  · rw [if_pos e, if_pos e, hK j hj, at_mid]
    congr 2
    apply sm_congr
    intro i' hi'
    rw [at_app, if_pos hi']
  · rw [if_neg e, if_neg e]
theorem ins_end {m : List (List Int)} (s : List Int) (X : List (List Int)) : ins _ m m.length s ++ X = m ++ s :: X := by
  unfold ins
  rw [List.take_of_length_le (Nat.le_refl _), List.drop_of_length_le (Nat.le_refl _)]
  simp
theorem dt_ins_step {n t : Nat} {m : List (List Int)} (s : List Int) (X : List (List Int)) (ht : t < m.length) (hn : m.length < n) : dt n (at' (ins _ m t s ++ X)) = - dt n (at' (ins _ m (t + 1) s ++ X)) := by
  rw [← dt_swap (k := t) (l := t + 1) (by omega) (by omega) (at' (ins _ m (t + 1) s ++ X))]
  apply dt_congr
  intro i hi j hj
  have l1 : (ins _ m t s).length = m.length + 1 := ins_len s (by omega)
  have l2 : (ins _ m (t + 1) s).length = m.length + 1 := ins_len s (by omega)
  have g1 : at' (ins _ m (t + 1) s ++ X) (t + 1) = num s := by rw [at_app, if_pos (by omega), at_ins_new s (by omega)]
  have g0 : at' (ins _ m (t + 1) s ++ X) t = at' m t := by
    rw [at_app, if_pos (by omega), at_ins s (by omega) (by omega)]
    have : old (t + 1) t = t := if_pos (by omega)
    rw [this]
  by_cases e : i = t
  · subst e
    rw [upd_ne _ (by omega), upd_same, g1, at_app, if_pos (by omega), at_ins_new s (by omega)]
  · by_cases e' : i = t + 1
    · subst e'
      rw [upd_same, g0, at_app, if_pos (by omega), at_ins s (by omega) (by omega)]
      have : old t (t + 1) = t := by unfold old; rw [if_neg (by omega)]; omega
      rw [this]
    · rw [upd_ne _ e', upd_ne _ e, at_app, at_app, l1, l2]
      by_cases l : i < m.length + 1
      · rw [if_pos l, if_pos l, at_ins s (by omega) e, at_ins s (by omega) e']
        have : old t i = old (t + 1) i := by unfold old; split <;> split <;> omega
        rw [this]
      · rw [if_neg l, if_neg l]
theorem dt_ins {n t : Nat} {m : List (List Int)} (s : List Int) (X : List (List Int)) (ht : t ≤ m.length) (hn : m.length < n) : dt n (at' (ins _ m t s ++ X)) = sg (m.length - t) * dt n (at' (m ++ s :: X)) := by
  obtain ⟨d, hd⟩ : ∃ d, m.length = t + d := ⟨m.length - t, by omega⟩
  induction d generalizing t with
  | zero =>
    have : t = m.length := by omega
    subst this
    rw [ins_end, Nat.sub_self]
    have e1 : sg 0 = 1 := rfl
    rw [e1, Int.one_mul]
  | succ d ih =>
    rw [dt_ins_step s X (by omega) hn, ih (by omega) (by omega)]
    have e : m.length - t = (m.length - (t + 1)) + 1 := by omega
    rw [e, sg_succ, Int.neg_mul]

theorem Elm.detX {p : Int} {n : Nat} {A m : List (List Int)} {P : Nat → Nat} {d : Int} (hp : prm p = true) (h : Elm p n A m P d) : ∀ X : List (List Int), A.length + X.length = n →
    (m.length = A.length ∧ dt n (at' (A ++ X)) % p = d * dt n (at' (m ++ X)) % p) ∨ (m.length < A.length ∧ dt n (at' (A ++ X)) % p = 0) := by
  have hpb := prm_bd hp
  induction h with
  | start P => intro X _; exact .inl ⟨rfl, by rw [Int.one_mul]⟩
  | @same A m P d r r' _ hrl hr h0 ih =>
    intro X hX
    simp only [List.length_append, List.length_cons, List.length_nil] at hX ⊢
    have e : A ++ [r] ++ X = A ++ r :: X := by simp
    rw [e]
    rcases ih (r :: X) (by simp only [List.length_cons]; omega) with ⟨h1, h2⟩ | ⟨h1, h2⟩
    · refine .inr ⟨by omega, ?_⟩
      rw [h2]
      have k : dt n (at' (m ++ r :: X)) % p = 0 := by
        rw [dt_red hr (by omega), dt_zero (k := m.length) (by omega) (fun j hj => by rw [upd_same]; exact h0 j hj)]
        rfl
      rw [Int.mul_emod, k]; simp
    · exact .inr ⟨by omega, h2⟩
  | @more A m m' P d r r' s q t _ k ih =>
    intro X hX
    simp only [List.length_append, List.length_cons, List.length_nil] at hX ⊢
    have e : A ++ [r] ++ X = A ++ r :: X := by simp
    have hl : (ins _ m' t s).length = m.length + 1 := by rw [ins_len s (by rw [k.ml]; exact k.tn), k.ml]
    rw [e, hl]
    rcases ih (r :: X) (by simp only [List.length_cons]; omega) with ⟨h1, h2⟩ | ⟨h1, h2⟩
    · refine .inl ⟨by omega, ?_⟩
      have hmn : m.length < n := by omega
      have hrq := k.red.rng q k.qc
      have hinv : num r' q * inv p (num r' q) % p = 1 := inv_mul hp (by have := k.q0; omega) hrq.2
      have e1 : dt n (upd (at' (m ++ r :: X)) m.length (num r')) % p = num r' q * dt n (upd (at' (m ++ r :: X)) m.length (num s)) % p := by
        rw [← dt_scale hmn]
        apply dt_mod
        intro i hi j hj
        unfold upd
        by_cases ei : i = m.length
        · rw [if_pos ei, if_pos ei, k.ss j hj, mul_emod_r, Int.mul_left_comm, ← mul_emod_r, hinv, Int.mul_one]
        · rw [if_neg ei, if_neg ei]
      have e2 : dt n (upd (at' (m ++ r :: X)) m.length (num s)) % p = dt n (at' (m' ++ s :: X)) % p := by
        rw [← dt_addcol hmn (Nat.le_refl _) (upd (at' (m ++ r :: X)) m.length (num s)) (fun i => (p - at' m i q) % p)]
        apply dt_mod
        intro i hi j hj
        rw [at_app]
        by_cases li : i < m.length
        · rw [if_pos li, if_pos (by rw [k.ml]; exact li), upd_ne _ (by omega), upd_same, k.mr i li j hj, Int.emod_emod, at_app, if_pos li]
        · rw [if_neg li, if_neg (by rw [k.ml]; exact li), k.ml]
          by_cases ei : i = m.length
          · rw [ei, upd_same, Nat.sub_self, at_cons0]
          · obtain ⟨x, hx⟩ : ∃ x, i - m.length = x + 1 := ⟨i - m.length - 1, by omega⟩
            rw [upd_ne _ ei, at_app, if_neg li, hx, at_cons, at_cons]
      have e3 := dt_ins s X (t := t) (m := m') (n := n) (by rw [k.ml]; exact k.tn) (by rw [k.ml]; exact hmn)
      rw [k.ml] at e3
      have e4 : dt n (at' (m ++ r :: X)) % p = num r' q * dt n (at' (m' ++ s :: X)) % p := by
        rw [dt_red k.red hmn, e1, Int.mul_emod, e2, ← Int.mul_emod]
      rw [h2, Int.mul_emod, e4, ← Int.mul_emod, e3, emod_mul]
      generalize dt n (at' (m' ++ s :: X)) = D
      unfold sgn sg
      by_cases ev : (m.length - t) % 2 = 0
      · rw [if_pos ev, if_pos ev, Int.one_mul, Int.mul_assoc]
      · rw [if_neg ev, if_neg ev]
        generalize num r' q = x
        have c1 : d * (-x % p) * (-1 * D) = -1 * D * d * (-x % p) := by rw [Int.mul_comm (d * (-x % p)), ← Int.mul_assoc]
        have c2 : -1 * D * d * (-x) = d * (x * D) := by
          simp only [Int.neg_mul, Int.mul_neg, Int.neg_neg, Int.one_mul]
          rw [Int.mul_comm D d, Int.mul_assoc, Int.mul_comm D x]
        rw [c1, mul_emod_r, c2]
    · exact .inr ⟨by omega, h2⟩

theorem Rref.unit {p : Int} {n : Nat} {R : Nat → Nat → Int} {P : Nat → Nat} (h : Rref p n n R P) : (∀ i, i < n → P i = i) ∧ ∀ i, i < n → ∀ j, j < n → R i j = if i = j then 1 else 0 := by
  have lo : ∀ i, i < n → i ≤ P i := by
    intro i
    induction i with
    | zero => intro _; exact Nat.zero_le _
    | succ i ih => intro hi; have := ih (by omega); have := h.mono i (i + 1) (by omega) hi; omega
  have up : ∀ k i, i + k < n → P i + k ≤ P (i + k) := by
    intro k
    induction k with
    | zero => intro i _; exact Nat.le_refl _
    | succ k ih => intro i hi; have := ih i (by omega); have := h.mono (i + k) (i + (k + 1)) (by omega) hi; omega
  have eq : ∀ i, i < n → P i = i := fun i hi => by
    have h1 := lo i hi
    have h2 := up (n - 1 - i) i (by omega)
    have h3 := h.pv (i + (n - 1 - i)) (by omega)
    omega
  refine ⟨eq, fun i hi j hj => ?_⟩
  by_cases e : i = j
  · subst e; rw [if_pos rfl]; have := h.one i hi; rwa [eq i hi] at this
  · rw [if_neg e]; have := h.zer j hj i hi (fun q => e q.symm); rwa [eq j hj] at this
/-- The determinant of a square matrix modulo p. -/
def detP (p : Int) (A : List (List Int)) : Int := dt A.length (at' A) % p
theorem Elm.value {p : Int} {n : Nat} {A m : List (List Int)} {P : Nat → Nat} {d : Int} (hp : prm p = true) (h : Elm p n A m P d) (hn : A.length = n) :
    (m.length = n ∧ detP p A = d ∧ ∀ i, i < n → P i = i) ∨ (m.length < n ∧ detP p A = 0) := by
  unfold detP
  rcases h.detX hp [] (by simpa using hn) with ⟨h1, h2⟩ | ⟨h1, h2⟩
  · have hk := (h.kept hp).red
    have hmn : m.length = n := by omega
    rw [hmn] at hk
    refine .inl ⟨hmn, ?_, hk.unit.1⟩
    rw [List.append_nil, List.append_nil] at h2
    rw [hn, h2, dt_one hk.unit.2, Int.mul_one]
    have := h.det hp
    exact Int.emod_eq_of_lt this.1 this.2
  · rw [List.append_nil] at h2
    exact .inr ⟨by omega, by rw [hn]; exact h2⟩

end Go.Proofs.Ytcmedhkamjclmaa

namespace Go.Proofs.Ytcmedhkamjclmaa
open Go.RowKit
set_option linter.unusedVariables false

theorem eps_sg (k : Nat) : eps k = sg k := by
  unfold eps sg
  rcases Nat.mod_two_eq_zero_or_one k with h | h <;> simp [h]
theorem pow_bit (i j : Nat) : 2 ^ i / 2 ^ j % 2 = if i = j then 1 else 0 := by
  rw [← Nat.toNat_testBit, Nat.testBit_two_pow]
  by_cases h : i = j <;> simp [h]
theorem fz_pow (S : List Int) {a i : Nat} (ha : a / 2 ^ i % 2 = 0) : ∀ n, fz S a (2 ^ i) n = if i < n then eps (gr (a / 2 ^ (i + 1))) else 1
  | 0 => rfl
  | n + 1 => by
    show fz S a (2 ^ i) n * gi S a (2 ^ i) n = _
    rw [fz_pow S ha n]
    unfold gi
    rw [pow_bit]
    by_cases e : i = n
    · subst e
      rw [if_pos rfl, if_pos rfl, if_neg (Nat.lt_irrefl _), if_pos (Nat.lt_succ_self _), if_neg (by omega)]
      simp
    · rw [if_neg e, if_neg (show ¬ (0 : Nat) = 1 by decide), Int.mul_one]
      by_cases h : i < n
      · rw [if_pos h, if_pos (by omega)]
      · rw [if_neg h, if_neg (by omega)]
theorem pow_inj {i j : Nat} (h : 2 ^ i = 2 ^ j) : i = j := (Nat.pow_right_inj (by decide)).1 h
theorem vecF_sum (v : List Int) (b : Nat) : ∀ k, vecF v k b = sm k (fun i => if b = 2 ^ i then v.getD i 0 else 0)
  | 0 => rfl
  | k + 1 => by
    show (if b = 2 ^ k then v.getD k 0 else vecF v k b) = sm k _ + (if b = 2 ^ k then v.getD k 0 else 0)
    by_cases e : b = 2 ^ k
    · rw [if_pos e, if_pos e, sm_congr (g := fun _ => 0) (fun i hi => if_neg (fun h => by have := pow_inj (e.symm.trans h); omega)), sm_zero, Int.zero_add]
    · rw [if_neg e, if_neg e, Int.add_zero, vecF_sum v b k]
theorem bit_and : ∀ c, c < 64 → ∀ i, i < 6 → ((c ^^^ 2 ^ i) &&& 2 ^ i == 0) = decide (c / 2 ^ i % 2 = 1) := by decide +kernel
theorem bit_flip : ∀ c, c < 64 → ∀ i, i < 6 → c / 2 ^ i % 2 = 1 → (c ^^^ 2 ^ i) / 2 ^ i % 2 = 0 ∧ (c ^^^ 2 ^ i) / 2 ^ (i + 1) = c / 2 ^ (i + 1) := by decide +kernel
theorem sm_more {n N : Nat} (h : n ≤ N) {f : Nat → Int} (hz : ∀ i, n ≤ i → i < N → f i = 0) : sm N f = sm n f := by
  induction N with
  | zero => rw [show n = 0 by omega]
  | succ N ih =>
    by_cases e : n = N + 1
    · rw [e]
    · show sm N f + f N = sm n f
      rw [ih (by omega) (fun i h1 h2 => hz i h1 (by omega)), hz N (by omega) (Nat.lt_succ_self N), Int.add_zero]
/-- The wedge product with a vector. -/
theorem wg_vec (p : Int) {S : List Int} (h6 : S.length ≤ 6) (x : List Int) {v : List Int} (hv : v.length = S.length) {c : Nat} (hc : c < bl S) :
    kF p S 0 x (vecM S v) c = sm S.length (fun i => if c / 2 ^ i % 2 = 1 then x.getD (c ^^^ 2 ^ i) 0 * fm p S (c ^^^ 2 ^ i) (2 ^ i) S.length * v.getD i 0 else 0) % p := by
  unfold kF
  congr 1
  have hbl := bl_le h6
  have h1 : ∀ a, a < bl S → tk p S 0 x (vecM S v) c a = sm S.length (fun i => if a = c ^^^ 2 ^ i then (if c / 2 ^ i % 2 = 1 then x.getD (c ^^^ 2 ^ i) 0 * fm p S (c ^^^ 2 ^ i) (2 ^ i) S.length * v.getD i 0 else 0) else 0) := fun a ha => by
    have hx : a ^^^ c < bl S := Nat.xor_lt_two_pow ha hc
    have hy : (vecM S v).getD (a ^^^ c) 0 = sm S.length (fun i => if a ^^^ c = 2 ^ i then v.getD i 0 else 0) := by
      unfold vecM; rw [mkR_at _ hx, vecF_sum, hv]
    have hE : tk p S 0 x (vecM S v) c a = sm S.length (fun i => if kp 0 a (a ^^^ c) = true then x.getD a 0 * fm p S a (a ^^^ c) S.length * (if a ^^^ c = 2 ^ i then v.getD i 0 else 0) else 0) := by
      unfold tk tm
      rw [hy]
      by_cases hk : kp 0 a (a ^^^ c) = true
      · rw [if_pos hk, ← sm_mul]
        exact sm_congr fun i _ => by rw [if_pos hk]
      · rw [if_neg hk, sm_congr (g := fun _ => 0) (fun i _ => if_neg hk), sm_zero]
    rw [hE]
    apply sm_congr
    intro i hi
    have hi6 : i < 6 := by omega
    by_cases e : a = c ^^^ 2 ^ i
    · have e2 : a ^^^ c = 2 ^ i := by rw [e, Nat.xor_comm c, Nat.xor_assoc, Nat.xor_self, Nat.xor_zero]
      rw [if_pos e, e2, if_pos rfl]
      have e3 : kp 0 a (2 ^ i) = decide (c / 2 ^ i % 2 = 1) := by rw [e]; exact bit_and c (by omega) i hi6
      rw [e3]
      by_cases hb : c / 2 ^ i % 2 = 1
      · rw [if_pos (decide_eq_true hb), if_pos hb, e]
      · rw [if_neg (by simpa using hb), if_neg hb]
    · have e2 : ¬ a ^^^ c = 2 ^ i := fun h => e (by rw [← h, Nat.xor_comm a, ← Nat.xor_assoc, Nat.xor_self, Nat.zero_xor])
      rw [if_neg e, if_neg e2, Int.mul_zero, ite_self]
  rw [sm_congr h1, sm_swap]
  apply sm_congr
  intro i hi
  rw [sm_single, if_pos (show c ^^^ 2 ^ i < bl S from Nat.xor_lt_two_pow hc (Nat.pow_lt_pow_right (by decide) hi))]
theorem wv_wD {p : Int} {S : List Int} (hs : isSp p S = true) {m : List (List Int)} (hm : ∀ i, i < m.length → isVec p S.length (rw' m i) = true) : ∀ k, k ≤ m.length → ∀ c, c < bl S → (wvM p S m k).getD c 0 = wD (at' m) k c % p
  | 0, _, c, hc => by
    have hp := prm_bd (isSp_iff.1 hs).prime
    show (mOne S).getD c 0 = (if c = 0 then (1 : Int) else 0) % p
    unfold mOne
    rw [mkR_at _ hc]
    unfold oneF
    split
    · exact (Int.emod_eq_of_lt (by omega) (by omega)).symm
    · exact (Int.zero_emod p).symm
  | k + 1, hk, c, hc => by
    have h6 := (isSp_iff.1 hs).hi
    have hbl := bl_le h6
    have hv := (isVec_iff.1 (hm k (by omega))).len
    show (kM p S 0 (wvM p S m k) (vecM S (rw' m k))).getD c 0 = _
    rw [kM_at _ _ _ _ _ hc, wg_vec p h6 _ hv hc]
    have hT : wD (at' m) (k + 1) c = sm S.length (fun i => if c / 2 ^ i % 2 = 1 then wD (at' m) k (c ^^^ 2 ^ i) * sg (gr (c / 2 ^ (i + 1))) * at' m k i else 0) := by
      show sm 6 _ = _
      exact sm_more h6 fun i hi _ => if_neg (by
        rw [Nat.div_eq_of_lt (Nat.lt_of_lt_of_le hc (Nat.pow_le_pow_right (by decide) hi))]; decide)
    rw [hT]
    apply sm_congr_p
    intro i hi
    have hi6 : i < 6 := by omega
    by_cases hb : c / 2 ^ i % 2 = 1
    · rw [if_pos hb, if_pos hb]
      obtain ⟨f1, f2⟩ := bit_flip c (by omega) i hi6 hb
      have hx : c ^^^ 2 ^ i < bl S := Nat.xor_lt_two_pow hc (Nat.pow_lt_pow_right (by decide) hi)
      rw [wv_wD hs hm k (by omega) _ hx]
      unfold fm
      rw [fz_pow S f1, if_pos hi, f2, eps_sg]
      show wD (at' m) k (c ^^^ 2 ^ i) % p * (sg (gr (c / 2 ^ (i + 1))) % p) * at' m k i % p = _
      rw [← em_l, em_l (wD (at' m) k (c ^^^ 2 ^ i)), em_r, em_l]
    · rw [if_neg hb, if_neg hb]
/-- The coefficient of the pseudoscalar is the determinant. -/
theorem wv_det {p : Int} {S : List Int} (hs : isSp p S = true) {m : List (List Int)} (hm : ∀ i, i < m.length → isVec p S.length (rw' m i) = true) (hl : m.length = S.length) : (wvM p S m m.length).getD (bl S - 1) 0 = detP p m := by
  have h6 := (isSp_iff.1 hs).hi
  have hbl := bl_le h6
  have hb0 := bl_pos S
  rw [wv_wD hs hm m.length (Nat.le_refl _) (bl S - 1) (by omega), wD_dt _ _ _ (by omega) (by rw [hl]; exact gr_whole S.length h6)]
  unfold detP
  congr 1
  exact dt_congr fun i _ j hj => by rw [show bl S - 1 = 2 ^ S.length - 1 from rfl, col_whole S.length h6 j (by omega)]

end Go.Proofs.Ytcmedhkamjclmaa

namespace Go.Proofs.Ytcmedhkamjclmaa
open Go.RowKit
set_option linter.unusedVariables false

/-- The outer list lies at the head of block b, the rows in blocks of numbers from lo on. -/
structure TopM (lo : Nat) (w : World) (b : Nat) (m : List (List Int)) : Prop where
  lob : lo ≤ b
  tag : ∃ cur, w.heap[b]? = some (.cells cur 22 (0, 0))
  row : ∀ i, i < m.length → ∃ r c, w.cell? ⟨b, i, none⟩ = some (.slice r (rw' m i).length c) ∧ TagR lo w.heap.size w r (rw' m i)
theorem TopM.lt {lo : Nat} {w : World} {b : Nat} {m : List (List Int)} (h : TopM lo w b m) : b < w.heap.size := by
  obtain ⟨cur, hb⟩ := h.tag
  exact (Array.getElem?_eq_some_iff.1 hb).1
theorem TopM.free {lo : Nat} {w : World} {b : Nat} {m : List (List Int)} (h : TopM lo w b m) (j : Nat) : w.frozen? ⟨b, j, none⟩ = false := by
  obtain ⟨cur, hb⟩ := h.tag
  exact free_of hb j
theorem TopM.below {lo : Nat} {w w' : World} {b : Nat} {m : List (List Int)} (h : TopM lo w b m) (hb : Below w.heap.size w w') : TopM lo w' b m where
  lob := h.lob
  tag := by obtain ⟨cur, hc⟩ := h.tag; exact ⟨cur, (hb.block b h.lt).trans hc⟩
  row i hi := by
    obtain ⟨r, c, h1, h2⟩ := h.row i hi
    exact ⟨r, c, (hb.cell (p := ⟨b, i, none⟩) h.lt).trans h1, h2.below hb (Nat.le_refl _) (Nat.le_refl _) hb.size⟩
theorem TopM.mono {lo lo' : Nat} {w : World} {b : Nat} {m : List (List Int)} (h : TopM lo w b m) (hl : lo' ≤ lo) : TopM lo' w b m where
  lob := Nat.le_trans hl h.lob
  tag := h.tag
  row i hi := by
    obtain ⟨r, c, h1, h2⟩ := h.row i hi
    exact ⟨r, c, h1, h2.block hl (Nat.le_refl _) (fun _ _ _ _ _ => rfl)⟩
theorem TopM.mat {lo : Nat} {w : World} {b : Nat} {m : List (List Int)} (h : TopM lo w b m) : MatIn lo w.heap.size w (some ⟨b, 0, none⟩) m :=
  .inr ⟨b, 0, rfl, h.lob, h.lt, fun i hi => by
    obtain ⟨r, c, h1, h2⟩ := h.row i hi
    exact ⟨r, c, by rw [Nat.zero_add]; exact h1, h2.row⟩⟩
theorem rw_set {m : List (List Int)} {i j : Nat} (z : List Int) (hi : i < m.length) : rw' (m.set i z) j = if j = i then z else rw' m j := by
  simp only [rw', List.getD_eq_getElem?_getD, List.getElem?_set]
  by_cases e : j = i
  · subst e; simp [hi]
  · rw [if_neg (fun h => e h.symm), if_neg e]
/-- Another row is put in the place of row i. -/
theorem TopM.set {lo : Nat} {w : World} {b i : Nat} {m : List (List Int)} {r : Option Addr} {z : List Int} {c : Nat} (h : TopM lo w b m) (hi : i < m.length) (hz : TagR lo w.heap.size w r z) :
    TopM lo (w.setCell ⟨b, i, none⟩ (.slice r z.length c)) b (m.set i z) := by
  obtain ⟨cur, hcur⟩ := h.tag
  have hsz : (w.setCell ⟨b, i, none⟩ (.slice r z.length c)).heap.size = w.heap.size := by simp [World.setCell]
  have keep : ∀ k cur', w.heap[k]? = some (Obj.cells cur' 2 (0, 0)) → (w.setCell ⟨b, i, none⟩ (.slice r z.length c)).heap[k]? = w.heap[k]? := fun k cur' hk =>
    Below.heap_setCell _ _ _ _ (fun e => by have e1 : k = b := e; subst e1; rw [hcur] at hk; simp at hk)
  obtain ⟨r0, c0, g0, _⟩ := h.row i hi
  refine ⟨h.lob, ⟨cur.setIfInBounds i (.slice r z.length c), by simp [World.setCell, Array.getElem?_modify, hcur]⟩, fun j hj => ?_⟩
  rw [List.length_set] at hj
  rw [rw_set z hi, hsz]
  by_cases e : j = i
  · subst e
    rw [if_pos rfl]
    exact ⟨r, c, World.cell?_setCell_same w _ _ g0, hz.block (Nat.le_refl _) (Nat.le_refl _) (fun k cur' _ _ hk => keep k cur' hk)⟩
  · rw [if_neg e]
    obtain ⟨r1, c1, g1, g2⟩ := h.row j hj
    exact ⟨r1, c1, (World.cell?_setCell_other _ _ _ _ (fun e2 => e (by injection e2 with _ e3; exact e3.symm))).trans g1, g2.block (Nat.le_refl _) (Nat.le_refl _) (fun k cur' _ _ hk => keep k cur' hk)⟩
theorem OutM.top {B : Nat} {w : World} {v : Value} {m : List (List Int)} (h : OutM B w v m) (h0 : 0 < m.length) : ∃ b c, v = .slice (some ⟨b, 0, none⟩) m.length c ∧ m.length ≤ c ∧ c ≤ maxLen ∧ TopM B w b m := by
  obtain ⟨vals, ho, hr⟩ := h
  rcases ho.2 with ⟨rfl, hn⟩ | ⟨g, cap, cur, rfl, hb, hg, hnc, hcm, hcs, htake⟩
  · omega
  · refine ⟨g, cap, rfl, hnc, hcm, hb, ⟨cur, hg⟩, fun i hi => ?_⟩
    obtain ⟨r, c, h1, h2⟩ := hr i hi
    refine ⟨r, c, ?_, h2⟩
    have := ho.cells (g := g) rfl i _ h1
    rwa [Addr.add_lit, Nat.zero_add] at this

theorem TagR.setTop {lo lo' tp : Nat} {w : World} {b i : Nat} {m : List (List Int)} {r : Option Addr} {z : List Int} {v : Value} (h : TopM lo w b m) (hz : TagR lo' tp w r z) : TagR lo' tp (w.setCell ⟨b, i, none⟩ v) r z := by
  obtain ⟨cur, hcur⟩ := h.tag
  exact hz.block (Nat.le_refl _) (Nat.le_refl _) (fun k cur' _ _ hk => Below.heap_setCell _ _ _ _ (fun e => by have e1 : k = b := e; subst e1; rw [hcur] at hk; simp at hk))

end Go.Proofs.Ytcmedhkamjclmaa

namespace Go.Proofs.Ytcmedhkamjclmaa
open Go.RowKit
set_option linter.unusedVariables false

/-- A number lies in a block: its prime and its value. -/
structure NumAt (w : World) (b : Nat) (p v : Int) : Prop where
  c0 : w.cell? ⟨b, 0, none⟩ = some (.int .i64 p)
  c1 : w.cell? ⟨b, 1, none⟩ = some (.int .i64 v)
  f0 : w.frozen? ⟨b, 0, none⟩ = false
  f1 : w.frozen? ⟨b, 1, none⟩ = false
theorem NumAt.keep {w w1 : World} {b : Nat} {p v : Int} (h : NumAt w b p v) (hb : Below w.heap.size w w1) (lt : b < w.heap.size) : NumAt w1 b p v :=
  ⟨(hb.cell (p := ⟨b, 0, none⟩) lt).trans h.c0, (hb.cell (p := ⟨b, 1, none⟩) lt).trans h.c1, (hb.frozen (p := ⟨b, 0, none⟩) lt).trans h.f0, (hb.frozen (p := ⟨b, 1, none⟩) lt).trans h.f1⟩
theorem NumAt.alloc {w : World} {b : Nat} {p v : Int} (h : NumAt w b p v) (lt : b < w.heap.size) (o : Obj) : NumAt (w.alloc o) b p v :=
  h.keep ((Below.refl _ _).alloc (Nat.le_refl _) o) lt
theorem NumAt.drew {w : World} {b : Nat} {p v : Int} (h : NumAt w b p v) : NumAt w.drew b p v := ⟨h.c0, h.c1, h.f0, h.f1⟩
theorem NumAt.set {w : World} {b : Nat} {p v : Int} (h : NumAt w b p v) (q u : Int) : NumAt ((w.setCell ⟨b, 0, none⟩ (.int .i64 q)).setCell ⟨b, 1, none⟩ (.int .i64 u)) b q u :=
  ⟨by simp [go_sem, h.c0], by simp [go_sem, h.c1], by simp [go_sem, h.f0], by simp [go_sem, h.f1]⟩
theorem NumAt.far {w : World} {b c : Nat} {p v : Int} (h : NumAt w b p v) (hne : b ≠ c) (o : Nat) (x : Value) : NumAt (w.setCell ⟨c, o, none⟩ x) b p v :=
  ⟨(World.cell?_setCell_other _ _ _ _ (fun e => hne (by injection e with e1; exact e1.symm))).trans h.c0, (World.cell?_setCell_other _ _ _ _ (fun e => hne (by injection e with e1; exact e1.symm))).trans h.c1, by simp [go_sem, h.f0], by simp [go_sem, h.f1]⟩

end Go.Proofs.Ytcmedhkamjclmaa

namespace Go.Proofs.Ytcmedhkamjclmaa
open Go.RowKit
set_option linter.unusedVariables false

theorem l01Inv_any (p a : Int) (w : World) (hp : prm p = true) (a0 : 1 ≤ a) (a1 : a < p) :
    Calls Try.prog 105 #[.int .i64 p, .int .i64 a] w fun e w' => e = .returned (.int .i64 (inv p a)) ∧ w = w' := by
  have hb := prm_bd hp
  obtain ⟨v0, v1⟩ := inv_bd hp a
  have v2 := inv_pos hp a0 a1
  have HP := Lib.hid hp
  clear hp
  go_enter Try.func105, Try.ntmps105
  go_wp2
  go_loop [5] (fun t => ∃ b : Int, 1 ≤ b ∧ b ≤ inv p a ∧ t = .int .i64 b) (fun t => (inv p a - intOf t).toNat)
  case atStart => exact ⟨1, by omega, by omega, rfl⟩
  case round =>
    obtain ⟨b, b0, b1, rfl⟩ := hrel
    obtain ⟨m0, m1⟩ := mul_bd (a := a) (b := b) HP.out (by omega) (by omega) (by omega) (by omega)
    obtain ⟨q0, q1⟩ := mod_bd HP.out (a * b)
    have hi := inv_iff (a := a) HP.out a0 a1 b0 b1
    by_cases hq : b = inv p a
    · have ht := hi.2 hq
      have HQ := Lib.hid hq
      clear hi hq
      go_wp2
      go_ret
      exact ⟨by rw [← HQ.out]; rfl, rfl⟩
    · have ht : ¬ a * b % p = 1 := fun h => hq (hi.1 h)
      clear hi
      go_wp2
      go_round
      case rel => exact ⟨b + 1, by omega, by omega, rfl⟩
      case measure => simp [intOf]; omega

end Go.Proofs.Ytcmedhkamjclmaa

namespace Go.Proofs.Ytcmedhkamjclmaa
open Go.RowKit
set_option linter.unusedVariables false

/-- What stands in the rows when row d is scaled and the first i are done. -/
def sig (d f i : Nat) : Nat := if i = f then d else i
def scaled (p : Int) (m : List (List Int)) (f k : Nat) : List Int := sclR p (rw' m f) (inv p (at' m f k))
def doneRow (p : Int) (m : List (List Int)) (d f k i : Nat) : List Int := if i = d then scaled p m f k else plusR p (rw' m (sig d f i)) (scaled p m f k) ((p - at' m (sig d f i) k) % p)
def midRow (p : Int) (m : List (List Int)) (d f k i : Nat) : List Int := if i = d then scaled p m f k else rw' m (sig d f i)
def rowsAt (p : Int) (m : List (List Int)) (d f k i : Nat) : List (List Int) := (List.range m.length).map fun j => if j < i then doneRow p m d f k j else midRow p m d f k j
theorem rowsAt_len (p : Int) (m : List (List Int)) (d f k i : Nat) : (rowsAt p m d f k i).length = m.length := by simp [rowsAt]
theorem rowsAt_row {p : Int} {m : List (List Int)} {d f k i j : Nat} (h : j < m.length) : rw' (rowsAt p m d f k i) j = if j < i then doneRow p m d f k j else midRow p m d f k j := by simp [rowsAt, rw', List.getD, h]
theorem ColAt.rows {p : Int} {c : Nat} {A m : List (List Int)} {d k f : Nat} {P : Nat → Nat} (hp : prm p = true) (h : ColAt p c A m d k P) (hk : k < c) (hdf : d ≤ f) (hf : f < m.length) (ha : 1 ≤ at' m f k) :
    ColAt p c A (rowsAt p m d f k m.length) (d + 1) (k + 1) (fun i => if i = d then k else P i) := by
  have hL : ∀ i, i < m.length → rw' (rowsAt p m d f k m.length) i = doneRow p m d f k i := fun i hi => by rw [rowsAt_row hi, if_pos hi]
  have hsig : ∀ i, i < m.length → sig d f i < m.length := fun i hi => by unfold sig; split <;> omega
  have hdm : d < m.length := by omega
  have hS : (scaled p m f k).length = c := by unfold scaled sclR; rw [mkR_len, h.len f hf]
  refine h.pick hp hk hdf hf ha (rowsAt_len _ _ _ _ _ _) (fun i hi => ?_) (fun j hj => ?_) (fun i hi hne j hj => ?_)
  · rw [rowsAt_len] at hi
    rw [hL i hi]
    unfold doneRow
    split
    · exact hS
    · unfold plusR; rw [mkR_len]; exact h.len _ (hsig i hi)
  · have e : at' (rowsAt p m d f k m.length) d j = (scaled p m f k).getD j 0 := by unfold at'; rw [hL d hdm]; unfold doneRow; rw [if_pos rfl]
    rw [e]
    unfold scaled sclR
    rw [mkR_at _ (by rw [h.len f hf]; exact hj)]; rfl
  · have e : at' (rowsAt p m d f k m.length) i j = (plusR p (rw' m (sig d f i)) (scaled p m f k) ((p - at' m (sig d f i) k) % p)).getD j 0 := by unfold at'; rw [hL i hi]; unfold doneRow; rw [if_neg hne]; rfl
    have e2 : at' (rowsAt p m d f k m.length) d j = (scaled p m f k).getD j 0 := by unfold at'; rw [hL d hdm]; unfold doneRow; rw [if_pos rfl]
    rw [e, e2]
    unfold plusR
    rw [mkR_at _ (by rw [h.len _ (hsig i hi)]; exact hj)]; rfl

end Go.Proofs.Ytcmedhkamjclmaa

namespace Go.Proofs.Ytcmedhkamjclmaa
set_option linter.unusedVariables false

theorem dt_addall {n l r : Nat} (hl : l < n) (hr : r ≤ n) (f : Nat → Nat → Int) (x : Nat → Int) : dt n (fun i => if i < r ∧ i ≠ l then fun j => f i j + x i * f l j else f i) = dt n f := by
  induction r with
  | zero => exact dt_congr (fun i _ j _ => by rw [if_neg (by omega)])
  | succ r ih =>
    rw [← ih (by omega)]
    by_cases e : r = l
    · apply dt_congr
      intro i _ j _
      by_cases h : i < r ∧ i ≠ l
      · rw [if_pos (by omega)]
        show f i j + x i * f l j = (if i < r ∧ i ≠ l then fun j => f i j + x i * f l j else f i) j
        rw [if_pos h]
      · rw [if_neg (by omega)]
        show f i j = (if i < r ∧ i ≠ l then fun j => f i j + x i * f l j else f i) j
        rw [if_neg h]
    · have h := dt_addrow (k := r) (l := l) (by omega) hl e (fun i => if i < r ∧ i ≠ l then fun j => f i j + x i * f l j else f i) (x r)
      rw [← h]
      apply dt_congr
      intro i _ j _
      unfold upd
      by_cases e' : i = r
      · subst e'; rw [if_pos (by omega), if_pos rfl, if_neg (by omega), if_neg (by omega)]
      · rw [if_neg e']
        by_cases h' : i < r ∧ i ≠ l
        · rw [if_pos (by omega)]
          show f i j + x i * f l j = (if i < r ∧ i ≠ l then fun j => f i j + x i * f l j else f i) j
          rw [if_pos h']
        · rw [if_neg (by omega)]
          show f i j = (if i < r ∧ i ≠ l then fun j => f i j + x i * f l j else f i) j
          rw [if_neg h']

/-- Where the model's determinant stands: k columns are done. -/
structure DetAt (p : Int) (n : Nat) (A m : List (List Int)) (k : Nat) (out : Int) : Prop where
  ml : m.length = n
  kn : k ≤ n
  len : ∀ i, i < n → (rw' m i).length = n
  rng : ∀ i, i < n → ∀ j, j < n → 0 ≤ at' m i j ∧ at' m i j < p
  ob : 0 ≤ out ∧ out < p
  val : detP p A = out * dt (n - k) (fun r c => at' m (k + r) (k + c)) % p
theorem DetAt.start {p : Int} {A : List (List Int)} (hp : prm p = true) (hl : ∀ i, i < A.length → (rw' A i).length = A.length) (hr : ∀ i, i < A.length → ∀ j, j < A.length → 0 ≤ at' A i j ∧ at' A i j < p) : DetAt p A.length A A 0 1 where
  ml := rfl
  kn := Nat.zero_le _
  len := hl
  rng := hr
  ob := by have := prm_bd hp; omega
  val := by
    rw [Int.one_mul]
    unfold detP
    congr 1
    exact dt_congr (fun i _ j _ => by rw [Nat.zero_add, Nat.zero_add])
theorem DetAt.done {p : Int} {n : Nat} {A m : List (List Int)} {out : Int} (h : DetAt p n A m n out) : detP p A = out := by
  rw [h.val, Nat.sub_self]
  show out * 1 % p = out
  rw [Int.mul_one]
  exact Int.emod_eq_of_lt h.ob.1 h.ob.2
theorem DetAt.none {p : Int} {n : Nat} {A m : List (List Int)} {k : Nat} {out : Int} (h : DetAt p n A m k out) (hk : k < n) (hz : ∀ i, k ≤ i → i < n → at' m i k = 0) : detP p A = 0 := by
  obtain ⟨q, hq⟩ : ∃ q, n - k = q + 1 := ⟨n - k - 1, by omega⟩
  rw [h.val, hq, dt_col0 (fun i hi => hz (k + i) (by omega) (by omega)), Int.mul_zero]
  rfl
def swapL (m : List (List Int)) (k f : Nat) : List (List Int) := (m.set f (rw' m k)).set k (rw' m f)
theorem swapL_len (m : List (List Int)) (k f : Nat) : (swapL m k f).length = m.length := by simp [swapL]
theorem swapL_row {m : List (List Int)} {k f : Nat} (hk : k < m.length) (hf : f < m.length) (i : Nat) : rw' (swapL m k f) i = if i = k then rw' m f else if i = f then rw' m k else rw' m i := by
  unfold swapL
  rw [rw_set _ (by simpa using hk), rw_set _ hf]
theorem DetAt.swap {p : Int} {n : Nat} {A m : List (List Int)} {k f : Nat} {out : Int} (hp : prm p = true) (h : DetAt p n A m k out) (hk : k < f) (hf : f < n) : DetAt p n A (swapL m k f) k (-out % p) := by
  have hn := h.ml
  have hat : ∀ i, at' (swapL m k f) i = if i = k then at' m f else if i = f then at' m k else at' m i := fun i => by
    funext j
    unfold at'
    rw [swapL_row (by omega) (by omega)]
    by_cases e : i = k
    · rw [if_pos e, if_pos e]
    · rw [if_neg e, if_neg e]
      by_cases e' : i = f
      · rw [if_pos e', if_pos e']
      · rw [if_neg e', if_neg e']
  refine ⟨by rw [swapL_len, hn], h.kn, fun i hi => ?_, fun i hi j hj => ?_, mod_bd hp _, ?_⟩
  · rw [swapL_row (by omega) (by omega)]
    split
    · exact h.len f hf
    · split
      · exact h.len k (by omega)
      · exact h.len i hi
  · rw [hat]
    split
    · exact h.rng f hf j hj
    · split
      · exact h.rng k (by omega) j hj
      · exact h.rng i hi j hj
  · have e := dt_swap (n := n - k) (k := 0) (l := f - k) (by omega) (by omega) (fun r c => at' m (k + r) (k + c))
    have e2 : dt (n - k) (fun r c => at' (swapL m k f) (k + r) (k + c)) = - dt (n - k) (fun r c => at' m (k + r) (k + c)) := by
      rw [← e]
      apply dt_congr
      intro i hi j hj
      rw [hat]
      unfold upd
      by_cases e0 : i = 0
      · subst e0
        rw [if_pos (by omega), if_neg (by omega), if_pos rfl]
        have : k + (f - k) = f := by omega
        rw [this]
      · rw [if_neg (by omega)]
        by_cases e1 : i = f - k
        · rw [if_pos (by omega), if_pos e1]; rfl
        · rw [if_neg (by omega), if_neg e1, if_neg e0]
    rw [h.val, e2, emod_mul, Int.neg_mul_neg]
theorem elim_zero {p a v x : Int} (h : v * x % p = 1 % p) : (a + (p - a) * v % p * x) % p = 0 := by
  have e : (p - a) * v % p * x % p = (p - a) % p := by
    rw [emod_mul, Int.mul_assoc, ← mul_emod_r, h, mul_emod_r, Int.mul_one]
  rw [Int.add_emod, e, ← Int.add_emod]
  have : a + (p - a) = p := by omega
  rw [this, Int.emod_self]
theorem DetAt.step {p : Int} {n : Nat} {A m m2 : List (List Int)} {k : Nat} {out : Int} (hp : prm p = true) (h : DetAt p n A m k out) (hk : k < n) (hx : 1 ≤ at' m k k) (hn2 : m2.length = n) (hl2 : ∀ i, i < n → (rw' m2 i).length = n)
    (h2 : ∀ i, i < n → ∀ j, j < n → at' m2 i j = if k < i then (at' m i j + (p - at' m i k) * inv p (at' m k k) % p * at' m k j) % p else at' m i j) : DetAt p n A m2 (k + 1) (out * at' m k k % p) := by
  have hxr := h.rng k hk k hk
  have hinv := inv_mul hp hx hxr.2
  have hpb := prm_bd hp
  obtain ⟨q, hq⟩ : ∃ q, n - k = q + 1 := ⟨n - k - 1, by omega⟩
  have hq1 : n - (k + 1) = q := by omega
  refine ⟨hn2, hk, hl2, fun i hi j hj => ?_, mod_bd hp _, ?_⟩
  · rw [h2 i hi j hj]
    split
    · exact mod_bd hp _
    · exact h.rng i hi j hj
  · rw [h.val, hq, hq1]
    have e1 := dt_addall (n := q + 1) (l := 0) (r := q + 1) (by omega) (Nat.le_refl _) (fun r c => at' m (k + r) (k + c)) (fun r => (p - at' m (k + r) k) * inv p (at' m k k) % p)
    have e2 : dt (q + 1) (fun r c => at' m (k + r) (k + c)) % p = dt (q + 1) (fun r c => at' m2 (k + r) (k + c)) % p := by
      rw [← e1]
      apply dt_mod
      intro i hi j hj
      rw [h2 (k + i) (by omega) (k + j) (by omega)]
      by_cases e : i = 0
      · subst e
        rw [if_neg (by omega), if_neg (by omega)]
      · rw [if_pos (by omega), if_pos (by omega), Int.emod_emod, Nat.add_zero]
    have e3 : dt (q + 1) (fun r c => at' m2 (k + r) (k + c)) = at' m k k * dt q (fun r c => at' m2 (k + 1 + r) (k + 1 + c)) := by
      rw [dt_col (fun i h1 hi => by
        show at' m2 (k + i) (k + 0) = 0
        rw [h2 _ (by omega) _ (by omega), if_pos (by omega)]
        exact elim_zero (by rw [Nat.add_zero, Int.mul_comm, hinv, Int.emod_eq_of_lt (by omega) (by omega)]))]
      have e4 : at' m2 (k + 0) (k + 0) = at' m k k := by rw [h2 _ (by omega) _ (by omega), if_neg (by omega)]; rfl
      rw [e4]
      congr 1
      apply dt_congr
      intro i _ j _
      have a1 : k + (i + 1) = k + 1 + i := by omega
      have a2 : k + (j + 1) = k + 1 + j := by omega
      show at' m2 (k + (i + 1)) (k + (j + 1)) = _
      rw [a1, a2]
    rw [Int.mul_emod, e2, ← Int.mul_emod, e3, emod_mul, Int.mul_assoc]

/-- The rows below row k, up to i, are reduced. -/
def rowD (p : Int) (m : List (List Int)) (k i j : Nat) : List Int := if k < j ∧ j < i then plusR p (rw' m j) (rw' m k) ((p - at' m j k) * inv p (at' m k k) % p) else rw' m j
def rowsD (p : Int) (m : List (List Int)) (k i : Nat) : List (List Int) := (List.range m.length).map (rowD p m k i)
theorem rowsD_len (p : Int) (m : List (List Int)) (k i : Nat) : (rowsD p m k i).length = m.length := by simp [rowsD]
theorem rowsD_row {p : Int} {m : List (List Int)} {k i j : Nat} (h : j < m.length) : rw' (rowsD p m k i) j = rowD p m k i j := by simp [rowsD, rw', List.getD, h]
theorem rowsD_start (p : Int) (m : List (List Int)) (k : Nat) : rowsD p m k (k + 1) = m := by
  refine mat_ext (rowsD_len _ _ _ _) (fun j hj => ?_)
  rw [rowsD_len] at hj
  rw [rowsD_row hj]; unfold rowD; rw [if_neg (by omega)]
theorem rowsD_next {p : Int} {m : List (List Int)} {k i : Nat} (hi : i < m.length) (hk : k < i) : (rowsD p m k i).set i (plusR p (rw' m i) (rw' m k) ((p - at' m i k) * inv p (at' m k k) % p)) = rowsD p m k (i + 1) := by
  refine mat_ext (by simp [rowsD_len]) (fun j hj => ?_)
  simp only [List.length_set, rowsD_len] at hj
  rw [rw_set _ (by rw [rowsD_len]; exact hi), rowsD_row hj, rowsD_row hj]
  unfold rowD
  by_cases e : j = i
  · subst e; rw [if_pos rfl, if_pos (by omega)]
  · rw [if_neg e]
    by_cases h : k < j ∧ j < i
    · rw [if_pos h, if_pos (by omega)]
    · rw [if_neg h, if_neg (by omega)]
theorem DetAt.rows {p : Int} {n : Nat} {A m : List (List Int)} {k : Nat} {out : Int} (hp : prm p = true) (h : DetAt p n A m k out) (hk : k < n) (hx : 1 ≤ at' m k k) : DetAt p n A (rowsD p m k n) (k + 1) (out * at' m k k % p) := by
  have hn := h.ml
  have hrow : ∀ i, i < n → rw' (rowsD p m k n) i = rowD p m k n i := fun i hi => rowsD_row (by omega)
  refine h.step hp hk hx (by rw [rowsD_len, hn]) (fun i hi => ?_) (fun i hi j hj => ?_)
  · rw [hrow i hi]
    unfold rowD
    split
    · unfold plusR; rw [mkR_len]; exact h.len i hi
    · exact h.len i hi
  · show (rw' (rowsD p m k n) i).getD j 0 = _
    rw [hrow i hi]
    unfold rowD
    by_cases e : k < i
    · rw [if_pos ⟨e, hi⟩, if_pos e]
      unfold plusR
      rw [mkR_at _ (by rw [h.len i hi]; exact hj)]
      rfl
    · rw [if_neg (by omega), if_neg e]; rfl

end Go.Proofs.Ytcmedhkamjclmaa

namespace Go.Proofs.Ytcmedhkamjclmaa
open Go.RowKit
set_option linter.unusedVariables false

/-- A row of n numbers in new memory is handed back. -/
def NewL (n : Nat) (z : List Int) (w : World) (e : Ending) (w' : World) : Prop :=
  z.length = n ∧ ∃ r c, e = .returned (.slice r n c) ∧ TagR w.heap.size w'.heap.size w' r z ∧ Below w.heap.size w w'
theorem NewR.l {n : Nat} {z : List Int} {w w' : World} {e : Ending} (h : NewR z w e w') (hn : z.length = n) : NewL n z w e w' := by
  subst hn; exact ⟨rfl, h⟩
theorem l02Plus_n (p k : Int) (a b : Option Addr) (za zb : List Int) (n ca cb lo tp lo' tp' : Nat) (w : World) (hp : prm p = true) (ha : RowIn lo tp w a za) (hb : RowIn lo' tp' w b zb) (ht : tp ≤ w.heap.size) (ht' : tp' ≤ w.heap.size)
    (hn : za.length = n) (hn' : zb.length = n) (hs : n ≤ 1048576) (hna : ∀ j, j < n → 0 ≤ za.getD j 0 ∧ za.getD j 0 < p) (hnb : ∀ j, j < n → 0 ≤ zb.getD j 0 ∧ zb.getD j 0 < p) (k0 : 0 ≤ k) (k1 : k ≤ p) :
    Calls Try.prog 116 #[.int .i64 p, .slice a n ca, .slice b n cb, .int .i64 k] w (NewL n (plusR p za zb k) w) := by
  subst hn
  have h := l02Plus_any p k a b za zb ca cb lo tp lo' tp' w hp ha hb ht ht' (by omega) hs hna (fun j hj => hnb j (by omega)) k0 k1
  rw [hn'] at h
  exact h.mono (fun e w' h => h.l (by unfold plusR; rw [mkR_len]))
theorem TopM.setn {lo n : Nat} {w : World} {b i : Nat} {m : List (List Int)} {r : Option Addr} {z : List Int} {c : Nat} (h : TopM lo w b m) (hi : i < m.length) (hn : z.length = n) (hz : TagR lo w.heap.size w r z) :
    TopM lo (w.setCell ⟨b, i, none⟩ (.slice r n c)) b (m.set i z) := by
  subst hn; exact h.set hi hz
theorem TagR.keepTop {lo : Nat} {w : World} {b i : Nat} {m : List (List Int)} {r : Option Addr} {z : List Int} {v : Value} (h : TopM lo w b m) (hz : TagR lo w.heap.size w r z) : TagR lo (w.setCell ⟨b, i, none⟩ v).heap.size (w.setCell ⟨b, i, none⟩ v) r z := by
  have hsz : (w.setCell ⟨b, i, none⟩ v).heap.size = w.heap.size := by simp [World.setCell]
  rw [hsz]
  exact hz.setTop h

/-- From row d to row f column k is zero. -/
def Zer (m : List (List Int)) (k d f : Nat) : Prop := ∀ i, d ≤ i → i < f → at' m i k = 0

theorem below_top {B b i : Nat} {w w' : World} {v : Value} (h : B ≤ b) (hb : Below B w w') : Below B w (w'.setCell ⟨b, i, none⟩ v) := Below.setCell hb (show B ≤ (⟨b, i, none⟩ : Addr).block from h) v
end Go.Proofs.Ytcmedhkamjclmaa

namespace Go.Proofs.Ytcmedhkamjclmaa
open Go.RowKit Go.ChangeShapes Go.WideShapes
set_option linter.unusedVariables false

/-- What has been seen of the first i rows. -/
def Seen (p : Int) (m : List (List Int)) (i : Nat) : Prop := ∀ i', i' < i → (rw' m i').length = (rw' m 0).length ∧ (1 ≤ (rw' m i').length ∧ (rw' m i').length ≤ 16) ∧ (rw' m i').all (inr p) = true
theorem Seen.zero (p : Int) (m : List (List Int)) : Seen p m 0 := fun i' h => by omega
theorem Seen.next {p : Int} {m : List (List Int)} {i : Nat} (h : Seen p m i) (h1 : (rw' m i).length = (rw' m 0).length) (h2 : 1 ≤ (rw' m i).length ∧ (rw' m i).length ≤ 16) (h3 : (rw' m i).all (inr p) = true) : Seen p m (i + 1) := by
  intro i' hi'
  by_cases e : i' = i
  · subst e; exact ⟨h1, h2, h3⟩
  · exact h i' (by omega)
end Go.Proofs.Ytcmedhkamjclmaa
