/-
  The reduced basis as a function of the rows; the model's SpanBasis and RankOf: contracts.
  Conditions: the list of vectors is a row of rows of known cells.
  Solutions of linear equations out of reduced rows. No Go in sight.
  No conditions.
  Elimination row by row: what taking one row more does to reduced rows. No Go in sight.
  No conditions.
-/
import Derived.Test.YtkibkkdeaojjoabGreatQg11
import Derived.Test.YtkibkkdeaojjoabGreatQg5
import Derived.Test.YtkibkkdeaojjoabGreatQg12
import Derived.Test.YtkibkkdeaojjoabGreatQg6
namespace Go.Proofs.YtkibkkdeaojjoabGreat
open Go.RowKit
set_option linter.unusedVariables false

open Classical in
/-- The reduced basis of what the rows make. -/
noncomputable def bas (p : Int) (A : List (List Int)) : List (List Int) := if h : ∃ m, IsBas p (rw' A 0).length A m then Classical.choose h else []
theorem bas_eq {p : Int} {A m : List (List Int)} (hp : 1 < p) (h : IsBas p (rw' A 0).length A m) : m = bas p A := by
  unfold bas
  rw [dif_pos ⟨m, h⟩]
  exact h.unique hp (Classical.choose_spec (⟨m, h⟩ : ∃ m, IsBas p (rw' A 0).length A m))
theorem bas_nil {p : Int} (hp : 1 < p) : bas p [] = [] := by
  refine (bas_eq hp (m := []) ⟨fun i hi => by simp at hi, ⟨fun _ => 0, ?_⟩, fun x => Iff.rfl⟩).symm
  constructor <;> intros <;> simp at * <;> omega
theorem Rref.rows_le {p : Int} {n c : Nat} {R : Nat → Nat → Int} {P : Nat → Nat} (h : Rref p n c R P) : n ≤ c := by
  have key : ∀ i, i < n → i ≤ P i := by
    intro i
    induction i with
    | zero => intro _; exact Nat.zero_le _
    | succ i ih => intro hi; have := ih (by omega); have := h.mono i (i + 1) (by omega) hi; omega
  by_cases h0 : n = 0
  · omega
  · have := key (n - 1) (by omega); have := h.pv (n - 1) (by omega); omega
end Go.Proofs.YtkibkkdeaojjoabGreat

namespace Go.Proofs.YtkibkkdeaojjoabGreat
set_option linter.unusedVariables false

/-- Rows with the rows of others behind them. -/
def bes (A O : List (List Int)) : List (List Int) := (List.range A.length).map fun i => rw' A i ++ rw' O i
theorem bes_len (A O : List (List Int)) : (bes A O).length = A.length := by simp [bes]
theorem bes_row {A O : List (List Int)} {i : Nat} (h : i < A.length) : rw' (bes A O) i = rw' A i ++ rw' O i := by simp [bes, rw', List.getD, h]
theorem bes_at {A O : List (List Int)} {i j c : Nat} (h : i < A.length) (hc : (rw' A i).length = c) : at' (bes A O) i j = if j < c then at' A i j else at' O i (j - c) := by
  unfold at'
  rw [bes_row h]
  simp only [List.getD_eq_getElem?_getD]
  split
  · rename_i e; rw [List.getElem?_append_left (by omega)]
  · rename_i e; rw [List.getElem?_append_right (by omega), hc]
/-- Rows of one length with numbers of the prime, at least one, longer ones too. -/
structure RowsX (p : Int) (c : Nat) (A : List (List Int)) : Prop where
  prime : prm p = true
  lo : 0 < A.length
  hi : A.length ≤ 1024
  c0 : 1 ≤ c
  c1 : c ≤ 1024
  len : ∀ i, i < A.length → (rw' A i).length = c
  rng : ∀ i, i < A.length → ∀ j, j < c → 0 ≤ at' A i j ∧ at' A i j < p
theorem RowsX.len0 {p : Int} {c : Nat} {A : List (List Int)} (h : RowsX p c A) : (rw' A 0).length = c := h.len 0 h.lo
theorem bes_rows {p : Int} {A O : List (List Int)} {d : Nat} (h : Lst 1 p A) (hO : ∀ i, i < A.length → (rw' O i).length = d) (hd : d ≤ 64) (hr : ∀ i, i < A.length → ∀ j, j < d → 0 ≤ at' O i j ∧ at' O i j < p) : RowsX p ((rw' A 0).length + d) (bes A O) where
  prime := h.prime
  lo := by rw [bes_len]; exact h.lo
  hi := by rw [bes_len]; have := h.hi; omega
  c0 := by have := h.c0 0 h.lo; omega
  c1 := by have := h.c1 0 h.lo; omega
  len i hi := by
    rw [bes_len] at hi
    rw [bes_row hi, List.length_append, h.len i hi, hO i hi]
  rng i hi j hj := by
    rw [bes_len] at hi
    have hl : (rw' A i).length = (rw' A 0).length := h.len i hi
    rw [bes_at hi hl]
    split
    · rename_i e; exact h.at hi e
    · exact hr i hi _ (by omega)
end Go.Proofs.YtkibkkdeaojjoabGreat

namespace Go.Proofs.YtkibkkdeaojjoabGreat
set_option linter.unusedVariables false

/-- Reduced rows m, with pivots P, of the rows A. -/
structure Kept (p : Int) (c : Nat) (A m : List (List Int)) (P : Nat → Nat) : Prop where
  len : ∀ i, i < m.length → (rw' m i).length = c
  red : Rref p m.length c (at' m) P
  nul : ∀ x, Go.Proofs.YtkibkkdeaojjoabGreat.nul p A.length c (at' A) x ↔ Go.Proofs.YtkibkkdeaojjoabGreat.nul p m.length c (at' m) x
theorem Kept.bas {p : Int} {c : Nat} {A m : List (List Int)} {P : Nat → Nat} (h : Kept p c A m P) : IsBas p c A m := ⟨h.len, ⟨P, h.red⟩, h.nul⟩
theorem Kept.start (p : Int) (c : Nat) (P : Nat → Nat) : Kept p c [] [] P where
  len i hi := by simp at hi
  red := ⟨fun i hi => by simp at hi, fun i i' _ hi => by simp at hi, fun i hi => by simp at hi, fun i hi => by simp at hi, fun i hi => by simp at hi, fun i hi => by simp at hi⟩
  nul x := by simp [Go.Proofs.YtkibkkdeaojjoabGreat.nul]
/-- The numbers of a list. -/
def num (z : List Int) (j : Nat) : Int := z.getD j 0
theorem at_append_old {m : List (List Int)} {z : List Int} {i : Nat} (h : i < m.length) : at' (m ++ [z]) i = at' m i := by
  funext j
  unfold at' rw'
  simp only [List.getD_eq_getElem?_getD]
  rw [List.getElem?_append_left h]
theorem at_append_new (m : List (List Int)) (z : List Int) : at' (m ++ [z]) m.length = num z := by
  funext j
  unfold at' rw' num
  simp
theorem nul_append {p : Int} {c : Nat} {A : List (List Int)} {r : List Int} {x : Nat → Int} : nul p (A ++ [r]).length c (at' (A ++ [r])) x ↔ nul p A.length c (at' A) x ∧ van p c (num r) x := by
  simp only [List.length_append, List.length_cons, List.length_nil]
  constructor
  · intro h
    refine ⟨fun i hi => ?_, ?_⟩
    · have := h i (by omega); rw [at_append_old hi] at this; exact this
    · have := h A.length (by omega); rw [at_append_new] at this; exact this
  · rintro ⟨h1, h2⟩ i hi
    by_cases e : i < A.length
    · rw [at_append_old e]; exact h1 i e
    · have : i = A.length := by omega
      subst this
      rw [at_append_new]; exact h2
/-- The row that was taken is a sum of multiples of those before it. -/
theorem Kept.same {p : Int} {c : Nat} {A m : List (List Int)} {P : Nat → Nat} {r r' : List Int} (h : Kept p c A m P) (hr : ∀ x, Go.Proofs.YtkibkkdeaojjoabGreat.nul p m.length c (at' m) x → (van p c (num r') x ↔ van p c (num r) x)) (h0 : ∀ j, j < c → num r' j = 0) : Kept p c (A ++ [r]) m P :=
  ⟨h.len, h.red, fun x => by
    rw [nul_append, h.nul x]
    constructor
    · exact fun g => g.1
    · intro g
      refine ⟨g, (hr x g).1 ?_⟩
      unfold van
      have e : sm c (fun j => num r' j * x j) = sm c (fun _ => 0) := sm_congr (fun j hj => by rw [h0 j hj, Int.zero_mul])
      rw [e, sm_zero]; rfl⟩
def ins (α : Type) (l : List α) (t : Nat) (x : α) : List α := l.take t ++ x :: l.drop t
theorem ins_len {α : Type} {l : List α} {t : Nat} (x : α) (h : t ≤ l.length) : (ins α l t x).length = l.length + 1 := by
  simp [ins]; omega
theorem ins_lt {α : Type} {l : List α} {t i : Nat} (x d : α) (h : t ≤ l.length) (hi : i < t) : (ins α l t x).getD i d = l.getD i d := by
  simp only [ins, List.getD_eq_getElem?_getD]
  rw [List.getElem?_append_left (by rw [List.length_take]; omega), List.getElem?_take, if_pos hi]
theorem ins_eq {α : Type} {l : List α} {t : Nat} (x d : α) (h : t ≤ l.length) : (ins α l t x).getD t d = x := by
  simp only [ins, List.getD_eq_getElem?_getD]
  rw [List.getElem?_append_right (by rw [List.length_take]; omega), List.length_take, Nat.min_eq_left h]
  simp
theorem ins_gt {α : Type} {l : List α} {t i : Nat} (x d : α) (h : t ≤ l.length) (hi : t < i) : (ins α l t x).getD i d = l.getD (i - 1) d := by
  simp only [ins, List.getD_eq_getElem?_getD]
  rw [List.getElem?_append_right (by rw [List.length_take]; omega), List.length_take, Nat.min_eq_left h]
  obtain ⟨k, rfl⟩ : ∃ k, i = t + 1 + k := ⟨i - t - 1, by omega⟩
  have e1 : t + 1 + k - t = k + 1 := by omega
  have e2 : t + 1 + k - 1 = t + k := by omega
  rw [e1, e2, List.getElem?_cons_succ, List.getElem?_drop]
/-- Where an index of the longer list comes from. -/
def old (t i : Nat) : Nat := if i < t then i else i - 1
theorem old_lt {n t i : Nat} (h : i < n + 1) (hne : i ≠ t) (ht : t ≤ n) : old t i < n := by unfold old; split <;> omega
theorem old_inj {t i i' : Nat} (h : i ≠ t) (h' : i' ≠ t) (hne : i ≠ i') : old t i ≠ old t i' := by unfold old; split <;> split <;> omega
theorem at_ins {m : List (List Int)} {t i : Nat} (z : List Int) (ht : t ≤ m.length) (hne : i ≠ t) : at' (ins _ m t z) i = at' m (old t i) := by
  funext j
  unfold at' rw' old
  rcases Nat.lt_trichotomy i t with l | l | l
  · rw [if_pos l, ins_lt z [] ht l]
  · exact absurd l hne
  · rw [if_neg (by omega), ins_gt z [] ht l]
theorem at_ins_new {m : List (List Int)} {t : Nat} (z : List Int) (ht : t ≤ m.length) : at' (ins _ m t z) t = num z := by
  funext j
  unfold at' rw' num
  rw [ins_eq z [] ht]
theorem rw_ins {m : List (List Int)} {t i : Nat} (z : List Int) (ht : t ≤ m.length) (hne : i ≠ t) : rw' (ins _ m t z) i = rw' m (old t i) := by
  unfold rw' old
  rcases Nat.lt_trichotomy i t with l | l | l
  · rw [if_pos l, ins_lt z [] ht l]
  · exact absurd l hne
  · rw [if_neg (by omega), ins_gt z [] ht l]
theorem rw_ins_new {m : List (List Int)} {t : Nat} (z : List Int) (ht : t ≤ m.length) : rw' (ins _ m t z) t = z := by unfold rw'; rw [ins_eq z [] ht]

/-- One row more, with its pivot q, put at place t. -/
theorem Kept.more {p : Int} {c : Nat} {A m m' : List (List Int)} {P : Nat → Nat} {r r' s : List Int} {q t : Nat} (hp : prm p = true) (h : Kept p c A m P)
    (hr : ∀ x, Go.Proofs.YtkibkkdeaojjoabGreat.nul p m.length c (at' m) x → (van p c (num r') x ↔ van p c (num r) x)) (hP : ∀ i, i < m.length → num r' (P i) = 0) (hrr : ∀ j, j < c → 0 ≤ num r' j ∧ num r' j < p)
    (hq : q < c) (hq0 : num r' q ≠ 0) (hql : ∀ j, j < q → num r' j = 0)
    (hs : ∀ j, j < c → num s j = num r' j * inv p (num r' q) % p) (hsl : s.length = c)
    (hm : m'.length = m.length) (hml : ∀ i, i < m.length → (rw' m' i).length = c) (hmr : ∀ i, i < m.length → ∀ j, j < c → at' m' i j = (at' m i j + (p - at' m i q) % p * num s j) % p)
    (ht : t ≤ m.length) (htl : ∀ i, i < t → P i < q) (htr : ∀ i, t ≤ i → i < m.length → q < P i) :
    Kept p c (A ++ [r]) (ins _ m' t s) (fun i => if i = t then q else P (old t i)) := by
  have hpb := prm_bd hp
  have hrq := hrr q hq
  have ht' : t ≤ m'.length := by omega
  have hlen : (ins _ m' t s).length = m.length + 1 := by rw [ins_len s ht', hm]
  have hsq : num s q = 1 := by rw [hs q hq]; exact inv_mul hp (by omega) hrq.2
  have hs0 : ∀ j, j < q → num s j = 0 := fun j hj => by rw [hs j (by omega), hql j hj]; simp
  have hsP : ∀ i, i < m.length → num s (P i) = 0 := fun i hi => by rw [hs _ (h.red.pv i hi), hP i hi]; simp
  have hmq : ∀ i, i < m.length → at' m' i q = 0 := fun i hi => by
    rw [hmr i hi q hq, hsq, Int.mul_one]
    have r1 := h.red.rng i hi q hq
    by_cases e : at' m i q = 0
    · rw [e]; simp
    · rw [Int.emod_eq_of_lt (a := p - at' m i q) (by omega) (by omega)]
      have : at' m i q + (p - at' m i q) = p := by omega
      rw [this]; simp
  have hkeep : ∀ i, i < m.length → ∀ j, j < c → num s j = 0 → at' m' i j = at' m i j := fun i hi j hj h0 => by
    rw [hmr i hi j hj, h0, Int.mul_zero, Int.add_zero]
    have r1 := h.red.rng i hi j hj
    exact Int.emod_eq_of_lt r1.1 r1.2
  have htq : ∀ i, i < m.length → (i < t ↔ P i < q) := fun i hi => ⟨htl i, fun g => by
    rcases Nat.lt_or_ge i t with l | l
    · exact l
    · have := htr i l hi; omega⟩
  have fstm : ∀ i, i < m.length → ∀ j, j < P i → at' m' i j = 0 := fun i hi j hj => by
    have hjc : j < c := Nat.lt_trans hj (h.red.pv i hi)
    rw [hmr i hi j hjc, h.red.fst i hi j hj, Int.zero_add]
    by_cases e : P i < q
    · rw [hs0 j (by omega)]; simp
    · have hPq : q < P i := by
        rcases Nat.lt_or_ge i t with l | l
        · exact absurd (htl i l) e
        · exact htr i l hi
      rw [h.red.fst i hi q hPq]; simp
  refine ⟨fun i hi => ?_, ?_, fun x => ?_⟩
  · rw [hlen] at hi
    by_cases e : i = t
    · subst e; rw [rw_ins_new s ht']; exact hsl
    · rw [rw_ins s ht' e]; exact hml _ (old_lt hi e ht)
  · rw [hlen]
    refine ⟨fun i hi => ?_, fun i i' hii hi' => ?_, fun i hi => ?_, fun i hi i' hi' hne => ?_, fun i hi j hj => ?_, fun i hi j hj => ?_⟩
    · show (if i = t then q else P (old t i)) < c
      by_cases e : i = t
      · rw [if_pos e]; exact hq
      · rw [if_neg e]; exact h.red.pv _ (old_lt hi e ht)
    · show (if i = t then q else P (old t i)) < if i' = t then q else P (old t i')
      by_cases e : i = t
      · rw [if_pos e, if_neg (by omega)]
        exact htr _ (by unfold old; rw [if_neg (by omega)]; omega) (old_lt hi' (by omega) ht)
      · rw [if_neg e]
        by_cases e' : i' = t
        · rw [if_pos e']
          exact htl _ (by unfold old; rw [if_pos (by omega)]; omega)
        · rw [if_neg e']
          exact h.red.mono _ _ (by unfold old; split <;> split <;> omega) (old_lt hi' e' ht)
    · show at' (ins _ m' t s) i (if i = t then q else P (old t i)) = 1
      by_cases e : i = t
      · rw [if_pos e, e, at_ins_new s ht']; exact hsq
      · have ho := old_lt hi e ht
        rw [if_neg e, at_ins s ht' e, hkeep _ ho _ (h.red.pv _ ho) (hsP _ ho)]
        exact h.red.one _ ho
    · show at' (ins _ m' t s) i' (if i = t then q else P (old t i)) = 0
      by_cases e : i = t
      · have e' : i' ≠ t := by omega
        rw [if_pos e, at_ins s ht' e']
        exact hmq _ (old_lt hi' e' ht)
      · have ho := old_lt hi e ht
        rw [if_neg e]
        by_cases e' : i' = t
        · rw [e', at_ins_new s ht']; exact hsP _ ho
        · have ho' := old_lt hi' e' ht
          rw [at_ins s ht' e', hkeep _ ho' _ (h.red.pv _ ho) (hsP _ ho)]
          exact h.red.zer _ ho _ ho' (old_inj e e' hne)
    · have hj' : j < (if i = t then q else P (old t i)) := hj
      by_cases e : i = t
      · rw [if_pos e] at hj'; rw [e, at_ins_new s ht']; exact hs0 j hj'
      · rw [if_neg e] at hj'; rw [at_ins s ht' e]; exact fstm _ (old_lt hi e ht) j hj'
    · by_cases e : i = t
      · rw [e, at_ins_new s ht', hs j hj]; exact mod_bd hp _
      · rw [at_ins s ht' e, hmr _ (old_lt hi e ht) j hj]; exact mod_bd hp _
  · rw [nul_append, h.nul x, hlen]
    have vs : van p c (num s) x ↔ van p c (num r') x := van_scale (g := num r' q) hs (by rw [Int.mul_comm, inv_mul hp (by omega) hrq.2, Int.emod_eq_of_lt (by omega) (by omega)])
    have vm : van p c (num s) x → ∀ i, i < m.length → (van p c (at' m' i) x ↔ van p c (at' m i) x) := fun hv i hi => van_add (hmr i hi) hv
    constructor
    · rintro ⟨g1, g2⟩ i hi
      have hv : van p c (num s) x := vs.2 ((hr x g1).2 g2)
      by_cases e : i = t
      · rw [e, at_ins_new s ht']; exact hv
      · have ho := old_lt hi e ht
        rw [at_ins s ht' e]; exact (vm hv _ ho).2 (g1 _ ho)
    · intro g
      have hv : van p c (num s) x := by have := g t (by omega); rw [at_ins_new s ht'] at this; exact this
      have g1 : Go.Proofs.YtkibkkdeaojjoabGreat.nul p m.length c (at' m) x := fun i hi => by
        by_cases e : i < t
        · have := g i (by omega)
          rw [at_ins s ht' (by omega)] at this
          have e2 : old t i = i := by unfold old; rw [if_pos e]
          rw [e2] at this
          exact (vm hv i hi).1 this
        · have := g (i + 1) (by omega)
          rw [at_ins s ht' (by omega)] at this
          have e2 : old t (i + 1) = i := by unfold old; rw [if_neg (by omega)]; omega
          rw [e2] at this
          exact (vm hv i hi).1 this
      exact ⟨g1, (hr x g1).1 (vs.1 hv)⟩

/-- A row is reduced by the first k of reduced rows. -/
structure Redu (p : Int) (c : Nat) (m : List (List Int)) (P : Nat → Nat) (r r' : List Int) (k : Nat) : Prop where
  len : r'.length = c
  rng : ∀ j, j < c → 0 ≤ num r' j ∧ num r' j < p
  zer : ∀ i, i < k → num r' (P i) = 0
  van : ∀ x, Go.Proofs.YtkibkkdeaojjoabGreat.nul p m.length c (at' m) x → (Go.Proofs.YtkibkkdeaojjoabGreat.van p c (num r') x ↔ Go.Proofs.YtkibkkdeaojjoabGreat.van p c (num r) x)
theorem Redu.start {p : Int} {c : Nat} {m : List (List Int)} {P : Nat → Nat} {r : List Int} (hl : r.length = c) (hr : ∀ j, j < c → 0 ≤ num r j ∧ num r j < p) : Redu p c m P r r 0 :=
  ⟨hl, hr, fun i hi => by omega, fun x _ => Iff.rfl⟩
theorem Redu.next {p : Int} {c : Nat} {m : List (List Int)} {P : Nat → Nat} {r r' r'' : List Int} {k : Nat} (hp : prm p = true) (h : Redu p c m P r r' k) (hR : Rref p m.length c (at' m) P) (hk : k < m.length)
    (hl : r''.length = c) (hn : ∀ j, j < c → num r'' j = (num r' j + (p - num r' (P k)) % p * at' m k j) % p) : Redu p c m P r r'' (k + 1) := by
  have hpb := prm_bd hp
  refine ⟨hl, fun j hj => by rw [hn j hj]; exact mod_bd hp _, fun i hi => ?_, fun x hx => ?_⟩
  · have hik : i < m.length := by omega
    rw [hn _ (hR.pv i hik)]
    by_cases e : i = k
    · subst e
      rw [hR.one i hk, Int.mul_one]
      have r1 := h.rng _ (hR.pv i hk)
      by_cases e0 : num r' (P i) = 0
      · rw [e0]; simp
      · rw [Int.emod_eq_of_lt (a := p - num r' (P i)) (by omega) (by omega)]
        have : num r' (P i) + (p - num r' (P i)) = p := by omega
        rw [this]; simp
    · rw [hR.zer i hik k hk e, h.zer i (by omega)]; simp
  · exact (van_add hn (hx k hk)).trans (h.van x hx)

end Go.Proofs.YtkibkkdeaojjoabGreat
