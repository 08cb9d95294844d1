/-
  Elimination row by row: what taking one row more does to reduced rows. No Go in sight.
  No conditions.
  Elimination row by row as a relation: what steps have led from the rows taken to the reduced rows, their pivots and the determinant. No Go in sight.
  No conditions.
-/
import Derived.Test.YtkibkkdeaojjoabQd6
namespace Go.Proofs.Ytkibkkdeaojjoab
set_option linter.unusedVariables false

/-- Reduced rows m, with pivots P, of the rows A. -/
structure Kept (p : Int) (c : Nat) (A m : List (List Int)) (P : Nat → Nat) : Prop where
  len : ∀ i, i < m.length → (rw' m i).length = c
  red : Rref p m.length c (at' m) P
  nul : ∀ x, Go.Proofs.Ytkibkkdeaojjoab.nul p A.length c (at' A) x ↔ Go.Proofs.Ytkibkkdeaojjoab.nul p m.length c (at' m) x
theorem Kept.bas {p : Int} {c : Nat} {A m : List (List Int)} {P : Nat → Nat} (h : Kept p c A m P) : IsBas p c A m := ⟨h.len, ⟨P, h.red⟩, h.nul⟩
theorem Kept.start (p : Int) (c : Nat) (P : Nat → Nat) : Kept p c [] [] P where
  len i hi := by simp at hi
  red := ⟨fun i hi => by simp at hi, fun i i' _ hi => by simp at hi, fun i hi => by simp at hi, fun i hi => by simp at hi, fun i hi => by simp at hi, fun i hi => by simp at hi⟩
  nul x := by simp [Go.Proofs.Ytkibkkdeaojjoab.nul]
/-- The numbers of a list. -/
def num (z : List Int) (j : Nat) : Int := z.getD j 0
theorem at_append_old {m : List (List Int)} {z : List Int} {i : Nat} (h : i < m.length) : at' (m ++ [z]) i = at' m i := by
  funext j
  unfold at' rw'
  simp only [List.getD_eq_getElem?_getD]
  rw [List.getElem?_append_left h]
theorem at_append_new (m : List (List Int)) (z : List Int) : at' (m ++ [z]) m.length = num z := by
  funext j
  unfold at' rw' num
  simp
theorem nul_append {p : Int} {c : Nat} {A : List (List Int)} {r : List Int} {x : Nat → Int} : nul p (A ++ [r]).length c (at' (A ++ [r])) x ↔ nul p A.length c (at' A) x ∧ van p c (num r) x := by
  simp only [List.length_append, List.length_cons, List.length_nil]
  constructor
  · intro h
    refine ⟨fun i hi => ?_, ?_⟩
    · have := h i (by omega); rw [at_append_old hi] at this; exact this
    · have := h A.length (by omega); rw [at_append_new] at this; exact this
  · rintro ⟨h1, h2⟩ i hi
    by_cases e : i < A.length
    · rw [at_append_old e]; exact h1 i e
    · have : i = A.length := by omega
      subst this
      rw [at_append_new]; exact h2
/-- The row that was taken is a sum of multiples of those before it. -/
theorem Kept.same {p : Int} {c : Nat} {A m : List (List Int)} {P : Nat → Nat} {r r' : List Int} (h : Kept p c A m P) (hr : ∀ x, Go.Proofs.Ytkibkkdeaojjoab.nul p m.length c (at' m) x → (van p c (num r') x ↔ van p c (num r) x)) (h0 : ∀ j, j < c → num r' j = 0) : Kept p c (A ++ [r]) m P :=
  ⟨h.len, h.red, fun x => by
    rw [nul_append, h.nul x]
    constructor
    · exact fun g => g.1
    · intro g
      refine ⟨g, (hr x g).1 ?_⟩
      unfold van
      have e : sm c (fun j => num r' j * x j) = sm c (fun _ => 0) := sm_congr (fun j hj => by rw [h0 j hj, Int.zero_mul])
      rw [e, sm_zero]; rfl⟩
def ins (α : Type) (l : List α) (t : Nat) (x : α) : List α := l.take t ++ x :: l.drop t
theorem ins_len {α : Type} {l : List α} {t : Nat} (x : α) (h : t ≤ l.length) : (ins α l t x).length = l.length + 1 := by
  simp [ins]; omega
theorem ins_lt {α : Type} {l : List α} {t i : Nat} (x d : α) (h : t ≤ l.length) (hi : i < t) : (ins α l t x).getD i d = l.getD i d := by
  simp only [ins, List.getD_eq_getElem?_getD]
  rw [List.getElem?_append_left (by rw [List.length_take]; omega), List.getElem?_take, if_pos hi]
theorem ins_eq {α : Type} {l : List α} {t : Nat} (x d : α) (h : t ≤ l.length) : (ins α l t x).getD t d = x := by
  simp only [ins, List.getD_eq_getElem?_getD]
  rw [List.getElem?_append_right (by rw [List.length_take]; omega), List.length_take, Nat.min_eq_left h]
  simp
theorem ins_gt {α : Type} {l : List α} {t i : Nat} (x d : α) (h : t ≤ l.length) (hi : t < i) : (ins α l t x).getD i d = l.getD (i - 1) d := by
  simp only [ins, List.getD_eq_getElem?_getD]
  rw [List.getElem?_append_right (by rw [List.length_take]; omega), List.length_take, Nat.min_eq_left h]
  obtain ⟨k, rfl⟩ : ∃ k, i = t + 1 + k := ⟨i - t - 1, by omega⟩
  have e1 : t + 1 + k - t = k + 1 := by omega
  have e2 : t + 1 + k - 1 = t + k := by omega
  rw [e1, e2, List.getElem?_cons_succ, List.getElem?_drop]
/-- Where an index of the longer list comes from. -/
def old (t i : Nat) : Nat := if i < t then i else i - 1
theorem old_lt {n t i : Nat} (h : i < n + 1) (hne : i ≠ t) (ht : t ≤ n) : old t i < n := by unfold old; split <;> omega
theorem old_inj {t i i' : Nat} (h : i ≠ t) (h' : i' ≠ t) (hne : i ≠ i') : old t i ≠ old t i' := by unfold old; split <;> split <;> omega
theorem at_ins {m : List (List Int)} {t i : Nat} (z : List Int) (ht : t ≤ m.length) (hne : i ≠ t) : at' (ins _ m t z) i = at' m (old t i) := by
  funext j
  unfold at' rw' old
  rcases Nat.lt_trichotomy i t with l | l | l
  · rw [if_pos l, ins_lt z [] ht l]
  · exact absurd l hne
  · rw [if_neg (by omega), ins_gt z [] ht l]
theorem at_ins_new {m : List (List Int)} {t : Nat} (z : List Int) (ht : t ≤ m.length) : at' (ins _ m t z) t = num z := by
  funext j
  unfold at' rw' num
  rw [ins_eq z [] ht]
theorem rw_ins {m : List (List Int)} {t i : Nat} (z : List Int) (ht : t ≤ m.length) (hne : i ≠ t) : rw' (ins _ m t z) i = rw' m (old t i) := by
  unfold rw' old
  rcases Nat.lt_trichotomy i t with l | l | l
  · rw [if_pos l, ins_lt z [] ht l]
  · exact absurd l hne
  · rw [if_neg (by omega), ins_gt z [] ht l]
theorem rw_ins_new {m : List (List Int)} {t : Nat} (z : List Int) (ht : t ≤ m.length) : rw' (ins _ m t z) t = z := by unfold rw'; rw [ins_eq z [] ht]

/-- One row more, with its pivot q, put at place t. -/
theorem Kept.more {p : Int} {c : Nat} {A m m' : List (List Int)} {P : Nat → Nat} {r r' s : List Int} {q t : Nat} (hp : prm p = true) (h : Kept p c A m P)
    (hr : ∀ x, Go.Proofs.Ytkibkkdeaojjoab.nul p m.length c (at' m) x → (van p c (num r') x ↔ van p c (num r) x)) (hP : ∀ i, i < m.length → num r' (P i) = 0) (hrr : ∀ j, j < c → 0 ≤ num r' j ∧ num r' j < p)
    (hq : q < c) (hq0 : num r' q ≠ 0) (hql : ∀ j, j < q → num r' j = 0)
    (hs : ∀ j, j < c → num s j = num r' j * inv p (num r' q) % p) (hsl : s.length = c)
    (hm : m'.length = m.length) (hml : ∀ i, i < m.length → (rw' m' i).length = c) (hmr : ∀ i, i < m.length → ∀ j, j < c → at' m' i j = (at' m i j + (p - at' m i q) % p * num s j) % p)
    (ht : t ≤ m.length) (htl : ∀ i, i < t → P i < q) (htr : ∀ i, t ≤ i → i < m.length → q < P i) :
    Kept p c (A ++ [r]) (ins _ m' t s) (fun i => if i = t then q else P (old t i)) := by
  have hpb := prm_bd hp
  have hrq := hrr q hq
  have ht' : t ≤ m'.length := by omega
  have hlen : (ins _ m' t s).length = m.length + 1 := by rw [ins_len s ht', hm]
  have hsq : num s q = 1 := by rw [hs q hq]; exact inv_mul hp (by omega) hrq.2
  have hs0 : ∀ j, j < q → num s j = 0 := fun j hj => by rw [hs j (by omega), hql j hj]; simp
  have hsP : ∀ i, i < m.length → num s (P i) = 0 := fun i hi => by rw [hs _ (h.red.pv i hi), hP i hi]; simp
  have hmq : ∀ i, i < m.length → at' m' i q = 0 := fun i hi => by
    rw [hmr i hi q hq, hsq, Int.mul_one]
    have r1 := h.red.rng i hi q hq
    by_cases e : at' m i q = 0
    · rw [e]; simp
    · rw [Int.emod_eq_of_lt (a := p - at' m i q) (by omega) (by omega)]
      have : at' m i q + (p - at' m i q) = p := by omega
      rw [this]; simp
  have hkeep : ∀ i, i < m.length → ∀ j, j < c → num s j = 0 → at' m' i j = at' m i j := fun i hi j hj h0 => by
    rw [hmr i hi j hj, h0, Int.mul_zero, Int.add_zero]
    have r1 := h.red.rng i hi j hj
    exact Int.emod_eq_of_lt r1.1 r1.2
  have htq : ∀ i, i < m.length → (i < t ↔ P i < q) := fun i hi => ⟨htl i, fun g => by
    rcases Nat.lt_or_ge i t with l | l
    · exact l
    · have := htr i l hi; omega⟩
  have fstm : ∀ i, i < m.length → ∀ j, j < P i → at' m' i j = 0 := fun i hi j hj => by
    have hjc : j < c := Nat.lt_trans hj (h.red.pv i hi)
    rw [hmr i hi j hjc, h.red.fst i hi j hj, Int.zero_add]
    by_cases e : P i < q
    · rw [hs0 j (by omega)]; simp
    · have hPq : q < P i := by
        rcases Nat.lt_or_ge i t with l | l
        · exact absurd (htl i l) e
        · exact htr i l hi
      rw [h.red.fst i hi q hPq]; simp
  refine ⟨fun i hi => ?_, ?_, fun x => ?_⟩
  · rw [hlen] at hi
    by_cases e : i = t
    · subst e; rw [rw_ins_new s ht']; exact hsl
    · rw [rw_ins s ht' e]; exact hml _ (old_lt hi e ht)
  · rw [hlen]
    refine ⟨fun i hi => ?_, fun i i' hii hi' => ?_, fun i hi => ?_, fun i hi i' hi' hne => ?_, fun i hi j hj => ?_, fun i hi j hj => ?_⟩
    · show (if i = t then q else P (old t i)) < c
      by_cases e : i = t
      · rw [if_pos e]; exact hq
      · rw [if_neg e]; exact h.red.pv _ (old_lt hi e ht)
    · show (if i = t then q else P (old t i)) < if i' = t then q else P (old t i')
      by_cases e : i = t
      · rw [if_pos e, if_neg (by omega)]
        exact htr _ (by unfold old; rw [if_neg (by omega)]; omega) (old_lt hi' (by omega) ht)
      · rw [if_neg e]
        by_cases e' : i' = t
        · rw [if_pos e']
          exact htl _ (by unfold old; rw [if_pos (by omega)]; omega)
        · rw [if_neg e']
          exact h.red.mono _ _ (by unfold old; split <;> split <;> omega) (old_lt hi' e' ht)
    · show at' (ins _ m' t s) i (if i = t then q else P (old t i)) = 1
      by_cases e : i = t
      · rw [if_pos e, e, at_ins_new s ht']; exact hsq
      · have ho := old_lt hi e ht
        rw [if_neg e, at_ins s ht' e, hkeep _ ho _ (h.red.pv _ ho) (hsP _ ho)]
        exact h.red.one _ ho
    · show at' (ins _ m' t s) i' (if i = t then q else P (old t i)) = 0
      by_cases e : i = t
      · have e' : i' ≠ t := by omega
        rw [if_pos e, at_ins s ht' e']
        exact hmq _ (old_lt hi' e' ht)
      · have ho := old_lt hi e ht
        rw [if_neg e]
        by_cases e' : i' = t
        · rw [e', at_ins_new s ht']; exact hsP _ ho
        · have ho' := old_lt hi' e' ht
          rw [at_ins s ht' e', hkeep _ ho' _ (h.red.pv _ ho) (hsP _ ho)]
          exact h.red.zer _ ho _ ho' (old_inj e e' hne)
    · have hj' : j < (if i = t then q else P (old t i)) := hj
      by_cases e : i = t
      · rw [if_pos e] at hj'; rw [e, at_ins_new s ht']; exact hs0 j hj'
      · rw [if_neg e] at hj'; rw [at_ins s ht' e]; exact fstm _ (old_lt hi e ht) j hj'
    · by_cases e : i = t
      · rw [e, at_ins_new s ht', hs j hj]; exact mod_bd hp _
      · rw [at_ins s ht' e, hmr _ (old_lt hi e ht) j hj]; exact mod_bd hp _
  · rw [nul_append, h.nul x, hlen]
    have vs : van p c (num s) x ↔ van p c (num r') x := van_scale (g := num r' q) hs (by rw [Int.mul_comm, inv_mul hp (by omega) hrq.2, Int.emod_eq_of_lt (by omega) (by omega)])
    have vm : van p c (num s) x → ∀ i, i < m.length → (van p c (at' m' i) x ↔ van p c (at' m i) x) := fun hv i hi => van_add (hmr i hi) hv
    constructor
    · rintro ⟨g1, g2⟩ i hi
      have hv : van p c (num s) x := vs.2 ((hr x g1).2 g2)
      by_cases e : i = t
      · rw [e, at_ins_new s ht']; exact hv
      · have ho := old_lt hi e ht
        rw [at_ins s ht' e]; exact (vm hv _ ho).2 (g1 _ ho)
    · intro g
      have hv : van p c (num s) x := by have := g t (by omega); rw [at_ins_new s ht'] at this; exact this
      have g1 : Go.Proofs.Ytkibkkdeaojjoab.nul p m.length c (at' m) x := fun i hi => by
        by_cases e : i < t
        · have := g i (by omega)
          rw [at_ins s ht' (by omega)] at this
          have e2 : old t i = i := by unfold old; rw [if_pos e]
          rw [e2] at this
          exact (vm hv i hi).1 this
        · have := g (i + 1) (by omega)
          rw [at_ins s ht' (by omega)] at this
          have e2 : old t (i + 1) = i := by unfold old; rw [if_neg (by omega)]; omega
          rw [e2] at this
          exact (vm hv i hi).1 this
      exact ⟨g1, (hr x g1).1 (vs.1 hv)⟩

/-- A row is reduced by the first k of reduced rows. -/
structure Redu (p : Int) (c : Nat) (m : List (List Int)) (P : Nat → Nat) (r r' : List Int) (k : Nat) : Prop where
  len : r'.length = c
  rng : ∀ j, j < c → 0 ≤ num r' j ∧ num r' j < p
  zer : ∀ i, i < k → num r' (P i) = 0
  van : ∀ x, Go.Proofs.Ytkibkkdeaojjoab.nul p m.length c (at' m) x → (Go.Proofs.Ytkibkkdeaojjoab.van p c (num r') x ↔ Go.Proofs.Ytkibkkdeaojjoab.van p c (num r) x)
theorem Redu.start {p : Int} {c : Nat} {m : List (List Int)} {P : Nat → Nat} {r : List Int} (hl : r.length = c) (hr : ∀ j, j < c → 0 ≤ num r j ∧ num r j < p) : Redu p c m P r r 0 :=
  ⟨hl, hr, fun i hi => by omega, fun x _ => Iff.rfl⟩
theorem Redu.next {p : Int} {c : Nat} {m : List (List Int)} {P : Nat → Nat} {r r' r'' : List Int} {k : Nat} (hp : prm p = true) (h : Redu p c m P r r' k) (hR : Rref p m.length c (at' m) P) (hk : k < m.length)
    (hl : r''.length = c) (hn : ∀ j, j < c → num r'' j = (num r' j + (p - num r' (P k)) % p * at' m k j) % p) : Redu p c m P r r'' (k + 1) := by
  have hpb := prm_bd hp
  refine ⟨hl, fun j hj => by rw [hn j hj]; exact mod_bd hp _, fun i hi => ?_, fun x hx => ?_⟩
  · have hik : i < m.length := by omega
    rw [hn _ (hR.pv i hik)]
    by_cases e : i = k
    · subst e
      rw [hR.one i hk, Int.mul_one]
      have r1 := h.rng _ (hR.pv i hk)
      by_cases e0 : num r' (P i) = 0
      · rw [e0]; simp
      · rw [Int.emod_eq_of_lt (a := p - num r' (P i)) (by omega) (by omega)]
        have : num r' (P i) + (p - num r' (P i)) = p := by omega
        rw [this]; simp
    · rw [hR.zer i hik k hk e, h.zer i (by omega)]; simp
  · exact (van_add hn (hx k hk)).trans (h.van x hx)

end Go.Proofs.Ytkibkkdeaojjoab

namespace Go.Proofs.Ytkibkkdeaojjoab
set_option linter.unusedVariables false

/-- A row reduced by the first k of reduced rows: with the sum that was added. -/
structure Red2 (p : Int) (c : Nat) (m : List (List Int)) (P : Nat → Nat) (r r' : List Int) (k : Nat) : Prop extends Redu p c m P r r' k where
  lin : ∃ K : Nat → Int, ∀ j, j < c → num r' j % p = (num r j + sm m.length (fun i => K i * at' m i j)) % p
theorem sm_upd (n k : Nat) (K : Nat → Int) (x : Int) (f : Nat → Int) (hk : k < n) : sm n (fun i => (if i = k then K i + x else K i) * f i) = sm n (fun i => K i * f i) + x * f k := by
  have e : sm n (fun i => (if i = k then K i + x else K i) * f i) = sm n (fun i => K i * f i + (if i = k then x * f k else 0)) := sm_congr (fun i _ => by
    by_cases e : i = k
    · subst e; rw [if_pos rfl, if_pos rfl, Int.add_mul]
    · rw [if_neg e, if_neg e, Int.add_zero])
  rw [e, sm_add, sm_single, if_pos hk]
theorem Red2.start {p : Int} {c : Nat} {m : List (List Int)} {P : Nat → Nat} {r : List Int} (hl : r.length = c) (hr : ∀ j, j < c → 0 ≤ num r j ∧ num r j < p) : Red2 p c m P r r 0 where
  toRedu := Redu.start hl hr
  lin := by
    refine ⟨fun _ => 0, fun j _ => ?_⟩
    have : sm m.length (fun i => (0 : Int) * at' m i j) = sm m.length (fun _ => 0) := sm_congr (fun i _ => Int.zero_mul _)
    rw [this, sm_zero, Int.add_zero]
theorem Red2.next {p : Int} {c : Nat} {m : List (List Int)} {P : Nat → Nat} {r r' r'' : List Int} {k : Nat} (hp : prm p = true) (h : Red2 p c m P r r' k) (hR : Rref p m.length c (at' m) P) (hk : k < m.length)
    (hl : r''.length = c) (hn : ∀ j, j < c → num r'' j = (num r' j + (p - num r' (P k)) % p * at' m k j) % p) : Red2 p c m P r r'' (k + 1) where
  toRedu := h.toRedu.next hp hR hk hl hn
  lin := by
    obtain ⟨K, hK⟩ := h.lin
    refine ⟨fun i => if i = k then K i + (p - num r' (P k)) % p else K i, fun j hj => ?_⟩
    rw [sm_upd _ _ _ _ _ hk, hn j hj, Int.emod_emod, Int.add_emod, hK j hj, ← Int.add_emod, Int.add_assoc]

/-- What a row that is taken and left does to the rows that are kept. -/
structure Took (p : Int) (c : Nat) (m : List (List Int)) (P : Nat → Nat) (r r' s : List Int) (m' : List (List Int)) (q t : Nat) : Prop where
  rl : r.length = c
  red : Red2 p c m P r r' m.length
  qc : q < c
  q0 : num r' q ≠ 0
  ql : ∀ j, j < q → num r' j = 0
  ss : ∀ j, j < c → num s j = num r' j * inv p (num r' q) % p
  sl : s.length = c
  ml : m'.length = m.length
  mc : ∀ i, i < m.length → (rw' m' i).length = c
  mr : ∀ i, i < m.length → ∀ j, j < c → at' m' i j = (at' m i j + (p - at' m i q) % p * num s j) % p
  tn : t ≤ m.length
  tl : ∀ i, i < t → P i < q
  tr : ∀ i, t ≤ i → i < m.length → q < P i
/-- The sign of an insertion at t of n. -/
def esgn (p : Int) (n t : Nat) (x : Int) : Int := if (n - t) % 2 = 0 then x else -x % p
inductive Elm (p : Int) (c : Nat) : List (List Int) → List (List Int) → (Nat → Nat) → Int → Prop
  | start (P : Nat → Nat) : Elm p c [] [] P 1
  | same {A m : List (List Int)} {P : Nat → Nat} {d : Int} {r r' : List Int} : Elm p c A m P d → r.length = c → Red2 p c m P r r' m.length → (∀ j, j < c → num r' j = 0) → Elm p c (A ++ [r]) m P d
  | more {A m m' : List (List Int)} {P : Nat → Nat} {d : Int} {r r' s : List Int} {q t : Nat} : Elm p c A m P d → Took p c m P r r' s m' q t →
      Elm p c (A ++ [r]) (ins _ m' t s) (fun i => if i = t then q else P (old t i)) (d * esgn p m.length t (num r' q) % p)

theorem Elm.kept {p : Int} {c : Nat} {A m : List (List Int)} {P : Nat → Nat} {d : Int} (hp : prm p = true) (h : Elm p c A m P d) : Kept p c A m P := by
  induction h with
  | start P => exact Kept.start p c P
  | same _ _ hr h0 ih => exact ih.same hr.van h0
  | more _ k ih => exact ih.more hp k.red.van k.red.zer k.red.rng k.qc k.q0 k.ql k.ss k.sl k.ml k.mc k.mr k.tn k.tl k.tr
theorem Elm.det {p : Int} {c : Nat} {A m : List (List Int)} {P : Nat → Nat} {d : Int} (hp : prm p = true) (h : Elm p c A m P d) : 0 ≤ d ∧ d < p := by
  have := prm_bd hp
  induction h with
  | start P => omega
  | same _ _ _ _ ih => exact ih
  | more _ _ _ => exact mod_bd hp _

end Go.Proofs.Ytkibkkdeaojjoab
