/-
  Elimination row by row as a relation: what steps have led from the rows taken to the reduced rows, their pivots and the determinant. No Go in sight.
  No conditions.
  Determinants: by the first column; what changes of rows do to them. No Go in sight.
  No conditions.
-/
import Derived.Test.YtkibkkdeaojjoabGreatQg13
import Derived.Test.YtkibkkdeaojjoabGreatQg6
namespace Go.Proofs.YtkibkkdeaojjoabGreat
set_option linter.unusedVariables false

/-- A row reduced by the first k of reduced rows: with the sum that was added. -/
structure Red2 (p : Int) (c : Nat) (m : List (List Int)) (P : Nat → Nat) (r r' : List Int) (k : Nat) : Prop extends Redu p c m P r r' k where
  lin : ∃ K : Nat → Int, ∀ j, j < c → num r' j % p = (num r j + sm m.length (fun i => K i * at' m i j)) % p
theorem sm_upd (n k : Nat) (K : Nat → Int) (x : Int) (f : Nat → Int) (hk : k < n) : sm n (fun i => (if i = k then K i + x else K i) * f i) = sm n (fun i => K i * f i) + x * f k := by
  have e : sm n (fun i => (if i = k then K i + x else K i) * f i) = sm n (fun i => K i * f i + (if i = k then x * f k else 0)) := sm_congr (fun i _ => by
    by_cases e : i = k
    · subst e; rw [if_pos rfl, if_pos rfl, Int.add_mul]
    · rw [if_neg e, if_neg e, Int.add_zero])
  rw [e, sm_add, sm_single, if_pos hk]
theorem Red2.start {p : Int} {c : Nat} {m : List (List Int)} {P : Nat → Nat} {r : List Int} (hl : r.length = c) (hr : ∀ j, j < c → 0 ≤ num r j ∧ num r j < p) : Red2 p c m P r r 0 where
  toRedu := Redu.start hl hr
  lin := by
    refine ⟨fun _ => 0, fun j _ => ?_⟩
    have : sm m.length (fun i => (0 : Int) * at' m i j) = sm m.length (fun _ => 0) := sm_congr (fun i _ => Int.zero_mul _)
    rw [this, sm_zero, Int.add_zero]
theorem Red2.next {p : Int} {c : Nat} {m : List (List Int)} {P : Nat → Nat} {r r' r'' : List Int} {k : Nat} (hp : prm p = true) (h : Red2 p c m P r r' k) (hR : Rref p m.length c (at' m) P) (hk : k < m.length)
    (hl : r''.length = c) (hn : ∀ j, j < c → num r'' j = (num r' j + (p - num r' (P k)) % p * at' m k j) % p) : Red2 p c m P r r'' (k + 1) where
  toRedu := h.toRedu.next hp hR hk hl hn
  lin := by
    obtain ⟨K, hK⟩ := h.lin
    refine ⟨fun i => if i = k then K i + (p - num r' (P k)) % p else K i, fun j hj => ?_⟩
    rw [sm_upd _ _ _ _ _ hk, hn j hj, Int.emod_emod, Int.add_emod, hK j hj, ← Int.add_emod, Int.add_assoc]

/-- What a row that is taken and left does to the rows that are kept. -/
structure Took (p : Int) (c : Nat) (m : List (List Int)) (P : Nat → Nat) (r r' s : List Int) (m' : List (List Int)) (q t : Nat) : Prop where
  rl : r.length = c
  red : Red2 p c m P r r' m.length
  qc : q < c
  q0 : num r' q ≠ 0
  ql : ∀ j, j < q → num r' j = 0
  ss : ∀ j, j < c → num s j = num r' j * inv p (num r' q) % p
  sl : s.length = c
  ml : m'.length = m.length
  mc : ∀ i, i < m.length → (rw' m' i).length = c
  mr : ∀ i, i < m.length → ∀ j, j < c → at' m' i j = (at' m i j + (p - at' m i q) % p * num s j) % p
  tn : t ≤ m.length
  tl : ∀ i, i < t → P i < q
  tr : ∀ i, t ≤ i → i < m.length → q < P i
/-- The sign of an insertion at t of n. -/
def esgn (p : Int) (n t : Nat) (x : Int) : Int := if (n - t) % 2 = 0 then x else -x % p
inductive Elm (p : Int) (c : Nat) : List (List Int) → List (List Int) → (Nat → Nat) → Int → Prop
  | start (P : Nat → Nat) : Elm p c [] [] P 1
  | same {A m : List (List Int)} {P : Nat → Nat} {d : Int} {r r' : List Int} : Elm p c A m P d → r.length = c → Red2 p c m P r r' m.length → (∀ j, j < c → num r' j = 0) → Elm p c (A ++ [r]) m P d
  | more {A m m' : List (List Int)} {P : Nat → Nat} {d : Int} {r r' s : List Int} {q t : Nat} : Elm p c A m P d → Took p c m P r r' s m' q t →
      Elm p c (A ++ [r]) (ins _ m' t s) (fun i => if i = t then q else P (old t i)) (d * esgn p m.length t (num r' q) % p)

theorem Elm.kept {p : Int} {c : Nat} {A m : List (List Int)} {P : Nat → Nat} {d : Int} (hp : prm p = true) (h : Elm p c A m P d) : Kept p c A m P := by
  induction h with
  | start P => exact Kept.start p c P
  | same _ _ hr h0 ih => exact ih.same hr.van h0
  | more _ k ih => exact ih.more hp k.red.van k.red.zer k.red.rng k.qc k.q0 k.ql k.ss k.sl k.ml k.mc k.mr k.tn k.tl k.tr
theorem Elm.det {p : Int} {c : Nat} {A m : List (List Int)} {P : Nat → Nat} {d : Int} (hp : prm p = true) (h : Elm p c A m P d) : 0 ≤ d ∧ d < p := by
  have := prm_bd hp
  induction h with
  | start P => omega
  | same _ _ _ _ ih => exact ih
  | more _ _ _ => exact mod_bd hp _

end Go.Proofs.YtkibkkdeaojjoabGreat

namespace Go.Proofs.YtkibkkdeaojjoabGreat
set_option linter.unusedVariables false

def skp (i r : Nat) : Nat := if r < i then r else r + 1
def usk (i k : Nat) : Nat := if k < i then k else k - 1
def dsg (i : Nat) : Int := if i % 2 = 0 then 1 else -1
def dt : Nat → (Nat → Nat → Int) → Int
  | 0, _ => 1
  | n + 1, f => sm (n + 1) fun i => dsg i * f i 0 * dt n (fun r c => f (skp i r) (c + 1))
theorem skp_lt {i r n : Nat} (h : r < n) : skp i r < n + 1 := by unfold skp; split <;> omega
theorem skp_ne (i r : Nat) : skp i r ≠ i := by unfold skp; split <;> omega
theorem skp_eq {i r k : Nat} (h : i ≠ k) : skp i r = k ↔ r = usk i k := by unfold skp usk; split <;> split <;> omega
theorem usk_lt {i k n : Nat} (h : i ≠ k) (hi : i < n + 1) (hk : k < n + 1) : usk i k < n := by unfold usk; split <;> omega

theorem dt_congr {n : Nat} {f g : Nat → Nat → Int} (h : ∀ i, i < n → ∀ j, j < n → f i j = g i j) : dt n f = dt n g := by
  induction n generalizing f g with
  | zero => rfl
  | succ n ih =>
    simp only [dt]
    apply sm_congr
    intro i hi
    rw [h i hi 0 (by omega), ih (fun r hr c hc => h _ (skp_lt hr) _ (by omega))]
theorem mul_emod_congr {p a a' b b' : Int} (h : a % p = a' % p) (k : b % p = b' % p) : a * b % p = a' * b' % p := by rw [Int.mul_emod, h, k, ← Int.mul_emod]
theorem dt_mod {p : Int} {n : Nat} {f g : Nat → Nat → Int} (h : ∀ i, i < n → ∀ j, j < n → f i j % p = g i j % p) : dt n f % p = dt n g % p := by
  induction n generalizing f g with
  | zero => rfl
  | succ n ih =>
    simp only [dt]
    apply sm_emod_congr
    intro i hi
    exact mul_emod_congr (mul_emod_congr rfl (h i hi 0 (by omega))) (ih (fun r hr c hc => h _ (skp_lt hr) _ (by omega)))

def upd (f : Nat → Nat → Int) (k : Nat) (u : Nat → Int) : Nat → Nat → Int := fun i => if i = k then u else f i
theorem upd_same (f : Nat → Nat → Int) (k : Nat) (u : Nat → Int) : upd f k u k = u := if_pos rfl
theorem upd_ne {f : Nat → Nat → Int} {k i : Nat} (u : Nat → Int) (h : i ≠ k) : upd f k u i = f i := if_neg h
theorem upd_self (f : Nat → Nat → Int) (k : Nat) : upd f k (f k) = f := by
  funext i; unfold upd; split
  · next h => rw [h]
  · rfl
theorem upd_comm (f : Nat → Nat → Int) {k l : Nat} (h : k ≠ l) (u v : Nat → Int) : upd (upd f k u) l v = upd (upd f l v) k u := by
  funext i; unfold upd
  by_cases e : i = l
  · subst e; rw [if_pos rfl, if_neg (fun q => h q.symm), if_pos rfl]
  · rw [if_neg e, if_neg e]
theorem minor_eq (f : Nat → Nat → Int) (k : Nat) (w : Nat → Int) : (fun r c => upd f k w (skp k r) (c + 1)) = fun r c => f (skp k r) (c + 1) := by
  funext r c; unfold upd; rw [if_neg (skp_ne k r)]
theorem minor_ne (f : Nat → Nat → Int) {i k : Nat} (w : Nat → Int) (h : i ≠ k) : (fun r c => upd f k w (skp i r) (c + 1)) = upd (fun r c => f (skp i r) (c + 1)) (usk i k) (fun c => w (c + 1)) := by
  funext r c; unfold upd
  by_cases e : skp i r = k
  · rw [if_pos e, if_pos ((skp_eq h).1 e)]
  · rw [if_neg e, if_neg (fun q => e ((skp_eq h).2 q))]

theorem dt_lin {n k : Nat} (hk : k < n) (f : Nat → Nat → Int) (u v : Nat → Int) (x : Int) : dt n (upd f k (fun j => u j + x * v j)) = dt n (upd f k u) + x * dt n (upd f k v) := by
  induction n generalizing f u v k with
  | zero => omega
  | succ n ih =>
    simp only [dt]
    rw [← sm_mul, ← sm_add]
    apply sm_congr
    intro i hi
    by_cases e : i = k
    · subst e
      rw [minor_eq, minor_eq, minor_eq, upd_same, upd_same, upd_same, Int.mul_add, Int.add_mul, Int.mul_left_comm (dsg i) x, Int.mul_assoc x]
    · rw [minor_ne f _ e, minor_ne f _ e, minor_ne f _ e, upd_ne _ e, upd_ne _ e, upd_ne _ e]
      have h := ih (usk_lt e hi hk) (fun r c => f (skp i r) (c + 1)) (fun c => u (c + 1)) (fun c => v (c + 1))
      rw [h, Int.mul_add, Int.mul_left_comm _ x]
theorem dt_zero {n k : Nat} (hk : k < n) {f : Nat → Nat → Int} (h : ∀ j, j < n → f k j = 0) : dt n f = 0 := by
  have e : dt n f = dt n (upd f k (fun _ => 0)) := dt_congr (fun i _ j hj => by
    unfold upd; split
    · next q => rw [q]; exact h j hj
    · rfl)
  have l := dt_lin hk f (fun _ => 0) (fun _ => 0) 1
  simp only [Int.mul_zero, Int.add_zero, Int.one_mul] at l
  omega
theorem dt_scale {n k : Nat} (hk : k < n) (f : Nat → Nat → Int) (v : Nat → Int) (x : Int) : dt n (upd f k (fun j => x * v j)) = x * dt n (upd f k v) := by
  have l := dt_lin hk f (fun _ => 0) v x
  have z : dt n (upd f k (fun _ => 0)) = 0 := dt_zero hk (fun j _ => by rw [upd_same])
  rw [z] at l
  simpa using l
theorem sg_succ (k : Nat) : dsg (k + 1) = - dsg k := by unfold dsg; split <;> split <;> omega

theorem dt_adj {n k : Nat} (hk : k + 1 < n) {f : Nat → Nat → Int} (h : ∀ j, j < n → f k j = f (k + 1) j) : dt n f = 0 := by
  induction n generalizing f k with
  | zero => omega
  | succ n ih =>
    simp only [dt]
    have hm : dt n (fun r c => f (skp (k + 1) r) (c + 1)) = dt n (fun r c => f (skp k r) (c + 1)) := dt_congr (fun r hr c hc => by
      show f (skp (k + 1) r) (c + 1) = f (skp k r) (c + 1)
      rcases Nat.lt_trichotomy r k with l | l | l
      · have e1 : skp (k + 1) r = r := if_pos (by omega)
        have e2 : skp k r = r := if_pos l
        rw [e1, e2]
      · subst l
        have e1 : skp (r + 1) r = r := if_pos (by omega)
        have e2 : skp r r = r + 1 := if_neg (by omega)
        rw [e1, e2]; exact h _ (by omega)
      · have e1 : skp (k + 1) r = r + 1 := if_neg (by omega)
        have e2 : skp k r = r + 1 := if_neg (by omega)
        rw [e1, e2])
    have key : ∀ i, i < n + 1 → dsg i * f i 0 * dt n (fun r c => f (skp i r) (c + 1)) = (if i = k then dsg k * f k 0 * dt n (fun r c => f (skp k r) (c + 1)) else 0) + (if i = k + 1 then -(dsg k * f k 0 * dt n (fun r c => f (skp k r) (c + 1))) else 0) := by
      intro i hi
      by_cases e : i = k
      · subst e; rw [if_pos rfl, if_neg (by omega), Int.add_zero]
      · by_cases e' : i = k + 1
        · subst e'; rw [if_neg e, if_pos rfl, hm, sg_succ, ← h 0 (by omega), Int.zero_add, Int.neg_mul, Int.neg_mul]
        · rw [if_neg e, if_neg e']
          have z : dt n (fun r c => f (skp i r) (c + 1)) = 0 := by
            by_cases l : i < k
            · refine ih (k := k - 1) (by omega) (fun j hj => ?_)
              have e1 : skp i (k - 1) = k := by unfold skp; rw [if_neg (by omega)]; omega
              have e2 : skp i (k - 1 + 1) = k + 1 := by unfold skp; rw [if_neg (by omega)]; omega
              show f (skp i (k - 1)) (j + 1) = f (skp i (k - 1 + 1)) (j + 1)
              rw [e1, e2]; exact h _ (by omega)
            · refine ih (k := k) (by omega) (fun j hj => ?_)
              have e1 : skp i k = k := if_pos (by omega)
              have e2 : skp i (k + 1) = k + 1 := if_pos (by omega)
              show f (skp i k) (j + 1) = f (skp i (k + 1)) (j + 1)
              rw [e1, e2]; exact h _ (by omega)
          rw [z, Int.mul_zero]; rfl
    rw [sm_congr key, sm_add, sm_single, sm_single, if_pos (by omega), if_pos (by omega)]
    omega
/-- Two rows are exchanged, where equal rows make 0. -/
theorem dt_bil {n k l : Nat} (hk : k < n) (hl : l < n) (hne : k ≠ l) (f : Nat → Nat → Int) (hz : ∀ x, dt n (upd (upd f k x) l x) = 0) (u v : Nat → Int) : dt n (upd (upd f k u) l v) = - dt n (upd (upd f k v) l u) := by
  have h0 := hz (fun j => u j + 1 * v j)
  have h1 := hz u
  have h2 := hz v
  rw [dt_lin hl, upd_comm f hne, upd_comm f hne, dt_lin hk, dt_lin hk, ← upd_comm f hne, ← upd_comm f hne, ← upd_comm f hne, ← upd_comm f hne] at h0
  omega
theorem dt_eqrows {n i j : Nat} (hij : i < j) (hj : j < n) {f : Nat → Nat → Int} (h : ∀ c, c < n → f i c = f j c) : dt n f = 0 := by
  obtain ⟨d, hd⟩ : ∃ d, j = i + 1 + d := ⟨j - i - 1, by omega⟩
  induction d generalizing j f with
  | zero => subst hd; exact dt_adj hj h
  | succ d ih =>
    have hj1 : j - 1 + 1 = j := by omega
    have e0 : upd (upd f (j - 1) (f (j - 1))) j (f j) = f := by rw [upd_self, upd_self]
    have hb := dt_bil (n := n) (k := j - 1) (l := j) (by omega) hj (by omega) f (fun x => dt_adj (k := j - 1) (by omega) (fun c _ => by
      rw [hj1, upd_same, upd_ne _ (by omega), upd_same])) (f (j - 1)) (f j)
    rw [e0] at hb
    have hz : dt n (upd (upd f (j - 1) (f j)) j (f (j - 1))) = 0 := ih (j := j - 1) (by omega) (by omega) (fun c hc => by
      rw [upd_ne _ (by omega), upd_ne _ (by omega), upd_ne _ (by omega), upd_same]; exact h c hc) (by omega)
    omega
theorem dt_swap {n k l : Nat} (hkl : k < l) (hl : l < n) (f : Nat → Nat → Int) : dt n (upd (upd f k (f l)) l (f k)) = - dt n f := by
  have hb := dt_bil (n := n) (k := k) (l := l) (by omega) hl (by omega) f (fun x => dt_eqrows hkl hl (fun c _ => by
      rw [upd_same, upd_ne _ (by omega), upd_same])) (f l) (f k)
  rw [upd_self, upd_self] at hb
  exact hb
theorem dt_two {n k l : Nat} (hk : k < n) (hl : l < n) (hne : k ≠ l) (f : Nat → Nat → Int) : dt n (upd f k (f l)) = 0 := by
  rcases Nat.lt_or_ge k l with h | h
  · exact dt_eqrows h hl (fun c _ => by rw [upd_same, upd_ne _ (by omega)])
  · exact dt_eqrows (by omega : l < k) hk (fun c _ => by rw [upd_same, upd_ne _ (by omega)])
theorem dt_addrow {n k l : Nat} (hk : k < n) (hl : l < n) (hne : k ≠ l) (f : Nat → Nat → Int) (x : Int) : dt n (upd f k (fun j => f k j + x * f l j)) = dt n f := by
  rw [dt_lin hk, upd_self, dt_two hk hl hne, Int.mul_zero, Int.add_zero]
theorem dt_addsum {n k r : Nat} (hk : k < n) (hr : r ≤ k) (f : Nat → Nat → Int) (K : Nat → Int) : dt n (upd f k (fun j => f k j + sm r (fun i => K i * f i j))) = dt n f := by
  induction r with
  | zero => 
    have e : (fun j => f k j + sm 0 (fun i => K i * f i j)) = f k := by funext j; simp [sm]
    rw [e, upd_self]
  | succ r ih =>
    have e : (fun j => f k j + sm (r + 1) (fun i => K i * f i j)) = fun j => (f k j + sm r (fun i => K i * f i j)) + K r * f r j := by
      funext j; simp only [sm]; omega
    rw [e, dt_lin hk, ih (by omega), dt_two hk (by omega) (by omega), Int.mul_zero, Int.add_zero]
theorem dt_addcol {n k r : Nat} (hk : k < n) (hr : r ≤ k) (f : Nat → Nat → Int) (x : Nat → Int) : dt n (fun i => if i < r then fun j => f i j + x i * f k j else f i) = dt n f := by
  induction r with
  | zero => exact dt_congr (fun i _ j _ => by rw [if_neg (by omega)])
  | succ r ih =>
    rw [← ih (by omega)]
    have h := dt_addrow (k := r) (l := k) (by omega) hk (by omega) (fun i => if i < r then fun j => f i j + x i * f k j else f i) (x r)
    rw [← h]
    apply dt_congr
    intro i _ j _
    unfold upd
    by_cases e : i = r
    · subst e; rw [if_pos (by omega), if_pos rfl, if_neg (by omega), if_neg (by omega)]
    · rw [if_neg e]
      by_cases l : i < r
      · rw [if_pos (by omega)]
        show f i j + x i * f k j = (if i < r then fun j => f i j + x i * f k j else f i) j
        rw [if_pos l]
      · rw [if_neg (by omega)]
        show f i j = (if i < r then fun j => f i j + x i * f k j else f i) j
        rw [if_neg l]
theorem dt_col {n : Nat} {f : Nat → Nat → Int} (h : ∀ i, 1 ≤ i → i < n + 1 → f i 0 = 0) : dt (n + 1) f = f 0 0 * dt n (fun r c => f (r + 1) (c + 1)) := by
  simp only [dt]
  have e : ∀ i, i < n + 1 → dsg i * f i 0 * dt n (fun r c => f (skp i r) (c + 1)) = if i = 0 then f 0 0 * dt n (fun r c => f (r + 1) (c + 1)) else 0 := by
    intro i hi
    by_cases e : i = 0
    · subst e
      rw [if_pos rfl]
      have e1 : dsg 0 = 1 := rfl
      rw [e1, Int.one_mul]
      rfl
    · rw [if_neg e, h i (by omega) hi]; simp
  rw [sm_congr e, sm_single, if_pos (by omega)]
theorem dt_col0 {n : Nat} {f : Nat → Nat → Int} (h : ∀ i, i < n + 1 → f i 0 = 0) : dt (n + 1) f = 0 := by
  rw [dt_col (fun i _ hi => h i hi), h 0 (by omega), Int.zero_mul]
theorem dt_one {n : Nat} {f : Nat → Nat → Int} (h : ∀ i, i < n → ∀ j, j < n → f i j = if i = j then 1 else 0) : dt n f = 1 := by
  induction n generalizing f with
  | zero => rfl
  | succ n ih =>
    rw [dt_col (fun i h1 hi => by rw [h i hi 0 (by omega), if_neg (by omega)]), h 0 (by omega) 0 (by omega), if_pos rfl, Int.one_mul]
    refine ih (fun i hi j hj => ?_)
    rw [h _ (by omega) _ (by omega)]
    by_cases e : i = j
    · subst e; rw [if_pos rfl, if_pos rfl]
    · rw [if_neg e, if_neg (by omega)]

end Go.Proofs.YtkibkkdeaojjoabGreat
