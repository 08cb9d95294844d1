/-
  Determinants: by the first column; what changes of rows do to them. No Go in sight.
  No conditions.
  Determinants by the last row; the set bits of a mask. No Go in sight.
  No conditions.
  Elimination row by row: what taking one row more does to reduced rows. No Go in sight.
  No conditions.
-/
import Derived.Test.YtbnegbpapjcmhaaQa617
import Derived.Test.YtbnegbpapjcmhaaQa65
namespace Go.Proofs.Ytbnegbpapjcmhaa
set_option linter.unusedVariables false

def skp (i r : Nat) : Nat := if r < i then r else r + 1
def usk (i k : Nat) : Nat := if k < i then k else k - 1
def dsg (i : Nat) : Int := if i % 2 = 0 then 1 else -1
def dt : Nat → (Nat → Nat → Int) → Int
  | 0, _ => 1
  | n + 1, f => sm (n + 1) fun i => dsg i * f i 0 * dt n (fun r c => f (skp i r) (c + 1))
theorem skp_lt {i r n : Nat} (h : r < n) : skp i r < n + 1 := by unfold skp; split <;> omega
theorem skp_ne (i r : Nat) : skp i r ≠ i := by unfold skp; split <;> omega
theorem skp_eq {i r k : Nat} (h : i ≠ k) : skp i r = k ↔ r = usk i k := by unfold skp usk; split <;> split <;> omega
theorem usk_lt {i k n : Nat} (h : i ≠ k) (hi : i < n + 1) (hk : k < n + 1) : usk i k < n := by unfold usk; split <;> omega

theorem dt_congr {n : Nat} {f g : Nat → Nat → Int} (h : ∀ i, i < n → ∀ j, j < n → f i j = g i j) : dt n f = dt n g := by
  induction n generalizing f g with
  | zero => rfl
  | succ n ih =>
    simp only [dt]
    apply sm_congr
    intro i hi
    rw [h i hi 0 (by omega), ih (fun r hr c hc => h _ (skp_lt hr) _ (by omega))]
theorem mul_emod_congr {p a a' b b' : Int} (h : a % p = a' % p) (k : b % p = b' % p) : a * b % p = a' * b' % p := by rw [Int.mul_emod, h, k, ← Int.mul_emod]
theorem dt_mod {p : Int} {n : Nat} {f g : Nat → Nat → Int} (h : ∀ i, i < n → ∀ j, j < n → f i j % p = g i j % p) : dt n f % p = dt n g % p := by
  induction n generalizing f g with
  | zero => rfl
  | succ n ih =>
    simp only [dt]
    apply sm_emod_congr
    intro i hi
    exact mul_emod_congr (mul_emod_congr rfl (h i hi 0 (by omega))) (ih (fun r hr c hc => h _ (skp_lt hr) _ (by omega)))

def upd (f : Nat → Nat → Int) (k : Nat) (u : Nat → Int) : Nat → Nat → Int := fun i => if i = k then u else f i
theorem upd_same (f : Nat → Nat → Int) (k : Nat) (u : Nat → Int) : upd f k u k = u := if_pos rfl
theorem upd_ne {f : Nat → Nat → Int} {k i : Nat} (u : Nat → Int) (h : i ≠ k) : upd f k u i = f i := if_neg h
theorem upd_self (f : Nat → Nat → Int) (k : Nat) : upd f k (f k) = f := by
  funext i; unfold upd; split
  · next h => rw [h]
  · rfl
theorem upd_comm (f : Nat → Nat → Int) {k l : Nat} (h : k ≠ l) (u v : Nat → Int) : upd (upd f k u) l v = upd (upd f l v) k u := by
  funext i; unfold upd
  by_cases e : i = l
  · subst e; rw [if_pos rfl, if_neg (fun q => h q.symm), if_pos rfl]
  · rw [if_neg e, if_neg e]
theorem minor_eq (f : Nat → Nat → Int) (k : Nat) (w : Nat → Int) : (fun r c => upd f k w (skp k r) (c + 1)) = fun r c => f (skp k r) (c + 1) := by
  funext r c; unfold upd; rw [if_neg (skp_ne k r)]
theorem minor_ne (f : Nat → Nat → Int) {i k : Nat} (w : Nat → Int) (h : i ≠ k) : (fun r c => upd f k w (skp i r) (c + 1)) = upd (fun r c => f (skp i r) (c + 1)) (usk i k) (fun c => w (c + 1)) := by
  funext r c; unfold upd
  by_cases e : skp i r = k
  · rw [if_pos e, if_pos ((skp_eq h).1 e)]
  · rw [if_neg e, if_neg (fun q => e ((skp_eq h).2 q))]

theorem dt_lin {n k : Nat} (hk : k < n) (f : Nat → Nat → Int) (u v : Nat → Int) (x : Int) : dt n (upd f k (fun j => u j + x * v j)) = dt n (upd f k u) + x * dt n (upd f k v) := by
  induction n generalizing f u v k with
  | zero => omega
  | succ n ih =>
    simp only [dt]
    rw [← sm_mul, ← sm_add]
    apply sm_congr
    intro i hi
    by_cases e : i = k
    · subst e
      rw [minor_eq, minor_eq, minor_eq, upd_same, upd_same, upd_same, Int.mul_add, Int.add_mul, Int.mul_left_comm (dsg i) x, Int.mul_assoc x]
    · rw [minor_ne f _ e, minor_ne f _ e, minor_ne f _ e, upd_ne _ e, upd_ne _ e, upd_ne _ e]
      have h := ih (usk_lt e hi hk) (fun r c => f (skp i r) (c + 1)) (fun c => u (c + 1)) (fun c => v (c + 1))
      rw [h, Int.mul_add, Int.mul_left_comm _ x]
theorem dt_zero {n k : Nat} (hk : k < n) {f : Nat → Nat → Int} (h : ∀ j, j < n → f k j = 0) : dt n f = 0 := by
  have e : dt n f = dt n (upd f k (fun _ => 0)) := dt_congr (fun i _ j hj => by
    unfold upd; split
    · next q => rw [q]; exact h j hj
    · rfl)
  have l := dt_lin hk f (fun _ => 0) (fun _ => 0) 1
  simp only [Int.mul_zero, Int.add_zero, Int.one_mul] at l
  omega
theorem dt_scale {n k : Nat} (hk : k < n) (f : Nat → Nat → Int) (v : Nat → Int) (x : Int) : dt n (upd f k (fun j => x * v j)) = x * dt n (upd f k v) := by
  have l := dt_lin hk f (fun _ => 0) v x
  have z : dt n (upd f k (fun _ => 0)) = 0 := dt_zero hk (fun j _ => by rw [upd_same])
  rw [z] at l
  simpa using l
theorem sg_succ (k : Nat) : dsg (k + 1) = - dsg k := by unfold dsg; split <;> split <;> omega

theorem dt_adj {n k : Nat} (hk : k + 1 < n) {f : Nat → Nat → Int} (h : ∀ j, j < n → f k j = f (k + 1) j) : dt n f = 0 := by
  induction n generalizing f k with
  | zero => omega
  | succ n ih =>
    simp only [dt]
    have hm : dt n (fun r c => f (skp (k + 1) r) (c + 1)) = dt n (fun r c => f (skp k r) (c + 1)) := dt_congr (fun r hr c hc => by
      show f (skp (k + 1) r) (c + 1) = f (skp k r) (c + 1)
      rcases Nat.lt_trichotomy r k with l | l | l
      · have e1 : skp (k + 1) r = r := if_pos (by omega)
        have e2 : skp k r = r := if_pos l
        rw [e1, e2]
      · subst l
        have e1 : skp (r + 1) r = r := if_pos (by omega)
        have e2 : skp r r = r + 1 := if_neg (by omega)
        rw [e1, e2]; exact h _ (by omega)
      · have e1 : skp (k + 1) r = r + 1 := if_neg (by omega)
        have e2 : skp k r = r + 1 := if_neg (by omega)
        rw [e1, e2])
    have key : ∀ i, i < n + 1 → dsg i * f i 0 * dt n (fun r c => f (skp i r) (c + 1)) = (if i = k then dsg k * f k 0 * dt n (fun r c => f (skp k r) (c + 1)) else 0) + (if i = k + 1 then -(dsg k * f k 0 * dt n (fun r c => f (skp k r) (c + 1))) else 0) := by
      intro i hi
      by_cases e : i = k
      · subst e; rw [if_pos rfl, if_neg (by omega), Int.add_zero]
      · by_cases e' : i = k + 1
        · subst e'; rw [if_neg e, if_pos rfl, hm, sg_succ, ← h 0 (by omega), Int.zero_add, Int.neg_mul, Int.neg_mul]
        · rw [if_neg e, if_neg e']
          have z : dt n (fun r c => f (skp i r) (c + 1)) = 0 := by
            by_cases l : i < k
            · refine ih (k := k - 1) (by omega) (fun j hj => ?_)
              have e1 : skp i (k - 1) = k := by unfold skp; rw [if_neg (by omega)]; omega
              have e2 : skp i (k - 1 + 1) = k + 1 := by unfold skp; rw [if_neg (by omega)]; omega
              show f (skp i (k - 1)) (j + 1) = f (skp i (k - 1 + 1)) (j + 1)
              rw [e1, e2]; exact h _ (by omega)
            · refine ih (k := k) (by omega) (fun j hj => ?_)
              have e1 : skp i k = k := if_pos (by omega)
              have e2 : skp i (k + 1) = k + 1 := if_pos (by omega)
              show f (skp i k) (j + 1) = f (skp i (k + 1)) (j + 1)
              rw [e1, e2]; exact h _ (by omega)
          rw [z, Int.mul_zero]; rfl
    rw [sm_congr key, sm_add, sm_single, sm_single, if_pos (by omega), if_pos (by omega)]
    omega
/-- Two rows are exchanged, where equal rows make 0. -/
theorem dt_bil {n k l : Nat} (hk : k < n) (hl : l < n) (hne : k ≠ l) (f : Nat → Nat → Int) (hz : ∀ x, dt n (upd (upd f k x) l x) = 0) (u v : Nat → Int) : dt n (upd (upd f k u) l v) = - dt n (upd (upd f k v) l u) := by
  have h0 := hz (fun j => u j + 1 * v j)
  have h1 := hz u
  have h2 := hz v
  rw [dt_lin hl, upd_comm f hne, upd_comm f hne, dt_lin hk, dt_lin hk, ← upd_comm f hne, ← upd_comm f hne, ← upd_comm f hne, ← upd_comm f hne] at h0
  omega
theorem dt_eqrows {n i j : Nat} (hij : i < j) (hj : j < n) {f : Nat → Nat → Int} (h : ∀ c, c < n → f i c = f j c) : dt n f = 0 := by
  obtain ⟨d, hd⟩ : ∃ d, j = i + 1 + d := ⟨j - i - 1, by omega⟩
  induction d generalizing j f with
  | zero => subst hd; exact dt_adj hj h
  | succ d ih =>
    have hj1 : j - 1 + 1 = j := by omega
    have e0 : upd (upd f (j - 1) (f (j - 1))) j (f j) = f := by rw [upd_self, upd_self]
    have hb := dt_bil (n := n) (k := j - 1) (l := j) (by omega) hj (by omega) f (fun x => dt_adj (k := j - 1) (by omega) (fun c _ => by
      rw [hj1, upd_same, upd_ne _ (by omega), upd_same])) (f (j - 1)) (f j)
    rw [e0] at hb
    have hz : dt n (upd (upd f (j - 1) (f j)) j (f (j - 1))) = 0 := ih (j := j - 1) (by omega) (by omega) (fun c hc => by
      rw [upd_ne _ (by omega), upd_ne _ (by omega), upd_ne _ (by omega), upd_same]; exact h c hc) (by omega)
    omega
theorem dt_swap {n k l : Nat} (hkl : k < l) (hl : l < n) (f : Nat → Nat → Int) : dt n (upd (upd f k (f l)) l (f k)) = - dt n f := by
  have hb := dt_bil (n := n) (k := k) (l := l) (by omega) hl (by omega) f (fun x => dt_eqrows hkl hl (fun c _ => by
      rw [upd_same, upd_ne _ (by omega), upd_same])) (f l) (f k)
  rw [upd_self, upd_self] at hb
  exact hb
theorem dt_two {n k l : Nat} (hk : k < n) (hl : l < n) (hne : k ≠ l) (f : Nat → Nat → Int) : dt n (upd f k (f l)) = 0 := by
  rcases Nat.lt_or_ge k l with h | h
  · exact dt_eqrows h hl (fun c _ => by rw [upd_same, upd_ne _ (by omega)])
  · exact dt_eqrows (by omega : l < k) hk (fun c _ => by rw [upd_same, upd_ne _ (by omega)])
theorem dt_addrow {n k l : Nat} (hk : k < n) (hl : l < n) (hne : k ≠ l) (f : Nat → Nat → Int) (x : Int) : dt n (upd f k (fun j => f k j + x * f l j)) = dt n f := by
  rw [dt_lin hk, upd_self, dt_two hk hl hne, Int.mul_zero, Int.add_zero]
theorem dt_addsum {n k r : Nat} (hk : k < n) (hr : r ≤ k) (f : Nat → Nat → Int) (K : Nat → Int) : dt n (upd f k (fun j => f k j + sm r (fun i => K i * f i j))) = dt n f := by
  induction r with
  | zero => 
    have e : (fun j => f k j + sm 0 (fun i => K i * f i j)) = f k := by funext j; simp [sm]
    rw [e, upd_self]
  | succ r ih =>
    have e : (fun j => f k j + sm (r + 1) (fun i => K i * f i j)) = fun j => (f k j + sm r (fun i => K i * f i j)) + K r * f r j := by
      funext j; simp only [sm]; omega
    rw [e, dt_lin hk, ih (by omega), dt_two hk (by omega) (by omega), Int.mul_zero, Int.add_zero]
theorem dt_addcol {n k r : Nat} (hk : k < n) (hr : r ≤ k) (f : Nat → Nat → Int) (x : Nat → Int) : dt n (fun i => if i < r then fun j => f i j + x i * f k j else f i) = dt n f := by
  induction r with
  | zero => exact dt_congr (fun i _ j _ => by rw [if_neg (by omega)])
  | succ r ih =>
    rw [← ih (by omega)]
    have h := dt_addrow (k := r) (l := k) (by omega) hk (by omega) (fun i => if i < r then fun j => f i j + x i * f k j else f i) (x r)
    rw [← h]
    apply dt_congr
    intro i _ j _
    unfold upd
    by_cases e : i = r
    · subst e; rw [if_pos (by omega), if_pos rfl, if_neg (by omega), if_neg (by omega)]
    · rw [if_neg e]
      by_cases l : i < r
      · rw [if_pos (by omega)]
        show f i j + x i * f k j = (if i < r then fun j => f i j + x i * f k j else f i) j
        rw [if_pos l]
      · rw [if_neg (by omega)]
        show f i j = (if i < r then fun j => f i j + x i * f k j else f i) j
        rw [if_neg l]
theorem dt_col {n : Nat} {f : Nat → Nat → Int} (h : ∀ i, 1 ≤ i → i < n + 1 → f i 0 = 0) : dt (n + 1) f = f 0 0 * dt n (fun r c => f (r + 1) (c + 1)) := by
  simp only [dt]
  have e : ∀ i, i < n + 1 → dsg i * f i 0 * dt n (fun r c => f (skp i r) (c + 1)) = if i = 0 then f 0 0 * dt n (fun r c => f (r + 1) (c + 1)) else 0 := by
    intro i hi
    by_cases e : i = 0
    · subst e
      rw [if_pos rfl]
      have e1 : dsg 0 = 1 := rfl
      rw [e1, Int.one_mul]
      rfl
    · rw [if_neg e, h i (by omega) hi]; simp
  rw [sm_congr e, sm_single, if_pos (by omega)]
theorem dt_one {n : Nat} {f : Nat → Nat → Int} (h : ∀ i, i < n → ∀ j, j < n → f i j = if i = j then 1 else 0) : dt n f = 1 := by
  induction n generalizing f with
  | zero => rfl
  | succ n ih =>
    rw [dt_col (fun i h1 hi => by rw [h i hi 0 (by omega), if_neg (by omega)]), h 0 (by omega) 0 (by omega), if_pos rfl, Int.one_mul]
    refine ih (fun i hi j hj => ?_)
    rw [h _ (by omega) _ (by omega)]
    by_cases e : i = j
    · subst e; rw [if_pos rfl, if_pos rfl]
    · rw [if_neg e, if_neg (by omega)]

end Go.Proofs.Ytbnegbpapjcmhaa

namespace Go.Proofs.Ytbnegbpapjcmhaa
set_option linter.unusedVariables false

/-- The set bits of a mask, in ascending order; how many stand below one. -/
def bitL (c : Nat) : List Nat := (List.range 6).filter fun i => decide (c / 2 ^ i % 2 = 1)
def posB (c i : Nat) : Nat := gr (c % 2 ^ i)
theorem bit_drop : ∀ c, c < 64 → ∀ i, i < 6 → c / 2 ^ i % 2 = 1 → bitL (c ^^^ 2 ^ i) = (bitL c).eraseIdx (posB c i) ∧ gr (c ^^^ 2 ^ i) + 1 = gr c ∧ gr (c / 2 ^ (i + 1)) + posB c i + 1 = gr c := by decide +kernel
theorem gr_none : ∀ c, c < 64 → gr c = 0 → c = 0 := by decide +kernel
/-- A coefficient of the wedge product of the first k rows. -/
def wD (f : Nat → Nat → Int) : Nat → Nat → Int
  | 0, c => if c = 0 then 1 else 0
  | k + 1, c => sm 6 fun i => if c / 2 ^ i % 2 = 1 then wD f k (c ^^^ 2 ^ i) * dsg (gr (c / 2 ^ (i + 1))) * f k i else 0
end Go.Proofs.Ytbnegbpapjcmhaa

namespace Go.Proofs.Ytbnegbpapjcmhaa
set_option linter.unusedVariables false

/-- Reduced rows m, with pivots P, of the rows A. -/
structure Kept (p : Int) (c : Nat) (A m : List (List Int)) (P : Nat → Nat) : Prop where
  len : ∀ i, i < m.length → (rw' m i).length = c
  red : Rref p m.length c (at' m) P
  nul : ∀ x, Go.Proofs.Ytbnegbpapjcmhaa.nul p A.length c (at' A) x ↔ Go.Proofs.Ytbnegbpapjcmhaa.nul p m.length c (at' m) x
theorem Kept.bas {p : Int} {c : Nat} {A m : List (List Int)} {P : Nat → Nat} (h : Kept p c A m P) : IsBas p c A m := ⟨h.len, ⟨P, h.red⟩, h.nul⟩
theorem Kept.start (p : Int) (c : Nat) (P : Nat → Nat) : Kept p c [] [] P where
  len i hi := by simp at hi
  red := ⟨fun i hi => by simp at hi, fun i i' _ hi => by simp at hi, fun i hi => by simp at hi, fun i hi => by simp at hi, fun i hi => by simp at hi, fun i hi => by simp at hi⟩
  nul x := by simp [Go.Proofs.Ytbnegbpapjcmhaa.nul]
/-- The numbers of a list. -/
def num (z : List Int) (j : Nat) : Int := z.getD j 0
theorem at_append_old {m : List (List Int)} {z : List Int} {i : Nat} (h : i < m.length) : at' (m ++ [z]) i = at' m i := by
  funext j
  unfold at' rw'
  simp only [List.getD_eq_getElem?_getD]
  rw [List.getElem?_append_left h]
theorem at_append_new (m : List (List Int)) (z : List Int) : at' (m ++ [z]) m.length = num z := by
  funext j
  unfold at' rw' num
  simp
theorem nul_append {p : Int} {c : Nat} {A : List (List Int)} {r : List Int} {x : Nat → Int} : nul p (A ++ [r]).length c (at' (A ++ [r])) x ↔ nul p A.length c (at' A) x ∧ van p c (num r) x := by
  simp only [List.length_append, List.length_cons, List.length_nil]
  constructor
  · intro h
    refine ⟨fun i hi => ?_, ?_⟩
    · have := h i (by omega); rw [at_append_old hi] at this; exact this
    · have := h A.length (by omega); rw [at_append_new] at this; exact this
  · rintro ⟨h1, h2⟩ i hi
    by_cases e : i < A.length
    · rw [at_append_old e]; exact h1 i e
    · have : i = A.length := by omega
      subst this
      rw [at_append_new]; exact h2
/-- The row that was taken is a sum of multiples of those before it. -/
theorem Kept.same {p : Int} {c : Nat} {A m : List (List Int)} {P : Nat → Nat} {r r' : List Int} (h : Kept p c A m P) (hr : ∀ x, Go.Proofs.Ytbnegbpapjcmhaa.nul p m.length c (at' m) x → (van p c (num r') x ↔ van p c (num r) x)) (h0 : ∀ j, j < c → num r' j = 0) : Kept p c (A ++ [r]) m P :=
  ⟨h.len, h.red, fun x => by
    rw [nul_append, h.nul x]
    constructor
    · exact fun g => g.1
    · intro g
      refine ⟨g, (hr x g).1 ?_⟩
      unfold van
      have e : sm c (fun j => num r' j * x j) = sm c (fun _ => 0) := sm_congr (fun j hj => by rw [h0 j hj, Int.zero_mul])
      rw [e, sm_zero]; rfl⟩
def ins (α : Type) (l : List α) (t : Nat) (x : α) : List α := l.take t ++ x :: l.drop t
theorem ins_len {α : Type} {l : List α} {t : Nat} (x : α) (h : t ≤ l.length) : (ins α l t x).length = l.length + 1 := by
  simp [ins]; omega
theorem ins_lt {α : Type} {l : List α} {t i : Nat} (x d : α) (h : t ≤ l.length) (hi : i < t) : (ins α l t x).getD i d = l.getD i d := by
  simp only [ins, List.getD_eq_getElem?_getD]
  rw [List.getElem?_append_left (by rw [List.length_take]; omega), List.getElem?_take, if_pos hi]
theorem ins_eq {α : Type} {l : List α} {t : Nat} (x d : α) (h : t ≤ l.length) : (ins α l t x).getD t d = x := by
  simp only [ins, List.getD_eq_getElem?_getD]
  rw [List.getElem?_append_right (by rw [List.length_take]; omega), List.length_take, Nat.min_eq_left h]
  simp
theorem ins_gt {α : Type} {l : List α} {t i : Nat} (x d : α) (h : t ≤ l.length) (hi : t < i) : (ins α l t x).getD i d = l.getD (i - 1) d := by
  simp only [ins, List.getD_eq_getElem?_getD]
  rw [List.getElem?_append_right (by rw [List.length_take]; omega), List.length_take, Nat.min_eq_left h]
  obtain ⟨k, rfl⟩ : ∃ k, i = t + 1 + k := ⟨i - t - 1, by omega⟩
  have e1 : t + 1 + k - t = k + 1 := by omega
  have e2 : t + 1 + k - 1 = t + k := by omega
  rw [e1, e2, List.getElem?_cons_succ, List.getElem?_drop]
/-- Where an index of the longer list comes from. -/
def old (t i : Nat) : Nat := if i < t then i else i - 1
theorem old_lt {n t i : Nat} (h : i < n + 1) (hne : i ≠ t) (ht : t ≤ n) : old t i < n := by unfold old; split <;> omega
theorem old_inj {t i i' : Nat} (h : i ≠ t) (h' : i' ≠ t) (hne : i ≠ i') : old t i ≠ old t i' := by unfold old; split <;> split <;> omega
theorem at_ins {m : List (List Int)} {t i : Nat} (z : List Int) (ht : t ≤ m.length) (hne : i ≠ t) : at' (ins _ m t z) i = at' m (old t i) := by
  funext j
  unfold at' rw' old
  rcases Nat.lt_trichotomy i t with l | l | l
  · rw [if_pos l, ins_lt z [] ht l]
  · exact absurd l hne
  · rw [if_neg (by omega), ins_gt z [] ht l]
theorem at_ins_new {m : List (List Int)} {t : Nat} (z : List Int) (ht : t ≤ m.length) : at' (ins _ m t z) t = num z := by
  funext j
  unfold at' rw' num
  rw [ins_eq z [] ht]
theorem rw_ins {m : List (List Int)} {t i : Nat} (z : List Int) (ht : t ≤ m.length) (hne : i ≠ t) : rw' (ins _ m t z) i = rw' m (old t i) := by
  unfold rw' old
  rcases Nat.lt_trichotomy i t with l | l | l
  · rw [if_pos l, ins_lt z [] ht l]
  · exact absurd l hne
  · rw [if_neg (by omega), ins_gt z [] ht l]
theorem rw_ins_new {m : List (List Int)} {t : Nat} (z : List Int) (ht : t ≤ m.length) : rw' (ins _ m t z) t = z := by unfold rw'; rw [ins_eq z [] ht]

/-- One row more, with its pivot q, put at place t. -/
theorem Kept.more {p : Int} {c : Nat} {A m m' : List (List Int)} {P : Nat → Nat} {r r' s : List Int} {q t : Nat} (hp : prm p = true) (h : Kept p c A m P)
    (hr : ∀ x, Go.Proofs.Ytbnegbpapjcmhaa.nul p m.length c (at' m) x → (van p c (num r') x ↔ van p c (num r) x)) (hP : ∀ i, i < m.length → num r' (P i) = 0) (hrr : ∀ j, j < c → 0 ≤ num r' j ∧ num r' j < p)
    (hq : q < c) (hq0 : num r' q ≠ 0) (hql : ∀ j, j < q → num r' j = 0)
    (hs : ∀ j, j < c → num s j = num r' j * inv p (num r' q) % p) (hsl : s.length = c)
    (hm : m'.length = m.length) (hml : ∀ i, i < m.length → (rw' m' i).length = c) (hmr : ∀ i, i < m.length → ∀ j, j < c → at' m' i j = (at' m i j + (p - at' m i q) % p * num s j) % p)
    (ht : t ≤ m.length) (htl : ∀ i, i < t → P i < q) (htr : ∀ i, t ≤ i → i < m.length → q < P i) :
    Kept p c (A ++ [r]) (ins _ m' t s) (fun i => if i = t then q else P (old t i)) := by
  have hpb := prm_bd hp
  have hrq := hrr q hq
  have ht' : t ≤ m'.length := by omega
  have hlen : (ins _ m' t s).length = m.length + 1 := by rw [ins_len s ht', hm]
  have hsq : num s q = 1 := by rw [hs q hq]; exact inv_mul hp (by omega) hrq.2
  have hs0 : ∀ j, j < q → num s j = 0 := fun j hj => by rw [hs j (by omega), hql j hj]; simp
  have hsP : ∀ i, i < m.length → num s (P i) = 0 := fun i hi => by rw [hs _ (h.red.pv i hi), hP i hi]; simp
  have hmq : ∀ i, i < m.length → at' m' i q = 0 := fun i hi => by
    rw [hmr i hi q hq, hsq, Int.mul_one]
    have r1 := h.red.rng i hi q hq
    by_cases e : at' m i q = 0
    · rw [e]; simp
    · rw [Int.emod_eq_of_lt (a := p - at' m i q) (by omega) (by omega)]
      have : at' m i q + (p - at' m i q) = p := by omega
      rw [this]; simp
  have hkeep : ∀ i, i < m.length → ∀ j, j < c → num s j = 0 → at' m' i j = at' m i j := fun i hi j hj h0 => by
    rw [hmr i hi j hj, h0, Int.mul_zero, Int.add_zero]
    have r1 := h.red.rng i hi j hj
    exact Int.emod_eq_of_lt r1.1 r1.2
  have htq : ∀ i, i < m.length → (i < t ↔ P i < q) := fun i hi => ⟨htl i, fun g => by
    rcases Nat.lt_or_ge i t with l | l
    · exact l
    · have := htr i l hi; omega⟩
  have fstm : ∀ i, i < m.length → ∀ j, j < P i → at' m' i j = 0 := fun i hi j hj => by
    have hjc : j < c := Nat.lt_trans hj (h.red.pv i hi)
    rw [hmr i hi j hjc, h.red.fst i hi j hj, Int.zero_add]
    by_cases e : P i < q
    · rw [hs0 j (by omega)]; simp
    · have hPq : q < P i := by
        rcases Nat.lt_or_ge i t with l | l
        · exact absurd (htl i l) e
        · exact htr i l hi
      rw [h.red.fst i hi q hPq]; simp
  refine ⟨fun i hi => ?_, ?_, fun x => ?_⟩
  · rw [hlen] at hi
    by_cases e : i = t
    · subst e; rw [rw_ins_new s ht']; exact hsl
    · rw [rw_ins s ht' e]; exact hml _ (old_lt hi e ht)
  · rw [hlen]
    refine ⟨fun i hi => ?_, fun i i' hii hi' => ?_, fun i hi => ?_, fun i hi i' hi' hne => ?_, fun i hi j hj => ?_, fun i hi j hj => ?_⟩
    · show (if i = t then q else P (old t i)) < c
      by_cases e : i = t
      · rw [if_pos e]; exact hq
      · rw [if_neg e]; exact h.red.pv _ (old_lt hi e ht)
    · show (if i = t then q else P (old t i)) < if i' = t then q else P (old t i')
      by_cases e : i = t
      · rw [if_pos e, if_neg (by omega)]
        exact htr _ (by unfold old; rw [if_neg (by omega)]; omega) (old_lt hi' (by omega) ht)
      · rw [if_neg e]
        by_cases e' : i' = t
        · rw [if_pos e']
          exact htl _ (by unfold old; rw [if_pos (by omega)]; omega)
        · rw [if_neg e']
          exact h.red.mono _ _ (by unfold old; split <;> split <;> omega) (old_lt hi' e' ht)
    · show at' (ins _ m' t s) i (if i = t then q else P (old t i)) = 1
      by_cases e : i = t
      · rw [if_pos e, e, at_ins_new s ht']; exact hsq
      · have ho := old_lt hi e ht
        rw [if_neg e, at_ins s ht' e, hkeep _ ho _ (h.red.pv _ ho) (hsP _ ho)]
        exact h.red.one _ ho
    · show at' (ins _ m' t s) i' (if i = t then q else P (old t i)) = 0
      by_cases e : i = t
      · have e' : i' ≠ t := by omega
        rw [if_pos e, at_ins s ht' e']
        exact hmq _ (old_lt hi' e' ht)
      · have ho := old_lt hi e ht
        rw [if_neg e]
        by_cases e' : i' = t
        · rw [e', at_ins_new s ht']; exact hsP _ ho
        · have ho' := old_lt hi' e' ht
          rw [at_ins s ht' e', hkeep _ ho' _ (h.red.pv _ ho) (hsP _ ho)]
          exact h.red.zer _ ho _ ho' (old_inj e e' hne)
    · have hj' : j < (if i = t then q else P (old t i)) := hj
      by_cases e : i = t
      · rw [if_pos e] at hj'; rw [e, at_ins_new s ht']; exact hs0 j hj'
      · rw [if_neg e] at hj'; rw [at_ins s ht' e]; exact fstm _ (old_lt hi e ht) j hj'
    · by_cases e : i = t
      · rw [e, at_ins_new s ht', hs j hj]; exact mod_bd hp _
      · rw [at_ins s ht' e, hmr _ (old_lt hi e ht) j hj]; exact mod_bd hp _
  · rw [nul_append, h.nul x, hlen]
    have vs : van p c (num s) x ↔ van p c (num r') x := van_scale (g := num r' q) hs (by rw [Int.mul_comm, inv_mul hp (by omega) hrq.2, Int.emod_eq_of_lt (by omega) (by omega)])
    have vm : van p c (num s) x → ∀ i, i < m.length → (van p c (at' m' i) x ↔ van p c (at' m i) x) := fun hv i hi => van_add (hmr i hi) hv
    constructor
    · rintro ⟨g1, g2⟩ i hi
      have hv : van p c (num s) x := vs.2 ((hr x g1).2 g2)
      by_cases e : i = t
      · rw [e, at_ins_new s ht']; exact hv
      · have ho := old_lt hi e ht
        rw [at_ins s ht' e]; exact (vm hv _ ho).2 (g1 _ ho)
    · intro g
      have hv : van p c (num s) x := by have := g t (by omega); rw [at_ins_new s ht'] at this; exact this
      have g1 : Go.Proofs.Ytbnegbpapjcmhaa.nul p m.length c (at' m) x := fun i hi => by
        by_cases e : i < t
        · have := g i (by omega)
          rw [at_ins s ht' (by omega)] at this
          have e2 : old t i = i := by unfold old; rw [if_pos e]
          rw [e2] at this
          exact (vm hv i hi).1 this
        · have := g (i + 1) (by omega)
          rw [at_ins s ht' (by omega)] at this
          have e2 : old t (i + 1) = i := by unfold old; rw [if_neg (by omega)]; omega
          rw [e2] at this
          exact (vm hv i hi).1 this
      exact ⟨g1, (hr x g1).1 (vs.1 hv)⟩

/-- A row is reduced by the first k of reduced rows. -/
structure Redu (p : Int) (c : Nat) (m : List (List Int)) (P : Nat → Nat) (r r' : List Int) (k : Nat) : Prop where
  len : r'.length = c
  rng : ∀ j, j < c → 0 ≤ num r' j ∧ num r' j < p
  zer : ∀ i, i < k → num r' (P i) = 0
  van : ∀ x, Go.Proofs.Ytbnegbpapjcmhaa.nul p m.length c (at' m) x → (Go.Proofs.Ytbnegbpapjcmhaa.van p c (num r') x ↔ Go.Proofs.Ytbnegbpapjcmhaa.van p c (num r) x)
theorem Redu.start {p : Int} {c : Nat} {m : List (List Int)} {P : Nat → Nat} {r : List Int} (hl : r.length = c) (hr : ∀ j, j < c → 0 ≤ num r j ∧ num r j < p) : Redu p c m P r r 0 :=
  ⟨hl, hr, fun i hi => by omega, fun x _ => Iff.rfl⟩
theorem Redu.next {p : Int} {c : Nat} {m : List (List Int)} {P : Nat → Nat} {r r' r'' : List Int} {k : Nat} (hp : prm p = true) (h : Redu p c m P r r' k) (hR : Rref p m.length c (at' m) P) (hk : k < m.length)
    (hl : r''.length = c) (hn : ∀ j, j < c → num r'' j = (num r' j + (p - num r' (P k)) % p * at' m k j) % p) : Redu p c m P r r'' (k + 1) := by
  have hpb := prm_bd hp
  refine ⟨hl, fun j hj => by rw [hn j hj]; exact mod_bd hp _, fun i hi => ?_, fun x hx => ?_⟩
  · have hik : i < m.length := by omega
    rw [hn _ (hR.pv i hik)]
    by_cases e : i = k
    · subst e
      rw [hR.one i hk, Int.mul_one]
      have r1 := h.rng _ (hR.pv i hk)
      by_cases e0 : num r' (P i) = 0
      · rw [e0]; simp
      · rw [Int.emod_eq_of_lt (a := p - num r' (P i)) (by omega) (by omega)]
        have : num r' (P i) + (p - num r' (P i)) = p := by omega
        rw [this]; simp
    · rw [hR.zer i hik k hk e, h.zer i (by omega)]; simp
  · exact (van_add hn (hx k hk)).trans (h.van x hx)

end Go.Proofs.Ytbnegbpapjcmhaa
