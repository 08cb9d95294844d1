/-
  Determinants: by the first column; what changes of rows do to them. No Go in sight.
  No conditions.
  What the program's elimination counts is the determinant. No Go in sight.
  No conditions.
  Inverses: elimination of a square matrix beside the unit matrix, and when it tells that there is an inverse. No Go in sight.
  No conditions.
  Inverses of multivectors: the model's contract.
  Conditions: the lists are nil or rows of known cells, of at most 1048576 numbers.
  Fewer equations than unknowns; how many vectors a kernel's basis has; ranks and scaled columns. No Go in sight.
  No conditions.
  A multivector has an inverse exactly if its left ideal has all multivectors. No Go in sight.
  No conditions.
  Reversals and involutions of products: mathematics.
  Conditions: none.
-/
import Derived.Test.YtijklpcelbnnjaaGreatQk17
import Derived.Test.YtijklpcelbnnjaaGreatQk25
import Derived.Test.YtijklpcelbnnjaaGreatQk18
import Derived.Test.YtijklpcelbnnjaaGreatQk21
import Derived.Test.YtijklpcelbnnjaaGreatQk19
import Derived.Test.YtijklpcelbnnjaaGreatQk30
import Derived.Test.YtijklpcelbnnjaaGreatQk35
import Derived.Deep.RegionHeld3
import Derived.Deep.DeepCutAuto
import Derived.Test.YtijklpcelbnnjaaGreatQk8
namespace Go.Proofs.YtijklpcelbnnjaaGreat
set_option linter.unusedVariables false

def skp (i r : Nat) : Nat := if r < i then r else r + 1
def usk (i k : Nat) : Nat := if k < i then k else k - 1
def dsg (i : Nat) : Int := if i % 2 = 0 then 1 else -1
def dt : Nat → (Nat → Nat → Int) → Int
  | 0, _ => 1
  | n + 1, f => sm (n + 1) fun i => dsg i * f i 0 * dt n (fun r c => f (skp i r) (c + 1))
theorem skp_lt {i r n : Nat} (h : r < n) : skp i r < n + 1 := by unfold skp; split <;> omega
theorem skp_ne (i r : Nat) : skp i r ≠ i := by unfold skp; split <;> omega
theorem skp_eq {i r k : Nat} (h : i ≠ k) : skp i r = k ↔ r = usk i k := by unfold skp usk; split <;> split <;> omega
theorem usk_lt {i k n : Nat} (h : i ≠ k) (hi : i < n + 1) (hk : k < n + 1) : usk i k < n := by unfold usk; split <;> omega

theorem dt_congr {n : Nat} {f g : Nat → Nat → Int} (h : ∀ i, i < n → ∀ j, j < n → f i j = g i j) : dt n f = dt n g := by
  induction n generalizing f g with
  | zero => rfl
  | succ n ih =>
    simp only [dt]
    apply sm_congr
    intro i hi
    rw [h i hi 0 (by omega), ih (fun r hr c hc => h _ (skp_lt hr) _ (by omega))]
theorem mul_emod_congr {p a a' b b' : Int} (h : a % p = a' % p) (k : b % p = b' % p) : a * b % p = a' * b' % p := by rw [Int.mul_emod, h, k, ← Int.mul_emod]
theorem dt_mod {p : Int} {n : Nat} {f g : Nat → Nat → Int} (h : ∀ i, i < n → ∀ j, j < n → f i j % p = g i j % p) : dt n f % p = dt n g % p := by
  induction n generalizing f g with
  | zero => rfl
  | succ n ih =>
    simp only [dt]
    apply sm_emod_congr
    intro i hi
    exact mul_emod_congr (mul_emod_congr rfl (h i hi 0 (by omega))) (ih (fun r hr c hc => h _ (skp_lt hr) _ (by omega)))

def upd (f : Nat → Nat → Int) (k : Nat) (u : Nat → Int) : Nat → Nat → Int := fun i => if i = k then u else f i
theorem upd_same (f : Nat → Nat → Int) (k : Nat) (u : Nat → Int) : upd f k u k = u := if_pos rfl
theorem upd_ne {f : Nat → Nat → Int} {k i : Nat} (u : Nat → Int) (h : i ≠ k) : upd f k u i = f i := if_neg h
theorem upd_self (f : Nat → Nat → Int) (k : Nat) : upd f k (f k) = f := by
  funext i; unfold upd; split
  · next h => rw [h]
  · rfl
theorem upd_comm (f : Nat → Nat → Int) {k l : Nat} (h : k ≠ l) (u v : Nat → Int) : upd (upd f k u) l v = upd (upd f l v) k u := by
  funext i; unfold upd
  by_cases e : i = l
  · subst e; rw [if_pos rfl, if_neg (fun q => h q.symm), if_pos rfl]
  · rw [if_neg e, if_neg e]
theorem minor_eq (f : Nat → Nat → Int) (k : Nat) (w : Nat → Int) : (fun r c => upd f k w (skp k r) (c + 1)) = fun r c => f (skp k r) (c + 1) := by
  funext r c; unfold upd; rw [if_neg (skp_ne k r)]
theorem minor_ne (f : Nat → Nat → Int) {i k : Nat} (w : Nat → Int) (h : i ≠ k) : (fun r c => upd f k w (skp i r) (c + 1)) = upd (fun r c => f (skp i r) (c + 1)) (usk i k) (fun c => w (c + 1)) := by
  funext r c; unfold upd
  by_cases e : skp i r = k
  · rw [if_pos e, if_pos ((skp_eq h).1 e)]
  · rw [if_neg e, if_neg (fun q => e ((skp_eq h).2 q))]

theorem dt_lin {n k : Nat} (hk : k < n) (f : Nat → Nat → Int) (u v : Nat → Int) (x : Int) : dt n (upd f k (fun j => u j + x * v j)) = dt n (upd f k u) + x * dt n (upd f k v) := by
  induction n generalizing f u v k with
  | zero => omega
  | succ n ih =>
    simp only [dt]
    rw [← sm_mul, ← sm_add]
    apply sm_congr
    intro i hi
    by_cases e : i = k
    · subst e
      rw [minor_eq, minor_eq, minor_eq, upd_same, upd_same, upd_same, Int.mul_add, Int.add_mul, Int.mul_left_comm (dsg i) x, Int.mul_assoc x]
    · rw [minor_ne f _ e, minor_ne f _ e, minor_ne f _ e, upd_ne _ e, upd_ne _ e, upd_ne _ e]
      have h := ih (usk_lt e hi hk) (fun r c => f (skp i r) (c + 1)) (fun c => u (c + 1)) (fun c => v (c + 1))
      rw [h, Int.mul_add, Int.mul_left_comm _ x]
theorem dt_zero {n k : Nat} (hk : k < n) {f : Nat → Nat → Int} (h : ∀ j, j < n → f k j = 0) : dt n f = 0 := by
  have e : dt n f = dt n (upd f k (fun _ => 0)) := dt_congr (fun i _ j hj => by
    unfold upd; split
    · next q => rw [q]; exact h j hj
    · rfl)
  have l := dt_lin hk f (fun _ => 0) (fun _ => 0) 1
  simp only [Int.mul_zero, Int.add_zero, Int.one_mul] at l
  omega
theorem dt_scale {n k : Nat} (hk : k < n) (f : Nat → Nat → Int) (v : Nat → Int) (x : Int) : dt n (upd f k (fun j => x * v j)) = x * dt n (upd f k v) := by
  have l := dt_lin hk f (fun _ => 0) v x
  have z : dt n (upd f k (fun _ => 0)) = 0 := dt_zero hk (fun j _ => by rw [upd_same])
  rw [z] at l
  simpa using l
theorem sg_succ (k : Nat) : dsg (k + 1) = - dsg k := by unfold dsg; split <;> split <;> omega

theorem dt_adj {n k : Nat} (hk : k + 1 < n) {f : Nat → Nat → Int} (h : ∀ j, j < n → f k j = f (k + 1) j) : dt n f = 0 := by
  induction n generalizing f k with
  | zero => omega
  | succ n ih =>
    simp only [dt]
    have hm : dt n (fun r c => f (skp (k + 1) r) (c + 1)) = dt n (fun r c => f (skp k r) (c + 1)) := dt_congr (fun r hr c hc => by
      show f (skp (k + 1) r) (c + 1) = f (skp k r) (c + 1)
      rcases Nat.lt_trichotomy r k with l | l | l
      · have e1 : skp (k + 1) r = r := if_pos (by omega)
        have e2 : skp k r = r := if_pos l
        rw [e1, e2]
      · subst l
        have e1 : skp (r + 1) r = r := if_pos (by omega)
        have e2 : skp r r = r + 1 := if_neg (by omega)
        rw [e1, e2]; exact h _ (by omega)
      · have e1 : skp (k + 1) r = r + 1 := if_neg (by omega)
        have e2 : skp k r = r + 1 := if_neg (by omega)
        rw [e1, e2])
    have key : ∀ i, i < n + 1 → dsg i * f i 0 * dt n (fun r c => f (skp i r) (c + 1)) = (if i = k then dsg k * f k 0 * dt n (fun r c => f (skp k r) (c + 1)) else 0) + (if i = k + 1 then -(dsg k * f k 0 * dt n (fun r c => f (skp k r) (c + 1))) else 0) := by
      intro i hi
      by_cases e : i = k
      · subst e; rw [if_pos rfl, if_neg (by omega), Int.add_zero]
      · by_cases e' : i = k + 1
        · subst e'; rw [if_neg e, if_pos rfl, hm, sg_succ, ← h 0 (by omega), Int.zero_add, Int.neg_mul, Int.neg_mul]
        · rw [if_neg e, if_neg e']
          have z : dt n (fun r c => f (skp i r) (c + 1)) = 0 := by
            by_cases l : i < k
            · refine ih (k := k - 1) (by omega) (fun j hj => ?_)
              have e1 : skp i (k - 1) = k := by unfold skp; rw [if_neg (by omega)]; omega
              have e2 : skp i (k - 1 + 1) = k + 1 := by unfold skp; rw [if_neg (by omega)]; omega
              show f (skp i (k - 1)) (j + 1) = f (skp i (k - 1 + 1)) (j + 1)
              rw [e1, e2]; exact h _ (by omega)
            · refine ih (k := k) (by omega) (fun j hj => ?_)
              have e1 : skp i k = k := if_pos (by omega)
              have e2 : skp i (k + 1) = k + 1 := if_pos (by omega)
              show f (skp i k) (j + 1) = f (skp i (k + 1)) (j + 1)
              rw [e1, e2]; exact h _ (by omega)
          rw [z, Int.mul_zero]; rfl
    rw [sm_congr key, sm_add, sm_single, sm_single, if_pos (by omega), if_pos (by omega)]
    omega
/-- Two rows are exchanged, where equal rows make 0. -/
theorem dt_bil {n k l : Nat} (hk : k < n) (hl : l < n) (hne : k ≠ l) (f : Nat → Nat → Int) (hz : ∀ x, dt n (upd (upd f k x) l x) = 0) (u v : Nat → Int) : dt n (upd (upd f k u) l v) = - dt n (upd (upd f k v) l u) := by
  have h0 := hz (fun j => u j + 1 * v j)
  have h1 := hz u
  have h2 := hz v
  rw [dt_lin hl, upd_comm f hne, upd_comm f hne, dt_lin hk, dt_lin hk, ← upd_comm f hne, ← upd_comm f hne, ← upd_comm f hne, ← upd_comm f hne] at h0
  omega
theorem dt_eqrows {n i j : Nat} (hij : i < j) (hj : j < n) {f : Nat → Nat → Int} (h : ∀ c, c < n → f i c = f j c) : dt n f = 0 := by
  obtain ⟨d, hd⟩ : ∃ d, j = i + 1 + d := ⟨j - i - 1, by omega⟩
  induction d generalizing j f with
  | zero => subst hd; exact dt_adj hj h
  | succ d ih =>
    have hj1 : j - 1 + 1 = j := by omega
    have e0 : upd (upd f (j - 1) (f (j - 1))) j (f j) = f := by rw [upd_self, upd_self]
    have hb := dt_bil (n := n) (k := j - 1) (l := j) (by omega) hj (by omega) f (fun x => dt_adj (k := j - 1) (by omega) (fun c _ => by
      rw [hj1, upd_same, upd_ne _ (by omega), upd_same])) (f (j - 1)) (f j)
    rw [e0] at hb
    have hz : dt n (upd (upd f (j - 1) (f j)) j (f (j - 1))) = 0 := ih (j := j - 1) (by omega) (by omega) (fun c hc => by
      rw [upd_ne _ (by omega), upd_ne _ (by omega), upd_ne _ (by omega), upd_same]; exact h c hc) (by omega)
    omega
theorem dt_swap {n k l : Nat} (hkl : k < l) (hl : l < n) (f : Nat → Nat → Int) : dt n (upd (upd f k (f l)) l (f k)) = - dt n f := by
  have hb := dt_bil (n := n) (k := k) (l := l) (by omega) hl (by omega) f (fun x => dt_eqrows hkl hl (fun c _ => by
      rw [upd_same, upd_ne _ (by omega), upd_same])) (f l) (f k)
  rw [upd_self, upd_self] at hb
  exact hb
theorem dt_two {n k l : Nat} (hk : k < n) (hl : l < n) (hne : k ≠ l) (f : Nat → Nat → Int) : dt n (upd f k (f l)) = 0 := by
  rcases Nat.lt_or_ge k l with h | h
  · exact dt_eqrows h hl (fun c _ => by rw [upd_same, upd_ne _ (by omega)])
  · exact dt_eqrows (by omega : l < k) hk (fun c _ => by rw [upd_same, upd_ne _ (by omega)])
theorem dt_addrow {n k l : Nat} (hk : k < n) (hl : l < n) (hne : k ≠ l) (f : Nat → Nat → Int) (x : Int) : dt n (upd f k (fun j => f k j + x * f l j)) = dt n f := by
  rw [dt_lin hk, upd_self, dt_two hk hl hne, Int.mul_zero, Int.add_zero]
theorem dt_addsum {n k r : Nat} (hk : k < n) (hr : r ≤ k) (f : Nat → Nat → Int) (K : Nat → Int) : dt n (upd f k (fun j => f k j + sm r (fun i => K i * f i j))) = dt n f := by
  induction r with
  | zero => 
    have e : (fun j => f k j + sm 0 (fun i => K i * f i j)) = f k := by funext j; simp [sm]
    rw [e, upd_self]
  | succ r ih =>
    have e : (fun j => f k j + sm (r + 1) (fun i => K i * f i j)) = fun j => (f k j + sm r (fun i => K i * f i j)) + K r * f r j := by
      funext j; simp only [sm]; omega
    rw [e, dt_lin hk, ih (by omega), dt_two hk (by omega) (by omega), Int.mul_zero, Int.add_zero]
theorem dt_addcol {n k r : Nat} (hk : k < n) (hr : r ≤ k) (f : Nat → Nat → Int) (x : Nat → Int) : dt n (fun i => if i < r then fun j => f i j + x i * f k j else f i) = dt n f := by
  induction r with
  | zero => exact dt_congr (fun i _ j _ => by rw [if_neg (by omega)])
  | succ r ih =>
    rw [← ih (by omega)]
    have h := dt_addrow (k := r) (l := k) (by omega) hk (by omega) (fun i => if i < r then fun j => f i j + x i * f k j else f i) (x r)
    rw [← h]
    apply dt_congr
    intro i _ j _
    unfold upd
    by_cases e : i = r
    · subst e; rw [if_pos (by omega), if_pos rfl, if_neg (by omega), if_neg (by omega)]
    · rw [if_neg e]
      by_cases l : i < r
      · rw [if_pos (by omega)]
        show f i j + x i * f k j = (if i < r then fun j => f i j + x i * f k j else f i) j
        rw [if_pos l]
      · rw [if_neg (by omega)]
        show f i j = (if i < r then fun j => f i j + x i * f k j else f i) j
        rw [if_neg l]
theorem dt_col {n : Nat} {f : Nat → Nat → Int} (h : ∀ i, 1 ≤ i → i < n + 1 → f i 0 = 0) : dt (n + 1) f = f 0 0 * dt n (fun r c => f (r + 1) (c + 1)) := by
  simp only [dt]
  have e : ∀ i, i < n + 1 → dsg i * f i 0 * dt n (fun r c => f (skp i r) (c + 1)) = if i = 0 then f 0 0 * dt n (fun r c => f (r + 1) (c + 1)) else 0 := by
    intro i hi
    by_cases e : i = 0
    · subst e
      rw [if_pos rfl]
      have e1 : dsg 0 = 1 := rfl
      rw [e1, Int.one_mul]
      rfl
    · rw [if_neg e, h i (by omega) hi]; simp
  rw [sm_congr e, sm_single, if_pos (by omega)]
theorem dt_one {n : Nat} {f : Nat → Nat → Int} (h : ∀ i, i < n → ∀ j, j < n → f i j = if i = j then 1 else 0) : dt n f = 1 := by
  induction n generalizing f with
  | zero => rfl
  | succ n ih =>
    rw [dt_col (fun i h1 hi => by rw [h i hi 0 (by omega), if_neg (by omega)]), h 0 (by omega) 0 (by omega), if_pos rfl, Int.one_mul]
    refine ih (fun i hi j hj => ?_)
    rw [h _ (by omega) _ (by omega)]
    by_cases e : i = j
    · subst e; rw [if_pos rfl, if_pos rfl]
    · rw [if_neg e, if_neg (by omega)]

end Go.Proofs.YtijklpcelbnnjaaGreat

namespace Go.Proofs.YtijklpcelbnnjaaGreat
set_option linter.unusedVariables false

theorem at_app (a b : List (List Int)) (i : Nat) : at' (a ++ b) i = if i < a.length then at' a i else at' b (i - a.length) := by
  funext j
  unfold at' rw'
  simp only [List.getD_eq_getElem?_getD, List.getElem?_append]
  split <;> rfl
theorem at_cons0 (z : List Int) (b : List (List Int)) : at' (z :: b) 0 = num z := by funext j; rfl
theorem at_cons (z : List Int) (b : List (List Int)) (i : Nat) : at' (z :: b) (i + 1) = at' b i := by funext j; rfl
theorem at_mid (m : List (List Int)) (z : List Int) (X : List (List Int)) : at' (m ++ z :: X) m.length = num z := by
  rw [at_app, if_neg (Nat.lt_irrefl _), Nat.sub_self, at_cons0]
theorem emod_mul (a b p : Int) : a % p * b % p = a * b % p := by rw [Int.mul_emod, Int.emod_emod, ← Int.mul_emod]
theorem mul_emod_r (a b p : Int) : a * (b % p) % p = a * b % p := by rw [Int.mul_emod, Int.emod_emod, ← Int.mul_emod]

theorem dt_red {p : Int} {n : Nat} {m : List (List Int)} {P : Nat → Nat} {r r' : List Int} {X : List (List Int)} (hr : Red2 p n m P r r' m.length) (hn : m.length < n) :
    dt n (at' (m ++ r :: X)) % p = dt n (upd (at' (m ++ r :: X)) m.length (num r')) % p := by
  obtain ⟨K, hK⟩ := hr.lin
  rw [← dt_addsum hn (Nat.le_refl _) (at' (m ++ r :: X)) K]
  apply dt_mod
  intro i hi j hj
  unfold upd
  by_cases e : i = m.length
  · rw [if_pos e, if_pos e, hK j hj, at_mid]
    congr 2
    apply sm_congr
    intro i' hi'
    rw [at_app, if_pos hi']
  · rw [if_neg e, if_neg e]
theorem ins_end {m : List (List Int)} (s : List Int) (X : List (List Int)) : ins _ m m.length s ++ X = m ++ s :: X := by
  unfold ins
  rw [List.take_of_length_le (Nat.le_refl _), List.drop_of_length_le (Nat.le_refl _)]
  simp
theorem dt_ins_step {n t : Nat} {m : List (List Int)} (s : List Int) (X : List (List Int)) (ht : t < m.length) (hn : m.length < n) : dt n (at' (ins _ m t s ++ X)) = - dt n (at' (ins _ m (t + 1) s ++ X)) := by
  rw [← dt_swap (k := t) (l := t + 1) (by omega) (by omega) (at' (ins _ m (t + 1) s ++ X))]
  apply dt_congr
  intro i hi j hj
  have l1 : (ins _ m t s).length = m.length + 1 := ins_len s (by omega)
  have l2 : (ins _ m (t + 1) s).length = m.length + 1 := ins_len s (by omega)
  have g1 : at' (ins _ m (t + 1) s ++ X) (t + 1) = num s := by rw [at_app, if_pos (by omega), at_ins_new s (by omega)]
  have g0 : at' (ins _ m (t + 1) s ++ X) t = at' m t := by
    rw [at_app, if_pos (by omega), at_ins s (by omega) (by omega)]
    have : old (t + 1) t = t := if_pos (by omega)
    rw [this]
  by_cases e : i = t
  · subst e
    rw [upd_ne _ (by omega), upd_same, g1, at_app, if_pos (by omega), at_ins_new s (by omega)]
  · by_cases e' : i = t + 1
    · subst e'
      rw [upd_same, g0, at_app, if_pos (by omega), at_ins s (by omega) (by omega)]
      have : old t (t + 1) = t := by unfold old; rw [if_neg (by omega)]; omega
      rw [this]
    · rw [upd_ne _ e', upd_ne _ e, at_app, at_app, l1, l2]
      by_cases l : i < m.length + 1
      · rw [if_pos l, if_pos l, at_ins s (by omega) e, at_ins s (by omega) e']
        have : old t i = old (t + 1) i := by unfold old; split <;> split <;> omega
        rw [this]
      · rw [if_neg l, if_neg l]
theorem dt_ins {n t : Nat} {m : List (List Int)} (s : List Int) (X : List (List Int)) (ht : t ≤ m.length) (hn : m.length < n) : dt n (at' (ins _ m t s ++ X)) = dsg (m.length - t) * dt n (at' (m ++ s :: X)) := by
  obtain ⟨d, hd⟩ : ∃ d, m.length = t + d := ⟨m.length - t, by omega⟩
  induction d generalizing t with
  | zero =>
    have : t = m.length := by omega
    subst this
    rw [ins_end, Nat.sub_self]
    have e1 : dsg 0 = 1 := rfl
    rw [e1, Int.one_mul]
  | succ d ih =>
    rw [dt_ins_step s X (by omega) hn, ih (by omega) (by omega)]
    have e : m.length - t = (m.length - (t + 1)) + 1 := by omega
    rw [e, sg_succ, Int.neg_mul]

theorem Elm.detX {p : Int} {n : Nat} {A m : List (List Int)} {P : Nat → Nat} {d : Int} (hp : prm p = true) (h : Elm p n A m P d) : ∀ X : List (List Int), A.length + X.length = n →
    (m.length = A.length ∧ dt n (at' (A ++ X)) % p = d * dt n (at' (m ++ X)) % p) ∨ (m.length < A.length ∧ dt n (at' (A ++ X)) % p = 0) := by
  have hpb := prm_bd hp
  induction h with
  | start P => intro X _; exact .inl ⟨rfl, by rw [Int.one_mul]⟩
  | @same A m P d r r' _ hrl hr h0 ih =>
    intro X hX
    simp only [List.length_append, List.length_cons, List.length_nil] at hX ⊢
    have e : A ++ [r] ++ X = A ++ r :: X := by simp
    rw [e]
    rcases ih (r :: X) (by simp only [List.length_cons]; omega) with ⟨h1, h2⟩ | ⟨h1, h2⟩
    · refine .inr ⟨by omega, ?_⟩
      rw [h2]
      have k : dt n (at' (m ++ r :: X)) % p = 0 := by
        rw [dt_red hr (by omega), dt_zero (k := m.length) (by omega) (fun j hj => by rw [upd_same]; exact h0 j hj)]
        rfl
      rw [Int.mul_emod, k]; simp
    · exact .inr ⟨by omega, h2⟩
  | @more A m m' P d r r' s q t _ k ih =>
    intro X hX
    simp only [List.length_append, List.length_cons, List.length_nil] at hX ⊢
    have e : A ++ [r] ++ X = A ++ r :: X := by simp
    have hl : (ins _ m' t s).length = m.length + 1 := by rw [ins_len s (by rw [k.ml]; exact k.tn), k.ml]
    rw [e, hl]
    rcases ih (r :: X) (by simp only [List.length_cons]; omega) with ⟨h1, h2⟩ | ⟨h1, h2⟩
    · refine .inl ⟨by omega, ?_⟩
      have hmn : m.length < n := by omega
      have hrq := k.red.rng q k.qc
      have hinv : num r' q * inv p (num r' q) % p = 1 := inv_mul hp (by have := k.q0; omega) hrq.2
      have e1 : dt n (upd (at' (m ++ r :: X)) m.length (num r')) % p = num r' q * dt n (upd (at' (m ++ r :: X)) m.length (num s)) % p := by
        rw [← dt_scale hmn]
        apply dt_mod
        intro i hi j hj
        unfold upd
        by_cases ei : i = m.length
        · rw [if_pos ei, if_pos ei, k.ss j hj, mul_emod_r, Int.mul_left_comm, ← mul_emod_r, hinv, Int.mul_one]
        · rw [if_neg ei, if_neg ei]
      have e2 : dt n (upd (at' (m ++ r :: X)) m.length (num s)) % p = dt n (at' (m' ++ s :: X)) % p := by
        rw [← dt_addcol hmn (Nat.le_refl _) (upd (at' (m ++ r :: X)) m.length (num s)) (fun i => (p - at' m i q) % p)]
        apply dt_mod
        intro i hi j hj
        rw [at_app]
        by_cases li : i < m.length
        · rw [if_pos li, if_pos (by rw [k.ml]; exact li), upd_ne _ (by omega), upd_same, k.mr i li j hj, Int.emod_emod, at_app, if_pos li]
        · rw [if_neg li, if_neg (by rw [k.ml]; exact li), k.ml]
          by_cases ei : i = m.length
          · rw [ei, upd_same, Nat.sub_self, at_cons0]
          · obtain ⟨x, hx⟩ : ∃ x, i - m.length = x + 1 := ⟨i - m.length - 1, by omega⟩
            rw [upd_ne _ ei, at_app, if_neg li, hx, at_cons, at_cons]
      have e3 := dt_ins s X (t := t) (m := m') (n := n) (by rw [k.ml]; exact k.tn) (by rw [k.ml]; exact hmn)
      rw [k.ml] at e3
      have e4 : dt n (at' (m ++ r :: X)) % p = num r' q * dt n (at' (m' ++ s :: X)) % p := by
        rw [dt_red k.red hmn, e1, Int.mul_emod, e2, ← Int.mul_emod]
      rw [h2, Int.mul_emod, e4, ← Int.mul_emod, e3, emod_mul]
      generalize dt n (at' (m' ++ s :: X)) = D
      unfold esgn dsg
      by_cases ev : (m.length - t) % 2 = 0
      · rw [if_pos ev, if_pos ev, Int.one_mul, Int.mul_assoc]
      · rw [if_neg ev, if_neg ev]
        generalize num r' q = x
        have c1 : d * (-x % p) * (-1 * D) = -1 * D * d * (-x % p) := by rw [Int.mul_comm (d * (-x % p)), ← Int.mul_assoc]
        have c2 : -1 * D * d * (-x) = d * (x * D) := by
          simp only [Int.neg_mul, Int.mul_neg, Int.neg_neg, Int.one_mul]
          rw [Int.mul_comm D d, Int.mul_assoc, Int.mul_comm D x]
        rw [c1, mul_emod_r, c2]
    · exact .inr ⟨by omega, h2⟩

theorem Rref.unit {p : Int} {n : Nat} {R : Nat → Nat → Int} {P : Nat → Nat} (h : Rref p n n R P) : (∀ i, i < n → P i = i) ∧ ∀ i, i < n → ∀ j, j < n → R i j = if i = j then 1 else 0 := by
  have lo : ∀ i, i < n → i ≤ P i := by
    intro i
    induction i with
    | zero => intro _; exact Nat.zero_le _
    | succ i ih => intro hi; have := ih (by omega); have := h.mono i (i + 1) (by omega) hi; omega
  have up : ∀ k i, i + k < n → P i + k ≤ P (i + k) := by
    intro k
    induction k with
    | zero => intro i _; exact Nat.le_refl _
    | succ k ih => intro i hi; have := ih i (by omega); have := h.mono (i + k) (i + (k + 1)) (by omega) hi; omega
  have eq : ∀ i, i < n → P i = i := fun i hi => by
    have h1 := lo i hi
    have h2 := up (n - 1 - i) i (by omega)
    have h3 := h.pv (i + (n - 1 - i)) (by omega)
    omega
  refine ⟨eq, fun i hi j hj => ?_⟩
  by_cases e : i = j
  · subst e; rw [if_pos rfl]; have := h.one i hi; rwa [eq i hi] at this
  · rw [if_neg e]; have := h.zer j hj i hi (fun q => e q.symm); rwa [eq j hj] at this
/-- The determinant of a square matrix modulo p. -/
def detP (p : Int) (A : List (List Int)) : Int := dt A.length (at' A) % p
theorem Elm.value {p : Int} {n : Nat} {A m : List (List Int)} {P : Nat → Nat} {d : Int} (hp : prm p = true) (h : Elm p n A m P d) (hn : A.length = n) :
    (m.length = n ∧ detP p A = d ∧ ∀ i, i < n → P i = i) ∨ (m.length < n ∧ detP p A = 0) := by
  unfold detP
  rcases h.detX hp [] (by simpa using hn) with ⟨h1, h2⟩ | ⟨h1, h2⟩
  · have hk := (h.kept hp).red
    have hmn : m.length = n := by omega
    rw [hmn] at hk
    refine .inl ⟨hmn, ?_, hk.unit.1⟩
    rw [List.append_nil, List.append_nil] at h2
    rw [hn, h2, dt_one hk.unit.2, Int.mul_one]
    have := h.det hp
    exact Int.emod_eq_of_lt this.1 this.2
  · rw [List.append_nil] at h2
    exact .inr ⟨by omega, by rw [hn]; exact h2⟩

end Go.Proofs.YtijklpcelbnnjaaGreat

namespace Go.Proofs.YtijklpcelbnnjaaGreat
set_option linter.unusedVariables false

theorem Rref.lo {p : Int} {n c : Nat} {R : Nat → Nat → Int} {P : Nat → Nat} (h : Rref p n c R P) : ∀ i, i < n → i ≤ P i := by
  intro i
  induction i with
  | zero => intro _; exact Nat.zero_le _
  | succ i ih => intro hi; have := ih (by omega); have := h.mono i (i + 1) (by omega) hi; omega
theorem Rref.up {p : Int} {n c : Nat} {R : Nat → Nat → Int} {P : Nat → Nat} (h : Rref p n c R P) : ∀ k i, i + k < n → P i + k ≤ P (i + k) := by
  intro k
  induction k with
  | zero => intro i _; exact Nat.le_refl _
  | succ k ih => intro i hi; have := ih i (by omega); have := h.mono (i + k) (i + (k + 1)) (by omega) hi; omega
/-- Where all of the first columns are pivots, they are in order. -/
theorem Rref.all {p : Int} {n c N : Nat} {R : Nat → Nat → Int} {P : Nat → Nat} (h : Rref p n c R P) (ha : ∀ k, k < N → ∃ i, i < n ∧ P i = k) : ∀ k, k < N → k < n ∧ P k = k := by
  intro k
  induction k using Nat.strongRecOn with
  | ind k ih =>
    intro hk
    obtain ⟨i, hi, e⟩ := ha k hk
    rcases Nat.lt_trichotomy i k with l | l | l
    · have := (ih i l (by omega)).2; omega
    · subst l; exact ⟨hi, e⟩
    · have h1 := h.mono k i l hi
      have h2 := h.lo k (by omega)
      omega
theorem Rref.free {p : Int} {n c N : Nat} {R : Nat → Nat → Int} {P : Nat → Nat} (h : Rref p n c R P) (hno : ¬ ∀ k, k < N → k < n ∧ P k = k) : ∃ k, k < N ∧ ∀ i, i < n → P i ≠ k := by
  refine Classical.byContradiction fun hc => hno (h.all fun k hk => Classical.byContradiction fun hd => hc ⟨k, hk, fun i hi e => hd ⟨i, hi, e⟩⟩)

end Go.Proofs.YtijklpcelbnnjaaGreat

namespace Go.Proofs.YtijklpcelbnnjaaGreat
open Go.RowKit
set_option linter.unusedVariables false

theorem sm_modz {p : Int} {n : Nat} {f : Nat → Int} (h : ∀ j, j < n → f j % p = 0) : sm n f % p = 0 := by
  rw [← sm_mod, sm_congr h, sm_zero]; rfl
theorem sm_same {p : Int} {n : Nat} {f g : Nat → Int} (h : ∀ j, j < n → f j % p = g j % p) : sm n f % p = sm n g % p := by
  rw [← sm_mod, sm_congr h, sm_mod]
theorem mod_z {p a b : Int} (h : b % p = 0) : a * b % p = 0 := by rw [Int.mul_emod, h]; simp
theorem kerN_has {p : Int} {B : List (List Int)} {P : Nat → Nat} {c n k : Nat} (hk : isPv P n k = false) : ∀ N, k < N → ∃ i, i < (kerN p B P c n N).length ∧ rw' (kerN p B P c n N) i = kvec p B P c n k
  | 0, h => absurd h (Nat.not_lt_zero _)
  | N + 1, h => by
    by_cases e : k = N
    · subst e
      rw [kerN_no hk]
      exact ⟨(kerN p B P c n k).length, by simp, rw_append_last _ _⟩
    · obtain ⟨i, hi, hr⟩ := kerN_has hk N (by omega)
      cases hN : isPv P n N with
      | true => rw [kerN_pv hN]; exact ⟨i, hi, hr⟩
      | false => rw [kerN_no hN]; exact ⟨i, by simp; omega, by rw [rw_append hi]; exact hr⟩
/-- What vanishes at the kernel is a sum of multiples of the rows. -/
theorem row_span {p : Int} {A : List (List Int)} (h : RowsW p A) {y : Nat → Int} (hy : nul p (kerB p A).length (rw' A 0).length (at' (kerB p A)) y) {k : Nat} (hk : k < (rw' A 0).length) : y k % p = sm (bas p A).length (fun l => at' (bas p A) l k * y (pvs (bas p A) l)) % p := by
  have hR := h.bas.pivs
  cases e : isPv (pvs (bas p A)) (bas p A).length k with
  | true =>
    obtain ⟨l, hl, el⟩ : ∃ l, l < (bas p A).length ∧ pvs (bas p A) l = k := by
      unfold isPv at e
      obtain ⟨l, hl, h2⟩ := List.any_eq_true.1 e
      exact ⟨l, List.mem_range.1 hl, by simpa using h2⟩
    subst el
    rw [sm_congr (g := fun i => if i = l then y (pvs (bas p A) l) else 0) fun i hi => by
      by_cases e2 : i = l
      · subst e2; rw [if_pos rfl, hR.one i hi, Int.one_mul]
      · rw [if_neg e2, hR.zer l hl i hi (fun e3 => e2 e3.symm), Int.zero_mul], sm_single, if_pos hl]
  | false =>
    have hz := ((ker_is h.prime).nul y).2 hy
    obtain ⟨i, hi, hr⟩ := kerN_has (p := p) (B := bas p A) (c := (rw' A 0).length) e (rw' A 0).length hk
    have hv := hz i hi
    have h3 : sm (rw' A 0).length (fun j => y j * kv (bas p A).length (at' (bas p A)) (pvs (bas p A)) k j) % p = 0 := by
      refine van_comm.1 ((van_mod (r := at' (kerP p A) i) fun j hj => ?_).1 hv)
      have e3 : at' (kerP p A) i j = (kvec p (bas p A) (pvs (bas p A)) (rw' A 0).length (bas p A).length k).getD j 0 := by
        unfold at'; rw [show rw' (kerP p A) i = _ from hr]
      rw [e3]
      unfold kvec
      rw [mkR_at _ hj, Int.emod_emod]
    rw [kv_row hR y hk] at h3
    exact Int.emod_eq_emod_iff_emod_sub_eq_zero.2 h3
end Go.Proofs.YtijklpcelbnnjaaGreat

namespace Go.Proofs.YtijklpcelbnnjaaGreat
open Go.RowKit
set_option linter.unusedVariables false

/-- The product by a fixed right factor, as sums. -/
theorem right_prod {p : Int} {S x y : List Int} {i : Nat} (hi : i < bl S) : sm (bl S) (fun j => y.getD j 0 * prodF p S (bladeM S j) x i) % p = prodF p S y x i := by
  have hi' : i < 2 ^ S.length := hi
  have e1 : ∀ j, j < bl S → prodF p S (bladeM S j) x i = (fz S j (j ^^^ i) S.length * x.getD (j ^^^ i) 0) % p := fun j hj => by
    unfold prodF gpz
    have h : ∀ a, a < 2 ^ S.length → (bladeM S j).getD a 0 * fz S a (a ^^^ i) S.length * x.getD (a ^^^ i) 0 = if a = j then fz S j (j ^^^ i) S.length * x.getD (j ^^^ i) 0 else 0 := fun a ha => by
      unfold bladeM
      rw [mkR_at _ (show a < bl S from ha)]
      by_cases e : a = j
      · subst e; rw [if_pos rfl, if_pos rfl, Int.one_mul]
      · rw [if_neg e, if_neg e, Int.zero_mul, Int.zero_mul]
    rw [sm_congr h, sm_single, if_pos (show j < 2 ^ S.length from hj)]
  unfold prodF gpz
  apply sm_congr_p
  intro j hj
  have := e1 j hj
  unfold prodF gpz at this
  rw [this, Int.mul_emod, Int.emod_emod, ← Int.mul_emod, Int.mul_assoc]
end Go.Proofs.YtijklpcelbnnjaaGreat

namespace Go.Proofs.YtijklpcelbnnjaaGreat
open Go.RowKit
set_option linter.unusedVariables false

theorem eps_add (a b : Nat) : eps (a + b) = eps a * eps b := by
  unfold eps
  rcases Nat.mod_two_eq_zero_or_one a with ha | ha <;> rcases Nat.mod_two_eq_zero_or_one b with hb | hb <;> simp [ha, hb, Nat.add_mod]
/-- How often basis vectors of the second blade pass later ones of the first. -/
def sgn (a b : Nat) : Nat → Nat
  | 0 => 0
  | n + 1 => sgn a b n + b / 2 ^ n % 2 * gr (a / 2 ^ (n + 1))
/-- The squares of the basis vectors that two blades share. -/
def shr (S : List Int) (a b : Nat) : Nat → Int
  | 0 => 1
  | n + 1 => shr S a b n * (if b / 2 ^ n % 2 = 1 ∧ a / 2 ^ n % 2 = 1 then S.getD n 0 else 1)
theorem shr_comm (S : List Int) (a b : Nat) : ∀ n, shr S a b n = shr S b a n
  | 0 => rfl
  | n + 1 => by
    simp only [shr]
    rw [shr_comm S a b n]
    congr 1
    by_cases h : b / 2 ^ n % 2 = 1 ∧ a / 2 ^ n % 2 = 1
    · rw [if_pos h, if_pos ⟨h.2, h.1⟩]
    · rw [if_neg h, if_neg (fun k => h ⟨k.2, k.1⟩)]
theorem fz_split (S : List Int) (a b : Nat) : ∀ n, fz S a b n = eps (sgn a b n) * shr S a b n
  | 0 => rfl
  | n + 1 => by
    simp only [fz, sgn, shr]
    rw [fz_split S a b n, eps_add]
    have h : gi S a b n = eps (b / 2 ^ n % 2 * gr (a / 2 ^ (n + 1))) * (if b / 2 ^ n % 2 = 1 ∧ a / 2 ^ n % 2 = 1 then S.getD n 0 else 1) := by
      unfold gi
      rcases Nat.mod_two_eq_zero_or_one (b / 2 ^ n) with hb | hb
      · rw [hb]; simp [eps]
      · rw [hb]; simp
    rw [h]
    generalize eps (sgn a b n) = x1
    generalize shr S a b n = x2
    generalize eps (b / 2 ^ n % 2 * gr (a / 2 ^ (n + 1))) = x3
    ac_rfl
end Go.Proofs.YtijklpcelbnnjaaGreat
