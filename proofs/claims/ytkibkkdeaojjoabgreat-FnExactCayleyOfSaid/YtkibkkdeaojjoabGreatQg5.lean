/-
  What a law knows of the lists and matrices that it is handed.
  No conditions: what can be read as data.
  The words in which the exact laws of matrices are walked: what a function of the program or of the model hands back, and the laws' marks of lists.
  No conditions.
  Reduced rows modulo a prime: what vanishes on them, and that this tells them wholly. No Go in sight.
  No conditions.
-/
import Derived.Test.YtkibkkdeaojjoabGreatQg4
import Derived.OpenShut
import Derived.Deep.Matrix
import Derived.Test.YtkibkkdeaojjoabGreatQg3
namespace Go.Proofs.YtkibkkdeaojjoabGreat
open Go.RowKit Go.ChangeShapes Go.WideShapes
set_option linter.unusedVariables false

def IsMat (w : World) (a : Option Addr) (len : Nat) : Prop :=
  ∃ m : List (List Int), m.length = len ∧ MatIn 0 w.heap.size w a m ∧ len ≤ 9223372036854775807 ∧ ∀ i, i < m.length → (rw' m i).length ≤ 9223372036854775807
def IsLst (w : World) (a : Option Addr) (len : Nat) : Prop :=
  ∃ z : List Int, z.length = len ∧ RowIn 0 w.heap.size w a z ∧ len ≤ 9223372036854775807

theorem row_of {w : World} {x : Addr} {len : Nat} {zs : List Int} (hl : len ≤ zs.length) (h : ∀ i, i < zs.length → w.cell? (x.add i) = some (.int .i64 (zs.getD i 0))) : RowIn 0 w.heap.size w (some x) (zs.take len) := by
  by_cases h0 : len = 0
  · exact .inl (by rw [h0]; rfl)
  · obtain ⟨b, o, rfl, hc⟩ := ints_at h (by omega)
    have hlt : b < w.heap.size := World.block_lt_of_cell? w ⟨b, o + 0, none⟩ (hc 0 (by omega))
    refine .inr ⟨b, o, rfl, Nat.zero_le _, hlt, fun i hi => ?_⟩
    rw [List.length_take] at hi
    rw [hc i (by omega)]
    simp only [List.getD_eq_getElem?_getD, List.getElem?_take]
    rw [if_pos (by omega)]
theorem isLst_nil (w : World) : IsLst w none 0 := ⟨[], rfl, .inl rfl, by omega⟩
theorem isLst_of {w : World} {x : Addr} {len cap : Nat} {zs : List Int} (h1 : len ≤ cap) (h2 : cap ≤ maxLen) (h3 : zs.length = cap) (h : ∀ i, i < zs.length → w.cell? (x.add i) = some (.int .i64 (zs.getD i 0))) : IsLst w (some x) len := by
  unfold maxLen at h2
  exact ⟨zs.take len, by simp; omega, row_of (by omega) h, by omega⟩
theorem isMat_nil (w : World) : IsMat w none 0 := ⟨[], rfl, .inl rfl, by omega, fun i hi => by simp at hi⟩
theorem slice_at {w : World} {x : Addr} {v : Nat → Value} {n : Nat} (hn : 0 < n) (h : ∀ r, r < n → w.cell? (x.add r) = some (v r)) : ∃ b o, x = ⟨b, o, none⟩ ∧ ∀ r, r < n → w.cell? ⟨b, o + r, none⟩ = some (v r) := by
  obtain ⟨b, off, spot⟩ := x
  have hspot : spot = none := by simpa [Addr.add] using World.cell?_spot (h 0 hn)
  subst hspot
  exact ⟨b, off, rfl, fun j hj => by rw [← Go.WideShapes.add_plain]; exact h j hj⟩
theorem isMat_of {w : World} {x : Addr} {len cap : Nat} {A : Nat → Option Addr} {L C : Nat → Nat} {Z : Nat → List Int} (hl : len ≤ cap) (hm : cap ≤ maxLen)
    (h : ∀ r, r < cap → w.cell? (x.add r) = some (.slice (A r) (L r) (C r)) ∧ L r ≤ C r ∧ C r ≤ maxLen ∧ (Z r).length = C r ∧ (∀ n ∈ Z r, (Lit.int .i64 n).wf = true) ∧ (A r = none → C r = 0) ∧
        ∀ a', A r = some a' → 0 ≤ a'.block ∧ ∀ c, c < C r → w.cell? (a'.add c) = some (.int .i64 ((Z r).getD c 0))) : IsMat w (some x) len := by
  unfold maxLen at hm
  refine ⟨(List.range len).map fun r => (Z r).take (L r), by simp, ?_, by omega, fun i hi => ?_⟩
  · by_cases h0 : len = 0
    · subst h0; exact .inl rfl
    · obtain ⟨b, o, rfl, hc⟩ := slice_at (n := cap) (v := fun r => .slice (A r) (L r) (C r)) (by omega) (fun r hr => (h r hr).1)
      have hlt : b < w.heap.size := World.block_lt_of_cell? w ⟨b, o + 0, none⟩ (hc 0 (by omega))
      refine .inr ⟨b, o, rfl, Nat.zero_le _, hlt, fun i hi => ?_⟩
      simp only [List.length_map, List.length_range] at hi
      obtain ⟨_, r1, r2, r3, _, r5, r6⟩ := h i (by omega)
      have e : rw' ((List.range len).map fun r => (Z r).take (L r)) i = (Z i).take (L i) := by simp [rw', List.getD, hi]
      rw [e]
      have e2 : ((Z i).take (L i)).length = L i := by simp; omega
      rw [e2]
      refine ⟨A i, C i, hc i (by omega), ?_⟩
      cases hA : A i with
      | none =>
        have := r5 hA
        have h0 : L i = 0 := by omega
        exact .inl (by rw [h0]; rfl)
      | some a' => exact row_of (by omega) (fun c hc' => (r6 a' hA).2 c (by omega))
  · simp only [List.length_map, List.length_range] at hi
    obtain ⟨_, r1, r2, r3, _⟩ := h i (by omega)
    unfold maxLen at r2
    have e : rw' ((List.range len).map fun r => (Z r).take (L r)) i = (Z i).take (L i) := by simp [rw', List.getD, hi]
    rw [e]; simp; omega

end Go.Proofs.YtkibkkdeaojjoabGreat

namespace Go.Proofs.YtkibkkdeaojjoabGreat
open Go.RowKit
set_option linter.unusedVariables false

/-- The model hands back a matrix and a code. -/
def SpecM (R : List (List Int)) (C : Int) (w : World) (e : Ending) (w' : World) : Prop :=
  ∃ r c, e = .returned (.tuple #[.slice r R.length c, .int .i64 C]) ∧ MatIn w.heap.size w'.heap.size w' r R ∧ Below w.heap.size w w'
/-- The program hands back a matrix of its own and a code. -/
def ImplM (R : List (List Int)) (C : Int) (w : World) (e : Ending) (w' : World) : Prop :=
  ∃ r c, e = .returned (.tuple #[.slice r R.length c, .int .i64 C]) ∧ OwnM w.heap.size w'.heap.size w' r R ∧ Below w.heap.size w w'
def SpecR (R : List Int) (C : Int) (w : World) (e : Ending) (w' : World) : Prop :=
  ∃ r c, e = .returned (.tuple #[.slice r R.length c, .int .i64 C]) ∧ RowIn w.heap.size w'.heap.size w' r R ∧ Below w.heap.size w w'
def ImplR (R : List Int) (C : Int) (w : World) (e : Ending) (w' : World) : Prop :=
  ∃ r c, e = .returned (.tuple #[.slice r R.length c, .int .i64 C]) ∧ OwnR w.heap.size w'.heap.size w' r R ∧ Below w.heap.size w w'
def markedR (k : Int) (z : List Int) : List Int := mkR z.length fun j => k + j
theorem markedR_len (k : Int) (z : List Int) : (markedR k z).length = z.length := mkR_len _ _

theorem markOwnR (a : Option Addr) (z : List Int) (cap lo tp : Nat) (k : Int) (w : World) (hz : OwnR lo tp w a z) (hl : z.length ≤ 1048576) (k0 : 0 ≤ k) (k1 : k ≤ 10000000) :
    Calls Tryz.prog 14 #[.slice a z.length cap, .int .i64 k] w fun e w' => e = .returned (.int .i64 (k + z.length)) ∧ OwnR lo tp w' a (markedR k z) ∧ Off lo tp w w' := by
  rcases hz with h0 | ⟨b, o, rfl, h0, h1, hc⟩
  · subst h0
    refine (markRow_nil a cap k w).mono ?_
    rintro e w' ⟨rfl, rfl⟩
    exact ⟨ret_int (by simp), .inl rfl, Off.refl _ _ _⟩
  · refine (markRow b o z.length cap k w (fun j hj => ⟨_, (hc j hj).1⟩) (fun j hj => (hc j hj).2) hl k0 (by omega)).mono ?_
    rintro e w' ⟨rfl, hw, hd⟩
    refine ⟨rfl, .inr ⟨b, o, rfl, h0, h1, fun j hj => ?_⟩, hw.off h0 h1⟩
    rw [markedR_len] at hj
    exact ⟨by rw [hd j hj]; unfold markedR; rw [mkR_at _ hj], (hw.frozenAll _ _).trans (hc j hj).2⟩

theorem markOwnM (a : Option Addr) (m : List (List Int)) (cap lo tp n : Nat) (k : Int) (w : World) (hm : OwnM lo tp w a m) (hn : n = tot m m.length) (hl : m.length + tot m m.length ≤ 1048576) (k0 : 0 ≤ k) (k1 : k ≤ 10000000) :
    Calls Tryz.prog 15 #[.slice a m.length cap, .int .i64 k] w fun e w' => e = .returned (.int .i64 (k + n)) ∧ OwnM lo tp w' a (marked k m) ∧ Off lo tp w w' := by
  subst hn; exact markMat a m cap lo tp k w hm hl k0 k1

theorem szMat_n (a : Option Addr) (m : List (List Int)) (cap lo tp n : Nat) (left : Int) (w : World) (hm : MatIn lo tp w a m) (hn : n = m.length + tot m m.length) (h : (n : Int) ≤ left) (k : left ≤ 1048576) :
    Calls Tryz.prog 17 #[.slice a m.length cap, .int .i64 left] w fun e w' => e = .returned (.int .i64 (left - n)) ∧ w = w' := by
  subst hn; exact szMat_yes a m cap lo tp left w hm h k
theorem szMat_x (a : Option Addr) (m : List (List Int)) (cap lo tp n : Nat) (left : Int) (w : World) (hm : MatIn lo tp w a m) (hn : n = m.length + tot m m.length) (h : left < (n : Int)) (h0 : 0 ≤ left) (k : left ≤ 1048576) (hn' : m.length ≤ 9223372036854775807) (hr : ∀ i, i < m.length → (rw' m i).length ≤ 9223372036854775807) :
    Calls Tryz.prog 17 #[.slice a m.length cap, .int .i64 left] w fun e w' => e = .returned (.int .i64 (-1)) ∧ w = w' := by
  subst hn; exact szMat_no a m cap lo tp left w hm h h0 k hn' hr
theorem heldMat_n (a : Option Addr) (m : List (List Int)) (cap lo tp n : Nat) (w : World) (hm : MatIn lo tp w a (marked 1 m)) (hn : n = tot m m.length) (hl : m.length + tot m m.length ≤ 1048576) :
    Calls Tryz.prog 16 #[.slice a m.length cap, .int .i64 1] w fun e w' => e = .returned (.int .i64 (1 + n)) ∧ Quiet w w' := by
  subst hn; exact heldMat a m cap lo tp 1 w hm hl (by omega) (by omega)
theorem quiet_z {w w' : World} (h : Quiet w w') : w.heap.size ≤ w'.heap.size := Nat.le_of_eq h.size.symm
theorem off_z {lo tp : Nat} {w w' : World} (h : Off lo tp w w') : w.heap.size ≤ w'.heap.size := Nat.le_of_eq h.size.symm

end Go.Proofs.YtkibkkdeaojjoabGreat

namespace Go.Proofs.YtkibkkdeaojjoabGreat
set_option linter.unusedVariables false

/-- All n rows with c numbers vanish at x. -/
def nul (p : Int) (n c : Nat) (R : Nat → Nat → Int) (x : Nat → Int) : Prop := ∀ i, i < n → sm c (fun j => R i j * x j) % p = 0

/-- Reduced rows, with their pivots. -/
structure Rref (p : Int) (n c : Nat) (R : Nat → Nat → Int) (P : Nat → Nat) : Prop where
  pv : ∀ i, i < n → P i < c
  mono : ∀ i i', i < i' → i' < n → P i < P i'
  one : ∀ i, i < n → R i (P i) = 1
  zer : ∀ i, i < n → ∀ i', i' < n → i ≠ i' → R i' (P i) = 0
  fst : ∀ i, i < n → ∀ j, j < P i → R i j = 0
  rng : ∀ i, i < n → ∀ j, j < c → 0 ≤ R i j ∧ R i j < p

/-- The vector that belongs to column k. -/
def kv (n : Nat) (R : Nat → Nat → Int) (P : Nat → Nat) (k j : Nat) : Int := (if j = k then 1 else 0) + sm n (fun i => if j = P i then - R i k else 0)

theorem sm_neg (n : Nat) (f : Nat → Int) : sm n (fun j => - f j) = - sm n f := by
  induction n with
  | zero => rfl
  | succ n ih => simp only [sm]; rw [ih]; omega
theorem ite_mul' (q : Prop) [Decidable q] (a x : Int) : a * (if q then x else 0) = if q then a * x else 0 := by split <;> simp

/-- A row of any rows times that vector. -/
theorem kv_row {p : Int} {n c : Nat} {R : Nat → Nat → Int} {P : Nat → Nat} (h : Rref p n c R P) (S : Nat → Int) {k : Nat} (hk : k < c) :
    sm c (fun j => S j * kv n R P k j) = S k - sm n (fun i => R i k * S (P i)) := by
  have e1 : sm c (fun j => S j * kv n R P k j) = sm c (fun j => (if j = k then S k else 0) + sm n (fun i => if j = P i then - (R i k * S (P i)) else 0)) := by
    apply sm_congr
    intro j hj
    unfold kv
    rw [Int.mul_add, ite_mul', Int.mul_one, ← sm_mul]
    congr 1
    · by_cases e : j = k
      · subst e; simp
      · simp [e]
    · apply sm_congr
      intro i hi
      rw [ite_mul']
      by_cases e : j = P i
      · subst e; simp only [if_pos]; rw [Int.mul_neg, Int.mul_comm]
      · simp [e]
  rw [e1, sm_add, sm_single, if_pos hk, sm_swap]
  have e2 : sm n (fun i => sm c (fun j => if j = P i then - (R i k * S (P i)) else 0)) = sm n (fun i => - (R i k * S (P i))) := by
    apply sm_congr
    intro i hi
    rw [sm_single, if_pos (h.pv i hi)]
  rw [e2, sm_neg]
  omega

theorem Rref.pick {p : Int} {n c : Nat} {R : Nat → Nat → Int} {P : Nat → Nat} (h : Rref p n c R P) {i : Nat} (hi : i < n) (f : Nat → Int) : sm n (fun i' => f i' * R i (P i')) = f i := by
  have e : sm n (fun i' => f i' * R i (P i')) = sm n (fun i' => if i' = i then f i else 0) := by
    apply sm_congr
    intro i' hi'
    by_cases e : i' = i
    · subst e; rw [h.one i' hi', if_pos rfl, Int.mul_one]
    · rw [h.zer i' hi' i hi e, if_neg e, Int.mul_zero]
  rw [e, sm_single, if_pos hi]

theorem kv_nul {p : Int} {n c : Nat} {R : Nat → Nat → Int} {P : Nat → Nat} (h : Rref p n c R P) {k : Nat} (hk : k < c) : nul p n c R (kv n R P k) := by
  intro i hi
  rw [kv_row h (R i) hk, h.pick hi (fun i' => R i' k)]
  simp

theorem kv_top {p : Int} {n c : Nat} {R : Nat → Nat → Int} {P : Nat → Nat} (h : Rref p n c R P) {k : Nat} (hnp : ∀ i, i < n → P i ≠ k) : kv n R P k k = 1 := by
  unfold kv
  have e : sm n (fun i => if k = P i then - R i k else 0) = sm n (fun _ => 0) := by
    apply sm_congr; intro i hi; rw [if_neg (fun e => hnp i hi e.symm)]
  rw [e, sm_zero]; simp
theorem kv_over {p : Int} {n c : Nat} {R : Nat → Nat → Int} {P : Nat → Nat} (h : Rref p n c R P) {k j : Nat} (hkj : k < j) : kv n R P k j = 0 := by
  unfold kv
  have e : sm n (fun i => if j = P i then - R i k else 0) = sm n (fun _ => 0) := by
    apply sm_congr; intro i hi
    by_cases e : j = P i
    · rw [if_pos e, h.fst i hi k (by omega)]; rfl
    · rw [if_neg e]
  rw [e, sm_zero, if_neg (by omega)]; rfl

/-- A column is a pivot exactly if nothing that vanishes ends there with 1. -/
theorem Rref.pivot {p : Int} {n c : Nat} {R : Nat → Nat → Int} {P : Nat → Nat} (h : Rref p n c R P) (hp : 1 < p) {k : Nat} (hk : k < c) :
    (∃ i, i < n ∧ P i = k) ↔ ¬ ∃ x : Nat → Int, nul p n c R x ∧ x k = 1 ∧ ∀ j, k < j → x j = 0 := by
  constructor
  · rintro ⟨i, hi, rfl⟩ ⟨x, hx, h1, h2⟩
    have e : sm c (fun j => R i j * x j) = sm c (fun j => if j = P i then 1 else 0) := by
      apply sm_congr
      intro j hj
      rcases Nat.lt_trichotomy j (P i) with l | l | l
      · rw [h.fst i hi j l, if_neg (by omega)]; simp
      · subst l; rw [h.one i hi, h1, if_pos rfl]; rfl
      · rw [h2 j l, if_neg (by omega)]; simp
    have := hx i hi
    rw [e, sm_single, if_pos hk, Int.emod_eq_of_lt (by omega) hp] at this
    omega
  · intro hno
    rcases Classical.em (∃ i, i < n ∧ P i = k) with h1 | h1
    · exact h1
    · exact absurd ⟨kv n R P k, kv_nul h hk, kv_top h (fun i hi e => h1 ⟨i, hi, e⟩), fun j hj => kv_over h hj⟩ hno

theorem enum_eq {n n' : Nat} {P P' : Nat → Nat} (m : ∀ i i', i < i' → i' < n → P i < P i') (m' : ∀ i i', i < i' → i' < n' → P' i < P' i')
    (h : ∀ i, i < n → ∃ k, k < n' ∧ P' k = P i) (h' : ∀ i, i < n' → ∃ k, k < n ∧ P k = P' i) : ∀ i, i < n → i < n' ∧ P i = P' i := by
  intro i
  induction i using Nat.strongRecOn with
  | ind i ih =>
    intro hi
    obtain ⟨k, hk, e⟩ := h i hi
    rcases Nat.lt_trichotomy k i with l | l | l
    · have := ih k l (by omega)
      have := m k i l hi
      omega
    · subst l; exact ⟨hk, e.symm⟩
    · obtain ⟨q, hq, e2⟩ := h' i (by omega)
      have l1 := m' i k l hk
      have l2 : q < i := by
        rcases Nat.lt_trichotomy q i with r | r | r
        · exact r
        · subst r; omega
        · have := m i q r hq; omega
      have l3 := ih q l2 (by omega)
      have l4 := m' q i l2 (by omega)
      omega

/-- Reduced rows are told by what vanishes on them. -/
theorem Rref.unique {p : Int} {n n' c : Nat} {R R' : Nat → Nat → Int} {P P' : Nat → Nat} (hp : 1 < p) (h : Rref p n c R P) (h' : Rref p n' c R' P') (hn : ∀ x, nul p n c R x ↔ nul p n' c R' x) :
    n = n' ∧ (∀ i, i < n → P i = P' i) ∧ ∀ i, i < n → ∀ j, j < c → R i j = R' i j := by
  have piv : ∀ k, k < c → ((∃ i, i < n ∧ P i = k) ↔ ∃ i, i < n' ∧ P' i = k) := by
    intro k hk
    rw [h.pivot hp hk, h'.pivot hp hk]
    constructor
    · intro g ⟨x, hx, r⟩; exact g ⟨x, (hn x).2 hx, r⟩
    · intro g ⟨x, hx, r⟩; exact g ⟨x, (hn x).1 hx, r⟩
  have a := enum_eq h.mono h'.mono (fun i hi => by obtain ⟨k, hk, e⟩ := (piv (P i) (h.pv i hi)).1 ⟨i, hi, rfl⟩; exact ⟨k, hk, e⟩) (fun i hi => by obtain ⟨k, hk, e⟩ := (piv (P' i) (h'.pv i hi)).2 ⟨i, hi, rfl⟩; exact ⟨k, hk, e⟩)
  have b := enum_eq h'.mono h.mono (fun i hi => by obtain ⟨k, hk, e⟩ := (piv (P' i) (h'.pv i hi)).2 ⟨i, hi, rfl⟩; exact ⟨k, hk, e⟩) (fun i hi => by obtain ⟨k, hk, e⟩ := (piv (P i) (h.pv i hi)).1 ⟨i, hi, rfl⟩; exact ⟨k, hk, e⟩)
  have hnn : n = n' := by
    rcases Nat.lt_trichotomy n n' with l | l | l
    · have := (b n l).1; omega
    · exact l
    · have := (a n' l).1; omega
  subst hnn
  refine ⟨rfl, fun i hi => (a i hi).2, fun i hi k hk => ?_⟩
  have hz := (hn _).1 (kv_nul h hk) i hi
  rw [kv_row h (R' i) hk] at hz
  have e : sm n (fun i' => R i' k * R' i (P i')) = sm n (fun i' => R i' k * R' i (P' i')) := by
    apply sm_congr; intro i' hi'; rw [(a i' hi').2]
  rw [e, h'.pick hi (fun i' => R i' k)] at hz
  have r1 := h.rng i hi k hk
  have r2 := h'.rng i hi k hk
  have := Int.emod_emod_of_dvd (R' i k) (Int.dvd_refl p)
  have h3 : R' i k % p = R i k % p := Int.emod_eq_emod_iff_emod_sub_eq_zero.2 hz
  rw [Int.emod_eq_of_lt r1.1 r1.2, Int.emod_eq_of_lt r2.1 r2.2] at h3
  exact h3.symm

end Go.Proofs.YtkibkkdeaojjoabGreat
