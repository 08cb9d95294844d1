/-
  How many vectors have each norm, place by place. No Go in sight.
  No conditions.
-/
import Derived.Test.YtihanbfbgiiakaaMk
namespace Go.Proofs.Ytihanbfbgiiakaa
set_option linter.unusedVariables false

def ixN (P : Nat) (s : Int) (c x : Nat) : Nat := (((c : Int) + (x : Int) * (x : Int) * s) % (P : Int)).toNat
def cntT (P : Nat) (s : Int) (f : Nat → Int) (k c x : Nat) : Int := if ixN P s c x = k then f c else 0
def stA (P : Nat) (s : Int) (f : Nat → Int) (c x k : Nat) : Int := sm c (fun c' => sm P (fun x' => cntT P s f k c' x')) + sm x (fun x' => cntT P s f k c x')
def stB (P : Nat) (s : Int) (f : Nat → Int) (c x k : Nat) : Int := sm x (fun x' => sm P (fun c' => cntT P s f k c' x')) + sm c (fun c' => cntT P s f k c' x)
def cntN (P : Nat) (S : List Int) : Nat → Nat → Int
  | 0 => fun k => if 0 = k then 1 else 0
  | i + 1 => fun k => stA P (S.getD i 0) (cntN P S i) P 0 k
theorem stA_row (P : Nat) (s : Int) (f : Nat → Int) (c k : Nat) : stA P s f c P k = stA P s f (c + 1) 0 k := by simp [stA, sm]
theorem stB_row (P : Nat) (s : Int) (f : Nat → Int) (x k : Nat) : stB P s f P x k = stB P s f 0 (x + 1) k := by simp [stB, sm]
theorem stB_end (P : Nat) (s : Int) (f : Nat → Int) (k : Nat) : stB P s f 0 P k = stA P s f P 0 k := by
  unfold stA stB
  rw [sm_swap]
  rfl
theorem stA_next (P : Nat) (s : Int) (f : Nat → Int) (c x j : Nat) : stA P s f c (x + 1) j = if j = ixN P s c x then stA P s f c x (ixN P s c x) + f c else stA P s f c x j := by
  have e : stA P s f c (x + 1) j = stA P s f c x j + cntT P s f j c x := by unfold stA; simp only [sm]; omega
  rw [e]
  unfold cntT
  by_cases h : j = ixN P s c x
  · subst h; rw [if_pos rfl, if_pos rfl]
  · rw [if_neg h, if_neg (fun q => h q.symm), Int.add_zero]
theorem stB_next (P : Nat) (s : Int) (f : Nat → Int) (c x j : Nat) : stB P s f (c + 1) x j = if j = ixN P s c x then stB P s f c x (ixN P s c x) + f c else stB P s f c x j := by
  have e : stB P s f (c + 1) x j = stB P s f c x j + cntT P s f j c x := by unfold stB; simp only [sm]; omega
  rw [e]
  unfold cntT
  by_cases h : j = ixN P s c x
  · subst h; rw [if_pos rfl, if_pos rfl]
  · rw [if_neg h, if_neg (fun q => h q.symm), Int.add_zero]
theorem times13 {b : Int} {n : Nat} (hn : n ≤ 13) (hb : 0 ≤ b) : (n : Int) * b ≤ 13 * b := Int.mul_le_mul_of_nonneg_right (by omega) hb
theorem st_bd {P : Nat} {s b : Int} {f : Nat → Int} (hP : P ≤ 13) (hf : ∀ c, 0 ≤ f c ∧ f c ≤ b) {c x : Nat} (hc : c ≤ 13) (hx : x ≤ 13) (k : Nat) : (0 ≤ stA P s f c x k ∧ stA P s f c x k ≤ 200 * b) ∧ 0 ≤ stB P s f c x k ∧ stB P s f c x k ≤ 200 * b := by
  have hb : 0 ≤ b := Int.le_trans (hf 0).1 (hf 0).2
  have t : ∀ c x, 0 ≤ cntT P s f k c x ∧ cntT P s f k c x ≤ b := fun c x => by unfold cntT; split; exact hf c; exact ⟨Int.le_refl _, hb⟩
  have u1 : ∀ c, 0 ≤ sm P (fun x' => cntT P s f k c x') ∧ sm P (fun x' => cntT P s f k c x') ≤ 13 * b := fun c => by
    have h := sm_bd (n := P) (f := fun x' => cntT P s f k c x') (b := b) (fun j _ => t c j)
    have := times13 hP hb
    exact ⟨h.1, Int.le_trans h.2 this⟩
  have u2 : ∀ x, 0 ≤ sm P (fun c' => cntT P s f k c' x) ∧ sm P (fun c' => cntT P s f k c' x) ≤ 13 * b := fun x => by
    have h := sm_bd (n := P) (f := fun c' => cntT P s f k c' x) (b := b) (fun j _ => t j x)
    have := times13 hP hb
    exact ⟨h.1, Int.le_trans h.2 this⟩
  have a1 := sm_bd (n := c) (f := fun c' => sm P (fun x' => cntT P s f k c' x')) (b := 13 * b) (fun j _ => u1 j)
  have a2 := sm_bd (n := x) (f := fun x' => cntT P s f k c x') (b := b) (fun j _ => t c j)
  have a3 := sm_bd (n := x) (f := fun x' => sm P (fun c' => cntT P s f k c' x')) (b := 13 * b) (fun j _ => u2 j)
  have a4 := sm_bd (n := c) (f := fun c' => cntT P s f k c' x) (b := b) (fun j _ => t j x)
  have b1 := times13 hc (b := 13 * b) (by omega)
  have b2 := times13 hx hb
  have b3 := times13 hx (b := 13 * b) (by omega)
  have b4 := times13 hc hb
  unfold stA stB
  omega
def bnd : Nat → Int
  | 0 => 1
  | i + 1 => 200 * bnd i
theorem cntN_bd {P : Nat} (hP : P ≤ 13) (S : List Int) (i : Nat) : ∀ k, 0 ≤ cntN P S i k ∧ cntN P S i k ≤ bnd i := by
  induction i with
  | zero => intro k; show 0 ≤ (if 0 = k then (1 : Int) else 0) ∧ (if 0 = k then (1 : Int) else 0) ≤ 1; split <;> omega
  | succ i ih => exact fun k => (st_bd hP ih hP (Nat.zero_le _) k).1
theorem bnd_le {i : Nat} (h : i ≤ 6) : 0 ≤ bnd i ∧ bnd i ≤ 64000000000000 := by
  have : i = 0 ∨ i = 1 ∨ i = 2 ∨ i = 3 ∨ i = 4 ∨ i = 5 ∨ i = 6 := by omega
  rcases this with rfl | rfl | rfl | rfl | rfl | rfl | rfl <;> decide
theorem bnd5 {i : Nat} (h : i ≤ 5) : 200 * bnd i ≤ 64000000000000 := (bnd_le (i := i + 1) (by omega)).2
theorem ixN_lt {P : Nat} (hP : 0 < P) (s : Int) (c x : Nat) : ixN P s c x < P := by
  unfold ixN
  have h0 := Int.emod_nonneg ((c : Int) + (x : Int) * (x : Int) * s) (by omega : (P : Int) ≠ 0)
  have h1 := Int.emod_lt_of_pos ((c : Int) + (x : Int) * (x : Int) * s) (by omega : 0 < (P : Int))
  omega
theorem ixN_cast {P : Nat} (hP : 0 < P) (s : Int) (c x : Nat) : ((ixN P s c x : Nat) : Int) = ((c : Int) + (x : Int) * (x : Int) * s) % (P : Int) := by
  unfold ixN
  have h0 := Int.emod_nonneg ((c : Int) + (x : Int) * (x : Int) * s) (by omega : (P : Int) ≠ 0)
  omega
theorem ixN_mod (P : Nat) (s : Int) (c x : Nat) : ((c : Int) + (x : Int) * (x : Int) % (P : Int) * s) % (P : Int) = ((c : Int) + (x : Int) * (x : Int) * s) % (P : Int) := by
  rw [Int.add_emod, Int.mul_emod ((x : Int) * (x : Int) % (P : Int)), Int.emod_emod, ← Int.mul_emod, ← Int.add_emod]

end Go.Proofs.Ytihanbfbgiiakaa
