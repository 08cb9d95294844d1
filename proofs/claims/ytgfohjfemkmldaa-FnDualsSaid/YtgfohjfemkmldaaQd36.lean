/-
  Pseudoscalars, their squares, duals, meets: numbers. No Go in sight.
  No conditions.
-/
import Derived.Test.YtgfohjfemkmldaaQd34
import Derived.Test.YtgfohjfemkmldaaQd22
import Derived.Test.YtgfohjfemkmldaaQd35
namespace Go.Proofs.Ytgfohjfemkmldaa
open Go.RowKit
set_option linter.unusedVariables false

def topF (S : List Int) (k : Int) : Nat → Int := fun j => if j = bl S - 1 then k else 0
/-- A number times the pseudoscalar. -/
def topM (S : List Int) (k : Int) : List Int := mkR (bl S) (topF S k)
theorem topM_len (S : List Int) (k : Int) : (topM S k).length = bl S := mkR_len _ _
theorem topM_at (S : List Int) (k : Int) {j : Nat} (h : j < bl S) : (topM S k).getD j 0 = topF S k j := mkR_at _ h
theorem top_mv {p : Int} {S : List Int} (hs : isSp p S = true) {k : Int} (h0 : 0 ≤ k) (h1 : k < p) : isMv p S (topM S k) = true :=
  isMv_of (topM_len S k) fun j hj => by
    have hp := prm_bd (isSp_iff.1 hs).prime
    rw [topM_len] at hj
    rw [topM_at S k hj]
    unfold topF
    split <;> omega
/-- The square of the pseudoscalar. -/
def sqT (p : Int) (S : List Int) : Int := fm p S (bl S - 1) (bl S - 1) S.length
theorem sqT_bd {p : Int} {S : List Int} (hs : isSp p S = true) : 0 ≤ sqT p S ∧ sqT p S < p := fm_bd (by have := prm_bd (isSp_iff.1 hs).prime; omega) _ _ _ _
theorem top_last (S : List Int) : bl S - 1 < bl S := by have := bl_pos S; omega
theorem sq_prod {p : Int} {S : List Int} (hs : isSp p S = true) : prodF p S (topM S 1) (topM S 1) 0 = sqT p S := by
  have hp := prm_bd (isSp_iff.1 hs).prime
  rw [← tm_sum]
  have h : ∀ a, a < bl S → tm p S (topM S 1) (topM S 1) 0 a = if a = bl S - 1 then sqT p S else 0 := fun a ha => by
    unfold tm
    rw [Nat.xor_zero, topM_at S 1 ha]
    unfold topF
    by_cases e : a = bl S - 1
    · subst e; rw [if_pos rfl, if_pos rfl, Int.one_mul, Int.mul_one]; rfl
    · rw [if_neg e, if_neg e, Int.mul_zero]
  rw [sm_congr h, sm_single, if_pos (top_last S)]
  exact Int.emod_eq_of_lt (sqT_bd hs).1 (sqT_bd hs).2
theorem whole_bit {n i : Nat} (h : i < n) : (2 ^ n - 1) / 2 ^ i % 2 = 1 := by
  rw [← Nat.toNat_testBit, Nat.testBit_two_pow_sub_one, decide_eq_true h]; rfl
theorem sq_zero {p a : Int} (hp : prm p = true) (h0 : 0 ≤ a) (h1 : a < p) (h : a * a % p = 0) : a = 0 := by
  have k := every_at (Q := fun p a => !(decide (a * a % p = 0)) || decide (a = 0)) (by decide +kernel) hp h0 h1
  simpa [h] using k
theorem sq_pos {p : Int} {S : List Int} (hs : isSp p S = true) (hd : discN p S ≠ 0) : 1 ≤ sqT p S := by
  have hp := (isSp_iff.1 hs).prime
  have hpb := prm_bd hp
  have hb := sqT_bd hs
  have hdb := discN_bd hp S
  by_cases h0 : sqT p S = 0
  · exfalso
    apply hd
    have key : ∀ k, k ≤ S.length → fz S (bl S - 1) (bl S - 1) k * fz S (bl S - 1) (bl S - 1) k % p = disN p S k * disN p S k % p := fun k => by
      induction k with
      | zero => intro _; rfl
      | succ k ih =>
        intro h
        have hb : (bl S - 1) / 2 ^ k % 2 = 1 := whole_bit (n := S.length) (by omega)
        have e := eps_sq (gr ((bl S - 1) / 2 ^ (k + 1)))
        show fz S (bl S - 1) (bl S - 1) k * gi S (bl S - 1) (bl S - 1) k * (fz S (bl S - 1) (bl S - 1) k * gi S (bl S - 1) (bl S - 1) k) % p = (disN p S k * S.getD k 0 % p) * (disN p S k * S.getD k 0 % p) % p
        rw [em_l, em_r]
        unfold gi
        rw [if_pos hb, if_pos hb]
        generalize eps (gr ((bl S - 1) / 2 ^ (k + 1))) = u at e
        generalize hf : fz S (bl S - 1) (bl S - 1) k = f at *
        generalize S.getD k 0 = s
        have e1 : f * (u * s) * (f * (u * s)) = f * f * (s * s) := by
          calc f * (u * s) * (f * (u * s)) = f * f * (u * u) * (s * s) := by ac_rfl
            _ = f * f * (s * s) := by rw [e, Int.mul_one]
        have e2 : disN p S k * s * (disN p S k * s) = disN p S k * disN p S k * (s * s) := by ac_rfl
        rw [e1, e2, ← em_l, ih (by omega), em_l]
    have h2 : sqT p S * sqT p S % p = discN p S * discN p S % p := by
      unfold sqT fm
      rw [em_l, em_r]
      exact key S.length (Nat.le_refl _)
    rw [h0, Int.mul_zero, Int.zero_emod] at h2
    exact sq_zero hp hdb.1 hdb.2 h2.symm
  · omega
def invT (p : Int) (S : List Int) : Int := inv p (sqT p S)
theorem invT_bd {p : Int} {S : List Int} (hs : isSp p S = true) : 0 ≤ invT p S ∧ invT p S < p := inv_bd (isSp_iff.1 hs).prime _
def dualM (p : Int) (S x : List Int) : List Int := lcM p S x (topM S (invT p S))
def undM (p : Int) (S x : List Int) : List Int := lcM p S x (topM S 1)
def meetM (p : Int) (S x y : List Int) : List Int := undM p S (wgM p S (dualM p S x) (dualM p S y))
theorem dual_mv {p : Int} {S : List Int} (hs : isSp p S = true) (x : List Int) : isMv p S (dualM p S x) = true := kind_mv hs _ _ _
theorem und_mv {p : Int} {S : List Int} (hs : isSp p S = true) (x : List Int) : isMv p S (undM p S x) = true := kind_mv hs _ _ _
theorem wg_mv {p : Int} {S : List Int} (hs : isSp p S = true) (x y : List Int) : isMv p S (wgM p S x y) = true := kind_mv hs _ _ _
theorem meet_mv {p : Int} {S : List Int} (hs : isSp p S = true) (x y : List Int) : isMv p S (meetM p S x y) = true := und_mv hs _
theorem ss2w {b o n : Nat} {w w' : World} (h : Wrote b o n w w') {g : Nat} {u0 u1 : Value} (l : g ≠ b) (h0 : w.cell? ⟨g, 0, none⟩ = some u0 ∧ w.cell? ⟨g, 1, none⟩ = some u1) : w'.cell? ⟨g, 0, none⟩ = some u0 ∧ w'.cell? ⟨g, 1, none⟩ = some u1 :=
  ⟨(World.cell?_of_block (w := w) (a := ⟨g, 0, none⟩) (h.block g l)).trans h0.1, (World.cell?_of_block (w := w) (a := ⟨g, 1, none⟩) (h.block g l)).trans h0.2⟩

end Go.Proofs.Ytgfohjfemkmldaa
