/-
  IsEven: contracts of the program and of the model.
  Conditions: the lists are nil or rows of known cells, of at most 1048576 numbers.
  Pseudoscalars, their squares, scalar products: contracts of the program and of the model.
  Conditions: the lists are nil or rows of known cells, of at most 1048576 numbers.
-/
import Derived.Test.YtjakckkjkcgcjaaQv21
import Derived.Test.YtjakckkjkcgcjaaQv20
import Derived.Test.YtjakckkjkcgcjaaQv23
import Derived.ChangeKeysEq
import Derived.Laws.StructEq
import Derived.BigQuiet
import Derived.Deep.RegionHeld3
import Derived.Deep.DeepCutAuto
namespace Go.Proofs.Ytjakckkjkcgcjaa
open Go.RowKit
set_option linter.unusedVariables false

theorem prm_odd {p : Int} (h : prm p = true) : p % 2 = 1 := by
  unfold prm at h
  simp at h
  omega
theorem odd_self {p y : Int} (hp : p % 2 = 1) (h0 : 0 ≤ y) (h1 : y < p) : y = (p - y) % p ↔ y = 0 := by
  by_cases e : y = 0
  · subst e; simp
  · rw [Int.emod_eq_of_lt (by omega) (by omega)]
    omega
theorem even_same {p : Int} {x : List Int} (hp : p % 2 = 1) (nx : Nums p x) : decide (x = mkR x.length (sgF p c_involution x)) = isEv x := by
  apply bool_ext
  rw [decide_eq_true_eq, isEv_iff]
  constructor
  · intro h j hj hne
    have h2 : x.getD j 0 = sgF p c_involution x j := by
      have h3 : x.getD j 0 = (mkR x.length (sgF p c_involution x)).getD j 0 := by rw [← h]
      rw [mkR_at _ hj] at h3; exact h3
    unfold sgF c_involution at h2
    by_cases e : gr j % 2 = 1
    · rw [if_pos e] at h2
      exact absurd ((odd_self hp (nx j hj).1 (nx j hj).2).1 h2) hne
    · omega
  · intro h
    apply row_ext (by rw [mkR_len])
    intro j hj
    rw [mkR_at _ hj]
    unfold sgF c_involution
    by_cases e : gr j % 2 = 1
    · rw [if_pos e]
      have h0 : x.getD j 0 = 0 := by
        by_cases e2 : x.getD j 0 = 0
        · exact e2
        · have := h j hj e2; omega
      rw [h0]; simp
    · rw [if_neg e]
set_option maxRecDepth 100000 in
set_option maxHeartbeats 1600000 in
theorem l04Even_any (p : Int) (aS : Option Addr) (S : List Int) (cS : Nat) (ax : Option Addr) (x : List Int) (cx lox tpx : Nat) (w : World) (hp : prm p = true) (hx : RowIn lox tpx w ax x) (tx : tpx ≤ w.heap.size) (sx : x.length ≤ 64) (nx : Nums p x) :
    Calls Try.prog 78 #[.agg #[.int .i64 p, .slice aS S.length cS], .slice ax x.length cx] w (Ret1 (isEv x) w) := by
  have Hx := Lib.hid hx
  have HV := Lib.hid (even_same (prm_odd hp) nx)
  clear hx
  go_enter Try.func78, Try.ntmps78
  go_wp2_with (first | (go_at_call 87; (with_reducible refine (l04Involute_any p aS S cS ax x cx lox tpx _ hp (Hx.out.below ((Below.refl _ _).alloc (Nat.le_refl _) (.cells #[.int .i64 p, .slice aS S.length cS] 30)) tx) (Nat.le_trans tx (((Below.refl _ _).alloc (Nat.le_refl _) (.cells #[.int .i64 p, .slice aS S.length cS] 30))).size) sx nx).mono ?_); rintro e w2 ⟨r2, c2, rfl, o2, b2⟩; have B2 := Lib.hid b2; have K2_0_0 := (b2.cell (p := ⟨w.heap.size, 0, none⟩) (Nat.lt_of_lt_of_le (show w.heap.size < (w.alloc (.cells #[.int .i64 p, .slice aS S.length cS] 30)).heap.size by simp) (Nat.le_refl _))).trans (show (w.alloc (.cells #[.int .i64 p, .slice aS S.length cS] 30)).cell? ⟨w.heap.size, 0, none⟩ = some (.int .i64 p) by simp [go_sem]); have K2_0_1 := (b2.cell (p := ⟨w.heap.size, 1, none⟩) (Nat.lt_of_lt_of_le (show w.heap.size < (w.alloc (.cells #[.int .i64 p, .slice aS S.length cS] 30)).heap.size by simp) (Nat.le_refl _))).trans (show (w.alloc (.cells #[.int .i64 p, .slice aS S.length cS] 30)).cell? ⟨w.heap.size, 1, none⟩ = some (.slice aS S.length cS) by simp [go_sem]); have O2 := Lib.hid o2; clear o2; clear b2) | (go_at_call 102; (with_reducible refine (l01Same_any ax r2 x (mkR x.length (sgF p c_involution x)) cx c2 lox tpx (w.alloc (.cells #[.int .i64 p, .slice aS S.length cS] 30)).heap.size w2.heap.size _ (Hx.out.below (below_step ((Below.refl _ _).alloc (Nat.le_refl _) (.cells #[.int .i64 p, .slice aS S.length cS] 30)) (show w.heap.size ≤ (w.alloc (.cells #[.int .i64 p, .slice aS S.length cS] 30)).heap.size from (((Below.refl _ _).alloc (Nat.le_refl _) (.cells #[.int .i64 p, .slice aS S.length cS] 30))).size) B2.out) tx) O2.out (by omega)).mono ?_); rintro e w9 ⟨rfl, q9⟩; have Q9 := Lib.hid q9; clear q9))
  go_ret
  exact ⟨by rw [← HV.out]; rfl, ((below_step ((Below.refl _ _).alloc (Nat.le_refl _) (.cells #[.int .i64 p, .slice aS S.length cS] 30)) (show w.heap.size ≤ (w.alloc (.cells #[.int .i64 p, .slice aS S.length cS] 30)).heap.size from (((Below.refl _ _).alloc (Nat.le_refl _) (.cells #[.int .i64 p, .slice aS S.length cS] 30))).size) B2.out)).trans (Q9.out.below _)⟩
end Go.Proofs.Ytjakckkjkcgcjaa

namespace Go.Proofs.Ytjakckkjkcgcjaa
open Go.RowKit
set_option linter.unusedVariables false

theorem ss2s {w : World} {b i j : Nat} {u v : Value} {g : Nat} {u0 u1 : Value} (l : g ≠ b) (h0 : w.cell? ⟨g, 0, none⟩ = some u0 ∧ w.cell? ⟨g, 1, none⟩ = some u1) : ((w.setCell ⟨b, i, none⟩ u).setCell ⟨b, j, none⟩ v).cell? ⟨g, 0, none⟩ = some u0 ∧ ((w.setCell ⟨b, i, none⟩ u).setCell ⟨b, j, none⟩ v).cell? ⟨g, 1, none⟩ = some u1 := by
  have e : ∀ (W : World) (i k : Nat) (v : Value), (W.setCell ⟨b, i, none⟩ v).cell? ⟨g, k, none⟩ = W.cell? ⟨g, k, none⟩ := fun W i k v => World.cell?_setCell_other W ⟨b, i, none⟩ ⟨g, k, none⟩ v (fun h => by injection h with h1; omega)
  rw [e, e, e, e]; exact h0

end Go.Proofs.Ytjakckkjkcgcjaa
