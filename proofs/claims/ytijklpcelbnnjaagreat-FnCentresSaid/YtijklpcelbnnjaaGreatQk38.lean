/-
  size5, times5, vector5, plus5: contracts of the program and of the model.
  Conditions: the lists are nil or rows of known cells, of at most 1048576 numbers.
  Products of multivectors: they distribute, and their scalars don't depend on the order of two factors.
  Conditions: none.
  The model's product of the kind 0: contract.
  Conditions: a space and multivectors of it: rows of known cells with numbers of the prime.
  The model's product of the kind 1: contract.
  Conditions: a space and multivectors of it: rows of known cells with numbers of the prime.
  The model's product of the kind 2: contract.
  Conditions: a space and multivectors of it: rows of known cells with numbers of the prime.
  The program's product of the kind 0: contract.
  Conditions: a space and multivectors of it: rows of known cells with numbers of the prime.
  The program's product of the kind 1: contract.
  Conditions: a space and multivectors of it: rows of known cells with numbers of the prime.
  The program's product of the kind 2: contract.
  Conditions: a space and multivectors of it: rows of known cells with numbers of the prime.
  WedgeProduct, LeftContraction, RightContraction: contracts of the program and of the model.
  Conditions: the lists are nil or rows of known cells, of at most 1048576 numbers.
  Pseudoscalars, their squares, duals, meets: numbers. No Go in sight.
  No conditions.
-/
import Derived.Test.YtijklpcelbnnjaaGreatQk37
import Derived.Test.YtijklpcelbnnjaaGreatQk33
import Derived.Test.YtijklpcelbnnjaaGreatQk7
import Derived.Test.YtijklpcelbnnjaaGreatQk15
import Derived.Test.YtijklpcelbnnjaaGreatQk10
import Derived.Test.YtijklpcelbnnjaaGreatQk20
import Derived.Deep.DeepCutAuto
import Derived.Deep.RegionHeld3
import Derived.Test.YtijklpcelbnnjaaGreatQk14
import Derived.Test.YtijklpcelbnnjaaGreatQk30
import Derived.Test.YtijklpcelbnnjaaGreatQk17
namespace Go.Proofs.YtijklpcelbnnjaaGreat
open Go.RowKit
set_option linter.unusedVariables false

set_option maxHeartbeats 800000 in
theorem size5_any (p : Int) (a : Option Addr) (S : List Int) (c : Nat) (w : World) (h : S.length ≤ 6) :
    Calls Tryz.prog 11 #[.agg #[.int .i64 p, .slice a S.length c]] w fun e w' => e = .returned (.int .i64 (bl S)) ∧ Below w.heap.size w w' := by
  have hb : S.length = 0 ∨ S.length = 1 ∨ S.length = 2 ∨ S.length = 3 ∨ S.length = 4 ∨ S.length = 5 ∨ S.length = 6 := by omega
  unfold bl
  obtain ⟨n, hn⟩ : ∃ n, n = S.length := ⟨_, rfl⟩
  rw [← hn] at hb ⊢
  clear hn h
  rcases hb with rfl | rfl | rfl | rfl | rfl | rfl | rfl <;>
  · go_enter Tryz.func11, Tryz.ntmps11
    go_wp2
    go_ret
    exact ⟨by first | rfl | simp, by ((repeat' (first | with_reducible exact Below.refl _ _ | (with_reducible refine Below.setCell ?_ ?_ _) | (with_reducible refine Below.alloc ?_ ?_ _) | (with_reducible refine Below.drew ?_))); all_goals (first | (simp; done) | omega | (simp; omega)))⟩

/-- A new list, to be read. -/
def NRow (R : List Int) (w : World) (e : Ending) (w' : World) : Prop := ∃ r c, e = .returned (.slice r R.length c) ∧ RowIn w.heap.size w'.heap.size w' r R ∧ Below w.heap.size w w'
set_option maxRecDepth 100000 in
set_option maxHeartbeats 1600000 in
theorem times5_any (pS : Int) (aS : Option Addr) (S : List Int) (cS loS tpS : Nat) (ax : Option Addr) (x : List Int) (cx lox tpx : Nat) (ay : Option Addr) (y : List Int) (cy loy tpy : Nat) (w : World) (hs : isSp pS S = true) (hS : RowIn loS tpS w aS S) (tS : tpS ≤ w.heap.size) (hx : RowIn lox tpx w ax x) (tx : tpx ≤ w.heap.size) (mx : isMv pS S x = true) (hy : RowIn loy tpy w ay y) (ty : tpy ≤ w.heap.size) (my : isMv pS S y = true) :
    Calls Tryz.prog 14 #[.agg #[.int .i64 pS, .slice aS S.length cS], .slice ax x.length cx, .slice ay y.length cy] w (NRow (prodM pS S x y) w) := by
  have hbl := bl_le (isSp_iff.1 hs).hi
  have sS : S.length ≤ 1048576 := by have := (isSp_iff.1 hs).hi; omega
  have sx : x.length ≤ 1048576 := by rw [Mv.len mx]; omega
  have sy : y.length ≤ 1048576 := by rw [Mv.len my]; omega
  have hc : codeMv pS S [x, y] = 0 := codeMv_ok hs (by rw [mv_all2, mx, my]; rfl)
  have HV : Hid (prodV pS S x y = prodM pS S x y) := by show _ = _; unfold prodV; rw [if_pos hc]
  have HC := Lib.hid hc
  have HS := Lib.hid hS
  have Hx := Lib.hid hx
  have Hy := Lib.hid hy
  clear hc hS hx hy
  go_enter Tryz.func14, Tryz.ntmps14
  go_wp2_with (first | (go_at_call 30; (with_reducible refine (impl_GeometricProduct pS aS S cS loS tpS ax x cx lox tpx ay y cy loy tpy _ (HS.out.below ((Below.refl _ _).alloc (Nat.le_refl _) (.cells #[.int .i64 pS, .slice aS S.length cS] 26)) tS) (Nat.le_trans tS (((Below.refl _ _).alloc (Nat.le_refl _) (.cells #[.int .i64 pS, .slice aS S.length cS] 26))).size) sS (Hx.out.below ((Below.refl _ _).alloc (Nat.le_refl _) (.cells #[.int .i64 pS, .slice aS S.length cS] 26)) tx) (Nat.le_trans tx (((Below.refl _ _).alloc (Nat.le_refl _) (.cells #[.int .i64 pS, .slice aS S.length cS] 26))).size) sx (Hy.out.below ((Below.refl _ _).alloc (Nat.le_refl _) (.cells #[.int .i64 pS, .slice aS S.length cS] 26)) ty) (Nat.le_trans ty (((Below.refl _ _).alloc (Nat.le_refl _) (.cells #[.int .i64 pS, .slice aS S.length cS] 26))).size) sy).mono ?_); rintro e w2 ⟨r2, c2, rfl, o2, b2⟩; rw [HV.out, HC.out]; have B2 := Lib.hid b2; have K2_0_0 := (b2.cell (p := ⟨w.heap.size, 0, none⟩) (Nat.lt_of_lt_of_le (show w.heap.size < (w.alloc (.cells #[.int .i64 pS, .slice aS S.length cS] 26)).heap.size by simp) (Nat.le_refl _))).trans (show (w.alloc (.cells #[.int .i64 pS, .slice aS S.length cS] 26)).cell? ⟨w.heap.size, 0, none⟩ = some (.int .i64 pS) by simp [go_sem]); have K2_0_1 := (b2.cell (p := ⟨w.heap.size, 1, none⟩) (Nat.lt_of_lt_of_le (show w.heap.size < (w.alloc (.cells #[.int .i64 pS, .slice aS S.length cS] 26)).heap.size by simp) (Nat.le_refl _))).trans (show (w.alloc (.cells #[.int .i64 pS, .slice aS S.length cS] 26)).cell? ⟨w.heap.size, 1, none⟩ = some (.slice aS S.length cS) by simp [go_sem]); rw [HV.out] at o2; have O2 := Lib.hid o2; clear o2; clear b2))
  go_ret
  exact ⟨_, _, rfl, O2.out.row.mono (show w.heap.size ≤ (w.alloc (.cells #[.int .i64 pS, .slice aS S.length cS] 26)).heap.size from (((Below.refl _ _).alloc (Nat.le_refl _) (.cells #[.int .i64 pS, .slice aS S.length cS] 26))).size) (Nat.le_refl _), (below_step ((Below.refl _ _).alloc (Nat.le_refl _) (.cells #[.int .i64 pS, .slice aS S.length cS] 26)) (show w.heap.size ≤ (w.alloc (.cells #[.int .i64 pS, .slice aS S.length cS] 26)).heap.size from (((Below.refl _ _).alloc (Nat.le_refl _) (.cells #[.int .i64 pS, .slice aS S.length cS] 26))).size) B2.out)⟩

end Go.Proofs.YtijklpcelbnnjaaGreat

namespace Go.Proofs.YtijklpcelbnnjaaGreat
open Go.RowKit
set_option linter.unusedVariables false

def topF (S : List Int) (k : Int) : Nat → Int := fun j => if j = bl S - 1 then k else 0
/-- A number times the pseudoscalar. -/
def topM (S : List Int) (k : Int) : List Int := mkR (bl S) (topF S k)
theorem topM_len (S : List Int) (k : Int) : (topM S k).length = bl S := mkR_len _ _
theorem topM_at (S : List Int) (k : Int) {j : Nat} (h : j < bl S) : (topM S k).getD j 0 = topF S k j := mkR_at _ h
theorem top_mv {p : Int} {S : List Int} (hs : isSp p S = true) {k : Int} (h0 : 0 ≤ k) (h1 : k < p) : isMv p S (topM S k) = true :=
  isMv_of (topM_len S k) fun j hj => by
    have hp := prm_bd (isSp_iff.1 hs).prime
    rw [topM_len] at hj
    rw [topM_at S k hj]
    unfold topF
    split <;> omega
/-- The square of the pseudoscalar. -/
def sqT (p : Int) (S : List Int) : Int := fm p S (bl S - 1) (bl S - 1) S.length
theorem sqT_bd {p : Int} {S : List Int} (hs : isSp p S = true) : 0 ≤ sqT p S ∧ sqT p S < p := fm_bd (by have := prm_bd (isSp_iff.1 hs).prime; omega) _ _ _ _
theorem top_last (S : List Int) : bl S - 1 < bl S := by have := bl_pos S; omega
theorem sq_prod {p : Int} {S : List Int} (hs : isSp p S = true) : prodF p S (topM S 1) (topM S 1) 0 = sqT p S := by
  have hp := prm_bd (isSp_iff.1 hs).prime
  rw [← tm_sum]
  have h : ∀ a, a < bl S → tm p S (topM S 1) (topM S 1) 0 a = if a = bl S - 1 then sqT p S else 0 := fun a ha => by
    unfold tm
    rw [Nat.xor_zero, topM_at S 1 ha]
    unfold topF
    by_cases e : a = bl S - 1
    · subst e; rw [if_pos rfl, if_pos rfl, Int.one_mul, Int.mul_one]; rfl
    · rw [if_neg e, if_neg e, Int.mul_zero]
  rw [sm_congr h, sm_single, if_pos (top_last S)]
  exact Int.emod_eq_of_lt (sqT_bd hs).1 (sqT_bd hs).2
end Go.Proofs.YtijklpcelbnnjaaGreat
