/-
  Reversals and involutions of products: mathematics.
  Conditions: none.
  Even multivectors, and the sum of the parts of all grades: mathematics.
  Conditions: none.
  likeInts, zero5, hasInt: contracts.
  Conditions: the lists are nil or rows of known cells, of at most 1048576 numbers.
  PairOf and NormOf: contracts of the program and of the model.
  Conditions: the lists are nil or rows of known cells, of at most 1048576 numbers.
  NormOf: contracts of the program and of the model.
  Conditions: the lists are nil or rows of known cells, of at most 1048576 numbers.
  Lists of vectors of a space, in the program and in the model.
  Conditions: the lists are nil or rows of known cells, of at most 1048576 numbers.
  Sizes of matrices.
  No conditions.
  The model's GramOf: contract.
  Conditions: the lists are nil or rows of known cells, of at most 1048576 numbers.
  The program's Gram matrices: the walk.
  Conditions: the lists are nil or rows of known cells, of at most 1048576 numbers.
  The program's GramOf: contract.
  Conditions: the lists are nil or rows of known cells, of at most 1048576 numbers.
  Products of vectors: symmetric, linear, norms of sums. No Go in sight.
  No conditions.
  Geometric products of vectors: twice their product, squares are norms. No Go in sight.
  No conditions.
  BracketOf: contracts of the program and of the model.
  Conditions: the lists are nil or rows of known cells, of at most 1048576 numbers.
  size5, times5, vector5, plus5: contracts of the program and of the model.
  Conditions: the lists are nil or rows of known cells, of at most 1048576 numbers.
  Products of multivectors: they distribute, and their scalars don't depend on the order of two factors.
  Conditions: none.
  A number that lies in memory: what keeps it, what writes it, what reads it.
  No conditions.
-/
import Derived.Test.YthifnhekmenjaaaQc13
import Derived.Test.YthifnhekmenjaaaQc28
import Derived.Test.YthifnhekmenjaaaQc9
import Derived.Test.YthifnhekmenjaaaQc10
import Derived.Test.YthifnhekmenjaaaQc12
import Derived.Test.YthifnhekmenjaaaQc5
import Derived.Test.YthifnhekmenjaaaQc24
import Derived.Deep.RegionHeld3
import Derived.Deep.DeepCutAuto
import Derived.Test.YthifnhekmenjaaaQc25
import Derived.Test.YthifnhekmenjaaaQc18
import Derived.Test.YthifnhekmenjaaaQc1
namespace Go.Proofs.Ythifnhekmenjaaa
open Go.RowKit
set_option linter.unusedVariables false

theorem eps_add (a b : Nat) : eps (a + b) = eps a * eps b := by
  unfold eps
  rcases Nat.mod_two_eq_zero_or_one a with ha | ha <;> rcases Nat.mod_two_eq_zero_or_one b with hb | hb <;> simp [ha, hb, Nat.add_mod]
theorem eps_mod {a b : Nat} (h : a % 2 = b % 2) : eps a = eps b := by unfold eps; rw [h]
/-- How often basis vectors of the second blade pass later ones of the first. -/
def sgn (a b : Nat) : Nat → Nat
  | 0 => 0
  | n + 1 => sgn a b n + b / 2 ^ n % 2 * gr (a / 2 ^ (n + 1))
/-- The squares of the basis vectors that two blades share. -/
def shr (S : List Int) (a b : Nat) : Nat → Int
  | 0 => 1
  | n + 1 => shr S a b n * (if b / 2 ^ n % 2 = 1 ∧ a / 2 ^ n % 2 = 1 then S.getD n 0 else 1)
theorem shr_comm (S : List Int) (a b : Nat) : ∀ n, shr S a b n = shr S b a n
  | 0 => rfl
  | n + 1 => by
    simp only [shr]
    rw [shr_comm S a b n]
    congr 1
    by_cases h : b / 2 ^ n % 2 = 1 ∧ a / 2 ^ n % 2 = 1
    · rw [if_pos h, if_pos ⟨h.2, h.1⟩]
    · rw [if_neg h, if_neg (fun k => h ⟨k.2, k.1⟩)]
theorem fz_split (S : List Int) (a b : Nat) : ∀ n, fz S a b n = eps (sgn a b n) * shr S a b n
  | 0 => rfl
  | n + 1 => by
    simp only [fz, sgn, shr]
    rw [fz_split S a b n, eps_add]
    have h : gi S a b n = eps (b / 2 ^ n % 2 * gr (a / 2 ^ (n + 1))) * (if b / 2 ^ n % 2 = 1 ∧ a / 2 ^ n % 2 = 1 then S.getD n 0 else 1) := by
      unfold gi
      rcases Nat.mod_two_eq_zero_or_one (b / 2 ^ n) with hb | hb
      · rw [hb]; simp [eps]
      · rw [hb]; simp
    rw [h]
    generalize eps (sgn a b n) = x1
    generalize shr S a b n = x2
    generalize eps (b / 2 ^ n % 2 * gr (a / 2 ^ (n + 1))) = x3
    ac_rfl
def passes : Bool := (List.range 7).all fun n => (List.range (2 ^ n)).all fun a => (List.range (2 ^ n)).all fun b => (c_reversal (gr (a ^^^ b)) + sgn a b n) % 2 == (c_reversal (gr a) + c_reversal (gr b) + sgn b a n) % 2
set_option maxRecDepth 100000 in
theorem passes_all : passes = true := by decide +kernel
theorem passes_at {n a b : Nat} (hn : n ≤ 6) (ha : a < 2 ^ n) (hb : b < 2 ^ n) : (c_reversal (gr (a ^^^ b)) + sgn a b n) % 2 = (c_reversal (gr a) + c_reversal (gr b) + sgn b a n) % 2 := by
  have h := passes_all
  unfold passes at h
  rw [List.all_eq_true] at h
  have h1 := h n (List.mem_range.2 (by omega))
  rw [List.all_eq_true] at h1
  have h2 := h1 a (List.mem_range.2 ha)
  rw [List.all_eq_true] at h2
  have h3 := h2 b (List.mem_range.2 hb)
  simpa using h3
theorem fz_turn (S : List Int) {n a b : Nat} (hn : n ≤ 6) (ha : a < 2 ^ n) (hb : b < 2 ^ n) :
    eps (c_reversal (gr (a ^^^ b))) * fz S a b n = eps (c_reversal (gr a)) * eps (c_reversal (gr b)) * fz S b a n := by
  rw [fz_split, fz_split, shr_comm S a b n, ← Int.mul_assoc, ← Int.mul_assoc, ← eps_add, ← eps_add, ← eps_add, eps_mod (passes_at hn ha hb)]
/-- A multivector with the sign that a grade has. -/
theorem sgR_eq {p : Int} {c : Nat → Nat} {x : List Int} {j : Nat} (h : 0 ≤ x.getD j 0 ∧ x.getD j 0 < p) : sgF p c x j = eps (c (gr j)) * x.getD j 0 % p := by
  unfold sgF eps
  split
  · rw [Int.neg_one_mul, Int.sub_eq_add_neg, Int.add_comm, Int.add_emod_right]
  · rw [Int.one_mul, Int.emod_eq_of_lt h.1 h.2]
theorem sgM_at (p : Int) (c : Nat → Nat) (x : List Int) {j : Nat} (hj : j < x.length) : (mkR x.length (sgF p c x)).getD j 0 = sgF p c x j := mkR_at _ hj
theorem sgM_num {p : Int} (hp : 0 < p) {c : Nat → Nat} {x : List Int} (hn : ∀ j, j < x.length → 0 ≤ x.getD j 0 ∧ x.getD j 0 < p) : ∀ j, j < (mkR x.length (sgF p c x)).length → 0 ≤ (mkR x.length (sgF p c x)).getD j 0 ∧ (mkR x.length (sgF p c x)).getD j 0 < p := fun j hj => by
  rw [mkR_len] at hj
  rw [sgM_at _ _ _ hj, sgR_eq (hn j hj)]
  exact ⟨Int.emod_nonneg _ (by omega), Int.emod_lt_of_pos _ hp⟩
theorem sg_mod {p : Int} {c : Nat → Nat} {x : List Int} (hn : ∀ j, j < x.length → 0 ≤ x.getD j 0 ∧ x.getD j 0 < p) {j : Nat} (hj : j < x.length) : (mkR x.length (sgF p c x)).getD j 0 % p = (eps (c (gr j)) * x.getD j 0) % p := by
  rw [sgM_at _ _ _ hj, sgR_eq (hn j hj), Int.emod_emod]
end Go.Proofs.Ythifnhekmenjaaa

namespace Go.Proofs.Ythifnhekmenjaaa
open Go.RowKit
set_option linter.unusedVariables false

/-- A number is among them. -/
def hB (z : List Int) (v : Int) : Bool := (List.range z.length).any fun j => decide (z.getD j 0 = v)
end Go.Proofs.Ythifnhekmenjaaa

namespace Go.Proofs.Ythifnhekmenjaaa
open Go.RowKit
set_option linter.unusedVariables false

theorem vec_of {p : Int} {n : Nat} {z : List Int} (hl : z.length = n) (hn : ∀ j, j < z.length → 0 ≤ z.getD j 0 ∧ z.getD j 0 < p) : isVec p n z = true := by
  unfold isVec
  rw [hl, Bool.and_eq_true]
  refine ⟨by simp, ?_⟩
  rw [List.all_eq_true]
  intro y hy
  obtain ⟨j, hj, rfl⟩ := List.getElem_of_mem hy
  have h := hn j hj
  rw [getD_at hj] at h
  exact inr_iff.2 h
end Go.Proofs.Ythifnhekmenjaaa

namespace Go.Proofs.Ythifnhekmenjaaa
open Go.RowKit
set_option linter.unusedVariables false

set_option maxHeartbeats 800000 in
theorem size5_any (p : Int) (a : Option Addr) (S : List Int) (c : Nat) (w : World) (h : S.length ≤ 6) :
    Calls Try.prog 12 #[.agg #[.int .i64 p, .slice a S.length c]] w fun e w' => e = .returned (.int .i64 (bl S)) ∧ Below w.heap.size w w' := by
  have hb : S.length = 0 ∨ S.length = 1 ∨ S.length = 2 ∨ S.length = 3 ∨ S.length = 4 ∨ S.length = 5 ∨ S.length = 6 := by omega
  unfold bl
  obtain ⟨n, hn⟩ : ∃ n, n = S.length := ⟨_, rfl⟩
  rw [← hn] at hb ⊢
  clear hn h
  rcases hb with rfl | rfl | rfl | rfl | rfl | rfl | rfl <;>
  · go_enter Try.func12, Try.ntmps12
    go_wp2
    go_ret
    exact ⟨by first | rfl | simp, by ((repeat' (first | with_reducible exact Below.refl _ _ | (with_reducible refine Below.setCell ?_ ?_ _) | (with_reducible refine Below.alloc ?_ ?_ _) | (with_reducible refine Below.drew ?_))); all_goals (first | (simp; done) | omega | (simp; omega)))⟩

/-- A new list, to be read. -/
def NRow (R : List Int) (w : World) (e : Ending) (w' : World) : Prop := ∃ r c, e = .returned (.slice r R.length c) ∧ RowIn w.heap.size w'.heap.size w' r R ∧ Below w.heap.size w w'
set_option maxRecDepth 100000 in
set_option maxHeartbeats 1600000 in
theorem times5_any (pS : Int) (aS : Option Addr) (S : List Int) (cS loS tpS : Nat) (ax : Option Addr) (x : List Int) (cx lox tpx : Nat) (ay : Option Addr) (y : List Int) (cy loy tpy : Nat) (w : World) (hs : isSp pS S = true) (hS : RowIn loS tpS w aS S) (tS : tpS ≤ w.heap.size) (hx : RowIn lox tpx w ax x) (tx : tpx ≤ w.heap.size) (mx : isMv pS S x = true) (hy : RowIn loy tpy w ay y) (ty : tpy ≤ w.heap.size) (my : isMv pS S y = true) :
    Calls Try.prog 17 #[.agg #[.int .i64 pS, .slice aS S.length cS], .slice ax x.length cx, .slice ay y.length cy] w (NRow (prodM pS S x y) w) := by
  have hbl := bl_le (isSp_iff.1 hs).hi
  have sS : S.length ≤ 1048576 := by have := (isSp_iff.1 hs).hi; omega
  have sx : x.length ≤ 1048576 := by rw [Mv.len mx]; omega
  have sy : y.length ≤ 1048576 := by rw [Mv.len my]; omega
  have hc : codeMv pS S [x, y] = 0 := codeMv_ok hs (by rw [mv_all2, mx, my]; rfl)
  have HV : Hid (prodV pS S x y = prodM pS S x y) := by show _ = _; unfold prodV; rw [if_pos hc]
  have HC := Lib.hid hc
  have HS := Lib.hid hS
  have Hx := Lib.hid hx
  have Hy := Lib.hid hy
  clear hc hS hx hy
  go_enter Try.func17, Try.ntmps17
  go_wp2_with (first | (go_at_call 33; (with_reducible refine (impl_GeometricProduct pS aS S cS loS tpS ax x cx lox tpx ay y cy loy tpy _ (HS.out.below ((Below.refl _ _).alloc (Nat.le_refl _) (.cells #[.int .i64 pS, .slice aS S.length cS] 26)) tS) (Nat.le_trans tS (((Below.refl _ _).alloc (Nat.le_refl _) (.cells #[.int .i64 pS, .slice aS S.length cS] 26))).size) sS (Hx.out.below ((Below.refl _ _).alloc (Nat.le_refl _) (.cells #[.int .i64 pS, .slice aS S.length cS] 26)) tx) (Nat.le_trans tx (((Below.refl _ _).alloc (Nat.le_refl _) (.cells #[.int .i64 pS, .slice aS S.length cS] 26))).size) sx (Hy.out.below ((Below.refl _ _).alloc (Nat.le_refl _) (.cells #[.int .i64 pS, .slice aS S.length cS] 26)) ty) (Nat.le_trans ty (((Below.refl _ _).alloc (Nat.le_refl _) (.cells #[.int .i64 pS, .slice aS S.length cS] 26))).size) sy).mono ?_); rintro e w2 ⟨r2, c2, rfl, o2, b2⟩; rw [HV.out, HC.out]; have B2 := Lib.hid b2; have K2_0_0 := (b2.cell (p := ⟨w.heap.size, 0, none⟩) (Nat.lt_of_lt_of_le (show w.heap.size < (w.alloc (.cells #[.int .i64 pS, .slice aS S.length cS] 26)).heap.size by simp) (Nat.le_refl _))).trans (show (w.alloc (.cells #[.int .i64 pS, .slice aS S.length cS] 26)).cell? ⟨w.heap.size, 0, none⟩ = some (.int .i64 pS) by simp [go_sem]); have K2_0_1 := (b2.cell (p := ⟨w.heap.size, 1, none⟩) (Nat.lt_of_lt_of_le (show w.heap.size < (w.alloc (.cells #[.int .i64 pS, .slice aS S.length cS] 26)).heap.size by simp) (Nat.le_refl _))).trans (show (w.alloc (.cells #[.int .i64 pS, .slice aS S.length cS] 26)).cell? ⟨w.heap.size, 1, none⟩ = some (.slice aS S.length cS) by simp [go_sem]); rw [HV.out] at o2; have O2 := Lib.hid o2; clear o2; clear b2))
  go_ret
  exact ⟨_, _, rfl, O2.out.row.mono (show w.heap.size ≤ (w.alloc (.cells #[.int .i64 pS, .slice aS S.length cS] 26)).heap.size from (((Below.refl _ _).alloc (Nat.le_refl _) (.cells #[.int .i64 pS, .slice aS S.length cS] 26))).size) (Nat.le_refl _), (below_step ((Below.refl _ _).alloc (Nat.le_refl _) (.cells #[.int .i64 pS, .slice aS S.length cS] 26)) (show w.heap.size ≤ (w.alloc (.cells #[.int .i64 pS, .slice aS S.length cS] 26)).heap.size from (((Below.refl _ _).alloc (Nat.le_refl _) (.cells #[.int .i64 pS, .slice aS S.length cS] 26))).size) B2.out)⟩

set_option maxRecDepth 100000 in
set_option maxHeartbeats 1600000 in
theorem vector5_any (pS : Int) (aS : Option Addr) (S : List Int) (cS loS tpS : Nat) (ax : Option Addr) (x : List Int) (cx lox tpx : Nat) (w : World) (hs : isSp pS S = true) (hS : RowIn loS tpS w aS S) (tS : tpS ≤ w.heap.size) (hx : RowIn lox tpx w ax x) (tx : tpx ≤ w.heap.size) (vx : isVec pS S.length x = true) :
    Calls Try.prog 10 #[.agg #[.int .i64 pS, .slice aS S.length cS], .slice ax x.length cx] w (NRow (vecM S x) w) := by
  have hbl := bl_le (isSp_iff.1 hs).hi
  have sS : S.length ≤ 1048576 := by have := (isSp_iff.1 hs).hi; omega
  have sx : x.length ≤ 1048576 := by have := (isVec_iff.1 vx).len; have := (isSp_iff.1 hs).hi; omega
  have hc : codeVs pS S [x] = 0 := by unfold codeVs; rw [if_pos hs, if_pos (by simp [vx])]
  have HV : Hid (vecV pS S x = vecM S x) := by show _ = _; unfold vecV; rw [if_pos hc]
  have HC := Lib.hid hc
  have HS := Lib.hid hS
  have Hx := Lib.hid hx
  clear hc hS hx
  go_enter Try.func10, Try.ntmps10
  go_wp2_with (first | (go_at_call 24; (with_reducible refine (impl_VectorOf pS aS S cS loS tpS ax x cx lox tpx _ (HS.out.below ((Below.refl _ _).alloc (Nat.le_refl _) (.cells #[.int .i64 pS, .slice aS S.length cS] 26)) tS) (Nat.le_trans tS (((Below.refl _ _).alloc (Nat.le_refl _) (.cells #[.int .i64 pS, .slice aS S.length cS] 26))).size) sS (Hx.out.below ((Below.refl _ _).alloc (Nat.le_refl _) (.cells #[.int .i64 pS, .slice aS S.length cS] 26)) tx) (Nat.le_trans tx (((Below.refl _ _).alloc (Nat.le_refl _) (.cells #[.int .i64 pS, .slice aS S.length cS] 26))).size) sx).mono ?_); rintro e w2 ⟨r2, c2, rfl, o2, b2⟩; rw [HV.out, HC.out]; have B2 := Lib.hid b2; have K2_0_0 := (b2.cell (p := ⟨w.heap.size, 0, none⟩) (Nat.lt_of_lt_of_le (show w.heap.size < (w.alloc (.cells #[.int .i64 pS, .slice aS S.length cS] 26)).heap.size by simp) (Nat.le_refl _))).trans (show (w.alloc (.cells #[.int .i64 pS, .slice aS S.length cS] 26)).cell? ⟨w.heap.size, 0, none⟩ = some (.int .i64 pS) by simp [go_sem]); have K2_0_1 := (b2.cell (p := ⟨w.heap.size, 1, none⟩) (Nat.lt_of_lt_of_le (show w.heap.size < (w.alloc (.cells #[.int .i64 pS, .slice aS S.length cS] 26)).heap.size by simp) (Nat.le_refl _))).trans (show (w.alloc (.cells #[.int .i64 pS, .slice aS S.length cS] 26)).cell? ⟨w.heap.size, 1, none⟩ = some (.slice aS S.length cS) by simp [go_sem]); rw [HV.out] at o2; have O2 := Lib.hid o2; clear o2; clear b2))
  go_ret
  exact ⟨_, _, rfl, O2.out.row.mono (show w.heap.size ≤ (w.alloc (.cells #[.int .i64 pS, .slice aS S.length cS] 26)).heap.size from (((Below.refl _ _).alloc (Nat.le_refl _) (.cells #[.int .i64 pS, .slice aS S.length cS] 26))).size) (Nat.le_refl _), (below_step ((Below.refl _ _).alloc (Nat.le_refl _) (.cells #[.int .i64 pS, .slice aS S.length cS] 26)) (show w.heap.size ≤ (w.alloc (.cells #[.int .i64 pS, .slice aS S.length cS] 26)).heap.size from (((Below.refl _ _).alloc (Nat.le_refl _) (.cells #[.int .i64 pS, .slice aS S.length cS] 26))).size) B2.out)⟩

end Go.Proofs.Ythifnhekmenjaaa

namespace Go.Proofs.Ythifnhekmenjaaa
open Go.RowKit
set_option linter.unusedVariables false

theorem field_value (x y : Value) (w : World) : (Instr.field 75 (.agg #[x, y]) 1).run Try.prog w = .ok y w := by kernel_rfl

/-- A number lies in a block: its prime and its value. -/
structure NumAt (w : World) (b : Nat) (p v : Int) : Prop where
  c0 : w.cell? ⟨b, 0, none⟩ = some (.int .i64 p)
  c1 : w.cell? ⟨b, 1, none⟩ = some (.int .i64 v)
  f0 : w.frozen? ⟨b, 0, none⟩ = false
  f1 : w.frozen? ⟨b, 1, none⟩ = false
theorem NumAt.keep {w w1 : World} {b : Nat} {p v : Int} (h : NumAt w b p v) (hb : Below w.heap.size w w1) (lt : b < w.heap.size) : NumAt w1 b p v :=
  ⟨(hb.cell (p := ⟨b, 0, none⟩) lt).trans h.c0, (hb.cell (p := ⟨b, 1, none⟩) lt).trans h.c1, (hb.frozen (p := ⟨b, 0, none⟩) lt).trans h.f0, (hb.frozen (p := ⟨b, 1, none⟩) lt).trans h.f1⟩
theorem NumAt.alloc {w : World} {b : Nat} {p v : Int} (h : NumAt w b p v) (lt : b < w.heap.size) (o : Obj) : NumAt (w.alloc o) b p v :=
  h.keep ((Below.refl _ _).alloc (Nat.le_refl _) o) lt
theorem NumAt.drew {w : World} {b : Nat} {p v : Int} (h : NumAt w b p v) : NumAt w.drew b p v := ⟨h.c0, h.c1, h.f0, h.f1⟩
theorem NumAt.set {w : World} {b : Nat} {p v : Int} (h : NumAt w b p v) (q u : Int) : NumAt ((w.setCell ⟨b, 0, none⟩ (.int .i64 q)).setCell ⟨b, 1, none⟩ (.int .i64 u)) b q u :=
  ⟨by simp [go_sem, h.c0], by simp [go_sem, h.c1], by simp [go_sem, h.f0], by simp [go_sem, h.f1]⟩
theorem NumAt.far {w : World} {b c : Nat} {p v : Int} (h : NumAt w b p v) (hne : b ≠ c) (o : Nat) (x : Value) : NumAt (w.setCell ⟨c, o, none⟩ x) b p v :=
  ⟨(World.cell?_setCell_other _ _ _ _ (fun e => hne (by injection e with e1; exact e1.symm))).trans h.c0, (World.cell?_setCell_other _ _ _ _ (fun e => hne (by injection e with e1; exact e1.symm))).trans h.c1, by simp [go_sem, h.f0], by simp [go_sem, h.f1]⟩

end Go.Proofs.Ythifnhekmenjaaa
