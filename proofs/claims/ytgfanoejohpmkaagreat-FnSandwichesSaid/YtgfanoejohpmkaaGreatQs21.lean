/-
  BracketOf: contracts of the program and of the model.
  Conditions: the lists are nil or rows of known cells, of at most 1048576 numbers.
  size5, times5, vector5, plus5: contracts of the program and of the model.
  Conditions: the lists are nil or rows of known cells, of at most 1048576 numbers.
  PowerOf: contracts of the program and of the model.
  Conditions: the lists are nil or rows of known cells, of at most 1048576 numbers.
  Products of multivectors: they distribute, and their scalars don't depend on the order of two factors.
  Conditions: none.
  A number that lies in memory: what keeps it, what writes it, what reads it.
  No conditions.
  What square roots of numbers are, in the program and in the model: contracts of the method root and of the model's helper.
  Conditions: the prime is one, the number is a remainder by it.
  What IsSquare and SquareRoot return, in the program and in the model, and the walks of their laws.
  No conditions but that the arguments are whole numbers of 64 bits.
  Products of a kind: wedge product, left and right contraction: sums. No Go in sight.
  No conditions.
  The model's product of the kind 0: contract.
  Conditions: a space and multivectors of it: rows of known cells with numbers of the prime.
  The model's product of the kind 1: contract.
  Conditions: a space and multivectors of it: rows of known cells with numbers of the prime.
  The model's product of the kind 2: contract.
  Conditions: a space and multivectors of it: rows of known cells with numbers of the prime.
  The program's products of a kind: sums; the table of the kinds: contracts.
  No conditions but masks below 64.
  The program's product of the kind 0: contract.
  Conditions: a space and multivectors of it: rows of known cells with numbers of the prime.
  The program's product of the kind 1: contract.
  Conditions: a space and multivectors of it: rows of known cells with numbers of the prime.
  The program's product of the kind 2: contract.
  Conditions: a space and multivectors of it: rows of known cells with numbers of the prime.
  WedgeProduct, LeftContraction, RightContraction: contracts of the program and of the model.
  Conditions: the lists are nil or rows of known cells, of at most 1048576 numbers.
-/
import Derived.Test.YtgfanoejohpmkaaGreatQs20
import Derived.Deep.RegionHeld3
import Derived.Deep.DeepCutAuto
import Derived.Test.YtgfanoejohpmkaaGreatQs14
import Derived.Test.YtgfanoejohpmkaaGreatQs7
import Derived.Test.YtgfanoejohpmkaaGreatQs15
import Derived.Test.YtgfanoejohpmkaaGreatQs1
import Derived.Test.YtgfanoejohpmkaaGreatQs6
import Derived.RegionTactic
import Derived.Laws.StructEq
import Derived.Outline
import Derived.Test.YtgfanoejohpmkaaGreatQs19
import Derived.Test.YtgfanoejohpmkaaGreatQs18
import Derived.Laws.EntriesVeiled
namespace Go.Proofs.YtgfanoejohpmkaaGreat
open Go.RowKit
set_option linter.unusedVariables false

set_option maxHeartbeats 800000 in
theorem size5_any (p : Int) (a : Option Addr) (S : List Int) (c : Nat) (w : World) (h : S.length ≤ 6) :
    Calls Tryz.prog 26 #[.agg #[.int .i64 p, .slice a S.length c]] w fun e w' => e = .returned (.int .i64 (bl S)) ∧ Below w.heap.size w w' := by
  have hb : S.length = 0 ∨ S.length = 1 ∨ S.length = 2 ∨ S.length = 3 ∨ S.length = 4 ∨ S.length = 5 ∨ S.length = 6 := by omega
  unfold bl
  obtain ⟨n, hn⟩ : ∃ n, n = S.length := ⟨_, rfl⟩
  rw [← hn] at hb ⊢
  clear hn h
  rcases hb with rfl | rfl | rfl | rfl | rfl | rfl | rfl <;>
  · go_enter Tryz.func26, Tryz.ntmps26
    go_wp2
    go_ret
    exact ⟨by first | rfl | simp, by ((repeat' (first | with_reducible exact Below.refl _ _ | (with_reducible refine Below.setCell ?_ ?_ _) | (with_reducible refine Below.alloc ?_ ?_ _) | (with_reducible refine Below.drew ?_))); all_goals (first | (simp; done) | omega | (simp; omega)))⟩

/-- A new list, to be read. -/
def NRow (R : List Int) (w : World) (e : Ending) (w' : World) : Prop := ∃ r c, e = .returned (.slice r R.length c) ∧ RowIn w.heap.size w'.heap.size w' r R ∧ Below w.heap.size w w'
set_option maxRecDepth 100000 in
set_option maxHeartbeats 1600000 in
theorem times5_any (pS : Int) (aS : Option Addr) (S : List Int) (cS loS tpS : Nat) (ax : Option Addr) (x : List Int) (cx lox tpx : Nat) (ay : Option Addr) (y : List Int) (cy loy tpy : Nat) (w : World) (hs : isSp pS S = true) (hS : RowIn loS tpS w aS S) (tS : tpS ≤ w.heap.size) (hx : RowIn lox tpx w ax x) (tx : tpx ≤ w.heap.size) (mx : isMv pS S x = true) (hy : RowIn loy tpy w ay y) (ty : tpy ≤ w.heap.size) (my : isMv pS S y = true) :
    Calls Tryz.prog 27 #[.agg #[.int .i64 pS, .slice aS S.length cS], .slice ax x.length cx, .slice ay y.length cy] w (NRow (prodM pS S x y) w) := by
  have hbl := bl_le (isSp_iff.1 hs).hi
  have sS : S.length ≤ 1048576 := by have := (isSp_iff.1 hs).hi; omega
  have sx : x.length ≤ 1048576 := by rw [Mv.len mx]; omega
  have sy : y.length ≤ 1048576 := by rw [Mv.len my]; omega
  have hc : codeMv pS S [x, y] = 0 := codeMv_ok hs (by rw [mv_all2, mx, my]; rfl)
  have HV : Hid (prodV pS S x y = prodM pS S x y) := by show _ = _; unfold prodV; rw [if_pos hc]
  have HC := Lib.hid hc
  have HS := Lib.hid hS
  have Hx := Lib.hid hx
  have Hy := Lib.hid hy
  clear hc hS hx hy
  go_enter Tryz.func27, Tryz.ntmps27
  go_wp2_with (first | (go_at_call 107; (with_reducible refine (impl_GeometricProduct pS aS S cS loS tpS ax x cx lox tpx ay y cy loy tpy _ (HS.out.below ((Below.refl _ _).alloc (Nat.le_refl _) (.cells #[.int .i64 pS, .slice aS S.length cS] 26)) tS) (Nat.le_trans tS (((Below.refl _ _).alloc (Nat.le_refl _) (.cells #[.int .i64 pS, .slice aS S.length cS] 26))).size) sS (Hx.out.below ((Below.refl _ _).alloc (Nat.le_refl _) (.cells #[.int .i64 pS, .slice aS S.length cS] 26)) tx) (Nat.le_trans tx (((Below.refl _ _).alloc (Nat.le_refl _) (.cells #[.int .i64 pS, .slice aS S.length cS] 26))).size) sx (Hy.out.below ((Below.refl _ _).alloc (Nat.le_refl _) (.cells #[.int .i64 pS, .slice aS S.length cS] 26)) ty) (Nat.le_trans ty (((Below.refl _ _).alloc (Nat.le_refl _) (.cells #[.int .i64 pS, .slice aS S.length cS] 26))).size) sy).mono ?_); rintro e w2 ⟨r2, c2, rfl, o2, b2⟩; rw [HV.out, HC.out]; have B2 := Lib.hid b2; have K2_0_0 := (b2.cell (p := ⟨w.heap.size, 0, none⟩) (Nat.lt_of_lt_of_le (show w.heap.size < (w.alloc (.cells #[.int .i64 pS, .slice aS S.length cS] 26)).heap.size by simp) (Nat.le_refl _))).trans (show (w.alloc (.cells #[.int .i64 pS, .slice aS S.length cS] 26)).cell? ⟨w.heap.size, 0, none⟩ = some (.int .i64 pS) by simp [go_sem]); have K2_0_1 := (b2.cell (p := ⟨w.heap.size, 1, none⟩) (Nat.lt_of_lt_of_le (show w.heap.size < (w.alloc (.cells #[.int .i64 pS, .slice aS S.length cS] 26)).heap.size by simp) (Nat.le_refl _))).trans (show (w.alloc (.cells #[.int .i64 pS, .slice aS S.length cS] 26)).cell? ⟨w.heap.size, 1, none⟩ = some (.slice aS S.length cS) by simp [go_sem]); rw [HV.out] at o2; have O2 := Lib.hid o2; clear o2; clear b2))
  go_ret
  exact ⟨_, _, rfl, O2.out.row.mono (show w.heap.size ≤ (w.alloc (.cells #[.int .i64 pS, .slice aS S.length cS] 26)).heap.size from (((Below.refl _ _).alloc (Nat.le_refl _) (.cells #[.int .i64 pS, .slice aS S.length cS] 26))).size) (Nat.le_refl _), (below_step ((Below.refl _ _).alloc (Nat.le_refl _) (.cells #[.int .i64 pS, .slice aS S.length cS] 26)) (show w.heap.size ≤ (w.alloc (.cells #[.int .i64 pS, .slice aS S.length cS] 26)).heap.size from (((Below.refl _ _).alloc (Nat.le_refl _) (.cells #[.int .i64 pS, .slice aS S.length cS] 26))).size) B2.out)⟩

set_option maxRecDepth 100000 in
set_option maxHeartbeats 1600000 in
theorem vector5_any (pS : Int) (aS : Option Addr) (S : List Int) (cS loS tpS : Nat) (ax : Option Addr) (x : List Int) (cx lox tpx : Nat) (w : World) (hs : isSp pS S = true) (hS : RowIn loS tpS w aS S) (tS : tpS ≤ w.heap.size) (hx : RowIn lox tpx w ax x) (tx : tpx ≤ w.heap.size) (vx : isVec pS S.length x = true) :
    Calls Tryz.prog 32 #[.agg #[.int .i64 pS, .slice aS S.length cS], .slice ax x.length cx] w (NRow (vecM S x) w) := by
  have hbl := bl_le (isSp_iff.1 hs).hi
  have sS : S.length ≤ 1048576 := by have := (isSp_iff.1 hs).hi; omega
  have sx : x.length ≤ 1048576 := by have := (isVec_iff.1 vx).len; have := (isSp_iff.1 hs).hi; omega
  have hc : codeVs pS S [x] = 0 := by unfold codeVs; rw [if_pos hs, if_pos (by simp [vx])]
  have HV : Hid (vecV pS S x = vecM S x) := by show _ = _; unfold vecV; rw [if_pos hc]
  have HC := Lib.hid hc
  have HS := Lib.hid hS
  have Hx := Lib.hid hx
  clear hc hS hx
  go_enter Tryz.func32, Tryz.ntmps32
  go_wp2_with (first | (go_at_call 120; (with_reducible refine (impl_VectorOf pS aS S cS loS tpS ax x cx lox tpx _ (HS.out.below ((Below.refl _ _).alloc (Nat.le_refl _) (.cells #[.int .i64 pS, .slice aS S.length cS] 26)) tS) (Nat.le_trans tS (((Below.refl _ _).alloc (Nat.le_refl _) (.cells #[.int .i64 pS, .slice aS S.length cS] 26))).size) sS (Hx.out.below ((Below.refl _ _).alloc (Nat.le_refl _) (.cells #[.int .i64 pS, .slice aS S.length cS] 26)) tx) (Nat.le_trans tx (((Below.refl _ _).alloc (Nat.le_refl _) (.cells #[.int .i64 pS, .slice aS S.length cS] 26))).size) sx).mono ?_); rintro e w2 ⟨r2, c2, rfl, o2, b2⟩; rw [HV.out, HC.out]; have B2 := Lib.hid b2; have K2_0_0 := (b2.cell (p := ⟨w.heap.size, 0, none⟩) (Nat.lt_of_lt_of_le (show w.heap.size < (w.alloc (.cells #[.int .i64 pS, .slice aS S.length cS] 26)).heap.size by simp) (Nat.le_refl _))).trans (show (w.alloc (.cells #[.int .i64 pS, .slice aS S.length cS] 26)).cell? ⟨w.heap.size, 0, none⟩ = some (.int .i64 pS) by simp [go_sem]); have K2_0_1 := (b2.cell (p := ⟨w.heap.size, 1, none⟩) (Nat.lt_of_lt_of_le (show w.heap.size < (w.alloc (.cells #[.int .i64 pS, .slice aS S.length cS] 26)).heap.size by simp) (Nat.le_refl _))).trans (show (w.alloc (.cells #[.int .i64 pS, .slice aS S.length cS] 26)).cell? ⟨w.heap.size, 1, none⟩ = some (.slice aS S.length cS) by simp [go_sem]); rw [HV.out] at o2; have O2 := Lib.hid o2; clear o2; clear b2))
  go_ret
  exact ⟨_, _, rfl, O2.out.row.mono (show w.heap.size ≤ (w.alloc (.cells #[.int .i64 pS, .slice aS S.length cS] 26)).heap.size from (((Below.refl _ _).alloc (Nat.le_refl _) (.cells #[.int .i64 pS, .slice aS S.length cS] 26))).size) (Nat.le_refl _), (below_step ((Below.refl _ _).alloc (Nat.le_refl _) (.cells #[.int .i64 pS, .slice aS S.length cS] 26)) (show w.heap.size ≤ (w.alloc (.cells #[.int .i64 pS, .slice aS S.length cS] 26)).heap.size from (((Below.refl _ _).alloc (Nat.le_refl _) (.cells #[.int .i64 pS, .slice aS S.length cS] 26))).size) B2.out)⟩

end Go.Proofs.YtgfanoejohpmkaaGreat

namespace Go.Proofs.YtgfanoejohpmkaaGreat
open Go.RowKit
set_option linter.unusedVariables false

def mOne (S : List Int) : List Int := mkR (bl S) oneF
def mPow (p : Int) (S x : List Int) : Nat → List Int
  | 0 => mOne S
  | k + 1 => prodM p S (mPow p S x k) x
theorem isMv_of {p : Int} {S z : List Int} (hl : z.length = bl S) (hn : ∀ j, j < z.length → 0 ≤ z.getD j 0 ∧ z.getD j 0 < p) : isMv p S z = true := by
  unfold isMv isVec
  rw [hl, Bool.and_eq_true]
  refine ⟨by simp, ?_⟩
  rw [List.all_eq_true]
  intro y hy
  obtain ⟨j, hj, rfl⟩ := List.getElem_of_mem hy
  have h := hn j hj
  rw [getD_at hj] at h
  exact inr_iff.2 h
theorem one_mv {p : Int} {S : List Int} (hs : isSp p S = true) : isMv p S (mOne S) = true :=
  isMv_of (mkR_len _ _) (fun j hj => by
    have hp := prm_bd (isSp_iff.1 hs).prime
    unfold mOne at hj ⊢
    rw [mkR_len] at hj
    rw [mkR_at _ hj]
    unfold oneF
    split <;> omega)
theorem mpow_mv {p : Int} {S x : List Int} (hs : isSp p S = true) : ∀ k, isMv p S (mPow p S x k) = true
  | 0 => one_mv hs
  | k + 1 => prod_mv hs _ _
theorem mpow_len {p : Int} {S x : List Int} (hs : isSp p S = true) (k : Nat) : (mPow p S x k).length = bl S := Mv.len (mpow_mv hs k)
theorem mpow_add {p : Int} {S x : List Int} (hs : isSp p S = true) (m : Nat) : ∀ n, prodM p S (mPow p S x m) (mPow p S x n) = mPow p S x (m + n)
  | 0 => prodM_one_r p S _ (mpow_len hs m) (Mv.num (mpow_mv hs m))
  | n + 1 => by
    show prodM p S (mPow p S x m) (prodM p S (mPow p S x n) x) = prodM p S (mPow p S x (m + n)) x
    rw [← mpow_add hs m n, prodM_assoc]
set_option maxHeartbeats 800000 in
theorem l04One_any (p : Int) (a : Option Addr) (S : List Int) (c : Nat) (w : World) (h : S.length ≤ 6) :
    Calls Tryz.prog 188 #[.agg #[.int .i64 p, .slice a S.length c]] w (OwnE (mOne S) w) := by
  have hb0 := bl_pos S
  go_enter Tryz.func188, Tryz.ntmps188
  go_wp2_with (go_at_call 221; (with_reducible refine (l04Zero_any p a S c _ h).mono ?_); rintro e w1 ⟨b1, rfl, hl1, hu1, ho1, hb1⟩; have HO1 := Lib.hid ho1; have HB1 := Lib.hid (below_step (below_alloc w _) (by simp) hb1); have hz1 := hb1.size; have c0 := ho1.cell 0 hb0; have f0 := ho1.free 0 hb0; rw [Nat.zero_add] at c0 f0; clear hb1 ho1)
  have hwb : w.heap.size ≤ b1 := by simp at hl1; omega
  go_ret
  exact ⟨_, bl S, by unfold mOne; rw [mkR_len]; rfl, (row_put0 (g := oneF) (v := 1) HO1.out hb0 (fun j _ => by unfold oneF; rfl)).own hwb (by simp [World.setCell]; exact hu1), HB1.out.trans ((wrote_put0 (Wrote.refl b1 0 (bl S) w1) hb0 _).belowB hwb)⟩
theorem blade0_any (p : Int) (a : Option Addr) (S : List Int) (c : Nat) (w : World) (h : S.length ≤ 6) :
    Calls Tryz.prog 183 #[.agg #[.int .i64 p, .slice a S.length c], .int .i64 0] w (OwnE (mOne S) w) :=
  (blade_any p a S c 0 w h (bl_pos S)).mono fun _ _ h => h.ownE

end Go.Proofs.YtgfanoejohpmkaaGreat

namespace Go.Proofs.YtgfanoejohpmkaaGreat
open Go.RowKit
set_option linter.unusedVariables false

theorem gpz_add_r (S : List Int) (n : Nat) (x y u : Nat → Int) (c : Nat) : gpz S n x (fun j => y j + u j) c = gpz S n x y c + gpz S n x u c := by
  unfold gpz
  rw [← sm_add]
  exact sm_congr fun a _ => by rw [Int.mul_add]
theorem prod_dist {p : Int} {S x y u : List Int} (hy : y.length = bl S) : prodM p S x (addV p y u) = plusR p (prodM p S x y) (prodM p S x u) 1 := by
  unfold plusR
  rw [prodM_len]
  apply mkR_congr
  intro c hc
  rw [prodM_at _ _ _ _ hc, prodM_at _ _ _ _ hc, Int.one_mul]
  unfold prodF
  rw [← Int.add_emod, ← gpz_add_r]
  exact gpz_mod S S.length hc (fun j _ => rfl) (fun j hj => by
    have h : j < y.length := by rw [hy]; exact hj
    show (addV p y u).getD j 0 % p = _
    unfold addV
    rw [mkR_at _ h, Int.emod_emod, Int.one_mul])
end Go.Proofs.YtgfanoejohpmkaaGreat

namespace Go.Proofs.YtgfanoejohpmkaaGreat
open Go.RowKit
set_option linter.unusedVariables false

theorem field_value (x y : Value) (w : World) : (Instr.field 84 (.agg #[x, y]) 1).run Tryz.prog w = .ok y w := by kernel_rfl

/-- A number lies in a block: its prime and its value. -/
structure NumAt (w : World) (b : Nat) (p v : Int) : Prop where
  c0 : w.cell? ⟨b, 0, none⟩ = some (.int .i64 p)
  c1 : w.cell? ⟨b, 1, none⟩ = some (.int .i64 v)
  f0 : w.frozen? ⟨b, 0, none⟩ = false
  f1 : w.frozen? ⟨b, 1, none⟩ = false
theorem NumAt.keep {w w1 : World} {b : Nat} {p v : Int} (h : NumAt w b p v) (hb : Below w.heap.size w w1) (lt : b < w.heap.size) : NumAt w1 b p v :=
  ⟨(hb.cell (p := ⟨b, 0, none⟩) lt).trans h.c0, (hb.cell (p := ⟨b, 1, none⟩) lt).trans h.c1, (hb.frozen (p := ⟨b, 0, none⟩) lt).trans h.f0, (hb.frozen (p := ⟨b, 1, none⟩) lt).trans h.f1⟩
theorem NumAt.alloc {w : World} {b : Nat} {p v : Int} (h : NumAt w b p v) (lt : b < w.heap.size) (o : Obj) : NumAt (w.alloc o) b p v :=
  h.keep ((Below.refl _ _).alloc (Nat.le_refl _) o) lt
theorem numAt_new (w : World) (p v : Int) (t : TypeId) : NumAt (w.alloc (.cells #[.int .i64 p, .int .i64 v] t)) w.heap.size p v :=
  ⟨by simp [go_sem], by simp [go_sem], by simp [go_sem], by simp [go_sem]⟩
theorem NumAt.drew {w : World} {b : Nat} {p v : Int} (h : NumAt w b p v) : NumAt w.drew b p v := ⟨h.c0, h.c1, h.f0, h.f1⟩
theorem numAt_new1 (w : World) (o : Obj) (p v : Int) (t : TypeId) : NumAt ((w.alloc o).alloc (.cells #[.int .i64 p, .int .i64 v] t)) (w.heap.size + 1) p v := by
  simpa using numAt_new (w.alloc o) p v t
theorem numAt_new2 (w : World) (o o' : Obj) (p v : Int) (t : TypeId) : NumAt (((w.alloc o).alloc o').alloc (.cells #[.int .i64 p, .int .i64 v] t)) (w.heap.size + 1 + 1) p v := by
  simpa using numAt_new ((w.alloc o).alloc o') p v t
theorem NumAt.set {w : World} {b : Nat} {p v : Int} (h : NumAt w b p v) (q u : Int) : NumAt ((w.setCell ⟨b, 0, none⟩ (.int .i64 q)).setCell ⟨b, 1, none⟩ (.int .i64 u)) b q u :=
  ⟨by simp [go_sem, h.c0], by simp [go_sem, h.c1], by simp [go_sem, h.f0], by simp [go_sem, h.f1]⟩
theorem NumAt.far {w : World} {b c : Nat} {p v : Int} (h : NumAt w b p v) (hne : b ≠ c) (o : Nat) (x : Value) : NumAt (w.setCell ⟨c, o, none⟩ x) b p v :=
  ⟨(World.cell?_setCell_other _ _ _ _ (fun e => hne (by injection e with e1; exact e1.symm))).trans h.c0, (World.cell?_setCell_other _ _ _ _ (fun e => hne (by injection e with e1; exact e1.symm))).trans h.c1, by simp [go_sem, h.f0], by simp [go_sem, h.f1]⟩

end Go.Proofs.YtgfanoejohpmkaaGreat

namespace Go.Proofs.YtgfanoejohpmkaaGreat
open Go.RowKit
set_option linter.unusedVariables false

/-- What the method root hands back: the prime and the value of the root (0 and 0 if there is none), and whether there is one. -/
def rtP (p a : Int) : Int := if rt p a < 0 then 0 else p
def rtV (p a : Int) : Int := if rt p a < 0 then 0 else rt p a
def rtB (p a : Int) : Bool := decide (0 ≤ rt p a)
theorem rt_yes {p a : Int} (h : 0 ≤ rt p a) : rtP p a = p ∧ rtV p a = rt p a ∧ rtB p a = true := by
  have h1 : ¬ rt p a < 0 := by omega
  simp [rtP, rtV, rtB, h, h1]
theorem rt_no {p a : Int} (h : rt p a < 0) : rtP p a = 0 ∧ rtV p a = 0 ∧ rtB p a = false := by
  have h1 : ¬ 0 ≤ rt p a := by omega
  simp [rtP, rtV, rtB, h]

set_option maxHeartbeats 1600000 in
theorem root_any (p a : Int) (w : World) (hp : prm p = true) (a0 : 0 ≤ a) (a1 : a < p) :
    Calls Tryz.prog 122 #[.agg #[.int .i64 p, .int .i64 a]] w fun e w' => e = .returned (.tuple #[.agg #[.int .i64 (rtP p a), .int .i64 (rtV p a)], .bool (rtB p a)]) ∧ Below w.heap.size w w' := by
  have hb := prm_bd hp
  obtain ⟨v0, v1⟩ := rtEnd_bd hp a0 a1
  have HP := Lib.hid hp
  clear hp
  go_enter Tryz.func122, Tryz.ntmps122
  go_wp2
  go_loopw [8] (fun t wr => ∃ r : Int, 0 ≤ r ∧ r ≤ rtEnd p a ∧ t = .int .i64 r ∧ NumAt wr w.heap.size p a ∧ NumAt wr (w.heap.size + 1) 0 0 ∧ Below w.heap.size w wr ∧ w.heap.size + 2 ≤ wr.heap.size) (fun t _ => (rtEnd p a - intOf t).toNat)
  case atStart => exact ⟨0, by omega, by omega, rfl, (numAt_new w p a _).alloc (by simp) _, numAt_new1 w _ 0 0 _, by ((repeat' (first | with_reducible exact Below.refl _ _ | (with_reducible refine Below.setCell ?_ ?_ _) | (with_reducible refine Below.alloc ?_ ?_ _) | (with_reducible refine Below.drew ?_))); all_goals (first | (simp; done) | omega | (simp; omega))), by simp⟩
  case round =>
    obtain ⟨r, r0, r1, rfl, n0, n1, hbel, hz⟩ := hrel
    by_cases hlt : r < p
    · obtain ⟨q0, q1⟩ := mod_bd HP.out (r * r)
      have hi := rt_iff HP.out a0 a1 r0 hlt r1
      have N0 := Lib.hid n0
      have z0 : w.heap.size < wr.heap.size := by omega
      have z1 : w.heap.size + 1 < wr.heap.size := by omega
      obtain ⟨g00, g01, k00, k01⟩ := n0
      by_cases hq : r = rt p a
      · have ht := hi.2 hq
        have HR : Hid (rtP p a = p ∧ rtV p a = r ∧ rtB p a = true) := by
          obtain ⟨h1, h2, h3⟩ := rt_yes (p := p) (a := a) (by omega)
          exact ⟨h1, h2.trans hq.symm, h3⟩
        clear hi hq
        go_wp2
        go_region_with (go_at_call 186; refine (times_any p r r _ HP.out r0 hlt r0 hlt).mono ?_; rintro e w1 ⟨rfl, hb1⟩; obtain ⟨e0, e1, h0, h1⟩ := (N0.out.alloc (by omega) _).drew.keep hb1 (by simp; omega); obtain ⟨x0, x1, y0, y1⟩ := (numAt_new wr p r _).drew.keep hb1 (by simp); obtain ⟨s0, s1, t0, t1⟩ := (n1.alloc (by omega) _).drew.keep hb1 (by simp; omega))
        all_goals
          go_wp2
          refine bodyPost_ret (v := .tuple #[.agg #[.int .i64 p, .int .i64 r], .bool true]) (by simp [results, Tryz.results122, go_sem, s0, s1]) rfl ⟨by rw [HR.out.1, HR.out.2.1, HR.out.2.2], ?_⟩
          (have hs_hb1 := hb1.size; have hs_hbel := hbel.size; (repeat' (first | with_reducible exact Below.refl _ _ | (with_reducible refine Below.setCell ?_ ?_ _) | (with_reducible refine Below.alloc ?_ ?_ _) | (with_reducible refine Below.drew ?_) | (with_reducible refine below_step ?_ ?_ hb1) | (with_reducible refine below_step ?_ ?_ hbel))); all_goals (first | (simp; done) | omega | (simp; omega) | (simp at hs_hb1 hs_hbel ⊢; omega)))
      · have ht : ¬ r * r % p = a := fun h => hq (hi.1 h)
        have hr1 : r + 1 ≤ rtEnd p a := by
          have h1 := rt_bd HP.out a0 a1
          unfold rtEnd at r1 v0 v1 ⊢
          split at r1 <;> omega
        clear hi
        have N1 := Lib.hid n1
        clear n1
        go_wp2
        go_region_with (go_at_call 186; refine (times_any p r r _ HP.out r0 hlt r0 hlt).mono ?_; rintro e w1 ⟨rfl, hb1⟩; obtain ⟨e0, e1, h0, h1⟩ := (N0.out.alloc (by omega) _).drew.keep hb1 (by simp; omega); obtain ⟨x0, x1, y0, y1⟩ := (numAt_new wr p r _).drew.keep hb1 (by simp); obtain ⟨s0, s1, t0, t1⟩ := (N1.out.alloc (by omega) _).drew.keep hb1 (by simp; omega))
        all_goals
          go_wp2
          go_roundw
          case rel =>
            have hs1 := hb1.size
            simp at hs1
            exact ⟨r + 1, by omega, by omega, rfl, ⟨e0, e1, h0, h1⟩, ⟨s0, s1, t0, t1⟩, by (have hs_hb1 := hb1.size; have hs_hbel := hbel.size; (repeat' (first | with_reducible exact Below.refl _ _ | (with_reducible refine Below.setCell ?_ ?_ _) | (with_reducible refine Below.alloc ?_ ?_ _) | (with_reducible refine Below.drew ?_) | (with_reducible refine below_step ?_ ?_ hb1) | (with_reducible refine below_step ?_ ?_ hbel))); all_goals (first | (simp; done) | omega | (simp; omega) | (simp at hs_hb1 hs_hbel ⊢; omega))), by omega⟩
          case measure => simp [intOf]; omega
    · have HR : Hid (rtP p a = 0 ∧ rtV p a = 0 ∧ rtB p a = false) := by
        refine rt_no (p := p) (a := a) ?_
        have h1 := rt_bd HP.out a0 a1
        unfold rtEnd at r1
        split at r1 <;> omega
      obtain ⟨s0, s1, t0, t1⟩ := n1
      go_wp2
      refine bodyPost_ret (v := .tuple #[.agg #[.int .i64 0, .int .i64 0], .bool false]) (by simp [results, Tryz.results122, go_sem, s0, s1]) rfl ⟨by rw [HR.out.1, HR.out.2.1, HR.out.2.2], ?_⟩
      (have hs_hbel := hbel.size; (repeat' (first | with_reducible exact Below.refl _ _ | (with_reducible refine Below.setCell ?_ ?_ _) | (with_reducible refine Below.alloc ?_ ?_ _) | (with_reducible refine Below.drew ?_) | (with_reducible refine below_step ?_ ?_ hbel))); all_goals (first | (simp; done) | omega | (simp; omega) | (simp at hs_hbel ⊢; omega)))

end Go.Proofs.YtgfanoejohpmkaaGreat

namespace Go.Proofs.YtgfanoejohpmkaaGreat
open Go.RowKit
set_option linter.unusedVariables false

def sqB1 (p a : Int) : Bool := decide (codeOf p [a] = 0 ∧ 0 ≤ rt p a)
def sqV1 (p a : Int) : Int := if codeOf p [a] = 0 ∧ 0 ≤ rt p a then rt p a else 0
def sqC1 (p a : Int) : Int := if codeOf p [a] = 0 then (if 0 ≤ rt p a then 0 else 4) else codeOf p [a]
theorem sq1_yes {p a : Int} (h : codeOf p [a] = 0) (hr : 0 ≤ rt p a) : sqB1 p a = true ∧ sqV1 p a = rt p a ∧ sqC1 p a = 0 := by simp [sqB1, sqV1, sqC1, h, hr]
theorem sq1_none {p a : Int} (h : codeOf p [a] = 0) (hr : rt p a < 0) : sqB1 p a = false ∧ sqV1 p a = 0 ∧ sqC1 p a = 4 := by
  have h1 : ¬ 0 ≤ rt p a := by omega
  simp [sqB1, sqV1, sqC1, h, h1]
theorem sq1_no {p a c : Int} (h : codeOf p [a] = c) (hc : c ≠ 0) : sqB1 p a = false ∧ sqV1 p a = 0 ∧ sqC1 p a = c := by simp [sqB1, sqV1, sqC1, h, hc]

set_option maxHeartbeats 400000 in
theorem isSquare_impl (p a : Int) (w : World) :
    Calls Tryz.prog 33 #[.int .i64 p, .int .i64 a] w fun e w' => e = .returned (.tuple #[.bool (sqB1 p a), .int .i64 (codeOf p [a])]) ∧ Below w.heap.size w w' := by
  rcases code_one p a with ⟨hc, hp, a0, a1⟩ | ⟨hc, hp⟩ | ⟨hc, hp, hn⟩
  · have HP := Lib.hid hp
    clear hp
    by_cases hr : 0 ≤ rt p a
    · have HS := Lib.hid (sq1_yes hc hr)
      have HR := Lib.hid (rt_yes hr)
      have HC := Lib.hid hc
      clear hc
      go_enter Tryz.func33, Tryz.ntmps33
      go_wp2_with (first | (go_at_call 121; refine (check_one p a _ _ (new_one _ _ _)).mono ?_; rintro e w1 ⟨rfl, rfl⟩; rw [HC.out]) | (go_at_call 122; refine (root_any p a _ HP.out a0 a1).mono ?_; rintro e w2 ⟨rfl, hb2⟩; rw [HR.out.1, HR.out.2.1, HR.out.2.2]))
      go_ret2
      exact ⟨by rw [HS.out.1, HC.out]; rfl, by (have hs_hb2 := hb2.size; (repeat' (first | with_reducible exact Below.refl _ _ | (with_reducible refine Below.setCell ?_ ?_ _) | (with_reducible refine Below.alloc ?_ ?_ _) | (with_reducible refine Below.drew ?_) | (with_reducible refine below_step ?_ ?_ hb2))); all_goals (first | (simp; done) | omega | (simp; omega) | (simp at hs_hb2 ⊢; omega)))⟩
    · have hr2 : rt p a < 0 := by omega
      have HS := Lib.hid (sq1_none hc hr2)
      have HR := Lib.hid (rt_no hr2)
      have HC := Lib.hid hc
      have hd : decide (0 ≤ rt p a) = false := by simp; omega
      clear hc hr
      go_enter Tryz.func33, Tryz.ntmps33
      go_wp2_with (first | (go_at_call 121; refine (check_one p a _ _ (new_one _ _ _)).mono ?_; rintro e w1 ⟨rfl, rfl⟩; rw [HC.out]) | (go_at_call 122; refine (root_any p a _ HP.out a0 a1).mono ?_; rintro e w2 ⟨rfl, hb2⟩; rw [HR.out.1, HR.out.2.1, HR.out.2.2]))
      go_ret2
      exact ⟨by rw [HS.out.1, HC.out]; rfl, by (have hs_hb2 := hb2.size; (repeat' (first | with_reducible exact Below.refl _ _ | (with_reducible refine Below.setCell ?_ ?_ _) | (with_reducible refine Below.alloc ?_ ?_ _) | (with_reducible refine Below.drew ?_) | (with_reducible refine below_step ?_ ?_ hb2))); all_goals (first | (simp; done) | omega | (simp; omega) | (simp at hs_hb2 ⊢; omega)))⟩
  all_goals
    have HS := Lib.hid (sq1_no hc (by decide))
    have HC := Lib.hid hc
    clear hc hp
    try clear hn
    go_enter Tryz.func33, Tryz.ntmps33
    go_wp2_with (first | (go_at_call 121; refine (check_one p a _ _ (new_one _ _ _)).mono ?_; rintro e w1 ⟨rfl, rfl⟩; rw [HC.out]))
    go_ret2
    exact ⟨by rw [HS.out.1, HC.out]; rfl, by ((repeat' (first | with_reducible exact Below.refl _ _ | (with_reducible refine Below.setCell ?_ ?_ _) | (with_reducible refine Below.alloc ?_ ?_ _) | (with_reducible refine Below.drew ?_))); all_goals (first | (simp; done) | omega | (simp; omega)))⟩

end Go.Proofs.YtgfanoejohpmkaaGreat

namespace Go.Proofs.YtgfanoejohpmkaaGreat
open Go.RowKit
set_option linter.unusedVariables false

/-- Whether the product of two blades is kept: 0 the wedge product, 1 the left contraction, else the right one. -/
def kp (κ a b : Nat) : Bool := if κ = 0 then a &&& b == 0 else if κ = 1 then a &&& b == a else a &&& b == b
end Go.Proofs.YtgfanoejohpmkaaGreat

namespace Go.Proofs.YtgfanoejohpmkaaGreat
open Go.RowKit Go.Maps
set_option linter.unusedVariables false

theorem ss2 {B : Nat} {w w' : World} (h : Below B w w') {g : Nat} {u0 u1 : Value} (l : g < B) (h0 : w.cell? ⟨g, 0, none⟩ = some u0 ∧ w.cell? ⟨g, 1, none⟩ = some u1) : w'.cell? ⟨g, 0, none⟩ = some u0 ∧ w'.cell? ⟨g, 1, none⟩ = some u1 :=
  ⟨(h.cell (p := ⟨g, 0, none⟩) l).trans h0.1, (h.cell (p := ⟨g, 1, none⟩) l).trans h0.2⟩
end Go.Proofs.YtgfanoejohpmkaaGreat
