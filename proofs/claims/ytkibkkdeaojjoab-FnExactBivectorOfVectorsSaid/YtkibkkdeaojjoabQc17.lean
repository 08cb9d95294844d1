/-
  WedgeProduct, LeftContraction, RightContraction: contracts of the program and of the model.
  Conditions: the lists are nil or rows of known cells, of at most 1048576 numbers.
  PowerOf: contracts of the program and of the model.
  Conditions: the lists are nil or rows of known cells, of at most 1048576 numbers.
  Changes of signs by grades, and the signs of all grades: contracts of the program.
  Conditions: the lists are nil or rows of known cells, of at most 1048576 numbers.
  What the program's operations on numbers return: contracts of remainderOf, plus, minus, times.
  Conditions: the prime is one, and the numbers are remainders by it.
  A number that lies in memory: what keeps it, what writes it, what reads it.
  No conditions.
  Signs changed, and the laws' three functions that do so: contracts of the program and of the model.
  Conditions: the lists are nil or rows of known cells, of at most 1048576 numbers.
  ReverseOf, InvoluteOf and ConjugateOf: contracts of the program and of the model.
  Conditions: the lists are nil or rows of known cells, of at most 1048576 numbers.
  Discriminants, in the program and in the model.
  Conditions: the squares are nil or a row of known cells.
  What the model's check of a prime and of a list of numbers returns, and both checks at the short lists that the functions of chapter 1 build.
  Conditions: the lists are rows of cells that are known.
  What powers, inverses and quotients of numbers return: contracts of the program's methods and of the model's helpers.
  Conditions: the prime is one, the numbers are remainders by it, an exponent is at most 1000.
  What inverses, powers with negative exponents and quotients of numbers return, in the program.
  Conditions: the prime is one, the numbers are remainders by it, a divisor is not 0, an exponent is from -1000000 to 1000000.
  Pseudoscalars, their squares, duals, meets: numbers. No Go in sight.
  No conditions.
  PairOf and NormOf: contracts of the program and of the model.
  Conditions: the lists are nil or rows of known cells, of at most 1048576 numbers.
-/
import Derived.Test.YtkibkkdeaojjoabQc13
import Derived.Test.YtkibkkdeaojjoabQc14
import Derived.Test.YtkibkkdeaojjoabQc15
import Derived.Test.YtkibkkdeaojjoabQc16
import Derived.Test.YtkibkkdeaojjoabQc11
import Derived.Test.YtkibkkdeaojjoabQc10
import Derived.Test.YtkibkkdeaojjoabQc1
import Derived.Outline
import Derived.Deep.RegionHeld3
import Derived.Deep.DeepCutAuto
import Derived.Deep.AppendLies
import Derived.StillTailTactics
import Derived.Test.YtkibkkdeaojjoabQc6
import Derived.BigQuiet
import Derived.Deep.QuietTactic
import Derived.RegionTactic
namespace Go.Proofs.Ytkibkkdeaojjoab
open Go.RowKit
set_option linter.unusedVariables false

def wgM (p : Int) (S x y : List Int) : List Int := kM p S 0 x y
theorem productOf_own0 (pS : Int) (aS : Option Addr) (S : List Int) (cS loS tpS : Nat) (ax : Option Addr) (x : List Int) (cx lox tpx : Nat) (ay : Option Addr) (y : List Int) (cy loy tpy : Nat) (w : World) (hs : isSp pS S = true) (hS : RowIn loS tpS w aS S) (tS : tpS ≤ w.heap.size) (hx : RowIn lox tpx w ax x) (tx : tpx ≤ w.heap.size) (mx : isMv pS S x = true) (hy : RowIn loy tpy w ay y) (ty : tpy ≤ w.heap.size) (my : isMv pS S y = true) :
    Calls Try.prog 77 #[.agg #[.int .i64 pS, .slice aS S.length cS], .int .i64 0, .slice ax x.length cx, .slice ay y.length cy] w (OwnE (wgM pS S x y) w) :=
  (productOf_any0 pS aS S cS loS tpS ax x cx lox tpx ay y cy loy tpy w (isSp_iff.1 hs).prime (isSp_iff.1 hs).hi hS tS (sp_nums hs) hx tx (Mv.len mx) (Mv.nums mx) hy ty (Mv.len my) (Mv.nums my)).mono fun _ _ h => h.ownE

theorem l05Kind_own0 (pS : Int) (aS : Option Addr) (S : List Int) (cS loS tpS : Nat) (ax : Option Addr) (x : List Int) (cx lox tpx : Nat) (ay : Option Addr) (y : List Int) (cy loy tpy : Nat) (w : World) (hs : isSp pS S = true) (hS : RowIn loS tpS w aS S) (tS : tpS ≤ w.heap.size) (hx : RowIn lox tpx w ax x) (tx : tpx ≤ w.heap.size) (mx : isMv pS S x = true) (hy : RowIn loy tpy w ay y) (ty : tpy ≤ w.heap.size) (my : isMv pS S y = true) :
    Calls Try.prog 74 #[.agg #[.int .i64 pS, .slice aS S.length cS], .slice ax x.length cx, .slice ay y.length cy, .int .i64 0] w (OwnE (wgM pS S x y) w) :=
  (l05Kind_tag0 pS aS S cS loS tpS ax x cx lox tpx ay y cy loy tpy w (isSp_iff.1 hs).prime (isSp_iff.1 hs).hi hS tS (sp_nums hs) hx tx (Mv.len mx) (Mv.nums mx) hy ty (Mv.len my) (Mv.nums my)).mono fun _ _ h => (show NewRow _ _ _ _ _ from (by obtain ⟨b, h1, h2, h3, h4, h5, _⟩ := h; exact ⟨b, h1, h2, h3, h4, h5⟩)).ownE

set_option maxRecDepth 100000 in
set_option maxHeartbeats 1600000 in
theorem wedge_own (pS : Int) (aS : Option Addr) (S : List Int) (cS loS tpS : Nat) (ax : Option Addr) (x : List Int) (cx lox tpx : Nat) (ay : Option Addr) (y : List Int) (cy loy tpy : Nat) (w : World) (hs : isSp pS S = true) (hS : RowIn loS tpS w aS S) (tS : tpS ≤ w.heap.size) (hx : RowIn lox tpx w ax x) (tx : tpx ≤ w.heap.size) (mx : isMv pS S x = true) (hy : RowIn loy tpy w ay y) (ty : tpy ≤ w.heap.size) (my : isMv pS S y = true) :
    Calls Try.prog 42 #[.agg #[.int .i64 pS, .slice aS S.length cS], .slice ax x.length cx, .slice ay y.length cy] w (OwnE (wgM pS S x y) w) := by
  have HI := Lib.hid hs
  have HS := Lib.hid hS
  have Hx := Lib.hid hx
  have HMx := Lib.hid mx
  have Hy := Lib.hid hy
  have HMy := Lib.hid my
  clear hs hS hx mx hy my
  go_enter Try.func42, Try.ntmps42
  go_wp2_with (first | (go_at_call 77; (with_reducible refine (productOf_own0 pS aS S cS loS tpS ax x cx lox tpx ay y cy loy tpy _ HI.out (HS.out.below ((Below.refl _ _).alloc (Nat.le_refl _) (.cells #[.int .i64 pS, .slice aS S.length cS] 30)) tS) (Nat.le_trans tS (((Below.refl _ _).alloc (Nat.le_refl _) (.cells #[.int .i64 pS, .slice aS S.length cS] 30))).size) (Hx.out.below ((Below.refl _ _).alloc (Nat.le_refl _) (.cells #[.int .i64 pS, .slice aS S.length cS] 30)) tx) (Nat.le_trans tx (((Below.refl _ _).alloc (Nat.le_refl _) (.cells #[.int .i64 pS, .slice aS S.length cS] 30))).size) HMx.out (Hy.out.below ((Below.refl _ _).alloc (Nat.le_refl _) (.cells #[.int .i64 pS, .slice aS S.length cS] 30)) ty) (Nat.le_trans ty (((Below.refl _ _).alloc (Nat.le_refl _) (.cells #[.int .i64 pS, .slice aS S.length cS] 30))).size) HMy.out).mono ?_); rintro e w2 ⟨r2, c2, rfl, o2, b2⟩; have B2 := Lib.hid b2; have K2_0_0 := (b2.cell (p := ⟨w.heap.size, 0, none⟩) (Nat.lt_of_lt_of_le (show w.heap.size < (w.alloc (.cells #[.int .i64 pS, .slice aS S.length cS] 30)).heap.size by simp) (Nat.le_refl _))).trans (show (w.alloc (.cells #[.int .i64 pS, .slice aS S.length cS] 30)).cell? ⟨w.heap.size, 0, none⟩ = some (.int .i64 pS) by simp [go_sem]); have K2_0_1 := (b2.cell (p := ⟨w.heap.size, 1, none⟩) (Nat.lt_of_lt_of_le (show w.heap.size < (w.alloc (.cells #[.int .i64 pS, .slice aS S.length cS] 30)).heap.size by simp) (Nat.le_refl _))).trans (show (w.alloc (.cells #[.int .i64 pS, .slice aS S.length cS] 30)).cell? ⟨w.heap.size, 1, none⟩ = some (.slice aS S.length cS) by simp [go_sem]); have O2 := Lib.hid o2; clear o2; clear b2))
  go_ret
  exact ⟨_, _, rfl, OwnR.mono' O2.out (show w.heap.size ≤ (w.alloc (.cells #[.int .i64 pS, .slice aS S.length cS] 30)).heap.size from (((Below.refl _ _).alloc (Nat.le_refl _) (.cells #[.int .i64 pS, .slice aS S.length cS] 30))).size) (Nat.le_refl _), (below_step ((Below.refl _ _).alloc (Nat.le_refl _) (.cells #[.int .i64 pS, .slice aS S.length cS] 30)) (show w.heap.size ≤ (w.alloc (.cells #[.int .i64 pS, .slice aS S.length cS] 30)).heap.size from (((Below.refl _ _).alloc (Nat.le_refl _) (.cells #[.int .i64 pS, .slice aS S.length cS] 30))).size) B2.out)⟩

set_option maxRecDepth 100000 in
set_option maxHeartbeats 1600000 in
theorem l05Wedge_own (pS : Int) (aS : Option Addr) (S : List Int) (cS loS tpS : Nat) (ax : Option Addr) (x : List Int) (cx lox tpx : Nat) (ay : Option Addr) (y : List Int) (cy loy tpy : Nat) (w : World) (hs : isSp pS S = true) (hS : RowIn loS tpS w aS S) (tS : tpS ≤ w.heap.size) (hx : RowIn lox tpx w ax x) (tx : tpx ≤ w.heap.size) (mx : isMv pS S x = true) (hy : RowIn loy tpy w ay y) (ty : tpy ≤ w.heap.size) (my : isMv pS S y = true) :
    Calls Try.prog 39 #[.agg #[.int .i64 pS, .slice aS S.length cS], .slice ax x.length cx, .slice ay y.length cy] w (OwnE (wgM pS S x y) w) := by
  have HI := Lib.hid hs
  have HS := Lib.hid hS
  have Hx := Lib.hid hx
  have HMx := Lib.hid mx
  have Hy := Lib.hid hy
  have HMy := Lib.hid my
  clear hs hS hx mx hy my
  go_enter Try.func39, Try.ntmps39
  go_wp2_with (first | (go_at_call 74; (with_reducible refine (l05Kind_own0 pS aS S cS loS tpS ax x cx lox tpx ay y cy loy tpy _ HI.out (HS.out.below ((Below.refl _ _).alloc (Nat.le_refl _) (.cells #[.int .i64 pS, .slice aS S.length cS] 30)) tS) (Nat.le_trans tS (((Below.refl _ _).alloc (Nat.le_refl _) (.cells #[.int .i64 pS, .slice aS S.length cS] 30))).size) (Hx.out.below ((Below.refl _ _).alloc (Nat.le_refl _) (.cells #[.int .i64 pS, .slice aS S.length cS] 30)) tx) (Nat.le_trans tx (((Below.refl _ _).alloc (Nat.le_refl _) (.cells #[.int .i64 pS, .slice aS S.length cS] 30))).size) HMx.out (Hy.out.below ((Below.refl _ _).alloc (Nat.le_refl _) (.cells #[.int .i64 pS, .slice aS S.length cS] 30)) ty) (Nat.le_trans ty (((Below.refl _ _).alloc (Nat.le_refl _) (.cells #[.int .i64 pS, .slice aS S.length cS] 30))).size) HMy.out).mono ?_); rintro e w2 ⟨r2, c2, rfl, o2, b2⟩; have B2 := Lib.hid b2; have K2_0_0 := (b2.cell (p := ⟨w.heap.size, 0, none⟩) (Nat.lt_of_lt_of_le (show w.heap.size < (w.alloc (.cells #[.int .i64 pS, .slice aS S.length cS] 30)).heap.size by simp) (Nat.le_refl _))).trans (show (w.alloc (.cells #[.int .i64 pS, .slice aS S.length cS] 30)).cell? ⟨w.heap.size, 0, none⟩ = some (.int .i64 pS) by simp [go_sem]); have K2_0_1 := (b2.cell (p := ⟨w.heap.size, 1, none⟩) (Nat.lt_of_lt_of_le (show w.heap.size < (w.alloc (.cells #[.int .i64 pS, .slice aS S.length cS] 30)).heap.size by simp) (Nat.le_refl _))).trans (show (w.alloc (.cells #[.int .i64 pS, .slice aS S.length cS] 30)).cell? ⟨w.heap.size, 1, none⟩ = some (.slice aS S.length cS) by simp [go_sem]); have O2 := Lib.hid o2; clear o2; clear b2))
  go_ret
  exact ⟨_, _, rfl, OwnR.mono' O2.out (show w.heap.size ≤ (w.alloc (.cells #[.int .i64 pS, .slice aS S.length cS] 30)).heap.size from (((Below.refl _ _).alloc (Nat.le_refl _) (.cells #[.int .i64 pS, .slice aS S.length cS] 30))).size) (Nat.le_refl _), (below_step ((Below.refl _ _).alloc (Nat.le_refl _) (.cells #[.int .i64 pS, .slice aS S.length cS] 30)) (show w.heap.size ≤ (w.alloc (.cells #[.int .i64 pS, .slice aS S.length cS] 30)).heap.size from (((Below.refl _ _).alloc (Nat.le_refl _) (.cells #[.int .i64 pS, .slice aS S.length cS] 30))).size) B2.out)⟩

end Go.Proofs.Ytkibkkdeaojjoab

namespace Go.Proofs.Ytkibkkdeaojjoab
open Go.RowKit
set_option linter.unusedVariables false

theorem isMv_of {p : Int} {S z : List Int} (hl : z.length = bl S) (hn : ∀ j, j < z.length → 0 ≤ z.getD j 0 ∧ z.getD j 0 < p) : isMv p S z = true := by
  unfold isMv isVec
  rw [hl, Bool.and_eq_true]
  refine ⟨by simp, ?_⟩
  rw [List.all_eq_true]
  intro y hy
  obtain ⟨j, hj, rfl⟩ := List.getElem_of_mem hy
  have h := hn j hj
  rw [getD_at hj] at h
  exact inr_iff.2 h
end Go.Proofs.Ytkibkkdeaojjoab

namespace Go.Proofs.Ytkibkkdeaojjoab
open Go.RowKit
set_option linter.unusedVariables false

/-- A number lies in a block: its prime and its value. -/
structure NumAt (w : World) (b : Nat) (p v : Int) : Prop where
  c0 : w.cell? ⟨b, 0, none⟩ = some (.int .i64 p)
  c1 : w.cell? ⟨b, 1, none⟩ = some (.int .i64 v)
  f0 : w.frozen? ⟨b, 0, none⟩ = false
  f1 : w.frozen? ⟨b, 1, none⟩ = false
theorem NumAt.keep {w w1 : World} {b : Nat} {p v : Int} (h : NumAt w b p v) (hb : Below w.heap.size w w1) (lt : b < w.heap.size) : NumAt w1 b p v :=
  ⟨(hb.cell (p := ⟨b, 0, none⟩) lt).trans h.c0, (hb.cell (p := ⟨b, 1, none⟩) lt).trans h.c1, (hb.frozen (p := ⟨b, 0, none⟩) lt).trans h.f0, (hb.frozen (p := ⟨b, 1, none⟩) lt).trans h.f1⟩
theorem NumAt.alloc {w : World} {b : Nat} {p v : Int} (h : NumAt w b p v) (lt : b < w.heap.size) (o : Obj) : NumAt (w.alloc o) b p v :=
  h.keep ((Below.refl _ _).alloc (Nat.le_refl _) o) lt
theorem NumAt.drew {w : World} {b : Nat} {p v : Int} (h : NumAt w b p v) : NumAt w.drew b p v := ⟨h.c0, h.c1, h.f0, h.f1⟩
theorem NumAt.set {w : World} {b : Nat} {p v : Int} (h : NumAt w b p v) (q u : Int) : NumAt ((w.setCell ⟨b, 0, none⟩ (.int .i64 q)).setCell ⟨b, 1, none⟩ (.int .i64 u)) b q u :=
  ⟨by simp [go_sem, h.c0], by simp [go_sem, h.c1], by simp [go_sem, h.f0], by simp [go_sem, h.f1]⟩
theorem NumAt.far {w : World} {b c : Nat} {p v : Int} (h : NumAt w b p v) (hne : b ≠ c) (o : Nat) (x : Value) : NumAt (w.setCell ⟨c, o, none⟩ x) b p v :=
  ⟨(World.cell?_setCell_other _ _ _ _ (fun e => hne (by injection e with e1; exact e1.symm))).trans h.c0, (World.cell?_setCell_other _ _ _ _ (fun e => hne (by injection e with e1; exact e1.symm))).trans h.c1, by simp [go_sem, h.f0], by simp [go_sem, h.f1]⟩

end Go.Proofs.Ytkibkkdeaojjoab

namespace Go.Proofs.Ytkibkkdeaojjoab
open Go.RowKit
set_option linter.unusedVariables false

def disN (p : Int) (S : List Int) : Nat → Int
  | 0 => 1
  | i + 1 => disN p S i * S.getD i 0 % p
def discN (p : Int) (S : List Int) : Int := disN p S S.length
theorem disN_bd {p : Int} (hp : prm p = true) (S : List Int) (i : Nat) : 0 ≤ disN p S i ∧ disN p S i < p := by
  have := prm_bd hp
  cases i with
  | zero => show 0 ≤ (1 : Int) ∧ (1 : Int) < p; omega
  | succ i => exact mod_bd hp _
set_option maxRecDepth 100000 in
set_option maxHeartbeats 3200000 in
theorem l03Disc_any (p : Int) (aS : Option Addr) (S : List Int) (cS loS tpS : Nat) (w : World)
    (hS : RowIn loS tpS w aS S) (tS : tpS ≤ w.heap.size) (hs : isSp p S = true) :
    Calls Try.prog 63 #[.agg #[.int .i64 p, .slice aS S.length cS]] w fun e w' => e = .returned (.int .i64 (discN p S)) ∧ Below w.heap.size w w' := by
  have K := isSp_iff.1 hs
  have hpb := prm_bd K.prime
  have hS6 := K.hi
  have HS := Lib.hid hS
  have HK := Lib.hid K
  obtain ⟨n, hn⟩ : ∃ n, n = S.length := ⟨_, rfl⟩
  rw [← hn] at hS6
  have HN := Lib.hid hn
  have hn1 : S.length ≤ n ∧ n ≤ S.length := by omega
  rw [← hn]
  clear hS hs K hn
  go_enter Try.func63, Try.ntmps63
  go_wp2
  go_loopw [3, 4] (fun s t wr => ∃ i : Nat, i ≤ n ∧ s = .int .i64 (disN p S i) ∧ t = .int .i64 i ∧ Quiet (w.alloc (.cells #[.int .i64 p, .slice aS n cS] 30)) wr) (fun _ t _ => n - (intOf t).toNat)
  case atStart => exact ⟨0, Nat.zero_le _, rfl, rfl, Quiet.refl _⟩
  case round =>
    obtain ⟨i, hi, rfl, rfl, hq⟩ := hrel
    have HQ := Lib.hid hq
    have hb0 := (hq.cell ⟨w.heap.size, 0, none⟩).trans (nw0 w _ _ _)
    have hb1 := (hq.cell ⟨w.heap.size, 1, none⟩).trans (nw1 w _ _ _)
    have hqb := (below_alloc w (.cells #[.int .i64 p, .slice aS n cS] 30)).trans (hq.below _)
    by_cases hlt : i < n
    · obtain ⟨bs, os, ha1, _, _, cs⟩ := (HS.out.below hqb tS).num (by omega : i < S.length)
      subst ha1
      obtain ⟨z0, z1⟩ := HK.out.num (by omega : i < S.length)
      obtain ⟨q0, q1⟩ := disN_bd HK.out.prime S i
      have HST : Hid (∀ s z : Int, s = disN p S i → z = S.getD i 0 → s * z % p = disN p S (i + 1)) := by
        intro s z e1 e2
        subst e1 e2
        rfl
      obtain ⟨s, hs⟩ : ∃ s, s = disN p S i := ⟨_, rfl⟩
      obtain ⟨z, hz⟩ : ∃ z, z = S.getD i 0 := ⟨_, rfl⟩
      have HE := Lib.hid (HST.out s z hs hz)
      rw [← hs] at q0 q1
      rw [← hz] at cs z0 z1
      rw [← hs]
      clear hs hz HST hq hqb
      obtain ⟨p1, p2, _, _⟩ := prod3 hpb.2 q0 q1 z0 z1 z0 z1
      have e1 : IntKind.i64.wrap (s * z) = s * z := IntWalk.i64_in _ (by omega)
      have e2 : (s * z).tmod p = s * z % p := Int.tmod_eq_emod_of_nonneg p1
      have hp0 : ¬ p = 0 := by omega
      have hp1 : (p == 0) = false := by simpa using hp0
      have hi1 : (i : Int) < (n : Int) := by omega
      go_wp2
      go_quiet (fail)
      clear e1 e2
      go_wp2
      go_roundw
      case rel => exact ⟨i + 1, by omega, by rw [HE.out], by go_num, HQ.out.next _⟩
      case measure => simp [intOf]; omega
    · have hin : i = n := by omega
      subst hin
      have HE : Hid (disN p S i = discN p S) := by show _ = _; unfold discN; rw [HN.out]
      rw [HE.out]
      clear hq hqb
      go_wp2
      go_ret
      exact ⟨rfl, (below_alloc w _).trans (HQ.out.below _)⟩

end Go.Proofs.Ytkibkkdeaojjoab
