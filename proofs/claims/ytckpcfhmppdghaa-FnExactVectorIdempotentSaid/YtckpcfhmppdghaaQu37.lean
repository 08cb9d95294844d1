/-
  The model's product of the kind 0: contract.
  Conditions: a space and multivectors of it: rows of known cells with numbers of the prime.
  The model's product of the kind 1: contract.
  Conditions: a space and multivectors of it: rows of known cells with numbers of the prime.
  The model's product of the kind 2: contract.
  Conditions: a space and multivectors of it: rows of known cells with numbers of the prime.
  The program's product of the kind 0: contract.
  Conditions: a space and multivectors of it: rows of known cells with numbers of the prime.
  The program's product of the kind 1: contract.
  Conditions: a space and multivectors of it: rows of known cells with numbers of the prime.
  The program's product of the kind 2: contract.
  Conditions: a space and multivectors of it: rows of known cells with numbers of the prime.
  WedgeProduct, LeftContraction, RightContraction: contracts of the program and of the model.
  Conditions: the lists are nil or rows of known cells, of at most 1048576 numbers.
  Discriminants, in the program and in the model.
  Conditions: the squares are nil or a row of known cells.
  Pseudoscalars, their squares, duals, meets: numbers. No Go in sight.
  No conditions.
  PairOf and NormOf: contracts of the program and of the model.
  Conditions: the lists are nil or rows of known cells, of at most 1048576 numbers.
  Lists of vectors of a space, in the program and in the model.
  Conditions: the lists are nil or rows of known cells, of at most 1048576 numbers.
  WedgeOfVectors: contracts of the program and of the model.
  Conditions: the lists are nil or rows of known cells, of at most 1048576 numbers.
  Versors: spinor norms, parities, what is around vectors. No Go in sight.
  No conditions.
  IsEven: contracts of the program and of the model.
  Conditions: the lists are nil or rows of known cells, of at most 1048576 numbers.
  Pseudoscalars, their squares, scalar products: contracts of the program and of the model.
  Conditions: the lists are nil or rows of known cells, of at most 1048576 numbers.
  What is around vectors, parities, numbers of basis vectors (program): contracts of the program and of the model.
  Conditions: the lists are nil or rows of known cells, of at most 1048576 numbers.
  Products of matrices, in the program and in the model: contracts.
  Conditions: the matrices are rows of rows of known cells with numbers of the prime; their sizes fit.
  The model's products of matrices: a contract.
  Conditions: the matrices are rows of rows of known cells with numbers of the prime; their sizes fit.
  TransposeMatrix, in the program and in the model.
  Conditions: the arguments are nil or rows of known cells, of at most 1048576 numbers.
  Square matrices, in the model.
  Conditions: the arguments are nil or rows of known cells, of at most 1048576 numbers.
  Traces, in the program and in the model.
  Conditions: the arguments are nil or rows of known cells, of at most 1048576 numbers.
  Powers of matrices, in the program and in the model.
  Conditions: the matrix is nil or a row of rows of known cells.
  Whether what is around vectors is vectors (program): contracts of the program and of the model.
  Conditions: the lists are nil or rows of known cells, of at most 1048576 numbers.
  NormOf: contracts of the program and of the model.
  Conditions: the lists are nil or rows of known cells, of at most 1048576 numbers.
  What square roots of numbers are, in the program and in the model: contracts of the method root and of the model's helper.
  Conditions: the prime is one, the number is a remainder by it.
  Cells and live cells behind new blocks, stores and calls.
  No conditions.
-/
import Derived.Test.YtckpcfhmppdghaaQu19
import Derived.Deep.DeepCutAuto
import Derived.Deep.RegionHeld3
import Derived.Test.YtckpcfhmppdghaaQu14
import Derived.Test.YtckpcfhmppdghaaQu5
import Derived.Test.YtckpcfhmppdghaaQu16
import Derived.Test.YtckpcfhmppdghaaQu15
import Derived.Test.YtckpcfhmppdghaaQu34
import Derived.Test.YtckpcfhmppdghaaQu35
import Derived.Test.YtckpcfhmppdghaaQu29
import Derived.ChangeKeysEq
import Derived.Laws.StructEq
import Derived.BigQuiet
import Derived.Test.YtckpcfhmppdghaaQu8
import Derived.Test.YtckpcfhmppdghaaQu3
import Derived.Test.YtckpcfhmppdghaaQu17
import Derived.Test.YtckpcfhmppdghaaQu18
import Derived.RegionTactic
import Derived.Outline
import Derived.Test.YtckpcfhmppdghaaQu4
import Derived.Lib.SliceRun
namespace Go.Proofs.Ytckpcfhmppdghaa
open Go.RowKit
set_option linter.unusedVariables false

/-- The numbers of the basis vectors. -/
def vnF (z : List Int) (i : Nat) : Int := z.getD (2 ^ i) 0
theorem pow_one : ∀ j, j < 64 → (gr j = 1 ↔ ∃ i, i < 6 ∧ j = 2 ^ i) := by decide +kernel
end Go.Proofs.Ytckpcfhmppdghaa

namespace Go.Proofs.Ytckpcfhmppdghaa
open Go.RowKit
set_option linter.unusedVariables false

/-- The cells of the box of a multivector. -/
def BoxM (g : Nat) (p : Int) (aS : Option Addr) (n cS : Nat) (ax : Option Addr) (l cx : Nat) (W : World) : Prop :=
  W.cell? ⟨g, 0, none⟩ = some (.int .i64 p) ∧ W.cell? ⟨g, 1, none⟩ = some (.slice aS n cS) ∧ W.cell? ⟨g, 2, none⟩ = some (.slice ax l cx)
theorem BoxM.below {g : Nat} {p : Int} {aS ax : Option Addr} {n cS l cx B : Nat} {w w' : World} (h : BoxM g p aS n cS ax l cx w) (hb : Below B w w') (hg : g < B) : BoxM g p aS n cS ax l cx w' :=
  ⟨(hb.cell (p := ⟨g, 0, none⟩) hg).trans h.1, (hb.cell (p := ⟨g, 1, none⟩) hg).trans h.2.1, (hb.cell (p := ⟨g, 2, none⟩) hg).trans h.2.2⟩
theorem BoxM.new (w : World) (p : Int) (aS : Option Addr) (n cS : Nat) (ax : Option Addr) (l cx : Nat) (T : TypeId) : BoxM w.heap.size p aS n cS ax l cx (w.alloc (.cells #[.int .i64 p, .slice aS n cS, .slice ax l cx] T)) :=
  ⟨by simp [go_sem], by simp [go_sem], by simp [go_sem]⟩
/-- The box of a multivector and that of its space. -/
def BoxV (g gs : Nat) (p : Int) (aS : Option Addr) (n cS : Nat) (ax : Option Addr) (l cx : Nat) (W : World) : Prop :=
  W.cell? ⟨g, 0, none⟩ = some (.int .i64 p) ∧ W.cell? ⟨g, 1, none⟩ = some (.slice aS n cS) ∧ W.cell? ⟨g, 2, none⟩ = some (.slice ax l cx) ∧ W.cell? ⟨gs, 0, none⟩ = some (.int .i64 p) ∧ W.cell? ⟨gs, 1, none⟩ = some (.slice aS n cS)
theorem BoxV.below {g gs : Nat} {p : Int} {aS ax : Option Addr} {n cS l cx B : Nat} {w w' : World} (h : BoxV g gs p aS n cS ax l cx w) (hb : Below B w w') (hg : g < B ∧ gs < B) : BoxV g gs p aS n cS ax l cx w' :=
  ⟨(hb.cell (p := ⟨g, 0, none⟩) hg.1).trans h.1, (hb.cell (p := ⟨g, 1, none⟩) hg.1).trans h.2.1, (hb.cell (p := ⟨g, 2, none⟩) hg.1).trans h.2.2.1, (hb.cell (p := ⟨gs, 0, none⟩) hg.2).trans h.2.2.2.1, (hb.cell (p := ⟨gs, 1, none⟩) hg.2).trans h.2.2.2.2⟩
theorem vwrap_pow {i : Nat} (h : i < 6) : IntKind.i64.wrap ((2 : Int) ^ i) = ((2 ^ i : Nat) : Int) := by
  have : i = 0 ∨ i = 1 ∨ i = 2 ∨ i = 3 ∨ i = 4 ∨ i = 5 := by omega
  rcases this with rfl | rfl | rfl | rfl | rfl | rfl <;> exact IntWalk.i64_in _ (by decide)
end Go.Proofs.Ytckpcfhmppdghaa

namespace Go.Proofs.Ytckpcfhmppdghaa
open Go.RowKit
set_option linter.unusedVariables false

/-! ### Powers -/
def pwF (p : Int) : Nat → Nat → List (List Int) → List (List Int) → List (List Int)
  | 0, _, out, _ => out
  | f + 1, k, out, step => if k = 0 then out else pwF p f (k / 2) (if k % 2 = 1 then mulM p out step else out) (mulM p step step)
def powM (p : Int) (m : List (List Int)) (k : Nat) : List (List Int) := pwF p 11 k (oneM m.length) m
/-- A square matrix with n rows of numbers. -/
def Sq (p : Int) (m : List (List Int)) (n : Nat) : Prop := Rect p m n ∧ m.length = n
theorem Sq.one {p : Int} (hp : prm p = true) {n : Nat} (hn : n ≤ 1024) : Sq p (oneM n) n := by
  have := prm_bd hp
  refine ⟨⟨by unfold oneM; rw [mk_len]; exact hn, hn, fun i hi => ?_, fun i hi j hj => ?_⟩, by unfold oneM; rw [mk_len]⟩
  · unfold oneM at hi ⊢; rw [mk_len] at hi; exact mk_rowLen _ hi
  · unfold oneM at hi hj ⊢
    rw [mk_len] at hi
    rw [mk_rowLen _ hi] at hj
    have e : (rw' (mk n n fun i j => if i = j then 1 else 0) i).getD j 0 = if i = j then 1 else 0 := mk_at _ hi hj
    rw [e]; split <;> omega
theorem Sq.mul {p : Int} (hp : prm p = true) {a b : List (List Int)} {n : Nat} (ha : Sq p a n) (hb : Sq p b n) (h0 : 0 < n) : Sq p (mulM p a b) n := by
  have hb0 : (rw' b 0).length = n := hb.1.len 0 (by rw [hb.2]; exact h0)
  refine ⟨⟨by unfold mulM; rw [mk_len, ha.2]; have := hb.1.cols; omega, hb.1.cols, fun i hi => ?_, fun i hi j hj => ?_⟩, by unfold mulM; rw [mk_len, ha.2]⟩
  · unfold mulM at hi ⊢; rw [mk_len] at hi; rw [mk_rowLen _ hi, hb0]
  · unfold mulM at hi hj ⊢
    rw [mk_len] at hi
    rw [mk_rowLen _ hi] at hj
    have e : (rw' (mk a.length (rw' b 0).length fun i k => sm b.length (fun j => at' a i j * at' b j k) % p) i).getD j 0 = sm b.length (fun j' => at' a i j' * at' b j' j) % p := mk_at _ hi hj
    rw [e]; exact mod_bd hp _
theorem Sq.size {p : Int} {m : List (List Int)} {n : Nat} (h : Sq p m n) (hn : n ≤ 16) : m.length + tot m m.length ≤ 1048576 := by
  rw [tot_const h.1.len (Nat.le_refl _), h.2]
  have : n * n ≤ 16 * 16 := Nat.mul_le_mul hn hn
  omega
theorem Sq.of {p : Int} {m : List (List Int)} (h : Lst 1 p m) (k : m.length = (rw' m 0).length) : Sq p m m.length := ⟨by rw [k]; have := rect_of h; exact this, rfl⟩
/-- Where a loop of powers stands: f rounds may come. -/
def PwAt (p : Int) (m : List (List Int)) (k0 k f : Nat) (out step : List (List Int)) : Prop :=
  k < 2 ^ f ∧ f ≤ 11 ∧ pwF p f k out step = powM p m k0 ∧ Sq p out m.length ∧ Sq p step m.length
theorem PwAt.start {p : Int} {m : List (List Int)} {k : Nat} (h : Lst 1 p m) (hq : m.length = (rw' m 0).length) (hk : k ≤ 1000) : PwAt p m k k 11 (oneM m.length) m :=
  ⟨by omega, Nat.le_refl _, rfl, Sq.one h.prime (by have := h.hi; omega), Sq.of h hq⟩
theorem PwAt.even {p : Int} (hp : prm p = true) {m out step : List (List Int)} {k0 k f : Nat} (hm : 0 < m.length) (h : PwAt p m k0 k f out step) (hk : 0 < k) (ho : ¬ k % 2 = 1) : ∃ g, g < f ∧ PwAt p m k0 (k / 2) g out (mulM p step step) := by
  obtain ⟨h1, h2, h3, h4, h5⟩ := h
  cases f with
  | zero => simp at h1; omega
  | succ f =>
    refine ⟨f, Nat.lt_succ_self _, by rw [Nat.pow_succ] at h1; omega, by omega, ?_, h4, h5.mul hp h5 hm⟩
    unfold pwF at h3
    rw [if_neg (by omega), if_neg ho] at h3
    exact h3

theorem Sq.r2 {p : Int} {a b : List (List Int)} {n : Nat} (ha : Sq p a n) (hb : Sq p b n) : Rect p a b.length := by rw [hb.2]; exact ha.1
theorem Sq.r0 {p : Int} {b : List (List Int)} {n : Nat} (hb : Sq p b n) (h0 : 0 < n) : Rect p b (rw' b 0).length ∧ 0 < b.length := by
  rw [hb.1.len 0 (by rw [hb.2]; exact h0), hb.2]; exact ⟨hb.1, h0⟩
end Go.Proofs.Ytckpcfhmppdghaa

namespace Go.Proofs.Ytckpcfhmppdghaa
open Go.RowKit
set_option linter.unusedVariables false

set_option maxRecDepth 100000 in
set_option maxHeartbeats 3200000 in
theorem vectorNumbers_any (pS : Int) (aS : Option Addr) (S : List Int) (cS loS tpS : Nat) (az : Option Addr) (z : List Int) (cz loz tpz : Nat) (w : World) (hs : isSp pS S = true) (hS : RowIn loS tpS w aS S) (tS : tpS ≤ w.heap.size) (hz : RowIn loz tpz w az z) (tz : tpz ≤ w.heap.size) (lz : z.length = bl S) :
    Calls Try.prog 51 #[.agg #[.int .i64 pS, .slice aS S.length cS], .slice az z.length cz] w (NewRow S.length (vnF z) w) := by
  have HS := Lib.hid hS
  have HZ := Lib.hid hz
  have HLZ := Lib.hid lz
  have h6 := (isSp_iff.1 hs).hi
  have hl1 := (isSp_iff.1 hs).lo
  have HMK := Lib.hid (fun W => run_make_row' (P := Try.prog) 22 2 (.int .i64 0) 8 Try.underlying22 info64 rfl .i64 .i64 S.length (by omega) (by omega) W)
  have HB0 := Lib.hid (below_alloc w (.cells #[.int .i64 pS, .slice aS S.length cS] 29))
  have k0 := nw0 w (.int .i64 pS) (.slice aS S.length cS) 29
  have k1 := nw1 w (.int .i64 pS) (.slice aS S.length cS) 29
  clear hs hS hz lz
  go_enter Try.func51, Try.ntmps51
  go_upto_region 1 with fail
  obtain ⟨w1, hw1⟩ : ∃ z, z = w.alloc (.cells #[.int .i64 pS, .slice aS S.length cS] 29) := ⟨_, rfl⟩
  rw [← hw1] at HB0 k0 k1 ⊢
  have hw0 : w.heap.size < w1.heap.size := by rw [hw1]; simp
  clear hw1
  have hmk := HMK.out w1
  go_upto_region 2 with fail
  obtain ⟨W1, hW1⟩ : ∃ W1, W1 = w1.alloc (.cells (madeCells #[.int .i64 0] S.length) 2) := ⟨_, rfl⟩
  obtain ⟨g, hg⟩ : ∃ b, b = w1.heap.size := ⟨_, rfl⟩
  have HO1 : Hid (RowOwn W1 g 0 S.length (fun _ => 0)) := by show RowOwn _ _ _ _ _; rw [hW1, hg]; exact RowOwn.start w1 S.length _
  have HBW : Hid (Below w.heap.size w W1) := by show Below _ _ _; rw [hW1]; exact HB0.out.alloc HB0.out.size _
  have hu1 : g < W1.heap.size := by rw [hW1, hg]; simp
  have hwg : w.heap.size < g := by omega
  rw [← hW1, ← hg]
  clear hmk hW1 hg k0 k1
  go_wp2
  go_loopw [13] (fun t wr => ∃ i : Nat, i ≤ S.length ∧ t = .int .i64 i ∧ RowOwn wr g 0 S.length (fun j => if j < i then vnF z j else 0) ∧ Wrote g 0 S.length W1 wr) (fun t _ => S.length - (intOf t).toNat)
  case atStart => exact ⟨0, Nat.zero_le _, rfl, HO1.out.congr (fun j _ => (if_neg (Nat.not_lt_zero j)).symm), Wrote.refl _ _ _ _⟩
  case round =>
    obtain ⟨i, hi, rfl, hr, hw⟩ := hrel
    have HR := Lib.hid hr
    have HW := Lib.hid hw
    by_cases hlt : i < S.length
    · have hi6 : i < 6 := by omega
      obtain ⟨q, hq⟩ : ∃ q, q = 2 ^ i := ⟨_, rfl⟩
      have HQ := Lib.hid hq
      have hqn : q < z.length := by rw [hq, HLZ.out]; exact Nat.pow_lt_pow_right (by decide) hlt
      obtain ⟨b2, o2, ha2, l2, t2, hc2⟩ := ((HZ.out.below HBW.out tz).same (hw.same (Or.inr (Nat.le_trans tz (Nat.le_of_lt hwg))))).num hqn
      subst ha2
      have c0 := hr.cell i hlt
      have f0 := hr.free i hlt
      rw [Nat.zero_add] at c0 f0
      rw [if_neg (Nat.lt_irrefl i)] at c0
      have hi1 : (i : Int) < (S.length : Int) := by omega
      have e1 : wrap64 ((2 : Int) ^ i) = (q : Int) := by rw [hq]; exact wrap_pow hi6
      have e2 : IntKind.i64.wrap ((2 : Int) ^ i) = (q : Int) := by rw [hq]; exact vwrap_pow hi6
      have hq1 : (q : Int) < (z.length : Int) := Int.ofNat_lt.2 hqn
      clear hr hw hq
      go_wp2
      go_roundw
      case rel => exact ⟨i + 1, by omega, by go_num, row_put0 HR.out hlt (fun j _ => by
        by_cases e : j = i
        · subst e; rw [if_pos rfl, if_pos (Nat.lt_succ_self _)]; show _ = z.getD (2 ^ j) 0; rw [← HQ.out]; exact (getD_at hqn).symm
        · rw [if_neg e]
          by_cases e3 : j < i
          · rw [if_pos e3, if_pos (by omega)]
          · rw [if_neg e3, if_neg (by omega)]), wrote_put0 HW.out hlt _⟩
      case measure => simp [intOf]; omega
    · have hn : i = S.length := by omega
      subst hn
      have HN : Hid (RowOwn wr g 0 S.length (vnF z)) := hr.congr (fun j hj => if_pos hj)
      have hzw : wr.heap.size = W1.heap.size := hw.size
      clear hr hw
      go_wp2
      go_ret
      exact ⟨g, rfl, Nat.le_of_lt hwg, by rw [hzw]; exact hu1, HN.out, HBW.out.trans (HW.out.belowB (Nat.le_of_lt hwg))⟩

end Go.Proofs.Ytckpcfhmppdghaa

namespace Go.Proofs.Ytckpcfhmppdghaa
open Go.RowKit
set_option linter.unusedVariables false

theorem norm_any (pS : Int) (aS : Option Addr) (S : List Int) (cS loS tpS : Nat) (av : Option Addr) (v : List Int) (cv lov tpv : Nat) (w : World)
    (hS : RowIn loS tpS w aS S) (tS : tpS ≤ w.heap.size) (hv : RowIn lov tpv w av v) (tv : tpv ≤ w.heap.size) (hs : isSp pS S = true) (h1 : isVec pS S.length v = true) :
    Calls Try.prog 52 #[.agg #[.int .i64 pS, .slice aS S.length cS], .slice av v.length cv] w fun e w' => e = .returned (.int .i64 (pairN pS S v v)) ∧ Below w.heap.size w w' := by
  have HS := Lib.hid hS
  have Hv := Lib.hid hv
  have HI := Lib.hid hs
  have HV1 := Lib.hid h1
  clear hS hv hs h1
  go_enter Try.func52, Try.ntmps52
  go_wp2_with (first | (go_at_call 79; (with_reducible refine (pair_any pS aS S cS loS tpS av v cv lov tpv av v cv lov tpv _ (HS.out.below ((Below.refl _ _).alloc (Nat.le_refl _) (.cells #[.int .i64 pS, .slice aS S.length cS] 29)) tS) (Nat.le_trans tS (((Below.refl _ _).alloc (Nat.le_refl _) (.cells #[.int .i64 pS, .slice aS S.length cS] 29))).size) (Hv.out.below ((Below.refl _ _).alloc (Nat.le_refl _) (.cells #[.int .i64 pS, .slice aS S.length cS] 29)) tv) (Nat.le_trans tv (((Below.refl _ _).alloc (Nat.le_refl _) (.cells #[.int .i64 pS, .slice aS S.length cS] 29))).size) (Hv.out.below ((Below.refl _ _).alloc (Nat.le_refl _) (.cells #[.int .i64 pS, .slice aS S.length cS] 29)) tv) (Nat.le_trans tv (((Below.refl _ _).alloc (Nat.le_refl _) (.cells #[.int .i64 pS, .slice aS S.length cS] 29))).size) HI.out HV1.out HV1.out).mono ?_); rintro e w2 ⟨rfl, b2⟩; have B2 := Lib.hid b2; have K2_0_0 := (b2.cell (p := ⟨w.heap.size, 0, none⟩) (Nat.lt_of_lt_of_le (show w.heap.size < (w.alloc (.cells #[.int .i64 pS, .slice aS S.length cS] 29)).heap.size by simp) (Nat.le_refl _))).trans (show (w.alloc (.cells #[.int .i64 pS, .slice aS S.length cS] 29)).cell? ⟨w.heap.size, 0, none⟩ = some (.int .i64 pS) by simp [go_sem]); have K2_0_1 := (b2.cell (p := ⟨w.heap.size, 1, none⟩) (Nat.lt_of_lt_of_le (show w.heap.size < (w.alloc (.cells #[.int .i64 pS, .slice aS S.length cS] 29)).heap.size by simp) (Nat.le_refl _))).trans (show (w.alloc (.cells #[.int .i64 pS, .slice aS S.length cS] 29)).cell? ⟨w.heap.size, 1, none⟩ = some (.slice aS S.length cS) by simp [go_sem]); clear b2))
  go_ret
  exact ⟨rfl, (below_step ((Below.refl _ _).alloc (Nat.le_refl _) (.cells #[.int .i64 pS, .slice aS S.length cS] 29)) (show w.heap.size ≤ (w.alloc (.cells #[.int .i64 pS, .slice aS S.length cS] 29)).heap.size from (((Below.refl _ _).alloc (Nat.le_refl _) (.cells #[.int .i64 pS, .slice aS S.length cS] 29))).size) B2.out)⟩

end Go.Proofs.Ytckpcfhmppdghaa

namespace Go.Proofs.Ytckpcfhmppdghaa
open Go.RowKit
set_option linter.unusedVariables false

/-- What the method root hands back: the prime and the value of the root (0 and 0 if there is none), and whether there is one. -/
def rtP (p a : Int) : Int := if rt p a < 0 then 0 else p
def rtV (p a : Int) : Int := if rt p a < 0 then 0 else rt p a
def rtB (p a : Int) : Bool := decide (0 ≤ rt p a)
theorem rt_yes {p a : Int} (h : 0 ≤ rt p a) : rtP p a = p ∧ rtV p a = rt p a ∧ rtB p a = true := by
  have h1 : ¬ rt p a < 0 := by omega
  simp [rtP, rtV, rtB, h, h1]
theorem rt_no {p a : Int} (h : rt p a < 0) : rtP p a = 0 ∧ rtV p a = 0 ∧ rtB p a = false := by
  have h1 : ¬ 0 ≤ rt p a := by omega
  simp [rtP, rtV, rtB, h]

set_option maxHeartbeats 1600000 in
theorem root_any (p a : Int) (w : World) (hp : prm p = true) (a0 : 0 ≤ a) (a1 : a < p) :
    Calls Try.prog 53 #[.agg #[.int .i64 p, .int .i64 a]] w fun e w' => e = .returned (.tuple #[.agg #[.int .i64 (rtP p a), .int .i64 (rtV p a)], .bool (rtB p a)]) ∧ Below w.heap.size w w' := by
  have hb := prm_bd hp
  obtain ⟨v0, v1⟩ := rtEnd_bd hp a0 a1
  have HP := Lib.hid hp
  clear hp
  go_enter Try.func53, Try.ntmps53
  go_wp2
  go_loopw [8] (fun t wr => ∃ r : Int, 0 ≤ r ∧ r ≤ rtEnd p a ∧ t = .int .i64 r ∧ NumAt wr w.heap.size p a ∧ NumAt wr (w.heap.size + 1) 0 0 ∧ Below w.heap.size w wr ∧ w.heap.size + 2 ≤ wr.heap.size) (fun t _ => (rtEnd p a - intOf t).toNat)
  case atStart => exact ⟨0, by omega, by omega, rfl, (numAt_new w p a _).alloc (by simp) _, numAt_new1 w _ 0 0 _, by ((repeat' (first | with_reducible exact Below.refl _ _ | (with_reducible refine Below.setCell ?_ ?_ _) | (with_reducible refine Below.alloc ?_ ?_ _) | (with_reducible refine Below.drew ?_))); all_goals (first | (simp; done) | omega | (simp; omega))), by simp⟩
  case round =>
    obtain ⟨r, r0, r1, rfl, n0, n1, hbel, hz⟩ := hrel
    by_cases hlt : r < p
    · obtain ⟨q0, q1⟩ := mod_bd HP.out (r * r)
      have hi := rt_iff HP.out a0 a1 r0 hlt r1
      have N0 := Lib.hid n0
      have z0 : w.heap.size < wr.heap.size := by omega
      have z1 : w.heap.size + 1 < wr.heap.size := by omega
      obtain ⟨g00, g01, k00, k01⟩ := n0
      by_cases hq : r = rt p a
      · have ht := hi.2 hq
        have HR : Hid (rtP p a = p ∧ rtV p a = r ∧ rtB p a = true) := by
          obtain ⟨h1, h2, h3⟩ := rt_yes (p := p) (a := a) (by omega)
          exact ⟨h1, h2.trans hq.symm, h3⟩
        clear hi hq
        go_wp2
        go_region_with (go_at_call 80; refine (times_any p r r _ HP.out r0 hlt r0 hlt).mono ?_; rintro e w1 ⟨rfl, hb1⟩; obtain ⟨e0, e1, h0, h1⟩ := (N0.out.alloc (by omega) _).drew.keep hb1 (by simp; omega); obtain ⟨x0, x1, y0, y1⟩ := (numAt_new wr p r _).drew.keep hb1 (by simp); obtain ⟨s0, s1, t0, t1⟩ := (n1.alloc (by omega) _).drew.keep hb1 (by simp; omega))
        all_goals
          go_wp2
          refine bodyPost_ret (v := .tuple #[.agg #[.int .i64 p, .int .i64 r], .bool true]) (by simp [results, Try.results53, go_sem, s0, s1]) rfl ⟨by rw [HR.out.1, HR.out.2.1, HR.out.2.2], ?_⟩
          (have hs_hb1 := hb1.size; have hs_hbel := hbel.size; (repeat' (first | with_reducible exact Below.refl _ _ | (with_reducible refine Below.setCell ?_ ?_ _) | (with_reducible refine Below.alloc ?_ ?_ _) | (with_reducible refine Below.drew ?_) | (with_reducible refine below_step ?_ ?_ hb1) | (with_reducible refine below_step ?_ ?_ hbel))); all_goals (first | (simp; done) | omega | (simp; omega) | (simp at hs_hb1 hs_hbel ⊢; omega)))
      · have ht : ¬ r * r % p = a := fun h => hq (hi.1 h)
        have hr1 : r + 1 ≤ rtEnd p a := by
          have h1 := rt_bd HP.out a0 a1
          unfold rtEnd at r1 v0 v1 ⊢
          split at r1 <;> omega
        clear hi
        have N1 := Lib.hid n1
        clear n1
        go_wp2
        go_region_with (go_at_call 80; refine (times_any p r r _ HP.out r0 hlt r0 hlt).mono ?_; rintro e w1 ⟨rfl, hb1⟩; obtain ⟨e0, e1, h0, h1⟩ := (N0.out.alloc (by omega) _).drew.keep hb1 (by simp; omega); obtain ⟨x0, x1, y0, y1⟩ := (numAt_new wr p r _).drew.keep hb1 (by simp); obtain ⟨s0, s1, t0, t1⟩ := (N1.out.alloc (by omega) _).drew.keep hb1 (by simp; omega))
        all_goals
          go_wp2
          go_roundw
          case rel =>
            have hs1 := hb1.size
            simp at hs1
            exact ⟨r + 1, by omega, by omega, rfl, ⟨e0, e1, h0, h1⟩, ⟨s0, s1, t0, t1⟩, by (have hs_hb1 := hb1.size; have hs_hbel := hbel.size; (repeat' (first | with_reducible exact Below.refl _ _ | (with_reducible refine Below.setCell ?_ ?_ _) | (with_reducible refine Below.alloc ?_ ?_ _) | (with_reducible refine Below.drew ?_) | (with_reducible refine below_step ?_ ?_ hb1) | (with_reducible refine below_step ?_ ?_ hbel))); all_goals (first | (simp; done) | omega | (simp; omega) | (simp at hs_hb1 hs_hbel ⊢; omega))), by omega⟩
          case measure => simp [intOf]; omega
    · have HR : Hid (rtP p a = 0 ∧ rtV p a = 0 ∧ rtB p a = false) := by
        refine rt_no (p := p) (a := a) ?_
        have h1 := rt_bd HP.out a0 a1
        unfold rtEnd at r1
        split at r1 <;> omega
      obtain ⟨s0, s1, t0, t1⟩ := n1
      go_wp2
      refine bodyPost_ret (v := .tuple #[.agg #[.int .i64 0, .int .i64 0], .bool false]) (by simp [results, Try.results53, go_sem, s0, s1]) rfl ⟨by rw [HR.out.1, HR.out.2.1, HR.out.2.2], ?_⟩
      (have hs_hbel := hbel.size; (repeat' (first | with_reducible exact Below.refl _ _ | (with_reducible refine Below.setCell ?_ ?_ _) | (with_reducible refine Below.alloc ?_ ?_ _) | (with_reducible refine Below.drew ?_) | (with_reducible refine below_step ?_ ?_ hbel))); all_goals (first | (simp; done) | omega | (simp; omega) | (simp at hs_hbel ⊢; omega)))

end Go.Proofs.Ytckpcfhmppdghaa

namespace Go.Proofs.Ytckpcfhmppdghaa
open Go.RowKit
set_option linter.unusedVariables false
set_option linter.unusedSimpArgs false

theorem ca_new0 {W : World} {x y : Value} {t : TypeId} {g : Nat} (hg : g = W.heap.size) : (W.alloc (.cells #[x, y] t)).cell? ⟨g, 0, none⟩ = some x := by subst hg; exact nw0 W x y t
theorem ca_new1 {W : World} {x y : Value} {t : TypeId} {g : Nat} (hg : g = W.heap.size) : (W.alloc (.cells #[x, y] t)).cell? ⟨g, 1, none⟩ = some y := by subst hg; exact nw1 W x y t
theorem cs_same {W : World} {a : Addr} {v : Value} (h : ∃ u, W.cell? a = some u) : (W.setCell a v).cell? a = some v := by obtain ⟨u, hu⟩ := h; exact World.cell?_setCell_same W _ _ hu
theorem cs_other {W : World} {a a' : Addr} {v u : Value} (ne : a' ≠ a) (h : W.cell? a = some u) : (W.setCell a' v).cell? a = some u := (World.cell?_setCell_other _ _ _ _ ne).trans h
theorem ca_old {W : World} {o : Obj} {a : Addr} {u : Value} (h : W.cell? a = some u) : (W.alloc o).cell? a = some u := Lib.cell?_alloc_some o h
theorem cd_ {W : World} {a : Addr} {u : Value} (h : W.cell? a = some u) : W.drew.cell? a = some u := h
theorem cell_lt {W : World} {a : Addr} {v : Value} (h : W.cell? a = some v) : a.block < W.heap.size := by
  rcases Nat.lt_or_ge a.block W.heap.size with h' | h'
  · exact h'
  · simp [World.cell?, Array.getElem?_eq_none h'] at h
theorem cb_ {W W' : World} {a : Addr} {u : Value} (hb : Below W.heap.size W W') (h : W.cell? a = some u) : W'.cell? a = some u := (hb.cell (p := a) (cell_lt h)).trans h
def Live (W : World) (a : Addr) (u : Value) : Prop := W.cell? a = some u ∧ W.frozen? a = false
theorem lv_new0 {W : World} {x y : Value} {t : TypeId} {g : Nat} (hg : g = W.heap.size) : Live (W.alloc (.cells #[x, y] t)) ⟨g, 0, none⟩ x := by subst hg; exact ⟨nw0 W x y t, by simp [go_sem]⟩
theorem lv_new1 {W : World} {x y : Value} {t : TypeId} {g : Nat} (hg : g = W.heap.size) : Live (W.alloc (.cells #[x, y] t)) ⟨g, 1, none⟩ y := by subst hg; exact ⟨nw1 W x y t, by simp [go_sem]⟩
theorem lv_old {W : World} {o : Obj} {a : Addr} {u : Value} (h : Live W a u) : Live (W.alloc o) a u := ⟨ca_old h.1, ((below_alloc W o).frozen (p := a) (cell_lt h.1)).trans h.2⟩
theorem lv_drew {W : World} {a : Addr} {u : Value} (h : Live W a u) : Live W.drew a u := h
theorem lv_below {W W' : World} {a : Addr} {u : Value} (hb : Below W.heap.size W W') (h : Live W a u) : Live W' a u := ⟨cb_ hb h.1, (hb.frozen (p := a) (cell_lt h.1)).trans h.2⟩
theorem ex_here {W : World} {a : Addr} {u : Value} (h : W.cell? a = some u) : ∃ u, W.cell? a = some u := ⟨u, h⟩
theorem ex_set {W : World} {a a' : Addr} {v : Value} (h : ∃ u, W.cell? a = some u) : ∃ u, (W.setCell a' v).cell? a = some u := by
  obtain ⟨u, hu⟩ := h
  by_cases e : a' = a
  · subst e; exact ⟨v, World.cell?_setCell_same W _ _ hu⟩
  · exact ⟨u, cs_other e hu⟩
theorem ex_old {W : World} {o : Obj} {a : Addr} (h : ∃ u, W.cell? a = some u) : ∃ u, (W.alloc o).cell? a = some u := by obtain ⟨u, hu⟩ := h; exact ⟨u, ca_old hu⟩
theorem ex_new0 {W : World} {x y : Value} {t : TypeId} {g : Nat} (hg : g = W.heap.size) : ∃ u, (W.alloc (.cells #[x, y] t)).cell? ⟨g, 0, none⟩ = some u := ⟨x, ca_new0 hg⟩
theorem ex_new1 {W : World} {x y : Value} {t : TypeId} {g : Nat} (hg : g = W.heap.size) : ∃ u, (W.alloc (.cells #[x, y] t)).cell? ⟨g, 1, none⟩ = some u := ⟨y, ca_new1 hg⟩
theorem ex_drew {W : World} {a : Addr} (h : ∃ u, W.cell? a = some u) : ∃ u, W.drew.cell? a = some u := h
theorem sm_refl (lo hi : Nat) (w : World) : Same lo hi w w := fun _ _ _ => rfl
theorem sm_set {lo hi g i : Nat} {w W : World} {v : Value} (h : Same lo hi w W) (hg : g < lo ∨ hi ≤ g) : Same lo hi w (W.setCell ⟨g, i, none⟩ v) := fun k k0 k1 => (Below.heap_setCell _ _ _ _ (show k ≠ g by omega)).trans (h k k0 k1)
theorem sm_alloc {lo hi : Nat} {w W : World} {o : Obj} (h : Same lo hi w W) (hh : hi ≤ W.heap.size) : Same lo hi w (W.alloc o) := fun k k0 k1 => (Below.heap_alloc _ _ _ (by omega)).trans (h k k0 k1)
theorem sm_drew {lo hi : Nat} {w W : World} (h : Same lo hi w W) : Same lo hi w W.drew := h
theorem sm_below {lo hi : Nat} {w W W' : World} (hb : Below W.heap.size W W') (h : Same lo hi w W) (hh : hi ≤ W.heap.size) : Same lo hi w W' := fun k k0 k1 => (hb.block k (by omega)).trans (h k k0 k1)

end Go.Proofs.Ytckpcfhmppdghaa
