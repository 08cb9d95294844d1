/-
  Spaces: what they are, and their checks in the program and in the model.
  Conditions: the list of squares is nil or a row of known cells, of at most 1048576 numbers.
  Products of vectors of a space, in the program and in the model; checks of lists of vectors.
  Conditions: the lists are nil or rows of known cells, of at most 1048576 numbers.
  Vectors orthogonal to others: the equations, and what the equation 0 = 0 does. No Go in sight.
  No conditions.
  The program's products of vectors and checks of spaces and vectors.
  Conditions: the lists are nil or rows of known cells, of at most 1048576 numbers.
  Checks of spaces and lists of vectors in the program; of vectors in the model.
  Conditions: the lists are nil or rows of known cells, of at most 1048576 numbers.
-/
import Derived.Test.YtdfkpbmccmbjmaaQg8
import Derived.Test.YtdfkpbmccmbjmaaQg13
import Derived.BigQuiet
import Derived.Deep.QuietTactic
import Derived.RegionTactic
import Derived.Test.YtdfkpbmccmbjmaaQg12
import Derived.Deep.LoopGhost
namespace Go.Proofs.Ytdfkpbmccmbjmaa
open Go.RowKit
set_option linter.unusedVariables false

def isSp (p : Int) (S : List Int) : Bool := prm p && decide (1 ≤ S.length ∧ S.length ≤ 6) && S.all (inr p)
structure Spa (p : Int) (S : List Int) : Prop where
  prime : prm p = true
  lo : 1 ≤ S.length
  hi : S.length ≤ 6
  all : S.all (inr p) = true
theorem isSp_iff {p : Int} {S : List Int} : isSp p S = true ↔ Spa p S := by
  unfold isSp
  simp only [Bool.and_eq_true, decide_eq_true_eq]
  exact ⟨fun h => ⟨h.1.1, h.1.2.1, h.1.2.2, h.2⟩, fun h => ⟨⟨h.prime, h.lo, h.hi⟩, h.all⟩⟩
theorem isSp_no {p : Int} {S : List Int} (h : ¬ Spa p S) : isSp p S = false := by
  cases e : isSp p S with
  | false => rfl
  | true => exact absurd (isSp_iff.1 e) h
theorem Spa.num {p : Int} {S : List Int} (h : Spa p S) {j : Nat} (hj : j < S.length) : 0 ≤ S.getD j 0 ∧ S.getD j 0 < p := by
  have ha := h.all
  rw [List.all_eq_true] at ha
  exact inr_iff.1 (ha _ (by rw [getD_at hj]; exact List.getElem_mem hj))

set_option maxHeartbeats 800000 in
theorem isSpace_any (p : Int) (a : Option Addr) (S : List Int) (c lo tp : Nat) (w : World) (h : RowIn lo tp w a S) (ht : tp ≤ w.heap.size) (hs : S.length ≤ 1048576) :
    Calls Try.prog 44 #[.agg #[.int .i64 p, .slice a S.length c]] w fun e w' => e = .returned (.bool (isSp p S)) ∧ Below w.heap.size w w' := by
  have H := Lib.hid h
  clear h
  by_cases h1 : 1 ≤ S.length
  · by_cases h2 : S.length ≤ 6
    · rcases code_cases p S with ⟨hp, hc⟩ | ⟨hp, ha, hc⟩ | ⟨hp, ha, hc⟩
      · have HC := Lib.hid hc
        have HV : Hid (isSp p S = false) := isSp_no (fun k => by have := k.prime; rw [hp] at this; cases this)
        clear hc hp
        go_enter Try.func44, Try.ntmps44
        go_wp2_with (go_at_call 48; (with_reducible refine (checkRow_any p a S c lo tp _ (H.out.below ((Below.refl _ _).alloc (Nat.le_refl _) _) ht) (by omega)).mono ?_); rintro e w1 ⟨rfl, rfl⟩; rw [HC.out])
        go_ret
        exact ⟨by rw [HV.out]; rfl, by ((repeat' (first | with_reducible exact Below.refl _ _ | (with_reducible refine Below.setCell ?_ ?_ _) | (with_reducible refine Below.alloc ?_ ?_ _) | (with_reducible refine Below.drew ?_))); all_goals (first | (simp; done) | omega | (simp; omega)))⟩
      · have HC := Lib.hid hc
        have HV : Hid (isSp p S = true) := isSp_iff.2 ⟨hp, h1, h2, ha⟩
        clear hc hp ha
        go_enter Try.func44, Try.ntmps44
        go_wp2_with (go_at_call 48; (with_reducible refine (checkRow_any p a S c lo tp _ (H.out.below ((Below.refl _ _).alloc (Nat.le_refl _) _) ht) (by omega)).mono ?_); rintro e w1 ⟨rfl, rfl⟩; rw [HC.out])
        go_ret
        exact ⟨by rw [HV.out]; rfl, by ((repeat' (first | with_reducible exact Below.refl _ _ | (with_reducible refine Below.setCell ?_ ?_ _) | (with_reducible refine Below.alloc ?_ ?_ _) | (with_reducible refine Below.drew ?_))); all_goals (first | (simp; done) | omega | (simp; omega)))⟩
      · have HC := Lib.hid hc
        have HV : Hid (isSp p S = false) := isSp_no (fun k => by have := k.all; rw [ha] at this; cases this)
        clear hc hp ha
        go_enter Try.func44, Try.ntmps44
        go_wp2_with (go_at_call 48; (with_reducible refine (checkRow_any p a S c lo tp _ (H.out.below ((Below.refl _ _).alloc (Nat.le_refl _) _) ht) (by omega)).mono ?_); rintro e w1 ⟨rfl, rfl⟩; rw [HC.out])
        go_ret
        exact ⟨by rw [HV.out]; rfl, by ((repeat' (first | with_reducible exact Below.refl _ _ | (with_reducible refine Below.setCell ?_ ?_ _) | (with_reducible refine Below.alloc ?_ ?_ _) | (with_reducible refine Below.drew ?_))); all_goals (first | (simp; done) | omega | (simp; omega)))⟩
    · have HV : Hid (isSp p S = false) := isSp_no (fun k => h2 k.hi)
      go_enter Try.func44, Try.ntmps44
      go_wp2
      go_ret
      exact ⟨by rw [HV.out]; rfl, by ((repeat' (first | with_reducible exact Below.refl _ _ | (with_reducible refine Below.setCell ?_ ?_ _) | (with_reducible refine Below.alloc ?_ ?_ _) | (with_reducible refine Below.drew ?_))); all_goals (first | (simp; done) | omega | (simp; omega)))⟩
  · have HV : Hid (isSp p S = false) := isSp_no (fun k => h1 k.lo)
    go_enter Try.func44, Try.ntmps44
    go_wp2
    go_ret
    exact ⟨by rw [HV.out]; rfl, by ((repeat' (first | with_reducible exact Below.refl _ _ | (with_reducible refine Below.setCell ?_ ?_ _) | (with_reducible refine Below.alloc ?_ ?_ _) | (with_reducible refine Below.drew ?_))); all_goals (first | (simp; done) | omega | (simp; omega)))⟩

set_option maxHeartbeats 800000 in
theorem l03Is_any (p : Int) (a : Option Addr) (S : List Int) (c lo tp : Nat) (w : World) (h : RowIn lo tp w a S) (ht : tp ≤ w.heap.size) (hs : S.length ≤ 1048576) :
    Calls Try.prog 20 #[.agg #[.int .i64 p, .slice a S.length c]] w fun e w' => e = .returned (.bool (isSp p S)) ∧ Below w.heap.size w w' := by
  have H := Lib.hid h
  clear h
  by_cases hp : prm p = true
  · have HP := Lib.hid hp
    clear hp
    by_cases h1 : 1 ≤ S.length ∧ S.length ≤ 6
    · have hb : (1 : Int) ≤ (S.length : Int) ∧ (S.length : Int) ≤ 6 := by omega
      by_cases ha : S.all (inr p) = true
      · have HA := Lib.hid ha
        have HV : Hid (isSp p S = true) := isSp_iff.2 ⟨HP.out, h1.1, h1.2, ha⟩
        clear ha h1
        go_enter Try.func20, Try.ntmps20
        go_wp2_with (first | (go_at_call 37; refine (l01Prime_any _ _).mono ?_; rintro e w1 ⟨rfl, rfl⟩; rw [HP.out]) | (go_at_call 38; refine (l01In_yes _ _ _ _ hb.1 hb.2).mono ?_; rintro e w1 ⟨rfl, rfl⟩) | (go_at_call 39; (with_reducible refine (numsRow p a S c lo tp _ HP.out (H.out.below ((Below.refl _ _).alloc (Nat.le_refl _) _) ht) (by omega)).mono ?_); rintro e w1 ⟨rfl, rfl⟩; rw [HA.out]))
        go_ret
        exact ⟨by rw [HV.out]; rfl, by ((repeat' (first | with_reducible exact Below.refl _ _ | (with_reducible refine Below.setCell ?_ ?_ _) | (with_reducible refine Below.alloc ?_ ?_ _) | (with_reducible refine Below.drew ?_))); all_goals (first | (simp; done) | omega | (simp; omega)))⟩
      · have HA : Hid (S.all (inr p) = false) := by show _ = _; simpa using ha
        have HV : Hid (isSp p S = false) := isSp_no (fun k => ha k.all)
        clear ha h1
        go_enter Try.func20, Try.ntmps20
        go_wp2_with (first | (go_at_call 37; refine (l01Prime_any _ _).mono ?_; rintro e w1 ⟨rfl, rfl⟩; rw [HP.out]) | (go_at_call 38; refine (l01In_yes _ _ _ _ hb.1 hb.2).mono ?_; rintro e w1 ⟨rfl, rfl⟩) | (go_at_call 39; (with_reducible refine (numsRow p a S c lo tp _ HP.out (H.out.below ((Below.refl _ _).alloc (Nat.le_refl _) _) ht) (by omega)).mono ?_); rintro e w1 ⟨rfl, rfl⟩; rw [HA.out]))
        go_ret
        exact ⟨by rw [HV.out]; rfl, by ((repeat' (first | with_reducible exact Below.refl _ _ | (with_reducible refine Below.setCell ?_ ?_ _) | (with_reducible refine Below.alloc ?_ ?_ _) | (with_reducible refine Below.drew ?_))); all_goals (first | (simp; done) | omega | (simp; omega)))⟩
    · have hb : ¬ ((1 : Int) ≤ (S.length : Int) ∧ (S.length : Int) ≤ 6) := by omega
      have HB := Lib.hid hb
      have HV : Hid (isSp p S = false) := isSp_no (fun k => h1 ⟨k.lo, k.hi⟩)
      clear h1 hb
      go_enter Try.func20, Try.ntmps20
      go_wp2_with (first | (go_at_call 37; refine (l01Prime_any _ _).mono ?_; rintro e w1 ⟨rfl, rfl⟩; rw [HP.out]) | (go_at_call 38; refine (l01In_no _ _ _ _ HB.out).mono ?_; rintro e w1 ⟨rfl, rfl⟩))
      go_ret
      exact ⟨by rw [HV.out]; rfl, by ((repeat' (first | with_reducible exact Below.refl _ _ | (with_reducible refine Below.setCell ?_ ?_ _) | (with_reducible refine Below.alloc ?_ ?_ _) | (with_reducible refine Below.drew ?_))); all_goals (first | (simp; done) | omega | (simp; omega)))⟩
  · have HP : Hid (prm p = false) := by show _ = _; simpa using hp
    have HV : Hid (isSp p S = false) := isSp_no (fun k => hp k.prime)
    clear hp
    go_enter Try.func20, Try.ntmps20
    go_wp2_with (first | (go_at_call 37; refine (l01Prime_any _ _).mono ?_; rintro e w1 ⟨rfl, rfl⟩; rw [HP.out]))
    go_ret
    exact ⟨by rw [HV.out]; rfl, by ((repeat' (first | with_reducible exact Below.refl _ _ | (with_reducible refine Below.setCell ?_ ?_ _) | (with_reducible refine Below.alloc ?_ ?_ _) | (with_reducible refine Below.drew ?_))); all_goals (first | (simp; done) | omega | (simp; omega)))⟩

end Go.Proofs.Ytdfkpbmccmbjmaa

namespace Go.Proofs.Ytdfkpbmccmbjmaa
open Go.RowKit
set_option linter.unusedVariables false

def isVec (p : Int) (n : Nat) (v : List Int) : Bool := decide (v.length = n) && v.all (inr p)
structure Vec (p : Int) (n : Nat) (v : List Int) : Prop where
  len : v.length = n
  all : v.all (inr p) = true
theorem isVec_iff {p : Int} {n : Nat} {v : List Int} : isVec p n v = true ↔ Vec p n v := by
  unfold isVec
  simp only [Bool.and_eq_true, decide_eq_true_eq]
  exact ⟨fun h => ⟨h.1, h.2⟩, fun h => ⟨h.len, h.all⟩⟩
theorem Vec.num {p : Int} {n : Nat} {v : List Int} (h : Vec p n v) {j : Nat} (hj : j < n) : 0 ≤ v.getD j 0 ∧ v.getD j 0 < p := by
  have ha := h.all
  have hl := h.len
  rw [List.all_eq_true] at ha
  exact inr_iff.1 (ha _ (by rw [getD_at (by omega : j < v.length)]; exact List.getElem_mem _))
/-- The sum of products up to i. -/
def psum (S v w : List Int) (i : Nat) : Int := sm i fun j => v.getD j 0 * w.getD j 0 * S.getD j 0
def pairN (p : Int) (S v w : List Int) : Int := psum S v w S.length % p
theorem prod3 {p x y z : Int} (hp : p ≤ 13) (x0 : 0 ≤ x) (x1 : x < p) (y0 : 0 ≤ y) (y1 : y < p) (z0 : 0 ≤ z) (z1 : z < p) : 0 ≤ x * y ∧ x * y ≤ 144 ∧ 0 ≤ x * y * z ∧ x * y * z ≤ 1728 := by
  have a0 : 0 ≤ x * y := Int.mul_nonneg x0 y0
  have a1 : x * y ≤ 12 * 12 := Int.le_trans (Int.mul_le_mul_of_nonneg_right (by omega : x ≤ 12) y0) (Int.mul_le_mul_of_nonneg_left (by omega) (by omega))
  have b0 : 0 ≤ x * y * z := Int.mul_nonneg a0 z0
  have b1 : x * y * z ≤ 144 * 12 := Int.le_trans (Int.mul_le_mul_of_nonneg_right (by omega : x * y ≤ 144) z0) (Int.mul_le_mul_of_nonneg_left (by omega) (by omega))
  omega
theorem psum_bd {p : Int} {S v w : List Int} {n : Nat} (hp : p ≤ 13) (hS : ∀ j, j < n → 0 ≤ S.getD j 0 ∧ S.getD j 0 < p) (hv : ∀ j, j < n → 0 ≤ v.getD j 0 ∧ v.getD j 0 < p) (hw : ∀ j, j < n → 0 ≤ w.getD j 0 ∧ w.getD j 0 < p) {i : Nat} (hi : i ≤ n) :
    0 ≤ psum S v w i ∧ psum S v w i ≤ i * 1728 :=
  sm_bd (fun j hj => by
    obtain ⟨_, _, h3, h4⟩ := prod3 hp (hv j (by omega)).1 (hv j (by omega)).2 (hw j (by omega)).1 (hw j (by omega)).2 (hS j (by omega)).1 (hS j (by omega)).2
    exact ⟨h3, h4⟩)
end Go.Proofs.Ytdfkpbmccmbjmaa

namespace Go.Proofs.Ytdfkpbmccmbjmaa
set_option linter.unusedVariables false

def ortF (p : Int) (S : List Int) (m : List (List Int)) (i k : Nat) : Int := at' m i k * S.getD k 0 % p
def ortM (p : Int) (S : List Int) (m : List (List Int)) : List (List Int) := mk m.length S.length (ortF p S m)
def zrow (c : Nat) : List Int := mkR c fun _ => 0
theorem zrow_len (c : Nat) : (zrow c).length = c := mkR_len _ _
theorem nul_zero {p : Int} {c : Nat} {E : List (List Int)} (x : Nat → Int) : nul p (zrow c :: E).length c (at' (zrow c :: E)) x ↔ nul p E.length c (at' E) x := by
  constructor
  · intro h i hi
    have := h (i + 1) (by simp; omega)
    rwa [at_cons] at this
  · intro h i hi
    cases i with
    | zero =>
      rw [at_cons0]
      have e : sm c (fun j => num (zrow c) j * x j) = sm c (fun _ => 0) := sm_congr fun j hj => by
        have : num (zrow c) j = 0 := mkR_at _ hj
        rw [this, Int.zero_mul]
      rw [e, sm_zero]; rfl
    | succ i =>
      rw [at_cons]
      exact h i (by simp at hi; omega)
theorem isBas_zero {p : Int} {c : Nat} {E m : List (List Int)} : IsBas p c (zrow c :: E) m ↔ IsBas p c E m :=
  ⟨fun h => ⟨h.len, h.red, fun x => (nul_zero x).symm.trans (h.nul x)⟩, fun h => ⟨h.len, h.red, fun x => (nul_zero x).trans (h.nul x)⟩⟩
theorem bas_zero {p : Int} {c : Nat} {E : List (List Int)} (hp : 1 < p) (h0 : (rw' E 0).length = c) : bas p (zrow c :: E) = bas p E := by
  have e0 : (rw' (zrow c :: E) 0).length = c := zrow_len c
  by_cases hx : ∃ m, IsBas p c E m
  · obtain ⟨m, hm⟩ := hx
    rw [← bas_eq (A := E) hp (by rw [h0]; exact hm), ← bas_eq (A := zrow c :: E) hp (by rw [e0]; exact isBas_zero.2 hm)]
  · unfold bas
    rw [e0, h0, dif_neg (fun ⟨m, hm⟩ => hx ⟨m, isBas_zero.1 hm⟩), dif_neg hx]
theorem ker_zero {p : Int} {c : Nat} {E : List (List Int)} (hp : 1 < p) (h0 : (rw' E 0).length = c) : kerB p (zrow c :: E) = kerB p E := by
  have e0 : (rw' (zrow c :: E) 0).length = c := zrow_len c
  unfold kerB kerP
  rw [bas_zero hp h0, e0, h0]
theorem bas_zrow {p : Int} {c : Nat} (hp : 1 < p) : bas p [zrow c] = [] := by
  have e0 : (rw' [zrow c] 0).length = c := zrow_len c
  refine (bas_eq (A := [zrow c]) hp ?_).symm
  rw [e0]
  refine isBas_zero.2 ⟨fun i hi => by simp at hi, ⟨fun _ => 0, ?_⟩, fun x => Iff.rfl⟩
  constructor <;> intros <;> simp at * <;> omega
theorem kerN_free {p : Int} (hp : 1 < p) (P : Nat → Nat) (c k : Nat) : kerN p [] P c 0 k = mk k c fun i j => if i = j then 1 else 0 := by
  induction k with
  | zero => rfl
  | succ k ih =>
    rw [kerN_no rfl, ih, mk_succ, kvec_unit hp]
theorem one_bas {p : Int} {c : Nat} (hp : 1 < p) (c0 : 0 < c) : IsBas p (rw' (oneM c) 0).length (oneM c) (oneM c) := by
  have e0 : (rw' (oneM c) 0).length = c := mk_rowLen _ c0
  have el : (oneM c).length = c := mk_len _ _ _
  have ea : ∀ i, i < c → ∀ j, j < c → at' (oneM c) i j = if i = j then 1 else 0 := fun i hi j hj => mk_at _ hi hj
  rw [e0]
  refine ⟨fun i hi => mk_rowLen _ (by omega), ⟨fun i => i, ?_⟩, fun x => Iff.rfl⟩
  rw [el]
  exact ⟨fun i hi => hi, fun i i' h _ => h, fun i hi => by rw [ea i hi i hi, if_pos rfl], fun i hi i' hi' hne => by rw [ea i' hi' i hi, if_neg (fun q => hne q.symm)], fun i hi j hj => by rw [ea i hi j (by omega), if_neg (by omega)],
    fun i hi j hj => by rw [ea i hi j hj]; split <;> omega⟩
theorem ker_zrow {p : Int} {c : Nat} (hp : 1 < p) (c0 : 0 < c) : kerB p [zrow c] = oneM c := by
  have e0 : (rw' [zrow c] 0).length = c := zrow_len c
  unfold kerB kerP
  rw [bas_zrow hp, e0]
  have e1 : kerN p [] (pvs []) c ([] : List (List Int)).length c = oneM c := kerN_free hp _ c c
  rw [e1]
  exact (bas_eq hp (one_bas hp c0)).symm
theorem ort_row {p : Int} {S : List Int} {m : List (List Int)} {i : Nat} (hi : i < m.length) : rw' (ortM p S m) i = mkR S.length (ortF p S m i) := mk_row _ hi
theorem ort_lst {p : Int} {S : List Int} {m : List (List Int)} (hp : prm p = true) (s0 : 1 ≤ S.length) (s1 : S.length ≤ 6) (hm : 0 < m.length) (hm2 : m.length ≤ 16) : Lst 1 p (ortM p S m) := by
  have el : (ortM p S m).length = m.length := mk_len _ _ _
  have er : ∀ i, i < m.length → (rw' (ortM p S m) i).length = S.length := fun i hi => mk_rowLen _ hi
  refine ⟨hp, by omega, by omega, fun i hi => by rw [er i (by omega), er 0 hm], fun i hi => by rw [er i (by omega)]; exact s0, fun i hi => by rw [er i (by omega)]; omega, fun i hi => ?_⟩
  rw [ort_row (by omega), List.all_eq_true]
  intro x hx
  unfold mkR at hx
  obtain ⟨k, _, rfl⟩ := List.mem_map.1 hx
  exact inr_iff.2 (mod_bd hp _)

end Go.Proofs.Ytdfkpbmccmbjmaa

namespace Go.Proofs.Ytdfkpbmccmbjmaa
open Go.RowKit
set_option linter.unusedVariables false

set_option maxRecDepth 100000 in
set_option maxHeartbeats 3200000 in
theorem pair_any (p : Int) (aS : Option Addr) (S : List Int) (cS loS tpS : Nat) (av : Option Addr) (v : List Int) (cv lov tpv : Nat) (aw : Option Addr) (u : List Int) (cu lou tpu : Nat) (w : World)
    (hS : RowIn loS tpS w aS S) (tS : tpS ≤ w.heap.size) (hv : RowIn lov tpv w av v) (tv : tpv ≤ w.heap.size) (hu : RowIn lou tpu w aw u) (tu : tpu ≤ w.heap.size) (hs : isSp p S = true) (h1 : isVec p S.length v = true) (h2 : isVec p S.length u = true) :
    Calls Try.prog 25 #[.agg #[.int .i64 p, .slice aS S.length cS], .slice av v.length cv, .slice aw u.length cu] w fun e w' => e = .returned (.int .i64 (pairN p S v u)) ∧ Below w.heap.size w w' := by
  have K := isSp_iff.1 hs
  have V := isVec_iff.1 h1
  have U := isVec_iff.1 h2
  have hpb := prm_bd K.prime
  have hS6 := K.hi
  have hvl := V.len
  have hul := U.len
  have HS := Lib.hid hS
  have HV := Lib.hid hv
  have HU := Lib.hid hu
  have HK := Lib.hid K
  have HVN := Lib.hid V
  have HUN := Lib.hid U
  have HVL := Lib.hid hvl
  have HUL := Lib.hid hul
  rw [hvl, hul]
  obtain ⟨n, hn⟩ : ∃ n, n = S.length := ⟨_, rfl⟩
  rw [← hn] at hS6 HVL HUL
  have HN := Lib.hid hn
  have hn1 : S.length ≤ n ∧ n ≤ S.length := by omega
  rw [← hn]
  clear hS hv hu hs h1 h2 K V U hvl hul hn
  go_enter Try.func25, Try.ntmps25
  go_wp2
  go_loopw [7, 13] (fun s t wr => ∃ i : Nat, i ≤ n ∧ s = .int .i64 (psum S v u i) ∧ t = .int .i64 i ∧ Quiet (w.alloc (.cells #[.int .i64 p, .slice aS n cS] 26)) wr) (fun _ t _ => n - (intOf t).toNat)
  case atStart => exact ⟨0, Nat.zero_le _, by simp [psum, sm], rfl, Quiet.refl _⟩
  case round =>
    obtain ⟨i, hi, rfl, rfl, hq⟩ := hrel
    have HQ := Lib.hid hq
    have hb0 := (hq.cell ⟨w.heap.size, 0, none⟩).trans (nw0 w _ _ _)
    have hb1 := (hq.cell ⟨w.heap.size, 1, none⟩).trans (nw1 w _ _ _)
    have hqb := (below_alloc w (.cells #[.int .i64 p, .slice aS n cS] 26)).trans (hq.below _)
    obtain ⟨q0, q1⟩ := psum_bd (S := S) (v := v) (w := u) (n := S.length) hpb.2 (fun j hj => HK.out.num hj) (fun j hj => HVN.out.num hj) (fun j hj => HUN.out.num hj) (by omega : i ≤ S.length)
    by_cases hlt : i < n
    · obtain ⟨bs, os, ha1, _, _, cs⟩ := (HS.out.below hqb tS).num (by omega : i < S.length)
      obtain ⟨bv, ov, ha2, _, _, cv'⟩ := (HV.out.below hqb tv).num (by rw [HVL.out]; exact hlt)
      obtain ⟨bu, ou, ha3, _, _, cu'⟩ := (HU.out.below hqb tu).num (by rw [HUL.out]; exact hlt)
      subst ha1
      subst ha2
      subst ha3
      obtain ⟨x0, x1⟩ := HVN.out.num (by omega : i < S.length)
      obtain ⟨y0, y1⟩ := HUN.out.num (by omega : i < S.length)
      obtain ⟨z0, z1⟩ := HK.out.num (by omega : i < S.length)
      have HST : Hid (∀ s x y z : Int, s = psum S v u i → x = v.getD i 0 → y = u.getD i 0 → z = S.getD i 0 → s + x * y * z = psum S v u (i + 1)) := by
        intro s x y z e1 e2 e3 e4
        subst e1 e2 e3 e4
        rfl
      obtain ⟨s, hs⟩ : ∃ s, s = psum S v u i := ⟨_, rfl⟩
      obtain ⟨x, hx⟩ : ∃ x, x = v.getD i 0 := ⟨_, rfl⟩
      obtain ⟨y, hy⟩ : ∃ y, y = u.getD i 0 := ⟨_, rfl⟩
      obtain ⟨z, hz⟩ : ∃ z, z = S.getD i 0 := ⟨_, rfl⟩
      have HE := Lib.hid (HST.out s x y z hs hx hy hz)
      rw [← hs] at q0 q1
      rw [← hx] at cv' x0 x1
      rw [← hy] at cu' y0 y1
      rw [← hz] at cs z0 z1
      rw [← hs]
      clear hs hx hy hz HST hq hqb
      obtain ⟨p1, p2, p3, p4⟩ := prod3 hpb.2 x0 x1 y0 y1 z0 z1
      have e1 : IntKind.i64.wrap (x * y) = x * y := IntWalk.i64_in _ (by omega)
      have e3 : IntKind.i64.wrap (x * y * z) = x * y * z := IntWalk.i64_in _ (by omega)
      have e4 : IntKind.i64.wrap (s + x * y * z) = s + x * y * z := IntWalk.i64_in _ (by omega)
      have hi1 : (i : Int) < (n : Int) := by omega
      go_wp2
      go_quiet (fail)
      clear e1 e3 e4
      go_wp2
      go_roundw
      case rel => exact ⟨i + 1, by omega, by rw [HE.out], by go_num, HQ.out.next _⟩
      case measure => simp [intOf]; omega
    · have hin : i = n := by omega
      subst hin
      have HE : Hid (psum S v u i % p = pairN p S v u) := by show _ = _; unfold pairN; rw [HN.out]
      have e5 : (psum S v u i).tmod p = psum S v u i % p := Int.tmod_eq_emod_of_nonneg q0
      have hp0 : ¬ p = 0 := by omega
      have hp1 : (p == 0) = false := by simpa using hp0
      clear hq hqb
      go_wp2
      go_ret
      exact ⟨by rw [← HE.out]; rfl, (below_alloc w _).trans (HQ.out.below _)⟩

/-- Several spaces, one behind the other in a block. -/
def Spaces (w : World) (b N : Nat) (q : Nat → Int) (A : Nat → Option Addr) (Z : Nat → List Int) (C : Nat → Nat) (lo tp : Nat → Nat) : Prop :=
  b < w.heap.size ∧ ∀ i, i < N → w.cell? ⟨b, i * 2, none⟩ = some (.int .i64 (q i)) ∧ w.cell? ⟨b, i * 2 + 1, none⟩ = some (.slice (A i) (Z i).length (C i)) ∧ RowIn (lo i) (tp i) w (A i) (Z i) ∧ tp i ≤ w.heap.size ∧ (Z i).length ≤ 1048576
/-- The code of several spaces. -/
def SpsC (N : Nat) (q : Nat → Int) (Z : Nat → List Int) (w : World) (e : Ending) (w' : World) : Prop :=
  ∃ c : Int, e = .returned (.int .i64 c) ∧ Below w.heap.size w w' ∧ ((c = 0 ∧ ∀ i, i < N → isSp (q i) (Z i) = true) ∨ (c = 1 ∧ ∃ i, i < N ∧ isSp (q i) (Z i) = false))
def AllSp (N : Nat) (q : Nat → Int) (Z : Nat → List Int) : Prop := ∀ i, i < N → isSp (q i) (Z i) = true

set_option maxRecDepth 100000 in
set_option maxHeartbeats 1600000 in
theorem checkSpaces_any (b N cap : Nat) (q : Nat → Int) (A : Nat → Option Addr) (Z : Nat → List Int) (C lo tp : Nat → Nat) (w : World) (h : Spaces w b N q A Z C lo tp) (hN : N ≤ 2) :
    Calls Try.prog 26 #[.slice (some ⟨b, 0, none⟩) N cap] w (SpsC N q Z w) := by
  have H := Lib.hid h
  clear h
  go_enter Try.func26, Try.ntmps26
  go_wp2
  have hb0 := H.out.1
  go_loopw [7] (fun t wr => ∃ i : Nat, i ≤ N ∧ t = .int .i64 i ∧ AllSp i q Z ∧ Below w.heap.size w wr) (fun t _ => N - (intOf t).toNat)
  case atStart => exact ⟨0, Nat.zero_le _, rfl, fun i hi => by omega, Below.refl _ _⟩
  case round =>
    obtain ⟨i, hi, rfl, hA, hB⟩ := hrel
    have HA := Lib.hid hA
    have HB := Lib.hid hB
    have hsz := hB.size
    by_cases hlt : i < N
    · obtain ⟨g0, g1, hr, ht, hz⟩ := H.out.2 i hlt
      have g0' := (hB.cell (p := ⟨b, i * 2, none⟩) hb0).trans g0
      have g1' := (hB.cell (p := ⟨b, i * 2 + 1, none⟩) hb0).trans g1
      have HR := Lib.hid (hr.below hB ht)
      have hi1 : (i : Int) < (N : Int) := by omega
      clear hA hB g0 g1 hr
      by_cases hs : isSp (q i) (Z i) = true
      · have HS := Lib.hid hs
        clear hs
        go_wp2_with (go_at_call 44; (with_reducible refine (isSpace_any (q i) (A i) (Z i) (C i) (lo i) (tp i) _ (HR.out.below (below_alloc _ _) (by omega)) (by simp; omega) hz).mono ?_); rintro e w1 ⟨rfl, hb1⟩; rw [HS.out]; have HB1 := Lib.hid hb1; clear hb1)
        go_roundw
        case rel => exact ⟨i + 1, by omega, by go_num, fun j hj => by
            by_cases e : j = i
            · subst e; exact HS.out
            · exact HA.out j (by omega), by
              have hb1 := HB.out
              have hb2 := HB1.out
              exact below_step (hb1.alloc hsz _) (by simp; omega) hb2⟩
        case measure => simp [intOf]; omega
      · have HS : Hid (isSp (q i) (Z i) = false) := by show _ = _; simpa using hs
        clear hs
        go_wp2_with (go_at_call 44; (with_reducible refine (isSpace_any (q i) (A i) (Z i) (C i) (lo i) (tp i) _ (HR.out.below (below_alloc _ _) (by omega)) (by simp; omega) hz).mono ?_); rintro e w1 ⟨rfl, hb1⟩; rw [HS.out]; have HB1 := Lib.hid hb1; clear hb1)
        go_ret
        exact ⟨1, rfl, below_step (HB.out.alloc hsz _) (by simp; omega) HB1.out, .inr ⟨rfl, i, hlt, HS.out⟩⟩
    · have hin : i = N := by omega
      subst hin
      clear hA hB
      go_wp2
      go_ret
      exact ⟨0, rfl, HB.out, .inl ⟨rfl, HA.out⟩⟩

end Go.Proofs.Ytdfkpbmccmbjmaa

namespace Go.Proofs.Ytdfkpbmccmbjmaa
open Go.RowKit
set_option linter.unusedVariables false

def code1 (p : Int) (S : List Int) : Int := if isSp p S = true then 0 else 1
theorem code1_yes {p : Int} {S : List Int} (h : isSp p S = true) : code1 p S = 0 := if_pos h
theorem code1_no {p : Int} {S : List Int} (h : isSp p S = false) : code1 p S = 1 := if_neg (by simp [h])
def codeVs (p : Int) (S : List Int) (m : List (List Int)) : Int := if isSp p S = true then (if m.all (isVec p S.length) = true then 0 else 2) else 1
theorem codeVs_sp {p : Int} {S : List Int} {m : List (List Int)} (h : isSp p S = false) : codeVs p S m = 1 := if_neg (by simp [h])
theorem codeVs_ok {p : Int} {S : List Int} {m : List (List Int)} (h : isSp p S = true) (k : m.all (isVec p S.length) = true) : codeVs p S m = 0 := by unfold codeVs; rw [if_pos h, if_pos k]
theorem codeVs_no {p : Int} {S : List Int} {m : List (List Int)} (h : isSp p S = true) (k : m.all (isVec p S.length) = false) : codeVs p S m = 2 := by unfold codeVs; rw [if_pos h, if_neg (by simp [k])]
theorem codeVs_cases (p : Int) (S : List Int) (m : List (List Int)) : (isSp p S = false ∧ codeVs p S m = 1) ∨ (isSp p S = true ∧ m.all (isVec p S.length) = true ∧ codeVs p S m = 0) ∨ (isSp p S = true ∧ m.all (isVec p S.length) = false ∧ codeVs p S m = 2) := by
  by_cases h : isSp p S = true
  · by_cases k : m.all (isVec p S.length) = true
    · exact .inr (.inl ⟨h, k, codeVs_ok h k⟩)
    · have k' : m.all (isVec p S.length) = false := by simpa using k
      exact .inr (.inr ⟨h, k', codeVs_no h k'⟩)
  · have h' : isSp p S = false := by simpa using h
    exact .inl ⟨h', codeVs_sp h'⟩

theorem checkSp1 (p : Int) (a : Option Addr) (S : List Int) (c lo tp cap b : Nat) (W : World) (T : TypeId) (hb' : b = W.heap.size) (hS : RowIn lo tp W a S) (tS : tp ≤ W.heap.size) (sS : S.length ≤ 1048576) :
    Calls Try.prog 26 #[.slice (some ⟨b, 0, none⟩) 1 cap] (W.alloc (.cells #[.int .i64 p, .slice a S.length c] T)) fun e w' => e = .returned (.int .i64 (code1 p S)) ∧ Below (W.alloc (.cells #[.int .i64 p, .slice a S.length c] T)).heap.size (W.alloc (.cells #[.int .i64 p, .slice a S.length c] T)) w' := by
  subst hb'
  refine (checkSpaces_any W.heap.size 1 cap (fun _ => p) (fun _ => a) (fun _ => S) (fun _ => c) (fun _ => lo) (fun _ => tp) _ ⟨lt_alloc W _, fun i hi => ?_⟩ (by omega)).mono ?_
  · have : i = 0 := by omega
    subst this
    exact ⟨nw0 W _ _ T, nw1 W _ _ T, hS.below (below_alloc W _) tS, by simp; omega, sS⟩
  · rintro e w' ⟨c', rfl, hb, h⟩
    refine ⟨?_, hb⟩
    rcases h with ⟨rfl, h⟩ | ⟨rfl, i, hi, h⟩
    · rw [code1_yes (h 0 (by omega))]
    · rw [code1_no h]
theorem all_take_vec {f : List Int → Bool} {m : List (List Int)} {i : Nat} (hi : i < m.length) : (m.take (i + 1)).all f = ((m.take i).all f && f (rw' m i)) := by
  rw [List.take_succ_eq_append_getElem hi, List.all_append]
  simp [rw', hi]
theorem all_false_vec {f : List Int → Bool} {m : List (List Int)} {i : Nat} (hi : i < m.length) (h : f (rw' m i) = false) : m.all f = false := by
  rw [List.all_eq_false]
  exact ⟨rw' m i, mem_row hi, by simp [h]⟩

set_option maxRecDepth 100000 in
set_option maxHeartbeats 1600000 in
theorem checkVectors_any (p : Int) (aS : Option Addr) (S : List Int) (cS loS tpS : Nat) (am : Option Addr) (m : List (List Int)) (cm lom tpm : Nat) (w : World)
    (hS : RowIn loS tpS w aS S) (tS : tpS ≤ w.heap.size) (sS : S.length ≤ 1048576) (hm : MatIn lom tpm w am m) (tm : tpm ≤ w.heap.size) (sm : m.length ≤ 1048576) (sr : ∀ i, i < m.length → (rw' m i).length ≤ 1048576) :
    Calls Try.prog 24 #[.agg #[.int .i64 p, .slice aS S.length cS], .slice am m.length cm] w fun e w' => e = .returned (.int .i64 (codeVs p S m)) ∧ Below w.heap.size w w' := by
  have HS := Lib.hid hS
  have HM := Lib.hid hm
  have HT := Lib.hid sr
  clear hS hm sr
  by_cases h : isSp p S = true
  · have HI := Lib.hid h
    have HC := Lib.hid (code1_yes h)
    clear h
    go_enter Try.func24, Try.ntmps24
    go_wp2_with (go_at_call 26; (with_reducible refine (checkSp1 p aS S cS loS tpS _ (w.heap.size + 1) _ _ (by simp) (HS.out.below (below_alloc _ _) tS) (by simp; omega) sS).mono ?_); rintro e w2 ⟨rfl, hb2⟩; rw [HC.out]; have HB := Lib.hid hb2; clear hb2)
    have HBW : Hid (Below w.heap.size w w2) := below_step (((below_alloc _ _)).alloc (by simp) _) (by simp; omega) HB.out
    have hc0 := (HB.out.cell (p := ⟨w.heap.size, 0, none⟩) (by simp; omega)).trans ((World.cell?_alloc_old _ _ _ (by simp)).trans (nw0 w _ _ _))
    have hc1 := (HB.out.cell (p := ⟨w.heap.size, 1, none⟩) (by simp; omega)).trans ((World.cell?_alloc_old _ _ _ (by simp)).trans (nw1 w _ _ _))
    have hwz := HBW.out.size
    have HM2 := Lib.hid (HM.out.below HBW.out tm)
    clear HB
    go_loop [16] (fun t => ∃ i : Nat, i ≤ m.length ∧ t = .int .i64 i ∧ (m.take i).all (isVec p S.length) = true) (fun t => m.length - (intOf t).toNat)
    case atStart => exact ⟨0, Nat.zero_le _, rfl, rfl⟩
    case round =>
      obtain ⟨i, hi, rfl, hA⟩ := hrel
      have HA := Lib.hid hA
      clear hA
      by_cases hlt : i < m.length
      · obtain ⟨b1, o1, r, c1, ha1, _, _, hr, hrow⟩ := HM2.out.row hlt
        subst ha1
        have hl := HT.out i hlt
        have HR := Lib.hid hrow
        have hi1 : (i : Int) < (m.length : Int) := by omega
        clear hrow
        by_cases hv : isVec p S.length (rw' m i) = true
        · have HV := Lib.hid hv
          have HVV : Hid ((decide ((rw' m i).length = S.length) && (rw' m i).all (inr p)) = true) := hv
          clear hv
          go_wp2_with (go_at_call 43; (with_reducible refine (isVector_any p r (rw' m i) c1 S.length lom tpm _ (isSp_iff.1 HI.out).prime HR.out hl (by omega)).mono ?_); rintro e w3 ⟨rfl, rfl⟩; rw [HVV.out])
          go_round
          case rel => exact ⟨i + 1, by omega, by go_num, by rw [all_take_vec hlt, HA.out, HV.out]; rfl⟩
          case measure => simp [intOf]; omega
        · have HV : Hid (isVec p S.length (rw' m i) = false) := by show _ = _; simpa using hv
          have HVV : Hid ((decide ((rw' m i).length = S.length) && (rw' m i).all (inr p)) = false) := HV.out
          have HCV := Lib.hid (codeVs_no HI.out (all_false_vec hlt HV.out))
          clear hv
          go_wp2_with (go_at_call 43; (with_reducible refine (isVector_any p r (rw' m i) c1 S.length lom tpm _ (isSp_iff.1 HI.out).prime HR.out hl (by omega)).mono ?_); rintro e w3 ⟨rfl, rfl⟩; rw [HVV.out])
          go_ret
          exact ⟨by rw [HCV.out]; rfl, HBW.out⟩
      · have HCV : Hid (codeVs p S m = 0) := codeVs_ok HI.out (by have h := HA.out; rwa [List.take_of_length_le (by omega)] at h)
        go_wp2
        go_ret
        exact ⟨by rw [HCV.out]; rfl, HBW.out⟩
  · have HI : Hid (isSp p S = false) := by show _ = _; simpa using h
    have HC := Lib.hid (code1_no HI.out)
    have HCV : Hid (codeVs p S m = 1) := codeVs_sp HI.out
    clear h
    go_enter Try.func24, Try.ntmps24
    go_wp2_with (go_at_call 26; (with_reducible refine (checkSp1 p aS S cS loS tpS _ (w.heap.size + 1) _ _ (by simp) (HS.out.below (below_alloc _ _) tS) (by simp; omega) sS).mono ?_); rintro e w2 ⟨rfl, hb2⟩; rw [HC.out]; have HB := Lib.hid hb2; clear hb2)
    go_ret
    exact ⟨by rw [HCV.out]; rfl, below_step (((below_alloc _ _)).alloc (by simp) _) (by simp; omega) HB.out⟩

theorem l03Vector_any (p : Int) (aS : Option Addr) (S : List Int) (cS : Nat) (av : Option Addr) (v : List Int) (cv lov tpv : Nat) (w : World) (hp : prm p = true) (sS : S.length ≤ 1048576) (hv : RowIn lov tpv w av v) (tv : tpv ≤ w.heap.size) (sv : v.length ≤ 1048576) :
    Calls Try.prog 40 #[.agg #[.int .i64 p, .slice aS S.length cS], .slice av v.length cv] w fun e w' => e = .returned (.bool (isVec p S.length v)) ∧ Below w.heap.size w w' := by
  have HV := Lib.hid hv
  have HP := Lib.hid hp
  clear hv hp
  by_cases h : v.length = S.length
  · have HI : Hid (isVec p S.length v = v.all (inr p)) := by show _ = _; unfold isVec; simp [h]
    have HL := Lib.hid h
    have e1 : ((v.length : Int) == (S.length : Int)) = true := by simp [h]
    rw [HI.out]
    clear h
    by_cases ha : v.all (inr p) = true
    · have HA := Lib.hid ha
      clear ha
      go_enter Try.func40, Try.ntmps40
      go_wp2_with (go_at_call 39; (with_reducible refine (numsRow p av v cv lov tpv _ HP.out (HV.out.below (below_alloc _ _) tv) (by omega)).mono ?_); rintro e w1 ⟨rfl, rfl⟩; rw [HA.out])
      go_ret
      exact ⟨by rw [HA.out]; rfl, below_alloc _ _⟩
    · have HA : Hid (v.all (inr p) = false) := by show _ = _; simpa using ha
      clear ha
      go_enter Try.func40, Try.ntmps40
      go_wp2_with (go_at_call 39; (with_reducible refine (numsRow p av v cv lov tpv _ HP.out (HV.out.below (below_alloc _ _) tv) (by omega)).mono ?_); rintro e w1 ⟨rfl, rfl⟩; rw [HA.out])
      go_ret
      exact ⟨by rw [HA.out]; rfl, below_alloc _ _⟩
  · have HI : Hid (isVec p S.length v = false) := by show _ = _; unfold isVec; simp [h]
    have e1 : ((v.length : Int) == (S.length : Int)) = false := by simp; omega
    have e2 : decide ((v.length : Int) = (S.length : Int)) = false := by simp; omega
    clear h
    go_enter Try.func40, Try.ntmps40
    go_wp2
    go_ret
    exact ⟨by rw [HI.out]; rfl, below_alloc _ _⟩

end Go.Proofs.Ytdfkpbmccmbjmaa
