/-
  Products of vectors of a space, in the program and in the model; checks of lists of vectors.
  Conditions: the lists are nil or rows of known cells, of at most 1048576 numbers.
  The program's products of vectors and checks of spaces and vectors.
  Conditions: the lists are nil or rows of known cells, of at most 1048576 numbers.
  Checks of spaces and lists of vectors in the program; of vectors in the model.
  Conditions: the lists are nil or rows of known cells, of at most 1048576 numbers.
-/
import Derived.Test.YtkibkkdeaojjoabQf34
import Derived.BigQuiet
import Derived.Deep.QuietTactic
import Derived.RegionTactic
import Derived.Deep.LoopGhost
namespace Go.Proofs.Ytkibkkdeaojjoab
open Go.RowKit
set_option linter.unusedVariables false

def isVec (p : Int) (n : Nat) (v : List Int) : Bool := decide (v.length = n) && v.all (inr p)
structure Vec (p : Int) (n : Nat) (v : List Int) : Prop where
  len : v.length = n
  all : v.all (inr p) = true
theorem isVec_iff {p : Int} {n : Nat} {v : List Int} : isVec p n v = true ↔ Vec p n v := by
  unfold isVec
  simp only [Bool.and_eq_true, decide_eq_true_eq]
  exact ⟨fun h => ⟨h.1, h.2⟩, fun h => ⟨h.len, h.all⟩⟩
theorem Vec.num {p : Int} {n : Nat} {v : List Int} (h : Vec p n v) {j : Nat} (hj : j < n) : 0 ≤ v.getD j 0 ∧ v.getD j 0 < p := by
  have ha := h.all
  have hl := h.len
  rw [List.all_eq_true] at ha
  exact inr_iff.1 (ha _ (by rw [getD_at (by omega : j < v.length)]; exact List.getElem_mem _))
/-- The sum of products up to i. -/
def psum (S v w : List Int) (i : Nat) : Int := sm i fun j => v.getD j 0 * w.getD j 0 * S.getD j 0
def pairN (p : Int) (S v w : List Int) : Int := psum S v w S.length % p
theorem prod3 {p x y z : Int} (hp : p ≤ 13) (x0 : 0 ≤ x) (x1 : x < p) (y0 : 0 ≤ y) (y1 : y < p) (z0 : 0 ≤ z) (z1 : z < p) : 0 ≤ x * y ∧ x * y ≤ 144 ∧ 0 ≤ x * y * z ∧ x * y * z ≤ 1728 := by
  have a0 : 0 ≤ x * y := Int.mul_nonneg x0 y0
  have a1 : x * y ≤ 12 * 12 := Int.le_trans (Int.mul_le_mul_of_nonneg_right (by omega : x ≤ 12) y0) (Int.mul_le_mul_of_nonneg_left (by omega) (by omega))
  have b0 : 0 ≤ x * y * z := Int.mul_nonneg a0 z0
  have b1 : x * y * z ≤ 144 * 12 := Int.le_trans (Int.mul_le_mul_of_nonneg_right (by omega : x * y ≤ 144) z0) (Int.mul_le_mul_of_nonneg_left (by omega) (by omega))
  omega
theorem psum_bd {p : Int} {S v w : List Int} {n : Nat} (hp : p ≤ 13) (hS : ∀ j, j < n → 0 ≤ S.getD j 0 ∧ S.getD j 0 < p) (hv : ∀ j, j < n → 0 ≤ v.getD j 0 ∧ v.getD j 0 < p) (hw : ∀ j, j < n → 0 ≤ w.getD j 0 ∧ w.getD j 0 < p) {i : Nat} (hi : i ≤ n) :
    0 ≤ psum S v w i ∧ psum S v w i ≤ i * 1728 :=
  sm_bd (fun j hj => by
    obtain ⟨_, _, h3, h4⟩ := prod3 hp (hv j (by omega)).1 (hv j (by omega)).2 (hw j (by omega)).1 (hw j (by omega)).2 (hS j (by omega)).1 (hS j (by omega)).2
    exact ⟨h3, h4⟩)
theorem psum_step (p s x y z : Int) : (s % p + x * y % p * z) % p = (s + x * y * z) % p := by
  rw [Int.add_emod, Int.emod_emod, Int.mul_emod (x * y % p), Int.emod_emod, ← Int.mul_emod, ← Int.add_emod]

set_option maxRecDepth 100000 in
set_option maxHeartbeats 3200000 in
theorem l03Pair_any (p : Int) (aS : Option Addr) (S : List Int) (cS loS tpS : Nat) (av : Option Addr) (v : List Int) (cv lov tpv : Nat) (aw : Option Addr) (u : List Int) (cu lou tpu : Nat) (w : World)
    (hS : RowIn loS tpS w aS S) (tS : tpS ≤ w.heap.size) (hv : RowIn lov tpv w av v) (tv : tpv ≤ w.heap.size) (hu : RowIn lou tpu w aw u) (tu : tpu ≤ w.heap.size) (hs : isSp p S = true) (h1 : isVec p S.length v = true) (h2 : isVec p S.length u = true) :
    Calls Try.prog 98 #[.agg #[.int .i64 p, .slice aS S.length cS], .slice av v.length cv, .slice aw u.length cu] w fun e w' => e = .returned (.int .i64 (pairN p S v u)) ∧ Below w.heap.size w w' := by
  have K := isSp_iff.1 hs
  have V := isVec_iff.1 h1
  have U := isVec_iff.1 h2
  have hpb := prm_bd K.prime
  have hS6 := K.hi
  have hvl := V.len
  have hul := U.len
  have HS := Lib.hid hS
  have HV := Lib.hid hv
  have HU := Lib.hid hu
  have HK := Lib.hid K
  have HVN := Lib.hid V
  have HUN := Lib.hid U
  have HVL := Lib.hid hvl
  have HUL := Lib.hid hul
  rw [hvl, hul]
  clear hS hv hu hs h1 h2 K V U hvl hul
  go_enter Try.func98, Try.ntmps98
  go_wp2
  obtain ⟨n, hn⟩ : ∃ n, n = S.length := ⟨_, rfl⟩
  rw [← hn] at hS6 HVL HUL
  have HN := Lib.hid hn
  have hn1 : S.length ≤ n ∧ n ≤ S.length := by omega
  rw [← hn]
  clear hn
  go_loopw [7, 8] (fun s t wr => ∃ i : Nat, i ≤ n ∧ s = .int .i64 (psum S v u i % p) ∧ t = .int .i64 i ∧ Quiet (w.alloc (.cells #[.int .i64 p, .slice aS n cS] 30)) wr) (fun _ t _ => n - (intOf t).toNat)
  case atStart => exact ⟨0, Nat.zero_le _, by simp [psum, sm], rfl, Quiet.refl _⟩
  case round =>
    obtain ⟨i, hi, rfl, rfl, hq⟩ := hrel
    have HQ := Lib.hid hq
    have hb0 := (hq.cell ⟨w.heap.size, 0, none⟩).trans (nw0 w _ _ _)
    have hb1 := (hq.cell ⟨w.heap.size, 1, none⟩).trans (nw1 w _ _ _)
    have hqb := (below_alloc w (.cells #[.int .i64 p, .slice aS n cS] 30)).trans (hq.below _)
    by_cases hlt : i < n
    · obtain ⟨bs, os, ha1, _, _, cs⟩ := (HS.out.below hqb tS).num (by omega : i < S.length)
      obtain ⟨bv, ov, ha2, _, _, cv'⟩ := (HV.out.below hqb tv).num (by rw [HVL.out]; exact hlt)
      obtain ⟨bu, ou, ha3, _, _, cu'⟩ := (HU.out.below hqb tu).num (by rw [HUL.out]; exact hlt)
      subst ha1
      subst ha2
      subst ha3
      obtain ⟨x0, x1⟩ := HVN.out.num (by omega : i < S.length)
      obtain ⟨y0, y1⟩ := HUN.out.num (by omega : i < S.length)
      obtain ⟨z0, z1⟩ := HK.out.num (by omega : i < S.length)
      obtain ⟨q0, q1⟩ := mod_bd HK.out.prime (psum S v u i)
      have HST : Hid (∀ s x y z : Int, s = psum S v u i % p → x = v.getD i 0 → y = u.getD i 0 → z = S.getD i 0 → (s + x * y % p * z) % p = psum S v u (i + 1) % p) := by
        intro s x y z e1 e2 e3 e4
        subst e1 e2 e3 e4
        exact psum_step p _ _ _ _
      obtain ⟨s, hs⟩ : ∃ s, s = psum S v u i % p := ⟨_, rfl⟩
      obtain ⟨x, hx⟩ : ∃ x, x = v.getD i 0 := ⟨_, rfl⟩
      obtain ⟨y, hy⟩ : ∃ y, y = u.getD i 0 := ⟨_, rfl⟩
      obtain ⟨z, hz⟩ : ∃ z, z = S.getD i 0 := ⟨_, rfl⟩
      have HE := Lib.hid (HST.out s x y z hs hx hy hz)
      rw [← hs] at q0 q1
      rw [← hx] at cv' x0 x1
      rw [← hy] at cu' y0 y1
      rw [← hz] at cs z0 z1
      rw [← hs]
      clear hs hx hy hz HST hq hqb
      obtain ⟨p1, p2, _, _⟩ := prod3 hpb.2 x0 x1 y0 y1 z0 z1
      have m0 := Int.emod_nonneg (x * y) (by omega : p ≠ 0)
      have m1 := Int.emod_lt_of_pos (x * y) (by omega : 0 < p)
      obtain ⟨p3, p4, _, _⟩ := prod3 hpb.2 m0 m1 z0 z1 z0 z1
      have e1 : IntKind.i64.wrap (x * y) = x * y := IntWalk.i64_in _ (by omega)
      have e2 : (x * y).tmod p = x * y % p := Int.tmod_eq_emod_of_nonneg p1
      have e3 : IntKind.i64.wrap (x * y % p * z) = x * y % p * z := IntWalk.i64_in _ (by omega)
      have e4 : IntKind.i64.wrap (s + x * y % p * z) = s + x * y % p * z := IntWalk.i64_in _ (by omega)
      have e5 : (s + x * y % p * z).tmod p = (s + x * y % p * z) % p := Int.tmod_eq_emod_of_nonneg (by omega)
      have hp0 : ¬ p = 0 := by omega
      have hp1 : (p == 0) = false := by simpa using hp0
      have hi1 : (i : Int) < (n : Int) := by omega
      go_wp2
      go_quiet (fail)
      clear e1 e2 e3 e4 e5
      go_wp2
      go_roundw
      case rel => exact ⟨i + 1, by omega, by rw [HE.out], by go_num, HQ.out.next _⟩
      case measure => simp [intOf]; omega
    · have hin : i = n := by omega
      subst hin
      have HE : Hid (psum S v u i % p = pairN p S v u) := by show _ = _; unfold pairN; rw [HN.out]
      rw [HE.out]
      clear hq hb0 hb1 hqb
      go_wp2
      go_ret
      exact ⟨rfl, (below_alloc w _).trans (HQ.out.below _)⟩

end Go.Proofs.Ytkibkkdeaojjoab

namespace Go.Proofs.Ytkibkkdeaojjoab
open Go.RowKit
set_option linter.unusedVariables false

set_option maxRecDepth 100000 in
set_option maxHeartbeats 3200000 in
theorem pair_any (p : Int) (aS : Option Addr) (S : List Int) (cS loS tpS : Nat) (av : Option Addr) (v : List Int) (cv lov tpv : Nat) (aw : Option Addr) (u : List Int) (cu lou tpu : Nat) (w : World)
    (hS : RowIn loS tpS w aS S) (tS : tpS ≤ w.heap.size) (hv : RowIn lov tpv w av v) (tv : tpv ≤ w.heap.size) (hu : RowIn lou tpu w aw u) (tu : tpu ≤ w.heap.size) (hs : isSp p S = true) (h1 : isVec p S.length v = true) (h2 : isVec p S.length u = true) :
    Calls Try.prog 128 #[.agg #[.int .i64 p, .slice aS S.length cS], .slice av v.length cv, .slice aw u.length cu] w fun e w' => e = .returned (.int .i64 (pairN p S v u)) ∧ Below w.heap.size w w' := by
  have K := isSp_iff.1 hs
  have V := isVec_iff.1 h1
  have U := isVec_iff.1 h2
  have hpb := prm_bd K.prime
  have hS6 := K.hi
  have hvl := V.len
  have hul := U.len
  have HS := Lib.hid hS
  have HV := Lib.hid hv
  have HU := Lib.hid hu
  have HK := Lib.hid K
  have HVN := Lib.hid V
  have HUN := Lib.hid U
  have HVL := Lib.hid hvl
  have HUL := Lib.hid hul
  rw [hvl, hul]
  obtain ⟨n, hn⟩ : ∃ n, n = S.length := ⟨_, rfl⟩
  rw [← hn] at hS6 HVL HUL
  have HN := Lib.hid hn
  have hn1 : S.length ≤ n ∧ n ≤ S.length := by omega
  rw [← hn]
  clear hS hv hu hs h1 h2 K V U hvl hul hn
  go_enter Try.func128, Try.ntmps128
  go_wp2
  go_loopw [7, 13] (fun s t wr => ∃ i : Nat, i ≤ n ∧ s = .int .i64 (psum S v u i) ∧ t = .int .i64 i ∧ Quiet (w.alloc (.cells #[.int .i64 p, .slice aS n cS] 30)) wr) (fun _ t _ => n - (intOf t).toNat)
  case atStart => exact ⟨0, Nat.zero_le _, by simp [psum, sm], rfl, Quiet.refl _⟩
  case round =>
    obtain ⟨i, hi, rfl, rfl, hq⟩ := hrel
    have HQ := Lib.hid hq
    have hb0 := (hq.cell ⟨w.heap.size, 0, none⟩).trans (nw0 w _ _ _)
    have hb1 := (hq.cell ⟨w.heap.size, 1, none⟩).trans (nw1 w _ _ _)
    have hqb := (below_alloc w (.cells #[.int .i64 p, .slice aS n cS] 30)).trans (hq.below _)
    obtain ⟨q0, q1⟩ := psum_bd (S := S) (v := v) (w := u) (n := S.length) hpb.2 (fun j hj => HK.out.num hj) (fun j hj => HVN.out.num hj) (fun j hj => HUN.out.num hj) (by omega : i ≤ S.length)
    by_cases hlt : i < n
    · obtain ⟨bs, os, ha1, _, _, cs⟩ := (HS.out.below hqb tS).num (by omega : i < S.length)
      obtain ⟨bv, ov, ha2, _, _, cv'⟩ := (HV.out.below hqb tv).num (by rw [HVL.out]; exact hlt)
      obtain ⟨bu, ou, ha3, _, _, cu'⟩ := (HU.out.below hqb tu).num (by rw [HUL.out]; exact hlt)
      subst ha1
      subst ha2
      subst ha3
      obtain ⟨x0, x1⟩ := HVN.out.num (by omega : i < S.length)
      obtain ⟨y0, y1⟩ := HUN.out.num (by omega : i < S.length)
      obtain ⟨z0, z1⟩ := HK.out.num (by omega : i < S.length)
      have HST : Hid (∀ s x y z : Int, s = psum S v u i → x = v.getD i 0 → y = u.getD i 0 → z = S.getD i 0 → s + x * y * z = psum S v u (i + 1)) := by
        intro s x y z e1 e2 e3 e4
        subst e1 e2 e3 e4
        rfl
      obtain ⟨s, hs⟩ : ∃ s, s = psum S v u i := ⟨_, rfl⟩
      obtain ⟨x, hx⟩ : ∃ x, x = v.getD i 0 := ⟨_, rfl⟩
      obtain ⟨y, hy⟩ : ∃ y, y = u.getD i 0 := ⟨_, rfl⟩
      obtain ⟨z, hz⟩ : ∃ z, z = S.getD i 0 := ⟨_, rfl⟩
      have HE := Lib.hid (HST.out s x y z hs hx hy hz)
      rw [← hs] at q0 q1
      rw [← hx] at cv' x0 x1
      rw [← hy] at cu' y0 y1
      rw [← hz] at cs z0 z1
      rw [← hs]
      clear hs hx hy hz HST hq hqb
      obtain ⟨p1, p2, p3, p4⟩ := prod3 hpb.2 x0 x1 y0 y1 z0 z1
      have e1 : IntKind.i64.wrap (x * y) = x * y := IntWalk.i64_in _ (by omega)
      have e3 : IntKind.i64.wrap (x * y * z) = x * y * z := IntWalk.i64_in _ (by omega)
      have e4 : IntKind.i64.wrap (s + x * y * z) = s + x * y * z := IntWalk.i64_in _ (by omega)
      have hi1 : (i : Int) < (n : Int) := by omega
      go_wp2
      go_quiet (fail)
      clear e1 e3 e4
      go_wp2
      go_roundw
      case rel => exact ⟨i + 1, by omega, by rw [HE.out], by go_num, HQ.out.next _⟩
      case measure => simp [intOf]; omega
    · have hin : i = n := by omega
      subst hin
      have HE : Hid (psum S v u i % p = pairN p S v u) := by show _ = _; unfold pairN; rw [HN.out]
      have e5 : (psum S v u i).tmod p = psum S v u i % p := Int.tmod_eq_emod_of_nonneg q0
      have hp0 : ¬ p = 0 := by omega
      have hp1 : (p == 0) = false := by simpa using hp0
      clear hq hqb
      go_wp2
      go_ret
      exact ⟨by rw [← HE.out]; rfl, (below_alloc w _).trans (HQ.out.below _)⟩

/-- Several spaces, one behind the other in a block. -/
def Spaces (w : World) (b N : Nat) (q : Nat → Int) (A : Nat → Option Addr) (Z : Nat → List Int) (C : Nat → Nat) (lo tp : Nat → Nat) : Prop :=
  b < w.heap.size ∧ ∀ i, i < N → w.cell? ⟨b, i * 2, none⟩ = some (.int .i64 (q i)) ∧ w.cell? ⟨b, i * 2 + 1, none⟩ = some (.slice (A i) (Z i).length (C i)) ∧ RowIn (lo i) (tp i) w (A i) (Z i) ∧ tp i ≤ w.heap.size ∧ (Z i).length ≤ 1048576
/-- The code of several spaces. -/
def SpsC (N : Nat) (q : Nat → Int) (Z : Nat → List Int) (w : World) (e : Ending) (w' : World) : Prop :=
  ∃ c : Int, e = .returned (.int .i64 c) ∧ Below w.heap.size w w' ∧ ((c = 0 ∧ ∀ i, i < N → isSp (q i) (Z i) = true) ∨ (c = 1 ∧ ∃ i, i < N ∧ isSp (q i) (Z i) = false))
def AllSp (N : Nat) (q : Nat → Int) (Z : Nat → List Int) : Prop := ∀ i, i < N → isSp (q i) (Z i) = true

set_option maxRecDepth 100000 in
set_option maxHeartbeats 1600000 in
theorem checkSpaces_any (b N cap : Nat) (q : Nat → Int) (A : Nat → Option Addr) (Z : Nat → List Int) (C lo tp : Nat → Nat) (w : World) (h : Spaces w b N q A Z C lo tp) (hN : N ≤ 2) :
    Calls Try.prog 68 #[.slice (some ⟨b, 0, none⟩) N cap] w (SpsC N q Z w) := by
  have H := Lib.hid h
  clear h
  go_enter Try.func68, Try.ntmps68
  go_wp2
  have hb0 := H.out.1
  go_loopw [7] (fun t wr => ∃ i : Nat, i ≤ N ∧ t = .int .i64 i ∧ AllSp i q Z ∧ Below w.heap.size w wr) (fun t _ => N - (intOf t).toNat)
  case atStart => exact ⟨0, Nat.zero_le _, rfl, fun i hi => by omega, Below.refl _ _⟩
  case round =>
    obtain ⟨i, hi, rfl, hA, hB⟩ := hrel
    have HA := Lib.hid hA
    have HB := Lib.hid hB
    have hsz := hB.size
    by_cases hlt : i < N
    · obtain ⟨g0, g1, hr, ht, hz⟩ := H.out.2 i hlt
      have g0' := (hB.cell (p := ⟨b, i * 2, none⟩) hb0).trans g0
      have g1' := (hB.cell (p := ⟨b, i * 2 + 1, none⟩) hb0).trans g1
      have HR := Lib.hid (hr.below hB ht)
      have hi1 : (i : Int) < (N : Int) := by omega
      clear hA hB g0 g1 hr
      by_cases hs : isSp (q i) (Z i) = true
      · have HS := Lib.hid hs
        clear hs
        go_wp2_with (go_at_call 99; (with_reducible refine (isSpace_any (q i) (A i) (Z i) (C i) (lo i) (tp i) _ (HR.out.below (below_alloc _ _) (by omega)) (by simp; omega) hz).mono ?_); rintro e w1 ⟨rfl, hb1⟩; rw [HS.out]; have HB1 := Lib.hid hb1; clear hb1)
        go_roundw
        case rel => exact ⟨i + 1, by omega, by go_num, fun j hj => by
            by_cases e : j = i
            · subst e; exact HS.out
            · exact HA.out j (by omega), by
              have hb1 := HB.out
              have hb2 := HB1.out
              exact below_step (hb1.alloc hsz _) (by simp; omega) hb2⟩
        case measure => simp [intOf]; omega
      · have HS : Hid (isSp (q i) (Z i) = false) := by show _ = _; simpa using hs
        clear hs
        go_wp2_with (go_at_call 99; (with_reducible refine (isSpace_any (q i) (A i) (Z i) (C i) (lo i) (tp i) _ (HR.out.below (below_alloc _ _) (by omega)) (by simp; omega) hz).mono ?_); rintro e w1 ⟨rfl, hb1⟩; rw [HS.out]; have HB1 := Lib.hid hb1; clear hb1)
        go_ret
        exact ⟨1, rfl, below_step (HB.out.alloc hsz _) (by simp; omega) HB1.out, .inr ⟨rfl, i, hlt, HS.out⟩⟩
    · have hin : i = N := by omega
      subst hin
      clear hA hB
      go_wp2
      go_ret
      exact ⟨0, rfl, HB.out, .inl ⟨rfl, HA.out⟩⟩

end Go.Proofs.Ytkibkkdeaojjoab

namespace Go.Proofs.Ytkibkkdeaojjoab
open Go.RowKit
set_option linter.unusedVariables false

def code1 (p : Int) (S : List Int) : Int := if isSp p S = true then 0 else 1
theorem code1_yes {p : Int} {S : List Int} (h : isSp p S = true) : code1 p S = 0 := if_pos h
theorem code1_no {p : Int} {S : List Int} (h : isSp p S = false) : code1 p S = 1 := if_neg (by simp [h])
theorem checkSp1 (p : Int) (a : Option Addr) (S : List Int) (c lo tp cap b : Nat) (W : World) (T : TypeId) (hb' : b = W.heap.size) (hS : RowIn lo tp W a S) (tS : tp ≤ W.heap.size) (sS : S.length ≤ 1048576) :
    Calls Try.prog 68 #[.slice (some ⟨b, 0, none⟩) 1 cap] (W.alloc (.cells #[.int .i64 p, .slice a S.length c] T)) fun e w' => e = .returned (.int .i64 (code1 p S)) ∧ Below (W.alloc (.cells #[.int .i64 p, .slice a S.length c] T)).heap.size (W.alloc (.cells #[.int .i64 p, .slice a S.length c] T)) w' := by
  subst hb'
  refine (checkSpaces_any W.heap.size 1 cap (fun _ => p) (fun _ => a) (fun _ => S) (fun _ => c) (fun _ => lo) (fun _ => tp) _ ⟨lt_alloc W _, fun i hi => ?_⟩ (by omega)).mono ?_
  · have : i = 0 := by omega
    subst this
    exact ⟨nw0 W _ _ T, nw1 W _ _ T, hS.below (below_alloc W _) tS, by simp; omega, sS⟩
  · rintro e w' ⟨c', rfl, hb, h⟩
    refine ⟨?_, hb⟩
    rcases h with ⟨rfl, h⟩ | ⟨rfl, i, hi, h⟩
    · rw [code1_yes (h 0 (by omega))]
    · rw [code1_no h]
theorem checkSp2 (p q : Int) (a a' : Option Addr) (S S' : List Int) (c c' lo tp lo' tp' cap b : Nat) (W : World) (T : TypeId) (hb' : b = W.heap.size) (hS : RowIn lo tp W a S) (tS : tp ≤ W.heap.size) (sS : S.length ≤ 1048576) (hS' : RowIn lo' tp' W a' S') (tS' : tp' ≤ W.heap.size) (sS' : S'.length ≤ 1048576) :
    Calls Try.prog 68 #[.slice (some ⟨b, 0, none⟩) 2 cap] (W.alloc (.cells #[.int .i64 p, .slice a S.length c, .int .i64 q, .slice a' S'.length c'] T)) fun e w' => e = .returned (.int .i64 (if isSp p S = true ∧ isSp q S' = true then 0 else 1)) ∧ Below (W.alloc (.cells #[.int .i64 p, .slice a S.length c, .int .i64 q, .slice a' S'.length c'] T)).heap.size (W.alloc (.cells #[.int .i64 p, .slice a S.length c, .int .i64 q, .slice a' S'.length c'] T)) w' := by
  subst hb'
  refine (checkSpaces_any W.heap.size 2 cap (fun i => if i = 0 then p else q) (fun i => if i = 0 then a else a') (fun i => if i = 0 then S else S') (fun i => if i = 0 then c else c') (fun i => if i = 0 then lo else lo') (fun i => if i = 0 then tp else tp') _ ⟨lt_alloc W _, fun i hi => ?_⟩ (by omega)).mono ?_
  · by_cases e : i = 0
    · subst e
      exact ⟨by simp [go_sem], by simp [go_sem], hS.below (below_alloc W _) tS, by simp; omega, sS⟩
    · have : i = 1 := by omega
      subst this
      exact ⟨by simp [go_sem], by simp [go_sem], hS'.below (below_alloc W _) tS', by simp; omega, sS'⟩
  · rintro e w' ⟨k, rfl, hb, h⟩
    refine ⟨?_, hb⟩
    rcases h with ⟨rfl, h⟩ | ⟨rfl, i, hi, h⟩
    · have h0 := h 0 (by omega)
      have h1 := h 1 (by omega)
      simp at h0 h1
      rw [if_pos ⟨h0, h1⟩]
    · by_cases e : i = 0
      · subst e
        simp at h
        rw [if_neg (fun k => by rw [k.1] at h; cases h)]
      · have : i = 1 := by omega
        subst this
        simp at h
        rw [if_neg (fun k => by rw [k.2] at h; cases h)]

theorem all_take_vec {f : List Int → Bool} {m : List (List Int)} {i : Nat} (hi : i < m.length) : (m.take (i + 1)).all f = ((m.take i).all f && f (rw' m i)) := by
  rw [List.take_succ_eq_append_getElem hi, List.all_append]
  simp [rw', hi]
theorem all_false_vec {f : List Int → Bool} {m : List (List Int)} {i : Nat} (hi : i < m.length) (h : f (rw' m i) = false) : m.all f = false := by
  rw [List.all_eq_false]
  exact ⟨rw' m i, mem_row hi, by simp [h]⟩

end Go.Proofs.Ytkibkkdeaojjoab
