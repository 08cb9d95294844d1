/-
  The program's products of vectors and checks of spaces and vectors.
  Conditions: the lists are nil or rows of known cells, of at most 1048576 numbers.
-/
import Derived.Test.YtcamegdjdjacpaaPr
import Derived.Deep.LoopGhost
namespace Go.Proofs.Ytcamegdjdjacpaa
open Go.RowKit
set_option linter.unusedVariables false

set_option maxRecDepth 100000 in
set_option maxHeartbeats 3200000 in
theorem pair_any (p : Int) (aS : Option Addr) (S : List Int) (cS loS tpS : Nat) (av : Option Addr) (v : List Int) (cv lov tpv : Nat) (aw : Option Addr) (u : List Int) (cu lou tpu : Nat) (w : World)
    (hS : RowIn loS tpS w aS S) (tS : tpS ≤ w.heap.size) (hv : RowIn lov tpv w av v) (tv : tpv ≤ w.heap.size) (hu : RowIn lou tpu w aw u) (tu : tpu ≤ w.heap.size) (hs : isSp p S = true) (h1 : isVec p S.length v = true) (h2 : isVec p S.length u = true) :
    Calls Try.prog 96 #[.agg #[.int .i64 p, .slice aS S.length cS], .slice av v.length cv, .slice aw u.length cu] w fun e w' => e = .returned (.int .i64 (pairN p S v u)) ∧ Below w.heap.size w w' := by
  have K := isSp_iff.1 hs
  have V := isVec_iff.1 h1
  have U := isVec_iff.1 h2
  have hpb := prm_bd K.prime
  have hS6 := K.hi
  have hvl := V.len
  have hul := U.len
  have HS := Lib.hid hS
  have HV := Lib.hid hv
  have HU := Lib.hid hu
  have HK := Lib.hid K
  have HVN := Lib.hid V
  have HUN := Lib.hid U
  have HVL := Lib.hid hvl
  have HUL := Lib.hid hul
  rw [hvl, hul]
  obtain ⟨n, hn⟩ : ∃ n, n = S.length := ⟨_, rfl⟩
  rw [← hn] at hS6 HVL HUL
  have HN := Lib.hid hn
  have hn1 : S.length ≤ n ∧ n ≤ S.length := by omega
  rw [← hn]
  clear hS hv hu hs h1 h2 K V U hvl hul hn
  go_enter Try.func96, Try.ntmps96
  go_wp2
  go_loopw [7, 13] (fun s t wr => ∃ i : Nat, i ≤ n ∧ s = .int .i64 (psum S v u i) ∧ t = .int .i64 i ∧ Quiet (w.alloc (.cells #[.int .i64 p, .slice aS n cS] 26)) wr) (fun _ t _ => n - (intOf t).toNat)
  case atStart => exact ⟨0, Nat.zero_le _, by simp [psum, sm], rfl, Quiet.refl _⟩
  case round =>
    obtain ⟨i, hi, rfl, rfl, hq⟩ := hrel
    have HQ := Lib.hid hq
    have hb0 := (hq.cell ⟨w.heap.size, 0, none⟩).trans (nw0 w _ _ _)
    have hb1 := (hq.cell ⟨w.heap.size, 1, none⟩).trans (nw1 w _ _ _)
    have hqb := (below_alloc w (.cells #[.int .i64 p, .slice aS n cS] 26)).trans (hq.below _)
    obtain ⟨q0, q1⟩ := psum_bd (S := S) (v := v) (w := u) (n := S.length) hpb.2 (fun j hj => HK.out.num hj) (fun j hj => HVN.out.num hj) (fun j hj => HUN.out.num hj) (by omega : i ≤ S.length)
    by_cases hlt : i < n
    · obtain ⟨bs, os, ha1, _, _, cs⟩ := (HS.out.below hqb tS).num (by omega : i < S.length)
      obtain ⟨bv, ov, ha2, _, _, cv'⟩ := (HV.out.below hqb tv).num (by rw [HVL.out]; exact hlt)
      obtain ⟨bu, ou, ha3, _, _, cu'⟩ := (HU.out.below hqb tu).num (by rw [HUL.out]; exact hlt)
      subst ha1
      subst ha2
      subst ha3
      obtain ⟨x0, x1⟩ := HVN.out.num (by omega : i < S.length)
      obtain ⟨y0, y1⟩ := HUN.out.num (by omega : i < S.length)
      obtain ⟨z0, z1⟩ := HK.out.num (by omega : i < S.length)
      have HST : Hid (∀ s x y z : Int, s = psum S v u i → x = v.getD i 0 → y = u.getD i 0 → z = S.getD i 0 → s + x * y * z = psum S v u (i + 1)) := by
        intro s x y z e1 e2 e3 e4
        subst e1 e2 e3 e4
        rfl
      obtain ⟨s, hs⟩ : ∃ s, s = psum S v u i := ⟨_, rfl⟩
      obtain ⟨x, hx⟩ : ∃ x, x = v.getD i 0 := ⟨_, rfl⟩
      obtain ⟨y, hy⟩ : ∃ y, y = u.getD i 0 := ⟨_, rfl⟩
      obtain ⟨z, hz⟩ : ∃ z, z = S.getD i 0 := ⟨_, rfl⟩
      have HE := Lib.hid (HST.out s x y z hs hx hy hz)
      rw [← hs] at q0 q1
      rw [← hx] at cv' x0 x1
      rw [← hy] at cu' y0 y1
      rw [← hz] at cs z0 z1
      rw [← hs]
      clear hs hx hy hz HST hq hqb
      obtain ⟨p1, p2, p3, p4⟩ := prod3 hpb.2 x0 x1 y0 y1 z0 z1
      have e1 : IntKind.i64.wrap (x * y) = x * y := IntWalk.i64_in _ (by omega)
      have e3 : IntKind.i64.wrap (x * y * z) = x * y * z := IntWalk.i64_in _ (by omega)
      have e4 : IntKind.i64.wrap (s + x * y * z) = s + x * y * z := IntWalk.i64_in _ (by omega)
      have hi1 : (i : Int) < (n : Int) := by omega
      go_wp2
      go_quiet (fail)
      clear e1 e3 e4
      go_wp2
      go_roundw
      case rel => exact ⟨i + 1, by omega, by rw [HE.out], by go_num, HQ.out.next _⟩
      case measure => simp [intOf]; omega
    · have hin : i = n := by omega
      subst hin
      have HE : Hid (psum S v u i % p = pairN p S v u) := by show _ = _; unfold pairN; rw [HN.out]
      have e5 : (psum S v u i).tmod p = psum S v u i % p := Int.tmod_eq_emod_of_nonneg q0
      have hp0 : ¬ p = 0 := by omega
      have hp1 : (p == 0) = false := by simpa using hp0
      clear hq hqb
      go_wp2
      go_ret
      exact ⟨by rw [← HE.out]; rfl, (below_alloc w _).trans (HQ.out.below _)⟩

/-- Several spaces, one behind the other in a block. -/
def Spaces (w : World) (b N : Nat) (q : Nat → Int) (A : Nat → Option Addr) (Z : Nat → List Int) (C : Nat → Nat) (lo tp : Nat → Nat) : Prop :=
  b < w.heap.size ∧ ∀ i, i < N → w.cell? ⟨b, i * 2, none⟩ = some (.int .i64 (q i)) ∧ w.cell? ⟨b, i * 2 + 1, none⟩ = some (.slice (A i) (Z i).length (C i)) ∧ RowIn (lo i) (tp i) w (A i) (Z i) ∧ tp i ≤ w.heap.size ∧ (Z i).length ≤ 1048576
/-- The code of several spaces. -/
def SpsC (N : Nat) (q : Nat → Int) (Z : Nat → List Int) (w : World) (e : Ending) (w' : World) : Prop :=
  ∃ c : Int, e = .returned (.int .i64 c) ∧ Below w.heap.size w w' ∧ ((c = 0 ∧ ∀ i, i < N → isSp (q i) (Z i) = true) ∨ (c = 1 ∧ ∃ i, i < N ∧ isSp (q i) (Z i) = false))
def AllSp (N : Nat) (q : Nat → Int) (Z : Nat → List Int) : Prop := ∀ i, i < N → isSp (q i) (Z i) = true

set_option maxRecDepth 100000 in
set_option maxHeartbeats 1600000 in
theorem checkSpaces_any (b N cap : Nat) (q : Nat → Int) (A : Nat → Option Addr) (Z : Nat → List Int) (C lo tp : Nat → Nat) (w : World) (h : Spaces w b N q A Z C lo tp) (hN : N ≤ 2) :
    Calls Try.prog 125 #[.slice (some ⟨b, 0, none⟩) N cap] w (SpsC N q Z w) := by
  have H := Lib.hid h
  clear h
  go_enter Try.func125, Try.ntmps125
  go_wp2
  have hb0 := H.out.1
  go_loopw [7] (fun t wr => ∃ i : Nat, i ≤ N ∧ t = .int .i64 i ∧ AllSp i q Z ∧ Below w.heap.size w wr) (fun t _ => N - (intOf t).toNat)
  case atStart => exact ⟨0, Nat.zero_le _, rfl, fun i hi => by omega, Below.refl _ _⟩
  case round =>
    obtain ⟨i, hi, rfl, hA, hB⟩ := hrel
    have HA := Lib.hid hA
    have HB := Lib.hid hB
    have hsz := hB.size
    by_cases hlt : i < N
    · obtain ⟨g0, g1, hr, ht, hz⟩ := H.out.2 i hlt
      have g0' := (hB.cell (p := ⟨b, i * 2, none⟩) hb0).trans g0
      have g1' := (hB.cell (p := ⟨b, i * 2 + 1, none⟩) hb0).trans g1
      have HR := Lib.hid (hr.below hB ht)
      have hi1 : (i : Int) < (N : Int) := by omega
      clear hA hB g0 g1 hr
      by_cases hs : isSp (q i) (Z i) = true
      · have HS := Lib.hid hs
        clear hs
        go_wp2_with (go_at_call 61; (with_reducible refine (isSpace_any (q i) (A i) (Z i) (C i) (lo i) (tp i) _ (HR.out.below (below_alloc _ _) (by omega)) (by simp; omega) hz).mono ?_); rintro e w1 ⟨rfl, hb1⟩; rw [HS.out]; have HB1 := Lib.hid hb1; clear hb1)
        go_roundw
        case rel => exact ⟨i + 1, by omega, by go_num, fun j hj => by
            by_cases e : j = i
            · subst e; exact HS.out
            · exact HA.out j (by omega), by
              have hb1 := HB.out
              have hb2 := HB1.out
              exact below_step (hb1.alloc hsz _) (by simp; omega) hb2⟩
        case measure => simp [intOf]; omega
      · have HS : Hid (isSp (q i) (Z i) = false) := by show _ = _; simpa using hs
        clear hs
        go_wp2_with (go_at_call 61; (with_reducible refine (isSpace_any (q i) (A i) (Z i) (C i) (lo i) (tp i) _ (HR.out.below (below_alloc _ _) (by omega)) (by simp; omega) hz).mono ?_); rintro e w1 ⟨rfl, hb1⟩; rw [HS.out]; have HB1 := Lib.hid hb1; clear hb1)
        go_ret
        exact ⟨1, rfl, below_step (HB.out.alloc hsz _) (by simp; omega) HB1.out, .inr ⟨rfl, i, hlt, HS.out⟩⟩
    · have hin : i = N := by omega
      subst hin
      clear hA hB
      go_wp2
      go_ret
      exact ⟨0, rfl, HB.out, .inl ⟨rfl, HA.out⟩⟩

end Go.Proofs.Ytcamegdjdjacpaa
