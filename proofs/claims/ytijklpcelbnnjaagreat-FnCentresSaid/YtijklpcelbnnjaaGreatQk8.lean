/-
  Products of vectors of a space, in the program and in the model; checks of lists of vectors.
  Conditions: the lists are nil or rows of known cells, of at most 1048576 numbers.
  The program's products of vectors and checks of spaces and vectors.
  Conditions: the lists are nil or rows of known cells, of at most 1048576 numbers.
  Checks of spaces and lists of vectors in the program; of vectors in the model.
  Conditions: the lists are nil or rows of known cells, of at most 1048576 numbers.
  Multivectors: sizes, codes, grades; what chapter 4 makes of them. No Go in sight.
  No conditions.
  Geometric products: signs and factors of blades, their sums, associativity, the unit. No Go in sight.
  No conditions.
-/
import Derived.Test.YtijklpcelbnnjaaGreatQk7
import Derived.BigQuiet
import Derived.Deep.QuietTactic
import Derived.RegionTactic
import Derived.Deep.LoopGhost
namespace Go.Proofs.YtijklpcelbnnjaaGreat
open Go.RowKit
set_option linter.unusedVariables false

def isVec (p : Int) (n : Nat) (v : List Int) : Bool := decide (v.length = n) && v.all (inr p)
structure Vec (p : Int) (n : Nat) (v : List Int) : Prop where
  len : v.length = n
  all : v.all (inr p) = true
theorem isVec_iff {p : Int} {n : Nat} {v : List Int} : isVec p n v = true ↔ Vec p n v := by
  unfold isVec
  simp only [Bool.and_eq_true, decide_eq_true_eq]
  exact ⟨fun h => ⟨h.1, h.2⟩, fun h => ⟨h.len, h.all⟩⟩
theorem Vec.num {p : Int} {n : Nat} {v : List Int} (h : Vec p n v) {j : Nat} (hj : j < n) : 0 ≤ v.getD j 0 ∧ v.getD j 0 < p := by
  have ha := h.all
  have hl := h.len
  rw [List.all_eq_true] at ha
  exact inr_iff.1 (ha _ (by rw [getD_at (by omega : j < v.length)]; exact List.getElem_mem _))
/-- The sum of products up to i. -/
def psum (S v w : List Int) (i : Nat) : Int := sm i fun j => v.getD j 0 * w.getD j 0 * S.getD j 0
def pairN (p : Int) (S v w : List Int) : Int := psum S v w S.length % p
theorem prod3 {p x y z : Int} (hp : p ≤ 13) (x0 : 0 ≤ x) (x1 : x < p) (y0 : 0 ≤ y) (y1 : y < p) (z0 : 0 ≤ z) (z1 : z < p) : 0 ≤ x * y ∧ x * y ≤ 144 ∧ 0 ≤ x * y * z ∧ x * y * z ≤ 1728 := by
  have a0 : 0 ≤ x * y := Int.mul_nonneg x0 y0
  have a1 : x * y ≤ 12 * 12 := Int.le_trans (Int.mul_le_mul_of_nonneg_right (by omega : x ≤ 12) y0) (Int.mul_le_mul_of_nonneg_left (by omega) (by omega))
  have b0 : 0 ≤ x * y * z := Int.mul_nonneg a0 z0
  have b1 : x * y * z ≤ 144 * 12 := Int.le_trans (Int.mul_le_mul_of_nonneg_right (by omega : x * y ≤ 144) z0) (Int.mul_le_mul_of_nonneg_left (by omega) (by omega))
  omega
theorem psum_step (p s x y z : Int) : (s % p + x * y % p * z) % p = (s + x * y * z) % p := by
  rw [Int.add_emod, Int.emod_emod, Int.mul_emod (x * y % p), Int.emod_emod, ← Int.mul_emod, ← Int.add_emod]

set_option maxRecDepth 100000 in
set_option maxHeartbeats 3200000 in
theorem l03Pair_any (p : Int) (aS : Option Addr) (S : List Int) (cS loS tpS : Nat) (av : Option Addr) (v : List Int) (cv lov tpv : Nat) (aw : Option Addr) (u : List Int) (cu lou tpu : Nat) (w : World)
    (hS : RowIn loS tpS w aS S) (tS : tpS ≤ w.heap.size) (hv : RowIn lov tpv w av v) (tv : tpv ≤ w.heap.size) (hu : RowIn lou tpu w aw u) (tu : tpu ≤ w.heap.size) (hs : isSp p S = true) (h1 : isVec p S.length v = true) (h2 : isVec p S.length u = true) :
    Calls Tryz.prog 98 #[.agg #[.int .i64 p, .slice aS S.length cS], .slice av v.length cv, .slice aw u.length cu] w fun e w' => e = .returned (.int .i64 (pairN p S v u)) ∧ Below w.heap.size w w' := by
  have K := isSp_iff.1 hs
  have V := isVec_iff.1 h1
  have U := isVec_iff.1 h2
  have hpb := prm_bd K.prime
  have hS6 := K.hi
  have hvl := V.len
  have hul := U.len
  have HS := Lib.hid hS
  have HV := Lib.hid hv
  have HU := Lib.hid hu
  have HK := Lib.hid K
  have HVN := Lib.hid V
  have HUN := Lib.hid U
  have HVL := Lib.hid hvl
  have HUL := Lib.hid hul
  rw [hvl, hul]
  clear hS hv hu hs h1 h2 K V U hvl hul
  go_enter Tryz.func98, Tryz.ntmps98
  go_wp2
  obtain ⟨n, hn⟩ : ∃ n, n = S.length := ⟨_, rfl⟩
  rw [← hn] at hS6 HVL HUL
  have HN := Lib.hid hn
  have hn1 : S.length ≤ n ∧ n ≤ S.length := by omega
  rw [← hn]
  clear hn
  go_loopw [7, 8] (fun s t wr => ∃ i : Nat, i ≤ n ∧ s = .int .i64 (psum S v u i % p) ∧ t = .int .i64 i ∧ Quiet (w.alloc (.cells #[.int .i64 p, .slice aS n cS] 26)) wr) (fun _ t _ => n - (intOf t).toNat)
  case atStart => exact ⟨0, Nat.zero_le _, by simp [psum, sm], rfl, Quiet.refl _⟩
  case round =>
    obtain ⟨i, hi, rfl, rfl, hq⟩ := hrel
    have HQ := Lib.hid hq
    have hb0 := (hq.cell ⟨w.heap.size, 0, none⟩).trans (nw0 w _ _ _)
    have hb1 := (hq.cell ⟨w.heap.size, 1, none⟩).trans (nw1 w _ _ _)
    have hqb := (below_alloc w (.cells #[.int .i64 p, .slice aS n cS] 26)).trans (hq.below _)
    by_cases hlt : i < n
    · obtain ⟨bs, os, ha1, _, _, cs⟩ := (HS.out.below hqb tS).num (by omega : i < S.length)
      obtain ⟨bv, ov, ha2, _, _, cv'⟩ := (HV.out.below hqb tv).num (by rw [HVL.out]; exact hlt)
      obtain ⟨bu, ou, ha3, _, _, cu'⟩ := (HU.out.below hqb tu).num (by rw [HUL.out]; exact hlt)
      subst ha1
      subst ha2
      subst ha3
      obtain ⟨x0, x1⟩ := HVN.out.num (by omega : i < S.length)
      obtain ⟨y0, y1⟩ := HUN.out.num (by omega : i < S.length)
      obtain ⟨z0, z1⟩ := HK.out.num (by omega : i < S.length)
      obtain ⟨q0, q1⟩ := mod_bd HK.out.prime (psum S v u i)
      have HST : Hid (∀ s x y z : Int, s = psum S v u i % p → x = v.getD i 0 → y = u.getD i 0 → z = S.getD i 0 → (s + x * y % p * z) % p = psum S v u (i + 1) % p) := by
        intro s x y z e1 e2 e3 e4
        subst e1 e2 e3 e4
        exact psum_step p _ _ _ _
      obtain ⟨s, hs⟩ : ∃ s, s = psum S v u i % p := ⟨_, rfl⟩
      obtain ⟨x, hx⟩ : ∃ x, x = v.getD i 0 := ⟨_, rfl⟩
      obtain ⟨y, hy⟩ : ∃ y, y = u.getD i 0 := ⟨_, rfl⟩
      obtain ⟨z, hz⟩ : ∃ z, z = S.getD i 0 := ⟨_, rfl⟩
      have HE := Lib.hid (HST.out s x y z hs hx hy hz)
      rw [← hs] at q0 q1
      rw [← hx] at cv' x0 x1
      rw [← hy] at cu' y0 y1
      rw [← hz] at cs z0 z1
      rw [← hs]
      clear hs hx hy hz HST hq hqb
      obtain ⟨p1, p2, _, _⟩ := prod3 hpb.2 x0 x1 y0 y1 z0 z1
      have m0 := Int.emod_nonneg (x * y) (by omega : p ≠ 0)
      have m1 := Int.emod_lt_of_pos (x * y) (by omega : 0 < p)
      obtain ⟨p3, p4, _, _⟩ := prod3 hpb.2 m0 m1 z0 z1 z0 z1
      have e1 : IntKind.i64.wrap (x * y) = x * y := IntWalk.i64_in _ (by omega)
      have e2 : (x * y).tmod p = x * y % p := Int.tmod_eq_emod_of_nonneg p1
      have e3 : IntKind.i64.wrap (x * y % p * z) = x * y % p * z := IntWalk.i64_in _ (by omega)
      have e4 : IntKind.i64.wrap (s + x * y % p * z) = s + x * y % p * z := IntWalk.i64_in _ (by omega)
      have e5 : (s + x * y % p * z).tmod p = (s + x * y % p * z) % p := Int.tmod_eq_emod_of_nonneg (by omega)
      have hp0 : ¬ p = 0 := by omega
      have hp1 : (p == 0) = false := by simpa using hp0
      have hi1 : (i : Int) < (n : Int) := by omega
      go_wp2
      go_quiet (fail)
      clear e1 e2 e3 e4 e5
      go_wp2
      go_roundw
      case rel => exact ⟨i + 1, by omega, by rw [HE.out], by go_num, HQ.out.next _⟩
      case measure => simp [intOf]; omega
    · have hin : i = n := by omega
      subst hin
      have HE : Hid (psum S v u i % p = pairN p S v u) := by show _ = _; unfold pairN; rw [HN.out]
      rw [HE.out]
      clear hq hb0 hb1 hqb
      go_wp2
      go_ret
      exact ⟨rfl, (below_alloc w _).trans (HQ.out.below _)⟩

end Go.Proofs.YtijklpcelbnnjaaGreat

namespace Go.Proofs.YtijklpcelbnnjaaGreat
open Go.RowKit
set_option linter.unusedVariables false

/-- Several spaces, one behind the other in a block. -/
def Spaces (w : World) (b N : Nat) (q : Nat → Int) (A : Nat → Option Addr) (Z : Nat → List Int) (C : Nat → Nat) (lo tp : Nat → Nat) : Prop :=
  b < w.heap.size ∧ ∀ i, i < N → w.cell? ⟨b, i * 2, none⟩ = some (.int .i64 (q i)) ∧ w.cell? ⟨b, i * 2 + 1, none⟩ = some (.slice (A i) (Z i).length (C i)) ∧ RowIn (lo i) (tp i) w (A i) (Z i) ∧ tp i ≤ w.heap.size ∧ (Z i).length ≤ 1048576
/-- The code of several spaces. -/
def SpsC (N : Nat) (q : Nat → Int) (Z : Nat → List Int) (w : World) (e : Ending) (w' : World) : Prop :=
  ∃ c : Int, e = .returned (.int .i64 c) ∧ Below w.heap.size w w' ∧ ((c = 0 ∧ ∀ i, i < N → isSp (q i) (Z i) = true) ∨ (c = 1 ∧ ∃ i, i < N ∧ isSp (q i) (Z i) = false))
def AllSp (N : Nat) (q : Nat → Int) (Z : Nat → List Int) : Prop := ∀ i, i < N → isSp (q i) (Z i) = true

set_option maxRecDepth 100000 in
set_option maxHeartbeats 1600000 in
theorem checkSpaces_any (b N cap : Nat) (q : Nat → Int) (A : Nat → Option Addr) (Z : Nat → List Int) (C lo tp : Nat → Nat) (w : World) (h : Spaces w b N q A Z C lo tp) (hN : N ≤ 2) :
    Calls Tryz.prog 72 #[.slice (some ⟨b, 0, none⟩) N cap] w (SpsC N q Z w) := by
  have H := Lib.hid h
  clear h
  go_enter Tryz.func72, Tryz.ntmps72
  go_wp2
  have hb0 := H.out.1
  go_loopw [7] (fun t wr => ∃ i : Nat, i ≤ N ∧ t = .int .i64 i ∧ AllSp i q Z ∧ Below w.heap.size w wr) (fun t _ => N - (intOf t).toNat)
  case atStart => exact ⟨0, Nat.zero_le _, rfl, fun i hi => by omega, Below.refl _ _⟩
  case round =>
    obtain ⟨i, hi, rfl, hA, hB⟩ := hrel
    have HA := Lib.hid hA
    have HB := Lib.hid hB
    have hsz := hB.size
    by_cases hlt : i < N
    · obtain ⟨g0, g1, hr, ht, hz⟩ := H.out.2 i hlt
      have g0' := (hB.cell (p := ⟨b, i * 2, none⟩) hb0).trans g0
      have g1' := (hB.cell (p := ⟨b, i * 2 + 1, none⟩) hb0).trans g1
      have HR := Lib.hid (hr.below hB ht)
      have hi1 : (i : Int) < (N : Int) := by omega
      clear hA hB g0 g1 hr
      by_cases hs : isSp (q i) (Z i) = true
      · have HS := Lib.hid hs
        clear hs
        go_wp2_with (go_at_call 104; (with_reducible refine (isSpace_any (q i) (A i) (Z i) (C i) (lo i) (tp i) _ (HR.out.below (below_alloc _ _) (by omega)) (by simp; omega) hz).mono ?_); rintro e w1 ⟨rfl, hb1⟩; rw [HS.out]; have HB1 := Lib.hid hb1; clear hb1)
        go_roundw
        case rel => exact ⟨i + 1, by omega, by go_num, fun j hj => by
            by_cases e : j = i
            · subst e; exact HS.out
            · exact HA.out j (by omega), by
              have hb1 := HB.out
              have hb2 := HB1.out
              exact below_step (hb1.alloc hsz _) (by simp; omega) hb2⟩
        case measure => simp [intOf]; omega
      · have HS : Hid (isSp (q i) (Z i) = false) := by show _ = _; simpa using hs
        clear hs
        go_wp2_with (go_at_call 104; (with_reducible refine (isSpace_any (q i) (A i) (Z i) (C i) (lo i) (tp i) _ (HR.out.below (below_alloc _ _) (by omega)) (by simp; omega) hz).mono ?_); rintro e w1 ⟨rfl, hb1⟩; rw [HS.out]; have HB1 := Lib.hid hb1; clear hb1)
        go_ret
        exact ⟨1, rfl, below_step (HB.out.alloc hsz _) (by simp; omega) HB1.out, .inr ⟨rfl, i, hlt, HS.out⟩⟩
    · have hin : i = N := by omega
      subst hin
      clear hA hB
      go_wp2
      go_ret
      exact ⟨0, rfl, HB.out, .inl ⟨rfl, HA.out⟩⟩

end Go.Proofs.YtijklpcelbnnjaaGreat

namespace Go.Proofs.YtijklpcelbnnjaaGreat
open Go.RowKit
set_option linter.unusedVariables false

def code1 (p : Int) (S : List Int) : Int := if isSp p S = true then 0 else 1
theorem code1_yes {p : Int} {S : List Int} (h : isSp p S = true) : code1 p S = 0 := if_pos h
theorem code1_no {p : Int} {S : List Int} (h : isSp p S = false) : code1 p S = 1 := if_neg (by simp [h])
theorem checkSp1 (p : Int) (a : Option Addr) (S : List Int) (c lo tp cap b : Nat) (W : World) (T : TypeId) (hb' : b = W.heap.size) (hS : RowIn lo tp W a S) (tS : tp ≤ W.heap.size) (sS : S.length ≤ 1048576) :
    Calls Tryz.prog 72 #[.slice (some ⟨b, 0, none⟩) 1 cap] (W.alloc (.cells #[.int .i64 p, .slice a S.length c] T)) fun e w' => e = .returned (.int .i64 (code1 p S)) ∧ Below (W.alloc (.cells #[.int .i64 p, .slice a S.length c] T)).heap.size (W.alloc (.cells #[.int .i64 p, .slice a S.length c] T)) w' := by
  subst hb'
  refine (checkSpaces_any W.heap.size 1 cap (fun _ => p) (fun _ => a) (fun _ => S) (fun _ => c) (fun _ => lo) (fun _ => tp) _ ⟨lt_alloc W _, fun i hi => ?_⟩ (by omega)).mono ?_
  · have : i = 0 := by omega
    subst this
    exact ⟨nw0 W _ _ T, nw1 W _ _ T, hS.below (below_alloc W _) tS, by simp; omega, sS⟩
  · rintro e w' ⟨c', rfl, hb, h⟩
    refine ⟨?_, hb⟩
    rcases h with ⟨rfl, h⟩ | ⟨rfl, i, hi, h⟩
    · rw [code1_yes (h 0 (by omega))]
    · rw [code1_no h]
theorem all_take_vec {f : List Int → Bool} {m : List (List Int)} {i : Nat} (hi : i < m.length) : (m.take (i + 1)).all f = ((m.take i).all f && f (rw' m i)) := by
  rw [List.take_succ_eq_append_getElem hi, List.all_append]
  simp [rw', hi]
theorem all_false_vec {f : List Int → Bool} {m : List (List Int)} {i : Nat} (hi : i < m.length) (h : f (rw' m i) = false) : m.all f = false := by
  rw [List.all_eq_false]
  exact ⟨rw' m i, mem_row hi, by simp [h]⟩

end Go.Proofs.YtijklpcelbnnjaaGreat

namespace Go.Proofs.YtijklpcelbnnjaaGreat
open Go.RowKit
set_option linter.unusedVariables false

/-- How many blades there are. -/
def bl (S : List Int) : Nat := 2 ^ S.length
theorem bl_le {S : List Int} (h : S.length ≤ 6) : bl S ≤ 64 := Nat.pow_le_pow_right (by decide) h
theorem bl_pos (S : List Int) : 0 < bl S := Nat.two_pow_pos _
def isMv (p : Int) (S x : List Int) : Bool := isVec p (bl S) x
def codeMv (p : Int) (S : List Int) (m : List (List Int)) : Int := if isSp p S = true then (if m.all (isMv p S) = true then 0 else 2) else 1
theorem codeMv_sp {p : Int} {S : List Int} {m : List (List Int)} (h : isSp p S = false) : codeMv p S m = 1 := if_neg (by simp [h])
theorem codeMv_ok {p : Int} {S : List Int} {m : List (List Int)} (h : isSp p S = true) (k : m.all (isMv p S) = true) : codeMv p S m = 0 := by unfold codeMv; rw [if_pos h, if_pos k]
theorem codeMv_no {p : Int} {S : List Int} {m : List (List Int)} (h : isSp p S = true) (k : m.all (isMv p S) = false) : codeMv p S m = 2 := by unfold codeMv; rw [if_pos h, if_neg (by simp [k])]
theorem codeMv_cases (p : Int) (S : List Int) (m : List (List Int)) : (isSp p S = false ∧ codeMv p S m = 1) ∨ (isSp p S = true ∧ m.all (isMv p S) = true ∧ codeMv p S m = 0) ∨ (isSp p S = true ∧ m.all (isMv p S) = false ∧ codeMv p S m = 2) := by
  by_cases h : isSp p S = true
  · by_cases k : m.all (isMv p S) = true
    · exact .inr (.inl ⟨h, k, codeMv_ok h k⟩)
    · have k' : m.all (isMv p S) = false := by simpa using k
      exact .inr (.inr ⟨h, k', codeMv_no h k'⟩)
  · have h' : isSp p S = false := by simpa using h
    exact .inl ⟨h', codeMv_sp h'⟩
theorem mv_all1 (f : List Int → Bool) (x : List Int) : [x].all f = f x := by simp
theorem mv_all2 (f : List Int → Bool) (x y : List Int) : [x, y].all f = (f x && f y) := by simp

/-- The grade of a blade. -/
def gr (m : Nat) : Nat := m % 2 + m / 2 % 2 + m / 4 % 2 + m / 8 % 2 + m / 16 % 2 + m / 32 % 2
theorem gr_step {m : Nat} (h : m < 64) : gr m = m % 2 + gr (m / 2) := by unfold gr; omega
theorem gr_le (m : Nat) : gr m ≤ 6 := by unfold gr; omega
theorem gr_zero : gr 0 = 0 := rfl
/-- What chapter 4 makes of multivectors. -/
def vecF (v : List Int) : Nat → Nat → Int
  | 0, _ => 0
  | i + 1, m => if m = 2 ^ i then v.getD i 0 else vecF v i m
def bladeM (S : List Int) (k : Nat) : List Int := mkR (bl S) fun j => if j = k then 1 else 0
end Go.Proofs.YtijklpcelbnnjaaGreat

namespace Go.Proofs.YtijklpcelbnnjaaGreat
open Go.RowKit
set_option linter.unusedVariables false

theorem xor_bit (a b i : Nat) : (a ^^^ b) / 2 ^ i % 2 = (a / 2 ^ i % 2 + b / 2 ^ i % 2) % 2 := by
  rw [← Nat.toNat_testBit, ← Nat.toNat_testBit, ← Nat.toNat_testBit, Nat.testBit_xor]
  cases a.testBit i <;> cases b.testBit i <;> rfl
theorem par_step {X U u a b : Nat} (h : X = (a + b) % 2) (hu : U % 2 = u % 2) : (U + X) % 2 = (u + (a + b)) % 2 := by omega
theorem gr_xor (a b : Nat) : gr (a ^^^ b) % 2 = (gr a + gr b) % 2 := by
  have h0 := xor_bit a b 0
  have h1 := xor_bit a b 1
  have h2 := xor_bit a b 2
  have h3 := xor_bit a b 3
  have h4 := xor_bit a b 4
  have h5 := xor_bit a b 5
  simp only [Nat.pow_zero, Nat.div_one, Nat.pow_one, show (2 : Nat) ^ 2 = 4 from rfl, show (2 : Nat) ^ 3 = 8 from rfl, show (2 : Nat) ^ 4 = 16 from rfl, show (2 : Nat) ^ 5 = 32 from rfl] at h0 h1 h2 h3 h4 h5
  unfold gr
  rw [par_step h5 (par_step h4 (par_step h3 (par_step h2 (par_step (u := a % 2 + b % 2) h1 (by rw [h0, Nat.mod_mod])))))]
  congr 1
  ac_rfl
/-- A sign. -/
def eps (k : Nat) : Int := if k % 2 = 1 then -1 else 1
theorem eps_cases (k : Nat) : eps k = 1 ∨ eps k = -1 := by unfold eps; split <;> simp
theorem eps_sq (k : Nat) : eps k * eps k = 1 := by rcases eps_cases k with h | h <;> rw [h] <;> rfl
theorem eps_xor (a b : Nat) : eps (gr (a ^^^ b)) = eps (gr a) * eps (gr b) := by
  have h := gr_xor a b
  unfold eps
  rw [h]
  rcases Nat.mod_two_eq_zero_or_one (gr a) with ha | ha <;> rcases Nat.mod_two_eq_zero_or_one (gr b) with hb | hb <;> simp [ha, hb, Nat.add_mod]

/-- What the basis vector i of a blade b brings with it behind the blade a. -/
def gi (S : List Int) (a b i : Nat) : Int := if b / 2 ^ i % 2 = 1 then eps (gr (a / 2 ^ (i + 1))) * (if a / 2 ^ i % 2 = 1 then S.getD i 0 else 1) else 1
/-- The factor of the product of two blades, over the first n basis vectors of the second one. -/
def fz (S : List Int) (a b : Nat) : Nat → Int
  | 0 => 1
  | n + 1 => fz S a b n * gi S a b n
theorem gi_coc (S : List Int) (a b e i : Nat) : gi S a b i * gi S (a ^^^ b) e i = gi S a (b ^^^ e) i * gi S b e i := by
  unfold gi
  rw [xor_bit b e i, xor_bit a b i, Nat.xor_div_two_pow, eps_xor]
  have hs := eps_sq (gr (a / 2 ^ (i + 1)))
  obtain ⟨α, hα⟩ : ∃ α, α = eps (gr (a / 2 ^ (i + 1))) := ⟨_, rfl⟩
  obtain ⟨β, hβ⟩ : ∃ β, β = eps (gr (b / 2 ^ (i + 1))) := ⟨_, rfl⟩
  rw [← hα] at hs ⊢
  rw [← hβ]
  generalize S.getD i 0 = s
  rcases Nat.mod_two_eq_zero_or_one (a / 2 ^ i) with ha | ha <;> rcases Nat.mod_two_eq_zero_or_one (b / 2 ^ i) with hb | hb <;> rcases Nat.mod_two_eq_zero_or_one (e / 2 ^ i) with he | he <;> simp [ha, hb, he] <;> grind
theorem fz_coc (S : List Int) (a b e n : Nat) : fz S a b n * fz S (a ^^^ b) e n = fz S a (b ^^^ e) n * fz S b e n := by
  induction n with
  | zero => rfl
  | succ n ih =>
    simp only [fz]
    have h := gi_coc S a b e n
    generalize fz S a b n = x1 at *
    generalize fz S (a ^^^ b) e n = x2 at *
    generalize fz S a (b ^^^ e) n = x3 at *
    generalize fz S b e n = x4 at *
    generalize gi S a b n = y1 at *
    generalize gi S (a ^^^ b) e n = y2 at *
    generalize gi S a (b ^^^ e) n = y3 at *
    generalize gi S b e n = y4 at *
    calc x1 * y1 * (x2 * y2) = (x1 * x2) * (y1 * y2) := by ac_rfl
      _ = (x3 * x4) * (y3 * y4) := by rw [ih, h]
      _ = x3 * y3 * (x4 * y4) := by ac_rfl
theorem gi_zero (S : List Int) (b i : Nat) : gi S 0 b i = 1 := by
  unfold gi; simp [gr, eps]
theorem gi_one (S : List Int) (a i : Nat) : gi S a 0 i = 1 := by
  unfold gi; simp
theorem fz_zero (S : List Int) (b n : Nat) : fz S 0 b n = 1 := by
  induction n with
  | zero => rfl
  | succ n ih => simp only [fz]; rw [ih, gi_zero]; rfl
theorem fz_one (S : List Int) (a n : Nat) : fz S a 0 n = 1 := by
  induction n with
  | zero => rfl
  | succ n ih => simp only [fz]; rw [ih, gi_one]; rfl
theorem bit_add {b i n : Nat} (h : i < n) : (b + 2 ^ n) / 2 ^ i % 2 = b / 2 ^ i % 2 := by
  obtain ⟨d, rfl⟩ : ∃ d, n = i + 1 + d := ⟨n - i - 1, by omega⟩
  have e : (2 : Nat) ^ (i + 1 + d) = 2 ^ d * 2 * 2 ^ i := by rw [Nat.pow_add, Nat.pow_succ, Nat.mul_comm (2 ^ i * 2), Nat.mul_comm (2 ^ i), Nat.mul_assoc]
  rw [e, Nat.add_mul_div_right _ _ (Nat.two_pow_pos i)]
  omega
theorem fz_add (S : List Int) (a b N : Nat) : ∀ n, n ≤ N → fz S a (b + 2 ^ N) n = fz S a b n
  | 0, _ => rfl
  | n + 1, h => by simp only [fz]; rw [fz_add S a b N n (by omega)]; unfold gi; rw [bit_add (by omega)]

/-- Sums over all masks, turned round by a mask. -/
theorem sm_xor (k c : Nat) (hc : c < 2 ^ k) (f : Nat → Int) : sm (2 ^ k) (fun a => f (a ^^^ c)) = sm (2 ^ k) f := by
  have h1 : ∀ a, a < 2 ^ k → f (a ^^^ c) = sm (2 ^ k) (fun b => if b = a ^^^ c then f (a ^^^ c) else 0) := fun a ha => by
    rw [sm_single, if_pos (Nat.xor_lt_two_pow ha hc)]
  rw [sm_congr h1, sm_swap]
  apply sm_congr
  intro b hb
  have h2 : ∀ a, a < 2 ^ k → (if b = a ^^^ c then f (a ^^^ c) else 0) = if a = b ^^^ c then f b else 0 := fun a _ => by
    by_cases e : b = a ^^^ c
    · have e2 : a = b ^^^ c := by rw [e, Nat.xor_assoc, Nat.xor_self, Nat.xor_zero]
      rw [if_pos e, if_pos e2, ← e]
    · have e2 : ¬ a = b ^^^ c := fun h => e (by rw [h, Nat.xor_assoc, Nat.xor_self, Nat.xor_zero])
      rw [if_neg e, if_neg e2]
  rw [sm_congr h2, sm_single, if_pos (Nat.xor_lt_two_pow hb hc)]
/-- The number at c of the product, over the integers. -/
def gpz (S : List Int) (n : Nat) (x y : Nat → Int) (c : Nat) : Int := sm (2 ^ n) fun a => x a * fz S a (a ^^^ c) n * y (a ^^^ c)
theorem xor_mid (a c d : Nat) : (a ^^^ c) ^^^ (a ^^^ d) = c ^^^ d := by
  rw [Nat.xor_comm a c, Nat.xor_assoc, ← Nat.xor_assoc a a d, Nat.xor_self, Nat.zero_xor]
theorem xor_back (a c : Nat) : a ^^^ (a ^^^ c) = c := by rw [← Nat.xor_assoc, Nat.xor_self, Nat.zero_xor]
theorem gpz_assoc (S : List Int) (n : Nat) (x y z : Nat → Int) {d : Nat} (hd : d < 2 ^ n) : gpz S n (gpz S n x y) z d = gpz S n x (gpz S n y z) d := by
  unfold gpz
  have h1 : ∀ c, c < 2 ^ n → (sm (2 ^ n) fun a => x a * fz S a (a ^^^ c) n * y (a ^^^ c)) * fz S c (c ^^^ d) n * z (c ^^^ d) = sm (2 ^ n) fun a => x a * (fz S a (a ^^^ d) n * fz S (a ^^^ c) (c ^^^ d) n) * (y (a ^^^ c) * z (c ^^^ d)) := fun c _ => by
    rw [Int.mul_assoc, Int.mul_comm, ← sm_mul]
    apply sm_congr
    intro a _
    have h := fz_coc S a (a ^^^ c) (c ^^^ d) n
    rw [xor_back, show (a ^^^ c) ^^^ (c ^^^ d) = a ^^^ d by rw [Nat.xor_assoc, xor_back]] at h
    rw [← h]
    ac_rfl
  rw [sm_congr h1, sm_swap]
  apply sm_congr
  intro a ha
  have h2 : x a * fz S a (a ^^^ d) n * (sm (2 ^ n) fun b => y b * fz S b (b ^^^ (a ^^^ d)) n * z (b ^^^ (a ^^^ d))) = sm (2 ^ n) fun b => x a * fz S a (a ^^^ d) n * (y b * fz S b (b ^^^ (a ^^^ d)) n * z (b ^^^ (a ^^^ d))) := by rw [sm_mul]
  rw [h2, ← sm_xor n a ha (fun b => x a * fz S a (a ^^^ d) n * (y b * fz S b (b ^^^ (a ^^^ d)) n * z (b ^^^ (a ^^^ d))))]
  apply sm_congr
  intro c _
  show _ = x a * fz S a (a ^^^ d) n * (y (c ^^^ a) * fz S (c ^^^ a) (c ^^^ a ^^^ (a ^^^ d)) n * z (c ^^^ a ^^^ (a ^^^ d)))
  rw [Nat.xor_comm c a, xor_mid]
  ac_rfl
theorem gpz_congr (S : List Int) (n : Nat) {x x' y y' : Nat → Int} {c : Nat} (hc : c < 2 ^ n) (hx : ∀ j, j < 2 ^ n → x j = x' j) (hy : ∀ j, j < 2 ^ n → y j = y' j) : gpz S n x y c = gpz S n x' y' c :=
  sm_congr fun a ha => by rw [hx a ha, hy _ (Nat.xor_lt_two_pow ha hc)]
theorem sm_congr_p {p : Int} {n : Nat} {f g : Nat → Int} (h : ∀ j, j < n → f j % p = g j % p) : sm n f % p = sm n g % p := by
  rw [← sm_mod n p f, ← sm_mod n p g, sm_congr h]
theorem em_l (a b p : Int) : (a % p * b) % p = (a * b) % p := by rw [Int.mul_emod, Int.emod_emod, ← Int.mul_emod]
theorem em_r (a b p : Int) : (a * (b % p)) % p = (a * b) % p := by rw [Int.mul_emod, Int.emod_emod, ← Int.mul_emod]
theorem em_sub (a p : Int) : (p - a % p) % p = (-a) % p := by
  rw [Int.sub_emod, Int.emod_self, Int.emod_emod, ← Int.zero_sub a, Int.sub_emod 0 a, Int.zero_emod]
theorem em_congr {p a a' : Int} (h : a % p = a' % p) (b : Int) : (a * b) % p = (a' * b) % p := by rw [← em_l, h, em_l]
theorem gpz_mod {p : Int} (S : List Int) (n : Nat) {x x' y y' : Nat → Int} {c : Nat} (hc : c < 2 ^ n) (hx : ∀ j, j < 2 ^ n → x j % p = x' j % p) (hy : ∀ j, j < 2 ^ n → y j % p = y' j % p) : gpz S n x y c % p = gpz S n x' y' c % p := by
  apply sm_congr_p
  intro a ha
  have h1 := hx a ha
  have h2 := hy _ (Nat.xor_lt_two_pow ha hc)
  rw [Int.mul_assoc, Int.mul_assoc, em_congr h1, Int.mul_comm, Int.mul_comm (x' a), em_congr (a' := fz S a (a ^^^ c) n * y' (a ^^^ c))]
  rw [Int.mul_comm, Int.mul_comm (fz _ _ _ _), em_congr h2]
theorem sm_first (n : Nat) (f : Nat → Int) (h : ∀ j, j < n → 0 < j → f j = 0) : sm n f = if 0 < n then f 0 else 0 := by
  rw [sm_congr (g := fun j => if j = 0 then f 0 else 0) (fun j hj => by
    by_cases e : j = 0
    · subst e; rw [if_pos rfl]
    · rw [if_neg e, h j hj (by omega)]), sm_single]
def oneF : Nat → Int := fun j => if j = 0 then 1 else 0
theorem gpz_one_l (S : List Int) (n : Nat) (y : Nat → Int) (c : Nat) : gpz S n oneF y c = y c := by
  unfold gpz
  rw [sm_first _ _ (fun j _ hj => by unfold oneF; rw [if_neg (by omega)]; simp), if_pos (Nat.two_pow_pos n)]
  unfold oneF
  simp [fz_zero]
theorem gpz_one_r (S : List Int) (n : Nat) (x : Nat → Int) {c : Nat} (hc : c < 2 ^ n) : gpz S n x oneF c = x c := by
  unfold gpz
  have h : ∀ a, a < 2 ^ n → x a * fz S a (a ^^^ c) n * oneF (a ^^^ c) = if a = c then x c else 0 := fun a _ => by
    unfold oneF
    by_cases e : a = c
    · subst e; simp [fz_one]
    · have e2 : ¬ a ^^^ c = 0 := fun h0 => e (by rw [← xor_back c a, Nat.xor_comm c a, h0, Nat.xor_zero])
      rw [if_neg e2, if_neg e, Int.mul_zero]
  rw [sm_congr h, sm_single, if_pos hc]

/-- The geometric product of two lists of numbers. -/
def prodF (p : Int) (S x y : List Int) (c : Nat) : Int := gpz S S.length (fun j => x.getD j 0) (fun j => y.getD j 0) c % p
def prodM (p : Int) (S x y : List Int) : List Int := mkR (bl S) (prodF p S x y)
theorem prodM_len (p : Int) (S x y : List Int) : (prodM p S x y).length = bl S := mkR_len _ _
theorem prodM_at (p : Int) (S x y : List Int) {c : Nat} (hc : c < bl S) : (prodM p S x y).getD c 0 = prodF p S x y c := mkR_at _ hc
theorem prodM_assoc (p : Int) (S x y z : List Int) : prodM p S (prodM p S x y) z = prodM p S x (prodM p S y z) :=
  mkR_congr fun d hd => by
    have hd' : d < 2 ^ S.length := hd
    show gpz _ _ _ _ d % p = gpz _ _ _ _ d % p
    rw [gpz_mod S S.length hd' (x' := gpz S S.length (fun j => x.getD j 0) (fun j => y.getD j 0)) (y' := fun j => z.getD j 0) (fun j hj => by rw [prodM_at p S x y hj]; exact Int.emod_emod _ _) (fun j _ => rfl), gpz_assoc S S.length _ _ _ hd',
      gpz_mod S S.length hd' (x' := fun j => x.getD j 0) (y' := fun j => (prodM p S y z).getD j 0) (fun j _ => rfl) (fun j hj => by rw [prodM_at p S y z hj]; exact (Int.emod_emod _ _).symm)]
theorem prodM_one_l (p : Int) (S y : List Int) (hy : y.length = bl S) (hn : ∀ j, j < y.length → 0 ≤ y.getD j 0 ∧ y.getD j 0 < p) : prodM p S (mkR (bl S) oneF) y = y := by
  rw [← mkR_self y]
  unfold prodM
  rw [hy]
  apply mkR_congr
  intro c hc
  have hc' : c < 2 ^ S.length := hc
  unfold prodF
  rw [gpz_congr S S.length hc' (x := fun j => (mkR (bl S) oneF).getD j 0) (y := fun j => (mkR (bl S) fun j => y.getD j 0).getD j 0) (x' := oneF) (y' := fun j => y.getD j 0) (fun j hj => mkR_at _ hj) (fun j hj => mkR_at _ hj), gpz_one_l]
  exact Int.emod_eq_of_lt (hn c (by omega)).1 (hn c (by omega)).2
theorem prodM_one_r (p : Int) (S y : List Int) (hy : y.length = bl S) (hn : ∀ j, j < y.length → 0 ≤ y.getD j 0 ∧ y.getD j 0 < p) : prodM p S y (mkR (bl S) oneF) = y := by
  rw [← mkR_self y]
  unfold prodM
  rw [hy]
  apply mkR_congr
  intro c hc
  have hc' : c < 2 ^ S.length := hc
  unfold prodF
  rw [gpz_congr S S.length hc' (y := fun j => (mkR (bl S) oneF).getD j 0) (x := fun j => (mkR (bl S) fun j => y.getD j 0).getD j 0) (y' := oneF) (x' := fun j => y.getD j 0) (fun j hj => mkR_at _ hj) (fun j hj => mkR_at _ hj), gpz_one_r S _ _ hc']
  exact Int.emod_eq_of_lt (hn c (by omega)).1 (hn c (by omega)).2
theorem prodF_bd {p : Int} (hp : 0 < p) (S x y : List Int) (c : Nat) : 0 ≤ prodF p S x y c ∧ prodF p S x y c < p := ⟨Int.emod_nonneg _ (by omega), Int.emod_lt_of_pos _ hp⟩
theorem prodM_num {p : Int} (hp : 0 < p) (S x y : List Int) : ∀ j, j < (prodM p S x y).length → 0 ≤ (prodM p S x y).getD j 0 ∧ (prodM p S x y).getD j 0 < p := fun j hj => by
  rw [prodM_len] at hj
  rw [prodM_at p S x y hj]
  exact prodF_bd hp S x y j

/-- The factor, as a number of the prime. -/
def fm (p : Int) (S : List Int) (a b n : Nat) : Int := fz S a b n % p
theorem fm_bd {p : Int} (hp : 0 < p) (S : List Int) (a b n : Nat) : 0 ≤ fm p S a b n ∧ fm p S a b n < p := ⟨Int.emod_nonneg _ (by omega), Int.emod_lt_of_pos _ hp⟩
theorem fm_zero {p : Int} (hp : 1 < p) (S : List Int) (a b : Nat) : fm p S a b 0 = 1 := Int.emod_eq_of_lt (by show (0 : Int) ≤ 1; decide) hp
theorem fm_skip (p : Int) (S : List Int) {a b n : Nat} (h : b / 2 ^ n % 2 = 0) : fm p S a b (n + 1) = fm p S a b n := by
  show fz S a b n * gi S a b n % p = fz S a b n % p
  unfold gi
  rw [if_neg (by omega), Int.mul_one]
theorem fm_add (p : Int) (S : List Int) (a b n : Nat) : fm p S a (b + 2 ^ n) n = fm p S a b n := by
  unfold fm; rw [fz_add S a b n n (Nat.le_refl _)]
/-- What the program multiplies by. -/
def fi (p : Int) (S : List Int) (a i : Nat) : Int := if a / 2 ^ i % 2 = 1 then (if gr (a / 2 ^ (i + 1)) % 2 = 1 then p - 1 else 1) * S.getD i 0 % p else (if gr (a / 2 ^ (i + 1)) % 2 = 1 then p - 1 else 1)
theorem fm_step (p : Int) (S : List Int) {a b n : Nat} (h : b / 2 ^ n % 2 = 1) : fm p S a b (n + 1) = fm p S a b n * fi p S a n % p := by
  show fz S a b n * gi S a b n % p = fz S a b n % p * fi p S a n % p
  rw [em_l]
  unfold gi fi eps
  rw [if_pos h]
  have e : ∀ s : Int, (p - 1) * s = -1 * s + p * s := fun s => by rw [Int.sub_mul]; omega
  by_cases h1 : gr (a / 2 ^ (n + 1)) % 2 = 1 <;> by_cases h2 : a / 2 ^ n % 2 = 1
  · rw [if_pos h1, if_pos h1, if_pos h2, if_pos h2, em_r, ← em_r _ ((p - 1) * _), e, Int.add_mul_emod_self_left, em_r]
  · rw [if_pos h1, if_pos h1, if_neg h2, if_neg h2, ← em_r _ (p - 1), Int.sub_emod_left, em_r]; rfl
  · rw [if_neg h1, if_neg h1, if_pos h2, if_pos h2, em_r]
  · rw [if_neg h1, if_neg h1, if_neg h2, if_neg h2]; congr 1
/-- What the model makes of it. -/
def fo (p : Int) (S : List Int) (a i : Nat) (o : Int) : Int := if a / 2 ^ i % 2 = 1 then (if gr (a / 2 ^ (i + 1)) % 2 = 1 then (p - o) % p else o) * S.getD i 0 % p else (if gr (a / 2 ^ (i + 1)) % 2 = 1 then (p - o) % p else o)
theorem fm_model (p : Int) (S : List Int) {a b n : Nat} (h : b / 2 ^ n % 2 = 1) : fo p S a n (fm p S a b n) = fm p S a b (n + 1) := by
  show _ = fz S a b n * gi S a b n % p
  unfold gi fo eps fm
  rw [if_pos h]
  by_cases h1 : gr (a / 2 ^ (n + 1)) % 2 = 1 <;> by_cases h2 : a / 2 ^ n % 2 = 1
  · rw [if_pos h1, if_pos h1, if_pos h2, if_pos h2, em_l, ← em_l, em_sub, em_l]; congr 1; rw [← Int.mul_assoc]; congr 1; omega
  · rw [if_pos h1, if_pos h1, if_neg h2, if_neg h2, em_sub]; congr 1; omega
  · rw [if_neg h1, if_neg h1, if_pos h2, if_pos h2, em_l, Int.one_mul]
  · rw [if_neg h1, if_neg h1, if_neg h2, if_neg h2]; congr 1; omega

/-- One product of three numbers. -/
def tm (p : Int) (S x y : List Int) (c a : Nat) : Int := x.getD a 0 * fm p S a (a ^^^ c) S.length * y.getD (a ^^^ c) 0
theorem tm_sum (p : Int) (S x y : List Int) (c : Nat) : sm (bl S) (tm p S x y c) % p = prodF p S x y c := by
  apply sm_congr_p
  intro a _
  unfold tm fm
  rw [Int.mul_assoc, Int.mul_assoc, ← em_r, em_l, em_r]

end Go.Proofs.YtijklpcelbnnjaaGreat
