/-
  Contracts and facts that the walk of the law rests on.
  Conditions: those that each theorem names.
-/
import Derived.Test.YtgfanoejohpmkaaGreatQp43
import Derived.Test.YtgfanoejohpmkaaGreatQp39
import Derived.Test.YtgfanoejohpmkaaGreatQp44
import Derived.Deep.RegionHeld3
import Derived.Deep.DeepCutAuto
namespace Go.Proofs.YtgfanoejohpmkaaGreat
open Go.RowKit
set_option linter.unusedVariables false
theorem kpzR_scale {p k : Int} {S x z : List Int} (hx : x.length = bl S) {c : Nat} (hc : c < bl S) : (prodM p S z (sclR p x k)).getD c 0 = (prodM p S z x).getD c 0 * k % p := by
 rw [prodM_at _ _ _ _ hc, prodM_at _ _ _ _ hc]
 unfold prodF
 rw [em_l]
 have h1 : gpz S S.length (fun j => z.getD j 0) (fun j => (sclR p x k).getD j 0) c % p = gpz S S.length (fun j => z.getD j 0) (fun j => x.getD j 0 * k) c % p :=
  gpz_mod S S.length hc (fun j _ => rfl) (fun j hj => by
   show (sclR p x k).getD j 0 % p = _
   unfold sclR
   rw [mkR_at _ (show j < x.length by rw [hx]; exact hj), Int.emod_emod])
 rw [h1]
 congr 1
 unfold gpz
 rw [Int.mul_comm, ← sm_mul]
 apply sm_congr
 intro a _
 show z.getD a 0 * _ * (x.getD _ 0 * k) = k * (z.getD a 0 * _ * x.getD _ 0)
 ac_rfl
def prjZ (p : Int) (S x v : List Int) : List Int := prodM p S (lcM p S (vecM S v) x) (sclR p x (inv p (sqX p S x)))
theorem lst_prj {p : Int} {S x v : List Int} (hx : x.length = bl S) (hv : v.length = S.length) : lst2 S.length (prjZ p S x v) = prjM p S x v := by
 unfold lst2 prjM
 rw [hv]
 exact mkR_congr fun i hi => kpzR_scale hx (Nat.pow_lt_pow_right (by decide) hi)
theorem rej_eq (p : Int) (S x v : List Int) : plusR p v (prjM p S x v) (p - 1) = mkR v.length (splRF p S x v) := by
 unfold plusR
 exact mkR_congr fun i hi => by
  rw [show (prjM p S x v).getD i 0 = prjF p S x v i from mkR_at _ hi]
  show _ = (v.getD i 0 - prjF p S x v i) % p
  rw [show v.getD i 0 + (p - 1) * prjF p S x v i = v.getD i 0 - prjF p S x v i + p * prjF p S x v i by rw [Int.sub_mul, Int.one_mul]; omega, Int.add_mul_emod_self_left]
theorem ref_eq (p : Int) (S x v : List Int) : plusR p (sclR p (prjM p S x v) 2) v (p - 1) = mkR v.length (splFF p S x v) := by
 unfold plusR
 rw [show (sclR p (prjM p S x v) 2).length = v.length from by unfold sclR; rw [mkR_len, prjM_len]]
 exact mkR_congr fun i hi => by
  have e : (sclR p (prjM p S x v) 2).getD i 0 = prjF p S x v i * 2 % p := by
   unfold sclR
   rw [mkR_at _ (show i < (prjM p S x v).length by rw [prjM_len]; exact hi), show (prjM p S x v).getD i 0 = prjF p S x v i from mkR_at _ hi]
  rw [e]
  show _ = (prjF p S x v i - (v.getD i 0 - prjF p S x v i) % p) % p
  rw [Int.emod_add_emod, Int.sub_emod_emod]
  rw [show prjF p S x v i * 2 + (p - 1) * v.getD i 0 = prjF p S x v i - (v.getD i 0 - prjF p S x v i) + p * v.getD i 0 by rw [Int.sub_mul, Int.one_mul]; omega, Int.add_mul_emod_self_left]
set_option maxRecDepth 100000 in
set_option maxHeartbeats 3200000 in
theorem l06Invertible_any (pS : Int) (aS : Option Addr) (S : List Int) (cS loS tpS : Nat) (ax : Option Addr) (x : List Int) (cx lox tpx : Nat) (av : Option Addr) (v : List Int) (cv lov tpv : Nat) (w : World) (hS : RowIn loS tpS w aS S) (tS : tpS ≤ w.heap.size) (sS : S.length ≤ 1048576) (hx : RowIn lox tpx w ax x) (tx : tpx ≤ w.heap.size) (sx : x.length ≤ 1048576) (hv : RowIn lov tpv w av v) (tv : tpv ≤ w.heap.size) (sv : v.length ≤ 1048576) :
 Calls Tryz.prog 129 #[.agg #[.int .i64 pS, .slice aS S.length cS], .slice ax x.length cx, .slice av v.length cv] w fun e w' => e = .returned (.int .i64 (codeI pS S x v)) ∧ Below w.heap.size w w' := by
 have HS := Lib.hid hS
 have Hx := Lib.hid hx
 have Hv := Lib.hid hv
 clear hS hx hv
 by_cases hc : codeBV pS S x v = 0
 · have hb := codeB_one (codeBV_zero hc).2
   have HI := Lib.hid hb.1
   have HMX := Lib.hid hb.2.1
   have hb0 := bl_pos S
   have hi0 : (0 : Int) < ((bl S : Nat) : Int) := by omega
   obtain ⟨Q, hQ⟩ : ∃ q, q = sqX pS S x := ⟨_, rfl⟩
   have HQE : Hid (Q = prodF pS S x x 0) := hQ
   have HC := Lib.hid hc
   clear hb
   by_cases hq : Q = 0
   · have e1 : (Q == 0) = true := by simpa using hq
     have HR : Hid (codeI pS S x v = 5) := by show _ = _; unfold codeI; rw [if_pos hc, if_pos (by rw [← hQ]; exact hq)]
     clear hc hq hQ
     go_enter Tryz.func129, Tryz.ntmps129
     go_wp2_with (first | (go_at_call 143; (with_reducible refine (l06Vector_any pS aS S cS loS tpS ax x cx lox tpx av v cv lov tpv _ (HS.out.below ((Below.refl _ _).alloc (Nat.le_refl _) (.cells #[.int .i64 pS, .slice aS S.length cS] 26)) tS) (Nat.le_trans tS (((Below.refl _ _).alloc (Nat.le_refl _) (.cells #[.int .i64 pS, .slice aS S.length cS] 26))).size) sS (Hx.out.below ((Below.refl _ _).alloc (Nat.le_refl _) (.cells #[.int .i64 pS, .slice aS S.length cS] 26)) tx) (Nat.le_trans tx (((Below.refl _ _).alloc (Nat.le_refl _) (.cells #[.int .i64 pS, .slice aS S.length cS] 26))).size) sx (Hv.out.below ((Below.refl _ _).alloc (Nat.le_refl _) (.cells #[.int .i64 pS, .slice aS S.length cS] 26)) tv) (Nat.le_trans tv (((Below.refl _ _).alloc (Nat.le_refl _) (.cells #[.int .i64 pS, .slice aS S.length cS] 26))).size) sv).mono ?_); rintro e w2 ⟨rfl, b2⟩; rw [HC.out]; have B2 := Lib.hid b2; have K2_0_0 := (b2.cell (p := ⟨w.heap.size, 0, none⟩) (Nat.lt_of_lt_of_le (show w.heap.size < (w.alloc (.cells #[.int .i64 pS, .slice aS S.length cS] 26)).heap.size by simp) (Nat.le_refl _))).trans (show (w.alloc (.cells #[.int .i64 pS, .slice aS S.length cS] 26)).cell? ⟨w.heap.size, 0, none⟩ = some (.int .i64 pS) by simp [go_sem]); have K2_0_1 := (b2.cell (p := ⟨w.heap.size, 1, none⟩) (Nat.lt_of_lt_of_le (show w.heap.size < (w.alloc (.cells #[.int .i64 pS, .slice aS S.length cS] 26)).heap.size by simp) (Nat.le_refl _))).trans (show (w.alloc (.cells #[.int .i64 pS, .slice aS S.length cS] 26)).cell? ⟨w.heap.size, 1, none⟩ = some (.slice aS S.length cS) by simp [go_sem]); clear b2) | (go_at_call 116; (with_reducible refine (l04Times_any pS aS S cS loS tpS ax x cx lox tpx ax x cx lox tpx _ (isSp_iff.1 HI.out).prime (isSp_iff.1 HI.out).hi (HS.out.below (below_step ((Below.refl _ _).alloc (Nat.le_refl _) (.cells #[.int .i64 pS, .slice aS S.length cS] 26)) (show w.heap.size ≤ (w.alloc (.cells #[.int .i64 pS, .slice aS S.length cS] 26)).heap.size from (((Below.refl _ _).alloc (Nat.le_refl _) (.cells #[.int .i64 pS, .slice aS S.length cS] 26))).size) B2.out) tS) (Nat.le_trans tS ((below_step ((Below.refl _ _).alloc (Nat.le_refl _) (.cells #[.int .i64 pS, .slice aS S.length cS] 26)) (show w.heap.size ≤ (w.alloc (.cells #[.int .i64 pS, .slice aS S.length cS] 26)).heap.size from (((Below.refl _ _).alloc (Nat.le_refl _) (.cells #[.int .i64 pS, .slice aS S.length cS] 26))).size) B2.out)).size) (sp_nums HI.out) (Hx.out.below (below_step ((Below.refl _ _).alloc (Nat.le_refl _) (.cells #[.int .i64 pS, .slice aS S.length cS] 26)) (show w.heap.size ≤ (w.alloc (.cells #[.int .i64 pS, .slice aS S.length cS] 26)).heap.size from (((Below.refl _ _).alloc (Nat.le_refl _) (.cells #[.int .i64 pS, .slice aS S.length cS] 26))).size) B2.out) tx) (Nat.le_trans tx ((below_step ((Below.refl _ _).alloc (Nat.le_refl _) (.cells #[.int .i64 pS, .slice aS S.length cS] 26)) (show w.heap.size ≤ (w.alloc (.cells #[.int .i64 pS, .slice aS S.length cS] 26)).heap.size from (((Below.refl _ _).alloc (Nat.le_refl _) (.cells #[.int .i64 pS, .slice aS S.length cS] 26))).size) B2.out)).size) (Mv.len HMX.out) (Mv.nums HMX.out) (Hx.out.below (below_step ((Below.refl _ _).alloc (Nat.le_refl _) (.cells #[.int .i64 pS, .slice aS S.length cS] 26)) (show w.heap.size ≤ (w.alloc (.cells #[.int .i64 pS, .slice aS S.length cS] 26)).heap.size from (((Below.refl _ _).alloc (Nat.le_refl _) (.cells #[.int .i64 pS, .slice aS S.length cS] 26))).size) B2.out) tx) (Nat.le_trans tx ((below_step ((Below.refl _ _).alloc (Nat.le_refl _) (.cells #[.int .i64 pS, .slice aS S.length cS] 26)) (show w.heap.size ≤ (w.alloc (.cells #[.int .i64 pS, .slice aS S.length cS] 26)).heap.size from (((Below.refl _ _).alloc (Nat.le_refl _) (.cells #[.int .i64 pS, .slice aS S.length cS] 26))).size) B2.out)).size) (Mv.len HMX.out) (Mv.nums HMX.out)).mono ?_); rintro e w3 ⟨d3, rfl, l3, u3, o3, b3⟩; have B3 := Lib.hid b3; have K3_0_0 := (b3.cell (p := ⟨w.heap.size, 0, none⟩) (Nat.lt_of_lt_of_le (show w.heap.size < (w.alloc (.cells #[.int .i64 pS, .slice aS S.length cS] 26)).heap.size by simp) (Nat.le_trans (Nat.le_refl _) B2.out.size))).trans K2_0_0; clear K2_0_0; have K3_0_1 := (b3.cell (p := ⟨w.heap.size, 1, none⟩) (Nat.lt_of_lt_of_le (show w.heap.size < (w.alloc (.cells #[.int .i64 pS, .slice aS S.length cS] 26)).heap.size by simp) (Nat.le_trans (Nat.le_refl _) B2.out.size))).trans K2_0_1; clear K2_0_1; have c0_ := o3.cell 0 hb0; rw [Nat.zero_add] at c0_; rw [show prodF pS S x x 0 = Q from HQE.out.symm] at c0_; clear o3; clear b3))
     go_ret
     exact ⟨by rw [HR.out]; rfl, (below_step (below_step ((Below.refl _ _).alloc (Nat.le_refl _) (.cells #[.int .i64 pS, .slice aS S.length cS] 26)) (show w.heap.size ≤ (w.alloc (.cells #[.int .i64 pS, .slice aS S.length cS] 26)).heap.size from (((Below.refl _ _).alloc (Nat.le_refl _) (.cells #[.int .i64 pS, .slice aS S.length cS] 26))).size) B2.out) (show w.heap.size ≤ w2.heap.size from ((below_step ((Below.refl _ _).alloc (Nat.le_refl _) (.cells #[.int .i64 pS, .slice aS S.length cS] 26)) (show w.heap.size ≤ (w.alloc (.cells #[.int .i64 pS, .slice aS S.length cS] 26)).heap.size from (((Below.refl _ _).alloc (Nat.le_refl _) (.cells #[.int .i64 pS, .slice aS S.length cS] 26))).size) B2.out)).size) B3.out)⟩
   · have e1 : (Q == 0) = false := by simpa using hq
     have HR : Hid (codeI pS S x v = 0) := by show _ = _; unfold codeI; rw [if_pos hc, if_neg (by rw [← hQ]; exact hq)]
     clear hc hq hQ
     go_enter Tryz.func129, Tryz.ntmps129
     go_wp2_with (first | (go_at_call 143; (with_reducible refine (l06Vector_any pS aS S cS loS tpS ax x cx lox tpx av v cv lov tpv _ (HS.out.below ((Below.refl _ _).alloc (Nat.le_refl _) (.cells #[.int .i64 pS, .slice aS S.length cS] 26)) tS) (Nat.le_trans tS (((Below.refl _ _).alloc (Nat.le_refl _) (.cells #[.int .i64 pS, .slice aS S.length cS] 26))).size) sS (Hx.out.below ((Below.refl _ _).alloc (Nat.le_refl _) (.cells #[.int .i64 pS, .slice aS S.length cS] 26)) tx) (Nat.le_trans tx (((Below.refl _ _).alloc (Nat.le_refl _) (.cells #[.int .i64 pS, .slice aS S.length cS] 26))).size) sx (Hv.out.below ((Below.refl _ _).alloc (Nat.le_refl _) (.cells #[.int .i64 pS, .slice aS S.length cS] 26)) tv) (Nat.le_trans tv (((Below.refl _ _).alloc (Nat.le_refl _) (.cells #[.int .i64 pS, .slice aS S.length cS] 26))).size) sv).mono ?_); rintro e w2 ⟨rfl, b2⟩; rw [HC.out]; have B2 := Lib.hid b2; have K2_0_0 := (b2.cell (p := ⟨w.heap.size, 0, none⟩) (Nat.lt_of_lt_of_le (show w.heap.size < (w.alloc (.cells #[.int .i64 pS, .slice aS S.length cS] 26)).heap.size by simp) (Nat.le_refl _))).trans (show (w.alloc (.cells #[.int .i64 pS, .slice aS S.length cS] 26)).cell? ⟨w.heap.size, 0, none⟩ = some (.int .i64 pS) by simp [go_sem]); have K2_0_1 := (b2.cell (p := ⟨w.heap.size, 1, none⟩) (Nat.lt_of_lt_of_le (show w.heap.size < (w.alloc (.cells #[.int .i64 pS, .slice aS S.length cS] 26)).heap.size by simp) (Nat.le_refl _))).trans (show (w.alloc (.cells #[.int .i64 pS, .slice aS S.length cS] 26)).cell? ⟨w.heap.size, 1, none⟩ = some (.slice aS S.length cS) by simp [go_sem]); clear b2) | (go_at_call 116; (with_reducible refine (l04Times_any pS aS S cS loS tpS ax x cx lox tpx ax x cx lox tpx _ (isSp_iff.1 HI.out).prime (isSp_iff.1 HI.out).hi (HS.out.below (below_step ((Below.refl _ _).alloc (Nat.le_refl _) (.cells #[.int .i64 pS, .slice aS S.length cS] 26)) (show w.heap.size ≤ (w.alloc (.cells #[.int .i64 pS, .slice aS S.length cS] 26)).heap.size from (((Below.refl _ _).alloc (Nat.le_refl _) (.cells #[.int .i64 pS, .slice aS S.length cS] 26))).size) B2.out) tS) (Nat.le_trans tS ((below_step ((Below.refl _ _).alloc (Nat.le_refl _) (.cells #[.int .i64 pS, .slice aS S.length cS] 26)) (show w.heap.size ≤ (w.alloc (.cells #[.int .i64 pS, .slice aS S.length cS] 26)).heap.size from (((Below.refl _ _).alloc (Nat.le_refl _) (.cells #[.int .i64 pS, .slice aS S.length cS] 26))).size) B2.out)).size) (sp_nums HI.out) (Hx.out.below (below_step ((Below.refl _ _).alloc (Nat.le_refl _) (.cells #[.int .i64 pS, .slice aS S.length cS] 26)) (show w.heap.size ≤ (w.alloc (.cells #[.int .i64 pS, .slice aS S.length cS] 26)).heap.size from (((Below.refl _ _).alloc (Nat.le_refl _) (.cells #[.int .i64 pS, .slice aS S.length cS] 26))).size) B2.out) tx) (Nat.le_trans tx ((below_step ((Below.refl _ _).alloc (Nat.le_refl _) (.cells #[.int .i64 pS, .slice aS S.length cS] 26)) (show w.heap.size ≤ (w.alloc (.cells #[.int .i64 pS, .slice aS S.length cS] 26)).heap.size from (((Below.refl _ _).alloc (Nat.le_refl _) (.cells #[.int .i64 pS, .slice aS S.length cS] 26))).size) B2.out)).size) (Mv.len HMX.out) (Mv.nums HMX.out) (Hx.out.below (below_step ((Below.refl _ _).alloc (Nat.le_refl _) (.cells #[.int .i64 pS, .slice aS S.length cS] 26)) (show w.heap.size ≤ (w.alloc (.cells #[.int .i64 pS, .slice aS S.length cS] 26)).heap.size from (((Below.refl _ _).alloc (Nat.le_refl _) (.cells #[.int .i64 pS, .slice aS S.length cS] 26))).size) B2.out) tx) (Nat.le_trans tx ((below_step ((Below.refl _ _).alloc (Nat.le_refl _) (.cells #[.int .i64 pS, .slice aS S.length cS] 26)) (show w.heap.size ≤ (w.alloc (.cells #[.int .i64 pS, .slice aS S.length cS] 26)).heap.size from (((Below.refl _ _).alloc (Nat.le_refl _) (.cells #[.int .i64 pS, .slice aS S.length cS] 26))).size) B2.out)).size) (Mv.len HMX.out) (Mv.nums HMX.out)).mono ?_); rintro e w3 ⟨d3, rfl, l3, u3, o3, b3⟩; have B3 := Lib.hid b3; have K3_0_0 := (b3.cell (p := ⟨w.heap.size, 0, none⟩) (Nat.lt_of_lt_of_le (show w.heap.size < (w.alloc (.cells #[.int .i64 pS, .slice aS S.length cS] 26)).heap.size by simp) (Nat.le_trans (Nat.le_refl _) B2.out.size))).trans K2_0_0; clear K2_0_0; have K3_0_1 := (b3.cell (p := ⟨w.heap.size, 1, none⟩) (Nat.lt_of_lt_of_le (show w.heap.size < (w.alloc (.cells #[.int .i64 pS, .slice aS S.length cS] 26)).heap.size by simp) (Nat.le_trans (Nat.le_refl _) B2.out.size))).trans K2_0_1; clear K2_0_1; have c0_ := o3.cell 0 hb0; rw [Nat.zero_add] at c0_; rw [show prodF pS S x x 0 = Q from HQE.out.symm] at c0_; clear o3; clear b3))
     go_ret
     exact ⟨by rw [HR.out]; rfl, (below_step (below_step ((Below.refl _ _).alloc (Nat.le_refl _) (.cells #[.int .i64 pS, .slice aS S.length cS] 26)) (show w.heap.size ≤ (w.alloc (.cells #[.int .i64 pS, .slice aS S.length cS] 26)).heap.size from (((Below.refl _ _).alloc (Nat.le_refl _) (.cells #[.int .i64 pS, .slice aS S.length cS] 26))).size) B2.out) (show w.heap.size ≤ w2.heap.size from ((below_step ((Below.refl _ _).alloc (Nat.le_refl _) (.cells #[.int .i64 pS, .slice aS S.length cS] 26)) (show w.heap.size ≤ (w.alloc (.cells #[.int .i64 pS, .slice aS S.length cS] 26)).heap.size from (((Below.refl _ _).alloc (Nat.le_refl _) (.cells #[.int .i64 pS, .slice aS S.length cS] 26))).size) B2.out)).size) B3.out)⟩
 · obtain ⟨C, hC⟩ : ∃ c, c = codeBV pS S x v := ⟨_, rfl⟩
   have hc1 : (C == 0) = false := by rw [hC]; simpa using hc
   have HCE := Lib.hid hC
   have HR : Hid (codeI pS S x v = C) := by show _ = _; unfold codeI; rw [if_neg hc, hC]
   clear hc hC
   go_enter Tryz.func129, Tryz.ntmps129
   go_wp2_with (first | (go_at_call 143; (with_reducible refine (l06Vector_any pS aS S cS loS tpS ax x cx lox tpx av v cv lov tpv _ (HS.out.below ((Below.refl _ _).alloc (Nat.le_refl _) (.cells #[.int .i64 pS, .slice aS S.length cS] 26)) tS) (Nat.le_trans tS (((Below.refl _ _).alloc (Nat.le_refl _) (.cells #[.int .i64 pS, .slice aS S.length cS] 26))).size) sS (Hx.out.below ((Below.refl _ _).alloc (Nat.le_refl _) (.cells #[.int .i64 pS, .slice aS S.length cS] 26)) tx) (Nat.le_trans tx (((Below.refl _ _).alloc (Nat.le_refl _) (.cells #[.int .i64 pS, .slice aS S.length cS] 26))).size) sx (Hv.out.below ((Below.refl _ _).alloc (Nat.le_refl _) (.cells #[.int .i64 pS, .slice aS S.length cS] 26)) tv) (Nat.le_trans tv (((Below.refl _ _).alloc (Nat.le_refl _) (.cells #[.int .i64 pS, .slice aS S.length cS] 26))).size) sv).mono ?_); rintro e w2 ⟨rfl, b2⟩; rw [← HCE.out]; have B2 := Lib.hid b2; have K2_0_0 := (b2.cell (p := ⟨w.heap.size, 0, none⟩) (Nat.lt_of_lt_of_le (show w.heap.size < (w.alloc (.cells #[.int .i64 pS, .slice aS S.length cS] 26)).heap.size by simp) (Nat.le_refl _))).trans (show (w.alloc (.cells #[.int .i64 pS, .slice aS S.length cS] 26)).cell? ⟨w.heap.size, 0, none⟩ = some (.int .i64 pS) by simp [go_sem]); have K2_0_1 := (b2.cell (p := ⟨w.heap.size, 1, none⟩) (Nat.lt_of_lt_of_le (show w.heap.size < (w.alloc (.cells #[.int .i64 pS, .slice aS S.length cS] 26)).heap.size by simp) (Nat.le_refl _))).trans (show (w.alloc (.cells #[.int .i64 pS, .slice aS S.length cS] 26)).cell? ⟨w.heap.size, 1, none⟩ = some (.slice aS S.length cS) by simp [go_sem]); clear b2))
   go_ret
   exact ⟨by rw [HR.out]; rfl, (below_step ((Below.refl _ _).alloc (Nat.le_refl _) (.cells #[.int .i64 pS, .slice aS S.length cS] 26)) (show w.heap.size ≤ (w.alloc (.cells #[.int .i64 pS, .slice aS S.length cS] 26)).heap.size from (((Below.refl _ _).alloc (Nat.le_refl _) (.cells #[.int .i64 pS, .slice aS S.length cS] 26))).size) B2.out)⟩
theorem below_d {w w' : World} (h : Below w.drew.heap.size w.drew w') : Below w.heap.size w w' := (bdrew w).trans h
theorem l02Scale_row (p k : Int) (a : Option Addr) (za : List Int) (ca lo tp : Nat) (w : World) (hp : prm p = true) (ha : RowIn lo tp w a za) (ht : tp ≤ w.heap.size) (hs : za.length ≤ 1048576) (hna : ∀ j, j < za.length → 0 ≤ za.getD j 0 ∧ za.getD j 0 < p) (k0 : 0 ≤ k) (k1 : k ≤ p) :
 Calls Tryz.prog 195 #[.int .i64 p, .slice a za.length ca, .int .i64 k] w (SRow (sclR p za k) w) :=
 (l02Scale_any p k a za ca lo tp w hp ha ht hs hna k0 k1).mono fun _ _ ⟨r, c, h, ht, hb⟩ => ⟨r, c, h, ht.row, hb⟩
theorem l05Left_lvr (pS : Int) (aS : Option Addr) (S : List Int) (cS loS tpS : Nat) (ax : Option Addr) (x : List Int) (cx lox tpx b lo tp : Nat) (v : List Int) (W : World) (hs : isSp pS S = true) (hS : RowIn loS tpS W aS S) (tS : tpS ≤ W.heap.size) (hx : RowIn lox tpx W ax x) (tx : tpx ≤ W.heap.size) (mx : isMv pS S x = true) (h : RowIn lo tp W (some ⟨b, 0, none⟩) (mkR (bl S) (vecF v v.length))) (th : tp ≤ W.heap.size) (hv : isVec pS S.length v = true) :
 Calls Tryz.prog 213 #[.agg #[.int .i64 pS, .slice aS S.length cS], .slice (some ⟨b, 0, none⟩) (bl S) (bl S), .slice ax x.length cx] W (OwnE (lcM pS S (vecM S v) x) W) := by
 have q := l05Left_own pS aS S cS loS tpS (some ⟨b, 0, none⟩) (mkR (bl S) (vecF v v.length)) (bl S) lo tp ax x cx lox tpx W hs hS tS h th (vec_mv' hs hv) hx tx mx
 rw [mkR_len] at q
 exact q
theorem scl_mv {p k : Int} {S x : List Int} (hs : isSp p S = true) (hx : isMv p S x = true) : isMv p S (sclR p x k) = true :=
 isMv_of (by unfold sclR; rw [mkR_len, Mv.len hx]) fun j hj => by
  have hp := prm_bd (isSp_iff.1 hs).prime
  unfold sclR at hj ⊢
  rw [mkR_len] at hj
  rw [mkR_at _ hj]
  exact ⟨Int.emod_nonneg _ (by omega), Int.emod_lt_of_pos _ (by omega)⟩
set_option maxRecDepth 100000 in
set_option maxHeartbeats 6400000 in
theorem l06Project_any (pS : Int) (aS : Option Addr) (S : List Int) (cS loS tpS : Nat) (ax : Option Addr) (x : List Int) (cx lox tpx : Nat) (av : Option Addr) (v : List Int) (cv lov tpv : Nat) (w : World) (hS : RowIn loS tpS w aS S) (tS : tpS ≤ w.heap.size) (hx : RowIn lox tpx w ax x) (tx : tpx ≤ w.heap.size) (hv : RowIn lov tpv w av v) (tv : tpv ≤ w.heap.size) (hs : isSp pS S = true) (mx : isMv pS S x = true) (mv : isVec pS S.length v = true) (hq : sqX pS S x ≠ 0) :
 Calls Tryz.prog 130 #[.agg #[.int .i64 pS, .slice aS S.length cS], .slice ax x.length cx, .slice av v.length cv] w (SRow (prjM pS S x v) w) := by
 have HI := Lib.hid hs
 have HS := Lib.hid hS
 have Hx := Lib.hid hx
 have HMx := Lib.hid mx
 have h6 := (isSp_iff.1 hs).hi
 have hpb := prm_bd (isSp_iff.1 hs).prime
 have hbl := bl_le h6
 have hb0 := bl_pos S
 have HB0 := Lib.hid (below_alloc w (.cells #[.int .i64 pS, .slice aS S.length cS] 26))
 have k0 := nw0 w (.int .i64 pS) (.slice aS S.length cS) 26
 have k1 := nw1 w (.int .i64 pS) (.slice aS S.length cS) 26
 have Hv := Lib.hid hv
 have HVV := Lib.hid mv
 have HLV := Lib.hid (isVec_iff.1 mv).len
 have hi0 : (0 : Int) < ((bl S : Nat) : Int) := by omega
 have HP := Lib.hid (isSp_iff.1 hs).prime
 obtain ⟨Q, hQ⟩ : ∃ q, q = sqX pS S x := ⟨_, rfl⟩
 have HQE : Hid (Q = prodF pS S x x 0) := hQ
 obtain ⟨Q0, Q2⟩ : 0 ≤ Q ∧ Q < pS := by rw [hQ]; exact sqX_bd (by omega) _ _
 have Q1 : 1 ≤ Q := by rw [← hQ] at hq; omega
 obtain ⟨IV, hIV⟩ : ∃ q, q = inv pS Q := ⟨_, rfl⟩
 have HIV := Lib.hid hIV
 obtain ⟨IV0, IV2⟩ : 0 ≤ IV ∧ IV < pS := by rw [hIV]; exact inv_bd HP.out _
 have IV1 : IV ≤ pS := Int.le_of_lt IV2
 have hx64 : x.length ≤ 1048576 := by rw [Mv.len mx]; omega
 have HSM := Lib.hid (scl_mv (k := IV) hs mx)
 have HFIN : Hid (lst2 S.length (prodM pS S (lcM pS S (vecM S v) x) (sclR pS x IV)) = prjM pS S x v) := by show _ = _; rw [hIV, hQ]; exact lst_prj (Mv.len mx) HLV.out
 clear hs hS hx mx hv mv hq hQ hIV
 go_enter Tryz.func130, Tryz.ntmps130
 go_upto_region 1 with fail
 obtain ⟨w1, hw1⟩ : ∃ z, z = w.alloc (.cells #[.int .i64 pS, .slice aS S.length cS] 26) := ⟨_, rfl⟩
 rw [← hw1] at HB0 k0 k1 ⊢
 have hw0 : w.heap.size < w1.heap.size := by rw [hw1]; simp
 clear hw1
 have hs1 : Hid (w1.drew.cell? ⟨w.heap.size, 0, none⟩ = some (.int .i64 pS) ∧ w1.drew.cell? ⟨w.heap.size, 1, none⟩ = some (.slice aS S.length cS)) := ⟨k0, k1⟩
 have HBD : Hid (Below w.heap.size w w1.drew) := HB0.out.drew
 have hd0 : w.heap.size < w1.drew.heap.size := hw0
 refine wp_region_noPanic ?_
 refine wp_region_held_drew (S := fun w' => w'.cell? ⟨w.heap.size, 0, none⟩ = some (.int .i64 pS) ∧ w'.cell? ⟨w.heap.size, 1, none⟩ = some (.slice aS S.length cS)) (by kernel_rfl) (hs1.out) (fun hHeld => ?_)
 (refine wpAnyH_take (i := 0) (oi := _) (v := ?_) rfl (by kernel_rfl) (by kernel_rfl) (by kernel_rfl) (fun _ _ _ h => h) (Or.inl ⟨by rfl, ?_⟩) (by assumption) ?_; rotate_left; (focus (intro w' hSw; (try dsimp only at hSw); first | (go_simp; done) | (go_simp; with_reducible rfl)))); ((try simp only [Act.put]); (try simp only [List.setIfInBounds_toArray]); (try simp only [List.set_cons_succ]); (try simp only [List.set_cons_zero]))
 (refine wpAnyH_take (i := 1) (oi := _) (v := ?_) rfl (by kernel_rfl) (by kernel_rfl) (by kernel_rfl) (fun _ _ _ h => h) (Or.inl ⟨by rfl, ?_⟩) (by assumption) ?_; rotate_left; (focus (intro w' hSw; (try dsimp only at hSw); first | (go_simp; done) | (go_simp; with_reducible rfl)))); ((try simp only [Act.put]); (try simp only [List.setIfInBounds_toArray]); (try simp only [List.set_cons_succ]); (try simp only [List.set_cons_zero]))
 (refine wpAnyH_take (i := 2) (oi := _) (v := ?_) rfl (by kernel_rfl) (by kernel_rfl) (by kernel_rfl) (fun _ _ _ h => h) (Or.inl ⟨by rfl, ?_⟩) (by assumption) ?_; rotate_left; (focus (intro w' hSw; (try dsimp only at hSw); first | (go_simp; done) | (go_simp; with_reducible rfl)))); ((try simp only [Act.put]); (try simp only [List.setIfInBounds_toArray]); (try simp only [List.set_cons_succ]); (try simp only [List.set_cons_zero]))
 (refine wpAnyH_take (i := 3) (oi := _) (v := ?_) rfl (by kernel_rfl) (by kernel_rfl) (by kernel_rfl) (fun _ _ _ h => h) (Or.inl ⟨by rfl, ?_⟩) (by assumption) ?_; rotate_left; (focus (intro w' hSw; (try dsimp only at hSw); first | (go_simp; done) | (go_simp; with_reducible rfl)))); ((try simp only [Act.put]); (try simp only [List.setIfInBounds_toArray]); (try simp only [List.set_cons_succ]); (try simp only [List.set_cons_zero]))
 (refine wpAnyH_take (i := 4) (oi := _) (v := ?_) rfl (by kernel_rfl) (by kernel_rfl) (by kernel_rfl) (fun _ _ _ h => h) (Or.inl ⟨by rfl, ?_⟩) (by assumption) ?_; rotate_left; (focus (intro w' hSw; (try dsimp only at hSw); first | (go_simp; done) | (go_simp; with_reducible rfl)))); ((try simp only [Act.put]); (try simp only [List.setIfInBounds_toArray]); (try simp only [List.set_cons_succ]); (try simp only [List.set_cons_zero]))
 (refine wpAnyH_take (i := 5) (oi := _) (v := ?_) rfl (by kernel_rfl) (by kernel_rfl) (by kernel_rfl) (fun _ _ _ h => h) (Or.inl ⟨by rfl, ?_⟩) (by assumption) ?_; rotate_left; (focus (intro w' hSw; (try dsimp only at hSw); first | (go_simp; done) | (go_simp; with_reducible rfl)))); ((try simp only [Act.put]); (try simp only [List.setIfInBounds_toArray]); (try simp only [List.set_cons_succ]); (try simp only [List.set_cons_zero]))
 (refine wpAnyH_take (i := 6) (oi := _) (v := ?_) rfl (by kernel_rfl) (by kernel_rfl) (by kernel_rfl) (fun _ _ _ h => h) (Or.inl ⟨by rfl, ?_⟩) (by assumption) ?_; rotate_left; (focus (intro w' hSw; (try dsimp only at hSw); first | (go_simp; done) | (go_simp; with_reducible rfl)))); ((try simp only [Act.put]); (try simp only [List.setIfInBounds_toArray]); (try simp only [List.set_cons_succ]); (try simp only [List.set_cons_zero]))
 (refine wpAnyH_take (i := 7) (oi := _) (v := ?_) rfl (by kernel_rfl) (by kernel_rfl) (by kernel_rfl) (fun _ _ _ h => h) (Or.inl ⟨by rfl, ?_⟩) (by assumption) ?_; rotate_left; (focus (intro w' hSw; (try dsimp only at hSw); first | (go_simp; done) | (go_simp; with_reducible rfl)))); ((try simp only [Act.put]); (try simp only [List.setIfInBounds_toArray]); (try simp only [List.set_cons_succ]); (try simp only [List.set_cons_zero]))
 refine wpAnyH_ready (rs := [8]) (by kernel_rfl) (by simp) ?_
 refine AllReadyH.cons (o := _) rfl (fun K hK => ?_) AllReadyH.nil
 go_simp; go_at_call 116; (with_reducible refine (l04Times_any pS aS S cS loS tpS ax x cx lox tpx ax x cx lox tpx w1.drew (isSp_iff.1 HI.out).prime h6 (HS.out.below HBD.out tS) (Nat.le_trans tS (HBD.out).size) (sp_nums HI.out) (Hx.out.below HBD.out tx) (Nat.le_trans tx (HBD.out).size) (Mv.len HMx.out) (Mv.nums HMx.out) (Hx.out.below HBD.out tx) (Nat.le_trans tx (HBD.out).size) (Mv.len HMx.out) (Mv.nums HMx.out)).mono ?_); rintro e wa ⟨ba, rfl, l_, u_, o_, b_⟩; have SSa := Lib.hid (ss2 b_ hd0 hs1.out); have HBa := Lib.hid (below_step HBD.out (Nat.le_of_lt hd0) b_); have zz_ := b_.size; have hda := Nat.lt_of_lt_of_le hd0 zz_; have la := Nat.lt_of_lt_of_le hd0 l_; have ua_a := u_; have Na_a := Lib.hid o_; have Ra_a := Lib.hid ((o_.own (Nat.le_of_lt la) u_).row); have c0_ := o_.cell 0 hb0; rw [Nat.zero_add] at c0_; rw [show prodF pS S x x 0 = Q from HQE.out.symm] at c0_; clear b_ o_; (try go_wp2_with fail)
 refine hK.out _ _ (SSa.out) (fun hHeld => ?_)
 clear hK K
 ((try simp only [Act.put]); (try simp only [List.setIfInBounds_toArray]); (try simp only [List.set_cons_succ]); (try simp only [List.set_cons_zero]))
 (refine wpAnyH_take (i := 9) (oi := _) (v := ?_) rfl (by kernel_rfl) (by kernel_rfl) (by kernel_rfl) (fun _ _ _ h => h) (Or.inl ⟨by rfl, ?_⟩) (by assumption) ?_; rotate_left; (focus (intro w' hSw; (try dsimp only at hSw); first | (go_simp; done) | (go_simp; with_reducible rfl)))); ((try simp only [Act.put]); (try simp only [List.setIfInBounds_toArray]); (try simp only [List.set_cons_succ]); (try simp only [List.set_cons_zero]))
 refine wpAnyH_ready (rs := [10]) (by kernel_rfl) (by simp) ?_
 refine AllReadyH.cons (o := _) rfl (fun K hK => ?_) AllReadyH.nil
 go_simp
 refine hK.out _ _ (hHeld) (fun hHeld => ?_)
 clear hK K
 ((try simp only [Act.put]); (try simp only [List.setIfInBounds_toArray]); (try simp only [List.set_cons_succ]); (try simp only [List.set_cons_zero]))
 refine wpAnyH_ready (rs := [11]) (by kernel_rfl) (by simp) ?_
 refine AllReadyH.cons (o := _) rfl (fun K hK => ?_) AllReadyH.nil
 go_simp; go_at_call 204; (with_reducible refine (l01Inv_low pS Q wa HP.out Q1 Q2).mono ?_); rintro e wab ⟨rfl, b_⟩; rw [← HIV.out]; have SSab := Lib.hid (ss2 b_ hda SSa.out); have HBab := Lib.hid (below_step HBa.out (Nat.le_of_lt hda) b_); have zz_ := b_.size; have hdab := Nat.lt_of_lt_of_le hda zz_; have Ra_ab := Lib.hid ((Ra_a.out.below b_ (Nat.le_refl _)).mono (Nat.le_refl _) zz_); have Na_ab := Lib.hid (Na_a.out.stay (b_.block ba ua_a)); have ua_ab := Nat.lt_of_lt_of_le ua_a zz_; clear b_; (try go_wp2_with fail)
 refine hK.out _ _ (SSab.out) (fun hHeld => ?_)
 clear hK K
 ((try simp only [Act.put]); (try simp only [List.setIfInBounds_toArray]); (try simp only [List.set_cons_succ]); (try simp only [List.set_cons_zero]))
 refine wpAnyH_ready (rs := [12]) (by kernel_rfl) (by simp) ?_
 refine AllReadyH.cons (o := _) rfl (fun K hK => ?_) AllReadyH.nil
 go_simp; go_at_call 195; (with_reducible refine (l02Scale_row pS IV ax x cx lox tpx wab HP.out (Hx.out.below HBab.out tx) (Nat.le_trans tx (HBab.out).size) hx64 (Mv.num HMx.out) IV0 IV1).mono ?_); rintro e wabc ⟨rc, kc, rfl, o_, b_⟩; have SSabc := Lib.hid (ss2 b_ hdab SSab.out); have HBabc := Lib.hid (below_step HBab.out (Nat.le_of_lt hdab) b_); have zz_ := b_.size; have hdabc := Nat.lt_of_lt_of_le hdab zz_; have Ra_abc := Lib.hid ((Ra_ab.out.below b_ (Nat.le_refl _)).mono (Nat.le_refl _) zz_); have Na_abc := Lib.hid (Na_ab.out.stay (b_.block ba ua_ab)); have ua_abc := Nat.lt_of_lt_of_le ua_ab zz_; have Rc_abc := Lib.hid (o_.mono (Nat.le_of_lt hdab) (Nat.le_refl _)); clear b_ o_; (try go_wp2_with fail)
 refine hK.out _ _ (SSabc.out) (fun hHeld => ?_)
 clear hK K
 ((try simp only [Act.put]); (try simp only [List.setIfInBounds_toArray]); (try simp only [List.set_cons_succ]); (try simp only [List.set_cons_zero]))
 refine wpAnyH_ready (rs := [13]) (by kernel_rfl) (by simp) ?_
 refine AllReadyH.cons (o := _) rfl (fun K hK => ?_) AllReadyH.nil
 go_simp
 refine hK.out _ _ (hHeld) (fun hHeld => ?_)
 clear hK K
 ((try simp only [Act.put]); (try simp only [List.setIfInBounds_toArray]); (try simp only [List.set_cons_succ]); (try simp only [List.set_cons_zero]))
 refine wpAnyH_done (by kernel_rfl) ?_ _
 refine NoPanic.normal ?_
 have RC := Lib.hid Rc_abc.out
 have hs2 : Hid (wabc.drew.cell? ⟨w.heap.size, 0, none⟩ = some (.int .i64 pS) ∧ wabc.drew.cell? ⟨w.heap.size, 1, none⟩ = some (.slice aS S.length cS)) := SSabc.out
 have HBE : Hid (Below w.heap.size w wabc.drew) := HBabc.out.drew
 have hd1 : w.heap.size < wabc.drew.heap.size := hdabc
 go_wp2
 go_region_held3 (fun w' => w'.cell? ⟨w.heap.size, 0, none⟩ = some (.int .i64 pS) ∧ w'.cell? ⟨w.heap.size, 1, none⟩ = some (.slice aS S.length cS)) (first | exact hs2.out | exact SSd.out | exact SSde.out | exact SSdef.out | exact SSdefg.out | go_keep) (first | (go_at_call 146; (with_reducible refine (l04Vector_any pS aS S cS av v cv lov tpv wabc.drew h6 HLV.out (Hv.out.below HBE.out tv) (Nat.le_trans tv (HBE.out).size)).mono ?_); rintro e wd ⟨bd, rfl, l_, u_, o_, b_⟩; have SSd := Lib.hid (ss2 b_ hd1 hs2.out); have HBd := Lib.hid (below_step HBE.out (Nat.le_of_lt hd1) b_); have zz_ := b_.size; have HCd := Lib.hid b_; have hdd := Nat.lt_of_lt_of_le hd1 zz_; have ld := Nat.lt_of_lt_of_le hd1 l_; have ud_d := u_; have Nd_d := Lib.hid o_; have Rd_d := Lib.hid ((o_.own (Nat.le_of_lt ld) u_).row); clear b_ o_) | (go_at_call 213; (with_reducible refine (l05Left_lvr pS aS S cS loS tpS ax x cx lox tpx bd w.heap.size wd.heap.size v wd HI.out (HS.out.below HBd.out tS) (Nat.le_trans tS (HBd.out).size) (Hx.out.below HBd.out tx) (Nat.le_trans tx (HBd.out).size) HMx.out Rd_d.out (Nat.le_refl _) HVV.out).mono ?_); rintro e wde ⟨re, ke, rfl, o_, b_⟩; have SSde := Lib.hid (ss2 b_ hdd SSd.out); have HBde := Lib.hid (below_step HBd.out (Nat.le_of_lt hdd) b_); have zz_ := b_.size; have HCde := Lib.hid (below_step HCd.out (HCd.out).size b_); have hdde := Nat.lt_of_lt_of_le hdd zz_; have Rd_de := Lib.hid ((Rd_d.out.below b_ (Nat.le_refl _)).mono (Nat.le_refl _) zz_); have Nd_de := Lib.hid (Nd_d.out.stay (b_.block bd ud_d)); have ud_de := Nat.lt_of_lt_of_le ud_d zz_; have Oe_de := Lib.hid (OwnR.mono' o_ (Nat.le_of_lt hdd) (Nat.le_refl _)); have Re_de := Lib.hid (Oe_de.out.row); clear b_ o_) | (go_at_call 116; (with_reducible refine (times_own pS aS S cS loS tpS re (lcM pS S (vecM S v) x) ke w.heap.size wde.heap.size rc (sclR pS x IV) kc w.heap.size wabc.heap.size wde HI.out (HS.out.below HBde.out tS) (Nat.le_trans tS (HBde.out).size) Re_de.out (Nat.le_refl _) (lc_mv HI.out _ _) (RC.out.below (below_d HCde.out) (Nat.le_refl _)) (below_d HCde.out).size HSM.out).mono ?_); rintro e wdef ⟨rf, kf, rfl, o_, b_⟩; have SSdef := Lib.hid (ss2 b_ hdde SSde.out); have HBdef := Lib.hid (below_step HBde.out (Nat.le_of_lt hdde) b_); have zz_ := b_.size; have HCdef := Lib.hid (below_step HCde.out (HCde.out).size b_); have hddef := Nat.lt_of_lt_of_le hdde zz_; have Rd_def := Lib.hid ((Rd_de.out.below b_ (Nat.le_refl _)).mono (Nat.le_refl _) zz_); have Nd_def := Lib.hid (Nd_de.out.stay (b_.block bd ud_de)); have ud_def := Nat.lt_of_lt_of_le ud_de zz_; have Re_def := Lib.hid ((Re_de.out.below b_ (Nat.le_refl _)).mono (Nat.le_refl _) zz_); have Of_def := Lib.hid (OwnR.mono' o_ (Nat.le_of_lt hdde) (Nat.le_refl _)); have Rf_def := Lib.hid (Of_def.out.row); clear b_ o_) | (go_at_call 212; (with_reducible refine (l04List_any pS aS S cS rf (prodM pS S (lcM pS S (vecM S v) x) (sclR pS x IV)) kf w.heap.size wdef.heap.size wdef h6 Rf_def.out (Nat.le_refl _) (prodM_len _ _ _ _)).mono ?_); rintro e wdefg ⟨rg, kg, rfl, o_, b_⟩; have SSdefg := Lib.hid (ss2 b_ hddef SSdef.out); have HBdefg := Lib.hid (below_step HBdef.out (Nat.le_of_lt hddef) b_); have zz_ := b_.size; have HCdefg := Lib.hid (below_step HCdef.out (HCdef.out).size b_); have hddefg := Nat.lt_of_lt_of_le hddef zz_; have Rd_defg := Lib.hid ((Rd_def.out.below b_ (Nat.le_refl _)).mono (Nat.le_refl _) zz_); have Nd_defg := Lib.hid (Nd_def.out.stay (b_.block bd ud_def)); have ud_defg := Nat.lt_of_lt_of_le ud_def zz_; have Re_defg := Lib.hid ((Re_def.out.below b_ (Nat.le_refl _)).mono (Nat.le_refl _) zz_); have Rf_defg := Lib.hid ((Rf_def.out.below b_ (Nat.le_refl _)).mono (Nat.le_refl _) zz_); have Rg_defg := Lib.hid (o_.mono (Nat.le_of_lt hddef) (Nat.le_refl _)); clear b_ o_))
 go_wp2
 go_ret
 rw [← HFIN.out]
 exact ⟨rg, kg, rfl, Rg_defg.out, HBdefg.out⟩
end Go.Proofs.YtgfanoejohpmkaaGreat