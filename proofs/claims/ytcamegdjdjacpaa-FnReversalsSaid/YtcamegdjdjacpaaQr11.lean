/-
  GeometricProduct: contracts of the program and of the model.
  Conditions: the lists are nil or rows of known cells, of at most 1048576 numbers.
  PowerOf: contracts of the program and of the model.
  Conditions: the lists are nil or rows of known cells, of at most 1048576 numbers.
  Draws of multivectors: contracts.
  Conditions: the source stands in a block of known cells; the space is one.
-/
import Derived.Test.YtcamegdjdjacpaaQr9
import Derived.Test.YtcamegdjdjacpaaQr10
import Derived.Test.YtcamegdjdjacpaaQr4
import Derived.Deep.RegionHeld3
import Derived.Deep.DeepCutAuto
namespace Go.Proofs.Ytcamegdjdjacpaa
open Go.RowKit
set_option linter.unusedVariables false

def prodV (p : Int) (S x y : List Int) : List Int := if codeMv p S [x, y] = 0 then prodM p S x y else []
theorem sp_nums {p : Int} {S : List Int} (h : isSp p S = true) : Nums p S := Nums.of (isSp_iff.1 h).all
theorem NewRow.ownE {n : Nat} {f : Nat → Int} {w : World} {e : Ending} {w' : World} (h : NewRow n f w e w') : OwnE (mkR n f) w e w' := by
  obtain ⟨b, rfl, hl, hu, hr, hb⟩ := h
  exact ⟨_, n, by rw [mkR_len], hr.own hl hu, hb⟩
theorem product_own (p : Int) (aS : Option Addr) (S : List Int) (cS loS tpS : Nat) (ax : Option Addr) (x : List Int) (cx lox tpx : Nat) (ay : Option Addr) (y : List Int) (cy loy tpy : Nat) (w : World) (hs : isSp p S = true) (hS : RowIn loS tpS w aS S) (tS : tpS ≤ w.heap.size) (hx : RowIn lox tpx w ax x) (tx : tpx ≤ w.heap.size) (mx : isMv p S x = true) (hy : RowIn loy tpy w ay y) (ty : tpy ≤ w.heap.size) (my : isMv p S y = true) :
    Calls Try.prog 82 #[.agg #[.int .i64 p, .slice aS S.length cS], .slice ax x.length cx, .slice ay y.length cy] w (OwnE (prodM p S x y) w) :=
  (product_any p aS S cS loS tpS ax x cx lox tpx ay y cy loy tpy w (isSp_iff.1 hs).prime (isSp_iff.1 hs).hi hS tS (sp_nums hs) hx tx (Mv.len mx) (Mv.nums mx) hy ty (Mv.len my) (Mv.nums my)).mono fun _ _ h => h.ownE
theorem times_own (p : Int) (aS : Option Addr) (S : List Int) (cS loS tpS : Nat) (ax : Option Addr) (x : List Int) (cx lox tpx : Nat) (ay : Option Addr) (y : List Int) (cy loy tpy : Nat) (w : World) (hs : isSp p S = true) (hS : RowIn loS tpS w aS S) (tS : tpS ≤ w.heap.size) (hx : RowIn lox tpx w ax x) (tx : tpx ≤ w.heap.size) (mx : isMv p S x = true) (hy : RowIn loy tpy w ay y) (ty : tpy ≤ w.heap.size) (my : isMv p S y = true) :
    Calls Try.prog 84 #[.agg #[.int .i64 p, .slice aS S.length cS], .slice ax x.length cx, .slice ay y.length cy] w (OwnE (prodM p S x y) w) :=
  (l04Times_any p aS S cS loS tpS ax x cx lox tpx ay y cy loy tpy w (isSp_iff.1 hs).prime (isSp_iff.1 hs).hi hS tS (sp_nums hs) hx tx (Mv.len mx) (Mv.nums mx) hy ty (Mv.len my) (Mv.nums my)).mono fun _ _ h => h.ownE
theorem prod_mv {p : Int} {S : List Int} (hs : isSp p S = true) (x y : List Int) : isMv p S (prodM p S x y) = true := by
  have hp := prm_bd (isSp_iff.1 hs).prime
  have hn := prodM_num (p := p) (by omega) S x y
  unfold isMv isVec
  rw [prodM_len, Bool.and_eq_true]
  refine ⟨by simp, ?_⟩
  rw [List.all_eq_true]
  intro z hz
  obtain ⟨j, hj, rfl⟩ := List.getElem_of_mem hz
  have h := hn j hj
  rw [getD_at hj] at h
  exact inr_iff.2 h

set_option maxRecDepth 100000 in
set_option maxHeartbeats 1600000 in
theorem combine_product (pS : Int) (aS : Option Addr) (S : List Int) (cS loS tpS : Nat) (ax : Option Addr) (x : List Int) (cx lox tpx : Nat) (ay : Option Addr) (y : List Int) (cy loy tpy : Nat) (w : World) (hS : RowIn loS tpS w aS S) (tS : tpS ≤ w.heap.size) (sS : S.length ≤ 1048576) (hx : RowIn lox tpx w ax x) (tx : tpx ≤ w.heap.size) (sx : x.length ≤ 1048576) (hy : RowIn loy tpy w ay y) (ty : tpy ≤ w.heap.size) (sy : y.length ≤ 1048576) :
    Calls Try.prog 81 #[.agg #[.int .i64 pS, .slice aS S.length cS], .slice ax x.length cx, .slice ay y.length cy, .func (.func 82) #[.agg #[.int .i64 pS, .slice aS S.length cS]] #[]] w (ImplR (prodV pS S x y) (codeMv pS S [x, y]) w) := by
  have HS := Lib.hid hS
  have Hx := Lib.hid hx
  have Hy := Lib.hid hy
  clear hS hx hy
  rcases codeMv_cases pS S [x, y] with ⟨hi, hc⟩ | ⟨hi, ha, hc⟩ | ⟨hi, ha, hc⟩
  · have HI := Lib.hid hi
    have HC := Lib.hid hc
    have HV : Hid (prodV pS S x y = []) := by show _ = _; unfold prodV; rw [if_neg (by rw [hc]; decide)]
    clear hi hc
    go_enter Try.func81, Try.ntmps81
    go_wp2_with (first | (go_at_call 85; (with_reducible refine (checkM2 pS aS S cS loS tpS ax x cx lox tpx ay y cy loy tpy (w.heap.size + 1) _ _ _ (by simp) (HS.out.below ((Below.refl _ _).alloc (Nat.le_refl _) (.cells #[.int .i64 pS, .slice aS S.length cS] 26)) tS) (Nat.le_trans tS (((Below.refl _ _).alloc (Nat.le_refl _) (.cells #[.int .i64 pS, .slice aS S.length cS] 26))).size) sS (Hx.out.below ((Below.refl _ _).alloc (Nat.le_refl _) (.cells #[.int .i64 pS, .slice aS S.length cS] 26)) tx) (Nat.le_trans tx (((Below.refl _ _).alloc (Nat.le_refl _) (.cells #[.int .i64 pS, .slice aS S.length cS] 26))).size) sx (Hy.out.below ((Below.refl _ _).alloc (Nat.le_refl _) (.cells #[.int .i64 pS, .slice aS S.length cS] 26)) ty) (Nat.le_trans ty (((Below.refl _ _).alloc (Nat.le_refl _) (.cells #[.int .i64 pS, .slice aS S.length cS] 26))).size) sy).mono ?_); rintro e w3 ⟨rfl, b3⟩; rw [HC.out]; have B3 := Lib.hid b3; have K3_0_0 := (b3.cell (p := ⟨w.heap.size, 0, none⟩) (Nat.lt_of_lt_of_le (show w.heap.size < (w.alloc (.cells #[.int .i64 pS, .slice aS S.length cS] 26)).heap.size by simp) (Nat.le_trans (Nat.le_refl _) (size_alloc (w.alloc (.cells #[.int .i64 pS, .slice aS S.length cS] 26)) (.cells #[.slice ax x.length cx, .slice ay y.length cy] 24))))).trans (show ((w.alloc (.cells #[.int .i64 pS, .slice aS S.length cS] 26)).alloc (.cells #[.slice ax x.length cx, .slice ay y.length cy] 24)).cell? ⟨w.heap.size, 0, none⟩ = some (.int .i64 pS) from (World.cell?_alloc_old _ _ _ (by simp)).trans (by simp [go_sem])); have K3_0_1 := (b3.cell (p := ⟨w.heap.size, 1, none⟩) (Nat.lt_of_lt_of_le (show w.heap.size < (w.alloc (.cells #[.int .i64 pS, .slice aS S.length cS] 26)).heap.size by simp) (Nat.le_trans (Nat.le_refl _) (size_alloc (w.alloc (.cells #[.int .i64 pS, .slice aS S.length cS] 26)) (.cells #[.slice ax x.length cx, .slice ay y.length cy] 24))))).trans (show ((w.alloc (.cells #[.int .i64 pS, .slice aS S.length cS] 26)).alloc (.cells #[.slice ax x.length cx, .slice ay y.length cy] 24)).cell? ⟨w.heap.size, 1, none⟩ = some (.slice aS S.length cS) from (World.cell?_alloc_old _ _ _ (by simp)).trans (by simp [go_sem])); clear b3))
    go_ret2
    rw [HV.out, HC.out]
    exact ⟨none, 0, rfl, .inl rfl, (below_step (((Below.refl _ _).alloc (Nat.le_refl _) (.cells #[.int .i64 pS, .slice aS S.length cS] 26)).alloc (show w.heap.size ≤ (w.alloc (.cells #[.int .i64 pS, .slice aS S.length cS] 26)).heap.size from (((Below.refl _ _).alloc (Nat.le_refl _) (.cells #[.int .i64 pS, .slice aS S.length cS] 26))).size) (.cells #[.slice ax x.length cx, .slice ay y.length cy] 24)) (show w.heap.size ≤ ((w.alloc (.cells #[.int .i64 pS, .slice aS S.length cS] 26)).alloc (.cells #[.slice ax x.length cx, .slice ay y.length cy] 24)).heap.size from ((((Below.refl _ _).alloc (Nat.le_refl _) (.cells #[.int .i64 pS, .slice aS S.length cS] 26)).alloc (show w.heap.size ≤ (w.alloc (.cells #[.int .i64 pS, .slice aS S.length cS] 26)).heap.size from (((Below.refl _ _).alloc (Nat.le_refl _) (.cells #[.int .i64 pS, .slice aS S.length cS] 26))).size) (.cells #[.slice ax x.length cx, .slice ay y.length cy] 24))).size) B3.out)⟩
  · have HI := Lib.hid hi
    have HC := Lib.hid hc
    have HV : Hid (prodV pS S x y = prodM pS S x y) := by show _ = _; unfold prodV; rw [if_pos hc]
    rw [mv_all2, Bool.and_eq_true] at ha
    have HX := Lib.hid ha.1
    have HY := Lib.hid ha.2
    have hp := (isSp_iff.1 hi).prime
    have HP := Lib.hid hp
    have hpb := prm_bd hp
    have h64 := bl_le (isSp_iff.1 hi).hi
    have HLX := Lib.hid (Mv.len ha.1)
    have HLY := Lib.hid (Mv.len ha.2)
    have hlx : x.length ≤ 64 := by rw [HLX.out]; exact h64
    have hly : y.length ≤ 64 := by rw [HLY.out]; exact h64
    clear hi hc ha hp
    go_enter Try.func81, Try.ntmps81
    go_wp2_with (first | (go_at_call 85; (with_reducible refine (checkM2 pS aS S cS loS tpS ax x cx lox tpx ay y cy loy tpy (w.heap.size + 1) _ _ _ (by simp) (HS.out.below ((Below.refl _ _).alloc (Nat.le_refl _) (.cells #[.int .i64 pS, .slice aS S.length cS] 26)) tS) (Nat.le_trans tS (((Below.refl _ _).alloc (Nat.le_refl _) (.cells #[.int .i64 pS, .slice aS S.length cS] 26))).size) sS (Hx.out.below ((Below.refl _ _).alloc (Nat.le_refl _) (.cells #[.int .i64 pS, .slice aS S.length cS] 26)) tx) (Nat.le_trans tx (((Below.refl _ _).alloc (Nat.le_refl _) (.cells #[.int .i64 pS, .slice aS S.length cS] 26))).size) sx (Hy.out.below ((Below.refl _ _).alloc (Nat.le_refl _) (.cells #[.int .i64 pS, .slice aS S.length cS] 26)) ty) (Nat.le_trans ty (((Below.refl _ _).alloc (Nat.le_refl _) (.cells #[.int .i64 pS, .slice aS S.length cS] 26))).size) sy).mono ?_); rintro e w3 ⟨rfl, b3⟩; rw [HC.out]; have B3 := Lib.hid b3; have K3_0_0 := (b3.cell (p := ⟨w.heap.size, 0, none⟩) (Nat.lt_of_lt_of_le (show w.heap.size < (w.alloc (.cells #[.int .i64 pS, .slice aS S.length cS] 26)).heap.size by simp) (Nat.le_trans (Nat.le_refl _) (size_alloc (w.alloc (.cells #[.int .i64 pS, .slice aS S.length cS] 26)) (.cells #[.slice ax x.length cx, .slice ay y.length cy] 24))))).trans (show ((w.alloc (.cells #[.int .i64 pS, .slice aS S.length cS] 26)).alloc (.cells #[.slice ax x.length cx, .slice ay y.length cy] 24)).cell? ⟨w.heap.size, 0, none⟩ = some (.int .i64 pS) from (World.cell?_alloc_old _ _ _ (by simp)).trans (by simp [go_sem])); have K3_0_1 := (b3.cell (p := ⟨w.heap.size, 1, none⟩) (Nat.lt_of_lt_of_le (show w.heap.size < (w.alloc (.cells #[.int .i64 pS, .slice aS S.length cS] 26)).heap.size by simp) (Nat.le_trans (Nat.le_refl _) (size_alloc (w.alloc (.cells #[.int .i64 pS, .slice aS S.length cS] 26)) (.cells #[.slice ax x.length cx, .slice ay y.length cy] 24))))).trans (show ((w.alloc (.cells #[.int .i64 pS, .slice aS S.length cS] 26)).alloc (.cells #[.slice ax x.length cx, .slice ay y.length cy] 24)).cell? ⟨w.heap.size, 1, none⟩ = some (.slice aS S.length cS) from (World.cell?_alloc_old _ _ _ (by simp)).trans (by simp [go_sem])); clear b3) | (go_at_call 82; (with_reducible refine (product_own pS aS S cS loS tpS ax x cx lox tpx ay y cy loy tpy _ HI.out (HS.out.below (below_step (((Below.refl _ _).alloc (Nat.le_refl _) (.cells #[.int .i64 pS, .slice aS S.length cS] 26)).alloc (show w.heap.size ≤ (w.alloc (.cells #[.int .i64 pS, .slice aS S.length cS] 26)).heap.size from (((Below.refl _ _).alloc (Nat.le_refl _) (.cells #[.int .i64 pS, .slice aS S.length cS] 26))).size) (.cells #[.slice ax x.length cx, .slice ay y.length cy] 24)) (show w.heap.size ≤ ((w.alloc (.cells #[.int .i64 pS, .slice aS S.length cS] 26)).alloc (.cells #[.slice ax x.length cx, .slice ay y.length cy] 24)).heap.size from ((((Below.refl _ _).alloc (Nat.le_refl _) (.cells #[.int .i64 pS, .slice aS S.length cS] 26)).alloc (show w.heap.size ≤ (w.alloc (.cells #[.int .i64 pS, .slice aS S.length cS] 26)).heap.size from (((Below.refl _ _).alloc (Nat.le_refl _) (.cells #[.int .i64 pS, .slice aS S.length cS] 26))).size) (.cells #[.slice ax x.length cx, .slice ay y.length cy] 24))).size) B3.out) tS) (Nat.le_trans tS ((below_step (((Below.refl _ _).alloc (Nat.le_refl _) (.cells #[.int .i64 pS, .slice aS S.length cS] 26)).alloc (show w.heap.size ≤ (w.alloc (.cells #[.int .i64 pS, .slice aS S.length cS] 26)).heap.size from (((Below.refl _ _).alloc (Nat.le_refl _) (.cells #[.int .i64 pS, .slice aS S.length cS] 26))).size) (.cells #[.slice ax x.length cx, .slice ay y.length cy] 24)) (show w.heap.size ≤ ((w.alloc (.cells #[.int .i64 pS, .slice aS S.length cS] 26)).alloc (.cells #[.slice ax x.length cx, .slice ay y.length cy] 24)).heap.size from ((((Below.refl _ _).alloc (Nat.le_refl _) (.cells #[.int .i64 pS, .slice aS S.length cS] 26)).alloc (show w.heap.size ≤ (w.alloc (.cells #[.int .i64 pS, .slice aS S.length cS] 26)).heap.size from (((Below.refl _ _).alloc (Nat.le_refl _) (.cells #[.int .i64 pS, .slice aS S.length cS] 26))).size) (.cells #[.slice ax x.length cx, .slice ay y.length cy] 24))).size) B3.out)).size) (Hx.out.below (below_step (((Below.refl _ _).alloc (Nat.le_refl _) (.cells #[.int .i64 pS, .slice aS S.length cS] 26)).alloc (show w.heap.size ≤ (w.alloc (.cells #[.int .i64 pS, .slice aS S.length cS] 26)).heap.size from (((Below.refl _ _).alloc (Nat.le_refl _) (.cells #[.int .i64 pS, .slice aS S.length cS] 26))).size) (.cells #[.slice ax x.length cx, .slice ay y.length cy] 24)) (show w.heap.size ≤ ((w.alloc (.cells #[.int .i64 pS, .slice aS S.length cS] 26)).alloc (.cells #[.slice ax x.length cx, .slice ay y.length cy] 24)).heap.size from ((((Below.refl _ _).alloc (Nat.le_refl _) (.cells #[.int .i64 pS, .slice aS S.length cS] 26)).alloc (show w.heap.size ≤ (w.alloc (.cells #[.int .i64 pS, .slice aS S.length cS] 26)).heap.size from (((Below.refl _ _).alloc (Nat.le_refl _) (.cells #[.int .i64 pS, .slice aS S.length cS] 26))).size) (.cells #[.slice ax x.length cx, .slice ay y.length cy] 24))).size) B3.out) tx) (Nat.le_trans tx ((below_step (((Below.refl _ _).alloc (Nat.le_refl _) (.cells #[.int .i64 pS, .slice aS S.length cS] 26)).alloc (show w.heap.size ≤ (w.alloc (.cells #[.int .i64 pS, .slice aS S.length cS] 26)).heap.size from (((Below.refl _ _).alloc (Nat.le_refl _) (.cells #[.int .i64 pS, .slice aS S.length cS] 26))).size) (.cells #[.slice ax x.length cx, .slice ay y.length cy] 24)) (show w.heap.size ≤ ((w.alloc (.cells #[.int .i64 pS, .slice aS S.length cS] 26)).alloc (.cells #[.slice ax x.length cx, .slice ay y.length cy] 24)).heap.size from ((((Below.refl _ _).alloc (Nat.le_refl _) (.cells #[.int .i64 pS, .slice aS S.length cS] 26)).alloc (show w.heap.size ≤ (w.alloc (.cells #[.int .i64 pS, .slice aS S.length cS] 26)).heap.size from (((Below.refl _ _).alloc (Nat.le_refl _) (.cells #[.int .i64 pS, .slice aS S.length cS] 26))).size) (.cells #[.slice ax x.length cx, .slice ay y.length cy] 24))).size) B3.out)).size) HX.out (Hy.out.below (below_step (((Below.refl _ _).alloc (Nat.le_refl _) (.cells #[.int .i64 pS, .slice aS S.length cS] 26)).alloc (show w.heap.size ≤ (w.alloc (.cells #[.int .i64 pS, .slice aS S.length cS] 26)).heap.size from (((Below.refl _ _).alloc (Nat.le_refl _) (.cells #[.int .i64 pS, .slice aS S.length cS] 26))).size) (.cells #[.slice ax x.length cx, .slice ay y.length cy] 24)) (show w.heap.size ≤ ((w.alloc (.cells #[.int .i64 pS, .slice aS S.length cS] 26)).alloc (.cells #[.slice ax x.length cx, .slice ay y.length cy] 24)).heap.size from ((((Below.refl _ _).alloc (Nat.le_refl _) (.cells #[.int .i64 pS, .slice aS S.length cS] 26)).alloc (show w.heap.size ≤ (w.alloc (.cells #[.int .i64 pS, .slice aS S.length cS] 26)).heap.size from (((Below.refl _ _).alloc (Nat.le_refl _) (.cells #[.int .i64 pS, .slice aS S.length cS] 26))).size) (.cells #[.slice ax x.length cx, .slice ay y.length cy] 24))).size) B3.out) ty) (Nat.le_trans ty ((below_step (((Below.refl _ _).alloc (Nat.le_refl _) (.cells #[.int .i64 pS, .slice aS S.length cS] 26)).alloc (show w.heap.size ≤ (w.alloc (.cells #[.int .i64 pS, .slice aS S.length cS] 26)).heap.size from (((Below.refl _ _).alloc (Nat.le_refl _) (.cells #[.int .i64 pS, .slice aS S.length cS] 26))).size) (.cells #[.slice ax x.length cx, .slice ay y.length cy] 24)) (show w.heap.size ≤ ((w.alloc (.cells #[.int .i64 pS, .slice aS S.length cS] 26)).alloc (.cells #[.slice ax x.length cx, .slice ay y.length cy] 24)).heap.size from ((((Below.refl _ _).alloc (Nat.le_refl _) (.cells #[.int .i64 pS, .slice aS S.length cS] 26)).alloc (show w.heap.size ≤ (w.alloc (.cells #[.int .i64 pS, .slice aS S.length cS] 26)).heap.size from (((Below.refl _ _).alloc (Nat.le_refl _) (.cells #[.int .i64 pS, .slice aS S.length cS] 26))).size) (.cells #[.slice ax x.length cx, .slice ay y.length cy] 24))).size) B3.out)).size) HY.out).mono ?_); rintro e w4 ⟨r4, c4, rfl, o4, b4⟩; have B4 := Lib.hid b4; have K4_0_0 := (b4.cell (p := ⟨w.heap.size, 0, none⟩) (Nat.lt_of_lt_of_le (show w.heap.size < (w.alloc (.cells #[.int .i64 pS, .slice aS S.length cS] 26)).heap.size by simp) (Nat.le_trans (Nat.le_trans (Nat.le_refl _) (size_alloc (w.alloc (.cells #[.int .i64 pS, .slice aS S.length cS] 26)) (.cells #[.slice ax x.length cx, .slice ay y.length cy] 24))) B3.out.size))).trans K3_0_0; clear K3_0_0; have K4_0_1 := (b4.cell (p := ⟨w.heap.size, 1, none⟩) (Nat.lt_of_lt_of_le (show w.heap.size < (w.alloc (.cells #[.int .i64 pS, .slice aS S.length cS] 26)).heap.size by simp) (Nat.le_trans (Nat.le_trans (Nat.le_refl _) (size_alloc (w.alloc (.cells #[.int .i64 pS, .slice aS S.length cS] 26)) (.cells #[.slice ax x.length cx, .slice ay y.length cy] 24))) B3.out.size))).trans K3_0_1; clear K3_0_1; have O4 := Lib.hid o4; clear o4; clear b4))
    go_ret2
    rw [HV.out, HC.out]
    exact ⟨_, _, rfl, OwnR.mono' O4.out (show w.heap.size ≤ w3.heap.size from ((below_step (((Below.refl _ _).alloc (Nat.le_refl _) (.cells #[.int .i64 pS, .slice aS S.length cS] 26)).alloc (show w.heap.size ≤ (w.alloc (.cells #[.int .i64 pS, .slice aS S.length cS] 26)).heap.size from (((Below.refl _ _).alloc (Nat.le_refl _) (.cells #[.int .i64 pS, .slice aS S.length cS] 26))).size) (.cells #[.slice ax x.length cx, .slice ay y.length cy] 24)) (show w.heap.size ≤ ((w.alloc (.cells #[.int .i64 pS, .slice aS S.length cS] 26)).alloc (.cells #[.slice ax x.length cx, .slice ay y.length cy] 24)).heap.size from ((((Below.refl _ _).alloc (Nat.le_refl _) (.cells #[.int .i64 pS, .slice aS S.length cS] 26)).alloc (show w.heap.size ≤ (w.alloc (.cells #[.int .i64 pS, .slice aS S.length cS] 26)).heap.size from (((Below.refl _ _).alloc (Nat.le_refl _) (.cells #[.int .i64 pS, .slice aS S.length cS] 26))).size) (.cells #[.slice ax x.length cx, .slice ay y.length cy] 24))).size) B3.out)).size) (Nat.le_refl _), (below_step (below_step (((Below.refl _ _).alloc (Nat.le_refl _) (.cells #[.int .i64 pS, .slice aS S.length cS] 26)).alloc (show w.heap.size ≤ (w.alloc (.cells #[.int .i64 pS, .slice aS S.length cS] 26)).heap.size from (((Below.refl _ _).alloc (Nat.le_refl _) (.cells #[.int .i64 pS, .slice aS S.length cS] 26))).size) (.cells #[.slice ax x.length cx, .slice ay y.length cy] 24)) (show w.heap.size ≤ ((w.alloc (.cells #[.int .i64 pS, .slice aS S.length cS] 26)).alloc (.cells #[.slice ax x.length cx, .slice ay y.length cy] 24)).heap.size from ((((Below.refl _ _).alloc (Nat.le_refl _) (.cells #[.int .i64 pS, .slice aS S.length cS] 26)).alloc (show w.heap.size ≤ (w.alloc (.cells #[.int .i64 pS, .slice aS S.length cS] 26)).heap.size from (((Below.refl _ _).alloc (Nat.le_refl _) (.cells #[.int .i64 pS, .slice aS S.length cS] 26))).size) (.cells #[.slice ax x.length cx, .slice ay y.length cy] 24))).size) B3.out) (show w.heap.size ≤ w3.heap.size from ((below_step (((Below.refl _ _).alloc (Nat.le_refl _) (.cells #[.int .i64 pS, .slice aS S.length cS] 26)).alloc (show w.heap.size ≤ (w.alloc (.cells #[.int .i64 pS, .slice aS S.length cS] 26)).heap.size from (((Below.refl _ _).alloc (Nat.le_refl _) (.cells #[.int .i64 pS, .slice aS S.length cS] 26))).size) (.cells #[.slice ax x.length cx, .slice ay y.length cy] 24)) (show w.heap.size ≤ ((w.alloc (.cells #[.int .i64 pS, .slice aS S.length cS] 26)).alloc (.cells #[.slice ax x.length cx, .slice ay y.length cy] 24)).heap.size from ((((Below.refl _ _).alloc (Nat.le_refl _) (.cells #[.int .i64 pS, .slice aS S.length cS] 26)).alloc (show w.heap.size ≤ (w.alloc (.cells #[.int .i64 pS, .slice aS S.length cS] 26)).heap.size from (((Below.refl _ _).alloc (Nat.le_refl _) (.cells #[.int .i64 pS, .slice aS S.length cS] 26))).size) (.cells #[.slice ax x.length cx, .slice ay y.length cy] 24))).size) B3.out)).size) B4.out)⟩
  · have HI := Lib.hid hi
    have HC := Lib.hid hc
    have HV : Hid (prodV pS S x y = []) := by show _ = _; unfold prodV; rw [if_neg (by rw [hc]; decide)]
    clear hi hc ha
    go_enter Try.func81, Try.ntmps81
    go_wp2_with (first | (go_at_call 85; (with_reducible refine (checkM2 pS aS S cS loS tpS ax x cx lox tpx ay y cy loy tpy (w.heap.size + 1) _ _ _ (by simp) (HS.out.below ((Below.refl _ _).alloc (Nat.le_refl _) (.cells #[.int .i64 pS, .slice aS S.length cS] 26)) tS) (Nat.le_trans tS (((Below.refl _ _).alloc (Nat.le_refl _) (.cells #[.int .i64 pS, .slice aS S.length cS] 26))).size) sS (Hx.out.below ((Below.refl _ _).alloc (Nat.le_refl _) (.cells #[.int .i64 pS, .slice aS S.length cS] 26)) tx) (Nat.le_trans tx (((Below.refl _ _).alloc (Nat.le_refl _) (.cells #[.int .i64 pS, .slice aS S.length cS] 26))).size) sx (Hy.out.below ((Below.refl _ _).alloc (Nat.le_refl _) (.cells #[.int .i64 pS, .slice aS S.length cS] 26)) ty) (Nat.le_trans ty (((Below.refl _ _).alloc (Nat.le_refl _) (.cells #[.int .i64 pS, .slice aS S.length cS] 26))).size) sy).mono ?_); rintro e w3 ⟨rfl, b3⟩; rw [HC.out]; have B3 := Lib.hid b3; have K3_0_0 := (b3.cell (p := ⟨w.heap.size, 0, none⟩) (Nat.lt_of_lt_of_le (show w.heap.size < (w.alloc (.cells #[.int .i64 pS, .slice aS S.length cS] 26)).heap.size by simp) (Nat.le_trans (Nat.le_refl _) (size_alloc (w.alloc (.cells #[.int .i64 pS, .slice aS S.length cS] 26)) (.cells #[.slice ax x.length cx, .slice ay y.length cy] 24))))).trans (show ((w.alloc (.cells #[.int .i64 pS, .slice aS S.length cS] 26)).alloc (.cells #[.slice ax x.length cx, .slice ay y.length cy] 24)).cell? ⟨w.heap.size, 0, none⟩ = some (.int .i64 pS) from (World.cell?_alloc_old _ _ _ (by simp)).trans (by simp [go_sem])); have K3_0_1 := (b3.cell (p := ⟨w.heap.size, 1, none⟩) (Nat.lt_of_lt_of_le (show w.heap.size < (w.alloc (.cells #[.int .i64 pS, .slice aS S.length cS] 26)).heap.size by simp) (Nat.le_trans (Nat.le_refl _) (size_alloc (w.alloc (.cells #[.int .i64 pS, .slice aS S.length cS] 26)) (.cells #[.slice ax x.length cx, .slice ay y.length cy] 24))))).trans (show ((w.alloc (.cells #[.int .i64 pS, .slice aS S.length cS] 26)).alloc (.cells #[.slice ax x.length cx, .slice ay y.length cy] 24)).cell? ⟨w.heap.size, 1, none⟩ = some (.slice aS S.length cS) from (World.cell?_alloc_old _ _ _ (by simp)).trans (by simp [go_sem])); clear b3))
    go_ret2
    rw [HV.out, HC.out]
    exact ⟨none, 0, rfl, .inl rfl, (below_step (((Below.refl _ _).alloc (Nat.le_refl _) (.cells #[.int .i64 pS, .slice aS S.length cS] 26)).alloc (show w.heap.size ≤ (w.alloc (.cells #[.int .i64 pS, .slice aS S.length cS] 26)).heap.size from (((Below.refl _ _).alloc (Nat.le_refl _) (.cells #[.int .i64 pS, .slice aS S.length cS] 26))).size) (.cells #[.slice ax x.length cx, .slice ay y.length cy] 24)) (show w.heap.size ≤ ((w.alloc (.cells #[.int .i64 pS, .slice aS S.length cS] 26)).alloc (.cells #[.slice ax x.length cx, .slice ay y.length cy] 24)).heap.size from ((((Below.refl _ _).alloc (Nat.le_refl _) (.cells #[.int .i64 pS, .slice aS S.length cS] 26)).alloc (show w.heap.size ≤ (w.alloc (.cells #[.int .i64 pS, .slice aS S.length cS] 26)).heap.size from (((Below.refl _ _).alloc (Nat.le_refl _) (.cells #[.int .i64 pS, .slice aS S.length cS] 26))).size) (.cells #[.slice ax x.length cx, .slice ay y.length cy] 24))).size) B3.out)⟩

set_option maxRecDepth 100000 in
set_option maxHeartbeats 1600000 in
theorem impl_GeometricProduct (pS : Int) (aS : Option Addr) (S : List Int) (cS loS tpS : Nat) (ax : Option Addr) (x : List Int) (cx lox tpx : Nat) (ay : Option Addr) (y : List Int) (cy loy tpy : Nat) (w : World) (hS : RowIn loS tpS w aS S) (tS : tpS ≤ w.heap.size) (sS : S.length ≤ 1048576) (hx : RowIn lox tpx w ax x) (tx : tpx ≤ w.heap.size) (sx : x.length ≤ 1048576) (hy : RowIn loy tpy w ay y) (ty : tpy ≤ w.heap.size) (sy : y.length ≤ 1048576) :
    Calls Try.prog 14 #[.agg #[.int .i64 pS, .slice aS S.length cS], .slice ax x.length cx, .slice ay y.length cy] w (ImplR (prodV pS S x y) (codeMv pS S [x, y]) w) := by
  have HS := Lib.hid hS
  have Hx := Lib.hid hx
  have Hy := Lib.hid hy
  clear hS hx hy
  go_enter Try.func14, Try.ntmps14
  go_wp2_with (first | (go_at_call 81; (with_reducible refine (combine_product pS aS S cS loS tpS ax x cx lox tpx ay y cy loy tpy _ (HS.out.below ((Below.refl _ _).alloc (Nat.le_refl _) (.cells #[.int .i64 pS, .slice aS S.length cS] 26)) tS) (Nat.le_trans tS (((Below.refl _ _).alloc (Nat.le_refl _) (.cells #[.int .i64 pS, .slice aS S.length cS] 26))).size) sS (Hx.out.below ((Below.refl _ _).alloc (Nat.le_refl _) (.cells #[.int .i64 pS, .slice aS S.length cS] 26)) tx) (Nat.le_trans tx (((Below.refl _ _).alloc (Nat.le_refl _) (.cells #[.int .i64 pS, .slice aS S.length cS] 26))).size) sx (Hy.out.below ((Below.refl _ _).alloc (Nat.le_refl _) (.cells #[.int .i64 pS, .slice aS S.length cS] 26)) ty) (Nat.le_trans ty (((Below.refl _ _).alloc (Nat.le_refl _) (.cells #[.int .i64 pS, .slice aS S.length cS] 26))).size) sy).mono ?_); rintro e w2 ⟨r2, c2, rfl, o2, b2⟩; have B2 := Lib.hid b2; have K2_0_0 := (b2.cell (p := ⟨w.heap.size, 0, none⟩) (Nat.lt_of_lt_of_le (show w.heap.size < (w.alloc (.cells #[.int .i64 pS, .slice aS S.length cS] 26)).heap.size by simp) (Nat.le_refl _))).trans (show (w.alloc (.cells #[.int .i64 pS, .slice aS S.length cS] 26)).cell? ⟨w.heap.size, 0, none⟩ = some (.int .i64 pS) by simp [go_sem]); have K2_0_1 := (b2.cell (p := ⟨w.heap.size, 1, none⟩) (Nat.lt_of_lt_of_le (show w.heap.size < (w.alloc (.cells #[.int .i64 pS, .slice aS S.length cS] 26)).heap.size by simp) (Nat.le_refl _))).trans (show (w.alloc (.cells #[.int .i64 pS, .slice aS S.length cS] 26)).cell? ⟨w.heap.size, 1, none⟩ = some (.slice aS S.length cS) by simp [go_sem]); have O2 := Lib.hid o2; clear o2; clear b2))
  go_ret2
  exact ⟨_, _, rfl, OwnR.mono' O2.out (show w.heap.size ≤ (w.alloc (.cells #[.int .i64 pS, .slice aS S.length cS] 26)).heap.size from (((Below.refl _ _).alloc (Nat.le_refl _) (.cells #[.int .i64 pS, .slice aS S.length cS] 26))).size) (Nat.le_refl _), (below_step ((Below.refl _ _).alloc (Nat.le_refl _) (.cells #[.int .i64 pS, .slice aS S.length cS] 26)) (show w.heap.size ≤ (w.alloc (.cells #[.int .i64 pS, .slice aS S.length cS] 26)).heap.size from (((Below.refl _ _).alloc (Nat.le_refl _) (.cells #[.int .i64 pS, .slice aS S.length cS] 26))).size) B2.out)⟩

end Go.Proofs.Ytcamegdjdjacpaa

namespace Go.Proofs.Ytcamegdjdjacpaa
open Go.RowKit
set_option linter.unusedVariables false

def mOne (S : List Int) : List Int := mkR (bl S) oneF
theorem isMv_of {p : Int} {S z : List Int} (hl : z.length = bl S) (hn : ∀ j, j < z.length → 0 ≤ z.getD j 0 ∧ z.getD j 0 < p) : isMv p S z = true := by
  unfold isMv isVec
  rw [hl, Bool.and_eq_true]
  refine ⟨by simp, ?_⟩
  rw [List.all_eq_true]
  intro y hy
  obtain ⟨j, hj, rfl⟩ := List.getElem_of_mem hy
  have h := hn j hj
  rw [getD_at hj] at h
  exact inr_iff.2 h
theorem one_mv {p : Int} {S : List Int} (hs : isSp p S = true) : isMv p S (mOne S) = true :=
  isMv_of (mkR_len _ _) (fun j hj => by
    have hp := prm_bd (isSp_iff.1 hs).prime
    unfold mOne at hj ⊢
    rw [mkR_len] at hj
    rw [mkR_at _ hj]
    unfold oneF
    split <;> omega)
end Go.Proofs.Ytcamegdjdjacpaa

namespace Go.Proofs.Ytcamegdjdjacpaa
open Go.RowKit
set_option linter.unusedVariables false

set_option maxHeartbeats 1600000 in
theorem listN_any (p : Int) (n : Nat) (b : Nat) (a : Option Addr) (len cap : Nat) (zs : List Int) (w : World) (hs : Src w b a len cap zs) (hn : n ≤ 1048576) (hp : 1 ≤ p) :
    Calls Try.prog 203 #[.pointer (some ⟨b, 0, none⟩), .int .i64 p, .int .i64 n] w (DrawnO (fun X => X.length = n ∧ ∀ j, j < X.length → 0 ≤ X.getD j 0 ∧ X.getD j 0 < p) b a len cap zs w) := by
  obtain ⟨i0, hi, hz0, hz1, hz2⟩ := info_parts info64
  have hlt := hs.lt
  have HS := Lib.hid hs
  clear hs
  go_enter Try.func203, Try.ntmps203
  go_wp2
  go_loopw [7, 2] (fun v t wr => ∃ (X : List Int), X.length ≤ n ∧ (∀ j, j < X.length → 0 ≤ X.getD j 0 ∧ X.getD j 0 < p) ∧ t = .int .i64 ((n : Int) - X.length) ∧ OutR w.heap.size wr v X ∧ Src wr b a len cap zs ∧ Only b w wr) (fun _ t _ => (intOf t).toNat)
  case atStart => exact ⟨[], Nat.zero_le _, fun j hj => by simp at hj, by simp, OutR.start w _ _ (Nat.le_refl _) rfl, HS.out.alloc _, (Only.refl b w).alloc _⟩
  case round =>
    obtain ⟨X, hX, hXn, rfl, ho, hsr, hon⟩ := hrel
    have HXN := Lib.hid hXn
    clear hXn
    have HO := Lib.hid ho
    have HSR := Lib.hid hsr
    have HON := Lib.hid hon
    have hwz := hon.size
    clear ho hsr hon
    by_cases hlx : X.length < n
    · have hp0 : (0 : Int) < (n : Int) - X.length := by omega
      obtain ⟨j, hj⟩ : ∃ j, j = X.length := ⟨_, rfl⟩
      obtain ⟨Y, hY⟩ : ∃ Y, Y = X.map (Value.int .i64) := ⟨_, rfl⟩
      have HJ := Lib.hid hj
      have HY := Lib.hid hY
      rw [← hj] at hp0 hlx ⊢
      clear hj hY
      go_wp2_with (first | (go_at_call 167; (with_reducible refine (next_any p b a len cap zs _ HSR.out).mono ?_); rintro e w3 ⟨x, rfl, hx, ho3, hs3⟩; have HXX := Lib.hid (hx hp); have hz3 := ho3.size; have H3 : Hid (w3.ownsRow w.heap.size 2 1 u7 j Y) := (by have h := HO.out.only ho3 hlt; unfold OutR at h; rw [← HY.out, ← HJ.out] at h; exact h); have HS3 := Lib.hid hs3; have HO3 := Lib.hid (HON.out.trans ho3); clear ho3 hs3 hx) | (at_builtin; refine wpList_append_lies _ rfl _ _ 24 rfl w.heap.size 2 i0 (.int .i64 0) 1 8 Try.underlying24 hi hz0 hz1 hz2 rfl (by decide) u7 j Y rfl (H3.out.alloc _) ⟨w3.heap.size, 0, none⟩ 1 1 [.int .i64 x] rfl rfl (World.news_of_block (cs := #[.int .i64 x]) (t := 2) (fr := (0, 0)) (heap_alloc_new w3 _)) (by simp [Value.oneCell']) (by omega) (by unfold maxLen; omega) (by omega) (by simp; omega) (w3.heap.size + 1) (by simp) ?_; intro gg cap w1 hown1 hgrow hat hlt1))
      go_roundw
      case rel => exact ⟨X ++ [x], by rw [List.length_append, ← HJ.out]; exact hlx, nums_push HXN.out HXX.out, by rw [List.length_append, ← HJ.out]; go_num, OutR.push (by rw [← HY.out, ← HJ.out]; exact hown1), (HS3.out.alloc _).grown hgrow (fun k e => by have := (H3.out.lt _ e).1; omega), (HO3.out.alloc _).grown hgrow (fun k e => (H3.out.lt _ e).1)⟩
      case measure => simp [intOf]; omega
    · have hp0 : ¬ (0 : Int) < (n : Int) - X.length := by omega
      go_wp2
      go_ret
      exact ⟨_, X, rfl, ⟨by omega, HXN.out⟩, HO.out, HON.out, HSR.out⟩

/-- A multivector that has been drawn: its own memory, full or growing on. -/
def DrawnM (n : Nat) (b : Nat) (a : Option Addr) (len cap : Nat) (zs : List Int) (w : World) (e : Ending) (w' : World) : Prop :=
  ∃ r c X, e = .returned (.slice r X.length c) ∧ X.length = n ∧ OwnR w.heap.size w'.heap.size w' r X ∧ (c = X.length ∨ OutR w.heap.size w' (.slice r X.length c) X) ∧ Only b w w' ∧ Src w' b a len cap zs
theorem lone_any (p : Int) (a : Option Addr) (S : List Int) (c : Nat) (w : World) (h : S.length ≤ 6) :
    Calls Try.prog 220 #[.agg #[.int .i64 p, .slice a S.length c]] w (NewRow (bl S) oneF w) := by
  have hb0 := bl_pos S
  go_enter Try.func220, Try.ntmps220
  go_wp2_with (go_at_call 208; (with_reducible refine (l04Zero_any p a S c _ h).mono ?_); rintro e w1 ⟨b1, rfl, hl1, hu1, ho1, hb1⟩; have HO1 := Lib.hid ho1; have HB1 := Lib.hid (below_step (below_alloc w _) (by simp) hb1); have hz1 := hb1.size; have c0 := ho1.cell 0 hb0; have f0 := ho1.free 0 hb0; rw [Nat.zero_add] at c0 f0; clear hb1 ho1)
  have hwb : w.heap.size ≤ b1 := by simp at hl1; omega
  go_ret
  exact ⟨b1, rfl, hwb, by simp [World.setCell]; exact hu1, row_put0 (g := oneF) (v := 1) HO1.out hb0 (fun j _ => by unfold oneF; rfl), HB1.out.trans ((wrote_put0 (Wrote.refl b1 0 (bl S) w1) hb0 _).belowB hwb)⟩
theorem vecN {p : Int} (hp : 0 < p) {n : Nat} {v : List Int} (hn : ∀ j, j < v.length → 0 ≤ v.getD j 0 ∧ v.getD j 0 < p) : ∀ j, j < (mkR n (vecF v v.length)).length → 0 ≤ (mkR n (vecF v v.length)).getD j 0 ∧ (mkR n (vecF v v.length)).getD j 0 < p := fun j hj => by
  rw [mkR_len] at hj
  rw [mkR_at _ hj]
  have key : ∀ k, k ≤ v.length → 0 ≤ vecF v k j ∧ vecF v k j < p := fun k => by
    induction k with
    | zero => intro _; show 0 ≤ (0 : Int) ∧ (0 : Int) < p; omega
    | succ k ih =>
      intro h
      show 0 ≤ (if j = 2 ^ k then v.getD k 0 else vecF v k j) ∧ (if j = 2 ^ k then v.getD k 0 else vecF v k j) < p
      split
      · exact hn k (by omega)
      · exact ih (by omega)
  exact key v.length (Nat.le_refl _)
end Go.Proofs.Ytcamegdjdjacpaa
