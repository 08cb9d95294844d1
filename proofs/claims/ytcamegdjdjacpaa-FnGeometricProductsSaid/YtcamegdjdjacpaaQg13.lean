/-
  PowerOf: contracts of the program and of the model.
  Conditions: the lists are nil or rows of known cells, of at most 1048576 numbers.
  Draws of multivectors: contracts.
  Conditions: the source stands in a block of known cells; the space is one.
-/
import Derived.Test.YtcamegdjdjacpaaQg12
import Derived.Test.YtcamegdjdjacpaaQg4
import Derived.Deep.RegionHeld3
import Derived.Deep.DeepCutAuto
namespace Go.Proofs.Ytcamegdjdjacpaa
open Go.RowKit
set_option linter.unusedVariables false

def mOne (S : List Int) : List Int := mkR (bl S) oneF
def mPow (p : Int) (S x : List Int) : Nat → List Int
  | 0 => mOne S
  | k + 1 => prodM p S (mPow p S x k) x
theorem isMv_of {p : Int} {S z : List Int} (hl : z.length = bl S) (hn : ∀ j, j < z.length → 0 ≤ z.getD j 0 ∧ z.getD j 0 < p) : isMv p S z = true := by
  unfold isMv isVec
  rw [hl, Bool.and_eq_true]
  refine ⟨by simp, ?_⟩
  rw [List.all_eq_true]
  intro y hy
  obtain ⟨j, hj, rfl⟩ := List.getElem_of_mem hy
  have h := hn j hj
  rw [getD_at hj] at h
  exact inr_iff.2 h
theorem one_mv {p : Int} {S : List Int} (hs : isSp p S = true) : isMv p S (mOne S) = true :=
  isMv_of (mkR_len _ _) (fun j hj => by
    have hp := prm_bd (isSp_iff.1 hs).prime
    unfold mOne at hj ⊢
    rw [mkR_len] at hj
    rw [mkR_at _ hj]
    unfold oneF
    split <;> omega)
theorem mpow_mv {p : Int} {S x : List Int} (hs : isSp p S = true) : ∀ k, isMv p S (mPow p S x k) = true
  | 0 => one_mv hs
  | k + 1 => prod_mv hs _ _
theorem mpow_len {p : Int} {S x : List Int} (hs : isSp p S = true) (k : Nat) : (mPow p S x k).length = bl S := Mv.len (mpow_mv hs k)
theorem mpow_add {p : Int} {S x : List Int} (hs : isSp p S = true) (m : Nat) : ∀ n, prodM p S (mPow p S x m) (mPow p S x n) = mPow p S x (m + n)
  | 0 => prodM_one_r p S _ (mpow_len hs m) (Mv.num (mpow_mv hs m))
  | n + 1 => by
    show prodM p S (mPow p S x m) (prodM p S (mPow p S x n) x) = prodM p S (mPow p S x (m + n)) x
    rw [← mpow_add hs m n, prodM_assoc]
def mPowC (p : Int) (S x : List Int) (k : Int) : Int := if codeMv p S [x] = 0 then (if 0 ≤ k ∧ k ≤ 100 then 0 else 2) else codeMv p S [x]
def mPowV (p : Int) (S x : List Int) (k : Int) : List Int := if mPowC p S x k = 0 then mPow p S x k.toNat else []
theorem blade0_any (p : Int) (a : Option Addr) (S : List Int) (c : Nat) (w : World) (h : S.length ≤ 6) :
    Calls Try.prog 88 #[.agg #[.int .i64 p, .slice a S.length c], .int .i64 0] w (OwnE (mOne S) w) :=
  (blade_any p a S c 0 w h (bl_pos S)).mono fun _ _ h => h.ownE

set_option maxRecDepth 100000 in
set_option maxHeartbeats 3200000 in
theorem impl_PowerOf (pS : Int) (aS : Option Addr) (S : List Int) (cS loS tpS : Nat) (ax : Option Addr) (x : List Int) (cx lox tpx : Nat) (k : Int) (w : World) (hS : RowIn loS tpS w aS S) (tS : tpS ≤ w.heap.size) (sS : S.length ≤ 1048576) (hx : RowIn lox tpx w ax x) (tx : tpx ≤ w.heap.size) (sx : x.length ≤ 1048576) :
    Calls Try.prog 26 #[.agg #[.int .i64 pS, .slice aS S.length cS], .slice ax x.length cx, .int .i64 k] w (ImplR (mPowV pS S x k) (mPowC pS S x k) w) := by
  have HS := Lib.hid hS
  have Hx := Lib.hid hx
  clear hS hx
  rcases codeMv_cases pS S [x] with ⟨hi, hc⟩ | ⟨hi, ha, hc⟩ | ⟨hi, ha, hc⟩
  · have HI := Lib.hid hi
    have HC := Lib.hid hc
    have hne : ¬ codeMv pS S [x] = 0 := by rw [hc]; decide
    have HV : Hid (mPowV pS S x k = [] ∧ mPowC pS S x k = codeMv pS S [x]) := by
      have e : mPowC pS S x k = codeMv pS S [x] := if_neg hne
      exact ⟨if_neg (by rw [e]; exact hne), e⟩
    clear hi hc hne
    go_enter Try.func26, Try.ntmps26
    go_wp2_with (first | (go_at_call 85; (with_reducible refine (checkM1 pS aS S cS loS tpS ax x cx lox tpx (w.heap.size + 1) _ _ _ (by simp) (HS.out.below ((Below.refl _ _).alloc (Nat.le_refl _) (.cells #[.int .i64 pS, .slice aS S.length cS] 26)) tS) (Nat.le_trans tS (((Below.refl _ _).alloc (Nat.le_refl _) (.cells #[.int .i64 pS, .slice aS S.length cS] 26))).size) sS (Hx.out.below ((Below.refl _ _).alloc (Nat.le_refl _) (.cells #[.int .i64 pS, .slice aS S.length cS] 26)) tx) (Nat.le_trans tx (((Below.refl _ _).alloc (Nat.le_refl _) (.cells #[.int .i64 pS, .slice aS S.length cS] 26))).size) sx).mono ?_); rintro e w3 ⟨rfl, b3⟩; rw [HC.out]; have B3 := Lib.hid b3; have K3_0_0 := (b3.cell (p := ⟨w.heap.size, 0, none⟩) (Nat.lt_of_lt_of_le (show w.heap.size < (w.alloc (.cells #[.int .i64 pS, .slice aS S.length cS] 26)).heap.size by simp) (Nat.le_trans (Nat.le_refl _) (size_alloc (w.alloc (.cells #[.int .i64 pS, .slice aS S.length cS] 26)) (.cells #[.slice ax x.length cx] 24))))).trans (show ((w.alloc (.cells #[.int .i64 pS, .slice aS S.length cS] 26)).alloc (.cells #[.slice ax x.length cx] 24)).cell? ⟨w.heap.size, 0, none⟩ = some (.int .i64 pS) from (World.cell?_alloc_old _ _ _ (by simp)).trans (by simp [go_sem])); have K3_0_1 := (b3.cell (p := ⟨w.heap.size, 1, none⟩) (Nat.lt_of_lt_of_le (show w.heap.size < (w.alloc (.cells #[.int .i64 pS, .slice aS S.length cS] 26)).heap.size by simp) (Nat.le_trans (Nat.le_refl _) (size_alloc (w.alloc (.cells #[.int .i64 pS, .slice aS S.length cS] 26)) (.cells #[.slice ax x.length cx] 24))))).trans (show ((w.alloc (.cells #[.int .i64 pS, .slice aS S.length cS] 26)).alloc (.cells #[.slice ax x.length cx] 24)).cell? ⟨w.heap.size, 1, none⟩ = some (.slice aS S.length cS) from (World.cell?_alloc_old _ _ _ (by simp)).trans (by simp [go_sem])); clear b3))
    go_ret2
    rw [HV.out.1, HV.out.2, HC.out]
    exact ⟨none, 0, rfl, .inl rfl, (below_step (((Below.refl _ _).alloc (Nat.le_refl _) (.cells #[.int .i64 pS, .slice aS S.length cS] 26)).alloc (show w.heap.size ≤ (w.alloc (.cells #[.int .i64 pS, .slice aS S.length cS] 26)).heap.size from (((Below.refl _ _).alloc (Nat.le_refl _) (.cells #[.int .i64 pS, .slice aS S.length cS] 26))).size) (.cells #[.slice ax x.length cx] 24)) (show w.heap.size ≤ ((w.alloc (.cells #[.int .i64 pS, .slice aS S.length cS] 26)).alloc (.cells #[.slice ax x.length cx] 24)).heap.size from ((((Below.refl _ _).alloc (Nat.le_refl _) (.cells #[.int .i64 pS, .slice aS S.length cS] 26)).alloc (show w.heap.size ≤ (w.alloc (.cells #[.int .i64 pS, .slice aS S.length cS] 26)).heap.size from (((Below.refl _ _).alloc (Nat.le_refl _) (.cells #[.int .i64 pS, .slice aS S.length cS] 26))).size) (.cells #[.slice ax x.length cx] 24))).size) B3.out)⟩
  · have HI := Lib.hid hi
    have HC := Lib.hid hc
    rw [mv_all1] at ha
    have HX := Lib.hid ha
    have hpb := prm_bd (isSp_iff.1 hi).prime
    have h6 := (isSp_iff.1 hi).hi
    have h64 := bl_le h6
    have HLX := Lib.hid (Mv.len ha)
    have hlx : x.length ≤ 64 := by rw [HLX.out]; exact h64
    have hx0 : 0 < x.length := by rw [HLX.out]; exact bl_pos S
    by_cases hk : 0 ≤ k ∧ k ≤ 100
    · have HV : Hid (mPowV pS S x k = mPow pS S x k.toNat ∧ mPowC pS S x k = 0) := by
        have e : mPowC pS S x k = 0 := by unfold mPowC; rw [if_pos hc, if_pos hk]
        exact ⟨by unfold mPowV; rw [if_pos e], e⟩
      obtain ⟨k0, k1⟩ := hk
      obtain ⟨K, hK⟩ : ∃ K : Nat, k = (K : Int) := ⟨k.toNat, by omega⟩
      subst hK
      rw [Int.toNat_natCast] at HV
      have hK1 : K ≤ 100 := by omega
      clear hi hc ha
      go_enter Try.func26, Try.ntmps26
      go_wp2_with (first | (go_at_call 85; (with_reducible refine (checkM1 pS aS S cS loS tpS ax x cx lox tpx (w.heap.size + 1) _ _ _ (by simp) (HS.out.below ((Below.refl _ _).alloc (Nat.le_refl _) (.cells #[.int .i64 pS, .slice aS S.length cS] 26)) tS) (Nat.le_trans tS (((Below.refl _ _).alloc (Nat.le_refl _) (.cells #[.int .i64 pS, .slice aS S.length cS] 26))).size) sS (Hx.out.below ((Below.refl _ _).alloc (Nat.le_refl _) (.cells #[.int .i64 pS, .slice aS S.length cS] 26)) tx) (Nat.le_trans tx (((Below.refl _ _).alloc (Nat.le_refl _) (.cells #[.int .i64 pS, .slice aS S.length cS] 26))).size) sx).mono ?_); rintro e w3 ⟨rfl, b3⟩; rw [HC.out]; have B3 := Lib.hid b3; have K3_0_0 := (b3.cell (p := ⟨w.heap.size, 0, none⟩) (Nat.lt_of_lt_of_le (show w.heap.size < (w.alloc (.cells #[.int .i64 pS, .slice aS S.length cS] 26)).heap.size by simp) (Nat.le_trans (Nat.le_refl _) (size_alloc (w.alloc (.cells #[.int .i64 pS, .slice aS S.length cS] 26)) (.cells #[.slice ax x.length cx] 24))))).trans (show ((w.alloc (.cells #[.int .i64 pS, .slice aS S.length cS] 26)).alloc (.cells #[.slice ax x.length cx] 24)).cell? ⟨w.heap.size, 0, none⟩ = some (.int .i64 pS) from (World.cell?_alloc_old _ _ _ (by simp)).trans (by simp [go_sem])); have K3_0_1 := (b3.cell (p := ⟨w.heap.size, 1, none⟩) (Nat.lt_of_lt_of_le (show w.heap.size < (w.alloc (.cells #[.int .i64 pS, .slice aS S.length cS] 26)).heap.size by simp) (Nat.le_trans (Nat.le_refl _) (size_alloc (w.alloc (.cells #[.int .i64 pS, .slice aS S.length cS] 26)) (.cells #[.slice ax x.length cx] 24))))).trans (show ((w.alloc (.cells #[.int .i64 pS, .slice aS S.length cS] 26)).alloc (.cells #[.slice ax x.length cx] 24)).cell? ⟨w.heap.size, 1, none⟩ = some (.slice aS S.length cS) from (World.cell?_alloc_old _ _ _ (by simp)).trans (by simp [go_sem])); clear b3) | (go_at_call 88; (with_reducible refine (blade0_any pS aS S cS _ h6).mono ?_); rintro e w4 ⟨r9, c9, rfl, o9, b4⟩; have B4 := Lib.hid b4; have K4_0_0 := (b4.cell (p := ⟨w.heap.size, 0, none⟩) (Nat.lt_of_lt_of_le (show w.heap.size < (w.alloc (.cells #[.int .i64 pS, .slice aS S.length cS] 26)).heap.size by simp) (Nat.le_trans (Nat.le_trans (Nat.le_refl _) (size_alloc (w.alloc (.cells #[.int .i64 pS, .slice aS S.length cS] 26)) (.cells #[.slice ax x.length cx] 24))) B3.out.size))).trans K3_0_0; clear K3_0_0; have K4_0_1 := (b4.cell (p := ⟨w.heap.size, 1, none⟩) (Nat.lt_of_lt_of_le (show w.heap.size < (w.alloc (.cells #[.int .i64 pS, .slice aS S.length cS] 26)).heap.size by simp) (Nat.le_trans (Nat.le_trans (Nat.le_refl _) (size_alloc (w.alloc (.cells #[.int .i64 pS, .slice aS S.length cS] 26)) (.cells #[.slice ax x.length cx] 24))) B3.out.size))).trans K3_0_1; clear K3_0_1; have O9 := Lib.hid o9; clear o9; clear b4))
      have HBW : Hid (Below w.heap.size w w4) := (below_step (below_step (((Below.refl _ _).alloc (Nat.le_refl _) (.cells #[.int .i64 pS, .slice aS S.length cS] 26)).alloc (show w.heap.size ≤ (w.alloc (.cells #[.int .i64 pS, .slice aS S.length cS] 26)).heap.size from (((Below.refl _ _).alloc (Nat.le_refl _) (.cells #[.int .i64 pS, .slice aS S.length cS] 26))).size) (.cells #[.slice ax x.length cx] 24)) (show w.heap.size ≤ ((w.alloc (.cells #[.int .i64 pS, .slice aS S.length cS] 26)).alloc (.cells #[.slice ax x.length cx] 24)).heap.size from ((((Below.refl _ _).alloc (Nat.le_refl _) (.cells #[.int .i64 pS, .slice aS S.length cS] 26)).alloc (show w.heap.size ≤ (w.alloc (.cells #[.int .i64 pS, .slice aS S.length cS] 26)).heap.size from (((Below.refl _ _).alloc (Nat.le_refl _) (.cells #[.int .i64 pS, .slice aS S.length cS] 26))).size) (.cells #[.slice ax x.length cx] 24))).size) B3.out) (show w.heap.size ≤ w3.heap.size from ((below_step (((Below.refl _ _).alloc (Nat.le_refl _) (.cells #[.int .i64 pS, .slice aS S.length cS] 26)).alloc (show w.heap.size ≤ (w.alloc (.cells #[.int .i64 pS, .slice aS S.length cS] 26)).heap.size from (((Below.refl _ _).alloc (Nat.le_refl _) (.cells #[.int .i64 pS, .slice aS S.length cS] 26))).size) (.cells #[.slice ax x.length cx] 24)) (show w.heap.size ≤ ((w.alloc (.cells #[.int .i64 pS, .slice aS S.length cS] 26)).alloc (.cells #[.slice ax x.length cx] 24)).heap.size from ((((Below.refl _ _).alloc (Nat.le_refl _) (.cells #[.int .i64 pS, .slice aS S.length cS] 26)).alloc (show w.heap.size ≤ (w.alloc (.cells #[.int .i64 pS, .slice aS S.length cS] 26)).heap.size from (((Below.refl _ _).alloc (Nat.le_refl _) (.cells #[.int .i64 pS, .slice aS S.length cS] 26))).size) (.cells #[.slice ax x.length cx] 24))).size) B3.out)).size) B4.out)
      have hwz := HBW.out.size
      have hz9 : w.heap.size ≤ w3.heap.size := (show w.heap.size ≤ w3.heap.size from ((below_step (((Below.refl _ _).alloc (Nat.le_refl _) (.cells #[.int .i64 pS, .slice aS S.length cS] 26)).alloc (show w.heap.size ≤ (w.alloc (.cells #[.int .i64 pS, .slice aS S.length cS] 26)).heap.size from (((Below.refl _ _).alloc (Nat.le_refl _) (.cells #[.int .i64 pS, .slice aS S.length cS] 26))).size) (.cells #[.slice ax x.length cx] 24)) (show w.heap.size ≤ ((w.alloc (.cells #[.int .i64 pS, .slice aS S.length cS] 26)).alloc (.cells #[.slice ax x.length cx] 24)).heap.size from ((((Below.refl _ _).alloc (Nat.le_refl _) (.cells #[.int .i64 pS, .slice aS S.length cS] 26)).alloc (show w.heap.size ≤ (w.alloc (.cells #[.int .i64 pS, .slice aS S.length cS] 26)).heap.size from (((Below.refl _ _).alloc (Nat.le_refl _) (.cells #[.int .i64 pS, .slice aS S.length cS] 26))).size) (.cells #[.slice ax x.length cx] 24))).size) B3.out)).size)
      have K0 : Hid (w4.cell? ⟨w.heap.size, 0, none⟩ = some (.int .i64 pS)) := K4_0_0
      have K1 : Hid (w4.cell? ⟨w.heap.size, 1, none⟩ = some (.slice aS S.length cS)) := K4_0_1
      have H9 : Hid (OwnR w.heap.size w4.heap.size w4 r9 (mPow pS S x 0)) := OwnR.mono' O9.out hz9 (Nat.le_refl _)
      have e9 : (Value.slice r9 (mOne S).length c9) = .slice r9 (mPow pS S x 0).length c9 := rfl
      rw [e9]
      clear e9
      go_loopw [9, 26] (fun u9 t wr => ∃ (i : Nat) (r9 : Option Addr) (c9 : Nat), i ≤ K ∧ t = .int .i64 i ∧ u9 = .slice r9 (mPow pS S x i).length c9 ∧ OwnR w.heap.size wr.heap.size wr r9 (mPow pS S x i) ∧ wr.cell? ⟨w.heap.size, 0, none⟩ = some (.int .i64 pS) ∧ wr.cell? ⟨w.heap.size, 1, none⟩ = some (.slice aS S.length cS) ∧ Below w.heap.size w wr ∧ w.heap.size < wr.heap.size) (fun _ t _ => K - (intOf t).toNat)
      case atStart => exact ⟨0, r9, c9, Nat.zero_le _, rfl, rfl, H9.out, K0.out, K1.out, HBW.out, (Nat.lt_of_lt_of_le (show w.heap.size < (w.alloc (.cells #[.int .i64 pS, .slice aS S.length cS] 26)).heap.size by simp) (Nat.le_trans (Nat.le_trans (Nat.le_trans (Nat.le_refl _) (size_alloc (w.alloc (.cells #[.int .i64 pS, .slice aS S.length cS] 26)) (.cells #[.slice ax x.length cx] 24))) B3.out.size) B4.out.size))⟩
      case round =>
        obtain ⟨i, r9, c9, hiK, rfl, rfl, h9, hk0, hk1, hbel, hlt⟩ := hrel
        have HA9 := Lib.hid h9
        have HK0 := Lib.hid hk0
        have HK1 := Lib.hid hk1
        have HBR := Lib.hid hbel
        have hwr := hbel.size
        clear h9 hbel
        by_cases h0 : i < K
        · have h01 : (i : Int) < (K : Int) := by omega
          go_wp2_with (first | (go_at_call 82; (with_reducible refine (product_own pS aS S cS loS tpS r9 (mPow pS S x i) c9 w.heap.size wr.heap.size ax x cx lox tpx wr HI.out (HS.out.below HBR.out tS) (Nat.le_trans tS hwr) HA9.out.row (Nat.le_refl _) (mpow_mv HI.out i) (Hx.out.below HBR.out tx) (Nat.le_trans tx hwr) HX.out).mono ?_); rintro e w5 ⟨r5, c5, rfl, o5, b5⟩; have O5 := Lib.hid o5; have B5 := Lib.hid b5; have z5 := b5.size; have hk05 := (b5.cell (p := ⟨w.heap.size, 0, none⟩) hlt).trans HK0.out; have hk15 := (b5.cell (p := ⟨w.heap.size, 1, none⟩) hlt).trans HK1.out; clear o5 b5))
          go_roundw
          case rel => exact ⟨i + 1, r5, c5, by omega, by go_num, rfl, OwnR.mono' O5.out hwr (Nat.le_refl _), hk05, hk15, HBR.out.trans (B5.out.mono hwr), by omega⟩
          case measure => simp [intOf]; omega
        · have hik : i = K := by omega
          subst hik
          go_wp2
          go_ret2
          rw [HV.out.1, HV.out.2]
          exact ⟨r9, c9, rfl, HA9.out, HBR.out⟩
    · by_cases hk0 : k < 0
      · have HV : Hid (mPowV pS S x k = [] ∧ mPowC pS S x k = 2) := by
            have e : mPowC pS S x k = 2 := by unfold mPowC; rw [if_pos hc, if_neg hk]
            exact ⟨by unfold mPowV; rw [if_neg (by rw [e]; decide)], e⟩
        clear hk
        clear hi hc ha
        go_enter Try.func26, Try.ntmps26
        go_wp2_with (first | (go_at_call 85; (with_reducible refine (checkM1 pS aS S cS loS tpS ax x cx lox tpx (w.heap.size + 1) _ _ _ (by simp) (HS.out.below ((Below.refl _ _).alloc (Nat.le_refl _) (.cells #[.int .i64 pS, .slice aS S.length cS] 26)) tS) (Nat.le_trans tS (((Below.refl _ _).alloc (Nat.le_refl _) (.cells #[.int .i64 pS, .slice aS S.length cS] 26))).size) sS (Hx.out.below ((Below.refl _ _).alloc (Nat.le_refl _) (.cells #[.int .i64 pS, .slice aS S.length cS] 26)) tx) (Nat.le_trans tx (((Below.refl _ _).alloc (Nat.le_refl _) (.cells #[.int .i64 pS, .slice aS S.length cS] 26))).size) sx).mono ?_); rintro e w3 ⟨rfl, b3⟩; rw [HC.out]; have B3 := Lib.hid b3; have K3_0_0 := (b3.cell (p := ⟨w.heap.size, 0, none⟩) (Nat.lt_of_lt_of_le (show w.heap.size < (w.alloc (.cells #[.int .i64 pS, .slice aS S.length cS] 26)).heap.size by simp) (Nat.le_trans (Nat.le_refl _) (size_alloc (w.alloc (.cells #[.int .i64 pS, .slice aS S.length cS] 26)) (.cells #[.slice ax x.length cx] 24))))).trans (show ((w.alloc (.cells #[.int .i64 pS, .slice aS S.length cS] 26)).alloc (.cells #[.slice ax x.length cx] 24)).cell? ⟨w.heap.size, 0, none⟩ = some (.int .i64 pS) from (World.cell?_alloc_old _ _ _ (by simp)).trans (by simp [go_sem])); have K3_0_1 := (b3.cell (p := ⟨w.heap.size, 1, none⟩) (Nat.lt_of_lt_of_le (show w.heap.size < (w.alloc (.cells #[.int .i64 pS, .slice aS S.length cS] 26)).heap.size by simp) (Nat.le_trans (Nat.le_refl _) (size_alloc (w.alloc (.cells #[.int .i64 pS, .slice aS S.length cS] 26)) (.cells #[.slice ax x.length cx] 24))))).trans (show ((w.alloc (.cells #[.int .i64 pS, .slice aS S.length cS] 26)).alloc (.cells #[.slice ax x.length cx] 24)).cell? ⟨w.heap.size, 1, none⟩ = some (.slice aS S.length cS) from (World.cell?_alloc_old _ _ _ (by simp)).trans (by simp [go_sem])); clear b3))
        go_ret2
        rw [HV.out.1, HV.out.2]
        exact ⟨none, 0, rfl, .inl rfl, (below_step (((Below.refl _ _).alloc (Nat.le_refl _) (.cells #[.int .i64 pS, .slice aS S.length cS] 26)).alloc (show w.heap.size ≤ (w.alloc (.cells #[.int .i64 pS, .slice aS S.length cS] 26)).heap.size from (((Below.refl _ _).alloc (Nat.le_refl _) (.cells #[.int .i64 pS, .slice aS S.length cS] 26))).size) (.cells #[.slice ax x.length cx] 24)) (show w.heap.size ≤ ((w.alloc (.cells #[.int .i64 pS, .slice aS S.length cS] 26)).alloc (.cells #[.slice ax x.length cx] 24)).heap.size from ((((Below.refl _ _).alloc (Nat.le_refl _) (.cells #[.int .i64 pS, .slice aS S.length cS] 26)).alloc (show w.heap.size ≤ (w.alloc (.cells #[.int .i64 pS, .slice aS S.length cS] 26)).heap.size from (((Below.refl _ _).alloc (Nat.le_refl _) (.cells #[.int .i64 pS, .slice aS S.length cS] 26))).size) (.cells #[.slice ax x.length cx] 24))).size) B3.out)⟩
      · have HV : Hid (mPowV pS S x k = [] ∧ mPowC pS S x k = 2) := by
            have e : mPowC pS S x k = 2 := by unfold mPowC; rw [if_pos hc, if_neg hk]
            exact ⟨by unfold mPowV; rw [if_neg (by rw [e]; decide)], e⟩
        have hk1 : 100 < k := by omega
        clear hk
        clear hi hc ha
        go_enter Try.func26, Try.ntmps26
        go_wp2_with (first | (go_at_call 85; (with_reducible refine (checkM1 pS aS S cS loS tpS ax x cx lox tpx (w.heap.size + 1) _ _ _ (by simp) (HS.out.below ((Below.refl _ _).alloc (Nat.le_refl _) (.cells #[.int .i64 pS, .slice aS S.length cS] 26)) tS) (Nat.le_trans tS (((Below.refl _ _).alloc (Nat.le_refl _) (.cells #[.int .i64 pS, .slice aS S.length cS] 26))).size) sS (Hx.out.below ((Below.refl _ _).alloc (Nat.le_refl _) (.cells #[.int .i64 pS, .slice aS S.length cS] 26)) tx) (Nat.le_trans tx (((Below.refl _ _).alloc (Nat.le_refl _) (.cells #[.int .i64 pS, .slice aS S.length cS] 26))).size) sx).mono ?_); rintro e w3 ⟨rfl, b3⟩; rw [HC.out]; have B3 := Lib.hid b3; have K3_0_0 := (b3.cell (p := ⟨w.heap.size, 0, none⟩) (Nat.lt_of_lt_of_le (show w.heap.size < (w.alloc (.cells #[.int .i64 pS, .slice aS S.length cS] 26)).heap.size by simp) (Nat.le_trans (Nat.le_refl _) (size_alloc (w.alloc (.cells #[.int .i64 pS, .slice aS S.length cS] 26)) (.cells #[.slice ax x.length cx] 24))))).trans (show ((w.alloc (.cells #[.int .i64 pS, .slice aS S.length cS] 26)).alloc (.cells #[.slice ax x.length cx] 24)).cell? ⟨w.heap.size, 0, none⟩ = some (.int .i64 pS) from (World.cell?_alloc_old _ _ _ (by simp)).trans (by simp [go_sem])); have K3_0_1 := (b3.cell (p := ⟨w.heap.size, 1, none⟩) (Nat.lt_of_lt_of_le (show w.heap.size < (w.alloc (.cells #[.int .i64 pS, .slice aS S.length cS] 26)).heap.size by simp) (Nat.le_trans (Nat.le_refl _) (size_alloc (w.alloc (.cells #[.int .i64 pS, .slice aS S.length cS] 26)) (.cells #[.slice ax x.length cx] 24))))).trans (show ((w.alloc (.cells #[.int .i64 pS, .slice aS S.length cS] 26)).alloc (.cells #[.slice ax x.length cx] 24)).cell? ⟨w.heap.size, 1, none⟩ = some (.slice aS S.length cS) from (World.cell?_alloc_old _ _ _ (by simp)).trans (by simp [go_sem])); clear b3))
        go_ret2
        rw [HV.out.1, HV.out.2]
        exact ⟨none, 0, rfl, .inl rfl, (below_step (((Below.refl _ _).alloc (Nat.le_refl _) (.cells #[.int .i64 pS, .slice aS S.length cS] 26)).alloc (show w.heap.size ≤ (w.alloc (.cells #[.int .i64 pS, .slice aS S.length cS] 26)).heap.size from (((Below.refl _ _).alloc (Nat.le_refl _) (.cells #[.int .i64 pS, .slice aS S.length cS] 26))).size) (.cells #[.slice ax x.length cx] 24)) (show w.heap.size ≤ ((w.alloc (.cells #[.int .i64 pS, .slice aS S.length cS] 26)).alloc (.cells #[.slice ax x.length cx] 24)).heap.size from ((((Below.refl _ _).alloc (Nat.le_refl _) (.cells #[.int .i64 pS, .slice aS S.length cS] 26)).alloc (show w.heap.size ≤ (w.alloc (.cells #[.int .i64 pS, .slice aS S.length cS] 26)).heap.size from (((Below.refl _ _).alloc (Nat.le_refl _) (.cells #[.int .i64 pS, .slice aS S.length cS] 26))).size) (.cells #[.slice ax x.length cx] 24))).size) B3.out)⟩
  · have HI := Lib.hid hi
    have HC := Lib.hid hc
    have hne : ¬ codeMv pS S [x] = 0 := by rw [hc]; decide
    have HV : Hid (mPowV pS S x k = [] ∧ mPowC pS S x k = codeMv pS S [x]) := by
      have e : mPowC pS S x k = codeMv pS S [x] := if_neg hne
      exact ⟨if_neg (by rw [e]; exact hne), e⟩
    clear hi hc hne ha
    go_enter Try.func26, Try.ntmps26
    go_wp2_with (first | (go_at_call 85; (with_reducible refine (checkM1 pS aS S cS loS tpS ax x cx lox tpx (w.heap.size + 1) _ _ _ (by simp) (HS.out.below ((Below.refl _ _).alloc (Nat.le_refl _) (.cells #[.int .i64 pS, .slice aS S.length cS] 26)) tS) (Nat.le_trans tS (((Below.refl _ _).alloc (Nat.le_refl _) (.cells #[.int .i64 pS, .slice aS S.length cS] 26))).size) sS (Hx.out.below ((Below.refl _ _).alloc (Nat.le_refl _) (.cells #[.int .i64 pS, .slice aS S.length cS] 26)) tx) (Nat.le_trans tx (((Below.refl _ _).alloc (Nat.le_refl _) (.cells #[.int .i64 pS, .slice aS S.length cS] 26))).size) sx).mono ?_); rintro e w3 ⟨rfl, b3⟩; rw [HC.out]; have B3 := Lib.hid b3; have K3_0_0 := (b3.cell (p := ⟨w.heap.size, 0, none⟩) (Nat.lt_of_lt_of_le (show w.heap.size < (w.alloc (.cells #[.int .i64 pS, .slice aS S.length cS] 26)).heap.size by simp) (Nat.le_trans (Nat.le_refl _) (size_alloc (w.alloc (.cells #[.int .i64 pS, .slice aS S.length cS] 26)) (.cells #[.slice ax x.length cx] 24))))).trans (show ((w.alloc (.cells #[.int .i64 pS, .slice aS S.length cS] 26)).alloc (.cells #[.slice ax x.length cx] 24)).cell? ⟨w.heap.size, 0, none⟩ = some (.int .i64 pS) from (World.cell?_alloc_old _ _ _ (by simp)).trans (by simp [go_sem])); have K3_0_1 := (b3.cell (p := ⟨w.heap.size, 1, none⟩) (Nat.lt_of_lt_of_le (show w.heap.size < (w.alloc (.cells #[.int .i64 pS, .slice aS S.length cS] 26)).heap.size by simp) (Nat.le_trans (Nat.le_refl _) (size_alloc (w.alloc (.cells #[.int .i64 pS, .slice aS S.length cS] 26)) (.cells #[.slice ax x.length cx] 24))))).trans (show ((w.alloc (.cells #[.int .i64 pS, .slice aS S.length cS] 26)).alloc (.cells #[.slice ax x.length cx] 24)).cell? ⟨w.heap.size, 1, none⟩ = some (.slice aS S.length cS) from (World.cell?_alloc_old _ _ _ (by simp)).trans (by simp [go_sem])); clear b3))
    go_ret2
    rw [HV.out.1, HV.out.2, HC.out]
    exact ⟨none, 0, rfl, .inl rfl, (below_step (((Below.refl _ _).alloc (Nat.le_refl _) (.cells #[.int .i64 pS, .slice aS S.length cS] 26)).alloc (show w.heap.size ≤ (w.alloc (.cells #[.int .i64 pS, .slice aS S.length cS] 26)).heap.size from (((Below.refl _ _).alloc (Nat.le_refl _) (.cells #[.int .i64 pS, .slice aS S.length cS] 26))).size) (.cells #[.slice ax x.length cx] 24)) (show w.heap.size ≤ ((w.alloc (.cells #[.int .i64 pS, .slice aS S.length cS] 26)).alloc (.cells #[.slice ax x.length cx] 24)).heap.size from ((((Below.refl _ _).alloc (Nat.le_refl _) (.cells #[.int .i64 pS, .slice aS S.length cS] 26)).alloc (show w.heap.size ≤ (w.alloc (.cells #[.int .i64 pS, .slice aS S.length cS] 26)).heap.size from (((Below.refl _ _).alloc (Nat.le_refl _) (.cells #[.int .i64 pS, .slice aS S.length cS] 26))).size) (.cells #[.slice ax x.length cx] 24))).size) B3.out)⟩

end Go.Proofs.Ytcamegdjdjacpaa

namespace Go.Proofs.Ytcamegdjdjacpaa
open Go.RowKit
set_option linter.unusedVariables false

set_option maxHeartbeats 1600000 in
theorem listN_any (p : Int) (n : Nat) (b : Nat) (a : Option Addr) (len cap : Nat) (zs : List Int) (w : World) (hs : Src w b a len cap zs) (hn : n ≤ 1048576) (hp : 1 ≤ p) :
    Calls Try.prog 203 #[.pointer (some ⟨b, 0, none⟩), .int .i64 p, .int .i64 n] w (DrawnO (fun X => X.length = n ∧ ∀ j, j < X.length → 0 ≤ X.getD j 0 ∧ X.getD j 0 < p) b a len cap zs w) := by
  obtain ⟨i0, hi, hz0, hz1, hz2⟩ := info_parts info64
  have hlt := hs.lt
  have HS := Lib.hid hs
  clear hs
  go_enter Try.func203, Try.ntmps203
  go_wp2
  go_loopw [7, 2] (fun v t wr => ∃ (X : List Int), X.length ≤ n ∧ (∀ j, j < X.length → 0 ≤ X.getD j 0 ∧ X.getD j 0 < p) ∧ t = .int .i64 ((n : Int) - X.length) ∧ OutR w.heap.size wr v X ∧ Src wr b a len cap zs ∧ Only b w wr) (fun _ t _ => (intOf t).toNat)
  case atStart => exact ⟨[], Nat.zero_le _, fun j hj => by simp at hj, by simp, OutR.start w _ _ (Nat.le_refl _) rfl, HS.out.alloc _, (Only.refl b w).alloc _⟩
  case round =>
    obtain ⟨X, hX, hXn, rfl, ho, hsr, hon⟩ := hrel
    have HXN := Lib.hid hXn
    clear hXn
    have HO := Lib.hid ho
    have HSR := Lib.hid hsr
    have HON := Lib.hid hon
    have hwz := hon.size
    clear ho hsr hon
    by_cases hlx : X.length < n
    · have hp0 : (0 : Int) < (n : Int) - X.length := by omega
      obtain ⟨j, hj⟩ : ∃ j, j = X.length := ⟨_, rfl⟩
      obtain ⟨Y, hY⟩ : ∃ Y, Y = X.map (Value.int .i64) := ⟨_, rfl⟩
      have HJ := Lib.hid hj
      have HY := Lib.hid hY
      rw [← hj] at hp0 hlx ⊢
      clear hj hY
      go_wp2_with (first | (go_at_call 167; (with_reducible refine (next_any p b a len cap zs _ HSR.out).mono ?_); rintro e w3 ⟨x, rfl, hx, ho3, hs3⟩; have HXX := Lib.hid (hx hp); have hz3 := ho3.size; have H3 : Hid (w3.ownsRow w.heap.size 2 1 u7 j Y) := (by have h := HO.out.only ho3 hlt; unfold OutR at h; rw [← HY.out, ← HJ.out] at h; exact h); have HS3 := Lib.hid hs3; have HO3 := Lib.hid (HON.out.trans ho3); clear ho3 hs3 hx) | (at_builtin; refine wpList_append_lies _ rfl _ _ 24 rfl w.heap.size 2 i0 (.int .i64 0) 1 8 Try.underlying24 hi hz0 hz1 hz2 rfl (by decide) u7 j Y rfl (H3.out.alloc _) ⟨w3.heap.size, 0, none⟩ 1 1 [.int .i64 x] rfl rfl (World.news_of_block (cs := #[.int .i64 x]) (t := 2) (fr := (0, 0)) (heap_alloc_new w3 _)) (by simp [Value.oneCell']) (by omega) (by unfold maxLen; omega) (by omega) (by simp; omega) (w3.heap.size + 1) (by simp) ?_; intro gg cap w1 hown1 hgrow hat hlt1))
      go_roundw
      case rel => exact ⟨X ++ [x], by rw [List.length_append, ← HJ.out]; exact hlx, nums_push HXN.out HXX.out, by rw [List.length_append, ← HJ.out]; go_num, OutR.push (by rw [← HY.out, ← HJ.out]; exact hown1), (HS3.out.alloc _).grown hgrow (fun k e => by have := (H3.out.lt _ e).1; omega), (HO3.out.alloc _).grown hgrow (fun k e => (H3.out.lt _ e).1)⟩
      case measure => simp [intOf]; omega
    · have hp0 : ¬ (0 : Int) < (n : Int) - X.length := by omega
      go_wp2
      go_ret
      exact ⟨_, X, rfl, ⟨by omega, HXN.out⟩, HO.out, HON.out, HSR.out⟩

/-- A multivector that has been drawn: its own memory, full or growing on. -/
def DrawnM (n : Nat) (b : Nat) (a : Option Addr) (len cap : Nat) (zs : List Int) (w : World) (e : Ending) (w' : World) : Prop :=
  ∃ r c X, e = .returned (.slice r X.length c) ∧ X.length = n ∧ OwnR w.heap.size w'.heap.size w' r X ∧ (c = X.length ∨ OutR w.heap.size w' (.slice r X.length c) X) ∧ Only b w w' ∧ Src w' b a len cap zs
theorem lone_any (p : Int) (a : Option Addr) (S : List Int) (c : Nat) (w : World) (h : S.length ≤ 6) :
    Calls Try.prog 220 #[.agg #[.int .i64 p, .slice a S.length c]] w (NewRow (bl S) oneF w) := by
  have hb0 := bl_pos S
  go_enter Try.func220, Try.ntmps220
  go_wp2_with (go_at_call 208; (with_reducible refine (l04Zero_any p a S c _ h).mono ?_); rintro e w1 ⟨b1, rfl, hl1, hu1, ho1, hb1⟩; have HO1 := Lib.hid ho1; have HB1 := Lib.hid (below_step (below_alloc w _) (by simp) hb1); have hz1 := hb1.size; have c0 := ho1.cell 0 hb0; have f0 := ho1.free 0 hb0; rw [Nat.zero_add] at c0 f0; clear hb1 ho1)
  have hwb : w.heap.size ≤ b1 := by simp at hl1; omega
  go_ret
  exact ⟨b1, rfl, hwb, by simp [World.setCell]; exact hu1, row_put0 (g := oneF) (v := 1) HO1.out hb0 (fun j _ => by unfold oneF; rfl), HB1.out.trans ((wrote_put0 (Wrote.refl b1 0 (bl S) w1) hb0 _).belowB hwb)⟩
theorem vecN {p : Int} (hp : 0 < p) {n : Nat} {v : List Int} (hn : ∀ j, j < v.length → 0 ≤ v.getD j 0 ∧ v.getD j 0 < p) : ∀ j, j < (mkR n (vecF v v.length)).length → 0 ≤ (mkR n (vecF v v.length)).getD j 0 ∧ (mkR n (vecF v v.length)).getD j 0 < p := fun j hj => by
  rw [mkR_len] at hj
  rw [mkR_at _ hj]
  have key : ∀ k, k ≤ v.length → 0 ≤ vecF v k j ∧ vecF v k j < p := fun k => by
    induction k with
    | zero => intro _; show 0 ≤ (0 : Int) ∧ (0 : Int) < p; omega
    | succ k ih =>
      intro h
      show 0 ≤ (if j = 2 ^ k then v.getD k 0 else vecF v k j) ∧ (if j = 2 ^ k then v.getD k 0 else vecF v k j) < p
      split
      · exact hn k (by omega)
      · exact ih (by omega)
  exact key v.length (Nat.le_refl _)
end Go.Proofs.Ytcamegdjdjacpaa
