/-
  PowerOf: contracts of the program and of the model.
  Conditions: the lists are nil or rows of known cells, of at most 1048576 numbers.
-/
import Derived.Test.YtdamdlihicinlaaGpC
namespace Go.Proofs.Ytdamdlihicinlaa
open Go.RowKit
set_option linter.unusedVariables false

def mOne (S : List Int) : List Int := mkR (bl S) oneF
def mPow (p : Int) (S x : List Int) : Nat → List Int
  | 0 => mOne S
  | k + 1 => prodM p S (mPow p S x k) x
theorem isMv_of {p : Int} {S z : List Int} (hl : z.length = bl S) (hn : ∀ j, j < z.length → 0 ≤ z.getD j 0 ∧ z.getD j 0 < p) : isMv p S z = true := by
  unfold isMv isVec
  rw [hl, Bool.and_eq_true]
  refine ⟨by simp, ?_⟩
  rw [List.all_eq_true]
  intro y hy
  obtain ⟨j, hj, rfl⟩ := List.getElem_of_mem hy
  have h := hn j hj
  rw [getD_at hj] at h
  exact inr_iff.2 h
theorem one_mv {p : Int} {S : List Int} (hs : isSp p S = true) : isMv p S (mOne S) = true :=
  isMv_of (mkR_len _ _) (fun j hj => by
    have hp := prm_bd (isSp_iff.1 hs).prime
    unfold mOne at hj ⊢
    rw [mkR_len] at hj
    rw [mkR_at _ hj]
    unfold oneF
    split <;> omega)
theorem mpow_mv {p : Int} {S x : List Int} (hs : isSp p S = true) : ∀ k, isMv p S (mPow p S x k) = true
  | 0 => one_mv hs
  | k + 1 => prod_mv hs _ _
theorem mpow_len {p : Int} {S x : List Int} (hs : isSp p S = true) (k : Nat) : (mPow p S x k).length = bl S := Mv.len (mpow_mv hs k)
theorem mpow_one {p : Int} {S x : List Int} (hx : isMv p S x = true) : mPow p S x 1 = x := prodM_one_l p S x (Mv.len hx) (Mv.num hx)
theorem mpow_add {p : Int} {S x : List Int} (hs : isSp p S = true) (m : Nat) : ∀ n, prodM p S (mPow p S x m) (mPow p S x n) = mPow p S x (m + n)
  | 0 => prodM_one_r p S _ (mpow_len hs m) (Mv.num (mpow_mv hs m))
  | n + 1 => by
    show prodM p S (mPow p S x m) (prodM p S (mPow p S x n) x) = prodM p S (mPow p S x (m + n)) x
    rw [← mpow_add hs m n, prodM_assoc]
def mPowC (p : Int) (S x : List Int) (k : Int) : Int := if codeMv p S [x] = 0 then (if 0 ≤ k ∧ k ≤ 100 then 0 else 2) else codeMv p S [x]
def mPowV (p : Int) (S x : List Int) (k : Int) : List Int := if mPowC p S x k = 0 then mPow p S x k.toNat else []
theorem mPowV_size (p : Int) (S x : List Int) (k : Int) : (mPowV p S x k).length ≤ 1048576 := by
  unfold mPowV; split
  · rename_i h
    have h0 : codeMv p S [x] = 0 := by
      unfold mPowC at h; split at h
      · assumption
      · exact h
    have h1 := codeMv_zero.1 h0
    have := bl_le (isSp_iff.1 h1.1).hi; rw [mpow_len h1.1]; omega
  · simp
set_option maxHeartbeats 800000 in
theorem l04One_any (p : Int) (a : Option Addr) (S : List Int) (c : Nat) (w : World) (h : S.length ≤ 6) :
    Calls Try.prog 89 #[.agg #[.int .i64 p, .slice a S.length c]] w (OwnE (mOne S) w) := by
  have hb0 := bl_pos S
  go_enter Try.func89, Try.ntmps89
  go_wp2_with (go_at_call 140; (with_reducible refine (l04Zero_any p a S c _ h).mono ?_); rintro e w1 ⟨b1, rfl, hl1, hu1, ho1, hb1⟩; have HO1 := Lib.hid ho1; have HB1 := Lib.hid (below_step (below_alloc w _) (by simp) hb1); have hz1 := hb1.size; have c0 := ho1.cell 0 hb0; have f0 := ho1.free 0 hb0; rw [Nat.zero_add] at c0 f0; clear hb1 ho1)
  have hwb : w.heap.size ≤ b1 := by simp at hl1; omega
  go_ret
  exact ⟨_, bl S, by unfold mOne; rw [mkR_len]; rfl, (row_put0 (g := oneF) (v := 1) HO1.out hb0 (fun j _ => by unfold oneF; rfl)).own hwb (by simp [World.setCell]; exact hu1), HB1.out.trans ((wrote_put0 (Wrote.refl b1 0 (bl S) w1) hb0 _).belowB hwb)⟩
theorem blade0_any (p : Int) (a : Option Addr) (S : List Int) (c : Nat) (w : World) (h : S.length ≤ 6) :
    Calls Try.prog 91 #[.agg #[.int .i64 p, .slice a S.length c], .int .i64 0] w (OwnE (mOne S) w) :=
  (blade_any p a S c 0 w h (bl_pos S)).mono fun _ _ h => h.ownE

set_option maxRecDepth 100000 in
set_option maxHeartbeats 3200000 in
theorem spec_PowerOf (pS : Int) (aS : Option Addr) (S : List Int) (cS loS tpS : Nat) (ax : Option Addr) (x : List Int) (cx lox tpx : Nat) (k : Int) (w : World) (hS : RowIn loS tpS w aS S) (tS : tpS ≤ w.heap.size) (sS : S.length ≤ 1048576) (hx : RowIn lox tpx w ax x) (tx : tpx ≤ w.heap.size) (sx : x.length ≤ 1048576) :
    Calls Try.prog 31 #[.agg #[.int .i64 pS, .slice aS S.length cS], .slice ax x.length cx, .int .i64 k] w (SpecR (mPowV pS S x k) (mPowC pS S x k) w) := by
  have HS := Lib.hid hS
  have Hx := Lib.hid hx
  clear hS hx
  rcases codeMv_cases pS S [x] with ⟨hi, hc⟩ | ⟨hi, ha, hc⟩ | ⟨hi, ha, hc⟩
  · have HI := Lib.hid hi
    have HC := Lib.hid hc
    have hne : ¬ codeMv pS S [x] = 0 := by rw [hc]; decide
    have HV : Hid (mPowV pS S x k = [] ∧ mPowC pS S x k = codeMv pS S [x]) := by
      have e : mPowC pS S x k = codeMv pS S [x] := if_neg hne
      exact ⟨if_neg (by rw [e]; exact hne), e⟩
    clear hi hc hne
    go_enter Try.func31, Try.ntmps31
    go_wp2_with (first | (go_at_call 75; (with_reducible refine (codeM1 pS aS S cS loS tpS ax x cx lox tpx (w.heap.size + 1) _ _ _ (by simp) (HS.out.below ((Below.refl _ _).alloc (Nat.le_refl _) (.cells #[.int .i64 pS, .slice aS S.length cS] 28)) tS) (Nat.le_trans tS (((Below.refl _ _).alloc (Nat.le_refl _) (.cells #[.int .i64 pS, .slice aS S.length cS] 28))).size) sS (Hx.out.below ((Below.refl _ _).alloc (Nat.le_refl _) (.cells #[.int .i64 pS, .slice aS S.length cS] 28)) tx) (Nat.le_trans tx (((Below.refl _ _).alloc (Nat.le_refl _) (.cells #[.int .i64 pS, .slice aS S.length cS] 28))).size) sx).mono ?_); rintro e w3 ⟨rfl, b3⟩; rw [HC.out]; have B3 := Lib.hid b3; have K3_0_0 := (b3.cell (p := ⟨w.heap.size, 0, none⟩) (Nat.lt_of_lt_of_le (show w.heap.size < (w.alloc (.cells #[.int .i64 pS, .slice aS S.length cS] 28)).heap.size by simp) (Nat.le_trans (Nat.le_refl _) (size_alloc (w.alloc (.cells #[.int .i64 pS, .slice aS S.length cS] 28)) (.cells #[.slice ax x.length cx] 22))))).trans (show ((w.alloc (.cells #[.int .i64 pS, .slice aS S.length cS] 28)).alloc (.cells #[.slice ax x.length cx] 22)).cell? ⟨w.heap.size, 0, none⟩ = some (.int .i64 pS) from (World.cell?_alloc_old _ _ _ (by simp)).trans (by simp [go_sem])); have K3_0_1 := (b3.cell (p := ⟨w.heap.size, 1, none⟩) (Nat.lt_of_lt_of_le (show w.heap.size < (w.alloc (.cells #[.int .i64 pS, .slice aS S.length cS] 28)).heap.size by simp) (Nat.le_trans (Nat.le_refl _) (size_alloc (w.alloc (.cells #[.int .i64 pS, .slice aS S.length cS] 28)) (.cells #[.slice ax x.length cx] 22))))).trans (show ((w.alloc (.cells #[.int .i64 pS, .slice aS S.length cS] 28)).alloc (.cells #[.slice ax x.length cx] 22)).cell? ⟨w.heap.size, 1, none⟩ = some (.slice aS S.length cS) from (World.cell?_alloc_old _ _ _ (by simp)).trans (by simp [go_sem])); clear b3))
    go_ret2
    rw [HV.out.1, HV.out.2, HC.out]
    exact ⟨none, 0, rfl, .inl rfl, (below_step (((Below.refl _ _).alloc (Nat.le_refl _) (.cells #[.int .i64 pS, .slice aS S.length cS] 28)).alloc (show w.heap.size ≤ (w.alloc (.cells #[.int .i64 pS, .slice aS S.length cS] 28)).heap.size from (((Below.refl _ _).alloc (Nat.le_refl _) (.cells #[.int .i64 pS, .slice aS S.length cS] 28))).size) (.cells #[.slice ax x.length cx] 22)) (show w.heap.size ≤ ((w.alloc (.cells #[.int .i64 pS, .slice aS S.length cS] 28)).alloc (.cells #[.slice ax x.length cx] 22)).heap.size from ((((Below.refl _ _).alloc (Nat.le_refl _) (.cells #[.int .i64 pS, .slice aS S.length cS] 28)).alloc (show w.heap.size ≤ (w.alloc (.cells #[.int .i64 pS, .slice aS S.length cS] 28)).heap.size from (((Below.refl _ _).alloc (Nat.le_refl _) (.cells #[.int .i64 pS, .slice aS S.length cS] 28))).size) (.cells #[.slice ax x.length cx] 22))).size) B3.out)⟩
  · have HI := Lib.hid hi
    have HC := Lib.hid hc
    rw [mv_all1] at ha
    have HX := Lib.hid ha
    have hpb := prm_bd (isSp_iff.1 hi).prime
    have h6 := (isSp_iff.1 hi).hi
    have h64 := bl_le h6
    have HLX := Lib.hid (Mv.len ha)
    have hlx : x.length ≤ 64 := by rw [HLX.out]; exact h64
    have hx0 : 0 < x.length := by rw [HLX.out]; exact bl_pos S
    by_cases hk : 0 ≤ k ∧ k ≤ 100
    · have HV : Hid (mPowV pS S x k = mPow pS S x k.toNat ∧ mPowC pS S x k = 0) := by
        have e : mPowC pS S x k = 0 := by unfold mPowC; rw [if_pos hc, if_pos hk]
        exact ⟨by unfold mPowV; rw [if_pos e], e⟩
      obtain ⟨k0, k1⟩ := hk
      obtain ⟨K, hK⟩ : ∃ K : Nat, k = (K : Int) := ⟨k.toNat, by omega⟩
      subst hK
      rw [Int.toNat_natCast] at HV
      have hK1 : K ≤ 100 := by omega
      clear hi hc ha
      go_enter Try.func31, Try.ntmps31
      go_wp2_with (first | (go_at_call 75; (with_reducible refine (codeM1 pS aS S cS loS tpS ax x cx lox tpx (w.heap.size + 1) _ _ _ (by simp) (HS.out.below ((Below.refl _ _).alloc (Nat.le_refl _) (.cells #[.int .i64 pS, .slice aS S.length cS] 28)) tS) (Nat.le_trans tS (((Below.refl _ _).alloc (Nat.le_refl _) (.cells #[.int .i64 pS, .slice aS S.length cS] 28))).size) sS (Hx.out.below ((Below.refl _ _).alloc (Nat.le_refl _) (.cells #[.int .i64 pS, .slice aS S.length cS] 28)) tx) (Nat.le_trans tx (((Below.refl _ _).alloc (Nat.le_refl _) (.cells #[.int .i64 pS, .slice aS S.length cS] 28))).size) sx).mono ?_); rintro e w3 ⟨rfl, b3⟩; rw [HC.out]; have B3 := Lib.hid b3; have K3_0_0 := (b3.cell (p := ⟨w.heap.size, 0, none⟩) (Nat.lt_of_lt_of_le (show w.heap.size < (w.alloc (.cells #[.int .i64 pS, .slice aS S.length cS] 28)).heap.size by simp) (Nat.le_trans (Nat.le_refl _) (size_alloc (w.alloc (.cells #[.int .i64 pS, .slice aS S.length cS] 28)) (.cells #[.slice ax x.length cx] 22))))).trans (show ((w.alloc (.cells #[.int .i64 pS, .slice aS S.length cS] 28)).alloc (.cells #[.slice ax x.length cx] 22)).cell? ⟨w.heap.size, 0, none⟩ = some (.int .i64 pS) from (World.cell?_alloc_old _ _ _ (by simp)).trans (by simp [go_sem])); have K3_0_1 := (b3.cell (p := ⟨w.heap.size, 1, none⟩) (Nat.lt_of_lt_of_le (show w.heap.size < (w.alloc (.cells #[.int .i64 pS, .slice aS S.length cS] 28)).heap.size by simp) (Nat.le_trans (Nat.le_refl _) (size_alloc (w.alloc (.cells #[.int .i64 pS, .slice aS S.length cS] 28)) (.cells #[.slice ax x.length cx] 22))))).trans (show ((w.alloc (.cells #[.int .i64 pS, .slice aS S.length cS] 28)).alloc (.cells #[.slice ax x.length cx] 22)).cell? ⟨w.heap.size, 1, none⟩ = some (.slice aS S.length cS) from (World.cell?_alloc_old _ _ _ (by simp)).trans (by simp [go_sem])); clear b3) | (go_at_call 88; refine (l01In_yes _ _ _ _ (by omega) (by omega)).mono ?_; rintro e w' ⟨rfl, rfl⟩) | (go_at_call 89; (with_reducible refine (l04One_any pS aS S cS _ h6).mono ?_); rintro e w4 ⟨r9, c9, rfl, o9, b4⟩; have B4 := Lib.hid b4; have K4_0_0 := (b4.cell (p := ⟨w.heap.size, 0, none⟩) (Nat.lt_of_lt_of_le (show w.heap.size < (w.alloc (.cells #[.int .i64 pS, .slice aS S.length cS] 28)).heap.size by simp) (Nat.le_trans (Nat.le_trans (Nat.le_refl _) (size_alloc (w.alloc (.cells #[.int .i64 pS, .slice aS S.length cS] 28)) (.cells #[.slice ax x.length cx] 22))) B3.out.size))).trans K3_0_0; clear K3_0_0; have K4_0_1 := (b4.cell (p := ⟨w.heap.size, 1, none⟩) (Nat.lt_of_lt_of_le (show w.heap.size < (w.alloc (.cells #[.int .i64 pS, .slice aS S.length cS] 28)).heap.size by simp) (Nat.le_trans (Nat.le_trans (Nat.le_refl _) (size_alloc (w.alloc (.cells #[.int .i64 pS, .slice aS S.length cS] 28)) (.cells #[.slice ax x.length cx] 22))) B3.out.size))).trans K3_0_1; clear K3_0_1; have O9 := Lib.hid o9; clear o9; clear b4) | (go_at_call 90; (with_reducible refine (l01Own_any ax x cx lox tpx _ (Hx.out.below (below_step (below_step (((Below.refl _ _).alloc (Nat.le_refl _) (.cells #[.int .i64 pS, .slice aS S.length cS] 28)).alloc (show w.heap.size ≤ (w.alloc (.cells #[.int .i64 pS, .slice aS S.length cS] 28)).heap.size from (((Below.refl _ _).alloc (Nat.le_refl _) (.cells #[.int .i64 pS, .slice aS S.length cS] 28))).size) (.cells #[.slice ax x.length cx] 22)) (show w.heap.size ≤ ((w.alloc (.cells #[.int .i64 pS, .slice aS S.length cS] 28)).alloc (.cells #[.slice ax x.length cx] 22)).heap.size from ((((Below.refl _ _).alloc (Nat.le_refl _) (.cells #[.int .i64 pS, .slice aS S.length cS] 28)).alloc (show w.heap.size ≤ (w.alloc (.cells #[.int .i64 pS, .slice aS S.length cS] 28)).heap.size from (((Below.refl _ _).alloc (Nat.le_refl _) (.cells #[.int .i64 pS, .slice aS S.length cS] 28))).size) (.cells #[.slice ax x.length cx] 22))).size) B3.out) (show w.heap.size ≤ w3.heap.size from ((below_step (((Below.refl _ _).alloc (Nat.le_refl _) (.cells #[.int .i64 pS, .slice aS S.length cS] 28)).alloc (show w.heap.size ≤ (w.alloc (.cells #[.int .i64 pS, .slice aS S.length cS] 28)).heap.size from (((Below.refl _ _).alloc (Nat.le_refl _) (.cells #[.int .i64 pS, .slice aS S.length cS] 28))).size) (.cells #[.slice ax x.length cx] 22)) (show w.heap.size ≤ ((w.alloc (.cells #[.int .i64 pS, .slice aS S.length cS] 28)).alloc (.cells #[.slice ax x.length cx] 22)).heap.size from ((((Below.refl _ _).alloc (Nat.le_refl _) (.cells #[.int .i64 pS, .slice aS S.length cS] 28)).alloc (show w.heap.size ≤ (w.alloc (.cells #[.int .i64 pS, .slice aS S.length cS] 28)).heap.size from (((Below.refl _ _).alloc (Nat.le_refl _) (.cells #[.int .i64 pS, .slice aS S.length cS] 28))).size) (.cells #[.slice ax x.length cx] 22))).size) B3.out)).size) B4.out) tx) (Nat.le_trans tx ((below_step (below_step (((Below.refl _ _).alloc (Nat.le_refl _) (.cells #[.int .i64 pS, .slice aS S.length cS] 28)).alloc (show w.heap.size ≤ (w.alloc (.cells #[.int .i64 pS, .slice aS S.length cS] 28)).heap.size from (((Below.refl _ _).alloc (Nat.le_refl _) (.cells #[.int .i64 pS, .slice aS S.length cS] 28))).size) (.cells #[.slice ax x.length cx] 22)) (show w.heap.size ≤ ((w.alloc (.cells #[.int .i64 pS, .slice aS S.length cS] 28)).alloc (.cells #[.slice ax x.length cx] 22)).heap.size from ((((Below.refl _ _).alloc (Nat.le_refl _) (.cells #[.int .i64 pS, .slice aS S.length cS] 28)).alloc (show w.heap.size ≤ (w.alloc (.cells #[.int .i64 pS, .slice aS S.length cS] 28)).heap.size from (((Below.refl _ _).alloc (Nat.le_refl _) (.cells #[.int .i64 pS, .slice aS S.length cS] 28))).size) (.cells #[.slice ax x.length cx] 22))).size) B3.out) (show w.heap.size ≤ w3.heap.size from ((below_step (((Below.refl _ _).alloc (Nat.le_refl _) (.cells #[.int .i64 pS, .slice aS S.length cS] 28)).alloc (show w.heap.size ≤ (w.alloc (.cells #[.int .i64 pS, .slice aS S.length cS] 28)).heap.size from (((Below.refl _ _).alloc (Nat.le_refl _) (.cells #[.int .i64 pS, .slice aS S.length cS] 28))).size) (.cells #[.slice ax x.length cx] 22)) (show w.heap.size ≤ ((w.alloc (.cells #[.int .i64 pS, .slice aS S.length cS] 28)).alloc (.cells #[.slice ax x.length cx] 22)).heap.size from ((((Below.refl _ _).alloc (Nat.le_refl _) (.cells #[.int .i64 pS, .slice aS S.length cS] 28)).alloc (show w.heap.size ≤ (w.alloc (.cells #[.int .i64 pS, .slice aS S.length cS] 28)).heap.size from (((Below.refl _ _).alloc (Nat.le_refl _) (.cells #[.int .i64 pS, .slice aS S.length cS] 28))).size) (.cells #[.slice ax x.length cx] 22))).size) B3.out)).size) B4.out)).size) hx0 (by omega)).mono ?_); rintro e w5 ⟨r10, c10, rfl, o10, b5⟩; have B5 := Lib.hid b5; have K5_0_0 := (b5.cell (p := ⟨w.heap.size, 0, none⟩) (Nat.lt_of_lt_of_le (show w.heap.size < (w.alloc (.cells #[.int .i64 pS, .slice aS S.length cS] 28)).heap.size by simp) (Nat.le_trans (Nat.le_trans (Nat.le_trans (Nat.le_refl _) (size_alloc (w.alloc (.cells #[.int .i64 pS, .slice aS S.length cS] 28)) (.cells #[.slice ax x.length cx] 22))) B3.out.size) B4.out.size))).trans K4_0_0; clear K4_0_0; have K5_0_1 := (b5.cell (p := ⟨w.heap.size, 1, none⟩) (Nat.lt_of_lt_of_le (show w.heap.size < (w.alloc (.cells #[.int .i64 pS, .slice aS S.length cS] 28)).heap.size by simp) (Nat.le_trans (Nat.le_trans (Nat.le_trans (Nat.le_refl _) (size_alloc (w.alloc (.cells #[.int .i64 pS, .slice aS S.length cS] 28)) (.cells #[.slice ax x.length cx] 22))) B3.out.size) B4.out.size))).trans K4_0_1; clear K4_0_1; have O10 := Lib.hid o10; clear o10; clear b5))
      have HBW : Hid (Below w.heap.size w w5) := (below_step (below_step (below_step (((Below.refl _ _).alloc (Nat.le_refl _) (.cells #[.int .i64 pS, .slice aS S.length cS] 28)).alloc (show w.heap.size ≤ (w.alloc (.cells #[.int .i64 pS, .slice aS S.length cS] 28)).heap.size from (((Below.refl _ _).alloc (Nat.le_refl _) (.cells #[.int .i64 pS, .slice aS S.length cS] 28))).size) (.cells #[.slice ax x.length cx] 22)) (show w.heap.size ≤ ((w.alloc (.cells #[.int .i64 pS, .slice aS S.length cS] 28)).alloc (.cells #[.slice ax x.length cx] 22)).heap.size from ((((Below.refl _ _).alloc (Nat.le_refl _) (.cells #[.int .i64 pS, .slice aS S.length cS] 28)).alloc (show w.heap.size ≤ (w.alloc (.cells #[.int .i64 pS, .slice aS S.length cS] 28)).heap.size from (((Below.refl _ _).alloc (Nat.le_refl _) (.cells #[.int .i64 pS, .slice aS S.length cS] 28))).size) (.cells #[.slice ax x.length cx] 22))).size) B3.out) (show w.heap.size ≤ w3.heap.size from ((below_step (((Below.refl _ _).alloc (Nat.le_refl _) (.cells #[.int .i64 pS, .slice aS S.length cS] 28)).alloc (show w.heap.size ≤ (w.alloc (.cells #[.int .i64 pS, .slice aS S.length cS] 28)).heap.size from (((Below.refl _ _).alloc (Nat.le_refl _) (.cells #[.int .i64 pS, .slice aS S.length cS] 28))).size) (.cells #[.slice ax x.length cx] 22)) (show w.heap.size ≤ ((w.alloc (.cells #[.int .i64 pS, .slice aS S.length cS] 28)).alloc (.cells #[.slice ax x.length cx] 22)).heap.size from ((((Below.refl _ _).alloc (Nat.le_refl _) (.cells #[.int .i64 pS, .slice aS S.length cS] 28)).alloc (show w.heap.size ≤ (w.alloc (.cells #[.int .i64 pS, .slice aS S.length cS] 28)).heap.size from (((Below.refl _ _).alloc (Nat.le_refl _) (.cells #[.int .i64 pS, .slice aS S.length cS] 28))).size) (.cells #[.slice ax x.length cx] 22))).size) B3.out)).size) B4.out) (show w.heap.size ≤ w4.heap.size from ((below_step (below_step (((Below.refl _ _).alloc (Nat.le_refl _) (.cells #[.int .i64 pS, .slice aS S.length cS] 28)).alloc (show w.heap.size ≤ (w.alloc (.cells #[.int .i64 pS, .slice aS S.length cS] 28)).heap.size from (((Below.refl _ _).alloc (Nat.le_refl _) (.cells #[.int .i64 pS, .slice aS S.length cS] 28))).size) (.cells #[.slice ax x.length cx] 22)) (show w.heap.size ≤ ((w.alloc (.cells #[.int .i64 pS, .slice aS S.length cS] 28)).alloc (.cells #[.slice ax x.length cx] 22)).heap.size from ((((Below.refl _ _).alloc (Nat.le_refl _) (.cells #[.int .i64 pS, .slice aS S.length cS] 28)).alloc (show w.heap.size ≤ (w.alloc (.cells #[.int .i64 pS, .slice aS S.length cS] 28)).heap.size from (((Below.refl _ _).alloc (Nat.le_refl _) (.cells #[.int .i64 pS, .slice aS S.length cS] 28))).size) (.cells #[.slice ax x.length cx] 22))).size) B3.out) (show w.heap.size ≤ w3.heap.size from ((below_step (((Below.refl _ _).alloc (Nat.le_refl _) (.cells #[.int .i64 pS, .slice aS S.length cS] 28)).alloc (show w.heap.size ≤ (w.alloc (.cells #[.int .i64 pS, .slice aS S.length cS] 28)).heap.size from (((Below.refl _ _).alloc (Nat.le_refl _) (.cells #[.int .i64 pS, .slice aS S.length cS] 28))).size) (.cells #[.slice ax x.length cx] 22)) (show w.heap.size ≤ ((w.alloc (.cells #[.int .i64 pS, .slice aS S.length cS] 28)).alloc (.cells #[.slice ax x.length cx] 22)).heap.size from ((((Below.refl _ _).alloc (Nat.le_refl _) (.cells #[.int .i64 pS, .slice aS S.length cS] 28)).alloc (show w.heap.size ≤ (w.alloc (.cells #[.int .i64 pS, .slice aS S.length cS] 28)).heap.size from (((Below.refl _ _).alloc (Nat.le_refl _) (.cells #[.int .i64 pS, .slice aS S.length cS] 28))).size) (.cells #[.slice ax x.length cx] 22))).size) B3.out)).size) B4.out)).size) B5.out)
      have hwz := HBW.out.size
      have hz9 : w.heap.size ≤ w3.heap.size := (show w.heap.size ≤ w3.heap.size from ((below_step (((Below.refl _ _).alloc (Nat.le_refl _) (.cells #[.int .i64 pS, .slice aS S.length cS] 28)).alloc (show w.heap.size ≤ (w.alloc (.cells #[.int .i64 pS, .slice aS S.length cS] 28)).heap.size from (((Below.refl _ _).alloc (Nat.le_refl _) (.cells #[.int .i64 pS, .slice aS S.length cS] 28))).size) (.cells #[.slice ax x.length cx] 22)) (show w.heap.size ≤ ((w.alloc (.cells #[.int .i64 pS, .slice aS S.length cS] 28)).alloc (.cells #[.slice ax x.length cx] 22)).heap.size from ((((Below.refl _ _).alloc (Nat.le_refl _) (.cells #[.int .i64 pS, .slice aS S.length cS] 28)).alloc (show w.heap.size ≤ (w.alloc (.cells #[.int .i64 pS, .slice aS S.length cS] 28)).heap.size from (((Below.refl _ _).alloc (Nat.le_refl _) (.cells #[.int .i64 pS, .slice aS S.length cS] 28))).size) (.cells #[.slice ax x.length cx] 22))).size) B3.out)).size)
      have hz9b : w.heap.size ≤ w4.heap.size := (show w.heap.size ≤ w4.heap.size from ((below_step (below_step (((Below.refl _ _).alloc (Nat.le_refl _) (.cells #[.int .i64 pS, .slice aS S.length cS] 28)).alloc (show w.heap.size ≤ (w.alloc (.cells #[.int .i64 pS, .slice aS S.length cS] 28)).heap.size from (((Below.refl _ _).alloc (Nat.le_refl _) (.cells #[.int .i64 pS, .slice aS S.length cS] 28))).size) (.cells #[.slice ax x.length cx] 22)) (show w.heap.size ≤ ((w.alloc (.cells #[.int .i64 pS, .slice aS S.length cS] 28)).alloc (.cells #[.slice ax x.length cx] 22)).heap.size from ((((Below.refl _ _).alloc (Nat.le_refl _) (.cells #[.int .i64 pS, .slice aS S.length cS] 28)).alloc (show w.heap.size ≤ (w.alloc (.cells #[.int .i64 pS, .slice aS S.length cS] 28)).heap.size from (((Below.refl _ _).alloc (Nat.le_refl _) (.cells #[.int .i64 pS, .slice aS S.length cS] 28))).size) (.cells #[.slice ax x.length cx] 22))).size) B3.out) (show w.heap.size ≤ w3.heap.size from ((below_step (((Below.refl _ _).alloc (Nat.le_refl _) (.cells #[.int .i64 pS, .slice aS S.length cS] 28)).alloc (show w.heap.size ≤ (w.alloc (.cells #[.int .i64 pS, .slice aS S.length cS] 28)).heap.size from (((Below.refl _ _).alloc (Nat.le_refl _) (.cells #[.int .i64 pS, .slice aS S.length cS] 28))).size) (.cells #[.slice ax x.length cx] 22)) (show w.heap.size ≤ ((w.alloc (.cells #[.int .i64 pS, .slice aS S.length cS] 28)).alloc (.cells #[.slice ax x.length cx] 22)).heap.size from ((((Below.refl _ _).alloc (Nat.le_refl _) (.cells #[.int .i64 pS, .slice aS S.length cS] 28)).alloc (show w.heap.size ≤ (w.alloc (.cells #[.int .i64 pS, .slice aS S.length cS] 28)).heap.size from (((Below.refl _ _).alloc (Nat.le_refl _) (.cells #[.int .i64 pS, .slice aS S.length cS] 28))).size) (.cells #[.slice ax x.length cx] 22))).size) B3.out)).size) B4.out)).size)
      have K0 : Hid (w5.cell? ⟨w.heap.size, 0, none⟩ = some (.int .i64 pS)) := K5_0_0
      have K1 : Hid (w5.cell? ⟨w.heap.size, 1, none⟩ = some (.slice aS S.length cS)) := K5_0_1
      have H9 : Hid (RowIn w.heap.size w5.heap.size w5 r9 (mPow pS S x 0)) := (O9.out.row.below B5.out (Nat.le_refl _)).mono hz9 B5.out.size
      have H10 : Hid (RowIn w.heap.size w5.heap.size w5 r10 (mPow pS S x 1)) := by
        show RowIn _ _ _ _ _; rw [mpow_one HX.out]; exact O10.out.row.mono hz9b (Nat.le_refl _)
      have e9 : (Value.slice r9 (mOne S).length c9) = .slice r9 (mPow pS S x 0).length c9 := rfl
      have e10 : (Value.slice r10 x.length c10) = .slice r10 (mPow pS S x 1).length c10 := by rw [mpow_one HX.out]
      rw [e9, e10]
      clear e9 e10
      go_loopw [2, 9, 10] (fun uk u9 u10 wr => ∃ (a b kk : Nat) (r9 r10 : Option Addr) (c9 c10 : Nat), a + b * kk = K ∧ kk ≤ 100 ∧ uk = .int .i64 kk ∧ u9 = .slice r9 (mPow pS S x a).length c9 ∧ u10 = .slice r10 (mPow pS S x b).length c10 ∧ RowIn w.heap.size wr.heap.size wr r9 (mPow pS S x a) ∧ RowIn w.heap.size wr.heap.size wr r10 (mPow pS S x b) ∧ wr.cell? ⟨w.heap.size, 0, none⟩ = some (.int .i64 pS) ∧ wr.cell? ⟨w.heap.size, 1, none⟩ = some (.slice aS S.length cS) ∧ Below w.heap.size w wr ∧ w.heap.size < wr.heap.size) (fun uk _ _ _ => (intOf uk).toNat)
      case atStart => exact ⟨0, 1, K, r9, r10, c9, c10, by omega, hK1, rfl, rfl, rfl, H9.out, H10.out, K0.out, K1.out, HBW.out, (Nat.lt_of_lt_of_le (show w.heap.size < (w.alloc (.cells #[.int .i64 pS, .slice aS S.length cS] 28)).heap.size by simp) (Nat.le_trans (Nat.le_trans (Nat.le_trans (Nat.le_trans (Nat.le_refl _) (size_alloc (w.alloc (.cells #[.int .i64 pS, .slice aS S.length cS] 28)) (.cells #[.slice ax x.length cx] 22))) B3.out.size) B4.out.size) B5.out.size))⟩
      case round =>
        obtain ⟨a, b, kk, r9, r10, c9, c10, hab, hk100, rfl, rfl, rfl, h9, h10, hk0, hk1, hbel, hlt⟩ := hrel
        have HA9 := Lib.hid h9
        have HA10 := Lib.hid h10
        have HK0 := Lib.hid hk0
        have HK1 := Lib.hid hk1
        have HBR := Lib.hid hbel
        have HAB := Lib.hid hab
        have hwr := hbel.size
        clear h9 h10 hab hbel
        by_cases h0 : 0 < kk
        · have h01 : (0 : Int) < (kk : Int) := by omega
          by_cases hodd : kk % 2 = 1
          · have e1 : ((kk : Int) % 2 == 1) = true := by simp; omega
            go_wp2_with (first | (go_at_call 83; (with_reducible refine (times_own pS aS S cS loS tpS r9 (mPow pS S x a) c9 w.heap.size wr.heap.size r10 (mPow pS S x b) c10 w.heap.size wr.heap.size wr HI.out (HS.out.below HBR.out tS) (Nat.le_trans tS hwr) HA9.out (Nat.le_refl _) (mpow_mv HI.out a) HA10.out (Nat.le_refl _) (mpow_mv HI.out b)).mono ?_); rintro e w5 ⟨r5, c5, rfl, o5, b5⟩; have O5 := Lib.hid o5; have B5 := Lib.hid b5; have z5 := b5.size; have hk05 := (b5.cell (p := ⟨w.heap.size, 0, none⟩) hlt).trans HK0.out; have hk15 := (b5.cell (p := ⟨w.heap.size, 1, none⟩) hlt).trans HK1.out; clear o5 b5) | (go_at_call 83; (with_reducible refine (times_own pS aS S cS loS tpS r10 (mPow pS S x b) c10 w.heap.size wr.heap.size r10 (mPow pS S x b) c10 w.heap.size wr.heap.size w5 HI.out (HS.out.below (HBR.out.trans (B5.out.mono hwr)) tS) (Nat.le_trans tS (Nat.le_trans hwr z5)) (HA10.out.below B5.out (Nat.le_refl _)) z5 (mpow_mv HI.out b) (HA10.out.below B5.out (Nat.le_refl _)) z5 (mpow_mv HI.out b)).mono ?_); rintro e w6 ⟨r6, c6, rfl, o6, b6⟩; have O6 := Lib.hid o6; have B6 := Lib.hid b6; have z6 := b6.size; have hk06 := (b6.cell (p := ⟨w.heap.size, 0, none⟩) (Nat.lt_of_lt_of_le hlt z5)).trans hk05; have hk16 := (b6.cell (p := ⟨w.heap.size, 1, none⟩) (Nat.lt_of_lt_of_le hlt z5)).trans hk15; clear o6 b6))
            go_roundw
            case rel => exact ⟨a + b, b + b, kk / 2, r5, r6, c5, c6, by
                have h := HAB.out
                have h2 : kk = 2 * (kk / 2) + 1 := by omega
                rw [h2, Nat.mul_add, Nat.mul_one, ← Nat.mul_assoc] at h
                rw [← Nat.mul_two]; omega, by omega, by go_num, by rw [← mpow_add HI.out], by rw [← mpow_add HI.out], by rw [← mpow_add HI.out]; exact (O5.out.row.below B6.out (Nat.le_refl _)).mono hwr z6, by rw [← mpow_add HI.out]; exact O6.out.row.mono (Nat.le_trans hwr z5) (Nat.le_refl _), hk06, hk16, (HBR.out.trans (B5.out.mono hwr)).trans (B6.out.mono (Nat.le_trans hwr z5)), by omega⟩
            case measure => simp [intOf]; omega
          · have e1 : ((kk : Int) % 2 == 1) = false := by simp; omega
            go_wp2_with (first | (go_at_call 83; (with_reducible refine (times_own pS aS S cS loS tpS r10 (mPow pS S x b) c10 w.heap.size wr.heap.size r10 (mPow pS S x b) c10 w.heap.size wr.heap.size wr HI.out (HS.out.below HBR.out tS) (Nat.le_trans tS hwr) HA10.out (Nat.le_refl _) (mpow_mv HI.out b) HA10.out (Nat.le_refl _) (mpow_mv HI.out b)).mono ?_); rintro e w5 ⟨r5, c5, rfl, o5, b5⟩; have O5 := Lib.hid o5; have B5 := Lib.hid b5; have z5 := b5.size; have hk05 := (b5.cell (p := ⟨w.heap.size, 0, none⟩) hlt).trans HK0.out; have hk15 := (b5.cell (p := ⟨w.heap.size, 1, none⟩) hlt).trans HK1.out; clear o5 b5))
            go_roundw
            case rel => exact ⟨a, b + b, kk / 2, r9, r5, c9, c5, by
                have h := HAB.out
                have h2 : kk = 2 * (kk / 2) := by omega
                rw [h2, ← Nat.mul_assoc] at h
                rw [← Nat.mul_two]; omega, by omega, by go_num, rfl, by rw [← mpow_add HI.out], (HA9.out.below B5.out (Nat.le_refl _)).mono (Nat.le_refl _) z5, by rw [← mpow_add HI.out]; exact O5.out.row.mono hwr (Nat.le_refl _), hk05, hk15, HBR.out.trans (B5.out.mono hwr), by omega⟩
            case measure => simp [intOf]; omega
        · have hkk : kk = 0 := by omega
          subst hkk
          have hak : a = K := by have := HAB.out; omega
          subst hak
          go_wp2
          go_ret2
          rw [HV.out.1, HV.out.2]
          exact ⟨r9, c9, rfl, HA9.out, HBR.out⟩
    · have HV : Hid (mPowV pS S x k = [] ∧ mPowC pS S x k = 2) := by
            have e : mPowC pS S x k = 2 := by unfold mPowC; rw [if_pos hc, if_neg hk]
            exact ⟨by unfold mPowV; rw [if_neg (by rw [e]; decide)], e⟩
      have HN : Hid (¬ (0 ≤ k ∧ k ≤ 100)) := hk
      clear hk
      clear hi hc ha
      go_enter Try.func31, Try.ntmps31
      go_wp2_with (first | (go_at_call 75; (with_reducible refine (codeM1 pS aS S cS loS tpS ax x cx lox tpx (w.heap.size + 1) _ _ _ (by simp) (HS.out.below ((Below.refl _ _).alloc (Nat.le_refl _) (.cells #[.int .i64 pS, .slice aS S.length cS] 28)) tS) (Nat.le_trans tS (((Below.refl _ _).alloc (Nat.le_refl _) (.cells #[.int .i64 pS, .slice aS S.length cS] 28))).size) sS (Hx.out.below ((Below.refl _ _).alloc (Nat.le_refl _) (.cells #[.int .i64 pS, .slice aS S.length cS] 28)) tx) (Nat.le_trans tx (((Below.refl _ _).alloc (Nat.le_refl _) (.cells #[.int .i64 pS, .slice aS S.length cS] 28))).size) sx).mono ?_); rintro e w3 ⟨rfl, b3⟩; rw [HC.out]; have B3 := Lib.hid b3; have K3_0_0 := (b3.cell (p := ⟨w.heap.size, 0, none⟩) (Nat.lt_of_lt_of_le (show w.heap.size < (w.alloc (.cells #[.int .i64 pS, .slice aS S.length cS] 28)).heap.size by simp) (Nat.le_trans (Nat.le_refl _) (size_alloc (w.alloc (.cells #[.int .i64 pS, .slice aS S.length cS] 28)) (.cells #[.slice ax x.length cx] 22))))).trans (show ((w.alloc (.cells #[.int .i64 pS, .slice aS S.length cS] 28)).alloc (.cells #[.slice ax x.length cx] 22)).cell? ⟨w.heap.size, 0, none⟩ = some (.int .i64 pS) from (World.cell?_alloc_old _ _ _ (by simp)).trans (by simp [go_sem])); have K3_0_1 := (b3.cell (p := ⟨w.heap.size, 1, none⟩) (Nat.lt_of_lt_of_le (show w.heap.size < (w.alloc (.cells #[.int .i64 pS, .slice aS S.length cS] 28)).heap.size by simp) (Nat.le_trans (Nat.le_refl _) (size_alloc (w.alloc (.cells #[.int .i64 pS, .slice aS S.length cS] 28)) (.cells #[.slice ax x.length cx] 22))))).trans (show ((w.alloc (.cells #[.int .i64 pS, .slice aS S.length cS] 28)).alloc (.cells #[.slice ax x.length cx] 22)).cell? ⟨w.heap.size, 1, none⟩ = some (.slice aS S.length cS) from (World.cell?_alloc_old _ _ _ (by simp)).trans (by simp [go_sem])); clear b3) | (go_at_call 88; refine (l01In_no _ _ _ _ HN.out).mono ?_; rintro e w' ⟨rfl, rfl⟩))
      go_ret2
      rw [HV.out.1, HV.out.2]
      exact ⟨none, 0, rfl, .inl rfl, (below_step (((Below.refl _ _).alloc (Nat.le_refl _) (.cells #[.int .i64 pS, .slice aS S.length cS] 28)).alloc (show w.heap.size ≤ (w.alloc (.cells #[.int .i64 pS, .slice aS S.length cS] 28)).heap.size from (((Below.refl _ _).alloc (Nat.le_refl _) (.cells #[.int .i64 pS, .slice aS S.length cS] 28))).size) (.cells #[.slice ax x.length cx] 22)) (show w.heap.size ≤ ((w.alloc (.cells #[.int .i64 pS, .slice aS S.length cS] 28)).alloc (.cells #[.slice ax x.length cx] 22)).heap.size from ((((Below.refl _ _).alloc (Nat.le_refl _) (.cells #[.int .i64 pS, .slice aS S.length cS] 28)).alloc (show w.heap.size ≤ (w.alloc (.cells #[.int .i64 pS, .slice aS S.length cS] 28)).heap.size from (((Below.refl _ _).alloc (Nat.le_refl _) (.cells #[.int .i64 pS, .slice aS S.length cS] 28))).size) (.cells #[.slice ax x.length cx] 22))).size) B3.out)⟩
  · have HI := Lib.hid hi
    have HC := Lib.hid hc
    have hne : ¬ codeMv pS S [x] = 0 := by rw [hc]; decide
    have HV : Hid (mPowV pS S x k = [] ∧ mPowC pS S x k = codeMv pS S [x]) := by
      have e : mPowC pS S x k = codeMv pS S [x] := if_neg hne
      exact ⟨if_neg (by rw [e]; exact hne), e⟩
    clear hi hc hne ha
    go_enter Try.func31, Try.ntmps31
    go_wp2_with (first | (go_at_call 75; (with_reducible refine (codeM1 pS aS S cS loS tpS ax x cx lox tpx (w.heap.size + 1) _ _ _ (by simp) (HS.out.below ((Below.refl _ _).alloc (Nat.le_refl _) (.cells #[.int .i64 pS, .slice aS S.length cS] 28)) tS) (Nat.le_trans tS (((Below.refl _ _).alloc (Nat.le_refl _) (.cells #[.int .i64 pS, .slice aS S.length cS] 28))).size) sS (Hx.out.below ((Below.refl _ _).alloc (Nat.le_refl _) (.cells #[.int .i64 pS, .slice aS S.length cS] 28)) tx) (Nat.le_trans tx (((Below.refl _ _).alloc (Nat.le_refl _) (.cells #[.int .i64 pS, .slice aS S.length cS] 28))).size) sx).mono ?_); rintro e w3 ⟨rfl, b3⟩; rw [HC.out]; have B3 := Lib.hid b3; have K3_0_0 := (b3.cell (p := ⟨w.heap.size, 0, none⟩) (Nat.lt_of_lt_of_le (show w.heap.size < (w.alloc (.cells #[.int .i64 pS, .slice aS S.length cS] 28)).heap.size by simp) (Nat.le_trans (Nat.le_refl _) (size_alloc (w.alloc (.cells #[.int .i64 pS, .slice aS S.length cS] 28)) (.cells #[.slice ax x.length cx] 22))))).trans (show ((w.alloc (.cells #[.int .i64 pS, .slice aS S.length cS] 28)).alloc (.cells #[.slice ax x.length cx] 22)).cell? ⟨w.heap.size, 0, none⟩ = some (.int .i64 pS) from (World.cell?_alloc_old _ _ _ (by simp)).trans (by simp [go_sem])); have K3_0_1 := (b3.cell (p := ⟨w.heap.size, 1, none⟩) (Nat.lt_of_lt_of_le (show w.heap.size < (w.alloc (.cells #[.int .i64 pS, .slice aS S.length cS] 28)).heap.size by simp) (Nat.le_trans (Nat.le_refl _) (size_alloc (w.alloc (.cells #[.int .i64 pS, .slice aS S.length cS] 28)) (.cells #[.slice ax x.length cx] 22))))).trans (show ((w.alloc (.cells #[.int .i64 pS, .slice aS S.length cS] 28)).alloc (.cells #[.slice ax x.length cx] 22)).cell? ⟨w.heap.size, 1, none⟩ = some (.slice aS S.length cS) from (World.cell?_alloc_old _ _ _ (by simp)).trans (by simp [go_sem])); clear b3))
    go_ret2
    rw [HV.out.1, HV.out.2, HC.out]
    exact ⟨none, 0, rfl, .inl rfl, (below_step (((Below.refl _ _).alloc (Nat.le_refl _) (.cells #[.int .i64 pS, .slice aS S.length cS] 28)).alloc (show w.heap.size ≤ (w.alloc (.cells #[.int .i64 pS, .slice aS S.length cS] 28)).heap.size from (((Below.refl _ _).alloc (Nat.le_refl _) (.cells #[.int .i64 pS, .slice aS S.length cS] 28))).size) (.cells #[.slice ax x.length cx] 22)) (show w.heap.size ≤ ((w.alloc (.cells #[.int .i64 pS, .slice aS S.length cS] 28)).alloc (.cells #[.slice ax x.length cx] 22)).heap.size from ((((Below.refl _ _).alloc (Nat.le_refl _) (.cells #[.int .i64 pS, .slice aS S.length cS] 28)).alloc (show w.heap.size ≤ (w.alloc (.cells #[.int .i64 pS, .slice aS S.length cS] 28)).heap.size from (((Below.refl _ _).alloc (Nat.le_refl _) (.cells #[.int .i64 pS, .slice aS S.length cS] 28))).size) (.cells #[.slice ax x.length cx] 22))).size) B3.out)⟩

set_option maxRecDepth 100000 in
set_option maxHeartbeats 3200000 in
theorem impl_PowerOf (pS : Int) (aS : Option Addr) (S : List Int) (cS loS tpS : Nat) (ax : Option Addr) (x : List Int) (cx lox tpx : Nat) (k : Int) (w : World) (hS : RowIn loS tpS w aS S) (tS : tpS ≤ w.heap.size) (sS : S.length ≤ 1048576) (hx : RowIn lox tpx w ax x) (tx : tpx ≤ w.heap.size) (sx : x.length ≤ 1048576) :
    Calls Try.prog 32 #[.agg #[.int .i64 pS, .slice aS S.length cS], .slice ax x.length cx, .int .i64 k] w (ImplR (mPowV pS S x k) (mPowC pS S x k) w) := by
  have HS := Lib.hid hS
  have Hx := Lib.hid hx
  clear hS hx
  rcases codeMv_cases pS S [x] with ⟨hi, hc⟩ | ⟨hi, ha, hc⟩ | ⟨hi, ha, hc⟩
  · have HI := Lib.hid hi
    have HC := Lib.hid hc
    have hne : ¬ codeMv pS S [x] = 0 := by rw [hc]; decide
    have HV : Hid (mPowV pS S x k = [] ∧ mPowC pS S x k = codeMv pS S [x]) := by
      have e : mPowC pS S x k = codeMv pS S [x] := if_neg hne
      exact ⟨if_neg (by rw [e]; exact hne), e⟩
    clear hi hc hne
    go_enter Try.func32, Try.ntmps32
    go_wp2_with (first | (go_at_call 77; (with_reducible refine (checkM1 pS aS S cS loS tpS ax x cx lox tpx (w.heap.size + 1) _ _ _ (by simp) (HS.out.below ((Below.refl _ _).alloc (Nat.le_refl _) (.cells #[.int .i64 pS, .slice aS S.length cS] 28)) tS) (Nat.le_trans tS (((Below.refl _ _).alloc (Nat.le_refl _) (.cells #[.int .i64 pS, .slice aS S.length cS] 28))).size) sS (Hx.out.below ((Below.refl _ _).alloc (Nat.le_refl _) (.cells #[.int .i64 pS, .slice aS S.length cS] 28)) tx) (Nat.le_trans tx (((Below.refl _ _).alloc (Nat.le_refl _) (.cells #[.int .i64 pS, .slice aS S.length cS] 28))).size) sx).mono ?_); rintro e w3 ⟨rfl, b3⟩; rw [HC.out]; have B3 := Lib.hid b3; have K3_0_0 := (b3.cell (p := ⟨w.heap.size, 0, none⟩) (Nat.lt_of_lt_of_le (show w.heap.size < (w.alloc (.cells #[.int .i64 pS, .slice aS S.length cS] 28)).heap.size by simp) (Nat.le_trans (Nat.le_refl _) (size_alloc (w.alloc (.cells #[.int .i64 pS, .slice aS S.length cS] 28)) (.cells #[.slice ax x.length cx] 22))))).trans (show ((w.alloc (.cells #[.int .i64 pS, .slice aS S.length cS] 28)).alloc (.cells #[.slice ax x.length cx] 22)).cell? ⟨w.heap.size, 0, none⟩ = some (.int .i64 pS) from (World.cell?_alloc_old _ _ _ (by simp)).trans (by simp [go_sem])); have K3_0_1 := (b3.cell (p := ⟨w.heap.size, 1, none⟩) (Nat.lt_of_lt_of_le (show w.heap.size < (w.alloc (.cells #[.int .i64 pS, .slice aS S.length cS] 28)).heap.size by simp) (Nat.le_trans (Nat.le_refl _) (size_alloc (w.alloc (.cells #[.int .i64 pS, .slice aS S.length cS] 28)) (.cells #[.slice ax x.length cx] 22))))).trans (show ((w.alloc (.cells #[.int .i64 pS, .slice aS S.length cS] 28)).alloc (.cells #[.slice ax x.length cx] 22)).cell? ⟨w.heap.size, 1, none⟩ = some (.slice aS S.length cS) from (World.cell?_alloc_old _ _ _ (by simp)).trans (by simp [go_sem])); clear b3))
    go_ret2
    rw [HV.out.1, HV.out.2, HC.out]
    exact ⟨none, 0, rfl, .inl rfl, (below_step (((Below.refl _ _).alloc (Nat.le_refl _) (.cells #[.int .i64 pS, .slice aS S.length cS] 28)).alloc (show w.heap.size ≤ (w.alloc (.cells #[.int .i64 pS, .slice aS S.length cS] 28)).heap.size from (((Below.refl _ _).alloc (Nat.le_refl _) (.cells #[.int .i64 pS, .slice aS S.length cS] 28))).size) (.cells #[.slice ax x.length cx] 22)) (show w.heap.size ≤ ((w.alloc (.cells #[.int .i64 pS, .slice aS S.length cS] 28)).alloc (.cells #[.slice ax x.length cx] 22)).heap.size from ((((Below.refl _ _).alloc (Nat.le_refl _) (.cells #[.int .i64 pS, .slice aS S.length cS] 28)).alloc (show w.heap.size ≤ (w.alloc (.cells #[.int .i64 pS, .slice aS S.length cS] 28)).heap.size from (((Below.refl _ _).alloc (Nat.le_refl _) (.cells #[.int .i64 pS, .slice aS S.length cS] 28))).size) (.cells #[.slice ax x.length cx] 22))).size) B3.out)⟩
  · have HI := Lib.hid hi
    have HC := Lib.hid hc
    rw [mv_all1] at ha
    have HX := Lib.hid ha
    have hpb := prm_bd (isSp_iff.1 hi).prime
    have h6 := (isSp_iff.1 hi).hi
    have h64 := bl_le h6
    have HLX := Lib.hid (Mv.len ha)
    have hlx : x.length ≤ 64 := by rw [HLX.out]; exact h64
    have hx0 : 0 < x.length := by rw [HLX.out]; exact bl_pos S
    by_cases hk : 0 ≤ k ∧ k ≤ 100
    · have HV : Hid (mPowV pS S x k = mPow pS S x k.toNat ∧ mPowC pS S x k = 0) := by
        have e : mPowC pS S x k = 0 := by unfold mPowC; rw [if_pos hc, if_pos hk]
        exact ⟨by unfold mPowV; rw [if_pos e], e⟩
      obtain ⟨k0, k1⟩ := hk
      obtain ⟨K, hK⟩ : ∃ K : Nat, k = (K : Int) := ⟨k.toNat, by omega⟩
      subst hK
      rw [Int.toNat_natCast] at HV
      have hK1 : K ≤ 100 := by omega
      clear hi hc ha
      go_enter Try.func32, Try.ntmps32
      go_wp2_with (first | (go_at_call 77; (with_reducible refine (checkM1 pS aS S cS loS tpS ax x cx lox tpx (w.heap.size + 1) _ _ _ (by simp) (HS.out.below ((Below.refl _ _).alloc (Nat.le_refl _) (.cells #[.int .i64 pS, .slice aS S.length cS] 28)) tS) (Nat.le_trans tS (((Below.refl _ _).alloc (Nat.le_refl _) (.cells #[.int .i64 pS, .slice aS S.length cS] 28))).size) sS (Hx.out.below ((Below.refl _ _).alloc (Nat.le_refl _) (.cells #[.int .i64 pS, .slice aS S.length cS] 28)) tx) (Nat.le_trans tx (((Below.refl _ _).alloc (Nat.le_refl _) (.cells #[.int .i64 pS, .slice aS S.length cS] 28))).size) sx).mono ?_); rintro e w3 ⟨rfl, b3⟩; rw [HC.out]; have B3 := Lib.hid b3; have K3_0_0 := (b3.cell (p := ⟨w.heap.size, 0, none⟩) (Nat.lt_of_lt_of_le (show w.heap.size < (w.alloc (.cells #[.int .i64 pS, .slice aS S.length cS] 28)).heap.size by simp) (Nat.le_trans (Nat.le_refl _) (size_alloc (w.alloc (.cells #[.int .i64 pS, .slice aS S.length cS] 28)) (.cells #[.slice ax x.length cx] 22))))).trans (show ((w.alloc (.cells #[.int .i64 pS, .slice aS S.length cS] 28)).alloc (.cells #[.slice ax x.length cx] 22)).cell? ⟨w.heap.size, 0, none⟩ = some (.int .i64 pS) from (World.cell?_alloc_old _ _ _ (by simp)).trans (by simp [go_sem])); have K3_0_1 := (b3.cell (p := ⟨w.heap.size, 1, none⟩) (Nat.lt_of_lt_of_le (show w.heap.size < (w.alloc (.cells #[.int .i64 pS, .slice aS S.length cS] 28)).heap.size by simp) (Nat.le_trans (Nat.le_refl _) (size_alloc (w.alloc (.cells #[.int .i64 pS, .slice aS S.length cS] 28)) (.cells #[.slice ax x.length cx] 22))))).trans (show ((w.alloc (.cells #[.int .i64 pS, .slice aS S.length cS] 28)).alloc (.cells #[.slice ax x.length cx] 22)).cell? ⟨w.heap.size, 1, none⟩ = some (.slice aS S.length cS) from (World.cell?_alloc_old _ _ _ (by simp)).trans (by simp [go_sem])); clear b3) | (go_at_call 91; (with_reducible refine (blade0_any pS aS S cS _ h6).mono ?_); rintro e w4 ⟨r9, c9, rfl, o9, b4⟩; have B4 := Lib.hid b4; have K4_0_0 := (b4.cell (p := ⟨w.heap.size, 0, none⟩) (Nat.lt_of_lt_of_le (show w.heap.size < (w.alloc (.cells #[.int .i64 pS, .slice aS S.length cS] 28)).heap.size by simp) (Nat.le_trans (Nat.le_trans (Nat.le_refl _) (size_alloc (w.alloc (.cells #[.int .i64 pS, .slice aS S.length cS] 28)) (.cells #[.slice ax x.length cx] 22))) B3.out.size))).trans K3_0_0; clear K3_0_0; have K4_0_1 := (b4.cell (p := ⟨w.heap.size, 1, none⟩) (Nat.lt_of_lt_of_le (show w.heap.size < (w.alloc (.cells #[.int .i64 pS, .slice aS S.length cS] 28)).heap.size by simp) (Nat.le_trans (Nat.le_trans (Nat.le_refl _) (size_alloc (w.alloc (.cells #[.int .i64 pS, .slice aS S.length cS] 28)) (.cells #[.slice ax x.length cx] 22))) B3.out.size))).trans K3_0_1; clear K3_0_1; have O9 := Lib.hid o9; clear o9; clear b4))
      have HBW : Hid (Below w.heap.size w w4) := (below_step (below_step (((Below.refl _ _).alloc (Nat.le_refl _) (.cells #[.int .i64 pS, .slice aS S.length cS] 28)).alloc (show w.heap.size ≤ (w.alloc (.cells #[.int .i64 pS, .slice aS S.length cS] 28)).heap.size from (((Below.refl _ _).alloc (Nat.le_refl _) (.cells #[.int .i64 pS, .slice aS S.length cS] 28))).size) (.cells #[.slice ax x.length cx] 22)) (show w.heap.size ≤ ((w.alloc (.cells #[.int .i64 pS, .slice aS S.length cS] 28)).alloc (.cells #[.slice ax x.length cx] 22)).heap.size from ((((Below.refl _ _).alloc (Nat.le_refl _) (.cells #[.int .i64 pS, .slice aS S.length cS] 28)).alloc (show w.heap.size ≤ (w.alloc (.cells #[.int .i64 pS, .slice aS S.length cS] 28)).heap.size from (((Below.refl _ _).alloc (Nat.le_refl _) (.cells #[.int .i64 pS, .slice aS S.length cS] 28))).size) (.cells #[.slice ax x.length cx] 22))).size) B3.out) (show w.heap.size ≤ w3.heap.size from ((below_step (((Below.refl _ _).alloc (Nat.le_refl _) (.cells #[.int .i64 pS, .slice aS S.length cS] 28)).alloc (show w.heap.size ≤ (w.alloc (.cells #[.int .i64 pS, .slice aS S.length cS] 28)).heap.size from (((Below.refl _ _).alloc (Nat.le_refl _) (.cells #[.int .i64 pS, .slice aS S.length cS] 28))).size) (.cells #[.slice ax x.length cx] 22)) (show w.heap.size ≤ ((w.alloc (.cells #[.int .i64 pS, .slice aS S.length cS] 28)).alloc (.cells #[.slice ax x.length cx] 22)).heap.size from ((((Below.refl _ _).alloc (Nat.le_refl _) (.cells #[.int .i64 pS, .slice aS S.length cS] 28)).alloc (show w.heap.size ≤ (w.alloc (.cells #[.int .i64 pS, .slice aS S.length cS] 28)).heap.size from (((Below.refl _ _).alloc (Nat.le_refl _) (.cells #[.int .i64 pS, .slice aS S.length cS] 28))).size) (.cells #[.slice ax x.length cx] 22))).size) B3.out)).size) B4.out)
      have hwz := HBW.out.size
      have hz9 : w.heap.size ≤ w3.heap.size := (show w.heap.size ≤ w3.heap.size from ((below_step (((Below.refl _ _).alloc (Nat.le_refl _) (.cells #[.int .i64 pS, .slice aS S.length cS] 28)).alloc (show w.heap.size ≤ (w.alloc (.cells #[.int .i64 pS, .slice aS S.length cS] 28)).heap.size from (((Below.refl _ _).alloc (Nat.le_refl _) (.cells #[.int .i64 pS, .slice aS S.length cS] 28))).size) (.cells #[.slice ax x.length cx] 22)) (show w.heap.size ≤ ((w.alloc (.cells #[.int .i64 pS, .slice aS S.length cS] 28)).alloc (.cells #[.slice ax x.length cx] 22)).heap.size from ((((Below.refl _ _).alloc (Nat.le_refl _) (.cells #[.int .i64 pS, .slice aS S.length cS] 28)).alloc (show w.heap.size ≤ (w.alloc (.cells #[.int .i64 pS, .slice aS S.length cS] 28)).heap.size from (((Below.refl _ _).alloc (Nat.le_refl _) (.cells #[.int .i64 pS, .slice aS S.length cS] 28))).size) (.cells #[.slice ax x.length cx] 22))).size) B3.out)).size)
      have K0 : Hid (w4.cell? ⟨w.heap.size, 0, none⟩ = some (.int .i64 pS)) := K4_0_0
      have K1 : Hid (w4.cell? ⟨w.heap.size, 1, none⟩ = some (.slice aS S.length cS)) := K4_0_1
      have H9 : Hid (OwnR w.heap.size w4.heap.size w4 r9 (mPow pS S x 0)) := OwnR.mono' O9.out hz9 (Nat.le_refl _)
      have e9 : (Value.slice r9 (mOne S).length c9) = .slice r9 (mPow pS S x 0).length c9 := rfl
      rw [e9]
      clear e9
      go_loopw [9, 26] (fun u9 t wr => ∃ (i : Nat) (r9 : Option Addr) (c9 : Nat), i ≤ K ∧ t = .int .i64 i ∧ u9 = .slice r9 (mPow pS S x i).length c9 ∧ OwnR w.heap.size wr.heap.size wr r9 (mPow pS S x i) ∧ wr.cell? ⟨w.heap.size, 0, none⟩ = some (.int .i64 pS) ∧ wr.cell? ⟨w.heap.size, 1, none⟩ = some (.slice aS S.length cS) ∧ Below w.heap.size w wr ∧ w.heap.size < wr.heap.size) (fun _ t _ => K - (intOf t).toNat)
      case atStart => exact ⟨0, r9, c9, Nat.zero_le _, rfl, rfl, H9.out, K0.out, K1.out, HBW.out, (Nat.lt_of_lt_of_le (show w.heap.size < (w.alloc (.cells #[.int .i64 pS, .slice aS S.length cS] 28)).heap.size by simp) (Nat.le_trans (Nat.le_trans (Nat.le_trans (Nat.le_refl _) (size_alloc (w.alloc (.cells #[.int .i64 pS, .slice aS S.length cS] 28)) (.cells #[.slice ax x.length cx] 22))) B3.out.size) B4.out.size))⟩
      case round =>
        obtain ⟨i, r9, c9, hiK, rfl, rfl, h9, hk0, hk1, hbel, hlt⟩ := hrel
        have HA9 := Lib.hid h9
        have HK0 := Lib.hid hk0
        have HK1 := Lib.hid hk1
        have HBR := Lib.hid hbel
        have hwr := hbel.size
        clear h9 hbel
        by_cases h0 : i < K
        · have h01 : (i : Int) < (K : Int) := by omega
          go_wp2_with (first | (go_at_call 85; (with_reducible refine (product_own pS aS S cS loS tpS r9 (mPow pS S x i) c9 w.heap.size wr.heap.size ax x cx lox tpx wr HI.out (HS.out.below HBR.out tS) (Nat.le_trans tS hwr) HA9.out.row (Nat.le_refl _) (mpow_mv HI.out i) (Hx.out.below HBR.out tx) (Nat.le_trans tx hwr) HX.out).mono ?_); rintro e w5 ⟨r5, c5, rfl, o5, b5⟩; have O5 := Lib.hid o5; have B5 := Lib.hid b5; have z5 := b5.size; have hk05 := (b5.cell (p := ⟨w.heap.size, 0, none⟩) hlt).trans HK0.out; have hk15 := (b5.cell (p := ⟨w.heap.size, 1, none⟩) hlt).trans HK1.out; clear o5 b5))
          go_roundw
          case rel => exact ⟨i + 1, r5, c5, by omega, by go_num, rfl, OwnR.mono' O5.out hwr (Nat.le_refl _), hk05, hk15, HBR.out.trans (B5.out.mono hwr), by omega⟩
          case measure => simp [intOf]; omega
        · have hik : i = K := by omega
          subst hik
          go_wp2
          go_ret2
          rw [HV.out.1, HV.out.2]
          exact ⟨r9, c9, rfl, HA9.out, HBR.out⟩
    · by_cases hk0 : k < 0
      · have HV : Hid (mPowV pS S x k = [] ∧ mPowC pS S x k = 2) := by
            have e : mPowC pS S x k = 2 := by unfold mPowC; rw [if_pos hc, if_neg hk]
            exact ⟨by unfold mPowV; rw [if_neg (by rw [e]; decide)], e⟩
        clear hk
        clear hi hc ha
        go_enter Try.func32, Try.ntmps32
        go_wp2_with (first | (go_at_call 77; (with_reducible refine (checkM1 pS aS S cS loS tpS ax x cx lox tpx (w.heap.size + 1) _ _ _ (by simp) (HS.out.below ((Below.refl _ _).alloc (Nat.le_refl _) (.cells #[.int .i64 pS, .slice aS S.length cS] 28)) tS) (Nat.le_trans tS (((Below.refl _ _).alloc (Nat.le_refl _) (.cells #[.int .i64 pS, .slice aS S.length cS] 28))).size) sS (Hx.out.below ((Below.refl _ _).alloc (Nat.le_refl _) (.cells #[.int .i64 pS, .slice aS S.length cS] 28)) tx) (Nat.le_trans tx (((Below.refl _ _).alloc (Nat.le_refl _) (.cells #[.int .i64 pS, .slice aS S.length cS] 28))).size) sx).mono ?_); rintro e w3 ⟨rfl, b3⟩; rw [HC.out]; have B3 := Lib.hid b3; have K3_0_0 := (b3.cell (p := ⟨w.heap.size, 0, none⟩) (Nat.lt_of_lt_of_le (show w.heap.size < (w.alloc (.cells #[.int .i64 pS, .slice aS S.length cS] 28)).heap.size by simp) (Nat.le_trans (Nat.le_refl _) (size_alloc (w.alloc (.cells #[.int .i64 pS, .slice aS S.length cS] 28)) (.cells #[.slice ax x.length cx] 22))))).trans (show ((w.alloc (.cells #[.int .i64 pS, .slice aS S.length cS] 28)).alloc (.cells #[.slice ax x.length cx] 22)).cell? ⟨w.heap.size, 0, none⟩ = some (.int .i64 pS) from (World.cell?_alloc_old _ _ _ (by simp)).trans (by simp [go_sem])); have K3_0_1 := (b3.cell (p := ⟨w.heap.size, 1, none⟩) (Nat.lt_of_lt_of_le (show w.heap.size < (w.alloc (.cells #[.int .i64 pS, .slice aS S.length cS] 28)).heap.size by simp) (Nat.le_trans (Nat.le_refl _) (size_alloc (w.alloc (.cells #[.int .i64 pS, .slice aS S.length cS] 28)) (.cells #[.slice ax x.length cx] 22))))).trans (show ((w.alloc (.cells #[.int .i64 pS, .slice aS S.length cS] 28)).alloc (.cells #[.slice ax x.length cx] 22)).cell? ⟨w.heap.size, 1, none⟩ = some (.slice aS S.length cS) from (World.cell?_alloc_old _ _ _ (by simp)).trans (by simp [go_sem])); clear b3))
        go_ret2
        rw [HV.out.1, HV.out.2]
        exact ⟨none, 0, rfl, .inl rfl, (below_step (((Below.refl _ _).alloc (Nat.le_refl _) (.cells #[.int .i64 pS, .slice aS S.length cS] 28)).alloc (show w.heap.size ≤ (w.alloc (.cells #[.int .i64 pS, .slice aS S.length cS] 28)).heap.size from (((Below.refl _ _).alloc (Nat.le_refl _) (.cells #[.int .i64 pS, .slice aS S.length cS] 28))).size) (.cells #[.slice ax x.length cx] 22)) (show w.heap.size ≤ ((w.alloc (.cells #[.int .i64 pS, .slice aS S.length cS] 28)).alloc (.cells #[.slice ax x.length cx] 22)).heap.size from ((((Below.refl _ _).alloc (Nat.le_refl _) (.cells #[.int .i64 pS, .slice aS S.length cS] 28)).alloc (show w.heap.size ≤ (w.alloc (.cells #[.int .i64 pS, .slice aS S.length cS] 28)).heap.size from (((Below.refl _ _).alloc (Nat.le_refl _) (.cells #[.int .i64 pS, .slice aS S.length cS] 28))).size) (.cells #[.slice ax x.length cx] 22))).size) B3.out)⟩
      · have HV : Hid (mPowV pS S x k = [] ∧ mPowC pS S x k = 2) := by
            have e : mPowC pS S x k = 2 := by unfold mPowC; rw [if_pos hc, if_neg hk]
            exact ⟨by unfold mPowV; rw [if_neg (by rw [e]; decide)], e⟩
        have hk1 : 100 < k := by omega
        clear hk
        clear hi hc ha
        go_enter Try.func32, Try.ntmps32
        go_wp2_with (first | (go_at_call 77; (with_reducible refine (checkM1 pS aS S cS loS tpS ax x cx lox tpx (w.heap.size + 1) _ _ _ (by simp) (HS.out.below ((Below.refl _ _).alloc (Nat.le_refl _) (.cells #[.int .i64 pS, .slice aS S.length cS] 28)) tS) (Nat.le_trans tS (((Below.refl _ _).alloc (Nat.le_refl _) (.cells #[.int .i64 pS, .slice aS S.length cS] 28))).size) sS (Hx.out.below ((Below.refl _ _).alloc (Nat.le_refl _) (.cells #[.int .i64 pS, .slice aS S.length cS] 28)) tx) (Nat.le_trans tx (((Below.refl _ _).alloc (Nat.le_refl _) (.cells #[.int .i64 pS, .slice aS S.length cS] 28))).size) sx).mono ?_); rintro e w3 ⟨rfl, b3⟩; rw [HC.out]; have B3 := Lib.hid b3; have K3_0_0 := (b3.cell (p := ⟨w.heap.size, 0, none⟩) (Nat.lt_of_lt_of_le (show w.heap.size < (w.alloc (.cells #[.int .i64 pS, .slice aS S.length cS] 28)).heap.size by simp) (Nat.le_trans (Nat.le_refl _) (size_alloc (w.alloc (.cells #[.int .i64 pS, .slice aS S.length cS] 28)) (.cells #[.slice ax x.length cx] 22))))).trans (show ((w.alloc (.cells #[.int .i64 pS, .slice aS S.length cS] 28)).alloc (.cells #[.slice ax x.length cx] 22)).cell? ⟨w.heap.size, 0, none⟩ = some (.int .i64 pS) from (World.cell?_alloc_old _ _ _ (by simp)).trans (by simp [go_sem])); have K3_0_1 := (b3.cell (p := ⟨w.heap.size, 1, none⟩) (Nat.lt_of_lt_of_le (show w.heap.size < (w.alloc (.cells #[.int .i64 pS, .slice aS S.length cS] 28)).heap.size by simp) (Nat.le_trans (Nat.le_refl _) (size_alloc (w.alloc (.cells #[.int .i64 pS, .slice aS S.length cS] 28)) (.cells #[.slice ax x.length cx] 22))))).trans (show ((w.alloc (.cells #[.int .i64 pS, .slice aS S.length cS] 28)).alloc (.cells #[.slice ax x.length cx] 22)).cell? ⟨w.heap.size, 1, none⟩ = some (.slice aS S.length cS) from (World.cell?_alloc_old _ _ _ (by simp)).trans (by simp [go_sem])); clear b3))
        go_ret2
        rw [HV.out.1, HV.out.2]
        exact ⟨none, 0, rfl, .inl rfl, (below_step (((Below.refl _ _).alloc (Nat.le_refl _) (.cells #[.int .i64 pS, .slice aS S.length cS] 28)).alloc (show w.heap.size ≤ (w.alloc (.cells #[.int .i64 pS, .slice aS S.length cS] 28)).heap.size from (((Below.refl _ _).alloc (Nat.le_refl _) (.cells #[.int .i64 pS, .slice aS S.length cS] 28))).size) (.cells #[.slice ax x.length cx] 22)) (show w.heap.size ≤ ((w.alloc (.cells #[.int .i64 pS, .slice aS S.length cS] 28)).alloc (.cells #[.slice ax x.length cx] 22)).heap.size from ((((Below.refl _ _).alloc (Nat.le_refl _) (.cells #[.int .i64 pS, .slice aS S.length cS] 28)).alloc (show w.heap.size ≤ (w.alloc (.cells #[.int .i64 pS, .slice aS S.length cS] 28)).heap.size from (((Below.refl _ _).alloc (Nat.le_refl _) (.cells #[.int .i64 pS, .slice aS S.length cS] 28))).size) (.cells #[.slice ax x.length cx] 22))).size) B3.out)⟩
  · have HI := Lib.hid hi
    have HC := Lib.hid hc
    have hne : ¬ codeMv pS S [x] = 0 := by rw [hc]; decide
    have HV : Hid (mPowV pS S x k = [] ∧ mPowC pS S x k = codeMv pS S [x]) := by
      have e : mPowC pS S x k = codeMv pS S [x] := if_neg hne
      exact ⟨if_neg (by rw [e]; exact hne), e⟩
    clear hi hc hne ha
    go_enter Try.func32, Try.ntmps32
    go_wp2_with (first | (go_at_call 77; (with_reducible refine (checkM1 pS aS S cS loS tpS ax x cx lox tpx (w.heap.size + 1) _ _ _ (by simp) (HS.out.below ((Below.refl _ _).alloc (Nat.le_refl _) (.cells #[.int .i64 pS, .slice aS S.length cS] 28)) tS) (Nat.le_trans tS (((Below.refl _ _).alloc (Nat.le_refl _) (.cells #[.int .i64 pS, .slice aS S.length cS] 28))).size) sS (Hx.out.below ((Below.refl _ _).alloc (Nat.le_refl _) (.cells #[.int .i64 pS, .slice aS S.length cS] 28)) tx) (Nat.le_trans tx (((Below.refl _ _).alloc (Nat.le_refl _) (.cells #[.int .i64 pS, .slice aS S.length cS] 28))).size) sx).mono ?_); rintro e w3 ⟨rfl, b3⟩; rw [HC.out]; have B3 := Lib.hid b3; have K3_0_0 := (b3.cell (p := ⟨w.heap.size, 0, none⟩) (Nat.lt_of_lt_of_le (show w.heap.size < (w.alloc (.cells #[.int .i64 pS, .slice aS S.length cS] 28)).heap.size by simp) (Nat.le_trans (Nat.le_refl _) (size_alloc (w.alloc (.cells #[.int .i64 pS, .slice aS S.length cS] 28)) (.cells #[.slice ax x.length cx] 22))))).trans (show ((w.alloc (.cells #[.int .i64 pS, .slice aS S.length cS] 28)).alloc (.cells #[.slice ax x.length cx] 22)).cell? ⟨w.heap.size, 0, none⟩ = some (.int .i64 pS) from (World.cell?_alloc_old _ _ _ (by simp)).trans (by simp [go_sem])); have K3_0_1 := (b3.cell (p := ⟨w.heap.size, 1, none⟩) (Nat.lt_of_lt_of_le (show w.heap.size < (w.alloc (.cells #[.int .i64 pS, .slice aS S.length cS] 28)).heap.size by simp) (Nat.le_trans (Nat.le_refl _) (size_alloc (w.alloc (.cells #[.int .i64 pS, .slice aS S.length cS] 28)) (.cells #[.slice ax x.length cx] 22))))).trans (show ((w.alloc (.cells #[.int .i64 pS, .slice aS S.length cS] 28)).alloc (.cells #[.slice ax x.length cx] 22)).cell? ⟨w.heap.size, 1, none⟩ = some (.slice aS S.length cS) from (World.cell?_alloc_old _ _ _ (by simp)).trans (by simp [go_sem])); clear b3))
    go_ret2
    rw [HV.out.1, HV.out.2, HC.out]
    exact ⟨none, 0, rfl, .inl rfl, (below_step (((Below.refl _ _).alloc (Nat.le_refl _) (.cells #[.int .i64 pS, .slice aS S.length cS] 28)).alloc (show w.heap.size ≤ (w.alloc (.cells #[.int .i64 pS, .slice aS S.length cS] 28)).heap.size from (((Below.refl _ _).alloc (Nat.le_refl _) (.cells #[.int .i64 pS, .slice aS S.length cS] 28))).size) (.cells #[.slice ax x.length cx] 22)) (show w.heap.size ≤ ((w.alloc (.cells #[.int .i64 pS, .slice aS S.length cS] 28)).alloc (.cells #[.slice ax x.length cx] 22)).heap.size from ((((Below.refl _ _).alloc (Nat.le_refl _) (.cells #[.int .i64 pS, .slice aS S.length cS] 28)).alloc (show w.heap.size ≤ (w.alloc (.cells #[.int .i64 pS, .slice aS S.length cS] 28)).heap.size from (((Below.refl _ _).alloc (Nat.le_refl _) (.cells #[.int .i64 pS, .slice aS S.length cS] 28))).size) (.cells #[.slice ax x.length cx] 22))).size) B3.out)⟩

end Go.Proofs.Ytdamdlihicinlaa
