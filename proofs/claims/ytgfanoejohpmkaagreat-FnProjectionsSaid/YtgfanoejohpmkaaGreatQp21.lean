/-
  Contracts and facts that the walk of the law rests on.
  Conditions: those that each theorem names.
-/
import Derived.Test.YtgfanoejohpmkaaGreatQp15
import Derived.Test.YtgfanoejohpmkaaGreatQp17
import Derived.Test.YtgfanoejohpmkaaGreatQp18
import Derived.Test.YtgfanoejohpmkaaGreatQp19
import Derived.Test.YtgfanoejohpmkaaGreatQp20
import Derived.Test.YtgfanoejohpmkaaGreatQp9
import Derived.Test.YtgfanoejohpmkaaGreatQp11
import Derived.Test.YtgfanoejohpmkaaGreatQp5
import Derived.Deep.RegionHeld3
import Derived.Deep.DeepCutAuto
import Derived.Deep.AppendLies
import Derived.StillTailTactics
import Derived.Test.YtgfanoejohpmkaaGreatQp1
import Derived.BigQuiet
import Derived.Deep.QuietTactic
import Derived.RegionTactic
namespace Go.Proofs.YtgfanoejohpmkaaGreat
open Go.RowKit
set_option linter.unusedVariables false
def wgM (p : Int) (S x y : List Int) : List Int := kM p S 0 x y
theorem wgM_len (p : Int) (S x y : List Int) : (wgM p S x y).length = bl S := kM_len _ _ _ _ _
theorem productOf_own0 (pS : Int) (aS : Option Addr) (S : List Int) (cS loS tpS : Nat) (ax : Option Addr) (x : List Int) (cx lox tpx : Nat) (ay : Option Addr) (y : List Int) (cy loy tpy : Nat) (w : World) (hs : isSp pS S = true) (hS : RowIn loS tpS w aS S) (tS : tpS ≤ w.heap.size) (hx : RowIn lox tpx w ax x) (tx : tpx ≤ w.heap.size) (mx : isMv pS S x = true) (hy : RowIn loy tpy w ay y) (ty : tpy ≤ w.heap.size) (my : isMv pS S y = true) :
 Calls Tryz.prog 235 #[.agg #[.int .i64 pS, .slice aS S.length cS], .int .i64 0, .slice ax x.length cx, .slice ay y.length cy] w (OwnE (wgM pS S x y) w) :=
 (productOf_any0 pS aS S cS loS tpS ax x cx lox tpx ay y cy loy tpy w (isSp_iff.1 hs).prime (isSp_iff.1 hs).hi hS tS (sp_nums hs) hx tx (Mv.len mx) (Mv.nums mx) hy ty (Mv.len my) (Mv.nums my)).mono fun _ _ h => h.ownE
theorem l05Kind_own0 (pS : Int) (aS : Option Addr) (S : List Int) (cS loS tpS : Nat) (ax : Option Addr) (x : List Int) (cx lox tpx : Nat) (ay : Option Addr) (y : List Int) (cy loy tpy : Nat) (w : World) (hs : isSp pS S = true) (hS : RowIn loS tpS w aS S) (tS : tpS ≤ w.heap.size) (hx : RowIn lox tpx w ax x) (tx : tpx ≤ w.heap.size) (mx : isMv pS S x = true) (hy : RowIn loy tpy w ay y) (ty : tpy ≤ w.heap.size) (my : isMv pS S y = true) :
 Calls Tryz.prog 220 #[.agg #[.int .i64 pS, .slice aS S.length cS], .slice ax x.length cx, .slice ay y.length cy, .int .i64 0] w (OwnE (wgM pS S x y) w) :=
 (l05Kind_tag0 pS aS S cS loS tpS ax x cx lox tpx ay y cy loy tpy w (isSp_iff.1 hs).prime (isSp_iff.1 hs).hi hS tS (sp_nums hs) hx tx (Mv.len mx) (Mv.nums mx) hy ty (Mv.len my) (Mv.nums my)).mono fun _ _ h => (show NewRow _ _ _ _ _ from (by obtain ⟨b, h1, h2, h3, h4, h5, _⟩ := h; exact ⟨b, h1, h2, h3, h4, h5⟩)).ownE
def lcM (p : Int) (S x y : List Int) : List Int := kM p S 1 x y
theorem productOf_own1 (pS : Int) (aS : Option Addr) (S : List Int) (cS loS tpS : Nat) (ax : Option Addr) (x : List Int) (cx lox tpx : Nat) (ay : Option Addr) (y : List Int) (cy loy tpy : Nat) (w : World) (hs : isSp pS S = true) (hS : RowIn loS tpS w aS S) (tS : tpS ≤ w.heap.size) (hx : RowIn lox tpx w ax x) (tx : tpx ≤ w.heap.size) (mx : isMv pS S x = true) (hy : RowIn loy tpy w ay y) (ty : tpy ≤ w.heap.size) (my : isMv pS S y = true) :
 Calls Tryz.prog 235 #[.agg #[.int .i64 pS, .slice aS S.length cS], .int .i64 1, .slice ax x.length cx, .slice ay y.length cy] w (OwnE (lcM pS S x y) w) :=
 (productOf_any1 pS aS S cS loS tpS ax x cx lox tpx ay y cy loy tpy w (isSp_iff.1 hs).prime (isSp_iff.1 hs).hi hS tS (sp_nums hs) hx tx (Mv.len mx) (Mv.nums mx) hy ty (Mv.len my) (Mv.nums my)).mono fun _ _ h => h.ownE
theorem l05Kind_own1 (pS : Int) (aS : Option Addr) (S : List Int) (cS loS tpS : Nat) (ax : Option Addr) (x : List Int) (cx lox tpx : Nat) (ay : Option Addr) (y : List Int) (cy loy tpy : Nat) (w : World) (hs : isSp pS S = true) (hS : RowIn loS tpS w aS S) (tS : tpS ≤ w.heap.size) (hx : RowIn lox tpx w ax x) (tx : tpx ≤ w.heap.size) (mx : isMv pS S x = true) (hy : RowIn loy tpy w ay y) (ty : tpy ≤ w.heap.size) (my : isMv pS S y = true) :
 Calls Tryz.prog 220 #[.agg #[.int .i64 pS, .slice aS S.length cS], .slice ax x.length cx, .slice ay y.length cy, .int .i64 1] w (OwnE (lcM pS S x y) w) :=
 (l05Kind_tag1 pS aS S cS loS tpS ax x cx lox tpx ay y cy loy tpy w (isSp_iff.1 hs).prime (isSp_iff.1 hs).hi hS tS (sp_nums hs) hx tx (Mv.len mx) (Mv.nums mx) hy ty (Mv.len my) (Mv.nums my)).mono fun _ _ h => (show NewRow _ _ _ _ _ from (by obtain ⟨b, h1, h2, h3, h4, h5, _⟩ := h; exact ⟨b, h1, h2, h3, h4, h5⟩)).ownE
theorem kind_mv {p : Int} {S : List Int} (hs : isSp p S = true) (κ : Nat) (x y : List Int) : isMv p S (kM p S κ x y) = true := by
 have hp := prm_bd (isSp_iff.1 hs).prime
 unfold isMv isVec
 rw [kM_len, Bool.and_eq_true]
 refine ⟨by simp, ?_⟩
 rw [List.all_eq_true]
 intro z hz
 obtain ⟨j, hj, rfl⟩ := List.getElem_of_mem hz
 have hj' : j < bl S := by rw [kM_len] at hj; exact hj
 have h := kF_bd (p := p) (by omega) S κ x y j
 rw [← kM_at p S κ x y hj', getD_at hj] at h
 exact inr_iff.2 h
set_option maxRecDepth 100000 in
set_option maxHeartbeats 1600000 in
theorem wedge_own (pS : Int) (aS : Option Addr) (S : List Int) (cS loS tpS : Nat) (ax : Option Addr) (x : List Int) (cx lox tpx : Nat) (ay : Option Addr) (y : List Int) (cy loy tpy : Nat) (w : World) (hs : isSp pS S = true) (hS : RowIn loS tpS w aS S) (tS : tpS ≤ w.heap.size) (hx : RowIn lox tpx w ax x) (tx : tpx ≤ w.heap.size) (mx : isMv pS S x = true) (hy : RowIn loy tpy w ay y) (ty : tpy ≤ w.heap.size) (my : isMv pS S y = true) :
 Calls Tryz.prog 168 #[.agg #[.int .i64 pS, .slice aS S.length cS], .slice ax x.length cx, .slice ay y.length cy] w (OwnE (wgM pS S x y) w) := by
 have HI := Lib.hid hs
 have HS := Lib.hid hS
 have Hx := Lib.hid hx
 have HMx := Lib.hid mx
 have Hy := Lib.hid hy
 have HMy := Lib.hid my
 clear hs hS hx mx hy my
 go_enter Tryz.func168, Tryz.ntmps168
 go_wp2_with (first | (go_at_call 235; (with_reducible refine (productOf_own0 pS aS S cS loS tpS ax x cx lox tpx ay y cy loy tpy _ HI.out (HS.out.below ((Below.refl _ _).alloc (Nat.le_refl _) (.cells #[.int .i64 pS, .slice aS S.length cS] 26)) tS) (Nat.le_trans tS (((Below.refl _ _).alloc (Nat.le_refl _) (.cells #[.int .i64 pS, .slice aS S.length cS] 26))).size) (Hx.out.below ((Below.refl _ _).alloc (Nat.le_refl _) (.cells #[.int .i64 pS, .slice aS S.length cS] 26)) tx) (Nat.le_trans tx (((Below.refl _ _).alloc (Nat.le_refl _) (.cells #[.int .i64 pS, .slice aS S.length cS] 26))).size) HMx.out (Hy.out.below ((Below.refl _ _).alloc (Nat.le_refl _) (.cells #[.int .i64 pS, .slice aS S.length cS] 26)) ty) (Nat.le_trans ty (((Below.refl _ _).alloc (Nat.le_refl _) (.cells #[.int .i64 pS, .slice aS S.length cS] 26))).size) HMy.out).mono ?_); rintro e w2 ⟨r2, c2, rfl, o2, b2⟩; have B2 := Lib.hid b2; have K2_0_0 := (b2.cell (p := ⟨w.heap.size, 0, none⟩) (Nat.lt_of_lt_of_le (show w.heap.size < (w.alloc (.cells #[.int .i64 pS, .slice aS S.length cS] 26)).heap.size by simp) (Nat.le_refl _))).trans (show (w.alloc (.cells #[.int .i64 pS, .slice aS S.length cS] 26)).cell? ⟨w.heap.size, 0, none⟩ = some (.int .i64 pS) by simp [go_sem]); have K2_0_1 := (b2.cell (p := ⟨w.heap.size, 1, none⟩) (Nat.lt_of_lt_of_le (show w.heap.size < (w.alloc (.cells #[.int .i64 pS, .slice aS S.length cS] 26)).heap.size by simp) (Nat.le_refl _))).trans (show (w.alloc (.cells #[.int .i64 pS, .slice aS S.length cS] 26)).cell? ⟨w.heap.size, 1, none⟩ = some (.slice aS S.length cS) by simp [go_sem]); have O2 := Lib.hid o2; clear o2; clear b2))
 go_ret
 exact ⟨_, _, rfl, OwnR.mono' O2.out (show w.heap.size ≤ (w.alloc (.cells #[.int .i64 pS, .slice aS S.length cS] 26)).heap.size from (((Below.refl _ _).alloc (Nat.le_refl _) (.cells #[.int .i64 pS, .slice aS S.length cS] 26))).size) (Nat.le_refl _), (below_step ((Below.refl _ _).alloc (Nat.le_refl _) (.cells #[.int .i64 pS, .slice aS S.length cS] 26)) (show w.heap.size ≤ (w.alloc (.cells #[.int .i64 pS, .slice aS S.length cS] 26)).heap.size from (((Below.refl _ _).alloc (Nat.le_refl _) (.cells #[.int .i64 pS, .slice aS S.length cS] 26))).size) B2.out)⟩
set_option maxRecDepth 100000 in
set_option maxHeartbeats 1600000 in
theorem leftContraction_own (pS : Int) (aS : Option Addr) (S : List Int) (cS loS tpS : Nat) (ax : Option Addr) (x : List Int) (cx lox tpx : Nat) (ay : Option Addr) (y : List Int) (cy loy tpy : Nat) (w : World) (hs : isSp pS S = true) (hS : RowIn loS tpS w aS S) (tS : tpS ≤ w.heap.size) (hx : RowIn lox tpx w ax x) (tx : tpx ≤ w.heap.size) (mx : isMv pS S x = true) (hy : RowIn loy tpy w ay y) (ty : tpy ≤ w.heap.size) (my : isMv pS S y = true) :
 Calls Tryz.prog 248 #[.agg #[.int .i64 pS, .slice aS S.length cS], .slice ax x.length cx, .slice ay y.length cy] w (OwnE (lcM pS S x y) w) := by
 have HI := Lib.hid hs
 have HS := Lib.hid hS
 have Hx := Lib.hid hx
 have HMx := Lib.hid mx
 have Hy := Lib.hid hy
 have HMy := Lib.hid my
 clear hs hS hx mx hy my
 go_enter Tryz.func248, Tryz.ntmps248
 go_wp2_with (first | (go_at_call 235; (with_reducible refine (productOf_own1 pS aS S cS loS tpS ax x cx lox tpx ay y cy loy tpy _ HI.out (HS.out.below ((Below.refl _ _).alloc (Nat.le_refl _) (.cells #[.int .i64 pS, .slice aS S.length cS] 26)) tS) (Nat.le_trans tS (((Below.refl _ _).alloc (Nat.le_refl _) (.cells #[.int .i64 pS, .slice aS S.length cS] 26))).size) (Hx.out.below ((Below.refl _ _).alloc (Nat.le_refl _) (.cells #[.int .i64 pS, .slice aS S.length cS] 26)) tx) (Nat.le_trans tx (((Below.refl _ _).alloc (Nat.le_refl _) (.cells #[.int .i64 pS, .slice aS S.length cS] 26))).size) HMx.out (Hy.out.below ((Below.refl _ _).alloc (Nat.le_refl _) (.cells #[.int .i64 pS, .slice aS S.length cS] 26)) ty) (Nat.le_trans ty (((Below.refl _ _).alloc (Nat.le_refl _) (.cells #[.int .i64 pS, .slice aS S.length cS] 26))).size) HMy.out).mono ?_); rintro e w2 ⟨r2, c2, rfl, o2, b2⟩; have B2 := Lib.hid b2; have K2_0_0 := (b2.cell (p := ⟨w.heap.size, 0, none⟩) (Nat.lt_of_lt_of_le (show w.heap.size < (w.alloc (.cells #[.int .i64 pS, .slice aS S.length cS] 26)).heap.size by simp) (Nat.le_refl _))).trans (show (w.alloc (.cells #[.int .i64 pS, .slice aS S.length cS] 26)).cell? ⟨w.heap.size, 0, none⟩ = some (.int .i64 pS) by simp [go_sem]); have K2_0_1 := (b2.cell (p := ⟨w.heap.size, 1, none⟩) (Nat.lt_of_lt_of_le (show w.heap.size < (w.alloc (.cells #[.int .i64 pS, .slice aS S.length cS] 26)).heap.size by simp) (Nat.le_refl _))).trans (show (w.alloc (.cells #[.int .i64 pS, .slice aS S.length cS] 26)).cell? ⟨w.heap.size, 1, none⟩ = some (.slice aS S.length cS) by simp [go_sem]); have O2 := Lib.hid o2; clear o2; clear b2))
 go_ret
 exact ⟨_, _, rfl, OwnR.mono' O2.out (show w.heap.size ≤ (w.alloc (.cells #[.int .i64 pS, .slice aS S.length cS] 26)).heap.size from (((Below.refl _ _).alloc (Nat.le_refl _) (.cells #[.int .i64 pS, .slice aS S.length cS] 26))).size) (Nat.le_refl _), (below_step ((Below.refl _ _).alloc (Nat.le_refl _) (.cells #[.int .i64 pS, .slice aS S.length cS] 26)) (show w.heap.size ≤ (w.alloc (.cells #[.int .i64 pS, .slice aS S.length cS] 26)).heap.size from (((Below.refl _ _).alloc (Nat.le_refl _) (.cells #[.int .i64 pS, .slice aS S.length cS] 26))).size) B2.out)⟩
set_option maxRecDepth 100000 in
set_option maxHeartbeats 1600000 in
theorem l05Wedge_own (pS : Int) (aS : Option Addr) (S : List Int) (cS loS tpS : Nat) (ax : Option Addr) (x : List Int) (cx lox tpx : Nat) (ay : Option Addr) (y : List Int) (cy loy tpy : Nat) (w : World) (hs : isSp pS S = true) (hS : RowIn loS tpS w aS S) (tS : tpS ≤ w.heap.size) (hx : RowIn lox tpx w ax x) (tx : tpx ≤ w.heap.size) (mx : isMv pS S x = true) (hy : RowIn loy tpy w ay y) (ty : tpy ≤ w.heap.size) (my : isMv pS S y = true) :
 Calls Tryz.prog 145 #[.agg #[.int .i64 pS, .slice aS S.length cS], .slice ax x.length cx, .slice ay y.length cy] w (OwnE (wgM pS S x y) w) := by
 have HI := Lib.hid hs
 have HS := Lib.hid hS
 have Hx := Lib.hid hx
 have HMx := Lib.hid mx
 have Hy := Lib.hid hy
 have HMy := Lib.hid my
 clear hs hS hx mx hy my
 go_enter Tryz.func145, Tryz.ntmps145
 go_wp2_with (first | (go_at_call 220; (with_reducible refine (l05Kind_own0 pS aS S cS loS tpS ax x cx lox tpx ay y cy loy tpy _ HI.out (HS.out.below ((Below.refl _ _).alloc (Nat.le_refl _) (.cells #[.int .i64 pS, .slice aS S.length cS] 26)) tS) (Nat.le_trans tS (((Below.refl _ _).alloc (Nat.le_refl _) (.cells #[.int .i64 pS, .slice aS S.length cS] 26))).size) (Hx.out.below ((Below.refl _ _).alloc (Nat.le_refl _) (.cells #[.int .i64 pS, .slice aS S.length cS] 26)) tx) (Nat.le_trans tx (((Below.refl _ _).alloc (Nat.le_refl _) (.cells #[.int .i64 pS, .slice aS S.length cS] 26))).size) HMx.out (Hy.out.below ((Below.refl _ _).alloc (Nat.le_refl _) (.cells #[.int .i64 pS, .slice aS S.length cS] 26)) ty) (Nat.le_trans ty (((Below.refl _ _).alloc (Nat.le_refl _) (.cells #[.int .i64 pS, .slice aS S.length cS] 26))).size) HMy.out).mono ?_); rintro e w2 ⟨r2, c2, rfl, o2, b2⟩; have B2 := Lib.hid b2; have K2_0_0 := (b2.cell (p := ⟨w.heap.size, 0, none⟩) (Nat.lt_of_lt_of_le (show w.heap.size < (w.alloc (.cells #[.int .i64 pS, .slice aS S.length cS] 26)).heap.size by simp) (Nat.le_refl _))).trans (show (w.alloc (.cells #[.int .i64 pS, .slice aS S.length cS] 26)).cell? ⟨w.heap.size, 0, none⟩ = some (.int .i64 pS) by simp [go_sem]); have K2_0_1 := (b2.cell (p := ⟨w.heap.size, 1, none⟩) (Nat.lt_of_lt_of_le (show w.heap.size < (w.alloc (.cells #[.int .i64 pS, .slice aS S.length cS] 26)).heap.size by simp) (Nat.le_refl _))).trans (show (w.alloc (.cells #[.int .i64 pS, .slice aS S.length cS] 26)).cell? ⟨w.heap.size, 1, none⟩ = some (.slice aS S.length cS) by simp [go_sem]); have O2 := Lib.hid o2; clear o2; clear b2))
 go_ret
 exact ⟨_, _, rfl, OwnR.mono' O2.out (show w.heap.size ≤ (w.alloc (.cells #[.int .i64 pS, .slice aS S.length cS] 26)).heap.size from (((Below.refl _ _).alloc (Nat.le_refl _) (.cells #[.int .i64 pS, .slice aS S.length cS] 26))).size) (Nat.le_refl _), (below_step ((Below.refl _ _).alloc (Nat.le_refl _) (.cells #[.int .i64 pS, .slice aS S.length cS] 26)) (show w.heap.size ≤ (w.alloc (.cells #[.int .i64 pS, .slice aS S.length cS] 26)).heap.size from (((Below.refl _ _).alloc (Nat.le_refl _) (.cells #[.int .i64 pS, .slice aS S.length cS] 26))).size) B2.out)⟩
set_option maxRecDepth 100000 in
set_option maxHeartbeats 1600000 in
theorem l05Left_own (pS : Int) (aS : Option Addr) (S : List Int) (cS loS tpS : Nat) (ax : Option Addr) (x : List Int) (cx lox tpx : Nat) (ay : Option Addr) (y : List Int) (cy loy tpy : Nat) (w : World) (hs : isSp pS S = true) (hS : RowIn loS tpS w aS S) (tS : tpS ≤ w.heap.size) (hx : RowIn lox tpx w ax x) (tx : tpx ≤ w.heap.size) (mx : isMv pS S x = true) (hy : RowIn loy tpy w ay y) (ty : tpy ≤ w.heap.size) (my : isMv pS S y = true) :
 Calls Tryz.prog 213 #[.agg #[.int .i64 pS, .slice aS S.length cS], .slice ax x.length cx, .slice ay y.length cy] w (OwnE (lcM pS S x y) w) := by
 have HI := Lib.hid hs
 have HS := Lib.hid hS
 have Hx := Lib.hid hx
 have HMx := Lib.hid mx
 have Hy := Lib.hid hy
 have HMy := Lib.hid my
 clear hs hS hx mx hy my
 go_enter Tryz.func213, Tryz.ntmps213
 go_wp2_with (first | (go_at_call 220; (with_reducible refine (l05Kind_own1 pS aS S cS loS tpS ax x cx lox tpx ay y cy loy tpy _ HI.out (HS.out.below ((Below.refl _ _).alloc (Nat.le_refl _) (.cells #[.int .i64 pS, .slice aS S.length cS] 26)) tS) (Nat.le_trans tS (((Below.refl _ _).alloc (Nat.le_refl _) (.cells #[.int .i64 pS, .slice aS S.length cS] 26))).size) (Hx.out.below ((Below.refl _ _).alloc (Nat.le_refl _) (.cells #[.int .i64 pS, .slice aS S.length cS] 26)) tx) (Nat.le_trans tx (((Below.refl _ _).alloc (Nat.le_refl _) (.cells #[.int .i64 pS, .slice aS S.length cS] 26))).size) HMx.out (Hy.out.below ((Below.refl _ _).alloc (Nat.le_refl _) (.cells #[.int .i64 pS, .slice aS S.length cS] 26)) ty) (Nat.le_trans ty (((Below.refl _ _).alloc (Nat.le_refl _) (.cells #[.int .i64 pS, .slice aS S.length cS] 26))).size) HMy.out).mono ?_); rintro e w2 ⟨r2, c2, rfl, o2, b2⟩; have B2 := Lib.hid b2; have K2_0_0 := (b2.cell (p := ⟨w.heap.size, 0, none⟩) (Nat.lt_of_lt_of_le (show w.heap.size < (w.alloc (.cells #[.int .i64 pS, .slice aS S.length cS] 26)).heap.size by simp) (Nat.le_refl _))).trans (show (w.alloc (.cells #[.int .i64 pS, .slice aS S.length cS] 26)).cell? ⟨w.heap.size, 0, none⟩ = some (.int .i64 pS) by simp [go_sem]); have K2_0_1 := (b2.cell (p := ⟨w.heap.size, 1, none⟩) (Nat.lt_of_lt_of_le (show w.heap.size < (w.alloc (.cells #[.int .i64 pS, .slice aS S.length cS] 26)).heap.size by simp) (Nat.le_refl _))).trans (show (w.alloc (.cells #[.int .i64 pS, .slice aS S.length cS] 26)).cell? ⟨w.heap.size, 1, none⟩ = some (.slice aS S.length cS) by simp [go_sem]); have O2 := Lib.hid o2; clear o2; clear b2))
 go_ret
 exact ⟨_, _, rfl, OwnR.mono' O2.out (show w.heap.size ≤ (w.alloc (.cells #[.int .i64 pS, .slice aS S.length cS] 26)).heap.size from (((Below.refl _ _).alloc (Nat.le_refl _) (.cells #[.int .i64 pS, .slice aS S.length cS] 26))).size) (Nat.le_refl _), (below_step ((Below.refl _ _).alloc (Nat.le_refl _) (.cells #[.int .i64 pS, .slice aS S.length cS] 26)) (show w.heap.size ≤ (w.alloc (.cells #[.int .i64 pS, .slice aS S.length cS] 26)).heap.size from (((Below.refl _ _).alloc (Nat.le_refl _) (.cells #[.int .i64 pS, .slice aS S.length cS] 26))).size) B2.out)⟩
theorem ca0 {W : World} {o : Obj} {a : Addr} {u : Value} (h : W.cell? a = some u) : (W.alloc o).cell? a = some u := Lib.cell?_alloc_some o h
def SRow (R : List Int) (w : World) (e : Ending) (w' : World) : Prop := ∃ r k, e = .returned (.slice r R.length k) ∧ RowIn w.heap.size w'.heap.size w' r R ∧ Below w.heap.size w w'
theorem l01Inv_any (p a : Int) (w : World) (hp : prm p = true) (a0 : 1 ≤ a) (a1 : a < p) :
 Calls Tryz.prog 204 #[.int .i64 p, .int .i64 a] w fun e w' => e = .returned (.int .i64 (inv p a)) ∧ w = w' := by
 have hb := prm_bd hp
 obtain ⟨v0, v1⟩ := inv_bd hp a
 have v2 := inv_pos hp a0 a1
 have HP := Lib.hid hp
 clear hp
 go_enter Tryz.func204, Tryz.ntmps204
 go_wp2
 go_loop [5] (fun t => ∃ b : Int, 1 ≤ b ∧ b ≤ inv p a ∧ t = .int .i64 b) (fun t => (inv p a - intOf t).toNat)
 case atStart => exact ⟨1, by omega, by omega, rfl⟩
 case round =>
  obtain ⟨b, b0, b1, rfl⟩ := hrel
  obtain ⟨m0, m1⟩ := mul_bd (a := a) (b := b) HP.out (by omega) (by omega) (by omega) (by omega)
  obtain ⟨q0, q1⟩ := mod_bd HP.out (a * b)
  have hi := inv_iff (a := a) HP.out a0 a1 b0 b1
  by_cases hq : b = inv p a
  · have ht := hi.2 hq
    have HQ := Lib.hid hq
    clear hi hq
    go_wp2
    go_ret
    exact ⟨by rw [← HQ.out]; rfl, rfl⟩
  · have ht : ¬ a * b % p = 1 := fun h => hq (hi.1 h)
    clear hi
    go_wp2
    go_round
    case rel => exact ⟨b + 1, by omega, by omega, rfl⟩
    case measure => simp [intOf]; omega
set_option maxHeartbeats 800000 in
theorem power_pos (p a : Int) (m : Nat) (w : World) (hp : prm p = true) (a0 : 0 ≤ a) (a1 : a < p) (hm : m ≤ 1000000) :
 Calls Tryz.prog 209 #[.agg #[.int .i64 p, .int .i64 a], .int .i64 m] w fun e w' => e = .returned (.agg #[.int .i64 p, .int .i64 (pw p a m)]) ∧ Below w.heap.size w w' := by
 have HP := Lib.hid hp
 have hb := prm_bd hp
 clear hp
 go_enter Tryz.func209, Tryz.ntmps209
 go_wp2
 go_loopw [17] (fun t wr => ∃ j : Nat, j ≤ m ∧ t = .int .i64 j ∧ NumAt wr (w.heap.size + 1 + 1) p (pw p a j) ∧ NumAt wr w.heap.size p a ∧ NumAt wr (w.heap.size + 1) 0 0 ∧ Below w.heap.size w wr ∧ w.heap.size + 3 ≤ wr.heap.size) (fun t _ => m - (intOf t).toNat)
 case atStart =>
  refine ⟨0, Nat.zero_le _, rfl, ?_, ?_, ?_, by ((repeat' (first | with_reducible exact Below.refl _ _ | (with_reducible refine Below.setCell ?_ ?_ _) | (with_reducible refine Below.alloc ?_ ?_ _) | (with_reducible refine Below.drew ?_))); all_goals (first | (simp; done) | omega | (simp; omega))), by simp⟩
  · exact (by simpa [pw] using numAt_new ((w.alloc (Obj.cells #[.int .i64 p, .int .i64 a] _)).alloc (Obj.cells #[.int .i64 0, .int .i64 0] _)) p 1 _)
  · exact ((numAt_new w p a _).alloc (by simp) _).alloc (by simp; omega) _
  · exact NumAt.alloc (by simpa using numAt_new (w.alloc (Obj.cells #[.int .i64 p, .int .i64 a] _)) 0 0 _) (by simp) _
 case round =>
  obtain ⟨j, hj, rfl, n2, n0, n1, hbel, hz⟩ := hrel
  obtain ⟨q0, q1⟩ := pw_bd (a := a) HP.out j
  obtain ⟨g20, g21, k20, k21⟩ := n2
  obtain ⟨g00, g01, k00, k01⟩ := n0
  by_cases hlt : j < m
  · go_wp2_with (go_at_call 186; refine (times_any p (pw p a j) a _ HP.out q0 q1 a0 a1).mono ?_; rintro e w1 ⟨rfl, hb1⟩; have n2' := NumAt.keep (b := w.heap.size + 1 + 1) ⟨g20, g21, k20, k21⟩ hb1 (by omega); obtain ⟨e20, e21, h20, h21⟩ := n2')
    go_roundw
    case rel =>
     have hs1 := hb1.size
     have n2' : NumAt w1 (w.heap.size + 1 + 1) p (pw p a j) := ⟨e20, e21, h20, h21⟩
     refine ⟨j + 1, by omega, by go_num, n2'.set p _, ((NumAt.keep (b := w.heap.size) ⟨g00, g01, k00, k01⟩ hb1 (by omega)).far (by omega) _ _).far (by omega) _ _, ((n1.keep hb1 (by omega)).far (by omega) _ _).far (by omega) _ _, by (have hs_hb1 := hb1.size; have hs_hbel := hbel.size; (repeat' (first | with_reducible exact Below.refl _ _ | (with_reducible refine Below.setCell ?_ ?_ _) | (with_reducible refine Below.alloc ?_ ?_ _) | (with_reducible refine Below.drew ?_) | (with_reducible refine below_step ?_ ?_ hb1) | (with_reducible refine below_step ?_ ?_ hbel))); all_goals (first | (simp; done) | omega | (simp; omega) | (simp at hs_hb1 hs_hbel ⊢; omega))), by simp; omega⟩
    case measure => simp [intOf]; omega
  · have hjm : Hid (j = m) := by show j = m; omega
    obtain ⟨g10, g11, k10, k11⟩ := n1
    go_wp2
    refine bodyPost_ret (v := .agg #[.int .i64 p, .int .i64 (pw p a j)]) (by simp [results, Tryz.results209, go_sem, g10, g11]) rfl ⟨by rw [hjm.out], ?_⟩
    (have hs_hbel := hbel.size; (repeat' (first | with_reducible exact Below.refl _ _ | (with_reducible refine Below.setCell ?_ ?_ _) | (with_reducible refine Below.alloc ?_ ?_ _) | (with_reducible refine Below.drew ?_) | (with_reducible refine below_step ?_ ?_ hbel))); all_goals (first | (simp; done) | omega | (simp; omega) | (simp at hs_hbel ⊢; omega)))
theorem power_any (p a : Int) (k : Int) (w : World) (hp : prm p = true) (a0 : 0 ≤ a) (a1 : a < p) (k0 : 0 ≤ k) (k1 : k ≤ 1000000) :
 Calls Tryz.prog 209 #[.agg #[.int .i64 p, .int .i64 a], .int .i64 k] w fun e w' => e = .returned (.agg #[.int .i64 p, .int .i64 (pw p a k.toNat)]) ∧ Below w.heap.size w w' := by
 have h := power_pos p a k.toNat w hp a0 a1 (by omega)
 rwa [Int.toNat_of_nonneg k0] at h
set_option maxHeartbeats 400000 in
theorem inverse_any (p a : Int) (w : World) (hp : prm p = true) (a0 : 0 ≤ a) (a1 : a < p) :
 Calls Tryz.prog 125 #[.agg #[.int .i64 p, .int .i64 a]] w fun e w' => e = .returned (.agg #[.int .i64 p, .int .i64 (inv p a)]) ∧ Below w.heap.size w w' := by
 have HP := Lib.hid hp
 have hb := prm_bd hp
 clear hp
 go_enter Tryz.func125, Tryz.ntmps125
 go_wp2_with (go_at_call 209; refine (power_any p a (p - 2) _ HP.out a0 a1 (by omega) (by omega)).mono ?_; rintro e w1 ⟨rfl, hb1⟩; obtain ⟨hc, hf⟩ := bcell hb1)
 refine bodyPost_ret (v := .agg #[.int .i64 p, .int .i64 (inv p a)]) (by simp [results, Tryz.results125, go_sem, hc, inv]) rfl ⟨rfl, ?_⟩
 (have hs_hb1 := hb1.size; (repeat' (first | with_reducible exact Below.refl _ _ | (with_reducible refine Below.setCell ?_ ?_ _) | (with_reducible refine Below.alloc ?_ ?_ _) | (with_reducible refine Below.drew ?_) | (with_reducible refine below_step ?_ ?_ hb1))); all_goals (first | (simp; done) | omega | (simp; omega) | (simp at hs_hb1 ⊢; omega)))
set_option maxHeartbeats 400000 in
theorem over_any (p a b : Int) (w : World) (hp : prm p = true) (a0 : 0 ≤ a) (a1 : a < p) (b0 : 0 ≤ b) (b1 : b < p) :
 Calls Tryz.prog 300 #[.agg #[.int .i64 p, .int .i64 a], .agg #[.int .i64 p, .int .i64 b]] w fun e w' => e = .returned (.agg #[.int .i64 p, .int .i64 (a * inv p b % p)]) ∧ Below w.heap.size w w' := by
 have HP := Lib.hid hp
 obtain ⟨i0, i1⟩ := inv_bd hp b
 have hb := prm_bd hp
 clear hp
 go_enter Tryz.func300, Tryz.ntmps300
 go_wp2_with fail
 go_region_with (first | (go_at_call 125; refine (inverse_any p b _ HP.out b0 b1).mono ?_; rintro e w1 ⟨rfl, hb1⟩; have n2 := (numAt_new2 w _ _ 0 0 _).drew.keep hb1 (by simp); obtain ⟨g0, g1, f0, f1⟩ := (((numAt_new w p a _).alloc (by simp) _).alloc (by simp; omega) _).drew.keep hb1 (by simp; omega)) | (go_at_call 186; refine (times_any p a (inv p b) _ HP.out a0 a1 i0 i1).mono ?_; rintro e w2 ⟨rfl, hb2⟩; obtain ⟨g20, g21, f20, f21⟩ := n2.keep hb2 (by have := hb1.size; simp at this; omega)))
 all_goals
  go_wp2
  refine bodyPost_ret (v := .agg #[.int .i64 p, .int .i64 (a * inv p b % p)]) (by simp [results, Tryz.results300, go_sem, g20, g21]) rfl ⟨rfl, ?_⟩
  (have hs_hb2 := hb2.size; have hs_hb1 := hb1.size; (repeat' (first | with_reducible exact Below.refl _ _ | (with_reducible refine Below.setCell ?_ ?_ _) | (with_reducible refine Below.alloc ?_ ?_ _) | (with_reducible refine Below.drew ?_) | (with_reducible refine below_step ?_ ?_ hb2) | (with_reducible refine below_step ?_ ?_ hb1))); all_goals (first | (simp; done) | omega | (simp; omega) | (simp at hs_hb2 hs_hb1 ⊢; omega)))
def revM (p : Int) (x : List Int) : List Int := mkR x.length (sgF p c_reversal x)
end Go.Proofs.YtgfanoejohpmkaaGreat