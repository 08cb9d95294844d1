/-
  GradePart: contracts of the program and of the model.
  Conditions: the lists are nil or rows of known cells, of at most 1048576 numbers.
-/
import Derived.Test.YtcamegdjdjacpaaQr5
import Derived.Test.YtcamegdjdjacpaaQr6
import Derived.Deep.RegionHeld3
namespace Go.Proofs.Ytcamegdjdjacpaa
open Go.RowKit
set_option linter.unusedVariables false

def partC (p : Int) (S x : List Int) (k : Int) : Int := if codeMv p S [x] = 0 then (if 0 ≤ k ∧ k ≤ S.length then 0 else 2) else codeMv p S [x]
def partV (p : Int) (S x : List Int) (k : Int) : List Int := if partC p S x k = 0 then partM x k else []
theorem fl_skip {x : List Int} {left : Lit → Bool} {g : Nat → Int} {k : Nat} (h0 : g k = 0) (j : Nat) : fl x left g j = fl x (fun z => left z && !z.sameKey (.int .i64 (k : Int))) g j := by
  unfold fl
  by_cases e : j = k
  · subst e; rw [td_same left j]
    by_cases h : x.getD j 0 ≠ 0 ∧ td left j = false
    · rw [if_pos h]
      by_cases h2 : x.getD j 0 ≠ 0 ∧ false = false
      · rw [if_pos h2]
      · rw [if_neg h2, h0]
    · rw [if_neg h]
      by_cases h2 : x.getD j 0 ≠ 0 ∧ false = false
      · rw [if_pos h2, h0]
      · rw [if_neg h2]
  · rw [td_other left e]
def pg (x : List Int) (k : Int) (j : Nat) : Int := if ((gr j : Nat) : Int) = k then x.getD j 0 else 0
set_option maxRecDepth 100000 in
set_option maxHeartbeats 1600000 in
theorem l04Part_any (a : Option Addr) (x : List Int) (c lo tp : Nat) (k : Int) (w : World) (hx : RowIn lo tp w a x) (tx : tp ≤ w.heap.size) (sx : x.length ≤ 64) :
    Calls Try.prog 174 #[.slice a x.length c, .int .i64 k] w (NewRow x.length (pg x k) w) := by
  have hmk := fun W => run_make_row' (P := Try.prog) 24 2 (.int .i64 0) 8 Try.underlying24 info64 rfl .i64 .i64 x.length (by omega) (by omega) W
  have HX := Lib.hid hx
  clear hx
  go_enter Try.func174, Try.ntmps174
  go_wp2
  obtain ⟨W1, hW1⟩ : ∃ W1, W1 = w.alloc (.cells (madeCells #[.int .i64 0] x.length) 2) := ⟨_, rfl⟩
  have HO1 : Hid (RowOwn W1 w.heap.size 0 x.length (fun _ => 0)) := by show RowOwn _ _ _ _ _; rw [hW1]; exact RowOwn.start w x.length _
  have HB1 : Hid (Below w.heap.size w W1) := by show Below _ _ _; rw [hW1]; exact below_alloc w _
  have hu1 : w.heap.size < W1.heap.size := by rw [hW1]; simp
  rw [← hW1]
  clear hmk hW1
  go_loopw [6] (fun t wr => ∃ i : Nat, i ≤ x.length ∧ t = .int .i64 i ∧ RowOwn wr w.heap.size 0 x.length (fun j => if j < i then pg x k j else 0) ∧ Wrote w.heap.size 0 x.length W1 wr) (fun t _ => x.length - (intOf t).toNat)
  case atStart => exact ⟨0, Nat.zero_le _, rfl, row_zero HO1.out, Wrote.refl _ _ _ _⟩
  case round =>
    obtain ⟨i, hi, rfl, hr, hw⟩ := hrel
    have HR := Lib.hid hr
    have HW := Lib.hid hw
    by_cases hlt : i < x.length
    · obtain ⟨b2, o2, ha2, l2, t2, hc2⟩ := ((HX.out.below HB1.out tx).same (hw.same (by omega : w.heap.size < lo ∨ tp ≤ w.heap.size))).num hlt
      subst ha2
      have c0 := hr.cell i hlt
      have f0 := hr.free i hlt
      rw [Nat.zero_add] at c0 f0
      rw [if_neg (Nat.lt_irrefl _)] at c0
      have hi1 : (i : Int) < (x.length : Int) := by omega
      obtain ⟨y, hy⟩ : ∃ y, y = x.getD i 0 := ⟨_, rfl⟩
      have HY := Lib.hid hy
      rw [← hy] at hc2
      clear hr hw hy
      by_cases hk : ((gr i : Nat) : Int) = k
      · have HG : Hid (y = pg x k i) := by show _ = _; unfold pg; rw [if_pos hk, HY.out]
        have e1 : (((gr i : Nat) : Int) == k) = true := by simpa using hk
        clear hk
        go_wp2_with (go_at_call 201; refine (l04Grade_any i (by omega) _).mono ?_; rintro e w3 ⟨rfl, rfl⟩)
        go_roundw
        case rel => exact ⟨i + 1, by omega, by go_num, row_fill HR.out hlt HG.out, wrote_put0 HW.out hlt _⟩
        case measure => simp [intOf]; omega
      · have HG : Hid (pg x k i = 0) := by show _ = _; unfold pg; rw [if_neg hk]
        have e1 : (((gr i : Nat) : Int) == k) = false := by simpa using hk
        clear hk
        go_wp2_with (go_at_call 201; refine (l04Grade_any i (by omega) _).mono ?_; rintro e w3 ⟨rfl, rfl⟩)
        go_roundw
        case rel => exact ⟨i + 1, by omega, by go_num, row_leave HR.out HG.out, HW.out⟩
        case measure => simp [intOf]; omega
    · have hn : i = x.length := by omega
      subst hn
      clear hr hw
      go_wp2
      go_ret
      exact ⟨w.heap.size, rfl, Nat.le_refl _, by rw [HW.out.size]; exact hu1, row_done HR.out, HB1.out.trans (HW.out.belowB (Nat.le_refl _))⟩

set_option maxRecDepth 100000 in
set_option maxHeartbeats 3200000 in
theorem impl_GradePart (pS : Int) (aS : Option Addr) (S : List Int) (cS loS tpS : Nat) (ax : Option Addr) (x : List Int) (cx lox tpx : Nat) (k : Int) (w : World) (hS : RowIn loS tpS w aS S) (tS : tpS ≤ w.heap.size) (sS : S.length ≤ 1048576) (hx : RowIn lox tpx w ax x) (tx : tpx ≤ w.heap.size) (sx : x.length ≤ 1048576) :
    Calls Try.prog 43 #[.agg #[.int .i64 pS, .slice aS S.length cS], .slice ax x.length cx, .int .i64 k] w (ImplR (partV pS S x k) (partC pS S x k) w) := by
  have HS := Lib.hid hS
  have Hx := Lib.hid hx
  clear hS hx
  rcases codeMv_cases pS S [x] with ⟨hi, hc⟩ | ⟨hi, ha, hc⟩ | ⟨hi, ha, hc⟩
  · have HI := Lib.hid hi
    have HC := Lib.hid hc
    have hne : ¬ codeMv pS S [x] = 0 := by rw [hc]; decide
    have HV : Hid (partV pS S x k = [] ∧ partC pS S x k = codeMv pS S [x]) := by
      have e : partC pS S x k = codeMv pS S [x] := if_neg hne
      exact ⟨if_neg (by rw [e]; exact hne), e⟩
    clear hi hc hne
    go_enter Try.func43, Try.ntmps43
    go_wp2_with (first | (go_at_call 85; (with_reducible refine (checkM1 pS aS S cS loS tpS ax x cx lox tpx (w.heap.size + 1) _ _ _ (by simp) (HS.out.below ((Below.refl _ _).alloc (Nat.le_refl _) (.cells #[.int .i64 pS, .slice aS S.length cS] 26)) tS) (Nat.le_trans tS (((Below.refl _ _).alloc (Nat.le_refl _) (.cells #[.int .i64 pS, .slice aS S.length cS] 26))).size) sS (Hx.out.below ((Below.refl _ _).alloc (Nat.le_refl _) (.cells #[.int .i64 pS, .slice aS S.length cS] 26)) tx) (Nat.le_trans tx (((Below.refl _ _).alloc (Nat.le_refl _) (.cells #[.int .i64 pS, .slice aS S.length cS] 26))).size) sx).mono ?_); rintro e w3 ⟨rfl, b3⟩; rw [HC.out]; have B3 := Lib.hid b3; have K3_0_0 := (b3.cell (p := ⟨w.heap.size, 0, none⟩) (Nat.lt_of_lt_of_le (show w.heap.size < (w.alloc (.cells #[.int .i64 pS, .slice aS S.length cS] 26)).heap.size by simp) (Nat.le_trans (Nat.le_refl _) (size_alloc (w.alloc (.cells #[.int .i64 pS, .slice aS S.length cS] 26)) (.cells #[.slice ax x.length cx] 24))))).trans (show ((w.alloc (.cells #[.int .i64 pS, .slice aS S.length cS] 26)).alloc (.cells #[.slice ax x.length cx] 24)).cell? ⟨w.heap.size, 0, none⟩ = some (.int .i64 pS) from (World.cell?_alloc_old _ _ _ (by simp)).trans (by simp [go_sem])); have K3_0_1 := (b3.cell (p := ⟨w.heap.size, 1, none⟩) (Nat.lt_of_lt_of_le (show w.heap.size < (w.alloc (.cells #[.int .i64 pS, .slice aS S.length cS] 26)).heap.size by simp) (Nat.le_trans (Nat.le_refl _) (size_alloc (w.alloc (.cells #[.int .i64 pS, .slice aS S.length cS] 26)) (.cells #[.slice ax x.length cx] 24))))).trans (show ((w.alloc (.cells #[.int .i64 pS, .slice aS S.length cS] 26)).alloc (.cells #[.slice ax x.length cx] 24)).cell? ⟨w.heap.size, 1, none⟩ = some (.slice aS S.length cS) from (World.cell?_alloc_old _ _ _ (by simp)).trans (by simp [go_sem])); clear b3))
    go_ret2
    rw [HV.out.1, HV.out.2, HC.out]
    exact ⟨none, 0, rfl, .inl rfl, (below_step (((Below.refl _ _).alloc (Nat.le_refl _) (.cells #[.int .i64 pS, .slice aS S.length cS] 26)).alloc (show w.heap.size ≤ (w.alloc (.cells #[.int .i64 pS, .slice aS S.length cS] 26)).heap.size from (((Below.refl _ _).alloc (Nat.le_refl _) (.cells #[.int .i64 pS, .slice aS S.length cS] 26))).size) (.cells #[.slice ax x.length cx] 24)) (show w.heap.size ≤ ((w.alloc (.cells #[.int .i64 pS, .slice aS S.length cS] 26)).alloc (.cells #[.slice ax x.length cx] 24)).heap.size from ((((Below.refl _ _).alloc (Nat.le_refl _) (.cells #[.int .i64 pS, .slice aS S.length cS] 26)).alloc (show w.heap.size ≤ (w.alloc (.cells #[.int .i64 pS, .slice aS S.length cS] 26)).heap.size from (((Below.refl _ _).alloc (Nat.le_refl _) (.cells #[.int .i64 pS, .slice aS S.length cS] 26))).size) (.cells #[.slice ax x.length cx] 24))).size) B3.out)⟩
  · have HI := Lib.hid hi
    have HC := Lib.hid hc
    rw [mv_all1] at ha
    have HX := Lib.hid ha
    have hpb := prm_bd (isSp_iff.1 hi).prime
    have h6 := (isSp_iff.1 hi).hi
    have h64 := bl_le h6
    have HLX := Lib.hid (Mv.len ha)
    have hlx : x.length ≤ 64 := by rw [HLX.out]; exact h64
    by_cases hk : 0 ≤ k ∧ k ≤ S.length
    · have HV : Hid (partV pS S x k = mkR x.length (pg x k) ∧ partC pS S x k = 0) := by
        have e : partC pS S x k = 0 := by unfold partC; rw [if_pos hc, if_pos hk]
        exact ⟨by unfold partV; rw [if_pos e]; rfl, e⟩
      obtain ⟨k0, k1⟩ := hk
      have hmk := fun W => run_make_row' (P := Try.prog) 24 2 (.int .i64 0) 8 Try.underlying24 info64 rfl .i64 .i64 x.length (by omega) (by omega) W
      have HNB : Hid (∀ j, j < x.length → -100 ≤ x.getD j 0 ∧ x.getD j 0 ≤ 100) := fun j hj => by have := Mv.num ha j hj; omega
      clear hi hc ha
      go_enter Try.func43, Try.ntmps43
      go_wp2_with (first | (go_at_call 85; (with_reducible refine (checkM1 pS aS S cS loS tpS ax x cx lox tpx (w.heap.size + 1) _ _ _ (by simp) (HS.out.below ((Below.refl _ _).alloc (Nat.le_refl _) (.cells #[.int .i64 pS, .slice aS S.length cS] 26)) tS) (Nat.le_trans tS (((Below.refl _ _).alloc (Nat.le_refl _) (.cells #[.int .i64 pS, .slice aS S.length cS] 26))).size) sS (Hx.out.below ((Below.refl _ _).alloc (Nat.le_refl _) (.cells #[.int .i64 pS, .slice aS S.length cS] 26)) tx) (Nat.le_trans tx (((Below.refl _ _).alloc (Nat.le_refl _) (.cells #[.int .i64 pS, .slice aS S.length cS] 26))).size) sx).mono ?_); rintro e w3 ⟨rfl, b3⟩; rw [HC.out]; have B3 := Lib.hid b3; have K3_0_0 := (b3.cell (p := ⟨w.heap.size, 0, none⟩) (Nat.lt_of_lt_of_le (show w.heap.size < (w.alloc (.cells #[.int .i64 pS, .slice aS S.length cS] 26)).heap.size by simp) (Nat.le_trans (Nat.le_refl _) (size_alloc (w.alloc (.cells #[.int .i64 pS, .slice aS S.length cS] 26)) (.cells #[.slice ax x.length cx] 24))))).trans (show ((w.alloc (.cells #[.int .i64 pS, .slice aS S.length cS] 26)).alloc (.cells #[.slice ax x.length cx] 24)).cell? ⟨w.heap.size, 0, none⟩ = some (.int .i64 pS) from (World.cell?_alloc_old _ _ _ (by simp)).trans (by simp [go_sem])); have K3_0_1 := (b3.cell (p := ⟨w.heap.size, 1, none⟩) (Nat.lt_of_lt_of_le (show w.heap.size < (w.alloc (.cells #[.int .i64 pS, .slice aS S.length cS] 26)).heap.size by simp) (Nat.le_trans (Nat.le_refl _) (size_alloc (w.alloc (.cells #[.int .i64 pS, .slice aS S.length cS] 26)) (.cells #[.slice ax x.length cx] 24))))).trans (show ((w.alloc (.cells #[.int .i64 pS, .slice aS S.length cS] 26)).alloc (.cells #[.slice ax x.length cx] 24)).cell? ⟨w.heap.size, 1, none⟩ = some (.slice aS S.length cS) from (World.cell?_alloc_old _ _ _ (by simp)).trans (by simp [go_sem])); clear b3; have K4_0_0 := ((below_alloc w3 (.cells (madeCells #[.int .i64 0] x.length) 2)).cell (p := ⟨w.heap.size, 0, none⟩) (Nat.lt_of_lt_of_le (show w.heap.size < (w.alloc (.cells #[.int .i64 pS, .slice aS S.length cS] 26)).heap.size by simp) (Nat.le_trans (Nat.le_trans (Nat.le_refl _) (size_alloc (w.alloc (.cells #[.int .i64 pS, .slice aS S.length cS] 26)) (.cells #[.slice ax x.length cx] 24))) B3.out.size))).trans K3_0_0; have K4_0_1 := ((below_alloc w3 (.cells (madeCells #[.int .i64 0] x.length) 2)).cell (p := ⟨w.heap.size, 1, none⟩) (Nat.lt_of_lt_of_le (show w.heap.size < (w.alloc (.cells #[.int .i64 pS, .slice aS S.length cS] 26)).heap.size by simp) (Nat.le_trans (Nat.le_trans (Nat.le_refl _) (size_alloc (w.alloc (.cells #[.int .i64 pS, .slice aS S.length cS] 26)) (.cells #[.slice ax x.length cx] 24))) B3.out.size))).trans K3_0_1) | (go_at_call 109; (with_reducible refine (termsOf_any ax x cx lox tpx _ (Hx.out.below ((below_step (((Below.refl _ _).alloc (Nat.le_refl _) (.cells #[.int .i64 pS, .slice aS S.length cS] 26)).alloc (show w.heap.size ≤ (w.alloc (.cells #[.int .i64 pS, .slice aS S.length cS] 26)).heap.size from (((Below.refl _ _).alloc (Nat.le_refl _) (.cells #[.int .i64 pS, .slice aS S.length cS] 26))).size) (.cells #[.slice ax x.length cx] 24)) (show w.heap.size ≤ ((w.alloc (.cells #[.int .i64 pS, .slice aS S.length cS] 26)).alloc (.cells #[.slice ax x.length cx] 24)).heap.size from ((((Below.refl _ _).alloc (Nat.le_refl _) (.cells #[.int .i64 pS, .slice aS S.length cS] 26)).alloc (show w.heap.size ≤ (w.alloc (.cells #[.int .i64 pS, .slice aS S.length cS] 26)).heap.size from (((Below.refl _ _).alloc (Nat.le_refl _) (.cells #[.int .i64 pS, .slice aS S.length cS] 26))).size) (.cells #[.slice ax x.length cx] 24))).size) B3.out).alloc (show w.heap.size ≤ w3.heap.size from ((below_step (((Below.refl _ _).alloc (Nat.le_refl _) (.cells #[.int .i64 pS, .slice aS S.length cS] 26)).alloc (show w.heap.size ≤ (w.alloc (.cells #[.int .i64 pS, .slice aS S.length cS] 26)).heap.size from (((Below.refl _ _).alloc (Nat.le_refl _) (.cells #[.int .i64 pS, .slice aS S.length cS] 26))).size) (.cells #[.slice ax x.length cx] 24)) (show w.heap.size ≤ ((w.alloc (.cells #[.int .i64 pS, .slice aS S.length cS] 26)).alloc (.cells #[.slice ax x.length cx] 24)).heap.size from ((((Below.refl _ _).alloc (Nat.le_refl _) (.cells #[.int .i64 pS, .slice aS S.length cS] 26)).alloc (show w.heap.size ≤ (w.alloc (.cells #[.int .i64 pS, .slice aS S.length cS] 26)).heap.size from (((Below.refl _ _).alloc (Nat.le_refl _) (.cells #[.int .i64 pS, .slice aS S.length cS] 26))).size) (.cells #[.slice ax x.length cx] 24))).size) B3.out)).size) (.cells (madeCells #[.int .i64 0] x.length) 2)) tx) (Nat.le_trans tx (((below_step (((Below.refl _ _).alloc (Nat.le_refl _) (.cells #[.int .i64 pS, .slice aS S.length cS] 26)).alloc (show w.heap.size ≤ (w.alloc (.cells #[.int .i64 pS, .slice aS S.length cS] 26)).heap.size from (((Below.refl _ _).alloc (Nat.le_refl _) (.cells #[.int .i64 pS, .slice aS S.length cS] 26))).size) (.cells #[.slice ax x.length cx] 24)) (show w.heap.size ≤ ((w.alloc (.cells #[.int .i64 pS, .slice aS S.length cS] 26)).alloc (.cells #[.slice ax x.length cx] 24)).heap.size from ((((Below.refl _ _).alloc (Nat.le_refl _) (.cells #[.int .i64 pS, .slice aS S.length cS] 26)).alloc (show w.heap.size ≤ (w.alloc (.cells #[.int .i64 pS, .slice aS S.length cS] 26)).heap.size from (((Below.refl _ _).alloc (Nat.le_refl _) (.cells #[.int .i64 pS, .slice aS S.length cS] 26))).size) (.cells #[.slice ax x.length cx] 24))).size) B3.out).alloc (show w.heap.size ≤ w3.heap.size from ((below_step (((Below.refl _ _).alloc (Nat.le_refl _) (.cells #[.int .i64 pS, .slice aS S.length cS] 26)).alloc (show w.heap.size ≤ (w.alloc (.cells #[.int .i64 pS, .slice aS S.length cS] 26)).heap.size from (((Below.refl _ _).alloc (Nat.le_refl _) (.cells #[.int .i64 pS, .slice aS S.length cS] 26))).size) (.cells #[.slice ax x.length cx] 24)) (show w.heap.size ≤ ((w.alloc (.cells #[.int .i64 pS, .slice aS S.length cS] 26)).alloc (.cells #[.slice ax x.length cx] 24)).heap.size from ((((Below.refl _ _).alloc (Nat.le_refl _) (.cells #[.int .i64 pS, .slice aS S.length cS] 26)).alloc (show w.heap.size ≤ (w.alloc (.cells #[.int .i64 pS, .slice aS S.length cS] 26)).heap.size from (((Below.refl _ _).alloc (Nat.le_refl _) (.cells #[.int .i64 pS, .slice aS S.length cS] 26))).size) (.cells #[.slice ax x.length cx] 24))).size) B3.out)).size) (.cells (madeCells #[.int .i64 0] x.length) 2))).size) hlx HNB.out).mono ?_); rintro e w5 ⟨bT, D, rfl, lT, uT, oT, tT, b5⟩; have B5 := Lib.hid b5; have K5_0_0 := (b5.cell (p := ⟨w.heap.size, 0, none⟩) (Nat.lt_of_lt_of_le (show w.heap.size < (w.alloc (.cells #[.int .i64 pS, .slice aS S.length cS] 26)).heap.size by simp) (Nat.le_trans (Nat.le_trans (Nat.le_trans (Nat.le_refl _) (size_alloc (w.alloc (.cells #[.int .i64 pS, .slice aS S.length cS] 26)) (.cells #[.slice ax x.length cx] 24))) B3.out.size) (size_alloc w3 (.cells (madeCells #[.int .i64 0] x.length) 2))))).trans K4_0_0; clear K4_0_0; have K5_0_1 := (b5.cell (p := ⟨w.heap.size, 1, none⟩) (Nat.lt_of_lt_of_le (show w.heap.size < (w.alloc (.cells #[.int .i64 pS, .slice aS S.length cS] 26)).heap.size by simp) (Nat.le_trans (Nat.le_trans (Nat.le_trans (Nat.le_refl _) (size_alloc (w.alloc (.cells #[.int .i64 pS, .slice aS S.length cS] 26)) (.cells #[.slice ax x.length cx] 24))) B3.out.size) (size_alloc w3 (.cells (madeCells #[.int .i64 0] x.length) 2))))).trans K4_0_1; clear K4_0_1; have HOT := Lib.hid oT; have HTM := Lib.hid tT; have z5 := b5.size; clear oT tT; clear b5) | (at_range; refine wpList_range_own _ rfl _ 93 rfl 3 2 lawK Try.underlying93 (plainElem (H := Unit) Try.prog 2) bT x.length D rfl HOT.out ?_; intro w6 hrg0 hg0 hs0))
      go_frame
      have HROW : Hid (RowOwn w6 w3.heap.size 0 x.length (fl x (Maps.has D) (pg x k))) := by
        have h := (RowOwn.start w3 x.length 2).stay (w' := w5) (B5.out.block _ (by simp))
        exact (h.stay (hg0.block _ (by simp at z5; omega) (by simp))).congr (fun j hj => (fl_start HTM.out _ hj).symm)
      have HBW : Hid (Below w.heap.size w w6) := ((below_step ((below_step (((Below.refl _ _).alloc (Nat.le_refl _) (.cells #[.int .i64 pS, .slice aS S.length cS] 26)).alloc (show w.heap.size ≤ (w.alloc (.cells #[.int .i64 pS, .slice aS S.length cS] 26)).heap.size from (((Below.refl _ _).alloc (Nat.le_refl _) (.cells #[.int .i64 pS, .slice aS S.length cS] 26))).size) (.cells #[.slice ax x.length cx] 24)) (show w.heap.size ≤ ((w.alloc (.cells #[.int .i64 pS, .slice aS S.length cS] 26)).alloc (.cells #[.slice ax x.length cx] 24)).heap.size from ((((Below.refl _ _).alloc (Nat.le_refl _) (.cells #[.int .i64 pS, .slice aS S.length cS] 26)).alloc (show w.heap.size ≤ (w.alloc (.cells #[.int .i64 pS, .slice aS S.length cS] 26)).heap.size from (((Below.refl _ _).alloc (Nat.le_refl _) (.cells #[.int .i64 pS, .slice aS S.length cS] 26))).size) (.cells #[.slice ax x.length cx] 24))).size) B3.out).alloc (show w.heap.size ≤ w3.heap.size from ((below_step (((Below.refl _ _).alloc (Nat.le_refl _) (.cells #[.int .i64 pS, .slice aS S.length cS] 26)).alloc (show w.heap.size ≤ (w.alloc (.cells #[.int .i64 pS, .slice aS S.length cS] 26)).heap.size from (((Below.refl _ _).alloc (Nat.le_refl _) (.cells #[.int .i64 pS, .slice aS S.length cS] 26))).size) (.cells #[.slice ax x.length cx] 24)) (show w.heap.size ≤ ((w.alloc (.cells #[.int .i64 pS, .slice aS S.length cS] 26)).alloc (.cells #[.slice ax x.length cx] 24)).heap.size from ((((Below.refl _ _).alloc (Nat.le_refl _) (.cells #[.int .i64 pS, .slice aS S.length cS] 26)).alloc (show w.heap.size ≤ (w.alloc (.cells #[.int .i64 pS, .slice aS S.length cS] 26)).heap.size from (((Below.refl _ _).alloc (Nat.le_refl _) (.cells #[.int .i64 pS, .slice aS S.length cS] 26))).size) (.cells #[.slice ax x.length cx] 24))).size) B3.out)).size) (.cells (madeCells #[.int .i64 0] x.length) 2)) (show w.heap.size ≤ (w3.alloc (.cells (madeCells #[.int .i64 0] x.length) 2)).heap.size from (((below_step (((Below.refl _ _).alloc (Nat.le_refl _) (.cells #[.int .i64 pS, .slice aS S.length cS] 26)).alloc (show w.heap.size ≤ (w.alloc (.cells #[.int .i64 pS, .slice aS S.length cS] 26)).heap.size from (((Below.refl _ _).alloc (Nat.le_refl _) (.cells #[.int .i64 pS, .slice aS S.length cS] 26))).size) (.cells #[.slice ax x.length cx] 24)) (show w.heap.size ≤ ((w.alloc (.cells #[.int .i64 pS, .slice aS S.length cS] 26)).alloc (.cells #[.slice ax x.length cx] 24)).heap.size from ((((Below.refl _ _).alloc (Nat.le_refl _) (.cells #[.int .i64 pS, .slice aS S.length cS] 26)).alloc (show w.heap.size ≤ (w.alloc (.cells #[.int .i64 pS, .slice aS S.length cS] 26)).heap.size from (((Below.refl _ _).alloc (Nat.le_refl _) (.cells #[.int .i64 pS, .slice aS S.length cS] 26))).size) (.cells #[.slice ax x.length cx] 24))).size) B3.out).alloc (show w.heap.size ≤ w3.heap.size from ((below_step (((Below.refl _ _).alloc (Nat.le_refl _) (.cells #[.int .i64 pS, .slice aS S.length cS] 26)).alloc (show w.heap.size ≤ (w.alloc (.cells #[.int .i64 pS, .slice aS S.length cS] 26)).heap.size from (((Below.refl _ _).alloc (Nat.le_refl _) (.cells #[.int .i64 pS, .slice aS S.length cS] 26))).size) (.cells #[.slice ax x.length cx] 24)) (show w.heap.size ≤ ((w.alloc (.cells #[.int .i64 pS, .slice aS S.length cS] 26)).alloc (.cells #[.slice ax x.length cx] 24)).heap.size from ((((Below.refl _ _).alloc (Nat.le_refl _) (.cells #[.int .i64 pS, .slice aS S.length cS] 26)).alloc (show w.heap.size ≤ (w.alloc (.cells #[.int .i64 pS, .slice aS S.length cS] 26)).heap.size from (((Below.refl _ _).alloc (Nat.le_refl _) (.cells #[.int .i64 pS, .slice aS S.length cS] 26))).size) (.cells #[.slice ax x.length cx] 24))).size) B3.out)).size) (.cells (madeCells #[.int .i64 0] x.length) 2))).size) B5.out)).grown hg0 ((below_step ((below_step (((Below.refl _ _).alloc (Nat.le_refl _) (.cells #[.int .i64 pS, .slice aS S.length cS] 26)).alloc (show w.heap.size ≤ (w.alloc (.cells #[.int .i64 pS, .slice aS S.length cS] 26)).heap.size from (((Below.refl _ _).alloc (Nat.le_refl _) (.cells #[.int .i64 pS, .slice aS S.length cS] 26))).size) (.cells #[.slice ax x.length cx] 24)) (show w.heap.size ≤ ((w.alloc (.cells #[.int .i64 pS, .slice aS S.length cS] 26)).alloc (.cells #[.slice ax x.length cx] 24)).heap.size from ((((Below.refl _ _).alloc (Nat.le_refl _) (.cells #[.int .i64 pS, .slice aS S.length cS] 26)).alloc (show w.heap.size ≤ (w.alloc (.cells #[.int .i64 pS, .slice aS S.length cS] 26)).heap.size from (((Below.refl _ _).alloc (Nat.le_refl _) (.cells #[.int .i64 pS, .slice aS S.length cS] 26))).size) (.cells #[.slice ax x.length cx] 24))).size) B3.out).alloc (show w.heap.size ≤ w3.heap.size from ((below_step (((Below.refl _ _).alloc (Nat.le_refl _) (.cells #[.int .i64 pS, .slice aS S.length cS] 26)).alloc (show w.heap.size ≤ (w.alloc (.cells #[.int .i64 pS, .slice aS S.length cS] 26)).heap.size from (((Below.refl _ _).alloc (Nat.le_refl _) (.cells #[.int .i64 pS, .slice aS S.length cS] 26))).size) (.cells #[.slice ax x.length cx] 24)) (show w.heap.size ≤ ((w.alloc (.cells #[.int .i64 pS, .slice aS S.length cS] 26)).alloc (.cells #[.slice ax x.length cx] 24)).heap.size from ((((Below.refl _ _).alloc (Nat.le_refl _) (.cells #[.int .i64 pS, .slice aS S.length cS] 26)).alloc (show w.heap.size ≤ (w.alloc (.cells #[.int .i64 pS, .slice aS S.length cS] 26)).heap.size from (((Below.refl _ _).alloc (Nat.le_refl _) (.cells #[.int .i64 pS, .slice aS S.length cS] 26))).size) (.cells #[.slice ax x.length cx] 24))).size) B3.out)).size) (.cells (madeCells #[.int .i64 0] x.length) 2)) (show w.heap.size ≤ (w3.alloc (.cells (madeCells #[.int .i64 0] x.length) 2)).heap.size from (((below_step (((Below.refl _ _).alloc (Nat.le_refl _) (.cells #[.int .i64 pS, .slice aS S.length cS] 26)).alloc (show w.heap.size ≤ (w.alloc (.cells #[.int .i64 pS, .slice aS S.length cS] 26)).heap.size from (((Below.refl _ _).alloc (Nat.le_refl _) (.cells #[.int .i64 pS, .slice aS S.length cS] 26))).size) (.cells #[.slice ax x.length cx] 24)) (show w.heap.size ≤ ((w.alloc (.cells #[.int .i64 pS, .slice aS S.length cS] 26)).alloc (.cells #[.slice ax x.length cx] 24)).heap.size from ((((Below.refl _ _).alloc (Nat.le_refl _) (.cells #[.int .i64 pS, .slice aS S.length cS] 26)).alloc (show w.heap.size ≤ (w.alloc (.cells #[.int .i64 pS, .slice aS S.length cS] 26)).heap.size from (((Below.refl _ _).alloc (Nat.le_refl _) (.cells #[.int .i64 pS, .slice aS S.length cS] 26))).size) (.cells #[.slice ax x.length cx] 24))).size) B3.out).alloc (show w.heap.size ≤ w3.heap.size from ((below_step (((Below.refl _ _).alloc (Nat.le_refl _) (.cells #[.int .i64 pS, .slice aS S.length cS] 26)).alloc (show w.heap.size ≤ (w.alloc (.cells #[.int .i64 pS, .slice aS S.length cS] 26)).heap.size from (((Below.refl _ _).alloc (Nat.le_refl _) (.cells #[.int .i64 pS, .slice aS S.length cS] 26))).size) (.cells #[.slice ax x.length cx] 24)) (show w.heap.size ≤ ((w.alloc (.cells #[.int .i64 pS, .slice aS S.length cS] 26)).alloc (.cells #[.slice ax x.length cx] 24)).heap.size from ((((Below.refl _ _).alloc (Nat.le_refl _) (.cells #[.int .i64 pS, .slice aS S.length cS] 26)).alloc (show w.heap.size ≤ (w.alloc (.cells #[.int .i64 pS, .slice aS S.length cS] 26)).heap.size from (((Below.refl _ _).alloc (Nat.le_refl _) (.cells #[.int .i64 pS, .slice aS S.length cS] 26))).size) (.cells #[.slice ax x.length cx] 24))).size) B3.out)).size) (.cells (madeCells #[.int .i64 0] x.length) 2))).size) B5.out)).size (fun j hj => by cases hj)
      have hw3 : w.heap.size ≤ w3.heap.size := ((below_step (((Below.refl _ _).alloc (Nat.le_refl _) (.cells #[.int .i64 pS, .slice aS S.length cS] 26)).alloc (show w.heap.size ≤ (w.alloc (.cells #[.int .i64 pS, .slice aS S.length cS] 26)).heap.size from (((Below.refl _ _).alloc (Nat.le_refl _) (.cells #[.int .i64 pS, .slice aS S.length cS] 26))).size) (.cells #[.slice ax x.length cx] 24)) (show w.heap.size ≤ ((w.alloc (.cells #[.int .i64 pS, .slice aS S.length cS] 26)).alloc (.cells #[.slice ax x.length cx] 24)).heap.size from ((((Below.refl _ _).alloc (Nat.le_refl _) (.cells #[.int .i64 pS, .slice aS S.length cS] 26)).alloc (show w.heap.size ≤ (w.alloc (.cells #[.int .i64 pS, .slice aS S.length cS] 26)).heap.size from (((Below.refl _ _).alloc (Nat.le_refl _) (.cells #[.int .i64 pS, .slice aS S.length cS] 26))).size) (.cells #[.slice ax x.length cx] 24))).size) B3.out)).size
      have hb3 : w3.heap.size < bT := by simp at lT; omega
      clear hmk
      go_loopw [10] (fun _ wr => ∃ (left : Lit → Bool) (cnt : Nat), wr.ranges Try.prog 3 (plainElem (H := Unit) Try.prog 2) bT w5.heap.size x.length D left cnt ∧ Sub left D ∧ RowOwn wr w3.heap.size 0 x.length (fl x left (pg x k)) ∧ Below w.heap.size w wr ∧ w6.heap.size ≤ wr.heap.size) (fun _ wr => wr.rangeLeft bT w5.heap.size)
      case atStart => exact ⟨_, _, hrg0, sub_refl D, HROW.out, HBW.out, Nat.le_refl _⟩
      case round =>
        obtain ⟨left, cnt, hrg, hsub, hro, hnx, hsz⟩ := hrel
        have HRO := Lib.hid hro
        have HNX := Lib.hid hnx
        have HSUB := Lib.hid hsub
        clear hro hnx hsub
        go_wp2_with (first | (at_next; refine wpList_next_ranges_ii _ rfl _ rfl 3 2 .i64 .i64 lawK Try.underlying3 Try.underlying2 bT w5.heap.size x.length D left cnt rfl hrg ?_ ?_) | go_in)
        · intro hc0 hl0
          have HE : Hid (RowOwn wr w3.heap.size 0 x.length (pg x k)) := HRO.out.congr (fun j hj => by
            rw [fl_end hl0]
            by_cases h : x.getD j 0 ≠ 0
            · rw [if_pos h]
            · rw [if_neg h]; unfold pg; have h2 : x.getD j 0 = 0 := by simpa using h
              rw [h2]; split <;> rfl)
          go_wp2
          go_ret2
          rw [HV.out.1, HV.out.2]
          exact ImplR.new HE.out hw3 (by omega) HNX.out
        · intro kx c w7 cnt1 hwx hwc hlx' hat hrg1 hlt hg1 hs1 hen
          obtain ⟨j, hj, rfl, hcx, hne, htd⟩ := HTM.out.come HSUB.out hlx' hat
          have HR1 : Hid (RowOwn w7 w3.heap.size 0 x.length (fl x left (pg x k))) := HRO.out.stay (hg1.block _ (by omega) (by simp; omega))
          have HB7 : Hid (Below w.heap.size w w7) := HNX.out.grown hg1 (by omega) (fun i hi => by cases hi; omega)
          have HCX := Lib.hid hcx
          have HNE := Lib.hid hne
          have HRG1 := Lib.hid hrg1
          have hz7 := hg1.size
          have c0 := HR1.out.cell j hj
          have f0 := HR1.out.free j hj
          rw [Nat.zero_add] at c0 f0
          have hj1 : (j : Int) < (x.length : Int) := by omega
          clear hcx hne
          by_cases hkg : ((gr j : Nat) : Int) = k
          · have HG : Hid (c = pg x k j) := by show _ = _; unfold pg; rw [if_pos hkg, HCX.out]
            have e1 : (((gr j : Nat) : Int) == k) = true := by simpa using hkg
            clear hkg
            go_wp2_with (first | (go_at_call 110; refine (gradeOf_any j (by omega) _).mono ?_; rintro e w8 ⟨rfl, rfl⟩) | go_in)
            go_roundw
            case rel => exact ⟨_, cnt1, ranges_set HRG1.out w3.heap.size j (.int .i64 c) (by omega) (by omega), sub_strike HSUB.out _, row_put0 HR1.out hj (fun i _ => by rw [HG.out]; exact fl_step HNE.out i), HB7.out.trans ((wrote_put0 (Wrote.refl w3.heap.size 0 x.length _) hj _).belowB hw3), by simp [World.setCell]; omega⟩
            case measure => rw [(ranges_set HRG1.out w3.heap.size j (.int .i64 c) (by omega) (by omega)).left_eq, hrg.left_eq]; exact hlt
          · have HG : Hid (pg x k j = 0) := by show _ = _; unfold pg; rw [if_neg hkg]
            have e1 : (((gr j : Nat) : Int) == k) = false := by simpa using hkg
            clear hkg
            go_wp2_with (first | (go_at_call 110; refine (gradeOf_any j (by omega) _).mono ?_; rintro e w8 ⟨rfl, rfl⟩) | go_in)
            go_roundw
            case rel => exact ⟨_, cnt1, HRG1.out, sub_strike HSUB.out _, HR1.out.congr (fun i _ => fl_skip HG.out i), HB7.out, by omega⟩
            case measure => rw [HRG1.out.left_eq, hrg.left_eq]; exact hlt
    · by_cases hk0 : k < 0
      · have HV : Hid (partV pS S x k = [] ∧ partC pS S x k = 2) := by
            have e : partC pS S x k = 2 := by unfold partC; rw [if_pos hc, if_neg hk]
            exact ⟨by unfold partV; rw [if_neg (by rw [e]; decide)], e⟩
        clear hk
        clear hi hc ha
        go_enter Try.func43, Try.ntmps43
        go_wp2_with (first | (go_at_call 85; (with_reducible refine (checkM1 pS aS S cS loS tpS ax x cx lox tpx (w.heap.size + 1) _ _ _ (by simp) (HS.out.below ((Below.refl _ _).alloc (Nat.le_refl _) (.cells #[.int .i64 pS, .slice aS S.length cS] 26)) tS) (Nat.le_trans tS (((Below.refl _ _).alloc (Nat.le_refl _) (.cells #[.int .i64 pS, .slice aS S.length cS] 26))).size) sS (Hx.out.below ((Below.refl _ _).alloc (Nat.le_refl _) (.cells #[.int .i64 pS, .slice aS S.length cS] 26)) tx) (Nat.le_trans tx (((Below.refl _ _).alloc (Nat.le_refl _) (.cells #[.int .i64 pS, .slice aS S.length cS] 26))).size) sx).mono ?_); rintro e w3 ⟨rfl, b3⟩; rw [HC.out]; have B3 := Lib.hid b3; have K3_0_0 := (b3.cell (p := ⟨w.heap.size, 0, none⟩) (Nat.lt_of_lt_of_le (show w.heap.size < (w.alloc (.cells #[.int .i64 pS, .slice aS S.length cS] 26)).heap.size by simp) (Nat.le_trans (Nat.le_refl _) (size_alloc (w.alloc (.cells #[.int .i64 pS, .slice aS S.length cS] 26)) (.cells #[.slice ax x.length cx] 24))))).trans (show ((w.alloc (.cells #[.int .i64 pS, .slice aS S.length cS] 26)).alloc (.cells #[.slice ax x.length cx] 24)).cell? ⟨w.heap.size, 0, none⟩ = some (.int .i64 pS) from (World.cell?_alloc_old _ _ _ (by simp)).trans (by simp [go_sem])); have K3_0_1 := (b3.cell (p := ⟨w.heap.size, 1, none⟩) (Nat.lt_of_lt_of_le (show w.heap.size < (w.alloc (.cells #[.int .i64 pS, .slice aS S.length cS] 26)).heap.size by simp) (Nat.le_trans (Nat.le_refl _) (size_alloc (w.alloc (.cells #[.int .i64 pS, .slice aS S.length cS] 26)) (.cells #[.slice ax x.length cx] 24))))).trans (show ((w.alloc (.cells #[.int .i64 pS, .slice aS S.length cS] 26)).alloc (.cells #[.slice ax x.length cx] 24)).cell? ⟨w.heap.size, 1, none⟩ = some (.slice aS S.length cS) from (World.cell?_alloc_old _ _ _ (by simp)).trans (by simp [go_sem])); clear b3))
        go_ret2
        rw [HV.out.1, HV.out.2]
        exact ⟨none, 0, rfl, .inl rfl, (below_step (((Below.refl _ _).alloc (Nat.le_refl _) (.cells #[.int .i64 pS, .slice aS S.length cS] 26)).alloc (show w.heap.size ≤ (w.alloc (.cells #[.int .i64 pS, .slice aS S.length cS] 26)).heap.size from (((Below.refl _ _).alloc (Nat.le_refl _) (.cells #[.int .i64 pS, .slice aS S.length cS] 26))).size) (.cells #[.slice ax x.length cx] 24)) (show w.heap.size ≤ ((w.alloc (.cells #[.int .i64 pS, .slice aS S.length cS] 26)).alloc (.cells #[.slice ax x.length cx] 24)).heap.size from ((((Below.refl _ _).alloc (Nat.le_refl _) (.cells #[.int .i64 pS, .slice aS S.length cS] 26)).alloc (show w.heap.size ≤ (w.alloc (.cells #[.int .i64 pS, .slice aS S.length cS] 26)).heap.size from (((Below.refl _ _).alloc (Nat.le_refl _) (.cells #[.int .i64 pS, .slice aS S.length cS] 26))).size) (.cells #[.slice ax x.length cx] 24))).size) B3.out)⟩
      · have HV : Hid (partV pS S x k = [] ∧ partC pS S x k = 2) := by
            have e : partC pS S x k = 2 := by unfold partC; rw [if_pos hc, if_neg hk]
            exact ⟨by unfold partV; rw [if_neg (by rw [e]; decide)], e⟩
        have hk1 : (S.length : Int) < k := by omega
        clear hk
        clear hi hc ha
        go_enter Try.func43, Try.ntmps43
        go_wp2_with (first | (go_at_call 85; (with_reducible refine (checkM1 pS aS S cS loS tpS ax x cx lox tpx (w.heap.size + 1) _ _ _ (by simp) (HS.out.below ((Below.refl _ _).alloc (Nat.le_refl _) (.cells #[.int .i64 pS, .slice aS S.length cS] 26)) tS) (Nat.le_trans tS (((Below.refl _ _).alloc (Nat.le_refl _) (.cells #[.int .i64 pS, .slice aS S.length cS] 26))).size) sS (Hx.out.below ((Below.refl _ _).alloc (Nat.le_refl _) (.cells #[.int .i64 pS, .slice aS S.length cS] 26)) tx) (Nat.le_trans tx (((Below.refl _ _).alloc (Nat.le_refl _) (.cells #[.int .i64 pS, .slice aS S.length cS] 26))).size) sx).mono ?_); rintro e w3 ⟨rfl, b3⟩; rw [HC.out]; have B3 := Lib.hid b3; have K3_0_0 := (b3.cell (p := ⟨w.heap.size, 0, none⟩) (Nat.lt_of_lt_of_le (show w.heap.size < (w.alloc (.cells #[.int .i64 pS, .slice aS S.length cS] 26)).heap.size by simp) (Nat.le_trans (Nat.le_refl _) (size_alloc (w.alloc (.cells #[.int .i64 pS, .slice aS S.length cS] 26)) (.cells #[.slice ax x.length cx] 24))))).trans (show ((w.alloc (.cells #[.int .i64 pS, .slice aS S.length cS] 26)).alloc (.cells #[.slice ax x.length cx] 24)).cell? ⟨w.heap.size, 0, none⟩ = some (.int .i64 pS) from (World.cell?_alloc_old _ _ _ (by simp)).trans (by simp [go_sem])); have K3_0_1 := (b3.cell (p := ⟨w.heap.size, 1, none⟩) (Nat.lt_of_lt_of_le (show w.heap.size < (w.alloc (.cells #[.int .i64 pS, .slice aS S.length cS] 26)).heap.size by simp) (Nat.le_trans (Nat.le_refl _) (size_alloc (w.alloc (.cells #[.int .i64 pS, .slice aS S.length cS] 26)) (.cells #[.slice ax x.length cx] 24))))).trans (show ((w.alloc (.cells #[.int .i64 pS, .slice aS S.length cS] 26)).alloc (.cells #[.slice ax x.length cx] 24)).cell? ⟨w.heap.size, 1, none⟩ = some (.slice aS S.length cS) from (World.cell?_alloc_old _ _ _ (by simp)).trans (by simp [go_sem])); clear b3))
        go_ret2
        rw [HV.out.1, HV.out.2]
        exact ⟨none, 0, rfl, .inl rfl, (below_step (((Below.refl _ _).alloc (Nat.le_refl _) (.cells #[.int .i64 pS, .slice aS S.length cS] 26)).alloc (show w.heap.size ≤ (w.alloc (.cells #[.int .i64 pS, .slice aS S.length cS] 26)).heap.size from (((Below.refl _ _).alloc (Nat.le_refl _) (.cells #[.int .i64 pS, .slice aS S.length cS] 26))).size) (.cells #[.slice ax x.length cx] 24)) (show w.heap.size ≤ ((w.alloc (.cells #[.int .i64 pS, .slice aS S.length cS] 26)).alloc (.cells #[.slice ax x.length cx] 24)).heap.size from ((((Below.refl _ _).alloc (Nat.le_refl _) (.cells #[.int .i64 pS, .slice aS S.length cS] 26)).alloc (show w.heap.size ≤ (w.alloc (.cells #[.int .i64 pS, .slice aS S.length cS] 26)).heap.size from (((Below.refl _ _).alloc (Nat.le_refl _) (.cells #[.int .i64 pS, .slice aS S.length cS] 26))).size) (.cells #[.slice ax x.length cx] 24))).size) B3.out)⟩
  · have HI := Lib.hid hi
    have HC := Lib.hid hc
    have hne : ¬ codeMv pS S [x] = 0 := by rw [hc]; decide
    have HV : Hid (partV pS S x k = [] ∧ partC pS S x k = codeMv pS S [x]) := by
      have e : partC pS S x k = codeMv pS S [x] := if_neg hne
      exact ⟨if_neg (by rw [e]; exact hne), e⟩
    clear hi hc hne ha
    go_enter Try.func43, Try.ntmps43
    go_wp2_with (first | (go_at_call 85; (with_reducible refine (checkM1 pS aS S cS loS tpS ax x cx lox tpx (w.heap.size + 1) _ _ _ (by simp) (HS.out.below ((Below.refl _ _).alloc (Nat.le_refl _) (.cells #[.int .i64 pS, .slice aS S.length cS] 26)) tS) (Nat.le_trans tS (((Below.refl _ _).alloc (Nat.le_refl _) (.cells #[.int .i64 pS, .slice aS S.length cS] 26))).size) sS (Hx.out.below ((Below.refl _ _).alloc (Nat.le_refl _) (.cells #[.int .i64 pS, .slice aS S.length cS] 26)) tx) (Nat.le_trans tx (((Below.refl _ _).alloc (Nat.le_refl _) (.cells #[.int .i64 pS, .slice aS S.length cS] 26))).size) sx).mono ?_); rintro e w3 ⟨rfl, b3⟩; rw [HC.out]; have B3 := Lib.hid b3; have K3_0_0 := (b3.cell (p := ⟨w.heap.size, 0, none⟩) (Nat.lt_of_lt_of_le (show w.heap.size < (w.alloc (.cells #[.int .i64 pS, .slice aS S.length cS] 26)).heap.size by simp) (Nat.le_trans (Nat.le_refl _) (size_alloc (w.alloc (.cells #[.int .i64 pS, .slice aS S.length cS] 26)) (.cells #[.slice ax x.length cx] 24))))).trans (show ((w.alloc (.cells #[.int .i64 pS, .slice aS S.length cS] 26)).alloc (.cells #[.slice ax x.length cx] 24)).cell? ⟨w.heap.size, 0, none⟩ = some (.int .i64 pS) from (World.cell?_alloc_old _ _ _ (by simp)).trans (by simp [go_sem])); have K3_0_1 := (b3.cell (p := ⟨w.heap.size, 1, none⟩) (Nat.lt_of_lt_of_le (show w.heap.size < (w.alloc (.cells #[.int .i64 pS, .slice aS S.length cS] 26)).heap.size by simp) (Nat.le_trans (Nat.le_refl _) (size_alloc (w.alloc (.cells #[.int .i64 pS, .slice aS S.length cS] 26)) (.cells #[.slice ax x.length cx] 24))))).trans (show ((w.alloc (.cells #[.int .i64 pS, .slice aS S.length cS] 26)).alloc (.cells #[.slice ax x.length cx] 24)).cell? ⟨w.heap.size, 1, none⟩ = some (.slice aS S.length cS) from (World.cell?_alloc_old _ _ _ (by simp)).trans (by simp [go_sem])); clear b3))
    go_ret2
    rw [HV.out.1, HV.out.2, HC.out]
    exact ⟨none, 0, rfl, .inl rfl, (below_step (((Below.refl _ _).alloc (Nat.le_refl _) (.cells #[.int .i64 pS, .slice aS S.length cS] 26)).alloc (show w.heap.size ≤ (w.alloc (.cells #[.int .i64 pS, .slice aS S.length cS] 26)).heap.size from (((Below.refl _ _).alloc (Nat.le_refl _) (.cells #[.int .i64 pS, .slice aS S.length cS] 26))).size) (.cells #[.slice ax x.length cx] 24)) (show w.heap.size ≤ ((w.alloc (.cells #[.int .i64 pS, .slice aS S.length cS] 26)).alloc (.cells #[.slice ax x.length cx] 24)).heap.size from ((((Below.refl _ _).alloc (Nat.le_refl _) (.cells #[.int .i64 pS, .slice aS S.length cS] 26)).alloc (show w.heap.size ≤ (w.alloc (.cells #[.int .i64 pS, .slice aS S.length cS] 26)).heap.size from (((Below.refl _ _).alloc (Nat.le_refl _) (.cells #[.int .i64 pS, .slice aS S.length cS] 26))).size) (.cells #[.slice ax x.length cx] 24))).size) B3.out)⟩

end Go.Proofs.Ytcamegdjdjacpaa
