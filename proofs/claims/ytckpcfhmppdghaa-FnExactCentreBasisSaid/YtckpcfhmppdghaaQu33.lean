/-
  Inverses of multivectors: the model's contract.
  Conditions: the lists are nil or rows of known cells, of at most 1048576 numbers.
  Fewer equations than unknowns; how many vectors a kernel's basis has; ranks and scaled columns. No Go in sight.
  No conditions.
-/
import Derived.Test.YtckpcfhmppdghaaQu19
import Derived.Test.YtckpcfhmppdghaaQu29
import Derived.Test.YtckpcfhmppdghaaQu31
import Derived.Test.YtckpcfhmppdghaaQu32
import Derived.Deep.RegionHeld3
import Derived.Deep.DeepCutAuto
namespace Go.Proofs.Ytckpcfhmppdghaa
open Go.RowKit
set_option linter.unusedVariables false

theorem bl_le4 {S : List Int} (h : S.length ≤ 4) : bl S ≤ 16 := Nat.pow_le_pow_right (by decide) h
theorem bas_isQ {p : Int} {c : Nat} {A : List (List Int)} (h : RowsX p c A) : IsBas p c A (bas p A) := by
  have hp := prm_bd h.prime
  obtain ⟨m, P, d, he⟩ := elm_ex h.prime h.len h.rng A.length (Nat.le_refl _)
  rw [List.take_length] at he
  have hb := (he.kept h.prime).bas
  have hb2 : IsBas p (rw' A 0).length A m := by rw [h.len0]; exact hb
  rw [← bas_eq (by omega) hb2]
  exact hb
theorem left_len (p : Int) (S x : List Int) : (leftM p S x).length = bl S := mk_len _ _ _
theorem left_rl {p : Int} {S x : List Int} {i : Nat} (h : i < bl S) : (rw' (leftM p S x) i).length = bl S := mk_rowLen _ h
theorem left_lst {p : Int} {S x : List Int} (hs : isSp p S = true) (h4 : S.length ≤ 4) : Lst 1 p (leftM p S x) where
  prime := (isSp_iff.1 hs).prime
  lo := by rw [left_len]; exact bl_pos S
  hi := by rw [left_len]; exact bl_le4 h4
  len i hi := by rw [left_len] at hi; rw [left_rl hi, left_rl (bl_pos S)]
  c0 i hi := by rw [left_len] at hi; rw [left_rl hi]; exact bl_pos S
  c1 i hi := by rw [left_len] at hi; rw [left_rl hi]; exact bl_le4 h4
  all i hi := by
    rw [left_len] at hi
    have hp := prm_bd (isSp_iff.1 hs).prime
    rw [List.all_eq_true]
    intro y hy
    obtain ⟨j, hj, rfl⟩ := List.getElem_of_mem hy
    have hj2 := hj
    rw [left_rl hi] at hj2
    have e : (rw' (leftM p S x) i)[j] = prodF p S x (bladeM S j) i := by
      rw [← getD_at hj]; exact mk_at _ hi hj2
    rw [e]
    exact inr_iff.2 (prodF_bd (by omega) S x _ i)
theorem one_len (S : List Int) : (mOne S).length = bl S := mkR_len _ _
noncomputable def invOk (p : Int) (S x : List Int) : Bool := solOk p (leftM p S x) (mOne S)
noncomputable def invY (p : Int) (S x : List Int) : List Int := solL p (leftM p S x) (mOne S)
/-- What solves the equation is the inverse. -/
theorem inv_is {p : Int} {S x : List Int} (hs : isSp p S = true) (h4 : S.length ≤ 4) (hok : invOk p S x = true) : isMv p S (invY p S x) = true ∧ prodM p S (invY p S x) x = mOne S := by
  have hp := prm_bd (isSp_iff.1 hs).prime
  have hL := left_lst (x := x) hs h4
  have h0 : (rw' (leftM p S x) 0).length = bl S := left_rl (bl_pos S)
  have hX := col_rows (v := mOne S) hL (by rw [one_len, left_len]) (by
    rw [List.all_eq_true]
    intro y hy
    obtain ⟨j, hj, rfl⟩ := List.getElem_of_mem hy
    have h := Mv.num (one_mv hs) j hj
    rw [getD_at hj] at h
    exact inr_iff.2 h)
  rw [h0] at hX
  obtain ⟨h1, h2, h3⟩ := sol_solves (p := p) (c := bl S) (A := leftM p S x) (v := mOne S) (by omega) (fun i hi => by rw [left_len] at hi; exact left_rl hi) (by rw [left_len]; exact bl_pos S) (by rw [one_len, left_len]) (bas_isQ hX) hok
  have hy : isMv p S (invY p S x) = true := isMv_of h2 (fun j hj => h1 j (by rw [show (invY p S x).length = bl S from h2] at hj; exact hj))
  have hxy : prodM p S x (invY p S x) = mOne S := by
    unfold prodM mOne
    apply mkR_congr
    intro i hi
    have h := h3 i (by rw [left_len]; exact hi)
    have e : sm (bl S) (fun j => at' (leftM p S x) i j * (solL p (leftM p S x) (mOne S)).getD j 0) = sm (bl S) (fun j => prodF p S x (bladeM S j) i * (invY p S x).getD j 0) := sm_congr fun j hj => by
      rw [show at' (leftM p S x) i j = prodF p S x (bladeM S j) i from mk_at _ hi hj]; rfl
    rw [e, left_prod hi] at h
    have h5 := Mv.num (one_mv hs) i (by rw [one_len]; exact hi)
    rw [Int.emod_eq_of_lt h5.1 h5.2] at h
    rw [h]
    exact mkR_at _ hi
  exact ⟨hy, inv_both hs hy hxy⟩
def InvRet (p : Int) (S x : List Int) (w : World) (e : Ending) (w' : World) : Prop :=
  if invOk p S x = true then ∃ r k, e = .returned (.tuple #[.slice r (invY p S x).length k, .bool true]) ∧ RowIn w.heap.size w'.heap.size w' r (invY p S x) ∧ Below w.heap.size w w'
  else ∃ k, e = .returned (.tuple #[.slice none 0 k, .bool false]) ∧ Below w.heap.size w w'
theorem one_allQ {p : Int} {S : List Int} (hs : isSp p S = true) : (mOne S).all (inr p) = true := by
  rw [List.all_eq_true]
  intro y hy
  obtain ⟨j, hj, rfl⟩ := List.getElem_of_mem hy
  have h := Mv.num (one_mv hs) j hj
  rw [getD_at hj] at h
  exact inr_iff.2 h

theorem solve_n (p : Int) (a : Option Addr) (A : List (List Int)) (ca lo tp : Nat) (av : Option Addr) (v : List Int) (cv lov tpv : Nat) (w : World) (hm : MatIn lo tp w a A) (ht : tp ≤ w.heap.size) (hv : RowIn lov tpv w av v) (tv : tpv ≤ w.heap.size) (hA : Lst 1 p A) (hvl : v.length = A.length) (hvn : v.all (inr p) = true) :
    Calls Try.prog 77 #[.int .i64 p, .slice a A.length ca, .slice av v.length cv] w (SolRet p A v w) := l02Solve_any p a A ca lo tp av v cv lov tpv w hm ht hv tv hA hvl hvn

set_option maxRecDepth 100000 in
set_option maxHeartbeats 3200000 in
theorem l04Inverse_any (p : Int) (aS : Option Addr) (S : List Int) (cS loS tpS : Nat) (ax : Option Addr) (x : List Int) (cx lox tpx : Nat) (w : World) (hs : isSp p S = true) (h4 : S.length ≤ 4) (hS : RowIn loS tpS w aS S) (tS : tpS ≤ w.heap.size) (hx : RowIn lox tpx w ax x) (tx : tpx ≤ w.heap.size) (mx : isMv p S x = true) :
    Calls Try.prog 40 #[.agg #[.int .i64 p, .slice aS S.length cS], .slice ax x.length cx] w (InvRet p S x w) := by
  have HS := Lib.hid hS
  have HX := Lib.hid hx
  have HI := Lib.hid hs
  have HMX := Lib.hid mx
  have h6 := (isSp_iff.1 hs).hi
  have hbl := bl_le h6
  have HLST := Lib.hid (left_lst (x := x) hs h4)
  have HOL : Hid ((mOne S).length = (leftM p S x).length) := by show _ = _; rw [one_len, left_len]
  have HOA := Lib.hid (one_allQ hs)
  have HB0 := Lib.hid (below_alloc w (.cells #[.int .i64 p, .slice aS S.length cS] 29))
  have k0 := nw0 w (.int .i64 p) (.slice aS S.length cS) 29
  have k1 := nw1 w (.int .i64 p) (.slice aS S.length cS) 29
  clear hS hx hs mx
  go_enter Try.func40, Try.ntmps40
  go_upto_region 1 with fail
  obtain ⟨w1, hw1⟩ : ∃ z, z = w.alloc (.cells #[.int .i64 p, .slice aS S.length cS] 29) := ⟨_, rfl⟩
  rw [← hw1] at HB0 k0 k1 ⊢
  have hw0 : w.heap.size < w1.heap.size := by rw [hw1]; simp
  clear hw1
  have hs1 : Hid (w1.drew.cell? ⟨w.heap.size, 0, none⟩ = some (.int .i64 p) ∧ w1.drew.cell? ⟨w.heap.size, 1, none⟩ = some (.slice aS S.length cS)) := ⟨k0, k1⟩
  have HBD : Hid (Below w.heap.size w w1.drew) := HB0.out.drew
  have hd0 : w.heap.size < w1.drew.heap.size := hw0
  have tSd : tpS ≤ w1.drew.heap.size := by show tpS ≤ w1.heap.size; omega
  have txd : tpx ≤ w1.drew.heap.size := by show tpx ≤ w1.heap.size; omega
  go_cut [6, 7] (fun s6 s7 wx => ∃ (r : Option Addr) (k : Nat), s6 = .slice r (invY p S x).length k ∧ s7 = .bool (invOk p S x) ∧ Hid (RowIn w.heap.size wx.heap.size wx r (invY p S x) ∧ Below w.heap.size w wx ∧ wx.cell? ⟨w.heap.size, 0, none⟩ = some (.int .i64 p) ∧ wx.cell? ⟨w.heap.size, 1, none⟩ = some (.slice aS S.length cS) ∧ w.heap.size < wx.heap.size))
  case first =>
    go_region_held3 (fun w' => w'.cell? ⟨w.heap.size, 0, none⟩ = some (.int .i64 p) ∧ w'.cell? ⟨w.heap.size, 1, none⟩ = some (.slice aS S.length cS)) (first | go_keep | exact SS5.out | exact SS6.out | exact SS7.out) (first | (go_at_call 60; (with_reducible refine (l04Left_any p aS S cS loS tpS ax x cx lox tpx w1.drew HI.out (HS.out.below HBD.out tS) tSd (HX.out.below HBD.out tx) txd HMX.out).mono ?_); rintro e w5 ⟨rL, cL, rfl, o5, b5⟩; have H5 := Lib.hid (o5); have B5 := Lib.hid b5; have z5 := b5.size; have SS5 := Lib.hid (And.intro ((b5.cell (p := ⟨w.heap.size, 0, none⟩) hd0).trans hs1.out.1) ((b5.cell (p := ⟨w.heap.size, 1, none⟩) hd0).trans hs1.out.2)); have HB5 := Lib.hid (HBD.out.trans (b5.mono HBD.out.size)); have tS5 := Nat.le_trans tSd z5; have tx5 := Nat.le_trans txd z5; have hd5 := Nat.lt_of_lt_of_le hd0 z5; clear o5 b5) | (go_at_call 50; (with_reducible refine (l04One_any p aS S cS w1.drew h6).mono ?_); rintro e w5 ⟨r1, c1, rfl, o5, b5⟩; have H5 := Lib.hid (o5.row); have B5 := Lib.hid b5; have z5 := b5.size; have SS5 := Lib.hid (And.intro ((b5.cell (p := ⟨w.heap.size, 0, none⟩) hd0).trans hs1.out.1) ((b5.cell (p := ⟨w.heap.size, 1, none⟩) hd0).trans hs1.out.2)); have HB5 := Lib.hid (HBD.out.trans (b5.mono HBD.out.size)); have tS5 := Nat.le_trans tSd z5; have tx5 := Nat.le_trans txd z5; have hd5 := Nat.lt_of_lt_of_le hd0 z5; clear o5 b5) | (go_at_call 60; (with_reducible refine (l04Left_any p aS S cS loS tpS ax x cx lox tpx w5 HI.out (HS.out.below HB5.out tS) tS5 (HX.out.below HB5.out tx) tx5 HMX.out).mono ?_); rintro e w6 ⟨rL, cL, rfl, o6, b6⟩; have B6 := Lib.hid b6; have z6 := b6.size; have HLM := Lib.hid ((o6).mono HB5.out.size (Nat.le_refl _)); have HOM := Lib.hid ((H5.out.below b6 (Nat.le_refl _)).mono HBD.out.size z6); have SS6 := Lib.hid (And.intro ((b6.cell (p := ⟨w.heap.size, 0, none⟩) hd5).trans SS5.out.1) ((b6.cell (p := ⟨w.heap.size, 1, none⟩) hd5).trans SS5.out.2)); have HB6 := Lib.hid (HB5.out.trans (b6.mono HB5.out.size)); have hd6 := Nat.lt_of_lt_of_le hd5 z6; clear o6 b6) | (go_at_call 50; (with_reducible refine (l04One_any p aS S cS w5 h6).mono ?_); rintro e w6 ⟨r1, c1, rfl, o6, b6⟩; have B6 := Lib.hid b6; have z6 := b6.size; have HOM := Lib.hid ((o6.row).mono HB5.out.size (Nat.le_refl _)); have HLM := Lib.hid ((H5.out.below b6 (Nat.le_refl _)).mono HBD.out.size z6); have SS6 := Lib.hid (And.intro ((b6.cell (p := ⟨w.heap.size, 0, none⟩) hd5).trans SS5.out.1) ((b6.cell (p := ⟨w.heap.size, 1, none⟩) hd5).trans SS5.out.2)); have HB6 := Lib.hid (HB5.out.trans (b6.mono HB5.out.size)); have hd6 := Nat.lt_of_lt_of_le hd5 z6; clear o6 b6) | (go_at_call 77; (with_reducible refine (solve_n p rL (leftM p S x) cL w.heap.size w6.heap.size r1 (mOne S) c1 w.heap.size w6.heap.size w6 HLM.out (Nat.le_refl _) HOM.out (Nat.le_refl _) HLST.out HOL.out HOA.out).mono ?_); rintro e w7 ⟨r7, c7, rfl, o7, b7⟩; have O7 := Lib.hid o7; have B7 := Lib.hid b7; have z7 := b7.size; have SS7 := Lib.hid (And.intro ((b7.cell (p := ⟨w.heap.size, 0, none⟩) hd6).trans SS6.out.1) ((b7.cell (p := ⟨w.heap.size, 1, none⟩) hd6).trans SS6.out.2)); clear o7 b7))
    all_goals (go_wp2_with fail; go_meet; exact ⟨r7, c7, rfl, rfl, Lib.hid ⟨O7.out.mono HB6.out.size (Nat.le_refl _), HB6.out.trans (B7.out.mono HB6.out.size), SS7.out.1, SS7.out.2, Nat.lt_of_lt_of_le hd6 z7⟩⟩)
  case rest =>
    obtain ⟨r, k, rfl, rfl, HC⟩ := hcut
    rename World => wc
    have HBC := Lib.hid HC.out.2.1
    have hk0 := HC.out.2.2.1
    have hk1 := HC.out.2.2.2.1
    have hlc := HC.out.2.2.2.2
    have HRY := Lib.hid HC.out.1
    by_cases hok : invOk p S x = true
    · have HOK := Lib.hid hok
      have HIN := Lib.hid (inv_is HI.out h4 hok)
      have HR : Hid (∀ e w', (∃ r k, e = .returned (.tuple #[.slice r (invY p S x).length k, .bool true]) ∧ RowIn w.heap.size w'.heap.size w' r (invY p S x) ∧ Below w.heap.size w w') → InvRet p S x w e w') := fun e w' h => by unfold InvRet; rw [if_pos hok]; exact h
      rw [hok]
      have HEQ : Hid (decide (prodM p S (invY p S x) x = mOne S) = true) := decide_eq_true HIN.out.2
      have hsc : Hid (wc.drew.cell? ⟨w.heap.size, 0, none⟩ = some (.int .i64 p) ∧ wc.drew.cell? ⟨w.heap.size, 1, none⟩ = some (.slice aS S.length cS)) := ⟨hk0, hk1⟩
      have HCD : Hid (Below w.heap.size w wc.drew) := HBC.out.drew
      have hdc : w.heap.size < wc.drew.heap.size := hlc
      have tSc : tpS ≤ wc.drew.heap.size := Nat.le_trans tS HCD.out.size
      have txc : tpx ≤ wc.drew.heap.size := Nat.le_trans tx HCD.out.size
      have HRD : Hid (RowIn w.heap.size wc.drew.heap.size wc.drew r (invY p S x)) := HRY.out
      have HPL : Hid ((prodM p S (invY p S x) x).length ≤ 1048576) := by show _ ≤ _; rw [prodM_len]; omega
      clear hok hk0 hk1 hlc
      go_wp2
      go_region_held3 (fun w' => w'.cell? ⟨w.heap.size, 0, none⟩ = some (.int .i64 p) ∧ w'.cell? ⟨w.heap.size, 1, none⟩ = some (.slice aS S.length cS)) (first | exact hsc.out | go_keep | exact SS5.out | exact SS6.out | exact SS7.out) (first | (go_at_call 73; (with_reducible refine (times_own p aS S cS loS tpS r (invY p S x) k w.heap.size wc.drew.heap.size ax x cx lox tpx wc.drew HI.out (HS.out.below HCD.out tS) tSc HRD.out (Nat.le_refl _) HIN.out.1 (HX.out.below HCD.out tx) txc HMX.out).mono ?_); rintro e w5 ⟨rL, cL, rfl, o5, b5⟩; have H5 := Lib.hid o5.row; have B5 := Lib.hid b5; have z5 := b5.size; have SS5 := Lib.hid (And.intro ((b5.cell (p := ⟨w.heap.size, 0, none⟩) hdc).trans hsc.out.1) ((b5.cell (p := ⟨w.heap.size, 1, none⟩) hdc).trans hsc.out.2)); have HB5 := Lib.hid (HCD.out.trans (b5.mono HCD.out.size)); have tS5 := Nat.le_trans tSc z5; have tx5 := Nat.le_trans txc z5; have hd5 := Nat.lt_of_lt_of_le hdc z5; clear o5 b5) | (go_at_call 50; (with_reducible refine (l04One_any p aS S cS wc.drew h6).mono ?_); rintro e w5 ⟨r1, c1, rfl, o5, b5⟩; have H5 := Lib.hid o5.row; have B5 := Lib.hid b5; have z5 := b5.size; have SS5 := Lib.hid (And.intro ((b5.cell (p := ⟨w.heap.size, 0, none⟩) hdc).trans hsc.out.1) ((b5.cell (p := ⟨w.heap.size, 1, none⟩) hdc).trans hsc.out.2)); have HB5 := Lib.hid (HCD.out.trans (b5.mono HCD.out.size)); have tS5 := Nat.le_trans tSc z5; have tx5 := Nat.le_trans txc z5; have hd5 := Nat.lt_of_lt_of_le hdc z5; clear o5 b5) | (go_at_call 73; (with_reducible refine (times_own p aS S cS loS tpS r (invY p S x) k w.heap.size wc.drew.heap.size ax x cx lox tpx w5 HI.out (HS.out.below HB5.out tS) tS5 (HRD.out.below B5.out (Nat.le_refl _)) z5 HIN.out.1 (HX.out.below HB5.out tx) tx5 HMX.out).mono ?_); rintro e w6 ⟨rL, cL, rfl, o6, b6⟩; have B6 := Lib.hid b6; have z6 := b6.size; have HLM := Lib.hid (o6.row.mono HB5.out.size (Nat.le_refl _)); have HOM := Lib.hid ((H5.out.below b6 (Nat.le_refl _)).mono HCD.out.size z6); have SS6 := Lib.hid (And.intro ((b6.cell (p := ⟨w.heap.size, 0, none⟩) hd5).trans SS5.out.1) ((b6.cell (p := ⟨w.heap.size, 1, none⟩) hd5).trans SS5.out.2)); have HB6 := Lib.hid (HB5.out.trans (b6.mono HB5.out.size)); have hd6 := Nat.lt_of_lt_of_le hd5 z6; clear o6 b6) | (go_at_call 50; (with_reducible refine (l04One_any p aS S cS w5 h6).mono ?_); rintro e w6 ⟨r1, c1, rfl, o6, b6⟩; have B6 := Lib.hid b6; have z6 := b6.size; have HOM := Lib.hid (o6.row.mono HB5.out.size (Nat.le_refl _)); have HLM := Lib.hid ((H5.out.below b6 (Nat.le_refl _)).mono HCD.out.size z6); have SS6 := Lib.hid (And.intro ((b6.cell (p := ⟨w.heap.size, 0, none⟩) hd5).trans SS5.out.1) ((b6.cell (p := ⟨w.heap.size, 1, none⟩) hd5).trans SS5.out.2)); have HB6 := Lib.hid (HB5.out.trans (b6.mono HB5.out.size)); have hd6 := Nat.lt_of_lt_of_le hd5 z6; clear o6 b6) | (go_at_call 45; (with_reducible refine (l01Same_any rL r1 (prodM p S (invY p S x) x) (mOne S) cL c1 w.heap.size w6.heap.size w.heap.size w6.heap.size w6 HLM.out HOM.out HPL.out).mono ?_); rintro e w7 ⟨rfl, q7⟩; rw [HEQ.out]; have Q7 := Lib.hid q7; have SS7 := Lib.hid (And.intro ((q7.cell ⟨w.heap.size, 0, none⟩).trans SS6.out.1) ((q7.cell ⟨w.heap.size, 1, none⟩).trans SS6.out.2)); clear q7))
      all_goals
        go_wp2
        go_ret2
        refine HR.out _ _ ⟨r, k, rfl, ?_, HB6.out.trans (Q7.out.below _)⟩
        exact ((HRD.out.below (B5.out.trans (B6.out.mono z5)) (Nat.le_refl _)).mono (Nat.le_refl _) (by rw [Q7.out.size]; omega)).same (Q7.out.same _ _)
    · have hok' : invOk p S x = false := by simpa using hok
      have HR : Hid (∀ e w', (∃ k, e = .returned (.tuple #[.slice none 0 k, .bool false]) ∧ Below w.heap.size w w') → InvRet p S x w e w') := fun e w' h => by unfold InvRet; rw [if_neg hok]; exact h
      rw [hok']
      clear hok hok'
      go_wp2
      go_quiet (fail)
      go_wp2
      go_ret2
      exact HR.out _ _ ⟨0, rfl, HBC.out.trans (((Quiet.refl wc).next _).below _)⟩

end Go.Proofs.Ytckpcfhmppdghaa

namespace Go.Proofs.Ytckpcfhmppdghaa
open Go.RowKit
set_option linter.unusedVariables false

theorem snoc_len {p : Int} {c : Nat} {A m : List (List Int)} {P : Nat → Nat} {r : List Int} (hp : prm p = true) (h : Kept p c A m P) (hl : r.length = c) (hr : ∀ j, j < c → 0 ≤ num r j ∧ num r j < p) : ∃ m' P', Kept p c (A ++ [r]) m' P' ∧ m'.length ≤ m.length + 1 := by
  obtain ⟨r', h'⟩ := redu_ex hp h hl hr m.length (Nat.le_refl _)
  rcases first_ex (c := c) (num r') with hz | ⟨q, hq, q0, ql⟩
  · exact ⟨m, P, h.same h'.van hz, by omega⟩
  · have ne : ∀ i, i < m.length → P i ≠ q := fun i hi e => q0 (by rw [← e]; exact h'.zer i hi)
    obtain ⟨t, t0, t1, t2⟩ := place_exB h.red.mono ne m.length (Nat.le_refl _)
    have hs : ∀ j, j < c → num (mkR c fun j => num r' j * inv p (num r' q) % p) j = num r' j * inv p (num r' q) % p := fun j hj => mkR_at _ hj
    refine ⟨_, _, h.more (m' := mk m.length c fun i j => (at' m i j + (p - at' m i q) % p * num (mkR c fun j => num r' j * inv p (num r' q) % p) j) % p) (s := mkR c fun j => num r' j * inv p (num r' q) % p) (t := t) hp h'.van h'.zer h'.rng hq q0 ql hs (mkR_len _ _) (mk_len _ _ _) (fun i hi => mk_rowLen _ hi) (fun i hi j hj => mk_at _ hi hj) t0 t1 t2, ?_⟩
    rw [ins_len _ (by rw [mk_len]; exact t0), mk_len]
    exact Nat.le_refl _
theorem kept_len {p : Int} {c : Nat} (hp : prm p = true) (A : List (List Int)) (hl : ∀ i, i < A.length → (rw' A i).length = c) (hr : ∀ i, i < A.length → ∀ j, j < c → 0 ≤ at' A i j ∧ at' A i j < p) : ∃ m P, Kept p c A m P ∧ m.length ≤ A.length := by
  have key : ∀ n, n ≤ A.length → ∃ m P, Kept p c (A.take n) m P ∧ m.length ≤ n := by
    intro n
    induction n with
    | zero => intro _; exact ⟨[], fun _ => 0, Kept.start p c _, Nat.le_refl _⟩
    | succ n ih =>
      intro hn
      obtain ⟨m, P, h, hm⟩ := ih (by omega)
      have e : A.take (n + 1) = A.take n ++ [rw' A n] := by
        rw [List.take_add_one, show A[n]? = some (rw' A n) by unfold rw'; simp [List.getD, show n < A.length by omega]]; rfl
      rw [e]
      obtain ⟨m', P', h', hm'⟩ := snoc_len hp h (hl n (by omega)) (fun j hj => hr n (by omega) j hj)
      exact ⟨m', P', h', by omega⟩
  have h := key A.length (Nat.le_refl _)
  rw [List.take_length] at h
  exact h
theorem free_ex {p : Int} {n c : Nat} {R : Nat → Nat → Int} {P : Nat → Nat} (h : Rref p n c R P) (hn : n < c) : ∃ k, k < c ∧ ∀ i, i < n → P i ≠ k := by
  rcases Classical.em (∃ k, k < c ∧ ∀ i, i < n → P i ≠ k) with g | g
  · exact g
  · exfalso
    have hall : ∀ k, k < c → ∃ i, i < n ∧ P i = k := fun k hk => by
      rcases Classical.em (∃ i, i < n ∧ P i = k) with a | a
      · exact a
      · exact absurd ⟨k, hk, fun i hi e => a ⟨i, hi, e⟩⟩ g
    have := enum_eq (n := c) (n' := n) (P := fun i => i) (P' := P) (fun i i' h1 _ => h1) h.mono hall (fun i hi => ⟨P i, h.pv i hi, rfl⟩) n hn
    omega
/-- Fewer equations than unknowns. -/
theorem under {p : Int} (hp : prm p = true) {a b : Nat} (hab : a < b) (R : Nat → Nat → Int) : ∃ x, nul p a b R x ∧ ∃ k, k < b ∧ x k = 1 := by
  have hpb := prm_bd hp
  have hA : ∀ i, i < a → ∀ j, j < b → at' (mk a b fun i j => R i j % p) i j = R i j % p := fun i hi j hj => mk_at _ hi hj
  obtain ⟨m, P, h, hl⟩ := kept_len hp (c := b) (mk a b fun i j => R i j % p) (fun i hi => by rw [mk_len] at hi; exact mk_rowLen _ hi) (fun i hi j hj => by rw [mk_len] at hi; rw [hA i hi j hj]; exact ⟨Int.emod_nonneg _ (by omega), Int.emod_lt_of_pos _ (by omega)⟩)
  rw [mk_len] at hl
  obtain ⟨k, hk, hne⟩ := free_ex h.red (by omega)
  refine ⟨kv m.length (at' m) P k, fun i hi => ?_, k, hk, kv_top h.red hne⟩
  have hz := (h.nul _).2 (kv_nul h.red hk) i (by rw [mk_len]; exact hi)
  exact (van_mod fun j hj => by rw [hA i hi j hj, Int.emod_emod]).1 hz
theorem sm_modz {p : Int} {n : Nat} {f : Nat → Int} (h : ∀ j, j < n → f j % p = 0) : sm n f % p = 0 := by
  rw [← sm_mod, sm_congr h, sm_zero]; rfl
theorem sm_same {p : Int} {n : Nat} {f g : Nat → Int} (h : ∀ j, j < n → f j % p = g j % p) : sm n f % p = sm n g % p := by
  rw [← sm_mod, sm_congr h, sm_mod]
theorem mod_z {p a b : Int} (h : b % p = 0) : a * b % p = 0 := by rw [Int.mul_emod, h]; simp
end Go.Proofs.Ytckpcfhmppdghaa
