/-
  Left and right matrices, left ideals and annihilators, idempotents: contracts of the program and of the model.
  Conditions: the lists are nil or rows of known cells, of at most 1048576 numbers.
-/
import Derived.Test.YtckpcfhmppdghaaQu20
import Derived.Test.YtckpcfhmppdghaaQu28
import Derived.Test.YtckpcfhmppdghaaQu29
import Derived.Test.YtckpcfhmppdghaaQu26
import Derived.Test.YtckpcfhmppdghaaQu17
import Derived.Test.YtckpcfhmppdghaaQu14
import Derived.Deep.RegionHeld3
import Derived.Deep.DeepCutAuto
namespace Go.Proofs.Ytckpcfhmppdghaa
open Go.RowKit
set_option linter.unusedVariables false

theorem mk_lst {p : Int} {n c : Nat} {f : Nat → Nat → Int} (hp : prm p = true) (n0 : 0 < n) (n1 : n ≤ 16) (c0 : 0 < c) (c1 : c ≤ 16) (h : ∀ i j, i < n → j < c → 0 ≤ f i j ∧ f i j < p) (k : Nat) (hk : k ≤ n) : Lst k p (mk n c f) where
  prime := hp
  lo := by rw [mk_len]; exact hk
  hi := by rw [mk_len]; exact n1
  len i hi := by rw [mk_len] at hi; rw [mk_rowLen _ hi, mk_rowLen _ n0]
  c0 i hi := by rw [mk_len] at hi; rw [mk_rowLen _ hi]; exact c0
  c1 i hi := by rw [mk_len] at hi; rw [mk_rowLen _ hi]; exact c1
  all i hi := by
    rw [mk_len] at hi
    rw [List.all_eq_true]
    intro y hy
    obtain ⟨j, hj, rfl⟩ := List.getElem_of_mem hy
    have hj2 := hj
    rw [mk_rowLen _ hi] at hj2
    have e : (rw' (mk n c f) i)[j] = f i j := by
      rw [← getD_at hj]; exact mk_at _ hi hj2
    rw [e]
    exact inr_iff.2 (h i j hi hj2)
theorem colsR_lst {p : Int} {S : List Int} (hs : isSp p S = true) (h4 : S.length ≤ 4) (x : List Int) (k : Nat) (hk : k ≤ 1) : Lst k p (colsR p S x) := by
  have hp := prm_bd (isSp_iff.1 hs).prime
  have hb := bl_pos S
  exact mk_lst (isSp_iff.1 hs).prime hb (bl_st h4) hb (bl_st h4) (fun i j _ _ => prodF_bd (by omega) S _ x j) k (by omega)
theorem right_lst {p : Int} {S : List Int} (hs : isSp p S = true) (h4 : S.length ≤ 4) (x : List Int) : Lst 1 p (rightM p S x) := by
  have hp := prm_bd (isSp_iff.1 hs).prime
  have hb := bl_pos S
  exact mk_lst (isSp_iff.1 hs).prime hb (bl_st h4) hb (bl_st h4) (fun i j _ _ => prodF_bd (by omega) S _ x i) 1 (by omega)
theorem left_wide {p : Int} {S : List Int} (hs : isSp p S = true) (h4 : S.length ≤ 4) (x : List Int) : Lst 1 p (leftM p S x) := by
  have hp := prm_bd (isSp_iff.1 hs).prime
  have hb := bl_pos S
  exact mk_lst (isSp_iff.1 hs).prime hb (bl_st h4) hb (bl_st h4) (fun i j _ _ => prodF_bd (by omega) S x _ i) 1 (by omega)
theorem turn_right (p : Int) (S x : List Int) (a : Option Addr) (ca lo tp : Nat) (w : World) (hm : MatIn lo tp w a (rightM p S x)) (ht : tp ≤ w.heap.size) (h4 : S.length ≤ 4) :
    Calls Try.prog 65 #[.slice a (rightM p S x).length ca] w (NewM (colsR p S x) w) := by
  have hb := bl_pos S
  have h := bl_st h4
  have h2 := l02Turn_any a (rightM p S x) ca lo tp w hm ht (by rw [right_len]; exact hb) (fun i hi => by rw [right_len] at hi; rw [right_rl hi, right_rl hb]) (by rw [right_len]; omega) (by rw [right_rl hb]; omega)
  rw [right_tr] at h2
  exact h2
theorem rref_le {p : Int} {n c : Nat} {R : Nat → Nat → Int} {P : Nat → Nat} (h : Rref p n c R P) : n ≤ c := by
  have key : ∀ i, i < n → i ≤ P i := by
    intro i
    induction i with
    | zero => intro _; exact Nat.zero_le _
    | succ i ih => intro hi; have h1 := ih (by omega); have h2 := h.mono i (i + 1) (by omega) hi; omega
  by_cases h0 : n = 0
  · omega
  · have h1 := key (n - 1) (by omega)
    have h2 := h.pv (n - 1) (by omega)
    omega
theorem bas_sizes {p : Int} {S : List Int} (hs : isSp p S = true) (h4 : S.length ≤ 4) {A : List (List Int)} (hA : Lst 1 p A) (hc : (rw' A 0).length = bl S) : (bas p A).length ≤ 16 ∧ (∀ i, i < (bas p A).length → (rw' (bas p A) i).length = bl S) := by
  have hB := hA.wide.bas
  rw [hc] at hB
  obtain ⟨P, hP⟩ := hB.red
  have h1 := rref_le hP
  have h2 := bl_st h4
  exact ⟨by omega, hB.len⟩
noncomputable def liV (p : Int) (S x : List Int) : List (List Int) := if stC p S [x] = 0 then bas p (colsR p S x) else []
noncomputable def laV (p : Int) (S x : List Int) : List (List Int) := if stC p S [x] = 0 then kerB p (rightM p S x) else []
theorem size_bl {S : List Int} {m : List (List Int)} (h4 : S.length ≤ 4) (hl : m.length ≤ 16) (hr : ∀ i, i < m.length → (rw' m i).length = bl S) : m.length + tot m m.length ≤ 1048576 := by
  have h := bl_st h4
  rw [tot_const (c := bl S) hr (Nat.le_refl _)]
  have : m.length * bl S ≤ 16 * 16 := Nat.mul_le_mul hl h
  omega
theorem liV_size (p : Int) (S x : List Int) : (liV p S x).length + tot (liV p S x) (liV p S x).length ≤ 1048576 := by
  unfold liV; split
  · rename_i h
    have h1 := stC_one h
    have h2 := bas_sizes h1.1 h1.2.2 (colsR_lst h1.1 h1.2.2 x 1 (Nat.le_refl _)) (colsR_rl (bl_pos S))
    exact size_bl h1.2.2 h2.1 h2.2
  · simp [tot]
theorem ker_sizes {p : Int} {S : List Int} (h4 : S.length ≤ 4) {A : List (List Int)} (hA : Lst 1 p A) (hc : (rw' A 0).length = bl S) : (kerB p A).length ≤ 16 ∧ (∀ i, i < (kerB p A).length → (rw' (kerB p A) i).length = bl S) := by
  have hk := ker_is (A := A) hA.prime
  rw [hc] at hk
  obtain ⟨P, hP⟩ := hk.red
  have h1 := rref_le hP
  have h2 := bl_st h4
  exact ⟨by omega, hk.len⟩
theorem laV_size (p : Int) (S x : List Int) : (laV p S x).length + tot (laV p S x) (laV p S x).length ≤ 1048576 := by
  unfold laV; split
  · rename_i h
    have h1 := stC_one h
    have h2 := ker_sizes h1.2.2 (right_lst h1.1 h1.2.2 x) (right_rl (bl_pos S))
    exact size_bl h1.2.2 h2.1 h2.2
  · simp [tot]

set_option maxRecDepth 100000 in
set_option maxHeartbeats 3200000 in
theorem impl_LeftAnnihilatorOf (pS : Int) (aS : Option Addr) (S : List Int) (cS loS tpS : Nat) (ax : Option Addr) (x : List Int) (cx lox tpx : Nat) (w : World) (hS : RowIn loS tpS w aS S) (tS : tpS ≤ w.heap.size) (sS : S.length ≤ 1048576) (hx : RowIn lox tpx w ax x) (tx : tpx ≤ w.heap.size) (sx : x.length ≤ 1048576) :
    Calls Try.prog 21 #[.agg #[.int .i64 pS, .slice aS S.length cS], .slice ax x.length cx] w (ImplM (laV pS S x) (stC pS S [x]) w) := by
  have HS := Lib.hid hS
  have Hx := Lib.hid hx
  have k0 := nw0 w (.int .i64 pS) (.slice aS S.length cS) 29
  have k1 := nw1 w (.int .i64 pS) (.slice aS S.length cS) 29
  have HB0 := Lib.hid (below_alloc w (.cells #[.int .i64 pS, .slice aS S.length cS] 29))
  clear hS hx
  by_cases h0 : stC pS S [x] = 0
  · have HC0 := Lib.hid h0
    have hz := stC_one h0
    have HI := Lib.hid hz.1
    have HMX := Lib.hid hz.2.1
    have H4 := Lib.hid hz.2.2
    have HV : Hid (laV pS S x = kerB pS (rightM pS S x)) := if_pos h0
    clear h0 hz
    have HL := Lib.hid (right_lst HI.out H4.out x)
    go_enter Try.func21, Try.ntmps21
    go_upto_region 1 with fail
    obtain ⟨w1, hw1⟩ : ∃ z, z = w.alloc (.cells #[.int .i64 pS, .slice aS S.length cS] 29) := ⟨_, rfl⟩
    rw [← hw1] at HB0 k0 k1 ⊢
    have hd1 : w.heap.size < w1.heap.size := by rw [hw1]; simp
    have HB1 := HB0
    clear hw1
    have SS1 := Lib.hid (And.intro k0 k1)
    go_wp2_with (go_at_call 33; ((with_reducible refine (checkS1 pS aS S cS loS tpS ax x cx lox tpx _ _ w1 _ rfl (HS.out.below HB1.out tS) (Nat.le_trans tS HB1.out.size) sS (Hx.out.below HB1.out tx) (Nat.le_trans tx HB1.out.size) sx).mono ?_); rintro e w2 ⟨rfl, b_⟩; rw [HC0.out]; have b2_ := below_step (below_alloc w1 (.cells #[.slice ax x.length cx] 22)) (size_alloc w1 (.cells #[.slice ax x.length cx] 22)) b_; have SS2 := Lib.hid (ss2 b2_ hd1 SS1.out); have HB2 := Lib.hid (below_step HB1.out HB1.out.size b2_); have hd2 := Nat.lt_of_lt_of_le hd1 b2_.size; clear k0 k1; obtain ⟨k0, k1⟩ := SS2.out; clear b_ b2_))
    have hs1 : Hid (w2.drew.cell? ⟨w.heap.size, 0, none⟩ = some (.int .i64 pS) ∧ w2.drew.cell? ⟨w.heap.size, 1, none⟩ = some (.slice aS S.length cS)) := SS2.out
    have HBD : Hid (Below w.heap.size w w2.drew) := HB2.out.drew
    have hdd : w.heap.size < w2.drew.heap.size := hd2
    go_region_held3 (fun w' => w'.cell? ⟨w.heap.size, 0, none⟩ = some (.int .i64 pS) ∧ w'.cell? ⟨w.heap.size, 1, none⟩ = some (.slice aS S.length cS)) (first | exact hs1.out | exact SSa.out | exact SSab.out | go_keep) (first | (go_at_call 39; (with_reducible refine (rightMatrix_own pS aS S cS loS tpS ax x cx lox tpx w2.drew HI.out (HS.out.below HBD.out tS) (Nat.le_trans tS (HBD.out).size) (Hx.out.below HBD.out tx) (Nat.le_trans tx (HBD.out).size) HMX.out).mono ?_); rintro e wa ⟨ra, ka, rfl, o_, b_⟩; have SSa := Lib.hid (ss2 b_ hdd hs1.out); have HBa := Lib.hid (below_step HBD.out (Nat.le_of_lt hdd) b_); have zz_ := b_.size; have hda := Nat.lt_of_lt_of_le hdd zz_; have Ma_a := Lib.hid (o_.mat.mono (Nat.le_of_lt hdd) (Nat.le_refl _)); clear b_ o_) | (go_at_call 38; (with_reducible refine (kernelOf_any pS ra (rightM pS S x) ka w.heap.size wa.heap.size wa Ma_a.out (Nat.le_refl _) HL.out.wide).mono ?_); rintro e wab ⟨rb, kb, rfl, o_, b_⟩; have SSab := Lib.hid (ss2 b_ hda SSa.out); have HBab := Lib.hid (below_step HBa.out (Nat.le_of_lt hda) b_); have zz_ := b_.size; have hdab := Nat.lt_of_lt_of_le hda zz_; have Ma_ab := Lib.hid ((Ma_a.out.below b_ (Nat.le_refl _)).mono (Nat.le_refl _) zz_); have Mb_ab := Lib.hid (o_.mat.mono (Nat.le_of_lt hda) (Nat.le_refl _)); have RR := Lib.hid (o_.mono (Nat.le_of_lt hda) (Nat.le_refl _)); clear b_ o_))
    all_goals
      go_wp2
      go_ret2
      rw [HV.out, HC0.out]
      exact ⟨rb, kb, rfl, RR.out, HBab.out⟩
  · have HV : Hid (laV pS S x = []) := if_neg h0
    obtain ⟨C, hC⟩ : ∃ c, c = stC pS S [x] := ⟨_, rfl⟩
    have hc1 : (C != 0) = true := by rw [hC]; simpa using h0
    have hc2 : (C == 0) = false := by rw [hC]; simpa using h0
    have HCE := Lib.hid hC
    clear hC
    clear h0
    go_enter Try.func21, Try.ntmps21
    go_upto_region 1 with fail
    obtain ⟨w1, hw1⟩ : ∃ z, z = w.alloc (.cells #[.int .i64 pS, .slice aS S.length cS] 29) := ⟨_, rfl⟩
    rw [← hw1] at HB0 k0 k1 ⊢
    have hd1 : w.heap.size < w1.heap.size := by rw [hw1]; simp
    have HB1 := HB0
    clear hw1
    have SS1 := Lib.hid (And.intro k0 k1)
    go_wp2_with (go_at_call 33; ((with_reducible refine (checkS1 pS aS S cS loS tpS ax x cx lox tpx _ _ w1 _ rfl (HS.out.below HB1.out tS) (Nat.le_trans tS HB1.out.size) sS (Hx.out.below HB1.out tx) (Nat.le_trans tx HB1.out.size) sx).mono ?_); rintro e w2 ⟨rfl, b_⟩; rw [← HCE.out]; have b2_ := below_step (below_alloc w1 (.cells #[.slice ax x.length cx] 22)) (size_alloc w1 (.cells #[.slice ax x.length cx] 22)) b_; have SS2 := Lib.hid (ss2 b2_ hd1 SS1.out); have HB2 := Lib.hid (below_step HB1.out HB1.out.size b2_); have hd2 := Nat.lt_of_lt_of_le hd1 b2_.size; clear k0 k1; obtain ⟨k0, k1⟩ := SS2.out; clear b_ b2_))
    go_ret2
    rw [HV.out, ← HCE.out]
    exact ⟨none, 0, rfl, .inl rfl, HB2.out⟩

set_option maxRecDepth 100000 in
set_option maxHeartbeats 3200000 in
theorem spec_LeftAnnihilatorOf (pS : Int) (aS : Option Addr) (S : List Int) (cS loS tpS : Nat) (ax : Option Addr) (x : List Int) (cx lox tpx : Nat) (w : World) (hS : RowIn loS tpS w aS S) (tS : tpS ≤ w.heap.size) (sS : S.length ≤ 1048576) (hx : RowIn lox tpx w ax x) (tx : tpx ≤ w.heap.size) (sx : x.length ≤ 1048576) :
    Calls Try.prog 20 #[.agg #[.int .i64 pS, .slice aS S.length cS], .slice ax x.length cx] w (SpecM (laV pS S x) (stC pS S [x]) w) := by
  have HS := Lib.hid hS
  have Hx := Lib.hid hx
  have k0 := nw0 w (.int .i64 pS) (.slice aS S.length cS) 29
  have k1 := nw1 w (.int .i64 pS) (.slice aS S.length cS) 29
  have HB0 := Lib.hid (below_alloc w (.cells #[.int .i64 pS, .slice aS S.length cS] 29))
  clear hS hx
  by_cases h0 : stC pS S [x] = 0
  · have HC0 := Lib.hid h0
    have hz := stC_one h0
    have HI := Lib.hid hz.1
    have HMX := Lib.hid hz.2.1
    have H4 := Lib.hid hz.2.2
    have HV : Hid (laV pS S x = kerB pS (rightM pS S x)) := if_pos h0
    clear h0 hz
    have HL := Lib.hid (right_lst HI.out H4.out x)
    go_enter Try.func20, Try.ntmps20
    go_upto_region 1 with fail
    obtain ⟨w1, hw1⟩ : ∃ z, z = w.alloc (.cells #[.int .i64 pS, .slice aS S.length cS] 29) := ⟨_, rfl⟩
    rw [← hw1] at HB0 k0 k1 ⊢
    have hd1 : w.heap.size < w1.heap.size := by rw [hw1]; simp
    have HB1 := HB0
    clear hw1
    have SS1 := Lib.hid (And.intro k0 k1)
    go_wp2_with (go_at_call 30; ((with_reducible refine (codeS1 pS aS S cS loS tpS ax x cx lox tpx _ _ w1 _ rfl (HS.out.below HB1.out tS) (Nat.le_trans tS HB1.out.size) sS (Hx.out.below HB1.out tx) (Nat.le_trans tx HB1.out.size) sx).mono ?_); rintro e w2 ⟨rfl, b_⟩; rw [HC0.out]; have b2_ := below_step (below_alloc w1 (.cells #[.slice ax x.length cx] 22)) (size_alloc w1 (.cells #[.slice ax x.length cx] 22)) b_; have SS2 := Lib.hid (ss2 b2_ hd1 SS1.out); have HB2 := Lib.hid (below_step HB1.out HB1.out.size b2_); have hd2 := Nat.lt_of_lt_of_le hd1 b2_.size; clear k0 k1; obtain ⟨k0, k1⟩ := SS2.out; clear b_ b2_))
    have hs1 : Hid (w2.drew.cell? ⟨w.heap.size, 0, none⟩ = some (.int .i64 pS) ∧ w2.drew.cell? ⟨w.heap.size, 1, none⟩ = some (.slice aS S.length cS)) := SS2.out
    have HBD : Hid (Below w.heap.size w w2.drew) := HB2.out.drew
    have hdd : w.heap.size < w2.drew.heap.size := hd2
    go_region_held3 (fun w' => w'.cell? ⟨w.heap.size, 0, none⟩ = some (.int .i64 pS) ∧ w'.cell? ⟨w.heap.size, 1, none⟩ = some (.slice aS S.length cS)) (first | exact hs1.out | exact SSa.out | exact SSab.out | go_keep) (first | (go_at_call 37; (with_reducible refine (l09Right_any pS aS S cS loS tpS ax x cx lox tpx w2.drew HI.out (HS.out.below HBD.out tS) (Nat.le_trans tS (HBD.out).size) (Hx.out.below HBD.out tx) (Nat.le_trans tx (HBD.out).size) HMX.out).mono ?_); rintro e wa ⟨ra, ka, rfl, o_, b_⟩; have SSa := Lib.hid (ss2 b_ hdd hs1.out); have HBa := Lib.hid (below_step HBD.out (Nat.le_of_lt hdd) b_); have zz_ := b_.size; have hda := Nat.lt_of_lt_of_le hdd zz_; have Ma_a := Lib.hid (o_.mono (Nat.le_of_lt hdd) (Nat.le_refl _)); clear b_ o_) | (go_at_call 36; (with_reducible refine (l02Kernel_wide pS ra (rightM pS S x) ka w.heap.size wa.heap.size wa Ma_a.out (Nat.le_refl _) HL.out.wide).mono ?_); rintro e wab ⟨rb, kb, rfl, o_, b_⟩; have SSab := Lib.hid (ss2 b_ hda SSa.out); have HBab := Lib.hid (below_step HBa.out (Nat.le_of_lt hda) b_); have zz_ := b_.size; have hdab := Nat.lt_of_lt_of_le hda zz_; have Ma_ab := Lib.hid ((Ma_a.out.below b_ (Nat.le_refl _)).mono (Nat.le_refl _) zz_); have Mb_ab := Lib.hid (o_.mono (Nat.le_of_lt hda) (Nat.le_refl _)); have RR := Lib.hid (o_.mono (Nat.le_of_lt hda) (Nat.le_refl _)); clear b_ o_))
    all_goals
      go_wp2
      go_ret2
      rw [HV.out, HC0.out]
      exact ⟨rb, kb, rfl, RR.out, HBab.out⟩
  · have HV : Hid (laV pS S x = []) := if_neg h0
    obtain ⟨C, hC⟩ : ∃ c, c = stC pS S [x] := ⟨_, rfl⟩
    have hc1 : (C != 0) = true := by rw [hC]; simpa using h0
    have hc2 : (C == 0) = false := by rw [hC]; simpa using h0
    have HCE := Lib.hid hC
    clear hC
    clear h0
    go_enter Try.func20, Try.ntmps20
    go_upto_region 1 with fail
    obtain ⟨w1, hw1⟩ : ∃ z, z = w.alloc (.cells #[.int .i64 pS, .slice aS S.length cS] 29) := ⟨_, rfl⟩
    rw [← hw1] at HB0 k0 k1 ⊢
    have hd1 : w.heap.size < w1.heap.size := by rw [hw1]; simp
    have HB1 := HB0
    clear hw1
    have SS1 := Lib.hid (And.intro k0 k1)
    go_wp2_with (go_at_call 30; ((with_reducible refine (codeS1 pS aS S cS loS tpS ax x cx lox tpx _ _ w1 _ rfl (HS.out.below HB1.out tS) (Nat.le_trans tS HB1.out.size) sS (Hx.out.below HB1.out tx) (Nat.le_trans tx HB1.out.size) sx).mono ?_); rintro e w2 ⟨rfl, b_⟩; rw [← HCE.out]; have b2_ := below_step (below_alloc w1 (.cells #[.slice ax x.length cx] 22)) (size_alloc w1 (.cells #[.slice ax x.length cx] 22)) b_; have SS2 := Lib.hid (ss2 b2_ hd1 SS1.out); have HB2 := Lib.hid (below_step HB1.out HB1.out.size b2_); have hd2 := Nat.lt_of_lt_of_le hd1 b2_.size; clear k0 k1; obtain ⟨k0, k1⟩ := SS2.out; clear b_ b2_))
    go_ret2
    rw [HV.out, ← HCE.out]
    exact ⟨none, 0, rfl, .inl rfl, HB2.out⟩

set_option maxHeartbeats 1600000 in
theorem l09Ideal_any (pS : Int) (aS : Option Addr) (S : List Int) (cS loS tpS : Nat) (ax : Option Addr) (x : List Int) (cx lox tpx : Nat) (w : World) (hs : isSp pS S = true) (hS : RowIn loS tpS w aS S) (tS : tpS ≤ w.heap.size) (hx : RowIn lox tpx w ax x) (tx : tpx ≤ w.heap.size) (mx : isMv pS S x = true) (h4 : S.length ≤ 4) :
    Calls Try.prog 32 #[.agg #[.int .i64 pS, .slice aS S.length cS], .slice ax x.length cx] w (NewM (bas pS (colsR pS S x)) w) := by
  have HS := Lib.hid hS
  have Hx := Lib.hid hx
  have HI := Lib.hid hs
  have HMX := Lib.hid mx
  have H4 := Lib.hid h4
  have HL := Lib.hid (isL_iff.2 (colsR_lst hs h4 x 0 (Nat.zero_le _)))
  have k0 := nw0 w (.int .i64 pS) (.slice aS S.length cS) 29
  have k1 := nw1 w (.int .i64 pS) (.slice aS S.length cS) 29
  have HB0 := Lib.hid (below_alloc w (.cells #[.int .i64 pS, .slice aS S.length cS] 29))
  clear hS hx hs mx h4
  go_enter Try.func32, Try.ntmps32
  go_upto_region 1 with fail
  obtain ⟨w1, hw1⟩ : ∃ z, z = w.alloc (.cells #[.int .i64 pS, .slice aS S.length cS] 29) := ⟨_, rfl⟩
  rw [← hw1] at HB0 k0 k1 ⊢
  have hd1 : w.heap.size < w1.heap.size := by rw [hw1]; simp
  have HB1 := HB0
  clear hw1
  have SS1 := Lib.hid (And.intro k0 k1)
  go_wp2
  have hs1 : Hid (w1.drew.cell? ⟨w.heap.size, 0, none⟩ = some (.int .i64 pS) ∧ w1.drew.cell? ⟨w.heap.size, 1, none⟩ = some (.slice aS S.length cS)) := SS1.out
  have HBD : Hid (Below w.heap.size w w1.drew) := HB1.out.drew
  have hdd : w.heap.size < w1.drew.heap.size := hd1
  go_region_held3 (fun w' => w'.cell? ⟨w.heap.size, 0, none⟩ = some (.int .i64 pS) ∧ w'.cell? ⟨w.heap.size, 1, none⟩ = some (.slice aS S.length cS)) (first | exact hs1.out | exact SSa.out | exact SSab.out | exact SSabc.out | go_keep) (first | (go_at_call 37; (with_reducible refine (l09Right_any pS aS S cS loS tpS ax x cx lox tpx w1.drew HI.out (HS.out.below HBD.out tS) (Nat.le_trans tS (HBD.out).size) (Hx.out.below HBD.out tx) (Nat.le_trans tx (HBD.out).size) HMX.out).mono ?_); rintro e wa ⟨ra, ka, rfl, o_, b_⟩; have SSa := Lib.hid (ss2 b_ hdd hs1.out); have HBa := Lib.hid (below_step HBD.out (Nat.le_of_lt hdd) b_); have zz_ := b_.size; have hda := Nat.lt_of_lt_of_le hdd zz_; have Ma_a := Lib.hid (o_.mono (Nat.le_of_lt hdd) (Nat.le_refl _)); clear b_ o_) | (go_at_call 65; (with_reducible refine (turn_right pS S x ra ka w.heap.size wa.heap.size wa Ma_a.out (Nat.le_refl _) H4.out).mono ?_); rintro e wab ⟨rb, kb, rfl, o_, b_⟩; have SSab := Lib.hid (ss2 b_ hda SSa.out); have HBab := Lib.hid (below_step HBa.out (Nat.le_of_lt hda) b_); have zz_ := b_.size; have hdab := Nat.lt_of_lt_of_le hda zz_; have Ma_ab := Lib.hid ((Ma_a.out.below b_ (Nat.le_refl _)).mono (Nat.le_refl _) zz_); have Mb_ab := Lib.hid (o_.mono (Nat.le_of_lt hda) (Nat.le_refl _)); clear b_ o_) | (go_at_call 64; (with_reducible refine (basis_any pS rb (colsR pS S x) kb w.heap.size wab.heap.size wab Mb_ab.out (Nat.le_refl _) HL.out).mono ?_); rintro e wabc ⟨rc, kc, rfl, o_, b_, _⟩; have SSabc := Lib.hid (ss2 b_ hdab SSab.out); have HBabc := Lib.hid (below_step HBab.out (Nat.le_of_lt hdab) b_); have zz_ := b_.size; have hdabc := Nat.lt_of_lt_of_le hdab zz_; have Ma_abc := Lib.hid ((Ma_ab.out.below b_ (Nat.le_refl _)).mono (Nat.le_refl _) zz_); have Mb_abc := Lib.hid ((Mb_ab.out.below b_ (Nat.le_refl _)).mono (Nat.le_refl _) zz_); have Mc_abc := Lib.hid (o_.mono (Nat.le_of_lt hdab) (Nat.le_refl _)); have RR := Lib.hid (o_.mono (Nat.le_of_lt hdab) (Nat.le_refl _)); clear b_ o_))
  all_goals
    go_wp2
    go_ret
    exact ⟨rc, kc, rfl, RR.out, HBabc.out⟩

set_option maxRecDepth 100000 in
set_option maxHeartbeats 3200000 in
theorem impl_LeftIdealOf (pS : Int) (aS : Option Addr) (S : List Int) (cS loS tpS : Nat) (ax : Option Addr) (x : List Int) (cx lox tpx : Nat) (w : World) (hS : RowIn loS tpS w aS S) (tS : tpS ≤ w.heap.size) (sS : S.length ≤ 1048576) (hx : RowIn lox tpx w ax x) (tx : tpx ≤ w.heap.size) (sx : x.length ≤ 1048576) :
    Calls Try.prog 12 #[.agg #[.int .i64 pS, .slice aS S.length cS], .slice ax x.length cx] w (ImplM (liV pS S x) (stC pS S [x]) w) := by
  have HS := Lib.hid hS
  have Hx := Lib.hid hx
  have k0 := nw0 w (.int .i64 pS) (.slice aS S.length cS) 29
  have k1 := nw1 w (.int .i64 pS) (.slice aS S.length cS) 29
  have HB0 := Lib.hid (below_alloc w (.cells #[.int .i64 pS, .slice aS S.length cS] 29))
  clear hS hx
  by_cases h0 : stC pS S [x] = 0
  · have HC0 := Lib.hid h0
    have hz := stC_one h0
    have HI := Lib.hid hz.1
    have HMX := Lib.hid hz.2.1
    have H4 := Lib.hid hz.2.2
    have HV : Hid (liV pS S x = bas pS (colsR pS S x)) := if_pos h0
    clear h0 hz
    have fv := field_ech
    have HL := Lib.hid (isL_iff.2 (colsR_lst HI.out H4.out x 0 (Nat.zero_le _)))
    have hbs := bas_sizes HI.out H4.out (colsR_lst HI.out H4.out x 1 (Nat.le_refl _)) (colsR_rl (bl_pos S))
    have hbl_ : (bas pS (colsR pS S x)).length ≤ 1024 := by have := hbs.1; omega
    have HBL : Hid (∀ i, i < (bas pS (colsR pS S x)).length → 0 < (rw' (bas pS (colsR pS S x)) i).length ∧ (rw' (bas pS (colsR pS S x)) i).length ≤ 1024) := fun i hi => by
      rw [hbs.2 i hi]; have := bl_pos S; have := bl_st H4.out; exact ⟨by omega, by omega⟩
    clear hbs
    go_enter Try.func12, Try.ntmps12
    go_upto_region 1 with fail
    obtain ⟨w1, hw1⟩ : ∃ z, z = w.alloc (.cells #[.int .i64 pS, .slice aS S.length cS] 29) := ⟨_, rfl⟩
    rw [← hw1] at HB0 k0 k1 ⊢
    have hd1 : w.heap.size < w1.heap.size := by rw [hw1]; simp
    have HB1 := HB0
    clear hw1
    have SS1 := Lib.hid (And.intro k0 k1)
    go_wp2_with (go_at_call 33; ((with_reducible refine (checkS1 pS aS S cS loS tpS ax x cx lox tpx _ _ w1 _ rfl (HS.out.below HB1.out tS) (Nat.le_trans tS HB1.out.size) sS (Hx.out.below HB1.out tx) (Nat.le_trans tx HB1.out.size) sx).mono ?_); rintro e w2 ⟨rfl, b_⟩; rw [HC0.out]; have b2_ := below_step (below_alloc w1 (.cells #[.slice ax x.length cx] 22)) (size_alloc w1 (.cells #[.slice ax x.length cx] 22)) b_; have SS2 := Lib.hid (ss2 b2_ hd1 SS1.out); have HB2 := Lib.hid (below_step HB1.out HB1.out.size b2_); have hd2 := Nat.lt_of_lt_of_le hd1 b2_.size; clear k0 k1; obtain ⟨k0, k1⟩ := SS2.out; clear b_ b2_))
    have hs1 : Hid (w2.drew.cell? ⟨w.heap.size, 0, none⟩ = some (.int .i64 pS) ∧ w2.drew.cell? ⟨w.heap.size, 1, none⟩ = some (.slice aS S.length cS)) := SS2.out
    have HBD : Hid (Below w.heap.size w w2.drew) := HB2.out.drew
    have hdd : w.heap.size < w2.drew.heap.size := hd2
    go_region_held3 (fun w' => w'.cell? ⟨w.heap.size, 0, none⟩ = some (.int .i64 pS) ∧ w'.cell? ⟨w.heap.size, 1, none⟩ = some (.slice aS S.length cS)) (first | exact hs1.out | exact SSa.out | exact SSab.out | go_keep) (first | (go_at_call 35; (with_reducible refine (rightProducts_own pS aS S cS loS tpS ax x cx lox tpx w2.drew HI.out (HS.out.below HBD.out tS) (Nat.le_trans tS (HBD.out).size) (Hx.out.below HBD.out tx) (Nat.le_trans tx (HBD.out).size) HMX.out).mono ?_); rintro e wa ⟨ra, ka, rfl, o_, b_⟩; have SSa := Lib.hid (ss2 b_ hdd hs1.out); have HBa := Lib.hid (below_step HBD.out (Nat.le_of_lt hdd) b_); have zz_ := b_.size; have hda := Nat.lt_of_lt_of_le hdd zz_; have Ma_a := Lib.hid (o_.mat.mono (Nat.le_of_lt hdd) (Nat.le_refl _)); clear b_ o_) | (go_at_call 34; (with_reducible refine (elimO pS ra (colsR pS S x) ka w.heap.size wa.heap.size wa Ma_a.out (Nat.le_refl _) HL.out).mono ?_); rintro e wab ⟨rb, kb, vb, db, rfl, o_, b_⟩; have SSab := Lib.hid (ss2 b_ hda SSa.out); have HBab := Lib.hid (below_step HBa.out (Nat.le_of_lt hda) b_); have zz_ := b_.size; have hdab := Nat.lt_of_lt_of_le hda zz_; have Ma_ab := Lib.hid ((Ma_a.out.below b_ (Nat.le_refl _)).mono (Nat.le_refl _) zz_); have Mb_ab := Lib.hid (o_.mat.mono (Nat.le_of_lt hda) (Nat.le_refl _)); have RR := Lib.hid (o_.mono (Nat.le_of_lt hda) (Nat.le_refl _)); clear b_ o_))
    all_goals
      go_wp2
      go_ret2
      rw [HV.out, HC0.out]
      exact ⟨rb, kb, rfl, RR.out, HBab.out⟩
  · have HV : Hid (liV pS S x = []) := if_neg h0
    obtain ⟨C, hC⟩ : ∃ c, c = stC pS S [x] := ⟨_, rfl⟩
    have hc1 : (C != 0) = true := by rw [hC]; simpa using h0
    have hc2 : (C == 0) = false := by rw [hC]; simpa using h0
    have HCE := Lib.hid hC
    clear hC
    clear h0
    go_enter Try.func12, Try.ntmps12
    go_upto_region 1 with fail
    obtain ⟨w1, hw1⟩ : ∃ z, z = w.alloc (.cells #[.int .i64 pS, .slice aS S.length cS] 29) := ⟨_, rfl⟩
    rw [← hw1] at HB0 k0 k1 ⊢
    have hd1 : w.heap.size < w1.heap.size := by rw [hw1]; simp
    have HB1 := HB0
    clear hw1
    have SS1 := Lib.hid (And.intro k0 k1)
    go_wp2_with (go_at_call 33; ((with_reducible refine (checkS1 pS aS S cS loS tpS ax x cx lox tpx _ _ w1 _ rfl (HS.out.below HB1.out tS) (Nat.le_trans tS HB1.out.size) sS (Hx.out.below HB1.out tx) (Nat.le_trans tx HB1.out.size) sx).mono ?_); rintro e w2 ⟨rfl, b_⟩; rw [← HCE.out]; have b2_ := below_step (below_alloc w1 (.cells #[.slice ax x.length cx] 22)) (size_alloc w1 (.cells #[.slice ax x.length cx] 22)) b_; have SS2 := Lib.hid (ss2 b2_ hd1 SS1.out); have HB2 := Lib.hid (below_step HB1.out HB1.out.size b2_); have hd2 := Nat.lt_of_lt_of_le hd1 b2_.size; clear k0 k1; obtain ⟨k0, k1⟩ := SS2.out; clear b_ b2_))
    go_ret2
    rw [HV.out, ← HCE.out]
    exact ⟨none, 0, rfl, .inl rfl, HB2.out⟩

set_option maxRecDepth 100000 in
set_option maxHeartbeats 3200000 in
theorem spec_LeftIdealOf (pS : Int) (aS : Option Addr) (S : List Int) (cS loS tpS : Nat) (ax : Option Addr) (x : List Int) (cx lox tpx : Nat) (w : World) (hS : RowIn loS tpS w aS S) (tS : tpS ≤ w.heap.size) (sS : S.length ≤ 1048576) (hx : RowIn lox tpx w ax x) (tx : tpx ≤ w.heap.size) (sx : x.length ≤ 1048576) :
    Calls Try.prog 9 #[.agg #[.int .i64 pS, .slice aS S.length cS], .slice ax x.length cx] w (SpecM (liV pS S x) (stC pS S [x]) w) := by
  have HS := Lib.hid hS
  have Hx := Lib.hid hx
  have k0 := nw0 w (.int .i64 pS) (.slice aS S.length cS) 29
  have k1 := nw1 w (.int .i64 pS) (.slice aS S.length cS) 29
  have HB0 := Lib.hid (below_alloc w (.cells #[.int .i64 pS, .slice aS S.length cS] 29))
  clear hS hx
  by_cases h0 : stC pS S [x] = 0
  · have HC0 := Lib.hid h0
    have hz := stC_one h0
    have HI := Lib.hid hz.1
    have HMX := Lib.hid hz.2.1
    have H4 := Lib.hid hz.2.2
    have HV : Hid (liV pS S x = bas pS (colsR pS S x)) := if_pos h0
    clear h0 hz
    have fv := field_ech
    have HL := Lib.hid (isL_iff.2 (colsR_lst HI.out H4.out x 0 (Nat.zero_le _)))
    have hbs := bas_sizes HI.out H4.out (colsR_lst HI.out H4.out x 1 (Nat.le_refl _)) (colsR_rl (bl_pos S))
    have hbl_ : (bas pS (colsR pS S x)).length ≤ 1024 := by have := hbs.1; omega
    have HBL : Hid (∀ i, i < (bas pS (colsR pS S x)).length → 0 < (rw' (bas pS (colsR pS S x)) i).length ∧ (rw' (bas pS (colsR pS S x)) i).length ≤ 1024) := fun i hi => by
      rw [hbs.2 i hi]; have := bl_pos S; have := bl_st H4.out; exact ⟨by omega, by omega⟩
    clear hbs
    go_enter Try.func9, Try.ntmps9
    go_upto_region 1 with fail
    obtain ⟨w1, hw1⟩ : ∃ z, z = w.alloc (.cells #[.int .i64 pS, .slice aS S.length cS] 29) := ⟨_, rfl⟩
    rw [← hw1] at HB0 k0 k1 ⊢
    have hd1 : w.heap.size < w1.heap.size := by rw [hw1]; simp
    have HB1 := HB0
    clear hw1
    have SS1 := Lib.hid (And.intro k0 k1)
    go_wp2_with (first | (go_at_call 30; ((with_reducible refine (codeS1 pS aS S cS loS tpS ax x cx lox tpx _ _ w1 _ rfl (HS.out.below HB1.out tS) (Nat.le_trans tS HB1.out.size) sS (Hx.out.below HB1.out tx) (Nat.le_trans tx HB1.out.size) sx).mono ?_); rintro e w2 ⟨rfl, b_⟩; rw [HC0.out]; have b2_ := below_step (below_alloc w1 (.cells #[.slice ax x.length cx] 22)) (size_alloc w1 (.cells #[.slice ax x.length cx] 22)) b_; have SS2 := Lib.hid (ss2 b2_ hd1 SS1.out); have HB2 := Lib.hid (below_step HB1.out HB1.out.size b2_); have hd2 := Nat.lt_of_lt_of_le hd1 b2_.size; clear k0 k1; obtain ⟨k0, k1⟩ := SS2.out; clear b_ b2_)) | (go_at_call 32; ((with_reducible refine (l09Ideal_any pS aS S cS loS tpS ax x cx lox tpx w2 HI.out (HS.out.below HB2.out tS) (Nat.le_trans tS HB2.out.size) (Hx.out.below HB2.out tx) (Nat.le_trans tx HB2.out.size) HMX.out H4.out).mono ?_); rintro e w3 ⟨r3, c3, rfl, o_, b_⟩; have SS3 := Lib.hid (ss2 b_ hd2 SS2.out); have HB3 := Lib.hid (below_step HB2.out HB2.out.size b_); have hd3 := Nat.lt_of_lt_of_le hd2 b_.size; have HR := Lib.hid o_; clear o_; clear k0 k1; obtain ⟨k0, k1⟩ := SS3.out; clear b_)) | (go_at_call 31; ((with_reducible refine (l01Own2_any r3 (bas pS (colsR pS S x)) c3 w2.heap.size w3.heap.size w3 HR.out (Nat.le_refl _) hbl_ HBL.out).mono ?_); rintro e w4 ⟨r4, c4, rfl, o_, b_⟩; have SS4 := Lib.hid (ss2 b_ hd3 SS3.out); have HB4 := Lib.hid (below_step HB3.out HB3.out.size b_); have hd4 := Nat.lt_of_lt_of_le hd3 b_.size; have RR := Lib.hid (o_.mono (Nat.le_of_lt hd3) (Nat.le_refl _)); clear o_; clear k0 k1; obtain ⟨k0, k1⟩ := SS4.out; clear b_)))
    go_ret2
    rw [HV.out, HC0.out]
    exact ⟨r4, c4, rfl, RR.out, HB4.out⟩
  · have HV : Hid (liV pS S x = []) := if_neg h0
    obtain ⟨C, hC⟩ : ∃ c, c = stC pS S [x] := ⟨_, rfl⟩
    have hc1 : (C != 0) = true := by rw [hC]; simpa using h0
    have hc2 : (C == 0) = false := by rw [hC]; simpa using h0
    have HCE := Lib.hid hC
    clear hC
    clear h0
    go_enter Try.func9, Try.ntmps9
    go_upto_region 1 with fail
    obtain ⟨w1, hw1⟩ : ∃ z, z = w.alloc (.cells #[.int .i64 pS, .slice aS S.length cS] 29) := ⟨_, rfl⟩
    rw [← hw1] at HB0 k0 k1 ⊢
    have hd1 : w.heap.size < w1.heap.size := by rw [hw1]; simp
    have HB1 := HB0
    clear hw1
    have SS1 := Lib.hid (And.intro k0 k1)
    go_wp2_with (go_at_call 30; ((with_reducible refine (codeS1 pS aS S cS loS tpS ax x cx lox tpx _ _ w1 _ rfl (HS.out.below HB1.out tS) (Nat.le_trans tS HB1.out.size) sS (Hx.out.below HB1.out tx) (Nat.le_trans tx HB1.out.size) sx).mono ?_); rintro e w2 ⟨rfl, b_⟩; rw [← HCE.out]; have b2_ := below_step (below_alloc w1 (.cells #[.slice ax x.length cx] 22)) (size_alloc w1 (.cells #[.slice ax x.length cx] 22)) b_; have SS2 := Lib.hid (ss2 b2_ hd1 SS1.out); have HB2 := Lib.hid (below_step HB1.out HB1.out.size b2_); have hd2 := Nat.lt_of_lt_of_le hd1 b2_.size; clear k0 k1; obtain ⟨k0, k1⟩ := SS2.out; clear b_ b2_))
    go_ret2
    rw [HV.out, ← HCE.out]
    exact ⟨none, 0, rfl, .inl rfl, HB2.out⟩

end Go.Proofs.Ytckpcfhmppdghaa
