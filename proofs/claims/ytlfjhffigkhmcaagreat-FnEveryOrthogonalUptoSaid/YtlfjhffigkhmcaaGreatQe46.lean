/-
  Matrices of motions (program): contracts of the program and of the model.
  Conditions: the lists are nil or rows of known cells, of at most 1048576 numbers.
  Versors told, products of vectors, reflections (model): contracts of the program and of the model.
  Conditions: the lists are nil or rows of known cells, of at most 1048576 numbers.
  Laws of versors, the model's side: contracts of the program and of the model.
  Conditions: the lists are nil or rows of known cells, of at most 1048576 numbers.
  Laws of versors, the model's side: contracts of the program and of the model.
  Conditions: the lists are nil or rows of known cells, of at most 1048576 numbers.
  Orthogonal matrices, the model's side: contracts of the program and of the model.
  Conditions: the lists are nil or rows of known cells, of at most 1048576 numbers.
-/
import Derived.Test.YtlfjhffigkhmcaaGreatQe44
import Derived.Test.YtlfjhffigkhmcaaGreatQe45
import Derived.Test.YtlfjhffigkhmcaaGreatQe23
import Derived.Test.YtlfjhffigkhmcaaGreatQe24
import Derived.Test.YtlfjhffigkhmcaaGreatQe25
import Derived.Deep.RegionHeld3
import Derived.Deep.DeepCutAuto
import Derived.Test.YtlfjhffigkhmcaaGreatQe26
import Derived.Test.YtlfjhffigkhmcaaGreatQe14
import Derived.Test.YtlfjhffigkhmcaaGreatQe30
namespace Go.Proofs.YtlfjhffigkhmcaaGreat
open Go.RowKit
set_option linter.unusedVariables false

/-- The basis vectors below i led by f, the others as they are. -/
def ledM (n : Nat) (f : List Int → List Int) (i : Nat) : List (List Int) := (List.range n).map fun j => if j < i then f (eiR n j) else eiR n j
theorem led_len (n : Nat) (f : List Int → List Int) (i : Nat) : (ledM n f i).length = n := by simp [ledM]
theorem led_row {n : Nat} (f : List Int → List Int) {i j : Nat} (hj : j < n) : rw' (ledM n f i) j = if j < i then f (eiR n j) else eiR n j := by simp [ledM, rw', List.getD, hj]
theorem led_zero (n : Nat) (f : List Int → List Int) : oneM n = ledM n f 0 :=
  mat_ext (by rw [led_len]; exact mk_len _ _ _) fun i hi => by
    have hi' : i < n := by rw [← mk_len n n fun i j => if i = j then 1 else 0]; exact hi
    rw [led_row f hi', if_neg (Nat.not_lt_zero _), ei_row hi']
theorem led_set {n i : Nat} (f : List Int → List Int) (hi : i < n) : (ledM n f i).set i (f (eiR n i)) = ledM n f (i + 1) := by
  refine mat_ext (by rw [List.length_set, led_len, led_len]) fun j hj => ?_
  rw [List.length_set, led_len] at hj
  rw [rw_setX _ (by rw [led_len]; exact hi), led_row f hj, led_row f hj]
  by_cases e : j = i
  · subst e; rw [if_pos rfl, if_pos (Nat.lt_succ_self _)]
  · rw [if_neg e]
    by_cases l : j < i
    · rw [if_pos l, if_pos (by omega)]
    · rw [if_neg l, if_neg (by omega)]
theorem led_all {n j : Nat} (f : List Int → List Int) (hj : j < n) : rw' (ledM n f n) j = f (eiR n j) := by rw [led_row f hj, if_pos hj]
theorem led_ref (p : Int) (S u : List Int) : refC p S u (oneM S.length) = ledM S.length (rflM p S u) S.length :=
  mat_ext (by rw [ref_len, led_len]; exact mk_len _ _ _) fun i hi => by
    have hi' : i < S.length := by rw [ref_len] at hi; rw [← mk_len S.length S.length fun i j => if i = j then 1 else 0]; exact hi
    rw [ref_row p S u (by rw [ref_len] at hi; exact hi), led_all _ hi', ei_row hi']
theorem rfl_len {p : Int} {S u v : List Int} : (rflM p S u v).length = v.length := plusR_ln _ _ _ _
theorem sd_len (p : Int) (S x v : List Int) : (sdM p S x v).length = S.length := mkR_len _ _
theorem ei_len (n i : Nat) : (eiR n i).length = n := mkR_len _ _
theorem led_cols {n : Nat} {f : List Int → List Int} (h : ∀ i, (f (eiR n i)).length = n) : ∀ i, i < n → (rw' (ledM n f n) i).length = n := fun i hi => by rw [led_all f hi]; exact h i
theorem unitMatrix_x (n : Nat) (f : List Int → List Int) (w : World) (hn : n ≤ 1024) (h0 : 1 ≤ n) :
    Calls Tryz.prog 38 #[.int .i64 n] w (fun e w' => ∃ b o c, e = .returned (.slice (some ⟨b, o, none⟩) n c) ∧ TopX w.heap.size w' b o (ledM n f 0) ∧ Below w.heap.size w w') :=
  (unitMatrix_top n w hn h0).mono fun _ _ ⟨b, o, c, e, t, h⟩ => ⟨b, o, c, by rw [e, led_zero n f, led_len], by rw [← led_zero]; exact t, h⟩
theorem transposed_n (a : Option Addr) (m : List (List Int)) (n ca lo tp : Nat) (w : World) (hnm : m.length = n) (hm : MatIn lo tp w a m) (ht : tp ≤ w.heap.size) (h0 : 0 < n) (hc : ∀ i, i < n → (rw' m i).length = n) (hn : n ≤ 1024) :
    Calls Tryz.prog 37 #[.slice a n ca] w (OwnNew (trM m) w) := by
  subst hnm
  exact transposed_any a m ca lo tp w hm ht h0 (fun i hi => by rw [hc i hi, hc 0 h0]) hn (by rw [hc 0 h0]; exact hn)

set_option maxRecDepth 100000 in
set_option maxHeartbeats 6400000 in
theorem matrixOf_v (pS : Int) (aS : Option Addr) (S : List Int) (cS loS tpS : Nat) (ax : Option Addr) (x : List Int) (cx lox tpx : Nat) (F : Int) (w : World) (hs : isSp pS S = true) (hS : RowIn loS tpS w aS S) (tS : tpS ≤ w.heap.size) (hx : RowIn lox tpx w ax x) (tx : tpx ≤ w.heap.size) (mx : isMv pS S x = true) (hF : F = nrF pS S x) :
    Calls Tryz.prog 30 #[.agg #[.int .i64 pS, .slice aS S.length cS], .iface 52 (.agg #[.int .i64 pS, .slice aS S.length cS, .slice ax x.length cx, .int .i64 pS, .int .i64 F])] w (OwnNew (trM (ledM S.length (sdM pS S x) S.length)) w) := by
  have HI := Lib.hid hs
  have HS := Lib.hid hS
  have Hx := Lib.hid hx
  have HMx := Lib.hid mx
  have HFE := Lib.hid hF
  have h6 := (isSp_iff.1 hs).hi
  have hl1 := (isSp_iff.1 hs).lo
  have hpb := prm_bd (isSp_iff.1 hs).prime
  have HLF : Hid (∀ i, ((sdM pS S x) (eiR S.length i)).length = S.length) := fun i => sd_len _ _ _ _
  have k0 := nw0 w (.int .i64 pS) (.slice aS S.length cS) 24
  have k1 := nw1 w (.int .i64 pS) (.slice aS S.length cS) 24
  have HB0 := Lib.hid (below_alloc w (.cells #[.int .i64 pS, .slice aS S.length cS] 24))
  have hm := lead_v
  have hn := lead_v_nil
  clear hs hS hx mx hF
  go_enter Tryz.func30, Tryz.ntmps30
  go_upto_region 1 with fail
  obtain ⟨w1, hw1⟩ : ∃ z, z = w.alloc (.cells #[.int .i64 pS, .slice aS S.length cS] 24) := ⟨_, rfl⟩
  rw [← hw1] at HB0 k0 k1 ⊢
  have hd1 : w.heap.size < w1.heap.size := by rw [hw1]; simp
  have HB1 := HB0
  clear hw1
  have SS1 := Lib.hid (And.intro k0 k1)
  go_wp2_with (go_at_call 38; ((with_reducible refine (unitMatrix_x S.length (sdM pS S x) w1 (by omega) (by omega)).mono ?_); rintro e w2 ⟨b, o, c, rfl, t_, b_⟩; have HT2 := Lib.hid (t_.mono (Nat.le_of_lt hd1)); have HB2 := Lib.hid (below_step HB1.out HB1.out.size b_); clear t_ b_ k0 k1))
  go_loopw [14] (fun t wr => ∃ i : Nat, i ≤ S.length ∧ t = .int .i64 i ∧ TopX w.heap.size wr b o (ledM S.length (sdM pS S x) i) ∧ Below w.heap.size w wr) (fun t _ => S.length - (intOf t).toNat)
  case atStart => exact ⟨0, Nat.zero_le _, rfl, HT2.out, HB2.out⟩
  case round =>
    obtain ⟨i, hi, rfl, ht, hbel⟩ := hrel
    have HT := Lib.hid ht
    have HB := Lib.hid hbel
    by_cases hlt : i < S.length
    · have hi1 : (i : Int) < (S.length : Int) := by omega
      obtain ⟨r, c1, hc1, hx1⟩ := ht.row i (by rw [led_len]; exact hlt)
      rw [led_row _ hlt, if_neg (Nat.lt_irrefl _)] at hc1 hx1
      have HX := Lib.hid hx1.row
      have HC1 := Lib.hid hc1
      have HEV : Hid (isVec pS S.length (eiR S.length i) = true) := ei_vec (by omega) _ _
      clear ht hbel hx1
      go_wp2_with (go_at_call 134; ((with_reducible refine (lead_own pS aS S cS loS tpS ax x cx lox tpx F r (eiR S.length i) c1 w.heap.size wr.heap.size wr HI.out (HS.out.below HB.out tS) (Nat.le_trans tS HB.out.size) (Hx.out.below HB.out tx) (Nat.le_trans tx HB.out.size) HMx.out HFE.out HX.out (Nat.le_refl _) HEV.out).mono ?_); rintro e w3 ⟨r3, c3, rfl, o_, b_⟩; have HT3 := Lib.hid (HT.out.below b_); have HR3 := Lib.hid (RowX.of o_.row HT.out.hib HB.out.size); have HB3 := Lib.hid (below_step HB.out HB.out.size b_); have hc3 := (b_.cell (p := ⟨b, o + i, none⟩) HT.out.hib).trans HC1.out; have hf3 := HT3.out.free (o + i); clear o_ b_))
      go_roundw
      case rel => exact ⟨i + 1, by omega, by go_num, by have h := HT3.out.set (c := c3) (by rw [led_len]; exact hlt) HR3.out; rw [led_set _ hlt] at h; exact h, HB3.out.setCell HT3.out.lob _⟩
      case measure => simp [intOf]; omega
    · have hi2 : ¬ (i : Int) < (S.length : Int) := by omega
      have hn' : i = S.length := by omega
      have HTE : Hid (TopX w.heap.size wr b o (ledM S.length (sdM pS S x) S.length)) := by have h := ht; rw [hn'] at h; exact h
      clear ht hbel hn'
      go_wp2_with (go_at_call 37; ((with_reducible refine (transposed_n (some ⟨b, o, none⟩) (ledM S.length (sdM pS S x) S.length) S.length c w.heap.size wr.heap.size wr (led_len _ _ _) HTE.out.mat (Nat.le_refl _) (by omega) (led_cols HLF.out) (by omega)).mono ?_); rintro e w4 ⟨r4, c4, rfl, o_, b_⟩; have HO4 := Lib.hid (o_.mono HB.out.size (Nat.le_refl _)); have HB4 := Lib.hid (below_step HB.out HB.out.size b_); clear o_ b_))
      go_ret
      exact ⟨r4, c4, rfl, HO4.out, HB4.out⟩

end Go.Proofs.YtlfjhffigkhmcaaGreat

namespace Go.Proofs.YtlfjhffigkhmcaaGreat
open Go.RowKit
set_option linter.unusedVariables false

/-- The box of a space and a number. -/
def BoxN (g b : Nat) (p : Int) (aS : Option Addr) (n cS : Nat) (F : Int) (W : World) : Prop :=
  W.cell? ⟨g, 0, none⟩ = some (.int .i64 p) ∧ W.cell? ⟨g, 1, none⟩ = some (.slice aS n cS) ∧ W.cell? ⟨b, 0, none⟩ = some (.int .i64 F)
theorem BoxN.below {g b : Nat} {p F : Int} {aS : Option Addr} {n cS B : Nat} {w w' : World} (h : BoxN g b p aS n cS F w) (hb : Below B w w') (hg : g < B ∧ b < B) : BoxN g b p aS n cS F w' :=
  ⟨(hb.cell (p := ⟨g, 0, none⟩) hg.1).trans h.1, (hb.cell (p := ⟨g, 1, none⟩) hg.1).trans h.2.1, (hb.cell (p := ⟨b, 0, none⟩) hg.2).trans h.2.2⟩

end Go.Proofs.YtlfjhffigkhmcaaGreat

namespace Go.Proofs.YtlfjhffigkhmcaaGreat
open Go.RowKit
set_option linter.unusedVariables false

theorem l03Pair_below (pS : Int) (aS : Option Addr) (S : List Int) (cS loS tpS : Nat) (av : Option Addr) (v : List Int) (nv cv lov tpv : Nat) (aw : Option Addr) (u : List Int) (nu cu lou tpu : Nat) (w : World) (hnv : v.length = nv) (hnu : u.length = nu) (hS : RowIn loS tpS w aS S) (tS : tpS ≤ w.heap.size) (hv : RowIn lov tpv w av v) (tv : tpv ≤ w.heap.size) (hu : RowIn lou tpu w aw u) (tu : tpu ≤ w.heap.size) (hs : isSp pS S = true) (h1 : isVec pS S.length v = true) (h2 : isVec pS S.length u = true) :
    Calls Tryz.prog 44 #[.agg #[.int .i64 pS, .slice aS S.length cS], .slice av nv cv, .slice aw nu cu] w fun e w' => e = .returned (.int .i64 (pairN pS S v u)) ∧ Below w.heap.size w w' := by
  subst hnv hnu; exact l03Pair_any pS aS S cS loS tpS av v cv lov tpv aw u cu lou tpu w hS tS hv tv hu tu hs h1 h2
end Go.Proofs.YtlfjhffigkhmcaaGreat

namespace Go.Proofs.YtlfjhffigkhmcaaGreat
open Go.RowKit
set_option linter.unusedVariables false

set_option maxRecDepth 100000 in
set_option maxHeartbeats 6400000 in
theorem l08Is_any (pS : Int) (aS : Option Addr) (S : List Int) (cS loS tpS : Nat) (am : Option Addr) (m : List (List Int)) (cm lom tpm : Nat) (w : World) (hS : RowIn loS tpS w aS S) (tS : tpS ≤ w.heap.size) (sS : S.length ≤ 1048576) (hm : MatIn lom tpm w am m) (tm : tpm ≤ w.heap.size) (sm' : m.length + tot m m.length ≤ 1048576) (hs : isSp pS S = true) :
    Calls Tryz.prog 17 #[.agg #[.int .i64 pS, .slice aS S.length cS], .slice am m.length cm] w (fun e w' => e = .returned (.bool (orB pS S m)) ∧ Below w.heap.size w w') := by
  have HS := Lib.hid hS
  have Hm := Lib.hid hm
  have HSM := Lib.hid sm'
  have k0 := nw0 w (.int .i64 pS) (.slice aS S.length cS) 24
  have k1 := nw1 w (.int .i64 pS) (.slice aS S.length cS) 24
  have HB0 := Lib.hid (below_alloc w (.cells #[.int .i64 pS, .slice aS S.length cS] 24))
  clear hS hm sm'
  have HI := Lib.hid hs
  clear hs
  go_enter Tryz.func17, Tryz.ntmps17
  go_upto_region 1 with fail
  obtain ⟨w1, hw1⟩ : ∃ z, z = w.alloc (.cells #[.int .i64 pS, .slice aS S.length cS] 24) := ⟨_, rfl⟩
  rw [← hw1] at HB0 k0 k1 ⊢
  have hd1 : w.heap.size < w1.heap.size := by rw [hw1]; simp
  have HB1 := HB0
  clear hw1
  have SS1 := Lib.hid (And.intro k0 k1)
  go_wp2_with (go_at_call 36; ((with_reducible refine (l03Isometry_any pS aS S cS loS tpS pS aS S cS loS tpS am m cm lom tpm w1 HI.out HI.out (HS.out.below HB1.out tS) (Nat.le_trans tS HB1.out.size) (HS.out.below HB1.out tS) (Nat.le_trans tS HB1.out.size) (Hm.out.below HB1.out tm) (Nat.le_trans tm HB1.out.size) HSM.out).mono ?_); rintro e w2 ⟨rfl, b_⟩; have SS2 := Lib.hid (ss2 b_ hd1 SS1.out); have HB2 := Lib.hid (below_step HB1.out HB1.out.size b_); have hd2 := Nat.lt_of_lt_of_le hd1 b_.size; clear k0 k1; obtain ⟨k0, k1⟩ := SS2.out; clear b_))
  go_ret
  exact ⟨rfl, HB2.out⟩

set_option maxRecDepth 100000 in
set_option maxHeartbeats 6400000 in
theorem spec_IsOrthogonal (pS : Int) (aS : Option Addr) (S : List Int) (cS loS tpS : Nat) (am : Option Addr) (m : List (List Int)) (cm lom tpm : Nat) (w : World) (hS : RowIn loS tpS w aS S) (tS : tpS ≤ w.heap.size) (sS : S.length ≤ 1048576) (hm : MatIn lom tpm w am m) (tm : tpm ≤ w.heap.size) (sm' : m.length + tot m m.length ≤ 1048576) :
    Calls Tryz.prog 5 #[.agg #[.int .i64 pS, .slice aS S.length cS], .slice am m.length cm] w (RetB (orV pS S m) (regC pS S []) w) := by
  have HS := Lib.hid hS
  have Hm := Lib.hid hm
  have HSM := Lib.hid sm'
  have k0 := nw0 w (.int .i64 pS) (.slice aS S.length cS) 24
  have k1 := nw1 w (.int .i64 pS) (.slice aS S.length cS) 24
  have HB0 := Lib.hid (below_alloc w (.cells #[.int .i64 pS, .slice aS S.length cS] 24))
  clear hS hm sm'
  rcases reg_cases pS S with ⟨hi, hc⟩ | ⟨hi, hd, hc⟩ | ⟨hi, hd, hc⟩
  · have HI := Lib.hid hi
    have HC := Lib.hid hc
    have HV : Hid (orV pS S m = false) := orV_no (by rw [hc]; decide)
    clear hi hc
    go_enter Tryz.func5, Tryz.ntmps5
    go_upto_region 1 with fail
    obtain ⟨w1, hw1⟩ : ∃ z, z = w.alloc (.cells #[.int .i64 pS, .slice aS S.length cS] 24) := ⟨_, rfl⟩
    rw [← hw1] at HB0 k0 k1 ⊢
    have hd1 : w.heap.size < w1.heap.size := by rw [hw1]; simp
    have HB1 := HB0
    clear hw1
    have SS1 := Lib.hid (And.intro k0 k1)
    go_wp2_with (go_at_call 15; ((with_reducible refine (l03Is_any pS aS S cS loS tpS w1 (HS.out.below HB1.out tS) (Nat.le_trans tS HB1.out.size) sS).mono ?_); rintro e w2 ⟨rfl, b_⟩; rw [HI.out]; have SS2 := Lib.hid (ss2 b_ hd1 SS1.out); have HB2 := Lib.hid (below_step HB1.out HB1.out.size b_); have hd2 := Nat.lt_of_lt_of_le hd1 b_.size; clear k0 k1; obtain ⟨k0, k1⟩ := SS2.out; clear b_))
    go_ret2
    exact ⟨by rw [HV.out, HC.out]; rfl, HB2.out⟩
  · have HI := Lib.hid hi
    have HC := Lib.hid hc
    obtain ⟨D, hD⟩ : ∃ d, d = discN pS S := ⟨_, rfl⟩
    have HDE := Lib.hid hD
    rw [← hD] at hd
    have hd1_ : (D == 0) = true := by simpa using hd
    have HV : Hid (orV pS S m = false) := orV_no (by rw [hc]; decide)
    clear hi hc hd hD
    go_enter Tryz.func5, Tryz.ntmps5
    go_upto_region 1 with fail
    obtain ⟨w1, hw1⟩ : ∃ z, z = w.alloc (.cells #[.int .i64 pS, .slice aS S.length cS] 24) := ⟨_, rfl⟩
    rw [← hw1] at HB0 k0 k1 ⊢
    have hd1 : w.heap.size < w1.heap.size := by rw [hw1]; simp
    have HB1 := HB0
    clear hw1
    have SS1 := Lib.hid (And.intro k0 k1)
    go_wp2_with (first | (go_at_call 15; ((with_reducible refine (l03Is_any pS aS S cS loS tpS w1 (HS.out.below HB1.out tS) (Nat.le_trans tS HB1.out.size) sS).mono ?_); rintro e w2 ⟨rfl, b_⟩; rw [HI.out]; have SS2 := Lib.hid (ss2 b_ hd1 SS1.out); have HB2 := Lib.hid (below_step HB1.out HB1.out.size b_); have hd2 := Nat.lt_of_lt_of_le hd1 b_.size; clear k0 k1; obtain ⟨k0, k1⟩ := SS2.out; clear b_)) | (go_at_call 16; ((with_reducible refine (l03Disc_any pS aS S cS loS tpS w2 (HS.out.below HB2.out tS) (Nat.le_trans tS HB2.out.size) HI.out).mono ?_); rintro e w3 ⟨rfl, b_⟩; rw [← HDE.out]; have SS3 := Lib.hid (ss2 b_ hd2 SS2.out); have HB3 := Lib.hid (below_step HB2.out HB2.out.size b_); have hd3 := Nat.lt_of_lt_of_le hd2 b_.size; clear k0 k1; obtain ⟨k0, k1⟩ := SS3.out; clear b_)))
    go_ret2
    exact ⟨by rw [HV.out, HC.out]; rfl, HB3.out⟩
  · have HI := Lib.hid hi
    have HC := Lib.hid hc
    obtain ⟨D, hD⟩ : ∃ d, d = discN pS S := ⟨_, rfl⟩
    have HDE := Lib.hid hD
    rw [← hD] at hd
    have hd1_ : (D == 0) = false := by simpa using hd
    have HV : Hid (orV pS S m = orB pS S m) := orV_reg hc
    clear hi hc hd hD
    go_enter Tryz.func5, Tryz.ntmps5
    go_upto_region 1 with fail
    obtain ⟨w1, hw1⟩ : ∃ z, z = w.alloc (.cells #[.int .i64 pS, .slice aS S.length cS] 24) := ⟨_, rfl⟩
    rw [← hw1] at HB0 k0 k1 ⊢
    have hd1 : w.heap.size < w1.heap.size := by rw [hw1]; simp
    have HB1 := HB0
    clear hw1
    have SS1 := Lib.hid (And.intro k0 k1)
    go_wp2_with (first | (go_at_call 15; ((with_reducible refine (l03Is_any pS aS S cS loS tpS w1 (HS.out.below HB1.out tS) (Nat.le_trans tS HB1.out.size) sS).mono ?_); rintro e w2 ⟨rfl, b_⟩; rw [HI.out]; have SS2 := Lib.hid (ss2 b_ hd1 SS1.out); have HB2 := Lib.hid (below_step HB1.out HB1.out.size b_); have hd2 := Nat.lt_of_lt_of_le hd1 b_.size; clear k0 k1; obtain ⟨k0, k1⟩ := SS2.out; clear b_)) | (go_at_call 16; ((with_reducible refine (l03Disc_any pS aS S cS loS tpS w2 (HS.out.below HB2.out tS) (Nat.le_trans tS HB2.out.size) HI.out).mono ?_); rintro e w3 ⟨rfl, b_⟩; rw [← HDE.out]; have SS3 := Lib.hid (ss2 b_ hd2 SS2.out); have HB3 := Lib.hid (below_step HB2.out HB2.out.size b_); have hd3 := Nat.lt_of_lt_of_le hd2 b_.size; clear k0 k1; obtain ⟨k0, k1⟩ := SS3.out; clear b_)) | (go_at_call 17; ((with_reducible refine (l08Is_any pS aS S cS loS tpS am m cm lom tpm w3 (HS.out.below HB3.out tS) (Nat.le_trans tS HB3.out.size) sS (Hm.out.below HB3.out tm) (Nat.le_trans tm HB3.out.size) HSM.out HI.out).mono ?_); rintro e w4 ⟨rfl, b_⟩; have SS4 := Lib.hid (ss2 b_ hd3 SS3.out); have HB4 := Lib.hid (below_step HB3.out HB3.out.size b_); have hd4 := Nat.lt_of_lt_of_le hd3 b_.size; clear k0 k1; obtain ⟨k0, k1⟩ := SS4.out; clear b_)))
    go_ret2
    exact ⟨by rw [HV.out, HC.out]; rfl, HB4.out⟩

set_option maxRecDepth 100000 in
set_option maxHeartbeats 6400000 in
theorem l08Code_any (pS : Int) (aS : Option Addr) (S : List Int) (cS loS tpS : Nat) (am : Option Addr) (m : List (List Int)) (cm lom tpm : Nat) (w : World) (hS : RowIn loS tpS w aS S) (tS : tpS ≤ w.heap.size) (sS : S.length ≤ 1048576) (hm : MatIn lom tpm w am m) (tm : tpm ≤ w.heap.size) (sm' : m.length + tot m m.length ≤ 1048576) :
    Calls Tryz.prog 20 #[.agg #[.int .i64 pS, .slice aS S.length cS], .slice am m.length cm] w (fun e w' => e = .returned (.int .i64 (coC pS S m)) ∧ Below w.heap.size w w') := by
  have HS := Lib.hid hS
  have Hm := Lib.hid hm
  have HSM := Lib.hid sm'
  have k0 := nw0 w (.int .i64 pS) (.slice aS S.length cS) 24
  have k1 := nw1 w (.int .i64 pS) (.slice aS S.length cS) 24
  have HB0 := Lib.hid (below_alloc w (.cells #[.int .i64 pS, .slice aS S.length cS] 24))
  clear hS hm sm'
  by_cases h0 : regC pS S [] = 0
  · have HZ := Lib.hid h0
    cases ho : orB pS S m with
    | true =>
      have HV : Hid (coC pS S m = 0) := coC_yes h0 ho
      have HO : Hid (orV pS S m = true) := (orV_reg h0).trans ho
      clear ho h0
      go_enter Tryz.func20, Tryz.ntmps20
      go_upto_region 1 with fail
      obtain ⟨w1, hw1⟩ : ∃ z, z = w.alloc (.cells #[.int .i64 pS, .slice aS S.length cS] 24) := ⟨_, rfl⟩
      rw [← hw1] at HB0 k0 k1 ⊢
      have hd1 : w.heap.size < w1.heap.size := by rw [hw1]; simp
      have HB1 := HB0
      clear hw1
      have SS1 := Lib.hid (And.intro k0 k1)
      go_wp2_with (go_at_call 5; ((with_reducible refine (spec_IsOrthogonal pS aS S cS loS tpS am m cm lom tpm w1 (HS.out.below HB1.out tS) (Nat.le_trans tS HB1.out.size) sS (Hm.out.below HB1.out tm) (Nat.le_trans tm HB1.out.size) HSM.out).mono ?_); rintro e w2 ⟨rfl, b_⟩; rw [HO.out, HZ.out]; have SS2 := Lib.hid (ss2 b_ hd1 SS1.out); have HB2 := Lib.hid (below_step HB1.out HB1.out.size b_); have hd2 := Nat.lt_of_lt_of_le hd1 b_.size; clear k0 k1; obtain ⟨k0, k1⟩ := SS2.out; clear b_))
      go_ret
      exact ⟨by rw [HV.out]; rfl, HB2.out⟩
    | false =>
      have HV : Hid (coC pS S m = 2) := coC_out h0 ho
      have HO : Hid (orV pS S m = false) := (orV_reg h0).trans ho
      clear ho h0
      go_enter Tryz.func20, Tryz.ntmps20
      go_upto_region 1 with fail
      obtain ⟨w1, hw1⟩ : ∃ z, z = w.alloc (.cells #[.int .i64 pS, .slice aS S.length cS] 24) := ⟨_, rfl⟩
      rw [← hw1] at HB0 k0 k1 ⊢
      have hd1 : w.heap.size < w1.heap.size := by rw [hw1]; simp
      have HB1 := HB0
      clear hw1
      have SS1 := Lib.hid (And.intro k0 k1)
      go_wp2_with (go_at_call 5; ((with_reducible refine (spec_IsOrthogonal pS aS S cS loS tpS am m cm lom tpm w1 (HS.out.below HB1.out tS) (Nat.le_trans tS HB1.out.size) sS (Hm.out.below HB1.out tm) (Nat.le_trans tm HB1.out.size) HSM.out).mono ?_); rintro e w2 ⟨rfl, b_⟩; rw [HO.out, HZ.out]; have SS2 := Lib.hid (ss2 b_ hd1 SS1.out); have HB2 := Lib.hid (below_step HB1.out HB1.out.size b_); have hd2 := Nat.lt_of_lt_of_le hd1 b_.size; clear k0 k1; obtain ⟨k0, k1⟩ := SS2.out; clear b_))
      go_ret
      exact ⟨by rw [HV.out]; rfl, HB2.out⟩
  · have HV : Hid (coC pS S m = regC pS S []) := coC_no h0
    have HO : Hid (orV pS S m = false) := orV_no h0
    obtain ⟨C, hC⟩ : ∃ c, c = regC pS S [] := ⟨_, rfl⟩
    have hc1 : (C != 0) = true := by rw [hC]; simpa using h0
    have hc2 : (C == 0) = false := by rw [hC]; simpa using h0
    have HCE := Lib.hid hC
    clear h0 hC
    go_enter Tryz.func20, Tryz.ntmps20
    go_upto_region 1 with fail
    obtain ⟨w1, hw1⟩ : ∃ z, z = w.alloc (.cells #[.int .i64 pS, .slice aS S.length cS] 24) := ⟨_, rfl⟩
    rw [← hw1] at HB0 k0 k1 ⊢
    have hd1 : w.heap.size < w1.heap.size := by rw [hw1]; simp
    have HB1 := HB0
    clear hw1
    have SS1 := Lib.hid (And.intro k0 k1)
    go_wp2_with (go_at_call 5; ((with_reducible refine (spec_IsOrthogonal pS aS S cS loS tpS am m cm lom tpm w1 (HS.out.below HB1.out tS) (Nat.le_trans tS HB1.out.size) sS (Hm.out.below HB1.out tm) (Nat.le_trans tm HB1.out.size) HSM.out).mono ?_); rintro e w2 ⟨rfl, b_⟩; rw [HO.out, ← HCE.out]; have SS2 := Lib.hid (ss2 b_ hd1 SS1.out); have HB2 := Lib.hid (below_step HB1.out HB1.out.size b_); have hd2 := Nat.lt_of_lt_of_le hd1 b_.size; clear k0 k1; obtain ⟨k0, k1⟩ := SS2.out; clear b_))
    go_ret
    exact ⟨by rw [HV.out, ← HCE.out]; rfl, HB2.out⟩

end Go.Proofs.YtlfjhffigkhmcaaGreat
