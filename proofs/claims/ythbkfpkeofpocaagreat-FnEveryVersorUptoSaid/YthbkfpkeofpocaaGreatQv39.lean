/-
  Matrices of motions (program): contracts of the program and of the model.
  Conditions: the lists are nil or rows of known cells, of at most 1048576 numbers.
  Versors told, products of vectors, reflections (model): contracts of the program and of the model.
  Conditions: the lists are nil or rows of known cells, of at most 1048576 numbers.
  Laws of versors, the model's side: contracts of the program and of the model.
  Conditions: the lists are nil or rows of known cells, of at most 1048576 numbers.
  Laws of versors, the model's side: contracts of the program and of the model.
  Conditions: the lists are nil or rows of known cells, of at most 1048576 numbers.
  Orthogonal matrices, the model's side: contracts of the program and of the model.
  Conditions: the lists are nil or rows of known cells, of at most 1048576 numbers.
  The model's sandwiches and reflections, with the type of their block: contracts of the program and of the model.
  Conditions: the lists are nil or rows of known cells, of at most 1048576 numbers.
  Matrices of versors and reflections, the model's side: contracts of the program and of the model.
  Conditions: the lists are nil or rows of known cells, of at most 1048576 numbers.
  Matrices of versors and reflections: contracts of the program and of the model.
  Conditions: the lists are nil or rows of known cells, of at most 1048576 numbers.
-/
import Derived.Test.YthbkfpkeofpocaaGreatQv38
import Derived.Test.YthbkfpkeofpocaaGreatQv22
import Derived.Test.YthbkfpkeofpocaaGreatQv24
import Derived.Test.YthbkfpkeofpocaaGreatQv25
import Derived.Deep.RegionHeld3
import Derived.Deep.DeepCutAuto
import Derived.Test.YthbkfpkeofpocaaGreatQv26
import Derived.Test.YthbkfpkeofpocaaGreatQv15
import Derived.Test.YthbkfpkeofpocaaGreatQv28
import Derived.Test.YthbkfpkeofpocaaGreatQv37
import Derived.Test.YthbkfpkeofpocaaGreatQv17
import Derived.Test.YthbkfpkeofpocaaGreatQv5
namespace Go.Proofs.YthbkfpkeofpocaaGreat
open Go.RowKit
set_option linter.unusedVariables false

/-- The basis vectors below i led by f, the others as they are. -/
def ledM (n : Nat) (f : List Int → List Int) (i : Nat) : List (List Int) := (List.range n).map fun j => if j < i then f (eiR n j) else eiR n j
theorem led_len (n : Nat) (f : List Int → List Int) (i : Nat) : (ledM n f i).length = n := by simp [ledM]
theorem led_row {n : Nat} (f : List Int → List Int) {i j : Nat} (hj : j < n) : rw' (ledM n f i) j = if j < i then f (eiR n j) else eiR n j := by simp [ledM, rw', List.getD, hj]
theorem led_zero (n : Nat) (f : List Int → List Int) : oneM n = ledM n f 0 :=
  mat_ext (by rw [led_len]; exact mk_len _ _ _) fun i hi => by
    have hi' : i < n := by rw [← mk_len n n fun i j => if i = j then 1 else 0]; exact hi
    rw [led_row f hi', if_neg (Nat.not_lt_zero _), ei_row hi']
theorem led_set {n i : Nat} (f : List Int → List Int) (hi : i < n) : (ledM n f i).set i (f (eiR n i)) = ledM n f (i + 1) := by
  refine mat_ext (by rw [List.length_set, led_len, led_len]) fun j hj => ?_
  rw [List.length_set, led_len] at hj
  rw [rw_setX _ (by rw [led_len]; exact hi), led_row f hj, led_row f hj]
  by_cases e : j = i
  · subst e; rw [if_pos rfl, if_pos (Nat.lt_succ_self _)]
  · rw [if_neg e]
    by_cases l : j < i
    · rw [if_pos l, if_pos (by omega)]
    · rw [if_neg l, if_neg (by omega)]
theorem led_all {n j : Nat} (f : List Int → List Int) (hj : j < n) : rw' (ledM n f n) j = f (eiR n j) := by rw [led_row f hj, if_pos hj]
theorem rfl_len {p : Int} {S u v : List Int} : (rflM p S u v).length = v.length := plusR_ln _ _ _ _
theorem sd_len (p : Int) (S x v : List Int) : (sdM p S x v).length = S.length := mkR_len _ _
theorem ei_len (n i : Nat) : (eiR n i).length = n := mkR_len _ _
theorem led_cols {n : Nat} {f : List Int → List Int} (h : ∀ i, (f (eiR n i)).length = n) : ∀ i, i < n → (rw' (ledM n f n) i).length = n := fun i hi => by rw [led_all f hi]; exact h i
theorem unitMatrix_x (n : Nat) (f : List Int → List Int) (w : World) (hn : n ≤ 1024) (h0 : 1 ≤ n) :
    Calls Tryz.prog 53 #[.int .i64 n] w (fun e w' => ∃ b o c, e = .returned (.slice (some ⟨b, o, none⟩) n c) ∧ TopX w.heap.size w' b o (ledM n f 0) ∧ Below w.heap.size w w') :=
  (unitMatrix_top n w hn h0).mono fun _ _ ⟨b, o, c, e, t, h⟩ => ⟨b, o, c, by rw [e, led_zero n f, led_len], by rw [← led_zero]; exact t, h⟩
theorem transposed_n (a : Option Addr) (m : List (List Int)) (n ca lo tp : Nat) (w : World) (hnm : m.length = n) (hm : MatIn lo tp w a m) (ht : tp ≤ w.heap.size) (h0 : 0 < n) (hc : ∀ i, i < n → (rw' m i).length = n) (hn : n ≤ 1024) :
    Calls Tryz.prog 54 #[.slice a n ca] w (OwnNew (trM m) w) := by
  subst hnm
  exact transposed_any a m ca lo tp w hm ht h0 (fun i hi => by rw [hc i hi, hc 0 h0]) hn (by rw [hc 0 h0]; exact hn)

set_option maxRecDepth 100000 in
set_option maxHeartbeats 6400000 in
theorem matrixOf_v (pS : Int) (aS : Option Addr) (S : List Int) (cS loS tpS : Nat) (ax : Option Addr) (x : List Int) (cx lox tpx : Nat) (F : Int) (w : World) (hs : isSp pS S = true) (hS : RowIn loS tpS w aS S) (tS : tpS ≤ w.heap.size) (hx : RowIn lox tpx w ax x) (tx : tpx ≤ w.heap.size) (mx : isMv pS S x = true) (hF : F = nrF pS S x) :
    Calls Tryz.prog 27 #[.agg #[.int .i64 pS, .slice aS S.length cS], .iface 50 (.agg #[.int .i64 pS, .slice aS S.length cS, .slice ax x.length cx, .int .i64 pS, .int .i64 F])] w (OwnNew (trM (ledM S.length (sdM pS S x) S.length)) w) := by
  have HI := Lib.hid hs
  have HS := Lib.hid hS
  have Hx := Lib.hid hx
  have HMx := Lib.hid mx
  have HFE := Lib.hid hF
  have h6 := (isSp_iff.1 hs).hi
  have hl1 := (isSp_iff.1 hs).lo
  have hpb := prm_bd (isSp_iff.1 hs).prime
  have HLF : Hid (∀ i, ((sdM pS S x) (eiR S.length i)).length = S.length) := fun i => sd_len _ _ _ _
  have k0 := nw0 w (.int .i64 pS) (.slice aS S.length cS) 24
  have k1 := nw1 w (.int .i64 pS) (.slice aS S.length cS) 24
  have HB0 := Lib.hid (below_alloc w (.cells #[.int .i64 pS, .slice aS S.length cS] 24))
  have hm := lead_v
  have hn := lead_v_nil
  clear hs hS hx mx hF
  go_enter Tryz.func27, Tryz.ntmps27
  go_upto_region 1 with fail
  obtain ⟨w1, hw1⟩ : ∃ z, z = w.alloc (.cells #[.int .i64 pS, .slice aS S.length cS] 24) := ⟨_, rfl⟩
  rw [← hw1] at HB0 k0 k1 ⊢
  have hd1 : w.heap.size < w1.heap.size := by rw [hw1]; simp
  have HB1 := HB0
  clear hw1
  have SS1 := Lib.hid (And.intro k0 k1)
  go_wp2_with (go_at_call 53; ((with_reducible refine (unitMatrix_x S.length (sdM pS S x) w1 (by omega) (by omega)).mono ?_); rintro e w2 ⟨b, o, c, rfl, t_, b_⟩; have HT2 := Lib.hid (t_.mono (Nat.le_of_lt hd1)); have HB2 := Lib.hid (below_step HB1.out HB1.out.size b_); clear t_ b_ k0 k1))
  go_loopw [14] (fun t wr => ∃ i : Nat, i ≤ S.length ∧ t = .int .i64 i ∧ TopX w.heap.size wr b o (ledM S.length (sdM pS S x) i) ∧ Below w.heap.size w wr) (fun t _ => S.length - (intOf t).toNat)
  case atStart => exact ⟨0, Nat.zero_le _, rfl, HT2.out, HB2.out⟩
  case round =>
    obtain ⟨i, hi, rfl, ht, hbel⟩ := hrel
    have HT := Lib.hid ht
    have HB := Lib.hid hbel
    by_cases hlt : i < S.length
    · have hi1 : (i : Int) < (S.length : Int) := by omega
      obtain ⟨r, c1, hc1, hx1⟩ := ht.row i (by rw [led_len]; exact hlt)
      rw [led_row _ hlt, if_neg (Nat.lt_irrefl _)] at hc1 hx1
      have HX := Lib.hid hx1.row
      have HC1 := Lib.hid hc1
      have HEV : Hid (isVec pS S.length (eiR S.length i) = true) := ei_vec (by omega) _ _
      clear ht hbel hx1
      go_wp2_with (go_at_call 132; ((with_reducible refine (lead_own pS aS S cS loS tpS ax x cx lox tpx F r (eiR S.length i) c1 w.heap.size wr.heap.size wr HI.out (HS.out.below HB.out tS) (Nat.le_trans tS HB.out.size) (Hx.out.below HB.out tx) (Nat.le_trans tx HB.out.size) HMx.out HFE.out HX.out (Nat.le_refl _) HEV.out).mono ?_); rintro e w3 ⟨r3, c3, rfl, o_, b_⟩; have HT3 := Lib.hid (HT.out.below b_); have HR3 := Lib.hid (RowX.of o_.row HT.out.hib HB.out.size); have HB3 := Lib.hid (below_step HB.out HB.out.size b_); have hc3 := (b_.cell (p := ⟨b, o + i, none⟩) HT.out.hib).trans HC1.out; have hf3 := HT3.out.free (o + i); clear o_ b_))
      go_roundw
      case rel => exact ⟨i + 1, by omega, by go_num, by have h := HT3.out.set (c := c3) (by rw [led_len]; exact hlt) HR3.out; rw [led_set _ hlt] at h; exact h, HB3.out.setCell HT3.out.lob _⟩
      case measure => simp [intOf]; omega
    · have hi2 : ¬ (i : Int) < (S.length : Int) := by omega
      have hn' : i = S.length := by omega
      have HTE : Hid (TopX w.heap.size wr b o (ledM S.length (sdM pS S x) S.length)) := by have h := ht; rw [hn'] at h; exact h
      clear ht hbel hn'
      go_wp2_with (go_at_call 54; ((with_reducible refine (transposed_n (some ⟨b, o, none⟩) (ledM S.length (sdM pS S x) S.length) S.length c w.heap.size wr.heap.size wr (led_len _ _ _) HTE.out.mat (Nat.le_refl _) (by omega) (led_cols HLF.out) (by omega)).mono ?_); rintro e w4 ⟨r4, c4, rfl, o_, b_⟩; have HO4 := Lib.hid (o_.mono HB.out.size (Nat.le_refl _)); have HB4 := Lib.hid (below_step HB.out HB.out.size b_); clear o_ b_))
      go_ret
      exact ⟨r4, c4, rfl, HO4.out, HB4.out⟩

end Go.Proofs.YthbkfpkeofpocaaGreat

namespace Go.Proofs.YthbkfpkeofpocaaGreat
open Go.RowKit
set_option linter.unusedVariables false

/-- The box of a space and a number. -/
def BoxN (g b : Nat) (p : Int) (aS : Option Addr) (n cS : Nat) (F : Int) (W : World) : Prop :=
  W.cell? ⟨g, 0, none⟩ = some (.int .i64 p) ∧ W.cell? ⟨g, 1, none⟩ = some (.slice aS n cS) ∧ W.cell? ⟨b, 0, none⟩ = some (.int .i64 F)
theorem BoxN.below {g b : Nat} {p F : Int} {aS : Option Addr} {n cS B : Nat} {w w' : World} (h : BoxN g b p aS n cS F w) (hb : Below B w w') (hg : g < B ∧ b < B) : BoxN g b p aS n cS F w' :=
  ⟨(hb.cell (p := ⟨g, 0, none⟩) hg.1).trans h.1, (hb.cell (p := ⟨g, 1, none⟩) hg.1).trans h.2.1, (hb.cell (p := ⟨b, 0, none⟩) hg.2).trans h.2.2⟩

end Go.Proofs.YthbkfpkeofpocaaGreat

namespace Go.Proofs.YthbkfpkeofpocaaGreat
open Go.RowKit
set_option linter.unusedVariables false

theorem l04Times_vk (pS : Int) (aS : Option Addr) (S : List Int) (cS loS tpS : Nat) (r : Option Addr) (m : List (List Int)) (k c lo tp b lo2 tp2 : Nat) (W : World) (hs : isSp pS S = true) (hS : RowIn loS tpS W aS S) (tS : tpS ≤ W.heap.size) (h : RowIn lo tp W r (vrM pS S m k)) (th : tp ≤ W.heap.size) (h2 : RowIn lo2 tp2 W (some ⟨b, 0, none⟩) (mkR (bl S) (vecF (rw' m k) (rw' m k).length))) (th2 : tp2 ≤ W.heap.size) (hv : isVec pS S.length (rw' m k) = true) :
    Calls Tryz.prog 50 #[.agg #[.int .i64 pS, .slice aS S.length cS], .slice r (vrM pS S m k).length c, .slice (some ⟨b, 0, none⟩) (bl S) (bl S)] W (OwnE (vrM pS S m (k + 1)) W) := l04Times_v pS aS S cS loS tpS r (vrM pS S m k) _ c lo tp b lo2 tp2 (rw' m k) W rfl hs hS tS h th (vr_mv hs m k) h2 th2 hv

set_option maxRecDepth 100000 in
set_option maxHeartbeats 3200000 in
theorem l07Versor_own (pS : Int) (aS : Option Addr) (S : List Int) (cS loS tpS : Nat) (am : Option Addr) (m : List (List Int)) (cm lom tpm : Nat) (w : World) (hs : isSp pS S = true) (hS : RowIn loS tpS w aS S) (tS : tpS ≤ w.heap.size) (hm : MatIn lom tpm w am m) (tm : tpm ≤ w.heap.size) (hl : listB pS S m = true) :
    Calls Tryz.prog 25 #[.agg #[.int .i64 pS, .slice aS S.length cS], .slice am m.length cm] w (OwnE (vrM pS S m m.length) w) := by
  have HI := Lib.hid hs
  have HS := Lib.hid hS
  have HM := Lib.hid hm
  have HL := Lib.hid (listB_iff hl)
  have h6 := (isSp_iff.1 hs).hi
  have hpb := prm_bd (isSp_iff.1 hs).prime
  have hbl := bl_le h6
  have hb0 := bl_pos S
  have hm16 := HL.out.1
  have HB0 := Lib.hid (below_alloc w (.cells #[.int .i64 pS, .slice aS S.length cS] 24))
  have k0 := nw0 w (.int .i64 pS) (.slice aS S.length cS) 24
  have k1 := nw1 w (.int .i64 pS) (.slice aS S.length cS) 24
  clear hs hS hm hl
  go_enter Tryz.func25, Tryz.ntmps25
  go_wp2_with (go_at_call 49; (with_reducible refine (l04One_any pS aS S cS _ h6).mono ?_); rintro e w1 ⟨r1, c1, rfl, o1, b1⟩; have O1 := Lib.hid (OwnR.mono' o1 (size_alloc w (.cells #[.int .i64 pS, .slice aS S.length cS] 24)) (Nat.le_refl _)); have HB1 := Lib.hid (below_step HB0.out (size_alloc w (.cells #[.int .i64 pS, .slice aS S.length cS] 24)) b1); have k01 := (b1.cell (p := ⟨w.heap.size, 0, none⟩) (lt_alloc w (.cells #[.int .i64 pS, .slice aS S.length cS] 24))).trans k0; have k11 := (b1.cell (p := ⟨w.heap.size, 1, none⟩) (lt_alloc w (.cells #[.int .i64 pS, .slice aS S.length cS] 24))).trans k1; have hw1 := Nat.lt_of_lt_of_le (lt_alloc w (.cells #[.int .i64 pS, .slice aS S.length cS] 24)) b1.size; clear o1 b1 k0 k1)
  go_loopw [5, 6] (fun u t wr => ∃ (k : Nat) (r : Option Addr) (c : Nat), k ≤ m.length ∧ u = .slice r (vrM pS S m k).length c ∧ t = .int .i64 k ∧ OwnR w.heap.size wr.heap.size wr r (vrM pS S m k) ∧ wr.cell? ⟨w.heap.size, 0, none⟩ = some (.int .i64 pS) ∧ wr.cell? ⟨w.heap.size, 1, none⟩ = some (.slice aS S.length cS) ∧ Below w.heap.size w wr ∧ w.heap.size < wr.heap.size) (fun _ t _ => m.length - (intOf t).toNat)
  case atStart => exact ⟨0, r1, c1, Nat.zero_le _, rfl, rfl, O1.out, k01, k11, HB1.out, hw1⟩
  case round =>
    obtain ⟨k, r, c, hk, rfl, rfl, ho, k0, k1, hbel, hlw⟩ := hrel
    have HO := Lib.hid ho
    have HB := Lib.hid hbel
    by_cases hlt : k < m.length
    · obtain ⟨b9, o9, rv, cv, ha9, _, hb9, hr9, hrow⟩ := (HM.out.below hbel tm).row hlt
      subst ha9
      have hwz := hbel.size
      have hi1 : (k : Int) < (m.length : Int) := by omega
      have HVV := Lib.hid (HL.out.2 k hlt)
      have HVL := Lib.hid (isVec_iff.1 HVV.out).len
      have HRV := Lib.hid (hrow.below (below_drew wr) (Nat.le_trans tm hwz))
      have HTV : Hid (tpm ≤ wr.drew.heap.size) := Nat.le_trans tm hwz
      have HRR : Hid (RowIn w.heap.size wr.drew.heap.size wr.drew r (vrM pS S m k)) := ho.row.below (below_drew wr) (Nat.le_refl _)
      have hxd : b9 < wr.drew.heap.size := Nat.lt_of_lt_of_le hb9 (Nat.le_trans tm hwz)
      have hs1 : Hid (wr.drew.cell? ⟨w.heap.size, 0, none⟩ = some (.int .i64 pS) ∧ wr.drew.cell? ⟨w.heap.size, 1, none⟩ = some (.slice aS S.length cS) ∧ wr.drew.cell? ⟨b9, o9 + k, none⟩ = some (.slice rv (rw' m k).length cv)) := ⟨k0, k1, hr9⟩
      have HBD : Hid (Below w.heap.size w wr.drew) := hbel.drew
      have hd0 : w.heap.size < wr.drew.heap.size := hlw
      clear ho hbel hrow
      go_wp2
      go_region_held3 (fun w' => w'.cell? ⟨w.heap.size, 0, none⟩ = some (.int .i64 pS) ∧ w'.cell? ⟨w.heap.size, 1, none⟩ = some (.slice aS S.length cS) ∧ w'.cell? ⟨b9, o9 + k, none⟩ = some (.slice rv (rw' m k).length cv)) (first | exact hs1.out | exact SSa.out | exact SSab.out | go_keep) (first | (go_at_call 51; (with_reducible refine (l04Vector_any pS aS S cS rv (rw' m k) cv lom tpm wr.drew h6 HVL.out HRV.out HTV.out).mono ?_); rintro e wa ⟨ba, rfl, l_, u_, o_, b_⟩; have SSa := Lib.hid (ss3 b_ hd0 hxd hs1.out); have hxa := Nat.lt_of_lt_of_le hxd b_.size; have HBa := Lib.hid (below_step HBD.out (Nat.le_of_lt hd0) b_); have zz_ := b_.size; have HCa := Lib.hid b_; have hda := Nat.lt_of_lt_of_le hd0 zz_; have la := Nat.lt_of_lt_of_le hd0 l_; have ua_a := u_; have Na_a := Lib.hid o_; have Ra_a := Lib.hid ((o_.own (Nat.le_of_lt la) u_).row); clear b_ o_) | (go_at_call 50; (with_reducible refine (l04Times_vk pS aS S cS loS tpS r m k c w.heap.size wr.drew.heap.size ba w.heap.size wa.heap.size wa HI.out (HS.out.below HBa.out tS) (Nat.le_trans tS (HBa.out).size) (HRR.out.below HCa.out (Nat.le_refl _)) HCa.out.size Ra_a.out (Nat.le_refl _) HVV.out).mono ?_); rintro e wab ⟨rb, kb, rfl, o_, b_⟩; have SSab := Lib.hid (ss3 b_ hda hxa SSa.out); have hxab := Nat.lt_of_lt_of_le hxa b_.size; have HBab := Lib.hid (below_step HBa.out (Nat.le_of_lt hda) b_); have zz_ := b_.size; have HCab := Lib.hid (below_step HCa.out (HCa.out).size b_); have hdab := Nat.lt_of_lt_of_le hda zz_; have Ra_ab := Lib.hid ((Ra_a.out.below b_ (Nat.le_refl _)).mono (Nat.le_refl _) zz_); have Na_ab := Lib.hid (Na_a.out.stay (b_.block ba ua_a)); have ua_ab := Nat.lt_of_lt_of_le ua_a zz_; have Ob_ab := Lib.hid (OwnR.mono' o_ (Nat.le_of_lt hda) (Nat.le_refl _)); have Rb_ab := Lib.hid (Ob_ab.out.row); clear b_ o_))
      go_wp2
      go_roundw
      case rel => exact ⟨k + 1, rb, kb, by omega, rfl, by go_num, Ob_ab.out, SSab.out.1, SSab.out.2.1, HBab.out, hdab⟩
      case measure => simp [intOf]; omega
    · have hkn : k = m.length := by omega
      subst hkn
      clear ho hbel
      go_wp2
      go_ret
      exact ⟨r, c, rfl, HO.out, HB.out⟩

end Go.Proofs.YthbkfpkeofpocaaGreat

namespace Go.Proofs.YthbkfpkeofpocaaGreat
open Go.RowKit
set_option linter.unusedVariables false

theorem codeL_sp7 {p : Int} {S : List Int} {m : List (List Int)} (h : codeL p S m = 0) : isSp p S = true ∧ listB p S m = true := by
  rcases codeL_cases p S m with ⟨_, hc⟩ | ⟨hi, hl, _⟩ | ⟨_, _, hc⟩
  · rw [hc] at h; cases h
  · exact ⟨hi, hl⟩
  · rw [hc] at h; cases h

end Go.Proofs.YthbkfpkeofpocaaGreat

namespace Go.Proofs.YthbkfpkeofpocaaGreat
open Go.RowKit
set_option linter.unusedVariables false

theorem TagR.low {lo lo' tp : Nat} {w : World} {a : Option Addr} {z : List Int} (h : TagR lo tp w a z) (hl : lo' ≤ lo) : TagR lo' tp w a z := h.block hl (Nat.le_refl _) (fun _ _ _ _ _ => rfl)
end Go.Proofs.YthbkfpkeofpocaaGreat

namespace Go.Proofs.YthbkfpkeofpocaaGreat
open Go.RowKit
set_option linter.unusedVariables false

def mvV (p : Int) (S x : List Int) : List (List Int) := if vrC p S x = 0 then trM (ledM S.length (sdM p S x) S.length) else []
theorem trL_size {n : Nat} {f : List Int → List Int} (h : ∀ i, (f (eiR n i)).length = n) (h0 : 0 < n) (hn : n ≤ 6) : (trM (ledM n f n)).length + tot (trM (ledM n f n)) (trM (ledM n f n)).length ≤ 1048576 := by
  have e : trM (ledM n f n) = mk (rw' (ledM n f n) 0).length (ledM n f n).length fun k i => at' (ledM n f n) i k := rfl
  rw [e, led_len, led_cols h 0 h0]
  exact mk_size (by omega) (by omega)
theorem mvV_size (p : Int) (S x : List Int) : (mvV p S x).length + tot (mvV p S x) (mvV p S x).length ≤ 1048576 := by
  unfold mvV; split
  · rename_i h
    have K := isSp_iff.1 (vrC_zero h).1
    exact trL_size (fun i => sd_len _ _ _ _) K.lo K.hi
  · simp [tot]
set_option maxRecDepth 100000 in
set_option maxHeartbeats 6400000 in
theorem impl_MatrixOfVersor (pS : Int) (aS : Option Addr) (S : List Int) (cS loS tpS : Nat) (ax : Option Addr) (x : List Int) (cx lox tpx : Nat) (w : World) (hS : RowIn loS tpS w aS S) (tS : tpS ≤ w.heap.size) (sS : S.length ≤ 1048576) (hx : RowIn lox tpx w ax x) (tx : tpx ≤ w.heap.size) (sx : x.length ≤ 1048576) :
    Calls Tryz.prog 9 #[.agg #[.int .i64 pS, .slice aS S.length cS], .slice ax x.length cx] w (ImplM (mvV pS S x) (vrC pS S x) w) := by
  have HS := Lib.hid hS
  have Hx := Lib.hid hx
  have k0 := nw0 w (.int .i64 pS) (.slice aS S.length cS) 24
  have k1 := nw1 w (.int .i64 pS) (.slice aS S.length cS) 24
  have HB0 := Lib.hid (below_alloc w (.cells #[.int .i64 pS, .slice aS S.length cS] 24))
  clear hS hx
  by_cases hc : vrC pS S x = 0
  · have HV : Hid (mvV pS S x = trM (ledM S.length (sdM pS S x) S.length)) := by show _ = _; unfold mvV; rw [if_pos hc]
    have HC := Lib.hid hc
    have hz := vrC_zero hc
    have HI := Lib.hid hz.1
    have HMX := Lib.hid hz.2.1
    obtain ⟨F, hF⟩ : ∃ f, f = nrF pS S x := ⟨_, rfl⟩
    have HFE := Lib.hid hF
    clear hc hz hF
    go_enter Tryz.func9, Tryz.ntmps9
    go_upto_region 1 with fail
    obtain ⟨w1, hw1⟩ : ∃ z, z = w.alloc (.cells #[.int .i64 pS, .slice aS S.length cS] 24) := ⟨_, rfl⟩
    rw [← hw1] at HB0 k0 k1 ⊢
    have hd1 : w.heap.size < w1.heap.size := by rw [hw1]; simp
    have HB1 := HB0
    clear hw1
    have SS1 := Lib.hid (And.intro k0 k1)
    go_upto_region 2 with (go_at_call 26; ((with_reducible refine (checkVersor_y pS aS S cS loS tpS ax x cx lox tpx w1 (HS.out.below HB1.out tS) (Nat.le_trans tS HB1.out.size) sS (Hx.out.below HB1.out tx) (Nat.le_trans tx HB1.out.size) sx HC.out).mono ?_); rintro e w2 ⟨rfl, b_⟩; rw [← HFE.out]; have SS2 := Lib.hid (ss2 b_ hd1 SS1.out); have HB2 := Lib.hid (below_step HB1.out HB1.out.size b_); have hd2 := Nat.lt_of_lt_of_le hd1 b_.size; clear k0 k1; obtain ⟨k0, k1⟩ := SS2.out; clear b_))
    obtain ⟨w3, hwn⟩ : ∃ z, z = w2.alloc (.cells #[.int .i64 pS, .slice aS S.length cS, .slice ax x.length cx, .int .i64 pS, .int .i64 F] 50) := ⟨_, rfl⟩
    obtain ⟨f, hf⟩ : ∃ b, b = w2.heap.size := ⟨_, rfl⟩
    have FN := V5.new w2 (.int .i64 pS) (.slice aS S.length cS) (.slice ax x.length cx) (.int .i64 pS) (.int .i64 F) 50
    rw [← hwn, ← hf] at FN
    have bn_ : Below w2.heap.size w2 w3 := by rw [hwn]; exact below_alloc _ _
    have ff3 : f < w3.heap.size := by rw [hwn, hf]; simp
    have lf : w.heap.size < f := by rw [hf]; exact hd2
    have SS3 := Lib.hid (ss2 bn_ hd2 SS2.out)
    have HB3 := Lib.hid (below_step HB2.out HB2.out.size bn_)
    have hd3 := Nat.lt_of_lt_of_le hd2 bn_.size
    rw [← hwn, ← hf]
    clear hwn hf bn_ k0 k1
    have FF3 : Hid (Box5 f (.int .i64 pS) (.slice aS S.length cS) (.slice ax x.length cx) (.int .i64 pS) (.int .i64 F) w3) := FN.1
    clear FN
    obtain ⟨f0, f1, f2, f3, f4⟩ := FF3.out
    obtain ⟨k0, k1⟩ := SS3.out
    go_wp2_with (go_at_call 27; ((with_reducible refine (matrixOf_v pS aS S cS loS tpS ax x cx lox tpx F w3 HI.out (HS.out.below HB3.out tS) (Nat.le_trans tS HB3.out.size) (Hx.out.below HB3.out tx) (Nat.le_trans tx HB3.out.size) HMX.out HFE.out).mono ?_); rintro e w4 ⟨r, c, rfl, o_, b_⟩; have SS4 := Lib.hid (ss2 b_ hd3 SS3.out); have HB4 := Lib.hid (below_step HB3.out HB3.out.size b_); have hd4 := Nat.lt_of_lt_of_le hd3 b_.size; have FF4 := Lib.hid (FF3.out.below b_ ff3); have ff4 := Nat.lt_of_lt_of_le ff3 b_.size; have OO := Lib.hid (o_.mono (Nat.le_of_lt hd3) (Nat.le_refl _)); clear o_; clear k0 k1; obtain ⟨k0, k1⟩ := SS4.out; clear f0 f1 f2 f3 f4; obtain ⟨f0, f1, f2, f3, f4⟩ := FF4.out; clear b_))
    go_ret2
    rw [HV.out, HC.out]
    exact ⟨r, c, rfl, OO.out, HB4.out⟩
  · have HV : Hid (mvV pS S x = []) := by show _ = _; unfold mvV; rw [if_neg hc]
    have HC : Hid (vrC pS S x ≠ 0) := hc
    obtain ⟨C, hC⟩ : ∃ c, c = vrC pS S x := ⟨_, rfl⟩
    have hc1 : (C != 0) = true := by rw [hC]; simpa using hc
    have HCE := Lib.hid hC
    clear hc hC
    go_enter Tryz.func9, Tryz.ntmps9
    go_upto_region 1 with fail
    obtain ⟨w1, hw1⟩ : ∃ z, z = w.alloc (.cells #[.int .i64 pS, .slice aS S.length cS] 24) := ⟨_, rfl⟩
    rw [← hw1] at HB0 k0 k1 ⊢
    have hd1 : w.heap.size < w1.heap.size := by rw [hw1]; simp
    have HB1 := HB0
    clear hw1
    have SS1 := Lib.hid (And.intro k0 k1)
    go_upto_region 2 with (go_at_call 26; ((with_reducible refine (checkVersor_n pS aS S cS loS tpS ax x cx lox tpx w1 (HS.out.below HB1.out tS) (Nat.le_trans tS HB1.out.size) sS (Hx.out.below HB1.out tx) (Nat.le_trans tx HB1.out.size) sx HC.out).mono ?_); rintro e w2 ⟨rfl, b_⟩; rw [← HCE.out]; have SS2 := Lib.hid (ss2 b_ hd1 SS1.out); have HB2 := Lib.hid (below_step HB1.out HB1.out.size b_); have hd2 := Nat.lt_of_lt_of_le hd1 b_.size; clear k0 k1; obtain ⟨k0, k1⟩ := SS2.out; clear b_))
    obtain ⟨w3, hwn⟩ : ∃ z, z = w2.alloc (.cells #[.int .i64 0, .slice none 0 0, .slice none 0 0, .int .i64 0, .int .i64 0] 50) := ⟨_, rfl⟩
    obtain ⟨f, hf⟩ : ∃ b, b = w2.heap.size := ⟨_, rfl⟩
    have FN := V5.new w2 (.int .i64 0) (.slice none 0 0) (.slice none 0 0) (.int .i64 0) (.int .i64 0) 50
    rw [← hwn, ← hf] at FN
    have bn_ : Below w2.heap.size w2 w3 := by rw [hwn]; exact below_alloc _ _
    have ff3 : f < w3.heap.size := by rw [hwn, hf]; simp
    have lf : w.heap.size < f := by rw [hf]; exact hd2
    have SS3 := Lib.hid (ss2 bn_ hd2 SS2.out)
    have HB3 := Lib.hid (below_step HB2.out HB2.out.size bn_)
    have hd3 := Nat.lt_of_lt_of_le hd2 bn_.size
    rw [← hwn, ← hf]
    clear hwn hf bn_ k0 k1
    have FF3 : Hid (Box5 f (.int .i64 0) (.slice none 0 0) (.slice none 0 0) (.int .i64 0) (.int .i64 0) w3) := FN.1
    clear FN
    obtain ⟨f0, f1, f2, f3, f4⟩ := FF3.out
    obtain ⟨k0, k1⟩ := SS3.out
    go_wp2
    go_ret2
    rw [HV.out, ← HCE.out]
    exact ⟨none, 0, rfl, .inl rfl, HB3.out⟩

end Go.Proofs.YthbkfpkeofpocaaGreat
