/-
  Masks of pivots, the greatest number, lists compared: contracts of the program and of the model.
  Conditions: the lists are nil or rows of known cells, of at most 1048576 numbers.
  AreDependent: contracts of the program and of the model.
  Conditions: the lists are nil or rows of known cells, of at most 1048576 numbers.
  Squares, members, blades of lists: contracts of the program and of the model.
  Conditions: the lists are nil or rows of known cells, of at most 1048576 numbers.
  The program's kernel: the walk.
  Conditions: the matrix is a row of rows of known cells with numbers of the prime.
-/
import Derived.Test.YtbnegbpapjcmhaaQa629
import Derived.Test.YtbnegbpapjcmhaaQa621
import Derived.BigQuiet
import Derived.Test.YtbnegbpapjcmhaaQa615
import Derived.Test.YtbnegbpapjcmhaaQa627
import Derived.Test.YtbnegbpapjcmhaaQa616
import Derived.Deep.RegionHeld3
import Derived.Deep.DeepCutAuto
import Derived.Test.YtbnegbpapjcmhaaQa628
namespace Go.Proofs.Ytbnegbpapjcmhaa
open Go.RowKit
set_option linter.unusedVariables false

theorem isNotZ_any (x : Int) (w : World) :
    Calls Try.prog 66 #[.int .i64 x] w fun e w' => e = .returned (.bool (x != 0)) ∧ w = w' := by
  go_enter Try.func66, Try.ntmps66
  go_wp2
  go_ret
  exact ⟨rfl, rfl⟩

set_option maxHeartbeats 800000 in
theorem pivFunc_yes (a : Option Addr) (z : List Int) (n k ca lo tp : Nat) (w : World) (hz : RowIn lo tp w a z) (hn : z.length = n) (hl : n ≤ 1024) (hk : fstAt z k) :
    Calls Try.prog 65 #[.slice a n ca, .func (.func 66) #[] #[]] w fun e w' => e = .returned (.int .i64 k) ∧ w = w' := by
  subst hn
  have HZ := Lib.hid hz
  have HK := Lib.hid hk
  clear hz hk
  go_enter Try.func65, Try.ntmps65
  go_wp2
  go_loop [8] (fun t => ∃ i : Nat, i ≤ k ∧ t = .int .i64 i) (fun t => z.length - (intOf t).toNat)
  case atStart => exact ⟨0, Nat.zero_le _, rfl⟩
  case round =>
    obtain ⟨i, hi, rfl⟩ := hrel
    have hkl := HK.out.1
    have hi1 : (i : Int) < (z.length : Int) := by omega
    obtain ⟨b1, o1, ha1, _, _, hc1⟩ := HZ.out.num (by omega : i < z.length)
    subst ha1
    by_cases e : i = k
    · subst e
      have h3 := HK.out.2.2
      obtain ⟨x, hx⟩ : ∃ x, x = z.getD i 0 := ⟨_, rfl⟩
      rw [← hx] at hc1 h3
      have HX : Hid ((x != 0) = true) := by show _ = _; simpa using h3
      clear hx h3
      go_wp2_with (go_at_call 66; refine (isNotZ_any x _).mono ?_; rintro e w1 ⟨rfl, rfl⟩; rw [HX.out])
      go_ret
      exact ⟨rfl, rfl⟩
    · have h2 := HK.out.2.1 i (by omega)
      rw [h2] at hc1
      go_wp2_with (go_at_call 66; refine (isNotZ_any 0 _).mono ?_; rintro e w1 ⟨rfl, rfl⟩)
      go_round
      case rel => exact ⟨i + 1, by omega, by go_num⟩
      case measure => simp [intOf]; omega

theorem or_64 {a b : Nat} (ha : a < 64) (hb : b < 64) : bits .or .i64 (a : Int) (b : Int) = ((a ||| b : Nat) : Int) := by
  have h : ∀ a : Nat, a < 64 → ∀ b : Nat, b < 64 → bits .or .i64 (a : Int) (b : Int) = ((a ||| b : Nat) : Int) := by decide +kernel
  exact h a ha b hb
set_option maxHeartbeats 1600000 in
theorem pivotMask_any (a : Option Addr) (m : List (List Int)) (ca lo tp : Nat) (P : Nat → Nat) (w : World) (hm : MatIn lo tp w a m) (hl : ∀ i, i < m.length → (rw' m i).length ≤ 1024) (hf : ∀ i, i < m.length → fstAt (rw' m i) (P i)) (h6 : ∀ i, i < m.length → P i < 6) (hn : m.length ≤ 1024) :
    Calls Try.prog 39 #[.slice a m.length ca] w fun e w' => e = .returned (.int .i64 (pm P m.length)) ∧ w = w' := by
  have HM := Lib.hid hm
  have HL := Lib.hid hl
  have HF := Lib.hid hf
  have H6 := Lib.hid h6
  clear hm hl hf h6
  go_enter Try.func39, Try.ntmps39
  go_wp2
  go_loop [3, 8] (fun u t => ∃ i : Nat, i ≤ m.length ∧ u = .int .i64 (pm P i) ∧ t = .int .i64 i) (fun _ t => m.length - (intOf t).toNat)
  case atStart => exact ⟨0, Nat.zero_le _, rfl, rfl⟩
  case round =>
    obtain ⟨i, hi, rfl, rfl⟩ := hrel
    by_cases hlt : i < m.length
    · have hi1 : (i : Int) < (m.length : Int) := by omega
      obtain ⟨b9, o9, rv, cv, ha9, _, _, hr9, hrow⟩ := HM.out.row hlt
      subst ha9
      have HR := Lib.hid hrow
      have h6 := H6.out i hlt
      have hl1 := HL.out i hlt
      obtain ⟨q, hq⟩ : ∃ q, q = 2 ^ P i := ⟨_, rfl⟩
      obtain ⟨M, hM⟩ : ∃ M, M = pm P i := ⟨_, rfl⟩
      have hM64 : M < 64 := by rw [hM]; exact pm_lt (Q := 6) P i fun j hj => H6.out j (by omega)
      have hq64 : q < 64 := by rw [hq]; exact (show 2 ^ P i < 2 ^ 6 from Nat.pow_lt_pow_right (by decide) h6)
      have e1 : wrap64 ((2 : Int) ^ P i) = (q : Int) := by rw [hq]; exact wrap_pow h6
      have e2 : IntKind.i64.wrap ((2 : Int) ^ P i) = (q : Int) := by rw [hq]; exact kwrap_pow h6
      have e3 : bits .or .i64 (M : Int) (q : Int) = ((M ||| q : Nat) : Int) := or_64 hM64 hq64
      have HN : Hid (M ||| q = pm P (i + 1)) := by show _ = _; rw [hM, hq]; rfl
      rw [← hM]
      clear hrow hq hM
      go_wp2_with (go_at_call 65; (with_reducible refine (pivFunc_yes rv (rw' m i) (rw' m i).length (P i) cv lo tp _ HR.out rfl hl1 (HF.out i hlt)).mono ?_); rintro e w1 ⟨rfl, rfl⟩)
      go_round
      case rel => exact ⟨i + 1, by omega, by rw [← HN.out], by go_num⟩
      case measure => simp [intOf]; omega
    · have hin : i = m.length := by omega
      subst hin
      go_wp2
      go_ret
      exact ⟨rfl, rfl⟩

set_option maxHeartbeats 1600000 in
theorem equal_any (a b : Option Addr) (za zb : List Int) (ca cb lo tp lo' tp' : Nat) (w : World) (ha : RowIn lo tp w a za) (hb : RowIn lo' tp' w b zb) (sa : za.length ≤ 1048576) :
    Calls Try.prog 42 #[.slice a za.length ca, .slice b zb.length cb] w fun e w' => e = .returned (.bool (decide (za = zb))) ∧ Quiet w w' := by
  have HA := Lib.hid ha
  have HB := Lib.hid hb
  clear ha hb
  by_cases hl : za.length = zb.length
  · have HL := Lib.hid hl
    obtain ⟨n, hn⟩ : ∃ n, n = zb.length := ⟨_, rfl⟩
    have HN := Lib.hid hn
    rw [hl] at sa ⊢
    rw [← hn] at sa ⊢
    clear hl hn
    go_enter Try.func42, Try.ntmps42
    go_wp2
    go_loopw [13] (fun t wr => ∃ i : Nat, i ≤ n ∧ t = .int .i64 i ∧ (∀ j, j < i → za.getD j 0 = zb.getD j 0) ∧ Quiet w wr) (fun t _ => n - (intOf t).toNat)
    case atStart => exact ⟨0, Nat.zero_le _, rfl, fun j hj => by omega, Quiet.refl _⟩
    case round =>
      obtain ⟨i, hi, rfl, hall, hq⟩ := hrel
      have HQ := Lib.hid hq
      have HALL := Lib.hid hall
      by_cases hlt : i < n
      · obtain ⟨b1, o1, ha1, _, _, hc1⟩ := (HA.out.same (hq.same _ _)).num (show i < za.length by rw [HL.out, ← HN.out]; exact hlt)
        obtain ⟨b2, o2, ha2, _, _, hc2⟩ := (HB.out.same (hq.same _ _)).num (show i < zb.length by rw [← HN.out]; exact hlt)
        subst ha1
        subst ha2
        have hi1 : (i : Int) < (n : Int) := by omega
        obtain ⟨x, hx⟩ : ∃ x, x = za.getD i 0 := ⟨_, rfl⟩
        obtain ⟨y, hy⟩ : ∃ y, y = zb.getD i 0 := ⟨_, rfl⟩
        have HX := Lib.hid hx
        have HY := Lib.hid hy
        rw [← hx] at hc1
        rw [← hy] at hc2
        clear hx hy hall hq
        by_cases hxy : x = y
        · have e1 : (x != y) = false := by simp [hxy]
          have HXY := Lib.hid hxy
          clear hxy
          go_wp2
          go_quiet (fail)
          go_wp2
          go_roundw
          case rel => exact ⟨i + 1, by omega, by go_num, fun j hj => by
            by_cases e : j = i
            · subst e; rw [← HX.out, ← HY.out, HXY.out]
            · exact HALL.out j (by omega), HQ.out.next _⟩
          case measure => simp [intOf]; omega
        · have e1 : (x != y) = true := by simp [hxy]
          have HR : Hid (decide (za = zb) = false) := decide_eq_false fun e => hxy (by rw [HX.out, HY.out, e])
          clear hxy
          go_wp2
          go_quiet (fail)
          go_wp2
          go_ret
          exact ⟨by rw [HR.out]; rfl, HQ.out.next _⟩
      · have hin : i = n := by omega
        subst hin
        have HR : Hid (decide (za = zb) = true) := decide_eq_true (row_ext HL.out (fun j hj => hall j (by rw [HN.out, ← HL.out]; exact hj)))
        clear hall hq
        go_wp2
        go_ret
        exact ⟨by rw [HR.out]; rfl, HQ.out⟩
  · have HR : Hid (decide (za = zb) = false) := decide_eq_false fun e => hl (by rw [e])
    obtain ⟨n, hn⟩ : ∃ n, n = za.length := ⟨_, rfl⟩
    obtain ⟨m, hm⟩ : ∃ m, m = zb.length := ⟨_, rfl⟩
    rw [← hn, ← hm] at hl ⊢
    have hl2 : ((n : Int) != (m : Int)) = true := by simp; omega
    go_enter Try.func42, Try.ntmps42
    go_wp2
    go_ret
    exact ⟨by rw [HR.out]; rfl, Quiet.refl _⟩

end Go.Proofs.Ytbnegbpapjcmhaa

namespace Go.Proofs.Ytbnegbpapjcmhaa
open Go.RowKit
set_option linter.unusedVariables false

theorem list_isL {p : Int} {S : List Int} {m : List (List Int)} (hs : isSp p S = true) (hl : listB p S m = true) : isL 0 p m = true := by
  have h := listB_iff hl
  have k := isSp_iff.1 hs
  have len : ∀ i, i < m.length → (rw' m i).length = S.length := fun i hi => (isVec_iff.1 (h.2 i hi)).len
  have h6 := k.hi
  have h1 := k.lo
  refine isL_iff.2 ⟨k.prime, Nat.zero_le _, h.1, fun i hi => ?_, fun i hi => ?_, fun i hi => ?_, fun i hi => ?_⟩
  · rw [len i hi, len 0 (by omega)]
  · rw [len i hi]; exact h1
  · rw [len i hi]; omega
  · have h2 := h.2 i hi
    unfold isVec at h2
    rw [Bool.and_eq_true] at h2
    exact h2.2

end Go.Proofs.Ytbnegbpapjcmhaa

namespace Go.Proofs.Ytbnegbpapjcmhaa
open Go.RowKit
set_option linter.unusedVariables false

theorem Vec.num' {p : Int} {n : Nat} {v : List Int} (h : Vec p n v) {j : Nat} (hj : j < n) : 0 ≤ v.getD j 0 ∧ v.getD j 0 < p := by
  have hj' : j < v.length := by rw [h.len]; exact hj
  have := List.all_eq_true.1 h.all (v[j]) (List.getElem_mem hj')
  rw [getD_at hj']
  exact inr_iff.1 this
theorem bas_list {p : Int} {S : List Int} {m : List (List Int)} (hs : isSp p S = true) (hl : listB p S m = true) : listB p S (bas p m) = true := by
  have h := listB_iff hl
  have len : ∀ i, i < m.length → (rw' m i).length = S.length := fun i hi => (isVec_iff.1 (h.2 i hi)).len
  have hb := bas_is (c := S.length) (isSp_iff.1 hs).prime m len (fun i hi j hj => (isVec_iff.1 (h.2 i hi)).num' hj)
  obtain ⟨P, hP⟩ := hb.red
  have hle : (bas p m).length ≤ S.length := hP.rows_le
  have h6 := (isSp_iff.1 hs).hi
  unfold listB
  rw [Bool.and_eq_true, decide_eq_true_eq]
  refine ⟨List.all_eq_true.2 fun z hz => ?_, by omega⟩
  obtain ⟨i, hi, rfl⟩ := List.getElem_of_mem hz
  have e : rw' (bas p m) i = (bas p m)[i] := by unfold rw'; simp [List.getD, hi]
  rw [← e]
  refine isVec_iff.2 ⟨hb.len i hi, ?_⟩
  rw [List.all_eq_true]
  intro y hy
  obtain ⟨j, hj, rfl⟩ := List.getElem_of_mem hy
  have h2 := hP.rng i hi j (by rw [← hb.len i hi]; exact hj)
  unfold at' at h2
  rw [getD_at hj] at h2
  exact inr_iff.2 h2

set_option maxRecDepth 100000 in
set_option maxHeartbeats 3200000 in
theorem bladeOfSpan_own (pS : Int) (aS : Option Addr) (S : List Int) (cS loS tpS : Nat) (am : Option Addr) (m : List (List Int)) (cm lom tpm : Nat) (w : World) (hs : isSp pS S = true) (hS : RowIn loS tpS w aS S) (tS : tpS ≤ w.heap.size) (hm : MatIn lom tpm w am m) (tm : tpm ≤ w.heap.size) (hl : listB pS S m = true) :
    Calls Try.prog 29 #[.agg #[.int .i64 pS, .slice aS S.length cS], .slice am m.length cm] w (OwnE (wvB pS S m) w) := by
  have HI := Lib.hid hs
  have HS := Lib.hid hS
  have h6 := (isSp_iff.1 hs).hi
  have hpb := prm_bd (isSp_iff.1 hs).prime
  have hbl := bl_le h6
  have hb0 := bl_pos S
  have HB0 := Lib.hid (below_alloc w (.cells #[.int .i64 pS, .slice aS S.length cS] 28))
  have k0 := nw0 w (.int .i64 pS) (.slice aS S.length cS) 28
  have k1 := nw1 w (.int .i64 pS) (.slice aS S.length cS) 28
  have Hm := Lib.hid hm
  have HIL := Lib.hid (list_isL hs hl)
  have HBB := Lib.hid (bas_list hs hl)
  have hfe := field_ech
  clear hs hS hm hl
  go_enter Try.func29, Try.ntmps29
  go_upto_region 1 with fail
  obtain ⟨w1, hw1⟩ : ∃ z, z = w.alloc (.cells #[.int .i64 pS, .slice aS S.length cS] 28) := ⟨_, rfl⟩
  rw [← hw1] at HB0 k0 k1 ⊢
  have hw0 : w.heap.size < w1.heap.size := by rw [hw1]; simp
  clear hw1
  have hs1 : Hid (w1.drew.cell? ⟨w.heap.size, 0, none⟩ = some (.int .i64 pS) ∧ w1.drew.cell? ⟨w.heap.size, 1, none⟩ = some (.slice aS S.length cS)) := ⟨k0, k1⟩
  have HBD : Hid (Below w.heap.size w w1.drew) := HB0.out.drew
  have hd0 : w.heap.size < w1.drew.heap.size := hw0
  go_region_held3 (fun w' => w'.cell? ⟨w.heap.size, 0, none⟩ = some (.int .i64 pS) ∧ w'.cell? ⟨w.heap.size, 1, none⟩ = some (.slice aS S.length cS)) (first | exact hs1.out | exact SSa.out | exact SSab.out | go_keep) (first | (go_at_call 47; (with_reducible refine (elimO pS am m cm lom tpm w1.drew (Hm.out.below HBD.out tm) (Nat.le_trans tm (HBD.out).size) HIL.out).mono ?_); rintro e wa ⟨ra, ka, va, da, rfl, o_, b_⟩; have SSa := Lib.hid (ss2 b_ hd0 hs1.out); have HBa := Lib.hid (below_step HBD.out (Nat.le_of_lt hd0) b_); have zz_ := b_.size; have hda := Nat.lt_of_lt_of_le hd0 zz_; have Ma_a := Lib.hid (o_.mat.mono (Nat.le_of_lt hd0) (Nat.le_refl _)); clear b_ o_) | (go_at_call 40; (with_reducible refine (wedgeOfVectors_own pS aS S cS loS tpS ra (bas pS m) ka w.heap.size wa.heap.size wa HI.out (HS.out.below HBa.out tS) (Nat.le_trans tS (HBa.out).size) Ma_a.out (Nat.le_refl _) HBB.out).mono ?_); rintro e wab ⟨rb, kb, rfl, o_, b_⟩; have SSab := Lib.hid (ss2 b_ hda SSa.out); have HBab := Lib.hid (below_step HBa.out (Nat.le_of_lt hda) b_); have zz_ := b_.size; have hdab := Nat.lt_of_lt_of_le hda zz_; have Ma_ab := Lib.hid ((Ma_a.out.below b_ (Nat.le_refl _)).mono (Nat.le_refl _) zz_); have Ob_ab := Lib.hid (OwnR.mono' o_ (Nat.le_of_lt hda) (Nat.le_refl _)); have Rb_ab := Lib.hid (Ob_ab.out.row); clear b_ o_))
  all_goals
    go_wp2
    go_ret
    exact ⟨rb, kb, rfl, Ob_ab.out, HBab.out⟩

end Go.Proofs.Ytbnegbpapjcmhaa

namespace Go.Proofs.Ytbnegbpapjcmhaa
open Go.RowKit
set_option linter.unusedVariables false

def OwnK (m : List (List Int)) (w : World) (e : Ending) (w' : World) : Prop :=
  ∃ r k, e = .returned (.slice r m.length k) ∧ OwnM w.heap.size w'.heap.size w' r m ∧ Below w.heap.size w w'

set_option maxRecDepth 100000 in
set_option maxHeartbeats 6400000 in
theorem kernelOf_any (p : Int) (a : Option Addr) (A : List (List Int)) (ca lo tp : Nat) (w : World) (hm : MatIn lo tp w a A) (ht : tp ≤ w.heap.size) (hA : RowsW p A) :
    Calls Try.prog 37 #[.int .i64 p, .slice a A.length ca] w (OwnK (kerB p A) w) := by
  obtain ⟨i0, hi, hz0, hz1, hz2⟩ := info_parts info64
  obtain ⟨j0, kj, kz0, kz1, kz2⟩ := info_parts info_slice
  have hpb := prm_bd hA.prime
  have HP := Lib.hid hA.prime
  have HM := Lib.hid hm
  have HA := Lib.hid hA
  have HKL := Lib.hid (kerP_lstW hA)
  have hA0 : 0 < A.length := hA.lo
  obtain ⟨b, o, r0, c0, ha, _, hb, hr0, _⟩ := HM.out.row (i := 0) hA.lo
  subst ha
  rw [Nat.add_zero] at hr0
  have c1 := hA.c0
  have c16 := hA.c1
  obtain ⟨KP, hKP⟩ : ∃ x, x = kerP p A := ⟨_, rfl⟩
  have HKP : Hid (KP = kerN p (bas p A) (pvs (bas p A)) (rw' A 0).length (bas p A).length (rw' A 0).length) := hKP
  have HKB : Hid (kerB p A = bas p KP) := by show _ = _; rw [hKP]; rfl
  rw [← hKP] at HKL
  obtain ⟨c, hcc⟩ : ∃ c, c = (rw' A 0).length := ⟨_, rfl⟩
  rw [← hcc] at hr0 c1 c16 HKP
  have HCC := Lib.hid hcc
  have hb' : b < w.heap.size := Nat.lt_of_lt_of_le hb ht
  obtain ⟨B, hB⟩ : ∃ B, B = bas p A := ⟨_, rfl⟩
  rw [← hB] at HKP
  have HBE := Lib.hid hB
  obtain ⟨n, hn⟩ : ∃ n, n = B.length := ⟨_, rfl⟩
  rw [← hn] at HKP
  have HN := Lib.hid hn
  obtain ⟨P, hP⟩ : ∃ P, P = pvs B := ⟨_, rfl⟩
  rw [← hP] at HKP
  have HPE := Lib.hid hP
  have fv := field_ech
  have hmk := fun W => run_make_row' (P := Try.prog) 22 2 (.int .i64 0) 8 Try.underlying22 info64 rfl .i64 .i64 c (by omega) (by omega) W
  have HMK := Lib.hid hmk
  rw [HKB.out]
  clear hm hA hKP hcc hB hn hP hmk
  go_enter Try.func37, Try.ntmps37
  go_wp2_with (go_at_call 47; (with_reducible refine (elimK p _ A _ lo tp _ HM.out ht HA.out).mono ?_); rintro e w2 ⟨ar, cr, ap, cp, dd, rfl, ho2, hp2, hi2, hb2⟩; rw [← HBE.out, ← HN.out]; rw [← HBE.out, ← HCC.out] at hi2; rw [← HBE.out] at ho2; rw [← HBE.out, ← HN.out, ← HPE.out] at hp2; have HIB := Lib.hid hi2; have HO2 := Lib.hid ho2.mat; have HP2 := Lib.hid hp2; have HB2 := Lib.hid hb2; have hr0' := (hb2.cell (p := ⟨b, o, none⟩) hb').trans hr0; have zw2 := hb2.size; have hr3 := ((balloc w2 (.cells #[.slice ar n cr, .slice ap n cp, .int .i64 dd] 67)).cell (p := ⟨b, o, none⟩) (Nat.lt_of_lt_of_le hb' zw2)).trans hr0'; clear ho2 hb2 hi2 hp2 hr0')
  have hRR : Rref p n c (at' B) P := by rw [HPE.out, HN.out]; exact HIB.out.pivs
  have HRR := Lib.hid hRR
  have hnc : n ≤ c := hRR.rows_le
  have HLB : Hid (∀ i, i < n → (rw' B i).length = c) := fun i hi => HIB.out.len i (by rw [← HN.out]; exact hi)
  have HB3 := Lib.hid (balloc w2 (.cells #[.slice ar n cr, .slice ap n cp, .int .i64 dd] 67))
  have HK0 := Lib.hid (cel3_new w2 (.slice ar n cr) (.slice ap n cp) (.int .i64 dd) 67).c0
  have HK1 := Lib.hid (cel3_new w2 (.slice ar n cr) (.slice ap n cp) (.int .i64 dd) 67).c1
  have hz3 : w2.heap.size < (w2.alloc (.cells #[.slice ar n cr, .slice ap n cp, .int .i64 dd] 67)).heap.size := by simp
  obtain ⟨w3, hw3⟩ : ∃ z, z = w2.alloc (.cells #[.slice ar n cr, .slice ap n cp, .int .i64 dd] 67) := ⟨_, rfl⟩
  rw [← hw3] at HB3 HK0 HK1 hz3 hr3
  rw [← hw3]
  clear hRR hw3 hr0
  go_loopw [6, 18] (fun v t wr => ∃ k : Nat, k ≤ c ∧ t = .int .i64 k ∧ OutM w3.heap.size wr v (kerN p B P c n k) ∧ Below w3.heap.size w3 wr) (fun _ t _ => c - (intOf t).toNat)
  case atStart => exact ⟨0, Nat.zero_le _, rfl, ⟨[], ⟨rfl, .inl ⟨rfl, rfl⟩⟩, fun i hi => absurd hi (Nat.not_lt_zero i)⟩, Below.refl _ _⟩
  case round =>
    obtain ⟨k, hk, rfl, ho, hbel⟩ := hrel
    have HO := Lib.hid ho
    have HBEL := Lib.hid hbel
    have hwz := hbel.size
    have k0 := (hbel.cell (p := ⟨w2.heap.size, 0, none⟩) hz3).trans HK0.out
    have k1 := (hbel.cell (p := ⟨w2.heap.size, 1, none⟩) hz3).trans HK1.out
    have hr := (hbel.cell (p := ⟨b, o, none⟩) (show b < w3.heap.size by omega)).trans hr3
    have HB3k : Hid (Below w2.heap.size w2 wr) := HB3.out.trans (hbel.mono (by omega))
    rename World => wk
    clear ho hbel
    by_cases hlt : k < c
    · have hk1 : (k : Int) < (c : Int) := by omega
      cases hpv : isPv P n k with
      | true =>
        have HPV : Hid ((pvL P n).any (· == (k : Int)) = true) := by show _ = _; rw [pvL_any]; exact hpv
        have HE := Lib.hid (kerN_pv (p := p) (B := B) (c := c) hpv)
        clear hpv
        go_wp2_with (go_at_call 60; (with_reducible refine (containsI_any ap (pvL P n) k n _ _ _ _ (HP2.out.below HB3k.out (Nat.le_refl _)) (pvL_len _ _) (by omega)).mono ?_); rintro e w' ⟨rfl, rfl⟩; rw [HPV.out])
        go_roundw
        case rel => exact ⟨k + 1, by omega, by go_num, by rw [HE.out]; exact HO.out, HBEL.out⟩
        case measure => simp [intOf]; omega
      | false =>
        have HPV : Hid ((pvL P n).any (· == (k : Int)) = false) := by show _ = _; rw [pvL_any]; exact hpv
        have HE := Lib.hid (kerN_no (p := p) (B := B) (c := c) hpv)
        have HNP : Hid (∀ i, i < n → P i ≠ k) := fun i hi => isPv_no hpv hi
        have g0 := made_cell wk (.int .i64 0) c 2 hlt
        have f0 : (wk.alloc (.cells (madeCells #[.int .i64 0] c) 2)).frozen? ⟨wk.heap.size, k, none⟩ = false := by simp [go_sem]
        have HT := Lib.hid (unit_tag wk hlt)
        have hmk := HMK.out
        have k1u := ((balloc wk (.cells ((madeCells #[.int .i64 0] c).setIfInBounds k (.int .i64 1)) 2)).cell (p := ⟨w2.heap.size, 1, none⟩) (show w2.heap.size < wk.heap.size by omega)).trans k1
        clear hpv
        go_wp2_with (go_at_call 60; (with_reducible refine (containsI_any ap (pvL P n) k n _ _ _ _ (HP2.out.below HB3k.out (Nat.le_refl _)) (pvL_len _ _) (by omega)).mono ?_); rintro e w' ⟨rfl, rfl⟩; rw [HPV.out])
        clear hmk g0 f0 k0 k1 k1u
        go_loopw [36] (fun t wr => ∃ j : Nat, j ≤ n ∧ t = .int .i64 j ∧ TagR wk.heap.size wr.heap.size wr (some ⟨wk.heap.size, 0, none⟩) (kvec p B P c j k) ∧ Below wk.heap.size wk wr) (fun t _ => n - (intOf t).toNat)
        case atStart => exact ⟨0, Nat.zero_le _, rfl, by rw [← kvec_unit (by omega)]; exact HT.out, by ((repeat' (first | with_reducible exact Below.refl _ _ | (with_reducible refine Below.setCell ?_ ?_ _) | (with_reducible refine Below.alloc ?_ ?_ _) | (with_reducible refine Below.drew ?_))); all_goals (first | (simp; done) | omega | (simp; omega)))⟩
        case round =>
          obtain ⟨j, hj, rfl, htv, hbv⟩ := hrel
          have HTV := Lib.hid htv
          have HBV := Lib.hid hbv
          have hwv := hbv.size
          have HBW : Hid (Below w2.heap.size w2 wr) := HB3k.out.trans (hbv.mono (by omega))
          have k0 := (hbv.cell (p := ⟨w2.heap.size, 0, none⟩) (show w2.heap.size < wk.heap.size by omega)).trans ((HBEL.out.cell (p := ⟨w2.heap.size, 0, none⟩) hz3).trans HK0.out)
          clear htv hbv
          by_cases hltj : j < n
          · have hj1 : (j : Int) < (n : Int) := by omega
            obtain ⟨bp, op, hap, _, _, hcp⟩ := (HP2.out.below HBW.out (Nat.le_refl _)).num (j := j) (by rw [pvL_len]; exact hltj)
            subst hap
            rw [pvL_at hltj] at hcp
            obtain ⟨bq, oq, rq, cq, haq, _, _, hrq, hrowq⟩ := (HO2.out.below HBW.out (Nat.le_refl _)).row (show j < B.length by rw [← HN.out]; exact hltj)
            subst haq
            have hcl := HLB.out j hltj
            rw [hcl] at hrq
            obtain ⟨bx, ox, hax, _, _, hcx0⟩ := hrowq.num (j := k) (by omega)
            subst hax
            obtain ⟨x0, x1⟩ := HRR.out.rng j hltj k hlt
            obtain ⟨x, hx⟩ : ∃ x, x = at' B j k := ⟨_, rfl⟩
            have hcx : wr.cell? ⟨bx, ox + k, none⟩ = some (.int .i64 x) := by rw [hx]; exact hcx0
            rw [← hx] at x0 x1
            have HST : Hid ((kvec p B P c j k).set (P j) (-x % p) = kvec p B P c (j + 1) k) := by
              show _ = _
              rw [hx, ← neg_mod]
              exact kvec_next HRR.out hltj (HNP.out j hltj)
            have hpc := HRR.out.pv j hltj
            have hpc1 : (P j : Int) < (c : Int) := by omega
            obtain ⟨bv, ov, hav, _, _, hcv⟩ := HTV.out.row.num (j := P j) (by rw [kvec_len]; exact hpc)
            cases hav
            rw [Nat.zero_add] at hcv
            obtain ⟨y, hy⟩ : ∃ y, y = (kvec p B P c j k).getD (P j) 0 := ⟨_, rfl⟩
            rw [← hy] at hcv
            have hfv : wr.frozen? ⟨wk.heap.size, P j, none⟩ = false := by
              rcases HTV.out with h | ⟨b', o', cur, e, _, _, ht, _⟩
              · have := kvec_len p B P c j k; rw [h] at this; simp at this; omega
              · cases e; exact free_of ht _
            clear hx hy hcx0 hrowq hcl
            go_wp2_with (go_at_call 61; (with_reducible refine (opposite_any p x _ HP.out x0 x1).mono ?_); rintro e w' ⟨rfl, rfl⟩)
            go_roundw
            case rel =>
              refine ⟨j + 1, by omega, by go_num, ?_, Below.setCell HBV.out (Nat.le_refl wk.heap.size) _⟩
              have h := HTV.out.set (j := P j) (by rw [kvec_len]; exact hpc) (-x % p)
              rw [HST.out, Nat.zero_add] at h
              exact h.block (Nat.le_refl _) (by simp [World.setCell]) (fun _ _ _ _ _ => rfl)
            case measure => simp [intOf]; omega
          · have hji : j = n := by omega
            subst hji
            obtain ⟨vals, hvo, hvr⟩ := HO.out
            have hkb := kerN_len p B P c j k
            obtain ⟨kl, hkl⟩ : ∃ x, x = (kerN p B P c j k).length := ⟨_, rfl⟩
            rw [← hkl] at hvo hvr hkb
            have HKN := Lib.hid hkl
            have HV := Lib.hid hvo
            have HVR := Lib.hid hvr
            have HVW := Lib.hid (hvo.kept (below_grown HBV.out) (by cases hv : Value.ownBlock u6 <;> simp))
            clear hvo hvr hkl
            go_wp2_with (at_builtin; refine wpList_append_lies _ rfl _ _ 34 rfl w3.heap.size 22 j0 (.slice none 0 0) 1 24 Try.underlying34 kj kz0 kz1 kz2 rfl (by decide) u6 kl vals rfl (HVW.out.alloc _) ⟨wr.heap.size, 0, none⟩ 1 1 [.slice (some ⟨wk.heap.size, 0, none⟩) c c] rfl rfl (World.news_of_block (cs := #[.slice (some ⟨wk.heap.size, 0, none⟩) c c]) (t := 22) (fr := (0, 0)) (heap_alloc_new wr _)) (by simp [Value.oneCell']) (by omega) (by unfold maxLen; omega) (by omega) (by simp; omega) (wr.heap.size + 1) (by simp) ?_; intro gg cap w1 hown1 hgrow hat hlt1)
            go_roundw
            case rel =>
              exact ⟨k + 1, by omega, by go_num, by rw [HE.out]; exact OutM.pushW HKN.out.symm (kvec_len _ _ _ _ _ _) HV.out HVR.out HTV.out hwz HBV.out hown1 hgrow,
                ((HBEL.out.trans (HBV.out.mono hwz)).alloc (by omega) _).grown hgrow (by simp; omega) (fun _ hk => (HV.out.lt _ hk).1)⟩
            case measure => simp [intOf]; omega
    · have hkc : k = c := by omega
      subst hkc
      obtain ⟨a8, c8, e8, hm8⟩ := HO.out.mat
      subst e8
      have HM8 := Lib.hid hm8
      have HE : Hid (kerN p B P k n k = KP) := by show _ = _; exact HKP.out.symm
      rw [HE.out] at HM8 ⊢
      clear hm8
      go_wp2_with (go_at_call 47; (with_reducible refine (elimO p _ KP _ w3.heap.size wk.heap.size _ HM8.out (Nat.le_refl _) HKL.out).mono ?_); rintro e w5 ⟨r5, k5, vp, d5, rfl, ho5, hb5⟩; have HO5 := Lib.hid ho5; have HB5 := Lib.hid hb5; clear ho5 hb5)
      go_ret
      exact ⟨_, _, rfl, HO5.out.mono (by omega) (Nat.le_refl _), (HB2.out.trans (HB3k.out.mono zw2)).trans (HB5.out.mono (by omega))⟩

end Go.Proofs.Ytbnegbpapjcmhaa
