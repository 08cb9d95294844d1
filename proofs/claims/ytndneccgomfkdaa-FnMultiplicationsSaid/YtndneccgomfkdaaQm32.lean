/-
  Products of matrices, in the program and in the model: contracts.
  Conditions: the matrices are rows of rows of known cells with numbers of the prime; their sizes fit.
  The model's products of matrices: a contract.
  Conditions: the matrices are rows of rows of known cells with numbers of the prime; their sizes fit.
  TransposeMatrix, in the program and in the model.
  Conditions: the arguments are nil or rows of known cells, of at most 1048576 numbers.
  ApplyMatrix, in the program and in the model.
  Conditions: the arguments are nil or rows of known cells, of at most 1048576 numbers.
  MultiplyMatrices, in the program and in the model.
  Conditions: the arguments are nil or rows of known cells, of at most 1048576 numbers.
-/
import Derived.Test.YtndneccgomfkdaaQm4
import Derived.Test.YtndneccgomfkdaaQm19
import Derived.Test.YtndneccgomfkdaaQm11
namespace Go.Proofs.Ytndneccgomfkdaa
open Go.RowKit Go.ChangeShapes Go.WideShapes
set_option linter.unusedVariables false

set_option maxRecDepth 100000 in
set_option maxHeartbeats 1600000 in
theorem timesMatrix_any (p : Int) (a b : Option Addr) (m m' : List (List Int)) (ca cb lo tp lo' tp' : Nat) (w : World) (hp : prm p = true) (hm : MatIn lo tp w a m) (hm' : MatIn lo' tp' w b m') (ht : tp ≤ w.heap.size) (ht' : tp' ≤ w.heap.size)
    (hr : Rect p m m'.length) (hr' : Rect p m' (rw' m' 0).length) (h0 : 0 < m'.length) :
    Calls Try.prog 30 #[.int .i64 p, .slice a m.length ca, .slice b m'.length cb] w (OwnNew (mulM p m m') w) := by
  have HP := Lib.hid hp
  have HM := Lib.hid hm
  have HM' := Lib.hid hm'
  have HR := Lib.hid hr
  have HR' := Lib.hid hr'
  have hn := hr.rows
  have hn' := hr.cols
  have hc' := hr'.cols
  have hRT := hr'.tr rfl
  have HRT := Lib.hid hRT
  have hZ : (mulM p m m').length = m.length := mk_len _ _ _
  obtain ⟨Z, hZe⟩ : ∃ Z, Z = mulM p m m' := ⟨_, rfl⟩
  rw [← hZe] at hZ
  rw [← hZe]
  have HZE := Lib.hid hZe
  have HZL := Lib.hid hZ
  have hmk := fun W => run_make_row' (P := Try.prog) 29 24 (.slice none 0 0) 24 Try.underlying29 info_slice rfl .i64 .i64 m.length (by omega) (by omega) W
  clear hm hm' hp hr hr' hZ hZe hRT
  go_enter Try.func30, Try.ntmps30
  go_wp2_with (go_at_call 46; (with_reducible refine (transposed_any _ _ _ lo' tp' _ HM'.out ht' h0 HR'.out.len (by omega) (by omega)).mono ?_); rintro e w1 ⟨r1, k1, rfl, ho1, hb1⟩; have HO1 := Lib.hid ho1; have HB1 := Lib.hid hb1; have hz1 := hb1.size; clear ho1 hb1)
  clear hmk
  go_loopw [18] (fun t wr => ∃ i : Nat, i ≤ m.length ∧ t = .int .i64 i ∧ (∃ B, HalfM wr w1.heap.size i Z B) ∧ Below w1.heap.size w1 wr) (fun t _ => m.length - (intOf t).toNat)
  case atStart => exact ⟨0, Nat.zero_le _, rfl, ⟨fun _ => 0, by have := HalfM.start w1 Z 24 (fun _ => 0); rw [HZL.out] at this; exact this⟩, by ((repeat' (first | with_reducible exact Below.refl _ _ | (with_reducible refine Below.setCell ?_ ?_ _) | (with_reducible refine Below.alloc ?_ ?_ _) | (with_reducible refine Below.drew ?_))); all_goals (first | (simp; done) | omega | (simp; omega)))⟩
  case round =>
    obtain ⟨i, hi, rfl, ⟨B, hh⟩, hbel⟩ := hrel
    have HH := Lib.hid hh
    have HBEL := Lib.hid hbel
    have hbw := HB1.out.trans (hbel.mono hz1)
    have hz2 := hbel.size
    by_cases hlt : i < m.length
    · obtain ⟨b2, o2, r, c2, ha2, _, hb2, hr2, hrow⟩ := (HM.out.below hbw ht).row hlt
      subst ha2
      have HROW := Lib.hid hrow
      have HCOL := Lib.hid (HO1.out.mat.below hbel (Nat.le_refl _))
      have hlen := HR.out.len i hlt
      have HLen := Lib.hid hlen
      have hx0 : rw' Z i = appV p (trM m') (rw' m i) := by rw [HZE.out]; exact mul_row hlt HR'.out
      have HX := Lib.hid hx0
      have hsz := hh.lt
      have g0 := hh.rest i (Nat.le_refl _) (by rw [HZL.out]; exact hlt)
      have f0 := hh.free i
      clear hx0 hrow hbel hh hlen hbw
      go_wp2_with (go_at_call 28; (with_reducible refine (timesVector_any _ _ _ _ _ _ _ w.heap.size w1.heap.size lo tp _ HP.out HCOL.out HROW.out (by omega) (by omega) (by rw [HLen.out]; exact HRT.out) (HR.out.num i hlt)).mono ?_); rintro e w2 ⟨rfl, hb3, hs3, ho3⟩; rw [← HX.out] at ho3; rw [← HX.out]; have HO3 := Lib.hid ho3; have HB3 := Lib.hid hb3; have g2 := (hb3.cell (p := ⟨w1.heap.size, i, none⟩) hsz).trans g0; have f2 := (hb3.frozen (p := ⟨w1.heap.size, i, none⟩) hsz).trans f0; clear ho3 hb3)
      go_roundw
      case rel => exact ⟨i + 1, by omega, by go_num, ⟨_, HH.out.next (by rw [HZL.out]; exact hlt) HB3.out hs3 HO3.out⟩, (HBEL.out.trans (HB3.out.mono hz2)).setCell (Nat.le_refl _) _⟩
      case measure => simp [intOf]; omega
    · have hn : i = m.length := by omega
      subst hn
      clear hbel hh hbw
      have HF : Hid (HalfM wr w1.heap.size Z.length Z B) := by have := HH.out; rw [← HZL.out] at this; exact this
      have hle : w.heap.size ≤ w1.heap.size := hz1
      go_wp2
      go_ret
      exact ⟨_, m.length, by rw [HZL.out]; rfl, HF.out.own.mono (by omega) (Nat.le_refl _), HB1.out.trans (HBEL.out.mono hz1)⟩

end Go.Proofs.Ytndneccgomfkdaa

namespace Go.Proofs.Ytndneccgomfkdaa
open Go.RowKit
set_option linter.unusedVariables false

def appOk (p : Int) (m : List (List Int)) (v : List Int) : Bool := decide (v.length = (rw' m 0).length) && v.all (inr p)
def apV (p : Int) (m : List (List Int)) (v : List Int) : List Int := if isM p m = true ∧ appOk p m v = true then appV p m v else []
def apC (p : Int) (m : List (List Int)) (v : List Int) : Int := if isM p m = true then (if appOk p m v = true then 0 else 2) else 1
theorem Copied.newR {z : List Int} {w w' : World} {e : Ending} (h : Copied z w e w') : e = .returned (.slice (some ⟨w.heap.size, 0, none⟩) z.length z.length) ∧ OwnR w.heap.size w'.heap.size w' (some ⟨w.heap.size, 0, none⟩) z ∧ Below w.heap.size w w' := ⟨h.1, h.2.2.2, h.2.1⟩
theorem OwnR.mono {lo hi lo' hi' : Nat} {w : World} {a : Option Addr} {zs : List Int} (h : OwnR lo hi w a zs) (h0 : lo' ≤ lo) (h1 : hi ≤ hi') : OwnR lo' hi' w a zs := by
  rcases h with h | ⟨b, o, ha, k0, k1, hc⟩
  · exact .inl h
  · exact .inr ⟨b, o, ha, by omega, by omega, hc⟩

set_option maxRecDepth 100000 in
set_option maxHeartbeats 1600000 in
theorem impl_ApplyMatrix (p : Int) (am : Option Addr) (m : List (List Int)) (cm lom tpm : Nat) (av : Option Addr) (v : List Int) (cv lov tpv : Nat) (w : World) (hm : MatIn lom tpm w am m) (tm : tpm ≤ w.heap.size) (sm : m.length + tot m m.length ≤ 1048576) (hv : RowIn lov tpv w av v) (tv : tpv ≤ w.heap.size) (sv : v.length ≤ 1048576) :
    Calls Try.prog 14 #[.int .i64 p, .slice am m.length cm, .slice av v.length cv] w (ImplR (apV p m v) (apC p m v) w) := by
  have Hm := Lib.hid hm
  have Sm := Lib.hid sm
  clear hm sm
  have Hv := Lib.hid hv
  have Sv := Lib.hid sv
  clear hv sv
  by_cases h1 : isM p m = true
  · by_cases hok : appOk p m v = true
    · have I1 := Lib.hid h1
      have L1 := Lib.hid (isL_iff.1 h1)
      have HV : Hid (apV p m v = appV p m v) := by show _ = _; unfold apV; simp [h1, hok]
      have HC : Hid (apC p m v = 0) := by show _ = _; unfold apC; simp [h1, hok]
      have HK := Lib.hid (chk1_yes h1)
      have HOK : Hid ((decide (v.length = (rw' m 0).length) && v.all (inr p)) = true) := hok
      have HE : Hid (v.length = (rw' m 0).length) := by show _ = _; simp [appOk] at hok; exact hok.1
      have HA : Hid (v.all (inr p) = true) := by show _ = _; unfold appOk at hok; simp only [Bool.and_eq_true] at hok; exact hok.2
      have hm0 : 0 < m.length := (isL_iff.1 h1).lo
      obtain ⟨b0, o0, r0, k0, ha0, _, hb0, hr0, _⟩ := Hm.out.row (i := 0) (isL_iff.1 h1).lo
      subst ha0
      rw [Nat.add_zero] at hr0
      have hb0' : b0 < w.heap.size := Nat.lt_of_lt_of_le hb0 tm
      have hl16 := (isL_iff.1 h1).c16
      clear h1 hok
      go_enter Try.func14, Try.ntmps14
      go_wp2_with (first | (go_at_call 26; (with_reducible refine (checkOne_new p _ m _ lom tpm w _ Hm.out tm Sm.out).mono ?_); rintro e w1 ⟨rfl, rfl⟩; rw [HK.out]) | (go_at_call 27; (with_reducible refine (isVector_any p _ v _ _ lov tpv _ L1.out.prime (Hv.out.below ((Below.refl _ _).alloc (Nat.le_refl _) _) tv) Sv.out (by omega)).mono ?_); rintro e w2 ⟨rfl, rfl⟩; rw [HOK.out]) | (go_at_call 28; (with_reducible refine (timesVector_any p _ _ m v _ _ lom tpm lov tpv _ L1.out.prime (Hm.out.below ((Below.refl _ _).alloc (Nat.le_refl _) _) tm) (Hv.out.below ((Below.refl _ _).alloc (Nat.le_refl _) _) tv) (by simp; omega) (by simp; omega) (by rw [HE.out]; exact rect_of L1.out) (Nums.of HA.out)).mono ?_); rintro e w3 hcp; obtain ⟨rfl, ho3, hb3⟩ := hcp.newR; have HO3 := Lib.hid ho3; have HB3 := Lib.hid hb3; clear ho3 hb3 hcp))
      go_ret2
      rw [HV.out, HC.out]
      have HO4 := HO3.out
      simp only [World.size_alloc] at HO4
      exact ⟨_, _, rfl, HO4.mono (by omega) (Nat.le_refl _), ((Below.refl _ _).alloc (Nat.le_refl _) _).trans (HB3.out.mono (by simp))⟩
    · have I1 := Lib.hid h1
      have L1 := Lib.hid (isL_iff.1 h1)
      have HV : Hid (apV p m v = []) := by show _ = _; unfold apV; simp [h1, hok]
      have HC : Hid (apC p m v = 2) := by show _ = _; unfold apC; simp [h1, hok]
      have HK := Lib.hid (chk1_yes h1)
      have HOK : Hid ((decide (v.length = (rw' m 0).length) && v.all (inr p)) = false) := by show _ = _; simpa [appOk] using hok
      have hm0 : 0 < m.length := (isL_iff.1 h1).lo
      obtain ⟨b0, o0, r0, k0, ha0, _, hb0, hr0, _⟩ := Hm.out.row (i := 0) (isL_iff.1 h1).lo
      subst ha0
      rw [Nat.add_zero] at hr0
      have hb0' : b0 < w.heap.size := Nat.lt_of_lt_of_le hb0 tm
      have hl16 := (isL_iff.1 h1).c16
      clear h1 hok
      go_enter Try.func14, Try.ntmps14
      go_wp2_with (first | (go_at_call 26; (with_reducible refine (checkOne_new p _ m _ lom tpm w _ Hm.out tm Sm.out).mono ?_); rintro e w1 ⟨rfl, rfl⟩; rw [HK.out]) | (go_at_call 27; (with_reducible refine (isVector_any p _ v _ _ lov tpv _ L1.out.prime (Hv.out.below ((Below.refl _ _).alloc (Nat.le_refl _) _) tv) Sv.out (by omega)).mono ?_); rintro e w2 ⟨rfl, rfl⟩; rw [HOK.out]))
      go_ret2
      rw [HV.out, HC.out]
      exact ⟨none, 0, rfl, .inl rfl, ((Below.refl _ _).alloc (Nat.le_refl _) _)⟩
  · have HV : Hid (apV p m v = []) := by show _ = _; unfold apV; simp [h1]
    have HC : Hid (apC p m v = 1) := by show _ = _; unfold apC; simp [h1]
    have HK := Lib.hid (chk1_no (by simpa using h1 : isM p m = false))
    clear h1
    go_enter Try.func14, Try.ntmps14
    go_wp2_with (first | (go_at_call 26; (with_reducible refine (checkOne_new p _ m _ lom tpm w _ Hm.out tm Sm.out).mono ?_); rintro e w1 ⟨rfl, rfl⟩; rw [HK.out]))
    go_ret2
    rw [HV.out, HC.out]
    exact ⟨none, 0, rfl, .inl rfl, ((Below.refl _ _).alloc (Nat.le_refl _) _)⟩

end Go.Proofs.Ytndneccgomfkdaa

namespace Go.Proofs.Ytndneccgomfkdaa
open Go.RowKit
set_option linter.unusedVariables false

def mulV (p : Int) (m n : List (List Int)) : List (List Int) := if isM p m = true ∧ isM p n = true ∧ (rw' m 0).length = n.length then mulM p m n else []
def mulC (p : Int) (m n : List (List Int)) : Int := if isM p m = true ∧ isM p n = true then (if (rw' m 0).length = n.length then 0 else 2) else 1
theorem mulV_size (p : Int) (m n : List (List Int)) : (mulV p m n).length + tot (mulV p m n) (mulV p m n).length ≤ 1048576 := by
  unfold mulV
  split
  · rename_i h
    have h1 := isL_iff.1 h.1
    have h2 := isL_iff.1 h.2.1
    have e : mulM p m n = mk m.length (rw' n 0).length fun i k => sm n.length (fun j => at' m i j * at' n j k) % p := rfl
    have h3 := h2.c16
    have h4 := h1.hi
    rw [e]; exact mk_size (by omega) (by omega)
  · simp [tot]

set_option maxRecDepth 100000 in
set_option maxHeartbeats 1600000 in
theorem impl_MultiplyMatrices (p : Int) (am : Option Addr) (m : List (List Int)) (cm lom tpm : Nat) (an : Option Addr) (n : List (List Int)) (cn lon tpn : Nat) (w : World) (hm : MatIn lom tpm w am m) (tm : tpm ≤ w.heap.size) (sm : m.length + tot m m.length ≤ 1048576) (hn : MatIn lon tpn w an n) (tn : tpn ≤ w.heap.size) (sn : n.length + tot n n.length ≤ 1048576) :
    Calls Try.prog 16 #[.int .i64 p, .slice am m.length cm, .slice an n.length cn] w (ImplM (mulV p m n) (mulC p m n) w) := by
  have Hm := Lib.hid hm
  have Sm := Lib.hid sm
  clear hm sm
  have Hn := Lib.hid hn
  have Sn := Lib.hid sn
  clear hn sn
  by_cases h1 : isM p m = true
  · by_cases h2 : isM p n = true
    · by_cases hq : (rw' m 0).length = n.length
      · have I1 := Lib.hid h1
        have L1 := Lib.hid (isL_iff.1 h1)
        have I2 := Lib.hid h2
        have L2 := Lib.hid (isL_iff.1 h2)
        have HV : Hid (mulV p m n = mulM p m n) := by show _ = _; unfold mulV; simp [h1, h2, hq]
        have HC : Hid (mulC p m n = 0) := by show _ = _; unfold mulC; simp [h1, h2, hq]
        have HK := Lib.hid (chk2_yes h1 h2)
        have hm0 : 0 < m.length := (isL_iff.1 h1).lo
        obtain ⟨b0, o0, r0, k0, ha0, _, hb0, hr0, _⟩ := Hm.out.row (i := 0) (isL_iff.1 h1).lo
        subst ha0
        rw [Nat.add_zero] at hr0
        have hb0' : b0 < w.heap.size := Nat.lt_of_lt_of_le hb0 tm
        have HE := Lib.hid hq
        rw [hq] at hr0
        clear h1 h2 hq
        go_enter Try.func16, Try.ntmps16
        go_wp2_with (first | (go_at_call 26; (with_reducible refine (checkTwo_new p _ _ m n _ _ lom tpm lon tpn w _ Hm.out tm Sm.out Hn.out tn Sn.out).mono ?_); rintro e w1 ⟨rfl, rfl⟩; rw [HK.out]) | (go_at_call 30; (with_reducible refine (timesMatrix_any p _ _ _ _ _ _ lom tpm lon tpn _ L1.out.prime (Hm.out.below ((Below.refl _ _).alloc (Nat.le_refl _) _) tm) (Hn.out.below ((Below.refl _ _).alloc (Nat.le_refl _) _) tn) (by simp; omega) (by simp; omega) (by rw [← HE.out]; exact rect_of L1.out) (rect_of L2.out) (by have := L2.out.lo; omega)).mono ?_); rintro e w3 ⟨r3, k3, rfl, ho3, hb3⟩; have HO3 := Lib.hid ho3; have HB3 := Lib.hid hb3; clear ho3 hb3))
        go_ret2
        rw [HV.out, HC.out]
        exact ⟨_, _, rfl, HO3.out.mono (by simp) (Nat.le_refl _), ((Below.refl _ _).alloc (Nat.le_refl _) _).trans (HB3.out.mono (by simp))⟩
      · have I1 := Lib.hid h1
        have L1 := Lib.hid (isL_iff.1 h1)
        have I2 := Lib.hid h2
        have L2 := Lib.hid (isL_iff.1 h2)
        have HV : Hid (mulV p m n = []) := by show _ = _; unfold mulV; simp [h1, h2, hq]
        have HC : Hid (mulC p m n = 2) := by show _ = _; unfold mulC; simp [h1, h2, hq]
        have HK := Lib.hid (chk2_yes h1 h2)
        have hm0 : 0 < m.length := (isL_iff.1 h1).lo
        obtain ⟨b0, o0, r0, k0, ha0, _, hb0, hr0, _⟩ := Hm.out.row (i := 0) (isL_iff.1 h1).lo
        subst ha0
        rw [Nat.add_zero] at hr0
        have hb0' : b0 < w.heap.size := Nat.lt_of_lt_of_le hb0 tm
        obtain ⟨e1, e2⟩ := neq_spell hq
        have hl0 := (len_of Sm.out).2 0 (by have := L1.out.lo; omega)
        clear h1 h2 hq
        go_enter Try.func16, Try.ntmps16
        go_wp2_with (first | (go_at_call 26; (with_reducible refine (checkTwo_new p _ _ m n _ _ lom tpm lon tpn w _ Hm.out tm Sm.out Hn.out tn Sn.out).mono ?_); rintro e w1 ⟨rfl, rfl⟩; rw [HK.out]))
        go_ret2
        rw [HV.out, HC.out]
        exact ⟨none, 0, rfl, .inl rfl, ((Below.refl _ _).alloc (Nat.le_refl _) _)⟩
    · have HV : Hid (mulV p m n = []) := by show _ = _; unfold mulV; simp [h2]
      have HC : Hid (mulC p m n = 1) := by show _ = _; unfold mulC; simp [h2]
      have HK := Lib.hid (chk2_no (m := m) (.inr (by simpa using h2 : isM p n = false)))
      clear h1 h2
      go_enter Try.func16, Try.ntmps16
      go_wp2_with (first | (go_at_call 26; (with_reducible refine (checkTwo_new p _ _ m n _ _ lom tpm lon tpn w _ Hm.out tm Sm.out Hn.out tn Sn.out).mono ?_); rintro e w1 ⟨rfl, rfl⟩; rw [HK.out]))
      go_ret2
      rw [HV.out, HC.out]
      exact ⟨none, 0, rfl, .inl rfl, ((Below.refl _ _).alloc (Nat.le_refl _) _)⟩
  · have HV : Hid (mulV p m n = []) := by show _ = _; unfold mulV; simp [h1]
    have HC : Hid (mulC p m n = 1) := by show _ = _; unfold mulC; simp [h1]
    have HK := Lib.hid (chk2_no (m' := n) (.inl (by simpa using h1 : isM p m = false)))
    clear h1
    go_enter Try.func16, Try.ntmps16
    go_wp2_with (first | (go_at_call 26; (with_reducible refine (checkTwo_new p _ _ m n _ _ lom tpm lon tpn w _ Hm.out tm Sm.out Hn.out tn Sn.out).mono ?_); rintro e w1 ⟨rfl, rfl⟩; rw [HK.out]))
    go_ret2
    rw [HV.out, HC.out]
    exact ⟨none, 0, rfl, .inl rfl, ((Below.refl _ _).alloc (Nat.le_refl _) _)⟩

end Go.Proofs.Ytndneccgomfkdaa
