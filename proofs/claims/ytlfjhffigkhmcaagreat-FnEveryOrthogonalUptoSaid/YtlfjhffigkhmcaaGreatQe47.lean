/-
  The model's sandwiches and reflections, with the type of their block: contracts of the program and of the model.
  Conditions: the lists are nil or rows of known cells, of at most 1048576 numbers.
  Matrices of versors and reflections, the model's side: contracts of the program and of the model.
  Conditions: the lists are nil or rows of known cells, of at most 1048576 numbers.
  Matrices of versors and reflections: contracts of the program and of the model.
  Conditions: the lists are nil or rows of known cells, of at most 1048576 numbers.
-/
import Derived.Test.YtlfjhffigkhmcaaGreatQe46
import Derived.Test.YtlfjhffigkhmcaaGreatQe26
import Derived.Test.YtlfjhffigkhmcaaGreatQe17
import Derived.Deep.RegionHeld3
import Derived.Deep.DeepCutAuto
import Derived.Test.YtlfjhffigkhmcaaGreatQe7
import Derived.Test.YtlfjhffigkhmcaaGreatQe18
namespace Go.Proofs.YtlfjhffigkhmcaaGreat
open Go.RowKit
set_option linter.unusedVariables false

theorem TagR.low {lo lo' tp : Nat} {w : World} {a : Option Addr} {z : List Int} (h : TagR lo tp w a z) (hl : lo' ≤ lo) : TagR lo' tp w a z := h.block hl (Nat.le_refl _) (fun _ _ _ _ _ => rfl)
theorem l02Turn_m (a : Option Addr) (m : List (List Int)) (n ca lo tp : Nat) (w : World) (hnm : m.length = n) (hm : MatIn lo tp w a m) (ht : tp ≤ w.heap.size) (h0 : 0 < m.length) (hc : ∀ i, i < m.length → (rw' m i).length = (rw' m 0).length) (hn : m.length ≤ 1024) (hn2 : (rw' m 0).length ≤ 1024) :
    Calls Tryz.prog 41 #[.slice a n ca] w (NewM (trM m) w) := by
  subst hnm; exact l02Turn_any a m ca lo tp w hm ht h0 hc hn hn2
theorem plus_tg (p k : Int) (a b : Option Addr) (za zb : List Int) (ca cb lo tp lo' tp' : Nat) (w : World) (hp : prm p = true) (ha : RowIn lo tp w a za) (hb : RowIn lo' tp' w b zb) (ht : tp ≤ w.heap.size) (ht' : tp' ≤ w.heap.size) (hl : za.length ≤ zb.length) (hs : za.length ≤ 1048576) (hna : ∀ j, j < za.length → 0 ≤ za.getD j 0 ∧ za.getD j 0 < p) (hnb : ∀ j, j < zb.length → 0 ≤ zb.getD j 0 ∧ zb.getD j 0 < p) (k0 : 0 ≤ k) (k1 : k ≤ p) :
    Calls Tryz.prog 43 #[.int .i64 p, .slice a za.length ca, .slice b zb.length cb, .int .i64 k] w (fun e w' => ∃ r c, e = .returned (.slice r za.length c) ∧ TagR w.heap.size w'.heap.size w' r (plusR p za zb k) ∧ Below w.heap.size w w') :=
  (l02Plus_any p k a b za zb ca cb lo tp lo' tp' w hp ha hb ht ht' hl hs hna hnb k0 k1).mono fun _ _ ⟨r, c, e, o, b⟩ => ⟨r, c, by rw [e, plus_len], o, b⟩

set_option maxRecDepth 100000 in
set_option maxHeartbeats 6400000 in
theorem l07Reflect_tag (pS : Int) (aS : Option Addr) (S : List Int) (cS loS tpS : Nat) (au : Option Addr) (u : List Int) (cu lou tpu : Nat) (av : Option Addr) (v : List Int) (cv lov tpv : Nat) (w : World) (hs : isSp pS S = true) (hS : RowIn loS tpS w aS S) (tS : tpS ≤ w.heap.size) (hu : RowIn lou tpu w au u) (tu : tpu ≤ w.heap.size) (mu : isVec pS S.length u = true) (hv : RowIn lov tpv w av v) (tv : tpv ≤ w.heap.size) (mv : isVec pS S.length v = true) (h0 : pairN pS S u u ≠ 0) :
    Calls Tryz.prog 71 #[.agg #[.int .i64 pS, .slice aS S.length cS], .slice au u.length cu, .slice av v.length cv] w (NewR (rflM pS S u v) w) := by
  have HI := Lib.hid hs
  have HS := Lib.hid hS
  have Hu := Lib.hid hu
  have HVu := Lib.hid mu
  have Hv := Lib.hid hv
  have HVv := Lib.hid mv
  have hpb := prm_bd (isSp_iff.1 hs).prime
  have h6 := (isSp_iff.1 hs).hi
  have hvl : v.length = S.length := (isVec_iff.1 mv).len
  have hul : u.length = S.length := (isVec_iff.1 mu).len
  have hlen : v.length ≤ u.length := by omega
  have hv6 : v.length ≤ 6 := by omega
  have HNV : Hid (∀ j, j < v.length → 0 ≤ v.getD j 0 ∧ v.getD j 0 < pS) := fun j hj => (isVec_iff.1 mv).num (by omega)
  have HNU : Hid (∀ j, j < u.length → 0 ≤ u.getD j 0 ∧ u.getD j 0 < pS) := fun j hj => (isVec_iff.1 mu).num (by omega)
  obtain ⟨A, hA⟩ : ∃ a, a = pairN pS S u v := ⟨_, rfl⟩
  obtain ⟨N, hN⟩ : ∃ a, a = pairN pS S u u := ⟨_, rfl⟩
  have hAb : 0 ≤ A ∧ A < pS := by rw [hA]; exact pairN_bd7 (by omega)
  have hNb : 0 ≤ N ∧ N < pS := by rw [hN]; exact pairN_bd7 (by omega)
  have hN1 : 1 ≤ N := by rw [← hN] at h0; omega
  have hN2 : N < pS := hNb.2
  obtain ⟨I, hI⟩ : ∃ a, a = inv pS N := ⟨_, rfl⟩
  have hIb : 0 ≤ I ∧ I < pS := by rw [hI]; exact inv_bd (isSp_iff.1 hs).prime N
  have HAE := Lib.hid hA
  have HNE := Lib.hid hN
  have HIE := Lib.hid hI
  have hM : 0 ≤ 2 * A % pS ∧ 2 * A % pS < pS := ⟨Int.emod_nonneg _ (by omega), Int.emod_lt_of_pos _ (by omega)⟩
  obtain ⟨M, hMe⟩ : ∃ a, a = 2 * A % pS := ⟨_, rfl⟩
  rw [← hMe] at hM
  have hMI : 0 ≤ M * I ∧ M * I ≤ 169 := by
    have h1 : M * I ≤ 13 * 13 := Int.mul_le_mul (by omega) (by omega) hIb.1 (by omega)
    exact ⟨Int.mul_nonneg hM.1 hIb.1, h1⟩
  have hF : 0 ≤ M * I % pS ∧ M * I % pS < pS := ⟨Int.emod_nonneg _ (by omega), Int.emod_lt_of_pos _ (by omega)⟩
  obtain ⟨Q, hQ⟩ : ∃ a, a = M * I % pS := ⟨_, rfl⟩
  rw [← hQ] at hF
  have e1 : wrap64 (2 * A) = 2 * A := by unfold wrap64; omega
  have e1' : IntKind.i64.wrap (2 * A) = 2 * A := IntWalk.i64_in _ (by omega)
  have e2 : (2 * A).tmod pS = M := by rw [hMe]; exact Int.tmod_eq_emod_of_nonneg (by omega)
  have e2' : 2 * A % pS = M := hMe.symm
  have e3 : wrap64 (M * I) = M * I := by unfold wrap64; omega
  have e3' : IntKind.i64.wrap (M * I) = M * I := IntWalk.i64_in _ (by omega)
  have e4 : (M * I).tmod pS = Q := by rw [hQ]; exact Int.tmod_eq_emod_of_nonneg (by omega)
  have e4' : M * I % pS = Q := hQ.symm
  have e5 : wrap64 (pS - Q) = pS - Q := by unfold wrap64; omega
  have e5' : IntKind.i64.wrap (pS - Q) = pS - Q := IntWalk.i64_in _ (by omega)
  have e6 : (pS - Q).tmod pS = (pS - Q) % pS := Int.tmod_eq_emod_of_nonneg (by omega)
  have hp0 : ¬ pS = 0 := by omega
  have hp0' : (pS == 0) = false := by simpa using hp0
  obtain ⟨QQ, hQQ⟩ : ∃ a, a = (pS - Q) % pS := ⟨_, rfl⟩
  have e7 : (pS - Q) % pS = QQ := hQQ.symm
  have hq0 : 0 ≤ QQ := by rw [hQQ]; exact Int.emod_nonneg _ (by omega)
  have hq1 : QQ ≤ pS := by rw [hQQ]; exact Int.le_of_lt (Int.emod_lt_of_pos _ (by omega))
  have HRF : Hid (rflM pS S u v = plusR pS v u QQ) := by
    show _ = _
    unfold rflM
    rw [hQQ, hQ, hMe, hI, ← hA, ← hN, rf_model (by omega)]
  have HB0 := Lib.hid (below_alloc w (.cells #[.int .i64 pS, .slice aS S.length cS] 24))
  have k0 := nw0 w (.int .i64 pS) (.slice aS S.length cS) 24
  have k1 := nw1 w (.int .i64 pS) (.slice aS S.length cS) 24
  rw [← hQQ] at e6
  clear hs hS hu mu hv mv hA hN hI hMe hQ hQQ hvl hul h0
  go_enter Tryz.func71, Tryz.ntmps71
  go_upto_region 1 with fail
  obtain ⟨w1, hw1⟩ : ∃ z, z = w.alloc (.cells #[.int .i64 pS, .slice aS S.length cS] 24) := ⟨_, rfl⟩
  rw [← hw1] at HB0 k0 k1 ⊢
  have hw0 : w.heap.size < w1.heap.size := by rw [hw1]; simp
  clear hw1
  have hs1 : Hid (w1.drew.cell? ⟨w.heap.size, 0, none⟩ = some (.int .i64 pS) ∧ w1.drew.cell? ⟨w.heap.size, 1, none⟩ = some (.slice aS S.length cS)) := ⟨k0, k1⟩
  have HBD : Hid (Below w.heap.size w w1.drew) := HB0.out.drew
  have hd0 : w.heap.size < w1.drew.heap.size := hw0
  go_region_held3 (fun w' => w'.cell? ⟨w.heap.size, 0, none⟩ = some (.int .i64 pS) ∧ w'.cell? ⟨w.heap.size, 1, none⟩ = some (.slice aS S.length cS)) (first | exact hs1.out | exact SSa.out | exact SSab.out | exact SSabc.out | go_keep) (first | (go_at_call 44; (with_reducible refine (l03Pair_any pS aS S cS loS tpS au u cu lou tpu av v cv lov tpv w1.drew (HS.out.below HBD.out tS) (Nat.le_trans tS (HBD.out).size) (Hu.out.below HBD.out tu) (Nat.le_trans tu (HBD.out).size) (Hv.out.below HBD.out tv) (Nat.le_trans tv (HBD.out).size) HI.out HVu.out HVv.out).mono ?_); rintro e wa ⟨rfl, b_⟩; rw [← HAE.out]; have SSa := Lib.hid (ss2 b_ hd0 hs1.out); have HBa := Lib.hid (below_step HBD.out (Nat.le_of_lt hd0) b_); have zz_ := b_.size; have hda := Nat.lt_of_lt_of_le hd0 zz_; clear b_) | (go_at_call 44; (with_reducible refine (l03Pair_any pS aS S cS loS tpS au u cu lou tpu au u cu lou tpu wa (HS.out.below HBa.out tS) (Nat.le_trans tS (HBa.out).size) (Hu.out.below HBa.out tu) (Nat.le_trans tu (HBa.out).size) (Hu.out.below HBa.out tu) (Nat.le_trans tu (HBa.out).size) HI.out HVu.out HVu.out).mono ?_); rintro e wab ⟨rfl, b_⟩; rw [← HNE.out]; have SSab := Lib.hid (ss2 b_ hda SSa.out); have HBab := Lib.hid (below_step HBa.out (Nat.le_of_lt hda) b_); have zz_ := b_.size; have hdab := Nat.lt_of_lt_of_le hda zz_; clear b_) | (go_at_call 84; (with_reducible refine (l01Inv_low7 pS N wab (isSp_iff.1 HI.out).prime hN1 hN2).mono ?_); rintro e wabc ⟨rfl, b_⟩; rw [← HIE.out]; have SSabc := Lib.hid (ss2 b_ hdab SSab.out); have HBabc := Lib.hid (below_step HBab.out (Nat.le_of_lt hdab) b_); have zz_ := b_.size; have hdabc := Nat.lt_of_lt_of_le hdab zz_; clear b_))
  go_wp2
  have hs2 : Hid (wabc.drew.cell? ⟨w.heap.size, 0, none⟩ = some (.int .i64 pS) ∧ wabc.drew.cell? ⟨w.heap.size, 1, none⟩ = some (.slice aS S.length cS)) := SSabc.out
  have HBE : Hid (Below w.heap.size w wabc.drew) := HBabc.out.drew
  have hd2 : w.heap.size < wabc.drew.heap.size := hdabc
  go_region_held3 (fun w' => w'.cell? ⟨w.heap.size, 0, none⟩ = some (.int .i64 pS) ∧ w'.cell? ⟨w.heap.size, 1, none⟩ = some (.slice aS S.length cS)) (first | exact hs2.out | exact SSd.out | go_keep) (first | (go_at_call 43; (with_reducible refine (plus_tg pS QQ av au v u cv cu lov tpv lou tpu wabc.drew (isSp_iff.1 HI.out).prime (Hv.out.below HBE.out tv) (Hu.out.below HBE.out tu) (Nat.le_trans tv (HBE.out).size) (Nat.le_trans tu (HBE.out).size) hlen (by omega) HNV.out HNU.out hq0 hq1).mono ?_); rintro e wd ⟨rd, kd, rfl, o_, b_⟩; have SSd := Lib.hid (ss2 b_ hd2 hs2.out); have HBd := Lib.hid (below_step HBE.out (Nat.le_of_lt hd2) b_); have zz_ := b_.size; have hdd := Nat.lt_of_lt_of_le hd2 zz_; have Rd_d := Lib.hid (TagR.low o_ (Nat.le_of_lt hd2)); clear b_ o_))
  go_wp2
  go_ret
  rw [HRF.out]
  exact ⟨rd, kd, by rw [plus_len]; rfl, Rd_d.out, HBd.out⟩

end Go.Proofs.YtlfjhffigkhmcaaGreat

namespace Go.Proofs.YtlfjhffigkhmcaaGreat
open Go.RowKit
set_option linter.unusedVariables false

theorem rf_led (p : Int) (S u : List Int) : rfX p S u = trM (ledM S.length (rflM p S u) S.length) := by unfold rfX; rw [led_ref]
theorem ei_alt (n i : Nat) : eiR n i = mkR n fun j => if j = i then 1 else 0 := mkR_congr fun j _ => by simp [eq_comm]

set_option maxRecDepth 100000 in
set_option maxHeartbeats 6400000 in
theorem l08Reflection_any (pS : Int) (aS : Option Addr) (S : List Int) (cS loS tpS : Nat) (au : Option Addr) (u : List Int) (cu lou tpu : Nat) (w : World) (hs : isSp pS S = true) (hS : RowIn loS tpS w aS S) (tS : tpS ≤ w.heap.size) (hu : RowIn lou tpu w au u) (tu : tpu ≤ w.heap.size) (mu : isVec pS S.length u = true) (h0 : pairN pS S u u ≠ 0) :
    Calls Tryz.prog 46 #[.agg #[.int .i64 pS, .slice aS S.length cS], .slice au u.length cu] w (NewM (trM (ledM S.length (rflM pS S u) S.length)) w) := by
  obtain ⟨j0, kj, kz0, kz1, kz2⟩ := info_parts info_slice
  have HI := Lib.hid hs
  have HS := Lib.hid hS
  have Hu := Lib.hid hu
  have HMu := Lib.hid mu
  have HF0 := Lib.hid h0
  have h6 := (isSp_iff.1 hs).hi
  have hl1 := (isSp_iff.1 hs).lo
  have hpb := prm_bd (isSp_iff.1 hs).prime
  obtain ⟨M, hM⟩ : ∃ M, M = ledM S.length (rflM pS S u) S.length := ⟨_, rfl⟩
  have HML : Hid (M.length = S.length) := by show _ = _; rw [hM, led_len]
  have HMR : Hid (∀ i, i < S.length → rw' M i = (rflM pS S u) (eiR S.length i)) := fun i hi => by rw [hM]; exact led_all _ hi
  have HTK : Hid (M.take S.length = M) := List.take_of_length_le (by rw [HML.out]; exact Nat.le_refl _)
  have HCL : Hid (∀ i, i < S.length → (rw' M i).length = S.length) := fun i hi => by rw [HMR.out i hi]; exact by rw [rfl_len, ei_len]
  rw [← hM]
  have hmk := fun W => run_make_row' (P := Tryz.prog) 22 2 (.int .i64 0) 8 Tryz.underlying22 info64 rfl .i64 .i64 S.length (by omega) (by omega) W
  have k0 := nw0 w (.int .i64 pS) (.slice aS S.length cS) 24
  have k1 := nw1 w (.int .i64 pS) (.slice aS S.length cS) 24
  have HB0 := Lib.hid (below_alloc w (.cells #[.int .i64 pS, .slice aS S.length cS] 24))
  clear hs hS hu mu h0 hM
  go_enter Tryz.func46, Tryz.ntmps46
  go_upto_region 1 with fail
  obtain ⟨w1, hw1⟩ : ∃ z, z = w.alloc (.cells #[.int .i64 pS, .slice aS S.length cS] 24) := ⟨_, rfl⟩
  rw [← hw1] at HB0 k0 k1 ⊢
  have hd1 : w.heap.size < w1.heap.size := by rw [hw1]; simp
  have HB1 := HB0
  clear hw1
  have SS1 := Lib.hid (And.intro k0 k1)
  go_wp2
  go_loopw [5, 6] (fun u t wr => ∃ i : Nat, i ≤ S.length ∧ t = .int .i64 i ∧ OutM w1.heap.size wr u (M.take i) ∧ Below w1.heap.size w1 wr) (fun _ t _ => S.length - (intOf t).toNat)
  case atStart => exact ⟨0, Nat.zero_le _, rfl, OutM.start w1 _ _ (Nat.le_refl _) rfl, below_alloc w1 _⟩
  case round =>
    obtain ⟨i, hi, rfl, ho, hbel⟩ := hrel
    have HO := Lib.hid ho
    have HBEL := Lib.hid hbel
    have hwz := hbel.size
    have HBW : Hid (Below w.heap.size w wr) := HB1.out.trans (hbel.mono HB1.out.size)
    clear k0 k1
    have k0 := (hbel.cell (p := ⟨w.heap.size, 0, none⟩) hd1).trans SS1.out.1
    have k1 := (hbel.cell (p := ⟨w.heap.size, 1, none⟩) hd1).trans SS1.out.2
    by_cases hlt : i < S.length
    · have hi1 : (i : Int) < (S.length : Int) := by omega
      have g0 := made_cell wr (.int .i64 0) S.length 2 hlt
      have f0 : (wr.alloc (.cells (madeCells #[.int .i64 0] S.length) 2)).frozen? ⟨wr.heap.size, i, none⟩ = false := (by simp [go_sem])
      have HTL : Hid ((M.take i).length = i) := by show _ = _; rw [List.length_take, HML.out]; omega
      obtain ⟨vals, hvo, hvr⟩ := ho
      rw [HTL.out] at hvo hvr
      have HV1 := Lib.hid hvo
      have HVR := Lib.hid hvr
      clear hbel hvo hvr
      go_upto_region 7 with fail
      obtain ⟨w3, hw3⟩ : ∃ z, z = wr.alloc (.cells ((madeCells #[.int .i64 0] S.length).setIfInBounds i (.int .i64 1)) 2) := ⟨_, rfl⟩
      obtain ⟨B3, hB3⟩ : ∃ z, z = wr.heap.size := ⟨_, rfl⟩
      have hb3 : Below wr.heap.size wr w3 := by rw [hw3]; exact below_alloc wr _
      have HE : Hid (RowIn w.heap.size w3.heap.size w3 (some ⟨B3, 0, none⟩) (eiR S.length i)) := by
        show RowIn _ _ _ _ _
        rw [ei_alt, hB3]
        have h := one_rowA wr (n := S.length) (k := i) 2 1
        rw [← hw3] at h
        exact (h.own HBW.out.size (by rw [hw3]; simp)).row
      have HB3 : Hid (Below w.heap.size w w3) := below_step HBW.out HBW.out.size hb3
      have HB3r := Lib.hid hb3
      rw [← hw3]
      rw [← hB3]
      have q0 : w3.cell? ⟨w.heap.size, 0, none⟩ = some (.int .i64 pS) := (hb3.cell (p := ⟨w.heap.size, 0, none⟩) (Nat.lt_of_lt_of_le hd1 hwz)).trans k0
      have q1 : w3.cell? ⟨w.heap.size, 1, none⟩ = some (.slice aS S.length cS) := (hb3.cell (p := ⟨w.heap.size, 1, none⟩) (Nat.lt_of_lt_of_le hd1 hwz)).trans k1
      have hwz3 := hb3.size
      clear hw3 g0 f0 hb3 k0 k1 hB3
      have HCC : Hid (Calls Tryz.prog 71 #[.agg #[.int .i64 pS, .slice aS S.length cS], .slice au u.length cu, .slice (some ⟨B3, 0, none⟩) S.length S.length] w3 (NewR (rw' M i) w3)) := by
        show Calls _ _ _ _ _
        rw [HMR.out i hlt]
        have h := l07Reflect_tag pS aS S cS loS tpS au u cu lou tpu (some ⟨B3, 0, none⟩) (eiR S.length i) S.length w.heap.size w3.heap.size w3 HI.out (HS.out.below HB3.out tS) (Nat.le_trans tS HB3.out.size) (Hu.out.below HB3.out tu) (Nat.le_trans tu HB3.out.size) HMu.out HE.out (Nat.le_refl _) (ei_vec (by omega) _ _) HF0.out
        rw [ei_len] at h
        exact h
      go_wp2_with (first | (go_at_call 71; ((with_reducible refine (HCC.out).mono ?_); rintro e w4 ⟨r4, c4, rfl, t_, b_⟩; have HB4r := Lib.hid (below_step HB3r.out HB3r.out.size b_); have hwz4 := Nat.le_trans hwz HB4r.out.size; have HT4 := Lib.hid (TagR.low t_ hwz3); have HVW := Lib.hid (HV1.out.kept (below_grown HB4r.out) (by cases hv : Value.ownBlock u5 <;> simp)); clear t_ b_ q0 q1)) | ((at_builtin; (refine wpList_append_lies _ rfl _ _ 25 rfl w1.heap.size 22 j0 (.slice none 0 0) 1 24 Tryz.underlying25 kj kz0 kz1 kz2 rfl (by decide) u5 i vals rfl (HVW.out.alloc _) ⟨w4.heap.size, 0, none⟩ 1 1 [.slice r4 (rw' M i).length c4] rfl rfl (World.news_of_block (cs := #[.slice r4 (rw' M i).length c4]) (t := 22) (fr := (0, 0)) (heap_alloc_new w4 _)) (by simp [Value.oneCell']) (by omega) (by unfold maxLen; omega) (by omega) (by simp; omega) (w4.heap.size + 1) (by simp) ?_); intro gg cap w1 hown1 hgrow hat hlt1)))
      go_wp2
      go_roundw
      case rel => exact ⟨i + 1, by omega, by go_num, OutM.nextT (by rw [HML.out]; exact hlt) HV1.out HVR.out HT4.out hwz HB4r.out hown1 hgrow, ((HBEL.out.trans (HB4r.out.mono hwz)).alloc (by omega) _).grown hgrow (by simp; omega) (fun _ hk => (HV1.out.lt _ hk).1)⟩
      case measure => simp [intOf]; omega
    · have hi2 : ¬ (i : Int) < (S.length : Int) := by omega
      have hin : i = S.length := by omega
      have ho2 := HO.out
      rw [hin, HTK.out] at ho2
      obtain ⟨r, c, hv, hmat⟩ := ho2.mat
      rw [HML.out] at hv
      subst hv
      have HMT := Lib.hid hmat
      clear ho hbel ho2 hmat hin
      go_wp2_with (go_at_call 41; ((with_reducible refine (l02Turn_m r M S.length c w1.heap.size wr.heap.size wr HML.out HMT.out (Nat.le_refl _) (by rw [HML.out]; omega) (fun i hi => by rw [HCL.out i (by rw [← HML.out]; exact hi), HCL.out 0 (by omega)]) (by rw [HML.out]; omega) (by rw [HCL.out 0 (by omega)]; omega)).mono ?_); rintro e w4 ⟨r4, c4, rfl, o_, b_⟩; have HO4 := Lib.hid (o_.mono HBW.out.size (Nat.le_refl _)); have HB4 := Lib.hid (below_step HBW.out HBW.out.size b_); clear o_ b_))
      go_ret
      exact ⟨r4, c4, rfl, HO4.out, HB4.out⟩

end Go.Proofs.YtlfjhffigkhmcaaGreat

namespace Go.Proofs.YtlfjhffigkhmcaaGreat
open Go.RowKit
set_option linter.unusedVariables false

def mvV (p : Int) (S x : List Int) : List (List Int) := if vrC p S x = 0 then trM (ledM S.length (sdM p S x) S.length) else []
set_option maxRecDepth 100000 in
set_option maxHeartbeats 6400000 in
theorem impl_MatrixOfVersor (pS : Int) (aS : Option Addr) (S : List Int) (cS loS tpS : Nat) (ax : Option Addr) (x : List Int) (cx lox tpx : Nat) (w : World) (hS : RowIn loS tpS w aS S) (tS : tpS ≤ w.heap.size) (sS : S.length ≤ 1048576) (hx : RowIn lox tpx w ax x) (tx : tpx ≤ w.heap.size) (sx : x.length ≤ 1048576) :
    Calls Tryz.prog 10 #[.agg #[.int .i64 pS, .slice aS S.length cS], .slice ax x.length cx] w (ImplM (mvV pS S x) (vrC pS S x) w) := by
  have HS := Lib.hid hS
  have Hx := Lib.hid hx
  have k0 := nw0 w (.int .i64 pS) (.slice aS S.length cS) 24
  have k1 := nw1 w (.int .i64 pS) (.slice aS S.length cS) 24
  have HB0 := Lib.hid (below_alloc w (.cells #[.int .i64 pS, .slice aS S.length cS] 24))
  clear hS hx
  by_cases hc : vrC pS S x = 0
  · have HV : Hid (mvV pS S x = trM (ledM S.length (sdM pS S x) S.length)) := by show _ = _; unfold mvV; rw [if_pos hc]
    have HC := Lib.hid hc
    have hz := vrC_zero hc
    have HI := Lib.hid hz.1
    have HMX := Lib.hid hz.2.1
    obtain ⟨F, hF⟩ : ∃ f, f = nrF pS S x := ⟨_, rfl⟩
    have HFE := Lib.hid hF
    clear hc hz hF
    go_enter Tryz.func10, Tryz.ntmps10
    go_upto_region 1 with fail
    obtain ⟨w1, hw1⟩ : ∃ z, z = w.alloc (.cells #[.int .i64 pS, .slice aS S.length cS] 24) := ⟨_, rfl⟩
    rw [← hw1] at HB0 k0 k1 ⊢
    have hd1 : w.heap.size < w1.heap.size := by rw [hw1]; simp
    have HB1 := HB0
    clear hw1
    have SS1 := Lib.hid (And.intro k0 k1)
    go_upto_region 2 with (go_at_call 29; ((with_reducible refine (checkVersor_y pS aS S cS loS tpS ax x cx lox tpx w1 (HS.out.below HB1.out tS) (Nat.le_trans tS HB1.out.size) sS (Hx.out.below HB1.out tx) (Nat.le_trans tx HB1.out.size) sx HC.out).mono ?_); rintro e w2 ⟨rfl, b_⟩; rw [← HFE.out]; have SS2 := Lib.hid (ss2 b_ hd1 SS1.out); have HB2 := Lib.hid (below_step HB1.out HB1.out.size b_); have hd2 := Nat.lt_of_lt_of_le hd1 b_.size; clear k0 k1; obtain ⟨k0, k1⟩ := SS2.out; clear b_))
    obtain ⟨w3, hwn⟩ : ∃ z, z = w2.alloc (.cells #[.int .i64 pS, .slice aS S.length cS, .slice ax x.length cx, .int .i64 pS, .int .i64 F] 52) := ⟨_, rfl⟩
    obtain ⟨f, hf⟩ : ∃ b, b = w2.heap.size := ⟨_, rfl⟩
    have FN := V5.new w2 (.int .i64 pS) (.slice aS S.length cS) (.slice ax x.length cx) (.int .i64 pS) (.int .i64 F) 52
    rw [← hwn, ← hf] at FN
    have bn_ : Below w2.heap.size w2 w3 := by rw [hwn]; exact below_alloc _ _
    have ff3 : f < w3.heap.size := by rw [hwn, hf]; simp
    have lf : w.heap.size < f := by rw [hf]; exact hd2
    have SS3 := Lib.hid (ss2 bn_ hd2 SS2.out)
    have HB3 := Lib.hid (below_step HB2.out HB2.out.size bn_)
    have hd3 := Nat.lt_of_lt_of_le hd2 bn_.size
    rw [← hwn, ← hf]
    clear hwn hf bn_ k0 k1
    have FF3 : Hid (Box5 f (.int .i64 pS) (.slice aS S.length cS) (.slice ax x.length cx) (.int .i64 pS) (.int .i64 F) w3) := FN.1
    clear FN
    obtain ⟨f0, f1, f2, f3, f4⟩ := FF3.out
    obtain ⟨k0, k1⟩ := SS3.out
    go_wp2_with (go_at_call 30; ((with_reducible refine (matrixOf_v pS aS S cS loS tpS ax x cx lox tpx F w3 HI.out (HS.out.below HB3.out tS) (Nat.le_trans tS HB3.out.size) (Hx.out.below HB3.out tx) (Nat.le_trans tx HB3.out.size) HMX.out HFE.out).mono ?_); rintro e w4 ⟨r, c, rfl, o_, b_⟩; have SS4 := Lib.hid (ss2 b_ hd3 SS3.out); have HB4 := Lib.hid (below_step HB3.out HB3.out.size b_); have hd4 := Nat.lt_of_lt_of_le hd3 b_.size; have FF4 := Lib.hid (FF3.out.below b_ ff3); have ff4 := Nat.lt_of_lt_of_le ff3 b_.size; have OO := Lib.hid (o_.mono (Nat.le_of_lt hd3) (Nat.le_refl _)); clear o_; clear k0 k1; obtain ⟨k0, k1⟩ := SS4.out; clear f0 f1 f2 f3 f4; obtain ⟨f0, f1, f2, f3, f4⟩ := FF4.out; clear b_))
    go_ret2
    rw [HV.out, HC.out]
    exact ⟨r, c, rfl, OO.out, HB4.out⟩
  · have HV : Hid (mvV pS S x = []) := by show _ = _; unfold mvV; rw [if_neg hc]
    have HC : Hid (vrC pS S x ≠ 0) := hc
    obtain ⟨C, hC⟩ : ∃ c, c = vrC pS S x := ⟨_, rfl⟩
    have hc1 : (C != 0) = true := by rw [hC]; simpa using hc
    have HCE := Lib.hid hC
    clear hc hC
    go_enter Tryz.func10, Tryz.ntmps10
    go_upto_region 1 with fail
    obtain ⟨w1, hw1⟩ : ∃ z, z = w.alloc (.cells #[.int .i64 pS, .slice aS S.length cS] 24) := ⟨_, rfl⟩
    rw [← hw1] at HB0 k0 k1 ⊢
    have hd1 : w.heap.size < w1.heap.size := by rw [hw1]; simp
    have HB1 := HB0
    clear hw1
    have SS1 := Lib.hid (And.intro k0 k1)
    go_upto_region 2 with (go_at_call 29; ((with_reducible refine (checkVersor_n pS aS S cS loS tpS ax x cx lox tpx w1 (HS.out.below HB1.out tS) (Nat.le_trans tS HB1.out.size) sS (Hx.out.below HB1.out tx) (Nat.le_trans tx HB1.out.size) sx HC.out).mono ?_); rintro e w2 ⟨rfl, b_⟩; rw [← HCE.out]; have SS2 := Lib.hid (ss2 b_ hd1 SS1.out); have HB2 := Lib.hid (below_step HB1.out HB1.out.size b_); have hd2 := Nat.lt_of_lt_of_le hd1 b_.size; clear k0 k1; obtain ⟨k0, k1⟩ := SS2.out; clear b_))
    obtain ⟨w3, hwn⟩ : ∃ z, z = w2.alloc (.cells #[.int .i64 0, .slice none 0 0, .slice none 0 0, .int .i64 0, .int .i64 0] 52) := ⟨_, rfl⟩
    obtain ⟨f, hf⟩ : ∃ b, b = w2.heap.size := ⟨_, rfl⟩
    have FN := V5.new w2 (.int .i64 0) (.slice none 0 0) (.slice none 0 0) (.int .i64 0) (.int .i64 0) 52
    rw [← hwn, ← hf] at FN
    have bn_ : Below w2.heap.size w2 w3 := by rw [hwn]; exact below_alloc _ _
    have ff3 : f < w3.heap.size := by rw [hwn, hf]; simp
    have lf : w.heap.size < f := by rw [hf]; exact hd2
    have SS3 := Lib.hid (ss2 bn_ hd2 SS2.out)
    have HB3 := Lib.hid (below_step HB2.out HB2.out.size bn_)
    have hd3 := Nat.lt_of_lt_of_le hd2 bn_.size
    rw [← hwn, ← hf]
    clear hwn hf bn_ k0 k1
    have FF3 : Hid (Box5 f (.int .i64 0) (.slice none 0 0) (.slice none 0 0) (.int .i64 0) (.int .i64 0) w3) := FN.1
    clear FN
    obtain ⟨f0, f1, f2, f3, f4⟩ := FF3.out
    obtain ⟨k0, k1⟩ := SS3.out
    go_wp2
    go_ret2
    rw [HV.out, ← HCE.out]
    exact ⟨none, 0, rfl, .inl rfl, HB3.out⟩

end Go.Proofs.YtlfjhffigkhmcaaGreat
