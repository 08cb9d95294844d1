/-
  Laws of versors, the model's side: contracts of the program and of the model.
  Conditions: the lists are nil or rows of known cells, of at most 1048576 numbers.
  The model's GramOf: contract.
  Conditions: the lists are nil or rows of known cells, of at most 1048576 numbers.
  The program's Gram matrices: the walk.
  Conditions: the lists are nil or rows of known cells, of at most 1048576 numbers.
  The program's GramOf: contract.
  Conditions: the lists are nil or rows of known cells, of at most 1048576 numbers.
  Products of vectors: symmetric, linear, norms of sums. No Go in sight.
  No conditions.
-/
import Derived.Test.YtgfanoejohpmkaaQb37
import Derived.Test.YtgfanoejohpmkaaQb38
import Derived.Deep.RegionHeld3
import Derived.Deep.DeepCutAuto
import Derived.Test.YtgfanoejohpmkaaQb21
import Derived.Test.YtgfanoejohpmkaaQb3
import Derived.Test.YtgfanoejohpmkaaQb25
import Derived.Test.YtgfanoejohpmkaaQb4
import Derived.Test.YtgfanoejohpmkaaQb32
import Derived.Test.YtgfanoejohpmkaaQb9
namespace Go.Proofs.Ytgfanoejohpmkaa
open Go.RowKit
set_option linter.unusedVariables false

theorem l03Pair_below (pS : Int) (aS : Option Addr) (S : List Int) (cS loS tpS : Nat) (av : Option Addr) (v : List Int) (nv cv lov tpv : Nat) (aw : Option Addr) (u : List Int) (nu cu lou tpu : Nat) (w : World) (hnv : v.length = nv) (hnu : u.length = nu) (hS : RowIn loS tpS w aS S) (tS : tpS ≤ w.heap.size) (hv : RowIn lov tpv w av v) (tv : tpv ≤ w.heap.size) (hu : RowIn lou tpu w aw u) (tu : tpu ≤ w.heap.size) (hs : isSp pS S = true) (h1 : isVec pS S.length v = true) (h2 : isVec pS S.length u = true) :
    Calls Try.prog 27 #[.agg #[.int .i64 pS, .slice aS S.length cS], .slice av nv cv, .slice aw nu cu] w fun e w' => e = .returned (.int .i64 (pairN pS S v u)) ∧ Below w.heap.size w w' := by
  subst hnv hnu; exact l03Pair_any pS aS S cS loS tpS av v cv lov tpv aw u cu lou tpu w hS tS hv tv hu tu hs h1 h2
theorem l04Times_vk (pS : Int) (aS : Option Addr) (S : List Int) (cS loS tpS : Nat) (r : Option Addr) (m : List (List Int)) (k c lo tp b lo2 tp2 : Nat) (W : World) (hs : isSp pS S = true) (hS : RowIn loS tpS W aS S) (tS : tpS ≤ W.heap.size) (h : RowIn lo tp W r (vrM pS S m k)) (th : tp ≤ W.heap.size) (h2 : RowIn lo2 tp2 W (some ⟨b, 0, none⟩) (mkR (bl S) (vecF (rw' m k) (rw' m k).length))) (th2 : tp2 ≤ W.heap.size) (hv : isVec pS S.length (rw' m k) = true) :
    Calls Try.prog 55 #[.agg #[.int .i64 pS, .slice aS S.length cS], .slice r (vrM pS S m k).length c, .slice (some ⟨b, 0, none⟩) (bl S) (bl S)] W (OwnE (vrM pS S m (k + 1)) W) := l04Times_v pS aS S cS loS tpS r (vrM pS S m k) _ c lo tp b lo2 tp2 (rw' m k) W rfl hs hS tS h th (vr_mv hs m k) h2 th2 hv

set_option maxRecDepth 100000 in
set_option maxHeartbeats 3200000 in
theorem l07Versor_own (pS : Int) (aS : Option Addr) (S : List Int) (cS loS tpS : Nat) (am : Option Addr) (m : List (List Int)) (cm lom tpm : Nat) (w : World) (hs : isSp pS S = true) (hS : RowIn loS tpS w aS S) (tS : tpS ≤ w.heap.size) (hm : MatIn lom tpm w am m) (tm : tpm ≤ w.heap.size) (hl : listB pS S m = true) :
    Calls Try.prog 30 #[.agg #[.int .i64 pS, .slice aS S.length cS], .slice am m.length cm] w (OwnE (vrM pS S m m.length) w) := by
  have HI := Lib.hid hs
  have HS := Lib.hid hS
  have HM := Lib.hid hm
  have HL := Lib.hid (listB_iff hl)
  have h6 := (isSp_iff.1 hs).hi
  have hpb := prm_bd (isSp_iff.1 hs).prime
  have hbl := bl_le h6
  have hb0 := bl_pos S
  have hm16 := HL.out.1
  have HB0 := Lib.hid (below_alloc w (.cells #[.int .i64 pS, .slice aS S.length cS] 26))
  have k0 := nw0 w (.int .i64 pS) (.slice aS S.length cS) 26
  have k1 := nw1 w (.int .i64 pS) (.slice aS S.length cS) 26
  clear hs hS hm hl
  go_enter Try.func30, Try.ntmps30
  go_wp2_with (go_at_call 54; (with_reducible refine (l04One_any pS aS S cS _ h6).mono ?_); rintro e w1 ⟨r1, c1, rfl, o1, b1⟩; have O1 := Lib.hid (OwnR.mono' o1 (size_alloc w (.cells #[.int .i64 pS, .slice aS S.length cS] 26)) (Nat.le_refl _)); have HB1 := Lib.hid (below_step HB0.out (size_alloc w (.cells #[.int .i64 pS, .slice aS S.length cS] 26)) b1); have k01 := (b1.cell (p := ⟨w.heap.size, 0, none⟩) (lt_alloc w (.cells #[.int .i64 pS, .slice aS S.length cS] 26))).trans k0; have k11 := (b1.cell (p := ⟨w.heap.size, 1, none⟩) (lt_alloc w (.cells #[.int .i64 pS, .slice aS S.length cS] 26))).trans k1; have hw1 := Nat.lt_of_lt_of_le (lt_alloc w (.cells #[.int .i64 pS, .slice aS S.length cS] 26)) b1.size; clear o1 b1 k0 k1)
  go_loopw [5, 6] (fun u t wr => ∃ (k : Nat) (r : Option Addr) (c : Nat), k ≤ m.length ∧ u = .slice r (vrM pS S m k).length c ∧ t = .int .i64 k ∧ OwnR w.heap.size wr.heap.size wr r (vrM pS S m k) ∧ wr.cell? ⟨w.heap.size, 0, none⟩ = some (.int .i64 pS) ∧ wr.cell? ⟨w.heap.size, 1, none⟩ = some (.slice aS S.length cS) ∧ Below w.heap.size w wr ∧ w.heap.size < wr.heap.size) (fun _ t _ => m.length - (intOf t).toNat)
  case atStart => exact ⟨0, r1, c1, Nat.zero_le _, rfl, rfl, O1.out, k01, k11, HB1.out, hw1⟩
  case round =>
    obtain ⟨k, r, c, hk, rfl, rfl, ho, k0, k1, hbel, hlw⟩ := hrel
    have HO := Lib.hid ho
    have HB := Lib.hid hbel
    by_cases hlt : k < m.length
    · obtain ⟨b9, o9, rv, cv, ha9, _, hb9, hr9, hrow⟩ := (HM.out.below hbel tm).row hlt
      subst ha9
      have hwz := hbel.size
      have hi1 : (k : Int) < (m.length : Int) := by omega
      have HVV := Lib.hid (HL.out.2 k hlt)
      have HVL := Lib.hid (isVec_iff.1 HVV.out).len
      have HRV := Lib.hid (hrow.below (below_drew wr) (Nat.le_trans tm hwz))
      have HTV : Hid (tpm ≤ wr.drew.heap.size) := Nat.le_trans tm hwz
      have HRR : Hid (RowIn w.heap.size wr.drew.heap.size wr.drew r (vrM pS S m k)) := ho.row.below (below_drew wr) (Nat.le_refl _)
      have hxd : b9 < wr.drew.heap.size := Nat.lt_of_lt_of_le hb9 (Nat.le_trans tm hwz)
      have hs1 : Hid (wr.drew.cell? ⟨w.heap.size, 0, none⟩ = some (.int .i64 pS) ∧ wr.drew.cell? ⟨w.heap.size, 1, none⟩ = some (.slice aS S.length cS) ∧ wr.drew.cell? ⟨b9, o9 + k, none⟩ = some (.slice rv (rw' m k).length cv)) := ⟨k0, k1, hr9⟩
      have HBD : Hid (Below w.heap.size w wr.drew) := hbel.drew
      have hd0 : w.heap.size < wr.drew.heap.size := hlw
      clear ho hbel hrow
      go_wp2
      go_region_held3 (fun w' => w'.cell? ⟨w.heap.size, 0, none⟩ = some (.int .i64 pS) ∧ w'.cell? ⟨w.heap.size, 1, none⟩ = some (.slice aS S.length cS) ∧ w'.cell? ⟨b9, o9 + k, none⟩ = some (.slice rv (rw' m k).length cv)) (first | exact hs1.out | exact SSa.out | exact SSab.out | go_keep) (first | (go_at_call 29; (with_reducible refine (l04Vector_any pS aS S cS rv (rw' m k) cv lom tpm wr.drew h6 HVL.out HRV.out HTV.out).mono ?_); rintro e wa ⟨ba, rfl, l_, u_, o_, b_⟩; have SSa := Lib.hid (ss3 b_ hd0 hxd hs1.out); have hxa := Nat.lt_of_lt_of_le hxd b_.size; have HBa := Lib.hid (below_step HBD.out (Nat.le_of_lt hd0) b_); have zz_ := b_.size; have HCa := Lib.hid b_; have hda := Nat.lt_of_lt_of_le hd0 zz_; have la := Nat.lt_of_lt_of_le hd0 l_; have ua_a := u_; have Na_a := Lib.hid o_; have Ra_a := Lib.hid ((o_.own (Nat.le_of_lt la) u_).row); clear b_ o_) | (go_at_call 55; (with_reducible refine (l04Times_vk pS aS S cS loS tpS r m k c w.heap.size wr.drew.heap.size ba w.heap.size wa.heap.size wa HI.out (HS.out.below HBa.out tS) (Nat.le_trans tS (HBa.out).size) (HRR.out.below HCa.out (Nat.le_refl _)) HCa.out.size Ra_a.out (Nat.le_refl _) HVV.out).mono ?_); rintro e wab ⟨rb, kb, rfl, o_, b_⟩; have SSab := Lib.hid (ss3 b_ hda hxa SSa.out); have hxab := Nat.lt_of_lt_of_le hxa b_.size; have HBab := Lib.hid (below_step HBa.out (Nat.le_of_lt hda) b_); have zz_ := b_.size; have HCab := Lib.hid (below_step HCa.out (HCa.out).size b_); have hdab := Nat.lt_of_lt_of_le hda zz_; have Ra_ab := Lib.hid ((Ra_a.out.below b_ (Nat.le_refl _)).mono (Nat.le_refl _) zz_); have Na_ab := Lib.hid (Na_a.out.stay (b_.block ba ua_a)); have ua_ab := Nat.lt_of_lt_of_le ua_a zz_; have Ob_ab := Lib.hid (OwnR.mono' o_ (Nat.le_of_lt hda) (Nat.le_refl _)); have Rb_ab := Lib.hid (Ob_ab.out.row); clear b_ o_))
      go_wp2
      go_roundw
      case rel => exact ⟨k + 1, rb, kb, by omega, rfl, by go_num, Ob_ab.out, SSab.out.1, SSab.out.2.1, HBab.out, hdab⟩
      case measure => simp [intOf]; omega
    · have hkn : k = m.length := by omega
      subst hkn
      clear ho hbel
      go_wp2
      go_ret
      exact ⟨r, c, rfl, HO.out, HB.out⟩

theorem plus_sr (p k : Int) (a b : Option Addr) (za zb : List Int) (ca cb lo tp lo' tp' : Nat) (w : World) (hp : prm p = true) (ha : RowIn lo tp w a za) (hb : RowIn lo' tp' w b zb) (ht : tp ≤ w.heap.size) (ht' : tp' ≤ w.heap.size) (hl : za.length ≤ zb.length) (hs : za.length ≤ 1048576) (hna : ∀ j, j < za.length → 0 ≤ za.getD j 0 ∧ za.getD j 0 < p) (hnb : ∀ j, j < zb.length → 0 ≤ zb.getD j 0 ∧ zb.getD j 0 < p) (k0 : 0 ≤ k) (k1 : k ≤ p) :
    Calls Try.prog 28 #[.int .i64 p, .slice a za.length ca, .slice b zb.length cb, .int .i64 k] w (fun e w' => ∃ r c, e = .returned (.slice r za.length c) ∧ RowIn w.heap.size w'.heap.size w' r (plusR p za zb k) ∧ Below w.heap.size w w') :=
  (l02Plus_any p k a b za zb ca cb lo tp lo' tp' w hp ha hb ht ht' hl hs hna hnb k0 k1).mono fun _ _ ⟨r, c, e, o, b⟩ => ⟨r, c, by rw [e, plus_len], o.row, b⟩

set_option maxRecDepth 100000 in
set_option maxHeartbeats 6400000 in
theorem l07Reflect_any (pS : Int) (aS : Option Addr) (S : List Int) (cS loS tpS : Nat) (au : Option Addr) (u : List Int) (cu lou tpu : Nat) (av : Option Addr) (v : List Int) (cv lov tpv : Nat) (w : World) (hs : isSp pS S = true) (hS : RowIn loS tpS w aS S) (tS : tpS ≤ w.heap.size) (hu : RowIn lou tpu w au u) (tu : tpu ≤ w.heap.size) (mu : isVec pS S.length u = true) (hv : RowIn lov tpv w av v) (tv : tpv ≤ w.heap.size) (mv : isVec pS S.length v = true) (h0 : pairN pS S u u ≠ 0) :
    Calls Try.prog 21 #[.agg #[.int .i64 pS, .slice aS S.length cS], .slice au u.length cu, .slice av v.length cv] w (SRow (rflM pS S u v) w) := by
  have HI := Lib.hid hs
  have HS := Lib.hid hS
  have Hu := Lib.hid hu
  have HVu := Lib.hid mu
  have Hv := Lib.hid hv
  have HVv := Lib.hid mv
  have hpb := prm_bd (isSp_iff.1 hs).prime
  have h6 := (isSp_iff.1 hs).hi
  have hvl : v.length = S.length := (isVec_iff.1 mv).len
  have hul : u.length = S.length := (isVec_iff.1 mu).len
  have hlen : v.length ≤ u.length := by omega
  have hv6 : v.length ≤ 6 := by omega
  have HNV : Hid (∀ j, j < v.length → 0 ≤ v.getD j 0 ∧ v.getD j 0 < pS) := fun j hj => (isVec_iff.1 mv).num (by omega)
  have HNU : Hid (∀ j, j < u.length → 0 ≤ u.getD j 0 ∧ u.getD j 0 < pS) := fun j hj => (isVec_iff.1 mu).num (by omega)
  obtain ⟨A, hA⟩ : ∃ a, a = pairN pS S u v := ⟨_, rfl⟩
  obtain ⟨N, hN⟩ : ∃ a, a = pairN pS S u u := ⟨_, rfl⟩
  have hAb : 0 ≤ A ∧ A < pS := by rw [hA]; exact pairN_bd7 (by omega)
  have hNb : 0 ≤ N ∧ N < pS := by rw [hN]; exact pairN_bd7 (by omega)
  have hN1 : 1 ≤ N := by rw [← hN] at h0; omega
  have hN2 : N < pS := hNb.2
  obtain ⟨I, hI⟩ : ∃ a, a = inv pS N := ⟨_, rfl⟩
  have hIb : 0 ≤ I ∧ I < pS := by rw [hI]; exact inv_bd (isSp_iff.1 hs).prime N
  have HAE := Lib.hid hA
  have HNE := Lib.hid hN
  have HIE := Lib.hid hI
  have hM : 0 ≤ 2 * A % pS ∧ 2 * A % pS < pS := ⟨Int.emod_nonneg _ (by omega), Int.emod_lt_of_pos _ (by omega)⟩
  obtain ⟨M, hMe⟩ : ∃ a, a = 2 * A % pS := ⟨_, rfl⟩
  rw [← hMe] at hM
  have hMI : 0 ≤ M * I ∧ M * I ≤ 169 := by
    have h1 : M * I ≤ 13 * 13 := Int.mul_le_mul (by omega) (by omega) hIb.1 (by omega)
    exact ⟨Int.mul_nonneg hM.1 hIb.1, h1⟩
  have hF : 0 ≤ M * I % pS ∧ M * I % pS < pS := ⟨Int.emod_nonneg _ (by omega), Int.emod_lt_of_pos _ (by omega)⟩
  obtain ⟨Q, hQ⟩ : ∃ a, a = M * I % pS := ⟨_, rfl⟩
  rw [← hQ] at hF
  have e1 : wrap64 (2 * A) = 2 * A := by unfold wrap64; omega
  have e1' : IntKind.i64.wrap (2 * A) = 2 * A := IntWalk.i64_in _ (by omega)
  have e2 : (2 * A).tmod pS = M := by rw [hMe]; exact Int.tmod_eq_emod_of_nonneg (by omega)
  have e2' : 2 * A % pS = M := hMe.symm
  have e3 : wrap64 (M * I) = M * I := by unfold wrap64; omega
  have e3' : IntKind.i64.wrap (M * I) = M * I := IntWalk.i64_in _ (by omega)
  have e4 : (M * I).tmod pS = Q := by rw [hQ]; exact Int.tmod_eq_emod_of_nonneg (by omega)
  have e4' : M * I % pS = Q := hQ.symm
  have e5 : wrap64 (pS - Q) = pS - Q := by unfold wrap64; omega
  have e5' : IntKind.i64.wrap (pS - Q) = pS - Q := IntWalk.i64_in _ (by omega)
  have e6 : (pS - Q).tmod pS = (pS - Q) % pS := Int.tmod_eq_emod_of_nonneg (by omega)
  have hp0 : ¬ pS = 0 := by omega
  have hp0' : (pS == 0) = false := by simpa using hp0
  obtain ⟨QQ, hQQ⟩ : ∃ a, a = (pS - Q) % pS := ⟨_, rfl⟩
  have e7 : (pS - Q) % pS = QQ := hQQ.symm
  have hq0 : 0 ≤ QQ := by rw [hQQ]; exact Int.emod_nonneg _ (by omega)
  have hq1 : QQ ≤ pS := by rw [hQQ]; exact Int.le_of_lt (Int.emod_lt_of_pos _ (by omega))
  have HRF : Hid (rflM pS S u v = plusR pS v u QQ) := by
    show _ = _
    unfold rflM
    rw [hQQ, hQ, hMe, hI, ← hA, ← hN, rf_model (by omega)]
  have HB0 := Lib.hid (below_alloc w (.cells #[.int .i64 pS, .slice aS S.length cS] 26))
  have k0 := nw0 w (.int .i64 pS) (.slice aS S.length cS) 26
  have k1 := nw1 w (.int .i64 pS) (.slice aS S.length cS) 26
  rw [← hQQ] at e6
  clear hs hS hu mu hv mv hA hN hI hMe hQ hQQ hvl hul h0
  go_enter Try.func21, Try.ntmps21
  go_upto_region 1 with fail
  obtain ⟨w1, hw1⟩ : ∃ z, z = w.alloc (.cells #[.int .i64 pS, .slice aS S.length cS] 26) := ⟨_, rfl⟩
  rw [← hw1] at HB0 k0 k1 ⊢
  have hw0 : w.heap.size < w1.heap.size := by rw [hw1]; simp
  clear hw1
  have hs1 : Hid (w1.drew.cell? ⟨w.heap.size, 0, none⟩ = some (.int .i64 pS) ∧ w1.drew.cell? ⟨w.heap.size, 1, none⟩ = some (.slice aS S.length cS)) := ⟨k0, k1⟩
  have HBD : Hid (Below w.heap.size w w1.drew) := HB0.out.drew
  have hd0 : w.heap.size < w1.drew.heap.size := hw0
  go_region_held3 (fun w' => w'.cell? ⟨w.heap.size, 0, none⟩ = some (.int .i64 pS) ∧ w'.cell? ⟨w.heap.size, 1, none⟩ = some (.slice aS S.length cS)) (first | exact hs1.out | exact SSa.out | exact SSab.out | exact SSabc.out | go_keep) (first | (go_at_call 27; (with_reducible refine (l03Pair_any pS aS S cS loS tpS au u cu lou tpu av v cv lov tpv w1.drew (HS.out.below HBD.out tS) (Nat.le_trans tS (HBD.out).size) (Hu.out.below HBD.out tu) (Nat.le_trans tu (HBD.out).size) (Hv.out.below HBD.out tv) (Nat.le_trans tv (HBD.out).size) HI.out HVu.out HVv.out).mono ?_); rintro e wa ⟨rfl, b_⟩; rw [← HAE.out]; have SSa := Lib.hid (ss2 b_ hd0 hs1.out); have HBa := Lib.hid (below_step HBD.out (Nat.le_of_lt hd0) b_); have zz_ := b_.size; have hda := Nat.lt_of_lt_of_le hd0 zz_; clear b_) | (go_at_call 27; (with_reducible refine (l03Pair_any pS aS S cS loS tpS au u cu lou tpu au u cu lou tpu wa (HS.out.below HBa.out tS) (Nat.le_trans tS (HBa.out).size) (Hu.out.below HBa.out tu) (Nat.le_trans tu (HBa.out).size) (Hu.out.below HBa.out tu) (Nat.le_trans tu (HBa.out).size) HI.out HVu.out HVu.out).mono ?_); rintro e wab ⟨rfl, b_⟩; rw [← HNE.out]; have SSab := Lib.hid (ss2 b_ hda SSa.out); have HBab := Lib.hid (below_step HBa.out (Nat.le_of_lt hda) b_); have zz_ := b_.size; have hdab := Nat.lt_of_lt_of_le hda zz_; clear b_) | (go_at_call 46; (with_reducible refine (l01Inv_low7 pS N wab (isSp_iff.1 HI.out).prime hN1 hN2).mono ?_); rintro e wabc ⟨rfl, b_⟩; rw [← HIE.out]; have SSabc := Lib.hid (ss2 b_ hdab SSab.out); have HBabc := Lib.hid (below_step HBab.out (Nat.le_of_lt hdab) b_); have zz_ := b_.size; have hdabc := Nat.lt_of_lt_of_le hdab zz_; clear b_))
  go_wp2
  have hs2 : Hid (wabc.drew.cell? ⟨w.heap.size, 0, none⟩ = some (.int .i64 pS) ∧ wabc.drew.cell? ⟨w.heap.size, 1, none⟩ = some (.slice aS S.length cS)) := SSabc.out
  have HBE : Hid (Below w.heap.size w wabc.drew) := HBabc.out.drew
  have hd2 : w.heap.size < wabc.drew.heap.size := hdabc
  go_region_held3 (fun w' => w'.cell? ⟨w.heap.size, 0, none⟩ = some (.int .i64 pS) ∧ w'.cell? ⟨w.heap.size, 1, none⟩ = some (.slice aS S.length cS)) (first | exact hs2.out | exact SSd.out | go_keep) (first | (go_at_call 28; (with_reducible refine (plus_sr pS QQ av au v u cv cu lov tpv lou tpu wabc.drew (isSp_iff.1 HI.out).prime (Hv.out.below HBE.out tv) (Hu.out.below HBE.out tu) (Nat.le_trans tv (HBE.out).size) (Nat.le_trans tu (HBE.out).size) hlen (by omega) HNV.out HNU.out hq0 hq1).mono ?_); rintro e wd ⟨rd, kd, rfl, o_, b_⟩; have SSd := Lib.hid (ss2 b_ hd2 hs2.out); have HBd := Lib.hid (below_step HBE.out (Nat.le_of_lt hd2) b_); have zz_ := b_.size; have hdd := Nat.lt_of_lt_of_le hd2 zz_; have Rd_d := Lib.hid (o_.mono (Nat.le_of_lt hd2) (Nat.le_refl _)); clear b_ o_))
  go_wp2
  go_ret
  rw [HRF.out]
  exact ⟨rd, kd, by rw [plus_len]; rfl, Rd_d.out, HBd.out⟩

end Go.Proofs.Ytgfanoejohpmkaa

namespace Go.Proofs.Ytgfanoejohpmkaa
open Go.RowKit
set_option linter.unusedVariables false

theorem pairN_comm (p : Int) (S v w : List Int) : pairN p S v w = pairN p S w v := by
  unfold pairN psum
  congr 1
  exact sm_congr fun j _ => by rw [Int.mul_comm (v.getD j 0)]
theorem el_mod (a b p : Int) : (a % p * b) % p = (a * b) % p := by rw [Int.mul_emod, Int.emod_emod, ← Int.mul_emod]
theorem er_mod (a b p : Int) : (a * (b % p)) % p = (a * b) % p := by rw [Int.mul_emod, Int.emod_emod, ← Int.mul_emod]
theorem sm_cong_p {p : Int} {n : Nat} {f g : Nat → Int} (h : ∀ j, j < n → f j % p = g j % p) : sm n f % p = sm n g % p := by
  rw [← sm_mod n p f, ← sm_mod n p g, sm_congr h]
theorem plusR_at (p k : Int) (v u : List Int) {j : Nat} (h : j < v.length) : (plusR p v u k).getD j 0 = (v.getD j 0 + k * u.getD j 0) % p := by unfold plusR; exact mkR_at _ h
theorem pairN_lin {p k : Int} {S v u w : List Int} (hl : v.length = S.length) : pairN p S (plusR p v u k) w = (pairN p S v w + k * pairN p S u w) % p := by
  have h : psum S (plusR p v u k) w S.length % p = (psum S v w S.length + k * psum S u w S.length) % p := by
    unfold psum
    rw [← sm_mul, ← sm_add]
    apply sm_cong_p
    intro j hj
    rw [plusR_at p k v u (by omega), Int.mul_assoc, el_mod, Int.add_mul]
    congr 1
    rw [← Int.mul_assoc]
    congr 1
    rw [Int.mul_assoc k, ← Int.mul_assoc (u.getD j 0)]
  show _ % p = (psum S v w S.length % p + k * (psum S u w S.length % p)) % p
  rw [h, Int.add_emod (psum S v w S.length % p), Int.emod_emod, er_mod, ← Int.add_emod]
theorem code_vec2 {p : Int} {S v w : List Int} (hs : isSp p S = true) (hv : isVec p S.length v = true) (hw : isVec p S.length w = true) : codeVs p S [v, w] = 0 ∧ pairV p S v w = pairN p S v w := by
  have h : codeVs p S [v, w] = 0 := by unfold codeVs; rw [if_pos hs, if_pos (by simp [hv, hw])]
  exact ⟨h, by unfold pairV; rw [if_pos h]⟩

end Go.Proofs.Ytgfanoejohpmkaa
