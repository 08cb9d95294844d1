/-
  VersorBetween (program): contracts of the program and of the model.
  Conditions: the lists are nil or rows of known cells, of at most 1048576 numbers.
  Laws of versors, the model's side: contracts of the program and of the model.
  Conditions: the lists are nil or rows of known cells, of at most 1048576 numbers.
-/
import Derived.Test.YtgfanoejohpmkaaGreatQs39
import Derived.Deep.RegionHeld3
import Derived.Deep.DeepCutAuto
import Derived.Test.YtgfanoejohpmkaaGreatQs40
namespace Go.Proofs.YtgfanoejohpmkaaGreat
open Go.RowKit
set_option linter.unusedVariables false

theorem l04Times_vk (pS : Int) (aS : Option Addr) (S : List Int) (cS loS tpS : Nat) (r : Option Addr) (m : List (List Int)) (k c lo tp b lo2 tp2 : Nat) (W : World) (hs : isSp pS S = true) (hS : RowIn loS tpS W aS S) (tS : tpS ≤ W.heap.size) (h : RowIn lo tp W r (vrM pS S m k)) (th : tp ≤ W.heap.size) (h2 : RowIn lo2 tp2 W (some ⟨b, 0, none⟩) (mkR (bl S) (vecF (rw' m k) (rw' m k).length))) (th2 : tp2 ≤ W.heap.size) (hv : isVec pS S.length (rw' m k) = true) :
    Calls Tryz.prog 116 #[.agg #[.int .i64 pS, .slice aS S.length cS], .slice r (vrM pS S m k).length c, .slice (some ⟨b, 0, none⟩) (bl S) (bl S)] W (OwnE (vrM pS S m (k + 1)) W) := l04Times_v pS aS S cS loS tpS r (vrM pS S m k) _ c lo tp b lo2 tp2 (rw' m k) W rfl hs hS tS h th (vr_mv hs m k) h2 th2 hv

set_option maxRecDepth 100000 in
set_option maxHeartbeats 3200000 in
theorem l07Versor_own (pS : Int) (aS : Option Addr) (S : List Int) (cS loS tpS : Nat) (am : Option Addr) (m : List (List Int)) (cm lom tpm : Nat) (w : World) (hs : isSp pS S = true) (hS : RowIn loS tpS w aS S) (tS : tpS ≤ w.heap.size) (hm : MatIn lom tpm w am m) (tm : tpm ≤ w.heap.size) (hl : listB pS S m = true) :
    Calls Tryz.prog 96 #[.agg #[.int .i64 pS, .slice aS S.length cS], .slice am m.length cm] w (OwnE (vrM pS S m m.length) w) := by
  have HI := Lib.hid hs
  have HS := Lib.hid hS
  have HM := Lib.hid hm
  have HL := Lib.hid (listB_iff hl)
  have h6 := (isSp_iff.1 hs).hi
  have hpb := prm_bd (isSp_iff.1 hs).prime
  have hbl := bl_le h6
  have hb0 := bl_pos S
  have hm16 := HL.out.1
  have HB0 := Lib.hid (below_alloc w (.cells #[.int .i64 pS, .slice aS S.length cS] 26))
  have k0 := nw0 w (.int .i64 pS) (.slice aS S.length cS) 26
  have k1 := nw1 w (.int .i64 pS) (.slice aS S.length cS) 26
  clear hs hS hm hl
  go_enter Tryz.func96, Tryz.ntmps96
  go_wp2_with (go_at_call 188; (with_reducible refine (l04One_any pS aS S cS _ h6).mono ?_); rintro e w1 ⟨r1, c1, rfl, o1, b1⟩; have O1 := Lib.hid (OwnR.mono' o1 (size_alloc w (.cells #[.int .i64 pS, .slice aS S.length cS] 26)) (Nat.le_refl _)); have HB1 := Lib.hid (below_step HB0.out (size_alloc w (.cells #[.int .i64 pS, .slice aS S.length cS] 26)) b1); have k01 := (b1.cell (p := ⟨w.heap.size, 0, none⟩) (lt_alloc w (.cells #[.int .i64 pS, .slice aS S.length cS] 26))).trans k0; have k11 := (b1.cell (p := ⟨w.heap.size, 1, none⟩) (lt_alloc w (.cells #[.int .i64 pS, .slice aS S.length cS] 26))).trans k1; have hw1 := Nat.lt_of_lt_of_le (lt_alloc w (.cells #[.int .i64 pS, .slice aS S.length cS] 26)) b1.size; clear o1 b1 k0 k1)
  go_loopw [5, 6] (fun u t wr => ∃ (k : Nat) (r : Option Addr) (c : Nat), k ≤ m.length ∧ u = .slice r (vrM pS S m k).length c ∧ t = .int .i64 k ∧ OwnR w.heap.size wr.heap.size wr r (vrM pS S m k) ∧ wr.cell? ⟨w.heap.size, 0, none⟩ = some (.int .i64 pS) ∧ wr.cell? ⟨w.heap.size, 1, none⟩ = some (.slice aS S.length cS) ∧ Below w.heap.size w wr ∧ w.heap.size < wr.heap.size) (fun _ t _ => m.length - (intOf t).toNat)
  case atStart => exact ⟨0, r1, c1, Nat.zero_le _, rfl, rfl, O1.out, k01, k11, HB1.out, hw1⟩
  case round =>
    obtain ⟨k, r, c, hk, rfl, rfl, ho, k0, k1, hbel, hlw⟩ := hrel
    have HO := Lib.hid ho
    have HB := Lib.hid hbel
    by_cases hlt : k < m.length
    · obtain ⟨b9, o9, rv, cv, ha9, _, hb9, hr9, hrow⟩ := (HM.out.below hbel tm).row hlt
      subst ha9
      have hwz := hbel.size
      have hi1 : (k : Int) < (m.length : Int) := by omega
      have HVV := Lib.hid (HL.out.2 k hlt)
      have HVL := Lib.hid (isVec_iff.1 HVV.out).len
      have HRV := Lib.hid (hrow.below (below_drew wr) (Nat.le_trans tm hwz))
      have HTV : Hid (tpm ≤ wr.drew.heap.size) := Nat.le_trans tm hwz
      have HRR : Hid (RowIn w.heap.size wr.drew.heap.size wr.drew r (vrM pS S m k)) := ho.row.below (below_drew wr) (Nat.le_refl _)
      have hxd : b9 < wr.drew.heap.size := Nat.lt_of_lt_of_le hb9 (Nat.le_trans tm hwz)
      have hs1 : Hid (wr.drew.cell? ⟨w.heap.size, 0, none⟩ = some (.int .i64 pS) ∧ wr.drew.cell? ⟨w.heap.size, 1, none⟩ = some (.slice aS S.length cS) ∧ wr.drew.cell? ⟨b9, o9 + k, none⟩ = some (.slice rv (rw' m k).length cv)) := ⟨k0, k1, hr9⟩
      have HBD : Hid (Below w.heap.size w wr.drew) := hbel.drew
      have hd0 : w.heap.size < wr.drew.heap.size := hlw
      clear ho hbel hrow
      go_wp2
      go_region_held3 (fun w' => w'.cell? ⟨w.heap.size, 0, none⟩ = some (.int .i64 pS) ∧ w'.cell? ⟨w.heap.size, 1, none⟩ = some (.slice aS S.length cS) ∧ w'.cell? ⟨b9, o9 + k, none⟩ = some (.slice rv (rw' m k).length cv)) (first | exact hs1.out | exact SSa.out | exact SSab.out | go_keep) (first | (go_at_call 146; (with_reducible refine (l04Vector_any pS aS S cS rv (rw' m k) cv lom tpm wr.drew h6 HVL.out HRV.out HTV.out).mono ?_); rintro e wa ⟨ba, rfl, l_, u_, o_, b_⟩; have SSa := Lib.hid (ss3 b_ hd0 hxd hs1.out); have hxa := Nat.lt_of_lt_of_le hxd b_.size; have HBa := Lib.hid (below_step HBD.out (Nat.le_of_lt hd0) b_); have zz_ := b_.size; have HCa := Lib.hid b_; have hda := Nat.lt_of_lt_of_le hd0 zz_; have la := Nat.lt_of_lt_of_le hd0 l_; have ua_a := u_; have Na_a := Lib.hid o_; have Ra_a := Lib.hid ((o_.own (Nat.le_of_lt la) u_).row); clear b_ o_) | (go_at_call 116; (with_reducible refine (l04Times_vk pS aS S cS loS tpS r m k c w.heap.size wr.drew.heap.size ba w.heap.size wa.heap.size wa HI.out (HS.out.below HBa.out tS) (Nat.le_trans tS (HBa.out).size) (HRR.out.below HCa.out (Nat.le_refl _)) HCa.out.size Ra_a.out (Nat.le_refl _) HVV.out).mono ?_); rintro e wab ⟨rb, kb, rfl, o_, b_⟩; have SSab := Lib.hid (ss3 b_ hda hxa SSa.out); have hxab := Nat.lt_of_lt_of_le hxa b_.size; have HBab := Lib.hid (below_step HBa.out (Nat.le_of_lt hda) b_); have zz_ := b_.size; have HCab := Lib.hid (below_step HCa.out (HCa.out).size b_); have hdab := Nat.lt_of_lt_of_le hda zz_; have Ra_ab := Lib.hid ((Ra_a.out.below b_ (Nat.le_refl _)).mono (Nat.le_refl _) zz_); have Na_ab := Lib.hid (Na_a.out.stay (b_.block ba ua_a)); have ua_ab := Nat.lt_of_lt_of_le ua_a zz_; have Ob_ab := Lib.hid (OwnR.mono' o_ (Nat.le_of_lt hda) (Nat.le_refl _)); have Rb_ab := Lib.hid (Ob_ab.out.row); clear b_ o_))
      go_wp2
      go_roundw
      case rel => exact ⟨k + 1, rb, kb, by omega, rfl, by go_num, Ob_ab.out, SSab.out.1, SSab.out.2.1, HBab.out, hdab⟩
      case measure => simp [intOf]; omega
    · have hkn : k = m.length := by omega
      subst hkn
      clear ho hbel
      go_wp2
      go_ret
      exact ⟨r, c, rfl, HO.out, HB.out⟩

end Go.Proofs.YtgfanoejohpmkaaGreat
