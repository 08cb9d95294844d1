/-
  WedgeOfVectors: contracts of the program and of the model.
  Conditions: the lists are nil or rows of known cells, of at most 1048576 numbers.
-/
import Derived.Test.YtbnegbpapjcmhaaQa615
import Derived.Deep.RegionHeld3
import Derived.Deep.DeepCutAuto
namespace Go.Proofs.Ytbnegbpapjcmhaa
open Go.RowKit
set_option linter.unusedVariables false

/-- The wedge product of the first k vectors. -/
def wvM (p : Int) (S : List Int) (m : List (List Int)) : Nat → List Int
  | 0 => mOne S
  | k + 1 => wgM p S (wvM p S m k) (vecM S (rw' m k))
theorem wvM_len (p : Int) (S : List Int) (m : List (List Int)) : ∀ k, (wvM p S m k).length = bl S
  | 0 => by unfold wvM mOne; rw [mkR_len]
  | k + 1 => wgM_len _ _ _ _
theorem one_mv' {p : Int} {S : List Int} (hs : isSp p S = true) : isMv p S (mOne S) = true :=
  isMv_of (by unfold mOne; rw [mkR_len]) fun j hj => by
    have hp := prm_bd (isSp_iff.1 hs).prime
    unfold mOne at hj ⊢
    rw [mkR_len] at hj
    rw [mkR_at _ hj]
    unfold oneF
    split <;> omega
theorem kM_mv {p : Int} {S : List Int} (hs : isSp p S = true) (x y : List Int) : isMv p S (wgM p S x y) = true := kind_mv hs _ _ _
theorem wv_mv {p : Int} {S : List Int} (hs : isSp p S = true) (m : List (List Int)) : ∀ k, isMv p S (wvM p S m k) = true
  | 0 => one_mv' hs
  | k + 1 => kM_mv hs _ _
theorem vecF_bd {p : Int} (hp : 0 < p) {v : List Int} (hn : ∀ j, j < v.length → 0 ≤ v.getD j 0 ∧ v.getD j 0 < p) (b : Nat) : ∀ k, k ≤ v.length → 0 ≤ vecF v k b ∧ vecF v k b < p
  | 0, _ => by show 0 ≤ (0 : Int) ∧ (0 : Int) < p; omega
  | k + 1, h => by
    show 0 ≤ (if b = 2 ^ k then v.getD k 0 else vecF v k b) ∧ (if b = 2 ^ k then v.getD k 0 else vecF v k b) < p
    have h1 := hn k (by omega)
    have h2 := vecF_bd hp hn b k (by omega)
    split
    · exact h1
    · exact h2
theorem vec_mv' {p : Int} {S v : List Int} (hs : isSp p S = true) (hv : isVec p S.length v = true) : isMv p S (mkR (bl S) (vecF v v.length)) = true :=
  isMv_of (mkR_len _ _) fun j hj => by
    have hp := prm_bd (isSp_iff.1 hs).prime
    rw [mkR_len] at hj
    rw [mkR_at _ hj]
    exact vecF_bd (by omega) (fun i hi => (isVec_iff.1 hv).num (by rw [← (isVec_iff.1 hv).len]; exact hi)) j v.length (Nat.le_refl _)
theorem ss3 {B : Nat} {w w' : World} (h : Below B w w') {g b o : Nat} {u0 u1 u2 : Value} (l : g < B) (l2 : b < B) (h0 : w.cell? ⟨g, 0, none⟩ = some u0 ∧ w.cell? ⟨g, 1, none⟩ = some u1 ∧ w.cell? ⟨b, o, none⟩ = some u2) : w'.cell? ⟨g, 0, none⟩ = some u0 ∧ w'.cell? ⟨g, 1, none⟩ = some u1 ∧ w'.cell? ⟨b, o, none⟩ = some u2 :=
  ⟨(h.cell (p := ⟨g, 0, none⟩) l).trans h0.1, (h.cell (p := ⟨g, 1, none⟩) l).trans h0.2.1, (h.cell (p := ⟨b, o, none⟩) l2).trans h0.2.2⟩
theorem wedge_vec (pS : Int) (aS : Option Addr) (S : List Int) (cS loS tpS : Nat) (ax : Option Addr) (x : List Int) (cx lox tpx b lo tp : Nat) (v : List Int) (W : World) (hs : isSp pS S = true) (hS : RowIn loS tpS W aS S) (tS : tpS ≤ W.heap.size) (hx : RowIn lox tpx W ax x) (tx : tpx ≤ W.heap.size) (mx : isMv pS S x = true) (h : RowIn lo tp W (some ⟨b, 0, none⟩) (mkR (bl S) (vecF v v.length))) (th : tp ≤ W.heap.size) (hv : isVec pS S.length v = true) :
    Calls Try.prog 62 #[.agg #[.int .i64 pS, .slice aS S.length cS], .slice ax x.length cx, .slice (some ⟨b, 0, none⟩) (bl S) (bl S)] W (OwnE (wgM pS S x (vecM S v)) W) := by
  have q := wedge_own pS aS S cS loS tpS ax x cx lox tpx (some ⟨b, 0, none⟩) (mkR (bl S) (vecF v v.length)) (bl S) lo tp W hs hS tS hx tx mx h th (vec_mv' hs hv)
  rw [mkR_len] at q
  exact q

theorem l05Wedge_vec (pS : Int) (aS : Option Addr) (S : List Int) (cS loS tpS : Nat) (ax : Option Addr) (x : List Int) (cx lox tpx b lo tp : Nat) (v : List Int) (W : World) (hs : isSp pS S = true) (hS : RowIn loS tpS W aS S) (tS : tpS ≤ W.heap.size) (hx : RowIn lox tpx W ax x) (tx : tpx ≤ W.heap.size) (mx : isMv pS S x = true) (h : RowIn lo tp W (some ⟨b, 0, none⟩) (mkR (bl S) (vecF v v.length))) (th : tp ≤ W.heap.size) (hv : isVec pS S.length v = true) :
    Calls Try.prog 54 #[.agg #[.int .i64 pS, .slice aS S.length cS], .slice ax x.length cx, .slice (some ⟨b, 0, none⟩) (bl S) (bl S)] W (OwnE (wgM pS S x (vecM S v)) W) := by
  have q := l05Wedge_own pS aS S cS loS tpS ax x cx lox tpx (some ⟨b, 0, none⟩) (mkR (bl S) (vecF v v.length)) (bl S) lo tp W hs hS tS hx tx mx h th (vec_mv' hs hv)
  rw [mkR_len] at q
  exact q

set_option maxRecDepth 100000 in
set_option maxHeartbeats 3200000 in
theorem wedgeOfVectors_own (pS : Int) (aS : Option Addr) (S : List Int) (cS loS tpS : Nat) (am : Option Addr) (m : List (List Int)) (cm lom tpm : Nat) (w : World) (hs : isSp pS S = true) (hS : RowIn loS tpS w aS S) (tS : tpS ≤ w.heap.size) (hm : MatIn lom tpm w am m) (tm : tpm ≤ w.heap.size) (hl : listB pS S m = true) :
    Calls Try.prog 40 #[.agg #[.int .i64 pS, .slice aS S.length cS], .slice am m.length cm] w (OwnE (wvM pS S m m.length) w) := by
  have HI := Lib.hid hs
  have HS := Lib.hid hS
  have HM := Lib.hid hm
  have HL := Lib.hid (listB_iff hl)
  have h6 := (isSp_iff.1 hs).hi
  have hpb := prm_bd (isSp_iff.1 hs).prime
  have hbl := bl_le h6
  have hb0 := bl_pos S
  have hm16 := HL.out.1
  have HB0 := Lib.hid (below_alloc w (.cells #[.int .i64 pS, .slice aS S.length cS] 28))
  have k0 := nw0 w (.int .i64 pS) (.slice aS S.length cS) 28
  have k1 := nw1 w (.int .i64 pS) (.slice aS S.length cS) 28
  clear hs hS hm hl
  go_enter Try.func40, Try.ntmps40
  go_wp2_with (go_at_call 63; (with_reducible refine (blade0_any pS aS S cS _ h6).mono ?_); rintro e w1 ⟨r1, c1, rfl, o1, b1⟩; have O1 := Lib.hid (OwnR.mono' o1 (size_alloc w (.cells #[.int .i64 pS, .slice aS S.length cS] 28)) (Nat.le_refl _)); have HB1 := Lib.hid (below_step HB0.out (size_alloc w (.cells #[.int .i64 pS, .slice aS S.length cS] 28)) b1); have k01 := (b1.cell (p := ⟨w.heap.size, 0, none⟩) (lt_alloc w (.cells #[.int .i64 pS, .slice aS S.length cS] 28))).trans k0; have k11 := (b1.cell (p := ⟨w.heap.size, 1, none⟩) (lt_alloc w (.cells #[.int .i64 pS, .slice aS S.length cS] 28))).trans k1; have hw1 := Nat.lt_of_lt_of_le (lt_alloc w (.cells #[.int .i64 pS, .slice aS S.length cS] 28)) b1.size; clear o1 b1 k0 k1)
  go_loopw [5, 12] (fun u t wr => ∃ (k : Nat) (r : Option Addr) (c : Nat), k ≤ m.length ∧ u = .slice r (wvM pS S m k).length c ∧ t = .int .i64 k ∧ OwnR w.heap.size wr.heap.size wr r (wvM pS S m k) ∧ wr.cell? ⟨w.heap.size, 0, none⟩ = some (.int .i64 pS) ∧ wr.cell? ⟨w.heap.size, 1, none⟩ = some (.slice aS S.length cS) ∧ Below w.heap.size w wr ∧ w.heap.size < wr.heap.size) (fun _ t _ => m.length - (intOf t).toNat)
  case atStart => exact ⟨0, r1, c1, Nat.zero_le _, rfl, rfl, O1.out, k01, k11, HB1.out, hw1⟩
  case round =>
    obtain ⟨k, r, c, hk, rfl, rfl, ho, k0, k1, hbel, hlw⟩ := hrel
    have HO := Lib.hid ho
    have HB := Lib.hid hbel
    by_cases hlt : k < m.length
    · obtain ⟨b9, o9, rv, cv, ha9, _, hb9, hr9, hrow⟩ := (HM.out.below hbel tm).row hlt
      subst ha9
      have hwz := hbel.size
      have hi1 : (k : Int) < (m.length : Int) := by omega
      have HVV := Lib.hid (HL.out.2 k hlt)
      have HVL := Lib.hid (isVec_iff.1 HVV.out).len
      have HRV := Lib.hid (hrow.below (below_drew wr) (Nat.le_trans tm hwz))
      have HTV : Hid (tpm ≤ wr.drew.heap.size) := Nat.le_trans tm hwz
      have HRR : Hid (RowIn w.heap.size wr.drew.heap.size wr.drew r (wvM pS S m k)) := ho.row.below (below_drew wr) (Nat.le_refl _)
      have hxd : b9 < wr.drew.heap.size := Nat.lt_of_lt_of_le hb9 (Nat.le_trans tm hwz)
      have hs1 : Hid (wr.drew.cell? ⟨w.heap.size, 0, none⟩ = some (.int .i64 pS) ∧ wr.drew.cell? ⟨w.heap.size, 1, none⟩ = some (.slice aS S.length cS)) := ⟨k0, k1⟩
      have HBD : Hid (Below w.heap.size w wr.drew) := hbel.drew
      have hd0 : w.heap.size < wr.drew.heap.size := hlw
      clear ho hbel hrow
      go_wp2
      go_region_held3 (fun w' => w'.cell? ⟨w.heap.size, 0, none⟩ = some (.int .i64 pS) ∧ w'.cell? ⟨w.heap.size, 1, none⟩ = some (.slice aS S.length cS)) (first | exact hs1.out | exact SSa.out | exact SSab.out | go_keep) (first | (go_at_call 67; (with_reducible refine (vector_any pS aS S cS rv (rw' m k) cv lom tpm wr.drew h6 HVL.out HRV.out HTV.out).mono ?_); rintro e wa ⟨ba, rfl, l_, u_, o_, b_⟩; have SSa := Lib.hid (ss2 b_ hd0 hs1.out); have HBa := Lib.hid (below_step HBD.out (Nat.le_of_lt hd0) b_); have zz_ := b_.size; have HCa := Lib.hid b_; have hda := Nat.lt_of_lt_of_le hd0 zz_; have la := Nat.lt_of_lt_of_le hd0 l_; have ua_a := u_; have Na_a := Lib.hid o_; have Ra_a := Lib.hid ((o_.own (Nat.le_of_lt la) u_).row); clear b_ o_) | (go_at_call 62; (with_reducible refine (wedge_vec pS aS S cS loS tpS r (wvM pS S m k) c w.heap.size wr.drew.heap.size ba w.heap.size wa.heap.size (rw' m k) wa HI.out (HS.out.below HBa.out tS) (Nat.le_trans tS (HBa.out).size) (HRR.out.below HCa.out (Nat.le_refl _)) HCa.out.size (wv_mv HI.out m k) Ra_a.out (Nat.le_refl _) HVV.out).mono ?_); rintro e wab ⟨rb, kb, rfl, o_, b_⟩; have SSab := Lib.hid (ss2 b_ hda SSa.out); have HBab := Lib.hid (below_step HBa.out (Nat.le_of_lt hda) b_); have zz_ := b_.size; have HCab := Lib.hid (below_step HCa.out (HCa.out).size b_); have hdab := Nat.lt_of_lt_of_le hda zz_; have Ra_ab := Lib.hid ((Ra_a.out.below b_ (Nat.le_refl _)).mono (Nat.le_refl _) zz_); have Na_ab := Lib.hid (Na_a.out.stay (b_.block ba ua_a)); have ua_ab := Nat.lt_of_lt_of_le ua_a zz_; have Ob_ab := Lib.hid (OwnR.mono' o_ (Nat.le_of_lt hda) (Nat.le_refl _)); have Rb_ab := Lib.hid (Ob_ab.out.row); clear b_ o_))
      go_wp2
      go_roundw
      case rel => exact ⟨k + 1, rb, kb, by omega, rfl, by go_num, Ob_ab.out, SSab.out.1, SSab.out.2, HBab.out, hdab⟩
      case measure => simp [intOf]; omega
    · have hkn : k = m.length := by omega
      subst hkn
      clear ho hbel
      go_wp2
      go_ret
      exact ⟨r, c, rfl, HO.out, HB.out⟩

set_option maxRecDepth 100000 in
set_option maxHeartbeats 3200000 in
theorem l05Vectors_own (pS : Int) (aS : Option Addr) (S : List Int) (cS loS tpS : Nat) (am : Option Addr) (m : List (List Int)) (cm lom tpm : Nat) (w : World) (hs : isSp pS S = true) (hS : RowIn loS tpS w aS S) (tS : tpS ≤ w.heap.size) (hm : MatIn lom tpm w am m) (tm : tpm ≤ w.heap.size) (hl : listB pS S m = true) :
    Calls Try.prog 44 #[.agg #[.int .i64 pS, .slice aS S.length cS], .slice am m.length cm] w (OwnE (wvM pS S m m.length) w) := by
  have HI := Lib.hid hs
  have HS := Lib.hid hS
  have HM := Lib.hid hm
  have HL := Lib.hid (listB_iff hl)
  have h6 := (isSp_iff.1 hs).hi
  have hpb := prm_bd (isSp_iff.1 hs).prime
  have hbl := bl_le h6
  have hb0 := bl_pos S
  have hm16 := HL.out.1
  have HB0 := Lib.hid (below_alloc w (.cells #[.int .i64 pS, .slice aS S.length cS] 28))
  have k0 := nw0 w (.int .i64 pS) (.slice aS S.length cS) 28
  have k1 := nw1 w (.int .i64 pS) (.slice aS S.length cS) 28
  clear hs hS hm hl
  go_enter Try.func44, Try.ntmps44
  go_wp2_with (go_at_call 69; (with_reducible refine (l04One_any pS aS S cS _ h6).mono ?_); rintro e w1 ⟨r1, c1, rfl, o1, b1⟩; have O1 := Lib.hid (OwnR.mono' o1 (size_alloc w (.cells #[.int .i64 pS, .slice aS S.length cS] 28)) (Nat.le_refl _)); have HB1 := Lib.hid (below_step HB0.out (size_alloc w (.cells #[.int .i64 pS, .slice aS S.length cS] 28)) b1); have k01 := (b1.cell (p := ⟨w.heap.size, 0, none⟩) (lt_alloc w (.cells #[.int .i64 pS, .slice aS S.length cS] 28))).trans k0; have k11 := (b1.cell (p := ⟨w.heap.size, 1, none⟩) (lt_alloc w (.cells #[.int .i64 pS, .slice aS S.length cS] 28))).trans k1; have hw1 := Nat.lt_of_lt_of_le (lt_alloc w (.cells #[.int .i64 pS, .slice aS S.length cS] 28)) b1.size; clear o1 b1 k0 k1)
  go_loopw [5, 6] (fun u t wr => ∃ (k : Nat) (r : Option Addr) (c : Nat), k ≤ m.length ∧ u = .slice r (wvM pS S m k).length c ∧ t = .int .i64 k ∧ OwnR w.heap.size wr.heap.size wr r (wvM pS S m k) ∧ wr.cell? ⟨w.heap.size, 0, none⟩ = some (.int .i64 pS) ∧ wr.cell? ⟨w.heap.size, 1, none⟩ = some (.slice aS S.length cS) ∧ Below w.heap.size w wr ∧ w.heap.size < wr.heap.size) (fun _ t _ => m.length - (intOf t).toNat)
  case atStart => exact ⟨0, r1, c1, Nat.zero_le _, rfl, rfl, O1.out, k01, k11, HB1.out, hw1⟩
  case round =>
    obtain ⟨k, r, c, hk, rfl, rfl, ho, k0, k1, hbel, hlw⟩ := hrel
    have HO := Lib.hid ho
    have HB := Lib.hid hbel
    by_cases hlt : k < m.length
    · obtain ⟨b9, o9, rv, cv, ha9, _, hb9, hr9, hrow⟩ := (HM.out.below hbel tm).row hlt
      subst ha9
      have hwz := hbel.size
      have hi1 : (k : Int) < (m.length : Int) := by omega
      have HVV := Lib.hid (HL.out.2 k hlt)
      have HVL := Lib.hid (isVec_iff.1 HVV.out).len
      have HRV := Lib.hid (hrow.below (below_drew wr) (Nat.le_trans tm hwz))
      have HTV : Hid (tpm ≤ wr.drew.heap.size) := Nat.le_trans tm hwz
      have HRR : Hid (RowIn w.heap.size wr.drew.heap.size wr.drew r (wvM pS S m k)) := ho.row.below (below_drew wr) (Nat.le_refl _)
      have hxd : b9 < wr.drew.heap.size := Nat.lt_of_lt_of_le hb9 (Nat.le_trans tm hwz)
      have hs1 : Hid (wr.drew.cell? ⟨w.heap.size, 0, none⟩ = some (.int .i64 pS) ∧ wr.drew.cell? ⟨w.heap.size, 1, none⟩ = some (.slice aS S.length cS) ∧ wr.drew.cell? ⟨b9, o9 + k, none⟩ = some (.slice rv (rw' m k).length cv)) := ⟨k0, k1, hr9⟩
      have HBD : Hid (Below w.heap.size w wr.drew) := hbel.drew
      have hd0 : w.heap.size < wr.drew.heap.size := hlw
      clear ho hbel hrow
      go_wp2
      go_region_held3 (fun w' => w'.cell? ⟨w.heap.size, 0, none⟩ = some (.int .i64 pS) ∧ w'.cell? ⟨w.heap.size, 1, none⟩ = some (.slice aS S.length cS) ∧ w'.cell? ⟨b9, o9 + k, none⟩ = some (.slice rv (rw' m k).length cv)) (first | exact hs1.out | exact SSa.out | exact SSab.out | go_keep) (first | (go_at_call 55; (with_reducible refine (l04Vector_any pS aS S cS rv (rw' m k) cv lom tpm wr.drew h6 HVL.out HRV.out HTV.out).mono ?_); rintro e wa ⟨ba, rfl, l_, u_, o_, b_⟩; have SSa := Lib.hid (ss3 b_ hd0 hxd hs1.out); have hxa := Nat.lt_of_lt_of_le hxd b_.size; have HBa := Lib.hid (below_step HBD.out (Nat.le_of_lt hd0) b_); have zz_ := b_.size; have HCa := Lib.hid b_; have hda := Nat.lt_of_lt_of_le hd0 zz_; have la := Nat.lt_of_lt_of_le hd0 l_; have ua_a := u_; have Na_a := Lib.hid o_; have Ra_a := Lib.hid ((o_.own (Nat.le_of_lt la) u_).row); clear b_ o_) | (go_at_call 54; (with_reducible refine (l05Wedge_vec pS aS S cS loS tpS r (wvM pS S m k) c w.heap.size wr.drew.heap.size ba w.heap.size wa.heap.size (rw' m k) wa HI.out (HS.out.below HBa.out tS) (Nat.le_trans tS (HBa.out).size) (HRR.out.below HCa.out (Nat.le_refl _)) HCa.out.size (wv_mv HI.out m k) Ra_a.out (Nat.le_refl _) HVV.out).mono ?_); rintro e wab ⟨rb, kb, rfl, o_, b_⟩; have SSab := Lib.hid (ss3 b_ hda hxa SSa.out); have hxab := Nat.lt_of_lt_of_le hxa b_.size; have HBab := Lib.hid (below_step HBa.out (Nat.le_of_lt hda) b_); have zz_ := b_.size; have HCab := Lib.hid (below_step HCa.out (HCa.out).size b_); have hdab := Nat.lt_of_lt_of_le hda zz_; have Ra_ab := Lib.hid ((Ra_a.out.below b_ (Nat.le_refl _)).mono (Nat.le_refl _) zz_); have Na_ab := Lib.hid (Na_a.out.stay (b_.block ba ua_a)); have ua_ab := Nat.lt_of_lt_of_le ua_a zz_; have Ob_ab := Lib.hid (OwnR.mono' o_ (Nat.le_of_lt hda) (Nat.le_refl _)); have Rb_ab := Lib.hid (Ob_ab.out.row); clear b_ o_))
      go_wp2
      go_roundw
      case rel => exact ⟨k + 1, rb, kb, by omega, rfl, by go_num, Ob_ab.out, SSab.out.1, SSab.out.2.1, HBab.out, hdab⟩
      case measure => simp [intOf]; omega
    · have hkn : k = m.length := by omega
      subst hkn
      clear ho hbel
      go_wp2
      go_ret
      exact ⟨r, c, rfl, HO.out, HB.out⟩

set_option maxRecDepth 100000 in
set_option maxHeartbeats 1600000 in
theorem l05List_any (pS : Int) (aS : Option Addr) (S : List Int) (cS loS tpS : Nat) (am : Option Addr) (m : List (List Int)) (cm lom tpm : Nat) (w : World) (hS : RowIn loS tpS w aS S) (tS : tpS ≤ w.heap.size) (sS : S.length ≤ 1048576) (hm : MatIn lom tpm w am m) (tm : tpm ≤ w.heap.size) (sm : m.length ≤ 1048576) (sr : ∀ i, i < m.length → (rw' m i).length ≤ 1048576) :
    Calls Try.prog 26 #[.agg #[.int .i64 pS, .slice aS S.length cS], .slice am m.length cm] w fun e w' => e = .returned (.int .i64 (codeL pS S m)) ∧ Below w.heap.size w w' := by
  have HS := Lib.hid hS
  have Hm := Lib.hid hm
  have HSR := Lib.hid sr
  clear hS hm sr
  rcases codeL_cases pS S m with ⟨hi, hc⟩ | ⟨hi, hl, hc⟩ | ⟨hi, hl, hc⟩
  · have HI := Lib.hid hi
    have HC := Lib.hid hc
    clear hi hc
    go_enter Try.func26, Try.ntmps26
    go_wp2_with (first | (go_at_call 30; (with_reducible refine (l03Is_any pS aS S cS loS tpS _ (HS.out.below ((Below.refl _ _).alloc (Nat.le_refl _) (.cells #[.int .i64 pS, .slice aS S.length cS] 28)) tS) (Nat.le_trans tS (((Below.refl _ _).alloc (Nat.le_refl _) (.cells #[.int .i64 pS, .slice aS S.length cS] 28))).size) sS).mono ?_); rintro e w2 ⟨rfl, b2⟩; rw [HI.out]; have B2 := Lib.hid b2; have K2_0_0 := (b2.cell (p := ⟨w.heap.size, 0, none⟩) (Nat.lt_of_lt_of_le (show w.heap.size < (w.alloc (.cells #[.int .i64 pS, .slice aS S.length cS] 28)).heap.size by simp) (Nat.le_refl _))).trans (show (w.alloc (.cells #[.int .i64 pS, .slice aS S.length cS] 28)).cell? ⟨w.heap.size, 0, none⟩ = some (.int .i64 pS) by simp [go_sem]); have K2_0_1 := (b2.cell (p := ⟨w.heap.size, 1, none⟩) (Nat.lt_of_lt_of_le (show w.heap.size < (w.alloc (.cells #[.int .i64 pS, .slice aS S.length cS] 28)).heap.size by simp) (Nat.le_refl _))).trans (show (w.alloc (.cells #[.int .i64 pS, .slice aS S.length cS] 28)).cell? ⟨w.heap.size, 1, none⟩ = some (.slice aS S.length cS) by simp [go_sem]); clear b2))
    go_ret
    exact ⟨by rw [HC.out]; rfl, (below_step ((Below.refl _ _).alloc (Nat.le_refl _) (.cells #[.int .i64 pS, .slice aS S.length cS] 28)) (show w.heap.size ≤ (w.alloc (.cells #[.int .i64 pS, .slice aS S.length cS] 28)).heap.size from (((Below.refl _ _).alloc (Nat.le_refl _) (.cells #[.int .i64 pS, .slice aS S.length cS] 28))).size) B2.out)⟩
  · have HI := Lib.hid hi
    have HC := Lib.hid hc
    have HL := Lib.hid hl
    clear hi hc hl
    go_enter Try.func26, Try.ntmps26
    go_wp2_with (first | (go_at_call 30; (with_reducible refine (l03Is_any pS aS S cS loS tpS _ (HS.out.below ((Below.refl _ _).alloc (Nat.le_refl _) (.cells #[.int .i64 pS, .slice aS S.length cS] 28)) tS) (Nat.le_trans tS (((Below.refl _ _).alloc (Nat.le_refl _) (.cells #[.int .i64 pS, .slice aS S.length cS] 28))).size) sS).mono ?_); rintro e w2 ⟨rfl, b2⟩; rw [HI.out]; have B2 := Lib.hid b2; have K2_0_0 := (b2.cell (p := ⟨w.heap.size, 0, none⟩) (Nat.lt_of_lt_of_le (show w.heap.size < (w.alloc (.cells #[.int .i64 pS, .slice aS S.length cS] 28)).heap.size by simp) (Nat.le_refl _))).trans (show (w.alloc (.cells #[.int .i64 pS, .slice aS S.length cS] 28)).cell? ⟨w.heap.size, 0, none⟩ = some (.int .i64 pS) by simp [go_sem]); have K2_0_1 := (b2.cell (p := ⟨w.heap.size, 1, none⟩) (Nat.lt_of_lt_of_le (show w.heap.size < (w.alloc (.cells #[.int .i64 pS, .slice aS S.length cS] 28)).heap.size by simp) (Nat.le_refl _))).trans (show (w.alloc (.cells #[.int .i64 pS, .slice aS S.length cS] 28)).cell? ⟨w.heap.size, 1, none⟩ = some (.slice aS S.length cS) by simp [go_sem]); clear b2) | (go_at_call 43; (with_reducible refine (l03List_any pS aS S cS am m cm lom tpm _ (isSp_iff.1 HI.out).prime sS (Hm.out.below (below_step ((Below.refl _ _).alloc (Nat.le_refl _) (.cells #[.int .i64 pS, .slice aS S.length cS] 28)) (show w.heap.size ≤ (w.alloc (.cells #[.int .i64 pS, .slice aS S.length cS] 28)).heap.size from (((Below.refl _ _).alloc (Nat.le_refl _) (.cells #[.int .i64 pS, .slice aS S.length cS] 28))).size) B2.out) tm) (Nat.le_trans tm ((below_step ((Below.refl _ _).alloc (Nat.le_refl _) (.cells #[.int .i64 pS, .slice aS S.length cS] 28)) (show w.heap.size ≤ (w.alloc (.cells #[.int .i64 pS, .slice aS S.length cS] 28)).heap.size from (((Below.refl _ _).alloc (Nat.le_refl _) (.cells #[.int .i64 pS, .slice aS S.length cS] 28))).size) B2.out)).size) sm HSR.out).mono ?_); rintro e w3 ⟨rfl, b3⟩; rw [HL.out]; have B3 := Lib.hid b3; have K3_0_0 := (b3.cell (p := ⟨w.heap.size, 0, none⟩) (Nat.lt_of_lt_of_le (show w.heap.size < (w.alloc (.cells #[.int .i64 pS, .slice aS S.length cS] 28)).heap.size by simp) (Nat.le_trans (Nat.le_refl _) B2.out.size))).trans K2_0_0; clear K2_0_0; have K3_0_1 := (b3.cell (p := ⟨w.heap.size, 1, none⟩) (Nat.lt_of_lt_of_le (show w.heap.size < (w.alloc (.cells #[.int .i64 pS, .slice aS S.length cS] 28)).heap.size by simp) (Nat.le_trans (Nat.le_refl _) B2.out.size))).trans K2_0_1; clear K2_0_1; clear b3))
    go_ret
    exact ⟨by rw [HC.out]; rfl, (below_step (below_step ((Below.refl _ _).alloc (Nat.le_refl _) (.cells #[.int .i64 pS, .slice aS S.length cS] 28)) (show w.heap.size ≤ (w.alloc (.cells #[.int .i64 pS, .slice aS S.length cS] 28)).heap.size from (((Below.refl _ _).alloc (Nat.le_refl _) (.cells #[.int .i64 pS, .slice aS S.length cS] 28))).size) B2.out) (show w.heap.size ≤ w2.heap.size from ((below_step ((Below.refl _ _).alloc (Nat.le_refl _) (.cells #[.int .i64 pS, .slice aS S.length cS] 28)) (show w.heap.size ≤ (w.alloc (.cells #[.int .i64 pS, .slice aS S.length cS] 28)).heap.size from (((Below.refl _ _).alloc (Nat.le_refl _) (.cells #[.int .i64 pS, .slice aS S.length cS] 28))).size) B2.out)).size) B3.out)⟩
  · have HI := Lib.hid hi
    have HC := Lib.hid hc
    have HL := Lib.hid hl
    clear hi hc hl
    go_enter Try.func26, Try.ntmps26
    go_wp2_with (first | (go_at_call 30; (with_reducible refine (l03Is_any pS aS S cS loS tpS _ (HS.out.below ((Below.refl _ _).alloc (Nat.le_refl _) (.cells #[.int .i64 pS, .slice aS S.length cS] 28)) tS) (Nat.le_trans tS (((Below.refl _ _).alloc (Nat.le_refl _) (.cells #[.int .i64 pS, .slice aS S.length cS] 28))).size) sS).mono ?_); rintro e w2 ⟨rfl, b2⟩; rw [HI.out]; have B2 := Lib.hid b2; have K2_0_0 := (b2.cell (p := ⟨w.heap.size, 0, none⟩) (Nat.lt_of_lt_of_le (show w.heap.size < (w.alloc (.cells #[.int .i64 pS, .slice aS S.length cS] 28)).heap.size by simp) (Nat.le_refl _))).trans (show (w.alloc (.cells #[.int .i64 pS, .slice aS S.length cS] 28)).cell? ⟨w.heap.size, 0, none⟩ = some (.int .i64 pS) by simp [go_sem]); have K2_0_1 := (b2.cell (p := ⟨w.heap.size, 1, none⟩) (Nat.lt_of_lt_of_le (show w.heap.size < (w.alloc (.cells #[.int .i64 pS, .slice aS S.length cS] 28)).heap.size by simp) (Nat.le_refl _))).trans (show (w.alloc (.cells #[.int .i64 pS, .slice aS S.length cS] 28)).cell? ⟨w.heap.size, 1, none⟩ = some (.slice aS S.length cS) by simp [go_sem]); clear b2) | (go_at_call 43; (with_reducible refine (l03List_any pS aS S cS am m cm lom tpm _ (isSp_iff.1 HI.out).prime sS (Hm.out.below (below_step ((Below.refl _ _).alloc (Nat.le_refl _) (.cells #[.int .i64 pS, .slice aS S.length cS] 28)) (show w.heap.size ≤ (w.alloc (.cells #[.int .i64 pS, .slice aS S.length cS] 28)).heap.size from (((Below.refl _ _).alloc (Nat.le_refl _) (.cells #[.int .i64 pS, .slice aS S.length cS] 28))).size) B2.out) tm) (Nat.le_trans tm ((below_step ((Below.refl _ _).alloc (Nat.le_refl _) (.cells #[.int .i64 pS, .slice aS S.length cS] 28)) (show w.heap.size ≤ (w.alloc (.cells #[.int .i64 pS, .slice aS S.length cS] 28)).heap.size from (((Below.refl _ _).alloc (Nat.le_refl _) (.cells #[.int .i64 pS, .slice aS S.length cS] 28))).size) B2.out)).size) sm HSR.out).mono ?_); rintro e w3 ⟨rfl, b3⟩; rw [HL.out]; have B3 := Lib.hid b3; have K3_0_0 := (b3.cell (p := ⟨w.heap.size, 0, none⟩) (Nat.lt_of_lt_of_le (show w.heap.size < (w.alloc (.cells #[.int .i64 pS, .slice aS S.length cS] 28)).heap.size by simp) (Nat.le_trans (Nat.le_refl _) B2.out.size))).trans K2_0_0; clear K2_0_0; have K3_0_1 := (b3.cell (p := ⟨w.heap.size, 1, none⟩) (Nat.lt_of_lt_of_le (show w.heap.size < (w.alloc (.cells #[.int .i64 pS, .slice aS S.length cS] 28)).heap.size by simp) (Nat.le_trans (Nat.le_refl _) B2.out.size))).trans K2_0_1; clear K2_0_1; clear b3))
    go_ret
    exact ⟨by rw [HC.out]; rfl, (below_step (below_step ((Below.refl _ _).alloc (Nat.le_refl _) (.cells #[.int .i64 pS, .slice aS S.length cS] 28)) (show w.heap.size ≤ (w.alloc (.cells #[.int .i64 pS, .slice aS S.length cS] 28)).heap.size from (((Below.refl _ _).alloc (Nat.le_refl _) (.cells #[.int .i64 pS, .slice aS S.length cS] 28))).size) B2.out) (show w.heap.size ≤ w2.heap.size from ((below_step ((Below.refl _ _).alloc (Nat.le_refl _) (.cells #[.int .i64 pS, .slice aS S.length cS] 28)) (show w.heap.size ≤ (w.alloc (.cells #[.int .i64 pS, .slice aS S.length cS] 28)).heap.size from (((Below.refl _ _).alloc (Nat.le_refl _) (.cells #[.int .i64 pS, .slice aS S.length cS] 28))).size) B2.out)).size) B3.out)⟩

theorem codeL_sp' {p : Int} {S : List Int} {m : List (List Int)} (h : codeL p S m = 0) : S.length ≤ 6 := by
  rcases codeL_cases p S m with ⟨_, hc⟩ | ⟨hi, _, _⟩ | ⟨hi, _, _⟩
  · rw [hc] at h; cases h
  · exact (isSp_iff.1 hi).hi
  · exact (isSp_iff.1 hi).hi
end Go.Proofs.Ytbnegbpapjcmhaa
