/-
  Contracts and facts that the walk of the law rests on.
  Conditions: those that each theorem names.
-/
import Derived.Test.YtgfanoejohpmkaaGreatQp21
import Derived.Test.YtgfanoejohpmkaaGreatQp15
import Derived.Test.YtgfanoejohpmkaaGreatQp11
import Derived.Deep.RegionHeld3
import Derived.Deep.DeepCutAuto
import Derived.Test.YtgfanoejohpmkaaGreatQp9
import Derived.Laws.AppendOwn
import Derived.Test.YtgfanoejohpmkaaGreatQp3
import Derived.BigQuiet
import Derived.Test.YtgfanoejohpmkaaGreatQp7
import Derived.ChangeKeysEq
import Derived.Laws.StructEq
import Derived.Test.YtgfanoejohpmkaaGreatQp6
import Derived.Test.YtgfanoejohpmkaaGreatQp2
import Derived.RegionTactic
import Derived.ChangeAlike
import Derived.Test.YtgfanoejohpmkaaGreatQp1
namespace Go.Proofs.YtgfanoejohpmkaaGreat
open Go.RowKit
set_option linter.unusedVariables false
def wvM (p : Int) (S : List Int) (m : List (List Int)) : Nat → List Int
 | 0 => mOne S
 | k + 1 => wgM p S (wvM p S m k) (vecM S (rw' m k))
theorem wvM_len (p : Int) (S : List Int) (m : List (List Int)) : ∀ k, (wvM p S m k).length = bl S
 | 0 => by unfold wvM mOne; rw [mkR_len]
 | k + 1 => wgM_len _ _ _ _
theorem one_mv' {p : Int} {S : List Int} (hs : isSp p S = true) : isMv p S (mOne S) = true :=
 isMv_of (by unfold mOne; rw [mkR_len]) fun j hj => by
  have hp := prm_bd (isSp_iff.1 hs).prime
  unfold mOne at hj ⊢
  rw [mkR_len] at hj
  rw [mkR_at _ hj]
  unfold oneF
  split <;> omega
theorem kM_mv {p : Int} {S : List Int} (hs : isSp p S = true) (x y : List Int) : isMv p S (wgM p S x y) = true := kind_mv hs _ _ _
theorem wv_mv {p : Int} {S : List Int} (hs : isSp p S = true) (m : List (List Int)) : ∀ k, isMv p S (wvM p S m k) = true
 | 0 => one_mv' hs
 | k + 1 => kM_mv hs _ _
theorem vecF_bd {p : Int} (hp : 0 < p) {v : List Int} (hn : ∀ j, j < v.length → 0 ≤ v.getD j 0 ∧ v.getD j 0 < p) (b : Nat) : ∀ k, k ≤ v.length → 0 ≤ vecF v k b ∧ vecF v k b < p
 | 0, _ => by show 0 ≤ (0 : Int) ∧ (0 : Int) < p; omega
 | k + 1, h => by
  show 0 ≤ (if b = 2 ^ k then v.getD k 0 else vecF v k b) ∧ (if b = 2 ^ k then v.getD k 0 else vecF v k b) < p
  have h1 := hn k (by omega)
  have h2 := vecF_bd hp hn b k (by omega)
  split
  · exact h1
  · exact h2
theorem vec_mv' {p : Int} {S v : List Int} (hs : isSp p S = true) (hv : isVec p S.length v = true) : isMv p S (mkR (bl S) (vecF v v.length)) = true :=
 isMv_of (mkR_len _ _) fun j hj => by
  have hp := prm_bd (isSp_iff.1 hs).prime
  rw [mkR_len] at hj
  rw [mkR_at _ hj]
  exact vecF_bd (by omega) (fun i hi => (isVec_iff.1 hv).num (by rw [← (isVec_iff.1 hv).len]; exact hi)) j v.length (Nat.le_refl _)
theorem ss3 {B : Nat} {w w' : World} (h : Below B w w') {g b o : Nat} {u0 u1 u2 : Value} (l : g < B) (l2 : b < B) (h0 : w.cell? ⟨g, 0, none⟩ = some u0 ∧ w.cell? ⟨g, 1, none⟩ = some u1 ∧ w.cell? ⟨b, o, none⟩ = some u2) : w'.cell? ⟨g, 0, none⟩ = some u0 ∧ w'.cell? ⟨g, 1, none⟩ = some u1 ∧ w'.cell? ⟨b, o, none⟩ = some u2 :=
 ⟨(h.cell (p := ⟨g, 0, none⟩) l).trans h0.1, (h.cell (p := ⟨g, 1, none⟩) l).trans h0.2.1, (h.cell (p := ⟨b, o, none⟩) l2).trans h0.2.2⟩
theorem wedge_vec (pS : Int) (aS : Option Addr) (S : List Int) (cS loS tpS : Nat) (ax : Option Addr) (x : List Int) (cx lox tpx b lo tp : Nat) (v : List Int) (W : World) (hs : isSp pS S = true) (hS : RowIn loS tpS W aS S) (tS : tpS ≤ W.heap.size) (hx : RowIn lox tpx W ax x) (tx : tpx ≤ W.heap.size) (mx : isMv pS S x = true) (h : RowIn lo tp W (some ⟨b, 0, none⟩) (mkR (bl S) (vecF v v.length))) (th : tp ≤ W.heap.size) (hv : isVec pS S.length v = true) :
 Calls Tryz.prog 168 #[.agg #[.int .i64 pS, .slice aS S.length cS], .slice ax x.length cx, .slice (some ⟨b, 0, none⟩) (bl S) (bl S)] W (OwnE (wgM pS S x (vecM S v)) W) := by
 have q := wedge_own pS aS S cS loS tpS ax x cx lox tpx (some ⟨b, 0, none⟩) (mkR (bl S) (vecF v v.length)) (bl S) lo tp W hs hS tS hx tx mx h th (vec_mv' hs hv)
 rw [mkR_len] at q
 exact q
theorem l05Wedge_vec (pS : Int) (aS : Option Addr) (S : List Int) (cS loS tpS : Nat) (ax : Option Addr) (x : List Int) (cx lox tpx b lo tp : Nat) (v : List Int) (W : World) (hs : isSp pS S = true) (hS : RowIn loS tpS W aS S) (tS : tpS ≤ W.heap.size) (hx : RowIn lox tpx W ax x) (tx : tpx ≤ W.heap.size) (mx : isMv pS S x = true) (h : RowIn lo tp W (some ⟨b, 0, none⟩) (mkR (bl S) (vecF v v.length))) (th : tp ≤ W.heap.size) (hv : isVec pS S.length v = true) :
 Calls Tryz.prog 145 #[.agg #[.int .i64 pS, .slice aS S.length cS], .slice ax x.length cx, .slice (some ⟨b, 0, none⟩) (bl S) (bl S)] W (OwnE (wgM pS S x (vecM S v)) W) := by
 have q := l05Wedge_own pS aS S cS loS tpS ax x cx lox tpx (some ⟨b, 0, none⟩) (mkR (bl S) (vecF v v.length)) (bl S) lo tp W hs hS tS hx tx mx h th (vec_mv' hs hv)
 rw [mkR_len] at q
 exact q
set_option maxRecDepth 100000 in
set_option maxHeartbeats 3200000 in
theorem wedgeOfVectors_own (pS : Int) (aS : Option Addr) (S : List Int) (cS loS tpS : Nat) (am : Option Addr) (m : List (List Int)) (cm lom tpm : Nat) (w : World) (hs : isSp pS S = true) (hS : RowIn loS tpS w aS S) (tS : tpS ≤ w.heap.size) (hm : MatIn lom tpm w am m) (tm : tpm ≤ w.heap.size) (hl : listB pS S m = true) :
 Calls Tryz.prog 147 #[.agg #[.int .i64 pS, .slice aS S.length cS], .slice am m.length cm] w (OwnE (wvM pS S m m.length) w) := by
 have HI := Lib.hid hs
 have HS := Lib.hid hS
 have HM := Lib.hid hm
 have HL := Lib.hid (listB_iff hl)
 have h6 := (isSp_iff.1 hs).hi
 have hpb := prm_bd (isSp_iff.1 hs).prime
 have hbl := bl_le h6
 have hb0 := bl_pos S
 have hm16 := HL.out.1
 have HB0 := Lib.hid (below_alloc w (.cells #[.int .i64 pS, .slice aS S.length cS] 26))
 have k0 := nw0 w (.int .i64 pS) (.slice aS S.length cS) 26
 have k1 := nw1 w (.int .i64 pS) (.slice aS S.length cS) 26
 clear hs hS hm hl
 go_enter Tryz.func147, Tryz.ntmps147
 go_wp2_with (go_at_call 183; (with_reducible refine (blade0_any pS aS S cS _ h6).mono ?_); rintro e w1 ⟨r1, c1, rfl, o1, b1⟩; have O1 := Lib.hid (OwnR.mono' o1 (size_alloc w (.cells #[.int .i64 pS, .slice aS S.length cS] 26)) (Nat.le_refl _)); have HB1 := Lib.hid (below_step HB0.out (size_alloc w (.cells #[.int .i64 pS, .slice aS S.length cS] 26)) b1); have k01 := (b1.cell (p := ⟨w.heap.size, 0, none⟩) (lt_alloc w (.cells #[.int .i64 pS, .slice aS S.length cS] 26))).trans k0; have k11 := (b1.cell (p := ⟨w.heap.size, 1, none⟩) (lt_alloc w (.cells #[.int .i64 pS, .slice aS S.length cS] 26))).trans k1; have hw1 := Nat.lt_of_lt_of_le (lt_alloc w (.cells #[.int .i64 pS, .slice aS S.length cS] 26)) b1.size; clear o1 b1 k0 k1)
 go_loopw [5, 12] (fun u t wr => ∃ (k : Nat) (r : Option Addr) (c : Nat), k ≤ m.length ∧ u = .slice r (wvM pS S m k).length c ∧ t = .int .i64 k ∧ OwnR w.heap.size wr.heap.size wr r (wvM pS S m k) ∧ wr.cell? ⟨w.heap.size, 0, none⟩ = some (.int .i64 pS) ∧ wr.cell? ⟨w.heap.size, 1, none⟩ = some (.slice aS S.length cS) ∧ Below w.heap.size w wr ∧ w.heap.size < wr.heap.size) (fun _ t _ => m.length - (intOf t).toNat)
 case atStart => exact ⟨0, r1, c1, Nat.zero_le _, rfl, rfl, O1.out, k01, k11, HB1.out, hw1⟩
 case round =>
  obtain ⟨k, r, c, hk, rfl, rfl, ho, k0, k1, hbel, hlw⟩ := hrel
  have HO := Lib.hid ho
  have HB := Lib.hid hbel
  by_cases hlt : k < m.length
  · obtain ⟨b9, o9, rv, cv, ha9, _, hb9, hr9, hrow⟩ := (HM.out.below hbel tm).row hlt
    subst ha9
    have hwz := hbel.size
    have hi1 : (k : Int) < (m.length : Int) := by omega
    have HVV := Lib.hid (HL.out.2 k hlt)
    have HVL := Lib.hid (isVec_iff.1 HVV.out).len
    have HRV := Lib.hid (hrow.below (below_drew wr) (Nat.le_trans tm hwz))
    have HTV : Hid (tpm ≤ wr.drew.heap.size) := Nat.le_trans tm hwz
    have HRR : Hid (RowIn w.heap.size wr.drew.heap.size wr.drew r (wvM pS S m k)) := ho.row.below (below_drew wr) (Nat.le_refl _)
    have hxd : b9 < wr.drew.heap.size := Nat.lt_of_lt_of_le hb9 (Nat.le_trans tm hwz)
    have hs1 : Hid (wr.drew.cell? ⟨w.heap.size, 0, none⟩ = some (.int .i64 pS) ∧ wr.drew.cell? ⟨w.heap.size, 1, none⟩ = some (.slice aS S.length cS)) := ⟨k0, k1⟩
    have HBD : Hid (Below w.heap.size w wr.drew) := hbel.drew
    have hd0 : w.heap.size < wr.drew.heap.size := hlw
    clear ho hbel hrow
    go_wp2
    go_region_held3 (fun w' => w'.cell? ⟨w.heap.size, 0, none⟩ = some (.int .i64 pS) ∧ w'.cell? ⟨w.heap.size, 1, none⟩ = some (.slice aS S.length cS)) (first | exact hs1.out | exact SSa.out | exact SSab.out | go_keep) (first | (go_at_call 185; (with_reducible refine (vector_any pS aS S cS rv (rw' m k) cv lom tpm wr.drew h6 HVL.out HRV.out HTV.out).mono ?_); rintro e wa ⟨ba, rfl, l_, u_, o_, b_⟩; have SSa := Lib.hid (ss2 b_ hd0 hs1.out); have HBa := Lib.hid (below_step HBD.out (Nat.le_of_lt hd0) b_); have zz_ := b_.size; have HCa := Lib.hid b_; have hda := Nat.lt_of_lt_of_le hd0 zz_; have la := Nat.lt_of_lt_of_le hd0 l_; have ua_a := u_; have Na_a := Lib.hid o_; have Ra_a := Lib.hid ((o_.own (Nat.le_of_lt la) u_).row); clear b_ o_) | (go_at_call 168; (with_reducible refine (wedge_vec pS aS S cS loS tpS r (wvM pS S m k) c w.heap.size wr.drew.heap.size ba w.heap.size wa.heap.size (rw' m k) wa HI.out (HS.out.below HBa.out tS) (Nat.le_trans tS (HBa.out).size) (HRR.out.below HCa.out (Nat.le_refl _)) HCa.out.size (wv_mv HI.out m k) Ra_a.out (Nat.le_refl _) HVV.out).mono ?_); rintro e wab ⟨rb, kb, rfl, o_, b_⟩; have SSab := Lib.hid (ss2 b_ hda SSa.out); have HBab := Lib.hid (below_step HBa.out (Nat.le_of_lt hda) b_); have zz_ := b_.size; have HCab := Lib.hid (below_step HCa.out (HCa.out).size b_); have hdab := Nat.lt_of_lt_of_le hda zz_; have Ra_ab := Lib.hid ((Ra_a.out.below b_ (Nat.le_refl _)).mono (Nat.le_refl _) zz_); have Na_ab := Lib.hid (Na_a.out.stay (b_.block ba ua_a)); have ua_ab := Nat.lt_of_lt_of_le ua_a zz_; have Ob_ab := Lib.hid (OwnR.mono' o_ (Nat.le_of_lt hda) (Nat.le_refl _)); have Rb_ab := Lib.hid (Ob_ab.out.row); clear b_ o_))
    go_wp2
    go_roundw
    case rel => exact ⟨k + 1, rb, kb, by omega, rfl, by go_num, Ob_ab.out, SSab.out.1, SSab.out.2, HBab.out, hdab⟩
    case measure => simp [intOf]; omega
  · have hkn : k = m.length := by omega
    subst hkn
    clear ho hbel
    go_wp2
    go_ret
    exact ⟨r, c, rfl, HO.out, HB.out⟩
set_option maxRecDepth 100000 in
set_option maxHeartbeats 3200000 in
theorem l05Vectors_own (pS : Int) (aS : Option Addr) (S : List Int) (cS loS tpS : Nat) (am : Option Addr) (m : List (List Int)) (cm lom tpm : Nat) (w : World) (hs : isSp pS S = true) (hS : RowIn loS tpS w aS S) (tS : tpS ≤ w.heap.size) (hm : MatIn lom tpm w am m) (tm : tpm ≤ w.heap.size) (hl : listB pS S m = true) :
 Calls Tryz.prog 169 #[.agg #[.int .i64 pS, .slice aS S.length cS], .slice am m.length cm] w (OwnE (wvM pS S m m.length) w) := by
 have HI := Lib.hid hs
 have HS := Lib.hid hS
 have HM := Lib.hid hm
 have HL := Lib.hid (listB_iff hl)
 have h6 := (isSp_iff.1 hs).hi
 have hpb := prm_bd (isSp_iff.1 hs).prime
 have hbl := bl_le h6
 have hb0 := bl_pos S
 have hm16 := HL.out.1
 have HB0 := Lib.hid (below_alloc w (.cells #[.int .i64 pS, .slice aS S.length cS] 26))
 have k0 := nw0 w (.int .i64 pS) (.slice aS S.length cS) 26
 have k1 := nw1 w (.int .i64 pS) (.slice aS S.length cS) 26
 clear hs hS hm hl
 go_enter Tryz.func169, Tryz.ntmps169
 go_wp2_with (go_at_call 188; (with_reducible refine (l04One_any pS aS S cS _ h6).mono ?_); rintro e w1 ⟨r1, c1, rfl, o1, b1⟩; have O1 := Lib.hid (OwnR.mono' o1 (size_alloc w (.cells #[.int .i64 pS, .slice aS S.length cS] 26)) (Nat.le_refl _)); have HB1 := Lib.hid (below_step HB0.out (size_alloc w (.cells #[.int .i64 pS, .slice aS S.length cS] 26)) b1); have k01 := (b1.cell (p := ⟨w.heap.size, 0, none⟩) (lt_alloc w (.cells #[.int .i64 pS, .slice aS S.length cS] 26))).trans k0; have k11 := (b1.cell (p := ⟨w.heap.size, 1, none⟩) (lt_alloc w (.cells #[.int .i64 pS, .slice aS S.length cS] 26))).trans k1; have hw1 := Nat.lt_of_lt_of_le (lt_alloc w (.cells #[.int .i64 pS, .slice aS S.length cS] 26)) b1.size; clear o1 b1 k0 k1)
 go_loopw [5, 6] (fun u t wr => ∃ (k : Nat) (r : Option Addr) (c : Nat), k ≤ m.length ∧ u = .slice r (wvM pS S m k).length c ∧ t = .int .i64 k ∧ OwnR w.heap.size wr.heap.size wr r (wvM pS S m k) ∧ wr.cell? ⟨w.heap.size, 0, none⟩ = some (.int .i64 pS) ∧ wr.cell? ⟨w.heap.size, 1, none⟩ = some (.slice aS S.length cS) ∧ Below w.heap.size w wr ∧ w.heap.size < wr.heap.size) (fun _ t _ => m.length - (intOf t).toNat)
 case atStart => exact ⟨0, r1, c1, Nat.zero_le _, rfl, rfl, O1.out, k01, k11, HB1.out, hw1⟩
 case round =>
  obtain ⟨k, r, c, hk, rfl, rfl, ho, k0, k1, hbel, hlw⟩ := hrel
  have HO := Lib.hid ho
  have HB := Lib.hid hbel
  by_cases hlt : k < m.length
  · obtain ⟨b9, o9, rv, cv, ha9, _, hb9, hr9, hrow⟩ := (HM.out.below hbel tm).row hlt
    subst ha9
    have hwz := hbel.size
    have hi1 : (k : Int) < (m.length : Int) := by omega
    have HVV := Lib.hid (HL.out.2 k hlt)
    have HVL := Lib.hid (isVec_iff.1 HVV.out).len
    have HRV := Lib.hid (hrow.below (below_drew wr) (Nat.le_trans tm hwz))
    have HTV : Hid (tpm ≤ wr.drew.heap.size) := Nat.le_trans tm hwz
    have HRR : Hid (RowIn w.heap.size wr.drew.heap.size wr.drew r (wvM pS S m k)) := ho.row.below (below_drew wr) (Nat.le_refl _)
    have hxd : b9 < wr.drew.heap.size := Nat.lt_of_lt_of_le hb9 (Nat.le_trans tm hwz)
    have hs1 : Hid (wr.drew.cell? ⟨w.heap.size, 0, none⟩ = some (.int .i64 pS) ∧ wr.drew.cell? ⟨w.heap.size, 1, none⟩ = some (.slice aS S.length cS) ∧ wr.drew.cell? ⟨b9, o9 + k, none⟩ = some (.slice rv (rw' m k).length cv)) := ⟨k0, k1, hr9⟩
    have HBD : Hid (Below w.heap.size w wr.drew) := hbel.drew
    have hd0 : w.heap.size < wr.drew.heap.size := hlw
    clear ho hbel hrow
    go_wp2
    go_region_held3 (fun w' => w'.cell? ⟨w.heap.size, 0, none⟩ = some (.int .i64 pS) ∧ w'.cell? ⟨w.heap.size, 1, none⟩ = some (.slice aS S.length cS) ∧ w'.cell? ⟨b9, o9 + k, none⟩ = some (.slice rv (rw' m k).length cv)) (first | exact hs1.out | exact SSa.out | exact SSab.out | go_keep) (first | (go_at_call 146; (with_reducible refine (l04Vector_any pS aS S cS rv (rw' m k) cv lom tpm wr.drew h6 HVL.out HRV.out HTV.out).mono ?_); rintro e wa ⟨ba, rfl, l_, u_, o_, b_⟩; have SSa := Lib.hid (ss3 b_ hd0 hxd hs1.out); have hxa := Nat.lt_of_lt_of_le hxd b_.size; have HBa := Lib.hid (below_step HBD.out (Nat.le_of_lt hd0) b_); have zz_ := b_.size; have HCa := Lib.hid b_; have hda := Nat.lt_of_lt_of_le hd0 zz_; have la := Nat.lt_of_lt_of_le hd0 l_; have ua_a := u_; have Na_a := Lib.hid o_; have Ra_a := Lib.hid ((o_.own (Nat.le_of_lt la) u_).row); clear b_ o_) | (go_at_call 145; (with_reducible refine (l05Wedge_vec pS aS S cS loS tpS r (wvM pS S m k) c w.heap.size wr.drew.heap.size ba w.heap.size wa.heap.size (rw' m k) wa HI.out (HS.out.below HBa.out tS) (Nat.le_trans tS (HBa.out).size) (HRR.out.below HCa.out (Nat.le_refl _)) HCa.out.size (wv_mv HI.out m k) Ra_a.out (Nat.le_refl _) HVV.out).mono ?_); rintro e wab ⟨rb, kb, rfl, o_, b_⟩; have SSab := Lib.hid (ss3 b_ hda hxa SSa.out); have hxab := Nat.lt_of_lt_of_le hxa b_.size; have HBab := Lib.hid (below_step HBa.out (Nat.le_of_lt hda) b_); have zz_ := b_.size; have HCab := Lib.hid (below_step HCa.out (HCa.out).size b_); have hdab := Nat.lt_of_lt_of_le hda zz_; have Ra_ab := Lib.hid ((Ra_a.out.below b_ (Nat.le_refl _)).mono (Nat.le_refl _) zz_); have Na_ab := Lib.hid (Na_a.out.stay (b_.block ba ua_a)); have ua_ab := Nat.lt_of_lt_of_le ua_a zz_; have Ob_ab := Lib.hid (OwnR.mono' o_ (Nat.le_of_lt hda) (Nat.le_refl _)); have Rb_ab := Lib.hid (Ob_ab.out.row); clear b_ o_))
    go_wp2
    go_roundw
    case rel => exact ⟨k + 1, rb, kb, by omega, rfl, by go_num, Ob_ab.out, SSab.out.1, SSab.out.2.1, HBab.out, hdab⟩
    case measure => simp [intOf]; omega
  · have hkn : k = m.length := by omega
    subst hkn
    clear ho hbel
    go_wp2
    go_ret
    exact ⟨r, c, rfl, HO.out, HB.out⟩
def cm (x : List Int) (left : Lit → Bool) (g : Nat) : Bool := (List.range x.length).any fun j => decide (gr j = g) && decide (x.getD j 0 ≠ 0) && !(td left j)
def gradesTo (x : List Int) (k : Nat) : List Int := ((List.range k).filter (hasGr x)).map fun (k : Nat) => (k : Int)
theorem grades_eq (S x : List Int) : grades S x = gradesTo x (S.length + 1) := rfl
theorem gradesTo_yes {x : List Int} {k : Nat} (h : hasGr x k = true) : gradesTo x (k + 1) = gradesTo x k ++ [(k : Int)] := by
 unfold gradesTo; rw [List.range_succ, List.filter_append, List.map_append]; simp [h]
theorem gradesTo_no {x : List Int} {k : Nat} (h : hasGr x k = false) : gradesTo x (k + 1) = gradesTo x k := by
 unfold gradesTo; rw [List.range_succ, List.filter_append, List.map_append]; simp [h]
theorem gradesTo_le (x : List Int) (k : Nat) : (gradesTo x k).length ≤ k := by
 unfold gradesTo; rw [List.length_map]; exact Nat.le_trans (List.length_filter_le _ _) (by simp)
theorem OutR.more {B : Nat} {w1 : World} {v' : Value} {zs ys : List Int} {N : Nat} {X : List Value} {k : Int} (hX : X = zs.map (Value.int .i64)) (hN : N = zs.length) (hs : ys = zs ++ [k]) (h1 : w1.ownsRow B 2 1 v' (N + 1) (X ++ [.int .i64 k])) : OutR B w1 v' ys := by
 subst hs hN hX
 unfold OutR
 rw [List.length_append, List.map_append]
 exact h1
def Nz (n : Nat) (f : Nat → Int) : Prop := ∃ j, j < n ∧ f j ≠ 0
theorem pg_has {x : List Int} {k : Nat} : Nz x.length (pg x k) ↔ hasGr x k = true := by
 rw [hasGr_iff]
 constructor
 · rintro ⟨j, h1, h2⟩
   unfold pg at h2
   by_cases e : ((gr j : Nat) : Int) = k
   · rw [if_pos e] at h2; exact ⟨j, h1, by omega, h2⟩
   · rw [if_neg e] at h2; exact absurd rfl h2
 · rintro ⟨j, h1, h2, h3⟩
   exact ⟨j, h1, by unfold pg; rw [if_pos (by rw [h2])]; exact h3⟩
set_option maxHeartbeats 1600000 in
theorem l02First_sign (b n : Nat) (f : Nat → Int) (c : Nat) (w : World) (h : RowOwn w b 0 n f) (hn : n ≤ 1048576) :
 Calls Tryz.prog 144 #[.slice (some ⟨b, 0, none⟩) n c] w fun e w' => ∃ r, e = .returned (.int .i64 r) ∧ (Nz n f → 0 ≤ r) ∧ (¬ Nz n f → r = -1) ∧ w = w' := by
 have H := Lib.hid h
 clear h
 go_enter Tryz.func144, Tryz.ntmps144
 go_wp2
 go_loop [3] (fun t => ∃ k : Nat, k ≤ n ∧ t = .int .i64 k ∧ ∀ j, j < k → f j = 0) (fun t => n - (intOf t).toNat)
 case atStart => exact ⟨0, Nat.zero_le _, rfl, fun j hj => by omega⟩
 case round =>
  obtain ⟨k, hk, rfl, hall⟩ := hrel
  have HA := Lib.hid hall
  clear hall
  by_cases hlt : k < n
  · have hc := H.out.cell k hlt
    rw [Nat.zero_add] at hc
    have hi1 : (k : Int) < (n : Int) := by omega
    obtain ⟨y, hy⟩ : ∃ y, y = f k := ⟨_, rfl⟩
    have HY := Lib.hid hy
    rw [← hy] at hc
    clear hy
    by_cases h0 : y = 0
    · have e0 : (y != 0) = false := by simp [h0]
      go_wp2
      go_round
      case rel => exact ⟨k + 1, by omega, by go_num, fun j hj => by
       by_cases e : j = k
       · subst e; rw [← HY.out]; exact h0
       · exact HA.out j (by omega)⟩
      case measure => simp [intOf]; omega
    · have e0 : (y != 0) = true := by simp [h0]
      go_wp2
      go_ret
      exact ⟨k, rfl, fun _ => by omega, fun hno => (hno ⟨k, hlt, by rw [← HY.out]; exact h0⟩).elim, rfl⟩
  · go_wp2
    go_ret
    refine ⟨-1, rfl, fun h => ?_, fun _ => rfl, rfl⟩
    obtain ⟨j, h1, h2⟩ := h
    exact absurd (HA.out j (by omega)) h2
set_option maxRecDepth 100000 in
set_option maxHeartbeats 3200000 in
theorem l04Grades_any (p : Int) (aS : Option Addr) (S : List Int) (cS : Nat) (ax : Option Addr) (x : List Int) (cx lox tpx : Nat) (w : World) (h6 : S.length ≤ 6) (hx : RowIn lox tpx w ax x) (tx : tpx ≤ w.heap.size) (sx : x.length ≤ 64) :
 Calls Tryz.prog 216 #[.agg #[.int .i64 p, .slice aS S.length cS], .slice ax x.length cx] w (SRow (grades S x) w) := by
 obtain ⟨i0, hi, hz0, hz1, hz2⟩ := info_parts info64
 have Hx := Lib.hid hx
 have HB0 := Lib.hid (below_alloc w (.cells #[.int .i64 p, .slice aS S.length cS] 26))
 have k1 := nw1 w (.int .i64 p) (.slice aS S.length cS) 26
 clear hx
 go_enter Tryz.func216, Tryz.ntmps216
 go_upto_region 1 with fail
 obtain ⟨w1, hw1⟩ : ∃ z, z = w.alloc (.cells #[.int .i64 p, .slice aS S.length cS] 26) := ⟨_, rfl⟩
 rw [← hw1] at HB0 k1
 rw [← hw1]
 have hw0 : w.heap.size < w1.heap.size := by rw [hw1]; simp
 clear hw1
 go_wp2
 go_loopw [5, 6] (fun v t wr => ∃ i : Nat, i ≤ S.length + 1 ∧ t = .int .i64 i ∧ OutR w1.heap.size wr v (gradesTo x i) ∧ wr.cell? ⟨w.heap.size, 1, none⟩ = some (.slice aS S.length cS) ∧ Below w1.heap.size w1 wr) (fun _ t _ => S.length + 1 - (intOf t).toNat)
 case atStart => exact ⟨0, Nat.zero_le _, rfl, OutR.start w1 _ _ (Nat.le_refl _) rfl, ca0 k1, below_alloc w1 _⟩
 case round =>
  obtain ⟨i, hi', rfl, ho, hk, hbel⟩ := hrel
  have HO := Lib.hid ho
  have HB := Lib.hid hbel
  have HK := Lib.hid hk
  have hwz := hbel.size
  clear ho hbel
  by_cases hlt : i ≤ S.length
  · have hi1 : (i : Int) ≤ (S.length : Int) := by omega
    have HXR := Lib.hid ((Hx.out.below HB0.out tx).below HB.out (by omega))
    obtain ⟨N, hN⟩ : ∃ N, N = (gradesTo x i).length := ⟨_, rfl⟩
    have hN7 : N ≤ 7 := by have := gradesTo_le x i; omega
    have HN := Lib.hid hN
    obtain ⟨X, hX⟩ : ∃ X, X = (gradesTo x i).map (Value.int .i64) := ⟨_, rfl⟩
    have HX := Lib.hid hX
    have HO2 : Hid (wr.ownsRow w1.heap.size 2 1 u5 N X) := by
     have := HO.out; unfold OutR at this; rw [← hN, ← hX] at this; exact this
    have n0 : u5.ownBlock ≠ some w.heap.size := fun e => by have := (HO2.out.lt _ e).1; omega
    clear hX hN
    by_cases hg : hasGr x i = true
    · have HSU := Lib.hid (gradesTo_yes hg)
      have HEX := Lib.hid (pg_has.2 hg)
      clear hg
      go_wp2_with (first | (go_at_call 207; (with_reducible refine (l04Part_any ax x cx lox tpx i wr HXR.out (by omega) sx).mono ?_); rintro e w3 ⟨d3, rfl, l3, u3', o3, b3⟩; have O3 := Lib.hid o3; have B3 := Lib.hid b3; have z3 := b3.size; have HV3 := Lib.hid (HO2.out.kept (below_grown b3) (by cases hv : Value.ownBlock u5 <;> simp)); have hk3 := (b3.cell (p := ⟨w.heap.size, 1, none⟩) (show w.heap.size < wr.heap.size by omega)).trans HK.out; clear o3 b3) | (go_at_call 144; (with_reducible refine (l02First_sign d3 x.length _ _ w3 O3.out (by omega)).mono ?_); rintro e w4 ⟨r4, rfl, hr4, hr5, rfl⟩; have hr6 := hr4 HEX.out; clear hr4 hr5) | (at_builtin; refine wpList_append_lies _ rfl _ _ 24 rfl w1.heap.size 2 i0 (.int .i64 0) 1 8 Tryz.underlying24 hi hz0 hz1 hz2 rfl (by decide) u5 N X rfl (HV3.out.alloc _) ⟨w3.heap.size, 0, none⟩ 1 1 [.int .i64 i] rfl rfl (World.news_of_block (cs := #[.int .i64 i]) (t := 2) (fr := (0, 0)) (heap_alloc_new w3 _)) (by simp [Value.oneCell']) (by omega) (by unfold maxLen; omega) (by omega) (by simp; omega) (w3.heap.size + 1) (by simp) ?_; intro gg cap w1 hown1 hgrow hat hlt1))
      go_wp2
      go_roundw
      case rel => exact ⟨i + 1, by omega, by go_num, OutR.more HX.out HN.out HSU.out hown1, (hgrow.cell_far ⟨w.heap.size, 1, none⟩ (by simp; omega) (Ne.symm n0)).trans (ca0 hk3), ((HB.out.trans (B3.out.mono hwz)).alloc (by omega) _).grown hgrow (by simp; omega) (fun _ hk => (HO2.out.lt _ hk).1)⟩
      case measure => simp [intOf]; omega
    · have hg' : hasGr x i = false := by simpa using hg
      have HSU := Lib.hid (gradesTo_no hg')
      have HEX : Hid (¬ Nz x.length (pg x i)) := fun e => hg (pg_has.1 e)
      clear hg hg'
      go_wp2_with (first | (go_at_call 207; (with_reducible refine (l04Part_any ax x cx lox tpx i wr HXR.out (by omega) sx).mono ?_); rintro e w3 ⟨d3, rfl, l3, u3', o3, b3⟩; have O3 := Lib.hid o3; have B3 := Lib.hid b3; have z3 := b3.size; have HV3 := Lib.hid (HO2.out.kept (below_grown b3) (by cases hv : Value.ownBlock u5 <;> simp)); have hk3 := (b3.cell (p := ⟨w.heap.size, 1, none⟩) (show w.heap.size < wr.heap.size by omega)).trans HK.out; clear o3 b3) | (go_at_call 144; (with_reducible refine (l02First_sign d3 x.length _ _ w3 O3.out (by omega)).mono ?_); rintro e w4 ⟨r4, rfl, hr4, hr5, rfl⟩; have hr6 := hr5 HEX.out; clear hr4 hr5; subst hr6))
      go_roundw
      case rel => exact ⟨i + 1, by omega, by go_num, by rw [HSU.out]; unfold OutR; rw [← HN.out, ← HX.out]; exact HV3.out, hk3, HB.out.trans (B3.out.mono hwz)⟩
      case measure => simp [intOf]; omega
  · have hn : i = S.length + 1 := by omega
    subst hn
    have hi1 : (S.length : Int) < ((S.length + 1 : Nat) : Int) := by omega
    obtain ⟨a8, c8, e8, ht8⟩ := HO.out.tag
    subst e8
    have HT8 := Lib.hid ht8
    clear ht8
    go_wp2
    go_ret
    exact ⟨a8, c8, by rw [grades_eq]; rfl, by rw [grades_eq]; exact HT8.out.row.mono (by omega) (Nat.le_refl _), HB0.out.trans (HB.out.mono (by omega))⟩
def mxF (z : List Int) : Nat → Int
 | 0 => z.getD 0 0
 | k + 1 => if mxF z k < z.getD (k + 1) 0 then z.getD (k + 1) 0 else mxF z k
theorem mxF_le (z : List Int) : ∀ k j, j ≤ k → z.getD j 0 ≤ mxF z k
 | 0, j, h => by rw [show j = 0 by omega]; exact Int.le_refl _
 | k + 1, j, h => by
  show _ ≤ if mxF z k < z.getD (k + 1) 0 then z.getD (k + 1) 0 else mxF z k
  by_cases e : j = k + 1
  · subst e; split <;> omega
  · have := mxF_le z k j (by omega)
    split <;> omega
theorem mxF_at (z : List Int) : ∀ k, ∃ j, j ≤ k ∧ mxF z k = z.getD j 0
 | 0 => ⟨0, Nat.le_refl _, rfl⟩
 | k + 1 => by
  obtain ⟨j, h1, h2⟩ := mxF_at z k
  by_cases e : mxF z k < z.getD (k + 1) 0
  · exact ⟨k + 1, Nat.le_refl _, if_pos e⟩
  · exact ⟨j, by omega, by rw [← h2]; exact if_neg e⟩
def allZ (z : List Int) : Bool := (List.range z.length).all fun j => decide (z.getD j 0 = 0)
theorem allZ_iff {z : List Int} : allZ z = true ↔ ∀ j, j < z.length → z.getD j 0 = 0 := by
 unfold allZ; simp only [List.all_eq_true, List.mem_range, decide_eq_true_eq]
theorem mx_zero {z : List Int} (h0 : 0 < z.length) (hn : ∀ j, j < z.length → 0 ≤ z.getD j 0) : (mxF z (z.length - 1) == 0) = allZ z := by
 rw [Bool.eq_iff_iff, beq_iff_eq, allZ_iff]
 constructor
 · intro h j hj
   have := mxF_le z (z.length - 1) j (by omega)
   have := hn j hj
   omega
 · intro h
   obtain ⟨j, h1, h2⟩ := mxF_at z (z.length - 1)
   rw [h2]; exact h j (by omega)
set_option maxHeartbeats 1600000 in
theorem max_any (a : Option Addr) (z : List Int) (ca lo tp : Nat) (w : World) (hz : RowIn lo tp w a z) (h0 : 0 < z.length) (hl : z.length ≤ 1048576) :
 Calls Tryz.prog 189 #[.slice a z.length ca] w fun e w' => e = .returned (.int .i64 (mxF z (z.length - 1))) ∧ w = w' := by
 have HZ := Lib.hid hz
 obtain ⟨b1, o1, ha1, _, _, hc1⟩ := hz.num h0
 subst ha1
 have hi0 : ¬ ((z.length : Int) < 1) := by omega
 have hi1 : (0 : Int) < (z.length : Int) := by omega
 rw [Nat.add_zero] at hc1
 obtain ⟨X0, hX0⟩ : ∃ x, x = z.getD 0 0 := ⟨_, rfl⟩
 rw [← hX0] at hc1
 have HX0 := Lib.hid hX0
 clear hz hX0
 go_enter Tryz.func189, Tryz.ntmps189
 go_wp2
 clear hc1
 go_loop [3, 4] (fun u t => ∃ i : Nat, i < z.length ∧ u = .int .i64 (mxF z i) ∧ t = .int .i64 ((i + 1 : Nat) : Int)) (fun _ t => z.length - (intOf t).toNat)
 case atStart => exact ⟨0, h0, by rw [HX0.out]; rfl, by simp⟩
 case round =>
  obtain ⟨i, hi, rfl, rfl⟩ := hrel
  by_cases hlt : i + 1 < z.length
  · have hi2 : ((i + 1 : Nat) : Int) < (z.length : Int) := by omega
    obtain ⟨b2, o2, ha2, _, _, hc2⟩ := HZ.out.num hlt
    cases ha2
    obtain ⟨x, hx⟩ : ∃ x, x = mxF z i := ⟨_, rfl⟩
    obtain ⟨y, hy⟩ : ∃ y, y = z.getD (i + 1) 0 := ⟨_, rfl⟩
    have HS : Hid (mxF z (i + 1) = if x < y then y else x) := by show _ = _; rw [hx, hy]; rfl
    rw [← hy] at hc2
    rw [← hx]
    clear hx hy
    go_wp2
    go_round
    case rel => exact ⟨i + 1, hlt, by (rw [HS.out]; try (congr 1; split <;> omega)), by go_num⟩
    case measure => simp [intOf]; omega
  · have hin : i = z.length - 1 := by omega
    have hi2 : ¬ (((i + 1 : Nat) : Int) < (z.length : Int)) := by omega
    have HIN := Lib.hid hin
    clear hin
    go_wp2
    go_ret
    exact ⟨by rw [← HIN.out]; rfl, rfl⟩
set_option maxHeartbeats 1600000 in
theorem equal_any (a b : Option Addr) (za zb : List Int) (ca cb lo tp lo' tp' : Nat) (w : World) (ha : RowIn lo tp w a za) (hb : RowIn lo' tp' w b zb) (sa : za.length ≤ 1048576) :
 Calls Tryz.prog 223 #[.slice a za.length ca, .slice b zb.length cb] w fun e w' => e = .returned (.bool (decide (za = zb))) ∧ Quiet w w' := by
 have HA := Lib.hid ha
 have HB := Lib.hid hb
 clear ha hb
 by_cases hl : za.length = zb.length
 · have HL := Lib.hid hl
   obtain ⟨n, hn⟩ : ∃ n, n = zb.length := ⟨_, rfl⟩
   have HN := Lib.hid hn
   rw [hl] at sa ⊢
   rw [← hn] at sa ⊢
   clear hl hn
   go_enter Tryz.func223, Tryz.ntmps223
   go_wp2
   go_loopw [13] (fun t wr => ∃ i : Nat, i ≤ n ∧ t = .int .i64 i ∧ (∀ j, j < i → za.getD j 0 = zb.getD j 0) ∧ Quiet w wr) (fun t _ => n - (intOf t).toNat)
   case atStart => exact ⟨0, Nat.zero_le _, rfl, fun j hj => by omega, Quiet.refl _⟩
   case round =>
    obtain ⟨i, hi, rfl, hall, hq⟩ := hrel
    have HQ := Lib.hid hq
    have HALL := Lib.hid hall
    by_cases hlt : i < n
    · obtain ⟨b1, o1, ha1, _, _, hc1⟩ := (HA.out.same (hq.same _ _)).num (show i < za.length by rw [HL.out, ← HN.out]; exact hlt)
      obtain ⟨b2, o2, ha2, _, _, hc2⟩ := (HB.out.same (hq.same _ _)).num (show i < zb.length by rw [← HN.out]; exact hlt)
      subst ha1
      subst ha2
      have hi1 : (i : Int) < (n : Int) := by omega
      obtain ⟨x, hx⟩ : ∃ x, x = za.getD i 0 := ⟨_, rfl⟩
      obtain ⟨y, hy⟩ : ∃ y, y = zb.getD i 0 := ⟨_, rfl⟩
      have HX := Lib.hid hx
      have HY := Lib.hid hy
      rw [← hx] at hc1
      rw [← hy] at hc2
      clear hx hy hall hq
      by_cases hxy : x = y
      · have e1 : (x != y) = false := by simp [hxy]
        have HXY := Lib.hid hxy
        clear hxy
        go_wp2
        go_quiet (fail)
        go_wp2
        go_roundw
        case rel => exact ⟨i + 1, by omega, by go_num, fun j hj => by
         by_cases e : j = i
         · subst e; rw [← HX.out, ← HY.out, HXY.out]
         · exact HALL.out j (by omega), HQ.out.next _⟩
        case measure => simp [intOf]; omega
      · have e1 : (x != y) = true := by simp [hxy]
        have HR : Hid (decide (za = zb) = false) := decide_eq_false fun e => hxy (by rw [HX.out, HY.out, e])
        clear hxy
        go_wp2
        go_quiet (fail)
        go_wp2
        go_ret
        exact ⟨by rw [HR.out]; rfl, HQ.out.next _⟩
    · have hin : i = n := by omega
      subst hin
      have HR : Hid (decide (za = zb) = true) := decide_eq_true (row_ext HL.out (fun j hj => hall j (by rw [HN.out, ← HL.out]; exact hj)))
      clear hall hq
      go_wp2
      go_ret
      exact ⟨by rw [HR.out]; rfl, HQ.out⟩
 · have HR : Hid (decide (za = zb) = false) := decide_eq_false fun e => hl (by rw [e])
   obtain ⟨n, hn⟩ : ∃ n, n = za.length := ⟨_, rfl⟩
   obtain ⟨m, hm⟩ : ∃ m, m = zb.length := ⟨_, rfl⟩
   rw [← hn, ← hm] at hl ⊢
   have hl2 : ((n : Int) != (m : Int)) = true := by simp; omega
   go_enter Tryz.func223, Tryz.ntmps223
   go_wp2
   go_ret
   exact ⟨by rw [HR.out]; rfl, Quiet.refl _⟩
theorem vec_mv {p : Int} {S v : List Int} (hs : isSp p S = true) (hv : isVec p S.length v = true) : isMv p S (vecM S v) = true := vec_mv' hs hv
theorem gpz_mul (S : List Int) (n : Nat) (x y : Nat → Int) (k : Int) (c : Nat) : gpz S n x (fun j => y j * k) c = gpz S n x y c * k := by
 unfold gpz
 rw [Int.mul_comm, ← sm_mul]
 apply sm_congr
 intro a _
 rw [← Int.mul_assoc, Int.mul_comm]
theorem prod_scl (p : Int) (S a b : List Int) (k : Int) (hb : b.length = bl S) : prodM p S a (sclV p b k) = sclV p (prodM p S a b) k := by
 unfold sclV
 rw [prodM_len]
 refine mkR_congr fun c hc => ?_
 rw [prodM_at p S a b hc]
 show gpz _ _ _ _ c % p = gpz _ _ _ _ c % p * k % p
 rw [em_l, ← gpz_mul]
 exact gpz_mod S S.length hc (fun _ _ => rfl) fun j hj => by
  show (mkR b.length fun j => b.getD j 0 * k % p).getD j 0 % p = _
  rw [mkR_at _ (by rw [hb]; exact hj), Int.emod_emod]
def rfK (p a n : Int) : Int := (-2 * a) % p * inv p n % p
theorem rf_bd {p : Int} (hp : 0 < p) (a n : Int) : 0 ≤ rfK p a n ∧ rfK p a n < p := ⟨Int.emod_nonneg _ (by omega), Int.emod_lt_of_pos _ hp⟩
theorem prm_odd {p : Int} (h : prm p = true) : p % 2 = 1 := by
 unfold prm at h
 simp at h
 omega
def BoxM (g : Nat) (p : Int) (aS : Option Addr) (n cS : Nat) (ax : Option Addr) (l cx : Nat) (W : World) : Prop :=
 W.cell? ⟨g, 0, none⟩ = some (.int .i64 p) ∧ W.cell? ⟨g, 1, none⟩ = some (.slice aS n cS) ∧ W.cell? ⟨g, 2, none⟩ = some (.slice ax l cx)
theorem BoxM.below {g : Nat} {p : Int} {aS ax : Option Addr} {n cS l cx B : Nat} {w w' : World} (h : BoxM g p aS n cS ax l cx w) (hb : Below B w w') (hg : g < B) : BoxM g p aS n cS ax l cx w' :=
 ⟨(hb.cell (p := ⟨g, 0, none⟩) hg).trans h.1, (hb.cell (p := ⟨g, 1, none⟩) hg).trans h.2.1, (hb.cell (p := ⟨g, 2, none⟩) hg).trans h.2.2⟩
theorem BoxM.new (w : World) (p : Int) (aS : Option Addr) (n cS : Nat) (ax : Option Addr) (l cx : Nat) (T : TypeId) : BoxM w.heap.size p aS n cS ax l cx (w.alloc (.cells #[.int .i64 p, .slice aS n cS, .slice ax l cx] T)) :=
 ⟨by simp [go_sem], by simp [go_sem], by simp [go_sem]⟩
def BoxV (g gs : Nat) (p : Int) (aS : Option Addr) (n cS : Nat) (ax : Option Addr) (l cx : Nat) (W : World) : Prop :=
 W.cell? ⟨g, 0, none⟩ = some (.int .i64 p) ∧ W.cell? ⟨g, 1, none⟩ = some (.slice aS n cS) ∧ W.cell? ⟨g, 2, none⟩ = some (.slice ax l cx) ∧ W.cell? ⟨gs, 0, none⟩ = some (.int .i64 p) ∧ W.cell? ⟨gs, 1, none⟩ = some (.slice aS n cS)
theorem BoxV.below {g gs : Nat} {p : Int} {aS ax : Option Addr} {n cS l cx B : Nat} {w w' : World} (h : BoxV g gs p aS n cS ax l cx w) (hb : Below B w w') (hg : g < B ∧ gs < B) : BoxV g gs p aS n cS ax l cx w' :=
 ⟨(hb.cell (p := ⟨g, 0, none⟩) hg.1).trans h.1, (hb.cell (p := ⟨g, 1, none⟩) hg.1).trans h.2.1, (hb.cell (p := ⟨g, 2, none⟩) hg.1).trans h.2.2.1, (hb.cell (p := ⟨gs, 0, none⟩) hg.2).trans h.2.2.2.1, (hb.cell (p := ⟨gs, 1, none⟩) hg.2).trans h.2.2.2.2⟩
end Go.Proofs.YtgfanoejohpmkaaGreat