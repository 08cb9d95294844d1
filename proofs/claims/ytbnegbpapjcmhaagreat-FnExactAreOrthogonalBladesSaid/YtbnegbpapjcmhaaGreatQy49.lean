/-
  AreOrthogonalBlades (model): contracts of the program and of the model.
  Conditions: the lists are nil or rows of known cells, of at most 1048576 numbers.
-/
import Derived.Test.YtbnegbpapjcmhaaGreatQy48
import Derived.Test.YtbnegbpapjcmhaaGreatQy39
import Derived.Deep.RegionHeld3
import Derived.Deep.DeepCutAuto
namespace Go.Proofs.YtbnegbpapjcmhaaGreat
open Go.RowKit
set_option linter.unusedVariables false

theorem below_dX {w w' : World} (h : Below w.drew.heap.size w.drew w') : Below w.heap.size w w' := (bdrew w).trans h
theorem ssP {B : Nat} {w w' : World} (h : Below B w w') {g b c i j : Nat} {u0 u1 u2 u3 : Value} (l : g < B ∧ b < B ∧ c < B) (k : w.cell? ⟨g, 0, none⟩ = some u0 ∧ w.cell? ⟨g, 1, none⟩ = some u1 ∧ w.cell? ⟨b, i, none⟩ = some u2 ∧ w.cell? ⟨c, j, none⟩ = some u3) : w'.cell? ⟨g, 0, none⟩ = some u0 ∧ w'.cell? ⟨g, 1, none⟩ = some u1 ∧ w'.cell? ⟨b, i, none⟩ = some u2 ∧ w'.cell? ⟨c, j, none⟩ = some u3 :=
  ⟨(h.cell (p := ⟨g, 0, none⟩) l.1).trans k.1, (h.cell (p := ⟨g, 1, none⟩) l.1).trans k.2.1, (h.cell (p := ⟨b, i, none⟩) l.2.1).trans k.2.2.1, (h.cell (p := ⟨c, j, none⟩) l.2.2).trans k.2.2.2⟩

set_option maxRecDepth 100000 in
set_option maxHeartbeats 6400000 in
theorem spec_AreOrthogonalBlades (pS : Int) (aS : Option Addr) (S : List Int) (cS loS tpS : Nat) (ax : Option Addr) (x : List Int) (cx lox tpx : Nat) (ay : Option Addr) (y : List Int) (cy loy tpy : Nat) (w : World) (hS : RowIn loS tpS w aS S) (tS : tpS ≤ w.heap.size) (sS : S.length ≤ 1048576) (hx : RowIn lox tpx w ax x) (tx : tpx ≤ w.heap.size) (sx : x.length ≤ 1048576) (hy : RowIn loy tpy w ay y) (ty : tpy ≤ w.heap.size) (sy : y.length ≤ 1048576) :
    Calls Tryz.prog 45 #[.agg #[.int .i64 pS, .slice aS S.length cS], .slice ax x.length cx, .slice ay y.length cy] w (RetB (aobV pS S x y) (codeB pS S [x, y]) w) := by
  have HS := Lib.hid hS
  have Hx := Lib.hid hx
  have Hy := Lib.hid hy
  clear hS hx hy
  by_cases hc : codeB pS S [x, y] = 0
  · have HC := Lib.hid hc
    have hb := codeB_two hc
    have HI := Lib.hid hb.1
    have HMX := Lib.hid hb.2.1.1
    have HMY := Lib.hid hb.2.1.2
    have HV : Hid (aobV pS S x y = ortAll pS S (subM pS S x) (subM pS S y) (subM pS S x).length) := by show _ = _; unfold aobV; rw [if_pos hc]
    clear hc hb
    go_enter Tryz.func45, Tryz.ntmps45
    go_upto_region 4 with (first | (go_at_call 48; (with_reducible refine (l06CodeA2 pS aS S cS loS tpS ax x cx lox tpx ay y cy loy tpy (w.heap.size + 1) _ _ _ (by simp) (HS.out.below ((Below.refl _ _).alloc (Nat.le_refl _) (.cells #[.int .i64 pS, .slice aS S.length cS] 29)) tS) (Nat.le_trans tS (((Below.refl _ _).alloc (Nat.le_refl _) (.cells #[.int .i64 pS, .slice aS S.length cS] 29))).size) sS (Hx.out.below ((Below.refl _ _).alloc (Nat.le_refl _) (.cells #[.int .i64 pS, .slice aS S.length cS] 29)) tx) (Nat.le_trans tx (((Below.refl _ _).alloc (Nat.le_refl _) (.cells #[.int .i64 pS, .slice aS S.length cS] 29))).size) sx (Hy.out.below ((Below.refl _ _).alloc (Nat.le_refl _) (.cells #[.int .i64 pS, .slice aS S.length cS] 29)) ty) (Nat.le_trans ty (((Below.refl _ _).alloc (Nat.le_refl _) (.cells #[.int .i64 pS, .slice aS S.length cS] 29))).size) sy).mono ?_); rintro e w3 ⟨rfl, b3⟩; rw [HC.out]; have B3 := Lib.hid b3; have K3_0_0 := (b3.cell (p := ⟨w.heap.size, 0, none⟩) (Nat.lt_of_lt_of_le (show w.heap.size < (w.alloc (.cells #[.int .i64 pS, .slice aS S.length cS] 29)).heap.size by simp) (Nat.le_trans (Nat.le_refl _) (size_alloc (w.alloc (.cells #[.int .i64 pS, .slice aS S.length cS] 29)) (.cells #[.slice ax x.length cx, .slice ay y.length cy] 22))))).trans (show ((w.alloc (.cells #[.int .i64 pS, .slice aS S.length cS] 29)).alloc (.cells #[.slice ax x.length cx, .slice ay y.length cy] 22)).cell? ⟨w.heap.size, 0, none⟩ = some (.int .i64 pS) from (World.cell?_alloc_old _ _ _ (by simp)).trans (by simp [go_sem])); have K3_0_1 := (b3.cell (p := ⟨w.heap.size, 1, none⟩) (Nat.lt_of_lt_of_le (show w.heap.size < (w.alloc (.cells #[.int .i64 pS, .slice aS S.length cS] 29)).heap.size by simp) (Nat.le_trans (Nat.le_refl _) (size_alloc (w.alloc (.cells #[.int .i64 pS, .slice aS S.length cS] 29)) (.cells #[.slice ax x.length cx, .slice ay y.length cy] 22))))).trans (show ((w.alloc (.cells #[.int .i64 pS, .slice aS S.length cS] 29)).alloc (.cells #[.slice ax x.length cx, .slice ay y.length cy] 22)).cell? ⟨w.heap.size, 1, none⟩ = some (.slice aS S.length cS) from (World.cell?_alloc_old _ _ _ (by simp)).trans (by simp [go_sem])); clear b3))
    have HCU : Hid (Below w.heap.size w w3) := (below_step (((Below.refl _ _).alloc (Nat.le_refl _) (.cells #[.int .i64 pS, .slice aS S.length cS] 29)).alloc (show w.heap.size ≤ (w.alloc (.cells #[.int .i64 pS, .slice aS S.length cS] 29)).heap.size from (((Below.refl _ _).alloc (Nat.le_refl _) (.cells #[.int .i64 pS, .slice aS S.length cS] 29))).size) (.cells #[.slice ax x.length cx, .slice ay y.length cy] 22)) (show w.heap.size ≤ ((w.alloc (.cells #[.int .i64 pS, .slice aS S.length cS] 29)).alloc (.cells #[.slice ax x.length cx, .slice ay y.length cy] 22)).heap.size from ((((Below.refl _ _).alloc (Nat.le_refl _) (.cells #[.int .i64 pS, .slice aS S.length cS] 29)).alloc (show w.heap.size ≤ (w.alloc (.cells #[.int .i64 pS, .slice aS S.length cS] 29)).heap.size from (((Below.refl _ _).alloc (Nat.le_refl _) (.cells #[.int .i64 pS, .slice aS S.length cS] 29))).size) (.cells #[.slice ax x.length cx, .slice ay y.length cy] 22))).size) B3.out)
    have HBD : Hid (Below w.heap.size w w3.drew) := HCU.out.drew
    have hs1 : Hid (w3.drew.cell? ⟨w.heap.size, 0, none⟩ = some (.int .i64 pS) ∧ w3.drew.cell? ⟨w.heap.size, 1, none⟩ = some (.slice aS S.length cS)) := ⟨K3_0_0, K3_0_1⟩
    have hd0 : w.heap.size < w3.drew.heap.size := (Nat.lt_of_lt_of_le (show w.heap.size < (w.alloc (.cells #[.int .i64 pS, .slice aS S.length cS] 29)).heap.size by simp) (Nat.le_trans (Nat.le_trans (Nat.le_refl _) (size_alloc (w.alloc (.cells #[.int .i64 pS, .slice aS S.length cS] 29)) (.cells #[.slice ax x.length cx, .slice ay y.length cy] 22))) B3.out.size))
    go_region_held3 (fun w' => w'.cell? ⟨w.heap.size, 0, none⟩ = some (.int .i64 pS) ∧ w'.cell? ⟨w.heap.size, 1, none⟩ = some (.slice aS S.length cS)) (first | exact hs1.out | exact SSa.out | exact SSab.out | go_keep) (first | (go_at_call 49; (with_reducible refine (l06Subspace_any pS aS S cS loS tpS ax x cx lox tpx w3.drew HI.out (HS.out.below HBD.out tS) (Nat.le_trans tS (HBD.out).size) (Hx.out.below HBD.out tx) (Nat.le_trans tx (HBD.out).size) HMX.out).mono ?_); rintro e wa ⟨ra, ka, rfl, o_, b_⟩; have SSa := Lib.hid (ss2 b_ hd0 hs1.out); have HBa := Lib.hid (below_step HBD.out (Nat.le_of_lt hd0) b_); have zz_ := b_.size; have hda := Nat.lt_of_lt_of_le hd0 zz_; have Ma_a := Lib.hid (o_.mono (Nat.le_of_lt hd0) (Nat.le_refl _)); clear b_ o_) | (go_at_call 49; (with_reducible refine (l06Subspace_any pS aS S cS loS tpS ay y cy loy tpy wa HI.out (HS.out.below HBa.out tS) (Nat.le_trans tS (HBa.out).size) (Hy.out.below HBa.out ty) (Nat.le_trans ty (HBa.out).size) HMY.out).mono ?_); rintro e wab ⟨rb, kb, rfl, o_, b_⟩; have SSab := Lib.hid (ss2 b_ hda SSa.out); have HBab := Lib.hid (below_step HBa.out (Nat.le_of_lt hda) b_); have zz_ := b_.size; have hdab := Nat.lt_of_lt_of_le hda zz_; have Ma_ab := Lib.hid ((Ma_a.out.below b_ (Nat.le_refl _)).mono (Nat.le_refl _) zz_); have Mb_ab := Lib.hid (o_.mono (Nat.le_of_lt hda) (Nat.le_refl _)); clear b_ o_))
    obtain ⟨A, hA⟩ : ∃ a, a = subM pS S x := ⟨_, rfl⟩
    obtain ⟨B, hB⟩ : ∃ a, a = subM pS S y := ⟨_, rfl⟩
    have HLA : Hid (listB pS S A = true) := by show _ = _; rw [hA]; exact sub_list HI.out
    have HLB : Hid (listB pS S B = true) := by show _ = _; rw [hB]; exact sub_list HI.out
    have hA6 : A.length ≤ 6 := by rw [hA]; exact sub_le HI.out
    have hB6 : B.length ≤ 6 := by rw [hB]; exact sub_le HI.out
    have MA := Lib.hid Ma_ab.out
    have MB := Lib.hid Mb_ab.out
    rw [← hA] at MA HV ⊢
    rw [← hB] at MB HV ⊢
    have KK := Lib.hid SSab.out
    have hd := hdab
    clear hA hB
    go_wp2
    go_loopw [11] (fun t wr => ∃ i : Nat, i ≤ A.length ∧ t = .int .i64 i ∧ (∀ j, j < i → aptB pS S (rw' A j) B B.length = false) ∧ (wr.cell? ⟨w.heap.size, 0, none⟩ = some (.int .i64 pS) ∧ wr.cell? ⟨w.heap.size, 1, none⟩ = some (.slice aS S.length cS)) ∧ Below wab.heap.size wab wr) (fun t _ => A.length - (intOf t).toNat)
    case atStart => exact ⟨0, Nat.zero_le _, rfl, fun j hj => by omega, KK.out, Below.refl _ _⟩
    case round =>
      obtain ⟨i, hi, rfl, hd1, hk, hbel⟩ := hrel
      have HD := Lib.hid hd1
      have HK := Lib.hid hk
      have HB := Lib.hid hbel
      by_cases hlt : i < A.length
      · have hi1 : (i : Int) < (A.length : Int) := Int.ofNat_lt.2 hlt
        have hzo := hbel.size
        clear hd1 hk hbel
        rename World => wo
        go_wp2
        go_loopw [12] (fun t wr => ∃ k : Nat, k ≤ B.length ∧ t = .int .i64 k ∧ (∀ j, j < k → pairN pS S (rw' A i) (rw' B j) = 0) ∧ (wr.cell? ⟨w.heap.size, 0, none⟩ = some (.int .i64 pS) ∧ wr.cell? ⟨w.heap.size, 1, none⟩ = some (.slice aS S.length cS)) ∧ Below wab.heap.size wab wr) (fun t _ => B.length - (intOf t).toNat)
        case atStart => exact ⟨0, Nat.zero_le _, rfl, fun j hj => by omega, HK.out, HB.out⟩
        case round =>
          obtain ⟨k, hk', rfl, hd2, hk2, hbel⟩ := hrel
          have HD2 := Lib.hid hd2
          have HBk := Lib.hid hbel
          have hzk := hbel.size
          by_cases hltk : k < B.length
          · have hk1 : (k : Int) < (B.length : Int) := Int.ofNat_lt.2 hltk
            obtain ⟨b1, o1, r1, c1, ha1, _, hb1, hr1, hrow1⟩ := (MA.out.below hbel (Nat.le_refl _)).row hlt
            subst ha1
            obtain ⟨b2, o2, r2, c2, ha2, _, hb2, hr2, hrow2⟩ := (MB.out.below hbel (Nat.le_refl _)).row hltk
            subst ha2
            have hzd : wab.heap.size ≤ wr.drew.heap.size := hzk
            have HVA := Lib.hid ((listB_iff HLA.out).2 i hlt)
            have HVB := Lib.hid ((listB_iff HLB.out).2 k hltk)
            have HR1 := Lib.hid (hrow1.below (bdrew wr) hzk)
            have HR2 := Lib.hid (hrow2.below (bdrew wr) hzk)
            have hs1 : Hid (wr.drew.cell? ⟨w.heap.size, 0, none⟩ = some (.int .i64 pS) ∧ wr.drew.cell? ⟨w.heap.size, 1, none⟩ = some (.slice aS S.length cS) ∧ wr.drew.cell? ⟨b1, o1 + i, none⟩ = some (.slice r1 (rw' A i).length c1) ∧ wr.drew.cell? ⟨b2, o2 + k, none⟩ = some (.slice r2 (rw' B k).length c2)) := ⟨hk2.1, hk2.2, hr1, hr2⟩
            have HBD : Hid (Below w.heap.size w wr.drew) := (HBab.out.trans (hbel.mono (Nat.le_of_lt hd))).drew
            have hl4 : w.heap.size < wr.drew.heap.size ∧ b1 < wr.drew.heap.size ∧ b2 < wr.drew.heap.size := ⟨Nat.lt_of_lt_of_le hd hzk, Nat.lt_of_lt_of_le hb1 hzk, Nat.lt_of_lt_of_le hb2 hzk⟩
            clear hd2 hk2 hbel hrow1 hrow2 hr1 hr2
            by_cases hp0 : pairN pS S (rw' A i) (rw' B k) = 0
            · have HP := Lib.hid hp0
              clear hp0
              go_wp2
              go_region_held3 (fun w' => w'.cell? ⟨w.heap.size, 0, none⟩ = some (.int .i64 pS) ∧ w'.cell? ⟨w.heap.size, 1, none⟩ = some (.slice aS S.length cS) ∧ w'.cell? ⟨b1, o1 + i, none⟩ = some (.slice r1 (rw' A i).length c1) ∧ w'.cell? ⟨b2, o2 + k, none⟩ = some (.slice r2 (rw' B k).length c2)) (first | exact hs1.out | exact SSa.out | go_keep) ((go_at_call 78; ((with_reducible refine (l03Pair_any pS aS S cS loS tpS r1 (rw' A i) c1 w.heap.size wab.heap.size r2 (rw' B k) c2 w.heap.size wab.heap.size wr.drew (HS.out.below HBD.out tS) (Nat.le_trans tS HBD.out.size) HR1.out hzd HR2.out hzd HI.out HVA.out HVB.out).mono ?_); rintro e wa ⟨rfl, b_⟩; rw [HP.out]; have SSa := Lib.hid (ssP b_ hl4 hs1.out); have HWa := Lib.hid (below_step HBD.out HBD.out.size b_); have Ba := Lib.hid (HBk.out.trans ((below_dX b_).mono hzk)); clear b_)))
              all_goals
                go_wp2
                go_roundw
                case rel => exact ⟨k + 1, by omega, by go_num, fun j hj => by
                  by_cases e : j = k
                  · subst e; exact HP.out
                  · exact HD2.out j (by omega), ⟨SSa.out.1, SSa.out.2.1⟩, Ba.out⟩
                case measure => simp [intOf]; omega
            · have HNO : Hid (ortAll pS S A B A.length = false) := ortAll_no hlt (aptB_yes hltk hp0)
              obtain ⟨Q, hQ⟩ : ∃ q, q = pairN pS S (rw' A i) (rw' B k) := ⟨_, rfl⟩
              have HP : Hid (pairN pS S (rw' A i) (rw' B k) = Q) := hQ.symm
              have hq1 : (Q != 0) = true := by rw [hQ]; simpa using hp0
              clear hp0 hQ
              go_wp2
              go_region_held3 (fun w' => w'.cell? ⟨w.heap.size, 0, none⟩ = some (.int .i64 pS) ∧ w'.cell? ⟨w.heap.size, 1, none⟩ = some (.slice aS S.length cS) ∧ w'.cell? ⟨b1, o1 + i, none⟩ = some (.slice r1 (rw' A i).length c1) ∧ w'.cell? ⟨b2, o2 + k, none⟩ = some (.slice r2 (rw' B k).length c2)) (first | exact hs1.out | exact SSa.out | go_keep) ((go_at_call 78; ((with_reducible refine (l03Pair_any pS aS S cS loS tpS r1 (rw' A i) c1 w.heap.size wab.heap.size r2 (rw' B k) c2 w.heap.size wab.heap.size wr.drew (HS.out.below HBD.out tS) (Nat.le_trans tS HBD.out.size) HR1.out hzd HR2.out hzd HI.out HVA.out HVB.out).mono ?_); rintro e wa ⟨rfl, b_⟩; rw [HP.out]; have SSa := Lib.hid (ssP b_ hl4 hs1.out); have HWa := Lib.hid (below_step HBD.out HBD.out.size b_); have Ba := Lib.hid (HBk.out.trans ((below_dX b_).mono hzk)); clear b_)))
              all_goals
                go_wp2
                go_ret2
                exact ⟨by rw [HV.out, HC.out, HNO.out]; rfl, HWa.out⟩
          · have hkn : k = B.length := by omega
            have HAPT : Hid (aptB pS S (rw' A i) B B.length = false) := aptB_no fun j hj => hd2 j (by omega)
            have hk3 : ¬ ((k : Int) < (B.length : Int)) := by omega
            have HK2 := Lib.hid hk2
            clear hd2 hk2 hbel
            go_wp2
            go_roundw
            case rel => exact ⟨i + 1, by omega, by go_num, fun j hj => by
              by_cases e : j = i
              · subst e; exact HAPT.out
              · exact HD.out j (by omega), HK2.out, HBk.out⟩
            case measure => simp [intOf]; omega
      · have hin : i = A.length := by omega
        have HYES : Hid (ortAll pS S A B A.length = true) := ortAll_yes fun j hj => hd1 j (by omega)
        have hi2 : ¬ ((i : Int) < (A.length : Int)) := by omega
        have HWW : Hid (Below w.heap.size w wr) := HBab.out.trans (hbel.mono (Nat.le_of_lt hd))
        clear hd1 hk hbel
        go_wp2
        go_ret2
        exact ⟨by rw [HV.out, HC.out, HYES.out]; rfl, HWW.out⟩
  · have HV : Hid (aobV pS S x y = false) := by show _ = _; unfold aobV; rw [if_neg hc]
    obtain ⟨C, hC⟩ : ∃ c, c = codeB pS S [x, y] := ⟨_, rfl⟩
    have hc1 : (C != 0) = true := by rw [hC]; simpa using hc
    have HCE := Lib.hid hC
    clear hc hC
    go_enter Tryz.func45, Tryz.ntmps45
    go_wp2_with (first | (go_at_call 48; (with_reducible refine (l06CodeA2 pS aS S cS loS tpS ax x cx lox tpx ay y cy loy tpy (w.heap.size + 1) _ _ _ (by simp) (HS.out.below ((Below.refl _ _).alloc (Nat.le_refl _) (.cells #[.int .i64 pS, .slice aS S.length cS] 29)) tS) (Nat.le_trans tS (((Below.refl _ _).alloc (Nat.le_refl _) (.cells #[.int .i64 pS, .slice aS S.length cS] 29))).size) sS (Hx.out.below ((Below.refl _ _).alloc (Nat.le_refl _) (.cells #[.int .i64 pS, .slice aS S.length cS] 29)) tx) (Nat.le_trans tx (((Below.refl _ _).alloc (Nat.le_refl _) (.cells #[.int .i64 pS, .slice aS S.length cS] 29))).size) sx (Hy.out.below ((Below.refl _ _).alloc (Nat.le_refl _) (.cells #[.int .i64 pS, .slice aS S.length cS] 29)) ty) (Nat.le_trans ty (((Below.refl _ _).alloc (Nat.le_refl _) (.cells #[.int .i64 pS, .slice aS S.length cS] 29))).size) sy).mono ?_); rintro e w3 ⟨rfl, b3⟩; rw [← HCE.out]; have B3 := Lib.hid b3; have K3_0_0 := (b3.cell (p := ⟨w.heap.size, 0, none⟩) (Nat.lt_of_lt_of_le (show w.heap.size < (w.alloc (.cells #[.int .i64 pS, .slice aS S.length cS] 29)).heap.size by simp) (Nat.le_trans (Nat.le_refl _) (size_alloc (w.alloc (.cells #[.int .i64 pS, .slice aS S.length cS] 29)) (.cells #[.slice ax x.length cx, .slice ay y.length cy] 22))))).trans (show ((w.alloc (.cells #[.int .i64 pS, .slice aS S.length cS] 29)).alloc (.cells #[.slice ax x.length cx, .slice ay y.length cy] 22)).cell? ⟨w.heap.size, 0, none⟩ = some (.int .i64 pS) from (World.cell?_alloc_old _ _ _ (by simp)).trans (by simp [go_sem])); have K3_0_1 := (b3.cell (p := ⟨w.heap.size, 1, none⟩) (Nat.lt_of_lt_of_le (show w.heap.size < (w.alloc (.cells #[.int .i64 pS, .slice aS S.length cS] 29)).heap.size by simp) (Nat.le_trans (Nat.le_refl _) (size_alloc (w.alloc (.cells #[.int .i64 pS, .slice aS S.length cS] 29)) (.cells #[.slice ax x.length cx, .slice ay y.length cy] 22))))).trans (show ((w.alloc (.cells #[.int .i64 pS, .slice aS S.length cS] 29)).alloc (.cells #[.slice ax x.length cx, .slice ay y.length cy] 22)).cell? ⟨w.heap.size, 1, none⟩ = some (.slice aS S.length cS) from (World.cell?_alloc_old _ _ _ (by simp)).trans (by simp [go_sem])); clear b3))
    go_ret2
    exact ⟨by rw [HV.out, ← HCE.out]; rfl, (below_step (((Below.refl _ _).alloc (Nat.le_refl _) (.cells #[.int .i64 pS, .slice aS S.length cS] 29)).alloc (show w.heap.size ≤ (w.alloc (.cells #[.int .i64 pS, .slice aS S.length cS] 29)).heap.size from (((Below.refl _ _).alloc (Nat.le_refl _) (.cells #[.int .i64 pS, .slice aS S.length cS] 29))).size) (.cells #[.slice ax x.length cx, .slice ay y.length cy] 22)) (show w.heap.size ≤ ((w.alloc (.cells #[.int .i64 pS, .slice aS S.length cS] 29)).alloc (.cells #[.slice ax x.length cx, .slice ay y.length cy] 22)).heap.size from ((((Below.refl _ _).alloc (Nat.le_refl _) (.cells #[.int .i64 pS, .slice aS S.length cS] 29)).alloc (show w.heap.size ≤ (w.alloc (.cells #[.int .i64 pS, .slice aS S.length cS] 29)).heap.size from (((Below.refl _ _).alloc (Nat.le_refl _) (.cells #[.int .i64 pS, .slice aS S.length cS] 29))).size) (.cells #[.slice ax x.length cx, .slice ay y.length cy] 22))).size) B3.out)⟩

end Go.Proofs.YtbnegbpapjcmhaaGreat
