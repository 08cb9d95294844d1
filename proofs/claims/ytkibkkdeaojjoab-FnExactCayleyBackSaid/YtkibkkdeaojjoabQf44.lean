/-
  The model's l03Isometry: contract.
  Conditions: both are spaces; the matrix is nil or of rows of known cells, of at most 1048576 numbers together.
-/
import Derived.Test.YtkibkkdeaojjoabQf43
import Derived.Test.YtkibkkdeaojjoabQf12
import Derived.Test.YtkibkkdeaojjoabQf25
import Derived.Test.YtkibkkdeaojjoabQf30
import Derived.Test.YtkibkkdeaojjoabQf35
import Derived.Test.YtkibkkdeaojjoabQf34
import Derived.Deep.RegionHeld3
import Derived.Deep.DeepCutAuto
namespace Go.Proofs.Ytkibkkdeaojjoab
open Go.RowKit
set_option linter.unusedVariables false

/-- Both spaces in their boxes. -/
def TB (g : Nat) (pS : Int) (aS : Option Addr) (nS cS : Nat) (pT : Int) (aT : Option Addr) (nT cT : Nat) (W : World) : Prop :=
  W.cell? ⟨g, 0, none⟩ = some (.int .i64 pS) ∧ W.cell? ⟨g, 1, none⟩ = some (.slice aS nS cS) ∧ W.cell? ⟨g + 1, 0, none⟩ = some (.int .i64 pT) ∧ W.cell? ⟨g + 1, 1, none⟩ = some (.slice aT nT cT)
theorem TB.below {g nS cS nT cT B : Nat} {pS pT : Int} {aS aT : Option Addr} {w w' : World} (h : TB g pS aS nS cS pT aT nT cT w) (b : Below B w w') (l : g + 1 < B) : TB g pS aS nS cS pT aT nT cT w' :=
  ⟨(b.cell (p := ⟨g, 0, none⟩) (show g < B by omega)).trans h.1, (b.cell (p := ⟨g, 1, none⟩) (show g < B by omega)).trans h.2.1, (b.cell (p := ⟨g + 1, 0, none⟩) l).trans h.2.2.1, (b.cell (p := ⟨g + 1, 1, none⟩) l).trans h.2.2.2⟩
theorem TB.new (w : World) (pS pT : Int) (aS aT : Option Addr) (nS cS nT cT : Nat) (Ty : TypeId) : TB w.heap.size pS aS nS cS pT aT nT cT ((w.alloc (.cells #[.int .i64 pS, .slice aS nS cS] Ty)).alloc (.cells #[.int .i64 pT, .slice aT nT cT] Ty)) := by
  have h1 : (w.alloc (.cells #[.int .i64 pS, .slice aS nS cS] Ty)).heap.size = w.heap.size + 1 := by simp
  have b := below_alloc (w.alloc (.cells #[.int .i64 pS, .slice aS nS cS] Ty)) (.cells #[.int .i64 pT, .slice aT nT cT] Ty)
  refine ⟨(b.cell (p := ⟨w.heap.size, 0, none⟩) (by rw [h1]; exact Nat.lt_succ_self _)).trans (nw0 w _ _ _), (b.cell (p := ⟨w.heap.size, 1, none⟩) (by rw [h1]; exact Nat.lt_succ_self _)).trans (nw1 w _ _ _), ?_, ?_⟩
  · have := nw0 (w.alloc (.cells #[.int .i64 pS, .slice aS nS cS] Ty)) (.int .i64 pT) (.slice aT nT cT) Ty
    rw [h1] at this; exact this
  · have := nw1 (w.alloc (.cells #[.int .i64 pS, .slice aS nS cS] Ty)) (.int .i64 pT) (.slice aT nT cT) Ty
    rw [h1] at this; exact this
theorem tr_len7 (m : List (List Int)) : (trM m).length = (rw' m 0).length := mk_len _ _ _
theorem tr_vec {p : Int} {n : Nat} {m : List (List Int)} (hm : Lst 1 p m) (hl : m.length = n) (hc : (rw' m 0).length = n) : ∀ i, i < n → isVec p n (rw' (trM m) i) = true := fun i hi => by
  have e : rw' (trM m) i = mkR m.length fun j => at' m j i := mk_row _ (by rw [hc]; exact hi)
  refine isVec_iff.2 ⟨by rw [e, mkR_len, hl], ?_⟩
  rw [e, List.all_eq_true]
  intro y hy
  obtain ⟨j, hj, rfl⟩ := List.getElem_of_mem hy
  rw [← getD_at hj]
  rw [mkR_len] at hj
  rw [mkR_at _ hj]
  exact inr_iff.2 (hm.at hj (by rw [hc]; exact hi))
theorem ism_no {p q : Int} {S T : List Int} {m : List (List Int)} (h : ismF p q S T m = false) : ismB p q S T m = false := by
  unfold ismB; rw [h]; rfl

set_option maxRecDepth 100000 in
set_option maxHeartbeats 6400000 in
theorem l03Isometry_any (pS : Int) (aS : Option Addr) (S : List Int) (cS loS tpS : Nat) (pT : Int) (aT : Option Addr) (T : List Int) (cT loT tpT : Nat) (am : Option Addr) (m : List (List Int)) (cm lom tpm : Nat) (w : World) (hs : isSp pS S = true) (hj : isSp pT T = true) (hS : RowIn loS tpS w aS S) (tS : tpS ≤ w.heap.size) (hT : RowIn loT tpT w aT T) (tT : tpT ≤ w.heap.size) (hm : MatIn lom tpm w am m) (tm : tpm ≤ w.heap.size) (sm' : m.length + tot m m.length ≤ 1048576) :
    Calls Try.prog 64 #[.agg #[.int .i64 pS, .slice aS S.length cS], .agg #[.int .i64 pT, .slice aT T.length cT], .slice am m.length cm] w fun e w' => e = .returned (.bool (ismB pS pT S T m)) ∧ Below w.heap.size w w' := by
  have HI := Lib.hid hs
  have HJ := Lib.hid hj
  have HS := Lib.hid hS
  have HT := Lib.hid hT
  have HM := Lib.hid hm
  have h6 := (isSp_iff.1 hs).hi
  have h1S := (isSp_iff.1 hs).lo
  have h6T := (isSp_iff.1 hj).hi
  have hpb := prm_bd (isSp_iff.1 hs).prime
  have HSR : Hid (∀ i, i < m.length → (rw' m i).length ≤ 1048576) := fun i hi => by have := tot_row hi; omega
  have hml : m.length ≤ 1048576 := by omega
  clear hs hj hS hT hm sm'
  go_enter Try.func64, Try.ntmps64
  go_upto_region 1 with fail
  obtain ⟨w1, hw1⟩ : ∃ z, z = (w.alloc (.cells #[.int .i64 pS, .slice aS S.length cS] 30)).alloc (.cells #[.int .i64 pT, .slice aT T.length cT] 30) := ⟨_, rfl⟩
  have B1 : Hid (TB w.heap.size pS aS S.length cS pT aT T.length cT w1) := by show TB _ _ _ _ _ _ _ _ _ _; rw [hw1]; exact TB.new _ _ _ _ _ _ _ _ _ _
  have HB1 : Hid (Below w.heap.size w w1) := by show Below _ _ _; rw [hw1]; exact (below_alloc w _).alloc (size_alloc _ _) _
  have hd1 : w.heap.size + 1 < w1.heap.size := by rw [hw1]; simp
  rw [← hw1]
  clear hw1
  have kk0 := B1.out.1
  have kk1 := B1.out.2.1
  have kk2 := B1.out.2.2.1
  have kk3 := B1.out.2.2.2
  by_cases hp : pS = pT
  · subst hp
    have hpe : (pS != pS) = false := by simp
    by_cases hl : T.length = S.length
    · have hle : ((T.length : Int) != (S.length : Int)) = false := by rw [hl]; simp
      by_cases hn : m.length = S.length
      · have hne : ((m.length : Int) != (S.length : Int)) = false := by rw [hn]; simp
        cases hi : isM pS m with
        | false =>
          have HIM := Lib.hid hi
          have EN : Hid (ismB pS pS S T m = false) := ism_no (by
              cases e : ismF pS pS S T m with
              | false => rfl
              | true => obtain ⟨f1, f2, f3, f4, f5⟩ := ismF_iff.1 e; exact absurd f4 (by rw [hi]; decide))
          have HLL := Lib.hid (And.intro hl hn)
          clear hi hl hn
          go_wp2_with (first | (go_at_call 62; ((with_reducible refine (l02Is_any pS am m cm lom tpm w1 (HM.out.below HB1.out tm) (by omega) (fun i hi => by have := HSR.out i hi; omega)).mono ?_); rintro e w2 ⟨rfl, q_⟩; rw [HIM.out]; have b_ := q_.below w1.heap.size; have B2 := Lib.hid (B1.out.below b_ hd1); have HB2 := Lib.hid (below_step HB1.out (Nat.le_of_lt (Nat.lt_of_succ_lt hd1)) b_); have hd2 := Nat.lt_of_lt_of_le hd1 b_.size; clear b_ q_ kk0 kk1 kk2 kk3; have kk0 := B2.out.1; have kk1 := B2.out.2.1; have kk2 := B2.out.2.2.1; have kk3 := B2.out.2.2.2)))
          go_ret
          exact ⟨by rw [EN.out]; rfl, HB2.out⟩
        | true =>
          have HIM := Lib.hid hi
          have HLS := Lib.hid (isL_iff.1 hi)
          have hm0 : 0 < m.length := by omega
          have hm6 : m.length ≤ 6 := by omega
          have hm1 : (0 : Int) < (m.length : Int) := by omega
          obtain ⟨b9, o9, r9, c9, ha9, hb8, hb9, hr9, hrow⟩ := (HM.out.below HB1.out tm).row hm0
          rw [Nat.add_zero] at hr9
          have HR9 := Lib.hid hr9
          have hb9' : b9 < w1.heap.size := Nat.lt_of_lt_of_le hb9 (Nat.le_trans tm HB1.out.size)
          subst ha9
          clear hi hr9 hrow
          by_cases hc : (rw' m 0).length = S.length
          · have hce : (((rw' m 0).length : Int) != (S.length : Int)) = false := by rw [hc]; simp
            have HSQ : Hid ((rw' m 0).length = m.length) := by show _ = _; rw [hc, hn]
            have HF : Hid (ismF pS pS S T m = true) := ismF_iff.2 ⟨rfl, hl, hn, HIM.out, hc⟩
            by_cases hd : detP pS m = 0
            · have HDE := Lib.hid hd
              have EN : Hid (ismB pS pS S T m = false) := by show _ = _; unfold ismB; rw [decide_eq_false (fun h => h hd)]; simp
              have HLL := Lib.hid (And.intro hl (And.intro hn hc))
              clear hd hl hn hc
              go_wp2_with (first | (go_at_call 62; ((with_reducible refine (l02Is_any pS (some ⟨b9, o9, none⟩) m cm lom tpm w1 (HM.out.below HB1.out tm) (by omega) (fun i hi => by have := HSR.out i hi; omega)).mono ?_); rintro e w2 ⟨rfl, q_⟩; rw [HIM.out]; have b_ := q_.below w1.heap.size; have B2 := Lib.hid (B1.out.below b_ hd1); have HB2 := Lib.hid (below_step HB1.out (Nat.le_of_lt (Nat.lt_of_succ_lt hd1)) b_); have hd2 := Nat.lt_of_lt_of_le hd1 b_.size; have hr9 := (b_.cell (p := ⟨b9, o9, none⟩) hb9').trans HR9.out; have HR92 := Lib.hid hr9; clear b_ q_ kk0 kk1 kk2 kk3; have kk0 := B2.out.1; have kk1 := B2.out.2.1; have kk2 := B2.out.2.2.1; have kk3 := B2.out.2.2.2)) | (go_at_call 47; ((with_reducible refine (l02Det_any pS (some ⟨b9, o9, none⟩) m cm lom tpm w2 HLS.out.prime (HM.out.below HB2.out tm) (Nat.le_trans tm HB2.out.size) hm0 (by omega) (fun i hi => by rw [HLS.out.len i hi]; exact HSQ.out) (fun i hi j hj => HLS.out.at hi (by rw [HSQ.out]; exact hj))).mono ?_); rintro e w3 ⟨rfl, b_⟩; rw [HDE.out]; have B3 := Lib.hid (B2.out.below b_ hd2); have HB3 := Lib.hid (below_step HB2.out (Nat.le_of_lt (Nat.lt_of_succ_lt hd2)) b_); have hd3 := Nat.lt_of_lt_of_le hd2 b_.size; clear b_ kk0 kk1 kk2 kk3 hr9; have kk0 := B3.out.1; have kk1 := B3.out.2.1; have kk2 := B3.out.2.2.1; have kk3 := B3.out.2.2.2)))
              go_ret
              exact ⟨by rw [EN.out]; rfl, HB3.out⟩
            · obtain ⟨D, hD⟩ : ∃ D, D = detP pS m := ⟨_, rfl⟩
              have HDE : Hid (detP pS m = D) := hD.symm
              have hD0 : (D == 0) = false := by rw [hD]; exact beq_eq_false_iff_ne.2 hd
              have HDN : Hid (detP pS m ≠ 0) := hd
              obtain ⟨n, hnn⟩ : ∃ n, n = S.length := ⟨_, rfl⟩
              have HN := Lib.hid hnn
              have hn6 : n ≤ 6 := by omega
              have HTN : Hid (T.length = n) := by show _ = _; rw [hl, hnn]
              have HCN : Hid ((trM m).length = n) := by show _ = _; rw [tr_len7, hc, hnn]
              have HVC : Hid (∀ i, i < n → isVec pS T.length (rw' (trM m) i) = true) := by show ∀ _, _; rw [HTN.out]; exact tr_vec HLS.out (by rw [hn, hnn]) (by rw [hc, hnn])
              have EB : Hid (ismB pS pS S T m = colB pS S T m) := by show _ = _; unfold ismB; rw [HF.out, decide_eq_true HDN.out]; rfl
              have HLL := Lib.hid (And.intro hl (And.intro hn hc))
              clear hd hD hl hn hc hnn
              go_upto_region 6 with (first | (go_at_call 62; ((with_reducible refine (l02Is_any pS (some ⟨b9, o9, none⟩) m cm lom tpm w1 (HM.out.below HB1.out tm) (by omega) (fun i hi => by have := HSR.out i hi; omega)).mono ?_); rintro e w2 ⟨rfl, q_⟩; rw [HIM.out]; have b_ := q_.below w1.heap.size; have B2 := Lib.hid (B1.out.below b_ hd1); have HB2 := Lib.hid (below_step HB1.out (Nat.le_of_lt (Nat.lt_of_succ_lt hd1)) b_); have hd2 := Nat.lt_of_lt_of_le hd1 b_.size; have hr9 := (b_.cell (p := ⟨b9, o9, none⟩) hb9').trans HR9.out; have HR92 := Lib.hid hr9; clear b_ q_ kk0 kk1 kk2 kk3; have kk0 := B2.out.1; have kk1 := B2.out.2.1; have kk2 := B2.out.2.2.1; have kk3 := B2.out.2.2.2)) | (go_at_call 47; ((with_reducible refine (l02Det_any pS (some ⟨b9, o9, none⟩) m cm lom tpm w2 HLS.out.prime (HM.out.below HB2.out tm) (Nat.le_trans tm HB2.out.size) hm0 (by omega) (fun i hi => by rw [HLS.out.len i hi]; exact HSQ.out) (fun i hi j hj => HLS.out.at hi (by rw [HSQ.out]; exact hj))).mono ?_); rintro e w3 ⟨rfl, b_⟩; rw [HDE.out]; have B3 := Lib.hid (B2.out.below b_ hd2); have HB3 := Lib.hid (below_step HB2.out (Nat.le_of_lt (Nat.lt_of_succ_lt hd2)) b_); have hd3 := Nat.lt_of_lt_of_le hd2 b_.size; clear b_ kk0 kk1 kk2 kk3 hr9; have kk0 := B3.out.1; have kk1 := B3.out.2.1; have kk2 := B3.out.2.2.1; have kk3 := B3.out.2.2.2)) | (go_at_call 57; ((with_reducible refine (l02Turn_any (some ⟨b9, o9, none⟩) m cm lom tpm w3 (HM.out.below HB3.out tm) (Nat.le_trans tm HB3.out.size) hm0 HLS.out.len (by omega) (by rw [HSQ.out]; omega)).mono ?_); rintro e w4 ⟨rc, kc, rfl, o_, b_⟩; have B4 := Lib.hid (B3.out.below b_ hd3); have HB4 := Lib.hid (below_step HB3.out (Nat.le_of_lt (Nat.lt_of_succ_lt hd3)) b_); have hd4 := Nat.lt_of_lt_of_le hd3 b_.size; have MC := Lib.hid (o_.mono (Nat.le_of_lt (Nat.lt_of_succ_lt hd3)) (Nat.le_refl _)); clear o_ b_ kk0 kk1 kk2 kk3; have kk0 := B4.out.1; have kk1 := B4.out.2.1; have kk2 := B4.out.2.2.1; have kk3 := B4.out.2.2.2)))
              go_loopw [9] (fun t wr => ∃ i : Nat, i ≤ n ∧ t = .int .i64 i ∧ (∀ i', i' < i → ∀ k, k ≤ i' → pairN pS T (rw' (trM m) i') (rw' (trM m) k) = wantF S i' k) ∧ TB w.heap.size pS aS S.length cS pS aT T.length cT wr ∧ Below w.heap.size w wr ∧ w.heap.size + 1 < wr.heap.size ∧ MatIn w.heap.size wr.heap.size wr rc (trM m)) (fun t _ => n - (intOf t).toNat)
              case atStart => exact ⟨0, Nat.zero_le _, rfl, fun i' hi' => absurd hi' (Nat.not_lt_zero _), B4.out, HB4.out, hd4, MC.out⟩
              case round =>
                obtain ⟨i, hi, rfl, hall, htb, hbw, hdw, hmc⟩ := hrel
                have HALL := Lib.hid hall
                have BR := Lib.hid htb
                have HBR := Lib.hid hbw
                have MR := Lib.hid hmc
                clear hall htb hbw hmc MC B4 HB4 hd4
                (try clear kk0 kk1 kk2 kk3)
                have hsn : (S.length : Int) = (n : Int) := by rw [HN.out]
                by_cases hlt : i < n
                · have hi1 : (i : Int) < (S.length : Int) := by rw [← HN.out]; omega
                  clear hsn
                  go_upto_region 9 with fail
                  go_loopw [10, 11] (fun u v wr => ∃ k : Nat, k ≤ i + 1 ∧ u = .int .i64 k ∧ (∀ k', k' < k → pairN pS T (rw' (trM m) i) (rw' (trM m) k') = wantF S i k') ∧ TB w.heap.size pS aS S.length cS pS aT T.length cT wr ∧ Below w.heap.size w wr ∧ w.heap.size + 1 < wr.heap.size ∧ MatIn w.heap.size wr.heap.size wr rc (trM m)) (fun u _ _ => i + 1 - (intOf u).toNat)
                  case atStart => exact ⟨0, Nat.zero_le _, rfl, fun k' hk' => absurd hk' (Nat.not_lt_zero _), BR.out, HBR.out, hdw, MR.out⟩
                  case round =>
                    obtain ⟨k, hk, rfl, hal2, htb, hbw, hdw2, hmc⟩ := hrel
                    have HAL2 := Lib.hid hal2
                    have BK := Lib.hid htb
                    have HBK := Lib.hid hbw
                    have MK := Lib.hid hmc
                    clear hal2 htb hbw hmc MR BR HBR hdw
                    have kk0 := BK.out.1
                    have kk1 := BK.out.2.1
                    by_cases hlk : k < i + 1
                    · have hk1 : (k : Int) ≤ (i : Int) := by omega
                      obtain ⟨W_, hW_⟩ : ∃ z, z = wantF S i k := ⟨_, rfl⟩
                      have HWW := Lib.hid hW_
                      obtain ⟨bs, os, has, _, _, hsq⟩ := (HS.out.below HBK.out tS).num (j := i) (by rw [← HN.out]; exact hlt)
                      subst has
                      obtain ⟨b7, o7, ri, ci, ha7, hb6, hb7, hr7, hrow7⟩ := MK.out.row (i := i) (by rw [HCN.out]; exact hlt)
                      obtain ⟨b5, o5, rk, ck, ha5, hb4, hb5, hr5, hrow5⟩ := MK.out.row (i := k) (by rw [HCN.out]; omega)
                      rw [ha7] at ha5
                      injection ha5 with ha5
                      injection ha5 with ha51 ha52
                      subst ha51
                      subst ha52
                      subst ha7
                      have hki : (k : Int) < ((trM m).length : Int) := by rw [HCN.out]; omega
                      have hii : (i : Int) < ((trM m).length : Int) := by rw [HCN.out]; omega
                      have HRI := Lib.hid hrow7
                      have HRK := Lib.hid hrow5
                      have HC7 := Lib.hid hr7
                      have HC5 := Lib.hid hr5
                      clear hrow7 hrow5 hr7 hr5 hW_
                      by_cases hik : i = k
                      · have hw1 : S.getD i 0 = W_ := by rw [HWW.out]; unfold wantF; rw [if_pos hik]
                        have hik1 : ((i : Int) == (k : Int)) = true := by rw [hik]; simp
                        have hi9 : (i : Int) < (S.length : Int) := by rw [← HN.out]; omega
                        rw [hw1] at hsq
                        have HIK := Lib.hid hik
                        clear hik hw1
                        go_upto_region 14 with fail
                        have BD : Hid (TB w.heap.size pS (some ⟨bs, os, none⟩) S.length cS pS aT T.length cT wr.drew) := BK.out.below (below_drew wr) hdw2
                        have HBD : Hid (Below w.heap.size w wr.drew) := HBK.out.drew
                        have hdd : w.heap.size + 1 < wr.drew.heap.size := hdw2
                        have MD : Hid (MatIn w.heap.size wr.drew.heap.size wr.drew (some ⟨b7, o7, none⟩) (trM m)) := MK.out.below (below_drew wr) (Nat.le_refl _)
                        have HRID : Hid (RowIn w.heap.size wr.heap.size wr.drew ri (rw' (trM m) i)) := HRI.out.below (below_drew wr) (Nat.le_refl _)
                        have HRKD : Hid (RowIn w.heap.size wr.heap.size wr.drew rk (rw' (trM m) k)) := HRK.out.below (below_drew wr) (Nat.le_refl _)
                        have SSd : Hid (wr.drew.cell? ⟨w.heap.size + 1, 0, none⟩ = some (.int .i64 pS) ∧ wr.drew.cell? ⟨w.heap.size + 1, 1, none⟩ = some (.slice aT T.length cT) ∧ wr.drew.cell? ⟨b7, o7 + i, none⟩ = some (.slice ri (rw' (trM m) i).length ci) ∧ wr.drew.cell? ⟨b7, o7 + k, none⟩ = some (.slice rk (rw' (trM m) k).length ck)) := ⟨BD.out.2.2.1, BD.out.2.2.2, HC7.out, HC5.out⟩
                        obtain ⟨P_, hP_⟩ : ∃ z, z = pairN pS T (rw' (trM m) i) (rw' (trM m) k) := ⟨_, rfl⟩
                        have HPN : Hid (pairN pS T (rw' (trM m) i) (rw' (trM m) k) = P_) := hP_.symm
                        by_cases hq : P_ = W_
                        · have hq1 : (P_ != W_) = false := by rw [hq]; simp
                          have HQ := Lib.hid hq
                          clear hq hP_
                          go_region_held3 (fun w' => w'.cell? ⟨w.heap.size + 1, 0, none⟩ = some (.int .i64 pS) ∧ w'.cell? ⟨w.heap.size + 1, 1, none⟩ = some (.slice aT T.length cT) ∧ w'.cell? ⟨b7, o7 + i, none⟩ = some (.slice ri (rw' (trM m) i).length ci) ∧ w'.cell? ⟨b7, o7 + k, none⟩ = some (.slice rk (rw' (trM m) k).length ck)) (first | exact SSd.out | exact SSf.out | go_keep) (first | (go_at_call 98; ((with_reducible refine (l03Pair_any pS aT T cT loT tpT ri (rw' (trM m) i) ci w.heap.size wr.heap.size rk (rw' (trM m) k) ck w.heap.size wr.heap.size wr.drew (HT.out.below HBD.out tT) (Nat.le_trans tT HBD.out.size) HRID.out (Nat.le_refl _) HRKD.out (Nat.le_refl _) HJ.out (HVC.out i hlt) (HVC.out k (by omega))).mono ?_); rintro e wf ⟨rfl, b_⟩; rw [HPN.out]; have BF := Lib.hid (BD.out.below b_ hdd); have HBF := Lib.hid (below_step HBD.out (Nat.le_of_lt (Nat.lt_of_succ_lt hdd)) b_); have hdf := Nat.lt_of_lt_of_le hdd b_.size; have MF := Lib.hid ((MD.out.below b_ (Nat.le_refl _)).mono (Nat.le_refl _) b_.size); have SSf := Lib.hid (And.intro BF.out.2.2.1 (And.intro BF.out.2.2.2 (And.intro ((b_.cell (p := ⟨b7, o7 + i, none⟩) hb7).trans HC7.out) ((b_.cell (p := ⟨b7, o7 + k, none⟩) hb7).trans HC5.out)))); clear b_)))
                          go_wp2
                          go_roundw
                          case rel => exact ⟨k + 1, by omega, by go_num, fun k' hk' => by
                              by_cases e : k' = k
                              · rw [e, HPN.out, HQ.out, HWW.out]
                              · exact HAL2.out k' (by omega), BF.out, HBF.out, hdf, MF.out⟩
                          case measure => (simp [intOf] <;> omega)
                        · have hq1 : (P_ != W_) = true := by simp [hq]
                          have EN : Hid (colB pS S T m = false) := colB_no (i := i) (k := k) (by rw [← HN.out]; exact hlt) (by omega) (by rw [HPN.out, ← HWW.out]; exact hq)
                          clear hq hP_
                          go_region_held3 (fun w' => w'.cell? ⟨w.heap.size + 1, 0, none⟩ = some (.int .i64 pS) ∧ w'.cell? ⟨w.heap.size + 1, 1, none⟩ = some (.slice aT T.length cT) ∧ w'.cell? ⟨b7, o7 + i, none⟩ = some (.slice ri (rw' (trM m) i).length ci) ∧ w'.cell? ⟨b7, o7 + k, none⟩ = some (.slice rk (rw' (trM m) k).length ck)) (first | exact SSd.out | exact SSf.out | go_keep) (first | (go_at_call 98; ((with_reducible refine (l03Pair_any pS aT T cT loT tpT ri (rw' (trM m) i) ci w.heap.size wr.heap.size rk (rw' (trM m) k) ck w.heap.size wr.heap.size wr.drew (HT.out.below HBD.out tT) (Nat.le_trans tT HBD.out.size) HRID.out (Nat.le_refl _) HRKD.out (Nat.le_refl _) HJ.out (HVC.out i hlt) (HVC.out k (by omega))).mono ?_); rintro e wf ⟨rfl, b_⟩; rw [HPN.out]; have BF := Lib.hid (BD.out.below b_ hdd); have HBF := Lib.hid (below_step HBD.out (Nat.le_of_lt (Nat.lt_of_succ_lt hdd)) b_); have hdf := Nat.lt_of_lt_of_le hdd b_.size; have MF := Lib.hid ((MD.out.below b_ (Nat.le_refl _)).mono (Nat.le_refl _) b_.size); have SSf := Lib.hid (And.intro BF.out.2.2.1 (And.intro BF.out.2.2.2 (And.intro ((b_.cell (p := ⟨b7, o7 + i, none⟩) hb7).trans HC7.out) ((b_.cell (p := ⟨b7, o7 + k, none⟩) hb7).trans HC5.out)))); clear b_)))
                          go_wp2
                          go_ret
                          exact ⟨by rw [EB.out, EN.out]; rfl, HBF.out⟩
                      · have hw1 : W_ = 0 := by rw [HWW.out]; unfold wantF; rw [if_neg hik]
                        have hik1 : ((i : Int) == (k : Int)) = false := by simp; omega
                        subst hw1
                        have HIK := Lib.hid hik
                        clear hik hsq
                        go_upto_region 14 with fail
                        have BD : Hid (TB w.heap.size pS (some ⟨bs, os, none⟩) S.length cS pS aT T.length cT wr.drew) := BK.out.below (below_drew wr) hdw2
                        have HBD : Hid (Below w.heap.size w wr.drew) := HBK.out.drew
                        have hdd : w.heap.size + 1 < wr.drew.heap.size := hdw2
                        have MD : Hid (MatIn w.heap.size wr.drew.heap.size wr.drew (some ⟨b7, o7, none⟩) (trM m)) := MK.out.below (below_drew wr) (Nat.le_refl _)
                        have HRID : Hid (RowIn w.heap.size wr.heap.size wr.drew ri (rw' (trM m) i)) := HRI.out.below (below_drew wr) (Nat.le_refl _)
                        have HRKD : Hid (RowIn w.heap.size wr.heap.size wr.drew rk (rw' (trM m) k)) := HRK.out.below (below_drew wr) (Nat.le_refl _)
                        have SSd : Hid (wr.drew.cell? ⟨w.heap.size + 1, 0, none⟩ = some (.int .i64 pS) ∧ wr.drew.cell? ⟨w.heap.size + 1, 1, none⟩ = some (.slice aT T.length cT) ∧ wr.drew.cell? ⟨b7, o7 + i, none⟩ = some (.slice ri (rw' (trM m) i).length ci) ∧ wr.drew.cell? ⟨b7, o7 + k, none⟩ = some (.slice rk (rw' (trM m) k).length ck)) := ⟨BD.out.2.2.1, BD.out.2.2.2, HC7.out, HC5.out⟩
                        obtain ⟨P_, hP_⟩ : ∃ z, z = pairN pS T (rw' (trM m) i) (rw' (trM m) k) := ⟨_, rfl⟩
                        have HPN : Hid (pairN pS T (rw' (trM m) i) (rw' (trM m) k) = P_) := hP_.symm
                        by_cases hq : P_ = (0 : Int)
                        · have hq1 : (P_ != 0) = false := by rw [hq]; simp
                          have HQ := Lib.hid hq
                          clear hq hP_
                          go_region_held3 (fun w' => w'.cell? ⟨w.heap.size + 1, 0, none⟩ = some (.int .i64 pS) ∧ w'.cell? ⟨w.heap.size + 1, 1, none⟩ = some (.slice aT T.length cT) ∧ w'.cell? ⟨b7, o7 + i, none⟩ = some (.slice ri (rw' (trM m) i).length ci) ∧ w'.cell? ⟨b7, o7 + k, none⟩ = some (.slice rk (rw' (trM m) k).length ck)) (first | exact SSd.out | exact SSf.out | go_keep) (first | (go_at_call 98; ((with_reducible refine (l03Pair_any pS aT T cT loT tpT ri (rw' (trM m) i) ci w.heap.size wr.heap.size rk (rw' (trM m) k) ck w.heap.size wr.heap.size wr.drew (HT.out.below HBD.out tT) (Nat.le_trans tT HBD.out.size) HRID.out (Nat.le_refl _) HRKD.out (Nat.le_refl _) HJ.out (HVC.out i hlt) (HVC.out k (by omega))).mono ?_); rintro e wf ⟨rfl, b_⟩; rw [HPN.out]; have BF := Lib.hid (BD.out.below b_ hdd); have HBF := Lib.hid (below_step HBD.out (Nat.le_of_lt (Nat.lt_of_succ_lt hdd)) b_); have hdf := Nat.lt_of_lt_of_le hdd b_.size; have MF := Lib.hid ((MD.out.below b_ (Nat.le_refl _)).mono (Nat.le_refl _) b_.size); have SSf := Lib.hid (And.intro BF.out.2.2.1 (And.intro BF.out.2.2.2 (And.intro ((b_.cell (p := ⟨b7, o7 + i, none⟩) hb7).trans HC7.out) ((b_.cell (p := ⟨b7, o7 + k, none⟩) hb7).trans HC5.out)))); clear b_)))
                          go_wp2
                          go_roundw
                          case rel => exact ⟨k + 1, by omega, by go_num, fun k' hk' => by
                              by_cases e : k' = k
                              · rw [e, HPN.out, HQ.out, HWW.out]
                              · exact HAL2.out k' (by omega), BF.out, HBF.out, hdf, MF.out⟩
                          case measure => (simp [intOf] <;> omega)
                        · have hq1 : (P_ != 0) = true := by simp [hq]
                          have EN : Hid (colB pS S T m = false) := colB_no (i := i) (k := k) (by rw [← HN.out]; exact hlt) (by omega) (by rw [HPN.out, ← HWW.out]; exact hq)
                          clear hq hP_
                          go_region_held3 (fun w' => w'.cell? ⟨w.heap.size + 1, 0, none⟩ = some (.int .i64 pS) ∧ w'.cell? ⟨w.heap.size + 1, 1, none⟩ = some (.slice aT T.length cT) ∧ w'.cell? ⟨b7, o7 + i, none⟩ = some (.slice ri (rw' (trM m) i).length ci) ∧ w'.cell? ⟨b7, o7 + k, none⟩ = some (.slice rk (rw' (trM m) k).length ck)) (first | exact SSd.out | exact SSf.out | go_keep) (first | (go_at_call 98; ((with_reducible refine (l03Pair_any pS aT T cT loT tpT ri (rw' (trM m) i) ci w.heap.size wr.heap.size rk (rw' (trM m) k) ck w.heap.size wr.heap.size wr.drew (HT.out.below HBD.out tT) (Nat.le_trans tT HBD.out.size) HRID.out (Nat.le_refl _) HRKD.out (Nat.le_refl _) HJ.out (HVC.out i hlt) (HVC.out k (by omega))).mono ?_); rintro e wf ⟨rfl, b_⟩; rw [HPN.out]; have BF := Lib.hid (BD.out.below b_ hdd); have HBF := Lib.hid (below_step HBD.out (Nat.le_of_lt (Nat.lt_of_succ_lt hdd)) b_); have hdf := Nat.lt_of_lt_of_le hdd b_.size; have MF := Lib.hid ((MD.out.below b_ (Nat.le_refl _)).mono (Nat.le_refl _) b_.size); have SSf := Lib.hid (And.intro BF.out.2.2.1 (And.intro BF.out.2.2.2 (And.intro ((b_.cell (p := ⟨b7, o7 + i, none⟩) hb7).trans HC7.out) ((b_.cell (p := ⟨b7, o7 + k, none⟩) hb7).trans HC5.out)))); clear b_)))
                          go_wp2
                          go_ret
                          exact ⟨by rw [EB.out, EN.out]; rfl, HBF.out⟩
                    · have hk1 : ¬ (k : Int) ≤ (i : Int) := by omega
                      go_wp2
                      go_roundw
                      case rel => exact ⟨i + 1, by omega, by go_num, fun i' hi' k' hk' => by
                          by_cases e : i' = i
                          · rw [e] at hk' ⊢; exact HAL2.out k' (by omega)
                          · exact HALL.out i' (by omega) k' hk', BK.out, HBK.out, hdw2, MK.out⟩
                      case measure => (simp [intOf] <;> omega)
                · have hi1 : ¬ (i : Int) < (S.length : Int) := by rw [← HN.out]; omega
                  have EY : Hid (colB pS S T m = true) := colB_iff.2 fun i' hi' k hk => HALL.out i' (by rw [← HN.out] at hi'; omega) k hk
                  clear hsn
                  go_wp2
                  go_ret
                  exact ⟨by rw [EB.out, EY.out]; rfl, HBR.out⟩
          · have hce : (((rw' m 0).length : Int) != (S.length : Int)) = true := by simp; omega
            have EN : Hid (ismB pS pS S T m = false) := ism_no (by
                cases e : ismF pS pS S T m with
                | false => rfl
                | true => obtain ⟨f1, f2, f3, f4, f5⟩ := ismF_iff.1 e; exact absurd f5 hc)
            have HLL := Lib.hid (And.intro hl (And.intro hn hc))
            clear hl hn hc
            go_wp2_with (first | (go_at_call 62; ((with_reducible refine (l02Is_any pS (some ⟨b9, o9, none⟩) m cm lom tpm w1 (HM.out.below HB1.out tm) (by omega) (fun i hi => by have := HSR.out i hi; omega)).mono ?_); rintro e w2 ⟨rfl, q_⟩; rw [HIM.out]; have b_ := q_.below w1.heap.size; have B2 := Lib.hid (B1.out.below b_ hd1); have HB2 := Lib.hid (below_step HB1.out (Nat.le_of_lt (Nat.lt_of_succ_lt hd1)) b_); have hd2 := Nat.lt_of_lt_of_le hd1 b_.size; have hr9 := (b_.cell (p := ⟨b9, o9, none⟩) hb9').trans HR9.out; have HR92 := Lib.hid hr9; clear b_ q_ kk0 kk1 kk2 kk3; have kk0 := B2.out.1; have kk1 := B2.out.2.1; have kk2 := B2.out.2.2.1; have kk3 := B2.out.2.2.2)))
            go_ret
            exact ⟨by rw [EN.out]; rfl, HB2.out⟩
      · have hne : ((m.length : Int) != (S.length : Int)) = true := by simp; omega
        have EN : Hid (ismB pS pS S T m = false) := ism_no (by
            cases e : ismF pS pS S T m with
            | false => rfl
            | true => obtain ⟨f1, f2, f3, f4, f5⟩ := ismF_iff.1 e; exact absurd f3 hn)
        have HLL := Lib.hid (And.intro hl hn)
        clear hl hn
        go_wp2
        go_ret
        exact ⟨by rw [EN.out]; rfl, HB1.out⟩
    · have hle : ((T.length : Int) != (S.length : Int)) = true := by simp; omega
      have EN : Hid (ismB pS pS S T m = false) := ism_no (by
          cases e : ismF pS pS S T m with
          | false => rfl
          | true => obtain ⟨f1, f2, f3, f4, f5⟩ := ismF_iff.1 e; exact absurd f2 hl)
      have HLL := Lib.hid hl
      clear hl
      go_wp2
      go_ret
      exact ⟨by rw [EN.out]; rfl, HB1.out⟩
  · have hpe : (pS != pT) = true := by simp [hp]
    have EN : Hid (ismB pS pT S T m = false) := ism_no (by
        cases e : ismF pS pT S T m with
        | false => rfl
        | true => obtain ⟨f1, f2, f3, f4, f5⟩ := ismF_iff.1 e; exact absurd f1 hp)
    have HLL := Lib.hid hp
    clear hp
    go_wp2
    go_ret
    exact ⟨by rw [EN.out]; rfl, HB1.out⟩

end Go.Proofs.Ytkibkkdeaojjoab
