/-
  IsIsometry: contracts of the program and of the model.
  Conditions: the lists are nil or rows of known cells, of at most 1048576 numbers.
-/
import Derived.Test.YtkibkkdeaojjoabQf44
import Derived.Test.YtkibkkdeaojjoabQf45
import Derived.Test.YtkibkkdeaojjoabQf35
import Derived.Test.YtkibkkdeaojjoabQf5
import Derived.Test.YtkibkkdeaojjoabQf40
import Derived.Test.YtkibkkdeaojjoabQf31
import Derived.Test.YtkibkkdeaojjoabQf42
import Derived.Test.YtkibkkdeaojjoabQf30
import Derived.Deep.RegionHeld3
namespace Go.Proofs.Ytkibkkdeaojjoab
open Go.RowKit
set_option linter.unusedVariables false

def ismV (p : Int) (S : List Int) (q : Int) (T : List Int) (m : List (List Int)) : Bool := if isSp p S = true ∧ isSp q T = true then ismB p q S T m else false
def ismC (p : Int) (S : List Int) (q : Int) (T : List Int) : Int := if isSp p S = true ∧ isSp q T = true then 0 else 1
theorem ism_yes {p q : Int} {S T : List Int} {m : List (List Int)} (h : isSp p S = true ∧ isSp q T = true) : ismV p S q T m = ismB p q S T m ∧ ismC p S q T = 0 := by
  unfold ismV ismC; rw [if_pos h, if_pos h]; exact ⟨rfl, rfl⟩
theorem ism_out {p q : Int} {S T : List Int} {m : List (List Int)} (h : ¬ (isSp p S = true ∧ isSp q T = true)) : ismV p S q T m = false ∧ ismC p S q T = 1 := by
  unfold ismV ismC; rw [if_neg h, if_neg h]; exact ⟨rfl, rfl⟩
theorem listB_mk {p : Int} {S : List Int} {m : List (List Int)} (h : m.length ≤ 16) (k : ∀ i, i < m.length → isVec p S.length (rw' m i) = true) : listB p S m = true := by
  unfold listB
  rw [Bool.and_eq_true, List.all_eq_true]
  refine ⟨fun x hx => ?_, decide_eq_true h⟩
  obtain ⟨j, hj, rfl⟩ := List.getElem_of_mem hx
  have := k j hj
  simpa [rw', List.getD_eq_getElem?_getD, List.getElem?_eq_getElem hj] using this
/-- The unit matrix's rows are vectors. -/
theorem one_list {p : Int} {S : List Int} (hs : isSp p S = true) : listB p S (oneM S.length) = true := by
  have hp := prm_bd (isSp_iff.1 hs).prime
  have h6 := (isSp_iff.1 hs).hi
  have e1 : (oneM S.length).length = S.length := mk_len _ _ _
  refine listB_mk (by rw [e1]; omega) fun i hi => ?_
  rw [e1] at hi
  refine isVec_iff.2 ⟨by rw [one_row hi, mkR_len], ?_⟩
  rw [one_row hi, List.all_eq_true]
  intro y hy
  obtain ⟨j, hj, rfl⟩ := List.getElem_of_mem hy
  rw [← getD_at hj]
  rw [mkR_len] at hj
  rw [mkR_at _ hj]
  refine inr_iff.2 ?_
  split <;> omega
theorem gram_rows {p : Int} {S : List Int} {m : List (List Int)} {i : Nat} (hi : i < m.length) : (rw' (gramM p S m) i).length = m.length := by
  unfold gramM; rw [mk_row _ hi, mkR_len]
theorem gram_len7 {p : Int} {S : List Int} {m : List (List Int)} : (gramM p S m).length = m.length := mk_len _ _ _

theorem one_lenM {n : Nat} : (oneM n).length = n := mk_len _ _ _
theorem ism_full {p : Int} {n : Nat} {m : List (List Int)} (h : Lst 1 p m) (hc : (rw' m 0).length = m.length) (hn : m.length = n) (hB : IsBas p (rw' m 0).length m (bas p m)) : (bas p m).length = n ↔ detP p m ≠ 0 := by
  have hl : ∀ i, i < m.length → (rw' m i).length = n := fun i hi => by rw [h.len i hi, hc, hn]
  have hr : ∀ i, i < m.length → ∀ j, j < n → 0 ≤ at' m i j ∧ at' m i j < p := fun i hi j hj => h.at hi (by rw [hc, hn]; exact hj)
  refine bas_full h.prime hn hl hr ?_
  rw [hc, hn] at hB
  exact hB

set_option maxRecDepth 100000 in
set_option maxHeartbeats 6400000 in
theorem impl_IsIsometry (pS : Int) (aS : Option Addr) (S : List Int) (cS loS tpS : Nat) (pT : Int) (aT : Option Addr) (T : List Int) (cT loT tpT : Nat) (am : Option Addr) (m : List (List Int)) (cm lom tpm : Nat) (w : World) (hS : RowIn loS tpS w aS S) (tS : tpS ≤ w.heap.size) (sS : S.length ≤ 1048576) (hT : RowIn loT tpT w aT T) (tT : tpT ≤ w.heap.size) (sT : T.length ≤ 1048576) (hm : MatIn lom tpm w am m) (tm : tpm ≤ w.heap.size) (sm' : m.length + tot m m.length ≤ 1048576) :
    Calls Try.prog 70 #[.agg #[.int .i64 pS, .slice aS S.length cS], .agg #[.int .i64 pT, .slice aT T.length cT], .slice am m.length cm] w (RetB (ismV pS S pT T m) (ismC pS S pT T) w) := by
  have HS := Lib.hid hS
  have HT := Lib.hid hT
  have HM := Lib.hid hm
  have HSM := Lib.hid sm'
  clear hS hT hm sm'
  by_cases hi : isSp pS S = true
  · by_cases hj : isSp pT T = true
    · have hij : isSp pS S = true ∧ isSp pT T = true := ⟨hi, hj⟩
      have HX := Lib.hid (ism_yes (m := m) hij)
      have HC : Hid ((if isSp pS S = true ∧ isSp pT T = true then (0 : Int) else 1) = 0) := if_pos hij
      have HI := Lib.hid hi
      have HJ := Lib.hid hj
      clear hi hj hij
      go_enter Try.func70, Try.ntmps70
      go_upto_region 1 with fail
      obtain ⟨w1, hw1⟩ : ∃ z, z = (w.alloc (.cells #[.int .i64 pS, .slice aS S.length cS] 30)).alloc (.cells #[.int .i64 pT, .slice aT T.length cT] 30) := ⟨_, rfl⟩
      have B1 : Hid (TB w.heap.size pS aS S.length cS pT aT T.length cT w1) := by show TB _ _ _ _ _ _ _ _ _ _; rw [hw1]; exact TB.new _ _ _ _ _ _ _ _ _ _
      have HB1 : Hid (Below w.heap.size w w1) := by show Below _ _ _; rw [hw1]; exact (below_alloc w _).alloc (size_alloc _ _) _
      have hd1 : w.heap.size + 1 < w1.heap.size := by rw [hw1]; simp
      rw [← hw1]
      clear hw1
      have kk0 := B1.out.1
      have kk1 := B1.out.2.1
      have kk2 := B1.out.2.2.1
      have kk3 := B1.out.2.2.2
      have h6 := (isSp_iff.1 HI.out).hi
      have h1S := (isSp_iff.1 HI.out).lo
      have h6T := (isSp_iff.1 HJ.out).hi
      have hpb := prm_bd (isSp_iff.1 HI.out).prime
      go_upto_region 5 with (first | (go_at_call 68; ((with_reducible refine (checkSp2 pS pT aS aT S T cS cT loS tpS loT tpT _ w1.heap.size w1 _ rfl (HS.out.below HB1.out tS) (Nat.le_trans tS HB1.out.size) sS (HT.out.below HB1.out tT) (Nat.le_trans tT HB1.out.size) sT).mono ?_); rintro e w2 ⟨rfl, b0_⟩; rw [HC.out]; have b_ := below_step (below_alloc w1 _) (size_alloc _ _) b0_; have B2 := Lib.hid (B1.out.below b_ hd1); have HB2 := Lib.hid (below_step HB1.out (Nat.le_of_lt (Nat.lt_of_succ_lt hd1)) b_); have hd2 := Nat.lt_of_lt_of_le hd1 b_.size; clear b0_ b_ kk0 kk1 kk2 kk3; have kk0 := B2.out.1; have kk1 := B2.out.2.1; have kk2 := B2.out.2.2.1; have kk3 := B2.out.2.2.2)))
      by_cases hp : pS = pT
      · subst hp
        have hpe : (pS != pS) = false := by simp
        cases hi : isM pS m with
        | false =>
          have HIM := Lib.hid hi
          have EN : Hid (ismB pS pS S T m = false) := ism_no (by
              cases e : ismF pS pS S T m with
              | false => rfl
              | true => obtain ⟨f1, f2, f3, f4, f5⟩ := ismF_iff.1 e; exact absurd f4 (by rw [hi]; decide))
          clear hi
          go_wp2_with (first | (go_at_call 69; ((with_reducible refine (impl_IsMatrix pS am m cm lom tpm w2 (HM.out.below HB2.out tm) (Nat.le_trans tm HB2.out.size) HSM.out).mono ?_); rintro e w3 ⟨rfl, b_⟩; rw [HIM.out]; have B3 := Lib.hid (B2.out.below b_ hd2); have HB3 := Lib.hid (below_step HB2.out (Nat.le_of_lt (Nat.lt_of_succ_lt hd2)) b_); have hd3 := Nat.lt_of_lt_of_le hd2 b_.size; clear b_ kk0 kk1 kk2 kk3; have kk0 := B3.out.1; have kk1 := B3.out.2.1; have kk2 := B3.out.2.2.1; have kk3 := B3.out.2.2.2)))
          go_ret2
          exact ⟨by rw [HX.out.1, HX.out.2, EN.out]; rfl, HB3.out⟩
        | true =>
          have HIM := Lib.hid hi
          have HLS := Lib.hid (isL_iff.1 hi)
          have hm0 : 0 < m.length := HLS.out.lo
          have hm16 : m.length ≤ 16 := HLS.out.hi
          have hm1 : (0 : Int) < (m.length : Int) := by omega
          have b1_ := HB2.out
          obtain ⟨b9, o9, r9, c9, ha9, hb8, hb9, hr9, hrow⟩ := (HM.out.below HB2.out tm).row hm0
          rw [Nat.add_zero] at hr9
          have HR9 := Lib.hid hr9
          have hb9' : b9 < w2.heap.size := Nat.lt_of_lt_of_le hb9 (Nat.le_trans tm HB2.out.size)
          subst ha9
          clear hi hr9 hrow b1_
          by_cases hl : T.length = S.length
          · have hle : ((T.length : Int) != (S.length : Int)) = false := by rw [hl]; simp
            by_cases hn : m.length = S.length
            · have hne : ((m.length : Int) != (S.length : Int)) = false := by rw [hn]; simp
              by_cases hc : (rw' m 0).length = S.length
              · have hce : (((rw' m 0).length : Int) != (S.length : Int)) = false := by rw [hc]; simp
                have HLL := Lib.hid (And.intro hl (And.intro hn hc))
                have HF : Hid (ismF pS pS S T m = true) := ismF_iff.2 ⟨rfl, hl, hn, HIM.out, hc⟩
                have hm6 : m.length ≤ 6 := by omega
                have hcl : (rw' m 0).length ≤ 6 := by omega
                have HTL : Hid ((trM m).length = S.length) := by show _ = _; rw [tr_len7, hc]
                have HLU := Lib.hid (one_list HI.out)
                have HLT : Hid (listB pS T (trM m) = true) := listB_mk (by rw [tr_len7]; omega) fun i hi => by rw [hl]; exact tr_vec HLS.out hn hc i (by rw [← HTL.out]; exact hi)
                have HRX : Hid ((rw' m 0).length = m.length) := by show _ = _; rw [hc, hn]
                have HHN : Hid (m.length = S.length) := hn
                clear hl hn hc
                go_upto_region 7 with (first | (go_at_call 69; ((with_reducible refine (impl_IsMatrix pS (some ⟨b9, o9, none⟩) m cm lom tpm w2 (HM.out.below HB2.out tm) (Nat.le_trans tm HB2.out.size) HSM.out).mono ?_); rintro e w3 ⟨rfl, b_⟩; rw [HIM.out]; have B3 := Lib.hid (B2.out.below b_ hd2); have HB3 := Lib.hid (below_step HB2.out (Nat.le_of_lt (Nat.lt_of_succ_lt hd2)) b_); have hd3 := Nat.lt_of_lt_of_le hd2 b_.size; have hr9 := (b_.cell (p := ⟨b9, o9, none⟩) hb9').trans HR9.out; have HR93 := Lib.hid hr9; clear b_ kk0 kk1 kk2 kk3; have kk0 := B3.out.1; have kk1 := B3.out.2.1; have kk2 := B3.out.2.2.1; have kk3 := B3.out.2.2.2)))
                have Bd : Hid (TB w.heap.size pS aS S.length cS pS aT T.length cT w3.drew) := B3.out.below (below_drew w3) hd3
                have HBd : Hid (Below w.heap.size w w3.drew) := HB3.out.drew
                have hdd : w.heap.size + 1 < w3.drew.heap.size := hd3
                have SSd : Hid (w3.drew.cell? ⟨w.heap.size, 0, none⟩ = some (.int .i64 pS) ∧ w3.drew.cell? ⟨w.heap.size, 1, none⟩ = some (.slice aS S.length cS) ∧ w3.drew.cell? ⟨w.heap.size + 1, 0, none⟩ = some (.int .i64 pS) ∧ w3.drew.cell? ⟨w.heap.size + 1, 1, none⟩ = some (.slice aT T.length cT)) := ⟨Bd.out.1, Bd.out.2.1, Bd.out.2.2.1, Bd.out.2.2.2⟩
                obtain ⟨K_, hK_⟩ : ∃ z, z = colB pS S T m := ⟨_, rfl⟩
                have HKK : Hid (decide (gramM pS S (oneM S.length) = gramM pS T (trM m)) = K_) := by
                  show _ = _
                  rw [hK_]
                  cases e : colB pS S T m with
                  | true => exact decide_eq_true ((kept_iff HI.out HTL.out).2 e)
                  | false => exact decide_eq_false fun h => by rw [(kept_iff HI.out HTL.out).1 h] at e; cases e
                have HKC : Hid (colB pS S T m = K_) := hK_.symm
                clear hK_
                clear kk0 kk1 kk2 kk3
                go_region_held3 (fun w' => w'.cell? ⟨w.heap.size, 0, none⟩ = some (.int .i64 pS) ∧ w'.cell? ⟨w.heap.size, 1, none⟩ = some (.slice aS S.length cS) ∧ w'.cell? ⟨w.heap.size + 1, 0, none⟩ = some (.int .i64 pS) ∧ w'.cell? ⟨w.heap.size + 1, 1, none⟩ = some (.slice aT T.length cT)) (first | exact SSd.out | exact SSa.out | exact SSb.out | exact SSc.out | exact SSe.out | exact SSf.out | go_keep) (first | (go_at_call 52; ((with_reducible refine (unitMatrix_any S.length w3.drew (by omega) (by omega)).mono ?_); rintro e wa ⟨ru, ku, rfl, o_, b_⟩; have Ba := Lib.hid (Bd.out.below b_ hdd); have HBa := Lib.hid (below_step HBd.out (Nat.le_of_lt (Nat.lt_of_succ_lt hdd)) b_); have hda := Nat.lt_of_lt_of_le hdd b_.size; have Ua := Lib.hid ((o_.mat).mono (Nat.zero_le _) (Nat.le_refl _)); have SSa := Lib.hid (And.intro Ba.out.1 (And.intro Ba.out.2.1 (And.intro Ba.out.2.2.1 Ba.out.2.2.2))); clear b_ o_)) | (go_at_call 102; ((with_reducible refine (gram_any pS aS S cS loS tpS ru (oneM S.length) ku 0 wa.heap.size wa (HS.out.below HBa.out tS) (Nat.le_trans tS HBa.out.size) Ua.out (Nat.le_refl _) HI.out HLU.out).mono ?_); rintro e wb ⟨rg, kg, rfl, o_, b_⟩; have Bb := Lib.hid (Ba.out.below b_ hda); have HBb := Lib.hid (below_step HBa.out (Nat.le_of_lt (Nat.lt_of_succ_lt hda)) b_); have hdb := Nat.lt_of_lt_of_le hda b_.size; have Gb := Lib.hid ((o_.mat).mono (Nat.zero_le _) (Nat.le_refl _)); have SSb := Lib.hid (And.intro Bb.out.1 (And.intro Bb.out.2.1 (And.intro Bb.out.2.2.1 Bb.out.2.2.2))); clear b_ o_)) | (go_at_call 103; ((with_reducible refine (transposed_any (some ⟨b9, o9, none⟩) m cm lom tpm wb (HM.out.below HBb.out tm) (Nat.le_trans tm HBb.out.size) hm0 HLS.out.len (by omega) (by omega)).mono ?_); rintro e wc ⟨rt, kt, rfl, o_, b_⟩; have Bc := Lib.hid (Bb.out.below b_ hdb); have HBc := Lib.hid (below_step HBb.out (Nat.le_of_lt (Nat.lt_of_succ_lt hdb)) b_); have hdc := Nat.lt_of_lt_of_le hdb b_.size; have Gc := Lib.hid ((Gb.out.below b_ (Nat.le_refl _)).mono (Nat.le_refl _) b_.size); have Vc := Lib.hid ((o_.mat).mono (Nat.zero_le _) (Nat.le_refl _)); have SSc := Lib.hid (And.intro Bc.out.1 (And.intro Bc.out.2.1 (And.intro Bc.out.2.2.1 Bc.out.2.2.2))); clear b_ o_)) | (go_at_call 102; ((with_reducible refine (gram_any pS aT T cT loT tpT rt (trM m) kt 0 wc.heap.size wc (HT.out.below HBc.out tT) (Nat.le_trans tT HBc.out.size) Vc.out (Nat.le_refl _) HJ.out HLT.out).mono ?_); rintro e we ⟨rh, kh, rfl, o_, b_⟩; have Be := Lib.hid (Bc.out.below b_ hdc); have HBe := Lib.hid (below_step HBc.out (Nat.le_of_lt (Nat.lt_of_succ_lt hdc)) b_); have hde := Nat.lt_of_lt_of_le hdc b_.size; have Ge := Lib.hid ((Gc.out.below b_ (Nat.le_refl _)).mono (Nat.le_refl _) b_.size); have De := Lib.hid ((o_.mat).mono (Nat.zero_le _) (Nat.le_refl _)); have SSe := Lib.hid (And.intro Be.out.1 (And.intro Be.out.2.1 (And.intro Be.out.2.2.1 Be.out.2.2.2))); clear b_ o_)) | (go_at_call 101; ((with_reducible refine (equalF_any rg rh (gramM pS S (oneM S.length)) (gramM pS T (trM m)) kg kh 0 we.heap.size 0 we.heap.size we Ge.out (Nat.le_refl _) De.out (Nat.le_refl _) (by rw [gram_len7, one_lenM]; omega) (fun i hi => by rw [gram_rows (by rw [gram_len7] at hi; exact hi), one_lenM]; omega)).mono ?_); rintro e wf ⟨rfl, q_⟩; rw [HKK.out]; have b_ := q_.below we.heap.size; have Bf := Lib.hid (Be.out.below b_ hde); have HBf := Lib.hid (below_step HBe.out (Nat.le_of_lt (Nat.lt_of_succ_lt hde)) b_); have hdf := Nat.lt_of_lt_of_le hde b_.size; have SSf := Lib.hid (And.intro Bf.out.1 (And.intro Bf.out.2.1 (And.intro Bf.out.2.2.1 Bf.out.2.2.2))); clear b_ q_)))
                have kk0 := Bf.out.1
                have kk1 := Bf.out.2.1
                have kk2 := Bf.out.2.2.1
                have kk3 := Bf.out.2.2.2
                have fv := field_ech
                cases hKv : K_ with
                | false =>
                  have EN : Hid (ismB pS pS S T m = false) := by show _ = _; unfold ismB; rw [HKC.out, hKv, Bool.and_false]
                  clear hKv
                  go_wp2
                  go_ret2
                  exact ⟨by rw [HX.out.1, HX.out.2, EN.out]; rfl, HBf.out⟩
                | true =>
                  have HKT : Hid (colB pS S T m = true) := by show _ = _; rw [HKC.out, hKv]
                  clear hKv
                  by_cases hd : (bas pS m).length = S.length
                  · have hde1 : (((bas pS m).length : Int) == (S.length : Int)) = true := by rw [hd]; simp
                    have HDD := Lib.hid hd
                    clear hd
                    go_wp2_with (first | (go_at_call 50; ((with_reducible refine (elimK pS (some ⟨b9, o9, none⟩) m cm lom tpm wf (HM.out.below HBf.out tm) (Nat.le_trans tm HBf.out.size) HLS.out.wide).mono ?_); rintro e wg ⟨ar, cr, ap, cp, dd, rfl, o_, p_, hi_, b_⟩; have HBg := Lib.hid (below_step HBf.out (Nat.le_of_lt (Nat.lt_of_succ_lt hdf)) b_); have HBI := Lib.hid hi_; clear o_ p_ hi_ b_)))
                    have EY : Hid (ismB pS pS S T m = true) := by show _ = _; unfold ismB; rw [HF.out, HKT.out, decide_eq_true ((ism_full HLS.out HRX.out HHN.out HBI.out).1 HDD.out)]; rfl
                    go_ret2
                    exact ⟨by rw [HX.out.1, HX.out.2, EY.out]; rfl, HBg.out⟩
                  · have hde1 : (((bas pS m).length : Int) == (S.length : Int)) = false := by simp; omega
                    have HDD := Lib.hid hd
                    clear hd
                    go_wp2_with (first | (go_at_call 50; ((with_reducible refine (elimK pS (some ⟨b9, o9, none⟩) m cm lom tpm wf (HM.out.below HBf.out tm) (Nat.le_trans tm HBf.out.size) HLS.out.wide).mono ?_); rintro e wg ⟨ar, cr, ap, cp, dd, rfl, o_, p_, hi_, b_⟩; have HBg := Lib.hid (below_step HBf.out (Nat.le_of_lt (Nat.lt_of_succ_lt hdf)) b_); have HBI := Lib.hid hi_; clear o_ p_ hi_ b_)))
                    have EN : Hid (ismB pS pS S T m = false) := by show _ = _; unfold ismB; rw [decide_eq_false (fun h => HDD.out ((ism_full HLS.out HRX.out HHN.out HBI.out).2 h))]; simp
                    go_ret2
                    exact ⟨by rw [HX.out.1, HX.out.2, EN.out]; rfl, HBg.out⟩
              · have hce : (((rw' m 0).length : Int) != (S.length : Int)) = true := by simp; omega
                have EN : Hid (ismB pS pS S T m = false) := ism_no (by
                    cases e : ismF pS pS S T m with
                    | false => rfl
                    | true => obtain ⟨f1, f2, f3, f4, f5⟩ := ismF_iff.1 e; exact absurd f5 hc)
                have HLL := Lib.hid (And.intro hl (And.intro hn hc))
                clear hl hn hc
                go_wp2_with (first | (go_at_call 69; ((with_reducible refine (impl_IsMatrix pS (some ⟨b9, o9, none⟩) m cm lom tpm w2 (HM.out.below HB2.out tm) (Nat.le_trans tm HB2.out.size) HSM.out).mono ?_); rintro e w3 ⟨rfl, b_⟩; rw [HIM.out]; have B3 := Lib.hid (B2.out.below b_ hd2); have HB3 := Lib.hid (below_step HB2.out (Nat.le_of_lt (Nat.lt_of_succ_lt hd2)) b_); have hd3 := Nat.lt_of_lt_of_le hd2 b_.size; have hr9 := (b_.cell (p := ⟨b9, o9, none⟩) hb9').trans HR9.out; have HR93 := Lib.hid hr9; clear b_ kk0 kk1 kk2 kk3; have kk0 := B3.out.1; have kk1 := B3.out.2.1; have kk2 := B3.out.2.2.1; have kk3 := B3.out.2.2.2)))
                go_ret2
                exact ⟨by rw [HX.out.1, HX.out.2, EN.out]; rfl, HB3.out⟩
            · have hne : ((m.length : Int) != (S.length : Int)) = true := by simp; omega
              have EN : Hid (ismB pS pS S T m = false) := ism_no (by
                  cases e : ismF pS pS S T m with
                  | false => rfl
                  | true => obtain ⟨f1, f2, f3, f4, f5⟩ := ismF_iff.1 e; exact absurd f3 hn)
              have HLL := Lib.hid (And.intro hl hn)
              clear hl hn
              go_wp2_with (first | (go_at_call 69; ((with_reducible refine (impl_IsMatrix pS (some ⟨b9, o9, none⟩) m cm lom tpm w2 (HM.out.below HB2.out tm) (Nat.le_trans tm HB2.out.size) HSM.out).mono ?_); rintro e w3 ⟨rfl, b_⟩; rw [HIM.out]; have B3 := Lib.hid (B2.out.below b_ hd2); have HB3 := Lib.hid (below_step HB2.out (Nat.le_of_lt (Nat.lt_of_succ_lt hd2)) b_); have hd3 := Nat.lt_of_lt_of_le hd2 b_.size; have hr9 := (b_.cell (p := ⟨b9, o9, none⟩) hb9').trans HR9.out; have HR93 := Lib.hid hr9; clear b_ kk0 kk1 kk2 kk3; have kk0 := B3.out.1; have kk1 := B3.out.2.1; have kk2 := B3.out.2.2.1; have kk3 := B3.out.2.2.2)))
              go_ret2
              exact ⟨by rw [HX.out.1, HX.out.2, EN.out]; rfl, HB3.out⟩
          · have hle : ((T.length : Int) != (S.length : Int)) = true := by simp; omega
            have EN : Hid (ismB pS pS S T m = false) := ism_no (by
                cases e : ismF pS pS S T m with
                | false => rfl
                | true => obtain ⟨f1, f2, f3, f4, f5⟩ := ismF_iff.1 e; exact absurd f2 hl)
            have HLL := Lib.hid hl
            clear hl
            go_wp2_with (first | (go_at_call 69; ((with_reducible refine (impl_IsMatrix pS (some ⟨b9, o9, none⟩) m cm lom tpm w2 (HM.out.below HB2.out tm) (Nat.le_trans tm HB2.out.size) HSM.out).mono ?_); rintro e w3 ⟨rfl, b_⟩; rw [HIM.out]; have B3 := Lib.hid (B2.out.below b_ hd2); have HB3 := Lib.hid (below_step HB2.out (Nat.le_of_lt (Nat.lt_of_succ_lt hd2)) b_); have hd3 := Nat.lt_of_lt_of_le hd2 b_.size; have hr9 := (b_.cell (p := ⟨b9, o9, none⟩) hb9').trans HR9.out; have HR93 := Lib.hid hr9; clear b_ kk0 kk1 kk2 kk3; have kk0 := B3.out.1; have kk1 := B3.out.2.1; have kk2 := B3.out.2.2.1; have kk3 := B3.out.2.2.2)))
            go_ret2
            exact ⟨by rw [HX.out.1, HX.out.2, EN.out]; rfl, HB3.out⟩
      · have hpe : (pS != pT) = true := by simp [hp]
        have EN : Hid (ismB pS pT S T m = false) := ism_no (by
            cases e : ismF pS pT S T m with
            | false => rfl
            | true => obtain ⟨f1, f2, f3, f4, f5⟩ := ismF_iff.1 e; exact absurd f1 hp)
        have HLL := Lib.hid hp
        clear hp
        go_wp2
        go_ret2
        exact ⟨by rw [HX.out.1, HX.out.2, EN.out]; rfl, HB2.out⟩
    · have hij : ¬ (isSp pS S = true ∧ isSp pT T = true) := fun h => hj h.2
      have HX := Lib.hid (ism_out (m := m) hij)
      have HC : Hid ((if isSp pS S = true ∧ isSp pT T = true then (0 : Int) else 1) = 1) := if_neg hij
      have HI := Lib.hid hi
      have HJ : Hid (isSp pT T = false) := by show _ = _; simpa using hj
      clear hi hj hij
      go_enter Try.func70, Try.ntmps70
      go_upto_region 1 with fail
      obtain ⟨w1, hw1⟩ : ∃ z, z = (w.alloc (.cells #[.int .i64 pS, .slice aS S.length cS] 30)).alloc (.cells #[.int .i64 pT, .slice aT T.length cT] 30) := ⟨_, rfl⟩
      have B1 : Hid (TB w.heap.size pS aS S.length cS pT aT T.length cT w1) := by show TB _ _ _ _ _ _ _ _ _ _; rw [hw1]; exact TB.new _ _ _ _ _ _ _ _ _ _
      have HB1 : Hid (Below w.heap.size w w1) := by show Below _ _ _; rw [hw1]; exact (below_alloc w _).alloc (size_alloc _ _) _
      have hd1 : w.heap.size + 1 < w1.heap.size := by rw [hw1]; simp
      rw [← hw1]
      clear hw1
      have kk0 := B1.out.1
      have kk1 := B1.out.2.1
      have kk2 := B1.out.2.2.1
      have kk3 := B1.out.2.2.2
      go_wp2_with (first | (go_at_call 68; ((with_reducible refine (checkSp2 pS pT aS aT S T cS cT loS tpS loT tpT _ w1.heap.size w1 _ rfl (HS.out.below HB1.out tS) (Nat.le_trans tS HB1.out.size) sS (HT.out.below HB1.out tT) (Nat.le_trans tT HB1.out.size) sT).mono ?_); rintro e w2 ⟨rfl, b0_⟩; rw [HC.out]; have b_ := below_step (below_alloc w1 _) (size_alloc _ _) b0_; have B2 := Lib.hid (B1.out.below b_ hd1); have HB2 := Lib.hid (below_step HB1.out (Nat.le_of_lt (Nat.lt_of_succ_lt hd1)) b_); have hd2 := Nat.lt_of_lt_of_le hd1 b_.size; clear b0_ b_ kk0 kk1 kk2 kk3; have kk0 := B2.out.1; have kk1 := B2.out.2.1; have kk2 := B2.out.2.2.1; have kk3 := B2.out.2.2.2)))
      go_ret2
      exact ⟨by rw [HX.out.1, HX.out.2]; rfl, HB2.out⟩
  · have hij : ¬ (isSp pS S = true ∧ isSp pT T = true) := fun h => hi h.1
    have HX := Lib.hid (ism_out (m := m) hij)
    have HC : Hid ((if isSp pS S = true ∧ isSp pT T = true then (0 : Int) else 1) = 1) := if_neg hij
    have HI : Hid (isSp pS S = false) := by show _ = _; simpa using hi
    clear hi hij
    go_enter Try.func70, Try.ntmps70
    go_upto_region 1 with fail
    obtain ⟨w1, hw1⟩ : ∃ z, z = (w.alloc (.cells #[.int .i64 pS, .slice aS S.length cS] 30)).alloc (.cells #[.int .i64 pT, .slice aT T.length cT] 30) := ⟨_, rfl⟩
    have B1 : Hid (TB w.heap.size pS aS S.length cS pT aT T.length cT w1) := by show TB _ _ _ _ _ _ _ _ _ _; rw [hw1]; exact TB.new _ _ _ _ _ _ _ _ _ _
    have HB1 : Hid (Below w.heap.size w w1) := by show Below _ _ _; rw [hw1]; exact (below_alloc w _).alloc (size_alloc _ _) _
    have hd1 : w.heap.size + 1 < w1.heap.size := by rw [hw1]; simp
    rw [← hw1]
    clear hw1
    have kk0 := B1.out.1
    have kk1 := B1.out.2.1
    have kk2 := B1.out.2.2.1
    have kk3 := B1.out.2.2.2
    go_wp2_with (first | (go_at_call 68; ((with_reducible refine (checkSp2 pS pT aS aT S T cS cT loS tpS loT tpT _ w1.heap.size w1 _ rfl (HS.out.below HB1.out tS) (Nat.le_trans tS HB1.out.size) sS (HT.out.below HB1.out tT) (Nat.le_trans tT HB1.out.size) sT).mono ?_); rintro e w2 ⟨rfl, b0_⟩; rw [HC.out]; have b_ := below_step (below_alloc w1 _) (size_alloc _ _) b0_; have B2 := Lib.hid (B1.out.below b_ hd1); have HB2 := Lib.hid (below_step HB1.out (Nat.le_of_lt (Nat.lt_of_succ_lt hd1)) b_); have hd2 := Nat.lt_of_lt_of_le hd1 b_.size; clear b0_ b_ kk0 kk1 kk2 kk3; have kk0 := B2.out.1; have kk1 := B2.out.2.1; have kk2 := B2.out.2.2.1; have kk3 := B2.out.2.2.2)))
    go_ret2
    exact ⟨by rw [HX.out.1, HX.out.2]; rfl, HB2.out⟩

end Go.Proofs.Ytkibkkdeaojjoab
