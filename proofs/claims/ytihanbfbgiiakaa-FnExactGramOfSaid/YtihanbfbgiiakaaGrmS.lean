/-
  The model's GramOf: contract.
  Conditions: the lists are nil or rows of known cells, of at most 1048576 numbers.
-/
import Derived.Test.YtihanbfbgiiakaaLst
import Derived.Test.YtihanbfbgiiakaaApp
import Derived.Test.YtihanbfbgiiakaaSizes
namespace Go.Proofs.Ytihanbfbgiiakaa
open Go.RowKit
set_option linter.unusedVariables false

def gramF (p : Int) (S : List Int) (m : List (List Int)) (i j : Nat) : Int := pairN p S (rw' m i) (rw' m j)
def gramM (p : Int) (S : List Int) (m : List (List Int)) : List (List Int) := mk m.length m.length (gramF p S m)
def gramV (p : Int) (S : List Int) (m : List (List Int)) : List (List Int) := if codeL p S m = 0 then gramM p S m else []
theorem gramV_size (p : Int) (S : List Int) (m : List (List Int)) : (gramV p S m).length + tot (gramV p S m) (gramV p S m).length ≤ 1048576 := by
  unfold gramV
  split
  · rename_i h
    rcases codeL_cases p S m with ⟨_, hc⟩ | ⟨hi, hl, _⟩ | ⟨_, _, hc⟩
    · rw [hc] at h; cases h
    · have := (listB_iff hl).1
      unfold gramM
      exact mk_size (by omega) (by omega)
    · rw [hc] at h; cases h
  · simp [tot]

set_option maxRecDepth 100000 in
set_option maxHeartbeats 6400000 in
theorem spec_GramOf (pS : Int) (aS : Option Addr) (S : List Int) (cS loS tpS : Nat) (am : Option Addr) (m : List (List Int)) (cm lom tpm : Nat) (w : World)
    (hS : RowIn loS tpS w aS S) (tS : tpS ≤ w.heap.size) (sS : S.length ≤ 1048576) (hm : MatIn lom tpm w am m) (tm : tpm ≤ w.heap.size) (sm : m.length + tot m m.length ≤ 1048576) :
    Calls Try.prog 35 #[.agg #[.int .i64 pS, .slice aS S.length cS], .slice am m.length cm] w (SpecM (gramV pS S m) (codeL pS S m) w) := by
  obtain ⟨i0, hi, hz0, hz1, hz2⟩ := info_parts info64
  obtain ⟨j0, kj, kz0, kz1, kz2⟩ := info_parts info_slice
  have HS := Lib.hid hS
  have Hm := Lib.hid hm
  have sm1 : m.length ≤ 1048576 := by omega
  have SR : Hid (∀ i, i < m.length → (rw' m i).length ≤ 1048576) := fun i hi => by have := tot_row hi; omega
  clear hS hm sm
  rcases codeL_cases pS S m with ⟨hs, hc⟩ | ⟨hs, hl, hc⟩ | ⟨hs, hl, hc⟩
  · have HI := Lib.hid hs
    have HC := Lib.hid hc
    have HV : Hid (gramV pS S m = []) := by show _ = _; unfold gramV; rw [if_neg (by rw [hc]; decide)]
    clear hs hc
    go_enter Try.func35, Try.ntmps35
    go_wp2_with (first | (go_at_call 71; (with_reducible refine (l03Is_any pS aS S cS loS tpS _ (HS.out.below ((Below.refl _ _).alloc (Nat.le_refl _) (.cells #[.int .i64 pS, .slice aS S.length cS] 44)) tS) (Nat.le_trans tS (((Below.refl _ _).alloc (Nat.le_refl _) (.cells #[.int .i64 pS, .slice aS S.length cS] 44))).size) sS).mono ?_); rintro e w2 ⟨rfl, b2⟩; rw [HI.out]; have B2 := Lib.hid b2; have K2_0_0 := (b2.cell (p := ⟨w.heap.size, 0, none⟩) (Nat.lt_of_lt_of_le (show w.heap.size < (w.alloc (.cells #[.int .i64 pS, .slice aS S.length cS] 44)).heap.size by simp) (Nat.le_refl _))).trans (show (w.alloc (.cells #[.int .i64 pS, .slice aS S.length cS] 44)).cell? ⟨w.heap.size, 0, none⟩ = some (.int .i64 pS) by simp [go_sem]); have K2_0_1 := (b2.cell (p := ⟨w.heap.size, 1, none⟩) (Nat.lt_of_lt_of_le (show w.heap.size < (w.alloc (.cells #[.int .i64 pS, .slice aS S.length cS] 44)).heap.size by simp) (Nat.le_refl _))).trans (show (w.alloc (.cells #[.int .i64 pS, .slice aS S.length cS] 44)).cell? ⟨w.heap.size, 1, none⟩ = some (.slice aS S.length cS) by simp [go_sem]); clear b2))
    go_ret2
    rw [HV.out, HC.out]
    exact ⟨none, 0, rfl, .inl rfl, (below_step ((Below.refl _ _).alloc (Nat.le_refl _) (.cells #[.int .i64 pS, .slice aS S.length cS] 44)) (show w.heap.size ≤ (w.alloc (.cells #[.int .i64 pS, .slice aS S.length cS] 44)).heap.size from (((Below.refl _ _).alloc (Nat.le_refl _) (.cells #[.int .i64 pS, .slice aS S.length cS] 44))).size) B2.out)⟩
  · have HI := Lib.hid hs
    have HP := Lib.hid (isSp_iff.1 hs).prime
    have HL := Lib.hid hl
    have HC := Lib.hid hc
    have HV : Hid (gramV pS S m = gramM pS S m) := by show _ = _; unfold gramV; rw [if_pos hc]
    have HVE : Hid (∀ i, i < m.length → isVec pS S.length (rw' m i) = true) := (listB_iff hl).2
    have h16 := (listB_iff hl).1
    clear hs hc hl
    go_enter Try.func35, Try.ntmps35
    go_wp2_with (first | (go_at_call 71; (with_reducible refine (l03Is_any pS aS S cS loS tpS _ (HS.out.below ((Below.refl _ _).alloc (Nat.le_refl _) (.cells #[.int .i64 pS, .slice aS S.length cS] 44)) tS) (Nat.le_trans tS (((Below.refl _ _).alloc (Nat.le_refl _) (.cells #[.int .i64 pS, .slice aS S.length cS] 44))).size) sS).mono ?_); rintro e w2 ⟨rfl, b2⟩; rw [HI.out]; have B2 := Lib.hid b2; have K2_0_0 := (b2.cell (p := ⟨w.heap.size, 0, none⟩) (Nat.lt_of_lt_of_le (show w.heap.size < (w.alloc (.cells #[.int .i64 pS, .slice aS S.length cS] 44)).heap.size by simp) (Nat.le_refl _))).trans (show (w.alloc (.cells #[.int .i64 pS, .slice aS S.length cS] 44)).cell? ⟨w.heap.size, 0, none⟩ = some (.int .i64 pS) by simp [go_sem]); have K2_0_1 := (b2.cell (p := ⟨w.heap.size, 1, none⟩) (Nat.lt_of_lt_of_le (show w.heap.size < (w.alloc (.cells #[.int .i64 pS, .slice aS S.length cS] 44)).heap.size by simp) (Nat.le_refl _))).trans (show (w.alloc (.cells #[.int .i64 pS, .slice aS S.length cS] 44)).cell? ⟨w.heap.size, 1, none⟩ = some (.slice aS S.length cS) by simp [go_sem]); clear b2) | (go_at_call 72; (with_reducible refine (l03List_any pS aS S cS am m cm lom tpm _ HP.out sS (Hm.out.below (below_step ((Below.refl _ _).alloc (Nat.le_refl _) (.cells #[.int .i64 pS, .slice aS S.length cS] 44)) (show w.heap.size ≤ (w.alloc (.cells #[.int .i64 pS, .slice aS S.length cS] 44)).heap.size from (((Below.refl _ _).alloc (Nat.le_refl _) (.cells #[.int .i64 pS, .slice aS S.length cS] 44))).size) B2.out) tm) (Nat.le_trans tm ((below_step ((Below.refl _ _).alloc (Nat.le_refl _) (.cells #[.int .i64 pS, .slice aS S.length cS] 44)) (show w.heap.size ≤ (w.alloc (.cells #[.int .i64 pS, .slice aS S.length cS] 44)).heap.size from (((Below.refl _ _).alloc (Nat.le_refl _) (.cells #[.int .i64 pS, .slice aS S.length cS] 44))).size) B2.out)).size) sm1 SR.out).mono ?_); rintro e w3 ⟨rfl, b3⟩; rw [HL.out]; have B3 := Lib.hid b3; have K3_0_0 := (b3.cell (p := ⟨w.heap.size, 0, none⟩) (Nat.lt_of_lt_of_le (show w.heap.size < (w.alloc (.cells #[.int .i64 pS, .slice aS S.length cS] 44)).heap.size by simp) (Nat.le_trans (Nat.le_refl _) B2.out.size))).trans K2_0_0; clear K2_0_0; have K3_0_1 := (b3.cell (p := ⟨w.heap.size, 1, none⟩) (Nat.lt_of_lt_of_le (show w.heap.size < (w.alloc (.cells #[.int .i64 pS, .slice aS S.length cS] 44)).heap.size by simp) (Nat.le_trans (Nat.le_refl _) B2.out.size))).trans K2_0_1; clear K2_0_1; clear b3))
    have HBW := Lib.hid ((below_step (below_step ((Below.refl _ _).alloc (Nat.le_refl _) (.cells #[.int .i64 pS, .slice aS S.length cS] 44)) (show w.heap.size ≤ (w.alloc (.cells #[.int .i64 pS, .slice aS S.length cS] 44)).heap.size from (((Below.refl _ _).alloc (Nat.le_refl _) (.cells #[.int .i64 pS, .slice aS S.length cS] 44))).size) B2.out) (show w.heap.size ≤ w2.heap.size from ((below_step ((Below.refl _ _).alloc (Nat.le_refl _) (.cells #[.int .i64 pS, .slice aS S.length cS] 44)) (show w.heap.size ≤ (w.alloc (.cells #[.int .i64 pS, .slice aS S.length cS] 44)).heap.size from (((Below.refl _ _).alloc (Nat.le_refl _) (.cells #[.int .i64 pS, .slice aS S.length cS] 44))).size) B2.out)).size) B3.out))
    have K0 := Lib.hid K3_0_0
    have K1 := Lib.hid K3_0_1
    have lw : w.heap.size < w3.heap.size := (Nat.lt_of_lt_of_le (show w.heap.size < (w.alloc (.cells #[.int .i64 pS, .slice aS S.length cS] 44)).heap.size by simp) (Nat.le_trans (Nat.le_trans (Nat.le_refl _) B2.out.size) B3.out.size))
    have hzw := HBW.out.size
    clear K3_0_0 K3_0_1
    go_loopw [6, 7] (fun v t wr => ∃ i : Nat, i ≤ m.length ∧ t = .int .i64 i ∧ OutM w3.heap.size wr v (mk i m.length (gramF pS S m)) ∧ Below w3.heap.size w3 wr) (fun _ t _ => m.length - (intOf t).toNat)
    case atStart => exact ⟨0, Nat.zero_le _, rfl, OutM.start w3 _ _ (Nat.le_refl _) rfl, below_alloc w3 _⟩
    case round =>
      obtain ⟨i, hi', rfl, ho, hbel⟩ := hrel
      have HO := Lib.hid ho
      have HBEL := Lib.hid hbel
      have hwz := hbel.size
      rename World => wo
      clear ho hbel
      by_cases hlt : i < m.length
      · have hk1 : (i : Int) < (m.length : Int) := by omega
        go_wp2
        go_loopw [8, 9] (fun v t wr => ∃ j : Nat, j ≤ m.length ∧ t = .int .i64 j ∧ OutR wo.heap.size wr v (mkR j (gramF pS S m i)) ∧ Below wo.heap.size wo wr) (fun _ t _ => m.length - (intOf t).toNat)
        case atStart => exact ⟨0, Nat.zero_le _, rfl, OutR.start wo _ _ (Nat.le_refl _) rfl, below_alloc wo _⟩
        case round =>
          obtain ⟨j, hj', rfl, hoj, hbj⟩ := hrel
          have HOJ := Lib.hid hoj
          have HBJ := Lib.hid hbj
          have hwj := hbj.size
          have HBK : Hid (Below w3.heap.size w3 wr) := HBEL.out.trans (hbj.mono hwz)
          have HBX : Hid (Below w.heap.size w wr) := HBW.out.trans (HBK.out.mono hzw)
          clear hoj hbj
          by_cases hltj : j < m.length
          · have hj1 : (j : Int) < (m.length : Int) := by omega
            obtain ⟨b1, o1, r1, c1, ha1, _, hb1, hr1, hrow1⟩ := (Hm.out.below HBX.out tm).row hlt
            cases ha1
            obtain ⟨b2, o2, r2, c2, ha2, _, hb2, hr2, hrow2⟩ := (Hm.out.below HBX.out tm).row hltj
            cases ha2
            have k0 := (HBK.out.cell (p := ⟨w.heap.size, 0, none⟩) lw).trans K0.out
            have k1 := (HBK.out.cell (p := ⟨w.heap.size, 1, none⟩) lw).trans K1.out
            have HXZ := Lib.hid HBX.out.size
            have HSd := Lib.hid (HS.out.below (HBX.out.trans ((below_drew wr).mono HXZ.out)) tS)
            have HR1 := Lib.hid (hrow1.below (below_drew wr) (Nat.le_trans tm HXZ.out))
            have HR2 := Lib.hid (hrow2.below (below_drew wr) (Nat.le_trans tm HXZ.out))
            have HTS : Hid (tpS ≤ wr.drew.heap.size) := Nat.le_trans tS HXZ.out
            have HTM : Hid (tpm ≤ wr.drew.heap.size) := Nat.le_trans tm HXZ.out
            have v1 := HVE.out i hlt
            have v2 := HVE.out j hltj
            have HSU : Hid (mkR (j + 1) (gramF pS S m i) = mkR j (gramF pS S m i) ++ [pairN pS S (rw' m i) (rw' m j)]) := mkR_succ _ _
            obtain ⟨x, hx⟩ : ∃ x, x = pairN pS S (rw' m i) (rw' m j) := ⟨_, rfl⟩
            rw [← hx] at HSU
            have HX1 := Lib.hid hx
            obtain ⟨X, hX⟩ : ∃ X, X = (mkR j (gramF pS S m i)).map (Value.int .i64) := ⟨_, rfl⟩
            have HX := Lib.hid hX
            have HO2 : Hid (wr.ownsRow wo.heap.size 2 1 u8 j X) := by
              have := HOJ.out; unfold OutR at this; rw [mkR_len, ← hX] at this; exact this
            have HKEEP : Hid (∀ W', Below wr.heap.size wr W' → W'.ownsRow wo.heap.size 2 1 u8 j X) := fun W' h => HO2.out.kept (below_grown h) (by cases hv : Value.ownBlock u8 <;> simp)
            have hb1w : b1 < wr.heap.size := Nat.lt_of_lt_of_le hb1 (Nat.le_trans tm HXZ.out)
            have n1 : u8.ownBlock ≠ some b1 := fun e => by have := (HO2.out.lt _ e).1; omega
            have n0 : u8.ownBlock ≠ some w.heap.size := fun e => by have := (HO2.out.lt _ e).1; omega
            have l0 : w.heap.size < wr.heap.size := by omega
            clear hx hX hrow1 hrow2
            go_wp2
            go_region_held3 (fun w' => w'.cell? ⟨w.heap.size, 0, none⟩ = some (.int .i64 pS) ∧ w'.cell? ⟨w.heap.size, 1, none⟩ = some (.slice aS S.length cS) ∧ w'.cell? ⟨b1, o1 + i, none⟩ = some (.slice r1 (rw' m i).length c1) ∧ w'.cell? ⟨b1, o1 + j, none⟩ = some (.slice r2 (rw' m j).length c2)) (first | go_keep | (go_split_ands; refine ⟨?_, ?_, ?_, ?_⟩; (rw [hgrow.cell_far _ (by simp; omega) (Ne.symm n0)]; assumption); (rw [hgrow.cell_far _ (by simp; omega) (Ne.symm n0)]; assumption); (rw [hgrow.cell_far _ (by simp; omega) (Ne.symm n1)]; assumption); (rw [hgrow.cell_far _ (by simp; omega) (Ne.symm n1)]; assumption))) (first | (go_at_call 73; (with_reducible refine (l03Pair_any pS aS S cS loS tpS r1 (rw' m i) c1 lom tpm r2 (rw' m j) c2 lom tpm wr.drew HSd.out HTS.out HR1.out HTM.out HR2.out HTM.out HI.out v1 v2).mono ?_); rintro e w5 ⟨rfl, hb5⟩; rw [← HX1.out]; have HB5 : Hid (Below wr.heap.size wr w5) := (below_drew wr).trans hb5; have hz5 : wr.heap.size ≤ w5.heap.size := HB5.out.size; have q1 := (HB5.out.cell (p := ⟨w.heap.size, 0, none⟩) l0).trans k0; have q2 := (HB5.out.cell (p := ⟨w.heap.size, 1, none⟩) l0).trans k1; have q3 := (HB5.out.cell (p := ⟨b1, o1 + i, none⟩) hb1w).trans hr1; have q4 := (HB5.out.cell (p := ⟨b1, o1 + j, none⟩) hb1w).trans hr2; clear hb5) | go_loud (refine step_append_lies _ (by rfl) _ _ _ (by rfl) wo.heap.size 2 i0 _ 1 8 Try.underlying31 hi hz0 hz1 hz2 rfl (by omega) u8 j X (by rfl) (((HKEEP.out _ HB5.out).alloc _)) ⟨w5.heap.size, 0, none⟩ 1 1 [.int .i64 x] (by rfl) (by rfl) (World.news_of_block (cs := #[.int .i64 x]) (t := 2) (fr := (0, 0)) (heap_alloc_new w5 _)) (by simp [Value.oneCell']) (by omega) (by unfold maxLen; omega) (by omega) (by simp; omega) (w5.heap.size + 1) (by simp) ?_; intro gg cap w1' hown1 hgrow hat hlt1))
            go_wp2
            go_roundw
            case rel => exact ⟨j + 1, by omega, by go_num, OutR.step HO2.out HX.out HSU.out hown1, ((HBJ.out.trans (HB5.out.mono hwj)).alloc (by omega) _).grown hgrow (by simp; omega) (fun _ hk => (HO2.out.lt _ hk).1)⟩
            case measure => simp [intOf]; omega
          · have hn : j = m.length := by omega
            subst hn
            obtain ⟨a8, c8, e8, ht8⟩ := HOJ.out.tag
            rw [mkR_len] at e8
            subst e8
            have HT8 := Lib.hid ht8
            obtain ⟨vals, hvo, hvr⟩ := HO.out
            rw [mk_len] at hvo hvr
            have HV1 := Lib.hid hvo
            have HVR := Lib.hid hvr
            have HVW := Lib.hid (hvo.kept (below_grown HBJ.out) (by cases hv : Value.ownBlock u6 <;> simp))
            have HVRW : Hid (∀ i', i' < i → ∃ r c', vals[i']? = some (.slice r (rw' (mk i m.length (gramF pS S m)) i').length c') ∧ TagR w3.heap.size wr.heap.size wr r (rw' (mk i m.length (gramF pS S m)) i')) := fun i' h' => by
              obtain ⟨r', c', g1, g2⟩ := HVR.out i' h'
              exact ⟨r', c', g1, g2.below HBJ.out (Nat.le_refl _) (Nat.le_refl _) hwj⟩
            clear ht8 hvo hvr
            go_wp2_with (at_builtin; go_loud (refine wpList_append_lies _ rfl _ _ 22 rfl w3.heap.size 31 j0 (.slice none 0 0) 1 24 Try.underlying22 kj kz0 kz1 kz2 rfl (by decide) u6 i vals rfl (HVW.out.alloc _) ⟨wr.heap.size, 0, none⟩ 1 1 [.slice a8 m.length c8] rfl rfl (World.news_of_block (cs := #[.slice a8 m.length c8]) (t := 31) (fr := (0, 0)) (heap_alloc_new wr _)) (by simp [Value.oneCell']) (by omega) (by unfold maxLen; omega) (by omega) (by simp; omega) (wr.heap.size + 1) (by simp) ?_); intro gg cap w1 hown1 hgrow hat hlt1)
            go_wp2
            go_roundw
            case rel => exact ⟨i + 1, by omega, by go_num, OutM.next HVW.out HVRW.out HT8.out rfl hwz hown1 hgrow, ((HBEL.out.trans (HBJ.out.mono hwz)).alloc (by omega) _).grown hgrow (by simp; omega) (fun _ hk => (HV1.out.lt _ hk).1)⟩
            case measure => simp [intOf]; omega
      · have hn : i = m.length := by omega
        subst hn
        obtain ⟨r, c, hv, hmat⟩ := HO.out.mat
        rw [mk_len] at hv
        subst hv
        have HMT := Lib.hid hmat
        clear hmat
        go_wp2
        go_ret2
        rw [HV.out, HC.out]
        exact ⟨r, c, by rw [gramM, mk_len]; rfl, HMT.out.mono hzw (Nat.le_refl _), HBW.out.trans (HBEL.out.mono hzw)⟩
  · have HI := Lib.hid hs
    have HP := Lib.hid (isSp_iff.1 hs).prime
    have HL := Lib.hid hl
    have HC := Lib.hid hc
    have HV : Hid (gramV pS S m = []) := by show _ = _; unfold gramV; rw [if_neg (by rw [hc]; decide)]
    clear hs hc hl
    go_enter Try.func35, Try.ntmps35
    go_wp2_with (first | (go_at_call 71; (with_reducible refine (l03Is_any pS aS S cS loS tpS _ (HS.out.below ((Below.refl _ _).alloc (Nat.le_refl _) (.cells #[.int .i64 pS, .slice aS S.length cS] 44)) tS) (Nat.le_trans tS (((Below.refl _ _).alloc (Nat.le_refl _) (.cells #[.int .i64 pS, .slice aS S.length cS] 44))).size) sS).mono ?_); rintro e w2 ⟨rfl, b2⟩; rw [HI.out]; have B2 := Lib.hid b2; have K2_0_0 := (b2.cell (p := ⟨w.heap.size, 0, none⟩) (Nat.lt_of_lt_of_le (show w.heap.size < (w.alloc (.cells #[.int .i64 pS, .slice aS S.length cS] 44)).heap.size by simp) (Nat.le_refl _))).trans (show (w.alloc (.cells #[.int .i64 pS, .slice aS S.length cS] 44)).cell? ⟨w.heap.size, 0, none⟩ = some (.int .i64 pS) by simp [go_sem]); have K2_0_1 := (b2.cell (p := ⟨w.heap.size, 1, none⟩) (Nat.lt_of_lt_of_le (show w.heap.size < (w.alloc (.cells #[.int .i64 pS, .slice aS S.length cS] 44)).heap.size by simp) (Nat.le_refl _))).trans (show (w.alloc (.cells #[.int .i64 pS, .slice aS S.length cS] 44)).cell? ⟨w.heap.size, 1, none⟩ = some (.slice aS S.length cS) by simp [go_sem]); clear b2) | (go_at_call 72; (with_reducible refine (l03List_any pS aS S cS am m cm lom tpm _ HP.out sS (Hm.out.below (below_step ((Below.refl _ _).alloc (Nat.le_refl _) (.cells #[.int .i64 pS, .slice aS S.length cS] 44)) (show w.heap.size ≤ (w.alloc (.cells #[.int .i64 pS, .slice aS S.length cS] 44)).heap.size from (((Below.refl _ _).alloc (Nat.le_refl _) (.cells #[.int .i64 pS, .slice aS S.length cS] 44))).size) B2.out) tm) (Nat.le_trans tm ((below_step ((Below.refl _ _).alloc (Nat.le_refl _) (.cells #[.int .i64 pS, .slice aS S.length cS] 44)) (show w.heap.size ≤ (w.alloc (.cells #[.int .i64 pS, .slice aS S.length cS] 44)).heap.size from (((Below.refl _ _).alloc (Nat.le_refl _) (.cells #[.int .i64 pS, .slice aS S.length cS] 44))).size) B2.out)).size) sm1 SR.out).mono ?_); rintro e w3 ⟨rfl, b3⟩; rw [HL.out]; have B3 := Lib.hid b3; have K3_0_0 := (b3.cell (p := ⟨w.heap.size, 0, none⟩) (Nat.lt_of_lt_of_le (show w.heap.size < (w.alloc (.cells #[.int .i64 pS, .slice aS S.length cS] 44)).heap.size by simp) (Nat.le_trans (Nat.le_refl _) B2.out.size))).trans K2_0_0; clear K2_0_0; have K3_0_1 := (b3.cell (p := ⟨w.heap.size, 1, none⟩) (Nat.lt_of_lt_of_le (show w.heap.size < (w.alloc (.cells #[.int .i64 pS, .slice aS S.length cS] 44)).heap.size by simp) (Nat.le_trans (Nat.le_refl _) B2.out.size))).trans K2_0_1; clear K2_0_1; clear b3))
    go_ret2
    rw [HV.out, HC.out]
    exact ⟨none, 0, rfl, .inl rfl, (below_step (below_step ((Below.refl _ _).alloc (Nat.le_refl _) (.cells #[.int .i64 pS, .slice aS S.length cS] 44)) (show w.heap.size ≤ (w.alloc (.cells #[.int .i64 pS, .slice aS S.length cS] 44)).heap.size from (((Below.refl _ _).alloc (Nat.le_refl _) (.cells #[.int .i64 pS, .slice aS S.length cS] 44))).size) B2.out) (show w.heap.size ≤ w2.heap.size from ((below_step ((Below.refl _ _).alloc (Nat.le_refl _) (.cells #[.int .i64 pS, .slice aS S.length cS] 44)) (show w.heap.size ≤ (w.alloc (.cells #[.int .i64 pS, .slice aS S.length cS] 44)).heap.size from (((Below.refl _ _).alloc (Nat.le_refl _) (.cells #[.int .i64 pS, .slice aS S.length cS] 44))).size) B2.out)).size) B3.out)⟩

end Go.Proofs.Ytihanbfbgiiakaa
