/-
  VectorIdempotent: the model's side: contracts of the program and of the model.
  Conditions: the lists are nil or rows of known cells, of at most 1048576 numbers.
-/
import Derived.Test.YtijklpcelbnnjaaGreatQk30
import Derived.Test.YtijklpcelbnnjaaGreatQk8
import Derived.Test.YtijklpcelbnnjaaGreatQk15
import Derived.Test.YtijklpcelbnnjaaGreatQk7
import Derived.Test.YtijklpcelbnnjaaGreatQk17
import Derived.Test.YtijklpcelbnnjaaGreatQk10
import Derived.Deep.RegionHeld3
import Derived.Deep.DeepCutAuto
namespace Go.Proofs.YtijklpcelbnnjaaGreat
open Go.RowKit
set_option linter.unusedVariables false

def viL (S v : List Int) : List Int := lst2 S.length v
def viN (p : Int) (S v : List Int) : Int := pairN p S (viL S v) (viL S v)
def viR (p : Int) (S v : List Int) : Int := rt p (viN p S v)
def viG (v : List Int) : Bool := decide (v = mkR v.length (pg v 1))
def viC (p : Int) (S v : List Int) : Int := if stC p S [v] = 0 then (if viG v = true ∧ 0 < viR p S v then 0 else 5) else stC p S [v]
def viM9 (p : Int) (S v : List Int) : List Int := plusR p (sclR p (mOne S) (inv p 2)) v (inv p 2 * inv p (viR p S v) % p)
def viV (p : Int) (S v : List Int) : List Int := if viC p S v = 0 then viM9 p S v else []
theorem viC_no {p : Int} {S v : List Int} (h : stC p S [v] ≠ 0) : viV p S v = [] ∧ viC p S v = stC p S [v] := by
  have e : viC p S v = stC p S [v] := if_neg h
  exact ⟨by unfold viV; rw [if_neg (by rw [e]; exact h)], e⟩
theorem viC_bad {p : Int} {S v : List Int} (h : stC p S [v] = 0) (k : ¬ (viG v = true ∧ 0 < viR p S v)) : viV p S v = [] ∧ viC p S v = 5 := by
  have e : viC p S v = 5 := by unfold viC; rw [if_pos h, if_neg k]
  exact ⟨by unfold viV; rw [if_neg (by rw [e]; decide)], e⟩
theorem viC_ok {p : Int} {S v : List Int} (h : stC p S [v] = 0) (k : viG v = true ∧ 0 < viR p S v) : viV p S v = viM9 p S v ∧ viC p S v = 0 := by
  have e : viC p S v = 0 := by unfold viC; rw [if_pos h, if_pos k]
  exact ⟨by unfold viV; rw [if_pos e], e⟩
theorem viL_vec {p : Int} {S v : List Int} (hs : isSp p S = true) (hv : isMv p S v = true) : isVec p S.length (viL S v) = true := by
  refine isVec_iff.2 ?_
  refine ⟨mkR_len _ _, ?_⟩
  rw [List.all_eq_true]
  intro y hy
  obtain ⟨j, hj, rfl⟩ := List.getElem_of_mem hy
  rw [← getD_at hj]
  unfold viL lst2 at hj ⊢
  rw [mkR_len] at hj
  rw [mkR_at _ hj]
  exact inr_iff.2 (Mv.num hv _ (by rw [Mv.len hv]; unfold bl; exact pow_lt hj))
theorem viM9_len (p : Int) (S v : List Int) : (viM9 p S v).length = bl S := by unfold viM9 plusR sclR mOne; rw [mkR_len, mkR_len, mkR_len]
theorem viM9_mv {p : Int} {S : List Int} (hs : isSp p S = true) (v : List Int) : isMv p S (viM9 p S v) = true := by
  have hp := prm_bd (isSp_iff.1 hs).prime
  refine isMv_of (viM9_len p S v) (fun j hj => ?_)
  unfold viM9 plusR at hj ⊢
  rw [mkR_len] at hj
  rw [mkR_at _ hj]
  exact ⟨Int.emod_nonneg _ (by omega), Int.emod_lt_of_pos _ (by omega)⟩
theorem l01Inv_b9 (p a : Int) (w : World) (hp : prm p = true) (a0 : 1 ≤ a) (a1 : a < p) :
    Calls Tryz.prog 83 #[.int .i64 p, .int .i64 a] w fun e w' => e = .returned (.int .i64 (inv p a)) ∧ Below w.heap.size w w' :=
  (l01Inv_any p a w hp a0 a1).mono fun _ _ ⟨h, e⟩ => ⟨h, e ▸ Below.refl _ _⟩
theorem l01Root_b9 (p a : Int) (w : World) (hp : prm p = true) (a0 : 0 ≤ a) (a1 : a < p) :
    Calls Tryz.prog 61 #[.int .i64 p, .int .i64 a] w fun e w' => e = .returned (.int .i64 (rt p a)) ∧ Below w.heap.size w w' :=
  (l01Root_any p a w hp a0 a1).mono fun _ _ ⟨h, e⟩ => ⟨h, e ▸ Below.refl _ _⟩
theorem l01Same_b9 (a b : Option Addr) (za zb : List Int) (nb ca cb lo tp lo' tp' : Nat) (w : World) (hnb : zb.length = nb) (ha : RowIn lo tp w a za) (hb : RowIn lo' tp' w b zb) (sa : za.length ≤ 1048576) :
    Calls Tryz.prog 99 #[.slice a za.length ca, .slice b nb cb] w fun e w' => e = .returned (.bool (decide (za = zb))) ∧ Below w.heap.size w w' := by
  subst hnb
  exact (l01Same_any a b za zb ca cb lo tp lo' tp' w ha hb sa).mono fun _ _ ⟨e, q⟩ => ⟨e, q.below _⟩
theorem l03Pair_9 (p : Int) (aS : Option Addr) (S : List Int) (cS loS tpS : Nat) (av : Option Addr) (v : List Int) (n cv lov tpv : Nat) (w : World) (hn : v.length = n)
    (hS : RowIn loS tpS w aS S) (tS : tpS ≤ w.heap.size) (hv : RowIn lov tpv w av v) (tv : tpv ≤ w.heap.size) (hs : isSp p S = true) (h1 : isVec p S.length v = true) :
    Calls Tryz.prog 98 #[.agg #[.int .i64 p, .slice aS S.length cS], .slice av n cv, .slice av n cv] w fun e w' => e = .returned (.int .i64 (pairN p S v v)) ∧ Below w.heap.size w w' := by
  subst hn; exact l03Pair_any p aS S cS loS tpS av v cv lov tpv av v cv lov tpv w hS tS hv tv hv tv hs h1 h1
theorem l02Scale_9 (p k : Int) (a : Option Addr) (za : List Int) (ca lo tp : Nat) (w : World) (hp : prm p = true) (ha : RowIn lo tp w a za) (ht : tp ≤ w.heap.size) (hs : za.length ≤ 1048576) (hna : ∀ j, j < za.length → 0 ≤ za.getD j 0 ∧ za.getD j 0 < p) (k0 : 0 ≤ k) (k1 : k ≤ p) :
    Calls Tryz.prog 82 #[.int .i64 p, .slice a za.length ca, .int .i64 k] w (fun e w' => ∃ r c, e = .returned (.slice r (sclR p za k).length c) ∧ RowIn w.heap.size w'.heap.size w' r (sclR p za k) ∧ Below w.heap.size w w') :=
  (l02Scale_any p k a za ca lo tp w hp ha ht hs hna k0 k1).mono fun _ _ ⟨r, c, e, o, b⟩ => ⟨r, c, e, o.row, b⟩
theorem l02Plus_9 (p k : Int) (a b : Option Addr) (za zb : List Int) (ca cb lo tp lo' tp' : Nat) (w : World) (hp : prm p = true) (ha : RowIn lo tp w a za) (hb : RowIn lo' tp' w b zb) (ht : tp ≤ w.heap.size) (ht' : tp' ≤ w.heap.size)
    (hl : za.length ≤ zb.length) (hs : za.length ≤ 1048576) (hna : ∀ j, j < za.length → 0 ≤ za.getD j 0 ∧ za.getD j 0 < p) (hnb : ∀ j, j < zb.length → 0 ≤ zb.getD j 0 ∧ zb.getD j 0 < p) (k0 : 0 ≤ k) (k1 : k ≤ p) :
    Calls Tryz.prog 26 #[.int .i64 p, .slice a za.length ca, .slice b zb.length cb, .int .i64 k] w (fun e w' => ∃ r c, e = .returned (.slice r (plusR p za zb k).length c) ∧ RowIn w.heap.size w'.heap.size w' r (plusR p za zb k) ∧ Below w.heap.size w w') :=
  (l02Plus_any p k a b za zb ca cb lo tp lo' tp' w hp ha hb ht ht' hl hs hna hnb k0 k1).mono fun _ _ ⟨r, c, e, o, b⟩ => ⟨r, c, e, o.row, b⟩
theorem inv2_bd {p : Int} (hp : prm p = true) : 0 ≤ inv p 2 ∧ inv p 2 < p := inv_bd hp 2

set_option maxRecDepth 100000 in
set_option maxHeartbeats 6400000 in
theorem spec_VectorIdempotent (pS : Int) (aS : Option Addr) (S : List Int) (cS loS tpS : Nat) (av : Option Addr) (v : List Int) (cv lov tpv : Nat) (w : World) (hS : RowIn loS tpS w aS S) (tS : tpS ≤ w.heap.size) (sS : S.length ≤ 1048576) (hv : RowIn lov tpv w av v) (tv : tpv ≤ w.heap.size) (sv : v.length ≤ 1048576) :
    Calls Tryz.prog 67 #[.agg #[.int .i64 pS, .slice aS S.length cS], .slice av v.length cv] w (SpecR (viV pS S v) (viC pS S v) w) := by
  have HS := Lib.hid hS
  have Hv := Lib.hid hv
  have k0 := nw0 w (.int .i64 pS) (.slice aS S.length cS) 26
  have k1 := nw1 w (.int .i64 pS) (.slice aS S.length cS) 26
  have HB0 := Lib.hid (below_alloc w (.cells #[.int .i64 pS, .slice aS S.length cS] 26))
  clear hS hv
  by_cases h0 : stC pS S [v] = 0
  · have hz := stC_one h0
    have HC0 := Lib.hid h0
    have HI := Lib.hid hz.1
    have HMV := Lib.hid hz.2.1
    have HP := Lib.hid (isSp_iff.1 hz.1).prime
    have h6 := (isSp_iff.1 hz.1).hi
    have hlv := Mv.len hz.2.1
    have HLV := Lib.hid hlv
    have hb16 := bl_st hz.2.2
    have hpb := prm_bd (isSp_iff.1 hz.1).prime
    have HVL := Lib.hid (viL_vec hz.1 hz.2.1)
    obtain ⟨L, hL⟩ : ∃ l, l = viL S v := ⟨_, rfl⟩
    have hLL : L.length = S.length := by rw [hL]; exact mkR_len _ _
    have HLL := Lib.hid hLL
    have HLE : Hid (lst2 S.length v = L) := hL.symm
    rw [← hL] at HVL
    obtain ⟨N, hN⟩ : ∃ n, n = pairN pS S L L := ⟨_, rfl⟩
    have HNE := Lib.hid hN
    have HNB : Hid (0 ≤ N ∧ N < pS) := by show _ ∧ _; rw [hN]; exact ⟨Int.emod_nonneg _ (by omega), Int.emod_lt_of_pos _ (by omega)⟩
    obtain ⟨R, hR⟩ : ∃ r, r = rt pS N := ⟨_, rfl⟩
    have HRE := Lib.hid hR
    have hRV : viR pS S v = R := by rw [hR, hN, hL]; rfl
    have hRb := rt_bd (isSp_iff.1 hz.1).prime HNB.out.1 HNB.out.2
    rw [← hR] at hRb
    obtain ⟨G, hG⟩ : ∃ g, g = viG v := ⟨_, rfl⟩
    have HGE : Hid (decide (v = mkR v.length (pg v 1)) = G) := hG.symm
    have sv64 : v.length ≤ 64 := by omega
    by_cases hg : G = true
    · by_cases hr : 0 < R
      · have HVC := Lib.hid (viC_ok h0 ⟨by rw [← hG]; exact hg, by rw [hRV]; exact hr⟩)
        have hr1 : ¬ R ≤ 0 := by omega
        have HHE_ : inv pS 2 = inv pS 2 := rfl
        obtain ⟨H, hH⟩ : ∃ h, h = inv pS 2 := ⟨_, rfl⟩
        have HHE := Lib.hid hH
        have HHB : Hid (0 ≤ H ∧ H < pS) := by show _ ∧ _; rw [hH]; exact inv2_bd HP.out
        obtain ⟨J, hJ⟩ : ∃ j, j = inv pS R := ⟨_, rfl⟩
        have HJE := Lib.hid hJ
        have HJB : Hid (0 ≤ J ∧ J < pS) := by show _ ∧ _; rw [hJ]; exact inv_bd HP.out R
        have hhj0 : 0 ≤ H * J := Int.mul_nonneg HHB.out.1 HJB.out.1
        have hhj1 : H * J ≤ 13 * 13 := Int.le_trans (Int.mul_le_mul_of_nonneg_right (show H ≤ 13 by have := HHB.out.2; omega) HJB.out.1) (Int.mul_le_mul_of_nonneg_left (show J ≤ 13 by have := HJB.out.2; omega) (by omega))
        obtain ⟨K, hK⟩ : ∃ k, k = H * J % pS := ⟨_, rfl⟩
        have HKB : Hid (0 ≤ K ∧ K ≤ pS) := by
          show _ ∧ _
          rw [hK]
          exact ⟨Int.emod_nonneg _ (by omega), Int.le_of_lt (Int.emod_lt_of_pos _ (by omega))⟩
        have HVM : Hid (viM9 pS S v = plusR pS (sclR pS (mOne S) H) v K) := by show _ = _; unfold viM9; rw [hRV, hK, hJ, hH]
        have e1 : wrap64 (H * J) = H * J := by unfold wrap64; omega
        have e2 : IntKind.i64.wrap (H * J) = H * J := IntWalk.i64_in _ (by omega)
        have e3 : (H * J).tmod pS = K := by rw [hK]; exact Int.tmod_eq_emod_of_nonneg hhj0
        have e4 : H * J % pS = K := hK.symm
        have hp0 : ¬ pS = 0 := by omega
        have hp1 : (pS == 0) = false := by simpa using hp0
        have hR1 : 1 ≤ R := by omega
        have HO1 : Hid ((mOne S).length ≤ 1048576) := by show _ ≤ _; unfold mOne; rw [mkR_len]; omega
        have HO2 : Hid (∀ j, j < (mOne S).length → 0 ≤ (mOne S).getD j 0 ∧ (mOne S).getD j 0 < pS) := Mv.num (one_mv HI.out)
        have HQ1 : Hid ((sclR pS (mOne S) H).length ≤ v.length) := by show _ ≤ _; unfold sclR mOne; rw [mkR_len, mkR_len, HLV.out]; exact Nat.le_refl _
        have HQ2 : Hid ((sclR pS (mOne S) H).length ≤ 1048576) := by show _ ≤ _; unfold sclR mOne; rw [mkR_len, mkR_len]; omega
        have HQ3 : Hid (∀ j, j < (sclR pS (mOne S) H).length → 0 ≤ (sclR pS (mOne S) H).getD j 0 ∧ (sclR pS (mOne S) H).getD j 0 < pS) := fun j hj => by
          unfold sclR at hj ⊢
          rw [mkR_len] at hj
          rw [mkR_at _ hj]
          exact ⟨Int.emod_nonneg _ (by omega), Int.emod_lt_of_pos _ (by omega)⟩
        have HQ4 : Hid (∀ j, j < v.length → 0 ≤ v.getD j 0 ∧ v.getD j 0 < pS) := Mv.num HMV.out
        clear hH hJ hK HHE_ hhj0 hhj1
        subst hg
        clear h0 hz hL hN hR hG hRV hLL hlv
        go_enter Tryz.func67, Tryz.ntmps67
        go_upto_region 1 with fail
        obtain ⟨w1, hw1⟩ : ∃ z, z = w.alloc (.cells #[.int .i64 pS, .slice aS S.length cS] 26) := ⟨_, rfl⟩
        rw [← hw1] at HB0 k0 k1 ⊢
        have hd1 : w.heap.size < w1.heap.size := by rw [hw1]; simp
        have HB1 := HB0
        clear hw1
        have SS1 := Lib.hid (And.intro k0 k1)
        go_wp2_with (first | (go_at_call 22; ((with_reducible refine (codeS1 pS aS S cS loS tpS av v cv lov tpv _ _ w1 _ rfl (HS.out.below HB1.out tS) (Nat.le_trans tS HB1.out.size) sS (Hv.out.below HB1.out tv) (Nat.le_trans tv HB1.out.size) sv).mono ?_); rintro e w2 ⟨rfl, b_⟩; rw [HC0.out]; have b2_ := below_step (below_alloc w1 (.cells #[.slice av v.length cv] 24)) (size_alloc w1 (.cells #[.slice av v.length cv] 24)) b_; have SS2 := Lib.hid (ss2 b2_ hd1 SS1.out); have HB2 := Lib.hid (below_step HB1.out HB1.out.size b2_); have hd2 := Nat.lt_of_lt_of_le hd1 b2_.size; clear k0 k1; obtain ⟨k0, k1⟩ := SS2.out; clear b_ b2_)) | (go_at_call 97; ((with_reducible refine (l04List_any pS aS S cS av v cv lov tpv w2 h6 (Hv.out.below HB2.out tv) (Nat.le_trans tv HB2.out.size) HLV.out).mono ?_); rintro e w3 ⟨r3, c3, rfl, o_, b_⟩; rw [HLE.out] at o_ ⊢; rw [HLL.out]; have SS3 := Lib.hid (ss2 b_ hd2 SS2.out); have HB3 := Lib.hid (below_step HB2.out HB2.out.size b_); have hd3 := Nat.lt_of_lt_of_le hd2 b_.size; have HR3 := Lib.hid o_; clear o_; clear k0 k1; obtain ⟨k0, k1⟩ := SS3.out; clear b_)))
        have hs1 : Hid (w3.drew.cell? ⟨w.heap.size, 0, none⟩ = some (.int .i64 pS) ∧ w3.drew.cell? ⟨w.heap.size, 1, none⟩ = some (.slice aS S.length cS)) := SS3.out
        have HBD : Hid (Below w.heap.size w w3.drew) := HB3.out.drew
        have hdd : w.heap.size < w3.drew.heap.size := hd3
        have HRD : Hid (RowIn w2.heap.size w3.heap.size w3.drew r3 L) := HR3.out.below (below_drew w3) (Nat.le_refl _)
        have hle3 : w3.heap.size ≤ w3.drew.heap.size := Nat.le_refl _
        go_region_held3 (fun w' => w'.cell? ⟨w.heap.size, 0, none⟩ = some (.int .i64 pS) ∧ w'.cell? ⟨w.heap.size, 1, none⟩ = some (.slice aS S.length cS)) (first | exact hs1.out | exact SSa.out | exact SSab.out | go_keep) (first | (go_at_call 98; (with_reducible refine (l03Pair_9 pS aS S cS loS tpS r3 L S.length c3 w2.heap.size w3.heap.size w3.drew HLL.out (HS.out.below HBD.out tS) (Nat.le_trans tS (HBD.out).size) (HRD.out) hle3 HI.out HVL.out).mono ?_); rintro e wa ⟨rfl, b_⟩; rw [← HNE.out]; have SSa := Lib.hid (ss2 b_ hdd hs1.out); have HBa := Lib.hid (below_step HBD.out (Nat.le_of_lt hdd) b_); have zz_ := b_.size; have hda := Nat.lt_of_lt_of_le hdd zz_; clear b_) | (go_at_call 61; (with_reducible refine (l01Root_b9 pS N wa HP.out HNB.out.1 HNB.out.2).mono ?_); rintro e wab ⟨rfl, b_⟩; rw [← HRE.out]; have SSab := Lib.hid (ss2 b_ hda SSa.out); have HBab := Lib.hid (below_step HBa.out (Nat.le_of_lt hda) b_); have zz_ := b_.size; have hdab := Nat.lt_of_lt_of_le hda zz_; clear b_))
        clear k0 k1
        have k0 := SSab.out.1
        have k1 := SSab.out.2
        have HVab : Hid (RowIn lov tpv wab av v) := Hv.out.below HBab.out tv
        have tvab : tpv ≤ wab.heap.size := Nat.le_trans tv HBab.out.size
        go_wp2_with (first | (go_at_call 100; ((with_reducible refine (l04Part_any av v cv lov tpv 1 wab HVab.out tvab sv64).mono ?_); rintro e w5 ⟨b5, rfl, l_, u_, o_, b_⟩; have O5 := Lib.hid ((o_.own l_ u_).row); have HB5 := Lib.hid (below_step HBab.out HBab.out.size b_); have SS5 := Lib.hid (ss2 b_ hdab SSab.out); have hd5 := Nat.lt_of_lt_of_le hdab b_.size; clear l_ u_ o_ b_ k0 k1; obtain ⟨k0, k1⟩ := SS5.out)) | (go_at_call 99; ((with_reducible refine (l01Same_b9 av (some ⟨b5, 0, none⟩) v (mkR v.length (pg v 1)) v.length cv v.length lov tpv wab.heap.size w5.heap.size w5 (mkR_len _ _) (Hv.out.below HB5.out tv) O5.out (by omega)).mono ?_); rintro e w6 ⟨rfl, b_⟩; rw [HGE.out]; have HB6 := Lib.hid (below_step HB5.out HB5.out.size b_); have SS6 := Lib.hid (ss2 b_ hd5 SS5.out); have hd6 := Nat.lt_of_lt_of_le hd5 b_.size; clear b_ k0 k1; obtain ⟨k0, k1⟩ := SS6.out)) | (go_at_call 83; ((with_reducible refine (l01Inv_b9 pS 2 w6 HP.out (by omega) (by omega)).mono ?_); rintro e w7 ⟨rfl, b_⟩; rw [← HHE.out]; have HB7 := Lib.hid (below_step HB6.out HB6.out.size b_); have SS7 := Lib.hid (ss2 b_ hd6 SS6.out); have hd7 := Nat.lt_of_lt_of_le hd6 b_.size; clear b_ k0 k1; obtain ⟨k0, k1⟩ := SS7.out)))
        have hs2 : Hid (w7.drew.cell? ⟨w.heap.size, 0, none⟩ = some (.int .i64 pS) ∧ w7.drew.cell? ⟨w.heap.size, 1, none⟩ = some (.slice aS S.length cS)) := SS7.out
        have HBE : Hid (Below w.heap.size w w7.drew) := HB7.out.drew
        have hde : w.heap.size < w7.drew.heap.size := hd7
        go_region_held3 (fun w' => w'.cell? ⟨w.heap.size, 0, none⟩ = some (.int .i64 pS) ∧ w'.cell? ⟨w.heap.size, 1, none⟩ = some (.slice aS S.length cS)) (first | exact hs2.out | exact SSc.out | exact SScd.out | exact SScde.out | exact SScdef.out | go_keep) (first | (go_at_call 101; (with_reducible refine (l04One_any pS aS S cS w7.drew h6).mono ?_); rintro e wc ⟨rc, kc, rfl, o_, b_⟩; have SSc := Lib.hid (ss2 b_ hde hs2.out); have HBc := Lib.hid (below_step HBE.out (Nat.le_of_lt hde) b_); have zz_ := b_.size; have hdc := Nat.lt_of_lt_of_le hde zz_; have Oc_c := Lib.hid (OwnR.mono' o_ (Nat.le_of_lt hde) (Nat.le_refl _)); have Rc_c := Lib.hid (Oc_c.out.row); clear b_ o_) | (go_at_call 82; (with_reducible refine (l02Scale_9 pS H rc (mOne S) kc w.heap.size wc.heap.size wc HP.out Rc_c.out (Nat.le_refl _) HO1.out HO2.out HHB.out.1 (Int.le_of_lt HHB.out.2)).mono ?_); rintro e wcd ⟨rd, kd, rfl, o_, b_⟩; have SScd := Lib.hid (ss2 b_ hdc SSc.out); have HBcd := Lib.hid (below_step HBc.out (Nat.le_of_lt hdc) b_); have zz_ := b_.size; have hdcd := Nat.lt_of_lt_of_le hdc zz_; have Rc_cd := Lib.hid ((Rc_c.out.below b_ (Nat.le_refl _)).mono (Nat.le_refl _) zz_); have Rd_cd := Lib.hid (o_.mono (Nat.le_of_lt hdc) (Nat.le_refl _)); clear b_ o_) | (go_at_call 83; (with_reducible refine (l01Inv_b9 pS R wcd HP.out hR1 hRb.2).mono ?_); rintro e wcde ⟨rfl, b_⟩; rw [← HJE.out]; have SScde := Lib.hid (ss2 b_ hdcd SScd.out); have HBcde := Lib.hid (below_step HBcd.out (Nat.le_of_lt hdcd) b_); have zz_ := b_.size; have hdcde := Nat.lt_of_lt_of_le hdcd zz_; have Rc_cde := Lib.hid ((Rc_cd.out.below b_ (Nat.le_refl _)).mono (Nat.le_refl _) zz_); have Rd_cde := Lib.hid ((Rd_cd.out.below b_ (Nat.le_refl _)).mono (Nat.le_refl _) zz_); clear b_) | (go_at_call 26; (with_reducible refine (l02Plus_9 pS K rd av (sclR pS (mOne S) H) v kd cv w.heap.size wcde.heap.size lov tpv wcde HP.out Rd_cde.out (Hv.out.below HBcde.out tv) (Nat.le_refl _) (Nat.le_trans tv (HBcde.out).size) HQ1.out HQ2.out HQ3.out HQ4.out HKB.out.1 HKB.out.2).mono ?_); rintro e wcdef ⟨rf, kf, rfl, o_, b_⟩; have SScdef := Lib.hid (ss2 b_ hdcde SScde.out); have HBcdef := Lib.hid (below_step HBcde.out (Nat.le_of_lt hdcde) b_); have zz_ := b_.size; have hdcdef := Nat.lt_of_lt_of_le hdcde zz_; have Rc_cdef := Lib.hid ((Rc_cde.out.below b_ (Nat.le_refl _)).mono (Nat.le_refl _) zz_); have Rd_cdef := Lib.hid ((Rd_cde.out.below b_ (Nat.le_refl _)).mono (Nat.le_refl _) zz_); have Rf_cdef := Lib.hid (o_.mono (Nat.le_of_lt hdcde) (Nat.le_refl _)); clear b_ o_))
        all_goals
          go_wp2
          go_ret2
          rw [HVC.out.1, HVC.out.2]
          rw [HVM.out]
          exact ⟨rf, kf, rfl, Rf_cdef.out, HBcdef.out⟩
      · have HVC := Lib.hid (viC_bad h0 fun k => hr (by rw [← hRV]; exact k.2))
        have hr1 : R ≤ 0 := by omega
        subst hg
        clear h0 hz hL hN hR hG hRV hLL hlv
        go_enter Tryz.func67, Tryz.ntmps67
        go_upto_region 1 with fail
        obtain ⟨w1, hw1⟩ : ∃ z, z = w.alloc (.cells #[.int .i64 pS, .slice aS S.length cS] 26) := ⟨_, rfl⟩
        rw [← hw1] at HB0 k0 k1 ⊢
        have hd1 : w.heap.size < w1.heap.size := by rw [hw1]; simp
        have HB1 := HB0
        clear hw1
        have SS1 := Lib.hid (And.intro k0 k1)
        go_wp2_with (first | (go_at_call 22; ((with_reducible refine (codeS1 pS aS S cS loS tpS av v cv lov tpv _ _ w1 _ rfl (HS.out.below HB1.out tS) (Nat.le_trans tS HB1.out.size) sS (Hv.out.below HB1.out tv) (Nat.le_trans tv HB1.out.size) sv).mono ?_); rintro e w2 ⟨rfl, b_⟩; rw [HC0.out]; have b2_ := below_step (below_alloc w1 (.cells #[.slice av v.length cv] 24)) (size_alloc w1 (.cells #[.slice av v.length cv] 24)) b_; have SS2 := Lib.hid (ss2 b2_ hd1 SS1.out); have HB2 := Lib.hid (below_step HB1.out HB1.out.size b2_); have hd2 := Nat.lt_of_lt_of_le hd1 b2_.size; clear k0 k1; obtain ⟨k0, k1⟩ := SS2.out; clear b_ b2_)) | (go_at_call 97; ((with_reducible refine (l04List_any pS aS S cS av v cv lov tpv w2 h6 (Hv.out.below HB2.out tv) (Nat.le_trans tv HB2.out.size) HLV.out).mono ?_); rintro e w3 ⟨r3, c3, rfl, o_, b_⟩; rw [HLE.out] at o_ ⊢; rw [HLL.out]; have SS3 := Lib.hid (ss2 b_ hd2 SS2.out); have HB3 := Lib.hid (below_step HB2.out HB2.out.size b_); have hd3 := Nat.lt_of_lt_of_le hd2 b_.size; have HR3 := Lib.hid o_; clear o_; clear k0 k1; obtain ⟨k0, k1⟩ := SS3.out; clear b_)))
        have hs1 : Hid (w3.drew.cell? ⟨w.heap.size, 0, none⟩ = some (.int .i64 pS) ∧ w3.drew.cell? ⟨w.heap.size, 1, none⟩ = some (.slice aS S.length cS)) := SS3.out
        have HBD : Hid (Below w.heap.size w w3.drew) := HB3.out.drew
        have hdd : w.heap.size < w3.drew.heap.size := hd3
        have HRD : Hid (RowIn w2.heap.size w3.heap.size w3.drew r3 L) := HR3.out.below (below_drew w3) (Nat.le_refl _)
        have hle3 : w3.heap.size ≤ w3.drew.heap.size := Nat.le_refl _
        go_region_held3 (fun w' => w'.cell? ⟨w.heap.size, 0, none⟩ = some (.int .i64 pS) ∧ w'.cell? ⟨w.heap.size, 1, none⟩ = some (.slice aS S.length cS)) (first | exact hs1.out | exact SSa.out | exact SSab.out | go_keep) (first | (go_at_call 98; (with_reducible refine (l03Pair_9 pS aS S cS loS tpS r3 L S.length c3 w2.heap.size w3.heap.size w3.drew HLL.out (HS.out.below HBD.out tS) (Nat.le_trans tS (HBD.out).size) (HRD.out) hle3 HI.out HVL.out).mono ?_); rintro e wa ⟨rfl, b_⟩; rw [← HNE.out]; have SSa := Lib.hid (ss2 b_ hdd hs1.out); have HBa := Lib.hid (below_step HBD.out (Nat.le_of_lt hdd) b_); have zz_ := b_.size; have hda := Nat.lt_of_lt_of_le hdd zz_; clear b_) | (go_at_call 61; (with_reducible refine (l01Root_b9 pS N wa HP.out HNB.out.1 HNB.out.2).mono ?_); rintro e wab ⟨rfl, b_⟩; rw [← HRE.out]; have SSab := Lib.hid (ss2 b_ hda SSa.out); have HBab := Lib.hid (below_step HBa.out (Nat.le_of_lt hda) b_); have zz_ := b_.size; have hdab := Nat.lt_of_lt_of_le hda zz_; clear b_))
        clear k0 k1
        have k0 := SSab.out.1
        have k1 := SSab.out.2
        have HVab : Hid (RowIn lov tpv wab av v) := Hv.out.below HBab.out tv
        have tvab : tpv ≤ wab.heap.size := Nat.le_trans tv HBab.out.size
        go_wp2_with (first | (go_at_call 100; ((with_reducible refine (l04Part_any av v cv lov tpv 1 wab HVab.out tvab sv64).mono ?_); rintro e w5 ⟨b5, rfl, l_, u_, o_, b_⟩; have O5 := Lib.hid ((o_.own l_ u_).row); have HB5 := Lib.hid (below_step HBab.out HBab.out.size b_); have SS5 := Lib.hid (ss2 b_ hdab SSab.out); have hd5 := Nat.lt_of_lt_of_le hdab b_.size; clear l_ u_ o_ b_ k0 k1; obtain ⟨k0, k1⟩ := SS5.out)) | (go_at_call 99; ((with_reducible refine (l01Same_b9 av (some ⟨b5, 0, none⟩) v (mkR v.length (pg v 1)) v.length cv v.length lov tpv wab.heap.size w5.heap.size w5 (mkR_len _ _) (Hv.out.below HB5.out tv) O5.out (by omega)).mono ?_); rintro e w6 ⟨rfl, b_⟩; rw [HGE.out]; have HB6 := Lib.hid (below_step HB5.out HB5.out.size b_); have SS6 := Lib.hid (ss2 b_ hd5 SS5.out); have hd6 := Nat.lt_of_lt_of_le hd5 b_.size; clear b_ k0 k1; obtain ⟨k0, k1⟩ := SS6.out)))
        go_ret2
        rw [HVC.out.1, HVC.out.2]
        exact ⟨none, 0, rfl, .inl rfl, HB6.out⟩
    · have HVC := Lib.hid (viC_bad h0 fun k => hg (by rw [hG]; exact k.1))
      have hg2 : G = false := by simpa using hg
      subst hg2
      clear hg
      clear h0 hz hL hN hR hG hRV hLL hlv
      go_enter Tryz.func67, Tryz.ntmps67
      go_upto_region 1 with fail
      obtain ⟨w1, hw1⟩ : ∃ z, z = w.alloc (.cells #[.int .i64 pS, .slice aS S.length cS] 26) := ⟨_, rfl⟩
      rw [← hw1] at HB0 k0 k1 ⊢
      have hd1 : w.heap.size < w1.heap.size := by rw [hw1]; simp
      have HB1 := HB0
      clear hw1
      have SS1 := Lib.hid (And.intro k0 k1)
      go_wp2_with (first | (go_at_call 22; ((with_reducible refine (codeS1 pS aS S cS loS tpS av v cv lov tpv _ _ w1 _ rfl (HS.out.below HB1.out tS) (Nat.le_trans tS HB1.out.size) sS (Hv.out.below HB1.out tv) (Nat.le_trans tv HB1.out.size) sv).mono ?_); rintro e w2 ⟨rfl, b_⟩; rw [HC0.out]; have b2_ := below_step (below_alloc w1 (.cells #[.slice av v.length cv] 24)) (size_alloc w1 (.cells #[.slice av v.length cv] 24)) b_; have SS2 := Lib.hid (ss2 b2_ hd1 SS1.out); have HB2 := Lib.hid (below_step HB1.out HB1.out.size b2_); have hd2 := Nat.lt_of_lt_of_le hd1 b2_.size; clear k0 k1; obtain ⟨k0, k1⟩ := SS2.out; clear b_ b2_)) | (go_at_call 97; ((with_reducible refine (l04List_any pS aS S cS av v cv lov tpv w2 h6 (Hv.out.below HB2.out tv) (Nat.le_trans tv HB2.out.size) HLV.out).mono ?_); rintro e w3 ⟨r3, c3, rfl, o_, b_⟩; rw [HLE.out] at o_ ⊢; rw [HLL.out]; have SS3 := Lib.hid (ss2 b_ hd2 SS2.out); have HB3 := Lib.hid (below_step HB2.out HB2.out.size b_); have hd3 := Nat.lt_of_lt_of_le hd2 b_.size; have HR3 := Lib.hid o_; clear o_; clear k0 k1; obtain ⟨k0, k1⟩ := SS3.out; clear b_)))
      have hs1 : Hid (w3.drew.cell? ⟨w.heap.size, 0, none⟩ = some (.int .i64 pS) ∧ w3.drew.cell? ⟨w.heap.size, 1, none⟩ = some (.slice aS S.length cS)) := SS3.out
      have HBD : Hid (Below w.heap.size w w3.drew) := HB3.out.drew
      have hdd : w.heap.size < w3.drew.heap.size := hd3
      have HRD : Hid (RowIn w2.heap.size w3.heap.size w3.drew r3 L) := HR3.out.below (below_drew w3) (Nat.le_refl _)
      have hle3 : w3.heap.size ≤ w3.drew.heap.size := Nat.le_refl _
      go_region_held3 (fun w' => w'.cell? ⟨w.heap.size, 0, none⟩ = some (.int .i64 pS) ∧ w'.cell? ⟨w.heap.size, 1, none⟩ = some (.slice aS S.length cS)) (first | exact hs1.out | exact SSa.out | exact SSab.out | go_keep) (first | (go_at_call 98; (with_reducible refine (l03Pair_9 pS aS S cS loS tpS r3 L S.length c3 w2.heap.size w3.heap.size w3.drew HLL.out (HS.out.below HBD.out tS) (Nat.le_trans tS (HBD.out).size) (HRD.out) hle3 HI.out HVL.out).mono ?_); rintro e wa ⟨rfl, b_⟩; rw [← HNE.out]; have SSa := Lib.hid (ss2 b_ hdd hs1.out); have HBa := Lib.hid (below_step HBD.out (Nat.le_of_lt hdd) b_); have zz_ := b_.size; have hda := Nat.lt_of_lt_of_le hdd zz_; clear b_) | (go_at_call 61; (with_reducible refine (l01Root_b9 pS N wa HP.out HNB.out.1 HNB.out.2).mono ?_); rintro e wab ⟨rfl, b_⟩; rw [← HRE.out]; have SSab := Lib.hid (ss2 b_ hda SSa.out); have HBab := Lib.hid (below_step HBa.out (Nat.le_of_lt hda) b_); have zz_ := b_.size; have hdab := Nat.lt_of_lt_of_le hda zz_; clear b_))
      clear k0 k1
      have k0 := SSab.out.1
      have k1 := SSab.out.2
      have HVab : Hid (RowIn lov tpv wab av v) := Hv.out.below HBab.out tv
      have tvab : tpv ≤ wab.heap.size := Nat.le_trans tv HBab.out.size
      go_wp2_with (first | (go_at_call 100; ((with_reducible refine (l04Part_any av v cv lov tpv 1 wab HVab.out tvab sv64).mono ?_); rintro e w5 ⟨b5, rfl, l_, u_, o_, b_⟩; have O5 := Lib.hid ((o_.own l_ u_).row); have HB5 := Lib.hid (below_step HBab.out HBab.out.size b_); have SS5 := Lib.hid (ss2 b_ hdab SSab.out); have hd5 := Nat.lt_of_lt_of_le hdab b_.size; clear l_ u_ o_ b_ k0 k1; obtain ⟨k0, k1⟩ := SS5.out)) | (go_at_call 99; ((with_reducible refine (l01Same_b9 av (some ⟨b5, 0, none⟩) v (mkR v.length (pg v 1)) v.length cv v.length lov tpv wab.heap.size w5.heap.size w5 (mkR_len _ _) (Hv.out.below HB5.out tv) O5.out (by omega)).mono ?_); rintro e w6 ⟨rfl, b_⟩; rw [HGE.out]; have HB6 := Lib.hid (below_step HB5.out HB5.out.size b_); have SS6 := Lib.hid (ss2 b_ hd5 SS5.out); have hd6 := Nat.lt_of_lt_of_le hd5 b_.size; clear b_ k0 k1; obtain ⟨k0, k1⟩ := SS6.out)))
      go_ret2
      rw [HVC.out.1, HVC.out.2]
      exact ⟨none, 0, rfl, .inl rfl, HB6.out⟩
  · have HVC := Lib.hid (viC_no h0)
    obtain ⟨C, hC⟩ : ∃ c, c = stC pS S [v] := ⟨_, rfl⟩
    have hc1 : (C != 0) = true := by rw [hC]; simpa using h0
    have hc2 : (C == 0) = false := by rw [hC]; simpa using h0
    have HCE := Lib.hid hC
    clear hC
    clear h0
    go_enter Tryz.func67, Tryz.ntmps67
    go_upto_region 1 with fail
    obtain ⟨w1, hw1⟩ : ∃ z, z = w.alloc (.cells #[.int .i64 pS, .slice aS S.length cS] 26) := ⟨_, rfl⟩
    rw [← hw1] at HB0 k0 k1 ⊢
    have hd1 : w.heap.size < w1.heap.size := by rw [hw1]; simp
    have HB1 := HB0
    clear hw1
    have SS1 := Lib.hid (And.intro k0 k1)
    go_wp2_with (go_at_call 22; ((with_reducible refine (codeS1 pS aS S cS loS tpS av v cv lov tpv _ _ w1 _ rfl (HS.out.below HB1.out tS) (Nat.le_trans tS HB1.out.size) sS (Hv.out.below HB1.out tv) (Nat.le_trans tv HB1.out.size) sv).mono ?_); rintro e w2 ⟨rfl, b_⟩; rw [← HCE.out]; have b2_ := below_step (below_alloc w1 (.cells #[.slice av v.length cv] 24)) (size_alloc w1 (.cells #[.slice av v.length cv] 24)) b_; have SS2 := Lib.hid (ss2 b2_ hd1 SS1.out); have HB2 := Lib.hid (below_step HB1.out HB1.out.size b2_); have hd2 := Nat.lt_of_lt_of_le hd1 b2_.size; clear k0 k1; obtain ⟨k0, k1⟩ := SS2.out; clear b_ b2_))
    go_ret2
    rw [HVC.out.1, HVC.out.2, ← HCE.out]
    exact ⟨none, 0, rfl, .inl rfl, HB2.out⟩

end Go.Proofs.YtijklpcelbnnjaaGreat
