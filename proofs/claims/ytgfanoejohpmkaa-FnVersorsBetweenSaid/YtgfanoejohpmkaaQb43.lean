/-
  Laws of versors, the model's side: VersorBetween: contracts of the program and of the model.
  Conditions: the lists are nil or rows of known cells, of at most 1048576 numbers.
-/
import Derived.Test.YtgfanoejohpmkaaQb42
namespace Go.Proofs.Ytgfanoejohpmkaa
open Go.RowKit
set_option linter.unusedVariables false

theorem l04Vector_n (p : Int) (aS : Option Addr) (S : List Int) (cS : Nat) (av : Option Addr) (v : List Int) (n cv lov tpv : Nat) (w : World) (hn : v.length = n) (h : S.length ≤ 6) (hl : v.length = S.length) (hv : RowIn lov tpv w av v) (tv : tpv ≤ w.heap.size) :
    Calls Try.prog 29 #[.agg #[.int .i64 p, .slice aS S.length cS], .slice av n cv] w (NewRow (bl S) (vecF v v.length) w) := by
  subst hn; exact l04Vector_any p aS S cS av v cv lov tpv w h hl hv tv
theorem vs_two (pS : Int) (aS : Option Addr) (S : List Int) (cS loS tpS : Nat) (av : Option Addr) (v : List Int) (cv lov tpv : Nat) (au : Option Addr) (u : List Int) (n cu lou tpu b cap : Nat) (W : World) (T : TypeId) (hb : b = W.heap.size) (hn : u.length = n) (hs : isSp pS S = true) (hS : RowIn loS tpS W aS S) (tS : tpS ≤ W.heap.size) (hv : RowIn lov tpv W av v) (tv : tpv ≤ W.heap.size) (mv : isVec pS S.length v = true) (hu : RowIn lou tpu W au u) (tu : tpu ≤ W.heap.size) (mu : isVec pS S.length u = true) :
    Calls Try.prog 30 #[.agg #[.int .i64 pS, .slice aS S.length cS], .slice (some ⟨b, 0, none⟩) 2 cap] (W.alloc (.cells #[.slice av v.length cv, .slice au n cu] T)) (OwnE (vrM pS S [v, u] 2) (W.alloc (.cells #[.slice av v.length cv, .slice au n cu] T))) := by
  subst hn
  refine l07Versor_own pS aS S cS loS tpS (some ⟨b, 0, none⟩) [v, u] cap 0 _ _ hs (hS.below (below_alloc W _) tS) (Nat.le_trans tS (size_alloc W _)) (mv_two hb hv tv hu tu T) (Nat.le_refl _) ?_
  unfold listB
  simp [mv, mu]

set_option maxRecDepth 100000 in
set_option maxHeartbeats 6400000 in
theorem spec_VersorBetween (pS : Int) (aS : Option Addr) (S : List Int) (cS loS tpS : Nat) (au : Option Addr) (u : List Int) (cu lou tpu : Nat) (av : Option Addr) (v : List Int) (cv lov tpv : Nat) (w : World) (hS : RowIn loS tpS w aS S) (tS : tpS ≤ w.heap.size) (sS : S.length ≤ 1048576) (hu : RowIn lou tpu w au u) (tu : tpu ≤ w.heap.size) (su : u.length ≤ 1048576) (hv : RowIn lov tpv w av v) (tv : tpv ≤ w.heap.size) (sv : v.length ≤ 1048576) :
    Calls Try.prog 7 #[.agg #[.int .i64 pS, .slice aS S.length cS], .slice au u.length cu, .slice av v.length cv] w (SpecR (vbV pS S u v) (vbC pS S u v) w) := by
  have HS := Lib.hid hS
  have Hu := Lib.hid hu
  have Hv := Lib.hid hv
  have k0 := nw0 w (.int .i64 pS) (.slice aS S.length cS) 26
  have k1 := nw1 w (.int .i64 pS) (.slice aS S.length cS) 26
  have HB0 := Lib.hid (below_alloc w (.cells #[.int .i64 pS, .slice aS S.length cS] 26))
  clear hS hu hv
  by_cases hz0 : rvC pS S [u, v] = 0
  · have HZ := Lib.hid hz0
    obtain ⟨A, hA⟩ : ∃ a, a = pairN pS S u u := ⟨_, rfl⟩
    obtain ⟨B, hB⟩ : ∃ a, a = pairN pS S v v := ⟨_, rfl⟩
    have HAE := Lib.hid hA
    have HBE_ := Lib.hid hB
    by_cases ha0 : A = 0
    · have HVC : Hid (vbV pS S u v = [] ∧ vbC pS S u v = 5) := by
        have e : vbC pS S u v = 5 := by unfold vbC; rw [if_pos hz0, if_neg (fun h => h.2 (by rw [← hA]; exact ha0))]
        exact ⟨by unfold vbV; rw [if_neg (by rw [e]; decide)], e⟩
      have h2_ := rvC_two hz0
      have HI := Lib.hid h2_.1
      have HVu := Lib.hid h2_.2.1
      have HVv := Lib.hid h2_.2.2
      have e2 : (A == 0) = true := by simpa using ha0
      clear hz0 h2_ hA hB ha0
      go_enter Try.func7, Try.ntmps7
      go_upto_region 1 with fail
      obtain ⟨w1, hw1⟩ : ∃ z, z = w.alloc (.cells #[.int .i64 pS, .slice aS S.length cS] 26) := ⟨_, rfl⟩
      rw [← hw1] at HB0 k0 k1 ⊢
      have hd1 : w.heap.size < w1.heap.size := by rw [hw1]; simp
      have HB1 := HB0
      clear hw1
      have SS1 := Lib.hid (And.intro k0 k1)
      go_upto_region 2 with (go_at_call 26; ((with_reducible refine (vectors2 pS aS S cS loS tpS au u cu lou tpu av v cv lov tpv _ _ w1 _ rfl (HS.out.below HB1.out tS) (Nat.le_trans tS HB1.out.size) sS (Hu.out.below HB1.out tu) (Nat.le_trans tu HB1.out.size) su (Hv.out.below HB1.out tv) (Nat.le_trans tv HB1.out.size) sv).mono ?_); rintro e w2 ⟨rfl, b_⟩; rw [HZ.out]; have b2_ := below_step (below_alloc w1 (.cells #[.slice au u.length cu, .slice av v.length cv] 24)) (size_alloc w1 (.cells #[.slice au u.length cu, .slice av v.length cv] 24)) b_; have SS2 := Lib.hid (ss2 b2_ hd1 SS1.out); have HB2 := Lib.hid (below_step HB1.out HB1.out.size b2_); have hd2 := Nat.lt_of_lt_of_le hd1 b2_.size; clear k0 k1; obtain ⟨k0, k1⟩ := SS2.out; clear b_ b2_))
      have hs1 : Hid (w2.drew.cell? ⟨w.heap.size, 0, none⟩ = some (.int .i64 pS) ∧ w2.drew.cell? ⟨w.heap.size, 1, none⟩ = some (.slice aS S.length cS)) := SS2.out
      have HBD : Hid (Below w.heap.size w w2.drew) := HB2.out.drew
      have hd2d : w.heap.size < w2.drew.heap.size := hd2
  
      refine wp_region_noPanic ?_
      refine wp_region_held_drew (S := fun w' => w'.cell? ⟨w.heap.size, 0, none⟩ = some (.int .i64 pS) ∧ w'.cell? ⟨w.heap.size, 1, none⟩ = some (.slice aS S.length cS)) (by kernel_rfl) (hs1.out) (fun hHeld => ?_)
      (refine wpAnyH_take (i := 0) (oi := _) (v := ?_) rfl (by kernel_rfl) (by kernel_rfl) (by kernel_rfl) (fun _ _ _ h => h) (Or.inl ⟨by kernel_rfl, ?_⟩) (by assumption) ?_; rotate_left; (focus (intro w' hSw; (try dsimp only at hSw); first | (go_simp; done) | (go_simp; with_reducible rfl)))); ((try simp only [Act.put]); (try simp only [List.setIfInBounds_toArray]); (try simp only [List.set_cons_succ]); (try simp only [List.set_cons_zero]))
      (refine wpAnyH_take (i := 1) (oi := _) (v := ?_) rfl (by kernel_rfl) (by kernel_rfl) (by kernel_rfl) (fun _ _ _ h => h) (Or.inl ⟨by kernel_rfl, ?_⟩) (by assumption) ?_; rotate_left; (focus (intro w' hSw; (try dsimp only at hSw); first | (go_simp; done) | (go_simp; with_reducible rfl)))); (try simp only [List.getElem_toArray, List.getElem_cons_succ, List.getElem_cons_zero]); ((try simp only [Act.put]); (try simp only [List.setIfInBounds_toArray]); (try simp only [List.set_cons_succ]); (try simp only [List.set_cons_zero]))
      (refine wpAnyH_take (i := 2) (oi := _) (v := ?_) rfl (by kernel_rfl) (by kernel_rfl) (by kernel_rfl) (fun _ _ _ h => h) (Or.inl ⟨by kernel_rfl, ?_⟩) (by assumption) ?_; rotate_left; (focus (intro w' hSw; (try dsimp only at hSw); first | (go_simp; done) | (go_simp; with_reducible rfl)))); (try simp only [List.getElem_toArray, List.getElem_cons_succ, List.getElem_cons_zero]); ((try simp only [Act.put]); (try simp only [List.setIfInBounds_toArray]); (try simp only [List.set_cons_succ]); (try simp only [List.set_cons_zero]))
      (refine wpAnyH_take (i := 3) (oi := _) (v := ?_) rfl (by kernel_rfl) (by kernel_rfl) (by kernel_rfl) (fun _ _ _ h => h) (Or.inl ⟨by kernel_rfl, ?_⟩) (by assumption) ?_; rotate_left; (focus (intro w' hSw; (try dsimp only at hSw); first | (go_simp; done) | (go_simp; with_reducible rfl)))); (try simp only [List.getElem_toArray, List.getElem_cons_succ, List.getElem_cons_zero]); ((try simp only [Act.put]); (try simp only [List.setIfInBounds_toArray]); (try simp only [List.set_cons_succ]); (try simp only [List.set_cons_zero]))
      (refine wpAnyH_take (i := 4) (oi := _) (v := ?_) rfl (by kernel_rfl) (by kernel_rfl) (by kernel_rfl) (fun _ _ _ h => h) (Or.inl ⟨by kernel_rfl, ?_⟩) (by assumption) ?_; rotate_left; (focus (intro w' hSw; (try dsimp only at hSw); first | (go_simp; done) | (go_simp; with_reducible rfl)))); (try simp only [List.getElem_toArray, List.getElem_cons_succ, List.getElem_cons_zero]); ((try simp only [Act.put]); (try simp only [List.setIfInBounds_toArray]); (try simp only [List.set_cons_succ]); (try simp only [List.set_cons_zero]))
      (refine wpAnyH_take (i := 5) (oi := _) (v := ?_) rfl (by kernel_rfl) (by kernel_rfl) (by kernel_rfl) (fun _ _ _ h => h) (Or.inl ⟨by kernel_rfl, ?_⟩) (by assumption) ?_; rotate_left; (focus (intro w' hSw; (try dsimp only at hSw); first | (go_simp; done) | (go_simp; with_reducible rfl)))); (try simp only [List.getElem_toArray, List.getElem_cons_succ, List.getElem_cons_zero]); ((try simp only [Act.put]); (try simp only [List.setIfInBounds_toArray]); (try simp only [List.set_cons_succ]); (try simp only [List.set_cons_zero]))
      refine wpAnyH_ready (rs := [6]) (by kernel_rfl) (by simp) ?_
      refine AllReadyH.cons (o := _) rfl (fun K hK => ?_) AllReadyH.nil
      go_simp; go_at_call 27; (with_reducible refine (l03Pair_any pS aS S cS loS tpS au u cu lou tpu au u cu lou tpu w2.drew (HS.out.below HBD.out tS) (Nat.le_trans tS (HBD.out).size) (Hu.out.below HBD.out tu) (Nat.le_trans tu (HBD.out).size) (Hu.out.below HBD.out tu) (Nat.le_trans tu (HBD.out).size) HI.out HVu.out HVu.out).mono ?_); rintro e wa ⟨rfl, b_⟩; rw [← HAE.out]; have SSa := Lib.hid (ss2 b_ hd2d hs1.out); have HBa := Lib.hid (below_step HBD.out (Nat.le_of_lt hd2d) b_); have zz_ := b_.size; have hda := Nat.lt_of_lt_of_le hd2d zz_; clear b_; (try go_wp2_with fail)
      refine hK.out _ _ (SSa.out) (fun hHeld => ?_)
      clear hK K
      ((try simp only [Act.put]); (try simp only [List.setIfInBounds_toArray]); (try simp only [List.set_cons_succ]); (try simp only [List.set_cons_zero]))
      (refine wpAnyH_take (i := 7) (oi := _) (v := ?_) rfl (by kernel_rfl) (by kernel_rfl) (by kernel_rfl) (fun _ _ _ h => h) (Or.inl ⟨by kernel_rfl, ?_⟩) (by assumption) ?_; rotate_left; (focus (intro w' hSw; (try dsimp only at hSw); first | (go_simp; done) | (go_simp; with_reducible rfl)))); (try simp only [List.getElem_toArray, List.getElem_cons_succ, List.getElem_cons_zero]); ((try simp only [Act.put]); (try simp only [List.setIfInBounds_toArray]); (try simp only [List.set_cons_succ]); (try simp only [List.set_cons_zero]))
      (refine wpAnyH_take (i := 8) (oi := _) (v := ?_) rfl (by kernel_rfl) (by kernel_rfl) (by kernel_rfl) (fun _ _ _ h => h) (Or.inl ⟨by kernel_rfl, ?_⟩) (by assumption) ?_; rotate_left; (focus (intro w' hSw; (try dsimp only at hSw); first | (go_simp; done) | (go_simp; with_reducible rfl)))); (try simp only [List.getElem_toArray, List.getElem_cons_succ, List.getElem_cons_zero]); ((try simp only [Act.put]); (try simp only [List.setIfInBounds_toArray]); (try simp only [List.set_cons_succ]); (try simp only [List.set_cons_zero]))
      (refine wpAnyH_take (i := 9) (oi := _) (v := undef) rfl (by kernel_rfl) (by kernel_rfl) (by kernel_rfl) (fun _ _ _ h => h) (Or.inr ⟨by kernel_rfl, rfl⟩) (by assumption) ?_); (try simp only [List.getElem_toArray, List.getElem_cons_succ, List.getElem_cons_zero]); ((try simp only [Act.put]); (try simp only [List.setIfInBounds_toArray]); (try simp only [List.set_cons_succ]); (try simp only [List.set_cons_zero]))
      (refine wpAnyH_take (i := 10) (oi := _) (v := undef) rfl (by kernel_rfl) (by kernel_rfl) (by kernel_rfl) (fun _ _ _ h => h) (Or.inr ⟨by kernel_rfl, rfl⟩) (by assumption) ?_); (try simp only [List.getElem_toArray, List.getElem_cons_succ, List.getElem_cons_zero]); ((try simp only [Act.put]); (try simp only [List.setIfInBounds_toArray]); (try simp only [List.set_cons_succ]); (try simp only [List.set_cons_zero]))
      (refine wpAnyH_take (i := 11) (oi := _) (v := undef) rfl (by kernel_rfl) (by kernel_rfl) (by kernel_rfl) (fun _ _ _ h => h) (Or.inr ⟨by kernel_rfl, rfl⟩) (by assumption) ?_); (try simp only [List.getElem_toArray, List.getElem_cons_succ, List.getElem_cons_zero]); ((try simp only [Act.put]); (try simp only [List.setIfInBounds_toArray]); (try simp only [List.set_cons_succ]); (try simp only [List.set_cons_zero]))
      (refine wpAnyH_take (i := 12) (oi := _) (v := undef) rfl (by kernel_rfl) (by kernel_rfl) (by kernel_rfl) (fun _ _ _ h => h) (Or.inr ⟨by kernel_rfl, rfl⟩) (by assumption) ?_); (try simp only [List.getElem_toArray, List.getElem_cons_succ, List.getElem_cons_zero]); ((try simp only [Act.put]); (try simp only [List.setIfInBounds_toArray]); (try simp only [List.set_cons_succ]); (try simp only [List.set_cons_zero]))
      (refine wpAnyH_take (i := 13) (oi := _) (v := undef) rfl (by kernel_rfl) (by kernel_rfl) (by kernel_rfl) (fun _ _ _ h => h) (Or.inr ⟨by kernel_rfl, rfl⟩) (by assumption) ?_); (try simp only [List.getElem_toArray, List.getElem_cons_succ, List.getElem_cons_zero]); ((try simp only [Act.put]); (try simp only [List.setIfInBounds_toArray]); (try simp only [List.set_cons_succ]); (try simp only [List.set_cons_zero]))
      (refine wpAnyH_take (i := 14) (oi := _) (v := undef) rfl (by kernel_rfl) (by kernel_rfl) (by kernel_rfl) (fun _ _ _ h => h) (Or.inr ⟨by kernel_rfl, rfl⟩) (by assumption) ?_); (try simp only [List.getElem_toArray, List.getElem_cons_succ, List.getElem_cons_zero]); ((try simp only [Act.put]); (try simp only [List.setIfInBounds_toArray]); (try simp only [List.set_cons_succ]); (try simp only [List.set_cons_zero]))
      (refine wpAnyH_take (i := 15) (oi := _) (v := undef) rfl (by kernel_rfl) (by kernel_rfl) (by kernel_rfl) (fun _ _ _ h => h) (Or.inr ⟨by kernel_rfl, rfl⟩) (by assumption) ?_); (try simp only [List.getElem_toArray, List.getElem_cons_succ, List.getElem_cons_zero]); ((try simp only [Act.put]); (try simp only [List.setIfInBounds_toArray]); (try simp only [List.set_cons_succ]); (try simp only [List.set_cons_zero]))
      (refine wpAnyH_take (i := 16) (oi := _) (v := undef) rfl (by kernel_rfl) (by kernel_rfl) (by kernel_rfl) (fun _ _ _ h => h) (Or.inr ⟨by kernel_rfl, rfl⟩) (by assumption) ?_); (try simp only [List.getElem_toArray, List.getElem_cons_succ, List.getElem_cons_zero]); ((try simp only [Act.put]); (try simp only [List.setIfInBounds_toArray]); (try simp only [List.set_cons_succ]); (try simp only [List.set_cons_zero]))
      (refine wpAnyH_take (i := 17) (oi := _) (v := undef) rfl (by kernel_rfl) (by kernel_rfl) (by kernel_rfl) (fun _ _ _ h => h) (Or.inr ⟨by kernel_rfl, rfl⟩) (by assumption) ?_); (try simp only [List.getElem_toArray, List.getElem_cons_succ, List.getElem_cons_zero]); ((try simp only [Act.put]); (try simp only [List.setIfInBounds_toArray]); (try simp only [List.set_cons_succ]); (try simp only [List.set_cons_zero]))
      (refine wpAnyH_take (i := 18) (oi := _) (v := ?_) rfl (by kernel_rfl) (by kernel_rfl) (by kernel_rfl) (fun _ _ _ h => h) (Or.inl ⟨by kernel_rfl, ?_⟩) (by assumption) ?_; rotate_left; (focus (intro w' hSw; (try dsimp only at hSw); first | (go_simp; done) | (go_simp; with_reducible rfl)))); (try simp only [List.getElem_toArray, List.getElem_cons_succ, List.getElem_cons_zero]); ((try simp only [Act.put]); (try simp only [List.setIfInBounds_toArray]); (try simp only [List.set_cons_succ]); (try simp only [List.set_cons_zero]))
      (refine wpAnyH_take (i := 19) (oi := _) (v := ?_) rfl (by kernel_rfl) (by kernel_rfl) (by kernel_rfl) (fun _ _ _ h => h) (Or.inl ⟨by kernel_rfl, ?_⟩) (by assumption) ?_; rotate_left; (focus (intro w' hSw; (try dsimp only at hSw); first | (go_simp; done) | (go_simp; with_reducible rfl)))); (try simp only [List.getElem_toArray, List.getElem_cons_succ, List.getElem_cons_zero]); ((try simp only [Act.put]); (try simp only [List.setIfInBounds_toArray]); (try simp only [List.set_cons_succ]); (try simp only [List.set_cons_zero]))
      refine wpAnyH_done (by kernel_rfl) ?_ _
      refine NoPanic.normal ?_
      go_wp2
      go_ret2
      rw [HVC.out.1, HVC.out.2]
      exact ⟨none, 0, rfl, .inl rfl, HBa.out⟩
    · have e2 : (A == 0) = false := by simpa using ha0
      by_cases hab : A = B
      · by_cases hd0 : pairN pS S (dfM pS u v) (dfM pS u v) = 0
        · have HVC : Hid (vbV pS S u v = vrM pS S [v, smM7 pS u v] 2 ∧ vbC pS S u v = 0) := by
            have e : vbC pS S u v = 0 := by unfold vbC; rw [if_pos hz0, if_pos ⟨by rw [← hA, ← hB]; exact hab, by rw [← hA]; exact ha0⟩]
            exact ⟨by unfold vbV; rw [if_pos e, if_pos hd0], e⟩
          have h2_ := rvC_two hz0
          have HI := Lib.hid h2_.1
          have HVu := Lib.hid h2_.2.1
          have HVv := Lib.hid h2_.2.2
          obtain ⟨N, hN⟩ : ∃ a, a = pairN pS S (dfM pS u v) (dfM pS u v) := ⟨_, rfl⟩
          have HNE := Lib.hid hN
          have h6 := (isSp_iff.1 h2_.1).hi
          have hpb := prm_bd (isSp_iff.1 h2_.1).prime
          have hvl : v.length = S.length := (isVec_iff.1 h2_.2.2).len
          have hul : u.length = S.length := (isVec_iff.1 h2_.2.1).len
          have HDV : Hid (isVec pS S.length (dfM pS u v) = true) := plus_vec (by omega) _ hvl
          have HSV : Hid (isVec pS S.length (smM7 pS u v) = true) := plus_vec (by omega) _ hvl
          have HDL : Hid ((dfM pS u v).length = S.length) := by show _ = _; rw [dfM_len]; exact hvl
          have hlen : v.length ≤ u.length := by omega
          have hvs : v.length ≤ 1048576 := by omega
          have HNV : Hid (∀ j, j < v.length → 0 ≤ v.getD j 0 ∧ v.getD j 0 < pS) := fun j hj => (isVec_iff.1 h2_.2.2).num (by omega)
          have HNU : Hid (∀ j, j < u.length → 0 ≤ u.getD j 0 ∧ u.getD j 0 < pS) := fun j hj => (isVec_iff.1 h2_.2.1).num (by omega)
          have w1_ : wrap64 (pS - 1) = pS - 1 := by unfold wrap64; omega
          have w2_ : IntKind.i64.wrap (pS - 1) = pS - 1 := IntWalk.i64_in _ (by omega)
          have q0_ : 0 ≤ pS - 1 := by omega
          have q1_ : pS - 1 ≤ pS := by omega
          have q2_ : (1 : Int) ≤ pS := by omega
          have e3 : (N != 0) = false := by rw [hN]; simpa using hd0
          have e4 : (A != B) = false := by simp [hab]
          clear hz0 h2_ hA hB ha0 hab hd0 hN hvl hul
          go_enter Try.func7, Try.ntmps7
          go_upto_region 1 with fail
          obtain ⟨w1, hw1⟩ : ∃ z, z = w.alloc (.cells #[.int .i64 pS, .slice aS S.length cS] 26) := ⟨_, rfl⟩
          rw [← hw1] at HB0 k0 k1 ⊢
          have hd1 : w.heap.size < w1.heap.size := by rw [hw1]; simp
          have HB1 := HB0
          clear hw1
          have SS1 := Lib.hid (And.intro k0 k1)
          go_upto_region 2 with (go_at_call 26; ((with_reducible refine (vectors2 pS aS S cS loS tpS au u cu lou tpu av v cv lov tpv _ _ w1 _ rfl (HS.out.below HB1.out tS) (Nat.le_trans tS HB1.out.size) sS (Hu.out.below HB1.out tu) (Nat.le_trans tu HB1.out.size) su (Hv.out.below HB1.out tv) (Nat.le_trans tv HB1.out.size) sv).mono ?_); rintro e w2 ⟨rfl, b_⟩; rw [HZ.out]; have b2_ := below_step (below_alloc w1 (.cells #[.slice au u.length cu, .slice av v.length cv] 24)) (size_alloc w1 (.cells #[.slice au u.length cu, .slice av v.length cv] 24)) b_; have SS2 := Lib.hid (ss2 b2_ hd1 SS1.out); have HB2 := Lib.hid (below_step HB1.out HB1.out.size b2_); have hd2 := Nat.lt_of_lt_of_le hd1 b2_.size; clear k0 k1; obtain ⟨k0, k1⟩ := SS2.out; clear b_ b2_))
          have hs1 : Hid (w2.drew.cell? ⟨w.heap.size, 0, none⟩ = some (.int .i64 pS) ∧ w2.drew.cell? ⟨w.heap.size, 1, none⟩ = some (.slice aS S.length cS)) := SS2.out
          have HBD : Hid (Below w.heap.size w w2.drew) := HB2.out.drew
          have hd2d : w.heap.size < w2.drew.heap.size := hd2
      
          refine wp_region_noPanic ?_
          refine wp_region_held_drew (S := fun w' => w'.cell? ⟨w.heap.size, 0, none⟩ = some (.int .i64 pS) ∧ w'.cell? ⟨w.heap.size, 1, none⟩ = some (.slice aS S.length cS)) (by kernel_rfl) (hs1.out) (fun hHeld => ?_)
          (refine wpAnyH_take (i := 0) (oi := _) (v := ?_) rfl (by kernel_rfl) (by kernel_rfl) (by kernel_rfl) (fun _ _ _ h => h) (Or.inl ⟨by kernel_rfl, ?_⟩) (by assumption) ?_; rotate_left; (focus (intro w' hSw; (try dsimp only at hSw); first | (go_simp; done) | (go_simp; with_reducible rfl)))); ((try simp only [Act.put]); (try simp only [List.setIfInBounds_toArray]); (try simp only [List.set_cons_succ]); (try simp only [List.set_cons_zero]))
          (refine wpAnyH_take (i := 1) (oi := _) (v := ?_) rfl (by kernel_rfl) (by kernel_rfl) (by kernel_rfl) (fun _ _ _ h => h) (Or.inl ⟨by kernel_rfl, ?_⟩) (by assumption) ?_; rotate_left; (focus (intro w' hSw; (try dsimp only at hSw); first | (go_simp; done) | (go_simp; with_reducible rfl)))); (try simp only [List.getElem_toArray, List.getElem_cons_succ, List.getElem_cons_zero]); ((try simp only [Act.put]); (try simp only [List.setIfInBounds_toArray]); (try simp only [List.set_cons_succ]); (try simp only [List.set_cons_zero]))
          (refine wpAnyH_take (i := 2) (oi := _) (v := ?_) rfl (by kernel_rfl) (by kernel_rfl) (by kernel_rfl) (fun _ _ _ h => h) (Or.inl ⟨by kernel_rfl, ?_⟩) (by assumption) ?_; rotate_left; (focus (intro w' hSw; (try dsimp only at hSw); first | (go_simp; done) | (go_simp; with_reducible rfl)))); (try simp only [List.getElem_toArray, List.getElem_cons_succ, List.getElem_cons_zero]); ((try simp only [Act.put]); (try simp only [List.setIfInBounds_toArray]); (try simp only [List.set_cons_succ]); (try simp only [List.set_cons_zero]))
          (refine wpAnyH_take (i := 3) (oi := _) (v := ?_) rfl (by kernel_rfl) (by kernel_rfl) (by kernel_rfl) (fun _ _ _ h => h) (Or.inl ⟨by kernel_rfl, ?_⟩) (by assumption) ?_; rotate_left; (focus (intro w' hSw; (try dsimp only at hSw); first | (go_simp; done) | (go_simp; with_reducible rfl)))); (try simp only [List.getElem_toArray, List.getElem_cons_succ, List.getElem_cons_zero]); ((try simp only [Act.put]); (try simp only [List.setIfInBounds_toArray]); (try simp only [List.set_cons_succ]); (try simp only [List.set_cons_zero]))
          (refine wpAnyH_take (i := 4) (oi := _) (v := ?_) rfl (by kernel_rfl) (by kernel_rfl) (by kernel_rfl) (fun _ _ _ h => h) (Or.inl ⟨by kernel_rfl, ?_⟩) (by assumption) ?_; rotate_left; (focus (intro w' hSw; (try dsimp only at hSw); first | (go_simp; done) | (go_simp; with_reducible rfl)))); (try simp only [List.getElem_toArray, List.getElem_cons_succ, List.getElem_cons_zero]); ((try simp only [Act.put]); (try simp only [List.setIfInBounds_toArray]); (try simp only [List.set_cons_succ]); (try simp only [List.set_cons_zero]))
          (refine wpAnyH_take (i := 5) (oi := _) (v := ?_) rfl (by kernel_rfl) (by kernel_rfl) (by kernel_rfl) (fun _ _ _ h => h) (Or.inl ⟨by kernel_rfl, ?_⟩) (by assumption) ?_; rotate_left; (focus (intro w' hSw; (try dsimp only at hSw); first | (go_simp; done) | (go_simp; with_reducible rfl)))); (try simp only [List.getElem_toArray, List.getElem_cons_succ, List.getElem_cons_zero]); ((try simp only [Act.put]); (try simp only [List.setIfInBounds_toArray]); (try simp only [List.set_cons_succ]); (try simp only [List.set_cons_zero]))
          refine wpAnyH_ready (rs := [6]) (by kernel_rfl) (by simp) ?_
          refine AllReadyH.cons (o := _) rfl (fun K hK => ?_) AllReadyH.nil
          go_simp; go_at_call 27; (with_reducible refine (l03Pair_any pS aS S cS loS tpS au u cu lou tpu au u cu lou tpu w2.drew (HS.out.below HBD.out tS) (Nat.le_trans tS (HBD.out).size) (Hu.out.below HBD.out tu) (Nat.le_trans tu (HBD.out).size) (Hu.out.below HBD.out tu) (Nat.le_trans tu (HBD.out).size) HI.out HVu.out HVu.out).mono ?_); rintro e wa ⟨rfl, b_⟩; rw [← HAE.out]; have SSa := Lib.hid (ss2 b_ hd2d hs1.out); have HBa := Lib.hid (below_step HBD.out (Nat.le_of_lt hd2d) b_); have zz_ := b_.size; have hda := Nat.lt_of_lt_of_le hd2d zz_; clear b_; (try go_wp2_with fail)
          refine hK.out _ _ (SSa.out) (fun hHeld => ?_)
          clear hK K
          ((try simp only [Act.put]); (try simp only [List.setIfInBounds_toArray]); (try simp only [List.set_cons_succ]); (try simp only [List.set_cons_zero]))
          (refine wpAnyH_take (i := 7) (oi := _) (v := ?_) rfl (by kernel_rfl) (by kernel_rfl) (by kernel_rfl) (fun _ _ _ h => h) (Or.inl ⟨by kernel_rfl, ?_⟩) (by assumption) ?_; rotate_left; (focus (intro w' hSw; (try dsimp only at hSw); first | (go_simp; done) | (go_simp; with_reducible rfl)))); (try simp only [List.getElem_toArray, List.getElem_cons_succ, List.getElem_cons_zero]); ((try simp only [Act.put]); (try simp only [List.setIfInBounds_toArray]); (try simp only [List.set_cons_succ]); (try simp only [List.set_cons_zero]))
          (refine wpAnyH_take (i := 8) (oi := _) (v := ?_) rfl (by kernel_rfl) (by kernel_rfl) (by kernel_rfl) (fun _ _ _ h => h) (Or.inl ⟨by kernel_rfl, ?_⟩) (by assumption) ?_; rotate_left; (focus (intro w' hSw; (try dsimp only at hSw); first | (go_simp; done) | (go_simp; with_reducible rfl)))); (try simp only [List.getElem_toArray, List.getElem_cons_succ, List.getElem_cons_zero]); ((try simp only [Act.put]); (try simp only [List.setIfInBounds_toArray]); (try simp only [List.set_cons_succ]); (try simp only [List.set_cons_zero]))
          (refine wpAnyH_take (i := 9) (oi := _) (v := ?_) rfl (by kernel_rfl) (by kernel_rfl) (by kernel_rfl) (fun _ _ _ h => h) (Or.inl ⟨by kernel_rfl, ?_⟩) (by assumption) ?_; rotate_left; (focus (intro w' hSw; (try dsimp only at hSw); first | (go_simp; done) | (go_simp; with_reducible rfl)))); (try simp only [List.getElem_toArray, List.getElem_cons_succ, List.getElem_cons_zero]); ((try simp only [Act.put]); (try simp only [List.setIfInBounds_toArray]); (try simp only [List.set_cons_succ]); (try simp only [List.set_cons_zero]))
          (refine wpAnyH_take (i := 10) (oi := _) (v := ?_) rfl (by kernel_rfl) (by kernel_rfl) (by kernel_rfl) (fun _ _ _ h => h) (Or.inl ⟨by kernel_rfl, ?_⟩) (by assumption) ?_; rotate_left; (focus (intro w' hSw; (try dsimp only at hSw); first | (go_simp; done) | (go_simp; with_reducible rfl)))); (try simp only [List.getElem_toArray, List.getElem_cons_succ, List.getElem_cons_zero]); ((try simp only [Act.put]); (try simp only [List.setIfInBounds_toArray]); (try simp only [List.set_cons_succ]); (try simp only [List.set_cons_zero]))
          (refine wpAnyH_take (i := 11) (oi := _) (v := ?_) rfl (by kernel_rfl) (by kernel_rfl) (by kernel_rfl) (fun _ _ _ h => h) (Or.inl ⟨by kernel_rfl, ?_⟩) (by assumption) ?_; rotate_left; (focus (intro w' hSw; (try dsimp only at hSw); first | (go_simp; done) | (go_simp; with_reducible rfl)))); (try simp only [List.getElem_toArray, List.getElem_cons_succ, List.getElem_cons_zero]); ((try simp only [Act.put]); (try simp only [List.setIfInBounds_toArray]); (try simp only [List.set_cons_succ]); (try simp only [List.set_cons_zero]))
          (refine wpAnyH_take (i := 13) (oi := _) (v := ?_) rfl (by kernel_rfl) (by kernel_rfl) (by kernel_rfl) (fun _ _ _ h => h) (Or.inl ⟨by kernel_rfl, ?_⟩) (by assumption) ?_; rotate_left; (focus (intro w' hSw; (try dsimp only at hSw); first | (go_simp; done) | (go_simp; with_reducible rfl)))); (try simp only [List.getElem_toArray, List.getElem_cons_succ, List.getElem_cons_zero]); ((try simp only [Act.put]); (try simp only [List.setIfInBounds_toArray]); (try simp only [List.set_cons_succ]); (try simp only [List.set_cons_zero]))
          (refine wpAnyH_take (i := 14) (oi := _) (v := ?_) rfl (by kernel_rfl) (by kernel_rfl) (by kernel_rfl) (fun _ _ _ h => h) (Or.inl ⟨by kernel_rfl, ?_⟩) (by assumption) ?_; rotate_left; (focus (intro w' hSw; (try dsimp only at hSw); first | (go_simp; done) | (go_simp; with_reducible rfl)))); (try simp only [List.getElem_toArray, List.getElem_cons_succ, List.getElem_cons_zero]); ((try simp only [Act.put]); (try simp only [List.setIfInBounds_toArray]); (try simp only [List.set_cons_succ]); (try simp only [List.set_cons_zero]))
          (refine wpAnyH_take (i := 15) (oi := _) (v := ?_) rfl (by kernel_rfl) (by kernel_rfl) (by kernel_rfl) (fun _ _ _ h => h) (Or.inl ⟨by kernel_rfl, ?_⟩) (by assumption) ?_; rotate_left; (focus (intro w' hSw; (try dsimp only at hSw); first | (go_simp; done) | (go_simp; with_reducible rfl)))); (try simp only [List.getElem_toArray, List.getElem_cons_succ, List.getElem_cons_zero]); ((try simp only [Act.put]); (try simp only [List.setIfInBounds_toArray]); (try simp only [List.set_cons_succ]); (try simp only [List.set_cons_zero]))
          refine wpAnyH_ready (rs := [12]) (by kernel_rfl) (by simp) ?_
          refine AllReadyH.cons (o := _) rfl (fun K hK => ?_) AllReadyH.nil
          go_simp; go_at_call 27; (with_reducible refine (l03Pair_any pS aS S cS loS tpS au u cu lou tpu au u cu lou tpu wa (HS.out.below HBa.out tS) (Nat.le_trans tS (HBa.out).size) (Hu.out.below HBa.out tu) (Nat.le_trans tu (HBa.out).size) (Hu.out.below HBa.out tu) (Nat.le_trans tu (HBa.out).size) HI.out HVu.out HVu.out).mono ?_); rintro e wab ⟨rfl, b_⟩; rw [← HAE.out]; have SSab := Lib.hid (ss2 b_ hda SSa.out); have HBab := Lib.hid (below_step HBa.out (Nat.le_of_lt hda) b_); have zz_ := b_.size; have hdab := Nat.lt_of_lt_of_le hda zz_; clear b_; (try go_wp2_with fail)
          refine hK.out _ _ (SSab.out) (fun hHeld => ?_)
          clear hK K
          ((try simp only [Act.put]); (try simp only [List.setIfInBounds_toArray]); (try simp only [List.set_cons_succ]); (try simp only [List.set_cons_zero]))
          refine wpAnyH_ready (rs := [16]) (by kernel_rfl) (by simp) ?_
          refine AllReadyH.cons (o := _) rfl (fun K hK => ?_) AllReadyH.nil
          go_simp; go_at_call 27; (with_reducible refine (l03Pair_any pS aS S cS loS tpS av v cv lov tpv av v cv lov tpv wab (HS.out.below HBab.out tS) (Nat.le_trans tS (HBab.out).size) (Hv.out.below HBab.out tv) (Nat.le_trans tv (HBab.out).size) (Hv.out.below HBab.out tv) (Nat.le_trans tv (HBab.out).size) HI.out HVv.out HVv.out).mono ?_); rintro e wabc ⟨rfl, b_⟩; rw [← HBE_.out]; have SSabc := Lib.hid (ss2 b_ hdab SSab.out); have HBabc := Lib.hid (below_step HBab.out (Nat.le_of_lt hdab) b_); have zz_ := b_.size; have hdabc := Nat.lt_of_lt_of_le hdab zz_; clear b_; (try go_wp2_with fail)
          refine hK.out _ _ (SSabc.out) (fun hHeld => ?_)
          clear hK K
          ((try simp only [Act.put]); (try simp only [List.setIfInBounds_toArray]); (try simp only [List.set_cons_succ]); (try simp only [List.set_cons_zero]))
          (refine wpAnyH_take (i := 17) (oi := _) (v := ?_) rfl (by kernel_rfl) (by kernel_rfl) (by kernel_rfl) (fun _ _ _ h => h) (Or.inl ⟨by kernel_rfl, ?_⟩) (by assumption) ?_; rotate_left; (focus (intro w' hSw; (try dsimp only at hSw); first | (go_simp; done) | (go_simp; with_reducible rfl)))); (try simp only [List.getElem_toArray, List.getElem_cons_succ, List.getElem_cons_zero]); ((try simp only [Act.put]); (try simp only [List.setIfInBounds_toArray]); (try simp only [List.set_cons_succ]); (try simp only [List.set_cons_zero]))
          (refine wpAnyH_take (i := 18) (oi := _) (v := ?_) rfl (by kernel_rfl) (by kernel_rfl) (by kernel_rfl) (fun _ _ _ h => h) (Or.inl ⟨by kernel_rfl, ?_⟩) (by assumption) ?_; rotate_left; (focus (intro w' hSw; (try dsimp only at hSw); first | (go_simp; done) | (go_simp; with_reducible rfl)))); (try simp only [List.getElem_toArray, List.getElem_cons_succ, List.getElem_cons_zero]); ((try simp only [Act.put]); (try simp only [List.setIfInBounds_toArray]); (try simp only [List.set_cons_succ]); (try simp only [List.set_cons_zero]))
          (refine wpAnyH_take (i := 19) (oi := _) (v := ?_) rfl (by kernel_rfl) (by kernel_rfl) (by kernel_rfl) (fun _ _ _ h => h) (Or.inl ⟨by kernel_rfl, ?_⟩) (by assumption) ?_; rotate_left; (focus (intro w' hSw; (try dsimp only at hSw); first | (go_simp; done) | (go_simp; with_reducible rfl)))); (try simp only [List.getElem_toArray, List.getElem_cons_succ, List.getElem_cons_zero]); ((try simp only [Act.put]); (try simp only [List.setIfInBounds_toArray]); (try simp only [List.set_cons_succ]); (try simp only [List.set_cons_zero]))
          refine wpAnyH_done (by kernel_rfl) ?_ _
          refine NoPanic.normal ?_
          have SS3 := SSabc
          have HB3 := HBabc
          have hd3 := hdabc
          clear k0 k1
          obtain ⟨k0, k1⟩ := SS3.out
          go_wp2_with (first | (go_at_call 28; ((with_reducible refine (plus_sr pS (pS - 1) av au v u cv cu lov tpv lou tpu wabc (isSp_iff.1 HI.out).prime (Hv.out.below HB3.out tv) (Hu.out.below HB3.out tu) (Nat.le_trans tv HB3.out.size) (Nat.le_trans tu HB3.out.size) hlen hvs HNV.out HNU.out q0_ q1_).mono ?_); rintro e w4 ⟨rd, kd, rfl, o_, b_⟩; have SS4 := Lib.hid (ss2 b_ hd3 SS3.out); have HB4 := Lib.hid (below_step HB3.out HB3.out.size b_); have hd4 := Nat.lt_of_lt_of_le hd3 b_.size; have RD : Hid (RowIn w.heap.size w4.heap.size w4 rd (dfM pS u v)) := Lib.hid (o_.mono (Nat.le_of_lt hd3) (Nat.le_refl _)); clear o_; clear k0 k1; obtain ⟨k0, k1⟩ := SS4.out; clear b_)) | (go_at_call 27; ((with_reducible refine (l03Pair_below pS aS S cS loS tpS rd (dfM pS u v) v.length kd w.heap.size w4.heap.size rd (dfM pS u v) v.length kd w.heap.size w4.heap.size w4 (dfM_len _ _ _) (dfM_len _ _ _) (HS.out.below HB4.out tS) (Nat.le_trans tS HB4.out.size) RD.out (Nat.le_refl _) RD.out (Nat.le_refl _) HI.out HDV.out HDV.out).mono ?_); rintro e w5 ⟨rfl, b_⟩; rw [← HNE.out]; have SS5 := Lib.hid (ss2 b_ hd4 SS4.out); have HB5 := Lib.hid (below_step HB4.out HB4.out.size b_); have hd5 := Nat.lt_of_lt_of_le hd4 b_.size; have RD2 : Hid (RowIn w.heap.size w5.heap.size w5 rd (dfM pS u v)) := Lib.hid ((RD.out.below b_ (Nat.le_refl _)).mono (Nat.le_refl _) b_.size); clear k0 k1; obtain ⟨k0, k1⟩ := SS5.out; clear b_)))
          have hs2 : Hid (w5.drew.cell? ⟨w.heap.size, 0, none⟩ = some (.int .i64 pS) ∧ w5.drew.cell? ⟨w.heap.size, 1, none⟩ = some (.slice aS S.length cS)) := SS5.out
          have HBE : Hid (Below w.heap.size w w5.drew) := HB5.out.drew
          have hde : w.heap.size < w5.drew.heap.size := hd5
          refine wp_region_noPanic ?_
          refine wp_region_held_drew (S := fun w' => w'.cell? ⟨w.heap.size, 0, none⟩ = some (.int .i64 pS) ∧ w'.cell? ⟨w.heap.size, 1, none⟩ = some (.slice aS S.length cS)) (by kernel_rfl) (hs2.out) (fun hHeld => ?_)
          (refine wpAnyH_take (i := 0) (oi := _) (v := ?_) rfl (by kernel_rfl) (by kernel_rfl) (by kernel_rfl) (fun _ _ _ h => h) (Or.inl ⟨by kernel_rfl, ?_⟩) (by assumption) ?_; rotate_left; (focus (intro w' hSw; (try dsimp only at hSw); first | (go_simp; done) | (go_simp; with_reducible rfl)))); ((try simp only [Act.put]); (try simp only [List.setIfInBounds_toArray]); (try simp only [List.set_cons_succ]); (try simp only [List.set_cons_zero]))
          (refine wpAnyH_take (i := 1) (oi := _) (v := ?_) rfl (by kernel_rfl) (by kernel_rfl) (by kernel_rfl) (fun _ _ _ h => h) (Or.inl ⟨by kernel_rfl, ?_⟩) (by assumption) ?_; rotate_left; (focus (intro w' hSw; (try dsimp only at hSw); first | (go_simp; done) | (go_simp; with_reducible rfl)))); (try simp only [List.getElem_toArray, List.getElem_cons_succ, List.getElem_cons_zero]); ((try simp only [Act.put]); (try simp only [List.setIfInBounds_toArray]); (try simp only [List.set_cons_succ]); (try simp only [List.set_cons_zero]))
          (refine wpAnyH_take (i := 2) (oi := _) (v := ?_) rfl (by kernel_rfl) (by kernel_rfl) (by kernel_rfl) (fun _ _ _ h => h) (Or.inl ⟨by kernel_rfl, ?_⟩) (by assumption) ?_; rotate_left; (focus (intro w' hSw; (try dsimp only at hSw); first | (go_simp; done) | (go_simp; with_reducible rfl)))); (try simp only [List.getElem_toArray, List.getElem_cons_succ, List.getElem_cons_zero]); ((try simp only [Act.put]); (try simp only [List.setIfInBounds_toArray]); (try simp only [List.set_cons_succ]); (try simp only [List.set_cons_zero]))
          (refine wpAnyH_take (i := 3) (oi := _) (v := ?_) rfl (by kernel_rfl) (by kernel_rfl) (by kernel_rfl) (fun _ _ _ h => h) (Or.inl ⟨by kernel_rfl, ?_⟩) (by assumption) ?_; rotate_left; (focus (intro w' hSw; (try dsimp only at hSw); first | (go_simp; done) | (go_simp; with_reducible rfl)))); (try simp only [List.getElem_toArray, List.getElem_cons_succ, List.getElem_cons_zero]); ((try simp only [Act.put]); (try simp only [List.setIfInBounds_toArray]); (try simp only [List.set_cons_succ]); (try simp only [List.set_cons_zero]))
          (refine wpAnyH_take (i := 4) (oi := _) (v := ?_) rfl (by kernel_rfl) (by kernel_rfl) (by kernel_rfl) (fun _ _ _ h => h) (Or.inl ⟨by kernel_rfl, ?_⟩) (by assumption) ?_; rotate_left; (focus (intro w' hSw; (try dsimp only at hSw); first | (go_simp; done) | (go_simp; with_reducible rfl)))); (try simp only [List.getElem_toArray, List.getElem_cons_succ, List.getElem_cons_zero]); ((try simp only [Act.put]); (try simp only [List.setIfInBounds_toArray]); (try simp only [List.set_cons_succ]); (try simp only [List.set_cons_zero]))
          (refine wpAnyH_take (i := 5) (oi := _) (v := ?_) rfl (by kernel_rfl) (by kernel_rfl) (by kernel_rfl) (fun _ _ _ h => h) (Or.inl ⟨by kernel_rfl, ?_⟩) (by assumption) ?_; rotate_left; (focus (intro w' hSw; (try dsimp only at hSw); first | (go_simp; done) | (go_simp; with_reducible rfl)))); (try simp only [List.getElem_toArray, List.getElem_cons_succ, List.getElem_cons_zero]); ((try simp only [Act.put]); (try simp only [List.setIfInBounds_toArray]); (try simp only [List.set_cons_succ]); (try simp only [List.set_cons_zero]))
          refine wpAnyH_ready (rs := [6]) (by kernel_rfl) (by simp) ?_
          refine AllReadyH.cons (o := _) rfl (fun K hK => ?_) AllReadyH.nil
          go_simp; go_at_call 28; (with_reducible refine (plus_sr pS 1 av au v u cv cu lov tpv lou tpu w5.drew (isSp_iff.1 HI.out).prime (Hv.out.below HBE.out tv) (Hu.out.below HBE.out tu) (Nat.le_trans tv (HBE.out).size) (Nat.le_trans tu (HBE.out).size) hlen hvs HNV.out HNU.out Int.one_nonneg q2_).mono ?_); rintro e wd ⟨rd, kd, rfl, o_, b_⟩; have SSd := Lib.hid (ss2 b_ hde hs2.out); have HBd := Lib.hid (below_step HBE.out (Nat.le_of_lt hde) b_); have zz_ := b_.size; have hdd := Nat.lt_of_lt_of_le hde zz_; have Rd_d := Lib.hid (o_.mono (Nat.le_of_lt hde) (Nat.le_refl _)); clear b_ o_; (try go_wp2_with fail)
          refine hK.out _ _ (SSd.out) (fun hHeld => ?_)
          clear hK K
          ((try simp only [Act.put]); (try simp only [List.setIfInBounds_toArray]); (try simp only [List.set_cons_succ]); (try simp only [List.set_cons_zero]))
          refine wpAnyH_ready (rs := [7]) (by kernel_rfl) (by simp) ?_
          refine AllReadyH.cons (o := _) rfl (fun K hK => ?_) AllReadyH.nil
          go_simp
          refine hK.out _ _ ((ss2 (below_alloc wd _) hdd SSd.out)) (fun hHeld => ?_)
          clear hK K
          ((try simp only [Act.put]); (try simp only [List.setIfInBounds_toArray]); (try simp only [List.set_cons_succ]); (try simp only [List.set_cons_zero]))
          refine wpAnyH_ready (rs := [8]) (by kernel_rfl) (by simp) ?_
          refine AllReadyH.cons (o := _) rfl (fun K hK => ?_) AllReadyH.nil
          go_simp; (have RSd : Hid (RowIn w.heap.size wd.heap.size wd rd (smM7 pS u v)) := Rd_d); go_at_call 30; ((with_reducible refine (vs_two pS aS S cS loS tpS av v cv lov tpv rd (smM7 pS u v) v.length kd w.heap.size wd.heap.size _ _ wd _ rfl (smM7_len _ _ _) HI.out (HS.out.below HBd.out tS) (Nat.le_trans tS HBd.out.size) (Hv.out.below HBd.out tv) (Nat.le_trans tv HBd.out.size) HVv.out RSd.out (Nat.le_refl _) HSV.out).mono ?_); rintro e wz ⟨r, c, rfl, o_, b_⟩; have b2_ := below_step (below_alloc wd (.cells #[.slice av v.length cv, .slice rd v.length kd] 24)) (size_alloc wd (.cells #[.slice av v.length cv, .slice rd v.length kd] 24)) b_; have SSz := Lib.hid (ss2 b2_ hdd SSd.out); have HBz := Lib.hid (below_step HBd.out HBd.out.size b2_); have OO := Lib.hid (OwnR.mono' o_ (Nat.le_trans (Nat.le_of_lt hdd) (size_alloc wd (.cells #[.slice av v.length cv, .slice rd v.length kd] 24))) (Nat.le_refl _)); clear o_ b_ b2_); (try go_wp2_with fail)
          refine hK.out _ _ (SSz.out) (fun hHeld => ?_)
          clear hK K
          ((try simp only [Act.put]); (try simp only [List.setIfInBounds_toArray]); (try simp only [List.set_cons_succ]); (try simp only [List.set_cons_zero]))
          (refine wpAnyH_take (i := 9) (oi := _) (v := ?_) rfl (by kernel_rfl) (by kernel_rfl) (by kernel_rfl) (fun _ _ _ h => h) (Or.inl ⟨by kernel_rfl, ?_⟩) (by assumption) ?_; rotate_left; (focus (intro w' hSw; (try dsimp only at hSw); first | (go_simp; done) | (go_simp; with_reducible rfl)))); (try simp only [List.getElem_toArray, List.getElem_cons_succ, List.getElem_cons_zero]); ((try simp only [Act.put]); (try simp only [List.setIfInBounds_toArray]); (try simp only [List.set_cons_succ]); (try simp only [List.set_cons_zero]))
          (refine wpAnyH_take (i := 10) (oi := _) (v := ?_) rfl (by kernel_rfl) (by kernel_rfl) (by kernel_rfl) (fun _ _ _ h => h) (Or.inl ⟨by kernel_rfl, ?_⟩) (by assumption) ?_; rotate_left; (focus (intro w' hSw; (try dsimp only at hSw); first | (go_simp; done) | (go_simp; with_reducible rfl)))); (try simp only [List.getElem_toArray, List.getElem_cons_succ, List.getElem_cons_zero]); ((try simp only [Act.put]); (try simp only [List.setIfInBounds_toArray]); (try simp only [List.set_cons_succ]); (try simp only [List.set_cons_zero]))
          refine wpAnyH_done (by kernel_rfl) ?_ _
          refine NoPanic.normal ?_
          go_wp2
          go_ret2
          rw [HVC.out.1, HVC.out.2]
          exact ⟨r, c, rfl, OO.out.row, HBz.out⟩
        · have HVC : Hid (vbV pS S u v = vecM S (dfM pS u v) ∧ vbC pS S u v = 0) := by
            have e : vbC pS S u v = 0 := by unfold vbC; rw [if_pos hz0, if_pos ⟨by rw [← hA, ← hB]; exact hab, by rw [← hA]; exact ha0⟩]
            exact ⟨by unfold vbV; rw [if_pos e, if_neg hd0], e⟩
          have h2_ := rvC_two hz0
          have HI := Lib.hid h2_.1
          have HVu := Lib.hid h2_.2.1
          have HVv := Lib.hid h2_.2.2
          obtain ⟨N, hN⟩ : ∃ a, a = pairN pS S (dfM pS u v) (dfM pS u v) := ⟨_, rfl⟩
          have HNE := Lib.hid hN
          have h6 := (isSp_iff.1 h2_.1).hi
          have hpb := prm_bd (isSp_iff.1 h2_.1).prime
          have hvl : v.length = S.length := (isVec_iff.1 h2_.2.2).len
          have hul : u.length = S.length := (isVec_iff.1 h2_.2.1).len
          have HDV : Hid (isVec pS S.length (dfM pS u v) = true) := plus_vec (by omega) _ hvl
          have HSV : Hid (isVec pS S.length (smM7 pS u v) = true) := plus_vec (by omega) _ hvl
          have HDL : Hid ((dfM pS u v).length = S.length) := by show _ = _; rw [dfM_len]; exact hvl
          have hlen : v.length ≤ u.length := by omega
          have hvs : v.length ≤ 1048576 := by omega
          have HNV : Hid (∀ j, j < v.length → 0 ≤ v.getD j 0 ∧ v.getD j 0 < pS) := fun j hj => (isVec_iff.1 h2_.2.2).num (by omega)
          have HNU : Hid (∀ j, j < u.length → 0 ≤ u.getD j 0 ∧ u.getD j 0 < pS) := fun j hj => (isVec_iff.1 h2_.2.1).num (by omega)
          have w1_ : wrap64 (pS - 1) = pS - 1 := by unfold wrap64; omega
          have w2_ : IntKind.i64.wrap (pS - 1) = pS - 1 := IntWalk.i64_in _ (by omega)
          have q0_ : 0 ≤ pS - 1 := by omega
          have q1_ : pS - 1 ≤ pS := by omega
          have q2_ : (1 : Int) ≤ pS := by omega
          have e3 : (N != 0) = true := by rw [hN]; simpa using hd0
          have e4 : (A != B) = false := by simp [hab]
          clear hz0 h2_ hA hB ha0 hab hd0 hN hvl hul
          go_enter Try.func7, Try.ntmps7
          go_upto_region 1 with fail
          obtain ⟨w1, hw1⟩ : ∃ z, z = w.alloc (.cells #[.int .i64 pS, .slice aS S.length cS] 26) := ⟨_, rfl⟩
          rw [← hw1] at HB0 k0 k1 ⊢
          have hd1 : w.heap.size < w1.heap.size := by rw [hw1]; simp
          have HB1 := HB0
          clear hw1
          have SS1 := Lib.hid (And.intro k0 k1)
          go_upto_region 2 with (go_at_call 26; ((with_reducible refine (vectors2 pS aS S cS loS tpS au u cu lou tpu av v cv lov tpv _ _ w1 _ rfl (HS.out.below HB1.out tS) (Nat.le_trans tS HB1.out.size) sS (Hu.out.below HB1.out tu) (Nat.le_trans tu HB1.out.size) su (Hv.out.below HB1.out tv) (Nat.le_trans tv HB1.out.size) sv).mono ?_); rintro e w2 ⟨rfl, b_⟩; rw [HZ.out]; have b2_ := below_step (below_alloc w1 (.cells #[.slice au u.length cu, .slice av v.length cv] 24)) (size_alloc w1 (.cells #[.slice au u.length cu, .slice av v.length cv] 24)) b_; have SS2 := Lib.hid (ss2 b2_ hd1 SS1.out); have HB2 := Lib.hid (below_step HB1.out HB1.out.size b2_); have hd2 := Nat.lt_of_lt_of_le hd1 b2_.size; clear k0 k1; obtain ⟨k0, k1⟩ := SS2.out; clear b_ b2_))
          have hs1 : Hid (w2.drew.cell? ⟨w.heap.size, 0, none⟩ = some (.int .i64 pS) ∧ w2.drew.cell? ⟨w.heap.size, 1, none⟩ = some (.slice aS S.length cS)) := SS2.out
          have HBD : Hid (Below w.heap.size w w2.drew) := HB2.out.drew
          have hd2d : w.heap.size < w2.drew.heap.size := hd2
      
          refine wp_region_noPanic ?_
          refine wp_region_held_drew (S := fun w' => w'.cell? ⟨w.heap.size, 0, none⟩ = some (.int .i64 pS) ∧ w'.cell? ⟨w.heap.size, 1, none⟩ = some (.slice aS S.length cS)) (by kernel_rfl) (hs1.out) (fun hHeld => ?_)
          (refine wpAnyH_take (i := 0) (oi := _) (v := ?_) rfl (by kernel_rfl) (by kernel_rfl) (by kernel_rfl) (fun _ _ _ h => h) (Or.inl ⟨by kernel_rfl, ?_⟩) (by assumption) ?_; rotate_left; (focus (intro w' hSw; (try dsimp only at hSw); first | (go_simp; done) | (go_simp; with_reducible rfl)))); ((try simp only [Act.put]); (try simp only [List.setIfInBounds_toArray]); (try simp only [List.set_cons_succ]); (try simp only [List.set_cons_zero]))
          (refine wpAnyH_take (i := 1) (oi := _) (v := ?_) rfl (by kernel_rfl) (by kernel_rfl) (by kernel_rfl) (fun _ _ _ h => h) (Or.inl ⟨by kernel_rfl, ?_⟩) (by assumption) ?_; rotate_left; (focus (intro w' hSw; (try dsimp only at hSw); first | (go_simp; done) | (go_simp; with_reducible rfl)))); (try simp only [List.getElem_toArray, List.getElem_cons_succ, List.getElem_cons_zero]); ((try simp only [Act.put]); (try simp only [List.setIfInBounds_toArray]); (try simp only [List.set_cons_succ]); (try simp only [List.set_cons_zero]))
          (refine wpAnyH_take (i := 2) (oi := _) (v := ?_) rfl (by kernel_rfl) (by kernel_rfl) (by kernel_rfl) (fun _ _ _ h => h) (Or.inl ⟨by kernel_rfl, ?_⟩) (by assumption) ?_; rotate_left; (focus (intro w' hSw; (try dsimp only at hSw); first | (go_simp; done) | (go_simp; with_reducible rfl)))); (try simp only [List.getElem_toArray, List.getElem_cons_succ, List.getElem_cons_zero]); ((try simp only [Act.put]); (try simp only [List.setIfInBounds_toArray]); (try simp only [List.set_cons_succ]); (try simp only [List.set_cons_zero]))
          (refine wpAnyH_take (i := 3) (oi := _) (v := ?_) rfl (by kernel_rfl) (by kernel_rfl) (by kernel_rfl) (fun _ _ _ h => h) (Or.inl ⟨by kernel_rfl, ?_⟩) (by assumption) ?_; rotate_left; (focus (intro w' hSw; (try dsimp only at hSw); first | (go_simp; done) | (go_simp; with_reducible rfl)))); (try simp only [List.getElem_toArray, List.getElem_cons_succ, List.getElem_cons_zero]); ((try simp only [Act.put]); (try simp only [List.setIfInBounds_toArray]); (try simp only [List.set_cons_succ]); (try simp only [List.set_cons_zero]))
          (refine wpAnyH_take (i := 4) (oi := _) (v := ?_) rfl (by kernel_rfl) (by kernel_rfl) (by kernel_rfl) (fun _ _ _ h => h) (Or.inl ⟨by kernel_rfl, ?_⟩) (by assumption) ?_; rotate_left; (focus (intro w' hSw; (try dsimp only at hSw); first | (go_simp; done) | (go_simp; with_reducible rfl)))); (try simp only [List.getElem_toArray, List.getElem_cons_succ, List.getElem_cons_zero]); ((try simp only [Act.put]); (try simp only [List.setIfInBounds_toArray]); (try simp only [List.set_cons_succ]); (try simp only [List.set_cons_zero]))
          (refine wpAnyH_take (i := 5) (oi := _) (v := ?_) rfl (by kernel_rfl) (by kernel_rfl) (by kernel_rfl) (fun _ _ _ h => h) (Or.inl ⟨by kernel_rfl, ?_⟩) (by assumption) ?_; rotate_left; (focus (intro w' hSw; (try dsimp only at hSw); first | (go_simp; done) | (go_simp; with_reducible rfl)))); (try simp only [List.getElem_toArray, List.getElem_cons_succ, List.getElem_cons_zero]); ((try simp only [Act.put]); (try simp only [List.setIfInBounds_toArray]); (try simp only [List.set_cons_succ]); (try simp only [List.set_cons_zero]))
          refine wpAnyH_ready (rs := [6]) (by kernel_rfl) (by simp) ?_
          refine AllReadyH.cons (o := _) rfl (fun K hK => ?_) AllReadyH.nil
          go_simp; go_at_call 27; (with_reducible refine (l03Pair_any pS aS S cS loS tpS au u cu lou tpu au u cu lou tpu w2.drew (HS.out.below HBD.out tS) (Nat.le_trans tS (HBD.out).size) (Hu.out.below HBD.out tu) (Nat.le_trans tu (HBD.out).size) (Hu.out.below HBD.out tu) (Nat.le_trans tu (HBD.out).size) HI.out HVu.out HVu.out).mono ?_); rintro e wa ⟨rfl, b_⟩; rw [← HAE.out]; have SSa := Lib.hid (ss2 b_ hd2d hs1.out); have HBa := Lib.hid (below_step HBD.out (Nat.le_of_lt hd2d) b_); have zz_ := b_.size; have hda := Nat.lt_of_lt_of_le hd2d zz_; clear b_; (try go_wp2_with fail)
          refine hK.out _ _ (SSa.out) (fun hHeld => ?_)
          clear hK K
          ((try simp only [Act.put]); (try simp only [List.setIfInBounds_toArray]); (try simp only [List.set_cons_succ]); (try simp only [List.set_cons_zero]))
          (refine wpAnyH_take (i := 7) (oi := _) (v := ?_) rfl (by kernel_rfl) (by kernel_rfl) (by kernel_rfl) (fun _ _ _ h => h) (Or.inl ⟨by kernel_rfl, ?_⟩) (by assumption) ?_; rotate_left; (focus (intro w' hSw; (try dsimp only at hSw); first | (go_simp; done) | (go_simp; with_reducible rfl)))); (try simp only [List.getElem_toArray, List.getElem_cons_succ, List.getElem_cons_zero]); ((try simp only [Act.put]); (try simp only [List.setIfInBounds_toArray]); (try simp only [List.set_cons_succ]); (try simp only [List.set_cons_zero]))
          (refine wpAnyH_take (i := 8) (oi := _) (v := ?_) rfl (by kernel_rfl) (by kernel_rfl) (by kernel_rfl) (fun _ _ _ h => h) (Or.inl ⟨by kernel_rfl, ?_⟩) (by assumption) ?_; rotate_left; (focus (intro w' hSw; (try dsimp only at hSw); first | (go_simp; done) | (go_simp; with_reducible rfl)))); (try simp only [List.getElem_toArray, List.getElem_cons_succ, List.getElem_cons_zero]); ((try simp only [Act.put]); (try simp only [List.setIfInBounds_toArray]); (try simp only [List.set_cons_succ]); (try simp only [List.set_cons_zero]))
          (refine wpAnyH_take (i := 9) (oi := _) (v := ?_) rfl (by kernel_rfl) (by kernel_rfl) (by kernel_rfl) (fun _ _ _ h => h) (Or.inl ⟨by kernel_rfl, ?_⟩) (by assumption) ?_; rotate_left; (focus (intro w' hSw; (try dsimp only at hSw); first | (go_simp; done) | (go_simp; with_reducible rfl)))); (try simp only [List.getElem_toArray, List.getElem_cons_succ, List.getElem_cons_zero]); ((try simp only [Act.put]); (try simp only [List.setIfInBounds_toArray]); (try simp only [List.set_cons_succ]); (try simp only [List.set_cons_zero]))
          (refine wpAnyH_take (i := 10) (oi := _) (v := ?_) rfl (by kernel_rfl) (by kernel_rfl) (by kernel_rfl) (fun _ _ _ h => h) (Or.inl ⟨by kernel_rfl, ?_⟩) (by assumption) ?_; rotate_left; (focus (intro w' hSw; (try dsimp only at hSw); first | (go_simp; done) | (go_simp; with_reducible rfl)))); (try simp only [List.getElem_toArray, List.getElem_cons_succ, List.getElem_cons_zero]); ((try simp only [Act.put]); (try simp only [List.setIfInBounds_toArray]); (try simp only [List.set_cons_succ]); (try simp only [List.set_cons_zero]))
          (refine wpAnyH_take (i := 11) (oi := _) (v := ?_) rfl (by kernel_rfl) (by kernel_rfl) (by kernel_rfl) (fun _ _ _ h => h) (Or.inl ⟨by kernel_rfl, ?_⟩) (by assumption) ?_; rotate_left; (focus (intro w' hSw; (try dsimp only at hSw); first | (go_simp; done) | (go_simp; with_reducible rfl)))); (try simp only [List.getElem_toArray, List.getElem_cons_succ, List.getElem_cons_zero]); ((try simp only [Act.put]); (try simp only [List.setIfInBounds_toArray]); (try simp only [List.set_cons_succ]); (try simp only [List.set_cons_zero]))
          (refine wpAnyH_take (i := 13) (oi := _) (v := ?_) rfl (by kernel_rfl) (by kernel_rfl) (by kernel_rfl) (fun _ _ _ h => h) (Or.inl ⟨by kernel_rfl, ?_⟩) (by assumption) ?_; rotate_left; (focus (intro w' hSw; (try dsimp only at hSw); first | (go_simp; done) | (go_simp; with_reducible rfl)))); (try simp only [List.getElem_toArray, List.getElem_cons_succ, List.getElem_cons_zero]); ((try simp only [Act.put]); (try simp only [List.setIfInBounds_toArray]); (try simp only [List.set_cons_succ]); (try simp only [List.set_cons_zero]))
          (refine wpAnyH_take (i := 14) (oi := _) (v := ?_) rfl (by kernel_rfl) (by kernel_rfl) (by kernel_rfl) (fun _ _ _ h => h) (Or.inl ⟨by kernel_rfl, ?_⟩) (by assumption) ?_; rotate_left; (focus (intro w' hSw; (try dsimp only at hSw); first | (go_simp; done) | (go_simp; with_reducible rfl)))); (try simp only [List.getElem_toArray, List.getElem_cons_succ, List.getElem_cons_zero]); ((try simp only [Act.put]); (try simp only [List.setIfInBounds_toArray]); (try simp only [List.set_cons_succ]); (try simp only [List.set_cons_zero]))
          (refine wpAnyH_take (i := 15) (oi := _) (v := ?_) rfl (by kernel_rfl) (by kernel_rfl) (by kernel_rfl) (fun _ _ _ h => h) (Or.inl ⟨by kernel_rfl, ?_⟩) (by assumption) ?_; rotate_left; (focus (intro w' hSw; (try dsimp only at hSw); first | (go_simp; done) | (go_simp; with_reducible rfl)))); (try simp only [List.getElem_toArray, List.getElem_cons_succ, List.getElem_cons_zero]); ((try simp only [Act.put]); (try simp only [List.setIfInBounds_toArray]); (try simp only [List.set_cons_succ]); (try simp only [List.set_cons_zero]))
          refine wpAnyH_ready (rs := [12]) (by kernel_rfl) (by simp) ?_
          refine AllReadyH.cons (o := _) rfl (fun K hK => ?_) AllReadyH.nil
          go_simp; go_at_call 27; (with_reducible refine (l03Pair_any pS aS S cS loS tpS au u cu lou tpu au u cu lou tpu wa (HS.out.below HBa.out tS) (Nat.le_trans tS (HBa.out).size) (Hu.out.below HBa.out tu) (Nat.le_trans tu (HBa.out).size) (Hu.out.below HBa.out tu) (Nat.le_trans tu (HBa.out).size) HI.out HVu.out HVu.out).mono ?_); rintro e wab ⟨rfl, b_⟩; rw [← HAE.out]; have SSab := Lib.hid (ss2 b_ hda SSa.out); have HBab := Lib.hid (below_step HBa.out (Nat.le_of_lt hda) b_); have zz_ := b_.size; have hdab := Nat.lt_of_lt_of_le hda zz_; clear b_; (try go_wp2_with fail)
          refine hK.out _ _ (SSab.out) (fun hHeld => ?_)
          clear hK K
          ((try simp only [Act.put]); (try simp only [List.setIfInBounds_toArray]); (try simp only [List.set_cons_succ]); (try simp only [List.set_cons_zero]))
          refine wpAnyH_ready (rs := [16]) (by kernel_rfl) (by simp) ?_
          refine AllReadyH.cons (o := _) rfl (fun K hK => ?_) AllReadyH.nil
          go_simp; go_at_call 27; (with_reducible refine (l03Pair_any pS aS S cS loS tpS av v cv lov tpv av v cv lov tpv wab (HS.out.below HBab.out tS) (Nat.le_trans tS (HBab.out).size) (Hv.out.below HBab.out tv) (Nat.le_trans tv (HBab.out).size) (Hv.out.below HBab.out tv) (Nat.le_trans tv (HBab.out).size) HI.out HVv.out HVv.out).mono ?_); rintro e wabc ⟨rfl, b_⟩; rw [← HBE_.out]; have SSabc := Lib.hid (ss2 b_ hdab SSab.out); have HBabc := Lib.hid (below_step HBab.out (Nat.le_of_lt hdab) b_); have zz_ := b_.size; have hdabc := Nat.lt_of_lt_of_le hdab zz_; clear b_; (try go_wp2_with fail)
          refine hK.out _ _ (SSabc.out) (fun hHeld => ?_)
          clear hK K
          ((try simp only [Act.put]); (try simp only [List.setIfInBounds_toArray]); (try simp only [List.set_cons_succ]); (try simp only [List.set_cons_zero]))
          (refine wpAnyH_take (i := 17) (oi := _) (v := ?_) rfl (by kernel_rfl) (by kernel_rfl) (by kernel_rfl) (fun _ _ _ h => h) (Or.inl ⟨by kernel_rfl, ?_⟩) (by assumption) ?_; rotate_left; (focus (intro w' hSw; (try dsimp only at hSw); first | (go_simp; done) | (go_simp; with_reducible rfl)))); (try simp only [List.getElem_toArray, List.getElem_cons_succ, List.getElem_cons_zero]); ((try simp only [Act.put]); (try simp only [List.setIfInBounds_toArray]); (try simp only [List.set_cons_succ]); (try simp only [List.set_cons_zero]))
          (refine wpAnyH_take (i := 18) (oi := _) (v := ?_) rfl (by kernel_rfl) (by kernel_rfl) (by kernel_rfl) (fun _ _ _ h => h) (Or.inl ⟨by kernel_rfl, ?_⟩) (by assumption) ?_; rotate_left; (focus (intro w' hSw; (try dsimp only at hSw); first | (go_simp; done) | (go_simp; with_reducible rfl)))); (try simp only [List.getElem_toArray, List.getElem_cons_succ, List.getElem_cons_zero]); ((try simp only [Act.put]); (try simp only [List.setIfInBounds_toArray]); (try simp only [List.set_cons_succ]); (try simp only [List.set_cons_zero]))
          (refine wpAnyH_take (i := 19) (oi := _) (v := ?_) rfl (by kernel_rfl) (by kernel_rfl) (by kernel_rfl) (fun _ _ _ h => h) (Or.inl ⟨by kernel_rfl, ?_⟩) (by assumption) ?_; rotate_left; (focus (intro w' hSw; (try dsimp only at hSw); first | (go_simp; done) | (go_simp; with_reducible rfl)))); (try simp only [List.getElem_toArray, List.getElem_cons_succ, List.getElem_cons_zero]); ((try simp only [Act.put]); (try simp only [List.setIfInBounds_toArray]); (try simp only [List.set_cons_succ]); (try simp only [List.set_cons_zero]))
          refine wpAnyH_done (by kernel_rfl) ?_ _
          refine NoPanic.normal ?_
          have SS3 := SSabc
          have HB3 := HBabc
          have hd3 := hdabc
          clear k0 k1
          obtain ⟨k0, k1⟩ := SS3.out
          go_wp2_with (first | (go_at_call 28; ((with_reducible refine (plus_sr pS (pS - 1) av au v u cv cu lov tpv lou tpu wabc (isSp_iff.1 HI.out).prime (Hv.out.below HB3.out tv) (Hu.out.below HB3.out tu) (Nat.le_trans tv HB3.out.size) (Nat.le_trans tu HB3.out.size) hlen hvs HNV.out HNU.out q0_ q1_).mono ?_); rintro e w4 ⟨rd, kd, rfl, o_, b_⟩; have SS4 := Lib.hid (ss2 b_ hd3 SS3.out); have HB4 := Lib.hid (below_step HB3.out HB3.out.size b_); have hd4 := Nat.lt_of_lt_of_le hd3 b_.size; have RD : Hid (RowIn w.heap.size w4.heap.size w4 rd (dfM pS u v)) := Lib.hid (o_.mono (Nat.le_of_lt hd3) (Nat.le_refl _)); clear o_; clear k0 k1; obtain ⟨k0, k1⟩ := SS4.out; clear b_)) | (go_at_call 27; ((with_reducible refine (l03Pair_below pS aS S cS loS tpS rd (dfM pS u v) v.length kd w.heap.size w4.heap.size rd (dfM pS u v) v.length kd w.heap.size w4.heap.size w4 (dfM_len _ _ _) (dfM_len _ _ _) (HS.out.below HB4.out tS) (Nat.le_trans tS HB4.out.size) RD.out (Nat.le_refl _) RD.out (Nat.le_refl _) HI.out HDV.out HDV.out).mono ?_); rintro e w5 ⟨rfl, b_⟩; rw [← HNE.out]; have SS5 := Lib.hid (ss2 b_ hd4 SS4.out); have HB5 := Lib.hid (below_step HB4.out HB4.out.size b_); have hd5 := Nat.lt_of_lt_of_le hd4 b_.size; have RD2 : Hid (RowIn w.heap.size w5.heap.size w5 rd (dfM pS u v)) := Lib.hid ((RD.out.below b_ (Nat.le_refl _)).mono (Nat.le_refl _) b_.size); clear k0 k1; obtain ⟨k0, k1⟩ := SS5.out; clear b_)) | (go_at_call 29; ((with_reducible refine (l04Vector_n pS aS S cS rd (dfM pS u v) v.length kd w.heap.size w5.heap.size w5 (dfM_len _ _ _) h6 HDL.out RD2.out (Nat.le_refl _)).mono ?_); rintro e w6 ⟨b7, rfl, l_, u_, o_, b_⟩; have SS6 := Lib.hid (ss2 b_ hd5 SS5.out); have HB6 := Lib.hid (below_step HB5.out HB5.out.size b_); have hd6 := Nat.lt_of_lt_of_le hd5 b_.size; have RO := Lib.hid o_; have lw7 := Nat.le_trans (Nat.le_of_lt hd5) l_; clear o_ l_; clear k0 k1; obtain ⟨k0, k1⟩ := SS6.out; clear b_)))
          go_ret2
          rw [HVC.out.1, HVC.out.2]
          exact ⟨some ⟨b7, 0, none⟩, bl S, by unfold vecM; rw [mkR_len]; rfl, (RO.out.own lw7 u_).row, HB6.out⟩
      · have HVC : Hid (vbV pS S u v = [] ∧ vbC pS S u v = 5) := by
          have e : vbC pS S u v = 5 := by unfold vbC; rw [if_pos hz0, if_neg (fun h => hab (by rw [hA, hB]; exact h.1))]
          exact ⟨by unfold vbV; rw [if_neg (by rw [e]; decide)], e⟩
        have h2_ := rvC_two hz0
        have HI := Lib.hid h2_.1
        have HVu := Lib.hid h2_.2.1
        have HVv := Lib.hid h2_.2.2
        have e3 : (A != B) = true := by simpa using hab
        clear hz0 h2_ hA hB ha0 hab
        go_enter Try.func7, Try.ntmps7
        go_upto_region 1 with fail
        obtain ⟨w1, hw1⟩ : ∃ z, z = w.alloc (.cells #[.int .i64 pS, .slice aS S.length cS] 26) := ⟨_, rfl⟩
        rw [← hw1] at HB0 k0 k1 ⊢
        have hd1 : w.heap.size < w1.heap.size := by rw [hw1]; simp
        have HB1 := HB0
        clear hw1
        have SS1 := Lib.hid (And.intro k0 k1)
        go_upto_region 2 with (go_at_call 26; ((with_reducible refine (vectors2 pS aS S cS loS tpS au u cu lou tpu av v cv lov tpv _ _ w1 _ rfl (HS.out.below HB1.out tS) (Nat.le_trans tS HB1.out.size) sS (Hu.out.below HB1.out tu) (Nat.le_trans tu HB1.out.size) su (Hv.out.below HB1.out tv) (Nat.le_trans tv HB1.out.size) sv).mono ?_); rintro e w2 ⟨rfl, b_⟩; rw [HZ.out]; have b2_ := below_step (below_alloc w1 (.cells #[.slice au u.length cu, .slice av v.length cv] 24)) (size_alloc w1 (.cells #[.slice au u.length cu, .slice av v.length cv] 24)) b_; have SS2 := Lib.hid (ss2 b2_ hd1 SS1.out); have HB2 := Lib.hid (below_step HB1.out HB1.out.size b2_); have hd2 := Nat.lt_of_lt_of_le hd1 b2_.size; clear k0 k1; obtain ⟨k0, k1⟩ := SS2.out; clear b_ b2_))
        have hs1 : Hid (w2.drew.cell? ⟨w.heap.size, 0, none⟩ = some (.int .i64 pS) ∧ w2.drew.cell? ⟨w.heap.size, 1, none⟩ = some (.slice aS S.length cS)) := SS2.out
        have HBD : Hid (Below w.heap.size w w2.drew) := HB2.out.drew
        have hd2d : w.heap.size < w2.drew.heap.size := hd2
    
        refine wp_region_noPanic ?_
        refine wp_region_held_drew (S := fun w' => w'.cell? ⟨w.heap.size, 0, none⟩ = some (.int .i64 pS) ∧ w'.cell? ⟨w.heap.size, 1, none⟩ = some (.slice aS S.length cS)) (by kernel_rfl) (hs1.out) (fun hHeld => ?_)
        (refine wpAnyH_take (i := 0) (oi := _) (v := ?_) rfl (by kernel_rfl) (by kernel_rfl) (by kernel_rfl) (fun _ _ _ h => h) (Or.inl ⟨by kernel_rfl, ?_⟩) (by assumption) ?_; rotate_left; (focus (intro w' hSw; (try dsimp only at hSw); first | (go_simp; done) | (go_simp; with_reducible rfl)))); ((try simp only [Act.put]); (try simp only [List.setIfInBounds_toArray]); (try simp only [List.set_cons_succ]); (try simp only [List.set_cons_zero]))
        (refine wpAnyH_take (i := 1) (oi := _) (v := ?_) rfl (by kernel_rfl) (by kernel_rfl) (by kernel_rfl) (fun _ _ _ h => h) (Or.inl ⟨by kernel_rfl, ?_⟩) (by assumption) ?_; rotate_left; (focus (intro w' hSw; (try dsimp only at hSw); first | (go_simp; done) | (go_simp; with_reducible rfl)))); (try simp only [List.getElem_toArray, List.getElem_cons_succ, List.getElem_cons_zero]); ((try simp only [Act.put]); (try simp only [List.setIfInBounds_toArray]); (try simp only [List.set_cons_succ]); (try simp only [List.set_cons_zero]))
        (refine wpAnyH_take (i := 2) (oi := _) (v := ?_) rfl (by kernel_rfl) (by kernel_rfl) (by kernel_rfl) (fun _ _ _ h => h) (Or.inl ⟨by kernel_rfl, ?_⟩) (by assumption) ?_; rotate_left; (focus (intro w' hSw; (try dsimp only at hSw); first | (go_simp; done) | (go_simp; with_reducible rfl)))); (try simp only [List.getElem_toArray, List.getElem_cons_succ, List.getElem_cons_zero]); ((try simp only [Act.put]); (try simp only [List.setIfInBounds_toArray]); (try simp only [List.set_cons_succ]); (try simp only [List.set_cons_zero]))
        (refine wpAnyH_take (i := 3) (oi := _) (v := ?_) rfl (by kernel_rfl) (by kernel_rfl) (by kernel_rfl) (fun _ _ _ h => h) (Or.inl ⟨by kernel_rfl, ?_⟩) (by assumption) ?_; rotate_left; (focus (intro w' hSw; (try dsimp only at hSw); first | (go_simp; done) | (go_simp; with_reducible rfl)))); (try simp only [List.getElem_toArray, List.getElem_cons_succ, List.getElem_cons_zero]); ((try simp only [Act.put]); (try simp only [List.setIfInBounds_toArray]); (try simp only [List.set_cons_succ]); (try simp only [List.set_cons_zero]))
        (refine wpAnyH_take (i := 4) (oi := _) (v := ?_) rfl (by kernel_rfl) (by kernel_rfl) (by kernel_rfl) (fun _ _ _ h => h) (Or.inl ⟨by kernel_rfl, ?_⟩) (by assumption) ?_; rotate_left; (focus (intro w' hSw; (try dsimp only at hSw); first | (go_simp; done) | (go_simp; with_reducible rfl)))); (try simp only [List.getElem_toArray, List.getElem_cons_succ, List.getElem_cons_zero]); ((try simp only [Act.put]); (try simp only [List.setIfInBounds_toArray]); (try simp only [List.set_cons_succ]); (try simp only [List.set_cons_zero]))
        (refine wpAnyH_take (i := 5) (oi := _) (v := ?_) rfl (by kernel_rfl) (by kernel_rfl) (by kernel_rfl) (fun _ _ _ h => h) (Or.inl ⟨by kernel_rfl, ?_⟩) (by assumption) ?_; rotate_left; (focus (intro w' hSw; (try dsimp only at hSw); first | (go_simp; done) | (go_simp; with_reducible rfl)))); (try simp only [List.getElem_toArray, List.getElem_cons_succ, List.getElem_cons_zero]); ((try simp only [Act.put]); (try simp only [List.setIfInBounds_toArray]); (try simp only [List.set_cons_succ]); (try simp only [List.set_cons_zero]))
        refine wpAnyH_ready (rs := [6]) (by kernel_rfl) (by simp) ?_
        refine AllReadyH.cons (o := _) rfl (fun K hK => ?_) AllReadyH.nil
        go_simp; go_at_call 27; (with_reducible refine (l03Pair_any pS aS S cS loS tpS au u cu lou tpu au u cu lou tpu w2.drew (HS.out.below HBD.out tS) (Nat.le_trans tS (HBD.out).size) (Hu.out.below HBD.out tu) (Nat.le_trans tu (HBD.out).size) (Hu.out.below HBD.out tu) (Nat.le_trans tu (HBD.out).size) HI.out HVu.out HVu.out).mono ?_); rintro e wa ⟨rfl, b_⟩; rw [← HAE.out]; have SSa := Lib.hid (ss2 b_ hd2d hs1.out); have HBa := Lib.hid (below_step HBD.out (Nat.le_of_lt hd2d) b_); have zz_ := b_.size; have hda := Nat.lt_of_lt_of_le hd2d zz_; clear b_; (try go_wp2_with fail)
        refine hK.out _ _ (SSa.out) (fun hHeld => ?_)
        clear hK K
        ((try simp only [Act.put]); (try simp only [List.setIfInBounds_toArray]); (try simp only [List.set_cons_succ]); (try simp only [List.set_cons_zero]))
        (refine wpAnyH_take (i := 7) (oi := _) (v := ?_) rfl (by kernel_rfl) (by kernel_rfl) (by kernel_rfl) (fun _ _ _ h => h) (Or.inl ⟨by kernel_rfl, ?_⟩) (by assumption) ?_; rotate_left; (focus (intro w' hSw; (try dsimp only at hSw); first | (go_simp; done) | (go_simp; with_reducible rfl)))); (try simp only [List.getElem_toArray, List.getElem_cons_succ, List.getElem_cons_zero]); ((try simp only [Act.put]); (try simp only [List.setIfInBounds_toArray]); (try simp only [List.set_cons_succ]); (try simp only [List.set_cons_zero]))
        (refine wpAnyH_take (i := 8) (oi := _) (v := ?_) rfl (by kernel_rfl) (by kernel_rfl) (by kernel_rfl) (fun _ _ _ h => h) (Or.inl ⟨by kernel_rfl, ?_⟩) (by assumption) ?_; rotate_left; (focus (intro w' hSw; (try dsimp only at hSw); first | (go_simp; done) | (go_simp; with_reducible rfl)))); (try simp only [List.getElem_toArray, List.getElem_cons_succ, List.getElem_cons_zero]); ((try simp only [Act.put]); (try simp only [List.setIfInBounds_toArray]); (try simp only [List.set_cons_succ]); (try simp only [List.set_cons_zero]))
        (refine wpAnyH_take (i := 9) (oi := _) (v := ?_) rfl (by kernel_rfl) (by kernel_rfl) (by kernel_rfl) (fun _ _ _ h => h) (Or.inl ⟨by kernel_rfl, ?_⟩) (by assumption) ?_; rotate_left; (focus (intro w' hSw; (try dsimp only at hSw); first | (go_simp; done) | (go_simp; with_reducible rfl)))); (try simp only [List.getElem_toArray, List.getElem_cons_succ, List.getElem_cons_zero]); ((try simp only [Act.put]); (try simp only [List.setIfInBounds_toArray]); (try simp only [List.set_cons_succ]); (try simp only [List.set_cons_zero]))
        (refine wpAnyH_take (i := 10) (oi := _) (v := ?_) rfl (by kernel_rfl) (by kernel_rfl) (by kernel_rfl) (fun _ _ _ h => h) (Or.inl ⟨by kernel_rfl, ?_⟩) (by assumption) ?_; rotate_left; (focus (intro w' hSw; (try dsimp only at hSw); first | (go_simp; done) | (go_simp; with_reducible rfl)))); (try simp only [List.getElem_toArray, List.getElem_cons_succ, List.getElem_cons_zero]); ((try simp only [Act.put]); (try simp only [List.setIfInBounds_toArray]); (try simp only [List.set_cons_succ]); (try simp only [List.set_cons_zero]))
        (refine wpAnyH_take (i := 11) (oi := _) (v := ?_) rfl (by kernel_rfl) (by kernel_rfl) (by kernel_rfl) (fun _ _ _ h => h) (Or.inl ⟨by kernel_rfl, ?_⟩) (by assumption) ?_; rotate_left; (focus (intro w' hSw; (try dsimp only at hSw); first | (go_simp; done) | (go_simp; with_reducible rfl)))); (try simp only [List.getElem_toArray, List.getElem_cons_succ, List.getElem_cons_zero]); ((try simp only [Act.put]); (try simp only [List.setIfInBounds_toArray]); (try simp only [List.set_cons_succ]); (try simp only [List.set_cons_zero]))
        (refine wpAnyH_take (i := 13) (oi := _) (v := ?_) rfl (by kernel_rfl) (by kernel_rfl) (by kernel_rfl) (fun _ _ _ h => h) (Or.inl ⟨by kernel_rfl, ?_⟩) (by assumption) ?_; rotate_left; (focus (intro w' hSw; (try dsimp only at hSw); first | (go_simp; done) | (go_simp; with_reducible rfl)))); (try simp only [List.getElem_toArray, List.getElem_cons_succ, List.getElem_cons_zero]); ((try simp only [Act.put]); (try simp only [List.setIfInBounds_toArray]); (try simp only [List.set_cons_succ]); (try simp only [List.set_cons_zero]))
        (refine wpAnyH_take (i := 14) (oi := _) (v := ?_) rfl (by kernel_rfl) (by kernel_rfl) (by kernel_rfl) (fun _ _ _ h => h) (Or.inl ⟨by kernel_rfl, ?_⟩) (by assumption) ?_; rotate_left; (focus (intro w' hSw; (try dsimp only at hSw); first | (go_simp; done) | (go_simp; with_reducible rfl)))); (try simp only [List.getElem_toArray, List.getElem_cons_succ, List.getElem_cons_zero]); ((try simp only [Act.put]); (try simp only [List.setIfInBounds_toArray]); (try simp only [List.set_cons_succ]); (try simp only [List.set_cons_zero]))
        (refine wpAnyH_take (i := 15) (oi := _) (v := ?_) rfl (by kernel_rfl) (by kernel_rfl) (by kernel_rfl) (fun _ _ _ h => h) (Or.inl ⟨by kernel_rfl, ?_⟩) (by assumption) ?_; rotate_left; (focus (intro w' hSw; (try dsimp only at hSw); first | (go_simp; done) | (go_simp; with_reducible rfl)))); (try simp only [List.getElem_toArray, List.getElem_cons_succ, List.getElem_cons_zero]); ((try simp only [Act.put]); (try simp only [List.setIfInBounds_toArray]); (try simp only [List.set_cons_succ]); (try simp only [List.set_cons_zero]))
        refine wpAnyH_ready (rs := [12]) (by kernel_rfl) (by simp) ?_
        refine AllReadyH.cons (o := _) rfl (fun K hK => ?_) AllReadyH.nil
        go_simp; go_at_call 27; (with_reducible refine (l03Pair_any pS aS S cS loS tpS au u cu lou tpu au u cu lou tpu wa (HS.out.below HBa.out tS) (Nat.le_trans tS (HBa.out).size) (Hu.out.below HBa.out tu) (Nat.le_trans tu (HBa.out).size) (Hu.out.below HBa.out tu) (Nat.le_trans tu (HBa.out).size) HI.out HVu.out HVu.out).mono ?_); rintro e wab ⟨rfl, b_⟩; rw [← HAE.out]; have SSab := Lib.hid (ss2 b_ hda SSa.out); have HBab := Lib.hid (below_step HBa.out (Nat.le_of_lt hda) b_); have zz_ := b_.size; have hdab := Nat.lt_of_lt_of_le hda zz_; clear b_; (try go_wp2_with fail)
        refine hK.out _ _ (SSab.out) (fun hHeld => ?_)
        clear hK K
        ((try simp only [Act.put]); (try simp only [List.setIfInBounds_toArray]); (try simp only [List.set_cons_succ]); (try simp only [List.set_cons_zero]))
        refine wpAnyH_ready (rs := [16]) (by kernel_rfl) (by simp) ?_
        refine AllReadyH.cons (o := _) rfl (fun K hK => ?_) AllReadyH.nil
        go_simp; go_at_call 27; (with_reducible refine (l03Pair_any pS aS S cS loS tpS av v cv lov tpv av v cv lov tpv wab (HS.out.below HBab.out tS) (Nat.le_trans tS (HBab.out).size) (Hv.out.below HBab.out tv) (Nat.le_trans tv (HBab.out).size) (Hv.out.below HBab.out tv) (Nat.le_trans tv (HBab.out).size) HI.out HVv.out HVv.out).mono ?_); rintro e wabc ⟨rfl, b_⟩; rw [← HBE_.out]; have SSabc := Lib.hid (ss2 b_ hdab SSab.out); have HBabc := Lib.hid (below_step HBab.out (Nat.le_of_lt hdab) b_); have zz_ := b_.size; have hdabc := Nat.lt_of_lt_of_le hdab zz_; clear b_; (try go_wp2_with fail)
        refine hK.out _ _ (SSabc.out) (fun hHeld => ?_)
        clear hK K
        ((try simp only [Act.put]); (try simp only [List.setIfInBounds_toArray]); (try simp only [List.set_cons_succ]); (try simp only [List.set_cons_zero]))
        (refine wpAnyH_take (i := 17) (oi := _) (v := ?_) rfl (by kernel_rfl) (by kernel_rfl) (by kernel_rfl) (fun _ _ _ h => h) (Or.inl ⟨by kernel_rfl, ?_⟩) (by assumption) ?_; rotate_left; (focus (intro w' hSw; (try dsimp only at hSw); first | (go_simp; done) | (go_simp; with_reducible rfl)))); (try simp only [List.getElem_toArray, List.getElem_cons_succ, List.getElem_cons_zero]); ((try simp only [Act.put]); (try simp only [List.setIfInBounds_toArray]); (try simp only [List.set_cons_succ]); (try simp only [List.set_cons_zero]))
        (refine wpAnyH_take (i := 18) (oi := _) (v := ?_) rfl (by kernel_rfl) (by kernel_rfl) (by kernel_rfl) (fun _ _ _ h => h) (Or.inl ⟨by kernel_rfl, ?_⟩) (by assumption) ?_; rotate_left; (focus (intro w' hSw; (try dsimp only at hSw); first | (go_simp; done) | (go_simp; with_reducible rfl)))); (try simp only [List.getElem_toArray, List.getElem_cons_succ, List.getElem_cons_zero]); ((try simp only [Act.put]); (try simp only [List.setIfInBounds_toArray]); (try simp only [List.set_cons_succ]); (try simp only [List.set_cons_zero]))
        (refine wpAnyH_take (i := 19) (oi := _) (v := ?_) rfl (by kernel_rfl) (by kernel_rfl) (by kernel_rfl) (fun _ _ _ h => h) (Or.inl ⟨by kernel_rfl, ?_⟩) (by assumption) ?_; rotate_left; (focus (intro w' hSw; (try dsimp only at hSw); first | (go_simp; done) | (go_simp; with_reducible rfl)))); (try simp only [List.getElem_toArray, List.getElem_cons_succ, List.getElem_cons_zero]); ((try simp only [Act.put]); (try simp only [List.setIfInBounds_toArray]); (try simp only [List.set_cons_succ]); (try simp only [List.set_cons_zero]))
        refine wpAnyH_done (by kernel_rfl) ?_ _
        refine NoPanic.normal ?_
        go_wp2
        go_ret2
        rw [HVC.out.1, HVC.out.2]
        exact ⟨none, 0, rfl, .inl rfl, HBabc.out⟩
  · have HVC : Hid (vbV pS S u v = [] ∧ vbC pS S u v = rvC pS S [u, v]) := by
      have e : vbC pS S u v = rvC pS S [u, v] := by unfold vbC; rw [if_neg hz0]
      exact ⟨by unfold vbV; rw [if_neg (by rw [e]; exact hz0)], e⟩
    obtain ⟨C, hC⟩ : ∃ c, c = rvC pS S [u, v] := ⟨_, rfl⟩
    have hc1 : (C != 0) = true := by rw [hC]; simpa using hz0
    have hc2 : (C == 0) = false := by rw [hC]; simpa using hz0
    have HCE := Lib.hid hC
    clear hz0 hC
    go_enter Try.func7, Try.ntmps7
    go_upto_region 1 with fail
    obtain ⟨w1, hw1⟩ : ∃ z, z = w.alloc (.cells #[.int .i64 pS, .slice aS S.length cS] 26) := ⟨_, rfl⟩
    rw [← hw1] at HB0 k0 k1 ⊢
    have hd1 : w.heap.size < w1.heap.size := by rw [hw1]; simp
    have HB1 := HB0
    clear hw1
    have SS1 := Lib.hid (And.intro k0 k1)
    go_upto_region 2 with (go_at_call 26; ((with_reducible refine (vectors2 pS aS S cS loS tpS au u cu lou tpu av v cv lov tpv _ _ w1 _ rfl (HS.out.below HB1.out tS) (Nat.le_trans tS HB1.out.size) sS (Hu.out.below HB1.out tu) (Nat.le_trans tu HB1.out.size) su (Hv.out.below HB1.out tv) (Nat.le_trans tv HB1.out.size) sv).mono ?_); rintro e w2 ⟨rfl, b_⟩; rw [← HCE.out]; have b2_ := below_step (below_alloc w1 (.cells #[.slice au u.length cu, .slice av v.length cv] 24)) (size_alloc w1 (.cells #[.slice au u.length cu, .slice av v.length cv] 24)) b_; have SS2 := Lib.hid (ss2 b2_ hd1 SS1.out); have HB2 := Lib.hid (below_step HB1.out HB1.out.size b2_); have hd2 := Nat.lt_of_lt_of_le hd1 b2_.size; clear k0 k1; obtain ⟨k0, k1⟩ := SS2.out; clear b_ b2_))
    have hs1 : Hid (w2.drew.cell? ⟨w.heap.size, 0, none⟩ = some (.int .i64 pS) ∧ w2.drew.cell? ⟨w.heap.size, 1, none⟩ = some (.slice aS S.length cS)) := SS2.out
    have HBD : Hid (Below w.heap.size w w2.drew) := HB2.out.drew
    have hd2d : w.heap.size < w2.drew.heap.size := hd2

    refine wp_region_noPanic ?_
    refine wp_region_held_drew (S := fun w' => w'.cell? ⟨w.heap.size, 0, none⟩ = some (.int .i64 pS) ∧ w'.cell? ⟨w.heap.size, 1, none⟩ = some (.slice aS S.length cS)) (by kernel_rfl) (hs1.out) (fun hHeld => ?_)
    (refine wpAnyH_take (i := 0) (oi := _) (v := ?_) rfl (by kernel_rfl) (by kernel_rfl) (by kernel_rfl) (fun _ _ _ h => h) (Or.inl ⟨by kernel_rfl, ?_⟩) (by assumption) ?_; rotate_left; (focus (intro w' hSw; (try dsimp only at hSw); first | (go_simp; done) | (go_simp; with_reducible rfl)))); ((try simp only [Act.put]); (try simp only [List.setIfInBounds_toArray]); (try simp only [List.set_cons_succ]); (try simp only [List.set_cons_zero]))
    (refine wpAnyH_take (i := 1) (oi := _) (v := ?_) rfl (by kernel_rfl) (by kernel_rfl) (by kernel_rfl) (fun _ _ _ h => h) (Or.inl ⟨by kernel_rfl, ?_⟩) (by assumption) ?_; rotate_left; (focus (intro w' hSw; (try dsimp only at hSw); first | (go_simp; done) | (go_simp; with_reducible rfl)))); (try simp only [List.getElem_toArray, List.getElem_cons_succ, List.getElem_cons_zero]); ((try simp only [Act.put]); (try simp only [List.setIfInBounds_toArray]); (try simp only [List.set_cons_succ]); (try simp only [List.set_cons_zero]))
    (refine wpAnyH_take (i := 2) (oi := _) (v := ?_) rfl (by kernel_rfl) (by kernel_rfl) (by kernel_rfl) (fun _ _ _ h => h) (Or.inl ⟨by kernel_rfl, ?_⟩) (by assumption) ?_; rotate_left; (focus (intro w' hSw; (try dsimp only at hSw); first | (go_simp; done) | (go_simp; with_reducible rfl)))); (try simp only [List.getElem_toArray, List.getElem_cons_succ, List.getElem_cons_zero]); ((try simp only [Act.put]); (try simp only [List.setIfInBounds_toArray]); (try simp only [List.set_cons_succ]); (try simp only [List.set_cons_zero]))
    (refine wpAnyH_take (i := 3) (oi := _) (v := undef) rfl (by kernel_rfl) (by kernel_rfl) (by kernel_rfl) (fun _ _ _ h => h) (Or.inr ⟨by kernel_rfl, rfl⟩) (by assumption) ?_); (try simp only [List.getElem_toArray, List.getElem_cons_succ, List.getElem_cons_zero]); ((try simp only [Act.put]); (try simp only [List.setIfInBounds_toArray]); (try simp only [List.set_cons_succ]); (try simp only [List.set_cons_zero]))
    (refine wpAnyH_take (i := 4) (oi := _) (v := undef) rfl (by kernel_rfl) (by kernel_rfl) (by kernel_rfl) (fun _ _ _ h => h) (Or.inr ⟨by kernel_rfl, rfl⟩) (by assumption) ?_); (try simp only [List.getElem_toArray, List.getElem_cons_succ, List.getElem_cons_zero]); ((try simp only [Act.put]); (try simp only [List.setIfInBounds_toArray]); (try simp only [List.set_cons_succ]); (try simp only [List.set_cons_zero]))
    (refine wpAnyH_take (i := 5) (oi := _) (v := undef) rfl (by kernel_rfl) (by kernel_rfl) (by kernel_rfl) (fun _ _ _ h => h) (Or.inr ⟨by kernel_rfl, rfl⟩) (by assumption) ?_); (try simp only [List.getElem_toArray, List.getElem_cons_succ, List.getElem_cons_zero]); ((try simp only [Act.put]); (try simp only [List.setIfInBounds_toArray]); (try simp only [List.set_cons_succ]); (try simp only [List.set_cons_zero]))
    (refine wpAnyH_take (i := 6) (oi := _) (v := undef) rfl (by kernel_rfl) (by kernel_rfl) (by kernel_rfl) (fun _ _ _ h => h) (Or.inr ⟨by kernel_rfl, rfl⟩) (by assumption) ?_); (try simp only [List.getElem_toArray, List.getElem_cons_succ, List.getElem_cons_zero]); ((try simp only [Act.put]); (try simp only [List.setIfInBounds_toArray]); (try simp only [List.set_cons_succ]); (try simp only [List.set_cons_zero]))
    (refine wpAnyH_take (i := 7) (oi := _) (v := undef) rfl (by kernel_rfl) (by kernel_rfl) (by kernel_rfl) (fun _ _ _ h => h) (Or.inr ⟨by kernel_rfl, rfl⟩) (by assumption) ?_); (try simp only [List.getElem_toArray, List.getElem_cons_succ, List.getElem_cons_zero]); ((try simp only [Act.put]); (try simp only [List.setIfInBounds_toArray]); (try simp only [List.set_cons_succ]); (try simp only [List.set_cons_zero]))
    (refine wpAnyH_take (i := 8) (oi := _) (v := undef) rfl (by kernel_rfl) (by kernel_rfl) (by kernel_rfl) (fun _ _ _ h => h) (Or.inr ⟨by kernel_rfl, rfl⟩) (by assumption) ?_); (try simp only [List.getElem_toArray, List.getElem_cons_succ, List.getElem_cons_zero]); ((try simp only [Act.put]); (try simp only [List.setIfInBounds_toArray]); (try simp only [List.set_cons_succ]); (try simp only [List.set_cons_zero]))
    (refine wpAnyH_take (i := 9) (oi := _) (v := undef) rfl (by kernel_rfl) (by kernel_rfl) (by kernel_rfl) (fun _ _ _ h => h) (Or.inr ⟨by kernel_rfl, rfl⟩) (by assumption) ?_); (try simp only [List.getElem_toArray, List.getElem_cons_succ, List.getElem_cons_zero]); ((try simp only [Act.put]); (try simp only [List.setIfInBounds_toArray]); (try simp only [List.set_cons_succ]); (try simp only [List.set_cons_zero]))
    (refine wpAnyH_take (i := 10) (oi := _) (v := undef) rfl (by kernel_rfl) (by kernel_rfl) (by kernel_rfl) (fun _ _ _ h => h) (Or.inr ⟨by kernel_rfl, rfl⟩) (by assumption) ?_); (try simp only [List.getElem_toArray, List.getElem_cons_succ, List.getElem_cons_zero]); ((try simp only [Act.put]); (try simp only [List.setIfInBounds_toArray]); (try simp only [List.set_cons_succ]); (try simp only [List.set_cons_zero]))
    (refine wpAnyH_take (i := 11) (oi := _) (v := undef) rfl (by kernel_rfl) (by kernel_rfl) (by kernel_rfl) (fun _ _ _ h => h) (Or.inr ⟨by kernel_rfl, rfl⟩) (by assumption) ?_); (try simp only [List.getElem_toArray, List.getElem_cons_succ, List.getElem_cons_zero]); ((try simp only [Act.put]); (try simp only [List.setIfInBounds_toArray]); (try simp only [List.set_cons_succ]); (try simp only [List.set_cons_zero]))
    (refine wpAnyH_take (i := 12) (oi := _) (v := undef) rfl (by kernel_rfl) (by kernel_rfl) (by kernel_rfl) (fun _ _ _ h => h) (Or.inr ⟨by kernel_rfl, rfl⟩) (by assumption) ?_); (try simp only [List.getElem_toArray, List.getElem_cons_succ, List.getElem_cons_zero]); ((try simp only [Act.put]); (try simp only [List.setIfInBounds_toArray]); (try simp only [List.set_cons_succ]); (try simp only [List.set_cons_zero]))
    (refine wpAnyH_take (i := 13) (oi := _) (v := undef) rfl (by kernel_rfl) (by kernel_rfl) (by kernel_rfl) (fun _ _ _ h => h) (Or.inr ⟨by kernel_rfl, rfl⟩) (by assumption) ?_); (try simp only [List.getElem_toArray, List.getElem_cons_succ, List.getElem_cons_zero]); ((try simp only [Act.put]); (try simp only [List.setIfInBounds_toArray]); (try simp only [List.set_cons_succ]); (try simp only [List.set_cons_zero]))
    (refine wpAnyH_take (i := 14) (oi := _) (v := undef) rfl (by kernel_rfl) (by kernel_rfl) (by kernel_rfl) (fun _ _ _ h => h) (Or.inr ⟨by kernel_rfl, rfl⟩) (by assumption) ?_); (try simp only [List.getElem_toArray, List.getElem_cons_succ, List.getElem_cons_zero]); ((try simp only [Act.put]); (try simp only [List.setIfInBounds_toArray]); (try simp only [List.set_cons_succ]); (try simp only [List.set_cons_zero]))
    (refine wpAnyH_take (i := 15) (oi := _) (v := undef) rfl (by kernel_rfl) (by kernel_rfl) (by kernel_rfl) (fun _ _ _ h => h) (Or.inr ⟨by kernel_rfl, rfl⟩) (by assumption) ?_); (try simp only [List.getElem_toArray, List.getElem_cons_succ, List.getElem_cons_zero]); ((try simp only [Act.put]); (try simp only [List.setIfInBounds_toArray]); (try simp only [List.set_cons_succ]); (try simp only [List.set_cons_zero]))
    (refine wpAnyH_take (i := 16) (oi := _) (v := undef) rfl (by kernel_rfl) (by kernel_rfl) (by kernel_rfl) (fun _ _ _ h => h) (Or.inr ⟨by kernel_rfl, rfl⟩) (by assumption) ?_); (try simp only [List.getElem_toArray, List.getElem_cons_succ, List.getElem_cons_zero]); ((try simp only [Act.put]); (try simp only [List.setIfInBounds_toArray]); (try simp only [List.set_cons_succ]); (try simp only [List.set_cons_zero]))
    (refine wpAnyH_take (i := 17) (oi := _) (v := undef) rfl (by kernel_rfl) (by kernel_rfl) (by kernel_rfl) (fun _ _ _ h => h) (Or.inr ⟨by kernel_rfl, rfl⟩) (by assumption) ?_); (try simp only [List.getElem_toArray, List.getElem_cons_succ, List.getElem_cons_zero]); ((try simp only [Act.put]); (try simp only [List.setIfInBounds_toArray]); (try simp only [List.set_cons_succ]); (try simp only [List.set_cons_zero]))
    (refine wpAnyH_take (i := 18) (oi := _) (v := undef) rfl (by kernel_rfl) (by kernel_rfl) (by kernel_rfl) (fun _ _ _ h => h) (Or.inr ⟨by kernel_rfl, rfl⟩) (by assumption) ?_); (try simp only [List.getElem_toArray, List.getElem_cons_succ, List.getElem_cons_zero]); ((try simp only [Act.put]); (try simp only [List.setIfInBounds_toArray]); (try simp only [List.set_cons_succ]); (try simp only [List.set_cons_zero]))
    (refine wpAnyH_take (i := 19) (oi := _) (v := ?_) rfl (by kernel_rfl) (by kernel_rfl) (by kernel_rfl) (fun _ _ _ h => h) (Or.inl ⟨by kernel_rfl, ?_⟩) (by assumption) ?_; rotate_left; (focus (intro w' hSw; (try dsimp only at hSw); first | (go_simp; done) | (go_simp; with_reducible rfl)))); (try simp only [List.getElem_toArray, List.getElem_cons_succ, List.getElem_cons_zero]); ((try simp only [Act.put]); (try simp only [List.setIfInBounds_toArray]); (try simp only [List.set_cons_succ]); (try simp only [List.set_cons_zero]))
    refine wpAnyH_done (by kernel_rfl) ?_ _
    refine NoPanic.normal ?_
    go_wp2
    go_ret2
    rw [HVC.out.1, HVC.out.2, ← HCE.out]
    exact ⟨none, 0, rfl, .inl rfl, HBD.out⟩

end Go.Proofs.Ytgfanoejohpmkaa
