/-
  Bivectors of vectors, numbers of bivectors: contracts of the program and of the model.
  Conditions: the lists are nil or rows of known cells, of at most 1048576 numbers.
-/
import Derived.Test.YtkibkkdeaojjoabQc23
import Derived.Test.YtkibkkdeaojjoabQc22
import Derived.Test.YtkibkkdeaojjoabQc17
import Derived.Test.YtkibkkdeaojjoabQc18
import Derived.Test.YtkibkkdeaojjoabQc10
import Derived.Deep.RegionHeld3
import Derived.Deep.DeepCutAuto
namespace Go.Proofs.Ytkibkkdeaojjoab
open Go.RowKit
set_option linter.unusedVariables false

def boV (p : Int) (S v w : List Int) : List Int := if rvC p S [v, w] = 0 then wgM p S (mkR (bl S) (vecF v v.length)) (mkR (bl S) (vecF w w.length)) else []
theorem boV_size (p : Int) (S v w : List Int) : (boV p S v w).length ≤ 1048576 := by
  unfold boV; split
  · rename_i h
    have := bl_le (isSp_iff.1 (rvC_two h).1).hi
    rw [show (wgM p S (mkR (bl S) (vecF v v.length)) (mkR (bl S) (vecF w w.length))).length = bl S from mkR_len _ _]
    omega
  · simp
def cbN (S : List Int) : Int := (S.length : Int) * ((S.length : Int) - 1) / 2
def cbV (p : Int) (S : List Int) : Int := if regC p S [] = 0 then cbN S else 0
theorem codeR0B (pS : Int) (aS : Option Addr) (S : List Int) (cS loS tpS : Nat) (w : World) (hS : RowIn loS tpS w aS S) (tS : tpS ≤ w.heap.size) (sS : S.length ≤ 1048576) :
    Calls Try.prog 44 #[.agg #[.int .i64 pS, .slice aS S.length cS], .slice none 0 0] w fun e w' => e = .returned (.int .i64 (regC pS S [])) ∧ Below w.heap.size w w' :=
  l05Regular_any pS aS S cS loS tpS none [] 0 0 0 w hS tS sS (.inl rfl) (Nat.zero_le _) (by show 0 ≤ 1048576; omega) (fun i hi => absurd hi (Nat.not_lt_zero i))
theorem sp_six {p : Int} {S : List Int} (h : isSp p S = true) : S.length = 1 ∨ S.length = 2 ∨ S.length = 3 ∨ S.length = 4 ∨ S.length = 5 ∨ S.length = 6 := by
  have := (isSp_iff.1 h).lo
  have := (isSp_iff.1 h).hi
  omega
theorem wedge_nB (pS : Int) (aS : Option Addr) (S : List Int) (cS loS tpS : Nat) (a b lo tp lo' tp' : Nat) (x y : List Int) (n : Nat) (w : World) (hx1 : x.length = n) (hy1 : y.length = n) (hs : isSp pS S = true) (hS : RowIn loS tpS w aS S) (tS : tpS ≤ w.heap.size) (hx : RowIn lo tp w (some ⟨a, 0, none⟩) x) (tx : tp ≤ w.heap.size) (mx : isMv pS S x = true) (hy : RowIn lo' tp' w (some ⟨b, 0, none⟩) y) (ty : tp' ≤ w.heap.size) (my : isMv pS S y = true) :
    Calls Try.prog 42 #[.agg #[.int .i64 pS, .slice aS S.length cS], .slice (some ⟨a, 0, none⟩) n n, .slice (some ⟨b, 0, none⟩) n n] w (OwnE (wgM pS S x y) w) := by
  subst hx1
  have h := wedge_own pS aS S cS loS tpS (some ⟨a, 0, none⟩) x x.length lo tp (some ⟨b, 0, none⟩) y x.length lo' tp' w hs hS tS hx tx mx hy ty my
  rw [hy1] at h
  exact h
theorem l05Wedge_nB (pS : Int) (aS : Option Addr) (S : List Int) (cS loS tpS : Nat) (a b lo tp lo' tp' : Nat) (x y : List Int) (n : Nat) (w : World) (hx1 : x.length = n) (hy1 : y.length = n) (hs : isSp pS S = true) (hS : RowIn loS tpS w aS S) (tS : tpS ≤ w.heap.size) (hx : RowIn lo tp w (some ⟨a, 0, none⟩) x) (tx : tp ≤ w.heap.size) (mx : isMv pS S x = true) (hy : RowIn lo' tp' w (some ⟨b, 0, none⟩) y) (ty : tp' ≤ w.heap.size) (my : isMv pS S y = true) :
    Calls Try.prog 39 #[.agg #[.int .i64 pS, .slice aS S.length cS], .slice (some ⟨a, 0, none⟩) n n, .slice (some ⟨b, 0, none⟩) n n] w (OwnE (wgM pS S x y) w) := by
  subst hx1
  have h := l05Wedge_own pS aS S cS loS tpS (some ⟨a, 0, none⟩) x x.length lo tp (some ⟨b, 0, none⟩) y x.length lo' tp' w hs hS tS hx tx mx hy ty my
  rw [hy1] at h
  exact h

set_option maxRecDepth 100000 in
set_option maxHeartbeats 6400000 in
theorem impl_BivectorOfVectors (pS : Int) (aS : Option Addr) (S : List Int) (cS loS tpS : Nat) (au : Option Addr) (u : List Int) (cu lou tpu : Nat) (av : Option Addr) (v : List Int) (cv lov tpv : Nat) (w : World) (hS : RowIn loS tpS w aS S) (tS : tpS ≤ w.heap.size) (sS : S.length ≤ 1048576) (hu : RowIn lou tpu w au u) (tu : tpu ≤ w.heap.size) (su : u.length ≤ 1048576) (hv : RowIn lov tpv w av v) (tv : tpv ≤ w.heap.size) (sv : v.length ≤ 1048576) :
    Calls Try.prog 21 #[.agg #[.int .i64 pS, .slice aS S.length cS], .slice au u.length cu, .slice av v.length cv] w (ImplR (boV pS S u v) (rvC pS S [u, v]) w) := by
  have HS := Lib.hid hS
  have Hu := Lib.hid hu
  have Hv := Lib.hid hv
  have k0 := nw0 w (.int .i64 pS) (.slice aS S.length cS) 30
  have k1 := nw1 w (.int .i64 pS) (.slice aS S.length cS) 30
  have HB0 := Lib.hid (below_alloc w (.cells #[.int .i64 pS, .slice aS S.length cS] 30))
  clear hS hu hv
  by_cases h0 : rvC pS S [u, v] = 0
  · have HC := Lib.hid h0
    have hz := rvC_two h0
    have HI := Lib.hid hz.1
    have h6 := (isSp_iff.1 hz.1).hi
    have hbl := bl_le h6
    have HLu := Lib.hid (isVec_iff.1 hz.2.1).len
    have HLv := Lib.hid (isVec_iff.1 hz.2.2).len
    have HMu := Lib.hid (vec_mv' hz.1 hz.2.1)
    have HMv := Lib.hid (vec_mv' hz.1 hz.2.2)
    have HV : Hid (boV pS S u v = wgM pS S (mkR (bl S) (vecF u u.length)) (mkR (bl S) (vecF v v.length))) := if_pos h0
    clear h0 hz
    go_enter Try.func21, Try.ntmps21
    go_upto_region 1 with fail
    obtain ⟨w1, hw1⟩ : ∃ z, z = w.alloc (.cells #[.int .i64 pS, .slice aS S.length cS] 30) := ⟨_, rfl⟩
    rw [← hw1] at HB0 k0 k1 ⊢
    have hd1 : w.heap.size < w1.heap.size := by rw [hw1]; simp
    have HB1 := HB0
    clear hw1
    have SS1 := Lib.hid (And.intro k0 k1)
    go_upto_region 4 with (go_at_call 41; ((with_reducible refine (checkRV2 pS aS S cS loS tpS au u cu lou tpu av v cv lov tpv _ _ w1 _ rfl (HS.out.below HB1.out tS) (Nat.le_trans tS HB1.out.size) sS (Hu.out.below HB1.out tu) (Nat.le_trans tu HB1.out.size) su (Hv.out.below HB1.out tv) (Nat.le_trans tv HB1.out.size) sv).mono ?_); rintro e w2 ⟨rfl, b_⟩; rw [HC.out]; have b2_ := below_step (below_alloc w1 (.cells #[.slice au u.length cu, .slice av v.length cv] 22)) (size_alloc w1 (.cells #[.slice au u.length cu, .slice av v.length cv] 22)) b_; have SS2 := Lib.hid (ss2 b2_ hd1 SS1.out); have HB2 := Lib.hid (below_step HB1.out HB1.out.size b2_); have hd2 := Nat.lt_of_lt_of_le hd1 b2_.size; clear k0 k1; obtain ⟨k0, k1⟩ := SS2.out; clear b_ b2_))
    have hs1 : Hid (w2.drew.cell? ⟨w.heap.size, 0, none⟩ = some (.int .i64 pS) ∧ w2.drew.cell? ⟨w.heap.size, 1, none⟩ = some (.slice aS S.length cS)) := SS2.out
    have HBD : Hid (Below w.heap.size w w2.drew) := HB2.out.drew
    have hdd : w.heap.size < w2.drew.heap.size := hd2
    go_region_held3 (fun w' => w'.cell? ⟨w.heap.size, 0, none⟩ = some (.int .i64 pS) ∧ w'.cell? ⟨w.heap.size, 1, none⟩ = some (.slice aS S.length cS)) (first | exact hs1.out | exact SSa.out | exact SSab.out | exact SSabc.out | go_keep) (first | (go_at_call 43; (with_reducible refine (vector_any pS aS S cS au u cu lou tpu w2.drew h6 HLu.out (Hu.out.below HBD.out tu) (Nat.le_trans tu (HBD.out).size)).mono ?_); rintro e wa ⟨ba, rfl, l_, u_, o_, b_⟩; have SSa := Lib.hid (ss2 b_ hdd hs1.out); have HBa := Lib.hid (below_step HBD.out (Nat.le_of_lt hdd) b_); have zz_ := b_.size; have hda := Nat.lt_of_lt_of_le hdd zz_; have la := Nat.lt_of_lt_of_le hdd l_; have ua_a := u_; have Na_a := Lib.hid o_; have Ra_a := Lib.hid ((o_.own (Nat.le_of_lt la) u_).row); clear b_ o_) | (go_at_call 43; (with_reducible refine (vector_any pS aS S cS av v cv lov tpv wa h6 HLv.out (Hv.out.below HBa.out tv) (Nat.le_trans tv (HBa.out).size)).mono ?_); rintro e wab ⟨bb, rfl, l_, u_, o_, b_⟩; have SSab := Lib.hid (ss2 b_ hda SSa.out); have HBab := Lib.hid (below_step HBa.out (Nat.le_of_lt hda) b_); have zz_ := b_.size; have hdab := Nat.lt_of_lt_of_le hda zz_; have Ra_ab := Lib.hid ((Ra_a.out.below b_ (Nat.le_refl _)).mono (Nat.le_refl _) zz_); have Na_ab := Lib.hid (Na_a.out.stay (b_.block ba ua_a)); have ua_ab := Nat.lt_of_lt_of_le ua_a zz_; have lb := Nat.lt_of_lt_of_le hda l_; have ub_ab := u_; have Nb_ab := Lib.hid o_; have Rb_ab := Lib.hid ((o_.own (Nat.le_of_lt lb) u_).row); clear b_ o_) | (go_at_call 42; (with_reducible refine (wedge_nB pS aS S cS loS tpS ba bb w.heap.size wab.heap.size w.heap.size wab.heap.size (mkR (bl S) (vecF u u.length)) (mkR (bl S) (vecF v v.length)) (bl S) wab (mkR_len _ _) (mkR_len _ _) HI.out (HS.out.below HBab.out tS) (Nat.le_trans tS (HBab.out).size) Ra_ab.out (Nat.le_refl _) HMu.out Rb_ab.out (Nat.le_refl _) HMv.out).mono ?_); rintro e wabc ⟨rc, kc, rfl, o_, b_⟩; have SSabc := Lib.hid (ss2 b_ hdab SSab.out); have HBabc := Lib.hid (below_step HBab.out (Nat.le_of_lt hdab) b_); have zz_ := b_.size; have hdabc := Nat.lt_of_lt_of_le hdab zz_; have Ra_abc := Lib.hid ((Ra_ab.out.below b_ (Nat.le_refl _)).mono (Nat.le_refl _) zz_); have Na_abc := Lib.hid (Na_ab.out.stay (b_.block ba ua_ab)); have ua_abc := Nat.lt_of_lt_of_le ua_ab zz_; have Rb_abc := Lib.hid ((Rb_ab.out.below b_ (Nat.le_refl _)).mono (Nat.le_refl _) zz_); have Nb_abc := Lib.hid (Nb_ab.out.stay (b_.block bb ub_ab)); have ub_abc := Nat.lt_of_lt_of_le ub_ab zz_; have Oc_abc := Lib.hid (OwnR.mono' o_ (Nat.le_of_lt hdab) (Nat.le_refl _)); have Rc_abc := Lib.hid (Oc_abc.out.row); clear b_ o_))
    all_goals
      go_wp2
      go_ret2
      rw [HV.out, HC.out]
      exact ⟨rc, kc, rfl, Oc_abc.out, HBabc.out⟩
  · have HV : Hid (boV pS S u v = []) := if_neg h0
    obtain ⟨C, hC⟩ : ∃ c, c = rvC pS S [u, v] := ⟨_, rfl⟩
    have hc1 : (C != 0) = true := by rw [hC]; simpa using h0
    have hc2 : (C == 0) = false := by rw [hC]; simpa using h0
    have HCE := Lib.hid hC
    clear hC
    clear h0
    go_enter Try.func21, Try.ntmps21
    go_upto_region 1 with fail
    obtain ⟨w1, hw1⟩ : ∃ z, z = w.alloc (.cells #[.int .i64 pS, .slice aS S.length cS] 30) := ⟨_, rfl⟩
    rw [← hw1] at HB0 k0 k1 ⊢
    have hd1 : w.heap.size < w1.heap.size := by rw [hw1]; simp
    have HB1 := HB0
    clear hw1
    have SS1 := Lib.hid (And.intro k0 k1)
    go_wp2_with (go_at_call 41; ((with_reducible refine (checkRV2 pS aS S cS loS tpS au u cu lou tpu av v cv lov tpv _ _ w1 _ rfl (HS.out.below HB1.out tS) (Nat.le_trans tS HB1.out.size) sS (Hu.out.below HB1.out tu) (Nat.le_trans tu HB1.out.size) su (Hv.out.below HB1.out tv) (Nat.le_trans tv HB1.out.size) sv).mono ?_); rintro e w2 ⟨rfl, b_⟩; rw [← HCE.out]; have b2_ := below_step (below_alloc w1 (.cells #[.slice au u.length cu, .slice av v.length cv] 22)) (size_alloc w1 (.cells #[.slice au u.length cu, .slice av v.length cv] 22)) b_; have SS2 := Lib.hid (ss2 b2_ hd1 SS1.out); have HB2 := Lib.hid (below_step HB1.out HB1.out.size b2_); have hd2 := Nat.lt_of_lt_of_le hd1 b2_.size; clear k0 k1; obtain ⟨k0, k1⟩ := SS2.out; clear b_ b2_))
    go_ret2
    rw [HV.out, ← HCE.out]
    exact ⟨none, 0, rfl, .inl rfl, HB2.out⟩

set_option maxRecDepth 100000 in
set_option maxHeartbeats 3200000 in
theorem impl_CountBivectors (pS : Int) (aS : Option Addr) (S : List Int) (cS loS tpS : Nat) (w : World) (hS : RowIn loS tpS w aS S) (tS : tpS ≤ w.heap.size) (sS : S.length ≤ 1048576) :
    Calls Try.prog 26 #[.agg #[.int .i64 pS, .slice aS S.length cS]] w (RetI (cbV pS S) (regC pS S []) w) := by
  have HS := Lib.hid hS
  have k0 := nw0 w (.int .i64 pS) (.slice aS S.length cS) 30
  have k1 := nw1 w (.int .i64 pS) (.slice aS S.length cS) 30
  have HB0 := Lib.hid (below_alloc w (.cells #[.int .i64 pS, .slice aS S.length cS] 30))
  clear hS
  by_cases h0 : regC pS S [] = 0
  · have HC := Lib.hid h0
    have HI := Lib.hid (regC_zero h0).1
    have HV : Hid (cbV pS S = cbN S) := if_pos h0
    clear h0
    go_enter Try.func26, Try.ntmps26
    go_upto_region 1 with fail
    obtain ⟨w1, hw1⟩ : ∃ z, z = w.alloc (.cells #[.int .i64 pS, .slice aS S.length cS] 30) := ⟨_, rfl⟩
    rw [← hw1] at HB0 k0 k1 ⊢
    have hd1 : w.heap.size < w1.heap.size := by rw [hw1]; simp
    have HB1 := HB0
    clear hw1
    have SS1 := Lib.hid (And.intro k0 k1)
    go_upto_region 5 with (go_at_call 45; ((with_reducible refine (checkR0 pS aS S cS loS tpS w1 (HS.out.below HB1.out tS) (Nat.le_trans tS HB1.out.size) sS).mono ?_); rintro e w2 ⟨rfl, b_⟩; rw [HC.out]; have SS2 := Lib.hid (ss2 b_ hd1 SS1.out); have HB2 := Lib.hid (below_step HB1.out HB1.out.size b_); have hd2 := Nat.lt_of_lt_of_le hd1 b_.size; clear k0 k1; obtain ⟨k0, k1⟩ := SS2.out; clear b_))
    obtain ⟨n, hn⟩ : ∃ n, n = S.length := ⟨_, rfl⟩
    have HN : Hid (cbN S = (n : Int) * ((n : Int) - 1) / 2) := by show _ = _; rw [hn]; rfl
    have h6 := sp_six HI.out
    rw [← hn] at h6
    try rw [← hn]
    clear hn k0 k1
    rcases h6 with rfl | rfl | rfl | rfl | rfl | rfl
    all_goals
      go_wp2
      go_ret2
      exact ⟨by rw [HV.out, HN.out, HC.out]; rfl, HB2.out⟩
  · have HV : Hid (cbV pS S = 0) := if_neg h0
    obtain ⟨C, hC⟩ : ∃ c, c = regC pS S [] := ⟨_, rfl⟩
    have hc1 : (C != 0) = true := by rw [hC]; simpa using h0
    have hc2 : (C == 0) = false := by rw [hC]; simpa using h0
    have HCE := Lib.hid hC
    clear hC
    clear h0
    go_enter Try.func26, Try.ntmps26
    go_upto_region 1 with fail
    obtain ⟨w1, hw1⟩ : ∃ z, z = w.alloc (.cells #[.int .i64 pS, .slice aS S.length cS] 30) := ⟨_, rfl⟩
    rw [← hw1] at HB0 k0 k1 ⊢
    have hd1 : w.heap.size < w1.heap.size := by rw [hw1]; simp
    have HB1 := HB0
    clear hw1
    have SS1 := Lib.hid (And.intro k0 k1)
    go_wp2_with (go_at_call 45; ((with_reducible refine (checkR0 pS aS S cS loS tpS w1 (HS.out.below HB1.out tS) (Nat.le_trans tS HB1.out.size) sS).mono ?_); rintro e w2 ⟨rfl, b_⟩; rw [← HCE.out]; have SS2 := Lib.hid (ss2 b_ hd1 SS1.out); have HB2 := Lib.hid (below_step HB1.out HB1.out.size b_); have hd2 := Nat.lt_of_lt_of_le hd1 b_.size; clear k0 k1; obtain ⟨k0, k1⟩ := SS2.out; clear b_))
    go_ret2
    exact ⟨by rw [HV.out, ← HCE.out]; rfl, HB2.out⟩

set_option maxRecDepth 100000 in
set_option maxHeartbeats 6400000 in
theorem spec_BivectorOfVectors (pS : Int) (aS : Option Addr) (S : List Int) (cS loS tpS : Nat) (au : Option Addr) (u : List Int) (cu lou tpu : Nat) (av : Option Addr) (v : List Int) (cv lov tpv : Nat) (w : World) (hS : RowIn loS tpS w aS S) (tS : tpS ≤ w.heap.size) (sS : S.length ≤ 1048576) (hu : RowIn lou tpu w au u) (tu : tpu ≤ w.heap.size) (su : u.length ≤ 1048576) (hv : RowIn lov tpv w av v) (tv : tpv ≤ w.heap.size) (sv : v.length ≤ 1048576) :
    Calls Try.prog 19 #[.agg #[.int .i64 pS, .slice aS S.length cS], .slice au u.length cu, .slice av v.length cv] w (SpecR (boV pS S u v) (rvC pS S [u, v]) w) := by
  have HS := Lib.hid hS
  have Hu := Lib.hid hu
  have Hv := Lib.hid hv
  have k0 := nw0 w (.int .i64 pS) (.slice aS S.length cS) 30
  have k1 := nw1 w (.int .i64 pS) (.slice aS S.length cS) 30
  have HB0 := Lib.hid (below_alloc w (.cells #[.int .i64 pS, .slice aS S.length cS] 30))
  clear hS hu hv
  by_cases h0 : rvC pS S [u, v] = 0
  · have HC := Lib.hid h0
    have hz := rvC_two h0
    have HI := Lib.hid hz.1
    have h6 := (isSp_iff.1 hz.1).hi
    have hbl := bl_le h6
    have HLu := Lib.hid (isVec_iff.1 hz.2.1).len
    have HLv := Lib.hid (isVec_iff.1 hz.2.2).len
    have HMu := Lib.hid (vec_mv' hz.1 hz.2.1)
    have HMv := Lib.hid (vec_mv' hz.1 hz.2.2)
    have HV : Hid (boV pS S u v = wgM pS S (mkR (bl S) (vecF u u.length)) (mkR (bl S) (vecF v v.length))) := if_pos h0
    clear h0 hz
    go_enter Try.func19, Try.ntmps19
    go_upto_region 1 with fail
    obtain ⟨w1, hw1⟩ : ∃ z, z = w.alloc (.cells #[.int .i64 pS, .slice aS S.length cS] 30) := ⟨_, rfl⟩
    rw [← hw1] at HB0 k0 k1 ⊢
    have hd1 : w.heap.size < w1.heap.size := by rw [hw1]; simp
    have HB1 := HB0
    clear hw1
    have SS1 := Lib.hid (And.intro k0 k1)
    go_upto_region 4 with (go_at_call 38; ((with_reducible refine (vectors2 pS aS S cS loS tpS au u cu lou tpu av v cv lov tpv _ _ w1 _ rfl (HS.out.below HB1.out tS) (Nat.le_trans tS HB1.out.size) sS (Hu.out.below HB1.out tu) (Nat.le_trans tu HB1.out.size) su (Hv.out.below HB1.out tv) (Nat.le_trans tv HB1.out.size) sv).mono ?_); rintro e w2 ⟨rfl, b_⟩; rw [HC.out]; have b2_ := below_step (below_alloc w1 (.cells #[.slice au u.length cu, .slice av v.length cv] 22)) (size_alloc w1 (.cells #[.slice au u.length cu, .slice av v.length cv] 22)) b_; have SS2 := Lib.hid (ss2 b2_ hd1 SS1.out); have HB2 := Lib.hid (below_step HB1.out HB1.out.size b2_); have hd2 := Nat.lt_of_lt_of_le hd1 b2_.size; clear k0 k1; obtain ⟨k0, k1⟩ := SS2.out; clear b_ b2_))
    have hs1 : Hid (w2.drew.cell? ⟨w.heap.size, 0, none⟩ = some (.int .i64 pS) ∧ w2.drew.cell? ⟨w.heap.size, 1, none⟩ = some (.slice aS S.length cS)) := SS2.out
    have HBD : Hid (Below w.heap.size w w2.drew) := HB2.out.drew
    have hdd : w.heap.size < w2.drew.heap.size := hd2
    go_region_held3 (fun w' => w'.cell? ⟨w.heap.size, 0, none⟩ = some (.int .i64 pS) ∧ w'.cell? ⟨w.heap.size, 1, none⟩ = some (.slice aS S.length cS)) (first | exact hs1.out | exact SSa.out | exact SSab.out | exact SSabc.out | go_keep) (first | (go_at_call 40; (with_reducible refine (l04Vector_any pS aS S cS au u cu lou tpu w2.drew h6 HLu.out (Hu.out.below HBD.out tu) (Nat.le_trans tu (HBD.out).size)).mono ?_); rintro e wa ⟨ba, rfl, l_, u_, o_, b_⟩; have SSa := Lib.hid (ss2 b_ hdd hs1.out); have HBa := Lib.hid (below_step HBD.out (Nat.le_of_lt hdd) b_); have zz_ := b_.size; have hda := Nat.lt_of_lt_of_le hdd zz_; have la := Nat.lt_of_lt_of_le hdd l_; have ua_a := u_; have Na_a := Lib.hid o_; have Ra_a := Lib.hid ((o_.own (Nat.le_of_lt la) u_).row); clear b_ o_) | (go_at_call 40; (with_reducible refine (l04Vector_any pS aS S cS av v cv lov tpv wa h6 HLv.out (Hv.out.below HBa.out tv) (Nat.le_trans tv (HBa.out).size)).mono ?_); rintro e wab ⟨bb, rfl, l_, u_, o_, b_⟩; have SSab := Lib.hid (ss2 b_ hda SSa.out); have HBab := Lib.hid (below_step HBa.out (Nat.le_of_lt hda) b_); have zz_ := b_.size; have hdab := Nat.lt_of_lt_of_le hda zz_; have Ra_ab := Lib.hid ((Ra_a.out.below b_ (Nat.le_refl _)).mono (Nat.le_refl _) zz_); have Na_ab := Lib.hid (Na_a.out.stay (b_.block ba ua_a)); have ua_ab := Nat.lt_of_lt_of_le ua_a zz_; have lb := Nat.lt_of_lt_of_le hda l_; have ub_ab := u_; have Nb_ab := Lib.hid o_; have Rb_ab := Lib.hid ((o_.own (Nat.le_of_lt lb) u_).row); clear b_ o_) | (go_at_call 39; (with_reducible refine (l05Wedge_nB pS aS S cS loS tpS ba bb w.heap.size wab.heap.size w.heap.size wab.heap.size (mkR (bl S) (vecF u u.length)) (mkR (bl S) (vecF v v.length)) (bl S) wab (mkR_len _ _) (mkR_len _ _) HI.out (HS.out.below HBab.out tS) (Nat.le_trans tS (HBab.out).size) Ra_ab.out (Nat.le_refl _) HMu.out Rb_ab.out (Nat.le_refl _) HMv.out).mono ?_); rintro e wabc ⟨rc, kc, rfl, o_, b_⟩; have SSabc := Lib.hid (ss2 b_ hdab SSab.out); have HBabc := Lib.hid (below_step HBab.out (Nat.le_of_lt hdab) b_); have zz_ := b_.size; have hdabc := Nat.lt_of_lt_of_le hdab zz_; have Ra_abc := Lib.hid ((Ra_ab.out.below b_ (Nat.le_refl _)).mono (Nat.le_refl _) zz_); have Na_abc := Lib.hid (Na_ab.out.stay (b_.block ba ua_ab)); have ua_abc := Nat.lt_of_lt_of_le ua_ab zz_; have Rb_abc := Lib.hid ((Rb_ab.out.below b_ (Nat.le_refl _)).mono (Nat.le_refl _) zz_); have Nb_abc := Lib.hid (Nb_ab.out.stay (b_.block bb ub_ab)); have ub_abc := Nat.lt_of_lt_of_le ub_ab zz_; have Oc_abc := Lib.hid (OwnR.mono' o_ (Nat.le_of_lt hdab) (Nat.le_refl _)); have Rc_abc := Lib.hid (Oc_abc.out.row); clear b_ o_))
    all_goals
      go_wp2
      go_ret2
      rw [HV.out, HC.out]
      exact ⟨rc, kc, rfl, Rc_abc.out, HBabc.out⟩
  · have HV : Hid (boV pS S u v = []) := if_neg h0
    obtain ⟨C, hC⟩ : ∃ c, c = rvC pS S [u, v] := ⟨_, rfl⟩
    have hc1 : (C != 0) = true := by rw [hC]; simpa using h0
    have hc2 : (C == 0) = false := by rw [hC]; simpa using h0
    have HCE := Lib.hid hC
    clear hC
    clear h0
    go_enter Try.func19, Try.ntmps19
    go_upto_region 1 with fail
    obtain ⟨w1, hw1⟩ : ∃ z, z = w.alloc (.cells #[.int .i64 pS, .slice aS S.length cS] 30) := ⟨_, rfl⟩
    rw [← hw1] at HB0 k0 k1 ⊢
    have hd1 : w.heap.size < w1.heap.size := by rw [hw1]; simp
    have HB1 := HB0
    clear hw1
    have SS1 := Lib.hid (And.intro k0 k1)
    go_wp2_with (go_at_call 38; ((with_reducible refine (vectors2 pS aS S cS loS tpS au u cu lou tpu av v cv lov tpv _ _ w1 _ rfl (HS.out.below HB1.out tS) (Nat.le_trans tS HB1.out.size) sS (Hu.out.below HB1.out tu) (Nat.le_trans tu HB1.out.size) su (Hv.out.below HB1.out tv) (Nat.le_trans tv HB1.out.size) sv).mono ?_); rintro e w2 ⟨rfl, b_⟩; rw [← HCE.out]; have b2_ := below_step (below_alloc w1 (.cells #[.slice au u.length cu, .slice av v.length cv] 22)) (size_alloc w1 (.cells #[.slice au u.length cu, .slice av v.length cv] 22)) b_; have SS2 := Lib.hid (ss2 b2_ hd1 SS1.out); have HB2 := Lib.hid (below_step HB1.out HB1.out.size b2_); have hd2 := Nat.lt_of_lt_of_le hd1 b2_.size; clear k0 k1; obtain ⟨k0, k1⟩ := SS2.out; clear b_ b2_))
    go_ret2
    rw [HV.out, ← HCE.out]
    exact ⟨none, 0, rfl, .inl rfl, HB2.out⟩

set_option maxRecDepth 100000 in
set_option maxHeartbeats 3200000 in
theorem spec_CountBivectors (pS : Int) (aS : Option Addr) (S : List Int) (cS loS tpS : Nat) (w : World) (hS : RowIn loS tpS w aS S) (tS : tpS ≤ w.heap.size) (sS : S.length ≤ 1048576) :
    Calls Try.prog 25 #[.agg #[.int .i64 pS, .slice aS S.length cS]] w (RetI (cbV pS S) (regC pS S []) w) := by
  have HS := Lib.hid hS
  have k0 := nw0 w (.int .i64 pS) (.slice aS S.length cS) 30
  have k1 := nw1 w (.int .i64 pS) (.slice aS S.length cS) 30
  have HB0 := Lib.hid (below_alloc w (.cells #[.int .i64 pS, .slice aS S.length cS] 30))
  clear hS
  by_cases h0 : regC pS S [] = 0
  · have HC := Lib.hid h0
    have HI := Lib.hid (regC_zero h0).1
    have HV : Hid (cbV pS S = cbN S) := if_pos h0
    clear h0
    go_enter Try.func25, Try.ntmps25
    go_upto_region 1 with fail
    obtain ⟨w1, hw1⟩ : ∃ z, z = w.alloc (.cells #[.int .i64 pS, .slice aS S.length cS] 30) := ⟨_, rfl⟩
    rw [← hw1] at HB0 k0 k1 ⊢
    have hd1 : w.heap.size < w1.heap.size := by rw [hw1]; simp
    have HB1 := HB0
    clear hw1
    have SS1 := Lib.hid (And.intro k0 k1)
    go_upto_region 5 with (go_at_call 44; ((with_reducible refine (codeR0B pS aS S cS loS tpS w1 (HS.out.below HB1.out tS) (Nat.le_trans tS HB1.out.size) sS).mono ?_); rintro e w2 ⟨rfl, b_⟩; rw [HC.out]; have SS2 := Lib.hid (ss2 b_ hd1 SS1.out); have HB2 := Lib.hid (below_step HB1.out HB1.out.size b_); have hd2 := Nat.lt_of_lt_of_le hd1 b_.size; clear k0 k1; obtain ⟨k0, k1⟩ := SS2.out; clear b_))
    obtain ⟨n, hn⟩ : ∃ n, n = S.length := ⟨_, rfl⟩
    have HN : Hid (cbN S = (n : Int) * ((n : Int) - 1) / 2) := by show _ = _; rw [hn]; rfl
    have h6 := sp_six HI.out
    rw [← hn] at h6
    try rw [← hn]
    clear hn k0 k1
    rcases h6 with rfl | rfl | rfl | rfl | rfl | rfl
    all_goals
      go_wp2
      go_ret2
      exact ⟨by rw [HV.out, HN.out, HC.out]; rfl, HB2.out⟩
  · have HV : Hid (cbV pS S = 0) := if_neg h0
    obtain ⟨C, hC⟩ : ∃ c, c = regC pS S [] := ⟨_, rfl⟩
    have hc1 : (C != 0) = true := by rw [hC]; simpa using h0
    have hc2 : (C == 0) = false := by rw [hC]; simpa using h0
    have HCE := Lib.hid hC
    clear hC
    clear h0
    go_enter Try.func25, Try.ntmps25
    go_upto_region 1 with fail
    obtain ⟨w1, hw1⟩ : ∃ z, z = w.alloc (.cells #[.int .i64 pS, .slice aS S.length cS] 30) := ⟨_, rfl⟩
    rw [← hw1] at HB0 k0 k1 ⊢
    have hd1 : w.heap.size < w1.heap.size := by rw [hw1]; simp
    have HB1 := HB0
    clear hw1
    have SS1 := Lib.hid (And.intro k0 k1)
    go_wp2_with (go_at_call 44; ((with_reducible refine (codeR0B pS aS S cS loS tpS w1 (HS.out.below HB1.out tS) (Nat.le_trans tS HB1.out.size) sS).mono ?_); rintro e w2 ⟨rfl, b_⟩; rw [← HCE.out]; have SS2 := Lib.hid (ss2 b_ hd1 SS1.out); have HB2 := Lib.hid (below_step HB1.out HB1.out.size b_); have hd2 := Nat.lt_of_lt_of_le hd1 b_.size; clear k0 k1; obtain ⟨k0, k1⟩ := SS2.out; clear b_))
    go_ret2
    exact ⟨by rw [HV.out, ← HCE.out]; rfl, HB2.out⟩

end Go.Proofs.Ytkibkkdeaojjoab
