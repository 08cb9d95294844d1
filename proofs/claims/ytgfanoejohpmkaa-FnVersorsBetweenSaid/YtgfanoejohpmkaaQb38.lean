/-
  VersorBetween (program): contracts of the program and of the model.
  Conditions: the lists are nil or rows of known cells, of at most 1048576 numbers.
-/
import Derived.Test.YtgfanoejohpmkaaQb37
import Derived.Deep.RegionHeld3
import Derived.Deep.DeepCutAuto
namespace Go.Proofs.Ytgfanoejohpmkaa
open Go.RowKit
set_option linter.unusedVariables false

/-- The difference and the sum. -/
def dfM (p : Int) (u v : List Int) : List Int := plusR p v u (p - 1)
def smM7 (p : Int) (u v : List Int) : List Int := plusR p v u 1
theorem plus_vec {p : Int} {n : Nat} {u v : List Int} (hp : 0 < p) (k : Int) (hv : v.length = n) : isVec p n (plusR p v u k) = true := by
  refine isVec_iff.2 ⟨by unfold plusR; rw [mkR_len]; exact hv, ?_⟩
  rw [List.all_eq_true]
  intro y hy
  obtain ⟨j, hj, rfl⟩ := List.getElem_of_mem hy
  rw [← getD_at hj]
  have hj' : j < v.length := by unfold plusR at hj; rw [mkR_len] at hj; exact hj
  unfold plusR
  rw [mkR_at _ hj']
  exact inr_iff.2 ⟨Int.emod_nonneg _ (by omega), Int.emod_lt_of_pos _ hp⟩
theorem plus_len (p k : Int) (u v : List Int) : (plusR p v u k).length = v.length := mkR_len _ _
def vbC (p : Int) (S u v : List Int) : Int := if rvC p S [u, v] = 0 then (if pairN p S u u = pairN p S v v ∧ pairN p S u u ≠ 0 then 0 else 5) else rvC p S [u, v]
def vbV (p : Int) (S u v : List Int) : List Int := if vbC p S u v = 0 then (if pairN p S (dfM p u v) (dfM p u v) = 0 then vrM p S [v, smM7 p u v] 2 else vecM S (dfM p u v)) else []
theorem vbC_zero {p : Int} {S u v : List Int} (h : vbC p S u v = 0) : rvC p S [u, v] = 0 ∧ pairN p S u u = pairN p S v v ∧ pairN p S u u ≠ 0 := by
  unfold vbC at h
  split at h
  · rename_i h0
    split at h
    · rename_i h1; exact ⟨h0, h1.1, h1.2⟩
    · cases h
  · rename_i h0; exact absurd h h0
theorem vbV_size (p : Int) (S u v : List Int) : (vbV p S u v).length ≤ 1048576 := by
  unfold vbV; split
  · rename_i h
    have h2 := rvC_two (vbC_zero h).1
    have := bl_le (isSp_iff.1 h2.1).hi
    split
    · rw [vr_len]; omega
    · unfold vecM; rw [mkR_len]; omega
  · simp
theorem dfM_len (p : Int) (u v : List Int) : (dfM p u v).length = v.length := mkR_len _ _
theorem smM7_len (p : Int) (u v : List Int) : (smM7 p u v).length = v.length := mkR_len _ _
theorem norm_len (pS : Int) (aS : Option Addr) (S : List Int) (cS loS tpS : Nat) (av : Option Addr) (v : List Int) (n cv lov tpv : Nat) (w : World) (hn : v.length = n) (hS : RowIn loS tpS w aS S) (tS : tpS ≤ w.heap.size) (hv : RowIn lov tpv w av v) (tv : tpv ≤ w.heap.size) (hs : isSp pS S = true) (h1 : isVec pS S.length v = true) :
    Calls Try.prog 23 #[.agg #[.int .i64 pS, .slice aS S.length cS], .slice av n cv] w fun e w' => e = .returned (.int .i64 (pairN pS S v v)) ∧ Below w.heap.size w w' := by
  subst hn; exact norm_any pS aS S cS loS tpS av v cv lov tpv w hS tS hv tv hs h1
theorem vov_two (pS : Int) (aS : Option Addr) (S : List Int) (cS loS tpS : Nat) (av : Option Addr) (v : List Int) (cv lov tpv : Nat) (au : Option Addr) (u : List Int) (n cu lou tpu b cap : Nat) (W : World) (T : TypeId) (hb : b = W.heap.size) (hn : u.length = n) (hs : isSp pS S = true) (hS : RowIn loS tpS W aS S) (tS : tpS ≤ W.heap.size) (hv : RowIn lov tpv W av v) (tv : tpv ≤ W.heap.size) (mv : isVec pS S.length v = true) (hu : RowIn lou tpu W au u) (tu : tpu ≤ W.heap.size) (mu : isVec pS S.length u = true) :
    Calls Try.prog 51 #[.agg #[.int .i64 pS, .slice aS S.length cS], .slice (some ⟨b, 0, none⟩) 2 cap] (W.alloc (.cells #[.slice av v.length cv, .slice au n cu] T)) (fun e w' => ∃ r c, e = .returned (.agg #[.int .i64 pS, .slice aS S.length cS, .slice r (vrM pS S [v, u] 2).length c, .int .i64 pS, .int .i64 (vsF pS S [v, u] 2)]) ∧ OwnR (W.alloc (.cells #[.slice av v.length cv, .slice au n cu] T)).heap.size w'.heap.size w' r (vrM pS S [v, u] 2) ∧ Below (W.alloc (.cells #[.slice av v.length cv, .slice au n cu] T)).heap.size (W.alloc (.cells #[.slice av v.length cv, .slice au n cu] T)) w') := by
  subst hn
  refine versorOfVectors_own pS aS S cS loS tpS (some ⟨b, 0, none⟩) [v, u] cap 0 _ _ hs (hS.below (below_alloc W _) tS) (Nat.le_trans tS (size_alloc W _)) (mv_two hb hv tv hu tu T) (Nat.le_refl _) ?_
  unfold listB
  simp [mv, mu]

/-- What is handed back: a reflection, or a versor. -/
def MotB (p : Int) (aS : Option Addr) (S : List Int) (cS : Nat) (u v : List Int) (w : World) (e : Ending) (w' : World) : Prop :=
  (pairN p S (dfM p u v) (dfM p u v) ≠ 0 ∧ ∃ r c, e = .returned (.iface 84 (.agg #[.int .i64 p, .slice aS S.length cS, .slice r v.length c])) ∧ OwnR w.heap.size w'.heap.size w' r (dfM p u v) ∧ Below w.heap.size w w')
  ∨ (pairN p S (dfM p u v) (dfM p u v) = 0 ∧ ∃ r c, e = .returned (.iface 65 (.agg #[.int .i64 p, .slice aS S.length cS, .slice r (vrM p S [v, smM7 p u v] 2).length c, .int .i64 p, .int .i64 (vsF p S [v, smM7 p u v] 2)])) ∧ OwnR w.heap.size w'.heap.size w' r (vrM p S [v, smM7 p u v] 2) ∧ Below w.heap.size w w')

set_option maxRecDepth 100000 in
set_option maxHeartbeats 6400000 in
theorem motionBetween_any (pS : Int) (aS : Option Addr) (S : List Int) (cS loS tpS : Nat) (au : Option Addr) (u : List Int) (cu lou tpu : Nat) (av : Option Addr) (v : List Int) (cv lov tpv : Nat) (w : World) (hs : isSp pS S = true) (hS : RowIn loS tpS w aS S) (tS : tpS ≤ w.heap.size) (hu : RowIn lou tpu w au u) (tu : tpu ≤ w.heap.size) (mu : isVec pS S.length u = true) (hv : RowIn lov tpv w av v) (tv : tpv ≤ w.heap.size) (mv : isVec pS S.length v = true) :
    Calls Try.prog 25 #[.agg #[.int .i64 pS, .slice aS S.length cS], .slice au u.length cu, .slice av v.length cv] w (MotB pS aS S cS u v w) := by
  have HI := Lib.hid hs
  have HS := Lib.hid hS
  have Hu := Lib.hid hu
  have HVu := Lib.hid mu
  have Hv := Lib.hid hv
  have HVv := Lib.hid mv
  have h6 := (isSp_iff.1 hs).hi
  have hl1 := (isSp_iff.1 hs).lo
  have hpb := prm_bd (isSp_iff.1 hs).prime
  have hvl : v.length = S.length := (isVec_iff.1 mv).len
  have hul : u.length = S.length := (isVec_iff.1 mu).len
  have HVL := Lib.hid hvl
  have HUL := Lib.hid hul
  have hv0 : 0 < v.length := by omega
  have hv6 : v.length ≤ 6 := by omega
  have hvu : v.length ≤ u.length := by omega
  have hu6 : u.length ≤ 100000 := by omega
  have e1 : wrap64 (pS - 1) = pS - 1 := by unfold wrap64; omega
  have e2 : IntKind.i64.wrap (pS - 1) = pS - 1 := IntWalk.i64_in _ (by omega)
  have HNV : Hid (∀ j, j < v.length → 0 ≤ (fun j => v.getD j 0) j ∧ (fun j => v.getD j 0) j < pS) := fun j hj => (isVec_iff.1 mv).num (by omega)
  have HNU : Hid (Nums pS u) := fun j hj => (isVec_iff.1 mu).num (by omega)
  have HDV : Hid (isVec pS S.length (dfM pS u v) = true) := plus_vec (by omega) _ hvl
  have HSV : Hid (isVec pS S.length (smM7 pS u v) = true) := plus_vec (by omega) _ hvl
  have k0 := nw0 w (.int .i64 pS) (.slice aS S.length cS) 26
  have k1 := nw1 w (.int .i64 pS) (.slice aS S.length cS) 26
  have HB0 := Lib.hid (below_alloc w (.cells #[.int .i64 pS, .slice aS S.length cS] 26))
  clear hs hS hu mu hv mv hvl hul
  go_enter Try.func25, Try.ntmps25
  go_upto_region 1 with fail
  obtain ⟨w1, hw1⟩ : ∃ z, z = w.alloc (.cells #[.int .i64 pS, .slice aS S.length cS] 26) := ⟨_, rfl⟩
  rw [← hw1] at HB0 k0 k1 ⊢
  have hd1 : w.heap.size < w1.heap.size := by rw [hw1]; simp
  have HB1 := HB0
  clear hw1
  have SS1 := Lib.hid (And.intro k0 k1)
  go_upto_region 2 with (first | (go_at_call 49; ((with_reducible refine (cloneR av v cv lov tpv w1 (Hv.out.below HB1.out tv) (Nat.le_trans tv HB1.out.size) hv0 (by omega)).mono ?_); rintro e w2 ⟨r1, c1, rfl, o_, b_⟩; have SS2 := Lib.hid (ss2 b_ hd1 SS1.out); have HB2 := Lib.hid (below_step HB1.out HB1.out.size b_); have hd2 := Nat.lt_of_lt_of_le hd1 b_.size; obtain ⟨q1, o1, rfl, l1, u1, hro⟩ := RowOwn.of o_.own hv0; have RO1 := Lib.hid hro; clear o_ hro; clear k0 k1; obtain ⟨k0, k1⟩ := SS2.out; clear b_)) | (go_at_call 49; ((with_reducible refine (cloneR av v cv lov tpv w2 (Hv.out.below HB2.out tv) (Nat.le_trans tv HB2.out.size) hv0 (by omega)).mono ?_); rintro e w3 ⟨r2, c2, rfl, o_, b_⟩; have SS3 := Lib.hid (ss2 b_ hd2 SS2.out); have HB3 := Lib.hid (below_step HB2.out HB2.out.size b_); have hd3 := Nat.lt_of_lt_of_le hd2 b_.size; obtain ⟨q2, o2, rfl, l2, u2, hro⟩ := RowOwn.of o_.own hv0; have RO2 := Lib.hid hro; have RO3 := Lib.hid (RO1.out.stay (b_.block q1 u1)); have u13 := Nat.lt_of_lt_of_le u1 b_.size; clear o_ hro; clear k0 k1; obtain ⟨k0, k1⟩ := SS3.out; clear b_)))
  have n12 : q1 < q2 := Nat.lt_of_lt_of_le u1 l2
  have lw1 : w.heap.size < q1 := Nat.lt_of_lt_of_le hd1 l1
  have lw2 : w.heap.size < q2 := Nat.lt_trans lw1 n12
  have lu1 : tpu ≤ q1 := Nat.le_trans tu (Nat.le_of_lt lw1)
  have lu2 : tpu ≤ q2 := Nat.le_trans tu (Nat.le_of_lt lw2)
  go_upto_region 3 with (go_at_call 50; ((with_reducible refine (addMultiple_any pS (pS - 1) q1 o1 v.length c1 (fun j => v.getD j 0) au u cu lou tpu w3 (isSp_iff.1 HI.out).prime RO3.out (Hu.out.below HB3.out tu) (.inr lu1) hvu hu6 HNV.out HNU.out (by omega) (by omega)).mono ?_); rintro e w4 ⟨rfl, ho_, hw_⟩; have RD := Lib.hid ho_; have RS0 := Lib.hid (RO2.out.stay (hw_.block q2 (Nat.ne_of_gt n12))); have SS4 := Lib.hid (ss2w hw_ (Nat.ne_of_lt lw1) SS3.out); have HB4 := Lib.hid (HB3.out.trans (hw_.belowB (Nat.le_of_lt lw1))); have hz4 : w4.heap.size = w3.heap.size := hw_.size; clear ho_ hw_ k0 k1; obtain ⟨k0, k1⟩ := SS4.out))
  go_upto_region 4 with (go_at_call 50; ((with_reducible refine (addMultiple_any pS 1 q2 o2 v.length c2 (fun j => v.getD j 0) au u cu lou tpu w4 (isSp_iff.1 HI.out).prime RS0.out (Hu.out.below HB4.out tu) (.inr lu2) hvu hu6 HNV.out HNU.out (by omega) (by omega)).mono ?_); rintro e w5 ⟨rfl, ho_, hw_⟩; have RS := Lib.hid ho_; have RD5 := Lib.hid (RD.out.stay (hw_.block q1 (Nat.ne_of_lt n12))); have SS5 := Lib.hid (ss2w hw_ (Nat.ne_of_lt lw2) SS4.out); have HB5 := Lib.hid (HB4.out.trans (hw_.belowB (Nat.le_of_lt lw2))); have hz5 : w5.heap.size = w4.heap.size := hw_.size; clear ho_ hw_ k0 k1; obtain ⟨k0, k1⟩ := SS5.out))
  have hd5 : w.heap.size < w5.heap.size := by rw [hz5, hz4]; exact hd3
  have u15 : q1 < w5.heap.size := by rw [hz5, hz4]; exact u13
  have u25 : q2 < w5.heap.size := by rw [hz5, hz4]; exact u2
  have DR : Hid (OwnR w.heap.size w5.heap.size w5 (some ⟨q1, o1, none⟩) (dfM pS u v)) := RD5.out.own (Nat.le_of_lt lw1) u15
  have SR : Hid (OwnR w.heap.size w5.heap.size w5 (some ⟨q2, o2, none⟩) (smM7 pS u v)) := RS.out.own (Nat.le_of_lt lw2) u25
  obtain ⟨N, hN⟩ : ∃ a, a = pairN pS S (dfM pS u v) (dfM pS u v) := ⟨_, rfl⟩
  have HNE := Lib.hid hN
  clear hz4 hz5
  by_cases hn0 : N = 0
  · have e3 : (N != 0) = false := by simp [hn0]
    have HN0 : Hid (pairN pS S (dfM pS u v) (dfM pS u v) = 0) := by show _ = _; rw [← hN]; exact hn0
    clear hn0 hN
    go_wp2_with (first | (go_at_call 23; ((with_reducible refine (norm_len pS aS S cS loS tpS (some ⟨q1, o1, none⟩) (dfM pS u v) v.length c1 w.heap.size w5.heap.size w5 (dfM_len _ _ _) (HS.out.below HB5.out tS) (Nat.le_trans tS HB5.out.size) DR.out.row (Nat.le_refl _) HI.out HDV.out).mono ?_); rintro e w6 ⟨rfl, b_⟩; rw [← HNE.out]; have SS6 := Lib.hid (ss2 b_ hd5 SS5.out); have HB6 := Lib.hid (below_step HB5.out HB5.out.size b_); have hd6 := Nat.lt_of_lt_of_le hd5 b_.size; have DR6 := Lib.hid ((DR.out.below b_ (Nat.le_refl _)).mono' (Nat.le_refl _) b_.size); have SR6 := Lib.hid ((SR.out.below b_ (Nat.le_refl _)).mono' (Nat.le_refl _) b_.size); clear b_ k0 k1; obtain ⟨k0, k1⟩ := SS6.out)) | (go_at_call 51; ((with_reducible refine (vov_two pS aS S cS loS tpS av v cv lov tpv (some ⟨q2, o2, none⟩) (smM7 pS u v) v.length c2 w.heap.size w6.heap.size _ _ w6 _ rfl (smM7_len _ _ _) HI.out (HS.out.below HB6.out tS) (Nat.le_trans tS HB6.out.size) (Hv.out.below HB6.out tv) (Nat.le_trans tv HB6.out.size) HVv.out SR6.out.row (Nat.le_refl _) HSV.out).mono ?_); rintro e w7 ⟨r, c, rfl, o_, b_⟩; have b2_ := below_step (below_alloc w6 (.cells #[.slice av v.length cv, .slice (some ⟨q2, o2, none⟩) v.length c2] 24)) (size_alloc w6 _) b_; have HB7 := Lib.hid (below_step HB6.out HB6.out.size b2_); have OO := Lib.hid (OwnR.mono' o_ (Nat.le_trans HB6.out.size (size_alloc w6 _)) (Nat.le_refl _)); clear o_ b_ b2_)))
    go_ret
    exact .inr ⟨HN0.out, r, c, rfl, OO.out, HB7.out⟩
  · have e3 : (N != 0) = true := by simpa using hn0
    have HN0 : Hid (pairN pS S (dfM pS u v) (dfM pS u v) ≠ 0) := by show _ ≠ _; rw [← hN]; exact hn0
    clear hn0 hN
    go_wp2_with (go_at_call 23; ((with_reducible refine (norm_len pS aS S cS loS tpS (some ⟨q1, o1, none⟩) (dfM pS u v) v.length c1 w.heap.size w5.heap.size w5 (dfM_len _ _ _) (HS.out.below HB5.out tS) (Nat.le_trans tS HB5.out.size) DR.out.row (Nat.le_refl _) HI.out HDV.out).mono ?_); rintro e w6 ⟨rfl, b_⟩; rw [← HNE.out]; have SS6 := Lib.hid (ss2 b_ hd5 SS5.out); have HB6 := Lib.hid (below_step HB5.out HB5.out.size b_); have hd6 := Nat.lt_of_lt_of_le hd5 b_.size; have DR6 := Lib.hid ((DR.out.below b_ (Nat.le_refl _)).mono' (Nat.le_refl _) b_.size); have SR6 := Lib.hid ((SR.out.below b_ (Nat.le_refl _)).mono' (Nat.le_refl _) b_.size); clear b_ k0 k1; obtain ⟨k0, k1⟩ := SS6.out))
    go_ret
    exact .inl ⟨HN0.out, some ⟨q1, o1, none⟩, c1, rfl, DR6.out, HB6.out⟩

theorem assert_rr (p : Int) (a0 a1 : Option Addr) (n0 c0 n1 c1 : Nat) (w : World) : (Instr.typeAssert (.iface 84 (.agg #[.int .i64 p, .slice a0 n0 c0, .slice a1 n1 c1])) 52 84 true).run Try.prog w = .ok (.tuple #[.agg #[.int .i64 p, .slice a0 n0 c0, .slice a1 n1 c1], .bool true]) w := by kernel_rfl
theorem assert_vr (p q f : Int) (a0 a1 : Option Addr) (n0 c0 n1 c1 : Nat) (w : World) : (Instr.typeAssert (.iface 65 (.agg #[.int .i64 p, .slice a0 n0 c0, .slice a1 n1 c1, .int .i64 q, .int .i64 f])) 52 84 true).run Try.prog w = .ok (.tuple #[.agg #[.int .i64 0, .slice none 0 0, .slice none 0 0], .bool false]) w := by kernel_rfl
theorem assert_vv (p q f : Int) (a0 a1 : Option Addr) (n0 c0 n1 c1 : Nat) (w : World) : (Instr.typeAssert (.iface 65 (.agg #[.int .i64 p, .slice a0 n0 c0, .slice a1 n1 c1, .int .i64 q, .int .i64 f])) 52 65 true).run Try.prog w = .ok (.tuple #[.agg #[.int .i64 p, .slice a0 n0 c0, .slice a1 n1 c1, .int .i64 q, .int .i64 f], .bool true]) w := by kernel_rfl

set_option maxRecDepth 100000 in
set_option maxHeartbeats 3200000 in
theorem coefficientsOf_r (pS : Int) (aS : Option Addr) (S : List Int) (cS loS tpS : Nat) (au : Option Addr) (u : List Int) (n cu lou tpu : Nat) (w : World) (hn : u.length = n) (hs : isSp pS S = true) (hu : RowIn lou tpu w au u) (tu : tpu ≤ w.heap.size) (mu : isVec pS S.length u = true) :
    Calls Try.prog 24 #[.iface 84 (.agg #[.int .i64 pS, .slice aS S.length cS, .slice au n cu])] w (OwnE (vecM S u) w) := by
  subst hn
  have HI := Lib.hid hs
  have Hu := Lib.hid hu
  have h6 := (isSp_iff.1 hs).hi
  have HUL := Lib.hid (isVec_iff.1 mu).len
  have h_a := assert_rr
  clear hs hu mu
  go_enter Try.func24, Try.ntmps24
  go_upto_region 4 with fail
  obtain ⟨w1, hw1⟩ : ∃ z, z = w.alloc (.cells #[.int .i64 pS, .slice aS S.length cS, .slice au u.length cu] 84) := ⟨_, rfl⟩
  have k0 : BoxM w.heap.size pS aS S.length cS au u.length cu w1 := by rw [hw1]; exact BoxM.new w pS aS S.length cS au u.length cu _
  have HB1 : Hid (Below w.heap.size w w1) := by show Below _ _ _; rw [hw1]; exact below_alloc w _
  have hd1 : w.heap.size < w1.heap.size := by rw [hw1]; simp
  rw [← hw1]
  clear hw1
  obtain ⟨q0, q1, q2⟩ := k0
  go_wp2_with (go_at_call 48; ((with_reducible refine (vector_any pS aS S cS au u cu lou tpu w1 h6 HUL.out (Hu.out.below HB1.out tu) (Nat.le_trans tu HB1.out.size)).mono ?_); rintro e w2 ⟨b2, rfl, l_, u_, o_, b_⟩; have RO := Lib.hid o_; have HB2 := Lib.hid (below_step HB1.out HB1.out.size b_); have lw := Nat.le_trans (Nat.le_of_lt hd1) l_; clear o_ b_ l_))
  go_ret
  exact ⟨some ⟨b2, 0, none⟩, bl S, by unfold vecM; rw [mkR_len]; rfl, RO.out.own lw u_, HB2.out⟩

set_option maxRecDepth 100000 in
set_option maxHeartbeats 3200000 in
theorem coefficientsOf_v (pS F q : Int) (aS : Option Addr) (n cS : Nat) (ax : Option Addr) (l cx : Nat) (w : World) :
    Calls Try.prog 24 #[.iface 65 (.agg #[.int .i64 pS, .slice aS n cS, .slice ax l cx, .int .i64 q, .int .i64 F])] w (fun e w' => e = .returned (.slice ax l cx) ∧ Below w.heap.size w w') := by
  have h_a := assert_vr
  have h_b := assert_vv
  go_enter Try.func24, Try.ntmps24
  go_upto_region 7 with fail
  obtain ⟨w1, hw1⟩ : ∃ z, z = w.alloc (.cells #[.int .i64 pS, .slice aS n cS, .slice ax l cx, .int .i64 q, .int .i64 F] 65) := ⟨_, rfl⟩
  have k2 : w1.cell? ⟨w.heap.size, 2, none⟩ = some (.slice ax l cx) := by rw [hw1]; simp [go_sem]
  have HB1 : Hid (Below w.heap.size w w1) := by show Below _ _ _; rw [hw1]; exact below_alloc w _
  rw [← hw1]
  clear hw1
  go_wp2
  go_ret
  exact ⟨rfl, HB1.out⟩

theorem motionBetween_r (pS : Int) (aS : Option Addr) (S : List Int) (cS loS tpS : Nat) (au : Option Addr) (u : List Int) (cu lou tpu : Nat) (av : Option Addr) (v : List Int) (cv lov tpv : Nat) (w : World) (hs : isSp pS S = true) (hS : RowIn loS tpS w aS S) (tS : tpS ≤ w.heap.size) (hu : RowIn lou tpu w au u) (tu : tpu ≤ w.heap.size) (mu : isVec pS S.length u = true) (hv : RowIn lov tpv w av v) (tv : tpv ≤ w.heap.size) (mv : isVec pS S.length v = true) (hd : pairN pS S (dfM pS u v) (dfM pS u v) ≠ 0) :
    Calls Try.prog 25 #[.agg #[.int .i64 pS, .slice aS S.length cS], .slice au u.length cu, .slice av v.length cv] w (fun e w' => ∃ r c, e = .returned (.iface 84 (.agg #[.int .i64 pS, .slice aS S.length cS, .slice r v.length c])) ∧ OwnR w.heap.size w'.heap.size w' r (dfM pS u v) ∧ Below w.heap.size w w') :=
  (motionBetween_any pS aS S cS loS tpS au u cu lou tpu av v cv lov tpv w hs hS tS hu tu mu hv tv mv).mono fun _ _ h => by
    rcases h with ⟨h0, h⟩ | ⟨h0, h⟩
    · exact h
    · exact absurd h0 hd
theorem motionBetween_v (pS : Int) (aS : Option Addr) (S : List Int) (cS loS tpS : Nat) (au : Option Addr) (u : List Int) (cu lou tpu : Nat) (av : Option Addr) (v : List Int) (cv lov tpv : Nat) (w : World) (hs : isSp pS S = true) (hS : RowIn loS tpS w aS S) (tS : tpS ≤ w.heap.size) (hu : RowIn lou tpu w au u) (tu : tpu ≤ w.heap.size) (mu : isVec pS S.length u = true) (hv : RowIn lov tpv w av v) (tv : tpv ≤ w.heap.size) (mv : isVec pS S.length v = true) (hd : pairN pS S (dfM pS u v) (dfM pS u v) = 0) :
    Calls Try.prog 25 #[.agg #[.int .i64 pS, .slice aS S.length cS], .slice au u.length cu, .slice av v.length cv] w (fun e w' => ∃ r c, e = .returned (.iface 65 (.agg #[.int .i64 pS, .slice aS S.length cS, .slice r (vrM pS S [v, smM7 pS u v] 2).length c, .int .i64 pS, .int .i64 (vsF pS S [v, smM7 pS u v] 2)])) ∧ OwnR w.heap.size w'.heap.size w' r (vrM pS S [v, smM7 pS u v] 2) ∧ Below w.heap.size w w') :=
  (motionBetween_any pS aS S cS loS tpS au u cu lou tpu av v cv lov tpv w hs hS tS hu tu mu hv tv mv).mono fun _ _ h => by
    rcases h with ⟨h0, h⟩ | ⟨h0, h⟩
    · exact absurd hd h0
    · exact h

set_option maxRecDepth 100000 in
set_option maxHeartbeats 6400000 in
theorem impl_VersorBetween (pS : Int) (aS : Option Addr) (S : List Int) (cS loS tpS : Nat) (au : Option Addr) (u : List Int) (cu lou tpu : Nat) (av : Option Addr) (v : List Int) (cv lov tpv : Nat) (w : World) (hS : RowIn loS tpS w aS S) (tS : tpS ≤ w.heap.size) (sS : S.length ≤ 1048576) (hu : RowIn lou tpu w au u) (tu : tpu ≤ w.heap.size) (su : u.length ≤ 1048576) (hv : RowIn lov tpv w av v) (tv : tpv ≤ w.heap.size) (sv : v.length ≤ 1048576) :
    Calls Try.prog 6 #[.agg #[.int .i64 pS, .slice aS S.length cS], .slice au u.length cu, .slice av v.length cv] w (ImplR (vbV pS S u v) (vbC pS S u v) w) := by
  have HS := Lib.hid hS
  have Hu := Lib.hid hu
  have Hv := Lib.hid hv
  have k0 := nw0 w (.int .i64 pS) (.slice aS S.length cS) 26
  have k1 := nw1 w (.int .i64 pS) (.slice aS S.length cS) 26
  have HB0 := Lib.hid (below_alloc w (.cells #[.int .i64 pS, .slice aS S.length cS] 26))
  clear hS hu hv
  by_cases hz0 : rvC pS S [u, v] = 0
  · have HZ := Lib.hid hz0
    obtain ⟨A, hA⟩ : ∃ a, a = pairN pS S u u := ⟨_, rfl⟩
    obtain ⟨B, hB⟩ : ∃ a, a = pairN pS S v v := ⟨_, rfl⟩
    have HAE := Lib.hid hA
    have HBE_ := Lib.hid hB
    by_cases hab : A = B
    · have e1 : (A != B) = false := by simp [hab]
      by_cases ha0 : A = 0
      · have HVC : Hid (vbV pS S u v = [] ∧ vbC pS S u v = 5) := by
          have e : vbC pS S u v = 5 := by unfold vbC; rw [if_pos hz0, if_neg (fun h => h.2 (by rw [← hA]; exact ha0))]
          exact ⟨by unfold vbV; rw [if_neg (by rw [e]; decide)], e⟩
        have h2_ := rvC_two hz0
        have HI := Lib.hid h2_.1
        have HVu := Lib.hid h2_.2.1
        have HVv := Lib.hid h2_.2.2
        have hpp : 0 < pS := by have := prm_bd (isSp_iff.1 h2_.1).prime; omega
        have HDV : Hid (isVec pS S.length (dfM pS u v) = true) := plus_vec hpp _ (isVec_iff.1 h2_.2.2).len
        clear h2_
        have e2 : (A == 0) = true := by simpa using ha0
        clear hz0 hA hB hab ha0
        go_enter Try.func6, Try.ntmps6
        go_upto_region 1 with fail
        obtain ⟨w1, hw1⟩ : ∃ z, z = w.alloc (.cells #[.int .i64 pS, .slice aS S.length cS] 26) := ⟨_, rfl⟩
        rw [← hw1] at HB0 k0 k1 ⊢
        have hd1 : w.heap.size < w1.heap.size := by rw [hw1]; simp
        have HB1 := HB0
        clear hw1
        have SS1 := Lib.hid (And.intro k0 k1)
        go_upto_region 4 with (go_at_call 22; ((with_reducible refine (checkRV2 pS aS S cS loS tpS au u cu lou tpu av v cv lov tpv _ _ w1 _ rfl (HS.out.below HB1.out tS) (Nat.le_trans tS HB1.out.size) sS (Hu.out.below HB1.out tu) (Nat.le_trans tu HB1.out.size) su (Hv.out.below HB1.out tv) (Nat.le_trans tv HB1.out.size) sv).mono ?_); rintro e w2 ⟨rfl, b_⟩; rw [HZ.out]; have b2_ := below_step (below_alloc w1 (.cells #[.slice au u.length cu, .slice av v.length cv] 24)) (size_alloc w1 (.cells #[.slice au u.length cu, .slice av v.length cv] 24)) b_; have SS2 := Lib.hid (ss2 b2_ hd1 SS1.out); have HB2 := Lib.hid (below_step HB1.out HB1.out.size b2_); have hd2 := Nat.lt_of_lt_of_le hd1 b2_.size; clear k0 k1; obtain ⟨k0, k1⟩ := SS2.out; clear b_ b2_))
        have hs1 : Hid (w2.drew.cell? ⟨w.heap.size, 0, none⟩ = some (.int .i64 pS) ∧ w2.drew.cell? ⟨w.heap.size, 1, none⟩ = some (.slice aS S.length cS)) := SS2.out
        have HBD : Hid (Below w.heap.size w w2.drew) := HB2.out.drew
        have hdd : w.heap.size < w2.drew.heap.size := hd2
        go_region_held3 (fun w' => w'.cell? ⟨w.heap.size, 0, none⟩ = some (.int .i64 pS) ∧ w'.cell? ⟨w.heap.size, 1, none⟩ = some (.slice aS S.length cS)) (first | exact hs1.out | exact SSa.out | exact SSab.out | exact SSabc.out | go_keep) (first | (go_at_call 23; (with_reducible refine (norm_any pS aS S cS loS tpS au u cu lou tpu w2.drew (HS.out.below HBD.out tS) (Nat.le_trans tS (HBD.out).size) (Hu.out.below HBD.out tu) (Nat.le_trans tu (HBD.out).size) HI.out HVu.out).mono ?_); rintro e wa ⟨rfl, b_⟩; rw [← HAE.out]; have SSa := Lib.hid (ss2 b_ hdd hs1.out); have HBa := Lib.hid (below_step HBD.out (Nat.le_of_lt hdd) b_); have zz_ := b_.size; have hda := Nat.lt_of_lt_of_le hdd zz_; clear b_) | (go_at_call 23; (with_reducible refine (norm_any pS aS S cS loS tpS av v cv lov tpv wa (HS.out.below HBa.out tS) (Nat.le_trans tS (HBa.out).size) (Hv.out.below HBa.out tv) (Nat.le_trans tv (HBa.out).size) HI.out HVv.out).mono ?_); rintro e wab ⟨rfl, b_⟩; rw [← HBE_.out]; have SSab := Lib.hid (ss2 b_ hda SSa.out); have HBab := Lib.hid (below_step HBa.out (Nat.le_of_lt hda) b_); have zz_ := b_.size; have hdab := Nat.lt_of_lt_of_le hda zz_; clear b_) | (go_at_call 23; (with_reducible refine (norm_any pS aS S cS loS tpS au u cu lou tpu wab (HS.out.below HBab.out tS) (Nat.le_trans tS (HBab.out).size) (Hu.out.below HBab.out tu) (Nat.le_trans tu (HBab.out).size) HI.out HVu.out).mono ?_); rintro e wabc ⟨rfl, b_⟩; rw [← HAE.out]; have SSabc := Lib.hid (ss2 b_ hdab SSab.out); have HBabc := Lib.hid (below_step HBab.out (Nat.le_of_lt hdab) b_); have zz_ := b_.size; have hdabc := Nat.lt_of_lt_of_le hdab zz_; clear b_))
        all_goals
          go_wp2
          go_ret2
          rw [HVC.out.1, HVC.out.2]
          exact ⟨none, 0, rfl, .inl rfl, HBabc.out⟩
      · by_cases hd0 : pairN pS S (dfM pS u v) (dfM pS u v) = 0
        · have HVC : Hid (vbV pS S u v = vrM pS S [v, smM7 pS u v] 2 ∧ vbC pS S u v = 0) := by
            have e : vbC pS S u v = 0 := by unfold vbC; rw [if_pos hz0, if_pos ⟨by rw [← hA, ← hB]; exact hab, by rw [← hA]; exact ha0⟩]
            exact ⟨by unfold vbV; rw [if_pos e, if_pos hd0], e⟩
          have h2_ := rvC_two hz0
          have HI := Lib.hid h2_.1
          have HVu := Lib.hid h2_.2.1
          have HVv := Lib.hid h2_.2.2
          have hpp : 0 < pS := by have := prm_bd (isSp_iff.1 h2_.1).prime; omega
          have HDV : Hid (isVec pS S.length (dfM pS u v) = true) := plus_vec hpp _ (isVec_iff.1 h2_.2.2).len
          clear h2_
          have e2 : (A == 0) = false := by simpa using ha0
          have HD0 := Lib.hid hd0
          clear hz0 hA hB hab ha0 hd0
          go_enter Try.func6, Try.ntmps6
          go_upto_region 1 with fail
          obtain ⟨w1, hw1⟩ : ∃ z, z = w.alloc (.cells #[.int .i64 pS, .slice aS S.length cS] 26) := ⟨_, rfl⟩
          rw [← hw1] at HB0 k0 k1 ⊢
          have hd1 : w.heap.size < w1.heap.size := by rw [hw1]; simp
          have HB1 := HB0
          clear hw1
          have SS1 := Lib.hid (And.intro k0 k1)
          go_upto_region 4 with (go_at_call 22; ((with_reducible refine (checkRV2 pS aS S cS loS tpS au u cu lou tpu av v cv lov tpv _ _ w1 _ rfl (HS.out.below HB1.out tS) (Nat.le_trans tS HB1.out.size) sS (Hu.out.below HB1.out tu) (Nat.le_trans tu HB1.out.size) su (Hv.out.below HB1.out tv) (Nat.le_trans tv HB1.out.size) sv).mono ?_); rintro e w2 ⟨rfl, b_⟩; rw [HZ.out]; have b2_ := below_step (below_alloc w1 (.cells #[.slice au u.length cu, .slice av v.length cv] 24)) (size_alloc w1 (.cells #[.slice au u.length cu, .slice av v.length cv] 24)) b_; have SS2 := Lib.hid (ss2 b2_ hd1 SS1.out); have HB2 := Lib.hid (below_step HB1.out HB1.out.size b2_); have hd2 := Nat.lt_of_lt_of_le hd1 b2_.size; clear k0 k1; obtain ⟨k0, k1⟩ := SS2.out; clear b_ b2_))
          have hs1 : Hid (w2.drew.cell? ⟨w.heap.size, 0, none⟩ = some (.int .i64 pS) ∧ w2.drew.cell? ⟨w.heap.size, 1, none⟩ = some (.slice aS S.length cS)) := SS2.out
          have HBD : Hid (Below w.heap.size w w2.drew) := HB2.out.drew
          have hdd : w.heap.size < w2.drew.heap.size := hd2
          go_region_held3 (fun w' => w'.cell? ⟨w.heap.size, 0, none⟩ = some (.int .i64 pS) ∧ w'.cell? ⟨w.heap.size, 1, none⟩ = some (.slice aS S.length cS)) (first | exact hs1.out | exact SSa.out | exact SSab.out | exact SSabc.out | go_keep) (first | (go_at_call 23; (with_reducible refine (norm_any pS aS S cS loS tpS au u cu lou tpu w2.drew (HS.out.below HBD.out tS) (Nat.le_trans tS (HBD.out).size) (Hu.out.below HBD.out tu) (Nat.le_trans tu (HBD.out).size) HI.out HVu.out).mono ?_); rintro e wa ⟨rfl, b_⟩; rw [← HAE.out]; have SSa := Lib.hid (ss2 b_ hdd hs1.out); have HBa := Lib.hid (below_step HBD.out (Nat.le_of_lt hdd) b_); have zz_ := b_.size; have hda := Nat.lt_of_lt_of_le hdd zz_; clear b_) | (go_at_call 23; (with_reducible refine (norm_any pS aS S cS loS tpS av v cv lov tpv wa (HS.out.below HBa.out tS) (Nat.le_trans tS (HBa.out).size) (Hv.out.below HBa.out tv) (Nat.le_trans tv (HBa.out).size) HI.out HVv.out).mono ?_); rintro e wab ⟨rfl, b_⟩; rw [← HBE_.out]; have SSab := Lib.hid (ss2 b_ hda SSa.out); have HBab := Lib.hid (below_step HBa.out (Nat.le_of_lt hda) b_); have zz_ := b_.size; have hdab := Nat.lt_of_lt_of_le hda zz_; clear b_) | (go_at_call 23; (with_reducible refine (norm_any pS aS S cS loS tpS au u cu lou tpu wab (HS.out.below HBab.out tS) (Nat.le_trans tS (HBab.out).size) (Hu.out.below HBab.out tu) (Nat.le_trans tu (HBab.out).size) HI.out HVu.out).mono ?_); rintro e wabc ⟨rfl, b_⟩; rw [← HAE.out]; have SSabc := Lib.hid (ss2 b_ hdab SSab.out); have HBabc := Lib.hid (below_step HBab.out (Nat.le_of_lt hdab) b_); have zz_ := b_.size; have hdabc := Nat.lt_of_lt_of_le hdab zz_; clear b_))
          all_goals
            obtain ⟨k0, k1⟩ := SSabc.out
            go_wp2_with (first | (go_at_call 25; ((with_reducible refine (motionBetween_v pS aS S cS loS tpS au u cu lou tpu av v cv lov tpv wabc HI.out (HS.out.below HBabc.out tS) (Nat.le_trans tS HBabc.out.size) (Hu.out.below HBabc.out tu) (Nat.le_trans tu HBabc.out.size) HVu.out (Hv.out.below HBabc.out tv) (Nat.le_trans tv HBabc.out.size) HVv.out HD0.out).mono ?_); rintro e wm ⟨r, c, rfl, o_, b_⟩; have OM := Lib.hid (OwnR.mono' o_ HBabc.out.size (Nat.le_refl _)); have HBm := Lib.hid (below_step HBabc.out HBabc.out.size b_); clear o_ b_)) | (go_at_call 24; ((with_reducible refine (coefficientsOf_v pS (vsF pS S [v, smM7 pS u v] 2) pS aS S.length cS r _ c wm).mono ?_); rintro e wc ⟨rfl, b_⟩; have OC := Lib.hid ((OM.out.below b_ (Nat.le_refl _)).mono' (Nat.le_refl _) b_.size); have HBc := Lib.hid (below_step HBm.out HBm.out.size b_); clear b_)))
            go_ret2
            rw [HVC.out.1, HVC.out.2]
            exact ⟨r, c, rfl, OC.out, HBc.out⟩
        · have HVC : Hid (vbV pS S u v = vecM S (dfM pS u v) ∧ vbC pS S u v = 0) := by
            have e : vbC pS S u v = 0 := by unfold vbC; rw [if_pos hz0, if_pos ⟨by rw [← hA, ← hB]; exact hab, by rw [← hA]; exact ha0⟩]
            exact ⟨by unfold vbV; rw [if_pos e, if_neg hd0], e⟩
          have h2_ := rvC_two hz0
          have HI := Lib.hid h2_.1
          have HVu := Lib.hid h2_.2.1
          have HVv := Lib.hid h2_.2.2
          have hpp : 0 < pS := by have := prm_bd (isSp_iff.1 h2_.1).prime; omega
          have HDV : Hid (isVec pS S.length (dfM pS u v) = true) := plus_vec hpp _ (isVec_iff.1 h2_.2.2).len
          clear h2_
          have e2 : (A == 0) = false := by simpa using ha0
          have HD0 := Lib.hid hd0
          clear hz0 hA hB hab ha0 hd0
          go_enter Try.func6, Try.ntmps6
          go_upto_region 1 with fail
          obtain ⟨w1, hw1⟩ : ∃ z, z = w.alloc (.cells #[.int .i64 pS, .slice aS S.length cS] 26) := ⟨_, rfl⟩
          rw [← hw1] at HB0 k0 k1 ⊢
          have hd1 : w.heap.size < w1.heap.size := by rw [hw1]; simp
          have HB1 := HB0
          clear hw1
          have SS1 := Lib.hid (And.intro k0 k1)
          go_upto_region 4 with (go_at_call 22; ((with_reducible refine (checkRV2 pS aS S cS loS tpS au u cu lou tpu av v cv lov tpv _ _ w1 _ rfl (HS.out.below HB1.out tS) (Nat.le_trans tS HB1.out.size) sS (Hu.out.below HB1.out tu) (Nat.le_trans tu HB1.out.size) su (Hv.out.below HB1.out tv) (Nat.le_trans tv HB1.out.size) sv).mono ?_); rintro e w2 ⟨rfl, b_⟩; rw [HZ.out]; have b2_ := below_step (below_alloc w1 (.cells #[.slice au u.length cu, .slice av v.length cv] 24)) (size_alloc w1 (.cells #[.slice au u.length cu, .slice av v.length cv] 24)) b_; have SS2 := Lib.hid (ss2 b2_ hd1 SS1.out); have HB2 := Lib.hid (below_step HB1.out HB1.out.size b2_); have hd2 := Nat.lt_of_lt_of_le hd1 b2_.size; clear k0 k1; obtain ⟨k0, k1⟩ := SS2.out; clear b_ b2_))
          have hs1 : Hid (w2.drew.cell? ⟨w.heap.size, 0, none⟩ = some (.int .i64 pS) ∧ w2.drew.cell? ⟨w.heap.size, 1, none⟩ = some (.slice aS S.length cS)) := SS2.out
          have HBD : Hid (Below w.heap.size w w2.drew) := HB2.out.drew
          have hdd : w.heap.size < w2.drew.heap.size := hd2
          go_region_held3 (fun w' => w'.cell? ⟨w.heap.size, 0, none⟩ = some (.int .i64 pS) ∧ w'.cell? ⟨w.heap.size, 1, none⟩ = some (.slice aS S.length cS)) (first | exact hs1.out | exact SSa.out | exact SSab.out | exact SSabc.out | go_keep) (first | (go_at_call 23; (with_reducible refine (norm_any pS aS S cS loS tpS au u cu lou tpu w2.drew (HS.out.below HBD.out tS) (Nat.le_trans tS (HBD.out).size) (Hu.out.below HBD.out tu) (Nat.le_trans tu (HBD.out).size) HI.out HVu.out).mono ?_); rintro e wa ⟨rfl, b_⟩; rw [← HAE.out]; have SSa := Lib.hid (ss2 b_ hdd hs1.out); have HBa := Lib.hid (below_step HBD.out (Nat.le_of_lt hdd) b_); have zz_ := b_.size; have hda := Nat.lt_of_lt_of_le hdd zz_; clear b_) | (go_at_call 23; (with_reducible refine (norm_any pS aS S cS loS tpS av v cv lov tpv wa (HS.out.below HBa.out tS) (Nat.le_trans tS (HBa.out).size) (Hv.out.below HBa.out tv) (Nat.le_trans tv (HBa.out).size) HI.out HVv.out).mono ?_); rintro e wab ⟨rfl, b_⟩; rw [← HBE_.out]; have SSab := Lib.hid (ss2 b_ hda SSa.out); have HBab := Lib.hid (below_step HBa.out (Nat.le_of_lt hda) b_); have zz_ := b_.size; have hdab := Nat.lt_of_lt_of_le hda zz_; clear b_) | (go_at_call 23; (with_reducible refine (norm_any pS aS S cS loS tpS au u cu lou tpu wab (HS.out.below HBab.out tS) (Nat.le_trans tS (HBab.out).size) (Hu.out.below HBab.out tu) (Nat.le_trans tu (HBab.out).size) HI.out HVu.out).mono ?_); rintro e wabc ⟨rfl, b_⟩; rw [← HAE.out]; have SSabc := Lib.hid (ss2 b_ hdab SSab.out); have HBabc := Lib.hid (below_step HBab.out (Nat.le_of_lt hdab) b_); have zz_ := b_.size; have hdabc := Nat.lt_of_lt_of_le hdab zz_; clear b_))
          all_goals
            obtain ⟨k0, k1⟩ := SSabc.out
            go_wp2_with (first | (go_at_call 25; ((with_reducible refine (motionBetween_r pS aS S cS loS tpS au u cu lou tpu av v cv lov tpv wabc HI.out (HS.out.below HBabc.out tS) (Nat.le_trans tS HBabc.out.size) (Hu.out.below HBabc.out tu) (Nat.le_trans tu HBabc.out.size) HVu.out (Hv.out.below HBabc.out tv) (Nat.le_trans tv HBabc.out.size) HVv.out HD0.out).mono ?_); rintro e wm ⟨r, c, rfl, o_, b_⟩; have OM := Lib.hid (OwnR.mono' o_ HBabc.out.size (Nat.le_refl _)); have HBm := Lib.hid (below_step HBabc.out HBabc.out.size b_); clear o_ b_)) | (go_at_call 24; ((with_reducible refine (coefficientsOf_r pS aS S cS loS tpS r (dfM pS u v) v.length c w.heap.size wm.heap.size wm (dfM_len _ _ _) HI.out OM.out.row (Nat.le_refl _) HDV.out).mono ?_); rintro e wc ⟨r, c, rfl, o_, b_⟩; have OC := Lib.hid (OwnR.mono' o_ HBm.out.size (Nat.le_refl _)); have HBc := Lib.hid (below_step HBm.out HBm.out.size b_); clear o_ b_)))
            go_ret2
            rw [HVC.out.1, HVC.out.2]
            exact ⟨r, c, rfl, OC.out, HBc.out⟩
    · have HVC : Hid (vbV pS S u v = [] ∧ vbC pS S u v = 5) := by
        have e : vbC pS S u v = 5 := by unfold vbC; rw [if_pos hz0, if_neg (fun h => hab (by rw [hA, hB]; exact h.1))]
        exact ⟨by unfold vbV; rw [if_neg (by rw [e]; decide)], e⟩
      have h2_ := rvC_two hz0
      have HI := Lib.hid h2_.1
      have HVu := Lib.hid h2_.2.1
      have HVv := Lib.hid h2_.2.2
      have hpp : 0 < pS := by have := prm_bd (isSp_iff.1 h2_.1).prime; omega
      have HDV : Hid (isVec pS S.length (dfM pS u v) = true) := plus_vec hpp _ (isVec_iff.1 h2_.2.2).len
      clear h2_
      have e1 : (A != B) = true := by simpa using hab
      clear hz0 hA hB hab
      go_enter Try.func6, Try.ntmps6
      go_upto_region 1 with fail
      obtain ⟨w1, hw1⟩ : ∃ z, z = w.alloc (.cells #[.int .i64 pS, .slice aS S.length cS] 26) := ⟨_, rfl⟩
      rw [← hw1] at HB0 k0 k1 ⊢
      have hd1 : w.heap.size < w1.heap.size := by rw [hw1]; simp
      have HB1 := HB0
      clear hw1
      have SS1 := Lib.hid (And.intro k0 k1)
      go_upto_region 4 with (go_at_call 22; ((with_reducible refine (checkRV2 pS aS S cS loS tpS au u cu lou tpu av v cv lov tpv _ _ w1 _ rfl (HS.out.below HB1.out tS) (Nat.le_trans tS HB1.out.size) sS (Hu.out.below HB1.out tu) (Nat.le_trans tu HB1.out.size) su (Hv.out.below HB1.out tv) (Nat.le_trans tv HB1.out.size) sv).mono ?_); rintro e w2 ⟨rfl, b_⟩; rw [HZ.out]; have b2_ := below_step (below_alloc w1 (.cells #[.slice au u.length cu, .slice av v.length cv] 24)) (size_alloc w1 (.cells #[.slice au u.length cu, .slice av v.length cv] 24)) b_; have SS2 := Lib.hid (ss2 b2_ hd1 SS1.out); have HB2 := Lib.hid (below_step HB1.out HB1.out.size b2_); have hd2 := Nat.lt_of_lt_of_le hd1 b2_.size; clear k0 k1; obtain ⟨k0, k1⟩ := SS2.out; clear b_ b2_))
      have hs1 : Hid (w2.drew.cell? ⟨w.heap.size, 0, none⟩ = some (.int .i64 pS) ∧ w2.drew.cell? ⟨w.heap.size, 1, none⟩ = some (.slice aS S.length cS)) := SS2.out
      have HBD : Hid (Below w.heap.size w w2.drew) := HB2.out.drew
      have hdd : w.heap.size < w2.drew.heap.size := hd2
      
      refine wp_region_noPanic ?_
      refine wp_region_held_drew (S := fun w' => w'.cell? ⟨w.heap.size, 0, none⟩ = some (.int .i64 pS) ∧ w'.cell? ⟨w.heap.size, 1, none⟩ = some (.slice aS S.length cS)) (by kernel_rfl) (hs1.out) (fun hHeld => ?_)
      (refine wpAnyH_take (i := 0) (oi := _) (v := ?_) rfl (by kernel_rfl) (by kernel_rfl) (by kernel_rfl) (fun _ _ _ h => h) (Or.inl ⟨by rfl, ?_⟩) (by assumption) ?_; rotate_left; (focus (intro w' hSw; (try dsimp only at hSw); first | (go_simp; done) | (go_simp; with_reducible rfl)))); ((try simp only [Act.put]); (try simp only [List.setIfInBounds_toArray]); (try simp only [List.set_cons_succ]); (try simp only [List.set_cons_zero]))
      (refine wpAnyH_take (i := 1) (oi := _) (v := ?_) rfl (by kernel_rfl) (by kernel_rfl) (by kernel_rfl) (fun _ _ _ h => h) (Or.inl ⟨by rfl, ?_⟩) (by assumption) ?_; rotate_left; (focus (intro w' hSw; (try dsimp only at hSw); first | (go_simp; done) | (go_simp; with_reducible rfl)))); ((try simp only [Act.put]); (try simp only [List.setIfInBounds_toArray]); (try simp only [List.set_cons_succ]); (try simp only [List.set_cons_zero]))
      (refine wpAnyH_take (i := 3) (oi := _) (v := ?_) rfl (by kernel_rfl) (by kernel_rfl) (by kernel_rfl) (fun _ _ _ h => h) (Or.inl ⟨by rfl, ?_⟩) (by assumption) ?_; rotate_left; (focus (intro w' hSw; (try dsimp only at hSw); first | (go_simp; done) | (go_simp; with_reducible rfl)))); ((try simp only [Act.put]); (try simp only [List.setIfInBounds_toArray]); (try simp only [List.set_cons_succ]); (try simp only [List.set_cons_zero]))
      (refine wpAnyH_take (i := 4) (oi := _) (v := ?_) rfl (by kernel_rfl) (by kernel_rfl) (by kernel_rfl) (fun _ _ _ h => h) (Or.inl ⟨by rfl, ?_⟩) (by assumption) ?_; rotate_left; (focus (intro w' hSw; (try dsimp only at hSw); first | (go_simp; done) | (go_simp; with_reducible rfl)))); ((try simp only [Act.put]); (try simp only [List.setIfInBounds_toArray]); (try simp only [List.set_cons_succ]); (try simp only [List.set_cons_zero]))
      refine wpAnyH_ready (rs := [2]) (by kernel_rfl) (by simp) ?_
      refine AllReadyH.cons (o := _) rfl (fun K hK => ?_) AllReadyH.nil
      go_simp; go_at_call 23; (with_reducible refine (norm_any pS aS S cS loS tpS au u cu lou tpu w2.drew (HS.out.below HBD.out tS) (Nat.le_trans tS (HBD.out).size) (Hu.out.below HBD.out tu) (Nat.le_trans tu (HBD.out).size) HI.out HVu.out).mono ?_); rintro e wa ⟨rfl, b_⟩; rw [← HAE.out]; have SSa := Lib.hid (ss2 b_ hdd hs1.out); have HBa := Lib.hid (below_step HBD.out (Nat.le_of_lt hdd) b_); have zz_ := b_.size; have hda := Nat.lt_of_lt_of_le hdd zz_; clear b_; (try go_wp2_with fail)
      refine hK.out _ _ (SSa.out) (fun hHeld => ?_)
      clear hK K
      ((try simp only [Act.put]); (try simp only [List.setIfInBounds_toArray]); (try simp only [List.set_cons_succ]); (try simp only [List.set_cons_zero]))
      refine wpAnyH_ready (rs := [5]) (by kernel_rfl) (by simp) ?_
      refine AllReadyH.cons (o := _) rfl (fun K hK => ?_) AllReadyH.nil
      go_simp; go_at_call 23; (with_reducible refine (norm_any pS aS S cS loS tpS av v cv lov tpv wa (HS.out.below HBa.out tS) (Nat.le_trans tS (HBa.out).size) (Hv.out.below HBa.out tv) (Nat.le_trans tv (HBa.out).size) HI.out HVv.out).mono ?_); rintro e wab ⟨rfl, b_⟩; rw [← HBE_.out]; have SSab := Lib.hid (ss2 b_ hda SSa.out); have HBab := Lib.hid (below_step HBa.out (Nat.le_of_lt hda) b_); have zz_ := b_.size; have hdab := Nat.lt_of_lt_of_le hda zz_; clear b_; (try go_wp2_with fail)
      refine hK.out _ _ (SSab.out) (fun hHeld => ?_)
      clear hK K
      ((try simp only [Act.put]); (try simp only [List.setIfInBounds_toArray]); (try simp only [List.set_cons_succ]); (try simp only [List.set_cons_zero]))
      (refine wpAnyH_take (i := 6) (oi := _) (v := ?_) rfl (by kernel_rfl) (by kernel_rfl) (by kernel_rfl) (fun _ _ _ h => h) (Or.inl ⟨by rfl, ?_⟩) (by assumption) ?_; rotate_left; (focus (intro w' hSw; (try dsimp only at hSw); first | (go_simp; done) | (go_simp; with_reducible rfl)))); ((try simp only [Act.put]); (try simp only [List.setIfInBounds_toArray]); (try simp only [List.set_cons_succ]); (try simp only [List.set_cons_zero]))
      (refine wpAnyH_take (i := 7) (oi := _) (v := ?_) rfl (by kernel_rfl) (by kernel_rfl) (by kernel_rfl) (fun _ _ _ h => h) (Or.inl ⟨by rfl, ?_⟩) (by assumption) ?_; rotate_left; (focus (intro w' hSw; (try dsimp only at hSw); first | (go_simp; done) | (go_simp; with_reducible rfl)))); ((try simp only [Act.put]); (try simp only [List.setIfInBounds_toArray]); (try simp only [List.set_cons_succ]); (try simp only [List.set_cons_zero]))
      (refine wpAnyH_take (i := 8) (oi := _) (v := undef) rfl (by kernel_rfl) (by kernel_rfl) (by kernel_rfl) (fun _ _ _ h => h) (Or.inr ⟨by rfl, rfl⟩) (by assumption) ?_); ((try simp only [Act.put]); (try simp only [List.setIfInBounds_toArray]); (try simp only [List.set_cons_succ]); (try simp only [List.set_cons_zero]))
      (refine wpAnyH_take (i := 9) (oi := _) (v := undef) rfl (by kernel_rfl) (by kernel_rfl) (by kernel_rfl) (fun _ _ _ h => h) (Or.inr ⟨by rfl, rfl⟩) (by assumption) ?_); ((try simp only [Act.put]); (try simp only [List.setIfInBounds_toArray]); (try simp only [List.set_cons_succ]); (try simp only [List.set_cons_zero]))
      (refine wpAnyH_take (i := 10) (oi := _) (v := undef) rfl (by kernel_rfl) (by kernel_rfl) (by kernel_rfl) (fun _ _ _ h => h) (Or.inr ⟨by rfl, rfl⟩) (by assumption) ?_); ((try simp only [Act.put]); (try simp only [List.setIfInBounds_toArray]); (try simp only [List.set_cons_succ]); (try simp only [List.set_cons_zero]))
      (refine wpAnyH_take (i := 11) (oi := _) (v := undef) rfl (by kernel_rfl) (by kernel_rfl) (by kernel_rfl) (fun _ _ _ h => h) (Or.inr ⟨by rfl, rfl⟩) (by assumption) ?_); ((try simp only [Act.put]); (try simp only [List.setIfInBounds_toArray]); (try simp only [List.set_cons_succ]); (try simp only [List.set_cons_zero]))
      (refine wpAnyH_take (i := 12) (oi := _) (v := ?_) rfl (by kernel_rfl) (by kernel_rfl) (by kernel_rfl) (fun _ _ _ h => h) (Or.inl ⟨by rfl, ?_⟩) (by assumption) ?_; rotate_left; (focus (intro w' hSw; (try dsimp only at hSw); first | (go_simp; done) | (go_simp; with_reducible rfl)))); ((try simp only [Act.put]); (try simp only [List.setIfInBounds_toArray]); (try simp only [List.set_cons_succ]); (try simp only [List.set_cons_zero]))
      refine wpAnyH_done (by kernel_rfl) ?_ _
      refine NoPanic.normal ?_
      skip
  
      go_wp2
      go_ret2
      rw [HVC.out.1, HVC.out.2]
      exact ⟨none, 0, rfl, .inl rfl, HBab.out⟩
  · have HVC : Hid (vbV pS S u v = [] ∧ vbC pS S u v = rvC pS S [u, v]) := by
      have e : vbC pS S u v = rvC pS S [u, v] := by unfold vbC; rw [if_neg hz0]
      exact ⟨by unfold vbV; rw [if_neg (by rw [e]; exact hz0)], e⟩
    obtain ⟨C, hC⟩ : ∃ c, c = rvC pS S [u, v] := ⟨_, rfl⟩
    have hc1 : (C != 0) = true := by rw [hC]; simpa using hz0
    have HCE := Lib.hid hC
    clear hz0 hC
    go_enter Try.func6, Try.ntmps6
    go_upto_region 1 with fail
    obtain ⟨w1, hw1⟩ : ∃ z, z = w.alloc (.cells #[.int .i64 pS, .slice aS S.length cS] 26) := ⟨_, rfl⟩
    rw [← hw1] at HB0 k0 k1 ⊢
    have hd1 : w.heap.size < w1.heap.size := by rw [hw1]; simp
    have HB1 := HB0
    clear hw1
    have SS1 := Lib.hid (And.intro k0 k1)
    go_wp2_with (go_at_call 22; ((with_reducible refine (checkRV2 pS aS S cS loS tpS au u cu lou tpu av v cv lov tpv _ _ w1 _ rfl (HS.out.below HB1.out tS) (Nat.le_trans tS HB1.out.size) sS (Hu.out.below HB1.out tu) (Nat.le_trans tu HB1.out.size) su (Hv.out.below HB1.out tv) (Nat.le_trans tv HB1.out.size) sv).mono ?_); rintro e w2 ⟨rfl, b_⟩; rw [← HCE.out]; have b2_ := below_step (below_alloc w1 (.cells #[.slice au u.length cu, .slice av v.length cv] 24)) (size_alloc w1 (.cells #[.slice au u.length cu, .slice av v.length cv] 24)) b_; have SS2 := Lib.hid (ss2 b2_ hd1 SS1.out); have HB2 := Lib.hid (below_step HB1.out HB1.out.size b2_); have hd2 := Nat.lt_of_lt_of_le hd1 b2_.size; clear k0 k1; obtain ⟨k0, k1⟩ := SS2.out; clear b_ b2_))
    go_ret2
    rw [HVC.out.1, HVC.out.2, ← HCE.out]
    exact ⟨none, 0, rfl, .inl rfl, HB2.out⟩

end Go.Proofs.Ytgfanoejohpmkaa
