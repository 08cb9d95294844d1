/-
  Pseudoscalars, their squares, scalar products: contracts of the program and of the model.
  Conditions: the lists are nil or rows of known cells, of at most 1048576 numbers.
  DualOf, UndualOf, MeetOf: contracts of the program and of the model.
  Conditions: the lists are nil or rows of known cells, of at most 1048576 numbers.
  What square roots of numbers are, in the program and in the model: contracts of the method root and of the model's helper.
  Conditions: the prime is one, the number is a remainder by it.
-/
import Derived.Test.YtijklpcelbnnjaaGreatQk38
import Derived.Deep.RegionHeld3
import Derived.Deep.DeepCutAuto
import Derived.Test.YtijklpcelbnnjaaGreatQk37
import Derived.Test.YtijklpcelbnnjaaGreatQk30
import Derived.Test.YtijklpcelbnnjaaGreatQk6
import Derived.Test.YtijklpcelbnnjaaGreatQk17
import Derived.Test.YtijklpcelbnnjaaGreatQk1
import Derived.RegionTactic
import Derived.Laws.StructEq
import Derived.Outline
namespace Go.Proofs.YtijklpcelbnnjaaGreat
open Go.RowKit
set_option linter.unusedVariables false

set_option maxRecDepth 100000 in
set_option maxHeartbeats 1600000 in
theorem wholeMask_any (pS : Int) (aS : Option Addr) (S : List Int) (cS loS tpS : Nat) (w : World) (hs : isSp pS S = true) (hS : RowIn loS tpS w aS S) (tS : tpS ≤ w.heap.size) :
    Calls Tryz.prog 112 #[.agg #[.int .i64 pS, .slice aS S.length cS]] w (fun e w' => e = .returned (.int .i64 ((bl S - 1 : Nat) : Int)) ∧ Below w.heap.size w w') := by
  have HI := Lib.hid hs
  have HS := Lib.hid hS
  have h6 := (isSp_iff.1 hs).hi
  have hpb := prm_bd (isSp_iff.1 hs).prime
  have hbl := bl_le h6
  have hb0 := bl_pos S
  have HB0 := Lib.hid (below_alloc w (.cells #[.int .i64 pS, .slice aS S.length cS] 26))
  have k0 := nw0 w (.int .i64 pS) (.slice aS S.length cS) 26
  have k1 := nw1 w (.int .i64 pS) (.slice aS S.length cS) 26
  clear hs hS
  go_enter Tryz.func112, Tryz.ntmps112
  have e1 : IntKind.i64.wrap ((bl S : Int) - 1) = ((bl S - 1 : Nat) : Int) := by rw [IntWalk.i64_in _ (by omega)]; omega
  go_wp2_with (go_at_call 74; (with_reducible refine (blades_any pS aS S cS _ h6).mono ?_); rintro e w2 ⟨rfl, b2⟩; have B2 := Lib.hid b2; clear b2)
  go_ret
  exact ⟨rfl, below_step HB0.out (by simp) B2.out⟩

set_option maxRecDepth 100000 in
set_option maxHeartbeats 1600000 in
theorem l05Top_any (k : Int) (pS : Int) (aS : Option Addr) (S : List Int) (cS loS tpS : Nat) (w : World) (hs : isSp pS S = true) (hS : RowIn loS tpS w aS S) (tS : tpS ≤ w.heap.size) :
    Calls Tryz.prog 93 #[.agg #[.int .i64 pS, .slice aS S.length cS], .int .i64 k] w (NewRow (bl S) (topF S k) w) := by
  have HI := Lib.hid hs
  have HS := Lib.hid hS
  have h6 := (isSp_iff.1 hs).hi
  have hpb := prm_bd (isSp_iff.1 hs).prime
  have hbl := bl_le h6
  have hb0 := bl_pos S
  have HB0 := Lib.hid (below_alloc w (.cells #[.int .i64 pS, .slice aS S.length cS] 26))
  have k0 := nw0 w (.int .i64 pS) (.slice aS S.length cS) 26
  have k1 := nw1 w (.int .i64 pS) (.slice aS S.length cS) 26
  clear hs hS
  go_enter Tryz.func93, Tryz.ntmps93
  have e1 : IntKind.i64.wrap ((bl S : Int) - 1) = ((bl S - 1 : Nat) : Int) := by rw [IntWalk.i64_in _ (by omega)]; omega
  have e2 : ((bl S - 1 : Nat) : Int) < ((bl S : Nat) : Int) := by omega
  go_wp2_with (go_at_call 23; (with_reducible refine (l04Zero_any pS aS S cS _ h6).mono ?_); rintro e w2 ⟨b2, rfl, l2, u2, o2, q2⟩; have O2 := Lib.hid o2; have B2 := Lib.hid (below_step HB0.out (by simp) q2); have c0 := o2.cell (bl S - 1) (top_last S); have f0 := o2.free (bl S - 1) (top_last S); rw [Nat.zero_add] at c0 f0; have l2' := Nat.lt_of_lt_of_le (lt_alloc w (.cells #[.int .i64 pS, .slice aS S.length cS] 26)) l2; clear o2 q2)
  go_ret
  exact ⟨b2, rfl, Nat.le_of_lt l2', by simp [World.setCell]; exact u2, row_put0 (g := topF S k) O2.out (top_last S) (fun j _ => rfl), B2.out.trans ((wrote_put0 (Wrote.refl b2 0 (bl S) w2) (top_last S) _).belowB (Nat.le_of_lt l2'))⟩

theorem times_top (pS : Int) (aS : Option Addr) (S : List Int) (cS loS tpS b1 b2 lo : Nat) (W : World) (hs : isSp pS S = true) (hS : RowIn loS tpS W aS S) (tS : tpS ≤ W.heap.size) (h1 : RowIn lo W.heap.size W (some ⟨b1, 0, none⟩) (mkR (bl S) (topF S 1))) (h2 : RowIn lo W.heap.size W (some ⟨b2, 0, none⟩) (mkR (bl S) (topF S 1))) :
    Calls Tryz.prog 48 #[.agg #[.int .i64 pS, .slice aS S.length cS], .slice (some ⟨b1, 0, none⟩) (bl S) (bl S), .slice (some ⟨b2, 0, none⟩) (bl S) (bl S)] W (NewRow (bl S) (prodF pS S (topM S 1) (topM S 1)) W) := by
  have hp := prm_bd (isSp_iff.1 hs).prime
  have hm := top_mv hs (k := 1) (by omega) (by omega)
  have h := l04Times_any pS aS S cS loS tpS _ _ (bl S) _ _ _ _ (bl S) _ _ W (isSp_iff.1 hs).prime (isSp_iff.1 hs).hi hS tS (sp_nums hs) h1 (Nat.le_refl _) (topM_len S 1) (Mv.nums hm) h2 (Nat.le_refl _) (topM_len S 1) (Mv.nums hm)
  rw [mkR_len] at h
  exact h

set_option maxRecDepth 100000 in
set_option maxHeartbeats 1600000 in
theorem l05Square_any (pS : Int) (aS : Option Addr) (S : List Int) (cS loS tpS : Nat) (w : World) (hs : isSp pS S = true) (hS : RowIn loS tpS w aS S) (tS : tpS ≤ w.heap.size) :
    Calls Tryz.prog 62 #[.agg #[.int .i64 pS, .slice aS S.length cS]] w (fun e w' => e = .returned (.int .i64 (sqT pS S)) ∧ Below w.heap.size w w') := by
  have HI := Lib.hid hs
  have HS := Lib.hid hS
  have h6 := (isSp_iff.1 hs).hi
  have hpb := prm_bd (isSp_iff.1 hs).prime
  have hbl := bl_le h6
  have hb0 := bl_pos S
  have HB0 := Lib.hid (below_alloc w (.cells #[.int .i64 pS, .slice aS S.length cS] 26))
  have k0 := nw0 w (.int .i64 pS) (.slice aS S.length cS) 26
  have k1 := nw1 w (.int .i64 pS) (.slice aS S.length cS) 26
  clear hs hS
  have hi0 : (0 : Int) < ((bl S : Nat) : Int) := by omega
  go_enter Tryz.func62, Tryz.ntmps62
  go_upto_region 1 with fail
  obtain ⟨w1, hw1⟩ : ∃ z, z = w.alloc (.cells #[.int .i64 pS, .slice aS S.length cS] 26) := ⟨_, rfl⟩
  rw [← hw1] at HB0 k0 k1 ⊢
  have hw0 : w.heap.size < w1.heap.size := by rw [hw1]; simp
  clear hw1
  have hs1 : Hid (w1.drew.cell? ⟨w.heap.size, 0, none⟩ = some (.int .i64 pS) ∧ w1.drew.cell? ⟨w.heap.size, 1, none⟩ = some (.slice aS S.length cS)) := ⟨k0, k1⟩
  have HBD : Hid (Below w.heap.size w w1.drew) := HB0.out.drew
  have hd0 : w.heap.size < w1.drew.heap.size := hw0
  refine wp_region_noPanic ?_
  refine wp_region_held_drew (S := fun w' => w'.cell? ⟨w.heap.size, 0, none⟩ = some (.int .i64 pS) ∧ w'.cell? ⟨w.heap.size, 1, none⟩ = some (.slice aS S.length cS)) (by kernel_rfl) (hs1.out) (fun hHeld => ?_)
  (refine wpAnyH_take (i := 0) (oi := _) (v := ?_) rfl (by kernel_rfl) (by kernel_rfl) (by kernel_rfl) (fun _ _ _ h => h) (Or.inl ⟨by rfl, ?_⟩) (by assumption) ?_; rotate_left; (focus (intro w' hSw; (try dsimp only at hSw); first | (go_simp; done) | (go_simp; with_reducible rfl)))); ((try simp only [Act.put]); (try simp only [List.setIfInBounds_toArray]); (try simp only [List.set_cons_succ]); (try simp only [List.set_cons_zero]))
  (refine wpAnyH_take (i := 1) (oi := _) (v := ?_) rfl (by kernel_rfl) (by kernel_rfl) (by kernel_rfl) (fun _ _ _ h => h) (Or.inl ⟨by rfl, ?_⟩) (by assumption) ?_; rotate_left; (focus (intro w' hSw; (try dsimp only at hSw); first | (go_simp; done) | (go_simp; with_reducible rfl)))); ((try simp only [Act.put]); (try simp only [List.setIfInBounds_toArray]); (try simp only [List.set_cons_succ]); (try simp only [List.set_cons_zero]))
  (refine wpAnyH_take (i := 3) (oi := _) (v := ?_) rfl (by kernel_rfl) (by kernel_rfl) (by kernel_rfl) (fun _ _ _ h => h) (Or.inl ⟨by rfl, ?_⟩) (by assumption) ?_; rotate_left; (focus (intro w' hSw; (try dsimp only at hSw); first | (go_simp; done) | (go_simp; with_reducible rfl)))); ((try simp only [Act.put]); (try simp only [List.setIfInBounds_toArray]); (try simp only [List.set_cons_succ]); (try simp only [List.set_cons_zero]))
  refine wpAnyH_ready (rs := [2]) (by kernel_rfl) (by simp) ?_
  refine AllReadyH.cons (o := _) rfl (fun K hK => ?_) AllReadyH.nil
  go_simp; go_at_call 93; (with_reducible refine (l05Top_any 1 pS aS S cS loS tpS w1.drew HI.out (HS.out.below HBD.out tS) (Nat.le_trans tS (HBD.out).size)).mono ?_); rintro e wa ⟨ba, rfl, l_, u_, o_, b_⟩; have SSa := Lib.hid (ss2 b_ hd0 hs1.out); have HBa := Lib.hid (below_step HBD.out (Nat.le_of_lt hd0) b_); have zz_ := b_.size; have hda := Nat.lt_of_lt_of_le hd0 zz_; have la := Nat.lt_of_lt_of_le hd0 l_; have ua_a := u_; have Na_a := Lib.hid o_; have Ra_a := Lib.hid ((o_.own (Nat.le_of_lt la) u_).row); clear b_ o_; (try go_wp2_with fail)
  refine hK.out _ _ (SSa.out) (fun hHeld => ?_)
  clear hK K
  ((try simp only [Act.put]); (try simp only [List.setIfInBounds_toArray]); (try simp only [List.set_cons_succ]); (try simp only [List.set_cons_zero]))
  refine wpAnyH_ready (rs := [4]) (by kernel_rfl) (by simp) ?_
  refine AllReadyH.cons (o := _) rfl (fun K hK => ?_) AllReadyH.nil
  go_simp; go_at_call 93; (with_reducible refine (l05Top_any 1 pS aS S cS loS tpS wa HI.out (HS.out.below HBa.out tS) (Nat.le_trans tS (HBa.out).size)).mono ?_); rintro e wab ⟨bb, rfl, l_, u_, o_, b_⟩; have SSab := Lib.hid (ss2 b_ hda SSa.out); have HBab := Lib.hid (below_step HBa.out (Nat.le_of_lt hda) b_); have zz_ := b_.size; have hdab := Nat.lt_of_lt_of_le hda zz_; have Ra_ab := Lib.hid ((Ra_a.out.below b_ (Nat.le_refl _)).mono (Nat.le_refl _) zz_); have Na_ab := Lib.hid (Na_a.out.stay (b_.block ba ua_a)); have ua_ab := Nat.lt_of_lt_of_le ua_a zz_; have lb := Nat.lt_of_lt_of_le hda l_; have ub_ab := u_; have Nb_ab := Lib.hid o_; have Rb_ab := Lib.hid ((o_.own (Nat.le_of_lt lb) u_).row); clear b_ o_; (try go_wp2_with fail)
  refine hK.out _ _ (SSab.out) (fun hHeld => ?_)
  clear hK K
  ((try simp only [Act.put]); (try simp only [List.setIfInBounds_toArray]); (try simp only [List.set_cons_succ]); (try simp only [List.set_cons_zero]))
  refine wpAnyH_ready (rs := [5]) (by kernel_rfl) (by simp) ?_
  refine AllReadyH.cons (o := _) rfl (fun K hK => ?_) AllReadyH.nil
  go_simp; go_at_call 48; (with_reducible refine (times_top pS aS S cS loS tpS ba bb w.heap.size wab HI.out (HS.out.below HBab.out tS) (Nat.le_trans tS (HBab.out).size) Ra_ab.out Rb_ab.out).mono ?_); rintro e wabc ⟨bc, rfl, l_, u_, o_, b_⟩; have SSabc := Lib.hid (ss2 b_ hdab SSab.out); have HBabc := Lib.hid (below_step HBab.out (Nat.le_of_lt hdab) b_); have zz_ := b_.size; have hdabc := Nat.lt_of_lt_of_le hdab zz_; have Ra_abc := Lib.hid ((Ra_ab.out.below b_ (Nat.le_refl _)).mono (Nat.le_refl _) zz_); have Na_abc := Lib.hid (Na_ab.out.stay (b_.block ba ua_ab)); have ua_abc := Nat.lt_of_lt_of_le ua_ab zz_; have Rb_abc := Lib.hid ((Rb_ab.out.below b_ (Nat.le_refl _)).mono (Nat.le_refl _) zz_); have Nb_abc := Lib.hid (Nb_ab.out.stay (b_.block bb ub_ab)); have ub_abc := Nat.lt_of_lt_of_le ub_ab zz_; have lc := Nat.lt_of_lt_of_le hdab l_; have uc_abc := u_; have Nc_abc := Lib.hid o_; have Rc_abc := Lib.hid ((o_.own (Nat.le_of_lt lc) u_).row); have c0_ := o_.cell 0 hb0; rw [Nat.zero_add, sq_prod HI.out] at c0_; clear b_ o_; (try go_wp2_with fail)
  refine hK.out _ _ (SSabc.out) (fun hHeld => ?_)
  clear hK K
  ((try simp only [Act.put]); (try simp only [List.setIfInBounds_toArray]); (try simp only [List.set_cons_succ]); (try simp only [List.set_cons_zero]))
  (refine wpAnyH_take (i := 6) (oi := _) (v := ?_) rfl (by kernel_rfl) (by kernel_rfl) (by kernel_rfl) (fun _ _ _ h => h) (Or.inl ⟨by rfl, ?_⟩) (by assumption) ?_; rotate_left; (focus (intro w' hSw; (try dsimp only at hSw); first | (go_simp; done) | (go_simp; with_reducible rfl)))); ((try simp only [Act.put]); (try simp only [List.setIfInBounds_toArray]); (try simp only [List.set_cons_succ]); (try simp only [List.set_cons_zero]))
  refine wpAnyH_ready (rs := [7]) (by kernel_rfl) (by simp) ?_
  refine AllReadyH.cons (o := _) rfl (fun K hK => ?_) AllReadyH.nil
  go_simp
  refine hK.out _ _ (hHeld) (fun hHeld => ?_)
  clear hK K
  ((try simp only [Act.put]); (try simp only [List.setIfInBounds_toArray]); (try simp only [List.set_cons_succ]); (try simp only [List.set_cons_zero]))
  refine wpAnyH_ready (rs := [8]) (by kernel_rfl) (by simp) ?_
  refine AllReadyH.cons (o := _) rfl (fun K hK => ?_) AllReadyH.nil
  go_simp
  refine hK.out _ _ (hHeld) (fun hHeld => ?_)
  clear hK K
  ((try simp only [Act.put]); (try simp only [List.setIfInBounds_toArray]); (try simp only [List.set_cons_succ]); (try simp only [List.set_cons_zero]))
  refine wpAnyH_done (by kernel_rfl) ?_ _
  refine NoPanic.normal ?_
  go_wp2
  go_ret
  exact ⟨rfl, HBabc.out⟩

theorem live4 {B : Nat} {w w' : World} (h : Below B w w') {g : Nat} {u v : Value} (l : g < B) (k : w.cell? ⟨g, 0, none⟩ = some u ∧ w.cell? ⟨g, 1, none⟩ = some v ∧ w.frozen? ⟨g, 0, none⟩ = false ∧ w.frozen? ⟨g, 1, none⟩ = false) : w'.cell? ⟨g, 0, none⟩ = some u ∧ w'.cell? ⟨g, 1, none⟩ = some v ∧ w'.frozen? ⟨g, 0, none⟩ = false ∧ w'.frozen? ⟨g, 1, none⟩ = false :=
  ⟨(h.cell (p := ⟨g, 0, none⟩) l).trans k.1, (h.cell (p := ⟨g, 1, none⟩) l).trans k.2.1, (h.frozen (p := ⟨g, 0, none⟩) l).trans k.2.2.1, (h.frozen (p := ⟨g, 1, none⟩) l).trans k.2.2.2⟩
theorem ss2s {w : World} {b i j : Nat} {u v : Value} {g : Nat} {u0 u1 : Value} (l : g ≠ b) (h0 : w.cell? ⟨g, 0, none⟩ = some u0 ∧ w.cell? ⟨g, 1, none⟩ = some u1) : ((w.setCell ⟨b, i, none⟩ u).setCell ⟨b, j, none⟩ v).cell? ⟨g, 0, none⟩ = some u0 ∧ ((w.setCell ⟨b, i, none⟩ u).setCell ⟨b, j, none⟩ v).cell? ⟨g, 1, none⟩ = some u1 := by
  have e : ∀ (W : World) (i k : Nat) (v : Value), (W.setCell ⟨b, i, none⟩ v).cell? ⟨g, k, none⟩ = W.cell? ⟨g, k, none⟩ := fun W i k v => World.cell?_setCell_other W ⟨b, i, none⟩ ⟨g, k, none⟩ v (fun h => by injection h with h1; omega)
  rw [e, e, e, e]; exact h0

set_option maxRecDepth 100000 in
set_option maxHeartbeats 1600000 in
theorem pseudoscalarSquare_any (pS : Int) (aS : Option Addr) (S : List Int) (cS loS tpS : Nat) (w : World) (hs : isSp pS S = true) (hS : RowIn loS tpS w aS S) (tS : tpS ≤ w.heap.size) :
    Calls Tryz.prog 91 #[.agg #[.int .i64 pS, .slice aS S.length cS]] w (fun e w' => e = .returned (.agg #[.int .i64 pS, .int .i64 (sqT pS S)]) ∧ Below w.heap.size w w') := by
  have HI := Lib.hid hs
  have HS := Lib.hid hS
  have h6 := (isSp_iff.1 hs).hi
  have hpb := prm_bd (isSp_iff.1 hs).prime
  have hbl := bl_le h6
  have hb0 := bl_pos S
  have HB0 := Lib.hid (below_alloc w (.cells #[.int .i64 pS, .slice aS S.length cS] 26))
  have k0 := nw0 w (.int .i64 pS) (.slice aS S.length cS) 26
  have k1 := nw1 w (.int .i64 pS) (.slice aS S.length cS) 26
  clear hs hS
  have hi0 : ((bl S - 1 : Nat) : Int) < ((bl S : Nat) : Int) := by omega
  have hw64 : bl S - 1 < 64 := by omega
  go_enter Tryz.func91, Tryz.ntmps91
  go_upto_region 1 with fail
  obtain ⟨w0, hw0'⟩ : ∃ z, z = w.alloc (.cells #[.int .i64 pS, .slice aS S.length cS] 26) := ⟨_, rfl⟩
  rw [← hw0'] at HB0 k0 k1 ⊢
  have hw0 : w.heap.size < w0.heap.size := by rw [hw0']; simp
  have hwz : w.heap.size + 1 = w0.heap.size := by rw [hw0']; simp
  try rw [hwz]
  clear hw0'
  obtain ⟨w1, hw1⟩ : ∃ z, z = w0.alloc (.cells #[.int .i64 0, .int .i64 0] 108) := ⟨_, rfl⟩
  obtain ⟨g, hg⟩ : ∃ b, b = w0.heap.size := ⟨_, rfl⟩
  have hs0 := ss2a (.cells #[.int .i64 0, .int .i64 0] 108) hw0 ⟨k0, k1⟩
  have z0 : w1.cell? ⟨g, 0, none⟩ = some (.int .i64 0) := by rw [hw1, hg]; simp [go_sem]
  have z1 : w1.cell? ⟨g, 1, none⟩ = some (.int .i64 0) := by rw [hw1, hg]; simp [go_sem]
  have y0 : w1.frozen? ⟨g, 0, none⟩ = false := by rw [hw1, hg]; simp [go_sem]
  have y1 : w1.frozen? ⟨g, 1, none⟩ = false := by rw [hw1, hg]; simp [go_sem]
  have HB1 : Hid (Below w.heap.size w w1) := by show Below _ _ _; rw [hw1]; exact HB0.out.alloc HB0.out.size _
  have hg1 : g < w1.heap.size := by rw [hw1, hg]; simp
  have hwg : w.heap.size < g := by omega
  have hngw : w.heap.size ≠ g := by omega
  rw [← hw1] at hs0 ⊢
  rw [← hg]
  clear hw1 hwz hg
  have hs1 : Hid (w1.drew.cell? ⟨w.heap.size, 0, none⟩ = some (.int .i64 pS) ∧ w1.drew.cell? ⟨w.heap.size, 1, none⟩ = some (.slice aS S.length cS)) := hs0
  have HBD : Hid (Below w.heap.size w w1.drew) := HB1.out.drew
  have hd0 : w.heap.size < w1.drew.heap.size := Nat.lt_trans hwg hg1
  have gd : g < w1.drew.heap.size := hg1
  have zz0_ : Hid (w1.drew.cell? ⟨g, 0, none⟩ = some (.int .i64 0) ∧ w1.drew.cell? ⟨g, 1, none⟩ = some (.int .i64 0) ∧ w1.drew.frozen? ⟨g, 0, none⟩ = false ∧ w1.drew.frozen? ⟨g, 1, none⟩ = false) := ⟨z0, z1, y0, y1⟩
  clear z0 z1 y0 y1 k0 k1 hs0
  refine wp_region_noPanic ?_
  refine wp_region_held_drew (S := fun w' => w'.cell? ⟨w.heap.size, 0, none⟩ = some (.int .i64 pS) ∧ w'.cell? ⟨w.heap.size, 1, none⟩ = some (.slice aS S.length cS)) (by kernel_rfl) (hs1.out) (fun hHeld => ?_)
  (refine wpAnyH_take (i := 0) (oi := _) (v := ?_) rfl (by kernel_rfl) (by kernel_rfl) (by kernel_rfl) (fun _ _ _ h => h) (Or.inl ⟨by rfl, ?_⟩) (by assumption) ?_; rotate_left; (focus (intro w' hSw; (try dsimp only at hSw); first | (go_simp; done) | (go_simp; with_reducible rfl)))); ((try simp only [Act.put]); (try simp only [List.setIfInBounds_toArray]); (try simp only [List.set_cons_succ]); (try simp only [List.set_cons_zero]))
  (refine wpAnyH_take (i := 1) (oi := _) (v := ?_) rfl (by kernel_rfl) (by kernel_rfl) (by kernel_rfl) (fun _ _ _ h => h) (Or.inl ⟨by rfl, ?_⟩) (by assumption) ?_; rotate_left; (focus (intro w' hSw; (try dsimp only at hSw); first | (go_simp; done) | (go_simp; with_reducible rfl)))); ((try simp only [Act.put]); (try simp only [List.setIfInBounds_toArray]); (try simp only [List.set_cons_succ]); (try simp only [List.set_cons_zero]))
  (refine wpAnyH_take (i := 2) (oi := _) (v := ?_) rfl (by kernel_rfl) (by kernel_rfl) (by kernel_rfl) (fun _ _ _ h => h) (Or.inl ⟨by rfl, ?_⟩) (by assumption) ?_; rotate_left; (focus (intro w' hSw; (try dsimp only at hSw); first | (go_simp; done) | (go_simp; with_reducible rfl)))); ((try simp only [Act.put]); (try simp only [List.setIfInBounds_toArray]); (try simp only [List.set_cons_succ]); (try simp only [List.set_cons_zero]))
  (refine wpAnyH_take (i := 3) (oi := _) (v := ?_) rfl (by kernel_rfl) (by kernel_rfl) (by kernel_rfl) (fun _ _ _ h => h) (Or.inl ⟨by rfl, ?_⟩) (by assumption) ?_; rotate_left; (focus (intro w' hSw; (try dsimp only at hSw); first | (go_simp; done) | (go_simp; with_reducible rfl)))); ((try simp only [Act.put]); (try simp only [List.setIfInBounds_toArray]); (try simp only [List.set_cons_succ]); (try simp only [List.set_cons_zero]))
  (refine wpAnyH_take (i := 6) (oi := _) (v := ?_) rfl (by kernel_rfl) (by kernel_rfl) (by kernel_rfl) (fun _ _ _ h => h) (Or.inl ⟨by rfl, ?_⟩) (by assumption) ?_; rotate_left; (focus (intro w' hSw; (try dsimp only at hSw); first | (go_simp; done) | (go_simp; with_reducible rfl)))); ((try simp only [Act.put]); (try simp only [List.setIfInBounds_toArray]); (try simp only [List.set_cons_succ]); (try simp only [List.set_cons_zero]))
  refine wpAnyH_ready (rs := [4]) (by kernel_rfl) (by simp) ?_
  refine AllReadyH.cons (o := _) rfl (fun K hK => ?_) AllReadyH.nil
  go_simp; go_at_call 112; (with_reducible refine (wholeMask_any pS aS S cS loS tpS w1.drew HI.out (HS.out.below HBD.out tS) (Nat.le_trans tS (HBD.out).size)).mono ?_); rintro e wa ⟨rfl, b_⟩; have SSa := Lib.hid (ss2 b_ hd0 hs1.out); have HBa := Lib.hid (below_step HBD.out (Nat.le_of_lt hd0) b_); have zz_ := b_.size; have hda := Nat.lt_of_lt_of_le hd0 zz_; have zz_a := Lib.hid (live4 b_ gd zz0_.out); have gd_a := Nat.lt_of_lt_of_le gd zz_; obtain ⟨z0_, z1_, y0_, y1_⟩ := zz_a.out; clear b_; (try go_wp2_with fail)
  refine hK.out _ _ (SSa.out) (fun hHeld => ?_)
  clear hK K
  ((try simp only [Act.put]); (try simp only [List.setIfInBounds_toArray]); (try simp only [List.set_cons_succ]); (try simp only [List.set_cons_zero]))
  refine wpAnyH_ready (rs := [5]) (by kernel_rfl) (by simp) ?_
  refine AllReadyH.cons (o := _) rfl (fun K hK => ?_) AllReadyH.nil
  go_simp; go_at_call 88; (with_reducible refine (factorsBehind_any pS aS S cS loS tpS (bl S - 1) wa (isSp_iff.1 HI.out).prime h6 (HS.out.below HBa.out tS) (Nat.le_trans tS (HBa.out).size) (sp_nums HI.out) hw64).mono ?_); rintro e wab ⟨bb, rfl, l_, u_, o_, b_⟩; have SSab := Lib.hid (ss2 b_ hda SSa.out); have HBab := Lib.hid (below_step HBa.out (Nat.le_of_lt hda) b_); have zz_ := b_.size; have hdab := Nat.lt_of_lt_of_le hda zz_; have lb := Nat.lt_of_lt_of_le hda l_; have ub_ab := u_; have Nb_ab := Lib.hid o_; have Rb_ab := Lib.hid ((o_.own (Nat.le_of_lt lb) u_).row); have zz_ab := Lib.hid (live4 b_ gd_a zz_a.out); have gd_ab := Nat.lt_of_lt_of_le gd_a zz_; obtain ⟨z0_, z1_, y0_, y1_⟩ := zz_ab.out; have c0_ := Nb_ab.out.cell (bl S - 1) (top_last S); rw [Nat.zero_add] at c0_; clear b_ o_; (try go_wp2_with fail)
  refine hK.out _ _ (SSab.out) (fun hHeld => ?_)
  clear hK K
  ((try simp only [Act.put]); (try simp only [List.setIfInBounds_toArray]); (try simp only [List.set_cons_succ]); (try simp only [List.set_cons_zero]))
  refine wpAnyH_ready (rs := [7]) (by kernel_rfl) (by simp) ?_
  refine AllReadyH.cons (o := _) rfl (fun K hK => ?_) AllReadyH.nil
  go_simp; go_at_call 112; (with_reducible refine (wholeMask_any pS aS S cS loS tpS wab HI.out (HS.out.below HBab.out tS) (Nat.le_trans tS (HBab.out).size)).mono ?_); rintro e wabc ⟨rfl, b_⟩; have SSabc := Lib.hid (ss2 b_ hdab SSab.out); have HBabc := Lib.hid (below_step HBab.out (Nat.le_of_lt hdab) b_); have zz_ := b_.size; have hdabc := Nat.lt_of_lt_of_le hdab zz_; have Rb_abc := Lib.hid ((Rb_ab.out.below b_ (Nat.le_refl _)).mono (Nat.le_refl _) zz_); have Nb_abc := Lib.hid (Nb_ab.out.stay (b_.block bb ub_ab)); have ub_abc := Nat.lt_of_lt_of_le ub_ab zz_; have zz_abc := Lib.hid (live4 b_ gd_ab zz_ab.out); have gd_abc := Nat.lt_of_lt_of_le gd_ab zz_; obtain ⟨z0_, z1_, y0_, y1_⟩ := zz_abc.out; have c0_ := Nb_abc.out.cell (bl S - 1) (top_last S); rw [Nat.zero_add] at c0_; clear b_; (try go_wp2_with fail)
  refine hK.out _ _ (SSabc.out) (fun hHeld => ?_)
  clear hK K
  ((try simp only [Act.put]); (try simp only [List.setIfInBounds_toArray]); (try simp only [List.set_cons_succ]); (try simp only [List.set_cons_zero]))
  (refine wpAnyH_take (i := 8) (oi := _) (v := ?_) rfl (by kernel_rfl) (by kernel_rfl) (by kernel_rfl) (fun _ _ _ h => h) (Or.inl ⟨by rfl, ?_⟩) (by assumption) ?_; rotate_left; (focus (intro w' hSw; (try dsimp only at hSw); first | (go_simp; done) | (go_simp; with_reducible rfl)))); ((try simp only [Act.put]); (try simp only [List.setIfInBounds_toArray]); (try simp only [List.set_cons_succ]); (try simp only [List.set_cons_zero]))
  refine wpAnyH_ready (rs := [9]) (by kernel_rfl) (by simp) ?_
  refine AllReadyH.cons (o := _) rfl (fun K hK => ?_) AllReadyH.nil
  go_simp
  refine hK.out _ _ (hHeld) (fun hHeld => ?_)
  clear hK K
  ((try simp only [Act.put]); (try simp only [List.setIfInBounds_toArray]); (try simp only [List.set_cons_succ]); (try simp only [List.set_cons_zero]))
  (refine wpAnyH_take (i := 10) (oi := _) (v := ?_) rfl (by kernel_rfl) (by kernel_rfl) (by kernel_rfl) (fun _ _ _ h => h) (Or.inl ⟨by rfl, ?_⟩) (by assumption) ?_; rotate_left; (focus (intro w' hSw; (try dsimp only at hSw); first | (go_simp; done) | (go_simp; with_reducible rfl)))); ((try simp only [Act.put]); (try simp only [List.setIfInBounds_toArray]); (try simp only [List.set_cons_succ]); (try simp only [List.set_cons_zero]))
  refine wpAnyH_ready (rs := [11]) (by kernel_rfl) (by simp) ?_
  refine AllReadyH.cons (o := _) rfl (fun K hK => ?_) AllReadyH.nil
  go_simp
  refine hK.out _ _ (ss2s hngw SSabc.out) (fun hHeld => ?_)
  clear hK K
  ((try simp only [Act.put]); (try simp only [List.setIfInBounds_toArray]); (try simp only [List.set_cons_succ]); (try simp only [List.set_cons_zero]))
  refine wpAnyH_done (by kernel_rfl) ?_ _
  refine NoPanic.normal ?_
  go_wp2
  refine bodyPost_ret (v := .agg #[.int .i64 pS, .int .i64 (sqT pS S)]) (by simp [results, Tryz.results91, go_sem, sqT, z0_, z1_]) rfl ⟨rfl, ?_⟩
  exact (HBabc.out.setCell (Nat.le_of_lt hwg) _).setCell (Nat.le_of_lt hwg) _

end Go.Proofs.YtijklpcelbnnjaaGreat

namespace Go.Proofs.YtijklpcelbnnjaaGreat
open Go.RowKit
set_option linter.unusedVariables false

/-- What the method root hands back: the prime and the value of the root (0 and 0 if there is none), and whether there is one. -/
def rtP (p a : Int) : Int := if rt p a < 0 then 0 else p
def rtV (p a : Int) : Int := if rt p a < 0 then 0 else rt p a
def rtB (p a : Int) : Bool := decide (0 ≤ rt p a)
theorem rt_yes {p a : Int} (h : 0 ≤ rt p a) : rtP p a = p ∧ rtV p a = rt p a ∧ rtB p a = true := by
  have h1 : ¬ rt p a < 0 := by omega
  simp [rtP, rtV, rtB, h, h1]
theorem rt_no {p a : Int} (h : rt p a < 0) : rtP p a = 0 ∧ rtV p a = 0 ∧ rtB p a = false := by
  have h1 : ¬ 0 ≤ rt p a := by omega
  simp [rtP, rtV, rtB, h]

set_option maxHeartbeats 1600000 in
theorem root_any (p a : Int) (w : World) (hp : prm p = true) (a0 : 0 ≤ a) (a1 : a < p) :
    Calls Tryz.prog 92 #[.agg #[.int .i64 p, .int .i64 a]] w fun e w' => e = .returned (.tuple #[.agg #[.int .i64 (rtP p a), .int .i64 (rtV p a)], .bool (rtB p a)]) ∧ Below w.heap.size w w' := by
  have hb := prm_bd hp
  obtain ⟨v0, v1⟩ := rtEnd_bd hp a0 a1
  have HP := Lib.hid hp
  clear hp
  go_enter Tryz.func92, Tryz.ntmps92
  go_wp2
  go_loopw [8] (fun t wr => ∃ r : Int, 0 ≤ r ∧ r ≤ rtEnd p a ∧ t = .int .i64 r ∧ NumAt wr w.heap.size p a ∧ NumAt wr (w.heap.size + 1) 0 0 ∧ Below w.heap.size w wr ∧ w.heap.size + 2 ≤ wr.heap.size) (fun t _ => (rtEnd p a - intOf t).toNat)
  case atStart => exact ⟨0, by omega, by omega, rfl, (numAt_new w p a _).alloc (by simp) _, numAt_new1 w _ 0 0 _, by ((repeat' (first | with_reducible exact Below.refl _ _ | (with_reducible refine Below.setCell ?_ ?_ _) | (with_reducible refine Below.alloc ?_ ?_ _) | (with_reducible refine Below.drew ?_))); all_goals (first | (simp; done) | omega | (simp; omega))), by simp⟩
  case round =>
    obtain ⟨r, r0, r1, rfl, n0, n1, hbel, hz⟩ := hrel
    by_cases hlt : r < p
    · obtain ⟨q0, q1⟩ := mod_bd HP.out (r * r)
      have hi := rt_iff HP.out a0 a1 r0 hlt r1
      have N0 := Lib.hid n0
      have z0 : w.heap.size < wr.heap.size := by omega
      have z1 : w.heap.size + 1 < wr.heap.size := by omega
      obtain ⟨g00, g01, k00, k01⟩ := n0
      by_cases hq : r = rt p a
      · have ht := hi.2 hq
        have HR : Hid (rtP p a = p ∧ rtV p a = r ∧ rtB p a = true) := by
          obtain ⟨h1, h2, h3⟩ := rt_yes (p := p) (a := a) (by omega)
          exact ⟨h1, h2.trans hq.symm, h3⟩
        clear hi hq
        go_wp2
        go_region_with (go_at_call 113; refine (times_any p r r _ HP.out r0 hlt r0 hlt).mono ?_; rintro e w1 ⟨rfl, hb1⟩; obtain ⟨e0, e1, h0, h1⟩ := (N0.out.alloc (by omega) _).drew.keep hb1 (by simp; omega); obtain ⟨x0, x1, y0, y1⟩ := (numAt_new wr p r _).drew.keep hb1 (by simp); obtain ⟨s0, s1, t0, t1⟩ := (n1.alloc (by omega) _).drew.keep hb1 (by simp; omega))
        all_goals
          go_wp2
          refine bodyPost_ret (v := .tuple #[.agg #[.int .i64 p, .int .i64 r], .bool true]) (by simp [results, Tryz.results92, go_sem, s0, s1]) rfl ⟨by rw [HR.out.1, HR.out.2.1, HR.out.2.2], ?_⟩
          (have hs_hb1 := hb1.size; have hs_hbel := hbel.size; (repeat' (first | with_reducible exact Below.refl _ _ | (with_reducible refine Below.setCell ?_ ?_ _) | (with_reducible refine Below.alloc ?_ ?_ _) | (with_reducible refine Below.drew ?_) | (with_reducible refine below_step ?_ ?_ hb1) | (with_reducible refine below_step ?_ ?_ hbel))); all_goals (first | (simp; done) | omega | (simp; omega) | (simp at hs_hb1 hs_hbel ⊢; omega)))
      · have ht : ¬ r * r % p = a := fun h => hq (hi.1 h)
        have hr1 : r + 1 ≤ rtEnd p a := by
          have h1 := rt_bd HP.out a0 a1
          unfold rtEnd at r1 v0 v1 ⊢
          split at r1 <;> omega
        clear hi
        have N1 := Lib.hid n1
        clear n1
        go_wp2
        go_region_with (go_at_call 113; refine (times_any p r r _ HP.out r0 hlt r0 hlt).mono ?_; rintro e w1 ⟨rfl, hb1⟩; obtain ⟨e0, e1, h0, h1⟩ := (N0.out.alloc (by omega) _).drew.keep hb1 (by simp; omega); obtain ⟨x0, x1, y0, y1⟩ := (numAt_new wr p r _).drew.keep hb1 (by simp); obtain ⟨s0, s1, t0, t1⟩ := (N1.out.alloc (by omega) _).drew.keep hb1 (by simp; omega))
        all_goals
          go_wp2
          go_roundw
          case rel =>
            have hs1 := hb1.size
            simp at hs1
            exact ⟨r + 1, by omega, by omega, rfl, ⟨e0, e1, h0, h1⟩, ⟨s0, s1, t0, t1⟩, by (have hs_hb1 := hb1.size; have hs_hbel := hbel.size; (repeat' (first | with_reducible exact Below.refl _ _ | (with_reducible refine Below.setCell ?_ ?_ _) | (with_reducible refine Below.alloc ?_ ?_ _) | (with_reducible refine Below.drew ?_) | (with_reducible refine below_step ?_ ?_ hb1) | (with_reducible refine below_step ?_ ?_ hbel))); all_goals (first | (simp; done) | omega | (simp; omega) | (simp at hs_hb1 hs_hbel ⊢; omega))), by omega⟩
          case measure => simp [intOf]; omega
    · have HR : Hid (rtP p a = 0 ∧ rtV p a = 0 ∧ rtB p a = false) := by
        refine rt_no (p := p) (a := a) ?_
        have h1 := rt_bd HP.out a0 a1
        unfold rtEnd at r1
        split at r1 <;> omega
      obtain ⟨s0, s1, t0, t1⟩ := n1
      go_wp2
      refine bodyPost_ret (v := .tuple #[.agg #[.int .i64 0, .int .i64 0], .bool false]) (by simp [results, Tryz.results92, go_sem, s0, s1]) rfl ⟨by rw [HR.out.1, HR.out.2.1, HR.out.2.2], ?_⟩
      (have hs_hbel := hbel.size; (repeat' (first | with_reducible exact Below.refl _ _ | (with_reducible refine Below.setCell ?_ ?_ _) | (with_reducible refine Below.alloc ?_ ?_ _) | (with_reducible refine Below.drew ?_) | (with_reducible refine below_step ?_ ?_ hbel))); all_goals (first | (simp; done) | omega | (simp; omega) | (simp at hs_hbel ⊢; omega)))

end Go.Proofs.YtijklpcelbnnjaaGreat
