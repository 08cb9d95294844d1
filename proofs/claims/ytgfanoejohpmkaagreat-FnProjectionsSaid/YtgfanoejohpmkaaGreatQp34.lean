/-
  Contracts and facts that the walk of the law rests on.
  Conditions: those that each theorem names.
-/
import Derived.Test.YtgfanoejohpmkaaGreatQp33
import Derived.Test.YtgfanoejohpmkaaGreatQp22
import Derived.Deep.RegionHeld3
import Derived.Deep.DeepCutAuto
import Derived.Test.YtgfanoejohpmkaaGreatQp32
import Derived.Test.YtgfanoejohpmkaaGreatQp27
namespace Go.Proofs.YtgfanoejohpmkaaGreat
open Go.RowKit
set_option linter.unusedVariables false
theorem live4b {B : Nat} {w w' : World} (h : Below B w w') {g : Nat} {u v : Value} (l : g < B) (k : w.cell? ⟨g, 0, none⟩ = some u ∧ w.cell? ⟨g, 1, none⟩ = some v ∧ w.frozen? ⟨g, 0, none⟩ = false ∧ w.frozen? ⟨g, 1, none⟩ = false) : w'.cell? ⟨g, 0, none⟩ = some u ∧ w'.cell? ⟨g, 1, none⟩ = some v ∧ w'.frozen? ⟨g, 0, none⟩ = false ∧ w'.frozen? ⟨g, 1, none⟩ = false :=
 ⟨(h.cell (p := ⟨g, 0, none⟩) l).trans k.1, (h.cell (p := ⟨g, 1, none⟩) l).trans k.2.1, (h.frozen (p := ⟨g, 0, none⟩) l).trans k.2.2.1, (h.frozen (p := ⟨g, 1, none⟩) l).trans k.2.2.2⟩
set_option maxRecDepth 100000 in
set_option maxHeartbeats 3200000 in
theorem squareX_any (pS : Int) (aS : Option Addr) (S : List Int) (cS loS tpS : Nat) (ax : Option Addr) (x : List Int) (cx lox tpx : Nat) (w : World) (hs : isSp pS S = true) (hS : RowIn loS tpS w aS S) (tS : tpS ≤ w.heap.size) (hx : RowIn lox tpx w ax x) (tx : tpx ≤ w.heap.size) (mx : isMv pS S x = true) :
 Calls Tryz.prog 136 #[.agg #[.int .i64 pS, .slice aS S.length cS, .slice ax x.length cx]] w (fun e w' => e = .returned (.agg #[.int .i64 pS, .int .i64 (prodF pS S x x 0)]) ∧ Below w.heap.size w w') := by
 have HI := Lib.hid hs
 have HS := Lib.hid hS
 have Hx := Lib.hid hx
 have HMx := Lib.hid mx
 have h6 := (isSp_iff.1 hs).hi
 have hpb := prm_bd (isSp_iff.1 hs).prime
 have hbl := bl_le h6
 have hb0 := bl_pos S
 have HB0 := Lib.hid (below_alloc w (.cells #[.int .i64 pS, .slice aS S.length cS, .slice ax x.length cx] 82))
 have k0 := BoxX.new w pS aS S.length cS ax x.length cx 82
 have hi0 : (0 : Int) < ((bl S : Nat) : Int) := by omega
 clear hs hS hx mx
 go_enter Tryz.func136, Tryz.ntmps136
 go_upto_region 1 with fail
 obtain ⟨w0, hw0'⟩ : ∃ z, z = w.alloc (.cells #[.int .i64 pS, .slice aS S.length cS, .slice ax x.length cx] 82) := ⟨_, rfl⟩
 rw [← hw0'] at HB0 k0 ⊢
 have hw0 : w.heap.size < w0.heap.size := by rw [hw0']; simp
 have hwz : w.heap.size + 1 = w0.heap.size := by rw [hw0']; simp
 try rw [hwz]
 clear hw0'
 obtain ⟨w1, hw1⟩ : ∃ z, z = w0.alloc (.cells #[.int .i64 0, .int .i64 0] 84) := ⟨_, rfl⟩
 obtain ⟨g, hg⟩ : ∃ b, b = w0.heap.size := ⟨_, rfl⟩
 have hs0 : BoxX w.heap.size pS aS S.length cS ax x.length cx w1 := by rw [hw1]; exact k0.below (below_alloc w0 _) hw0
 have z0 : w1.cell? ⟨g, 0, none⟩ = some (.int .i64 0) := by rw [hw1, hg]; simp [go_sem]
 have z1 : w1.cell? ⟨g, 1, none⟩ = some (.int .i64 0) := by rw [hw1, hg]; simp [go_sem]
 have y0 : w1.frozen? ⟨g, 0, none⟩ = false := by rw [hw1, hg]; simp [go_sem]
 have y1 : w1.frozen? ⟨g, 1, none⟩ = false := by rw [hw1, hg]; simp [go_sem]
 have HB1 : Hid (Below w.heap.size w w1) := by show Below _ _ _; rw [hw1]; exact HB0.out.alloc HB0.out.size _
 have hg1 : g < w1.heap.size := by rw [hw1, hg]; simp
 have hwg : w.heap.size < g := by omega
 have hngw : w.heap.size ≠ g := by omega
 rw [← hw1]
 rw [← hg]
 clear hw1 hwz hg
 have hs1 : Hid (BoxX w.heap.size pS aS S.length cS ax x.length cx w1.drew) := hs0
 have HBD : Hid (Below w.heap.size w w1.drew) := HB1.out.drew
 have hd0 : w.heap.size < w1.drew.heap.size := Nat.lt_trans hwg hg1
 have gd : g < w1.drew.heap.size := hg1
 have zz0_ : Hid (w1.drew.cell? ⟨g, 0, none⟩ = some (.int .i64 0) ∧ w1.drew.cell? ⟨g, 1, none⟩ = some (.int .i64 0) ∧ w1.drew.frozen? ⟨g, 0, none⟩ = false ∧ w1.drew.frozen? ⟨g, 1, none⟩ = false) := ⟨z0, z1, y0, y1⟩
 clear z0 z1 y0 y1 k0 hs0
 refine wp_region_noPanic ?_
 refine wp_region_held_drew (S := fun w' => w'.cell? ⟨w.heap.size, 0, none⟩ = some (.int .i64 pS) ∧ w'.cell? ⟨w.heap.size, 1, none⟩ = some (.slice aS S.length cS) ∧ w'.cell? ⟨w.heap.size, 2, none⟩ = some (.slice ax x.length cx)) (by kernel_rfl) (hs1.out) (fun hHeld => ?_)
 (refine wpAnyH_take (i := 0) (oi := _) (v := ?_) rfl (by kernel_rfl) (by kernel_rfl) (by kernel_rfl) (fun _ _ _ h => h) (Or.inl ⟨by rfl, ?_⟩) (by assumption) ?_; rotate_left; (focus (intro w' hSw; (try dsimp only at hSw); first | (go_simp; done) | (go_simp; with_reducible rfl)))); ((try simp only [Act.put]); (try simp only [List.setIfInBounds_toArray]); (try simp only [List.set_cons_succ]); (try simp only [List.set_cons_zero]))
 (refine wpAnyH_take (i := 1) (oi := _) (v := ?_) rfl (by kernel_rfl) (by kernel_rfl) (by kernel_rfl) (fun _ _ _ h => h) (Or.inl ⟨by rfl, ?_⟩) (by assumption) ?_; rotate_left; (focus (intro w' hSw; (try dsimp only at hSw); first | (go_simp; done) | (go_simp; with_reducible rfl)))); ((try simp only [Act.put]); (try simp only [List.setIfInBounds_toArray]); (try simp only [List.set_cons_succ]); (try simp only [List.set_cons_zero]))
 (refine wpAnyH_take (i := 2) (oi := _) (v := ?_) rfl (by kernel_rfl) (by kernel_rfl) (by kernel_rfl) (fun _ _ _ h => h) (Or.inl ⟨by rfl, ?_⟩) (by assumption) ?_; rotate_left; (focus (intro w' hSw; (try dsimp only at hSw); first | (go_simp; done) | (go_simp; with_reducible rfl)))); ((try simp only [Act.put]); (try simp only [List.setIfInBounds_toArray]); (try simp only [List.set_cons_succ]); (try simp only [List.set_cons_zero]))
 (refine wpAnyH_take (i := 3) (oi := _) (v := ?_) rfl (by kernel_rfl) (by kernel_rfl) (by kernel_rfl) (fun _ _ _ h => h) (Or.inl ⟨by rfl, ?_⟩) (by assumption) ?_; rotate_left; (focus (intro w' hSw; (try dsimp only at hSw); first | (go_simp; done) | (go_simp; with_reducible rfl)))); ((try simp only [Act.put]); (try simp only [List.setIfInBounds_toArray]); (try simp only [List.set_cons_succ]); (try simp only [List.set_cons_zero]))
 (refine wpAnyH_take (i := 4) (oi := _) (v := ?_) rfl (by kernel_rfl) (by kernel_rfl) (by kernel_rfl) (fun _ _ _ h => h) (Or.inl ⟨by rfl, ?_⟩) (by assumption) ?_; rotate_left; (focus (intro w' hSw; (try dsimp only at hSw); first | (go_simp; done) | (go_simp; with_reducible rfl)))); ((try simp only [Act.put]); (try simp only [List.setIfInBounds_toArray]); (try simp only [List.set_cons_succ]); (try simp only [List.set_cons_zero]))
 (refine wpAnyH_take (i := 5) (oi := _) (v := ?_) rfl (by kernel_rfl) (by kernel_rfl) (by kernel_rfl) (fun _ _ _ h => h) (Or.inl ⟨by rfl, ?_⟩) (by assumption) ?_; rotate_left; (focus (intro w' hSw; (try dsimp only at hSw); first | (go_simp; done) | (go_simp; with_reducible rfl)))); ((try simp only [Act.put]); (try simp only [List.setIfInBounds_toArray]); (try simp only [List.set_cons_succ]); (try simp only [List.set_cons_zero]))
 (refine wpAnyH_take (i := 6) (oi := _) (v := ?_) rfl (by kernel_rfl) (by kernel_rfl) (by kernel_rfl) (fun _ _ _ h => h) (Or.inl ⟨by rfl, ?_⟩) (by assumption) ?_; rotate_left; (focus (intro w' hSw; (try dsimp only at hSw); first | (go_simp; done) | (go_simp; with_reducible rfl)))); ((try simp only [Act.put]); (try simp only [List.setIfInBounds_toArray]); (try simp only [List.set_cons_succ]); (try simp only [List.set_cons_zero]))
 (refine wpAnyH_take (i := 7) (oi := _) (v := ?_) rfl (by kernel_rfl) (by kernel_rfl) (by kernel_rfl) (fun _ _ _ h => h) (Or.inl ⟨by rfl, ?_⟩) (by assumption) ?_; rotate_left; (focus (intro w' hSw; (try dsimp only at hSw); first | (go_simp; done) | (go_simp; with_reducible rfl)))); ((try simp only [Act.put]); (try simp only [List.setIfInBounds_toArray]); (try simp only [List.set_cons_succ]); (try simp only [List.set_cons_zero]))
 (refine wpAnyH_take (i := 8) (oi := _) (v := ?_) rfl (by kernel_rfl) (by kernel_rfl) (by kernel_rfl) (fun _ _ _ h => h) (Or.inl ⟨by rfl, ?_⟩) (by assumption) ?_; rotate_left; (focus (intro w' hSw; (try dsimp only at hSw); first | (go_simp; done) | (go_simp; with_reducible rfl)))); ((try simp only [Act.put]); (try simp only [List.setIfInBounds_toArray]); (try simp only [List.set_cons_succ]); (try simp only [List.set_cons_zero]))
 refine wpAnyH_ready (rs := [9]) (by kernel_rfl) (by simp) ?_
 refine AllReadyH.cons (o := _) rfl (fun K hK => ?_) AllReadyH.nil
 go_simp; go_at_call 184; (with_reducible refine (product_any pS aS S cS loS tpS ax x cx lox tpx ax x cx lox tpx w1.drew (isSp_iff.1 HI.out).prime h6 (HS.out.below HBD.out tS) (Nat.le_trans tS (HBD.out).size) (sp_nums HI.out) (Hx.out.below HBD.out tx) (Nat.le_trans tx (HBD.out).size) (Mv.len HMx.out) (Mv.nums HMx.out) (Hx.out.below HBD.out tx) (Nat.le_trans tx (HBD.out).size) (Mv.len HMx.out) (Mv.nums HMx.out)).mono ?_); rintro e wa ⟨ba, rfl, l_, u_, o_, b_⟩; have SSa := Lib.hid ((hs1.out).below b_ hd0); have HBa := Lib.hid (below_step HBD.out (Nat.le_of_lt hd0) b_); have zz_ := b_.size; have hda := Nat.lt_of_lt_of_le hd0 zz_; have la := Nat.lt_of_lt_of_le hd0 l_; have ua_a := u_; have Na_a := Lib.hid o_; have Ra_a := Lib.hid ((o_.own (Nat.le_of_lt la) u_).row); have zz_a := Lib.hid (live4b b_ gd zz0_.out); have gd_a := Nat.lt_of_lt_of_le gd zz_; obtain ⟨z0_, z1_, y0_, y1_⟩ := zz_a.out; have c0_ := Na_a.out.cell 0 hb0; rw [Nat.zero_add] at c0_; clear b_ o_; (try go_wp2_with fail)
 refine hK.out _ _ (SSa.out) (fun hHeld => ?_)
 clear hK K
 ((try simp only [Act.put]); (try simp only [List.setIfInBounds_toArray]); (try simp only [List.set_cons_succ]); (try simp only [List.set_cons_zero]))
 (refine wpAnyH_take (i := 10) (oi := _) (v := ?_) rfl (by kernel_rfl) (by kernel_rfl) (by kernel_rfl) (fun _ _ _ h => h) (Or.inl ⟨by rfl, ?_⟩) (by assumption) ?_; rotate_left; (focus (intro w' hSw; (try dsimp only at hSw); first | (go_simp; done) | (go_simp; with_reducible rfl)))); ((try simp only [Act.put]); (try simp only [List.setIfInBounds_toArray]); (try simp only [List.set_cons_succ]); (try simp only [List.set_cons_zero]))
 refine wpAnyH_ready (rs := [11]) (by kernel_rfl) (by simp) ?_
 refine AllReadyH.cons (o := _) rfl (fun K hK => ?_) AllReadyH.nil
 go_simp
 refine hK.out _ _ (hHeld) (fun hHeld => ?_)
 clear hK K
 ((try simp only [Act.put]); (try simp only [List.setIfInBounds_toArray]); (try simp only [List.set_cons_succ]); (try simp only [List.set_cons_zero]))
 (refine wpAnyH_take (i := 12) (oi := _) (v := ?_) rfl (by kernel_rfl) (by kernel_rfl) (by kernel_rfl) (fun _ _ _ h => h) (Or.inl ⟨by rfl, ?_⟩) (by assumption) ?_; rotate_left; (focus (intro w' hSw; (try dsimp only at hSw); first | (go_simp; done) | (go_simp; with_reducible rfl)))); ((try simp only [Act.put]); (try simp only [List.setIfInBounds_toArray]); (try simp only [List.set_cons_succ]); (try simp only [List.set_cons_zero]))
 refine wpAnyH_ready (rs := [13]) (by kernel_rfl) (by simp) ?_
 refine AllReadyH.cons (o := _) rfl (fun K hK => ?_) AllReadyH.nil
 go_simp
 refine hK.out _ _ ((SSa.out.put (o := 0) (v := .int .i64 pS) hngw).put (o := 1) (v := .int .i64 (prodF pS S x x 0)) hngw) (fun hHeld => ?_)
 clear hK K
 ((try simp only [Act.put]); (try simp only [List.setIfInBounds_toArray]); (try simp only [List.set_cons_succ]); (try simp only [List.set_cons_zero]))
 refine wpAnyH_done (by kernel_rfl) ?_ _
 refine NoPanic.normal ?_
 go_wp2
 refine bodyPost_ret (v := .agg #[.int .i64 pS, .int .i64 (prodF pS S x x 0)]) (by simp [results, Tryz.results136, go_sem, z0_, z1_]) rfl ⟨rfl, ?_⟩
 exact (HBa.out.setCell (Nat.le_of_lt hwg) _).setCell (Nat.le_of_lt hwg) _
theorem wedge_lvP (pS : Int) (aS : Option Addr) (S : List Int) (cS loS tpS : Nat) (ax : Option Addr) (x : List Int) (cx lox tpx b lo tp : Nat) (v : List Int) (W : World) (hs : isSp pS S = true) (hS : RowIn loS tpS W aS S) (tS : tpS ≤ W.heap.size) (hx : RowIn lox tpx W ax x) (tx : tpx ≤ W.heap.size) (mx : isMv pS S x = true) (h : RowIn lo tp W (some ⟨b, 0, none⟩) (mkR (bl S) (vecF v v.length))) (th : tp ≤ W.heap.size) (hv : isVec pS S.length v = true) :
 Calls Tryz.prog 168 #[.agg #[.int .i64 pS, .slice aS S.length cS], .slice (some ⟨b, 0, none⟩) (bl S) (bl S), .slice ax x.length cx] W (OwnE (wgM pS S (vecM S v) x) W) := by
 have q := wedge_own pS aS S cS loS tpS (some ⟨b, 0, none⟩) (mkR (bl S) (vecF v v.length)) (bl S) lo tp ax x cx lox tpx W hs hS tS h th (vec_mv' hs hv) hx tx mx
 rw [mkR_len] at q
 exact q
theorem max_below (a : Option Addr) (z : List Int) (ca lo tp : Nat) (w : World) (hz : RowIn lo tp w a z) (h0 : 0 < z.length) (hl : z.length ≤ 1048576) :
 Calls Tryz.prog 189 #[.slice a z.length ca] w fun e w' => e = .returned (.int .i64 (mxF z (z.length - 1))) ∧ Below w.heap.size w w' :=
 (max_any a z ca lo tp w hz h0 hl).mono fun _ _ ⟨h, e⟩ => ⟨h, e ▸ Below.refl _ _⟩
set_option maxRecDepth 100000 in
set_option maxHeartbeats 3200000 in
theorem annihilates_any (pS : Int) (aS : Option Addr) (S : List Int) (cS loS tpS : Nat) (ax : Option Addr) (x : List Int) (cx lox tpx : Nat) (av : Option Addr) (v : List Int) (cv lov tpv : Nat) (w : World) (hs : isSp pS S = true) (hS : RowIn loS tpS w aS S) (tS : tpS ≤ w.heap.size) (hx : RowIn lox tpx w ax x) (tx : tpx ≤ w.heap.size) (mx : isMv pS S x = true) (hv : RowIn lov tpv w av v) (tv : tpv ≤ w.heap.size) (mv : isVec pS S.length v = true) :
 Calls Tryz.prog 134 #[.agg #[.int .i64 pS, .slice aS S.length cS, .slice ax x.length cx], .slice av v.length cv] w (fun e w' => e = .returned (.bool (allZ (wgM pS S (vecM S v) x))) ∧ Below w.heap.size w w') := by
 have HI := Lib.hid hs
 have HS := Lib.hid hS
 have Hx := Lib.hid hx
 have HMx := Lib.hid mx
 have Hv := Lib.hid hv
 have h6 := (isSp_iff.1 hs).hi
 have hpb := prm_bd (isSp_iff.1 hs).prime
 have hbl := bl_le h6
 have hb0 := bl_pos S
 have HB0 := Lib.hid (below_alloc w (.cells #[.int .i64 pS, .slice aS S.length cS, .slice ax x.length cx] 82))
 have k0 := BoxX.new w pS aS S.length cS ax x.length cx 82
 have HVV := Lib.hid mv
 have HLV := Lib.hid (isVec_iff.1 mv).len
 have hw0l : 0 < (wgM pS S (vecM S v) x).length := by rw [wgM_len]; exact hb0
 have hwl : (wgM pS S (vecM S v) x).length ≤ 1048576 := by rw [wgM_len]; omega
 have HZZ : Hid ((mxF (wgM pS S (vecM S v) x) ((wgM pS S (vecM S v) x).length - 1) == 0) = allZ (wgM pS S (vecM S v) x)) := mx_zero hw0l fun j hj => (Mv.nums (kM_mv hs (vecM S v) x) j hj).1
 clear mv
 clear hs hS hx mx hv
 go_enter Tryz.func134, Tryz.ntmps134
 go_upto_region 1 with fail
 obtain ⟨w1, hw1⟩ : ∃ z, z = w.alloc (.cells #[.int .i64 pS, .slice aS S.length cS, .slice ax x.length cx] 82) := ⟨_, rfl⟩
 rw [← hw1] at HB0 k0 ⊢
 have hw0 : w.heap.size < w1.heap.size := by rw [hw1]; simp
 clear hw1
 have hs1 : Hid (BoxX w.heap.size pS aS S.length cS ax x.length cx w1.drew) := k0
 have HBD : Hid (Below w.heap.size w w1.drew) := HB0.out.drew
 have hd0 : w.heap.size < w1.drew.heap.size := hw0
 go_region_held3 (fun w' => w'.cell? ⟨w.heap.size, 0, none⟩ = some (.int .i64 pS) ∧ w'.cell? ⟨w.heap.size, 1, none⟩ = some (.slice aS S.length cS) ∧ w'.cell? ⟨w.heap.size, 2, none⟩ = some (.slice ax x.length cx)) (first | exact hs1.out | exact SSa.out | exact SSab.out | exact SSabc.out | go_keep) (first | (go_at_call 185; (with_reducible refine (vector_any pS aS S cS av v cv lov tpv w1.drew h6 HLV.out (Hv.out.below HBD.out tv) (Nat.le_trans tv (HBD.out).size)).mono ?_); rintro e wa ⟨ba, rfl, l_, u_, o_, b_⟩; have SSa := Lib.hid ((hs1.out).below b_ hd0); have HBa := Lib.hid (below_step HBD.out (Nat.le_of_lt hd0) b_); have zz_ := b_.size; have hda := Nat.lt_of_lt_of_le hd0 zz_; have la := Nat.lt_of_lt_of_le hd0 l_; have ua_a := u_; have Na_a := Lib.hid o_; have Ra_a := Lib.hid ((o_.own (Nat.le_of_lt la) u_).row); clear b_ o_) | (go_at_call 168; (with_reducible refine (wedge_lvP pS aS S cS loS tpS ax x cx lox tpx ba w.heap.size wa.heap.size v wa HI.out (HS.out.below HBa.out tS) (Nat.le_trans tS (HBa.out).size) (Hx.out.below HBa.out tx) (Nat.le_trans tx (HBa.out).size) HMx.out Ra_a.out (Nat.le_refl _) HVV.out).mono ?_); rintro e wab ⟨rb, kb, rfl, o_, b_⟩; have SSab := Lib.hid ((SSa.out).below b_ hda); have HBab := Lib.hid (below_step HBa.out (Nat.le_of_lt hda) b_); have zz_ := b_.size; have hdab := Nat.lt_of_lt_of_le hda zz_; have Ra_ab := Lib.hid ((Ra_a.out.below b_ (Nat.le_refl _)).mono (Nat.le_refl _) zz_); have Na_ab := Lib.hid (Na_a.out.stay (b_.block ba ua_a)); have ua_ab := Nat.lt_of_lt_of_le ua_a zz_; have Ob_ab := Lib.hid (OwnR.mono' o_ (Nat.le_of_lt hda) (Nat.le_refl _)); have Rb_ab := Lib.hid (Ob_ab.out.row); clear b_ o_) | (go_at_call 189; (with_reducible refine (max_below rb (wgM pS S (vecM S v) x) kb w.heap.size wab.heap.size wab Rb_ab.out hw0l hwl).mono ?_); rintro e wabc ⟨rfl, b_⟩; have SSabc := Lib.hid ((SSab.out).below b_ hdab); have HBabc := Lib.hid (below_step HBab.out (Nat.le_of_lt hdab) b_); have zz_ := b_.size; have hdabc := Nat.lt_of_lt_of_le hdab zz_; have Ra_abc := Lib.hid ((Ra_ab.out.below b_ (Nat.le_refl _)).mono (Nat.le_refl _) zz_); have Na_abc := Lib.hid (Na_ab.out.stay (b_.block ba ua_ab)); have ua_abc := Nat.lt_of_lt_of_le ua_ab zz_; have Rb_abc := Lib.hid ((Rb_ab.out.below b_ (Nat.le_refl _)).mono (Nat.le_refl _) zz_); clear b_))
 all_goals
  go_wp2
  go_ret
  exact ⟨by rw [← HZZ.out]; rfl, HBabc.out⟩
theorem Vec.num' {p : Int} {n : Nat} {v : List Int} (h : Vec p n v) {j : Nat} (hj : j < n) : 0 ≤ v.getD j 0 ∧ v.getD j 0 < p := by
 have hj' : j < v.length := by rw [h.len]; exact hj
 have := List.all_eq_true.1 h.all (v[j]) (List.getElem_mem hj')
 rw [getD_at hj']
 exact inr_iff.1 this
theorem bas_list {p : Int} {S : List Int} {m : List (List Int)} (hs : isSp p S = true) (hl : listB p S m = true) : listB p S (bas p m) = true := by
 have h := listB_iff hl
 have len : ∀ i, i < m.length → (rw' m i).length = S.length := fun i hi => (isVec_iff.1 (h.2 i hi)).len
 have hb := bas_is (c := S.length) (isSp_iff.1 hs).prime m len (fun i hi j hj => (isVec_iff.1 (h.2 i hi)).num' hj)
 obtain ⟨P, hP⟩ := hb.red
 have hle : (bas p m).length ≤ S.length := hP.rows_le
 have h6 := (isSp_iff.1 hs).hi
 unfold listB
 rw [Bool.and_eq_true, decide_eq_true_eq]
 refine ⟨List.all_eq_true.2 fun z hz => ?_, by omega⟩
 obtain ⟨i, hi, rfl⟩ := List.getElem_of_mem hz
 have e : rw' (bas p m) i = (bas p m)[i] := by unfold rw'; simp [List.getD, hi]
 rw [← e]
 refine isVec_iff.2 ⟨hb.len i hi, ?_⟩
 rw [List.all_eq_true]
 intro y hy
 obtain ⟨j, hj, rfl⟩ := List.getElem_of_mem hy
 have h2 := hP.rng i hi j (by rw [← hb.len i hi]; exact hj)
 unfold at' at h2
 rw [getD_at hj] at h2
 exact inr_iff.2 h2
def OwnK (m : List (List Int)) (w : World) (e : Ending) (w' : World) : Prop :=
 ∃ r k, e = .returned (.slice r m.length k) ∧ OwnM w.heap.size w'.heap.size w' r m ∧ Below w.heap.size w w'
set_option maxRecDepth 100000 in
set_option maxHeartbeats 6400000 in
theorem kernelOf_any (p : Int) (a : Option Addr) (A : List (List Int)) (ca lo tp : Nat) (w : World) (hm : MatIn lo tp w a A) (ht : tp ≤ w.heap.size) (hA : RowsW p A) :
 Calls Tryz.prog 161 #[.int .i64 p, .slice a A.length ca] w (OwnK (kerB p A) w) := by
 obtain ⟨i0, hi, hz0, hz1, hz2⟩ := info_parts info64
 obtain ⟨j0, kj, kz0, kz1, kz2⟩ := info_parts info_slice
 have hpb := prm_bd hA.prime
 have HP := Lib.hid hA.prime
 have HM := Lib.hid hm
 have HA := Lib.hid hA
 have HKL := Lib.hid (kerP_lstW hA)
 have hA0 : 0 < A.length := hA.lo
 obtain ⟨b, o, r0, c0, ha, _, hb, hr0, _⟩ := HM.out.row (i := 0) hA.lo
 subst ha
 rw [Nat.add_zero] at hr0
 have c1 := hA.c0
 have c16 := hA.c1
 obtain ⟨KP, hKP⟩ : ∃ x, x = kerP p A := ⟨_, rfl⟩
 have HKP : Hid (KP = kerN p (bas p A) (pvs (bas p A)) (rw' A 0).length (bas p A).length (rw' A 0).length) := hKP
 have HKB : Hid (kerB p A = bas p KP) := by show _ = _; rw [hKP]; rfl
 rw [← hKP] at HKL
 obtain ⟨c, hcc⟩ : ∃ c, c = (rw' A 0).length := ⟨_, rfl⟩
 rw [← hcc] at hr0 c1 c16 HKP
 have HCC := Lib.hid hcc
 have hb' : b < w.heap.size := Nat.lt_of_lt_of_le hb ht
 obtain ⟨B, hB⟩ : ∃ B, B = bas p A := ⟨_, rfl⟩
 rw [← hB] at HKP
 have HBE := Lib.hid hB
 obtain ⟨n, hn⟩ : ∃ n, n = B.length := ⟨_, rfl⟩
 rw [← hn] at HKP
 have HN := Lib.hid hn
 obtain ⟨P, hP⟩ : ∃ P, P = pvs B := ⟨_, rfl⟩
 rw [← hP] at HKP
 have HPE := Lib.hid hP
 have fv := field_ech
 have hmk := fun W => run_make_row' (P := Tryz.prog) 24 2 (.int .i64 0) 8 Tryz.underlying24 info64 rfl .i64 .i64 c (by omega) (by omega) W
 have HMK := Lib.hid hmk
 rw [HKB.out]
 clear hm hA hKP hcc hB hn hP hmk
 go_enter Tryz.func161, Tryz.ntmps161
 go_wp2_with (go_at_call 170; (with_reducible refine (elimK p _ A _ lo tp _ HM.out ht HA.out).mono ?_); rintro e w2 ⟨ar, cr, ap, cp, dd, rfl, ho2, hp2, hi2, hb2⟩; rw [← HBE.out, ← HN.out]; rw [← HBE.out, ← HCC.out] at hi2; rw [← HBE.out] at ho2; rw [← HBE.out, ← HN.out, ← HPE.out] at hp2; have HIB := Lib.hid hi2; have HO2 := Lib.hid ho2.mat; have HP2 := Lib.hid hp2; have HB2 := Lib.hid hb2; have hr0' := (hb2.cell (p := ⟨b, o, none⟩) hb').trans hr0; have zw2 := hb2.size; have hr3 := ((balloc w2 (.cells #[.slice ar n cr, .slice ap n cp, .int .i64 dd] 143)).cell (p := ⟨b, o, none⟩) (Nat.lt_of_lt_of_le hb' zw2)).trans hr0'; clear ho2 hb2 hi2 hp2 hr0')
 have hRR : Rref p n c (at' B) P := by rw [HPE.out, HN.out]; exact HIB.out.pivs
 have HRR := Lib.hid hRR
 have hnc : n ≤ c := hRR.rows_le
 have HLB : Hid (∀ i, i < n → (rw' B i).length = c) := fun i hi => HIB.out.len i (by rw [← HN.out]; exact hi)
 have HB3 := Lib.hid (balloc w2 (.cells #[.slice ar n cr, .slice ap n cp, .int .i64 dd] 143))
 have HK0 := Lib.hid (cel3_new w2 (.slice ar n cr) (.slice ap n cp) (.int .i64 dd) 143).c0
 have HK1 := Lib.hid (cel3_new w2 (.slice ar n cr) (.slice ap n cp) (.int .i64 dd) 143).c1
 have hz3 : w2.heap.size < (w2.alloc (.cells #[.slice ar n cr, .slice ap n cp, .int .i64 dd] 143)).heap.size := by simp
 obtain ⟨w3, hw3⟩ : ∃ z, z = w2.alloc (.cells #[.slice ar n cr, .slice ap n cp, .int .i64 dd] 143) := ⟨_, rfl⟩
 rw [← hw3] at HB3 HK0 HK1 hz3 hr3
 rw [← hw3]
 clear hRR hw3 hr0
 go_loopw [6, 18] (fun v t wr => ∃ k : Nat, k ≤ c ∧ t = .int .i64 k ∧ OutM w3.heap.size wr v (kerN p B P c n k) ∧ Below w3.heap.size w3 wr) (fun _ t _ => c - (intOf t).toNat)
 case atStart => exact ⟨0, Nat.zero_le _, rfl, ⟨[], ⟨rfl, .inl ⟨rfl, rfl⟩⟩, fun i hi => absurd hi (Nat.not_lt_zero i)⟩, Below.refl _ _⟩
 case round =>
  obtain ⟨k, hk, rfl, ho, hbel⟩ := hrel
  have HO := Lib.hid ho
  have HBEL := Lib.hid hbel
  have hwz := hbel.size
  have k0 := (hbel.cell (p := ⟨w2.heap.size, 0, none⟩) hz3).trans HK0.out
  have k1 := (hbel.cell (p := ⟨w2.heap.size, 1, none⟩) hz3).trans HK1.out
  have hr := (hbel.cell (p := ⟨b, o, none⟩) (show b < w3.heap.size by omega)).trans hr3
  have HB3k : Hid (Below w2.heap.size w2 wr) := HB3.out.trans (hbel.mono (by omega))
  rename World => wk
  clear ho hbel
  by_cases hlt : k < c
  · have hk1 : (k : Int) < (c : Int) := by omega
    cases hpv : isPv P n k with
    | true =>
     have HPV : Hid ((pvL P n).any (· == (k : Int)) = true) := by show _ = _; rw [pvL_any]; exact hpv
     have HE := Lib.hid (kerN_pv (p := p) (B := B) (c := c) hpv)
     clear hpv
     go_wp2_with (go_at_call 229; (with_reducible refine (containsI_any ap (pvL P n) k n _ _ _ _ (HP2.out.below HB3k.out (Nat.le_refl _)) (pvL_len _ _) (by omega)).mono ?_); rintro e w' ⟨rfl, rfl⟩; rw [HPV.out])
     go_roundw
     case rel => exact ⟨k + 1, by omega, by go_num, by rw [HE.out]; exact HO.out, HBEL.out⟩
     case measure => simp [intOf]; omega
    | false =>
     have HPV : Hid ((pvL P n).any (· == (k : Int)) = false) := by show _ = _; rw [pvL_any]; exact hpv
     have HE := Lib.hid (kerN_no (p := p) (B := B) (c := c) hpv)
     have HNP : Hid (∀ i, i < n → P i ≠ k) := fun i hi => isPv_no hpv hi
     have g0 := made_cell wk (.int .i64 0) c 2 hlt
     have f0 : (wk.alloc (.cells (madeCells #[.int .i64 0] c) 2)).frozen? ⟨wk.heap.size, k, none⟩ = false := by simp [go_sem]
     have HT := Lib.hid (unit_tag wk hlt)
     have hmk := HMK.out
     have k1u := ((balloc wk (.cells ((madeCells #[.int .i64 0] c).setIfInBounds k (.int .i64 1)) 2)).cell (p := ⟨w2.heap.size, 1, none⟩) (show w2.heap.size < wk.heap.size by omega)).trans k1
     clear hpv
     go_wp2_with (go_at_call 229; (with_reducible refine (containsI_any ap (pvL P n) k n _ _ _ _ (HP2.out.below HB3k.out (Nat.le_refl _)) (pvL_len _ _) (by omega)).mono ?_); rintro e w' ⟨rfl, rfl⟩; rw [HPV.out])
     clear hmk g0 f0 k0 k1 k1u
     go_loopw [36] (fun t wr => ∃ j : Nat, j ≤ n ∧ t = .int .i64 j ∧ TagR wk.heap.size wr.heap.size wr (some ⟨wk.heap.size, 0, none⟩) (kvec p B P c j k) ∧ Below wk.heap.size wk wr) (fun t _ => n - (intOf t).toNat)
     case atStart => exact ⟨0, Nat.zero_le _, rfl, by rw [← kvec_unit (by omega)]; exact HT.out, by ((repeat' (first | with_reducible exact Below.refl _ _ | (with_reducible refine Below.setCell ?_ ?_ _) | (with_reducible refine Below.alloc ?_ ?_ _) | (with_reducible refine Below.drew ?_))); all_goals (first | (simp; done) | omega | (simp; omega)))⟩
     case round =>
      obtain ⟨j, hj, rfl, htv, hbv⟩ := hrel
      have HTV := Lib.hid htv
      have HBV := Lib.hid hbv
      have hwv := hbv.size
      have HBW : Hid (Below w2.heap.size w2 wr) := HB3k.out.trans (hbv.mono (by omega))
      have k0 := (hbv.cell (p := ⟨w2.heap.size, 0, none⟩) (show w2.heap.size < wk.heap.size by omega)).trans ((HBEL.out.cell (p := ⟨w2.heap.size, 0, none⟩) hz3).trans HK0.out)
      clear htv hbv
      by_cases hltj : j < n
      · have hj1 : (j : Int) < (n : Int) := by omega
        obtain ⟨bp, op, hap, _, _, hcp⟩ := (HP2.out.below HBW.out (Nat.le_refl _)).num (j := j) (by rw [pvL_len]; exact hltj)
        subst hap
        rw [pvL_at hltj] at hcp
        obtain ⟨bq, oq, rq, cq, haq, _, _, hrq, hrowq⟩ := (HO2.out.below HBW.out (Nat.le_refl _)).row (show j < B.length by rw [← HN.out]; exact hltj)
        subst haq
        have hcl := HLB.out j hltj
        rw [hcl] at hrq
        obtain ⟨bx, ox, hax, _, _, hcx0⟩ := hrowq.num (j := k) (by omega)
        subst hax
        obtain ⟨x0, x1⟩ := HRR.out.rng j hltj k hlt
        obtain ⟨x, hx⟩ : ∃ x, x = at' B j k := ⟨_, rfl⟩
        have hcx : wr.cell? ⟨bx, ox + k, none⟩ = some (.int .i64 x) := by rw [hx]; exact hcx0
        rw [← hx] at x0 x1
        have HST : Hid ((kvec p B P c j k).set (P j) (-x % p) = kvec p B P c (j + 1) k) := by
         show _ = _
         rw [hx, ← neg_mod]
         exact kvec_next HRR.out hltj (HNP.out j hltj)
        have hpc := HRR.out.pv j hltj
        have hpc1 : (P j : Int) < (c : Int) := by omega
        obtain ⟨bv, ov, hav, _, _, hcv⟩ := HTV.out.row.num (j := P j) (by rw [kvec_len]; exact hpc)
        cases hav
        rw [Nat.zero_add] at hcv
        obtain ⟨y, hy⟩ : ∃ y, y = (kvec p B P c j k).getD (P j) 0 := ⟨_, rfl⟩
        rw [← hy] at hcv
        have hfv : wr.frozen? ⟨wk.heap.size, P j, none⟩ = false := by
         rcases HTV.out with h | ⟨b', o', cur, e, _, _, ht, _⟩
         · have := kvec_len p B P c j k; rw [h] at this; simp at this; omega
         · cases e; exact free_of ht _
        clear hx hy hcx0 hrowq hcl
        go_wp2_with (go_at_call 230; (with_reducible refine (opposite_any p x _ HP.out x0 x1).mono ?_); rintro e w' ⟨rfl, rfl⟩)
        go_roundw
        case rel =>
         refine ⟨j + 1, by omega, by go_num, ?_, Below.setCell HBV.out (Nat.le_refl wk.heap.size) _⟩
         have h := HTV.out.set (j := P j) (by rw [kvec_len]; exact hpc) (-x % p)
         rw [HST.out, Nat.zero_add] at h
         exact h.block (Nat.le_refl _) (by simp [World.setCell]) (fun _ _ _ _ _ => rfl)
        case measure => simp [intOf]; omega
      · have hji : j = n := by omega
        subst hji
        obtain ⟨vals, hvo, hvr⟩ := HO.out
        have hkb := kerN_len p B P c j k
        obtain ⟨kl, hkl⟩ : ∃ x, x = (kerN p B P c j k).length := ⟨_, rfl⟩
        rw [← hkl] at hvo hvr hkb
        have HKN := Lib.hid hkl
        have HV := Lib.hid hvo
        have HVR := Lib.hid hvr
        have HVW := Lib.hid (hvo.kept (below_grown HBV.out) (by cases hv : Value.ownBlock u6 <;> simp))
        clear hvo hvr hkl
        go_wp2_with (at_builtin; refine wpList_append_lies _ rfl _ _ 27 rfl w3.heap.size 24 j0 (.slice none 0 0) 1 24 Tryz.underlying27 kj kz0 kz1 kz2 rfl (by decide) u6 kl vals rfl (HVW.out.alloc _) ⟨wr.heap.size, 0, none⟩ 1 1 [.slice (some ⟨wk.heap.size, 0, none⟩) c c] rfl rfl (World.news_of_block (cs := #[.slice (some ⟨wk.heap.size, 0, none⟩) c c]) (t := 24) (fr := (0, 0)) (heap_alloc_new wr _)) (by simp [Value.oneCell']) (by omega) (by unfold maxLen; omega) (by omega) (by simp; omega) (wr.heap.size + 1) (by simp) ?_; intro gg cap w1 hown1 hgrow hat hlt1)
        go_roundw
        case rel =>
         exact ⟨k + 1, by omega, by go_num, by rw [HE.out]; exact OutM.pushW HKN.out.symm (kvec_len _ _ _ _ _ _) HV.out HVR.out HTV.out hwz HBV.out hown1 hgrow,
          ((HBEL.out.trans (HBV.out.mono hwz)).alloc (by omega) _).grown hgrow (by simp; omega) (fun _ hk => (HV.out.lt _ hk).1)⟩
        case measure => simp [intOf]; omega
  · have hkc : k = c := by omega
    subst hkc
    obtain ⟨a8, c8, e8, hm8⟩ := HO.out.mat
    subst e8
    have HM8 := Lib.hid hm8
    have HE : Hid (kerN p B P k n k = KP) := by show _ = _; exact HKP.out.symm
    rw [HE.out] at HM8 ⊢
    clear hm8
    go_wp2_with (go_at_call 170; (with_reducible refine (elimO p _ KP _ w3.heap.size wk.heap.size _ HM8.out (Nat.le_refl _) HKL.out).mono ?_); rintro e w5 ⟨r5, k5, vp, d5, rfl, ho5, hb5⟩; have HO5 := Lib.hid ho5; have HB5 := Lib.hid hb5; clear ho5 hb5)
    go_ret
    exact ⟨_, _, rfl, HO5.out.mono (by omega) (Nat.le_refl _), (HB2.out.trans (HB3k.out.mono zw2)).trans (HB5.out.mono (by omega))⟩
end Go.Proofs.YtgfanoejohpmkaaGreat