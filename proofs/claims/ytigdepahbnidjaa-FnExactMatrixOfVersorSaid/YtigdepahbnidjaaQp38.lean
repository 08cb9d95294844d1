/-
  Versors told, products of vectors, reflections (model): contracts of the program and of the model.
  Conditions: the lists are nil or rows of known cells, of at most 1048576 numbers.
-/
import Derived.Test.YtigdepahbnidjaaQp31
import Derived.Test.YtigdepahbnidjaaQp30
import Derived.Test.YtigdepahbnidjaaQp19
import Derived.Deep.RegionHeld3
import Derived.Deep.DeepCutAuto
namespace Go.Proofs.Ytigdepahbnidjaa
open Go.RowKit
set_option linter.unusedVariables false

theorem ei_in {lo tp g n i : Nat} {w : World} (h : RowOwn w g 0 n (fun j => if j = i then 1 else 0)) (h0 : lo ≤ g) (h1 : g < tp) : RowIn lo tp w (some ⟨g, 0, none⟩) (eiR n i) := by
  have e : mkR n (fun j => if j = i then (1 : Int) else 0) = eiR n i := mkR_congr fun j _ => by
    by_cases h : j = i
    · subst h; simp
    · rw [if_neg h, if_neg (fun e => h e.symm)]
  rw [← e]; exact (h.own h0 h1).row
theorem l04Vector_ei (pS : Int) (aS : Option Addr) (S : List Int) (cS g i lo tp : Nat) (w : World) (h6 : S.length ≤ 6) (h : RowIn lo tp w (some ⟨g, 0, none⟩) (eiR S.length i)) (th : tp ≤ w.heap.size) :
    Calls Try.prog 134 #[.agg #[.int .i64 pS, .slice aS S.length cS], .slice (some ⟨g, 0, none⟩) S.length S.length] w (NewRow (bl S) (vecF (eiR S.length i) (eiR S.length i).length) w) := by
  have q := l04Vector_any pS aS S cS (some ⟨g, 0, none⟩) (eiR S.length i) S.length lo tp w h6 (mkR_len _ _) h th
  rw [show (eiR S.length i).length = S.length from mkR_len _ _] at q ⊢
  exact q
theorem part_one (pS : Int) (S x : List Int) (i : Nat) (a : Option Addr) (n c lo tp : Nat) (w : World) (hs : isSp pS S = true) (hn : n = (arM pS S x (eiR S.length i)).length) (hx : RowIn lo tp w a (arM pS S x (eiR S.length i))) (tx : tp ≤ w.heap.size) :
    Calls Try.prog 135 #[.slice a n c, .int .i64 1] w (NewRow n (pg (arM pS S x (eiR S.length i)) 1) w) := by
  subst hn
  exact l04Part_any a (arM pS S x (eiR S.length i)) c lo tp 1 w hx tx (by rw [arM_len]; exact bl_le (isSp_iff.1 hs).hi)
theorem same_part (pS : Int) (S x : List Int) (i : Nat) (a : Option Addr) (n c lo tp b lo2 tp2 : Nat) (w : World) (hs : isSp pS S = true) (hn : n = (arM pS S x (eiR S.length i)).length) (hx : RowIn lo tp w a (arM pS S x (eiR S.length i))) (hy : RowIn lo2 tp2 w (some ⟨b, 0, none⟩) (mkR n (pg (arM pS S x (eiR S.length i)) 1))) :
    Calls Try.prog 99 #[.slice a n c, .slice (some ⟨b, 0, none⟩) n n] w fun e w' => e = .returned (.bool (ldB pS S x i)) ∧ Below w.heap.size w w' := by
  subst hn
  have q := l01Same_b a (some ⟨b, 0, none⟩) (arM pS S x (eiR S.length i)) (mkR (arM pS S x (eiR S.length i)).length (pg (arM pS S x (eiR S.length i)) 1)) _ _ c (arM pS S x (eiR S.length i)).length lo tp lo2 tp2 w rfl (mkR_len _ _) hx hy (by rw [arM_len]; have := bl_le (isSp_iff.1 hs).hi; omega)
  rw [← partM_eq] at q
  exact q
theorem scale_one (pS F : Int) (S : List Int) (r : Option Addr) (c lo tp : Nat) (w : World) (hs : isSp pS S = true) (h : RowIn lo tp w r (mOne S)) (ht : tp ≤ w.heap.size) (k0 : 0 ≤ F) (k1 : F ≤ pS) :
    Calls Try.prog 130 #[.int .i64 pS, .slice r (mOne S).length c, .int .i64 F] w (fun e w' => ∃ r c, e = .returned (.slice r (mOne S).length c) ∧ RowIn w.heap.size w'.heap.size w' r (sclR pS (mOne S) F) ∧ Below w.heap.size w w') :=
  l02Scale_n7 pS F r (mOne S) (mOne S).length c lo tp w rfl (isSp_iff.1 hs).prime h ht (by rw [show (mOne S).length = bl S from mkR_len _ _]; have := bl_le (isSp_iff.1 hs).hi; omega) (Mv.num (one_mv' hs)) k0 k1
theorem same_one (pS F : Int) (S x : List Int) (b lo tp : Nat) (r : Option Addr) (n c lo2 tp2 : Nat) (w : World) (hs : isSp pS S = true) (hF : F = nrF pS S x) (hn : n = (mOne S).length) (h : RowIn lo tp w (some ⟨b, 0, none⟩) (mkR (bl S) (prodF pS S x (revM pS x)))) (h2 : RowIn lo2 tp2 w r (sclR pS (mOne S) F)) :
    Calls Try.prog 99 #[.slice (some ⟨b, 0, none⟩) (bl S) (bl S), .slice r n c] w fun e w' => e = .returned (.bool (scB (nrM pS S x))) ∧ Below w.heap.size w w' := by
  subst hn
  refine (l01Same_b (some ⟨b, 0, none⟩) r (nrM pS S x) (sclR pS (mOne S) F) (bl S) (mOne S).length (bl S) c lo tp lo2 tp2 w (prodM_len _ _ _ _) (by unfold sclR; rw [mkR_len]) h h2 (by have := bl_le (isSp_iff.1 hs).hi; omega)).mono fun e w' hh => ⟨?_, hh.2⟩
  have e2 : decide (nrM pS S x = sclR pS (mOne S) ((nrM pS S x).getD 0 0)) = scB (nrM pS S x) := scB_same (prodM_len _ _ _ _) (Mv.num (nrM_mv hs x))
  rw [nrM_zero, ← hF] at e2
  rw [hh.1, e2]

/-- The box of a space and a number. -/
def BoxN (g b : Nat) (p : Int) (aS : Option Addr) (n cS : Nat) (F : Int) (W : World) : Prop :=
  W.cell? ⟨g, 0, none⟩ = some (.int .i64 p) ∧ W.cell? ⟨g, 1, none⟩ = some (.slice aS n cS) ∧ W.cell? ⟨b, 0, none⟩ = some (.int .i64 F)
theorem BoxN.below {g b : Nat} {p F : Int} {aS : Option Addr} {n cS B : Nat} {w w' : World} (h : BoxN g b p aS n cS F w) (hb : Below B w w') (hg : g < B ∧ b < B) : BoxN g b p aS n cS F w' :=
  ⟨(hb.cell (p := ⟨g, 0, none⟩) hg.1).trans h.1, (hb.cell (p := ⟨g, 1, none⟩) hg.1).trans h.2.1, (hb.cell (p := ⟨b, 0, none⟩) hg.2).trans h.2.2⟩

set_option maxRecDepth 100000 in
set_option maxHeartbeats 6400000 in
theorem l07Is_any (pS : Int) (aS : Option Addr) (S : List Int) (cS loS tpS : Nat) (ax : Option Addr) (x : List Int) (cx lox tpx : Nat) (w : World) (hs : isSp pS S = true) (hS : RowIn loS tpS w aS S) (tS : tpS ≤ w.heap.size) (hx : RowIn lox tpx w ax x) (tx : tpx ≤ w.heap.size) (mx : isMv pS S x = true) :
    Calls Try.prog 90 #[.agg #[.int .i64 pS, .slice aS S.length cS], .slice ax x.length cx] w (fun e w' => e = .returned (.bool (isVr pS S x)) ∧ Below w.heap.size w w') := by
  have HI := Lib.hid hs
  have HS := Lib.hid hS
  have Hx := Lib.hid hx
  have HMx := Lib.hid mx
  have h6 := (isSp_iff.1 hs).hi
  have hl1 := (isSp_iff.1 hs).lo
  have hpb := prm_bd (isSp_iff.1 hs).prime
  have hbl := bl_le h6
  have hb0 := bl_pos S
  have hx64 : x.length ≤ 64 := by rw [Mv.len mx]; exact hbl
  have HB0 := Lib.hid (below_alloc w (.cells #[.int .i64 pS, .slice aS S.length cS] 30))
  have k0 := nw0 w (.int .i64 pS) (.slice aS S.length cS) 30
  have k1 := nw1 w (.int .i64 pS) (.slice aS S.length cS) 30
  have hp1 : 1 < pS := by omega
  have hi0 : (0 : Int) < ((bl S : Nat) : Int) := by omega
  have HMK := Lib.hid (fun W => run_make_row' (P := Try.prog) 22 2 (.int .i64 0) 8 Try.underlying22 info64 rfl .i64 .i64 S.length (by omega) (by omega) W)
  have HML := Lib.hid (Mv.len mx)
  clear hs hS hx mx
  go_enter Try.func90, Try.ntmps90
  go_upto_region 1 with fail
  obtain ⟨w1, hw1⟩ : ∃ z, z = w.alloc (.cells #[.int .i64 pS, .slice aS S.length cS] 30) := ⟨_, rfl⟩
  rw [← hw1] at HB0 k0 k1 ⊢
  have hw0 : w.heap.size < w1.heap.size := by rw [hw1]; simp
  clear hw1
  have SS1 := Lib.hid (And.intro k0 k1)
  have HB1 := HB0
  have hd1 := hw0
  go_upto_region 3 with (first | (go_at_call 128; ((with_reducible refine (l04Rev pS aS S cS ax x cx lox tpx w1 HI.out (Hx.out.below HB1.out tx) (Nat.le_trans tx HB1.out.size) HMx.out).mono ?_); rintro e w2 ⟨r2, c2, rfl, o_, b_⟩; have RB2 := Lib.hid (o_.mono (Nat.le_of_lt hd1) (Nat.le_refl _)); have SS2 := Lib.hid (ss2 b_ hd1 SS1.out); have HB2 := Lib.hid (below_step HB1.out HB1.out.size b_); have hd2 := Nat.lt_of_lt_of_le hd1 b_.size; clear o_ b_ k0 k1; obtain ⟨k0, k1⟩ := SS2.out)) | (go_at_call 129; ((with_reducible refine (l04Times_n pS aS S cS loS tpS ax x x.length cx lox tpx r2 (revM pS x) x.length c2 w.heap.size w2.heap.size w2 rfl (revM_len _ _) HI.out (HS.out.below HB2.out tS) (Nat.le_trans tS HB2.out.size) (Hx.out.below HB2.out tx) (Nat.le_trans tx HB2.out.size) HMx.out RB2.out (Nat.le_refl _) (rev_mv HI.out HMx.out)).mono ?_); rintro e w3 ⟨bn, rfl, l_, u_, o_, b_⟩; have RN := Lib.hid o_; have ln := Nat.lt_of_lt_of_le hd2 l_; have un := u_; have RB3 := Lib.hid ((RB2.out.below b_ (Nat.le_refl _)).mono (Nat.le_refl _) b_.size); have SS3 := Lib.hid (ss2 b_ hd2 SS2.out); have HB3 := Lib.hid (below_step HB2.out HB2.out.size b_); have hd3 := Nat.lt_of_lt_of_le hd2 b_.size; clear o_ b_ l_ u_ k0 k1; obtain ⟨k0, k1⟩ := SS3.out)))
  have cn0 := RN.out.cell 0 hb0
  rw [Nat.zero_add, show prodF pS S x (revM pS x) 0 = nrF pS S x from rfl] at cn0
  obtain ⟨F, hF⟩ : ∃ f, f = nrF pS S x := ⟨_, rfl⟩
  rw [← hF] at cn0
  have HFE := Lib.hid hF
  have HFB : Hid (0 ≤ F ∧ F < pS) := by show _ ∧ _; rw [hF]; exact nrF_bd HI.out x
  have hFp : F ≤ pS := Int.le_of_lt HFB.out.2
  obtain ⟨V, hV⟩ : ∃ v, v = parI x := ⟨_, rfl⟩
  have HVE := Lib.hid hV
  have hVn := parI_neg x
  rw [← hV] at hVn
  have hs3 : Hid (BoxN w.heap.size bn pS aS S.length cS F w3.drew) := ⟨k0, k1, cn0⟩
  have HBD : Hid (Below w.heap.size w w3.drew) := HB3.out.drew
  have hdd : w.heap.size < w3.drew.heap.size ∧ bn < w3.drew.heap.size := ⟨hd3, un⟩
  have RND : Hid (RowIn w.heap.size w3.drew.heap.size w3.drew (some ⟨bn, 0, none⟩) (mkR (bl S) (prodF pS S x (revM pS x)))) := (RN.out.own (Nat.le_of_lt ln) un).row
  have RBD : Hid (RowIn w.heap.size w3.drew.heap.size w3.drew r2 (revM pS x)) := RB3.out
  clear hF hV k0 k1 cn0
  obtain ⟨BAD, hBAD⟩ : ∃ b, b = (decide (nrF pS S x = 0) || !scB (nrM pS S x) || !(parB x 0 || parB x 1)) := ⟨_, rfl⟩
  have HBA := Lib.hid hBAD
  clear hBAD
  go_cut [39] (fun s39 wx => s39 = .bool BAD ∧ Hid (wx.cell? ⟨w.heap.size, 0, none⟩ = some (.int .i64 pS) ∧ wx.cell? ⟨w.heap.size, 1, none⟩ = some (.slice aS S.length cS)) ∧ Hid (Below w3.drew.heap.size w3.drew wx))
  case first =>
    by_cases h0 : nrF pS S x = 0
    · have e0 : (F == 0) = true := by rw [HFE.out]; simpa using h0
      have HB_ : Hid (BAD = true) := by show _ = _; rw [HBA.out, decide_eq_true h0]; rfl
      clear h0
      refine wp_region_noPanic ?_
      refine wp_region_held_drew (S := fun w' => w'.cell? ⟨w.heap.size, 0, none⟩ = some (.int .i64 pS) ∧ w'.cell? ⟨w.heap.size, 1, none⟩ = some (.slice aS S.length cS) ∧ w'.cell? ⟨bn, 0, none⟩ = some (.int .i64 F)) (by kernel_rfl) (hs3.out) (fun hHeld => ?_)
      (refine wpAnyH_take (i := 0) (oi := _) (v := ?_) rfl (by kernel_rfl) (by kernel_rfl) (by kernel_rfl) (fun _ _ _ h => h) (Or.inl ⟨by kernel_rfl, ?_⟩) (by assumption) ?_; rotate_left; (focus (intro w' hSw; (try dsimp only at hSw); first | (go_simp; done) | (go_simp; with_reducible rfl)))); ((try simp only [Act.put]); (try simp only [List.setIfInBounds_toArray]); (try simp only [List.set_cons_succ]); (try simp only [List.set_cons_zero]))
      (refine wpAnyH_take (i := 1) (oi := _) (v := ?_) rfl (by kernel_rfl) (by kernel_rfl) (by kernel_rfl) (fun _ _ _ h => h) (Or.inl ⟨by kernel_rfl, ?_⟩) (by assumption) ?_; rotate_left; (focus (intro w' hSw; (try dsimp only at hSw); first | (go_simp; done) | (go_simp; with_reducible rfl)))); ((try simp only [Act.put]); (try simp only [List.setIfInBounds_toArray]); (try simp only [List.set_cons_succ]); (try simp only [List.set_cons_zero]))
      (refine wpAnyH_take (i := 2) (oi := _) (v := ?_) rfl (by kernel_rfl) (by kernel_rfl) (by kernel_rfl) (fun _ _ _ h => h) (Or.inl ⟨by kernel_rfl, ?_⟩) (by assumption) ?_; rotate_left; (focus (intro w' hSw; (try dsimp only at hSw); first | (go_simp; done) | (go_simp; with_reducible rfl)))); ((try simp only [Act.put]); (try simp only [List.setIfInBounds_toArray]); (try simp only [List.set_cons_succ]); (try simp only [List.set_cons_zero]))
      (refine wpAnyH_take (i := 3) (oi := _) (v := ?_) rfl (by kernel_rfl) (by kernel_rfl) (by kernel_rfl) (fun _ _ _ h => h) (Or.inl ⟨by kernel_rfl, ?_⟩) (by assumption) ?_; rotate_left; (focus (intro w' hSw; (try dsimp only at hSw); first | (go_simp; done) | (go_simp; with_reducible rfl)))); ((try simp only [Act.put]); (try simp only [List.setIfInBounds_toArray]); (try simp only [List.set_cons_succ]); (try simp only [List.set_cons_zero]))
      (refine wpAnyH_take (i := 4) (oi := _) (v := ?_) rfl (by kernel_rfl) (by kernel_rfl) (by kernel_rfl) (fun _ _ _ h => h) (Or.inl ⟨by kernel_rfl, ?_⟩) (by assumption) ?_; rotate_left; (focus (intro w' hSw; (try dsimp only at hSw); first | (go_simp; done) | (go_simp; with_reducible rfl)))); ((try simp only [Act.put]); (try simp only [List.setIfInBounds_toArray]); (try simp only [List.set_cons_succ]); (try simp only [List.set_cons_zero]))
      (refine wpAnyH_take (i := 5) (oi := _) (v := undef) rfl (by kernel_rfl) (by kernel_rfl) (by kernel_rfl) (fun _ _ _ h => h) (Or.inr ⟨by kernel_rfl, rfl⟩) (by assumption) ?_); ((try simp only [Act.put]); (try simp only [List.setIfInBounds_toArray]); (try simp only [List.set_cons_succ]); (try simp only [List.set_cons_zero]))
      (refine wpAnyH_take (i := 6) (oi := _) (v := undef) rfl (by kernel_rfl) (by kernel_rfl) (by kernel_rfl) (fun _ _ _ h => h) (Or.inr ⟨by kernel_rfl, rfl⟩) (by assumption) ?_); ((try simp only [Act.put]); (try simp only [List.setIfInBounds_toArray]); (try simp only [List.set_cons_succ]); (try simp only [List.set_cons_zero]))
      (refine wpAnyH_take (i := 7) (oi := _) (v := undef) rfl (by kernel_rfl) (by kernel_rfl) (by kernel_rfl) (fun _ _ _ h => h) (Or.inr ⟨by kernel_rfl, rfl⟩) (by assumption) ?_); ((try simp only [Act.put]); (try simp only [List.setIfInBounds_toArray]); (try simp only [List.set_cons_succ]); (try simp only [List.set_cons_zero]))
      (refine wpAnyH_take (i := 8) (oi := _) (v := undef) rfl (by kernel_rfl) (by kernel_rfl) (by kernel_rfl) (fun _ _ _ h => h) (Or.inr ⟨by kernel_rfl, rfl⟩) (by assumption) ?_); ((try simp only [Act.put]); (try simp only [List.setIfInBounds_toArray]); (try simp only [List.set_cons_succ]); (try simp only [List.set_cons_zero]))
      (refine wpAnyH_take (i := 9) (oi := _) (v := undef) rfl (by kernel_rfl) (by kernel_rfl) (by kernel_rfl) (fun _ _ _ h => h) (Or.inr ⟨by kernel_rfl, rfl⟩) (by assumption) ?_); ((try simp only [Act.put]); (try simp only [List.setIfInBounds_toArray]); (try simp only [List.set_cons_succ]); (try simp only [List.set_cons_zero]))
      (refine wpAnyH_take (i := 10) (oi := _) (v := undef) rfl (by kernel_rfl) (by kernel_rfl) (by kernel_rfl) (fun _ _ _ h => h) (Or.inr ⟨by kernel_rfl, rfl⟩) (by assumption) ?_); ((try simp only [Act.put]); (try simp only [List.setIfInBounds_toArray]); (try simp only [List.set_cons_succ]); (try simp only [List.set_cons_zero]))
      (refine wpAnyH_take (i := 11) (oi := _) (v := undef) rfl (by kernel_rfl) (by kernel_rfl) (by kernel_rfl) (fun _ _ _ h => h) (Or.inr ⟨by kernel_rfl, rfl⟩) (by assumption) ?_); ((try simp only [Act.put]); (try simp only [List.setIfInBounds_toArray]); (try simp only [List.set_cons_succ]); (try simp only [List.set_cons_zero]))
      (refine wpAnyH_take (i := 12) (oi := _) (v := undef) rfl (by kernel_rfl) (by kernel_rfl) (by kernel_rfl) (fun _ _ _ h => h) (Or.inr ⟨by kernel_rfl, rfl⟩) (by assumption) ?_); ((try simp only [Act.put]); (try simp only [List.setIfInBounds_toArray]); (try simp only [List.set_cons_succ]); (try simp only [List.set_cons_zero]))
      (refine wpAnyH_take (i := 13) (oi := _) (v := undef) rfl (by kernel_rfl) (by kernel_rfl) (by kernel_rfl) (fun _ _ _ h => h) (Or.inr ⟨by kernel_rfl, rfl⟩) (by assumption) ?_); ((try simp only [Act.put]); (try simp only [List.setIfInBounds_toArray]); (try simp only [List.set_cons_succ]); (try simp only [List.set_cons_zero]))
      (refine wpAnyH_take (i := 14) (oi := _) (v := undef) rfl (by kernel_rfl) (by kernel_rfl) (by kernel_rfl) (fun _ _ _ h => h) (Or.inr ⟨by kernel_rfl, rfl⟩) (by assumption) ?_); ((try simp only [Act.put]); (try simp only [List.setIfInBounds_toArray]); (try simp only [List.set_cons_succ]); (try simp only [List.set_cons_zero]))
      (refine wpAnyH_take (i := 15) (oi := _) (v := undef) rfl (by kernel_rfl) (by kernel_rfl) (by kernel_rfl) (fun _ _ _ h => h) (Or.inr ⟨by kernel_rfl, rfl⟩) (by assumption) ?_); ((try simp only [Act.put]); (try simp only [List.setIfInBounds_toArray]); (try simp only [List.set_cons_succ]); (try simp only [List.set_cons_zero]))
      (refine wpAnyH_take (i := 16) (oi := _) (v := ?_) rfl (by kernel_rfl) (by kernel_rfl) (by kernel_rfl) (fun _ _ _ h => h) (Or.inl ⟨by kernel_rfl, ?_⟩) (by assumption) ?_; rotate_left; (focus (intro w' hSw; (try dsimp only at hSw); first | (go_simp; done) | (go_simp; with_reducible rfl)))); (try simp only [List.getElem_toArray, List.getElem_cons_succ, List.getElem_cons_zero]); ((try simp only [Act.put]); (try simp only [List.setIfInBounds_toArray]); (try simp only [List.set_cons_succ]); (try simp only [List.set_cons_zero]))
      (refine wpAnyH_take (i := 17) (oi := _) (v := ?_) rfl (by kernel_rfl) (by kernel_rfl) (by kernel_rfl) (fun _ _ _ h => h) (Or.inl ⟨by kernel_rfl, ?_⟩) (by assumption) ?_; rotate_left; (focus (intro w' hSw; (try dsimp only at hSw); first | (go_simp; done) | (go_simp; with_reducible rfl)))); (try simp only [List.getElem_toArray, List.getElem_cons_succ, List.getElem_cons_zero]); ((try simp only [Act.put]); (try simp only [List.setIfInBounds_toArray]); (try simp only [List.set_cons_succ]); (try simp only [List.set_cons_zero]))
      (refine wpAnyH_take (i := 18) (oi := _) (v := undef) rfl (by kernel_rfl) (by kernel_rfl) (by kernel_rfl) (fun _ _ _ h => h) (Or.inr ⟨by kernel_rfl, rfl⟩) (by assumption) ?_); (try simp only [List.getElem_toArray, List.getElem_cons_succ, List.getElem_cons_zero]); ((try simp only [Act.put]); (try simp only [List.setIfInBounds_toArray]); (try simp only [List.set_cons_succ]); (try simp only [List.set_cons_zero]))
      (refine wpAnyH_take (i := 19) (oi := _) (v := undef) rfl (by kernel_rfl) (by kernel_rfl) (by kernel_rfl) (fun _ _ _ h => h) (Or.inr ⟨by kernel_rfl, rfl⟩) (by assumption) ?_); (try simp only [List.getElem_toArray, List.getElem_cons_succ, List.getElem_cons_zero]); ((try simp only [Act.put]); (try simp only [List.setIfInBounds_toArray]); (try simp only [List.set_cons_succ]); (try simp only [List.set_cons_zero]))
      (refine wpAnyH_take (i := 20) (oi := _) (v := undef) rfl (by kernel_rfl) (by kernel_rfl) (by kernel_rfl) (fun _ _ _ h => h) (Or.inr ⟨by kernel_rfl, rfl⟩) (by assumption) ?_); (try simp only [List.getElem_toArray, List.getElem_cons_succ, List.getElem_cons_zero]); ((try simp only [Act.put]); (try simp only [List.setIfInBounds_toArray]); (try simp only [List.set_cons_succ]); (try simp only [List.set_cons_zero]))
      (refine wpAnyH_take (i := 21) (oi := _) (v := undef) rfl (by kernel_rfl) (by kernel_rfl) (by kernel_rfl) (fun _ _ _ h => h) (Or.inr ⟨by kernel_rfl, rfl⟩) (by assumption) ?_); (try simp only [List.getElem_toArray, List.getElem_cons_succ, List.getElem_cons_zero]); ((try simp only [Act.put]); (try simp only [List.setIfInBounds_toArray]); (try simp only [List.set_cons_succ]); (try simp only [List.set_cons_zero]))
      (refine wpAnyH_take (i := 22) (oi := _) (v := ?_) rfl (by kernel_rfl) (by kernel_rfl) (by kernel_rfl) (fun _ _ _ h => h) (Or.inl ⟨by kernel_rfl, ?_⟩) (by assumption) ?_; rotate_left; (focus (intro w' hSw; (try dsimp only at hSw); first | (go_simp; done) | (go_simp; with_reducible rfl)))); (try simp only [List.getElem_toArray, List.getElem_cons_succ, List.getElem_cons_zero]); ((try simp only [Act.put]); (try simp only [List.setIfInBounds_toArray]); (try simp only [List.set_cons_succ]); (try simp only [List.set_cons_zero]))
      refine wpAnyH_done (by kernel_rfl) ?_ _
      refine NoPanic.normal ?_
      go_wp2_with fail
      go_meet
      exact ⟨by rw [HB_.out], Lib.hid ⟨hs3.out.1, hs3.out.2.1⟩, Lib.hid (Below.refl _ _)⟩
    · have e0 : (F == 0) = false := by rw [HFE.out]; simpa using h0
      cases h1 : scB (nrM pS S x) with
      | false =>
        have HSC := Lib.hid h1
        have HB_ : Hid (BAD = true) := by show _ = _; rw [HBA.out, decide_eq_false h0, h1]; rfl
        clear h0 h1
        refine wp_region_noPanic ?_
        refine wp_region_held_drew (S := fun w' => w'.cell? ⟨w.heap.size, 0, none⟩ = some (.int .i64 pS) ∧ w'.cell? ⟨w.heap.size, 1, none⟩ = some (.slice aS S.length cS) ∧ w'.cell? ⟨bn, 0, none⟩ = some (.int .i64 F)) (by kernel_rfl) (hs3.out) (fun hHeld => ?_)
        (refine wpAnyH_take (i := 0) (oi := _) (v := ?_) rfl (by kernel_rfl) (by kernel_rfl) (by kernel_rfl) (fun _ _ _ h => h) (Or.inl ⟨by kernel_rfl, ?_⟩) (by assumption) ?_; rotate_left; (focus (intro w' hSw; (try dsimp only at hSw); first | (go_simp; done) | (go_simp; with_reducible rfl)))); ((try simp only [Act.put]); (try simp only [List.setIfInBounds_toArray]); (try simp only [List.set_cons_succ]); (try simp only [List.set_cons_zero]))
        (refine wpAnyH_take (i := 1) (oi := _) (v := ?_) rfl (by kernel_rfl) (by kernel_rfl) (by kernel_rfl) (fun _ _ _ h => h) (Or.inl ⟨by kernel_rfl, ?_⟩) (by assumption) ?_; rotate_left; (focus (intro w' hSw; (try dsimp only at hSw); first | (go_simp; done) | (go_simp; with_reducible rfl)))); ((try simp only [Act.put]); (try simp only [List.setIfInBounds_toArray]); (try simp only [List.set_cons_succ]); (try simp only [List.set_cons_zero]))
        (refine wpAnyH_take (i := 2) (oi := _) (v := ?_) rfl (by kernel_rfl) (by kernel_rfl) (by kernel_rfl) (fun _ _ _ h => h) (Or.inl ⟨by kernel_rfl, ?_⟩) (by assumption) ?_; rotate_left; (focus (intro w' hSw; (try dsimp only at hSw); first | (go_simp; done) | (go_simp; with_reducible rfl)))); ((try simp only [Act.put]); (try simp only [List.setIfInBounds_toArray]); (try simp only [List.set_cons_succ]); (try simp only [List.set_cons_zero]))
        (refine wpAnyH_take (i := 3) (oi := _) (v := ?_) rfl (by kernel_rfl) (by kernel_rfl) (by kernel_rfl) (fun _ _ _ h => h) (Or.inl ⟨by kernel_rfl, ?_⟩) (by assumption) ?_; rotate_left; (focus (intro w' hSw; (try dsimp only at hSw); first | (go_simp; done) | (go_simp; with_reducible rfl)))); ((try simp only [Act.put]); (try simp only [List.setIfInBounds_toArray]); (try simp only [List.set_cons_succ]); (try simp only [List.set_cons_zero]))
        (refine wpAnyH_take (i := 4) (oi := _) (v := ?_) rfl (by kernel_rfl) (by kernel_rfl) (by kernel_rfl) (fun _ _ _ h => h) (Or.inl ⟨by kernel_rfl, ?_⟩) (by assumption) ?_; rotate_left; (focus (intro w' hSw; (try dsimp only at hSw); first | (go_simp; done) | (go_simp; with_reducible rfl)))); ((try simp only [Act.put]); (try simp only [List.setIfInBounds_toArray]); (try simp only [List.set_cons_succ]); (try simp only [List.set_cons_zero]))
        (refine wpAnyH_take (i := 5) (oi := _) (v := ?_) rfl (by kernel_rfl) (by kernel_rfl) (by kernel_rfl) (fun _ _ _ h => h) (Or.inl ⟨by kernel_rfl, ?_⟩) (by assumption) ?_; rotate_left; (focus (intro w' hSw; (try dsimp only at hSw); first | (go_simp; done) | (go_simp; with_reducible rfl)))); ((try simp only [Act.put]); (try simp only [List.setIfInBounds_toArray]); (try simp only [List.set_cons_succ]); (try simp only [List.set_cons_zero]))
        (refine wpAnyH_take (i := 6) (oi := _) (v := ?_) rfl (by kernel_rfl) (by kernel_rfl) (by kernel_rfl) (fun _ _ _ h => h) (Or.inl ⟨by kernel_rfl, ?_⟩) (by assumption) ?_; rotate_left; (focus (intro w' hSw; (try dsimp only at hSw); first | (go_simp; done) | (go_simp; with_reducible rfl)))); ((try simp only [Act.put]); (try simp only [List.setIfInBounds_toArray]); (try simp only [List.set_cons_succ]); (try simp only [List.set_cons_zero]))
        (refine wpAnyH_take (i := 7) (oi := _) (v := ?_) rfl (by kernel_rfl) (by kernel_rfl) (by kernel_rfl) (fun _ _ _ h => h) (Or.inl ⟨by kernel_rfl, ?_⟩) (by assumption) ?_; rotate_left; (focus (intro w' hSw; (try dsimp only at hSw); first | (go_simp; done) | (go_simp; with_reducible rfl)))); ((try simp only [Act.put]); (try simp only [List.setIfInBounds_toArray]); (try simp only [List.set_cons_succ]); (try simp only [List.set_cons_zero]))
        (refine wpAnyH_take (i := 8) (oi := _) (v := ?_) rfl (by kernel_rfl) (by kernel_rfl) (by kernel_rfl) (fun _ _ _ h => h) (Or.inl ⟨by kernel_rfl, ?_⟩) (by assumption) ?_; rotate_left; (focus (intro w' hSw; (try dsimp only at hSw); first | (go_simp; done) | (go_simp; with_reducible rfl)))); ((try simp only [Act.put]); (try simp only [List.setIfInBounds_toArray]); (try simp only [List.set_cons_succ]); (try simp only [List.set_cons_zero]))
        (refine wpAnyH_take (i := 10) (oi := _) (v := ?_) rfl (by kernel_rfl) (by kernel_rfl) (by kernel_rfl) (fun _ _ _ h => h) (Or.inl ⟨by kernel_rfl, ?_⟩) (by assumption) ?_; rotate_left; (focus (intro w' hSw; (try dsimp only at hSw); first | (go_simp; done) | (go_simp; with_reducible rfl)))); ((try simp only [Act.put]); (try simp only [List.setIfInBounds_toArray]); (try simp only [List.set_cons_succ]); (try simp only [List.set_cons_zero]))
        (refine wpAnyH_take (i := 11) (oi := _) (v := ?_) rfl (by kernel_rfl) (by kernel_rfl) (by kernel_rfl) (fun _ _ _ h => h) (Or.inl ⟨by kernel_rfl, ?_⟩) (by assumption) ?_; rotate_left; (focus (intro w' hSw; (try dsimp only at hSw); first | (go_simp; done) | (go_simp; with_reducible rfl)))); ((try simp only [Act.put]); (try simp only [List.setIfInBounds_toArray]); (try simp only [List.set_cons_succ]); (try simp only [List.set_cons_zero]))
        (refine wpAnyH_take (i := 12) (oi := _) (v := ?_) rfl (by kernel_rfl) (by kernel_rfl) (by kernel_rfl) (fun _ _ _ h => h) (Or.inl ⟨by kernel_rfl, ?_⟩) (by assumption) ?_; rotate_left; (focus (intro w' hSw; (try dsimp only at hSw); first | (go_simp; done) | (go_simp; with_reducible rfl)))); ((try simp only [Act.put]); (try simp only [List.setIfInBounds_toArray]); (try simp only [List.set_cons_succ]); (try simp only [List.set_cons_zero]))
        refine wpAnyH_ready (rs := [9]) (by kernel_rfl) (by simp) ?_
        refine AllReadyH.cons (o := _) rfl (fun K hK => ?_) AllReadyH.nil
        go_simp; go_at_call 131; (with_reducible refine (l04One_any pS aS S cS w3.drew h6).mono ?_); rintro e wa ⟨ra, ka, rfl, o_, b_⟩; have SSa := Lib.hid ((hs3.out).below b_ hdd); have HBa := Lib.hid (below_step HBD.out (Nat.le_of_lt hdd.1) b_); have zz_ := b_.size; have HCa := Lib.hid b_; have hda := And.intro (Nat.lt_of_lt_of_le hdd.1 zz_) (Nat.lt_of_lt_of_le hdd.2 zz_); have Oa_a := Lib.hid (OwnR.mono' o_ (Nat.le_of_lt hdd.1) (Nat.le_refl _)); have Ra_a := Lib.hid (Oa_a.out.row); clear b_ o_; (try go_wp2_with fail)
        refine hK.out _ _ (SSa.out) (fun hHeld => ?_)
        clear hK K
        ((try simp only [Act.put]); (try simp only [List.setIfInBounds_toArray]); (try simp only [List.set_cons_succ]); (try simp only [List.set_cons_zero]))
        refine wpAnyH_ready (rs := [13]) (by kernel_rfl) (by simp) ?_
        refine AllReadyH.cons (o := _) rfl (fun K hK => ?_) AllReadyH.nil
        go_simp; go_at_call 130; (with_reducible refine (scale_one pS F S ra ka w.heap.size wa.heap.size wa HI.out Ra_a.out (Nat.le_refl _) HFB.out.1 hFp).mono ?_); rintro e wab ⟨rb, kb, rfl, o_, b_⟩; have SSab := Lib.hid ((SSa.out).below b_ hda); have HBab := Lib.hid (below_step HBa.out (Nat.le_of_lt hda.1) b_); have zz_ := b_.size; have HCab := Lib.hid (below_step HCa.out (HCa.out).size b_); have hdab := And.intro (Nat.lt_of_lt_of_le hda.1 zz_) (Nat.lt_of_lt_of_le hda.2 zz_); have Ra_ab := Lib.hid ((Ra_a.out.below b_ (Nat.le_refl _)).mono (Nat.le_refl _) zz_); have Rb_ab := Lib.hid (o_.mono (Nat.le_of_lt hda.1) (Nat.le_refl _)); clear b_ o_; (try go_wp2_with fail)
        refine hK.out _ _ (SSab.out) (fun hHeld => ?_)
        clear hK K
        ((try simp only [Act.put]); (try simp only [List.setIfInBounds_toArray]); (try simp only [List.set_cons_succ]); (try simp only [List.set_cons_zero]))
        refine wpAnyH_ready (rs := [14]) (by kernel_rfl) (by simp) ?_
        refine AllReadyH.cons (o := _) rfl (fun K hK => ?_) AllReadyH.nil
        go_simp; go_at_call 99; (with_reducible refine (same_one pS F S x bn w.heap.size w3.drew.heap.size rb (mOne S).length kb w.heap.size wab.heap.size wab HI.out HFE.out rfl (RND.out.below HCab.out (Nat.le_refl _)) Rb_ab.out).mono ?_); rintro e wabc ⟨rfl, b_⟩; rw [HSC.out]; have SSabc := Lib.hid ((SSab.out).below b_ hdab); have HBabc := Lib.hid (below_step HBab.out (Nat.le_of_lt hdab.1) b_); have zz_ := b_.size; have HCabc := Lib.hid (below_step HCab.out (HCab.out).size b_); have hdabc := And.intro (Nat.lt_of_lt_of_le hdab.1 zz_) (Nat.lt_of_lt_of_le hdab.2 zz_); have Ra_abc := Lib.hid ((Ra_ab.out.below b_ (Nat.le_refl _)).mono (Nat.le_refl _) zz_); have Rb_abc := Lib.hid ((Rb_ab.out.below b_ (Nat.le_refl _)).mono (Nat.le_refl _) zz_); clear b_; (try go_wp2_with fail)
        refine hK.out _ _ (SSabc.out) (fun hHeld => ?_)
        clear hK K
        ((try simp only [Act.put]); (try simp only [List.setIfInBounds_toArray]); (try simp only [List.set_cons_succ]); (try simp only [List.set_cons_zero]))
        (refine wpAnyH_take (i := 15) (oi := _) (v := ?_) rfl (by kernel_rfl) (by kernel_rfl) (by kernel_rfl) (fun _ _ _ h => h) (Or.inl ⟨by kernel_rfl, ?_⟩) (by assumption) ?_; rotate_left; (focus (intro w' hSw; (try dsimp only at hSw); first | (go_simp; done) | (go_simp; with_reducible rfl)))); ((try simp only [Act.put]); (try simp only [List.setIfInBounds_toArray]); (try simp only [List.set_cons_succ]); (try simp only [List.set_cons_zero]))
        (refine wpAnyH_take (i := 16) (oi := _) (v := ?_) rfl (by kernel_rfl) (by kernel_rfl) (by kernel_rfl) (fun _ _ _ h => h) (Or.inl ⟨by kernel_rfl, ?_⟩) (by assumption) ?_; rotate_left; (focus (intro w' hSw; (try dsimp only at hSw); first | (go_simp; done) | (go_simp; with_reducible rfl)))); (try simp only [List.getElem_toArray, List.getElem_cons_succ, List.getElem_cons_zero]); ((try simp only [Act.put]); (try simp only [List.setIfInBounds_toArray]); (try simp only [List.set_cons_succ]); (try simp only [List.set_cons_zero]))
        (refine wpAnyH_take (i := 17) (oi := _) (v := ?_) rfl (by kernel_rfl) (by kernel_rfl) (by kernel_rfl) (fun _ _ _ h => h) (Or.inl ⟨by kernel_rfl, ?_⟩) (by assumption) ?_; rotate_left; (focus (intro w' hSw; (try dsimp only at hSw); first | (go_simp; done) | (go_simp; with_reducible rfl)))); (try simp only [List.getElem_toArray, List.getElem_cons_succ, List.getElem_cons_zero]); ((try simp only [Act.put]); (try simp only [List.setIfInBounds_toArray]); (try simp only [List.set_cons_succ]); (try simp only [List.set_cons_zero]))
        (refine wpAnyH_take (i := 18) (oi := _) (v := undef) rfl (by kernel_rfl) (by kernel_rfl) (by kernel_rfl) (fun _ _ _ h => h) (Or.inr ⟨by kernel_rfl, rfl⟩) (by assumption) ?_); (try simp only [List.getElem_toArray, List.getElem_cons_succ, List.getElem_cons_zero]); ((try simp only [Act.put]); (try simp only [List.setIfInBounds_toArray]); (try simp only [List.set_cons_succ]); (try simp only [List.set_cons_zero]))
        (refine wpAnyH_take (i := 19) (oi := _) (v := undef) rfl (by kernel_rfl) (by kernel_rfl) (by kernel_rfl) (fun _ _ _ h => h) (Or.inr ⟨by kernel_rfl, rfl⟩) (by assumption) ?_); (try simp only [List.getElem_toArray, List.getElem_cons_succ, List.getElem_cons_zero]); ((try simp only [Act.put]); (try simp only [List.setIfInBounds_toArray]); (try simp only [List.set_cons_succ]); (try simp only [List.set_cons_zero]))
        (refine wpAnyH_take (i := 20) (oi := _) (v := undef) rfl (by kernel_rfl) (by kernel_rfl) (by kernel_rfl) (fun _ _ _ h => h) (Or.inr ⟨by kernel_rfl, rfl⟩) (by assumption) ?_); (try simp only [List.getElem_toArray, List.getElem_cons_succ, List.getElem_cons_zero]); ((try simp only [Act.put]); (try simp only [List.setIfInBounds_toArray]); (try simp only [List.set_cons_succ]); (try simp only [List.set_cons_zero]))
        (refine wpAnyH_take (i := 21) (oi := _) (v := undef) rfl (by kernel_rfl) (by kernel_rfl) (by kernel_rfl) (fun _ _ _ h => h) (Or.inr ⟨by kernel_rfl, rfl⟩) (by assumption) ?_); (try simp only [List.getElem_toArray, List.getElem_cons_succ, List.getElem_cons_zero]); ((try simp only [Act.put]); (try simp only [List.setIfInBounds_toArray]); (try simp only [List.set_cons_succ]); (try simp only [List.set_cons_zero]))
        (refine wpAnyH_take (i := 22) (oi := _) (v := ?_) rfl (by kernel_rfl) (by kernel_rfl) (by kernel_rfl) (fun _ _ _ h => h) (Or.inl ⟨by kernel_rfl, ?_⟩) (by assumption) ?_; rotate_left; (focus (intro w' hSw; (try dsimp only at hSw); first | (go_simp; done) | (go_simp; with_reducible rfl)))); (try simp only [List.getElem_toArray, List.getElem_cons_succ, List.getElem_cons_zero]); ((try simp only [Act.put]); (try simp only [List.setIfInBounds_toArray]); (try simp only [List.set_cons_succ]); (try simp only [List.set_cons_zero]))
        refine wpAnyH_done (by kernel_rfl) ?_ _
        refine NoPanic.normal ?_
        go_wp2_with fail
        go_meet
        exact ⟨by rw [HB_.out], Lib.hid ⟨SSabc.out.1, SSabc.out.2.1⟩, HCabc⟩
      | true =>
        have HSC := Lib.hid h1
        have HB_ : Hid (decide (V < 0) = BAD) := by
          show _ = _
          rw [HBA.out, decide_eq_false h0, h1]
          cases hp : (parB x 0 || parB x 1) with
          | false => rw [decide_eq_true (hVn.2 hp)]; rfl
          | true => rw [decide_eq_false (fun h => by rw [hVn.1 h] at hp; cases hp)]; rfl
        clear h0 h1 hVn
        refine wp_region_noPanic ?_
        refine wp_region_held_drew (S := fun w' => w'.cell? ⟨w.heap.size, 0, none⟩ = some (.int .i64 pS) ∧ w'.cell? ⟨w.heap.size, 1, none⟩ = some (.slice aS S.length cS) ∧ w'.cell? ⟨bn, 0, none⟩ = some (.int .i64 F)) (by kernel_rfl) (hs3.out) (fun hHeld => ?_)
        (refine wpAnyH_take (i := 0) (oi := _) (v := ?_) rfl (by kernel_rfl) (by kernel_rfl) (by kernel_rfl) (fun _ _ _ h => h) (Or.inl ⟨by kernel_rfl, ?_⟩) (by assumption) ?_; rotate_left; (focus (intro w' hSw; (try dsimp only at hSw); first | (go_simp; done) | (go_simp; with_reducible rfl)))); ((try simp only [Act.put]); (try simp only [List.setIfInBounds_toArray]); (try simp only [List.set_cons_succ]); (try simp only [List.set_cons_zero]))
        (refine wpAnyH_take (i := 1) (oi := _) (v := ?_) rfl (by kernel_rfl) (by kernel_rfl) (by kernel_rfl) (fun _ _ _ h => h) (Or.inl ⟨by kernel_rfl, ?_⟩) (by assumption) ?_; rotate_left; (focus (intro w' hSw; (try dsimp only at hSw); first | (go_simp; done) | (go_simp; with_reducible rfl)))); ((try simp only [Act.put]); (try simp only [List.setIfInBounds_toArray]); (try simp only [List.set_cons_succ]); (try simp only [List.set_cons_zero]))
        (refine wpAnyH_take (i := 2) (oi := _) (v := ?_) rfl (by kernel_rfl) (by kernel_rfl) (by kernel_rfl) (fun _ _ _ h => h) (Or.inl ⟨by kernel_rfl, ?_⟩) (by assumption) ?_; rotate_left; (focus (intro w' hSw; (try dsimp only at hSw); first | (go_simp; done) | (go_simp; with_reducible rfl)))); ((try simp only [Act.put]); (try simp only [List.setIfInBounds_toArray]); (try simp only [List.set_cons_succ]); (try simp only [List.set_cons_zero]))
        (refine wpAnyH_take (i := 3) (oi := _) (v := ?_) rfl (by kernel_rfl) (by kernel_rfl) (by kernel_rfl) (fun _ _ _ h => h) (Or.inl ⟨by kernel_rfl, ?_⟩) (by assumption) ?_; rotate_left; (focus (intro w' hSw; (try dsimp only at hSw); first | (go_simp; done) | (go_simp; with_reducible rfl)))); ((try simp only [Act.put]); (try simp only [List.setIfInBounds_toArray]); (try simp only [List.set_cons_succ]); (try simp only [List.set_cons_zero]))
        (refine wpAnyH_take (i := 4) (oi := _) (v := ?_) rfl (by kernel_rfl) (by kernel_rfl) (by kernel_rfl) (fun _ _ _ h => h) (Or.inl ⟨by kernel_rfl, ?_⟩) (by assumption) ?_; rotate_left; (focus (intro w' hSw; (try dsimp only at hSw); first | (go_simp; done) | (go_simp; with_reducible rfl)))); ((try simp only [Act.put]); (try simp only [List.setIfInBounds_toArray]); (try simp only [List.set_cons_succ]); (try simp only [List.set_cons_zero]))
        (refine wpAnyH_take (i := 5) (oi := _) (v := ?_) rfl (by kernel_rfl) (by kernel_rfl) (by kernel_rfl) (fun _ _ _ h => h) (Or.inl ⟨by kernel_rfl, ?_⟩) (by assumption) ?_; rotate_left; (focus (intro w' hSw; (try dsimp only at hSw); first | (go_simp; done) | (go_simp; with_reducible rfl)))); ((try simp only [Act.put]); (try simp only [List.setIfInBounds_toArray]); (try simp only [List.set_cons_succ]); (try simp only [List.set_cons_zero]))
        (refine wpAnyH_take (i := 6) (oi := _) (v := ?_) rfl (by kernel_rfl) (by kernel_rfl) (by kernel_rfl) (fun _ _ _ h => h) (Or.inl ⟨by kernel_rfl, ?_⟩) (by assumption) ?_; rotate_left; (focus (intro w' hSw; (try dsimp only at hSw); first | (go_simp; done) | (go_simp; with_reducible rfl)))); ((try simp only [Act.put]); (try simp only [List.setIfInBounds_toArray]); (try simp only [List.set_cons_succ]); (try simp only [List.set_cons_zero]))
        (refine wpAnyH_take (i := 7) (oi := _) (v := ?_) rfl (by kernel_rfl) (by kernel_rfl) (by kernel_rfl) (fun _ _ _ h => h) (Or.inl ⟨by kernel_rfl, ?_⟩) (by assumption) ?_; rotate_left; (focus (intro w' hSw; (try dsimp only at hSw); first | (go_simp; done) | (go_simp; with_reducible rfl)))); ((try simp only [Act.put]); (try simp only [List.setIfInBounds_toArray]); (try simp only [List.set_cons_succ]); (try simp only [List.set_cons_zero]))
        (refine wpAnyH_take (i := 8) (oi := _) (v := ?_) rfl (by kernel_rfl) (by kernel_rfl) (by kernel_rfl) (fun _ _ _ h => h) (Or.inl ⟨by kernel_rfl, ?_⟩) (by assumption) ?_; rotate_left; (focus (intro w' hSw; (try dsimp only at hSw); first | (go_simp; done) | (go_simp; with_reducible rfl)))); ((try simp only [Act.put]); (try simp only [List.setIfInBounds_toArray]); (try simp only [List.set_cons_succ]); (try simp only [List.set_cons_zero]))
        (refine wpAnyH_take (i := 10) (oi := _) (v := ?_) rfl (by kernel_rfl) (by kernel_rfl) (by kernel_rfl) (fun _ _ _ h => h) (Or.inl ⟨by kernel_rfl, ?_⟩) (by assumption) ?_; rotate_left; (focus (intro w' hSw; (try dsimp only at hSw); first | (go_simp; done) | (go_simp; with_reducible rfl)))); ((try simp only [Act.put]); (try simp only [List.setIfInBounds_toArray]); (try simp only [List.set_cons_succ]); (try simp only [List.set_cons_zero]))
        (refine wpAnyH_take (i := 11) (oi := _) (v := ?_) rfl (by kernel_rfl) (by kernel_rfl) (by kernel_rfl) (fun _ _ _ h => h) (Or.inl ⟨by kernel_rfl, ?_⟩) (by assumption) ?_; rotate_left; (focus (intro w' hSw; (try dsimp only at hSw); first | (go_simp; done) | (go_simp; with_reducible rfl)))); ((try simp only [Act.put]); (try simp only [List.setIfInBounds_toArray]); (try simp only [List.set_cons_succ]); (try simp only [List.set_cons_zero]))
        (refine wpAnyH_take (i := 12) (oi := _) (v := ?_) rfl (by kernel_rfl) (by kernel_rfl) (by kernel_rfl) (fun _ _ _ h => h) (Or.inl ⟨by kernel_rfl, ?_⟩) (by assumption) ?_; rotate_left; (focus (intro w' hSw; (try dsimp only at hSw); first | (go_simp; done) | (go_simp; with_reducible rfl)))); ((try simp only [Act.put]); (try simp only [List.setIfInBounds_toArray]); (try simp only [List.set_cons_succ]); (try simp only [List.set_cons_zero]))
        refine wpAnyH_ready (rs := [9]) (by kernel_rfl) (by simp) ?_
        refine AllReadyH.cons (o := _) rfl (fun K hK => ?_) AllReadyH.nil
        go_simp; go_at_call 131; (with_reducible refine (l04One_any pS aS S cS w3.drew h6).mono ?_); rintro e wa ⟨ra, ka, rfl, o_, b_⟩; have SSa := Lib.hid ((hs3.out).below b_ hdd); have HBa := Lib.hid (below_step HBD.out (Nat.le_of_lt hdd.1) b_); have zz_ := b_.size; have HCa := Lib.hid b_; have hda := And.intro (Nat.lt_of_lt_of_le hdd.1 zz_) (Nat.lt_of_lt_of_le hdd.2 zz_); have Oa_a := Lib.hid (OwnR.mono' o_ (Nat.le_of_lt hdd.1) (Nat.le_refl _)); have Ra_a := Lib.hid (Oa_a.out.row); clear b_ o_; (try go_wp2_with fail)
        refine hK.out _ _ (SSa.out) (fun hHeld => ?_)
        clear hK K
        ((try simp only [Act.put]); (try simp only [List.setIfInBounds_toArray]); (try simp only [List.set_cons_succ]); (try simp only [List.set_cons_zero]))
        refine wpAnyH_ready (rs := [13]) (by kernel_rfl) (by simp) ?_
        refine AllReadyH.cons (o := _) rfl (fun K hK => ?_) AllReadyH.nil
        go_simp; go_at_call 130; (with_reducible refine (scale_one pS F S ra ka w.heap.size wa.heap.size wa HI.out Ra_a.out (Nat.le_refl _) HFB.out.1 hFp).mono ?_); rintro e wab ⟨rb, kb, rfl, o_, b_⟩; have SSab := Lib.hid ((SSa.out).below b_ hda); have HBab := Lib.hid (below_step HBa.out (Nat.le_of_lt hda.1) b_); have zz_ := b_.size; have HCab := Lib.hid (below_step HCa.out (HCa.out).size b_); have hdab := And.intro (Nat.lt_of_lt_of_le hda.1 zz_) (Nat.lt_of_lt_of_le hda.2 zz_); have Ra_ab := Lib.hid ((Ra_a.out.below b_ (Nat.le_refl _)).mono (Nat.le_refl _) zz_); have Rb_ab := Lib.hid (o_.mono (Nat.le_of_lt hda.1) (Nat.le_refl _)); clear b_ o_; (try go_wp2_with fail)
        refine hK.out _ _ (SSab.out) (fun hHeld => ?_)
        clear hK K
        ((try simp only [Act.put]); (try simp only [List.setIfInBounds_toArray]); (try simp only [List.set_cons_succ]); (try simp only [List.set_cons_zero]))
        refine wpAnyH_ready (rs := [14]) (by kernel_rfl) (by simp) ?_
        refine AllReadyH.cons (o := _) rfl (fun K hK => ?_) AllReadyH.nil
        go_simp; go_at_call 99; (with_reducible refine (same_one pS F S x bn w.heap.size w3.drew.heap.size rb (mOne S).length kb w.heap.size wab.heap.size wab HI.out HFE.out rfl (RND.out.below HCab.out (Nat.le_refl _)) Rb_ab.out).mono ?_); rintro e wabc ⟨rfl, b_⟩; rw [HSC.out]; have SSabc := Lib.hid ((SSab.out).below b_ hdab); have HBabc := Lib.hid (below_step HBab.out (Nat.le_of_lt hdab.1) b_); have zz_ := b_.size; have HCabc := Lib.hid (below_step HCab.out (HCab.out).size b_); have hdabc := And.intro (Nat.lt_of_lt_of_le hdab.1 zz_) (Nat.lt_of_lt_of_le hdab.2 zz_); have Ra_abc := Lib.hid ((Ra_ab.out.below b_ (Nat.le_refl _)).mono (Nat.le_refl _) zz_); have Rb_abc := Lib.hid ((Rb_ab.out.below b_ (Nat.le_refl _)).mono (Nat.le_refl _) zz_); clear b_; (try go_wp2_with fail)
        refine hK.out _ _ (SSabc.out) (fun hHeld => ?_)
        clear hK K
        ((try simp only [Act.put]); (try simp only [List.setIfInBounds_toArray]); (try simp only [List.set_cons_succ]); (try simp only [List.set_cons_zero]))
        (refine wpAnyH_take (i := 15) (oi := _) (v := ?_) rfl (by kernel_rfl) (by kernel_rfl) (by kernel_rfl) (fun _ _ _ h => h) (Or.inl ⟨by kernel_rfl, ?_⟩) (by assumption) ?_; rotate_left; (focus (intro w' hSw; (try dsimp only at hSw); first | (go_simp; done) | (go_simp; with_reducible rfl)))); ((try simp only [Act.put]); (try simp only [List.setIfInBounds_toArray]); (try simp only [List.set_cons_succ]); (try simp only [List.set_cons_zero]))
        (refine wpAnyH_take (i := 16) (oi := _) (v := ?_) rfl (by kernel_rfl) (by kernel_rfl) (by kernel_rfl) (fun _ _ _ h => h) (Or.inl ⟨by kernel_rfl, ?_⟩) (by assumption) ?_; rotate_left; (focus (intro w' hSw; (try dsimp only at hSw); first | (go_simp; done) | (go_simp; with_reducible rfl)))); (try simp only [List.getElem_toArray, List.getElem_cons_succ, List.getElem_cons_zero]); ((try simp only [Act.put]); (try simp only [List.setIfInBounds_toArray]); (try simp only [List.set_cons_succ]); (try simp only [List.set_cons_zero]))
        (refine wpAnyH_take (i := 17) (oi := _) (v := ?_) rfl (by kernel_rfl) (by kernel_rfl) (by kernel_rfl) (fun _ _ _ h => h) (Or.inl ⟨by kernel_rfl, ?_⟩) (by assumption) ?_; rotate_left; (focus (intro w' hSw; (try dsimp only at hSw); first | (go_simp; done) | (go_simp; with_reducible rfl)))); (try simp only [List.getElem_toArray, List.getElem_cons_succ, List.getElem_cons_zero]); ((try simp only [Act.put]); (try simp only [List.setIfInBounds_toArray]); (try simp only [List.set_cons_succ]); (try simp only [List.set_cons_zero]))
        (refine wpAnyH_take (i := 18) (oi := _) (v := ?_) rfl (by kernel_rfl) (by kernel_rfl) (by kernel_rfl) (fun _ _ _ h => h) (Or.inl ⟨by kernel_rfl, ?_⟩) (by assumption) ?_; rotate_left; (focus (intro w' hSw; (try dsimp only at hSw); first | (go_simp; done) | (go_simp; with_reducible rfl)))); (try simp only [List.getElem_toArray, List.getElem_cons_succ, List.getElem_cons_zero]); ((try simp only [Act.put]); (try simp only [List.setIfInBounds_toArray]); (try simp only [List.set_cons_succ]); (try simp only [List.set_cons_zero]))
        (refine wpAnyH_take (i := 19) (oi := _) (v := ?_) rfl (by kernel_rfl) (by kernel_rfl) (by kernel_rfl) (fun _ _ _ h => h) (Or.inl ⟨by kernel_rfl, ?_⟩) (by assumption) ?_; rotate_left; (focus (intro w' hSw; (try dsimp only at hSw); first | (go_simp; done) | (go_simp; with_reducible rfl)))); (try simp only [List.getElem_toArray, List.getElem_cons_succ, List.getElem_cons_zero]); ((try simp only [Act.put]); (try simp only [List.setIfInBounds_toArray]); (try simp only [List.set_cons_succ]); (try simp only [List.set_cons_zero]))
        refine wpAnyH_ready (rs := [20]) (by kernel_rfl) (by simp) ?_
        refine AllReadyH.cons (o := _) rfl (fun K hK => ?_) AllReadyH.nil
        go_simp; go_at_call 132; (with_reducible refine (l07Even_any pS aS S cS loS tpS ax x cx lox tpx wabc HI.out (HS.out.below HBabc.out tS) (Nat.le_trans tS (HBabc.out).size) (Hx.out.below HBabc.out tx) (Nat.le_trans tx (HBabc.out).size) HMx.out).mono ?_); rintro e wabcd ⟨rfl, b_⟩; rw [← HVE.out]; have SSabcd := Lib.hid ((SSabc.out).below b_ hdabc); have HBabcd := Lib.hid (below_step HBabc.out (Nat.le_of_lt hdabc.1) b_); have zz_ := b_.size; have HCabcd := Lib.hid (below_step HCabc.out (HCabc.out).size b_); have hdabcd := And.intro (Nat.lt_of_lt_of_le hdabc.1 zz_) (Nat.lt_of_lt_of_le hdabc.2 zz_); have Ra_abcd := Lib.hid ((Ra_abc.out.below b_ (Nat.le_refl _)).mono (Nat.le_refl _) zz_); have Rb_abcd := Lib.hid ((Rb_abc.out.below b_ (Nat.le_refl _)).mono (Nat.le_refl _) zz_); clear b_; (try go_wp2_with fail)
        refine hK.out _ _ (SSabcd.out) (fun hHeld => ?_)
        clear hK K
        ((try simp only [Act.put]); (try simp only [List.setIfInBounds_toArray]); (try simp only [List.set_cons_succ]); (try simp only [List.set_cons_zero]))
        (refine wpAnyH_take (i := 21) (oi := _) (v := ?_) rfl (by kernel_rfl) (by kernel_rfl) (by kernel_rfl) (fun _ _ _ h => h) (Or.inl ⟨by kernel_rfl, ?_⟩) (by assumption) ?_; rotate_left; (focus (intro w' hSw; (try dsimp only at hSw); first | (go_simp; done) | (go_simp; with_reducible rfl)))); (try simp only [List.getElem_toArray, List.getElem_cons_succ, List.getElem_cons_zero]); ((try simp only [Act.put]); (try simp only [List.setIfInBounds_toArray]); (try simp only [List.set_cons_succ]); (try simp only [List.set_cons_zero]))
        (refine wpAnyH_take (i := 22) (oi := _) (v := ?_) rfl (by kernel_rfl) (by kernel_rfl) (by kernel_rfl) (fun _ _ _ h => h) (Or.inl ⟨by kernel_rfl, ?_⟩) (by assumption) ?_; rotate_left; (focus (intro w' hSw; (try dsimp only at hSw); first | (go_simp; done) | (go_simp; with_reducible rfl)))); (try simp only [List.getElem_toArray, List.getElem_cons_succ, List.getElem_cons_zero]); ((try simp only [Act.put]); (try simp only [List.setIfInBounds_toArray]); (try simp only [List.set_cons_succ]); (try simp only [List.set_cons_zero]))
        refine wpAnyH_done (by kernel_rfl) ?_ _
        refine NoPanic.normal ?_
        go_wp2_with fail
        go_meet
        exact ⟨by rw [← HB_.out], Lib.hid ⟨SSabcd.out.1, SSabcd.out.2.1⟩, HCabcd⟩
  case rest =>
    obtain ⟨rfl, S7, HC7⟩ := hcut
    have HB7 : Hid (Below w.heap.size w wc) := below_step HBD.out (Nat.le_of_lt hdd.1) HC7.out
    have RB7 : Hid (RowIn w.heap.size w3.drew.heap.size wc r2 (revM pS x)) := RBD.out.below HC7.out (Nat.le_refl _)
    have hz7 : w3.drew.heap.size ≤ wc.heap.size := HC7.out.size
    have hd7 : w.heap.size < wc.heap.size := Nat.lt_of_lt_of_le hdd.1 hz7
    clear hs3 RND RBD hVn hdd HBD
    cases hB0 : BAD with
    | true =>
      have HIV : Hid (isVr pS S x = false) := by
        show _ = _
        rw [HBA.out] at hB0
        refine isVr_no fun h => ?_
        rw [decide_eq_false h.1, h.2.1, show (parB x 0 || parB x 1) = true by rw [Bool.or_eq_true]; exact h.2.2.1] at hB0
        cases hB0
      clear hB0
      obtain ⟨k0, k1⟩ := S7.out
      go_wp2
      go_ret
      exact ⟨by rw [HIV.out]; rfl, HB7.out⟩
    | false =>
      have HIV : Hid (isVr pS S x = (List.range S.length).all (ldB pS S x)) := by
        show _ = _
        rw [HBA.out, Bool.or_eq_false_iff, Bool.or_eq_false_iff] at hB0
        have h1 : scB (nrM pS S x) = true := by simpa using hB0.1.2
        have h2 : (parB x 0 || parB x 1) = true := by
          have h3 := hB0.2
          revert h3
          cases parB x 0 <;> cases parB x 1 <;> simp
        unfold isVr
        rw [h1, h2, decide_eq_true (of_decide_eq_false hB0.1.1)]; rfl
      clear hB0
      obtain ⟨k0, k1⟩ := S7.out
      go_wp2
      go_loopw [7] (fun s7 wr => ∃ i : Nat, i ≤ S.length ∧ s7 = .int .i64 i ∧ (∀ j, j < i → ldB pS S x j = true) ∧ Below wc.heap.size wc wr) (fun t _ => S.length - (intOf t).toNat)
      case atStart => exact ⟨0, Nat.zero_le _, rfl, fun j hj => by omega, Below.refl _ _⟩
      case round =>
        obtain ⟨i, hi, rfl, hall, hbel⟩ := hrel
        have HALL := Lib.hid hall
        have HBEL := Lib.hid hbel
        have hwz := hbel.size
        have HBR : Hid (Below w.heap.size w wr) := below_step HB7.out HB7.out.size hbel
        have SR := Lib.hid (ss2 hbel hd7 S7.out)
        have hdr : w.heap.size < wr.heap.size := Nat.lt_of_lt_of_le hd7 hwz
        obtain ⟨k0, k1⟩ := SR.out
        by_cases hlt : i < S.length
        · have hi1 : (i : Int) < (S.length : Int) := by omega
          have hmk := HMK.out wr
          clear hall hbel
          go_upto_region 9 with fail
          obtain ⟨w7, hw7⟩ : ∃ z, z = wr.alloc (.cells (madeCells #[.int .i64 0] S.length) 2) := ⟨_, rfl⟩
          obtain ⟨g, hg⟩ : ∃ b, b = wr.heap.size := ⟨_, rfl⟩
          have HO7 : Hid (RowOwn w7 g 0 S.length (fun _ => 0)) := by show RowOwn _ _ _ _ _; rw [hw7, hg]; exact RowOwn.start wr S.length _
          have b7_ : Below wr.heap.size wr w7 := by rw [hw7]; exact below_alloc _ _
          have ug : g < w7.heap.size := by rw [hw7, hg]; simp
          have lg : w.heap.size < g := by rw [hg]; exact hdr
          have lrg : wc.heap.size ≤ g := by rw [hg]; exact hwz
          have HB8 := Lib.hid (below_step HBR.out (Nat.le_of_lt hdr) b7_)
          have HBEL8 := Lib.hid (below_step HBEL.out hwz b7_)
          have S8 := Lib.hid (ss2 b7_ hdr SR.out)
          rw [← hw7, ← hg]
          clear hmk hw7 hg b7_ k0 k1
          obtain ⟨k0, k1⟩ := S8.out
          have c7 := HO7.out.cell i hlt
          have f7 := HO7.out.free i hlt
          rw [Nat.zero_add] at c7 f7
          go_upto_region 10 with fail
          obtain ⟨w8, hw8⟩ : ∃ z, z = w7.setCell ⟨g, i, none⟩ (.int .i64 1) := ⟨_, rfl⟩
          have HO8 : Hid (RowOwn w8 g 0 S.length (fun j => if j = i then 1 else 0)) := by show RowOwn _ _ _ _ _; rw [hw8]; exact row_put0 HO7.out hlt (fun j _ => rfl)
          have hz8 : w8.heap.size = w7.heap.size := by rw [hw8]; simp [World.setCell]
          have HB9 : Hid (Below w.heap.size w w8) := by show Below _ _ _; rw [hw8]; exact HB8.out.setCell (Nat.le_of_lt lg) _
          have HBEL9 : Hid (Below wc.heap.size wc w8) := by show Below _ _ _; rw [hw8]; exact HBEL8.out.setCell lrg _
          have S9 : Hid (w8.cell? ⟨w.heap.size, 0, none⟩ = some (.int .i64 pS) ∧ w8.cell? ⟨w.heap.size, 1, none⟩ = some (.slice aS S.length cS)) := by
            show _ ∧ _
            rw [hw8]
            exact ⟨(World.cell?_setCell_other _ _ _ _ (by first | (simp; done) | (simp; omega))).trans S8.out.1, (World.cell?_setCell_other _ _ _ _ (by first | (simp; done) | (simp; omega))).trans S8.out.2⟩
          rw [← hw8]
          clear hw8 c7 f7 k0 k1
          have ug8 : g < w8.heap.size := by rw [hz8]; exact ug
          have hse : Hid (w8.drew.cell? ⟨w.heap.size, 0, none⟩ = some (.int .i64 pS) ∧ w8.drew.cell? ⟨w.heap.size, 1, none⟩ = some (.slice aS S.length cS)) := S9.out
          have HBE : Hid (Below w.heap.size w w8.drew) := HB9.out.drew
          have HBELE : Hid (Below wc.heap.size wc w8.drew) := HBEL9.out.drew
          have hde : w.heap.size < w8.drew.heap.size := Nat.lt_trans lg ug8
          have REI : Hid (RowIn w.heap.size w8.drew.heap.size w8.drew (some ⟨g, 0, none⟩) (eiR S.length i)) := ei_in (w := w8.drew) ⟨HO8.out.cell, HO8.out.free⟩ (Nat.le_of_lt lg) ug8
          have RBE : Hid (RowIn w.heap.size w8.drew.heap.size w8.drew r2 (revM pS x)) := (RB7.out.below HBELE.out hz7).mono (Nat.le_refl _) (Nat.le_trans hz7 HBELE.out.size)
          have HEV := Lib.hid (ei_vec hp1 S.length i)
          have hzE : wc.heap.size ≤ w8.drew.heap.size := HBELE.out.size
          go_region_held3 (fun w' => w'.cell? ⟨w.heap.size, 0, none⟩ = some (.int .i64 pS) ∧ w'.cell? ⟨w.heap.size, 1, none⟩ = some (.slice aS S.length cS)) (first | exact hse.out | exact SSa.out | exact SSab.out | exact SSabc.out | exact SSabcdX.out | go_keep) (first | (go_at_call 133; (with_reducible refine (l04Inv7 pS aS S cS ax x cx lox tpx w8.drew HI.out (Hx.out.below HBE.out tx) (Nat.le_trans tx (HBE.out).size) HMx.out).mono ?_); rintro e wa ⟨ra, ka, rfl, o_, b_⟩; have SSa := Lib.hid (ss2 b_ hde hse.out); have HBa := Lib.hid (below_step HBE.out (Nat.le_of_lt hde) b_); have zz_ := b_.size; have HCa := Lib.hid b_; have hda := Nat.lt_of_lt_of_le hde zz_; have Ra_a := Lib.hid (o_.mono (Nat.le_of_lt hde) (Nat.le_refl _)); clear b_ o_) | (go_at_call 134; (with_reducible refine (l04Vector_ei pS aS S cS g i w.heap.size w8.drew.heap.size wa h6 (REI.out.below HCa.out (Nat.le_refl _)) HCa.out.size).mono ?_); rintro e wab ⟨bb, rfl, l_, u_, o_, b_⟩; have SSab := Lib.hid (ss2 b_ hda SSa.out); have HBab := Lib.hid (below_step HBa.out (Nat.le_of_lt hda) b_); have zz_ := b_.size; have HCab := Lib.hid (below_step HCa.out (HCa.out).size b_); have hdab := Nat.lt_of_lt_of_le hda zz_; have Ra_ab := Lib.hid ((Ra_a.out.below b_ (Nat.le_refl _)).mono (Nat.le_refl _) zz_); have lb := Nat.lt_of_lt_of_le hda l_; have ub_ab := u_; have Nb_ab := Lib.hid o_; have Rb_ab := Lib.hid ((o_.own (Nat.le_of_lt lb) u_).row); clear b_ o_) | (go_at_call 129; (with_reducible refine (l04Times_v pS aS S cS loS tpS ra (ivM pS x) x.length ka w.heap.size wab.heap.size bb w.heap.size wab.heap.size (eiR S.length i) wab (ivM_len _ _) HI.out (HS.out.below HBab.out tS) (Nat.le_trans tS (HBab.out).size) Ra_ab.out (Nat.le_refl _) (iv_mv HI.out HMx.out) Rb_ab.out (Nat.le_refl _) HEV.out).mono ?_); rintro e wabc ⟨rc, kc, rfl, o_, b_⟩; have SSabc := Lib.hid (ss2 b_ hdab SSab.out); have HBabc := Lib.hid (below_step HBab.out (Nat.le_of_lt hdab) b_); have zz_ := b_.size; have HCabc := Lib.hid (below_step HCab.out (HCab.out).size b_); have hdabc := Nat.lt_of_lt_of_le hdab zz_; have Ra_abc := Lib.hid ((Ra_ab.out.below b_ (Nat.le_refl _)).mono (Nat.le_refl _) zz_); have Rb_abc := Lib.hid ((Rb_ab.out.below b_ (Nat.le_refl _)).mono (Nat.le_refl _) zz_); have Nb_abc := Lib.hid (Nb_ab.out.stay (b_.block bb ub_ab)); have ub_abc := Nat.lt_of_lt_of_le ub_ab zz_; have Oc_abc := Lib.hid (OwnR.mono' o_ (Nat.le_of_lt hdab) (Nat.le_refl _)); have Rc_abc := Lib.hid (Oc_abc.out.row); clear b_ o_) | (go_at_call 129; (with_reducible refine (l04Times_m pS aS S cS loS tpS rc (prodM pS S (ivM pS x) (vecM S (eiR S.length i))) _ kc w.heap.size wabc.heap.size r2 (revM pS x) x.length c2 w.heap.size w8.drew.heap.size wabc rfl (revM_len _ _) HI.out (HS.out.below HBabc.out tS) (Nat.le_trans tS (HBabc.out).size) Rc_abc.out (Nat.le_refl _) (prod_mv HI.out _ _) (RBE.out.below HCabc.out (Nat.le_refl _)) HCabc.out.size (rev_mv HI.out HMx.out)).mono ?_); rintro e wabcdX ⟨rd, kd, rfl, o_, b_⟩; have SSabcdX := Lib.hid (ss2 b_ hdabc SSabc.out); have HBabcdX := Lib.hid (below_step HBabc.out (Nat.le_of_lt hdabc) b_); have zz_ := b_.size; have HCabcdX := Lib.hid (below_step HCabc.out (HCabc.out).size b_); have hdabcdX := Nat.lt_of_lt_of_le hdabc zz_; have Ra_abcdX := Lib.hid ((Ra_abc.out.below b_ (Nat.le_refl _)).mono (Nat.le_refl _) zz_); have Rb_abcdX := Lib.hid ((Rb_abc.out.below b_ (Nat.le_refl _)).mono (Nat.le_refl _) zz_); have Nb_abcdX := Lib.hid (Nb_abc.out.stay (b_.block bb ub_abc)); have ub_abcdX := Nat.lt_of_lt_of_le ub_abc zz_; have Rc_abcdX := Lib.hid ((Rc_abc.out.below b_ (Nat.le_refl _)).mono (Nat.le_refl _) zz_); have Od_abcdX := Lib.hid (OwnR.mono' o_ (Nat.le_of_lt hdabc) (Nat.le_refl _)); have Rd_abcdX := Lib.hid (Od_abcdX.out.row); clear b_ o_))
          obtain ⟨B, hBe⟩ : ∃ b, b = ldB pS S x i := ⟨_, rfl⟩
          have HBQ := Lib.hid hBe
          clear hBe
          obtain ⟨k0, k1⟩ := SSabcdX.out
          have hel : (prodM pS S (prodM pS S (ivM pS x) (vecM S (eiR S.length i))) (revM pS x)).length = (arM pS S x (eiR S.length i)).length := rfl
          have RIM : Hid (RowIn w.heap.size wabcdX.heap.size wabcdX rd (arM pS S x (eiR S.length i))) := Rd_abcdX.out
          rw [hel]
          clear hel
          have HBELX : Hid (Below wc.heap.size wc wabcdX) := below_step HBELE.out hzE HCabcdX.out
          cases hBv : B with
          | true =>
            have HB1 : Hid (ldB pS S x i = true) := by show _ = _; rw [← HBQ.out, hBv]
            clear hBv
            go_wp2_with (first | (go_at_call 135; ((with_reducible refine (part_one pS S x i rd (arM pS S x (eiR S.length i)).length kd w.heap.size wabcdX.heap.size wabcdX HI.out rfl RIM.out (Nat.le_refl _)).mono ?_); rintro e wp ⟨bp, rfl, l_, u_, o_, b_⟩; have RP := Lib.hid ((o_.own (Nat.le_of_lt (Nat.lt_of_lt_of_le hdabcdX l_)) u_).row); have RIP := Lib.hid (RIM.out.below b_ (Nat.le_refl _)); have HBP := Lib.hid (below_step HBabcdX.out HBabcdX.out.size b_); have HBELP := Lib.hid (below_step HBELX.out HBELX.out.size b_); clear o_ b_ l_ u_ k0 k1)) | (go_at_call 99; ((with_reducible refine (same_part pS S x i rd (arM pS S x (eiR S.length i)).length kd w.heap.size wabcdX.heap.size bp w.heap.size wp.heap.size wp HI.out rfl RIP.out RP.out).mono ?_); rintro e ws ⟨rfl, b_⟩; rw [HB1.out]; have HBS := Lib.hid (below_step HBP.out HBP.out.size b_); have HBELS := Lib.hid (below_step HBELP.out HBELP.out.size b_); clear b_)))
            go_roundw
            case rel => exact ⟨i + 1, by omega, by go_num, fun j hj => by
              by_cases e : j = i
              · subst e; exact HB1.out
              · exact HALL.out j (by omega), HBELS.out⟩
            case measure => simp [intOf]; omega
          | false =>
            have HB1 : Hid (ldB pS S x i = false) := by show _ = _; rw [← HBQ.out, hBv]
            have HV2 : Hid ((List.range S.length).all (ldB pS S x) = false) := by
              show _ = _
              rw [List.all_eq_false]
              exact ⟨i, List.mem_range.2 hlt, by rw [HB1.out]; decide⟩
            clear hBv
            go_wp2_with (first | (go_at_call 135; ((with_reducible refine (part_one pS S x i rd (arM pS S x (eiR S.length i)).length kd w.heap.size wabcdX.heap.size wabcdX HI.out rfl RIM.out (Nat.le_refl _)).mono ?_); rintro e wp ⟨bp, rfl, l_, u_, o_, b_⟩; have RP := Lib.hid ((o_.own (Nat.le_of_lt (Nat.lt_of_lt_of_le hdabcdX l_)) u_).row); have RIP := Lib.hid (RIM.out.below b_ (Nat.le_refl _)); have HBP := Lib.hid (below_step HBabcdX.out HBabcdX.out.size b_); have HBELP := Lib.hid (below_step HBELX.out HBELX.out.size b_); clear o_ b_ l_ u_ k0 k1)) | (go_at_call 99; ((with_reducible refine (same_part pS S x i rd (arM pS S x (eiR S.length i)).length kd w.heap.size wabcdX.heap.size bp w.heap.size wp.heap.size wp HI.out rfl RIP.out RP.out).mono ?_); rintro e ws ⟨rfl, b_⟩; rw [HB1.out]; have HBS := Lib.hid (below_step HBP.out HBP.out.size b_); have HBELS := Lib.hid (below_step HBELP.out HBELP.out.size b_); clear b_)))
            go_ret
            exact ⟨by rw [HIV.out, HV2.out]; rfl, HBS.out⟩
        · have hin : i = S.length := by omega
          subst hin
          have HV2 : Hid ((List.range S.length).all (ldB pS S x) = true) := List.all_eq_true.2 fun j hj => hall j (List.mem_range.1 hj)
          clear hall hbel
          go_wp2
          go_ret
          exact ⟨by rw [HIV.out, HV2.out]; rfl, HBR.out⟩

end Go.Proofs.Ytigdepahbnidjaa
