/-
  The walk of the law on squares of vectors: FnVectorSquares.
  Conditions: the code is nil or a row of known bytes.
-/
import Derived.Test.YtcamegdjdjacpaaQf10
import Derived.Deep.RegionHeld3
import Derived.Deep.DeepCutAuto
namespace Go.Proofs.Ytcamegdjdjacpaa
open Go.RowKit
set_option linter.unusedVariables false

theorem all_two' (f : List Int → Bool) (x y : List Int) : [x, y].all f = (f x && f y) := by simp
theorem cells2_alloc {w : World} {g : Nat} {u0 u1 : Value} (o : Obj) (l : g < w.heap.size) (h0 : w.cell? ⟨g, 0, none⟩ = some u0 ∧ w.cell? ⟨g, 1, none⟩ = some u1) : (w.alloc o).cell? ⟨g, 0, none⟩ = some u0 ∧ (w.alloc o).cell? ⟨g, 1, none⟩ = some u1 :=
  ⟨((below_alloc w o).cell (p := ⟨g, 0, none⟩) l).trans h0.1, ((below_alloc w o).cell (p := ⟨g, 1, none⟩) l).trans h0.2⟩
theorem cells2_far {w : World} {g k i : Nat} {u0 u1 x : Value} (hne : g ≠ k) (h0 : w.cell? ⟨g, 0, none⟩ = some u0 ∧ w.cell? ⟨g, 1, none⟩ = some u1) : (w.setCell ⟨k, i, none⟩ x).cell? ⟨g, 0, none⟩ = some u0 ∧ (w.setCell ⟨k, i, none⟩ x).cell? ⟨g, 1, none⟩ = some u1 :=
  ⟨(World.cell?_setCell_other _ ⟨k, i, none⟩ ⟨g, 0, none⟩ _ (fun e => by injection e with e1; omega)).trans h0.1, (World.cell?_setCell_other _ ⟨k, i, none⟩ ⟨g, 1, none⟩ _ (fun e => by injection e with e1; omega)).trans h0.2⟩
theorem unit_in {lo tp : Nat} {w : World} {g : Nat} {S : List Int} {z : Int} (h : RowOwn w g 0 (bl S) (fun _ => 0)) (h0 : lo ≤ g) (h1 : g < tp) (hb : 0 < bl S) : RowIn lo tp (w.setCell ⟨g, 0, none⟩ (.int .i64 z)) (some ⟨g, 0, none⟩) (unitR S z) :=
  rowOwn_in (rowOwn_put0 h hb z) h0 h1
theorem numsV {p : Int} {n : Nat} {v : List Int} (h : isVec p n v = true) : ∀ j, j < v.length → 0 ≤ v.getD j 0 ∧ v.getD j 0 < p := fun j hj => (isVec_iff.1 h).num (by rw [← (isVec_iff.1 h).len]; exact hj)
theorem like_eq (a c : Option Addr) (za zb : List Int) (k1 k2 lo hi lo' hi' : Nat) (w : World) (hb : RowIn lo hi w a za) (hc : RowIn lo' hi' w c zb) (he : za = zb) {n : Nat} (hn : zb.length = n) (hl : za.length ≤ 1048576) :
    Calls Try.prog 16 #[.slice a za.length k1, .slice c n k2] w fun e w' => e = .returned (.bool true) ∧ Quiet w w' := by
  subst hn
  subst he
  exact likeInts_same a c za k1 k2 lo hi lo' hi' w hb hc hl
theorem vecM_mv {p : Int} {S v : List Int} (hs : isSp p S = true) (hv : isVec p S.length v = true) : isMv p S (vecM S v) = true := by
  have hp := prm_bd (isSp_iff.1 hs).prime
  have hn := numsV hv
  refine vec_of (by unfold vecM; rw [mkR_len]) fun j hj => ?_
  unfold vecM at hj ⊢
  rw [mkR_len] at hj
  rw [mkR_at _ hj]
  have key : ∀ k, k ≤ v.length → 0 ≤ vecF v k j ∧ vecF v k j < p := fun k => by
    induction k with
    | zero => intro _; show 0 ≤ (0 : Int) ∧ (0 : Int) < p; omega
    | succ k ih =>
      intro h
      show 0 ≤ (if j = 2 ^ k then v.getD k 0 else vecF v k j) ∧ (if j = 2 ^ k then v.getD k 0 else vecF v k j) < p
      split
      · exact hn k (by omega)
      · exact ih (by omega)
  exact key v.length (Nat.le_refl _)
theorem unit_len (S : List Int) (z : Int) : (unitR S z).length = bl S := by unfold unitR; rw [mkR_len]

set_option maxRecDepth 100000 in
set_option maxHeartbeats 16000000 in
theorem law_squares_v (a0 : Option Addr) (len cap : Nat) (zs : List Int) (w0 : World) (hb : Code8 w0 a0 len zs) (hl : len ≤ 4096) :
    Calls Try.prog 4 #[.slice a0 len cap] w0 fun e w' => e = .returned (.bool true) ∧ Below w0.heap.size w0 w' := by
  have HC8 := Lib.hid hb
  clear hb
  go_enter Try.func4, Try.ntmps4
  go_upto_region 4 with (first | (go_at_call 12; refine (big_no a0 len cap _ hl).mono ?_; rintro e w' ⟨rfl, rfl⟩) | (go_at_call 28; (with_reducible refine (drawPair_any a0 len cap zs _ HC8.out hl).mono ?_); rintro e w ⟨pS, aS, S, cS, ax, x, cx, ay, y, cy, rfl, hX, hY, hZ, hS, hx, hy, hb0⟩; have HS := Lib.hid hS; have Hx := Lib.hid hx; have Hy := Lib.hid hy; have HB00 := Lib.hid hb0; have HL := Lib.hid (And.intro hX (And.intro hY hZ)); clear hS hx hy hb0 hX hY hZ))
  have tS : w.heap.size ≤ w.heap.size := Nat.le_refl _
  have sS : S.length ≤ 1048576 := by have := HL.out.1; omega
  have sx : x.length ≤ 1048576 := by have := HL.out.2.1; omega
  have sy : y.length ≤ 1048576 := by have := HL.out.2.2; omega
  obtain ⟨w1, hw1⟩ : ∃ z, z = w.alloc (.cells #[.int .i64 pS, .slice aS S.length cS] 26) := ⟨_, rfl⟩
  have SS1 : Hid (w1.cell? ⟨w.heap.size, 0, none⟩ = some (.int .i64 pS) ∧ w1.cell? ⟨w.heap.size, 1, none⟩ = some (.slice aS S.length cS)) := by show _ ∧ _; rw [hw1]; exact ⟨nw0 w _ _ _, nw1 w _ _ _⟩
  have HB1 : Hid (Below w.heap.size w w1) := by show Below _ _ _; rw [hw1]; exact below_alloc w _
  have hd1 : w.heap.size < w1.heap.size := by rw [hw1]; simp
  have kk0 := SS1.out.1
  have kk1 := SS1.out.2
  rw [← hw1]
  clear hw1
  rcases codeVs_cases pS S [x, y] with ⟨hi, hc⟩ | ⟨hi, ha, hc⟩ | ⟨hi, ha, hc⟩
  · have HI := Lib.hid hi
    have HC := Lib.hid hc
    clear hi hc
    go_wp2_with (first | (go_at_call 29; (with_reducible refine (spec_PairOf pS aS S cS w0.heap.size w.heap.size ax x cx w0.heap.size w.heap.size ay y cy w0.heap.size w.heap.size w1 (HS.out.below HB1.out tS) (Nat.le_trans tS (HB1.out).size) sS (Hx.out.below HB1.out tS) (Nat.le_trans tS (HB1.out).size) sx (Hy.out.below HB1.out tS) (Nat.le_trans tS (HB1.out).size) sy).mono ?_); rintro e w2 ⟨rfl, b_⟩; have SS2 := Lib.hid (And.intro ((b_.cell (p := ⟨w.heap.size, 0, none⟩) hd1).trans SS1.out.1) ((b_.cell (p := ⟨w.heap.size, 1, none⟩) hd1).trans SS1.out.2)); have HB2 := Lib.hid (below_step HB1.out (Nat.le_of_lt hd1) b_); have zz_ := b_.size; have hd2 := Nat.lt_of_lt_of_le hd1 zz_; rw [HC.out]; have kc2_0 := SS2.out.1; have kc2_1 := SS2.out.2; clear b_) | (go_at_call 30; (with_reducible refine (impl_PairOf pS aS S cS w0.heap.size w.heap.size ax x cx w0.heap.size w.heap.size ay y cy w0.heap.size w.heap.size w2 (HS.out.below HB2.out tS) (Nat.le_trans tS (HB2.out).size) sS (Hx.out.below HB2.out tS) (Nat.le_trans tS (HB2.out).size) sx (Hy.out.below HB2.out tS) (Nat.le_trans tS (HB2.out).size) sy).mono ?_); rintro e w3 ⟨rfl, b_⟩; have SS3 := Lib.hid (And.intro ((b_.cell (p := ⟨w.heap.size, 0, none⟩) hd2).trans SS2.out.1) ((b_.cell (p := ⟨w.heap.size, 1, none⟩) hd2).trans SS2.out.2)); have HB3 := Lib.hid (below_step HB2.out (Nat.le_of_lt hd2) b_); have zz_ := b_.size; have hd3 := Nat.lt_of_lt_of_le hd2 zz_; rw [HC.out]; have kc3_0 := SS3.out.1; have kc3_1 := SS3.out.2; clear b_))
    go_ret
    exact ⟨rfl, HB00.out.trans (HB3.out.mono HB00.out.size)⟩
  · have HI := Lib.hid hi
    have HC := Lib.hid hc
    rw [all_two', Bool.and_eq_true] at ha
    have HVX := Lib.hid ha.1
    have HVY := Lib.hid ha.2
    have HP := Lib.hid (isSp_iff.1 hi).prime
    have hpb := prm_bd (isSp_iff.1 hi).prime
    have h6 := (isSp_iff.1 hi).hi
    have hbl := bl_le h6
    have hb0 := bl_pos S
    have hlx : x.length = S.length := (isVec_iff.1 ha.1).len
    have hly : y.length = S.length := (isVec_iff.1 ha.2).len
    obtain ⟨n, hn⟩ : ∃ n, n = pairN pS S x y := ⟨_, rfl⟩
    have HN : Hid (pairV pS S x y = n) := by show _ = _; rw [hn]; exact (code_vec2 hi ha.1 ha.2).2
    have hnb : 0 ≤ n ∧ n < pS := by rw [hn]; exact pairN_bd (by omega) _ _ _
    obtain ⟨q, hq⟩ : ∃ q, q = pairN pS S x x := ⟨_, rfl⟩
    have HCXX := Lib.hid (code_vec2 hi ha.1 ha.1)
    have HNXX : Hid (pairV pS S x x = q) := by show _ = _; rw [hq]; exact HCXX.out.2
    have hqb : 0 ≤ q ∧ q < pS := by rw [hq]; exact pairN_bd (by omega) _ _ _
    obtain ⟨vx, hvx⟩ : ∃ z, z = vecM S x := ⟨_, rfl⟩
    obtain ⟨vy, hvy⟩ : ∃ z, z = vecM S y := ⟨_, rfl⟩
    obtain ⟨xy, hxy⟩ : ∃ z, z = prodM pS S vx vy := ⟨_, rfl⟩
    obtain ⟨yx, hyx⟩ : ∃ z, z = prodM pS S vy vx := ⟨_, rfl⟩
    obtain ⟨xx, hxx⟩ : ∃ z, z = prodM pS S vx vx := ⟨_, rfl⟩
    obtain ⟨bo, hbo⟩ : ∃ z, z = plusR pS xy yx 1 := ⟨_, rfl⟩
    obtain ⟨br, hbr⟩ : ∃ z, z = brM pS S vx vy := ⟨_, rfl⟩
    have EVX : Hid (vecM S x = vx) := hvx.symm
    have EVY : Hid (vecM S y = vy) := hvy.symm
    have EXY : Hid (prodM pS S vx vy = xy) := hxy.symm
    have EYX : Hid (prodM pS S vy vx = yx) := hyx.symm
    have EXX : Hid (prodM pS S vx vx = xx) := hxx.symm
    have EBO : Hid (plusR pS xy yx 1 = bo) := hbo.symm
    have EBR : Hid (brM pS S vx vy = br) := hbr.symm
    have EBM : Hid (plusR pS xy yx (-1) = br) := by show _ = _; rw [hbr]; unfold brM; rw [← hxy, ← hyx, minus_eq]; rfl
    have EBU : Hid (bo = unitR S (2 * n % pS)) := by show _ = _; rw [hbo, hxy, hyx, hvx, hvy, hn]; exact both_eq h6 hlx hly
    have EXU : Hid (xx = unitR S q) := by show _ = _; rw [hxx, hvx, hq]; exact square_eq h6 hlx
    have MVX : Hid (isMv pS S vx = true) := by show _ = _; rw [hvx]; exact vecM_mv hi ha.1
    have MVY : Hid (isMv pS S vy = true) := by show _ = _; rw [hvy]; exact vecM_mv hi ha.2
    have hxyl : xy.length = bl S := by rw [hxy, prodM_len]
    have hyxl : yx.length = bl S := by rw [hyx, prodM_len]
    have hxxl : xx.length = bl S := by rw [hxx, prodM_len]
    have hbol : bo.length = bl S := by rw [hbo, plusR_ln]; exact hxyl
    have hbrl : br.length = bl S := by rw [hbr, brM_len]
    have NXY : Hid (∀ j, j < xy.length → 0 ≤ xy.getD j 0 ∧ xy.getD j 0 < pS) := by show ∀ j, _; rw [hxy]; exact prodM_num (by omega) _ _ _
    have NYX : Hid (∀ j, j < yx.length → 0 ≤ yx.getD j 0 ∧ yx.getD j 0 < pS) := by show ∀ j, _; rw [hyx]; exact prodM_num (by omega) _ _ _
    have LXY : Hid (xy.length = yx.length) := hxyl.trans hyxl.symm
    have hxys : xy.length ≤ 1048576 := by omega
    have hbos : bo.length ≤ 1048576 := by omega
    have hbrs : br.length ≤ 1048576 := by omega
    have hxxs : xx.length ≤ 1048576 := by omega
    have hvxs : vx.length ≤ 1048576 := by rw [Mv.len MVX.out]; omega
    have hvys : vy.length ≤ 1048576 := by rw [Mv.len MVY.out]; omega
    have HCB : Hid (codeMv pS S [vx, vy] = 0) := codeMv_ok hi (by rw [mv_all2, MVX.out, MVY.out]; rfl)
    have HVB : Hid (brV pS S vx vy = br) := by show _ = _; unfold brV; rw [if_pos HCB.out]; exact EBR.out
    have LBO : Hid (bo.length = bl S) := hbol
    have LXX : Hid (xx.length = bl S) := hxxl
    have LU : Hid (∀ z, (unitR S z).length = bl S) := unit_len S
    have e1 : IntKind.i64.wrap (2 * n) = 2 * n := IntWalk.i64_in _ (by omega)
    have hmk := fun W => run_make_row' (P := Try.prog) 24 2 (.int .i64 0) 8 Try.underlying24 info64 rfl .i64 .i64 (bl S) (by omega) (by omega) W
    have hi0 : (0 : Int) < ((bl S : Nat) : Int) := by omega
    clear hi hc ha hn hq hvx hvy hxy hyx hxx hbo hbr hlx hly hxyl hyxl hxxl hbol hbrl
    go_upto_region 8 with (first | (go_at_call 29; (with_reducible refine (spec_PairOf pS aS S cS w0.heap.size w.heap.size ax x cx w0.heap.size w.heap.size ay y cy w0.heap.size w.heap.size w1 (HS.out.below HB1.out tS) (Nat.le_trans tS (HB1.out).size) sS (Hx.out.below HB1.out tS) (Nat.le_trans tS (HB1.out).size) sx (Hy.out.below HB1.out tS) (Nat.le_trans tS (HB1.out).size) sy).mono ?_); rintro e w2 ⟨rfl, b_⟩; have SS2 := Lib.hid (And.intro ((b_.cell (p := ⟨w.heap.size, 0, none⟩) hd1).trans SS1.out.1) ((b_.cell (p := ⟨w.heap.size, 1, none⟩) hd1).trans SS1.out.2)); have HB2 := Lib.hid (below_step HB1.out (Nat.le_of_lt hd1) b_); have zz_ := b_.size; have hd2 := Nat.lt_of_lt_of_le hd1 zz_; rw [HC.out, HN.out]; have kc2_0 := SS2.out.1; have kc2_1 := SS2.out.2; clear b_))
    have SS3 : Hid (w2.drew.cell? ⟨w.heap.size, 0, none⟩ = some (.int .i64 pS) ∧ w2.drew.cell? ⟨w.heap.size, 1, none⟩ = some (.slice aS S.length cS)) := SS2.out
    have HB3 : Hid (Below w.heap.size w w2.drew) := (HB2.out).drew
    have hd3 : w.heap.size < w2.drew.heap.size := hd2
    go_region_held3 (fun w' => w'.cell? ⟨w.heap.size, 0, none⟩ = some (.int .i64 pS) ∧ w'.cell? ⟨w.heap.size, 1, none⟩ = some (.slice aS S.length cS)) (first | exact SS3.out | exact SS4.out | exact SS5.out | go_keep) (first | (go_at_call 31; (with_reducible refine (vector5_any pS aS S cS w0.heap.size w.heap.size ax x cx w0.heap.size w.heap.size w2.drew HI.out (HS.out.below HB3.out tS) (Nat.le_trans tS (HB3.out).size) (Hx.out.below HB3.out tS) (Nat.le_trans tS (HB3.out).size) HVX.out).mono ?_); rintro e w4 ⟨rx, kx, rfl, o_, b_⟩; have SS4 := Lib.hid (And.intro ((b_.cell (p := ⟨w.heap.size, 0, none⟩) hd3).trans SS3.out.1) ((b_.cell (p := ⟨w.heap.size, 1, none⟩) hd3).trans SS3.out.2)); have HB4 := Lib.hid (below_step HB3.out (Nat.le_of_lt hd3) b_); have zz_ := b_.size; have hd4 := Nat.lt_of_lt_of_le hd3 zz_; rw [EVX.out] at o_ ⊢; have VX_4 := Lib.hid (o_.mono (Nat.le_of_lt hd3) (Nat.le_refl _)); clear o_; have kc4_0 := SS4.out.1; have kc4_1 := SS4.out.2; clear b_) | (go_at_call 31; (with_reducible refine (vector5_any pS aS S cS w0.heap.size w.heap.size ay y cy w0.heap.size w.heap.size w4 HI.out (HS.out.below HB4.out tS) (Nat.le_trans tS (HB4.out).size) (Hy.out.below HB4.out tS) (Nat.le_trans tS (HB4.out).size) HVY.out).mono ?_); rintro e w5 ⟨ry, ky, rfl, o_, b_⟩; have SS5 := Lib.hid (And.intro ((b_.cell (p := ⟨w.heap.size, 0, none⟩) hd4).trans SS4.out.1) ((b_.cell (p := ⟨w.heap.size, 1, none⟩) hd4).trans SS4.out.2)); have HB5 := Lib.hid (below_step HB4.out (Nat.le_of_lt hd4) b_); have zz_ := b_.size; have hd5 := Nat.lt_of_lt_of_le hd4 zz_; have VX_5 := Lib.hid ((VX_4.out.below b_ (Nat.le_refl _)).mono (Nat.le_refl _) zz_); rw [EVY.out] at o_ ⊢; have VY_5 := Lib.hid (o_.mono (Nat.le_of_lt hd4) (Nat.le_refl _)); clear o_; have kc5_0 := SS5.out.1; have kc5_1 := SS5.out.2; clear b_))
    go_upto_region 9 with fail
    have SS6 : Hid (w5.drew.cell? ⟨w.heap.size, 0, none⟩ = some (.int .i64 pS) ∧ w5.drew.cell? ⟨w.heap.size, 1, none⟩ = some (.slice aS S.length cS)) := SS5.out
    have HB6 : Hid (Below w.heap.size w w5.drew) := (HB5.out).drew
    have hd6 : w.heap.size < w5.drew.heap.size := hd5
    have VX_6 := Lib.hid ((VX_5.out.below (below_drew w5) (Nat.le_refl _)).mono (Nat.le_refl _) (size_drew w5))
    have VY_6 := Lib.hid ((VY_5.out.below (below_drew w5) (Nat.le_refl _)).mono (Nat.le_refl _) (size_drew w5))
    go_region_held3 (fun w' => w'.cell? ⟨w.heap.size, 0, none⟩ = some (.int .i64 pS) ∧ w'.cell? ⟨w.heap.size, 1, none⟩ = some (.slice aS S.length cS)) (first | exact SS6.out | exact SS7.out | exact SS8.out | exact SS9.out | go_keep) (first | (go_at_call 24; (with_reducible refine (times5_any pS aS S cS w0.heap.size w.heap.size rx vx kx w.heap.size w5.drew.heap.size ry vy ky w.heap.size w5.drew.heap.size w5.drew HI.out (HS.out.below HB6.out tS) (Nat.le_trans tS (HB6.out).size) VX_6.out (Nat.le_refl _) MVX.out VY_6.out (Nat.le_refl _) MVY.out).mono ?_); rintro e w7 ⟨rxy, kxy, rfl, o_, b_⟩; have SS7 := Lib.hid (And.intro ((b_.cell (p := ⟨w.heap.size, 0, none⟩) hd6).trans SS6.out.1) ((b_.cell (p := ⟨w.heap.size, 1, none⟩) hd6).trans SS6.out.2)); have HB7 := Lib.hid (below_step HB6.out (Nat.le_of_lt hd6) b_); have zz_ := b_.size; have hd7 := Nat.lt_of_lt_of_le hd6 zz_; have VX_7 := Lib.hid ((VX_6.out.below b_ (Nat.le_refl _)).mono (Nat.le_refl _) zz_); have VY_7 := Lib.hid ((VY_6.out.below b_ (Nat.le_refl _)).mono (Nat.le_refl _) zz_); rw [EXY.out] at o_ ⊢; have PXY_7 := Lib.hid (o_.mono (Nat.le_of_lt hd6) (Nat.le_refl _)); clear o_; have kc7_0 := SS7.out.1; have kc7_1 := SS7.out.2; clear b_) | (go_at_call 24; (with_reducible refine (times5_any pS aS S cS w0.heap.size w.heap.size ry vy ky w.heap.size w7.heap.size rx vx kx w.heap.size w7.heap.size w7 HI.out (HS.out.below HB7.out tS) (Nat.le_trans tS (HB7.out).size) VY_7.out (Nat.le_refl _) MVY.out VX_7.out (Nat.le_refl _) MVX.out).mono ?_); rintro e w8 ⟨ryx, kyx, rfl, o_, b_⟩; have SS8 := Lib.hid (And.intro ((b_.cell (p := ⟨w.heap.size, 0, none⟩) hd7).trans SS7.out.1) ((b_.cell (p := ⟨w.heap.size, 1, none⟩) hd7).trans SS7.out.2)); have HB8 := Lib.hid (below_step HB7.out (Nat.le_of_lt hd7) b_); have zz_ := b_.size; have hd8 := Nat.lt_of_lt_of_le hd7 zz_; have VX_8 := Lib.hid ((VX_7.out.below b_ (Nat.le_refl _)).mono (Nat.le_refl _) zz_); have VY_8 := Lib.hid ((VY_7.out.below b_ (Nat.le_refl _)).mono (Nat.le_refl _) zz_); have PXY_8 := Lib.hid ((PXY_7.out.below b_ (Nat.le_refl _)).mono (Nat.le_refl _) zz_); rw [EYX.out] at o_ ⊢; have PYX_8 := Lib.hid (o_.mono (Nat.le_of_lt hd7) (Nat.le_refl _)); clear o_; have kc8_0 := SS8.out.1; have kc8_1 := SS8.out.2; clear b_) | (go_at_call 27; (with_reducible refine (plus5_any pS 1 rxy ryx xy yx kxy kyx w.heap.size w8.heap.size w.heap.size w8.heap.size w8 HP.out PXY_8.out PYX_8.out (Nat.le_refl _) (Nat.le_refl _) LXY.out hxys NXY.out NYX.out (by omega) (by omega)).mono ?_); rintro e w9 ⟨rbo, kbo, rfl, o_, b_⟩; have SS9 := Lib.hid (And.intro ((b_.cell (p := ⟨w.heap.size, 0, none⟩) hd8).trans SS8.out.1) ((b_.cell (p := ⟨w.heap.size, 1, none⟩) hd8).trans SS8.out.2)); have HB9 := Lib.hid (below_step HB8.out (Nat.le_of_lt hd8) b_); have zz_ := b_.size; have hd9 := Nat.lt_of_lt_of_le hd8 zz_; have VX_9 := Lib.hid ((VX_8.out.below b_ (Nat.le_refl _)).mono (Nat.le_refl _) zz_); have VY_9 := Lib.hid ((VY_8.out.below b_ (Nat.le_refl _)).mono (Nat.le_refl _) zz_); have PXY_9 := Lib.hid ((PXY_8.out.below b_ (Nat.le_refl _)).mono (Nat.le_refl _) zz_); have PYX_9 := Lib.hid ((PYX_8.out.below b_ (Nat.le_refl _)).mono (Nat.le_refl _) zz_); rw [EBO.out] at o_ ⊢; have o_ := o_.row; have PBO_9 := Lib.hid (o_.mono (Nat.le_of_lt hd8) (Nat.le_refl _)); clear o_; have kc9_0 := SS9.out.1; have kc9_1 := SS9.out.2; clear b_))
    go_upto_region 11 with (first | (go_at_call 21; (with_reducible refine (size5_any pS aS S cS w9 h6).mono ?_); rintro e w10 ⟨rfl, b_⟩; have SS10 := Lib.hid (And.intro ((b_.cell (p := ⟨w.heap.size, 0, none⟩) hd9).trans SS9.out.1) ((b_.cell (p := ⟨w.heap.size, 1, none⟩) hd9).trans SS9.out.2)); have HB10 := Lib.hid (below_step HB9.out (Nat.le_of_lt hd9) b_); have zz_ := b_.size; have hd10 := Nat.lt_of_lt_of_le hd9 zz_; have VX_10 := Lib.hid ((VX_9.out.below b_ (Nat.le_refl _)).mono (Nat.le_refl _) zz_); have VY_10 := Lib.hid ((VY_9.out.below b_ (Nat.le_refl _)).mono (Nat.le_refl _) zz_); have PBO_10 := Lib.hid ((PBO_9.out.below b_ (Nat.le_refl _)).mono (Nat.le_refl _) zz_); have kc10_0 := SS10.out.1; have kc10_1 := SS10.out.2; clear b_))
    obtain ⟨wz1, hwz⟩ : ∃ z, z = w10.alloc (.cells (madeCells #[.int .i64 0] (bl S)) 2) := ⟨_, rfl⟩
    obtain ⟨gz1, hgz⟩ : ∃ z, z = w10.heap.size := ⟨_, rfl⟩
    have SS11 : Hid (wz1.cell? ⟨w.heap.size, 0, none⟩ = some (.int .i64 pS) ∧ wz1.cell? ⟨w.heap.size, 1, none⟩ = some (.slice aS S.length cS)) := by show _ ∧ _; rw [hwz]; exact cells2_alloc _ hd10 SS10.out
    have HB11 : Hid (Below w.heap.size w wz1) := by show Below _ _ _; rw [hwz]; exact (HB10.out).alloc (Nat.le_of_lt hd10) _
    have hd11 : w.heap.size < wz1.heap.size := by rw [hwz]; exact Nat.lt_of_lt_of_le hd10 (size_alloc _ _)
    have hwg_gz1 : w.heap.size < gz1 := by rw [hgz]; exact hd10
    have hgw_gz1 : gz1 < wz1.heap.size := by rw [hwz, hgz]; simp
    have RZ_gz1 : Hid (RowOwn wz1 gz1 0 (bl S) (fun _ => 0)) := by show RowOwn _ _ _ _ _; rw [hwz, hgz]; exact RowOwn.start _ _ _
    have VX_11 : Hid (RowIn w.heap.size gz1 wz1 rx (vx)) := by show RowIn _ _ _ _ _; rw [hwz, hgz]; exact VX_10.out.below (below_alloc _ _) (Nat.le_refl _)
    have VY_11 : Hid (RowIn w.heap.size gz1 wz1 ry (vy)) := by show RowIn _ _ _ _ _; rw [hwz, hgz]; exact VY_10.out.below (below_alloc _ _) (Nat.le_refl _)
    have PBO_11 : Hid (RowIn w.heap.size gz1 wz1 rbo (bo)) := by show RowIn _ _ _ _ _; rw [hwz, hgz]; exact PBO_10.out.below (below_alloc _ _) (Nat.le_refl _)
    rw [← hwz, ← hgz]
    clear hwz hgz
    have zc := RZ_gz1.out.cell 0 hb0
    have zf := RZ_gz1.out.free 0 hb0
    rw [Nat.zero_add] at zc zf
    have kc11_0 := SS11.out.1
    have kc11_1 := SS11.out.2
    go_upto_region 12 with (first | (go_at_call 32; (with_reducible refine (mod5_any pS (2 * n) _ HP.out (by omega) (by omega)).mono ?_); rintro e w' ⟨rfl, rfl⟩))
    obtain ⟨wy1, hwy⟩ : ∃ z, z = (wz1.setCell ⟨gz1, 0, none⟩ (.int .i64 (2 * n % pS))) := ⟨_, rfl⟩
    have hsz_wy1 : wy1.heap.size = wz1.heap.size := by rw [hwy]; simp [World.setCell]
    have SS12 : Hid (wy1.cell? ⟨w.heap.size, 0, none⟩ = some (.int .i64 pS) ∧ wy1.cell? ⟨w.heap.size, 1, none⟩ = some (.slice aS S.length cS)) := by show _ ∧ _; rw [hwy]; exact cells2_far (Nat.ne_of_lt hwg_gz1) SS11.out
    have HB12 : Hid (Below w.heap.size w wy1) := by show Below _ _ _; rw [hwy]; exact (HB11.out).setCell (Nat.le_of_lt hwg_gz1) _
    have hd12 : w.heap.size < wy1.heap.size := by rw [hsz_wy1]; exact hd11
    have UN_12 : Hid (RowIn w.heap.size wy1.heap.size wy1 (some ⟨gz1, 0, none⟩) (unitR S (2 * n % pS))) := by show RowIn _ _ _ _ _; rw [hsz_wy1, hwy]; exact unit_in RZ_gz1.out (Nat.le_of_lt hwg_gz1) hgw_gz1 hb0
    have VX_12 : Hid (RowIn w.heap.size wy1.heap.size wy1 rx (vx)) := by show RowIn _ _ _ _ _; rw [hsz_wy1, hwy]; exact (VX_11.out.far _ (.inr (Nat.le_refl _))).mono (Nat.le_refl _) (Nat.le_of_lt hgw_gz1)
    have VY_12 : Hid (RowIn w.heap.size wy1.heap.size wy1 ry (vy)) := by show RowIn _ _ _ _ _; rw [hsz_wy1, hwy]; exact (VY_11.out.far _ (.inr (Nat.le_refl _))).mono (Nat.le_refl _) (Nat.le_of_lt hgw_gz1)
    have PBO_12 : Hid (RowIn w.heap.size wy1.heap.size wy1 rbo (bo)) := by show RowIn _ _ _ _ _; rw [hsz_wy1, hwy]; exact (PBO_11.out.far _ (.inr (Nat.le_refl _))).mono (Nat.le_refl _) (Nat.le_of_lt hgw_gz1)
    rw [← hwy]
    clear hwy hsz_wy1 zc zf
    have kc12_0 := SS12.out.1
    have kc12_1 := SS12.out.2
    go_upto_region 13 with (first | (go_at_call 33; (with_reducible refine (impl_BracketOf pS aS S cS w0.heap.size w.heap.size rx vx kx w.heap.size wy1.heap.size ry vy ky w.heap.size wy1.heap.size wy1 (HS.out.below HB12.out tS) (Nat.le_trans tS (HB12.out).size) sS VX_12.out (Nat.le_refl _) hvxs VY_12.out (Nat.le_refl _) hvys).mono ?_); rintro e w13 ⟨rbr, kbr, rfl, o_, b_⟩; have SS13 := Lib.hid (And.intro ((b_.cell (p := ⟨w.heap.size, 0, none⟩) hd12).trans SS12.out.1) ((b_.cell (p := ⟨w.heap.size, 1, none⟩) hd12).trans SS12.out.2)); have HB13 := Lib.hid (below_step HB12.out (Nat.le_of_lt hd12) b_); have zz_ := b_.size; have hd13 := Nat.lt_of_lt_of_le hd12 zz_; have VX_13 := Lib.hid ((VX_12.out.below b_ (Nat.le_refl _)).mono (Nat.le_refl _) zz_); have VY_13 := Lib.hid ((VY_12.out.below b_ (Nat.le_refl _)).mono (Nat.le_refl _) zz_); have PBO_13 := Lib.hid ((PBO_12.out.below b_ (Nat.le_refl _)).mono (Nat.le_refl _) zz_); have UN_13 := Lib.hid ((UN_12.out.below b_ (Nat.le_refl _)).mono (Nat.le_refl _) zz_); rw [HVB.out] at o_; rw [HCB.out, HVB.out]; have o_ := o_.row; have PBR_13 := Lib.hid (o_.mono (Nat.le_of_lt hd12) (Nat.le_refl _)); clear o_; have kc13_0 := SS13.out.1; have kc13_1 := SS13.out.2; clear b_))
    have SS14 : Hid (w13.drew.cell? ⟨w.heap.size, 0, none⟩ = some (.int .i64 pS) ∧ w13.drew.cell? ⟨w.heap.size, 1, none⟩ = some (.slice aS S.length cS)) := SS13.out
    have HB14 : Hid (Below w.heap.size w w13.drew) := (HB13.out).drew
    have hd14 : w.heap.size < w13.drew.heap.size := hd13
    have VX_14 := Lib.hid ((VX_13.out.below (below_drew w13) (Nat.le_refl _)).mono (Nat.le_refl _) (size_drew w13))
    have VY_14 := Lib.hid ((VY_13.out.below (below_drew w13) (Nat.le_refl _)).mono (Nat.le_refl _) (size_drew w13))
    have PBO_14 := Lib.hid ((PBO_13.out.below (below_drew w13) (Nat.le_refl _)).mono (Nat.le_refl _) (size_drew w13))
    have UN_14 := Lib.hid ((UN_13.out.below (below_drew w13) (Nat.le_refl _)).mono (Nat.le_refl _) (size_drew w13))
    have PBR_14 := Lib.hid ((PBR_13.out.below (below_drew w13) (Nat.le_refl _)).mono (Nat.le_refl _) (size_drew w13))
    go_region_held3 (fun w' => w'.cell? ⟨w.heap.size, 0, none⟩ = some (.int .i64 pS) ∧ w'.cell? ⟨w.heap.size, 1, none⟩ = some (.slice aS S.length cS)) (first | exact SS14.out | exact SS15.out | exact SS16.out | exact SS17.out | exact SS18.out | exact SS19.out | go_keep) (first | (go_at_call 16; (with_reducible refine (like_eq rbo (some ⟨gz1, 0, none⟩) bo (unitR S (2 * n % pS)) kbo (bl S) w.heap.size w13.drew.heap.size w.heap.size w13.drew.heap.size w13.drew PBO_14.out UN_14.out EBU.out (LU.out _) hbos).mono ?_); rintro e w15 ⟨rfl, q_⟩; have b_ := q_.below w13.drew.heap.size; have SS15 := Lib.hid (And.intro ((b_.cell (p := ⟨w.heap.size, 0, none⟩) hd14).trans SS14.out.1) ((b_.cell (p := ⟨w.heap.size, 1, none⟩) hd14).trans SS14.out.2)); have HB15 := Lib.hid (below_step HB14.out (Nat.le_of_lt hd14) b_); have zz_ := b_.size; have hd15 := Nat.lt_of_lt_of_le hd14 zz_; have VX_15 := Lib.hid ((VX_14.out.below b_ (Nat.le_refl _)).mono (Nat.le_refl _) zz_); have VY_15 := Lib.hid ((VY_14.out.below b_ (Nat.le_refl _)).mono (Nat.le_refl _) zz_); have PBO_15 := Lib.hid ((PBO_14.out.below b_ (Nat.le_refl _)).mono (Nat.le_refl _) zz_); have UN_15 := Lib.hid ((UN_14.out.below b_ (Nat.le_refl _)).mono (Nat.le_refl _) zz_); have PBR_15 := Lib.hid ((PBR_14.out.below b_ (Nat.le_refl _)).mono (Nat.le_refl _) zz_); have kc15_0 := SS15.out.1; have kc15_1 := SS15.out.2; clear q_; clear b_) | (go_at_call 24; (with_reducible refine (times5_any pS aS S cS w0.heap.size w.heap.size rx vx kx w.heap.size w15.heap.size ry vy ky w.heap.size w15.heap.size w15 HI.out (HS.out.below HB15.out tS) (Nat.le_trans tS (HB15.out).size) VX_15.out (Nat.le_refl _) MVX.out VY_15.out (Nat.le_refl _) MVY.out).mono ?_); rintro e w16 ⟨rxy, kxy, rfl, o_, b_⟩; have SS16 := Lib.hid (And.intro ((b_.cell (p := ⟨w.heap.size, 0, none⟩) hd15).trans SS15.out.1) ((b_.cell (p := ⟨w.heap.size, 1, none⟩) hd15).trans SS15.out.2)); have HB16 := Lib.hid (below_step HB15.out (Nat.le_of_lt hd15) b_); have zz_ := b_.size; have hd16 := Nat.lt_of_lt_of_le hd15 zz_; have VX_16 := Lib.hid ((VX_15.out.below b_ (Nat.le_refl _)).mono (Nat.le_refl _) zz_); have VY_16 := Lib.hid ((VY_15.out.below b_ (Nat.le_refl _)).mono (Nat.le_refl _) zz_); have PBO_16 := Lib.hid ((PBO_15.out.below b_ (Nat.le_refl _)).mono (Nat.le_refl _) zz_); have UN_16 := Lib.hid ((UN_15.out.below b_ (Nat.le_refl _)).mono (Nat.le_refl _) zz_); have PBR_16 := Lib.hid ((PBR_15.out.below b_ (Nat.le_refl _)).mono (Nat.le_refl _) zz_); rw [EXY.out] at o_ ⊢; have PXY_16 := Lib.hid (o_.mono (Nat.le_of_lt hd15) (Nat.le_refl _)); clear o_; have kc16_0 := SS16.out.1; have kc16_1 := SS16.out.2; clear b_) | (go_at_call 24; (with_reducible refine (times5_any pS aS S cS w0.heap.size w.heap.size ry vy ky w.heap.size w16.heap.size rx vx kx w.heap.size w16.heap.size w16 HI.out (HS.out.below HB16.out tS) (Nat.le_trans tS (HB16.out).size) VY_16.out (Nat.le_refl _) MVY.out VX_16.out (Nat.le_refl _) MVX.out).mono ?_); rintro e w17 ⟨ryx, kyx, rfl, o_, b_⟩; have SS17 := Lib.hid (And.intro ((b_.cell (p := ⟨w.heap.size, 0, none⟩) hd16).trans SS16.out.1) ((b_.cell (p := ⟨w.heap.size, 1, none⟩) hd16).trans SS16.out.2)); have HB17 := Lib.hid (below_step HB16.out (Nat.le_of_lt hd16) b_); have zz_ := b_.size; have hd17 := Nat.lt_of_lt_of_le hd16 zz_; have VX_17 := Lib.hid ((VX_16.out.below b_ (Nat.le_refl _)).mono (Nat.le_refl _) zz_); have VY_17 := Lib.hid ((VY_16.out.below b_ (Nat.le_refl _)).mono (Nat.le_refl _) zz_); have PBO_17 := Lib.hid ((PBO_16.out.below b_ (Nat.le_refl _)).mono (Nat.le_refl _) zz_); have UN_17 := Lib.hid ((UN_16.out.below b_ (Nat.le_refl _)).mono (Nat.le_refl _) zz_); have PBR_17 := Lib.hid ((PBR_16.out.below b_ (Nat.le_refl _)).mono (Nat.le_refl _) zz_); have PXY_17 := Lib.hid ((PXY_16.out.below b_ (Nat.le_refl _)).mono (Nat.le_refl _) zz_); rw [EYX.out] at o_ ⊢; have PYX_17 := Lib.hid (o_.mono (Nat.le_of_lt hd16) (Nat.le_refl _)); clear o_; have kc17_0 := SS17.out.1; have kc17_1 := SS17.out.2; clear b_) | (go_at_call 27; (with_reducible refine (minus5_any pS (-1) rxy ryx xy yx kxy kyx w.heap.size w17.heap.size w.heap.size w17.heap.size w17 HP.out PXY_17.out PYX_17.out (Nat.le_refl _) (Nat.le_refl _) LXY.out hxys NXY.out NYX.out rfl).mono ?_); rintro e w18 ⟨rbm, kbm, rfl, o_, b_⟩; have SS18 := Lib.hid (And.intro ((b_.cell (p := ⟨w.heap.size, 0, none⟩) hd17).trans SS17.out.1) ((b_.cell (p := ⟨w.heap.size, 1, none⟩) hd17).trans SS17.out.2)); have HB18 := Lib.hid (below_step HB17.out (Nat.le_of_lt hd17) b_); have zz_ := b_.size; have hd18 := Nat.lt_of_lt_of_le hd17 zz_; have VX_18 := Lib.hid ((VX_17.out.below b_ (Nat.le_refl _)).mono (Nat.le_refl _) zz_); have VY_18 := Lib.hid ((VY_17.out.below b_ (Nat.le_refl _)).mono (Nat.le_refl _) zz_); have PBO_18 := Lib.hid ((PBO_17.out.below b_ (Nat.le_refl _)).mono (Nat.le_refl _) zz_); have UN_18 := Lib.hid ((UN_17.out.below b_ (Nat.le_refl _)).mono (Nat.le_refl _) zz_); have PBR_18 := Lib.hid ((PBR_17.out.below b_ (Nat.le_refl _)).mono (Nat.le_refl _) zz_); have PXY_18 := Lib.hid ((PXY_17.out.below b_ (Nat.le_refl _)).mono (Nat.le_refl _) zz_); have PYX_18 := Lib.hid ((PYX_17.out.below b_ (Nat.le_refl _)).mono (Nat.le_refl _) zz_); rw [EBM.out] at o_ ⊢; have o_ := o_.row; have PBM_18 := Lib.hid (o_.mono (Nat.le_of_lt hd17) (Nat.le_refl _)); clear o_; have kc18_0 := SS18.out.1; have kc18_1 := SS18.out.2; clear b_) | (go_at_call 16; (with_reducible refine (likeInts_same rbr rbm br kbr kbm w.heap.size w18.heap.size w.heap.size w18.heap.size w18 PBR_18.out PBM_18.out hbrs).mono ?_); rintro e w19 ⟨rfl, q_⟩; have b_ := q_.below w18.heap.size; have SS19 := Lib.hid (And.intro ((b_.cell (p := ⟨w.heap.size, 0, none⟩) hd18).trans SS18.out.1) ((b_.cell (p := ⟨w.heap.size, 1, none⟩) hd18).trans SS18.out.2)); have HB19 := Lib.hid (below_step HB18.out (Nat.le_of_lt hd18) b_); have zz_ := b_.size; have hd19 := Nat.lt_of_lt_of_le hd18 zz_; have VX_19 := Lib.hid ((VX_18.out.below b_ (Nat.le_refl _)).mono (Nat.le_refl _) zz_); have VY_19 := Lib.hid ((VY_18.out.below b_ (Nat.le_refl _)).mono (Nat.le_refl _) zz_); have PBO_19 := Lib.hid ((PBO_18.out.below b_ (Nat.le_refl _)).mono (Nat.le_refl _) zz_); have UN_19 := Lib.hid ((UN_18.out.below b_ (Nat.le_refl _)).mono (Nat.le_refl _) zz_); have PBR_19 := Lib.hid ((PBR_18.out.below b_ (Nat.le_refl _)).mono (Nat.le_refl _) zz_); have PXY_19 := Lib.hid ((PXY_18.out.below b_ (Nat.le_refl _)).mono (Nat.le_refl _) zz_); have PYX_19 := Lib.hid ((PYX_18.out.below b_ (Nat.le_refl _)).mono (Nat.le_refl _) zz_); have PBM_19 := Lib.hid ((PBM_18.out.below b_ (Nat.le_refl _)).mono (Nat.le_refl _) zz_); have kc19_0 := SS19.out.1; have kc19_1 := SS19.out.2; clear q_; clear b_))
    go_upto_region 17 with (first | (go_at_call 34; (with_reducible refine (impl_NormOf pS aS S cS w0.heap.size w.heap.size ax x cx w0.heap.size w.heap.size w19 (HS.out.below HB19.out tS) (Nat.le_trans tS (HB19.out).size) sS (Hx.out.below HB19.out tS) (Nat.le_trans tS (HB19.out).size) sx).mono ?_); rintro e w20 ⟨rfl, b_⟩; have SS20 := Lib.hid (And.intro ((b_.cell (p := ⟨w.heap.size, 0, none⟩) hd19).trans SS19.out.1) ((b_.cell (p := ⟨w.heap.size, 1, none⟩) hd19).trans SS19.out.2)); have HB20 := Lib.hid (below_step HB19.out (Nat.le_of_lt hd19) b_); have zz_ := b_.size; have hd20 := Nat.lt_of_lt_of_le hd19 zz_; have VX_20 := Lib.hid ((VX_19.out.below b_ (Nat.le_refl _)).mono (Nat.le_refl _) zz_); rw [HCXX.out.1, HNXX.out]; have kc20_0 := SS20.out.1; have kc20_1 := SS20.out.2; clear b_) | (go_at_call 21; (with_reducible refine (size5_any pS aS S cS w20 h6).mono ?_); rintro e w21 ⟨rfl, b_⟩; have SS21 := Lib.hid (And.intro ((b_.cell (p := ⟨w.heap.size, 0, none⟩) hd20).trans SS20.out.1) ((b_.cell (p := ⟨w.heap.size, 1, none⟩) hd20).trans SS20.out.2)); have HB21 := Lib.hid (below_step HB20.out (Nat.le_of_lt hd20) b_); have zz_ := b_.size; have hd21 := Nat.lt_of_lt_of_le hd20 zz_; have VX_21 := Lib.hid ((VX_20.out.below b_ (Nat.le_refl _)).mono (Nat.le_refl _) zz_); have kc21_0 := SS21.out.1; have kc21_1 := SS21.out.2; clear b_))
    obtain ⟨wz2, hwz⟩ : ∃ z, z = w21.alloc (.cells (madeCells #[.int .i64 0] (bl S)) 2) := ⟨_, rfl⟩
    obtain ⟨gz2, hgz⟩ : ∃ z, z = w21.heap.size := ⟨_, rfl⟩
    have SS22 : Hid (wz2.cell? ⟨w.heap.size, 0, none⟩ = some (.int .i64 pS) ∧ wz2.cell? ⟨w.heap.size, 1, none⟩ = some (.slice aS S.length cS)) := by show _ ∧ _; rw [hwz]; exact cells2_alloc _ hd21 SS21.out
    have HB22 : Hid (Below w.heap.size w wz2) := by show Below _ _ _; rw [hwz]; exact (HB21.out).alloc (Nat.le_of_lt hd21) _
    have hd22 : w.heap.size < wz2.heap.size := by rw [hwz]; exact Nat.lt_of_lt_of_le hd21 (size_alloc _ _)
    have hwg_gz2 : w.heap.size < gz2 := by rw [hgz]; exact hd21
    have hgw_gz2 : gz2 < wz2.heap.size := by rw [hwz, hgz]; simp
    have RZ_gz2 : Hid (RowOwn wz2 gz2 0 (bl S) (fun _ => 0)) := by show RowOwn _ _ _ _ _; rw [hwz, hgz]; exact RowOwn.start _ _ _
    have VX_22 : Hid (RowIn w.heap.size gz2 wz2 rx (vx)) := by show RowIn _ _ _ _ _; rw [hwz, hgz]; exact VX_21.out.below (below_alloc _ _) (Nat.le_refl _)
    rw [← hwz, ← hgz]
    clear hwz hgz
    have zc := RZ_gz2.out.cell 0 hb0
    have zf := RZ_gz2.out.free 0 hb0
    rw [Nat.zero_add] at zc zf
    have kc22_0 := SS22.out.1
    have kc22_1 := SS22.out.2
    go_upto_region 18 with fail
    obtain ⟨wy2, hwy⟩ : ∃ z, z = (wz2.setCell ⟨gz2, 0, none⟩ (.int .i64 (q))) := ⟨_, rfl⟩
    have hsz_wy2 : wy2.heap.size = wz2.heap.size := by rw [hwy]; simp [World.setCell]
    have SS23 : Hid (wy2.cell? ⟨w.heap.size, 0, none⟩ = some (.int .i64 pS) ∧ wy2.cell? ⟨w.heap.size, 1, none⟩ = some (.slice aS S.length cS)) := by show _ ∧ _; rw [hwy]; exact cells2_far (Nat.ne_of_lt hwg_gz2) SS22.out
    have HB23 : Hid (Below w.heap.size w wy2) := by show Below _ _ _; rw [hwy]; exact (HB22.out).setCell (Nat.le_of_lt hwg_gz2) _
    have hd23 : w.heap.size < wy2.heap.size := by rw [hsz_wy2]; exact hd22
    have UQ_23 : Hid (RowIn w.heap.size wy2.heap.size wy2 (some ⟨gz2, 0, none⟩) (unitR S (q))) := by show RowIn _ _ _ _ _; rw [hsz_wy2, hwy]; exact unit_in RZ_gz2.out (Nat.le_of_lt hwg_gz2) hgw_gz2 hb0
    have VX_23 : Hid (RowIn w.heap.size wy2.heap.size wy2 rx (vx)) := by show RowIn _ _ _ _ _; rw [hsz_wy2, hwy]; exact (VX_22.out.far _ (.inr (Nat.le_refl _))).mono (Nat.le_refl _) (Nat.le_of_lt hgw_gz2)
    rw [← hwy]
    clear hwy hsz_wy2 zc zf
    have kc23_0 := SS23.out.1
    have kc23_1 := SS23.out.2
    go_wp2_with (first | (go_at_call 24; (with_reducible refine (times5_any pS aS S cS w0.heap.size w.heap.size rx vx kx w.heap.size wy2.heap.size rx vx kx w.heap.size wy2.heap.size wy2 HI.out (HS.out.below HB23.out tS) (Nat.le_trans tS (HB23.out).size) VX_23.out (Nat.le_refl _) MVX.out VX_23.out (Nat.le_refl _) MVX.out).mono ?_); rintro e w24 ⟨rxx, kxx, rfl, o_, b_⟩; have SS24 := Lib.hid (And.intro ((b_.cell (p := ⟨w.heap.size, 0, none⟩) hd23).trans SS23.out.1) ((b_.cell (p := ⟨w.heap.size, 1, none⟩) hd23).trans SS23.out.2)); have HB24 := Lib.hid (below_step HB23.out (Nat.le_of_lt hd23) b_); have zz_ := b_.size; have hd24 := Nat.lt_of_lt_of_le hd23 zz_; have VX_24 := Lib.hid ((VX_23.out.below b_ (Nat.le_refl _)).mono (Nat.le_refl _) zz_); have UQ_24 := Lib.hid ((UQ_23.out.below b_ (Nat.le_refl _)).mono (Nat.le_refl _) zz_); rw [EXX.out] at o_ ⊢; have PXX_24 := Lib.hid (o_.mono (Nat.le_of_lt hd23) (Nat.le_refl _)); clear o_; have kc24_0 := SS24.out.1; have kc24_1 := SS24.out.2; clear b_) | (go_at_call 16; (with_reducible refine (like_eq rxx (some ⟨gz2, 0, none⟩) xx (unitR S (q)) kxx (bl S) w.heap.size w24.heap.size w.heap.size w24.heap.size w24 PXX_24.out UQ_24.out EXU.out (LU.out _) hxxs).mono ?_); rintro e w25 ⟨rfl, q_⟩; have b_ := q_.below w24.heap.size; have SS25 := Lib.hid (And.intro ((b_.cell (p := ⟨w.heap.size, 0, none⟩) hd24).trans SS24.out.1) ((b_.cell (p := ⟨w.heap.size, 1, none⟩) hd24).trans SS24.out.2)); have HB25 := Lib.hid (below_step HB24.out (Nat.le_of_lt hd24) b_); have zz_ := b_.size; have hd25 := Nat.lt_of_lt_of_le hd24 zz_; have VX_25 := Lib.hid ((VX_24.out.below b_ (Nat.le_refl _)).mono (Nat.le_refl _) zz_); have UQ_25 := Lib.hid ((UQ_24.out.below b_ (Nat.le_refl _)).mono (Nat.le_refl _) zz_); have PXX_25 := Lib.hid ((PXX_24.out.below b_ (Nat.le_refl _)).mono (Nat.le_refl _) zz_); have kc25_0 := SS25.out.1; have kc25_1 := SS25.out.2; clear q_; clear b_))
    go_ret
    exact ⟨rfl, HB00.out.trans (HB25.out.mono HB00.out.size)⟩
  · have HI := Lib.hid hi
    have HC := Lib.hid hc
    clear hi hc ha
    go_wp2_with (first | (go_at_call 29; (with_reducible refine (spec_PairOf pS aS S cS w0.heap.size w.heap.size ax x cx w0.heap.size w.heap.size ay y cy w0.heap.size w.heap.size w1 (HS.out.below HB1.out tS) (Nat.le_trans tS (HB1.out).size) sS (Hx.out.below HB1.out tS) (Nat.le_trans tS (HB1.out).size) sx (Hy.out.below HB1.out tS) (Nat.le_trans tS (HB1.out).size) sy).mono ?_); rintro e w2 ⟨rfl, b_⟩; have SS2 := Lib.hid (And.intro ((b_.cell (p := ⟨w.heap.size, 0, none⟩) hd1).trans SS1.out.1) ((b_.cell (p := ⟨w.heap.size, 1, none⟩) hd1).trans SS1.out.2)); have HB2 := Lib.hid (below_step HB1.out (Nat.le_of_lt hd1) b_); have zz_ := b_.size; have hd2 := Nat.lt_of_lt_of_le hd1 zz_; rw [HC.out]; have kc2_0 := SS2.out.1; have kc2_1 := SS2.out.2; clear b_) | (go_at_call 30; (with_reducible refine (impl_PairOf pS aS S cS w0.heap.size w.heap.size ax x cx w0.heap.size w.heap.size ay y cy w0.heap.size w.heap.size w2 (HS.out.below HB2.out tS) (Nat.le_trans tS (HB2.out).size) sS (Hx.out.below HB2.out tS) (Nat.le_trans tS (HB2.out).size) sx (Hy.out.below HB2.out tS) (Nat.le_trans tS (HB2.out).size) sy).mono ?_); rintro e w3 ⟨rfl, b_⟩; have SS3 := Lib.hid (And.intro ((b_.cell (p := ⟨w.heap.size, 0, none⟩) hd2).trans SS2.out.1) ((b_.cell (p := ⟨w.heap.size, 1, none⟩) hd2).trans SS2.out.2)); have HB3 := Lib.hid (below_step HB2.out (Nat.le_of_lt hd2) b_); have zz_ := b_.size; have hd3 := Nat.lt_of_lt_of_le hd2 zz_; rw [HC.out]; have kc3_0 := SS3.out.1; have kc3_1 := SS3.out.2; clear b_))
    go_ret
    exact ⟨rfl, HB00.out.trans (HB3.out.mono HB00.out.size)⟩

set_option maxRecDepth 100000 in
theorem law_vsquares (a : Option Addr) (len cap : Nat) (zs : List Int) (w : World) (hb : Code8 w a len zs) (hm : len ≤ 9223372036854775807) :
    Calls Try.prog 4 #[.slice a len cap] w fun e w' => e = .returned (.bool true) ∧ Below w.heap.size w w' := by
  by_cases hl : len ≤ 4096
  · exact law_squares_v a len cap zs w hb hl
  · clear hb
    go_enter Try.func4, Try.ntmps4
    go_wp2_with (go_at_call 12; refine (big_yes a len cap _ (by omega) hm).mono ?_; rintro e w' ⟨rfl, rfl⟩)
    go_ret
    exact ⟨rfl, Below.refl _ _⟩

end Go.Proofs.Ytcamegdjdjacpaa
