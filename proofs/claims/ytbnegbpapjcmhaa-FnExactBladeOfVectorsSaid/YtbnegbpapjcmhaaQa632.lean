/-
  The model's subspaces and blades: contracts of the program and of the model.
  Conditions: the lists are nil or rows of known cells, of at most 1048576 numbers.
  The model's blades: contracts of the program and of the model.
  Conditions: the lists are nil or rows of known cells, of at most 1048576 numbers.
-/
import Derived.Test.YtbnegbpapjcmhaaQa629
import Derived.Test.YtbnegbpapjcmhaaQa631
import Derived.Test.YtbnegbpapjcmhaaQa620
import Derived.Test.YtbnegbpapjcmhaaQa616
import Derived.Deep.RegionHeld3
import Derived.Deep.DeepCutAuto
import Derived.Test.YtbnegbpapjcmhaaQa630
import Derived.BigQuiet
namespace Go.Proofs.Ytbnegbpapjcmhaa
open Go.RowKit
set_option linter.unusedVariables false

def NewRowTT (n : Nat) (z : List Int) (w : World) (e : Ending) (w' : World) : Prop :=
  ∃ b, e = .returned (.slice (some ⟨b, 0, none⟩) n n) ∧ TagR w.heap.size w'.heap.size w' (some ⟨b, 0, none⟩) z ∧ Below w.heap.size w w'
set_option maxRecDepth 100000 in
set_option maxHeartbeats 1600000 in
theorem l05Wedge_tag (pS : Int) (aS : Option Addr) (S : List Int) (cS loS tpS : Nat) (ax : Option Addr) (x : List Int) (cx lox tpx : Nat) (ay : Option Addr) (y : List Int) (cy loy tpy : Nat) (w : World) (hs : isSp pS S = true) (hS : RowIn loS tpS w aS S) (tS : tpS ≤ w.heap.size) (hx : RowIn lox tpx w ax x) (tx : tpx ≤ w.heap.size) (mx : isMv pS S x = true) (hy : RowIn loy tpy w ay y) (ty : tpy ≤ w.heap.size) (my : isMv pS S y = true) :
    Calls Try.prog 54 #[.agg #[.int .i64 pS, .slice aS S.length cS], .slice ax x.length cx, .slice ay y.length cy] w (NewRowTT (bl S) (wgM pS S x y) w) := by
  have HI := Lib.hid hs
  have HS := Lib.hid hS
  have Hx := Lib.hid hx
  have HMx := Lib.hid mx
  have Hy := Lib.hid hy
  have HMy := Lib.hid my
  clear hs hS hx mx hy my
  go_enter Try.func54, Try.ntmps54
  go_wp2_with (first | (go_at_call 76; (with_reducible refine (l05Kind_tag0 pS aS S cS loS tpS ax x cx lox tpx ay y cy loy tpy _ (isSp_iff.1 HI.out).prime (isSp_iff.1 HI.out).hi (HS.out.below ((Below.refl _ _).alloc (Nat.le_refl _) (.cells #[.int .i64 pS, .slice aS S.length cS] 28)) tS) (Nat.le_trans tS (((Below.refl _ _).alloc (Nat.le_refl _) (.cells #[.int .i64 pS, .slice aS S.length cS] 28))).size) (sp_nums HI.out) (Hx.out.below ((Below.refl _ _).alloc (Nat.le_refl _) (.cells #[.int .i64 pS, .slice aS S.length cS] 28)) tx) (Nat.le_trans tx (((Below.refl _ _).alloc (Nat.le_refl _) (.cells #[.int .i64 pS, .slice aS S.length cS] 28))).size) (Mv.len HMx.out) (Mv.nums HMx.out) (Hy.out.below ((Below.refl _ _).alloc (Nat.le_refl _) (.cells #[.int .i64 pS, .slice aS S.length cS] 28)) ty) (Nat.le_trans ty (((Below.refl _ _).alloc (Nat.le_refl _) (.cells #[.int .i64 pS, .slice aS S.length cS] 28))).size) (Mv.len HMy.out) (Mv.nums HMy.out)).mono ?_); rintro e w2 ⟨d2, rfl, l2, u2, o2, b2, t2⟩; have B2 := Lib.hid b2; have K2_0_0 := (b2.cell (p := ⟨w.heap.size, 0, none⟩) (Nat.lt_of_lt_of_le (show w.heap.size < (w.alloc (.cells #[.int .i64 pS, .slice aS S.length cS] 28)).heap.size by simp) (Nat.le_refl _))).trans (show (w.alloc (.cells #[.int .i64 pS, .slice aS S.length cS] 28)).cell? ⟨w.heap.size, 0, none⟩ = some (.int .i64 pS) by simp [go_sem]); have K2_0_1 := (b2.cell (p := ⟨w.heap.size, 1, none⟩) (Nat.lt_of_lt_of_le (show w.heap.size < (w.alloc (.cells #[.int .i64 pS, .slice aS S.length cS] 28)).heap.size by simp) (Nat.le_refl _))).trans (show (w.alloc (.cells #[.int .i64 pS, .slice aS S.length cS] 28)).cell? ⟨w.heap.size, 1, none⟩ = some (.slice aS S.length cS) by simp [go_sem]); have O2 := Lib.hid o2; have T2 := Lib.hid t2; clear o2 t2; clear b2))
  go_ret
  obtain ⟨cur, ht⟩ := T2.out
  exact ⟨d2, rfl, .inr ⟨d2, 0, cur, rfl, Nat.le_trans (show w.heap.size ≤ (w.alloc (.cells #[.int .i64 pS, .slice aS S.length cS] 28)).heap.size from (((Below.refl _ _).alloc (Nat.le_refl _) (.cells #[.int .i64 pS, .slice aS S.length cS] 28))).size) l2, u2, ht, fun j hj => by
    rw [wgM_len] at hj
    rw [show (wgM pS S x y).getD j 0 = kF pS S 0 x y j from kM_at _ _ _ _ _ hj]
    exact O2.out.cell j hj⟩, (below_step ((Below.refl _ _).alloc (Nat.le_refl _) (.cells #[.int .i64 pS, .slice aS S.length cS] 28)) (show w.heap.size ≤ (w.alloc (.cells #[.int .i64 pS, .slice aS S.length cS] 28)).heap.size from (((Below.refl _ _).alloc (Nat.le_refl _) (.cells #[.int .i64 pS, .slice aS S.length cS] 28))).size) B2.out)⟩

theorem l05Wedge_lv (pS : Int) (aS : Option Addr) (S : List Int) (cS loS tpS : Nat) (ax : Option Addr) (x : List Int) (cx lox tpx b lo tp : Nat) (v : List Int) (W : World) (hs : isSp pS S = true) (hS : RowIn loS tpS W aS S) (tS : tpS ≤ W.heap.size) (hx : RowIn lox tpx W ax x) (tx : tpx ≤ W.heap.size) (mx : isMv pS S x = true) (h : RowIn lo tp W (some ⟨b, 0, none⟩) (mkR (bl S) (vecF v v.length))) (th : tp ≤ W.heap.size) (hv : isVec pS S.length v = true) :
    Calls Try.prog 54 #[.agg #[.int .i64 pS, .slice aS S.length cS], .slice (some ⟨b, 0, none⟩) (bl S) (bl S), .slice ax x.length cx] W (NewRowTT (bl S) (wgM pS S (vecM S v) x) W) := by
  have q := l05Wedge_tag pS aS S cS loS tpS (some ⟨b, 0, none⟩) (mkR (bl S) (vecF v v.length)) (bl S) lo tp ax x cx lox tpx W hs hS tS h th (vec_mv' hs hv) hx tx mx
  rw [mkR_len] at q
  exact q
theorem unit_vec {p : Int} (hp : 1 < p) {n i : Nat} : isVec p n (unitR n i) = true :=
  isVec_iff.2 ⟨mkR_len _ _, by
    rw [List.all_eq_true]
    intro z hz
    unfold unitR mkR at hz
    obtain ⟨j, _, rfl⟩ := List.mem_map.1 hz
    refine inr_iff.2 ?_
    split <;> omega⟩
theorem ss2x {B : Nat} {w w' : World} (h : Below B w w') {g : Nat} {u0 u1 : Value} (l : g < B) (h0 : w.cell? ⟨g, 0, none⟩ = some u0 ∧ w.cell? ⟨g, 1, none⟩ = some u1) : w'.cell? ⟨g, 0, none⟩ = some u0 ∧ w'.cell? ⟨g, 1, none⟩ = some u1 :=
  ⟨(h.cell (p := ⟨g, 0, none⟩) l).trans h0.1, (h.cell (p := ⟨g, 1, none⟩) l).trans h0.2⟩

theorem l04Vector_unit (p : Int) (aS : Option Addr) (S : List Int) (cS i b lo : Nat) (W : World) (h6 : S.length ≤ 6) (h : RowIn lo W.heap.size W (some ⟨b, 0, none⟩) (unitR S.length i)) :
    Calls Try.prog 55 #[.agg #[.int .i64 p, .slice aS S.length cS], .slice (some ⟨b, 0, none⟩) S.length S.length] W (NewRow (bl S) (vecF (unitR S.length i) (unitR S.length i).length) W) := by
  have q := l04Vector_any p aS S cS (some ⟨b, 0, none⟩) (unitR S.length i) S.length lo W.heap.size W h6 (mkR_len _ _) h (Nat.le_refl _)
  rw [show (unitR S.length i).length = S.length from mkR_len _ _] at q ⊢
  exact q
theorem l02Turn_n (a : Option Addr) (m : List (List Int)) (n ca lo tp : Nat) (w : World) (hnm : m.length = n) (hm : MatIn lo tp w a m) (ht : tp ≤ w.heap.size) (h0 : 0 < m.length) (hc : ∀ i, i < m.length → (rw' m i).length = (rw' m 0).length) (hn : m.length ≤ 1024) (hn2 : (rw' m 0).length ≤ 1024) :
    Calls Try.prog 57 #[.slice a n ca] w (NewM (trM m) w) := by
  subst hnm; exact l02Turn_any a m ca lo tp w hm ht h0 hc hn hn2
theorem TagR.mono' {lo lo' tp : Nat} {w : World} {a : Option Addr} {z : List Int} (h : TagR lo tp w a z) (hl : lo' ≤ lo) : TagR lo' tp w a z := by
  rcases h with h | ⟨b, o, cur, e, h1, h2, h3⟩
  · exact .inl h
  · exact .inr ⟨b, o, cur, e, by omega, h2, h3⟩

set_option maxRecDepth 100000 in
set_option maxHeartbeats 3200000 in
theorem l06Subspace_any (p : Int) (aS : Option Addr) (S : List Int) (cS loS tpS : Nat) (ax : Option Addr) (x : List Int) (cx lox tpx : Nat) (w : World) (hs : isSp p S = true) (hS : RowIn loS tpS w aS S) (tS : tpS ≤ w.heap.size) (hx : RowIn lox tpx w ax x) (tx : tpx ≤ w.heap.size) (mx : isMv p S x = true) :
    Calls Try.prog 33 #[.agg #[.int .i64 p, .slice aS S.length cS], .slice ax x.length cx] w (NewM (subM p S x) w) := by
  obtain ⟨j0, kj, kz0, kz1, kz2⟩ := info_parts info_slice
  have HS := Lib.hid hS
  have HX := Lib.hid hx
  have HI := Lib.hid hs
  have HMX := Lib.hid mx
  have h6 := (isSp_iff.1 hs).hi
  have h1 := (isSp_iff.1 hs).lo
  have hpb := prm_bd (isSp_iff.1 hs).prime
  have hbl := bl_le h6
  have hb0 := bl_pos S
  have HB0 := Lib.hid (below_alloc w (.cells #[.int .i64 p, .slice aS S.length cS] 28))
  have k0 := nw0 w (.int .i64 p) (.slice aS S.length cS) 28
  have k1 := nw1 w (.int .i64 p) (.slice aS S.length cS) 28
  have HMK := Lib.hid (fun W => run_make_row' (P := Try.prog) 22 2 (.int .i64 0) 8 Try.underlying22 info64 rfl .i64 .i64 S.length (by omega) (by omega) W)
  clear hS hx hs mx
  go_enter Try.func33, Try.ntmps33
  go_upto_region 1 with fail
  obtain ⟨wB, hw1⟩ : ∃ z, z = w.alloc (.cells #[.int .i64 p, .slice aS S.length cS] 28) := ⟨_, rfl⟩
  rw [← hw1] at HB0 k0 k1 ⊢
  have hw0 : w.heap.size < wB.heap.size := by rw [hw1]; simp
  clear hw1
  have K0 := Lib.hid k0
  have K1 := Lib.hid k1
  clear k0 k1
  go_wp2
  go_loopw [5, 6, 7] (fun v t _ wr => ∃ i : Nat, i ≤ S.length ∧ t = .int .i64 i ∧ OutM wB.heap.size wr v (mk i (bl S) fun j c => kF p S 0 (bladeM S (2 ^ j)) x c) ∧ Below wB.heap.size wB wr) (fun _ t _ _ => S.length - (intOf t).toNat)
  case atStart => exact ⟨0, Nat.zero_le _, rfl, OutM.start wB _ _ (Nat.le_refl _) rfl, below_alloc wB _⟩
  case round =>
    obtain ⟨i, hi, rfl, ho, hbel⟩ := hrel
    obtain ⟨V5, hV5⟩ : ∃ z, z = u5 := ⟨_, rfl⟩
    rw [← hV5] at ho ⊢
    clear hV5
    have HO := Lib.hid ho
    have HB := Lib.hid hbel
    have hwz := hbel.size
    have hk0 := (hbel.cell (p := ⟨w.heap.size, 0, none⟩) hw0).trans K0.out
    have hk1 := (hbel.cell (p := ⟨w.heap.size, 1, none⟩) hw0).trans K1.out
    have hlw : w.heap.size < wr.heap.size := by omega
    clear ho hbel
    by_cases hlt : i < S.length
    · have hi1 : (i : Int) < (S.length : Int) := Int.ofNat_lt.2 hlt
      obtain ⟨vals, hvo, hvr⟩ := HO.out
      rw [mk_len] at hvo hvr
      have HVO := Lib.hid hvo
      have HVR := Lib.hid hvr
      have g0 := made_cell wr (.int .i64 0) S.length 2 hlt
      have f0 : (wr.alloc (.cells (madeCells #[.int .i64 0] S.length) 2)).frozen? ⟨wr.heap.size, i, none⟩ = false := by simp [go_sem]
      have HU := Lib.hid (unit_tag wr hlt)
      have hmk := HMK.out
      clear hvo hvr
      go_upto_region 7 with fail
      clear hmk g0 f0
      obtain ⟨w5, hw5⟩ : ∃ z, z = wr.alloc (.cells ((madeCells #[.int .i64 0] S.length).setIfInBounds i (.int .i64 1)) 2) := ⟨_, rfl⟩
      rw [← hw5] at HU ⊢
      have HQ5 : Hid (Below wr.heap.size wr w5) := by show Below _ _ _; rw [hw5]; exact balloc wr _
      have HW5 : Hid (Below w.heap.size w w5.drew) := ((HB0.out.trans (HB.out.mono (by omega))).trans (HQ5.out.mono (by omega))).drew
      have z5r := HQ5.out.size
      have hd5 : w.heap.size < w5.drew.heap.size := Nat.lt_of_lt_of_le hlw z5r
      have hs1 : Hid (w5.drew.cell? ⟨w.heap.size, 0, none⟩ = some (.int .i64 p) ∧ w5.drew.cell? ⟨w.heap.size, 1, none⟩ = some (.slice aS S.length cS)) := ⟨(HQ5.out.cell (p := ⟨w.heap.size, 0, none⟩) hlw).trans hk0, (HQ5.out.cell (p := ⟨w.heap.size, 1, none⟩) hlw).trans hk1⟩
      have HUR : Hid (RowIn wr.heap.size w5.drew.heap.size w5.drew (some ⟨wr.heap.size, 0, none⟩) (unitR S.length i)) := (HU.out.row).below (bdrew w5) (Nat.le_refl _)
      have HQD : Hid (Below wr.heap.size wr w5.drew) := HQ5.out.drew
      have hlu : (unitR S.length i).length = S.length := mkR_len _ _
      have HUV : Hid (isVec p S.length (unitR S.length i) = true) := unit_vec (by omega)
      clear hk0 hk1 hw5
      go_wp2
      go_region_held3 (fun w' => w'.cell? ⟨w.heap.size, 0, none⟩ = some (.int .i64 p) ∧ w'.cell? ⟨w.heap.size, 1, none⟩ = some (.slice aS S.length cS)) (first | exact hs1.out | exact SSa.out | exact SSb.out | exact SS4.out | go_keep) (first | (go_at_call 55; ((with_reducible refine (l04Vector_unit p aS S cS i wr.heap.size wr.heap.size w5.drew h6 HUR.out).mono ?_); rintro e wa ⟨ba, rfl, l_, u_, o_, b_⟩; have SSa := Lib.hid (ss2x b_ hd5 hs1.out); have HQa := Lib.hid (HQD.out.trans (b_.mono z5r)); have HWa := Lib.hid (below_step HW5.out HW5.out.size b_); have hda := Nat.lt_of_lt_of_le hd5 b_.size; have Ra := Lib.hid ((o_.own (Nat.zero_le _) u_).row); clear b_ o_)) | (go_at_call 54; ((with_reducible refine (l05Wedge_lv p aS S cS loS tpS ax x cx lox tpx ba 0 wa.heap.size (unitR S.length i) wa HI.out (HS.out.below HWa.out tS) (Nat.le_trans tS HWa.out.size) (HX.out.below HWa.out tx) (Nat.le_trans tx HWa.out.size) HMX.out Ra.out (Nat.le_refl _) HUV.out).mono ?_); rintro e wb ⟨bb, rfl, t_, b_⟩; rw [← unit_blade hlt] at t_; have SSb := Lib.hid (ss2x b_ hda SSa.out); have HQb := Lib.hid (HQa.out.trans (b_.mono HQa.out.size)); have hzb := HQb.out.size; have Tb := Lib.hid (TagR.mono' t_ (show wr.heap.size ≤ wa.heap.size from HQa.out.size)); have HVW := Lib.hid (HVO.out.kept (below_grown HQb.out) (by cases hv : Value.ownBlock V5 <;> simp)); clear b_ t_)) | ((refine step_append_lies _ (by rfl) _ _ _ (by rfl) wB.heap.size 22 j0 _ 1 24 Try.underlying34 kj kz0 kz1 kz2 rfl (by omega) V5 i vals (by rfl) (HVW.out.alloc _) ⟨wb.heap.size, 0, none⟩ 1 1 [.slice (some ⟨bb, 0, none⟩) (bl S) (bl S)] (by rfl) (by rfl) (World.news_of_block (cs := #[.slice (some ⟨bb, 0, none⟩) (bl S) (bl S)]) (t := 22) (fr := (0, 0)) (heap_alloc_new wb _)) (by simp [Value.oneCell']) (by omega) (by unfold maxLen; omega) (by omega) (by simp; omega) (wb.heap.size + 1) (by simp) ?_; intro g4 cap4 w4 hown4 hgrow4 hat4 hlt4; have HO4 := Lib.hid hown4; have HG4 := Lib.hid hgrow4; have HB4 : Hid (Below wB.heap.size wB w4) := ((HB.out.trans (HQb.out.mono hwz)).alloc (Nat.le_trans hwz hzb) _).grown hgrow4 (by simp; omega) (fun _ hk => (HVO.out.lt _ hk).1); have SS4 := Lib.hid (ss2x (HB4.out) hw0 ⟨K0.out, K1.out⟩); clear hown4 hgrow4)))
      have HVRW : Hid (∀ i', i' < i → ∃ r c', vals[i']? = some (.slice r (rw' (mk i (bl S) fun j c => kF p S 0 (bladeM S (2 ^ j)) x c) i').length c') ∧ TagR wB.heap.size wb.heap.size wb r (rw' (mk i (bl S) fun j c => kF p S 0 (bladeM S (2 ^ j)) x c) i')) := fun i' h' => by
        obtain ⟨r', c', g1, g2⟩ := HVR.out i' h'
        exact ⟨r', c', g1, g2.below HQb.out (Nat.le_refl _) (Nat.le_refl _) HQb.out.size⟩
      go_wp2
      go_roundw
      case rel => exact ⟨i + 1, by omega, by go_num, OutM.next HVW.out HVRW.out Tb.out rfl hwz HO4.out HG4.out, HB4.out⟩
      case measure => simp [intOf]; omega
    · have hin : i = S.length := by omega
      subst hin
      obtain ⟨r, c, hv, hmat⟩ := HO.out.mat
      subst hv
      have HMT := Lib.hid hmat
      clear hmat
      obtain ⟨C, hC⟩ : ∃ C, C = colW p S x := ⟨_, rfl⟩
      have hC2 : (mk S.length (bl S) fun j c => kF p S 0 (bladeM S (2 ^ j)) x c) = C := hC.symm
      rw [hC2] at HMT ⊢
      have hCL : C.length = S.length := by rw [hC]; exact mk_len _ _ _
      have hC0 : 0 < C.length := by omega
      have HLE : Hid (∀ i, i < C.length → (rw' C i).length = (rw' C 0).length) := fun i hi => by
        rw [hC]; unfold colW; rw [mk_rowLen _ (show i < S.length by omega), mk_rowLen _ (show 0 < S.length by omega)]
      have hn1 : C.length ≤ 1024 := by omega
      have hn2 : (rw' C 0).length ≤ 1024 := by rw [hC]; unfold colW; rw [mk_rowLen _ (show 0 < S.length by omega)]; omega
      have HTR : Hid (trM C = eqM p S x) := by show _ = _; rw [hC]; exact colW_tr h1
      have HRW : Hid (RowsW p (trM C)) := by show RowsW _ _; rw [HTR.out]; exact eqM_wide HI.out
      have HMD : Hid (MatIn wB.heap.size wr.heap.size wr.drew r C) := HMT.out.below (bdrew wr) (Nat.le_refl _)
      have hs1 : Hid (wr.drew.cell? ⟨w.heap.size, 0, none⟩ = some (.int .i64 p) ∧ wr.drew.cell? ⟨w.heap.size, 1, none⟩ = some (.slice aS S.length cS)) := ⟨hk0, hk1⟩
      have hd5 : w.heap.size < wr.drew.heap.size := hlw
      have HWD : Hid (Below w.heap.size w wr.drew) := (HB0.out.trans (HB.out.mono (by omega))).drew
      clear hC hC2
      go_wp2
      clear hk0 hk1
      go_region_held3 (fun w' => w'.cell? ⟨w.heap.size, 0, none⟩ = some (.int .i64 p) ∧ w'.cell? ⟨w.heap.size, 1, none⟩ = some (.slice aS S.length cS)) (first | exact hs1.out | exact SSa.out | exact SSb.out | go_keep) (first | (go_at_call 57; ((with_reducible refine (l02Turn_n r C S.length c wB.heap.size wr.heap.size wr.drew hCL HMD.out (Nat.le_refl _) hC0 HLE.out hn1 hn2).mono ?_); rintro e wa ⟨ra, ka, rfl, m_, b_⟩; have SSa := Lib.hid (ss2x b_ hd5 hs1.out); have HWa := Lib.hid (below_step HWD.out HWD.out.size b_); have hda := Nat.lt_of_lt_of_le hd5 b_.size; have Ma := Lib.hid m_; clear b_ m_)) | (go_at_call 56; ((with_reducible refine (l02Kernel_wide p ra (trM C) ka wr.drew.heap.size wa.heap.size wa Ma.out (Nat.le_refl _) HRW.out).mono ?_); rintro e wb ⟨rb, kb, rfl, m_, b_⟩; have SSb := Lib.hid (ss2x b_ hda SSa.out); have HWb := Lib.hid (below_step HWa.out HWa.out.size b_); have Mb := Lib.hid m_; clear b_ m_)))
      go_wp2
      go_ret
      have hK : kerB p (trM C) = subM p S x := by rw [HTR.out]; rfl
      have h := Mb.out
      rw [hK] at h
      exact ⟨rb, kb, by rw [hK]; rfl, h.mono HWa.out.size (Nat.le_refl _), HWb.out⟩

end Go.Proofs.Ytbnegbpapjcmhaa

namespace Go.Proofs.Ytbnegbpapjcmhaa
open Go.RowKit
set_option linter.unusedVariables false

set_option maxRecDepth 100000 in
set_option maxHeartbeats 3200000 in
theorem l06Blade_own (pS : Int) (aS : Option Addr) (S : List Int) (cS loS tpS : Nat) (am : Option Addr) (m : List (List Int)) (cm lom tpm : Nat) (w : World) (hs : isSp pS S = true) (hS : RowIn loS tpS w aS S) (tS : tpS ≤ w.heap.size) (hm : MatIn lom tpm w am m) (tm : tpm ≤ w.heap.size) (hl : listB pS S m = true) :
    Calls Try.prog 27 #[.agg #[.int .i64 pS, .slice aS S.length cS], .slice am m.length cm] w (OwnE (wvB pS S m) w) := by
  have HI := Lib.hid hs
  have HS := Lib.hid hS
  have h6 := (isSp_iff.1 hs).hi
  have hpb := prm_bd (isSp_iff.1 hs).prime
  have hbl := bl_le h6
  have hb0 := bl_pos S
  have HB0 := Lib.hid (below_alloc w (.cells #[.int .i64 pS, .slice aS S.length cS] 28))
  have k0 := nw0 w (.int .i64 pS) (.slice aS S.length cS) 28
  have k1 := nw1 w (.int .i64 pS) (.slice aS S.length cS) 28
  have Hm := Lib.hid hm
  have HIL := Lib.hid (list_isL hs hl)
  have HBB := Lib.hid (bas_list hs hl)
  clear hs hS hm hl
  go_enter Try.func27, Try.ntmps27
  go_upto_region 1 with fail
  obtain ⟨w1, hw1⟩ : ∃ z, z = w.alloc (.cells #[.int .i64 pS, .slice aS S.length cS] 28) := ⟨_, rfl⟩
  rw [← hw1] at HB0 k0 k1 ⊢
  have hw0 : w.heap.size < w1.heap.size := by rw [hw1]; simp
  clear hw1
  have hs1 : Hid (w1.drew.cell? ⟨w.heap.size, 0, none⟩ = some (.int .i64 pS) ∧ w1.drew.cell? ⟨w.heap.size, 1, none⟩ = some (.slice aS S.length cS)) := ⟨k0, k1⟩
  have HBD : Hid (Below w.heap.size w w1.drew) := HB0.out.drew
  have hd0 : w.heap.size < w1.drew.heap.size := hw0
  go_region_held3 (fun w' => w'.cell? ⟨w.heap.size, 0, none⟩ = some (.int .i64 pS) ∧ w'.cell? ⟨w.heap.size, 1, none⟩ = some (.slice aS S.length cS)) (first | exact hs1.out | exact SSa.out | exact SSab.out | go_keep) (first | (go_at_call 45; (with_reducible refine (basis_any pS am m cm lom tpm w1.drew (Hm.out.below HBD.out tm) (Nat.le_trans tm (HBD.out).size) HIL.out).mono ?_); rintro e wa ⟨ra, ka, rfl, o_, b_, _⟩; have SSa := Lib.hid (ss2 b_ hd0 hs1.out); have HBa := Lib.hid (below_step HBD.out (Nat.le_of_lt hd0) b_); have zz_ := b_.size; have hda := Nat.lt_of_lt_of_le hd0 zz_; have Ma_a := Lib.hid (o_.mono (Nat.le_of_lt hd0) (Nat.le_refl _)); clear b_ o_) | (go_at_call 44; (with_reducible refine (l05Vectors_own pS aS S cS loS tpS ra (bas pS m) ka w.heap.size wa.heap.size wa HI.out (HS.out.below HBa.out tS) (Nat.le_trans tS (HBa.out).size) Ma_a.out (Nat.le_refl _) HBB.out).mono ?_); rintro e wab ⟨rb, kb, rfl, o_, b_⟩; have SSab := Lib.hid (ss2 b_ hda SSa.out); have HBab := Lib.hid (below_step HBa.out (Nat.le_of_lt hda) b_); have zz_ := b_.size; have hdab := Nat.lt_of_lt_of_le hda zz_; have Ma_ab := Lib.hid ((Ma_a.out.below b_ (Nat.le_refl _)).mono (Nat.le_refl _) zz_); have Ob_ab := Lib.hid (OwnR.mono' o_ (Nat.le_of_lt hda) (Nat.le_refl _)); have Rb_ab := Lib.hid (Ob_ab.out.row); clear b_ o_))
  all_goals
    go_wp2
    go_ret
    exact ⟨rb, kb, rfl, Ob_ab.out, HBab.out⟩

theorem isBl_not {p : Int} {S x : List Int} (h : (grades S x).length ≠ 1) : isBl p S x = false := decide_eq_false fun e => h (by rw [e]; rfl)
theorem isBl_one {p : Int} {S x : List Int} (h : (grades S x).length = 1) : isBl p S x = (((subM p S x).length : Int) == (grades S x).getD 0 0) := by
  unfold isBl
  match hg : grades S x, h with
  | [k], _ =>
    rw [Bool.eq_iff_iff, decide_eq_true_eq, beq_iff_eq]
    constructor
    · intro e; injection e with e1; exact e1.symm
    · intro e; rw [e]; rfl
set_option maxRecDepth 100000 in
set_option maxHeartbeats 3200000 in
theorem l06Is_any (pS : Int) (aS : Option Addr) (S : List Int) (cS loS tpS : Nat) (ax : Option Addr) (x : List Int) (cx lox tpx : Nat) (w : World) (hs : isSp pS S = true) (hS : RowIn loS tpS w aS S) (tS : tpS ≤ w.heap.size) (hx : RowIn lox tpx w ax x) (tx : tpx ≤ w.heap.size) (mx : isMv pS S x = true) :
    Calls Try.prog 23 #[.agg #[.int .i64 pS, .slice aS S.length cS], .slice ax x.length cx] w fun e w' => e = .returned (.bool (isBl pS S x)) ∧ Below w.heap.size w w' := by
  have HI := Lib.hid hs
  have HS := Lib.hid hS
  have Hx := Lib.hid hx
  have HMx := Lib.hid mx
  have h6 := (isSp_iff.1 hs).hi
  have hbl := bl_le h6
  have hlx : x.length ≤ 64 := by rw [Mv.len mx]; exact hbl
  have HB0 := Lib.hid (below_alloc w (.cells #[.int .i64 pS, .slice aS S.length cS] 28))
  have k0 := nw0 w (.int .i64 pS) (.slice aS S.length cS) 28
  have k1 := nw1 w (.int .i64 pS) (.slice aS S.length cS) 28
  by_cases hg : (grades S x).length = 1
  · have HO := Lib.hid (isBl_one (p := pS) hg)
    obtain ⟨n, hn⟩ : ∃ n, n = (grades S x).length := ⟨_, rfl⟩
    have hn1 : (n : Int) = 1 := by omega
    have HG := Lib.hid hg
    have HN := Lib.hid hn
    have hle : (subM pS S x).length ≤ 6 := sub_le hs
    obtain ⟨L, hL⟩ : ∃ L, L = (subM pS S x).length := ⟨_, rfl⟩
    obtain ⟨G, hG⟩ : ∃ G, G = (grades S x).getD 0 0 := ⟨_, rfl⟩
    rw [← hL, ← hG] at HO
    have HGE := Lib.hid hG
    have HLE := Lib.hid hL
    clear hs hS hx mx hg hn hL hG hle
    go_enter Try.func23, Try.ntmps23
    go_upto_region 2 with (go_at_call 32; (with_reducible refine (l04Grades_any pS aS S cS ax x cx lox tpx _ h6 (Hx.out.below HB0.out tx) (Nat.le_trans tx HB0.out.size) hlx).mono ?_); rintro e w2 ⟨r2, c2, rfl, m_, b_⟩; rw [← HN.out]; have HB2 := Lib.hid (below_step HB0.out HB0.out.size b_); have k0' := (b_.cell (p := ⟨w.heap.size, 0, none⟩) (lt_alloc w (.cells #[.int .i64 pS, .slice aS S.length cS] 28))).trans k0; have k1' := (b_.cell (p := ⟨w.heap.size, 1, none⟩) (lt_alloc w (.cells #[.int .i64 pS, .slice aS S.length cS] 28))).trans k1; have hd2 := Nat.lt_of_lt_of_le (lt_alloc w (.cells #[.int .i64 pS, .slice aS S.length cS] 28)) b_.size; have M2 := Lib.hid m_; clear m_ b_ k0 k1)
    obtain ⟨b9, o9, ha9, _, hu9, hc9⟩ := M2.out.num (j := 0) (by rw [HG.out]; exact Nat.one_pos)
    subst ha9
    rw [Nat.add_zero, ← HGE.out] at hc9
    have hs1 : Hid (w2.drew.cell? ⟨w.heap.size, 0, none⟩ = some (.int .i64 pS) ∧ w2.drew.cell? ⟨w.heap.size, 1, none⟩ = some (.slice aS S.length cS) ∧ w2.drew.cell? ⟨b9, o9, none⟩ = some (.int .i64 G)) := ⟨k0', k1', hc9⟩
    have HBD : Hid (Below w.heap.size w w2.drew) := HB2.out.drew
    have hd0 : w.heap.size < w2.drew.heap.size := hd2
    have hx0 : b9 < w2.drew.heap.size := hu9
    have hi0 : (0 : Int) < (n : Int) := by omega
    go_region_held3 (fun w' => w'.cell? ⟨w.heap.size, 0, none⟩ = some (.int .i64 pS) ∧ w'.cell? ⟨w.heap.size, 1, none⟩ = some (.slice aS S.length cS) ∧ w'.cell? ⟨b9, o9, none⟩ = some (.int .i64 G)) (first | exact hs1.out | exact SSa.out | go_keep) ((go_at_call 33; ((with_reducible refine (l06Subspace_any pS aS S cS loS tpS ax x cx lox tpx w2.drew HI.out (HS.out.below HBD.out tS) (Nat.le_trans tS HBD.out.size) (Hx.out.below HBD.out tx) (Nat.le_trans tx HBD.out.size) HMx.out).mono ?_); rintro e wa ⟨ra, ka, rfl, m_, b_⟩; rw [← HLE.out]; have SSa := Lib.hid (ss3 b_ hd0 hx0 hs1.out); have HBa := Lib.hid (below_step HBD.out HBD.out.size b_); clear b_ m_)))
    all_goals
      go_wp2
      go_ret
      exact ⟨by rw [HO.out]; rfl, HBa.out⟩
  · have HO := Lib.hid (isBl_not (p := pS) hg)
    obtain ⟨n, hn⟩ : ∃ n, n = (grades S x).length := ⟨_, rfl⟩
    have hn1 : ((n : Int) == 1) = false := by
      rw [beq_eq_false_iff_ne]; omega
    have HN := Lib.hid hn
    clear hs hS hx mx hg hn
    go_enter Try.func23, Try.ntmps23
    go_upto_region 2 with (go_at_call 32; (with_reducible refine (l04Grades_any pS aS S cS ax x cx lox tpx _ h6 (Hx.out.below HB0.out tx) (Nat.le_trans tx HB0.out.size) hlx).mono ?_); rintro e w2 ⟨r2, c2, rfl, m_, b_⟩; rw [← HN.out]; have HB2 := Lib.hid (below_step HB0.out HB0.out.size b_); have k0' := (b_.cell (p := ⟨w.heap.size, 0, none⟩) (lt_alloc w (.cells #[.int .i64 pS, .slice aS S.length cS] 28))).trans k0; have k1' := (b_.cell (p := ⟨w.heap.size, 1, none⟩) (lt_alloc w (.cells #[.int .i64 pS, .slice aS S.length cS] 28))).trans k1; have hd2 := Nat.lt_of_lt_of_le (lt_alloc w (.cells #[.int .i64 pS, .slice aS S.length cS] 28)) b_.size; have M2 := Lib.hid m_; clear m_ b_ k0 k1)
    have hs1 : Hid (w2.drew.cell? ⟨w.heap.size, 0, none⟩ = some (.int .i64 pS) ∧ w2.drew.cell? ⟨w.heap.size, 1, none⟩ = some (.slice aS S.length cS)) := ⟨k0', k1'⟩
    go_quiet (fail)
    all_goals
      go_wp2
      go_ret
      exact ⟨by rw [HO.out]; rfl, HB2.out.trans (((Quiet.refl w2).next _).below _)⟩

end Go.Proofs.Ytbnegbpapjcmhaa
