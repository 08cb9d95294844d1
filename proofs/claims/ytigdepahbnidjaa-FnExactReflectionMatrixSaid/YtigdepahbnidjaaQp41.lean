/-
  Matrices of versors and reflections, the model's side: contracts of the program and of the model.
  Conditions: the lists are nil or rows of known cells, of at most 1048576 numbers.
-/
import Derived.Test.YtigdepahbnidjaaQp37
import Derived.Test.YtigdepahbnidjaaQp39
import Derived.Test.YtigdepahbnidjaaQp40
import Derived.Test.YtigdepahbnidjaaQp8
import Derived.Deep.RegionHeld3
import Derived.Deep.DeepCutAuto
namespace Go.Proofs.Ytigdepahbnidjaa
open Go.RowKit
set_option linter.unusedVariables false

theorem ei_alt (n i : Nat) : eiR n i = mkR n fun j => if j = i then 1 else 0 := mkR_congr fun j _ => by simp [eq_comm]

set_option maxRecDepth 100000 in
set_option maxHeartbeats 6400000 in
theorem l08Reflection_any (pS : Int) (aS : Option Addr) (S : List Int) (cS loS tpS : Nat) (au : Option Addr) (u : List Int) (cu lou tpu : Nat) (w : World) (hs : isSp pS S = true) (hS : RowIn loS tpS w aS S) (tS : tpS ≤ w.heap.size) (hu : RowIn lou tpu w au u) (tu : tpu ≤ w.heap.size) (mu : isVec pS S.length u = true) (h0 : pairN pS S u u ≠ 0) :
    Calls Try.prog 58 #[.agg #[.int .i64 pS, .slice aS S.length cS], .slice au u.length cu] w (NewM (trM (ledM S.length (rflM pS S u) S.length)) w) := by
  obtain ⟨j0, kj, kz0, kz1, kz2⟩ := info_parts info_slice
  have HI := Lib.hid hs
  have HS := Lib.hid hS
  have Hu := Lib.hid hu
  have HMu := Lib.hid mu
  have HF0 := Lib.hid h0
  have h6 := (isSp_iff.1 hs).hi
  have hl1 := (isSp_iff.1 hs).lo
  have hpb := prm_bd (isSp_iff.1 hs).prime
  obtain ⟨M, hM⟩ : ∃ M, M = ledM S.length (rflM pS S u) S.length := ⟨_, rfl⟩
  have HML : Hid (M.length = S.length) := by show _ = _; rw [hM, led_len]
  have HMR : Hid (∀ i, i < S.length → rw' M i = (rflM pS S u) (eiR S.length i)) := fun i hi => by rw [hM]; exact led_all _ hi
  have HTK : Hid (M.take S.length = M) := List.take_of_length_le (by rw [HML.out]; exact Nat.le_refl _)
  have HCL : Hid (∀ i, i < S.length → (rw' M i).length = S.length) := fun i hi => by rw [HMR.out i hi]; exact by rw [rfl_len, ei_len]
  rw [← hM]
  have hmk := fun W => run_make_row' (P := Try.prog) 22 2 (.int .i64 0) 8 Try.underlying22 info64 rfl .i64 .i64 S.length (by omega) (by omega) W
  have k0 := nw0 w (.int .i64 pS) (.slice aS S.length cS) 30
  have k1 := nw1 w (.int .i64 pS) (.slice aS S.length cS) 30
  have HB0 := Lib.hid (below_alloc w (.cells #[.int .i64 pS, .slice aS S.length cS] 30))
  clear hs hS hu mu h0 hM
  go_enter Try.func58, Try.ntmps58
  go_upto_region 1 with fail
  obtain ⟨w1, hw1⟩ : ∃ z, z = w.alloc (.cells #[.int .i64 pS, .slice aS S.length cS] 30) := ⟨_, rfl⟩
  rw [← hw1] at HB0 k0 k1 ⊢
  have hd1 : w.heap.size < w1.heap.size := by rw [hw1]; simp
  have HB1 := HB0
  clear hw1
  have SS1 := Lib.hid (And.intro k0 k1)
  go_wp2
  go_loopw [5, 6] (fun u t wr => ∃ i : Nat, i ≤ S.length ∧ t = .int .i64 i ∧ OutM w1.heap.size wr u (M.take i) ∧ Below w1.heap.size w1 wr) (fun _ t _ => S.length - (intOf t).toNat)
  case atStart => exact ⟨0, Nat.zero_le _, rfl, OutM.start w1 _ _ (Nat.le_refl _) rfl, below_alloc w1 _⟩
  case round =>
    obtain ⟨i, hi, rfl, ho, hbel⟩ := hrel
    have HO := Lib.hid ho
    have HBEL := Lib.hid hbel
    have hwz := hbel.size
    have HBW : Hid (Below w.heap.size w wr) := HB1.out.trans (hbel.mono HB1.out.size)
    clear k0 k1
    have k0 := (hbel.cell (p := ⟨w.heap.size, 0, none⟩) hd1).trans SS1.out.1
    have k1 := (hbel.cell (p := ⟨w.heap.size, 1, none⟩) hd1).trans SS1.out.2
    by_cases hlt : i < S.length
    · have hi1 : (i : Int) < (S.length : Int) := by omega
      have g0 := made_cell wr (.int .i64 0) S.length 2 hlt
      have f0 : (wr.alloc (.cells (madeCells #[.int .i64 0] S.length) 2)).frozen? ⟨wr.heap.size, i, none⟩ = false := (by simp [go_sem])
      have HTL : Hid ((M.take i).length = i) := by show _ = _; rw [List.length_take, HML.out]; omega
      obtain ⟨vals, hvo, hvr⟩ := ho
      rw [HTL.out] at hvo hvr
      have HV1 := Lib.hid hvo
      have HVR := Lib.hid hvr
      clear hbel hvo hvr
      go_upto_region 7 with fail
      obtain ⟨w3, hw3⟩ : ∃ z, z = wr.alloc (.cells ((madeCells #[.int .i64 0] S.length).setIfInBounds i (.int .i64 1)) 2) := ⟨_, rfl⟩
      obtain ⟨B3, hB3⟩ : ∃ z, z = wr.heap.size := ⟨_, rfl⟩
      have hb3 : Below wr.heap.size wr w3 := by rw [hw3]; exact below_alloc wr _
      have HE : Hid (RowIn w.heap.size w3.heap.size w3 (some ⟨B3, 0, none⟩) (eiR S.length i)) := by
        show RowIn _ _ _ _ _
        rw [ei_alt, hB3]
        have h := one_rowA wr (n := S.length) (k := i) 2 1
        rw [← hw3] at h
        exact (h.own HBW.out.size (by rw [hw3]; simp)).row
      have HB3 : Hid (Below w.heap.size w w3) := below_step HBW.out HBW.out.size hb3
      have HB3r := Lib.hid hb3
      rw [← hw3]
      rw [← hB3]
      have q0 : w3.cell? ⟨w.heap.size, 0, none⟩ = some (.int .i64 pS) := (hb3.cell (p := ⟨w.heap.size, 0, none⟩) (Nat.lt_of_lt_of_le hd1 hwz)).trans k0
      have q1 : w3.cell? ⟨w.heap.size, 1, none⟩ = some (.slice aS S.length cS) := (hb3.cell (p := ⟨w.heap.size, 1, none⟩) (Nat.lt_of_lt_of_le hd1 hwz)).trans k1
      have hwz3 := hb3.size
      clear hw3 g0 f0 hb3 k0 k1 hB3
      have HCC : Hid (Calls Try.prog 96 #[.agg #[.int .i64 pS, .slice aS S.length cS], .slice au u.length cu, .slice (some ⟨B3, 0, none⟩) S.length S.length] w3 (NewR (rw' M i) w3)) := by
        show Calls _ _ _ _ _
        rw [HMR.out i hlt]
        have h := l07Reflect_tag pS aS S cS loS tpS au u cu lou tpu (some ⟨B3, 0, none⟩) (eiR S.length i) S.length w.heap.size w3.heap.size w3 HI.out (HS.out.below HB3.out tS) (Nat.le_trans tS HB3.out.size) (Hu.out.below HB3.out tu) (Nat.le_trans tu HB3.out.size) HMu.out HE.out (Nat.le_refl _) (ei_vec (by omega) _ _) HF0.out
        rw [ei_len] at h
        exact h
      go_wp2_with (first | (go_at_call 96; ((with_reducible refine (HCC.out).mono ?_); rintro e w4 ⟨r4, c4, rfl, t_, b_⟩; have HB4r := Lib.hid (below_step HB3r.out HB3r.out.size b_); have hwz4 := Nat.le_trans hwz HB4r.out.size; have HT4 := Lib.hid (TagR.low t_ hwz3); have HVW := Lib.hid (HV1.out.kept (below_grown HB4r.out) (by cases hv : Value.ownBlock u5 <;> simp)); clear t_ b_ q0 q1)) | ((at_builtin; (refine wpList_append_lies _ rfl _ _ 25 rfl w1.heap.size 22 j0 (.slice none 0 0) 1 24 Try.underlying25 kj kz0 kz1 kz2 rfl (by decide) u5 i vals rfl (HVW.out.alloc _) ⟨w4.heap.size, 0, none⟩ 1 1 [.slice r4 (rw' M i).length c4] rfl rfl (World.news_of_block (cs := #[.slice r4 (rw' M i).length c4]) (t := 22) (fr := (0, 0)) (heap_alloc_new w4 _)) (by simp [Value.oneCell']) (by omega) (by unfold maxLen; omega) (by omega) (by simp; omega) (w4.heap.size + 1) (by simp) ?_); intro gg cap w1 hown1 hgrow hat hlt1)))
      go_wp2
      go_roundw
      case rel => exact ⟨i + 1, by omega, by go_num, OutM.nextT (by rw [HML.out]; exact hlt) HV1.out HVR.out HT4.out hwz HB4r.out hown1 hgrow, ((HBEL.out.trans (HB4r.out.mono hwz)).alloc (by omega) _).grown hgrow (by simp; omega) (fun _ hk => (HV1.out.lt _ hk).1)⟩
      case measure => simp [intOf]; omega
    · have hi2 : ¬ (i : Int) < (S.length : Int) := by omega
      have hin : i = S.length := by omega
      have ho2 := HO.out
      rw [hin, HTK.out] at ho2
      obtain ⟨r, c, hv, hmat⟩ := ho2.mat
      rw [HML.out] at hv
      subst hv
      have HMT := Lib.hid hmat
      clear ho hbel ho2 hmat hin
      go_wp2_with (go_at_call 92; ((with_reducible refine (l02Turn_m r M S.length c w1.heap.size wr.heap.size wr HML.out HMT.out (Nat.le_refl _) (by rw [HML.out]; omega) (fun i hi => by rw [HCL.out i (by rw [← HML.out]; exact hi), HCL.out 0 (by omega)]) (by rw [HML.out]; omega) (by rw [HCL.out 0 (by omega)]; omega)).mono ?_); rintro e w4 ⟨r4, c4, rfl, o_, b_⟩; have HO4 := Lib.hid (o_.mono HBW.out.size (Nat.le_refl _)); have HB4 := Lib.hid (below_step HBW.out HBW.out.size b_); clear o_ b_))
      go_ret
      exact ⟨r4, c4, rfl, HO4.out, HB4.out⟩

set_option maxRecDepth 100000 in
set_option maxHeartbeats 6400000 in
theorem l08Matrix_any (pS : Int) (aS : Option Addr) (S : List Int) (cS loS tpS : Nat) (ax : Option Addr) (x : List Int) (cx lox tpx : Nat) (w : World) (hs : isSp pS S = true) (hS : RowIn loS tpS w aS S) (tS : tpS ≤ w.heap.size) (hx : RowIn lox tpx w ax x) (tx : tpx ≤ w.heap.size) (mx : isMv pS S x = true) (h0 : nrF pS S x ≠ 0) :
    Calls Try.prog 52 #[.agg #[.int .i64 pS, .slice aS S.length cS], .slice ax x.length cx] w (NewM (trM (ledM S.length (sdM pS S x) S.length)) w) := by
  obtain ⟨j0, kj, kz0, kz1, kz2⟩ := info_parts info_slice
  have HI := Lib.hid hs
  have HS := Lib.hid hS
  have Hx := Lib.hid hx
  have HMx := Lib.hid mx
  have HF0 := Lib.hid h0
  have h6 := (isSp_iff.1 hs).hi
  have hl1 := (isSp_iff.1 hs).lo
  have hpb := prm_bd (isSp_iff.1 hs).prime
  obtain ⟨M, hM⟩ : ∃ M, M = ledM S.length (sdM pS S x) S.length := ⟨_, rfl⟩
  have HML : Hid (M.length = S.length) := by show _ = _; rw [hM, led_len]
  have HMR : Hid (∀ i, i < S.length → rw' M i = (sdM pS S x) (eiR S.length i)) := fun i hi => by rw [hM]; exact led_all _ hi
  have HTK : Hid (M.take S.length = M) := List.take_of_length_le (by rw [HML.out]; exact Nat.le_refl _)
  have HCL : Hid (∀ i, i < S.length → (rw' M i).length = S.length) := fun i hi => by rw [HMR.out i hi]; exact sd_len _ _ _ _
  rw [← hM]
  have hmk := fun W => run_make_row' (P := Try.prog) 22 2 (.int .i64 0) 8 Try.underlying22 info64 rfl .i64 .i64 S.length (by omega) (by omega) W
  have k0 := nw0 w (.int .i64 pS) (.slice aS S.length cS) 30
  have k1 := nw1 w (.int .i64 pS) (.slice aS S.length cS) 30
  have HB0 := Lib.hid (below_alloc w (.cells #[.int .i64 pS, .slice aS S.length cS] 30))
  clear hs hS hx mx h0 hM
  go_enter Try.func52, Try.ntmps52
  go_upto_region 1 with fail
  obtain ⟨w1, hw1⟩ : ∃ z, z = w.alloc (.cells #[.int .i64 pS, .slice aS S.length cS] 30) := ⟨_, rfl⟩
  rw [← hw1] at HB0 k0 k1 ⊢
  have hd1 : w.heap.size < w1.heap.size := by rw [hw1]; simp
  have HB1 := HB0
  clear hw1
  have SS1 := Lib.hid (And.intro k0 k1)
  go_wp2
  go_loopw [5, 6] (fun u t wr => ∃ i : Nat, i ≤ S.length ∧ t = .int .i64 i ∧ OutM w1.heap.size wr u (M.take i) ∧ Below w1.heap.size w1 wr) (fun _ t _ => S.length - (intOf t).toNat)
  case atStart => exact ⟨0, Nat.zero_le _, rfl, OutM.start w1 _ _ (Nat.le_refl _) rfl, below_alloc w1 _⟩
  case round =>
    obtain ⟨i, hi, rfl, ho, hbel⟩ := hrel
    have HO := Lib.hid ho
    have HBEL := Lib.hid hbel
    have hwz := hbel.size
    have HBW : Hid (Below w.heap.size w wr) := HB1.out.trans (hbel.mono HB1.out.size)
    clear k0 k1
    have k0 := (hbel.cell (p := ⟨w.heap.size, 0, none⟩) hd1).trans SS1.out.1
    have k1 := (hbel.cell (p := ⟨w.heap.size, 1, none⟩) hd1).trans SS1.out.2
    by_cases hlt : i < S.length
    · have hi1 : (i : Int) < (S.length : Int) := by omega
      have g0 := made_cell wr (.int .i64 0) S.length 2 hlt
      have f0 : (wr.alloc (.cells (madeCells #[.int .i64 0] S.length) 2)).frozen? ⟨wr.heap.size, i, none⟩ = false := (by simp [go_sem])
      have HTL : Hid ((M.take i).length = i) := by show _ = _; rw [List.length_take, HML.out]; omega
      obtain ⟨vals, hvo, hvr⟩ := ho
      rw [HTL.out] at hvo hvr
      have HV1 := Lib.hid hvo
      have HVR := Lib.hid hvr
      clear hbel hvo hvr
      go_upto_region 7 with fail
      obtain ⟨w3, hw3⟩ : ∃ z, z = wr.alloc (.cells ((madeCells #[.int .i64 0] S.length).setIfInBounds i (.int .i64 1)) 2) := ⟨_, rfl⟩
      obtain ⟨B3, hB3⟩ : ∃ z, z = wr.heap.size := ⟨_, rfl⟩
      have hb3 : Below wr.heap.size wr w3 := by rw [hw3]; exact below_alloc wr _
      have HE : Hid (RowIn w.heap.size w3.heap.size w3 (some ⟨B3, 0, none⟩) (eiR S.length i)) := by
        show RowIn _ _ _ _ _
        rw [ei_alt, hB3]
        have h := one_rowA wr (n := S.length) (k := i) 2 1
        rw [← hw3] at h
        exact (h.own HBW.out.size (by rw [hw3]; simp)).row
      have HB3 : Hid (Below w.heap.size w w3) := below_step HBW.out HBW.out.size hb3
      have HB3r := Lib.hid hb3
      rw [← hw3]
      rw [← hB3]
      have q0 : w3.cell? ⟨w.heap.size, 0, none⟩ = some (.int .i64 pS) := (hb3.cell (p := ⟨w.heap.size, 0, none⟩) (Nat.lt_of_lt_of_le hd1 hwz)).trans k0
      have q1 : w3.cell? ⟨w.heap.size, 1, none⟩ = some (.slice aS S.length cS) := (hb3.cell (p := ⟨w.heap.size, 1, none⟩) (Nat.lt_of_lt_of_le hd1 hwz)).trans k1
      have hwz3 := hb3.size
      clear hw3 g0 f0 hb3 k0 k1 hB3
      have HCC : Hid (Calls Try.prog 91 #[.agg #[.int .i64 pS, .slice aS S.length cS], .slice ax x.length cx, .slice (some ⟨B3, 0, none⟩) S.length S.length] w3 (NewR (rw' M i) w3)) := by
        show Calls _ _ _ _ _
        rw [HMR.out i hlt]
        have h := l07Sandwich_tag pS aS S cS loS tpS ax x cx lox tpx (some ⟨B3, 0, none⟩) (eiR S.length i) S.length w.heap.size w3.heap.size w3 HI.out (HS.out.below HB3.out tS) (Nat.le_trans tS HB3.out.size) (Hx.out.below HB3.out tx) (Nat.le_trans tx HB3.out.size) HMx.out HE.out (Nat.le_refl _) (ei_vec (by omega) _ _) HF0.out
        rw [ei_len] at h
        exact h
      go_wp2_with (first | (go_at_call 91; ((with_reducible refine (HCC.out).mono ?_); rintro e w4 ⟨r4, c4, rfl, t_, b_⟩; have HB4r := Lib.hid (below_step HB3r.out HB3r.out.size b_); have hwz4 := Nat.le_trans hwz HB4r.out.size; have HT4 := Lib.hid (TagR.low t_ hwz3); have HVW := Lib.hid (HV1.out.kept (below_grown HB4r.out) (by cases hv : Value.ownBlock u5 <;> simp)); clear t_ b_ q0 q1)) | ((at_builtin; (refine wpList_append_lies _ rfl _ _ 25 rfl w1.heap.size 22 j0 (.slice none 0 0) 1 24 Try.underlying25 kj kz0 kz1 kz2 rfl (by decide) u5 i vals rfl (HVW.out.alloc _) ⟨w4.heap.size, 0, none⟩ 1 1 [.slice r4 (rw' M i).length c4] rfl rfl (World.news_of_block (cs := #[.slice r4 (rw' M i).length c4]) (t := 22) (fr := (0, 0)) (heap_alloc_new w4 _)) (by simp [Value.oneCell']) (by omega) (by unfold maxLen; omega) (by omega) (by simp; omega) (w4.heap.size + 1) (by simp) ?_); intro gg cap w1 hown1 hgrow hat hlt1)))
      go_wp2
      go_roundw
      case rel => exact ⟨i + 1, by omega, by go_num, OutM.nextT (by rw [HML.out]; exact hlt) HV1.out HVR.out HT4.out hwz HB4r.out hown1 hgrow, ((HBEL.out.trans (HB4r.out.mono hwz)).alloc (by omega) _).grown hgrow (by simp; omega) (fun _ hk => (HV1.out.lt _ hk).1)⟩
      case measure => simp [intOf]; omega
    · have hi2 : ¬ (i : Int) < (S.length : Int) := by omega
      have hin : i = S.length := by omega
      have ho2 := HO.out
      rw [hin, HTK.out] at ho2
      obtain ⟨r, c, hv, hmat⟩ := ho2.mat
      rw [HML.out] at hv
      subst hv
      have HMT := Lib.hid hmat
      clear ho hbel ho2 hmat hin
      go_wp2_with (go_at_call 92; ((with_reducible refine (l02Turn_m r M S.length c w1.heap.size wr.heap.size wr HML.out HMT.out (Nat.le_refl _) (by rw [HML.out]; omega) (fun i hi => by rw [HCL.out i (by rw [← HML.out]; exact hi), HCL.out 0 (by omega)]) (by rw [HML.out]; omega) (by rw [HCL.out 0 (by omega)]; omega)).mono ?_); rintro e w4 ⟨r4, c4, rfl, o_, b_⟩; have HO4 := Lib.hid (o_.mono HBW.out.size (Nat.le_refl _)); have HB4 := Lib.hid (below_step HBW.out HBW.out.size b_); clear o_ b_))
      go_ret
      exact ⟨r4, c4, rfl, HO4.out, HB4.out⟩

end Go.Proofs.Ytigdepahbnidjaa
