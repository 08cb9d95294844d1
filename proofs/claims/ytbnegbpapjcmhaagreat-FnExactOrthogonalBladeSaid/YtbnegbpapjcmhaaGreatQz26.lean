/-
  The program's new matrices of zeros, to be appended to.
  Conditions: at least one column, at most 1024 rows and columns.
  Square matrices, in the model.
  Conditions: the arguments are nil or rows of known cells, of at most 1048576 numbers.
  OrthogonalTo: contracts of the program and of the model.
  Conditions: the lists are nil or rows of known cells, of at most 1048576 numbers.
-/
import Derived.Test.YtbnegbpapjcmhaaGreatQz4
import Derived.Test.YtbnegbpapjcmhaaGreatQz17
import Derived.Test.YtbnegbpapjcmhaaGreatQz25
import Derived.Test.YtbnegbpapjcmhaaGreatQz22
import Derived.Test.YtbnegbpapjcmhaaGreatQz11
namespace Go.Proofs.YtbnegbpapjcmhaaGreat
open Go.RowKit
set_option linter.unusedVariables false

/-- What the two blocks hold. -/
def Tgs (w : World) (bm br n : Nat) : Prop := (∃ cur, w.heap[bm]? = some (.cells cur 22 (0, 0)) ∧ cur.size = n) ∧ ∃ cur, w.heap[br]? = some (.cells cur 2 (0, 0))
theorem Tgs.set {w : World} {bm br n : Nat} (h : Tgs w bm br n) (hne : bm ≠ br) (i : Nat) (v : Value) : Tgs (w.setCell ⟨bm, i, none⟩ v).drew bm br n := by
  obtain ⟨⟨cur, h1, h2⟩, ⟨cur', h3⟩⟩ := h
  refine ⟨⟨cur.setIfInBounds i v, ?_, by simp [h2]⟩, ⟨cur', ?_⟩⟩
  · show (w.setCell ⟨bm, i, none⟩ v).heap[bm]? = _
    simp [World.setCell, Array.getElem?_modify, h1]
  · show (w.setCell ⟨bm, i, none⟩ v).heap[br]? = _
    rw [Below.heap_setCell _ _ _ _ (fun e => hne e.symm)]; exact h3
theorem tgs1 (w : World) (n k : Nat) (t t' : TypeId) (ht : t = 22) (ht' : t' = 2) : Tgs ((w.alloc (.cells (madeCells #[.slice none 0 0] n) t)).alloc (.cells (madeCells #[.int .i64 0] k) t')).drew w.heap.size (w.heap.size + 1) n := by
  subst ht ht'
  refine ⟨⟨madeCells #[.slice none 0 0] n, ?_, by simp [size_madeCells]⟩, ⟨madeCells #[.int .i64 0] k, ?_⟩⟩
  · show ((w.alloc _).alloc _).heap[w.heap.size]? = _
    rw [Below.heap_alloc _ _ _ (by simp)]; exact heap_alloc_new w _
  · have h := heap_alloc_new (w.alloc (.cells (madeCells #[.slice none 0 0] n) 22)) (.cells (madeCells #[.int .i64 0] k) 2)
    have e : ∀ o : Obj, (w.alloc o).heap.size = w.heap.size + 1 := fun o => by simp
    rw [e] at h; exact h
theorem tgs2 (w : World) (n k : Nat) (t t' : TypeId) (ht : t = 22) (ht' : t' = 2) : Tgs ((w.alloc (.cells (madeCells #[.int .i64 0] k) t')).alloc (.cells (madeCells #[.slice none 0 0] n) t)).drew (w.heap.size + 1) w.heap.size n := by
  subst ht ht'
  refine ⟨⟨madeCells #[.slice none 0 0] n, ?_, by simp [size_madeCells]⟩, ⟨madeCells #[.int .i64 0] k, ?_⟩⟩
  · have h := heap_alloc_new (w.alloc (.cells (madeCells #[.int .i64 0] k) 2)) (.cells (madeCells #[.slice none 0 0] n) 22)
    have e : ∀ o : Obj, (w.alloc o).heap.size = w.heap.size + 1 := fun o => by simp
    rw [e] at h; exact h
  · show ((w.alloc _).alloc _).heap[w.heap.size]? = _
    rw [Below.heap_alloc _ _ _ (by simp)]; exact heap_alloc_new w _
theorem cut_out {w wr : World} {bm br n c : Nat} (h : CutAt w wr bm br n c n) (ht : Tgs wr bm br n) (hn : n ≤ 1024) : OutM w.heap.size wr (.slice (some ⟨bm, 0, none⟩) n n) (mk n c fun _ _ => 0) := by
  obtain ⟨⟨cur, h1, h2⟩, ⟨cur', h3⟩⟩ := ht
  refine ⟨cur.toList, ?_, fun i hi => ?_⟩
  · rw [mk_len]
    refine ⟨by simp [h2], .inr ⟨bm, n, cur, rfl, h.lm.1, h1, Nat.le_refl _, by unfold maxLen; omega, by omega, ?_⟩⟩
    rw [List.take_of_length_le (by simp [h2])]
  · rw [mk_len] at hi
    refine ⟨some ⟨br, i * c, none⟩, c, ?_, .inr ⟨br, i * c, cur', rfl, h.lr.1, h.lr.2, h3, fun j hj => ?_⟩⟩
    · have := h.done i hi
      rw [mk_rowLen _ hi]
      simpa [World.cell?, h1] using this
    · rw [mk_rowLen _ hi] at hj
      rw [mk_row _ hi, mkR_at _ hj]
      refine h.zero _ ?_
      have h4 : (i + 1) * c ≤ n * c := Nat.mul_le_mul_right _ hi
      rw [Nat.succ_mul] at h4
      omega
def NewZO (n c : Nat) (w : World) (e : Ending) (w' : World) : Prop := ∃ g, e = .returned (.slice (some ⟨g, 0, none⟩) n n) ∧ OutM w.heap.size w' (.slice (some ⟨g, 0, none⟩) n n) (mk n c fun _ _ => 0) ∧ Below w.heap.size w w'

set_option maxRecDepth 100000 in
set_option maxHeartbeats 3200000 in
theorem newMatrix_out (n c : Nat) (w : World) (hn : n ≤ 1024) (hc : c ≤ 1024) (hc0 : 1 ≤ c) :
    Calls Tryz.prog 105 #[.int .i64 n, .int .i64 c] w (NewZO n c w) := by
  have hn' := Lib.hid hn
  obtain ⟨t, htt⟩ : ∃ t, t = n * c := ⟨_, rfl⟩
  have htb : t ≤ 1048576 := by rw [htt]; exact Nat.mul_le_mul hn hc
  have hmul : IntKind.i64.wrap ((n : Int) * (c : Int)) = (t : Int) := by
    have : (n : Int) * (c : Int) = (t : Int) := by rw [htt]; simp
    rw [this]; exact IntWalk.i64_in _ (by omega)
  have HT := Lib.hid htt
  clear htt
  have hmk := fun W => run_make_row' (P := Tryz.prog) 26 22 (.slice none 0 0) 24 Tryz.underlying26 info_slice rfl .i64 .i64 n (by omega) (by omega) W
  have hmk2 := fun W => run_make_row' (P := Tryz.prog) 22 2 (.int .i64 0) 8 Tryz.underlying22 info64 rfl .i64 .i64 t (by omega) (by omega) W
  go_enter Tryz.func105, Tryz.ntmps105
  go_wp2
  go_region
  · go_wp2
    go_loopw [6, 16] (fun v t wr => ∃ i o L : Nat, i ≤ n ∧ t = .int .i64 i ∧ v = .slice (some ⟨(w.heap.size + 1), o, none⟩) L L ∧ L = (n - i) * c ∧ (i < n → o = i * c) ∧ CutAt w wr w.heap.size (w.heap.size + 1) n c i ∧ Tgs wr w.heap.size (w.heap.size + 1) n) (fun _ t _ => n - (intOf t).toNat)
    case atStart => exact ⟨0, 0, t, Nat.zero_le _, rfl, rfl, by rw [HT.out]; rfl, fun _ => by simp, (CutAt.start1 w n c t _ _ HT.out).drew, tgs1 w n t _ _ rfl rfl⟩
    case round =>
      obtain ⟨i, o, L, hi, rfl, rfl, hL, ho, hcut, htg⟩ := hrel
      have HTg := Lib.hid htg
      clear htg
      have HCut := Lib.hid hcut
      have HL := Lib.hid hL
      have HOo := Lib.hid ho
      by_cases hlt : i < n
      · have g0 := hcut.rest i (Nat.le_refl _) hlt
        have f0 := hcut.fm i
        have hLc : c ≤ L := by rw [hL]; exact Nat.le_mul_of_pos_left _ (by omega)
        have hLe : L - c = (n - (i + 1)) * c := by
          rw [hL]
          have : n - i = (n - (i + 1)) + 1 := by omega
          rw [this, Nat.succ_mul]; omega
        have HLe := Lib.hid hLe
        have hLt : L ≤ t := by rw [hL, HT.out]; exact Nat.mul_le_mul_right _ (by omega)
        have hi1 : (i : Int) < (n : Int) := by omega
        have hc1 : (c : Int) ≤ (L : Int) := by omega
        by_cases hend : c = L
        · have hin : i + 1 = n := by
            have h2 : (n - (i + 1)) * c = 0 := by omega
            rcases Nat.mul_eq_zero.1 h2 with h3 | h3 <;> omega
          have HIn := Lib.hid hin
          subst hend
          clear hL ho hcut hLe hin
          go_wp2
          go_region
          go_wp2
          go_roundw
          case rel => exact ⟨i + 1, o, 0, by omega, by go_num, by first | rfl | simp, by rw [HIn.out]; simp, fun h => absurd HIn.out (by omega), (HCut.out.next hlt (HOo.out hlt)).drew, HTg.out.set HCut.out.ne _ _⟩
          case measure => simp [intOf]; omega
        · have hlt2 : c < L := by omega
          clear hL ho hcut hLe hend
          go_wp2
          go_region
          go_wp2
          go_roundw
          case rel => exact ⟨i + 1, o + c, L - c, by omega, by go_num, by first | rfl | simp, HLe.out, fun h => by rw [HOo.out hlt, Nat.succ_mul], (HCut.out.next hlt (HOo.out hlt)).drew, HTg.out.set HCut.out.ne _ _⟩
          case measure => simp [intOf]; omega
      · have hn : i = n := by omega
        subst hn
        clear hL ho hcut
        go_wp2
        go_ret
        exact ⟨_, rfl, cut_out HCut.out HTg.out hn'.out, HCut.out.bel⟩
  · go_wp2
    go_loopw [6, 16] (fun v t wr => ∃ i o L : Nat, i ≤ n ∧ t = .int .i64 i ∧ v = .slice (some ⟨w.heap.size, o, none⟩) L L ∧ L = (n - i) * c ∧ (i < n → o = i * c) ∧ CutAt w wr (w.heap.size + 1) w.heap.size n c i ∧ Tgs wr (w.heap.size + 1) w.heap.size n) (fun _ t _ => n - (intOf t).toNat)
    case atStart => exact ⟨0, 0, t, Nat.zero_le _, rfl, rfl, by rw [HT.out]; rfl, fun _ => by simp, (CutAt.start2 w n c t _ _ HT.out).drew, tgs2 w n t _ _ rfl rfl⟩
    case round =>
      obtain ⟨i, o, L, hi, rfl, rfl, hL, ho, hcut, htg⟩ := hrel
      have HTg := Lib.hid htg
      clear htg
      have HCut := Lib.hid hcut
      have HL := Lib.hid hL
      have HOo := Lib.hid ho
      by_cases hlt : i < n
      · have g0 := hcut.rest i (Nat.le_refl _) hlt
        have f0 := hcut.fm i
        have hLc : c ≤ L := by rw [hL]; exact Nat.le_mul_of_pos_left _ (by omega)
        have hLe : L - c = (n - (i + 1)) * c := by
          rw [hL]
          have : n - i = (n - (i + 1)) + 1 := by omega
          rw [this, Nat.succ_mul]; omega
        have HLe := Lib.hid hLe
        have hLt : L ≤ t := by rw [hL, HT.out]; exact Nat.mul_le_mul_right _ (by omega)
        have hi1 : (i : Int) < (n : Int) := by omega
        have hc1 : (c : Int) ≤ (L : Int) := by omega
        by_cases hend : c = L
        · have hin : i + 1 = n := by
            have h2 : (n - (i + 1)) * c = 0 := by omega
            rcases Nat.mul_eq_zero.1 h2 with h3 | h3 <;> omega
          have HIn := Lib.hid hin
          subst hend
          clear hL ho hcut hLe hin
          go_wp2
          go_region
          go_wp2
          go_roundw
          case rel => exact ⟨i + 1, o, 0, by omega, by go_num, by first | rfl | simp, by rw [HIn.out]; simp, fun h => absurd HIn.out (by omega), (HCut.out.next hlt (HOo.out hlt)).drew, HTg.out.set HCut.out.ne _ _⟩
          case measure => simp [intOf]; omega
        · have hlt2 : c < L := by omega
          clear hL ho hcut hLe hend
          go_wp2
          go_region
          go_wp2
          go_roundw
          case rel => exact ⟨i + 1, o + c, L - c, by omega, by go_num, by first | rfl | simp, HLe.out, fun h => by rw [HOo.out hlt, Nat.succ_mul], (HCut.out.next hlt (HOo.out hlt)).drew, HTg.out.set HCut.out.ne _ _⟩
          case measure => simp [intOf]; omega
      · have hn : i = n := by omega
        subst hn
        clear hL ho hcut
        go_wp2
        go_ret
        exact ⟨_, rfl, cut_out HCut.out HTg.out hn'.out, HCut.out.bel⟩


theorem newMatrix_one (c : Nat) (w : World) (hc : c ≤ 1024) (hc0 : 1 ≤ c) : Calls Tryz.prog 105 #[.int .i64 1, .int .i64 c] w (NewZO 1 c w) := newMatrix_out 1 c w (by omega) hc hc0

end Go.Proofs.YtbnegbpapjcmhaaGreat

namespace Go.Proofs.YtbnegbpapjcmhaaGreat
open Go.RowKit
set_option linter.unusedVariables false

noncomputable def ortV (p : Int) (S : List Int) (m : List (List Int)) : List (List Int) := if codeL p S m = 0 then ortB p S m else []
theorem ort_wide {p : Int} {S : List Int} {m : List (List Int)} (hs : isSp p S = true) (hl : listB p S m = true) : RowsW p (zrow S.length :: ortM p S m) := by
  have K := isSp_iff.1 hs
  have s0 := K.lo
  have s1 := K.hi
  have h16 := (listB_iff hl).1
  have el : (ortM p S m).length = m.length := mk_len _ _ _
  have e0 : (rw' (zrow S.length :: ortM p S m) 0).length = S.length := zrow_len _
  have hp := prm_bd K.prime
  refine ⟨K.prime, by simp, by simp [el]; omega, by omega, by omega, fun i hi => ?_, fun i hi j hj => ?_⟩
  · rw [e0]
    cases i with
    | zero => exact zrow_len _
    | succ i => exact mk_rowLen (n := m.length) _ (by simp [el] at hi; omega)
  · rw [e0] at hj
    cases i with
    | zero =>
      rw [at_cons0]
      have : num (zrow S.length) j = 0 := mkR_at _ hj
      rw [this]; omega
    | succ i =>
      rw [at_cons]
      have hi' : i < m.length := by simp [el] at hi; omega
      have : at' (ortM p S m) i j = ortF p S m i j := mk_at _ hi' hj
      rw [this]
      exact mod_bd K.prime _
theorem ort_ker {p : Int} {S : List Int} {m : List (List Int)} (hs : isSp p S = true) : kerB p (zrow S.length :: ortM p S m) = ortB p S m := by
  have K := isSp_iff.1 hs
  have s0 := K.lo
  have hp := prm_bd K.prime
  unfold ortB
  split
  · rename_i h
    have : ortM p S m = [] := List.eq_nil_of_length_eq_zero (by rw [ortM, mk_len]; exact h)
    rw [this]
    exact ker_zrow (by omega) s0
  · rename_i h
    exact ker_zero (by omega) (mk_rowLen _ (by omega))

set_option maxRecDepth 100000 in
set_option maxHeartbeats 3200000 in
theorem impl_OrthogonalTo (pS : Int) (aS : Option Addr) (S : List Int) (cS loS tpS : Nat) (am : Option Addr) (m : List (List Int)) (cm lom tpm : Nat) (w : World)
    (hS : RowIn loS tpS w aS S) (tS : tpS ≤ w.heap.size) (sS : S.length ≤ 1048576) (hm : MatIn lom tpm w am m) (tm : tpm ≤ w.heap.size) (sm : m.length + tot m m.length ≤ 1048576) :
    Calls Tryz.prog 67 #[.agg #[.int .i64 pS, .slice aS S.length cS], .slice am m.length cm] w (ImplM (ortV pS S m) (codeL pS S m) w) := by
  obtain ⟨j0, kj, kz0, kz1, kz2⟩ := info_parts info_slice
  have HS := Lib.hid hS
  have Hm := Lib.hid hm
  have sm1 : m.length ≤ 1048576 := by omega
  have SR : Hid (∀ i, i < m.length → (rw' m i).length ≤ 1048576) := fun i hi => by have := tot_row hi; omega
  clear hS hm sm
  rcases codeL_cases pS S m with ⟨hs, hc⟩ | ⟨hs, hl, hc⟩ | ⟨hs, hl, hc⟩
  · have HI := Lib.hid hs
    have HC := Lib.hid hc
    have HV : Hid (ortV pS S m = []) := by show _ = _; unfold ortV; rw [if_neg (by rw [hc]; decide)]
    clear hs hc
    go_enter Tryz.func67, Tryz.ntmps67
    go_wp2_with (first | (go_at_call 104; (with_reducible refine (checkList_any pS aS S cS loS tpS am m cm lom tpm _ (HS.out.below ((Below.refl _ _).alloc (Nat.le_refl _) (.cells #[.int .i64 pS, .slice aS S.length cS] 29)) tS) (Nat.le_trans tS (((Below.refl _ _).alloc (Nat.le_refl _) (.cells #[.int .i64 pS, .slice aS S.length cS] 29))).size) sS (Hm.out.below ((Below.refl _ _).alloc (Nat.le_refl _) (.cells #[.int .i64 pS, .slice aS S.length cS] 29)) tm) (Nat.le_trans tm (((Below.refl _ _).alloc (Nat.le_refl _) (.cells #[.int .i64 pS, .slice aS S.length cS] 29))).size) sm1 SR.out).mono ?_); rintro e w2 ⟨rfl, b2⟩; rw [HC.out]; have B2 := Lib.hid b2; have K2_0_0 := (b2.cell (p := ⟨w.heap.size, 0, none⟩) (Nat.lt_of_lt_of_le (show w.heap.size < (w.alloc (.cells #[.int .i64 pS, .slice aS S.length cS] 29)).heap.size by simp) (Nat.le_refl _))).trans (show (w.alloc (.cells #[.int .i64 pS, .slice aS S.length cS] 29)).cell? ⟨w.heap.size, 0, none⟩ = some (.int .i64 pS) by simp [go_sem]); have K2_0_1 := (b2.cell (p := ⟨w.heap.size, 1, none⟩) (Nat.lt_of_lt_of_le (show w.heap.size < (w.alloc (.cells #[.int .i64 pS, .slice aS S.length cS] 29)).heap.size by simp) (Nat.le_refl _))).trans (show (w.alloc (.cells #[.int .i64 pS, .slice aS S.length cS] 29)).cell? ⟨w.heap.size, 1, none⟩ = some (.slice aS S.length cS) by simp [go_sem]); clear b2))
    go_ret2
    rw [HV.out, HC.out]
    exact ⟨none, 0, rfl, .inl rfl, (below_step ((Below.refl _ _).alloc (Nat.le_refl _) (.cells #[.int .i64 pS, .slice aS S.length cS] 29)) (show w.heap.size ≤ (w.alloc (.cells #[.int .i64 pS, .slice aS S.length cS] 29)).heap.size from (((Below.refl _ _).alloc (Nat.le_refl _) (.cells #[.int .i64 pS, .slice aS S.length cS] 29))).size) B2.out)⟩
  · have HI := Lib.hid hs
    have HC := Lib.hid hc
    have HL := Lib.hid hl
    have HP := Lib.hid (isSp_iff.1 hs).prime
    have HV : Hid (ortV pS S m = ortB pS S m) := by show _ = _; unfold ortV; rw [if_pos hc]
    have HVE : Hid (∀ i, i < m.length → isVec pS S.length (rw' m i) = true) := (listB_iff hl).2
    have h16 := (listB_iff hl).1
    have hS6 := (isSp_iff.1 hs).hi
    have hS1 := (isSp_iff.1 hs).lo
    have HRW := Lib.hid (ort_wide hs hl)
    have HKE := Lib.hid (ort_ker (m := m) hs)
    have HEM : Hid (zrow S.length :: mk m.length S.length (ortF pS S m) = zrow S.length :: ortM pS S m) := rfl
    obtain ⟨Z, hZ⟩ : ∃ Z, Z = zrow S.length :: ortM pS S m := ⟨_, rfl⟩
    rw [← hZ] at HRW HKE HEM
    clear hZ
    clear hs hc hl
    go_enter Tryz.func67, Tryz.ntmps67
    go_wp2_with (first | (go_at_call 104; (with_reducible refine (checkList_any pS aS S cS loS tpS am m cm lom tpm _ (HS.out.below ((Below.refl _ _).alloc (Nat.le_refl _) (.cells #[.int .i64 pS, .slice aS S.length cS] 29)) tS) (Nat.le_trans tS (((Below.refl _ _).alloc (Nat.le_refl _) (.cells #[.int .i64 pS, .slice aS S.length cS] 29))).size) sS (Hm.out.below ((Below.refl _ _).alloc (Nat.le_refl _) (.cells #[.int .i64 pS, .slice aS S.length cS] 29)) tm) (Nat.le_trans tm (((Below.refl _ _).alloc (Nat.le_refl _) (.cells #[.int .i64 pS, .slice aS S.length cS] 29))).size) sm1 SR.out).mono ?_); rintro e w2 ⟨rfl, b2⟩; rw [HC.out]; have B2 := Lib.hid b2; have K2_0_0 := (b2.cell (p := ⟨w.heap.size, 0, none⟩) (Nat.lt_of_lt_of_le (show w.heap.size < (w.alloc (.cells #[.int .i64 pS, .slice aS S.length cS] 29)).heap.size by simp) (Nat.le_refl _))).trans (show (w.alloc (.cells #[.int .i64 pS, .slice aS S.length cS] 29)).cell? ⟨w.heap.size, 0, none⟩ = some (.int .i64 pS) by simp [go_sem]); have K2_0_1 := (b2.cell (p := ⟨w.heap.size, 1, none⟩) (Nat.lt_of_lt_of_le (show w.heap.size < (w.alloc (.cells #[.int .i64 pS, .slice aS S.length cS] 29)).heap.size by simp) (Nat.le_refl _))).trans (show (w.alloc (.cells #[.int .i64 pS, .slice aS S.length cS] 29)).cell? ⟨w.heap.size, 1, none⟩ = some (.slice aS S.length cS) by simp [go_sem]); have KK0 := Lib.hid K2_0_0; have KK1 := Lib.hid K2_0_1; have lw2 : w.heap.size < w2.heap.size := (Nat.lt_of_lt_of_le (show w.heap.size < (w.alloc (.cells #[.int .i64 pS, .slice aS S.length cS] 29)).heap.size by simp) (Nat.le_trans (Nat.le_refl _) B2.out.size)); have HBW := Lib.hid (below_step ((Below.refl _ _).alloc (Nat.le_refl _) (.cells #[.int .i64 pS, .slice aS S.length cS] 29)) (show w.heap.size ≤ (w.alloc (.cells #[.int .i64 pS, .slice aS S.length cS] 29)).heap.size from (((Below.refl _ _).alloc (Nat.le_refl _) (.cells #[.int .i64 pS, .slice aS S.length cS] 29))).size) B2.out); clear b2) | (go_at_call 105; (with_reducible refine (newMatrix_one S.length _ (by omega) (by omega)).mono ?_); rintro e w3 ⟨g3, rfl, o3, b3⟩; have B3 := Lib.hid b3; have K3_0_0 := (b3.cell (p := ⟨w.heap.size, 0, none⟩) (Nat.lt_of_lt_of_le (show w.heap.size < (w.alloc (.cells #[.int .i64 pS, .slice aS S.length cS] 29)).heap.size by simp) (Nat.le_trans (Nat.le_refl _) B2.out.size))).trans K2_0_0; clear K2_0_0; have K3_0_1 := (b3.cell (p := ⟨w.heap.size, 1, none⟩) (Nat.lt_of_lt_of_le (show w.heap.size < (w.alloc (.cells #[.int .i64 pS, .slice aS S.length cS] 29)).heap.size by simp) (Nat.le_trans (Nat.le_refl _) B2.out.size))).trans K2_0_1; clear K2_0_1; have O3 := Lib.hid o3; clear o3; clear b3))
    go_loopw [7, 22] (fun v t wr => ∃ i : Nat, i ≤ m.length ∧ t = .int .i64 i ∧ OutM w2.heap.size wr v (zrow S.length :: mk i S.length (ortF pS S m)) ∧ Below w2.heap.size w2 wr) (fun _ t _ => m.length - (intOf t).toNat)
    case atStart => exact ⟨0, Nat.zero_le _, rfl, O3.out, B3.out⟩
    case round =>
      obtain ⟨i, hi', rfl, ho, hbel⟩ := hrel
      have HO := Lib.hid ho
      have HBEL := Lib.hid hbel
      have hwz := hbel.size
      have k0 := (hbel.cell (p := ⟨w.heap.size, 0, none⟩) lw2).trans KK0.out
      have k1 := (hbel.cell (p := ⟨w.heap.size, 1, none⟩) lw2).trans KK1.out
      have HBX : Hid (Below w.heap.size w wr) := HBW.out.trans (hbel.mono HBW.out.size)
      have HXZ := Lib.hid HBX.out.size
      clear ho hbel
      by_cases hlt : i < m.length
      · have hk1 : (i : Int) < (m.length : Int) := by omega
        obtain ⟨b1, o1, r1, c1, ha1, _, hb1, hr1, hrow1⟩ := (Hm.out.below HBX.out tm).row hlt
        cases ha1
        have v1 := HVE.out i hlt
        rw [(isVec_iff.1 v1).len] at hr1
        have HR1 := Lib.hid hrow1
        have HSd := Lib.hid (HS.out.below HBX.out tS)
        have HTS : Hid (tpS ≤ wr.heap.size) := Nat.le_trans tS HXZ.out
        have HTM : Hid (tpm ≤ wr.heap.size) := Nat.le_trans tm HXZ.out
        obtain ⟨vals, hvo, hvr⟩ := HO.out
        rw [List.length_cons, mk_len] at hvo hvr
        have HV1 := Lib.hid hvo
        have HVR := Lib.hid hvr
        have HKEEP : Hid (∀ W', Below wr.heap.size wr W' → W'.ownsRow w2.heap.size 22 1 u7 (i + 1) vals) := fun W' h => HV1.out.kept (below_grown h) (by cases hv : Value.ownBlock u7 <;> simp)
        have HMS : Hid (zrow S.length :: mk (i + 1) S.length (ortF pS S m) = (zrow S.length :: mk i S.length (ortF pS S m)) ++ [eqnL pS S (rw' m i)]) := by show _ = _; rw [mk_succ]; rfl
        have HML : Hid ((zrow S.length :: mk i S.length (ortF pS S m)).length = i + 1) := by show _ = _; rw [List.length_cons, mk_len]
        have HEL : Hid ((eqnL pS S (rw' m i)).length = S.length) := mkR_len _ _
        obtain ⟨z, hz⟩ : ∃ z, z = eqnL pS S (rw' m i) := ⟨_, rfl⟩
        have HZ := Lib.hid hz
        rw [← hz] at HMS HEL
        clear hvo hvr hrow1 hz
        go_wp2_with (first | (go_at_call 106; (with_reducible refine (equationOf_any pS aS S cS loS tpS r1 (rw' m i) S.length c1 lom tpm wr rfl HSd.out HTS.out HR1.out HTM.out HI.out v1).mono ?_); rintro e w5 ⟨g5, rfl, ht5, hb5⟩; rw [← HZ.out] at ht5; have HT5 := Lib.hid ht5; have HB5 := Lib.hid hb5; have hz5 := hb5.size; clear ht5 hb5) | (at_builtin; (refine wpList_append_lies _ rfl _ _ 26 rfl w2.heap.size 22 j0 (.slice none 0 0) 1 24 Tryz.underlying26 kj kz0 kz1 kz2 rfl (by decide) u7 (i + 1) vals rfl ((HKEEP.out _ HB5.out).alloc _) ⟨w5.heap.size, 0, none⟩ 1 1 [.slice (some ⟨g5, 0, none⟩) S.length S.length] rfl rfl (World.news_of_block (cs := #[.slice (some ⟨g5, 0, none⟩) S.length S.length]) (t := 22) (fr := (0, 0)) (heap_alloc_new w5 _)) (by simp [Value.oneCell']) (by omega) (by unfold maxLen; omega) (by omega) (by simp; omega) (w5.heap.size + 1) (by simp) ?_); intro gg cap w1 hown1 hgrow hat hlt1))
        go_roundw
        case rel => exact ⟨i + 1, by omega, by go_num, by rw [HMS.out]; exact OutM.pushW HML.out HEL.out HV1.out HVR.out HT5.out hwz HB5.out hown1 hgrow, ((HBEL.out.trans (HB5.out.mono hwz)).alloc (by omega) _).grown hgrow (by simp; omega) (fun _ hk => (HV1.out.lt _ hk).1)⟩
        case measure => simp [intOf]; omega
      · have hin : i = m.length := by omega
        subst hin
        have ho2 := HO.out
        rw [HEM.out] at ho2
        obtain ⟨r, c, hv, hmat⟩ := ho2.mat
        subst hv
        have HMT := Lib.hid hmat
        clear hmat ho2
        go_wp2_with (go_at_call 65; ((with_reducible refine (kernelOf_any pS r Z c _ _ wr HMT.out (Nat.le_refl _) HRW.out).mono ?_); rintro e w5 ⟨r5, k5, rfl, ho5, hb5⟩; rw [HKE.out] at ho5 ⊢; have HO5 := Lib.hid ho5; have HB5 := Lib.hid hb5; clear ho5 hb5))
        go_ret2
        rw [HV.out, HC.out]
        exact ⟨r5, k5, rfl, HO5.out.mono HXZ.out (Nat.le_refl _), HBX.out.trans (HB5.out.mono HXZ.out)⟩
  · have HI := Lib.hid hs
    have HC := Lib.hid hc
    have HV : Hid (ortV pS S m = []) := by show _ = _; unfold ortV; rw [if_neg (by rw [hc]; decide)]
    clear hs hc hl
    go_enter Tryz.func67, Tryz.ntmps67
    go_wp2_with (first | (go_at_call 104; (with_reducible refine (checkList_any pS aS S cS loS tpS am m cm lom tpm _ (HS.out.below ((Below.refl _ _).alloc (Nat.le_refl _) (.cells #[.int .i64 pS, .slice aS S.length cS] 29)) tS) (Nat.le_trans tS (((Below.refl _ _).alloc (Nat.le_refl _) (.cells #[.int .i64 pS, .slice aS S.length cS] 29))).size) sS (Hm.out.below ((Below.refl _ _).alloc (Nat.le_refl _) (.cells #[.int .i64 pS, .slice aS S.length cS] 29)) tm) (Nat.le_trans tm (((Below.refl _ _).alloc (Nat.le_refl _) (.cells #[.int .i64 pS, .slice aS S.length cS] 29))).size) sm1 SR.out).mono ?_); rintro e w2 ⟨rfl, b2⟩; rw [HC.out]; have B2 := Lib.hid b2; have K2_0_0 := (b2.cell (p := ⟨w.heap.size, 0, none⟩) (Nat.lt_of_lt_of_le (show w.heap.size < (w.alloc (.cells #[.int .i64 pS, .slice aS S.length cS] 29)).heap.size by simp) (Nat.le_refl _))).trans (show (w.alloc (.cells #[.int .i64 pS, .slice aS S.length cS] 29)).cell? ⟨w.heap.size, 0, none⟩ = some (.int .i64 pS) by simp [go_sem]); have K2_0_1 := (b2.cell (p := ⟨w.heap.size, 1, none⟩) (Nat.lt_of_lt_of_le (show w.heap.size < (w.alloc (.cells #[.int .i64 pS, .slice aS S.length cS] 29)).heap.size by simp) (Nat.le_refl _))).trans (show (w.alloc (.cells #[.int .i64 pS, .slice aS S.length cS] 29)).cell? ⟨w.heap.size, 1, none⟩ = some (.slice aS S.length cS) by simp [go_sem]); clear b2))
    go_ret2
    rw [HV.out, HC.out]
    exact ⟨none, 0, rfl, .inl rfl, (below_step ((Below.refl _ _).alloc (Nat.le_refl _) (.cells #[.int .i64 pS, .slice aS S.length cS] 29)) (show w.heap.size ≤ (w.alloc (.cells #[.int .i64 pS, .slice aS S.length cS] 29)).heap.size from (((Below.refl _ _).alloc (Nat.le_refl _) (.cells #[.int .i64 pS, .slice aS S.length cS] 29))).size) B2.out)⟩

end Go.Proofs.YtbnegbpapjcmhaaGreat
