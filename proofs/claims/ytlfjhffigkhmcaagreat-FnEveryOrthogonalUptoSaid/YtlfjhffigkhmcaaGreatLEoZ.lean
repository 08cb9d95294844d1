/-
  The walk of the law on every orthogonal matrix: FnEveryOrthogonal.: contracts of the program and of the model.
  Conditions: the lists are nil or rows of known cells, of at most 1048576 numbers.
-/
import Derived.Test.YtlfjhffigkhmcaaGreatQe48
import Derived.Test.YtlfjhffigkhmcaaGreatQe53
import Derived.Test.YtlfjhffigkhmcaaGreatQe47
import Derived.Test.YtlfjhffigkhmcaaGreatQe26
import Derived.Test.YtlfjhffigkhmcaaGreatQe28
import Derived.Deep.RegionHeld3
import Derived.Deep.DeepCutAuto
namespace Go.Proofs.YtlfjhffigkhmcaaGreat
open Go.RowKit
set_option linter.unusedVariables false

set_option maxRecDepth 100000 in
set_option maxHeartbeats 6400000 in
theorem law_EveryOrthogonal (pS : Int) (aS : Option Addr) (S : List Int) (cS loS tpS : Nat) (am : Option Addr) (m : List (List Int)) (cm lom tpm : Nat) (w : World) (hS : RowIn loS tpS w aS S) (tS : tpS ≤ w.heap.size) (sS : S.length ≤ 1048576) (hm : MatIn lom tpm w am m) (tm : tpm ≤ w.heap.size) (sm' : m.length + tot m m.length ≤ 1048576) :
    Calls Tryz.prog 3 #[.agg #[.int .i64 pS, .slice aS S.length cS], .slice am m.length cm] w (fun e w' => e = .returned (.bool true) ∧ Below w.heap.size w w') := by
  have HS := Lib.hid hS
  have Hm := Lib.hid hm
  have HSM := Lib.hid sm'
  have k0 := nw0 w (.int .i64 pS) (.slice aS S.length cS) 24
  have k1 := nw1 w (.int .i64 pS) (.slice aS S.length cS) 24
  have HB0 := Lib.hid (below_alloc w (.cells #[.int .i64 pS, .slice aS S.length cS] 24))
  clear hS hm sm'
  by_cases hl : m.length ≤ 65536
  · have hl1 : ¬ (65536 : Int) < (m.length : Int) := by omega
    by_cases h0 : coC pS S m = 0
    · have HC0 := Lib.hid h0
      have HRC : Hid (regC pS S [] = 0) := (coC_zero h0).1
      have hi := (reg0 (coC_zero h0).1).1
      have hd := (reg0 (coC_zero h0).1).2
      have ho := (coC_zero h0).2
      have HOV : Hid (orV pS S m = true) := by show _ = _; rw [orV_reg (coC_zero h0).1]; exact ho
      obtain ⟨L, hL⟩ : ∃ L, L = decL pS S m := ⟨_, rfl⟩
      obtain ⟨x, hx⟩ : ∃ x, x = vrM pS S L L.length := ⟨_, rfl⟩
      have HV : Hid (deV pS S m = L) := by show _ = _; rw [hL]; exact if_pos h0
      have HLS : Hid (L.length + tot L L.length ≤ 1048576) := by have h := deV_size pS S m; rw [HV.out] at h; exact h
      have HVO : Hid (voC pS S L = 0 ∧ voV pS S L = x) := by show _ ∧ _; rw [hx, hL]; exact dec_vo hi hd ho
      have HVM : Hid (voM pS S m = x) := by show _ = _; rw [hx, hL]; exact if_pos h0
      have HXS : Hid (x.length ≤ 1048576) := by have h := voM_size pS S m; rw [HVM.out] at h; exact h
      have HMV : Hid (vrC pS S x = 0 ∧ mvV pS S x = m) := by show _ ∧ _; rw [hx, hL]; exact dec_mat hi hd ho
      clear h0 hi hd ho hL hx
      go_enter Tryz.func3, Tryz.ntmps3
      go_upto_region 1 with fail
      obtain ⟨w1, hw1⟩ : ∃ z, z = w.alloc (.cells #[.int .i64 pS, .slice aS S.length cS] 24) := ⟨_, rfl⟩
      rw [← hw1] at HB0 k0 k1 ⊢
      have hd1 : w.heap.size < w1.heap.size := by rw [hw1]; simp
      have HB1 := HB0
      clear hw1
      have SS1 := Lib.hid (And.intro k0 k1)
      go_wp2_with (first | (go_at_call 4; ((with_reducible refine (impl_IsOrthogonal pS aS S cS loS tpS am m cm lom tpm w1 (HS.out.below HB1.out tS) (Nat.le_trans tS HB1.out.size) sS (Hm.out.below HB1.out tm) (Nat.le_trans tm HB1.out.size) HSM.out).mono ?_); rintro e w2 ⟨rfl, b_⟩; rw [HOV.out, HRC.out]; have SS2 := Lib.hid (ss2 b_ hd1 SS1.out); have HB2 := Lib.hid (below_step HB1.out HB1.out.size b_); have hd2 := Nat.lt_of_lt_of_le hd1 b_.size; clear k0 k1; obtain ⟨k0, k1⟩ := SS2.out; clear b_)) | (go_at_call 5; ((with_reducible refine (spec_IsOrthogonal pS aS S cS loS tpS am m cm lom tpm w2 (HS.out.below HB2.out tS) (Nat.le_trans tS HB2.out.size) sS (Hm.out.below HB2.out tm) (Nat.le_trans tm HB2.out.size) HSM.out).mono ?_); rintro e w3 ⟨rfl, b_⟩; rw [HOV.out, HRC.out]; have SS3 := Lib.hid (ss2 b_ hd2 SS2.out); have HB3 := Lib.hid (below_step HB2.out HB2.out.size b_); have hd3 := Nat.lt_of_lt_of_le hd2 b_.size; clear k0 k1; obtain ⟨k0, k1⟩ := SS3.out; clear b_)) | (go_at_call 6; ((with_reducible refine (impl_DecomposeOrthogonal pS aS S cS loS tpS am m cm lom tpm w3 (HS.out.below HB3.out tS) (Nat.le_trans tS HB3.out.size) sS (Hm.out.below HB3.out tm) (Nat.le_trans tm HB3.out.size) HSM.out).mono ?_); rintro e w4 ⟨ri, ci, rfl, o_, b_⟩; rw [HV.out] at o_; rw [HV.out, HC0.out]; have SS4 := Lib.hid (ss2 b_ hd3 SS3.out); have HB4 := Lib.hid (below_step HB3.out HB3.out.size b_); have hd4 := Nat.lt_of_lt_of_le hd3 b_.size; have Ri4 := Lib.hid o_.mat; have zRi4 := Nat.le_refl w4.heap.size; clear o_; clear k0 k1; obtain ⟨k0, k1⟩ := SS4.out; clear b_)) | (go_at_call 7; ((with_reducible refine (spec_DecomposeOrthogonal pS aS S cS loS tpS am m cm lom tpm w4 (HS.out.below HB4.out tS) (Nat.le_trans tS HB4.out.size) sS (Hm.out.below HB4.out tm) (Nat.le_trans tm HB4.out.size) HSM.out).mono ?_); rintro e w5 ⟨rs, cs, rfl, o_, b_⟩; rw [HV.out] at o_; rw [HV.out, HC0.out]; have SS5 := Lib.hid (ss2 b_ hd4 SS4.out); have HB5 := Lib.hid (below_step HB4.out HB4.out.size b_); have hd5 := Nat.lt_of_lt_of_le hd4 b_.size; have Ri5 := Lib.hid (Ri4.out.below b_ zRi4); have zRi5 := Nat.le_trans zRi4 b_.size; have Rs5 := Lib.hid o_; have zRs5 := Nat.le_refl w5.heap.size; clear o_; clear k0 k1; obtain ⟨k0, k1⟩ := SS5.out; clear b_)) | (go_at_call 8; ((with_reducible refine (impl_VersorOf pS aS S cS loS tpS ri L ci w3.heap.size w4.heap.size w5 (HS.out.below HB5.out tS) (Nat.le_trans tS HB5.out.size) sS Ri5.out zRi5 HLS.out).mono ?_); rintro e w6 ⟨rv, cv, rfl, o_, b_⟩; rw [HVO.out.2] at o_; rw [HVO.out.1, HVO.out.2]; have SS6 := Lib.hid (ss2 b_ hd5 SS5.out); have HB6 := Lib.hid (below_step HB5.out HB5.out.size b_); have hd6 := Nat.lt_of_lt_of_le hd5 b_.size; have Ri6 := Lib.hid (Ri5.out.below b_ zRi5); have zRi6 := Nat.le_trans zRi5 b_.size; have Rs6 := Lib.hid (Rs5.out.below b_ zRs5); have zRs6 := Nat.le_trans zRs5 b_.size; have Rv6 := Lib.hid o_.row; have zRv6 := Nat.le_refl w6.heap.size; clear o_; clear k0 k1; obtain ⟨k0, k1⟩ := SS6.out; clear b_)) | (go_at_call 9; ((with_reducible refine (impl_VersorOfMatrix pS aS S cS loS tpS am m cm lom tpm w6 (HS.out.below HB6.out tS) (Nat.le_trans tS HB6.out.size) sS (Hm.out.below HB6.out tm) (Nat.le_trans tm HB6.out.size) HSM.out).mono ?_); rintro e w7 ⟨ro, co, rfl, o_, b_⟩; rw [HVM.out] at o_; rw [HVM.out, HC0.out]; have SS7 := Lib.hid (ss2 b_ hd6 SS6.out); have HB7 := Lib.hid (below_step HB6.out HB6.out.size b_); have hd7 := Nat.lt_of_lt_of_le hd6 b_.size; have Ri7 := Lib.hid (Ri6.out.below b_ zRi6); have zRi7 := Nat.le_trans zRi6 b_.size; have Rs7 := Lib.hid (Rs6.out.below b_ zRs6); have zRs7 := Nat.le_trans zRs6 b_.size; have Rv7 := Lib.hid (Rv6.out.below b_ zRv6); have zRv7 := Nat.le_trans zRv6 b_.size; have Ro7 := Lib.hid o_.row; have zRo7 := Nat.le_refl w7.heap.size; clear o_; clear k0 k1; obtain ⟨k0, k1⟩ := SS7.out; clear b_)) | (go_at_call 10; ((with_reducible refine (impl_MatrixOfVersor pS aS S cS loS tpS rv x cv w5.heap.size w6.heap.size w7 (HS.out.below HB7.out tS) (Nat.le_trans tS HB7.out.size) sS Rv7.out zRv7 HXS.out).mono ?_); rintro e w8 ⟨rb, cb, rfl, o_, b_⟩; rw [HMV.out.2] at o_; rw [HMV.out.1, HMV.out.2]; have SS8 := Lib.hid (ss2 b_ hd7 SS7.out); have HB8 := Lib.hid (below_step HB7.out HB7.out.size b_); have hd8 := Nat.lt_of_lt_of_le hd7 b_.size; have Ri8 := Lib.hid (Ri7.out.below b_ zRi7); have zRi8 := Nat.le_trans zRi7 b_.size; have Rs8 := Lib.hid (Rs7.out.below b_ zRs7); have zRs8 := Nat.le_trans zRs7 b_.size; have Rv8 := Lib.hid (Rv7.out.below b_ zRv7); have zRv8 := Nat.le_trans zRv7 b_.size; have Ro8 := Lib.hid (Ro7.out.below b_ zRo7); have zRo8 := Nat.le_trans zRo7 b_.size; have Rb8 := Lib.hid o_.mat; have zRb8 := Nat.le_refl w8.heap.size; clear o_; clear k0 k1; obtain ⟨k0, k1⟩ := SS8.out; clear b_)) | (go_at_call 11; ((with_reducible refine (likeInts_same rv ro x cv co w5.heap.size w6.heap.size w6.heap.size w7.heap.size w8 Rv8.out Ro8.out HXS.out).mono ?_); rintro e w9 ⟨rfl, q_⟩; have b_ : Below w8.heap.size w8 w9 := q_.below _; clear q_; have SS9 := Lib.hid (ss2 b_ hd8 SS8.out); have HB9 := Lib.hid (below_step HB8.out HB8.out.size b_); have hd9 := Nat.lt_of_lt_of_le hd8 b_.size; have Ri9 := Lib.hid (Ri8.out.below b_ zRi8); have zRi9 := Nat.le_trans zRi8 b_.size; have Rs9 := Lib.hid (Rs8.out.below b_ zRs8); have zRs9 := Nat.le_trans zRs8 b_.size; have Rv9 := Lib.hid (Rv8.out.below b_ zRv8); have zRv9 := Nat.le_trans zRv8 b_.size; have Ro9 := Lib.hid (Ro8.out.below b_ zRo8); have zRo9 := Nat.le_trans zRo8 b_.size; have Rb9 := Lib.hid (Rb8.out.below b_ zRb8); have zRb9 := Nat.le_trans zRb8 b_.size; clear k0 k1; obtain ⟨k0, k1⟩ := SS9.out; clear b_)) | (go_at_call 12; ((with_reducible refine (likeRows_same rb am m cb cm w7.heap.size w8.heap.size lom tpm w9 Rb9.out (Hm.out.below HB9.out tm) HSM.out).mono ?_); rintro e w10 ⟨rfl, q_⟩; have b_ : Below w9.heap.size w9 w10 := q_.below _; clear q_; have SS10 := Lib.hid (ss2 b_ hd9 SS9.out); have HB10 := Lib.hid (below_step HB9.out HB9.out.size b_); have hd10 := Nat.lt_of_lt_of_le hd9 b_.size; have Ri10 := Lib.hid (Ri9.out.below b_ zRi9); have zRi10 := Nat.le_trans zRi9 b_.size; have Rs10 := Lib.hid (Rs9.out.below b_ zRs9); have zRs10 := Nat.le_trans zRs9 b_.size; have Rv10 := Lib.hid (Rv9.out.below b_ zRv9); have zRv10 := Nat.le_trans zRv9 b_.size; have Ro10 := Lib.hid (Ro9.out.below b_ zRo9); have zRo10 := Nat.le_trans zRo9 b_.size; have Rb10 := Lib.hid (Rb9.out.below b_ zRb9); have zRb10 := Nat.le_trans zRb9 b_.size; clear k0 k1; obtain ⟨k0, k1⟩ := SS10.out; clear b_)))
      go_ret
      exact ⟨rfl, HB10.out⟩
    · obtain ⟨C, hC⟩ : ∃ c, c = coC pS S m := ⟨_, rfl⟩
      have HC0 : Hid (coC pS S m = C) := hC.symm
      have hc0 : (C != 0) = true := by rw [hC]; simpa using h0
      have hc1 : (C != C) = false := by simp
      obtain ⟨K, hK⟩ : ∃ c, c = regC pS S [] := ⟨_, rfl⟩
      have HRC : Hid (regC pS S [] = K) := hK.symm
      have hk1 : (K != K) = false := by simp
      obtain ⟨B, hB⟩ : ∃ c, c = orV pS S m := ⟨_, rfl⟩
      have HOV : Hid (orV pS S m = B) := hB.symm
      have hb1 : (B != B) = false := by simp
      clear h0 hC hK hB
      go_enter Tryz.func3, Tryz.ntmps3
      go_upto_region 1 with fail
      obtain ⟨w1, hw1⟩ : ∃ z, z = w.alloc (.cells #[.int .i64 pS, .slice aS S.length cS] 24) := ⟨_, rfl⟩
      rw [← hw1] at HB0 k0 k1 ⊢
      have hd1 : w.heap.size < w1.heap.size := by rw [hw1]; simp
      have HB1 := HB0
      clear hw1
      have SS1 := Lib.hid (And.intro k0 k1)
      go_wp2_with (first | (go_at_call 4; ((with_reducible refine (impl_IsOrthogonal pS aS S cS loS tpS am m cm lom tpm w1 (HS.out.below HB1.out tS) (Nat.le_trans tS HB1.out.size) sS (Hm.out.below HB1.out tm) (Nat.le_trans tm HB1.out.size) HSM.out).mono ?_); rintro e w2 ⟨rfl, b_⟩; rw [HOV.out, HRC.out]; have SS2 := Lib.hid (ss2 b_ hd1 SS1.out); have HB2 := Lib.hid (below_step HB1.out HB1.out.size b_); have hd2 := Nat.lt_of_lt_of_le hd1 b_.size; clear k0 k1; obtain ⟨k0, k1⟩ := SS2.out; clear b_)) | (go_at_call 5; ((with_reducible refine (spec_IsOrthogonal pS aS S cS loS tpS am m cm lom tpm w2 (HS.out.below HB2.out tS) (Nat.le_trans tS HB2.out.size) sS (Hm.out.below HB2.out tm) (Nat.le_trans tm HB2.out.size) HSM.out).mono ?_); rintro e w3 ⟨rfl, b_⟩; rw [HOV.out, HRC.out]; have SS3 := Lib.hid (ss2 b_ hd2 SS2.out); have HB3 := Lib.hid (below_step HB2.out HB2.out.size b_); have hd3 := Nat.lt_of_lt_of_le hd2 b_.size; clear k0 k1; obtain ⟨k0, k1⟩ := SS3.out; clear b_)) | (go_at_call 6; ((with_reducible refine (impl_DecomposeOrthogonal pS aS S cS loS tpS am m cm lom tpm w3 (HS.out.below HB3.out tS) (Nat.le_trans tS HB3.out.size) sS (Hm.out.below HB3.out tm) (Nat.le_trans tm HB3.out.size) HSM.out).mono ?_); rintro e w4 ⟨ri, ci, rfl, o_, b_⟩; rw [HC0.out]; have SS4 := Lib.hid (ss2 b_ hd3 SS3.out); have HB4 := Lib.hid (below_step HB3.out HB3.out.size b_); have hd4 := Nat.lt_of_lt_of_le hd3 b_.size; have Ri4 := Lib.hid o_.mat; have zRi4 := Nat.le_refl w4.heap.size; clear o_; clear k0 k1; obtain ⟨k0, k1⟩ := SS4.out; clear b_)) | (go_at_call 7; ((with_reducible refine (spec_DecomposeOrthogonal pS aS S cS loS tpS am m cm lom tpm w4 (HS.out.below HB4.out tS) (Nat.le_trans tS HB4.out.size) sS (Hm.out.below HB4.out tm) (Nat.le_trans tm HB4.out.size) HSM.out).mono ?_); rintro e w5 ⟨rs, cs, rfl, o_, b_⟩; rw [HC0.out]; have SS5 := Lib.hid (ss2 b_ hd4 SS4.out); have HB5 := Lib.hid (below_step HB4.out HB4.out.size b_); have hd5 := Nat.lt_of_lt_of_le hd4 b_.size; have Ri5 := Lib.hid (Ri4.out.below b_ zRi4); have zRi5 := Nat.le_trans zRi4 b_.size; have Rs5 := Lib.hid o_; have zRs5 := Nat.le_refl w5.heap.size; clear o_; clear k0 k1; obtain ⟨k0, k1⟩ := SS5.out; clear b_)))
      go_ret
      exact ⟨rfl, HB5.out⟩
  · have hl1 : (65536 : Int) < (m.length : Int) := by omega
    go_enter Tryz.func3, Tryz.ntmps3
    go_upto_region 1 with fail
    obtain ⟨w1, hw1⟩ : ∃ z, z = w.alloc (.cells #[.int .i64 pS, .slice aS S.length cS] 24) := ⟨_, rfl⟩
    rw [← hw1] at HB0 k0 k1 ⊢
    have hd1 : w.heap.size < w1.heap.size := by rw [hw1]; simp
    have HB1 := HB0
    clear hw1
    have SS1 := Lib.hid (And.intro k0 k1)
    go_wp2
    go_ret
    exact ⟨rfl, HB1.out⟩

/-- A list, a matrix of known size. -/
def IsLstU (w : World) (a : Option Addr) (len : Nat) : Prop := ∃ zs : List Int, len = zs.length ∧ RowIn 0 w.heap.size w a zs ∧ zs.length ≤ 1048576
def IsMatU (w : World) (a : Option Addr) (len : Nat) : Prop := ∃ m : List (List Int), len = m.length ∧ MatIn 0 w.heap.size w a m ∧ m.length + tot m m.length ≤ 1048576
theorem isLstU {w : World} {a : Option Addr} {len : Nat} (h : IsLst w a len) (hb : len ≤ 1048576) : IsLstU w a len := by
  obtain ⟨z, hz, hr, _⟩ := h
  exact ⟨z, hz.symm, hr, by omega⟩
theorem isMatU_nil (w : World) : IsMatU w none 0 := ⟨[], rfl, .inl rfl, by simp [tot]⟩
theorem isMatU_of {w : World} {x : Addr} {len cap : Nat} {A : Nat → Option Addr} {L C : Nat → Nat} {Z : Nat → List Int} (hl : len ≤ cap) (hm : cap ≤ maxLen)
    (h : ∀ r, r < cap → w.cell? (x.add r) = some (.slice (A r) (L r) (C r)) ∧ L r ≤ C r ∧ C r ≤ maxLen ∧ (Z r).length = C r ∧ (∀ n ∈ Z r, (Lit.int .i64 n).wf = true) ∧ (A r = none → C r = 0) ∧
        ∀ a', A r = some a' → 0 ≤ a'.block ∧ ∀ c, c < C r → w.cell? (a'.add c) = some (.int .i64 ((Z r).getD c 0))) (hb : ∀ m : List (List Int), (∀ i, i < len → (rw' m i).length = L i) → len + tot m len ≤ 1048576) : IsMatU w (some x) len := by
  unfold maxLen at hm
  refine ⟨(List.range len).map fun r => (Z r).take (L r), by simp, ?_, ?_⟩
  · by_cases h0 : len = 0
    · subst h0; exact .inl rfl
    · obtain ⟨b, o, rfl, hc⟩ := slice_at (n := cap) (v := fun r => .slice (A r) (L r) (C r)) (by omega) (fun r hr => (h r hr).1)
      have hlt : b < w.heap.size := World.block_lt_of_cell? w ⟨b, o + 0, none⟩ (hc 0 (by omega))
      refine .inr ⟨b, o, rfl, Nat.zero_le _, hlt, fun i hi => ?_⟩
      simp only [List.length_map, List.length_range] at hi
      obtain ⟨_, r1, r2, r3, _, r5, r6⟩ := h i (by omega)
      have e : rw' ((List.range len).map fun r => (Z r).take (L r)) i = (Z i).take (L i) := by simp [rw', List.getD, hi]
      rw [e]
      have e2 : ((Z i).take (L i)).length = L i := by simp; omega
      rw [e2]
      refine ⟨A i, C i, hc i (by omega), ?_⟩
      cases hA : A i with
      | none =>
        have := r5 hA
        have h0 : L i = 0 := by omega
        exact .inl (by rw [h0]; rfl)
      | some a' => exact row_of (by omega) (fun c hc' => (r6 a' hA).2 c (by omega))
  · have hl2 : ((List.range len).map fun r => (Z r).take (L r)).length = len := by simp
    rw [hl2]
    refine hb _ fun i hi => ?_
    obtain ⟨_, r1, r2, r3, _⟩ := h i (by omega)
    have e : rw' ((List.range len).map fun r => (Z r).take (L r)) i = (Z i).take (L i) := by simp [rw', List.getD, hi]
    rw [e]; simp; omega
theorem law_EveryOrthogonal_all (pS : Int) (aS : Option Addr) (lenS cS : Nat) (am : Option Addr) (lenm cm : Nat) (w : World) (hS : IsLstU w aS lenS) (hm : IsMatU w am lenm) :
    Calls Tryz.prog 3 #[.agg #[.int .i64 pS, .slice aS lenS cS], .slice am lenm cm] w fun e w' => e = .returned (.bool true) ∧ Below w.heap.size w w' := by
  obtain ⟨S, rfl, hS, lS⟩ := hS
  obtain ⟨m, rfl, hm, lm⟩ := hm
  exact law_EveryOrthogonal pS aS S cS 0 w.heap.size am m cm 0 w.heap.size w hS (Nat.le_refl _) lS hm (Nat.le_refl _) lm

end Go.Proofs.YtlfjhffigkhmcaaGreat
