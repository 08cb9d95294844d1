/-
  Checks of multivectors in the model; IsMultivector in both.
  Conditions: the lists are nil or rows of known cells, of at most 1048576 numbers.
  Multivectors of zeros, blades and vectors in both: contracts.
  Conditions: the lists are nil or rows of known cells, of at most 1048576 numbers.
  Changes of signs by grades, and the signs of all grades: contracts of the program.
  Conditions: the lists are nil or rows of known cells, of at most 1048576 numbers.
  Reversals and involutions of products: mathematics.
  Conditions: none.
  Even multivectors, and the sum of the parts of all grades: mathematics.
  Conditions: none.
  likeInts, zero5, hasInt: contracts.
  Conditions: the lists are nil or rows of known cells, of at most 1048576 numbers.
  PairOf and NormOf: contracts of the program and of the model.
  Conditions: the lists are nil or rows of known cells, of at most 1048576 numbers.
  NormOf: contracts of the program and of the model.
  Conditions: the lists are nil or rows of known cells, of at most 1048576 numbers.
  Lists of vectors of a space, in the program and in the model.
  Conditions: the lists are nil or rows of known cells, of at most 1048576 numbers.
  Sizes of matrices.
  No conditions.
  The model's GramOf: contract.
  Conditions: the lists are nil or rows of known cells, of at most 1048576 numbers.
  The program's Gram matrices: the walk.
  Conditions: the lists are nil or rows of known cells, of at most 1048576 numbers.
  The program's GramOf: contract.
  Conditions: the lists are nil or rows of known cells, of at most 1048576 numbers.
  Products of vectors: symmetric, linear, norms of sums. No Go in sight.
  No conditions.
  Geometric products of vectors: twice their product, squares are norms. No Go in sight.
  No conditions.
  BladeOf, VectorOf, ScalarOf, AddMultivectors, ScaleMultivector: contracts of the program and of the model.
  Conditions: the lists are nil or rows of known cells, of at most 1048576 numbers.
-/
import Derived.Test.YtndneccgomfkdaaGreatQi10
import Derived.Test.YtndneccgomfkdaaGreatQi9
import Derived.Test.YtndneccgomfkdaaGreatQi8
import Derived.Test.YtndneccgomfkdaaGreatQi4
import Derived.Test.YtndneccgomfkdaaGreatQi3
namespace Go.Proofs.YtndneccgomfkdaaGreat
open Go.RowKit
set_option linter.unusedVariables false

def mvB (p : Int) (S x : List Int) : Bool := isSp p S && isMv p S x
set_option maxHeartbeats 1600000 in
theorem l04Is_any (p : Int) (aS : Option Addr) (S : List Int) (cS loS tpS : Nat) (av : Option Addr) (v : List Int) (cv lov tpv : Nat) (w : World)
    (hS : RowIn loS tpS w aS S) (tS : tpS ≤ w.heap.size) (sS : S.length ≤ 1048576) (hv : RowIn lov tpv w av v) (tv : tpv ≤ w.heap.size) (sv : v.length ≤ 1048576) :
    Calls Tryz.prog 79 #[.agg #[.int .i64 p, .slice aS S.length cS], .slice av v.length cv] w fun e w' => e = .returned (.bool (mvB p S v)) ∧ Below w.heap.size w w' := by
  have HS := Lib.hid hS
  have HV := Lib.hid hv
  clear hS hv
  by_cases h : isSp p S = true
  · have HI := Lib.hid h
    have h6 := (isSp_iff.1 h).hi
    have HP := Lib.hid (isSp_iff.1 h).prime
    clear h
    by_cases hl : v.length = bl S
    · have e1 : ((v.length : Int) == (bl S : Int)) = true := by simp [hl]
      have HR : Hid (mvB p S v = v.all (inr p)) := by show _ = _; unfold mvB isMv isVec; rw [HI.out]; simp [hl]
      rw [HR.out]
      clear hl
      by_cases ha : v.all (inr p) = true
      · have HA := Lib.hid ha
        clear ha
        go_enter Tryz.func79, Tryz.ntmps79
        go_wp2_with (first | (go_at_call 72; ((with_reducible refine (l03Is_any p aS S cS loS tpS _ (HS.out.below (below_alloc _ _) tS) (by simp; omega) sS).mono ?_); rintro e w1 ⟨rfl, hb1⟩; rw [HI.out]; have HB1 := Lib.hid hb1; have hz1 := hb1.size; have hc0 := (hb1.cell (p := ⟨w.heap.size, 0, none⟩) (by simp)).trans (nw0 w _ _ _); have hc1 := (hb1.cell (p := ⟨w.heap.size, 1, none⟩) (by simp)).trans (nw1 w _ _ _); clear hb1)) | (go_at_call 74; ((with_reducible refine (l04Size_any p aS S cS _ h6).mono ?_); rintro e w2 ⟨rfl, hb2⟩; have HB2 := Lib.hid hb2; have hz2 := hb2.size; have hd0 := (hb2.cell (p := ⟨w.heap.size, 0, none⟩) (by simp at hz1; show w.heap.size < _; omega)).trans hc0; have hd1 := (hb2.cell (p := ⟨w.heap.size, 1, none⟩) (by simp at hz1; show w.heap.size < _; omega)).trans hc1; clear hb2)) | (go_at_call 115; ((with_reducible refine (numsRow p av v cv lov tpv _ HP.out ((HV.out.below ((below_alloc _ _).trans (HB1.out.mono (by simp))) tv).below HB2.out (by simp at hz1; omega)) (by omega)).mono ?_); rintro e w3 ⟨rfl, rfl⟩; rw [HA.out])))
        go_ret
        exact ⟨by rw [HA.out]; rfl, below_step (below_step (below_alloc _ _) (by simp) HB1.out) (by simp at hz1; omega) HB2.out⟩
      · have HA : Hid (v.all (inr p) = false) := by show _ = _; simpa using ha
        clear ha
        go_enter Tryz.func79, Tryz.ntmps79
        go_wp2_with (first | (go_at_call 72; ((with_reducible refine (l03Is_any p aS S cS loS tpS _ (HS.out.below (below_alloc _ _) tS) (by simp; omega) sS).mono ?_); rintro e w1 ⟨rfl, hb1⟩; rw [HI.out]; have HB1 := Lib.hid hb1; have hz1 := hb1.size; have hc0 := (hb1.cell (p := ⟨w.heap.size, 0, none⟩) (by simp)).trans (nw0 w _ _ _); have hc1 := (hb1.cell (p := ⟨w.heap.size, 1, none⟩) (by simp)).trans (nw1 w _ _ _); clear hb1)) | (go_at_call 74; ((with_reducible refine (l04Size_any p aS S cS _ h6).mono ?_); rintro e w2 ⟨rfl, hb2⟩; have HB2 := Lib.hid hb2; have hz2 := hb2.size; have hd0 := (hb2.cell (p := ⟨w.heap.size, 0, none⟩) (by simp at hz1; show w.heap.size < _; omega)).trans hc0; have hd1 := (hb2.cell (p := ⟨w.heap.size, 1, none⟩) (by simp at hz1; show w.heap.size < _; omega)).trans hc1; clear hb2)) | (go_at_call 115; ((with_reducible refine (numsRow p av v cv lov tpv _ HP.out ((HV.out.below ((below_alloc _ _).trans (HB1.out.mono (by simp))) tv).below HB2.out (by simp at hz1; omega)) (by omega)).mono ?_); rintro e w3 ⟨rfl, rfl⟩; rw [HA.out])))
        go_ret
        exact ⟨by rw [HA.out]; rfl, below_step (below_step (below_alloc _ _) (by simp) HB1.out) (by simp at hz1; omega) HB2.out⟩
    · have e1 : ((v.length : Int) == (bl S : Int)) = false := by simp; omega
      have e2 : decide ((v.length : Int) = (bl S : Int)) = false := by simp; omega
      have HR : Hid (mvB p S v = false) := by show _ = _; unfold mvB isMv isVec; simp [hl]
      rw [HR.out]
      clear hl
      go_enter Tryz.func79, Tryz.ntmps79
      go_wp2_with (first | (go_at_call 72; ((with_reducible refine (l03Is_any p aS S cS loS tpS _ (HS.out.below (below_alloc _ _) tS) (by simp; omega) sS).mono ?_); rintro e w1 ⟨rfl, hb1⟩; rw [HI.out]; have HB1 := Lib.hid hb1; have hz1 := hb1.size; have hc0 := (hb1.cell (p := ⟨w.heap.size, 0, none⟩) (by simp)).trans (nw0 w _ _ _); have hc1 := (hb1.cell (p := ⟨w.heap.size, 1, none⟩) (by simp)).trans (nw1 w _ _ _); clear hb1)) | (go_at_call 74; ((with_reducible refine (l04Size_any p aS S cS _ h6).mono ?_); rintro e w2 ⟨rfl, hb2⟩; have HB2 := Lib.hid hb2; have hz2 := hb2.size; have hd0 := (hb2.cell (p := ⟨w.heap.size, 0, none⟩) (by simp at hz1; show w.heap.size < _; omega)).trans hc0; have hd1 := (hb2.cell (p := ⟨w.heap.size, 1, none⟩) (by simp at hz1; show w.heap.size < _; omega)).trans hc1; clear hb2)))
      go_ret
      exact ⟨rfl, below_step (below_step (below_alloc _ _) (by simp) HB1.out) (by simp at hz1; omega) HB2.out⟩
  · have HI : Hid (isSp p S = false) := by show _ = _; simpa using h
    have HR : Hid (mvB p S v = false) := by show _ = _; unfold mvB; rw [HI.out]; rfl
    rw [HR.out]
    clear h
    go_enter Tryz.func79, Tryz.ntmps79
    go_wp2_with (first | (go_at_call 72; (with_reducible refine (l03Is_any p aS S cS loS tpS _ (HS.out.below (below_alloc _ _) tS) (by simp; omega) sS).mono ?_); rintro e w1 ⟨rfl, hb1⟩; rw [HI.out]; have HB1 := Lib.hid hb1; clear hb1))
    go_ret
    exact ⟨rfl, below_step (below_alloc _ _) (by simp) HB1.out⟩

set_option maxRecDepth 100000 in
set_option maxHeartbeats 1600000 in
theorem l04Code_any (p : Int) (aS : Option Addr) (S : List Int) (cS loS tpS : Nat) (am : Option Addr) (m : List (List Int)) (cm lom tpm : Nat) (w : World)
    (hS : RowIn loS tpS w aS S) (tS : tpS ≤ w.heap.size) (sS : S.length ≤ 1048576) (hm : MatIn lom tpm w am m) (tm : tpm ≤ w.heap.size) (sm : m.length ≤ 1048576) (sr : ∀ i, i < m.length → (rw' m i).length ≤ 1048576) :
    Calls Tryz.prog 39 #[.agg #[.int .i64 p, .slice aS S.length cS], .slice am m.length cm] w fun e w' => e = .returned (.int .i64 (codeMv p S m)) ∧ Below w.heap.size w w' := by
  have HS := Lib.hid hS
  have HM := Lib.hid hm
  have HT := Lib.hid sr
  clear hS hm sr
  by_cases h : isSp p S = true
  · have HI := Lib.hid h
    clear h
    go_enter Tryz.func39, Tryz.ntmps39
    go_wp2_with (go_at_call 72; (with_reducible refine (l03Is_any p aS S cS loS tpS _ (HS.out.below (below_alloc _ _) tS) (by simp; omega) sS).mono ?_); rintro e w2 ⟨rfl, hb2⟩; rw [HI.out]; have HB := Lib.hid hb2; clear hb2)
    have HBW : Hid (Below w.heap.size w w2) := below_step (below_alloc _ _) (by simp) HB.out
    have hwz := HBW.out.size
    have hwlt : w.heap.size < w2.heap.size := by have := HB.out.size; simp at this; omega
    have HC0 := Lib.hid ((HB.out.cell (p := ⟨w.heap.size, 0, none⟩) (by simp)).trans (nw0 w _ _ _))
    have HC1 := Lib.hid ((HB.out.cell (p := ⟨w.heap.size, 1, none⟩) (by simp)).trans (nw1 w _ _ _))
    have HM2 := Lib.hid (HM.out.below HBW.out tm)
    have HS2 := Lib.hid (HS.out.below HBW.out tS)
    clear HB
    go_loopw [5] (fun t wr => ∃ i : Nat, i ≤ m.length ∧ t = .int .i64 i ∧ (m.take i).all (isMv p S) = true ∧ Below w2.heap.size w2 wr) (fun t _ => m.length - (intOf t).toNat)
    case atStart => exact ⟨0, Nat.zero_le _, rfl, rfl, Below.refl _ _⟩
    case round =>
      obtain ⟨i, hi, rfl, hA, hbel⟩ := hrel
      have HA := Lib.hid hA
      have HBEL := Lib.hid hbel
      have hwz2 := hbel.size
      have l0 : w.heap.size < wr.heap.size := by omega
      have hc0 := (hbel.cell (p := ⟨w.heap.size, 0, none⟩) hwlt).trans HC0.out
      have hc1 := (hbel.cell (p := ⟨w.heap.size, 1, none⟩) hwlt).trans HC1.out
      clear hA
      by_cases hlt : i < m.length
      · obtain ⟨b1, o1, r, c1, ha1, _, hb1, hr, hrow⟩ := (HM2.out.below hbel (by omega)).row hlt
        subst ha1
        have hl := HT.out i hlt
        have HRd : Hid (RowIn lom tpm wr.drew r (rw' m i)) := hrow.same (fun _ _ _ => rfl)
        have HSd : Hid (RowIn loS tpS wr.drew aS S) := (HS2.out.below HBEL.out (by omega)).same (fun _ _ _ => rfl)
        have HTd : Hid (tpS ≤ wr.drew.heap.size) := by show tpS ≤ wr.heap.size; omega
        have HTM : Hid (tpm ≤ wr.drew.heap.size) := by show tpm ≤ wr.heap.size; omega
        have hi1 : (i : Int) < (m.length : Int) := by omega
        have l1 : b1 < wr.heap.size := by omega
        clear hrow hbel
        by_cases hv : isMv p S (rw' m i) = true
        · have HV := Lib.hid hv
          have HVV : Hid (mvB p S (rw' m i) = true) := by show _ = _; unfold mvB; rw [HI.out, HV.out]; rfl
          clear hv
          go_wp2
          go_region_held3 (fun w' => w'.cell? ⟨w.heap.size, 0, none⟩ = some (.int .i64 p) ∧ w'.cell? ⟨w.heap.size, 1, none⟩ = some (.slice aS S.length cS) ∧ w'.cell? ⟨b1, o1 + i, none⟩ = some (.slice r (rw' m i).length c1)) (first | go_keep | exact SS3.out) (first | (go_at_call 79; (with_reducible refine (l04Is_any p aS S cS loS tpS r (rw' m i) c1 lom tpm wr.drew HSd.out HTd.out sS HRd.out HTM.out hl).mono ?_); rintro e w3 ⟨rfl, hb3⟩; rw [HVV.out]; have HB3 : Hid (Below wr.heap.size wr w3) := (below_drew wr).trans hb3; have SS3 := Lib.hid (And.intro ((HB3.out.cell (p := ⟨w.heap.size, 0, none⟩) l0).trans hc0) (And.intro ((HB3.out.cell (p := ⟨w.heap.size, 1, none⟩) l0).trans hc1) ((HB3.out.cell (p := ⟨b1, o1 + i, none⟩) l1).trans hr))); clear hb3))
          go_wp2
          go_roundw
          case rel => exact ⟨i + 1, by omega, by go_num, by rw [all_take_vec hlt, HA.out, HV.out]; rfl, below_step HBEL.out hwz2 HB3.out⟩
          case measure => simp [intOf]; omega
        · have HV : Hid (isMv p S (rw' m i) = false) := by show _ = _; simpa using hv
          have HVV : Hid (mvB p S (rw' m i) = false) := by show _ = _; unfold mvB; rw [HV.out]; simp
          have HCV := Lib.hid (codeMv_no HI.out (all_false_vec hlt HV.out))
          clear hv
          go_wp2
          go_region_held3 (fun w' => w'.cell? ⟨w.heap.size, 0, none⟩ = some (.int .i64 p) ∧ w'.cell? ⟨w.heap.size, 1, none⟩ = some (.slice aS S.length cS) ∧ w'.cell? ⟨b1, o1 + i, none⟩ = some (.slice r (rw' m i).length c1)) (first | go_keep | exact SS3.out) (first | (go_at_call 79; (with_reducible refine (l04Is_any p aS S cS loS tpS r (rw' m i) c1 lom tpm wr.drew HSd.out HTd.out sS HRd.out HTM.out hl).mono ?_); rintro e w3 ⟨rfl, hb3⟩; rw [HVV.out]; have HB3 : Hid (Below wr.heap.size wr w3) := (below_drew wr).trans hb3; have SS3 := Lib.hid (And.intro ((HB3.out.cell (p := ⟨w.heap.size, 0, none⟩) l0).trans hc0) (And.intro ((HB3.out.cell (p := ⟨w.heap.size, 1, none⟩) l0).trans hc1) ((HB3.out.cell (p := ⟨b1, o1 + i, none⟩) l1).trans hr))); clear hb3))
          go_wp2
          go_ret
          exact ⟨by rw [HCV.out]; rfl, HBW.out.trans ((below_step HBEL.out hwz2 HB3.out).mono hwz)⟩
      · have HCV : Hid (codeMv p S m = 0) := codeMv_ok HI.out (by have h := HA.out; rwa [List.take_of_length_le (by omega)] at h)
        clear hbel
        go_wp2
        go_ret
        exact ⟨by rw [HCV.out]; rfl, HBW.out.trans (HBEL.out.mono hwz)⟩
  · have HI : Hid (isSp p S = false) := by show _ = _; simpa using h
    have HCV : Hid (codeMv p S m = 1) := codeMv_sp HI.out
    clear h
    go_enter Tryz.func39, Tryz.ntmps39
    go_wp2_with (go_at_call 72; (with_reducible refine (l03Is_any p aS S cS loS tpS _ (HS.out.below (below_alloc _ _) tS) (by simp; omega) sS).mono ?_); rintro e w2 ⟨rfl, hb2⟩; rw [HI.out]; have HB := Lib.hid hb2; clear hb2)
    go_ret
    exact ⟨by rw [HCV.out]; rfl, below_step (below_alloc _ _) (by simp) HB.out⟩

theorem codeM1 (p : Int) (aS : Option Addr) (S : List Int) (cS loS tpS : Nat) (av : Option Addr) (v : List Int) (cv lov tpv b cap : Nat) (W : World) (T : TypeId) (hb : b = W.heap.size)
    (hS : RowIn loS tpS W aS S) (tS : tpS ≤ W.heap.size) (sS : S.length ≤ 1048576) (hv : RowIn lov tpv W av v) (tv : tpv ≤ W.heap.size) (sv : v.length ≤ 1048576) :
    Calls Tryz.prog 39 #[.agg #[.int .i64 p, .slice aS S.length cS], .slice (some ⟨b, 0, none⟩) 1 cap] (W.alloc (.cells #[.slice av v.length cv] T)) fun e w' => e = .returned (.int .i64 (codeMv p S [v])) ∧ Below (W.alloc (.cells #[.slice av v.length cv] T)).heap.size (W.alloc (.cells #[.slice av v.length cv] T)) w' :=
  l04Code_any p aS S cS loS tpS (some ⟨b, 0, none⟩) [v] cap 0 _ _ (hS.below (below_alloc W _) tS) (Nat.le_trans tS (size_alloc W _)) sS (mv_one hb hv tv T) (Nat.le_refl _) (by show 1 ≤ 1048576; omega) (fun i hi => by match i, hi with | 0, _ => exact sv)
end Go.Proofs.YtndneccgomfkdaaGreat

namespace Go.Proofs.YtndneccgomfkdaaGreat
open Go.RowKit
set_option linter.unusedVariables false

/-- A row of one's own at the start of a new block. -/
def NewRow (n : Nat) (f : Nat → Int) (w : World) (e : Ending) (w' : World) : Prop :=
  ∃ b, e = .returned (.slice (some ⟨b, 0, none⟩) n n) ∧ w.heap.size ≤ b ∧ b < w'.heap.size ∧ RowOwn w' b 0 n f ∧ Below w.heap.size w w'
theorem RowOwn.own {lo tp : Nat} {w : World} {b o n : Nat} {f : Nat → Int} (h : RowOwn w b o n f) (h0 : lo ≤ b) (h1 : b < tp) : OwnR lo tp w (some ⟨b, o, none⟩) (mkR n f) :=
  .inr ⟨b, o, rfl, h0, h1, fun j hj => by
    rw [mkR_len] at hj
    rw [mkR_at _ hj]
    exact ⟨h.cell j hj, h.free j hj⟩⟩
theorem pow_lt {i n : Nat} (h : i < n) : 2 ^ i < 2 ^ n := Nat.pow_lt_pow_right (by decide) h

set_option maxHeartbeats 800000 in
theorem l04Zero_any (p : Int) (a : Option Addr) (S : List Int) (c : Nat) (w : World) (h : S.length ≤ 6) :
    Calls Tryz.prog 116 #[.agg #[.int .i64 p, .slice a S.length c]] w (NewRow (bl S) (fun _ => 0) w) := by
  have hbl := bl_le h
  have hmk := fun W => run_make_row' (P := Tryz.prog) 24 2 (.int .i64 0) 8 Tryz.underlying24 info64 rfl .i64 .i64 (bl S) (by omega) (by omega) W
  go_enter Tryz.func116, Tryz.ntmps116
  go_wp2_with (go_at_call 74; (with_reducible refine (l04Size_any p a S c _ h).mono ?_); rintro e w1 ⟨rfl, hb1⟩; have HB1 := Lib.hid hb1; have hz1 := hb1.size; clear hb1)
  go_ret
  have hb := below_step (below_alloc w _) (by simp) HB1.out
  exact ⟨w1.heap.size, rfl, hb.size, by simp, RowOwn.start w1 (bl S) _, hb.alloc (hb.size) _⟩

theorem one_rowA (w : World) {n k : Nat} (t : TypeId) (v : Int) : RowOwn (w.alloc (.cells ((madeCells #[.int .i64 0] n).setIfInBounds k (.int .i64 v)) t)) w.heap.size 0 n (fun j => if j = k then v else 0) where
  cell j hj := by
    rw [Nat.zero_add, World.cell?_alloc_new, Array.getElem?_setIfInBounds]
    by_cases e : k = j
    · subst e; simp [size_madeCells, hj]
    · rw [if_neg e, if_neg (fun h => e h.symm)]; simp [madeCells, hj, Nat.mod_one]
  free j hj := by simp [go_sem]

set_option maxHeartbeats 800000 in
theorem blade_any (p : Int) (a : Option Addr) (S : List Int) (c k : Nat) (w : World) (h : S.length ≤ 6) (hk : k < bl S) :
    Calls Tryz.prog 38 #[.agg #[.int .i64 p, .slice a S.length c], .int .i64 k] w (NewRow (bl S) (fun j => if j = k then 1 else 0) w) := by
  have hbl := bl_le h
  have hmk := fun W => run_make_row' (P := Tryz.prog) 24 2 (.int .i64 0) 8 Tryz.underlying24 info64 rfl .i64 .i64 (bl S) (by omega) (by omega) W
  go_enter Tryz.func38, Tryz.ntmps38
  go_wp2_with (go_at_call 45; ((with_reducible refine (blades_any p a S c _ h).mono ?_); rintro e w1 ⟨rfl, hb1⟩; have HB1 := Lib.hid hb1; have hz1 := hb1.size; have g0 := made_cell w1 (.int .i64 0) (bl S) 2 hk; have f0 : (w1.alloc (.cells (madeCells #[.int .i64 0] (bl S)) 2)).frozen? ⟨w1.heap.size, k, none⟩ = false := (by simp [go_sem]); clear hb1))
  go_ret
  have hb := below_step (below_alloc w _) (by simp) HB1.out
  exact ⟨w1.heap.size, rfl, hb.size, by simp, one_rowA _ _ _, hb.alloc (hb.size) _⟩

theorem SpecR.new {n : Nat} {f : Nat → Int} {b : Nat} {C : Int} {w w' : World} (h : RowOwn w' b 0 n f) (h0 : w.heap.size ≤ b) (h1 : b < w'.heap.size) (hb : Below w.heap.size w w') :
    SpecR (mkR n f) C w (.returned (.tuple #[.slice (some ⟨b, 0, none⟩) n n, .int .i64 C])) w' :=
  ⟨_, n, by rw [mkR_len], (h.own h0 h1).row, hb⟩
theorem ImplR.new {n : Nat} {f : Nat → Int} {b : Nat} {C : Int} {w w' : World} (h : RowOwn w' b 0 n f) (h0 : w.heap.size ≤ b) (h1 : b < w'.heap.size) (hb : Below w.heap.size w w') :
    ImplR (mkR n f) C w (.returned (.tuple #[.slice (some ⟨b, 0, none⟩) n n, .int .i64 C])) w' :=
  ⟨_, n, by rw [mkR_len], h.own h0 h1, hb⟩

theorem wrap_pow {i : Nat} (h : i < 6) : wrap64 ((2 : Int) ^ i) = ((2 ^ i : Nat) : Int) := by
  have : i = 0 ∨ i = 1 ∨ i = 2 ∨ i = 3 ∨ i = 4 ∨ i = 5 := by omega
  rcases this with rfl | rfl | rfl | rfl | rfl | rfl <;> simp [wrap64]
theorem pow_bl {v S : List Int} {i : Nat} (h : v.length = S.length) (hi : i < v.length) : 2 ^ i < bl S := by unfold bl; rw [← h]; exact pow_lt hi
theorem row_put0 {w : World} {b n j : Nat} {f g : Nat → Int} {v : Int} (h : RowOwn w b 0 n f) (hj : j < n) (e : ∀ i, i < n → (if i = j then v else f i) = g i) : RowOwn (w.setCell ⟨b, j, none⟩ (.int .i64 v)) b 0 n g := by
  have h2 := (h.put hj v).congr e
  rwa [Nat.zero_add] at h2
theorem wrote_put0 {b n j : Nat} {w w' : World} (h : Wrote b 0 n w w') (hj : j < n) (v : Value) : Wrote b 0 n w (w'.setCell ⟨b, j, none⟩ v) := by
  have h2 := h.set hj v
  rwa [Nat.zero_add] at h2
theorem RowOwn.stay {w w' : World} {b o n : Nat} {f : Nat → Int} (h : RowOwn w b o n f) (e : w'.heap[b]? = w.heap[b]?) : RowOwn w' b o n f :=
  ⟨fun j hj => (World.cell?_of_block (w := w) (a := ⟨b, o + j, none⟩) e).trans (h.cell j hj), fun j hj => (World.frozen?_of_block (w := w) (a := ⟨b, o + j, none⟩) e).trans (h.free j hj)⟩
theorem row_fill {w : World} {b n i : Nat} {g : Nat → Int} {v : Int} (h : RowOwn w b 0 n (fun j => if j < i then g j else 0)) (hi : i < n) (hv : v = g i) : RowOwn (w.setCell ⟨b, i, none⟩ (.int .i64 v)) b 0 n (fun j => if j < i + 1 then g j else 0) :=
  row_put0 h hi (fun j _ => by
    by_cases e : j = i
    · subst e; rw [if_pos rfl, if_pos (by omega), hv]
    · rw [if_neg e]
      by_cases e2 : j < i
      · rw [if_pos e2, if_pos (by omega)]
      · rw [if_neg e2, if_neg (by omega)])
theorem row_leave {w : World} {b n i : Nat} {g : Nat → Int} (h : RowOwn w b 0 n (fun j => if j < i then g j else 0)) (hv : g i = 0) : RowOwn w b 0 n (fun j => if j < i + 1 then g j else 0) :=
  h.congr (fun j _ => by
    by_cases e : j = i
    · subst e; rw [if_neg (Nat.lt_irrefl _), if_pos (by omega), hv]
    · by_cases e2 : j < i
      · rw [if_pos e2, if_pos (by omega)]
      · rw [if_neg e2, if_neg (by omega)])
theorem row_done {w : World} {b n : Nat} {g : Nat → Int} (h : RowOwn w b 0 n (fun j => if j < n then g j else 0)) : RowOwn w b 0 n g := h.congr (fun j hj => if_pos hj)
theorem row_zero {w : World} {b n : Nat} {g : Nat → Int} (h : RowOwn w b 0 n (fun _ => 0)) : RowOwn w b 0 n (fun j => if j < 0 then g j else 0) := h.congr (fun j _ => (if_neg (by omega)).symm)
theorem Wrote.belowB {b o n k : Nat} {w w' : World} (h : Wrote b o n w w') (hk : k ≤ b) : Below k w w' := ⟨h.os, h.tape, h.output, Nat.le_of_eq h.size.symm, fun i hi => h.block i (by omega)⟩

set_option maxRecDepth 100000 in
set_option maxHeartbeats 1600000 in
theorem l04Vector_any (p : Int) (aS : Option Addr) (S : List Int) (cS : Nat) (av : Option Addr) (v : List Int) (cv lov tpv : Nat) (w : World) (h : S.length ≤ 6) (hl : v.length = S.length) (hv : RowIn lov tpv w av v) (tv : tpv ≤ w.heap.size) :
    Calls Tryz.prog 117 #[.agg #[.int .i64 p, .slice aS S.length cS], .slice av v.length cv] w (NewRow (bl S) (vecF v v.length) w) := by
  have hbl := bl_le h
  have HV := Lib.hid hv
  have HL := Lib.hid hl
  clear hv hl
  go_enter Tryz.func117, Tryz.ntmps117
  go_wp2_with (go_at_call 116; (with_reducible refine (l04Zero_any p aS S cS _ h).mono ?_); rintro e w1 ⟨b1, rfl, hl1, hu1, ho1, hb1⟩; have HO1 := Lib.hid ho1; have HB1 := Lib.hid (below_step (below_alloc w _) (by simp) hb1); have hz1 := hb1.size; clear hb1 ho1)
  have hwb : w.heap.size ≤ b1 := by simp at hl1; omega
  go_loopw [6] (fun t wr => ∃ i : Nat, i ≤ v.length ∧ t = .int .i64 i ∧ RowOwn wr b1 0 (bl S) (vecF v i) ∧ Wrote b1 0 (bl S) w1 wr) (fun t _ => v.length - (intOf t).toNat)
  case atStart => exact ⟨0, Nat.zero_le _, rfl, HO1.out, Wrote.refl _ _ _ _⟩
  case round =>
    obtain ⟨i, hi, rfl, hr, hw⟩ := hrel
    have HR := Lib.hid hr
    have HW := Lib.hid hw
    by_cases hlt : i < v.length
    · obtain ⟨b2, o2, ha2, l2, t2, hc2⟩ := ((HV.out.below HB1.out tv).same (hw.same (by omega : b1 < lov ∨ tpv ≤ b1))).num hlt
      subst ha2
      obtain ⟨q, hq⟩ : ∃ q, q = 2 ^ i := ⟨_, rfl⟩
      have HQ := Lib.hid hq
      have hqn : q < bl S := by rw [hq]; exact pow_bl HL.out hlt
      have c0 := hr.cell q hqn
      have f0 := hr.free q hqn
      rw [Nat.zero_add] at c0 f0
      have hi1 : (i : Int) < (v.length : Int) := by omega
      have hi6 : i < 6 := by have := HL.out; omega
      have e1 : wrap64 ((2 : Int) ^ i) = (q : Int) := by rw [hq]; exact wrap_pow hi6
      clear hq
      have hq1 : (q : Int) < (bl S : Int) := Int.ofNat_lt.2 hqn
      clear hr hw
      go_wp2
      go_roundw
      case rel => exact ⟨i + 1, by omega, by go_num, row_put0 HR.out hqn (fun j _ => by rw [HQ.out, ← getD_at hlt]; rfl), wrote_put0 HW.out hqn _⟩
      case measure => simp [intOf]; omega
    · have hn : i = v.length := by omega
      subst hn
      clear hr hw
      go_wp2
      go_ret
      exact ⟨b1, rfl, hwb, by rw [HW.out.size]; exact hu1, HR.out, HB1.out.trans (HW.out.belowB hwb)⟩

end Go.Proofs.YtndneccgomfkdaaGreat

namespace Go.Proofs.YtndneccgomfkdaaGreat
open Go.RowKit
set_option linter.unusedVariables false

/-- A number is among them. -/
def hB (z : List Int) (v : Int) : Bool := (List.range z.length).any fun j => decide (z.getD j 0 = v)
end Go.Proofs.YtndneccgomfkdaaGreat

namespace Go.Proofs.YtndneccgomfkdaaGreat
set_option linter.unusedVariables false

theorem tot_const {m : List (List Int)} {c : Nat} (h : ∀ i, i < m.length → (rw' m i).length = c) : ∀ {k : Nat}, k ≤ m.length → tot m k = k * c := by
  intro k
  induction k with
  | zero => intro _; simp [tot]
  | succ k ih => intro hk; simp only [tot]; rw [ih (by omega), h k (by omega), Nat.succ_mul]
theorem Lst.c16 {n : Nat} {p : Int} {m : List (List Int)} (h : Lst n p m) : (rw' m 0).length ≤ 16 := by
  by_cases h0 : 0 < m.length
  · exact h.c1 0 h0
  · have e : m = [] := List.eq_nil_of_length_eq_zero (by omega)
    rw [e]; simp [rw']
end Go.Proofs.YtndneccgomfkdaaGreat

namespace Go.Proofs.YtndneccgomfkdaaGreat
open Go.RowKit
set_option linter.unusedVariables false

def eF (S : List Int) (i j : Nat) : Int := fz S (2 ^ i) (2 ^ j) S.length
def unitR (S : List Int) (z : Int) : List Int := mkR (bl S) (fun j => if j = 0 then z else 0)
end Go.Proofs.YtndneccgomfkdaaGreat

namespace Go.Proofs.YtndneccgomfkdaaGreat
open Go.RowKit
set_option linter.unusedVariables false

/-- A list of one's own is handed back. -/
def OwnE (R : List Int) (w : World) (e : Ending) (w' : World) : Prop := ∃ r c, e = .returned (.slice r R.length c) ∧ OwnR w.heap.size w'.heap.size w' r R ∧ Below w.heap.size w w'
theorem Mv.num {p : Int} {S x : List Int} (h : isMv p S x = true) : ∀ j, j < x.length → 0 ≤ x.getD j 0 ∧ x.getD j 0 < p := fun j hj => (isVec_iff.1 h).num (by rw [← (isVec_iff.1 h).len]; exact hj)
theorem Mv.len {p : Int} {S x : List Int} (h : isMv p S x = true) : x.length = bl S := (isVec_iff.1 h).len
theorem Mv.nums {p : Int} {S x : List Int} (h : isMv p S x = true) : Nums p x := Mv.num h
end Go.Proofs.YtndneccgomfkdaaGreat
