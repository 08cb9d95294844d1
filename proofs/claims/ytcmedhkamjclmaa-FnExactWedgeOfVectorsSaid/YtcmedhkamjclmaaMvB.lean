/-
  BladeOf, VectorOf, ScalarOf, AddMultivectors, ScaleMultivector: contracts of the program and of the model.
  Conditions: the lists are nil or rows of known cells, of at most 1048576 numbers.
-/
import Derived.Test.YtcmedhkamjclmaaMvA
import Derived.Test.YtcmedhkamjclmaaOwn
import Derived.Test.YtcmedhkamjclmaaSpA
import Derived.Test.YtcmedhkamjclmaaInp
namespace Go.Proofs.Ytcmedhkamjclmaa
open Go.RowKit
set_option linter.unusedVariables false

/-- A list of one's own is handed back. -/
def OwnE (R : List Int) (w : World) (e : Ending) (w' : World) : Prop := ∃ r c, e = .returned (.slice r R.length c) ∧ OwnR w.heap.size w'.heap.size w' r R ∧ Below w.heap.size w w'
def bladeC (p : Int) (S : List Int) (k : Int) : Int := if isSp p S = true then (if 0 ≤ k ∧ k < bl S then 0 else 2) else 1
def bladeV (p : Int) (S : List Int) (k : Int) : List Int := if isSp p S = true ∧ 0 ≤ k ∧ k < bl S then bladeM S k.toNat else []
def vecV (p : Int) (S v : List Int) : List Int := if codeVs p S [v] = 0 then vecM S v else []
def scalV (p : Int) (S x : List Int) : Int := if codeMv p S [x] = 0 then x.getD 0 0 else 0
def addMV (p : Int) (S x y : List Int) : List Int := if codeMv p S [x, y] = 0 then addV p x y else []
def sclMC (p : Int) (S x : List Int) (k : Int) : Int := if codeMv p S [x] = 0 then (if 0 ≤ k ∧ k < p then 0 else 2) else codeMv p S [x]
def sclMV (p : Int) (S x : List Int) (k : Int) : List Int := if sclMC p S x k = 0 then sclV p x k else []
theorem Mv.num {p : Int} {S x : List Int} (h : isMv p S x = true) : ∀ j, j < x.length → 0 ≤ x.getD j 0 ∧ x.getD j 0 < p := fun j hj => (isVec_iff.1 h).num (by rw [← (isVec_iff.1 h).len]; exact hj)
theorem Mv.len {p : Int} {S x : List Int} (h : isMv p S x = true) : x.length = bl S := (isVec_iff.1 h).len
theorem Mv.nums {p : Int} {S x : List Int} (h : isMv p S x = true) : Nums p x := Mv.num h
theorem bladeV_size (p : Int) (S : List Int) (k : Int) : (bladeV p S k).length ≤ 1048576 := by
  unfold bladeV; split
  · rename_i h; have := bl_le (isSp_iff.1 h.1).hi; unfold bladeM; rw [mkR_len]; omega
  · simp
theorem codeMv_sp' {p : Int} {S : List Int} {m : List (List Int)} (h : codeMv p S m = 0) : S.length ≤ 6 := (isSp_iff.1 (codeMv_zero.1 h).1).hi
theorem vecV_size (p : Int) (S v : List Int) : (vecV p S v).length ≤ 1048576 := by
  unfold vecV; split
  · rename_i h
    rcases codeVs_cases p S [v] with ⟨hi, hc⟩ | ⟨hi, ha, hc⟩ | ⟨hi, ha, hc⟩
    · rw [hc] at h; cases h
    · have := bl_le (isSp_iff.1 hi).hi; unfold vecM; rw [mkR_len]; omega
    · rw [hc] at h; cases h
  · simp
theorem mv_small {p : Int} {S x : List Int} (h : isSp p S = true) (k : isMv p S x = true) : x.length ≤ 64 := by rw [Mv.len k]; exact bl_le (isSp_iff.1 h).hi
theorem code1_small {p : Int} {S x : List Int} (h : codeMv p S [x] = 0) : x.length ≤ 64 := by
  obtain ⟨h1, h2⟩ := codeMv_zero.1 h
  rw [mv_all1] at h2; exact mv_small h1 h2
theorem code2_small {p : Int} {S x y : List Int} (h : codeMv p S [x, y] = 0) : x.length ≤ 64 := by
  obtain ⟨h1, h2⟩ := codeMv_zero.1 h
  rw [mv_all2, Bool.and_eq_true] at h2; exact mv_small h1 h2.1
theorem addMV_size (p : Int) (S x y : List Int) : (addMV p S x y).length ≤ 1048576 := by
  unfold addMV; split
  · rename_i h; have := code2_small h; unfold addV; rw [mkR_len]; omega
  · simp
theorem sclMV_size (p : Int) (S x : List Int) (k : Int) : (sclMV p S x k).length ≤ 1048576 := by
  unfold sclMV; split
  · rename_i h
    have h0 : codeMv p S [x] = 0 := by
      unfold sclMC at h; split at h
      · assumption
      · exact h
    have := code1_small h0; unfold sclV; rw [mkR_len]; omega
  · simp

theorem checkW1 (p : Int) (aS : Option Addr) (S : List Int) (cS loS tpS : Nat) (av : Option Addr) (v : List Int) (cv lov tpv b cap : Nat) (W : World) (T : TypeId) (hb : b = W.heap.size)
    (hS : RowIn loS tpS W aS S) (tS : tpS ≤ W.heap.size) (sS : S.length ≤ 1048576) (hv : RowIn lov tpv W av v) (tv : tpv ≤ W.heap.size) (sv : v.length ≤ 1048576) :
    Calls Try.prog 112 #[.agg #[.int .i64 p, .slice aS S.length cS], .slice (some ⟨b, 0, none⟩) 1 cap] (W.alloc (.cells #[.slice av v.length cv] T)) fun e w' => e = .returned (.int .i64 (codeVs p S [v])) ∧ Below (W.alloc (.cells #[.slice av v.length cv] T)).heap.size (W.alloc (.cells #[.slice av v.length cv] T)) w' :=
  checkVectors_any p aS S cS loS tpS (some ⟨b, 0, none⟩) [v] cap 0 _ _ (hS.below (below_alloc W _) tS) (Nat.le_trans tS (size_alloc W _)) sS (mv_one hb hv tv T) (Nat.le_refl _) (by show 1 ≤ 1048576; omega) (fun i hi => by match i, hi with | 0, _ => exact sv)

end Go.Proofs.Ytcmedhkamjclmaa
