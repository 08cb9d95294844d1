/-
  PowerOf: contracts of the program and of the model.
  Conditions: the lists are nil or rows of known cells, of at most 1048576 numbers.
-/
import Derived.Test.YtcmedhkamjclmaaGpC
namespace Go.Proofs.Ytcmedhkamjclmaa
open Go.RowKit
set_option linter.unusedVariables false

def mOne (S : List Int) : List Int := mkR (bl S) oneF
def mPow (p : Int) (S x : List Int) : Nat → List Int
  | 0 => mOne S
  | k + 1 => prodM p S (mPow p S x k) x
theorem isMv_of {p : Int} {S z : List Int} (hl : z.length = bl S) (hn : ∀ j, j < z.length → 0 ≤ z.getD j 0 ∧ z.getD j 0 < p) : isMv p S z = true := by
  unfold isMv isVec
  rw [hl, Bool.and_eq_true]
  refine ⟨by simp, ?_⟩
  rw [List.all_eq_true]
  intro y hy
  obtain ⟨j, hj, rfl⟩ := List.getElem_of_mem hy
  have h := hn j hj
  rw [getD_at hj] at h
  exact inr_iff.2 h
theorem one_mv {p : Int} {S : List Int} (hs : isSp p S = true) : isMv p S (mOne S) = true :=
  isMv_of (mkR_len _ _) (fun j hj => by
    have hp := prm_bd (isSp_iff.1 hs).prime
    unfold mOne at hj ⊢
    rw [mkR_len] at hj
    rw [mkR_at _ hj]
    unfold oneF
    split <;> omega)
theorem mpow_mv {p : Int} {S x : List Int} (hs : isSp p S = true) : ∀ k, isMv p S (mPow p S x k) = true
  | 0 => one_mv hs
  | k + 1 => prod_mv hs _ _
theorem mpow_len {p : Int} {S x : List Int} (hs : isSp p S = true) (k : Nat) : (mPow p S x k).length = bl S := Mv.len (mpow_mv hs k)
theorem mpow_one {p : Int} {S x : List Int} (hx : isMv p S x = true) : mPow p S x 1 = x := prodM_one_l p S x (Mv.len hx) (Mv.num hx)
theorem mpow_add {p : Int} {S x : List Int} (hs : isSp p S = true) (m : Nat) : ∀ n, prodM p S (mPow p S x m) (mPow p S x n) = mPow p S x (m + n)
  | 0 => prodM_one_r p S _ (mpow_len hs m) (Mv.num (mpow_mv hs m))
  | n + 1 => by
    show prodM p S (mPow p S x m) (prodM p S (mPow p S x n) x) = prodM p S (mPow p S x (m + n)) x
    rw [← mpow_add hs m n, prodM_assoc]
def mPowC (p : Int) (S x : List Int) (k : Int) : Int := if codeMv p S [x] = 0 then (if 0 ≤ k ∧ k ≤ 100 then 0 else 2) else codeMv p S [x]
def mPowV (p : Int) (S x : List Int) (k : Int) : List Int := if mPowC p S x k = 0 then mPow p S x k.toNat else []
theorem mPowV_size (p : Int) (S x : List Int) (k : Int) : (mPowV p S x k).length ≤ 1048576 := by
  unfold mPowV; split
  · rename_i h
    have h0 : codeMv p S [x] = 0 := by
      unfold mPowC at h; split at h
      · assumption
      · exact h
    have h1 := codeMv_zero.1 h0
    have := bl_le (isSp_iff.1 h1.1).hi; rw [mpow_len h1.1]; omega
  · simp
set_option maxHeartbeats 800000 in
theorem l04One_any (p : Int) (a : Option Addr) (S : List Int) (c : Nat) (w : World) (h : S.length ≤ 6) :
    Calls Try.prog 110 #[.agg #[.int .i64 p, .slice a S.length c]] w (OwnE (mOne S) w) := by
  have hb0 := bl_pos S
  go_enter Try.func110, Try.ntmps110
  go_wp2_with (go_at_call 101; (with_reducible refine (l04Zero_any p a S c _ h).mono ?_); rintro e w1 ⟨b1, rfl, hl1, hu1, ho1, hb1⟩; have HO1 := Lib.hid ho1; have HB1 := Lib.hid (below_step (below_alloc w _) (by simp) hb1); have hz1 := hb1.size; have c0 := ho1.cell 0 hb0; have f0 := ho1.free 0 hb0; rw [Nat.zero_add] at c0 f0; clear hb1 ho1)
  have hwb : w.heap.size ≤ b1 := by simp at hl1; omega
  go_ret
  exact ⟨_, bl S, by unfold mOne; rw [mkR_len]; rfl, (row_put0 (g := oneF) (v := 1) HO1.out hb0 (fun j _ => by unfold oneF; rfl)).own hwb (by simp [World.setCell]; exact hu1), HB1.out.trans ((wrote_put0 (Wrote.refl b1 0 (bl S) w1) hb0 _).belowB hwb)⟩
theorem blade0_any (p : Int) (a : Option Addr) (S : List Int) (c : Nat) (w : World) (h : S.length ≤ 6) :
    Calls Try.prog 103 #[.agg #[.int .i64 p, .slice a S.length c], .int .i64 0] w (OwnE (mOne S) w) :=
  (blade_any p a S c 0 w h (bl_pos S)).mono fun _ _ h => h.ownE

end Go.Proofs.Ytcmedhkamjclmaa
