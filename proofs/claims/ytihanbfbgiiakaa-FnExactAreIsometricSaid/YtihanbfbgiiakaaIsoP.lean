/-
  Squares that are not 0: how many, and their product. No Go in sight.
  No conditions.
-/
import Derived.Test.YtihanbfbgiiakaaDsc
import Derived.Test.YtihanbfbgiiakaaRoot
namespace Go.Proofs.Ytihanbfbgiiakaa
set_option linter.unusedVariables false

def nz (S : List Int) : List Int := S.filter fun x => x != 0
def pz (p : Int) (S : List Int) : Nat → Int
  | 0 => 1
  | i + 1 => if S.getD i 0 = 0 then pz p S i else pz p S i * S.getD i 0 % p
def zc (S : List Int) : Nat → Nat
  | 0 => 0
  | i + 1 => if S.getD i 0 = 0 then zc S i + 1 else zc S i
theorem pz_yes {p : Int} {S : List Int} {i : Nat} (h : S.getD i 0 = 0) : pz p S (i + 1) = pz p S i := if_pos h
theorem pz_no {p : Int} {S : List Int} {i : Nat} (h : S.getD i 0 ≠ 0) : pz p S (i + 1) = pz p S i * S.getD i 0 % p := if_neg h
theorem zc_yes {S : List Int} {i : Nat} (h : S.getD i 0 = 0) : zc S (i + 1) = zc S i + 1 := if_pos h
theorem zc_no {S : List Int} {i : Nat} (h : S.getD i 0 ≠ 0) : zc S (i + 1) = zc S i := if_neg h
theorem pz_bd {p : Int} (hp : prm p = true) (S : List Int) (i : Nat) : 0 ≤ pz p S i ∧ pz p S i < p := by
  have := prm_bd hp
  induction i with
  | zero => show 0 ≤ (1 : Int) ∧ (1 : Int) < p; omega
  | succ i ih =>
    by_cases h : S.getD i 0 = 0
    · rw [pz_yes h]; exact ih
    · rw [pz_no h]; exact mod_bd hp _
theorem zc_le (S : List Int) (i : Nat) : zc S i ≤ i := by
  induction i with
  | zero => exact Nat.le_refl _
  | succ i ih =>
    by_cases h : S.getD i 0 = 0
    · rw [zc_yes h]; omega
    · rw [zc_no h]; omega
theorem getD_eq {S : List Int} {i : Nat} (h : i < S.length) : S.getD i 0 = S[i] := by simp [List.getD, h]
theorem nz_yes {S : List Int} {i : Nat} (h : i < S.length) (e : S.getD i 0 = 0) : nz (S.take (i + 1)) = nz (S.take i) := by
  rw [getD_eq h] at e
  unfold nz
  rw [List.take_succ_eq_append_getElem h, List.filter_append, e]
  exact List.append_nil _
theorem nz_no {S : List Int} {i : Nat} (h : i < S.length) (e : S.getD i 0 ≠ 0) : nz (S.take (i + 1)) = nz (S.take i) ++ [S.getD i 0] := by
  rw [getD_eq h] at e ⊢
  have k : (S[i] != 0) = true := by simpa using e
  unfold nz
  rw [List.take_succ_eq_append_getElem h, List.filter_append]
  simp [List.filter, k]
theorem disN_app (p : Int) (L X : List Int) (k : Nat) (h : k ≤ L.length) : disN p (L ++ X) k = disN p L k := by
  induction k with
  | zero => rfl
  | succ k ih =>
    show disN p (L ++ X) k * (L ++ X).getD k 0 % p = disN p L k * L.getD k 0 % p
    rw [ih (by omega)]
    have : (L ++ X).getD k 0 = L.getD k 0 := by simp only [List.getD_eq_getElem?_getD]; rw [List.getElem?_append_left (by omega)]
    rw [this]
theorem disN_nz {p : Int} {S : List Int} {i : Nat} (h : i ≤ S.length) : disN p (nz (S.take i)) (nz (S.take i)).length = pz p S i := by
  induction i with
  | zero => rfl
  | succ i ih =>
    by_cases e : S.getD i 0 = 0
    · rw [nz_yes (by omega) e, pz_yes e]; exact ih (by omega)
    · rw [nz_no (by omega) e, pz_no e, List.length_append]
      show disN p (nz (S.take i) ++ [S.getD i 0]) (nz (S.take i)).length * (nz (S.take i) ++ [S.getD i 0]).getD (nz (S.take i)).length 0 % p = _
      rw [disN_app p _ _ _ (Nat.le_refl _), ih (by omega)]
      have : (nz (S.take i) ++ [S.getD i 0]).getD (nz (S.take i)).length 0 = S.getD i 0 := by simp [List.getD]
      rw [this]
theorem disc_nz (p : Int) (S : List Int) : discN p (nz S) = pz p S S.length := by
  have := disN_nz (p := p) (S := S) (Nat.le_refl _)
  rwa [List.take_length] at this
theorem zc_len {S : List Int} {i : Nat} (h : i ≤ S.length) : (nz (S.take i)).length + zc S i = i := by
  induction i with
  | zero => rfl
  | succ i ih =>
    by_cases e : S.getD i 0 = 0
    · rw [nz_yes (by omega) e, zc_yes e]; have := ih (by omega); omega
    · rw [nz_no (by omega) e, zc_no e, List.length_append]; have := ih (by omega); simp; omega
theorem zc_all (S : List Int) : (nz S).length + zc S S.length = S.length := by
  have := zc_len (S := S) (Nat.le_refl _)
  rwa [List.take_length] at this
theorem nz_le (S : List Int) : (nz S).length ≤ S.length := by have := zc_all S; omega
theorem nz_at {S : List Int} {j : Nat} (h : j < (nz S).length) : (nz S).getD j 0 ∈ S := by
  have e : (nz S).getD j 0 = (nz S)[j] := by simp [List.getD, h]
  rw [e]
  exact (List.mem_filter.1 (List.getElem_mem h)).1
theorem nz_num {p : Int} {S : List Int} (h : Spa p S) {j : Nat} (hj : j < (nz S).length) : 0 ≤ (nz S).getD j 0 ∧ (nz S).getD j 0 < p := by
  have ha := h.all
  rw [List.all_eq_true] at ha
  exact inr_iff.1 (ha _ (nz_at hj))
theorem nz_none {S : List Int} (h : ∀ j, j < S.length → S.getD j 0 ≠ 0) : nz S = S := by
  unfold nz
  rw [List.filter_eq_self]
  intro x hx
  obtain ⟨j, hj, rfl⟩ := List.getElem_of_mem hx
  have := h j hj
  rw [getD_eq hj] at this
  simpa using this
theorem nz_upto {S : List Int} {k : Nat} (hk : k ≤ S.length) (h : ∀ j, j < k → S.getD j 0 ≠ 0) : nz (S.take k) = S.take k := by
  refine nz_none (fun j hj => ?_)
  rw [List.length_take] at hj
  have : (S.take k).getD j 0 = S.getD j 0 := by simp only [List.getD_eq_getElem?_getD]; rw [List.getElem?_take_of_lt (by omega)]
  rw [this]; exact h j (by omega)
theorem mm (a b p : Int) : a % p * b % p = a * b % p := by rw [Int.mul_emod, Int.emod_emod, ← Int.mul_emod]
/-- One factor more on the left, on the right. -/
theorem mulL (a b s p : Int) : a * b % p * s % p = a * s % p * b % p := by rw [mm, mm, Int.mul_right_comm]
theorem mulR (a b t p : Int) : a * b % p * t % p = a * (b * t % p) % p := by rw [mm, Int.mul_comm a (b * t % p), mm, Int.mul_assoc, Int.mul_comm]
def isoB (p : Int) (S : List Int) (q : Int) (T : List Int) : Bool := decide (p = q) && (decide (S.length = T.length) && (decide ((nz S).length = (nz T).length) && rtB p (discN p (nz S) * discN p (nz T) % p)))
theorem iso_p {p q : Int} {S T : List Int} (h : p ≠ q) : isoB p S q T = false := by simp [isoB, h]
theorem iso_l {p q : Int} {S T : List Int} (h : S.length ≠ T.length) : isoB p S q T = false := by simp [isoB, h]
theorem iso_n {p q : Int} {S T : List Int} (h : (nz S).length ≠ (nz T).length) : isoB p S q T = false := by simp [isoB, h]
theorem iso_y {p : Int} {S T : List Int} (h : S.length = T.length) (k : (nz S).length = (nz T).length) : isoB p S p T = rtB p (discN p (nz S) * discN p (nz T) % p) := by simp [isoB, h, k]
theorem zc_iff {S T : List Int} (h : S.length = T.length) : zc S S.length = zc T T.length ↔ (nz S).length = (nz T).length := by
  have := zc_all S
  have := zc_all T
  omega

end Go.Proofs.Ytihanbfbgiiakaa
