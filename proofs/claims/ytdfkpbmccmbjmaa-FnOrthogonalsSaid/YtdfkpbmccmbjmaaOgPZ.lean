/-
  Orthogonal vectors: they vanish at the list, and their number. No Go in sight.
  No conditions.
-/
import Derived.Test.YtdfkpbmccmbjmaaQg18
import Derived.Test.YtdfkpbmccmbjmaaQg19
import Derived.Test.YtdfkpbmccmbjmaaDimZ
namespace Go.Proofs.Ytdfkpbmccmbjmaa
open Go.RowKit
set_option linter.unusedVariables false

theorem og_lst {p : Int} {S : List Int} {m : List (List Int)} (hs : isSp p S = true) (hl : listB p S m = true) : isL 0 p m = true := by
  have h6 := (isSp_iff.1 hs).hi
  have h1 := (isSp_iff.1 hs).lo
  have hv := (listB_iff hl).2
  have hlen : ∀ i, i < m.length → (rw' m i).length = S.length := fun i hi => (isVec_iff.1 (hv i hi)).len
  refine isL_iff.2 ⟨(isSp_iff.1 hs).prime, Nat.zero_le _, (listB_iff hl).1, fun i hi => ?_, fun i hi => ?_, fun i hi => ?_, fun i hi => ?_⟩
  · rw [hlen i hi, hlen 0 (by omega)]
  · rw [hlen i hi]; exact h1
  · rw [hlen i hi]; omega
  · exact (isVec_iff.1 (hv i hi)).all
theorem bas_scale {p : Int} {c : Nat} {m B B' : List (List Int)} {s : Nat → Int} (hp : prm p = true) (hs : ∀ j, j < c → 1 ≤ s j ∧ s j < p) (hB : IsBas p c m B) (hB' : IsBas p c (mk m.length c fun i j => at' m i j * s j % p) B') : B.length = B'.length := by
  have hpb := prm_bd hp
  have hR := hB.pivs
  have hR' := hB'.pivs
  have key : ∀ (x : Nat → Int) i, i < m.length → sm c (fun j => at' (mk m.length c fun i j => at' m i j * s j % p) i j * x j) % p = sm c (fun j => at' m i j * (s j * x j)) % p := fun x i hi => sm_same fun j hj => by
    rw [mk_at _ hi hj, Int.mul_emod, Int.emod_emod, ← Int.mul_emod, Int.mul_assoc]
  have hn1 : ∀ x, nul p (mk m.length c fun i j => at' m i j * s j % p).length c (at' (mk m.length c fun i j => at' m i j * s j % p)) x → nul p m.length c (at' m) (fun j => s j * x j) := fun x h i hi => by
    rw [← key x i hi]; exact h i (by rw [mk_len]; exact hi)
  have hn2 : ∀ x, nul p m.length c (at' m) (fun j => s j * x j) → nul p (mk m.length c fun i j => at' m i j * s j % p).length c (at' (mk m.length c fun i j => at' m i j * s j % p)) x := fun x h i hi => by
    rw [mk_len] at hi; rw [key x i hi]; exact h i hi
  have piv : ∀ k, k < c → ((∃ i, i < B.length ∧ pvs B i = k) ↔ ∃ i, i < B'.length ∧ pvs B' i = k) := fun k hk => by
    rw [hR.pivot (by omega) hk, hR'.pivot (by omega) hk]
    have hik := inv_mul hp (hs k hk).1 (hs k hk).2
    constructor
    · rintro g ⟨x, hx, h1, h2⟩
      refine g ⟨fun j => if j = k then 1 else s j * x j * inv p (s k), ?_, if_pos rfl, fun j hj => ?_⟩
      · have a := hn1 x ((hB'.nul x).2 hx)
        refine (hB.nul _).1 fun i hi => ?_
        rw [sm_same (g := fun j => inv p (s k) * (at' m i j * (s j * x j))) fun j hj => by
          by_cases e : j = k
          · subst e
            rw [if_pos rfl, h1, Int.mul_one, Int.mul_one, Int.mul_comm (inv p (s j)), Int.mul_assoc, Int.mul_emod, hik, Int.mul_one, Int.emod_emod]
          · rw [if_neg e, ← Int.mul_assoc, Int.mul_comm], sm_mul]
        exact mod_z (a i hi)
      · dsimp only
        rw [if_neg (by omega), h2 j hj]; simp
    · rintro g ⟨x, hx, h1, h2⟩
      refine g ⟨fun j => if j = k then 1 else x j * inv p (s j) * s k, ?_, if_pos rfl, fun j hj => ?_⟩
      · have a := (hB.nul x).2 hx
        refine (hB'.nul _).1 (hn2 _ fun i hi => ?_)
        rw [sm_same (g := fun j => s k * (at' m i j * x j)) fun j hj => by
          dsimp only
          by_cases e : j = k
          · subst e
            rw [if_pos rfl, h1, Int.mul_one, Int.mul_one, Int.mul_comm]
          · rw [if_neg e]
            have hj1 := inv_mul hp (hs j hj).1 (hs j hj).2
            rw [show at' m i j * (s j * (x j * inv p (s j) * s k)) = (s k * (at' m i j * x j)) * (s j * inv p (s j)) by
              simp only [Int.mul_comm, Int.mul_left_comm, Int.mul_assoc], Int.mul_emod, hj1, Int.mul_one, Int.emod_emod], sm_mul]
        exact mod_z (a i hi)
      · dsimp only
        rw [if_neg (by omega), h2 j hj]; simp
  have a := enum_eq hR.mono hR'.mono (fun i hi => by obtain ⟨k, hk, e⟩ := (piv _ (hR.pv i hi)).1 ⟨i, hi, rfl⟩; exact ⟨k, hk, e⟩) (fun i hi => by obtain ⟨k, hk, e⟩ := (piv _ (hR'.pv i hi)).2 ⟨i, hi, rfl⟩; exact ⟨k, hk, e⟩)
  have b := enum_eq hR'.mono hR.mono (fun i hi => by obtain ⟨k, hk, e⟩ := (piv _ (hR'.pv i hi)).2 ⟨i, hi, rfl⟩; exact ⟨k, hk, e⟩) (fun i hi => by obtain ⟨k, hk, e⟩ := (piv _ (hR.pv i hi)).1 ⟨i, hi, rfl⟩; exact ⟨k, hk, e⟩)
  rcases Nat.lt_trichotomy B.length B'.length with l | l | l
  · have := (b _ l).1; omega
  · exact l
  · have := (a _ l).1; omega
theorem og_rows {p : Int} {S : List Int} {m : List (List Int)} (hs : isSp p S = true) (hl : listB p S m = true) (h0 : m.length ≠ 0) : RowsW p (ortM p S m) ∧ (rw' (ortM p S m) 0).length = S.length :=
  ⟨(ort_lst (isSp_iff.1 hs).prime (isSp_iff.1 hs).lo (isSp_iff.1 hs).hi (by omega) (listB_iff hl).1).wide, mk_rowLen _ (by omega)⟩
theorem og_vec {p : Int} {S : List Int} {m : List (List Int)} (hs : isSp p S = true) (hl : listB p S m = true) {i : Nat} (hi : i < (ortB p S m).length) : isVec p S.length (rw' (ortB p S m) i) = true := by
  have hpb := prm_bd (isSp_iff.1 hs).prime
  by_cases h0 : m.length = 0
  · have e : ortB p S m = oneM S.length := if_pos h0
    rw [e] at hi ⊢
    have hi' : i < S.length := by rw [show (oneM S.length).length = S.length from mk_len _ _ _] at hi; exact hi
    have er : rw' (oneM S.length) i = mkR S.length fun j => if i = j then 1 else 0 := mk_row _ hi'
    refine isVec_iff.2 ⟨by rw [er, mkR_len], ?_⟩
    rw [er, List.all_eq_true]
    intro y hy
    unfold mkR at hy
    obtain ⟨j, _, rfl⟩ := List.mem_map.1 hy
    refine inr_iff.2 ?_
    split <;> omega
  · have e : ortB p S m = kerB p (ortM p S m) := if_neg h0
    obtain ⟨hW, hc⟩ := og_rows hs hl h0
    rw [e] at hi ⊢
    have hK := ker_is (A := ortM p S m) hW.prime
    have hlen := hK.len i hi
    refine isVec_iff.2 ⟨by rw [hlen, hc], ?_⟩
    rw [List.all_eq_true]
    intro y hy
    obtain ⟨j, hj, rfl⟩ := List.getElem_of_mem hy
    have := hK.pivs.rng i hi j (by rw [← hlen]; exact hj)
    rw [← getD_at hj]
    exact inr_iff.2 this
theorem og_zero {p : Int} {S : List Int} {m : List (List Int)} (hs : isSp p S = true) (hl : listB p S m = true) {i k : Nat} (hi : i < (ortB p S m).length) (hk : k < m.length) : pairN p S (rw' (ortB p S m) i) (rw' m k) = 0 := by
  have e : ortB p S m = kerB p (ortM p S m) := if_neg (by omega)
  obtain ⟨hW, hc⟩ := og_rows hs hl (by omega)
  rw [e] at hi ⊢
  have h := ker_nul hW (i := k) (by rw [show (ortM p S m).length = m.length from mk_len _ _ _]; exact hk) i hi
  rw [hc] at h
  rw [← h]
  unfold pairN psum
  refine sm_same fun j hj => ?_
  have e2 : at' (ortM p S m) k j = at' m k j * S.getD j 0 % p := mk_at _ hk hj
  rw [e2]
  show ((rw' (kerB p (ortM p S m)) i).getD j 0 * (rw' m k).getD j 0 * S.getD j 0) % p = ((rw' (kerB p (ortM p S m)) i).getD j 0 * ((rw' m k).getD j 0 * S.getD j 0 % p)) % p
  rw [Int.mul_emod _ (_ % p), Int.emod_emod, ← Int.mul_emod, Int.mul_assoc]
theorem og_dim {p : Int} {S : List Int} {m : List (List Int)} (hs : isSp p S = true) (hl : listB p S m = true) (hd : discN p S ≠ 0) : (ortB p S m).length + (bas p m).length = S.length := by
  have hp := (isSp_iff.1 hs).prime
  have hpb := prm_bd hp
  by_cases h0 : m.length = 0
  · have e : ortB p S m = oneM S.length := if_pos h0
    have hm : m = [] := List.eq_nil_of_length_eq_zero h0
    rw [e, hm, bas_nil (by omega), show (oneM S.length).length = S.length from mk_len _ _ _]
    rfl
  · have e : ortB p S m = kerB p (ortM p S m) := if_neg h0
    obtain ⟨hW, hc⟩ := og_rows hs hl h0
    have hv := (listB_iff hl).2
    have hB : IsBas p S.length m (bas p m) := bas_is hp m (fun i hi => (isVec_iff.1 (hv i hi)).len) (fun i hi j hj => (isVec_iff.1 (hv i hi)).num hj)
    have hB' : IsBas p S.length (ortM p S m) (bas p (ortM p S m)) := by rw [← hc]; exact hW.bas
    have hS : ∀ j, j < S.length → 1 ≤ S.getD j 0 ∧ S.getD j 0 < p := fun j hj => by
      have h1 := (isSp_iff.1 hs).num hj
      have h2 : S.getD j 0 ≠ 0 := fun hz => hd ((disN_zero hp (fun j hj => (isSp_iff.1 hs).num hj)).2 ⟨j, hj, hz⟩)
      omega
    have hlen := bas_scale (s := fun j => S.getD j 0) hp hS hB hB'
    rw [e, hlen, ker_dim hW, hc]

end Go.Proofs.Ytdfkpbmccmbjmaa
