/-
  Orthogonal matrices: the reflections of the decomposition make the matrix; its versor has it as its matrix. No Go in sight.
  No conditions.
  Products of multivectors: an inverse behind is one ahead. No Go in sight.
  No conditions.
  Versors with the same sandwich are multiples of each other: what commutes, twisted, with all basis vectors is a number. No Go in sight.
  No conditions.
-/
import Derived.Test.YthbkfpkeofpocaaGreatQv31
import Derived.Test.YthbkfpkeofpocaaGreatQv37
import Derived.Test.YthbkfpkeofpocaaGreatQv39
import Derived.Test.YthbkfpkeofpocaaGreatQv11
import Derived.Test.YthbkfpkeofpocaaGreatQv28
import Derived.Test.YthbkfpkeofpocaaGreatQv27
namespace Go.Proofs.YthbkfpkeofpocaaGreat
set_option linter.unusedVariables false

theorem rfl_fix {p : Int} {S u v : List Int} (hp : prm p = true) (hv : isVec p S.length v = true) (h : pairN p S u v = 0) : rflM p S u v = v := by
  have hb := prm_bd hp
  have hl := (isVec_iff.1 hv).len
  have e : rfK p 0 (pairN p S u u) = 0 := by unfold rfK; simp
  unfold rflM
  rw [h, e]
  refine row_ext (plusR_ln _ _ _ _) fun i hi => ?_
  rw [plusR_ln] at hi
  have h1 := (isVec_iff.1 hv).num (by rw [← hl]; exact hi)
  rw [plusR_at _ _ _ _ hi, Int.zero_mul, Int.add_zero, Int.emod_eq_of_lt h1.1 h1.2]
theorem rfl_twice {p : Int} {S u v : List Int} (hp : prm p = true) (hv : isVec p S.length v = true) (h0 : pairN p S u u ≠ 0) : rflM p S u (rflM p S u v) = v := by
  have hb := prm_bd hp
  have hl := (isVec_iff.1 hv).len
  have hA := pairN_bd7 (p := p) (S := S) (u := u) (v := v) (by omega)
  have hN := pairN_bd7 (p := p) (S := S) (u := u) (v := u) (by omega)
  have e : pairN p S u (rflM p S u v) = (pairN p S u v + rfK p (pairN p S u v) (pairN p S u u) * pairN p S u u) % p := by
    unfold rflM
    rw [pairN_comm p S u (plusR _ _ _ _), pairN_lin hl, pairN_comm p S v u]
  have h2 := every2_at (Q := fun p A N => decide (N ≠ 0 → (rfK p A N + rfK p ((A + rfK p A N * N) % p) N) % p = 0)) (by decide +kernel) hp hA.1 hA.2 hN.1 hN.2
  simp only [decide_eq_true_eq] at h2
  have h3 := h2 h0
  rw [← e] at h3
  show plusR p (rflM p S u v) u (rfK p (pairN p S u (rflM p S u v)) (pairN p S u u)) = v
  obtain ⟨k', hk'⟩ : ∃ k', k' = rfK p (pairN p S u (rflM p S u v)) (pairN p S u u) := ⟨_, rfl⟩
  rw [← hk'] at h3 ⊢
  unfold rflM
  refine row_ext (by rw [plusR_ln, plusR_ln]) fun i hi => ?_
  rw [plusR_ln, plusR_ln] at hi
  have h1 := (isVec_iff.1 hv).num (by rw [← hl]; exact hi)
  rw [plusR_at _ _ _ _ (by rw [plusR_ln]; exact hi), plusR_at _ _ _ _ hi, Int.emod_add_emod, Int.add_assoc, ← Int.add_mul, Int.add_emod, ← el_mod (_ + _), h3, Int.zero_mul, Int.zero_emod, Int.add_zero, Int.emod_emod, Int.emod_eq_of_lt h1.1 h1.2]
theorem rfl_pair2 {p : Int} {S u v w : List Int} (hp : prm p = true) (hv : isVec p S.length v = true) (hw : isVec p S.length w = true) (h0 : pairN p S u u ≠ 0) : pairN p S (rflM p S u v) (rflM p S u w) = pairN p S v w := by
  have hb := prm_bd hp
  have hl := (isVec_iff.1 hv).len
  have hl2 := (isVec_iff.1 hw).len
  have hA := pairN_bd7 (p := p) (S := S) (u := u) (v := v) (by omega)
  have hB := pairN_bd7 (p := p) (S := S) (u := u) (v := w) (by omega)
  have hN := pairN_bd7 (p := p) (S := S) (u := u) (v := u) (by omega)
  have hX := pairN_bd7 (p := p) (S := S) (u := v) (v := w) (by omega)
  unfold rflM
  rw [pairN_lin hl, pairN_comm p S v (plusR _ _ _ _), pairN_comm p S u (plusR _ _ _ _), pairN_lin hl2, pairN_lin hl2, pairN_comm p S w v, pairN_comm p S w u]
  obtain ⟨A, eA⟩ : ∃ A, A = pairN p S u v := ⟨_, rfl⟩
  obtain ⟨B, eB⟩ : ∃ A, A = pairN p S u w := ⟨_, rfl⟩
  obtain ⟨N, eN⟩ : ∃ A, A = pairN p S u u := ⟨_, rfl⟩
  obtain ⟨X, eX⟩ : ∃ A, A = pairN p S v w := ⟨_, rfl⟩
  rw [← eA] at hA ⊢
  rw [← eB] at hB ⊢
  rw [← eN] at hN h0 ⊢
  rw [← eX] at hX ⊢
  clear eA eB eN eX
  have h2 := every2_at (Q := fun p A N => (List.range 13).all fun b => decide (N ≠ 0 → (rfK p (b : Int) N * A + rfK p A N * (((b : Int) + rfK p (b : Int) N * N) % p)) % p = 0)) (by decide +kernel) hp hA.1 hA.2 hN.1 hN.2
  rw [List.all_eq_true] at h2
  have h3 := h2 B.toNat (List.mem_range.2 (by omega))
  simp only [decide_eq_true_eq] at h3
  rw [show ((B.toNat : Nat) : Int) = B by omega] at h3
  have h4 := h3 h0
  rw [Int.emod_add_emod, Int.add_assoc, Int.add_emod, h4, Int.add_zero, Int.emod_emod, Int.emod_eq_of_lt hX.1 hX.2]
/-- The reflections in the rows of a list, the first one first. -/
def rfB (p : Int) (S : List Int) (L : List (List Int)) (v : List Int) : List Int := L.foldl (fun v u => rflM p S u v) v
theorem rfB_vec {p : Int} {S : List Int} (hp : 0 < p) : ∀ (L : List (List Int)) (v : List Int), isVec p S.length v = true → isVec p S.length (rfB p S L v) = true
  | [], v, h => h
  | u :: L, v, h => rfB_vec hp L _ (rfl_vec7 hp h)
theorem rfB_fix {p : Int} {S : List Int} (hp : prm p = true) {v : List Int} (hv : isVec p S.length v = true) : ∀ (L : List (List Int)), (∀ u, u ∈ L → pairN p S u v = 0) → rfB p S L v = v
  | [], _ => rfl
  | u :: L, h => by
    show rfB p S L (rflM p S u v) = v
    rw [rfl_fix hp hv (h u (List.mem_cons_self ..))]
    exact rfB_fix hp hv L fun x hx => h x (List.mem_cons_of_mem _ hx)
theorem refA_row {p : Int} {S : List Int} {j : Nat} : ∀ (L C : List (List Int)), j < C.length → rw' (refA p S L C) j = rfB p S L (rw' C j)
  | [], _, _ => rfl
  | u :: L, C, h => by
    show rw' (refA p S L (refC p S u C)) j = rfB p S L (rflM p S u (rw' C j))
    rw [refA_row L _ (by rw [ref_len]; exact h), ref_row p S u h]
/-- The columns are orthogonal to each other. -/
def Ort (p : Int) (S : List Int) (C : List (List Int)) : Prop := ∀ i, i < S.length → ∀ j, j < i → pairN p S (rw' C i) (rw' C j) = 0
theorem Ort.ref {p : Int} {S u : List Int} {C : List (List Int)} (h : Ort p S C) (hC : Cols p S C) (hp : prm p = true) (hu : pairN p S u u ≠ 0) : Ort p S (refC p S u C) := fun i hi j hj => by
  rw [ref_row p S u (by rw [hC.len]; exact hi), ref_row p S u (by rw [hC.len]; omega), rfl_pair2 hp (hC.vec i hi) (hC.vec j (by omega)) hu]
  exact h i hi j hj
theorem Ort.refA {p : Int} {S : List Int} (hp : prm p = true) : ∀ (L C : List (List Int)), Ort p S C → Cols p S C → (∀ u, u ∈ L → pairN p S u u ≠ 0) → Ort p S (refA p S L C)
  | [], C, h, _, _ => h
  | u :: L, C, h, hC, hu => Ort.refA hp L (refC p S u C) (h.ref hC hp (hu u (List.mem_cons_self ..))) (hC.ref hp (hu u (List.mem_cons_self ..))) fun v hv => hu v (List.mem_cons_of_mem _ hv)
theorem sm_comm7 {p : Int} {u v : List Int} (h : u.length = v.length) : smM7 p u v = smM7 p v u := by
  unfold smM7
  refine row_ext (by rw [plusR_ln, plusR_ln, h]) fun i hi => ?_
  rw [plusR_ln] at hi
  rw [plusR_at _ _ _ _ hi, plusR_at _ _ _ _ (by rw [h]; exact hi), Int.one_mul, Int.one_mul, Int.add_comm]
theorem st_leads {p : Int} {S w : List Int} {i : Nat} (hs : isSp p S = true) (hd : discN p S ≠ 0) (hi : i < S.length) (hw : isVec p S.length w = true) (hn : pairN p S w w = S.getD i 0) : rfB p S (stV p S w i) w = eiR S.length i := by
  have hp := (isSp_iff.1 hs).prime
  have hb := prm_bd hp
  have he := ei_vec (p := p) (by omega) S.length i
  have hwl := (isVec_iff.1 hw).len
  have hel := (isVec_iff.1 he).len
  have hen := ei_norm hs hi
  have hnz := reg_nz hs hd hi
  have heq : pairN p S (eiR S.length i) (eiR S.length i) = pairN p S w w := by rw [hen, hn]
  have hok := st_ok hs hd hi hw hn
  by_cases h1 : w = eiR S.length i
  · rw [st_same h1]; exact h1
  · by_cases h2 : pairN p S (dfM p (eiR S.length i) w) (dfM p (eiR S.length i) w) = 0
    · rw [st_more h1 h2] at hok ⊢
      have hsv := hok (smM7 p (eiR S.length i) w) (List.mem_cons_self ..)
      have h2' : pairN p S (dfM p w (eiR S.length i)) (dfM p w (eiR S.length i)) = 0 := by
        rw [(df_norm hwl hel heq.symm).1, pairN_comm p S w, ← heq, ← (df_norm hel hwl heq).1]; exact h2
      have h3 := (between_s hs hw he heq.symm (by rw [hn]; exact hnz) h2').2
      rw [sm_comm7 (by rw [hwl, hel])] at h3
      rw [sd_vr hs (fun j hj => by
          rcases (show j = 0 ∨ j = 1 by omega) with rfl | rfl
          · exact he
          · exact hsv.1) (fun j hj => by
          rcases (show j = 0 ∨ j = 1 by omega) with rfl | rfl
          · show pairN p S (eiR S.length i) (eiR S.length i) ≠ 0
            rw [hen]; exact hnz
          · exact hsv.2) hw] at h3
      exact h3
    · rw [st_less h1 h2]
      have hdv : isVec p S.length (dfM p (eiR S.length i) w) = true := plus_vec (by omega) _ hwl
      have h3 := (between_d hs he hw heq h2).2
      rw [← vr_single hs hdv, sd_vr hs (fun j hj => by rw [show j = 0 by omega]; exact hdv) (fun j hj => by rw [show j = 0 by omega]; exact h2) he] at h3
      have h4 : rflM p S (dfM p (eiR S.length i) w) (eiR S.length i) = w := h3
      show rflM p S (dfM p (eiR S.length i) w) w = _
      obtain ⟨d, hd'⟩ : ∃ d, d = dfM p (eiR S.length i) w := ⟨_, rfl⟩
      rw [← hd'] at h4 h2 ⊢
      rw [← h4]
      exact rfl_twice hp he h2
theorem st_orth {p : Int} {S w v : List Int} {i : Nat} (hw : w.length = S.length) (h1 : pairN p S w v = 0) (h2 : pairN p S (eiR S.length i) v = 0) : ∀ u, u ∈ stV p S w i → pairN p S u v = 0 := by
  have hk : ∀ k, pairN p S (plusR p w (eiR S.length i) k) v = 0 := fun k => by rw [pairN_lin hw, h1, h2]; simp
  intro u hu
  by_cases c1 : w = eiR S.length i
  · rw [st_same c1] at hu; cases hu
  · by_cases c2 : pairN p S (dfM p (eiR S.length i) w) (dfM p (eiR S.length i) w) = 0
    · rw [st_more c1 c2] at hu
      rcases List.mem_cons.1 hu with rfl | hu
      · exact hk 1
      · rcases List.mem_cons.1 hu with rfl | hu
        · exact h2
        · cases hu
    · rw [st_less c1 c2] at hu
      rcases List.mem_cons.1 hu with rfl | hu
      · exact hk (p - 1)
      · cases hu
theorem dc_done {p : Int} {S : List Int} {C : List (List Int)} (hs : isSp p S = true) (hd : discN p S ≠ 0) (hC : Cols p S C) (ho : Ort p S C) : ∀ k, k ≤ S.length → Ort p S (dcC p S C k) ∧ ∀ j, j < k → rw' (dcC p S C k) j = eiR S.length j
  | 0, _ => ⟨ho, fun j hj => by omega⟩
  | k + 1, hk => by
    have hp := (isSp_iff.1 hs).prime
    have hb := prm_bd hp
    obtain ⟨h1, h2⟩ := dc_done hs hd hC ho k (by omega)
    have h3 := Cols.dc hs hd hC k (by omega)
    have hok := st_ok hs hd (show k < S.length by omega) (h3.vec k (by omega)) (h3.nrm k (by omega))
    refine ⟨Ort.refA hp _ _ h1 h3 fun u hu => (hok u hu).2, fun j hj => ?_⟩
    show rw' (refA p S (stV p S (rw' (dcC p S C k) k) k) (dcC p S C k)) j = _
    rw [refA_row _ _ (by rw [h3.len]; omega)]
    by_cases e : j < k
    · rw [h2 j e]
      refine rfB_fix hp (ei_vec (by omega) _ _) _ (st_orth (isVec_iff.1 (h3.vec k (by omega))).len ?_ ?_)
      · rw [← h2 j e]; exact h1 k (by omega) j e
      · have h4 := one_pair hs (i := k) (j := j) (by omega) (by omega)
        rw [ei_row (by omega), ei_row (by omega)] at h4
        rw [h4]; unfold wantF; rw [if_neg (by omega)]
    · rw [show j = k by omega]
      exact st_leads hs hd (by omega) (h3.vec k (by omega)) (h3.nrm k (by omega))
theorem dc_ref {p : Int} {S : List Int} {C : List (List Int)} : ∀ k, dcC p S C k = refA p S (dcL p S C k) C
  | 0 => rfl
  | k + 1 => by
    show refA p S (stV p S (rw' (dcC p S C k) k) k) (dcC p S C k) = refA p S (dcL p S C k ++ stV p S (rw' (dcC p S C k) k) k) C
    generalize stV p S (rw' (dcC p S C k) k) k = V
    unfold refA
    rw [List.foldl_append, dc_ref k]
    rfl
theorem take_row {L : List (List Int)} {k : Nat} (h : k < L.length) : L.take (k + 1) = L.take k ++ [rw' L k] := by
  rw [List.take_add_one, List.getElem?_eq_getElem h]
  simp [rw', List.getD, h]
theorem rfA_back {p : Int} {S : List Int} (hp : prm p = true) {L : List (List Int)} {v : List Int} (hv : isVec p S.length v = true) (hn : ∀ j, j < L.length → pairN p S (rw' L j) (rw' L j) ≠ 0) : ∀ k, k ≤ L.length → rfA p S L k (rfB p S (L.take k) v) = v
  | 0, _ => rfl
  | k + 1, hk => by
    have hb := prm_bd hp
    rw [take_row (by omega)]
    have e : rfB p S (L.take k ++ [rw' L k]) v = rflM p S (rw' L k) (rfB p S (L.take k) v) := by unfold rfB; rw [List.foldl_append]; rfl
    rw [e]
    show rfA p S L k (rflM p S (rw' L k) (rflM p S (rw' L k) (rfB p S (L.take k) v))) = v
    rw [rfl_twice hp (rfB_vec (by omega) _ _ hv) (hn k (by omega))]
    exact rfA_back hp hv hn k (by omega)
theorem or_ort {p : Int} {S : List Int} {m : List (List Int)} (h : orB p S m = true) : Ort p S (trM m) := fun i hi j hj => by
  rw [colB_iff.1 (orB_all h).2.2.2.2 i hi j (by omega)]; unfold wantF; rw [if_neg (by omega)]
theorem mem_of {L : List (List Int)} {i : Nat} (hi : i < L.length) : rw' L i ∈ L := by
  unfold rw'
  rw [List.getD_eq_getElem?_getD, List.getElem?_eq_getElem hi]
  exact List.getElem_mem hi
/-- The versor of the decomposition leads the basis vectors to the columns. -/
theorem dec_sd {p : Int} {S : List Int} {m : List (List Int)} (hs : isSp p S = true) (hd : discN p S ≠ 0) (ho : orB p S m = true) {j : Nat} (hj : j < S.length) : sdM p S (vrM p S (decL p S m) (decL p S m).length) (eiR S.length j) = rw' (trM m) j := by
  have hp := (isSp_iff.1 hs).prime
  have hb := prm_bd hp
  have hok := (dec_ok hs hd ho).1
  have hC := or_cols hs ho
  rw [sd_vr hs (fun j hj => (hok _ (mem_of hj)).1) (fun j hj => (hok _ (mem_of hj)).2) (ei_vec (by omega) _ _)]
  have h1 := (dc_done hs hd hC (or_ort ho) S.length (Nat.le_refl _)).2 j hj
  rw [dc_ref, refA_row _ _ (by rw [hC.len]; exact hj)] at h1
  have h2 := rfA_back hp (hC.vec j hj) (L := decL p S m) (fun j hj => (hok _ (mem_of hj)).2) (decL p S m).length (Nat.le_refl _)
  rw [List.take_length] at h2
  rw [← h1]
  exact h2
end Go.Proofs.YthbkfpkeofpocaaGreat

namespace Go.Proofs.YthbkfpkeofpocaaGreat
open Go.RowKit
set_option linter.unusedVariables false

/-- More places than values: two have the same. -/
theorem pigeon : ∀ (N : Nat) (f : Nat → Nat), (∀ k, k ≤ N → f k < N) → ∃ i j, i < j ∧ j ≤ N ∧ f i = f j
  | 0, f, h => absurd (h 0 (Nat.le_refl _)) (Nat.not_lt_zero _)
  | N + 1, f, h => by
    by_cases e : ∃ i, i ≤ N ∧ f i = f (N + 1)
    · obtain ⟨i, hi, he⟩ := e
      exact ⟨i, N + 1, by omega, Nat.le_refl _, he⟩
    · have hne : ∀ i, i ≤ N → f i ≠ f (N + 1) := fun i hi he => e ⟨i, hi, he⟩
      obtain ⟨i, j, h1, h2, h3⟩ := pigeon N (fun k => if f (N + 1) < f k then f k - 1 else f k) (fun k hk => by
        have a := h k (by omega); have b := hne k hk; have c := h (N + 1) (Nat.le_refl _)
        show (if f (N + 1) < f k then f k - 1 else f k) < N
        split <;> omega)
      refine ⟨i, j, h1, by omega, ?_⟩
      have a := hne i (by omega); have b := hne j h2
      have h4 : (if f (N + 1) < f i then f i - 1 else f i) = (if f (N + 1) < f j then f j - 1 else f j) := h3
      split at h4 <;> split at h4 <;> omega
/-- The number of a list of digits. -/
def enc (b : Nat) : List Int → Nat
  | [] => 0
  | a :: l => a.toNat + b * enc b l
theorem enc_lt (b : Nat) : ∀ z : List Int, (∀ y, y ∈ z → 0 ≤ y ∧ y < (b : Int)) → enc b z < b ^ z.length
  | [], _ => by simp [enc]
  | a :: l, h => by
    have h1 := h a (by simp)
    have h2 := enc_lt b l (fun y hy => h y (by simp [hy]))
    show a.toNat + b * enc b l < b ^ (l.length + 1)
    have h3 : b * (enc b l + 1) ≤ b * b ^ l.length := Nat.mul_le_mul_left b h2
    rw [Nat.mul_add, Nat.mul_one] at h3
    rw [Nat.pow_succ, Nat.mul_comm (b ^ l.length)]
    omega
theorem enc_inj (b : Nat) : ∀ z z' : List Int, z.length = z'.length → (∀ y, y ∈ z → 0 ≤ y ∧ y < (b : Int)) → (∀ y, y ∈ z' → 0 ≤ y ∧ y < (b : Int)) → enc b z = enc b z' → z = z'
  | [], [], _, _, _, _ => rfl
  | [], _ :: _, h, _, _, _ => by simp at h
  | _ :: _, [], h, _, _, _ => by simp at h
  | a :: l, a' :: l', hl, h, h', e => by
    have h1 := h a (by simp)
    have h2 := h' a' (by simp)
    have e1 : a.toNat + b * enc b l = a'.toNat + b * enc b l' := e
    have hb : 0 < b := by omega
    have e2 : a.toNat = a'.toNat := by
      have := congrArg (· % b) e1
      simp only [Nat.add_mul_mod_self_left] at this
      rwa [Nat.mod_eq_of_lt (by omega), Nat.mod_eq_of_lt (by omega)] at this
    have e3 : enc b l = enc b l' := Nat.eq_of_mul_eq_mul_left hb (by omega)
    rw [enc_inj b l l' (by simpa using hl) (fun y hy => h y (by simp [hy])) (fun y hy => h' y (by simp [hy])) e3, show a = a' by omega]
theorem mv_mem {p : Int} {S z : List Int} (hp : 0 < p) (h : isMv p S z = true) : ∀ y, y ∈ z → 0 ≤ y ∧ y < (p.toNat : Int) := fun y hy => by
  obtain ⟨j, hj, rfl⟩ := List.getElem_of_mem hy
  have h2 := Mv.num h j hj
  rw [getD_at hj] at h2
  omega
/-- Powers come back. -/
theorem mpow_back {p : Int} {S x : List Int} (hs : isSp p S = true) : ∃ a d, 0 < d ∧ mPow p S x a = mPow p S x (a + d) := by
  have hp := prm_bd (isSp_iff.1 hs).prime
  have hm := fun k => mv_mem (p := p) (S := S) (by omega) (mpow_mv (x := x) hs k)
  obtain ⟨i, j, h1, _, h3⟩ := pigeon (p.toNat ^ bl S) (fun k => enc p.toNat (mPow p S x k)) (fun k _ => by
    have h := enc_lt p.toNat (mPow p S x k) (hm k)
    rwa [mpow_len hs] at h)
  refine ⟨i, j - i, by omega, ?_⟩
  rw [show i + (j - i) = j by omega]
  exact enc_inj _ _ _ (by rw [mpow_len hs, mpow_len hs]) (hm i) (hm j) h3
theorem one_r {p : Int} {S z : List Int} (h : isMv p S z = true) : prodM p S z (mOne S) = z := prodM_one_r p S z (Mv.len h) (Mv.num h)
theorem one_l {p : Int} {S z : List Int} (h : isMv p S z = true) : prodM p S (mOne S) z = z := prodM_one_l p S z (Mv.len h) (Mv.num h)
theorem cancel_pow {p : Int} {S x y : List Int} (hs : isSp p S = true) (hxy : prodM p S x y = mOne S) : ∀ (a : Nat) (u v : List Int), isMv p S u = true → isMv p S v = true → prodM p S u (mPow p S x a) = prodM p S v (mPow p S x a) → u = v
  | 0, u, v, hu, hv, h => by
    have h2 : prodM p S u (mOne S) = prodM p S v (mOne S) := h
    rwa [one_r hu, one_r hv] at h2
  | a + 1, u, v, hu, hv, h => by
    have h2 : prodM p S u (prodM p S (mPow p S x a) x) = prodM p S v (prodM p S (mPow p S x a) x) := h
    rw [← prodM_assoc, ← prodM_assoc] at h2
    have h3 := congrArg (fun z => prodM p S z y) h2
    simp only [prodM_assoc, hxy] at h3
    rw [one_r (mpow_mv hs a)] at h3
    exact cancel_pow hs hxy a u v hu hv h3
/-- An inverse behind is one ahead. -/
theorem inv_both {p : Int} {S x y : List Int} (hs : isSp p S = true) (hy : isMv p S y = true) (hxy : prodM p S x y = mOne S) : prodM p S y x = mOne S := by
  obtain ⟨a, d, hd, he⟩ := mpow_back (x := x) hs
  have h1 : mPow p S x d = mOne S := by
    symm
    apply cancel_pow hs hxy a _ _ (one_mv hs) (mpow_mv hs d)
    rw [one_l (mpow_mv hs a), mpow_add hs, Nat.add_comm d a]
    exact he
  obtain ⟨e, rfl⟩ : ∃ e, d = e + 1 := ⟨d - 1, by omega⟩
  have h2 : prodM p S (mPow p S x e) x = mOne S := h1
  have h3 : y = mPow p S x e := by
    rw [← one_l hy, ← h2, prodM_assoc, hxy, one_r (mpow_mv hs e)]
  rw [h3]; exact h2

end Go.Proofs.YthbkfpkeofpocaaGreat

namespace Go.Proofs.YthbkfpkeofpocaaGreat
open Go.RowKit
set_option linter.unusedVariables false

def turns : Bool := (List.range 7).all fun n => (List.range (2 ^ n)).all fun a => (List.range n).all fun i => !(a / 2 ^ i % 2 == 1) || ((c_involution (gr a) + sgn a (2 ^ i) n) % 2 != sgn (2 ^ i) a n % 2)
set_option maxRecDepth 100000 in
theorem turns_all : turns = true := by decide +kernel
theorem turns_at {n a i : Nat} (hn : n ≤ 6) (ha : a < 2 ^ n) (hi : i < n) (h : a / 2 ^ i % 2 = 1) : (c_involution (gr a) + sgn a (2 ^ i) n) % 2 ≠ sgn (2 ^ i) a n % 2 := by
  have h0 := turns_all
  unfold turns at h0
  rw [List.all_eq_true] at h0
  have h1 := h0 n (List.mem_range.2 (by omega))
  rw [List.all_eq_true] at h1
  have h2 := h1 a (List.mem_range.2 ha)
  rw [List.all_eq_true] at h2
  have h3 := h2 i (List.mem_range.2 hi)
  simpa [h] using h3
theorem pow_bit (i n : Nat) : 2 ^ i / 2 ^ n % 2 = if i = n then 1 else 0 := by
  rcases Nat.lt_trichotomy i n with h | h | h
  · rw [if_neg (by omega), Nat.div_eq_of_lt (Nat.pow_lt_pow_right (by decide) h)]
  · subst h; rw [if_pos rfl, Nat.div_self (Nat.two_pow_pos i)]
  · obtain ⟨k, rfl⟩ : ∃ k, i = n + (k + 1) := ⟨i - n - 1, by omega⟩
    rw [if_neg (by omega), Nat.pow_add, Nat.mul_div_cancel_left _ (Nat.two_pow_pos n), Nat.pow_succ, Nat.mul_mod_left]
theorem shr_pow (S : List Int) {a i : Nat} (ha : a / 2 ^ i % 2 = 1) : ∀ n, shr S a (2 ^ i) n = if i < n then S.getD i 0 else 1
  | 0 => by rw [if_neg (by omega)]; rfl
  | n + 1 => by
    simp only [shr]
    rw [shr_pow S ha n, pow_bit]
    by_cases h : i = n
    · subst h; rw [if_neg (Nat.lt_irrefl _), if_pos rfl, if_pos ⟨rfl, ha⟩, if_pos (Nat.lt_succ_self _), Int.one_mul]
    · rw [if_neg h, if_neg (show ¬ ((0 : Nat) = 1 ∧ a / 2 ^ n % 2 = 1) from fun k => absurd k.1 (by decide)), Int.mul_one]
      by_cases h2 : i < n
      · rw [if_pos h2, if_pos (show i < n + 1 by omega)]
      · rw [if_neg h2, if_neg (show ¬ i < n + 1 by omega)]
theorem e_at {S : List Int} {i b : Nat} (hi : i < S.length) (hb : b < bl S) : (vecM S (eiR S.length i)).getD b 0 = if b = 2 ^ i then 1 else 0 := by
  have hl : (eiR S.length i).length = S.length := mkR_len _ _
  by_cases h : ∃ j, j < S.length ∧ b = 2 ^ j
  · obtain ⟨j, hj, rfl⟩ := h
    rw [vecM_pow hl hj]
    unfold eiR
    rw [mkR_at _ hj]
    by_cases e : i = j
    · subst e; rw [if_pos rfl, if_pos rfl]
    · rw [if_neg e, if_neg (fun k => e ((Nat.pow_right_inj (by decide)).1 k).symm)]
  · rw [vecM_off hl hb (fun j hj k => h ⟨j, hj, k⟩), if_neg (fun k => h ⟨i, hi, k⟩)]
theorem gpz_e_r (S : List Int) (n : Nat) (x y : Nat → Int) {i d : Nat} (hd : d < 2 ^ n) (hi : 2 ^ i < 2 ^ n) (hy : ∀ b, b < 2 ^ n → y b = if b = 2 ^ i then 1 else 0) : gpz S n x y d = x (d ^^^ 2 ^ i) * fz S (d ^^^ 2 ^ i) (2 ^ i) n := by
  unfold gpz
  have h : ∀ a, a < 2 ^ n → x a * fz S a (a ^^^ d) n * y (a ^^^ d) = if a = d ^^^ 2 ^ i then x (d ^^^ 2 ^ i) * fz S (d ^^^ 2 ^ i) (2 ^ i) n else 0 := fun a ha => by
    rw [hy _ (Nat.xor_lt_two_pow ha hd)]
    by_cases e : a = d ^^^ 2 ^ i
    · have e2 : a ^^^ d = 2 ^ i := by rw [e, Nat.xor_comm d, Nat.xor_assoc, Nat.xor_self, Nat.xor_zero]
      rw [if_pos e, if_pos e2, e2, Int.mul_one, ← e]
    · have e2 : ¬ a ^^^ d = 2 ^ i := fun k => e (by rw [← k, Nat.xor_comm a d, ← Nat.xor_assoc, Nat.xor_self, Nat.zero_xor])
      rw [if_neg e, if_neg e2, Int.mul_zero]
  rw [sm_congr h, sm_single, if_pos (Nat.xor_lt_two_pow hd hi)]
theorem gpz_e_l (S : List Int) (n : Nat) (x y : Nat → Int) {i d : Nat} (hd : d < 2 ^ n) (hi : 2 ^ i < 2 ^ n) (hx : ∀ b, b < 2 ^ n → x b = if b = 2 ^ i then 1 else 0) : gpz S n x y d = fz S (2 ^ i) (d ^^^ 2 ^ i) n * y (d ^^^ 2 ^ i) := by
  unfold gpz
  have h : ∀ a, a < 2 ^ n → x a * fz S a (a ^^^ d) n * y (a ^^^ d) = if a = 2 ^ i then fz S (2 ^ i) (d ^^^ 2 ^ i) n * y (d ^^^ 2 ^ i) else 0 := fun a ha => by
    rw [hx _ ha]
    by_cases e : a = 2 ^ i
    · rw [if_pos e, if_pos e, Int.one_mul, e, Nat.xor_comm (2 ^ i) d]
    · rw [if_neg e, if_neg e, Int.zero_mul, Int.zero_mul]
  rw [sm_congr h, sm_single, if_pos hi]
theorem two_no {p s z : Int} (hp : prm p = true) (s0 : 0 ≤ s) (s1 : s < p) (z0 : 0 ≤ z) (z1 : z < p) (hs : s ≠ 0) (h : (2 * (z * s)) % p = 0) : z = 0 := by
  have h2 := every2_at (Q := fun p s z => decide (s ≠ 0 → (2 * (z * s)) % p = 0 → z = 0)) (by decide +kernel) hp s0 s1 z0 z1
  simp only [decide_eq_true_eq] at h2
  exact h2 hs h
theorem eps_both (k : Nat) : (k % 2 = 0 ∧ eps k = 1) ∨ (k % 2 = 1 ∧ eps k = -1) := by
  unfold eps
  rcases Nat.mod_two_eq_zero_or_one k with h | h
  · exact .inl ⟨h, by rw [if_neg (by omega)]⟩
  · exact .inr ⟨h, by rw [if_pos h]⟩
theorem neg_no {p t : Int} (h : (-t) % p = t % p) : (2 * t) % p = 0 := by
  have := (Int.emod_eq_emod_iff_emod_sub_eq_zero (m := t) (n := p) (k := -t)).1 h.symm
  rw [show t - -t = 2 * t by omega] at this
  exact this
/-- What commutes, twisted, with the basis vector i has no blade with it. -/
theorem tw_zero {p : Int} {S z : List Int} (hs : isSp p S = true) (hd : discN p S ≠ 0) (hz : isMv p S z = true) {i c : Nat} (hi : i < S.length) (hc : c < bl S) (hb : c / 2 ^ i % 2 = 1) (h : prodM p S (ivM p z) (vecM S (eiR S.length i)) = prodM p S (vecM S (eiR S.length i)) z) : z.getD c 0 = 0 := by
  have hp := (isSp_iff.1 hs).prime
  have h6 := (isSp_iff.1 hs).hi
  have hpb := prm_bd hp
  have hzl := Mv.len hz
  have hcn : c < 2 ^ S.length := hc
  have hin : 2 ^ i < 2 ^ S.length := Nat.pow_lt_pow_right (by decide) hi
  have hdl : c ^^^ 2 ^ i < 2 ^ S.length := Nat.xor_lt_two_pow hcn hin
  have hdd : c ^^^ 2 ^ i ^^^ 2 ^ i = c := by rw [Nat.xor_assoc, Nat.xor_self, Nat.xor_zero]
  have e := congrArg (fun x => x.getD (c ^^^ 2 ^ i) 0) h
  rw [prodM_at p S _ _ (show c ^^^ 2 ^ i < bl S from hdl), prodM_at p S _ _ (show c ^^^ 2 ^ i < bl S from hdl)] at e
  unfold prodF at e
  rw [gpz_e_r S S.length _ _ hdl hin (fun b hb => e_at hi hb), gpz_e_l S S.length _ _ hdl hin (fun b hb => e_at hi hb), hdd] at e
  have hzc := Mv.num hz c (by rw [hzl]; exact hc)
  have ei : (ivM p z).getD c 0 = eps (c_involution (gr c)) * z.getD c 0 % p := by
    unfold ivM
    rw [mkR_at _ (by rw [hzl]; exact hc), sgR_eq hzc]
  rw [ei, fz_split, fz_split, shr_comm S (2 ^ i) c, shr_pow S hb, if_pos hi, Int.mul_emod, Int.emod_emod, ← Int.mul_emod] at e
  obtain ⟨s, es⟩ : ∃ s, s = S.getD i 0 := ⟨_, rfl⟩
  obtain ⟨t, et⟩ : ∃ t, t = z.getD c 0 := ⟨_, rfl⟩
  have hsb := (isSp_iff.1 hs).num hi
  have hsn : s ≠ 0 := fun k => hd ((disN_zero hp (i := S.length) (fun j hj => (isSp_iff.1 hs).num hj)).2 ⟨i, hi, by rw [← es]; exact k⟩)
  rw [← es] at e hsb
  rw [← et] at e hzc ⊢
  have e1 : eps (c_involution (gr c)) * t * (eps (sgn c (2 ^ i) S.length) * s) = eps (c_involution (gr c) + sgn c (2 ^ i) S.length) * (t * s) := by rw [eps_add]; ac_rfl
  have e2 : eps (sgn (2 ^ i) c S.length) * s * t = eps (sgn (2 ^ i) c S.length) * (t * s) := by ac_rfl
  rw [e1, e2] at e
  have hne := turns_at h6 hcn hi hb
  refine two_no hp hsb.1 hsb.2 hzc.1 hzc.2 hsn ?_
  rcases eps_both (c_involution (gr c) + sgn c (2 ^ i) S.length) with ⟨m1, f1⟩ | ⟨m1, f1⟩ <;> rcases eps_both (sgn (2 ^ i) c S.length) with ⟨m2, f2⟩ | ⟨m2, f2⟩
  · omega
  · rw [f1, f2, Int.one_mul, Int.neg_one_mul] at e; exact neg_no e.symm
  · rw [f1, f2, Int.one_mul, Int.neg_one_mul] at e; exact neg_no e
  · omega
theorem some_bit {n c : Nat} (hc : c < 2 ^ n) (h0 : c ≠ 0) : ∃ i, i < n ∧ c / 2 ^ i % 2 = 1 := by
  refine Classical.byContradiction fun h => h0 (Nat.eq_of_testBit_eq fun i => ?_)
  rw [Nat.zero_testBit, Nat.testBit_eq_decide_div_mod_eq]
  refine decide_eq_false fun k => ?_
  by_cases hi : i < n
  · exact h ⟨i, hi, k⟩
  · rw [Nat.div_eq_of_lt (Nat.lt_of_lt_of_le hc (Nat.pow_le_pow_right (by decide) (by omega)))] at k
    cases k
theorem tw_num {p : Int} {S z : List Int} (hs : isSp p S = true) (hd : discN p S ≠ 0) (hz : isMv p S z = true) (h : ∀ i, i < S.length → prodM p S (ivM p z) (vecM S (eiR S.length i)) = prodM p S (vecM S (eiR S.length i)) z) : z = unitR S (z.getD 0 0) := by
  have hzl := Mv.len hz
  refine row_ext (by unfold unitR; rw [hzl, mkR_len]) fun c hc => ?_
  rw [hzl] at hc
  rw [unit_at _ _ hc]
  by_cases h0 : c = 0
  · rw [if_pos h0, h0]
  · rw [if_neg h0]
    obtain ⟨i, hi, hb⟩ := some_bit hc h0
    exact tw_zero hs hd hz hi hc hb (h i hi)
theorem vec_scl {p k : Int} {S v : List Int} (hv : v.length = S.length) : vecM S (sclV p v k) = sclV p (vecM S v) k := by
  have hl : (sclV p v k).length = S.length := by rw [sclV_len, hv]
  refine row_ext (by rw [vecM_len, sclV_len, vecM_len]) fun c hc => ?_
  rw [vecM_len] at hc
  have er : (sclV p (vecM S v) k).getD c 0 = (vecM S v).getD c 0 * k % p := by unfold sclV; exact mkR_at _ (by rw [vecM_len]; exact hc)
  rw [er]
  by_cases h : ∃ j, j < S.length ∧ c = 2 ^ j
  · obtain ⟨j, hj, rfl⟩ := h
    rw [vecM_pow hl hj, vecM_pow hv hj]
    unfold sclV
    exact mkR_at _ (by rw [hv]; exact hj)
  · rw [vecM_off hl hc (fun j hj k => h ⟨j, hj, k⟩), vecM_off hv hc (fun j hj k => h ⟨j, hj, k⟩), Int.zero_mul, Int.zero_emod]
/-- A versor passes a vector, which its sandwich then leads. -/
theorem vr_pass {p : Int} {S : List Int} (hs : isSp p S = true) {m : List (List Int)} {k : Nat} (hm : ∀ j, j < k → isVec p S.length (rw' m j) = true) (hn : ∀ j, j < k → pairN p S (rw' m j) (rw' m j) ≠ 0) {v : List Int} (hv : isVec p S.length v = true) :
    prodM p S (ivM p (vrM p S m k)) (vecM S v) = prodM p S (vecM S (sdM p S (vrM p S m k) v)) (vrM p S m k) := by
  have hp := (isSp_iff.1 hs).prime
  have hpb := prm_bd hp
  have hx := vr_mv hs m k
  have h1 : prodM p S (prodM p S (ivM p (vrM p S m k)) (vecM S v)) (viM p S (vrM p S m k)) = vecM S (sdM p S (vrM p S m k) v) := by
    unfold viM
    rw [prod_scl _ _ _ _ _ (Mv.len (rev_mv hs hx))]
    show sclV p (arM p S (vrM p S m k) v) _ = _
    rw [ar_vr hs m k hm v hv, sd_vr hs hm hn hv, rf_wA hs m k hn v hv, nrF_vr hs hm, vec_scl (isVec_iff.1 (wA_vec (by omega) m k v hv)).len]
  have h2 : prodM p S (viM p S (vrM p S m k)) (vrM p S m k) = mOne S := inv_both hs (vi_mv hs hx) (vi_vr hs hm hn)
  have hq := prod_mv hs (ivM p (vrM p S m k)) (vecM S v)
  rw [← h1, prodM_assoc, h2]
  exact (prodM_one_r p S _ (Mv.len hq) (Mv.num hq)).symm
/-- Products of vectors with the same sandwich are multiples of each other. -/
theorem vr_mult {p : Int} {S : List Int} (hs : isSp p S = true) (hd : discN p S ≠ 0) {m m' : List (List Int)} {k k' : Nat} (hm : ∀ j, j < k → isVec p S.length (rw' m j) = true) (hn : ∀ j, j < k → pairN p S (rw' m j) (rw' m j) ≠ 0) (hm' : ∀ j, j < k' → isVec p S.length (rw' m' j) = true) (hn' : ∀ j, j < k' → pairN p S (rw' m' j) (rw' m' j) ≠ 0)
    (h : ∀ i, i < S.length → sdM p S (vrM p S m k) (eiR S.length i) = sdM p S (vrM p S m' k') (eiR S.length i)) : ∃ c, 0 ≤ c ∧ c < p ∧ c ≠ 0 ∧ vrM p S m k = sclV p (vrM p S m' k') c := by
  have hp := (isSp_iff.1 hs).prime
  have hpb := prm_bd hp
  have hx := vr_mv hs m k
  have hy := vr_mv hs m' k'
  obtain ⟨x, ex⟩ : ∃ x, x = vrM p S m k := ⟨_, rfl⟩
  obtain ⟨y, ey⟩ : ∃ y, y = vrM p S m' k' := ⟨_, rfl⟩
  have hpx := fun v hv => vr_pass hs hm hn (v := v) hv
  have hpy := fun v hv => vr_pass hs hm' hn' (v := v) hv
  have hyi := vi_vr hs hm' hn'
  have hxi := vi_vr hs hm hn
  rw [← ex] at hx hpx h hxi ⊢
  rw [← ey] at hy hpy h hyi ⊢
  have hiy := vi_mv hs hy
  have hyi2 : prodM p S (viM p S y) y = mOne S := inv_both hs hiy hyi
  obtain ⟨z, ez⟩ : ∃ z, z = prodM p S (viM p S y) x := ⟨_, rfl⟩
  have hz : isMv p S z = true := by rw [ez]; exact prod_mv hs _ _
  have hyz : prodM p S y z = x := by rw [ez, ← prodM_assoc, hyi]; exact prodM_one_l p S x (Mv.len hx) (Mv.num hx)
  have hinv : ∀ a b, isMv p S a = true → isMv p S b = true → prodM p S (ivM p a) (ivM p b) = ivM p (prodM p S a b) := fun a b ha hb => inv_prod (by omega) (Mv.len ha) (Mv.len hb) (Mv.num ha) (Mv.num hb)
  have hcan : ∀ a, isMv p S a = true → prodM p S (ivM p (viM p S y)) (prodM p S (ivM p y) a) = a := fun a ha => by
    rw [← prodM_assoc, hinv _ _ hiy hy, hyi2, iv_one]
    exact prodM_one_l p S a (Mv.len ha) (Mv.num ha)
  have ht : ∀ i, i < S.length → prodM p S (ivM p z) (vecM S (eiR S.length i)) = prodM p S (vecM S (eiR S.length i)) z := fun i hi => by
    have hv := ei_vec (p := p) (by omega) S.length i
    rw [← hcan _ (prod_mv hs (ivM p z) (vecM S (eiR S.length i))), ← hcan _ (prod_mv hs (vecM S (eiR S.length i)) z)]
    congr 1
    rw [← prodM_assoc p S (ivM p y) (ivM p z), hinv _ _ hy hz, hyz, hpx _ hv, h i hi, ← prodM_assoc p S (ivM p y) _ z, hpy _ hv, prodM_assoc p S _ y z, hyz]
  have hu := tw_num hs hd hz ht
  have hc := Mv.num hz 0 (by rw [Mv.len hz]; exact Nat.two_pow_pos _)
  have hxy : x = sclV p y (z.getD 0 0) := by
    rw [← hyz]
    refine Eq.trans (congrArg (prodM p S y) hu) ?_
    exact prod_unit hy hc.1 hc.2
  refine ⟨z.getD 0 0, hc.1, hc.2, fun k0 => ?_, hxy⟩
  rw [k0] at hxy
  have h0 := hxi
  rw [hxy, prod_scl_l _ _ _ _ _ (Mv.len hy)] at h0
  have e := congrArg (fun x => x.getD 0 0) h0
  have hb : 0 < bl S := Nat.two_pow_pos _
  have e1 : (mOne S).getD 0 0 = 1 := by unfold mOne; rw [mkR_at _ hb]; rfl
  have e2 : ∀ w : List Int, w.length = bl S → (sclV p w 0).getD 0 0 = 0 := fun w hw => by unfold sclV; rw [mkR_at _ (by rw [hw]; exact hb), Int.mul_zero, Int.zero_emod]
  rw [e2 _ (prodM_len _ _ _ _), e1] at e
  cases e

end Go.Proofs.YthbkfpkeofpocaaGreat
