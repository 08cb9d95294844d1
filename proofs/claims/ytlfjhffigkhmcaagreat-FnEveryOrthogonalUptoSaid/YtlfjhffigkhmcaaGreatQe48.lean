/-
  Orthogonal matrices: the reflections of the decomposition make the matrix; its versor has it as its matrix. No Go in sight.
  No conditions.
-/
import Derived.Test.YtlfjhffigkhmcaaGreatQe34
import Derived.Test.YtlfjhffigkhmcaaGreatQe44
import Derived.Test.YtlfjhffigkhmcaaGreatQe47
namespace Go.Proofs.YtlfjhffigkhmcaaGreat
set_option linter.unusedVariables false

theorem rfl_fix {p : Int} {S u v : List Int} (hp : prm p = true) (hv : isVec p S.length v = true) (h : pairN p S u v = 0) : rflM p S u v = v := by
  have hb := prm_bd hp
  have hl := (isVec_iff.1 hv).len
  have e : rfK p 0 (pairN p S u u) = 0 := by unfold rfK; simp
  unfold rflM
  rw [h, e]
  refine row_ext (plusR_ln _ _ _ _) fun i hi => ?_
  rw [plusR_ln] at hi
  have h1 := (isVec_iff.1 hv).num (by rw [← hl]; exact hi)
  rw [plusR_at _ _ _ _ hi, Int.zero_mul, Int.add_zero, Int.emod_eq_of_lt h1.1 h1.2]
theorem rfl_twice {p : Int} {S u v : List Int} (hp : prm p = true) (hv : isVec p S.length v = true) (h0 : pairN p S u u ≠ 0) : rflM p S u (rflM p S u v) = v := by
  have hb := prm_bd hp
  have hl := (isVec_iff.1 hv).len
  have hA := pairN_bd7 (p := p) (S := S) (u := u) (v := v) (by omega)
  have hN := pairN_bd7 (p := p) (S := S) (u := u) (v := u) (by omega)
  have e : pairN p S u (rflM p S u v) = (pairN p S u v + rfK p (pairN p S u v) (pairN p S u u) * pairN p S u u) % p := by
    unfold rflM
    rw [pairN_comm p S u (plusR _ _ _ _), pairN_lin hl, pairN_comm p S v u]
  have h2 := every2_at (Q := fun p A N => decide (N ≠ 0 → (rfK p A N + rfK p ((A + rfK p A N * N) % p) N) % p = 0)) (by decide +kernel) hp hA.1 hA.2 hN.1 hN.2
  simp only [decide_eq_true_eq] at h2
  have h3 := h2 h0
  rw [← e] at h3
  show plusR p (rflM p S u v) u (rfK p (pairN p S u (rflM p S u v)) (pairN p S u u)) = v
  obtain ⟨k', hk'⟩ : ∃ k', k' = rfK p (pairN p S u (rflM p S u v)) (pairN p S u u) := ⟨_, rfl⟩
  rw [← hk'] at h3 ⊢
  unfold rflM
  refine row_ext (by rw [plusR_ln, plusR_ln]) fun i hi => ?_
  rw [plusR_ln, plusR_ln] at hi
  have h1 := (isVec_iff.1 hv).num (by rw [← hl]; exact hi)
  rw [plusR_at _ _ _ _ (by rw [plusR_ln]; exact hi), plusR_at _ _ _ _ hi, Int.emod_add_emod, Int.add_assoc, ← Int.add_mul, Int.add_emod, ← el_mod (_ + _), h3, Int.zero_mul, Int.zero_emod, Int.add_zero, Int.emod_emod, Int.emod_eq_of_lt h1.1 h1.2]
theorem rfl_pair2 {p : Int} {S u v w : List Int} (hp : prm p = true) (hv : isVec p S.length v = true) (hw : isVec p S.length w = true) (h0 : pairN p S u u ≠ 0) : pairN p S (rflM p S u v) (rflM p S u w) = pairN p S v w := by
  have hb := prm_bd hp
  have hl := (isVec_iff.1 hv).len
  have hl2 := (isVec_iff.1 hw).len
  have hA := pairN_bd7 (p := p) (S := S) (u := u) (v := v) (by omega)
  have hB := pairN_bd7 (p := p) (S := S) (u := u) (v := w) (by omega)
  have hN := pairN_bd7 (p := p) (S := S) (u := u) (v := u) (by omega)
  have hX := pairN_bd7 (p := p) (S := S) (u := v) (v := w) (by omega)
  unfold rflM
  rw [pairN_lin hl, pairN_comm p S v (plusR _ _ _ _), pairN_comm p S u (plusR _ _ _ _), pairN_lin hl2, pairN_lin hl2, pairN_comm p S w v, pairN_comm p S w u]
  obtain ⟨A, eA⟩ : ∃ A, A = pairN p S u v := ⟨_, rfl⟩
  obtain ⟨B, eB⟩ : ∃ A, A = pairN p S u w := ⟨_, rfl⟩
  obtain ⟨N, eN⟩ : ∃ A, A = pairN p S u u := ⟨_, rfl⟩
  obtain ⟨X, eX⟩ : ∃ A, A = pairN p S v w := ⟨_, rfl⟩
  rw [← eA] at hA ⊢
  rw [← eB] at hB ⊢
  rw [← eN] at hN h0 ⊢
  rw [← eX] at hX ⊢
  clear eA eB eN eX
  have h2 := every2_at (Q := fun p A N => (List.range 13).all fun b => decide (N ≠ 0 → (rfK p (b : Int) N * A + rfK p A N * (((b : Int) + rfK p (b : Int) N * N) % p)) % p = 0)) (by decide +kernel) hp hA.1 hA.2 hN.1 hN.2
  rw [List.all_eq_true] at h2
  have h3 := h2 B.toNat (List.mem_range.2 (by omega))
  simp only [decide_eq_true_eq] at h3
  rw [show ((B.toNat : Nat) : Int) = B by omega] at h3
  have h4 := h3 h0
  rw [Int.emod_add_emod, Int.add_assoc, Int.add_emod, h4, Int.add_zero, Int.emod_emod, Int.emod_eq_of_lt hX.1 hX.2]
/-- The reflections in the rows of a list, the first one first. -/
def rfB (p : Int) (S : List Int) (L : List (List Int)) (v : List Int) : List Int := L.foldl (fun v u => rflM p S u v) v
theorem rfB_vec {p : Int} {S : List Int} (hp : 0 < p) : ∀ (L : List (List Int)) (v : List Int), isVec p S.length v = true → isVec p S.length (rfB p S L v) = true
  | [], v, h => h
  | u :: L, v, h => rfB_vec hp L _ (rfl_vec7 hp h)
theorem rfB_fix {p : Int} {S : List Int} (hp : prm p = true) {v : List Int} (hv : isVec p S.length v = true) : ∀ (L : List (List Int)), (∀ u, u ∈ L → pairN p S u v = 0) → rfB p S L v = v
  | [], _ => rfl
  | u :: L, h => by
    show rfB p S L (rflM p S u v) = v
    rw [rfl_fix hp hv (h u (List.mem_cons_self ..))]
    exact rfB_fix hp hv L fun x hx => h x (List.mem_cons_of_mem _ hx)
theorem refA_row {p : Int} {S : List Int} {j : Nat} : ∀ (L C : List (List Int)), j < C.length → rw' (refA p S L C) j = rfB p S L (rw' C j)
  | [], _, _ => rfl
  | u :: L, C, h => by
    show rw' (refA p S L (refC p S u C)) j = rfB p S L (rflM p S u (rw' C j))
    rw [refA_row L _ (by rw [ref_len]; exact h), ref_row p S u h]
/-- The columns are orthogonal to each other. -/
def Ort (p : Int) (S : List Int) (C : List (List Int)) : Prop := ∀ i, i < S.length → ∀ j, j < i → pairN p S (rw' C i) (rw' C j) = 0
theorem Ort.ref {p : Int} {S u : List Int} {C : List (List Int)} (h : Ort p S C) (hC : Cols p S C) (hp : prm p = true) (hu : pairN p S u u ≠ 0) : Ort p S (refC p S u C) := fun i hi j hj => by
  rw [ref_row p S u (by rw [hC.len]; exact hi), ref_row p S u (by rw [hC.len]; omega), rfl_pair2 hp (hC.vec i hi) (hC.vec j (by omega)) hu]
  exact h i hi j hj
theorem Ort.refA {p : Int} {S : List Int} (hp : prm p = true) : ∀ (L C : List (List Int)), Ort p S C → Cols p S C → (∀ u, u ∈ L → pairN p S u u ≠ 0) → Ort p S (refA p S L C)
  | [], C, h, _, _ => h
  | u :: L, C, h, hC, hu => Ort.refA hp L (refC p S u C) (h.ref hC hp (hu u (List.mem_cons_self ..))) (hC.ref hp (hu u (List.mem_cons_self ..))) fun v hv => hu v (List.mem_cons_of_mem _ hv)
theorem sm_comm7 {p : Int} {u v : List Int} (h : u.length = v.length) : smM7 p u v = smM7 p v u := by
  unfold smM7
  refine row_ext (by rw [plusR_ln, plusR_ln, h]) fun i hi => ?_
  rw [plusR_ln] at hi
  rw [plusR_at _ _ _ _ hi, plusR_at _ _ _ _ (by rw [h]; exact hi), Int.one_mul, Int.one_mul, Int.add_comm]
theorem st_leads {p : Int} {S w : List Int} {i : Nat} (hs : isSp p S = true) (hd : discN p S ≠ 0) (hi : i < S.length) (hw : isVec p S.length w = true) (hn : pairN p S w w = S.getD i 0) : rfB p S (stV p S w i) w = eiR S.length i := by
  have hp := (isSp_iff.1 hs).prime
  have hb := prm_bd hp
  have he := ei_vec (p := p) (by omega) S.length i
  have hwl := (isVec_iff.1 hw).len
  have hel := (isVec_iff.1 he).len
  have hen := ei_norm hs hi
  have hnz := reg_nz hs hd hi
  have heq : pairN p S (eiR S.length i) (eiR S.length i) = pairN p S w w := by rw [hen, hn]
  have hok := st_ok hs hd hi hw hn
  by_cases h1 : w = eiR S.length i
  · rw [st_same h1]; exact h1
  · by_cases h2 : pairN p S (dfM p (eiR S.length i) w) (dfM p (eiR S.length i) w) = 0
    · rw [st_more h1 h2] at hok ⊢
      have hsv := hok (smM7 p (eiR S.length i) w) (List.mem_cons_self ..)
      have h2' : pairN p S (dfM p w (eiR S.length i)) (dfM p w (eiR S.length i)) = 0 := by
        rw [(df_norm hwl hel heq.symm).1, pairN_comm p S w, ← heq, ← (df_norm hel hwl heq).1]; exact h2
      have h3 := (between_s hs hw he heq.symm (by rw [hn]; exact hnz) h2').2
      rw [sm_comm7 (by rw [hwl, hel])] at h3
      rw [sd_vr hs (fun j hj => by
          rcases (show j = 0 ∨ j = 1 by omega) with rfl | rfl
          · exact he
          · exact hsv.1) (fun j hj => by
          rcases (show j = 0 ∨ j = 1 by omega) with rfl | rfl
          · show pairN p S (eiR S.length i) (eiR S.length i) ≠ 0
            rw [hen]; exact hnz
          · exact hsv.2) hw] at h3
      exact h3
    · rw [st_less h1 h2]
      have hdv : isVec p S.length (dfM p (eiR S.length i) w) = true := plus_vec (by omega) _ hwl
      have h3 := (between_d hs he hw heq h2).2
      rw [← vr_single hs hdv, sd_vr hs (fun j hj => by rw [show j = 0 by omega]; exact hdv) (fun j hj => by rw [show j = 0 by omega]; exact h2) he] at h3
      have h4 : rflM p S (dfM p (eiR S.length i) w) (eiR S.length i) = w := h3
      show rflM p S (dfM p (eiR S.length i) w) w = _
      obtain ⟨d, hd'⟩ : ∃ d, d = dfM p (eiR S.length i) w := ⟨_, rfl⟩
      rw [← hd'] at h4 h2 ⊢
      rw [← h4]
      exact rfl_twice hp he h2
theorem st_orth {p : Int} {S w v : List Int} {i : Nat} (hw : w.length = S.length) (h1 : pairN p S w v = 0) (h2 : pairN p S (eiR S.length i) v = 0) : ∀ u, u ∈ stV p S w i → pairN p S u v = 0 := by
  have hk : ∀ k, pairN p S (plusR p w (eiR S.length i) k) v = 0 := fun k => by rw [pairN_lin hw, h1, h2]; simp
  intro u hu
  by_cases c1 : w = eiR S.length i
  · rw [st_same c1] at hu; cases hu
  · by_cases c2 : pairN p S (dfM p (eiR S.length i) w) (dfM p (eiR S.length i) w) = 0
    · rw [st_more c1 c2] at hu
      rcases List.mem_cons.1 hu with rfl | hu
      · exact hk 1
      · rcases List.mem_cons.1 hu with rfl | hu
        · exact h2
        · cases hu
    · rw [st_less c1 c2] at hu
      rcases List.mem_cons.1 hu with rfl | hu
      · exact hk (p - 1)
      · cases hu
theorem dc_done {p : Int} {S : List Int} {C : List (List Int)} (hs : isSp p S = true) (hd : discN p S ≠ 0) (hC : Cols p S C) (ho : Ort p S C) : ∀ k, k ≤ S.length → Ort p S (dcC p S C k) ∧ ∀ j, j < k → rw' (dcC p S C k) j = eiR S.length j
  | 0, _ => ⟨ho, fun j hj => by omega⟩
  | k + 1, hk => by
    have hp := (isSp_iff.1 hs).prime
    have hb := prm_bd hp
    obtain ⟨h1, h2⟩ := dc_done hs hd hC ho k (by omega)
    have h3 := Cols.dc hs hd hC k (by omega)
    have hok := st_ok hs hd (show k < S.length by omega) (h3.vec k (by omega)) (h3.nrm k (by omega))
    refine ⟨Ort.refA hp _ _ h1 h3 fun u hu => (hok u hu).2, fun j hj => ?_⟩
    show rw' (refA p S (stV p S (rw' (dcC p S C k) k) k) (dcC p S C k)) j = _
    rw [refA_row _ _ (by rw [h3.len]; omega)]
    by_cases e : j < k
    · rw [h2 j e]
      refine rfB_fix hp (ei_vec (by omega) _ _) _ (st_orth (isVec_iff.1 (h3.vec k (by omega))).len ?_ ?_)
      · rw [← h2 j e]; exact h1 k (by omega) j e
      · have h4 := one_pair hs (i := k) (j := j) (by omega) (by omega)
        rw [ei_row (by omega), ei_row (by omega)] at h4
        rw [h4]; unfold wantF; rw [if_neg (by omega)]
    · rw [show j = k by omega]
      exact st_leads hs hd (by omega) (h3.vec k (by omega)) (h3.nrm k (by omega))
theorem dc_ref {p : Int} {S : List Int} {C : List (List Int)} : ∀ k, dcC p S C k = refA p S (dcL p S C k) C
  | 0 => rfl
  | k + 1 => by
    show refA p S (stV p S (rw' (dcC p S C k) k) k) (dcC p S C k) = refA p S (dcL p S C k ++ stV p S (rw' (dcC p S C k) k) k) C
    generalize stV p S (rw' (dcC p S C k) k) k = V
    unfold refA
    rw [List.foldl_append, dc_ref k]
    rfl
theorem take_row {L : List (List Int)} {k : Nat} (h : k < L.length) : L.take (k + 1) = L.take k ++ [rw' L k] := by
  rw [List.take_add_one, List.getElem?_eq_getElem h]
  simp [rw', List.getD, h]
theorem rfA_back {p : Int} {S : List Int} (hp : prm p = true) {L : List (List Int)} {v : List Int} (hv : isVec p S.length v = true) (hn : ∀ j, j < L.length → pairN p S (rw' L j) (rw' L j) ≠ 0) : ∀ k, k ≤ L.length → rfA p S L k (rfB p S (L.take k) v) = v
  | 0, _ => rfl
  | k + 1, hk => by
    have hb := prm_bd hp
    rw [take_row (by omega)]
    have e : rfB p S (L.take k ++ [rw' L k]) v = rflM p S (rw' L k) (rfB p S (L.take k) v) := by unfold rfB; rw [List.foldl_append]; rfl
    rw [e]
    show rfA p S L k (rflM p S (rw' L k) (rflM p S (rw' L k) (rfB p S (L.take k) v))) = v
    rw [rfl_twice hp (rfB_vec (by omega) _ _ hv) (hn k (by omega))]
    exact rfA_back hp hv hn k (by omega)
theorem or_ort {p : Int} {S : List Int} {m : List (List Int)} (h : orB p S m = true) : Ort p S (trM m) := fun i hi j hj => by
  rw [colB_iff.1 (orB_all h).2.2.2.2 i hi j (by omega)]; unfold wantF; rw [if_neg (by omega)]
theorem mem_of {L : List (List Int)} {i : Nat} (hi : i < L.length) : rw' L i ∈ L := by
  unfold rw'
  rw [List.getD_eq_getElem?_getD, List.getElem?_eq_getElem hi]
  exact List.getElem_mem hi
/-- The versor of the decomposition leads the basis vectors to the columns. -/
theorem dec_sd {p : Int} {S : List Int} {m : List (List Int)} (hs : isSp p S = true) (hd : discN p S ≠ 0) (ho : orB p S m = true) {j : Nat} (hj : j < S.length) : sdM p S (vrM p S (decL p S m) (decL p S m).length) (eiR S.length j) = rw' (trM m) j := by
  have hp := (isSp_iff.1 hs).prime
  have hb := prm_bd hp
  have hok := (dec_ok hs hd ho).1
  have hC := or_cols hs ho
  rw [sd_vr hs (fun j hj => (hok _ (mem_of hj)).1) (fun j hj => (hok _ (mem_of hj)).2) (ei_vec (by omega) _ _)]
  have h1 := (dc_done hs hd hC (or_ort ho) S.length (Nat.le_refl _)).2 j hj
  rw [dc_ref, refA_row _ _ (by rw [hC.len]; exact hj)] at h1
  have h2 := rfA_back hp (hC.vec j hj) (L := decL p S m) (fun j hj => (hok _ (mem_of hj)).2) (decL p S m).length (Nat.le_refl _)
  rw [List.take_length] at h2
  rw [← h1]
  exact h2
theorem dec_mat {p : Int} {S : List Int} {m : List (List Int)} (hs : isSp p S = true) (hd : discN p S ≠ 0) (ho : orB p S m = true) : vrC p S (vrM p S (decL p S m) (decL p S m).length) = 0 ∧ mvV p S (vrM p S (decL p S m) (decL p S m).length) = m := by
  have hp := (isSp_iff.1 hs).prime
  have hb := prm_bd hp
  have h1' := (isSp_iff.1 hs).lo
  have hok := (dec_ok hs hd ho).1
  have hC := or_cols hs ho
  have hh := orB_all ho
  have hv : isVr p S (vrM p S (decL p S m) (decL p S m).length) = true := isVr_vr hs (fun j hj => (hok _ (mem_of hj)).1) (fun j hj => (hok _ (mem_of hj)).2)
  have hmv := vr_mv hs (decL p S m) (decL p S m).length
  generalize hx : vrM p S (decL p S m) (decL p S m).length = x at hv hmv
  have e : vrC p S x = 0 := by
    rcases vrC_cases p S x with ⟨h1, _⟩ | ⟨_, h1, _⟩ | ⟨_, _, h⟩
    · exfalso; apply h1
      rcases regC_cases p S [x] with ⟨k, _⟩ | ⟨_, k, _⟩ | ⟨_, _, _, k, _⟩ | ⟨_, _, _, _, k⟩
      · rw [hs] at k; cases k
      · exfalso
        have := codeMv_zero.2 ⟨hs, show [x].all (isMv p S) = true by simp [hmv]⟩
        rw [this] at k; cases k
      · exact absurd k hd
      · exact k
    · rw [hv] at h1; cases h1
    · exact h
  refine ⟨e, ?_⟩
  unfold mvV
  rw [if_pos e]
  have e2 : ledM S.length (sdM p S x) S.length = trM m := mat_ext (by rw [led_len, hC.len]) fun i hi => by
    rw [led_len] at hi
    rw [led_all _ hi, ← hx]
    exact dec_sd hs hd ho hi
  rw [e2]
  refine tr_tr (by omega) (by rw [hh.2.2.1]; omega) fun i hi => (isL_iff.1 hh.2.1).len i hi
theorem dec_vo {p : Int} {S : List Int} {m : List (List Int)} (hs : isSp p S = true) (hd : discN p S ≠ 0) (ho : orB p S m = true) : voC p S (decL p S m) = 0 ∧ voV p S (decL p S m) = vrM p S (decL p S m) (decL p S m).length := by
  have h := dec_ok hs hd ho
  have hl : listB p S (decL p S m) = true := by
    unfold listB
    rw [Bool.and_eq_true, List.all_eq_true]
    exact ⟨fun u hu => (h.1 u hu).1, decide_eq_true (by have := h.2; omega)⟩
  have e : voC p S (decL p S m) = 0 := by
    unfold voC
    rw [if_pos (codeL_ok hs hl), if_neg hd, if_neg (by rw [nulB_no (fun j hj => (h.1 _ (mem_of hj)).2)]; decide)]
  exact ⟨e, by unfold voV; rw [if_pos e]⟩

end Go.Proofs.YtlfjhffigkhmcaaGreat
