/-
  Fewer equations than unknowns; how many vectors a kernel's basis has; ranks and scaled columns. No Go in sight.
  No conditions.
-/
import Derived.Test.YtdfkpbmccmbjmaaQg13
namespace Go.Proofs.Ytdfkpbmccmbjmaa
open Go.RowKit
set_option linter.unusedVariables false

theorem snoc_len {p : Int} {c : Nat} {A m : List (List Int)} {P : Nat → Nat} {r : List Int} (hp : prm p = true) (h : Kept p c A m P) (hl : r.length = c) (hr : ∀ j, j < c → 0 ≤ num r j ∧ num r j < p) : ∃ m' P', Kept p c (A ++ [r]) m' P' ∧ m'.length ≤ m.length + 1 := by
  obtain ⟨r', h'⟩ := redu_ex hp h hl hr m.length (Nat.le_refl _)
  rcases first_ex (c := c) (num r') with hz | ⟨q, hq, q0, ql⟩
  · exact ⟨m, P, h.same h'.van hz, by omega⟩
  · have ne : ∀ i, i < m.length → P i ≠ q := fun i hi e => q0 (by rw [← e]; exact h'.zer i hi)
    obtain ⟨t, t0, t1, t2⟩ := place_ex h.red.mono ne m.length (Nat.le_refl _)
    have hs : ∀ j, j < c → num (mkR c fun j => num r' j * inv p (num r' q) % p) j = num r' j * inv p (num r' q) % p := fun j hj => mkR_at _ hj
    refine ⟨_, _, h.more (m' := mk m.length c fun i j => (at' m i j + (p - at' m i q) % p * num (mkR c fun j => num r' j * inv p (num r' q) % p) j) % p) (s := mkR c fun j => num r' j * inv p (num r' q) % p) (t := t) hp h'.van h'.zer h'.rng hq q0 ql hs (mkR_len _ _) (mk_len _ _ _) (fun i hi => mk_rowLen _ hi) (fun i hi j hj => mk_at _ hi hj) t0 t1 t2, ?_⟩
    rw [ins_len _ (by rw [mk_len]; exact t0), mk_len]
    exact Nat.le_refl _
theorem kept_len {p : Int} {c : Nat} (hp : prm p = true) (A : List (List Int)) (hl : ∀ i, i < A.length → (rw' A i).length = c) (hr : ∀ i, i < A.length → ∀ j, j < c → 0 ≤ at' A i j ∧ at' A i j < p) : ∃ m P, Kept p c A m P ∧ m.length ≤ A.length := by
  have key : ∀ n, n ≤ A.length → ∃ m P, Kept p c (A.take n) m P ∧ m.length ≤ n := by
    intro n
    induction n with
    | zero => intro _; exact ⟨[], fun _ => 0, Kept.start p c _, Nat.le_refl _⟩
    | succ n ih =>
      intro hn
      obtain ⟨m, P, h, hm⟩ := ih (by omega)
      have e : A.take (n + 1) = A.take n ++ [rw' A n] := by
        rw [List.take_add_one, show A[n]? = some (rw' A n) by unfold rw'; simp [List.getD, show n < A.length by omega]]; rfl
      rw [e]
      obtain ⟨m', P', h', hm'⟩ := snoc_len hp h (hl n (by omega)) (fun j hj => hr n (by omega) j hj)
      exact ⟨m', P', h', by omega⟩
  have h := key A.length (Nat.le_refl _)
  rw [List.take_length] at h
  exact h
theorem free_ex {p : Int} {n c : Nat} {R : Nat → Nat → Int} {P : Nat → Nat} (h : Rref p n c R P) (hn : n < c) : ∃ k, k < c ∧ ∀ i, i < n → P i ≠ k := by
  rcases Classical.em (∃ k, k < c ∧ ∀ i, i < n → P i ≠ k) with g | g
  · exact g
  · exfalso
    have hall : ∀ k, k < c → ∃ i, i < n ∧ P i = k := fun k hk => by
      rcases Classical.em (∃ i, i < n ∧ P i = k) with a | a
      · exact a
      · exact absurd ⟨k, hk, fun i hi e => a ⟨i, hi, e⟩⟩ g
    have := enum_eq (n := c) (n' := n) (P := fun i => i) (P' := P) (fun i i' h1 _ => h1) h.mono hall (fun i hi => ⟨P i, h.pv i hi, rfl⟩) n hn
    omega
/-- Fewer equations than unknowns. -/
theorem under {p : Int} (hp : prm p = true) {a b : Nat} (hab : a < b) (R : Nat → Nat → Int) : ∃ x, nul p a b R x ∧ ∃ k, k < b ∧ x k = 1 := by
  have hpb := prm_bd hp
  have hA : ∀ i, i < a → ∀ j, j < b → at' (mk a b fun i j => R i j % p) i j = R i j % p := fun i hi j hj => mk_at _ hi hj
  obtain ⟨m, P, h, hl⟩ := kept_len hp (c := b) (mk a b fun i j => R i j % p) (fun i hi => by rw [mk_len] at hi; exact mk_rowLen _ hi) (fun i hi j hj => by rw [mk_len] at hi; rw [hA i hi j hj]; exact ⟨Int.emod_nonneg _ (by omega), Int.emod_lt_of_pos _ (by omega)⟩)
  rw [mk_len] at hl
  obtain ⟨k, hk, hne⟩ := free_ex h.red (by omega)
  refine ⟨kv m.length (at' m) P k, fun i hi => ?_, k, hk, kv_top h.red hne⟩
  have hz := (h.nul _).2 (kv_nul h.red hk) i (by rw [mk_len]; exact hi)
  exact (van_mod fun j hj => by rw [hA i hi j hj, Int.emod_emod]).1 hz
theorem dsplit (n k : Nat) (f : Nat → Int) : sm (n + k) f = sm n f + sm k fun j => f (n + j) := by
  induction k with
  | zero => show sm n f = sm n f + 0; omega
  | succ k ih => show sm (n + k) f + f (n + k) = sm n f + (sm k _ + f (n + k)); rw [ih]; omega
theorem sm_modz {p : Int} {n : Nat} {f : Nat → Int} (h : ∀ j, j < n → f j % p = 0) : sm n f % p = 0 := by
  rw [← sm_mod, sm_congr h, sm_zero]; rfl
theorem sm_same {p : Int} {n : Nat} {f g : Nat → Int} (h : ∀ j, j < n → f j % p = g j % p) : sm n f % p = sm n g % p := by
  rw [← sm_mod, sm_congr h, sm_mod]
theorem mod_z {p a b : Int} (h : b % p = 0) : a * b % p = 0 := by rw [Int.mul_emod, h]; simp
theorem kerN_has {p : Int} {B : List (List Int)} {P : Nat → Nat} {c n k : Nat} (hk : isPv P n k = false) : ∀ N, k < N → ∃ i, i < (kerN p B P c n N).length ∧ rw' (kerN p B P c n N) i = kvec p B P c n k
  | 0, h => absurd h (Nat.not_lt_zero _)
  | N + 1, h => by
    by_cases e : k = N
    · subst e
      rw [kerN_no hk]
      exact ⟨(kerN p B P c n k).length, by simp, rw_append_last _ _⟩
    · obtain ⟨i, hi, hr⟩ := kerN_has hk N (by omega)
      cases hN : isPv P n N with
      | true => rw [kerN_pv hN]; exact ⟨i, hi, hr⟩
      | false => rw [kerN_no hN]; exact ⟨i, by simp; omega, by rw [rw_append hi]; exact hr⟩
/-- What vanishes at the kernel is a sum of multiples of the rows. -/
theorem row_span {p : Int} {A : List (List Int)} (h : RowsW p A) {y : Nat → Int} (hy : nul p (kerB p A).length (rw' A 0).length (at' (kerB p A)) y) {k : Nat} (hk : k < (rw' A 0).length) : y k % p = sm (bas p A).length (fun l => at' (bas p A) l k * y (pvs (bas p A) l)) % p := by
  have hR := h.bas.pivs
  cases e : isPv (pvs (bas p A)) (bas p A).length k with
  | true =>
    obtain ⟨l, hl, el⟩ : ∃ l, l < (bas p A).length ∧ pvs (bas p A) l = k := by
      unfold isPv at e
      obtain ⟨l, hl, h2⟩ := List.any_eq_true.1 e
      exact ⟨l, List.mem_range.1 hl, by simpa using h2⟩
    subst el
    rw [sm_congr (g := fun i => if i = l then y (pvs (bas p A) l) else 0) fun i hi => by
      by_cases e2 : i = l
      · subst e2; rw [if_pos rfl, hR.one i hi, Int.one_mul]
      · rw [if_neg e2, hR.zer l hl i hi (fun e3 => e2 e3.symm), Int.zero_mul], sm_single, if_pos hl]
  | false =>
    have hz := ((ker_is h.prime).nul y).2 hy
    obtain ⟨i, hi, hr⟩ := kerN_has (p := p) (B := bas p A) (c := (rw' A 0).length) e (rw' A 0).length hk
    have hv := hz i hi
    have h3 : sm (rw' A 0).length (fun j => y j * kv (bas p A).length (at' (bas p A)) (pvs (bas p A)) k j) % p = 0 := by
      refine van_comm.1 ((van_mod (r := at' (kerP p A) i) fun j hj => ?_).1 hv)
      have e3 : at' (kerP p A) i j = (kvec p (bas p A) (pvs (bas p A)) (rw' A 0).length (bas p A).length k).getD j 0 := by
        unfold at'; rw [show rw' (kerP p A) i = _ from hr]
      rw [e3]
      unfold kvec
      rw [mkR_at _ hj, Int.emod_emod]
    rw [kv_row hR y hk] at h3
    exact Int.emod_eq_emod_iff_emod_sub_eq_zero.2 h3
/-- Kernel and rank. -/
theorem ker_dim {p : Int} {A : List (List Int)} (h : RowsW p A) : (kerB p A).length + (bas p A).length = (rw' A 0).length := by
  have hpb := prm_bd h.prime
  have hR := h.bas.pivs
  have hK := (ker_is (A := A) h.prime).pivs
  have F1 : ∀ i, i < (kerB p A).length → nul p (bas p A).length (rw' A 0).length (at' (bas p A)) (at' (kerB p A) i) := fun i hi => (h.bas.nul _).1 fun i' hi' => van_comm.1 (ker_nul h hi' i hi)
  have le1 : (kerB p A).length + (bas p A).length ≤ (rw' A 0).length := by
    rcases Nat.lt_or_ge (rw' A 0).length ((kerB p A).length + (bas p A).length) with hlt | hge
    · exfalso
      obtain ⟨y, hy, t0, ht0, hy1⟩ := under h.prime hlt fun j t => if t < (kerB p A).length then at' (kerB p A) t j else if j = pvs (bas p A) (t - (kerB p A).length) then -1 else 0
      have hX : ∀ j, j < (rw' A 0).length → (sm (kerB p A).length (fun t => at' (kerB p A) t j * y t) + sm (bas p A).length (fun l => if j = pvs (bas p A) l then - y ((kerB p A).length + l) else 0)) % p = 0 := fun j hj => by
        have h0 := hy j hj
        rw [dsplit] at h0
        dsimp only at h0
        refine Eq.trans ?_ h0
        congr 1
        congr 1
        · exact sm_congr fun t ht => by rw [if_pos ht]
        · exact sm_congr fun l hl => by
            rw [if_neg (show ¬ (kerB p A).length + l < (kerB p A).length by omega), Nat.add_sub_cancel_left]
            split
            · omega
            · rw [Int.zero_mul]
      have hN : ∀ l, l < (bas p A).length → sm (rw' A 0).length (fun j => at' (bas p A) l j * sm (kerB p A).length (fun t => at' (kerB p A) t j * y t)) % p = 0 := fun l hl => by
        rw [sm_congr (g := fun j => sm (kerB p A).length fun t => y t * (at' (bas p A) l j * at' (kerB p A) t j)) fun j hj => by
          rw [← sm_mul]; exact sm_congr fun t ht => by rw [Int.mul_comm (y t), Int.mul_assoc], sm_swap]
        refine sm_modz fun t ht => ?_
        rw [sm_mul]
        exact mod_z (F1 t ht l hl)
      have hfree : ∀ j, j < (rw' A 0).length → (∀ l, l < (bas p A).length → pvs (bas p A) l ≠ j) → sm (kerB p A).length (fun t => at' (kerB p A) t j * y t) % p = 0 := fun j hj hne => by
        have h0 := hX j hj
        rw [sm_congr (g := fun _ => 0) fun l hl => if_neg (fun e => hne l hl e.symm), sm_zero, Int.add_zero] at h0
        exact h0
      have hpiv : ∀ l, l < (bas p A).length → sm (kerB p A).length (fun t => at' (kerB p A) t (pvs (bas p A) l) * y t) % p = 0 := fun l hl => by
        have h0 := hN l hl
        rw [sm_same (g := fun j => if j = pvs (bas p A) l then sm (kerB p A).length (fun t => at' (kerB p A) t (pvs (bas p A) l) * y t) else 0) fun j hj => by
          by_cases e : j = pvs (bas p A) l
          · subst e; rw [if_pos rfl, hR.one l hl, Int.one_mul]
          · rw [if_neg e]
            rcases Classical.em (∃ l', l' < (bas p A).length ∧ pvs (bas p A) l' = j) with ⟨l', hl', e'⟩ | hno
            · subst e'
              rw [hR.zer l' hl' l hl (fun e3 => e (by rw [e3])), Int.zero_mul]
            · rw [mod_z (hfree j hj fun l' hl' e' => hno ⟨l', hl', e'⟩)]; rfl, sm_single, if_pos (hR.pv l hl)] at h0
        exact h0
      have hall : ∀ j, j < (rw' A 0).length → sm (kerB p A).length (fun t => at' (kerB p A) t j * y t) % p = 0 := fun j hj => by
        rcases Classical.em (∃ l', l' < (bas p A).length ∧ pvs (bas p A) l' = j) with ⟨l', hl', e'⟩ | hno
        · subst e'; exact hpiv l' hl'
        · exact hfree j hj fun l' hl' e' => hno ⟨l', hl', e'⟩
      by_cases e : t0 < (kerB p A).length
      · have h0 := hall _ (hK.pv t0 e)
        rw [sm_congr (g := fun t => if t = t0 then y t0 else 0) fun t ht => by
          by_cases e2 : t = t0
          · subst e2; rw [if_pos rfl, hK.one t ht, Int.one_mul]
          · rw [if_neg e2, hK.zer t0 e t ht (fun e3 => e2 e3.symm), Int.zero_mul], sm_single, if_pos e, hy1, Int.emod_eq_of_lt (by omega) (by omega)] at h0
        omega
      · obtain ⟨l, rfl⟩ : ∃ l, t0 = (kerB p A).length + l := ⟨t0 - (kerB p A).length, by omega⟩
        have hl : l < (bas p A).length := by omega
        have h0 := hX _ (hR.pv l hl)
        rw [sm_congr (n := (bas p A).length) (g := fun l' => if l' = l then - y ((kerB p A).length + l) else 0) fun l' hl' => by
          by_cases e2 : l' = l
          · subst e2; rw [if_pos rfl, if_pos rfl]
          · rw [if_neg e2, if_neg fun e3 => by
              rcases Nat.lt_or_gt_of_ne e2 with g | g
              · have := hR.mono l' l g hl; omega
              · have := hR.mono l l' g hl'; omega], sm_single, if_pos hl, hy1] at h0
        have h1 := hpiv l hl
        rw [Int.add_emod, h1, Int.zero_add, Int.emod_emod] at h0
        have h2 : (-1 : Int) % p = p - 1 := by
          rw [show (-1 : Int) = (p - 1) + p * (-1) by omega, Int.add_mul_emod_self_left, Int.emod_eq_of_lt (by omega) (by omega)]
        omega
    · exact hge
  have le2 : (rw' A 0).length ≤ (kerB p A).length + (bas p A).length := by
    rcases Nat.lt_or_ge ((kerB p A).length + (bas p A).length) (rw' A 0).length with hlt | hge
    · exfalso
      obtain ⟨x, hx, k, hk, hx1⟩ := under h.prime hlt fun t j => if t < (kerB p A).length then (if j = pvs (kerB p A) t then 1 else 0) else at' (bas p A) (t - (kerB p A).length) j
      have hQ : ∀ t, t < (kerB p A).length → x (pvs (kerB p A) t) % p = 0 := fun t ht => by
        have h0 := hx t (by omega)
        rw [sm_congr (g := fun j => if j = pvs (kerB p A) t then x (pvs (kerB p A) t) else 0) fun j hj => by
          dsimp only
          rw [if_pos ht]
          by_cases e : j = pvs (kerB p A) t
          · rw [if_pos e, if_pos e, Int.one_mul, e]
          · rw [if_neg e, if_neg e, Int.zero_mul], sm_single, if_pos (hK.pv t ht)] at h0
        exact h0
      have hB : ∀ l, l < (bas p A).length → sm (rw' A 0).length (fun j => at' (bas p A) l j * x j) % p = 0 := fun l hl => by
        have h0 := hx ((kerB p A).length + l) (by omega)
        rw [sm_congr (g := fun j => at' (bas p A) l j * x j) fun j hj => by
          dsimp only
          rw [if_neg (show ¬ (kerB p A).length + l < (kerB p A).length by omega), Nat.add_sub_cancel_left]] at h0
        exact h0
      have hdot : sm (rw' A 0).length (fun j => x j * kv (kerB p A).length (at' (kerB p A)) (pvs (kerB p A)) k j) % p = 0 := by
        rw [sm_same (g := fun j => sm (bas p A).length fun l => kv (kerB p A).length (at' (kerB p A)) (pvs (kerB p A)) k (pvs (bas p A) l) * (at' (bas p A) l j * x j)) fun j hj => by
          rw [Int.mul_emod, row_span h (kv_nul hK hk) hj, ← Int.mul_emod, ← sm_mul]
          congr 1
          exact sm_congr fun l hl => by rw [← Int.mul_assoc, Int.mul_comm, Int.mul_comm (x j)], sm_swap]
        refine sm_modz fun l hl => ?_
        rw [sm_mul]
        exact mod_z (hB l hl)
      rw [kv_row hK x hk, hx1, Int.sub_emod, sm_modz (fun i hi => mod_z (hQ i hi))] at hdot
      rw [Int.sub_zero, Int.emod_emod, Int.emod_eq_of_lt (by omega) (by omega)] at hdot
      omega
    · exact hge
  omega

end Go.Proofs.Ytdfkpbmccmbjmaa
