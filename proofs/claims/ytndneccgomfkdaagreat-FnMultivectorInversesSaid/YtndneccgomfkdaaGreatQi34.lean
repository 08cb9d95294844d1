/-
  Fewer equations than unknowns; how many vectors a kernel's basis has; ranks and scaled columns. No Go in sight.
  No conditions.
  A multivector has an inverse exactly if its left ideal has all multivectors. No Go in sight.
  No conditions.
  Matrices of multiplications: products, and the determinant of a left matrix. No Go in sight.
  No conditions.
-/
import Derived.Test.YtndneccgomfkdaaGreatQi30
import Derived.Test.YtndneccgomfkdaaGreatQi33
import Derived.Test.YtndneccgomfkdaaGreatQi2
namespace Go.Proofs.YtndneccgomfkdaaGreat
open Go.RowKit
set_option linter.unusedVariables false

theorem snoc_len {p : Int} {c : Nat} {A m : List (List Int)} {P : Nat → Nat} {r : List Int} (hp : prm p = true) (h : Kept p c A m P) (hl : r.length = c) (hr : ∀ j, j < c → 0 ≤ num r j ∧ num r j < p) : ∃ m' P', Kept p c (A ++ [r]) m' P' ∧ m'.length ≤ m.length + 1 := by
  obtain ⟨r', h'⟩ := redu_ex hp h hl hr m.length (Nat.le_refl _)
  rcases first_ex (c := c) (num r') with hz | ⟨q, hq, q0, ql⟩
  · exact ⟨m, P, h.same h'.van hz, by omega⟩
  · have ne : ∀ i, i < m.length → P i ≠ q := fun i hi e => q0 (by rw [← e]; exact h'.zer i hi)
    obtain ⟨t, t0, t1, t2⟩ := place_exB h.red.mono ne m.length (Nat.le_refl _)
    have hs : ∀ j, j < c → num (mkR c fun j => num r' j * inv p (num r' q) % p) j = num r' j * inv p (num r' q) % p := fun j hj => mkR_at _ hj
    refine ⟨_, _, h.more (m' := mk m.length c fun i j => (at' m i j + (p - at' m i q) % p * num (mkR c fun j => num r' j * inv p (num r' q) % p) j) % p) (s := mkR c fun j => num r' j * inv p (num r' q) % p) (t := t) hp h'.van h'.zer h'.rng hq q0 ql hs (mkR_len _ _) (mk_len _ _ _) (fun i hi => mk_rowLen _ hi) (fun i hi j hj => mk_at _ hi hj) t0 t1 t2, ?_⟩
    rw [ins_len _ (by rw [mk_len]; exact t0), mk_len]
    exact Nat.le_refl _
theorem kept_len {p : Int} {c : Nat} (hp : prm p = true) (A : List (List Int)) (hl : ∀ i, i < A.length → (rw' A i).length = c) (hr : ∀ i, i < A.length → ∀ j, j < c → 0 ≤ at' A i j ∧ at' A i j < p) : ∃ m P, Kept p c A m P ∧ m.length ≤ A.length := by
  have key : ∀ n, n ≤ A.length → ∃ m P, Kept p c (A.take n) m P ∧ m.length ≤ n := by
    intro n
    induction n with
    | zero => intro _; exact ⟨[], fun _ => 0, Kept.start p c _, Nat.le_refl _⟩
    | succ n ih =>
      intro hn
      obtain ⟨m, P, h, hm⟩ := ih (by omega)
      have e : A.take (n + 1) = A.take n ++ [rw' A n] := by
        rw [List.take_add_one, show A[n]? = some (rw' A n) by unfold rw'; simp [List.getD, show n < A.length by omega]]; rfl
      rw [e]
      obtain ⟨m', P', h', hm'⟩ := snoc_len hp h (hl n (by omega)) (fun j hj => hr n (by omega) j hj)
      exact ⟨m', P', h', by omega⟩
  have h := key A.length (Nat.le_refl _)
  rw [List.take_length] at h
  exact h
theorem free_ex {p : Int} {n c : Nat} {R : Nat → Nat → Int} {P : Nat → Nat} (h : Rref p n c R P) (hn : n < c) : ∃ k, k < c ∧ ∀ i, i < n → P i ≠ k := by
  rcases Classical.em (∃ k, k < c ∧ ∀ i, i < n → P i ≠ k) with g | g
  · exact g
  · exfalso
    have hall : ∀ k, k < c → ∃ i, i < n ∧ P i = k := fun k hk => by
      rcases Classical.em (∃ i, i < n ∧ P i = k) with a | a
      · exact a
      · exact absurd ⟨k, hk, fun i hi e => a ⟨i, hi, e⟩⟩ g
    have := enum_eq (n := c) (n' := n) (P := fun i => i) (P' := P) (fun i i' h1 _ => h1) h.mono hall (fun i hi => ⟨P i, h.pv i hi, rfl⟩) n hn
    omega
/-- Fewer equations than unknowns. -/
theorem under {p : Int} (hp : prm p = true) {a b : Nat} (hab : a < b) (R : Nat → Nat → Int) : ∃ x, nul p a b R x ∧ ∃ k, k < b ∧ x k = 1 := by
  have hpb := prm_bd hp
  have hA : ∀ i, i < a → ∀ j, j < b → at' (mk a b fun i j => R i j % p) i j = R i j % p := fun i hi j hj => mk_at _ hi hj
  obtain ⟨m, P, h, hl⟩ := kept_len hp (c := b) (mk a b fun i j => R i j % p) (fun i hi => by rw [mk_len] at hi; exact mk_rowLen _ hi) (fun i hi j hj => by rw [mk_len] at hi; rw [hA i hi j hj]; exact ⟨Int.emod_nonneg _ (by omega), Int.emod_lt_of_pos _ (by omega)⟩)
  rw [mk_len] at hl
  obtain ⟨k, hk, hne⟩ := free_ex h.red (by omega)
  refine ⟨kv m.length (at' m) P k, fun i hi => ?_, k, hk, kv_top h.red hne⟩
  have hz := (h.nul _).2 (kv_nul h.red hk) i (by rw [mk_len]; exact hi)
  exact (van_mod fun j hj => by rw [hA i hi j hj, Int.emod_emod]).1 hz
theorem sm_modz {p : Int} {n : Nat} {f : Nat → Int} (h : ∀ j, j < n → f j % p = 0) : sm n f % p = 0 := by
  rw [← sm_mod, sm_congr h, sm_zero]; rfl
theorem sm_same {p : Int} {n : Nat} {f g : Nat → Int} (h : ∀ j, j < n → f j % p = g j % p) : sm n f % p = sm n g % p := by
  rw [← sm_mod, sm_congr h, sm_mod]
theorem mod_z {p a b : Int} (h : b % p = 0) : a * b % p = 0 := by rw [Int.mul_emod, h]; simp
end Go.Proofs.YtndneccgomfkdaaGreat

namespace Go.Proofs.YtndneccgomfkdaaGreat
open Go.RowKit
set_option linter.unusedVariables false

/-- The product by a fixed right factor, as sums. -/
theorem right_prod {p : Int} {S x y : List Int} {i : Nat} (hi : i < bl S) : sm (bl S) (fun j => y.getD j 0 * prodF p S (bladeM S j) x i) % p = prodF p S y x i := by
  have hi' : i < 2 ^ S.length := hi
  have e1 : ∀ j, j < bl S → prodF p S (bladeM S j) x i = (fz S j (j ^^^ i) S.length * x.getD (j ^^^ i) 0) % p := fun j hj => by
    unfold prodF gpz
    have h : ∀ a, a < 2 ^ S.length → (bladeM S j).getD a 0 * fz S a (a ^^^ i) S.length * x.getD (a ^^^ i) 0 = if a = j then fz S j (j ^^^ i) S.length * x.getD (j ^^^ i) 0 else 0 := fun a ha => by
      unfold bladeM
      rw [mkR_at _ (show a < bl S from ha)]
      by_cases e : a = j
      · subst e; rw [if_pos rfl, if_pos rfl, Int.one_mul]
      · rw [if_neg e, if_neg e, Int.zero_mul, Int.zero_mul]
    rw [sm_congr h, sm_single, if_pos (show j < 2 ^ S.length from hj)]
  unfold prodF gpz
  apply sm_congr_p
  intro j hj
  have := e1 j hj
  unfold prodF gpz at this
  rw [this, Int.mul_emod, Int.emod_emod, ← Int.mul_emod, Int.mul_assoc]
/-- What is solved has a solution. -/
theorem sol_yes {p : Int} {a : List (List Int)} {v : List Int} (h : Lst 1 p a) (hl : v.length = a.length) (hv : v.all (inr p) = true) (y : Nat → Int) (hy : ∀ r, r < a.length → sm (rw' a 0).length (fun j => at' a r j * y j) % p = v.getD r 0 % p) : solOk p a v = true := by
  have hpb := prm_bd h.prime
  have c0 := h.c0 0 h.lo
  obtain ⟨c, hc⟩ : ∃ c, c = (rw' a 0).length := ⟨_, rfl⟩
  have hX := col_rows h hl hv
  rw [← hc] at hX hy c0
  have hB : IsBas p (c + 1) (bes a (col v)) (solB p a v) := bas_is h.prime _ hX.len hX.rng
  have hR := hB.pivs
  unfold solOk
  rw [← hc]
  cases e : isPv (pvs (solB p a v)) (solB p a v).length c with
  | false => rfl
  | true =>
    exfalso
    refine (hR.pivot (by omega) (Nat.lt_succ_self c)).1 (isPv_iff.1 e) ⟨fun j => if j < c then - y j else if j = c then 1 else 0, ?_, ?_, fun j hj => ?_⟩
    · refine (hB.nul _).1 fun r hr => ?_
      rw [bes_len] at hr
      have hrl : (rw' a r).length = c := by rw [h.len r hr, hc]
      have b1 : ∀ j, j < c → at' (bes a (col v)) r j = at' a r j := fun j hj => by
        rw [bes_at hr hrl, if_pos hj]
      have b2 : at' (bes a (col v)) r c = v.getD r 0 := by
        rw [bes_at hr hrl, if_neg (Nat.lt_irrefl _), Nat.sub_self]
        unfold at'
        rw [col_row (by rw [hl]; exact hr)]
        rfl
      show (sm c _ + _) % p = 0
      rw [sm_congr (g := fun j => (-1) * (at' a r j * y j)) fun j hj => by
        rw [b1 j hj, if_pos hj, Int.mul_neg, Int.neg_one_mul], sm_mul]
      dsimp only
      rw [b2, if_neg (Nat.lt_irrefl _), if_pos rfl, Int.mul_one]
      have h1 := hy r hr
      have h2 : (v.getD r 0 - sm c (fun j => at' a r j * y j)) % p = 0 := Int.emod_eq_emod_iff_emod_sub_eq_zero.1 h1.symm
      rw [show -1 * sm c (fun j => at' a r j * y j) + v.getD r 0 = v.getD r 0 - sm c (fun j => at' a r j * y j) by omega]
      exact h2
    · dsimp only
      rw [if_neg (by omega), if_pos rfl]
    · dsimp only
      rw [if_neg (by omega), if_neg (by omega)]
/-- As many rows as columns, reduced: only 0 vanishes. -/
theorem rref_full {p : Int} {n : Nat} {R : Nat → Nat → Int} {P : Nat → Nat} (h : Rref p n n R P) {y : Nat → Int} (hy : nul p n n R y) {k : Nat} (hk : k < n) : y k % p = 0 := by
  have up : ∀ i, i < n → i ≤ P i := by
    intro i
    induction i with
    | zero => intro _; exact Nat.zero_le _
    | succ i ih => intro hi; have h1 := ih (by omega); have h2 := h.mono i (i + 1) (by omega) hi; omega
  have dn : ∀ d i, i + d + 1 = n → P i ≤ i := by
    intro d
    induction d with
    | zero => intro i hi; have := h.pv i (by omega); omega
    | succ d ih => intro i hi; have h1 := ih (i + 1) (by omega); have h2 := h.mono i (i + 1) (by omega) (by omega); omega
  have eP : ∀ i, i < n → P i = i := fun i hi => Nat.le_antisymm (dn (n - i - 1) i (by omega)) (up i hi)
  have h0 := hy k hk
  rw [sm_congr (g := fun j => if j = k then y k else 0) fun j hj => by
    by_cases e : j = k
    · subst e
      have h1 := h.one j hj
      rw [eP j hj] at h1
      rw [h1, if_pos rfl, Int.one_mul]
    · have h1 := h.zer j hj k hk e
      rw [eP j hj] at h1
      rw [h1, if_neg e, Int.zero_mul], sm_single, if_pos hk] at h0
  exact h0
/-- Rows of full rank make everything. -/
theorem full_sol {p : Int} {A : List (List Int)} {n : Nat} (hp : prm p = true) (hn : A.length = n) (hB : IsBas p n A (bas p A)) (hr : (bas p A).length = n) (v : Nat → Int) : ∃ z : Nat → Int, ∀ j, j < n → sm n (fun i => z i * at' A i j) % p = v j % p := by
  have hpb := prm_bd hp
  obtain ⟨P, hP⟩ := hB.red
  rw [hr] at hP
  have only : ∀ y, nul p n n (at' A) y → ∀ k, k < n → y k % p = 0 := fun y hy k hk => by
    have h1 := (hB.nul y).1 (by rw [hn]; exact hy)
    rw [hr] at h1
    exact rref_full hP h1 hk
  obtain ⟨x, hx, k, hk, hk1⟩ := under hp (Nat.lt_succ_self n) fun j t => if t < n then at' A t j else v j
  have hx' : ∀ j, j < n → (sm n (fun i => at' A i j * x i) + v j * x n) % p = 0 := fun j hj => by
    have h0 := hx j hj
    refine Eq.trans ?_ h0
    show _ = (sm n _ + _) % p
    congr 1
    congr 1
    · exact sm_congr fun i hi => by dsimp only; rw [if_pos hi]
    · dsimp only; rw [if_neg (Nat.lt_irrefl _)]
  by_cases hz : x n % p = 0
  · exfalso
    have hkn : k < n := by
      rcases Nat.lt_or_ge k n with h | h
      · exact h
      · exfalso
        have e : k = n := by omega
        rw [← e, hk1, Int.emod_eq_of_lt (by omega) (by omega)] at hz
        cases hz
    have hd : ∀ j, j < n → sm n (fun i => at' A i j * x i) % p = 0 := fun j hj => by
      have h0 := hx' j hj
      rw [Int.add_emod, Int.mul_emod (v j), hz, Int.mul_zero, Int.zero_emod, Int.add_zero, Int.emod_emod] at h0
      exact h0
    obtain ⟨y, hy, l, hl, hl1⟩ := under hp (show n - 1 < n by omega) fun i j => at' A (if i < k then i else i + 1) j
    have hrow : ∀ i, i < n → i ≠ k → sm n (fun j => at' A i j * y j) % p = 0 := fun i hi hne => by
      rcases Nat.lt_or_gt_of_ne hne with hlt | hgt
      · have h := hy i (by omega)
        dsimp only at h
        rw [if_pos hlt] at h
        exact h
      · have h := hy (i - 1) (by omega)
        dsimp only at h
        rw [if_neg (by omega), show i - 1 + 1 = i by omega] at h
        exact h
    have hall : nul p n n (at' A) y := fun i hi => by
      by_cases e : i = k
      · subst e
        have h1 : sm n (fun i' => x i' * sm n (fun j => at' A i' j * y j)) % p = 0 := by
          have e1 : sm n (fun i' => x i' * sm n (fun j => at' A i' j * y j)) = sm n (fun j => y j * sm n (fun i' => at' A i' j * x i')) := by
            rw [sm_congr (g := fun i' => sm n (fun j => x i' * (at' A i' j * y j))) fun i' _ => (sm_mul n (x i') _).symm, sm_swap]
            exact sm_congr fun j _ => by
              rw [← sm_mul]
              exact sm_congr fun i' _ => by rw [Int.mul_left_comm (x i'), Int.mul_comm (x i') (y j), Int.mul_left_comm (at' A i' j)]
          rw [e1]
          exact sm_modz fun j hj => mod_z (hd j hj)
        have h2 : sm n (fun i' => x i' * sm n (fun j => at' A i' j * y j)) % p = sm n (fun i' => if i' = i then sm n (fun j => at' A i j * y j) else 0) % p := sm_same fun i' hi' => by
          by_cases e : i' = i
          · subst e; rw [if_pos rfl, hk1, Int.one_mul]
          · rw [if_neg e, mod_z (hrow i' hi' e)]; rfl
        rw [h2, sm_single, if_pos hi] at h1
        exact h1
      · exact hrow i hi e
    have h9 := only y hall l hl
    rw [hl1, Int.emod_eq_of_lt (by omega) (by omega)] at h9
    cases h9
  · obtain ⟨u, hu⟩ : ∃ u : Int, u * x n % p = 1 := by
      refine ⟨inv p (x n % p), ?_⟩
      have hb := Int.emod_nonneg (x n) (show p ≠ 0 by omega)
      have hb2 := Int.emod_lt_of_pos (x n) (show 0 < p by omega)
      have h := inv_mul hp (show 1 ≤ x n % p by omega) hb2
      rw [Int.mul_emod, Int.emod_emod, ← Int.mul_emod] at h
      rw [Int.mul_comm]
      first | exact h | (rw [Int.mul_comm]; exact h)
    refine ⟨fun i => - (u * x i), fun j hj => ?_⟩
    have h0 := hx' j hj
    have e1 : sm n (fun i => - (u * x i) * at' A i j) = - u * sm n (fun i => at' A i j * x i) := by
      rw [← sm_mul]
      exact sm_congr fun i _ => by rw [Int.neg_mul, Int.neg_mul, Int.mul_assoc, Int.mul_comm (x i)]
    rw [e1]
    apply Int.emod_eq_emod_iff_emod_sub_eq_zero.2
    have e2 : - u * sm n (fun i => at' A i j * x i) - v j = - u * (sm n (fun i => at' A i j * x i) + v j * x n) + v j * (u * x n - 1) := by
      rw [Int.mul_add, Int.mul_sub, Int.mul_one, Int.neg_mul, Int.neg_mul, show u * (v j * x n) = v j * (u * x n) from Int.mul_left_comm _ _ _]
      omega
    rw [e2, Int.add_emod, mod_z h0, mod_z (show (u * x n - 1) % p = 0 from Int.emod_eq_emod_iff_emod_sub_eq_zero.1 (by rw [hu, Int.emod_eq_of_lt (by omega) (by omega)]))]
    rfl
theorem rank_le {p : Int} {S : List Int} (hs : isSp p S = true) (h4 : S.length ≤ 4) (x : List Int) : (bas p (colsR p S x)).length ≤ bl S := by
  have hB := (colsR_lst hs h4 x 1 (Nat.le_refl _)).wide.bas
  rw [colsR_rl (bl_pos S)] at hB
  obtain ⟨P, hP⟩ := hB.red
  exact rref_le hP
/-- The rank is full exactly if there is an inverse. -/
theorem ideal_full {p : Int} {S x : List Int} (hs : isSp p S = true) (h4 : S.length ≤ 4) (mx : isMv p S x = true) : (bas p (colsR p S x)).length = bl S ↔ invOk p S x = true := by
  have hp := (isSp_iff.1 hs).prime
  have hpb := prm_bd hp
  have hb := bl_pos S
  have hL := colsR_lst hs h4 x 1 (Nat.le_refl _)
  have hB := hL.wide.bas
  rw [colsR_rl hb] at hB
  have ec : ∀ i j, i < bl S → j < bl S → at' (colsR p S x) i j = prodF p S (bladeM S i) x j := fun i j hi hj => mk_at _ hi hj
  constructor
  · intro hr
    obtain ⟨z, hz⟩ := full_sol hp (colsR_len p S x) hB hr fun j => (mOne S).getD j 0
    obtain ⟨Z, hZ⟩ : ∃ Z : List Int, Z = mkR (bl S) fun i => z i % p := ⟨_, rfl⟩
    have lZ : Z.length = bl S := by rw [hZ, mkR_len]
    have mZ : isMv p S Z = true := isMv_of lZ fun j hj => by
      rw [lZ] at hj
      rw [hZ, mkR_at _ hj]
      exact ⟨Int.emod_nonneg _ (by omega), Int.emod_lt_of_pos _ (by omega)⟩
    have hzx : prodM p S Z x = mOne S := by
      apply row_ext (by rw [prodM_len, one_len])
      intro j hj
      rw [prodM_len] at hj
      rw [prodM_at p S _ _ hj, ← right_prod hj]
      have h1 := hz j hj
      have h2 := Mv.num (one_mv hs) j (by rw [one_len]; exact hj)
      rw [Int.emod_eq_of_lt h2.1 h2.2] at h1
      rw [← h1]
      refine sm_same fun i hi => ?_
      rw [hZ, mkR_at _ hi, ec i j hi hj, Int.mul_emod, Int.emod_emod, ← Int.mul_emod]
    have hxz := inv_both hs mx hzx
    unfold invOk
    refine sol_yes (left_lst hs h4) (by rw [one_len, left_len]) (one_allQ hs) (fun j => Z.getD j 0) fun r hr2 => ?_
    rw [left_len] at hr2
    rw [left_rl hb]
    have h3 := Mv.num (one_mv hs) r (by rw [one_len]; exact hr2)
    rw [Int.emod_eq_of_lt h3.1 h3.2, ← hxz, prodM_at p S _ _ hr2, ← left_prod hr2]
    congr 1
    exact sm_congr fun j hj => by rw [show at' (leftM p S x) r j = prodF p S x (bladeM S j) r from mk_at _ hr2 hj]
  · intro hok
    obtain ⟨hy, hyx⟩ := inv_is hs h4 hok
    have hle := rank_le hs h4 x
    rcases Nat.lt_or_ge (bas p (colsR p S x)).length (bl S) with hlt | hge
    · exfalso
      obtain ⟨f, hf, k, hk, hk1⟩ := under hp hlt (at' (bas p (colsR p S x)))
      have hf2 := (hB.nul f).2 hf
      rw [colsR_len] at hf2
      obtain ⟨u, hu⟩ : ∃ u : List Int, u = prodM p S (bladeM S k) (invY p S x) := ⟨_, rfl⟩
      have hux : prodM p S u x = bladeM S k := by
        rw [hu, prodM_assoc, hyx]
        exact one_r (blade_mv hs k)
      have h1 : sm (bl S) (fun j => prodF p S u x j * f j) % p = 0 := by
        have e1 : sm (bl S) (fun j => prodF p S u x j * f j) % p = sm (bl S) (fun j => sm (bl S) (fun i => u.getD i 0 * prodF p S (bladeM S i) x j) * f j) % p := sm_same fun j hj => by
          rw [← right_prod hj, Int.mul_emod, Int.emod_emod, ← Int.mul_emod]
        have e2 : sm (bl S) (fun j => sm (bl S) (fun i => u.getD i 0 * prodF p S (bladeM S i) x j) * f j) = sm (bl S) (fun i => u.getD i 0 * sm (bl S) (fun j => at' (colsR p S x) i j * f j)) := by
          rw [sm_congr (g := fun j => sm (bl S) (fun i => f j * (u.getD i 0 * prodF p S (bladeM S i) x j))) fun j _ => by rw [Int.mul_comm, ← sm_mul], sm_swap]
          exact sm_congr fun i hi => by
            rw [← sm_mul]
            exact sm_congr fun j hj => by rw [ec i j hi hj, Int.mul_comm, Int.mul_assoc]
        rw [e1, e2]
        exact sm_modz fun i hi => mod_z (hf2 i hi)
      rw [sm_congr (g := fun j => if j = k then 1 else 0) fun j hj => by
        have e : prodF p S u x j = (bladeM S k).getD j 0 := by rw [← hux, prodM_at p S _ _ hj]
        rw [e]
        unfold bladeM
        rw [mkR_at _ hj]
        by_cases e2 : j = k
        · subst e2; rw [if_pos rfl, hk1]; rfl
        · rw [if_neg e2, Int.zero_mul], sm_single, if_pos hk, Int.emod_eq_of_lt (by omega) (by omega)] at h1
      cases h1
    · omega

end Go.Proofs.YtndneccgomfkdaaGreat

namespace Go.Proofs.YtndneccgomfkdaaGreat
open Go.RowKit
set_option linter.unusedVariables false

theorem left_at {p : Int} {S x : List Int} {i j : Nat} (hi : i < bl S) (hj : j < bl S) : at' (leftM p S x) i j = prodF p S x (bladeM S j) i := mk_at _ hi hj
theorem left_inj {p : Int} {S x u v : List Int} (hs : isSp p S = true) (ht : triv p (bl S) (leftM p S x)) (hu : isMv p S u = true) (hv : isMv p S v = true) (h : prodM p S x u = prodM p S x v) : u = v := by
  have hpb := prm_bd (isSp_iff.1 hs).prime
  apply row_ext (by rw [Mv.len hu, Mv.len hv])
  intro j hj
  rw [Mv.len hu] at hj
  have h0 := ht (fun j => u.getD j 0 - v.getD j 0) (fun i hi => by
    have e1 : sm (bl S) (fun j => at' (leftM p S x) i j * (u.getD j 0 - v.getD j 0)) = sm (bl S) (fun j => prodF p S x (bladeM S j) i * u.getD j 0) - sm (bl S) (fun j => prodF p S x (bladeM S j) i * v.getD j 0) := by
      rw [sm_congr (g := fun j => prodF p S x (bladeM S j) i * u.getD j 0 + (-1) * (prodF p S x (bladeM S j) i * v.getD j 0)) fun j hj => by rw [left_at hi hj, Int.mul_sub, Int.neg_one_mul]; omega, sm_add, sm_mul]
      omega
    rw [e1]
    apply Int.emod_eq_emod_iff_emod_sub_eq_zero.1
    rw [left_prod hi, left_prod hi, ← prodM_at p S x u hi, ← prodM_at p S x v hi, h]) j hj
  have h1 := Mv.num hu j (by rw [Mv.len hu]; exact hj)
  have h2 := Mv.num hv j (by rw [Mv.len hv]; exact hj)
  have h3 : u.getD j 0 % p = v.getD j 0 % p := Int.emod_eq_emod_iff_emod_sub_eq_zero.2 h0
  rwa [Int.emod_eq_of_lt h1.1 h1.2, Int.emod_eq_of_lt h2.1 h2.2] at h3
theorem cancel_left {p : Int} {S x : List Int} (hs : isSp p S = true) (ht : triv p (bl S) (leftM p S x)) : ∀ (a : Nat) (u v : List Int), isMv p S u = true → isMv p S v = true → prodM p S (mPow p S x a) u = prodM p S (mPow p S x a) v → u = v
  | 0, u, v, hu, hv, h => by
    have h2 : prodM p S (mOne S) u = prodM p S (mOne S) v := h
    rwa [one_l hu, one_l hv] at h2
  | a + 1, u, v, hu, hv, h => by
    have h2 : prodM p S (prodM p S (mPow p S x a) x) u = prodM p S (prodM p S (mPow p S x a) x) v := h
    rw [prodM_assoc, prodM_assoc] at h2
    exact left_inj hs ht hu hv (cancel_left hs ht a _ _ (prod_mv hs _ _) (prod_mv hs _ _) h2)
theorem mpow_one9 {p : Int} {S x : List Int} (mx : isMv p S x = true) : mPow p S x 1 = x := one_l mx
theorem triv_ok {p : Int} {S x : List Int} (hs : isSp p S = true) (h4 : S.length ≤ 4) (mx : isMv p S x = true) (ht : triv p (bl S) (leftM p S x)) : invOk p S x = true := by
  obtain ⟨a, d, hd, he⟩ := mpow_back (x := x) hs
  have h1 : mOne S = mPow p S x d := by
    apply cancel_left hs ht a _ _ (one_mv hs) (mpow_mv hs d)
    rw [one_r (mpow_mv hs a), mpow_add hs]
    exact he
  obtain ⟨e, rfl⟩ : ∃ e, d = 1 + e := ⟨d - 1, by omega⟩
  rw [← mpow_add hs, mpow_one9 mx] at h1
  have hb := bl_pos S
  unfold invOk
  refine sol_yes (left_lst hs h4) (by rw [one_len, left_len]) (one_allQ hs) (fun j => (mPow p S x e).getD j 0) fun r hr => ?_
  rw [left_len] at hr
  rw [left_rl hb]
  have h3 := Mv.num (one_mv hs) r (by rw [one_len]; exact hr)
  rw [Int.emod_eq_of_lt h3.1 h3.2, h1, prodM_at p S _ _ hr, ← left_prod hr]
  congr 1
  exact sm_congr fun j hj => by rw [left_at hr hj]
theorem ok_triv {p : Int} {S x : List Int} (hs : isSp p S = true) (h4 : S.length ≤ 4) (mx : isMv p S x = true) (hok : invOk p S x = true) : triv p (bl S) (leftM p S x) := by
  have hpb := prm_bd (isSp_iff.1 hs).prime
  obtain ⟨hy, hyx⟩ := inv_is hs h4 hok
  intro z hz j hj
  obtain ⟨Z, hZ⟩ : ∃ Z : List Int, Z = mkR (bl S) fun i => z i % p := ⟨_, rfl⟩
  have lZ : Z.length = bl S := by rw [hZ, mkR_len]
  have mZ : isMv p S Z = true := isMv_of lZ fun j hj => by
    rw [lZ] at hj
    rw [hZ, mkR_at _ hj]
    exact ⟨Int.emod_nonneg _ (by omega), Int.emod_lt_of_pos _ (by omega)⟩
  have h0 : ∀ i, i < bl S → (prodM p S x Z).getD i 0 = 0 := fun i hi => by
    rw [prodM_at p S _ _ hi, ← left_prod hi]
    refine Eq.trans ?_ (hz i hi)
    refine sm_same fun j hj => ?_
    rw [hZ, mkR_at _ hj, left_at hi hj, Int.mul_emod, Int.emod_emod, ← Int.mul_emod]
  have h1 : Z = prodM p S (invY p S x) (prodM p S x Z) := by rw [← prodM_assoc, hyx, one_l mZ]
  have h2 : Z.getD j 0 = 0 := by
    rw [h1, prodM_at p S _ _ hj, ← left_prod hj, sm_congr (g := fun _ => 0) fun k hk => by rw [h0 k hk, Int.mul_zero], sm_zero]
    rfl
  rw [hZ, mkR_at _ hj] at h2
  exact h2
theorem det_ok {p : Int} {S x : List Int} (hs : isSp p S = true) (h4 : S.length ≤ 4) (mx : isMv p S x = true) : detP p (leftM p S x) ≠ 0 ↔ invOk p S x = true := by
  have hL := left_lst (x := x) hs h4
  rw [det_triv (n := bl S) (isSp_iff.1 hs).prime (left_len p S x) (fun i hi => by rw [left_len] at hi; exact left_rl hi) (fun i hi j hj => hL.at hi (by rw [left_rl (bl_pos S)]; exact hj))]
  exact ⟨triv_ok hs h4 mx, ok_triv hs h4 mx⟩
end Go.Proofs.YtndneccgomfkdaaGreat
