/-
  A multivector has an inverse exactly if its left ideal has all multivectors. No Go in sight.
  No conditions.
  HasInverse: contracts of the program and of the model.
  Conditions: the lists are nil or rows of known cells, of at most 1048576 numbers.
  Changes of signs by grades, and the signs of all grades: contracts of the program.
  Conditions: the lists are nil or rows of known cells, of at most 1048576 numbers.
  Signs changed, and the laws' three functions that do so: contracts of the program and of the model.
  Conditions: the lists are nil or rows of known cells, of at most 1048576 numbers.
  The signs of those grades of which a multivector has blades: contracts of the program and of the model.
  Conditions: the lists are nil or rows of known cells, of at most 1048576 numbers.
  ReverseOf, InvoluteOf and ConjugateOf: contracts of the program and of the model.
  Conditions: the lists are nil or rows of known cells, of at most 1048576 numbers.
-/
import Derived.Test.YtckpcfhmppdghaaQu30
import Derived.Test.YtckpcfhmppdghaaQu33
import Derived.Deep.RegionHeld3
import Derived.Deep.DeepCutAuto
import Derived.Test.YtckpcfhmppdghaaQu9
import Derived.Test.YtckpcfhmppdghaaQu16
import Derived.Test.YtckpcfhmppdghaaQu15
import Derived.Deep.AppendLies
import Derived.StillTailTactics
namespace Go.Proofs.Ytckpcfhmppdghaa
open Go.RowKit
set_option linter.unusedVariables false

/-- The product by a fixed right factor, as sums. -/
theorem right_prod {p : Int} {S x y : List Int} {i : Nat} (hi : i < bl S) : sm (bl S) (fun j => y.getD j 0 * prodF p S (bladeM S j) x i) % p = prodF p S y x i := by
  have hi' : i < 2 ^ S.length := hi
  have e1 : ∀ j, j < bl S → prodF p S (bladeM S j) x i = (fz S j (j ^^^ i) S.length * x.getD (j ^^^ i) 0) % p := fun j hj => by
    unfold prodF gpz
    have h : ∀ a, a < 2 ^ S.length → (bladeM S j).getD a 0 * fz S a (a ^^^ i) S.length * x.getD (a ^^^ i) 0 = if a = j then fz S j (j ^^^ i) S.length * x.getD (j ^^^ i) 0 else 0 := fun a ha => by
      unfold bladeM
      rw [mkR_at _ (show a < bl S from ha)]
      by_cases e : a = j
      · subst e; rw [if_pos rfl, if_pos rfl, Int.one_mul]
      · rw [if_neg e, if_neg e, Int.zero_mul, Int.zero_mul]
    rw [sm_congr h, sm_single, if_pos (show j < 2 ^ S.length from hj)]
  unfold prodF gpz
  apply sm_congr_p
  intro j hj
  have := e1 j hj
  unfold prodF gpz at this
  rw [this, Int.mul_emod, Int.emod_emod, ← Int.mul_emod, Int.mul_assoc]
/-- What is solved has a solution. -/
theorem sol_yes {p : Int} {a : List (List Int)} {v : List Int} (h : Lst 1 p a) (hl : v.length = a.length) (hv : v.all (inr p) = true) (y : Nat → Int) (hy : ∀ r, r < a.length → sm (rw' a 0).length (fun j => at' a r j * y j) % p = v.getD r 0 % p) : solOk p a v = true := by
  have hpb := prm_bd h.prime
  have c0 := h.c0 0 h.lo
  obtain ⟨c, hc⟩ : ∃ c, c = (rw' a 0).length := ⟨_, rfl⟩
  have hX := col_rows h hl hv
  rw [← hc] at hX hy c0
  have hB : IsBas p (c + 1) (bes a (col v)) (solB p a v) := bas_is h.prime _ hX.len hX.rng
  have hR := hB.pivs
  unfold solOk
  rw [← hc]
  cases e : isPv (pvs (solB p a v)) (solB p a v).length c with
  | false => rfl
  | true =>
    exfalso
    refine (hR.pivot (by omega) (Nat.lt_succ_self c)).1 (isPv_iff.1 e) ⟨fun j => if j < c then - y j else if j = c then 1 else 0, ?_, ?_, fun j hj => ?_⟩
    · refine (hB.nul _).1 fun r hr => ?_
      rw [bes_len] at hr
      have hrl : (rw' a r).length = c := by rw [h.len r hr, hc]
      have b1 : ∀ j, j < c → at' (bes a (col v)) r j = at' a r j := fun j hj => by
        rw [bes_at hr hrl, if_pos hj]
      have b2 : at' (bes a (col v)) r c = v.getD r 0 := by
        rw [bes_at hr hrl, if_neg (Nat.lt_irrefl _), Nat.sub_self]
        unfold at'
        rw [col_row (by rw [hl]; exact hr)]
        rfl
      show (sm c _ + _) % p = 0
      rw [sm_congr (g := fun j => (-1) * (at' a r j * y j)) fun j hj => by
        rw [b1 j hj, if_pos hj, Int.mul_neg, Int.neg_one_mul], sm_mul]
      dsimp only
      rw [b2, if_neg (Nat.lt_irrefl _), if_pos rfl, Int.mul_one]
      have h1 := hy r hr
      have h2 : (v.getD r 0 - sm c (fun j => at' a r j * y j)) % p = 0 := Int.emod_eq_emod_iff_emod_sub_eq_zero.1 h1.symm
      rw [show -1 * sm c (fun j => at' a r j * y j) + v.getD r 0 = v.getD r 0 - sm c (fun j => at' a r j * y j) by omega]
      exact h2
    · dsimp only
      rw [if_neg (by omega), if_pos rfl]
    · dsimp only
      rw [if_neg (by omega), if_neg (by omega)]
/-- As many rows as columns, reduced: only 0 vanishes. -/
theorem rref_full {p : Int} {n : Nat} {R : Nat → Nat → Int} {P : Nat → Nat} (h : Rref p n n R P) {y : Nat → Int} (hy : nul p n n R y) {k : Nat} (hk : k < n) : y k % p = 0 := by
  have up : ∀ i, i < n → i ≤ P i := by
    intro i
    induction i with
    | zero => intro _; exact Nat.zero_le _
    | succ i ih => intro hi; have h1 := ih (by omega); have h2 := h.mono i (i + 1) (by omega) hi; omega
  have dn : ∀ d i, i + d + 1 = n → P i ≤ i := by
    intro d
    induction d with
    | zero => intro i hi; have := h.pv i (by omega); omega
    | succ d ih => intro i hi; have h1 := ih (i + 1) (by omega); have h2 := h.mono i (i + 1) (by omega) (by omega); omega
  have eP : ∀ i, i < n → P i = i := fun i hi => Nat.le_antisymm (dn (n - i - 1) i (by omega)) (up i hi)
  have h0 := hy k hk
  rw [sm_congr (g := fun j => if j = k then y k else 0) fun j hj => by
    by_cases e : j = k
    · subst e
      have h1 := h.one j hj
      rw [eP j hj] at h1
      rw [h1, if_pos rfl, Int.one_mul]
    · have h1 := h.zer j hj k hk e
      rw [eP j hj] at h1
      rw [h1, if_neg e, Int.zero_mul], sm_single, if_pos hk] at h0
  exact h0
/-- Rows of full rank make everything. -/
theorem full_sol {p : Int} {A : List (List Int)} {n : Nat} (hp : prm p = true) (hn : A.length = n) (hB : IsBas p n A (bas p A)) (hr : (bas p A).length = n) (v : Nat → Int) : ∃ z : Nat → Int, ∀ j, j < n → sm n (fun i => z i * at' A i j) % p = v j % p := by
  have hpb := prm_bd hp
  obtain ⟨P, hP⟩ := hB.red
  rw [hr] at hP
  have only : ∀ y, nul p n n (at' A) y → ∀ k, k < n → y k % p = 0 := fun y hy k hk => by
    have h1 := (hB.nul y).1 (by rw [hn]; exact hy)
    rw [hr] at h1
    exact rref_full hP h1 hk
  obtain ⟨x, hx, k, hk, hk1⟩ := under hp (Nat.lt_succ_self n) fun j t => if t < n then at' A t j else v j
  have hx' : ∀ j, j < n → (sm n (fun i => at' A i j * x i) + v j * x n) % p = 0 := fun j hj => by
    have h0 := hx j hj
    refine Eq.trans ?_ h0
    show _ = (sm n _ + _) % p
    congr 1
    congr 1
    · exact sm_congr fun i hi => by dsimp only; rw [if_pos hi]
    · dsimp only; rw [if_neg (Nat.lt_irrefl _)]
  by_cases hz : x n % p = 0
  · exfalso
    have hkn : k < n := by
      rcases Nat.lt_or_ge k n with h | h
      · exact h
      · exfalso
        have e : k = n := by omega
        rw [← e, hk1, Int.emod_eq_of_lt (by omega) (by omega)] at hz
        cases hz
    have hd : ∀ j, j < n → sm n (fun i => at' A i j * x i) % p = 0 := fun j hj => by
      have h0 := hx' j hj
      rw [Int.add_emod, Int.mul_emod (v j), hz, Int.mul_zero, Int.zero_emod, Int.add_zero, Int.emod_emod] at h0
      exact h0
    obtain ⟨y, hy, l, hl, hl1⟩ := under hp (show n - 1 < n by omega) fun i j => at' A (if i < k then i else i + 1) j
    have hrow : ∀ i, i < n → i ≠ k → sm n (fun j => at' A i j * y j) % p = 0 := fun i hi hne => by
      rcases Nat.lt_or_gt_of_ne hne with hlt | hgt
      · have h := hy i (by omega)
        dsimp only at h
        rw [if_pos hlt] at h
        exact h
      · have h := hy (i - 1) (by omega)
        dsimp only at h
        rw [if_neg (by omega), show i - 1 + 1 = i by omega] at h
        exact h
    have hall : nul p n n (at' A) y := fun i hi => by
      by_cases e : i = k
      · subst e
        have h1 : sm n (fun i' => x i' * sm n (fun j => at' A i' j * y j)) % p = 0 := by
          have e1 : sm n (fun i' => x i' * sm n (fun j => at' A i' j * y j)) = sm n (fun j => y j * sm n (fun i' => at' A i' j * x i')) := by
            rw [sm_congr (g := fun i' => sm n (fun j => x i' * (at' A i' j * y j))) fun i' _ => (sm_mul n (x i') _).symm, sm_swap]
            exact sm_congr fun j _ => by
              rw [← sm_mul]
              exact sm_congr fun i' _ => by rw [Int.mul_left_comm (x i'), Int.mul_comm (x i') (y j), Int.mul_left_comm (at' A i' j)]
          rw [e1]
          exact sm_modz fun j hj => mod_z (hd j hj)
        have h2 : sm n (fun i' => x i' * sm n (fun j => at' A i' j * y j)) % p = sm n (fun i' => if i' = i then sm n (fun j => at' A i j * y j) else 0) % p := sm_same fun i' hi' => by
          by_cases e : i' = i
          · subst e; rw [if_pos rfl, hk1, Int.one_mul]
          · rw [if_neg e, mod_z (hrow i' hi' e)]; rfl
        rw [h2, sm_single, if_pos hi] at h1
        exact h1
      · exact hrow i hi e
    have h9 := only y hall l hl
    rw [hl1, Int.emod_eq_of_lt (by omega) (by omega)] at h9
    cases h9
  · obtain ⟨u, hu⟩ : ∃ u : Int, u * x n % p = 1 := by
      refine ⟨inv p (x n % p), ?_⟩
      have hb := Int.emod_nonneg (x n) (show p ≠ 0 by omega)
      have hb2 := Int.emod_lt_of_pos (x n) (show 0 < p by omega)
      have h := inv_mul hp (show 1 ≤ x n % p by omega) hb2
      rw [Int.mul_emod, Int.emod_emod, ← Int.mul_emod] at h
      rw [Int.mul_comm]
      first | exact h | (rw [Int.mul_comm]; exact h)
    refine ⟨fun i => - (u * x i), fun j hj => ?_⟩
    have h0 := hx' j hj
    have e1 : sm n (fun i => - (u * x i) * at' A i j) = - u * sm n (fun i => at' A i j * x i) := by
      rw [← sm_mul]
      exact sm_congr fun i _ => by rw [Int.neg_mul, Int.neg_mul, Int.mul_assoc, Int.mul_comm (x i)]
    rw [e1]
    apply Int.emod_eq_emod_iff_emod_sub_eq_zero.2
    have e2 : - u * sm n (fun i => at' A i j * x i) - v j = - u * (sm n (fun i => at' A i j * x i) + v j * x n) + v j * (u * x n - 1) := by
      rw [Int.mul_add, Int.mul_sub, Int.mul_one, Int.neg_mul, Int.neg_mul, show u * (v j * x n) = v j * (u * x n) from Int.mul_left_comm _ _ _]
      omega
    rw [e2, Int.add_emod, mod_z h0, mod_z (show (u * x n - 1) % p = 0 from Int.emod_eq_emod_iff_emod_sub_eq_zero.1 (by rw [hu, Int.emod_eq_of_lt (by omega) (by omega)]))]
    rfl
theorem rank_le {p : Int} {S : List Int} (hs : isSp p S = true) (h4 : S.length ≤ 4) (x : List Int) : (bas p (colsR p S x)).length ≤ bl S := by
  have hB := (colsR_lst hs h4 x 1 (Nat.le_refl _)).wide.bas
  rw [colsR_rl (bl_pos S)] at hB
  obtain ⟨P, hP⟩ := hB.red
  exact rref_le hP
/-- The rank is full exactly if there is an inverse. -/
theorem ideal_full {p : Int} {S x : List Int} (hs : isSp p S = true) (h4 : S.length ≤ 4) (mx : isMv p S x = true) : (bas p (colsR p S x)).length = bl S ↔ invOk p S x = true := by
  have hp := (isSp_iff.1 hs).prime
  have hpb := prm_bd hp
  have hb := bl_pos S
  have hL := colsR_lst hs h4 x 1 (Nat.le_refl _)
  have hB := hL.wide.bas
  rw [colsR_rl hb] at hB
  have ec : ∀ i j, i < bl S → j < bl S → at' (colsR p S x) i j = prodF p S (bladeM S i) x j := fun i j hi hj => mk_at _ hi hj
  constructor
  · intro hr
    obtain ⟨z, hz⟩ := full_sol hp (colsR_len p S x) hB hr fun j => (mOne S).getD j 0
    obtain ⟨Z, hZ⟩ : ∃ Z : List Int, Z = mkR (bl S) fun i => z i % p := ⟨_, rfl⟩
    have lZ : Z.length = bl S := by rw [hZ, mkR_len]
    have mZ : isMv p S Z = true := isMv_of lZ fun j hj => by
      rw [lZ] at hj
      rw [hZ, mkR_at _ hj]
      exact ⟨Int.emod_nonneg _ (by omega), Int.emod_lt_of_pos _ (by omega)⟩
    have hzx : prodM p S Z x = mOne S := by
      apply row_ext (by rw [prodM_len, one_len])
      intro j hj
      rw [prodM_len] at hj
      rw [prodM_at p S _ _ hj, ← right_prod hj]
      have h1 := hz j hj
      have h2 := Mv.num (one_mv hs) j (by rw [one_len]; exact hj)
      rw [Int.emod_eq_of_lt h2.1 h2.2] at h1
      rw [← h1]
      refine sm_same fun i hi => ?_
      rw [hZ, mkR_at _ hi, ec i j hi hj, Int.mul_emod, Int.emod_emod, ← Int.mul_emod]
    have hxz := inv_both hs mx hzx
    unfold invOk
    refine sol_yes (left_lst hs h4) (by rw [one_len, left_len]) (one_allQ hs) (fun j => Z.getD j 0) fun r hr2 => ?_
    rw [left_len] at hr2
    rw [left_rl hb]
    have h3 := Mv.num (one_mv hs) r (by rw [one_len]; exact hr2)
    rw [Int.emod_eq_of_lt h3.1 h3.2, ← hxz, prodM_at p S _ _ hr2, ← left_prod hr2]
    congr 1
    exact sm_congr fun j hj => by rw [show at' (leftM p S x) r j = prodF p S x (bladeM S j) r from mk_at _ hr2 hj]
  · intro hok
    obtain ⟨hy, hyx⟩ := inv_is hs h4 hok
    have hle := rank_le hs h4 x
    rcases Nat.lt_or_ge (bas p (colsR p S x)).length (bl S) with hlt | hge
    · exfalso
      obtain ⟨f, hf, k, hk, hk1⟩ := under hp hlt (at' (bas p (colsR p S x)))
      have hf2 := (hB.nul f).2 hf
      rw [colsR_len] at hf2
      obtain ⟨u, hu⟩ : ∃ u : List Int, u = prodM p S (bladeM S k) (invY p S x) := ⟨_, rfl⟩
      have hux : prodM p S u x = bladeM S k := by
        rw [hu, prodM_assoc, hyx]
        exact one_r (blade_mv hs k)
      have h1 : sm (bl S) (fun j => prodF p S u x j * f j) % p = 0 := by
        have e1 : sm (bl S) (fun j => prodF p S u x j * f j) % p = sm (bl S) (fun j => sm (bl S) (fun i => u.getD i 0 * prodF p S (bladeM S i) x j) * f j) % p := sm_same fun j hj => by
          rw [← right_prod hj, Int.mul_emod, Int.emod_emod, ← Int.mul_emod]
        have e2 : sm (bl S) (fun j => sm (bl S) (fun i => u.getD i 0 * prodF p S (bladeM S i) x j) * f j) = sm (bl S) (fun i => u.getD i 0 * sm (bl S) (fun j => at' (colsR p S x) i j * f j)) := by
          rw [sm_congr (g := fun j => sm (bl S) (fun i => f j * (u.getD i 0 * prodF p S (bladeM S i) x j))) fun j _ => by rw [Int.mul_comm, ← sm_mul], sm_swap]
          exact sm_congr fun i hi => by
            rw [← sm_mul]
            exact sm_congr fun j hj => by rw [ec i j hi hj, Int.mul_comm, Int.mul_assoc]
        rw [e1, e2]
        exact sm_modz fun i hi => mod_z (hf2 i hi)
      rw [sm_congr (g := fun j => if j = k then 1 else 0) fun j hj => by
        have e : prodF p S u x j = (bladeM S k).getD j 0 := by rw [← hux, prodM_at p S _ _ hj]
        rw [e]
        unfold bladeM
        rw [mkR_at _ hj]
        by_cases e2 : j = k
        · subst e2; rw [if_pos rfl, hk1]; rfl
        · rw [if_neg e2, Int.zero_mul], sm_single, if_pos hk, Int.emod_eq_of_lt (by omega) (by omega)] at h1
      cases h1
    · omega

end Go.Proofs.Ytckpcfhmppdghaa

namespace Go.Proofs.Ytckpcfhmppdghaa
open Go.RowKit
set_option linter.unusedVariables false

noncomputable def hiV (p : Int) (S x : List Int) : Bool := if stC p S [x] = 0 then invOk p S x else false
theorem full_dec {p : Int} {S x : List Int} (hs : isSp p S = true) (h4 : S.length ≤ 4) (mx : isMv p S x = true) : (((bas p (colsR p S x)).length : Int) == (bl S : Int)) = invOk p S x := by
  have h := ideal_full hs h4 mx
  cases e : invOk p S x with
  | true =>
    have h1 := h.2 e
    rw [h1]; simp
  | false =>
    have h1 : ¬ (bas p (colsR p S x)).length = bl S := fun k => by rw [h.1 k] at e; cases e
    rw [beq_eq_false_iff_ne]
    omega
theorem l04Inverse_yes (pS : Int) (aS : Option Addr) (S : List Int) (cS loS tpS : Nat) (ax : Option Addr) (x : List Int) (cx lox tpx : Nat) (w : World) (hs : isSp pS S = true) (hS : RowIn loS tpS w aS S) (tS : tpS ≤ w.heap.size) (hx : RowIn lox tpx w ax x) (tx : tpx ≤ w.heap.size) (mx : isMv pS S x = true) (h4 : S.length ≤ 4) (hok : invOk pS S x = true) :
    Calls Try.prog 40 #[.agg #[.int .i64 pS, .slice aS S.length cS], .slice ax x.length cx] w (fun e w' => ∃ r k, e = .returned (.tuple #[.slice r (invY pS S x).length k, .bool true]) ∧ Below w.heap.size w w') :=
  (l04Inverse_any pS aS S cS loS tpS ax x cx lox tpx w hs h4 hS tS hx tx mx).mono fun _ _ h => by
    unfold InvRet at h
    rw [hok] at h
    first
      | (rw [if_pos rfl] at h; obtain ⟨r, k, e, _, b⟩ := h; exact ⟨r, k, e, b⟩)
      | (rw [if_neg (by decide)] at h; obtain ⟨k, e, b⟩ := h; exact ⟨none, k, e, b⟩)
theorem l04Inverse_no (pS : Int) (aS : Option Addr) (S : List Int) (cS loS tpS : Nat) (ax : Option Addr) (x : List Int) (cx lox tpx : Nat) (w : World) (hs : isSp pS S = true) (hS : RowIn loS tpS w aS S) (tS : tpS ≤ w.heap.size) (hx : RowIn lox tpx w ax x) (tx : tpx ≤ w.heap.size) (mx : isMv pS S x = true) (h4 : S.length ≤ 4) (hok : invOk pS S x = false) :
    Calls Try.prog 40 #[.agg #[.int .i64 pS, .slice aS S.length cS], .slice ax x.length cx] w (fun e w' => ∃ r k, e = .returned (.tuple #[.slice r 0 k, .bool false]) ∧ Below w.heap.size w w') :=
  (l04Inverse_any pS aS S cS loS tpS ax x cx lox tpx w hs h4 hS tS hx tx mx).mono fun _ _ h => by
    unfold InvRet at h
    rw [hok] at h
    first
      | (rw [if_pos rfl] at h; obtain ⟨r, k, e, _, b⟩ := h; exact ⟨r, k, e, b⟩)
      | (rw [if_neg (by decide)] at h; obtain ⟨k, e, b⟩ := h; exact ⟨none, k, e, b⟩)

set_option maxRecDepth 100000 in
set_option maxHeartbeats 3200000 in
theorem impl_HasInverse (pS : Int) (aS : Option Addr) (S : List Int) (cS loS tpS : Nat) (ax : Option Addr) (x : List Int) (cx lox tpx : Nat) (w : World) (hS : RowIn loS tpS w aS S) (tS : tpS ≤ w.heap.size) (sS : S.length ≤ 1048576) (hx : RowIn lox tpx w ax x) (tx : tpx ≤ w.heap.size) (sx : x.length ≤ 1048576) :
    Calls Try.prog 23 #[.agg #[.int .i64 pS, .slice aS S.length cS], .slice ax x.length cx] w (RetB (hiV pS S x) (stC pS S [x]) w) := by
  have HS := Lib.hid hS
  have Hx := Lib.hid hx
  have k0 := nw0 w (.int .i64 pS) (.slice aS S.length cS) 29
  have k1 := nw1 w (.int .i64 pS) (.slice aS S.length cS) 29
  have HB0 := Lib.hid (below_alloc w (.cells #[.int .i64 pS, .slice aS S.length cS] 29))
  clear hS hx
  by_cases h0 : stC pS S [x] = 0
  · have HC0 := Lib.hid h0
    have hz := stC_one h0
    have HI := Lib.hid hz.1
    have HMX := Lib.hid hz.2.1
    have H4 := Lib.hid hz.2.2
    have HV : Hid (hiV pS S x = invOk pS S x) := if_pos h0
    have h6 := (isSp_iff.1 hz.1).hi
    clear h0 hz
    have fv := field_ech
    have HL := Lib.hid (isL_iff.2 (colsR_lst HI.out H4.out x 0 (Nat.zero_le _)))
    have HD := Lib.hid (full_dec HI.out H4.out HMX.out)
    go_enter Try.func23, Try.ntmps23
    go_upto_region 1 with fail
    obtain ⟨w1, hw1⟩ : ∃ z, z = w.alloc (.cells #[.int .i64 pS, .slice aS S.length cS] 29) := ⟨_, rfl⟩
    rw [← hw1] at HB0 k0 k1 ⊢
    have hd1 : w.heap.size < w1.heap.size := by rw [hw1]; simp
    have HB1 := HB0
    clear hw1
    have SS1 := Lib.hid (And.intro k0 k1)
    go_wp2_with (go_at_call 33; ((with_reducible refine (checkS1 pS aS S cS loS tpS ax x cx lox tpx _ _ w1 _ rfl (HS.out.below HB1.out tS) (Nat.le_trans tS HB1.out.size) sS (Hx.out.below HB1.out tx) (Nat.le_trans tx HB1.out.size) sx).mono ?_); rintro e w2 ⟨rfl, b_⟩; rw [HC0.out]; have b2_ := below_step (below_alloc w1 (.cells #[.slice ax x.length cx] 22)) (size_alloc w1 (.cells #[.slice ax x.length cx] 22)) b_; have SS2 := Lib.hid (ss2 b2_ hd1 SS1.out); have HB2 := Lib.hid (below_step HB1.out HB1.out.size b2_); have hd2 := Nat.lt_of_lt_of_le hd1 b2_.size; clear k0 k1; obtain ⟨k0, k1⟩ := SS2.out; clear b_ b2_))
    have hs1 : Hid (w2.drew.cell? ⟨w.heap.size, 0, none⟩ = some (.int .i64 pS) ∧ w2.drew.cell? ⟨w.heap.size, 1, none⟩ = some (.slice aS S.length cS)) := SS2.out
    have HBD : Hid (Below w.heap.size w w2.drew) := HB2.out.drew
    have hdd : w.heap.size < w2.drew.heap.size := hd2
    go_region_held3 (fun w' => w'.cell? ⟨w.heap.size, 0, none⟩ = some (.int .i64 pS) ∧ w'.cell? ⟨w.heap.size, 1, none⟩ = some (.slice aS S.length cS)) (first | exact hs1.out | exact SSa.out | exact SSab.out | exact SSabc.out | go_keep) (first | (go_at_call 35; (with_reducible refine (rightProducts_own pS aS S cS loS tpS ax x cx lox tpx w2.drew HI.out (HS.out.below HBD.out tS) (Nat.le_trans tS (HBD.out).size) (Hx.out.below HBD.out tx) (Nat.le_trans tx (HBD.out).size) HMX.out).mono ?_); rintro e wa ⟨ra, ka, rfl, o_, b_⟩; have SSa := Lib.hid (ss2 b_ hdd hs1.out); have HBa := Lib.hid (below_step HBD.out (Nat.le_of_lt hdd) b_); have zz_ := b_.size; have hda := Nat.lt_of_lt_of_le hdd zz_; have Ma_a := Lib.hid (o_.mat.mono (Nat.le_of_lt hdd) (Nat.le_refl _)); clear b_ o_) | (go_at_call 34; (with_reducible refine (elimO pS ra (colsR pS S x) ka w.heap.size wa.heap.size wa Ma_a.out (Nat.le_refl _) HL.out).mono ?_); rintro e wab ⟨rb, kb, vb, db, rfl, o_, b_⟩; have SSab := Lib.hid (ss2 b_ hda SSa.out); have HBab := Lib.hid (below_step HBa.out (Nat.le_of_lt hda) b_); have zz_ := b_.size; have hdab := Nat.lt_of_lt_of_le hda zz_; have Ma_ab := Lib.hid ((Ma_a.out.below b_ (Nat.le_refl _)).mono (Nat.le_refl _) zz_); have Mb_ab := Lib.hid (o_.mat.mono (Nat.le_of_lt hda) (Nat.le_refl _)); clear b_ o_) | (go_at_call 41; (with_reducible refine (blades_any pS aS S cS wab h6).mono ?_); rintro e wabc ⟨rfl, b_⟩; have SSabc := Lib.hid (ss2 b_ hdab SSab.out); have HBabc := Lib.hid (below_step HBab.out (Nat.le_of_lt hdab) b_); have zz_ := b_.size; have hdabc := Nat.lt_of_lt_of_le hdab zz_; have Ma_abc := Lib.hid ((Ma_ab.out.below b_ (Nat.le_refl _)).mono (Nat.le_refl _) zz_); have Mb_abc := Lib.hid ((Mb_ab.out.below b_ (Nat.le_refl _)).mono (Nat.le_refl _) zz_); clear b_))
    all_goals
      go_wp2
      go_ret2
      exact ⟨by rw [HV.out, HC0.out, ← HD.out]; rfl, HBabc.out⟩
  · have HV : Hid (hiV pS S x = false) := if_neg h0
    obtain ⟨C, hC⟩ : ∃ c, c = stC pS S [x] := ⟨_, rfl⟩
    have hc1 : (C != 0) = true := by rw [hC]; simpa using h0
    have hc2 : (C == 0) = false := by rw [hC]; simpa using h0
    have HCE := Lib.hid hC
    clear hC
    clear h0
    go_enter Try.func23, Try.ntmps23
    go_upto_region 1 with fail
    obtain ⟨w1, hw1⟩ : ∃ z, z = w.alloc (.cells #[.int .i64 pS, .slice aS S.length cS] 29) := ⟨_, rfl⟩
    rw [← hw1] at HB0 k0 k1 ⊢
    have hd1 : w.heap.size < w1.heap.size := by rw [hw1]; simp
    have HB1 := HB0
    clear hw1
    have SS1 := Lib.hid (And.intro k0 k1)
    go_wp2_with (go_at_call 33; ((with_reducible refine (checkS1 pS aS S cS loS tpS ax x cx lox tpx _ _ w1 _ rfl (HS.out.below HB1.out tS) (Nat.le_trans tS HB1.out.size) sS (Hx.out.below HB1.out tx) (Nat.le_trans tx HB1.out.size) sx).mono ?_); rintro e w2 ⟨rfl, b_⟩; rw [← HCE.out]; have b2_ := below_step (below_alloc w1 (.cells #[.slice ax x.length cx] 22)) (size_alloc w1 (.cells #[.slice ax x.length cx] 22)) b_; have SS2 := Lib.hid (ss2 b2_ hd1 SS1.out); have HB2 := Lib.hid (below_step HB1.out HB1.out.size b2_); have hd2 := Nat.lt_of_lt_of_le hd1 b2_.size; clear k0 k1; obtain ⟨k0, k1⟩ := SS2.out; clear b_ b2_))
    go_ret2
    rw [HV.out, ← HCE.out]
    exact ⟨rfl, HB2.out⟩

set_option maxRecDepth 100000 in
set_option maxHeartbeats 3200000 in
theorem spec_HasInverse (pS : Int) (aS : Option Addr) (S : List Int) (cS loS tpS : Nat) (ax : Option Addr) (x : List Int) (cx lox tpx : Nat) (w : World) (hS : RowIn loS tpS w aS S) (tS : tpS ≤ w.heap.size) (sS : S.length ≤ 1048576) (hx : RowIn lox tpx w ax x) (tx : tpx ≤ w.heap.size) (sx : x.length ≤ 1048576) :
    Calls Try.prog 22 #[.agg #[.int .i64 pS, .slice aS S.length cS], .slice ax x.length cx] w (RetB (hiV pS S x) (stC pS S [x]) w) := by
  have HS := Lib.hid hS
  have Hx := Lib.hid hx
  have k0 := nw0 w (.int .i64 pS) (.slice aS S.length cS) 29
  have k1 := nw1 w (.int .i64 pS) (.slice aS S.length cS) 29
  have HB0 := Lib.hid (below_alloc w (.cells #[.int .i64 pS, .slice aS S.length cS] 29))
  clear hS hx
  by_cases h0 : stC pS S [x] = 0
  · have HC0 := Lib.hid h0
    have hz := stC_one h0
    have HI := Lib.hid hz.1
    have HMX := Lib.hid hz.2.1
    have H4 := Lib.hid hz.2.2
    have HV : Hid (hiV pS S x = invOk pS S x) := if_pos h0
    have h6 := (isSp_iff.1 hz.1).hi
    clear h0 hz
    cases hok : invOk pS S x with
    | true =>
      have HOK := Lib.hid hok
      clear hok
      go_enter Try.func22, Try.ntmps22
      go_upto_region 1 with fail
      obtain ⟨w1, hw1⟩ : ∃ z, z = w.alloc (.cells #[.int .i64 pS, .slice aS S.length cS] 29) := ⟨_, rfl⟩
      rw [← hw1] at HB0 k0 k1 ⊢
      have hd1 : w.heap.size < w1.heap.size := by rw [hw1]; simp
      have HB1 := HB0
      clear hw1
      have SS1 := Lib.hid (And.intro k0 k1)
      go_wp2_with (first | (go_at_call 30; ((with_reducible refine (codeS1 pS aS S cS loS tpS ax x cx lox tpx _ _ w1 _ rfl (HS.out.below HB1.out tS) (Nat.le_trans tS HB1.out.size) sS (Hx.out.below HB1.out tx) (Nat.le_trans tx HB1.out.size) sx).mono ?_); rintro e w2 ⟨rfl, b_⟩; rw [HC0.out]; have b2_ := below_step (below_alloc w1 (.cells #[.slice ax x.length cx] 22)) (size_alloc w1 (.cells #[.slice ax x.length cx] 22)) b_; have SS2 := Lib.hid (ss2 b2_ hd1 SS1.out); have HB2 := Lib.hid (below_step HB1.out HB1.out.size b2_); have hd2 := Nat.lt_of_lt_of_le hd1 b2_.size; clear k0 k1; obtain ⟨k0, k1⟩ := SS2.out; clear b_ b2_)) | (go_at_call 40; ((with_reducible refine (l04Inverse_yes pS aS S cS loS tpS ax x cx lox tpx w2 HI.out (HS.out.below HB2.out tS) (Nat.le_trans tS HB2.out.size) (Hx.out.below HB2.out tx) (Nat.le_trans tx HB2.out.size) HMX.out H4.out HOK.out).mono ?_); rintro e w3 ⟨r, k, rfl, b_⟩; have SS3 := Lib.hid (ss2 b_ hd2 SS2.out); have HB3 := Lib.hid (below_step HB2.out HB2.out.size b_); have hd3 := Nat.lt_of_lt_of_le hd2 b_.size; clear k0 k1; obtain ⟨k0, k1⟩ := SS3.out; clear b_)))
      go_ret2
      exact ⟨by rw [HV.out, HC0.out, HOK.out]; rfl, HB3.out⟩
    | false =>
      have HOK := Lib.hid hok
      clear hok
      go_enter Try.func22, Try.ntmps22
      go_upto_region 1 with fail
      obtain ⟨w1, hw1⟩ : ∃ z, z = w.alloc (.cells #[.int .i64 pS, .slice aS S.length cS] 29) := ⟨_, rfl⟩
      rw [← hw1] at HB0 k0 k1 ⊢
      have hd1 : w.heap.size < w1.heap.size := by rw [hw1]; simp
      have HB1 := HB0
      clear hw1
      have SS1 := Lib.hid (And.intro k0 k1)
      go_wp2_with (first | (go_at_call 30; ((with_reducible refine (codeS1 pS aS S cS loS tpS ax x cx lox tpx _ _ w1 _ rfl (HS.out.below HB1.out tS) (Nat.le_trans tS HB1.out.size) sS (Hx.out.below HB1.out tx) (Nat.le_trans tx HB1.out.size) sx).mono ?_); rintro e w2 ⟨rfl, b_⟩; rw [HC0.out]; have b2_ := below_step (below_alloc w1 (.cells #[.slice ax x.length cx] 22)) (size_alloc w1 (.cells #[.slice ax x.length cx] 22)) b_; have SS2 := Lib.hid (ss2 b2_ hd1 SS1.out); have HB2 := Lib.hid (below_step HB1.out HB1.out.size b2_); have hd2 := Nat.lt_of_lt_of_le hd1 b2_.size; clear k0 k1; obtain ⟨k0, k1⟩ := SS2.out; clear b_ b2_)) | (go_at_call 40; ((with_reducible refine (l04Inverse_no pS aS S cS loS tpS ax x cx lox tpx w2 HI.out (HS.out.below HB2.out tS) (Nat.le_trans tS HB2.out.size) (Hx.out.below HB2.out tx) (Nat.le_trans tx HB2.out.size) HMX.out H4.out HOK.out).mono ?_); rintro e w3 ⟨r, k, rfl, b_⟩; have SS3 := Lib.hid (ss2 b_ hd2 SS2.out); have HB3 := Lib.hid (below_step HB2.out HB2.out.size b_); have hd3 := Nat.lt_of_lt_of_le hd2 b_.size; clear k0 k1; obtain ⟨k0, k1⟩ := SS3.out; clear b_)))
      go_ret2
      exact ⟨by rw [HV.out, HC0.out, HOK.out]; rfl, HB3.out⟩
  · have HV : Hid (hiV pS S x = false) := if_neg h0
    obtain ⟨C, hC⟩ : ∃ c, c = stC pS S [x] := ⟨_, rfl⟩
    have hc1 : (C != 0) = true := by rw [hC]; simpa using h0
    have hc2 : (C == 0) = false := by rw [hC]; simpa using h0
    have HCE := Lib.hid hC
    clear hC
    clear h0
    go_enter Try.func22, Try.ntmps22
    go_upto_region 1 with fail
    obtain ⟨w1, hw1⟩ : ∃ z, z = w.alloc (.cells #[.int .i64 pS, .slice aS S.length cS] 29) := ⟨_, rfl⟩
    rw [← hw1] at HB0 k0 k1 ⊢
    have hd1 : w.heap.size < w1.heap.size := by rw [hw1]; simp
    have HB1 := HB0
    clear hw1
    have SS1 := Lib.hid (And.intro k0 k1)
    go_wp2_with (go_at_call 30; ((with_reducible refine (codeS1 pS aS S cS loS tpS ax x cx lox tpx _ _ w1 _ rfl (HS.out.below HB1.out tS) (Nat.le_trans tS HB1.out.size) sS (Hx.out.below HB1.out tx) (Nat.le_trans tx HB1.out.size) sx).mono ?_); rintro e w2 ⟨rfl, b_⟩; rw [← HCE.out]; have b2_ := below_step (below_alloc w1 (.cells #[.slice ax x.length cx] 22)) (size_alloc w1 (.cells #[.slice ax x.length cx] 22)) b_; have SS2 := Lib.hid (ss2 b2_ hd1 SS1.out); have HB2 := Lib.hid (below_step HB1.out HB1.out.size b2_); have hd2 := Nat.lt_of_lt_of_le hd1 b2_.size; clear k0 k1; obtain ⟨k0, k1⟩ := SS2.out; clear b_ b2_))
    go_ret2
    rw [HV.out, ← HCE.out]
    exact ⟨rfl, HB2.out⟩

end Go.Proofs.Ytckpcfhmppdghaa

namespace Go.Proofs.Ytckpcfhmppdghaa
open Go.RowKit
set_option linter.unusedVariables false

/-- Whether a term of grade g has come. -/
def cm (x : List Int) (left : Lit → Bool) (g : Nat) : Bool := (List.range x.length).any fun j => decide (gr j = g) && decide (x.getD j 0 ≠ 0) && !(td left j)
end Go.Proofs.Ytckpcfhmppdghaa

namespace Go.Proofs.Ytckpcfhmppdghaa
open Go.RowKit
set_option linter.unusedVariables false

/-- A list is handed back by the model. -/
def SRow (R : List Int) (w : World) (e : Ending) (w' : World) : Prop := ∃ r k, e = .returned (.slice r R.length k) ∧ RowIn w.heap.size w'.heap.size w' r R ∧ Below w.heap.size w w'
end Go.Proofs.Ytckpcfhmppdghaa
