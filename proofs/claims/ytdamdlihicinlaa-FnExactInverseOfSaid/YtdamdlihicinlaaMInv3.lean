/-
  Inverses of multivectors: what solves one equation is the inverse on both sides. No Go in sight.
  No conditions.
  The matrix of the products with a multivector, in the program and in the model: contracts.
  Conditions: a space of at most 4 squares and a multivector of it: rows of known cells.
  The program's matrix of the products with a multivector: contract.
  Conditions: a space and a multivector of it: rows of known cells.
  Two lists compared: contracts of the program and of the model.
  Conditions: the lists are nil or rows of known cells, of at most 1048576 numbers.
-/
import Derived.Test.YtdamdlihicinlaaMInv1
import Derived.Test.YtdamdlihicinlaaMInv2
import Derived.Deep.RegionHeld3
import Derived.Deep.DeepCutAuto
import Derived.Test.YtdamdlihicinlaaMvP
import Derived.BigQuiet
namespace Go.Proofs.Ytdamdlihicinlaa
open Go.RowKit
set_option linter.unusedVariables false

/-- More places than values: two have the same. -/
theorem pigeon : ∀ (N : Nat) (f : Nat → Nat), (∀ k, k ≤ N → f k < N) → ∃ i j, i < j ∧ j ≤ N ∧ f i = f j
  | 0, f, h => absurd (h 0 (Nat.le_refl _)) (Nat.not_lt_zero _)
  | N + 1, f, h => by
    by_cases e : ∃ i, i ≤ N ∧ f i = f (N + 1)
    · obtain ⟨i, hi, he⟩ := e
      exact ⟨i, N + 1, by omega, Nat.le_refl _, he⟩
    · have hne : ∀ i, i ≤ N → f i ≠ f (N + 1) := fun i hi he => e ⟨i, hi, he⟩
      obtain ⟨i, j, h1, h2, h3⟩ := pigeon N (fun k => if f (N + 1) < f k then f k - 1 else f k) (fun k hk => by
        have a := h k (by omega); have b := hne k hk; have c := h (N + 1) (Nat.le_refl _)
        show (if f (N + 1) < f k then f k - 1 else f k) < N
        split <;> omega)
      refine ⟨i, j, h1, by omega, ?_⟩
      have a := hne i (by omega); have b := hne j h2
      have h4 : (if f (N + 1) < f i then f i - 1 else f i) = (if f (N + 1) < f j then f j - 1 else f j) := h3
      split at h4 <;> split at h4 <;> omega
/-- The number of a list of digits. -/
def enc (b : Nat) : List Int → Nat
  | [] => 0
  | a :: l => a.toNat + b * enc b l
theorem enc_lt (b : Nat) : ∀ z : List Int, (∀ y, y ∈ z → 0 ≤ y ∧ y < (b : Int)) → enc b z < b ^ z.length
  | [], _ => by simp [enc]
  | a :: l, h => by
    have h1 := h a (by simp)
    have h2 := enc_lt b l (fun y hy => h y (by simp [hy]))
    show a.toNat + b * enc b l < b ^ (l.length + 1)
    have h3 : b * (enc b l + 1) ≤ b * b ^ l.length := Nat.mul_le_mul_left b h2
    rw [Nat.mul_add, Nat.mul_one] at h3
    rw [Nat.pow_succ, Nat.mul_comm (b ^ l.length)]
    omega
theorem enc_inj (b : Nat) : ∀ z z' : List Int, z.length = z'.length → (∀ y, y ∈ z → 0 ≤ y ∧ y < (b : Int)) → (∀ y, y ∈ z' → 0 ≤ y ∧ y < (b : Int)) → enc b z = enc b z' → z = z'
  | [], [], _, _, _, _ => rfl
  | [], _ :: _, h, _, _, _ => by simp at h
  | _ :: _, [], h, _, _, _ => by simp at h
  | a :: l, a' :: l', hl, h, h', e => by
    have h1 := h a (by simp)
    have h2 := h' a' (by simp)
    have e1 : a.toNat + b * enc b l = a'.toNat + b * enc b l' := e
    have hb : 0 < b := by omega
    have e2 : a.toNat = a'.toNat := by
      have := congrArg (· % b) e1
      simp only [Nat.add_mul_mod_self_left] at this
      rwa [Nat.mod_eq_of_lt (by omega), Nat.mod_eq_of_lt (by omega)] at this
    have e3 : enc b l = enc b l' := Nat.eq_of_mul_eq_mul_left hb (by omega)
    rw [enc_inj b l l' (by simpa using hl) (fun y hy => h y (by simp [hy])) (fun y hy => h' y (by simp [hy])) e3, show a = a' by omega]
theorem mv_mem {p : Int} {S z : List Int} (hp : 0 < p) (h : isMv p S z = true) : ∀ y, y ∈ z → 0 ≤ y ∧ y < (p.toNat : Int) := fun y hy => by
  obtain ⟨j, hj, rfl⟩ := List.getElem_of_mem hy
  have h2 := Mv.num h j hj
  rw [getD_at hj] at h2
  omega
/-- Powers come back. -/
theorem mpow_back {p : Int} {S x : List Int} (hs : isSp p S = true) : ∃ a d, 0 < d ∧ mPow p S x a = mPow p S x (a + d) := by
  have hp := prm_bd (isSp_iff.1 hs).prime
  have hm := fun k => mv_mem (p := p) (S := S) (by omega) (mpow_mv (x := x) hs k)
  obtain ⟨i, j, h1, _, h3⟩ := pigeon (p.toNat ^ bl S) (fun k => enc p.toNat (mPow p S x k)) (fun k _ => by
    have h := enc_lt p.toNat (mPow p S x k) (hm k)
    rwa [mpow_len hs] at h)
  refine ⟨i, j - i, by omega, ?_⟩
  rw [show i + (j - i) = j by omega]
  exact enc_inj _ _ _ (by rw [mpow_len hs, mpow_len hs]) (hm i) (hm j) h3
theorem one_r {p : Int} {S z : List Int} (h : isMv p S z = true) : prodM p S z (mOne S) = z := prodM_one_r p S z (Mv.len h) (Mv.num h)
theorem one_l {p : Int} {S z : List Int} (h : isMv p S z = true) : prodM p S (mOne S) z = z := prodM_one_l p S z (Mv.len h) (Mv.num h)
theorem cancel_pow {p : Int} {S x y : List Int} (hs : isSp p S = true) (hxy : prodM p S x y = mOne S) : ∀ (a : Nat) (u v : List Int), isMv p S u = true → isMv p S v = true → prodM p S u (mPow p S x a) = prodM p S v (mPow p S x a) → u = v
  | 0, u, v, hu, hv, h => by
    have h2 : prodM p S u (mOne S) = prodM p S v (mOne S) := h
    rwa [one_r hu, one_r hv] at h2
  | a + 1, u, v, hu, hv, h => by
    have h2 : prodM p S u (prodM p S (mPow p S x a) x) = prodM p S v (prodM p S (mPow p S x a) x) := h
    rw [← prodM_assoc, ← prodM_assoc] at h2
    have h3 := congrArg (fun z => prodM p S z y) h2
    simp only [prodM_assoc, hxy] at h3
    rw [one_r (mpow_mv hs a)] at h3
    exact cancel_pow hs hxy a u v hu hv h3
/-- An inverse behind is one ahead. -/
theorem inv_both {p : Int} {S x y : List Int} (hs : isSp p S = true) (hy : isMv p S y = true) (hxy : prodM p S x y = mOne S) : prodM p S y x = mOne S := by
  obtain ⟨a, d, hd, he⟩ := mpow_back (x := x) hs
  have h1 : mPow p S x d = mOne S := by
    symm
    apply cancel_pow hs hxy a _ _ (one_mv hs) (mpow_mv hs d)
    rw [one_l (mpow_mv hs a), mpow_add hs, Nat.add_comm d a]
    exact he
  obtain ⟨e, rfl⟩ : ∃ e, d = e + 1 := ⟨d - 1, by omega⟩
  have h2 : prodM p S (mPow p S x e) x = mOne S := h1
  have h3 : y = mPow p S x e := by
    rw [← one_l hy, ← h2, prodM_assoc, hxy, one_r (mpow_mv hs e)]
  rw [h3]; exact h2

/-- The matrix of the products with x. -/
def leftM (p : Int) (S x : List Int) : List (List Int) := mk (bl S) (bl S) fun i j => prodF p S x (bladeM S j) i
/-- Its product with a list is the geometric product. -/
theorem left_prod {p : Int} {S x y : List Int} {i : Nat} (hi : i < bl S) : sm (bl S) (fun j => prodF p S x (bladeM S j) i * y.getD j 0) % p = prodF p S x y i := by
  have hi' : i < 2 ^ S.length := hi
  have e1 : ∀ j, j < bl S → prodF p S x (bladeM S j) i = (x.getD (i ^^^ j) 0 * fz S (i ^^^ j) j S.length) % p := fun j hj => by
    unfold prodF gpz
    have h : ∀ a, a < 2 ^ S.length → x.getD a 0 * fz S a (a ^^^ i) S.length * (bladeM S j).getD (a ^^^ i) 0 = if a = i ^^^ j then x.getD (i ^^^ j) 0 * fz S (i ^^^ j) j S.length else 0 := fun a ha => by
      unfold bladeM
      rw [mkR_at _ (show a ^^^ i < bl S from Nat.xor_lt_two_pow ha hi')]
      by_cases e : a = i ^^^ j
      · have e2 : a ^^^ i = j := by rw [e, Nat.xor_comm i j, Nat.xor_assoc, Nat.xor_self, Nat.xor_zero]
        rw [if_pos e, if_pos e2, e2, ← e, Int.mul_one]
      · have e2 : ¬ a ^^^ i = j := fun h => e (by rw [← h, Nat.xor_comm a i, xor_back])
        rw [if_neg e, if_neg e2, Int.mul_zero]
    rw [sm_congr h, sm_single, if_pos (Nat.xor_lt_two_pow hi' hj)]
  have e2 : sm (bl S) (fun j => prodF p S x (bladeM S j) i * y.getD j 0) % p = sm (bl S) (fun j => x.getD (j ^^^ i) 0 * fz S (j ^^^ i) j S.length * y.getD j 0) % p := by
    apply sm_congr_p
    intro j hj
    rw [e1 j hj, em_l, Nat.xor_comm i j]
  rw [e2]
  unfold prodF gpz
  congr 1
  rw [← sm_xor S.length i hi' (fun a => x.getD a 0 * fz S a (a ^^^ i) S.length * y.getD (a ^^^ i) 0)]
  apply sm_congr
  intro j _
  show _ = x.getD (j ^^^ i) 0 * fz S (j ^^^ i) (j ^^^ i ^^^ i) S.length * y.getD (j ^^^ i ^^^ i) 0
  rw [Nat.xor_assoc, Nat.xor_self, Nat.xor_zero]

/-- One number of a list that is set at different places. -/
theorem pick_bd {p : Int} {n c j : Nat} {P : Nat → Nat} {f : Nat → Int} (hp : 0 < p) (mono : ∀ i i', i < i' → i' < n → P i < P i') (hf : ∀ i, i < n → 0 ≤ f i ∧ f i < p) : 0 ≤ sm n (fun i => if j = P i then f i else 0) ∧ sm n (fun i => if j = P i then f i else 0) < p := by
  by_cases e : ∃ i, i < n ∧ P i = j
  · obtain ⟨i, hi, rfl⟩ := e
    have h : ∀ i', i' < n → (if P i = P i' then f i' else 0) = if i' = i then f i else 0 := fun i' hi' => by
      by_cases e2 : i' = i
      · subst e2; rw [if_pos rfl, if_pos rfl]
      · have : P i ≠ P i' := by
          rcases Nat.lt_or_gt_of_ne e2 with l | l
          · have := mono i' i l hi; omega
          · have := mono i i' l hi'; omega
        rw [if_neg this, if_neg e2]
    rw [sm_congr h, sm_single, if_pos hi]
    exact hf i hi
  · rw [sm_congr (g := fun _ => 0) (fun i hi => if_neg (fun h => e ⟨i, hi, h.symm⟩)), sm_zero]
    omega
/-- What is told to be a solution is one. -/
theorem sol_solves {p : Int} {c : Nat} {A : List (List Int)} {v : List Int} (hp : 1 < p) (hA : ∀ i, i < A.length → (rw' A i).length = c) (h0 : 0 < A.length) (hl : v.length = A.length)
    (hb : IsBas p (c + 1) (bes A (col v)) (solB p A v)) (hok : solOk p A v = true) : (∀ j, j < c → 0 ≤ (solL p A v).getD j 0 ∧ (solL p A v).getD j 0 < p) ∧ (solL p A v).length = c ∧ ∀ i, i < A.length → sm c (fun j => at' A i j * (solL p A v).getD j 0) % p = v.getD i 0 % p := by
  have hR := hb.pivs
  have hc0 : (rw' A 0).length = c := hA 0 h0
  have hno : ∀ i, i < (solB p A v).length → pvs (solB p A v) i ≠ c := fun i hi => by
    unfold solOk at hok
    rw [hc0] at hok
    exact isPv_no (by simpa using hok) hi
  have hL : solL p A v = mkR c (fun j => sm (solB p A v).length fun i' => if j = pvs (solB p A v) i' then at' (solB p A v) i' c else 0) := by
    unfold solL solvec; rw [if_pos hok, hc0]
  have hpc : ∀ i, i < (solB p A v).length → pvs (solB p A v) i < c := fun i hi => by have := hR.pv i hi; have := hno i hi; omega
  refine ⟨fun j hj => ?_, by rw [hL, mkR_len], ?_⟩
  · rw [hL, mkR_at _ hj]
    exact pick_bd (c := c) (by omega) hR.mono (fun i hi => hR.rng i hi c (by omega))
  · have hz : nul p (solB p A v).length (c + 1) (at' (solB p A v)) (fun j => if j < c then (solL p A v).getD j 0 else -1) := fun k hk => by
      show (sm c _ + _) % p = 0
      have e1 : sm c (fun j => at' (solB p A v) k j * (if j < c then (solL p A v).getD j 0 else -1)) = at' (solB p A v) k c := by
        have e2 : ∀ j, j < c → at' (solB p A v) k j * (if j < c then (solL p A v).getD j 0 else -1) = sm (solB p A v).length (fun i' => if j = pvs (solB p A v) i' then at' (solB p A v) i' c * at' (solB p A v) k (pvs (solB p A v) i') else 0) := fun j hj => by
          rw [if_pos hj, hL, mkR_at _ hj, ← sm_mul]
          apply sm_congr
          intro i' _
          rw [ite_mul']
          by_cases e : j = pvs (solB p A v) i'
          · rw [if_pos e, if_pos e, e, Int.mul_comm]
          · rw [if_neg e, if_neg e]
        rw [sm_congr e2, sm_swap, ← hR.pick hk (fun i' => at' (solB p A v) i' c)]
        apply sm_congr
        intro i' hi'
        rw [sm_single, if_pos (hpc i' hi')]
      rw [e1]
      show (at' (solB p A v) k c + at' (solB p A v) k c * (if c < c then _ else -1)) % p = 0
      rw [if_neg (Nat.lt_irrefl _)]
      have : at' (solB p A v) k c + at' (solB p A v) k c * -1 = 0 := by omega
      rw [this]; rfl
    intro i hi
    have hb1 := (hb.nul _).2 hz i (by rw [bes_len]; exact hi)
    have e3 : sm (c + 1) (fun j => at' (bes A (col v)) i j * (if j < c then (solL p A v).getD j 0 else -1)) = sm c (fun j => at' A i j * (solL p A v).getD j 0) + v.getD i 0 * -1 := by
      show sm c _ + _ = _
      congr 1
      · apply sm_congr
        intro j hj
        rw [bes_at hi (hA i hi), if_pos hj, if_pos hj]
      · show at' (bes A (col v)) i c * (if c < c then _ else -1) = _
        rw [if_neg (Nat.lt_irrefl _), bes_at hi (hA i hi), if_neg (Nat.lt_irrefl _), Nat.sub_self]
        unfold at'; rw [col_row (by omega)]; rfl
    rw [e3] at hb1
    have h4 : (sm c (fun j => at' A i j * (solL p A v).getD j 0) - v.getD i 0) % p = 0 := by
      have e5 : sm c (fun j => at' A i j * (solL p A v).getD j 0) - v.getD i 0 = sm c (fun j => at' A i j * (solL p A v).getD j 0) + v.getD i 0 * -1 := by omega
      rw [e5]; exact hb1
    exact Int.emod_eq_emod_iff_emod_sub_eq_zero.2 h4

end Go.Proofs.Ytdamdlihicinlaa

namespace Go.Proofs.Ytdamdlihicinlaa
open Go.RowKit
set_option linter.unusedVariables false

/-- The products with the blades, as rows. -/
def colsM (p : Int) (S x : List Int) : List (List Int) := mk (bl S) (bl S) fun j c => prodF p S x (bladeM S j) c
theorem cols_tr (p : Int) (S x : List Int) : trM (colsM p S x) = leftM p S x := by
  unfold trM leftM
  have h0 : (rw' (colsM p S x) 0).length = bl S := mk_rowLen _ (bl_pos S)
  rw [h0, show (colsM p S x).length = bl S from mk_len _ _ _]
  exact mk_congr fun i hi j hj => mk_at _ hj hi
theorem cols_row {p : Int} {S x : List Int} {i : Nat} (h : i < bl S) : rw' (colsM p S x) i = prodM p S x (bladeM S i) := mk_row _ h
theorem blade_len (S : List Int) (k : Nat) : (bladeM S k).length = bl S := mkR_len _ _
theorem blade_mv {p : Int} {S : List Int} (hs : isSp p S = true) (k : Nat) : isMv p S (bladeM S k) = true :=
  isMv_of (mkR_len _ _) (fun j hj => by
    have hp := prm_bd (isSp_iff.1 hs).prime
    unfold bladeM at hj ⊢
    rw [mkR_len] at hj
    rw [mkR_at _ hj]
    split <;> omega)
def NewRowTB (p : Int) (S x : List Int) (i : Nat) (w : World) (e : Ending) (w' : World) : Prop :=
  ∃ b, e = .returned (.slice (some ⟨b, 0, none⟩) (bl S) (bl S)) ∧ TagR w.heap.size w'.heap.size w' (some ⟨b, 0, none⟩) (prodM p S x (bladeM S i)) ∧ Below w.heap.size w w'
theorem times_blade (p : Int) (aS : Option Addr) (S : List Int) (cS loS tpS : Nat) (ax : Option Addr) (x : List Int) (cx lox tpx b i : Nat) (w : World) (hs : isSp p S = true) (hS : RowIn loS tpS w aS S) (tS : tpS ≤ w.heap.size) (hx : RowIn lox tpx w ax x) (tx : tpx ≤ w.heap.size) (mx : isMv p S x = true) (hb : RowOwn w b 0 (bl S) (fun j => if j = i then 1 else 0)) (ub : b < w.heap.size) :
    Calls Try.prog 83 #[.agg #[.int .i64 p, .slice aS S.length cS], .slice ax x.length cx, .slice (some ⟨b, 0, none⟩) (bl S) (bl S)] w (NewRowTB p S x i w) := by
  have h := l04Times_tag p aS S cS loS tpS ax x cx lox tpx (some ⟨b, 0, none⟩) (bladeM S i) (bl S) 0 w.heap.size w (isSp_iff.1 hs).prime (isSp_iff.1 hs).hi hS tS (sp_nums hs) hx tx (Mv.len mx) (Mv.nums mx) (hb.own (Nat.zero_le _) ub).row (Nat.le_refl _) (blade_len S i) (Mv.nums (blade_mv hs i))
  rw [blade_len] at h
  refine h.mono ?_
  rintro e w' ⟨b', rfl, hl, hu, hr, hbl, cur, ht⟩
  refine ⟨b', rfl, .inr ⟨b', 0, cur, rfl, hl, hu, ht, fun j hj => ?_⟩, hbl⟩
  rw [prodM_len] at hj
  rw [prodM_at p S x _ hj]
  exact hr.cell j hj
theorem product_blade (p : Int) (aS : Option Addr) (S : List Int) (cS loS tpS : Nat) (ax : Option Addr) (x : List Int) (cx lox tpx b i : Nat) (w : World) (hs : isSp p S = true) (hS : RowIn loS tpS w aS S) (tS : tpS ≤ w.heap.size) (hx : RowIn lox tpx w ax x) (tx : tpx ≤ w.heap.size) (mx : isMv p S x = true) (hb : RowOwn w b 0 (bl S) (fun j => if j = i then 1 else 0)) (ub : b < w.heap.size) :
    Calls Try.prog 85 #[.agg #[.int .i64 p, .slice aS S.length cS], .slice ax x.length cx, .slice (some ⟨b, 0, none⟩) (bl S) (bl S)] w (OwnE (prodM p S x (bladeM S i)) w) := by
  have h := product_own p aS S cS loS tpS ax x cx lox tpx (some ⟨b, 0, none⟩) (bladeM S i) (bl S) 0 w.heap.size w hs hS tS hx tx mx (hb.own (Nat.zero_le _) ub).row (Nat.le_refl _) (blade_mv hs i)
  rw [blade_len] at h
  exact h

set_option maxRecDepth 100000 in
set_option maxHeartbeats 3200000 in
theorem l04Left_any (p : Int) (aS : Option Addr) (S : List Int) (cS loS tpS : Nat) (ax : Option Addr) (x : List Int) (cx lox tpx : Nat) (w : World) (hs : isSp p S = true) (hS : RowIn loS tpS w aS S) (tS : tpS ≤ w.heap.size) (hx : RowIn lox tpx w ax x) (tx : tpx ≤ w.heap.size) (mx : isMv p S x = true) :
    Calls Try.prog 142 #[.agg #[.int .i64 p, .slice aS S.length cS], .slice ax x.length cx] w (NewM (leftM p S x) w) := by
  obtain ⟨j0, kj, kz0, kz1, kz2⟩ := info_parts info_slice
  have HS := Lib.hid hS
  have HX := Lib.hid hx
  have HI := Lib.hid hs
  have HMX := Lib.hid mx
  have h6 := (isSp_iff.1 hs).hi
  have hbl := bl_le h6
  have hb0 := bl_pos S
  have HB0 := Lib.hid (below_alloc w (.cells #[.int .i64 p, .slice aS S.length cS] 28))
  have k0 := nw0 w (.int .i64 p) (.slice aS S.length cS) 28
  have k1 := nw1 w (.int .i64 p) (.slice aS S.length cS) 28
  clear hS hx hs mx
  go_enter Try.func142, Try.ntmps142
  go_upto_region 1 with fail
  obtain ⟨wB, hw1⟩ : ∃ z, z = w.alloc (.cells #[.int .i64 p, .slice aS S.length cS] 28) := ⟨_, rfl⟩
  rw [← hw1] at HB0 k0 k1 ⊢
  have hw0 : w.heap.size < wB.heap.size := by rw [hw1]; simp
  clear hw1
  have K0 := Lib.hid k0
  have K1 := Lib.hid k1
  clear k0 k1
  go_wp2
  go_loopw [5, 6, 7] (fun v t _ wr => ∃ i : Nat, i ≤ bl S ∧ t = .int .i64 i ∧ OutM wB.heap.size wr v (mk i (bl S) fun j c => prodF p S x (bladeM S j) c) ∧ Below wB.heap.size wB wr) (fun _ t _ _ => bl S - (intOf t).toNat)
  case atStart => exact ⟨0, Nat.zero_le _, rfl, OutM.start wB _ _ (Nat.le_refl _) rfl, below_alloc wB _⟩
  case round =>
    obtain ⟨i, hi, rfl, ho, hbel⟩ := hrel
    obtain ⟨V5, hV5⟩ : ∃ z, z = u5 := ⟨_, rfl⟩
    rw [← hV5] at ho ⊢
    clear hV5
    have HO := Lib.hid ho
    have HB := Lib.hid hbel
    have hwz := hbel.size
    have hk0 := (hbel.cell (p := ⟨w.heap.size, 0, none⟩) hw0).trans K0.out
    have hk1 := (hbel.cell (p := ⟨w.heap.size, 1, none⟩) hw0).trans K1.out
    have hlw : w.heap.size < wr.heap.size := by omega
    clear ho hbel
    by_cases hlt : i < bl S
    · have hi1 : (i : Int) < (bl S : Int) := Int.ofNat_lt.2 hlt
      obtain ⟨vals, hvo, hvr⟩ := HO.out
      rw [mk_len] at hvo hvr
      have HVO := Lib.hid hvo
      have HVR := Lib.hid hvr
      clear hvo hvr
      go_upto_region 7 with (first | (go_at_call 146; (with_reducible refine (l04Size_any p aS S cS wr h6).mono ?_); rintro e w3 ⟨rfl, b3⟩; have B3 := Lib.hid b3; have z3 := b3.size; have hk03 := (b3.cell (p := ⟨w.heap.size, 0, none⟩) hlw).trans hk0; have hk13 := (b3.cell (p := ⟨w.heap.size, 1, none⟩) hlw).trans hk1; clear b3) | (go_at_call 140; (with_reducible refine (l04Zero_any p aS S cS w3 h6).mono ?_); rintro e w4 ⟨b4, rfl, l4, u4, o4, q4⟩; have O4 := Lib.hid o4; have B4 := Lib.hid q4; have z4 := q4.size; have c4 := o4.cell i hlt; have f4 := o4.free i hlt; rw [Nat.zero_add] at c4 f4; have hk04 := (q4.cell (p := ⟨w.heap.size, 0, none⟩) (Nat.lt_of_lt_of_le hlw z3)).trans hk03; have hk14 := (q4.cell (p := ⟨w.heap.size, 1, none⟩) (Nat.lt_of_lt_of_le hlw z3)).trans hk13; clear o4 q4))
      obtain ⟨w5, hw5⟩ : ∃ z, z = w4.setCell ⟨b4, i, none⟩ (.int .i64 1) := ⟨_, rfl⟩
      have HR5 : Hid (RowOwn w5 b4 0 (bl S) (fun j => if j = i then 1 else 0)) := by show RowOwn _ _ _ _ _; rw [hw5]; exact row_put0 O4.out hlt (fun j _ => rfl)
      have HQ5 : Hid (Below wr.heap.size wr w5) := by show Below _ _ _; rw [hw5]; exact (B3.out.trans (B4.out.mono z3)).trans ((wrote_put0 (Wrote.refl b4 0 (bl S) w4) hlt _).belowB (by omega))
      have u5 : b4 < w5.heap.size := by rw [hw5]; simp [World.setCell]; exact u4
      rw [← hw5]
      clear hw5 c4 f4 hk04 hk14 hk03 hk13
      have HB5 : Hid (Below wB.heap.size wB w5) := HB.out.trans (HQ5.out.mono hwz)
      have HW5 : Hid (Below w.heap.size w w5) := HB0.out.trans (HB5.out.mono (by omega))
      have z5 := HW5.out.size
      have z5r := HQ5.out.size
      have hk05 := (HB5.out.cell (p := ⟨w.heap.size, 0, none⟩) hw0).trans K0.out
      have hk15 := (HB5.out.cell (p := ⟨w.heap.size, 1, none⟩) hw0).trans K1.out
      have HS5 := Lib.hid (HS.out.below HW5.out tS)
      have HX5 := Lib.hid (HX.out.below HW5.out tx)
      have tS5 : tpS ≤ w5.heap.size := by omega
      have tx5 : tpx ≤ w5.heap.size := by omega
      go_wp2_with (first | (go_at_call 83; (with_reducible refine (times_blade p aS S cS loS tpS ax x cx lox tpx b4 i w5 HI.out HS5.out tS5 HX5.out tx5 HMX.out HR5.out u5).mono ?_); rintro e w6 ⟨b6, rfl, t6, q6⟩; have T6 := Lib.hid t6; have B6 := Lib.hid q6; have z6 := q6.size; have HQ6 := Lib.hid (HQ5.out.trans (q6.mono z5r)); have HVW := Lib.hid (HVO.out.kept (below_grown HQ6.out) (by cases hv : Value.ownBlock V5 <;> simp)); clear t6 q6) | (at_builtin; refine wpList_append_lies _ rfl _ _ 63 rfl wB.heap.size 22 j0 (.slice none 0 0) 1 24 Try.underlying63 kj kz0 kz1 kz2 rfl (by decide) V5 i vals rfl (HVW.out.alloc _) ⟨w6.heap.size, 0, none⟩ 1 1 [.slice (some ⟨b6, 0, none⟩) (bl S) (bl S)] rfl rfl (World.news_of_block (cs := #[.slice (some ⟨b6, 0, none⟩) (bl S) (bl S)]) (t := 22) (fr := (0, 0)) (heap_alloc_new w6 _)) (by simp [Value.oneCell']) (by omega) (by unfold maxLen; omega) (by omega) (by simp; omega) (w6.heap.size + 1) (by simp) ?_; intro gg cap w1 hown1 hgrow hat hlt1))
      have HVRW : Hid (∀ i', i' < i → ∃ r c', vals[i']? = some (.slice r (rw' (mk i (bl S) fun j c => prodF p S x (bladeM S j) c) i').length c') ∧ TagR wB.heap.size w6.heap.size w6 r (rw' (mk i (bl S) fun j c => prodF p S x (bladeM S j) c) i')) := fun i' h' => by
        obtain ⟨r', c', g1, g2⟩ := HVR.out i' h'
        exact ⟨r', c', g1, g2.below HQ6.out (Nat.le_refl _) (Nat.le_refl _) HQ6.out.size⟩
      have HT6 : Hid (TagR w5.heap.size w6.heap.size w6 (some ⟨b6, 0, none⟩) (prodM p S x (bladeM S i))) := T6.out
      go_roundw
      case rel => exact ⟨i + 1, by omega, by go_num, OutM.next HVW.out HVRW.out HT6.out rfl (Nat.le_trans hwz z5r) hown1 hgrow, ((HB.out.trans (HQ6.out.mono hwz)).alloc (by omega) _).grown hgrow (by simp; omega) (fun _ hk => (HVW.out.lt _ hk).1)⟩
      case measure => simp [intOf]; omega
    · have hin : i = bl S := by omega
      subst hin
      obtain ⟨r, c, hv, hmat⟩ := HO.out.mat
      subst hv
      have HMT := Lib.hid hmat
      clear hmat
      have h0l : 0 < (mk (bl S) (bl S) fun j c => prodF p S x (bladeM S j) c).length := by rw [mk_len]; exact hb0
      have HLE : Hid (∀ i, i < (mk (bl S) (bl S) fun j c => prodF p S x (bladeM S j) c).length → (rw' (mk (bl S) (bl S) fun j c => prodF p S x (bladeM S j) c) i).length = (rw' (mk (bl S) (bl S) fun j c => prodF p S x (bladeM S j) c) 0).length) := fun i hi => by
        rw [mk_len] at hi
        rw [mk_rowLen _ hi, mk_rowLen _ hb0]
      have hn1 : (mk (bl S) (bl S) fun j c => prodF p S x (bladeM S j) c).length ≤ 1024 := by rw [mk_len]; omega
      have hn2 : (rw' (mk (bl S) (bl S) fun j c => prodF p S x (bladeM S j) c) 0).length ≤ 1024 := by rw [mk_rowLen _ hb0]; omega
      have HTR : Hid (trM (mk (bl S) (bl S) fun j c => prodF p S x (bladeM S j) c) = leftM p S x) := cols_tr p S x
      go_wp2_with (first | (go_at_call 146; (with_reducible refine (l04Size_any p aS S cS wr h6).mono ?_); rintro e w3 ⟨rfl, b3⟩; have B3 := Lib.hid b3; have z3 := b3.size; clear b3) | (go_at_call 169; (with_reducible refine (l02Turn_any r _ c wB.heap.size wr.heap.size w3 (HMT.out.below B3.out (Nat.le_refl _)) z3 h0l HLE.out hn1 hn2).mono ?_); rintro e w4 ⟨r4, c4, rfl, m4, b4⟩; have M4 := Lib.hid m4; have B4 := Lib.hid b4; clear m4 b4))
      go_ret
      have h := M4.out
      rw [HTR.out] at h
      exact ⟨r4, c4, by rw [HTR.out]; rfl, h.mono (by omega) (Nat.le_refl _), (HB0.out.trans (HB.out.mono (by omega))).trans ((B3.out.trans (B4.out.mono z3)).mono (by omega))⟩

end Go.Proofs.Ytdamdlihicinlaa

namespace Go.Proofs.Ytdamdlihicinlaa
open Go.RowKit
set_option linter.unusedVariables false

theorem transposed_n (a : Option Addr) (m : List (List Int)) (n ca lo tp : Nat) (w : World) (hnm : m.length = n) (hm : MatIn lo tp w a m) (ht : tp ≤ w.heap.size) (h0 : 0 < m.length) (hc : ∀ i, i < m.length → (rw' m i).length = (rw' m 0).length) (hn : m.length ≤ 1024) (hn2 : (rw' m 0).length ≤ 1024) :
    Calls Try.prog 144 #[.slice a n ca] w (OwnNew (trM m) w) := by
  subst hnm; exact transposed_any a m ca lo tp w hm ht h0 hc hn hn2

set_option maxRecDepth 100000 in
set_option maxHeartbeats 3200000 in
theorem leftMatrix_any (p : Int) (aS : Option Addr) (S : List Int) (cS loS tpS : Nat) (ax : Option Addr) (x : List Int) (cx lox tpx : Nat) (w : World) (hs : isSp p S = true) (hS : RowIn loS tpS w aS S) (tS : tpS ≤ w.heap.size) (hx : RowIn lox tpx w ax x) (tx : tpx ≤ w.heap.size) (mx : isMv p S x = true) :
    Calls Try.prog 94 #[.agg #[.int .i64 p, .slice aS S.length cS], .slice ax x.length cx] w (OwnNew (leftM p S x) w) := by
  have HS := Lib.hid hS
  have HX := Lib.hid hx
  have HI := Lib.hid hs
  have HMX := Lib.hid mx
  have h6 := (isSp_iff.1 hs).hi
  have hbl := bl_le h6
  have hb0 := bl_pos S
  have hmk := fun W => run_make_row' (P := Try.prog) 63 22 (.slice none 0 0) 24 Try.underlying63 info_slice rfl .i64 .i64 (bl S) (by omega) (by omega) W
  obtain ⟨Z, hZ⟩ : ∃ Z, Z = colsM p S x := ⟨_, rfl⟩
  have HZL : Hid (Z.length = bl S) := by show _ = _; rw [hZ]; exact mk_len _ _ _
  have HZR : Hid (∀ i, i < bl S → rw' Z i = prodM p S x (bladeM S i)) := fun i hi => by rw [hZ]; exact cols_row hi
  have HZT : Hid (trM Z = leftM p S x) := by show _ = _; rw [hZ]; exact cols_tr p S x
  have HZE : Hid (∀ i, i < Z.length → (rw' Z i).length = bl S) := fun i hi => by rw [HZL.out] at hi; rw [HZR.out i hi, prodM_len]
  have HB0 := Lib.hid (below_alloc w (.cells #[.int .i64 p, .slice aS S.length cS] 28))
  have k0 := nw0 w (.int .i64 p) (.slice aS S.length cS) 28
  have k1 := nw1 w (.int .i64 p) (.slice aS S.length cS) 28
  clear hS hx hs mx hZ
  go_enter Try.func94, Try.ntmps94
  go_upto_region 1 with fail
  obtain ⟨w1, hw1⟩ : ∃ z, z = w.alloc (.cells #[.int .i64 p, .slice aS S.length cS] 28) := ⟨_, rfl⟩
  rw [← hw1] at HB0 k0 k1 ⊢
  have hw0 : w.heap.size < w1.heap.size := by rw [hw1]; simp
  clear hw1
  go_upto_region 2 with (go_at_call 133; (with_reducible refine (blades_any p aS S cS _ h6).mono ?_); rintro e w2 ⟨rfl, b2⟩; have B2 := Lib.hid b2; have z2 := b2.size; clear b2)
  obtain ⟨b, hb⟩ : ∃ b, b = w2.heap.size := ⟨_, rfl⟩
  obtain ⟨w3, hw3⟩ : ∃ z, z = w2.alloc (.cells (madeCells #[.slice none 0 0] (bl S)) 22) := ⟨_, rfl⟩
  have HG3 : Hid (HalfG w3 b 0 Z (fun _ => none) (fun _ => 0) (fun _ => 0) (fun _ => 0)) := by
    show HalfG _ _ _ _ _ _ _ _
    rw [hw3, hb, ← HZL.out]
    exact HalfG.start w2 Z 22 (fun _ => none) (fun _ => 0) (fun _ => 0) (fun _ => 0)
  have HB2 : Hid (Below w.heap.size w w2) := HB0.out.trans (B2.out.mono (by omega))
  have HB3 : Hid (Below w.heap.size w w3) := by show Below _ _ _; rw [hw3]; exact HB2.out.alloc HB2.out.size _
  have K0 : Hid (w3.cell? ⟨w.heap.size, 0, none⟩ = some (.int .i64 p)) := by show _ = _; rw [hw3]; exact (World.cell?_alloc_old _ _ _ (show w.heap.size ≠ w2.heap.size by omega)).trans ((B2.out.cell (p := ⟨w.heap.size, 0, none⟩) hw0).trans k0)
  have K1 : Hid (w3.cell? ⟨w.heap.size, 1, none⟩ = some (.slice aS S.length cS)) := by show _ = _; rw [hw3]; exact (World.cell?_alloc_old _ _ _ (show w.heap.size ≠ w2.heap.size by omega)).trans ((B2.out.cell (p := ⟨w.heap.size, 1, none⟩) hw0).trans k1)
  have hwb : w.heap.size < b := by omega
  have hbl3 : b < w3.heap.size := by rw [hw3, hb]; simp
  rw [← hw3, ← hb]
  clear hw3 hmk hb z2 k0 k1
  go_wp2
  go_loopw [12] (fun t wr => ∃ i : Nat, i ≤ bl S ∧ t = .int .i64 i ∧ (∃ A C lo tp, HalfG wr b i Z A C lo tp) ∧ wr.cell? ⟨w.heap.size, 0, none⟩ = some (.int .i64 p) ∧ wr.cell? ⟨w.heap.size, 1, none⟩ = some (.slice aS S.length cS) ∧ Below w.heap.size w wr ∧ b < wr.heap.size) (fun t _ => bl S - (intOf t).toNat)
  case atStart => exact ⟨0, Nat.zero_le _, rfl, ⟨_, _, _, _, HG3.out⟩, K0.out, K1.out, HB3.out, hbl3⟩
  case round =>
    obtain ⟨i, hi, rfl, ⟨A, C, lo, tp, hh⟩, hk0, hk1, hbel, hbr⟩ := hrel
    have HH := Lib.hid hh
    have HB := Lib.hid hbel
    have HK0 := Lib.hid hk0
    have HK1 := Lib.hid hk1
    have hwz := hbel.size
    by_cases hlt : i < bl S
    · have hi1 : (i : Int) < (bl S : Int) := Int.ofNat_lt.2 hlt
      have g0 := hh.rest i (Nat.le_refl _) (by rw [HZL.out]; exact hlt)
      have gf := hh.free i
      have hlw : w.heap.size < wr.drew.heap.size := by show w.heap.size < wr.heap.size; omega
      have hbd : b < wr.drew.heap.size := hbr
      have hs1 : Hid (wr.drew.cell? ⟨w.heap.size, 0, none⟩ = some (.int .i64 p) ∧ wr.drew.cell? ⟨w.heap.size, 1, none⟩ = some (.slice aS S.length cS)) := ⟨hk0, hk1⟩
      have HBD : Hid (Below w.heap.size w wr.drew) := hbel.drew
      have hzd := HBD.out.size
      have hwb2 : w.heap.size ≠ b := by omega
      have G0 : Hid (wr.drew.cell? ⟨b, i, none⟩ = some (.slice none 0 0)) := g0
      have GF : Hid (wr.drew.frozen? ⟨b, i, none⟩ = false) := gf
      clear hh hbel
      go_wp2
      go_region_held3 (fun w' => w'.cell? ⟨w.heap.size, 0, none⟩ = some (.int .i64 p) ∧ w'.cell? ⟨w.heap.size, 1, none⟩ = some (.slice aS S.length cS)) (first | go_keep | exact SS7.out | exact SS9.out | exact SS10.out) (first | (go_at_call 91; (with_reducible refine (blade_any p aS S cS i wr.drew h6 hlt).mono ?_); rintro e w7 ⟨b7, rfl, l7, u7, o7, q7⟩; have O7 := Lib.hid o7; have B7 := Lib.hid q7; have z7 := q7.size; have SS7 := Lib.hid (And.intro ((q7.cell (p := ⟨w.heap.size, 0, none⟩) hlw).trans hs1.out.1) ((q7.cell (p := ⟨w.heap.size, 1, none⟩) hlw).trans hs1.out.2)); have HB7 := Lib.hid (HBD.out.trans (q7.mono hzd)); have hz7 := Nat.le_trans hzd z7; have hlw7 := Nat.lt_of_lt_of_le hlw z7; have hbd7 := Nat.lt_of_lt_of_le hbd z7; clear o7 q7) | (go_at_call 85; (with_reducible refine (product_blade p aS S cS loS tpS ax x cx lox tpx b7 i w7 HI.out (HS.out.below HB7.out tS) (Nat.le_trans tS hz7) (HX.out.below HB7.out tx) (Nat.le_trans tx hz7) HMX.out O7.out u7).mono ?_); rintro e w9 ⟨r9, c9, rfl, o9, q9⟩; have O9 := Lib.hid o9; have B9 := Lib.hid q9; have z9 := q9.size; have SS9 := Lib.hid (And.intro ((q9.cell (p := ⟨w.heap.size, 0, none⟩) hlw7).trans SS7.out.1) ((q9.cell (p := ⟨w.heap.size, 1, none⟩) hlw7).trans SS7.out.2)); have SS10 := Lib.hid (And.intro ((World.cell?_setCell_other w9 ⟨b, i, none⟩ ⟨w.heap.size, 0, none⟩ (.slice r9 (prodM p S x (bladeM S i)).length c9) (fun e => hwb2 (by injection e with e1; exact e1.symm))).trans SS9.out.1) ((World.cell?_setCell_other w9 ⟨b, i, none⟩ ⟨w.heap.size, 1, none⟩ (.slice r9 (prodM p S x (bladeM S i)).length c9) (fun e => hwb2 (by injection e with e1; exact e1.symm))).trans SS9.out.2)); have HQ9 := Lib.hid (B7.out.trans (q9.mono z7)); have c0 := (HQ9.out.cell (p := ⟨b, i, none⟩) hbd).trans G0.out; have f0 := (HQ9.out.frozen (p := ⟨b, i, none⟩) hbd).trans GF.out; clear o9 q9))
      have hq9 := HQ9.out.size
      have hq9' : wr.heap.size ≤ w9.heap.size := hq9
      have HZI := HZR.out i hlt
      have HNX := HH.out.next (w1 := w9.setCell ⟨b, i, none⟩ (.slice r9 (prodM p S x (bladeM S i)).length c9)) (r := r9) (c := c9) (T := w9.heap.size) (by rw [HZL.out]; exact hlt)
        (fun k k0 k1 => (Below.heap_setCell _ _ _ _ k1).trans (HQ9.out.block k k0)) (by simp [World.setCell]; exact hq9') (by simp [World.setCell])
        (by rw [HZI]; exact World.cell?_setCell_same w9 _ _ c0)
        (fun j hj => (World.cell?_setCell_other w9 ⟨b, i, none⟩ ⟨b, j, none⟩ _ (fun e => hj (by injection e with _ e2; exact e2.symm))).trans (HQ9.out.cell (p := ⟨b, j, none⟩) hbd))
        (fun j => by have := (HQ9.out.frozen (p := ⟨b, j, none⟩) hbd).trans (HH.out.free j); simp [go_sem, this])
        (by rw [HZI]; exact (OwnR.mono' O9.out (show wr.heap.size ≤ w7.heap.size from z7) (Nat.le_refl _)).same (fun k k0 _ => Below.heap_setCell _ _ _ _ (show k ≠ b by omega)))
      have HNX := Lib.hid HNX
      go_wp2
      go_roundw
      case rel => exact ⟨i + 1, by omega, by go_num, ⟨_, _, _, _, HNX.out⟩, SS10.out.1, SS10.out.2, (HBD.out.trans (HQ9.out.mono hzd)).setCell (by show w.heap.size ≤ b; omega) _, by simp [World.setCell]; omega⟩
      case measure => simp [intOf]; omega
    · have hin : i = bl S := by omega
      have HF : Hid (HalfG wr b Z.length Z A C lo tp) := by show HalfG _ _ _ _ _ _ _ _; rw [HZL.out, ← hin]; exact hh
      have HM := Lib.hid HF.out.own.mat
      have hz0 : 0 < Z.length := by rw [HZL.out]; exact hb0
      have HE : Hid (∀ i, i < Z.length → (rw' Z i).length = (rw' Z 0).length) := fun i hi => by rw [HZE.out i hi, HZE.out 0 hz0]
      have hz1 : Z.length ≤ 1024 := by rw [HZL.out]; omega
      have hz2 : (rw' Z 0).length ≤ 1024 := by rw [HZE.out 0 hz0]; omega
      clear hh hbel hin
      go_wp2_with (first | (go_at_call 144; (with_reducible refine (transposed_n (some ⟨b, 0, none⟩) Z (bl S) (bl S) b wr.heap.size wr HZL.out HM.out (Nat.le_refl _) hz0 HE.out hz1 hz2).mono ?_); rintro e w7 ⟨r7, c7, rfl, o7, q7⟩; have O7 := Lib.hid o7; have B7 := Lib.hid q7; clear o7 q7))
      go_ret
      have h := O7.out
      rw [HZT.out] at h
      exact ⟨r7, c7, by rw [HZT.out]; rfl, h.mono hwz (Nat.le_refl _), HB.out.trans (B7.out.mono hwz)⟩

end Go.Proofs.Ytdamdlihicinlaa

namespace Go.Proofs.Ytdamdlihicinlaa
open Go.RowKit
set_option linter.unusedVariables false

set_option maxHeartbeats 1600000 in
theorem l01Same_any (a b : Option Addr) (za zb : List Int) (ca cb lo tp lo' tp' : Nat) (w : World) (ha : RowIn lo tp w a za) (hb : RowIn lo' tp' w b zb) (sa : za.length ≤ 1048576) :
    Calls Try.prog 134 #[.slice a za.length ca, .slice b zb.length cb] w fun e w' => e = .returned (.bool (decide (za = zb))) ∧ Quiet w w' := by
  have HA := Lib.hid ha
  have HB := Lib.hid hb
  clear ha hb
  by_cases hl : za.length = zb.length
  · have HL := Lib.hid hl
    obtain ⟨n, hn⟩ : ∃ n, n = zb.length := ⟨_, rfl⟩
    have HN := Lib.hid hn
    rw [hl] at sa ⊢
    rw [← hn] at sa ⊢
    clear hl hn
    go_enter Try.func134, Try.ntmps134
    go_wp2
    go_loopw [5] (fun t wr => ∃ i : Nat, i ≤ n ∧ t = .int .i64 i ∧ (∀ j, j < i → za.getD j 0 = zb.getD j 0) ∧ Quiet w wr) (fun t _ => n - (intOf t).toNat)
    case atStart => exact ⟨0, Nat.zero_le _, rfl, fun j hj => by omega, Quiet.refl _⟩
    case round =>
      obtain ⟨i, hi, rfl, hall, hq⟩ := hrel
      have HQ := Lib.hid hq
      have HALL := Lib.hid hall
      by_cases hlt : i < n
      · obtain ⟨b1, o1, ha1, _, _, hc1⟩ := (HA.out.same (hq.same _ _)).num (show i < za.length by rw [HL.out, ← HN.out]; exact hlt)
        obtain ⟨b2, o2, ha2, _, _, hc2⟩ := (HB.out.same (hq.same _ _)).num (show i < zb.length by rw [← HN.out]; exact hlt)
        subst ha1
        subst ha2
        have hi1 : (i : Int) < (n : Int) := by omega
        obtain ⟨x, hx⟩ : ∃ x, x = za.getD i 0 := ⟨_, rfl⟩
        obtain ⟨y, hy⟩ : ∃ y, y = zb.getD i 0 := ⟨_, rfl⟩
        have HX := Lib.hid hx
        have HY := Lib.hid hy
        rw [← hx] at hc1
        rw [← hy] at hc2
        clear hx hy hall hq
        by_cases hxy : x = y
        · have e1 : (x != y) = false := by simp [hxy]
          have HXY := Lib.hid hxy
          clear hxy
          go_wp2
          go_quiet (fail)
          go_wp2
          go_roundw
          case rel => exact ⟨i + 1, by omega, by go_num, fun j hj => by
            by_cases e : j = i
            · subst e; rw [← HX.out, ← HY.out, HXY.out]
            · exact HALL.out j (by omega), HQ.out.next _⟩
          case measure => simp [intOf]; omega
        · have e1 : (x != y) = true := by simp [hxy]
          have HR : Hid (decide (za = zb) = false) := decide_eq_false fun e => hxy (by rw [HX.out, HY.out, e])
          clear hxy
          go_wp2
          go_quiet (fail)
          go_wp2
          go_ret
          exact ⟨by rw [HR.out]; rfl, HQ.out.next _⟩
      · have hin : i = n := by omega
        subst hin
        have HR : Hid (decide (za = zb) = true) := decide_eq_true (row_ext HL.out (fun j hj => hall j (by rw [HN.out, ← HL.out]; exact hj)))
        clear hall hq
        go_wp2
        go_ret
        exact ⟨by rw [HR.out]; rfl, HQ.out⟩
  · have HR : Hid (decide (za = zb) = false) := decide_eq_false fun e => hl (by rw [e])
    obtain ⟨n, hn⟩ : ∃ n, n = za.length := ⟨_, rfl⟩
    obtain ⟨m, hm⟩ : ∃ m, m = zb.length := ⟨_, rfl⟩
    rw [← hn, ← hm] at hl ⊢
    have hl2 : ((n : Int) != (m : Int)) = true := by simp; omega
    go_enter Try.func134, Try.ntmps134
    go_wp2
    go_ret
    exact ⟨by rw [HR.out]; rfl, Quiet.refl _⟩

end Go.Proofs.Ytdamdlihicinlaa
