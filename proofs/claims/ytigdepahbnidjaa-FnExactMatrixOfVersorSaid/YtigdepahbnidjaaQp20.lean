/-
  slices.Max and slices.Equal of lists of numbers.
  Conditions: rows of known cells, of at most 1048576 numbers.
  Versors: spinor norms, parities, what is around vectors. No Go in sight.
  No conditions.
  Two lists compared: contracts of the program and of the model.
  Conditions: the lists are nil or rows of known cells, of at most 1048576 numbers.
  IsEven: contracts of the program and of the model.
  Conditions: the lists are nil or rows of known cells, of at most 1048576 numbers.
  Pseudoscalars, their squares, scalar products: contracts of the program and of the model.
  Conditions: the lists are nil or rows of known cells, of at most 1048576 numbers.
-/
import Derived.Test.YtigdepahbnidjaaQp8
import Derived.BigQuiet
import Derived.Test.YtigdepahbnidjaaQp18
import Derived.Test.YtigdepahbnidjaaQp19
import Derived.Test.YtigdepahbnidjaaQp6
import Derived.Test.YtigdepahbnidjaaQp17
import Derived.ChangeKeysEq
import Derived.Laws.StructEq
import Derived.Deep.RegionHeld3
import Derived.Deep.DeepCutAuto
namespace Go.Proofs.Ytigdepahbnidjaa
open Go.RowKit
set_option linter.unusedVariables false

/-- The greatest of the first numbers. -/
def mxF (z : List Int) : Nat → Int
  | 0 => z.getD 0 0
  | k + 1 => if mxF z k < z.getD (k + 1) 0 then z.getD (k + 1) 0 else mxF z k
theorem mxF_le (z : List Int) : ∀ k j, j ≤ k → z.getD j 0 ≤ mxF z k
  | 0, j, h => by rw [show j = 0 by omega]; exact Int.le_refl _
  | k + 1, j, h => by
    show _ ≤ if mxF z k < z.getD (k + 1) 0 then z.getD (k + 1) 0 else mxF z k
    by_cases e : j = k + 1
    · subst e; split <;> omega
    · have := mxF_le z k j (by omega)
      split <;> omega
theorem mxF_at (z : List Int) : ∀ k, ∃ j, j ≤ k ∧ mxF z k = z.getD j 0
  | 0 => ⟨0, Nat.le_refl _, rfl⟩
  | k + 1 => by
    obtain ⟨j, h1, h2⟩ := mxF_at z k
    by_cases e : mxF z k < z.getD (k + 1) 0
    · exact ⟨k + 1, Nat.le_refl _, if_pos e⟩
    · exact ⟨j, by omega, by rw [← h2]; exact if_neg e⟩
def allZ (z : List Int) : Bool := (List.range z.length).all fun j => decide (z.getD j 0 = 0)
theorem allZ_iff {z : List Int} : allZ z = true ↔ ∀ j, j < z.length → z.getD j 0 = 0 := by
  unfold allZ; simp only [List.all_eq_true, List.mem_range, decide_eq_true_eq]
theorem mx_zero {z : List Int} (h0 : 0 < z.length) (hn : ∀ j, j < z.length → 0 ≤ z.getD j 0) : (mxF z (z.length - 1) == 0) = allZ z := by
  rw [Bool.eq_iff_iff, beq_iff_eq, allZ_iff]
  constructor
  · intro h j hj
    have := mxF_le z (z.length - 1) j (by omega)
    have := hn j hj
    omega
  · intro h
    obtain ⟨j, h1, h2⟩ := mxF_at z (z.length - 1)
    rw [h2]; exact h j (by omega)
set_option maxHeartbeats 1600000 in
theorem max_any (a : Option Addr) (z : List Int) (ca lo tp : Nat) (w : World) (hz : RowIn lo tp w a z) (h0 : 0 < z.length) (hl : z.length ≤ 1048576) :
    Calls Try.prog 139 #[.slice a z.length ca] w fun e w' => e = .returned (.int .i64 (mxF z (z.length - 1))) ∧ w = w' := by
  have HZ := Lib.hid hz
  obtain ⟨b1, o1, ha1, _, _, hc1⟩ := hz.num h0
  subst ha1
  have hi0 : ¬ ((z.length : Int) < 1) := by omega
  have hi1 : (0 : Int) < (z.length : Int) := by omega
  rw [Nat.add_zero] at hc1
  obtain ⟨X0, hX0⟩ : ∃ x, x = z.getD 0 0 := ⟨_, rfl⟩
  rw [← hX0] at hc1
  have HX0 := Lib.hid hX0
  clear hz hX0
  go_enter Try.func139, Try.ntmps139
  go_wp2
  clear hc1
  go_loop [3, 4] (fun u t => ∃ i : Nat, i < z.length ∧ u = .int .i64 (mxF z i) ∧ t = .int .i64 ((i + 1 : Nat) : Int)) (fun _ t => z.length - (intOf t).toNat)
  case atStart => exact ⟨0, h0, by rw [HX0.out]; rfl, by simp⟩
  case round =>
    obtain ⟨i, hi, rfl, rfl⟩ := hrel
    by_cases hlt : i + 1 < z.length
    · have hi2 : ((i + 1 : Nat) : Int) < (z.length : Int) := by omega
      obtain ⟨b2, o2, ha2, _, _, hc2⟩ := HZ.out.num hlt
      cases ha2
      obtain ⟨x, hx⟩ : ∃ x, x = mxF z i := ⟨_, rfl⟩
      obtain ⟨y, hy⟩ : ∃ y, y = z.getD (i + 1) 0 := ⟨_, rfl⟩
      have HS : Hid (mxF z (i + 1) = if x < y then y else x) := by show _ = _; rw [hx, hy]; rfl
      rw [← hy] at hc2
      rw [← hx]
      clear hx hy
      go_wp2
      go_round
      case rel => exact ⟨i + 1, hlt, by (rw [HS.out]; try (congr 1; split <;> omega)), by go_num⟩
      case measure => simp [intOf]; omega
    · have hin : i = z.length - 1 := by omega
      have hi2 : ¬ (((i + 1 : Nat) : Int) < (z.length : Int)) := by omega
      have HIN := Lib.hid hin
      clear hin
      go_wp2
      go_ret
      exact ⟨by rw [← HIN.out]; rfl, rfl⟩

set_option maxHeartbeats 1600000 in
theorem equal_any (a b : Option Addr) (za zb : List Int) (ca cb lo tp lo' tp' : Nat) (w : World) (ha : RowIn lo tp w a za) (hb : RowIn lo' tp' w b zb) (sa : za.length ≤ 1048576) :
    Calls Try.prog 76 #[.slice a za.length ca, .slice b zb.length cb] w fun e w' => e = .returned (.bool (decide (za = zb))) ∧ Quiet w w' := by
  have HA := Lib.hid ha
  have HB := Lib.hid hb
  clear ha hb
  by_cases hl : za.length = zb.length
  · have HL := Lib.hid hl
    obtain ⟨n, hn⟩ : ∃ n, n = zb.length := ⟨_, rfl⟩
    have HN := Lib.hid hn
    rw [hl] at sa ⊢
    rw [← hn] at sa ⊢
    clear hl hn
    go_enter Try.func76, Try.ntmps76
    go_wp2
    go_loopw [13] (fun t wr => ∃ i : Nat, i ≤ n ∧ t = .int .i64 i ∧ (∀ j, j < i → za.getD j 0 = zb.getD j 0) ∧ Quiet w wr) (fun t _ => n - (intOf t).toNat)
    case atStart => exact ⟨0, Nat.zero_le _, rfl, fun j hj => by omega, Quiet.refl _⟩
    case round =>
      obtain ⟨i, hi, rfl, hall, hq⟩ := hrel
      have HQ := Lib.hid hq
      have HALL := Lib.hid hall
      by_cases hlt : i < n
      · obtain ⟨b1, o1, ha1, _, _, hc1⟩ := (HA.out.same (hq.same _ _)).num (show i < za.length by rw [HL.out, ← HN.out]; exact hlt)
        obtain ⟨b2, o2, ha2, _, _, hc2⟩ := (HB.out.same (hq.same _ _)).num (show i < zb.length by rw [← HN.out]; exact hlt)
        subst ha1
        subst ha2
        have hi1 : (i : Int) < (n : Int) := by omega
        obtain ⟨x, hx⟩ : ∃ x, x = za.getD i 0 := ⟨_, rfl⟩
        obtain ⟨y, hy⟩ : ∃ y, y = zb.getD i 0 := ⟨_, rfl⟩
        have HX := Lib.hid hx
        have HY := Lib.hid hy
        rw [← hx] at hc1
        rw [← hy] at hc2
        clear hx hy hall hq
        by_cases hxy : x = y
        · have e1 : (x != y) = false := by simp [hxy]
          have HXY := Lib.hid hxy
          clear hxy
          go_wp2
          go_quiet (fail)
          go_wp2
          go_roundw
          case rel => exact ⟨i + 1, by omega, by go_num, fun j hj => by
            by_cases e : j = i
            · subst e; rw [← HX.out, ← HY.out, HXY.out]
            · exact HALL.out j (by omega), HQ.out.next _⟩
          case measure => simp [intOf]; omega
        · have e1 : (x != y) = true := by simp [hxy]
          have HR : Hid (decide (za = zb) = false) := decide_eq_false fun e => hxy (by rw [HX.out, HY.out, e])
          clear hxy
          go_wp2
          go_quiet (fail)
          go_wp2
          go_ret
          exact ⟨by rw [HR.out]; rfl, HQ.out.next _⟩
      · have hin : i = n := by omega
        subst hin
        have HR : Hid (decide (za = zb) = true) := decide_eq_true (row_ext HL.out (fun j hj => hall j (by rw [HN.out, ← HL.out]; exact hj)))
        clear hall hq
        go_wp2
        go_ret
        exact ⟨by rw [HR.out]; rfl, HQ.out⟩
  · have HR : Hid (decide (za = zb) = false) := decide_eq_false fun e => hl (by rw [e])
    obtain ⟨n, hn⟩ : ∃ n, n = za.length := ⟨_, rfl⟩
    obtain ⟨m, hm⟩ : ∃ m, m = zb.length := ⟨_, rfl⟩
    rw [← hn, ← hm] at hl ⊢
    have hl2 : ((n : Int) != (m : Int)) = true := by simp; omega
    go_enter Try.func76, Try.ntmps76
    go_wp2
    go_ret
    exact ⟨by rw [HR.out]; rfl, Quiet.refl _⟩

end Go.Proofs.Ytigdepahbnidjaa

namespace Go.Proofs.Ytigdepahbnidjaa
open Go.RowKit
set_option linter.unusedVariables false

/-- The involute. -/
def ivM (p : Int) (x : List Int) : List Int := mkR x.length (sgF p c_involution x)
theorem sg_mv {p : Int} {S x : List Int} (c : Nat → Nat) (hs : isSp p S = true) (h : isMv p S x = true) : isMv p S (mkR x.length (sgF p c x)) = true :=
  isMv_of (by rw [mkR_len]; exact Mv.len h) fun j hj => by
    have hp := prm_bd (isSp_iff.1 hs).prime
    rw [mkR_len] at hj
    rw [mkR_at _ hj]
    unfold sgF
    have hx := Mv.num h j hj
    split
    · exact ⟨Int.emod_nonneg _ (by omega), Int.emod_lt_of_pos _ (by omega)⟩
    · exact hx
theorem iv_mv {p : Int} {S x : List Int} (hs : isSp p S = true) (h : isMv p S x = true) : isMv p S (ivM p x) = true := sg_mv _ hs h
theorem vec_mv {p : Int} {S v : List Int} (hs : isSp p S = true) (hv : isVec p S.length v = true) : isMv p S (vecM S v) = true := vec_mv' hs hv
/-- The product with the reverse, and the spinor norm. -/
def nrM (p : Int) (S x : List Int) : List Int := prodM p S x (revM p x)
def nrF (p : Int) (S x : List Int) : Int := prodF p S x (revM p x) 0
theorem nrF_bd {p : Int} {S : List Int} (hs : isSp p S = true) (x : List Int) : 0 ≤ nrF p S x ∧ nrF p S x < p := prodF_bd (by have := prm_bd (isSp_iff.1 hs).prime; omega) _ _ _ _
theorem nrM_zero (p : Int) (S x : List Int) : (nrM p S x).getD 0 0 = nrF p S x := prodM_at _ _ _ _ (bl_pos S)
theorem nrM_mv {p : Int} {S : List Int} (hs : isSp p S = true) (x : List Int) : isMv p S (nrM p S x) = true := prod_mv hs _ _
/-- What is around a vector. -/
def arM (p : Int) (S x v : List Int) : List Int := prodM p S (prodM p S (ivM p x) (vecM S v)) (revM p x)
theorem arM_len (p : Int) (S x v : List Int) : (arM p S x v).length = bl S := prodM_len _ _ _ _
theorem arM_mv {p : Int} {S : List Int} (hs : isSp p S = true) (x v : List Int) : isMv p S (arM p S x v) = true := prod_mv hs _ _
/-- The numbers of the basis vectors. -/
def vnF (z : List Int) (i : Nat) : Int := z.getD (2 ^ i) 0
def vnM (n : Nat) (z : List Int) : List Int := mkR n (vnF z)
theorem vnM_len (n : Nat) (z : List Int) : (vnM n z).length = n := mkR_len _ _
def parB (x : List Int) (r : Nat) : Bool := (List.range x.length).all fun j => decide (gr j % 2 = r) || decide (x.getD j 0 = 0)
theorem parB_iff {x : List Int} {r : Nat} : parB x r = true ↔ ∀ j, j < x.length → x.getD j 0 ≠ 0 → gr j % 2 = r := by
  unfold parB
  simp only [List.all_eq_true, List.mem_range]
  constructor
  · intro h j hj hx
    have h2 := h j hj
    rw [Bool.or_eq_true, decide_eq_true_eq, decide_eq_true_eq] at h2
    exact h2.resolve_right hx
  · intro h j hj
    rw [Bool.or_eq_true, decide_eq_true_eq, decide_eq_true_eq]
    by_cases e : x.getD j 0 = 0
    · exact .inr e
    · exact .inl (h j hj e)
theorem parB_no {x : List Int} {r j : Nat} (hj : j < x.length) (hx : x.getD j 0 ≠ 0) (h : gr j % 2 ≠ r) : parB x r = false := by
  cases e : parB x r with
  | false => rfl
  | true => exact absurd (parB_iff.1 e j hj hx) h
/-- All numbers but the first are 0. -/
def scB (z : List Int) : Bool := (List.range z.length).all fun j => decide (j = 0) || decide (z.getD j 0 = 0)
theorem scB_iff {z : List Int} : scB z = true ↔ ∀ j, j < z.length → 0 < j → z.getD j 0 = 0 := by
  unfold scB
  simp only [List.all_eq_true, List.mem_range]
  constructor
  · intro h j hj h0
    have h2 := h j hj
    rw [Bool.or_eq_true, decide_eq_true_eq, decide_eq_true_eq] at h2
    exact h2.resolve_left (by omega)
  · intro h j hj
    rw [Bool.or_eq_true, decide_eq_true_eq, decide_eq_true_eq]
    by_cases e : j = 0
    · exact .inl e
    · exact .inr (h j hj (by omega))
theorem drop_at (z : List Int) (j : Nat) : (z.drop 1).getD j 0 = z.getD (j + 1) 0 := by simp [List.getD]
theorem scB_drop {z : List Int} : allZ (z.drop 1) = scB z := by
  rw [Bool.eq_iff_iff, allZ_iff, scB_iff]
  constructor
  · intro h j hj h0
    have := h (j - 1) (by rw [List.length_drop]; omega)
    rw [drop_at, show j - 1 + 1 = j by omega] at this
    exact this
  · intro h j hj
    rw [List.length_drop] at hj
    rw [drop_at]
    exact h (j + 1) (by omega) (by omega)
theorem scB_same {p : Int} {S z : List Int} (hl : z.length = bl S) (hn : ∀ j, j < z.length → 0 ≤ z.getD j 0 ∧ z.getD j 0 < p) : decide (z = sclR p (mOne S) (z.getD 0 0)) = scB z := by
  rw [Bool.eq_iff_iff, decide_eq_true_eq, scB_iff]
  have e : ∀ j, j < bl S → (sclR p (mOne S) (z.getD 0 0)).getD j 0 = if j = 0 then z.getD 0 0 else 0 := fun j hj => by
    have hl1 : (mOne S).length = bl S := mkR_len _ _
    unfold sclR
    rw [mkR_at _ (by rw [hl1]; exact hj), show (mOne S).getD j 0 = oneF j from mkR_at _ hj]
    unfold oneF
    by_cases h : j = 0
    · subst h
      rw [if_pos rfl, if_pos rfl, Int.one_mul]
      exact Int.emod_eq_of_lt (hn 0 (by omega)).1 (hn 0 (by omega)).2
    · rw [if_neg h, if_neg h, Int.zero_mul, Int.zero_emod]
  constructor
  · intro h j hj h0
    have h2 : z.getD j 0 = (sclR p (mOne S) (z.getD 0 0)).getD j 0 := by rw [← h]
    rw [h2, e j (by omega), if_neg (by omega)]
  · intro h
    refine row_ext (by unfold sclR; rw [mkR_len]; exact hl.trans (mkR_len _ _).symm) fun j hj => ?_
    rw [e j (by omega)]
    by_cases h0 : j = 0
    · subst h0; rw [if_pos rfl]
    · rw [if_neg h0]; exact h j hj (by omega)
/-- A basis vector. -/
def eiR (n i : Nat) : List Int := mkR n fun j => if i = j then 1 else 0
theorem ei_vec {p : Int} (hp : 1 < p) (n i : Nat) : isVec p n (eiR n i) = true := by
  refine isVec_iff.2 ⟨mkR_len _ _, ?_⟩
  rw [List.all_eq_true]
  intro y hy
  obtain ⟨j, hj, rfl⟩ := List.getElem_of_mem hy
  rw [← getD_at hj]
  have hj' : j < n := by unfold eiR at hj; rw [mkR_len] at hj; exact hj
  unfold eiR
  rw [mkR_at _ hj']
  exact inr_iff.2 (by split <;> omega)
theorem pow_one : ∀ j, j < 64 → (gr j = 1 ↔ ∃ i, i < 6 ∧ j = 2 ^ i) := by decide +kernel
theorem pow_ne {i k : Nat} (h : i ≠ k) : 2 ^ i ≠ 2 ^ k := fun e => by
  rcases Nat.lt_or_gt_of_ne h with h1 | h1
  · have := Nat.pow_lt_pow_right (show 1 < 2 by decide) h1; omega
  · have := Nat.pow_lt_pow_right (show 1 < 2 by decide) h1; omega
theorem vecF_at {v : List Int} : ∀ k i, i < k → vecF v k (2 ^ i) = v.getD i 0
  | 0, i, h => by omega
  | k + 1, i, h => by
    show (if 2 ^ i = 2 ^ k then v.getD k 0 else vecF v k (2 ^ i)) = _
    by_cases e : i = k
    · subst e; rw [if_pos rfl]
    · rw [if_neg (pow_ne e)]
      exact vecF_at k i (by omega)
theorem vecF_off {v : List Int} {j : Nat} : ∀ k, (∀ i, i < k → j ≠ 2 ^ i) → vecF v k j = 0
  | 0, _ => rfl
  | k + 1, h => by
    show (if j = 2 ^ k then v.getD k 0 else vecF v k j) = 0
    rw [if_neg (h k (by omega))]
    exact vecF_off k fun i hi => h i (by omega)
/-- The part of grade 1 is the vector of the numbers of the basis vectors. -/
theorem vec_part {S z : List Int} (h6 : S.length ≤ 6) (hl : z.length = bl S) : vecM S (vnM S.length z) = partM z 1 := by
  unfold vecM partM
  rw [hl, vnM_len]
  refine mkR_congr fun j hj => ?_
  have hj64 : j < 64 := Nat.lt_of_lt_of_le hj (bl_le h6)
  by_cases h : gr j = 1
  · obtain ⟨i, _, rfl⟩ := (pow_one j hj64).1 h
    have hi : i < S.length := by
      refine Classical.byContradiction fun hk => ?_
      have : 2 ^ S.length ≤ 2 ^ i := Nat.pow_le_pow_right (by decide) (by omega)
      have : 2 ^ i < 2 ^ S.length := hj
      omega
    rw [vecF_at _ _ hi, if_pos (by rw [h]; rfl)]
    exact mkR_at _ hi
  · rw [if_neg (fun e => h (by omega))]
    exact vecF_off _ fun i hi e => h ((pow_one j hj64).2 ⟨i, by omega, e⟩)
def ldB (p : Int) (S x : List Int) (i : Nat) : Bool := decide (arM p S x (eiR S.length i) = partM (arM p S x (eiR S.length i)) 1)
/-- What a versor is. -/
def isVr (p : Int) (S x : List Int) : Bool := decide (nrF p S x ≠ 0) && scB (nrM p S x) && (parB x 0 || parB x 1) && (List.range S.length).all (ldB p S x)
theorem isVr_iff {p : Int} {S x : List Int} : isVr p S x = true ↔ nrF p S x ≠ 0 ∧ scB (nrM p S x) = true ∧ (parB x 0 = true ∨ parB x 1 = true) ∧ ∀ i, i < S.length → ldB p S x i = true := by
  unfold isVr
  simp only [Bool.and_eq_true, Bool.or_eq_true, decide_eq_true_eq, List.all_eq_true, List.mem_range, and_assoc]
theorem isVr_no {p : Int} {S x : List Int} (h : ¬ (nrF p S x ≠ 0 ∧ scB (nrM p S x) = true ∧ (parB x 0 = true ∨ parB x 1 = true) ∧ ∀ i, i < S.length → ldB p S x i = true)) : isVr p S x = false := by
  cases e : isVr p S x with
  | false => rfl
  | true => exact absurd (isVr_iff.1 e) h
/-- The way the tests go. -/
theorem isVr_cases (p : Int) (S x : List Int) : (nrF p S x = 0 ∧ isVr p S x = false) ∨ (nrF p S x ≠ 0 ∧ scB (nrM p S x) = false ∧ isVr p S x = false) ∨ (nrF p S x ≠ 0 ∧ scB (nrM p S x) = true ∧ (parB x 0 || parB x 1) = false ∧ isVr p S x = false) ∨ (nrF p S x ≠ 0 ∧ scB (nrM p S x) = true ∧ (parB x 0 || parB x 1) = true ∧ isVr p S x = (List.range S.length).all (ldB p S x)) := by
  by_cases h0 : nrF p S x = 0
  · exact .inl ⟨h0, isVr_no fun h => h.1 h0⟩
  · right
    cases h1 : scB (nrM p S x) with
    | false => exact .inl ⟨h0, rfl, isVr_no fun h => by rw [h1] at h; cases h.2.1⟩
    | true =>
      right
      cases h2 : (parB x 0 || parB x 1) with
      | false => exact .inl ⟨h0, rfl, rfl, isVr_no fun h => by
          rw [← Bool.or_eq_true, h2] at h; cases h.2.2.1⟩
      | true => exact .inr ⟨h0, rfl, rfl, by unfold isVr; rw [h1, h2, decide_eq_true h0]; rfl⟩
/-- 0 for even, 1 for odd, -1 for neither. -/
def parI (x : List Int) : Int := if parB x 0 = true then 0 else if parB x 1 = true then 1 else -1
theorem parI_neg (x : List Int) : (parI x < 0) ↔ (parB x 0 || parB x 1) = false := by
  unfold parI
  cases parB x 0 <;> cases parB x 1 <;> simp
/-- The list of grades, for the model's loop. -/
theorem grades_mem {S x : List Int} (h6 : S.length ≤ 6) (hx : x.length = bl S) {r : Nat} : parB x r = true ↔ ∀ i, i < (grades S x).length → (grades S x).getD i 0 % 2 = (r : Int) := by
  have hm : ∀ y : Int, y ∈ grades S x ↔ ∃ k : Nat, hasGr x k = true ∧ y = (k : Int) := fun y => by
    unfold grades
    simp only [List.mem_map, List.mem_filter, List.mem_range]
    constructor
    · rintro ⟨k, ⟨_, h⟩, rfl⟩; exact ⟨k, h, rfl⟩
    · rintro ⟨k, h, rfl⟩
      refine ⟨k, ⟨?_, h⟩, rfl⟩
      refine Classical.byContradiction fun hk => ?_
      rw [hasGr_far h6 hx (k := k) (by omega)] at h; cases h
  rw [parB_iff]
  constructor
  · intro h i hi
    have hmem : (grades S x)[i] ∈ grades S x := List.getElem_mem hi
    rw [getD_at hi]
    obtain ⟨k, hk, e⟩ := (hm _).1 hmem
    obtain ⟨j, hj, hg, hne⟩ := hasGr_iff.1 hk
    have := h j hj hne
    rw [e]; omega
  · intro h j hj hne
    have hmem : ((gr j : Nat) : Int) ∈ grades S x := (hm _).2 ⟨gr j, hasGr_iff.2 ⟨j, hj, rfl, hne⟩, rfl⟩
    obtain ⟨i, hi, e⟩ := List.getElem_of_mem hmem
    have := h i hi
    rw [getD_at hi, e] at this
    omega
/-- The grades are numbers from 0 to 6. -/
theorem grades_nn {S x : List Int} (h6 : S.length ≤ 6) {i : Nat} (hi : i < (grades S x).length) : 0 ≤ (grades S x).getD i 0 ∧ (grades S x).getD i 0 ≤ 6 := by
  have hmem : (grades S x)[i] ∈ grades S x := List.getElem_mem hi
  rw [getD_at hi]
  unfold grades at hmem
  simp only [List.mem_map, List.mem_filter, List.mem_range] at hmem
  obtain ⟨k, ⟨hk, _⟩, e⟩ := hmem
  have e' : (k : Int) = (grades S x)[i] := e
  rw [← e']; omega
/-- The product with a multiple. -/
theorem gpz_mul (S : List Int) (n : Nat) (x y : Nat → Int) (k : Int) (c : Nat) : gpz S n x (fun j => y j * k) c = gpz S n x y c * k := by
  unfold gpz
  rw [Int.mul_comm, ← sm_mul]
  apply sm_congr
  intro a _
  rw [← Int.mul_assoc, Int.mul_comm]
theorem prod_scl (p : Int) (S a b : List Int) (k : Int) (hb : b.length = bl S) : prodM p S a (sclV p b k) = sclV p (prodM p S a b) k := by
  unfold sclV
  rw [prodM_len]
  refine mkR_congr fun c hc => ?_
  rw [prodM_at p S a b hc]
  show gpz _ _ _ _ c % p = gpz _ _ _ _ c % p * k % p
  rw [em_l, ← gpz_mul]
  exact gpz_mod S S.length hc (fun _ _ => rfl) fun j hj => by
    show (mkR b.length fun j => b.getD j 0 * k % p).getD j 0 % p = _
    rw [mkR_at _ (by rw [hb]; exact hj), Int.emod_emod]
/-- The inverse of a versor. -/
def viM (p : Int) (S x : List Int) : List Int := sclV p (revM p x) (inv p (nrF p S x))
theorem sclV_mv {p k : Int} {S x : List Int} (hs : isSp p S = true) (hx : isMv p S x = true) : isMv p S (sclV p x k) = true :=
  isMv_of (by unfold sclV; rw [mkR_len]; exact Mv.len hx) fun j hj => by
    have hp := prm_bd (isSp_iff.1 hs).prime
    unfold sclV at hj ⊢
    rw [mkR_len] at hj
    rw [mkR_at _ hj]
    exact ⟨Int.emod_nonneg _ (by omega), Int.emod_lt_of_pos _ (by omega)⟩
theorem vi_mv {p : Int} {S x : List Int} (hs : isSp p S = true) (hx : isMv p S x = true) : isMv p S (viM p S x) = true := sclV_mv hs (rev_mv hs hx)
/-- What the sandwich makes of a vector. -/
def sdF (p : Int) (S x v : List Int) (i : Nat) : Int := vnF (arM p S x v) i * inv p (nrF p S x) % p
def sdM (p : Int) (S x v : List Int) : List Int := mkR S.length (sdF p S x v)
theorem sd_model {p : Int} {S x : List Int} (hs : isSp p S = true) (hx : isMv p S x = true) (v : List Int) : vnM S.length (prodM p S (prodM p S (ivM p x) (vecM S v)) (viM p S x)) = sdM p S x v := by
  unfold viM sdM
  rw [prod_scl _ _ _ _ _ (Mv.len (rev_mv hs hx))]
  refine mkR_congr fun i hi => ?_
  have h2 : 2 ^ i < bl S := Nat.pow_lt_pow_right (by decide) hi
  show (sclV p (arM p S x v) (inv p (nrF p S x))).getD (2 ^ i) 0 = _
  unfold sclV
  exact mkR_at _ (by rw [show (arM p S x v).length = bl S from prodM_len _ _ _ _]; exact h2)
/-- The reflection's factor: the program's and the model's. -/
def rfK (p a n : Int) : Int := (-2 * a) % p * inv p n % p
theorem rf_model {p a n : Int} (hp : 0 < p) : (p - 2 * a % p * inv p n % p) % p = rfK p a n := by
  unfold rfK
  rw [em_sub, show -(2 * a % p * inv p n) = 2 * a % p * -(inv p n) by rw [Int.mul_neg], em_l, em_l, Int.mul_neg, Int.neg_mul, Int.neg_mul]
theorem rf_bd {p : Int} (hp : 0 < p) (a n : Int) : 0 ≤ rfK p a n ∧ rfK p a n < p := ⟨Int.emod_nonneg _ (by omega), Int.emod_lt_of_pos _ hp⟩

end Go.Proofs.Ytigdepahbnidjaa

namespace Go.Proofs.Ytigdepahbnidjaa
open Go.RowKit
set_option linter.unusedVariables false

set_option maxHeartbeats 1600000 in
theorem l01Same_any (a b : Option Addr) (za zb : List Int) (ca cb lo tp lo' tp' : Nat) (w : World) (ha : RowIn lo tp w a za) (hb : RowIn lo' tp' w b zb) (sa : za.length ≤ 1048576) :
    Calls Try.prog 99 #[.slice a za.length ca, .slice b zb.length cb] w fun e w' => e = .returned (.bool (decide (za = zb))) ∧ Quiet w w' := by
  have HA := Lib.hid ha
  have HB := Lib.hid hb
  clear ha hb
  by_cases hl : za.length = zb.length
  · have HL := Lib.hid hl
    obtain ⟨n, hn⟩ : ∃ n, n = zb.length := ⟨_, rfl⟩
    have HN := Lib.hid hn
    rw [hl] at sa ⊢
    rw [← hn] at sa ⊢
    clear hl hn
    go_enter Try.func99, Try.ntmps99
    go_wp2
    go_loopw [5] (fun t wr => ∃ i : Nat, i ≤ n ∧ t = .int .i64 i ∧ (∀ j, j < i → za.getD j 0 = zb.getD j 0) ∧ Quiet w wr) (fun t _ => n - (intOf t).toNat)
    case atStart => exact ⟨0, Nat.zero_le _, rfl, fun j hj => by omega, Quiet.refl _⟩
    case round =>
      obtain ⟨i, hi, rfl, hall, hq⟩ := hrel
      have HQ := Lib.hid hq
      have HALL := Lib.hid hall
      by_cases hlt : i < n
      · obtain ⟨b1, o1, ha1, _, _, hc1⟩ := (HA.out.same (hq.same _ _)).num (show i < za.length by rw [HL.out, ← HN.out]; exact hlt)
        obtain ⟨b2, o2, ha2, _, _, hc2⟩ := (HB.out.same (hq.same _ _)).num (show i < zb.length by rw [← HN.out]; exact hlt)
        subst ha1
        subst ha2
        have hi1 : (i : Int) < (n : Int) := by omega
        obtain ⟨x, hx⟩ : ∃ x, x = za.getD i 0 := ⟨_, rfl⟩
        obtain ⟨y, hy⟩ : ∃ y, y = zb.getD i 0 := ⟨_, rfl⟩
        have HX := Lib.hid hx
        have HY := Lib.hid hy
        rw [← hx] at hc1
        rw [← hy] at hc2
        clear hx hy hall hq
        by_cases hxy : x = y
        · have e1 : (x != y) = false := by simp [hxy]
          have HXY := Lib.hid hxy
          clear hxy
          go_wp2
          go_quiet (fail)
          go_wp2
          go_roundw
          case rel => exact ⟨i + 1, by omega, by go_num, fun j hj => by
            by_cases e : j = i
            · subst e; rw [← HX.out, ← HY.out, HXY.out]
            · exact HALL.out j (by omega), HQ.out.next _⟩
          case measure => simp [intOf]; omega
        · have e1 : (x != y) = true := by simp [hxy]
          have HR : Hid (decide (za = zb) = false) := decide_eq_false fun e => hxy (by rw [HX.out, HY.out, e])
          clear hxy
          go_wp2
          go_quiet (fail)
          go_wp2
          go_ret
          exact ⟨by rw [HR.out]; rfl, HQ.out.next _⟩
      · have hin : i = n := by omega
        subst hin
        have HR : Hid (decide (za = zb) = true) := decide_eq_true (row_ext HL.out (fun j hj => hall j (by rw [HN.out, ← HL.out]; exact hj)))
        clear hall hq
        go_wp2
        go_ret
        exact ⟨by rw [HR.out]; rfl, HQ.out⟩
  · have HR : Hid (decide (za = zb) = false) := decide_eq_false fun e => hl (by rw [e])
    obtain ⟨n, hn⟩ : ∃ n, n = za.length := ⟨_, rfl⟩
    obtain ⟨m, hm⟩ : ∃ m, m = zb.length := ⟨_, rfl⟩
    rw [← hn, ← hm] at hl ⊢
    have hl2 : ((n : Int) != (m : Int)) = true := by simp; omega
    go_enter Try.func99, Try.ntmps99
    go_wp2
    go_ret
    exact ⟨by rw [HR.out]; rfl, Quiet.refl _⟩

end Go.Proofs.Ytigdepahbnidjaa

namespace Go.Proofs.Ytigdepahbnidjaa
open Go.RowKit
set_option linter.unusedVariables false

theorem ss2s {w : World} {b i j : Nat} {u v : Value} {g : Nat} {u0 u1 : Value} (l : g ≠ b) (h0 : w.cell? ⟨g, 0, none⟩ = some u0 ∧ w.cell? ⟨g, 1, none⟩ = some u1) : ((w.setCell ⟨b, i, none⟩ u).setCell ⟨b, j, none⟩ v).cell? ⟨g, 0, none⟩ = some u0 ∧ ((w.setCell ⟨b, i, none⟩ u).setCell ⟨b, j, none⟩ v).cell? ⟨g, 1, none⟩ = some u1 := by
  have e : ∀ (W : World) (i k : Nat) (v : Value), (W.setCell ⟨b, i, none⟩ v).cell? ⟨g, k, none⟩ = W.cell? ⟨g, k, none⟩ := fun W i k v => World.cell?_setCell_other W ⟨b, i, none⟩ ⟨g, k, none⟩ v (fun h => by injection h with h1; omega)
  rw [e, e, e, e]; exact h0

end Go.Proofs.Ytigdepahbnidjaa
