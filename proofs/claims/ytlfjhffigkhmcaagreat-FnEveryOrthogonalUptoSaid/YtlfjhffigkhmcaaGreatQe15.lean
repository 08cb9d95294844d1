/-
  Versors: spinor norms, parities, what is around vectors. No Go in sight.
  No conditions.
  Two lists compared: contracts of the program and of the model.
  Conditions: the lists are nil or rows of known cells, of at most 1048576 numbers.
  IsEven: contracts of the program and of the model.
  Conditions: the lists are nil or rows of known cells, of at most 1048576 numbers.
  Pseudoscalars, their squares, scalar products: contracts of the program and of the model.
  Conditions: the lists are nil or rows of known cells, of at most 1048576 numbers.
-/
import Derived.Test.YtlfjhffigkhmcaaGreatQe14
import Derived.Test.YtlfjhffigkhmcaaGreatQe4
import Derived.BigQuiet
import Derived.ChangeKeysEq
import Derived.Laws.StructEq
import Derived.Deep.RegionHeld3
import Derived.Deep.DeepCutAuto
namespace Go.Proofs.YtlfjhffigkhmcaaGreat
open Go.RowKit
set_option linter.unusedVariables false

/-- The involute. -/
def ivM (p : Int) (x : List Int) : List Int := mkR x.length (sgF p c_involution x)
theorem sg_mv {p : Int} {S x : List Int} (c : Nat → Nat) (hs : isSp p S = true) (h : isMv p S x = true) : isMv p S (mkR x.length (sgF p c x)) = true :=
  isMv_of (by rw [mkR_len]; exact Mv.len h) fun j hj => by
    have hp := prm_bd (isSp_iff.1 hs).prime
    rw [mkR_len] at hj
    rw [mkR_at _ hj]
    unfold sgF
    have hx := Mv.num h j hj
    split
    · exact ⟨Int.emod_nonneg _ (by omega), Int.emod_lt_of_pos _ (by omega)⟩
    · exact hx
theorem vec_mv {p : Int} {S v : List Int} (hs : isSp p S = true) (hv : isVec p S.length v = true) : isMv p S (vecM S v) = true := vec_mv' hs hv
/-- The product with the reverse, and the spinor norm. -/
def nrM (p : Int) (S x : List Int) : List Int := prodM p S x (revM p x)
def nrF (p : Int) (S x : List Int) : Int := prodF p S x (revM p x) 0
theorem nrF_bd {p : Int} {S : List Int} (hs : isSp p S = true) (x : List Int) : 0 ≤ nrF p S x ∧ nrF p S x < p := prodF_bd (by have := prm_bd (isSp_iff.1 hs).prime; omega) _ _ _ _
theorem nrM_zero (p : Int) (S x : List Int) : (nrM p S x).getD 0 0 = nrF p S x := prodM_at _ _ _ _ (bl_pos S)
theorem nrM_mv {p : Int} {S : List Int} (hs : isSp p S = true) (x : List Int) : isMv p S (nrM p S x) = true := prod_mv hs _ _
/-- What is around a vector. -/
def arM (p : Int) (S x v : List Int) : List Int := prodM p S (prodM p S (ivM p x) (vecM S v)) (revM p x)
theorem arM_len (p : Int) (S x v : List Int) : (arM p S x v).length = bl S := prodM_len _ _ _ _
theorem arM_mv {p : Int} {S : List Int} (hs : isSp p S = true) (x v : List Int) : isMv p S (arM p S x v) = true := prod_mv hs _ _
/-- The numbers of the basis vectors. -/
def vnF (z : List Int) (i : Nat) : Int := z.getD (2 ^ i) 0
def vnM (n : Nat) (z : List Int) : List Int := mkR n (vnF z)
theorem vnM_len (n : Nat) (z : List Int) : (vnM n z).length = n := mkR_len _ _
def parB (x : List Int) (r : Nat) : Bool := (List.range x.length).all fun j => decide (gr j % 2 = r) || decide (x.getD j 0 = 0)
theorem parB_iff {x : List Int} {r : Nat} : parB x r = true ↔ ∀ j, j < x.length → x.getD j 0 ≠ 0 → gr j % 2 = r := by
  unfold parB
  simp only [List.all_eq_true, List.mem_range]
  constructor
  · intro h j hj hx
    have h2 := h j hj
    rw [Bool.or_eq_true, decide_eq_true_eq, decide_eq_true_eq] at h2
    exact h2.resolve_right hx
  · intro h j hj
    rw [Bool.or_eq_true, decide_eq_true_eq, decide_eq_true_eq]
    by_cases e : x.getD j 0 = 0
    · exact .inr e
    · exact .inl (h j hj e)
theorem parB_no {x : List Int} {r j : Nat} (hj : j < x.length) (hx : x.getD j 0 ≠ 0) (h : gr j % 2 ≠ r) : parB x r = false := by
  cases e : parB x r with
  | false => rfl
  | true => exact absurd (parB_iff.1 e j hj hx) h
/-- All numbers but the first are 0. -/
def scB (z : List Int) : Bool := (List.range z.length).all fun j => decide (j = 0) || decide (z.getD j 0 = 0)
theorem scB_iff {z : List Int} : scB z = true ↔ ∀ j, j < z.length → 0 < j → z.getD j 0 = 0 := by
  unfold scB
  simp only [List.all_eq_true, List.mem_range]
  constructor
  · intro h j hj h0
    have h2 := h j hj
    rw [Bool.or_eq_true, decide_eq_true_eq, decide_eq_true_eq] at h2
    exact h2.resolve_left (by omega)
  · intro h j hj
    rw [Bool.or_eq_true, decide_eq_true_eq, decide_eq_true_eq]
    by_cases e : j = 0
    · exact .inl e
    · exact .inr (h j hj (by omega))
theorem drop_at (z : List Int) (j : Nat) : (z.drop 1).getD j 0 = z.getD (j + 1) 0 := by simp [List.getD]
theorem scB_drop {z : List Int} : allZ (z.drop 1) = scB z := by
  rw [Bool.eq_iff_iff, allZ_iff, scB_iff]
  constructor
  · intro h j hj h0
    have := h (j - 1) (by rw [List.length_drop]; omega)
    rw [drop_at, show j - 1 + 1 = j by omega] at this
    exact this
  · intro h j hj
    rw [List.length_drop] at hj
    rw [drop_at]
    exact h (j + 1) (by omega) (by omega)
/-- A basis vector. -/
def eiR (n i : Nat) : List Int := mkR n fun j => if i = j then 1 else 0
theorem ei_vec {p : Int} (hp : 1 < p) (n i : Nat) : isVec p n (eiR n i) = true := by
  refine isVec_iff.2 ⟨mkR_len _ _, ?_⟩
  rw [List.all_eq_true]
  intro y hy
  obtain ⟨j, hj, rfl⟩ := List.getElem_of_mem hy
  rw [← getD_at hj]
  have hj' : j < n := by unfold eiR at hj; rw [mkR_len] at hj; exact hj
  unfold eiR
  rw [mkR_at _ hj']
  exact inr_iff.2 (by split <;> omega)
theorem pow_one : ∀ j, j < 64 → (gr j = 1 ↔ ∃ i, i < 6 ∧ j = 2 ^ i) := by decide +kernel
theorem pow_ne {i k : Nat} (h : i ≠ k) : 2 ^ i ≠ 2 ^ k := fun e => by
  rcases Nat.lt_or_gt_of_ne h with h1 | h1
  · have := Nat.pow_lt_pow_right (show 1 < 2 by decide) h1; omega
  · have := Nat.pow_lt_pow_right (show 1 < 2 by decide) h1; omega
theorem vecF_at {v : List Int} : ∀ k i, i < k → vecF v k (2 ^ i) = v.getD i 0
  | 0, i, h => by omega
  | k + 1, i, h => by
    show (if 2 ^ i = 2 ^ k then v.getD k 0 else vecF v k (2 ^ i)) = _
    by_cases e : i = k
    · subst e; rw [if_pos rfl]
    · rw [if_neg (pow_ne e)]
      exact vecF_at k i (by omega)
theorem vecF_off {v : List Int} {j : Nat} : ∀ k, (∀ i, i < k → j ≠ 2 ^ i) → vecF v k j = 0
  | 0, _ => rfl
  | k + 1, h => by
    show (if j = 2 ^ k then v.getD k 0 else vecF v k j) = 0
    rw [if_neg (h k (by omega))]
    exact vecF_off k fun i hi => h i (by omega)
/-- The part of grade 1 is the vector of the numbers of the basis vectors. -/
theorem vec_part {S z : List Int} (h6 : S.length ≤ 6) (hl : z.length = bl S) : vecM S (vnM S.length z) = partM z 1 := by
  unfold vecM partM
  rw [hl, vnM_len]
  refine mkR_congr fun j hj => ?_
  have hj64 : j < 64 := Nat.lt_of_lt_of_le hj (bl_le h6)
  by_cases h : gr j = 1
  · obtain ⟨i, _, rfl⟩ := (pow_one j hj64).1 h
    have hi : i < S.length := by
      refine Classical.byContradiction fun hk => ?_
      have : 2 ^ S.length ≤ 2 ^ i := Nat.pow_le_pow_right (by decide) (by omega)
      have : 2 ^ i < 2 ^ S.length := hj
      omega
    rw [vecF_at _ _ hi, if_pos (by rw [h]; rfl)]
    exact mkR_at _ hi
  · rw [if_neg (fun e => h (by omega))]
    exact vecF_off _ fun i hi e => h ((pow_one j hj64).2 ⟨i, by omega, e⟩)
def ldB (p : Int) (S x : List Int) (i : Nat) : Bool := decide (arM p S x (eiR S.length i) = partM (arM p S x (eiR S.length i)) 1)
/-- What a versor is. -/
def isVr (p : Int) (S x : List Int) : Bool := decide (nrF p S x ≠ 0) && scB (nrM p S x) && (parB x 0 || parB x 1) && (List.range S.length).all (ldB p S x)
theorem isVr_iff {p : Int} {S x : List Int} : isVr p S x = true ↔ nrF p S x ≠ 0 ∧ scB (nrM p S x) = true ∧ (parB x 0 = true ∨ parB x 1 = true) ∧ ∀ i, i < S.length → ldB p S x i = true := by
  unfold isVr
  simp only [Bool.and_eq_true, Bool.or_eq_true, decide_eq_true_eq, List.all_eq_true, List.mem_range, and_assoc]
theorem isVr_no {p : Int} {S x : List Int} (h : ¬ (nrF p S x ≠ 0 ∧ scB (nrM p S x) = true ∧ (parB x 0 = true ∨ parB x 1 = true) ∧ ∀ i, i < S.length → ldB p S x i = true)) : isVr p S x = false := by
  cases e : isVr p S x with
  | false => rfl
  | true => exact absurd (isVr_iff.1 e) h
/-- The way the tests go. -/
theorem isVr_cases (p : Int) (S x : List Int) : (nrF p S x = 0 ∧ isVr p S x = false) ∨ (nrF p S x ≠ 0 ∧ scB (nrM p S x) = false ∧ isVr p S x = false) ∨ (nrF p S x ≠ 0 ∧ scB (nrM p S x) = true ∧ (parB x 0 || parB x 1) = false ∧ isVr p S x = false) ∨ (nrF p S x ≠ 0 ∧ scB (nrM p S x) = true ∧ (parB x 0 || parB x 1) = true ∧ isVr p S x = (List.range S.length).all (ldB p S x)) := by
  by_cases h0 : nrF p S x = 0
  · exact .inl ⟨h0, isVr_no fun h => h.1 h0⟩
  · right
    cases h1 : scB (nrM p S x) with
    | false => exact .inl ⟨h0, rfl, isVr_no fun h => by rw [h1] at h; cases h.2.1⟩
    | true =>
      right
      cases h2 : (parB x 0 || parB x 1) with
      | false => exact .inl ⟨h0, rfl, rfl, isVr_no fun h => by
          rw [← Bool.or_eq_true, h2] at h; cases h.2.2.1⟩
      | true => exact .inr ⟨h0, rfl, rfl, by unfold isVr; rw [h1, h2, decide_eq_true h0]; rfl⟩
/-- The product with a multiple. -/
theorem gpz_mul (S : List Int) (n : Nat) (x y : Nat → Int) (k : Int) (c : Nat) : gpz S n x (fun j => y j * k) c = gpz S n x y c * k := by
  unfold gpz
  rw [Int.mul_comm, ← sm_mul]
  apply sm_congr
  intro a _
  rw [← Int.mul_assoc, Int.mul_comm]
theorem prod_scl (p : Int) (S a b : List Int) (k : Int) (hb : b.length = bl S) : prodM p S a (sclV p b k) = sclV p (prodM p S a b) k := by
  unfold sclV
  rw [prodM_len]
  refine mkR_congr fun c hc => ?_
  rw [prodM_at p S a b hc]
  show gpz _ _ _ _ c % p = gpz _ _ _ _ c % p * k % p
  rw [em_l, ← gpz_mul]
  exact gpz_mod S S.length hc (fun _ _ => rfl) fun j hj => by
    show (mkR b.length fun j => b.getD j 0 * k % p).getD j 0 % p = _
    rw [mkR_at _ (by rw [hb]; exact hj), Int.emod_emod]
/-- What the sandwich makes of a vector. -/
def sdF (p : Int) (S x v : List Int) (i : Nat) : Int := vnF (arM p S x v) i * inv p (nrF p S x) % p
def sdM (p : Int) (S x v : List Int) : List Int := mkR S.length (sdF p S x v)
/-- The product of the first k vectors. -/
def vrM (p : Int) (S : List Int) (m : List (List Int)) : Nat → List Int
  | 0 => mOne S
  | k + 1 => prodM p S (vrM p S m k) (vecM S (rw' m k))
theorem vr_mv {p : Int} {S : List Int} (hs : isSp p S = true) (m : List (List Int)) : ∀ k, isMv p S (vrM p S m k) = true
  | 0 => one_mv' hs
  | k + 1 => prod_mv hs _ _
theorem vr_len {p : Int} {S : List Int} (m : List (List Int)) : ∀ k, (vrM p S m k).length = bl S
  | 0 => mkR_len _ _
  | k + 1 => prodM_len _ _ _ _
/-- The product of the norms of the first k vectors. -/
def vsF (p : Int) (S : List Int) (m : List (List Int)) : Nat → Int
  | 0 => 1
  | k + 1 => vsF p S m k * pairN p S (rw' m k) (rw' m k) % p
theorem vs_bd {p : Int} (hp : 1 < p) (S : List Int) (m : List (List Int)) : ∀ k, 0 ≤ vsF p S m k ∧ vsF p S m k < p
  | 0 => by show 0 ≤ (1 : Int) ∧ (1 : Int) < p; omega
  | k + 1 => ⟨Int.emod_nonneg _ (by omega), Int.emod_lt_of_pos _ (by omega)⟩
/-- The reflection's factor: the program's and the model's. -/
def rfK (p a n : Int) : Int := (-2 * a) % p * inv p n % p
theorem rf_model {p a n : Int} (hp : 0 < p) : (p - 2 * a % p * inv p n % p) % p = rfK p a n := by
  unfold rfK
  rw [em_sub, show -(2 * a % p * inv p n) = 2 * a % p * -(inv p n) by rw [Int.mul_neg], em_l, em_l, Int.mul_neg, Int.neg_mul, Int.neg_mul]
theorem rf_bd {p : Int} (hp : 0 < p) (a n : Int) : 0 ≤ rfK p a n ∧ rfK p a n < p := ⟨Int.emod_nonneg _ (by omega), Int.emod_lt_of_pos _ hp⟩

end Go.Proofs.YtlfjhffigkhmcaaGreat

namespace Go.Proofs.YtlfjhffigkhmcaaGreat
open Go.RowKit
set_option linter.unusedVariables false

set_option maxHeartbeats 1600000 in
theorem l01Same_any (a b : Option Addr) (za zb : List Int) (ca cb lo tp lo' tp' : Nat) (w : World) (ha : RowIn lo tp w a za) (hb : RowIn lo' tp' w b zb) (sa : za.length ≤ 1048576) :
    Calls Tryz.prog 42 #[.slice a za.length ca, .slice b zb.length cb] w fun e w' => e = .returned (.bool (decide (za = zb))) ∧ Quiet w w' := by
  have HA := Lib.hid ha
  have HB := Lib.hid hb
  clear ha hb
  by_cases hl : za.length = zb.length
  · have HL := Lib.hid hl
    obtain ⟨n, hn⟩ : ∃ n, n = zb.length := ⟨_, rfl⟩
    have HN := Lib.hid hn
    rw [hl] at sa ⊢
    rw [← hn] at sa ⊢
    clear hl hn
    go_enter Tryz.func42, Tryz.ntmps42
    go_wp2
    go_loopw [5] (fun t wr => ∃ i : Nat, i ≤ n ∧ t = .int .i64 i ∧ (∀ j, j < i → za.getD j 0 = zb.getD j 0) ∧ Quiet w wr) (fun t _ => n - (intOf t).toNat)
    case atStart => exact ⟨0, Nat.zero_le _, rfl, fun j hj => by omega, Quiet.refl _⟩
    case round =>
      obtain ⟨i, hi, rfl, hall, hq⟩ := hrel
      have HQ := Lib.hid hq
      have HALL := Lib.hid hall
      by_cases hlt : i < n
      · obtain ⟨b1, o1, ha1, _, _, hc1⟩ := (HA.out.same (hq.same _ _)).num (show i < za.length by rw [HL.out, ← HN.out]; exact hlt)
        obtain ⟨b2, o2, ha2, _, _, hc2⟩ := (HB.out.same (hq.same _ _)).num (show i < zb.length by rw [← HN.out]; exact hlt)
        subst ha1
        subst ha2
        have hi1 : (i : Int) < (n : Int) := by omega
        obtain ⟨x, hx⟩ : ∃ x, x = za.getD i 0 := ⟨_, rfl⟩
        obtain ⟨y, hy⟩ : ∃ y, y = zb.getD i 0 := ⟨_, rfl⟩
        have HX := Lib.hid hx
        have HY := Lib.hid hy
        rw [← hx] at hc1
        rw [← hy] at hc2
        clear hx hy hall hq
        by_cases hxy : x = y
        · have e1 : (x != y) = false := by simp [hxy]
          have HXY := Lib.hid hxy
          clear hxy
          go_wp2
          go_quiet (fail)
          go_wp2
          go_roundw
          case rel => exact ⟨i + 1, by omega, by go_num, fun j hj => by
            by_cases e : j = i
            · subst e; rw [← HX.out, ← HY.out, HXY.out]
            · exact HALL.out j (by omega), HQ.out.next _⟩
          case measure => simp [intOf]; omega
        · have e1 : (x != y) = true := by simp [hxy]
          have HR : Hid (decide (za = zb) = false) := decide_eq_false fun e => hxy (by rw [HX.out, HY.out, e])
          clear hxy
          go_wp2
          go_quiet (fail)
          go_wp2
          go_ret
          exact ⟨by rw [HR.out]; rfl, HQ.out.next _⟩
      · have hin : i = n := by omega
        subst hin
        have HR : Hid (decide (za = zb) = true) := decide_eq_true (row_ext HL.out (fun j hj => hall j (by rw [HN.out, ← HL.out]; exact hj)))
        clear hall hq
        go_wp2
        go_ret
        exact ⟨by rw [HR.out]; rfl, HQ.out⟩
  · have HR : Hid (decide (za = zb) = false) := decide_eq_false fun e => hl (by rw [e])
    obtain ⟨n, hn⟩ : ∃ n, n = za.length := ⟨_, rfl⟩
    obtain ⟨m, hm⟩ : ∃ m, m = zb.length := ⟨_, rfl⟩
    rw [← hn, ← hm] at hl ⊢
    have hl2 : ((n : Int) != (m : Int)) = true := by simp; omega
    go_enter Tryz.func42, Tryz.ntmps42
    go_wp2
    go_ret
    exact ⟨by rw [HR.out]; rfl, Quiet.refl _⟩

end Go.Proofs.YtlfjhffigkhmcaaGreat

namespace Go.Proofs.YtlfjhffigkhmcaaGreat
open Go.RowKit
set_option linter.unusedVariables false

theorem prm_odd {p : Int} (h : prm p = true) : p % 2 = 1 := by
  unfold prm at h
  simp at h
  omega
end Go.Proofs.YtlfjhffigkhmcaaGreat

namespace Go.Proofs.YtlfjhffigkhmcaaGreat
open Go.RowKit
set_option linter.unusedVariables false

theorem ss2s {w : World} {b i j : Nat} {u v : Value} {g : Nat} {u0 u1 : Value} (l : g ≠ b) (h0 : w.cell? ⟨g, 0, none⟩ = some u0 ∧ w.cell? ⟨g, 1, none⟩ = some u1) : ((w.setCell ⟨b, i, none⟩ u).setCell ⟨b, j, none⟩ v).cell? ⟨g, 0, none⟩ = some u0 ∧ ((w.setCell ⟨b, i, none⟩ u).setCell ⟨b, j, none⟩ v).cell? ⟨g, 1, none⟩ = some u1 := by
  have e : ∀ (W : World) (i k : Nat) (v : Value), (W.setCell ⟨b, i, none⟩ v).cell? ⟨g, k, none⟩ = W.cell? ⟨g, k, none⟩ := fun W i k v => World.cell?_setCell_other W ⟨b, i, none⟩ ⟨g, k, none⟩ v (fun h => by injection h with h1; omega)
  rw [e, e, e, e]; exact h0

end Go.Proofs.YtlfjhffigkhmcaaGreat
