/-
  Each list of rows has a reduced basis; kernels. No Go in sight.
  No conditions.
  Two lists compared: contracts of the program and of the model.
  Conditions: the lists are nil or rows of known cells, of at most 1048576 numbers.
  slices.Max and slices.Equal of lists of numbers.
  Conditions: rows of known cells, of at most 1048576 numbers.
  Left and right matrices, left ideals and annihilators, idempotents: contracts of the program and of the model.
  Conditions: the lists are nil or rows of known cells, of at most 1048576 numbers.
  Changes of signs by grades, and the signs of all grades: contracts of the program.
  Conditions: the lists are nil or rows of known cells, of at most 1048576 numbers.
  Signs changed, and the laws' three functions that do so: contracts of the program and of the model.
  Conditions: the lists are nil or rows of known cells, of at most 1048576 numbers.
  The signs of those grades of which a multivector has blades: contracts of the program and of the model.
  Conditions: the lists are nil or rows of known cells, of at most 1048576 numbers.
  ReverseOf, InvoluteOf and ConjugateOf: contracts of the program and of the model.
  Conditions: the lists are nil or rows of known cells, of at most 1048576 numbers.
  GradesOf: contracts of the program and of the model.
  Conditions: the lists are nil or rows of known cells, of at most 1048576 numbers.
  The model's list of the numbers of the basis vectors.
  Conditions: rows of known cells.
  What square roots of numbers are in the model: the helper's contract.
  Conditions: the prime is one, the number is a remainder by it.
-/
import Derived.Test.YtijklpcelbnnjaaGreatQk28
import Derived.Test.YtijklpcelbnnjaaGreatQk8
import Derived.BigQuiet
import Derived.Test.YtijklpcelbnnjaaGreatQk4
import Derived.Test.YtijklpcelbnnjaaGreatQk21
import Derived.Test.YtijklpcelbnnjaaGreatQk29
import Derived.Test.YtijklpcelbnnjaaGreatQk27
import Derived.Test.YtijklpcelbnnjaaGreatQk18
import Derived.Test.YtijklpcelbnnjaaGreatQk14
import Derived.Deep.RegionHeld3
import Derived.Deep.DeepCutAuto
import Derived.Test.YtijklpcelbnnjaaGreatQk10
import Derived.Test.YtijklpcelbnnjaaGreatQk6
import Derived.Test.YtijklpcelbnnjaaGreatQk17
import Derived.Deep.AppendLies
import Derived.StillTailTactics
import Derived.Laws.AppendOwn
import Derived.Test.YtijklpcelbnnjaaGreatQk1
import Derived.RegionTactic
import Derived.Outline
namespace Go.Proofs.YtijklpcelbnnjaaGreat
open Go.RowKit
set_option linter.unusedVariables false

theorem redu_ex {p : Int} {c : Nat} {A m : List (List Int)} {P : Nat → Nat} {r : List Int} (hp : prm p = true) (h : Kept p c A m P) (hl : r.length = c) (hr : ∀ j, j < c → 0 ≤ num r j ∧ num r j < p) : ∀ k, k ≤ m.length → ∃ r', Redu p c m P r r' k
  | 0, _ => ⟨r, Redu.start hl hr⟩
  | k + 1, hk => by
    obtain ⟨r', h'⟩ := redu_ex hp h hl hr k (by omega)
    exact ⟨mkR c fun j => (num r' j + (p - num r' (P k)) % p * at' m k j) % p, h'.next hp h.red (by omega) (mkR_len _ _) (fun j hj => mkR_at _ hj)⟩
theorem place_exB {P : Nat → Nat} {q N : Nat} (mono : ∀ i i', i < i' → i' < N → P i < P i') (ne : ∀ i, i < N → P i ≠ q) : ∀ n, n ≤ N → ∃ t, t ≤ n ∧ (∀ i, i < t → P i < q) ∧ ∀ i, t ≤ i → i < n → q < P i
  | 0, _ => ⟨0, Nat.le_refl _, fun i hi => by omega, fun i _ hi => by omega⟩
  | n + 1, hn => by
    by_cases h : P n < q
    · refine ⟨n + 1, Nat.le_refl _, fun i hi => ?_, fun i h1 h2 => by omega⟩
      by_cases e : i = n
      · rw [e]; exact h
      · have := mono i n (by omega) (by omega); omega
    · obtain ⟨t, h1, h2, h3⟩ := place_exB mono ne n (by omega)
      refine ⟨t, by omega, h2, fun i i1 i2 => ?_⟩
      by_cases e : i = n
      · rw [e]; have := ne n (by omega); omega
      · exact h3 i i1 (by omega)
theorem first_ex {c : Nat} (f : Nat → Int) : (∀ j, j < c → f j = 0) ∨ ∃ q, q < c ∧ f q ≠ 0 ∧ ∀ j, j < q → f j = 0 := by
  induction c with
  | zero => exact .inl fun j hj => by omega
  | succ c ih =>
    rcases ih with h | ⟨q, h1, h2, h3⟩
    · by_cases e : f c = 0
      · refine .inl fun j hj => ?_
        by_cases ej : j = c
        · rw [ej]; exact e
        · exact h j (by omega)
      · exact .inr ⟨c, Nat.lt_succ_self c, e, h⟩
    · exact .inr ⟨q, by omega, h2, h3⟩
theorem kept_snoc {p : Int} {c : Nat} {A m : List (List Int)} {P : Nat → Nat} {r : List Int} (hp : prm p = true) (h : Kept p c A m P) (hl : r.length = c) (hr : ∀ j, j < c → 0 ≤ num r j ∧ num r j < p) : ∃ m' P', Kept p c (A ++ [r]) m' P' := by
  obtain ⟨r', h'⟩ := redu_ex hp h hl hr m.length (Nat.le_refl _)
  rcases first_ex (c := c) (num r') with hz | ⟨q, hq, q0, ql⟩
  · exact ⟨m, P, h.same h'.van hz⟩
  · have ne : ∀ i, i < m.length → P i ≠ q := fun i hi e => q0 (by rw [← e]; exact h'.zer i hi)
    obtain ⟨t, t0, t1, t2⟩ := place_exB h.red.mono ne m.length (Nat.le_refl _)
    have hs : ∀ j, j < c → num (mkR c fun j => num r' j * inv p (num r' q) % p) j = num r' j * inv p (num r' q) % p := fun j hj => mkR_at _ hj
    refine ⟨_, _, h.more (m' := mk m.length c fun i j => (at' m i j + (p - at' m i q) % p * num (mkR c fun j => num r' j * inv p (num r' q) % p) j) % p) (s := mkR c fun j => num r' j * inv p (num r' q) % p) (t := t) hp h'.van h'.zer h'.rng hq q0 ql hs (mkR_len _ _) (mk_len _ _ _) (fun i hi => mk_rowLen _ hi) (fun i hi j hj => mk_at _ hi hj) t0 t1 t2⟩
theorem kept_ex {p : Int} {c : Nat} (hp : prm p = true) (A : List (List Int)) (hl : ∀ i, i < A.length → (rw' A i).length = c) (hr : ∀ i, i < A.length → ∀ j, j < c → 0 ≤ at' A i j ∧ at' A i j < p) : ∃ m P, Kept p c A m P := by
  have key : ∀ n, n ≤ A.length → ∃ m P, Kept p c (A.take n) m P := by
    intro n
    induction n with
    | zero => intro _; exact ⟨[], fun _ => 0, Kept.start p c _⟩
    | succ n ih =>
      intro hn
      obtain ⟨m, P, h⟩ := ih (by omega)
      have e : A.take (n + 1) = A.take n ++ [rw' A n] := by
        rw [List.take_add_one, show A[n]? = some (rw' A n) by unfold rw'; simp [List.getD, show n < A.length by omega]]; rfl
      rw [e]
      exact kept_snoc hp h (hl n (by omega)) (fun j hj => hr n (by omega) j hj)
  have h := key A.length (Nat.le_refl _)
  rw [List.take_length] at h
  exact h
theorem bas_is {p : Int} {c : Nat} (hp : prm p = true) (A : List (List Int)) (hl : ∀ i, i < A.length → (rw' A i).length = c) (hr : ∀ i, i < A.length → ∀ j, j < c → 0 ≤ at' A i j ∧ at' A i j < p) : IsBas p c A (bas p A) := by
  have hpb := prm_bd hp
  by_cases h0 : 0 < A.length
  · obtain ⟨m, P, h⟩ := kept_ex hp A hl hr
    have hb := h.bas
    have e := hl 0 h0
    subst e
    rw [← bas_eq (by omega) hb]
    exact hb
  · have hA : A = [] := List.eq_nil_of_length_eq_zero (by omega)
    subst hA
    rw [bas_nil (by omega)]
    exact (Kept.start p c fun _ => 0).bas
theorem RowsW.bas {p : Int} {A : List (List Int)} (h : RowsW p A) : IsBas p (rw' A 0).length A (bas p A) := bas_is h.prime A h.len h.rng
theorem kerP_len {p : Int} {A : List (List Int)} {i : Nat} (h : i < (kerP p A).length) : (rw' (kerP p A) i).length = (rw' A 0).length := by
  obtain ⟨k', _, e⟩ := kerN_mem (mem_row h)
  unfold kerP
  rw [e]
  exact mkR_len _ _
theorem kerP_rng {p : Int} (hp : 0 < p) {A : List (List Int)} {i j : Nat} (h : i < (kerP p A).length) (hj : j < (rw' A 0).length) : 0 ≤ at' (kerP p A) i j ∧ at' (kerP p A) i j < p := by
  obtain ⟨k', _, e⟩ := kerN_mem (mem_row h)
  have e2 : at' (kerP p A) i j = (kvec p (bas p A) (pvs (bas p A)) (rw' A 0).length (bas p A).length k').getD j 0 := by
    unfold at'; rw [show rw' (kerP p A) i = _ from e]
  rw [e2]
  unfold kvec
  rw [mkR_at _ hj]
  exact ⟨Int.emod_nonneg _ (by omega), Int.emod_lt_of_pos _ hp⟩
theorem ker_is {p : Int} {A : List (List Int)} (hp : prm p = true) : IsBas p (rw' A 0).length (kerP p A) (kerB p A) :=
  bas_is hp _ (fun i hi => kerP_len hi) (fun i hi j hj => kerP_rng (by have := prm_bd hp; omega) hi hj)
theorem van_comm {p : Int} {c : Nat} {r x : Nat → Int} : van p c r x ↔ van p c x r := by
  unfold van; rw [sm_congr (fun j _ => Int.mul_comm (r j) (x j))]
theorem van_mod {p : Int} {c : Nat} {r r' x : Nat → Int} (h : ∀ j, j < c → r j % p = r' j % p) : van p c r x ↔ van p c r' x := by
  unfold van
  rw [show sm c (fun j => r j * x j) % p = sm c (fun j => r' j * x j) % p from by
    induction c with
    | zero => rfl
    | succ c ih =>
      show (sm c _ + r c * x c) % p = (sm c _ + r' c * x c) % p
      rw [Int.add_emod, ih (fun j hj => h j (by omega)), Int.mul_emod (r c), h c (Nat.lt_succ_self c), ← Int.mul_emod, ← Int.add_emod]]
/-- The rows vanish at the vectors of their kernel. -/
theorem ker_nul {p : Int} {A : List (List Int)} (h : RowsW p A) {i : Nat} (hi : i < A.length) : nul p (kerB p A).length (rw' A 0).length (at' (kerB p A)) (at' A i) := by
  refine ((ker_is h.prime).nul _).1 fun k hk => ?_
  obtain ⟨k', hk', e⟩ := kerN_mem (mem_row hk)
  have hR := h.bas.pivs
  have hz := (h.bas.nul _).2 (kv_nul hR hk') i hi
  have e2 : ∀ j, j < (rw' A 0).length → at' (kerP p A) k j % p = kv (bas p A).length (at' (bas p A)) (pvs (bas p A)) k' j % p := fun j hj => by
    have e3 : at' (kerP p A) k j = (kvec p (bas p A) (pvs (bas p A)) (rw' A 0).length (bas p A).length k').getD j 0 := by
      unfold at'; rw [show rw' (kerP p A) k = _ from e]
    rw [e3]
    unfold kvec
    rw [mkR_at _ hj, Int.emod_emod]
  exact (van_mod e2).2 (van_comm.1 hz)

end Go.Proofs.YtijklpcelbnnjaaGreat

namespace Go.Proofs.YtijklpcelbnnjaaGreat
open Go.RowKit
set_option linter.unusedVariables false

set_option maxHeartbeats 1600000 in
theorem l01Same_any (a b : Option Addr) (za zb : List Int) (ca cb lo tp lo' tp' : Nat) (w : World) (ha : RowIn lo tp w a za) (hb : RowIn lo' tp' w b zb) (sa : za.length ≤ 1048576) :
    Calls Tryz.prog 99 #[.slice a za.length ca, .slice b zb.length cb] w fun e w' => e = .returned (.bool (decide (za = zb))) ∧ Quiet w w' := by
  have HA := Lib.hid ha
  have HB := Lib.hid hb
  clear ha hb
  by_cases hl : za.length = zb.length
  · have HL := Lib.hid hl
    obtain ⟨n, hn⟩ : ∃ n, n = zb.length := ⟨_, rfl⟩
    have HN := Lib.hid hn
    rw [hl] at sa ⊢
    rw [← hn] at sa ⊢
    clear hl hn
    go_enter Tryz.func99, Tryz.ntmps99
    go_wp2
    go_loopw [5] (fun t wr => ∃ i : Nat, i ≤ n ∧ t = .int .i64 i ∧ (∀ j, j < i → za.getD j 0 = zb.getD j 0) ∧ Quiet w wr) (fun t _ => n - (intOf t).toNat)
    case atStart => exact ⟨0, Nat.zero_le _, rfl, fun j hj => by omega, Quiet.refl _⟩
    case round =>
      obtain ⟨i, hi, rfl, hall, hq⟩ := hrel
      have HQ := Lib.hid hq
      have HALL := Lib.hid hall
      by_cases hlt : i < n
      · obtain ⟨b1, o1, ha1, _, _, hc1⟩ := (HA.out.same (hq.same _ _)).num (show i < za.length by rw [HL.out, ← HN.out]; exact hlt)
        obtain ⟨b2, o2, ha2, _, _, hc2⟩ := (HB.out.same (hq.same _ _)).num (show i < zb.length by rw [← HN.out]; exact hlt)
        subst ha1
        subst ha2
        have hi1 : (i : Int) < (n : Int) := by omega
        obtain ⟨x, hx⟩ : ∃ x, x = za.getD i 0 := ⟨_, rfl⟩
        obtain ⟨y, hy⟩ : ∃ y, y = zb.getD i 0 := ⟨_, rfl⟩
        have HX := Lib.hid hx
        have HY := Lib.hid hy
        rw [← hx] at hc1
        rw [← hy] at hc2
        clear hx hy hall hq
        by_cases hxy : x = y
        · have e1 : (x != y) = false := by simp [hxy]
          have HXY := Lib.hid hxy
          clear hxy
          go_wp2
          go_quiet (fail)
          go_wp2
          go_roundw
          case rel => exact ⟨i + 1, by omega, by go_num, fun j hj => by
            by_cases e : j = i
            · subst e; rw [← HX.out, ← HY.out, HXY.out]
            · exact HALL.out j (by omega), HQ.out.next _⟩
          case measure => simp [intOf]; omega
        · have e1 : (x != y) = true := by simp [hxy]
          have HR : Hid (decide (za = zb) = false) := decide_eq_false fun e => hxy (by rw [HX.out, HY.out, e])
          clear hxy
          go_wp2
          go_quiet (fail)
          go_wp2
          go_ret
          exact ⟨by rw [HR.out]; rfl, HQ.out.next _⟩
      · have hin : i = n := by omega
        subst hin
        have HR : Hid (decide (za = zb) = true) := decide_eq_true (row_ext HL.out (fun j hj => hall j (by rw [HN.out, ← HL.out]; exact hj)))
        clear hall hq
        go_wp2
        go_ret
        exact ⟨by rw [HR.out]; rfl, HQ.out⟩
  · have HR : Hid (decide (za = zb) = false) := decide_eq_false fun e => hl (by rw [e])
    obtain ⟨n, hn⟩ : ∃ n, n = za.length := ⟨_, rfl⟩
    obtain ⟨m, hm⟩ : ∃ m, m = zb.length := ⟨_, rfl⟩
    rw [← hn, ← hm] at hl ⊢
    have hl2 : ((n : Int) != (m : Int)) = true := by simp; omega
    go_enter Tryz.func99, Tryz.ntmps99
    go_wp2
    go_ret
    exact ⟨by rw [HR.out]; rfl, Quiet.refl _⟩

end Go.Proofs.YtijklpcelbnnjaaGreat

namespace Go.Proofs.YtijklpcelbnnjaaGreat
open Go.RowKit
set_option linter.unusedVariables false

/-- The greatest of the first numbers. -/
def mxF (z : List Int) : Nat → Int
  | 0 => z.getD 0 0
  | k + 1 => if mxF z k < z.getD (k + 1) 0 then z.getD (k + 1) 0 else mxF z k
theorem mxF_le (z : List Int) : ∀ k j, j ≤ k → z.getD j 0 ≤ mxF z k
  | 0, j, h => by rw [show j = 0 by omega]; exact Int.le_refl _
  | k + 1, j, h => by
    show _ ≤ if mxF z k < z.getD (k + 1) 0 then z.getD (k + 1) 0 else mxF z k
    by_cases e : j = k + 1
    · subst e; split <;> omega
    · have := mxF_le z k j (by omega)
      split <;> omega
theorem mxF_at (z : List Int) : ∀ k, ∃ j, j ≤ k ∧ mxF z k = z.getD j 0
  | 0 => ⟨0, Nat.le_refl _, rfl⟩
  | k + 1 => by
    obtain ⟨j, h1, h2⟩ := mxF_at z k
    by_cases e : mxF z k < z.getD (k + 1) 0
    · exact ⟨k + 1, Nat.le_refl _, if_pos e⟩
    · exact ⟨j, by omega, by rw [← h2]; exact if_neg e⟩
def allZ (z : List Int) : Bool := (List.range z.length).all fun j => decide (z.getD j 0 = 0)
theorem allZ_iff {z : List Int} : allZ z = true ↔ ∀ j, j < z.length → z.getD j 0 = 0 := by
  unfold allZ; simp only [List.all_eq_true, List.mem_range, decide_eq_true_eq]
theorem mx_zero {z : List Int} (h0 : 0 < z.length) (hn : ∀ j, j < z.length → 0 ≤ z.getD j 0) : (mxF z (z.length - 1) == 0) = allZ z := by
  rw [Bool.eq_iff_iff, beq_iff_eq, allZ_iff]
  constructor
  · intro h j hj
    have := mxF_le z (z.length - 1) j (by omega)
    have := hn j hj
    omega
  · intro h
    obtain ⟨j, h1, h2⟩ := mxF_at z (z.length - 1)
    rw [h2]; exact h j (by omega)
set_option maxHeartbeats 1600000 in
theorem max_any (a : Option Addr) (z : List Int) (ca lo tp : Nat) (w : World) (hz : RowIn lo tp w a z) (h0 : 0 < z.length) (hl : z.length ≤ 1048576) :
    Calls Tryz.prog 54 #[.slice a z.length ca] w fun e w' => e = .returned (.int .i64 (mxF z (z.length - 1))) ∧ w = w' := by
  have HZ := Lib.hid hz
  obtain ⟨b1, o1, ha1, _, _, hc1⟩ := hz.num h0
  subst ha1
  have hi0 : ¬ ((z.length : Int) < 1) := by omega
  have hi1 : (0 : Int) < (z.length : Int) := by omega
  rw [Nat.add_zero] at hc1
  obtain ⟨X0, hX0⟩ : ∃ x, x = z.getD 0 0 := ⟨_, rfl⟩
  rw [← hX0] at hc1
  have HX0 := Lib.hid hX0
  clear hz hX0
  go_enter Tryz.func54, Tryz.ntmps54
  go_wp2
  clear hc1
  go_loop [3, 4] (fun u t => ∃ i : Nat, i < z.length ∧ u = .int .i64 (mxF z i) ∧ t = .int .i64 ((i + 1 : Nat) : Int)) (fun _ t => z.length - (intOf t).toNat)
  case atStart => exact ⟨0, h0, by rw [HX0.out]; rfl, by simp⟩
  case round =>
    obtain ⟨i, hi, rfl, rfl⟩ := hrel
    by_cases hlt : i + 1 < z.length
    · have hi2 : ((i + 1 : Nat) : Int) < (z.length : Int) := by omega
      obtain ⟨b2, o2, ha2, _, _, hc2⟩ := HZ.out.num hlt
      cases ha2
      obtain ⟨x, hx⟩ : ∃ x, x = mxF z i := ⟨_, rfl⟩
      obtain ⟨y, hy⟩ : ∃ y, y = z.getD (i + 1) 0 := ⟨_, rfl⟩
      have HS : Hid (mxF z (i + 1) = if x < y then y else x) := by show _ = _; rw [hx, hy]; rfl
      rw [← hy] at hc2
      rw [← hx]
      clear hx hy
      go_wp2
      go_round
      case rel => exact ⟨i + 1, hlt, by (rw [HS.out]; try (congr 1; split <;> omega)), by go_num⟩
      case measure => simp [intOf]; omega
    · have hin : i = z.length - 1 := by omega
      have hi2 : ¬ (((i + 1 : Nat) : Int) < (z.length : Int)) := by omega
      have HIN := Lib.hid hin
      clear hin
      go_wp2
      go_ret
      exact ⟨by rw [← HIN.out]; rfl, rfl⟩

end Go.Proofs.YtijklpcelbnnjaaGreat

namespace Go.Proofs.YtijklpcelbnnjaaGreat
open Go.RowKit
set_option linter.unusedVariables false

theorem mk_lst {p : Int} {n c : Nat} {f : Nat → Nat → Int} (hp : prm p = true) (n0 : 0 < n) (n1 : n ≤ 16) (c0 : 0 < c) (c1 : c ≤ 16) (h : ∀ i j, i < n → j < c → 0 ≤ f i j ∧ f i j < p) (k : Nat) (hk : k ≤ n) : Lst k p (mk n c f) where
  prime := hp
  lo := by rw [mk_len]; exact hk
  hi := by rw [mk_len]; exact n1
  len i hi := by rw [mk_len] at hi; rw [mk_rowLen _ hi, mk_rowLen _ n0]
  c0 i hi := by rw [mk_len] at hi; rw [mk_rowLen _ hi]; exact c0
  c1 i hi := by rw [mk_len] at hi; rw [mk_rowLen _ hi]; exact c1
  all i hi := by
    rw [mk_len] at hi
    rw [List.all_eq_true]
    intro y hy
    obtain ⟨j, hj, rfl⟩ := List.getElem_of_mem hy
    have hj2 := hj
    rw [mk_rowLen _ hi] at hj2
    have e : (rw' (mk n c f) i)[j] = f i j := by
      rw [← getD_at hj]; exact mk_at _ hi hj2
    rw [e]
    exact inr_iff.2 (h i j hi hj2)
theorem right_lst {p : Int} {S : List Int} (hs : isSp p S = true) (h4 : S.length ≤ 4) (x : List Int) : Lst 1 p (rightM p S x) := by
  have hp := prm_bd (isSp_iff.1 hs).prime
  have hb := bl_pos S
  exact mk_lst (isSp_iff.1 hs).prime hb (bl_st h4) hb (bl_st h4) (fun i j _ _ => prodF_bd (by omega) S _ x i) 1 (by omega)
theorem left_wide {p : Int} {S : List Int} (hs : isSp p S = true) (h4 : S.length ≤ 4) (x : List Int) : Lst 1 p (leftM p S x) := by
  have hp := prm_bd (isSp_iff.1 hs).prime
  have hb := bl_pos S
  exact mk_lst (isSp_iff.1 hs).prime hb (bl_st h4) hb (bl_st h4) (fun i j _ _ => prodF_bd (by omega) S x _ i) 1 (by omega)
theorem rref_le {p : Int} {n c : Nat} {R : Nat → Nat → Int} {P : Nat → Nat} (h : Rref p n c R P) : n ≤ c := by
  have key : ∀ i, i < n → i ≤ P i := by
    intro i
    induction i with
    | zero => intro _; exact Nat.zero_le _
    | succ i ih => intro hi; have h1 := ih (by omega); have h2 := h.mono i (i + 1) (by omega) hi; omega
  by_cases h0 : n = 0
  · omega
  · have h1 := key (n - 1) (by omega)
    have h2 := h.pv (n - 1) (by omega)
    omega
theorem size_bl {S : List Int} {m : List (List Int)} (h4 : S.length ≤ 4) (hl : m.length ≤ 16) (hr : ∀ i, i < m.length → (rw' m i).length = bl S) : m.length + tot m m.length ≤ 1048576 := by
  have h := bl_st h4
  rw [tot_const (c := bl S) hr (Nat.le_refl _)]
  have : m.length * bl S ≤ 16 * 16 := Nat.mul_le_mul hl h
  omega
end Go.Proofs.YtijklpcelbnnjaaGreat

namespace Go.Proofs.YtijklpcelbnnjaaGreat
open Go.RowKit
set_option linter.unusedVariables false

/-- Whether a term of grade g has come. -/
def cm (x : List Int) (left : Lit → Bool) (g : Nat) : Bool := (List.range x.length).any fun j => decide (gr j = g) && decide (x.getD j 0 ≠ 0) && !(td left j)
end Go.Proofs.YtijklpcelbnnjaaGreat

namespace Go.Proofs.YtijklpcelbnnjaaGreat
open Go.RowKit
set_option linter.unusedVariables false

/-- A list is handed back by the model. -/
def SRow (R : List Int) (w : World) (e : Ending) (w' : World) : Prop := ∃ r k, e = .returned (.slice r R.length k) ∧ RowIn w.heap.size w'.heap.size w' r R ∧ Below w.heap.size w w'
end Go.Proofs.YtijklpcelbnnjaaGreat

namespace Go.Proofs.YtijklpcelbnnjaaGreat
open Go.RowKit
set_option linter.unusedVariables false

theorem OutR.more {B : Nat} {w1 : World} {v' : Value} {zs ys : List Int} {N : Nat} {X : List Value} {k : Int} (hX : X = zs.map (Value.int .i64)) (hN : N = zs.length) (hs : ys = zs ++ [k]) (h1 : w1.ownsRow B 2 1 v' (N + 1) (X ++ [.int .i64 k])) : OutR B w1 v' ys := by
  subst hs hN hX
  unfold OutR
  rw [List.length_append, List.map_append]
  exact h1
end Go.Proofs.YtijklpcelbnnjaaGreat

namespace Go.Proofs.YtijklpcelbnnjaaGreat
open Go.RowKit
set_option linter.unusedVariables false

/-- The numbers of a list at the powers of two. -/
def lst2 (n : Nat) (z : List Int) : List Int := mkR n fun i => z.getD (2 ^ i) 0
theorem kwrap_pow4 {i : Nat} (h : i < 6) : IntKind.i64.wrap ((2 : Int) ^ i) = ((2 ^ i : Nat) : Int) := by
  have : i = 0 ∨ i = 1 ∨ i = 2 ∨ i = 3 ∨ i = 4 ∨ i = 5 := by omega
  rcases this with rfl | rfl | rfl | rfl | rfl | rfl <;> exact IntWalk.i64_in _ (by decide)
set_option maxRecDepth 100000 in
set_option maxHeartbeats 3200000 in
theorem l04List_any (pS : Int) (aS : Option Addr) (S : List Int) (cS : Nat) (az : Option Addr) (z : List Int) (cz loz tpz : Nat) (w : World) (h6 : S.length ≤ 6) (hz : RowIn loz tpz w az z) (tz : tpz ≤ w.heap.size) (lz : z.length = bl S) :
    Calls Tryz.prog 97 #[.agg #[.int .i64 pS, .slice aS S.length cS], .slice az z.length cz] w (SRow (lst2 S.length z) w) := by
  obtain ⟨i0, hi, hz0, hz1, hz2⟩ := info_parts info64
  have HZ := Lib.hid hz
  have HLZ := Lib.hid lz
  have HB0 := Lib.hid (below_alloc w (.cells #[.int .i64 pS, .slice aS S.length cS] 26))
  have k0 := nw0 w (.int .i64 pS) (.slice aS S.length cS) 26
  have k1 := nw1 w (.int .i64 pS) (.slice aS S.length cS) 26
  clear hz lz
  go_enter Tryz.func97, Tryz.ntmps97
  go_upto_region 1 with fail
  obtain ⟨wB, hw1⟩ : ∃ z, z = w.alloc (.cells #[.int .i64 pS, .slice aS S.length cS] 26) := ⟨_, rfl⟩
  rw [← hw1] at HB0 k0 k1 ⊢
  have hw0 : w.heap.size < wB.heap.size := by rw [hw1]; simp
  clear hw1
  have K0 := Lib.hid k0
  have K1 := Lib.hid k1
  clear k0 k1
  go_wp2
  go_loopw [5, 6] (fun u t wr => ∃ i : Nat, i ≤ S.length ∧ t = .int .i64 i ∧ OutR wB.heap.size wr u (lst2 i z) ∧ Below wB.heap.size wB wr) (fun _ t _ => S.length - (intOf t).toNat)
  case atStart => exact ⟨0, Nat.zero_le _, rfl, OutR.start wB _ _ (Nat.le_refl _) rfl, below_alloc wB _⟩
  case round =>
    obtain ⟨i, hi', rfl, ho, hbel⟩ := hrel
    have HO := Lib.hid ho
    have HB := Lib.hid hbel
    have hwz := hbel.size
    have hk0 := (hbel.cell (p := ⟨w.heap.size, 0, none⟩) hw0).trans K0.out
    have hk1 := (hbel.cell (p := ⟨w.heap.size, 1, none⟩) hw0).trans K1.out
    by_cases hlt : i < S.length
    · have hi1 : (i : Int) < (S.length : Int) := Int.ofNat_lt.2 hlt
      obtain ⟨q, hq⟩ : ∃ q, q = 2 ^ i := ⟨_, rfl⟩
      have hqn : q < z.length := by rw [hq, HLZ.out]; exact Nat.pow_lt_pow_right (by decide) hlt
      obtain ⟨bz, oz, haz, _, _, hcz⟩ := ((HZ.out.below HB0.out tz).below hbel (Nat.le_trans tz HB0.out.size)).num hqn
      subst haz
      have e1 : wrap64 ((2 : Int) ^ i) = (q : Int) := by rw [hq]; exact wrap_pow (by omega)
      have e2 : IntKind.i64.wrap ((2 : Int) ^ i) = (q : Int) := by rw [hq]; exact kwrap_pow4 (by omega)
      have hq1 : (q : Int) < (z.length : Int) := Int.ofNat_lt.2 hqn
      obtain ⟨Y, hY⟩ : ∃ y, y = z.getD q 0 := ⟨_, rfl⟩
      have HS1 : Hid (lst2 (i + 1) z = lst2 i z ++ [Y]) := by show _ = _; rw [hY, hq]; exact mkR_succ _ _
      rw [← hY] at hcz
      obtain ⟨X, hX⟩ : ∃ X, X = (lst2 i z).map (Value.int .i64) := ⟨_, rfl⟩
      have HX := Lib.hid hX
      have HO' : Hid (wr.ownsRow wB.heap.size 2 1 u5 i X) := by
        have := HO.out; unfold OutR at this; rw [show (lst2 i z).length = i from mkR_len _ _, ← hX] at this; exact this
      clear hX hq hY ho hbel
      go_wp2_with (at_builtin; refine wpList_append_lies _ rfl _ _ 24 rfl wB.heap.size 2 i0 (.int .i64 0) 1 8 Tryz.underlying24 hi hz0 hz1 hz2 rfl (by decide) u5 i X rfl (HO'.out.alloc _) ⟨wr.heap.size, 0, none⟩ 1 1 [.int .i64 Y] rfl rfl (World.news_of_block (cs := #[.int .i64 Y]) (t := 2) (fr := (0, 0)) (heap_alloc_new wr _)) (by simp [Value.oneCell']) (by omega) (by unfold maxLen; omega) (by omega) (by simp; omega) (wr.heap.size + 1) (by simp) ?_; intro gg cap w1 hown1 hgrow hat hlt1)
      go_roundw
      case rel => exact ⟨i + 1, by omega, by go_num, OutR.step HO'.out HX.out HS1.out hown1, (HB.out.alloc hwz _).grown hgrow (by simp; omega) (fun _ hk => (HO'.out.lt _ hk).1)⟩
      case measure => simp [intOf]; omega
    · have hin : i = S.length := by omega
      subst hin
      clear ho hbel
      go_wp2
      go_ret
      obtain ⟨r, c, hv, ht⟩ := HO.out.tag
      rw [hv]
      exact ⟨r, c, rfl, ht.row.mono HB0.out.size (Nat.le_refl _), HB0.out.trans (HB.out.mono HB0.out.size)⟩

end Go.Proofs.YtijklpcelbnnjaaGreat

namespace Go.Proofs.YtijklpcelbnnjaaGreat
open Go.RowKit
set_option linter.unusedVariables false

theorem l01Root_any (p a : Int) (w : World) (hp : prm p = true) (a0 : 0 ≤ a) (a1 : a < p) :
    Calls Tryz.prog 61 #[.int .i64 p, .int .i64 a] w fun e w' => e = .returned (.int .i64 (rt p a)) ∧ w = w' := by
  have hb := prm_bd hp
  obtain ⟨v0, v1⟩ := rtEnd_bd hp a0 a1
  have HP := Lib.hid hp
  clear hp
  go_enter Tryz.func61, Tryz.ntmps61
  go_wp2
  go_loop [5] (fun t => ∃ r : Int, 0 ≤ r ∧ r ≤ rtEnd p a ∧ t = .int .i64 r) (fun t => (rtEnd p a - intOf t).toNat)
  case atStart => exact ⟨0, by omega, by omega, rfl⟩
  case round =>
    obtain ⟨r, r0, r1, rfl⟩ := hrel
    by_cases hlt : r < p
    · obtain ⟨m0, m1⟩ := mul_bd HP.out r0 hlt r0 hlt
      obtain ⟨q0, q1⟩ := mod_bd HP.out (r * r)
      have hi := rt_iff HP.out a0 a1 r0 hlt r1
      by_cases hq : r = rt p a
      · have ht := hi.2 hq
        have HQ := Lib.hid hq
        clear hi hq
        go_wp2
        go_ret
        exact ⟨by rw [← HQ.out]; rfl, rfl⟩
      · have ht : ¬ r * r % p = a := fun h => hq (hi.1 h)
        have hr1 : r + 1 ≤ rtEnd p a := by
          have h1 := rt_bd HP.out a0 a1
          unfold rtEnd at r1 v0 v1 ⊢
          split at r1 <;> omega
        clear hi
        go_wp2
        go_round
        case rel => exact ⟨r + 1, by omega, by omega, rfl⟩
        case measure => simp [intOf]; omega
    · have HQ : Hid (rt p a = -1) := by
        show rt p a = -1
        have h1 := rt_bd HP.out a0 a1
        unfold rtEnd at r1
        split at r1 <;> omega
      go_wp2
      go_ret
      exact ⟨by rw [HQ.out]; rfl, rfl⟩

end Go.Proofs.YtijklpcelbnnjaaGreat
