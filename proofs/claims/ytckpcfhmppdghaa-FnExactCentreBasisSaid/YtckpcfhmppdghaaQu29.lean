/-
  Each list of rows has a reduced basis; kernels. No Go in sight.
  No conditions.
  Two lists compared: contracts of the program and of the model.
  Conditions: the lists are nil or rows of known cells, of at most 1048576 numbers.
  slices.Max and slices.Equal of lists of numbers.
  Conditions: rows of known cells, of at most 1048576 numbers.
-/
import Derived.Test.YtckpcfhmppdghaaQu27
import Derived.Test.YtckpcfhmppdghaaQu5
import Derived.BigQuiet
import Derived.Test.YtckpcfhmppdghaaQu8
namespace Go.Proofs.Ytckpcfhmppdghaa
open Go.RowKit
set_option linter.unusedVariables false

theorem redu_ex {p : Int} {c : Nat} {A m : List (List Int)} {P : Nat → Nat} {r : List Int} (hp : prm p = true) (h : Kept p c A m P) (hl : r.length = c) (hr : ∀ j, j < c → 0 ≤ num r j ∧ num r j < p) : ∀ k, k ≤ m.length → ∃ r', Redu p c m P r r' k
  | 0, _ => ⟨r, Redu.start hl hr⟩
  | k + 1, hk => by
    obtain ⟨r', h'⟩ := redu_ex hp h hl hr k (by omega)
    exact ⟨mkR c fun j => (num r' j + (p - num r' (P k)) % p * at' m k j) % p, h'.next hp h.red (by omega) (mkR_len _ _) (fun j hj => mkR_at _ hj)⟩
theorem place_exB {P : Nat → Nat} {q N : Nat} (mono : ∀ i i', i < i' → i' < N → P i < P i') (ne : ∀ i, i < N → P i ≠ q) : ∀ n, n ≤ N → ∃ t, t ≤ n ∧ (∀ i, i < t → P i < q) ∧ ∀ i, t ≤ i → i < n → q < P i
  | 0, _ => ⟨0, Nat.le_refl _, fun i hi => by omega, fun i _ hi => by omega⟩
  | n + 1, hn => by
    by_cases h : P n < q
    · refine ⟨n + 1, Nat.le_refl _, fun i hi => ?_, fun i h1 h2 => by omega⟩
      by_cases e : i = n
      · rw [e]; exact h
      · have := mono i n (by omega) (by omega); omega
    · obtain ⟨t, h1, h2, h3⟩ := place_exB mono ne n (by omega)
      refine ⟨t, by omega, h2, fun i i1 i2 => ?_⟩
      by_cases e : i = n
      · rw [e]; have := ne n (by omega); omega
      · exact h3 i i1 (by omega)
theorem first_ex {c : Nat} (f : Nat → Int) : (∀ j, j < c → f j = 0) ∨ ∃ q, q < c ∧ f q ≠ 0 ∧ ∀ j, j < q → f j = 0 := by
  induction c with
  | zero => exact .inl fun j hj => by omega
  | succ c ih =>
    rcases ih with h | ⟨q, h1, h2, h3⟩
    · by_cases e : f c = 0
      · refine .inl fun j hj => ?_
        by_cases ej : j = c
        · rw [ej]; exact e
        · exact h j (by omega)
      · exact .inr ⟨c, Nat.lt_succ_self c, e, h⟩
    · exact .inr ⟨q, by omega, h2, h3⟩
theorem kept_snoc {p : Int} {c : Nat} {A m : List (List Int)} {P : Nat → Nat} {r : List Int} (hp : prm p = true) (h : Kept p c A m P) (hl : r.length = c) (hr : ∀ j, j < c → 0 ≤ num r j ∧ num r j < p) : ∃ m' P', Kept p c (A ++ [r]) m' P' := by
  obtain ⟨r', h'⟩ := redu_ex hp h hl hr m.length (Nat.le_refl _)
  rcases first_ex (c := c) (num r') with hz | ⟨q, hq, q0, ql⟩
  · exact ⟨m, P, h.same h'.van hz⟩
  · have ne : ∀ i, i < m.length → P i ≠ q := fun i hi e => q0 (by rw [← e]; exact h'.zer i hi)
    obtain ⟨t, t0, t1, t2⟩ := place_exB h.red.mono ne m.length (Nat.le_refl _)
    have hs : ∀ j, j < c → num (mkR c fun j => num r' j * inv p (num r' q) % p) j = num r' j * inv p (num r' q) % p := fun j hj => mkR_at _ hj
    refine ⟨_, _, h.more (m' := mk m.length c fun i j => (at' m i j + (p - at' m i q) % p * num (mkR c fun j => num r' j * inv p (num r' q) % p) j) % p) (s := mkR c fun j => num r' j * inv p (num r' q) % p) (t := t) hp h'.van h'.zer h'.rng hq q0 ql hs (mkR_len _ _) (mk_len _ _ _) (fun i hi => mk_rowLen _ hi) (fun i hi j hj => mk_at _ hi hj) t0 t1 t2⟩
theorem kept_ex {p : Int} {c : Nat} (hp : prm p = true) (A : List (List Int)) (hl : ∀ i, i < A.length → (rw' A i).length = c) (hr : ∀ i, i < A.length → ∀ j, j < c → 0 ≤ at' A i j ∧ at' A i j < p) : ∃ m P, Kept p c A m P := by
  have key : ∀ n, n ≤ A.length → ∃ m P, Kept p c (A.take n) m P := by
    intro n
    induction n with
    | zero => intro _; exact ⟨[], fun _ => 0, Kept.start p c _⟩
    | succ n ih =>
      intro hn
      obtain ⟨m, P, h⟩ := ih (by omega)
      have e : A.take (n + 1) = A.take n ++ [rw' A n] := by
        rw [List.take_add_one, show A[n]? = some (rw' A n) by unfold rw'; simp [List.getD, show n < A.length by omega]]; rfl
      rw [e]
      exact kept_snoc hp h (hl n (by omega)) (fun j hj => hr n (by omega) j hj)
  have h := key A.length (Nat.le_refl _)
  rw [List.take_length] at h
  exact h
theorem bas_is {p : Int} {c : Nat} (hp : prm p = true) (A : List (List Int)) (hl : ∀ i, i < A.length → (rw' A i).length = c) (hr : ∀ i, i < A.length → ∀ j, j < c → 0 ≤ at' A i j ∧ at' A i j < p) : IsBas p c A (bas p A) := by
  have hpb := prm_bd hp
  by_cases h0 : 0 < A.length
  · obtain ⟨m, P, h⟩ := kept_ex hp A hl hr
    have hb := h.bas
    have e := hl 0 h0
    subst e
    rw [← bas_eq (by omega) hb]
    exact hb
  · have hA : A = [] := List.eq_nil_of_length_eq_zero (by omega)
    subst hA
    rw [bas_nil (by omega)]
    exact (Kept.start p c fun _ => 0).bas
theorem RowsW.bas {p : Int} {A : List (List Int)} (h : RowsW p A) : IsBas p (rw' A 0).length A (bas p A) := bas_is h.prime A h.len h.rng
theorem kerP_len {p : Int} {A : List (List Int)} {i : Nat} (h : i < (kerP p A).length) : (rw' (kerP p A) i).length = (rw' A 0).length := by
  obtain ⟨k', _, e⟩ := kerN_mem (mem_row h)
  unfold kerP
  rw [e]
  exact mkR_len _ _
theorem kerP_rng {p : Int} (hp : 0 < p) {A : List (List Int)} {i j : Nat} (h : i < (kerP p A).length) (hj : j < (rw' A 0).length) : 0 ≤ at' (kerP p A) i j ∧ at' (kerP p A) i j < p := by
  obtain ⟨k', _, e⟩ := kerN_mem (mem_row h)
  have e2 : at' (kerP p A) i j = (kvec p (bas p A) (pvs (bas p A)) (rw' A 0).length (bas p A).length k').getD j 0 := by
    unfold at'; rw [show rw' (kerP p A) i = _ from e]
  rw [e2]
  unfold kvec
  rw [mkR_at _ hj]
  exact ⟨Int.emod_nonneg _ (by omega), Int.emod_lt_of_pos _ hp⟩
theorem ker_is {p : Int} {A : List (List Int)} (hp : prm p = true) : IsBas p (rw' A 0).length (kerP p A) (kerB p A) :=
  bas_is hp _ (fun i hi => kerP_len hi) (fun i hi j hj => kerP_rng (by have := prm_bd hp; omega) hi hj)
theorem van_mod {p : Int} {c : Nat} {r r' x : Nat → Int} (h : ∀ j, j < c → r j % p = r' j % p) : van p c r x ↔ van p c r' x := by
  unfold van
  rw [show sm c (fun j => r j * x j) % p = sm c (fun j => r' j * x j) % p from by
    induction c with
    | zero => rfl
    | succ c ih =>
      show (sm c _ + r c * x c) % p = (sm c _ + r' c * x c) % p
      rw [Int.add_emod, ih (fun j hj => h j (by omega)), Int.mul_emod (r c), h c (Nat.lt_succ_self c), ← Int.mul_emod, ← Int.add_emod]]
end Go.Proofs.Ytckpcfhmppdghaa

namespace Go.Proofs.Ytckpcfhmppdghaa
open Go.RowKit
set_option linter.unusedVariables false

set_option maxHeartbeats 1600000 in
theorem l01Same_any (a b : Option Addr) (za zb : List Int) (ca cb lo tp lo' tp' : Nat) (w : World) (ha : RowIn lo tp w a za) (hb : RowIn lo' tp' w b zb) (sa : za.length ≤ 1048576) :
    Calls Try.prog 45 #[.slice a za.length ca, .slice b zb.length cb] w fun e w' => e = .returned (.bool (decide (za = zb))) ∧ Quiet w w' := by
  have HA := Lib.hid ha
  have HB := Lib.hid hb
  clear ha hb
  by_cases hl : za.length = zb.length
  · have HL := Lib.hid hl
    obtain ⟨n, hn⟩ : ∃ n, n = zb.length := ⟨_, rfl⟩
    have HN := Lib.hid hn
    rw [hl] at sa ⊢
    rw [← hn] at sa ⊢
    clear hl hn
    go_enter Try.func45, Try.ntmps45
    go_wp2
    go_loopw [5] (fun t wr => ∃ i : Nat, i ≤ n ∧ t = .int .i64 i ∧ (∀ j, j < i → za.getD j 0 = zb.getD j 0) ∧ Quiet w wr) (fun t _ => n - (intOf t).toNat)
    case atStart => exact ⟨0, Nat.zero_le _, rfl, fun j hj => by omega, Quiet.refl _⟩
    case round =>
      obtain ⟨i, hi, rfl, hall, hq⟩ := hrel
      have HQ := Lib.hid hq
      have HALL := Lib.hid hall
      by_cases hlt : i < n
      · obtain ⟨b1, o1, ha1, _, _, hc1⟩ := (HA.out.same (hq.same _ _)).num (show i < za.length by rw [HL.out, ← HN.out]; exact hlt)
        obtain ⟨b2, o2, ha2, _, _, hc2⟩ := (HB.out.same (hq.same _ _)).num (show i < zb.length by rw [← HN.out]; exact hlt)
        subst ha1
        subst ha2
        have hi1 : (i : Int) < (n : Int) := by omega
        obtain ⟨x, hx⟩ : ∃ x, x = za.getD i 0 := ⟨_, rfl⟩
        obtain ⟨y, hy⟩ : ∃ y, y = zb.getD i 0 := ⟨_, rfl⟩
        have HX := Lib.hid hx
        have HY := Lib.hid hy
        rw [← hx] at hc1
        rw [← hy] at hc2
        clear hx hy hall hq
        by_cases hxy : x = y
        · have e1 : (x != y) = false := by simp [hxy]
          have HXY := Lib.hid hxy
          clear hxy
          go_wp2
          go_quiet (fail)
          go_wp2
          go_roundw
          case rel => exact ⟨i + 1, by omega, by go_num, fun j hj => by
            by_cases e : j = i
            · subst e; rw [← HX.out, ← HY.out, HXY.out]
            · exact HALL.out j (by omega), HQ.out.next _⟩
          case measure => simp [intOf]; omega
        · have e1 : (x != y) = true := by simp [hxy]
          have HR : Hid (decide (za = zb) = false) := decide_eq_false fun e => hxy (by rw [HX.out, HY.out, e])
          clear hxy
          go_wp2
          go_quiet (fail)
          go_wp2
          go_ret
          exact ⟨by rw [HR.out]; rfl, HQ.out.next _⟩
      · have hin : i = n := by omega
        subst hin
        have HR : Hid (decide (za = zb) = true) := decide_eq_true (row_ext HL.out (fun j hj => hall j (by rw [HN.out, ← HL.out]; exact hj)))
        clear hall hq
        go_wp2
        go_ret
        exact ⟨by rw [HR.out]; rfl, HQ.out⟩
  · have HR : Hid (decide (za = zb) = false) := decide_eq_false fun e => hl (by rw [e])
    obtain ⟨n, hn⟩ : ∃ n, n = za.length := ⟨_, rfl⟩
    obtain ⟨m, hm⟩ : ∃ m, m = zb.length := ⟨_, rfl⟩
    rw [← hn, ← hm] at hl ⊢
    have hl2 : ((n : Int) != (m : Int)) = true := by simp; omega
    go_enter Try.func45, Try.ntmps45
    go_wp2
    go_ret
    exact ⟨by rw [HR.out]; rfl, Quiet.refl _⟩

end Go.Proofs.Ytckpcfhmppdghaa

namespace Go.Proofs.Ytckpcfhmppdghaa
open Go.RowKit
set_option linter.unusedVariables false

set_option maxHeartbeats 1600000 in
theorem equal_any (a b : Option Addr) (za zb : List Int) (ca cb lo tp lo' tp' : Nat) (w : World) (ha : RowIn lo tp w a za) (hb : RowIn lo' tp' w b zb) (sa : za.length ≤ 1048576) :
    Calls Try.prog 54 #[.slice a za.length ca, .slice b zb.length cb] w fun e w' => e = .returned (.bool (decide (za = zb))) ∧ Quiet w w' := by
  have HA := Lib.hid ha
  have HB := Lib.hid hb
  clear ha hb
  by_cases hl : za.length = zb.length
  · have HL := Lib.hid hl
    obtain ⟨n, hn⟩ : ∃ n, n = zb.length := ⟨_, rfl⟩
    have HN := Lib.hid hn
    rw [hl] at sa ⊢
    rw [← hn] at sa ⊢
    clear hl hn
    go_enter Try.func54, Try.ntmps54
    go_wp2
    go_loopw [13] (fun t wr => ∃ i : Nat, i ≤ n ∧ t = .int .i64 i ∧ (∀ j, j < i → za.getD j 0 = zb.getD j 0) ∧ Quiet w wr) (fun t _ => n - (intOf t).toNat)
    case atStart => exact ⟨0, Nat.zero_le _, rfl, fun j hj => by omega, Quiet.refl _⟩
    case round =>
      obtain ⟨i, hi, rfl, hall, hq⟩ := hrel
      have HQ := Lib.hid hq
      have HALL := Lib.hid hall
      by_cases hlt : i < n
      · obtain ⟨b1, o1, ha1, _, _, hc1⟩ := (HA.out.same (hq.same _ _)).num (show i < za.length by rw [HL.out, ← HN.out]; exact hlt)
        obtain ⟨b2, o2, ha2, _, _, hc2⟩ := (HB.out.same (hq.same _ _)).num (show i < zb.length by rw [← HN.out]; exact hlt)
        subst ha1
        subst ha2
        have hi1 : (i : Int) < (n : Int) := by omega
        obtain ⟨x, hx⟩ : ∃ x, x = za.getD i 0 := ⟨_, rfl⟩
        obtain ⟨y, hy⟩ : ∃ y, y = zb.getD i 0 := ⟨_, rfl⟩
        have HX := Lib.hid hx
        have HY := Lib.hid hy
        rw [← hx] at hc1
        rw [← hy] at hc2
        clear hx hy hall hq
        by_cases hxy : x = y
        · have e1 : (x != y) = false := by simp [hxy]
          have HXY := Lib.hid hxy
          clear hxy
          go_wp2
          go_quiet (fail)
          go_wp2
          go_roundw
          case rel => exact ⟨i + 1, by omega, by go_num, fun j hj => by
            by_cases e : j = i
            · subst e; rw [← HX.out, ← HY.out, HXY.out]
            · exact HALL.out j (by omega), HQ.out.next _⟩
          case measure => simp [intOf]; omega
        · have e1 : (x != y) = true := by simp [hxy]
          have HR : Hid (decide (za = zb) = false) := decide_eq_false fun e => hxy (by rw [HX.out, HY.out, e])
          clear hxy
          go_wp2
          go_quiet (fail)
          go_wp2
          go_ret
          exact ⟨by rw [HR.out]; rfl, HQ.out.next _⟩
      · have hin : i = n := by omega
        subst hin
        have HR : Hid (decide (za = zb) = true) := decide_eq_true (row_ext HL.out (fun j hj => hall j (by rw [HN.out, ← HL.out]; exact hj)))
        clear hall hq
        go_wp2
        go_ret
        exact ⟨by rw [HR.out]; rfl, HQ.out⟩
  · have HR : Hid (decide (za = zb) = false) := decide_eq_false fun e => hl (by rw [e])
    obtain ⟨n, hn⟩ : ∃ n, n = za.length := ⟨_, rfl⟩
    obtain ⟨m, hm⟩ : ∃ m, m = zb.length := ⟨_, rfl⟩
    rw [← hn, ← hm] at hl ⊢
    have hl2 : ((n : Int) != (m : Int)) = true := by simp; omega
    go_enter Try.func54, Try.ntmps54
    go_wp2
    go_ret
    exact ⟨by rw [HR.out]; rfl, Quiet.refl _⟩

end Go.Proofs.Ytckpcfhmppdghaa
