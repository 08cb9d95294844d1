/-
  Each list of rows has a reduced basis; kernels. No Go in sight.
  No conditions.
  Two lists compared: contracts of the program and of the model.
  Conditions: the lists are nil or rows of known cells, of at most 1048576 numbers.
  slices.Max and slices.Equal of lists of numbers.
  Conditions: rows of known cells, of at most 1048576 numbers.
  Left and right matrices, left ideals and annihilators, idempotents: contracts of the program and of the model.
  Conditions: the lists are nil or rows of known cells, of at most 1048576 numbers.
-/
import Derived.Test.YtndneccgomfkdaaGreatQi29
import Derived.Test.YtndneccgomfkdaaGreatQi9
import Derived.BigQuiet
import Derived.Test.YtndneccgomfkdaaGreatQi4
import Derived.Test.YtndneccgomfkdaaGreatQi23
import Derived.Test.YtndneccgomfkdaaGreatQi20
import Derived.Test.YtndneccgomfkdaaGreatQi16
import Derived.Deep.RegionHeld3
import Derived.Deep.DeepCutAuto
namespace Go.Proofs.YtndneccgomfkdaaGreat
open Go.RowKit
set_option linter.unusedVariables false

theorem redu_ex {p : Int} {c : Nat} {A m : List (List Int)} {P : Nat → Nat} {r : List Int} (hp : prm p = true) (h : Kept p c A m P) (hl : r.length = c) (hr : ∀ j, j < c → 0 ≤ num r j ∧ num r j < p) : ∀ k, k ≤ m.length → ∃ r', Redu p c m P r r' k
  | 0, _ => ⟨r, Redu.start hl hr⟩
  | k + 1, hk => by
    obtain ⟨r', h'⟩ := redu_ex hp h hl hr k (by omega)
    exact ⟨mkR c fun j => (num r' j + (p - num r' (P k)) % p * at' m k j) % p, h'.next hp h.red (by omega) (mkR_len _ _) (fun j hj => mkR_at _ hj)⟩
theorem place_exB {P : Nat → Nat} {q N : Nat} (mono : ∀ i i', i < i' → i' < N → P i < P i') (ne : ∀ i, i < N → P i ≠ q) : ∀ n, n ≤ N → ∃ t, t ≤ n ∧ (∀ i, i < t → P i < q) ∧ ∀ i, t ≤ i → i < n → q < P i
  | 0, _ => ⟨0, Nat.le_refl _, fun i hi => by omega, fun i _ hi => by omega⟩
  | n + 1, hn => by
    by_cases h : P n < q
    · refine ⟨n + 1, Nat.le_refl _, fun i hi => ?_, fun i h1 h2 => by omega⟩
      by_cases e : i = n
      · rw [e]; exact h
      · have := mono i n (by omega) (by omega); omega
    · obtain ⟨t, h1, h2, h3⟩ := place_exB mono ne n (by omega)
      refine ⟨t, by omega, h2, fun i i1 i2 => ?_⟩
      by_cases e : i = n
      · rw [e]; have := ne n (by omega); omega
      · exact h3 i i1 (by omega)
theorem first_ex {c : Nat} (f : Nat → Int) : (∀ j, j < c → f j = 0) ∨ ∃ q, q < c ∧ f q ≠ 0 ∧ ∀ j, j < q → f j = 0 := by
  induction c with
  | zero => exact .inl fun j hj => by omega
  | succ c ih =>
    rcases ih with h | ⟨q, h1, h2, h3⟩
    · by_cases e : f c = 0
      · refine .inl fun j hj => ?_
        by_cases ej : j = c
        · rw [ej]; exact e
        · exact h j (by omega)
      · exact .inr ⟨c, Nat.lt_succ_self c, e, h⟩
    · exact .inr ⟨q, by omega, h2, h3⟩
theorem kept_snoc {p : Int} {c : Nat} {A m : List (List Int)} {P : Nat → Nat} {r : List Int} (hp : prm p = true) (h : Kept p c A m P) (hl : r.length = c) (hr : ∀ j, j < c → 0 ≤ num r j ∧ num r j < p) : ∃ m' P', Kept p c (A ++ [r]) m' P' := by
  obtain ⟨r', h'⟩ := redu_ex hp h hl hr m.length (Nat.le_refl _)
  rcases first_ex (c := c) (num r') with hz | ⟨q, hq, q0, ql⟩
  · exact ⟨m, P, h.same h'.van hz⟩
  · have ne : ∀ i, i < m.length → P i ≠ q := fun i hi e => q0 (by rw [← e]; exact h'.zer i hi)
    obtain ⟨t, t0, t1, t2⟩ := place_exB h.red.mono ne m.length (Nat.le_refl _)
    have hs : ∀ j, j < c → num (mkR c fun j => num r' j * inv p (num r' q) % p) j = num r' j * inv p (num r' q) % p := fun j hj => mkR_at _ hj
    refine ⟨_, _, h.more (m' := mk m.length c fun i j => (at' m i j + (p - at' m i q) % p * num (mkR c fun j => num r' j * inv p (num r' q) % p) j) % p) (s := mkR c fun j => num r' j * inv p (num r' q) % p) (t := t) hp h'.van h'.zer h'.rng hq q0 ql hs (mkR_len _ _) (mk_len _ _ _) (fun i hi => mk_rowLen _ hi) (fun i hi j hj => mk_at _ hi hj) t0 t1 t2⟩
theorem kept_ex {p : Int} {c : Nat} (hp : prm p = true) (A : List (List Int)) (hl : ∀ i, i < A.length → (rw' A i).length = c) (hr : ∀ i, i < A.length → ∀ j, j < c → 0 ≤ at' A i j ∧ at' A i j < p) : ∃ m P, Kept p c A m P := by
  have key : ∀ n, n ≤ A.length → ∃ m P, Kept p c (A.take n) m P := by
    intro n
    induction n with
    | zero => intro _; exact ⟨[], fun _ => 0, Kept.start p c _⟩
    | succ n ih =>
      intro hn
      obtain ⟨m, P, h⟩ := ih (by omega)
      have e : A.take (n + 1) = A.take n ++ [rw' A n] := by
        rw [List.take_add_one, show A[n]? = some (rw' A n) by unfold rw'; simp [List.getD, show n < A.length by omega]]; rfl
      rw [e]
      exact kept_snoc hp h (hl n (by omega)) (fun j hj => hr n (by omega) j hj)
  have h := key A.length (Nat.le_refl _)
  rw [List.take_length] at h
  exact h
theorem bas_is {p : Int} {c : Nat} (hp : prm p = true) (A : List (List Int)) (hl : ∀ i, i < A.length → (rw' A i).length = c) (hr : ∀ i, i < A.length → ∀ j, j < c → 0 ≤ at' A i j ∧ at' A i j < p) : IsBas p c A (bas p A) := by
  have hpb := prm_bd hp
  by_cases h0 : 0 < A.length
  · obtain ⟨m, P, h⟩ := kept_ex hp A hl hr
    have hb := h.bas
    have e := hl 0 h0
    subst e
    rw [← bas_eq (by omega) hb]
    exact hb
  · have hA : A = [] := List.eq_nil_of_length_eq_zero (by omega)
    subst hA
    rw [bas_nil (by omega)]
    exact (Kept.start p c fun _ => 0).bas
theorem RowsW.bas {p : Int} {A : List (List Int)} (h : RowsW p A) : IsBas p (rw' A 0).length A (bas p A) := bas_is h.prime A h.len h.rng
theorem van_mod {p : Int} {c : Nat} {r r' x : Nat → Int} (h : ∀ j, j < c → r j % p = r' j % p) : van p c r x ↔ van p c r' x := by
  unfold van
  rw [show sm c (fun j => r j * x j) % p = sm c (fun j => r' j * x j) % p from by
    induction c with
    | zero => rfl
    | succ c ih =>
      show (sm c _ + r c * x c) % p = (sm c _ + r' c * x c) % p
      rw [Int.add_emod, ih (fun j hj => h j (by omega)), Int.mul_emod (r c), h c (Nat.lt_succ_self c), ← Int.mul_emod, ← Int.add_emod]]
end Go.Proofs.YtndneccgomfkdaaGreat

namespace Go.Proofs.YtndneccgomfkdaaGreat
open Go.RowKit
set_option linter.unusedVariables false

set_option maxHeartbeats 1600000 in
theorem l01Same_any (a b : Option Addr) (za zb : List Int) (ca cb lo tp lo' tp' : Nat) (w : World) (ha : RowIn lo tp w a za) (hb : RowIn lo' tp' w b zb) (sa : za.length ≤ 1048576) :
    Calls Tryz.prog 83 #[.slice a za.length ca, .slice b zb.length cb] w fun e w' => e = .returned (.bool (decide (za = zb))) ∧ Quiet w w' := by
  have HA := Lib.hid ha
  have HB := Lib.hid hb
  clear ha hb
  by_cases hl : za.length = zb.length
  · have HL := Lib.hid hl
    obtain ⟨n, hn⟩ : ∃ n, n = zb.length := ⟨_, rfl⟩
    have HN := Lib.hid hn
    rw [hl] at sa ⊢
    rw [← hn] at sa ⊢
    clear hl hn
    go_enter Tryz.func83, Tryz.ntmps83
    go_wp2
    go_loopw [5] (fun t wr => ∃ i : Nat, i ≤ n ∧ t = .int .i64 i ∧ (∀ j, j < i → za.getD j 0 = zb.getD j 0) ∧ Quiet w wr) (fun t _ => n - (intOf t).toNat)
    case atStart => exact ⟨0, Nat.zero_le _, rfl, fun j hj => by omega, Quiet.refl _⟩
    case round =>
      obtain ⟨i, hi, rfl, hall, hq⟩ := hrel
      have HQ := Lib.hid hq
      have HALL := Lib.hid hall
      by_cases hlt : i < n
      · obtain ⟨b1, o1, ha1, _, _, hc1⟩ := (HA.out.same (hq.same _ _)).num (show i < za.length by rw [HL.out, ← HN.out]; exact hlt)
        obtain ⟨b2, o2, ha2, _, _, hc2⟩ := (HB.out.same (hq.same _ _)).num (show i < zb.length by rw [← HN.out]; exact hlt)
        subst ha1
        subst ha2
        have hi1 : (i : Int) < (n : Int) := by omega
        obtain ⟨x, hx⟩ : ∃ x, x = za.getD i 0 := ⟨_, rfl⟩
        obtain ⟨y, hy⟩ : ∃ y, y = zb.getD i 0 := ⟨_, rfl⟩
        have HX := Lib.hid hx
        have HY := Lib.hid hy
        rw [← hx] at hc1
        rw [← hy] at hc2
        clear hx hy hall hq
        by_cases hxy : x = y
        · have e1 : (x != y) = false := by simp [hxy]
          have HXY := Lib.hid hxy
          clear hxy
          go_wp2
          go_quiet (fail)
          go_wp2
          go_roundw
          case rel => exact ⟨i + 1, by omega, by go_num, fun j hj => by
            by_cases e : j = i
            · subst e; rw [← HX.out, ← HY.out, HXY.out]
            · exact HALL.out j (by omega), HQ.out.next _⟩
          case measure => simp [intOf]; omega
        · have e1 : (x != y) = true := by simp [hxy]
          have HR : Hid (decide (za = zb) = false) := decide_eq_false fun e => hxy (by rw [HX.out, HY.out, e])
          clear hxy
          go_wp2
          go_quiet (fail)
          go_wp2
          go_ret
          exact ⟨by rw [HR.out]; rfl, HQ.out.next _⟩
      · have hin : i = n := by omega
        subst hin
        have HR : Hid (decide (za = zb) = true) := decide_eq_true (row_ext HL.out (fun j hj => hall j (by rw [HN.out, ← HL.out]; exact hj)))
        clear hall hq
        go_wp2
        go_ret
        exact ⟨by rw [HR.out]; rfl, HQ.out⟩
  · have HR : Hid (decide (za = zb) = false) := decide_eq_false fun e => hl (by rw [e])
    obtain ⟨n, hn⟩ : ∃ n, n = za.length := ⟨_, rfl⟩
    obtain ⟨m, hm⟩ : ∃ m, m = zb.length := ⟨_, rfl⟩
    rw [← hn, ← hm] at hl ⊢
    have hl2 : ((n : Int) != (m : Int)) = true := by simp; omega
    go_enter Tryz.func83, Tryz.ntmps83
    go_wp2
    go_ret
    exact ⟨by rw [HR.out]; rfl, Quiet.refl _⟩

end Go.Proofs.YtndneccgomfkdaaGreat

namespace Go.Proofs.YtndneccgomfkdaaGreat
open Go.RowKit
set_option linter.unusedVariables false

theorem mk_lst {p : Int} {n c : Nat} {f : Nat → Nat → Int} (hp : prm p = true) (n0 : 0 < n) (n1 : n ≤ 16) (c0 : 0 < c) (c1 : c ≤ 16) (h : ∀ i j, i < n → j < c → 0 ≤ f i j ∧ f i j < p) (k : Nat) (hk : k ≤ n) : Lst k p (mk n c f) where
  prime := hp
  lo := by rw [mk_len]; exact hk
  hi := by rw [mk_len]; exact n1
  len i hi := by rw [mk_len] at hi; rw [mk_rowLen _ hi, mk_rowLen _ n0]
  c0 i hi := by rw [mk_len] at hi; rw [mk_rowLen _ hi]; exact c0
  c1 i hi := by rw [mk_len] at hi; rw [mk_rowLen _ hi]; exact c1
  all i hi := by
    rw [mk_len] at hi
    rw [List.all_eq_true]
    intro y hy
    obtain ⟨j, hj, rfl⟩ := List.getElem_of_mem hy
    have hj2 := hj
    rw [mk_rowLen _ hi] at hj2
    have e : (rw' (mk n c f) i)[j] = f i j := by
      rw [← getD_at hj]; exact mk_at _ hi hj2
    rw [e]
    exact inr_iff.2 (h i j hi hj2)
theorem colsR_lst {p : Int} {S : List Int} (hs : isSp p S = true) (h4 : S.length ≤ 4) (x : List Int) (k : Nat) (hk : k ≤ 1) : Lst k p (colsR p S x) := by
  have hp := prm_bd (isSp_iff.1 hs).prime
  have hb := bl_pos S
  exact mk_lst (isSp_iff.1 hs).prime hb (bl_st h4) hb (bl_st h4) (fun i j _ _ => prodF_bd (by omega) S _ x j) k (by omega)
theorem left_wide {p : Int} {S : List Int} (hs : isSp p S = true) (h4 : S.length ≤ 4) (x : List Int) : Lst 1 p (leftM p S x) := by
  have hp := prm_bd (isSp_iff.1 hs).prime
  have hb := bl_pos S
  exact mk_lst (isSp_iff.1 hs).prime hb (bl_st h4) hb (bl_st h4) (fun i j _ _ => prodF_bd (by omega) S x _ i) 1 (by omega)
theorem rref_le {p : Int} {n c : Nat} {R : Nat → Nat → Int} {P : Nat → Nat} (h : Rref p n c R P) : n ≤ c := by
  have key : ∀ i, i < n → i ≤ P i := by
    intro i
    induction i with
    | zero => intro _; exact Nat.zero_le _
    | succ i ih => intro hi; have h1 := ih (by omega); have h2 := h.mono i (i + 1) (by omega) hi; omega
  by_cases h0 : n = 0
  · omega
  · have h1 := key (n - 1) (by omega)
    have h2 := h.pv (n - 1) (by omega)
    omega
noncomputable def lmV (p : Int) (S x : List Int) : List (List Int) := if stC p S [x] = 0 then leftM p S x else []
theorem size_bl {S : List Int} {m : List (List Int)} (h4 : S.length ≤ 4) (hl : m.length ≤ 16) (hr : ∀ i, i < m.length → (rw' m i).length = bl S) : m.length + tot m m.length ≤ 1048576 := by
  have h := bl_st h4
  rw [tot_const (c := bl S) hr (Nat.le_refl _)]
  have : m.length * bl S ≤ 16 * 16 := Nat.mul_le_mul hl h
  omega
theorem lmV_size (p : Int) (S x : List Int) : (lmV p S x).length + tot (lmV p S x) (lmV p S x).length ≤ 1048576 := by
  unfold lmV; split
  · rename_i h
    have h4 := (stC_one h).2.2
    exact size_bl h4 (by rw [show (leftM p S x).length = bl S from mk_len _ _ _]; exact bl_st h4) (fun i hi => by rw [show (leftM p S x).length = bl S from mk_len _ _ _] at hi; exact mk_rowLen _ hi)
  · simp [tot]
set_option maxRecDepth 100000 in
set_option maxHeartbeats 3200000 in
theorem impl_LeftMatrix (pS : Int) (aS : Option Addr) (S : List Int) (cS loS tpS : Nat) (ax : Option Addr) (x : List Int) (cx lox tpx : Nat) (w : World) (hS : RowIn loS tpS w aS S) (tS : tpS ≤ w.heap.size) (sS : S.length ≤ 1048576) (hx : RowIn lox tpx w ax x) (tx : tpx ≤ w.heap.size) (sx : x.length ≤ 1048576) :
    Calls Tryz.prog 10 #[.agg #[.int .i64 pS, .slice aS S.length cS], .slice ax x.length cx] w (ImplM (lmV pS S x) (stC pS S [x]) w) := by
  have HS := Lib.hid hS
  have Hx := Lib.hid hx
  have k0 := nw0 w (.int .i64 pS) (.slice aS S.length cS) 26
  have k1 := nw1 w (.int .i64 pS) (.slice aS S.length cS) 26
  have HB0 := Lib.hid (below_alloc w (.cells #[.int .i64 pS, .slice aS S.length cS] 26))
  clear hS hx
  by_cases h0 : stC pS S [x] = 0
  · have HC0 := Lib.hid h0
    have hz := stC_one h0
    have HI := Lib.hid hz.1
    have HMX := Lib.hid hz.2.1
    have H4 := Lib.hid hz.2.2
    have HV : Hid (lmV pS S x = leftM pS S x) := if_pos h0
    clear h0 hz
    go_enter Tryz.func10, Tryz.ntmps10
    go_upto_region 1 with fail
    obtain ⟨w1, hw1⟩ : ∃ z, z = w.alloc (.cells #[.int .i64 pS, .slice aS S.length cS] 26) := ⟨_, rfl⟩
    rw [← hw1] at HB0 k0 k1 ⊢
    have hd1 : w.heap.size < w1.heap.size := by rw [hw1]; simp
    have HB1 := HB0
    clear hw1
    have SS1 := Lib.hid (And.intro k0 k1)
    go_wp2_with (first | (go_at_call 41; ((with_reducible refine (checkS1 pS aS S cS loS tpS ax x cx lox tpx _ _ w1 _ rfl (HS.out.below HB1.out tS) (Nat.le_trans tS HB1.out.size) sS (Hx.out.below HB1.out tx) (Nat.le_trans tx HB1.out.size) sx).mono ?_); rintro e w2 ⟨rfl, b_⟩; rw [HC0.out]; have b2_ := below_step (below_alloc w1 (.cells #[.slice ax x.length cx] 24)) (size_alloc w1 (.cells #[.slice ax x.length cx] 24)) b_; have SS2 := Lib.hid (ss2 b2_ hd1 SS1.out); have HB2 := Lib.hid (below_step HB1.out HB1.out.size b2_); have hd2 := Nat.lt_of_lt_of_le hd1 b2_.size; clear k0 k1; obtain ⟨k0, k1⟩ := SS2.out; clear b_ b2_)) | (go_at_call 37; ((with_reducible refine (leftMatrix_any pS aS S cS loS tpS ax x cx lox tpx w2 HI.out (HS.out.below HB2.out tS) (Nat.le_trans tS HB2.out.size) (Hx.out.below HB2.out tx) (Nat.le_trans tx HB2.out.size) HMX.out).mono ?_); rintro e w3 ⟨r3, c3, rfl, o_, b_⟩; have SS3 := Lib.hid (ss2 b_ hd2 SS2.out); have HB3 := Lib.hid (below_step HB2.out HB2.out.size b_); have hd3 := Nat.lt_of_lt_of_le hd2 b_.size; have RR := Lib.hid (o_.mono (Nat.le_of_lt hd2) (Nat.le_refl _)); clear o_; clear k0 k1; obtain ⟨k0, k1⟩ := SS3.out; clear b_)))
    go_ret2
    rw [HV.out, HC0.out]
    exact ⟨r3, c3, rfl, RR.out, HB3.out⟩
  · have HV : Hid (lmV pS S x = []) := if_neg h0
    obtain ⟨C, hC⟩ : ∃ c, c = stC pS S [x] := ⟨_, rfl⟩
    have hc1 : (C != 0) = true := by rw [hC]; simpa using h0
    have hc2 : (C == 0) = false := by rw [hC]; simpa using h0
    have HCE := Lib.hid hC
    clear hC
    clear h0
    go_enter Tryz.func10, Tryz.ntmps10
    go_upto_region 1 with fail
    obtain ⟨w1, hw1⟩ : ∃ z, z = w.alloc (.cells #[.int .i64 pS, .slice aS S.length cS] 26) := ⟨_, rfl⟩
    rw [← hw1] at HB0 k0 k1 ⊢
    have hd1 : w.heap.size < w1.heap.size := by rw [hw1]; simp
    have HB1 := HB0
    clear hw1
    have SS1 := Lib.hid (And.intro k0 k1)
    go_wp2_with (go_at_call 41; ((with_reducible refine (checkS1 pS aS S cS loS tpS ax x cx lox tpx _ _ w1 _ rfl (HS.out.below HB1.out tS) (Nat.le_trans tS HB1.out.size) sS (Hx.out.below HB1.out tx) (Nat.le_trans tx HB1.out.size) sx).mono ?_); rintro e w2 ⟨rfl, b_⟩; rw [← HCE.out]; have b2_ := below_step (below_alloc w1 (.cells #[.slice ax x.length cx] 24)) (size_alloc w1 (.cells #[.slice ax x.length cx] 24)) b_; have SS2 := Lib.hid (ss2 b2_ hd1 SS1.out); have HB2 := Lib.hid (below_step HB1.out HB1.out.size b2_); have hd2 := Nat.lt_of_lt_of_le hd1 b2_.size; clear k0 k1; obtain ⟨k0, k1⟩ := SS2.out; clear b_ b2_))
    go_ret2
    rw [HV.out, ← HCE.out]
    exact ⟨none, 0, rfl, .inl rfl, HB2.out⟩

end Go.Proofs.YtndneccgomfkdaaGreat
