/-
  Inverses: elimination of a square matrix beside the unit matrix, and when it tells that there is an inverse. No Go in sight.
  No conditions.
  Inverses of multivectors: the model's contract.
  Conditions: the lists are nil or rows of known cells, of at most 1048576 numbers.
-/
import Derived.Test.YtndneccgomfkdaaGreatQi20
import Derived.Test.YtndneccgomfkdaaGreatQi32
import Derived.Test.YtndneccgomfkdaaGreatQi23
import Derived.Test.YtndneccgomfkdaaGreatQi22
import Derived.Test.YtndneccgomfkdaaGreatQi30
import Derived.Test.YtndneccgomfkdaaGreatQi31
import Derived.Deep.RegionHeld3
import Derived.Deep.DeepCutAuto
namespace Go.Proofs.YtndneccgomfkdaaGreat
set_option linter.unusedVariables false

theorem mul0 {p a b : Int} (hp : prm p = true) (a0 : 0 ≤ a) (a1 : a < p) (b0 : 0 ≤ b) (b1 : b < p) : a * b % p = 0 ↔ a = 0 ∨ b = 0 := by
  have := every2_at (Q := fun p a b => decide (a * b % p = 0 ↔ a = 0 ∨ b = 0)) (by decide +kernel) hp a0 a1 b0 b1
  exact of_decide_eq_true this
theorem Elm.ne0 {p : Int} {c : Nat} {A m : List (List Int)} {P : Nat → Nat} {d : Int} (hp : prm p = true) (h : Elm p c A m P d) : d ≠ 0 := by
  have hpb := prm_bd hp
  induction h with
  | start P => decide
  | same _ _ _ _ ih => exact ih
  | @more A m m' P d r r' s q t h k ih =>
    have hd := h.det hp
    have hx := k.red.rng q k.qc
    have hx0 := k.q0
    have hs : 0 ≤ esgn p m.length t (num r' q) ∧ esgn p m.length t (num r' q) < p ∧ esgn p m.length t (num r' q) ≠ 0 := by
      unfold esgn
      split
      · exact ⟨hx.1, hx.2, hx0⟩
      · have e : -num r' q % p = p - num r' q := by
          have e1 : (p - num r' q) % p = -num r' q % p := by simp
          rw [← e1, Int.emod_eq_of_lt (by omega) (by omega)]
        rw [e]
        exact ⟨by omega, by omega, by omega⟩
    intro e
    rcases (mul0 hp hd.1 hd.2 hs.1 hs.2.1).1 e with h1 | h1
    · exact ih h1
    · exact hs.2.2 h1

theorem red2_ex {p : Int} {c : Nat} {m : List (List Int)} {P : Nat → Nat} {r : List Int} (hp : prm p = true) (hR : Rref p m.length c (at' m) P) (hl : r.length = c) (hr : ∀ j, j < c → 0 ≤ num r j ∧ num r j < p) (k : Nat) (hk : k ≤ m.length) : ∃ r', Red2 p c m P r r' k := by
  induction k with
  | zero => exact ⟨r, Red2.start hl hr⟩
  | succ k ih =>
    obtain ⟨r', h⟩ := ih (by omega)
    exact ⟨mkR c fun j => (num r' j + (p - num r' (P k)) % p * at' m k j) % p, h.next hp hR (by omega) (mkR_len _ _) (fun j hj => mkR_at _ hj)⟩
theorem place_ex {n q : Nat} {P : Nat → Nat} (mono : ∀ i i', i < i' → i' < n → P i < P i') (hne : ∀ i, i < n → P i ≠ q) : ∃ t, t ≤ n ∧ (∀ i, i < t → P i < q) ∧ ∀ i, t ≤ i → i < n → q < P i := by
  induction n with
  | zero => exact ⟨0, Nat.le_refl _, fun i hi => by omega, fun i _ hi => by omega⟩
  | succ n ih =>
    obtain ⟨t, h1, h2, h3⟩ := ih (fun i i' a b => mono i i' a (by omega)) (fun i hi => hne i (by omega))
    have := hne n (by omega)
    rcases Nat.lt_or_ge (P n) q with h | h
    · refine ⟨n + 1, Nat.le_refl _, fun i hi => ?_, fun i a b => by omega⟩
      by_cases e : i = n
      · subst e; exact h
      · have := mono i n (by omega) (by omega); omega
    · refine ⟨t, by omega, h2, fun i a b => ?_⟩
      by_cases e : i = n
      · subst e; omega
      · exact h3 i a (by omega)
theorem take_one {m : List (List Int)} {i : Nat} (h : i < m.length) : m.take (i + 1) = m.take i ++ [rw' m i] := by
  rw [List.take_succ_eq_append_getElem h]
  congr 2
  simp [rw', h]
/-- Every matrix can be eliminated. -/
theorem elm_ex {p : Int} {c : Nat} {A : List (List Int)} (hp : prm p = true) (hl : ∀ i, i < A.length → (rw' A i).length = c) (hr : ∀ i, i < A.length → ∀ j, j < c → 0 ≤ at' A i j ∧ at' A i j < p) (k : Nat) (hk : k ≤ A.length) : ∃ m P d, Elm p c (A.take k) m P d := by
  induction k with
  | zero => exact ⟨[], fun _ => 0, 1, by rw [List.take_zero]; exact Elm.start _⟩
  | succ k ih =>
    obtain ⟨m, P, d, h⟩ := ih (by omega)
    have hK := h.kept hp
    obtain ⟨r', hr'⟩ := red2_ex (r := rw' A k) hp hK.red (hl k (by omega)) (fun j hj => hr k (by omega) j hj) m.length (Nat.le_refl _)
    rw [take_one (by omega)]
    rcases fst_cases r' with ⟨q, q1, q2, q3⟩ | h0
    · rw [hr'.len] at q1
      have hne : ∀ i, i < m.length → P i ≠ q := fun i hi e => q3 (by have := hr'.zer i hi; rw [e] at this; exact this)
      obtain ⟨t, t1, t2, t3⟩ := place_ex hK.red.mono hne
      exact ⟨_, _, _, h.more (s := mkR c fun j => num r' j * inv p (num r' q) % p) (m' := mk m.length c fun i j => (at' m i j + (p - at' m i q) % p * num (mkR c fun j => num r' j * inv p (num r' q) % p) j) % p) (q := q) (t := t)
        ⟨hl k (by omega), hr', q1, q3, q2, fun j hj => mkR_at _ hj, mkR_len _ _, mk_len _ _ _, fun i hi => mk_rowLen _ hi, fun i hi j hj => mk_at _ hi hj, t1, t2, t3⟩⟩
    · exact ⟨m, P, d, h.same (hl k (by omega)) hr' (fun j hj => h0 j (by rw [hr'.len]; exact hj))⟩

theorem Rref.lo {p : Int} {n c : Nat} {R : Nat → Nat → Int} {P : Nat → Nat} (h : Rref p n c R P) : ∀ i, i < n → i ≤ P i := by
  intro i
  induction i with
  | zero => intro _; exact Nat.zero_le _
  | succ i ih => intro hi; have := ih (by omega); have := h.mono i (i + 1) (by omega) hi; omega
theorem Rref.up {p : Int} {n c : Nat} {R : Nat → Nat → Int} {P : Nat → Nat} (h : Rref p n c R P) : ∀ k i, i + k < n → P i + k ≤ P (i + k) := by
  intro k
  induction k with
  | zero => intro i _; exact Nat.le_refl _
  | succ k ih => intro i hi; have := ih i (by omega); have := h.mono (i + k) (i + (k + 1)) (by omega) hi; omega
/-- Where all of the first columns are pivots, they are in order. -/
theorem Rref.all {p : Int} {n c N : Nat} {R : Nat → Nat → Int} {P : Nat → Nat} (h : Rref p n c R P) (ha : ∀ k, k < N → ∃ i, i < n ∧ P i = k) : ∀ k, k < N → k < n ∧ P k = k := by
  intro k
  induction k using Nat.strongRecOn with
  | ind k ih =>
    intro hk
    obtain ⟨i, hi, e⟩ := ha k hk
    rcases Nat.lt_trichotomy i k with l | l | l
    · have := (ih i l (by omega)).2; omega
    · subst l; exact ⟨hi, e⟩
    · have h1 := h.mono k i l hi
      have h2 := h.lo k (by omega)
      omega
theorem Rref.free {p : Int} {n c N : Nat} {R : Nat → Nat → Int} {P : Nat → Nat} (h : Rref p n c R P) (hno : ¬ ∀ k, k < N → k < n ∧ P k = k) : ∃ k, k < N ∧ ∀ i, i < n → P i ≠ k := by
  refine Classical.byContradiction fun hc => hno (h.all fun k hk => Classical.byContradiction fun hd => hc ⟨k, hk, fun i hi e => hd ⟨i, hi, e⟩⟩)

/-- The rows vanish at nothing but 0. -/
def triv (p : Int) (n : Nat) (A : List (List Int)) : Prop := ∀ x : Nat → Int, nul p n n (at' A) x → ∀ j, j < n → x j % p = 0
theorem det_triv {p : Int} {n : Nat} {A : List (List Int)} (hp : prm p = true) (hn : A.length = n) (hl : ∀ i, i < A.length → (rw' A i).length = n) (hr : ∀ i, i < A.length → ∀ j, j < n → 0 ≤ at' A i j ∧ at' A i j < p) : detP p A ≠ 0 ↔ triv p n A := by
  have hpb := prm_bd hp
  obtain ⟨m, P, d, h⟩ := elm_ex hp hl hr A.length (Nat.le_refl _)
  rw [List.take_length] at h
  have hK := h.kept hp
  rcases h.value hp hn with ⟨h1, h2, h3⟩ | ⟨h1, h2⟩
  · refine ⟨fun _ x hx j hj => ?_, fun _ e => h.ne0 hp (by rw [← h2]; exact e)⟩
    have hR := hK.red
    have hx2 := (hK.nul x).1 (by rw [hn]; exact hx)
    rw [h1] at hR hx2
    have hu := hR.unit.2
    have := hx2 j hj
    have e : sm n (fun k => at' m j k * x k) = sm n (fun k => if k = j then x j else 0) := sm_congr fun k hk => by
      rw [hu j hj k hk]
      by_cases e : j = k
      · subst e; simp
      · rw [if_neg e, if_neg (fun q => e q.symm)]; simp
    rw [e, sm_single, if_pos hj] at this
    exact this
  · refine ⟨fun e => absurd h2 e, fun ht _ => ?_⟩
    obtain ⟨k, hk, hf⟩ := hK.red.free (N := n) (fun q => by have := (q (n - 1) (by omega)).1; omega)
    have hz := ht (kv m.length (at' m) P k) (by have := (hK.nul (kv m.length (at' m) P k)).2 (kv_nul hK.red hk); rwa [hn] at this) k hk
    rw [kv_top hK.red hf, Int.emod_eq_of_lt (by omega) (by omega)] at hz
    omega

end Go.Proofs.YtndneccgomfkdaaGreat

namespace Go.Proofs.YtndneccgomfkdaaGreat
open Go.RowKit
set_option linter.unusedVariables false

theorem bl_le4 {S : List Int} (h : S.length ≤ 4) : bl S ≤ 16 := Nat.pow_le_pow_right (by decide) h
theorem bas_isQ {p : Int} {c : Nat} {A : List (List Int)} (h : RowsX p c A) : IsBas p c A (bas p A) := by
  have hp := prm_bd h.prime
  obtain ⟨m, P, d, he⟩ := elm_ex h.prime h.len h.rng A.length (Nat.le_refl _)
  rw [List.take_length] at he
  have hb := (he.kept h.prime).bas
  have hb2 : IsBas p (rw' A 0).length A m := by rw [h.len0]; exact hb
  rw [← bas_eq (by omega) hb2]
  exact hb
theorem left_len (p : Int) (S x : List Int) : (leftM p S x).length = bl S := mk_len _ _ _
theorem left_rl {p : Int} {S x : List Int} {i : Nat} (h : i < bl S) : (rw' (leftM p S x) i).length = bl S := mk_rowLen _ h
theorem left_lst {p : Int} {S x : List Int} (hs : isSp p S = true) (h4 : S.length ≤ 4) : Lst 1 p (leftM p S x) where
  prime := (isSp_iff.1 hs).prime
  lo := by rw [left_len]; exact bl_pos S
  hi := by rw [left_len]; exact bl_le4 h4
  len i hi := by rw [left_len] at hi; rw [left_rl hi, left_rl (bl_pos S)]
  c0 i hi := by rw [left_len] at hi; rw [left_rl hi]; exact bl_pos S
  c1 i hi := by rw [left_len] at hi; rw [left_rl hi]; exact bl_le4 h4
  all i hi := by
    rw [left_len] at hi
    have hp := prm_bd (isSp_iff.1 hs).prime
    rw [List.all_eq_true]
    intro y hy
    obtain ⟨j, hj, rfl⟩ := List.getElem_of_mem hy
    have hj2 := hj
    rw [left_rl hi] at hj2
    have e : (rw' (leftM p S x) i)[j] = prodF p S x (bladeM S j) i := by
      rw [← getD_at hj]; exact mk_at _ hi hj2
    rw [e]
    exact inr_iff.2 (prodF_bd (by omega) S x _ i)
theorem one_len (S : List Int) : (mOne S).length = bl S := mkR_len _ _
noncomputable def invOk (p : Int) (S x : List Int) : Bool := solOk p (leftM p S x) (mOne S)
noncomputable def invY (p : Int) (S x : List Int) : List Int := solL p (leftM p S x) (mOne S)
/-- What solves the equation is the inverse. -/
theorem inv_is {p : Int} {S x : List Int} (hs : isSp p S = true) (h4 : S.length ≤ 4) (hok : invOk p S x = true) : isMv p S (invY p S x) = true ∧ prodM p S (invY p S x) x = mOne S := by
  have hp := prm_bd (isSp_iff.1 hs).prime
  have hL := left_lst (x := x) hs h4
  have h0 : (rw' (leftM p S x) 0).length = bl S := left_rl (bl_pos S)
  have hX := col_rows (v := mOne S) hL (by rw [one_len, left_len]) (by
    rw [List.all_eq_true]
    intro y hy
    obtain ⟨j, hj, rfl⟩ := List.getElem_of_mem hy
    have h := Mv.num (one_mv hs) j hj
    rw [getD_at hj] at h
    exact inr_iff.2 h)
  rw [h0] at hX
  obtain ⟨h1, h2, h3⟩ := sol_solves (p := p) (c := bl S) (A := leftM p S x) (v := mOne S) (by omega) (fun i hi => by rw [left_len] at hi; exact left_rl hi) (by rw [left_len]; exact bl_pos S) (by rw [one_len, left_len]) (bas_isQ hX) hok
  have hy : isMv p S (invY p S x) = true := isMv_of h2 (fun j hj => h1 j (by rw [show (invY p S x).length = bl S from h2] at hj; exact hj))
  have hxy : prodM p S x (invY p S x) = mOne S := by
    unfold prodM mOne
    apply mkR_congr
    intro i hi
    have h := h3 i (by rw [left_len]; exact hi)
    have e : sm (bl S) (fun j => at' (leftM p S x) i j * (solL p (leftM p S x) (mOne S)).getD j 0) = sm (bl S) (fun j => prodF p S x (bladeM S j) i * (invY p S x).getD j 0) := sm_congr fun j hj => by
      rw [show at' (leftM p S x) i j = prodF p S x (bladeM S j) i from mk_at _ hi hj]; rfl
    rw [e, left_prod hi] at h
    have h5 := Mv.num (one_mv hs) i (by rw [one_len]; exact hi)
    rw [Int.emod_eq_of_lt h5.1 h5.2] at h
    rw [h]
    exact mkR_at _ hi
  exact ⟨hy, inv_both hs hy hxy⟩
noncomputable def invC (p : Int) (S x : List Int) : Int := if codeMv p S [x] = 0 then (if 4 < S.length then 3 else if invOk p S x = true then 0 else 5) else codeMv p S [x]
noncomputable def invV (p : Int) (S x : List Int) : List Int := if invC p S x = 0 then invY p S x else []
theorem inv_yes {p : Int} {S x : List Int} (h : codeMv p S [x] = 0) (h4 : S.length ≤ 4) (hok : invOk p S x = true) : invC p S x = 0 ∧ invV p S x = invY p S x := by
  have e : invC p S x = 0 := by unfold invC; rw [if_pos h, if_neg (by omega), if_pos hok]
  exact ⟨e, by unfold invV; rw [if_pos e]⟩
theorem inv_not {p : Int} {S x : List Int} (h : codeMv p S [x] = 0) (h4 : S.length ≤ 4) (hok : invOk p S x = false) : invC p S x = 5 ∧ invV p S x = [] := by
  have e : invC p S x = 5 := by unfold invC; rw [if_pos h, if_neg (by omega), if_neg (by simp [hok])]
  exact ⟨e, by unfold invV; rw [e]; rfl⟩
theorem inv_far {p : Int} {S x : List Int} (h : codeMv p S [x] = 0) (h4 : 4 < S.length) : invC p S x = 3 ∧ invV p S x = [] := by
  have e : invC p S x = 3 := by unfold invC; rw [if_pos h, if_pos h4]
  exact ⟨e, by unfold invV; rw [e]; rfl⟩
theorem inv_code {p : Int} {S x : List Int} (h : ¬ codeMv p S [x] = 0) : invC p S x = codeMv p S [x] ∧ invV p S x = [] := by
  have e : invC p S x = codeMv p S [x] := if_neg h
  exact ⟨e, by unfold invV; rw [if_neg (by rw [e]; exact h)]⟩
theorem invV_size (p : Int) (S x : List Int) : (invV p S x).length ≤ 1048576 := by
  unfold invV; split
  · rename_i h
    by_cases h0 : codeMv p S [x] = 0
    · have h1 := codeMv_zero.1 h0
      by_cases h4 : 4 < S.length
      · have := (inv_far h0 h4).1; omega
      · cases hok : invOk p S x with
        | false => have := (inv_not h0 (by omega) hok).1; omega
        | true =>
          have := Mv.len (inv_is h1.1 (by omega) hok).1
          have := bl_le (isSp_iff.1 h1.1).hi
          omega
    · have := (inv_code h0).1; omega
  · simp

def InvRet (p : Int) (S x : List Int) (w : World) (e : Ending) (w' : World) : Prop :=
  if invOk p S x = true then ∃ r k, e = .returned (.tuple #[.slice r (invY p S x).length k, .bool true]) ∧ RowIn w.heap.size w'.heap.size w' r (invY p S x) ∧ Below w.heap.size w w'
  else ∃ k, e = .returned (.tuple #[.slice none 0 k, .bool false]) ∧ Below w.heap.size w w'
theorem one_allQ {p : Int} {S : List Int} (hs : isSp p S = true) : (mOne S).all (inr p) = true := by
  rw [List.all_eq_true]
  intro y hy
  obtain ⟨j, hj, rfl⟩ := List.getElem_of_mem hy
  have h := Mv.num (one_mv hs) j hj
  rw [getD_at hj] at h
  exact inr_iff.2 h

theorem solve_n (p : Int) (a : Option Addr) (A : List (List Int)) (ca lo tp : Nat) (av : Option Addr) (v : List Int) (cv lov tpv : Nat) (w : World) (hm : MatIn lo tp w a A) (ht : tp ≤ w.heap.size) (hv : RowIn lov tpv w av v) (tv : tpv ≤ w.heap.size) (hA : Lst 1 p A) (hvl : v.length = A.length) (hvn : v.all (inr p) = true) :
    Calls Tryz.prog 80 #[.int .i64 p, .slice a A.length ca, .slice av v.length cv] w (SolRet p A v w) := l02Solve_any p a A ca lo tp av v cv lov tpv w hm ht hv tv hA hvl hvn

set_option maxRecDepth 100000 in
set_option maxHeartbeats 3200000 in
theorem l04Inverse_any (p : Int) (aS : Option Addr) (S : List Int) (cS loS tpS : Nat) (ax : Option Addr) (x : List Int) (cx lox tpx : Nat) (w : World) (hs : isSp p S = true) (h4 : S.length ≤ 4) (hS : RowIn loS tpS w aS S) (tS : tpS ≤ w.heap.size) (hx : RowIn lox tpx w ax x) (tx : tpx ≤ w.heap.size) (mx : isMv p S x = true) :
    Calls Tryz.prog 40 #[.agg #[.int .i64 p, .slice aS S.length cS], .slice ax x.length cx] w (InvRet p S x w) := by
  have HS := Lib.hid hS
  have HX := Lib.hid hx
  have HI := Lib.hid hs
  have HMX := Lib.hid mx
  have h6 := (isSp_iff.1 hs).hi
  have hbl := bl_le h6
  have HLST := Lib.hid (left_lst (x := x) hs h4)
  have HOL : Hid ((mOne S).length = (leftM p S x).length) := by show _ = _; rw [one_len, left_len]
  have HOA := Lib.hid (one_allQ hs)
  have HB0 := Lib.hid (below_alloc w (.cells #[.int .i64 p, .slice aS S.length cS] 26))
  have k0 := nw0 w (.int .i64 p) (.slice aS S.length cS) 26
  have k1 := nw1 w (.int .i64 p) (.slice aS S.length cS) 26
  clear hS hx hs mx
  go_enter Tryz.func40, Tryz.ntmps40
  go_upto_region 1 with fail
  obtain ⟨w1, hw1⟩ : ∃ z, z = w.alloc (.cells #[.int .i64 p, .slice aS S.length cS] 26) := ⟨_, rfl⟩
  rw [← hw1] at HB0 k0 k1 ⊢
  have hw0 : w.heap.size < w1.heap.size := by rw [hw1]; simp
  clear hw1
  have hs1 : Hid (w1.drew.cell? ⟨w.heap.size, 0, none⟩ = some (.int .i64 p) ∧ w1.drew.cell? ⟨w.heap.size, 1, none⟩ = some (.slice aS S.length cS)) := ⟨k0, k1⟩
  have HBD : Hid (Below w.heap.size w w1.drew) := HB0.out.drew
  have hd0 : w.heap.size < w1.drew.heap.size := hw0
  have tSd : tpS ≤ w1.drew.heap.size := by show tpS ≤ w1.heap.size; omega
  have txd : tpx ≤ w1.drew.heap.size := by show tpx ≤ w1.heap.size; omega
  go_cut [6, 7] (fun s6 s7 wx => ∃ (r : Option Addr) (k : Nat), s6 = .slice r (invY p S x).length k ∧ s7 = .bool (invOk p S x) ∧ Hid (RowIn w.heap.size wx.heap.size wx r (invY p S x) ∧ Below w.heap.size w wx ∧ wx.cell? ⟨w.heap.size, 0, none⟩ = some (.int .i64 p) ∧ wx.cell? ⟨w.heap.size, 1, none⟩ = some (.slice aS S.length cS) ∧ w.heap.size < wx.heap.size))
  case first =>
    go_region_held3 (fun w' => w'.cell? ⟨w.heap.size, 0, none⟩ = some (.int .i64 p) ∧ w'.cell? ⟨w.heap.size, 1, none⟩ = some (.slice aS S.length cS)) (first | go_keep | exact SS5.out | exact SS6.out | exact SS7.out) (first | (go_at_call 81; (with_reducible refine (l04Left_any p aS S cS loS tpS ax x cx lox tpx w1.drew HI.out (HS.out.below HBD.out tS) tSd (HX.out.below HBD.out tx) txd HMX.out).mono ?_); rintro e w5 ⟨rL, cL, rfl, o5, b5⟩; have H5 := Lib.hid (o5); have B5 := Lib.hid b5; have z5 := b5.size; have SS5 := Lib.hid (And.intro ((b5.cell (p := ⟨w.heap.size, 0, none⟩) hd0).trans hs1.out.1) ((b5.cell (p := ⟨w.heap.size, 1, none⟩) hd0).trans hs1.out.2)); have HB5 := Lib.hid (HBD.out.trans (b5.mono HBD.out.size)); have tS5 := Nat.le_trans tSd z5; have tx5 := Nat.le_trans txd z5; have hd5 := Nat.lt_of_lt_of_le hd0 z5; clear o5 b5) | (go_at_call 82; (with_reducible refine (l04One_any p aS S cS w1.drew h6).mono ?_); rintro e w5 ⟨r1, c1, rfl, o5, b5⟩; have H5 := Lib.hid (o5.row); have B5 := Lib.hid b5; have z5 := b5.size; have SS5 := Lib.hid (And.intro ((b5.cell (p := ⟨w.heap.size, 0, none⟩) hd0).trans hs1.out.1) ((b5.cell (p := ⟨w.heap.size, 1, none⟩) hd0).trans hs1.out.2)); have HB5 := Lib.hid (HBD.out.trans (b5.mono HBD.out.size)); have tS5 := Nat.le_trans tSd z5; have tx5 := Nat.le_trans txd z5; have hd5 := Nat.lt_of_lt_of_le hd0 z5; clear o5 b5) | (go_at_call 81; (with_reducible refine (l04Left_any p aS S cS loS tpS ax x cx lox tpx w5 HI.out (HS.out.below HB5.out tS) tS5 (HX.out.below HB5.out tx) tx5 HMX.out).mono ?_); rintro e w6 ⟨rL, cL, rfl, o6, b6⟩; have B6 := Lib.hid b6; have z6 := b6.size; have HLM := Lib.hid ((o6).mono HB5.out.size (Nat.le_refl _)); have HOM := Lib.hid ((H5.out.below b6 (Nat.le_refl _)).mono HBD.out.size z6); have SS6 := Lib.hid (And.intro ((b6.cell (p := ⟨w.heap.size, 0, none⟩) hd5).trans SS5.out.1) ((b6.cell (p := ⟨w.heap.size, 1, none⟩) hd5).trans SS5.out.2)); have HB6 := Lib.hid (HB5.out.trans (b6.mono HB5.out.size)); have hd6 := Nat.lt_of_lt_of_le hd5 z6; clear o6 b6) | (go_at_call 82; (with_reducible refine (l04One_any p aS S cS w5 h6).mono ?_); rintro e w6 ⟨r1, c1, rfl, o6, b6⟩; have B6 := Lib.hid b6; have z6 := b6.size; have HOM := Lib.hid ((o6.row).mono HB5.out.size (Nat.le_refl _)); have HLM := Lib.hid ((H5.out.below b6 (Nat.le_refl _)).mono HBD.out.size z6); have SS6 := Lib.hid (And.intro ((b6.cell (p := ⟨w.heap.size, 0, none⟩) hd5).trans SS5.out.1) ((b6.cell (p := ⟨w.heap.size, 1, none⟩) hd5).trans SS5.out.2)); have HB6 := Lib.hid (HB5.out.trans (b6.mono HB5.out.size)); have hd6 := Nat.lt_of_lt_of_le hd5 z6; clear o6 b6) | (go_at_call 80; (with_reducible refine (solve_n p rL (leftM p S x) cL w.heap.size w6.heap.size r1 (mOne S) c1 w.heap.size w6.heap.size w6 HLM.out (Nat.le_refl _) HOM.out (Nat.le_refl _) HLST.out HOL.out HOA.out).mono ?_); rintro e w7 ⟨r7, c7, rfl, o7, b7⟩; have O7 := Lib.hid o7; have B7 := Lib.hid b7; have z7 := b7.size; have SS7 := Lib.hid (And.intro ((b7.cell (p := ⟨w.heap.size, 0, none⟩) hd6).trans SS6.out.1) ((b7.cell (p := ⟨w.heap.size, 1, none⟩) hd6).trans SS6.out.2)); clear o7 b7))
    all_goals (go_wp2_with fail; go_meet; exact ⟨r7, c7, rfl, rfl, Lib.hid ⟨O7.out.mono HB6.out.size (Nat.le_refl _), HB6.out.trans (B7.out.mono HB6.out.size), SS7.out.1, SS7.out.2, Nat.lt_of_lt_of_le hd6 z7⟩⟩)
  case rest =>
    obtain ⟨r, k, rfl, rfl, HC⟩ := hcut
    rename World => wc
    have HBC := Lib.hid HC.out.2.1
    have hk0 := HC.out.2.2.1
    have hk1 := HC.out.2.2.2.1
    have hlc := HC.out.2.2.2.2
    have HRY := Lib.hid HC.out.1
    by_cases hok : invOk p S x = true
    · have HOK := Lib.hid hok
      have HIN := Lib.hid (inv_is HI.out h4 hok)
      have HR : Hid (∀ e w', (∃ r k, e = .returned (.tuple #[.slice r (invY p S x).length k, .bool true]) ∧ RowIn w.heap.size w'.heap.size w' r (invY p S x) ∧ Below w.heap.size w w') → InvRet p S x w e w') := fun e w' h => by unfold InvRet; rw [if_pos hok]; exact h
      rw [hok]
      have HEQ : Hid (decide (prodM p S (invY p S x) x = mOne S) = true) := decide_eq_true HIN.out.2
      have hsc : Hid (wc.drew.cell? ⟨w.heap.size, 0, none⟩ = some (.int .i64 p) ∧ wc.drew.cell? ⟨w.heap.size, 1, none⟩ = some (.slice aS S.length cS)) := ⟨hk0, hk1⟩
      have HCD : Hid (Below w.heap.size w wc.drew) := HBC.out.drew
      have hdc : w.heap.size < wc.drew.heap.size := hlc
      have tSc : tpS ≤ wc.drew.heap.size := Nat.le_trans tS HCD.out.size
      have txc : tpx ≤ wc.drew.heap.size := Nat.le_trans tx HCD.out.size
      have HRD : Hid (RowIn w.heap.size wc.drew.heap.size wc.drew r (invY p S x)) := HRY.out
      have HPL : Hid ((prodM p S (invY p S x) x).length ≤ 1048576) := by show _ ≤ _; rw [prodM_len]; omega
      clear hok hk0 hk1 hlc
      go_wp2
      go_region_held3 (fun w' => w'.cell? ⟨w.heap.size, 0, none⟩ = some (.int .i64 p) ∧ w'.cell? ⟨w.heap.size, 1, none⟩ = some (.slice aS S.length cS)) (first | exact hsc.out | go_keep | exact SS5.out | exact SS6.out | exact SS7.out) (first | (go_at_call 84; (with_reducible refine (times_own p aS S cS loS tpS r (invY p S x) k w.heap.size wc.drew.heap.size ax x cx lox tpx wc.drew HI.out (HS.out.below HCD.out tS) tSc HRD.out (Nat.le_refl _) HIN.out.1 (HX.out.below HCD.out tx) txc HMX.out).mono ?_); rintro e w5 ⟨rL, cL, rfl, o5, b5⟩; have H5 := Lib.hid o5.row; have B5 := Lib.hid b5; have z5 := b5.size; have SS5 := Lib.hid (And.intro ((b5.cell (p := ⟨w.heap.size, 0, none⟩) hdc).trans hsc.out.1) ((b5.cell (p := ⟨w.heap.size, 1, none⟩) hdc).trans hsc.out.2)); have HB5 := Lib.hid (HCD.out.trans (b5.mono HCD.out.size)); have tS5 := Nat.le_trans tSc z5; have tx5 := Nat.le_trans txc z5; have hd5 := Nat.lt_of_lt_of_le hdc z5; clear o5 b5) | (go_at_call 82; (with_reducible refine (l04One_any p aS S cS wc.drew h6).mono ?_); rintro e w5 ⟨r1, c1, rfl, o5, b5⟩; have H5 := Lib.hid o5.row; have B5 := Lib.hid b5; have z5 := b5.size; have SS5 := Lib.hid (And.intro ((b5.cell (p := ⟨w.heap.size, 0, none⟩) hdc).trans hsc.out.1) ((b5.cell (p := ⟨w.heap.size, 1, none⟩) hdc).trans hsc.out.2)); have HB5 := Lib.hid (HCD.out.trans (b5.mono HCD.out.size)); have tS5 := Nat.le_trans tSc z5; have tx5 := Nat.le_trans txc z5; have hd5 := Nat.lt_of_lt_of_le hdc z5; clear o5 b5) | (go_at_call 84; (with_reducible refine (times_own p aS S cS loS tpS r (invY p S x) k w.heap.size wc.drew.heap.size ax x cx lox tpx w5 HI.out (HS.out.below HB5.out tS) tS5 (HRD.out.below B5.out (Nat.le_refl _)) z5 HIN.out.1 (HX.out.below HB5.out tx) tx5 HMX.out).mono ?_); rintro e w6 ⟨rL, cL, rfl, o6, b6⟩; have B6 := Lib.hid b6; have z6 := b6.size; have HLM := Lib.hid (o6.row.mono HB5.out.size (Nat.le_refl _)); have HOM := Lib.hid ((H5.out.below b6 (Nat.le_refl _)).mono HCD.out.size z6); have SS6 := Lib.hid (And.intro ((b6.cell (p := ⟨w.heap.size, 0, none⟩) hd5).trans SS5.out.1) ((b6.cell (p := ⟨w.heap.size, 1, none⟩) hd5).trans SS5.out.2)); have HB6 := Lib.hid (HB5.out.trans (b6.mono HB5.out.size)); have hd6 := Nat.lt_of_lt_of_le hd5 z6; clear o6 b6) | (go_at_call 82; (with_reducible refine (l04One_any p aS S cS w5 h6).mono ?_); rintro e w6 ⟨r1, c1, rfl, o6, b6⟩; have B6 := Lib.hid b6; have z6 := b6.size; have HOM := Lib.hid (o6.row.mono HB5.out.size (Nat.le_refl _)); have HLM := Lib.hid ((H5.out.below b6 (Nat.le_refl _)).mono HCD.out.size z6); have SS6 := Lib.hid (And.intro ((b6.cell (p := ⟨w.heap.size, 0, none⟩) hd5).trans SS5.out.1) ((b6.cell (p := ⟨w.heap.size, 1, none⟩) hd5).trans SS5.out.2)); have HB6 := Lib.hid (HB5.out.trans (b6.mono HB5.out.size)); have hd6 := Nat.lt_of_lt_of_le hd5 z6; clear o6 b6) | (go_at_call 83; (with_reducible refine (l01Same_any rL r1 (prodM p S (invY p S x) x) (mOne S) cL c1 w.heap.size w6.heap.size w.heap.size w6.heap.size w6 HLM.out HOM.out HPL.out).mono ?_); rintro e w7 ⟨rfl, q7⟩; rw [HEQ.out]; have Q7 := Lib.hid q7; have SS7 := Lib.hid (And.intro ((q7.cell ⟨w.heap.size, 0, none⟩).trans SS6.out.1) ((q7.cell ⟨w.heap.size, 1, none⟩).trans SS6.out.2)); clear q7))
      all_goals
        go_wp2
        go_ret2
        refine HR.out _ _ ⟨r, k, rfl, ?_, HB6.out.trans (Q7.out.below _)⟩
        exact ((HRD.out.below (B5.out.trans (B6.out.mono z5)) (Nat.le_refl _)).mono (Nat.le_refl _) (by rw [Q7.out.size]; omega)).same (Q7.out.same _ _)
    · have hok' : invOk p S x = false := by simpa using hok
      have HR : Hid (∀ e w', (∃ k, e = .returned (.tuple #[.slice none 0 k, .bool false]) ∧ Below w.heap.size w w') → InvRet p S x w e w') := fun e w' h => by unfold InvRet; rw [if_neg hok]; exact h
      rw [hok']
      clear hok hok'
      go_wp2
      go_quiet (fail)
      go_wp2
      go_ret2
      exact HR.out _ _ ⟨0, rfl, HBC.out.trans (((Quiet.refl wc).next _).below _)⟩

end Go.Proofs.YtndneccgomfkdaaGreat
