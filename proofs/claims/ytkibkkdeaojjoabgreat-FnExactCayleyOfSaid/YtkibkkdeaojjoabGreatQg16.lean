/-
  Inverses: elimination of a square matrix beside the unit matrix, and when it tells that there is an inverse. No Go in sight.
  No conditions.
-/
import Derived.Test.YtkibkkdeaojjoabGreatQg13
import Derived.Test.YtkibkkdeaojjoabGreatQg15
namespace Go.Proofs.YtkibkkdeaojjoabGreat
set_option linter.unusedVariables false

theorem mul0 {p a b : Int} (hp : prm p = true) (a0 : 0 ≤ a) (a1 : a < p) (b0 : 0 ≤ b) (b1 : b < p) : a * b % p = 0 ↔ a = 0 ∨ b = 0 := by
  have := every2_at (Q := fun p a b => decide (a * b % p = 0 ↔ a = 0 ∨ b = 0)) (by decide +kernel) hp a0 a1 b0 b1
  exact of_decide_eq_true this
theorem Elm.ne0 {p : Int} {c : Nat} {A m : List (List Int)} {P : Nat → Nat} {d : Int} (hp : prm p = true) (h : Elm p c A m P d) : d ≠ 0 := by
  have hpb := prm_bd hp
  induction h with
  | start P => decide
  | same _ _ _ _ ih => exact ih
  | @more A m m' P d r r' s q t h k ih =>
    have hd := h.det hp
    have hx := k.red.rng q k.qc
    have hx0 := k.q0
    have hs : 0 ≤ esgn p m.length t (num r' q) ∧ esgn p m.length t (num r' q) < p ∧ esgn p m.length t (num r' q) ≠ 0 := by
      unfold esgn
      split
      · exact ⟨hx.1, hx.2, hx0⟩
      · have e : -num r' q % p = p - num r' q := by
          have e1 : (p - num r' q) % p = -num r' q % p := by simp
          rw [← e1, Int.emod_eq_of_lt (by omega) (by omega)]
        rw [e]
        exact ⟨by omega, by omega, by omega⟩
    intro e
    rcases (mul0 hp hd.1 hd.2 hs.1 hs.2.1).1 e with h1 | h1
    · exact ih h1
    · exact hs.2.2 h1

theorem red2_ex {p : Int} {c : Nat} {m : List (List Int)} {P : Nat → Nat} {r : List Int} (hp : prm p = true) (hR : Rref p m.length c (at' m) P) (hl : r.length = c) (hr : ∀ j, j < c → 0 ≤ num r j ∧ num r j < p) (k : Nat) (hk : k ≤ m.length) : ∃ r', Red2 p c m P r r' k := by
  induction k with
  | zero => exact ⟨r, Red2.start hl hr⟩
  | succ k ih =>
    obtain ⟨r', h⟩ := ih (by omega)
    exact ⟨mkR c fun j => (num r' j + (p - num r' (P k)) % p * at' m k j) % p, h.next hp hR (by omega) (mkR_len _ _) (fun j hj => mkR_at _ hj)⟩
theorem place_ex {n q : Nat} {P : Nat → Nat} (mono : ∀ i i', i < i' → i' < n → P i < P i') (hne : ∀ i, i < n → P i ≠ q) : ∃ t, t ≤ n ∧ (∀ i, i < t → P i < q) ∧ ∀ i, t ≤ i → i < n → q < P i := by
  induction n with
  | zero => exact ⟨0, Nat.le_refl _, fun i hi => by omega, fun i _ hi => by omega⟩
  | succ n ih =>
    obtain ⟨t, h1, h2, h3⟩ := ih (fun i i' a b => mono i i' a (by omega)) (fun i hi => hne i (by omega))
    have := hne n (by omega)
    rcases Nat.lt_or_ge (P n) q with h | h
    · refine ⟨n + 1, Nat.le_refl _, fun i hi => ?_, fun i a b => by omega⟩
      by_cases e : i = n
      · subst e; exact h
      · have := mono i n (by omega) (by omega); omega
    · refine ⟨t, by omega, h2, fun i a b => ?_⟩
      by_cases e : i = n
      · subst e; omega
      · exact h3 i a (by omega)
theorem take_one {m : List (List Int)} {i : Nat} (h : i < m.length) : m.take (i + 1) = m.take i ++ [rw' m i] := by
  rw [List.take_succ_eq_append_getElem h]
  congr 2
  simp [rw', h]
/-- Every matrix can be eliminated. -/
theorem elm_ex {p : Int} {c : Nat} {A : List (List Int)} (hp : prm p = true) (hl : ∀ i, i < A.length → (rw' A i).length = c) (hr : ∀ i, i < A.length → ∀ j, j < c → 0 ≤ at' A i j ∧ at' A i j < p) (k : Nat) (hk : k ≤ A.length) : ∃ m P d, Elm p c (A.take k) m P d := by
  induction k with
  | zero => exact ⟨[], fun _ => 0, 1, by rw [List.take_zero]; exact Elm.start _⟩
  | succ k ih =>
    obtain ⟨m, P, d, h⟩ := ih (by omega)
    have hK := h.kept hp
    obtain ⟨r', hr'⟩ := red2_ex (r := rw' A k) hp hK.red (hl k (by omega)) (fun j hj => hr k (by omega) j hj) m.length (Nat.le_refl _)
    rw [take_one (by omega)]
    rcases fst_cases r' with ⟨q, q1, q2, q3⟩ | h0
    · rw [hr'.len] at q1
      have hne : ∀ i, i < m.length → P i ≠ q := fun i hi e => q3 (by have := hr'.zer i hi; rw [e] at this; exact this)
      obtain ⟨t, t1, t2, t3⟩ := place_ex hK.red.mono hne
      exact ⟨_, _, _, h.more (s := mkR c fun j => num r' j * inv p (num r' q) % p) (m' := mk m.length c fun i j => (at' m i j + (p - at' m i q) % p * num (mkR c fun j => num r' j * inv p (num r' q) % p) j) % p) (q := q) (t := t)
        ⟨hl k (by omega), hr', q1, q3, q2, fun j hj => mkR_at _ hj, mkR_len _ _, mk_len _ _ _, fun i hi => mk_rowLen _ hi, fun i hi j hj => mk_at _ hi hj, t1, t2, t3⟩⟩
    · exact ⟨m, P, d, h.same (hl k (by omega)) hr' (fun j hj => h0 j (by rw [hr'.len]; exact hj))⟩

theorem Rref.lo {p : Int} {n c : Nat} {R : Nat → Nat → Int} {P : Nat → Nat} (h : Rref p n c R P) : ∀ i, i < n → i ≤ P i := by
  intro i
  induction i with
  | zero => intro _; exact Nat.zero_le _
  | succ i ih => intro hi; have := ih (by omega); have := h.mono i (i + 1) (by omega) hi; omega
theorem Rref.up {p : Int} {n c : Nat} {R : Nat → Nat → Int} {P : Nat → Nat} (h : Rref p n c R P) : ∀ k i, i + k < n → P i + k ≤ P (i + k) := by
  intro k
  induction k with
  | zero => intro i _; exact Nat.le_refl _
  | succ k ih => intro i hi; have := ih i (by omega); have := h.mono (i + k) (i + (k + 1)) (by omega) hi; omega
/-- Where all of the first columns are pivots, they are in order. -/
theorem Rref.all {p : Int} {n c N : Nat} {R : Nat → Nat → Int} {P : Nat → Nat} (h : Rref p n c R P) (ha : ∀ k, k < N → ∃ i, i < n ∧ P i = k) : ∀ k, k < N → k < n ∧ P k = k := by
  intro k
  induction k using Nat.strongRecOn with
  | ind k ih =>
    intro hk
    obtain ⟨i, hi, e⟩ := ha k hk
    rcases Nat.lt_trichotomy i k with l | l | l
    · have := (ih i l (by omega)).2; omega
    · subst l; exact ⟨hi, e⟩
    · have h1 := h.mono k i l hi
      have h2 := h.lo k (by omega)
      omega
theorem Rref.free {p : Int} {n c N : Nat} {R : Nat → Nat → Int} {P : Nat → Nat} (h : Rref p n c R P) (hno : ¬ ∀ k, k < N → k < n ∧ P k = k) : ∃ k, k < N ∧ ∀ i, i < n → P i ≠ k := by
  refine Classical.byContradiction fun hc => hno (h.all fun k hk => Classical.byContradiction fun hd => hc ⟨k, hk, fun i hi e => hd ⟨i, hi, e⟩⟩)

theorem sm_split (n k : Nat) (f : Nat → Int) : sm (n + k) f = sm n f + sm k fun j => f (n + j) := by
  induction k with
  | zero => simp [sm]
  | succ k ih =>
    show sm (n + k) f + f (n + k) = _
    rw [ih]
    simp only [sm]
    omega
/-- The rows vanish at nothing but 0. -/
def triv (p : Int) (n : Nat) (A : List (List Int)) : Prop := ∀ x : Nat → Int, nul p n n (at' A) x → ∀ j, j < n → x j % p = 0
theorem det_triv {p : Int} {n : Nat} {A : List (List Int)} (hp : prm p = true) (hn : A.length = n) (hl : ∀ i, i < A.length → (rw' A i).length = n) (hr : ∀ i, i < A.length → ∀ j, j < n → 0 ≤ at' A i j ∧ at' A i j < p) : detP p A ≠ 0 ↔ triv p n A := by
  have hpb := prm_bd hp
  obtain ⟨m, P, d, h⟩ := elm_ex hp hl hr A.length (Nat.le_refl _)
  rw [List.take_length] at h
  have hK := h.kept hp
  rcases h.value hp hn with ⟨h1, h2, h3⟩ | ⟨h1, h2⟩
  · refine ⟨fun _ x hx j hj => ?_, fun _ e => h.ne0 hp (by rw [← h2]; exact e)⟩
    have hR := hK.red
    have hx2 := (hK.nul x).1 (by rw [hn]; exact hx)
    rw [h1] at hR hx2
    have hu := hR.unit.2
    have := hx2 j hj
    have e : sm n (fun k => at' m j k * x k) = sm n (fun k => if k = j then x j else 0) := sm_congr fun k hk => by
      rw [hu j hj k hk]
      by_cases e : j = k
      · subst e; simp
      · rw [if_neg e, if_neg (fun q => e q.symm)]; simp
    rw [e, sm_single, if_pos hj] at this
    exact this
  · refine ⟨fun e => absurd h2 e, fun ht _ => ?_⟩
    obtain ⟨k, hk, hf⟩ := hK.red.free (N := n) (fun q => by have := (q (n - 1) (by omega)).1; omega)
    have hz := ht (kv m.length (at' m) P k) (by have := (hK.nul (kv m.length (at' m) P k)).2 (kv_nul hK.red hk); rwa [hn] at this) k hk
    rw [kv_top hK.red hf, Int.emod_eq_of_lt (by omega) (by omega)] at hz
    omega

/-- Beside the unit matrix no row is taken in vain. -/
theorem elm_beside {p : Int} {n : Nat} {A m : List (List Int)} {P : Nat → Nat} {d : Int} (hp : prm p = true) (h : Elm p (n + n) A m P d) : A.length ≤ n → (∀ i, i < A.length → ∀ j, j < n → at' A i (n + j) = if i = j then 1 else 0) →
    m.length = A.length ∧ ∀ i, i < m.length → ∀ j, A.length ≤ j → j < n → at' m i (n + j) = 0 := by
  have hpb := prm_bd hp
  induction h with
  | start P => exact fun _ _ => ⟨rfl, fun i hi => by simp at hi⟩
  | @same A m P d r r' h hl hr h0 ih =>
    intro hle hU
    rw [List.length_append] at hle
    have hle' : A.length + 1 ≤ n := hle
    obtain ⟨e, z⟩ := ih (by omega) (fun i hi j hj => by have := hU i (by rw [List.length_append]; omega) j hj; rwa [at_append_old hi] at this)
    exfalso
    obtain ⟨K, hKK⟩ := hr.lin
    have h1 := hKK (n + A.length) (by omega)
    have e1 : sm m.length (fun i => K i * at' m i (n + A.length)) = sm m.length (fun _ => 0) := sm_congr fun i hi => by rw [z i hi A.length (Nat.le_refl _) (by omega), Int.mul_zero]
    have e2 : num r (n + A.length) = 1 := by
      have := hU A.length (by rw [List.length_append]; simp) A.length (by omega)
      rwa [at_append_new, if_pos rfl] at this
    rw [h0 _ (by omega), e1, sm_zero, e2] at h1
    rw [Int.add_zero, Int.emod_eq_of_lt (a := 1) (by omega) (by omega)] at h1
    simp at h1
  | @more A m m' P d r r' s q t h k ih =>
    intro hle hU
    rw [List.length_append] at hle
    have hle' : A.length + 1 ≤ n := hle
    obtain ⟨e, z⟩ := ih (by omega) (fun i hi j hj => by have := hU i (by rw [List.length_append]; omega) j hj; rwa [at_append_old hi] at this)
    have htm : t ≤ m'.length := by rw [k.ml]; exact k.tn
    have hlen : (ins _ m' t s).length = m.length + 1 := by rw [ins_len _ htm, k.ml]
    refine ⟨by rw [hlen, List.length_append, e]; rfl, fun i hi j hj hjn => ?_⟩
    rw [List.length_append] at hj
    have hj' : A.length + 1 ≤ j := hj
    obtain ⟨K, hKK⟩ := k.red.lin
    have h1 := hKK (n + j) (by omega)
    have e1 : sm m.length (fun i => K i * at' m i (n + j)) = sm m.length (fun _ => 0) := sm_congr fun i hi => by rw [z i hi j (by omega) hjn, Int.mul_zero]
    have e2 : num r (n + j) = 0 := by
      have := hU A.length (by rw [List.length_append]; simp) j hjn
      rwa [at_append_new, if_neg (by omega)] at this
    rw [e1, sm_zero, e2] at h1
    have rb := k.red.rng (n + j) (by omega)
    have r0 : num r' (n + j) = 0 := by
      rw [Int.emod_eq_of_lt rb.1 rb.2] at h1
      simpa using h1
    have s0 : num s (n + j) = 0 := by rw [k.ss _ (by omega), r0]; simp
    rw [hlen] at hi
    by_cases ei : i = t
    · subst ei
      rw [at_ins_new s htm]; exact s0
    · rw [at_ins s htm ei, k.mr _ (old_lt hi ei k.tn) _ (by omega), s0, z _ (old_lt hi ei k.tn) j (by omega) hjn]
      simp

theorem one_at' {n i j : Nat} (hi : i < n) (hj : j < n) : at' (oneM n) i j = if i = j then 1 else 0 := mk_at _ hi hj
theorem one_rl {n i : Nat} (hi : i < n) : (rw' (oneM n) i).length = n := mk_rowLen _ hi
theorem one_rows {p : Int} {A : List (List Int)} (h : Lst 1 p A) (hq : A.length = (rw' A 0).length) : RowsX p (A.length + A.length) (bes A (oneM A.length)) := by
  have hpb := prm_bd h.prime
  have h1 := bes_rows (O := oneM A.length) (d := A.length) h (fun i hi => one_rl hi) (by have := h.hi; omega) (fun i hi j hj => by rw [one_at' hi hj]; split <;> omega)
  rwa [← hq] at h1
theorem bes_right {A : List (List Int)} {n : Nat} (hn : A.length = n) (hl : ∀ i, i < A.length → (rw' A i).length = n) : ∀ i, i < (bes A (oneM n)).length → ∀ j, j < n → at' (bes A (oneM n)) i (n + j) = if i = j then 1 else 0 := fun i hi j hj => by
  rw [bes_len] at hi
  rw [bes_at hi (hl i hi), if_neg (by omega), one_at' (by omega) (by omega)]
  by_cases e : i = j
  · rw [if_pos e, if_pos (by omega)]
  · rw [if_neg e, if_neg (by omega)]
/-- Whether the pivots are the first columns. -/
theorem inv_iff_det {p : Int} {n : Nat} {A B : List (List Int)} (hp : prm p = true) (hn : A.length = n) (h0 : 0 < n) (hl : ∀ i, i < A.length → (rw' A i).length = n) (hr : ∀ i, i < A.length → ∀ j, j < n → 0 ≤ at' A i j ∧ at' A i j < p)
    (hB : IsBas p (n + n) (bes A (oneM n)) B) (hBl : B.length = n) : pvs B (n - 1) = n - 1 ↔ detP p A ≠ 0 := by
  have hpb := prm_bd hp
  have hR := hB.pivs
  rw [hBl] at hR
  rw [det_triv hp hn hl hr]
  have left : ∀ z : Nat → Int, (∀ j, n ≤ j → z j = 0) → (nul p (bes A (oneM n)).length (n + n) (at' (bes A (oneM n))) z ↔ nul p n n (at' A) z) := fun z hz => by
    rw [bes_len, hn]
    have e : ∀ i, i < n → sm (n + n) (fun j => at' (bes A (oneM n)) i j * z j) = sm n (fun j => at' A i j * z j) := fun i hi => by
      rw [sm_split]
      have e1 : sm n (fun j => at' (bes A (oneM n)) i (n + j) * z (n + j)) = sm n (fun _ => 0) := sm_congr fun j hj => by rw [hz (n + j) (by omega), Int.mul_zero]
      rw [e1, sm_zero, Int.add_zero]
      exact sm_congr fun j hj => by rw [bes_at (by omega) (hl i (by omega)), if_pos hj]
    constructor
    · intro h i hi; have := h i hi; rwa [e i hi] at this
    · intro h i hi; rw [e i hi]; exact h i hi
  constructor
  · intro hP x hx j hj
    have hid : ∀ i, i < n → pvs B i = i := fun i hi => by
      have h1 := hR.lo i hi
      have h2 := hR.up (n - 1 - i) i (by omega)
      have e : i + (n - 1 - i) = n - 1 := by omega
      rw [e] at h2
      omega
    have hz := (left (fun j => if j < n then x j else 0) (fun j hj => if_neg (by omega))).2 (fun i hi => by
      have := hx i hi
      rw [sm_congr (g := fun j => at' A i j * x j) (fun j hj => by show at' A i j * (if j < n then x j else 0) = _; rw [if_pos hj])]
      exact this)
    have hz2 := (hB.nul _).1 hz j (by omega)
    rw [sm_split] at hz2
    have e1 : sm n (fun k => at' B j (n + k) * (if n + k < n then x (n + k) else 0)) = sm n (fun _ => 0) := sm_congr fun k hk => by rw [if_neg (by omega), Int.mul_zero]
    have e2 : sm n (fun k => at' B j k * (if k < n then x k else 0)) = sm n (fun k => if k = j then x j else 0) := sm_congr fun k hk => by
      rw [if_pos hk]
      by_cases e : k = j
      · subst e
        have := hR.one k hk
        rw [hid k hk] at this
        rw [this, if_pos rfl, Int.one_mul]
      · have := hR.zer k hk j hj e
        rw [hid k hk] at this
        rw [this, if_neg e, Int.zero_mul]
    rw [e1, e2, sm_zero, Int.add_zero, sm_single, if_pos hj] at hz2
    exact hz2
  · intro ht
    refine Classical.byContradiction fun hP => ?_
    obtain ⟨k, hk, hf⟩ := hR.free (N := n) (fun q => hP (q (n - 1) (by omega)).2)
    have hv := (hB.nul _).2 (by rw [hBl]; exact kv_nul hR (k := k) (by omega))
    have hv2 := (left _ (fun j hj => kv_over hR (by omega))).1 hv
    have hz := ht _ hv2 k hk
    rw [kv_top hR hf, Int.emod_eq_of_lt (by omega) (by omega)] at hz
    omega

end Go.Proofs.YtkibkkdeaojjoabGreat
