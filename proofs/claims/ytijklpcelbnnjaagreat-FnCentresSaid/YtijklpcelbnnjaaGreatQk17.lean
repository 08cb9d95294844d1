/-
  Elimination modulo a prime: steps on rows, and what they keep. No Go in sight.
  No conditions.
  Vectors of a kernel out of reduced rows, column by column. No Go in sight.
  No conditions.
  A matrix whose outer list is one's own, each row in a block of numbers: rows are put in the place of others.
  No conditions.
  A number that lies in memory: what keeps it, what writes it, what reads it.
  No conditions.
  What powers, inverses and quotients of numbers return: contracts of the program's methods and of the model's helpers.
  Conditions: the prime is one, the numbers are remainders by it, an exponent is at most 1000.
  What inverses, powers with negative exponents and quotients of numbers return, in the program.
  Conditions: the prime is one, the numbers are remainders by it, a divisor is not 0, an exponent is from -1000000 to 1000000.
  Inverses of numbers, for the linear algebra: what XPower and XOver have.
  No conditions.
-/
import Derived.Test.YtijklpcelbnnjaaGreatQk16
import Derived.Test.YtijklpcelbnnjaaGreatQk3
import Derived.Test.YtijklpcelbnnjaaGreatQk1
import Derived.Test.YtijklpcelbnnjaaGreatQk6
import Derived.BigQuiet
import Derived.Deep.QuietTactic
import Derived.Deep.RegionHeld3
import Derived.RegionTactic
import Derived.Outline
namespace Go.Proofs.YtijklpcelbnnjaaGreat
set_option linter.unusedVariables false

/-! ### One row at x -/
def van (p : Int) (c : Nat) (r x : Nat → Int) : Prop := sm c (fun j => r j * x j) % p = 0
theorem sm_emod_congr {p : Int} {c : Nat} {f g : Nat → Int} (h : ∀ j, j < c → f j % p = g j % p) : sm c f % p = sm c g % p := by
  induction c with
  | zero => rfl
  | succ c ih => simp only [sm]; rw [Int.add_emod, ih (fun j hj => h j (by omega)), h c (by omega), ← Int.add_emod]
theorem van_emod {p : Int} {c : Nat} {r r' x : Nat → Int} (h : ∀ j, j < c → r j % p = r' j % p) : van p c r x ↔ van p c r' x := by
  unfold van
  rw [sm_emod_congr (f := fun j => r j * x j) (g := fun j => r' j * x j) (fun j hj => by rw [Int.mul_emod, h j hj, ← Int.mul_emod])]
/-- A multiple is added of a row that vanishes. -/
theorem van_add {p : Int} {c : Nat} {r s r' x : Nat → Int} {k : Int} (h : ∀ j, j < c → r' j = (r j + k * s j) % p) (hs : van p c s x) : van p c r' x ↔ van p c r x := by
  have e : van p c r' x ↔ van p c (fun j => r j + k * s j) x := van_emod (fun j hj => by rw [h j hj, Int.emod_emod])
  rw [e]
  unfold van at hs ⊢
  have e2 : sm c (fun j => (r j + k * s j) * x j) = sm c (fun j => r j * x j) + k * sm c (fun j => s j * x j) := by
    rw [← sm_mul, ← sm_add]
    apply sm_congr
    intro j _
    rw [Int.add_mul, Int.mul_assoc]
  rw [e2, Int.add_emod, Int.mul_emod, hs]
  simp
/-- A row is multiplied by a number that has an inverse. -/
theorem van_scale {p : Int} {c : Nat} {r r' x : Nat → Int} {f g : Int} (h : ∀ j, j < c → r' j = r j * f % p) (hfg : f * g % p = 1 % p) : van p c r' x ↔ van p c r x := by
  have e : van p c r' x ↔ van p c (fun j => r j * f) x := van_emod (fun j hj => by rw [h j hj, Int.emod_emod])
  rw [e]
  unfold van
  have e2 : sm c (fun j => r j * f * x j) = f * sm c (fun j => r j * x j) := by
    rw [← sm_mul]
    apply sm_congr
    intro j _
    rw [Int.mul_comm (r j) f, Int.mul_assoc]
  rw [e2]
  constructor
  · intro h0
    have h1 : (g * (f * sm c (fun j => r j * x j))) % p = 0 := by rw [Int.mul_emod, h0]; simp
    rw [← Int.mul_assoc, Int.mul_comm g f, Int.mul_emod, hfg, ← Int.mul_emod, Int.one_mul] at h1
    exact h1
  · intro h0
    rw [Int.mul_emod, h0]; simp

theorem inv_mul {p a : Int} (hp : prm p = true) (h0 : 1 ≤ a) (h1 : a < p) : a * inv p a % p = 1 :=
  (inv_iff hp h0 h1 (inv_pos hp h0 h1) (Int.le_refl _)).2 rfl

/-! ### What a reduced basis is -/
structure IsBas (p : Int) (c : Nat) (A m : List (List Int)) : Prop where
  len : ∀ i, i < m.length → (rw' m i).length = c
  red : ∃ P, Rref p m.length c (at' m) P
  nul : ∀ x, nul p A.length c (at' A) x ↔ Go.Proofs.YtijklpcelbnnjaaGreat.nul p m.length c (at' m) x
theorem IsBas.unique {p : Int} {c : Nat} {A m m' : List (List Int)} (hp : 1 < p) (h : IsBas p c A m) (h' : IsBas p c A m') : m = m' := by
  obtain ⟨P, hP⟩ := h.red
  obtain ⟨P', hP'⟩ := h'.red
  obtain ⟨e1, _, e3⟩ := hP.unique hp hP' (fun x => (h.nul x).symm.trans (h'.nul x))
  refine mat_ext e1 (fun i hi => row_ext (by rw [h.len i hi, h'.len i (by omega)]) (fun j hj => ?_))
  exact e3 i hi j (by rw [h.len i hi] at hj; exact hj)

/-! ### The model's elimination: column by column -/
/-- Where it stands: d rows done, k columns seen. -/
structure ColAt (p : Int) (c : Nat) (A m : List (List Int)) (d k : Nat) (P : Nat → Nat) : Prop where
  n : m.length = A.length
  dn : d ≤ m.length
  len : ∀ i, i < m.length → (rw' m i).length = c
  rng : ∀ i, i < m.length → ∀ j, j < c → 0 ≤ at' m i j ∧ at' m i j < p
  pv : ∀ i, i < d → P i < k
  mono : ∀ i i', i < i' → i' < d → P i < P i'
  one : ∀ i, i < d → at' m i (P i) = 1
  zer : ∀ i, i < d → ∀ i', i' < m.length → i ≠ i' → at' m i' (P i) = 0
  fst : ∀ i, i < d → ∀ j, j < P i → at' m i j = 0
  low : ∀ i, d ≤ i → i < m.length → ∀ j, j < k → at' m i j = 0
  nul : ∀ x, Go.Proofs.YtijklpcelbnnjaaGreat.nul p A.length c (at' A) x ↔ Go.Proofs.YtijklpcelbnnjaaGreat.nul p m.length c (at' m) x
theorem ColAt.start {p : Int} {c : Nat} {A : List (List Int)} (hl : ∀ i, i < A.length → (rw' A i).length = c) (hr : ∀ i, i < A.length → ∀ j, j < c → 0 ≤ at' A i j ∧ at' A i j < p) : ColAt p c A A 0 0 (fun _ => 0) where
  n := rfl
  dn := Nat.zero_le _
  len := hl
  rng := hr
  pv i hi := by omega
  mono i i' _ hi := by omega
  one i hi := by omega
  zer i hi := by omega
  fst i hi := by omega
  low i _ _ j hj := by omega
  nul x := Iff.rfl
/-- No pivot in column k. -/
theorem ColAt.skip {p : Int} {c : Nat} {A m : List (List Int)} {d k : Nat} {P : Nat → Nat} (h : ColAt p c A m d k P) (hz : ∀ i, d ≤ i → i < m.length → at' m i k = 0) : ColAt p c A m d (k + 1) P :=
  { h with
    pv := fun i hi => Nat.lt_succ_of_lt (h.pv i hi)
    low := fun i h1 h2 j hj => by
      by_cases e : j = k
      · subst e; exact hz i h1 h2
      · exact h.low i h1 h2 j (by omega) }
/-- All columns are seen. -/
theorem ColAt.done {p : Int} {c : Nat} {A m : List (List Int)} {d : Nat} {P : Nat → Nat} (h : ColAt p c A m d c P) : IsBas p c A (m.take d) := by
  have hl : (m.take d).length = d := by rw [List.length_take]; have := h.dn; omega
  have hrow : ∀ i, i < d → rw' (m.take d) i = rw' m i := fun i hi => by
    simp only [rw', List.getD_eq_getElem?_getD, List.getElem?_take]; rw [if_pos hi]
  have hat : ∀ i, i < d → at' (m.take d) i = at' m i := fun i hi => by funext j; unfold at'; rw [hrow i hi]
  have hdn := h.dn
  refine ⟨fun i hi => by rw [hl] at hi; rw [hrow i hi]; exact h.len i (by omega), ⟨P, ?_⟩, fun x => ?_⟩
  · rw [hl]
    exact ⟨h.pv, h.mono, fun i hi => by rw [hat i hi]; exact h.one i hi, fun i hi i' hi' hne => by rw [hat i' hi']; exact h.zer i hi i' (by omega) hne, fun i hi j hj => by rw [hat i hi]; exact h.fst i hi j hj, fun i hi j hj => by rw [hat i hi]; exact h.rng i (by omega) j hj⟩
  · rw [h.nul x, hl]
    constructor
    · intro g i hi
      have := g i (by omega)
      rw [hat i hi]; exact this
    · intro g i hi
      by_cases e : i < d
      · have := g i e
        rw [hat i e] at this; exact this
      · have e0 : sm c (fun j => at' m i j * x j) = sm c (fun _ => 0) := sm_congr (fun j hj => by rw [h.low i (by omega) hi j hj, Int.zero_mul])
        rw [e0, sm_zero]; rfl
/-- A pivot in row f of column k: what becomes of the rows. -/
theorem ColAt.pick {p : Int} {c : Nat} {A m m' : List (List Int)} {d k f : Nat} {P : Nat → Nat} (hp : prm p = true) (h : ColAt p c A m d k P) (hk : k < c) (hdf : d ≤ f) (hf : f < m.length) (ha : 1 ≤ at' m f k)
    (hn : m'.length = m.length) (hl : ∀ i, i < m'.length → (rw' m' i).length = c)
    (hd : ∀ j, j < c → at' m' d j = at' m f j * inv p (at' m f k) % p)
    (ho : ∀ i, i < m.length → i ≠ d → ∀ j, j < c → at' m' i j = (at' m (if i = f then d else i) j + (p - at' m (if i = f then d else i) k) % p * at' m' d j) % p) :
    ColAt p c A m' (d + 1) (k + 1) (fun i => if i = d then k else P i) := by
  have hpb := prm_bd hp
  have hak := h.rng f hf k hk
  have hdk : at' m' d k = 1 := by rw [hd k hk]; exact inv_mul hp ha hak.2
  have hd0 : ∀ j, j < k → at' m' d j = 0 := fun j hj => by rw [hd j (by omega), h.low f hdf hf j hj]; simp
  have hsig : ∀ i, i < m.length → i ≠ d → (if i = f then d else i) < m.length := fun i hi hne => by split <;> omega
  have hok : ∀ i, i < m.length → i ≠ d → at' m' i k = 0 := fun i hi hne => by
    rw [ho i hi hne k hk, hdk, Int.mul_one]
    have r := h.rng _ (hsig i hi hne) k hk
    by_cases e : at' m (if i = f then d else i) k = 0
    · rw [e]; simp
    · rw [Int.emod_eq_of_lt (a := p - at' m (if i = f then d else i) k) (by omega) (by omega)]
      have : at' m (if i = f then d else i) k + (p - at' m (if i = f then d else i) k) = p := by omega
      rw [this]; simp
  have hkeep : ∀ i, i < m.length → i ≠ d → ∀ j, j < k → at' m' i j = at' m (if i = f then d else i) j := fun i hi hne j hj => by
    rw [ho i hi hne j (by omega), hd0 j hj, Int.mul_zero, Int.add_zero]
    have r := h.rng _ (hsig i hi hne) j (by omega)
    exact Int.emod_eq_of_lt r.1 r.2
  refine ⟨by rw [hn, h.n], by omega, hl, fun i hi j hj => ?_, fun i hi => ?_, fun i i' hii hi' => ?_, fun i hi => ?_, fun i hi i' hi' hne => ?_, fun i hi j hj => ?_, fun i hi0 hi j hj => ?_, fun x => ?_⟩
  · rw [hn] at hi
    by_cases e : i = d
    · subst e; rw [hd j hj]; exact mod_bd hp _
    · rw [ho i hi e j hj]; exact mod_bd hp _
  · show (if i = d then k else P i) < k + 1
    by_cases e : i = d
    · rw [if_pos e]; omega
    · rw [if_neg e]; have := h.pv i (by omega); omega
  · show (if i = d then k else P i) < if i' = d then k else P i'
    have e : ¬ i = d := by omega
    rw [if_neg e]
    by_cases e' : i' = d
    · rw [if_pos e']; exact h.pv i (by omega)
    · rw [if_neg e']; exact h.mono i i' hii (by omega)
  · show at' m' i (if i = d then k else P i) = 1
    by_cases e : i = d
    · rw [if_pos e, e]; exact hdk
    · have hid : i < d := by omega
      rw [if_neg e, hkeep i (by have := h.dn; omega) e _ (h.pv i hid), if_neg (by omega)]
      exact h.one i hid
  · show at' m' i' (if i = d then k else P i) = 0
    rw [hn] at hi'
    by_cases e : i = d
    · rw [if_pos e]; exact hok i' hi' (by omega)
    · have hid : i < d := by omega
      rw [if_neg e]
      by_cases e' : i' = d
      · rw [e']; exact hd0 _ (h.pv i hid)
      · rw [hkeep i' hi' e' _ (h.pv i hid)]
        refine h.zer i hid _ (hsig i' hi' e') ?_
        split <;> omega
  · show at' m' i j = 0
    have hj' : j < (if i = d then k else P i) := hj
    by_cases e : i = d
    · rw [if_pos e] at hj'; rw [e]; exact hd0 j hj'
    · have hid : i < d := by omega
      rw [if_neg e] at hj'
      rw [hkeep i (by have := h.dn; omega) e j (by have := h.pv i hid; omega), if_neg (by omega)]
      exact h.fst i hid j hj'
  · rw [hn] at hi
    have e : ¬ i = d := by omega
    by_cases ek : j = k
    · rw [ek]; exact hok i hi e
    · rw [hkeep i hi e j (by omega)]
      refine h.low _ ?_ (hsig i hi e) j (by omega)
      split <;> omega
  · rw [h.nul x]
    have vd : van p c (at' m' d) x ↔ van p c (at' m f) x := van_scale (g := at' m f k) hd (by rw [Int.mul_comm, inv_mul hp ha hak.2, Int.emod_eq_of_lt (by omega) (by omega)])
    have vo : van p c (at' m f) x → ∀ i, i < m.length → i ≠ d → (van p c (at' m' i) x ↔ van p c (at' m (if i = f then d else i)) x) := fun hv i hi hne => van_add (ho i hi hne) (vd.2 hv)
    constructor
    · intro g i hi
      rw [hn] at hi
      by_cases e : i = d
      · subst e; exact vd.2 (g f hf)
      · exact (vo (g f hf) i hi e).2 (g _ (hsig i hi e))
    · intro g i hi
      have hvf : van p c (at' m f) x := vd.1 (g d (by rw [hn]; omega))
      by_cases e : i = f
      · subst e; exact hvf
      · by_cases e' : i = d
        · have hfd : f ≠ d := by omega
          have := (vo hvf f hf hfd).1 (g f (by rw [hn]; exact hf))
          rw [if_pos rfl] at this
          rw [e']; exact this
        · have := (vo hvf i hi e').1 (g i (by rw [hn]; exact hi))
          rw [if_neg e] at this
          exact this

end Go.Proofs.YtijklpcelbnnjaaGreat

namespace Go.Proofs.YtijklpcelbnnjaaGreat
set_option linter.unusedVariables false

/-- Where the first number other than 0 stands. -/
def fstN (z : List Int) : Nat := z.findIdx (fun x => x != 0)
theorem fstN_eq {z : List Int} {q : Nat} (hq : q < z.length) (h1 : z.getD q 0 ≠ 0) (h0 : ∀ j, j < q → z.getD j 0 = 0) : fstN z = q := by
  unfold fstN
  rw [List.findIdx_eq hq]
  refine ⟨by simpa [List.getD, hq] using h1, fun j hj => ?_⟩
  have := h0 j hj
  have hj' : j < z.length := by omega
  simp [List.getD, hj'] at this
  simp [this]
theorem fstN_lt {z : List Int} (h : fstN z < z.length) : z.getD (fstN z) 0 ≠ 0 := by
  have h1 := List.findIdx_getElem (xs := z) (p := fun x => x != 0) (w := h)
  have h2 : z.getD (fstN z) 0 = z[z.findIdx (fun x => x != 0)]'h := by unfold fstN at h ⊢; simp [List.getD, h]
  rw [h2]
  exact (bne_iff_ne).1 h1
/-- The places of the first numbers of rows. -/
def pvs (B : List (List Int)) (i : Nat) : Nat := fstN (rw' B i)
theorem Rref.pvs {p : Int} {c : Nat} {B : List (List Int)} {P : Nat → Nat} (h : Rref p B.length c (at' B) P) (hl : ∀ i, i < B.length → (rw' B i).length = c) {i : Nat} (hi : i < B.length) : Go.Proofs.YtijklpcelbnnjaaGreat.pvs B i = P i := by
  unfold Go.Proofs.YtijklpcelbnnjaaGreat.pvs
  refine fstN_eq (by rw [hl i hi]; exact h.pv i hi) ?_ (fun j hj => h.fst i hi j hj)
  have := h.one i hi
  unfold at' at this
  rw [this]; decide
theorem Rref.congrP {p : Int} {n c : Nat} {R : Nat → Nat → Int} {P P' : Nat → Nat} (h : Rref p n c R P) (e : ∀ i, i < n → P' i = P i) : Rref p n c R P' where
  pv i hi := by rw [e i hi]; exact h.pv i hi
  mono i i' hi hi' := by rw [e i (by omega), e i' hi']; exact h.mono i i' hi hi'
  one i hi := by rw [e i hi]; exact h.one i hi
  zer i hi i' hi' hne := by rw [e i hi]; exact h.zer i hi i' hi' hne
  fst i hi j hj := by rw [e i hi] at hj; exact h.fst i hi j hj
  rng := h.rng
theorem IsBas.pivs {p : Int} {c : Nat} {A B : List (List Int)} (h : IsBas p c A B) : Rref p B.length c (at' B) (pvs B) := by
  obtain ⟨P, hP⟩ := h.red
  exact hP.congrP (fun i hi => hP.pvs h.len hi)

/-- Whether a column is a pivot. -/
def isPv (P : Nat → Nat) (n k : Nat) : Bool := (List.range n).any fun i => P i == k
theorem isPv_iff {P : Nat → Nat} {n k : Nat} : isPv P n k = true ↔ ∃ i, i < n ∧ P i = k := by
  unfold isPv
  rw [List.any_eq_true]
  constructor
  · rintro ⟨i, hi, h⟩; exact ⟨i, List.mem_range.1 hi, by simpa using h⟩
  · rintro ⟨i, hi, h⟩; exact ⟨i, List.mem_range.2 hi, by simpa using h⟩
theorem isPv_no {P : Nat → Nat} {n k : Nat} (h : isPv P n k = false) {i : Nat} (hi : i < n) : P i ≠ k := fun e => by
  rw [isPv_iff.2 ⟨i, hi, e⟩] at h; cases h

/-- The vector of column k after i of the rows. -/
def kvec (p : Int) (B : List (List Int)) (P : Nat → Nat) (c i k : Nat) : List Int := mkR c fun j => kv i (at' B) P k j % p
theorem kv_zero (R : Nat → Nat → Int) (P : Nat → Nat) (k j : Nat) : kv 0 R P k j = if j = k then 1 else 0 := by simp [kv, sm]
theorem kv_succ (i : Nat) (R : Nat → Nat → Int) (P : Nat → Nat) (k j : Nat) : kv (i + 1) R P k j = kv i R P k j + (if j = P i then - R i k else 0) := by
  simp only [kv, sm]; omega
theorem kv_before {p : Int} {n c : Nat} {R : Nat → Nat → Int} {P : Nat → Nat} (h : Rref p n c R P) {i k : Nat} (hi : i < n) (hk : P i ≠ k) : kv i R P k (P i) = 0 := by
  have e : sm i (fun i' => if P i = P i' then - R i' k else 0) = sm i (fun _ => 0) := sm_congr (fun i' hi' => by
    have := h.mono i' i hi' hi
    rw [if_neg (by omega)])
  unfold kv
  rw [e, sm_zero, if_neg hk]; rfl
theorem kvec_step {p : Int} {c : Nat} {B : List (List Int)} {P : Nat → Nat} {n i k : Nat} (h : Rref p n c (at' B) P) (hi : i < n) (hk : P i ≠ k) {j : Nat} (hj : j < c) :
    kv (i + 1) (at' B) P k j % p = if j = P i then (p - at' B i k) % p else kv i (at' B) P k j % p := by
  rw [kv_succ]
  by_cases e : j = P i
  · subst e
    rw [if_pos rfl, if_pos rfl, kv_before h hi hk, Int.zero_add, Int.sub_eq_add_neg, Int.add_emod p, Int.emod_self, Int.zero_add, Int.emod_emod]
  · rw [if_neg e, if_neg e, Int.add_zero]
/-- The vectors of the first k columns that are no pivots. -/
def kerN (p : Int) (B : List (List Int)) (P : Nat → Nat) (c n : Nat) : Nat → List (List Int)
  | 0 => []
  | k + 1 => if isPv P n k = true then kerN p B P c n k else kerN p B P c n k ++ [kvec p B P c n k]
theorem kerN_pv {p : Int} {B : List (List Int)} {P : Nat → Nat} {c n k : Nat} (h : isPv P n k = true) : kerN p B P c n (k + 1) = kerN p B P c n k := if_pos h
theorem kerN_no {p : Int} {B : List (List Int)} {P : Nat → Nat} {c n k : Nat} (h : isPv P n k = false) : kerN p B P c n (k + 1) = kerN p B P c n k ++ [kvec p B P c n k] := if_neg (by simp [h])
theorem kerN_len (p : Int) (B : List (List Int)) (P : Nat → Nat) (c n k : Nat) : (kerN p B P c n k).length ≤ k := by
  induction k with
  | zero => simp [kerN]
  | succ k ih =>
    cases h : isPv P n k with
    | true => rw [kerN_pv h]; omega
    | false => rw [kerN_no h]; simp; omega
theorem kerN_mem {p : Int} {B : List (List Int)} {P : Nat → Nat} {c n k : Nat} {z : List Int} (h : z ∈ kerN p B P c n k) : ∃ k', k' < k ∧ z = kvec p B P c n k' := by
  induction k with
  | zero => simp [kerN] at h
  | succ k ih =>
    cases e : isPv P n k with
    | true => rw [kerN_pv e] at h; obtain ⟨k', h1, h2⟩ := ih h; exact ⟨k', by omega, h2⟩
    | false =>
      rw [kerN_no e] at h
      rcases List.mem_append.1 h with h | h
      · obtain ⟨k', h1, h2⟩ := ih h; exact ⟨k', by omega, h2⟩
      · exact ⟨k, by omega, by simpa using h⟩
theorem kerN_lst {p : Int} {B : List (List Int)} {P : Nat → Nat} {c n k : Nat} (hp : prm p = true) (hc : 1 ≤ c) (hc2 : c ≤ 16) (hk : k ≤ c) : Lst 0 p (kerN p B P c n k) := by
  have hpb := prm_bd hp
  have hl := kerN_len p B P c n k
  have key : ∀ i, i < (kerN p B P c n k).length → ∃ k', rw' (kerN p B P c n k) i = kvec p B P c n k' := fun i hi => by
    obtain ⟨k', _, h⟩ := kerN_mem (mem_row hi)
    exact ⟨k', h⟩
  have hlen : ∀ i, i < (kerN p B P c n k).length → (rw' (kerN p B P c n k) i).length = c := fun i hi => by
    obtain ⟨k', h⟩ := key i hi
    rw [h]; exact mkR_len _ _
  refine ⟨hp, Nat.zero_le _, by omega, fun i hi => ?_, fun i hi => ?_, fun i hi => ?_, fun i hi => ?_⟩
  · rw [hlen i hi, hlen 0 (by omega)]
  · rw [hlen i hi]; exact hc
  · rw [hlen i hi]; exact hc2
  · obtain ⟨k', h⟩ := key i hi
    rw [h, List.all_eq_true]
    intro x hx
    unfold kvec mkR at hx
    obtain ⟨j, _, rfl⟩ := List.mem_map.1 hx
    have h0 := Int.emod_nonneg (kv n (at' B) P k' j) (by omega : p ≠ 0)
    have h1 := Int.emod_lt_of_pos (kv n (at' B) P k' j) (by omega : 0 < p)
    simp [inr, h0, h1]

end Go.Proofs.YtijklpcelbnnjaaGreat

namespace Go.Proofs.YtijklpcelbnnjaaGreat
open Go.RowKit
set_option linter.unusedVariables false

/-- The outer list lies at the head of block b, the rows in blocks of numbers from lo on. -/
structure TopM (lo : Nat) (w : World) (b : Nat) (m : List (List Int)) : Prop where
  lob : lo ≤ b
  tag : ∃ cur, w.heap[b]? = some (.cells cur 24 (0, 0))
  row : ∀ i, i < m.length → ∃ r c, w.cell? ⟨b, i, none⟩ = some (.slice r (rw' m i).length c) ∧ TagR lo w.heap.size w r (rw' m i)
theorem TopM.lt {lo : Nat} {w : World} {b : Nat} {m : List (List Int)} (h : TopM lo w b m) : b < w.heap.size := by
  obtain ⟨cur, hb⟩ := h.tag
  exact (Array.getElem?_eq_some_iff.1 hb).1
theorem TopM.free {lo : Nat} {w : World} {b : Nat} {m : List (List Int)} (h : TopM lo w b m) (j : Nat) : w.frozen? ⟨b, j, none⟩ = false := by
  obtain ⟨cur, hb⟩ := h.tag
  exact free_of hb j
theorem TopM.below {lo : Nat} {w w' : World} {b : Nat} {m : List (List Int)} (h : TopM lo w b m) (hb : Below w.heap.size w w') : TopM lo w' b m where
  lob := h.lob
  tag := by obtain ⟨cur, hc⟩ := h.tag; exact ⟨cur, (hb.block b h.lt).trans hc⟩
  row i hi := by
    obtain ⟨r, c, h1, h2⟩ := h.row i hi
    exact ⟨r, c, (hb.cell (p := ⟨b, i, none⟩) h.lt).trans h1, h2.below hb (Nat.le_refl _) (Nat.le_refl _) hb.size⟩
theorem TopM.mono {lo lo' : Nat} {w : World} {b : Nat} {m : List (List Int)} (h : TopM lo w b m) (hl : lo' ≤ lo) : TopM lo' w b m where
  lob := Nat.le_trans hl h.lob
  tag := h.tag
  row i hi := by
    obtain ⟨r, c, h1, h2⟩ := h.row i hi
    exact ⟨r, c, h1, h2.block hl (Nat.le_refl _) (fun _ _ _ _ _ => rfl)⟩
theorem TopM.mat {lo : Nat} {w : World} {b : Nat} {m : List (List Int)} (h : TopM lo w b m) : MatIn lo w.heap.size w (some ⟨b, 0, none⟩) m :=
  .inr ⟨b, 0, rfl, h.lob, h.lt, fun i hi => by
    obtain ⟨r, c, h1, h2⟩ := h.row i hi
    exact ⟨r, c, by rw [Nat.zero_add]; exact h1, h2.row⟩⟩
theorem rw_set {m : List (List Int)} {i j : Nat} (z : List Int) (hi : i < m.length) : rw' (m.set i z) j = if j = i then z else rw' m j := by
  simp only [rw', List.getD_eq_getElem?_getD, List.getElem?_set]
  by_cases e : j = i
  · subst e; simp [hi]
  · rw [if_neg (fun h => e h.symm), if_neg e]
/-- Another row is put in the place of row i. -/
theorem TopM.set {lo : Nat} {w : World} {b i : Nat} {m : List (List Int)} {r : Option Addr} {z : List Int} {c : Nat} (h : TopM lo w b m) (hi : i < m.length) (hz : TagR lo w.heap.size w r z) :
    TopM lo (w.setCell ⟨b, i, none⟩ (.slice r z.length c)) b (m.set i z) := by
  obtain ⟨cur, hcur⟩ := h.tag
  have hsz : (w.setCell ⟨b, i, none⟩ (.slice r z.length c)).heap.size = w.heap.size := by simp [World.setCell]
  have keep : ∀ k cur', w.heap[k]? = some (Obj.cells cur' 2 (0, 0)) → (w.setCell ⟨b, i, none⟩ (.slice r z.length c)).heap[k]? = w.heap[k]? := fun k cur' hk =>
    Below.heap_setCell _ _ _ _ (fun e => by have e1 : k = b := e; subst e1; rw [hcur] at hk; simp at hk)
  obtain ⟨r0, c0, g0, _⟩ := h.row i hi
  refine ⟨h.lob, ⟨cur.setIfInBounds i (.slice r z.length c), by simp [World.setCell, Array.getElem?_modify, hcur]⟩, fun j hj => ?_⟩
  rw [List.length_set] at hj
  rw [rw_set z hi, hsz]
  by_cases e : j = i
  · subst e
    rw [if_pos rfl]
    exact ⟨r, c, World.cell?_setCell_same w _ _ g0, hz.block (Nat.le_refl _) (Nat.le_refl _) (fun k cur' _ _ hk => keep k cur' hk)⟩
  · rw [if_neg e]
    obtain ⟨r1, c1, g1, g2⟩ := h.row j hj
    exact ⟨r1, c1, (World.cell?_setCell_other _ _ _ _ (fun e2 => e (by injection e2 with _ e3; exact e3.symm))).trans g1, g2.block (Nat.le_refl _) (Nat.le_refl _) (fun k cur' _ _ hk => keep k cur' hk)⟩
theorem OutM.top {B : Nat} {w : World} {v : Value} {m : List (List Int)} (h : OutM B w v m) (h0 : 0 < m.length) : ∃ b c, v = .slice (some ⟨b, 0, none⟩) m.length c ∧ m.length ≤ c ∧ c ≤ maxLen ∧ TopM B w b m := by
  obtain ⟨vals, ho, hr⟩ := h
  rcases ho.2 with ⟨rfl, hn⟩ | ⟨g, cap, cur, rfl, hb, hg, hnc, hcm, hcs, htake⟩
  · omega
  · refine ⟨g, cap, rfl, hnc, hcm, hb, ⟨cur, hg⟩, fun i hi => ?_⟩
    obtain ⟨r, c, h1, h2⟩ := hr i hi
    refine ⟨r, c, ?_, h2⟩
    have := ho.cells (g := g) rfl i _ h1
    rwa [Addr.add_lit, Nat.zero_add] at this

theorem TagR.setTop {lo lo' tp : Nat} {w : World} {b i : Nat} {m : List (List Int)} {r : Option Addr} {z : List Int} {v : Value} (h : TopM lo w b m) (hz : TagR lo' tp w r z) : TagR lo' tp (w.setCell ⟨b, i, none⟩ v) r z := by
  obtain ⟨cur, hcur⟩ := h.tag
  exact hz.block (Nat.le_refl _) (Nat.le_refl _) (fun k cur' _ _ hk => Below.heap_setCell _ _ _ _ (fun e => by have e1 : k = b := e; subst e1; rw [hcur] at hk; simp at hk))

end Go.Proofs.YtijklpcelbnnjaaGreat

namespace Go.Proofs.YtijklpcelbnnjaaGreat
open Go.RowKit
set_option linter.unusedVariables false

theorem field_value (x y : Value) (w : World) : (Instr.field 108 (.agg #[x, y]) 1).run Tryz.prog w = .ok y w := by kernel_rfl

/-- A number lies in a block: its prime and its value. -/
structure NumAt (w : World) (b : Nat) (p v : Int) : Prop where
  c0 : w.cell? ⟨b, 0, none⟩ = some (.int .i64 p)
  c1 : w.cell? ⟨b, 1, none⟩ = some (.int .i64 v)
  f0 : w.frozen? ⟨b, 0, none⟩ = false
  f1 : w.frozen? ⟨b, 1, none⟩ = false
theorem NumAt.keep {w w1 : World} {b : Nat} {p v : Int} (h : NumAt w b p v) (hb : Below w.heap.size w w1) (lt : b < w.heap.size) : NumAt w1 b p v :=
  ⟨(hb.cell (p := ⟨b, 0, none⟩) lt).trans h.c0, (hb.cell (p := ⟨b, 1, none⟩) lt).trans h.c1, (hb.frozen (p := ⟨b, 0, none⟩) lt).trans h.f0, (hb.frozen (p := ⟨b, 1, none⟩) lt).trans h.f1⟩
theorem NumAt.alloc {w : World} {b : Nat} {p v : Int} (h : NumAt w b p v) (lt : b < w.heap.size) (o : Obj) : NumAt (w.alloc o) b p v :=
  h.keep ((Below.refl _ _).alloc (Nat.le_refl _) o) lt
theorem numAt_new (w : World) (p v : Int) (t : TypeId) : NumAt (w.alloc (.cells #[.int .i64 p, .int .i64 v] t)) w.heap.size p v :=
  ⟨by simp [go_sem], by simp [go_sem], by simp [go_sem], by simp [go_sem]⟩
theorem NumAt.drew {w : World} {b : Nat} {p v : Int} (h : NumAt w b p v) : NumAt w.drew b p v := ⟨h.c0, h.c1, h.f0, h.f1⟩
theorem numAt_new1 (w : World) (o : Obj) (p v : Int) (t : TypeId) : NumAt ((w.alloc o).alloc (.cells #[.int .i64 p, .int .i64 v] t)) (w.heap.size + 1) p v := by
  simpa using numAt_new (w.alloc o) p v t
theorem NumAt.set {w : World} {b : Nat} {p v : Int} (h : NumAt w b p v) (q u : Int) : NumAt ((w.setCell ⟨b, 0, none⟩ (.int .i64 q)).setCell ⟨b, 1, none⟩ (.int .i64 u)) b q u :=
  ⟨by simp [go_sem, h.c0], by simp [go_sem, h.c1], by simp [go_sem, h.f0], by simp [go_sem, h.f1]⟩
theorem NumAt.far {w : World} {b c : Nat} {p v : Int} (h : NumAt w b p v) (hne : b ≠ c) (o : Nat) (x : Value) : NumAt (w.setCell ⟨c, o, none⟩ x) b p v :=
  ⟨(World.cell?_setCell_other _ _ _ _ (fun e => hne (by injection e with e1; exact e1.symm))).trans h.c0, (World.cell?_setCell_other _ _ _ _ (fun e => hne (by injection e with e1; exact e1.symm))).trans h.c1, by simp [go_sem, h.f0], by simp [go_sem, h.f1]⟩

end Go.Proofs.YtijklpcelbnnjaaGreat

namespace Go.Proofs.YtijklpcelbnnjaaGreat
open Go.RowKit
set_option linter.unusedVariables false

theorem l01Inv_any (p a : Int) (w : World) (hp : prm p = true) (a0 : 1 ≤ a) (a1 : a < p) :
    Calls Tryz.prog 83 #[.int .i64 p, .int .i64 a] w fun e w' => e = .returned (.int .i64 (inv p a)) ∧ w = w' := by
  have hb := prm_bd hp
  obtain ⟨v0, v1⟩ := inv_bd hp a
  have v2 := inv_pos hp a0 a1
  have HP := Lib.hid hp
  clear hp
  go_enter Tryz.func83, Tryz.ntmps83
  go_wp2
  go_loop [5] (fun t => ∃ b : Int, 1 ≤ b ∧ b ≤ inv p a ∧ t = .int .i64 b) (fun t => (inv p a - intOf t).toNat)
  case atStart => exact ⟨1, by omega, by omega, rfl⟩
  case round =>
    obtain ⟨b, b0, b1, rfl⟩ := hrel
    obtain ⟨m0, m1⟩ := mul_bd (a := a) (b := b) HP.out (by omega) (by omega) (by omega) (by omega)
    obtain ⟨q0, q1⟩ := mod_bd HP.out (a * b)
    have hi := inv_iff (a := a) HP.out a0 a1 b0 b1
    by_cases hq : b = inv p a
    · have ht := hi.2 hq
      have HQ := Lib.hid hq
      clear hi hq
      go_wp2
      go_ret
      exact ⟨by rw [← HQ.out]; rfl, rfl⟩
    · have ht : ¬ a * b % p = 1 := fun h => hq (hi.1 h)
      clear hi
      go_wp2
      go_round
      case rel => exact ⟨b + 1, by omega, by omega, rfl⟩
      case measure => simp [intOf]; omega

set_option maxHeartbeats 800000 in
theorem power_pos (p a : Int) (m : Nat) (w : World) (hp : prm p = true) (a0 : 0 ≤ a) (a1 : a < p) (hm : m ≤ 1000000) :
    Calls Tryz.prog 126 #[.agg #[.int .i64 p, .int .i64 a], .int .i64 m] w fun e w' => e = .returned (.agg #[.int .i64 p, .int .i64 (pw p a m)]) ∧ Below w.heap.size w w' := by
  have HP := Lib.hid hp
  have hb := prm_bd hp
  clear hp
  go_enter Tryz.func126, Tryz.ntmps126
  go_wp2
  go_loopw [17] (fun t wr => ∃ j : Nat, j ≤ m ∧ t = .int .i64 j ∧ NumAt wr (w.heap.size + 1 + 1) p (pw p a j) ∧ NumAt wr w.heap.size p a ∧ NumAt wr (w.heap.size + 1) 0 0 ∧ Below w.heap.size w wr ∧ w.heap.size + 3 ≤ wr.heap.size) (fun t _ => m - (intOf t).toNat)
  case atStart =>
    refine ⟨0, Nat.zero_le _, rfl, ?_, ?_, ?_, by ((repeat' (first | with_reducible exact Below.refl _ _ | (with_reducible refine Below.setCell ?_ ?_ _) | (with_reducible refine Below.alloc ?_ ?_ _) | (with_reducible refine Below.drew ?_))); all_goals (first | (simp; done) | omega | (simp; omega))), by simp⟩
    · exact (by simpa [pw] using numAt_new ((w.alloc (Obj.cells #[.int .i64 p, .int .i64 a] _)).alloc (Obj.cells #[.int .i64 0, .int .i64 0] _)) p 1 _)
    · exact ((numAt_new w p a _).alloc (by simp) _).alloc (by simp; omega) _
    · exact NumAt.alloc (by simpa using numAt_new (w.alloc (Obj.cells #[.int .i64 p, .int .i64 a] _)) 0 0 _) (by simp) _
  case round =>
    obtain ⟨j, hj, rfl, n2, n0, n1, hbel, hz⟩ := hrel
    obtain ⟨q0, q1⟩ := pw_bd (a := a) HP.out j
    obtain ⟨g20, g21, k20, k21⟩ := n2
    obtain ⟨g00, g01, k00, k01⟩ := n0
    by_cases hlt : j < m
    · go_wp2_with (go_at_call 113; refine (times_any p (pw p a j) a _ HP.out q0 q1 a0 a1).mono ?_; rintro e w1 ⟨rfl, hb1⟩; have n2' := NumAt.keep (b := w.heap.size + 1 + 1) ⟨g20, g21, k20, k21⟩ hb1 (by omega); obtain ⟨e20, e21, h20, h21⟩ := n2')
      go_roundw
      case rel =>
        have hs1 := hb1.size
        have n2' : NumAt w1 (w.heap.size + 1 + 1) p (pw p a j) := ⟨e20, e21, h20, h21⟩
        refine ⟨j + 1, by omega, by go_num, n2'.set p _, ((NumAt.keep (b := w.heap.size) ⟨g00, g01, k00, k01⟩ hb1 (by omega)).far (by omega) _ _).far (by omega) _ _, ((n1.keep hb1 (by omega)).far (by omega) _ _).far (by omega) _ _, by (have hs_hb1 := hb1.size; have hs_hbel := hbel.size; (repeat' (first | with_reducible exact Below.refl _ _ | (with_reducible refine Below.setCell ?_ ?_ _) | (with_reducible refine Below.alloc ?_ ?_ _) | (with_reducible refine Below.drew ?_) | (with_reducible refine below_step ?_ ?_ hb1) | (with_reducible refine below_step ?_ ?_ hbel))); all_goals (first | (simp; done) | omega | (simp; omega) | (simp at hs_hb1 hs_hbel ⊢; omega))), by simp; omega⟩
      case measure => simp [intOf]; omega
    · have hjm : Hid (j = m) := by show j = m; omega
      obtain ⟨g10, g11, k10, k11⟩ := n1
      go_wp2
      refine bodyPost_ret (v := .agg #[.int .i64 p, .int .i64 (pw p a j)]) (by simp [results, Tryz.results126, go_sem, g10, g11]) rfl ⟨by rw [hjm.out], ?_⟩
      (have hs_hbel := hbel.size; (repeat' (first | with_reducible exact Below.refl _ _ | (with_reducible refine Below.setCell ?_ ?_ _) | (with_reducible refine Below.alloc ?_ ?_ _) | (with_reducible refine Below.drew ?_) | (with_reducible refine below_step ?_ ?_ hbel))); all_goals (first | (simp; done) | omega | (simp; omega) | (simp at hs_hbel ⊢; omega)))

end Go.Proofs.YtijklpcelbnnjaaGreat

namespace Go.Proofs.YtijklpcelbnnjaaGreat
open Go.RowKit
set_option linter.unusedVariables false

theorem power_any (p a : Int) (k : Int) (w : World) (hp : prm p = true) (a0 : 0 ≤ a) (a1 : a < p) (k0 : 0 ≤ k) (k1 : k ≤ 1000000) :
    Calls Tryz.prog 126 #[.agg #[.int .i64 p, .int .i64 a], .int .i64 k] w fun e w' => e = .returned (.agg #[.int .i64 p, .int .i64 (pw p a k.toNat)]) ∧ Below w.heap.size w w' := by
  have h := power_pos p a k.toNat w hp a0 a1 (by omega)
  rwa [Int.toNat_of_nonneg k0] at h

set_option maxHeartbeats 400000 in
theorem inverse_any (p a : Int) (w : World) (hp : prm p = true) (a0 : 0 ≤ a) (a1 : a < p) :
    Calls Tryz.prog 120 #[.agg #[.int .i64 p, .int .i64 a]] w fun e w' => e = .returned (.agg #[.int .i64 p, .int .i64 (inv p a)]) ∧ Below w.heap.size w w' := by
  have HP := Lib.hid hp
  have hb := prm_bd hp
  clear hp
  go_enter Tryz.func120, Tryz.ntmps120
  go_wp2_with (go_at_call 126; refine (power_any p a (p - 2) _ HP.out a0 a1 (by omega) (by omega)).mono ?_; rintro e w1 ⟨rfl, hb1⟩; obtain ⟨hc, hf⟩ := bcell hb1)
  refine bodyPost_ret (v := .agg #[.int .i64 p, .int .i64 (inv p a)]) (by simp [results, Tryz.results120, go_sem, hc, inv]) rfl ⟨rfl, ?_⟩
  (have hs_hb1 := hb1.size; (repeat' (first | with_reducible exact Below.refl _ _ | (with_reducible refine Below.setCell ?_ ?_ _) | (with_reducible refine Below.alloc ?_ ?_ _) | (with_reducible refine Below.drew ?_) | (with_reducible refine below_step ?_ ?_ hb1))); all_goals (first | (simp; done) | omega | (simp; omega) | (simp at hs_hb1 ⊢; omega)))

end Go.Proofs.YtijklpcelbnnjaaGreat
