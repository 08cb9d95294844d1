/-
  Elimination modulo a prime: steps on rows, and what they keep. No Go in sight.
  No conditions.
  Vectors of a kernel out of reduced rows, column by column. No Go in sight.
  No conditions.
-/
import Derived.Test.YtkibkkdeaojjoabGreatQg5
namespace Go.Proofs.YtkibkkdeaojjoabGreat
set_option linter.unusedVariables false

/-! ### One row at x -/
def van (p : Int) (c : Nat) (r x : Nat → Int) : Prop := sm c (fun j => r j * x j) % p = 0
theorem sm_emod_congr {p : Int} {c : Nat} {f g : Nat → Int} (h : ∀ j, j < c → f j % p = g j % p) : sm c f % p = sm c g % p := by
  induction c with
  | zero => rfl
  | succ c ih => simp only [sm]; rw [Int.add_emod, ih (fun j hj => h j (by omega)), h c (by omega), ← Int.add_emod]
theorem van_emod {p : Int} {c : Nat} {r r' x : Nat → Int} (h : ∀ j, j < c → r j % p = r' j % p) : van p c r x ↔ van p c r' x := by
  unfold van
  rw [sm_emod_congr (f := fun j => r j * x j) (g := fun j => r' j * x j) (fun j hj => by rw [Int.mul_emod, h j hj, ← Int.mul_emod])]
/-- A multiple is added of a row that vanishes. -/
theorem van_add {p : Int} {c : Nat} {r s r' x : Nat → Int} {k : Int} (h : ∀ j, j < c → r' j = (r j + k * s j) % p) (hs : van p c s x) : van p c r' x ↔ van p c r x := by
  have e : van p c r' x ↔ van p c (fun j => r j + k * s j) x := van_emod (fun j hj => by rw [h j hj, Int.emod_emod])
  rw [e]
  unfold van at hs ⊢
  have e2 : sm c (fun j => (r j + k * s j) * x j) = sm c (fun j => r j * x j) + k * sm c (fun j => s j * x j) := by
    rw [← sm_mul, ← sm_add]
    apply sm_congr
    intro j _
    rw [Int.add_mul, Int.mul_assoc]
  rw [e2, Int.add_emod, Int.mul_emod, hs]
  simp
/-- A row is multiplied by a number that has an inverse. -/
theorem van_scale {p : Int} {c : Nat} {r r' x : Nat → Int} {f g : Int} (h : ∀ j, j < c → r' j = r j * f % p) (hfg : f * g % p = 1 % p) : van p c r' x ↔ van p c r x := by
  have e : van p c r' x ↔ van p c (fun j => r j * f) x := van_emod (fun j hj => by rw [h j hj, Int.emod_emod])
  rw [e]
  unfold van
  have e2 : sm c (fun j => r j * f * x j) = f * sm c (fun j => r j * x j) := by
    rw [← sm_mul]
    apply sm_congr
    intro j _
    rw [Int.mul_comm (r j) f, Int.mul_assoc]
  rw [e2]
  constructor
  · intro h0
    have h1 : (g * (f * sm c (fun j => r j * x j))) % p = 0 := by rw [Int.mul_emod, h0]; simp
    rw [← Int.mul_assoc, Int.mul_comm g f, Int.mul_emod, hfg, ← Int.mul_emod, Int.one_mul] at h1
    exact h1
  · intro h0
    rw [Int.mul_emod, h0]; simp

theorem inv_mul {p a : Int} (hp : prm p = true) (h0 : 1 ≤ a) (h1 : a < p) : a * inv p a % p = 1 :=
  (inv_iff hp h0 h1 (inv_pos hp h0 h1) (Int.le_refl _)).2 rfl

/-! ### What a reduced basis is -/
structure IsBas (p : Int) (c : Nat) (A m : List (List Int)) : Prop where
  len : ∀ i, i < m.length → (rw' m i).length = c
  red : ∃ P, Rref p m.length c (at' m) P
  nul : ∀ x, nul p A.length c (at' A) x ↔ Go.Proofs.YtkibkkdeaojjoabGreat.nul p m.length c (at' m) x
theorem IsBas.unique {p : Int} {c : Nat} {A m m' : List (List Int)} (hp : 1 < p) (h : IsBas p c A m) (h' : IsBas p c A m') : m = m' := by
  obtain ⟨P, hP⟩ := h.red
  obtain ⟨P', hP'⟩ := h'.red
  obtain ⟨e1, _, e3⟩ := hP.unique hp hP' (fun x => (h.nul x).symm.trans (h'.nul x))
  refine mat_ext e1 (fun i hi => row_ext (by rw [h.len i hi, h'.len i (by omega)]) (fun j hj => ?_))
  exact e3 i hi j (by rw [h.len i hi] at hj; exact hj)

/-! ### The model's elimination: column by column -/
/-- Where it stands: d rows done, k columns seen. -/
structure ColAt (p : Int) (c : Nat) (A m : List (List Int)) (d k : Nat) (P : Nat → Nat) : Prop where
  n : m.length = A.length
  dn : d ≤ m.length
  len : ∀ i, i < m.length → (rw' m i).length = c
  rng : ∀ i, i < m.length → ∀ j, j < c → 0 ≤ at' m i j ∧ at' m i j < p
  pv : ∀ i, i < d → P i < k
  mono : ∀ i i', i < i' → i' < d → P i < P i'
  one : ∀ i, i < d → at' m i (P i) = 1
  zer : ∀ i, i < d → ∀ i', i' < m.length → i ≠ i' → at' m i' (P i) = 0
  fst : ∀ i, i < d → ∀ j, j < P i → at' m i j = 0
  low : ∀ i, d ≤ i → i < m.length → ∀ j, j < k → at' m i j = 0
  nul : ∀ x, Go.Proofs.YtkibkkdeaojjoabGreat.nul p A.length c (at' A) x ↔ Go.Proofs.YtkibkkdeaojjoabGreat.nul p m.length c (at' m) x
theorem ColAt.start {p : Int} {c : Nat} {A : List (List Int)} (hl : ∀ i, i < A.length → (rw' A i).length = c) (hr : ∀ i, i < A.length → ∀ j, j < c → 0 ≤ at' A i j ∧ at' A i j < p) : ColAt p c A A 0 0 (fun _ => 0) where
  n := rfl
  dn := Nat.zero_le _
  len := hl
  rng := hr
  pv i hi := by omega
  mono i i' _ hi := by omega
  one i hi := by omega
  zer i hi := by omega
  fst i hi := by omega
  low i _ _ j hj := by omega
  nul x := Iff.rfl
/-- No pivot in column k. -/
theorem ColAt.skip {p : Int} {c : Nat} {A m : List (List Int)} {d k : Nat} {P : Nat → Nat} (h : ColAt p c A m d k P) (hz : ∀ i, d ≤ i → i < m.length → at' m i k = 0) : ColAt p c A m d (k + 1) P :=
  { h with
    pv := fun i hi => Nat.lt_succ_of_lt (h.pv i hi)
    low := fun i h1 h2 j hj => by
      by_cases e : j = k
      · subst e; exact hz i h1 h2
      · exact h.low i h1 h2 j (by omega) }
/-- All columns are seen. -/
theorem ColAt.done {p : Int} {c : Nat} {A m : List (List Int)} {d : Nat} {P : Nat → Nat} (h : ColAt p c A m d c P) : IsBas p c A (m.take d) := by
  have hl : (m.take d).length = d := by rw [List.length_take]; have := h.dn; omega
  have hrow : ∀ i, i < d → rw' (m.take d) i = rw' m i := fun i hi => by
    simp only [rw', List.getD_eq_getElem?_getD, List.getElem?_take]; rw [if_pos hi]
  have hat : ∀ i, i < d → at' (m.take d) i = at' m i := fun i hi => by funext j; unfold at'; rw [hrow i hi]
  have hdn := h.dn
  refine ⟨fun i hi => by rw [hl] at hi; rw [hrow i hi]; exact h.len i (by omega), ⟨P, ?_⟩, fun x => ?_⟩
  · rw [hl]
    exact ⟨h.pv, h.mono, fun i hi => by rw [hat i hi]; exact h.one i hi, fun i hi i' hi' hne => by rw [hat i' hi']; exact h.zer i hi i' (by omega) hne, fun i hi j hj => by rw [hat i hi]; exact h.fst i hi j hj, fun i hi j hj => by rw [hat i hi]; exact h.rng i (by omega) j hj⟩
  · rw [h.nul x, hl]
    constructor
    · intro g i hi
      have := g i (by omega)
      rw [hat i hi]; exact this
    · intro g i hi
      by_cases e : i < d
      · have := g i e
        rw [hat i e] at this; exact this
      · have e0 : sm c (fun j => at' m i j * x j) = sm c (fun _ => 0) := sm_congr (fun j hj => by rw [h.low i (by omega) hi j hj, Int.zero_mul])
        rw [e0, sm_zero]; rfl
/-- A pivot in row f of column k: what becomes of the rows. -/
theorem ColAt.pick {p : Int} {c : Nat} {A m m' : List (List Int)} {d k f : Nat} {P : Nat → Nat} (hp : prm p = true) (h : ColAt p c A m d k P) (hk : k < c) (hdf : d ≤ f) (hf : f < m.length) (ha : 1 ≤ at' m f k)
    (hn : m'.length = m.length) (hl : ∀ i, i < m'.length → (rw' m' i).length = c)
    (hd : ∀ j, j < c → at' m' d j = at' m f j * inv p (at' m f k) % p)
    (ho : ∀ i, i < m.length → i ≠ d → ∀ j, j < c → at' m' i j = (at' m (if i = f then d else i) j + (p - at' m (if i = f then d else i) k) % p * at' m' d j) % p) :
    ColAt p c A m' (d + 1) (k + 1) (fun i => if i = d then k else P i) := by
  have hpb := prm_bd hp
  have hak := h.rng f hf k hk
  have hdk : at' m' d k = 1 := by rw [hd k hk]; exact inv_mul hp ha hak.2
  have hd0 : ∀ j, j < k → at' m' d j = 0 := fun j hj => by rw [hd j (by omega), h.low f hdf hf j hj]; simp
  have hsig : ∀ i, i < m.length → i ≠ d → (if i = f then d else i) < m.length := fun i hi hne => by split <;> omega
  have hok : ∀ i, i < m.length → i ≠ d → at' m' i k = 0 := fun i hi hne => by
    rw [ho i hi hne k hk, hdk, Int.mul_one]
    have r := h.rng _ (hsig i hi hne) k hk
    by_cases e : at' m (if i = f then d else i) k = 0
    · rw [e]; simp
    · rw [Int.emod_eq_of_lt (a := p - at' m (if i = f then d else i) k) (by omega) (by omega)]
      have : at' m (if i = f then d else i) k + (p - at' m (if i = f then d else i) k) = p := by omega
      rw [this]; simp
  have hkeep : ∀ i, i < m.length → i ≠ d → ∀ j, j < k → at' m' i j = at' m (if i = f then d else i) j := fun i hi hne j hj => by
    rw [ho i hi hne j (by omega), hd0 j hj, Int.mul_zero, Int.add_zero]
    have r := h.rng _ (hsig i hi hne) j (by omega)
    exact Int.emod_eq_of_lt r.1 r.2
  refine ⟨by rw [hn, h.n], by omega, hl, fun i hi j hj => ?_, fun i hi => ?_, fun i i' hii hi' => ?_, fun i hi => ?_, fun i hi i' hi' hne => ?_, fun i hi j hj => ?_, fun i hi0 hi j hj => ?_, fun x => ?_⟩
  · rw [hn] at hi
    by_cases e : i = d
    · subst e; rw [hd j hj]; exact mod_bd hp _
    · rw [ho i hi e j hj]; exact mod_bd hp _
  · show (if i = d then k else P i) < k + 1
    by_cases e : i = d
    · rw [if_pos e]; omega
    · rw [if_neg e]; have := h.pv i (by omega); omega
  · show (if i = d then k else P i) < if i' = d then k else P i'
    have e : ¬ i = d := by omega
    rw [if_neg e]
    by_cases e' : i' = d
    · rw [if_pos e']; exact h.pv i (by omega)
    · rw [if_neg e']; exact h.mono i i' hii (by omega)
  · show at' m' i (if i = d then k else P i) = 1
    by_cases e : i = d
    · rw [if_pos e, e]; exact hdk
    · have hid : i < d := by omega
      rw [if_neg e, hkeep i (by have := h.dn; omega) e _ (h.pv i hid), if_neg (by omega)]
      exact h.one i hid
  · show at' m' i' (if i = d then k else P i) = 0
    rw [hn] at hi'
    by_cases e : i = d
    · rw [if_pos e]; exact hok i' hi' (by omega)
    · have hid : i < d := by omega
      rw [if_neg e]
      by_cases e' : i' = d
      · rw [e']; exact hd0 _ (h.pv i hid)
      · rw [hkeep i' hi' e' _ (h.pv i hid)]
        refine h.zer i hid _ (hsig i' hi' e') ?_
        split <;> omega
  · show at' m' i j = 0
    have hj' : j < (if i = d then k else P i) := hj
    by_cases e : i = d
    · rw [if_pos e] at hj'; rw [e]; exact hd0 j hj'
    · have hid : i < d := by omega
      rw [if_neg e] at hj'
      rw [hkeep i (by have := h.dn; omega) e j (by have := h.pv i hid; omega), if_neg (by omega)]
      exact h.fst i hid j hj'
  · rw [hn] at hi
    have e : ¬ i = d := by omega
    by_cases ek : j = k
    · rw [ek]; exact hok i hi e
    · rw [hkeep i hi e j (by omega)]
      refine h.low _ ?_ (hsig i hi e) j (by omega)
      split <;> omega
  · rw [h.nul x]
    have vd : van p c (at' m' d) x ↔ van p c (at' m f) x := van_scale (g := at' m f k) hd (by rw [Int.mul_comm, inv_mul hp ha hak.2, Int.emod_eq_of_lt (by omega) (by omega)])
    have vo : van p c (at' m f) x → ∀ i, i < m.length → i ≠ d → (van p c (at' m' i) x ↔ van p c (at' m (if i = f then d else i)) x) := fun hv i hi hne => van_add (ho i hi hne) (vd.2 hv)
    constructor
    · intro g i hi
      rw [hn] at hi
      by_cases e : i = d
      · subst e; exact vd.2 (g f hf)
      · exact (vo (g f hf) i hi e).2 (g _ (hsig i hi e))
    · intro g i hi
      have hvf : van p c (at' m f) x := vd.1 (g d (by rw [hn]; omega))
      by_cases e : i = f
      · subst e; exact hvf
      · by_cases e' : i = d
        · have hfd : f ≠ d := by omega
          have := (vo hvf f hf hfd).1 (g f (by rw [hn]; exact hf))
          rw [if_pos rfl] at this
          rw [e']; exact this
        · have := (vo hvf i hi e').1 (g i (by rw [hn]; exact hi))
          rw [if_neg e] at this
          exact this

end Go.Proofs.YtkibkkdeaojjoabGreat

namespace Go.Proofs.YtkibkkdeaojjoabGreat
set_option linter.unusedVariables false

/-- Where the first number other than 0 stands. -/
def fstN (z : List Int) : Nat := z.findIdx (fun x => x != 0)
theorem fstN_eq {z : List Int} {q : Nat} (hq : q < z.length) (h1 : z.getD q 0 ≠ 0) (h0 : ∀ j, j < q → z.getD j 0 = 0) : fstN z = q := by
  unfold fstN
  rw [List.findIdx_eq hq]
  refine ⟨by simpa [List.getD, hq] using h1, fun j hj => ?_⟩
  have := h0 j hj
  have hj' : j < z.length := by omega
  simp [List.getD, hj'] at this
  simp [this]
/-- The places of the first numbers of rows. -/
def pvs (B : List (List Int)) (i : Nat) : Nat := fstN (rw' B i)
theorem Rref.pvs {p : Int} {c : Nat} {B : List (List Int)} {P : Nat → Nat} (h : Rref p B.length c (at' B) P) (hl : ∀ i, i < B.length → (rw' B i).length = c) {i : Nat} (hi : i < B.length) : Go.Proofs.YtkibkkdeaojjoabGreat.pvs B i = P i := by
  unfold Go.Proofs.YtkibkkdeaojjoabGreat.pvs
  refine fstN_eq (by rw [hl i hi]; exact h.pv i hi) ?_ (fun j hj => h.fst i hi j hj)
  have := h.one i hi
  unfold at' at this
  rw [this]; decide
theorem Rref.congrP {p : Int} {n c : Nat} {R : Nat → Nat → Int} {P P' : Nat → Nat} (h : Rref p n c R P) (e : ∀ i, i < n → P' i = P i) : Rref p n c R P' where
  pv i hi := by rw [e i hi]; exact h.pv i hi
  mono i i' hi hi' := by rw [e i (by omega), e i' hi']; exact h.mono i i' hi hi'
  one i hi := by rw [e i hi]; exact h.one i hi
  zer i hi i' hi' hne := by rw [e i hi]; exact h.zer i hi i' hi' hne
  fst i hi j hj := by rw [e i hi] at hj; exact h.fst i hi j hj
  rng := h.rng
theorem IsBas.pivs {p : Int} {c : Nat} {A B : List (List Int)} (h : IsBas p c A B) : Rref p B.length c (at' B) (pvs B) := by
  obtain ⟨P, hP⟩ := h.red
  exact hP.congrP (fun i hi => hP.pvs h.len hi)

end Go.Proofs.YtkibkkdeaojjoabGreat
