/-
  Elimination modulo a prime: steps on rows, and what they keep. No Go in sight.
  No conditions.
  A number that lies in memory: what keeps it, what writes it, what reads it.
  No conditions.
  What the program's operations on numbers return: contracts of remainderOf, plus, minus, times.
  Conditions: the prime is one, and the numbers are remainders by it.
  What the model's check of a prime and of a list of numbers returns, and both checks at the short lists that the functions of chapter 1 build.
  Conditions: the lists are rows of cells that are known.
  What powers, inverses and quotients of numbers return: contracts of the program's methods and of the model's helpers.
  Conditions: the prime is one, the numbers are remainders by it, an exponent is at most 1000.
  What inverses, powers with negative exponents and quotients of numbers return, in the program.
  Conditions: the prime is one, the numbers are remainders by it, a divisor is not 0, an exponent is from -1000000 to 1000000.
  Inverses of numbers, for the linear algebra: what XPower and XOver have.
  No conditions.
  What the model's sums, multiples, copies, turned matrices and unit matrices are: contracts.
  Conditions: the lists and matrices are rows of known cells with numbers of the prime; their sizes fit.
  The program's new matrices of zeros.
  Conditions: at least one column, at most 1024 rows and columns.
  The program's transposed matrices and unit matrices: contracts.
  Conditions: the matrix is a row of rows of known cells, all of one length, at most 1024.
  Sums of products of lists, and products of matrices with vectors, in the program and in the model: contracts.
  Conditions: the lists and matrices are rows of known cells with numbers of the prime; their sizes fit.
-/
import Derived.Test.YtdfkpbmccmbjmaaQg2
import Derived.Test.YtdfkpbmccmbjmaaQg1
import Derived.Outline
import Derived.BigQuiet
import Derived.Deep.QuietTactic
import Derived.Deep.RegionHeld3
import Derived.RegionTactic
import Derived.Deep.AppendLies
import Derived.ChangeAlike
namespace Go.Proofs.Ytdfkpbmccmbjmaa
set_option linter.unusedVariables false

/-! ### One row at x -/
def van (p : Int) (c : Nat) (r x : Nat → Int) : Prop := sm c (fun j => r j * x j) % p = 0
theorem sm_emod_congr {p : Int} {c : Nat} {f g : Nat → Int} (h : ∀ j, j < c → f j % p = g j % p) : sm c f % p = sm c g % p := by
  induction c with
  | zero => rfl
  | succ c ih => simp only [sm]; rw [Int.add_emod, ih (fun j hj => h j (by omega)), h c (by omega), ← Int.add_emod]
theorem van_emod {p : Int} {c : Nat} {r r' x : Nat → Int} (h : ∀ j, j < c → r j % p = r' j % p) : van p c r x ↔ van p c r' x := by
  unfold van
  rw [sm_emod_congr (f := fun j => r j * x j) (g := fun j => r' j * x j) (fun j hj => by rw [Int.mul_emod, h j hj, ← Int.mul_emod])]
/-- A multiple is added of a row that vanishes. -/
theorem van_add {p : Int} {c : Nat} {r s r' x : Nat → Int} {k : Int} (h : ∀ j, j < c → r' j = (r j + k * s j) % p) (hs : van p c s x) : van p c r' x ↔ van p c r x := by
  have e : van p c r' x ↔ van p c (fun j => r j + k * s j) x := van_emod (fun j hj => by rw [h j hj, Int.emod_emod])
  rw [e]
  unfold van at hs ⊢
  have e2 : sm c (fun j => (r j + k * s j) * x j) = sm c (fun j => r j * x j) + k * sm c (fun j => s j * x j) := by
    rw [← sm_mul, ← sm_add]
    apply sm_congr
    intro j _
    rw [Int.add_mul, Int.mul_assoc]
  rw [e2, Int.add_emod, Int.mul_emod, hs]
  simp
/-- A row is multiplied by a number that has an inverse. -/
theorem van_scale {p : Int} {c : Nat} {r r' x : Nat → Int} {f g : Int} (h : ∀ j, j < c → r' j = r j * f % p) (hfg : f * g % p = 1 % p) : van p c r' x ↔ van p c r x := by
  have e : van p c r' x ↔ van p c (fun j => r j * f) x := van_emod (fun j hj => by rw [h j hj, Int.emod_emod])
  rw [e]
  unfold van
  have e2 : sm c (fun j => r j * f * x j) = f * sm c (fun j => r j * x j) := by
    rw [← sm_mul]
    apply sm_congr
    intro j _
    rw [Int.mul_comm (r j) f, Int.mul_assoc]
  rw [e2]
  constructor
  · intro h0
    have h1 : (g * (f * sm c (fun j => r j * x j))) % p = 0 := by rw [Int.mul_emod, h0]; simp
    rw [← Int.mul_assoc, Int.mul_comm g f, Int.mul_emod, hfg, ← Int.mul_emod, Int.one_mul] at h1
    exact h1
  · intro h0
    rw [Int.mul_emod, h0]; simp

theorem inv_mul {p a : Int} (hp : prm p = true) (h0 : 1 ≤ a) (h1 : a < p) : a * inv p a % p = 1 :=
  (inv_iff hp h0 h1 (inv_pos hp h0 h1) (Int.le_refl _)).2 rfl

/-! ### What a reduced basis is -/
structure IsBas (p : Int) (c : Nat) (A m : List (List Int)) : Prop where
  len : ∀ i, i < m.length → (rw' m i).length = c
  red : ∃ P, Rref p m.length c (at' m) P
  nul : ∀ x, nul p A.length c (at' A) x ↔ Go.Proofs.Ytdfkpbmccmbjmaa.nul p m.length c (at' m) x
theorem IsBas.unique {p : Int} {c : Nat} {A m m' : List (List Int)} (hp : 1 < p) (h : IsBas p c A m) (h' : IsBas p c A m') : m = m' := by
  obtain ⟨P, hP⟩ := h.red
  obtain ⟨P', hP'⟩ := h'.red
  obtain ⟨e1, _, e3⟩ := hP.unique hp hP' (fun x => (h.nul x).symm.trans (h'.nul x))
  refine mat_ext e1 (fun i hi => row_ext (by rw [h.len i hi, h'.len i (by omega)]) (fun j hj => ?_))
  exact e3 i hi j (by rw [h.len i hi] at hj; exact hj)

/-! ### The model's elimination: column by column -/
/-- Where it stands: d rows done, k columns seen. -/
structure ColAt (p : Int) (c : Nat) (A m : List (List Int)) (d k : Nat) (P : Nat → Nat) : Prop where
  n : m.length = A.length
  dn : d ≤ m.length
  len : ∀ i, i < m.length → (rw' m i).length = c
  rng : ∀ i, i < m.length → ∀ j, j < c → 0 ≤ at' m i j ∧ at' m i j < p
  pv : ∀ i, i < d → P i < k
  mono : ∀ i i', i < i' → i' < d → P i < P i'
  one : ∀ i, i < d → at' m i (P i) = 1
  zer : ∀ i, i < d → ∀ i', i' < m.length → i ≠ i' → at' m i' (P i) = 0
  fst : ∀ i, i < d → ∀ j, j < P i → at' m i j = 0
  low : ∀ i, d ≤ i → i < m.length → ∀ j, j < k → at' m i j = 0
  nul : ∀ x, Go.Proofs.Ytdfkpbmccmbjmaa.nul p A.length c (at' A) x ↔ Go.Proofs.Ytdfkpbmccmbjmaa.nul p m.length c (at' m) x
theorem ColAt.start {p : Int} {c : Nat} {A : List (List Int)} (hl : ∀ i, i < A.length → (rw' A i).length = c) (hr : ∀ i, i < A.length → ∀ j, j < c → 0 ≤ at' A i j ∧ at' A i j < p) : ColAt p c A A 0 0 (fun _ => 0) where
  n := rfl
  dn := Nat.zero_le _
  len := hl
  rng := hr
  pv i hi := by omega
  mono i i' _ hi := by omega
  one i hi := by omega
  zer i hi := by omega
  fst i hi := by omega
  low i _ _ j hj := by omega
  nul x := Iff.rfl
/-- No pivot in column k. -/
theorem ColAt.skip {p : Int} {c : Nat} {A m : List (List Int)} {d k : Nat} {P : Nat → Nat} (h : ColAt p c A m d k P) (hz : ∀ i, d ≤ i → i < m.length → at' m i k = 0) : ColAt p c A m d (k + 1) P :=
  { h with
    pv := fun i hi => Nat.lt_succ_of_lt (h.pv i hi)
    low := fun i h1 h2 j hj => by
      by_cases e : j = k
      · subst e; exact hz i h1 h2
      · exact h.low i h1 h2 j (by omega) }
/-- All columns are seen. -/
theorem ColAt.done {p : Int} {c : Nat} {A m : List (List Int)} {d : Nat} {P : Nat → Nat} (h : ColAt p c A m d c P) : IsBas p c A (m.take d) := by
  have hl : (m.take d).length = d := by rw [List.length_take]; have := h.dn; omega
  have hrow : ∀ i, i < d → rw' (m.take d) i = rw' m i := fun i hi => by
    simp only [rw', List.getD_eq_getElem?_getD, List.getElem?_take]; rw [if_pos hi]
  have hat : ∀ i, i < d → at' (m.take d) i = at' m i := fun i hi => by funext j; unfold at'; rw [hrow i hi]
  have hdn := h.dn
  refine ⟨fun i hi => by rw [hl] at hi; rw [hrow i hi]; exact h.len i (by omega), ⟨P, ?_⟩, fun x => ?_⟩
  · rw [hl]
    exact ⟨h.pv, h.mono, fun i hi => by rw [hat i hi]; exact h.one i hi, fun i hi i' hi' hne => by rw [hat i' hi']; exact h.zer i hi i' (by omega) hne, fun i hi j hj => by rw [hat i hi]; exact h.fst i hi j hj, fun i hi j hj => by rw [hat i hi]; exact h.rng i (by omega) j hj⟩
  · rw [h.nul x, hl]
    constructor
    · intro g i hi
      have := g i (by omega)
      rw [hat i hi]; exact this
    · intro g i hi
      by_cases e : i < d
      · have := g i e
        rw [hat i e] at this; exact this
      · have e0 : sm c (fun j => at' m i j * x j) = sm c (fun _ => 0) := sm_congr (fun j hj => by rw [h.low i (by omega) hi j hj, Int.zero_mul])
        rw [e0, sm_zero]; rfl
/-- A pivot in row f of column k: what becomes of the rows. -/
theorem ColAt.pick {p : Int} {c : Nat} {A m m' : List (List Int)} {d k f : Nat} {P : Nat → Nat} (hp : prm p = true) (h : ColAt p c A m d k P) (hk : k < c) (hdf : d ≤ f) (hf : f < m.length) (ha : 1 ≤ at' m f k)
    (hn : m'.length = m.length) (hl : ∀ i, i < m'.length → (rw' m' i).length = c)
    (hd : ∀ j, j < c → at' m' d j = at' m f j * inv p (at' m f k) % p)
    (ho : ∀ i, i < m.length → i ≠ d → ∀ j, j < c → at' m' i j = (at' m (if i = f then d else i) j + (p - at' m (if i = f then d else i) k) % p * at' m' d j) % p) :
    ColAt p c A m' (d + 1) (k + 1) (fun i => if i = d then k else P i) := by
  have hpb := prm_bd hp
  have hak := h.rng f hf k hk
  have hdk : at' m' d k = 1 := by rw [hd k hk]; exact inv_mul hp ha hak.2
  have hd0 : ∀ j, j < k → at' m' d j = 0 := fun j hj => by rw [hd j (by omega), h.low f hdf hf j hj]; simp
  have hsig : ∀ i, i < m.length → i ≠ d → (if i = f then d else i) < m.length := fun i hi hne => by split <;> omega
  have hok : ∀ i, i < m.length → i ≠ d → at' m' i k = 0 := fun i hi hne => by
    rw [ho i hi hne k hk, hdk, Int.mul_one]
    have r := h.rng _ (hsig i hi hne) k hk
    by_cases e : at' m (if i = f then d else i) k = 0
    · rw [e]; simp
    · rw [Int.emod_eq_of_lt (a := p - at' m (if i = f then d else i) k) (by omega) (by omega)]
      have : at' m (if i = f then d else i) k + (p - at' m (if i = f then d else i) k) = p := by omega
      rw [this]; simp
  have hkeep : ∀ i, i < m.length → i ≠ d → ∀ j, j < k → at' m' i j = at' m (if i = f then d else i) j := fun i hi hne j hj => by
    rw [ho i hi hne j (by omega), hd0 j hj, Int.mul_zero, Int.add_zero]
    have r := h.rng _ (hsig i hi hne) j (by omega)
    exact Int.emod_eq_of_lt r.1 r.2
  refine ⟨by rw [hn, h.n], by omega, hl, fun i hi j hj => ?_, fun i hi => ?_, fun i i' hii hi' => ?_, fun i hi => ?_, fun i hi i' hi' hne => ?_, fun i hi j hj => ?_, fun i hi0 hi j hj => ?_, fun x => ?_⟩
  · rw [hn] at hi
    by_cases e : i = d
    · subst e; rw [hd j hj]; exact mod_bd hp _
    · rw [ho i hi e j hj]; exact mod_bd hp _
  · show (if i = d then k else P i) < k + 1
    by_cases e : i = d
    · rw [if_pos e]; omega
    · rw [if_neg e]; have := h.pv i (by omega); omega
  · show (if i = d then k else P i) < if i' = d then k else P i'
    have e : ¬ i = d := by omega
    rw [if_neg e]
    by_cases e' : i' = d
    · rw [if_pos e']; exact h.pv i (by omega)
    · rw [if_neg e']; exact h.mono i i' hii (by omega)
  · show at' m' i (if i = d then k else P i) = 1
    by_cases e : i = d
    · rw [if_pos e, e]; exact hdk
    · have hid : i < d := by omega
      rw [if_neg e, hkeep i (by have := h.dn; omega) e _ (h.pv i hid), if_neg (by omega)]
      exact h.one i hid
  · show at' m' i' (if i = d then k else P i) = 0
    rw [hn] at hi'
    by_cases e : i = d
    · rw [if_pos e]; exact hok i' hi' (by omega)
    · have hid : i < d := by omega
      rw [if_neg e]
      by_cases e' : i' = d
      · rw [e']; exact hd0 _ (h.pv i hid)
      · rw [hkeep i' hi' e' _ (h.pv i hid)]
        refine h.zer i hid _ (hsig i' hi' e') ?_
        split <;> omega
  · show at' m' i j = 0
    have hj' : j < (if i = d then k else P i) := hj
    by_cases e : i = d
    · rw [if_pos e] at hj'; rw [e]; exact hd0 j hj'
    · have hid : i < d := by omega
      rw [if_neg e] at hj'
      rw [hkeep i (by have := h.dn; omega) e j (by have := h.pv i hid; omega), if_neg (by omega)]
      exact h.fst i hid j hj'
  · rw [hn] at hi
    have e : ¬ i = d := by omega
    by_cases ek : j = k
    · rw [ek]; exact hok i hi e
    · rw [hkeep i hi e j (by omega)]
      refine h.low _ ?_ (hsig i hi e) j (by omega)
      split <;> omega
  · rw [h.nul x]
    have vd : van p c (at' m' d) x ↔ van p c (at' m f) x := van_scale (g := at' m f k) hd (by rw [Int.mul_comm, inv_mul hp ha hak.2, Int.emod_eq_of_lt (by omega) (by omega)])
    have vo : van p c (at' m f) x → ∀ i, i < m.length → i ≠ d → (van p c (at' m' i) x ↔ van p c (at' m (if i = f then d else i)) x) := fun hv i hi hne => van_add (ho i hi hne) (vd.2 hv)
    constructor
    · intro g i hi
      rw [hn] at hi
      by_cases e : i = d
      · subst e; exact vd.2 (g f hf)
      · exact (vo (g f hf) i hi e).2 (g _ (hsig i hi e))
    · intro g i hi
      have hvf : van p c (at' m f) x := vd.1 (g d (by rw [hn]; omega))
      by_cases e : i = f
      · subst e; exact hvf
      · by_cases e' : i = d
        · have hfd : f ≠ d := by omega
          have := (vo hvf f hf hfd).1 (g f (by rw [hn]; exact hf))
          rw [if_pos rfl] at this
          rw [e']; exact this
        · have := (vo hvf i hi e').1 (g i (by rw [hn]; exact hi))
          rw [if_neg e] at this
          exact this

end Go.Proofs.Ytdfkpbmccmbjmaa

namespace Go.Proofs.Ytdfkpbmccmbjmaa
open Go.RowKit
set_option linter.unusedVariables false

theorem field_value (x y : Value) (w : World) : (Instr.field 56 (.agg #[x, y]) 1).run Try.prog w = .ok y w := by kernel_rfl

/-- A number lies in a block: its prime and its value. -/
structure NumAt (w : World) (b : Nat) (p v : Int) : Prop where
  c0 : w.cell? ⟨b, 0, none⟩ = some (.int .i64 p)
  c1 : w.cell? ⟨b, 1, none⟩ = some (.int .i64 v)
  f0 : w.frozen? ⟨b, 0, none⟩ = false
  f1 : w.frozen? ⟨b, 1, none⟩ = false
theorem NumAt.keep {w w1 : World} {b : Nat} {p v : Int} (h : NumAt w b p v) (hb : Below w.heap.size w w1) (lt : b < w.heap.size) : NumAt w1 b p v :=
  ⟨(hb.cell (p := ⟨b, 0, none⟩) lt).trans h.c0, (hb.cell (p := ⟨b, 1, none⟩) lt).trans h.c1, (hb.frozen (p := ⟨b, 0, none⟩) lt).trans h.f0, (hb.frozen (p := ⟨b, 1, none⟩) lt).trans h.f1⟩
theorem NumAt.alloc {w : World} {b : Nat} {p v : Int} (h : NumAt w b p v) (lt : b < w.heap.size) (o : Obj) : NumAt (w.alloc o) b p v :=
  h.keep ((Below.refl _ _).alloc (Nat.le_refl _) o) lt
theorem numAt_new (w : World) (p v : Int) (t : TypeId) : NumAt (w.alloc (.cells #[.int .i64 p, .int .i64 v] t)) w.heap.size p v :=
  ⟨by simp [go_sem], by simp [go_sem], by simp [go_sem], by simp [go_sem]⟩
theorem NumAt.drew {w : World} {b : Nat} {p v : Int} (h : NumAt w b p v) : NumAt w.drew b p v := ⟨h.c0, h.c1, h.f0, h.f1⟩
theorem numAt_new1 (w : World) (o : Obj) (p v : Int) (t : TypeId) : NumAt ((w.alloc o).alloc (.cells #[.int .i64 p, .int .i64 v] t)) (w.heap.size + 1) p v := by
  simpa using numAt_new (w.alloc o) p v t
theorem numAt_new2 (w : World) (o o' : Obj) (p v : Int) (t : TypeId) : NumAt (((w.alloc o).alloc o').alloc (.cells #[.int .i64 p, .int .i64 v] t)) (w.heap.size + 1 + 1) p v := by
  simpa using numAt_new ((w.alloc o).alloc o') p v t
theorem NumAt.set {w : World} {b : Nat} {p v : Int} (h : NumAt w b p v) (q u : Int) : NumAt ((w.setCell ⟨b, 0, none⟩ (.int .i64 q)).setCell ⟨b, 1, none⟩ (.int .i64 u)) b q u :=
  ⟨by simp [go_sem, h.c0], by simp [go_sem, h.c1], by simp [go_sem, h.f0], by simp [go_sem, h.f1]⟩
theorem NumAt.far {w : World} {b c : Nat} {p v : Int} (h : NumAt w b p v) (hne : b ≠ c) (o : Nat) (x : Value) : NumAt (w.setCell ⟨c, o, none⟩ x) b p v :=
  ⟨(World.cell?_setCell_other _ _ _ _ (fun e => hne (by injection e with e1; exact e1.symm))).trans h.c0, (World.cell?_setCell_other _ _ _ _ (fun e => hne (by injection e with e1; exact e1.symm))).trans h.c1, by simp [go_sem, h.f0], by simp [go_sem, h.f1]⟩

end Go.Proofs.Ytdfkpbmccmbjmaa

namespace Go.Proofs.Ytdfkpbmccmbjmaa
open Go.RowKit
set_option linter.unusedVariables false

theorem tmod_neg {n p : Int} (hn : n < 0) (hp : 0 < p) : n.tmod p = -((-n) % p) := by
  have h : n = -(-n) := by omega
  rw [h, Int.neg_tmod, Int.tmod_eq_emod_of_nonneg (by omega)]
  simp
theorem tmod_facts {n p : Int} (hn : n < 0) (hp : 0 < p) : -p < n.tmod p ∧ n.tmod p ≤ 0 ∧ (n.tmod p < 0 → n.tmod p + p = n % p) ∧ (n.tmod p = 0 → n % p = 0) := by
  rw [tmod_neg hn hp]
  have h1 := Int.emod_nonneg (-n) (by omega : p ≠ 0)
  have h2 := Int.emod_lt_of_pos (-n) hp
  have h3 := Int.emod_nonneg n (by omega : p ≠ 0)
  have h4 := Int.emod_lt_of_pos n hp
  have h5 := Int.mul_ediv_add_emod (-n) p
  have h6 := Int.mul_ediv_add_emod n p
  have key : ∀ q : Int, (0 < (-n) % p + n % p - 0 → True) := fun _ _ => trivial
  have h7 : ((-n) % p + n % p) % p = 0 := by rw [← Int.add_emod, Int.add_left_neg]; simp
  refine ⟨by omega, by omega, fun h => ?_, fun h => ?_⟩
  · have h8 : (-n) % p + n % p = p := by
      by_cases hlt : (-n) % p + n % p < p
      · rw [Int.emod_eq_of_lt (by omega) hlt] at h7; omega
      · have h9 : ((-n) % p + n % p - p) % p = 0 := by rw [Int.sub_emod, h7]; simp
        rw [Int.emod_eq_of_lt (by omega) (by omega)] at h9; omega
    omega
  · have h8 : (-n) % p = 0 := by omega
    rw [h8, Int.zero_add, Int.emod_eq_of_lt h3 h4] at h7
    exact h7

set_option maxHeartbeats 400000 in
theorem remainderOf_any (p n : Int) (w : World) (hp : prm p = true) (n0 : -9223372036854775808 ≤ n) (n1 : n ≤ 9223372036854775807) :
    Calls Try.prog 58 #[.int .i64 p, .int .i64 n] w fun e w' => e = .returned (.agg #[.int .i64 p, .int .i64 (n % p)]) ∧ Below w.heap.size w w' := by
  have hb := prm_bd hp
  have hm := mod_bd hp n
  clear hp
  by_cases hn : 0 ≤ n
  · go_enter Try.func58, Try.ntmps58
    go_wp2
    exact bodyPost_ret (v := .agg #[.int .i64 p, .int .i64 (n % p)]) (by simp [results, Try.results58, go_sem]) rfl ⟨rfl, (Below.refl _ _).alloc (Nat.le_refl _) _⟩
  · obtain ⟨t1, t2, t3, t4⟩ := tmod_facts (n := n) (p := p) (by omega) (by omega)
    by_cases ht : n.tmod p < 0
    · have H := Lib.hid (t3 ht)
      clear t3 t4
      go_enter Try.func58, Try.ntmps58
      go_wp2
      rw [H.out]
      exact bodyPost_ret (v := .agg #[.int .i64 p, .int .i64 (n % p)]) (by simp [results, Try.results58, go_sem]) rfl ⟨rfl, (Below.refl _ _).alloc (Nat.le_refl _) _⟩
    · have H0 : Hid (n.tmod p = n % p) := by show n.tmod p = n % p; have : n.tmod p = 0 := by omega
                                             rw [t4 this, this]
      clear t3 t4
      go_enter Try.func58, Try.ntmps58
      go_wp2
      rw [H0.out]
      exact bodyPost_ret (v := .agg #[.int .i64 p, .int .i64 (n % p)]) (by simp [results, Try.results58, go_sem]) rfl ⟨rfl, (Below.refl _ _).alloc (Nat.le_refl _) _⟩

set_option maxHeartbeats 400000 in
theorem times_any (p a b : Int) (w : World) (hp : prm p = true) (a0 : 0 ≤ a) (a1 : a < p) (b0 : 0 ≤ b) (b1 : b < p) :
    Calls Try.prog 46 #[.agg #[.int .i64 p, .int .i64 a], .agg #[.int .i64 p, .int .i64 b]] w fun e w' => e = .returned (.agg #[.int .i64 p, .int .i64 (a * b % p)]) ∧ Below w.heap.size w w' := by
  have hb := prm_bd hp
  obtain ⟨m0, m1⟩ := mul_bd hp a0 a1 b0 b1
  have HP := Lib.hid hp
  clear hp
  go_enter Try.func46, Try.ntmps46
  go_wp2_with (go_at_call 58; refine (remainderOf_any _ _ _ HP.out (by omega) (by omega)).mono ?_; rintro e w1 ⟨rfl, hb1⟩; obtain ⟨hc, hf⟩ := bcell hb1)
  refine bodyPost_ret (v := .agg #[.int .i64 p, .int .i64 (a * b % p)]) (by simp [results, Try.results46, go_sem, hc]) rfl ⟨rfl, ?_⟩
  (have hs_hb1 := hb1.size; (repeat' (first | with_reducible exact Below.refl _ _ | (with_reducible refine Below.setCell ?_ ?_ _) | (with_reducible refine Below.alloc ?_ ?_ _) | (with_reducible refine Below.drew ?_) | (with_reducible refine below_step ?_ ?_ hb1))); all_goals (first | (simp; done) | omega | (simp; omega) | (simp at hs_hb1 ⊢; omega)))

end Go.Proofs.Ytdfkpbmccmbjmaa

namespace Go.Proofs.Ytdfkpbmccmbjmaa
open Go.RowKit
set_option linter.unusedVariables false

theorem l01Inv_any (p a : Int) (w : World) (hp : prm p = true) (a0 : 1 ≤ a) (a1 : a < p) :
    Calls Try.prog 72 #[.int .i64 p, .int .i64 a] w fun e w' => e = .returned (.int .i64 (inv p a)) ∧ w = w' := by
  have hb := prm_bd hp
  obtain ⟨v0, v1⟩ := inv_bd hp a
  have v2 := inv_pos hp a0 a1
  have HP := Lib.hid hp
  clear hp
  go_enter Try.func72, Try.ntmps72
  go_wp2
  go_loop [5] (fun t => ∃ b : Int, 1 ≤ b ∧ b ≤ inv p a ∧ t = .int .i64 b) (fun t => (inv p a - intOf t).toNat)
  case atStart => exact ⟨1, by omega, by omega, rfl⟩
  case round =>
    obtain ⟨b, b0, b1, rfl⟩ := hrel
    obtain ⟨m0, m1⟩ := mul_bd (a := a) (b := b) HP.out (by omega) (by omega) (by omega) (by omega)
    obtain ⟨q0, q1⟩ := mod_bd HP.out (a * b)
    have hi := inv_iff (a := a) HP.out a0 a1 b0 b1
    by_cases hq : b = inv p a
    · have ht := hi.2 hq
      have HQ := Lib.hid hq
      clear hi hq
      go_wp2
      go_ret
      exact ⟨by rw [← HQ.out]; rfl, rfl⟩
    · have ht : ¬ a * b % p = 1 := fun h => hq (hi.1 h)
      clear hi
      go_wp2
      go_round
      case rel => exact ⟨b + 1, by omega, by omega, rfl⟩
      case measure => simp [intOf]; omega

set_option maxHeartbeats 800000 in
theorem power_pos (p a : Int) (m : Nat) (w : World) (hp : prm p = true) (a0 : 0 ≤ a) (a1 : a < p) (hm : m ≤ 1000000) :
    Calls Try.prog 76 #[.agg #[.int .i64 p, .int .i64 a], .int .i64 m] w fun e w' => e = .returned (.agg #[.int .i64 p, .int .i64 (pw p a m)]) ∧ Below w.heap.size w w' := by
  have HP := Lib.hid hp
  have hb := prm_bd hp
  clear hp
  go_enter Try.func76, Try.ntmps76
  go_wp2
  go_loopw [17] (fun t wr => ∃ j : Nat, j ≤ m ∧ t = .int .i64 j ∧ NumAt wr (w.heap.size + 1 + 1) p (pw p a j) ∧ NumAt wr w.heap.size p a ∧ NumAt wr (w.heap.size + 1) 0 0 ∧ Below w.heap.size w wr ∧ w.heap.size + 3 ≤ wr.heap.size) (fun t _ => m - (intOf t).toNat)
  case atStart =>
    refine ⟨0, Nat.zero_le _, rfl, ?_, ?_, ?_, by ((repeat' (first | with_reducible exact Below.refl _ _ | (with_reducible refine Below.setCell ?_ ?_ _) | (with_reducible refine Below.alloc ?_ ?_ _) | (with_reducible refine Below.drew ?_))); all_goals (first | (simp; done) | omega | (simp; omega))), by simp⟩
    · exact (by simpa [pw] using numAt_new ((w.alloc (Obj.cells #[.int .i64 p, .int .i64 a] _)).alloc (Obj.cells #[.int .i64 0, .int .i64 0] _)) p 1 _)
    · exact ((numAt_new w p a _).alloc (by simp) _).alloc (by simp; omega) _
    · exact NumAt.alloc (by simpa using numAt_new (w.alloc (Obj.cells #[.int .i64 p, .int .i64 a] _)) 0 0 _) (by simp) _
  case round =>
    obtain ⟨j, hj, rfl, n2, n0, n1, hbel, hz⟩ := hrel
    obtain ⟨q0, q1⟩ := pw_bd (a := a) HP.out j
    obtain ⟨g20, g21, k20, k21⟩ := n2
    obtain ⟨g00, g01, k00, k01⟩ := n0
    by_cases hlt : j < m
    · go_wp2_with (go_at_call 46; refine (times_any p (pw p a j) a _ HP.out q0 q1 a0 a1).mono ?_; rintro e w1 ⟨rfl, hb1⟩; have n2' := NumAt.keep (b := w.heap.size + 1 + 1) ⟨g20, g21, k20, k21⟩ hb1 (by omega); obtain ⟨e20, e21, h20, h21⟩ := n2')
      go_roundw
      case rel =>
        have hs1 := hb1.size
        have n2' : NumAt w1 (w.heap.size + 1 + 1) p (pw p a j) := ⟨e20, e21, h20, h21⟩
        refine ⟨j + 1, by omega, by go_num, n2'.set p _, ((NumAt.keep (b := w.heap.size) ⟨g00, g01, k00, k01⟩ hb1 (by omega)).far (by omega) _ _).far (by omega) _ _, ((n1.keep hb1 (by omega)).far (by omega) _ _).far (by omega) _ _, by (have hs_hb1 := hb1.size; have hs_hbel := hbel.size; (repeat' (first | with_reducible exact Below.refl _ _ | (with_reducible refine Below.setCell ?_ ?_ _) | (with_reducible refine Below.alloc ?_ ?_ _) | (with_reducible refine Below.drew ?_) | (with_reducible refine below_step ?_ ?_ hb1) | (with_reducible refine below_step ?_ ?_ hbel))); all_goals (first | (simp; done) | omega | (simp; omega) | (simp at hs_hb1 hs_hbel ⊢; omega))), by simp; omega⟩
      case measure => simp [intOf]; omega
    · have hjm : Hid (j = m) := by show j = m; omega
      obtain ⟨g10, g11, k10, k11⟩ := n1
      go_wp2
      refine bodyPost_ret (v := .agg #[.int .i64 p, .int .i64 (pw p a j)]) (by simp [results, Try.results76, go_sem, g10, g11]) rfl ⟨by rw [hjm.out], ?_⟩
      (have hs_hbel := hbel.size; (repeat' (first | with_reducible exact Below.refl _ _ | (with_reducible refine Below.setCell ?_ ?_ _) | (with_reducible refine Below.alloc ?_ ?_ _) | (with_reducible refine Below.drew ?_) | (with_reducible refine below_step ?_ ?_ hbel))); all_goals (first | (simp; done) | omega | (simp; omega) | (simp at hs_hbel ⊢; omega)))

end Go.Proofs.Ytdfkpbmccmbjmaa

namespace Go.Proofs.Ytdfkpbmccmbjmaa
open Go.RowKit
set_option linter.unusedVariables false

theorem power_any (p a : Int) (k : Int) (w : World) (hp : prm p = true) (a0 : 0 ≤ a) (a1 : a < p) (k0 : 0 ≤ k) (k1 : k ≤ 1000000) :
    Calls Try.prog 76 #[.agg #[.int .i64 p, .int .i64 a], .int .i64 k] w fun e w' => e = .returned (.agg #[.int .i64 p, .int .i64 (pw p a k.toNat)]) ∧ Below w.heap.size w w' := by
  have h := power_pos p a k.toNat w hp a0 a1 (by omega)
  rwa [Int.toNat_of_nonneg k0] at h

set_option maxHeartbeats 400000 in
theorem inverse_any (p a : Int) (w : World) (hp : prm p = true) (a0 : 0 ≤ a) (a1 : a < p) :
    Calls Try.prog 65 #[.agg #[.int .i64 p, .int .i64 a]] w fun e w' => e = .returned (.agg #[.int .i64 p, .int .i64 (inv p a)]) ∧ Below w.heap.size w w' := by
  have HP := Lib.hid hp
  have hb := prm_bd hp
  clear hp
  go_enter Try.func65, Try.ntmps65
  go_wp2_with (go_at_call 76; refine (power_any p a (p - 2) _ HP.out a0 a1 (by omega) (by omega)).mono ?_; rintro e w1 ⟨rfl, hb1⟩; obtain ⟨hc, hf⟩ := bcell hb1)
  refine bodyPost_ret (v := .agg #[.int .i64 p, .int .i64 (inv p a)]) (by simp [results, Try.results65, go_sem, hc, inv]) rfl ⟨rfl, ?_⟩
  (have hs_hb1 := hb1.size; (repeat' (first | with_reducible exact Below.refl _ _ | (with_reducible refine Below.setCell ?_ ?_ _) | (with_reducible refine Below.alloc ?_ ?_ _) | (with_reducible refine Below.drew ?_) | (with_reducible refine below_step ?_ ?_ hb1))); all_goals (first | (simp; done) | omega | (simp; omega) | (simp at hs_hb1 ⊢; omega)))

end Go.Proofs.Ytdfkpbmccmbjmaa

namespace Go.Proofs.Ytdfkpbmccmbjmaa
open Go.RowKit
set_option linter.unusedVariables false

def plusR (p : Int) (a b : List Int) (k : Int) : List Int := mkR a.length fun j => (a.getD j 0 + k * b.getD j 0) % p

set_option maxHeartbeats 1600000 in
set_option maxRecDepth 100000 in
theorem l02Plus_any (p k : Int) (a b : Option Addr) (za zb : List Int) (ca cb lo tp lo' tp' : Nat) (w : World) (hp : prm p = true) (ha : RowIn lo tp w a za) (hb : RowIn lo' tp' w b zb) (ht : tp ≤ w.heap.size) (ht' : tp' ≤ w.heap.size)
    (hl : za.length ≤ zb.length) (hs : za.length ≤ 1048576) (hna : ∀ j, j < za.length → 0 ≤ za.getD j 0 ∧ za.getD j 0 < p) (hnb : ∀ j, j < zb.length → 0 ≤ zb.getD j 0 ∧ zb.getD j 0 < p) (k0 : 0 ≤ k) (k1 : k ≤ p) :
    Calls Try.prog 73 #[.int .i64 p, .slice a za.length ca, .slice b zb.length cb, .int .i64 k] w (NewR (plusR p za zb k) w) := by
  obtain ⟨i0, hi, hz0, hz1, hz2⟩ := info_parts info64
  have hpb := prm_bd hp
  have HA := Lib.hid ha
  have HB := Lib.hid hb
  have HNA := Lib.hid hna
  have HNB := Lib.hid hnb
  clear ha hb hna hnb hp
  go_enter Try.func73, Try.ntmps73
  go_wp2
  go_loopw [9, 10] (fun v t wr => ∃ i : Nat, i ≤ za.length ∧ t = .int .i64 i ∧ OutR w.heap.size wr v (mkR i fun j => (za.getD j 0 + k * zb.getD j 0) % p) ∧ Below w.heap.size w wr) (fun _ t _ => za.length - (intOf t).toNat)
  case atStart => exact ⟨0, Nat.zero_le _, rfl, OutR.start w _ _ (Nat.le_refl _) rfl, by ((repeat' (first | with_reducible exact Below.refl _ _ | (with_reducible refine Below.setCell ?_ ?_ _) | (with_reducible refine Below.alloc ?_ ?_ _) | (with_reducible refine Below.drew ?_))); all_goals (first | (simp; done) | omega | (simp; omega)))⟩
  case round =>
    obtain ⟨i, hi', rfl, ho, hbel⟩ := hrel
    have HO := Lib.hid ho
    have hwz := hbel.size
    clear ho
    by_cases hlt : i < za.length
    · obtain ⟨b1, o1, ha1, _, hb1, hc1⟩ := HA.out.num hlt
      obtain ⟨b2, o2, ha2, _, hb2, hc2⟩ := HB.out.num (by omega : i < zb.length)
      subst ha1
      subst ha2
      have hc1 := (hbel.cell (p := ⟨b1, o1 + i, none⟩) (Nat.lt_of_lt_of_le hb1 ht)).trans hc1
      have hc2 := (hbel.cell (p := ⟨b2, o2 + i, none⟩) (Nat.lt_of_lt_of_le hb2 ht')).trans hc2
      obtain ⟨x0, x1⟩ := HNA.out i hlt
      obtain ⟨y0, y1⟩ := HNB.out i (by omega)
      have HS : Hid (mkR (i + 1) (fun j => (za.getD j 0 + k * zb.getD j 0) % p) = mkR i (fun j => (za.getD j 0 + k * zb.getD j 0) % p) ++ [(za.getD i 0 + k * zb.getD i 0) % p]) := mkR_succ _ _
      obtain ⟨x, hx⟩ : ∃ x, x = za.getD i 0 := ⟨_, rfl⟩
      obtain ⟨y, hy⟩ : ∃ y, y = zb.getD i 0 := ⟨_, rfl⟩
      rw [← hx] at hc1 x0 x1 HS
      rw [← hy] at hc2 y0 y1 HS
      clear hx hy
      have m0 : 0 ≤ k * y := Int.mul_nonneg k0 y0
      have m1 : k * y ≤ 13 * 13 := Int.le_trans (Int.mul_le_mul_of_nonneg_right (by omega : k ≤ 13) y0) (Int.mul_le_mul_of_nonneg_left (by omega) (by omega))
      have hi1 : (i : Int) < (za.length : Int) := by omega
      have hi2 : (i : Int) < (zb.length : Int) := by omega
      have e1 : IntKind.i64.wrap (k * y) = k * y := IntWalk.i64_in _ (by omega)
      have e2 : IntKind.i64.wrap (x + k * y) = x + k * y := IntWalk.i64_in _ (by omega)
      have e3 : (x + k * y).tmod p = (x + k * y) % p := Int.tmod_eq_emod_of_nonneg (by omega)
      obtain ⟨X, hX⟩ : ∃ X, X = (mkR i (fun j => (za.getD j 0 + k * zb.getD j 0) % p)).map (Value.int .i64) := ⟨_, rfl⟩
      have HX := Lib.hid hX
      have HO2 : Hid (wr.ownsRow w.heap.size 2 1 u9 i X) := by
        have := HO.out; unfold OutR at this; rw [mkR_len, ← hX] at this; exact this
      have n1 : u9.ownBlock ≠ some b1 := fun e => by have := (HO2.out.lt _ e).1; omega
      have n2 : u9.ownBlock ≠ some b2 := fun e => by have := (HO2.out.lt _ e).1; omega
      have lb1 : b1 < wr.heap.size := by omega
      have lb2 : b2 < wr.heap.size := by omega
      have hp0 : ¬ p = 0 := by omega
      have hp1 : (p == 0) = false := by simpa using hp0
      clear hX
      go_wp2
      go_region_held3 (fun w' => w'.cell? ⟨b1, o1 + i, none⟩ = some (.int .i64 x) ∧ w'.cell? ⟨b2, o2 + i, none⟩ = some (.int .i64 y)) (first | go_keep | (go_split_ands; refine ⟨?_, ?_⟩; (rw [hgrow.cell_far _ (by simp; omega) (Ne.symm n1)]; assumption); (rw [hgrow.cell_far _ (by simp; omega) (Ne.symm n2)]; assumption))) ((refine step_append_lies _ (by rfl) _ _ _ (by rfl) w.heap.size 2 i0 _ 1 8 Try.underlying24 hi hz0 hz1 hz2 rfl (by omega) u9 i X (by rfl) ((HO2.out.alloc _).drew) ⟨wr.heap.size, 0, none⟩ 1 1 [.int .i64 ((x + k * y) % p)] (by rfl) (by rfl) (World.news_of_block (cs := #[.int .i64 ((x + k * y) % p)]) (t := 2) (fr := (0, 0)) (heap_alloc_new wr _)) (by simp [Value.oneCell']) (by omega) (by unfold maxLen; omega) (by omega) (by simp; omega) (wr.heap.size + 1) (by simp) ?_; intro gg cap w1 hown1 hgrow hat hlt1))
      clear e1 e2 e3
      go_wp2
      go_roundw
      case rel => exact ⟨i + 1, by omega, by go_num, OutR.step HO2.out HX.out HS.out hown1, ((hbel.alloc hwz _).drew).grown hgrow (by simp; omega) (fun _ hk => (HO2.out.lt _ hk).1)⟩
      case measure => simp [intOf]; omega
    · have hn : i = za.length := by omega
      subst hn
      go_wp2
      go_ret
      exact HO.out.new hbel

def sclR (p : Int) (a : List Int) (k : Int) : List Int := mkR a.length fun j => a.getD j 0 * k % p

set_option maxHeartbeats 1600000 in
set_option maxRecDepth 100000 in
theorem l02Scale_any (p k : Int) (a : Option Addr) (za : List Int) (ca lo tp : Nat) (w : World) (hp : prm p = true) (ha : RowIn lo tp w a za) (ht : tp ≤ w.heap.size)
    (hs : za.length ≤ 1048576) (hna : ∀ j, j < za.length → 0 ≤ za.getD j 0 ∧ za.getD j 0 < p) (k0 : 0 ≤ k) (k1 : k ≤ p) :
    Calls Try.prog 71 #[.int .i64 p, .slice a za.length ca, .int .i64 k] w (NewR (sclR p za k) w) := by
  obtain ⟨i0, hi, hz0, hz1, hz2⟩ := info_parts info64
  have hpb := prm_bd hp
  have HA := Lib.hid ha
  have HNA := Lib.hid hna
  clear ha hna hp
  go_enter Try.func71, Try.ntmps71
  go_wp2
  go_loopw [7, 8] (fun v t wr => ∃ i : Nat, i ≤ za.length ∧ t = .int .i64 i ∧ OutR w.heap.size wr v (mkR i fun j => za.getD j 0 * k % p) ∧ Below w.heap.size w wr) (fun _ t _ => za.length - (intOf t).toNat)
  case atStart => exact ⟨0, Nat.zero_le _, rfl, OutR.start w _ _ (Nat.le_refl _) rfl, by ((repeat' (first | with_reducible exact Below.refl _ _ | (with_reducible refine Below.setCell ?_ ?_ _) | (with_reducible refine Below.alloc ?_ ?_ _) | (with_reducible refine Below.drew ?_))); all_goals (first | (simp; done) | omega | (simp; omega)))⟩
  case round =>
    obtain ⟨i, hi', rfl, ho, hbel⟩ := hrel
    have HO := Lib.hid ho
    have hwz := hbel.size
    clear ho
    by_cases hlt : i < za.length
    · obtain ⟨b1, o1, ha1, _, hb1, hc1⟩ := HA.out.num hlt
      subst ha1
      have hc1 := (hbel.cell (p := ⟨b1, o1 + i, none⟩) (Nat.lt_of_lt_of_le hb1 ht)).trans hc1
      obtain ⟨x0, x1⟩ := HNA.out i hlt
      have HS : Hid (mkR (i + 1) (fun j => za.getD j 0 * k % p) = mkR i (fun j => za.getD j 0 * k % p) ++ [za.getD i 0 * k % p]) := mkR_succ _ _
      obtain ⟨x, hx⟩ : ∃ x, x = za.getD i 0 := ⟨_, rfl⟩
      rw [← hx] at hc1 x0 x1 HS
      clear hx
      have m0 : 0 ≤ x * k := Int.mul_nonneg x0 k0
      have m1 : x * k ≤ 13 * 13 := Int.le_trans (Int.mul_le_mul_of_nonneg_right (by omega : x ≤ 13) k0) (Int.mul_le_mul_of_nonneg_left (by omega) (by omega))
      have hi1 : (i : Int) < (za.length : Int) := by omega
      have e1 : IntKind.i64.wrap (x * k) = x * k := IntWalk.i64_in _ (by omega)
      have e3 : (x * k).tmod p = x * k % p := Int.tmod_eq_emod_of_nonneg (by omega)
      obtain ⟨X, hX⟩ : ∃ X, X = (mkR i (fun j => za.getD j 0 * k % p)).map (Value.int .i64) := ⟨_, rfl⟩
      have HX := Lib.hid hX
      have HO2 : Hid (wr.ownsRow w.heap.size 2 1 u7 i X) := by
        have := HO.out; unfold OutR at this; rw [mkR_len, ← hX] at this; exact this
      have n1 : u7.ownBlock ≠ some b1 := fun e => by have := (HO2.out.lt _ e).1; omega
      have lb1 : b1 < wr.heap.size := by omega
      have hp0 : ¬ p = 0 := by omega
      have hp1 : (p == 0) = false := by simpa using hp0
      clear hX
      go_wp2_with (at_builtin; refine wpList_append_lies _ rfl _ _ 24 rfl w.heap.size 2 i0 (.int .i64 0) 1 8 Try.underlying24 hi hz0 hz1 hz2 rfl (by decide) u7 i X rfl (HO2.out.alloc _) ⟨wr.heap.size, 0, none⟩ 1 1 [.int .i64 (Int.emod (x * k) p)] rfl rfl (World.news_of_block (cs := #[.int .i64 (Int.emod (x * k) p)]) (t := 2) (fr := (0, 0)) (heap_alloc_new wr _)) (by simp [Value.oneCell']) (by omega) (by unfold maxLen; omega) (by omega) (by simp; omega) (wr.heap.size + 1) (by simp) ?_; intro gg cap w1 hown1 hgrow hat hlt1)
      clear e1 e3
      go_wp2
      go_roundw
      case rel => exact ⟨i + 1, by omega, by go_num, OutR.step HO2.out HX.out HS.out hown1, (hbel.alloc hwz _).grown hgrow (by simp; omega) (fun _ hk => (HO2.out.lt _ hk).1)⟩
      case measure => simp [intOf]; omega
    · have hn : i = za.length := by omega
      subst hn
      go_wp2
      go_ret
      exact HO.out.new hbel

end Go.Proofs.Ytdfkpbmccmbjmaa

namespace Go.Proofs.Ytdfkpbmccmbjmaa
open Go.RowKit
set_option linter.unusedVariables false

/-- What has been cut out of one piece so far. -/
structure CutAt (w wr : World) (bm br n c i : Nat) : Prop where
  bel : Below w.heap.size w wr
  lm : w.heap.size ≤ bm ∧ bm < wr.heap.size
  lr : w.heap.size ≤ br ∧ br < wr.heap.size
  ne : bm ≠ br
  done : ∀ j, j < i → wr.cell? ⟨bm, j, none⟩ = some (.slice (some ⟨br, j * c, none⟩) c c)
  rest : ∀ j, i ≤ j → j < n → wr.cell? ⟨bm, j, none⟩ = some (.slice none 0 0)
  fm : ∀ j, wr.frozen? ⟨bm, j, none⟩ = false
  fr : ∀ j, wr.frozen? ⟨br, j, none⟩ = false
  zero : ∀ j, j < n * c → wr.cell? ⟨br, j, none⟩ = some (.int .i64 0)
theorem made_cell (w : World) (x : Value) (n : Nat) (t : TypeId) {j : Nat} (hj : j < n) : (w.alloc (.cells (madeCells #[x] n) t)).cell? ⟨w.heap.size, j, none⟩ = some x := by
  rw [World.cell?_alloc_new (w := w) (madeCells #[x] n) t j]
  simp [madeCells, hj, Nat.mod_one]
theorem CutAt.drew {w wr : World} {bm br n c i : Nat} (h : CutAt w wr bm br n c i) : CutAt w wr.drew bm br n c i := ⟨h.bel.drew, h.lm, h.lr, h.ne, h.done, h.rest, h.fm, h.fr, h.zero⟩
theorem CutAt.start1 (w : World) (n c k : Nat) (t t' : TypeId) (hk : k = n * c) : CutAt w ((w.alloc (.cells (madeCells #[.slice none 0 0] n) t)).alloc (.cells (madeCells #[.int .i64 0] k) t')) w.heap.size (w.heap.size + 1) n c 0 where
  bel := ((Below.refl _ _).alloc (Nat.le_refl _) _).alloc (by simp) _
  lm := by simp; omega
  lr := by simp
  ne := by omega
  done j hj := by omega
  rest j _ hj := (World.cell?_alloc_old _ _ _ (by simp)).trans (made_cell w _ n t hj)
  fm j := by simp [go_sem]
  fr j := by
    have := World.frozen?_of_block (w := (w.alloc (.cells (madeCells #[.slice none 0 0] n) t)).alloc (.cells (madeCells #[.int .i64 0] k) t')) (w' := (w.alloc (.cells (madeCells #[.slice none 0 0] n) t)).alloc (.cells (madeCells #[.int .i64 0] k) t')) (a := ⟨w.heap.size + 1, j, none⟩) rfl
    have h := heap_alloc_new (w.alloc (.cells (madeCells #[.slice none 0 0] n) t)) (.cells (madeCells #[.int .i64 0] k) t')
    simp at h
    simp [World.frozen?, h]
  zero j hj := by
    have h := made_cell (w.alloc (.cells (madeCells #[.slice none 0 0] n) t)) (.int .i64 0) k t' (j := j) (by omega)
    simpa using h
theorem CutAt.start2 (w : World) (n c k : Nat) (t t' : TypeId) (hk : k = n * c) : CutAt w ((w.alloc (.cells (madeCells #[.int .i64 0] k) t')).alloc (.cells (madeCells #[.slice none 0 0] n) t)) (w.heap.size + 1) w.heap.size n c 0 where
  bel := ((Below.refl _ _).alloc (Nat.le_refl _) _).alloc (by simp) _
  lm := by simp
  lr := by simp; omega
  ne := by omega
  done j hj := by omega
  rest j _ hj := by
    have h := made_cell (w.alloc (.cells (madeCells #[.int .i64 0] k) t')) (.slice none 0 0) n t (j := j) hj
    simpa using h
  fm j := by
    have h := heap_alloc_new (w.alloc (.cells (madeCells #[.int .i64 0] k) t')) (.cells (madeCells #[.slice none 0 0] n) t)
    simp at h
    simp [World.frozen?, h]
  fr j := by simp [go_sem]
  zero j hj := (World.cell?_alloc_old _ _ _ (by simp)).trans (made_cell w _ k t' (by omega))
theorem CutAt.next {w wr : World} {bm br n c i o : Nat} (h : CutAt w wr bm br n c i) (hi : i < n) (ho : o = i * c) : CutAt w (wr.setCell ⟨bm, i, none⟩ (.slice (some ⟨br, o, none⟩) c c)) bm br n c (i + 1) where
  bel := h.bel.setCell h.lm.1 _
  lm := by simpa [World.setCell] using h.lm
  lr := by simpa [World.setCell] using h.lr
  ne := h.ne
  done j hj := by
    subst ho
    by_cases e : j = i
    · subst e; exact World.cell?_setCell_same wr _ _ (h.rest j (Nat.le_refl _) hi)
    · exact (World.cell?_setCell_other _ _ _ _ (by first | (simp; done) | (simp; omega))).trans (h.done j (by omega))
  rest j hj hl := (World.cell?_setCell_other _ _ _ _ (by first | (simp; done) | (simp; omega))).trans (h.rest j (by omega) hl)
  fm j := by simp [go_sem, h.fm]
  fr j := by simp [go_sem, h.fr]
  zero j hj := (World.cell?_setCell_other _ _ _ _ (fun e => h.ne (by injection e))).trans (h.zero j hj)
theorem CutAt.own {w wr : World} {bm br n c : Nat} (h : CutAt w wr bm br n c n) (hc : 1 ≤ c) : OwnAt w.heap.size wr.heap.size wr ⟨bm, 0, fun i => some ⟨br, i * c, none⟩, fun _ => br, fun i => i * c, fun _ => c⟩ n (fun _ => c) (fun _ _ => 0) where
  rng _ := h.lm
  top i hi := by show wr.cell? ⟨bm, 0 + i, none⟩ = _; rw [Nat.zero_add]; exact h.done i hi
  row i hi := .inr rfl
  rrng i hi _ := h.lr
  cell i hi j hj := h.zero _ (by
    have : (i + 1) * c ≤ n * c := Nat.mul_le_mul_right _ (by omega)
    have e : (i + 1) * c = i * c + c := Nat.succ_mul _ _
    show i * c + j < n * c
    omega)
  free i hi j hj := h.fr _
  apart i hi i' hi' hne j hj j' hj' e := by
    have e2 : i * c + j = i' * c + j' := e.2
    rcases Nat.lt_or_ge i i' with l | l
    · have : (i + 1) * c ≤ i' * c := Nat.mul_le_mul_right _ (by omega)
      have e3 : (i + 1) * c = i * c + c := Nat.succ_mul _ _
      omega
    · have : (i' + 1) * c ≤ i * c := Nat.mul_le_mul_right _ (by omega)
      have e3 : (i' + 1) * c = i' * c + c := Nat.succ_mul _ _
      omega
  tops i hi j hj i' hi' e := h.ne e.1.symm

end Go.Proofs.Ytdfkpbmccmbjmaa

namespace Go.Proofs.Ytdfkpbmccmbjmaa
open Go.RowKit
set_option linter.unusedVariables false

def Nums (p : Int) (z : List Int) : Prop := ∀ j, j < z.length → 0 ≤ z.getD j 0 ∧ z.getD j 0 < p
theorem Nums.of {p : Int} {z : List Int} (h : z.all (inr p) = true) : Nums p z := by
  intro j hj
  rw [List.all_eq_true] at h
  exact inr_iff.1 (h _ (by rw [getD_at hj]; exact List.getElem_mem hj))
end Go.Proofs.Ytdfkpbmccmbjmaa
