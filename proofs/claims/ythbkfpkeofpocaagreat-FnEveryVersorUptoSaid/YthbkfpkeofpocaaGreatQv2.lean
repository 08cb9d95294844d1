/-
  Matrices as lists of lists: made of a function, their rows and numbers, sums of products, and what chapter 2 makes of them. No Go in sight.
  No conditions.
  What the laws' sizes, copies, comparisons and marks of lists of numbers do, and the checks of their numbers, wherever they lie.
  Conditions: the lists are nil or rows of known cells, of at most 1048576 numbers.
  What the laws' sizes, copies, comparisons and marks of matrices do.
  Conditions: the matrices are nil or rows of known cells; copied, compared and marked: of at most 1048576 numbers.
  What the program's and the model's checks of lists of numbers return.
  Conditions: they are nil or rows of known cells.
  What a law knows of the lists and matrices that it is handed.
  No conditions: what can be read as data.
  The words in which the exact laws of matrices are walked: what a function of the program or of the model hands back, and the laws' marks of lists.
  No conditions.
  Spaces: what the laws' sizes, copies, comparisons and marks of a space do.
  Conditions: the list of squares is nil or a row of known cells, of at most 1048576 numbers.
  Spaces: what they are, and their checks in the program and in the model.
  Conditions: the list of squares is nil or a row of known cells, of at most 1048576 numbers.
-/
import Derived.Test.YthbkfpkeofpocaaGreatQv1
import Derived.BigQuiet
import Derived.Deep.QuietTactic
import Derived.Deep.Draws
import Derived.Laws.MakeOwn
import Derived.OpenShut
import Derived.Deep.OwnRows
import Derived.Deep.RegionHeld3
import Derived.RegionTactic
import Derived.Deep.RegionWith
import Derived.StillTailTactics
import Derived.Deep.Matrix
namespace Go.Proofs.YthbkfpkeofpocaaGreat
set_option linter.unusedVariables false

/-- A list made of a function. -/
def mkR (c : Nat) (f : Nat → Int) : List Int := (List.range c).map f
/-- A matrix made of a function. -/
def mk (n c : Nat) (f : Nat → Nat → Int) : List (List Int) := (List.range n).map fun i => mkR c (f i)
theorem mkR_len (c : Nat) (f : Nat → Int) : (mkR c f).length = c := by simp [mkR]
theorem mkR_at {c : Nat} (f : Nat → Int) {j : Nat} (h : j < c) : (mkR c f).getD j 0 = f j := by simp [mkR, List.getD, h]
theorem mk_len (n c : Nat) (f : Nat → Nat → Int) : (mk n c f).length = n := by simp [mk]
theorem mk_row {n c : Nat} (f : Nat → Nat → Int) {i : Nat} (h : i < n) : rw' (mk n c f) i = mkR c (f i) := by simp [mk, rw', List.getD, h]
theorem mk_rowLen {n c : Nat} (f : Nat → Nat → Int) {i : Nat} (h : i < n) : (rw' (mk n c f) i).length = c := by rw [mk_row f h, mkR_len]
theorem mk_at {n c : Nat} (f : Nat → Nat → Int) {i j : Nat} (h : i < n) (k : j < c) : at' (mk n c f) i j = f i j := by rw [at', mk_row f h, mkR_at _ k]
theorem mkR_congr {c : Nat} {f g : Nat → Int} (h : ∀ j, j < c → f j = g j) : mkR c f = mkR c g := by
  unfold mkR; apply List.map_congr_left; intro j hj; exact h j (List.mem_range.1 hj)
theorem mkR_self (z : List Int) : mkR z.length (fun j => z.getD j 0) = z := by
  apply row_ext (by rw [mkR_len])
  intro j hj
  rw [mkR_at _ (by rwa [mkR_len] at hj)]

/-- A sum of the first n. -/
def sm : Nat → (Nat → Int) → Int
  | 0, _ => 0
  | n + 1, f => sm n f + f n
theorem sm_congr {n : Nat} {f g : Nat → Int} (h : ∀ j, j < n → f j = g j) : sm n f = sm n g := by
  induction n with
  | zero => rfl
  | succ n ih => simp only [sm]; rw [ih (fun j hj => h j (by omega)), h n (by omega)]
theorem sm_add (n : Nat) (f g : Nat → Int) : sm n (fun j => f j + g j) = sm n f + sm n g := by
  induction n with
  | zero => rfl
  | succ n ih => simp only [sm]; rw [ih]; omega
theorem sm_mul (n : Nat) (c : Int) (f : Nat → Int) : sm n (fun j => c * f j) = c * sm n f := by
  induction n with
  | zero => simp [sm]
  | succ n ih => simp only [sm]; rw [ih, Int.mul_add]
theorem sm_zero (n : Nat) : sm n (fun _ => 0) = 0 := by
  induction n with
  | zero => rfl
  | succ n ih => simp only [sm]; rw [ih]; rfl
theorem sm_single (n k : Nat) (x : Int) : sm n (fun j => if j = k then x else 0) = if k < n then x else 0 := by
  induction n with
  | zero => rfl
  | succ n ih =>
    simp only [sm]; rw [ih]
    by_cases h : n = k
    · subst h; rw [if_neg (by omega), if_pos rfl, if_pos (by omega)]; omega
    · rw [if_neg h]
      by_cases k' : k < n
      · rw [if_pos k', if_pos (by omega)]; omega
      · rw [if_neg k', if_neg (by omega)]; omega
theorem sm_swap (n m : Nat) (f : Nat → Nat → Int) : sm n (fun i => sm m (fun j => f i j)) = sm m (fun j => sm n (fun i => f i j)) := by
  induction n with
  | zero => simp only [sm]; rw [sm_zero]
  | succ n ih => simp only [sm]; rw [ih, ← sm_add]
theorem sm_mod (n : Nat) (p : Int) (f : Nat → Int) : sm n (fun j => f j % p) % p = sm n f % p := by
  induction n with
  | zero => rfl
  | succ n ih => simp only [sm]; rw [Int.add_emod, ih, Int.emod_emod, ← Int.add_emod]
theorem sm_bd {n : Nat} {f : Nat → Int} {b : Int} (h : ∀ j, j < n → 0 ≤ f j ∧ f j ≤ b) : 0 ≤ sm n f ∧ sm n f ≤ n * b := by
  induction n with
  | zero => simp [sm]
  | succ n ih =>
    have h1 := ih (fun j hj => h j (by omega))
    have h2 := h n (by omega)
    simp only [sm]
    have e : ((n + 1 : Nat) : Int) * b = n * b + b := by rw [Int.natCast_add, Int.add_mul]; simp
    rw [e]; omega

/-! ### Matrices of chapter 2 -/
/-- Whether p is a prime and m a matrix with at least n rows (n is 0 or 1). -/
def isL (n : Nat) (p : Int) (m : List (List Int)) : Bool :=
  prm p && decide (n ≤ m.length ∧ m.length ≤ 16) && m.all fun r => decide (1 ≤ r.length ∧ r.length ≤ 16 ∧ r.length = (rw' m 0).length) && r.all (inr p)
def isM (p : Int) (m : List (List Int)) : Bool := isL 1 p m

/-- What is known of a list of vectors. -/
structure Lst (n : Nat) (p : Int) (m : List (List Int)) : Prop where
  prime : prm p = true
  lo : n ≤ m.length
  hi : m.length ≤ 16
  len : ∀ i, i < m.length → (rw' m i).length = (rw' m 0).length
  c0 : ∀ i, i < m.length → 1 ≤ (rw' m i).length
  c1 : ∀ i, i < m.length → (rw' m i).length ≤ 16
  all : ∀ i, i < m.length → (rw' m i).all (inr p) = true
theorem mem_row {m : List (List Int)} {i : Nat} (h : i < m.length) : rw' m i ∈ m := by simp [rw', List.getD, h]
theorem isL_iff {n : Nat} {p : Int} {m : List (List Int)} : isL n p m = true ↔ Lst n p m := by
  unfold isL
  simp only [Bool.and_eq_true, decide_eq_true_eq, List.all_eq_true]
  constructor
  · rintro ⟨⟨hp, h0, h1⟩, h2⟩
    have g := fun i (hi : i < m.length) => h2 _ (mem_row hi)
    exact ⟨hp, h0, h1, fun i hi => (g i hi).1.2.2, fun i hi => (g i hi).1.1, fun i hi => (g i hi).1.2.1, fun i hi => by rw [List.all_eq_true]; exact (g i hi).2⟩
  · rintro ⟨hp, h0, h1, h2, h3, h4, h5⟩
    refine ⟨⟨hp, h0, h1⟩, fun r hr => ?_⟩
    obtain ⟨i, hi, rfl⟩ := List.getElem_of_mem hr
    have e : rw' m i = m[i] := by simp [rw', List.getD, hi]
    have := h5 i hi
    rw [List.all_eq_true, e] at this
    rw [← e]
    exact ⟨⟨h3 i hi, h4 i hi, h2 i hi⟩, by rw [e]; exact this⟩
theorem not_isL {n : Nat} {p : Int} {m : List (List Int)} (h : ¬ Lst n p m) : isL n p m = false := by
  cases e : isL n p m with
  | false => rfl
  | true => exact absurd (isL_iff.1 e) h
theorem Lst.cols {n : Nat} {p : Int} {m : List (List Int)} (h : Lst n p m) {i : Nat} (hi : i < m.length) : (rw' m i).length = (rw' m 0).length := h.len i hi
theorem Lst.at {n : Nat} {p : Int} {m : List (List Int)} (h : Lst n p m) {i j : Nat} (hi : i < m.length) (hj : j < (rw' m 0).length) : 0 ≤ at' m i j ∧ at' m i j < p := by
  have ha := h.all i hi
  rw [List.all_eq_true] at ha
  have hl : j < (rw' m i).length := by rw [h.len i hi]; exact hj
  exact inr_iff.1 (ha _ (by unfold at'; rw [getD_at hl]; exact List.getElem_mem hl))

def mulM (p : Int) (a b : List (List Int)) : List (List Int) := mk a.length (rw' b 0).length fun i k => sm b.length (fun j => at' a i j * at' b j k) % p
def trM (a : List (List Int)) : List (List Int) := mk (rw' a 0).length a.length fun k i => at' a i k
def oneM (n : Nat) : List (List Int) := mk n n fun i j => if i = j then 1 else 0

end Go.Proofs.YthbkfpkeofpocaaGreat

namespace Go.Proofs.YthbkfpkeofpocaaGreat
open Go.RowKit Go.ChangeShapes Go.WideShapes
set_option linter.unusedVariables false

theorem info64 : (Tryz.prog.info? 2).map (fun i => (i.zero, i.size, i.bytes)) = some (some (.int .i64 0), 1, 8) := by kernel_rfl

/-- What has been copied so far. -/
structure Half (w : World) (b i : Nat) (zs : List Int) : Prop where
  lt : b < w.heap.size
  done : ∀ j, j < i → w.cell? ⟨b, j, none⟩ = some (.int .i64 (zs.getD j 0))
  rest : ∀ j, i ≤ j → j < zs.length → w.cell? ⟨b, j, none⟩ = some (.int .i64 0)
  free : ∀ j, w.frozen? ⟨b, j, none⟩ = false
theorem Half.start (w : World) (zs : List Int) (t : TypeId) : Half (w.alloc (.cells (madeCells #[.int .i64 0] zs.length) t)) w.heap.size 0 zs :=
  ⟨by simp, fun j hj => by omega, fun j _ hj => by
    have h := World.cell?_alloc_new (w := w) (madeCells #[.int .i64 0] zs.length) t j
    rw [h]
    simp [madeCells, hj, Nat.mod_one], fun j => by simp [go_sem]⟩
theorem Half.next {w : World} {b i : Nat} {zs : List Int} (h : Half w b i zs) (hi : i < zs.length) : Half (w.setCell ⟨b, i, none⟩ (.int .i64 (zs.getD i 0))) b (i + 1) zs :=
  ⟨by simpa [World.setCell] using h.lt, fun j hj => by
    by_cases hji : j = i
    · subst hji
      exact World.cell?_setCell_same w _ _ (h.rest j (Nat.le_refl _) hi)
    · exact (World.cell?_setCell_other _ _ _ _ (by first | (simp; done) | (simp; omega))).trans (h.done j (by omega)),
   fun j hj hl => (World.cell?_setCell_other _ _ _ _ (by first | (simp; done) | (simp; omega))).trans (h.rest j (by omega) hl), fun j => by simp [go_sem, h.free]⟩

end Go.Proofs.YthbkfpkeofpocaaGreat

namespace Go.Proofs.YthbkfpkeofpocaaGreat
open Go.RowKit Go.ChangeShapes Go.WideShapes
set_option linter.unusedVariables false

theorem info_slice : (Tryz.prog.info? 22).map (fun i => (i.zero, i.size, i.bytes)) = some (some (.slice none 0 0), 1, 24) := by kernel_rfl

/-- What has been copied so far. -/
structure HalfM (w : World) (b i : Nat) (m : List (List Int)) (B : Nat → Nat) : Prop where
  lt : b < w.heap.size
  done : ∀ j, j < i → w.cell? ⟨b, j, none⟩ = some (.slice (some ⟨B j, 0, none⟩) (rw' m j).length (rw' m j).length)
  rest : ∀ j, i ≤ j → j < m.length → w.cell? ⟨b, j, none⟩ = some (.slice none 0 0)
  free : ∀ j, w.frozen? ⟨b, j, none⟩ = false
  rng : ∀ j, j < i → b < B j ∧ B j < w.heap.size
  cell : ∀ j, j < i → ∀ x, x < (rw' m j).length → w.cell? ⟨B j, x, none⟩ = some (.int .i64 (at' m j x)) ∧ w.frozen? ⟨B j, x, none⟩ = false
  apart : ∀ j, j < i → ∀ j', j' < i → j ≠ j' → B j ≠ B j'
theorem HalfM.start (w : World) (m : List (List Int)) (t : TypeId) (B : Nat → Nat) : HalfM (w.alloc (.cells (madeCells #[.slice none 0 0] m.length) t)) w.heap.size 0 m B where
  lt := by simp
  done j hj := by omega
  rest j _ hj := by
    have h := World.cell?_alloc_new (w := w) (madeCells #[.slice none 0 0] m.length) t j
    rw [h]
    simp [madeCells, hj, Nat.mod_one]
  free j := by simp [go_sem]
  rng j hj := by omega
  cell j hj := by omega
  apart j hj := by omega
theorem HalfM.next {w w1 : World} {b i : Nat} {m : List (List Int)} {B : Nat → Nat} (h : HalfM w b i m B) (hi : i < m.length) (hb : Below w.heap.size w w1) (hs : w.heap.size < w1.heap.size)
    (hr : OwnR w.heap.size w1.heap.size w1 (some ⟨w.heap.size, 0, none⟩) (rw' m i)) :
    HalfM (w1.setCell ⟨b, i, none⟩ (.slice (some ⟨w.heap.size, 0, none⟩) (rw' m i).length (rw' m i).length)) b (i + 1) m (fun j => if j = i then w.heap.size else B j) := by
  have hlt := h.lt
  have oth : ∀ c j, c ≠ b → (w1.setCell ⟨b, i, none⟩ (.slice (some ⟨w.heap.size, 0, none⟩) (rw' m i).length (rw' m i).length)).cell? ⟨c, j, none⟩ = w1.cell? ⟨c, j, none⟩ := fun c j hne =>
    World.cell?_setCell_other _ _ _ _ (fun e => hne (by injection e with e1; exact e1.symm))
  refine ⟨by simp [World.setCell]; omega, fun j hj => ?_, fun j hj hl => ?_, fun j => ?_, fun j hj => ?_, fun j hj x hx => ?_, fun j hj j' hj' hne => ?_⟩
  · by_cases e : j = i
    · subst e
      simp only [if_pos]
      exact World.cell?_setCell_same w1 _ _ ((hb.cell (p := ⟨b, j, none⟩) hlt).trans (h.rest j (Nat.le_refl _) hi))
    · simp only [if_neg e]
      exact (World.cell?_setCell_other _ _ _ _ (by first | (simp; done) | (simp; omega))).trans ((hb.cell (p := ⟨b, j, none⟩) hlt).trans (h.done j (by omega)))
  · exact (World.cell?_setCell_other _ _ _ _ (by first | (simp; done) | (simp; omega))).trans ((hb.cell (p := ⟨b, j, none⟩) hlt).trans (h.rest j (by omega) hl))
  · have := (hb.frozen (p := ⟨b, j, none⟩) hlt).trans (h.free j)
    simp [go_sem, this]
  · have hz : (w1.setCell ⟨b, i, none⟩ (.slice (some ⟨w.heap.size, 0, none⟩) (rw' m i).length (rw' m i).length)).heap.size = w1.heap.size := by simp [World.setCell]
    rw [hz]
    by_cases e : j = i
    · subst e; simp only [if_pos]; exact ⟨hlt, hs⟩
    · simp only [if_neg e]; have := h.rng j (by omega); omega
  · by_cases e : j = i
    · subst e
      simp only [if_pos]
      rcases hr with h0 | ⟨b1, o1, e1, _, _, hc⟩
      · rw [h0] at hx; simp at hx
      · cases e1
        have h2 := hc x hx
        simp only [Nat.zero_add] at h2
        exact ⟨(oth _ _ (by omega)).trans h2.1, by simp [go_sem, h2.2]⟩
    · simp only [if_neg e]
      have hg := h.rng j (by omega)
      have h2 := h.cell j (by omega) x hx
      have f2 := (hb.frozen (p := ⟨B j, x, none⟩) hg.2).trans h2.2
      exact ⟨(oth _ _ (by omega)).trans ((hb.cell (p := ⟨B j, x, none⟩) hg.2).trans h2.1), by simp [go_sem, f2]⟩
  · have e1 : ∀ j, j < i → B j ≠ w.heap.size := fun j hj => by have := (h.rng j hj).2; omega
    by_cases e : j = i
    · subst e
      simp only [if_pos, if_neg (fun e => hne e.symm : ¬ j' = j)]
      exact (e1 j' (by omega)).symm
    · by_cases e' : j' = i
      · subst e'
        simp only [if_pos, if_neg e]
        exact e1 j (by omega)
      · simp only [if_neg e, if_neg e']
        exact h.apart j (by omega) j' (by omega) hne
theorem HalfM.own {w : World} {b : Nat} {m : List (List Int)} {B : Nat → Nat} (h : HalfM w b m.length m B) : OwnM b w.heap.size w (some ⟨b, 0, none⟩) m :=
  .inr ⟨⟨b, 0, fun j => some ⟨B j, 0, none⟩, B, fun _ => 0, fun j => (rw' m j).length⟩, rfl, {
    rng := fun _ => ⟨Nat.le_refl _, h.lt⟩
    top := fun i hi => by show w.cell? ⟨b, 0 + i, none⟩ = _; rw [Nat.zero_add]; exact h.done i hi
    row := fun i hi => .inr rfl
    rrng := fun i hi _ => ⟨by have := (h.rng i hi).1; show b ≤ B i; omega, (h.rng i hi).2⟩
    cell := fun i hi j hj => by show w.cell? ⟨B i, 0 + j, none⟩ = _; rw [Nat.zero_add]; exact (h.cell i hi j hj).1
    free := fun i hi j hj => by show w.frozen? ⟨B i, 0 + j, none⟩ = _; rw [Nat.zero_add]; exact (h.cell i hi j hj).2
    apart := fun i hi i' hi' hne j hj j' hj' e => h.apart i hi i' hi' hne e.1
    tops := fun i hi j hj i' hi' e => by have := (h.rng i hi).1; have e1 : B i = b := e.1; omega }⟩

end Go.Proofs.YthbkfpkeofpocaaGreat

namespace Go.Proofs.YthbkfpkeofpocaaGreat
open Go.RowKit Go.ChangeShapes Go.WideShapes
set_option linter.unusedVariables false

set_option maxHeartbeats 800000 in
theorem checkRow (p : Int) (a : Option Addr) (zs : List Int) (cap lo tp : Nat) (w : World) (hp : prm p = true) (hrow : RowIn lo tp w a zs) (hlen : zs.length ≤ 9223372036854775807) :
    Calls Tryz.prog 32 #[.int .i64 p, .slice a zs.length cap] w fun e w' => e = .returned (.int .i64 (codeOf p zs)) ∧ w = w' := by
  have HP := Lib.hid hp
  have HR := Lib.hid hrow
  clear hrow hp
  go_enter Tryz.func32, Tryz.ntmps32
  go_wp2_with (go_at_call 57; refine (isPrime_any _ _).mono ?_; rintro e w' ⟨rfl, rfl⟩; rw [HP.out])
  go_loop [12] (fun t => ∃ k : Nat, k ≤ zs.length ∧ t = .int .i64 k ∧ (zs.take k).all (inr p) = true) (fun t => zs.length - (intOf t).toNat)
  case atStart => exact ⟨0, Nat.zero_le _, rfl, rfl⟩
  case round =>
    obtain ⟨k, hk, rfl, hall⟩ := hrel
    have HA := Lib.hid hall
    clear hall
    by_cases hlt : k < zs.length
    · obtain ⟨b, o, ha, _, _, hcell⟩ := HR.out.num hlt
      subst ha
      obtain ⟨x, hx⟩ : ∃ x, x = zs.getD k 0 := ⟨_, rfl⟩
      rw [← hx] at hcell
      have HX := Lib.hid hx
      clear hx
      by_cases hin : 0 ≤ x ∧ x < p
      · have HI : Hid (inr p x = true) := inr_iff.2 hin
        obtain ⟨hi0, hi1⟩ := hin
        go_wp2
        go_round
        case rel => exact ⟨k + 1, by omega, by go_num, by rw [all_take_succ hlt HX.out, HA.out, HI.out]; rfl⟩
        case measure => simp [intOf]; omega
      · have HI : Hid (inr p x = false) := inr_not.2 hin
        have HC : Hid (codeOf p zs = 2) := code_bad HP.out (all_false_of hlt HX.out HI.out)
        by_cases h0 : x < 0
        · clear hin
          go_wp2
          go_ret
          exact ⟨by rw [HC.out]; rfl, rfl⟩
        · have h1 : p ≤ x := by omega
          clear hin
          go_wp2
          go_ret
          exact ⟨by rw [HC.out]; rfl, rfl⟩
    · have HC : Hid (codeOf p zs = 0) := code_ok HP.out (by have := HA.out; rwa [List.take_of_length_le (by omega)] at this)
      go_wp2
      go_ret
      exact ⟨by rw [HC.out]; rfl, rfl⟩

set_option maxHeartbeats 800000 in
theorem numsRow (p : Int) (a : Option Addr) (zs : List Int) (cap lo tp : Nat) (w : World) (hp : prm p = true) (hrow : RowIn lo tp w a zs) (hlen : zs.length ≤ 9223372036854775807) :
    Calls Tryz.prog 63 #[.int .i64 p, .slice a zs.length cap] w fun e w' => e = .returned (.bool (zs.all (inr p))) ∧ w = w' := by
  have hpb := prm_bd hp
  clear hp
  have HR := Lib.hid hrow
  clear hrow
  go_enter Tryz.func63, Tryz.ntmps63
  go_wp2
  go_loop [5] (fun t => ∃ k : Nat, k ≤ zs.length ∧ t = .int .i64 k ∧ (zs.take k).all (inr p) = true) (fun t => zs.length - (intOf t).toNat)
  case atStart => exact ⟨0, Nat.zero_le _, rfl, rfl⟩
  case round =>
    obtain ⟨k, hk, rfl, hall⟩ := hrel
    have HA := Lib.hid hall
    clear hall
    by_cases hlt : k < zs.length
    · obtain ⟨b, o, ha, _, _, hcell⟩ := HR.out.num hlt
      subst ha
      obtain ⟨x, hx⟩ : ∃ x, x = zs.getD k 0 := ⟨_, rfl⟩
      rw [← hx] at hcell
      have HX := Lib.hid hx
      clear hx
      by_cases hin : 0 ≤ x ∧ x < p
      · have HI : Hid (inr p x = true) := inr_iff.2 hin
        obtain ⟨hi0, hi1⟩ := hin
        go_wp2_with (go_at_call 62; refine (l01In_yes _ _ _ _ (by omega) (by omega)).mono ?_; rintro e w' ⟨rfl, rfl⟩)
        go_round
        case rel => exact ⟨k + 1, by omega, by go_num, by rw [all_take_succ hlt HX.out, HA.out, HI.out]; rfl⟩
        case measure => simp [intOf]; omega
      · have HI : Hid (inr p x = false) := inr_not.2 hin
        have HC : Hid (zs.all (inr p) = false) := all_false_of hlt HX.out HI.out
        have hin' : ¬ (0 ≤ x ∧ x ≤ p - 1) := by omega
        have HN := Lib.hid hin'
        clear hin hin'
        go_wp2_with (go_at_call 62; refine (l01In_no _ _ _ _ HN.out).mono ?_; rintro e w' ⟨rfl, rfl⟩)
        go_ret
        exact ⟨by rw [HC.out]; rfl, rfl⟩
    · have HC : Hid (zs.all (inr p) = true) := by have := HA.out; rwa [List.take_of_length_le (by omega)] at this
      go_wp2
      go_ret
      exact ⟨by rw [HC.out]; rfl, rfl⟩

set_option maxHeartbeats 800000 in
theorem checkRow_any (p : Int) (a : Option Addr) (zs : List Int) (cap lo tp : Nat) (w : World) (hrow : RowIn lo tp w a zs) (hlen : zs.length ≤ 9223372036854775807) :
    Calls Tryz.prog 32 #[.int .i64 p, .slice a zs.length cap] w fun e w' => e = .returned (.int .i64 (codeOf p zs)) ∧ w = w' := by
  by_cases hp : prm p = true
  · exact checkRow p a zs cap lo tp w hp hrow hlen
  · have HP : Hid (prm p = false) := by show _ = _; simpa using hp
    clear hp hrow
    go_enter Tryz.func32, Tryz.ntmps32
    go_wp2_with (go_at_call 57; refine (isPrime_any _ _).mono ?_; rintro e w' ⟨rfl, rfl⟩; rw [HP.out])
    go_ret
    exact ⟨by rw [code_np HP.out]; rfl, rfl⟩

set_option maxHeartbeats 800000 in
theorem isVector_any (p : Int) (a : Option Addr) (v : List Int) (c n lo tp : Nat) (w : World) (hp : prm p = true) (hv : RowIn lo tp w a v) (hs : v.length ≤ 1048576) (hn : n ≤ 1048576) :
    Calls Tryz.prog 38 #[.int .i64 p, .slice a v.length c, .int .i64 n] w fun e w' => e = .returned (.bool (decide (v.length = n) && v.all (inr p))) ∧ w = w' := by
  have HV := Lib.hid hv
  have HP := Lib.hid hp
  clear hv hp
  by_cases h : v.length = n
  · subst h
    by_cases ha : v.all (inr p) = true
    · have HA := Lib.hid ha
      have HC := Lib.hid (code_ok HP.out ha)
      clear ha
      go_enter Tryz.func38, Tryz.ntmps38
      go_wp2_with (go_at_call 32; (with_reducible refine (checkRow _ _ _ _ lo tp _ HP.out HV.out (by omega)).mono ?_); rintro e w1 ⟨rfl, rfl⟩; rw [HC.out])
      go_ret
      exact ⟨by rw [HA.out]; simp, rfl⟩
    · have HA : Hid (v.all (inr p) = false) := by show v.all (inr p) = false; simpa using ha
      have HC := Lib.hid (code_bad HP.out HA.out)
      clear ha
      go_enter Tryz.func38, Tryz.ntmps38
      go_wp2_with (go_at_call 32; (with_reducible refine (checkRow _ _ _ _ lo tp _ HP.out HV.out (by omega)).mono ?_); rintro e w1 ⟨rfl, rfl⟩; rw [HC.out])
      go_ret
      exact ⟨by rw [HA.out]; simp, rfl⟩
  · have HF : Hid ((decide (v.length = n) && v.all (inr p)) = false) := by show _ = _; simp [h]
    have e1 : ((v.length : Int) == (n : Int)) = false := by simp; omega
    have e2 : decide ((v.length : Int) = (n : Int)) = false := by simp; omega
    clear h
    go_enter Tryz.func38, Tryz.ntmps38
    go_wp2
    go_ret
    exact ⟨by rw [HF.out]; rfl, rfl⟩

end Go.Proofs.YthbkfpkeofpocaaGreat

namespace Go.Proofs.YthbkfpkeofpocaaGreat
open Go.RowKit Go.ChangeShapes Go.WideShapes
set_option linter.unusedVariables false

def IsMat (w : World) (a : Option Addr) (len : Nat) : Prop :=
  ∃ m : List (List Int), m.length = len ∧ MatIn 0 w.heap.size w a m ∧ len ≤ 9223372036854775807 ∧ ∀ i, i < m.length → (rw' m i).length ≤ 9223372036854775807
def IsLst (w : World) (a : Option Addr) (len : Nat) : Prop :=
  ∃ z : List Int, z.length = len ∧ RowIn 0 w.heap.size w a z ∧ len ≤ 9223372036854775807

theorem row_of {w : World} {x : Addr} {len : Nat} {zs : List Int} (hl : len ≤ zs.length) (h : ∀ i, i < zs.length → w.cell? (x.add i) = some (.int .i64 (zs.getD i 0))) : RowIn 0 w.heap.size w (some x) (zs.take len) := by
  by_cases h0 : len = 0
  · exact .inl (by rw [h0]; rfl)
  · obtain ⟨b, o, rfl, hc⟩ := ints_at h (by omega)
    have hlt : b < w.heap.size := World.block_lt_of_cell? w ⟨b, o + 0, none⟩ (hc 0 (by omega))
    refine .inr ⟨b, o, rfl, Nat.zero_le _, hlt, fun i hi => ?_⟩
    rw [List.length_take] at hi
    rw [hc i (by omega)]
    simp only [List.getD_eq_getElem?_getD, List.getElem?_take]
    rw [if_pos (by omega)]
theorem isLst_nil (w : World) : IsLst w none 0 := ⟨[], rfl, .inl rfl, by omega⟩
theorem isLst_of {w : World} {x : Addr} {len cap : Nat} {zs : List Int} (h1 : len ≤ cap) (h2 : cap ≤ maxLen) (h3 : zs.length = cap) (h : ∀ i, i < zs.length → w.cell? (x.add i) = some (.int .i64 (zs.getD i 0))) : IsLst w (some x) len := by
  unfold maxLen at h2
  exact ⟨zs.take len, by simp; omega, row_of (by omega) h, by omega⟩
theorem isMat_nil (w : World) : IsMat w none 0 := ⟨[], rfl, .inl rfl, by omega, fun i hi => by simp at hi⟩
theorem slice_at {w : World} {x : Addr} {v : Nat → Value} {n : Nat} (hn : 0 < n) (h : ∀ r, r < n → w.cell? (x.add r) = some (v r)) : ∃ b o, x = ⟨b, o, none⟩ ∧ ∀ r, r < n → w.cell? ⟨b, o + r, none⟩ = some (v r) := by
  obtain ⟨b, off, spot⟩ := x
  have hspot : spot = none := by simpa [Addr.add] using World.cell?_spot (h 0 hn)
  subst hspot
  exact ⟨b, off, rfl, fun j hj => by rw [← Go.WideShapes.add_plain]; exact h j hj⟩
theorem isMat_of {w : World} {x : Addr} {len cap : Nat} {A : Nat → Option Addr} {L C : Nat → Nat} {Z : Nat → List Int} (hl : len ≤ cap) (hm : cap ≤ maxLen)
    (h : ∀ r, r < cap → w.cell? (x.add r) = some (.slice (A r) (L r) (C r)) ∧ L r ≤ C r ∧ C r ≤ maxLen ∧ (Z r).length = C r ∧ (∀ n ∈ Z r, (Lit.int .i64 n).wf = true) ∧ (A r = none → C r = 0) ∧
        ∀ a', A r = some a' → 0 ≤ a'.block ∧ ∀ c, c < C r → w.cell? (a'.add c) = some (.int .i64 ((Z r).getD c 0))) : IsMat w (some x) len := by
  unfold maxLen at hm
  refine ⟨(List.range len).map fun r => (Z r).take (L r), by simp, ?_, by omega, fun i hi => ?_⟩
  · by_cases h0 : len = 0
    · subst h0; exact .inl rfl
    · obtain ⟨b, o, rfl, hc⟩ := slice_at (n := cap) (v := fun r => .slice (A r) (L r) (C r)) (by omega) (fun r hr => (h r hr).1)
      have hlt : b < w.heap.size := World.block_lt_of_cell? w ⟨b, o + 0, none⟩ (hc 0 (by omega))
      refine .inr ⟨b, o, rfl, Nat.zero_le _, hlt, fun i hi => ?_⟩
      simp only [List.length_map, List.length_range] at hi
      obtain ⟨_, r1, r2, r3, _, r5, r6⟩ := h i (by omega)
      have e : rw' ((List.range len).map fun r => (Z r).take (L r)) i = (Z i).take (L i) := by simp [rw', List.getD, hi]
      rw [e]
      have e2 : ((Z i).take (L i)).length = L i := by simp; omega
      rw [e2]
      refine ⟨A i, C i, hc i (by omega), ?_⟩
      cases hA : A i with
      | none =>
        have := r5 hA
        have h0 : L i = 0 := by omega
        exact .inl (by rw [h0]; rfl)
      | some a' => exact row_of (by omega) (fun c hc' => (r6 a' hA).2 c (by omega))
  · simp only [List.length_map, List.length_range] at hi
    obtain ⟨_, r1, r2, r3, _⟩ := h i (by omega)
    unfold maxLen at r2
    have e : rw' ((List.range len).map fun r => (Z r).take (L r)) i = (Z i).take (L i) := by simp [rw', List.getD, hi]
    rw [e]; simp; omega

end Go.Proofs.YthbkfpkeofpocaaGreat

namespace Go.Proofs.YthbkfpkeofpocaaGreat
open Go.RowKit
set_option linter.unusedVariables false

/-- The program hands back a matrix of its own and a code. -/
def ImplM (R : List (List Int)) (C : Int) (w : World) (e : Ending) (w' : World) : Prop :=
  ∃ r c, e = .returned (.tuple #[.slice r R.length c, .int .i64 C]) ∧ OwnM w.heap.size w'.heap.size w' r R ∧ Below w.heap.size w w'
def SpecR (R : List Int) (C : Int) (w : World) (e : Ending) (w' : World) : Prop :=
  ∃ r c, e = .returned (.tuple #[.slice r R.length c, .int .i64 C]) ∧ RowIn w.heap.size w'.heap.size w' r R ∧ Below w.heap.size w w'
def ImplR (R : List Int) (C : Int) (w : World) (e : Ending) (w' : World) : Prop :=
  ∃ r c, e = .returned (.tuple #[.slice r R.length c, .int .i64 C]) ∧ OwnR w.heap.size w'.heap.size w' r R ∧ Below w.heap.size w w'
/-- A number and a code are handed back. -/
def RetI (V C : Int) (w : World) (e : Ending) (w' : World) : Prop := e = .returned (.tuple #[.int .i64 V, .int .i64 C]) ∧ Below w.heap.size w w'
def RetB (V : Bool) (C : Int) (w : World) (e : Ending) (w' : World) : Prop := e = .returned (.tuple #[.bool V, .int .i64 C]) ∧ Below w.heap.size w w'
def Ret1 (V : Bool) (w : World) (e : Ending) (w' : World) : Prop := e = .returned (.bool V) ∧ Below w.heap.size w w'

end Go.Proofs.YthbkfpkeofpocaaGreat

namespace Go.Proofs.YthbkfpkeofpocaaGreat
open Go.RowKit Go.ChangeShapes Go.WideShapes
set_option linter.unusedVariables false

/-- Blocks outside lo up to hi are as they were; there may be new ones. -/
structure OffG (lo hi : Nat) (w w' : World) : Prop where
  os : w'.os = w.os
  tape : w'.tape = w.tape
  output : w'.output = w.output
  size : w.heap.size ≤ w'.heap.size
  block : ∀ k, k < w.heap.size → (k < lo ∨ hi ≤ k) → w'.heap[k]? = w.heap[k]?
theorem OffG.same {lo hi lo' hi' : Nat} {w w' : World} (h : OffG lo hi w w') (k : hi' ≤ lo ∨ hi ≤ lo') (hz : hi' ≤ w.heap.size) : Same lo' hi' w w' := fun i i0 i1 => h.block i (by omega) (by omega)
theorem OffG.below {B lo hi : Nat} {w w' : World} (h : OffG lo hi w w') (hB : B ≤ lo) (hw : lo ≤ w.heap.size) : Below B w w' := ⟨h.os, h.tape, h.output, h.size, fun k hk => h.block k (by omega) (by omega)⟩

theorem OffG.cell {lo hi : Nat} {w w' : World} (h : OffG lo hi w w') {p : Addr} (k0 : p.block < w.heap.size) (k : p.block < lo ∨ hi ≤ p.block) : w'.cell? p = w.cell? p := World.cell?_of_block (w := w) (h.block p.block k0 k)
theorem Off.cell {lo hi : Nat} {w w' : World} (h : Off lo hi w w') {p : Addr} (k : p.block < lo ∨ hi ≤ p.block) : w'.cell? p = w.cell? p := World.cell?_of_block (w := w) (h.block p.block k)
theorem below_alloc (w : World) (o : Obj) : Below w.heap.size w (w.alloc o) := (Below.refl _ _).alloc (Nat.le_refl _) o
theorem below_drew (w : World) : Below w.heap.size w w.drew := (Below.refl _ _).drew
theorem size_alloc (w : World) (o : Obj) : w.heap.size ≤ (w.alloc o).heap.size := by simp
theorem lt_alloc (w : World) (o : Obj) : w.heap.size < (w.alloc o).heap.size := by simp
theorem nw0 (w : World) (x y : Value) (t : TypeId) : (w.alloc (.cells #[x, y] t)).cell? ⟨w.heap.size, 0, none⟩ = some x := by simp [go_sem]
theorem nw1 (w : World) (x y : Value) (t : TypeId) : (w.alloc (.cells #[x, y] t)).cell? ⟨w.heap.size, 1, none⟩ = some y := by simp [go_sem]

theorem OwnR.mono' {lo hi lo' hi' : Nat} {w : World} {a : Option Addr} {zs : List Int} (h : OwnR lo hi w a zs) (h0 : lo' ≤ lo) (h1 : hi ≤ hi') : OwnR lo' hi' w a zs := by
  rcases h with h | ⟨b, o, ha, k0, k1, hc⟩
  · exact .inl h
  · exact .inr ⟨b, o, ha, by omega, by omega, hc⟩
end Go.Proofs.YthbkfpkeofpocaaGreat

namespace Go.Proofs.YthbkfpkeofpocaaGreat
open Go.RowKit
set_option linter.unusedVariables false

def isSp (p : Int) (S : List Int) : Bool := prm p && decide (1 ≤ S.length ∧ S.length ≤ 6) && S.all (inr p)
structure Spa (p : Int) (S : List Int) : Prop where
  prime : prm p = true
  lo : 1 ≤ S.length
  hi : S.length ≤ 6
  all : S.all (inr p) = true
theorem isSp_iff {p : Int} {S : List Int} : isSp p S = true ↔ Spa p S := by
  unfold isSp
  simp only [Bool.and_eq_true, decide_eq_true_eq]
  exact ⟨fun h => ⟨h.1.1, h.1.2.1, h.1.2.2, h.2⟩, fun h => ⟨⟨h.prime, h.lo, h.hi⟩, h.all⟩⟩
theorem isSp_no {p : Int} {S : List Int} (h : ¬ Spa p S) : isSp p S = false := by
  cases e : isSp p S with
  | false => rfl
  | true => exact absurd (isSp_iff.1 e) h
theorem Spa.num {p : Int} {S : List Int} (h : Spa p S) {j : Nat} (hj : j < S.length) : 0 ≤ S.getD j 0 ∧ S.getD j 0 < p := by
  have ha := h.all
  rw [List.all_eq_true] at ha
  exact inr_iff.1 (ha _ (by rw [getD_at hj]; exact List.getElem_mem hj))

set_option maxHeartbeats 800000 in
theorem isSpace_any (p : Int) (a : Option Addr) (S : List Int) (c lo tp : Nat) (w : World) (h : RowIn lo tp w a S) (ht : tp ≤ w.heap.size) (hs : S.length ≤ 1048576) :
    Calls Tryz.prog 60 #[.agg #[.int .i64 p, .slice a S.length c]] w fun e w' => e = .returned (.bool (isSp p S)) ∧ Below w.heap.size w w' := by
  have H := Lib.hid h
  clear h
  by_cases h1 : 1 ≤ S.length
  · by_cases h2 : S.length ≤ 6
    · rcases code_cases p S with ⟨hp, hc⟩ | ⟨hp, ha, hc⟩ | ⟨hp, ha, hc⟩
      · have HC := Lib.hid hc
        have HV : Hid (isSp p S = false) := isSp_no (fun k => by have := k.prime; rw [hp] at this; cases this)
        clear hc hp
        go_enter Tryz.func60, Tryz.ntmps60
        go_wp2_with (go_at_call 32; (with_reducible refine (checkRow_any p a S c lo tp _ (H.out.below ((Below.refl _ _).alloc (Nat.le_refl _) _) ht) (by omega)).mono ?_); rintro e w1 ⟨rfl, rfl⟩; rw [HC.out])
        go_ret
        exact ⟨by rw [HV.out]; rfl, by ((repeat' (first | with_reducible exact Below.refl _ _ | (with_reducible refine Below.setCell ?_ ?_ _) | (with_reducible refine Below.alloc ?_ ?_ _) | (with_reducible refine Below.drew ?_))); all_goals (first | (simp; done) | omega | (simp; omega)))⟩
      · have HC := Lib.hid hc
        have HV : Hid (isSp p S = true) := isSp_iff.2 ⟨hp, h1, h2, ha⟩
        clear hc hp ha
        go_enter Tryz.func60, Tryz.ntmps60
        go_wp2_with (go_at_call 32; (with_reducible refine (checkRow_any p a S c lo tp _ (H.out.below ((Below.refl _ _).alloc (Nat.le_refl _) _) ht) (by omega)).mono ?_); rintro e w1 ⟨rfl, rfl⟩; rw [HC.out])
        go_ret
        exact ⟨by rw [HV.out]; rfl, by ((repeat' (first | with_reducible exact Below.refl _ _ | (with_reducible refine Below.setCell ?_ ?_ _) | (with_reducible refine Below.alloc ?_ ?_ _) | (with_reducible refine Below.drew ?_))); all_goals (first | (simp; done) | omega | (simp; omega)))⟩
      · have HC := Lib.hid hc
        have HV : Hid (isSp p S = false) := isSp_no (fun k => by have := k.all; rw [ha] at this; cases this)
        clear hc hp ha
        go_enter Tryz.func60, Tryz.ntmps60
        go_wp2_with (go_at_call 32; (with_reducible refine (checkRow_any p a S c lo tp _ (H.out.below ((Below.refl _ _).alloc (Nat.le_refl _) _) ht) (by omega)).mono ?_); rintro e w1 ⟨rfl, rfl⟩; rw [HC.out])
        go_ret
        exact ⟨by rw [HV.out]; rfl, by ((repeat' (first | with_reducible exact Below.refl _ _ | (with_reducible refine Below.setCell ?_ ?_ _) | (with_reducible refine Below.alloc ?_ ?_ _) | (with_reducible refine Below.drew ?_))); all_goals (first | (simp; done) | omega | (simp; omega)))⟩
    · have HV : Hid (isSp p S = false) := isSp_no (fun k => h2 k.hi)
      go_enter Tryz.func60, Tryz.ntmps60
      go_wp2
      go_ret
      exact ⟨by rw [HV.out]; rfl, by ((repeat' (first | with_reducible exact Below.refl _ _ | (with_reducible refine Below.setCell ?_ ?_ _) | (with_reducible refine Below.alloc ?_ ?_ _) | (with_reducible refine Below.drew ?_))); all_goals (first | (simp; done) | omega | (simp; omega)))⟩
  · have HV : Hid (isSp p S = false) := isSp_no (fun k => h1 k.lo)
    go_enter Tryz.func60, Tryz.ntmps60
    go_wp2
    go_ret
    exact ⟨by rw [HV.out]; rfl, by ((repeat' (first | with_reducible exact Below.refl _ _ | (with_reducible refine Below.setCell ?_ ?_ _) | (with_reducible refine Below.alloc ?_ ?_ _) | (with_reducible refine Below.drew ?_))); all_goals (first | (simp; done) | omega | (simp; omega)))⟩

set_option maxHeartbeats 800000 in
theorem l03Is_any (p : Int) (a : Option Addr) (S : List Int) (c lo tp : Nat) (w : World) (h : RowIn lo tp w a S) (ht : tp ≤ w.heap.size) (hs : S.length ≤ 1048576) :
    Calls Tryz.prog 40 #[.agg #[.int .i64 p, .slice a S.length c]] w fun e w' => e = .returned (.bool (isSp p S)) ∧ Below w.heap.size w w' := by
  have H := Lib.hid h
  clear h
  by_cases hp : prm p = true
  · have HP := Lib.hid hp
    clear hp
    by_cases h1 : 1 ≤ S.length ∧ S.length ≤ 6
    · have hb : (1 : Int) ≤ (S.length : Int) ∧ (S.length : Int) ≤ 6 := by omega
      by_cases ha : S.all (inr p) = true
      · have HA := Lib.hid ha
        have HV : Hid (isSp p S = true) := isSp_iff.2 ⟨HP.out, h1.1, h1.2, ha⟩
        clear ha h1
        go_enter Tryz.func40, Tryz.ntmps40
        go_wp2_with (first | (go_at_call 61; refine (l01Prime_any _ _).mono ?_; rintro e w1 ⟨rfl, rfl⟩; rw [HP.out]) | (go_at_call 62; refine (l01In_yes _ _ _ _ hb.1 hb.2).mono ?_; rintro e w1 ⟨rfl, rfl⟩) | (go_at_call 63; (with_reducible refine (numsRow p a S c lo tp _ HP.out (H.out.below ((Below.refl _ _).alloc (Nat.le_refl _) _) ht) (by omega)).mono ?_); rintro e w1 ⟨rfl, rfl⟩; rw [HA.out]))
        go_ret
        exact ⟨by rw [HV.out]; rfl, by ((repeat' (first | with_reducible exact Below.refl _ _ | (with_reducible refine Below.setCell ?_ ?_ _) | (with_reducible refine Below.alloc ?_ ?_ _) | (with_reducible refine Below.drew ?_))); all_goals (first | (simp; done) | omega | (simp; omega)))⟩
      · have HA : Hid (S.all (inr p) = false) := by show _ = _; simpa using ha
        have HV : Hid (isSp p S = false) := isSp_no (fun k => ha k.all)
        clear ha h1
        go_enter Tryz.func40, Tryz.ntmps40
        go_wp2_with (first | (go_at_call 61; refine (l01Prime_any _ _).mono ?_; rintro e w1 ⟨rfl, rfl⟩; rw [HP.out]) | (go_at_call 62; refine (l01In_yes _ _ _ _ hb.1 hb.2).mono ?_; rintro e w1 ⟨rfl, rfl⟩) | (go_at_call 63; (with_reducible refine (numsRow p a S c lo tp _ HP.out (H.out.below ((Below.refl _ _).alloc (Nat.le_refl _) _) ht) (by omega)).mono ?_); rintro e w1 ⟨rfl, rfl⟩; rw [HA.out]))
        go_ret
        exact ⟨by rw [HV.out]; rfl, by ((repeat' (first | with_reducible exact Below.refl _ _ | (with_reducible refine Below.setCell ?_ ?_ _) | (with_reducible refine Below.alloc ?_ ?_ _) | (with_reducible refine Below.drew ?_))); all_goals (first | (simp; done) | omega | (simp; omega)))⟩
    · have hb : ¬ ((1 : Int) ≤ (S.length : Int) ∧ (S.length : Int) ≤ 6) := by omega
      have HB := Lib.hid hb
      have HV : Hid (isSp p S = false) := isSp_no (fun k => h1 ⟨k.lo, k.hi⟩)
      clear h1 hb
      go_enter Tryz.func40, Tryz.ntmps40
      go_wp2_with (first | (go_at_call 61; refine (l01Prime_any _ _).mono ?_; rintro e w1 ⟨rfl, rfl⟩; rw [HP.out]) | (go_at_call 62; refine (l01In_no _ _ _ _ HB.out).mono ?_; rintro e w1 ⟨rfl, rfl⟩))
      go_ret
      exact ⟨by rw [HV.out]; rfl, by ((repeat' (first | with_reducible exact Below.refl _ _ | (with_reducible refine Below.setCell ?_ ?_ _) | (with_reducible refine Below.alloc ?_ ?_ _) | (with_reducible refine Below.drew ?_))); all_goals (first | (simp; done) | omega | (simp; omega)))⟩
  · have HP : Hid (prm p = false) := by show _ = _; simpa using hp
    have HV : Hid (isSp p S = false) := isSp_no (fun k => hp k.prime)
    clear hp
    go_enter Tryz.func40, Tryz.ntmps40
    go_wp2_with (first | (go_at_call 61; refine (l01Prime_any _ _).mono ?_; rintro e w1 ⟨rfl, rfl⟩; rw [HP.out]))
    go_ret
    exact ⟨by rw [HV.out]; rfl, by ((repeat' (first | with_reducible exact Below.refl _ _ | (with_reducible refine Below.setCell ?_ ?_ _) | (with_reducible refine Below.alloc ?_ ?_ _) | (with_reducible refine Below.drew ?_))); all_goals (first | (simp; done) | omega | (simp; omega)))⟩

end Go.Proofs.YthbkfpkeofpocaaGreat
