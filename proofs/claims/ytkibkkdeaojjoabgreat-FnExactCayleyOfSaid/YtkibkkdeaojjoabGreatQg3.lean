/-
  Matrices as lists of lists: made of a function, their rows and numbers, sums of products, and what chapter 2 makes of them. No Go in sight.
  No conditions.
  What the laws' sizes, copies, comparisons and marks of lists of numbers do, and the checks of their numbers, wherever they lie.
  Conditions: the lists are nil or rows of known cells, of at most 1048576 numbers.
-/
import Derived.Test.YtkibkkdeaojjoabGreatQg2
import Derived.BigQuiet
import Derived.Deep.QuietTactic
import Derived.Deep.Draws
import Derived.Laws.MakeOwn
import Derived.OpenShut
import Derived.Deep.OwnRows
namespace Go.Proofs.YtkibkkdeaojjoabGreat
set_option linter.unusedVariables false

/-- A list made of a function. -/
def mkR (c : Nat) (f : Nat → Int) : List Int := (List.range c).map f
/-- A matrix made of a function. -/
def mk (n c : Nat) (f : Nat → Nat → Int) : List (List Int) := (List.range n).map fun i => mkR c (f i)
theorem mkR_len (c : Nat) (f : Nat → Int) : (mkR c f).length = c := by simp [mkR]
theorem mkR_at {c : Nat} (f : Nat → Int) {j : Nat} (h : j < c) : (mkR c f).getD j 0 = f j := by simp [mkR, List.getD, h]
theorem mk_len (n c : Nat) (f : Nat → Nat → Int) : (mk n c f).length = n := by simp [mk]
theorem mk_row {n c : Nat} (f : Nat → Nat → Int) {i : Nat} (h : i < n) : rw' (mk n c f) i = mkR c (f i) := by simp [mk, rw', List.getD, h]
theorem mk_rowLen {n c : Nat} (f : Nat → Nat → Int) {i : Nat} (h : i < n) : (rw' (mk n c f) i).length = c := by rw [mk_row f h, mkR_len]
theorem mk_at {n c : Nat} (f : Nat → Nat → Int) {i j : Nat} (h : i < n) (k : j < c) : at' (mk n c f) i j = f i j := by rw [at', mk_row f h, mkR_at _ k]
theorem mkR_congr {c : Nat} {f g : Nat → Int} (h : ∀ j, j < c → f j = g j) : mkR c f = mkR c g := by
  unfold mkR; apply List.map_congr_left; intro j hj; exact h j (List.mem_range.1 hj)
theorem mk_congr {n c : Nat} {f g : Nat → Nat → Int} (h : ∀ i, i < n → ∀ j, j < c → f i j = g i j) : mk n c f = mk n c g := by
  unfold mk; apply List.map_congr_left; intro i hi; exact mkR_congr (h i (List.mem_range.1 hi))
/-- A matrix with rows of one length is made of its numbers. -/
theorem eq_mk {m : List (List Int)} {c : Nat} (h : ∀ i, i < m.length → (rw' m i).length = c) : m = mk m.length c (at' m) := by
  apply mat_ext (by rw [mk_len])
  intro i hi
  rw [mk_row _ hi]
  apply row_ext (by rw [mkR_len]; exact h i hi)
  intro j hj
  rw [mkR_at _ (by rw [h i hi] at hj; exact hj)]
  rfl
theorem mkR_self (z : List Int) : mkR z.length (fun j => z.getD j 0) = z := by
  apply row_ext (by rw [mkR_len])
  intro j hj
  rw [mkR_at _ (by rwa [mkR_len] at hj)]

/-- A sum of the first n. -/
def sm : Nat → (Nat → Int) → Int
  | 0, _ => 0
  | n + 1, f => sm n f + f n
theorem sm_congr {n : Nat} {f g : Nat → Int} (h : ∀ j, j < n → f j = g j) : sm n f = sm n g := by
  induction n with
  | zero => rfl
  | succ n ih => simp only [sm]; rw [ih (fun j hj => h j (by omega)), h n (by omega)]
theorem sm_add (n : Nat) (f g : Nat → Int) : sm n (fun j => f j + g j) = sm n f + sm n g := by
  induction n with
  | zero => rfl
  | succ n ih => simp only [sm]; rw [ih]; omega
theorem sm_mul (n : Nat) (c : Int) (f : Nat → Int) : sm n (fun j => c * f j) = c * sm n f := by
  induction n with
  | zero => simp [sm]
  | succ n ih => simp only [sm]; rw [ih, Int.mul_add]
theorem sm_zero (n : Nat) : sm n (fun _ => 0) = 0 := by
  induction n with
  | zero => rfl
  | succ n ih => simp only [sm]; rw [ih]; rfl
theorem sm_single (n k : Nat) (x : Int) : sm n (fun j => if j = k then x else 0) = if k < n then x else 0 := by
  induction n with
  | zero => rfl
  | succ n ih =>
    simp only [sm]; rw [ih]
    by_cases h : n = k
    · subst h; rw [if_neg (by omega), if_pos rfl, if_pos (by omega)]; omega
    · rw [if_neg h]
      by_cases k' : k < n
      · rw [if_pos k', if_pos (by omega)]; omega
      · rw [if_neg k', if_neg (by omega)]; omega
theorem sm_swap (n m : Nat) (f : Nat → Nat → Int) : sm n (fun i => sm m (fun j => f i j)) = sm m (fun j => sm n (fun i => f i j)) := by
  induction n with
  | zero => simp only [sm]; rw [sm_zero]
  | succ n ih => simp only [sm]; rw [ih, ← sm_add]
theorem sm_mod (n : Nat) (p : Int) (f : Nat → Int) : sm n (fun j => f j % p) % p = sm n f % p := by
  induction n with
  | zero => rfl
  | succ n ih => simp only [sm]; rw [Int.add_emod, ih, Int.emod_emod, ← Int.add_emod]
theorem sm_bd {n : Nat} {f : Nat → Int} {b : Int} (h : ∀ j, j < n → 0 ≤ f j ∧ f j ≤ b) : 0 ≤ sm n f ∧ sm n f ≤ n * b := by
  induction n with
  | zero => simp [sm]
  | succ n ih =>
    have h1 := ih (fun j hj => h j (by omega))
    have h2 := h n (by omega)
    simp only [sm]
    have e : ((n + 1 : Nat) : Int) * b = n * b + b := by rw [Int.natCast_add, Int.add_mul]; simp
    rw [e]; omega

/-! ### Matrices of chapter 2 -/
/-- Whether p is a prime and m a matrix with at least n rows (n is 0 or 1). -/
def isL (n : Nat) (p : Int) (m : List (List Int)) : Bool :=
  prm p && decide (n ≤ m.length ∧ m.length ≤ 16) && m.all fun r => decide (1 ≤ r.length ∧ r.length ≤ 16 ∧ r.length = (rw' m 0).length) && r.all (inr p)
def isM (p : Int) (m : List (List Int)) : Bool := isL 1 p m

/-- What is known of a list of vectors. -/
structure Lst (n : Nat) (p : Int) (m : List (List Int)) : Prop where
  prime : prm p = true
  lo : n ≤ m.length
  hi : m.length ≤ 16
  len : ∀ i, i < m.length → (rw' m i).length = (rw' m 0).length
  c0 : ∀ i, i < m.length → 1 ≤ (rw' m i).length
  c1 : ∀ i, i < m.length → (rw' m i).length ≤ 16
  all : ∀ i, i < m.length → (rw' m i).all (inr p) = true
theorem mem_row {m : List (List Int)} {i : Nat} (h : i < m.length) : rw' m i ∈ m := by simp [rw', List.getD, h]
theorem isL_iff {n : Nat} {p : Int} {m : List (List Int)} : isL n p m = true ↔ Lst n p m := by
  unfold isL
  simp only [Bool.and_eq_true, decide_eq_true_eq, List.all_eq_true]
  constructor
  · rintro ⟨⟨hp, h0, h1⟩, h2⟩
    have g := fun i (hi : i < m.length) => h2 _ (mem_row hi)
    exact ⟨hp, h0, h1, fun i hi => (g i hi).1.2.2, fun i hi => (g i hi).1.1, fun i hi => (g i hi).1.2.1, fun i hi => by rw [List.all_eq_true]; exact (g i hi).2⟩
  · rintro ⟨hp, h0, h1, h2, h3, h4, h5⟩
    refine ⟨⟨hp, h0, h1⟩, fun r hr => ?_⟩
    obtain ⟨i, hi, rfl⟩ := List.getElem_of_mem hr
    have e : rw' m i = m[i] := by simp [rw', List.getD, hi]
    have := h5 i hi
    rw [List.all_eq_true, e] at this
    rw [← e]
    exact ⟨⟨h3 i hi, h4 i hi, h2 i hi⟩, by rw [e]; exact this⟩
theorem not_isL {n : Nat} {p : Int} {m : List (List Int)} (h : ¬ Lst n p m) : isL n p m = false := by
  cases e : isL n p m with
  | false => rfl
  | true => exact absurd (isL_iff.1 e) h
theorem Lst.cols {n : Nat} {p : Int} {m : List (List Int)} (h : Lst n p m) {i : Nat} (hi : i < m.length) : (rw' m i).length = (rw' m 0).length := h.len i hi
theorem Lst.at {n : Nat} {p : Int} {m : List (List Int)} (h : Lst n p m) {i j : Nat} (hi : i < m.length) (hj : j < (rw' m 0).length) : 0 ≤ at' m i j ∧ at' m i j < p := by
  have ha := h.all i hi
  rw [List.all_eq_true] at ha
  have hl : j < (rw' m i).length := by rw [h.len i hi]; exact hj
  exact inr_iff.1 (ha _ (by unfold at'; rw [getD_at hl]; exact List.getElem_mem hl))

def mulM (p : Int) (a b : List (List Int)) : List (List Int) := mk a.length (rw' b 0).length fun i k => sm b.length (fun j => at' a i j * at' b j k) % p
def trM (a : List (List Int)) : List (List Int) := mk (rw' a 0).length a.length fun k i => at' a i k
def oneM (n : Nat) : List (List Int) := mk n n fun i j => if i = j then 1 else 0

end Go.Proofs.YtkibkkdeaojjoabGreat

namespace Go.Proofs.YtkibkkdeaojjoabGreat
open Go.RowKit Go.ChangeShapes Go.WideShapes
set_option linter.unusedVariables false

theorem szRow_yes (a : Option Addr) (n cap : Nat) (left : Int) (w : World) (h : (n : Int) ≤ left) (k : left ≤ 1048576) :
    Calls Tryz.prog 21 #[.slice a n cap, .int .i64 left] w fun e w' => e = .returned (.int .i64 (left - n)) ∧ w = w' := by
  go_enter Tryz.func21, Tryz.ntmps21
  go_wp2
  go_ret
  exact ⟨rfl, rfl⟩
theorem szRow_no (a : Option Addr) (n cap : Nat) (left : Int) (w : World) (h : left < n) (h0 : 0 ≤ left) (k : (n : Int) ≤ 9223372036854775807) :
    Calls Tryz.prog 21 #[.slice a n cap, .int .i64 left] w fun e w' => e = .returned (.int .i64 (-1)) ∧ w = w' := by
  go_enter Tryz.func21, Tryz.ntmps21
  go_wp2
  go_ret
  exact ⟨rfl, rfl⟩

theorem info64 : (Tryz.prog.info? 2).map (fun i => (i.zero, i.size, i.bytes)) = some (some (.int .i64 0), 1, 8) := by kernel_rfl

/-- A row copied into new memory: its block begins where memory ended. -/
def Copied (zs : List Int) (w : World) (e : Ending) (w' : World) : Prop :=
  e = .returned (.slice (some ⟨w.heap.size, 0, none⟩) zs.length zs.length) ∧ Below w.heap.size w w' ∧ w.heap.size < w'.heap.size ∧ OwnR w.heap.size w'.heap.size w' (some ⟨w.heap.size, 0, none⟩) zs

/-- What has been copied so far. -/
structure Half (w : World) (b i : Nat) (zs : List Int) : Prop where
  lt : b < w.heap.size
  done : ∀ j, j < i → w.cell? ⟨b, j, none⟩ = some (.int .i64 (zs.getD j 0))
  rest : ∀ j, i ≤ j → j < zs.length → w.cell? ⟨b, j, none⟩ = some (.int .i64 0)
  free : ∀ j, w.frozen? ⟨b, j, none⟩ = false
theorem Half.start (w : World) (zs : List Int) (t : TypeId) : Half (w.alloc (.cells (madeCells #[.int .i64 0] zs.length) t)) w.heap.size 0 zs :=
  ⟨by simp, fun j hj => by omega, fun j _ hj => by
    have h := World.cell?_alloc_new (w := w) (madeCells #[.int .i64 0] zs.length) t j
    rw [h]
    simp [madeCells, hj, Nat.mod_one], fun j => by simp [go_sem]⟩
theorem Half.quiet {w w' : World} {b i : Nat} {zs : List Int} (h : Half w b i zs) (k : Quiet w w') : Half w' b i zs := by
  obtain ⟨n, rfl⟩ := k
  exact ⟨h.lt, h.done, h.rest, h.free⟩
theorem Half.next {w : World} {b i : Nat} {zs : List Int} (h : Half w b i zs) (hi : i < zs.length) : Half (w.setCell ⟨b, i, none⟩ (.int .i64 (zs.getD i 0))) b (i + 1) zs :=
  ⟨by simpa [World.setCell] using h.lt, fun j hj => by
    by_cases hji : j = i
    · subst hji
      exact World.cell?_setCell_same w _ _ (h.rest j (Nat.le_refl _) hi)
    · exact (World.cell?_setCell_other _ _ _ _ (by first | (simp; done) | (simp; omega))).trans (h.done j (by omega)),
   fun j hj hl => (World.cell?_setCell_other _ _ _ _ (by first | (simp; done) | (simp; omega))).trans (h.rest j (by omega) hl), fun j => by simp [go_sem, h.free]⟩

set_option maxHeartbeats 800000 in
theorem copyRow (a : Option Addr) (zs : List Int) (cap : Nat) (lo hi : Nat) (w : World) (hin : RowIn lo hi w a zs) (hhi : hi ≤ w.heap.size) (hl : zs.length ≤ 1048576) :
    Calls Tryz.prog 8 #[.slice a zs.length cap] w (Copied zs w) := by
  have HI := Lib.hid hin
  clear hin
  have hmk := fun W => run_make_row' (P := Tryz.prog) 22 2 (.int .i64 0) 8 Tryz.underlying22 info64 rfl .i64 .i64 zs.length (by omega) (by omega) W
  go_enter Tryz.func8, Tryz.ntmps8
  go_wp2
  clear hmk
  go_loopw [4] (fun t wr => ∃ i : Nat, i ≤ zs.length ∧ t = .int .i64 i ∧ Half wr w.heap.size i zs ∧ Below w.heap.size w wr) (fun t _ => zs.length - (intOf t).toNat)
  case atStart => exact ⟨0, Nat.zero_le _, rfl, Half.start w zs _, by ((repeat' (first | with_reducible exact Below.refl _ _ | (with_reducible refine Below.setCell ?_ ?_ _) | (with_reducible refine Below.alloc ?_ ?_ _) | (with_reducible refine Below.drew ?_))); all_goals (first | (simp; done) | omega | (simp; omega)))⟩
  case round =>
    obtain ⟨i, hi, rfl, hh, hbel⟩ := hrel
    have HH := Lib.hid hh
    by_cases hlt : i < zs.length
    · have g0 := hh.rest i (Nat.le_refl _) hlt
      have f0 := hh.free i
      obtain ⟨b, o, ha, _, hs, hc⟩ := HI.out.num hlt
      subst ha
      have hcell := (hbel.cell (p := ⟨b, o + i, none⟩) (Nat.lt_of_lt_of_le hs hhi)).trans hc
      obtain ⟨x, hx⟩ : ∃ x, x = zs.getD i 0 := ⟨_, rfl⟩
      rw [← hx] at hcell
      have HX := Lib.hid hx
      clear hx hh hc
      go_wp2
      go_roundw
      case rel => exact ⟨i + 1, by omega, by go_num, by rw [HX.out]; exact HH.out.next hlt, by (have hs_hbel := hbel.size; (repeat' (first | with_reducible exact Below.refl _ _ | (with_reducible refine Below.setCell ?_ ?_ _) | (with_reducible refine Below.alloc ?_ ?_ _) | (with_reducible refine Below.drew ?_) | (with_reducible refine below_step ?_ ?_ hbel))); all_goals (first | (simp; done) | omega | (simp; omega) | (simp at hs_hbel ⊢; omega)))⟩
      case measure => simp [intOf]; omega
    · clear hh
      go_wp2
      go_ret
      exact ⟨rfl, hbel, HH.out.lt, .inr ⟨_, 0, rfl, Nat.le_refl _, HH.out.lt, fun j hj => ⟨by rw [Nat.zero_add]; exact HH.out.done j (by omega), by rw [Nat.zero_add]; exact HH.out.free j⟩⟩⟩

set_option maxHeartbeats 800000 in
theorem sameRow (a c : Option Addr) (zs : List Int) (k1 k2 lo hi lo' hi' : Nat) (w : World) (hb : RowIn lo hi w a zs) (hc : RowIn lo' hi' w c zs) (hl : zs.length ≤ 1048576) :
    Calls Tryz.prog 12 #[.slice a zs.length k1, .slice c zs.length k2] w fun e w' => e = .returned (.bool true) ∧ Quiet w w' := by
  have HB := Lib.hid hb
  have HC := Lib.hid hc
  clear hb hc
  go_enter Tryz.func12, Tryz.ntmps12
  go_wp2
  go_loopw [5] (fun t wr => ∃ i : Nat, i ≤ zs.length ∧ t = .int .i64 i ∧ (∃ n, wr = w.drewN n)) (fun t _ => zs.length - (intOf t).toNat)
  case atStart => exact ⟨0, Nat.zero_le _, rfl, 0, rfl⟩
  case round =>
    obtain ⟨i, hi, rfl, n, rfl⟩ := hrel
    by_cases hlt : i < zs.length
    · obtain ⟨b1, o1, ha1, _, _, hb1⟩ := HB.out.num hlt
      obtain ⟨b2, o2, ha2, _, _, hb2⟩ := HC.out.num hlt
      subst ha1
      subst ha2
      obtain ⟨x, hx⟩ : ∃ x, x = zs.getD i 0 := ⟨_, rfl⟩
      rw [← hx] at hb1 hb2
      clear hx
      go_wp2
      go_quiet (fail)
      go_wp2
      go_roundw
      case rel => exact ⟨i + 1, by omega, by go_num, _, rfl⟩
      case measure => simp [intOf]; omega
    · go_wp2
      go_ret
      exact ⟨rfl, n, rfl⟩

theorem mark_next {w : World} {b o i : Nat} {k x : Int} (hd : ∀ j, j < i → w.cell? ⟨b, o + j, none⟩ = some (.int .i64 (k + j))) (c0 : w.cell? ⟨b, o + i, none⟩ = some (.int .i64 x)) :
    ∀ j, j < i + 1 → (w.setCell ⟨b, o + i, none⟩ (.int .i64 (k + i))).cell? ⟨b, o + j, none⟩ = some (.int .i64 (k + j)) := by
  intro j hj
  by_cases e : j = i
  · subst e; exact World.cell?_setCell_same w _ _ c0
  · exact (World.cell?_setCell_other _ _ _ _ (by first | (simp; done) | (simp; omega))).trans (hd j (by omega))

set_option maxHeartbeats 800000 in
theorem markRow (b o : Nat) (L cap : Nat) (k : Int) (w : World) (hc : ∀ j, j < L → ∃ x : Int, w.cell? ⟨b, o + j, none⟩ = some (.int .i64 x)) (hf : ∀ j, j < L → w.frozen? ⟨b, o + j, none⟩ = false) (hl : L ≤ 1048576) (k0 : 0 ≤ k) (k1 : k ≤ 100000000) :
    Calls Tryz.prog 14 #[.slice (some ⟨b, o, none⟩) L cap, .int .i64 k] w fun e w' => e = .returned (.int .i64 (k + L)) ∧ Wrote b o L w w' ∧ ∀ j, j < L → w'.cell? ⟨b, o + j, none⟩ = some (.int .i64 (k + j)) := by
  have HC := Lib.hid hc
  have HF := Lib.hid hf
  clear hc hf
  go_enter Tryz.func14, Tryz.ntmps14
  go_wp2
  go_loopw [1, 5] (fun s t wr => ∃ i : Nat, i ≤ L ∧ t = .int .i64 i ∧ s = .int .i64 (k + i) ∧ Wrote b o i w wr ∧ ∀ j, j < i → wr.cell? ⟨b, o + j, none⟩ = some (.int .i64 (k + j))) (fun _ t _ => L - (intOf t).toNat)
  case atStart => exact ⟨0, Nat.zero_le _, rfl, by simp, Wrote.refl _ _ _ _, fun j hj => by omega⟩
  case round =>
    obtain ⟨i, hi, rfl, rfl, hw, hd⟩ := hrel
    have HW := Lib.hid hw
    have HD := Lib.hid hd
    clear hd
    by_cases hlt : i < L
    · have f0 := (hw.frozen (o + i)).trans (HF.out i hlt)
      obtain ⟨x, cx⟩ := HC.out i hlt
      have c0 := (hw.cell (o + i) (fun j hj => by omega)).trans cx
      have HC0 := Lib.hid c0
      clear hw cx
      go_wp2
      go_roundw
      case rel => exact ⟨i + 1, by omega, by go_num, by simp; omega, (HW.out.mono (by omega)).set (by omega) _, mark_next HD.out HC0.out⟩
      case measure => simp [intOf]; omega
    · clear hw
      go_wp2
      go_ret
      exact ⟨ret_int (by omega), HW.out.mono hi, fun j hj => HD.out j (by omega)⟩

theorem markRow_nil (a : Option Addr) (cap : Nat) (k : Int) (w : World) :
    Calls Tryz.prog 14 #[.slice a 0 cap, .int .i64 k] w fun e w' => e = .returned (.int .i64 k) ∧ w = w' := by
  go_enter Tryz.func14, Tryz.ntmps14
  go_wp2
  go_loop [1, 5] (fun s t => t = .int .i64 0 ∧ s = .int .i64 k) (fun _ t => 0)
  case atStart => exact ⟨rfl, rfl⟩
  case round =>
    obtain ⟨rfl, rfl⟩ := hrel
    go_wp2
    go_ret
    exact ⟨rfl, rfl⟩

set_option maxHeartbeats 800000 in
theorem heldRow (a : Option Addr) (zs : List Int) (cap lo hi : Nat) (k : Int) (w : World) (hc : RowIn lo hi w a zs) (hv : ∀ j, j < zs.length → zs.getD j 0 = k + j) (hl : zs.length ≤ 1048576) (k0 : 0 ≤ k) (k1 : k ≤ 100000000) :
    Calls Tryz.prog 33 #[.slice a zs.length cap, .int .i64 k] w fun e w' => e = .returned (.int .i64 (k + zs.length)) ∧ Quiet w w' := by
  have HC := Lib.hid hc
  have HV := Lib.hid hv
  clear hc hv
  go_enter Tryz.func33, Tryz.ntmps33
  go_wp2
  go_loopw [1, 5] (fun s t wr => ∃ i : Nat, i ≤ zs.length ∧ t = .int .i64 i ∧ s = .int .i64 (k + i) ∧ ∃ n, wr = w.drewN n) (fun _ t _ => zs.length - (intOf t).toNat)
  case atStart => exact ⟨0, Nat.zero_le _, rfl, by simp, 0, rfl⟩
  case round =>
    obtain ⟨i, hi, rfl, rfl, n, rfl⟩ := hrel
    by_cases hlt : i < zs.length
    · obtain ⟨b, o, ha, _, _, hb⟩ := HC.out.num hlt
      subst ha
      rw [HV.out i hlt] at hb
      go_wp2
      go_roundw
      case rel => exact ⟨i + 1, by omega, by go_num, by simp; omega, _, rfl⟩
      case measure => simp [intOf]; omega
    · go_wp2
      go_ret
      exact ⟨ret_int (by omega), n, rfl⟩

end Go.Proofs.YtkibkkdeaojjoabGreat
