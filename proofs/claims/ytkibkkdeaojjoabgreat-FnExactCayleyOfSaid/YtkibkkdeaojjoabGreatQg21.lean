/-
  Multiples added to lists and lists multiplied, in place, in the program: contracts.
  Conditions: the arguments are nil or rows of known cells, of at most 1048576 numbers.
  A matrix that is filled row by row, each row in blocks of its own.
  No conditions.
-/
import Derived.Test.YtkibkkdeaojjoabGreatQg10
import Derived.RegionTactic
import Derived.ChangeAlike
namespace Go.Proofs.YtkibkkdeaojjoabGreat
open Go.RowKit
set_option linter.unusedVariables false

/-- A list of one's own, rewritten in place: what stands where. -/
structure RowOwn (w : World) (b o : Nat) (n : Nat) (f : Nat → Int) : Prop where
  cell : ∀ j, j < n → w.cell? ⟨b, o + j, none⟩ = some (.int .i64 (f j))
  free : ∀ j, j < n → w.frozen? ⟨b, o + j, none⟩ = false
theorem RowOwn.of {lo tp : Nat} {w : World} {a : Option Addr} {zs : List Int} (h : OwnR lo tp w a zs) (h0 : 0 < zs.length) : ∃ b o, a = some ⟨b, o, none⟩ ∧ lo ≤ b ∧ b < tp ∧ RowOwn w b o zs.length (fun j => zs.getD j 0) := by
  rcases h with h | ⟨b, o, ha, k0, k1, hc⟩
  · rw [h] at h0; simp at h0
  · exact ⟨b, o, ha, k0, k1, fun j hj => (hc j hj).1, fun j hj => (hc j hj).2⟩
theorem RowOwn.back {lo tp : Nat} {w : World} {b o : Nat} {zs : List Int} (h : RowOwn w b o zs.length (fun j => zs.getD j 0)) (h0 : lo ≤ b) (h1 : b < tp) : OwnR lo tp w (some ⟨b, o, none⟩) zs :=
  .inr ⟨b, o, rfl, h0, h1, fun j hj => ⟨h.cell j hj, h.free j hj⟩⟩
theorem RowOwn.step {w : World} {b o n i : Nat} {f g : Nat → Int} (h : RowOwn w b o n (fun j => if j < i then g j else f j)) (hi : i < n) (v : Value) (hv : v = .int .i64 (g i)) : RowOwn (w.setCell ⟨b, o + i, none⟩ v) b o n (fun j => if j < i + 1 then g j else f j) where
  cell j hj := by
    subst hv
    by_cases e : j = i
    · subst e; rw [if_pos (by omega)]; exact World.cell?_setCell_same w _ _ (h.cell j hj)
    · by_cases e2 : j < i
      · rw [if_pos (by omega)]; have h2 := h.cell j hj; rw [if_pos e2] at h2; exact (World.cell?_setCell_other _ _ _ _ (by first | (simp; done) | (simp; omega))).trans h2
      · rw [if_neg (by omega)]; have h2 := h.cell j hj; rw [if_neg e2] at h2; exact (World.cell?_setCell_other _ _ _ _ (by first | (simp; done) | (simp; omega))).trans h2
  free j hj := by simp [go_sem, h.free j hj]
theorem Wrote.same {b o n lo tp : Nat} {w w' : World} (h : Wrote b o n w w') (hb : b < lo ∨ tp ≤ b) : Same lo tp w w' := fun i i0 i1 => h.block i (by omega)
theorem RowOwn.drew {w : World} {b o n : Nat} {f : Nat → Int} (h : RowOwn w b o n f) : RowOwn w.drew b o n f := ⟨h.cell, h.free⟩

set_option maxRecDepth 100000 in
set_option maxHeartbeats 3200000 in
theorem scale_any (p k : Int) (b o n c : Nat) (f : Nat → Int) (w : World) (hp : prm p = true) (h : RowOwn w b o n f) (hn : n ≤ 100000) (hf : ∀ j, j < n → 0 ≤ f j ∧ f j < p) (k0 : 0 ≤ k) (k1 : k ≤ p) :
    Calls Tryz.prog 77 #[.int .i64 p, .slice (some ⟨b, o, none⟩) n c, .int .i64 k] w fun e w' => e = .returned (.tuple #[]) ∧ RowOwn w' b o n (fun j => f j * k % p) ∧ Wrote b o n w w' := by
  have hpb := prm_bd hp
  have H := Lib.hid h
  have HF := Lib.hid hf
  clear h hf hp
  go_enter Tryz.func77, Tryz.ntmps77
  go_wp2
  go_loopw [9] (fun t wr => ∃ i : Nat, i ≤ n ∧ t = .int .i64 i ∧ RowOwn wr b o n (fun j => if j < i then f j * k % p else f j) ∧ Wrote b o n w wr) (fun t _ => n - (intOf t).toNat)
  case atStart => exact ⟨0, Nat.zero_le _, rfl, ⟨fun j hj => by simpa using H.out.cell j hj, H.out.free⟩, Wrote.refl _ _ _ _⟩
  case round =>
    obtain ⟨i, hi, rfl, hr, hw⟩ := hrel
    have HR := Lib.hid hr
    have HW := Lib.hid hw
    by_cases hlt : i < n
    · have c0 := hr.cell i hlt
      rw [if_neg (Nat.lt_irrefl _)] at c0
      have f0 := hr.free i hlt
      obtain ⟨x0, x1⟩ := HF.out i hlt
      obtain ⟨x, hx⟩ : ∃ x, x = f i := ⟨_, rfl⟩
      rw [← hx] at c0 x0 x1
      have HX := Lib.hid hx
      have m0 : 0 ≤ x * k := Int.mul_nonneg x0 k0
      have m1 : x * k ≤ 13 * 13 := Int.le_trans (Int.mul_le_mul_of_nonneg_right (by omega : x ≤ 13) k0) (Int.mul_le_mul_of_nonneg_left (by omega) (by omega))
      have hi1 : (i : Int) < (n : Int) := by omega
      have e1 : IntKind.i64.wrap (x * k) = x * k := IntWalk.i64_in _ (by omega)
      have e3 : (x * k).tmod p = x * k % p := Int.tmod_eq_emod_of_nonneg (by omega)
      have hp0 : ¬ p = 0 := by omega
      have hp1 : (p == 0) = false := by simpa using hp0
      clear hr hw hx
      go_wp2
      clear e1 e3
      go_wp2
      go_roundw
      case rel => exact ⟨i + 1, by omega, by go_num, HR.out.step hlt _ (by rw [HX.out]), HW.out.set hlt _⟩
      case measure => simp [intOf]; omega
    · have hn : i = n := by omega
      subst hn
      have HE : Hid (RowOwn wr b o i (fun j => f j * k % p)) := ⟨fun j hj => by have := HR.out.cell j hj; rwa [if_pos hj] at this, HR.out.free⟩
      clear hr hw
      go_wp2
      go_end0
      exact ⟨rfl, HE.out, HW.out⟩

set_option maxRecDepth 100000 in
set_option maxHeartbeats 3200000 in
theorem addMultiple_any (p k : Int) (b o n c : Nat) (f : Nat → Int) (a : Option Addr) (z : List Int) (cz lo tp : Nat) (w : World) (hp : prm p = true) (h : RowOwn w b o n f) (hz : RowIn lo tp w a z) (hb : b < lo ∨ tp ≤ b) (hl : n ≤ z.length) (hn : z.length ≤ 100000) (hf : ∀ j, j < n → 0 ≤ f j ∧ f j < p) (hzn : Nums p z) (k0 : 0 ≤ k) (k1 : k ≤ p) :
    Calls Tryz.prog 67 #[.int .i64 p, .slice (some ⟨b, o, none⟩) n c, .int .i64 k, .slice a z.length cz] w fun e w' => e = .returned (.tuple #[]) ∧ RowOwn w' b o n (fun j => (f j + k * z.getD j 0) % p) ∧ Wrote b o n w w' := by
  have hpb := prm_bd hp
  have H := Lib.hid h
  have HF := Lib.hid hf
  have HZ := Lib.hid hz
  have HZN := Lib.hid hzn
  clear h hf hp hz hzn
  go_enter Tryz.func67, Tryz.ntmps67
  go_wp2
  go_loopw [11] (fun t wr => ∃ i : Nat, i ≤ n ∧ t = .int .i64 i ∧ RowOwn wr b o n (fun j => if j < i then (f j + k * z.getD j 0) % p else f j) ∧ Wrote b o n w wr) (fun t _ => n - (intOf t).toNat)
  case atStart => exact ⟨0, Nat.zero_le _, rfl, ⟨fun j hj => by simpa using H.out.cell j hj, H.out.free⟩, Wrote.refl _ _ _ _⟩
  case round =>
    obtain ⟨i, hi, rfl, hr, hw⟩ := hrel
    have HR := Lib.hid hr
    have HW := Lib.hid hw
    by_cases hlt : i < n
    · have c0 := hr.cell i hlt
      rw [if_neg (Nat.lt_irrefl _)] at c0
      have f0 := hr.free i hlt
      obtain ⟨b2, o2, ha2, l2, t2, hc2⟩ := (HZ.out.same (hw.same hb)).num (by omega : i < z.length)
      subst ha2
      obtain ⟨x0, x1⟩ := HF.out i hlt
      obtain ⟨y0, y1⟩ := HZN.out i (by omega)
      obtain ⟨x, hx⟩ : ∃ x, x = f i := ⟨_, rfl⟩
      obtain ⟨y, hy⟩ : ∃ y, y = z.getD i 0 := ⟨_, rfl⟩
      rw [← hx] at c0 x0 x1
      rw [← hy] at hc2 y0 y1
      have HX := Lib.hid hx
      have HY := Lib.hid hy
      have m0 : 0 ≤ k * y := Int.mul_nonneg k0 y0
      have m1 : k * y ≤ 13 * 13 := Int.le_trans (Int.mul_le_mul_of_nonneg_right (by omega : k ≤ 13) y0) (Int.mul_le_mul_of_nonneg_left (by omega) (by omega))
      have hi1 : (i : Int) < (n : Int) := by omega
      have hi2 : (i : Int) < (z.length : Int) := by omega
      have e1 : IntKind.i64.wrap (k * y) = k * y := IntWalk.i64_in _ (by omega)
      have e2 : IntKind.i64.wrap (x + k * y) = x + k * y := IntWalk.i64_in _ (by omega)
      have e3 : (x + k * y).tmod p = (x + k * y) % p := Int.tmod_eq_emod_of_nonneg (by omega)
      have hp0 : ¬ p = 0 := by omega
      have hp1 : (p == 0) = false := by simpa using hp0
      clear hr hw hx hy
      go_wp2
      go_region
      all_goals
        clear e1 e2 e3
        go_wp2
        go_roundw
        case rel => exact ⟨i + 1, by omega, by go_num, (HR.out.step hlt _ (by rw [HX.out, HY.out])).drew, (HW.out.set hlt _).drew⟩
        case measure => simp [intOf]; omega
    · have hn : i = n := by omega
      subst hn
      have HE : Hid (RowOwn wr b o i (fun j => (f j + k * z.getD j 0) % p)) := ⟨fun j hj => by have := HR.out.cell j hj; rwa [if_pos hj] at this, HR.out.free⟩
      clear hr hw
      go_wp2
      go_end0
      exact ⟨rfl, HE.out, HW.out⟩

end Go.Proofs.YtkibkkdeaojjoabGreat

namespace Go.Proofs.YtkibkkdeaojjoabGreat
open Go.RowKit Go.ChangeShapes Go.WideShapes
set_option linter.unusedVariables false

/-- i rows are there: row j in blocks from lo j up to tp j, behind block b and behind those of the rows before it. -/
structure HalfG (w : World) (b i : Nat) (m : List (List Int)) (A : Nat → Option Addr) (C lo tp : Nat → Nat) : Prop where
  lt : b < w.heap.size
  done : ∀ j, j < i → w.cell? ⟨b, j, none⟩ = some (.slice (A j) (rw' m j).length (C j))
  rest : ∀ j, i ≤ j → j < m.length → w.cell? ⟨b, j, none⟩ = some (.slice none 0 0)
  free : ∀ j, w.frozen? ⟨b, j, none⟩ = false
  rows : ∀ j, j < i → OwnR (lo j) (tp j) w (A j) (rw' m j) ∧ b < lo j ∧ tp j ≤ w.heap.size
  apart : ∀ j j', j < j' → j' < i → tp j ≤ lo j'
theorem HalfG.start (w : World) (m : List (List Int)) (t : TypeId) (A : Nat → Option Addr) (C lo tp : Nat → Nat) : HalfG (w.alloc (.cells (madeCells #[.slice none 0 0] m.length) t)) w.heap.size 0 m A C lo tp where
  lt := by simp
  done j hj := by omega
  rest j _ hj := by
    have h := World.cell?_alloc_new (w := w) (madeCells #[.slice none 0 0] m.length) t j
    rw [h]
    simp [madeCells, hj, Nat.mod_one]
  free j := by simp [go_sem]
  rows j hj := by omega
  apart j j' _ hj := by omega
/-- One row more. -/
theorem HalfG.next {w w1 : World} {b i : Nat} {m : List (List Int)} {A : Nat → Option Addr} {C lo tp : Nat → Nat} {r : Option Addr} {c T : Nat} (h : HalfG w b i m A C lo tp) (hi : i < m.length)
    (hk : ∀ k, k < w.heap.size → k ≠ b → w1.heap[k]? = w.heap[k]?) (hs : w.heap.size ≤ w1.heap.size) (hT : T ≤ w1.heap.size)
    (hci : w1.cell? ⟨b, i, none⟩ = some (.slice r (rw' m i).length c)) (hc : ∀ j, j ≠ i → w1.cell? ⟨b, j, none⟩ = w.cell? ⟨b, j, none⟩) (hf : ∀ j, w1.frozen? ⟨b, j, none⟩ = false)
    (hr : OwnR w.heap.size T w1 r (rw' m i)) :
    HalfG w1 b (i + 1) m (fun j => if j = i then r else A j) (fun j => if j = i then c else C j) (fun j => if j = i then w.heap.size else lo j) (fun j => if j = i then T else tp j) where
  lt := Nat.lt_of_lt_of_le h.lt hs
  done j hj := by
    by_cases e : j = i
    · subst e; simp only [if_pos]; exact hci
    · simp only [if_neg e]; exact (hc j e).trans (h.done j (by omega))
  rest j hj hl := (hc j (by omega)).trans (h.rest j (by omega) hl)
  free := hf
  rows j hj := by
    by_cases e : j = i
    · subst e; simp only [if_pos]; exact ⟨hr, h.lt, hT⟩
    · simp only [if_neg e]
      obtain ⟨h1, h2, h3⟩ := h.rows j (by omega)
      exact ⟨h1.same (fun k k0 k1 => hk k (by omega) (by omega)), h2, by omega⟩
  apart j j' hj hj' := by
    have e : ¬ j = i := by omega
    simp only [if_neg e]
    by_cases e' : j' = i
    · simp only [if_pos e']; exact (h.rows j (by omega)).2.2
    · simp only [if_neg e']; exact h.apart j j' hj (by omega)
def blk (a : Option Addr) : Nat := match a with | some a => a.block | none => 0
def ofs (a : Option Addr) : Nat := match a with | some a => a.off | none => 0
theorem OwnR.at {lo tp : Nat} {w : World} {a : Option Addr} {zs : List Int} (h : OwnR lo tp w a zs) {j : Nat} (hj : j < zs.length) : a = some ⟨blk a, ofs a, none⟩ ∧ lo ≤ blk a ∧ blk a < tp ∧ w.cell? ⟨blk a, ofs a + j, none⟩ = some (.int .i64 (zs.getD j 0)) ∧ w.frozen? ⟨blk a, ofs a + j, none⟩ = false := by
  rcases h with h | ⟨b, o, rfl, h0, h1, hc⟩
  · rw [h] at hj; simp at hj
  · exact ⟨rfl, h0, h1, (hc j hj).1, (hc j hj).2⟩
theorem HalfG.own {w : World} {b : Nat} {m : List (List Int)} {A : Nat → Option Addr} {C lo tp : Nat → Nat} (h : HalfG w b m.length m A C lo tp) : OwnM b w.heap.size w (some ⟨b, 0, none⟩) m :=
  .inr ⟨⟨b, 0, A, fun j => blk (A j), fun j => ofs (A j), C⟩, rfl, {
    rng := fun _ => ⟨Nat.le_refl _, h.lt⟩
    top := fun i hi => by show w.cell? ⟨b, 0 + i, none⟩ = _; rw [Nat.zero_add]; exact h.done i hi
    row := fun i hi => by
      by_cases h0 : (rw' m i).length = 0
      · exact .inl h0
      · exact .inr ((h.rows i hi).1.at (j := 0) (by omega)).1
    rrng := fun i hi hl => by
      obtain ⟨h1, h2, h3⟩ := h.rows i hi
      have := h1.at (j := 0) hl
      exact ⟨by show b ≤ blk (A i); omega, by show blk (A i) < _; omega⟩
    cell := fun i hi j hj => ((h.rows i hi).1.at hj).2.2.2.1
    free := fun i hi j hj => ((h.rows i hi).1.at hj).2.2.2.2
    apart := fun i hi i' hi' hne j hj j' hj' e => by
      have h1 := (h.rows i hi).1.at hj
      have h2 := (h.rows i' hi').1.at hj'
      have e1 : blk (A i) = blk (A i') := e.1
      rcases Nat.lt_or_ge i i' with l | l
      · have := h.apart i i' l hi'; omega
      · have := h.apart i' i (by omega) hi; omega
    tops := fun i hi j hj i' hi' e => by
      obtain ⟨h1, h2, h3⟩ := h.rows i hi
      have := h1.at hj
      have e1 : blk (A i) = b := e.1
      omega }⟩

theorem RowOwn.block {w w' : World} {b o n : Nat} {f : Nat → Int} (h : RowOwn w b o n f) (e : w'.heap[b]? = w.heap[b]?) : RowOwn w' b o n f :=
  ⟨fun j hj => (World.cell?_of_block (w := w) (a := ⟨b, o + j, none⟩) e).trans (h.cell j hj), fun j hj => (World.frozen?_of_block (w := w) (a := ⟨b, o + j, none⟩) e).trans (h.free j hj)⟩
theorem RowOwn.far {w : World} {b o n : Nat} {f : Nat → Int} (h : RowOwn w b o n f) (c i : Nat) (v : Value) (hne : b ≠ c) : RowOwn (w.setCell ⟨c, i, none⟩ v) b o n f :=
  h.block (Below.heap_setCell _ _ _ _ hne)
/-- A new row is stored and rewritten in place. -/
theorem HalfG.fill {w w3 w5 : World} {b i g o n c : Nat} {m : List (List Int)} {A : Nat → Option Addr} {C lo tp : Nat → Nat} {f : Nat → Int} (h : HalfG w b i m A C lo tp) (hi : i < m.length)
    (hb : Below w.heap.size w w3) (hg0 : w.heap.size ≤ g) (hg1 : g < w3.heap.size) (hn : (rw' m i).length = n)
    (hw : Wrote g o n (w3.setCell ⟨b, i, none⟩ (.slice (some ⟨g, o, none⟩) n c)) w5) (hr : RowOwn w5 g o n f) (hf : ∀ j, j < n → (rw' m i).getD j 0 = f j) :
    HalfG w5 b (i + 1) m (fun j => if j = i then some ⟨g, o, none⟩ else A j) (fun j => if j = i then c else C j) (fun j => if j = i then w.heap.size else lo j) (fun j => if j = i then w3.heap.size else tp j) ∧ Below b w w5 := by
  have hlt := h.lt
  have hs := hb.size
  have hz : w5.heap.size = w3.heap.size := by rw [hw.size]; simp [World.setCell]
  have hbg : b ≠ g := by omega
  have hk : ∀ k, k < w.heap.size → k ≠ b → w5.heap[k]? = w.heap[k]? := fun k k0 k1 => (hw.block k (by omega)).trans ((Below.heap_setCell _ _ _ _ k1).trans (hb.block k k0))
  have out : ∀ j, w5.cell? ⟨b, j, none⟩ = (w3.setCell ⟨b, i, none⟩ (.slice (some ⟨g, o, none⟩) n c)).cell? ⟨b, j, none⟩ := fun j => World.cell?_of_block (w := w3.setCell ⟨b, i, none⟩ (.slice (some ⟨g, o, none⟩) n c)) (a := ⟨b, j, none⟩) (hw.block b hbg)
  have g0 := (hb.cell (p := ⟨b, i, none⟩) hlt).trans (h.rest i (Nat.le_refl _) hi)
  refine ⟨h.next hi hk (by omega) (by omega) ?_ (fun j hj => ?_) (fun j => ?_) ?_, ?_⟩
  · rw [out, hn]; exact World.cell?_setCell_same w3 _ _ g0
  · rw [out]; exact (World.cell?_setCell_other _ _ _ _ (fun e => hj (by injection e with _ e2; exact e2.symm))).trans (hb.cell (p := ⟨b, j, none⟩) hlt)
  · have h1 := World.frozen?_of_block (w := w3.setCell ⟨b, i, none⟩ (.slice (some ⟨g, o, none⟩) n c)) (w' := w5) (a := ⟨b, j, none⟩) (hw.block b hbg)
    rw [h1]
    have := (hb.frozen (p := ⟨b, j, none⟩) hlt).trans (h.free j)
    simp [go_sem, this]
  · exact .inr ⟨g, o, rfl, hg0, hg1, fun j hj => ⟨by rw [hf j (by omega)]; exact hr.cell j (by omega), hr.free j (by omega)⟩⟩
  · exact ⟨hw.os.trans hb.os, hw.tape.trans hb.tape, hw.output.trans hb.output, by omega, fun k k0 => hk k (by omega) (by omega)⟩

end Go.Proofs.YtkibkkdeaojjoabGreat
