/-
  What the laws' sizes, copies, comparisons and marks of lists of numbers do, and the checks of their numbers, wherever they lie.
  Conditions: the lists are nil or rows of known cells, of at most 1048576 numbers.
  What the laws' sizes, copies, comparisons and marks of matrices do.
  Conditions: the matrices are nil or rows of known cells; copied, compared and marked: of at most 1048576 numbers.
  What a law knows of the lists and matrices that it is handed.
  No conditions: what can be read as data.
  The words in which the exact laws of matrices are walked: what a function of the program or of the model hands back, and the laws' marks of lists.
  No conditions.
  What the program's and the model's checks of lists of numbers return.
  Conditions: they are nil or rows of known cells.
-/
import Derived.Test.YtmlbplkapnoncaaQt1
import Derived.BigQuiet
import Derived.Deep.QuietTactic
import Derived.Deep.Draws
import Derived.Laws.MakeOwn
import Derived.OpenShut
import Derived.Deep.OwnRows
import Derived.Deep.RegionHeld3
import Derived.RegionTactic
import Derived.Deep.RegionWith
import Derived.StillTailTactics
import Derived.Deep.Matrix
namespace Go.Proofs.Ytmlbplkapnoncaa
open Go.RowKit Go.ChangeShapes Go.WideShapes
set_option linter.unusedVariables false

theorem szRow_yes (a : Option Addr) (n cap : Nat) (left : Int) (w : World) (h : (n : Int) ≤ left) (k : left ≤ 1048576) :
    Calls Try.prog 53 #[.slice a n cap, .int .i64 left] w fun e w' => e = .returned (.int .i64 (left - n)) ∧ w = w' := by
  go_enter Try.func53, Try.ntmps53
  go_wp2
  go_ret
  exact ⟨rfl, rfl⟩
theorem szRow_no (a : Option Addr) (n cap : Nat) (left : Int) (w : World) (h : left < n) (h0 : 0 ≤ left) (k : (n : Int) ≤ 9223372036854775807) :
    Calls Try.prog 53 #[.slice a n cap, .int .i64 left] w fun e w' => e = .returned (.int .i64 (-1)) ∧ w = w' := by
  go_enter Try.func53, Try.ntmps53
  go_wp2
  go_ret
  exact ⟨rfl, rfl⟩

theorem info64 : (Try.prog.info? 2).map (fun i => (i.zero, i.size, i.bytes)) = some (some (.int .i64 0), 1, 8) := by kernel_rfl

/-- A row copied into new memory: its block begins where memory ended. -/
def Copied (zs : List Int) (w : World) (e : Ending) (w' : World) : Prop :=
  e = .returned (.slice (some ⟨w.heap.size, 0, none⟩) zs.length zs.length) ∧ Below w.heap.size w w' ∧ w.heap.size < w'.heap.size ∧ OwnR w.heap.size w'.heap.size w' (some ⟨w.heap.size, 0, none⟩) zs

/-- What has been copied so far. -/
structure Half (w : World) (b i : Nat) (zs : List Int) : Prop where
  lt : b < w.heap.size
  done : ∀ j, j < i → w.cell? ⟨b, j, none⟩ = some (.int .i64 (zs.getD j 0))
  rest : ∀ j, i ≤ j → j < zs.length → w.cell? ⟨b, j, none⟩ = some (.int .i64 0)
  free : ∀ j, w.frozen? ⟨b, j, none⟩ = false
theorem Half.start (w : World) (zs : List Int) (t : TypeId) : Half (w.alloc (.cells (madeCells #[.int .i64 0] zs.length) t)) w.heap.size 0 zs :=
  ⟨by simp, fun j hj => by omega, fun j _ hj => by
    have h := World.cell?_alloc_new (w := w) (madeCells #[.int .i64 0] zs.length) t j
    rw [h]
    simp [madeCells, hj, Nat.mod_one], fun j => by simp [go_sem]⟩
theorem Half.next {w : World} {b i : Nat} {zs : List Int} (h : Half w b i zs) (hi : i < zs.length) : Half (w.setCell ⟨b, i, none⟩ (.int .i64 (zs.getD i 0))) b (i + 1) zs :=
  ⟨by simpa [World.setCell] using h.lt, fun j hj => by
    by_cases hji : j = i
    · subst hji
      exact World.cell?_setCell_same w _ _ (h.rest j (Nat.le_refl _) hi)
    · exact (World.cell?_setCell_other _ _ _ _ (by first | (simp; done) | (simp; omega))).trans (h.done j (by omega)),
   fun j hj hl => (World.cell?_setCell_other _ _ _ _ (by first | (simp; done) | (simp; omega))).trans (h.rest j (by omega) hl), fun j => by simp [go_sem, h.free]⟩

set_option maxHeartbeats 800000 in
theorem copyRow (a : Option Addr) (zs : List Int) (cap : Nat) (lo hi : Nat) (w : World) (hin : RowIn lo hi w a zs) (hhi : hi ≤ w.heap.size) (hl : zs.length ≤ 1048576) :
    Calls Try.prog 26 #[.slice a zs.length cap] w (Copied zs w) := by
  have HI := Lib.hid hin
  clear hin
  have hmk := fun W => run_make_row' (P := Try.prog) 22 2 (.int .i64 0) 8 Try.underlying22 info64 rfl .i64 .i64 zs.length (by omega) (by omega) W
  go_enter Try.func26, Try.ntmps26
  go_wp2
  clear hmk
  go_loopw [4] (fun t wr => ∃ i : Nat, i ≤ zs.length ∧ t = .int .i64 i ∧ Half wr w.heap.size i zs ∧ Below w.heap.size w wr) (fun t _ => zs.length - (intOf t).toNat)
  case atStart => exact ⟨0, Nat.zero_le _, rfl, Half.start w zs _, by ((repeat' (first | with_reducible exact Below.refl _ _ | (with_reducible refine Below.setCell ?_ ?_ _) | (with_reducible refine Below.alloc ?_ ?_ _) | (with_reducible refine Below.drew ?_))); all_goals (first | (simp; done) | omega | (simp; omega)))⟩
  case round =>
    obtain ⟨i, hi, rfl, hh, hbel⟩ := hrel
    have HH := Lib.hid hh
    by_cases hlt : i < zs.length
    · have g0 := hh.rest i (Nat.le_refl _) hlt
      have f0 := hh.free i
      obtain ⟨b, o, ha, _, hs, hc⟩ := HI.out.num hlt
      subst ha
      have hcell := (hbel.cell (p := ⟨b, o + i, none⟩) (Nat.lt_of_lt_of_le hs hhi)).trans hc
      obtain ⟨x, hx⟩ : ∃ x, x = zs.getD i 0 := ⟨_, rfl⟩
      rw [← hx] at hcell
      have HX := Lib.hid hx
      clear hx hh hc
      go_wp2
      go_roundw
      case rel => exact ⟨i + 1, by omega, by go_num, by rw [HX.out]; exact HH.out.next hlt, by (have hs_hbel := hbel.size; (repeat' (first | with_reducible exact Below.refl _ _ | (with_reducible refine Below.setCell ?_ ?_ _) | (with_reducible refine Below.alloc ?_ ?_ _) | (with_reducible refine Below.drew ?_) | (with_reducible refine below_step ?_ ?_ hbel))); all_goals (first | (simp; done) | omega | (simp; omega) | (simp at hs_hbel ⊢; omega)))⟩
      case measure => simp [intOf]; omega
    · clear hh
      go_wp2
      go_ret
      exact ⟨rfl, hbel, HH.out.lt, .inr ⟨_, 0, rfl, Nat.le_refl _, HH.out.lt, fun j hj => ⟨by rw [Nat.zero_add]; exact HH.out.done j (by omega), by rw [Nat.zero_add]; exact HH.out.free j⟩⟩⟩

set_option maxHeartbeats 800000 in
theorem sameRow (a c : Option Addr) (zs : List Int) (k1 k2 lo hi lo' hi' : Nat) (w : World) (hb : RowIn lo hi w a zs) (hc : RowIn lo' hi' w c zs) (hl : zs.length ≤ 1048576) :
    Calls Try.prog 20 #[.slice a zs.length k1, .slice c zs.length k2] w fun e w' => e = .returned (.bool true) ∧ Quiet w w' := by
  have HB := Lib.hid hb
  have HC := Lib.hid hc
  clear hb hc
  go_enter Try.func20, Try.ntmps20
  go_wp2
  go_loopw [5] (fun t wr => ∃ i : Nat, i ≤ zs.length ∧ t = .int .i64 i ∧ (∃ n, wr = w.drewN n)) (fun t _ => zs.length - (intOf t).toNat)
  case atStart => exact ⟨0, Nat.zero_le _, rfl, 0, rfl⟩
  case round =>
    obtain ⟨i, hi, rfl, n, rfl⟩ := hrel
    by_cases hlt : i < zs.length
    · obtain ⟨b1, o1, ha1, _, _, hb1⟩ := HB.out.num hlt
      obtain ⟨b2, o2, ha2, _, _, hb2⟩ := HC.out.num hlt
      subst ha1
      subst ha2
      obtain ⟨x, hx⟩ : ∃ x, x = zs.getD i 0 := ⟨_, rfl⟩
      rw [← hx] at hb1 hb2
      clear hx
      go_wp2
      go_quiet (fail)
      go_wp2
      go_roundw
      case rel => exact ⟨i + 1, by omega, by go_num, _, rfl⟩
      case measure => simp [intOf]; omega
    · go_wp2
      go_ret
      exact ⟨rfl, n, rfl⟩

theorem mark_next {w : World} {b o i : Nat} {k x : Int} (hd : ∀ j, j < i → w.cell? ⟨b, o + j, none⟩ = some (.int .i64 (k + j))) (c0 : w.cell? ⟨b, o + i, none⟩ = some (.int .i64 x)) :
    ∀ j, j < i + 1 → (w.setCell ⟨b, o + i, none⟩ (.int .i64 (k + i))).cell? ⟨b, o + j, none⟩ = some (.int .i64 (k + j)) := by
  intro j hj
  by_cases e : j = i
  · subst e; exact World.cell?_setCell_same w _ _ c0
  · exact (World.cell?_setCell_other _ _ _ _ (by first | (simp; done) | (simp; omega))).trans (hd j (by omega))

set_option maxHeartbeats 800000 in
theorem markRow (b o : Nat) (L cap : Nat) (k : Int) (w : World) (hc : ∀ j, j < L → ∃ x : Int, w.cell? ⟨b, o + j, none⟩ = some (.int .i64 x)) (hf : ∀ j, j < L → w.frozen? ⟨b, o + j, none⟩ = false) (hl : L ≤ 1048576) (k0 : 0 ≤ k) (k1 : k ≤ 100000000) :
    Calls Try.prog 23 #[.slice (some ⟨b, o, none⟩) L cap, .int .i64 k] w fun e w' => e = .returned (.int .i64 (k + L)) ∧ Wrote b o L w w' ∧ ∀ j, j < L → w'.cell? ⟨b, o + j, none⟩ = some (.int .i64 (k + j)) := by
  have HC := Lib.hid hc
  have HF := Lib.hid hf
  clear hc hf
  go_enter Try.func23, Try.ntmps23
  go_wp2
  go_loopw [1, 5] (fun s t wr => ∃ i : Nat, i ≤ L ∧ t = .int .i64 i ∧ s = .int .i64 (k + i) ∧ Wrote b o i w wr ∧ ∀ j, j < i → wr.cell? ⟨b, o + j, none⟩ = some (.int .i64 (k + j))) (fun _ t _ => L - (intOf t).toNat)
  case atStart => exact ⟨0, Nat.zero_le _, rfl, by simp, Wrote.refl _ _ _ _, fun j hj => by omega⟩
  case round =>
    obtain ⟨i, hi, rfl, rfl, hw, hd⟩ := hrel
    have HW := Lib.hid hw
    have HD := Lib.hid hd
    clear hd
    by_cases hlt : i < L
    · have f0 := (hw.frozen (o + i)).trans (HF.out i hlt)
      obtain ⟨x, cx⟩ := HC.out i hlt
      have c0 := (hw.cell (o + i) (fun j hj => by omega)).trans cx
      have HC0 := Lib.hid c0
      clear hw cx
      go_wp2
      go_roundw
      case rel => exact ⟨i + 1, by omega, by go_num, by simp; omega, (HW.out.mono (by omega)).set (by omega) _, mark_next HD.out HC0.out⟩
      case measure => simp [intOf]; omega
    · clear hw
      go_wp2
      go_ret
      exact ⟨ret_int (by omega), HW.out.mono hi, fun j hj => HD.out j (by omega)⟩

theorem markRow_nil (a : Option Addr) (cap : Nat) (k : Int) (w : World) :
    Calls Try.prog 23 #[.slice a 0 cap, .int .i64 k] w fun e w' => e = .returned (.int .i64 k) ∧ w = w' := by
  go_enter Try.func23, Try.ntmps23
  go_wp2
  go_loop [1, 5] (fun s t => t = .int .i64 0 ∧ s = .int .i64 k) (fun _ t => 0)
  case atStart => exact ⟨rfl, rfl⟩
  case round =>
    obtain ⟨rfl, rfl⟩ := hrel
    go_wp2
    go_ret
    exact ⟨rfl, rfl⟩

set_option maxHeartbeats 800000 in
theorem heldRow (a : Option Addr) (zs : List Int) (cap lo hi : Nat) (k : Int) (w : World) (hc : RowIn lo hi w a zs) (hv : ∀ j, j < zs.length → zs.getD j 0 = k + j) (hl : zs.length ≤ 1048576) (k0 : 0 ≤ k) (k1 : k ≤ 100000000) :
    Calls Try.prog 24 #[.slice a zs.length cap, .int .i64 k] w fun e w' => e = .returned (.int .i64 (k + zs.length)) ∧ Quiet w w' := by
  have HC := Lib.hid hc
  have HV := Lib.hid hv
  clear hc hv
  go_enter Try.func24, Try.ntmps24
  go_wp2
  go_loopw [1, 5] (fun s t wr => ∃ i : Nat, i ≤ zs.length ∧ t = .int .i64 i ∧ s = .int .i64 (k + i) ∧ ∃ n, wr = w.drewN n) (fun _ t _ => zs.length - (intOf t).toNat)
  case atStart => exact ⟨0, Nat.zero_le _, rfl, by simp, 0, rfl⟩
  case round =>
    obtain ⟨i, hi, rfl, rfl, n, rfl⟩ := hrel
    by_cases hlt : i < zs.length
    · obtain ⟨b, o, ha, _, _, hb⟩ := HC.out.num hlt
      subst ha
      rw [HV.out i hlt] at hb
      go_wp2
      go_roundw
      case rel => exact ⟨i + 1, by omega, by go_num, by simp; omega, _, rfl⟩
      case measure => simp [intOf]; omega
    · go_wp2
      go_ret
      exact ⟨ret_int (by omega), n, rfl⟩

end Go.Proofs.Ytmlbplkapnoncaa

namespace Go.Proofs.Ytmlbplkapnoncaa
open Go.RowKit Go.ChangeShapes Go.WideShapes
set_option linter.unusedVariables false

/-- What has been copied so far. -/
structure HalfM (w : World) (b i : Nat) (m : List (List Int)) (B : Nat → Nat) : Prop where
  lt : b < w.heap.size
  done : ∀ j, j < i → w.cell? ⟨b, j, none⟩ = some (.slice (some ⟨B j, 0, none⟩) (rw' m j).length (rw' m j).length)
  rest : ∀ j, i ≤ j → j < m.length → w.cell? ⟨b, j, none⟩ = some (.slice none 0 0)
  free : ∀ j, w.frozen? ⟨b, j, none⟩ = false
  rng : ∀ j, j < i → b < B j ∧ B j < w.heap.size
  cell : ∀ j, j < i → ∀ x, x < (rw' m j).length → w.cell? ⟨B j, x, none⟩ = some (.int .i64 (at' m j x)) ∧ w.frozen? ⟨B j, x, none⟩ = false
  apart : ∀ j, j < i → ∀ j', j' < i → j ≠ j' → B j ≠ B j'
theorem HalfM.start (w : World) (m : List (List Int)) (t : TypeId) (B : Nat → Nat) : HalfM (w.alloc (.cells (madeCells #[.slice none 0 0] m.length) t)) w.heap.size 0 m B where
  lt := by simp
  done j hj := by omega
  rest j _ hj := by
    have h := World.cell?_alloc_new (w := w) (madeCells #[.slice none 0 0] m.length) t j
    rw [h]
    simp [madeCells, hj, Nat.mod_one]
  free j := by simp [go_sem]
  rng j hj := by omega
  cell j hj := by omega
  apart j hj := by omega
theorem HalfM.next {w w1 : World} {b i : Nat} {m : List (List Int)} {B : Nat → Nat} (h : HalfM w b i m B) (hi : i < m.length) (hb : Below w.heap.size w w1) (hs : w.heap.size < w1.heap.size)
    (hr : OwnR w.heap.size w1.heap.size w1 (some ⟨w.heap.size, 0, none⟩) (rw' m i)) :
    HalfM (w1.setCell ⟨b, i, none⟩ (.slice (some ⟨w.heap.size, 0, none⟩) (rw' m i).length (rw' m i).length)) b (i + 1) m (fun j => if j = i then w.heap.size else B j) := by
  have hlt := h.lt
  have oth : ∀ c j, c ≠ b → (w1.setCell ⟨b, i, none⟩ (.slice (some ⟨w.heap.size, 0, none⟩) (rw' m i).length (rw' m i).length)).cell? ⟨c, j, none⟩ = w1.cell? ⟨c, j, none⟩ := fun c j hne =>
    World.cell?_setCell_other _ _ _ _ (fun e => hne (by injection e with e1; exact e1.symm))
  refine ⟨by simp [World.setCell]; omega, fun j hj => ?_, fun j hj hl => ?_, fun j => ?_, fun j hj => ?_, fun j hj x hx => ?_, fun j hj j' hj' hne => ?_⟩
  · by_cases e : j = i
    · subst e
      simp only [if_pos]
      exact World.cell?_setCell_same w1 _ _ ((hb.cell (p := ⟨b, j, none⟩) hlt).trans (h.rest j (Nat.le_refl _) hi))
    · simp only [if_neg e]
      exact (World.cell?_setCell_other _ _ _ _ (by first | (simp; done) | (simp; omega))).trans ((hb.cell (p := ⟨b, j, none⟩) hlt).trans (h.done j (by omega)))
  · exact (World.cell?_setCell_other _ _ _ _ (by first | (simp; done) | (simp; omega))).trans ((hb.cell (p := ⟨b, j, none⟩) hlt).trans (h.rest j (by omega) hl))
  · have := (hb.frozen (p := ⟨b, j, none⟩) hlt).trans (h.free j)
    simp [go_sem, this]
  · have hz : (w1.setCell ⟨b, i, none⟩ (.slice (some ⟨w.heap.size, 0, none⟩) (rw' m i).length (rw' m i).length)).heap.size = w1.heap.size := by simp [World.setCell]
    rw [hz]
    by_cases e : j = i
    · subst e; simp only [if_pos]; exact ⟨hlt, hs⟩
    · simp only [if_neg e]; have := h.rng j (by omega); omega
  · by_cases e : j = i
    · subst e
      simp only [if_pos]
      rcases hr with h0 | ⟨b1, o1, e1, _, _, hc⟩
      · rw [h0] at hx; simp at hx
      · cases e1
        have h2 := hc x hx
        simp only [Nat.zero_add] at h2
        exact ⟨(oth _ _ (by omega)).trans h2.1, by simp [go_sem, h2.2]⟩
    · simp only [if_neg e]
      have hg := h.rng j (by omega)
      have h2 := h.cell j (by omega) x hx
      have f2 := (hb.frozen (p := ⟨B j, x, none⟩) hg.2).trans h2.2
      exact ⟨(oth _ _ (by omega)).trans ((hb.cell (p := ⟨B j, x, none⟩) hg.2).trans h2.1), by simp [go_sem, f2]⟩
  · have e1 : ∀ j, j < i → B j ≠ w.heap.size := fun j hj => by have := (h.rng j hj).2; omega
    by_cases e : j = i
    · subst e
      simp only [if_pos, if_neg (fun e => hne e.symm : ¬ j' = j)]
      exact (e1 j' (by omega)).symm
    · by_cases e' : j' = i
      · subst e'
        simp only [if_pos, if_neg e]
        exact e1 j (by omega)
      · simp only [if_neg e, if_neg e']
        exact h.apart j (by omega) j' (by omega) hne
theorem HalfM.own {w : World} {b : Nat} {m : List (List Int)} {B : Nat → Nat} (h : HalfM w b m.length m B) : OwnM b w.heap.size w (some ⟨b, 0, none⟩) m :=
  .inr ⟨⟨b, 0, fun j => some ⟨B j, 0, none⟩, B, fun _ => 0, fun j => (rw' m j).length⟩, rfl, {
    rng := fun _ => ⟨Nat.le_refl _, h.lt⟩
    top := fun i hi => by show w.cell? ⟨b, 0 + i, none⟩ = _; rw [Nat.zero_add]; exact h.done i hi
    row := fun i hi => .inr rfl
    rrng := fun i hi _ => ⟨by have := (h.rng i hi).1; show b ≤ B i; omega, (h.rng i hi).2⟩
    cell := fun i hi j hj => by show w.cell? ⟨B i, 0 + j, none⟩ = _; rw [Nat.zero_add]; exact (h.cell i hi j hj).1
    free := fun i hi j hj => by show w.frozen? ⟨B i, 0 + j, none⟩ = _; rw [Nat.zero_add]; exact (h.cell i hi j hj).2
    apart := fun i hi i' hi' hne j hj j' hj' e => h.apart i hi i' hi' hne e.1
    tops := fun i hi j hj i' hi' e => by have := (h.rng i hi).1; have e1 : B i = b := e.1; omega }⟩

theorem heldRow_mk (a : Option Addr) (L cap lo tp : Nat) (k : Int) (w : World) (hc : RowIn lo tp w a (mkR L fun j => k + j)) (hl : L ≤ 1048576) (k0 : 0 ≤ k) (k1 : k ≤ 100000000) :
    Calls Try.prog 24 #[.slice a L cap, .int .i64 k] w fun e w' => e = .returned (.int .i64 (k + L)) ∧ Quiet w w' := by
  have := heldRow a (mkR L fun j => k + j) cap lo tp k w hc (fun j hj => mkR_at _ (by rwa [mkR_len] at hj)) (by rwa [mkR_len]) k0 k1
  rwa [mkR_len] at this

end Go.Proofs.Ytmlbplkapnoncaa

namespace Go.Proofs.Ytmlbplkapnoncaa
open Go.RowKit Go.ChangeShapes Go.WideShapes
set_option linter.unusedVariables false

def IsMat (w : World) (a : Option Addr) (len : Nat) : Prop :=
  ∃ m : List (List Int), m.length = len ∧ MatIn 0 w.heap.size w a m ∧ len ≤ 9223372036854775807 ∧ ∀ i, i < m.length → (rw' m i).length ≤ 9223372036854775807
def IsLst (w : World) (a : Option Addr) (len : Nat) : Prop :=
  ∃ z : List Int, z.length = len ∧ RowIn 0 w.heap.size w a z ∧ len ≤ 9223372036854775807

theorem row_of {w : World} {x : Addr} {len : Nat} {zs : List Int} (hl : len ≤ zs.length) (h : ∀ i, i < zs.length → w.cell? (x.add i) = some (.int .i64 (zs.getD i 0))) : RowIn 0 w.heap.size w (some x) (zs.take len) := by
  by_cases h0 : len = 0
  · exact .inl (by rw [h0]; rfl)
  · obtain ⟨b, o, rfl, hc⟩ := ints_at h (by omega)
    have hlt : b < w.heap.size := World.block_lt_of_cell? w ⟨b, o + 0, none⟩ (hc 0 (by omega))
    refine .inr ⟨b, o, rfl, Nat.zero_le _, hlt, fun i hi => ?_⟩
    rw [List.length_take] at hi
    rw [hc i (by omega)]
    simp only [List.getD_eq_getElem?_getD, List.getElem?_take]
    rw [if_pos (by omega)]
theorem isLst_nil (w : World) : IsLst w none 0 := ⟨[], rfl, .inl rfl, by omega⟩
theorem isLst_of {w : World} {x : Addr} {len cap : Nat} {zs : List Int} (h1 : len ≤ cap) (h2 : cap ≤ maxLen) (h3 : zs.length = cap) (h : ∀ i, i < zs.length → w.cell? (x.add i) = some (.int .i64 (zs.getD i 0))) : IsLst w (some x) len := by
  unfold maxLen at h2
  exact ⟨zs.take len, by simp; omega, row_of (by omega) h, by omega⟩
theorem isMat_nil (w : World) : IsMat w none 0 := ⟨[], rfl, .inl rfl, by omega, fun i hi => by simp at hi⟩
theorem slice_at {w : World} {x : Addr} {v : Nat → Value} {n : Nat} (hn : 0 < n) (h : ∀ r, r < n → w.cell? (x.add r) = some (v r)) : ∃ b o, x = ⟨b, o, none⟩ ∧ ∀ r, r < n → w.cell? ⟨b, o + r, none⟩ = some (v r) := by
  obtain ⟨b, off, spot⟩ := x
  have hspot : spot = none := by simpa [Addr.add] using World.cell?_spot (h 0 hn)
  subst hspot
  exact ⟨b, off, rfl, fun j hj => by rw [← Go.WideShapes.add_plain]; exact h j hj⟩
theorem isMat_of {w : World} {x : Addr} {len cap : Nat} {A : Nat → Option Addr} {L C : Nat → Nat} {Z : Nat → List Int} (hl : len ≤ cap) (hm : cap ≤ maxLen)
    (h : ∀ r, r < cap → w.cell? (x.add r) = some (.slice (A r) (L r) (C r)) ∧ L r ≤ C r ∧ C r ≤ maxLen ∧ (Z r).length = C r ∧ (∀ n ∈ Z r, (Lit.int .i64 n).wf = true) ∧ (A r = none → C r = 0) ∧
        ∀ a', A r = some a' → 0 ≤ a'.block ∧ ∀ c, c < C r → w.cell? (a'.add c) = some (.int .i64 ((Z r).getD c 0))) : IsMat w (some x) len := by
  unfold maxLen at hm
  refine ⟨(List.range len).map fun r => (Z r).take (L r), by simp, ?_, by omega, fun i hi => ?_⟩
  · by_cases h0 : len = 0
    · subst h0; exact .inl rfl
    · obtain ⟨b, o, rfl, hc⟩ := slice_at (n := cap) (v := fun r => .slice (A r) (L r) (C r)) (by omega) (fun r hr => (h r hr).1)
      have hlt : b < w.heap.size := World.block_lt_of_cell? w ⟨b, o + 0, none⟩ (hc 0 (by omega))
      refine .inr ⟨b, o, rfl, Nat.zero_le _, hlt, fun i hi => ?_⟩
      simp only [List.length_map, List.length_range] at hi
      obtain ⟨_, r1, r2, r3, _, r5, r6⟩ := h i (by omega)
      have e : rw' ((List.range len).map fun r => (Z r).take (L r)) i = (Z i).take (L i) := by simp [rw', List.getD, hi]
      rw [e]
      have e2 : ((Z i).take (L i)).length = L i := by simp; omega
      rw [e2]
      refine ⟨A i, C i, hc i (by omega), ?_⟩
      cases hA : A i with
      | none =>
        have := r5 hA
        have h0 : L i = 0 := by omega
        exact .inl (by rw [h0]; rfl)
      | some a' => exact row_of (by omega) (fun c hc' => (r6 a' hA).2 c (by omega))
  · simp only [List.length_map, List.length_range] at hi
    obtain ⟨_, r1, r2, r3, _⟩ := h i (by omega)
    unfold maxLen at r2
    have e : rw' ((List.range len).map fun r => (Z r).take (L r)) i = (Z i).take (L i) := by simp [rw', List.getD, hi]
    rw [e]; simp; omega

end Go.Proofs.Ytmlbplkapnoncaa

namespace Go.Proofs.Ytmlbplkapnoncaa
open Go.RowKit
set_option linter.unusedVariables false

def SpecR (R : List Int) (C : Int) (w : World) (e : Ending) (w' : World) : Prop :=
  ∃ r c, e = .returned (.tuple #[.slice r R.length c, .int .i64 C]) ∧ RowIn w.heap.size w'.heap.size w' r R ∧ Below w.heap.size w w'
def ImplR (R : List Int) (C : Int) (w : World) (e : Ending) (w' : World) : Prop :=
  ∃ r c, e = .returned (.tuple #[.slice r R.length c, .int .i64 C]) ∧ OwnR w.heap.size w'.heap.size w' r R ∧ Below w.heap.size w w'
/-- A number and a code are handed back. -/
def RetI (V C : Int) (w : World) (e : Ending) (w' : World) : Prop := e = .returned (.tuple #[.int .i64 V, .int .i64 C]) ∧ Below w.heap.size w w'
def markedR (k : Int) (z : List Int) : List Int := mkR z.length fun j => k + j
theorem markedR_len (k : Int) (z : List Int) : (markedR k z).length = z.length := mkR_len _ _

theorem markOwnR (a : Option Addr) (z : List Int) (cap lo tp : Nat) (k : Int) (w : World) (hz : OwnR lo tp w a z) (hl : z.length ≤ 1048576) (k0 : 0 ≤ k) (k1 : k ≤ 10000000) :
    Calls Try.prog 23 #[.slice a z.length cap, .int .i64 k] w fun e w' => e = .returned (.int .i64 (k + z.length)) ∧ OwnR lo tp w' a (markedR k z) ∧ Off lo tp w w' := by
  rcases hz with h0 | ⟨b, o, rfl, h0, h1, hc⟩
  · subst h0
    refine (markRow_nil a cap k w).mono ?_
    rintro e w' ⟨rfl, rfl⟩
    exact ⟨ret_int (by simp), .inl rfl, Off.refl _ _ _⟩
  · refine (markRow b o z.length cap k w (fun j hj => ⟨_, (hc j hj).1⟩) (fun j hj => (hc j hj).2) hl k0 (by omega)).mono ?_
    rintro e w' ⟨rfl, hw, hd⟩
    refine ⟨rfl, .inr ⟨b, o, rfl, h0, h1, fun j hj => ?_⟩, hw.off h0 h1⟩
    rw [markedR_len] at hj
    exact ⟨by rw [hd j hj]; unfold markedR; rw [mkR_at _ hj], (hw.frozenAll _ _).trans (hc j hj).2⟩

theorem heldRow_n (a : Option Addr) (z : List Int) (cap lo tp : Nat) (w : World) (hm : RowIn lo tp w a (markedR 1 z)) (hl : z.length ≤ 1048576) :
    Calls Try.prog 24 #[.slice a z.length cap, .int .i64 1] w fun e w' => e = .returned (.int .i64 (1 + z.length)) ∧ Quiet w w' :=
  heldRow_mk a z.length cap lo tp 1 w hm hl (by omega) (by omega)

theorem quiet_z {w w' : World} (h : Quiet w w') : w.heap.size ≤ w'.heap.size := Nat.le_of_eq h.size.symm
theorem off_z {lo tp : Nat} {w w' : World} (h : Off lo tp w w') : w.heap.size ≤ w'.heap.size := Nat.le_of_eq h.size.symm

end Go.Proofs.Ytmlbplkapnoncaa

namespace Go.Proofs.Ytmlbplkapnoncaa
open Go.RowKit Go.ChangeShapes Go.WideShapes
set_option linter.unusedVariables false

set_option maxHeartbeats 800000 in
theorem checkRow (p : Int) (a : Option Addr) (zs : List Int) (cap lo tp : Nat) (w : World) (hp : prm p = true) (hrow : RowIn lo tp w a zs) (hlen : zs.length ≤ 9223372036854775807) :
    Calls Try.prog 157 #[.int .i64 p, .slice a zs.length cap] w fun e w' => e = .returned (.int .i64 (codeOf p zs)) ∧ w = w' := by
  have HP := Lib.hid hp
  have HR := Lib.hid hrow
  clear hrow hp
  go_enter Try.func157, Try.ntmps157
  go_wp2_with (go_at_call 166; refine (isPrime_any _ _).mono ?_; rintro e w' ⟨rfl, rfl⟩; rw [HP.out])
  go_loop [12] (fun t => ∃ k : Nat, k ≤ zs.length ∧ t = .int .i64 k ∧ (zs.take k).all (inr p) = true) (fun t => zs.length - (intOf t).toNat)
  case atStart => exact ⟨0, Nat.zero_le _, rfl, rfl⟩
  case round =>
    obtain ⟨k, hk, rfl, hall⟩ := hrel
    have HA := Lib.hid hall
    clear hall
    by_cases hlt : k < zs.length
    · obtain ⟨b, o, ha, _, _, hcell⟩ := HR.out.num hlt
      subst ha
      obtain ⟨x, hx⟩ : ∃ x, x = zs.getD k 0 := ⟨_, rfl⟩
      rw [← hx] at hcell
      have HX := Lib.hid hx
      clear hx
      by_cases hin : 0 ≤ x ∧ x < p
      · have HI : Hid (inr p x = true) := inr_iff.2 hin
        obtain ⟨hi0, hi1⟩ := hin
        go_wp2
        go_round
        case rel => exact ⟨k + 1, by omega, by go_num, by rw [all_take_succ hlt HX.out, HA.out, HI.out]; rfl⟩
        case measure => simp [intOf]; omega
      · have HI : Hid (inr p x = false) := inr_not.2 hin
        have HC : Hid (codeOf p zs = 2) := code_bad HP.out (all_false_of hlt HX.out HI.out)
        by_cases h0 : x < 0
        · clear hin
          go_wp2
          go_ret
          exact ⟨by rw [HC.out]; rfl, rfl⟩
        · have h1 : p ≤ x := by omega
          clear hin
          go_wp2
          go_ret
          exact ⟨by rw [HC.out]; rfl, rfl⟩
    · have HC : Hid (codeOf p zs = 0) := code_ok HP.out (by have := HA.out; rwa [List.take_of_length_le (by omega)] at this)
      go_wp2
      go_ret
      exact ⟨by rw [HC.out]; rfl, rfl⟩

set_option maxHeartbeats 800000 in
theorem numsRow (p : Int) (a : Option Addr) (zs : List Int) (cap lo tp : Nat) (w : World) (hp : prm p = true) (hrow : RowIn lo tp w a zs) (hlen : zs.length ≤ 9223372036854775807) :
    Calls Try.prog 155 #[.int .i64 p, .slice a zs.length cap] w fun e w' => e = .returned (.bool (zs.all (inr p))) ∧ w = w' := by
  have hpb := prm_bd hp
  clear hp
  have HR := Lib.hid hrow
  clear hrow
  go_enter Try.func155, Try.ntmps155
  go_wp2
  go_loop [5] (fun t => ∃ k : Nat, k ≤ zs.length ∧ t = .int .i64 k ∧ (zs.take k).all (inr p) = true) (fun t => zs.length - (intOf t).toNat)
  case atStart => exact ⟨0, Nat.zero_le _, rfl, rfl⟩
  case round =>
    obtain ⟨k, hk, rfl, hall⟩ := hrel
    have HA := Lib.hid hall
    clear hall
    by_cases hlt : k < zs.length
    · obtain ⟨b, o, ha, _, _, hcell⟩ := HR.out.num hlt
      subst ha
      obtain ⟨x, hx⟩ : ∃ x, x = zs.getD k 0 := ⟨_, rfl⟩
      rw [← hx] at hcell
      have HX := Lib.hid hx
      clear hx
      by_cases hin : 0 ≤ x ∧ x < p
      · have HI : Hid (inr p x = true) := inr_iff.2 hin
        obtain ⟨hi0, hi1⟩ := hin
        go_wp2_with (go_at_call 154; refine (l01In_yes _ _ _ _ (by omega) (by omega)).mono ?_; rintro e w' ⟨rfl, rfl⟩)
        go_round
        case rel => exact ⟨k + 1, by omega, by go_num, by rw [all_take_succ hlt HX.out, HA.out, HI.out]; rfl⟩
        case measure => simp [intOf]; omega
      · have HI : Hid (inr p x = false) := inr_not.2 hin
        have HC : Hid (zs.all (inr p) = false) := all_false_of hlt HX.out HI.out
        have hin' : ¬ (0 ≤ x ∧ x ≤ p - 1) := by omega
        have HN := Lib.hid hin'
        clear hin hin'
        go_wp2_with (go_at_call 154; refine (l01In_no _ _ _ _ HN.out).mono ?_; rintro e w' ⟨rfl, rfl⟩)
        go_ret
        exact ⟨by rw [HC.out]; rfl, rfl⟩
    · have HC : Hid (zs.all (inr p) = true) := by have := HA.out; rwa [List.take_of_length_le (by omega)] at this
      go_wp2
      go_ret
      exact ⟨by rw [HC.out]; rfl, rfl⟩

set_option maxHeartbeats 800000 in
theorem checkRow_any (p : Int) (a : Option Addr) (zs : List Int) (cap lo tp : Nat) (w : World) (hrow : RowIn lo tp w a zs) (hlen : zs.length ≤ 9223372036854775807) :
    Calls Try.prog 157 #[.int .i64 p, .slice a zs.length cap] w fun e w' => e = .returned (.int .i64 (codeOf p zs)) ∧ w = w' := by
  by_cases hp : prm p = true
  · exact checkRow p a zs cap lo tp w hp hrow hlen
  · have HP : Hid (prm p = false) := by show _ = _; simpa using hp
    clear hp hrow
    go_enter Try.func157, Try.ntmps157
    go_wp2_with (go_at_call 166; refine (isPrime_any _ _).mono ?_; rintro e w' ⟨rfl, rfl⟩; rw [HP.out])
    go_ret
    exact ⟨by rw [code_np HP.out]; rfl, rfl⟩

set_option maxHeartbeats 800000 in
theorem isVector_any (p : Int) (a : Option Addr) (v : List Int) (c n lo tp : Nat) (w : World) (hp : prm p = true) (hv : RowIn lo tp w a v) (hs : v.length ≤ 1048576) (hn : n ≤ 1048576) :
    Calls Try.prog 133 #[.int .i64 p, .slice a v.length c, .int .i64 n] w fun e w' => e = .returned (.bool (decide (v.length = n) && v.all (inr p))) ∧ w = w' := by
  have HV := Lib.hid hv
  have HP := Lib.hid hp
  clear hv hp
  by_cases h : v.length = n
  · subst h
    by_cases ha : v.all (inr p) = true
    · have HA := Lib.hid ha
      have HC := Lib.hid (code_ok HP.out ha)
      clear ha
      go_enter Try.func133, Try.ntmps133
      go_wp2_with (go_at_call 157; (with_reducible refine (checkRow _ _ _ _ lo tp _ HP.out HV.out (by omega)).mono ?_); rintro e w1 ⟨rfl, rfl⟩; rw [HC.out])
      go_ret
      exact ⟨by rw [HA.out]; simp, rfl⟩
    · have HA : Hid (v.all (inr p) = false) := by show v.all (inr p) = false; simpa using ha
      have HC := Lib.hid (code_bad HP.out HA.out)
      clear ha
      go_enter Try.func133, Try.ntmps133
      go_wp2_with (go_at_call 157; (with_reducible refine (checkRow _ _ _ _ lo tp _ HP.out HV.out (by omega)).mono ?_); rintro e w1 ⟨rfl, rfl⟩; rw [HC.out])
      go_ret
      exact ⟨by rw [HA.out]; simp, rfl⟩
  · have HF : Hid ((decide (v.length = n) && v.all (inr p)) = false) := by show _ = _; simp [h]
    have e1 : ((v.length : Int) == (n : Int)) = false := by simp; omega
    have e2 : decide ((v.length : Int) = (n : Int)) = false := by simp; omega
    clear h
    go_enter Try.func133, Try.ntmps133
    go_wp2
    go_ret
    exact ⟨by rw [HF.out]; rfl, rfl⟩

end Go.Proofs.Ytmlbplkapnoncaa
