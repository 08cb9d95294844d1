/-
  What the laws' sizes, copies, comparisons and marks of matrices do.
  Conditions: the matrices are nil or rows of known cells; copied, compared and marked: of at most 1048576 numbers.
-/
import Derived.Test.YtkibkkdeaojjoabGreatQg3
import Derived.Deep.RegionHeld3
import Derived.RegionTactic
import Derived.Deep.RegionWith
import Derived.StillTailTactics
namespace Go.Proofs.YtkibkkdeaojjoabGreat
open Go.RowKit Go.ChangeShapes Go.WideShapes
set_option linter.unusedVariables false

set_option maxHeartbeats 800000 in
theorem szMat_yes (a : Option Addr) (m : List (List Int)) (cap lo tp : Nat) (left : Int) (w : World) (hm : MatIn lo tp w a m) (h : ((m.length + tot m m.length : Nat) : Int) ≤ left) (k : left ≤ 1048576) :
    Calls Tryz.prog 17 #[.slice a m.length cap, .int .i64 left] w fun e w' => e = .returned (.int .i64 (left - (m.length + tot m m.length : Nat))) ∧ w = w' := by
  have HM := Lib.hid hm
  have hl : (m.length : Int) ≤ left := by omega
  clear hm
  go_enter Tryz.func17, Tryz.ntmps17
  go_wp2
  go_loop [1, 5] (fun s t => ∃ i : Nat, i ≤ m.length ∧ t = .int .i64 i ∧ s = .int .i64 (left - (m.length + tot m i : Nat))) (fun _ t => m.length - (intOf t).toNat)
  case atStart => exact ⟨0, Nat.zero_le _, rfl, by simp [tot]⟩
  case round =>
    obtain ⟨i, hi, rfl, rfl⟩ := hrel
    by_cases hlt : i < m.length
    · obtain ⟨b, o, r, c, ha, _, _, hr, _⟩ := HM.out.row hlt
      subst ha
      have h1 : tot m i + (rw' m i).length ≤ tot m m.length := tot_mono (m := m) (i := i + 1) (by omega)
      go_wp2_with (go_at_call 21; (with_reducible refine (szRow_yes _ _ _ _ _ (by omega) (by omega)).mono ?_); rintro e w' ⟨rfl, rfl⟩)
      go_round
      case rel => exact ⟨i + 1, by omega, by go_num, by simp only [tot]; congr 1; omega⟩
      case measure => simp [intOf]; omega
    · have hn : i = m.length := by omega
      subst hn
      go_wp2
      go_ret
      exact ⟨rfl, rfl⟩

theorem info_slice : (Tryz.prog.info? 22).map (fun i => (i.zero, i.size, i.bytes)) = some (some (.slice none 0 0), 1, 24) := by kernel_rfl

/-- A copied matrix: its outer block begins where memory ended. -/
def CopiedM (m : List (List Int)) (w : World) (e : Ending) (w' : World) : Prop :=
  e = .returned (.slice (some ⟨w.heap.size, 0, none⟩) m.length m.length) ∧ Below w.heap.size w w' ∧ w.heap.size < w'.heap.size ∧ OwnM w.heap.size w'.heap.size w' (some ⟨w.heap.size, 0, none⟩) m

/-- What has been copied so far. -/
structure HalfM (w : World) (b i : Nat) (m : List (List Int)) (B : Nat → Nat) : Prop where
  lt : b < w.heap.size
  done : ∀ j, j < i → w.cell? ⟨b, j, none⟩ = some (.slice (some ⟨B j, 0, none⟩) (rw' m j).length (rw' m j).length)
  rest : ∀ j, i ≤ j → j < m.length → w.cell? ⟨b, j, none⟩ = some (.slice none 0 0)
  free : ∀ j, w.frozen? ⟨b, j, none⟩ = false
  rng : ∀ j, j < i → b < B j ∧ B j < w.heap.size
  cell : ∀ j, j < i → ∀ x, x < (rw' m j).length → w.cell? ⟨B j, x, none⟩ = some (.int .i64 (at' m j x)) ∧ w.frozen? ⟨B j, x, none⟩ = false
  apart : ∀ j, j < i → ∀ j', j' < i → j ≠ j' → B j ≠ B j'
theorem HalfM.start (w : World) (m : List (List Int)) (t : TypeId) (B : Nat → Nat) : HalfM (w.alloc (.cells (madeCells #[.slice none 0 0] m.length) t)) w.heap.size 0 m B where
  lt := by simp
  done j hj := by omega
  rest j _ hj := by
    have h := World.cell?_alloc_new (w := w) (madeCells #[.slice none 0 0] m.length) t j
    rw [h]
    simp [madeCells, hj, Nat.mod_one]
  free j := by simp [go_sem]
  rng j hj := by omega
  cell j hj := by omega
  apart j hj := by omega
theorem HalfM.next {w w1 : World} {b i : Nat} {m : List (List Int)} {B : Nat → Nat} (h : HalfM w b i m B) (hi : i < m.length) (hb : Below w.heap.size w w1) (hs : w.heap.size < w1.heap.size)
    (hr : OwnR w.heap.size w1.heap.size w1 (some ⟨w.heap.size, 0, none⟩) (rw' m i)) :
    HalfM (w1.setCell ⟨b, i, none⟩ (.slice (some ⟨w.heap.size, 0, none⟩) (rw' m i).length (rw' m i).length)) b (i + 1) m (fun j => if j = i then w.heap.size else B j) := by
  have hlt := h.lt
  have oth : ∀ c j, c ≠ b → (w1.setCell ⟨b, i, none⟩ (.slice (some ⟨w.heap.size, 0, none⟩) (rw' m i).length (rw' m i).length)).cell? ⟨c, j, none⟩ = w1.cell? ⟨c, j, none⟩ := fun c j hne =>
    World.cell?_setCell_other _ _ _ _ (fun e => hne (by injection e with e1; exact e1.symm))
  refine ⟨by simp [World.setCell]; omega, fun j hj => ?_, fun j hj hl => ?_, fun j => ?_, fun j hj => ?_, fun j hj x hx => ?_, fun j hj j' hj' hne => ?_⟩
  · by_cases e : j = i
    · subst e
      simp only [if_pos]
      exact World.cell?_setCell_same w1 _ _ ((hb.cell (p := ⟨b, j, none⟩) hlt).trans (h.rest j (Nat.le_refl _) hi))
    · simp only [if_neg e]
      exact (World.cell?_setCell_other _ _ _ _ (by first | (simp; done) | (simp; omega))).trans ((hb.cell (p := ⟨b, j, none⟩) hlt).trans (h.done j (by omega)))
  · exact (World.cell?_setCell_other _ _ _ _ (by first | (simp; done) | (simp; omega))).trans ((hb.cell (p := ⟨b, j, none⟩) hlt).trans (h.rest j (by omega) hl))
  · have := (hb.frozen (p := ⟨b, j, none⟩) hlt).trans (h.free j)
    simp [go_sem, this]
  · have hz : (w1.setCell ⟨b, i, none⟩ (.slice (some ⟨w.heap.size, 0, none⟩) (rw' m i).length (rw' m i).length)).heap.size = w1.heap.size := by simp [World.setCell]
    rw [hz]
    by_cases e : j = i
    · subst e; simp only [if_pos]; exact ⟨hlt, hs⟩
    · simp only [if_neg e]; have := h.rng j (by omega); omega
  · by_cases e : j = i
    · subst e
      simp only [if_pos]
      rcases hr with h0 | ⟨b1, o1, e1, _, _, hc⟩
      · rw [h0] at hx; simp at hx
      · cases e1
        have h2 := hc x hx
        simp only [Nat.zero_add] at h2
        exact ⟨(oth _ _ (by omega)).trans h2.1, by simp [go_sem, h2.2]⟩
    · simp only [if_neg e]
      have hg := h.rng j (by omega)
      have h2 := h.cell j (by omega) x hx
      have f2 := (hb.frozen (p := ⟨B j, x, none⟩) hg.2).trans h2.2
      exact ⟨(oth _ _ (by omega)).trans ((hb.cell (p := ⟨B j, x, none⟩) hg.2).trans h2.1), by simp [go_sem, f2]⟩
  · have e1 : ∀ j, j < i → B j ≠ w.heap.size := fun j hj => by have := (h.rng j hj).2; omega
    by_cases e : j = i
    · subst e
      simp only [if_pos, if_neg (fun e => hne e.symm : ¬ j' = j)]
      exact (e1 j' (by omega)).symm
    · by_cases e' : j' = i
      · subst e'
        simp only [if_pos, if_neg e]
        exact e1 j (by omega)
      · simp only [if_neg e, if_neg e']
        exact h.apart j (by omega) j' (by omega) hne
theorem HalfM.own {w : World} {b : Nat} {m : List (List Int)} {B : Nat → Nat} (h : HalfM w b m.length m B) : OwnM b w.heap.size w (some ⟨b, 0, none⟩) m :=
  .inr ⟨⟨b, 0, fun j => some ⟨B j, 0, none⟩, B, fun _ => 0, fun j => (rw' m j).length⟩, rfl, {
    rng := fun _ => ⟨Nat.le_refl _, h.lt⟩
    top := fun i hi => by show w.cell? ⟨b, 0 + i, none⟩ = _; rw [Nat.zero_add]; exact h.done i hi
    row := fun i hi => .inr rfl
    rrng := fun i hi _ => ⟨by have := (h.rng i hi).1; show b ≤ B i; omega, (h.rng i hi).2⟩
    cell := fun i hi j hj => by show w.cell? ⟨B i, 0 + j, none⟩ = _; rw [Nat.zero_add]; exact (h.cell i hi j hj).1
    free := fun i hi j hj => by show w.frozen? ⟨B i, 0 + j, none⟩ = _; rw [Nat.zero_add]; exact (h.cell i hi j hj).2
    apart := fun i hi i' hi' hne j hj j' hj' e => h.apart i hi i' hi' hne e.1
    tops := fun i hi j hj i' hi' e => by have := (h.rng i hi).1; have e1 : B i = b := e.1; omega }⟩

set_option maxHeartbeats 1600000 in
theorem copyMat (a : Option Addr) (m : List (List Int)) (cap lo tp : Nat) (w : World) (hm : MatIn lo tp w a m) (hhi : tp ≤ w.heap.size) (hl : m.length + tot m m.length ≤ 1048576) :
    Calls Tryz.prog 19 #[.slice a m.length cap] w (CopiedM m w) := by
  have HM := Lib.hid hm
  clear hm
  have hmk := fun W => run_make_row' (P := Tryz.prog) 26 22 (.slice none 0 0) 24 Tryz.underlying26 info_slice rfl .i64 .i64 m.length (by omega) (by omega) W
  go_enter Tryz.func19, Tryz.ntmps19
  go_wp2
  clear hmk
  go_loopw [4] (fun t wr => ∃ i : Nat, i ≤ m.length ∧ t = .int .i64 i ∧ (∃ B, HalfM wr w.heap.size i m B) ∧ Below w.heap.size w wr) (fun t _ => m.length - (intOf t).toNat)
  case atStart => exact ⟨0, Nat.zero_le _, rfl, ⟨fun _ => 0, HalfM.start w m _ _⟩, by ((repeat' (first | with_reducible exact Below.refl _ _ | (with_reducible refine Below.setCell ?_ ?_ _) | (with_reducible refine Below.alloc ?_ ?_ _) | (with_reducible refine Below.drew ?_))); all_goals (first | (simp; done) | omega | (simp; omega)))⟩
  case round =>
    obtain ⟨i, hi, rfl, ⟨B, hh⟩, hbel⟩ := hrel
    have HH := Lib.hid hh
    by_cases hlt : i < m.length
    · obtain ⟨b, o, r, c, ha, _, hb, hr, hrow⟩ := HM.out.row hlt
      subst ha
      have hcell := (hbel.cell (p := ⟨b, o + i, none⟩) (Nat.lt_of_lt_of_le hb hhi)).trans hr
      have HR : Hid (RowIn lo tp wr r (rw' m i)) := hrow.below hbel hhi
      have h1 : tot m i + (rw' m i).length ≤ tot m m.length := tot_mono (m := m) (i := i + 1) (by omega)
      have hwr : w.heap.size ≤ wr.heap.size := hbel.size
      have hlt0 := hh.lt
      have g0 := hh.rest i (Nat.le_refl _) hlt
      have f0 := hh.free i
      clear hr hrow hh
      go_wp2_with (go_at_call 8; (with_reducible refine (copyRow _ _ _ _ _ _ HR.out (by omega) (by omega)).mono ?_); rintro e w1 ⟨rfl, hb1, hs1, ho1⟩; have HO := Lib.hid ho1; clear ho1; have g1 := (hb1.cell (p := ⟨w.heap.size, i, none⟩) hlt0).trans g0; have f1 := (hb1.frozen (p := ⟨w.heap.size, i, none⟩) hlt0).trans f0)
      go_roundw
      case rel => exact ⟨i + 1, by omega, by go_num, ⟨_, HH.out.next hlt hb1 hs1 HO.out⟩, by (have hs_hb1 := hb1.size; have hs_hbel := hbel.size; (repeat' (first | with_reducible exact Below.refl _ _ | (with_reducible refine Below.setCell ?_ ?_ _) | (with_reducible refine Below.alloc ?_ ?_ _) | (with_reducible refine Below.drew ?_) | (with_reducible refine below_step ?_ ?_ hb1) | (with_reducible refine below_step ?_ ?_ hbel))); all_goals (first | (simp; done) | omega | (simp; omega) | (simp at hs_hb1 hs_hbel ⊢; omega)))⟩
      case measure => simp [intOf]; omega
    · have hn : i = m.length := by omega
      subst hn
      clear hh
      go_wp2
      go_ret
      exact ⟨rfl, hbel, HH.out.lt, HH.out.own⟩

set_option maxHeartbeats 1600000 in
theorem sameMat (a c : Option Addr) (m : List (List Int)) (k1 k2 lo tp lo' tp' : Nat) (w : World) (hm : MatIn lo tp w a m) (hm' : MatIn lo' tp' w c m) (hl : m.length + tot m m.length ≤ 1048576) :
    Calls Tryz.prog 10 #[.slice a m.length k1, .slice c m.length k2] w fun e w' => e = .returned (.bool true) ∧ Quiet w w' := by
  have HM := Lib.hid hm
  have HM' := Lib.hid hm'
  clear hm hm'
  go_enter Tryz.func10, Tryz.ntmps10
  go_wp2
  go_loopw [5] (fun t wr => ∃ i : Nat, i ≤ m.length ∧ t = .int .i64 i ∧ Quiet w wr) (fun t _ => m.length - (intOf t).toNat)
  case atStart => exact ⟨0, Nat.zero_le _, rfl, Quiet.refl _⟩
  case round =>
    obtain ⟨i, hi, rfl, hq⟩ := hrel
    have HQ := Lib.hid hq
    by_cases hlt : i < m.length
    · obtain ⟨b1, o1, r1, c1, ha1, _, _, hr1, hw1⟩ := (HM.out.same (hq.same lo tp)).row hlt
      obtain ⟨b2, o2, r2, c2, ha2, _, _, hr2, hw2⟩ := (HM'.out.same (hq.same lo' tp')).row hlt
      subst ha1
      subst ha2
      have h1 : tot m i + (rw' m i).length ≤ tot m m.length := tot_mono (m := m) (i := i + 1) (by omega)
      have H1 := Lib.hid hw1
      have H2 := Lib.hid hw2
      clear hw1 hw2 hq
      go_wp2
      go_quiet ((go_at_call 12; refine Calls.quiet_of (sameRow _ _ _ _ _ lo tp lo' tp' _ (H1.out.same ((Quiet.refl _).next _ |>.same _ _)) (H2.out.same ((Quiet.refl _).next _ |>.same _ _)) (by omega))))
      go_wp2
      go_roundw
      case rel => exact ⟨i + 1, by omega, by go_num, HQ.out.next _⟩
      case measure => simp [intOf]; omega
    · clear hq
      go_wp2
      go_ret
      exact ⟨rfl, HQ.out⟩

set_option maxHeartbeats 800000 in
theorem szMat_no (a : Option Addr) (m : List (List Int)) (cap lo tp : Nat) (left : Int) (w : World) (hm : MatIn lo tp w a m) (h : left < ((m.length + tot m m.length : Nat) : Int)) (h0 : 0 ≤ left) (k : left ≤ 1048576) (hn : m.length ≤ 9223372036854775807) (hr : ∀ i, i < m.length → (rw' m i).length ≤ 9223372036854775807) :
    Calls Tryz.prog 17 #[.slice a m.length cap, .int .i64 left] w fun e w' => e = .returned (.int .i64 (-1)) ∧ w = w' := by
  have HM := Lib.hid hm
  have HR := Lib.hid hr
  clear hm hr
  by_cases hl : (m.length : Int) ≤ left
  · go_enter Tryz.func17, Tryz.ntmps17
    go_wp2
    go_loop [1, 5] (fun s t => ∃ i : Nat, i ≤ m.length ∧ t = .int .i64 i ∧ s = .int .i64 (left - (m.length + tot m i : Nat)) ∧ ((m.length + tot m i : Nat) : Int) ≤ left) (fun _ t => m.length - (intOf t).toNat)
    case atStart => exact ⟨0, Nat.zero_le _, rfl, by simp [tot], by simpa [tot] using hl⟩
    case round =>
      obtain ⟨i, hi, rfl, rfl, hle⟩ := hrel
      by_cases hlt : i < m.length
      · obtain ⟨b, o, r, c, ha, _, _, hr, _⟩ := HM.out.row hlt
        subst ha
        have hrl := HR.out i hlt
        by_cases hfit : ((rw' m i).length : Int) ≤ left - (m.length + tot m i : Nat)
        · go_wp2_with (go_at_call 21; (with_reducible refine (szRow_yes _ _ _ _ _ (by omega) (by omega)).mono ?_); rintro e w' ⟨rfl, rfl⟩)
          go_round
          case rel => exact ⟨i + 1, by omega, by go_num, by simp only [tot]; congr 1; omega, by simp only [tot]; omega⟩
          case measure => simp [intOf]; omega
        · go_wp2_with (go_at_call 21; (with_reducible refine (szRow_no _ _ _ _ _ (by omega) (by omega) (by omega)).mono ?_); rintro e w' ⟨rfl, rfl⟩)
          go_ret
          exact ⟨rfl, rfl⟩
      · have hn : i = m.length := by omega
        subst hn
        omega
  · go_enter Tryz.func17, Tryz.ntmps17
    go_wp2
    go_ret
    exact ⟨rfl, rfl⟩

/-- A matrix with the numbers k, k + 1, .. in a row's order. -/
def marked (k : Int) (m : List (List Int)) : List (List Int) := (List.range m.length).map fun i => mkR (rw' m i).length fun j => k + tot m i + j
theorem marked_len (k : Int) (m : List (List Int)) : (marked k m).length = m.length := by simp [marked]
theorem marked_row (k : Int) {m : List (List Int)} {i : Nat} (h : i < m.length) : rw' (marked k m) i = mkR (rw' m i).length fun j => k + tot m i + j := by simp [marked, rw', List.getD, h]
theorem marked_rowLen (k : Int) {m : List (List Int)} {i : Nat} (h : i < m.length) : (rw' (marked k m) i).length = (rw' m i).length := by rw [marked_row k h, mkR_len]
theorem marked_at (k : Int) {m : List (List Int)} {i j : Nat} (h : i < m.length) (hj : j < (rw' m i).length) : at' (marked k m) i j = k + tot m i + j := by rw [at', marked_row k h, mkR_at _ hj]

theorem OwnAt.marked {lo tp : Nat} {w : World} {q : Place} {a : Option Addr} {m : List (List Int)} {k : Int} (ha : a = some ⟨q.b, q.o, none⟩)
    (h : OwnAt lo tp w q m.length (fun i => (rw' m i).length) (fun i' j => if i' < m.length then k + tot m i' + j else at' m i' j)) : OwnM lo tp w a (marked k m) := by
  refine .inr ⟨q, ha, ?_⟩
  rw [marked_len]
  have e : ∀ i, i < m.length → (rw' (Go.Proofs.YtkibkkdeaojjoabGreat.marked k m) i).length = (rw' m i).length := fun i hi => marked_rowLen k hi
  exact {
    rng := h.rng
    top := fun i hi => by rw [e i hi]; exact h.top i hi
    row := fun i hi => by rw [e i hi]; exact h.row i hi
    rrng := fun i hi hl => h.rrng i hi (by rw [e i hi] at hl; exact hl)
    cell := fun i hi j hj => by rw [e i hi] at hj; rw [marked_at k hi hj]; have := h.cell i hi j hj; rwa [if_pos hi] at this
    free := fun i hi j hj => h.free i hi j (by rw [e i hi] at hj; exact hj)
    apart := fun i hi i' hi' hne j hj j' hj' => h.apart i hi i' hi' hne j (by rw [e i hi] at hj; exact hj) j' (by rw [e i' hi'] at hj'; exact hj')
    tops := fun i hi j hj i' hi' => h.tops i hi j (by rw [e i hi] at hj; exact hj) i' hi' }

set_option maxHeartbeats 1600000 in
theorem markMat (a : Option Addr) (m : List (List Int)) (cap lo tp : Nat) (k : Int) (w : World) (hm : OwnM lo tp w a m) (hl : m.length + tot m m.length ≤ 1048576) (k0 : 0 ≤ k) (k1 : k ≤ 10000000) :
    Calls Tryz.prog 15 #[.slice a m.length cap, .int .i64 k] w fun e w' => e = .returned (.int .i64 (k + tot m m.length)) ∧ OwnM lo tp w' a (marked k m) ∧ Off lo tp w w' := by
  rcases hm with h0 | ⟨q, ha, h⟩
  · subst h0
    go_enter Tryz.func15, Tryz.ntmps15
    go_wp2
    go_loop [1, 5] (fun s t => t = .int .i64 0 ∧ s = .int .i64 k) (fun _ t => 0)
    case atStart => exact ⟨rfl, rfl⟩
    case round =>
      obtain ⟨rfl, rfl⟩ := hrel
      go_wp2
      go_ret
      exact ⟨by simp [tot], .inl rfl, Off.refl _ _ _⟩
  · have H := Lib.hid h
    subst ha
    clear h
    go_enter Tryz.func15, Tryz.ntmps15
    go_wp2
    go_loopw [1, 5] (fun s t wr => ∃ i : Nat, i ≤ m.length ∧ t = .int .i64 i ∧ s = .int .i64 (k + tot m i) ∧ OwnAt lo tp wr q m.length (fun i => (rw' m i).length) (fun i' j => if i' < i then k + tot m i' + j else at' m i' j) ∧ Off lo tp w wr) (fun _ t _ => m.length - (intOf t).toNat)
    case atStart => exact ⟨0, Nat.zero_le _, rfl, by simp [tot], by simpa using H.out, Off.refl _ _ _⟩
    case round =>
      obtain ⟨i, hi, rfl, rfl, ho, hf⟩ := hrel
      have HO := Lib.hid ho
      have HF := Lib.hid hf
      by_cases hlt : i < m.length
      · have hr := ho.top i hlt
        have h1 : tot m i + (rw' m i).length ≤ tot m m.length := tot_mono (m := m) (i := i + 1) (by omega)
        by_cases hz : (rw' m i).length = 0
        · have HZ := Lib.hid hz
          rw [hz] at hr
          clear ho hf hz
          go_wp2_with (go_at_call 14; (with_reducible refine (markRow_nil _ _ _ _).mono ?_); rintro e w' ⟨rfl, rfl⟩)
          go_roundw
          case rel => exact ⟨i + 1, by omega, by go_num, by simp only [tot]; rw [HZ.out]; simp, HO.out.congr (fun i' _ j hj => by
            by_cases e : i' = i
            · subst e; rw [HZ.out] at hj; omega
            · by_cases e2 : i' < i
              · rw [if_pos e2, if_pos (by omega)]
              · rw [if_neg e2, if_neg (by omega)]), HF.out⟩
          case measure => simp [intOf]; omega
        · have hR := (ho.row i hlt).resolve_left hz
          rw [hR] at hr
          have HC : Hid (∀ j, j < (rw' m i).length → ∃ x : Int, wr.cell? ⟨q.B i, q.O i + j, none⟩ = some (.int .i64 x)) := fun j hj => ⟨_, ho.cell i hlt j hj⟩
          have HFr : Hid (∀ j, j < (rw' m i).length → wr.frozen? ⟨q.B i, q.O i + j, none⟩ = false) := fun j hj => ho.free i hlt j hj
          have HRng := Lib.hid (ho.rrng i hlt (by omega))
          clear ho hf hz hR
          go_wp2_with (go_at_call 14; (with_reducible refine (markRow _ _ _ _ _ _ HC.out HFr.out (by omega) (by omega) (by omega)).mono ?_); rintro e w1 ⟨rfl, hw1, hd1⟩; have HW1 := Lib.hid hw1; have HD1 := Lib.hid hd1; clear hw1 hd1)
          go_roundw
          case rel => exact ⟨i + 1, by omega, by go_num, by simp only [tot]; congr 1; omega, (HO.out.wrote hlt HW1.out (fun j => k + tot m i + j) HD1.out).congr (fun i' _ j hj => by
            by_cases e : i' = i
            · subst e; rw [if_pos rfl, if_pos (by omega)]
            · by_cases e2 : i' < i
              · rw [if_neg e, if_pos e2, if_pos (by omega)]
              · rw [if_neg e, if_neg e2, if_neg (by omega)]), HF.out.trans (HW1.out.off HRng.out.1 HRng.out.2)⟩
          case measure => simp [intOf]; omega
      · have hn : i = m.length := by omega
        subst hn
        clear ho hf
        go_wp2
        go_ret
        exact ⟨rfl, HO.out.marked rfl, HF.out⟩

theorem heldRow_mk (a : Option Addr) (L cap lo tp : Nat) (k : Int) (w : World) (hc : RowIn lo tp w a (mkR L fun j => k + j)) (hl : L ≤ 1048576) (k0 : 0 ≤ k) (k1 : k ≤ 100000000) :
    Calls Tryz.prog 33 #[.slice a L cap, .int .i64 k] w fun e w' => e = .returned (.int .i64 (k + L)) ∧ Quiet w w' := by
  have := heldRow a (mkR L fun j => k + j) cap lo tp k w hc (fun j hj => mkR_at _ (by rwa [mkR_len] at hj)) (by rwa [mkR_len]) k0 k1
  rwa [mkR_len] at this

set_option maxHeartbeats 1600000 in
theorem heldMat (a : Option Addr) (m : List (List Int)) (cap lo tp : Nat) (k : Int) (w : World) (hm : MatIn lo tp w a (marked k m)) (hl : m.length + tot m m.length ≤ 1048576) (k0 : 0 ≤ k) (k1 : k ≤ 10000000) :
    Calls Tryz.prog 16 #[.slice a m.length cap, .int .i64 k] w fun e w' => e = .returned (.int .i64 (k + tot m m.length)) ∧ Quiet w w' := by
  have HM := Lib.hid hm
  clear hm
  go_enter Tryz.func16, Tryz.ntmps16
  go_wp2
  go_loopw [1, 5] (fun s t wr => ∃ i : Nat, i ≤ m.length ∧ t = .int .i64 i ∧ s = .int .i64 (k + tot m i) ∧ Quiet w wr) (fun _ t _ => m.length - (intOf t).toNat)
  case atStart => exact ⟨0, Nat.zero_le _, rfl, by simp [tot], Quiet.refl _⟩
  case round =>
    obtain ⟨i, hi, rfl, rfl, hq⟩ := hrel
    have HQ := Lib.hid hq
    by_cases hlt : i < m.length
    · obtain ⟨b, o, r, c, ha, _, _, hr, hrow⟩ := (HM.out.same (hq.same lo tp)).row (i := i) (by rw [marked_len]; exact hlt)
      subst ha
      have h1 : tot m i + (rw' m i).length ≤ tot m m.length := tot_mono (m := m) (i := i + 1) (by omega)
      rw [marked_row k hlt, mkR_len] at hr
      rw [marked_row k hlt] at hrow
      have HR := Lib.hid hrow
      clear hrow hq
      go_wp2_with (go_at_call 33; (with_reducible refine (heldRow_mk _ _ _ lo tp _ _ HR.out (by omega) (by omega) (by omega)).mono ?_); rintro e w1 ⟨rfl, hq1⟩; have HQ1 := Lib.hid hq1; clear hq1)
      go_roundw
      case rel => exact ⟨i + 1, by omega, by go_num, by simp only [tot]; congr 1; omega, HQ.out.trans HQ1.out⟩
      case measure => simp [intOf]; omega
    · have hn : i = m.length := by omega
      subst hn
      clear hq
      go_wp2
      go_ret
      exact ⟨rfl, HQ.out⟩

end Go.Proofs.YtkibkkdeaojjoabGreat
