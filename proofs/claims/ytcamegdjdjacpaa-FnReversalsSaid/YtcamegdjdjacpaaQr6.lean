/-
  Grades of blades and terms of multivectors, in the program; grades in the model.
  Conditions: masks of at most six bits; the multivector is a row of known cells.
-/
import Derived.Test.YtcamegdjdjacpaaQr5
import Derived.Maps.Own
import Derived.Maps.OwnSet
namespace Go.Proofs.Ytcamegdjdjacpaa
open Go.RowKit Go.Maps
set_option linter.unusedVariables false

set_option maxHeartbeats 800000 in
theorem ones64 (m : Nat) (hm : m < 64) (w : World) : Calls Try.prog 205 #[.int .u64 m] w fun e w' => e = .returned (.int .i64 (gr m)) ∧ w = w' := by
  go_enter Try.func205, Try.ntmps205
  go_wp2
  go_ret
  refine ⟨congrArg (fun z => Ending.returned (.int .i64 z)) ?_, rfl⟩
  clear w
  revert hm
  revert m
  decide +kernel

set_option maxHeartbeats 800000 in
theorem ones_any (m : Nat) (hm : m < 64) (w : World) : Calls Try.prog 175 #[.int .u64 m] w fun e w' => e = .returned (.int .i64 (gr m)) ∧ w = w' := by
  go_enter Try.func175, Try.ntmps175
  go_wp2_with (go_at_call 205; refine (ones64 m hm _).mono ?_; rintro e w1 ⟨rfl, rfl⟩)
  go_ret
  exact ⟨rfl, rfl⟩
set_option maxHeartbeats 800000 in
theorem gradeOf_any (m : Nat) (hm : m < 64) (w : World) : Calls Try.prog 110 #[.int .i64 m] w fun e w' => e = .returned (.int .i64 (gr m)) ∧ w = w' := by
  go_enter Try.func110, Try.ntmps110
  go_wp2_with (go_at_call 175; refine (ones_any m hm _).mono ?_; rintro e w1 ⟨rfl, rfl⟩)
  go_ret
  exact ⟨rfl, rfl⟩
set_option maxHeartbeats 800000 in
theorem l04Grade_any (m : Nat) (hm : m < 64) (w : World) : Calls Try.prog 201 #[.int .i64 m] w fun e w' => e = .returned (.int .i64 (gr m)) ∧ w = w' := by
  go_enter Try.func201, Try.ntmps201
  go_wp2
  go_loop [0, 3] (fun u v => ∃ k n : Nat, k < 64 ∧ u = .int .i64 k ∧ v = .int .i64 n ∧ n + gr k = gr m) (fun u _ => (intOf u).toNat)
  case atStart => exact ⟨m, 0, hm, rfl, rfl, Nat.zero_add _⟩
  case round =>
    obtain ⟨k, n, hk, rfl, rfl, he⟩ := hrel
    by_cases h0 : 0 < k
    · have HE : Hid (n + k % 2 + gr (k / 2) = gr m) := by show _ = _; rw [← he, gr_step hk]; omega
      have hn : n ≤ 6 := by have := gr_le m; omega
      have h1 : (0 : Int) < (k : Int) := by omega
      clear he
      go_wp2
      go_round
      case rel => exact ⟨k / 2, n + k % 2, by omega, by go_num, by go_num, HE.out⟩
      case measure => simp [intOf]; omega
    · have e : k = 0 := by omega
      subst e
      have HE : Hid (n = gr m) := by show _ = _; rw [← he, gr_zero]; rfl
      clear he
      go_wp2
      go_ret
      exact ⟨by rw [← HE.out]; rfl, rfl⟩

theorem lawK : Keyed Try.prog 3 := int_keyed Try.underlying3
/-- The terms of x are handed back as a map of the call's own. -/
def TermsE (x : List Int) (w : World) (e : Ending) (w' : World) : Prop :=
  ∃ b D, e = .returned (.map (some b)) ∧ w.heap.size ≤ b ∧ b < w'.heap.size ∧ w'.ownsMap Try.prog 3 (plainElem (H := Unit) Try.prog 2) b x.length D ∧ Tm D x x.length ∧ Below w.heap.size w w'

set_option maxRecDepth 100000 in
set_option maxHeartbeats 1600000 in
theorem termsOf_any (a : Option Addr) (x : List Int) (c lo tp : Nat) (w : World) (hx : RowIn lo tp w a x) (tx : tp ≤ w.heap.size) (sx : x.length ≤ 64) (nx : ∀ j, j < x.length → -100 ≤ x.getD j 0 ∧ x.getD j 0 ≤ 100) :
    Calls Try.prog 109 #[.slice a x.length c] w (TermsE x w) := by
  have hmm := @run_makeMap Try.prog
  have HX := Lib.hid hx
  have HN := Lib.hid nx
  clear hx nx
  go_enter Try.func109, Try.ntmps109
  go_wp2
  clear hmm
  go_loopw [9] (fun t wr => ∃ (i : Nat) (D : DataW Unit), i ≤ x.length ∧ t = .int .i64 i ∧ wr.ownsMap Try.prog 3 (plainElem (H := Unit) Try.prog 2) w.heap.size i D ∧ Tm D x i ∧ Below w.heap.size w wr ∧ w.heap.size < wr.heap.size) (fun t _ => x.length - (intOf t).toNat)
  case atStart => exact ⟨0, .map [], Nat.zero_le _, rfl, World.ownsMap_made _ _ _ _, Tm.start x, below_alloc w _, by simp⟩
  case round =>
    obtain ⟨i, D, hi, rfl, hown, hT, hbel, hwlt⟩ := hrel
    have HO := Lib.hid hown
    have HT := Lib.hid hT
    have HB := Lib.hid hbel
    by_cases hlt : i < x.length
    · obtain ⟨b1, o1, ha1, l1, t1, hc1⟩ := (HX.out.below hbel tx).num hlt
      subst ha1
      obtain ⟨x0, x1⟩ := HN.out i hlt
      have hi1 : (i : Int) < (x.length : Int) := by omega
      obtain ⟨y, hy⟩ : ∃ y, y = x.getD i 0 := ⟨_, rfl⟩
      have HY := Lib.hid hy
      rw [← hy] at hc1 x0 x1
      clear hown hT hbel hy
      by_cases h0 : y = 0
      · subst h0
        go_wp2
        go_roundw
        case rel => exact ⟨i + 1, D, by omega, by go_num, HO.out.mono (Nat.le_succ _), HT.out.skip HY.out.symm, HB.out, hwlt⟩
        case measure => simp [intOf]; omega
      · have e0 : (y != 0) = true := by simpa using h0
        have hwf : (Lit.int .i64 y).wf = true := WalkArith.wf_i64 (by omega)
        have hwk : (Lit.int .i64 (i : Int)).wf = true := WalkArith.wf_i64 (by omega)
        have HY0 : Hid (x.getD i 0 ≠ 0) := by show _ ≠ _; rw [← HY.out]; exact h0
        go_wp2_with (first | (at_mapUpdate; refine wpList_mapUpdate_own _ rfl _ _ _ 93 rfl 3 2 lawK Try.underlying93 (plainElem (H := Unit) Try.prog 2) w.heap.size i D rfl HO.out (by unfold maxLen; omega) _ _ _ rfl rfl (keyOf_int_mk Try.underlying3 hwk) _ [] (plainElem_int Try.underlying2 hwf) ?_; intro w1 hown1 hgrow1))
        go_roundw
        case rel => exact ⟨i + 1, _, by omega, by go_num, hown1, by have h := HT.out.put HO.out.isMap HY0.out; rw [← HY.out] at h; exact h, HB.out.grown hgrow1 HB.out.size (fun j hj => by cases hj; exact Nat.le_refl _), by have := hgrow1.size; omega⟩
        case measure => simp [intOf]; omega
    · have hn : i = x.length := by omega
      subst hn
      clear hown hT hbel
      go_wp2
      go_ret
      exact ⟨w.heap.size, D, rfl, Nat.le_refl _, hwlt, HO.out, HT.out, HB.out⟩

end Go.Proofs.Ytcamegdjdjacpaa
