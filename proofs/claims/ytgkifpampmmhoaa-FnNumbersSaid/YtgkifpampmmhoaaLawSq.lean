/-
  The walk of the law on squares: FnSquares.
  Conditions: the code is nil or a row of known bytes.
-/
import Derived.Test.YtgkifpampmmhoaaPair
import Derived.Test.YtgkifpampmmhoaaSq
import Derived.Test.YtgkifpampmmhoaaSum
import Derived.Test.YtgkifpampmmhoaaDiv
import Derived.OpenShut
namespace Go.Proofs.Ytgkifpampmmhoaa
open Go.RowKit Go.ChangeShapes Go.WideShapes
set_option linter.unusedVariables false

theorem drawSquareRoot_any (a : Option Addr) (len cap : Nat) (zs : List Int) (w : World) (hb : Code8 w a len zs) (hl : len ≤ 4096) :
    Calls Try.prog 30 #[.slice a len cap] w (TwoInts w) := by
  have HB := Lib.hid hb
  clear hb
  go_enter Try.func30, Try.ntmps30
  go_wp2_with (go_at_call 42; refine (pair_any a len cap zs _ HB.out hl).mono ?_; rintro e w1 ⟨p, x, y, rfl, hb1⟩)
  go_ret2
  exact ⟨p, x, rfl, hb1⟩

/-! ### The plain facts -/
theorem euler {p a : Int} (hp : prm p = true) (a0 : 0 ≤ a) (a1 : a < p) : (0 ≤ rt p a ↔ (a = 0 ∨ pw p a ((p - 1) / 2).toNat = 1)) := by
  have := every_at (Q := fun p a => decide (0 ≤ rt p a ↔ (a = 0 ∨ pw p a ((p - 1) / 2).toNat = 1))) (by decide +kernel) hp a0 a1
  simpa only [decide_eq_true_eq] using this
theorem two_squares {p a : Int} (hp : prm p = true) (a0 : 0 ≤ a) (a1 : a < p) : (sx p a * sx p a + sy p a * sy p a) % p = a ∧ 0 ≤ sy p a ∧ sy p a < p := by
  have := every_at (Q := fun p a => decide ((sx p a * sx p a + sy p a * sy p a) % p = a ∧ 0 ≤ sy p a ∧ sy p a < p)) (by decide +kernel) hp a0 a1
  simpa only [decide_eq_true_eq] using this
theorem root_small {p a : Int} (hp : prm p = true) (a0 : 0 ≤ a) (a1 : a < p) (h : 0 ≤ rt p a) : rt p a * rt p a % p = a ∧ 2 * rt p a ≤ p := by
  have := every_at (Q := fun p a => decide (0 ≤ rt p a → rt p a * rt p a % p = a ∧ 2 * rt p a ≤ p)) (by decide +kernel) hp a0 a1
  simp only [decide_eq_true_eq] at this
  exact this h

set_option maxRecDepth 100000 in
set_option maxHeartbeats 4000000 in
theorem law_squares_small (a : Option Addr) (len cap : Nat) (zs : List Int) (w : World) (hb : Code8 w a len zs) (hl : len ≤ 4096) :
    Calls Try.prog 4 #[.slice a len cap] w fun e w' => e = .returned (.bool true) ∧ Below w.heap.size w w' := by
  have HB := Lib.hid hb
  clear hb
  go_enter Try.func4, Try.ntmps4
  go_wp2_with (first | (go_at_call 14; refine (big_no a len cap _ hl).mono ?_; rintro e w' ⟨rfl, rfl⟩) | (go_at_call 30; refine (drawSquareRoot_any a len cap zs _ HB.out hl).mono ?_; rintro e w1 ⟨p, x, rfl, hb1⟩))
  rcases code_one p x with ⟨hc, hp, x0, x1⟩ | ⟨hc, hp⟩ | ⟨hc, hp, hn⟩
  · have HP := Lib.hid hp
    have hpb := prm_bd hp
    obtain ⟨sx0, sx1⟩ := sx_bd hp x0 x1
    obtain ⟨hxy, sy0, sy1⟩ := two_squares hp x0 x1
    have HXY := Lib.hid hxy
    obtain ⟨m0, m1⟩ := mul_bd hp sx0 sx1 sx0 sx1
    obtain ⟨m2, m3⟩ := mul_bd hp sy0 sy1 sy0 sy1
    have HSS := Lib.hid (ss_yes hc)
    have HPW := Lib.hid (pow_pos (k := (p - 1) / 2) hc (by omega) (by omega))
    have HC := Lib.hid hc
    have he := euler hp x0 x1
    by_cases hr : 0 ≤ rt p x
    · have HS := Lib.hid (sq_yes hc hr)
      obtain ⟨hr2, hr3⟩ := root_small hp x0 x1 hr
      have HR2 := Lib.hid hr2
      obtain ⟨rb0, rb1⟩ := rt_bd hp x0 x1
      obtain ⟨m4, m5⟩ := mul_bd hp hr rb1 hr rb1
      by_cases hz : x = 0
      · have hzb : (x == 0) = true := by simp [hz]
        clear hc hp hxy hr2 he hz
        go_wp2_with (first | (go_at_call 31; refine (squareRoot_impl p x _).mono ?_; rintro e w2 ⟨rfl, hb2⟩; rw [HS.out.2.1, HS.out.2.2]) | (go_at_call 32; refine (squareRoot_spec p x _).mono ?_; rintro e w3 ⟨rfl, hb3⟩; rw [HS.out.2.1, HS.out.2.2]) | (go_at_call 33; refine (isSquare_impl p x _).mono ?_; rintro e w4 ⟨rfl, hb4⟩; rw [HS.out.1, HC.out]) | (go_at_call 34; refine (isSquare_spec p x _).mono ?_; rintro e w5 ⟨rfl, hb5⟩; rw [HS.out.1, HC.out]) | (go_at_call 35; refine (sumOfSquares_impl p x _).mono ?_; rintro e w6 ⟨rfl, hb6⟩; rw [HSS.out.1, HSS.out.2, HC.out]) | (go_at_call 36; refine (sumOfSquares_spec p x _).mono ?_; rintro e w7 ⟨rfl, hb7⟩; rw [HSS.out.1, HSS.out.2, HC.out]) | (go_at_call 25; refine (powerNumber_impl p x ((p - 1) / 2) _).mono ?_; rintro e w8 ⟨rfl, hb8⟩; rw [HPW.out.1, HPW.out.2]) | (go_at_call 29; (with_reducible refine (mod5_any p (sx p x * sx p x + sy p x * sy p x) _ HP.out (by omega) (by omega)).mono ?_); rintro e w9 ⟨rfl, rfl⟩; rw [HXY.out]) | (go_at_call 29; (with_reducible refine (mod5_any p (rt p x * rt p x) _ HP.out (by omega) (by omega)).mono ?_); rintro e w10 ⟨rfl, rfl⟩; rw [HR2.out]))
        go_ret
        exact ⟨rfl, by (have hs_hb8 := hb8.size; have hs_hb7 := hb7.size; have hs_hb6 := hb6.size; have hs_hb5 := hb5.size; have hs_hb4 := hb4.size; have hs_hb3 := hb3.size; have hs_hb2 := hb2.size; have hs_hb1 := hb1.size; (repeat' (first | with_reducible exact Below.refl _ _ | (with_reducible refine Below.setCell ?_ ?_ _) | (with_reducible refine Below.alloc ?_ ?_ _) | (with_reducible refine Below.drew ?_) | (with_reducible refine below_step ?_ ?_ hb8) | (with_reducible refine below_step ?_ ?_ hb7) | (with_reducible refine below_step ?_ ?_ hb6) | (with_reducible refine below_step ?_ ?_ hb5) | (with_reducible refine below_step ?_ ?_ hb4) | (with_reducible refine below_step ?_ ?_ hb3) | (with_reducible refine below_step ?_ ?_ hb2) | (with_reducible refine below_step ?_ ?_ hb1))); all_goals (first | (simp; done) | omega | (simp; omega) | (simp at hs_hb8 hs_hb7 hs_hb6 hs_hb5 hs_hb4 hs_hb3 hs_hb2 hs_hb1 ⊢; omega)))⟩
      · have HE := Lib.hid ((he.1 hr).resolve_left hz)
        clear hc hp hxy hr2 he
        go_wp2_with (first | (go_at_call 31; refine (squareRoot_impl p x _).mono ?_; rintro e w2 ⟨rfl, hb2⟩; rw [HS.out.2.1, HS.out.2.2]) | (go_at_call 32; refine (squareRoot_spec p x _).mono ?_; rintro e w3 ⟨rfl, hb3⟩; rw [HS.out.2.1, HS.out.2.2]) | (go_at_call 33; refine (isSquare_impl p x _).mono ?_; rintro e w4 ⟨rfl, hb4⟩; rw [HS.out.1, HC.out]) | (go_at_call 34; refine (isSquare_spec p x _).mono ?_; rintro e w5 ⟨rfl, hb5⟩; rw [HS.out.1, HC.out]) | (go_at_call 35; refine (sumOfSquares_impl p x _).mono ?_; rintro e w6 ⟨rfl, hb6⟩; rw [HSS.out.1, HSS.out.2, HC.out]) | (go_at_call 36; refine (sumOfSquares_spec p x _).mono ?_; rintro e w7 ⟨rfl, hb7⟩; rw [HSS.out.1, HSS.out.2, HC.out]) | (go_at_call 25; refine (powerNumber_impl p x ((p - 1) / 2) _).mono ?_; rintro e w8 ⟨rfl, hb8⟩; rw [HPW.out.1, HPW.out.2, HE.out]) | (go_at_call 29; (with_reducible refine (mod5_any p (sx p x * sx p x + sy p x * sy p x) _ HP.out (by omega) (by omega)).mono ?_); rintro e w9 ⟨rfl, rfl⟩; rw [HXY.out]) | (go_at_call 29; (with_reducible refine (mod5_any p (rt p x * rt p x) _ HP.out (by omega) (by omega)).mono ?_); rintro e w10 ⟨rfl, rfl⟩; rw [HR2.out]))
        go_ret
        exact ⟨rfl, by (have hs_hb8 := hb8.size; have hs_hb7 := hb7.size; have hs_hb6 := hb6.size; have hs_hb5 := hb5.size; have hs_hb4 := hb4.size; have hs_hb3 := hb3.size; have hs_hb2 := hb2.size; have hs_hb1 := hb1.size; (repeat' (first | with_reducible exact Below.refl _ _ | (with_reducible refine Below.setCell ?_ ?_ _) | (with_reducible refine Below.alloc ?_ ?_ _) | (with_reducible refine Below.drew ?_) | (with_reducible refine below_step ?_ ?_ hb8) | (with_reducible refine below_step ?_ ?_ hb7) | (with_reducible refine below_step ?_ ?_ hb6) | (with_reducible refine below_step ?_ ?_ hb5) | (with_reducible refine below_step ?_ ?_ hb4) | (with_reducible refine below_step ?_ ?_ hb3) | (with_reducible refine below_step ?_ ?_ hb2) | (with_reducible refine below_step ?_ ?_ hb1))); all_goals (first | (simp; done) | omega | (simp; omega) | (simp at hs_hb8 hs_hb7 hs_hb6 hs_hb5 hs_hb4 hs_hb3 hs_hb2 hs_hb1 ⊢; omega)))⟩
    · have hr2 : rt p x < 0 := by omega
      have HS := Lib.hid (sq_none hc hr2)
      have hz : ¬ x = 0 := fun h => hr (he.2 (.inl h))
      have hpw : ¬ pw p x ((p - 1) / 2).toNat = 1 := fun h => hr (he.2 (.inr h))
      obtain ⟨pv, hpv⟩ : ∃ pv, pv = pw p x ((p - 1) / 2).toNat := ⟨_, rfl⟩
      rw [← hpv] at hpw
      have HPV := Lib.hid hpv
      have hzb : (x == 0) = false := by simp [hz]
      have hpb : (pv == 1) = false := by simp [hpw]
      clear hc hp hxy hr he hpv hr2
      go_wp2_with (first | (go_at_call 31; refine (squareRoot_impl p x _).mono ?_; rintro e w2 ⟨rfl, hb2⟩; rw [HS.out.2.1, HS.out.2.2]) | (go_at_call 32; refine (squareRoot_spec p x _).mono ?_; rintro e w3 ⟨rfl, hb3⟩; rw [HS.out.2.1, HS.out.2.2]) | (go_at_call 33; refine (isSquare_impl p x _).mono ?_; rintro e w4 ⟨rfl, hb4⟩; rw [HS.out.1, HC.out]) | (go_at_call 34; refine (isSquare_spec p x _).mono ?_; rintro e w5 ⟨rfl, hb5⟩; rw [HS.out.1, HC.out]) | (go_at_call 35; refine (sumOfSquares_impl p x _).mono ?_; rintro e w6 ⟨rfl, hb6⟩; rw [HSS.out.1, HSS.out.2, HC.out]) | (go_at_call 36; refine (sumOfSquares_spec p x _).mono ?_; rintro e w7 ⟨rfl, hb7⟩; rw [HSS.out.1, HSS.out.2, HC.out]) | (go_at_call 25; refine (powerNumber_impl p x ((p - 1) / 2) _).mono ?_; rintro e w8 ⟨rfl, hb8⟩; rw [HPW.out.1, HPW.out.2, ← HPV.out]) | (go_at_call 29; (with_reducible refine (mod5_any p (sx p x * sx p x + sy p x * sy p x) _ HP.out (by omega) (by omega)).mono ?_); rintro e w9 ⟨rfl, rfl⟩; rw [HXY.out]))
      go_ret
      exact ⟨rfl, by (have hs_hb8 := hb8.size; have hs_hb7 := hb7.size; have hs_hb6 := hb6.size; have hs_hb5 := hb5.size; have hs_hb4 := hb4.size; have hs_hb3 := hb3.size; have hs_hb2 := hb2.size; have hs_hb1 := hb1.size; (repeat' (first | with_reducible exact Below.refl _ _ | (with_reducible refine Below.setCell ?_ ?_ _) | (with_reducible refine Below.alloc ?_ ?_ _) | (with_reducible refine Below.drew ?_) | (with_reducible refine below_step ?_ ?_ hb8) | (with_reducible refine below_step ?_ ?_ hb7) | (with_reducible refine below_step ?_ ?_ hb6) | (with_reducible refine below_step ?_ ?_ hb5) | (with_reducible refine below_step ?_ ?_ hb4) | (with_reducible refine below_step ?_ ?_ hb3) | (with_reducible refine below_step ?_ ?_ hb2) | (with_reducible refine below_step ?_ ?_ hb1))); all_goals (first | (simp; done) | omega | (simp; omega) | (simp at hs_hb8 hs_hb7 hs_hb6 hs_hb5 hs_hb4 hs_hb3 hs_hb2 hs_hb1 ⊢; omega)))⟩
  all_goals
    have HS := Lib.hid (sq_no hc (by decide))
    have HSS := Lib.hid (ss_no hc (by decide))
    have HC := Lib.hid hc
    clear hc hp
    try clear hn
    go_wp2_with (first | (go_at_call 31; refine (squareRoot_impl p x _).mono ?_; rintro e w2 ⟨rfl, hb2⟩; rw [HS.out.2.1, HS.out.2.2]) | (go_at_call 32; refine (squareRoot_spec p x _).mono ?_; rintro e w3 ⟨rfl, hb3⟩; rw [HS.out.2.1, HS.out.2.2]) | (go_at_call 33; refine (isSquare_impl p x _).mono ?_; rintro e w4 ⟨rfl, hb4⟩; rw [HS.out.1, HC.out]) | (go_at_call 34; refine (isSquare_spec p x _).mono ?_; rintro e w5 ⟨rfl, hb5⟩; rw [HS.out.1, HC.out]) | (go_at_call 35; refine (sumOfSquares_impl p x _).mono ?_; rintro e w6 ⟨rfl, hb6⟩; rw [HSS.out.1, HSS.out.2, HC.out]) | (go_at_call 36; refine (sumOfSquares_spec p x _).mono ?_; rintro e w7 ⟨rfl, hb7⟩; rw [HSS.out.1, HSS.out.2, HC.out]))
    go_ret
    exact ⟨rfl, by (have hs_hb7 := hb7.size; have hs_hb6 := hb6.size; have hs_hb5 := hb5.size; have hs_hb4 := hb4.size; have hs_hb3 := hb3.size; have hs_hb2 := hb2.size; have hs_hb1 := hb1.size; (repeat' (first | with_reducible exact Below.refl _ _ | (with_reducible refine Below.setCell ?_ ?_ _) | (with_reducible refine Below.alloc ?_ ?_ _) | (with_reducible refine Below.drew ?_) | (with_reducible refine below_step ?_ ?_ hb7) | (with_reducible refine below_step ?_ ?_ hb6) | (with_reducible refine below_step ?_ ?_ hb5) | (with_reducible refine below_step ?_ ?_ hb4) | (with_reducible refine below_step ?_ ?_ hb3) | (with_reducible refine below_step ?_ ?_ hb2) | (with_reducible refine below_step ?_ ?_ hb1))); all_goals (first | (simp; done) | omega | (simp; omega) | (simp at hs_hb7 hs_hb6 hs_hb5 hs_hb4 hs_hb3 hs_hb2 hs_hb1 ⊢; omega)))⟩

set_option maxRecDepth 100000 in
theorem law_squares (a : Option Addr) (len cap : Nat) (zs : List Int) (w : World) (hb : Code8 w a len zs) (hm : len ≤ 9223372036854775807) :
    Calls Try.prog 4 #[.slice a len cap] w fun e w' => e = .returned (.bool true) ∧ Below w.heap.size w w' := by
  by_cases hl : len ≤ 4096
  · exact law_squares_small a len cap zs w hb hl
  · clear hb
    go_enter Try.func4, Try.ntmps4
    go_wp2_with (go_at_call 14; refine (big_yes a len cap _ (by omega) hm).mono ?_; rintro e w' ⟨rfl, rfl⟩)
    go_ret
    exact ⟨rfl, Below.refl _ _⟩

/-- What the frame knows of a slice of bytes. -/
theorem code8_of {w : World} {a : Option Addr} {len cap : Nat} {zs : List Int}
    (h : (a = none ∧ len = 0 ∧ cap = 0 ∧ zs = []) ∨ ∃ x, a = some x ∧ len ≤ cap ∧ cap ≤ maxLen ∧ zs.length = cap ∧ (∀ i, i < zs.length → w.cell? (x.add i) = some (.int .u8 (zs.getD i 0))) ∧ ∀ n ∈ zs, (Lit.int .u8 n).wf = true) :
    Code8 w a len zs ∧ len ≤ 9223372036854775807 := by
  rcases h with ⟨rfl, rfl, rfl, rfl⟩ | ⟨x, rfl, h1, h2, h3, h4, h5⟩
  · exact ⟨.inl rfl, by omega⟩
  · unfold maxLen at h2
    refine ⟨?_, by omega⟩
    by_cases h0 : len = 0
    · exact .inl h0
    · obtain ⟨xb, off, rfl, hc⟩ := ints_at h4 (by omega)
      have hlt : xb < w.heap.size := World.block_lt_of_cell? w ⟨xb, off + 0, none⟩ (hc 0 (by omega))
      refine .inr ⟨xb, off, rfl, hlt, hlt, fun i hi => ⟨?_, hc i (by omega)⟩⟩
      have hm : zs.getD i 0 ∈ zs := by rw [getD_at (by omega : i < zs.length)]; exact List.getElem_mem _
      have hw := h5 _ hm
      generalize zs.getD i 0 = n at hw
      simp [Lit.wf, IntKind.min, IntKind.max, IntKind.signed, IntKind.bits] at hw
      omega

end Go.Proofs.Ytgkifpampmmhoaa
