/-
  What the program's and the model's checks of lists of numbers, matrices and lists of vectors return.
  Conditions: they are nil or rows of known cells.
  Checks of lists of vectors under one bound on all numbers.
  Conditions: they are nil or rows of known cells, of at most 1048576 numbers.
  What the program's checks of matrices return, and its new matrices of zeros.
  Conditions: the matrices are nil or rows of known cells.
  Sizes of matrices.
  No conditions.
-/
import Derived.Test.YtkibkkdeaojjoabGreatQg11
import Derived.Test.YtkibkkdeaojjoabGreatQg5
import Derived.Test.YtkibkkdeaojjoabGreatQg7
import Derived.RegionTactic
import Derived.ChangeAlike
import Derived.Test.YtkibkkdeaojjoabGreatQg8
import Derived.Test.YtkibkkdeaojjoabGreatQg10
namespace Go.Proofs.YtkibkkdeaojjoabGreat
open Go.RowKit Go.ChangeShapes Go.WideShapes
set_option linter.unusedVariables false

theorem isM_nprime {p : Int} {n : Nat} {m : List (List Int)} (h : prm p = false) : isL n p m = false := not_isL fun k => by rw [k.prime] at h; cases h
theorem isM_nlen {p : Int} {n : Nat} {m : List (List Int)} (h : ¬ (n ≤ m.length ∧ m.length ≤ 16)) : isL n p m = false := not_isL fun k => h ⟨k.lo, k.hi⟩
theorem isM_nrow {p : Int} {n : Nat} {m : List (List Int)} {i : Nat} (hi : i < m.length) (h : ¬ (1 ≤ (rw' m i).length ∧ (rw' m i).length ≤ 16)) : isL n p m = false := not_isL fun k => h ⟨k.c0 i hi, k.c1 i hi⟩
theorem isM_ncol {p : Int} {n : Nat} {m : List (List Int)} {i : Nat} (hi : i < m.length) (h : ¬ (rw' m i).length = (rw' m 0).length) : isL n p m = false := not_isL fun k => h (k.len i hi)
theorem isM_nall {p : Int} {n : Nat} {m : List (List Int)} {i : Nat} (hi : i < m.length) (h : (rw' m i).all (inr p) = false) : isL n p m = false := not_isL fun k => by rw [k.all i hi] at h; cases h
/-- What has been seen of the first i rows. -/
def Seen (p : Int) (m : List (List Int)) (i : Nat) : Prop := ∀ i', i' < i → (rw' m i').length = (rw' m 0).length ∧ (1 ≤ (rw' m i').length ∧ (rw' m i').length ≤ 16) ∧ (rw' m i').all (inr p) = true
theorem Seen.zero (p : Int) (m : List (List Int)) : Seen p m 0 := fun i' h => by omega
theorem Seen.next {p : Int} {m : List (List Int)} {i : Nat} (h : Seen p m i) (h1 : (rw' m i).length = (rw' m 0).length) (h2 : 1 ≤ (rw' m i).length ∧ (rw' m i).length ≤ 16) (h3 : (rw' m i).all (inr p) = true) : Seen p m (i + 1) := by
  intro i' hi'
  by_cases e : i' = i
  · subst e; exact ⟨h1, h2, h3⟩
  · exact h i' (by omega)
theorem Seen.yes {p : Int} {n : Nat} {m : List (List Int)} {i : Nat} (h : Seen p m i) (hi : m.length ≤ i) (hp : prm p = true) (h1 : n ≤ m.length ∧ m.length ≤ 16) : isL n p m = true :=
  isL_iff.2 ⟨hp, h1.1, h1.2, fun j hj => (h j (by omega)).1, fun j hj => (h j (by omega)).2.1.1, fun j hj => (h j (by omega)).2.1.2, fun j hj => (h j (by omega)).2.2⟩
theorem neq_spell {a b : Nat} (h : ¬ a = b) : ((a : Int) == (b : Int)) = false ∧ ((a : Int) != (b : Int)) = true := by
  have : ¬ (a : Int) = (b : Int) := by omega
  simp [this]
set_option maxHeartbeats 1600000 in
theorem l02Is_any (p : Int) (a : Option Addr) (m : List (List Int)) (cap lo tp : Nat) (w : World) (hm : MatIn lo tp w a m) (h1 : m.length ≤ 9223372036854775807) (h2 : ∀ i, i < m.length → (rw' m i).length ≤ 9223372036854775807) :
    Calls Tryz.prog 59 #[.int .i64 p, .slice a m.length cap] w fun e w' => e = .returned (.bool (isM p m)) ∧ Quiet w w' := by
  have HM := Lib.hid hm
  have HL := Lib.hid h2
  clear hm h2
  by_cases hp : prm p = true
  · have HP := Lib.hid hp
    clear hp
    by_cases hn : 1 ≤ m.length ∧ m.length ≤ 16
    · obtain ⟨hn1, hn2⟩ := hn
      obtain ⟨b, o, r0, c0, ha, _, _, hr0, _⟩ := HM.out.row (i := 0) (by omega)
      subst ha
      rw [Nat.add_zero] at hr0
      have hl0 := HL.out 0 (by omega)
      by_cases hc : 1 ≤ (rw' m 0).length ∧ (rw' m 0).length ≤ 16
      · have HC0 := Lib.hid hc
        obtain ⟨hc1, hc2⟩ := hc
        go_enter Tryz.func59, Tryz.ntmps59
        go_wp2_with (go_at_call 83; refine (l01Prime_any _ _).mono ?_; rintro e w' ⟨rfl, rfl⟩; rw [HP.out])
        go_loopw [5] (fun t wr => ∃ i : Nat, i ≤ m.length ∧ t = .int .i64 i ∧ Seen p m i ∧ Quiet w wr) (fun t _ => m.length - (intOf t).toNat)
        case atStart => exact ⟨0, Nat.zero_le _, rfl, Seen.zero _ _, Quiet.refl _⟩
        case round =>
          obtain ⟨i, hi, rfl, hs, hq⟩ := hrel
          have HQ := Lib.hid hq
          have HS := Lib.hid hs
          clear hs
          have hr0 := (hq.cell _).trans hr0
          by_cases hlt : i < m.length
          · obtain ⟨b', o', r, c, ha, _, _, hr, hrow⟩ := (HM.out.same (hq.same lo tp)).row hlt
            cases ha
            clear hq
            have HR := Lib.hid hrow
            clear hrow
            by_cases hcol : (rw' m i).length = (rw' m 0).length
            · have HCol := Lib.hid hcol
              clear hcol
              rw [← HCol.out] at hr0 hl0 hc1 hc2
              by_cases hall : (rw' m i).all (inr p) = true
              · have HAll := Lib.hid hall
                clear hall
                go_wp2
                go_quiet ((go_at_call 85; refine Calls.quiet_of_same ((numsRow _ _ _ _ lo tp _ HP.out (HR.out.same (((Quiet.refl _).next _).same _ _)) (by omega)).mono fun _ _ h => ⟨h.1.trans (by rw [HAll.out]), h.2.symm⟩)))
                go_wp2
                go_roundw
                case rel => exact ⟨i + 1, by omega, by go_num, HS.out.next HCol.out (by rw [HCol.out]; exact HC0.out) HAll.out, HQ.out.next _⟩
                case measure => simp [intOf]; omega
              · have HAll : Hid ((rw' m i).all (inr p) = false) := by show (rw' m i).all (inr p) = false; simpa using hall
                have HF : Hid (isM p m = false) := isM_nall hlt HAll.out
                clear hall
                go_wp2
                go_quiet ((go_at_call 85; refine Calls.quiet_of_same ((numsRow _ _ _ _ lo tp _ HP.out (HR.out.same (((Quiet.refl _).next _).same _ _)) (by omega)).mono fun _ _ h => ⟨h.1.trans (by rw [HAll.out]), h.2.symm⟩)))
                go_wp2
                go_ret
                exact ⟨by rw [HF.out]; rfl, HQ.out.next _⟩
            · have HF : Hid (isM p m = false) := isM_ncol hlt hcol
              have hln := HL.out i hlt
              obtain ⟨e1, e2⟩ := neq_spell hcol
              clear hcol
              go_wp2
              go_quiet (fail)
              go_wp2
              go_ret
              exact ⟨by rw [HF.out]; rfl, HQ.out.next _⟩
          · clear hq
            have HF : Hid (isM p m = true) := HS.out.yes (by omega) HP.out ⟨hn1, hn2⟩
            go_wp2
            go_ret
            exact ⟨by rw [HF.out]; rfl, HQ.out⟩
      · have HF : Hid (isM p m = false) := isM_nrow (i := 0) (by omega) hc
        obtain ⟨l0, hl⟩ : ∃ l0, l0 = (rw' m 0).length := ⟨_, rfl⟩
        rw [← hl] at hr0 hl0 hc
        clear hl
        by_cases hz : l0 < 1
        · clear hc
          go_enter Tryz.func59, Tryz.ntmps59
          go_wp2_with (go_at_call 83; refine (l01Prime_any _ _).mono ?_; rintro e w' ⟨rfl, rfl⟩; rw [HP.out])
          go_ret
          exact ⟨by rw [HF.out]; rfl, Quiet.refl _⟩
        · have hz2 : 16 < l0 := by omega
          clear hc
          go_enter Tryz.func59, Tryz.ntmps59
          go_wp2_with (go_at_call 83; refine (l01Prime_any _ _).mono ?_; rintro e w' ⟨rfl, rfl⟩; rw [HP.out])
          go_ret
          exact ⟨by rw [HF.out]; rfl, Quiet.refl _⟩
    · have HF : Hid (isM p m = false) := isM_nlen hn
      by_cases hz : m.length < 1
      · clear hn
        go_enter Tryz.func59, Tryz.ntmps59
        go_wp2_with (go_at_call 83; refine (l01Prime_any _ _).mono ?_; rintro e w' ⟨rfl, rfl⟩; rw [HP.out])
        go_ret
        exact ⟨by rw [HF.out]; rfl, Quiet.refl _⟩
      · have hz2 : 16 < m.length := by omega
        clear hn
        go_enter Tryz.func59, Tryz.ntmps59
        go_wp2_with (go_at_call 83; refine (l01Prime_any _ _).mono ?_; rintro e w' ⟨rfl, rfl⟩; rw [HP.out])
        go_ret
        exact ⟨by rw [HF.out]; rfl, Quiet.refl _⟩
  · have hp' : prm p = false := by simpa using hp
    have HP := Lib.hid hp'
    have HF : Hid (isM p m = false) := isM_nprime HP.out
    clear hp hp'
    go_enter Tryz.func59, Tryz.ntmps59
    go_wp2_with (go_at_call 83; refine (l01Prime_any _ _).mono ?_; rintro e w' ⟨rfl, rfl⟩; rw [HP.out])
    go_ret
    exact ⟨by rw [HF.out]; rfl, Quiet.refl _⟩

set_option maxHeartbeats 1600000 in
theorem isRows_any (p : Int) (a : Option Addr) (m : List (List Int)) (n cap lo tp : Nat) (w : World) (hn1 : n ≤ 1) (hm : MatIn lo tp w a m) (h1 : m.length ≤ 9223372036854775807) (h2 : ∀ i, i < m.length → (rw' m i).length ≤ 9223372036854775807) :
    Calls Tryz.prog 105 #[.int .i64 p, .slice a m.length cap, .int .i64 n] w fun e w' => e = .returned (.bool (isL n p m)) ∧ w = w' := by
  have HM := Lib.hid hm
  have HL := Lib.hid h2
  clear hm h2
  by_cases hp : prm p = true
  · have HP := Lib.hid hp
    clear hp
    by_cases hn : n ≤ m.length ∧ m.length ≤ 16
    · have HN := Lib.hid hn
      have hd1 : decide (m.length < n) = false := by simp; omega
      have hn2 := hn.2
      clear hn
      go_enter Tryz.func105, Tryz.ntmps105
      go_wp2_with (go_at_call 123; refine (isPrime_any _ _).mono ?_; rintro e w' ⟨rfl, rfl⟩; rw [HP.out])
      clear hd1
      go_loop [25] (fun t => ∃ i : Nat, i ≤ m.length ∧ t = .int .i64 i ∧ Seen p m i) (fun t => m.length - (intOf t).toNat)
      case atStart => exact ⟨0, Nat.zero_le _, rfl, Seen.zero _ _⟩
      case round =>
        obtain ⟨i, hi, rfl, hs⟩ := hrel
        have HS := Lib.hid hs
        clear hs
        by_cases hlt : i < m.length
        · obtain ⟨b, o, r, c, ha, _, _, hr, hrow⟩ := HM.out.row hlt
          subst ha
          obtain ⟨b', o', r0, c0, ha, _, _, hr0, _⟩ := HM.out.row (i := 0) (by omega)
          cases ha
          rw [Nat.add_zero] at hr0
          have HR := Lib.hid hrow
          have hln := HL.out i hlt
          have hl0 := HL.out 0 (by omega)
          clear hrow
          by_cases hc : 1 ≤ (rw' m i).length ∧ (rw' m i).length ≤ 16
          · have HC := Lib.hid hc
            obtain ⟨hc1, hc2⟩ := hc
            by_cases hcol : (rw' m i).length = (rw' m 0).length
            · have HCol := Lib.hid hcol
              clear hcol
              rw [← HCol.out] at hr0 hl0
              by_cases hall : (rw' m i).all (inr p) = true
              · have HAll := Lib.hid (code_ok HP.out hall)
                have HA2 := Lib.hid hall
                clear hall
                go_wp2_with (go_at_call 122; (with_reducible refine (checkRow _ _ _ _ _ _ _ HP.out HR.out (by omega)).mono ?_); rintro e w' ⟨rfl, rfl⟩; rw [HAll.out])
                go_round
                case rel => exact ⟨i + 1, by omega, by go_num, HS.out.next HCol.out HC.out HA2.out⟩
                case measure => simp [intOf]; omega
              · have hall' : (rw' m i).all (inr p) = false := by simpa using hall
                have HAll := Lib.hid (code_bad HP.out hall')
                have HF := Lib.hid (isM_nall (n := n) hlt hall')
                clear hall hall'
                go_wp2_with (go_at_call 122; (with_reducible refine (checkRow _ _ _ _ _ _ _ HP.out HR.out (by omega)).mono ?_); rintro e w' ⟨rfl, rfl⟩; rw [HAll.out])
                go_ret
                exact ⟨by rw [HF.out]; rfl, rfl⟩
            · have HF := Lib.hid (isM_ncol (n := n) (p := p) hlt hcol)
              obtain ⟨e1, e2⟩ := neq_spell hcol
              clear hcol
              go_wp2
              go_ret
              exact ⟨by rw [HF.out]; rfl, rfl⟩
          · have HF := Lib.hid (isM_nrow (n := n) (p := p) hlt hc)
            by_cases hz : (rw' m i).length < 1
            · clear hc
              go_wp2
              go_ret
              exact ⟨by rw [HF.out]; rfl, rfl⟩
            · have hz2 : 16 < (rw' m i).length := by omega
              clear hc
              go_wp2
              go_ret
              exact ⟨by rw [HF.out]; rfl, rfl⟩
        · have HF := Lib.hid (HS.out.yes (n := n) (by omega) HP.out HN.out)
          go_wp2
          go_ret
          exact ⟨by rw [HF.out]; rfl, rfl⟩
    · have HF := Lib.hid (isM_nlen (p := p) hn)
      by_cases hz : m.length < n
      · have hd1 : decide (m.length < n) = true := by simp; omega
        clear hn
        go_enter Tryz.func105, Tryz.ntmps105
        go_wp2_with (go_at_call 123; refine (isPrime_any _ _).mono ?_; rintro e w' ⟨rfl, rfl⟩; rw [HP.out])
        go_ret
        exact ⟨by rw [HF.out]; rfl, rfl⟩
      · have hd1 : decide (m.length < n) = false := by simp; omega
        have hz2 : 16 < m.length := by omega
        clear hn
        go_enter Tryz.func105, Tryz.ntmps105
        go_wp2_with (go_at_call 123; refine (isPrime_any _ _).mono ?_; rintro e w' ⟨rfl, rfl⟩; rw [HP.out])
        go_ret
        exact ⟨by rw [HF.out]; rfl, rfl⟩
  · have hp' : prm p = false := by simpa using hp
    have HP := Lib.hid hp'
    have HF := Lib.hid (isM_nprime (n := n) (m := m) hp')
    clear hp hp'
    go_enter Tryz.func105, Tryz.ntmps105
    go_wp2_with (go_at_call 123; refine (isPrime_any _ _).mono ?_; rintro e w' ⟨rfl, rfl⟩; rw [HP.out])
    go_ret
    exact ⟨by rw [HF.out]; rfl, rfl⟩

end Go.Proofs.YtkibkkdeaojjoabGreat

namespace Go.Proofs.YtkibkkdeaojjoabGreat
open Go.RowKit
set_option linter.unusedVariables false

theorem len_of {m : List (List Int)} (h : m.length + tot m m.length ≤ 1048576) : m.length ≤ 9223372036854775807 ∧ ∀ i, i < m.length → (rw' m i).length ≤ 9223372036854775807 :=
  ⟨by omega, fun i hi => by have := tot_row (m := m) hi; omega⟩

theorem isRows_one (p : Int) (a : Option Addr) (m : List (List Int)) (cap lo tp : Nat) (w : World) (hm : MatIn lo tp w a m) (hs : m.length + tot m m.length ≤ 1048576) :
    Calls Tryz.prog 105 #[.int .i64 p, .slice a m.length cap, .int .i64 1] w fun e w' => e = .returned (.bool (isM p m)) ∧ w = w' :=
  isRows_any p a m 1 cap lo tp w (by omega) hm (len_of hs).1 (len_of hs).2
end Go.Proofs.YtkibkkdeaojjoabGreat

namespace Go.Proofs.YtkibkkdeaojjoabGreat
open Go.RowKit
set_option linter.unusedVariables false

set_option maxHeartbeats 800000 in
theorem isMatrix_q (p : Int) (a : Option Addr) (m : List (List Int)) (cap lo tp : Nat) (w : World) (hm : MatIn lo tp w a m) (hs : m.length + tot m m.length ≤ 1048576) :
    Calls Tryz.prog 87 #[.int .i64 p, .slice a m.length cap] w fun e w' => e = .returned (.bool (isM p m)) ∧ w = w' := by
  have HM := Lib.hid hm
  have HS := Lib.hid hs
  clear hm hs
  go_enter Tryz.func87, Tryz.ntmps87
  go_wp2_with (go_at_call 105; (with_reducible refine (isRows_one _ _ _ _ lo tp _ HM.out HS.out).mono ?_); rintro e w1 ⟨rfl, rfl⟩)
  go_ret
  exact ⟨rfl, rfl⟩

/-- The code of one matrix, of two. -/
def chk1 (p : Int) (m : List (List Int)) : Int := if isM p m = true then 0 else 1
theorem chk1_yes {p : Int} {m : List (List Int)} (h : isM p m = true) : chk1 p m = 0 := if_pos h
theorem chk1_no {p : Int} {m : List (List Int)} (h : isM p m = false) : chk1 p m = 1 := if_neg (by simp [h])
set_option maxHeartbeats 800000 in
theorem checkOne (p : Int) (b : Nat) (a : Option Addr) (m : List (List Int)) (cap c lo tp : Nat) (w : World) (hb : w.cell? ⟨b, 0, none⟩ = some (.slice a m.length cap)) (hm : MatIn lo tp w a m) (hs : m.length + tot m m.length ≤ 1048576) :
    Calls Tryz.prog 109 #[.int .i64 p, .slice (some ⟨b, 0, none⟩) 1 c] w fun e w' => e = .returned (.int .i64 (chk1 p m)) ∧ w = w' := by
  have HM := Lib.hid hm
  have HS := Lib.hid hs
  clear hm hs
  by_cases h : isM p m = true
  · have H := Lib.hid h
    clear h
    go_enter Tryz.func109, Tryz.ntmps109
    go_wp2
    go_loop [9] (fun t => ∃ i : Nat, i ≤ 1 ∧ t = .int .i64 i) (fun t => 1 - (intOf t).toNat)
    case atStart => exact ⟨0, Nat.zero_le _, rfl⟩
    case round =>
      obtain ⟨i, hi, rfl⟩ := hrel
      by_cases hlt : i < 1
      · obtain rfl : 0 = i := by omega
        go_wp2_with (go_at_call 87; (with_reducible refine (isMatrix_q _ _ _ _ lo tp _ HM.out HS.out).mono ?_); rintro e w1 ⟨rfl, rfl⟩; rw [H.out])
        go_round
        case rel => exact ⟨1, by omega, by go_num⟩
        case measure => simp [intOf]
      · go_wp2
        go_ret
        exact ⟨by rw [chk1_yes H.out]; rfl, rfl⟩
  · have H : Hid (isM p m = false) := by show isM p m = false; simpa using h
    clear h
    go_enter Tryz.func109, Tryz.ntmps109
    go_wp2
    go_loop [9] (fun t => t = .int .i64 0) (fun t => 0)
    case atStart => exact rfl
    case round =>
      subst hrel
      go_wp2_with (go_at_call 87; (with_reducible refine (isMatrix_q _ _ _ _ lo tp _ HM.out HS.out).mono ?_); rintro e w1 ⟨rfl, rfl⟩; rw [H.out])
      go_ret
      exact ⟨by rw [chk1_no H.out]; rfl, rfl⟩

theorem checkOne_new (p : Int) (a : Option Addr) (m : List (List Int)) (cap lo tp : Nat) (w : World) (t : TypeId) (hm : MatIn lo tp w a m) (ht : tp ≤ w.heap.size) (hs : m.length + tot m m.length ≤ 1048576) :
    Calls Tryz.prog 109 #[.int .i64 p, .slice (some ⟨w.heap.size, 0, none⟩) 1 1] (w.alloc (.cells #[.slice a m.length cap] t)) fun e w' => e = .returned (.int .i64 (chk1 p m)) ∧ (w.alloc (.cells #[.slice a m.length cap] t)) = w' :=
  checkOne p w.heap.size a m cap 1 lo tp _ (new_one w _ t) (hm.below ((Below.refl _ _).alloc (Nat.le_refl _) _) ht) hs
/-- The code of a square matrix. -/
def sqC (p : Int) (m : List (List Int)) : Int := if isM p m = true then (if m.length = (rw' m 0).length then 0 else 2) else 1

set_option maxHeartbeats 800000 in
theorem checkSquare_any (p : Int) (a : Option Addr) (m : List (List Int)) (cap lo tp : Nat) (w : World) (hm : MatIn lo tp w a m) (ht : tp ≤ w.heap.size) (hs : m.length + tot m m.length ≤ 1048576) :
    Calls Tryz.prog 91 #[.int .i64 p, .slice a m.length cap] w fun e w' => e = .returned (.int .i64 (sqC p m)) ∧ Below w.heap.size w w' := by
  have HM := Lib.hid hm
  have HS := Lib.hid hs
  by_cases h : isM p m = true
  · have H : Hid (chk1 p m = 0) := chk1_yes h
    have h0 := (isL_iff.1 h).lo
    obtain ⟨b, o, r0, c0, ha, _, hb, hr0, _⟩ := hm.row (i := 0) (by omega)
    subst ha
    rw [Nat.add_zero] at hr0
    have hb' : b < w.heap.size := Nat.lt_of_lt_of_le hb ht
    have hl := tot_row (m := m) (i := 0) (by omega)
    have HI := Lib.hid h
    by_cases hq : m.length = (rw' m 0).length
    · have HQ := Lib.hid hq
      rw [← hq] at hr0
      clear hm hs h hq hl
      go_enter Tryz.func91, Tryz.ntmps91
      go_wp2_with (go_at_call 109; (with_reducible refine (checkOne_new p _ m cap lo tp w _ HM.out ht HS.out).mono ?_); rintro e w1 ⟨rfl, rfl⟩; rw [H.out])
      go_ret
      exact ⟨by unfold sqC; rw [if_pos HI.out, if_pos HQ.out]; rfl, (Below.refl _ _).alloc (Nat.le_refl _) _⟩
    · have HQ : Hid (¬ m.length = (rw' m 0).length) := hq
      obtain ⟨e1, e2⟩ := neq_spell hq
      clear hm hs h hq hl
      go_enter Tryz.func91, Tryz.ntmps91
      go_wp2_with (go_at_call 109; (with_reducible refine (checkOne_new p _ m cap lo tp w _ HM.out ht HS.out).mono ?_); rintro e w1 ⟨rfl, rfl⟩; rw [H.out])
      go_ret
      exact ⟨by unfold sqC; rw [if_pos HI.out, if_neg HQ.out]; rfl, (Below.refl _ _).alloc (Nat.le_refl _) _⟩
  · have H : Hid (chk1 p m = 1) := chk1_no (by simpa using h)
    have HI : Hid (¬ isM p m = true) := h
    clear hm hs h
    go_enter Tryz.func91, Tryz.ntmps91
    go_wp2_with (go_at_call 109; (with_reducible refine (checkOne_new p _ m cap lo tp w _ HM.out ht HS.out).mono ?_); rintro e w1 ⟨rfl, rfl⟩; rw [H.out])
    go_ret
    exact ⟨by unfold sqC; rw [if_neg HI.out]; rfl, (Below.refl _ _).alloc (Nat.le_refl _) _⟩

end Go.Proofs.YtkibkkdeaojjoabGreat

namespace Go.Proofs.YtkibkkdeaojjoabGreat
set_option linter.unusedVariables false

theorem rect_of {n : Nat} {p : Int} {m : List (List Int)} (h : Lst n p m) : Rect p m (rw' m 0).length where
  rows := by have := h.hi; omega
  cols := by
    by_cases h0 : 0 < m.length
    · have := h.c1 0 h0; omega
    · have e : m = [] := List.eq_nil_of_length_eq_zero (by omega)
      rw [e]; simp [rw']
  len := h.len
  num i hi := Nums.of (h.all i hi)

theorem tot_const {m : List (List Int)} {c : Nat} (h : ∀ i, i < m.length → (rw' m i).length = c) : ∀ {k : Nat}, k ≤ m.length → tot m k = k * c := by
  intro k
  induction k with
  | zero => intro _; simp [tot]
  | succ k ih => intro hk; simp only [tot]; rw [ih (by omega), h k (by omega), Nat.succ_mul]
end Go.Proofs.YtkibkkdeaojjoabGreat
