/-
  What the program's checks of matrices return, and its new matrices of zeros.
  Conditions: the matrices are nil or rows of known cells.
-/
import Derived.Test.YtihanbfbgiiakaaIsR
import Derived.Test.YtihanbfbgiiakaaApp
import Derived.RegionTactic
import Derived.ChangeAlike
namespace Go.Proofs.Ytihanbfbgiiakaa
open Go.RowKit
set_option linter.unusedVariables false

set_option maxHeartbeats 800000 in
theorem isMatrix_q (p : Int) (a : Option Addr) (m : List (List Int)) (cap lo tp : Nat) (w : World) (hm : MatIn lo tp w a m) (hs : m.length + tot m m.length ≤ 1048576) :
    Calls Try.prog 99 #[.int .i64 p, .slice a m.length cap] w fun e w' => e = .returned (.bool (isM p m)) ∧ w = w' := by
  have HM := Lib.hid hm
  have HS := Lib.hid hs
  clear hm hs
  go_enter Try.func99, Try.ntmps99
  go_wp2_with (go_at_call 68; (with_reducible refine (isRows_one _ _ _ _ lo tp _ HM.out HS.out).mono ?_); rintro e w1 ⟨rfl, rfl⟩)
  go_ret
  exact ⟨rfl, rfl⟩

/-- The code of one matrix, of two. -/
def chk1 (p : Int) (m : List (List Int)) : Int := if isM p m = true then 0 else 1
def chk2 (p : Int) (m m' : List (List Int)) : Int := if isM p m = true ∧ isM p m' = true then 0 else 1
theorem chk1_yes {p : Int} {m : List (List Int)} (h : isM p m = true) : chk1 p m = 0 := if_pos h
theorem chk1_no {p : Int} {m : List (List Int)} (h : isM p m = false) : chk1 p m = 1 := if_neg (by simp [h])
theorem chk2_yes {p : Int} {m m' : List (List Int)} (h : isM p m = true) (h' : isM p m' = true) : chk2 p m m' = 0 := if_pos ⟨h, h'⟩
theorem chk2_no {p : Int} {m m' : List (List Int)} (h : isM p m = false ∨ isM p m' = false) : chk2 p m m' = 1 := if_neg (fun e => by rcases h with h | h <;> simp [h] at e)

set_option maxHeartbeats 800000 in
theorem checkOne (p : Int) (b : Nat) (a : Option Addr) (m : List (List Int)) (cap c lo tp : Nat) (w : World) (hb : w.cell? ⟨b, 0, none⟩ = some (.slice a m.length cap)) (hm : MatIn lo tp w a m) (hs : m.length + tot m m.length ≤ 1048576) :
    Calls Try.prog 59 #[.int .i64 p, .slice (some ⟨b, 0, none⟩) 1 c] w fun e w' => e = .returned (.int .i64 (chk1 p m)) ∧ w = w' := by
  have HM := Lib.hid hm
  have HS := Lib.hid hs
  clear hm hs
  by_cases h : isM p m = true
  · have H := Lib.hid h
    clear h
    go_enter Try.func59, Try.ntmps59
    go_wp2
    go_loop [9] (fun t => ∃ i : Nat, i ≤ 1 ∧ t = .int .i64 i) (fun t => 1 - (intOf t).toNat)
    case atStart => exact ⟨0, Nat.zero_le _, rfl⟩
    case round =>
      obtain ⟨i, hi, rfl⟩ := hrel
      by_cases hlt : i < 1
      · obtain rfl : 0 = i := by omega
        go_wp2_with (go_at_call 99; (with_reducible refine (isMatrix_q _ _ _ _ lo tp _ HM.out HS.out).mono ?_); rintro e w1 ⟨rfl, rfl⟩; rw [H.out])
        go_round
        case rel => exact ⟨1, by omega, by go_num⟩
        case measure => simp [intOf]
      · go_wp2
        go_ret
        exact ⟨by rw [chk1_yes H.out]; rfl, rfl⟩
  · have H : Hid (isM p m = false) := by show isM p m = false; simpa using h
    clear h
    go_enter Try.func59, Try.ntmps59
    go_wp2
    go_loop [9] (fun t => t = .int .i64 0) (fun t => 0)
    case atStart => exact rfl
    case round =>
      subst hrel
      go_wp2_with (go_at_call 99; (with_reducible refine (isMatrix_q _ _ _ _ lo tp _ HM.out HS.out).mono ?_); rintro e w1 ⟨rfl, rfl⟩; rw [H.out])
      go_ret
      exact ⟨by rw [chk1_no H.out]; rfl, rfl⟩

set_option maxHeartbeats 1600000 in
theorem checkTwo (p : Int) (b : Nat) (a a' : Option Addr) (m m' : List (List Int)) (cap cap' c lo tp lo' tp' : Nat) (w : World) (hb : w.cell? ⟨b, 0, none⟩ = some (.slice a m.length cap)) (hb' : w.cell? ⟨b, 1, none⟩ = some (.slice a' m'.length cap')) (hm : MatIn lo tp w a m) (hm' : MatIn lo' tp' w a' m') (hs : m.length + tot m m.length ≤ 1048576) (hs' : m'.length + tot m' m'.length ≤ 1048576) :
    Calls Try.prog 59 #[.int .i64 p, .slice (some ⟨b, 0, none⟩) 2 c] w fun e w' => e = .returned (.int .i64 (chk2 p m m')) ∧ w = w' := by
  have HM := Lib.hid hm
  have HS := Lib.hid hs
  have HM' := Lib.hid hm'
  have HS' := Lib.hid hs'
  clear hm hs hm' hs'
  by_cases h : isM p m = true
  · have H := Lib.hid h
    clear h
    by_cases h' : isM p m' = true
    · have H' := Lib.hid h'
      clear h'
      go_enter Try.func59, Try.ntmps59
      go_wp2
      go_loop [9] (fun t => ∃ i : Nat, i ≤ 2 ∧ t = .int .i64 i) (fun t => 2 - (intOf t).toNat)
      case atStart => exact ⟨0, Nat.zero_le _, rfl⟩
      case round =>
        obtain ⟨i, hi, rfl⟩ := hrel
        by_cases h0 : i = 0
        · obtain rfl : 0 = i := by omega
          clear h0
          go_wp2_with (go_at_call 99; (with_reducible refine (isMatrix_q _ _ _ _ lo tp _ HM.out HS.out).mono ?_); rintro e w1 ⟨rfl, rfl⟩; rw [H.out])
          go_round
          case rel => exact ⟨1, by omega, by go_num⟩
          case measure => simp [intOf]
        · by_cases h1 : i = 1
          · obtain rfl : 1 = i := by omega
            clear h0 h1
            go_wp2_with (go_at_call 99; (with_reducible refine (isMatrix_q _ _ _ _ lo' tp' _ HM'.out HS'.out).mono ?_); rintro e w1 ⟨rfl, rfl⟩; rw [H'.out])
            go_round
            case rel => exact ⟨2, by omega, by go_num⟩
            case measure => simp [intOf]
          · obtain rfl : 2 = i := by omega
            clear h0 h1
            go_wp2
            go_ret
            exact ⟨by rw [chk2_yes H.out H'.out]; rfl, rfl⟩
    · have H' : Hid (isM p m' = false) := by show isM p m' = false; simpa using h'
      clear h'
      go_enter Try.func59, Try.ntmps59
      go_wp2
      go_loop [9] (fun t => ∃ i : Nat, i ≤ 1 ∧ t = .int .i64 i) (fun t => 2 - (intOf t).toNat)
      case atStart => exact ⟨0, Nat.zero_le _, rfl⟩
      case round =>
        obtain ⟨i, hi, rfl⟩ := hrel
        by_cases h0 : i = 0
        · obtain rfl : 0 = i := by omega
          clear h0
          go_wp2_with (go_at_call 99; (with_reducible refine (isMatrix_q _ _ _ _ lo tp _ HM.out HS.out).mono ?_); rintro e w1 ⟨rfl, rfl⟩; rw [H.out])
          go_round
          case rel => exact ⟨1, by omega, by go_num⟩
          case measure => simp [intOf]
        · obtain rfl : 1 = i := by omega
          clear h0
          go_wp2_with (go_at_call 99; (with_reducible refine (isMatrix_q _ _ _ _ lo' tp' _ HM'.out HS'.out).mono ?_); rintro e w1 ⟨rfl, rfl⟩; rw [H'.out])
          go_ret
          exact ⟨by rw [chk2_no (.inr H'.out)]; rfl, rfl⟩
  · have H : Hid (isM p m = false) := by show isM p m = false; simpa using h
    clear h
    go_enter Try.func59, Try.ntmps59
    go_wp2
    go_loop [9] (fun t => t = .int .i64 0) (fun t => 0)
    case atStart => exact rfl
    case round =>
      subst hrel
      go_wp2_with (go_at_call 99; (with_reducible refine (isMatrix_q _ _ _ _ lo tp _ HM.out HS.out).mono ?_); rintro e w1 ⟨rfl, rfl⟩; rw [H.out])
      go_ret
      exact ⟨by rw [chk2_no (.inl H.out)]; rfl, rfl⟩

theorem new_one (w : World) (x : Value) (t : TypeId) : (w.alloc (.cells #[x] t)).cell? ⟨w.heap.size, 0, none⟩ = some x := by simp [go_sem]
theorem new_two0 (w : World) (x y : Value) (t : TypeId) : (w.alloc (.cells #[x, y] t)).cell? ⟨w.heap.size, 0, none⟩ = some x := by simp [go_sem]
theorem new_two1 (w : World) (x y : Value) (t : TypeId) : (w.alloc (.cells #[x, y] t)).cell? ⟨w.heap.size, 1, none⟩ = some y := by simp [go_sem]
theorem checkOne_new (p : Int) (a : Option Addr) (m : List (List Int)) (cap lo tp : Nat) (w : World) (t : TypeId) (hm : MatIn lo tp w a m) (ht : tp ≤ w.heap.size) (hs : m.length + tot m m.length ≤ 1048576) :
    Calls Try.prog 59 #[.int .i64 p, .slice (some ⟨w.heap.size, 0, none⟩) 1 1] (w.alloc (.cells #[.slice a m.length cap] t)) fun e w' => e = .returned (.int .i64 (chk1 p m)) ∧ (w.alloc (.cells #[.slice a m.length cap] t)) = w' :=
  checkOne p w.heap.size a m cap 1 lo tp _ (new_one w _ t) (hm.below ((Below.refl _ _).alloc (Nat.le_refl _) _) ht) hs
theorem checkTwo_new (p : Int) (a a' : Option Addr) (m m' : List (List Int)) (cap cap' lo tp lo' tp' : Nat) (w : World) (t : TypeId) (hm : MatIn lo tp w a m) (ht : tp ≤ w.heap.size) (hs : m.length + tot m m.length ≤ 1048576) (hm' : MatIn lo' tp' w a' m') (ht' : tp' ≤ w.heap.size) (hs' : m'.length + tot m' m'.length ≤ 1048576) :
    Calls Try.prog 59 #[.int .i64 p, .slice (some ⟨w.heap.size, 0, none⟩) 2 2] (w.alloc (.cells #[.slice a m.length cap, .slice a' m'.length cap'] t)) fun e w' => e = .returned (.int .i64 (chk2 p m m')) ∧ (w.alloc (.cells #[.slice a m.length cap, .slice a' m'.length cap'] t)) = w' :=
  checkTwo p w.heap.size a a' m m' cap cap' 2 lo tp lo' tp' _ (new_two0 w _ _ t) (new_two1 w _ _ t) (hm.below ((Below.refl _ _).alloc (Nat.le_refl _) _) ht) (hm'.below ((Below.refl _ _).alloc (Nat.le_refl _) _) ht') hs hs'

/-- The code of a square matrix. -/
def sqC (p : Int) (m : List (List Int)) : Int := if isM p m = true then (if m.length = (rw' m 0).length then 0 else 2) else 1

set_option maxHeartbeats 800000 in
theorem checkSquare_any (p : Int) (a : Option Addr) (m : List (List Int)) (cap lo tp : Nat) (w : World) (hm : MatIn lo tp w a m) (ht : tp ≤ w.heap.size) (hs : m.length + tot m m.length ≤ 1048576) :
    Calls Try.prog 55 #[.int .i64 p, .slice a m.length cap] w fun e w' => e = .returned (.int .i64 (sqC p m)) ∧ Below w.heap.size w w' := by
  have HM := Lib.hid hm
  have HS := Lib.hid hs
  by_cases h : isM p m = true
  · have H : Hid (chk1 p m = 0) := chk1_yes h
    have h0 := (isL_iff.1 h).lo
    obtain ⟨b, o, r0, c0, ha, _, hb, hr0, _⟩ := hm.row (i := 0) (by omega)
    subst ha
    rw [Nat.add_zero] at hr0
    have hb' : b < w.heap.size := Nat.lt_of_lt_of_le hb ht
    have hl := tot_row (m := m) (i := 0) (by omega)
    have HI := Lib.hid h
    by_cases hq : m.length = (rw' m 0).length
    · have HQ := Lib.hid hq
      rw [← hq] at hr0
      clear hm hs h hq hl
      go_enter Try.func55, Try.ntmps55
      go_wp2_with (go_at_call 59; (with_reducible refine (checkOne_new p _ m cap lo tp w _ HM.out ht HS.out).mono ?_); rintro e w1 ⟨rfl, rfl⟩; rw [H.out])
      go_ret
      exact ⟨by unfold sqC; rw [if_pos HI.out, if_pos HQ.out]; rfl, (Below.refl _ _).alloc (Nat.le_refl _) _⟩
    · have HQ : Hid (¬ m.length = (rw' m 0).length) := hq
      obtain ⟨e1, e2⟩ := neq_spell hq
      clear hm hs h hq hl
      go_enter Try.func55, Try.ntmps55
      go_wp2_with (go_at_call 59; (with_reducible refine (checkOne_new p _ m cap lo tp w _ HM.out ht HS.out).mono ?_); rintro e w1 ⟨rfl, rfl⟩; rw [H.out])
      go_ret
      exact ⟨by unfold sqC; rw [if_pos HI.out, if_neg HQ.out]; rfl, (Below.refl _ _).alloc (Nat.le_refl _) _⟩
  · have H : Hid (chk1 p m = 1) := chk1_no (by simpa using h)
    have HI : Hid (¬ isM p m = true) := h
    clear hm hs h
    go_enter Try.func55, Try.ntmps55
    go_wp2_with (go_at_call 59; (with_reducible refine (checkOne_new p _ m cap lo tp w _ HM.out ht HS.out).mono ?_); rintro e w1 ⟨rfl, rfl⟩; rw [H.out])
    go_ret
    exact ⟨by unfold sqC; rw [if_neg HI.out]; rfl, (Below.refl _ _).alloc (Nat.le_refl _) _⟩

end Go.Proofs.Ytihanbfbgiiakaa
