/-
  What the program's checks of matrices return, and its new matrices of zeros.
  Conditions: the matrices are nil or rows of known cells.
-/
import Derived.Test.YtcmedhkamjclmaaIsR
import Derived.Test.YtcmedhkamjclmaaApp
import Derived.RegionTactic
import Derived.ChangeAlike
namespace Go.Proofs.Ytcmedhkamjclmaa
open Go.RowKit
set_option linter.unusedVariables false

/-- The code of one matrix, of two. -/
def chk1 (p : Int) (m : List (List Int)) : Int := if isM p m = true then 0 else 1
def chk2 (p : Int) (m m' : List (List Int)) : Int := if isM p m = true ∧ isM p m' = true then 0 else 1
theorem chk1_yes {p : Int} {m : List (List Int)} (h : isM p m = true) : chk1 p m = 0 := if_pos h
theorem chk1_no {p : Int} {m : List (List Int)} (h : isM p m = false) : chk1 p m = 1 := if_neg (by simp [h])
theorem chk2_yes {p : Int} {m m' : List (List Int)} (h : isM p m = true) (h' : isM p m' = true) : chk2 p m m' = 0 := if_pos ⟨h, h'⟩
theorem chk2_no {p : Int} {m m' : List (List Int)} (h : isM p m = false ∨ isM p m' = false) : chk2 p m m' = 1 := if_neg (fun e => by rcases h with h | h <;> simp [h] at e)

theorem new_one (w : World) (x : Value) (t : TypeId) : (w.alloc (.cells #[x] t)).cell? ⟨w.heap.size, 0, none⟩ = some x := by simp [go_sem]
theorem new_two0 (w : World) (x y : Value) (t : TypeId) : (w.alloc (.cells #[x, y] t)).cell? ⟨w.heap.size, 0, none⟩ = some x := by simp [go_sem]
theorem new_two1 (w : World) (x y : Value) (t : TypeId) : (w.alloc (.cells #[x, y] t)).cell? ⟨w.heap.size, 1, none⟩ = some y := by simp [go_sem]
/-- The code of a square matrix. -/
def sqC (p : Int) (m : List (List Int)) : Int := if isM p m = true then (if m.length = (rw' m 0).length then 0 else 2) else 1

end Go.Proofs.Ytcmedhkamjclmaa
