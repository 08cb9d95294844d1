/-
  What the model draws for pairs of numbers, and the law's own remainder.
  Conditions: the code is a row of at most 4096 known bytes; the prime of a remainder is one.
-/
import Derived.Test.YtcamegdjdjacpaaFrom
import Derived.Test.YtcamegdjdjacpaaMod
namespace Go.Proofs.Ytcamegdjdjacpaa
open Go.RowKit
set_option linter.unusedVariables false

theorem mod5_any (p n : Int) (w : World) (hp : prm p = true) (n0 : -9223372036854775808 ≤ n) (n1 : n ≤ 9223372036854775807) :
    Calls Try.prog 32 #[.int .i64 p, .int .i64 n] w fun e w' => e = .returned (.int .i64 (n % p)) ∧ w = w' := by
  have hb := prm_bd hp
  obtain ⟨hm0, hm1⟩ := mod_bd hp n
  clear hp
  by_cases hn : 0 ≤ n
  · have H := Lib.hid (mod_twice (n := n) (p := p) hn (by omega))
    go_enter Try.func32, Try.ntmps32
    go_wp2
    go_ret
    exact ⟨by first | rfl | (show Ending.returned (.int .i64 ((n % p + p) % p)) = _; rw [H.out]), rfl⟩
  · obtain ⟨t1, t2, _, _⟩ := tmod_facts (n := n) (p := p) (by omega) (by omega)
    have H := mod_twice_neg (n := n) (p := p) (by omega) (by omega)
    rw [Int.add_emod_right] at H
    have H1 := Lib.hid H
    clear H
    go_enter Try.func32, Try.ntmps32
    go_wp2
    go_ret
    exact ⟨by show Ending.returned (.int .i64 (n.tmod p % p)) = _; rw [H1.out], rfl⟩


theorem big_yes (a : Option Addr) (len cap : Nat) (w : World) (h : 4096 < len) (hm : len ≤ 9223372036854775807) :
    Calls Try.prog 12 #[.slice a len cap] w fun e w' => e = .returned (.bool true) ∧ w = w' := by
  have hd : decide ((4096 : Int) < (len : Int)) = true := by simp; omega
  go_enter Try.func12, Try.ntmps12
  go_wp2
  go_ret
  exact ⟨rfl, rfl⟩
theorem big_no (a : Option Addr) (len cap : Nat) (w : World) (h : len ≤ 4096) :
    Calls Try.prog 12 #[.slice a len cap] w fun e w' => e = .returned (.bool false) ∧ w = w' := by
  have hd : decide ((4096 : Int) < (len : Int)) = false := by simp; omega
  go_enter Try.func12, Try.ntmps12
  go_wp2
  go_ret
  exact ⟨rfl, rfl⟩

def ThreeInts (w : World) (e : Ending) (w' : World) : Prop := ∃ p x y : Int, e = .returned (.tuple #[.int .i64 p, .int .i64 x, .int .i64 y]) ∧ Below w.heap.size w w'
def TwoInts (w : World) (e : Ending) (w' : World) : Prop := ∃ p x : Int, e = .returned (.tuple #[.int .i64 p, .int .i64 x]) ∧ Below w.heap.size w w'

end Go.Proofs.Ytcamegdjdjacpaa
