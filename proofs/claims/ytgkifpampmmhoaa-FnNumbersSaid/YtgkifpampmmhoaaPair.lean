/-
  What the model draws for pairs of numbers, and the law's own remainder.
  Conditions: the code is a row of at most 4096 known bytes; the prime of a remainder is one.
-/
import Derived.Test.YtgkifpampmmhoaaFrom
import Derived.Test.YtgkifpampmmhoaaMod
namespace Go.Proofs.Ytgkifpampmmhoaa
open Go.RowKit
set_option linter.unusedVariables false

theorem mod5_any (p n : Int) (w : World) (hp : prm p = true) (n0 : -9223372036854775808 ≤ n) (n1 : n ≤ 9223372036854775807) :
    Calls Try.prog 29 #[.int .i64 p, .int .i64 n] w fun e w' => e = .returned (.int .i64 (n % p)) ∧ w = w' := by
  have hb := prm_bd hp
  obtain ⟨hm0, hm1⟩ := mod_bd hp n
  clear hp
  by_cases hn : 0 ≤ n
  · have H := Lib.hid (mod_twice (n := n) (p := p) hn (by omega))
    go_enter Try.func29, Try.ntmps29
    go_wp2
    go_ret
    exact ⟨by first | rfl | (show Ending.returned (.int .i64 ((n % p + p) % p)) = _; rw [H.out]), rfl⟩
  · obtain ⟨t1, t2, _, _⟩ := tmod_facts (n := n) (p := p) (by omega) (by omega)
    have H := mod_twice_neg (n := n) (p := p) (by omega) (by omega)
    rw [Int.add_emod_right] at H
    have H1 := Lib.hid H
    clear H
    go_enter Try.func29, Try.ntmps29
    go_wp2
    go_ret
    exact ⟨by show Ending.returned (.int .i64 (n.tmod p % p)) = _; rw [H1.out], rfl⟩


theorem big_yes (a : Option Addr) (len cap : Nat) (w : World) (h : 4096 < len) (hm : len ≤ 9223372036854775807) :
    Calls Try.prog 14 #[.slice a len cap] w fun e w' => e = .returned (.bool true) ∧ w = w' := by
  have hd : decide ((4096 : Int) < (len : Int)) = true := by simp; omega
  go_enter Try.func14, Try.ntmps14
  go_wp2
  go_ret
  exact ⟨rfl, rfl⟩
theorem big_no (a : Option Addr) (len cap : Nat) (w : World) (h : len ≤ 4096) :
    Calls Try.prog 14 #[.slice a len cap] w fun e w' => e = .returned (.bool false) ∧ w = w' := by
  have hd : decide ((4096 : Int) < (len : Int)) = false := by simp; omega
  go_enter Try.func14, Try.ntmps14
  go_wp2
  go_ret
  exact ⟨rfl, rfl⟩

def ThreeInts (w : World) (e : Ending) (w' : World) : Prop := ∃ p x y : Int, e = .returned (.tuple #[.int .i64 p, .int .i64 x, .int .i64 y]) ∧ Below w.heap.size w w'
def TwoInts (w : World) (e : Ending) (w' : World) : Prop := ∃ p x : Int, e = .returned (.tuple #[.int .i64 p, .int .i64 x]) ∧ Below w.heap.size w w'

theorem pair_any (a : Option Addr) (len cap : Nat) (zs : List Int) (w : World) (hb : Code8 w a len zs) (hl : len ≤ 4096) :
    Calls Try.prog 42 #[.slice a len cap] w (ThreeInts w) := by
  have HB := Lib.hid hb
  clear hb
  go_enter Try.func42, Try.ntmps42
  go_wp2_with (first | (go_at_call 60; refine (from_any a len cap zs _ HB.out hl).mono ?_; rintro e w1 ⟨rfl, hb1, hs1⟩; have HS1 := Lib.hid hs1; have HB1 := Lib.hid hb1; clear hs1 hb1) | (go_at_call 61; refine (bad_any w.heap.size a len cap zs _ HS1.out).mono ?_; rintro e w2 ⟨p, rfl, _, ho2, hs2⟩; have HS2 := Lib.hid hs2; clear hs2) | (go_at_call 62; (with_reducible refine (spoil_any p w.heap.size a len cap zs _ HS2.out).mono ?_); rintro e w3 ⟨x, rfl, _, ho3, hs3⟩; have HS3 := Lib.hid hs3; clear hs3) | (go_at_call 62; (with_reducible refine (spoil_any p w.heap.size a len cap zs _ HS3.out).mono ?_); rintro e w4 ⟨y, rfl, _, ho4, hs4⟩))
  go_ret3
  exact ⟨p, x, y, rfl, HB1.out.trans (((ho2.trans ho3).trans ho4).below (Nat.le_refl _) HB1.out.size)⟩

end Go.Proofs.Ytgkifpampmmhoaa
