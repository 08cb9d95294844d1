/-
  What the laws' draws are: a number in its range.
  Conditions: the source is one, of at most 4096 bytes.
  The dice of the laws, made of a code.
  Conditions: the code is a row of at most 4096 known bytes.
  The draw of a space and two lists: contract.
  Conditions: the code is nil or a row of known bytes, of at most 4096.
  What the program's operations on numbers return: contracts of remainderOf, plus, minus, times.
  Conditions: the prime is one, and the numbers are remainders by it.
  Bounds of whole numbers of 64 bits, and what the model's remainder is.
  Conditions: the prime is one.
  What the model draws for pairs of numbers, and the law's own remainder.
  Conditions: the code is a row of at most 4096 known bytes; the prime of a remainder is one.
  What the model's sums, multiples, copies, turned matrices and unit matrices are: contracts.
  Conditions: the lists and matrices are rows of known cells with numbers of the prime; their sizes fit.
-/
import Derived.Test.YthifnhekmenjaaaRows
import Derived.Test.YthifnhekmenjaaaQc1
import Derived.LoopTactic
import Derived.Lib.Hide
import Derived.BigQuiet
import Derived.Deep.QuietTactic
import Derived.Laws.Bits64
import Derived.Laws.BitsAllLaws
import Derived.Test.YthifnhekmenjaaaQc2
import Derived.Test.YthifnhekmenjaaaQc8
import Derived.Outline
import Derived.Test.YthifnhekmenjaaaQc5
import Derived.Deep.RegionHeld3
import Derived.Deep.AppendLies
namespace Go.Proofs.Ythifnhekmenjaaa
open Go.RowKit
set_option linter.unusedVariables false

theorem dice_bd (z : Int) : 0 ≤ wrap64 (bits .and .u64 (IntKind.u64.wrap z / 8589934592) 16777215) ∧ wrap64 (bits .and .u64 (IntKind.u64.wrap z / 8589934592) 16777215) ≤ 16777215 := by
  rw [IntKind.wrap_u64]
  have h1 := Int.emod_nonneg z (by decide : (18446744073709551616 : Int) ≠ 0)
  have h2 := Int.emod_lt_of_pos z (by decide : (0 : Int) < 18446744073709551616)
  rw [u64_and _ _ (by omega) (by omega) (by omega) (by omega)]
  have h3 := Nat.and_le_right (n := (z % 18446744073709551616 / 8589934592).toNat) (m := (16777215 : Int).toNat)
  unfold wrap64
  omega

set_option maxHeartbeats 800000 in
theorem below_any (n : Int) (b : Nat) (a : Option Addr) (len cap : Nat) (zs : List Int) (w : World) (hs : Src w b a len cap zs) :
    Calls Try.prog 25 #[.pointer (some ⟨b, 0, none⟩), .int .i64 n] w (Drawn (fun x => 1 ≤ n → 0 ≤ x ∧ x < n) b a len cap zs w) := by
  by_cases n1 : 1 ≤ n
  · obtain ⟨k, h, s⟩ := hs
    have S := Lib.hid s
    obtain ⟨lt, c0, c1, c2, f1, f2, le, sm, by_⟩ := s
    obtain ⟨H, hH⟩ : ∃ H, IntKind.u64.wrap (IntKind.u64.wrap (h * 6364136223846793005) + 1442695040888963407) = H := ⟨_, rfl⟩
    obtain ⟨x, hX⟩ : ∃ x, wrap64 (bits .and .u64 (H / 8589934592) 16777215) = x := ⟨_, rfl⟩
    obtain ⟨x0, x1⟩ : 0 ≤ x ∧ x ≤ 16777215 := by rw [← hX, ← hH]; exact dice_bd _
    by_cases hk : k < len
    · rcases by_ with h0 | ⟨xb, xo, rfl, hb, hsz, hc⟩
      · omega
      · obtain ⟨⟨z0, z1⟩, hcell⟩ := hc k hk
        obtain ⟨z, hz⟩ : ∃ z, z = zs.getD k 0 := ⟨_, rfl⟩
        rw [← hz] at hcell z0 z1
        have hne : ¬ b = xb := by omega
        have hm0 := Int.emod_nonneg (x + z) (by omega : n ≠ 0)
        have hm1 := Int.emod_lt_of_pos (x + z) (by omega : 0 < n)
        clear hc hz
        go_enter Try.func25, Try.ntmps25
        go_wp2
        go_quiet (fail)
        go_wp2
        go_quiet (fail)
        go_wp2
        go_ret
        exact ⟨(x + z) % n, rfl, fun _ => ⟨hm0, hm1⟩, ((Only.set b 2 w _).drewN _).setCell (.inl rfl) _, k + 1, H, ((S.out.setH H).drewN _).setAt _ (k + 1) (by simp) (by omega)⟩
    · have hm0 := Int.emod_nonneg x (by omega : n ≠ 0)
      have hm1 := Int.emod_lt_of_pos x (by omega : 0 < n)
      clear by_
      go_enter Try.func25, Try.ntmps25
      go_wp2
      go_quiet (fail)
      go_wp2
      go_ret
      exact ⟨x % n, rfl, fun _ => ⟨hm0, hm1⟩, (Only.set b 2 w _).drewN _, k, H, (S.out.setH H).drewN _⟩
  · go_enter Try.func25, Try.ntmps25
    go_wp2
    go_ret
    exact ⟨0, rfl, fun h => by omega, Only.refl _ _, hs⟩

end Go.Proofs.Ythifnhekmenjaaa

namespace Go.Proofs.Ythifnhekmenjaaa
open Go.RowKit
set_option linter.unusedVariables false

theorem Code8.below {w w' : World} {a : Option Addr} {len : Nat} {zs : List Int} (h : Code8 w a len zs) (k : Below w.heap.size w w') : Code8 w' a len zs := by
  rcases h with h | ⟨xb, xo, ha, hb, hs, hc⟩
  · exact .inl h
  · have := k.size
    exact .inr ⟨xb, xo, ha, by omega, by omega, fun i hi => ⟨(hc i hi).1, (k.cell (p := ⟨xb, xo + i, none⟩) hs).trans (hc i hi).2⟩⟩

end Go.Proofs.Ythifnhekmenjaaa

namespace Go.Proofs.Ythifnhekmenjaaa
open Go.RowKit
set_option linter.unusedVariables false

theorem tmod_neg {n p : Int} (hn : n < 0) (hp : 0 < p) : n.tmod p = -((-n) % p) := by
  have h : n = -(-n) := by omega
  rw [h, Int.neg_tmod, Int.tmod_eq_emod_of_nonneg (by omega)]
  simp
theorem tmod_facts {n p : Int} (hn : n < 0) (hp : 0 < p) : -p < n.tmod p ∧ n.tmod p ≤ 0 ∧ (n.tmod p < 0 → n.tmod p + p = n % p) ∧ (n.tmod p = 0 → n % p = 0) := by
  rw [tmod_neg hn hp]
  have h1 := Int.emod_nonneg (-n) (by omega : p ≠ 0)
  have h2 := Int.emod_lt_of_pos (-n) hp
  have h3 := Int.emod_nonneg n (by omega : p ≠ 0)
  have h4 := Int.emod_lt_of_pos n hp
  have h5 := Int.mul_ediv_add_emod (-n) p
  have h6 := Int.mul_ediv_add_emod n p
  have key : ∀ q : Int, (0 < (-n) % p + n % p - 0 → True) := fun _ _ => trivial
  have h7 : ((-n) % p + n % p) % p = 0 := by rw [← Int.add_emod, Int.add_left_neg]; simp
  refine ⟨by omega, by omega, fun h => ?_, fun h => ?_⟩
  · have h8 : (-n) % p + n % p = p := by
      by_cases hlt : (-n) % p + n % p < p
      · rw [Int.emod_eq_of_lt (by omega) hlt] at h7; omega
      · have h9 : ((-n) % p + n % p - p) % p = 0 := by rw [Int.sub_emod, h7]; simp
        rw [Int.emod_eq_of_lt (by omega) (by omega)] at h9; omega
    omega
  · have h8 : (-n) % p = 0 := by omega
    rw [h8, Int.zero_add, Int.emod_eq_of_lt h3 h4] at h7
    exact h7

set_option maxHeartbeats 400000 in
theorem remainderOf_any (p n : Int) (w : World) (hp : prm p = true) (n0 : -9223372036854775808 ≤ n) (n1 : n ≤ 9223372036854775807) :
    Calls Try.prog 50 #[.int .i64 p, .int .i64 n] w fun e w' => e = .returned (.agg #[.int .i64 p, .int .i64 (n % p)]) ∧ Below w.heap.size w w' := by
  have hb := prm_bd hp
  have hm := mod_bd hp n
  clear hp
  by_cases hn : 0 ≤ n
  · go_enter Try.func50, Try.ntmps50
    go_wp2
    exact bodyPost_ret (v := .agg #[.int .i64 p, .int .i64 (n % p)]) (by simp [results, Try.results50, go_sem]) rfl ⟨rfl, (Below.refl _ _).alloc (Nat.le_refl _) _⟩
  · obtain ⟨t1, t2, t3, t4⟩ := tmod_facts (n := n) (p := p) (by omega) (by omega)
    by_cases ht : n.tmod p < 0
    · have H := Lib.hid (t3 ht)
      clear t3 t4
      go_enter Try.func50, Try.ntmps50
      go_wp2
      rw [H.out]
      exact bodyPost_ret (v := .agg #[.int .i64 p, .int .i64 (n % p)]) (by simp [results, Try.results50, go_sem]) rfl ⟨rfl, (Below.refl _ _).alloc (Nat.le_refl _) _⟩
    · have H0 : Hid (n.tmod p = n % p) := by show n.tmod p = n % p; have : n.tmod p = 0 := by omega
                                             rw [t4 this, this]
      clear t3 t4
      go_enter Try.func50, Try.ntmps50
      go_wp2
      rw [H0.out]
      exact bodyPost_ret (v := .agg #[.int .i64 p, .int .i64 (n % p)]) (by simp [results, Try.results50, go_sem]) rfl ⟨rfl, (Below.refl _ _).alloc (Nat.le_refl _) _⟩

end Go.Proofs.Ythifnhekmenjaaa

namespace Go.Proofs.Ythifnhekmenjaaa
open Go.RowKit
set_option linter.unusedVariables false

theorem mod_twice {n p : Int} (hn : 0 ≤ n) (hp : 0 < p) : (n % p + p) % p = n % p := by
  rw [Int.add_emod_right, Int.emod_emod]
theorem mod_twice_neg {n p : Int} (hn : n < 0) (hp : 0 < p) : (n.tmod p + p) % p = n % p := by
  obtain ⟨t1, t2, t3, t4⟩ := tmod_facts hn hp
  by_cases h : n.tmod p < 0
  · rw [t3 h, Int.emod_emod]
  · have : n.tmod p = 0 := by omega
    rw [this, t4 this]; simp

end Go.Proofs.Ythifnhekmenjaaa

namespace Go.Proofs.Ythifnhekmenjaaa
open Go.RowKit
set_option linter.unusedVariables false

theorem mod5_any (p n : Int) (w : World) (hp : prm p = true) (n0 : -9223372036854775808 ≤ n) (n1 : n ≤ 9223372036854775807) :
    Calls Try.prog 34 #[.int .i64 p, .int .i64 n] w fun e w' => e = .returned (.int .i64 (n % p)) ∧ w = w' := by
  have hb := prm_bd hp
  obtain ⟨hm0, hm1⟩ := mod_bd hp n
  clear hp
  by_cases hn : 0 ≤ n
  · have H := Lib.hid (mod_twice (n := n) (p := p) hn (by omega))
    go_enter Try.func34, Try.ntmps34
    go_wp2
    go_ret
    exact ⟨by first | rfl | (show Ending.returned (.int .i64 ((n % p + p) % p)) = _; rw [H.out]), rfl⟩
  · obtain ⟨t1, t2, _, _⟩ := tmod_facts (n := n) (p := p) (by omega) (by omega)
    have H := mod_twice_neg (n := n) (p := p) (by omega) (by omega)
    rw [Int.add_emod_right] at H
    have H1 := Lib.hid H
    clear H
    go_enter Try.func34, Try.ntmps34
    go_wp2
    go_ret
    exact ⟨by show Ending.returned (.int .i64 (n.tmod p % p)) = _; rw [H1.out], rfl⟩


theorem big_yes (a : Option Addr) (len cap : Nat) (w : World) (h : 4096 < len) (hm : len ≤ 9223372036854775807) :
    Calls Try.prog 4 #[.slice a len cap] w fun e w' => e = .returned (.bool true) ∧ w = w' := by
  have hd : decide ((4096 : Int) < (len : Int)) = true := by simp; omega
  go_enter Try.func4, Try.ntmps4
  go_wp2
  go_ret
  exact ⟨rfl, rfl⟩
theorem big_no (a : Option Addr) (len cap : Nat) (w : World) (h : len ≤ 4096) :
    Calls Try.prog 4 #[.slice a len cap] w fun e w' => e = .returned (.bool false) ∧ w = w' := by
  have hd : decide ((4096 : Int) < (len : Int)) = false := by simp; omega
  go_enter Try.func4, Try.ntmps4
  go_wp2
  go_ret
  exact ⟨rfl, rfl⟩

end Go.Proofs.Ythifnhekmenjaaa

namespace Go.Proofs.Ythifnhekmenjaaa
open Go.RowKit
set_option linter.unusedVariables false

def plusR (p : Int) (a b : List Int) (k : Int) : List Int := mkR a.length fun j => (a.getD j 0 + k * b.getD j 0) % p

end Go.Proofs.Ythifnhekmenjaaa
