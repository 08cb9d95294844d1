/-
  What the laws' draws are: a number in its range.
  Conditions: the source is one, of at most 4096 bytes.
-/
import Derived.Test.YtcamegdjdjacpaaRows
import Derived.Test.YtcamegdjdjacpaaSrc
import Derived.LoopTactic
import Derived.Lib.Hide
import Derived.BigQuiet
import Derived.Deep.QuietTactic
import Derived.Laws.Bits64
import Derived.Laws.BitsAllLaws
namespace Go.Proofs.Ytcamegdjdjacpaa
open Go.RowKit
set_option linter.unusedVariables false

theorem dice_bd (z : Int) : 0 ≤ wrap64 (bits .and .u64 (IntKind.u64.wrap z / 8589934592) 16777215) ∧ wrap64 (bits .and .u64 (IntKind.u64.wrap z / 8589934592) 16777215) ≤ 16777215 := by
  rw [IntKind.wrap_u64]
  have h1 := Int.emod_nonneg z (by decide : (18446744073709551616 : Int) ≠ 0)
  have h2 := Int.emod_lt_of_pos z (by decide : (0 : Int) < 18446744073709551616)
  rw [u64_and _ _ (by omega) (by omega) (by omega) (by omega)]
  have h3 := Nat.and_le_right (n := (z % 18446744073709551616 / 8589934592).toNat) (m := (16777215 : Int).toNat)
  unfold wrap64
  omega

set_option maxHeartbeats 800000 in
theorem below_any (n : Int) (b : Nat) (a : Option Addr) (len cap : Nat) (zs : List Int) (w : World) (hs : Src w b a len cap zs) :
    Calls Try.prog 25 #[.pointer (some ⟨b, 0, none⟩), .int .i64 n] w (Drawn (fun x => 1 ≤ n → 0 ≤ x ∧ x < n) b a len cap zs w) := by
  by_cases n1 : 1 ≤ n
  · obtain ⟨k, h, s⟩ := hs
    have S := Lib.hid s
    obtain ⟨lt, c0, c1, c2, f1, f2, le, sm, by_⟩ := s
    obtain ⟨H, hH⟩ : ∃ H, IntKind.u64.wrap (IntKind.u64.wrap (h * 6364136223846793005) + 1442695040888963407) = H := ⟨_, rfl⟩
    obtain ⟨x, hX⟩ : ∃ x, wrap64 (bits .and .u64 (H / 8589934592) 16777215) = x := ⟨_, rfl⟩
    obtain ⟨x0, x1⟩ : 0 ≤ x ∧ x ≤ 16777215 := by rw [← hX, ← hH]; exact dice_bd _
    by_cases hk : k < len
    · rcases by_ with h0 | ⟨xb, xo, rfl, hb, hsz, hc⟩
      · omega
      · obtain ⟨⟨z0, z1⟩, hcell⟩ := hc k hk
        obtain ⟨z, hz⟩ : ∃ z, z = zs.getD k 0 := ⟨_, rfl⟩
        rw [← hz] at hcell z0 z1
        have hne : ¬ b = xb := by omega
        have hm0 := Int.emod_nonneg (x + z) (by omega : n ≠ 0)
        have hm1 := Int.emod_lt_of_pos (x + z) (by omega : 0 < n)
        clear hc hz
        go_enter Try.func25, Try.ntmps25
        go_wp2
        go_quiet (fail)
        go_wp2
        go_quiet (fail)
        go_wp2
        go_ret
        exact ⟨(x + z) % n, rfl, fun _ => ⟨hm0, hm1⟩, ((Only.set b 2 w _).drewN _).setCell (.inl rfl) _, k + 1, H, ((S.out.setH H).drewN _).setAt _ (k + 1) (by simp) (by omega)⟩
    · have hm0 := Int.emod_nonneg x (by omega : n ≠ 0)
      have hm1 := Int.emod_lt_of_pos x (by omega : 0 < n)
      clear by_
      go_enter Try.func25, Try.ntmps25
      go_wp2
      go_quiet (fail)
      go_wp2
      go_ret
      exact ⟨x % n, rfl, fun _ => ⟨hm0, hm1⟩, (Only.set b 2 w _).drewN _, k, H, (S.out.setH H).drewN _⟩
  · go_enter Try.func25, Try.ntmps25
    go_wp2
    go_ret
    exact ⟨0, rfl, fun h => by omega, Only.refl _ _, hs⟩

end Go.Proofs.Ytcamegdjdjacpaa
