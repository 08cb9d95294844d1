/-
  The dice of the laws, made of a code.
  Conditions: the code is a row of at most 4096 known bytes.
-/
import Derived.Test.YtcamegdjdjacpaaFrom
import Derived.Test.YtcamegdjdjacpaaDice
namespace Go.Proofs.Ytcamegdjdjacpaa
open Go.RowKit
set_option linter.unusedVariables false

set_option maxHeartbeats 1000000 in
set_option maxRecDepth 100000 in
theorem roll_any (a : Option Addr) (len cap : Nat) (zs : List Int) (w : World) (hb : Code8 w a len zs) (hl : len ≤ 4096) :
    Calls Try.prog 19 #[.slice a len cap, .int .u64 831] w (Made a len cap zs w) := by
  have HB := Lib.hid hb
  clear hb
  go_enter Try.func19, Try.ntmps19
  go_wp2
  go_loopw [6] (fun t wr => ∃ i : Nat, i ≤ len ∧ t = .int .i64 i ∧ (∃ h : Int, SrcAt wr w.heap.size a len cap zs 0 h) ∧ Below w.heap.size w wr) (fun t _ => len - (intOf t).toNat)
  case atStart => exact ⟨0, by omega, rfl, ⟨6382911 + (len : Int), by simp, by simp [go_sem], by simp [go_sem], by simp [go_sem], by simp [go_sem], by simp [go_sem], Nat.zero_le _, hl, HB.out.only (Only.refl _ _ |>.alloc _)⟩, by ((repeat' (first | with_reducible exact Below.refl _ _ | (with_reducible refine Below.setCell ?_ ?_ _) | (with_reducible refine Below.alloc ?_ ?_ _) | (with_reducible refine Below.drew ?_))); all_goals (first | (simp; done) | omega | (simp; omega)))⟩
  case round =>
    obtain ⟨i, hi, rfl, ⟨h, s⟩, hbel⟩ := hrel
    have S := Lib.hid s
    obtain ⟨lt, c0, c1, c2, f1, f2, le, sm, by_⟩ := s
    by_cases hlt : i < len
    · rcases by_ with h0 | ⟨xb, xo, rfl, hb, hsz, hc⟩
      · omega
      · obtain ⟨⟨z0, z1⟩, hcell⟩ := hc i hlt
        obtain ⟨z, hz⟩ : ∃ z, z = zs.getD i 0 := ⟨_, rfl⟩
        rw [← hz] at hcell z0 z1
        have hne : ¬ w.heap.size = xb := by omega
        clear hc hz
        go_wp2
        go_region
        go_wp2
        go_roundw
        case rel => exact ⟨i + 1, by omega, by go_num, ⟨_, first_src S.out _⟩, by (have hs_hbel := hbel.size; (repeat' (first | with_reducible exact Below.refl _ _ | (with_reducible refine Below.setCell ?_ ?_ _) | (with_reducible refine Below.alloc ?_ ?_ _) | (with_reducible refine Below.drew ?_) | (with_reducible refine below_step ?_ ?_ hbel))); all_goals (first | (simp; done) | omega | (simp; omega) | (simp at hs_hbel ⊢; omega)))⟩
        case measure => simp [intOf]; omega
    · clear by_
      go_wp2
      go_ret
      exact ⟨rfl, hbel, 0, h, S.out⟩


theorem Code8.below {w w' : World} {a : Option Addr} {len : Nat} {zs : List Int} (h : Code8 w a len zs) (k : Below w.heap.size w w') : Code8 w' a len zs := by
  rcases h with h | ⟨xb, xo, ha, hb, hs, hc⟩
  · exact .inl h
  · have := k.size
    exact .inr ⟨xb, xo, ha, by omega, by omega, fun i hi => ⟨(hc i hi).1, (k.cell (p := ⟨xb, xo + i, none⟩) hs).trans (hc i hi).2⟩⟩

end Go.Proofs.Ytcamegdjdjacpaa
