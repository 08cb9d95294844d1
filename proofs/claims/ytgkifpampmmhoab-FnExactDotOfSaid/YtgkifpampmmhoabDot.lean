/-
  What DotOf returns, in the program and in the model.
  Conditions: the lists are rows of known cells, of at most 1048576 numbers.
-/
import Derived.Test.YtgkifpampmmhoabRows2
import Derived.Test.YtgkifpampmmhoabNumAt
import Derived.Test.YtgkifpampmmhoabArith
import Derived.Deep.RegionHeld3
import Derived.RegionTactic
namespace Go.Proofs.Ytgkifpampmmhoab
open Go.RowKit
set_option linter.unusedVariables false

def dot (p : Int) (zs ws : List Int) : Nat → Int
  | 0 => 0
  | k + 1 => (dot p zs ws k + zs.getD k 0 * ws.getD k 0) % p
theorem dot_bd {p : Int} (hp : prm p = true) (zs ws : List Int) (k : Nat) : 0 ≤ dot p zs ws k ∧ dot p zs ws k < p := by
  cases k with
  | zero => have := prm_bd hp; simp [dot]; omega
  | succ k => exact mod_bd hp _
theorem all_at {p : Int} {zs : List Int} (h : zs.all (inr p) = true) {i : Nat} (hi : i < zs.length) : 0 ≤ zs.getD i 0 ∧ zs.getD i 0 < p := by
  rw [List.all_eq_true] at h
  exact inr_iff.1 (h _ (by rw [getD_at hi]; exact List.getElem_mem _))

def dotOk (p : Int) (zs ws : List Int) : Bool := zs.length == ws.length && decide (zs.length ≤ 64) && zs.all (inr p) && ws.all (inr p)
def dotV (p : Int) (zs ws : List Int) : Int := if prm p && dotOk p zs ws then dot p zs ws zs.length else 0
def dotC (p : Int) (zs ws : List Int) : Int := if prm p then (if dotOk p zs ws then 0 else 2) else 1
theorem dot_yes {p : Int} {zs ws : List Int} (h : prm p = true) (k : dotOk p zs ws = true) : dotV p zs ws = dot p zs ws zs.length ∧ dotC p zs ws = 0 := by simp [dotV, dotC, h, k]
theorem dot_bad {p : Int} {zs ws : List Int} (h : prm p = true) (k : dotOk p zs ws = false) : dotV p zs ws = 0 ∧ dotC p zs ws = 2 := by simp [dotV, dotC, h, k]
theorem dot_no {p : Int} {zs ws : List Int} (h : prm p = false) : dotV p zs ws = 0 ∧ dotC p zs ws = 1 := by simp [dotV, dotC, h]

set_option maxHeartbeats 800000 in
theorem l01Dot_any (p : Int) (b c : Nat) (zs ws : List Int) (w : World) (hp : prm p = true) (hb : RowAt w b zs) (hc : RowAt w c ws) (hl : zs.length = ws.length) (h64 : zs.length ≤ 64) (hz : zs.all (inr p) = true) (hw : ws.all (inr p) = true) :
    Calls Try.prog 29 #[.int .i64 p, .slice (some ⟨b, 0, none⟩) zs.length zs.length, .slice (some ⟨c, 0, none⟩) ws.length ws.length] w fun e w' => e = .returned (.int .i64 (dot p zs ws zs.length)) ∧ Below w.heap.size w w' := by
  have HP := Lib.hid hp
  have hpb := prm_bd hp
  have HB := Lib.hid hb
  have HC := Lib.hid hc
  have HZ := Lib.hid hz
  have HW := Lib.hid hw
  have HL := Lib.hid hl
  obtain ⟨n, hn⟩ : ∃ n, n = ws.length := ⟨_, rfl⟩
  have hle : zs.length ≤ n ∧ n ≤ zs.length := by omega
  clear hp hb hc hz hw hl
  rw [← hn]
  have HN := Lib.hid hn
  clear hn
  go_enter Try.func29, Try.ntmps29
  go_wp2
  go_loopw [7, 8] (fun s t wr => ∃ i : Nat, i ≤ zs.length ∧ s = .int .i64 (dot p zs ws i) ∧ t = .int .i64 i ∧ (∃ k, wr = w.drewN k)) (fun _ t _ => zs.length - (intOf t).toNat)
  case atStart => exact ⟨0, Nat.zero_le _, rfl, rfl, 0, rfl⟩
  case round =>
    obtain ⟨i, hi, rfl, rfl, k, rfl⟩ := hrel
    by_cases hlt : i < zs.length
    · have hb1 := HB.out i hlt
      have hc1 := HC.out i (by rw [← HL.out]; exact hlt)
      obtain ⟨x0, x1⟩ := all_at HZ.out hlt
      obtain ⟨y0, y1⟩ := all_at HW.out (by rw [← HL.out]; exact hlt)
      have hstep : dot p zs ws (i + 1) = (dot p zs ws i + zs.getD i 0 * ws.getD i 0) % p := rfl
      obtain ⟨x, hx⟩ : ∃ x, x = zs.getD i 0 := ⟨_, rfl⟩
      obtain ⟨y, hy⟩ : ∃ y, y = ws.getD i 0 := ⟨_, rfl⟩
      rw [← hx] at hb1 hstep x0 x1
      rw [← hy] at hc1 hstep y0 y1
      obtain ⟨d0, d1⟩ := dot_bd HP.out zs ws i
      obtain ⟨d, hd⟩ : ∃ d, d = dot p zs ws i := ⟨_, rfl⟩
      rw [← hd] at hstep d0 d1
      rw [← hd]
      have HS := Lib.hid hstep
      have HDD := Lib.hid hd
      obtain ⟨m0, m1⟩ := mul_bd HP.out x0 x1 y0 y1
      have hi2 : (i : Int) < n := by omega
      have e1 : IntKind.i64.wrap (x * y) = x * y := IntWalk.i64_in _ (by omega)
      have e2 : IntKind.i64.wrap (d + x * y) = d + x * y := IntWalk.i64_in _ (by omega)
      have e3 : (d + x * y).tmod p = (d + x * y) % p := Int.tmod_eq_emod_of_nonneg (by omega)
      clear hx hy hstep hd
      go_wp2
      go_quiet (fail)
      clear e1 e2 e3
      go_wp2
      go_roundw
      case rel => exact ⟨i + 1, by omega, by rw [HS.out], by go_num, _, rfl⟩
      case measure => simp [intOf]; omega
    · have HQ : Hid (i = zs.length) := by show i = zs.length; omega
      go_wp2
      go_ret
      exact ⟨by rw [← HQ.out]; rfl, ⟨rfl, rfl, rfl, Nat.le_refl _, fun _ _ => rfl⟩⟩

end Go.Proofs.Ytgkifpampmmhoab
