/-
  What the program's and the model's checks of a prime and of numbers return: contracts of the functions that the laws of chapter 1 call first.
  Conditions: the lists that are checked are rows of cells that are known.
  What the model's check of a prime and of a list of numbers returns, and both checks at the short lists that the functions of chapter 1 build.
  Conditions: the lists are rows of cells that are known.
  What the model's source picks: one of a list.
  Conditions: the source is one, of at most 4096 bytes; the list is a row of known cells in another block.
  The model's source of a code, and what it draws first: a prime or not, numbers or not.
  Conditions: the code is a row of at most 4096 known bytes.
-/
import Derived.Test.YtgfohjfemkmldaaRows
import Derived.Test.YtgfohjfemkmldaaQd1
import Derived.WalkKit
import Derived.LoopTactic
import Derived.Lib.Hide
import Derived.RegionTactic
import Derived.Deep.RegionWith
namespace Go.Proofs.Ytgfohjfemkmldaa
open Go.RowKit
set_option linter.unusedVariables false

theorem isPrime_any (p : Int) (w : World) :
    Calls Try.prog 60 #[.int .i64 p] w fun e w' => e = .returned (.bool (prm p)) ∧ w = w' := by
  by_cases h : prm p = true
  · rcases prm_or h with rfl | rfl | rfl | rfl | rfl
    all_goals
      clear h
      go_enter Try.func60, Try.ntmps60
      go_wp2
      go_ret
      exact ⟨rfl, rfl⟩
  · have h' : prm p = false := by simpa using h
    obtain ⟨h1, h2, h3, h4, h5⟩ := prm_not h'
    have H := Lib.hid h'
    clear h h'
    go_enter Try.func60, Try.ntmps60
    go_wp2
    go_ret
    exact ⟨by rw [H.out]; rfl, rfl⟩

theorem l01Prime_any (p : Int) (w : World) :
    Calls Try.prog 78 #[.int .i64 p] w fun e w' => e = .returned (.bool (prm p)) ∧ w = w' := by
  by_cases h : prm p = true
  · rcases prm_or h with rfl | rfl | rfl | rfl | rfl
    all_goals
      clear h
      go_enter Try.func78, Try.ntmps78
      go_wp2
      go_ret
      exact ⟨rfl, rfl⟩
  · have h' : prm p = false := by simpa using h
    obtain ⟨h1, h2, h3, h4, h5⟩ := prm_not h'
    have H := Lib.hid h'
    clear h h'
    go_enter Try.func78, Try.ntmps78
    go_wp2
    go_ret
    exact ⟨rfl, rfl⟩

theorem l01In_yes (n lo hi : Int) (w : World) (h : lo ≤ n) (k : n ≤ hi) :
    Calls Try.prog 79 #[.int .i64 n, .int .i64 lo, .int .i64 hi] w fun e w' => e = .returned (.bool true) ∧ w = w' := by
  go_enter Try.func79, Try.ntmps79
  go_wp2
  go_ret
  exact ⟨rfl, rfl⟩
theorem l01In_no (n lo hi : Int) (w : World) (h : ¬ (lo ≤ n ∧ n ≤ hi)) :
    Calls Try.prog 79 #[.int .i64 n, .int .i64 lo, .int .i64 hi] w fun e w' => e = .returned (.bool false) ∧ w = w' := by
  by_cases h1 : lo ≤ n
  · have h2 : ¬ n ≤ hi := fun k => h ⟨h1, k⟩
    clear h
    go_enter Try.func79, Try.ntmps79
    go_wp2
    go_ret
    exact ⟨rfl, rfl⟩
  · clear h
    go_enter Try.func79, Try.ntmps79
    go_wp2
    go_ret
    exact ⟨rfl, rfl⟩

/-- A row of integers that a slice leads to. -/
def RowAt (w : World) (b : Nat) (zs : List Int) : Prop := ∀ i, i < zs.length → w.cell? ⟨b, i, none⟩ = some (.int .i64 (zs.getD i 0))

theorem getD_at {zs : List Int} {k : Nat} (h : k < zs.length) : zs.getD k 0 = zs[k] := by simp [h]
theorem all_take_succ {p x : Int} {zs : List Int} {k : Nat} (h : k < zs.length) (hx : x = zs.getD k 0) : (zs.take (k + 1)).all (inr p) = ((zs.take k).all (inr p) && inr p x) := by
  rw [List.take_succ_eq_append_getElem h, List.all_append, hx, getD_at h]
  simp
theorem all_false_of {p x : Int} {zs : List Int} {k : Nat} (h : k < zs.length) (hx : x = zs.getD k 0) (hf : inr p x = false) : zs.all (inr p) = false := by
  rw [List.all_eq_false]
  refine ⟨x, ?_, by simp [hf]⟩
  rw [hx, getD_at h]
  exact List.getElem_mem h

end Go.Proofs.Ytgfohjfemkmldaa

namespace Go.Proofs.Ytgfohjfemkmldaa
open Go.RowKit
set_option linter.unusedVariables false

theorem Drawn.any {P : Int → Prop} {b : Nat} {a : Option Addr} {len cap : Nat} {zs : List Int} {w w1 w' : World} {e : Ending} (ho : Only b w w1) (h : Drawn P b a len cap zs w1 e w') : Drawn (fun _ => True) b a len cap zs w e w' := by
  obtain ⟨x, he, _, hn, hs⟩ := h
  exact ⟨x, he, trivial, ho.trans hn, hs⟩

theorem pick_any (c m : Nat) (ls : List Int) (b : Nat) (a : Option Addr) (len cap : Nat) (zs : List Int) (w : World) (hs : Src w b a len cap zs) (hrow : RowAt w c ls) (hl : ls.length = m) (m1 : 1 ≤ m) (m2 : m ≤ 1000) (hc : c < w.heap.size) (hne : c ≠ b) :
    Calls Try.prog 63 #[.pointer (some ⟨b, 0, none⟩), .slice (some ⟨c, 0, none⟩) m m] w (Drawn (fun _ => True) b a len cap zs w) := by
  have HS := Lib.hid hs
  have HR := Lib.hid hrow
  have HL := Lib.hid hl
  clear hs hrow hl
  go_enter Try.func63, Try.ntmps63
  go_wp2_with (go_at_call 40; refine (next_any (m : Int) b a len cap zs _ HS.out).mono ?_; rintro e w1 ⟨x, rfl, hx, ho, hs1⟩; obtain ⟨hx0, hx1⟩ := hx (by omega); obtain ⟨j, rfl⟩ := Int.eq_ofNat_of_zero_le hx0; have hcell := (ho.cell (p := ⟨c, j, none⟩) hc hne).trans (HR.out j (by rw [HL.out]; omega)); clear hx)
  go_ret
  exact ⟨_, rfl, trivial, ho, hs1⟩

end Go.Proofs.Ytgfohjfemkmldaa

namespace Go.Proofs.Ytgfohjfemkmldaa
open Go.RowKit
set_option linter.unusedVariables false

theorem SrcAt.drew {w : World} {b : Nat} {a : Option Addr} {len cap : Nat} {zs : List Int} {k : Nat} {h : Int} (s : SrcAt w b a len cap zs k h) : SrcAt w.drew b a len cap zs k h :=
  ⟨s.lt, s.c0, s.c1, s.c2, s.f1, s.f2, s.le, s.small, s.bytes.only (Only.refl _ _).drew⟩
theorem first_src {w : World} {b : Nat} {a : Option Addr} {len cap : Nat} {zs : List Int} {k : Nat} {h : Int} (s : SrcAt w b a len cap zs k h) (H : Int) : SrcAt (w.setCell ⟨b, 2, none⟩ (.int .u64 H)).drew b a len cap zs k H := (s.setH H).drew
def Made (a : Option Addr) (len cap : Nat) (zs : List Int) (w : World) (e : Ending) (w' : World) : Prop :=
  e = .returned (.pointer (some ⟨w.heap.size, 0, none⟩)) ∧ Below w.heap.size w w' ∧ Src w' w.heap.size a len cap zs

/-- The code as it comes in: none, or a row of known bytes. -/
def Code8 (w : World) (a : Option Addr) (len : Nat) (zs : List Int) : Prop := Bytes w w.heap.size a len zs

set_option maxHeartbeats 1000000 in
set_option maxRecDepth 100000 in
theorem from_any (a : Option Addr) (len cap : Nat) (zs : List Int) (w : World) (hb : Code8 w a len zs) (hl : len ≤ 4096) :
    Calls Try.prog 38 #[.slice a len cap] w (Made a len cap zs w) := by
  have HB := Lib.hid hb
  clear hb
  go_enter Try.func38, Try.ntmps38
  go_wp2
  go_loopw [4] (fun t wr => ∃ i : Nat, i ≤ len ∧ t = .int .i64 i ∧ (∃ h : Int, SrcAt wr w.heap.size a len cap zs 0 h) ∧ Below w.heap.size w wr) (fun t _ => len - (intOf t).toNat)
  case atStart => exact ⟨0, by omega, rfl, ⟨4409 + (len : Int), by simp, by simp [go_sem], by simp [go_sem], by simp [go_sem], by simp [go_sem], by simp [go_sem], Nat.zero_le _, hl, HB.out.only (Only.refl _ _ |>.alloc _)⟩, by ((repeat' (first | with_reducible exact Below.refl _ _ | (with_reducible refine Below.setCell ?_ ?_ _) | (with_reducible refine Below.alloc ?_ ?_ _) | (with_reducible refine Below.drew ?_))); all_goals (first | (simp; done) | omega | (simp; omega)))⟩
  case round =>
    obtain ⟨i, hi, rfl, ⟨h, s⟩, hbel⟩ := hrel
    have S := Lib.hid s
    obtain ⟨lt, c0, c1, c2, f1, f2, le, sm, by_⟩ := s
    by_cases hlt : i < len
    · rcases by_ with h0 | ⟨xb, xo, rfl, hb, hsz, hc⟩
      · omega
      · obtain ⟨⟨z0, z1⟩, hcell⟩ := hc i hlt
        obtain ⟨z, hz⟩ : ∃ z, z = zs.getD i 0 := ⟨_, rfl⟩
        rw [← hz] at hcell z0 z1
        have hne : ¬ w.heap.size = xb := by omega
        clear hc hz
        go_wp2
        go_region
        go_wp2
        go_roundw
        case rel => exact ⟨i + 1, by omega, by go_num, ⟨_, first_src S.out _⟩, by (have hs_hbel := hbel.size; (repeat' (first | with_reducible exact Below.refl _ _ | (with_reducible refine Below.setCell ?_ ?_ _) | (with_reducible refine Below.alloc ?_ ?_ _) | (with_reducible refine Below.drew ?_) | (with_reducible refine below_step ?_ ?_ hbel))); all_goals (first | (simp; done) | omega | (simp; omega) | (simp at hs_hbel ⊢; omega)))⟩
        case measure => simp [intOf]; omega
    · clear by_
      go_wp2
      go_ret
      exact ⟨rfl, hbel, 0, h, S.out⟩

/-- A made source and the rest. -/
theorem Src.step {w w' : World} {b : Nat} {a : Option Addr} {len cap : Nat} {zs : List Int} (h : Src w b a len cap zs) (k : Below w.heap.size w w') : Src w' b a len cap zs := h.below k

theorem rowOf (w : World) (vs : List Int) (t : TypeId) : RowAt (w.alloc (.cells (vs.map (Value.int .i64)).toArray t)) w.heap.size vs := by
  intro i hi
  have h := World.cell?_alloc_new (w := w) (vs.map (Value.int .i64)).toArray t i
  rw [h]
  simp [hi]

theorem drawPrime_any (b : Nat) (a : Option Addr) (len cap : Nat) (zs : List Int) (w : World) (hs : Src w b a len cap zs) :
    Calls Try.prog 91 #[.pointer (some ⟨b, 0, none⟩)] w (Drawn (fun _ => True) b a len cap zs w) := by
  have HS := Lib.hid hs
  have hlt : b < w.heap.size := by obtain ⟨k, h, s⟩ := hs; exact s.lt
  clear hs
  go_enter Try.func91, Try.ntmps91
  go_wp2_with (go_at_call 63; refine (pick_any w.heap.size 8 [3, 5, 7, 11, 13, 3, 5, 7] b a len cap zs _ (HS.out.alloc _) (rowOf w [3, 5, 7, 11, 13, 3, 5, 7] _) rfl (by omega) (by omega) (by simp) (by omega)).mono ?_; rintro e w1 ⟨x, rfl, _, ho, hs1⟩)
  go_ret
  exact ⟨x, rfl, trivial, (Only.refl b w).alloc _ |>.trans ho, hs1⟩

end Go.Proofs.Ytgfohjfemkmldaa
