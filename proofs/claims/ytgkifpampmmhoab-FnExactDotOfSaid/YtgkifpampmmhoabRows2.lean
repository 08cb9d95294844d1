/-
  What the laws' copies and comparisons of lists of numbers do.
  Conditions: the lists are nil or rows of known cells, of at most 1048576 numbers.
-/
import Derived.Test.YtgkifpampmmhoabCodes
import Derived.BigQuiet
import Derived.Deep.QuietTactic
import Derived.Deep.Draws
import Derived.Laws.MakeOwn
import Derived.OpenShut
import Derived.Deep.OwnRows
namespace Go.Proofs.Ytgkifpampmmhoab
open Go.RowKit Go.ChangeShapes Go.WideShapes
set_option linter.unusedVariables false

/-- A list of numbers that came in: none, or a row of known cells. -/
def In64 (w : World) (a : Option Addr) (zs : List Int) : Prop :=
  zs = [] ∨ ∃ b o : Nat, a = some ⟨b, o, none⟩ ∧ b < w.heap.size ∧ ∀ i, i < zs.length → w.cell? ⟨b, o + i, none⟩ = some (.int .i64 (zs.getD i 0))
theorem In64.below {w w' : World} {a : Option Addr} {zs : List Int} (h : In64 w a zs) (k : Below w.heap.size w w') : In64 w' a zs := by
  rcases h with h | ⟨b, o, ha, hs, hc⟩
  · exact .inl h
  · exact .inr ⟨b, o, ha, Nat.lt_of_lt_of_le hs k.size, fun i hi => (k.cell (p := ⟨b, o + i, none⟩) hs).trans (hc i hi)⟩
theorem RowAt.below {w w' : World} {b : Nat} {zs : List Int} (h : RowAt w b zs) (hlt : b < w.heap.size) (k : Below w.heap.size w w') : RowAt w' b zs :=
  fun i hi => (k.cell (p := ⟨b, i, none⟩) hlt).trans (h i hi)

def Copied (zs : List Int) (w : World) (e : Ending) (w' : World) : Prop :=
  e = .returned (.slice (some ⟨w.heap.size, 0, none⟩) zs.length zs.length) ∧ Below w.heap.size w w' ∧ RowAt w' w.heap.size zs ∧ w.heap.size < w'.heap.size

theorem info64 : (Try.prog.info? 2).map (fun i => (i.zero, i.size, i.bytes)) = some (some (.int .i64 0), 1, 8) := by kernel_rfl

/-- What has been copied so far. -/
structure Half (w : World) (b i : Nat) (zs : List Int) : Prop where
  lt : b < w.heap.size
  done : ∀ j, j < i → w.cell? ⟨b, j, none⟩ = some (.int .i64 (zs.getD j 0))
  rest : ∀ j, i ≤ j → j < zs.length → w.cell? ⟨b, j, none⟩ = some (.int .i64 0)
  free : ∀ j, w.frozen? ⟨b, j, none⟩ = false
theorem Half.start (w : World) (zs : List Int) (t : TypeId) : Half (w.alloc (.cells (madeCells #[.int .i64 0] zs.length) t)) w.heap.size 0 zs :=
  ⟨by simp, fun j hj => by omega, fun j _ hj => by
    have h := World.cell?_alloc_new (w := w) (madeCells #[.int .i64 0] zs.length) t j
    rw [h]
    simp [madeCells, hj, Nat.mod_one], fun j => by simp [go_sem]⟩
theorem Half.next {w : World} {b i : Nat} {zs : List Int} (h : Half w b i zs) (hi : i < zs.length) : Half (w.setCell ⟨b, i, none⟩ (.int .i64 (zs.getD i 0))) b (i + 1) zs :=
  ⟨by simpa [World.setCell] using h.lt, fun j hj => by
    by_cases hji : j = i
    · subst hji
      exact World.cell?_setCell_same w _ _ (h.rest j (Nat.le_refl _) hi)
    · exact (World.cell?_setCell_other _ _ _ _ (by first | (simp; done) | (simp; omega))).trans (h.done j (by omega)),
   fun j hj hl => (World.cell?_setCell_other _ _ _ _ (by first | (simp; done) | (simp; omega))).trans (h.rest j (by omega) hl), fun j => by simp [go_sem, h.free]⟩

set_option maxHeartbeats 800000 in
theorem copy_any (a : Option Addr) (zs : List Int) (cap : Nat) (w : World) (hin : In64 w a zs) (hl : zs.length ≤ 1048576) :
    Calls Try.prog 14 #[.slice a zs.length cap] w (Copied zs w) := by
  have HI := Lib.hid hin
  clear hin
  have hmk := fun W => run_make_row' (P := Try.prog) 29 2 (.int .i64 0) 8 Try.underlying29 info64 rfl .i64 .i64 zs.length (by omega) (by omega) W
  go_enter Try.func14, Try.ntmps14
  go_wp2
  clear hmk
  go_loopw [4] (fun t wr => ∃ i : Nat, i ≤ zs.length ∧ t = .int .i64 i ∧ Half wr w.heap.size i zs ∧ Below w.heap.size w wr) (fun t _ => zs.length - (intOf t).toNat)
  case atStart => exact ⟨0, Nat.zero_le _, rfl, Half.start w zs _, by ((repeat' (first | with_reducible exact Below.refl _ _ | (with_reducible refine Below.setCell ?_ ?_ _) | (with_reducible refine Below.alloc ?_ ?_ _) | (with_reducible refine Below.drew ?_))); all_goals (first | (simp; done) | omega | (simp; omega)))⟩
  case round =>
    obtain ⟨i, hi, rfl, hh, hbel⟩ := hrel
    have HH := Lib.hid hh
    by_cases hlt : i < zs.length
    · have g0 := hh.rest i (Nat.le_refl _) hlt
      have f0 := hh.free i
      rcases HI.out with h0 | ⟨b, o, rfl, hs, hc⟩
      · rw [h0] at hlt; simp at hlt
      · have hcell := (hbel.cell (p := ⟨b, o + i, none⟩) hs).trans (hc i hlt)
        obtain ⟨x, hx⟩ : ∃ x, x = zs.getD i 0 := ⟨_, rfl⟩
        rw [← hx] at hcell
        have HX := Lib.hid hx
        clear hx hh hc
        go_wp2
        go_roundw
        case rel => exact ⟨i + 1, by omega, by go_num, by rw [HX.out]; exact HH.out.next hlt, by (have hs_hbel := hbel.size; (repeat' (first | with_reducible exact Below.refl _ _ | (with_reducible refine Below.setCell ?_ ?_ _) | (with_reducible refine Below.alloc ?_ ?_ _) | (with_reducible refine Below.drew ?_) | (with_reducible refine below_step ?_ ?_ hbel))); all_goals (first | (simp; done) | omega | (simp; omega) | (simp at hs_hbel ⊢; omega)))⟩
        case measure => simp [intOf]; omega
    · clear hh
      go_wp2
      go_ret
      exact ⟨rfl, hbel, fun j hj => HH.out.done j (by omega), HH.out.lt⟩

set_option maxHeartbeats 800000 in
theorem same_any (b c : Nat) (zs : List Int) (w : World) (hb : RowAt w b zs) (hc : RowAt w c zs) (hl : zs.length ≤ 1048576) :
    Calls Try.prog 16 #[.slice (some ⟨b, 0, none⟩) zs.length zs.length, .slice (some ⟨c, 0, none⟩) zs.length zs.length] w fun e w' => e = .returned (.bool true) ∧ Below w.heap.size w w' := by
  have HB := Lib.hid hb
  have HC := Lib.hid hc
  clear hb hc
  go_enter Try.func16, Try.ntmps16
  go_wp2
  go_loopw [5] (fun t wr => ∃ i : Nat, i ≤ zs.length ∧ t = .int .i64 i ∧ (∃ n, wr = w.drewN n)) (fun t _ => zs.length - (intOf t).toNat)
  case atStart => exact ⟨0, Nat.zero_le _, rfl, 0, rfl⟩
  case round =>
    obtain ⟨i, hi, rfl, n, rfl⟩ := hrel
    by_cases hlt : i < zs.length
    · have hb1 := HB.out i hlt
      have hc1 := HC.out i hlt
      obtain ⟨x, hx⟩ : ∃ x, x = zs.getD i 0 := ⟨_, rfl⟩
      rw [← hx] at hb1 hc1
      clear hx
      go_wp2
      go_quiet (fail)
      go_wp2
      go_roundw
      case rel => exact ⟨i + 1, by omega, by go_num, _, rfl⟩
      case measure => simp [intOf]; omega
    · go_wp2
      go_ret
      exact ⟨rfl, ⟨rfl, rfl, rfl, Nat.le_refl _, fun _ _ => rfl⟩⟩

end Go.Proofs.Ytgkifpampmmhoab
