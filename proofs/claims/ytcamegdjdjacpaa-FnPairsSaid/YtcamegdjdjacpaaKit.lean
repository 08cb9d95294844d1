/-
  The words in which the exact laws of matrices are walked: what a function of the program or of the model hands back, and the laws' marks of lists.
  No conditions.
-/
import Derived.Test.YtcamegdjdjacpaaOpen
namespace Go.Proofs.Ytcamegdjdjacpaa
open Go.RowKit
set_option linter.unusedVariables false

/-- The model hands back a matrix and a code. -/
def SpecM (R : List (List Int)) (C : Int) (w : World) (e : Ending) (w' : World) : Prop :=
  ∃ r c, e = .returned (.tuple #[.slice r R.length c, .int .i64 C]) ∧ MatIn w.heap.size w'.heap.size w' r R ∧ Below w.heap.size w w'
/-- The program hands back a matrix of its own and a code. -/
def ImplM (R : List (List Int)) (C : Int) (w : World) (e : Ending) (w' : World) : Prop :=
  ∃ r c, e = .returned (.tuple #[.slice r R.length c, .int .i64 C]) ∧ OwnM w.heap.size w'.heap.size w' r R ∧ Below w.heap.size w w'
def SpecR (R : List Int) (C : Int) (w : World) (e : Ending) (w' : World) : Prop :=
  ∃ r c, e = .returned (.tuple #[.slice r R.length c, .int .i64 C]) ∧ RowIn w.heap.size w'.heap.size w' r R ∧ Below w.heap.size w w'
def ImplR (R : List Int) (C : Int) (w : World) (e : Ending) (w' : World) : Prop :=
  ∃ r c, e = .returned (.tuple #[.slice r R.length c, .int .i64 C]) ∧ OwnR w.heap.size w'.heap.size w' r R ∧ Below w.heap.size w w'
/-- A number and a code are handed back. -/
def RetI (V C : Int) (w : World) (e : Ending) (w' : World) : Prop := e = .returned (.tuple #[.int .i64 V, .int .i64 C]) ∧ Below w.heap.size w w'
def RetB (V : Bool) (C : Int) (w : World) (e : Ending) (w' : World) : Prop := e = .returned (.tuple #[.bool V, .int .i64 C]) ∧ Below w.heap.size w w'
def Ret1 (V : Bool) (w : World) (e : Ending) (w' : World) : Prop := e = .returned (.bool V) ∧ Below w.heap.size w w'

def markedR (k : Int) (z : List Int) : List Int := mkR z.length fun j => k + j
theorem markedR_len (k : Int) (z : List Int) : (markedR k z).length = z.length := mkR_len _ _

theorem markOwnR (a : Option Addr) (z : List Int) (cap lo tp : Nat) (k : Int) (w : World) (hz : OwnR lo tp w a z) (hl : z.length ≤ 1048576) (k0 : 0 ≤ k) (k1 : k ≤ 10000000) :
    Calls Try.prog 149 #[.slice a z.length cap, .int .i64 k] w fun e w' => e = .returned (.int .i64 (k + z.length)) ∧ OwnR lo tp w' a (markedR k z) ∧ Off lo tp w w' := by
  rcases hz with h0 | ⟨b, o, rfl, h0, h1, hc⟩
  · subst h0
    refine (markRow_nil a cap k w).mono ?_
    rintro e w' ⟨rfl, rfl⟩
    exact ⟨ret_int (by simp), .inl rfl, Off.refl _ _ _⟩
  · refine (markRow b o z.length cap k w (fun j hj => ⟨_, (hc j hj).1⟩) (fun j hj => (hc j hj).2) hl k0 (by omega)).mono ?_
    rintro e w' ⟨rfl, hw, hd⟩
    refine ⟨rfl, .inr ⟨b, o, rfl, h0, h1, fun j hj => ?_⟩, hw.off h0 h1⟩
    rw [markedR_len] at hj
    exact ⟨by rw [hd j hj]; unfold markedR; rw [mkR_at _ hj], (hw.frozenAll _ _).trans (hc j hj).2⟩

theorem markOwnM (a : Option Addr) (m : List (List Int)) (cap lo tp n : Nat) (k : Int) (w : World) (hm : OwnM lo tp w a m) (hn : n = tot m m.length) (hl : m.length + tot m m.length ≤ 1048576) (k0 : 0 ≤ k) (k1 : k ≤ 10000000) :
    Calls Try.prog 75 #[.slice a m.length cap, .int .i64 k] w fun e w' => e = .returned (.int .i64 (k + n)) ∧ OwnM lo tp w' a (marked k m) ∧ Off lo tp w w' := by
  subst hn; exact markMat a m cap lo tp k w hm hl k0 k1

theorem szMat_n (a : Option Addr) (m : List (List Int)) (cap lo tp n : Nat) (left : Int) (w : World) (hm : MatIn lo tp w a m) (hn : n = m.length + tot m m.length) (h : (n : Int) ≤ left) (k : left ≤ 1048576) :
    Calls Try.prog 66 #[.slice a m.length cap, .int .i64 left] w fun e w' => e = .returned (.int .i64 (left - n)) ∧ w = w' := by
  subst hn; exact szMat_yes a m cap lo tp left w hm h k
theorem szMat_x (a : Option Addr) (m : List (List Int)) (cap lo tp n : Nat) (left : Int) (w : World) (hm : MatIn lo tp w a m) (hn : n = m.length + tot m m.length) (h : left < (n : Int)) (h0 : 0 ≤ left) (k : left ≤ 1048576) (hn' : m.length ≤ 9223372036854775807) (hr : ∀ i, i < m.length → (rw' m i).length ≤ 9223372036854775807) :
    Calls Try.prog 66 #[.slice a m.length cap, .int .i64 left] w fun e w' => e = .returned (.int .i64 (-1)) ∧ w = w' := by
  subst hn; exact szMat_no a m cap lo tp left w hm h h0 k hn' hr
theorem heldMat_n (a : Option Addr) (m : List (List Int)) (cap lo tp n : Nat) (w : World) (hm : MatIn lo tp w a (marked 1 m)) (hn : n = tot m m.length) (hl : m.length + tot m m.length ≤ 1048576) :
    Calls Try.prog 76 #[.slice a m.length cap, .int .i64 1] w fun e w' => e = .returned (.int .i64 (1 + n)) ∧ Quiet w w' := by
  subst hn; exact heldMat a m cap lo tp 1 w hm hl (by omega) (by omega)
theorem heldRow_n (a : Option Addr) (z : List Int) (cap lo tp : Nat) (w : World) (hm : RowIn lo tp w a (markedR 1 z)) (hl : z.length ≤ 1048576) :
    Calls Try.prog 150 #[.slice a z.length cap, .int .i64 1] w fun e w' => e = .returned (.int .i64 (1 + z.length)) ∧ Quiet w w' :=
  heldRow_mk a z.length cap lo tp 1 w hm hl (by omega) (by omega)

theorem quiet_z {w w' : World} (h : Quiet w w') : w.heap.size ≤ w'.heap.size := Nat.le_of_eq h.size.symm
theorem off_z {lo tp : Nat} {w w' : World} (h : Off lo tp w w') : w.heap.size ≤ w'.heap.size := Nat.le_of_eq h.size.symm

end Go.Proofs.Ytcamegdjdjacpaa
