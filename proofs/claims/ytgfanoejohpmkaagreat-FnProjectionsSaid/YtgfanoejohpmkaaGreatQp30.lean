/-
  Contracts and facts that the walk of the law rests on.
  Conditions: those that each theorem names.
-/
import Derived.Test.YtgfanoejohpmkaaGreatQp29
import Derived.Test.YtgfanoejohpmkaaGreatQp3
import Derived.Test.YtgfanoejohpmkaaGreatQp22
import Derived.Test.YtgfanoejohpmkaaGreatQp11
namespace Go.Proofs.YtgfanoejohpmkaaGreat
open Go.RowKit
set_option linter.unusedVariables false
open Classical in
noncomputable def bas (p : Int) (A : List (List Int)) : List (List Int) := if h : ∃ m, IsBas p (rw' A 0).length A m then Classical.choose h else []
theorem bas_eq {p : Int} {A m : List (List Int)} (hp : 1 < p) (h : IsBas p (rw' A 0).length A m) : m = bas p A := by
 unfold bas
 rw [dif_pos ⟨m, h⟩]
 exact h.unique hp (Classical.choose_spec (⟨m, h⟩ : ∃ m, IsBas p (rw' A 0).length A m))
theorem bas_nil {p : Int} (hp : 1 < p) : bas p [] = [] := by
 refine (bas_eq hp (m := []) ⟨fun i hi => by simp at hi, ⟨fun _ => 0, ?_⟩, fun x => Iff.rfl⟩).symm
 constructor <;> intros <;> simp at * <;> omega
theorem l01Own2_nil (a : Option Addr) (ca : Nat) (w : World) :
 Calls Tryz.prog 231 #[.slice a 0 ca] w fun e w' => ∃ r k, e = .returned (.slice r 0 k) ∧ Below w.heap.size w w' := by
 have h := l01Own2_any a ([] : List (List Int)) ca 0 0 w (.inl rfl) (Nat.zero_le _) (by simp) (fun i hi => by simp at hi)
 refine h.mono ?_
 rintro e w' ⟨r, k, rfl, _, hb⟩
 exact ⟨r, k, rfl, hb⟩
set_option maxHeartbeats 800000 in
theorem l02Basis_nil (p : Int) (a : Option Addr) (ca : Nat) (w : World) :
 Calls Tryz.prog 227 #[.int .i64 p, .slice a 0 ca] w fun e w' => ∃ r k, e = .returned (.slice r 0 k) ∧ Below w.heap.size w w' := by
 go_enter Tryz.func227, Tryz.ntmps227
 go_wp2_with (go_at_call 231; (with_reducible refine (l01Own2_nil _ _ _).mono ?_); rintro e w1 ⟨r, k, rfl, hb1⟩; have HB := Lib.hid hb1; clear hb1)
 go_loopw [6, 7] (fun s t wr => s = .int .i64 0 ∧ t = .int .i64 0 ∧ wr = w1) (fun _ _ _ => 0)
 case atStart => exact ⟨rfl, rfl, rfl⟩
 case round =>
  obtain ⟨rfl, rfl, rfl⟩ := hrel
  go_wp2
  go_ret
  exact ⟨_, _, rfl, HB.out⟩
def NewBas (p : Int) (A : List (List Int)) (w : World) (e : Ending) (w' : World) : Prop :=
 ∃ r k, e = .returned (.slice r (bas p A).length k) ∧ MatIn w.heap.size w'.heap.size w' r (bas p A) ∧ Below w.heap.size w w' ∧ IsBas p (rw' A 0).length A (bas p A)
theorem basis_any (p : Int) (a : Option Addr) (A : List (List Int)) (ca lo tp : Nat) (w : World) (hm : MatIn lo tp w a A) (ht : tp ≤ w.heap.size) (hA : isL 0 p A = true) :
 Calls Tryz.prog 227 #[.int .i64 p, .slice a A.length ca] w (NewBas p A w) := by
 have hL := isL_iff.1 hA
 have hp := (prm_bd hL.prime).1
 by_cases h0 : A = []
 · subst h0
   refine (l02Basis_nil p a ca w).mono ?_
   rintro e w' ⟨r, k, rfl, hb⟩
   have e0 := bas_nil (p := p) (by omega)
   refine ⟨r, k, by rw [e0]; rfl, by rw [e0]; exact .inl rfl, hb, ?_⟩
   rw [e0]
   refine ⟨fun i hi => by simp at hi, ⟨fun _ => 0, ?_⟩, fun x => Iff.rfl⟩
   constructor <;> intros <;> simp at * <;> omega
 · have h1 : 0 < A.length := List.length_pos_iff.2 h0
   have hR := rect_of hL
   have hc := hL.c0 0 h1
   have hc16 := hL.c16
   refine (l02Basis_any p a A ca lo tp (rw' A 0).length w hL.prime hm ht h1 (by have := hL.hi; omega) (by omega) (by omega) hL.len (fun i hi j hj => hR.at hi hj)).mono ?_
   rintro e w' ⟨r, k, m, rfl, hM, hB, hb⟩
   have e1 := bas_eq (by omega) hB
   subst e1
   exact ⟨r, k, rfl, hM, hb, hB⟩
theorem Rref.rows_le {p : Int} {n c : Nat} {R : Nat → Nat → Int} {P : Nat → Nat} (h : Rref p n c R P) : n ≤ c := by
 have key : ∀ i, i < n → i ≤ P i := by
  intro i
  induction i with
  | zero => intro _; exact Nat.zero_le _
  | succ i ih => intro hi; have := ih (by omega); have := h.mono i (i + 1) (by omega) hi; omega
 by_cases h0 : n = 0
 · omega
 · have := key (n - 1) (by omega); have := h.pv (n - 1) (by omega); omega
theorem bas_small {p : Int} {A : List (List Int)} (hA : isL 0 p A = true) (h : IsBas p (rw' A 0).length A (bas p A)) : (bas p A).length ≤ 1024 ∧ ∀ i, i < (bas p A).length → 0 < (rw' (bas p A) i).length ∧ (rw' (bas p A) i).length ≤ 1024 := by
 have hL := isL_iff.1 hA
 have hc16 := hL.c16
 obtain ⟨P, hP⟩ := h.red
 have hle : (bas p A).length ≤ (rw' A 0).length := hP.rows_le
 refine ⟨by omega, fun i hi => ?_⟩
 rw [h.len i hi]
 omega
end Go.Proofs.YtgfanoejohpmkaaGreat