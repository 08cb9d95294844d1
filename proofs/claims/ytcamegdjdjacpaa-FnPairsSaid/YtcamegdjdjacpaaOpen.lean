/-
  What a law knows of the lists and matrices that it is handed.
  No conditions: what can be read as data.
-/
import Derived.Test.YtcamegdjdjacpaaMats
import Derived.OpenShut
import Derived.Deep.Matrix
namespace Go.Proofs.Ytcamegdjdjacpaa
open Go.RowKit Go.ChangeShapes Go.WideShapes
set_option linter.unusedVariables false

def IsMat (w : World) (a : Option Addr) (len : Nat) : Prop :=
  ∃ m : List (List Int), m.length = len ∧ MatIn 0 w.heap.size w a m ∧ len ≤ 9223372036854775807 ∧ ∀ i, i < m.length → (rw' m i).length ≤ 9223372036854775807
def IsLst (w : World) (a : Option Addr) (len : Nat) : Prop :=
  ∃ z : List Int, z.length = len ∧ RowIn 0 w.heap.size w a z ∧ len ≤ 9223372036854775807

theorem row_of {w : World} {x : Addr} {len : Nat} {zs : List Int} (hl : len ≤ zs.length) (h : ∀ i, i < zs.length → w.cell? (x.add i) = some (.int .i64 (zs.getD i 0))) : RowIn 0 w.heap.size w (some x) (zs.take len) := by
  by_cases h0 : len = 0
  · exact .inl (by rw [h0]; rfl)
  · obtain ⟨b, o, rfl, hc⟩ := ints_at h (by omega)
    have hlt : b < w.heap.size := World.block_lt_of_cell? w ⟨b, o + 0, none⟩ (hc 0 (by omega))
    refine .inr ⟨b, o, rfl, Nat.zero_le _, hlt, fun i hi => ?_⟩
    rw [List.length_take] at hi
    rw [hc i (by omega)]
    simp only [List.getD_eq_getElem?_getD, List.getElem?_take]
    rw [if_pos (by omega)]
theorem isLst_nil (w : World) : IsLst w none 0 := ⟨[], rfl, .inl rfl, by omega⟩
theorem isLst_of {w : World} {x : Addr} {len cap : Nat} {zs : List Int} (h1 : len ≤ cap) (h2 : cap ≤ maxLen) (h3 : zs.length = cap) (h : ∀ i, i < zs.length → w.cell? (x.add i) = some (.int .i64 (zs.getD i 0))) : IsLst w (some x) len := by
  unfold maxLen at h2
  exact ⟨zs.take len, by simp; omega, row_of (by omega) h, by omega⟩
theorem isMat_nil (w : World) : IsMat w none 0 := ⟨[], rfl, .inl rfl, by omega, fun i hi => by simp at hi⟩
theorem slice_at {w : World} {x : Addr} {v : Nat → Value} {n : Nat} (hn : 0 < n) (h : ∀ r, r < n → w.cell? (x.add r) = some (v r)) : ∃ b o, x = ⟨b, o, none⟩ ∧ ∀ r, r < n → w.cell? ⟨b, o + r, none⟩ = some (v r) := by
  obtain ⟨b, off, spot⟩ := x
  have hspot : spot = none := by simpa [Addr.add] using World.cell?_spot (h 0 hn)
  subst hspot
  exact ⟨b, off, rfl, fun j hj => by rw [← Go.WideShapes.add_plain]; exact h j hj⟩
theorem isMat_of {w : World} {x : Addr} {len cap : Nat} {A : Nat → Option Addr} {L C : Nat → Nat} {Z : Nat → List Int} (hl : len ≤ cap) (hm : cap ≤ maxLen)
    (h : ∀ r, r < cap → w.cell? (x.add r) = some (.slice (A r) (L r) (C r)) ∧ L r ≤ C r ∧ C r ≤ maxLen ∧ (Z r).length = C r ∧ (∀ n ∈ Z r, (Lit.int .i64 n).wf = true) ∧ (A r = none → C r = 0) ∧
        ∀ a', A r = some a' → 0 ≤ a'.block ∧ ∀ c, c < C r → w.cell? (a'.add c) = some (.int .i64 ((Z r).getD c 0))) : IsMat w (some x) len := by
  unfold maxLen at hm
  refine ⟨(List.range len).map fun r => (Z r).take (L r), by simp, ?_, by omega, fun i hi => ?_⟩
  · by_cases h0 : len = 0
    · subst h0; exact .inl rfl
    · obtain ⟨b, o, rfl, hc⟩ := slice_at (n := cap) (v := fun r => .slice (A r) (L r) (C r)) (by omega) (fun r hr => (h r hr).1)
      have hlt : b < w.heap.size := World.block_lt_of_cell? w ⟨b, o + 0, none⟩ (hc 0 (by omega))
      refine .inr ⟨b, o, rfl, Nat.zero_le _, hlt, fun i hi => ?_⟩
      simp only [List.length_map, List.length_range] at hi
      obtain ⟨_, r1, r2, r3, _, r5, r6⟩ := h i (by omega)
      have e : rw' ((List.range len).map fun r => (Z r).take (L r)) i = (Z i).take (L i) := by simp [rw', List.getD, hi]
      rw [e]
      have e2 : ((Z i).take (L i)).length = L i := by simp; omega
      rw [e2]
      refine ⟨A i, C i, hc i (by omega), ?_⟩
      cases hA : A i with
      | none =>
        have := r5 hA
        have h0 : L i = 0 := by omega
        exact .inl (by rw [h0]; rfl)
      | some a' => exact row_of (by omega) (fun c hc' => (r6 a' hA).2 c (by omega))
  · simp only [List.length_map, List.length_range] at hi
    obtain ⟨_, r1, r2, r3, _⟩ := h i (by omega)
    unfold maxLen at r2
    have e : rw' ((List.range len).map fun r => (Z r).take (L r)) i = (Z i).take (L i) := by simp [rw', List.getD, hi]
    rw [e]; simp; omega

end Go.Proofs.Ytcamegdjdjacpaa
