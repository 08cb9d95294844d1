/-
  The model's reduced bases: a contract.
  Conditions: the list of vectors is a row of rows of known cells with numbers of the prime, all of one length.
-/
import Derived.Test.YtcmedhkamjclmaaTop
import Derived.Test.YtcmedhkamjclmaaElim
import Derived.Test.YtcmedhkamjclmaaInvT
import Derived.Test.YtcmedhkamjclmaaSpA
import Derived.Test.YtcmedhkamjclmaaOwn
import Derived.Deep.RegionHeld3
namespace Go.Proofs.Ytcmedhkamjclmaa
open Go.RowKit
set_option linter.unusedVariables false

/-- A reduced basis in new memory is handed back. -/
def NewB (p : Int) (c : Nat) (A : List (List Int)) (w : World) (e : Ending) (w' : World) : Prop :=
  ∃ r k m, e = .returned (.slice r m.length k) ∧ MatIn w.heap.size w'.heap.size w' r m ∧ IsBas p c A m ∧ Below w.heap.size w w'

/-- What stands in the rows when row d is scaled and the first i are done. -/
def sig (d f i : Nat) : Nat := if i = f then d else i
def scaled (p : Int) (m : List (List Int)) (f k : Nat) : List Int := sclR p (rw' m f) (inv p (at' m f k))
def doneRow (p : Int) (m : List (List Int)) (d f k i : Nat) : List Int := if i = d then scaled p m f k else plusR p (rw' m (sig d f i)) (scaled p m f k) ((p - at' m (sig d f i) k) % p)
def midRow (p : Int) (m : List (List Int)) (d f k i : Nat) : List Int := if i = d then scaled p m f k else rw' m (sig d f i)
def rowsAt (p : Int) (m : List (List Int)) (d f k i : Nat) : List (List Int) := (List.range m.length).map fun j => if j < i then doneRow p m d f k j else midRow p m d f k j
theorem rowsAt_len (p : Int) (m : List (List Int)) (d f k i : Nat) : (rowsAt p m d f k i).length = m.length := by simp [rowsAt]
theorem rowsAt_row {p : Int} {m : List (List Int)} {d f k i j : Nat} (h : j < m.length) : rw' (rowsAt p m d f k i) j = if j < i then doneRow p m d f k j else midRow p m d f k j := by simp [rowsAt, rw', List.getD, h]
theorem rowsAt_start {p : Int} {m : List (List Int)} {d f k : Nat} (hd : d < m.length) (hf : f < m.length) : (m.set f (rw' m d)).set d (scaled p m f k) = rowsAt p m d f k 0 := by
  refine mat_ext (by simp [rowsAt_len]) (fun j hj => ?_)
  simp only [List.length_set] at hj
  rw [rw_set _ (by simpa using hd), rw_set _ hf, rowsAt_row hj, if_neg (Nat.not_lt_zero _)]
  unfold midRow sig
  by_cases e : j = d
  · rw [if_pos e, if_pos e]
  · rw [if_neg e, if_neg e]
    by_cases e' : j = f
    · rw [if_pos e', if_pos e']
    · rw [if_neg e', if_neg e']
theorem rowsAt_next {p : Int} {m : List (List Int)} {d f k i : Nat} (hi : i < m.length) (hne : i ≠ d) : (rowsAt p m d f k i).set i (doneRow p m d f k i) = rowsAt p m d f k (i + 1) := by
  refine mat_ext (by simp [rowsAt_len]) (fun j hj => ?_)
  simp only [List.length_set, rowsAt_len] at hj
  rw [rw_set _ (by rw [rowsAt_len]; exact hi), rowsAt_row hj, rowsAt_row hj]
  by_cases e : j = i
  · subst e; rw [if_pos rfl, if_pos (by omega)]
  · rw [if_neg e]
    by_cases e' : j < i
    · rw [if_pos e', if_pos (by omega)]
    · rw [if_neg e', if_neg (by omega)]
theorem rowsAt_skip {p : Int} {m : List (List Int)} {d f k : Nat} : rowsAt p m d f k d = rowsAt p m d f k (d + 1) := by
  refine mat_ext (by simp [rowsAt_len]) (fun j hj => ?_)
  rw [rowsAt_len] at hj
  rw [rowsAt_row hj, rowsAt_row hj]
  by_cases e : j = d
  · subst e; rw [if_neg (Nat.lt_irrefl _), if_pos (by omega)]; unfold doneRow midRow; rw [if_pos rfl, if_pos rfl]
  · by_cases e' : j < d
    · rw [if_pos e', if_pos (by omega)]
    · rw [if_neg e', if_neg (by omega)]
theorem ColAt.rows {p : Int} {c : Nat} {A m : List (List Int)} {d k f : Nat} {P : Nat → Nat} (hp : prm p = true) (h : ColAt p c A m d k P) (hk : k < c) (hdf : d ≤ f) (hf : f < m.length) (ha : 1 ≤ at' m f k) :
    ColAt p c A (rowsAt p m d f k m.length) (d + 1) (k + 1) (fun i => if i = d then k else P i) := by
  have hL : ∀ i, i < m.length → rw' (rowsAt p m d f k m.length) i = doneRow p m d f k i := fun i hi => by rw [rowsAt_row hi, if_pos hi]
  have hsig : ∀ i, i < m.length → sig d f i < m.length := fun i hi => by unfold sig; split <;> omega
  have hdm : d < m.length := by omega
  have hS : (scaled p m f k).length = c := by unfold scaled sclR; rw [mkR_len, h.len f hf]
  refine h.pick hp hk hdf hf ha (rowsAt_len _ _ _ _ _ _) (fun i hi => ?_) (fun j hj => ?_) (fun i hi hne j hj => ?_)
  · rw [rowsAt_len] at hi
    rw [hL i hi]
    unfold doneRow
    split
    · exact hS
    · unfold plusR; rw [mkR_len]; exact h.len _ (hsig i hi)
  · have e : at' (rowsAt p m d f k m.length) d j = (scaled p m f k).getD j 0 := by unfold at'; rw [hL d hdm]; unfold doneRow; rw [if_pos rfl]
    rw [e]
    unfold scaled sclR
    rw [mkR_at _ (by rw [h.len f hf]; exact hj)]; rfl
  · have e : at' (rowsAt p m d f k m.length) i j = (plusR p (rw' m (sig d f i)) (scaled p m f k) ((p - at' m (sig d f i) k) % p)).getD j 0 := by unfold at'; rw [hL i hi]; unfold doneRow; rw [if_neg hne]; rfl
    have e2 : at' (rowsAt p m d f k m.length) d j = (scaled p m f k).getD j 0 := by unfold at'; rw [hL d hdm]; unfold doneRow; rw [if_pos rfl]
    rw [e, e2]
    unfold plusR
    rw [mkR_at _ (by rw [h.len _ (hsig i hi)]; exact hj)]; rfl

end Go.Proofs.Ytcmedhkamjclmaa
