/-
  Elimination row by row as a relation: what steps have led from the rows taken to the reduced rows, their pivots and the determinant. No Go in sight.
  No conditions.
-/
import Derived.Test.YtcmedhkamjclmaaKept
namespace Go.Proofs.Ytcmedhkamjclmaa
set_option linter.unusedVariables false

/-- A row reduced by the first k of reduced rows: with the sum that was added. -/
structure Red2 (p : Int) (c : Nat) (m : List (List Int)) (P : Nat → Nat) (r r' : List Int) (k : Nat) : Prop extends Redu p c m P r r' k where
  lin : ∃ K : Nat → Int, ∀ j, j < c → num r' j % p = (num r j + sm m.length (fun i => K i * at' m i j)) % p
theorem sm_upd (n k : Nat) (K : Nat → Int) (x : Int) (f : Nat → Int) (hk : k < n) : sm n (fun i => (if i = k then K i + x else K i) * f i) = sm n (fun i => K i * f i) + x * f k := by
  have e : sm n (fun i => (if i = k then K i + x else K i) * f i) = sm n (fun i => K i * f i + (if i = k then x * f k else 0)) := sm_congr (fun i _ => by
    by_cases e : i = k
    · subst e; rw [if_pos rfl, if_pos rfl, Int.add_mul]
    · rw [if_neg e, if_neg e, Int.add_zero])
  rw [e, sm_add, sm_single, if_pos hk]
theorem Red2.start {p : Int} {c : Nat} {m : List (List Int)} {P : Nat → Nat} {r : List Int} (hl : r.length = c) (hr : ∀ j, j < c → 0 ≤ num r j ∧ num r j < p) : Red2 p c m P r r 0 where
  toRedu := Redu.start hl hr
  lin := by
    refine ⟨fun _ => 0, fun j _ => ?_⟩
    have : sm m.length (fun i => (0 : Int) * at' m i j) = sm m.length (fun _ => 0) := sm_congr (fun i _ => Int.zero_mul _)
    rw [this, sm_zero, Int.add_zero]
theorem Red2.next {p : Int} {c : Nat} {m : List (List Int)} {P : Nat → Nat} {r r' r'' : List Int} {k : Nat} (hp : prm p = true) (h : Red2 p c m P r r' k) (hR : Rref p m.length c (at' m) P) (hk : k < m.length)
    (hl : r''.length = c) (hn : ∀ j, j < c → num r'' j = (num r' j + (p - num r' (P k)) % p * at' m k j) % p) : Red2 p c m P r r'' (k + 1) where
  toRedu := h.toRedu.next hp hR hk hl hn
  lin := by
    obtain ⟨K, hK⟩ := h.lin
    refine ⟨fun i => if i = k then K i + (p - num r' (P k)) % p else K i, fun j hj => ?_⟩
    rw [sm_upd _ _ _ _ _ hk, hn j hj, Int.emod_emod, Int.add_emod, hK j hj, ← Int.add_emod, Int.add_assoc]

/-- What a row that is taken and left does to the rows that are kept. -/
structure Took (p : Int) (c : Nat) (m : List (List Int)) (P : Nat → Nat) (r r' s : List Int) (m' : List (List Int)) (q t : Nat) : Prop where
  rl : r.length = c
  red : Red2 p c m P r r' m.length
  qc : q < c
  q0 : num r' q ≠ 0
  ql : ∀ j, j < q → num r' j = 0
  ss : ∀ j, j < c → num s j = num r' j * inv p (num r' q) % p
  sl : s.length = c
  ml : m'.length = m.length
  mc : ∀ i, i < m.length → (rw' m' i).length = c
  mr : ∀ i, i < m.length → ∀ j, j < c → at' m' i j = (at' m i j + (p - at' m i q) % p * num s j) % p
  tn : t ≤ m.length
  tl : ∀ i, i < t → P i < q
  tr : ∀ i, t ≤ i → i < m.length → q < P i
/-- The sign of an insertion at t of n. -/
def sgn (p : Int) (n t : Nat) (x : Int) : Int := if (n - t) % 2 = 0 then x else -x % p
inductive Elm (p : Int) (c : Nat) : List (List Int) → List (List Int) → (Nat → Nat) → Int → Prop
  | start (P : Nat → Nat) : Elm p c [] [] P 1
  | same {A m : List (List Int)} {P : Nat → Nat} {d : Int} {r r' : List Int} : Elm p c A m P d → r.length = c → Red2 p c m P r r' m.length → (∀ j, j < c → num r' j = 0) → Elm p c (A ++ [r]) m P d
  | more {A m m' : List (List Int)} {P : Nat → Nat} {d : Int} {r r' s : List Int} {q t : Nat} : Elm p c A m P d → Took p c m P r r' s m' q t →
      Elm p c (A ++ [r]) (ins _ m' t s) (fun i => if i = t then q else P (old t i)) (d * sgn p m.length t (num r' q) % p)

theorem Elm.kept {p : Int} {c : Nat} {A m : List (List Int)} {P : Nat → Nat} {d : Int} (hp : prm p = true) (h : Elm p c A m P d) : Kept p c A m P := by
  induction h with
  | start P => exact Kept.start p c P
  | same _ _ hr h0 ih => exact ih.same hr.van h0
  | more _ k ih => exact ih.more hp k.red.van k.red.zer k.red.rng k.qc k.q0 k.ql k.ss k.sl k.ml k.mc k.mr k.tn k.tl k.tr
theorem Elm.det {p : Int} {c : Nat} {A m : List (List Int)} {P : Nat → Nat} {d : Int} (hp : prm p = true) (h : Elm p c A m P d) : 0 ≤ d ∧ d < p := by
  have := prm_bd hp
  induction h with
  | start P => omega
  | same _ _ _ _ ih => exact ih
  | more _ _ _ => exact mod_bd hp _

end Go.Proofs.Ytcmedhkamjclmaa
