/-
  The program's geometric product: contract.
  Conditions: a space and multivectors of it: rows of known cells with numbers of the prime.
  The model's geometric product: contract.
  Conditions: a space and multivectors of it: rows of known cells with numbers of the prime.
  GeometricProduct: contracts of the program and of the model.
  Conditions: the lists are nil or rows of known cells, of at most 1048576 numbers.
  Products of a kind: wedge product, left and right contraction: sums. No Go in sight.
  No conditions.
-/
import Derived.Test.YtkibkkdeaojjoabQc12
import Derived.Test.YtkibkkdeaojjoabQc11
import Derived.Deep.RegionHeld3
import Derived.Deep.DeepCutAuto
namespace Go.Proofs.Ytkibkkdeaojjoab
open Go.RowKit Go.Maps
set_option linter.unusedVariables false

theorem sm_put {n k : Nat} (hk : k < n) (v : Int) {f : Nat → Int} (h0 : f k = 0) : sm n (fun j => if j = k then v else f j) = sm n f + v := by
  have e : sm n (fun j => if j = k then v else f j) = sm n (fun j => f j + if j = k then v else 0) := sm_congr fun j _ => by
    by_cases h : j = k
    · subst h; rw [if_pos rfl, if_pos rfl, h0, Int.zero_add]
    · rw [if_neg h, if_neg h, Int.add_zero]
  rw [e, sm_add, sm_single, if_pos hk]
theorem tm_none {p : Int} {S x y : List Int} {c a : Nat} (h : x.getD a 0 = 0) : tm p S x y c a = 0 := by unfold tm; rw [h, Int.zero_mul, Int.zero_mul]
theorem tm_bd {p : Int} (h3 : 3 ≤ p) (h13 : p ≤ 13) {S x y : List Int} (nx : Nums p x) (ny : Nums p y) (lx : x.length = bl S) (ly : y.length = bl S) {c a : Nat} (hc : c < bl S) (ha : a < bl S) : 0 ≤ tm p S x y c a ∧ tm p S x y c a ≤ 1728 := by
  obtain ⟨x0, x1⟩ := nx a (by omega)
  obtain ⟨y0, y1⟩ := ny (a ^^^ c) (by rw [ly]; exact Nat.xor_lt_two_pow ha hc)
  obtain ⟨f0, f1⟩ := fm_bd (by omega : 0 < p) S a (a ^^^ c) S.length
  obtain ⟨m0, m1⟩ := mul_bd' h13 x0 x1 f0 f1
  unfold tm
  exact ⟨Int.mul_nonneg m0 y0, Int.le_trans (Int.mul_le_mul_of_nonneg_right m1 y0) (by omega)⟩
theorem ranges_wrote {w w' : World} {P : Program} {k : TypeId} {R : Value → Option (DataW Unit × List MemPlace)} {b r n : Nat} {D : DataW Unit} {left : Lit → Bool} {cnt c o m : Nat} (h : w.ranges P k R b r n D left cnt) (hw : Wrote c o m w w') (hb : b ≠ c) (hr : r ≠ c) : w'.ranges P k R b r n D left cnt := by
  obtain ⟨es, clock, since, seen, c0, k1, h2, h3, h4, k5, h6⟩ := h
  exact ⟨es, clock, since, seen, c0, (hw.block b hb).trans k1, h2, h3, h4, (hw.block r hr).trans k5, h6⟩

end Go.Proofs.Ytkibkkdeaojjoab

namespace Go.Proofs.Ytkibkkdeaojjoab
open Go.RowKit
set_option linter.unusedVariables false

theorem xor_bl {S : List Int} {a b : Nat} (ha : a < bl S) (hb : b < bl S) : a ^^^ b < bl S := Nat.xor_lt_two_pow ha hb

theorem sst4 {B : Nat} {w w' : World} (h : Below B w w') {g bx ox by' oy : Nat} {u0 u1 u2 u3 : Value} (l0 : g < B) (l1 : bx < B) (l2 : by' < B) (h0 : w.cell? ⟨g, 0, none⟩ = some u0) (h1 : w.cell? ⟨g, 1, none⟩ = some u1) (h2 : w.cell? ⟨bx, ox, none⟩ = some u2) (h3 : w.cell? ⟨by', oy, none⟩ = some u3) :
    w'.cell? ⟨g, 0, none⟩ = some u0 ∧ w'.cell? ⟨g, 1, none⟩ = some u1 ∧ w'.cell? ⟨bx, ox, none⟩ = some u2 ∧ w'.cell? ⟨by', oy, none⟩ = some u3 :=
  ⟨(h.cell (p := ⟨g, 0, none⟩) l0).trans h0, (h.cell (p := ⟨g, 1, none⟩) l0).trans h1, (h.cell (p := ⟨bx, ox, none⟩) l1).trans h2, (h.cell (p := ⟨by', oy, none⟩) l2).trans h3⟩
theorem ssp4 (w : World) (b q : Nat) (v : Value) {g bx ox by' oy : Nat} {u0 u1 u2 u3 : Value} (n0 : g ≠ b) (n1 : bx ≠ b) (n2 : by' ≠ b) (h : w.cell? ⟨g, 0, none⟩ = some u0 ∧ w.cell? ⟨g, 1, none⟩ = some u1 ∧ w.cell? ⟨bx, ox, none⟩ = some u2 ∧ w.cell? ⟨by', oy, none⟩ = some u3) :
    (w.setCell ⟨b, q, none⟩ v).cell? ⟨g, 0, none⟩ = some u0 ∧ (w.setCell ⟨b, q, none⟩ v).cell? ⟨g, 1, none⟩ = some u1 ∧ (w.setCell ⟨b, q, none⟩ v).cell? ⟨bx, ox, none⟩ = some u2 ∧ (w.setCell ⟨b, q, none⟩ v).cell? ⟨by', oy, none⟩ = some u3 :=
  ⟨(World.cell?_setCell_other w ⟨b, q, none⟩ ⟨g, 0, none⟩ v (fun e => by injection e with e1; omega)).trans h.1, (World.cell?_setCell_other w ⟨b, q, none⟩ ⟨g, 1, none⟩ v (fun e => by injection e with e1; omega)).trans h.2.1, (World.cell?_setCell_other w ⟨b, q, none⟩ ⟨bx, ox, none⟩ v (fun e => by injection e with e1; omega)).trans h.2.2.1, (World.cell?_setCell_other w ⟨b, q, none⟩ ⟨by', oy, none⟩ v (fun e => by injection e with e1; omega)).trans h.2.2.2⟩

/-- A block of numbers. -/
def Tag (b : Nat) (w : World) : Prop := ∃ cur, w.heap[b]? = some (.cells cur 2 (0, 0))
theorem Tag.stay {b : Nat} {w w' : World} (h : Tag b w) (e : w'.heap[b]? = w.heap[b]?) : Tag b w' := by
  obtain ⟨cur, h⟩ := h
  exact ⟨cur, e.trans h⟩
theorem Tag.start (w : World) (cs : Array Value) : Tag w.heap.size (w.alloc (.cells cs 2)) := ⟨cs, heap_alloc_new w _⟩
theorem Tag.set {b : Nat} {w : World} (h : Tag b w) (c i : Nat) (v : Value) : Tag b (w.setCell ⟨c, i, none⟩ v) := by
  obtain ⟨cur, h⟩ := h
  by_cases e : b = c
  · subst e
    exact ⟨cur.setIfInBounds i v, by simp [World.setCell, Array.getElem?_modify, h]⟩
  · exact ⟨cur, (Below.heap_setCell _ _ _ _ e).trans h⟩
def NewRowT (n : Nat) (f : Nat → Int) (w : World) (e : Ending) (w' : World) : Prop :=
  ∃ b, e = .returned (.slice (some ⟨b, 0, none⟩) n n) ∧ w.heap.size ≤ b ∧ b < w'.heap.size ∧ RowOwn w' b 0 n f ∧ Below w.heap.size w w' ∧ Tag b w'

end Go.Proofs.Ytkibkkdeaojjoab

namespace Go.Proofs.Ytkibkkdeaojjoab
open Go.RowKit
set_option linter.unusedVariables false

theorem sp_nums {p : Int} {S : List Int} (h : isSp p S = true) : Nums p S := Nums.of (isSp_iff.1 h).all
theorem NewRow.ownE {n : Nat} {f : Nat → Int} {w : World} {e : Ending} {w' : World} (h : NewRow n f w e w') : OwnE (mkR n f) w e w' := by
  obtain ⟨b, rfl, hl, hu, hr, hb⟩ := h
  exact ⟨_, n, by rw [mkR_len], hr.own hl hu, hb⟩
end Go.Proofs.Ytkibkkdeaojjoab

namespace Go.Proofs.Ytkibkkdeaojjoab
open Go.RowKit
set_option linter.unusedVariables false

/-- Whether the product of two blades is kept: 0 the wedge product, 1 the left contraction, else the right one. -/
def kp (κ a b : Nat) : Bool := if κ = 0 then a &&& b == 0 else if κ = 1 then a &&& b == a else a &&& b == b
def tk (p : Int) (S : List Int) (κ : Nat) (x y : List Int) (c a : Nat) : Int := if kp κ a (a ^^^ c) = true then tm p S x y c a else 0
/-- The number at c of the product of a kind. -/
def kF (p : Int) (S : List Int) (κ : Nat) (x y : List Int) (c : Nat) : Int := sm (bl S) (tk p S κ x y c) % p
def kM (p : Int) (S : List Int) (κ : Nat) (x y : List Int) : List Int := mkR (bl S) (kF p S κ x y)
theorem tk_yes {p : Int} {S : List Int} {κ : Nat} {x y : List Int} {a b : Nat} (h : kp κ a b = true) : tk p S κ x y (a ^^^ b) a = tm p S x y (a ^^^ b) a := by unfold tk; rw [xor_back, if_pos h]
theorem tk_no {p : Int} {S : List Int} {κ : Nat} {x y : List Int} {a b : Nat} (h : kp κ a b = false) : tk p S κ x y (a ^^^ b) a = 0 := by unfold tk; rw [xor_back, if_neg (by simp [h])]

/-- The number at c, when the products of the first i numbers, and those of the number i with the first k of the other one, have been added. -/
def pk (p : Int) (S : List Int) (κ : Nat) (x y : List Int) (i k c : Nat) : Int := (sm i (tk p S κ x y c) + if i ^^^ c < k then tk p S κ x y c i else 0) % p
theorem pk_bd {p : Int} (hp : 0 < p) (S : List Int) (κ : Nat) (x y : List Int) (i k c : Nat) : 0 ≤ pk p S κ x y i k c ∧ pk p S κ x y i k c < p := ⟨Int.emod_nonneg _ (by omega), Int.emod_lt_of_pos _ hp⟩
theorem pk_start (p : Int) (S : List Int) (κ : Nat) (x y : List Int) (i c : Nat) : pk p S κ x y i 0 c = sm i (tk p S κ x y c) % p := by
  unfold pk; rw [if_neg (Nat.not_lt_zero _), Int.add_zero]
theorem pk_end (p : Int) (S : List Int) (κ : Nat) (x y : List Int) {i c : Nat} (hi : i < bl S) (hc : c < bl S) : pk p S κ x y i (bl S) c = sm (i + 1) (tk p S κ x y c) % p := by
  unfold pk; rw [if_pos (show i ^^^ c < bl S from Nat.xor_lt_two_pow hi hc)]; rfl
theorem pk_skip {p : Int} {S : List Int} {κ : Nat} {x y : List Int} {i k : Nat} (h : kp κ i k = false) (c : Nat) : pk p S κ x y i k c = pk p S κ x y i (k + 1) c := by
  unfold pk
  by_cases e : i ^^^ c = k
  · have e2 : c = i ^^^ k := by rw [← e, xor_back]
    rw [if_neg (by omega), if_pos (by omega), e2, tk_no h]
  · by_cases e2 : i ^^^ c < k
    · rw [if_pos e2, if_pos (by omega)]
    · rw [if_neg e2, if_neg (by omega)]
theorem pk_here (p : Int) (S : List Int) (κ : Nat) (x y : List Int) (i k : Nat) : pk p S κ x y i k (i ^^^ k) = sm i (tk p S κ x y (i ^^^ k)) % p := by
  unfold pk; rw [xor_back, if_neg (Nat.lt_irrefl _), Int.add_zero]
theorem pk_put (p : Int) (S : List Int) (κ : Nat) (x y : List Int) {i k : Nat} (hk : kp κ i k = true) {v : Int} (hv : v = (pk p S κ x y i k (i ^^^ k) + x.getD i 0 * y.getD k 0 % p * fm p S i k S.length) % p) (c : Nat) : (if c = i ^^^ k then v else pk p S κ x y i k c) = pk p S κ x y i (k + 1) c := by
  by_cases e : c = i ^^^ k
  · rw [if_pos e, hv, e, pk_here]
    unfold pk
    rw [xor_back, if_pos (Nat.lt_succ_self k), tk_yes hk]
    unfold tm
    rw [xor_back, Int.add_emod, em_l, Int.emod_emod, ← Int.add_emod]
    congr 2
    rw [Int.mul_assoc, Int.mul_assoc, Int.mul_comm (y.getD k 0)]
  · rw [if_neg e]
    have e3 : ¬ i ^^^ c = k := fun h => e (by rw [← h, xor_back])
    unfold pk
    by_cases e2 : i ^^^ c < k
    · rw [if_pos e2, if_pos (by omega)]
    · rw [if_neg e2, if_neg (by omega)]
theorem and_64 {a b : Nat} (ha : a < 64) (hb : b < 64) : bits .and .i64 (a : Int) (b : Int) = ((a &&& b : Nat) : Int) := by
  have h : ∀ a : Nat, a < 64 → ∀ b : Nat, b < 64 → bits .and .i64 (a : Int) (b : Int) = ((a &&& b : Nat) : Int) := by decide +kernel
  exact h a ha b hb
theorem beq_nat (a b : Nat) : ((a : Int) == (b : Int)) = (a == b) := by
  by_cases h : a = b
  · subst h; simp
  · have h2 : ¬ (a : Int) = (b : Int) := by omega
    rw [beq_eq_false_iff_ne.2 h2, beq_eq_false_iff_ne.2 h]
theorem bne_nat (a b : Nat) : ((a : Int) != (b : Int)) = !(a == b) := by unfold bne; rw [beq_nat]
theorem beq_nat0 (a : Nat) : ((a : Int) == 0) = (a == 0) := beq_nat a 0
theorem bne_nat0 (a : Nat) : ((a : Int) != 0) = !(a == 0) := bne_nat a 0

end Go.Proofs.Ytkibkkdeaojjoab
