/-
  The model's product of the kind 1: contract.
  Conditions: a space and multivectors of it: rows of known cells with numbers of the prime.
  The model's product of the kind 2: contract.
  Conditions: a space and multivectors of it: rows of known cells with numbers of the prime.
  The program's products of a kind: sums; the table of the kinds: contracts.
  No conditions but masks below 64.
-/
import Derived.Test.YtkibkkdeaojjoabQc13
import Derived.Laws.EntriesVeiled
namespace Go.Proofs.Ytkibkkdeaojjoab
open Go.RowKit Go.Maps
set_option linter.unusedVariables false

/-- The number at c, when the terms that have come are added. -/
def gqk (p : Int) (S : List Int) (κ : Nat) (x y : List Int) (left : Lit → Bool) (c : Nat) : Int := sm (bl S) (fl x left (tk p S κ x y c))
theorem tk_none {p : Int} {S : List Int} {κ : Nat} {x y : List Int} {c a : Nat} (h : x.getD a 0 = 0) : tk p S κ x y c a = 0 := by unfold tk; rw [tm_none h, ite_self]
theorem gqk_start {D : DataW Unit} {p : Int} {S : List Int} {κ : Nat} {x y : List Int} (h : Tm D x (bl S)) (c : Nat) : gqk p S κ x y (Maps.has D) c = 0 := by
  unfold gqk; rw [sm_congr (fun j hj => fl_start h (tk p S κ x y c) hj), sm_zero]
theorem gqk_end {p : Int} {S : List Int} {κ : Nat} {x y : List Int} {left : Lit → Bool} (h : ∀ kl, left kl = false) (c : Nat) : gqk p S κ x y left c = sm (bl S) (tk p S κ x y c) := by
  unfold gqk
  apply sm_congr
  intro j _
  rw [fl_end h]
  by_cases e : x.getD j 0 ≠ 0
  · rw [if_pos e]
  · rw [if_neg e, tk_none (by simpa using e)]
theorem gqk_step {p : Int} {S : List Int} {κ : Nat} {x y : List Int} {left : Lit → Bool} {k : Nat} (hk : k < bl S) (hne : x.getD k 0 ≠ 0) (ht : td left k = true) (c : Nat) : gqk p S κ x y (fun z => left z && !z.sameKey (.int .i64 (k : Int))) c = gqk p S κ x y left c + tk p S κ x y c k := by
  unfold gqk
  rw [← sm_put hk (tk p S κ x y c k) (f := fl x left (tk p S κ x y c)) (by unfold fl; rw [if_neg (fun e => by rw [ht] at e; cases e.2)])]
  exact sm_congr fun j _ => (fl_step hne j).symm
theorem tk_bd {p : Int} (h3 : 3 ≤ p) (h13 : p ≤ 13) {S : List Int} {κ : Nat} {x y : List Int} (nx : Nums p x) (ny : Nums p y) (lx : x.length = bl S) (ly : y.length = bl S) {c a : Nat} (hc : c < bl S) (ha : a < bl S) : 0 ≤ tk p S κ x y c a ∧ tk p S κ x y c a ≤ 1728 := by
  unfold tk
  split
  · exact tm_bd h3 h13 nx ny lx ly hc ha
  · omega
theorem gqk_bd {p : Int} (h3 : 3 ≤ p) (h13 : p ≤ 13) {S : List Int} {κ : Nat} {x y : List Int} (h6 : S.length ≤ 6) (nx : Nums p x) (ny : Nums p y) (lx : x.length = bl S) (ly : y.length = bl S) (left : Lit → Bool) {c : Nat} (hc : c < bl S) : 0 ≤ gqk p S κ x y left c ∧ gqk p S κ x y left c ≤ 110592 := by
  have h := sm_bd (n := bl S) (f := fl x left (tk p S κ x y c)) (b := 1728) (fun j hj => by
    unfold fl
    split
    · exact tk_bd h3 h13 nx ny lx ly hc hj
    · omega)
  have := bl_le h6
  unfold gqk; omega
/-- .. and those of the first k numbers of the term j. -/
def gkk (p : Int) (S : List Int) (κ : Nat) (x y : List Int) (left : Lit → Bool) (j k c : Nat) : Int := gqk p S κ x y left c + if j ^^^ c < k then tk p S κ x y c j else 0
theorem gkk_start (p : Int) (S : List Int) (κ : Nat) (x y : List Int) (left : Lit → Bool) (j c : Nat) : gkk p S κ x y left j 0 c = gqk p S κ x y left c := by unfold gkk; rw [if_neg (Nat.not_lt_zero _), Int.add_zero]
theorem gkk_end {p : Int} {S : List Int} {κ : Nat} {x y : List Int} {left : Lit → Bool} {j c : Nat} (hj : j < bl S) (hc : c < bl S) (hne : x.getD j 0 ≠ 0) (ht : td left j = true) : gkk p S κ x y left j (bl S) c = gqk p S κ x y (fun z => left z && !z.sameKey (.int .i64 (j : Int))) c := by
  rw [gqk_step hj hne ht]; unfold gkk; rw [if_pos (show j ^^^ c < bl S from Nat.xor_lt_two_pow hj hc)]
theorem gkk_here (p : Int) (S : List Int) (κ : Nat) (x y : List Int) (left : Lit → Bool) (j k : Nat) : gkk p S κ x y left j k (j ^^^ k) = gqk p S κ x y left (j ^^^ k) := by unfold gkk; rw [xor_back, if_neg (Nat.lt_irrefl _), Int.add_zero]
theorem gkk_put (p : Int) (S : List Int) (κ : Nat) (x y : List Int) (left : Lit → Bool) (j k : Nat) (hk : kp κ j k = true) {v : Int} (hv : v = gkk p S κ x y left j k (j ^^^ k) + x.getD j 0 * fm p S j k S.length * y.getD k 0) (c : Nat) : (if c = j ^^^ k then v else gkk p S κ x y left j k c) = gkk p S κ x y left j (k + 1) c := by
  by_cases e : c = j ^^^ k
  · rw [if_pos e, hv, e, gkk_here]
    unfold gkk
    rw [xor_back, if_pos (Nat.lt_succ_self k), tk_yes hk]
    unfold tm
    rw [xor_back]
  · rw [if_neg e]
    have e3 : ¬ j ^^^ c = k := fun h => e (by rw [← h, xor_back])
    unfold gkk
    by_cases e2 : j ^^^ c < k
    · rw [if_pos e2, if_pos (by omega)]
    · rw [if_neg e2, if_neg (by omega)]
theorem gkk_skip {p : Int} {S : List Int} {κ : Nat} {x y : List Int} {left : Lit → Bool} {j k : Nat} (hk : kp κ j k = false) (c : Nat) : gkk p S κ x y left j k c = gkk p S κ x y left j (k + 1) c := by
  unfold gkk
  by_cases e : j ^^^ c = k
  · have e2 : c = j ^^^ k := by rw [← e, xor_back]
    rw [if_neg (by omega), if_pos (by omega), e2, tk_no hk]
  · by_cases e2 : j ^^^ c < k
    · rw [if_pos e2, if_pos (by omega)]
    · rw [if_neg e2, if_neg (by omega)]

theorem productKinds_any (w : World) : Calls Try.prog 109 #[] w fun e w' => e = .returned (.agg #[.func (.func 131) #[] #[], .func (.func 132) #[] #[], .func (.func 133) #[] #[]]) ∧ Below w.heap.size w w' := by
  go_enter Try.func109, Try.ntmps109
  go_wp2
  refine bodyPost_ret (v := .agg #[.func (.func 131) #[] #[], .func (.func 132) #[] #[], .func (.func 133) #[] #[]]) (by simp [results, Try.results109, go_sem]) rfl ⟨rfl, ?_⟩
  ((repeat' (first | with_reducible exact Below.refl _ _ | (with_reducible refine Below.setCell ?_ ?_ _) | (with_reducible refine Below.alloc ?_ ?_ _) | (with_reducible refine Below.drew ?_))); all_goals (first | (simp; done) | omega | (simp; omega)))
theorem kept0 (a b : Nat) (w : World) (ha : a < 64) (hb : b < 64) : Calls Try.prog 131 #[.int .i64 a, .int .i64 b] w fun e w' => e = .returned (.bool (kp 0 a b)) ∧ w' = w := by
  have hand := and_64 ha hb
  have hB : (bits .and .i64 (a : Int) (b : Int) == 0) = kp 0 a b := by rw [hand]; exact beq_nat0 _
  clear hand
  go_enter Try.func131, Try.ntmps131
  go_wp2
  go_ret
  exact ⟨rfl, rfl⟩
theorem kind_index0 (w : World) : (Instr.index 106 (.agg #[.func (.func 131) #[] #[], .func (.func 132) #[] #[], .func (.func 133) #[] #[]]) (.int .i64 0)).run Try.prog w = .ok (.func (.func 131) #[] #[]) w := by kernel_rfl
theorem ss2 {B : Nat} {w w' : World} (h : Below B w w') {g : Nat} {u0 u1 : Value} (l : g < B) (h0 : w.cell? ⟨g, 0, none⟩ = some u0 ∧ w.cell? ⟨g, 1, none⟩ = some u1) : w'.cell? ⟨g, 0, none⟩ = some u0 ∧ w'.cell? ⟨g, 1, none⟩ = some u1 :=
  ⟨(h.cell (p := ⟨g, 0, none⟩) l).trans h0.1, (h.cell (p := ⟨g, 1, none⟩) l).trans h0.2⟩
theorem ss2a {w : World} {g : Nat} {u0 u1 : Value} (o : Obj) (l : g < w.heap.size) (h0 : w.cell? ⟨g, 0, none⟩ = some u0 ∧ w.cell? ⟨g, 1, none⟩ = some u1) : (w.alloc o).cell? ⟨g, 0, none⟩ = some u0 ∧ (w.alloc o).cell? ⟨g, 1, none⟩ = some u1 := ss2 (below_alloc w o) l h0
theorem belowA {B : Nat} {w w' : World} (h : Below B w w') (hB : B = w.heap.size) (o : Obj) : Below B w (w'.alloc o) := by subst hB; exact h.alloc h.size o

end Go.Proofs.Ytkibkkdeaojjoab
