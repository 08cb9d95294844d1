/-
  Multivectors: sizes, codes, grades; what chapter 4 makes of them. No Go in sight.
  No conditions.
  Geometric products: signs and factors of blades, their sums, associativity, the unit. No Go in sight.
  No conditions.
  Lists and matrices of numbers that a call builds by append.
  No conditions.
  The program's new matrices of zeros.
  Conditions: at least one column, at most 1024 rows and columns.
  The program's transposed matrices and unit matrices: contracts.
  Conditions: the matrix is a row of rows of known cells, all of one length, at most 1024.
-/
import Derived.Test.YtkibkkdeaojjoaaQe6
import Derived.Test.YtkibkkdeaojjoaaQe4
import Derived.Laws.AppendOwn
import Derived.Deep.LoopGhost
import Derived.OwnWalk
import Derived.RegionTactic
import Derived.ChangeAlike
namespace Go.Proofs.Ytkibkkdeaojjoaa
open Go.RowKit
set_option linter.unusedVariables false

/-- How many blades there are. -/
def bl (S : List Int) : Nat := 2 ^ S.length
theorem bl_le {S : List Int} (h : S.length ≤ 6) : bl S ≤ 64 := Nat.pow_le_pow_right (by decide) h
theorem bl_pos (S : List Int) : 0 < bl S := Nat.two_pow_pos _
def isMv (p : Int) (S x : List Int) : Bool := isVec p (bl S) x
def codeMv (p : Int) (S : List Int) (m : List (List Int)) : Int := if isSp p S = true then (if m.all (isMv p S) = true then 0 else 2) else 1
theorem codeMv_sp {p : Int} {S : List Int} {m : List (List Int)} (h : isSp p S = false) : codeMv p S m = 1 := if_neg (by simp [h])
theorem codeMv_ok {p : Int} {S : List Int} {m : List (List Int)} (h : isSp p S = true) (k : m.all (isMv p S) = true) : codeMv p S m = 0 := by unfold codeMv; rw [if_pos h, if_pos k]
theorem codeMv_no {p : Int} {S : List Int} {m : List (List Int)} (h : isSp p S = true) (k : m.all (isMv p S) = false) : codeMv p S m = 2 := by unfold codeMv; rw [if_pos h, if_neg (by simp [k])]
theorem codeMv_cases (p : Int) (S : List Int) (m : List (List Int)) : (isSp p S = false ∧ codeMv p S m = 1) ∨ (isSp p S = true ∧ m.all (isMv p S) = true ∧ codeMv p S m = 0) ∨ (isSp p S = true ∧ m.all (isMv p S) = false ∧ codeMv p S m = 2) := by
  by_cases h : isSp p S = true
  · by_cases k : m.all (isMv p S) = true
    · exact .inr (.inl ⟨h, k, codeMv_ok h k⟩)
    · have k' : m.all (isMv p S) = false := by simpa using k
      exact .inr (.inr ⟨h, k', codeMv_no h k'⟩)
  · have h' : isSp p S = false := by simpa using h
    exact .inl ⟨h', codeMv_sp h'⟩
theorem codeMv_zero {p : Int} {S : List Int} {m : List (List Int)} : codeMv p S m = 0 ↔ isSp p S = true ∧ m.all (isMv p S) = true := by
  rcases codeMv_cases p S m with ⟨h, c⟩ | ⟨h, k, c⟩ | ⟨h, k, c⟩ <;> rw [c]
  · exact ⟨fun e => (by cases e), fun e => (by have e1 := e.1; rw [h] at e1; cases e1)⟩
  · exact ⟨fun _ => ⟨h, k⟩, fun _ => rfl⟩
  · exact ⟨fun e => (by cases e), fun e => (by have e1 := e.2; rw [k] at e1; cases e1)⟩
/-- The grade of a blade. -/
def gr (m : Nat) : Nat := m % 2 + m / 2 % 2 + m / 4 % 2 + m / 8 % 2 + m / 16 % 2 + m / 32 % 2
def bladeM (S : List Int) (k : Nat) : List Int := mkR (bl S) fun j => if j = k then 1 else 0
def sclV (p : Int) (x : List Int) (k : Int) : List Int := mkR x.length fun j => x.getD j 0 * k % p
end Go.Proofs.Ytkibkkdeaojjoaa

namespace Go.Proofs.Ytkibkkdeaojjoaa
open Go.RowKit
set_option linter.unusedVariables false

/-- A sign. -/
def eps (k : Nat) : Int := if k % 2 = 1 then -1 else 1
/-- What the basis vector i of a blade b brings with it behind the blade a. -/
def gi (S : List Int) (a b i : Nat) : Int := if b / 2 ^ i % 2 = 1 then eps (gr (a / 2 ^ (i + 1))) * (if a / 2 ^ i % 2 = 1 then S.getD i 0 else 1) else 1
/-- The factor of the product of two blades, over the first n basis vectors of the second one. -/
def fz (S : List Int) (a b : Nat) : Nat → Int
  | 0 => 1
  | n + 1 => fz S a b n * gi S a b n
theorem bit_add {b i n : Nat} (h : i < n) : (b + 2 ^ n) / 2 ^ i % 2 = b / 2 ^ i % 2 := by
  obtain ⟨d, rfl⟩ : ∃ d, n = i + 1 + d := ⟨n - i - 1, by omega⟩
  have e : (2 : Nat) ^ (i + 1 + d) = 2 ^ d * 2 * 2 ^ i := by rw [Nat.pow_add, Nat.pow_succ, Nat.mul_comm (2 ^ i * 2), Nat.mul_comm (2 ^ i), Nat.mul_assoc]
  rw [e, Nat.add_mul_div_right _ _ (Nat.two_pow_pos i)]
  omega
theorem fz_add (S : List Int) (a b N : Nat) : ∀ n, n ≤ N → fz S a (b + 2 ^ N) n = fz S a b n
  | 0, _ => rfl
  | n + 1, h => by simp only [fz]; rw [fz_add S a b N n (by omega)]; unfold gi; rw [bit_add (by omega)]

/-- The number at c of the product, over the integers. -/
def gpz (S : List Int) (n : Nat) (x y : Nat → Int) (c : Nat) : Int := sm (2 ^ n) fun a => x a * fz S a (a ^^^ c) n * y (a ^^^ c)
theorem xor_back (a c : Nat) : a ^^^ (a ^^^ c) = c := by rw [← Nat.xor_assoc, Nat.xor_self, Nat.zero_xor]
theorem sm_congr_p {p : Int} {n : Nat} {f g : Nat → Int} (h : ∀ j, j < n → f j % p = g j % p) : sm n f % p = sm n g % p := by
  rw [← sm_mod n p f, ← sm_mod n p g, sm_congr h]
theorem em_l (a b p : Int) : (a % p * b) % p = (a * b) % p := by rw [Int.mul_emod, Int.emod_emod, ← Int.mul_emod]
theorem em_r (a b p : Int) : (a * (b % p)) % p = (a * b) % p := by rw [Int.mul_emod, Int.emod_emod, ← Int.mul_emod]
/-- The geometric product of two lists of numbers. -/
def prodF (p : Int) (S x y : List Int) (c : Nat) : Int := gpz S S.length (fun j => x.getD j 0) (fun j => y.getD j 0) c % p
def prodM (p : Int) (S x y : List Int) : List Int := mkR (bl S) (prodF p S x y)
theorem prodM_len (p : Int) (S x y : List Int) : (prodM p S x y).length = bl S := mkR_len _ _
theorem prodM_at (p : Int) (S x y : List Int) {c : Nat} (hc : c < bl S) : (prodM p S x y).getD c 0 = prodF p S x y c := mkR_at _ hc
theorem prodF_bd {p : Int} (hp : 0 < p) (S x y : List Int) (c : Nat) : 0 ≤ prodF p S x y c ∧ prodF p S x y c < p := ⟨Int.emod_nonneg _ (by omega), Int.emod_lt_of_pos _ hp⟩
theorem prodM_num {p : Int} (hp : 0 < p) (S x y : List Int) : ∀ j, j < (prodM p S x y).length → 0 ≤ (prodM p S x y).getD j 0 ∧ (prodM p S x y).getD j 0 < p := fun j hj => by
  rw [prodM_len] at hj
  rw [prodM_at p S x y hj]
  exact prodF_bd hp S x y j

/-- The factor, as a number of the prime. -/
def fm (p : Int) (S : List Int) (a b n : Nat) : Int := fz S a b n % p
theorem fm_bd {p : Int} (hp : 0 < p) (S : List Int) (a b n : Nat) : 0 ≤ fm p S a b n ∧ fm p S a b n < p := ⟨Int.emod_nonneg _ (by omega), Int.emod_lt_of_pos _ hp⟩
theorem fm_zero {p : Int} (hp : 1 < p) (S : List Int) (a b : Nat) : fm p S a b 0 = 1 := Int.emod_eq_of_lt (by show (0 : Int) ≤ 1; decide) hp
theorem fm_skip (p : Int) (S : List Int) {a b n : Nat} (h : b / 2 ^ n % 2 = 0) : fm p S a b (n + 1) = fm p S a b n := by
  show fz S a b n * gi S a b n % p = fz S a b n % p
  unfold gi
  rw [if_neg (by omega), Int.mul_one]
theorem fm_add (p : Int) (S : List Int) (a b n : Nat) : fm p S a (b + 2 ^ n) n = fm p S a b n := by
  unfold fm; rw [fz_add S a b n n (Nat.le_refl _)]
/-- What the program multiplies by. -/
def fi (p : Int) (S : List Int) (a i : Nat) : Int := if a / 2 ^ i % 2 = 1 then (if gr (a / 2 ^ (i + 1)) % 2 = 1 then p - 1 else 1) * S.getD i 0 % p else (if gr (a / 2 ^ (i + 1)) % 2 = 1 then p - 1 else 1)
theorem fm_step (p : Int) (S : List Int) {a b n : Nat} (h : b / 2 ^ n % 2 = 1) : fm p S a b (n + 1) = fm p S a b n * fi p S a n % p := by
  show fz S a b n * gi S a b n % p = fz S a b n % p * fi p S a n % p
  rw [em_l]
  unfold gi fi eps
  rw [if_pos h]
  have e : ∀ s : Int, (p - 1) * s = -1 * s + p * s := fun s => by rw [Int.sub_mul]; omega
  by_cases h1 : gr (a / 2 ^ (n + 1)) % 2 = 1 <;> by_cases h2 : a / 2 ^ n % 2 = 1
  · rw [if_pos h1, if_pos h1, if_pos h2, if_pos h2, em_r, ← em_r _ ((p - 1) * _), e, Int.add_mul_emod_self_left, em_r]
  · rw [if_pos h1, if_pos h1, if_neg h2, if_neg h2, ← em_r _ (p - 1), Int.sub_emod_left, em_r]; rfl
  · rw [if_neg h1, if_neg h1, if_pos h2, if_pos h2, em_r]
  · rw [if_neg h1, if_neg h1, if_neg h2, if_neg h2]; congr 1
/-- One product of three numbers. -/
def tm (p : Int) (S x y : List Int) (c a : Nat) : Int := x.getD a 0 * fm p S a (a ^^^ c) S.length * y.getD (a ^^^ c) 0
theorem tm_sum (p : Int) (S x y : List Int) (c : Nat) : sm (bl S) (tm p S x y c) % p = prodF p S x y c := by
  apply sm_congr_p
  intro a _
  unfold tm fm
  rw [Int.mul_assoc, Int.mul_assoc, ← em_r, em_l, em_r]

end Go.Proofs.Ytkibkkdeaojjoaa

namespace Go.Proofs.Ytkibkkdeaojjoaa
open Go.RowKit
set_option linter.unusedVariables false

/-- A list of one's own in a block of numbers. -/
def TagR (lo tp : Nat) (w : World) (a : Option Addr) (zs : List Int) : Prop :=
  zs = [] ∨ ∃ b o cur, a = some ⟨b, o, none⟩ ∧ lo ≤ b ∧ b < tp ∧ w.heap[b]? = some (.cells cur 2 (0, 0)) ∧ ∀ j, j < zs.length → w.cell? ⟨b, o + j, none⟩ = some (.int .i64 (zs.getD j 0))
theorem free_of {w : World} {b : Nat} {cur : Array Value} {t : TypeId} (h : w.heap[b]? = some (.cells cur t (0, 0))) (j : Nat) : w.frozen? ⟨b, j, none⟩ = false := by
  simp [World.frozen?, h]
theorem TagR.own {lo tp : Nat} {w : World} {a : Option Addr} {zs : List Int} (h : TagR lo tp w a zs) : OwnR lo tp w a zs := by
  rcases h with h | ⟨b, o, cur, ha, h0, h1, ht, hc⟩
  · exact .inl h
  · exact .inr ⟨b, o, ha, h0, h1, fun j hj => ⟨hc j hj, free_of ht _⟩⟩
theorem TagR.row {lo tp : Nat} {w : World} {a : Option Addr} {zs : List Int} (h : TagR lo tp w a zs) : RowIn lo tp w a zs := h.own.row
theorem TagR.block {lo tp lo' tp' : Nat} {w w' : World} {a : Option Addr} {zs : List Int} (h : TagR lo tp w a zs) (k0 : lo' ≤ lo) (k1 : tp ≤ tp')
    (k : ∀ b cur, lo ≤ b → b < tp → w.heap[b]? = some (.cells cur 2 (0, 0)) → w'.heap[b]? = w.heap[b]?) : TagR lo' tp' w' a zs := by
  rcases h with h | ⟨b, o, cur, ha, h0, h1, ht, hc⟩
  · exact .inl h
  · have e := k b cur h0 h1 ht
    exact .inr ⟨b, o, cur, ha, by omega, by omega, e.trans ht, fun j hj => (World.cell?_of_block (w := w) (a := ⟨b, o + j, none⟩) e).trans (hc j hj)⟩
theorem TagR.below {B lo tp lo' tp' : Nat} {w w' : World} {a : Option Addr} {zs : List Int} (h : TagR lo tp w a zs) (hb : Below B w w') (hB : tp ≤ B) (k0 : lo' ≤ lo) (k1 : tp ≤ tp') : TagR lo' tp' w' a zs :=
  h.block k0 k1 (fun b _ _ h1 _ => hb.block b (by omega))
theorem below_grown {w w' : World} (h : Below w.heap.size w w') : w.grownBy w' none := ⟨h.os, h.tape, h.output, h.size, fun k hk _ => h.block k hk⟩

/-- A list that is being built. -/
def OutR (B : Nat) (w : World) (v : Value) (zs : List Int) : Prop := w.ownsRow B 2 1 v zs.length (zs.map (Value.int .i64))
theorem OutR.tag {B : Nat} {w : World} {v : Value} {zs : List Int} (h : OutR B w v zs) : ∃ a c, v = .slice a zs.length c ∧ TagR B w.heap.size w a zs := by
  have h0 := h
  obtain ⟨_, h⟩ := h
  rcases h with ⟨rfl, hn⟩ | ⟨g, cap, cur, rfl, hb, hg, hnc, hcm, hcs, htake⟩
  · exact ⟨none, 0, by rw [hn], .inl (List.eq_nil_of_length_eq_zero hn)⟩
  · have hlt : g < w.heap.size := (Array.getElem?_eq_some_iff.1 hg).1
    refine ⟨_, cap, rfl, .inr ⟨g, 0, cur, rfl, hb, hlt, hg, fun j hj => ?_⟩⟩
    have := h0.cells (g := g) rfl j (.int .i64 (zs.getD j 0)) (by simp [hj, List.getD])
    rwa [Addr.add_lit] at this
theorem OutR.below {B : Nat} {w w' : World} {v : Value} {zs : List Int} (h : OutR B w v zs) (hb : Below w.heap.size w w') : OutR B w' v zs :=
  World.ownsRow.kept h (below_grown hb) (by cases hv : v.ownBlock <;> simp)
theorem OutR.start (w : World) (B : Nat) (t : TypeId) (hB : B ≤ w.heap.size) (ht : t = 2) : OutR B (w.alloc (.cells #[] t)) (.slice (some ⟨w.heap.size, 0, none⟩) 0 0) [] := by
  subst ht
  exact World.ownsRow_made w #[] 0 hB (Nat.zero_le _) rfl

theorem OutR.step {B : Nat} {w w1 : World} {v v' : Value} {i : Nat} {f : Nat → Int} {X : List Value} {x : Int} (_ : w.ownsRow B 2 1 v i X) (hX : X = (mkR i f).map (Value.int .i64)) (hs : mkR (i + 1) f = mkR i f ++ [x])
    (h1 : w1.ownsRow B 2 1 v' (i + 1) (X ++ [.int .i64 x])) : OutR B w1 v' (mkR (i + 1) f) := by
  unfold OutR
  rw [mkR_len, hs, List.map_append, ← hX]
  exact h1

/-- A matrix that is being built. -/
def OutM (B : Nat) (w : World) (v : Value) (m : List (List Int)) : Prop :=
  ∃ vals : List Value, w.ownsRow B 22 1 v m.length vals ∧ ∀ i, i < m.length → ∃ r c, vals[i]? = some (.slice r (rw' m i).length c) ∧ TagR B w.heap.size w r (rw' m i)
theorem OutM.start (w : World) (B : Nat) (t : TypeId) (hB : B ≤ w.heap.size) (ht : t = 22) : OutM B (w.alloc (.cells #[] t)) (.slice (some ⟨w.heap.size, 0, none⟩) 0 0) [] := by
  subst ht
  exact ⟨[], World.ownsRow_made w #[] 0 hB (Nat.zero_le _) rfl, fun i hi => by simp at hi⟩
theorem OutM.below {B : Nat} {w w' : World} {v : Value} {m : List (List Int)} (h : OutM B w v m) (hb : Below w.heap.size w w') : OutM B w' v m := by
  obtain ⟨vals, ho, hr⟩ := h
  refine ⟨vals, ho.kept (below_grown hb) (by cases hv : v.ownBlock <;> simp), fun i hi => ?_⟩
  obtain ⟨r, c, h1, h2⟩ := hr i hi
  exact ⟨r, c, h1, h2.below hb (Nat.le_refl _) (Nat.le_refl _) hb.size⟩
theorem rw_append {m : List (List Int)} {z : List Int} {i : Nat} (h : i < m.length) : rw' (m ++ [z]) i = rw' m i := by simp only [rw', List.getD_eq_getElem?_getD]; rw [List.getElem?_append_left h]
theorem rw_append_last (m : List (List Int)) (z : List Int) : rw' (m ++ [z]) m.length = z := by simp [rw', List.getD]
/-- A row is appended: 'w1' is the world behind the append. -/
theorem OutM.push {B : Nat} {w w1 : World} {v v' : Value} {m : List (List Int)} {vals : List Value} {r : Option Addr} {z : List Int} {c : Nat}
    (ho : w.ownsRow B 22 1 v m.length vals) (hr : ∀ i, i < m.length → ∃ r c, vals[i]? = some (.slice r (rw' m i).length c) ∧ TagR B w.heap.size w r (rw' m i))
    (hz : TagR B w.heap.size w r z) (h1 : w1.ownsRow B 22 1 v' (m.length + 1) (vals ++ [.slice r z.length c])) (hg : w.grownBy w1 v.ownBlock) : OutM B w1 v' (m ++ [z]) := by
  have hvl : vals.length = m.length := by have := ho.1; omega
  have keep : ∀ b cur, B ≤ b → b < w.heap.size → w.heap[b]? = some (.cells cur 2 (0, 0)) → w1.heap[b]? = w.heap[b]? := by
    intro b cur _ hlt ht
    refine hg.block b hlt (fun e => ?_)
    rcases ho.2 with ⟨rfl, _⟩ | ⟨g, cap, cur', rfl, _, hgg, _⟩
    · simp [Value.ownBlock] at e
    · simp [Value.ownBlock] at e
      subst e
      rw [hgg] at ht
      simp at ht
  refine ⟨vals ++ [.slice r z.length c], by rw [List.length_append]; exact h1, fun i hi => ?_⟩
  simp only [List.length_append, List.length_cons, List.length_nil] at hi
  by_cases e : i < m.length
  · obtain ⟨r', c', g1, g2⟩ := hr i e
    rw [rw_append e]
    exact ⟨r', c', by rw [List.getElem?_append_left (by omega)]; exact g1, g2.block (Nat.le_refl _) hg.size (fun b cur h0 h1 h2 => keep b cur h0 h1 h2)⟩
  · have : i = m.length := by omega
    subst this
    rw [rw_append_last]
    exact ⟨r, c, by rw [← hvl]; simp, hz.block (Nat.le_refl _) hg.size (fun b cur h0 h1 h2 => keep b cur h0 h1 h2)⟩
theorem OutM.mat {B : Nat} {w : World} {v : Value} {m : List (List Int)} (h : OutM B w v m) : ∃ a c, v = .slice a m.length c ∧ MatIn B w.heap.size w a m := by
  obtain ⟨vals, ho, hr⟩ := h
  rcases ho.2 with ⟨rfl, hn⟩ | ⟨g, cap, cur, rfl, hb, hg, hnc, hcm, hcs, htake⟩
  · exact ⟨none, 0, by rw [hn], .inl (List.eq_nil_of_length_eq_zero hn)⟩
  · have hlt : g < w.heap.size := (Array.getElem?_eq_some_iff.1 hg).1
    refine ⟨_, cap, rfl, .inr ⟨g, 0, rfl, hb, hlt, fun i hi => ?_⟩⟩
    obtain ⟨r, c, h1, h2⟩ := hr i hi
    refine ⟨r, c, ?_, h2.row⟩
    have := ho.cells (g := g) rfl i _ h1
    rwa [Addr.add_lit] at this

/-- A list in new memory is handed back. -/
def NewR (z : List Int) (w : World) (e : Ending) (w' : World) : Prop :=
  ∃ r c, e = .returned (.slice r z.length c) ∧ TagR w.heap.size w'.heap.size w' r z ∧ Below w.heap.size w w'
theorem OutR.new {w w' : World} {v : Value} {zs : List Int} (h : OutR w.heap.size w' v zs) (hb : Below w.heap.size w w') : NewR zs w (.returned v) w' := by
  obtain ⟨a, c, rfl, ht⟩ := h.tag
  exact ⟨a, c, rfl, ht, hb⟩
/-- A matrix in new memory is handed back, to be read. -/
def NewM (m : List (List Int)) (w : World) (e : Ending) (w' : World) : Prop :=
  ∃ r c, e = .returned (.slice r m.length c) ∧ MatIn w.heap.size w'.heap.size w' r m ∧ Below w.heap.size w w'
theorem OutM.new {w w' : World} {v : Value} {m : List (List Int)} (h : OutM w.heap.size w' v m) (hb : Below w.heap.size w w') : NewM m w (.returned v) w' := by
  obtain ⟨a, c, rfl, ht⟩ := h.mat
  exact ⟨a, c, rfl, ht, hb⟩

theorem mk_succ (n c : Nat) (f : Nat → Nat → Int) : mk (n + 1) c f = mk n c f ++ [mkR c (f n)] := by simp [mk, List.range_succ]
theorem OutM.next {B B' n c : Nat} {w w1 : World} {o : Obj} {v v' : Value} {f : Nat → Nat → Int} {z : List Int} {vals : List Value} {r : Option Addr} {cp : Nat}
    (ho : w.ownsRow B 22 1 v n vals) (hr : ∀ i, i < n → ∃ r c', vals[i]? = some (.slice r (rw' (mk n c f) i).length c') ∧ TagR B w.heap.size w r (rw' (mk n c f) i))
    (hz : TagR B' w.heap.size w r z) (he : z = mkR c (f n)) (hB : B ≤ B') (h1 : w1.ownsRow B 22 1 v' (n + 1) (vals ++ [.slice r c cp])) (hg : (w.alloc o).grownBy w1 v.ownBlock) : OutM B w1 v' (mk (n + 1) c f) := by
  subst he
  have hb : Below w.heap.size w (w.alloc o) := (Below.refl _ _).alloc (Nat.le_refl _) o
  rw [mk_succ]
  refine OutM.push (m := mk n c f) (w := w.alloc o) (vals := vals) (by rw [mk_len]; exact ho.alloc o) (fun i hi => ?_) (hz.below hb (Nat.le_refl _) hB hb.size) (c := cp) (by rw [mk_len, mkR_len]; exact h1) hg
  rw [mk_len] at hi
  obtain ⟨r', c', g1, g2⟩ := hr i hi
  exact ⟨r', c', g1, g2.below hb (Nat.le_refl _) (Nat.le_refl _) hb.size⟩

end Go.Proofs.Ytkibkkdeaojjoaa

namespace Go.Proofs.Ytkibkkdeaojjoaa
open Go.RowKit
set_option linter.unusedVariables false

/-- What has been cut out of one piece so far. -/
structure CutAt (w wr : World) (bm br n c i : Nat) : Prop where
  bel : Below w.heap.size w wr
  lm : w.heap.size ≤ bm ∧ bm < wr.heap.size
  lr : w.heap.size ≤ br ∧ br < wr.heap.size
  ne : bm ≠ br
  done : ∀ j, j < i → wr.cell? ⟨bm, j, none⟩ = some (.slice (some ⟨br, j * c, none⟩) c c)
  rest : ∀ j, i ≤ j → j < n → wr.cell? ⟨bm, j, none⟩ = some (.slice none 0 0)
  fm : ∀ j, wr.frozen? ⟨bm, j, none⟩ = false
  fr : ∀ j, wr.frozen? ⟨br, j, none⟩ = false
  zero : ∀ j, j < n * c → wr.cell? ⟨br, j, none⟩ = some (.int .i64 0)
theorem made_cell (w : World) (x : Value) (n : Nat) (t : TypeId) {j : Nat} (hj : j < n) : (w.alloc (.cells (madeCells #[x] n) t)).cell? ⟨w.heap.size, j, none⟩ = some x := by
  rw [World.cell?_alloc_new (w := w) (madeCells #[x] n) t j]
  simp [madeCells, hj, Nat.mod_one]
theorem CutAt.drew {w wr : World} {bm br n c i : Nat} (h : CutAt w wr bm br n c i) : CutAt w wr.drew bm br n c i := ⟨h.bel.drew, h.lm, h.lr, h.ne, h.done, h.rest, h.fm, h.fr, h.zero⟩
theorem CutAt.next {w wr : World} {bm br n c i o : Nat} (h : CutAt w wr bm br n c i) (hi : i < n) (ho : o = i * c) : CutAt w (wr.setCell ⟨bm, i, none⟩ (.slice (some ⟨br, o, none⟩) c c)) bm br n c (i + 1) where
  bel := h.bel.setCell h.lm.1 _
  lm := by simpa [World.setCell] using h.lm
  lr := by simpa [World.setCell] using h.lr
  ne := h.ne
  done j hj := by
    subst ho
    by_cases e : j = i
    · subst e; exact World.cell?_setCell_same wr _ _ (h.rest j (Nat.le_refl _) hi)
    · exact (World.cell?_setCell_other _ _ _ _ (by first | (simp; done) | (simp; omega))).trans (h.done j (by omega))
  rest j hj hl := (World.cell?_setCell_other _ _ _ _ (by first | (simp; done) | (simp; omega))).trans (h.rest j (by omega) hl)
  fm j := by simp [go_sem, h.fm]
  fr j := by simp [go_sem, h.fr]
  zero j hj := (World.cell?_setCell_other _ _ _ _ (fun e => h.ne (by injection e))).trans (h.zero j hj)
theorem CutAt.own {w wr : World} {bm br n c : Nat} (h : CutAt w wr bm br n c n) (hc : 1 ≤ c) : OwnAt w.heap.size wr.heap.size wr ⟨bm, 0, fun i => some ⟨br, i * c, none⟩, fun _ => br, fun i => i * c, fun _ => c⟩ n (fun _ => c) (fun _ _ => 0) where
  rng _ := h.lm
  top i hi := by show wr.cell? ⟨bm, 0 + i, none⟩ = _; rw [Nat.zero_add]; exact h.done i hi
  row i hi := .inr rfl
  rrng i hi _ := h.lr
  cell i hi j hj := h.zero _ (by
    have : (i + 1) * c ≤ n * c := Nat.mul_le_mul_right _ (by omega)
    have e : (i + 1) * c = i * c + c := Nat.succ_mul _ _
    show i * c + j < n * c
    omega)
  free i hi j hj := h.fr _
  apart i hi i' hi' hne j hj j' hj' e := by
    have e2 : i * c + j = i' * c + j' := e.2
    rcases Nat.lt_or_ge i i' with l | l
    · have : (i + 1) * c ≤ i' * c := Nat.mul_le_mul_right _ (by omega)
      have e3 : (i + 1) * c = i * c + c := Nat.succ_mul _ _
      omega
    · have : (i' + 1) * c ≤ i * c := Nat.mul_le_mul_right _ (by omega)
      have e3 : (i' + 1) * c = i' * c + c := Nat.succ_mul _ _
      omega
  tops i hi j hj i' hi' e := h.ne e.1.symm

end Go.Proofs.Ytkibkkdeaojjoaa
