/-
  Matrices of multiplications: products, and the determinant of a left matrix. No Go in sight.
  No conditions.
  Draws of multivectors: contracts.
  Conditions: the source stands in a block of known cells; the space is one.
-/
import Derived.Test.YtndneccgomfkdaaQm26
import Derived.Test.YtndneccgomfkdaaQm2
import Derived.Test.YtndneccgomfkdaaQm7
import Derived.Test.YtndneccgomfkdaaQm17
import Derived.Deep.RegionHeld3
import Derived.Deep.DeepCutAuto
namespace Go.Proofs.Ytndneccgomfkdaa
open Go.RowKit
set_option linter.unusedVariables false

theorem left_at {p : Int} {S x : List Int} {i j : Nat} (hi : i < bl S) (hj : j < bl S) : at' (leftM p S x) i j = prodF p S x (bladeM S j) i := mk_at _ hi hj
theorem right_at {p : Int} {S x : List Int} {i j : Nat} (hi : i < bl S) (hj : j < bl S) : at' (rightM p S x) i j = prodF p S (bladeM S j) x i := mk_at _ hi hj
/-- Left and right matrices lead multivectors to products. -/
theorem app_left {p : Int} {S x y : List Int} : appV p (leftM p S x) y = prodM p S x y := by
  unfold appV prodM
  rw [left_len]
  refine mkR_congr fun i hi => ?_
  rw [left_rl hi]
  refine Eq.trans ?_ (left_prod hi)
  congr 1
  exact sm_congr fun j hj => by show at' (leftM p S x) i j * _ = _; rw [left_at hi hj]
theorem app_right {p : Int} {S x y : List Int} : appV p (rightM p S x) y = prodM p S y x := by
  unfold appV prodM
  rw [right_len]
  refine mkR_congr fun i hi => ?_
  rw [right_rl hi]
  refine Eq.trans ?_ (right_prod hi)
  congr 1
  exact sm_congr fun j hj => by show at' (rightM p S x) i j * _ = _; rw [right_at hi hj, Int.mul_comm]
theorem mul_gen {p : Int} {S : List Int} {a b : List (List Int)} {f : Nat → Nat → Int} (hla : a.length = bl S) (hlb : b.length = bl S) (hr0 : (rw' b 0).length = bl S) (h : ∀ i k, i < bl S → k < bl S → sm (bl S) (fun j => at' a i j * at' b j k) % p = f i k) : mulM p a b = mk (bl S) (bl S) f := by
  unfold mulM
  rw [hla, hlb, hr0]
  exact mk_congr fun i hi k hk => h i k hi hk
theorem mul_left {p : Int} {S x y : List Int} : mulM p (leftM p S x) (leftM p S y) = leftM p S (prodM p S x y) := by
  have hb := bl_pos S
  refine mul_gen (left_len p S x) (left_len p S y) (left_rl hb) fun i k hi hk => ?_
  have e : sm (bl S) (fun j => at' (leftM p S x) i j * at' (leftM p S y) j k) = sm (bl S) (fun j => prodF p S x (bladeM S j) i * (prodM p S y (bladeM S k)).getD j 0) := sm_congr fun j hj => by
    rw [left_at hi hj, left_at hj hk, prodM_at p S _ _ hj]
  rw [e, left_prod hi, ← prodM_at p S _ _ hi, ← prodM_assoc, prodM_at p S _ _ hi]
theorem mul_right {p : Int} {S x y : List Int} : mulM p (rightM p S y) (rightM p S x) = rightM p S (prodM p S x y) := by
  have hb := bl_pos S
  refine mul_gen (right_len p S y) (right_len p S x) (right_rl hb) fun i k hi hk => ?_
  have e : sm (bl S) (fun j => at' (rightM p S y) i j * at' (rightM p S x) j k) = sm (bl S) (fun j => (prodM p S (bladeM S k) x).getD j 0 * prodF p S (bladeM S j) y i) := sm_congr fun j hj => by
    rw [right_at hi hj, right_at hj hk, prodM_at p S _ _ hj, Int.mul_comm]
  rw [e, right_prod hi, ← prodM_at p S _ _ hi, prodM_assoc, prodM_at p S _ _ hi]
theorem mul_both {p : Int} {S x y : List Int} : mulM p (leftM p S x) (rightM p S y) = mulM p (rightM p S y) (leftM p S x) := by
  have hb := bl_pos S
  rw [mul_gen (f := fun i k => prodF p S x (prodM p S (bladeM S k) y) i) (left_len p S x) (right_len p S y) (right_rl hb) fun i k hi hk => ?_, mul_gen (f := fun i k => prodF p S x (prodM p S (bladeM S k) y) i) (right_len p S y) (left_len p S x) (left_rl hb) fun i k hi hk => ?_]
  · have e : sm (bl S) (fun j => at' (rightM p S y) i j * at' (leftM p S x) j k) = sm (bl S) (fun j => (prodM p S x (bladeM S k)).getD j 0 * prodF p S (bladeM S j) y i) := sm_congr fun j hj => by
      rw [right_at hi hj, left_at hj hk, prodM_at p S _ _ hj, Int.mul_comm]
    rw [e, right_prod hi, ← prodM_at p S _ _ hi, prodM_assoc, prodM_at p S _ _ hi]
  · have e : sm (bl S) (fun j => at' (leftM p S x) i j * at' (rightM p S y) j k) = sm (bl S) (fun j => prodF p S x (bladeM S j) i * (prodM p S (bladeM S k) y).getD j 0) := sm_congr fun j hj => by
      rw [left_at hi hj, right_at hj hk, prodM_at p S _ _ hj]
    rw [e, left_prod hi]

end Go.Proofs.Ytndneccgomfkdaa

namespace Go.Proofs.Ytndneccgomfkdaa
open Go.RowKit
set_option linter.unusedVariables false

set_option maxHeartbeats 1600000 in
theorem listN_any (p : Int) (n : Nat) (b : Nat) (a : Option Addr) (len cap : Nat) (zs : List Int) (w : World) (hs : Src w b a len cap zs) (hn : n ≤ 1048576) (hp : 1 ≤ p) :
    Calls Try.prog 40 #[.pointer (some ⟨b, 0, none⟩), .int .i64 p, .int .i64 n] w (DrawnO (fun X => X.length = n ∧ ∀ j, j < X.length → 0 ≤ X.getD j 0 ∧ X.getD j 0 < p) b a len cap zs w) := by
  obtain ⟨i0, hi, hz0, hz1, hz2⟩ := info_parts info64
  have hlt := hs.lt
  have HS := Lib.hid hs
  clear hs
  go_enter Try.func40, Try.ntmps40
  go_wp2
  go_loopw [7, 2] (fun v t wr => ∃ (X : List Int), X.length ≤ n ∧ (∀ j, j < X.length → 0 ≤ X.getD j 0 ∧ X.getD j 0 < p) ∧ t = .int .i64 ((n : Int) - X.length) ∧ OutR w.heap.size wr v X ∧ Src wr b a len cap zs ∧ Only b w wr) (fun _ t _ => (intOf t).toNat)
  case atStart => exact ⟨[], Nat.zero_le _, fun j hj => by simp at hj, by simp, OutR.start w _ _ (Nat.le_refl _) rfl, HS.out.alloc _, (Only.refl b w).alloc _⟩
  case round =>
    obtain ⟨X, hX, hXn, rfl, ho, hsr, hon⟩ := hrel
    have HXN := Lib.hid hXn
    clear hXn
    have HO := Lib.hid ho
    have HSR := Lib.hid hsr
    have HON := Lib.hid hon
    have hwz := hon.size
    clear ho hsr hon
    by_cases hlx : X.length < n
    · have hp0 : (0 : Int) < (n : Int) - X.length := by omega
      obtain ⟨j, hj⟩ : ∃ j, j = X.length := ⟨_, rfl⟩
      obtain ⟨Y, hY⟩ : ∃ Y, Y = X.map (Value.int .i64) := ⟨_, rfl⟩
      have HJ := Lib.hid hj
      have HY := Lib.hid hY
      rw [← hj] at hp0 hlx ⊢
      clear hj hY
      go_wp2_with (first | (go_at_call 34; (with_reducible refine (next_any p b a len cap zs _ HSR.out).mono ?_); rintro e w3 ⟨x, rfl, hx, ho3, hs3⟩; have HXX := Lib.hid (hx hp); have hz3 := ho3.size; have H3 : Hid (w3.ownsRow w.heap.size 2 1 u7 j Y) := (by have h := HO.out.only ho3 hlt; unfold OutR at h; rw [← HY.out, ← HJ.out] at h; exact h); have HS3 := Lib.hid hs3; have HO3 := Lib.hid (HON.out.trans ho3); clear ho3 hs3 hx) | (at_builtin; refine wpList_append_lies _ rfl _ _ 24 rfl w.heap.size 2 i0 (.int .i64 0) 1 8 Try.underlying24 hi hz0 hz1 hz2 rfl (by decide) u7 j Y rfl (H3.out.alloc _) ⟨w3.heap.size, 0, none⟩ 1 1 [.int .i64 x] rfl rfl (World.news_of_block (cs := #[.int .i64 x]) (t := 2) (fr := (0, 0)) (heap_alloc_new w3 _)) (by simp [Value.oneCell']) (by omega) (by unfold maxLen; omega) (by omega) (by simp; omega) (w3.heap.size + 1) (by simp) ?_; intro gg cap w1 hown1 hgrow hat hlt1))
      go_roundw
      case rel => exact ⟨X ++ [x], by rw [List.length_append, ← HJ.out]; exact hlx, nums_push HXN.out HXX.out, by rw [List.length_append, ← HJ.out]; go_num, OutR.push (by rw [← HY.out, ← HJ.out]; exact hown1), (HS3.out.alloc _).grown hgrow (fun k e => by have := (H3.out.lt _ e).1; omega), (HO3.out.alloc _).grown hgrow (fun k e => (H3.out.lt _ e).1)⟩
      case measure => simp [intOf]; omega
    · have hp0 : ¬ (0 : Int) < (n : Int) - X.length := by omega
      go_wp2
      go_ret
      exact ⟨_, X, rfl, ⟨by omega, HXN.out⟩, HO.out, HON.out, HSR.out⟩

/-- A multivector that has been drawn: its own memory, full or growing on. -/
def DrawnM (n : Nat) (b : Nat) (a : Option Addr) (len cap : Nat) (zs : List Int) (w : World) (e : Ending) (w' : World) : Prop :=
  ∃ r c X, e = .returned (.slice r X.length c) ∧ X.length = n ∧ OwnR w.heap.size w'.heap.size w' r X ∧ (c = X.length ∨ OutR w.heap.size w' (.slice r X.length c) X) ∧ Only b w w' ∧ Src w' b a len cap zs
theorem lone_any (p : Int) (a : Option Addr) (S : List Int) (c : Nat) (w : World) (h : S.length ≤ 6) :
    Calls Try.prog 69 #[.agg #[.int .i64 p, .slice a S.length c]] w (NewRow (bl S) oneF w) := by
  have hb0 := bl_pos S
  go_enter Try.func69, Try.ntmps69
  go_wp2_with (go_at_call 49; (with_reducible refine (l04Zero_any p a S c _ h).mono ?_); rintro e w1 ⟨b1, rfl, hl1, hu1, ho1, hb1⟩; have HO1 := Lib.hid ho1; have HB1 := Lib.hid (below_step (below_alloc w _) (by simp) hb1); have hz1 := hb1.size; have c0 := ho1.cell 0 hb0; have f0 := ho1.free 0 hb0; rw [Nat.zero_add] at c0 f0; clear hb1 ho1)
  have hwb : w.heap.size ≤ b1 := by simp at hl1; omega
  go_ret
  exact ⟨b1, rfl, hwb, by simp [World.setCell]; exact hu1, row_put0 (g := oneF) (v := 1) HO1.out hb0 (fun j _ => by unfold oneF; rfl), HB1.out.trans ((wrote_put0 (Wrote.refl b1 0 (bl S) w1) hb0 _).belowB hwb)⟩
theorem vecN {p : Int} (hp : 0 < p) {n : Nat} {v : List Int} (hn : ∀ j, j < v.length → 0 ≤ v.getD j 0 ∧ v.getD j 0 < p) : ∀ j, j < (mkR n (vecF v v.length)).length → 0 ≤ (mkR n (vecF v v.length)).getD j 0 ∧ (mkR n (vecF v v.length)).getD j 0 < p := fun j hj => by
  rw [mkR_len] at hj
  rw [mkR_at _ hj]
  have key : ∀ k, k ≤ v.length → 0 ≤ vecF v k j ∧ vecF v k j < p := fun k => by
    induction k with
    | zero => intro _; show 0 ≤ (0 : Int) ∧ (0 : Int) < p; omega
    | succ k ih =>
      intro h
      show 0 ≤ (if j = 2 ^ k then v.getD k 0 else vecF v k j) ∧ (if j = 2 ^ k then v.getD k 0 else vecF v k j) < p
      split
      · exact hn k (by omega)
      · exact ih (by omega)
  exact key v.length (Nat.le_refl _)
end Go.Proofs.Ytndneccgomfkdaa
