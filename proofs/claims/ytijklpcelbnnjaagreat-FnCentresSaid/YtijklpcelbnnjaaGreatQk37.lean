/-
  Discriminants, in the program and in the model.
  Conditions: the squares are nil or a row of known cells.
  PairOf and NormOf: contracts of the program and of the model.
  Conditions: the lists are nil or rows of known cells, of at most 1048576 numbers.
  DiscriminantOf and IsRegular: contracts of the program and of the model.
  Conditions: the lists are nil or rows of known cells, of at most 1048576 numbers.
  The centre: what commutes with the basis vectors commutes with all; in a regular space it has the dimension 1 or 2. No Go in sight.
  No conditions.
  Even multivectors, and the sum of the parts of all grades: mathematics.
  Conditions: none.
  likeInts, zero5, hasInt: contracts.
  Conditions: the lists are nil or rows of known cells, of at most 1048576 numbers.
  NormOf: contracts of the program and of the model.
  Conditions: the lists are nil or rows of known cells, of at most 1048576 numbers.
  Lists of vectors of a space, in the program and in the model.
  Conditions: the lists are nil or rows of known cells, of at most 1048576 numbers.
  The model's GramOf: contract.
  Conditions: the lists are nil or rows of known cells, of at most 1048576 numbers.
  The program's Gram matrices: the walk.
  Conditions: the lists are nil or rows of known cells, of at most 1048576 numbers.
  The program's GramOf: contract.
  Conditions: the lists are nil or rows of known cells, of at most 1048576 numbers.
  Products of vectors: symmetric, linear, norms of sums. No Go in sight.
  No conditions.
  Geometric products of vectors: twice their product, squares are norms. No Go in sight.
  No conditions.
-/
import Derived.Test.YtijklpcelbnnjaaGreatQk8
import Derived.Test.YtijklpcelbnnjaaGreatQk6
import Derived.Test.YtijklpcelbnnjaaGreatQk17
import Derived.Test.YtijklpcelbnnjaaGreatQk28
import Derived.Test.YtijklpcelbnnjaaGreatQk35
import Derived.Test.YtijklpcelbnnjaaGreatQk36
import Derived.Test.YtijklpcelbnnjaaGreatQk16
import Derived.Test.YtijklpcelbnnjaaGreatQk7
import Derived.Test.YtijklpcelbnnjaaGreatQk3
import Derived.Test.YtijklpcelbnnjaaGreatQk18
namespace Go.Proofs.YtijklpcelbnnjaaGreat
open Go.RowKit
set_option linter.unusedVariables false

def disN (p : Int) (S : List Int) : Nat → Int
  | 0 => 1
  | i + 1 => disN p S i * S.getD i 0 % p
def discN (p : Int) (S : List Int) : Int := disN p S S.length
theorem disN_bd {p : Int} (hp : prm p = true) (S : List Int) (i : Nat) : 0 ≤ disN p S i ∧ disN p S i < p := by
  have := prm_bd hp
  cases i with
  | zero => show 0 ≤ (1 : Int) ∧ (1 : Int) < p; omega
  | succ i => exact mod_bd hp _
set_option maxRecDepth 100000 in
set_option maxHeartbeats 3200000 in
theorem l03Disc_any (p : Int) (aS : Option Addr) (S : List Int) (cS loS tpS : Nat) (w : World)
    (hS : RowIn loS tpS w aS S) (tS : tpS ≤ w.heap.size) (hs : isSp p S = true) :
    Calls Tryz.prog 32 #[.agg #[.int .i64 p, .slice aS S.length cS]] w fun e w' => e = .returned (.int .i64 (discN p S)) ∧ Below w.heap.size w w' := by
  have K := isSp_iff.1 hs
  have hpb := prm_bd K.prime
  have hS6 := K.hi
  have HS := Lib.hid hS
  have HK := Lib.hid K
  obtain ⟨n, hn⟩ : ∃ n, n = S.length := ⟨_, rfl⟩
  rw [← hn] at hS6
  have HN := Lib.hid hn
  have hn1 : S.length ≤ n ∧ n ≤ S.length := by omega
  rw [← hn]
  clear hS hs K hn
  go_enter Tryz.func32, Tryz.ntmps32
  go_wp2
  go_loopw [3, 4] (fun s t wr => ∃ i : Nat, i ≤ n ∧ s = .int .i64 (disN p S i) ∧ t = .int .i64 i ∧ Quiet (w.alloc (.cells #[.int .i64 p, .slice aS n cS] 26)) wr) (fun _ t _ => n - (intOf t).toNat)
  case atStart => exact ⟨0, Nat.zero_le _, rfl, rfl, Quiet.refl _⟩
  case round =>
    obtain ⟨i, hi, rfl, rfl, hq⟩ := hrel
    have HQ := Lib.hid hq
    have hb0 := (hq.cell ⟨w.heap.size, 0, none⟩).trans (nw0 w _ _ _)
    have hb1 := (hq.cell ⟨w.heap.size, 1, none⟩).trans (nw1 w _ _ _)
    have hqb := (below_alloc w (.cells #[.int .i64 p, .slice aS n cS] 26)).trans (hq.below _)
    by_cases hlt : i < n
    · obtain ⟨bs, os, ha1, _, _, cs⟩ := (HS.out.below hqb tS).num (by omega : i < S.length)
      subst ha1
      obtain ⟨z0, z1⟩ := HK.out.num (by omega : i < S.length)
      obtain ⟨q0, q1⟩ := disN_bd HK.out.prime S i
      have HST : Hid (∀ s z : Int, s = disN p S i → z = S.getD i 0 → s * z % p = disN p S (i + 1)) := by
        intro s z e1 e2
        subst e1 e2
        rfl
      obtain ⟨s, hs⟩ : ∃ s, s = disN p S i := ⟨_, rfl⟩
      obtain ⟨z, hz⟩ : ∃ z, z = S.getD i 0 := ⟨_, rfl⟩
      have HE := Lib.hid (HST.out s z hs hz)
      rw [← hs] at q0 q1
      rw [← hz] at cs z0 z1
      rw [← hs]
      clear hs hz HST hq hqb
      obtain ⟨p1, p2, _, _⟩ := prod3 hpb.2 q0 q1 z0 z1 z0 z1
      have e1 : IntKind.i64.wrap (s * z) = s * z := IntWalk.i64_in _ (by omega)
      have e2 : (s * z).tmod p = s * z % p := Int.tmod_eq_emod_of_nonneg p1
      have hp0 : ¬ p = 0 := by omega
      have hp1 : (p == 0) = false := by simpa using hp0
      have hi1 : (i : Int) < (n : Int) := by omega
      go_wp2
      go_quiet (fail)
      clear e1 e2
      go_wp2
      go_roundw
      case rel => exact ⟨i + 1, by omega, by rw [HE.out], by go_num, HQ.out.next _⟩
      case measure => simp [intOf]; omega
    · have hin : i = n := by omega
      subst hin
      have HE : Hid (disN p S i = discN p S) := by show _ = _; unfold discN; rw [HN.out]
      rw [HE.out]
      clear hq hqb
      go_wp2
      go_ret
      exact ⟨rfl, (below_alloc w _).trans (HQ.out.below _)⟩

end Go.Proofs.YtijklpcelbnnjaaGreat

namespace Go.Proofs.YtijklpcelbnnjaaGreat
open Go.RowKit
set_option linter.unusedVariables false

theorem mul_zero_iff {p a b : Int} (hp : prm p = true) (a0 : 0 ≤ a) (a1 : a < p) (b0 : 0 ≤ b) (b1 : b < p) : a * b % p = 0 ↔ a = 0 ∨ b = 0 := by
  have := every2_at (Q := fun p a b => decide (a * b % p = 0 ↔ a = 0 ∨ b = 0)) (by decide +kernel) hp a0 a1 b0 b1
  exact of_decide_eq_true this
theorem disN_zero {p : Int} {S : List Int} (hp : prm p = true) {i : Nat} (h : ∀ j, j < i → 0 ≤ S.getD j 0 ∧ S.getD j 0 < p) : disN p S i = 0 ↔ ∃ j, j < i ∧ S.getD j 0 = 0 := by
  induction i with
  | zero => simp [disN]
  | succ i ih =>
    have b := disN_bd hp S i
    have c := h i (by omega)
    show disN p S i * S.getD i 0 % p = 0 ↔ _
    rw [mul_zero_iff hp b.1 b.2 c.1 c.2, ih (fun j hj => h j (by omega))]
    constructor
    · rintro (⟨j, h1, h2⟩ | h1)
      · exact ⟨j, by omega, h2⟩
      · exact ⟨i, by omega, h1⟩
    · rintro ⟨j, h1, h2⟩
      by_cases e : j = i
      · subst e; exact .inr h2
      · exact .inl ⟨j, by omega, h2⟩
theorem disc_any {p : Int} {S : List Int} (hs : isSp p S = true) : S.any (· == 0) = !(discN p S != 0) := by
  have K := isSp_iff.1 hs
  have e := disN_zero K.prime (i := S.length) (fun j hj => K.num hj)
  rcases isAt_cases S 0 with ⟨k, hk, he⟩ | ⟨hk, he⟩
  · rw [he]
    have : discN p S = 0 := e.2 ⟨k, hk.1, hk.2.2⟩
    simp [this]
  · rw [he]
    have : discN p S ≠ 0 := fun h => by obtain ⟨j, h1, h2⟩ := e.1 h; exact hk j h1 h2
    simp [this]

theorem isRegular_any (pS : Int) (aS : Option Addr) (S : List Int) (cS loS tpS : Nat) (w : World)
    (hS : RowIn loS tpS w aS S) (tS : tpS ≤ w.heap.size) (hs : isSp pS S = true) :
    Calls Tryz.prog 59 #[.agg #[.int .i64 pS, .slice aS S.length cS]] w fun e w' => e = .returned (.bool (discN pS S != 0)) ∧ Below w.heap.size w w' := by
  have HS := Lib.hid hS
  have HD := Lib.hid (disc_any hs)
  have hl := (isSp_iff.1 hs).hi
  clear hS hs
  go_enter Tryz.func59, Tryz.ntmps59
  go_wp2_with (first | (go_at_call 89; (with_reducible refine (contains64_any aS S 0 _ cS loS tpS _ (HS.out.below ((Below.refl _ _).alloc (Nat.le_refl _) (.cells #[.int .i64 pS, .slice aS S.length cS] 26)) tS) rfl (by omega)).mono ?_); rintro e w' ⟨rfl, rfl⟩; rw [HD.out]))
  go_ret
  exact ⟨by simp, ((Below.refl _ _).alloc (Nat.le_refl _) (.cells #[.int .i64 pS, .slice aS S.length cS] 26))⟩

end Go.Proofs.YtijklpcelbnnjaaGreat

namespace Go.Proofs.YtijklpcelbnnjaaGreat
open Go.RowKit
set_option linter.unusedVariables false

theorem cn_bit (i n : Nat) : 2 ^ i / 2 ^ n % 2 = if i = n then 1 else 0 := by
  rcases Nat.lt_trichotomy i n with h | h | h
  · rw [if_neg (by omega), Nat.div_eq_of_lt (Nat.pow_lt_pow_right (by decide) h)]
  · subst h; rw [if_pos rfl, Nat.div_self (Nat.two_pow_pos i)]
  · obtain ⟨k, rfl⟩ : ∃ k, i = n + (k + 1) := ⟨i - n - 1, by omega⟩
    rw [if_neg (by omega), Nat.pow_add, Nat.mul_div_cancel_left _ (Nat.two_pow_pos n), Nat.pow_succ, Nat.mul_mod_left]
theorem cn_shr (S : List Int) {a i : Nat} : ∀ n, shr S a (2 ^ i) n = if i < n ∧ a / 2 ^ i % 2 = 1 then S.getD i 0 else 1
  | 0 => by rw [if_neg (fun h => absurd h.1 (Nat.not_lt_zero i))]; rfl
  | n + 1 => by
    simp only [shr]
    rw [cn_shr S n, cn_bit]
    by_cases h : i = n
    · subst h
      rw [if_neg (fun h => Nat.lt_irrefl _ h.1), if_pos rfl, Int.one_mul]
      by_cases h2 : a / 2 ^ i % 2 = 1
      · rw [if_pos ⟨rfl, h2⟩, if_pos ⟨Nat.lt_succ_self _, h2⟩]
      · rw [if_neg (fun k => h2 k.2), if_neg (fun k => h2 k.2)]
    · rw [if_neg h, if_neg (show ¬ ((0 : Nat) = 1 ∧ a / 2 ^ n % 2 = 1) from fun k => absurd k.1 (by decide)), Int.mul_one]
      by_cases h2 : i < n ∧ a / 2 ^ i % 2 = 1
      · rw [if_pos h2, if_pos ⟨by omega, h2.2⟩]
      · rw [if_neg h2, if_neg (fun k => h2 ⟨by omega, k.2⟩)]
theorem cn_e_r (S : List Int) (n : Nat) (x y : Nat → Int) {i d : Nat} (hd : d < 2 ^ n) (hi : 2 ^ i < 2 ^ n) (hy : ∀ b, b < 2 ^ n → y b = if b = 2 ^ i then 1 else 0) : gpz S n x y d = x (d ^^^ 2 ^ i) * fz S (d ^^^ 2 ^ i) (2 ^ i) n := by
  unfold gpz
  have h : ∀ a, a < 2 ^ n → x a * fz S a (a ^^^ d) n * y (a ^^^ d) = if a = d ^^^ 2 ^ i then x (d ^^^ 2 ^ i) * fz S (d ^^^ 2 ^ i) (2 ^ i) n else 0 := fun a ha => by
    rw [hy _ (Nat.xor_lt_two_pow ha hd)]
    by_cases e : a = d ^^^ 2 ^ i
    · have e2 : a ^^^ d = 2 ^ i := by rw [e, Nat.xor_comm d, Nat.xor_assoc, Nat.xor_self, Nat.xor_zero]
      rw [if_pos e, if_pos e2, e2, Int.mul_one, ← e]
    · have e2 : ¬ a ^^^ d = 2 ^ i := fun k => e (by rw [← k, Nat.xor_comm a d, ← Nat.xor_assoc, Nat.xor_self, Nat.zero_xor])
      rw [if_neg e, if_neg e2, Int.mul_zero]
  rw [sm_congr h, sm_single, if_pos (Nat.xor_lt_two_pow hd hi)]
theorem cn_e_l (S : List Int) (n : Nat) (x y : Nat → Int) {i d : Nat} (hd : d < 2 ^ n) (hi : 2 ^ i < 2 ^ n) (hx : ∀ b, b < 2 ^ n → x b = if b = 2 ^ i then 1 else 0) : gpz S n x y d = fz S (2 ^ i) (d ^^^ 2 ^ i) n * y (d ^^^ 2 ^ i) := by
  unfold gpz
  have h : ∀ a, a < 2 ^ n → x a * fz S a (a ^^^ d) n * y (a ^^^ d) = if a = 2 ^ i then fz S (2 ^ i) (d ^^^ 2 ^ i) n * y (d ^^^ 2 ^ i) else 0 := fun a ha => by
    rw [hx _ ha]
    by_cases e : a = 2 ^ i
    · rw [if_pos e, if_pos e, Int.one_mul, e, Nat.xor_comm (2 ^ i) d]
    · rw [if_neg e, if_neg e, Int.zero_mul, Int.zero_mul]
  rw [sm_congr h, sm_single, if_pos hi]
theorem cn_two {p s z : Int} (hp : prm p = true) (s0 : 0 ≤ s) (s1 : s < p) (z0 : 0 ≤ z) (z1 : z < p) (hs : s ≠ 0) (h : (2 * (z * s)) % p = 0) : z = 0 := by
  have h2 := every2_at (Q := fun p s z => decide (s ≠ 0 → (2 * (z * s)) % p = 0 → z = 0)) (by decide +kernel) hp s0 s1 z0 z1
  simp only [decide_eq_true_eq] at h2
  exact h2 hs h
theorem cn_eps (k : Nat) : (k % 2 = 0 ∧ eps k = 1) ∨ (k % 2 = 1 ∧ eps k = -1) := by
  unfold eps
  rcases Nat.mod_two_eq_zero_or_one k with h | h
  · exact .inl ⟨h, by rw [if_neg (by omega)]⟩
  · exact .inr ⟨h, by rw [if_pos h]⟩
theorem cn_neg {p t : Int} (h : (-t) % p = t % p) : (2 * t) % p = 0 := by
  have := (Int.emod_eq_emod_iff_emod_sub_eq_zero (m := t) (n := p) (k := -t)).1 h.symm
  rw [show t - -t = 2 * t by omega] at this
  exact this
theorem cn_get {S : List Int} {a b : Nat} (hb : b < bl S) : (bladeM S a).getD b 0 = if b = a then 1 else 0 := mkR_at _ hb
/-- Products with a basis vector, number by number. -/
theorem cn_r {p : Int} {S x : List Int} {i d : Nat} (hi : i < S.length) (hd : d < bl S) : prodF p S x (bladeM S (2 ^ i)) d = x.getD (d ^^^ 2 ^ i) 0 * fz S (d ^^^ 2 ^ i) (2 ^ i) S.length % p := by
  unfold prodF
  rw [cn_e_r S S.length _ _ hd (Nat.pow_lt_pow_right (by decide) hi) (fun b hb => cn_get hb)]
theorem cn_l {p : Int} {S x : List Int} {i d : Nat} (hi : i < S.length) (hd : d < bl S) : prodF p S (bladeM S (2 ^ i)) x d = fz S (2 ^ i) (d ^^^ 2 ^ i) S.length * x.getD (d ^^^ 2 ^ i) 0 % p := by
  unfold prodF
  rw [cn_e_l S S.length _ _ hd (Nat.pow_lt_pow_right (by decide) hi) (fun b hb => cn_get hb)]
/-- What commutes with a basis vector has no blade that turns its sign. -/
theorem cn_zero {p : Int} {S z : List Int} (hs : isSp p S = true) (hd : discN p S ≠ 0) (hz : isMv p S z = true) {i c : Nat} (hi : i < S.length) (hc : c < bl S) (hb : (sgn c (2 ^ i) S.length + sgn (2 ^ i) c S.length) % 2 = 1) (h : prodM p S z (bladeM S (2 ^ i)) = prodM p S (bladeM S (2 ^ i)) z) : z.getD c 0 = 0 := by
  have hp := (isSp_iff.1 hs).prime
  have hpb := prm_bd hp
  have hzl := Mv.len hz
  have hdl : c ^^^ 2 ^ i < bl S := Nat.xor_lt_two_pow hc (Nat.pow_lt_pow_right (by decide) hi)
  have hdd : c ^^^ 2 ^ i ^^^ 2 ^ i = c := by rw [Nat.xor_assoc, Nat.xor_self, Nat.xor_zero]
  have e := congrArg (fun x => x.getD (c ^^^ 2 ^ i) 0) h
  rw [prodM_at p S _ _ hdl, prodM_at p S _ _ hdl, cn_r hi hdl, cn_l hi hdl, hdd, fz_split, fz_split, shr_comm S (2 ^ i) c, cn_shr] at e
  have hzc := Mv.num hz c (by rw [hzl]; exact hc)
  obtain ⟨s, es⟩ : ∃ s, s = if i < S.length ∧ c / 2 ^ i % 2 = 1 then S.getD i 0 else 1 := ⟨_, rfl⟩
  obtain ⟨t, et⟩ : ∃ t, t = z.getD c 0 := ⟨_, rfl⟩
  have hsb : 0 ≤ s ∧ s < p ∧ s ≠ 0 := by
    rw [es]
    split
    · have hn := (isSp_iff.1 hs).num hi
      exact ⟨hn.1, hn.2, fun k => hd ((disN_zero hp (i := S.length) (fun j hj => (isSp_iff.1 hs).num hj)).2 ⟨i, hi, k⟩)⟩
    · exact ⟨by omega, by omega, by omega⟩
  rw [← es, ← et] at e
  rw [← et] at hzc ⊢
  refine cn_two hp hsb.1 hsb.2.1 hzc.1 hzc.2 hsb.2.2 ?_
  rcases cn_eps (sgn c (2 ^ i) S.length) with ⟨m1, f1⟩ | ⟨m1, f1⟩ <;> rcases cn_eps (sgn (2 ^ i) c S.length) with ⟨m2, f2⟩ | ⟨m2, f2⟩
  · omega
  · rw [f1, f2, Int.one_mul, Int.neg_one_mul, show -s * t = -(t * s) by rw [Int.neg_mul, Int.mul_comm]] at e; exact cn_neg e.symm
  · rw [f1, f2, Int.one_mul, Int.neg_one_mul, Int.mul_neg, Int.mul_comm s t] at e; exact cn_neg e
  · omega
/-- Signs of masks. -/
def cnOdd : Bool := (List.range 5).all fun n => (List.range (2 ^ n)).all fun c => c == 0 || (n % 2 == 1 && c == 2 ^ n - 1) || (List.range n).any fun i => (sgn c (2 ^ i) n + sgn (2 ^ i) c n) % 2 == 1
def cnEven : Bool := (List.range 5).all fun n => (List.range n).all fun i => (sgn 0 (2 ^ i) n + sgn (2 ^ i) 0 n) % 2 == 0 && (n % 2 == 0 || (sgn (2 ^ n - 1) (2 ^ i) n + sgn (2 ^ i) (2 ^ n - 1) n) % 2 == 0)
def cnLow : Bool := (List.range 5).all fun n => (List.range n).all fun i => (List.range (2 ^ i)).all fun a => sgn a (2 ^ i) n % 2 == 0 && (a ^^^ 2 ^ i == a + 2 ^ i)
set_option maxRecDepth 100000 in
theorem cn_odd_all : cnOdd = true := by decide +kernel
set_option maxRecDepth 100000 in
theorem cn_even_all : cnEven = true := by decide +kernel
set_option maxRecDepth 100000 in
theorem cn_low_all : cnLow = true := by decide +kernel
theorem cn_odd_at {n c : Nat} (hn : n ≤ 4) (hc : c < 2 ^ n) (h0 : c ≠ 0) (h1 : n % 2 = 1 → c ≠ 2 ^ n - 1) : ∃ i, i < n ∧ (sgn c (2 ^ i) n + sgn (2 ^ i) c n) % 2 = 1 := by
  have h := cn_odd_all
  unfold cnOdd at h
  have h2 := List.all_eq_true.1 (List.all_eq_true.1 h n (List.mem_range.2 (by omega))) c (List.mem_range.2 hc)
  rw [Bool.or_eq_true, Bool.or_eq_true] at h2
  rcases h2 with (h2 | h2) | h2
  · exact absurd (by simpa using h2) h0
  · rw [Bool.and_eq_true] at h2
    exact absurd (by simpa using h2.2) (h1 (by simpa using h2.1))
  · obtain ⟨i, hi, h3⟩ := List.any_eq_true.1 h2
    exact ⟨i, List.mem_range.1 hi, by simpa using h3⟩
theorem cn_even_at {n i : Nat} (hn : n ≤ 4) (hi : i < n) : (sgn 0 (2 ^ i) n + sgn (2 ^ i) 0 n) % 2 = 0 ∧ (n % 2 = 1 → (sgn (2 ^ n - 1) (2 ^ i) n + sgn (2 ^ i) (2 ^ n - 1) n) % 2 = 0) := by
  have h := cn_even_all
  unfold cnEven at h
  have h2 := List.all_eq_true.1 (List.all_eq_true.1 h n (List.mem_range.2 (by omega))) i (List.mem_range.2 hi)
  rw [Bool.and_eq_true, Bool.or_eq_true] at h2
  refine ⟨by simpa using h2.1, fun k => ?_⟩
  rcases h2.2 with h3 | h3
  · have : n % 2 = 0 := by simpa using h3
    omega
  · simpa using h3
theorem cn_low_at {n i a : Nat} (hn : n ≤ 4) (hi : i < n) (ha : a < 2 ^ i) : sgn a (2 ^ i) n % 2 = 0 ∧ a ^^^ 2 ^ i = a + 2 ^ i := by
  have h := cn_low_all
  unfold cnLow at h
  have h2 := List.all_eq_true.1 (List.all_eq_true.1 (List.all_eq_true.1 h n (List.mem_range.2 (by omega))) i (List.mem_range.2 hi)) a (List.mem_range.2 ha)
  rw [Bool.and_eq_true] at h2
  exact ⟨by simpa using h2.1, by simpa using h2.2⟩
/-- A blade whose sign no basis vector turns commutes with the basis vectors. -/
theorem cn_comm {p : Int} {S : List Int} {a i : Nat} (hi : i < S.length) (hb : (sgn a (2 ^ i) S.length + sgn (2 ^ i) a S.length) % 2 = 0) : prodM p S (bladeM S a) (bladeM S (2 ^ i)) = prodM p S (bladeM S (2 ^ i)) (bladeM S a) := by
  apply row_ext (by rw [prodM_len, prodM_len])
  intro d hd
  rw [prodM_len] at hd
  rw [prodM_at p S _ _ hd, prodM_at p S _ _ hd, cn_r hi hd, cn_l hi hd]
  have hdl : d ^^^ 2 ^ i < bl S := Nat.xor_lt_two_pow hd (Nat.pow_lt_pow_right (by decide) hi)
  rw [cn_get hdl]
  by_cases e : d ^^^ 2 ^ i = a
  · rw [if_pos e, e, fz_split, fz_split, shr_comm S (2 ^ i) a, Int.one_mul, Int.mul_one]
    rcases cn_eps (sgn a (2 ^ i) S.length) with ⟨m1, f1⟩ | ⟨m1, f1⟩ <;> rcases cn_eps (sgn (2 ^ i) a S.length) with ⟨m2, f2⟩ | ⟨m2, f2⟩
    · rw [f1, f2]
    · omega
    · omega
    · rw [f1, f2]
  · rw [if_neg e, Int.zero_mul, Int.mul_zero]
theorem cn_blade {p : Int} {S : List Int} (hs : isSp p S = true) (h4 : S.length ≤ 4) {a i : Nat} (hi : i < S.length) (ha : a < 2 ^ i) : prodM p S (bladeM S a) (bladeM S (2 ^ i)) = bladeM S (a + 2 ^ i) := by
  have hpb := prm_bd (isSp_iff.1 hs).prime
  obtain ⟨h1, h2⟩ := cn_low_at h4 hi ha
  apply row_ext (by rw [prodM_len, blade_len])
  intro d hd
  rw [prodM_len] at hd
  rw [prodM_at p S _ _ hd, cn_r hi hd, cn_get hd]
  have hdl : d ^^^ 2 ^ i < bl S := Nat.xor_lt_two_pow hd (Nat.pow_lt_pow_right (by decide) hi)
  rw [cn_get hdl]
  by_cases e : d ^^^ 2 ^ i = a
  · have e2 : d = a + 2 ^ i := by rw [← h2, ← e, Nat.xor_assoc, Nat.xor_self, Nat.xor_zero]
    rw [if_pos e, if_pos e2, e, fz_split, cn_shr, if_neg (fun k => by have := k.2; rw [Nat.div_eq_of_lt ha] at this; cases this), Int.one_mul, Int.mul_one]
    rcases cn_eps (sgn a (2 ^ i) S.length) with ⟨m1, f1⟩ | ⟨m1, f1⟩
    · rw [f1]; exact Int.emod_eq_of_lt (by omega) (by omega)
    · omega
  · have e2 : ¬ d = a + 2 ^ i := fun k => e (by rw [k, ← h2, Nat.xor_assoc, Nat.xor_self, Nat.xor_zero])
    rw [if_neg e, if_neg e2, Int.zero_mul]; rfl
theorem blade_zero (S : List Int) : bladeM S 0 = mOne S := rfl
/-- What commutes with the basis vectors commutes with all blades. -/
theorem cn_blades {p : Int} {S x : List Int} (hs : isSp p S = true) (h4 : S.length ≤ 4) (mx : isMv p S x = true) (h : ∀ i, i < S.length → prodM p S x (bladeM S (2 ^ i)) = prodM p S (bladeM S (2 ^ i)) x) : ∀ k, k ≤ S.length → ∀ a, a < 2 ^ k → prodM p S x (bladeM S a) = prodM p S (bladeM S a) x
  | 0, _, a, ha => by
    have : a = 0 := by simpa using ha
    subst this
    rw [blade_zero, one_l mx, one_r mx]
  | k + 1, hk, a, ha => by
    by_cases e : a < 2 ^ k
    · exact cn_blades hs h4 mx h k (by omega) a e
    · obtain ⟨b, rfl⟩ : ∃ b, a = b + 2 ^ k := ⟨a - 2 ^ k, by omega⟩
      have hb : b < 2 ^ k := by rw [Nat.pow_succ] at ha; omega
      rw [← cn_blade hs h4 (show k < S.length by omega) hb, ← prodM_assoc, cn_blades hs h4 mx h k (by omega) b hb, prodM_assoc, h k (by omega), prodM_assoc]
/-- What commutes with the basis vectors commutes with all. -/
theorem cn_every {p : Int} {S x : List Int} (hs : isSp p S = true) (h4 : S.length ≤ 4) (mx : isMv p S x = true) (h : ∀ i, i < S.length → prodM p S x (bladeM S (2 ^ i)) = prodM p S (bladeM S (2 ^ i)) x) (y : List Int) : prodM p S x y = prodM p S y x := by
  apply row_ext (by rw [prodM_len, prodM_len])
  intro d hd
  rw [prodM_len] at hd
  rw [prodM_at p S _ _ hd, prodM_at p S _ _ hd, ← left_prod hd, ← right_prod hd]
  congr 1
  refine sm_congr fun j hj => ?_
  have e := congrArg (fun z => z.getD d 0) (cn_blades hs h4 mx h S.length (Nat.le_refl _) j hj)
  rw [prodM_at p S _ _ hd, prodM_at p S _ _ hd] at e
  rw [e, Int.mul_comm]
theorem ce_at {p : Int} {S : List Int} {i k j : Nat} (hi : i < S.length) (hk : k < bl S) (hj : j < bl S) : at' (ceM p S) (i * bl S + k) j = (prodF p S (bladeM S (2 ^ i)) (bladeM S j) k + (p - 1) * prodF p S (bladeM S j) (bladeM S (2 ^ i)) k) % p := by
  unfold at'
  rw [ce_row hi hk, mkR_at _ hj]
  unfold ceF
  rw [show at' (leftM p S (bladeM S (2 ^ i))) k j = prodF p S (bladeM S (2 ^ i)) (bladeM S j) k from mk_at _ hk hj, show at' (rightM p S (bladeM S (2 ^ i))) k j = prodF p S (bladeM S j) (bladeM S (2 ^ i)) k from mk_at _ hk hj]
theorem ce_fin {p : Int} (a X Y : Int) : (X + a % p * Y % p) % p = (X + a * Y) % p := by
  rw [Int.add_emod X (a % p * Y % p), Int.emod_emod, show a % p * Y % p = a * Y % p by rw [Int.mul_emod, Int.emod_emod, ← Int.mul_emod], ← Int.add_emod]
/-- A row of the equations, applied. -/
theorem ce_sum {p : Int} {S z : List Int} {i k : Nat} (hi : i < S.length) (hk : k < bl S) : sm (bl S) (fun j => at' (ceM p S) (i * bl S + k) j * z.getD j 0) % p = (prodF p S (bladeM S (2 ^ i)) z k + (p - 1) * prodF p S z (bladeM S (2 ^ i)) k) % p := by
  have e1 : sm (bl S) (fun j => at' (ceM p S) (i * bl S + k) j * z.getD j 0) % p = sm (bl S) (fun j => prodF p S (bladeM S (2 ^ i)) (bladeM S j) k * z.getD j 0 + (p - 1) * (z.getD j 0 * prodF p S (bladeM S j) (bladeM S (2 ^ i)) k)) % p := by
    refine sm_same fun j hj => ?_
    rw [ce_at hi hk hj, Int.mul_emod, Int.emod_emod, ← Int.mul_emod, Int.add_mul]
    congr 2
    rw [Int.mul_assoc, Int.mul_comm (z.getD j 0)]
  rw [e1, sm_add, sm_mul, Int.add_emod, Int.mul_emod (p - 1), left_prod hk, right_prod hk]
  exact ce_fin _ _ _
theorem ce_comm {p : Int} {S z : List Int} (hs : isSp p S = true) : nul p (ceM p S).length (bl S) (at' (ceM p S)) (fun j => z.getD j 0) ↔ ∀ i, i < S.length → prodM p S z (bladeM S (2 ^ i)) = prodM p S (bladeM S (2 ^ i)) z := by
  have hpb := prm_bd (isSp_iff.1 hs).prime
  have hb := bl_pos S
  have key : ∀ i k, i < S.length → k < bl S → (sm (bl S) (fun j => at' (ceM p S) (i * bl S + k) j * z.getD j 0) % p = 0 ↔ prodF p S z (bladeM S (2 ^ i)) k = prodF p S (bladeM S (2 ^ i)) z k) := fun i k hi hk => by
    rw [ce_sum hi hk]
    have h1 := prodF_bd (p := p) (by omega) S (bladeM S (2 ^ i)) z k
    have h2 := prodF_bd (p := p) (by omega) S z (bladeM S (2 ^ i)) k
    have e : (prodF p S (bladeM S (2 ^ i)) z k + (p - 1) * prodF p S z (bladeM S (2 ^ i)) k) % p = (prodF p S (bladeM S (2 ^ i)) z k - prodF p S z (bladeM S (2 ^ i)) k) % p := by
      rw [Int.sub_mul, Int.one_mul, show prodF p S (bladeM S (2 ^ i)) z k + (p * prodF p S z (bladeM S (2 ^ i)) k - prodF p S z (bladeM S (2 ^ i)) k) = (prodF p S (bladeM S (2 ^ i)) z k - prodF p S z (bladeM S (2 ^ i)) k) + p * prodF p S z (bladeM S (2 ^ i)) k by omega]
      exact Int.add_mul_emod_self_left _ _ _
    rw [e]
    constructor
    · intro h
      have h3 := Int.emod_eq_emod_iff_emod_sub_eq_zero.2 h
      rw [Int.emod_eq_of_lt h1.1 h1.2, Int.emod_eq_of_lt h2.1 h2.2] at h3
      exact h3.symm
    · intro h; rw [h, Int.sub_self]; rfl
  constructor
  · intro h i hi
    apply row_ext (by rw [prodM_len, prodM_len])
    intro k hk
    rw [prodM_len] at hk
    rw [prodM_at p S _ _ hk, prodM_at p S _ _ hk]
    exact (key i k hi hk).1 (h _ (by rw [ce_len]; exact (ce_idx hi hk).1))
  · intro h r hr
    rw [ce_len] at hr
    have hrb : r % bl S < bl S := Nat.mod_lt _ hb
    have hri : r / bl S < S.length := Nat.div_lt_of_lt_mul (by rw [Nat.mul_comm]; exact hr)
    have e : r = r / bl S * bl S + r % bl S := by rw [Nat.mul_comm]; exact (Nat.div_add_mod _ _).symm
    rw [e]
    refine (key _ _ hri hrb).2 ?_
    rw [← prodM_at p S _ _ hrb, ← prodM_at p S _ _ hrb, h _ hri]
theorem ce_c0 {p : Int} {S : List Int} (hs : isSp p S = true) : (rw' (ceM p S) 0).length = bl S := by
  unfold ceM; rw [mk_rowLen _ (Nat.mul_pos (isSp_iff.1 hs).lo (bl_pos S))]
/-- The basis vectors of the centre are multivectors that commute with all. -/
theorem cen_rows {p : Int} {S : List Int} (hs : isSp p S = true) (h4 : S.length ≤ 4) {l : Nat} (hl : l < (kerB p (ceM p S)).length) : isMv p S (rw' (kerB p (ceM p S)) l) = true ∧ ∀ i, i < S.length → prodM p S (rw' (kerB p (ceM p S)) l) (bladeM S (2 ^ i)) = prodM p S (bladeM S (2 ^ i)) (rw' (kerB p (ceM p S)) l) := by
  have hr := ce_rows hs h4
  have c0 := ce_c0 hs
  have hk := ker_is (A := ceM p S) hr.prime
  rw [c0] at hk
  obtain ⟨P, hP⟩ := hk.red
  refine ⟨isMv_of (hk.len l hl) fun j hj => hP.rng l hl j (by rw [← hk.len l hl]; exact hj), ?_⟩
  refine (ce_comm hs).1 fun i hi => ?_
  have h := ker_nul hr hi l hl
  rw [c0] at h
  exact (sm_congr (f := fun j => at' (ceM p S) i j * (rw' (kerB p (ceM p S)) l).getD j 0) fun j _ => Int.mul_comm _ _) ▸ h
theorem cen_supp {p : Int} {S : List Int} (hs : isSp p S = true) (h4 : S.length ≤ 4) (hd : discN p S ≠ 0) {l c : Nat} (hl : l < (kerB p (ceM p S)).length) (hc : c < bl S) (h0 : c ≠ 0) (h1 : S.length % 2 = 1 → c ≠ 2 ^ S.length - 1) : at' (kerB p (ceM p S)) l c = 0 := by
  obtain ⟨hm, hcm⟩ := cen_rows hs h4 hl
  obtain ⟨i, hi, hb⟩ := cn_odd_at h4 hc h0 h1
  exact cn_zero hs hd hm hi hc hb (hcm i hi)
/-- What vanishes at the kernel vanishes with what the rows make 0. -/
theorem cen_van {p : Int} {A : List (List Int)} (h : RowsW p A) {y z : Nat → Int} (hy : nul p (kerB p A).length (rw' A 0).length (at' (kerB p A)) y) (hz : nul p A.length (rw' A 0).length (at' A) z) : sm (rw' A 0).length (fun k => y k * z k) % p = 0 := by
  have hb := (h.bas.nul z).1 hz
  rw [sm_same (g := fun k => sm (bas p A).length (fun l => at' (bas p A) l k * y (pvs (bas p A) l)) * z k) fun k hk => by rw [Int.mul_emod, row_span h hy hk, ← Int.mul_emod]]
  rw [sm_congr (g := fun k => sm (bas p A).length fun l => y (pvs (bas p A) l) * (at' (bas p A) l k * z k)) fun k _ => by
    rw [Int.mul_comm, ← sm_mul]
    exact sm_congr fun l _ => by rw [Int.mul_comm (z k), Int.mul_comm (at' (bas p A) l k), Int.mul_assoc], sm_swap]
  refine sm_modz fun l hl => ?_
  rw [sm_mul]
  exact mod_z (hb l hl)
theorem cn_unit {p : Int} {c a : Nat} {y : Nat → Int} (ha : a < c) (h : sm c (fun k => y k * (if k = a then 1 else 0)) % p = 0) : y a % p = 0 := by
  rw [sm_congr (g := fun k => if k = a then y a else 0) fun k _ => by
    by_cases e : k = a
    · subst e; rw [if_pos rfl, if_pos rfl, Int.mul_one]
    · rw [if_neg e, if_neg e, Int.mul_zero], sm_single, if_pos ha] at h
  exact h
/-- The centre of a regular space has the dimension 1 or 2. -/
theorem cen_dim {p : Int} {S : List Int} (hs : isSp p S = true) (h4 : S.length ≤ 4) (hd : discN p S ≠ 0) : (kerB p (ceM p S)).length = if S.length % 2 = 1 then 2 else 1 := by
  have hpb := prm_bd (isSp_iff.1 hs).prime
  have hr := ce_rows hs h4
  have c0 := ce_c0 hs
  have hb := bl_pos S
  have hn := (isSp_iff.1 hs).lo
  have hk := ker_is (A := ceM p S) hr.prime
  rw [c0] at hk
  obtain ⟨P, hP⟩ := hk.red
  have htop : 2 ^ S.length - 1 < bl S := by unfold bl at hb ⊢; omega
  have ht0 : 2 ^ S.length - 1 ≠ 0 := by have : 2 ^ 1 ≤ 2 ^ S.length := Nat.pow_le_pow_right (by decide) hn; omega
  have hpv : ∀ l, l < (kerB p (ceM p S)).length → P l = 0 ∨ (S.length % 2 = 1 ∧ P l = 2 ^ S.length - 1) := fun l hl => by
    refine Classical.byContradiction fun h => ?_
    have h1 := cen_supp hs h4 hd hl (hP.pv l hl) (fun k => h (.inl k)) (fun k e => h (.inr ⟨k, e⟩))
    rw [hP.one l hl] at h1
    cases h1
  have hno : ∀ a, a < bl S → (∀ i, i < S.length → (sgn a (2 ^ i) S.length + sgn (2 ^ i) a S.length) % 2 = 0) → ∀ y, nul p (kerB p (ceM p S)).length (bl S) (at' (kerB p (ceM p S))) y → y a % p = 0 := fun a ha he y hy => by
    have hz := (ce_comm (z := bladeM S a) hs).2 fun i hi => cn_comm hi (he i hi)
    have h := cen_van hr (y := y) (by rw [c0]; exact hy) (by rw [c0]; exact hz)
    rw [c0] at h
    refine cn_unit ha (Eq.trans ?_ h)
    congr 1
    exact sm_congr fun k hk => by rw [cn_get hk]
  have hno0 := hno 0 hb fun i hi => (cn_even_at h4 hi).1
  have h1 : 1 ≤ (kerB p (ceM p S)).length := by
    refine Classical.byContradiction fun h => ?_
    have h2 := hno0 (fun _ => 1) (fun l hl => by omega)
    have h3 : (1 : Int) % p = 1 := Int.emod_eq_of_lt (by omega) (by omega)
    omega
  by_cases ho : S.length % 2 = 1
  · rw [if_pos ho]
    have hnot := hno (2 ^ S.length - 1) htop fun i hi => (cn_even_at h4 hi).2 ho
    have hle : (kerB p (ceM p S)).length ≤ 2 := by
      refine Classical.byContradiction fun h => ?_
      have a0 := hpv 0 (by omega)
      have a1 := hpv 1 (by omega)
      have a2 := hpv 2 (by omega)
      have m1 := hP.mono 0 1 (by omega) (by omega)
      have m2 := hP.mono 1 2 (by omega) (by omega)
      omega
    have hne : (kerB p (ceM p S)).length ≠ 1 := fun e1 => by
      obtain ⟨α, hα⟩ : ∃ z, z = at' (kerB p (ceM p S)) 0 0 := ⟨_, rfl⟩
      obtain ⟨β, hβ⟩ : ∃ z, z = at' (kerB p (ceM p S)) 0 (2 ^ S.length - 1) := ⟨_, rfl⟩
      have hy : nul p (kerB p (ceM p S)).length (bl S) (at' (kerB p (ceM p S))) (fun k => (if k = 0 then β else 0) + (if k = 2 ^ S.length - 1 then -α else 0)) := fun l hl => by
        have : l = 0 := by omega
        subst this
        rw [sm_congr (g := fun k => (if k = 0 then α * β else 0) + (if k = 2 ^ S.length - 1 then β * -α else 0)) fun k _ => by
          show _ * ((if k = 0 then β else 0) + (if k = 2 ^ S.length - 1 then -α else 0)) = _
          by_cases e : k = 0
          · subst e; rw [if_pos rfl, if_pos rfl, if_neg (fun k => ht0 k.symm), if_neg (fun k => ht0 k.symm), Int.add_zero, Int.add_zero, hα]
          · by_cases e2 : k = 2 ^ S.length - 1
            · subst e2; rw [if_neg e, if_pos rfl, if_pos rfl, if_neg e, Int.zero_add, Int.zero_add, hβ]
            · rw [if_neg e, if_neg e2, if_neg e2, if_neg e, Int.add_zero, Int.mul_zero], sm_add, sm_single, sm_single, if_pos hb, if_pos htop]
        rw [show α * β + β * -α = 0 by rw [Int.mul_neg, Int.mul_comm]; omega]
        rfl
      have y0 : ((if (0 : Nat) = 0 then β else 0) + (if (0 : Nat) = 2 ^ S.length - 1 then -α else 0)) % p = 0 := hno0 _ hy
      have y1 : ((if 2 ^ S.length - 1 = 0 then β else 0) + (if 2 ^ S.length - 1 = 2 ^ S.length - 1 then -α else 0)) % p = 0 := hnot _ hy
      rw [if_pos rfl, if_neg (fun k => ht0 k.symm), Int.add_zero] at y0
      rw [if_neg ht0, if_pos rfl, Int.zero_add] at y1
      have rα := hP.rng 0 (by omega) 0 hb
      have rβ := hP.rng 0 (by omega) _ htop
      rw [← hα] at rα
      rw [← hβ] at rβ
      have zβ : β = 0 := by rwa [Int.emod_eq_of_lt rβ.1 rβ.2] at y0
      have zα : α = 0 := by
        have h3 : α % p = 0 := by
          have := Int.dvd_of_emod_eq_zero y1
          exact Int.emod_eq_zero_of_dvd (Int.dvd_neg.1 this)
        rwa [Int.emod_eq_of_lt rα.1 rα.2] at h3
      have hone := hP.one 0 (by omega)
      rcases hpv 0 (by omega) with k | ⟨_, k⟩
      · rw [k, ← hα, zα] at hone; cases hone
      · rw [k, ← hβ, zβ] at hone; cases hone
    omega
  · rw [if_neg ho]
    refine Classical.byContradiction fun h => ?_
    have a0 := hpv 0 (by omega)
    have a1 := hpv 1 (by omega)
    have m1 := hP.mono 0 1 (by omega) (by omega)
    omega

end Go.Proofs.YtijklpcelbnnjaaGreat

namespace Go.Proofs.YtijklpcelbnnjaaGreat
open Go.RowKit
set_option linter.unusedVariables false

/-- A number is among them. -/
def hB (z : List Int) (v : Int) : Bool := (List.range z.length).any fun j => decide (z.getD j 0 = v)
end Go.Proofs.YtijklpcelbnnjaaGreat

namespace Go.Proofs.YtijklpcelbnnjaaGreat
open Go.RowKit
set_option linter.unusedVariables false

def eF (S : List Int) (i j : Nat) : Int := fz S (2 ^ i) (2 ^ j) S.length
end Go.Proofs.YtijklpcelbnnjaaGreat
