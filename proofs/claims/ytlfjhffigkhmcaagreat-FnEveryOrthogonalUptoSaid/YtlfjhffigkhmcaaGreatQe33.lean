/-
  The program's opposites and first numbers: contracts.
  Inverses: elimination of a square matrix beside the unit matrix, and when it tells that there is an inverse. No Go in sight.
  No conditions.
  What an isometry is: by columns, and by the program's way. No Go in sight.
  No conditions.
-/
import Derived.Test.YtlfjhffigkhmcaaGreatQe30
import Derived.Test.YtlfjhffigkhmcaaGreatQe31
import Derived.Test.YtlfjhffigkhmcaaGreatQe32
import Derived.Test.YtlfjhffigkhmcaaGreatQe26
import Derived.Test.YtlfjhffigkhmcaaGreatQe27
namespace Go.Proofs.YtlfjhffigkhmcaaGreat
open Go.RowKit
set_option linter.unusedVariables false

theorem opposite_any (p a : Int) (w : World) (hp : prm p = true) (a0 : 0 ≤ a) (a1 : a < p) :
    Calls Tryz.prog 93 #[.int .i64 p, .int .i64 a] w fun e w' => e = .returned (.int .i64 (-a % p)) ∧ w = w' := by
  have hb := prm_bd hp
  have e2 : IntKind.i64.wrap (p - a) = p - a := IntWalk.i64_in _ (by omega)
  have hyy : (p - a) % p = -a % p := by simp
  have e3 : (p - a).tmod p = -a % p := (Int.tmod_eq_emod_of_nonneg (by omega)).trans hyy
  have hp0 : ¬ p = 0 := by omega
  have hp1 : (p == 0) = false := by simpa using hp0
  clear hyy hp
  go_enter Tryz.func93, Tryz.ntmps93
  go_wp2
  go_ret
  exact ⟨rfl, rfl⟩

theorem isNot0_any (x : Int) (w : World) :
    Calls Tryz.prog 95 #[.int .i64 x] w fun e w' => e = .returned (.bool (x != 0)) ∧ w = w' := by
  go_enter Tryz.func95, Tryz.ntmps95
  go_wp2
  go_ret
  exact ⟨rfl, rfl⟩

/-- The place of the first number that is not 0 from k on, or -1. -/
def fstAt (z : List Int) (k : Nat) : Prop := k < z.length ∧ (∀ j, j < k → z.getD j 0 = 0) ∧ z.getD k 0 ≠ 0

set_option maxHeartbeats 800000 in
theorem indexFunc_yes (a : Option Addr) (z : List Int) (n k ca lo tp : Nat) (w : World) (hz : RowIn lo tp w a z) (hn : z.length = n) (hl : n ≤ 1024) (hk : fstAt z k) :
    Calls Tryz.prog 94 #[.slice a n ca, .func (.func 95) #[] #[]] w fun e w' => e = .returned (.int .i64 k) ∧ w = w' := by
  subst hn
  have HZ := Lib.hid hz
  have HK := Lib.hid hk
  clear hz hk
  go_enter Tryz.func94, Tryz.ntmps94
  go_wp2
  go_loop [8] (fun t => ∃ i : Nat, i ≤ k ∧ t = .int .i64 i) (fun t => z.length - (intOf t).toNat)
  case atStart => exact ⟨0, Nat.zero_le _, rfl⟩
  case round =>
    obtain ⟨i, hi, rfl⟩ := hrel
    have hkl := HK.out.1
    have hi1 : (i : Int) < (z.length : Int) := by omega
    obtain ⟨b1, o1, ha1, _, _, hc1⟩ := HZ.out.num (by omega : i < z.length)
    subst ha1
    by_cases e : i = k
    · subst e
      have h3 := HK.out.2.2
      obtain ⟨x, hx⟩ : ∃ x, x = z.getD i 0 := ⟨_, rfl⟩
      rw [← hx] at hc1 h3
      have HX : Hid ((x != 0) = true) := by show _ = _; simpa using h3
      clear hx h3
      go_wp2_with (go_at_call 95; refine (isNot0_any x _).mono ?_; rintro e w1 ⟨rfl, rfl⟩; rw [HX.out])
      go_ret
      exact ⟨rfl, rfl⟩
    · have h2 := HK.out.2.1 i (by omega)
      rw [h2] at hc1
      go_wp2_with (go_at_call 95; refine (isNot0_any 0 _).mono ?_; rintro e w1 ⟨rfl, rfl⟩)
      go_round
      case rel => exact ⟨i + 1, by omega, by go_num⟩
      case measure => simp [intOf]; omega

set_option maxHeartbeats 800000 in
theorem indexFunc_no (a : Option Addr) (z : List Int) (n ca lo tp : Nat) (w : World) (hz : RowIn lo tp w a z) (hn : z.length = n) (hl : n ≤ 1024) (hk : ∀ j, j < z.length → z.getD j 0 = 0) :
    Calls Tryz.prog 94 #[.slice a n ca, .func (.func 95) #[] #[]] w fun e w' => e = .returned (.int .i64 (-1)) ∧ w = w' := by
  subst hn
  have HZ := Lib.hid hz
  have HK := Lib.hid hk
  clear hz hk
  go_enter Tryz.func94, Tryz.ntmps94
  go_wp2
  go_loop [8] (fun t => ∃ i : Nat, i ≤ z.length ∧ t = .int .i64 i) (fun t => z.length - (intOf t).toNat)
  case atStart => exact ⟨0, Nat.zero_le _, rfl⟩
  case round =>
    obtain ⟨i, hi, rfl⟩ := hrel
    by_cases hlt : i < z.length
    · have hi1 : (i : Int) < (z.length : Int) := by omega
      obtain ⟨b1, o1, ha1, _, _, hc1⟩ := HZ.out.num hlt
      subst ha1
      rw [HK.out i hlt] at hc1
      go_wp2_with (go_at_call 95; refine (isNot0_any 0 _).mono ?_; rintro e w1 ⟨rfl, rfl⟩)
      go_round
      case rel => exact ⟨i + 1, by omega, by go_num⟩
      case measure => simp [intOf]; omega
    · have hn : i = z.length := by omega
      subst hn
      go_wp2
      go_ret
      exact ⟨rfl, rfl⟩

theorem fst_cases (z : List Int) : (∃ k, fstAt z k) ∨ ∀ j, j < z.length → z.getD j 0 = 0 := by
  by_cases h : ∀ j, j < z.length → z.getD j 0 = 0
  · exact .inr h
  · left
    have h2 : ∃ k, k < z.length ∧ z.getD k 0 ≠ 0 := Classical.byContradiction fun c => h fun j hj => Classical.byContradiction fun d => c ⟨j, hj, d⟩
    have key : ∀ n, (∃ k, k ≤ n ∧ k < z.length ∧ z.getD k 0 ≠ 0) → ∃ k, fstAt z k := by
      intro n
      induction n with
      | zero =>
        rintro ⟨k, h1, h2, h3⟩
        have : k = 0 := by omega
        subst this
        exact ⟨0, h2, fun j hj => by omega, h3⟩
      | succ n ih =>
        rintro ⟨k, h1, h2, h3⟩
        by_cases e : ∃ k, k ≤ n ∧ k < z.length ∧ z.getD k 0 ≠ 0
        · exact ih e
        · refine ⟨k, h2, fun j hj => Classical.byContradiction fun d => e ⟨j, by omega, by omega, d⟩, h3⟩
    obtain ⟨k, k1, k2⟩ := h2
    exact key k ⟨k, Nat.le_refl _, k1, k2⟩

end Go.Proofs.YtlfjhffigkhmcaaGreat

namespace Go.Proofs.YtlfjhffigkhmcaaGreat
set_option linter.unusedVariables false

theorem mul0 {p a b : Int} (hp : prm p = true) (a0 : 0 ≤ a) (a1 : a < p) (b0 : 0 ≤ b) (b1 : b < p) : a * b % p = 0 ↔ a = 0 ∨ b = 0 := by
  have := every2_at (Q := fun p a b => decide (a * b % p = 0 ↔ a = 0 ∨ b = 0)) (by decide +kernel) hp a0 a1 b0 b1
  exact of_decide_eq_true this
theorem Elm.ne0 {p : Int} {c : Nat} {A m : List (List Int)} {P : Nat → Nat} {d : Int} (hp : prm p = true) (h : Elm p c A m P d) : d ≠ 0 := by
  have hpb := prm_bd hp
  induction h with
  | start P => decide
  | same _ _ _ _ ih => exact ih
  | @more A m m' P d r r' s q t h k ih =>
    have hd := h.det hp
    have hx := k.red.rng q k.qc
    have hx0 := k.q0
    have hs : 0 ≤ esgn p m.length t (num r' q) ∧ esgn p m.length t (num r' q) < p ∧ esgn p m.length t (num r' q) ≠ 0 := by
      unfold esgn
      split
      · exact ⟨hx.1, hx.2, hx0⟩
      · have e : -num r' q % p = p - num r' q := by
          have e1 : (p - num r' q) % p = -num r' q % p := by simp
          rw [← e1, Int.emod_eq_of_lt (by omega) (by omega)]
        rw [e]
        exact ⟨by omega, by omega, by omega⟩
    intro e
    rcases (mul0 hp hd.1 hd.2 hs.1 hs.2.1).1 e with h1 | h1
    · exact ih h1
    · exact hs.2.2 h1

theorem red2_ex {p : Int} {c : Nat} {m : List (List Int)} {P : Nat → Nat} {r : List Int} (hp : prm p = true) (hR : Rref p m.length c (at' m) P) (hl : r.length = c) (hr : ∀ j, j < c → 0 ≤ num r j ∧ num r j < p) (k : Nat) (hk : k ≤ m.length) : ∃ r', Red2 p c m P r r' k := by
  induction k with
  | zero => exact ⟨r, Red2.start hl hr⟩
  | succ k ih =>
    obtain ⟨r', h⟩ := ih (by omega)
    exact ⟨mkR c fun j => (num r' j + (p - num r' (P k)) % p * at' m k j) % p, h.next hp hR (by omega) (mkR_len _ _) (fun j hj => mkR_at _ hj)⟩
theorem place_ex {n q : Nat} {P : Nat → Nat} (mono : ∀ i i', i < i' → i' < n → P i < P i') (hne : ∀ i, i < n → P i ≠ q) : ∃ t, t ≤ n ∧ (∀ i, i < t → P i < q) ∧ ∀ i, t ≤ i → i < n → q < P i := by
  induction n with
  | zero => exact ⟨0, Nat.le_refl _, fun i hi => by omega, fun i _ hi => by omega⟩
  | succ n ih =>
    obtain ⟨t, h1, h2, h3⟩ := ih (fun i i' a b => mono i i' a (by omega)) (fun i hi => hne i (by omega))
    have := hne n (by omega)
    rcases Nat.lt_or_ge (P n) q with h | h
    · refine ⟨n + 1, Nat.le_refl _, fun i hi => ?_, fun i a b => by omega⟩
      by_cases e : i = n
      · subst e; exact h
      · have := mono i n (by omega) (by omega); omega
    · refine ⟨t, by omega, h2, fun i a b => ?_⟩
      by_cases e : i = n
      · subst e; omega
      · exact h3 i a (by omega)
theorem take_one {m : List (List Int)} {i : Nat} (h : i < m.length) : m.take (i + 1) = m.take i ++ [rw' m i] := by
  rw [List.take_succ_eq_append_getElem h]
  congr 2
  simp [rw', h]
/-- Every matrix can be eliminated. -/
theorem elm_ex {p : Int} {c : Nat} {A : List (List Int)} (hp : prm p = true) (hl : ∀ i, i < A.length → (rw' A i).length = c) (hr : ∀ i, i < A.length → ∀ j, j < c → 0 ≤ at' A i j ∧ at' A i j < p) (k : Nat) (hk : k ≤ A.length) : ∃ m P d, Elm p c (A.take k) m P d := by
  induction k with
  | zero => exact ⟨[], fun _ => 0, 1, by rw [List.take_zero]; exact Elm.start _⟩
  | succ k ih =>
    obtain ⟨m, P, d, h⟩ := ih (by omega)
    have hK := h.kept hp
    obtain ⟨r', hr'⟩ := red2_ex (r := rw' A k) hp hK.red (hl k (by omega)) (fun j hj => hr k (by omega) j hj) m.length (Nat.le_refl _)
    rw [take_one (by omega)]
    rcases fst_cases r' with ⟨q, q1, q2, q3⟩ | h0
    · rw [hr'.len] at q1
      have hne : ∀ i, i < m.length → P i ≠ q := fun i hi e => q3 (by have := hr'.zer i hi; rw [e] at this; exact this)
      obtain ⟨t, t1, t2, t3⟩ := place_ex hK.red.mono hne
      exact ⟨_, _, _, h.more (s := mkR c fun j => num r' j * inv p (num r' q) % p) (m' := mk m.length c fun i j => (at' m i j + (p - at' m i q) % p * num (mkR c fun j => num r' j * inv p (num r' q) % p) j) % p) (q := q) (t := t)
        ⟨hl k (by omega), hr', q1, q3, q2, fun j hj => mkR_at _ hj, mkR_len _ _, mk_len _ _ _, fun i hi => mk_rowLen _ hi, fun i hi j hj => mk_at _ hi hj, t1, t2, t3⟩⟩
    · exact ⟨m, P, d, h.same (hl k (by omega)) hr' (fun j hj => h0 j (by rw [hr'.len]; exact hj))⟩

theorem Rref.lo {p : Int} {n c : Nat} {R : Nat → Nat → Int} {P : Nat → Nat} (h : Rref p n c R P) : ∀ i, i < n → i ≤ P i := by
  intro i
  induction i with
  | zero => intro _; exact Nat.zero_le _
  | succ i ih => intro hi; have := ih (by omega); have := h.mono i (i + 1) (by omega) hi; omega
theorem Rref.up {p : Int} {n c : Nat} {R : Nat → Nat → Int} {P : Nat → Nat} (h : Rref p n c R P) : ∀ k i, i + k < n → P i + k ≤ P (i + k) := by
  intro k
  induction k with
  | zero => intro i _; exact Nat.le_refl _
  | succ k ih => intro i hi; have := ih i (by omega); have := h.mono (i + k) (i + (k + 1)) (by omega) hi; omega
/-- Where all of the first columns are pivots, they are in order. -/
theorem Rref.all {p : Int} {n c N : Nat} {R : Nat → Nat → Int} {P : Nat → Nat} (h : Rref p n c R P) (ha : ∀ k, k < N → ∃ i, i < n ∧ P i = k) : ∀ k, k < N → k < n ∧ P k = k := by
  intro k
  induction k using Nat.strongRecOn with
  | ind k ih =>
    intro hk
    obtain ⟨i, hi, e⟩ := ha k hk
    rcases Nat.lt_trichotomy i k with l | l | l
    · have := (ih i l (by omega)).2; omega
    · subst l; exact ⟨hi, e⟩
    · have h1 := h.mono k i l hi
      have h2 := h.lo k (by omega)
      omega
theorem Rref.free {p : Int} {n c N : Nat} {R : Nat → Nat → Int} {P : Nat → Nat} (h : Rref p n c R P) (hno : ¬ ∀ k, k < N → k < n ∧ P k = k) : ∃ k, k < N ∧ ∀ i, i < n → P i ≠ k := by
  refine Classical.byContradiction fun hc => hno (h.all fun k hk => Classical.byContradiction fun hd => hc ⟨k, hk, fun i hi e => hd ⟨i, hi, e⟩⟩)

/-- The rows vanish at nothing but 0. -/
def triv (p : Int) (n : Nat) (A : List (List Int)) : Prop := ∀ x : Nat → Int, nul p n n (at' A) x → ∀ j, j < n → x j % p = 0
theorem det_triv {p : Int} {n : Nat} {A : List (List Int)} (hp : prm p = true) (hn : A.length = n) (hl : ∀ i, i < A.length → (rw' A i).length = n) (hr : ∀ i, i < A.length → ∀ j, j < n → 0 ≤ at' A i j ∧ at' A i j < p) : detP p A ≠ 0 ↔ triv p n A := by
  have hpb := prm_bd hp
  obtain ⟨m, P, d, h⟩ := elm_ex hp hl hr A.length (Nat.le_refl _)
  rw [List.take_length] at h
  have hK := h.kept hp
  rcases h.value hp hn with ⟨h1, h2, h3⟩ | ⟨h1, h2⟩
  · refine ⟨fun _ x hx j hj => ?_, fun _ e => h.ne0 hp (by rw [← h2]; exact e)⟩
    have hR := hK.red
    have hx2 := (hK.nul x).1 (by rw [hn]; exact hx)
    rw [h1] at hR hx2
    have hu := hR.unit.2
    have := hx2 j hj
    have e : sm n (fun k => at' m j k * x k) = sm n (fun k => if k = j then x j else 0) := sm_congr fun k hk => by
      rw [hu j hj k hk]
      by_cases e : j = k
      · subst e; simp
      · rw [if_neg e, if_neg (fun q => e q.symm)]; simp
    rw [e, sm_single, if_pos hj] at this
    exact this
  · refine ⟨fun e => absurd h2 e, fun ht _ => ?_⟩
    obtain ⟨k, hk, hf⟩ := hK.red.free (N := n) (fun q => by have := (q (n - 1) (by omega)).1; omega)
    have hz := ht (kv m.length (at' m) P k) (by have := (hK.nul (kv m.length (at' m) P k)).2 (kv_nul hK.red hk); rwa [hn] at this) k hk
    rw [kv_top hK.red hf, Int.emod_eq_of_lt (by omega) (by omega)] at hz
    omega

end Go.Proofs.YtlfjhffigkhmcaaGreat

namespace Go.Proofs.YtlfjhffigkhmcaaGreat
open Go.RowKit
set_option linter.unusedVariables false

def wantF (S : List Int) (i k : Nat) : Int := if i = k then S.getD i 0 else 0
/-- The columns have the products of the basis vectors. -/
def colB (p : Int) (S T : List Int) (m : List (List Int)) : Bool := (List.range S.length).all fun i => (List.range (i + 1)).all fun k => decide (pairN p T (rw' (trM m) i) (rw' (trM m) k) = wantF S i k)
theorem colB_iff {p : Int} {S T : List Int} {m : List (List Int)} : colB p S T m = true ↔ ∀ i, i < S.length → ∀ k, k ≤ i → pairN p T (rw' (trM m) i) (rw' (trM m) k) = wantF S i k := by
  unfold colB
  simp only [List.all_eq_true, List.mem_range, decide_eq_true_eq, Nat.lt_succ_iff]
theorem colB_no {p : Int} {S T : List Int} {m : List (List Int)} {i k : Nat} (hi : i < S.length) (hk : k ≤ i) (h : pairN p T (rw' (trM m) i) (rw' (trM m) k) ≠ wantF S i k) : colB p S T m = false := by
  cases e : colB p S T m with
  | false => rfl
  | true => exact absurd (colB_iff.1 e i hi k hk) h
/-- A square matrix of the size of both spaces. -/
def ismF (p q : Int) (S T : List Int) (m : List (List Int)) : Bool := decide (p = q) && decide (T.length = S.length) && decide (m.length = S.length) && isM p m && decide ((rw' m 0).length = S.length)
/-- What is told of an isometry. -/
def ismB (p q : Int) (S T : List Int) (m : List (List Int)) : Bool := ismF p q S T m && decide (detP p m ≠ 0) && colB p S T m
theorem ismF_iff {p q : Int} {S T : List Int} {m : List (List Int)} : ismF p q S T m = true ↔ p = q ∧ T.length = S.length ∧ m.length = S.length ∧ isM p m = true ∧ (rw' m 0).length = S.length := by
  unfold ismF
  simp only [Bool.and_eq_true, decide_eq_true_eq, and_assoc]
theorem one_row {n i : Nat} (hi : i < n) : rw' (oneM n) i = mkR n fun j => if i = j then 1 else 0 := mk_row _ hi
theorem one_pair {p : Int} {S : List Int} (hs : isSp p S = true) {i j : Nat} (hi : i < S.length) (hj : j < S.length) : pairN p S (rw' (oneM S.length) i) (rw' (oneM S.length) j) = wantF S i j := by
  have hp := prm_bd (isSp_iff.1 hs).prime
  rw [one_row hi, one_row hj]
  unfold pairN psum wantF
  rw [sm_congr (g := fun l => if l = i then (if i = j then S.getD i 0 else 0) else 0) fun l hl => by
    rw [mkR_at _ hl, mkR_at _ hl]
    by_cases e : l = i
    · subst e
      rw [if_pos rfl, if_pos rfl, Int.one_mul]
      by_cases e2 : l = j
      · subst e2; rw [if_pos rfl, if_pos rfl, Int.one_mul]
      · rw [if_neg (fun h => e2 h.symm), if_neg e2, Int.zero_mul]
    · rw [if_neg (fun h => e h.symm), if_neg e, Int.zero_mul, Int.zero_mul], sm_single, if_pos hi]
  have h := (isSp_iff.1 hs).num hi
  split
  · exact Int.emod_eq_of_lt h.1 h.2
  · exact Int.zero_emod _
theorem mk_inj {n c : Nat} {f g : Nat → Nat → Int} : mk n c f = mk n c g ↔ ∀ i, i < n → ∀ j, j < c → f i j = g i j := by
  constructor
  · intro h i hi j hj
    rw [← mk_at f hi hj, ← mk_at g hi hj, h]
  · intro h
    refine mat_ext (by rw [mk_len, mk_len]) fun i hi => ?_
    rw [mk_len] at hi
    rw [mk_row _ hi, mk_row _ hi]
    exact mkR_congr fun j hj => h i hi j hj
/-- The program's way: both Gram matrices are the same. -/
theorem kept_iff {p : Int} {S T : List Int} {m : List (List Int)} (hs : isSp p S = true) (hl : (trM m).length = S.length) : gramM p S (oneM S.length) = gramM p T (trM m) ↔ colB p S T m = true := by
  have e1 : (oneM S.length).length = S.length := mk_len _ _ _
  unfold gramM
  rw [e1, hl, mk_inj, colB_iff]
  unfold gramF
  constructor
  · intro h i hi k hk
    rw [← h i hi k (by omega), one_pair hs hi (by omega)]
  · intro h i hi j hj
    rw [one_pair hs hi hj]
    by_cases hk : j ≤ i
    · exact (h i hi j hk).symm
    · rw [pairN_comm, h j hj i (by omega)]
      unfold wantF
      by_cases e : i = j
      · omega
      · rw [if_neg e, if_neg fun q => e q.symm]
theorem bas_full {p : Int} {n : Nat} {m B : List (List Int)} (hp : prm p = true) (hn : m.length = n) (hl : ∀ i, i < m.length → (rw' m i).length = n) (hr : ∀ i, i < m.length → ∀ j, j < n → 0 ≤ at' m i j ∧ at' m i j < p) (hB : IsBas p n m B) : B.length = n ↔ detP p m ≠ 0 := by
  have hpb := prm_bd hp
  rw [det_triv hp hn hl hr]
  obtain ⟨P, hR⟩ := hB.red
  constructor
  · intro h x hx j hj
    have hx2 := (hB.nul x).1 (by rw [hn]; exact hx)
    rw [h] at hR hx2
    have hu := hR.unit.2
    have := hx2 j hj
    have e : sm n (fun k => at' B j k * x k) = sm n (fun k => if k = j then x j else 0) := sm_congr fun k hk => by
      rw [hu j hj k hk]
      by_cases e : j = k
      · subst e; simp
      · rw [if_neg e, if_neg (fun q => e q.symm)]; simp
    rw [e, sm_single, if_pos hj] at this
    exact this
  · intro ht
    refine Classical.byContradiction fun hne => ?_
    have hle := hR.rows_le
    obtain ⟨k, hk, hf⟩ := hR.free (N := n) (fun q => by have := (q (n - 1) (by omega)).1; omega)
    have hz := ht (kv B.length (at' B) P k) (by have := (hB.nul (kv B.length (at' B) P k)).2 (kv_nul hR hk); rwa [hn] at this) k hk
    rw [kv_top hR hf, Int.emod_eq_of_lt (by omega) (by omega)] at hz
    omega

end Go.Proofs.YtlfjhffigkhmcaaGreat
