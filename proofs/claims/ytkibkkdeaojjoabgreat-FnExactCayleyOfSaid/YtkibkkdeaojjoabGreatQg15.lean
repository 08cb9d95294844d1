/-
  What the program's elimination counts is the determinant. No Go in sight.
  No conditions.
  The program's opposites and first numbers: contracts.
-/
import Derived.Test.YtkibkkdeaojjoabGreatQg14
import Derived.Test.YtkibkkdeaojjoabGreatQg11
namespace Go.Proofs.YtkibkkdeaojjoabGreat
set_option linter.unusedVariables false

theorem at_app (a b : List (List Int)) (i : Nat) : at' (a ++ b) i = if i < a.length then at' a i else at' b (i - a.length) := by
  funext j
  unfold at' rw'
  simp only [List.getD_eq_getElem?_getD, List.getElem?_append]
  split <;> rfl
theorem at_cons0 (z : List Int) (b : List (List Int)) : at' (z :: b) 0 = num z := by funext j; rfl
theorem at_cons (z : List Int) (b : List (List Int)) (i : Nat) : at' (z :: b) (i + 1) = at' b i := by funext j; rfl
theorem at_mid (m : List (List Int)) (z : List Int) (X : List (List Int)) : at' (m ++ z :: X) m.length = num z := by
  rw [at_app, if_neg (Nat.lt_irrefl _), Nat.sub_self, at_cons0]
theorem emod_mul (a b p : Int) : a % p * b % p = a * b % p := by rw [Int.mul_emod, Int.emod_emod, ← Int.mul_emod]
theorem mul_emod_r (a b p : Int) : a * (b % p) % p = a * b % p := by rw [Int.mul_emod, Int.emod_emod, ← Int.mul_emod]

theorem dt_red {p : Int} {n : Nat} {m : List (List Int)} {P : Nat → Nat} {r r' : List Int} {X : List (List Int)} (hr : Red2 p n m P r r' m.length) (hn : m.length < n) :
    dt n (at' (m ++ r :: X)) % p = dt n (upd (at' (m ++ r :: X)) m.length (num r')) % p := by
  obtain ⟨K, hK⟩ := hr.lin
  rw [← dt_addsum hn (Nat.le_refl _) (at' (m ++ r :: X)) K]
  apply dt_mod
  intro i hi j hj
  unfold upd
  by_cases e : i = m.length
  · rw [if_pos e, if_pos e, hK j hj, at_mid]
    congr 2
    apply sm_congr
    intro i' hi'
    rw [at_app, if_pos hi']
  · rw [if_neg e, if_neg e]
theorem ins_end {m : List (List Int)} (s : List Int) (X : List (List Int)) : ins _ m m.length s ++ X = m ++ s :: X := by
  unfold ins
  rw [List.take_of_length_le (Nat.le_refl _), List.drop_of_length_le (Nat.le_refl _)]
  simp
theorem dt_ins_step {n t : Nat} {m : List (List Int)} (s : List Int) (X : List (List Int)) (ht : t < m.length) (hn : m.length < n) : dt n (at' (ins _ m t s ++ X)) = - dt n (at' (ins _ m (t + 1) s ++ X)) := by
  rw [← dt_swap (k := t) (l := t + 1) (by omega) (by omega) (at' (ins _ m (t + 1) s ++ X))]
  apply dt_congr
  intro i hi j hj
  have l1 : (ins _ m t s).length = m.length + 1 := ins_len s (by omega)
  have l2 : (ins _ m (t + 1) s).length = m.length + 1 := ins_len s (by omega)
  have g1 : at' (ins _ m (t + 1) s ++ X) (t + 1) = num s := by rw [at_app, if_pos (by omega), at_ins_new s (by omega)]
  have g0 : at' (ins _ m (t + 1) s ++ X) t = at' m t := by
    rw [at_app, if_pos (by omega), at_ins s (by omega) (by omega)]
    have : old (t + 1) t = t := if_pos (by omega)
    rw [this]
  by_cases e : i = t
  · subst e
    rw [upd_ne _ (by omega), upd_same, g1, at_app, if_pos (by omega), at_ins_new s (by omega)]
  · by_cases e' : i = t + 1
    · subst e'
      rw [upd_same, g0, at_app, if_pos (by omega), at_ins s (by omega) (by omega)]
      have : old t (t + 1) = t := by unfold old; rw [if_neg (by omega)]; omega
      rw [this]
    · rw [upd_ne _ e', upd_ne _ e, at_app, at_app, l1, l2]
      by_cases l : i < m.length + 1
      · rw [if_pos l, if_pos l, at_ins s (by omega) e, at_ins s (by omega) e']
        have : old t i = old (t + 1) i := by unfold old; split <;> split <;> omega
        rw [this]
      · rw [if_neg l, if_neg l]
theorem dt_ins {n t : Nat} {m : List (List Int)} (s : List Int) (X : List (List Int)) (ht : t ≤ m.length) (hn : m.length < n) : dt n (at' (ins _ m t s ++ X)) = dsg (m.length - t) * dt n (at' (m ++ s :: X)) := by
  obtain ⟨d, hd⟩ : ∃ d, m.length = t + d := ⟨m.length - t, by omega⟩
  induction d generalizing t with
  | zero =>
    have : t = m.length := by omega
    subst this
    rw [ins_end, Nat.sub_self]
    have e1 : dsg 0 = 1 := rfl
    rw [e1, Int.one_mul]
  | succ d ih =>
    rw [dt_ins_step s X (by omega) hn, ih (by omega) (by omega)]
    have e : m.length - t = (m.length - (t + 1)) + 1 := by omega
    rw [e, sg_succ, Int.neg_mul]

theorem Elm.detX {p : Int} {n : Nat} {A m : List (List Int)} {P : Nat → Nat} {d : Int} (hp : prm p = true) (h : Elm p n A m P d) : ∀ X : List (List Int), A.length + X.length = n →
    (m.length = A.length ∧ dt n (at' (A ++ X)) % p = d * dt n (at' (m ++ X)) % p) ∨ (m.length < A.length ∧ dt n (at' (A ++ X)) % p = 0) := by
  have hpb := prm_bd hp
  induction h with
  | start P => intro X _; exact .inl ⟨rfl, by rw [Int.one_mul]⟩
  | @same A m P d r r' _ hrl hr h0 ih =>
    intro X hX
    simp only [List.length_append, List.length_cons, List.length_nil] at hX ⊢
    have e : A ++ [r] ++ X = A ++ r :: X := by simp
    rw [e]
    rcases ih (r :: X) (by simp only [List.length_cons]; omega) with ⟨h1, h2⟩ | ⟨h1, h2⟩
    · refine .inr ⟨by omega, ?_⟩
      rw [h2]
      have k : dt n (at' (m ++ r :: X)) % p = 0 := by
        rw [dt_red hr (by omega), dt_zero (k := m.length) (by omega) (fun j hj => by rw [upd_same]; exact h0 j hj)]
        rfl
      rw [Int.mul_emod, k]; simp
    · exact .inr ⟨by omega, h2⟩
  | @more A m m' P d r r' s q t _ k ih =>
    intro X hX
    simp only [List.length_append, List.length_cons, List.length_nil] at hX ⊢
    have e : A ++ [r] ++ X = A ++ r :: X := by simp
    have hl : (ins _ m' t s).length = m.length + 1 := by rw [ins_len s (by rw [k.ml]; exact k.tn), k.ml]
    rw [e, hl]
    rcases ih (r :: X) (by simp only [List.length_cons]; omega) with ⟨h1, h2⟩ | ⟨h1, h2⟩
    · refine .inl ⟨by omega, ?_⟩
      have hmn : m.length < n := by omega
      have hrq := k.red.rng q k.qc
      have hinv : num r' q * inv p (num r' q) % p = 1 := inv_mul hp (by have := k.q0; omega) hrq.2
      have e1 : dt n (upd (at' (m ++ r :: X)) m.length (num r')) % p = num r' q * dt n (upd (at' (m ++ r :: X)) m.length (num s)) % p := by
        rw [← dt_scale hmn]
        apply dt_mod
        intro i hi j hj
        unfold upd
        by_cases ei : i = m.length
        · rw [if_pos ei, if_pos ei, k.ss j hj, mul_emod_r, Int.mul_left_comm, ← mul_emod_r, hinv, Int.mul_one]
        · rw [if_neg ei, if_neg ei]
      have e2 : dt n (upd (at' (m ++ r :: X)) m.length (num s)) % p = dt n (at' (m' ++ s :: X)) % p := by
        rw [← dt_addcol hmn (Nat.le_refl _) (upd (at' (m ++ r :: X)) m.length (num s)) (fun i => (p - at' m i q) % p)]
        apply dt_mod
        intro i hi j hj
        rw [at_app]
        by_cases li : i < m.length
        · rw [if_pos li, if_pos (by rw [k.ml]; exact li), upd_ne _ (by omega), upd_same, k.mr i li j hj, Int.emod_emod, at_app, if_pos li]
        · rw [if_neg li, if_neg (by rw [k.ml]; exact li), k.ml]
          by_cases ei : i = m.length
          · rw [ei, upd_same, Nat.sub_self, at_cons0]
          · obtain ⟨x, hx⟩ : ∃ x, i - m.length = x + 1 := ⟨i - m.length - 1, by omega⟩
            rw [upd_ne _ ei, at_app, if_neg li, hx, at_cons, at_cons]
      have e3 := dt_ins s X (t := t) (m := m') (n := n) (by rw [k.ml]; exact k.tn) (by rw [k.ml]; exact hmn)
      rw [k.ml] at e3
      have e4 : dt n (at' (m ++ r :: X)) % p = num r' q * dt n (at' (m' ++ s :: X)) % p := by
        rw [dt_red k.red hmn, e1, Int.mul_emod, e2, ← Int.mul_emod]
      rw [h2, Int.mul_emod, e4, ← Int.mul_emod, e3, emod_mul]
      generalize dt n (at' (m' ++ s :: X)) = D
      unfold esgn dsg
      by_cases ev : (m.length - t) % 2 = 0
      · rw [if_pos ev, if_pos ev, Int.one_mul, Int.mul_assoc]
      · rw [if_neg ev, if_neg ev]
        generalize num r' q = x
        have c1 : d * (-x % p) * (-1 * D) = -1 * D * d * (-x % p) := by rw [Int.mul_comm (d * (-x % p)), ← Int.mul_assoc]
        have c2 : -1 * D * d * (-x) = d * (x * D) := by
          simp only [Int.neg_mul, Int.mul_neg, Int.neg_neg, Int.one_mul]
          rw [Int.mul_comm D d, Int.mul_assoc, Int.mul_comm D x]
        rw [c1, mul_emod_r, c2]
    · exact .inr ⟨by omega, h2⟩

theorem Rref.unit {p : Int} {n : Nat} {R : Nat → Nat → Int} {P : Nat → Nat} (h : Rref p n n R P) : (∀ i, i < n → P i = i) ∧ ∀ i, i < n → ∀ j, j < n → R i j = if i = j then 1 else 0 := by
  have lo : ∀ i, i < n → i ≤ P i := by
    intro i
    induction i with
    | zero => intro _; exact Nat.zero_le _
    | succ i ih => intro hi; have := ih (by omega); have := h.mono i (i + 1) (by omega) hi; omega
  have up : ∀ k i, i + k < n → P i + k ≤ P (i + k) := by
    intro k
    induction k with
    | zero => intro i _; exact Nat.le_refl _
    | succ k ih => intro i hi; have := ih i (by omega); have := h.mono (i + k) (i + (k + 1)) (by omega) hi; omega
  have eq : ∀ i, i < n → P i = i := fun i hi => by
    have h1 := lo i hi
    have h2 := up (n - 1 - i) i (by omega)
    have h3 := h.pv (i + (n - 1 - i)) (by omega)
    omega
  refine ⟨eq, fun i hi j hj => ?_⟩
  by_cases e : i = j
  · subst e; rw [if_pos rfl]; have := h.one i hi; rwa [eq i hi] at this
  · rw [if_neg e]; have := h.zer j hj i hi (fun q => e q.symm); rwa [eq j hj] at this
/-- The determinant of a square matrix modulo p. -/
def detP (p : Int) (A : List (List Int)) : Int := dt A.length (at' A) % p
theorem Elm.value {p : Int} {n : Nat} {A m : List (List Int)} {P : Nat → Nat} {d : Int} (hp : prm p = true) (h : Elm p n A m P d) (hn : A.length = n) :
    (m.length = n ∧ detP p A = d ∧ ∀ i, i < n → P i = i) ∨ (m.length < n ∧ detP p A = 0) := by
  unfold detP
  rcases h.detX hp [] (by simpa using hn) with ⟨h1, h2⟩ | ⟨h1, h2⟩
  · have hk := (h.kept hp).red
    have hmn : m.length = n := by omega
    rw [hmn] at hk
    refine .inl ⟨hmn, ?_, hk.unit.1⟩
    rw [List.append_nil, List.append_nil] at h2
    rw [hn, h2, dt_one hk.unit.2, Int.mul_one]
    have := h.det hp
    exact Int.emod_eq_of_lt this.1 this.2
  · rw [List.append_nil] at h2
    exact .inr ⟨by omega, by rw [hn]; exact h2⟩

end Go.Proofs.YtkibkkdeaojjoabGreat

namespace Go.Proofs.YtkibkkdeaojjoabGreat
open Go.RowKit
set_option linter.unusedVariables false

theorem opposite_any (p a : Int) (w : World) (hp : prm p = true) (a0 : 0 ≤ a) (a1 : a < p) :
    Calls Tryz.prog 82 #[.int .i64 p, .int .i64 a] w fun e w' => e = .returned (.int .i64 (-a % p)) ∧ w = w' := by
  have hb := prm_bd hp
  have e2 : IntKind.i64.wrap (p - a) = p - a := IntWalk.i64_in _ (by omega)
  have hyy : (p - a) % p = -a % p := by simp
  have e3 : (p - a).tmod p = -a % p := (Int.tmod_eq_emod_of_nonneg (by omega)).trans hyy
  have hp0 : ¬ p = 0 := by omega
  have hp1 : (p == 0) = false := by simpa using hp0
  clear hyy hp
  go_enter Tryz.func82, Tryz.ntmps82
  go_wp2
  go_ret
  exact ⟨rfl, rfl⟩

theorem isNot0_any (x : Int) (w : World) :
    Calls Tryz.prog 118 #[.int .i64 x] w fun e w' => e = .returned (.bool (x != 0)) ∧ w = w' := by
  go_enter Tryz.func118, Tryz.ntmps118
  go_wp2
  go_ret
  exact ⟨rfl, rfl⟩

/-- The place of the first number that is not 0 from k on, or -1. -/
def fstAt (z : List Int) (k : Nat) : Prop := k < z.length ∧ (∀ j, j < k → z.getD j 0 = 0) ∧ z.getD k 0 ≠ 0

set_option maxHeartbeats 800000 in
theorem indexFunc_yes (a : Option Addr) (z : List Int) (n k ca lo tp : Nat) (w : World) (hz : RowIn lo tp w a z) (hn : z.length = n) (hl : n ≤ 1024) (hk : fstAt z k) :
    Calls Tryz.prog 117 #[.slice a n ca, .func (.func 118) #[] #[]] w fun e w' => e = .returned (.int .i64 k) ∧ w = w' := by
  subst hn
  have HZ := Lib.hid hz
  have HK := Lib.hid hk
  clear hz hk
  go_enter Tryz.func117, Tryz.ntmps117
  go_wp2
  go_loop [8] (fun t => ∃ i : Nat, i ≤ k ∧ t = .int .i64 i) (fun t => z.length - (intOf t).toNat)
  case atStart => exact ⟨0, Nat.zero_le _, rfl⟩
  case round =>
    obtain ⟨i, hi, rfl⟩ := hrel
    have hkl := HK.out.1
    have hi1 : (i : Int) < (z.length : Int) := by omega
    obtain ⟨b1, o1, ha1, _, _, hc1⟩ := HZ.out.num (by omega : i < z.length)
    subst ha1
    by_cases e : i = k
    · subst e
      have h3 := HK.out.2.2
      obtain ⟨x, hx⟩ : ∃ x, x = z.getD i 0 := ⟨_, rfl⟩
      rw [← hx] at hc1 h3
      have HX : Hid ((x != 0) = true) := by show _ = _; simpa using h3
      clear hx h3
      go_wp2_with (go_at_call 118; refine (isNot0_any x _).mono ?_; rintro e w1 ⟨rfl, rfl⟩; rw [HX.out])
      go_ret
      exact ⟨rfl, rfl⟩
    · have h2 := HK.out.2.1 i (by omega)
      rw [h2] at hc1
      go_wp2_with (go_at_call 118; refine (isNot0_any 0 _).mono ?_; rintro e w1 ⟨rfl, rfl⟩)
      go_round
      case rel => exact ⟨i + 1, by omega, by go_num⟩
      case measure => simp [intOf]; omega

set_option maxHeartbeats 800000 in
theorem indexFunc_no (a : Option Addr) (z : List Int) (n ca lo tp : Nat) (w : World) (hz : RowIn lo tp w a z) (hn : z.length = n) (hl : n ≤ 1024) (hk : ∀ j, j < z.length → z.getD j 0 = 0) :
    Calls Tryz.prog 117 #[.slice a n ca, .func (.func 118) #[] #[]] w fun e w' => e = .returned (.int .i64 (-1)) ∧ w = w' := by
  subst hn
  have HZ := Lib.hid hz
  have HK := Lib.hid hk
  clear hz hk
  go_enter Tryz.func117, Tryz.ntmps117
  go_wp2
  go_loop [8] (fun t => ∃ i : Nat, i ≤ z.length ∧ t = .int .i64 i) (fun t => z.length - (intOf t).toNat)
  case atStart => exact ⟨0, Nat.zero_le _, rfl⟩
  case round =>
    obtain ⟨i, hi, rfl⟩ := hrel
    by_cases hlt : i < z.length
    · have hi1 : (i : Int) < (z.length : Int) := by omega
      obtain ⟨b1, o1, ha1, _, _, hc1⟩ := HZ.out.num hlt
      subst ha1
      rw [HK.out i hlt] at hc1
      go_wp2_with (go_at_call 118; refine (isNot0_any 0 _).mono ?_; rintro e w1 ⟨rfl, rfl⟩)
      go_round
      case rel => exact ⟨i + 1, by omega, by go_num⟩
      case measure => simp [intOf]; omega
    · have hn : i = z.length := by omega
      subst hn
      go_wp2
      go_ret
      exact ⟨rfl, rfl⟩

theorem fst_cases (z : List Int) : (∃ k, fstAt z k) ∨ ∀ j, j < z.length → z.getD j 0 = 0 := by
  by_cases h : ∀ j, j < z.length → z.getD j 0 = 0
  · exact .inr h
  · left
    have h2 : ∃ k, k < z.length ∧ z.getD k 0 ≠ 0 := Classical.byContradiction fun c => h fun j hj => Classical.byContradiction fun d => c ⟨j, hj, d⟩
    have key : ∀ n, (∃ k, k ≤ n ∧ k < z.length ∧ z.getD k 0 ≠ 0) → ∃ k, fstAt z k := by
      intro n
      induction n with
      | zero =>
        rintro ⟨k, h1, h2, h3⟩
        have : k = 0 := by omega
        subst this
        exact ⟨0, h2, fun j hj => by omega, h3⟩
      | succ n ih =>
        rintro ⟨k, h1, h2, h3⟩
        by_cases e : ∃ k, k ≤ n ∧ k < z.length ∧ z.getD k 0 ≠ 0
        · exact ih e
        · refine ⟨k, h2, fun j hj => Classical.byContradiction fun d => e ⟨j, by omega, by omega, d⟩, h3⟩
    obtain ⟨k, k1, k2⟩ := h2
    exact key k ⟨k, Nat.le_refl _, k1, k2⟩

end Go.Proofs.YtkibkkdeaojjoabGreat
