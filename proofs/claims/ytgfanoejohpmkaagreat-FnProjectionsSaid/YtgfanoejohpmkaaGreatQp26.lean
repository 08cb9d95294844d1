/-
  Contracts and facts that the walk of the law rests on.
  Conditions: those that each theorem names.
-/
import Derived.Test.YtgfanoejohpmkaaGreatQp25
import Derived.Test.YtgfanoejohpmkaaGreatQp22
import Derived.Test.YtgfanoejohpmkaaGreatQp2
import Derived.Test.YtgfanoejohpmkaaGreatQp15
import Derived.Test.YtgfanoejohpmkaaGreatQp21
import Derived.Outline
import Derived.BigQuiet
import Derived.Deep.QuietTactic
import Derived.Deep.RegionHeld3
import Derived.RegionTactic
namespace Go.Proofs.YtgfanoejohpmkaaGreat
open Go.RowKit
set_option linter.unusedVariables false
structure Red2 (p : Int) (c : Nat) (m : List (List Int)) (P : Nat → Nat) (r r' : List Int) (k : Nat) : Prop extends Redu p c m P r r' k where
 lin : ∃ K : Nat → Int, ∀ j, j < c → num r' j % p = (num r j + sm m.length (fun i => K i * at' m i j)) % p
theorem sm_upd (n k : Nat) (K : Nat → Int) (x : Int) (f : Nat → Int) (hk : k < n) : sm n (fun i => (if i = k then K i + x else K i) * f i) = sm n (fun i => K i * f i) + x * f k := by
 have e : sm n (fun i => (if i = k then K i + x else K i) * f i) = sm n (fun i => K i * f i + (if i = k then x * f k else 0)) := sm_congr (fun i _ => by
  by_cases e : i = k
  · subst e; rw [if_pos rfl, if_pos rfl, Int.add_mul]
  · rw [if_neg e, if_neg e, Int.add_zero])
 rw [e, sm_add, sm_single, if_pos hk]
theorem Red2.start {p : Int} {c : Nat} {m : List (List Int)} {P : Nat → Nat} {r : List Int} (hl : r.length = c) (hr : ∀ j, j < c → 0 ≤ num r j ∧ num r j < p) : Red2 p c m P r r 0 where
 toRedu := Redu.start hl hr
 lin := by
  refine ⟨fun _ => 0, fun j _ => ?_⟩
  have : sm m.length (fun i => (0 : Int) * at' m i j) = sm m.length (fun _ => 0) := sm_congr (fun i _ => Int.zero_mul _)
  rw [this, sm_zero, Int.add_zero]
theorem Red2.next {p : Int} {c : Nat} {m : List (List Int)} {P : Nat → Nat} {r r' r'' : List Int} {k : Nat} (hp : prm p = true) (h : Red2 p c m P r r' k) (hR : Rref p m.length c (at' m) P) (hk : k < m.length)
 (hl : r''.length = c) (hn : ∀ j, j < c → num r'' j = (num r' j + (p - num r' (P k)) % p * at' m k j) % p) : Red2 p c m P r r'' (k + 1) where
 toRedu := h.toRedu.next hp hR hk hl hn
 lin := by
  obtain ⟨K, hK⟩ := h.lin
  refine ⟨fun i => if i = k then K i + (p - num r' (P k)) % p else K i, fun j hj => ?_⟩
  rw [sm_upd _ _ _ _ _ hk, hn j hj, Int.emod_emod, Int.add_emod, hK j hj, ← Int.add_emod, Int.add_assoc]
structure Took (p : Int) (c : Nat) (m : List (List Int)) (P : Nat → Nat) (r r' s : List Int) (m' : List (List Int)) (q t : Nat) : Prop where
 rl : r.length = c
 red : Red2 p c m P r r' m.length
 qc : q < c
 q0 : num r' q ≠ 0
 ql : ∀ j, j < q → num r' j = 0
 ss : ∀ j, j < c → num s j = num r' j * inv p (num r' q) % p
 sl : s.length = c
 ml : m'.length = m.length
 mc : ∀ i, i < m.length → (rw' m' i).length = c
 mr : ∀ i, i < m.length → ∀ j, j < c → at' m' i j = (at' m i j + (p - at' m i q) % p * num s j) % p
 tn : t ≤ m.length
 tl : ∀ i, i < t → P i < q
 tr : ∀ i, t ≤ i → i < m.length → q < P i
def esgn (p : Int) (n t : Nat) (x : Int) : Int := if (n - t) % 2 = 0 then x else -x % p
inductive Elm (p : Int) (c : Nat) : List (List Int) → List (List Int) → (Nat → Nat) → Int → Prop
 | start (P : Nat → Nat) : Elm p c [] [] P 1
 | same {A m : List (List Int)} {P : Nat → Nat} {d : Int} {r r' : List Int} : Elm p c A m P d → r.length = c → Red2 p c m P r r' m.length → (∀ j, j < c → num r' j = 0) → Elm p c (A ++ [r]) m P d
 | more {A m m' : List (List Int)} {P : Nat → Nat} {d : Int} {r r' s : List Int} {q t : Nat} : Elm p c A m P d → Took p c m P r r' s m' q t →
  Elm p c (A ++ [r]) (ins _ m' t s) (fun i => if i = t then q else P (old t i)) (d * esgn p m.length t (num r' q) % p)
theorem Elm.kept {p : Int} {c : Nat} {A m : List (List Int)} {P : Nat → Nat} {d : Int} (hp : prm p = true) (h : Elm p c A m P d) : Kept p c A m P := by
 induction h with
 | start P => exact Kept.start p c P
 | same _ _ hr h0 ih => exact ih.same hr.van h0
 | more _ k ih => exact ih.more hp k.red.van k.red.zer k.red.rng k.qc k.q0 k.ql k.ss k.sl k.ml k.mc k.mr k.tn k.tl k.tr
theorem Elm.det {p : Int} {c : Nat} {A m : List (List Int)} {P : Nat → Nat} {d : Int} (hp : prm p = true) (h : Elm p c A m P d) : 0 ≤ d ∧ d < p := by
 have := prm_bd hp
 induction h with
 | start P => omega
 | same _ _ _ _ ih => exact ih
 | more _ _ _ => exact mod_bd hp _
theorem eps_sg (k : Nat) : eps k = dsg k := by
 unfold eps dsg
 rcases Nat.mod_two_eq_zero_or_one k with h | h <;> simp [h]
theorem pow_bit (i j : Nat) : 2 ^ i / 2 ^ j % 2 = if i = j then 1 else 0 := by
 rw [← Nat.toNat_testBit, Nat.testBit_two_pow]
 by_cases h : i = j <;> simp [h]
theorem fz_pow (S : List Int) {a i : Nat} (ha : a / 2 ^ i % 2 = 0) : ∀ n, fz S a (2 ^ i) n = if i < n then eps (gr (a / 2 ^ (i + 1))) else 1
 | 0 => rfl
 | n + 1 => by
  show fz S a (2 ^ i) n * gi S a (2 ^ i) n = _
  rw [fz_pow S ha n]
  unfold gi
  rw [pow_bit]
  by_cases e : i = n
  · subst e
    rw [if_pos rfl, if_pos rfl, if_neg (Nat.lt_irrefl _), if_pos (Nat.lt_succ_self _), if_neg (by omega)]
    simp
  · rw [if_neg e, if_neg (show ¬ (0 : Nat) = 1 by decide), Int.mul_one]
    by_cases h : i < n
    · rw [if_pos h, if_pos (by omega)]
    · rw [if_neg h, if_neg (by omega)]
theorem pow_inj {i j : Nat} (h : 2 ^ i = 2 ^ j) : i = j := (Nat.pow_right_inj (by decide)).1 h
theorem vecF_sum (v : List Int) (b : Nat) : ∀ k, vecF v k b = sm k (fun i => if b = 2 ^ i then v.getD i 0 else 0)
 | 0 => rfl
 | k + 1 => by
  show (if b = 2 ^ k then v.getD k 0 else vecF v k b) = sm k _ + (if b = 2 ^ k then v.getD k 0 else 0)
  by_cases e : b = 2 ^ k
  · rw [if_pos e, if_pos e, sm_congr (g := fun _ => 0) (fun i hi => if_neg (fun h => by have := pow_inj (e.symm.trans h); omega)), sm_zero, Int.zero_add]
  · rw [if_neg e, if_neg e, Int.add_zero, vecF_sum v b k]
theorem bit_and : ∀ c, c < 64 → ∀ i, i < 6 → ((c ^^^ 2 ^ i) &&& 2 ^ i == 0) = decide (c / 2 ^ i % 2 = 1) := by decide +kernel
theorem bit_flip : ∀ c, c < 64 → ∀ i, i < 6 → c / 2 ^ i % 2 = 1 → (c ^^^ 2 ^ i) / 2 ^ i % 2 = 0 ∧ (c ^^^ 2 ^ i) / 2 ^ (i + 1) = c / 2 ^ (i + 1) := by decide +kernel
theorem sm_more {n N : Nat} (h : n ≤ N) {f : Nat → Int} (hz : ∀ i, n ≤ i → i < N → f i = 0) : sm N f = sm n f := by
 induction N with
 | zero => rw [show n = 0 by omega]
 | succ N ih =>
  by_cases e : n = N + 1
  · rw [e]
  · show sm N f + f N = sm n f
    rw [ih (by omega) (fun i h1 h2 => hz i h1 (by omega)), hz N (by omega) (Nat.lt_succ_self N), Int.add_zero]
theorem wg_vec (p : Int) {S : List Int} (h6 : S.length ≤ 6) (x : List Int) {v : List Int} (hv : v.length = S.length) {c : Nat} (hc : c < bl S) :
 kF p S 0 x (vecM S v) c = sm S.length (fun i => if c / 2 ^ i % 2 = 1 then x.getD (c ^^^ 2 ^ i) 0 * fm p S (c ^^^ 2 ^ i) (2 ^ i) S.length * v.getD i 0 else 0) % p := by
 unfold kF
 congr 1
 have hbl := bl_le h6
 have h1 : ∀ a, a < bl S → tk p S 0 x (vecM S v) c a = sm S.length (fun i => if a = c ^^^ 2 ^ i then (if c / 2 ^ i % 2 = 1 then x.getD (c ^^^ 2 ^ i) 0 * fm p S (c ^^^ 2 ^ i) (2 ^ i) S.length * v.getD i 0 else 0) else 0) := fun a ha => by
  have hx : a ^^^ c < bl S := Nat.xor_lt_two_pow ha hc
  have hy : (vecM S v).getD (a ^^^ c) 0 = sm S.length (fun i => if a ^^^ c = 2 ^ i then v.getD i 0 else 0) := by
   unfold vecM; rw [mkR_at _ hx, vecF_sum, hv]
  have hE : tk p S 0 x (vecM S v) c a = sm S.length (fun i => if kp 0 a (a ^^^ c) = true then x.getD a 0 * fm p S a (a ^^^ c) S.length * (if a ^^^ c = 2 ^ i then v.getD i 0 else 0) else 0) := by
   unfold tk tm
   rw [hy]
   by_cases hk : kp 0 a (a ^^^ c) = true
   · rw [if_pos hk, ← sm_mul]
     exact sm_congr fun i _ => by rw [if_pos hk]
   · rw [if_neg hk, sm_congr (g := fun _ => 0) (fun i _ => if_neg hk), sm_zero]
  rw [hE]
  apply sm_congr
  intro i hi
  have hi6 : i < 6 := by omega
  by_cases e : a = c ^^^ 2 ^ i
  · have e2 : a ^^^ c = 2 ^ i := by rw [e, Nat.xor_comm c, Nat.xor_assoc, Nat.xor_self, Nat.xor_zero]
    rw [if_pos e, e2, if_pos rfl]
    have e3 : kp 0 a (2 ^ i) = decide (c / 2 ^ i % 2 = 1) := by rw [e]; exact bit_and c (by omega) i hi6
    rw [e3]
    by_cases hb : c / 2 ^ i % 2 = 1
    · rw [if_pos (decide_eq_true hb), if_pos hb, e]
    · rw [if_neg (by simpa using hb), if_neg hb]
  · have e2 : ¬ a ^^^ c = 2 ^ i := fun h => e (by rw [← h, Nat.xor_comm a, ← Nat.xor_assoc, Nat.xor_self, Nat.zero_xor])
    rw [if_neg e, if_neg e2, Int.mul_zero, ite_self]
 rw [sm_congr h1, sm_swap]
 apply sm_congr
 intro i hi
 rw [sm_single, if_pos (show c ^^^ 2 ^ i < bl S from Nat.xor_lt_two_pow hc (Nat.pow_lt_pow_right (by decide) hi))]
theorem wv_wD {p : Int} {S : List Int} (hs : isSp p S = true) {m : List (List Int)} (hm : ∀ i, i < m.length → isVec p S.length (rw' m i) = true) : ∀ k, k ≤ m.length → ∀ c, c < bl S → (wvM p S m k).getD c 0 = wD (at' m) k c % p
 | 0, _, c, hc => by
  have hp := prm_bd (isSp_iff.1 hs).prime
  show (mOne S).getD c 0 = (if c = 0 then (1 : Int) else 0) % p
  unfold mOne
  rw [mkR_at _ hc]
  unfold oneF
  split
  · exact (Int.emod_eq_of_lt (by omega) (by omega)).symm
  · exact (Int.zero_emod p).symm
 | k + 1, hk, c, hc => by
  have h6 := (isSp_iff.1 hs).hi
  have hbl := bl_le h6
  have hv := (isVec_iff.1 (hm k (by omega))).len
  show (kM p S 0 (wvM p S m k) (vecM S (rw' m k))).getD c 0 = _
  rw [kM_at _ _ _ _ _ hc, wg_vec p h6 _ hv hc]
  have hT : wD (at' m) (k + 1) c = sm S.length (fun i => if c / 2 ^ i % 2 = 1 then wD (at' m) k (c ^^^ 2 ^ i) * dsg (gr (c / 2 ^ (i + 1))) * at' m k i else 0) := by
   show sm 6 _ = _
   exact sm_more h6 fun i hi _ => if_neg (by
    rw [Nat.div_eq_of_lt (Nat.lt_of_lt_of_le hc (Nat.pow_le_pow_right (by decide) hi))]; decide)
  rw [hT]
  apply sm_congr_p
  intro i hi
  have hi6 : i < 6 := by omega
  by_cases hb : c / 2 ^ i % 2 = 1
  · rw [if_pos hb, if_pos hb]
    obtain ⟨f1, f2⟩ := bit_flip c (by omega) i hi6 hb
    have hx : c ^^^ 2 ^ i < bl S := Nat.xor_lt_two_pow hc (Nat.pow_lt_pow_right (by decide) hi)
    rw [wv_wD hs hm k (by omega) _ hx]
    unfold fm
    rw [fz_pow S f1, if_pos hi, f2, eps_sg]
    show wD (at' m) k (c ^^^ 2 ^ i) % p * (dsg (gr (c / 2 ^ (i + 1))) % p) * at' m k i % p = _
    rw [← em_l, em_l (wD (at' m) k (c ^^^ 2 ^ i)), em_r, em_l]
  · rw [if_neg hb, if_neg hb]
def sl (i c : Nat) : Int := eps (gr (c % 2 ^ i))
theorem gr_low : ∀ b, b < 64 → ∀ n, n < 6 → gr (b % 2 ^ (n + 1)) = gr (b % 2 ^ n) + b / 2 ^ n % 2 := by decide +kernel
theorem gr_up : ∀ i, i < 6 → ∀ n, n < 6 → gr (2 ^ i / 2 ^ (n + 1)) = if n < i then 1 else 0 := by decide +kernel
theorem eps_more (a : Nat) : eps a * eps 1 = eps (a + 1) := by
 unfold eps
 rcases Nat.mod_two_eq_zero_or_one a with h | h
 · rw [if_neg (by omega), if_pos (by omega), if_pos (by omega)]; rfl
 · rw [if_pos (by omega), if_pos (by omega), if_neg (by omega)]; rfl
theorem fz_left (S : List Int) {b i : Nat} (hb : b < 64) (hi : i < 6) (h0 : b / 2 ^ i % 2 = 0) : ∀ n, n ≤ 6 → fz S (2 ^ i) b n = eps (gr (b % 2 ^ (if n ≤ i then n else i)))
 | 0, _ => by
  show (1 : Int) = _
  rw [if_pos (Nat.zero_le _), Nat.pow_zero, Nat.mod_one]; rfl
 | n + 1, hn => by
  show fz S (2 ^ i) b n * gi S (2 ^ i) b n = _
  rw [fz_left S hb hi h0 n (by omega)]
  unfold gi
  rw [pow_bit]
  by_cases hbn : b / 2 ^ n % 2 = 1
  · have hne : ¬ i = n := by rintro rfl; omega
    rw [if_pos hbn, if_neg hne, if_neg (show ¬ (0 : Nat) = 1 by decide), Int.mul_one, gr_up i hi n (by omega)]
    by_cases hl : n < i
    · rw [if_pos (show n ≤ i by omega), if_pos (show n + 1 ≤ i by omega), if_pos hl, gr_low b hb n (by omega), hbn, eps_more]
    · rw [if_neg (show ¬ n ≤ i by omega), if_neg (show ¬ n + 1 ≤ i by omega), if_neg hl]
      show _ * 1 = _
      rw [Int.mul_one]
  · have hb0 : b / 2 ^ n % 2 = 0 := by omega
    rw [if_neg hbn, Int.mul_one]
    by_cases hl : n < i
    · rw [if_pos (show n ≤ i by omega), if_pos (show n + 1 ≤ i by omega), gr_low b hb n (by omega), hb0, Nat.add_zero]
    · by_cases e : n = i
      · subst e; rw [if_pos (Nat.le_refl _), if_neg (by omega)]
      · rw [if_neg (show ¬ n ≤ i by omega), if_neg (show ¬ n + 1 ≤ i by omega)]
theorem fz_sl (S : List Int) {b i n : Nat} (hb : b < 64) (hi : i < n) (hn : n ≤ 6) (h0 : b / 2 ^ i % 2 = 0) : fz S (2 ^ i) b n = sl i b := by
 rw [fz_left S hb (by omega) h0 n hn, if_neg (by omega)]; rfl
def lw (v y : Nat → Int) (c : Nat) : Int := sm 6 fun i => if c / 2 ^ i % 2 = 1 then v i * sl i (c ^^^ 2 ^ i) * y (c ^^^ 2 ^ i) else 0
theorem lw_short {n : Nat} (hn : n ≤ 6) (v y : Nat → Int) {c : Nat} (hc : c < 2 ^ n) : lw v y c = sm n fun i => if c / 2 ^ i % 2 = 1 then v i * sl i (c ^^^ 2 ^ i) * y (c ^^^ 2 ^ i) else 0 :=
 sm_more hn fun i hi _ => if_neg (by rw [Nat.div_eq_of_lt (Nat.lt_of_lt_of_le hc (Nat.pow_le_pow_right (by decide) hi))]; decide)
theorem vec_wg (p : Int) {S : List Int} (h6 : S.length ≤ 6) (x : List Int) {v : List Int} (hv : v.length = S.length) {c : Nat} (hc : c < bl S) :
 kF p S 0 (vecM S v) x c = lw (fun i => v.getD i 0) (fun j => x.getD j 0) c % p := by
 unfold kF
 rw [lw_short h6 _ _ hc]
 have hbl := bl_le h6
 have h1 : ∀ a, a < bl S → tk p S 0 (vecM S v) x c a = sm S.length (fun i => if a = 2 ^ i then (if c / 2 ^ i % 2 = 1 then v.getD i 0 * fm p S (2 ^ i) (c ^^^ 2 ^ i) S.length * x.getD (c ^^^ 2 ^ i) 0 else 0) else 0) := fun a ha => by
  have hy : (vecM S v).getD a 0 = sm S.length (fun i => if a = 2 ^ i then v.getD i 0 else 0) := by
   unfold vecM; rw [mkR_at _ ha, vecF_sum, hv]
  unfold tk tm
  rw [hy]
  by_cases hk : kp 0 a (a ^^^ c) = true
  · rw [if_pos hk, Int.mul_assoc, Int.mul_comm, ← sm_mul]
    apply sm_congr
    intro i hi
    by_cases e : a = 2 ^ i
    · subst e
      have e3 : kp 0 (2 ^ i) (2 ^ i ^^^ c) = decide (c / 2 ^ i % 2 = 1) := by
       rw [← bit_and c (by omega) i (by omega), Nat.xor_comm (2 ^ i) c]
       unfold kp
       rw [if_pos rfl, Nat.and_comm]
      rw [e3] at hk
      rw [if_pos rfl, if_pos rfl, if_pos (by simpa using hk), Nat.xor_comm (2 ^ i) c]
      ac_rfl
    · rw [if_neg e, if_neg e, Int.mul_zero]
  · rw [if_neg hk, sm_congr (g := fun _ => 0), sm_zero]
    intro i hi
    by_cases e : a = 2 ^ i
    · subst e
      have e3 : kp 0 (2 ^ i) (2 ^ i ^^^ c) = decide (c / 2 ^ i % 2 = 1) := by
       rw [← bit_and c (by omega) i (by omega), Nat.xor_comm (2 ^ i) c]
       unfold kp
       rw [if_pos rfl, Nat.and_comm]
      rw [e3] at hk
      rw [if_pos rfl, if_neg (by simpa using hk)]
    · rw [if_neg e]
 rw [sm_congr h1, sm_swap]
 apply sm_congr_p
 intro i hi
 have hi2 : 2 ^ i < bl S := Nat.pow_lt_pow_right (by decide) hi
 rw [sm_single, if_pos hi2]
 by_cases hb : c / 2 ^ i % 2 = 1
 · rw [if_pos hb, if_pos hb]
   have hx : c ^^^ 2 ^ i < bl S := Nat.xor_lt_two_pow hc hi2
   unfold fm
   rw [fz_sl S (show c ^^^ 2 ^ i < 64 by omega) hi h6 (bit_flip c (by omega) i (by omega) hb).1, ← em_l, em_r, em_l]
 · rw [if_neg hb, if_neg hb]
def io (q : Nat) (y : Nat → Int) (c : Nat) : Int := if c / 2 ^ q % 2 = 0 then sl q c * y (c ^^^ 2 ^ q) else 0
theorem di_on : ∀ c, c < 64 → ∀ q, q < 6 → (c / 2 ^ q % 2 = 0 → (c ^^^ 2 ^ q) / 2 ^ q % 2 = 1) ∧ (c / 2 ^ q % 2 = 1 → (c ^^^ 2 ^ q) / 2 ^ q % 2 = 0) ∧ c ^^^ 2 ^ q < 64 ∧ c ^^^ 2 ^ q ^^^ 2 ^ q = c := by decide +kernel
theorem di_bit : ∀ c, c < 64 → ∀ q, q < 6 → ∀ i, i < 6 → i ≠ q → (c ^^^ 2 ^ q) / 2 ^ i % 2 = c / 2 ^ i % 2 := by decide +kernel
theorem di_sgn : ∀ c, c < 64 → ∀ q, q < 6 → ∀ i, i < 6 → (i ≠ q ∧ c / 2 ^ q % 2 = 0 ∧ c / 2 ^ i % 2 = 1) → sl q c * sl i (c ^^^ 2 ^ q ^^^ 2 ^ i) = - (sl i (c ^^^ 2 ^ i) * sl q (c ^^^ 2 ^ i)) := by decide +kernel
theorem di_gr : ∀ c, c < 64 → ∀ q, q < 6 → c / 2 ^ q % 2 = 0 → gr (c ^^^ 2 ^ q) = gr c + 1 := by decide +kernel
theorem sl_sq (i c : Nat) : sl i c * sl i c = 1 := eps_sq _
theorem leib (v y : Nat → Int) {c q : Nat} (hc : c < 64) (hq : q < 6) : io q (lw v y) c + lw v (io q y) c = v q * y c := by
 have h1 : io q (lw v y) c = sm 6 fun i => if c / 2 ^ q % 2 = 0 then sl q c * (if (c ^^^ 2 ^ q) / 2 ^ i % 2 = 1 then v i * sl i (c ^^^ 2 ^ q ^^^ 2 ^ i) * y (c ^^^ 2 ^ q ^^^ 2 ^ i) else 0) else 0 := by
  unfold io lw
  by_cases h : c / 2 ^ q % 2 = 0
  · rw [if_pos h, ← sm_mul]
    exact sm_congr fun i _ => by rw [if_pos h]
  · rw [if_neg h, sm_congr (g := fun _ => 0) (fun i _ => if_neg h), sm_zero]
 rw [h1]
 unfold lw
 rw [← sm_add, sm_congr (g := fun i => if i = q then v q * y c else 0), sm_single, if_pos hq]
 intro i hi
 obtain ⟨g1, g2, g3, g4⟩ := di_on c hc q hq
 unfold io
 by_cases e : i = q
 · subst e
   rw [if_pos rfl]
   by_cases h : c / 2 ^ i % 2 = 0
   · rw [if_pos h, if_pos (g1 h), if_neg (by omega), g4, Int.add_zero]
     have := sl_sq i c
     calc sl i c * (v i * sl i c * y c) = (sl i c * sl i c) * (v i * y c) := by ac_rfl
      _ = v i * y c := by rw [this, Int.one_mul]
   · have h' : c / 2 ^ i % 2 = 1 := by omega
     rw [if_neg h, if_pos h', if_pos (g2 h'), g4, Int.zero_add]
     have := sl_sq i (c ^^^ 2 ^ i)
     calc v i * sl i (c ^^^ 2 ^ i) * (sl i (c ^^^ 2 ^ i) * y c) = (sl i (c ^^^ 2 ^ i) * sl i (c ^^^ 2 ^ i)) * (v i * y c) := by ac_rfl
      _ = v i * y c := by rw [this, Int.one_mul]
 · rw [if_neg e, di_bit c hc q hq i hi e, di_bit c hc i hi q hq (fun h => e h.symm)]
   by_cases h : c / 2 ^ q % 2 = 0
   · rw [if_pos h]
     by_cases hb : c / 2 ^ i % 2 = 1
     · rw [if_pos hb, if_pos hb, if_pos h]
       have hs := di_sgn c hc q hq i hi ⟨e, h, hb⟩
       have hx : c ^^^ 2 ^ i ^^^ 2 ^ q = c ^^^ 2 ^ q ^^^ 2 ^ i := by rw [Nat.xor_assoc, Nat.xor_comm (2 ^ i), ← Nat.xor_assoc]
       rw [hx]
       generalize y (c ^^^ 2 ^ q ^^^ 2 ^ i) = Y
       generalize sl i (c ^^^ 2 ^ q ^^^ 2 ^ i) = s1 at *
       generalize sl i (c ^^^ 2 ^ i) = s2 at *
       generalize sl q (c ^^^ 2 ^ i) = s3 at *
       calc sl q c * (v i * s1 * Y) + v i * s2 * (s3 * Y) = (sl q c * s1) * (v i * Y) + (s2 * s3) * (v i * Y) := by ac_rfl
        _ = 0 := by rw [hs, Int.neg_mul]; omega
     · rw [if_neg hb, if_neg hb]; simp
   · rw [if_neg h]
     by_cases hb : c / 2 ^ i % 2 = 1
     · rw [if_pos hb, if_neg h]; simp
     · rw [if_neg hb]; simp
def ioM (p : Int) (S : List Int) (q : Nat) (x : List Int) : List Int := mkR (bl S) fun c => io q (fun j => x.getD j 0) c % p
theorem ioM_len (p : Int) (S : List Int) (q : Nat) (x : List Int) : (ioM p S q x).length = bl S := mkR_len _ _
theorem ioM_at (p : Int) (S : List Int) (q : Nat) (x : List Int) {c : Nat} (hc : c < bl S) : (ioM p S q x).getD c 0 = io q (fun j => x.getD j 0) c % p := mkR_at _ hc
theorem lw_mod {p : Int} {n : Nat} (hn : n ≤ 6) (v : Nat → Int) {y y' : Nat → Int} (h : ∀ j, j < 2 ^ n → y j % p = y' j % p) {c : Nat} (hc : c < 2 ^ n) : lw v y c % p = lw v y' c % p := by
 rw [lw_short hn _ _ hc, lw_short hn _ _ hc]
 apply sm_congr_p
 intro i hi
 by_cases hb : c / 2 ^ i % 2 = 1
 · rw [if_pos hb, if_pos hb, Int.mul_emod, h _ (Nat.xor_lt_two_pow hc (Nat.pow_lt_pow_right (by decide) hi)), ← Int.mul_emod]
 · rw [if_neg hb, if_neg hb]
def Ann (p : Int) (S v x : List Int) : Prop := ∀ c, c < bl S → (kM p S 0 (vecM S v) x).getD c 0 = 0
theorem io_wg {p : Int} {S : List Int} {q : Nat} {v x : List Int} (h6 : S.length ≤ 6) (hq : q < S.length) (hv : v.length = S.length) (hz : Ann p S v x) {c : Nat} (hc : c < bl S) :
 (kM p S 0 (vecM S v) (ioM p S q x)).getD c 0 = v.getD q 0 * x.getD c 0 % p := by
 have hbl := bl_le h6
 have hl := leib (fun i => v.getD i 0) (fun j => x.getD j 0) (show c < 64 by omega) (show q < 6 by omega)
 have h1 : lw (fun i => v.getD i 0) (fun j => (ioM p S q x).getD j 0) c % p = lw (fun i => v.getD i 0) (io q fun j => x.getD j 0) c % p :=
  lw_mod h6 _ (fun j hj => by rw [ioM_at p S q x hj, Int.emod_emod]) hc
 have h2 : io q (lw (fun i => v.getD i 0) (fun j => x.getD j 0)) c % p = 0 := by
  unfold io
  by_cases h : c / 2 ^ q % 2 = 0
  · have hx : c ^^^ 2 ^ q < bl S := Nat.xor_lt_two_pow hc (Nat.pow_lt_pow_right (by decide) hq)
    have h3 := hz _ hx
    rw [kM_at _ _ _ _ _ hx, vec_wg p h6 _ hv hx] at h3
    rw [if_pos h, Int.mul_emod, h3, Int.mul_zero, Int.zero_emod]
  · rw [if_neg h, Int.zero_emod]
 rw [kM_at _ _ _ _ _ hc, vec_wg p h6 _ hv hc, h1]
 show _ = (fun i => v.getD i 0) q * (fun j => x.getD j 0) c % p
 rw [← hl, Int.add_emod, h2, Int.zero_add, Int.emod_emod]
theorem wg_one_l {p : Int} {S x : List Int} (hx : x.length = bl S) (hn : ∀ j, j < x.length → 0 ≤ x.getD j 0 ∧ x.getD j 0 < p) : kM p S 0 (mOne S) x = x := by
 refine row_ext (by rw [kM_len, hx]) fun c hc => ?_
 rw [kM_len] at hc
 rw [kM_at _ _ _ _ _ hc, kF_eq]
 unfold kpz
 have h1 : ∀ a, a < 2 ^ S.length → (fun j => (mOne S).getD j 0) a * fk S 0 a (a ^^^ c) S.length * (fun j => x.getD j 0) (a ^^^ c) = if a = 0 then x.getD c 0 else 0 := fun a ha => by
  show (mOne S).getD a 0 * _ * x.getD (a ^^^ c) 0 = _
  unfold mOne
  rw [mkR_at _ (show a < bl S from ha)]
  unfold oneF
  by_cases e : a = 0
  · subst e
    unfold fk
    rw [if_pos rfl, if_pos rfl, Nat.zero_xor, if_pos (kp0_iff.2 fun i => by rw [Nat.zero_testBit]; rfl), fz_zero, Int.one_mul, Int.one_mul]
  · rw [if_neg e, if_neg e, Int.zero_mul, Int.zero_mul]
 rw [sm_congr h1, sm_single, if_pos (Nat.two_pow_pos _)]
 have := hn c (by rw [hx]; exact hc)
 exact Int.emod_eq_of_lt this.1 this.2
theorem xor_zero_eq {a c : Nat} (h : a ^^^ c = 0) : a = c := by
 have h2 : a ^^^ c ^^^ c = 0 ^^^ c := by rw [h]
 rwa [Nat.xor_assoc, Nat.xor_self, Nat.xor_zero, Nat.zero_xor] at h2
theorem wg_scal {p f : Int} {S w y : List Int} (hy : ∀ c, c < bl S → y.getD c 0 = if c = 0 then f else 0) {c : Nat} (hc : c < bl S) : (kM p S 0 w y).getD c 0 = w.getD c 0 * f % p := by
 rw [kM_at _ _ _ _ _ hc, kF_eq]
 unfold kpz
 have h1 : ∀ a, a < 2 ^ S.length → (fun j => w.getD j 0) a * fk S 0 a (a ^^^ c) S.length * (fun j => y.getD j 0) (a ^^^ c) = if a = c then w.getD c 0 * f else 0 := fun a ha => by
  show w.getD a 0 * _ * y.getD (a ^^^ c) 0 = _
  rw [hy _ (Nat.xor_lt_two_pow ha hc)]
  by_cases e : a = c
  · subst e
    unfold fk
    rw [Nat.xor_self, if_pos rfl, if_pos rfl, if_pos (kp0_iff.2 fun i => by rw [Nat.zero_testBit, Bool.and_false]), fz_one, Int.mul_one]
  · rw [if_neg e, if_neg (fun h => e (xor_zero_eq h)), Int.mul_zero]
 rw [sm_congr h1, sm_single, if_pos (show c < 2 ^ S.length from hc)]
def takeM (p : Int) (S : List Int) (P : Nat → Nat) (x : List Int) : Nat → List Int
 | 0 => x
 | k + 1 => ioM p S (P k) (takeM p S P x k)
theorem takeM_len {p : Int} {S : List Int} {P : Nat → Nat} {x : List Int} (hx : x.length = bl S) : ∀ k, (takeM p S P x k).length = bl S
 | 0 => hx
 | k + 1 => ioM_len _ _ _ _
theorem takeM_num {p : Int} (hp : 0 < p) {S : List Int} {P : Nat → Nat} {x : List Int} (hn : ∀ j, j < x.length → 0 ≤ x.getD j 0 ∧ x.getD j 0 < p) : ∀ k j, j < (takeM p S P x k).length → 0 ≤ (takeM p S P x k).getD j 0 ∧ (takeM p S P x k).getD j 0 < p
 | 0 => hn
 | k + 1 => fun j hj => by
  have hj' : j < bl S := by rw [show takeM p S P x (k + 1) = ioM p S (P k) (takeM p S P x k) from rfl, ioM_len] at hj; exact hj
  rw [show takeM p S P x (k + 1) = ioM p S (P k) (takeM p S P x k) from rfl, ioM_at _ _ _ _ hj']
  exact ⟨Int.emod_nonneg _ (by omega), Int.emod_lt_of_pos _ hp⟩
theorem split_off {p : Int} {S x : List Int} {m : List (List Int)} {P : Nat → Nat} (hp : 0 < p) (h6 : S.length ≤ 6) (hx : x.length = bl S) (hn : ∀ j, j < x.length → 0 ≤ x.getD j 0 ∧ x.getD j 0 < p)
 (hR : Rref p m.length S.length (at' m) P) (hl : ∀ i, i < m.length → (rw' m i).length = S.length) (ha : ∀ j, j < m.length → Ann p S (rw' m j) x) :
 ∀ k, k ≤ m.length → kM p S 0 (wvM p S m k) (takeM p S P x k) = x ∧ ∀ j, k ≤ j → j < m.length → Ann p S (rw' m j) (takeM p S P x k)
 | 0, _ => ⟨wg_one_l hx hn, fun j _ hj => ha j hj⟩
 | k + 1, hk => by
  obtain ⟨h1, h2⟩ := split_off hp h6 hx hn hR hl ha k (by omega)
  have hk' : k < m.length := by omega
  have hv := hl k hk'
  have hz := h2 k (Nat.le_refl _) hk'
  have hq := hR.pv k hk'
  constructor
  · show kM p S 0 (kM p S 0 (wvM p S m k) (vecM S (rw' m k))) (ioM p S (P k) (takeM p S P x k)) = x
    rw [wedge_assoc]
    have e : kM p S 0 (vecM S (rw' m k)) (ioM p S (P k) (takeM p S P x k)) = takeM p S P x k := by
     refine row_ext (by rw [kM_len, takeM_len hx]) fun c hc => ?_
     rw [kM_len] at hc
     rw [io_wg h6 hq hv hz hc, show (rw' m k).getD (P k) 0 = 1 from hR.one k hk', Int.one_mul]
     have := takeM_num hp hn (S := S) (P := P) k c (by rw [takeM_len hx]; exact hc)
     exact Int.emod_eq_of_lt this.1 this.2
    rw [e]; exact h1
  · intro j hj1 hj2 c hc
    show (kM p S 0 (vecM S (rw' m j)) (ioM p S (P k) (takeM p S P x k))).getD c 0 = 0
    rw [io_wg h6 hq (hl j hj2) (h2 j (by omega) hj2) hc, show (rw' m j).getD (P k) 0 = 0 from hR.zer k hk' j hj2 (by omega), Int.zero_mul, Int.zero_emod]
def Hom (n : Nat) (y : List Int) (g : Nat) : Prop := ∀ c, c < n → y.getD c 0 ≠ 0 → gr c = g
theorem take_hom {p : Int} {S x : List Int} {P : Nat → Nat} (h6 : S.length ≤ 6) {n : Nat} (hP : ∀ i, i < n → P i < S.length) (h : Hom (bl S) x n) : ∀ k, k ≤ n → Hom (bl S) (takeM p S P x k) (n - k)
 | 0, _ => h
 | k + 1, hk => fun c hc hne => by
  have hbl := bl_le h6
  have ih := take_hom h6 hP h (p := p) k (by omega)
  have hq := hP k (by omega)
  rw [show takeM p S P x (k + 1) = ioM p S (P k) (takeM p S P x k) from rfl, ioM_at _ _ _ _ hc] at hne
  unfold io at hne
  by_cases hb : c / 2 ^ P k % 2 = 0
  · rw [if_pos hb] at hne
    have h0 : (takeM p S P x k).getD (c ^^^ 2 ^ P k) 0 ≠ 0 := fun e => hne (by
     show sl (P k) c * (takeM p S P x k).getD (c ^^^ 2 ^ P k) 0 % p = 0
     rw [e, Int.mul_zero, Int.zero_emod])
    have h1 := ih _ (Nat.xor_lt_two_pow hc (Nat.pow_lt_pow_right (by decide) hq)) h0
    have h2 := di_gr c (by omega) (P k) (by omega) hb
    omega
  · rw [if_neg hb, Int.zero_emod] at hne
    exact absurd rfl hne
theorem wD_hom (f : Nat → Nat → Int) : ∀ k c, c < 64 → wD f k c ≠ 0 → gr c = k
 | 0, c, hc, h => by
  by_cases e : c = 0
  · subst e; rfl
  · exact absurd (if_neg e) h
 | k + 1, c, hc, h => by
  refine Classical.byContradiction fun hg => h ?_
  show (sm 6 fun i => if c / 2 ^ i % 2 = 1 then wD f k (c ^^^ 2 ^ i) * dsg (gr (c / 2 ^ (i + 1))) * f k i else 0) = 0
  rw [sm_congr (g := fun _ => 0), sm_zero]
  intro i hi
  by_cases hb : c / 2 ^ i % 2 = 1
  · rw [if_pos hb]
    have h1 := (bit_drop c hc i hi hb).2.1
    have h2 : wD f k (c ^^^ 2 ^ i) = 0 := Classical.byContradiction fun h3 => hg (by
     have := wD_hom f k _ (di_on c hc i hi).2.2.1 h3; omega)
    rw [h2, Int.zero_mul, Int.zero_mul]
  · rw [if_neg hb]
def pm (P : Nat → Nat) : Nat → Nat
 | 0 => 0
 | k + 1 => pm P k ||| 2 ^ P k
theorem pm_lt (P : Nat → Nat) {Q : Nat} : ∀ k, (∀ j, j < k → P j < Q) → pm P k < 2 ^ Q
 | 0, _ => Nat.two_pow_pos _
 | k + 1, h => Nat.or_lt_two_pow (pm_lt P k fun j hj => h j (by omega)) (Nat.pow_lt_pow_right (by decide) (h k (Nat.lt_succ_self k)))
theorem bit_one {c i : Nat} : c / 2 ^ i % 2 = 1 ↔ c.testBit i = true := by rw [← Nat.toNat_testBit]; cases c.testBit i <;> simp
theorem pm_bit (P : Nat → Nat) : ∀ k i, pm P k / 2 ^ i % 2 = 1 → ∃ j, j < k ∧ P j = i
 | 0, i, h => by simp [pm] at h
 | k + 1, i, h => by
  rw [bit_one, show pm P (k + 1) = pm P k ||| 2 ^ P k from rfl, Nat.testBit_or, Bool.or_eq_true, ← bit_one] at h
  rcases h with h | h
  · obtain ⟨j, h1, h2⟩ := pm_bit P k i h
    exact ⟨j, by omega, h2⟩
  · rw [Nat.testBit_two_pow] at h
    exact ⟨k, Nat.lt_succ_self k, by simpa using h⟩
theorem or_top : ∀ a, a < 64 → ∀ q, q < 6 → a < 2 ^ q → (a ||| 2 ^ q) ^^^ 2 ^ q = a ∧ (a ||| 2 ^ q) / 2 ^ q % 2 = 1 ∧ (a ||| 2 ^ q) / 2 ^ (q + 1) = 0 ∧ a ||| 2 ^ q < 64 := by decide +kernel
theorem wD_pm {p : Int} {n : Nat} (hn : n ≤ 6) {m : List (List Int)} {P : Nat → Nat} (hR : Rref p m.length n (at' m) P) : ∀ k, k ≤ m.length → wD (at' m) k (pm P k) = 1
 | 0, _ => rfl
 | k + 1, hk => by
  have hk' : k < m.length := by omega
  have hq := hR.pv k hk'
  have hlt : pm P k < 2 ^ P k := pm_lt P k fun j hj => hR.mono j k hj hk'
  have h64 : pm P k < 64 := Nat.lt_of_lt_of_le hlt (show 2 ^ P k ≤ 2 ^ 6 from Nat.pow_le_pow_right (by decide) (by omega))
  obtain ⟨o1, o2, o3, o4⟩ := or_top (pm P k) h64 (P k) (by omega) hlt
  show (sm 6 fun i => if (pm P k ||| 2 ^ P k) / 2 ^ i % 2 = 1 then wD (at' m) k ((pm P k ||| 2 ^ P k) ^^^ 2 ^ i) * dsg (gr ((pm P k ||| 2 ^ P k) / 2 ^ (i + 1))) * at' m k i else 0) = 1
  rw [sm_congr (g := fun i => if i = P k then 1 else 0), sm_single, if_pos (by omega)]
  intro i hi
  by_cases e : i = P k
  · subst e
    rw [if_pos o2, if_pos rfl, o1, o3, wD_pm hn hR k (by omega), hR.one k hk']; rfl
  · rw [if_neg e]
    by_cases hb : (pm P k ||| 2 ^ P k) / 2 ^ i % 2 = 1
    · obtain ⟨j, h1, h2⟩ := pm_bit P (k + 1) i hb
      have h3 : j < k := by
       rcases Nat.lt_succ_iff_lt_or_eq.1 h1 with h | h
       · exact h
       · subst h; exact absurd h2.symm e
      rw [if_pos hb, ← h2, hR.zer j (by omega) k hk' (by omega), Int.mul_zero]
    · rw [if_neg hb]
structure TopM (lo : Nat) (w : World) (b : Nat) (m : List (List Int)) : Prop where
 lob : lo ≤ b
 tag : ∃ cur, w.heap[b]? = some (.cells cur 24 (0, 0))
 row : ∀ i, i < m.length → ∃ r c, w.cell? ⟨b, i, none⟩ = some (.slice r (rw' m i).length c) ∧ TagR lo w.heap.size w r (rw' m i)
theorem TopM.lt {lo : Nat} {w : World} {b : Nat} {m : List (List Int)} (h : TopM lo w b m) : b < w.heap.size := by
 obtain ⟨cur, hb⟩ := h.tag
 exact (Array.getElem?_eq_some_iff.1 hb).1
theorem TopM.free {lo : Nat} {w : World} {b : Nat} {m : List (List Int)} (h : TopM lo w b m) (j : Nat) : w.frozen? ⟨b, j, none⟩ = false := by
 obtain ⟨cur, hb⟩ := h.tag
 exact free_of hb j
theorem TopM.below {lo : Nat} {w w' : World} {b : Nat} {m : List (List Int)} (h : TopM lo w b m) (hb : Below w.heap.size w w') : TopM lo w' b m where
 lob := h.lob
 tag := by obtain ⟨cur, hc⟩ := h.tag; exact ⟨cur, (hb.block b h.lt).trans hc⟩
 row i hi := by
  obtain ⟨r, c, h1, h2⟩ := h.row i hi
  exact ⟨r, c, (hb.cell (p := ⟨b, i, none⟩) h.lt).trans h1, h2.below hb (Nat.le_refl _) (Nat.le_refl _) hb.size⟩
theorem rw_set {m : List (List Int)} {i j : Nat} (z : List Int) (hi : i < m.length) : rw' (m.set i z) j = if j = i then z else rw' m j := by
 simp only [rw', List.getD_eq_getElem?_getD, List.getElem?_set]
 by_cases e : j = i
 · subst e; simp [hi]
 · rw [if_neg (fun h => e h.symm), if_neg e]
theorem TopM.set {lo : Nat} {w : World} {b i : Nat} {m : List (List Int)} {r : Option Addr} {z : List Int} {c : Nat} (h : TopM lo w b m) (hi : i < m.length) (hz : TagR lo w.heap.size w r z) :
 TopM lo (w.setCell ⟨b, i, none⟩ (.slice r z.length c)) b (m.set i z) := by
 obtain ⟨cur, hcur⟩ := h.tag
 have hsz : (w.setCell ⟨b, i, none⟩ (.slice r z.length c)).heap.size = w.heap.size := by simp [World.setCell]
 have keep : ∀ k cur', w.heap[k]? = some (Obj.cells cur' 2 (0, 0)) → (w.setCell ⟨b, i, none⟩ (.slice r z.length c)).heap[k]? = w.heap[k]? := fun k cur' hk =>
  Below.heap_setCell _ _ _ _ (fun e => by have e1 : k = b := e; subst e1; rw [hcur] at hk; simp at hk)
 obtain ⟨r0, c0, g0, _⟩ := h.row i hi
 refine ⟨h.lob, ⟨cur.setIfInBounds i (.slice r z.length c), by simp [World.setCell, Array.getElem?_modify, hcur]⟩, fun j hj => ?_⟩
 rw [List.length_set] at hj
 rw [rw_set z hi, hsz]
 by_cases e : j = i
 · subst e
   rw [if_pos rfl]
   exact ⟨r, c, World.cell?_setCell_same w _ _ g0, hz.block (Nat.le_refl _) (Nat.le_refl _) (fun k cur' _ _ hk => keep k cur' hk)⟩
 · rw [if_neg e]
   obtain ⟨r1, c1, g1, g2⟩ := h.row j hj
   exact ⟨r1, c1, (World.cell?_setCell_other _ _ _ _ (fun e2 => e (by injection e2 with _ e3; exact e3.symm))).trans g1, g2.block (Nat.le_refl _) (Nat.le_refl _) (fun k cur' _ _ hk => keep k cur' hk)⟩
theorem OutM.top {B : Nat} {w : World} {v : Value} {m : List (List Int)} (h : OutM B w v m) (h0 : 0 < m.length) : ∃ b c, v = .slice (some ⟨b, 0, none⟩) m.length c ∧ m.length ≤ c ∧ c ≤ maxLen ∧ TopM B w b m := by
 obtain ⟨vals, ho, hr⟩ := h
 rcases ho.2 with ⟨rfl, hn⟩ | ⟨g, cap, cur, rfl, hb, hg, hnc, hcm, hcs, htake⟩
 · omega
 · refine ⟨g, cap, rfl, hnc, hcm, hb, ⟨cur, hg⟩, fun i hi => ?_⟩
   obtain ⟨r, c, h1, h2⟩ := hr i hi
   refine ⟨r, c, ?_, h2⟩
   have := ho.cells (g := g) rfl i _ h1
   rwa [Addr.add_lit, Nat.zero_add] at this
theorem TagR.setTop {lo lo' tp : Nat} {w : World} {b i : Nat} {m : List (List Int)} {r : Option Addr} {z : List Int} {v : Value} (h : TopM lo w b m) (hz : TagR lo' tp w r z) : TagR lo' tp (w.setCell ⟨b, i, none⟩ v) r z := by
 obtain ⟨cur, hcur⟩ := h.tag
 exact hz.block (Nat.le_refl _) (Nat.le_refl _) (fun k cur' _ _ hk => Below.heap_setCell _ _ _ _ (fun e => by have e1 : k = b := e; subst e1; rw [hcur] at hk; simp at hk))
end Go.Proofs.YtgfanoejohpmkaaGreat