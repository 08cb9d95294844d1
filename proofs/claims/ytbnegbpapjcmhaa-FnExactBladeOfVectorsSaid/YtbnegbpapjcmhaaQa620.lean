/-
  GradesOf: contracts of the program and of the model.
  Conditions: the lists are nil or rows of known cells, of at most 1048576 numbers.
  Multivectors that vectors annihilate: blades. No Go in sight.
  No conditions.
-/
import Derived.Test.YtbnegbpapjcmhaaQa619
import Derived.Laws.AppendOwn
import Derived.Test.YtbnegbpapjcmhaaQa610
namespace Go.Proofs.Ytbnegbpapjcmhaa
open Go.RowKit
set_option linter.unusedVariables false

def gradesTo (x : List Int) (k : Nat) : List Int := ((List.range k).filter (hasGr x)).map fun (k : Nat) => (k : Int)
theorem grades_eq (S x : List Int) : grades S x = gradesTo x (S.length + 1) := rfl
theorem gradesTo_yes {x : List Int} {k : Nat} (h : hasGr x k = true) : gradesTo x (k + 1) = gradesTo x k ++ [(k : Int)] := by
  unfold gradesTo; rw [List.range_succ, List.filter_append, List.map_append]; simp [h]
theorem gradesTo_no {x : List Int} {k : Nat} (h : hasGr x k = false) : gradesTo x (k + 1) = gradesTo x k := by
  unfold gradesTo; rw [List.range_succ, List.filter_append, List.map_append]; simp [h]
theorem gradesTo_le (x : List Int) (k : Nat) : (gradesTo x k).length ≤ k := by
  unfold gradesTo; rw [List.length_map]; exact Nat.le_trans (List.length_filter_le _ _) (by simp)
theorem OutR.more {B : Nat} {w1 : World} {v' : Value} {zs ys : List Int} {N : Nat} {X : List Value} {k : Int} (hX : X = zs.map (Value.int .i64)) (hN : N = zs.length) (hs : ys = zs ++ [k]) (h1 : w1.ownsRow B 2 1 v' (N + 1) (X ++ [.int .i64 k])) : OutR B w1 v' ys := by
  subst hs hN hX
  unfold OutR
  rw [List.length_append, List.map_append]
  exact h1
def Nz (n : Nat) (f : Nat → Int) : Prop := ∃ j, j < n ∧ f j ≠ 0
theorem pg_has {x : List Int} {k : Nat} : Nz x.length (pg x k) ↔ hasGr x k = true := by
  rw [hasGr_iff]
  constructor
  · rintro ⟨j, h1, h2⟩
    unfold pg at h2
    by_cases e : ((gr j : Nat) : Int) = k
    · rw [if_pos e] at h2; exact ⟨j, h1, by omega, h2⟩
    · rw [if_neg e] at h2; exact absurd rfl h2
  · rintro ⟨j, h1, h2, h3⟩
    exact ⟨j, h1, by unfold pg; rw [if_pos (by rw [h2])]; exact h3⟩

set_option maxHeartbeats 1600000 in
theorem l02First_sign (b n : Nat) (f : Nat → Int) (c : Nat) (w : World) (h : RowOwn w b 0 n f) (hn : n ≤ 1048576) :
    Calls Try.prog 52 #[.slice (some ⟨b, 0, none⟩) n c] w fun e w' => ∃ r, e = .returned (.int .i64 r) ∧ (Nz n f → 0 ≤ r) ∧ (¬ Nz n f → r = -1) ∧ w = w' := by
  have H := Lib.hid h
  clear h
  go_enter Try.func52, Try.ntmps52
  go_wp2
  go_loop [3] (fun t => ∃ k : Nat, k ≤ n ∧ t = .int .i64 k ∧ ∀ j, j < k → f j = 0) (fun t => n - (intOf t).toNat)
  case atStart => exact ⟨0, Nat.zero_le _, rfl, fun j hj => by omega⟩
  case round =>
    obtain ⟨k, hk, rfl, hall⟩ := hrel
    have HA := Lib.hid hall
    clear hall
    by_cases hlt : k < n
    · have hc := H.out.cell k hlt
      rw [Nat.zero_add] at hc
      have hi1 : (k : Int) < (n : Int) := by omega
      obtain ⟨y, hy⟩ : ∃ y, y = f k := ⟨_, rfl⟩
      have HY := Lib.hid hy
      rw [← hy] at hc
      clear hy
      by_cases h0 : y = 0
      · have e0 : (y != 0) = false := by simp [h0]
        go_wp2
        go_round
        case rel => exact ⟨k + 1, by omega, by go_num, fun j hj => by
          by_cases e : j = k
          · subst e; rw [← HY.out]; exact h0
          · exact HA.out j (by omega)⟩
        case measure => simp [intOf]; omega
      · have e0 : (y != 0) = true := by simp [h0]
        go_wp2
        go_ret
        exact ⟨k, rfl, fun _ => by omega, fun hno => (hno ⟨k, hlt, by rw [← HY.out]; exact h0⟩).elim, rfl⟩
    · go_wp2
      go_ret
      refine ⟨-1, rfl, fun h => ?_, fun _ => rfl, rfl⟩
      obtain ⟨j, h1, h2⟩ := h
      exact absurd (HA.out j (by omega)) h2

set_option maxRecDepth 100000 in
set_option maxHeartbeats 3200000 in
theorem l04Grades_any (p : Int) (aS : Option Addr) (S : List Int) (cS : Nat) (ax : Option Addr) (x : List Int) (cx lox tpx : Nat) (w : World) (h6 : S.length ≤ 6) (hx : RowIn lox tpx w ax x) (tx : tpx ≤ w.heap.size) (sx : x.length ≤ 64) :
    Calls Try.prog 32 #[.agg #[.int .i64 p, .slice aS S.length cS], .slice ax x.length cx] w (SRow (grades S x) w) := by
  obtain ⟨i0, hi, hz0, hz1, hz2⟩ := info_parts info64
  have Hx := Lib.hid hx
  have HB0 := Lib.hid (below_alloc w (.cells #[.int .i64 p, .slice aS S.length cS] 28))
  have k1 := nw1 w (.int .i64 p) (.slice aS S.length cS) 28
  clear hx
  go_enter Try.func32, Try.ntmps32
  go_upto_region 1 with fail
  obtain ⟨w1, hw1⟩ : ∃ z, z = w.alloc (.cells #[.int .i64 p, .slice aS S.length cS] 28) := ⟨_, rfl⟩
  rw [← hw1] at HB0 k1
  rw [← hw1]
  have hw0 : w.heap.size < w1.heap.size := by rw [hw1]; simp
  clear hw1
  go_wp2
  go_loopw [5, 6] (fun v t wr => ∃ i : Nat, i ≤ S.length + 1 ∧ t = .int .i64 i ∧ OutR w1.heap.size wr v (gradesTo x i) ∧ wr.cell? ⟨w.heap.size, 1, none⟩ = some (.slice aS S.length cS) ∧ Below w1.heap.size w1 wr) (fun _ t _ => S.length + 1 - (intOf t).toNat)
  case atStart => exact ⟨0, Nat.zero_le _, rfl, OutR.start w1 _ _ (Nat.le_refl _) rfl, ca0 k1, below_alloc w1 _⟩
  case round =>
    obtain ⟨i, hi', rfl, ho, hk, hbel⟩ := hrel
    have HO := Lib.hid ho
    have HB := Lib.hid hbel
    have HK := Lib.hid hk
    have hwz := hbel.size
    clear ho hbel
    by_cases hlt : i ≤ S.length
    · have hi1 : (i : Int) ≤ (S.length : Int) := by omega
      have HXR := Lib.hid ((Hx.out.below HB0.out tx).below HB.out (by omega))
      obtain ⟨N, hN⟩ : ∃ N, N = (gradesTo x i).length := ⟨_, rfl⟩
      have hN7 : N ≤ 7 := by have := gradesTo_le x i; omega
      have HN := Lib.hid hN
      obtain ⟨X, hX⟩ : ∃ X, X = (gradesTo x i).map (Value.int .i64) := ⟨_, rfl⟩
      have HX := Lib.hid hX
      have HO2 : Hid (wr.ownsRow w1.heap.size 2 1 u5 N X) := by
        have := HO.out; unfold OutR at this; rw [← hN, ← hX] at this; exact this
      have n0 : u5.ownBlock ≠ some w.heap.size := fun e => by have := (HO2.out.lt _ e).1; omega
      clear hX hN
      by_cases hg : hasGr x i = true
      · have HSU := Lib.hid (gradesTo_yes hg)
        have HEX := Lib.hid (pg_has.2 hg)
        clear hg
        go_wp2_with (first | (go_at_call 53; (with_reducible refine (l04Part_any ax x cx lox tpx i wr HXR.out (by omega) sx).mono ?_); rintro e w3 ⟨d3, rfl, l3, u3', o3, b3⟩; have O3 := Lib.hid o3; have B3 := Lib.hid b3; have z3 := b3.size; have HV3 := Lib.hid (HO2.out.kept (below_grown b3) (by cases hv : Value.ownBlock u5 <;> simp)); have hk3 := (b3.cell (p := ⟨w.heap.size, 1, none⟩) (show w.heap.size < wr.heap.size by omega)).trans HK.out; clear o3 b3) | (go_at_call 52; (with_reducible refine (l02First_sign d3 x.length _ _ w3 O3.out (by omega)).mono ?_); rintro e w4 ⟨r4, rfl, hr4, hr5, rfl⟩; have hr6 := hr4 HEX.out; clear hr4 hr5) | (at_builtin; refine wpList_append_lies _ rfl _ _ 22 rfl w1.heap.size 2 i0 (.int .i64 0) 1 8 Try.underlying22 hi hz0 hz1 hz2 rfl (by decide) u5 N X rfl (HV3.out.alloc _) ⟨w3.heap.size, 0, none⟩ 1 1 [.int .i64 i] rfl rfl (World.news_of_block (cs := #[.int .i64 i]) (t := 2) (fr := (0, 0)) (heap_alloc_new w3 _)) (by simp [Value.oneCell']) (by omega) (by unfold maxLen; omega) (by omega) (by simp; omega) (w3.heap.size + 1) (by simp) ?_; intro gg cap w1 hown1 hgrow hat hlt1))
        go_wp2
        go_roundw
        case rel => exact ⟨i + 1, by omega, by go_num, OutR.more HX.out HN.out HSU.out hown1, (hgrow.cell_far ⟨w.heap.size, 1, none⟩ (by simp; omega) (Ne.symm n0)).trans (ca0 hk3), ((HB.out.trans (B3.out.mono hwz)).alloc (by omega) _).grown hgrow (by simp; omega) (fun _ hk => (HO2.out.lt _ hk).1)⟩
        case measure => simp [intOf]; omega
      · have hg' : hasGr x i = false := by simpa using hg
        have HSU := Lib.hid (gradesTo_no hg')
        have HEX : Hid (¬ Nz x.length (pg x i)) := fun e => hg (pg_has.1 e)
        clear hg hg'
        go_wp2_with (first | (go_at_call 53; (with_reducible refine (l04Part_any ax x cx lox tpx i wr HXR.out (by omega) sx).mono ?_); rintro e w3 ⟨d3, rfl, l3, u3', o3, b3⟩; have O3 := Lib.hid o3; have B3 := Lib.hid b3; have z3 := b3.size; have HV3 := Lib.hid (HO2.out.kept (below_grown b3) (by cases hv : Value.ownBlock u5 <;> simp)); have hk3 := (b3.cell (p := ⟨w.heap.size, 1, none⟩) (show w.heap.size < wr.heap.size by omega)).trans HK.out; clear o3 b3) | (go_at_call 52; (with_reducible refine (l02First_sign d3 x.length _ _ w3 O3.out (by omega)).mono ?_); rintro e w4 ⟨r4, rfl, hr4, hr5, rfl⟩; have hr6 := hr5 HEX.out; clear hr4 hr5; subst hr6))
        go_roundw
        case rel => exact ⟨i + 1, by omega, by go_num, by rw [HSU.out]; unfold OutR; rw [← HN.out, ← HX.out]; exact HV3.out, hk3, HB.out.trans (B3.out.mono hwz)⟩
        case measure => simp [intOf]; omega
    · have hn : i = S.length + 1 := by omega
      subst hn
      have hi1 : (S.length : Int) < ((S.length + 1 : Nat) : Int) := by omega
      obtain ⟨a8, c8, e8, ht8⟩ := HO.out.tag
      subst e8
      have HT8 := Lib.hid ht8
      clear ht8
      go_wp2
      go_ret
      exact ⟨a8, c8, by rw [grades_eq]; rfl, by rw [grades_eq]; exact HT8.out.row.mono (by omega) (Nat.le_refl _), HB0.out.trans (HB.out.mono (by omega))⟩

end Go.Proofs.Ytbnegbpapjcmhaa

namespace Go.Proofs.Ytbnegbpapjcmhaa
open Go.RowKit
set_option linter.unusedVariables false

/-- The sign of the product of a vector of the basis and a blade behind it. -/
def sl (i c : Nat) : Int := eps (gr (c % 2 ^ i))
theorem gr_low : ∀ b, b < 64 → ∀ n, n < 6 → gr (b % 2 ^ (n + 1)) = gr (b % 2 ^ n) + b / 2 ^ n % 2 := by decide +kernel
theorem gr_up : ∀ i, i < 6 → ∀ n, n < 6 → gr (2 ^ i / 2 ^ (n + 1)) = if n < i then 1 else 0 := by decide +kernel
theorem eps_more (a : Nat) : eps a * eps 1 = eps (a + 1) := by
  unfold eps
  rcases Nat.mod_two_eq_zero_or_one a with h | h
  · rw [if_neg (by omega), if_pos (by omega), if_pos (by omega)]; rfl
  · rw [if_pos (by omega), if_pos (by omega), if_neg (by omega)]; rfl
theorem fz_left (S : List Int) {b i : Nat} (hb : b < 64) (hi : i < 6) (h0 : b / 2 ^ i % 2 = 0) : ∀ n, n ≤ 6 → fz S (2 ^ i) b n = eps (gr (b % 2 ^ (if n ≤ i then n else i)))
  | 0, _ => by
    show (1 : Int) = _
    rw [if_pos (Nat.zero_le _), Nat.pow_zero, Nat.mod_one]; rfl
  | n + 1, hn => by
    show fz S (2 ^ i) b n * gi S (2 ^ i) b n = _
    rw [fz_left S hb hi h0 n (by omega)]
    unfold gi
    rw [pow_bit]
    by_cases hbn : b / 2 ^ n % 2 = 1
    · have hne : ¬ i = n := by rintro rfl; omega
      rw [if_pos hbn, if_neg hne, if_neg (show ¬ (0 : Nat) = 1 by decide), Int.mul_one, gr_up i hi n (by omega)]
      by_cases hl : n < i
      · rw [if_pos (show n ≤ i by omega), if_pos (show n + 1 ≤ i by omega), if_pos hl, gr_low b hb n (by omega), hbn, eps_more]
      · rw [if_neg (show ¬ n ≤ i by omega), if_neg (show ¬ n + 1 ≤ i by omega), if_neg hl]
        show _ * 1 = _
        rw [Int.mul_one]
    · have hb0 : b / 2 ^ n % 2 = 0 := by omega
      rw [if_neg hbn, Int.mul_one]
      by_cases hl : n < i
      · rw [if_pos (show n ≤ i by omega), if_pos (show n + 1 ≤ i by omega), gr_low b hb n (by omega), hb0, Nat.add_zero]
      · by_cases e : n = i
        · subst e; rw [if_pos (Nat.le_refl _), if_neg (by omega)]
        · rw [if_neg (show ¬ n ≤ i by omega), if_neg (show ¬ n + 1 ≤ i by omega)]
theorem fz_sl (S : List Int) {b i n : Nat} (hb : b < 64) (hi : i < n) (hn : n ≤ 6) (h0 : b / 2 ^ i % 2 = 0) : fz S (2 ^ i) b n = sl i b := by
  rw [fz_left S hb (by omega) h0 n hn, if_neg (by omega)]; rfl

/-- The wedge product of a vector and a multivector, over the integers. -/
def lw (v y : Nat → Int) (c : Nat) : Int := sm 6 fun i => if c / 2 ^ i % 2 = 1 then v i * sl i (c ^^^ 2 ^ i) * y (c ^^^ 2 ^ i) else 0
theorem lw_short {n : Nat} (hn : n ≤ 6) (v y : Nat → Int) {c : Nat} (hc : c < 2 ^ n) : lw v y c = sm n fun i => if c / 2 ^ i % 2 = 1 then v i * sl i (c ^^^ 2 ^ i) * y (c ^^^ 2 ^ i) else 0 :=
  sm_more hn fun i hi _ => if_neg (by rw [Nat.div_eq_of_lt (Nat.lt_of_lt_of_le hc (Nat.pow_le_pow_right (by decide) hi))]; decide)
theorem vec_wg (p : Int) {S : List Int} (h6 : S.length ≤ 6) (x : List Int) {v : List Int} (hv : v.length = S.length) {c : Nat} (hc : c < bl S) :
    kF p S 0 (vecM S v) x c = lw (fun i => v.getD i 0) (fun j => x.getD j 0) c % p := by
  unfold kF
  rw [lw_short h6 _ _ hc]
  have hbl := bl_le h6
  have h1 : ∀ a, a < bl S → tk p S 0 (vecM S v) x c a = sm S.length (fun i => if a = 2 ^ i then (if c / 2 ^ i % 2 = 1 then v.getD i 0 * fm p S (2 ^ i) (c ^^^ 2 ^ i) S.length * x.getD (c ^^^ 2 ^ i) 0 else 0) else 0) := fun a ha => by
    have hy : (vecM S v).getD a 0 = sm S.length (fun i => if a = 2 ^ i then v.getD i 0 else 0) := by
      unfold vecM; rw [mkR_at _ ha, vecF_sum, hv]
    unfold tk tm
    rw [hy]
    by_cases hk : kp 0 a (a ^^^ c) = true
    · rw [if_pos hk, Int.mul_assoc, Int.mul_comm, ← sm_mul]
      apply sm_congr
      intro i hi
      by_cases e : a = 2 ^ i
      · subst e
        have e3 : kp 0 (2 ^ i) (2 ^ i ^^^ c) = decide (c / 2 ^ i % 2 = 1) := by
          rw [← bit_and c (by omega) i (by omega), Nat.xor_comm (2 ^ i) c]
          unfold kp
          rw [if_pos rfl, Nat.and_comm]
        rw [e3] at hk
        rw [if_pos rfl, if_pos rfl, if_pos (by simpa using hk), Nat.xor_comm (2 ^ i) c]
        ac_rfl
      · rw [if_neg e, if_neg e, Int.mul_zero]
    · rw [if_neg hk, sm_congr (g := fun _ => 0), sm_zero]
      intro i hi
      by_cases e : a = 2 ^ i
      · subst e
        have e3 : kp 0 (2 ^ i) (2 ^ i ^^^ c) = decide (c / 2 ^ i % 2 = 1) := by
          rw [← bit_and c (by omega) i (by omega), Nat.xor_comm (2 ^ i) c]
          unfold kp
          rw [if_pos rfl, Nat.and_comm]
        rw [e3] at hk
        rw [if_pos rfl, if_neg (by simpa using hk)]
      · rw [if_neg e]
  rw [sm_congr h1, sm_swap]
  apply sm_congr_p
  intro i hi
  have hi2 : 2 ^ i < bl S := Nat.pow_lt_pow_right (by decide) hi
  rw [sm_single, if_pos hi2]
  by_cases hb : c / 2 ^ i % 2 = 1
  · rw [if_pos hb, if_pos hb]
    have hx : c ^^^ 2 ^ i < bl S := Nat.xor_lt_two_pow hc hi2
    unfold fm
    rw [fz_sl S (show c ^^^ 2 ^ i < 64 by omega) hi h6 (bit_flip c (by omega) i (by omega) hb).1, ← em_l, em_r, em_l]
  · rw [if_neg hb, if_neg hb]

/-- What is left of a multivector when a vector of the basis is taken away in front. -/
def io (q : Nat) (y : Nat → Int) (c : Nat) : Int := if c / 2 ^ q % 2 = 0 then sl q c * y (c ^^^ 2 ^ q) else 0
theorem di_on : ∀ c, c < 64 → ∀ q, q < 6 → (c / 2 ^ q % 2 = 0 → (c ^^^ 2 ^ q) / 2 ^ q % 2 = 1) ∧ (c / 2 ^ q % 2 = 1 → (c ^^^ 2 ^ q) / 2 ^ q % 2 = 0) ∧ c ^^^ 2 ^ q < 64 ∧ c ^^^ 2 ^ q ^^^ 2 ^ q = c := by decide +kernel
theorem di_bit : ∀ c, c < 64 → ∀ q, q < 6 → ∀ i, i < 6 → i ≠ q → (c ^^^ 2 ^ q) / 2 ^ i % 2 = c / 2 ^ i % 2 := by decide +kernel
theorem di_sgn : ∀ c, c < 64 → ∀ q, q < 6 → ∀ i, i < 6 → (i ≠ q ∧ c / 2 ^ q % 2 = 0 ∧ c / 2 ^ i % 2 = 1) → sl q c * sl i (c ^^^ 2 ^ q ^^^ 2 ^ i) = - (sl i (c ^^^ 2 ^ i) * sl q (c ^^^ 2 ^ i)) := by decide +kernel
theorem di_gr : ∀ c, c < 64 → ∀ q, q < 6 → c / 2 ^ q % 2 = 0 → gr (c ^^^ 2 ^ q) = gr c + 1 := by decide +kernel
theorem sl_sq (i c : Nat) : sl i c * sl i c = 1 := eps_sq _
theorem leib (v y : Nat → Int) {c q : Nat} (hc : c < 64) (hq : q < 6) : io q (lw v y) c + lw v (io q y) c = v q * y c := by
  have h1 : io q (lw v y) c = sm 6 fun i => if c / 2 ^ q % 2 = 0 then sl q c * (if (c ^^^ 2 ^ q) / 2 ^ i % 2 = 1 then v i * sl i (c ^^^ 2 ^ q ^^^ 2 ^ i) * y (c ^^^ 2 ^ q ^^^ 2 ^ i) else 0) else 0 := by
    unfold io lw
    by_cases h : c / 2 ^ q % 2 = 0
    · rw [if_pos h, ← sm_mul]
      exact sm_congr fun i _ => by rw [if_pos h]
    · rw [if_neg h, sm_congr (g := fun _ => 0) (fun i _ => if_neg h), sm_zero]
  rw [h1]
  unfold lw
  rw [← sm_add, sm_congr (g := fun i => if i = q then v q * y c else 0), sm_single, if_pos hq]
  intro i hi
  obtain ⟨g1, g2, g3, g4⟩ := di_on c hc q hq
  unfold io
  by_cases e : i = q
  · subst e
    rw [if_pos rfl]
    by_cases h : c / 2 ^ i % 2 = 0
    · rw [if_pos h, if_pos (g1 h), if_neg (by omega), g4, Int.add_zero]
      have := sl_sq i c
      calc sl i c * (v i * sl i c * y c) = (sl i c * sl i c) * (v i * y c) := by ac_rfl
        _ = v i * y c := by rw [this, Int.one_mul]
    · have h' : c / 2 ^ i % 2 = 1 := by omega
      rw [if_neg h, if_pos h', if_pos (g2 h'), g4, Int.zero_add]
      have := sl_sq i (c ^^^ 2 ^ i)
      calc v i * sl i (c ^^^ 2 ^ i) * (sl i (c ^^^ 2 ^ i) * y c) = (sl i (c ^^^ 2 ^ i) * sl i (c ^^^ 2 ^ i)) * (v i * y c) := by ac_rfl
        _ = v i * y c := by rw [this, Int.one_mul]
  · rw [if_neg e, di_bit c hc q hq i hi e, di_bit c hc i hi q hq (fun h => e h.symm)]
    by_cases h : c / 2 ^ q % 2 = 0
    · rw [if_pos h]
      by_cases hb : c / 2 ^ i % 2 = 1
      · rw [if_pos hb, if_pos hb, if_pos h]
        have hs := di_sgn c hc q hq i hi ⟨e, h, hb⟩
        have hx : c ^^^ 2 ^ i ^^^ 2 ^ q = c ^^^ 2 ^ q ^^^ 2 ^ i := by rw [Nat.xor_assoc, Nat.xor_comm (2 ^ i), ← Nat.xor_assoc]
        rw [hx]
        generalize y (c ^^^ 2 ^ q ^^^ 2 ^ i) = Y
        generalize sl i (c ^^^ 2 ^ q ^^^ 2 ^ i) = s1 at *
        generalize sl i (c ^^^ 2 ^ i) = s2 at *
        generalize sl q (c ^^^ 2 ^ i) = s3 at *
        calc sl q c * (v i * s1 * Y) + v i * s2 * (s3 * Y) = (sl q c * s1) * (v i * Y) + (s2 * s3) * (v i * Y) := by ac_rfl
          _ = 0 := by rw [hs, Int.neg_mul]; omega
      · rw [if_neg hb, if_neg hb]; simp
    · rw [if_neg h]
      by_cases hb : c / 2 ^ i % 2 = 1
      · rw [if_pos hb, if_neg h]; simp
      · rw [if_neg hb]; simp
def ioM (p : Int) (S : List Int) (q : Nat) (x : List Int) : List Int := mkR (bl S) fun c => io q (fun j => x.getD j 0) c % p
theorem ioM_len (p : Int) (S : List Int) (q : Nat) (x : List Int) : (ioM p S q x).length = bl S := mkR_len _ _
theorem ioM_at (p : Int) (S : List Int) (q : Nat) (x : List Int) {c : Nat} (hc : c < bl S) : (ioM p S q x).getD c 0 = io q (fun j => x.getD j 0) c % p := mkR_at _ hc
theorem lw_mod {p : Int} {n : Nat} (hn : n ≤ 6) (v : Nat → Int) {y y' : Nat → Int} (h : ∀ j, j < 2 ^ n → y j % p = y' j % p) {c : Nat} (hc : c < 2 ^ n) : lw v y c % p = lw v y' c % p := by
  rw [lw_short hn _ _ hc, lw_short hn _ _ hc]
  apply sm_congr_p
  intro i hi
  by_cases hb : c / 2 ^ i % 2 = 1
  · rw [if_pos hb, if_pos hb, Int.mul_emod, h _ (Nat.xor_lt_two_pow hc (Nat.pow_lt_pow_right (by decide) hi)), ← Int.mul_emod]
  · rw [if_neg hb, if_neg hb]
/-- A vector annihilates a multivector. -/
def Ann (p : Int) (S v x : List Int) : Prop := ∀ c, c < bl S → (kM p S 0 (vecM S v) x).getD c 0 = 0
theorem io_wg {p : Int} {S : List Int} {q : Nat} {v x : List Int} (h6 : S.length ≤ 6) (hq : q < S.length) (hv : v.length = S.length) (hz : Ann p S v x) {c : Nat} (hc : c < bl S) :
    (kM p S 0 (vecM S v) (ioM p S q x)).getD c 0 = v.getD q 0 * x.getD c 0 % p := by
  have hbl := bl_le h6
  have hl := leib (fun i => v.getD i 0) (fun j => x.getD j 0) (show c < 64 by omega) (show q < 6 by omega)
  have h1 : lw (fun i => v.getD i 0) (fun j => (ioM p S q x).getD j 0) c % p = lw (fun i => v.getD i 0) (io q fun j => x.getD j 0) c % p :=
    lw_mod h6 _ (fun j hj => by rw [ioM_at p S q x hj, Int.emod_emod]) hc
  have h2 : io q (lw (fun i => v.getD i 0) (fun j => x.getD j 0)) c % p = 0 := by
    unfold io
    by_cases h : c / 2 ^ q % 2 = 0
    · have hx : c ^^^ 2 ^ q < bl S := Nat.xor_lt_two_pow hc (Nat.pow_lt_pow_right (by decide) hq)
      have h3 := hz _ hx
      rw [kM_at _ _ _ _ _ hx, vec_wg p h6 _ hv hx] at h3
      rw [if_pos h, Int.mul_emod, h3, Int.mul_zero, Int.zero_emod]
    · rw [if_neg h, Int.zero_emod]
  rw [kM_at _ _ _ _ _ hc, vec_wg p h6 _ hv hc, h1]
  show _ = (fun i => v.getD i 0) q * (fun j => x.getD j 0) c % p
  rw [← hl, Int.add_emod, h2, Int.zero_add, Int.emod_emod]
theorem wg_one_l {p : Int} {S x : List Int} (hx : x.length = bl S) (hn : ∀ j, j < x.length → 0 ≤ x.getD j 0 ∧ x.getD j 0 < p) : kM p S 0 (mOne S) x = x := by
  refine row_ext (by rw [kM_len, hx]) fun c hc => ?_
  rw [kM_len] at hc
  rw [kM_at _ _ _ _ _ hc, kF_eq]
  unfold kpz
  have h1 : ∀ a, a < 2 ^ S.length → (fun j => (mOne S).getD j 0) a * fk S 0 a (a ^^^ c) S.length * (fun j => x.getD j 0) (a ^^^ c) = if a = 0 then x.getD c 0 else 0 := fun a ha => by
    show (mOne S).getD a 0 * _ * x.getD (a ^^^ c) 0 = _
    unfold mOne
    rw [mkR_at _ (show a < bl S from ha)]
    unfold oneF
    by_cases e : a = 0
    · subst e
      unfold fk
      rw [if_pos rfl, if_pos rfl, Nat.zero_xor, if_pos (kp0_iff.2 fun i => by rw [Nat.zero_testBit]; rfl), fz_zero, Int.one_mul, Int.one_mul]
    · rw [if_neg e, if_neg e, Int.zero_mul, Int.zero_mul]
  rw [sm_congr h1, sm_single, if_pos (Nat.two_pow_pos _)]
  have := hn c (by rw [hx]; exact hc)
  exact Int.emod_eq_of_lt this.1 this.2
theorem xor_zero_eq {a c : Nat} (h : a ^^^ c = 0) : a = c := by
  have h2 : a ^^^ c ^^^ c = 0 ^^^ c := by rw [h]
  rwa [Nat.xor_assoc, Nat.xor_self, Nat.xor_zero, Nat.zero_xor] at h2
theorem wg_scal {p f : Int} {S w y : List Int} (hy : ∀ c, c < bl S → y.getD c 0 = if c = 0 then f else 0) {c : Nat} (hc : c < bl S) : (kM p S 0 w y).getD c 0 = w.getD c 0 * f % p := by
  rw [kM_at _ _ _ _ _ hc, kF_eq]
  unfold kpz
  have h1 : ∀ a, a < 2 ^ S.length → (fun j => w.getD j 0) a * fk S 0 a (a ^^^ c) S.length * (fun j => y.getD j 0) (a ^^^ c) = if a = c then w.getD c 0 * f else 0 := fun a ha => by
    show w.getD a 0 * _ * y.getD (a ^^^ c) 0 = _
    rw [hy _ (Nat.xor_lt_two_pow ha hc)]
    by_cases e : a = c
    · subst e
      unfold fk
      rw [Nat.xor_self, if_pos rfl, if_pos rfl, if_pos (kp0_iff.2 fun i => by rw [Nat.zero_testBit, Bool.and_false]), fz_one, Int.mul_one]
    · rw [if_neg e, if_neg (fun h => e (xor_zero_eq h)), Int.mul_zero]
  rw [sm_congr h1, sm_single, if_pos (show c < 2 ^ S.length from hc)]

/-- What is left when the first k pivots are taken away. -/
def takeM (p : Int) (S : List Int) (P : Nat → Nat) (x : List Int) : Nat → List Int
  | 0 => x
  | k + 1 => ioM p S (P k) (takeM p S P x k)
theorem takeM_len {p : Int} {S : List Int} {P : Nat → Nat} {x : List Int} (hx : x.length = bl S) : ∀ k, (takeM p S P x k).length = bl S
  | 0 => hx
  | k + 1 => ioM_len _ _ _ _
theorem takeM_num {p : Int} (hp : 0 < p) {S : List Int} {P : Nat → Nat} {x : List Int} (hn : ∀ j, j < x.length → 0 ≤ x.getD j 0 ∧ x.getD j 0 < p) : ∀ k j, j < (takeM p S P x k).length → 0 ≤ (takeM p S P x k).getD j 0 ∧ (takeM p S P x k).getD j 0 < p
  | 0 => hn
  | k + 1 => fun j hj => by
    have hj' : j < bl S := by rw [show takeM p S P x (k + 1) = ioM p S (P k) (takeM p S P x k) from rfl, ioM_len] at hj; exact hj
    rw [show takeM p S P x (k + 1) = ioM p S (P k) (takeM p S P x k) from rfl, ioM_at _ _ _ _ hj']
    exact ⟨Int.emod_nonneg _ (by omega), Int.emod_lt_of_pos _ hp⟩
theorem split_off {p : Int} {S x : List Int} {m : List (List Int)} {P : Nat → Nat} (hp : 0 < p) (h6 : S.length ≤ 6) (hx : x.length = bl S) (hn : ∀ j, j < x.length → 0 ≤ x.getD j 0 ∧ x.getD j 0 < p)
    (hR : Rref p m.length S.length (at' m) P) (hl : ∀ i, i < m.length → (rw' m i).length = S.length) (ha : ∀ j, j < m.length → Ann p S (rw' m j) x) :
    ∀ k, k ≤ m.length → kM p S 0 (wvM p S m k) (takeM p S P x k) = x ∧ ∀ j, k ≤ j → j < m.length → Ann p S (rw' m j) (takeM p S P x k)
  | 0, _ => ⟨wg_one_l hx hn, fun j _ hj => ha j hj⟩
  | k + 1, hk => by
    obtain ⟨h1, h2⟩ := split_off hp h6 hx hn hR hl ha k (by omega)
    have hk' : k < m.length := by omega
    have hv := hl k hk'
    have hz := h2 k (Nat.le_refl _) hk'
    have hq := hR.pv k hk'
    constructor
    · show kM p S 0 (kM p S 0 (wvM p S m k) (vecM S (rw' m k))) (ioM p S (P k) (takeM p S P x k)) = x
      rw [wedge_assoc]
      have e : kM p S 0 (vecM S (rw' m k)) (ioM p S (P k) (takeM p S P x k)) = takeM p S P x k := by
        refine row_ext (by rw [kM_len, takeM_len hx]) fun c hc => ?_
        rw [kM_len] at hc
        rw [io_wg h6 hq hv hz hc, show (rw' m k).getD (P k) 0 = 1 from hR.one k hk', Int.one_mul]
        have := takeM_num hp hn (S := S) (P := P) k c (by rw [takeM_len hx]; exact hc)
        exact Int.emod_eq_of_lt this.1 this.2
      rw [e]; exact h1
    · intro j hj1 hj2 c hc
      show (kM p S 0 (vecM S (rw' m j)) (ioM p S (P k) (takeM p S P x k))).getD c 0 = 0
      rw [io_wg h6 hq (hl j hj2) (h2 j (by omega) hj2) hc, show (rw' m j).getD (P k) 0 = 0 from hR.zer k hk' j hj2 (by omega), Int.zero_mul, Int.zero_emod]

/-- All coefficients other than 0 have one grade. -/
def Hom (n : Nat) (y : List Int) (g : Nat) : Prop := ∀ c, c < n → y.getD c 0 ≠ 0 → gr c = g
theorem take_hom {p : Int} {S x : List Int} {P : Nat → Nat} (h6 : S.length ≤ 6) {n : Nat} (hP : ∀ i, i < n → P i < S.length) (h : Hom (bl S) x n) : ∀ k, k ≤ n → Hom (bl S) (takeM p S P x k) (n - k)
  | 0, _ => h
  | k + 1, hk => fun c hc hne => by
    have hbl := bl_le h6
    have ih := take_hom h6 hP h (p := p) k (by omega)
    have hq := hP k (by omega)
    rw [show takeM p S P x (k + 1) = ioM p S (P k) (takeM p S P x k) from rfl, ioM_at _ _ _ _ hc] at hne
    unfold io at hne
    by_cases hb : c / 2 ^ P k % 2 = 0
    · rw [if_pos hb] at hne
      have h0 : (takeM p S P x k).getD (c ^^^ 2 ^ P k) 0 ≠ 0 := fun e => hne (by
        show sl (P k) c * (takeM p S P x k).getD (c ^^^ 2 ^ P k) 0 % p = 0
        rw [e, Int.mul_zero, Int.zero_emod])
      have h1 := ih _ (Nat.xor_lt_two_pow hc (Nat.pow_lt_pow_right (by decide) hq)) h0
      have h2 := di_gr c (by omega) (P k) (by omega) hb
      omega
    · rw [if_neg hb, Int.zero_emod] at hne
      exact absurd rfl hne
theorem wD_hom (f : Nat → Nat → Int) : ∀ k c, c < 64 → wD f k c ≠ 0 → gr c = k
  | 0, c, hc, h => by
    by_cases e : c = 0
    · subst e; rfl
    · exact absurd (if_neg e) h
  | k + 1, c, hc, h => by
    refine Classical.byContradiction fun hg => h ?_
    show (sm 6 fun i => if c / 2 ^ i % 2 = 1 then wD f k (c ^^^ 2 ^ i) * dsg (gr (c / 2 ^ (i + 1))) * f k i else 0) = 0
    rw [sm_congr (g := fun _ => 0), sm_zero]
    intro i hi
    by_cases hb : c / 2 ^ i % 2 = 1
    · rw [if_pos hb]
      have h1 := (bit_drop c hc i hi hb).2.1
      have h2 : wD f k (c ^^^ 2 ^ i) = 0 := Classical.byContradiction fun h3 => hg (by
        have := wD_hom f k _ (di_on c hc i hi).2.2.1 h3; omega)
      rw [h2, Int.zero_mul, Int.zero_mul]
    · rw [if_neg hb]
/-- The mask of the first k pivots. -/
def pm (P : Nat → Nat) : Nat → Nat
  | 0 => 0
  | k + 1 => pm P k ||| 2 ^ P k
theorem pm_lt (P : Nat → Nat) {Q : Nat} : ∀ k, (∀ j, j < k → P j < Q) → pm P k < 2 ^ Q
  | 0, _ => Nat.two_pow_pos _
  | k + 1, h => Nat.or_lt_two_pow (pm_lt P k fun j hj => h j (by omega)) (Nat.pow_lt_pow_right (by decide) (h k (Nat.lt_succ_self k)))
theorem bit_one {c i : Nat} : c / 2 ^ i % 2 = 1 ↔ c.testBit i = true := by rw [← Nat.toNat_testBit]; cases c.testBit i <;> simp
theorem pm_bit (P : Nat → Nat) : ∀ k i, pm P k / 2 ^ i % 2 = 1 → ∃ j, j < k ∧ P j = i
  | 0, i, h => by simp [pm] at h
  | k + 1, i, h => by
    rw [bit_one, show pm P (k + 1) = pm P k ||| 2 ^ P k from rfl, Nat.testBit_or, Bool.or_eq_true, ← bit_one] at h
    rcases h with h | h
    · obtain ⟨j, h1, h2⟩ := pm_bit P k i h
      exact ⟨j, by omega, h2⟩
    · rw [Nat.testBit_two_pow] at h
      exact ⟨k, Nat.lt_succ_self k, by simpa using h⟩
theorem or_top : ∀ a, a < 64 → ∀ q, q < 6 → a < 2 ^ q → (a ||| 2 ^ q) ^^^ 2 ^ q = a ∧ (a ||| 2 ^ q) / 2 ^ q % 2 = 1 ∧ (a ||| 2 ^ q) / 2 ^ (q + 1) = 0 ∧ a ||| 2 ^ q < 64 := by decide +kernel
theorem wD_pm {p : Int} {n : Nat} (hn : n ≤ 6) {m : List (List Int)} {P : Nat → Nat} (hR : Rref p m.length n (at' m) P) : ∀ k, k ≤ m.length → wD (at' m) k (pm P k) = 1
  | 0, _ => rfl
  | k + 1, hk => by
    have hk' : k < m.length := by omega
    have hq := hR.pv k hk'
    have hlt : pm P k < 2 ^ P k := pm_lt P k fun j hj => hR.mono j k hj hk'
    have h64 : pm P k < 64 := Nat.lt_of_lt_of_le hlt (show 2 ^ P k ≤ 2 ^ 6 from Nat.pow_le_pow_right (by decide) (by omega))
    obtain ⟨o1, o2, o3, o4⟩ := or_top (pm P k) h64 (P k) (by omega) hlt
    show (sm 6 fun i => if (pm P k ||| 2 ^ P k) / 2 ^ i % 2 = 1 then wD (at' m) k ((pm P k ||| 2 ^ P k) ^^^ 2 ^ i) * dsg (gr ((pm P k ||| 2 ^ P k) / 2 ^ (i + 1))) * at' m k i else 0) = 1
    rw [sm_congr (g := fun i => if i = P k then 1 else 0), sm_single, if_pos (by omega)]
    intro i hi
    by_cases e : i = P k
    · subst e
      rw [if_pos o2, if_pos rfl, o1, o3, wD_pm hn hR k (by omega), hR.one k hk']; rfl
    · rw [if_neg e]
      by_cases hb : (pm P k ||| 2 ^ P k) / 2 ^ i % 2 = 1
      · obtain ⟨j, h1, h2⟩ := pm_bit P (k + 1) i hb
        have h3 : j < k := by
          rcases Nat.lt_succ_iff_lt_or_eq.1 h1 with h | h
          · exact h
          · subst h; exact absurd h2.symm e
        rw [if_pos hb, ← h2, hR.zer j (by omega) k hk' (by omega), Int.mul_zero]
      · rw [if_neg hb]

end Go.Proofs.Ytbnegbpapjcmhaa
