/-
  slices.Max and slices.Equal of lists of numbers.
  Conditions: rows of known cells, of at most 1048576 numbers.
  slices.EqualFunc of lists of rows, the rows compared by slices.Equal.
  Conditions: rows of rows of known cells, at most 1024 rows of at most 1048576 numbers.
  IsMatrix, in the program and in the model.
  Conditions: the matrix is nil or a row of rows of known cells.
  Products of matrices, in the program and in the model: contracts.
  Conditions: the matrices are rows of rows of known cells with numbers of the prime; their sizes fit.
  The model's products of matrices: a contract.
  Conditions: the matrices are rows of rows of known cells with numbers of the prime; their sizes fit.
  TransposeMatrix, in the program and in the model.
  Conditions: the arguments are nil or rows of known cells, of at most 1048576 numbers.
  Square matrices, in the model.
  Conditions: the arguments are nil or rows of known cells, of at most 1048576 numbers.
  Traces, in the program and in the model.
  Conditions: the arguments are nil or rows of known cells, of at most 1048576 numbers.
  Powers of matrices, in the program and in the model.
  Conditions: the matrix is nil or a row of rows of known cells.
  The program's search among the pivots: a contract.
-/
import Derived.Test.YtifiobhbhcfneaaQi6
import Derived.BigQuiet
import Derived.Test.YtifiobhbhcfneaaQi3
import Derived.Test.YtifiobhbhcfneaaQi7
import Derived.Test.YtifiobhbhcfneaaQi5
import Derived.Test.YtifiobhbhcfneaaQi14
import Derived.Test.YtifiobhbhcfneaaQi10
import Derived.Deep.QuietTactic
import Derived.Deep.Draws
namespace Go.Proofs.Ytifiobhbhcfneaa
open Go.RowKit
set_option linter.unusedVariables false

set_option maxHeartbeats 1600000 in
theorem equal_any (a b : Option Addr) (za zb : List Int) (ca cb lo tp lo' tp' : Nat) (w : World) (ha : RowIn lo tp w a za) (hb : RowIn lo' tp' w b zb) (sa : za.length ≤ 1048576) :
    Calls Try.prog 27 #[.slice a za.length ca, .slice b zb.length cb] w fun e w' => e = .returned (.bool (decide (za = zb))) ∧ Quiet w w' := by
  have HA := Lib.hid ha
  have HB := Lib.hid hb
  clear ha hb
  by_cases hl : za.length = zb.length
  · have HL := Lib.hid hl
    obtain ⟨n, hn⟩ : ∃ n, n = zb.length := ⟨_, rfl⟩
    have HN := Lib.hid hn
    rw [hl] at sa ⊢
    rw [← hn] at sa ⊢
    clear hl hn
    go_enter Try.func27, Try.ntmps27
    go_wp2
    go_loopw [13] (fun t wr => ∃ i : Nat, i ≤ n ∧ t = .int .i64 i ∧ (∀ j, j < i → za.getD j 0 = zb.getD j 0) ∧ Quiet w wr) (fun t _ => n - (intOf t).toNat)
    case atStart => exact ⟨0, Nat.zero_le _, rfl, fun j hj => by omega, Quiet.refl _⟩
    case round =>
      obtain ⟨i, hi, rfl, hall, hq⟩ := hrel
      have HQ := Lib.hid hq
      have HALL := Lib.hid hall
      by_cases hlt : i < n
      · obtain ⟨b1, o1, ha1, _, _, hc1⟩ := (HA.out.same (hq.same _ _)).num (show i < za.length by rw [HL.out, ← HN.out]; exact hlt)
        obtain ⟨b2, o2, ha2, _, _, hc2⟩ := (HB.out.same (hq.same _ _)).num (show i < zb.length by rw [← HN.out]; exact hlt)
        subst ha1
        subst ha2
        have hi1 : (i : Int) < (n : Int) := by omega
        obtain ⟨x, hx⟩ : ∃ x, x = za.getD i 0 := ⟨_, rfl⟩
        obtain ⟨y, hy⟩ : ∃ y, y = zb.getD i 0 := ⟨_, rfl⟩
        have HX := Lib.hid hx
        have HY := Lib.hid hy
        rw [← hx] at hc1
        rw [← hy] at hc2
        clear hx hy hall hq
        by_cases hxy : x = y
        · have e1 : (x != y) = false := by simp [hxy]
          have HXY := Lib.hid hxy
          clear hxy
          go_wp2
          go_quiet (fail)
          go_wp2
          go_roundw
          case rel => exact ⟨i + 1, by omega, by go_num, fun j hj => by
            by_cases e : j = i
            · subst e; rw [← HX.out, ← HY.out, HXY.out]
            · exact HALL.out j (by omega), HQ.out.next _⟩
          case measure => simp [intOf]; omega
        · have e1 : (x != y) = true := by simp [hxy]
          have HR : Hid (decide (za = zb) = false) := decide_eq_false fun e => hxy (by rw [HX.out, HY.out, e])
          clear hxy
          go_wp2
          go_quiet (fail)
          go_wp2
          go_ret
          exact ⟨by rw [HR.out]; rfl, HQ.out.next _⟩
      · have hin : i = n := by omega
        subst hin
        have HR : Hid (decide (za = zb) = true) := decide_eq_true (row_ext HL.out (fun j hj => hall j (by rw [HN.out, ← HL.out]; exact hj)))
        clear hall hq
        go_wp2
        go_ret
        exact ⟨by rw [HR.out]; rfl, HQ.out⟩
  · have HR : Hid (decide (za = zb) = false) := decide_eq_false fun e => hl (by rw [e])
    obtain ⟨n, hn⟩ : ∃ n, n = za.length := ⟨_, rfl⟩
    obtain ⟨m, hm⟩ : ∃ m, m = zb.length := ⟨_, rfl⟩
    rw [← hn, ← hm] at hl ⊢
    have hl2 : ((n : Int) != (m : Int)) = true := by simp; omega
    go_enter Try.func27, Try.ntmps27
    go_wp2
    go_ret
    exact ⟨by rw [HR.out]; rfl, Quiet.refl _⟩

end Go.Proofs.Ytifiobhbhcfneaa

namespace Go.Proofs.Ytifiobhbhcfneaa
open Go.RowKit
set_option linter.unusedVariables false

set_option maxRecDepth 100000 in
set_option maxHeartbeats 1600000 in
theorem equalF_any (a b : Option Addr) (A B : List (List Int)) (ca cb lo tp lo' tp' : Nat) (w : World) (ha : MatIn lo tp w a A) (ta : tp ≤ w.heap.size) (hb : MatIn lo' tp' w b B) (tb : tp' ≤ w.heap.size) (sa : A.length ≤ 1024) (sr : ∀ i, i < A.length → (rw' A i).length ≤ 1048576) :
    Calls Try.prog 23 #[.slice a A.length ca, .slice b B.length cb, .func (.func 27) #[] #[]] w fun e w' => e = .returned (.bool (decide (A = B))) ∧ Quiet w w' := by
  have HA := Lib.hid ha
  have HB := Lib.hid hb
  have HSR := Lib.hid sr
  clear ha hb sr
  by_cases hl : A.length = B.length
  · have HL := Lib.hid hl
    obtain ⟨n, hn⟩ : ∃ n, n = A.length := ⟨_, rfl⟩
    have HN := Lib.hid hn
    rw [← hl]
    rw [← hn] at sa ⊢
    clear hl hn
    go_enter Try.func23, Try.ntmps23
    go_wp2
    go_loopw [17] (fun t wr => ∃ i : Nat, i ≤ n ∧ t = .int .i64 i ∧ (∀ j, j < i → rw' A j = rw' B j) ∧ Quiet w wr) (fun t _ => n - (intOf t).toNat)
    case atStart => exact ⟨0, Nat.zero_le _, rfl, fun j hj => absurd hj (Nat.not_lt_zero _), Quiet.refl _⟩
    case round =>
      obtain ⟨i, hi, rfl, hall, hq⟩ := hrel
      have HQ := Lib.hid hq
      have HALL := Lib.hid hall
      by_cases hlt : i < n
      · have bq := hq.below w.heap.size
        obtain ⟨b1, o1, r1, k1, ha1, _, _, hc1, hr1⟩ := (HA.out.below bq ta).row (show i < A.length by rw [← HN.out]; exact hlt)
        obtain ⟨b2, o2, r2, k2, ha2, _, _, hc2, hr2⟩ := (HB.out.below bq tb).row (show i < B.length by rw [← HL.out, ← HN.out]; exact hlt)
        subst ha1
        subst ha2
        have hi1 : (i : Int) < (n : Int) := by omega
        have HR1 := Lib.hid hr1
        have HR2 := Lib.hid hr2
        have hs1 : (rw' A i).length ≤ 1048576 := HSR.out i (by rw [← HN.out]; exact hlt)
        clear hr1 hr2 hall hq bq
        by_cases hxy : rw' A i = rw' B i
        · have HD : Hid (decide (rw' A i = rw' B i) = true) := decide_eq_true hxy
          have HXY := Lib.hid hxy
          clear hxy
          go_wp2_with (go_at_call 27; ((with_reducible refine (equal_any r1 r2 (rw' A i) (rw' B i) k1 k2 lo tp lo' tp' wr HR1.out HR2.out hs1).mono ?_); rintro e w1 ⟨rfl, q_⟩; rw [HD.out]; have HQ1 := Lib.hid (HQ.out.trans q_); clear q_))
          go_roundw
          case rel => exact ⟨i + 1, by omega, by go_num, fun j hj => by
            by_cases e : j = i
            · subst e; exact HXY.out
            · exact HALL.out j (by omega), HQ1.out⟩
          case measure => (simp [intOf] <;> omega)
        · have HD : Hid (decide (rw' A i = rw' B i) = false) := decide_eq_false hxy
          have HR : Hid (decide (A = B) = false) := decide_eq_false fun e => hxy (by rw [e])
          clear hxy
          go_wp2_with (go_at_call 27; ((with_reducible refine (equal_any r1 r2 (rw' A i) (rw' B i) k1 k2 lo tp lo' tp' wr HR1.out HR2.out hs1).mono ?_); rintro e w1 ⟨rfl, q_⟩; rw [HD.out]; have HQ1 := Lib.hid (HQ.out.trans q_); clear q_))
          go_ret
          exact ⟨by rw [HR.out]; rfl, HQ1.out⟩
      · have hin : i = n := by omega
        subst hin
        have HR : Hid (decide (A = B) = true) := decide_eq_true (mat_ext HL.out (fun j hj => hall j (by rw [HN.out]; exact hj)))
        clear hall hq
        go_wp2
        go_ret
        exact ⟨by rw [HR.out]; rfl, HQ.out⟩
  · have HR : Hid (decide (A = B) = false) := decide_eq_false fun e => hl (by rw [e])
    obtain ⟨n, hn⟩ : ∃ n, n = A.length := ⟨_, rfl⟩
    obtain ⟨m, hm⟩ : ∃ m, m = B.length := ⟨_, rfl⟩
    rw [← hn, ← hm] at hl ⊢
    have hl2 : ((n : Int) != (m : Int)) = true := by simp; omega
    go_enter Try.func23, Try.ntmps23
    go_wp2
    go_ret
    exact ⟨by rw [HR.out]; rfl, Quiet.refl _⟩

end Go.Proofs.Ytifiobhbhcfneaa

namespace Go.Proofs.Ytifiobhbhcfneaa
open Go.RowKit
set_option linter.unusedVariables false

theorem impl_IsMatrix (p : Int) (a : Option Addr) (m : List (List Int)) (cap lo tp : Nat) (w : World) (hm : MatIn lo tp w a m) (ht : tp ≤ w.heap.size) (hs : m.length + tot m m.length ≤ 1048576) :
    Calls Try.prog 22 #[.int .i64 p, .slice a m.length cap] w (Ret1 (isM p m) w) := by
  have HM := Lib.hid hm
  have HS := Lib.hid hs
  clear hm hs
  go_enter Try.func22, Try.ntmps22
  go_wp2_with (go_at_call 44; (with_reducible refine (isRows_one _ _ _ _ lo tp _ HM.out HS.out).mono ?_); rintro e w1 ⟨rfl, rfl⟩)
  go_ret
  exact ⟨rfl, Below.refl _ _⟩

end Go.Proofs.Ytifiobhbhcfneaa

namespace Go.Proofs.Ytifiobhbhcfneaa
open Go.RowKit
set_option linter.unusedVariables false

set_option maxHeartbeats 1600000 in
theorem unitMatrix_any (n : Nat) (w : World) (hn : n ≤ 1024) (h0 : 1 ≤ n) :
    Calls Try.prog 25 #[.int .i64 n] w (OwnNew (oneM n) w) := by
  go_enter Try.func25, Try.ntmps25
  go_wp2_with (go_at_call 45; (with_reducible refine (newMatrix_any n n _ (by omega) (by omega) (by omega)).mono ?_); rintro e w1 ⟨q, rfl, ho1, hb1⟩; have HO1 := Lib.hid ho1; have HB1 := Lib.hid hb1; clear ho1 hb1)
  go_loopw [10] (fun t wr => ∃ i : Nat, i ≤ n ∧ t = .int .i64 i ∧ OwnAt w.heap.size w1.heap.size wr q n (fun _ => n) (fun k j => if k < i ∧ k = j then 1 else 0) ∧ Below w.heap.size w wr ∧ wr.heap.size = w1.heap.size) (fun t _ => n - (intOf t).toNat)
  case atStart => exact ⟨0, Nat.zero_le _, rfl, HO1.out.congr (fun i _ j _ => by simp), HB1.out, rfl⟩
  case round =>
    obtain ⟨i, hi, rfl, ho, hbel, hsz⟩ := hrel
    have HO := Lib.hid ho
    have HBEL := Lib.hid hbel
    have HSZ := Lib.hid hsz
    clear hsz hbel
    by_cases hlt : i < n
    · have ht3 := ho.top i hlt
      have hR := (ho.row i hlt).resolve_left (by omega)
      rw [hR] at ht3
      have hf3 := ho.free i hlt i hlt
      have hrg := ho.rrng i hlt (by omega)
      obtain ⟨y, hy⟩ : ∃ y, wr.cell? ⟨q.B i, q.O i + i, none⟩ = some (.int .i64 y) := ⟨_, ho.cell i hlt i hlt⟩
      have hi1 : (i : Int) < (n : Int) := by omega
      clear ho hR
      go_wp2
      go_roundw
      case rel => exact ⟨i + 1, by omega, by go_num, (HO.out.set hlt hlt 1).congr (fun k hk j _ => by
        by_cases e1 : k = i ∧ j = i
        · obtain ⟨rfl, rfl⟩ := e1
          rw [if_pos ⟨rfl, rfl⟩, if_pos ⟨by omega, rfl⟩]
        · rw [if_neg e1]
          by_cases e2 : k < i ∧ k = j
          · rw [if_pos e2, if_pos ⟨by omega, e2.2⟩]
          · rw [if_neg e2, if_neg (by omega)]), HBEL.out.setCell hrg.1 _, by simpa [World.setCell] using HSZ.out⟩
      case measure => simp [intOf]; omega
    · have hn : i = n := by omega
      subst hn
      have HF := Lib.hid (HO.out.congr (Z' := fun k j => if k = j then 1 else 0) (fun k hk j _ => by
        by_cases e : k = j
        · rw [if_pos ⟨hk, e⟩, if_pos e]
        · rw [if_neg (fun h => e h.2), if_neg e]))
      clear ho
      go_wp2
      go_ret
      exact ⟨_, i, by unfold oneM; rw [mk_len]; rfl, (HF.out.mono (Nat.le_refl _) (by rw [HSZ.out]; exact Nat.le_refl _)).ownM, HBEL.out⟩

/-! ### Powers -/
def pwF (p : Int) : Nat → Nat → List (List Int) → List (List Int) → List (List Int)
  | 0, _, out, _ => out
  | f + 1, k, out, step => if k = 0 then out else pwF p f (k / 2) (if k % 2 = 1 then mulM p out step else out) (mulM p step step)
def powM (p : Int) (m : List (List Int)) (k : Nat) : List (List Int) := pwF p 11 k (oneM m.length) m
/-- A square matrix with n rows of numbers. -/
def Sq (p : Int) (m : List (List Int)) (n : Nat) : Prop := Rect p m n ∧ m.length = n
theorem Sq.one {p : Int} (hp : prm p = true) {n : Nat} (hn : n ≤ 1024) : Sq p (oneM n) n := by
  have := prm_bd hp
  refine ⟨⟨by unfold oneM; rw [mk_len]; exact hn, hn, fun i hi => ?_, fun i hi j hj => ?_⟩, by unfold oneM; rw [mk_len]⟩
  · unfold oneM at hi ⊢; rw [mk_len] at hi; exact mk_rowLen _ hi
  · unfold oneM at hi hj ⊢
    rw [mk_len] at hi
    rw [mk_rowLen _ hi] at hj
    have e : (rw' (mk n n fun i j => if i = j then 1 else 0) i).getD j 0 = if i = j then 1 else 0 := mk_at _ hi hj
    rw [e]; split <;> omega
theorem Sq.size {p : Int} {m : List (List Int)} {n : Nat} (h : Sq p m n) (hn : n ≤ 16) : m.length + tot m m.length ≤ 1048576 := by
  rw [tot_const h.1.len (Nat.le_refl _), h.2]
  have : n * n ≤ 16 * 16 := Nat.mul_le_mul hn hn
  omega
theorem Sq.of {p : Int} {m : List (List Int)} (h : Lst 1 p m) (k : m.length = (rw' m 0).length) : Sq p m m.length := ⟨by rw [k]; have := rect_of h; exact this, rfl⟩
/-- Where a loop of powers stands: f rounds may come. -/
def PwAt (p : Int) (m : List (List Int)) (k0 k f : Nat) (out step : List (List Int)) : Prop :=
  k < 2 ^ f ∧ f ≤ 11 ∧ pwF p f k out step = powM p m k0 ∧ Sq p out m.length ∧ Sq p step m.length
theorem PwAt.start {p : Int} {m : List (List Int)} {k : Nat} (h : Lst 1 p m) (hq : m.length = (rw' m 0).length) (hk : k ≤ 1000) : PwAt p m k k 11 (oneM m.length) m :=
  ⟨by omega, Nat.le_refl _, rfl, Sq.one h.prime (by have := h.hi; omega), Sq.of h hq⟩
theorem Sq.r2 {p : Int} {a b : List (List Int)} {n : Nat} (ha : Sq p a n) (hb : Sq p b n) : Rect p a b.length := by rw [hb.2]; exact ha.1
theorem Sq.r0 {p : Int} {b : List (List Int)} {n : Nat} (hb : Sq p b n) (h0 : 0 < n) : Rect p b (rw' b 0).length ∧ 0 < b.length := by
  rw [hb.1.len 0 (by rw [hb.2]; exact h0), hb.2]; exact ⟨hb.1, h0⟩
end Go.Proofs.Ytifiobhbhcfneaa

namespace Go.Proofs.Ytifiobhbhcfneaa
open Go.RowKit Go.ChangeShapes Go.WideShapes
set_option linter.unusedVariables false

/-- A readable list of n places. -/
def IntsIn (lo tp : Nat) (w : World) (a : Option Addr) (n : Nat) (P : Nat → Nat) : Prop :=
  n = 0 ∨ ∃ b o, a = some ⟨b, o, none⟩ ∧ lo ≤ b ∧ b < tp ∧ ∀ j, j < n → w.cell? ⟨b, o + j, none⟩ = some (.int .i64 (P j))
theorem IntsIn.at {lo tp : Nat} {w : World} {a : Option Addr} {n : Nat} {P : Nat → Nat} (h : IntsIn lo tp w a n P) {j : Nat} (hj : j < n) : ∃ b o, a = some ⟨b, o, none⟩ ∧ lo ≤ b ∧ b < tp ∧ w.cell? ⟨b, o + j, none⟩ = some (.int .i64 (P j)) := by
  rcases h with h | ⟨b, o, ha, h1, h2, hc⟩
  · omega
  · exact ⟨b, o, ha, h1, h2, hc j hj⟩

theorem isNaNc_any (x : Int) (w : World) : Calls Try.prog 79 #[.int .i64 x] w fun e w' => e = .returned (.bool false) ∧ w = w' := by
  go_enter Try.func79, Try.ntmps79
  go_wp2
  go_ret
  exact ⟨rfl, rfl⟩
theorem isNaNs_any (x : Int) (w : World) : Calls Try.prog 73 #[.int .i64 x] w fun e w' => e = .returned (.bool false) ∧ w = w' := by
  go_enter Try.func73, Try.ntmps73
  go_wp2
  go_ret
  exact ⟨rfl, rfl⟩
theorem less_any (x y : Int) (w : World) : Calls Try.prog 72 #[.int .i64 x, .int .i64 y] w fun e w' => e = .returned (.bool (decide (x < y))) ∧ Quiet w w' := by
  go_enter Try.func72, Try.ntmps72
  go_wp2_with (go_at_call 79; refine (isNaNc_any _ _).mono ?_; rintro e w1 ⟨rfl, rfl⟩)
  all_goals (go_ret; exact ⟨by simp, Quiet.refl _⟩)

set_option maxRecDepth 100000 in
set_option maxHeartbeats 1600000 in
theorem search_any (a : Option Addr) (n ca lo tp q : Nat) (P : Nat → Nat) (w : World) (hP : IntsIn lo tp w a n P) (hn : n ≤ 1024) (hq : q ≤ 1024) (hb : ∀ i, i < n → P i ≤ 1024) (hm : ∀ i i', i < i' → i' < n → P i < P i') (hne : ∀ i, i < n → P i ≠ q) :
    Calls Try.prog 66 #[.slice a n ca, .int .i64 q] w fun e w' => ∃ t : Nat, e = .returned (.tuple #[.int .i64 t, .bool false]) ∧ Quiet w w' ∧ t ≤ n ∧ (∀ i, i < t → P i < q) ∧ ∀ i, t ≤ i → i < n → q < P i := by
  have HP := Lib.hid hP
  have HB := Lib.hid hb
  have HM := Lib.hid hm
  have HE := Lib.hid hne
  clear hP hb hm hne
  go_enter Try.func66, Try.ntmps66
  go_wp2
  go_loopw [7, 8] (fun s t wr => ∃ i j : Nat, i ≤ j ∧ j ≤ n ∧ s = .int .i64 i ∧ t = .int .i64 j ∧ Quiet w wr ∧ (∀ k, k < i → P k < q) ∧ ∀ k, j ≤ k → k < n → q < P k) (fun s t _ => (intOf t).toNat - (intOf s).toNat)
  case atStart => exact ⟨0, n, Nat.zero_le _, Nat.le_refl _, rfl, rfl, Quiet.refl _, fun k hk => by omega, fun k hk hk2 => by omega⟩
  case round =>
    obtain ⟨i, j, hij, hj, rfl, rfl, hqt, h1, h2⟩ := hrel
    have HQ := Lib.hid hqt
    have H1 := Lib.hid h1
    have H2 := Lib.hid h2
    clear h1 h2
    by_cases hlt : i < j
    · have hi1 : (i : Int) < (j : Int) := by omega
      obtain ⟨h, hdef⟩ : ∃ h, h = (i + j) / 2 := ⟨_, rfl⟩
      have hh : ((i : Int) + (j : Int)) / 2 = (h : Int) := by omega
      have hih : i ≤ h := by omega
      have hhj : h < j := by omega
      have hh1 : (h : Int) < (n : Int) := by omega
      obtain ⟨b1, o1, ha1, _, _, hc0⟩ := HP.out.at (by omega : h < n)
      subst ha1
      have hc1 := ((hqt.below _).cell (p := ⟨b1, o1 + h, none⟩) (by assumption)).trans hc0
      have hpb := HB.out h (by omega)
      have hne := HE.out h (by omega)
      clear hc0 hqt hdef
      by_cases hx : P h < q
      · have HD : Hid (decide ((P h : Int) < (q : Int)) = true) := by show _ = _; simp; exact hx
        go_wp2_with (go_at_call 72; refine (less_any _ _ _).mono ?_; rintro e w1 ⟨rfl, hq1⟩; rw [HD.out]; have HQ1 := Lib.hid hq1; clear hq1)
        go_roundw
        case rel => exact ⟨h + 1, j, by omega, by omega, by go_num, rfl, HQ.out.trans HQ1.out, fun k hk => by
            by_cases e : k = h
            · subst e; exact hx
            · have := HM.out k h (by omega) (by omega); omega, H2.out⟩
        case measure => simp [intOf]; omega
      · have HD : Hid (decide ((P h : Int) < (q : Int)) = false) := by show _ = _; simp; omega
        go_wp2_with (go_at_call 72; refine (less_any _ _ _).mono ?_; rintro e w1 ⟨rfl, hq1⟩; rw [HD.out]; have HQ1 := Lib.hid hq1; clear hq1)
        go_roundw
        case rel => exact ⟨i, h, by omega, by omega, rfl, rfl, HQ.out.trans HQ1.out, H1.out, fun k hk hk2 => by
            by_cases e : k = h
            · subst e; omega
            · have := HM.out h k (by omega) (by omega); omega⟩
        case measure => simp [intOf]; omega
    · have hij : i = j := by omega
      subst hij
      by_cases hin : i < n
      · have hi1 : (i : Int) < (n : Int) := by omega
        obtain ⟨b1, o1, ha1, _, _, hc0⟩ := HP.out.at hin
        subst ha1
        have hc1 := ((hqt.below _).cell (p := ⟨b1, o1 + i, none⟩) (by assumption)).trans hc0
        have hne := HE.out i hin
        have hne1 : ((P i : Int) == (q : Int)) = false := by simp; omega
        have hne2 : ¬ (P i : Int) = (q : Int) := by omega
        clear hc0 hqt
        go_wp2_with (go_at_call 73; refine (isNaNs_any _ _).mono ?_; rintro e w1 ⟨rfl, rfl⟩)
        all_goals (refine bodyPost_ret (v := .tuple #[.int .i64 i, .bool false]) (by simp [results, Try.results66, go_sem]) rfl ⟨i, rfl, HQ.out, hj, H1.out, H2.out⟩)
      · have hin2 : ¬ (i : Int) < (n : Int) := by omega
        clear hqt
        go_wp2
        refine bodyPost_ret (v := .tuple #[.int .i64 i, .bool false]) (by simp [results, Try.results66, go_sem]) rfl ⟨i, rfl, HQ.out, hj, H1.out, H2.out⟩
end Go.Proofs.Ytifiobhbhcfneaa
