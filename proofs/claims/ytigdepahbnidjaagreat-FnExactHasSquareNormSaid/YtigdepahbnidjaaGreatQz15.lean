/-
  slices.Max and slices.Equal of lists of numbers.
  Conditions: rows of known cells, of at most 1048576 numbers.
  Versors: spinor norms, parities, what is around vectors. No Go in sight.
  No conditions.
  Two lists compared: contracts of the program and of the model.
  Conditions: the lists are nil or rows of known cells, of at most 1048576 numbers.
  IsEven: contracts of the program and of the model.
  Conditions: the lists are nil or rows of known cells, of at most 1048576 numbers.
  Pseudoscalars, their squares, scalar products: contracts of the program and of the model.
  Conditions: the lists are nil or rows of known cells, of at most 1048576 numbers.
  What is around vectors, parities, numbers of basis vectors (program): contracts of the program and of the model.
  Conditions: the lists are nil or rows of known cells, of at most 1048576 numbers.
  What the program's and the model's checks of lists of numbers, matrices and lists of vectors return.
  Conditions: they are nil or rows of known cells.
  Checks of lists of vectors under one bound on all numbers.
  Conditions: they are nil or rows of known cells, of at most 1048576 numbers.
  What the program's checks of matrices return, and its new matrices of zeros.
  Conditions: the matrices are nil or rows of known cells.
-/
import Derived.Test.YtigdepahbnidjaaGreatQz8
import Derived.BigQuiet
import Derived.Test.YtigdepahbnidjaaGreatQz14
import Derived.Test.YtigdepahbnidjaaGreatQz5
import Derived.ChangeKeysEq
import Derived.Laws.StructEq
import Derived.Deep.RegionHeld3
import Derived.Deep.DeepCutAuto
import Derived.Test.YtigdepahbnidjaaGreatQz4
import Derived.Test.YtigdepahbnidjaaGreatQz6
import Derived.RegionTactic
import Derived.ChangeAlike
namespace Go.Proofs.YtigdepahbnidjaaGreat
open Go.RowKit
set_option linter.unusedVariables false

set_option maxHeartbeats 1600000 in
theorem equal_any (a b : Option Addr) (za zb : List Int) (ca cb lo tp lo' tp' : Nat) (w : World) (ha : RowIn lo tp w a za) (hb : RowIn lo' tp' w b zb) (sa : za.length ≤ 1048576) :
    Calls Tryz.prog 76 #[.slice a za.length ca, .slice b zb.length cb] w fun e w' => e = .returned (.bool (decide (za = zb))) ∧ Quiet w w' := by
  have HA := Lib.hid ha
  have HB := Lib.hid hb
  clear ha hb
  by_cases hl : za.length = zb.length
  · have HL := Lib.hid hl
    obtain ⟨n, hn⟩ : ∃ n, n = zb.length := ⟨_, rfl⟩
    have HN := Lib.hid hn
    rw [hl] at sa ⊢
    rw [← hn] at sa ⊢
    clear hl hn
    go_enter Tryz.func76, Tryz.ntmps76
    go_wp2
    go_loopw [13] (fun t wr => ∃ i : Nat, i ≤ n ∧ t = .int .i64 i ∧ (∀ j, j < i → za.getD j 0 = zb.getD j 0) ∧ Quiet w wr) (fun t _ => n - (intOf t).toNat)
    case atStart => exact ⟨0, Nat.zero_le _, rfl, fun j hj => by omega, Quiet.refl _⟩
    case round =>
      obtain ⟨i, hi, rfl, hall, hq⟩ := hrel
      have HQ := Lib.hid hq
      have HALL := Lib.hid hall
      by_cases hlt : i < n
      · obtain ⟨b1, o1, ha1, _, _, hc1⟩ := (HA.out.same (hq.same _ _)).num (show i < za.length by rw [HL.out, ← HN.out]; exact hlt)
        obtain ⟨b2, o2, ha2, _, _, hc2⟩ := (HB.out.same (hq.same _ _)).num (show i < zb.length by rw [← HN.out]; exact hlt)
        subst ha1
        subst ha2
        have hi1 : (i : Int) < (n : Int) := by omega
        obtain ⟨x, hx⟩ : ∃ x, x = za.getD i 0 := ⟨_, rfl⟩
        obtain ⟨y, hy⟩ : ∃ y, y = zb.getD i 0 := ⟨_, rfl⟩
        have HX := Lib.hid hx
        have HY := Lib.hid hy
        rw [← hx] at hc1
        rw [← hy] at hc2
        clear hx hy hall hq
        by_cases hxy : x = y
        · have e1 : (x != y) = false := by simp [hxy]
          have HXY := Lib.hid hxy
          clear hxy
          go_wp2
          go_quiet (fail)
          go_wp2
          go_roundw
          case rel => exact ⟨i + 1, by omega, by go_num, fun j hj => by
            by_cases e : j = i
            · subst e; rw [← HX.out, ← HY.out, HXY.out]
            · exact HALL.out j (by omega), HQ.out.next _⟩
          case measure => simp [intOf]; omega
        · have e1 : (x != y) = true := by simp [hxy]
          have HR : Hid (decide (za = zb) = false) := decide_eq_false fun e => hxy (by rw [HX.out, HY.out, e])
          clear hxy
          go_wp2
          go_quiet (fail)
          go_wp2
          go_ret
          exact ⟨by rw [HR.out]; rfl, HQ.out.next _⟩
      · have hin : i = n := by omega
        subst hin
        have HR : Hid (decide (za = zb) = true) := decide_eq_true (row_ext HL.out (fun j hj => hall j (by rw [HN.out, ← HL.out]; exact hj)))
        clear hall hq
        go_wp2
        go_ret
        exact ⟨by rw [HR.out]; rfl, HQ.out⟩
  · have HR : Hid (decide (za = zb) = false) := decide_eq_false fun e => hl (by rw [e])
    obtain ⟨n, hn⟩ : ∃ n, n = za.length := ⟨_, rfl⟩
    obtain ⟨m, hm⟩ : ∃ m, m = zb.length := ⟨_, rfl⟩
    rw [← hn, ← hm] at hl ⊢
    have hl2 : ((n : Int) != (m : Int)) = true := by simp; omega
    go_enter Tryz.func76, Tryz.ntmps76
    go_wp2
    go_ret
    exact ⟨by rw [HR.out]; rfl, Quiet.refl _⟩

end Go.Proofs.YtigdepahbnidjaaGreat

namespace Go.Proofs.YtigdepahbnidjaaGreat
open Go.RowKit
set_option linter.unusedVariables false

theorem vec_mv {p : Int} {S v : List Int} (hs : isSp p S = true) (hv : isVec p S.length v = true) : isMv p S (vecM S v) = true := vec_mv' hs hv
/-- A basis vector. -/
def eiR (n i : Nat) : List Int := mkR n fun j => if i = j then 1 else 0
theorem ei_vec {p : Int} (hp : 1 < p) (n i : Nat) : isVec p n (eiR n i) = true := by
  refine isVec_iff.2 ⟨mkR_len _ _, ?_⟩
  rw [List.all_eq_true]
  intro y hy
  obtain ⟨j, hj, rfl⟩ := List.getElem_of_mem hy
  rw [← getD_at hj]
  have hj' : j < n := by unfold eiR at hj; rw [mkR_len] at hj; exact hj
  unfold eiR
  rw [mkR_at _ hj']
  exact inr_iff.2 (by split <;> omega)
/-- The product of the first k vectors. -/
def vrM (p : Int) (S : List Int) (m : List (List Int)) : Nat → List Int
  | 0 => mOne S
  | k + 1 => prodM p S (vrM p S m k) (vecM S (rw' m k))
theorem vr_mv {p : Int} {S : List Int} (hs : isSp p S = true) (m : List (List Int)) : ∀ k, isMv p S (vrM p S m k) = true
  | 0 => one_mv' hs
  | k + 1 => prod_mv hs _ _
theorem vr_len {p : Int} {S : List Int} (m : List (List Int)) : ∀ k, (vrM p S m k).length = bl S
  | 0 => mkR_len _ _
  | k + 1 => prodM_len _ _ _ _
/-- The product of the norms of the first k vectors. -/
def vsF (p : Int) (S : List Int) (m : List (List Int)) : Nat → Int
  | 0 => 1
  | k + 1 => vsF p S m k * pairN p S (rw' m k) (rw' m k) % p
theorem vs_bd {p : Int} (hp : 1 < p) (S : List Int) (m : List (List Int)) : ∀ k, 0 ≤ vsF p S m k ∧ vsF p S m k < p
  | 0 => by show 0 ≤ (1 : Int) ∧ (1 : Int) < p; omega
  | k + 1 => ⟨Int.emod_nonneg _ (by omega), Int.emod_lt_of_pos _ (by omega)⟩
/-- The reflection's factor: the program's and the model's. -/
def rfK (p a n : Int) : Int := (-2 * a) % p * inv p n % p
theorem rf_model {p a n : Int} (hp : 0 < p) : (p - 2 * a % p * inv p n % p) % p = rfK p a n := by
  unfold rfK
  rw [em_sub, show -(2 * a % p * inv p n) = 2 * a % p * -(inv p n) by rw [Int.mul_neg], em_l, em_l, Int.mul_neg, Int.neg_mul, Int.neg_mul]
theorem rf_bd {p : Int} (hp : 0 < p) (a n : Int) : 0 ≤ rfK p a n ∧ rfK p a n < p := ⟨Int.emod_nonneg _ (by omega), Int.emod_lt_of_pos _ hp⟩

end Go.Proofs.YtigdepahbnidjaaGreat

namespace Go.Proofs.YtigdepahbnidjaaGreat
open Go.RowKit
set_option linter.unusedVariables false

set_option maxHeartbeats 1600000 in
theorem l01Same_any (a b : Option Addr) (za zb : List Int) (ca cb lo tp lo' tp' : Nat) (w : World) (ha : RowIn lo tp w a za) (hb : RowIn lo' tp' w b zb) (sa : za.length ≤ 1048576) :
    Calls Tryz.prog 35 #[.slice a za.length ca, .slice b zb.length cb] w fun e w' => e = .returned (.bool (decide (za = zb))) ∧ Quiet w w' := by
  have HA := Lib.hid ha
  have HB := Lib.hid hb
  clear ha hb
  by_cases hl : za.length = zb.length
  · have HL := Lib.hid hl
    obtain ⟨n, hn⟩ : ∃ n, n = zb.length := ⟨_, rfl⟩
    have HN := Lib.hid hn
    rw [hl] at sa ⊢
    rw [← hn] at sa ⊢
    clear hl hn
    go_enter Tryz.func35, Tryz.ntmps35
    go_wp2
    go_loopw [5] (fun t wr => ∃ i : Nat, i ≤ n ∧ t = .int .i64 i ∧ (∀ j, j < i → za.getD j 0 = zb.getD j 0) ∧ Quiet w wr) (fun t _ => n - (intOf t).toNat)
    case atStart => exact ⟨0, Nat.zero_le _, rfl, fun j hj => by omega, Quiet.refl _⟩
    case round =>
      obtain ⟨i, hi, rfl, hall, hq⟩ := hrel
      have HQ := Lib.hid hq
      have HALL := Lib.hid hall
      by_cases hlt : i < n
      · obtain ⟨b1, o1, ha1, _, _, hc1⟩ := (HA.out.same (hq.same _ _)).num (show i < za.length by rw [HL.out, ← HN.out]; exact hlt)
        obtain ⟨b2, o2, ha2, _, _, hc2⟩ := (HB.out.same (hq.same _ _)).num (show i < zb.length by rw [← HN.out]; exact hlt)
        subst ha1
        subst ha2
        have hi1 : (i : Int) < (n : Int) := by omega
        obtain ⟨x, hx⟩ : ∃ x, x = za.getD i 0 := ⟨_, rfl⟩
        obtain ⟨y, hy⟩ : ∃ y, y = zb.getD i 0 := ⟨_, rfl⟩
        have HX := Lib.hid hx
        have HY := Lib.hid hy
        rw [← hx] at hc1
        rw [← hy] at hc2
        clear hx hy hall hq
        by_cases hxy : x = y
        · have e1 : (x != y) = false := by simp [hxy]
          have HXY := Lib.hid hxy
          clear hxy
          go_wp2
          go_quiet (fail)
          go_wp2
          go_roundw
          case rel => exact ⟨i + 1, by omega, by go_num, fun j hj => by
            by_cases e : j = i
            · subst e; rw [← HX.out, ← HY.out, HXY.out]
            · exact HALL.out j (by omega), HQ.out.next _⟩
          case measure => simp [intOf]; omega
        · have e1 : (x != y) = true := by simp [hxy]
          have HR : Hid (decide (za = zb) = false) := decide_eq_false fun e => hxy (by rw [HX.out, HY.out, e])
          clear hxy
          go_wp2
          go_quiet (fail)
          go_wp2
          go_ret
          exact ⟨by rw [HR.out]; rfl, HQ.out.next _⟩
      · have hin : i = n := by omega
        subst hin
        have HR : Hid (decide (za = zb) = true) := decide_eq_true (row_ext HL.out (fun j hj => hall j (by rw [HN.out, ← HL.out]; exact hj)))
        clear hall hq
        go_wp2
        go_ret
        exact ⟨by rw [HR.out]; rfl, HQ.out⟩
  · have HR : Hid (decide (za = zb) = false) := decide_eq_false fun e => hl (by rw [e])
    obtain ⟨n, hn⟩ : ∃ n, n = za.length := ⟨_, rfl⟩
    obtain ⟨m, hm⟩ : ∃ m, m = zb.length := ⟨_, rfl⟩
    rw [← hn, ← hm] at hl ⊢
    have hl2 : ((n : Int) != (m : Int)) = true := by simp; omega
    go_enter Tryz.func35, Tryz.ntmps35
    go_wp2
    go_ret
    exact ⟨by rw [HR.out]; rfl, Quiet.refl _⟩

end Go.Proofs.YtigdepahbnidjaaGreat

namespace Go.Proofs.YtigdepahbnidjaaGreat
open Go.RowKit
set_option linter.unusedVariables false

theorem ss2s {w : World} {b i j : Nat} {u v : Value} {g : Nat} {u0 u1 : Value} (l : g ≠ b) (h0 : w.cell? ⟨g, 0, none⟩ = some u0 ∧ w.cell? ⟨g, 1, none⟩ = some u1) : ((w.setCell ⟨b, i, none⟩ u).setCell ⟨b, j, none⟩ v).cell? ⟨g, 0, none⟩ = some u0 ∧ ((w.setCell ⟨b, i, none⟩ u).setCell ⟨b, j, none⟩ v).cell? ⟨g, 1, none⟩ = some u1 := by
  have e : ∀ (W : World) (i k : Nat) (v : Value), (W.setCell ⟨b, i, none⟩ v).cell? ⟨g, k, none⟩ = W.cell? ⟨g, k, none⟩ := fun W i k v => World.cell?_setCell_other W ⟨b, i, none⟩ ⟨g, k, none⟩ v (fun h => by injection h with h1; omega)
  rw [e, e, e, e]; exact h0

end Go.Proofs.YtigdepahbnidjaaGreat

namespace Go.Proofs.YtigdepahbnidjaaGreat
open Go.RowKit
set_option linter.unusedVariables false

/-- The cells of the box of a multivector. -/
def BoxM (g : Nat) (p : Int) (aS : Option Addr) (n cS : Nat) (ax : Option Addr) (l cx : Nat) (W : World) : Prop :=
  W.cell? ⟨g, 0, none⟩ = some (.int .i64 p) ∧ W.cell? ⟨g, 1, none⟩ = some (.slice aS n cS) ∧ W.cell? ⟨g, 2, none⟩ = some (.slice ax l cx)
theorem BoxM.below {g : Nat} {p : Int} {aS ax : Option Addr} {n cS l cx B : Nat} {w w' : World} (h : BoxM g p aS n cS ax l cx w) (hb : Below B w w') (hg : g < B) : BoxM g p aS n cS ax l cx w' :=
  ⟨(hb.cell (p := ⟨g, 0, none⟩) hg).trans h.1, (hb.cell (p := ⟨g, 1, none⟩) hg).trans h.2.1, (hb.cell (p := ⟨g, 2, none⟩) hg).trans h.2.2⟩
theorem BoxM.new (w : World) (p : Int) (aS : Option Addr) (n cS : Nat) (ax : Option Addr) (l cx : Nat) (T : TypeId) : BoxM w.heap.size p aS n cS ax l cx (w.alloc (.cells #[.int .i64 p, .slice aS n cS, .slice ax l cx] T)) :=
  ⟨by simp [go_sem], by simp [go_sem], by simp [go_sem]⟩
/-- The box of a multivector and that of its space. -/
def BoxV (g gs : Nat) (p : Int) (aS : Option Addr) (n cS : Nat) (ax : Option Addr) (l cx : Nat) (W : World) : Prop :=
  W.cell? ⟨g, 0, none⟩ = some (.int .i64 p) ∧ W.cell? ⟨g, 1, none⟩ = some (.slice aS n cS) ∧ W.cell? ⟨g, 2, none⟩ = some (.slice ax l cx) ∧ W.cell? ⟨gs, 0, none⟩ = some (.int .i64 p) ∧ W.cell? ⟨gs, 1, none⟩ = some (.slice aS n cS)
theorem BoxV.below {g gs : Nat} {p : Int} {aS ax : Option Addr} {n cS l cx B : Nat} {w w' : World} (h : BoxV g gs p aS n cS ax l cx w) (hb : Below B w w') (hg : g < B ∧ gs < B) : BoxV g gs p aS n cS ax l cx w' :=
  ⟨(hb.cell (p := ⟨g, 0, none⟩) hg.1).trans h.1, (hb.cell (p := ⟨g, 1, none⟩) hg.1).trans h.2.1, (hb.cell (p := ⟨g, 2, none⟩) hg.1).trans h.2.2.1, (hb.cell (p := ⟨gs, 0, none⟩) hg.2).trans h.2.2.2.1, (hb.cell (p := ⟨gs, 1, none⟩) hg.2).trans h.2.2.2.2⟩
end Go.Proofs.YtigdepahbnidjaaGreat

namespace Go.Proofs.YtigdepahbnidjaaGreat
open Go.RowKit Go.ChangeShapes Go.WideShapes
set_option linter.unusedVariables false

theorem isM_nprime {p : Int} {n : Nat} {m : List (List Int)} (h : prm p = false) : isL n p m = false := not_isL fun k => by rw [k.prime] at h; cases h
theorem isM_nlen {p : Int} {n : Nat} {m : List (List Int)} (h : ¬ (n ≤ m.length ∧ m.length ≤ 16)) : isL n p m = false := not_isL fun k => h ⟨k.lo, k.hi⟩
theorem isM_nrow {p : Int} {n : Nat} {m : List (List Int)} {i : Nat} (hi : i < m.length) (h : ¬ (1 ≤ (rw' m i).length ∧ (rw' m i).length ≤ 16)) : isL n p m = false := not_isL fun k => h ⟨k.c0 i hi, k.c1 i hi⟩
theorem isM_ncol {p : Int} {n : Nat} {m : List (List Int)} {i : Nat} (hi : i < m.length) (h : ¬ (rw' m i).length = (rw' m 0).length) : isL n p m = false := not_isL fun k => h (k.len i hi)
theorem isM_nall {p : Int} {n : Nat} {m : List (List Int)} {i : Nat} (hi : i < m.length) (h : (rw' m i).all (inr p) = false) : isL n p m = false := not_isL fun k => by rw [k.all i hi] at h; cases h
/-- What has been seen of the first i rows. -/
def Seen (p : Int) (m : List (List Int)) (i : Nat) : Prop := ∀ i', i' < i → (rw' m i').length = (rw' m 0).length ∧ (1 ≤ (rw' m i').length ∧ (rw' m i').length ≤ 16) ∧ (rw' m i').all (inr p) = true
theorem Seen.zero (p : Int) (m : List (List Int)) : Seen p m 0 := fun i' h => by omega
theorem Seen.next {p : Int} {m : List (List Int)} {i : Nat} (h : Seen p m i) (h1 : (rw' m i).length = (rw' m 0).length) (h2 : 1 ≤ (rw' m i).length ∧ (rw' m i).length ≤ 16) (h3 : (rw' m i).all (inr p) = true) : Seen p m (i + 1) := by
  intro i' hi'
  by_cases e : i' = i
  · subst e; exact ⟨h1, h2, h3⟩
  · exact h i' (by omega)
theorem Seen.yes {p : Int} {n : Nat} {m : List (List Int)} {i : Nat} (h : Seen p m i) (hi : m.length ≤ i) (hp : prm p = true) (h1 : n ≤ m.length ∧ m.length ≤ 16) : isL n p m = true :=
  isL_iff.2 ⟨hp, h1.1, h1.2, fun j hj => (h j (by omega)).1, fun j hj => (h j (by omega)).2.1.1, fun j hj => (h j (by omega)).2.1.2, fun j hj => (h j (by omega)).2.2⟩
theorem neq_spell {a b : Nat} (h : ¬ a = b) : ((a : Int) == (b : Int)) = false ∧ ((a : Int) != (b : Int)) = true := by
  have : ¬ (a : Int) = (b : Int) := by omega
  simp [this]
set_option maxHeartbeats 1600000 in
theorem l02Is_any (p : Int) (a : Option Addr) (m : List (List Int)) (cap lo tp : Nat) (w : World) (hm : MatIn lo tp w a m) (h1 : m.length ≤ 9223372036854775807) (h2 : ∀ i, i < m.length → (rw' m i).length ≤ 9223372036854775807) :
    Calls Tryz.prog 85 #[.int .i64 p, .slice a m.length cap] w fun e w' => e = .returned (.bool (isM p m)) ∧ Quiet w w' := by
  have HM := Lib.hid hm
  have HL := Lib.hid h2
  clear hm h2
  by_cases hp : prm p = true
  · have HP := Lib.hid hp
    clear hp
    by_cases hn : 1 ≤ m.length ∧ m.length ≤ 16
    · obtain ⟨hn1, hn2⟩ := hn
      obtain ⟨b, o, r0, c0, ha, _, _, hr0, _⟩ := HM.out.row (i := 0) (by omega)
      subst ha
      rw [Nat.add_zero] at hr0
      have hl0 := HL.out 0 (by omega)
      by_cases hc : 1 ≤ (rw' m 0).length ∧ (rw' m 0).length ≤ 16
      · have HC0 := Lib.hid hc
        obtain ⟨hc1, hc2⟩ := hc
        go_enter Tryz.func85, Tryz.ntmps85
        go_wp2_with (go_at_call 62; refine (l01Prime_any _ _).mono ?_; rintro e w' ⟨rfl, rfl⟩; rw [HP.out])
        go_loopw [5] (fun t wr => ∃ i : Nat, i ≤ m.length ∧ t = .int .i64 i ∧ Seen p m i ∧ Quiet w wr) (fun t _ => m.length - (intOf t).toNat)
        case atStart => exact ⟨0, Nat.zero_le _, rfl, Seen.zero _ _, Quiet.refl _⟩
        case round =>
          obtain ⟨i, hi, rfl, hs, hq⟩ := hrel
          have HQ := Lib.hid hq
          have HS := Lib.hid hs
          clear hs
          have hr0 := (hq.cell _).trans hr0
          by_cases hlt : i < m.length
          · obtain ⟨b', o', r, c, ha, _, _, hr, hrow⟩ := (HM.out.same (hq.same lo tp)).row hlt
            cases ha
            clear hq
            have HR := Lib.hid hrow
            clear hrow
            by_cases hcol : (rw' m i).length = (rw' m 0).length
            · have HCol := Lib.hid hcol
              clear hcol
              rw [← HCol.out] at hr0 hl0 hc1 hc2
              by_cases hall : (rw' m i).all (inr p) = true
              · have HAll := Lib.hid hall
                clear hall
                go_wp2
                go_quiet ((go_at_call 64; refine Calls.quiet_of_same ((numsRow _ _ _ _ lo tp _ HP.out (HR.out.same (((Quiet.refl _).next _).same _ _)) (by omega)).mono fun _ _ h => ⟨h.1.trans (by rw [HAll.out]), h.2.symm⟩)))
                go_wp2
                go_roundw
                case rel => exact ⟨i + 1, by omega, by go_num, HS.out.next HCol.out (by rw [HCol.out]; exact HC0.out) HAll.out, HQ.out.next _⟩
                case measure => simp [intOf]; omega
              · have HAll : Hid ((rw' m i).all (inr p) = false) := by show (rw' m i).all (inr p) = false; simpa using hall
                have HF : Hid (isM p m = false) := isM_nall hlt HAll.out
                clear hall
                go_wp2
                go_quiet ((go_at_call 64; refine Calls.quiet_of_same ((numsRow _ _ _ _ lo tp _ HP.out (HR.out.same (((Quiet.refl _).next _).same _ _)) (by omega)).mono fun _ _ h => ⟨h.1.trans (by rw [HAll.out]), h.2.symm⟩)))
                go_wp2
                go_ret
                exact ⟨by rw [HF.out]; rfl, HQ.out.next _⟩
            · have HF : Hid (isM p m = false) := isM_ncol hlt hcol
              have hln := HL.out i hlt
              obtain ⟨e1, e2⟩ := neq_spell hcol
              clear hcol
              go_wp2
              go_quiet (fail)
              go_wp2
              go_ret
              exact ⟨by rw [HF.out]; rfl, HQ.out.next _⟩
          · clear hq
            have HF : Hid (isM p m = true) := HS.out.yes (by omega) HP.out ⟨hn1, hn2⟩
            go_wp2
            go_ret
            exact ⟨by rw [HF.out]; rfl, HQ.out⟩
      · have HF : Hid (isM p m = false) := isM_nrow (i := 0) (by omega) hc
        obtain ⟨l0, hl⟩ : ∃ l0, l0 = (rw' m 0).length := ⟨_, rfl⟩
        rw [← hl] at hr0 hl0 hc
        clear hl
        by_cases hz : l0 < 1
        · clear hc
          go_enter Tryz.func85, Tryz.ntmps85
          go_wp2_with (go_at_call 62; refine (l01Prime_any _ _).mono ?_; rintro e w' ⟨rfl, rfl⟩; rw [HP.out])
          go_ret
          exact ⟨by rw [HF.out]; rfl, Quiet.refl _⟩
        · have hz2 : 16 < l0 := by omega
          clear hc
          go_enter Tryz.func85, Tryz.ntmps85
          go_wp2_with (go_at_call 62; refine (l01Prime_any _ _).mono ?_; rintro e w' ⟨rfl, rfl⟩; rw [HP.out])
          go_ret
          exact ⟨by rw [HF.out]; rfl, Quiet.refl _⟩
    · have HF : Hid (isM p m = false) := isM_nlen hn
      by_cases hz : m.length < 1
      · clear hn
        go_enter Tryz.func85, Tryz.ntmps85
        go_wp2_with (go_at_call 62; refine (l01Prime_any _ _).mono ?_; rintro e w' ⟨rfl, rfl⟩; rw [HP.out])
        go_ret
        exact ⟨by rw [HF.out]; rfl, Quiet.refl _⟩
      · have hz2 : 16 < m.length := by omega
        clear hn
        go_enter Tryz.func85, Tryz.ntmps85
        go_wp2_with (go_at_call 62; refine (l01Prime_any _ _).mono ?_; rintro e w' ⟨rfl, rfl⟩; rw [HP.out])
        go_ret
        exact ⟨by rw [HF.out]; rfl, Quiet.refl _⟩
  · have hp' : prm p = false := by simpa using hp
    have HP := Lib.hid hp'
    have HF : Hid (isM p m = false) := isM_nprime HP.out
    clear hp hp'
    go_enter Tryz.func85, Tryz.ntmps85
    go_wp2_with (go_at_call 62; refine (l01Prime_any _ _).mono ?_; rintro e w' ⟨rfl, rfl⟩; rw [HP.out])
    go_ret
    exact ⟨by rw [HF.out]; rfl, Quiet.refl _⟩

set_option maxHeartbeats 1600000 in
theorem isRows_any (p : Int) (a : Option Addr) (m : List (List Int)) (n cap lo tp : Nat) (w : World) (hn1 : n ≤ 1) (hm : MatIn lo tp w a m) (h1 : m.length ≤ 9223372036854775807) (h2 : ∀ i, i < m.length → (rw' m i).length ≤ 9223372036854775807) :
    Calls Tryz.prog 90 #[.int .i64 p, .slice a m.length cap, .int .i64 n] w fun e w' => e = .returned (.bool (isL n p m)) ∧ w = w' := by
  have HM := Lib.hid hm
  have HL := Lib.hid h2
  clear hm h2
  by_cases hp : prm p = true
  · have HP := Lib.hid hp
    clear hp
    by_cases hn : n ≤ m.length ∧ m.length ≤ 16
    · have HN := Lib.hid hn
      have hd1 : decide (m.length < n) = false := by simp; omega
      have hn2 := hn.2
      clear hn
      go_enter Tryz.func90, Tryz.ntmps90
      go_wp2_with (go_at_call 95; refine (isPrime_any _ _).mono ?_; rintro e w' ⟨rfl, rfl⟩; rw [HP.out])
      clear hd1
      go_loop [25] (fun t => ∃ i : Nat, i ≤ m.length ∧ t = .int .i64 i ∧ Seen p m i) (fun t => m.length - (intOf t).toNat)
      case atStart => exact ⟨0, Nat.zero_le _, rfl, Seen.zero _ _⟩
      case round =>
        obtain ⟨i, hi, rfl, hs⟩ := hrel
        have HS := Lib.hid hs
        clear hs
        by_cases hlt : i < m.length
        · obtain ⟨b, o, r, c, ha, _, _, hr, hrow⟩ := HM.out.row hlt
          subst ha
          obtain ⟨b', o', r0, c0, ha, _, _, hr0, _⟩ := HM.out.row (i := 0) (by omega)
          cases ha
          rw [Nat.add_zero] at hr0
          have HR := Lib.hid hrow
          have hln := HL.out i hlt
          have hl0 := HL.out 0 (by omega)
          clear hrow
          by_cases hc : 1 ≤ (rw' m i).length ∧ (rw' m i).length ≤ 16
          · have HC := Lib.hid hc
            obtain ⟨hc1, hc2⟩ := hc
            by_cases hcol : (rw' m i).length = (rw' m 0).length
            · have HCol := Lib.hid hcol
              clear hcol
              rw [← HCol.out] at hr0 hl0
              by_cases hall : (rw' m i).all (inr p) = true
              · have HAll := Lib.hid (code_ok HP.out hall)
                have HA2 := Lib.hid hall
                clear hall
                go_wp2_with (go_at_call 88; (with_reducible refine (checkRow _ _ _ _ _ _ _ HP.out HR.out (by omega)).mono ?_); rintro e w' ⟨rfl, rfl⟩; rw [HAll.out])
                go_round
                case rel => exact ⟨i + 1, by omega, by go_num, HS.out.next HCol.out HC.out HA2.out⟩
                case measure => simp [intOf]; omega
              · have hall' : (rw' m i).all (inr p) = false := by simpa using hall
                have HAll := Lib.hid (code_bad HP.out hall')
                have HF := Lib.hid (isM_nall (n := n) hlt hall')
                clear hall hall'
                go_wp2_with (go_at_call 88; (with_reducible refine (checkRow _ _ _ _ _ _ _ HP.out HR.out (by omega)).mono ?_); rintro e w' ⟨rfl, rfl⟩; rw [HAll.out])
                go_ret
                exact ⟨by rw [HF.out]; rfl, rfl⟩
            · have HF := Lib.hid (isM_ncol (n := n) (p := p) hlt hcol)
              obtain ⟨e1, e2⟩ := neq_spell hcol
              clear hcol
              go_wp2
              go_ret
              exact ⟨by rw [HF.out]; rfl, rfl⟩
          · have HF := Lib.hid (isM_nrow (n := n) (p := p) hlt hc)
            by_cases hz : (rw' m i).length < 1
            · clear hc
              go_wp2
              go_ret
              exact ⟨by rw [HF.out]; rfl, rfl⟩
            · have hz2 : 16 < (rw' m i).length := by omega
              clear hc
              go_wp2
              go_ret
              exact ⟨by rw [HF.out]; rfl, rfl⟩
        · have HF := Lib.hid (HS.out.yes (n := n) (by omega) HP.out HN.out)
          go_wp2
          go_ret
          exact ⟨by rw [HF.out]; rfl, rfl⟩
    · have HF := Lib.hid (isM_nlen (p := p) hn)
      by_cases hz : m.length < n
      · have hd1 : decide (m.length < n) = true := by simp; omega
        clear hn
        go_enter Tryz.func90, Tryz.ntmps90
        go_wp2_with (go_at_call 95; refine (isPrime_any _ _).mono ?_; rintro e w' ⟨rfl, rfl⟩; rw [HP.out])
        go_ret
        exact ⟨by rw [HF.out]; rfl, rfl⟩
      · have hd1 : decide (m.length < n) = false := by simp; omega
        have hz2 : 16 < m.length := by omega
        clear hn
        go_enter Tryz.func90, Tryz.ntmps90
        go_wp2_with (go_at_call 95; refine (isPrime_any _ _).mono ?_; rintro e w' ⟨rfl, rfl⟩; rw [HP.out])
        go_ret
        exact ⟨by rw [HF.out]; rfl, rfl⟩
  · have hp' : prm p = false := by simpa using hp
    have HP := Lib.hid hp'
    have HF := Lib.hid (isM_nprime (n := n) (m := m) hp')
    clear hp hp'
    go_enter Tryz.func90, Tryz.ntmps90
    go_wp2_with (go_at_call 95; refine (isPrime_any _ _).mono ?_; rintro e w' ⟨rfl, rfl⟩; rw [HP.out])
    go_ret
    exact ⟨by rw [HF.out]; rfl, rfl⟩

end Go.Proofs.YtigdepahbnidjaaGreat

namespace Go.Proofs.YtigdepahbnidjaaGreat
open Go.RowKit
set_option linter.unusedVariables false

theorem len_of {m : List (List Int)} (h : m.length + tot m m.length ≤ 1048576) : m.length ≤ 9223372036854775807 ∧ ∀ i, i < m.length → (rw' m i).length ≤ 9223372036854775807 :=
  ⟨by omega, fun i hi => by have := tot_row (m := m) hi; omega⟩

theorem isRows_one (p : Int) (a : Option Addr) (m : List (List Int)) (cap lo tp : Nat) (w : World) (hm : MatIn lo tp w a m) (hs : m.length + tot m m.length ≤ 1048576) :
    Calls Tryz.prog 90 #[.int .i64 p, .slice a m.length cap, .int .i64 1] w fun e w' => e = .returned (.bool (isM p m)) ∧ w = w' :=
  isRows_any p a m 1 cap lo tp w (by omega) hm (len_of hs).1 (len_of hs).2
end Go.Proofs.YtigdepahbnidjaaGreat
