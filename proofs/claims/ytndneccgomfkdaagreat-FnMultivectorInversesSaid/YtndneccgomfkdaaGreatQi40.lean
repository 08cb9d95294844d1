/-
  HasInverse: contracts of the program and of the model.
  Conditions: the lists are nil or rows of known cells, of at most 1048576 numbers.
  The model's determinant, step by step. No Go in sight.
  No conditions.
  The model's determinant: the walk.
  Conditions: the matrix is a row of rows of known cells with numbers of the prime, as many as columns.
  Square matrices, in the model.
  Conditions: the arguments are nil or rows of known cells, of at most 1048576 numbers.
  Determinants, in the program and in the model.
  Conditions: the arguments are nil or rows of known cells, of at most 1048576 numbers.
-/
import Derived.Test.YtndneccgomfkdaaGreatQi34
import Derived.Deep.RegionHeld3
import Derived.Deep.DeepCutAuto
import Derived.Test.YtndneccgomfkdaaGreatQi32
import Derived.Test.YtndneccgomfkdaaGreatQi19
import Derived.Test.YtndneccgomfkdaaGreatQi20
import Derived.Test.YtndneccgomfkdaaGreatQi29
namespace Go.Proofs.YtndneccgomfkdaaGreat
open Go.RowKit
set_option linter.unusedVariables false

noncomputable def hiV (p : Int) (S x : List Int) : Bool := if stC p S [x] = 0 then invOk p S x else false
theorem full_dec {p : Int} {S x : List Int} (hs : isSp p S = true) (h4 : S.length ≤ 4) (mx : isMv p S x = true) : (((bas p (colsR p S x)).length : Int) == (bl S : Int)) = invOk p S x := by
  have h := ideal_full hs h4 mx
  cases e : invOk p S x with
  | true =>
    have h1 := h.2 e
    rw [h1]; simp
  | false =>
    have h1 : ¬ (bas p (colsR p S x)).length = bl S := fun k => by rw [h.1 k] at e; cases e
    rw [beq_eq_false_iff_ne]
    omega
set_option maxRecDepth 100000 in
set_option maxHeartbeats 3200000 in
theorem impl_HasInverse (pS : Int) (aS : Option Addr) (S : List Int) (cS loS tpS : Nat) (ax : Option Addr) (x : List Int) (cx lox tpx : Nat) (w : World) (hS : RowIn loS tpS w aS S) (tS : tpS ≤ w.heap.size) (sS : S.length ≤ 1048576) (hx : RowIn lox tpx w ax x) (tx : tpx ≤ w.heap.size) (sx : x.length ≤ 1048576) :
    Calls Tryz.prog 12 #[.agg #[.int .i64 pS, .slice aS S.length cS], .slice ax x.length cx] w (RetB (hiV pS S x) (stC pS S [x]) w) := by
  have HS := Lib.hid hS
  have Hx := Lib.hid hx
  have k0 := nw0 w (.int .i64 pS) (.slice aS S.length cS) 26
  have k1 := nw1 w (.int .i64 pS) (.slice aS S.length cS) 26
  have HB0 := Lib.hid (below_alloc w (.cells #[.int .i64 pS, .slice aS S.length cS] 26))
  clear hS hx
  by_cases h0 : stC pS S [x] = 0
  · have HC0 := Lib.hid h0
    have hz := stC_one h0
    have HI := Lib.hid hz.1
    have HMX := Lib.hid hz.2.1
    have H4 := Lib.hid hz.2.2
    have HV : Hid (hiV pS S x = invOk pS S x) := if_pos h0
    have h6 := (isSp_iff.1 hz.1).hi
    clear h0 hz
    have fv := field_ech
    have HL := Lib.hid (isL_iff.2 (colsR_lst HI.out H4.out x 0 (Nat.zero_le _)))
    have HD := Lib.hid (full_dec HI.out H4.out HMX.out)
    go_enter Tryz.func12, Tryz.ntmps12
    go_upto_region 1 with fail
    obtain ⟨w1, hw1⟩ : ∃ z, z = w.alloc (.cells #[.int .i64 pS, .slice aS S.length cS] 26) := ⟨_, rfl⟩
    rw [← hw1] at HB0 k0 k1 ⊢
    have hd1 : w.heap.size < w1.heap.size := by rw [hw1]; simp
    have HB1 := HB0
    clear hw1
    have SS1 := Lib.hid (And.intro k0 k1)
    go_wp2_with (go_at_call 41; ((with_reducible refine (checkS1 pS aS S cS loS tpS ax x cx lox tpx _ _ w1 _ rfl (HS.out.below HB1.out tS) (Nat.le_trans tS HB1.out.size) sS (Hx.out.below HB1.out tx) (Nat.le_trans tx HB1.out.size) sx).mono ?_); rintro e w2 ⟨rfl, b_⟩; rw [HC0.out]; have b2_ := below_step (below_alloc w1 (.cells #[.slice ax x.length cx] 24)) (size_alloc w1 (.cells #[.slice ax x.length cx] 24)) b_; have SS2 := Lib.hid (ss2 b2_ hd1 SS1.out); have HB2 := Lib.hid (below_step HB1.out HB1.out.size b2_); have hd2 := Nat.lt_of_lt_of_le hd1 b2_.size; clear k0 k1; obtain ⟨k0, k1⟩ := SS2.out; clear b_ b2_))
    have hs1 : Hid (w2.drew.cell? ⟨w.heap.size, 0, none⟩ = some (.int .i64 pS) ∧ w2.drew.cell? ⟨w.heap.size, 1, none⟩ = some (.slice aS S.length cS)) := SS2.out
    have HBD : Hid (Below w.heap.size w w2.drew) := HB2.out.drew
    have hdd : w.heap.size < w2.drew.heap.size := hd2
    go_region_held3 (fun w' => w'.cell? ⟨w.heap.size, 0, none⟩ = some (.int .i64 pS) ∧ w'.cell? ⟨w.heap.size, 1, none⟩ = some (.slice aS S.length cS)) (first | exact hs1.out | exact SSa.out | exact SSab.out | exact SSabc.out | go_keep) (first | (go_at_call 44; (with_reducible refine (rightProducts_own pS aS S cS loS tpS ax x cx lox tpx w2.drew HI.out (HS.out.below HBD.out tS) (Nat.le_trans tS (HBD.out).size) (Hx.out.below HBD.out tx) (Nat.le_trans tx (HBD.out).size) HMX.out).mono ?_); rintro e wa ⟨ra, ka, rfl, o_, b_⟩; have SSa := Lib.hid (ss2 b_ hdd hs1.out); have HBa := Lib.hid (below_step HBD.out (Nat.le_of_lt hdd) b_); have zz_ := b_.size; have hda := Nat.lt_of_lt_of_le hdd zz_; have Ma_a := Lib.hid (o_.mat.mono (Nat.le_of_lt hdd) (Nat.le_refl _)); clear b_ o_) | (go_at_call 43; (with_reducible refine (elimO pS ra (colsR pS S x) ka w.heap.size wa.heap.size wa Ma_a.out (Nat.le_refl _) HL.out).mono ?_); rintro e wab ⟨rb, kb, vb, db, rfl, o_, b_⟩; have SSab := Lib.hid (ss2 b_ hda SSa.out); have HBab := Lib.hid (below_step HBa.out (Nat.le_of_lt hda) b_); have zz_ := b_.size; have hdab := Nat.lt_of_lt_of_le hda zz_; have Ma_ab := Lib.hid ((Ma_a.out.below b_ (Nat.le_refl _)).mono (Nat.le_refl _) zz_); have Mb_ab := Lib.hid (o_.mat.mono (Nat.le_of_lt hda) (Nat.le_refl _)); clear b_ o_) | (go_at_call 45; (with_reducible refine (blades_any pS aS S cS wab h6).mono ?_); rintro e wabc ⟨rfl, b_⟩; have SSabc := Lib.hid (ss2 b_ hdab SSab.out); have HBabc := Lib.hid (below_step HBab.out (Nat.le_of_lt hdab) b_); have zz_ := b_.size; have hdabc := Nat.lt_of_lt_of_le hdab zz_; have Ma_abc := Lib.hid ((Ma_ab.out.below b_ (Nat.le_refl _)).mono (Nat.le_refl _) zz_); have Mb_abc := Lib.hid ((Mb_ab.out.below b_ (Nat.le_refl _)).mono (Nat.le_refl _) zz_); clear b_))
    all_goals
      go_wp2
      go_ret2
      exact ⟨by rw [HV.out, HC0.out, ← HD.out]; rfl, HBabc.out⟩
  · have HV : Hid (hiV pS S x = false) := if_neg h0
    obtain ⟨C, hC⟩ : ∃ c, c = stC pS S [x] := ⟨_, rfl⟩
    have hc1 : (C != 0) = true := by rw [hC]; simpa using h0
    have hc2 : (C == 0) = false := by rw [hC]; simpa using h0
    have HCE := Lib.hid hC
    clear hC
    clear h0
    go_enter Tryz.func12, Tryz.ntmps12
    go_upto_region 1 with fail
    obtain ⟨w1, hw1⟩ : ∃ z, z = w.alloc (.cells #[.int .i64 pS, .slice aS S.length cS] 26) := ⟨_, rfl⟩
    rw [← hw1] at HB0 k0 k1 ⊢
    have hd1 : w.heap.size < w1.heap.size := by rw [hw1]; simp
    have HB1 := HB0
    clear hw1
    have SS1 := Lib.hid (And.intro k0 k1)
    go_wp2_with (go_at_call 41; ((with_reducible refine (checkS1 pS aS S cS loS tpS ax x cx lox tpx _ _ w1 _ rfl (HS.out.below HB1.out tS) (Nat.le_trans tS HB1.out.size) sS (Hx.out.below HB1.out tx) (Nat.le_trans tx HB1.out.size) sx).mono ?_); rintro e w2 ⟨rfl, b_⟩; rw [← HCE.out]; have b2_ := below_step (below_alloc w1 (.cells #[.slice ax x.length cx] 24)) (size_alloc w1 (.cells #[.slice ax x.length cx] 24)) b_; have SS2 := Lib.hid (ss2 b2_ hd1 SS1.out); have HB2 := Lib.hid (below_step HB1.out HB1.out.size b2_); have hd2 := Nat.lt_of_lt_of_le hd1 b2_.size; clear k0 k1; obtain ⟨k0, k1⟩ := SS2.out; clear b_ b2_))
    go_ret2
    rw [HV.out, ← HCE.out]
    exact ⟨rfl, HB2.out⟩

end Go.Proofs.YtndneccgomfkdaaGreat

namespace Go.Proofs.YtndneccgomfkdaaGreat
set_option linter.unusedVariables false

theorem dt_addall {n l r : Nat} (hl : l < n) (hr : r ≤ n) (f : Nat → Nat → Int) (x : Nat → Int) : dt n (fun i => if i < r ∧ i ≠ l then fun j => f i j + x i * f l j else f i) = dt n f := by
  induction r with
  | zero => exact dt_congr (fun i _ j _ => by rw [if_neg (by omega)])
  | succ r ih =>
    rw [← ih (by omega)]
    by_cases e : r = l
    · apply dt_congr
      intro i _ j _
      by_cases h : i < r ∧ i ≠ l
      · rw [if_pos (by omega)]
        show f i j + x i * f l j = (if i < r ∧ i ≠ l then fun j => f i j + x i * f l j else f i) j
        rw [if_pos h]
      · rw [if_neg (by omega)]
        show f i j = (if i < r ∧ i ≠ l then fun j => f i j + x i * f l j else f i) j
        rw [if_neg h]
    · have h := dt_addrow (k := r) (l := l) (by omega) hl e (fun i => if i < r ∧ i ≠ l then fun j => f i j + x i * f l j else f i) (x r)
      rw [← h]
      apply dt_congr
      intro i _ j _
      unfold upd
      by_cases e' : i = r
      · subst e'; rw [if_pos (by omega), if_pos rfl, if_neg (by omega), if_neg (by omega)]
      · rw [if_neg e']
        by_cases h' : i < r ∧ i ≠ l
        · rw [if_pos (by omega)]
          show f i j + x i * f l j = (if i < r ∧ i ≠ l then fun j => f i j + x i * f l j else f i) j
          rw [if_pos h']
        · rw [if_neg (by omega)]
          show f i j = (if i < r ∧ i ≠ l then fun j => f i j + x i * f l j else f i) j
          rw [if_neg h']

/-- Where the model's determinant stands: k columns are done. -/
structure DetAt (p : Int) (n : Nat) (A m : List (List Int)) (k : Nat) (out : Int) : Prop where
  ml : m.length = n
  kn : k ≤ n
  len : ∀ i, i < n → (rw' m i).length = n
  rng : ∀ i, i < n → ∀ j, j < n → 0 ≤ at' m i j ∧ at' m i j < p
  ob : 0 ≤ out ∧ out < p
  val : detP p A = out * dt (n - k) (fun r c => at' m (k + r) (k + c)) % p
theorem DetAt.start {p : Int} {A : List (List Int)} (hp : prm p = true) (hl : ∀ i, i < A.length → (rw' A i).length = A.length) (hr : ∀ i, i < A.length → ∀ j, j < A.length → 0 ≤ at' A i j ∧ at' A i j < p) : DetAt p A.length A A 0 1 where
  ml := rfl
  kn := Nat.zero_le _
  len := hl
  rng := hr
  ob := by have := prm_bd hp; omega
  val := by
    rw [Int.one_mul]
    unfold detP
    congr 1
    exact dt_congr (fun i _ j _ => by rw [Nat.zero_add, Nat.zero_add])
theorem DetAt.done {p : Int} {n : Nat} {A m : List (List Int)} {out : Int} (h : DetAt p n A m n out) : detP p A = out := by
  rw [h.val, Nat.sub_self]
  show out * 1 % p = out
  rw [Int.mul_one]
  exact Int.emod_eq_of_lt h.ob.1 h.ob.2
theorem DetAt.none {p : Int} {n : Nat} {A m : List (List Int)} {k : Nat} {out : Int} (h : DetAt p n A m k out) (hk : k < n) (hz : ∀ i, k ≤ i → i < n → at' m i k = 0) : detP p A = 0 := by
  obtain ⟨q, hq⟩ : ∃ q, n - k = q + 1 := ⟨n - k - 1, by omega⟩
  rw [h.val, hq, dt_col0 (fun i hi => hz (k + i) (by omega) (by omega)), Int.mul_zero]
  rfl
theorem elim_zero {p a v x : Int} (h : v * x % p = 1 % p) : (a + (p - a) * v % p * x) % p = 0 := by
  have e : (p - a) * v % p * x % p = (p - a) % p := by
    rw [emod_mul, Int.mul_assoc, ← mul_emod_r, h, mul_emod_r, Int.mul_one]
  rw [Int.add_emod, e, ← Int.add_emod]
  have : a + (p - a) = p := by omega
  rw [this, Int.emod_self]
theorem DetAt.step {p : Int} {n : Nat} {A m m2 : List (List Int)} {k : Nat} {out : Int} (hp : prm p = true) (h : DetAt p n A m k out) (hk : k < n) (hx : 1 ≤ at' m k k) (hn2 : m2.length = n) (hl2 : ∀ i, i < n → (rw' m2 i).length = n)
    (h2 : ∀ i, i < n → ∀ j, j < n → at' m2 i j = if k < i then (at' m i j + (p - at' m i k) * inv p (at' m k k) % p * at' m k j) % p else at' m i j) : DetAt p n A m2 (k + 1) (out * at' m k k % p) := by
  have hxr := h.rng k hk k hk
  have hinv := inv_mul hp hx hxr.2
  have hpb := prm_bd hp
  obtain ⟨q, hq⟩ : ∃ q, n - k = q + 1 := ⟨n - k - 1, by omega⟩
  have hq1 : n - (k + 1) = q := by omega
  refine ⟨hn2, hk, hl2, fun i hi j hj => ?_, mod_bd hp _, ?_⟩
  · rw [h2 i hi j hj]
    split
    · exact mod_bd hp _
    · exact h.rng i hi j hj
  · rw [h.val, hq, hq1]
    have e1 := dt_addall (n := q + 1) (l := 0) (r := q + 1) (by omega) (Nat.le_refl _) (fun r c => at' m (k + r) (k + c)) (fun r => (p - at' m (k + r) k) * inv p (at' m k k) % p)
    have e2 : dt (q + 1) (fun r c => at' m (k + r) (k + c)) % p = dt (q + 1) (fun r c => at' m2 (k + r) (k + c)) % p := by
      rw [← e1]
      apply dt_mod
      intro i hi j hj
      rw [h2 (k + i) (by omega) (k + j) (by omega)]
      by_cases e : i = 0
      · subst e
        rw [if_neg (by omega), if_neg (by omega)]
      · rw [if_pos (by omega), if_pos (by omega), Int.emod_emod, Nat.add_zero]
    have e3 : dt (q + 1) (fun r c => at' m2 (k + r) (k + c)) = at' m k k * dt q (fun r c => at' m2 (k + 1 + r) (k + 1 + c)) := by
      rw [dt_col (fun i h1 hi => by
        show at' m2 (k + i) (k + 0) = 0
        rw [h2 _ (by omega) _ (by omega), if_pos (by omega)]
        exact elim_zero (by rw [Nat.add_zero, Int.mul_comm, hinv, Int.emod_eq_of_lt (by omega) (by omega)]))]
      have e4 : at' m2 (k + 0) (k + 0) = at' m k k := by rw [h2 _ (by omega) _ (by omega), if_neg (by omega)]; rfl
      rw [e4]
      congr 1
      apply dt_congr
      intro i _ j _
      have a1 : k + (i + 1) = k + 1 + i := by omega
      have a2 : k + (j + 1) = k + 1 + j := by omega
      show at' m2 (k + (i + 1)) (k + (j + 1)) = _
      rw [a1, a2]
    rw [Int.mul_emod, e2, ← Int.mul_emod, e3, emod_mul, Int.mul_assoc]

/-- The rows below row k, up to i, are reduced. -/
def rowD (p : Int) (m : List (List Int)) (k i j : Nat) : List Int := if k < j ∧ j < i then plusR p (rw' m j) (rw' m k) ((p - at' m j k) * inv p (at' m k k) % p) else rw' m j
def rowsD (p : Int) (m : List (List Int)) (k i : Nat) : List (List Int) := (List.range m.length).map (rowD p m k i)
theorem rowsD_len (p : Int) (m : List (List Int)) (k i : Nat) : (rowsD p m k i).length = m.length := by simp [rowsD]
theorem rowsD_row {p : Int} {m : List (List Int)} {k i j : Nat} (h : j < m.length) : rw' (rowsD p m k i) j = rowD p m k i j := by simp [rowsD, rw', List.getD, h]
theorem DetAt.rows {p : Int} {n : Nat} {A m : List (List Int)} {k : Nat} {out : Int} (hp : prm p = true) (h : DetAt p n A m k out) (hk : k < n) (hx : 1 ≤ at' m k k) : DetAt p n A (rowsD p m k n) (k + 1) (out * at' m k k % p) := by
  have hn := h.ml
  have hrow : ∀ i, i < n → rw' (rowsD p m k n) i = rowD p m k n i := fun i hi => rowsD_row (by omega)
  refine h.step hp hk hx (by rw [rowsD_len, hn]) (fun i hi => ?_) (fun i hi j hj => ?_)
  · rw [hrow i hi]
    unfold rowD
    split
    · unfold plusR; rw [mkR_len]; exact h.len i hi
    · exact h.len i hi
  · show (rw' (rowsD p m k n) i).getD j 0 = _
    rw [hrow i hi]
    unfold rowD
    by_cases e : k < i
    · rw [if_pos ⟨e, hi⟩, if_pos e]
      unfold plusR
      rw [mkR_at _ (by rw [h.len i hi]; exact hj)]
      rfl
    · rw [if_neg (by omega), if_neg e]; rfl

end Go.Proofs.YtndneccgomfkdaaGreat

namespace Go.Proofs.YtndneccgomfkdaaGreat
open Go.RowKit
set_option linter.unusedVariables false

theorem sq_yes {p : Int} {m : List (List Int)} (h : isM p m = true) (k : m.length = (rw' m 0).length) : sqC p m = 0 := by unfold sqC; rw [if_pos h, if_pos k]
theorem sq_no {p : Int} {m : List (List Int)} (h : isM p m = true) (k : ¬ m.length = (rw' m 0).length) : sqC p m = 2 := by unfold sqC; rw [if_pos h, if_neg k]
theorem sq_not {p : Int} {m : List (List Int)} (h : isM p m = false) : sqC p m = 1 := by unfold sqC; rw [if_neg (by simp [h])]
theorem sq_cases (p : Int) (m : List (List Int)) : (sqC p m = 0 ∧ Lst 1 p m ∧ m.length = (rw' m 0).length) ∨ sqC p m ≠ 0 := by
  by_cases h : isM p m = true
  · by_cases k : m.length = (rw' m 0).length
    · exact .inl ⟨sq_yes h k, isL_iff.1 h, k⟩
    · right; rw [sq_no h k]; simp
  · right; rw [sq_not (by simpa using h)]; simp

end Go.Proofs.YtndneccgomfkdaaGreat

namespace Go.Proofs.YtndneccgomfkdaaGreat
open Go.RowKit Go.ChangeShapes Go.WideShapes
set_option linter.unusedVariables false

def detV (p : Int) (m : List (List Int)) : Int := if sqC p m = 0 then detP p m else 0
theorem field_ech2 (x y z : Value) (w : World) : (Instr.field 66 (.agg #[x, y, z]) 2).run Tryz.prog w = .ok z w := by kernel_rfl
theorem sqM {p : Int} {m : List (List Int)} (h : Lst 1 p m) : isL 0 p m = true := isL_iff.2 { h with lo := Nat.zero_le _ }
/-- What elimination tells of a square matrix: as many rows as columns and the determinant, or fewer and 0. -/
def ElimD (p : Int) (A : List (List Int)) (w : World) (e : Ending) (w' : World) : Prop :=
  ∃ ar cr ap cp dd, e = .returned (.agg #[.slice ar (bas p A).length cr, .slice ap (bas p A).length cp, .int .i64 dd]) ∧ ((bas p A).length < A.length → detP p A = 0) ∧ (¬ (bas p A).length < A.length → detP p A = dd) ∧ Below w.heap.size w w'
theorem elimD (p : Int) (a : Option Addr) (A : List (List Int)) (ca lo tp : Nat) (w : World) (hm : MatIn lo tp w a A) (ht : tp ≤ w.heap.size) (hA : Lst 1 p A) (hq : A.length = (rw' A 0).length) :
    Calls Tryz.prog 43 #[.int .i64 p, .slice a A.length ca] w (ElimD p A w) := by
  refine (elimL p a A ca lo tp w hm ht (sqM hA)).mono ?_
  rintro e w' ⟨P, d, dd, ar, ap, cr, cp, kb, c, RB, RO, RC, rfl, hE, hM, hB, hk, hd⟩
  obtain ⟨rfl, hc⟩ := hd hA.lo
  refine ⟨ar, cr, _, _, dd, rfl, ?_, ?_, hB⟩ <;> rcases hM.value hA.prime (by rw [hc]; exact hq) with ⟨h1, h2, _⟩ | ⟨h1, h2⟩
  · intro h; omega
  · exact fun _ => h2
  · exact fun _ => h2
  · intro h; omega

set_option maxRecDepth 100000 in
set_option maxHeartbeats 1600000 in
theorem impl_Determinant (p : Int) (am : Option Addr) (m : List (List Int)) (cm lom tpm : Nat) (w : World) (hm : MatIn lom tpm w am m) (tm : tpm ≤ w.heap.size) (sm' : m.length + tot m m.length ≤ 1048576) :
    Calls Tryz.prog 11 #[.int .i64 p, .slice am m.length cm] w (RetI (detV p m) (sqC p m) w) := by
  have Hm := Lib.hid hm
  have Sm := Lib.hid sm'
  have fv := field_ech
  have fv2 := field_ech2
  clear hm sm'
  rcases sq_cases p m with ⟨h1, h2, h3⟩ | h1
  · have HC := Lib.hid h1
    have HV : Hid (detV p m = detP p m) := by show _ = _; unfold detV; rw [if_pos h1]
    have L1 := Lib.hid h2
    have HE := Lib.hid h3
    have hn := h2.hi
    clear h1 h2 h3
    obtain ⟨bl, hbl⟩ : ∃ x, x = (bas p m).length := ⟨_, rfl⟩
    have HBL := Lib.hid hbl
    clear hbl
    by_cases hlt : bl < m.length
    · have g1 : (bl : Int) < (m.length : Int) := by omega
      go_enter Tryz.func11, Tryz.ntmps11
      go_wp2_with (first | (go_at_call 42; (with_reducible refine (checkSquare_any p _ m _ lom tpm w Hm.out tm Sm.out).mono ?_); rintro e w1 ⟨rfl, hb⟩; rw [HC.out]; have HB := Lib.hid hb; clear hb) | (go_at_call 43; (with_reducible refine (elimD p _ m _ lom tpm w1 (Hm.out.below HB.out tm) (Nat.le_trans tm HB.out.size) L1.out HE.out).mono ?_); rintro e w2 ⟨r2, k2, ap, cp, dd, rfl, ha, hb, hb2⟩; have HB2 := Lib.hid (HB.out.trans (hb2.mono HB.out.size)); clear hb2; have HD := Lib.hid (ha (by rw [← HBL.out]; exact hlt)); rw [← HBL.out]; clear ha hb))
      go_ret2
      exact ⟨by rw [HV.out, HC.out, HD.out]; rfl, HB2.out.alloc (by have := HB2.out.size; omega) _⟩
    · have g1 : ¬ (bl : Int) < (m.length : Int) := by omega
      go_enter Tryz.func11, Tryz.ntmps11
      go_wp2_with (first | (go_at_call 42; (with_reducible refine (checkSquare_any p _ m _ lom tpm w Hm.out tm Sm.out).mono ?_); rintro e w1 ⟨rfl, hb⟩; rw [HC.out]; have HB := Lib.hid hb; clear hb) | (go_at_call 43; (with_reducible refine (elimD p _ m _ lom tpm w1 (Hm.out.below HB.out tm) (Nat.le_trans tm HB.out.size) L1.out HE.out).mono ?_); rintro e w2 ⟨r2, k2, ap, cp, dd, rfl, ha, hb, hb2⟩; have HB2 := Lib.hid (HB.out.trans (hb2.mono HB.out.size)); clear hb2; have HD := Lib.hid (hb (by rw [← HBL.out]; exact hlt)); rw [← HBL.out]; clear ha hb))
      go_ret2
      exact ⟨by rw [HV.out, HC.out, HD.out]; rfl, HB2.out.alloc (by have := HB2.out.size; omega) _⟩
  · have e1 : (sqC p m == 0) = false := by simpa using h1
    have e2 : (sqC p m != 0) = true := by simpa using h1
    have HV : Hid (detV p m = 0) := by show _ = _; unfold detV; rw [if_neg h1]
    obtain ⟨q, hq0⟩ : ∃ q, q = sqC p m := ⟨_, rfl⟩
    have HQ0 := Lib.hid hq0
    rw [← hq0] at e1 e2
    rw [← hq0]
    clear h1 hq0
    go_enter Tryz.func11, Tryz.ntmps11
    go_wp2_with (go_at_call 42; (with_reducible refine (checkSquare_any p _ m _ lom tpm w Hm.out tm Sm.out).mono ?_); rintro e w1 ⟨rfl, hb⟩; rw [← HQ0.out]; have HB := Lib.hid hb; clear hb)
    go_ret2
    exact ⟨by rw [HV.out]; rfl, HB.out⟩

end Go.Proofs.YtndneccgomfkdaaGreat
