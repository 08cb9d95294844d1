/-
  BracketOf: contracts of the program and of the model.
  Conditions: the lists are nil or rows of known cells, of at most 1048576 numbers.
  Bivectors and their matrices: the definitions of chapter 10's answers, and what a matrix of a bivector is. No Go in sight.
  No conditions.
  Lists of vectors of a space, in the program and in the model.
  Conditions: the lists are nil or rows of known cells, of at most 1048576 numbers.
  WedgeOfVectors: contracts of the program and of the model.
  Conditions: the lists are nil or rows of known cells, of at most 1048576 numbers.
  The signs of those grades of which a multivector has blades: contracts of the program and of the model.
  Conditions: the lists are nil or rows of known cells, of at most 1048576 numbers.
  GradesOf: contracts of the program and of the model.
  Conditions: the lists are nil or rows of known cells, of at most 1048576 numbers.
  slices.Max and slices.Equal of lists of numbers.
  Conditions: rows of known cells, of at most 1048576 numbers.
  Versors: spinor norms, parities, what is around vectors. No Go in sight.
  No conditions.
  Two lists compared: contracts of the program and of the model.
  Conditions: the lists are nil or rows of known cells, of at most 1048576 numbers.
  IsEven: contracts of the program and of the model.
  Conditions: the lists are nil or rows of known cells, of at most 1048576 numbers.
-/
import Derived.Test.YtkibkkdeaojjoaaQb17
import Derived.Deep.RegionHeld3
import Derived.Deep.DeepCutAuto
import Derived.Test.YtkibkkdeaojjoaaQb12
import Derived.Test.YtkibkkdeaojjoaaQb20
import Derived.Test.YtkibkkdeaojjoaaQb18
import Derived.Laws.AppendOwn
import Derived.Test.YtkibkkdeaojjoaaQb9
import Derived.BigQuiet
import Derived.Test.YtkibkkdeaojjoaaQb6
import Derived.ChangeKeysEq
import Derived.Laws.StructEq
namespace Go.Proofs.Ytkibkkdeaojjoaa
open Go.RowKit
set_option linter.unusedVariables false

def brM (p : Int) (S x y : List Int) : List Int := plusR p (prodM p S x y) (prodM p S y x) (p - 1)
theorem brM_len (p : Int) (S x y : List Int) : (brM p S x y).length = bl S := by unfold brM plusR; rw [mkR_len, prodM_len]
theorem brM_eq (p : Int) (S x y : List Int) : mkR (bl S) (fun j => (prodF p S x y j + (p - 1) * (prodM p S y x).getD j 0) % p) = brM p S x y := by
  unfold brM plusR
  rw [prodM_len]
  exact mkR_congr fun j hj => by rw [prodM_at p S x y hj]

set_option maxRecDepth 100000 in
set_option maxHeartbeats 1600000 in
theorem l04Bracket_any (p : Int) (aS : Option Addr) (S : List Int) (cS loS tpS : Nat) (ax : Option Addr) (x : List Int) (cx lox tpx : Nat) (ay : Option Addr) (y : List Int) (cy loy tpy : Nat) (w : World) (hs : isSp p S = true) (hS : RowIn loS tpS w aS S) (tS : tpS ≤ w.heap.size) (hx : RowIn lox tpx w ax x) (tx : tpx ≤ w.heap.size) (mx : isMv p S x = true) (hy : RowIn loy tpy w ay y) (ty : tpy ≤ w.heap.size) (my : isMv p S y = true) :
    Calls Try.prog 89 #[.agg #[.int .i64 p, .slice aS S.length cS], .slice ax x.length cx, .slice ay y.length cy] w (OwnE (brM p S x y) w) := by
  have HS := Lib.hid hS
  have HX := Lib.hid hx
  have HY := Lib.hid hy
  have HI := Lib.hid hs
  have HMX := Lib.hid mx
  have HMY := Lib.hid my
  have hpb := prm_bd (isSp_iff.1 hs).prime
  have hbl := bl_le (isSp_iff.1 hs).hi
  have HB0 := Lib.hid (below_alloc w (.cells #[.int .i64 p, .slice aS S.length cS] 28))
  have k0 := nw0 w (.int .i64 p) (.slice aS S.length cS) 28
  have k1 := nw1 w (.int .i64 p) (.slice aS S.length cS) 28
  clear hS hx hy hs mx my
  go_enter Try.func89, Try.ntmps89
  go_upto_region 1 with fail
  obtain ⟨w1, hw1⟩ : ∃ z, z = w.alloc (.cells #[.int .i64 p, .slice aS S.length cS] 28) := ⟨_, rfl⟩
  rw [← hw1] at HB0 k0 k1 ⊢
  have hw0 : w.heap.size < w1.heap.size := by rw [hw1]; simp
  clear hw1
  have tS1 : tpS ≤ w1.heap.size := by omega
  have tx1 : tpx ≤ w1.heap.size := by omega
  have ty1 : tpy ≤ w1.heap.size := by omega
  have hp10 : 0 ≤ p - 1 := by omega
  have hp11 : p - 1 ≤ p := by omega
  have hs1 : Hid (w1.drew.cell? ⟨w.heap.size, 0, none⟩ = some (.int .i64 p) ∧ w1.drew.cell? ⟨w.heap.size, 1, none⟩ = some (.slice aS S.length cS)) := ⟨k0, k1⟩
  have HBD : Hid (Below w.heap.size w w1.drew) := HB0.out.drew
  have hd0 : w.heap.size < w1.drew.heap.size := hw0
  have tSd : tpS ≤ w1.drew.heap.size := tS1
  have txd : tpx ≤ w1.drew.heap.size := tx1
  have tyd : tpy ≤ w1.drew.heap.size := ty1
  have e1 : IntKind.i64.wrap (p - 1) = p - 1 := IntWalk.i64_in _ (by omega)
  have HLE : Hid ((prodM p S x y).length ≤ (prodM p S y x).length) := by show _ ≤ _; rw [prodM_len, prodM_len]; exact Nat.le_refl _
  have HSZ : Hid ((prodM p S x y).length ≤ 1048576) := by show _ ≤ _; rw [prodM_len]; omega
  go_region_held3 (fun w' => w'.cell? ⟨w.heap.size, 0, none⟩ = some (.int .i64 p) ∧ w'.cell? ⟨w.heap.size, 1, none⟩ = some (.slice aS S.length cS)) (first | go_keep | exact SS5.out | exact SS6.out | exact SS7.out) (first | (go_at_call 107; (with_reducible refine (times_own p aS S cS loS tpS ax x cx lox tpx ay y cy loy tpy w1.drew HI.out (HS.out.below HBD.out tS) tSd (HX.out.below HBD.out tx) txd HMX.out (HY.out.below HBD.out ty) tyd HMY.out).mono ?_); rintro e w5 ⟨rxy, cxy, rfl, o5, b5⟩; have H5xy := Lib.hid o5.row; have B5 := Lib.hid b5; have z5 := b5.size; have SS5 := Lib.hid (And.intro ((B5.out.cell (p := ⟨w.heap.size, 0, none⟩) hd0).trans hs1.out.1) ((B5.out.cell (p := ⟨w.heap.size, 1, none⟩) hd0).trans hs1.out.2)); have HB5 := Lib.hid (HBD.out.trans (B5.out.mono HBD.out.size)); have tS5 := Nat.le_trans tSd z5; have tx5 := Nat.le_trans txd z5; have ty5 := Nat.le_trans tyd z5; have hd5 := Nat.lt_of_lt_of_le hd0 z5; clear o5 b5) | (go_at_call 107; (with_reducible refine (times_own p aS S cS loS tpS ay y cy loy tpy ax x cx lox tpx w1.drew HI.out (HS.out.below HBD.out tS) tSd (HY.out.below HBD.out ty) tyd HMY.out (HX.out.below HBD.out tx) txd HMX.out).mono ?_); rintro e w5 ⟨ryx, cyx, rfl, o5, b5⟩; have H5yx := Lib.hid o5.row; have B5 := Lib.hid b5; have z5 := b5.size; have SS5 := Lib.hid (And.intro ((B5.out.cell (p := ⟨w.heap.size, 0, none⟩) hd0).trans hs1.out.1) ((B5.out.cell (p := ⟨w.heap.size, 1, none⟩) hd0).trans hs1.out.2)); have HB5 := Lib.hid (HBD.out.trans (B5.out.mono HBD.out.size)); have tS5 := Nat.le_trans tSd z5; have tx5 := Nat.le_trans txd z5; have ty5 := Nat.le_trans tyd z5; have hd5 := Nat.lt_of_lt_of_le hd0 z5; clear o5 b5) | (go_at_call 107; (with_reducible refine (times_own p aS S cS loS tpS ax x cx lox tpx ay y cy loy tpy w5 HI.out (HS.out.below HB5.out tS) tS5 (HX.out.below HB5.out tx) tx5 HMX.out (HY.out.below HB5.out ty) ty5 HMY.out).mono ?_); rintro e w6 ⟨rxy, cxy, rfl, o6, b6⟩; have B6 := Lib.hid b6; have z6 := b6.size; have HXY := Lib.hid (o6.row.mono HB5.out.size (Nat.le_refl _)); have HYX := Lib.hid ((H5yx.out.below B6.out (Nat.le_refl _)).mono HBD.out.size z6); have SS6 := Lib.hid (And.intro ((B6.out.cell (p := ⟨w.heap.size, 0, none⟩) hd5).trans SS5.out.1) ((B6.out.cell (p := ⟨w.heap.size, 1, none⟩) hd5).trans SS5.out.2)); have HB6 := Lib.hid (HB5.out.trans (B6.out.mono HB5.out.size)); have hd6 := Nat.lt_of_lt_of_le hd5 z6; clear o6 b6) | (go_at_call 107; (with_reducible refine (times_own p aS S cS loS tpS ay y cy loy tpy ax x cx lox tpx w5 HI.out (HS.out.below HB5.out tS) tS5 (HY.out.below HB5.out ty) ty5 HMY.out (HX.out.below HB5.out tx) tx5 HMX.out).mono ?_); rintro e w6 ⟨ryx, cyx, rfl, o6, b6⟩; have B6 := Lib.hid b6; have z6 := b6.size; have HYX := Lib.hid (o6.row.mono HB5.out.size (Nat.le_refl _)); have HXY := Lib.hid ((H5xy.out.below B6.out (Nat.le_refl _)).mono HBD.out.size z6); have SS6 := Lib.hid (And.intro ((B6.out.cell (p := ⟨w.heap.size, 0, none⟩) hd5).trans SS5.out.1) ((B6.out.cell (p := ⟨w.heap.size, 1, none⟩) hd5).trans SS5.out.2)); have HB6 := Lib.hid (HB5.out.trans (B6.out.mono HB5.out.size)); have hd6 := Nat.lt_of_lt_of_le hd5 z6; clear o6 b6) | (go_at_call 106; (with_reducible refine (l02Plus_any p (p - 1) rxy ryx (prodM p S x y) (prodM p S y x) cxy cyx w.heap.size w6.heap.size w.heap.size w6.heap.size w6 (isSp_iff.1 HI.out).prime HXY.out HYX.out (Nat.le_refl _) (Nat.le_refl _) HLE.out HSZ.out (Mv.num (prod_mv HI.out x y)) (Mv.num (prod_mv HI.out y x)) hp10 hp11).mono ?_); rintro e w7 ⟨r7, c7, rfl, o7, b7⟩; have O7 := Lib.hid o7; have B7 := Lib.hid b7; have SS7 := Lib.hid (And.intro ((B7.out.cell (p := ⟨w.heap.size, 0, none⟩) hd6).trans SS6.out.1) ((B7.out.cell (p := ⟨w.heap.size, 1, none⟩) hd6).trans SS6.out.2)); clear o7 b7))
  all_goals
    go_wp2
    go_ret
    exact ⟨r7, c7, rfl, OwnR.mono' O7.out.own HB6.out.size (Nat.le_refl _), HB6.out.trans (B7.out.mono HB6.out.size)⟩

set_option maxRecDepth 100000 in
set_option maxHeartbeats 1600000 in
theorem bracket_any (p : Int) (aS : Option Addr) (S : List Int) (cS loS tpS : Nat) (ax : Option Addr) (x : List Int) (cx lox tpx : Nat) (ay : Option Addr) (y : List Int) (cy loy tpy : Nat) (w : World) (hs : isSp p S = true) (hS : RowIn loS tpS w aS S) (tS : tpS ≤ w.heap.size) (hx : RowIn lox tpx w ax x) (tx : tpx ≤ w.heap.size) (mx : isMv p S x = true) (hy : RowIn loy tpy w ay y) (ty : tpy ≤ w.heap.size) (my : isMv p S y = true) :
    Calls Try.prog 92 #[.agg #[.int .i64 p, .slice aS S.length cS], .slice ax x.length cx, .slice ay y.length cy] w (OwnE (brM p S x y) w) := by
  have HS := Lib.hid hS
  have HX := Lib.hid hx
  have HY := Lib.hid hy
  have HI := Lib.hid hs
  have HMX := Lib.hid mx
  have HMY := Lib.hid my
  have hpb := prm_bd (isSp_iff.1 hs).prime
  have hbl := bl_le (isSp_iff.1 hs).hi
  have HB0 := Lib.hid (below_alloc w (.cells #[.int .i64 p, .slice aS S.length cS] 28))
  have k0 := nw0 w (.int .i64 p) (.slice aS S.length cS) 28
  have k1 := nw1 w (.int .i64 p) (.slice aS S.length cS) 28
  clear hS hx hy hs mx my
  go_enter Try.func92, Try.ntmps92
  go_upto_region 1 with fail
  obtain ⟨w1, hw1⟩ : ∃ z, z = w.alloc (.cells #[.int .i64 p, .slice aS S.length cS] 28) := ⟨_, rfl⟩
  rw [← hw1] at HB0 k0 k1 ⊢
  have hw0 : w.heap.size < w1.heap.size := by rw [hw1]; simp
  clear hw1
  have tS1 : tpS ≤ w1.heap.size := by omega
  have tx1 : tpx ≤ w1.heap.size := by omega
  have ty1 : tpy ≤ w1.heap.size := by omega
  have hp10 : 0 ≤ p - 1 := by omega
  have hp11 : p - 1 ≤ p := by omega
  go_upto_region 2 with (go_at_call 109; (with_reducible refine (product_any p aS S cS loS tpS ax x cx lox tpx ay y cy loy tpy w1 (isSp_iff.1 HI.out).prime (isSp_iff.1 HI.out).hi (HS.out.below HB0.out tS) tS1 (sp_nums HI.out) (HX.out.below HB0.out tx) tx1 (Mv.len HMX.out) (Mv.nums HMX.out) (HY.out.below HB0.out ty) ty1 (Mv.len HMY.out) (Mv.nums HMY.out)).mono ?_); rintro e w2 ⟨b2, rfl, l2, u2, o2, q2⟩; have O2 := Lib.hid o2; have B2 := Lib.hid q2; have z2 := q2.size; clear o2 q2)
  have k02 := (B2.out.cell (p := ⟨w.heap.size, 0, none⟩) hw0).trans k0
  have k12 := (B2.out.cell (p := ⟨w.heap.size, 1, none⟩) hw0).trans k1
  have hs1 : Hid (w2.drew.cell? ⟨w.heap.size, 0, none⟩ = some (.int .i64 p) ∧ w2.drew.cell? ⟨w.heap.size, 1, none⟩ = some (.slice aS S.length cS)) := ⟨k02, k12⟩
  clear k0 k1
  have HBW : Hid (Below w.heap.size w w2) := HB0.out.trans (B2.out.mono (by omega))
  have HBD : Hid (Below w.heap.size w w2.drew) := HBW.out.drew
  have hd0 : w.heap.size < w2.drew.heap.size := by show w.heap.size < w2.heap.size; omega
  have tSd : tpS ≤ w2.drew.heap.size := by show tpS ≤ w2.heap.size; omega
  have txd : tpx ≤ w2.drew.heap.size := by show tpx ≤ w2.heap.size; omega
  have tyd : tpy ≤ w2.drew.heap.size := by show tpy ≤ w2.heap.size; omega
  have hu2 : b2 < w2.drew.heap.size := u2
  have nb2 : w.heap.size ≠ b2 := by omega
  have e1 : IntKind.i64.wrap (p - 1) = p - 1 := IntWalk.i64_in _ (by omega)
  have HFB : Hid (∀ j, j < bl S → 0 ≤ prodF p S x y j ∧ prodF p S x y j < p) := fun j _ => prodF_bd (by omega) S x y j
  have HLE : Hid (bl S ≤ (prodM p S y x).length) := by show _ ≤ _; rw [prodM_len]; exact Nat.le_refl _
  have HLN : Hid ((prodM p S y x).length ≤ 100000) := by show _ ≤ _; rw [prodM_len]; omega
  go_region_held3 (fun w' => w'.cell? ⟨w.heap.size, 0, none⟩ = some (.int .i64 p) ∧ w'.cell? ⟨w.heap.size, 1, none⟩ = some (.slice aS S.length cS)) (first | go_keep | exact SS5.out | exact SS6.out) (first | (go_at_call 109; (with_reducible refine (product_own p aS S cS loS tpS ay y cy loy tpy ax x cx lox tpx w2.drew HI.out (HS.out.below HBD.out tS) tSd (HY.out.below HBD.out ty) tyd HMY.out (HX.out.below HBD.out tx) txd HMX.out).mono ?_); rintro e w5 ⟨r5, c5, rfl, o5, b5⟩; have O5 := Lib.hid o5; have B5 := Lib.hid b5; have z5 := b5.size; have SS5 := Lib.hid (And.intro ((B5.out.cell (p := ⟨w.heap.size, 0, none⟩) hd0).trans hs1.out.1) ((B5.out.cell (p := ⟨w.heap.size, 1, none⟩) hd0).trans hs1.out.2)); have O25 := Lib.hid (O2.out.stay (B5.out.block b2 hu2)); clear o5 b5) | (go_at_call 110; (with_reducible refine (addMultiple_any p (p - 1) b2 0 (bl S) (bl S) (prodF p S x y) r5 (prodM p S y x) c5 w2.drew.heap.size w5.heap.size w5 (isSp_iff.1 HI.out).prime O25.out O5.out.row (.inl hu2) HLE.out HLN.out HFB.out (Mv.nums (prod_mv HI.out y x)) hp10 hp11).mono ?_); rintro e w6 ⟨rfl, o6, q6⟩; have O6 := Lib.hid o6; have Q6 := Lib.hid q6; have SS6 := Lib.hid (And.intro ((World.cell?_of_block (w := w5) (a := ⟨w.heap.size, 0, none⟩) (Q6.out.block w.heap.size nb2)).trans SS5.out.1) ((World.cell?_of_block (w := w5) (a := ⟨w.heap.size, 1, none⟩) (Q6.out.block w.heap.size nb2)).trans SS5.out.2)); clear o6 q6))
  all_goals
    go_wp2
    go_ret
    refine ⟨some ⟨b2, 0, none⟩, bl S, by rw [brM_len]; rfl, ?_, (HBD.out.trans (B5.out.mono (by show w.heap.size ≤ w2.heap.size; omega))).trans (Q6.out.belowB (by omega))⟩
    rw [← brM_eq]
    exact O6.out.own (by omega) (by rw [Q6.out.size]; exact Nat.lt_of_lt_of_le hu2 z5)

end Go.Proofs.Ytkibkkdeaojjoaa

namespace Go.Proofs.Ytkibkkdeaojjoaa
open Go.RowKit
set_option linter.unusedVariables false

/-- Exactly the grade 2. -/
def isB2 (x : List Int) : Bool := decide (x = partM x 2)
theorem isB2_iff {x : List Int} : isB2 x = true ↔ ∀ j, j < x.length → x.getD j 0 ≠ 0 → gr j = 2 := by
  unfold isB2
  rw [decide_eq_true_eq]
  constructor
  · intro h j hj h0
    have e : x.getD j 0 = if ((gr j : Nat) : Int) = 2 then x.getD j 0 else 0 := by
      have h3 : x.getD j 0 = (partM x 2).getD j 0 := by rw [← h]
      unfold partM at h3
      rw [mkR_at _ hj] at h3; exact h3
    by_cases g : ((gr j : Nat) : Int) = 2
    · omega
    · rw [if_neg g] at e; exact absurd e h0
  · intro h
    unfold partM
    apply row_ext (by rw [mkR_len])
    intro j hj
    rw [mkR_at _ hj]
    by_cases g : ((gr j : Nat) : Int) = 2
    · rw [if_pos g]
    · rw [if_neg g]
      by_cases e : x.getD j 0 = 0
      · exact e
      · have := h j hj e; omega
def bvC (p : Int) (S : List Int) (m : List (List Int)) : Int := if regC p S m = 0 then (if m.all isB2 = true then 0 else 5) else regC p S m
def hfR (p : Int) (z : List Int) : List Int := sclV p z (inv p 2)
def hbM (p : Int) (S x y : List Int) : List Int := hfR p (brM p S x y)
theorem hfR_len (p : Int) (z : List Int) : (hfR p z).length = z.length := mkR_len _ _
theorem hbM_len (p : Int) (S x y : List Int) : (hbM p S x y).length = bl S := by unfold hbM; rw [hfR_len, brM_len]
/-- The matrix of a bivector. -/
def bmF (p : Int) (S x : List Int) (i j : Nat) : Int := (hbM p S x (bladeM S (2 ^ j))).getD (2 ^ i) 0
def bmM (p : Int) (S x : List Int) : List (List Int) := mk S.length S.length (bmF p S x)
theorem bm_len (p : Int) (S x : List Int) : (bmM p S x).length = S.length := mk_len _ _ _
theorem bm_rl {p : Int} {S x : List Int} {i : Nat} (h : i < S.length) : (rw' (bmM p S x) i).length = S.length := mk_rowLen _ h
theorem bm_at {p : Int} {S x : List Int} {i j : Nat} (hi : i < S.length) (hj : j < S.length) : at' (bmM p S x) i j = bmF p S x i j := mk_at _ hi hj
end Go.Proofs.Ytkibkkdeaojjoaa

namespace Go.Proofs.Ytkibkkdeaojjoaa
open Go.RowKit
set_option linter.unusedVariables false

theorem vecF_bd {p : Int} (hp : 0 < p) {v : List Int} (hn : ∀ j, j < v.length → 0 ≤ v.getD j 0 ∧ v.getD j 0 < p) (b : Nat) : ∀ k, k ≤ v.length → 0 ≤ vecF v k b ∧ vecF v k b < p
  | 0, _ => by show 0 ≤ (0 : Int) ∧ (0 : Int) < p; omega
  | k + 1, h => by
    show 0 ≤ (if b = 2 ^ k then v.getD k 0 else vecF v k b) ∧ (if b = 2 ^ k then v.getD k 0 else vecF v k b) < p
    have h1 := hn k (by omega)
    have h2 := vecF_bd hp hn b k (by omega)
    split
    · exact h1
    · exact h2
theorem vec_mv' {p : Int} {S v : List Int} (hs : isSp p S = true) (hv : isVec p S.length v = true) : isMv p S (mkR (bl S) (vecF v v.length)) = true :=
  isMv_of (mkR_len _ _) fun j hj => by
    have hp := prm_bd (isSp_iff.1 hs).prime
    rw [mkR_len] at hj
    rw [mkR_at _ hj]
    exact vecF_bd (by omega) (fun i hi => (isVec_iff.1 hv).num (by rw [← (isVec_iff.1 hv).len]; exact hi)) j v.length (Nat.le_refl _)
end Go.Proofs.Ytkibkkdeaojjoaa

namespace Go.Proofs.Ytkibkkdeaojjoaa
open Go.RowKit
set_option linter.unusedVariables false

/-- Whether a term of grade g has come. -/
def cm (x : List Int) (left : Lit → Bool) (g : Nat) : Bool := (List.range x.length).any fun j => decide (gr j = g) && decide (x.getD j 0 ≠ 0) && !(td left j)
end Go.Proofs.Ytkibkkdeaojjoaa

namespace Go.Proofs.Ytkibkkdeaojjoaa
open Go.RowKit
set_option linter.unusedVariables false

theorem OutR.more {B : Nat} {w1 : World} {v' : Value} {zs ys : List Int} {N : Nat} {X : List Value} {k : Int} (hX : X = zs.map (Value.int .i64)) (hN : N = zs.length) (hs : ys = zs ++ [k]) (h1 : w1.ownsRow B 2 1 v' (N + 1) (X ++ [.int .i64 k])) : OutR B w1 v' ys := by
  subst hs hN hX
  unfold OutR
  rw [List.length_append, List.map_append]
  exact h1
end Go.Proofs.Ytkibkkdeaojjoaa

namespace Go.Proofs.Ytkibkkdeaojjoaa
open Go.RowKit
set_option linter.unusedVariables false

/-- The numbers of the basis vectors. -/
def vnF (z : List Int) (i : Nat) : Int := z.getD (2 ^ i) 0
def vnM (n : Nat) (z : List Int) : List Int := mkR n (vnF z)
/-- A basis vector. -/
def eiR (n i : Nat) : List Int := mkR n fun j => if i = j then 1 else 0
theorem ei_vec {p : Int} (hp : 1 < p) (n i : Nat) : isVec p n (eiR n i) = true := by
  refine isVec_iff.2 ⟨mkR_len _ _, ?_⟩
  rw [List.all_eq_true]
  intro y hy
  obtain ⟨j, hj, rfl⟩ := List.getElem_of_mem hy
  rw [← getD_at hj]
  have hj' : j < n := by unfold eiR at hj; rw [mkR_len] at hj; exact hj
  unfold eiR
  rw [mkR_at _ hj']
  exact inr_iff.2 (by split <;> omega)
end Go.Proofs.Ytkibkkdeaojjoaa

namespace Go.Proofs.Ytkibkkdeaojjoaa
open Go.RowKit
set_option linter.unusedVariables false

set_option maxHeartbeats 1600000 in
theorem l01Same_any (a b : Option Addr) (za zb : List Int) (ca cb lo tp lo' tp' : Nat) (w : World) (ha : RowIn lo tp w a za) (hb : RowIn lo' tp' w b zb) (sa : za.length ≤ 1048576) :
    Calls Try.prog 39 #[.slice a za.length ca, .slice b zb.length cb] w fun e w' => e = .returned (.bool (decide (za = zb))) ∧ Quiet w w' := by
  have HA := Lib.hid ha
  have HB := Lib.hid hb
  clear ha hb
  by_cases hl : za.length = zb.length
  · have HL := Lib.hid hl
    obtain ⟨n, hn⟩ : ∃ n, n = zb.length := ⟨_, rfl⟩
    have HN := Lib.hid hn
    rw [hl] at sa ⊢
    rw [← hn] at sa ⊢
    clear hl hn
    go_enter Try.func39, Try.ntmps39
    go_wp2
    go_loopw [5] (fun t wr => ∃ i : Nat, i ≤ n ∧ t = .int .i64 i ∧ (∀ j, j < i → za.getD j 0 = zb.getD j 0) ∧ Quiet w wr) (fun t _ => n - (intOf t).toNat)
    case atStart => exact ⟨0, Nat.zero_le _, rfl, fun j hj => by omega, Quiet.refl _⟩
    case round =>
      obtain ⟨i, hi, rfl, hall, hq⟩ := hrel
      have HQ := Lib.hid hq
      have HALL := Lib.hid hall
      by_cases hlt : i < n
      · obtain ⟨b1, o1, ha1, _, _, hc1⟩ := (HA.out.same (hq.same _ _)).num (show i < za.length by rw [HL.out, ← HN.out]; exact hlt)
        obtain ⟨b2, o2, ha2, _, _, hc2⟩ := (HB.out.same (hq.same _ _)).num (show i < zb.length by rw [← HN.out]; exact hlt)
        subst ha1
        subst ha2
        have hi1 : (i : Int) < (n : Int) := by omega
        obtain ⟨x, hx⟩ : ∃ x, x = za.getD i 0 := ⟨_, rfl⟩
        obtain ⟨y, hy⟩ : ∃ y, y = zb.getD i 0 := ⟨_, rfl⟩
        have HX := Lib.hid hx
        have HY := Lib.hid hy
        rw [← hx] at hc1
        rw [← hy] at hc2
        clear hx hy hall hq
        by_cases hxy : x = y
        · have e1 : (x != y) = false := by simp [hxy]
          have HXY := Lib.hid hxy
          clear hxy
          go_wp2
          go_quiet (fail)
          go_wp2
          go_roundw
          case rel => exact ⟨i + 1, by omega, by go_num, fun j hj => by
            by_cases e : j = i
            · subst e; rw [← HX.out, ← HY.out, HXY.out]
            · exact HALL.out j (by omega), HQ.out.next _⟩
          case measure => simp [intOf]; omega
        · have e1 : (x != y) = true := by simp [hxy]
          have HR : Hid (decide (za = zb) = false) := decide_eq_false fun e => hxy (by rw [HX.out, HY.out, e])
          clear hxy
          go_wp2
          go_quiet (fail)
          go_wp2
          go_ret
          exact ⟨by rw [HR.out]; rfl, HQ.out.next _⟩
      · have hin : i = n := by omega
        subst hin
        have HR : Hid (decide (za = zb) = true) := decide_eq_true (row_ext HL.out (fun j hj => hall j (by rw [HN.out, ← HL.out]; exact hj)))
        clear hall hq
        go_wp2
        go_ret
        exact ⟨by rw [HR.out]; rfl, HQ.out⟩
  · have HR : Hid (decide (za = zb) = false) := decide_eq_false fun e => hl (by rw [e])
    obtain ⟨n, hn⟩ : ∃ n, n = za.length := ⟨_, rfl⟩
    obtain ⟨m, hm⟩ : ∃ m, m = zb.length := ⟨_, rfl⟩
    rw [← hn, ← hm] at hl ⊢
    have hl2 : ((n : Int) != (m : Int)) = true := by simp; omega
    go_enter Try.func39, Try.ntmps39
    go_wp2
    go_ret
    exact ⟨by rw [HR.out]; rfl, Quiet.refl _⟩

end Go.Proofs.Ytkibkkdeaojjoaa
