/-
  BracketOf: contracts of the program and of the model.
  Conditions: the lists are nil or rows of known cells, of at most 1048576 numbers.
-/
import Derived.Test.YtkibkkdeaojjoabGreatQg38
import Derived.Deep.RegionHeld3
import Derived.Deep.DeepCutAuto
namespace Go.Proofs.YtkibkkdeaojjoabGreat
open Go.RowKit
set_option linter.unusedVariables false

def brM (p : Int) (S x y : List Int) : List Int := plusR p (prodM p S x y) (prodM p S y x) (p - 1)
theorem brM_len (p : Int) (S x y : List Int) : (brM p S x y).length = bl S := by unfold brM plusR; rw [mkR_len, prodM_len]
theorem brM_eq (p : Int) (S x y : List Int) : mkR (bl S) (fun j => (prodF p S x y j + (p - 1) * (prodM p S y x).getD j 0) % p) = brM p S x y := by
  unfold brM plusR
  rw [prodM_len]
  exact mkR_congr fun j hj => by rw [prodM_at p S x y hj]

set_option maxRecDepth 100000 in
set_option maxHeartbeats 1600000 in
theorem bracket_any (p : Int) (aS : Option Addr) (S : List Int) (cS loS tpS : Nat) (ax : Option Addr) (x : List Int) (cx lox tpx : Nat) (ay : Option Addr) (y : List Int) (cy loy tpy : Nat) (w : World) (hs : isSp p S = true) (hS : RowIn loS tpS w aS S) (tS : tpS ≤ w.heap.size) (hx : RowIn lox tpx w ax x) (tx : tpx ≤ w.heap.size) (mx : isMv p S x = true) (hy : RowIn loy tpy w ay y) (ty : tpy ≤ w.heap.size) (my : isMv p S y = true) :
    Calls Tryz.prog 76 #[.agg #[.int .i64 p, .slice aS S.length cS], .slice ax x.length cx, .slice ay y.length cy] w (OwnE (brM p S x y) w) := by
  have HS := Lib.hid hS
  have HX := Lib.hid hx
  have HY := Lib.hid hy
  have HI := Lib.hid hs
  have HMX := Lib.hid mx
  have HMY := Lib.hid my
  have hpb := prm_bd (isSp_iff.1 hs).prime
  have hbl := bl_le (isSp_iff.1 hs).hi
  have HB0 := Lib.hid (below_alloc w (.cells #[.int .i64 p, .slice aS S.length cS] 29))
  have k0 := nw0 w (.int .i64 p) (.slice aS S.length cS) 29
  have k1 := nw1 w (.int .i64 p) (.slice aS S.length cS) 29
  clear hS hx hy hs mx my
  go_enter Tryz.func76, Tryz.ntmps76
  go_upto_region 1 with fail
  obtain ⟨w1, hw1⟩ : ∃ z, z = w.alloc (.cells #[.int .i64 p, .slice aS S.length cS] 29) := ⟨_, rfl⟩
  rw [← hw1] at HB0 k0 k1 ⊢
  have hw0 : w.heap.size < w1.heap.size := by rw [hw1]; simp
  clear hw1
  have tS1 : tpS ≤ w1.heap.size := by omega
  have tx1 : tpx ≤ w1.heap.size := by omega
  have ty1 : tpy ≤ w1.heap.size := by omega
  have hp10 : 0 ≤ p - 1 := by omega
  have hp11 : p - 1 ≤ p := by omega
  go_upto_region 2 with (go_at_call 98; (with_reducible refine (product_any p aS S cS loS tpS ax x cx lox tpx ay y cy loy tpy w1 (isSp_iff.1 HI.out).prime (isSp_iff.1 HI.out).hi (HS.out.below HB0.out tS) tS1 (sp_nums HI.out) (HX.out.below HB0.out tx) tx1 (Mv.len HMX.out) (Mv.nums HMX.out) (HY.out.below HB0.out ty) ty1 (Mv.len HMY.out) (Mv.nums HMY.out)).mono ?_); rintro e w2 ⟨b2, rfl, l2, u2, o2, q2⟩; have O2 := Lib.hid o2; have B2 := Lib.hid q2; have z2 := q2.size; clear o2 q2)
  have k02 := (B2.out.cell (p := ⟨w.heap.size, 0, none⟩) hw0).trans k0
  have k12 := (B2.out.cell (p := ⟨w.heap.size, 1, none⟩) hw0).trans k1
  have hs1 : Hid (w2.drew.cell? ⟨w.heap.size, 0, none⟩ = some (.int .i64 p) ∧ w2.drew.cell? ⟨w.heap.size, 1, none⟩ = some (.slice aS S.length cS)) := ⟨k02, k12⟩
  clear k0 k1
  have HBW : Hid (Below w.heap.size w w2) := HB0.out.trans (B2.out.mono (by omega))
  have HBD : Hid (Below w.heap.size w w2.drew) := HBW.out.drew
  have hd0 : w.heap.size < w2.drew.heap.size := by show w.heap.size < w2.heap.size; omega
  have tSd : tpS ≤ w2.drew.heap.size := by show tpS ≤ w2.heap.size; omega
  have txd : tpx ≤ w2.drew.heap.size := by show tpx ≤ w2.heap.size; omega
  have tyd : tpy ≤ w2.drew.heap.size := by show tpy ≤ w2.heap.size; omega
  have hu2 : b2 < w2.drew.heap.size := u2
  have nb2 : w.heap.size ≠ b2 := by omega
  have e1 : IntKind.i64.wrap (p - 1) = p - 1 := IntWalk.i64_in _ (by omega)
  have HFB : Hid (∀ j, j < bl S → 0 ≤ prodF p S x y j ∧ prodF p S x y j < p) := fun j _ => prodF_bd (by omega) S x y j
  have HLE : Hid (bl S ≤ (prodM p S y x).length) := by show _ ≤ _; rw [prodM_len]; exact Nat.le_refl _
  have HLN : Hid ((prodM p S y x).length ≤ 100000) := by show _ ≤ _; rw [prodM_len]; omega
  go_region_held3 (fun w' => w'.cell? ⟨w.heap.size, 0, none⟩ = some (.int .i64 p) ∧ w'.cell? ⟨w.heap.size, 1, none⟩ = some (.slice aS S.length cS)) (first | go_keep | exact SS5.out | exact SS6.out) (first | (go_at_call 98; (with_reducible refine (product_own p aS S cS loS tpS ay y cy loy tpy ax x cx lox tpx w2.drew HI.out (HS.out.below HBD.out tS) tSd (HY.out.below HBD.out ty) tyd HMY.out (HX.out.below HBD.out tx) txd HMX.out).mono ?_); rintro e w5 ⟨r5, c5, rfl, o5, b5⟩; have O5 := Lib.hid o5; have B5 := Lib.hid b5; have z5 := b5.size; have SS5 := Lib.hid (And.intro ((B5.out.cell (p := ⟨w.heap.size, 0, none⟩) hd0).trans hs1.out.1) ((B5.out.cell (p := ⟨w.heap.size, 1, none⟩) hd0).trans hs1.out.2)); have O25 := Lib.hid (O2.out.stay (B5.out.block b2 hu2)); clear o5 b5) | (go_at_call 67; (with_reducible refine (addMultiple_any p (p - 1) b2 0 (bl S) (bl S) (prodF p S x y) r5 (prodM p S y x) c5 w2.drew.heap.size w5.heap.size w5 (isSp_iff.1 HI.out).prime O25.out O5.out.row (.inl hu2) HLE.out HLN.out HFB.out (Mv.nums (prod_mv HI.out y x)) hp10 hp11).mono ?_); rintro e w6 ⟨rfl, o6, q6⟩; have O6 := Lib.hid o6; have Q6 := Lib.hid q6; have SS6 := Lib.hid (And.intro ((World.cell?_of_block (w := w5) (a := ⟨w.heap.size, 0, none⟩) (Q6.out.block w.heap.size nb2)).trans SS5.out.1) ((World.cell?_of_block (w := w5) (a := ⟨w.heap.size, 1, none⟩) (Q6.out.block w.heap.size nb2)).trans SS5.out.2)); clear o6 q6))
  all_goals
    go_wp2
    go_ret
    refine ⟨some ⟨b2, 0, none⟩, bl S, by rw [brM_len]; rfl, ?_, (HBD.out.trans (B5.out.mono (by show w.heap.size ≤ w2.heap.size; omega))).trans (Q6.out.belowB (by omega))⟩
    rw [← brM_eq]
    exact O6.out.own (by omega) (by rw [Q6.out.size]; exact Nat.lt_of_lt_of_le hu2 z5)

end Go.Proofs.YtkibkkdeaojjoabGreat
