/-
  The vectors between a column and a basis vector (program): contracts of the program and of the model.
  Conditions: the lists are nil or rows of known cells, of at most 1048576 numbers.
  Orders of orthogonal matrices: contracts of the program and of the model.
  Conditions: the lists are nil or rows of known cells, of at most 1048576 numbers.
-/
import Derived.Test.YthbkfpkeofpocaaGreatQv41
import Derived.Test.YthbkfpkeofpocaaGreatQv39
import Derived.Test.YthbkfpkeofpocaaGreatQv15
import Derived.Test.YthbkfpkeofpocaaGreatQv5
import Derived.Test.YthbkfpkeofpocaaGreatQv23
import Derived.Deep.RegionHeld3
import Derived.Deep.DeepCutAuto
import Derived.Test.YthbkfpkeofpocaaGreatQv38
import Derived.Test.YthbkfpkeofpocaaGreatQv17
import Derived.Test.YthbkfpkeofpocaaGreatQv18
import Derived.Test.YthbkfpkeofpocaaGreatQv31
import Derived.Test.YthbkfpkeofpocaaGreatQv26
namespace Go.Proofs.YthbkfpkeofpocaaGreat
open Go.RowKit
set_option linter.unusedVariables false

/-- The vectors of a step are handed back in new memory. -/
def StepR (L : List (List Int)) (w : World) (e : Ending) (w' : World) : Prop :=
  ∃ (a : Option Addr) (c hb : Nat) (SB SO : Nat → Nat), e = .returned (.slice a L.length c) ∧ (0 < L.length → a = some ⟨hb, 0, none⟩) ∧ StW w.heap.size w' L hb SB SO ∧ Below w.heap.size w w'
theorem StW.one' {z n : Nat} {w : World} {T : TypeId} {b o c : Nat} {x : List Int} (hn : x.length = n) (h : RowOwn w b o x.length (fun j => x.getD j 0)) (h0 : z ≤ b) (h1 : b < w.heap.size) (hz : z ≤ w.heap.size) : StW z (w.alloc (.cells #[.slice (some ⟨b, o, none⟩) n c] T)) [x] w.heap.size (fun _ => b) (fun _ => o) := by
  subst hn; exact StW.one h h0 h1 hz
theorem StW.two' {z n n' : Nat} {w : World} {T : TypeId} {b o c b' o' c' : Nat} {x y : List Int} (hn : x.length = n) (hn' : y.length = n') (h : RowOwn w b o x.length (fun j => x.getD j 0)) (k : RowOwn w b' o' y.length (fun j => y.getD j 0)) (h0 : z ≤ b) (h1 : b < w.heap.size) (k0 : z ≤ b') (k1 : b' < w.heap.size) (hz : z ≤ w.heap.size) (hne : b ≠ b') : StW z (w.alloc (.cells #[.slice (some ⟨b, o, none⟩) n c, .slice (some ⟨b', o', none⟩) n' c'] T)) [x, y] w.heap.size (fun s => if s = 0 then b else b') (fun s => if s = 0 then o else o') := by
  subst hn hn'; exact StW.two h k h0 h1 k0 k1 hz hne
theorem norm_nn (pS : Int) (aS : Option Addr) (S : List Int) (cS loS tpS : Nat) (av : Option Addr) (v : List Int) (n cv lov tpv : Nat) (w : World) (hn : v.length = n) (hS : RowIn loS tpS w aS S) (tS : tpS ≤ w.heap.size) (hv : RowIn lov tpv w av v) (tv : tpv ≤ w.heap.size) (hs : isSp pS S = true) (h1 : isVec pS S.length v = true) :
    Calls Tryz.prog 15 #[.agg #[.int .i64 pS, .slice aS S.length cS], .slice av n cv] w fun e w' => e = .returned (.int .i64 (pairN pS S v v)) ∧ Below w.heap.size w w' := by
  subst hn; exact norm_any pS aS S cS loS tpS av v cv lov tpv w hS tS hv tv hs h1
theorem equal_b (a b : Option Addr) (za zb : List Int) (ca cb lo tp lo' tp' : Nat) (w : World) (ha : RowIn lo tp w a za) (hb : RowIn lo' tp' w b zb) (sa : za.length ≤ 1048576) :
    Calls Tryz.prog 78 #[.slice a za.length ca, .slice b zb.length cb] w fun e w' => e = .returned (.bool (decide (za = zb))) ∧ Below w.heap.size w w' :=
  (equal_any a b za zb ca cb lo tp lo' tp' w ha hb sa).mono fun _ _ ⟨e, q⟩ => ⟨e, q.below _⟩

set_option maxRecDepth 100000 in
set_option maxHeartbeats 6400000 in
theorem stepsBetween_own (pS : Int) (aS : Option Addr) (S : List Int) (cS loS tpS : Nat) (ax : Option Addr) (x : List Int) (cx lox tpx : Nat) (ae : Option Addr) (i ce loe tpe : Nat) (w : World) (hs : isSp pS S = true) (hS : RowIn loS tpS w aS S) (tS : tpS ≤ w.heap.size) (hx : RowIn lox tpx w ax x) (tx : tpx ≤ w.heap.size) (mx : isVec pS S.length x = true) (he : RowIn loe tpe w ae (eiR S.length i)) (te : tpe ≤ w.heap.size) (hi : i < S.length) :
    Calls Tryz.prog 80 #[.agg #[.int .i64 pS, .slice aS S.length cS], .slice ax x.length cx, .slice ae (eiR S.length i).length ce] w (StepR (stV pS S x i) w) := by
  have HI := Lib.hid hs
  have HS := Lib.hid hS
  have Hx := Lib.hid hx
  have HMX := Lib.hid mx
  have He := Lib.hid he
  have h6 := (isSp_iff.1 hs).hi
  have hl1 := (isSp_iff.1 hs).lo
  have hpb := prm_bd (isSp_iff.1 hs).prime
  have hxl : x.length = S.length := (isVec_iff.1 mx).len
  have HXL := Lib.hid hxl
  have hx0 : 0 < x.length := by omega
  have hx6 : x.length ≤ 6 := by omega
  have HEL : Hid ((eiR S.length i).length = S.length) := ei_len _ _
  have hel : x.length ≤ (eiR S.length i).length := by rw [HEL.out]; omega
  have he6 : (eiR S.length i).length ≤ 6 := by rw [HEL.out]; exact h6
  have he0 : 0 < (eiR S.length i).length := by rw [HEL.out]; omega
  have HEV : Hid (isVec pS S.length (eiR S.length i) = true) := ei_vec (by omega) _ _
  have HXN : Hid (∀ j, j < x.length → 0 ≤ (fun j => x.getD j 0) j ∧ (fun j => x.getD j 0) j < pS) := fun j hj => (isVec_iff.1 mx).num (by omega)
  have HEN : Hid (Nums pS (eiR S.length i)) := fun j hj => (isVec_iff.1 HEV.out).num (by rw [← HEL.out]; exact hj)
  have w1_ : wrap64 (pS - 1) = pS - 1 := by unfold wrap64; omega
  have w2_ : IntKind.i64.wrap (pS - 1) = pS - 1 := IntWalk.i64_in _ (by omega)
  have q0_ : 0 ≤ pS - 1 := by omega
  have q1_ : pS - 1 ≤ pS := by omega
  have q2_ : (1 : Int) ≤ pS := by omega
  have k0 := nw0 w (.int .i64 pS) (.slice aS S.length cS) 24
  have k1 := nw1 w (.int .i64 pS) (.slice aS S.length cS) 24
  have HB0 := Lib.hid (below_alloc w (.cells #[.int .i64 pS, .slice aS S.length cS] 24))
  clear hs hS hx mx he hxl
  by_cases hxe : x = eiR S.length i
  · have HL : Hid (stV pS S x i = []) := st_same hxe
    have HD : Hid (decide (x = eiR S.length i) = true) := decide_eq_true hxe
    clear hxe
    go_enter Tryz.func80, Tryz.ntmps80
    go_upto_region 1 with fail
    obtain ⟨w1, hw1⟩ : ∃ z, z = w.alloc (.cells #[.int .i64 pS, .slice aS S.length cS] 24) := ⟨_, rfl⟩
    rw [← hw1] at HB0 k0 k1 ⊢
    have hd1 : w.heap.size < w1.heap.size := by rw [hw1]; simp
    have HB1 := HB0
    clear hw1
    have SS1 := Lib.hid (And.intro k0 k1)
    go_wp2_with (go_at_call 78; ((with_reducible refine (equal_b ax ae x (eiR S.length i) cx ce lox tpx loe tpe w1 (Hx.out.below HB1.out tx) (He.out.below HB1.out te) (by omega)).mono ?_); rintro e w2 ⟨rfl, b_⟩; rw [HD.out]; have SS2 := Lib.hid (ss2 b_ hd1 SS1.out); have HB2 := Lib.hid (below_step HB1.out HB1.out.size b_); have hd2 := Nat.lt_of_lt_of_le hd1 b_.size; clear k0 k1; obtain ⟨k0, k1⟩ := SS2.out; clear b_))
    go_ret
    exact ⟨none, 0, 0, fun _ => 0, fun _ => 0, by rw [HL.out]; rfl, fun h => (by rw [HL.out] at h; cases h), by rw [HL.out]; exact StW.nil _ _ _ _ _, HB2.out⟩
  · have HD : Hid (decide (x = eiR S.length i) = false) := decide_eq_false hxe
    have HDV : Hid (isVec pS S.length (dfM pS (eiR S.length i) x) = true) := plus_vec (by omega) _ HXL.out
    have HDL : Hid ((dfM pS (eiR S.length i) x).length = x.length) := dfM_len _ _ _
    have HSL : Hid ((smM7 pS (eiR S.length i) x).length = x.length) := smM7_len _ _ _
    obtain ⟨N, hN⟩ : ∃ n, n = pairN pS S (dfM pS (eiR S.length i) x) (dfM pS (eiR S.length i) x) := ⟨_, rfl⟩
    have HNE := Lib.hid hN
    by_cases hn0 : N = 0
    · have HL : Hid (stV pS S x i = [smM7 pS (eiR S.length i) x, eiR S.length i]) := st_more hxe (by rw [← hN]; exact hn0)
      have hn1 : (N != 0) = false := by simpa using hn0
      clear hxe hn0 hN
      go_enter Tryz.func80, Tryz.ntmps80
      go_upto_region 1 with fail
      obtain ⟨w1, hw1⟩ : ∃ z, z = w.alloc (.cells #[.int .i64 pS, .slice aS S.length cS] 24) := ⟨_, rfl⟩
      rw [← hw1] at HB0 k0 k1 ⊢
      have hd1 : w.heap.size < w1.heap.size := by rw [hw1]; simp
      have HB1 := HB0
      clear hw1
      have SS1 := Lib.hid (And.intro k0 k1)
      go_wp2_with (first | (go_at_call 78; ((with_reducible refine (equal_b ax ae x (eiR S.length i) cx ce lox tpx loe tpe w1 (Hx.out.below HB1.out tx) (He.out.below HB1.out te) (by omega)).mono ?_); rintro e w2 ⟨rfl, b_⟩; rw [HD.out]; have SS2 := Lib.hid (ss2 b_ hd1 SS1.out); have HB2 := Lib.hid (below_step HB1.out HB1.out.size b_); have hd2 := Nat.lt_of_lt_of_le hd1 b_.size; clear k0 k1; obtain ⟨k0, k1⟩ := SS2.out; clear b_)) | (go_at_call 35; ((with_reducible refine (cloneR ax x cx lox tpx w2 (Hx.out.below HB2.out tx) (Nat.le_trans tx HB2.out.size) hx0 (by omega)).mono ?_); rintro e w3 ⟨r1, c1, rfl, o_, b_⟩; have SS3 := Lib.hid (ss2 b_ hd2 SS2.out); have HB3 := Lib.hid (below_step HB2.out HB2.out.size b_); have hd3 := Nat.lt_of_lt_of_le hd2 b_.size; obtain ⟨B1, p1, rfl, l1_, u1_, ro_⟩ := RowOwn.of o_.own hx0; have L1 := Lib.hid (Nat.lt_of_lt_of_le hd2 l1_); have U1 := Lib.hid u1_; have R1 := Lib.hid ro_; clear o_ ro_ l1_ u1_; clear k0 k1; obtain ⟨k0, k1⟩ := SS3.out; clear b_)) | (go_at_call 35; ((with_reducible refine (cloneR ax x cx lox tpx w3 (Hx.out.below HB3.out tx) (Nat.le_trans tx HB3.out.size) hx0 (by omega)).mono ?_); rintro e w4 ⟨r2, c2, rfl, o_, b_⟩; have SS4 := Lib.hid (ss2 b_ hd3 SS3.out); have HB4 := Lib.hid (below_step HB3.out HB3.out.size b_); have hd4 := Nat.lt_of_lt_of_le hd3 b_.size; obtain ⟨B2, p2, rfl, l2_, u2_, ro_⟩ := RowOwn.of o_.own hx0; have L2 := Lib.hid (Nat.lt_of_lt_of_le hd3 l2_); have U2 := Lib.hid u2_; have R2 := Lib.hid ro_; have NE : Hid (B1 ≠ B2) := Nat.ne_of_lt (Nat.lt_of_lt_of_le U1.out l2_); have R1b := Lib.hid (R1.out.stay (b_.block B1 U1.out)); have U1b := Lib.hid (Nat.lt_of_lt_of_le U1.out b_.size); clear o_ ro_ l2_ u2_; clear k0 k1; obtain ⟨k0, k1⟩ := SS4.out; clear b_)) | (go_at_call 92; ((with_reducible refine (addMultiple_any pS (pS - 1) B1 p1 x.length c1 (fun j => x.getD j 0) ae (eiR S.length i) ce loe tpe w4 (isSp_iff.1 HI.out).prime R1b.out (He.out.below HB4.out te) (.inr (Nat.le_trans te (Nat.le_of_lt L1.out))) hel (by omega) HXN.out HEN.out q0_ q1_).mono ?_); rintro e w5 ⟨rfl, o_, q_⟩; have R1c := Lib.hid o_; have R2b := Lib.hid (R2.out.stay (q_.block B2 (fun e => NE.out e.symm))); have SS5 := Lib.hid (ss2w q_ (Nat.ne_of_lt L1.out) SS4.out); have HB5 := Lib.hid (HB4.out.trans (q_.belowB (Nat.le_of_lt L1.out))); have Z5 := Lib.hid q_.size; have hd5 : w.heap.size < w5.heap.size := (by rw [q_.size]; exact hd4); clear o_ q_ k0 k1; obtain ⟨k0, k1⟩ := SS5.out)) | (go_at_call 92; ((with_reducible refine (addMultiple_any pS 1 B2 p2 x.length c2 (fun j => x.getD j 0) ae (eiR S.length i) ce loe tpe w5 (isSp_iff.1 HI.out).prime R2b.out (He.out.below HB5.out te) (.inr (Nat.le_trans te (Nat.le_of_lt L2.out))) hel (by omega) HXN.out HEN.out Int.one_nonneg q2_).mono ?_); rintro e w6 ⟨rfl, o_, q_⟩; have R2c := Lib.hid o_; have R1d := Lib.hid (R1c.out.stay (q_.block B1 NE.out)); have SS6 := Lib.hid (ss2w q_ (Nat.ne_of_lt L2.out) SS5.out); have HB6 := Lib.hid (HB5.out.trans (q_.belowB (Nat.le_of_lt L2.out))); have Z6 := Lib.hid (q_.size.trans Z5.out); have hd6 : w.heap.size < w6.heap.size := (by rw [q_.size]; exact hd5); have RD : Hid (RowOwn w6 B1 p1 (dfM pS (eiR S.length i) x).length (fun j => (dfM pS (eiR S.length i) x).getD j 0)) := R1d.out.toRow rfl; have RM : Hid (RowOwn w6 B2 p2 (smM7 pS (eiR S.length i) x).length (fun j => (smM7 pS (eiR S.length i) x).getD j 0)) := R2c.out.toRow rfl; have U16 : Hid (B1 < w6.heap.size) := (by show _ < _; rw [Z6.out]; exact U1b.out); have U26 : Hid (B2 < w6.heap.size) := (by show _ < _; rw [Z6.out]; exact U2.out); have RI : Hid (RowIn w.heap.size w6.heap.size w6 (some ⟨B1, p1, none⟩) (dfM pS (eiR S.length i) x)) := .inr ⟨B1, p1, rfl, Nat.le_of_lt L1.out, U16.out, fun j hj => RD.out.cell j hj⟩; clear o_ q_ k0 k1; obtain ⟨k0, k1⟩ := SS6.out)) | (go_at_call 15; ((with_reducible refine (norm_nn pS aS S cS loS tpS (some ⟨B1, p1, none⟩) (dfM pS (eiR S.length i) x) x.length c1 w.heap.size w6.heap.size w6 HDL.out (HS.out.below HB6.out tS) (Nat.le_trans tS HB6.out.size) RI.out (Nat.le_refl _) HI.out HDV.out).mono ?_); rintro e w7 ⟨rfl, b_⟩; rw [← HNE.out]; have SS7 := Lib.hid (ss2 b_ hd6 SS6.out); have HB7 := Lib.hid (below_step HB6.out HB6.out.size b_); have hd7 := Nat.lt_of_lt_of_le hd6 b_.size; have RD7 := Lib.hid (RD.out.stay (b_.block B1 U16.out)); have RM7 := Lib.hid (RM.out.stay (b_.block B2 U26.out)); have U17 := Lib.hid (Nat.lt_of_lt_of_le U16.out b_.size); have U27 := Lib.hid (Nat.lt_of_lt_of_le U26.out b_.size); clear k0 k1; obtain ⟨k0, k1⟩ := SS7.out; clear b_)) | (go_at_call 35; ((with_reducible refine (cloneR ae (eiR S.length i) ce loe tpe w7 (He.out.below HB7.out te) (Nat.le_trans te HB7.out.size) he0 (by omega)).mono ?_); rintro e w8 ⟨r3, c3, rfl, o_, b_⟩; have SS8 := Lib.hid (ss2 b_ hd7 SS7.out); have HB8 := Lib.hid (below_step HB7.out HB7.out.size b_); have hd8 := Nat.lt_of_lt_of_le hd7 b_.size; obtain ⟨B3, p3, rfl, l3_, u3_, ro_⟩ := RowOwn.of o_.own he0; have L3 := Lib.hid (Nat.lt_of_lt_of_le hd7 l3_); have U3 := Lib.hid u3_; have R3 := Lib.hid ro_; have NE3 : Hid (B2 ≠ B3) := Nat.ne_of_lt (Nat.lt_of_lt_of_le U27.out l3_); have RM8 := Lib.hid (RM7.out.stay (b_.block B2 U27.out)); have U28 := Lib.hid (Nat.lt_of_lt_of_le U27.out b_.size); clear o_ ro_ l3_ u3_; clear k0 k1; obtain ⟨k0, k1⟩ := SS8.out; clear b_)))
      go_ret
      exact ⟨some ⟨w8.heap.size, 0, none⟩, 2, w8.heap.size, _, _, by rw [HL.out]; rfl, fun _ => rfl, by rw [HL.out]; exact StW.two' HSL.out rfl RM8.out R3.out (Nat.le_of_lt L2.out) U28.out (Nat.le_of_lt L3.out) U3.out HB8.out.size NE3.out, HB8.out.alloc HB8.out.size _⟩
    · have HL : Hid (stV pS S x i = [dfM pS (eiR S.length i) x]) := st_less hxe (by rw [← hN]; exact hn0)
      have hn1 : (N != 0) = true := by simpa using hn0
      clear hxe hn0 hN
      go_enter Tryz.func80, Tryz.ntmps80
      go_upto_region 1 with fail
      obtain ⟨w1, hw1⟩ : ∃ z, z = w.alloc (.cells #[.int .i64 pS, .slice aS S.length cS] 24) := ⟨_, rfl⟩
      rw [← hw1] at HB0 k0 k1 ⊢
      have hd1 : w.heap.size < w1.heap.size := by rw [hw1]; simp
      have HB1 := HB0
      clear hw1
      have SS1 := Lib.hid (And.intro k0 k1)
      go_wp2_with (first | (go_at_call 78; ((with_reducible refine (equal_b ax ae x (eiR S.length i) cx ce lox tpx loe tpe w1 (Hx.out.below HB1.out tx) (He.out.below HB1.out te) (by omega)).mono ?_); rintro e w2 ⟨rfl, b_⟩; rw [HD.out]; have SS2 := Lib.hid (ss2 b_ hd1 SS1.out); have HB2 := Lib.hid (below_step HB1.out HB1.out.size b_); have hd2 := Nat.lt_of_lt_of_le hd1 b_.size; clear k0 k1; obtain ⟨k0, k1⟩ := SS2.out; clear b_)) | (go_at_call 35; ((with_reducible refine (cloneR ax x cx lox tpx w2 (Hx.out.below HB2.out tx) (Nat.le_trans tx HB2.out.size) hx0 (by omega)).mono ?_); rintro e w3 ⟨r1, c1, rfl, o_, b_⟩; have SS3 := Lib.hid (ss2 b_ hd2 SS2.out); have HB3 := Lib.hid (below_step HB2.out HB2.out.size b_); have hd3 := Nat.lt_of_lt_of_le hd2 b_.size; obtain ⟨B1, p1, rfl, l1_, u1_, ro_⟩ := RowOwn.of o_.own hx0; have L1 := Lib.hid (Nat.lt_of_lt_of_le hd2 l1_); have U1 := Lib.hid u1_; have R1 := Lib.hid ro_; clear o_ ro_ l1_ u1_; clear k0 k1; obtain ⟨k0, k1⟩ := SS3.out; clear b_)) | (go_at_call 35; ((with_reducible refine (cloneR ax x cx lox tpx w3 (Hx.out.below HB3.out tx) (Nat.le_trans tx HB3.out.size) hx0 (by omega)).mono ?_); rintro e w4 ⟨r2, c2, rfl, o_, b_⟩; have SS4 := Lib.hid (ss2 b_ hd3 SS3.out); have HB4 := Lib.hid (below_step HB3.out HB3.out.size b_); have hd4 := Nat.lt_of_lt_of_le hd3 b_.size; obtain ⟨B2, p2, rfl, l2_, u2_, ro_⟩ := RowOwn.of o_.own hx0; have L2 := Lib.hid (Nat.lt_of_lt_of_le hd3 l2_); have U2 := Lib.hid u2_; have R2 := Lib.hid ro_; have NE : Hid (B1 ≠ B2) := Nat.ne_of_lt (Nat.lt_of_lt_of_le U1.out l2_); have R1b := Lib.hid (R1.out.stay (b_.block B1 U1.out)); have U1b := Lib.hid (Nat.lt_of_lt_of_le U1.out b_.size); clear o_ ro_ l2_ u2_; clear k0 k1; obtain ⟨k0, k1⟩ := SS4.out; clear b_)) | (go_at_call 92; ((with_reducible refine (addMultiple_any pS (pS - 1) B1 p1 x.length c1 (fun j => x.getD j 0) ae (eiR S.length i) ce loe tpe w4 (isSp_iff.1 HI.out).prime R1b.out (He.out.below HB4.out te) (.inr (Nat.le_trans te (Nat.le_of_lt L1.out))) hel (by omega) HXN.out HEN.out q0_ q1_).mono ?_); rintro e w5 ⟨rfl, o_, q_⟩; have R1c := Lib.hid o_; have R2b := Lib.hid (R2.out.stay (q_.block B2 (fun e => NE.out e.symm))); have SS5 := Lib.hid (ss2w q_ (Nat.ne_of_lt L1.out) SS4.out); have HB5 := Lib.hid (HB4.out.trans (q_.belowB (Nat.le_of_lt L1.out))); have Z5 := Lib.hid q_.size; have hd5 : w.heap.size < w5.heap.size := (by rw [q_.size]; exact hd4); clear o_ q_ k0 k1; obtain ⟨k0, k1⟩ := SS5.out)) | (go_at_call 92; ((with_reducible refine (addMultiple_any pS 1 B2 p2 x.length c2 (fun j => x.getD j 0) ae (eiR S.length i) ce loe tpe w5 (isSp_iff.1 HI.out).prime R2b.out (He.out.below HB5.out te) (.inr (Nat.le_trans te (Nat.le_of_lt L2.out))) hel (by omega) HXN.out HEN.out Int.one_nonneg q2_).mono ?_); rintro e w6 ⟨rfl, o_, q_⟩; have R2c := Lib.hid o_; have R1d := Lib.hid (R1c.out.stay (q_.block B1 NE.out)); have SS6 := Lib.hid (ss2w q_ (Nat.ne_of_lt L2.out) SS5.out); have HB6 := Lib.hid (HB5.out.trans (q_.belowB (Nat.le_of_lt L2.out))); have Z6 := Lib.hid (q_.size.trans Z5.out); have hd6 : w.heap.size < w6.heap.size := (by rw [q_.size]; exact hd5); have RD : Hid (RowOwn w6 B1 p1 (dfM pS (eiR S.length i) x).length (fun j => (dfM pS (eiR S.length i) x).getD j 0)) := R1d.out.toRow rfl; have RM : Hid (RowOwn w6 B2 p2 (smM7 pS (eiR S.length i) x).length (fun j => (smM7 pS (eiR S.length i) x).getD j 0)) := R2c.out.toRow rfl; have U16 : Hid (B1 < w6.heap.size) := (by show _ < _; rw [Z6.out]; exact U1b.out); have U26 : Hid (B2 < w6.heap.size) := (by show _ < _; rw [Z6.out]; exact U2.out); have RI : Hid (RowIn w.heap.size w6.heap.size w6 (some ⟨B1, p1, none⟩) (dfM pS (eiR S.length i) x)) := .inr ⟨B1, p1, rfl, Nat.le_of_lt L1.out, U16.out, fun j hj => RD.out.cell j hj⟩; clear o_ q_ k0 k1; obtain ⟨k0, k1⟩ := SS6.out)) | (go_at_call 15; ((with_reducible refine (norm_nn pS aS S cS loS tpS (some ⟨B1, p1, none⟩) (dfM pS (eiR S.length i) x) x.length c1 w.heap.size w6.heap.size w6 HDL.out (HS.out.below HB6.out tS) (Nat.le_trans tS HB6.out.size) RI.out (Nat.le_refl _) HI.out HDV.out).mono ?_); rintro e w7 ⟨rfl, b_⟩; rw [← HNE.out]; have SS7 := Lib.hid (ss2 b_ hd6 SS6.out); have HB7 := Lib.hid (below_step HB6.out HB6.out.size b_); have hd7 := Nat.lt_of_lt_of_le hd6 b_.size; have RD7 := Lib.hid (RD.out.stay (b_.block B1 U16.out)); have RM7 := Lib.hid (RM.out.stay (b_.block B2 U26.out)); have U17 := Lib.hid (Nat.lt_of_lt_of_le U16.out b_.size); have U27 := Lib.hid (Nat.lt_of_lt_of_le U26.out b_.size); clear k0 k1; obtain ⟨k0, k1⟩ := SS7.out; clear b_)))
      go_ret
      exact ⟨some ⟨w7.heap.size, 0, none⟩, 1, w7.heap.size, fun _ => B1, fun _ => p1, by rw [HL.out]; rfl, fun _ => rfl, by rw [HL.out]; exact StW.one' HDL.out RD7.out (Nat.le_of_lt L1.out) U17.out HB7.out.size, HB7.out.alloc HB7.out.size _⟩

end Go.Proofs.YthbkfpkeofpocaaGreat

namespace Go.Proofs.YthbkfpkeofpocaaGreat
open Go.RowKit
set_option linter.unusedVariables false

theorem unitMatrix_n (n : Nat) (w : World) (hn : n ≤ 1024) (h0 : 1 ≤ n) :
    Calls Tryz.prog 53 #[.int .i64 n] w (fun e w' => ∃ r c, e = .returned (.slice r n c) ∧ MatIn w.heap.size w'.heap.size w' r (oneM n) ∧ Below w.heap.size w w') :=
  (unitMatrix_any n w hn h0).mono fun _ _ ⟨r, c, e, o, b⟩ => ⟨r, c, by rw [e]; unfold oneM; rw [mk_len], o.mat, b⟩
end Go.Proofs.YthbkfpkeofpocaaGreat
