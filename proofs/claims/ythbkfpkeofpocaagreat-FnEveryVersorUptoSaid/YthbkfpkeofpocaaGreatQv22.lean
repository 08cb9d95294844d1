/-
  Inverses of versors, vectors led, sandwiches (program): contracts of the program and of the model.
  Conditions: the lists are nil or rows of known cells, of at most 1048576 numbers.
  Vectors led by motions (program): contracts of the program and of the model.
  Conditions: the lists are nil or rows of known cells, of at most 1048576 numbers.
  What square roots of numbers are, in the program and in the model: contracts of the method root and of the model's helper.
  Conditions: the prime is one, the number is a remainder by it.
  Laws of versors, the program's side: contracts of the program and of the model.
  Conditions: the lists are nil or rows of known cells, of at most 1048576 numbers.
-/
import Derived.Test.YthbkfpkeofpocaaGreatQv21
import Derived.Test.YthbkfpkeofpocaaGreatQv13
import Derived.Deep.RegionHeld3
import Derived.Deep.DeepCutAuto
import Derived.Test.YthbkfpkeofpocaaGreatQv11
import Derived.RegionTactic
import Derived.Laws.StructEq
import Derived.Outline
namespace Go.Proofs.YthbkfpkeofpocaaGreat
open Go.RowKit
set_option linter.unusedVariables false

/-- The cells of the box of a versor. -/
def BoxW (g : Nat) (p : Int) (aS : Option Addr) (n cS : Nat) (ax : Option Addr) (l cx : Nat) (F : Int) (W : World) : Prop :=
  W.cell? ⟨g, 0, none⟩ = some (.int .i64 p) ∧ W.cell? ⟨g, 1, none⟩ = some (.slice aS n cS) ∧ W.cell? ⟨g, 2, none⟩ = some (.slice ax l cx) ∧ W.cell? ⟨g, 3, none⟩ = some (.int .i64 p) ∧ W.cell? ⟨g, 4, none⟩ = some (.int .i64 F)
theorem BoxW.below {g : Nat} {p F : Int} {aS ax : Option Addr} {n cS l cx B : Nat} {w w' : World} (h : BoxW g p aS n cS ax l cx F w) (hb : Below B w w') (hg : g < B) : BoxW g p aS n cS ax l cx F w' :=
  ⟨(hb.cell (p := ⟨g, 0, none⟩) hg).trans h.1, (hb.cell (p := ⟨g, 1, none⟩) hg).trans h.2.1, (hb.cell (p := ⟨g, 2, none⟩) hg).trans h.2.2.1, (hb.cell (p := ⟨g, 3, none⟩) hg).trans h.2.2.2.1, (hb.cell (p := ⟨g, 4, none⟩) hg).trans h.2.2.2.2⟩
theorem BoxW.wrote {g b o m : Nat} {p F : Int} {aS ax : Option Addr} {n cS l cx : Nat} {w w' : World} (h : BoxW g p aS n cS ax l cx F w) (hb : Wrote b o m w w') (hg : g ≠ b) : BoxW g p aS n cS ax l cx F w' :=
  ⟨(World.cell?_of_block (w := w) (a := ⟨g, 0, none⟩) (hb.block g hg)).trans h.1, (World.cell?_of_block (w := w) (a := ⟨g, 1, none⟩) (hb.block g hg)).trans h.2.1, (World.cell?_of_block (w := w) (a := ⟨g, 2, none⟩) (hb.block g hg)).trans h.2.2.1, (World.cell?_of_block (w := w) (a := ⟨g, 3, none⟩) (hb.block g hg)).trans h.2.2.2.1, (World.cell?_of_block (w := w) (a := ⟨g, 4, none⟩) (hb.block g hg)).trans h.2.2.2.2⟩
theorem BoxW.new (w : World) (p : Int) (aS : Option Addr) (n cS : Nat) (ax : Option Addr) (l cx : Nat) (F : Int) (T : TypeId) : BoxW w.heap.size p aS n cS ax l cx F (w.alloc (.cells #[.int .i64 p, .slice aS n cS, .slice ax l cx, .int .i64 p, .int .i64 F] T)) :=
  ⟨by simp [go_sem], by simp [go_sem], by simp [go_sem], by simp [go_sem], by simp [go_sem]⟩
theorem around_v (pS : Int) (aS : Option Addr) (S : List Int) (cS loS tpS : Nat) (ax : Option Addr) (x : List Int) (cx lox tpx : Nat) (av : Option Addr) (v : List Int) (cv lov tpv : Nat) (w : World) (hs : isSp pS S = true) (hS : RowIn loS tpS w aS S) (tS : tpS ≤ w.heap.size) (hx : RowIn lox tpx w ax x) (tx : tpx ≤ w.heap.size) (mx : isMv pS S x = true) (hv : RowIn lov tpv w av v) (tv : tpv ≤ w.heap.size) (mv : isVec pS S.length v = true) :
    Calls Tryz.prog 88 #[.agg #[.int .i64 pS, .slice aS S.length cS, .slice ax x.length cx], .slice av v.length cv] w (OwnE (arM pS S x v) w) := around_own pS aS S cS loS tpS ax x cx lox tpx av v cv lov tpv w hs hS tS hx tx mx hv tv mv
set_option maxRecDepth 100000 in
set_option maxHeartbeats 6400000 in
theorem lead_own (pS : Int) (aS : Option Addr) (S : List Int) (cS loS tpS : Nat) (ax : Option Addr) (x : List Int) (cx lox tpx : Nat) (F : Int) (av : Option Addr) (v : List Int) (cv lov tpv : Nat) (w : World) (hs : isSp pS S = true) (hS : RowIn loS tpS w aS S) (tS : tpS ≤ w.heap.size) (hx : RowIn lox tpx w ax x) (tx : tpx ≤ w.heap.size) (mx : isMv pS S x = true) (hF : F = nrF pS S x) (hv : RowIn lov tpv w av v) (tv : tpv ≤ w.heap.size) (mv : isVec pS S.length v = true) :
    Calls Tryz.prog 132 #[.agg #[.int .i64 pS, .slice aS S.length cS, .slice ax x.length cx, .int .i64 pS, .int .i64 F], .slice av v.length cv] w (OwnE (sdM pS S x v) w) := by
  have HI := Lib.hid hs
  have HS := Lib.hid hS
  have Hx := Lib.hid hx
  have HMx := Lib.hid mx
  have HFE := Lib.hid hF
  have Hv := Lib.hid hv
  have h6 := (isSp_iff.1 hs).hi
  have hpb := prm_bd (isSp_iff.1 hs).prime
  have hbl := bl_le h6
  have hb0 := bl_pos S
  have HB0 := Lib.hid (below_alloc w (.cells #[.int .i64 pS, .slice aS S.length cS, .slice ax x.length cx, .int .i64 pS, .int .i64 F] 50))
  have k0 := BoxW.new w pS aS S.length cS ax x.length cx F 50
  have HFB : Hid (0 ≤ F ∧ F < pS) := by show _ ∧ _; rw [hF]; exact nrF_bd hs x
  have HVV := Lib.hid mv
  clear mv
  clear hs hS hx mx hF hv
  go_enter Tryz.func132, Tryz.ntmps132
  go_upto_region 1 with fail
  obtain ⟨w1, hw1⟩ : ∃ z, z = w.alloc (.cells #[.int .i64 pS, .slice aS S.length cS, .slice ax x.length cx, .int .i64 pS, .int .i64 F] 50) := ⟨_, rfl⟩
  rw [← hw1] at HB0 k0 ⊢
  have hw0 : w.heap.size < w1.heap.size := by rw [hw1]; simp
  clear hw1
  have hs1 : Hid (BoxW w.heap.size pS aS S.length cS ax x.length cx F w1.drew) := k0
  have HBD : Hid (Below w.heap.size w w1.drew) := HB0.out.drew
  have hd0 : w.heap.size < w1.drew.heap.size := hw0
  go_region_held3 (fun w' => w'.cell? ⟨w.heap.size, 0, none⟩ = some (.int .i64 pS) ∧ w'.cell? ⟨w.heap.size, 1, none⟩ = some (.slice aS S.length cS) ∧ w'.cell? ⟨w.heap.size, 2, none⟩ = some (.slice ax x.length cx) ∧ w'.cell? ⟨w.heap.size, 3, none⟩ = some (.int .i64 pS) ∧ w'.cell? ⟨w.heap.size, 4, none⟩ = some (.int .i64 F)) (first | exact hs1.out | exact SSa.out | exact SSab.out | go_keep) (first | (go_at_call 88; (with_reducible refine (around_v pS aS S cS loS tpS ax x cx lox tpx av v cv lov tpv w1.drew HI.out (HS.out.below HBD.out tS) (Nat.le_trans tS (HBD.out).size) (Hx.out.below HBD.out tx) (Nat.le_trans tx (HBD.out).size) HMx.out (Hv.out.below HBD.out tv) (Nat.le_trans tv (HBD.out).size) HVV.out).mono ?_); rintro e wa ⟨ra, ka, rfl, o_, b_⟩; have SSa := Lib.hid ((hs1.out).below b_ hd0); have HBa := Lib.hid (below_step HBD.out (Nat.le_of_lt hd0) b_); have zz_ := b_.size; have hda := Nat.lt_of_lt_of_le hd0 zz_; have Oa_a := Lib.hid (OwnR.mono' o_ (Nat.le_of_lt hd0) (Nat.le_refl _)); have Ra_a := Lib.hid (Oa_a.out.row); clear b_ o_) | (go_at_call 89; (with_reducible refine (vectorNumbers_any pS aS S cS loS tpS ra (arM pS S x v) ka w.heap.size wa.heap.size wa HI.out (HS.out.below HBa.out tS) (Nat.le_trans tS (HBa.out).size) Ra_a.out (Nat.le_refl _) (arM_len _ _ _ _)).mono ?_); rintro e wab ⟨bb, rfl, l_, u_, o_, b_⟩; have SSab := Lib.hid ((SSa.out).below b_ hda); have HBab := Lib.hid (below_step HBa.out (Nat.le_of_lt hda) b_); have zz_ := b_.size; have hdab := Nat.lt_of_lt_of_le hda zz_; have Ra_ab := Lib.hid ((Ra_a.out.below b_ (Nat.le_refl _)).mono (Nat.le_refl _) zz_); have lb := Nat.lt_of_lt_of_le hda l_; have ub_ab := u_; have Nb_ab := Lib.hid o_; have Rb_ab := Lib.hid ((o_.own (Nat.le_of_lt lb) u_).row); clear b_ o_))
  go_wp2
  have hs2 : Hid (BoxW w.heap.size pS aS S.length cS ax x.length cx F wab.drew) := SSab.out
  have HBE : Hid (Below w.heap.size w wab.drew) := HBab.out.drew
  have hd2 : w.heap.size < wab.drew.heap.size := hdab
  obtain ⟨g, hg⟩ : ∃ g, g = bb := ⟨_, rfl⟩
  have ug : g < wab.drew.heap.size := by rw [hg]; exact ub_ab
  have NN : Hid (RowOwn wab.drew g 0 S.length (vnF (arM pS S x v))) := by show RowOwn _ _ _ _ _; rw [hg]; exact ⟨Nb_ab.out.cell, Nb_ab.out.free⟩
  have hgle : w.heap.size ≤ g := by rw [hg]; exact Nat.le_of_lt lb
  have hne : w.heap.size ≠ g := by rw [hg]; exact Nat.ne_of_lt lb
  rw [← hg]
  clear hg
  have hbn : S.length ≤ 100000 := by omega
  have HTB : Hid (∀ j, j < S.length → 0 ≤ vnF (arM pS S x v) j ∧ vnF (arM pS S x v) j < pS) := fun j hj => Mv.num (arM_mv HI.out x v) _ (by rw [arM_len]; exact Nat.pow_lt_pow_right (by decide) hj)
  have HIV : Hid (0 ≤ inv pS F ∧ inv pS F < pS) := inv_bd (isSp_iff.1 HI.out).prime F
  have hinv : inv pS F ≤ pS := Int.le_of_lt HIV.out.2
  have hfv := field_value
  go_region_held3 (fun w' => w'.cell? ⟨w.heap.size, 0, none⟩ = some (.int .i64 pS) ∧ w'.cell? ⟨w.heap.size, 1, none⟩ = some (.slice aS S.length cS) ∧ w'.cell? ⟨w.heap.size, 2, none⟩ = some (.slice ax x.length cx) ∧ w'.cell? ⟨w.heap.size, 3, none⟩ = some (.int .i64 pS) ∧ w'.cell? ⟨w.heap.size, 4, none⟩ = some (.int .i64 F)) (first | exact hs2.out | exact SSp.out | exact SSpq.out | go_keep) (first | (go_at_call 58; (with_reducible refine (inverse_any pS F wab.drew (isSp_iff.1 HI.out).prime HFB.out.1 HFB.out.2).mono ?_); rintro e wp ⟨rfl, b_⟩; have SSp := Lib.hid ((hs2.out).below b_ hd2); have HBp := Lib.hid (below_step HBE.out (Nat.le_of_lt hd2) b_); have zz_ := b_.size; have HCp := Lib.hid b_; have hdp := Nat.lt_of_lt_of_le hd2 zz_; clear b_) | (go_at_call 36; (with_reducible refine (scale_any pS (inv pS F) g 0 S.length S.length (vnF (arM pS S x v)) wp (isSp_iff.1 HI.out).prime (NN.out.stay (HCp.out.block g ug)) hbn HTB.out HIV.out.1 hinv).mono ?_); rintro e wpq ⟨rfl, o_, q_⟩; have b_ := q_.belowB (hgle); have zz_ : wp.heap.size ≤ wpq.heap.size := Nat.le_of_eq q_.size.symm; have SSpq := Lib.hid ((SSp.out).wrote q_ (hne)); have HBpq := Lib.hid ((HBp.out).trans b_); have hdpq := Nat.lt_of_lt_of_le hdp zz_; have Ng_pq := Lib.hid o_; clear b_ o_ q_))
  go_wp2
  go_ret
  have hz := HCp.out.size
  exact ⟨some ⟨g, 0, none⟩, S.length, by unfold sdM; rw [mkR_len]; rfl, by unfold sdM sdF; rw [← HFE.out]; exact Ng_pq.out.own hgle (Nat.lt_of_lt_of_le ug (Nat.le_trans hz zz_)), HBpq.out⟩

end Go.Proofs.YthbkfpkeofpocaaGreat

namespace Go.Proofs.YthbkfpkeofpocaaGreat
open Go.RowKit
set_option linter.unusedVariables false

theorem lead_v (k : Nat) (p q f : Int) (a0 a1 : Option Addr) (n0 c0 n1 c1 : Nat) (w : World) : (method (k + 1) 50 (.agg #[.int .i64 p, .slice a0 n0 c0, .slice a1 n1 c1, .int .i64 q, .int .i64 f]) "loop.example/g01124/impl.lead").run Tryz.prog w = .ok (132, (.agg #[.int .i64 p, .slice a0 n0 c0, .slice a1 n1 c1, .int .i64 q, .int .i64 f])) w := by kernel_rfl
theorem lead_v_nil (k : Nat) (p q f : Int) (a0 a1 : Option Addr) (n0 c0 n1 c1 : Nat) (w : World) : (nilAhead (k + 1) 50 (.agg #[.int .i64 p, .slice a0 n0 c0, .slice a1 n1 c1, .int .i64 q, .int .i64 f]) "loop.example/g01124/impl.lead").run Tryz.prog w = .ok (some false) w := by kernel_rfl
end Go.Proofs.YthbkfpkeofpocaaGreat

namespace Go.Proofs.YthbkfpkeofpocaaGreat
open Go.RowKit
set_option linter.unusedVariables false

/-- Five cells. -/
def Box5 (g : Nat) (v0 v1 v2 v3 v4 : Value) (W : World) : Prop :=
  W.cell? ⟨g, 0, none⟩ = some v0 ∧ W.cell? ⟨g, 1, none⟩ = some v1 ∧ W.cell? ⟨g, 2, none⟩ = some v2 ∧ W.cell? ⟨g, 3, none⟩ = some v3 ∧ W.cell? ⟨g, 4, none⟩ = some v4
theorem Box5.below {g B : Nat} {v0 v1 v2 v3 v4 : Value} {w w' : World} (h : Box5 g v0 v1 v2 v3 v4 w) (b : Below B w w') (l : g < B) : Box5 g v0 v1 v2 v3 v4 w' :=
  ⟨(b.cell (p := ⟨g, 0, none⟩) l).trans h.1, (b.cell (p := ⟨g, 1, none⟩) l).trans h.2.1, (b.cell (p := ⟨g, 2, none⟩) l).trans h.2.2.1, (b.cell (p := ⟨g, 3, none⟩) l).trans h.2.2.2.1, (b.cell (p := ⟨g, 4, none⟩) l).trans h.2.2.2.2⟩
/-- The boxes of a space and of a number. -/
def BoxU (g m : Nat) (p : Int) (aS : Option Addr) (n cS : Nat) (R : Int) (W : World) : Prop :=
  W.cell? ⟨g, 0, none⟩ = some (.int .i64 p) ∧ W.cell? ⟨g, 1, none⟩ = some (.slice aS n cS) ∧ W.cell? ⟨m, 0, none⟩ = some (.int .i64 p) ∧ W.cell? ⟨m, 1, none⟩ = some (.int .i64 R)
theorem BoxU.below {g m : Nat} {p R : Int} {aS : Option Addr} {n cS B : Nat} {w w' : World} (h : BoxU g m p aS n cS R w) (hb : Below B w w') (hg : g < B ∧ m < B) : BoxU g m p aS n cS R w' :=
  ⟨(hb.cell (p := ⟨g, 0, none⟩) hg.1).trans h.1, (hb.cell (p := ⟨g, 1, none⟩) hg.1).trans h.2.1, (hb.cell (p := ⟨m, 0, none⟩) hg.2).trans h.2.2.1, (hb.cell (p := ⟨m, 1, none⟩) hg.2).trans h.2.2.2⟩
theorem BoxU.wrote {g m b o k : Nat} {p R : Int} {aS : Option Addr} {n cS : Nat} {w w' : World} (h : BoxU g m p aS n cS R w) (hb : Wrote b o k w w') (hg : g ≠ b ∧ m ≠ b) : BoxU g m p aS n cS R w' :=
  ⟨(World.cell?_of_block (w := w) (a := ⟨g, 0, none⟩) (hb.block g hg.1)).trans h.1, (World.cell?_of_block (w := w) (a := ⟨g, 1, none⟩) (hb.block g hg.1)).trans h.2.1, (World.cell?_of_block (w := w) (a := ⟨m, 0, none⟩) (hb.block m hg.2)).trans h.2.2.1, (World.cell?_of_block (w := w) (a := ⟨m, 1, none⟩) (hb.block m hg.2)).trans h.2.2.2⟩
end Go.Proofs.YthbkfpkeofpocaaGreat
