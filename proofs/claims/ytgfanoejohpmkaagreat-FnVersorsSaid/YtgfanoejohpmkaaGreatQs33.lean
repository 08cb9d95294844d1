/-
  Inverses of versors, vectors led, sandwiches (program): contracts of the program and of the model.
  Conditions: the lists are nil or rows of known cells, of at most 1048576 numbers.
-/
import Derived.Test.YtgfanoejohpmkaaGreatQs32
import Derived.Test.YtgfanoejohpmkaaGreatQs24
import Derived.Deep.RegionHeld3
import Derived.Deep.DeepCutAuto
namespace Go.Proofs.YtgfanoejohpmkaaGreat
open Go.RowKit
set_option linter.unusedVariables false

/-- The cells of the box of a versor. -/
def BoxW (g : Nat) (p : Int) (aS : Option Addr) (n cS : Nat) (ax : Option Addr) (l cx : Nat) (F : Int) (W : World) : Prop :=
  W.cell? ⟨g, 0, none⟩ = some (.int .i64 p) ∧ W.cell? ⟨g, 1, none⟩ = some (.slice aS n cS) ∧ W.cell? ⟨g, 2, none⟩ = some (.slice ax l cx) ∧ W.cell? ⟨g, 3, none⟩ = some (.int .i64 p) ∧ W.cell? ⟨g, 4, none⟩ = some (.int .i64 F)
theorem BoxW.below {g : Nat} {p F : Int} {aS ax : Option Addr} {n cS l cx B : Nat} {w w' : World} (h : BoxW g p aS n cS ax l cx F w) (hb : Below B w w') (hg : g < B) : BoxW g p aS n cS ax l cx F w' :=
  ⟨(hb.cell (p := ⟨g, 0, none⟩) hg).trans h.1, (hb.cell (p := ⟨g, 1, none⟩) hg).trans h.2.1, (hb.cell (p := ⟨g, 2, none⟩) hg).trans h.2.2.1, (hb.cell (p := ⟨g, 3, none⟩) hg).trans h.2.2.2.1, (hb.cell (p := ⟨g, 4, none⟩) hg).trans h.2.2.2.2⟩
theorem BoxW.wrote {g b o m : Nat} {p F : Int} {aS ax : Option Addr} {n cS l cx : Nat} {w w' : World} (h : BoxW g p aS n cS ax l cx F w) (hb : Wrote b o m w w') (hg : g ≠ b) : BoxW g p aS n cS ax l cx F w' :=
  ⟨(World.cell?_of_block (w := w) (a := ⟨g, 0, none⟩) (hb.block g hg)).trans h.1, (World.cell?_of_block (w := w) (a := ⟨g, 1, none⟩) (hb.block g hg)).trans h.2.1, (World.cell?_of_block (w := w) (a := ⟨g, 2, none⟩) (hb.block g hg)).trans h.2.2.1, (World.cell?_of_block (w := w) (a := ⟨g, 3, none⟩) (hb.block g hg)).trans h.2.2.2.1, (World.cell?_of_block (w := w) (a := ⟨g, 4, none⟩) (hb.block g hg)).trans h.2.2.2.2⟩
theorem BoxW.new (w : World) (p : Int) (aS : Option Addr) (n cS : Nat) (ax : Option Addr) (l cx : Nat) (F : Int) (T : TypeId) : BoxW w.heap.size p aS n cS ax l cx F (w.alloc (.cells #[.int .i64 p, .slice aS n cS, .slice ax l cx, .int .i64 p, .int .i64 F] T)) :=
  ⟨by simp [go_sem], by simp [go_sem], by simp [go_sem], by simp [go_sem], by simp [go_sem]⟩
theorem viM_len {p : Int} (S x : List Int) : (viM p S x).length = x.length := by unfold viM sclV revM; rw [mkR_len, mkR_len]
theorem viM_row (p : Int) (S x : List Int) : viM p S x = mkR x.length fun j => sgF p c_reversal x j * inv p (nrF p S x) % p := by
  unfold viM sclV revM
  rw [mkR_len]
  exact mkR_congr fun j hj => by rw [mkR_at _ hj]
/-- What the sandwich makes of a multivector. -/
def swM (p : Int) (S x y : List Int) : List Int := prodM p S (prodM p S x (if parB x 0 = true then y else ivM p y)) (viM p S x)
theorem around_v (pS : Int) (aS : Option Addr) (S : List Int) (cS loS tpS : Nat) (ax : Option Addr) (x : List Int) (cx lox tpx : Nat) (av : Option Addr) (v : List Int) (cv lov tpv : Nat) (w : World) (hs : isSp pS S = true) (hS : RowIn loS tpS w aS S) (tS : tpS ≤ w.heap.size) (hx : RowIn lox tpx w ax x) (tx : tpx ≤ w.heap.size) (mx : isMv pS S x = true) (hv : RowIn lov tpv w av v) (tv : tpv ≤ w.heap.size) (mv : isVec pS S.length v = true) :
    Calls Tryz.prog 243 #[.agg #[.int .i64 pS, .slice aS S.length cS, .slice ax x.length cx], .slice av v.length cv] w (OwnE (arM pS S x v) w) := around_own pS aS S cS loS tpS ax x cx lox tpx av v cv lov tpv w hs hS tS hx tx mx hv tv mv
theorem product_ri (pS : Int) (aS : Option Addr) (S : List Int) (cS loS tpS : Nat) (az : Option Addr) (z : List Int) (cz loz tpz : Nat) (x : List Int) (ar : Option Addr) (cr lo tp : Nat) (W : World) (hs : isSp pS S = true) (hS : RowIn loS tpS W aS S) (tS : tpS ≤ W.heap.size) (hz : RowIn loz tpz W az z) (tz : tpz ≤ W.heap.size) (mz : isMv pS S z = true) (h : RowIn lo tp W ar (viM pS S x)) (th : tp ≤ W.heap.size) (mx : isMv pS S x = true) :
    Calls Tryz.prog 184 #[.agg #[.int .i64 pS, .slice aS S.length cS], .slice az z.length cz, .slice ar (viM pS S x).length cr] W (OwnE (prodM pS S z (viM pS S x)) W) := product_own pS aS S cS loS tpS az z cz loz tpz ar (viM pS S x) cr lo tp W hs hS tS hz tz mz h th (vi_mv hs mx)

set_option maxRecDepth 100000 in
set_option maxHeartbeats 6400000 in
theorem inverse_own (pS : Int) (aS : Option Addr) (S : List Int) (cS loS tpS : Nat) (ax : Option Addr) (x : List Int) (cx lox tpx : Nat) (F : Int) (w : World) (hs : isSp pS S = true) (hS : RowIn loS tpS w aS S) (tS : tpS ≤ w.heap.size) (hx : RowIn lox tpx w ax x) (tx : tpx ≤ w.heap.size) (mx : isMv pS S x = true) (hF : F = nrF pS S x) :
    Calls Tryz.prog 101 #[.agg #[.int .i64 pS, .slice aS S.length cS, .slice ax x.length cx, .int .i64 pS, .int .i64 F]] w (OwnE (viM pS S x) w) := by
  have HI := Lib.hid hs
  have HS := Lib.hid hS
  have Hx := Lib.hid hx
  have HMx := Lib.hid mx
  have HFE := Lib.hid hF
  have h6 := (isSp_iff.1 hs).hi
  have hpb := prm_bd (isSp_iff.1 hs).prime
  have hbl := bl_le h6
  have hb0 := bl_pos S
  have HB0 := Lib.hid (below_alloc w (.cells #[.int .i64 pS, .slice aS S.length cS, .slice ax x.length cx, .int .i64 pS, .int .i64 F] 86))
  have k0 := BoxW.new w pS aS S.length cS ax x.length cx F 86
  have HFB : Hid (0 ≤ F ∧ F < pS) := by show _ ∧ _; rw [hF]; exact nrF_bd hs x
  have hx64 : x.length ≤ 64 := by rw [Mv.len mx]; exact bl_le (isSp_iff.1 hs).hi
  clear hs hS hx mx hF
  go_enter Tryz.func101, Tryz.ntmps101
  go_upto_region 1 with fail
  obtain ⟨w1, hw1⟩ : ∃ z, z = w.alloc (.cells #[.int .i64 pS, .slice aS S.length cS, .slice ax x.length cx, .int .i64 pS, .int .i64 F] 86) := ⟨_, rfl⟩
  rw [← hw1] at HB0 k0 ⊢
  have hw0 : w.heap.size < w1.heap.size := by rw [hw1]; simp
  clear hw1
  obtain ⟨q0, q1, q2, q3, q4⟩ := k0
  have K0 : Hid (BoxW w.heap.size pS aS S.length cS ax x.length cx F w1) := ⟨q0, q1, q2, q3, q4⟩
  go_upto_region 2 with (go_at_call 191; ((with_reducible refine (withSigns_reversal pS aS S cS ax x cx lox tpx w1 (isSp_iff.1 HI.out).prime (Hx.out.below HB0.out tx) (Nat.le_trans tx HB0.out.size) hx64 (Mv.nums HMx.out)).mono ?_); rintro e w2 ⟨g, rfl, l_, u_, o_, b_⟩; have NN0 := Lib.hid o_; have S2 := Lib.hid (K0.out.below b_ hw0); have HB2 := Lib.hid (below_step HB0.out HB0.out.size b_); have lg := Nat.lt_of_lt_of_le hw0 l_; have hd2' := Nat.lt_of_lt_of_le hw0 b_.size; have ug' := u_; clear o_ b_ l_ u_ q0 q1 q2 q3 q4))
  have hs2 : Hid (BoxW w.heap.size pS aS S.length cS ax x.length cx F w2.drew) := S2.out
  have HBE : Hid (Below w.heap.size w w2.drew) := HB2.out.drew
  have hd2 : w.heap.size < w2.drew.heap.size := hd2'
  have ug : g < w2.drew.heap.size := ug'
  have NN : Hid (RowOwn w2.drew g 0 x.length (sgF pS c_reversal x)) := ⟨NN0.out.cell, NN0.out.free⟩
  have hgle : w.heap.size ≤ g := Nat.le_of_lt lg
  have hne : w.heap.size ≠ g := Nat.ne_of_lt lg
  have hbn : x.length ≤ 100000 := by omega
  have HTB : Hid (∀ j, j < x.length → 0 ≤ sgF pS c_reversal x j ∧ sgF pS c_reversal x j < pS) := fun j hj => by
    have := Mv.num (rev_mv HI.out HMx.out) j (by unfold revM; rw [mkR_len]; exact hj)
    unfold revM at this
    rw [mkR_at _ hj] at this
    exact this
  have HIV : Hid (0 ≤ inv pS F ∧ inv pS F < pS) := inv_bd (isSp_iff.1 HI.out).prime F
  have hinv : inv pS F ≤ pS := Int.le_of_lt HIV.out.2
  have hfv := field_value
  go_region_held3 (fun w' => w'.cell? ⟨w.heap.size, 0, none⟩ = some (.int .i64 pS) ∧ w'.cell? ⟨w.heap.size, 1, none⟩ = some (.slice aS S.length cS) ∧ w'.cell? ⟨w.heap.size, 2, none⟩ = some (.slice ax x.length cx) ∧ w'.cell? ⟨w.heap.size, 3, none⟩ = some (.int .i64 pS) ∧ w'.cell? ⟨w.heap.size, 4, none⟩ = some (.int .i64 F)) (first | exact hs2.out | exact SSp.out | exact SSpq.out | go_keep) (first | (go_at_call 125; (with_reducible refine (inverse_any pS F w2.drew (isSp_iff.1 HI.out).prime HFB.out.1 HFB.out.2).mono ?_); rintro e wp ⟨rfl, b_⟩; have SSp := Lib.hid ((hs2.out).below b_ hd2); have HBp := Lib.hid (below_step HBE.out (Nat.le_of_lt hd2) b_); have zz_ := b_.size; have HCp := Lib.hid b_; have hdp := Nat.lt_of_lt_of_le hd2 zz_; clear b_) | (go_at_call 124; (with_reducible refine (scale_any pS (inv pS F) g 0 x.length x.length (sgF pS c_reversal x) wp (isSp_iff.1 HI.out).prime (NN.out.stay (HCp.out.block g ug)) hbn HTB.out HIV.out.1 hinv).mono ?_); rintro e wpq ⟨rfl, o_, q_⟩; have b_ := q_.belowB (hgle); have zz_ : wp.heap.size ≤ wpq.heap.size := Nat.le_of_eq q_.size.symm; have SSpq := Lib.hid ((SSp.out).wrote q_ (hne)); have HBpq := Lib.hid ((HBp.out).trans b_); have hdpq := Nat.lt_of_lt_of_le hdp zz_; have Ng_pq := Lib.hid o_; clear b_ o_ q_))
  go_wp2
  go_ret
  have hz := HCp.out.size
  exact ⟨some ⟨g, 0, none⟩, x.length, by rw [viM_len]; rfl, by rw [viM_row, ← HFE.out]; exact Ng_pq.out.own hgle (Nat.lt_of_lt_of_le ug (Nat.le_trans hz zz_)), HBpq.out⟩

set_option maxRecDepth 100000 in
set_option maxHeartbeats 6400000 in
theorem lead_own (pS : Int) (aS : Option Addr) (S : List Int) (cS loS tpS : Nat) (ax : Option Addr) (x : List Int) (cx lox tpx : Nat) (F : Int) (av : Option Addr) (v : List Int) (cv lov tpv : Nat) (w : World) (hs : isSp pS S = true) (hS : RowIn loS tpS w aS S) (tS : tpS ≤ w.heap.size) (hx : RowIn lox tpx w ax x) (tx : tpx ≤ w.heap.size) (mx : isMv pS S x = true) (hF : F = nrF pS S x) (hv : RowIn lov tpv w av v) (tv : tpv ≤ w.heap.size) (mv : isVec pS S.length v = true) :
    Calls Tryz.prog 298 #[.agg #[.int .i64 pS, .slice aS S.length cS, .slice ax x.length cx, .int .i64 pS, .int .i64 F], .slice av v.length cv] w (OwnE (sdM pS S x v) w) := by
  have HI := Lib.hid hs
  have HS := Lib.hid hS
  have Hx := Lib.hid hx
  have HMx := Lib.hid mx
  have HFE := Lib.hid hF
  have Hv := Lib.hid hv
  have h6 := (isSp_iff.1 hs).hi
  have hpb := prm_bd (isSp_iff.1 hs).prime
  have hbl := bl_le h6
  have hb0 := bl_pos S
  have HB0 := Lib.hid (below_alloc w (.cells #[.int .i64 pS, .slice aS S.length cS, .slice ax x.length cx, .int .i64 pS, .int .i64 F] 86))
  have k0 := BoxW.new w pS aS S.length cS ax x.length cx F 86
  have HFB : Hid (0 ≤ F ∧ F < pS) := by show _ ∧ _; rw [hF]; exact nrF_bd hs x
  have HVV := Lib.hid mv
  clear mv
  clear hs hS hx mx hF hv
  go_enter Tryz.func298, Tryz.ntmps298
  go_upto_region 1 with fail
  obtain ⟨w1, hw1⟩ : ∃ z, z = w.alloc (.cells #[.int .i64 pS, .slice aS S.length cS, .slice ax x.length cx, .int .i64 pS, .int .i64 F] 86) := ⟨_, rfl⟩
  rw [← hw1] at HB0 k0 ⊢
  have hw0 : w.heap.size < w1.heap.size := by rw [hw1]; simp
  clear hw1
  have hs1 : Hid (BoxW w.heap.size pS aS S.length cS ax x.length cx F w1.drew) := k0
  have HBD : Hid (Below w.heap.size w w1.drew) := HB0.out.drew
  have hd0 : w.heap.size < w1.drew.heap.size := hw0
  go_region_held3 (fun w' => w'.cell? ⟨w.heap.size, 0, none⟩ = some (.int .i64 pS) ∧ w'.cell? ⟨w.heap.size, 1, none⟩ = some (.slice aS S.length cS) ∧ w'.cell? ⟨w.heap.size, 2, none⟩ = some (.slice ax x.length cx) ∧ w'.cell? ⟨w.heap.size, 3, none⟩ = some (.int .i64 pS) ∧ w'.cell? ⟨w.heap.size, 4, none⟩ = some (.int .i64 F)) (first | exact hs1.out | exact SSa.out | exact SSab.out | go_keep) (first | (go_at_call 243; (with_reducible refine (around_v pS aS S cS loS tpS ax x cx lox tpx av v cv lov tpv w1.drew HI.out (HS.out.below HBD.out tS) (Nat.le_trans tS (HBD.out).size) (Hx.out.below HBD.out tx) (Nat.le_trans tx (HBD.out).size) HMx.out (Hv.out.below HBD.out tv) (Nat.le_trans tv (HBD.out).size) HVV.out).mono ?_); rintro e wa ⟨ra, ka, rfl, o_, b_⟩; have SSa := Lib.hid ((hs1.out).below b_ hd0); have HBa := Lib.hid (below_step HBD.out (Nat.le_of_lt hd0) b_); have zz_ := b_.size; have hda := Nat.lt_of_lt_of_le hd0 zz_; have Oa_a := Lib.hid (OwnR.mono' o_ (Nat.le_of_lt hd0) (Nat.le_refl _)); have Ra_a := Lib.hid (Oa_a.out.row); clear b_ o_) | (go_at_call 244; (with_reducible refine (vectorNumbers_any pS aS S cS loS tpS ra (arM pS S x v) ka w.heap.size wa.heap.size wa HI.out (HS.out.below HBa.out tS) (Nat.le_trans tS (HBa.out).size) Ra_a.out (Nat.le_refl _) (arM_len _ _ _ _)).mono ?_); rintro e wab ⟨bb, rfl, l_, u_, o_, b_⟩; have SSab := Lib.hid ((SSa.out).below b_ hda); have HBab := Lib.hid (below_step HBa.out (Nat.le_of_lt hda) b_); have zz_ := b_.size; have hdab := Nat.lt_of_lt_of_le hda zz_; have Ra_ab := Lib.hid ((Ra_a.out.below b_ (Nat.le_refl _)).mono (Nat.le_refl _) zz_); have lb := Nat.lt_of_lt_of_le hda l_; have ub_ab := u_; have Nb_ab := Lib.hid o_; have Rb_ab := Lib.hid ((o_.own (Nat.le_of_lt lb) u_).row); clear b_ o_))
  go_wp2
  have hs2 : Hid (BoxW w.heap.size pS aS S.length cS ax x.length cx F wab.drew) := SSab.out
  have HBE : Hid (Below w.heap.size w wab.drew) := HBab.out.drew
  have hd2 : w.heap.size < wab.drew.heap.size := hdab
  obtain ⟨g, hg⟩ : ∃ g, g = bb := ⟨_, rfl⟩
  have ug : g < wab.drew.heap.size := by rw [hg]; exact ub_ab
  have NN : Hid (RowOwn wab.drew g 0 S.length (vnF (arM pS S x v))) := by show RowOwn _ _ _ _ _; rw [hg]; exact ⟨Nb_ab.out.cell, Nb_ab.out.free⟩
  have hgle : w.heap.size ≤ g := by rw [hg]; exact Nat.le_of_lt lb
  have hne : w.heap.size ≠ g := by rw [hg]; exact Nat.ne_of_lt lb
  rw [← hg]
  clear hg
  have hbn : S.length ≤ 100000 := by omega
  have HTB : Hid (∀ j, j < S.length → 0 ≤ vnF (arM pS S x v) j ∧ vnF (arM pS S x v) j < pS) := fun j hj => Mv.num (arM_mv HI.out x v) _ (by rw [arM_len]; exact Nat.pow_lt_pow_right (by decide) hj)
  have HIV : Hid (0 ≤ inv pS F ∧ inv pS F < pS) := inv_bd (isSp_iff.1 HI.out).prime F
  have hinv : inv pS F ≤ pS := Int.le_of_lt HIV.out.2
  have hfv := field_value
  go_region_held3 (fun w' => w'.cell? ⟨w.heap.size, 0, none⟩ = some (.int .i64 pS) ∧ w'.cell? ⟨w.heap.size, 1, none⟩ = some (.slice aS S.length cS) ∧ w'.cell? ⟨w.heap.size, 2, none⟩ = some (.slice ax x.length cx) ∧ w'.cell? ⟨w.heap.size, 3, none⟩ = some (.int .i64 pS) ∧ w'.cell? ⟨w.heap.size, 4, none⟩ = some (.int .i64 F)) (first | exact hs2.out | exact SSp.out | exact SSpq.out | go_keep) (first | (go_at_call 125; (with_reducible refine (inverse_any pS F wab.drew (isSp_iff.1 HI.out).prime HFB.out.1 HFB.out.2).mono ?_); rintro e wp ⟨rfl, b_⟩; have SSp := Lib.hid ((hs2.out).below b_ hd2); have HBp := Lib.hid (below_step HBE.out (Nat.le_of_lt hd2) b_); have zz_ := b_.size; have HCp := Lib.hid b_; have hdp := Nat.lt_of_lt_of_le hd2 zz_; clear b_) | (go_at_call 124; (with_reducible refine (scale_any pS (inv pS F) g 0 S.length S.length (vnF (arM pS S x v)) wp (isSp_iff.1 HI.out).prime (NN.out.stay (HCp.out.block g ug)) hbn HTB.out HIV.out.1 hinv).mono ?_); rintro e wpq ⟨rfl, o_, q_⟩; have b_ := q_.belowB (hgle); have zz_ : wp.heap.size ≤ wpq.heap.size := Nat.le_of_eq q_.size.symm; have SSpq := Lib.hid ((SSp.out).wrote q_ (hne)); have HBpq := Lib.hid ((HBp.out).trans b_); have hdpq := Nat.lt_of_lt_of_le hdp zz_; have Ng_pq := Lib.hid o_; clear b_ o_ q_))
  go_wp2
  go_ret
  have hz := HCp.out.size
  exact ⟨some ⟨g, 0, none⟩, S.length, by unfold sdM; rw [mkR_len]; rfl, by unfold sdM sdF; rw [← HFE.out]; exact Ng_pq.out.own hgle (Nat.lt_of_lt_of_le ug (Nat.le_trans hz zz_)), HBpq.out⟩

set_option maxRecDepth 100000 in
set_option maxHeartbeats 6400000 in
theorem sandwich_own (pS : Int) (aS : Option Addr) (S : List Int) (cS loS tpS : Nat) (ax : Option Addr) (x : List Int) (cx lox tpx : Nat) (F : Int) (ay : Option Addr) (y : List Int) (cy loy tpy : Nat) (w : World) (hs : isSp pS S = true) (hS : RowIn loS tpS w aS S) (tS : tpS ≤ w.heap.size) (hx : RowIn lox tpx w ax x) (tx : tpx ≤ w.heap.size) (mx : isMv pS S x = true) (hF : F = nrF pS S x) (hy : RowIn loy tpy w ay y) (ty : tpy ≤ w.heap.size) (my : isMv pS S y = true) :
    Calls Tryz.prog 111 #[.agg #[.int .i64 pS, .slice aS S.length cS, .slice ax x.length cx, .int .i64 pS, .int .i64 F], .slice ay y.length cy] w (OwnE (swM pS S x y) w) := by
  have HI := Lib.hid hs
  have HS := Lib.hid hS
  have Hx := Lib.hid hx
  have HMx := Lib.hid mx
  have HFE := Lib.hid hF
  have Hy := Lib.hid hy
  have h6 := (isSp_iff.1 hs).hi
  have hpb := prm_bd (isSp_iff.1 hs).prime
  have hbl := bl_le h6
  have hb0 := bl_pos S
  have HB0 := Lib.hid (below_alloc w (.cells #[.int .i64 pS, .slice aS S.length cS, .slice ax x.length cx, .int .i64 pS, .int .i64 F] 86))
  have k0 := BoxW.new w pS aS S.length cS ax x.length cx F 86
  have HFB : Hid (0 ≤ F ∧ F < pS) := by show _ ∧ _; rw [hF]; exact nrF_bd hs x
  have HMy := Lib.hid my
  clear my
  clear hs hS hx mx hF hy
  go_enter Tryz.func111, Tryz.ntmps111
  go_upto_region 1 with fail
  obtain ⟨w1, hw1⟩ : ∃ z, z = w.alloc (.cells #[.int .i64 pS, .slice aS S.length cS, .slice ax x.length cx, .int .i64 pS, .int .i64 F] 86) := ⟨_, rfl⟩
  rw [← hw1] at HB0 k0 ⊢
  have hw0 : w.heap.size < w1.heap.size := by rw [hw1]; simp
  clear hw1
  obtain ⟨q0, q1, q2, q3, q4⟩ := k0
  have K0 : Hid (BoxW w.heap.size pS aS S.length cS ax x.length cx F w1) := ⟨q0, q1, q2, q3, q4⟩
  cases hpar : parB x 0 with
  | true =>
    have HPR := Lib.hid hpar
    clear hpar
    go_upto_region 3 with (go_at_call 102; ((with_reducible refine (hasParity_0 pS aS S cS loS tpS ax x cx lox tpx w1 HI.out (HS.out.below HB0.out tS) (Nat.le_trans tS HB0.out.size) (Hx.out.below HB0.out tx) (Nat.le_trans tx HB0.out.size) HMx.out).mono ?_); rintro e w2 ⟨rfl, b_⟩; rw [HPR.out]; have S2 := Lib.hid (K0.out.below b_ hw0); have HB2 := Lib.hid (below_step HB0.out HB0.out.size b_); have hd2' := Nat.lt_of_lt_of_le hw0 b_.size; clear b_ q0 q1 q2 q3 q4; obtain ⟨q0, q1, q2, q3, q4⟩ := S2.out))
    obtain ⟨Y, hY⟩ : ∃ Y, Y = y := ⟨_, rfl⟩
    have HYE : Hid (swM pS S x y = prodM pS S (prodM pS S x Y) (viM pS S x)) := by show _ = _; unfold swM; rw [if_pos HPR.out, hY]
    have hYl : y.length = Y.length := by rw [hY]
    have RY0 : Hid (RowIn loy tpy w2.drew ay Y) := by show RowIn _ _ _ _ _; rw [hY]; exact Hy.out.below HB2.out.drew ty
    have TY : tpy ≤ w2.drew.heap.size := Nat.le_trans ty HB2.out.size
    have HMY : Hid (isMv pS S Y = true) := by show _ = _; rw [hY]; exact HMy.out
    clear q0 q1 q2 q3 q4
    rw [hYl]
    clear hY hYl
    have hs2 : Hid (BoxW w.heap.size pS aS S.length cS ax x.length cx F w2.drew) := S2.out
    have HBE : Hid (Below w.heap.size w w2.drew) := HB2.out.drew
    have hd2 : w.heap.size < w2.drew.heap.size := hd2'
    go_region_held3 (fun w' => w'.cell? ⟨w.heap.size, 0, none⟩ = some (.int .i64 pS) ∧ w'.cell? ⟨w.heap.size, 1, none⟩ = some (.slice aS S.length cS) ∧ w'.cell? ⟨w.heap.size, 2, none⟩ = some (.slice ax x.length cx) ∧ w'.cell? ⟨w.heap.size, 3, none⟩ = some (.int .i64 pS) ∧ w'.cell? ⟨w.heap.size, 4, none⟩ = some (.int .i64 F)) (first | exact hs2.out | exact SSa.out | exact SSab.out | exact SSabc.out | go_keep) (first | (go_at_call 184; (with_reducible refine (product_own pS aS S cS loS tpS ax x cx lox tpx ay Y cy loy tpy w2.drew HI.out (HS.out.below HBE.out tS) (Nat.le_trans tS (HBE.out).size) (Hx.out.below HBE.out tx) (Nat.le_trans tx (HBE.out).size) HMx.out (RY0.out.below (Below.refl w2.drew.heap.size _) TY) (Nat.le_trans TY ((Below.refl w2.drew.heap.size _)).size) HMY.out).mono ?_); rintro e wa ⟨ra, ka, rfl, o_, b_⟩; have SSa := Lib.hid ((hs2.out).below b_ hd2); have HBa := Lib.hid (below_step HBE.out (Nat.le_of_lt hd2) b_); have zz_ := b_.size; have HCa := Lib.hid b_; have hda := Nat.lt_of_lt_of_le hd2 zz_; have Oa_a := Lib.hid (OwnR.mono' o_ (Nat.le_of_lt hd2) (Nat.le_refl _)); have Ra_a := Lib.hid (Oa_a.out.row); clear b_ o_) | (go_at_call 101; (with_reducible refine (inverse_own pS aS S cS loS tpS ax x cx lox tpx F wa HI.out (HS.out.below HBa.out tS) (Nat.le_trans tS (HBa.out).size) (Hx.out.below HBa.out tx) (Nat.le_trans tx (HBa.out).size) HMx.out HFE.out).mono ?_); rintro e wab ⟨rb, kb, rfl, o_, b_⟩; have SSab := Lib.hid ((SSa.out).below b_ hda); have HBab := Lib.hid (below_step HBa.out (Nat.le_of_lt hda) b_); have zz_ := b_.size; have HCab := Lib.hid (below_step HCa.out (HCa.out).size b_); have hdab := Nat.lt_of_lt_of_le hda zz_; have Ra_ab := Lib.hid ((Ra_a.out.below b_ (Nat.le_refl _)).mono (Nat.le_refl _) zz_); have Ob_ab := Lib.hid (OwnR.mono' o_ (Nat.le_of_lt hda) (Nat.le_refl _)); have Rb_ab := Lib.hid (Ob_ab.out.row); clear b_ o_) | (go_at_call 184; (with_reducible refine (product_ri pS aS S cS loS tpS ra (prodM pS S x Y) ka w.heap.size wab.heap.size x rb kb w.heap.size wab.heap.size wab HI.out (HS.out.below HBab.out tS) (Nat.le_trans tS (HBab.out).size) Ra_ab.out (Nat.le_refl _) (prod_mv HI.out _ _) Rb_ab.out (Nat.le_refl _) HMx.out).mono ?_); rintro e wabc ⟨rc, kc, rfl, o_, b_⟩; have SSabc := Lib.hid ((SSab.out).below b_ hdab); have HBabc := Lib.hid (below_step HBab.out (Nat.le_of_lt hdab) b_); have zz_ := b_.size; have HCabc := Lib.hid (below_step HCab.out (HCab.out).size b_); have hdabc := Nat.lt_of_lt_of_le hdab zz_; have Ra_abc := Lib.hid ((Ra_ab.out.below b_ (Nat.le_refl _)).mono (Nat.le_refl _) zz_); have Rb_abc := Lib.hid ((Rb_ab.out.below b_ (Nat.le_refl _)).mono (Nat.le_refl _) zz_); have Oc_abc := Lib.hid (OwnR.mono' o_ (Nat.le_of_lt hdab) (Nat.le_refl _)); have Rc_abc := Lib.hid (Oc_abc.out.row); clear b_ o_))
    all_goals
      go_wp2
      go_ret
      rw [HYE.out]
      exact ⟨rc, kc, rfl, Oc_abc.out, HBabc.out⟩
  | false =>
    have HPR := Lib.hid hpar
    clear hpar
    go_upto_region 3 with (first | (go_at_call 102; ((with_reducible refine (hasParity_0 pS aS S cS loS tpS ax x cx lox tpx w1 HI.out (HS.out.below HB0.out tS) (Nat.le_trans tS HB0.out.size) (Hx.out.below HB0.out tx) (Nat.le_trans tx HB0.out.size) HMx.out).mono ?_); rintro e w2 ⟨rfl, b_⟩; rw [HPR.out]; have S2 := Lib.hid (K0.out.below b_ hw0); have HB2 := Lib.hid (below_step HB0.out HB0.out.size b_); have hd2' := Nat.lt_of_lt_of_le hw0 b_.size; clear b_ q0 q1 q2 q3 q4; obtain ⟨q0, q1, q2, q3, q4⟩ := S2.out)) | (go_at_call 191; ((with_reducible refine (withSigns_involution pS aS S cS ay y cy loy tpy w2 (isSp_iff.1 HI.out).prime (Hy.out.below HB2.out ty) (Nat.le_trans ty HB2.out.size) (by rw [Mv.len HMy.out]; omega) (Mv.nums HMy.out)).mono ?_); rintro e w3 ⟨by_, rfl, l_, u_, o_, b_⟩; have RY := Lib.hid ((o_.own (Nat.le_of_lt (Nat.lt_of_lt_of_le hd2' l_)) u_).row); have S3 := Lib.hid (S2.out.below b_ hd2'); have HB3 := Lib.hid (below_step HB2.out HB2.out.size b_); have hd3' := Nat.lt_of_lt_of_le hd2' b_.size; clear o_ b_ l_ u_ q0 q1 q2 q3 q4)))
    obtain ⟨Y, hY⟩ : ∃ Y, Y = ivM pS y := ⟨_, rfl⟩
    have HYE : Hid (swM pS S x y = prodM pS S (prodM pS S x Y) (viM pS S x)) := by show _ = _; unfold swM; rw [if_neg (by rw [HPR.out]; decide), hY]
    have hYl : y.length = Y.length := by rw [hY]; exact (mkR_len _ _).symm
    have RY0 : Hid (RowIn w.heap.size w3.heap.size w3.drew (some ⟨by_, 0, none⟩) Y) := by show RowIn _ _ _ _ _; rw [hY]; exact RY.out
    have TY : w3.heap.size ≤ w3.drew.heap.size := Nat.le_refl _
    have HMY : Hid (isMv pS S Y = true) := by show _ = _; rw [hY]; exact iv_mv HI.out HMy.out
    rw [hYl]
    clear hY hYl
    have hs2 : Hid (BoxW w.heap.size pS aS S.length cS ax x.length cx F w3.drew) := S3.out
    have HBE : Hid (Below w.heap.size w w3.drew) := HB3.out.drew
    have hd2 : w.heap.size < w3.drew.heap.size := hd3'
    go_region_held3 (fun w' => w'.cell? ⟨w.heap.size, 0, none⟩ = some (.int .i64 pS) ∧ w'.cell? ⟨w.heap.size, 1, none⟩ = some (.slice aS S.length cS) ∧ w'.cell? ⟨w.heap.size, 2, none⟩ = some (.slice ax x.length cx) ∧ w'.cell? ⟨w.heap.size, 3, none⟩ = some (.int .i64 pS) ∧ w'.cell? ⟨w.heap.size, 4, none⟩ = some (.int .i64 F)) (first | exact hs2.out | exact SSa.out | exact SSab.out | exact SSabc.out | go_keep) (first | (go_at_call 184; (with_reducible refine (product_own pS aS S cS loS tpS ax x cx lox tpx (some ⟨by_, 0, none⟩) Y Y.length w.heap.size w3.heap.size w3.drew HI.out (HS.out.below HBE.out tS) (Nat.le_trans tS (HBE.out).size) (Hx.out.below HBE.out tx) (Nat.le_trans tx (HBE.out).size) HMx.out (RY0.out.below (Below.refl w3.drew.heap.size _) TY) (Nat.le_trans TY ((Below.refl w3.drew.heap.size _)).size) HMY.out).mono ?_); rintro e wa ⟨ra, ka, rfl, o_, b_⟩; have SSa := Lib.hid ((hs2.out).below b_ hd2); have HBa := Lib.hid (below_step HBE.out (Nat.le_of_lt hd2) b_); have zz_ := b_.size; have HCa := Lib.hid b_; have hda := Nat.lt_of_lt_of_le hd2 zz_; have Oa_a := Lib.hid (OwnR.mono' o_ (Nat.le_of_lt hd2) (Nat.le_refl _)); have Ra_a := Lib.hid (Oa_a.out.row); clear b_ o_) | (go_at_call 101; (with_reducible refine (inverse_own pS aS S cS loS tpS ax x cx lox tpx F wa HI.out (HS.out.below HBa.out tS) (Nat.le_trans tS (HBa.out).size) (Hx.out.below HBa.out tx) (Nat.le_trans tx (HBa.out).size) HMx.out HFE.out).mono ?_); rintro e wab ⟨rb, kb, rfl, o_, b_⟩; have SSab := Lib.hid ((SSa.out).below b_ hda); have HBab := Lib.hid (below_step HBa.out (Nat.le_of_lt hda) b_); have zz_ := b_.size; have HCab := Lib.hid (below_step HCa.out (HCa.out).size b_); have hdab := Nat.lt_of_lt_of_le hda zz_; have Ra_ab := Lib.hid ((Ra_a.out.below b_ (Nat.le_refl _)).mono (Nat.le_refl _) zz_); have Ob_ab := Lib.hid (OwnR.mono' o_ (Nat.le_of_lt hda) (Nat.le_refl _)); have Rb_ab := Lib.hid (Ob_ab.out.row); clear b_ o_) | (go_at_call 184; (with_reducible refine (product_ri pS aS S cS loS tpS ra (prodM pS S x Y) ka w.heap.size wab.heap.size x rb kb w.heap.size wab.heap.size wab HI.out (HS.out.below HBab.out tS) (Nat.le_trans tS (HBab.out).size) Ra_ab.out (Nat.le_refl _) (prod_mv HI.out _ _) Rb_ab.out (Nat.le_refl _) HMx.out).mono ?_); rintro e wabc ⟨rc, kc, rfl, o_, b_⟩; have SSabc := Lib.hid ((SSab.out).below b_ hdab); have HBabc := Lib.hid (below_step HBab.out (Nat.le_of_lt hdab) b_); have zz_ := b_.size; have HCabc := Lib.hid (below_step HCab.out (HCab.out).size b_); have hdabc := Nat.lt_of_lt_of_le hdab zz_; have Ra_abc := Lib.hid ((Ra_ab.out.below b_ (Nat.le_refl _)).mono (Nat.le_refl _) zz_); have Rb_abc := Lib.hid ((Rb_ab.out.below b_ (Nat.le_refl _)).mono (Nat.le_refl _) zz_); have Oc_abc := Lib.hid (OwnR.mono' o_ (Nat.le_of_lt hdab) (Nat.le_refl _)); have Rc_abc := Lib.hid (Oc_abc.out.row); clear b_ o_))
    all_goals
      go_wp2
      go_ret
      rw [HYE.out]
      exact ⟨rc, kc, rfl, Oc_abc.out, HBabc.out⟩

end Go.Proofs.YtgfanoejohpmkaaGreat
