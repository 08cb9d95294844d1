/-
  What is around vectors, parities, numbers of basis vectors (program): contracts of the program and of the model.
  Conditions: the lists are nil or rows of known cells, of at most 1048576 numbers.
  What the program's and the model's checks of lists of numbers, matrices and lists of vectors return.
  Conditions: they are nil or rows of known cells.
  Checks of lists of vectors under one bound on all numbers.
  Conditions: they are nil or rows of known cells, of at most 1048576 numbers.
  What the program's checks of matrices return, and its new matrices of zeros.
  Conditions: the matrices are nil or rows of known cells.
  What the model's turned matrices are: a contract.
  Conditions: the matrix is a row of rows of known cells, all of one length.
  Products of matrices, in the program and in the model: contracts.
  Conditions: the matrices are rows of rows of known cells with numbers of the prime; their sizes fit.
  The model's products of matrices: a contract.
  Conditions: the matrices are rows of rows of known cells with numbers of the prime; their sizes fit.
  Sizes of matrices.
  No conditions.
  TransposeMatrix, in the program and in the model.
  Conditions: the arguments are nil or rows of known cells, of at most 1048576 numbers.
  Square matrices, in the model.
  Conditions: the arguments are nil or rows of known cells, of at most 1048576 numbers.
  Traces, in the program and in the model.
  Conditions: the arguments are nil or rows of known cells, of at most 1048576 numbers.
-/
import Derived.Test.YthbkfpkeofpocaaGreatQv16
import Derived.Deep.RegionHeld3
import Derived.Deep.DeepCutAuto
import Derived.Test.YthbkfpkeofpocaaGreatQv2
import Derived.Test.YthbkfpkeofpocaaGreatQv4
import Derived.RegionTactic
import Derived.ChangeAlike
import Derived.Test.YthbkfpkeofpocaaGreatQv13
import Derived.Deep.AppendLies
import Derived.Test.YthbkfpkeofpocaaGreatQv5
namespace Go.Proofs.YthbkfpkeofpocaaGreat
open Go.RowKit
set_option linter.unusedVariables false

/-- The cells of the box of a multivector. -/
def BoxM (g : Nat) (p : Int) (aS : Option Addr) (n cS : Nat) (ax : Option Addr) (l cx : Nat) (W : World) : Prop :=
  W.cell? ⟨g, 0, none⟩ = some (.int .i64 p) ∧ W.cell? ⟨g, 1, none⟩ = some (.slice aS n cS) ∧ W.cell? ⟨g, 2, none⟩ = some (.slice ax l cx)
theorem BoxM.below {g : Nat} {p : Int} {aS ax : Option Addr} {n cS l cx B : Nat} {w w' : World} (h : BoxM g p aS n cS ax l cx w) (hb : Below B w w') (hg : g < B) : BoxM g p aS n cS ax l cx w' :=
  ⟨(hb.cell (p := ⟨g, 0, none⟩) hg).trans h.1, (hb.cell (p := ⟨g, 1, none⟩) hg).trans h.2.1, (hb.cell (p := ⟨g, 2, none⟩) hg).trans h.2.2⟩
theorem BoxM.new (w : World) (p : Int) (aS : Option Addr) (n cS : Nat) (ax : Option Addr) (l cx : Nat) (T : TypeId) : BoxM w.heap.size p aS n cS ax l cx (w.alloc (.cells #[.int .i64 p, .slice aS n cS, .slice ax l cx] T)) :=
  ⟨by simp [go_sem], by simp [go_sem], by simp [go_sem]⟩
/-- The box of a multivector and that of its space. -/
def BoxV (g gs : Nat) (p : Int) (aS : Option Addr) (n cS : Nat) (ax : Option Addr) (l cx : Nat) (W : World) : Prop :=
  W.cell? ⟨g, 0, none⟩ = some (.int .i64 p) ∧ W.cell? ⟨g, 1, none⟩ = some (.slice aS n cS) ∧ W.cell? ⟨g, 2, none⟩ = some (.slice ax l cx) ∧ W.cell? ⟨gs, 0, none⟩ = some (.int .i64 p) ∧ W.cell? ⟨gs, 1, none⟩ = some (.slice aS n cS)
theorem BoxV.below {g gs : Nat} {p : Int} {aS ax : Option Addr} {n cS l cx B : Nat} {w w' : World} (h : BoxV g gs p aS n cS ax l cx w) (hb : Below B w w') (hg : g < B ∧ gs < B) : BoxV g gs p aS n cS ax l cx w' :=
  ⟨(hb.cell (p := ⟨g, 0, none⟩) hg.1).trans h.1, (hb.cell (p := ⟨g, 1, none⟩) hg.1).trans h.2.1, (hb.cell (p := ⟨g, 2, none⟩) hg.1).trans h.2.2.1, (hb.cell (p := ⟨gs, 0, none⟩) hg.2).trans h.2.2.2.1, (hb.cell (p := ⟨gs, 1, none⟩) hg.2).trans h.2.2.2.2⟩
theorem vwrap_pow {i : Nat} (h : i < 6) : IntKind.i64.wrap ((2 : Int) ^ i) = ((2 ^ i : Nat) : Int) := by
  have : i = 0 ∨ i = 1 ∨ i = 2 ∨ i = 3 ∨ i = 4 ∨ i = 5 := by omega
  rcases this with rfl | rfl | rfl | rfl | rfl | rfl <;> exact IntWalk.i64_in _ (by decide)
theorem product_rr (pS : Int) (aS : Option Addr) (S : List Int) (cS loS tpS : Nat) (ax : Option Addr) (x : List Int) (cx lox tpx : Nat) (c : Nat → Nat) (z : List Int) (b lo tp : Nat) (W : World) (hs : isSp pS S = true) (hS : RowIn loS tpS W aS S) (tS : tpS ≤ W.heap.size) (hx : RowIn lox tpx W ax x) (tx : tpx ≤ W.heap.size) (mx : isMv pS S x = true) (h : RowIn lo tp W (some ⟨b, 0, none⟩) (mkR z.length (sgF pS c z))) (th : tp ≤ W.heap.size) (mz : isMv pS S z = true) :
    Calls Tryz.prog 45 #[.agg #[.int .i64 pS, .slice aS S.length cS], .slice ax x.length cx, .slice (some ⟨b, 0, none⟩) z.length z.length] W (OwnE (prodM pS S x (mkR z.length (sgF pS c z))) W) := by
  have q := product_own pS aS S cS loS tpS ax x cx lox tpx (some ⟨b, 0, none⟩) (mkR z.length (sgF pS c z)) z.length lo tp W hs hS tS hx tx mx h th (sg_mv c hs mz)
  rw [mkR_len] at q
  exact q
theorem product_rrn (pS : Int) (aS : Option Addr) (S : List Int) (cS loS tpS : Nat) (ax : Option Addr) (x : List Int) (cx lox tpx : Nat) (c : Nat → Nat) (z : List Int) (b lo tp : Nat) (W : World) (hs : isSp pS S = true) (hS : RowIn loS tpS W aS S) (tS : tpS ≤ W.heap.size) (hx : RowIn lox tpx W ax x) (tx : tpx ≤ W.heap.size) (mx : isMv pS S x = true) (h : RowIn lo tp W (some ⟨b, 0, none⟩) (mkR z.length (sgF pS c z))) (th : tp ≤ W.heap.size) (mz : isMv pS S z = true) :
    Calls Tryz.prog 45 #[.agg #[.int .i64 pS, .slice aS S.length cS], .slice ax x.length cx, .slice (some ⟨b, 0, none⟩) z.length z.length] W (NewRow (bl S) (prodF pS S x (mkR z.length (sgF pS c z))) W) := by
  have q := product_any pS aS S cS loS tpS ax x cx lox tpx (some ⟨b, 0, none⟩) (mkR z.length (sgF pS c z)) z.length lo tp W (isSp_iff.1 hs).prime (isSp_iff.1 hs).hi hS tS (sp_nums hs) hx tx (Mv.len mx) (Mv.nums mx) h th (Mv.len (sg_mv c hs mz)) (Mv.nums (sg_mv c hs mz))
  rw [mkR_len] at q
  exact q
theorem product_vv (pS : Int) (aS : Option Addr) (S : List Int) (cS loS tpS : Nat) (c : Nat → Nat) (z v : List Int) (b b2 lo tp lo2 tp2 : Nat) (W : World) (hs : isSp pS S = true) (hS : RowIn loS tpS W aS S) (tS : tpS ≤ W.heap.size) (h : RowIn lo tp W (some ⟨b, 0, none⟩) (mkR z.length (sgF pS c z))) (th : tp ≤ W.heap.size) (mz : isMv pS S z = true) (h2 : RowIn lo2 tp2 W (some ⟨b2, 0, none⟩) (mkR (bl S) (vecF v v.length))) (th2 : tp2 ≤ W.heap.size) (hv : isVec pS S.length v = true) :
    Calls Tryz.prog 45 #[.agg #[.int .i64 pS, .slice aS S.length cS], .slice (some ⟨b, 0, none⟩) z.length z.length, .slice (some ⟨b2, 0, none⟩) (bl S) (bl S)] W (OwnE (prodM pS S (mkR z.length (sgF pS c z)) (vecM S v)) W) := by
  have q := product_own pS aS S cS loS tpS (some ⟨b, 0, none⟩) (mkR z.length (sgF pS c z)) z.length lo tp (some ⟨b2, 0, none⟩) (mkR (bl S) (vecF v v.length)) (bl S) lo2 tp2 W hs hS tS h th (sg_mv c hs mz) h2 th2 (vec_mv' hs hv)
  rw [mkR_len, mkR_len] at q
  exact q

set_option maxRecDepth 100000 in
set_option maxHeartbeats 3200000 in
theorem timesReverse_new (pS : Int) (aS : Option Addr) (S : List Int) (cS loS tpS : Nat) (ax : Option Addr) (x : List Int) (cx lox tpx : Nat) (w : World) (hs : isSp pS S = true) (hS : RowIn loS tpS w aS S) (tS : tpS ≤ w.heap.size) (hx : RowIn lox tpx w ax x) (tx : tpx ≤ w.heap.size) (mx : isMv pS S x = true) :
    Calls Tryz.prog 70 #[.agg #[.int .i64 pS, .slice aS S.length cS, .slice ax x.length cx]] w (NewRow (bl S) (prodF pS S x (revM pS x)) w) := by
  have HI := Lib.hid hs
  have HS := Lib.hid hS
  have Hx := Lib.hid hx
  have HMx := Lib.hid mx
  have h6 := (isSp_iff.1 hs).hi
  have hpb := prm_bd (isSp_iff.1 hs).prime
  have hbl := bl_le h6
  have hb0 := bl_pos S
  have HB0 := Lib.hid (below_alloc w (.cells #[.int .i64 pS, .slice aS S.length cS, .slice ax x.length cx] 46))
  have k0 := BoxM.new w pS aS S.length cS ax x.length cx 46
  have hx64 : x.length ≤ 64 := by rw [Mv.len mx]; exact bl_le (isSp_iff.1 hs).hi
  clear hs hS hx mx
  go_enter Tryz.func70, Tryz.ntmps70
  go_upto_region 1 with fail
  obtain ⟨w1, hw1⟩ : ∃ z, z = w.alloc (.cells #[.int .i64 pS, .slice aS S.length cS, .slice ax x.length cx] 46) := ⟨_, rfl⟩
  rw [← hw1] at HB0 k0 ⊢
  have hw0 : w.heap.size < w1.heap.size := by rw [hw1]; simp
  clear hw1
  have hs1 : Hid (BoxM w.heap.size pS aS S.length cS ax x.length cx w1.drew) := k0
  have HBD : Hid (Below w.heap.size w w1.drew) := HB0.out.drew
  have hd0 : w.heap.size < w1.drew.heap.size := hw0
  go_region_held3 (fun w' => w'.cell? ⟨w.heap.size, 0, none⟩ = some (.int .i64 pS) ∧ w'.cell? ⟨w.heap.size, 1, none⟩ = some (.slice aS S.length cS) ∧ w'.cell? ⟨w.heap.size, 2, none⟩ = some (.slice ax x.length cx)) (first | exact hs1.out | exact SSa.out | exact SSab.out | go_keep) (first | (go_at_call 86; (with_reducible refine (withSigns_reversal pS aS S cS ax x cx lox tpx w1.drew (isSp_iff.1 HI.out).prime (Hx.out.below HBD.out tx) (Nat.le_trans tx (HBD.out).size) hx64 (Mv.nums HMx.out)).mono ?_); rintro e wa ⟨ba, rfl, l_, u_, o_, b_⟩; have SSa := Lib.hid ((hs1.out).below b_ hd0); have HBa := Lib.hid (below_step HBD.out (Nat.le_of_lt hd0) b_); have zz_ := b_.size; have hda := Nat.lt_of_lt_of_le hd0 zz_; have la := Nat.lt_of_lt_of_le hd0 l_; have ua_a := u_; have Na_a := Lib.hid o_; have Ra_a := Lib.hid ((o_.own (Nat.le_of_lt la) u_).row); clear b_ o_) | (go_at_call 45; (with_reducible refine (product_rrn pS aS S cS loS tpS ax x cx lox tpx c_reversal x ba w.heap.size wa.heap.size wa HI.out (HS.out.below HBa.out tS) (Nat.le_trans tS (HBa.out).size) (Hx.out.below HBa.out tx) (Nat.le_trans tx (HBa.out).size) HMx.out Ra_a.out (Nat.le_refl _) HMx.out).mono ?_); rintro e wab ⟨bb, rfl, l_, u_, o_, b_⟩; have SSab := Lib.hid ((SSa.out).below b_ hda); have HBab := Lib.hid (below_step HBa.out (Nat.le_of_lt hda) b_); have zz_ := b_.size; have hdab := Nat.lt_of_lt_of_le hda zz_; have Ra_ab := Lib.hid ((Ra_a.out.below b_ (Nat.le_refl _)).mono (Nat.le_refl _) zz_); have Na_ab := Lib.hid (Na_a.out.stay (b_.block ba ua_a)); have ua_ab := Nat.lt_of_lt_of_le ua_a zz_; have lb := Nat.lt_of_lt_of_le hda l_; have ub_ab := u_; have Nb_ab := Lib.hid o_; have Rb_ab := Lib.hid ((o_.own (Nat.le_of_lt lb) u_).row); clear b_ o_))
  all_goals
    go_wp2
    go_ret
    exact ⟨bb, rfl, Nat.le_of_lt lb, ub_ab, Nb_ab.out, HBab.out⟩

set_option maxRecDepth 100000 in
set_option maxHeartbeats 6400000 in
theorem around_own (pS : Int) (aS : Option Addr) (S : List Int) (cS loS tpS : Nat) (ax : Option Addr) (x : List Int) (cx lox tpx : Nat) (av : Option Addr) (v : List Int) (cv lov tpv : Nat) (w : World) (hs : isSp pS S = true) (hS : RowIn loS tpS w aS S) (tS : tpS ≤ w.heap.size) (hx : RowIn lox tpx w ax x) (tx : tpx ≤ w.heap.size) (mx : isMv pS S x = true) (hv : RowIn lov tpv w av v) (tv : tpv ≤ w.heap.size) (mv : isVec pS S.length v = true) :
    Calls Tryz.prog 88 #[.agg #[.int .i64 pS, .slice aS S.length cS, .slice ax x.length cx], .slice av v.length cv] w (OwnE (arM pS S x v) w) := by
  have HI := Lib.hid hs
  have HS := Lib.hid hS
  have Hx := Lib.hid hx
  have HMx := Lib.hid mx
  have Hv := Lib.hid hv
  have h6 := (isSp_iff.1 hs).hi
  have hpb := prm_bd (isSp_iff.1 hs).prime
  have hbl := bl_le h6
  have hb0 := bl_pos S
  have HB0 := Lib.hid (below_alloc w (.cells #[.int .i64 pS, .slice aS S.length cS, .slice ax x.length cx] 46))
  have k0 := BoxM.new w pS aS S.length cS ax x.length cx 46
  have hx64 : x.length ≤ 64 := by rw [Mv.len mx]; exact bl_le (isSp_iff.1 hs).hi
  have HVV := Lib.hid mv
  have HLV := Lib.hid (isVec_iff.1 mv).len
  clear mv
  clear hs hS hx mx hv
  go_enter Tryz.func88, Tryz.ntmps88
  go_upto_region 2 with fail
  obtain ⟨w0, hw0'⟩ : ∃ z, z = w.alloc (.cells #[.int .i64 pS, .slice aS S.length cS, .slice ax x.length cx] 46) := ⟨_, rfl⟩
  rw [← hw0'] at HB0 k0 ⊢
  have hw0 : w.heap.size < w0.heap.size := by rw [hw0']; simp
  have hwz : w.heap.size + 1 = w0.heap.size := by rw [hw0']; simp
  try rw [hwz]
  clear hw0'
  obtain ⟨w1, hw1⟩ : ∃ z, z = w0.alloc (.cells #[.int .i64 pS, .slice aS S.length cS] 24) := ⟨_, rfl⟩
  obtain ⟨gs, hgs⟩ : ∃ b, b = w0.heap.size := ⟨_, rfl⟩
  have hs0 : BoxV w.heap.size gs pS aS S.length cS ax x.length cx w1 := by
    have h := k0.below (below_alloc w0 (.cells #[.int .i64 pS, .slice aS S.length cS] 24)) hw0
    rw [← hw1] at h
    exact ⟨h.1, h.2.1, h.2.2, by rw [hw1, hgs]; simp [go_sem], by rw [hw1, hgs]; simp [go_sem]⟩
  have HB1 : Hid (Below w.heap.size w w1) := by show Below _ _ _; rw [hw1]; exact HB0.out.alloc HB0.out.size _
  have hg1 : gs < w1.heap.size := by rw [hw1, hgs]; simp
  have hwg : w.heap.size < gs := by omega
  rw [← hw1]
  rw [← hgs]
  clear hw1 hwz hgs k0
  have hs1 : Hid (BoxV w.heap.size gs pS aS S.length cS ax x.length cx w1.drew) := hs0
  have HBD : Hid (Below w.heap.size w w1.drew) := HB1.out.drew
  have hd0 : w.heap.size < w1.drew.heap.size ∧ gs < w1.drew.heap.size := ⟨Nat.lt_trans hwg hg1, hg1⟩
  clear hs0
  go_region_held3 (fun w' => w'.cell? ⟨w.heap.size, 0, none⟩ = some (.int .i64 pS) ∧ w'.cell? ⟨w.heap.size, 1, none⟩ = some (.slice aS S.length cS) ∧ w'.cell? ⟨w.heap.size, 2, none⟩ = some (.slice ax x.length cx) ∧ w'.cell? ⟨gs, 0, none⟩ = some (.int .i64 pS) ∧ w'.cell? ⟨gs, 1, none⟩ = some (.slice aS S.length cS)) (first | exact hs1.out | exact SSa.out | exact SSab.out | exact SSabc.out | go_keep) (first | (go_at_call 86; (with_reducible refine (withSigns_involution pS aS S cS ax x cx lox tpx w1.drew (isSp_iff.1 HI.out).prime (Hx.out.below HBD.out tx) (Nat.le_trans tx (HBD.out).size) hx64 (Mv.nums HMx.out)).mono ?_); rintro e wa ⟨ba, rfl, l_, u_, o_, b_⟩; have SSa := Lib.hid ((hs1.out).below b_ hd0); have HBa := Lib.hid (below_step HBD.out (Nat.le_of_lt hd0.1) b_); have zz_ := b_.size; have hda := And.intro (Nat.lt_of_lt_of_le hd0.1 zz_) (Nat.lt_of_lt_of_le hd0.2 zz_); have la := Nat.lt_of_lt_of_le hd0.1 l_; have ua_a := u_; have Na_a := Lib.hid o_; have Ra_a := Lib.hid ((o_.own (Nat.le_of_lt la) u_).row); clear b_ o_) | (go_at_call 46; (with_reducible refine (vector_any pS aS S cS av v cv lov tpv wa h6 HLV.out (Hv.out.below HBa.out tv) (Nat.le_trans tv (HBa.out).size)).mono ?_); rintro e wab ⟨bb, rfl, l_, u_, o_, b_⟩; have SSab := Lib.hid ((SSa.out).below b_ hda); have HBab := Lib.hid (below_step HBa.out (Nat.le_of_lt hda.1) b_); have zz_ := b_.size; have hdab := And.intro (Nat.lt_of_lt_of_le hda.1 zz_) (Nat.lt_of_lt_of_le hda.2 zz_); have Ra_ab := Lib.hid ((Ra_a.out.below b_ (Nat.le_refl _)).mono (Nat.le_refl _) zz_); have Na_ab := Lib.hid (Na_a.out.stay (b_.block ba ua_a)); have ua_ab := Nat.lt_of_lt_of_le ua_a zz_; have lb := Nat.lt_of_lt_of_le hda.1 l_; have ub_ab := u_; have Nb_ab := Lib.hid o_; have Rb_ab := Lib.hid ((o_.own (Nat.le_of_lt lb) u_).row); clear b_ o_) | (go_at_call 45; (with_reducible refine (product_vv pS aS S cS loS tpS c_involution x v ba bb w.heap.size wab.heap.size w.heap.size wab.heap.size wab HI.out (HS.out.below HBab.out tS) (Nat.le_trans tS (HBab.out).size) Ra_ab.out (Nat.le_refl _) HMx.out Rb_ab.out (Nat.le_refl _) HVV.out).mono ?_); rintro e wabc ⟨rc, kc, rfl, o_, b_⟩; have SSabc := Lib.hid ((SSab.out).below b_ hdab); have HBabc := Lib.hid (below_step HBab.out (Nat.le_of_lt hdab.1) b_); have zz_ := b_.size; have hdabc := And.intro (Nat.lt_of_lt_of_le hdab.1 zz_) (Nat.lt_of_lt_of_le hdab.2 zz_); have Ra_abc := Lib.hid ((Ra_ab.out.below b_ (Nat.le_refl _)).mono (Nat.le_refl _) zz_); have Na_abc := Lib.hid (Na_ab.out.stay (b_.block ba ua_ab)); have ua_abc := Nat.lt_of_lt_of_le ua_ab zz_; have Rb_abc := Lib.hid ((Rb_ab.out.below b_ (Nat.le_refl _)).mono (Nat.le_refl _) zz_); have Nb_abc := Lib.hid (Nb_ab.out.stay (b_.block bb ub_ab)); have ub_abc := Nat.lt_of_lt_of_le ub_ab zz_; have Oc_abc := Lib.hid (OwnR.mono' o_ (Nat.le_of_lt hdab.1) (Nat.le_refl _)); have Rc_abc := Lib.hid (Oc_abc.out.row); clear b_ o_))
  obtain ⟨z, hz⟩ : ∃ z, z = prodM pS S (ivM pS x) (vecM S v) := ⟨_, rfl⟩
  have HZE := Lib.hid hz
  have hmz : isMv pS S z = true := by rw [hz]; exact prod_mv HI.out _ _
  have HMZ := Lib.hid hmz
  have hzl : (prodM pS S (mkR x.length (sgF pS c_involution x)) (vecM S v)).length = z.length := by rw [hz]; rfl
  rw [hzl]
  have RZ : Hid (RowIn w.heap.size wabc.drew.heap.size wabc.drew rc z) := by show RowIn _ _ _ _ _; rw [hz]; exact Rc_abc.out
  have hs2 : Hid (BoxV w.heap.size gs pS aS S.length cS ax x.length cx wabc.drew) := SSabc.out
  have HBE : Hid (Below w.heap.size w wabc.drew) := HBabc.out.drew
  have hd2_ : w.heap.size < wabc.drew.heap.size ∧ gs < wabc.drew.heap.size := hdabc
  clear hz hmz hzl
  go_wp2
  go_region_held3 (fun w' => w'.cell? ⟨w.heap.size, 0, none⟩ = some (.int .i64 pS) ∧ w'.cell? ⟨w.heap.size, 1, none⟩ = some (.slice aS S.length cS) ∧ w'.cell? ⟨w.heap.size, 2, none⟩ = some (.slice ax x.length cx) ∧ w'.cell? ⟨gs, 0, none⟩ = some (.int .i64 pS) ∧ w'.cell? ⟨gs, 1, none⟩ = some (.slice aS S.length cS)) (first | exact hs2.out | exact SSd.out | exact SSde.out | go_keep) (first | (go_at_call 86; (with_reducible refine (withSigns_reversal pS aS S cS ax x cx lox tpx wabc.drew (isSp_iff.1 HI.out).prime (Hx.out.below HBE.out tx) (Nat.le_trans tx (HBE.out).size) hx64 (Mv.nums HMx.out)).mono ?_); rintro e wd ⟨bd, rfl, l_, u_, o_, b_⟩; have SSd := Lib.hid ((hs2.out).below b_ hd2_); have HBd := Lib.hid (below_step HBE.out (Nat.le_of_lt hd2_.1) b_); have zz_ := b_.size; have HCd := Lib.hid b_; have hdd := And.intro (Nat.lt_of_lt_of_le hd2_.1 zz_) (Nat.lt_of_lt_of_le hd2_.2 zz_); have ld := Nat.lt_of_lt_of_le hd2_.1 l_; have ud_d := u_; have Nd_d := Lib.hid o_; have Rd_d := Lib.hid ((o_.own (Nat.le_of_lt ld) u_).row); clear b_ o_) | (go_at_call 45; (with_reducible refine (product_rr pS aS S cS loS tpS rc z kc w.heap.size wabc.drew.heap.size c_reversal x bd w.heap.size wd.heap.size wd HI.out (HS.out.below HBd.out tS) (Nat.le_trans tS (HBd.out).size) (RZ.out.below HCd.out (Nat.le_refl _)) HCd.out.size HMZ.out Rd_d.out (Nat.le_refl _) HMx.out).mono ?_); rintro e wde ⟨re, ke, rfl, o_, b_⟩; have SSde := Lib.hid ((SSd.out).below b_ hdd); have HBde := Lib.hid (below_step HBd.out (Nat.le_of_lt hdd.1) b_); have zz_ := b_.size; have HCde := Lib.hid (below_step HCd.out (HCd.out).size b_); have hdde := And.intro (Nat.lt_of_lt_of_le hdd.1 zz_) (Nat.lt_of_lt_of_le hdd.2 zz_); have Rd_de := Lib.hid ((Rd_d.out.below b_ (Nat.le_refl _)).mono (Nat.le_refl _) zz_); have Nd_de := Lib.hid (Nd_d.out.stay (b_.block bd ud_d)); have ud_de := Nat.lt_of_lt_of_le ud_d zz_; have Oe_de := Lib.hid (OwnR.mono' o_ (Nat.le_of_lt hdd.1) (Nat.le_refl _)); have Re_de := Lib.hid (Oe_de.out.row); clear b_ o_))
  all_goals
    go_wp2
    go_ret
    exact ⟨re, ke, by rw [HZE.out]; rfl, by unfold arM revM; rw [← HZE.out]; exact Oe_de.out, HBde.out⟩

set_option maxRecDepth 100000 in
set_option maxHeartbeats 6400000 in
theorem hasParity_any (pS : Int) (aS : Option Addr) (S : List Int) (cS loS tpS : Nat) (ax : Option Addr) (x : List Int) (cx lox tpx : Nat) (r : Nat) (w : World) (hs : isSp pS S = true) (hS : RowIn loS tpS w aS S) (tS : tpS ≤ w.heap.size) (hx : RowIn lox tpx w ax x) (tx : tpx ≤ w.heap.size) (mx : isMv pS S x = true) (hr : r < 2) :
    Calls Tryz.prog 72 #[.agg #[.int .i64 pS, .slice aS S.length cS, .slice ax x.length cx], .int .i64 (r : Int)] w (fun e w' => e = .returned (.bool (parB x r)) ∧ Below w.heap.size w w') := by
  have HNB : Hid (∀ j, j < x.length → -100 ≤ x.getD j 0 ∧ x.getD j 0 ≤ 100) := fun j hj => by have := Mv.num mx j hj; have := prm_bd (isSp_iff.1 hs).prime; omega
  have HS := Lib.hid hS
  have Hx := Lib.hid hx
  have HMx := Lib.hid mx
  have h6 := (isSp_iff.1 hs).hi
  have hpb := prm_bd (isSp_iff.1 hs).prime
  have hbl := bl_le h6
  have hb0 := bl_pos S
  have HB0 := Lib.hid (below_alloc w (.cells #[.int .i64 pS, .slice aS S.length cS, .slice ax x.length cx] 46))
  have k0 := BoxM.new w pS aS S.length cS ax x.length cx 46
  have hx64 : x.length ≤ 64 := by rw [Mv.len mx]; exact bl_le (isSp_iff.1 hs).hi
  clear hS hx
  go_enter Tryz.func72, Tryz.ntmps72
  go_upto_region 1 with fail
  obtain ⟨w1, hw1⟩ : ∃ z, z = w.alloc (.cells #[.int .i64 pS, .slice aS S.length cS, .slice ax x.length cx] 46) := ⟨_, rfl⟩
  rw [← hw1] at HB0 k0 ⊢
  have hw0 : w.heap.size < w1.heap.size := by rw [hw1]; simp
  clear hw1
  obtain ⟨k0a, k0b, k0c⟩ := k0
  go_wp2_with (first | (go_at_call 65; (with_reducible refine (termsOf_any ax x cx lox tpx w1 (Hx.out.below HB0.out tx) (Nat.le_trans tx HB0.out.size) hx64 HNB.out).mono ?_); rintro e w5 ⟨bT, D, rfl, lT, uT, oT, tT, b5⟩; have HOT := Lib.hid oT; have HTM := Lib.hid tT; have HB5 := Lib.hid b5; have z5 := b5.size; clear oT tT b5) | (at_range; refine wpList_range_own _ rfl _ 91 rfl 3 2 lawK Tryz.underlying91 (plainElem (H := Unit) Tryz.prog 2) bT x.length D rfl HOT.out ?_; intro w6 hrg0 hg0 hs0))
  go_frame
  have HB6 : Hid (Below w.heap.size w w6) := HB0.out.trans ((HB5.out.grown hg0 z5 (fun j hj => by cases hj)).mono (by omega))
  go_loopw [5] (fun _ wr => ∃ (left : Lit → Bool) (cnt : Nat), wr.ranges Tryz.prog 3 (plainElem (H := Unit) Tryz.prog 2) bT w5.heap.size x.length D left cnt ∧ Sub left D ∧ (∀ j, j < x.length → x.getD j 0 ≠ 0 → td left j = false → gr j % 2 = r) ∧ Below w.heap.size w wr ∧ w6.heap.size ≤ wr.heap.size) (fun _ wr => wr.rangeLeft bT w5.heap.size)
  case atStart => exact ⟨_, _, hrg0, sub_refl D, fun j hj hne htd => by (have := td_all HTM.out hj hne; rw [this] at htd; cases htd), HB6.out, Nat.le_refl _⟩
  case round =>
    obtain ⟨left, cnt, hrg, hsub, hpar, hnx, hsz⟩ := hrel
    have HPAR := Lib.hid hpar
    have HNXB := Lib.hid hnx
    have HSUB := Lib.hid hsub
    clear hpar hnx hsub
    go_wp2_with (first | (at_next; refine wpList_next_ranges_ii _ rfl _ rfl 3 2 .i64 .i64 lawK Tryz.underlying3 Tryz.underlying2 bT w5.heap.size x.length D left cnt rfl hrg ?_ ?_) | go_in)
    · intro hc0 hl0
      have HV : Hid (parB x r = true) := parB_iff.2 fun j hj hne => HPAR.out j hj hne (td_none hl0 j)
      go_wp2
      go_ret
      exact ⟨by rw [HV.out]; rfl, HNXB.out⟩
    · intro kx c w7 cnt1 hwx hwc hlx' hat hrg1 hlt hg1 hs1' hen
      obtain ⟨j, hj, rfl, hcx, hne0, htd⟩ := HTM.out.come HSUB.out hlx' hat
      have HB7 : Hid (Below w.heap.size w w7) := HNXB.out.grown hg1 (by omega) (fun i hi => by cases hi; omega)
      have hz7 := hg1.size
      have HNE := Lib.hid hne0
      have HRG1 := Lib.hid hrg1
      have hg6 : gr j < 7 := by have := gr_le j; omega
      obtain ⟨q, hq⟩ : ∃ q, q = gr j := ⟨_, rfl⟩
      have HQ := Lib.hid hq
      rw [← hq] at hg6
      clear hcx hne0 hq
      by_cases hp : q % 2 = r
      · have ht2 : (q : Int).tmod 2 = ((q % 2 : Nat) : Int) := rfl
        have hp1 : (((q : Int).tmod 2 != (r : Int)) = false) := by rw [ht2, hp]; simp
        have hp2 : ((q : Int) % 2 != (r : Int)) = false := by rw [show (q : Int) % 2 = ((q % 2 : Nat) : Int) from rfl, hp]; simp
        clear ht2
        have HP := Lib.hid hp
        clear hp
        go_wp2_with (first | (go_at_call 83; (with_reducible refine (gradeOf_any j (by omega) _).mono ?_); rintro e w8 ⟨rfl, rfl⟩; rw [← HQ.out]) | go_in)
        go_roundw
        case rel => exact ⟨_, cnt1, HRG1.out, sub_strike HSUB.out _, fun i hi hne ht => by
          by_cases e : i = j
          · subst e; rw [← HQ.out]; exact HP.out
          · rw [td_other left e] at ht; exact HPAR.out i hi hne ht, HB7.out, by omega⟩
        case measure => rw [HRG1.out.left_eq, hrg.left_eq]; exact hlt
      · have ht2 : (q : Int).tmod 2 = ((q % 2 : Nat) : Int) := rfl
        have hne2 : ((q % 2 : Nat) : Int) ≠ (r : Int) := by omega
        have hp1 : (((q : Int).tmod 2 != (r : Int)) = true) := by rw [ht2]; simpa using hne2
        have hp2 : ((q : Int) % 2 != (r : Int)) = true := by rw [show (q : Int) % 2 = ((q % 2 : Nat) : Int) from rfl]; simpa using hne2
        clear ht2 hne2
        have HV : Hid (parB x r = false) := parB_no hj HNE.out (by rw [← HQ.out]; exact hp)
        clear hp
        go_wp2_with (first | (go_at_call 83; (with_reducible refine (gradeOf_any j (by omega) _).mono ?_); rintro e w8 ⟨rfl, rfl⟩; rw [← HQ.out]) | go_in)
        go_ret
        exact ⟨by rw [HV.out]; rfl, HB7.out⟩

end Go.Proofs.YthbkfpkeofpocaaGreat

namespace Go.Proofs.YthbkfpkeofpocaaGreat
open Go.RowKit Go.ChangeShapes Go.WideShapes
set_option linter.unusedVariables false

theorem isM_nprime {p : Int} {n : Nat} {m : List (List Int)} (h : prm p = false) : isL n p m = false := not_isL fun k => by rw [k.prime] at h; cases h
theorem isM_nlen {p : Int} {n : Nat} {m : List (List Int)} (h : ¬ (n ≤ m.length ∧ m.length ≤ 16)) : isL n p m = false := not_isL fun k => h ⟨k.lo, k.hi⟩
theorem isM_nrow {p : Int} {n : Nat} {m : List (List Int)} {i : Nat} (hi : i < m.length) (h : ¬ (1 ≤ (rw' m i).length ∧ (rw' m i).length ≤ 16)) : isL n p m = false := not_isL fun k => h ⟨k.c0 i hi, k.c1 i hi⟩
theorem isM_ncol {p : Int} {n : Nat} {m : List (List Int)} {i : Nat} (hi : i < m.length) (h : ¬ (rw' m i).length = (rw' m 0).length) : isL n p m = false := not_isL fun k => h (k.len i hi)
theorem isM_nall {p : Int} {n : Nat} {m : List (List Int)} {i : Nat} (hi : i < m.length) (h : (rw' m i).all (inr p) = false) : isL n p m = false := not_isL fun k => by rw [k.all i hi] at h; cases h
/-- What has been seen of the first i rows. -/
def Seen (p : Int) (m : List (List Int)) (i : Nat) : Prop := ∀ i', i' < i → (rw' m i').length = (rw' m 0).length ∧ (1 ≤ (rw' m i').length ∧ (rw' m i').length ≤ 16) ∧ (rw' m i').all (inr p) = true
theorem Seen.zero (p : Int) (m : List (List Int)) : Seen p m 0 := fun i' h => by omega
theorem Seen.next {p : Int} {m : List (List Int)} {i : Nat} (h : Seen p m i) (h1 : (rw' m i).length = (rw' m 0).length) (h2 : 1 ≤ (rw' m i).length ∧ (rw' m i).length ≤ 16) (h3 : (rw' m i).all (inr p) = true) : Seen p m (i + 1) := by
  intro i' hi'
  by_cases e : i' = i
  · subst e; exact ⟨h1, h2, h3⟩
  · exact h i' (by omega)
theorem Seen.yes {p : Int} {n : Nat} {m : List (List Int)} {i : Nat} (h : Seen p m i) (hi : m.length ≤ i) (hp : prm p = true) (h1 : n ≤ m.length ∧ m.length ≤ 16) : isL n p m = true :=
  isL_iff.2 ⟨hp, h1.1, h1.2, fun j hj => (h j (by omega)).1, fun j hj => (h j (by omega)).2.1.1, fun j hj => (h j (by omega)).2.1.2, fun j hj => (h j (by omega)).2.2⟩
theorem neq_spell {a b : Nat} (h : ¬ a = b) : ((a : Int) == (b : Int)) = false ∧ ((a : Int) != (b : Int)) = true := by
  have : ¬ (a : Int) = (b : Int) := by omega
  simp [this]
set_option maxHeartbeats 1600000 in
theorem isRows_any (p : Int) (a : Option Addr) (m : List (List Int)) (n cap lo tp : Nat) (w : World) (hn1 : n ≤ 1) (hm : MatIn lo tp w a m) (h1 : m.length ≤ 9223372036854775807) (h2 : ∀ i, i < m.length → (rw' m i).length ≤ 9223372036854775807) :
    Calls Tryz.prog 90 #[.int .i64 p, .slice a m.length cap, .int .i64 n] w fun e w' => e = .returned (.bool (isL n p m)) ∧ w = w' := by
  have HM := Lib.hid hm
  have HL := Lib.hid h2
  clear hm h2
  by_cases hp : prm p = true
  · have HP := Lib.hid hp
    clear hp
    by_cases hn : n ≤ m.length ∧ m.length ≤ 16
    · have HN := Lib.hid hn
      have hd1 : decide (m.length < n) = false := by simp; omega
      have hn2 := hn.2
      clear hn
      go_enter Tryz.func90, Tryz.ntmps90
      go_wp2_with (go_at_call 57; refine (isPrime_any _ _).mono ?_; rintro e w' ⟨rfl, rfl⟩; rw [HP.out])
      clear hd1
      go_loop [25] (fun t => ∃ i : Nat, i ≤ m.length ∧ t = .int .i64 i ∧ Seen p m i) (fun t => m.length - (intOf t).toNat)
      case atStart => exact ⟨0, Nat.zero_le _, rfl, Seen.zero _ _⟩
      case round =>
        obtain ⟨i, hi, rfl, hs⟩ := hrel
        have HS := Lib.hid hs
        clear hs
        by_cases hlt : i < m.length
        · obtain ⟨b, o, r, c, ha, _, _, hr, hrow⟩ := HM.out.row hlt
          subst ha
          obtain ⟨b', o', r0, c0, ha, _, _, hr0, _⟩ := HM.out.row (i := 0) (by omega)
          cases ha
          rw [Nat.add_zero] at hr0
          have HR := Lib.hid hrow
          have hln := HL.out i hlt
          have hl0 := HL.out 0 (by omega)
          clear hrow
          by_cases hc : 1 ≤ (rw' m i).length ∧ (rw' m i).length ≤ 16
          · have HC := Lib.hid hc
            obtain ⟨hc1, hc2⟩ := hc
            by_cases hcol : (rw' m i).length = (rw' m 0).length
            · have HCol := Lib.hid hcol
              clear hcol
              rw [← HCol.out] at hr0 hl0
              by_cases hall : (rw' m i).all (inr p) = true
              · have HAll := Lib.hid (code_ok HP.out hall)
                have HA2 := Lib.hid hall
                clear hall
                go_wp2_with (go_at_call 32; (with_reducible refine (checkRow _ _ _ _ _ _ _ HP.out HR.out (by omega)).mono ?_); rintro e w' ⟨rfl, rfl⟩; rw [HAll.out])
                go_round
                case rel => exact ⟨i + 1, by omega, by go_num, HS.out.next HCol.out HC.out HA2.out⟩
                case measure => simp [intOf]; omega
              · have hall' : (rw' m i).all (inr p) = false := by simpa using hall
                have HAll := Lib.hid (code_bad HP.out hall')
                have HF := Lib.hid (isM_nall (n := n) hlt hall')
                clear hall hall'
                go_wp2_with (go_at_call 32; (with_reducible refine (checkRow _ _ _ _ _ _ _ HP.out HR.out (by omega)).mono ?_); rintro e w' ⟨rfl, rfl⟩; rw [HAll.out])
                go_ret
                exact ⟨by rw [HF.out]; rfl, rfl⟩
            · have HF := Lib.hid (isM_ncol (n := n) (p := p) hlt hcol)
              obtain ⟨e1, e2⟩ := neq_spell hcol
              clear hcol
              go_wp2
              go_ret
              exact ⟨by rw [HF.out]; rfl, rfl⟩
          · have HF := Lib.hid (isM_nrow (n := n) (p := p) hlt hc)
            by_cases hz : (rw' m i).length < 1
            · clear hc
              go_wp2
              go_ret
              exact ⟨by rw [HF.out]; rfl, rfl⟩
            · have hz2 : 16 < (rw' m i).length := by omega
              clear hc
              go_wp2
              go_ret
              exact ⟨by rw [HF.out]; rfl, rfl⟩
        · have HF := Lib.hid (HS.out.yes (n := n) (by omega) HP.out HN.out)
          go_wp2
          go_ret
          exact ⟨by rw [HF.out]; rfl, rfl⟩
    · have HF := Lib.hid (isM_nlen (p := p) hn)
      by_cases hz : m.length < n
      · have hd1 : decide (m.length < n) = true := by simp; omega
        clear hn
        go_enter Tryz.func90, Tryz.ntmps90
        go_wp2_with (go_at_call 57; refine (isPrime_any _ _).mono ?_; rintro e w' ⟨rfl, rfl⟩; rw [HP.out])
        go_ret
        exact ⟨by rw [HF.out]; rfl, rfl⟩
      · have hd1 : decide (m.length < n) = false := by simp; omega
        have hz2 : 16 < m.length := by omega
        clear hn
        go_enter Tryz.func90, Tryz.ntmps90
        go_wp2_with (go_at_call 57; refine (isPrime_any _ _).mono ?_; rintro e w' ⟨rfl, rfl⟩; rw [HP.out])
        go_ret
        exact ⟨by rw [HF.out]; rfl, rfl⟩
  · have hp' : prm p = false := by simpa using hp
    have HP := Lib.hid hp'
    have HF := Lib.hid (isM_nprime (n := n) (m := m) hp')
    clear hp hp'
    go_enter Tryz.func90, Tryz.ntmps90
    go_wp2_with (go_at_call 57; refine (isPrime_any _ _).mono ?_; rintro e w' ⟨rfl, rfl⟩; rw [HP.out])
    go_ret
    exact ⟨by rw [HF.out]; rfl, rfl⟩

end Go.Proofs.YthbkfpkeofpocaaGreat

namespace Go.Proofs.YthbkfpkeofpocaaGreat
open Go.RowKit
set_option linter.unusedVariables false

theorem len_of {m : List (List Int)} (h : m.length + tot m m.length ≤ 1048576) : m.length ≤ 9223372036854775807 ∧ ∀ i, i < m.length → (rw' m i).length ≤ 9223372036854775807 :=
  ⟨by omega, fun i hi => by have := tot_row (m := m) hi; omega⟩

theorem isRows_one (p : Int) (a : Option Addr) (m : List (List Int)) (cap lo tp : Nat) (w : World) (hm : MatIn lo tp w a m) (hs : m.length + tot m m.length ≤ 1048576) :
    Calls Tryz.prog 90 #[.int .i64 p, .slice a m.length cap, .int .i64 1] w fun e w' => e = .returned (.bool (isM p m)) ∧ w = w' :=
  isRows_any p a m 1 cap lo tp w (by omega) hm (len_of hs).1 (len_of hs).2
end Go.Proofs.YthbkfpkeofpocaaGreat

namespace Go.Proofs.YthbkfpkeofpocaaGreat
set_option linter.unusedVariables false

theorem rect_of {n : Nat} {p : Int} {m : List (List Int)} (h : Lst n p m) : Rect p m (rw' m 0).length where
  rows := by have := h.hi; omega
  cols := by
    by_cases h0 : 0 < m.length
    · have := h.c1 0 h0; omega
    · have e : m = [] := List.eq_nil_of_length_eq_zero (by omega)
      rw [e]; simp [rw']
  len := h.len
  num i hi := Nums.of (h.all i hi)

theorem tot_const {m : List (List Int)} {c : Nat} (h : ∀ i, i < m.length → (rw' m i).length = c) : ∀ {k : Nat}, k ≤ m.length → tot m k = k * c := by
  intro k
  induction k with
  | zero => intro _; simp [tot]
  | succ k ih => intro hk; simp only [tot]; rw [ih (by omega), h k (by omega), Nat.succ_mul]
theorem mk_size {n c : Nat} {f : Nat → Nat → Int} (hn : n ≤ 1024) (hc : c ≤ 1023) : (mk n c f).length + tot (mk n c f) (mk n c f).length ≤ 1048576 := by
  have h := tot_const (m := mk n c f) (c := c) (fun i hi => mk_rowLen f (by rwa [mk_len] at hi)) (k := n) (by rw [mk_len]; exact Nat.le_refl _)
  rw [mk_len, h]
  have : n * c ≤ 1024 * 1023 := Nat.mul_le_mul hn hc
  omega
end Go.Proofs.YthbkfpkeofpocaaGreat
