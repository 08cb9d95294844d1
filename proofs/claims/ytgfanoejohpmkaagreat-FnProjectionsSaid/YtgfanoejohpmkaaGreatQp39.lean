/-
  Contracts and facts that the walk of the law rests on.
  Conditions: those that each theorem names.
-/
import Derived.Test.YtgfanoejohpmkaaGreatQp38
import Derived.Test.YtgfanoejohpmkaaGreatQp21
import Derived.Test.YtgfanoejohpmkaaGreatQp15
import Derived.Deep.RegionHeld3
import Derived.Deep.DeepCutAuto
namespace Go.Proofs.YtgfanoejohpmkaaGreat
open Go.RowKit
set_option linter.unusedVariables false
def insM (p : Int) (S x v : List Int) : List Int := prodM p S (lcM p S (vecM S v) x) x
def sqX (p : Int) (S x : List Int) : Int := prodF p S x x 0
def prjF (p : Int) (S x v : List Int) (i : Nat) : Int := (insM p S x v).getD (2 ^ i) 0 * inv p (sqX p S x) % p
def prjM (p : Int) (S x v : List Int) : List Int := mkR v.length (prjF p S x v)
theorem prjM_len (p : Int) (S x v : List Int) : (prjM p S x v).length = v.length := mkR_len _ _
theorem prjF_bd {p : Int} (hp : 0 < p) (S x v : List Int) (i : Nat) : 0 ≤ prjF p S x v i ∧ prjF p S x v i < p := ⟨Int.emod_nonneg _ (by omega), Int.emod_lt_of_pos _ hp⟩
theorem sqX_bd {p : Int} (hp : 0 < p) (S x : List Int) : 0 ≤ sqX p S x ∧ sqX p S x < p := prodF_bd hp _ _ _ _
theorem ins_mv {p : Int} {S : List Int} (hs : isSp p S = true) (x v : List Int) : isMv p S (insM p S x v) = true := prod_mv hs _ _
theorem lc_mv {p : Int} {S : List Int} (hs : isSp p S = true) (x y : List Int) : isMv p S (lcM p S x y) = true := kind_mv hs _ _ _
def BoxY (g gs : Nat) (p : Int) (aS : Option Addr) (n cS : Nat) (ax : Option Addr) (l cx : Nat) (W : World) : Prop :=
 W.cell? ⟨g, 0, none⟩ = some (.int .i64 p) ∧ W.cell? ⟨g, 1, none⟩ = some (.slice aS n cS) ∧ W.cell? ⟨g, 2, none⟩ = some (.slice ax l cx) ∧ W.cell? ⟨gs, 0, none⟩ = some (.int .i64 p) ∧ W.cell? ⟨gs, 1, none⟩ = some (.slice aS n cS)
theorem BoxY.below {g gs : Nat} {p : Int} {aS ax : Option Addr} {n cS l cx B : Nat} {w w' : World} (h : BoxY g gs p aS n cS ax l cx w) (hb : Below B w w') (hg : g < B ∧ gs < B) : BoxY g gs p aS n cS ax l cx w' :=
 ⟨(hb.cell (p := ⟨g, 0, none⟩) hg.1).trans h.1, (hb.cell (p := ⟨g, 1, none⟩) hg.1).trans h.2.1, (hb.cell (p := ⟨g, 2, none⟩) hg.1).trans h.2.2.1, (hb.cell (p := ⟨gs, 0, none⟩) hg.2).trans h.2.2.2.1, (hb.cell (p := ⟨gs, 1, none⟩) hg.2).trans h.2.2.2.2⟩
theorem BoxY.wrote {g gs b o m : Nat} {p : Int} {aS ax : Option Addr} {n cS l cx : Nat} {w w' : World} (h : BoxY g gs p aS n cS ax l cx w) (hb : Wrote b o m w w') (hg : g ≠ b ∧ gs ≠ b) : BoxY g gs p aS n cS ax l cx w' :=
 ⟨(World.cell?_of_block (w := w) (a := ⟨g, 0, none⟩) (hb.block g hg.1)).trans h.1, (World.cell?_of_block (w := w) (a := ⟨g, 1, none⟩) (hb.block g hg.1)).trans h.2.1, (World.cell?_of_block (w := w) (a := ⟨g, 2, none⟩) (hb.block g hg.1)).trans h.2.2.1, (World.cell?_of_block (w := w) (a := ⟨gs, 0, none⟩) (hb.block gs hg.2)).trans h.2.2.2.1, (World.cell?_of_block (w := w) (a := ⟨gs, 1, none⟩) (hb.block gs hg.2)).trans h.2.2.2.2⟩
theorem leftContraction_lv (pS : Int) (aS : Option Addr) (S : List Int) (cS loS tpS : Nat) (ax : Option Addr) (x : List Int) (cx lox tpx b lo tp : Nat) (v : List Int) (W : World) (hs : isSp pS S = true) (hS : RowIn loS tpS W aS S) (tS : tpS ≤ W.heap.size) (hx : RowIn lox tpx W ax x) (tx : tpx ≤ W.heap.size) (mx : isMv pS S x = true) (h : RowIn lo tp W (some ⟨b, 0, none⟩) (mkR (bl S) (vecF v v.length))) (th : tp ≤ W.heap.size) (hv : isVec pS S.length v = true) :
 Calls Tryz.prog 248 #[.agg #[.int .i64 pS, .slice aS S.length cS], .slice (some ⟨b, 0, none⟩) (bl S) (bl S), .slice ax x.length cx] W (OwnE (lcM pS S (vecM S v) x) W) := by
 have q := leftContraction_own pS aS S cS loS tpS (some ⟨b, 0, none⟩) (mkR (bl S) (vecF v v.length)) (bl S) lo tp ax x cx lox tpx W hs hS tS h th (vec_mv' hs hv) hx tx mx
 rw [mkR_len] at q
 exact q
theorem squareX_any' (pS : Int) (aS : Option Addr) (S : List Int) (cS loS tpS : Nat) (ax : Option Addr) (x : List Int) (cx lox tpx : Nat) (w : World) (hs : isSp pS S = true) (hS : RowIn loS tpS w aS S) (tS : tpS ≤ w.heap.size) (hx : RowIn lox tpx w ax x) (tx : tpx ≤ w.heap.size) (mx : isMv pS S x = true) :
 Calls Tryz.prog 136 #[.agg #[.int .i64 pS, .slice aS S.length cS, .slice ax x.length cx]] w (fun e w' => e = .returned (.agg #[.int .i64 pS, .int .i64 (sqX pS S x)]) ∧ Below w.heap.size w w') := squareX_any pS aS S cS loS tpS ax x cx lox tpx w hs hS tS hx tx mx
set_option maxRecDepth 100000 in
set_option maxHeartbeats 6400000 in
theorem projection_any (pS : Int) (aS : Option Addr) (S : List Int) (cS loS tpS : Nat) (ax : Option Addr) (x : List Int) (cx lox tpx : Nat) (av : Option Addr) (v : List Int) (cv lov tpv : Nat) (rb : Option Addr) (lb kb : Nat) (F : Int) (w : World) (hs : isSp pS S = true) (hS : RowIn loS tpS w aS S) (tS : tpS ≤ w.heap.size) (hx : RowIn lox tpx w ax x) (tx : tpx ≤ w.heap.size) (mx : isMv pS S x = true) (hv : RowIn lov tpv w av v) (tv : tpv ≤ w.heap.size) (mv : isVec pS S.length v = true) :
 Calls Tryz.prog 211 #[.agg #[.int .i64 pS, .slice aS S.length cS, .slice ax x.length cx, .slice rb lb kb, .int .i64 F], .slice av v.length cv] w (NewRow v.length (prjF pS S x v) w) := by
 have HI := Lib.hid hs
 have HS := Lib.hid hS
 have Hx := Lib.hid hx
 have HMx := Lib.hid mx
 have Hv := Lib.hid hv
 have HVV := Lib.hid mv
 have HLV := Lib.hid (isVec_iff.1 mv).len
 have h6 := (isSp_iff.1 hs).hi
 have hpb := prm_bd (isSp_iff.1 hs).prime
 have hbl := bl_le h6
 have hb0 := bl_pos S
 have hvl6 : v.length ≤ 6 := by rw [HLV.out]; exact h6
 have HB0 := Lib.hid (below_alloc w (.cells #[.int .i64 pS, .slice aS S.length cS, .slice ax x.length cx, .slice rb lb kb, .int .i64 F] 115))
 have HMK := Lib.hid (fun W => run_make_row' (P := Tryz.prog) 24 2 (.int .i64 0) 8 Tryz.underlying24 info64 rfl .i64 .i64 v.length (by omega) (by omega) W)
 have hfv := field_value
 clear hs hS hx mx hv mv
 go_enter Tryz.func211, Tryz.ntmps211
 go_upto_region 2 with fail
 obtain ⟨w0, hw0'⟩ : ∃ z, z = w.alloc (.cells #[.int .i64 pS, .slice aS S.length cS, .slice ax x.length cx, .slice rb lb kb, .int .i64 F] 115) := ⟨_, rfl⟩
 have hz5 : Z5 w.heap.size (.int .i64 pS) (.slice aS S.length cS) (.slice ax x.length cx) (.slice rb lb kb) (.int .i64 F) w0 := by rw [hw0']; exact Z5.new _ _ _ _ _ _ _
 rw [← hw0'] at HB0 ⊢
 have hw0 : w.heap.size < w0.heap.size := by rw [hw0']; simp
 have hwz : w.heap.size + 1 = w0.heap.size := by rw [hw0']; simp
 try rw [hwz]
 clear hw0'
 obtain ⟨w1, hw1⟩ : ∃ z, z = w0.alloc (.cells #[.int .i64 pS, .slice aS S.length cS] 26) := ⟨_, rfl⟩
 obtain ⟨gs, hgs⟩ : ∃ b, b = w0.heap.size := ⟨_, rfl⟩
 have hs0 : BoxY w.heap.size gs pS aS S.length cS ax x.length cx w1 := by
  have h := hz5.below (below_alloc w0 (.cells #[.int .i64 pS, .slice aS S.length cS] 26)) hw0
  rw [← hw1] at h
  exact ⟨h.1.1, h.1.2.1, h.1.2.2.1, by rw [hw1, hgs]; simp [go_sem], by rw [hw1, hgs]; simp [go_sem]⟩
 have HB1 : Hid (Below w.heap.size w w1) := by show Below _ _ _; rw [hw1]; exact HB0.out.alloc HB0.out.size _
 have hg1 : gs < w1.heap.size := by rw [hw1, hgs]; simp
 have hwg : w.heap.size < gs := by omega
 rw [← hw1]
 rw [← hgs]
 clear hw1 hwz hgs hz5
 have hs1 : Hid (BoxY w.heap.size gs pS aS S.length cS ax x.length cx w1.drew) := hs0
 have HBD : Hid (Below w.heap.size w w1.drew) := HB1.out.drew
 have hd0 : w.heap.size < w1.drew.heap.size ∧ gs < w1.drew.heap.size := ⟨Nat.lt_trans hwg hg1, hg1⟩
 clear hs0
 go_region_held3 (fun w' => w'.cell? ⟨w.heap.size, 0, none⟩ = some (.int .i64 pS) ∧ w'.cell? ⟨w.heap.size, 1, none⟩ = some (.slice aS S.length cS) ∧ w'.cell? ⟨w.heap.size, 2, none⟩ = some (.slice ax x.length cx) ∧ w'.cell? ⟨gs, 0, none⟩ = some (.int .i64 pS) ∧ w'.cell? ⟨gs, 1, none⟩ = some (.slice aS S.length cS)) (first | exact hs1.out | exact SSa.out | exact SSab.out | exact SSabc.out | go_keep) (first | (go_at_call 185; (with_reducible refine (vector_any pS aS S cS av v cv lov tpv w1.drew h6 HLV.out (Hv.out.below HBD.out tv) (Nat.le_trans tv (HBD.out).size)).mono ?_); rintro e wa ⟨ba, rfl, l_, u_, o_, b_⟩; have SSa := Lib.hid ((hs1.out).below b_ hd0); have HBa := Lib.hid (below_step HBD.out (Nat.le_of_lt hd0.1) b_); have zz_ := b_.size; have hda := And.intro (Nat.lt_of_lt_of_le hd0.1 zz_) (Nat.lt_of_lt_of_le hd0.2 zz_); have la := Nat.lt_of_lt_of_le hd0.1 l_; have ua_a := u_; have Na_a := Lib.hid o_; have Ra_a := Lib.hid ((o_.own (Nat.le_of_lt la) u_).row); clear b_ o_) | (go_at_call 248; (with_reducible refine (leftContraction_lv pS aS S cS loS tpS ax x cx lox tpx ba w.heap.size wa.heap.size v wa HI.out (HS.out.below HBa.out tS) (Nat.le_trans tS (HBa.out).size) (Hx.out.below HBa.out tx) (Nat.le_trans tx (HBa.out).size) HMx.out Ra_a.out (Nat.le_refl _) HVV.out).mono ?_); rintro e wab ⟨rb_, kb_, rfl, o_, b_⟩; have SSab := Lib.hid ((SSa.out).below b_ hda); have HBab := Lib.hid (below_step HBa.out (Nat.le_of_lt hda.1) b_); have zz_ := b_.size; have hdab := And.intro (Nat.lt_of_lt_of_le hda.1 zz_) (Nat.lt_of_lt_of_le hda.2 zz_); have Ra_ab := Lib.hid ((Ra_a.out.below b_ (Nat.le_refl _)).mono (Nat.le_refl _) zz_); have Na_ab := Lib.hid (Na_a.out.stay (b_.block ba ua_a)); have ua_ab := Nat.lt_of_lt_of_le ua_a zz_; have Ob_ab := Lib.hid (OwnR.mono' o_ (Nat.le_of_lt hda.1) (Nat.le_refl _)); have Rb_ab := Lib.hid (Ob_ab.out.row); clear b_ o_) | (go_at_call 184; (with_reducible refine (product_own pS aS S cS loS tpS rb_ (lcM pS S (vecM S v) x) kb_ w.heap.size wab.heap.size ax x cx lox tpx wab HI.out (HS.out.below HBab.out tS) (Nat.le_trans tS (HBab.out).size) Rb_ab.out (Nat.le_refl _) (lc_mv HI.out _ _) (Hx.out.below HBab.out tx) (Nat.le_trans tx (HBab.out).size) HMx.out).mono ?_); rintro e wabc ⟨rc, kc, rfl, o_, b_⟩; have SSabc := Lib.hid ((SSab.out).below b_ hdab); have HBabc := Lib.hid (below_step HBab.out (Nat.le_of_lt hdab.1) b_); have zz_ := b_.size; have hdabc := And.intro (Nat.lt_of_lt_of_le hdab.1 zz_) (Nat.lt_of_lt_of_le hdab.2 zz_); have Ra_abc := Lib.hid ((Ra_ab.out.below b_ (Nat.le_refl _)).mono (Nat.le_refl _) zz_); have Na_abc := Lib.hid (Na_ab.out.stay (b_.block ba ua_ab)); have ua_abc := Nat.lt_of_lt_of_le ua_ab zz_; have Rb_abc := Lib.hid ((Rb_ab.out.below b_ (Nat.le_refl _)).mono (Nat.le_refl _) zz_); have Oc_abc := Lib.hid (OwnR.mono' o_ (Nat.le_of_lt hdab.1) (Nat.le_refl _)); have Rc_abc := Lib.hid (Oc_abc.out.row); clear b_ o_))
 obtain ⟨z, hz⟩ : ∃ z, z = insM pS S x v := ⟨_, rfl⟩
 have HZE := Lib.hid hz
 have HRZ : Hid (RowIn w.heap.size wabc.heap.size wabc rc z) := by show RowIn _ _ _ _ _; rw [hz]; exact Rc_abc.out
 have hzl : (prodM pS S (lcM pS S (vecM S v) x) x).length = z.length := by rw [hz]; rfl
 have HZL : Hid (z.length = bl S) := by show _ = _; rw [hz]; exact prodM_len _ _ _ _
 have hznb := Mv.nums (ins_mv HI.out x v)
 rw [← hz] at hznb
 have HZN := Lib.hid hznb
 have hmk := HMK.out wabc
 rw [hzl]
 clear hz hzl hznb
 go_upto_region 4 with fail
 obtain ⟨W1, hW1⟩ : ∃ W1, W1 = wabc.alloc (.cells (madeCells #[.int .i64 0] v.length) 2) := ⟨_, rfl⟩
 obtain ⟨g, hg⟩ : ∃ b, b = wabc.heap.size := ⟨_, rfl⟩
 have HO1 : Hid (RowOwn W1 g 0 v.length (fun _ => 0)) := by show RowOwn _ _ _ _ _; rw [hW1, hg]; exact RowOwn.start wabc v.length _
 have HBW : Hid (Below w.heap.size w W1) := by show Below _ _ _; rw [hW1]; exact HBabc.out.alloc HBabc.out.size _
 have HBC : Hid (Below wabc.heap.size wabc W1) := by show Below _ _ _; rw [hW1]; exact balloc wabc _
 have hSW : Hid (BoxY w.heap.size gs pS aS S.length cS ax x.length cx W1) := by show BoxY _ _ _ _ _ _ _ _ _ _; rw [hW1]; exact SSabc.out.below (balloc wabc _) hdabc
 have hu1 : g < W1.heap.size := by rw [hW1, hg]; simp
 have hwgg : w.heap.size < g ∧ gs < g := by rw [hg]; exact hdabc
 have hgz : wabc.heap.size = g := hg.symm
 rw [← hW1, ← hg]
 clear hmk hW1 hg
 go_wp2
 go_loopw [30] (fun t wr => ∃ i : Nat, i ≤ v.length ∧ t = .int .i64 i ∧ RowOwn wr g 0 v.length (fun j => if j < i then z.getD (2 ^ j) 0 else 0) ∧ Wrote g 0 v.length W1 wr) (fun t _ => v.length - (intOf t).toNat)
 case atStart => exact ⟨0, Nat.zero_le _, rfl, HO1.out.congr (fun j _ => (if_neg (Nat.not_lt_zero j)).symm), Wrote.refl _ _ _ _⟩
 case round =>
  obtain ⟨i, hi, rfl, hr, hw⟩ := hrel
  have HR := Lib.hid hr
  have HW := Lib.hid hw
  by_cases hlt : i < v.length
  · have hi6 : i < 6 := by omega
    obtain ⟨q, hq⟩ : ∃ q, q = 2 ^ i := ⟨_, rfl⟩
    have HQ := Lib.hid hq
    have hqn : q < z.length := by rw [hq, HZL.out]; exact Nat.pow_lt_pow_right (by decide) (by rw [← HLV.out]; exact hlt)
    obtain ⟨b2, o2, ha2, l2, t2, hc2⟩ := ((HRZ.out.below HBC.out (Nat.le_refl _)).same (hw.same (Or.inr (by rw [hgz]; exact Nat.le_refl _)))).num hqn
    subst ha2
    have c0 := hr.cell i hlt
    have f0 := hr.free i hlt
    rw [Nat.zero_add] at c0 f0
    rw [if_neg (Nat.lt_irrefl i)] at c0
    have hi1 : (i : Int) < (v.length : Int) := by omega
    have e1 : wrap64 ((2 : Int) ^ i) = (q : Int) := by rw [hq]; exact wrap_pow hi6
    have e2 : IntKind.i64.wrap ((2 : Int) ^ i) = (q : Int) := by rw [hq]; exact kwrap_pow hi6
    have hq1 : (q : Int) < (z.length : Int) := Int.ofNat_lt.2 hqn
    clear hr hw hq
    go_wp2
    go_roundw
    case rel => exact ⟨i + 1, by omega, by go_num, row_put0 HR.out hlt (fun j _ => by
     by_cases e : j = i
     · subst e; rw [if_pos rfl, if_pos (Nat.lt_succ_self _), ← HQ.out]; exact (getD_at hqn).symm
     · rw [if_neg e]
       by_cases e3 : j < i
       · rw [if_pos e3, if_pos (by omega)]
       · rw [if_neg e3, if_neg (by omega)]), wrote_put0 HW.out hlt _⟩
    case measure => simp [intOf]; omega
  · have hn : i = v.length := by omega
    subst hn
    have HB2 : Hid (Below w.heap.size w wr) := HBW.out.trans (hw.belowB (Nat.le_of_lt hwgg.1))
    have NN : Hid (RowOwn wr.drew g 0 v.length (fun j => if j < v.length then z.getD (2 ^ j) 0 else 0)) := ⟨hr.cell, hr.free⟩
    have hs2 : Hid (BoxY w.heap.size gs pS aS S.length cS ax x.length cx wr.drew) := hSW.out.wrote hw.drew ⟨Nat.ne_of_lt hwgg.1, Nat.ne_of_lt hwgg.2⟩
    have HBE : Hid (Below w.heap.size w wr.drew) := HB2.out.drew
    have hzw : wr.heap.size = W1.heap.size := hw.size
    have hd1 : w.heap.size < wr.drew.heap.size ∧ gs < wr.drew.heap.size := by
     show w.heap.size < wr.heap.size ∧ gs < wr.heap.size
     rw [hzw]; exact ⟨Nat.lt_trans hwgg.1 hu1, Nat.lt_trans hwgg.2 hu1⟩
    have ug : g < wr.drew.heap.size := by show g < wr.heap.size; rw [hzw]; exact hu1
    have hp := (isSp_iff.1 HI.out).prime
    have HIV := Lib.hid (inv_bd hp (sqX pS S x))
    have hinv : inv pS (sqX pS S x) ≤ pS := Int.le_of_lt HIV.out.2
    have HTB : Hid (∀ j, j < v.length → 0 ≤ (fun j => if j < v.length then z.getD (2 ^ j) 0 else 0) j ∧ (fun j => if j < v.length then z.getD (2 ^ j) 0 else 0) j < pS) := fun j hj => by
     show 0 ≤ (if j < v.length then z.getD (2 ^ j) 0 else 0) ∧ (if j < v.length then z.getD (2 ^ j) 0 else 0) < pS
     rw [if_pos hj]
     exact HZN.out _ (by rw [HZL.out]; exact Nat.pow_lt_pow_right (by decide) (by rw [← HLV.out]; exact hj))
    have hbn : v.length ≤ 100000 := by omega
    have HSQ := Lib.hid (sqX_bd (p := pS) (by omega) S x)
    have hne : w.heap.size ≠ g ∧ gs ≠ g := ⟨Nat.ne_of_lt hwgg.1, Nat.ne_of_lt hwgg.2⟩
    have hgle : w.heap.size ≤ g := Nat.le_of_lt hwgg.1
    clear hr hw
    go_wp2
    go_region_held3 (fun w' => w'.cell? ⟨w.heap.size, 0, none⟩ = some (.int .i64 pS) ∧ w'.cell? ⟨w.heap.size, 1, none⟩ = some (.slice aS S.length cS) ∧ w'.cell? ⟨w.heap.size, 2, none⟩ = some (.slice ax x.length cx) ∧ w'.cell? ⟨gs, 0, none⟩ = some (.int .i64 pS) ∧ w'.cell? ⟨gs, 1, none⟩ = some (.slice aS S.length cS)) (first | exact hs2.out | exact SSa.out | exact SSab.out | exact SSabc.out | go_keep) (first | (go_at_call 136; (with_reducible refine (squareX_any' pS aS S cS loS tpS ax x cx lox tpx wr.drew HI.out (HS.out.below HBE.out tS) (Nat.le_trans tS (HBE.out).size) (Hx.out.below HBE.out tx) (Nat.le_trans tx (HBE.out).size) HMx.out).mono ?_); rintro e wa ⟨rfl, b_⟩; have SSa := Lib.hid ((hs2.out).below b_ hd1); have HBa := Lib.hid (below_step HBE.out (Nat.le_of_lt hd1.1) b_); have zz_ := b_.size; have HCa := Lib.hid b_; have hda := And.intro (Nat.lt_of_lt_of_le hd1.1 zz_) (Nat.lt_of_lt_of_le hd1.2 zz_); clear b_) | (go_at_call 125; (with_reducible refine (inverse_any pS (sqX pS S x) wa (isSp_iff.1 HI.out).prime HSQ.out.1 HSQ.out.2).mono ?_); rintro e wab ⟨rfl, b_⟩; have SSab := Lib.hid ((SSa.out).below b_ hda); have HBab := Lib.hid (below_step HBa.out (Nat.le_of_lt hda.1) b_); have zz_ := b_.size; have HCab := Lib.hid (below_step HCa.out (HCa.out).size b_); have hdab := And.intro (Nat.lt_of_lt_of_le hda.1 zz_) (Nat.lt_of_lt_of_le hda.2 zz_); clear b_) | (go_at_call 124; (with_reducible refine (scale_any pS (inv pS (sqX pS S x)) g 0 v.length v.length (fun j => if j < v.length then z.getD (2 ^ j) 0 else 0) wab (isSp_iff.1 HI.out).prime (NN.out.stay (HCab.out.block g ug)) hbn HTB.out HIV.out.1 hinv).mono ?_); rintro e wabc ⟨rfl, o_, q_⟩; have b_ := q_.belowB (hgle); have zz_ : wab.heap.size ≤ wabc.heap.size := Nat.le_of_eq q_.size.symm; have SSabc := Lib.hid ((SSab.out).wrote q_ (hne)); have HBabc := Lib.hid ((HBab.out).trans b_); have hdabc := And.intro (Nat.lt_of_lt_of_le hdab.1 zz_) (Nat.lt_of_lt_of_le hdab.2 zz_); have Ng_abc := Lib.hid o_; clear b_ o_ q_))
    go_wp2
    go_ret
    exact ⟨g, rfl, hgle, Nat.lt_of_lt_of_le ug (Nat.le_trans HCab.out.size zz_), Ng_abc.out.congr (fun j hj => by
     rw [if_pos hj, HZE.out]; rfl), HBabc.out⟩
noncomputable def codeI (p : Int) (S x v : List Int) : Int := if codeBV p S x v = 0 then (if sqX p S x = 0 then 5 else 0) else codeBV p S x v
def outF (p : Int) (S x v : List Int) (i : Nat) : Int := (v.getD i 0 - prjF p S x v i) % p
def splP (p a b : Int) : Int := a
def splPF (p : Int) (S x v : List Int) (i : Nat) : Int := splP p (prjF p S x v i) (outF p S x v i)
noncomputable def splPV (p : Int) (S x v : List Int) : List Int := if codeI p S x v = 0 then mkR v.length (splPF p S x v) else []
theorem splPV_size (p : Int) (S x v : List Int) : (splPV p S x v).length ≤ 1048576 := by
 unfold splPV; split
 · rename_i h
   have h0 : codeBV p S x v = 0 := by
    unfold codeI at h
    by_cases h0 : codeBV p S x v = 0
    · exact h0
    · rw [if_neg h0] at h; exact absurd h h0
   have hv := codeVs_vec (codeBV_zero h0).1
   have hs := (codeB_one (codeBV_zero h0).2).1
   have h6 := (isSp_iff.1 hs).hi
   rw [mkR_len, (isVec_iff.1 hv).len]; omega
 · simp
set_option maxHeartbeats 400000 in
theorem op_P (p a b : Int) (w : World) (hp : prm p = true) (a0 : 0 ≤ a) (a1 : a < p) (b0 : 0 ≤ b) (b1 : b < p) :
 Calls Tryz.prog 128 #[.agg #[.int .i64 p, .int .i64 a], .agg #[.int .i64 p, .int .i64 b]] w fun e w' => e = .returned (.agg #[.int .i64 p, .int .i64 (splP p a b)]) ∧ Below w.heap.size w w' := by
 go_enter Tryz.func128, Tryz.ntmps128
 go_wp2
 refine bodyPost_ret (v := .agg #[.int .i64 p, .int .i64 a]) (by simp [results, Tryz.results128, go_sem]) rfl ⟨rfl, ?_⟩
 ((repeat' (first | with_reducible exact Below.refl _ _ | (with_reducible refine Below.setCell ?_ ?_ _) | (with_reducible refine Below.alloc ?_ ?_ _) | (with_reducible refine Below.drew ?_))); all_goals (first | (simp; done) | omega | (simp; omega)))
def splR (p a b : Int) : Int := b
def splRF (p : Int) (S x v : List Int) (i : Nat) : Int := splR p (prjF p S x v i) (outF p S x v i)
noncomputable def splRV (p : Int) (S x v : List Int) : List Int := if codeI p S x v = 0 then mkR v.length (splRF p S x v) else []
set_option maxHeartbeats 400000 in
theorem op_R (p a b : Int) (w : World) (hp : prm p = true) (a0 : 0 ≤ a) (a1 : a < p) (b0 : 0 ≤ b) (b1 : b < p) :
 Calls Tryz.prog 131 #[.agg #[.int .i64 p, .int .i64 a], .agg #[.int .i64 p, .int .i64 b]] w fun e w' => e = .returned (.agg #[.int .i64 p, .int .i64 (splR p a b)]) ∧ Below w.heap.size w w' := by
 go_enter Tryz.func131, Tryz.ntmps131
 go_wp2
 refine bodyPost_ret (v := .agg #[.int .i64 p, .int .i64 b]) (by simp [results, Tryz.results131, go_sem]) rfl ⟨rfl, ?_⟩
 ((repeat' (first | with_reducible exact Below.refl _ _ | (with_reducible refine Below.setCell ?_ ?_ _) | (with_reducible refine Below.alloc ?_ ?_ _) | (with_reducible refine Below.drew ?_))); all_goals (first | (simp; done) | omega | (simp; omega)))
def splF (p a b : Int) : Int := (a - b) % p
def splFF (p : Int) (S x v : List Int) (i : Nat) : Int := splF p (prjF p S x v i) (outF p S x v i)
noncomputable def splFV (p : Int) (S x v : List Int) : List Int := if codeI p S x v = 0 then mkR v.length (splFF p S x v) else []
theorem op_F (p a b : Int) (w : World) (hp : prm p = true) (a0 : 0 ≤ a) (a1 : a < p) (b0 : 0 ≤ b) (b1 : b < p) :
 Calls Tryz.prog 132 #[.agg #[.int .i64 p, .int .i64 a], .agg #[.int .i64 p, .int .i64 b]] w fun e w' => e = .returned (.agg #[.int .i64 p, .int .i64 (splF p a b)]) ∧ Below w.heap.size w w' := minus_any p a b w hp a0 a1 b0 (by have := prm_bd hp; omega)
def Q4 (g gi bv o : Nat) (p A B : Int) (W : World) : Prop := W.cell? ⟨g, 0, none⟩ = some (.int .i64 p) ∧ W.cell? ⟨bv, o, none⟩ = some (.int .i64 B) ∧ W.cell? ⟨gi, 0, none⟩ = some (.int .i64 p) ∧ W.cell? ⟨gi, 1, none⟩ = some (.int .i64 A)
theorem Q4.below {g gi bv o X : Nat} {p A B : Int} {w w' : World} (h : Q4 g gi bv o p A B w) (b : Below X w w') (l : g < X ∧ gi < X ∧ bv < X) : Q4 g gi bv o p A B w' :=
 ⟨(b.cell (p := ⟨g, 0, none⟩) l.1).trans h.1, (b.cell (p := ⟨bv, o, none⟩) l.2.2).trans h.2.1, (b.cell (p := ⟨gi, 0, none⟩) l.2.1).trans h.2.2.1, (b.cell (p := ⟨gi, 1, none⟩) l.2.1).trans h.2.2.2⟩
theorem Q4.put {g gi bv o c j : Nat} {p A B : Int} {w : World} {u : Value} (h : Q4 g gi bv o p A B w) (l : g ≠ c ∧ gi ≠ c ∧ bv ≠ c) : Q4 g gi bv o p A B (w.setCell ⟨c, j, none⟩ u) := by
 have e : ∀ b i, b ≠ c → (w.setCell ⟨c, j, none⟩ u).cell? ⟨b, i, none⟩ = w.cell? ⟨b, i, none⟩ := fun b i hb => World.cell?_setCell_other w ⟨c, j, none⟩ ⟨b, i, none⟩ u (fun e => hb (by injection e with e1; exact e1.symm))
 exact ⟨(e _ _ l.1).trans h.1, (e _ _ l.2.2).trans h.2.1, (e _ _ l.2.1).trans h.2.2.1, (e _ _ l.2.1).trans h.2.2.2⟩
end Go.Proofs.YtgfanoejohpmkaaGreat