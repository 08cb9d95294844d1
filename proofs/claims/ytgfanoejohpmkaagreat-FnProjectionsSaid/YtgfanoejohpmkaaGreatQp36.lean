/-
  Contracts and facts that the walk of the law rests on.
  Conditions: those that each theorem names.
-/
import Derived.Test.YtgfanoejohpmkaaGreatQp35
import Derived.Test.YtgfanoejohpmkaaGreatQp34
import Derived.Test.YtgfanoejohpmkaaGreatQp22
import Derived.BigQuiet
import Derived.Deep.RegionHeld3
import Derived.Deep.DeepCutAuto
namespace Go.Proofs.YtgfanoejohpmkaaGreat
open Go.RowKit
set_option linter.unusedVariables false
set_option maxRecDepth 100000 in
set_option maxHeartbeats 3200000 in
theorem l06Blade_own (pS : Int) (aS : Option Addr) (S : List Int) (cS loS tpS : Nat) (am : Option Addr) (m : List (List Int)) (cm lom tpm : Nat) (w : World) (hs : isSp pS S = true) (hS : RowIn loS tpS w aS S) (tS : tpS ≤ w.heap.size) (hm : MatIn lom tpm w am m) (tm : tpm ≤ w.heap.size) (hl : listB pS S m = true) :
 Calls Tryz.prog 155 #[.agg #[.int .i64 pS, .slice aS S.length cS], .slice am m.length cm] w (OwnE (wvB pS S m) w) := by
 have HI := Lib.hid hs
 have HS := Lib.hid hS
 have h6 := (isSp_iff.1 hs).hi
 have hpb := prm_bd (isSp_iff.1 hs).prime
 have hbl := bl_le h6
 have hb0 := bl_pos S
 have HB0 := Lib.hid (below_alloc w (.cells #[.int .i64 pS, .slice aS S.length cS] 26))
 have k0 := nw0 w (.int .i64 pS) (.slice aS S.length cS) 26
 have k1 := nw1 w (.int .i64 pS) (.slice aS S.length cS) 26
 have Hm := Lib.hid hm
 have HIL := Lib.hid (list_isL hs hl)
 have HBB := Lib.hid (bas_list hs hl)
 clear hs hS hm hl
 go_enter Tryz.func155, Tryz.ntmps155
 go_upto_region 1 with fail
 obtain ⟨w1, hw1⟩ : ∃ z, z = w.alloc (.cells #[.int .i64 pS, .slice aS S.length cS] 26) := ⟨_, rfl⟩
 rw [← hw1] at HB0 k0 k1 ⊢
 have hw0 : w.heap.size < w1.heap.size := by rw [hw1]; simp
 clear hw1
 have hs1 : Hid (w1.drew.cell? ⟨w.heap.size, 0, none⟩ = some (.int .i64 pS) ∧ w1.drew.cell? ⟨w.heap.size, 1, none⟩ = some (.slice aS S.length cS)) := ⟨k0, k1⟩
 have HBD : Hid (Below w.heap.size w w1.drew) := HB0.out.drew
 have hd0 : w.heap.size < w1.drew.heap.size := hw0
 go_region_held3 (fun w' => w'.cell? ⟨w.heap.size, 0, none⟩ = some (.int .i64 pS) ∧ w'.cell? ⟨w.heap.size, 1, none⟩ = some (.slice aS S.length cS)) (first | exact hs1.out | exact SSa.out | exact SSab.out | go_keep) (first | (go_at_call 227; (with_reducible refine (basis_any pS am m cm lom tpm w1.drew (Hm.out.below HBD.out tm) (Nat.le_trans tm (HBD.out).size) HIL.out).mono ?_); rintro e wa ⟨ra, ka, rfl, o_, b_, _⟩; have SSa := Lib.hid (ss2 b_ hd0 hs1.out); have HBa := Lib.hid (below_step HBD.out (Nat.le_of_lt hd0) b_); have zz_ := b_.size; have hda := Nat.lt_of_lt_of_le hd0 zz_; have Ma_a := Lib.hid (o_.mono (Nat.le_of_lt hd0) (Nat.le_refl _)); clear b_ o_) | (go_at_call 169; (with_reducible refine (l05Vectors_own pS aS S cS loS tpS ra (bas pS m) ka w.heap.size wa.heap.size wa HI.out (HS.out.below HBa.out tS) (Nat.le_trans tS (HBa.out).size) Ma_a.out (Nat.le_refl _) HBB.out).mono ?_); rintro e wab ⟨rb, kb, rfl, o_, b_⟩; have SSab := Lib.hid (ss2 b_ hda SSa.out); have HBab := Lib.hid (below_step HBa.out (Nat.le_of_lt hda) b_); have zz_ := b_.size; have hdab := Nat.lt_of_lt_of_le hda zz_; have Ma_ab := Lib.hid ((Ma_a.out.below b_ (Nat.le_refl _)).mono (Nat.le_refl _) zz_); have Ob_ab := Lib.hid (OwnR.mono' o_ (Nat.le_of_lt hda) (Nat.le_refl _)); have Rb_ab := Lib.hid (Ob_ab.out.row); clear b_ o_))
 all_goals
  go_wp2
  go_ret
  exact ⟨rb, kb, rfl, Ob_ab.out, HBab.out⟩
theorem isBl_not {p : Int} {S x : List Int} (h : (grades S x).length ≠ 1) : isBl p S x = false := decide_eq_false fun e => h (by rw [e]; rfl)
theorem isBl_one {p : Int} {S x : List Int} (h : (grades S x).length = 1) : isBl p S x = (((subM p S x).length : Int) == (grades S x).getD 0 0) := by
 unfold isBl
 match hg : grades S x, h with
 | [k], _ =>
  rw [Bool.eq_iff_iff, decide_eq_true_eq, beq_iff_eq]
  constructor
  · intro e; injection e with e1; exact e1.symm
  · intro e; rw [e]; rfl
set_option maxRecDepth 100000 in
set_option maxHeartbeats 3200000 in
theorem l06Is_any (pS : Int) (aS : Option Addr) (S : List Int) (cS loS tpS : Nat) (ax : Option Addr) (x : List Int) (cx lox tpx : Nat) (w : World) (hs : isSp pS S = true) (hS : RowIn loS tpS w aS S) (tS : tpS ≤ w.heap.size) (hx : RowIn lox tpx w ax x) (tx : tpx ≤ w.heap.size) (mx : isMv pS S x = true) :
 Calls Tryz.prog 140 #[.agg #[.int .i64 pS, .slice aS S.length cS], .slice ax x.length cx] w fun e w' => e = .returned (.bool (isBl pS S x)) ∧ Below w.heap.size w w' := by
 have HI := Lib.hid hs
 have HS := Lib.hid hS
 have Hx := Lib.hid hx
 have HMx := Lib.hid mx
 have h6 := (isSp_iff.1 hs).hi
 have hbl := bl_le h6
 have hlx : x.length ≤ 64 := by rw [Mv.len mx]; exact hbl
 have HB0 := Lib.hid (below_alloc w (.cells #[.int .i64 pS, .slice aS S.length cS] 26))
 have k0 := nw0 w (.int .i64 pS) (.slice aS S.length cS) 26
 have k1 := nw1 w (.int .i64 pS) (.slice aS S.length cS) 26
 by_cases hg : (grades S x).length = 1
 · have HO := Lib.hid (isBl_one (p := pS) hg)
   obtain ⟨n, hn⟩ : ∃ n, n = (grades S x).length := ⟨_, rfl⟩
   have hn1 : (n : Int) = 1 := by omega
   have HG := Lib.hid hg
   have HN := Lib.hid hn
   have hle : (subM pS S x).length ≤ 6 := sub_le hs
   obtain ⟨L, hL⟩ : ∃ L, L = (subM pS S x).length := ⟨_, rfl⟩
   obtain ⟨G, hG⟩ : ∃ G, G = (grades S x).getD 0 0 := ⟨_, rfl⟩
   rw [← hL, ← hG] at HO
   have HGE := Lib.hid hG
   have HLE := Lib.hid hL
   clear hs hS hx mx hg hn hL hG hle
   go_enter Tryz.func140, Tryz.ntmps140
   go_upto_region 2 with (go_at_call 216; (with_reducible refine (l04Grades_any pS aS S cS ax x cx lox tpx _ h6 (Hx.out.below HB0.out tx) (Nat.le_trans tx HB0.out.size) hlx).mono ?_); rintro e w2 ⟨r2, c2, rfl, m_, b_⟩; rw [← HN.out]; have HB2 := Lib.hid (below_step HB0.out HB0.out.size b_); have k0' := (b_.cell (p := ⟨w.heap.size, 0, none⟩) (lt_alloc w (.cells #[.int .i64 pS, .slice aS S.length cS] 26))).trans k0; have k1' := (b_.cell (p := ⟨w.heap.size, 1, none⟩) (lt_alloc w (.cells #[.int .i64 pS, .slice aS S.length cS] 26))).trans k1; have hd2 := Nat.lt_of_lt_of_le (lt_alloc w (.cells #[.int .i64 pS, .slice aS S.length cS] 26)) b_.size; have M2 := Lib.hid m_; clear m_ b_ k0 k1)
   obtain ⟨b9, o9, ha9, _, hu9, hc9⟩ := M2.out.num (j := 0) (by rw [HG.out]; exact Nat.one_pos)
   subst ha9
   rw [Nat.add_zero, ← HGE.out] at hc9
   have hs1 : Hid (w2.drew.cell? ⟨w.heap.size, 0, none⟩ = some (.int .i64 pS) ∧ w2.drew.cell? ⟨w.heap.size, 1, none⟩ = some (.slice aS S.length cS) ∧ w2.drew.cell? ⟨b9, o9, none⟩ = some (.int .i64 G)) := ⟨k0', k1', hc9⟩
   have HBD : Hid (Below w.heap.size w w2.drew) := HB2.out.drew
   have hd0 : w.heap.size < w2.drew.heap.size := hd2
   have hx0 : b9 < w2.drew.heap.size := hu9
   have hi0 : (0 : Int) < (n : Int) := by omega
   go_region_held3 (fun w' => w'.cell? ⟨w.heap.size, 0, none⟩ = some (.int .i64 pS) ∧ w'.cell? ⟨w.heap.size, 1, none⟩ = some (.slice aS S.length cS) ∧ w'.cell? ⟨b9, o9, none⟩ = some (.int .i64 G)) (first | exact hs1.out | exact SSa.out | go_keep) ((go_at_call 141; ((with_reducible refine (l06Subspace_any pS aS S cS loS tpS ax x cx lox tpx w2.drew HI.out (HS.out.below HBD.out tS) (Nat.le_trans tS HBD.out.size) (Hx.out.below HBD.out tx) (Nat.le_trans tx HBD.out.size) HMx.out).mono ?_); rintro e wa ⟨ra, ka, rfl, m_, b_⟩; rw [← HLE.out]; have SSa := Lib.hid (ss3 b_ hd0 hx0 hs1.out); have HBa := Lib.hid (below_step HBD.out HBD.out.size b_); clear b_ m_)))
   all_goals
    go_wp2
    go_ret
    exact ⟨by rw [HO.out]; rfl, HBa.out⟩
 · have HO := Lib.hid (isBl_not (p := pS) hg)
   obtain ⟨n, hn⟩ : ∃ n, n = (grades S x).length := ⟨_, rfl⟩
   have hn1 : ((n : Int) == 1) = false := by
    rw [beq_eq_false_iff_ne]; omega
   have HN := Lib.hid hn
   clear hs hS hx mx hg hn
   go_enter Tryz.func140, Tryz.ntmps140
   go_upto_region 2 with (go_at_call 216; (with_reducible refine (l04Grades_any pS aS S cS ax x cx lox tpx _ h6 (Hx.out.below HB0.out tx) (Nat.le_trans tx HB0.out.size) hlx).mono ?_); rintro e w2 ⟨r2, c2, rfl, m_, b_⟩; rw [← HN.out]; have HB2 := Lib.hid (below_step HB0.out HB0.out.size b_); have k0' := (b_.cell (p := ⟨w.heap.size, 0, none⟩) (lt_alloc w (.cells #[.int .i64 pS, .slice aS S.length cS] 26))).trans k0; have k1' := (b_.cell (p := ⟨w.heap.size, 1, none⟩) (lt_alloc w (.cells #[.int .i64 pS, .slice aS S.length cS] 26))).trans k1; have hd2 := Nat.lt_of_lt_of_le (lt_alloc w (.cells #[.int .i64 pS, .slice aS S.length cS] 26)) b_.size; have M2 := Lib.hid m_; clear m_ b_ k0 k1)
   have hs1 : Hid (w2.drew.cell? ⟨w.heap.size, 0, none⟩ = some (.int .i64 pS) ∧ w2.drew.cell? ⟨w.heap.size, 1, none⟩ = some (.slice aS S.length cS)) := ⟨k0', k1'⟩
   go_quiet (fail)
   all_goals
    go_wp2
    go_ret
    exact ⟨by rw [HO.out]; rfl, HB2.out.trans (((Quiet.refl w2).next _).below _)⟩
def Z5 (g : Nat) (v0 v1 v2 v3 v4 : Value) (W : World) : Prop :=
 (W.cell? ⟨g, 0, none⟩ = some v0 ∧ W.cell? ⟨g, 1, none⟩ = some v1 ∧ W.cell? ⟨g, 2, none⟩ = some v2 ∧ W.cell? ⟨g, 3, none⟩ = some v3 ∧ W.cell? ⟨g, 4, none⟩ = some v4) ∧ W.frozen? ⟨g, 0, none⟩ = false ∧ W.frozen? ⟨g, 1, none⟩ = false ∧ W.frozen? ⟨g, 2, none⟩ = false ∧ W.frozen? ⟨g, 3, none⟩ = false ∧ W.frozen? ⟨g, 4, none⟩ = false
theorem Z5.below {g B : Nat} {v0 v1 v2 v3 v4 : Value} {w w' : World} (h : Z5 g v0 v1 v2 v3 v4 w) (b : Below B w w') (l : g < B) : Z5 g v0 v1 v2 v3 v4 w' :=
 ⟨⟨(b.cell (p := ⟨g, 0, none⟩) l).trans h.1.1, (b.cell (p := ⟨g, 1, none⟩) l).trans h.1.2.1, (b.cell (p := ⟨g, 2, none⟩) l).trans h.1.2.2.1, (b.cell (p := ⟨g, 3, none⟩) l).trans h.1.2.2.2.1, (b.cell (p := ⟨g, 4, none⟩) l).trans h.1.2.2.2.2⟩,
  (b.frozen (p := ⟨g, 0, none⟩) l).trans h.2.1, (b.frozen (p := ⟨g, 1, none⟩) l).trans h.2.2.1, (b.frozen (p := ⟨g, 2, none⟩) l).trans h.2.2.2.1, (b.frozen (p := ⟨g, 3, none⟩) l).trans h.2.2.2.2.1, (b.frozen (p := ⟨g, 4, none⟩) l).trans h.2.2.2.2.2⟩
theorem Z5.new (w : World) (v0 v1 v2 v3 v4 : Value) (T : TypeId) : Z5 w.heap.size v0 v1 v2 v3 v4 (w.alloc (.cells #[v0, v1, v2, v3, v4] T)) :=
 ⟨⟨by simp [go_sem], by simp [go_sem], by simp [go_sem], by simp [go_sem], by simp [go_sem]⟩, by simp [go_sem], by simp [go_sem], by simp [go_sem], by simp [go_sem], by simp [go_sem]⟩
theorem OwnM.put {lo hi g j : Nat} {w : World} {a : Option Addr} {m : List (List Int)} {v : Value} (h : OwnM lo hi w a m) (hg : g < lo) : OwnM lo hi (w.setCell ⟨g, j, none⟩ v) a m :=
 h.same fun k k0 k1 => Below.heap_setCell _ _ _ _ (show k ≠ g by omega)
def put5 (g : Nat) (v0 v1 v2 v3 v4 : Value) (W : World) : World := ((((W.setCell ⟨g, 0, none⟩ v0).setCell ⟨g, 1, none⟩ v1).setCell ⟨g, 2, none⟩ v2).setCell ⟨g, 3, none⟩ v3).setCell ⟨g, 4, none⟩ v4
theorem OwnM.put5 {lo hi g : Nat} {w : World} {a : Option Addr} {m : List (List Int)} {v0 v1 v2 v3 v4 : Value} (h : OwnM lo hi w a m) (hg : g < lo) : OwnM lo hi (put5 g v0 v1 v2 v3 v4 w) a m := ((((h.put hg).put hg).put hg).put hg).put hg
theorem below_put5 {B g : Nat} {w w' : World} {v0 v1 v2 v3 v4 : Value} (h : Below B w w') (hg : B ≤ g) : Below B w (put5 g v0 v1 v2 v3 v4 w') := ((((h.setCell hg _).setCell hg _).setCell hg _).setCell hg _).setCell hg _
theorem put5_size (g : Nat) (v0 v1 v2 v3 v4 : Value) (w : World) : (put5 g v0 v1 v2 v3 v4 w).heap.size = w.heap.size := by simp [put5, World.setCell]
theorem red_fst {p : Int} {n : Nat} {m : List (List Int)} {P : Nat → Nat} (hR : Rref p m.length n (at' m) P) (hl : ∀ i, i < m.length → (rw' m i).length = n) {i : Nat} (hi : i < m.length) : fstAt (rw' m i) (P i) :=
 ⟨by rw [hl i hi]; exact hR.pv i hi, fun j hj => hR.fst i hi j hj, by rw [show (rw' m i).getD (P i) 0 = 1 from hR.one i hi]; decide⟩
theorem kernelOf_sub (p : Int) (S x : List Int) (a : Option Addr) (ca lo tp : Nat) (w : World) (hs : isSp p S = true) (hm : MatIn lo tp w a (eqM p S x)) (ht : tp ≤ w.heap.size) :
 Calls Tryz.prog 161 #[.int .i64 p, .slice a (eqM p S x).length ca] w (OwnK (subM p S x) w) := kernelOf_any p a (eqM p S x) ca lo tp w hm ht (eqM_wide hs)
theorem equal_n (a b : Option Addr) (za zb : List Int) (n ca cb lo tp lo' tp' : Nat) (w : World) (hn : za.length = n) (ha : RowIn lo tp w a za) (hb : RowIn lo' tp' w b zb) (sa : za.length ≤ 1048576) :
 Calls Tryz.prog 223 #[.slice a n ca, .slice b zb.length cb] w fun e w' => e = .returned (.bool (decide (za = zb))) ∧ Below w.heap.size w w' := by
 subst hn
 exact (equal_any a b za zb ca cb lo tp lo' tp' w ha hb sa).mono fun _ _ ⟨h, q⟩ => ⟨h, q.below _⟩
def AsB (p : Int) (aS : Option Addr) (S : List Int) (cS : Nat) (ax : Option Addr) (x : List Int) (cx : Nat) (w : World) (e : Ending) (w' : World) : Prop :=
 (isBl p S x = true ∧ ∃ r k, e = .returned (.tuple #[.agg #[.int .i64 p, .slice aS S.length cS, .slice ax x.length cx, .slice r (subM p S x).length k, .int .i64 (facM p S x)], .bool true]) ∧ OwnM w.heap.size w'.heap.size w' r (subM p S x) ∧ Below w.heap.size w w')
 ∨ (isBl p S x = false ∧ e = .returned (.tuple #[.agg #[.int .i64 0, .slice none 0 0, .slice none 0 0, .slice none 0 0, .int .i64 0], .bool false]) ∧ Below w.heap.size w w')
theorem isBl_cases {p : Int} {S x z : List Int} (hs : isSp p S = true) (hx : isMv p S x = true) (hz : z = mkR (bl S) fun c => (wvM p S (subM p S x) (subM p S x).length).getD c 0 * facM p S x % p) : (facM p S x = 0 ∧ isBl p S x = false) ∨ (facM p S x ≠ 0 ∧ decide (z = x) = true ∧ isBl p S x = true) ∨ (facM p S x ≠ 0 ∧ decide (z = x) = false ∧ isBl p S x = false) := by
 have h := isBl_iff hs hx
 rw [← hz] at h
 by_cases h0 : facM p S x = 0
 · exact .inl ⟨h0, by cases e : isBl p S x with | false => rfl | true => exact absurd h0 (h.1 e).1⟩
 · by_cases h1 : z = x
   · exact .inr (.inl ⟨h0, decide_eq_true h1, h.2 ⟨h0, h1⟩⟩)
   · exact .inr (.inr ⟨h0, decide_eq_false h1, by cases e : isBl p S x with | false => rfl | true => exact absurd (h.1 e).2 h1⟩)
set_option maxRecDepth 100000 in
set_option maxHeartbeats 6400000 in
theorem asBlade_any (pS : Int) (aS : Option Addr) (S : List Int) (cS loS tpS : Nat) (ax : Option Addr) (x : List Int) (cx lox tpx : Nat) (w : World) (hs : isSp pS S = true) (hS : RowIn loS tpS w aS S) (tS : tpS ≤ w.heap.size) (hx : RowIn lox tpx w ax x) (tx : tpx ≤ w.heap.size) (mx : isMv pS S x = true) :
 Calls Tryz.prog 148 #[.agg #[.int .i64 pS, .slice aS S.length cS, .slice ax x.length cx]] w (AsB pS aS S cS ax x cx w) := by
 have HI := Lib.hid hs
 have HS := Lib.hid hS
 have Hx := Lib.hid hx
 have HMx := Lib.hid mx
 have h6 := (isSp_iff.1 hs).hi
 have hpb := prm_bd (isSp_iff.1 hs).prime
 have hbl := bl_le h6
 have hb0 := bl_pos S
 have HB0 := Lib.hid (below_alloc w (.cells #[.int .i64 pS, .slice aS S.length cS, .slice ax x.length cx] 82))
 have k0 := BoxX.new w pS aS S.length cS ax x.length cx 82
 obtain ⟨m, hm⟩ : ∃ m, m = subM pS S x := ⟨_, rfl⟩
 have hR := sub_red (x := x) hs
 have hli := fun i hi => (sub_is (x := x) hs).len i hi
 have HL := Lib.hid (sub_list (x := x) hs)
 have hl6 := sub_le (x := x) hs
 have hK : maskM pS S x < x.length := by rw [Mv.len mx]; exact mask_lt hs
 have hFb := Mv.nums mx _ hK
 have HRF : Hid (∀ i, i < (subM pS S x).length → fstAt (rw' (subM pS S x) i) (pvs (subM pS S x) i)) := fun i hi => red_fst hR hli hi
 have HRP : Hid (∀ i, i < (subM pS S x).length → pvs (subM pS S x) i < 6) := fun i hi => Nat.lt_of_lt_of_le (hR.pv i hi) h6
 have HRL : Hid (∀ i, i < (subM pS S x).length → (rw' (subM pS S x) i).length ≤ 1024) := fun i hi => by rw [hli i hi]; omega
 have hCS := isBl_cases hs mx rfl
 have HFM : Hid (x.getD (maskM pS S x) 0 = facM pS S x) := rfl
 have HKM : Hid (pm (pvs (subM pS S x)) (subM pS S x).length = maskM pS S x) := rfl
 have HNA : Hid (∀ i, i < (subM pS S x).length → 0 < (rw' (subM pS S x) i).length) := fun i hi => by rw [hli i hi]; exact (isSp_iff.1 hs).lo
 rw [← hm] at HRF HRP HRL hl6 HL HKM hCS
 have HM := Lib.hid hm
 obtain ⟨K, hKe⟩ : ∃ k, k = maskM pS S x := ⟨_, rfl⟩
 obtain ⟨F, hFe⟩ : ∃ f, f = facM pS S x := ⟨_, rfl⟩
 have hFb2 : 0 ≤ F ∧ F < pS := by rw [hFe]; exact hFb
 rw [← hKe] at HKM hK HFM
 rw [← hFe] at HFM hCS
 have HFE := Lib.hid hFe
 have hi1 : (K : Int) < (x.length : Int) := Int.ofNat_lt.2 hK
 obtain ⟨F0, F1⟩ := hFb2
 obtain ⟨N, hN⟩ : ∃ n, n = (wvM pS S m m.length).length := ⟨_, rfl⟩
 have hNb : N = bl S := by rw [hN]; exact wvM_len _ _ _ _
 have HNN := Lib.hid hN
 have HNB := Lib.hid hNb
 have HWB := Lib.hid (Mv.nums (wv_mv hs m m.length))
 have HCS := Lib.hid hCS
 have hNs : N ≤ 100000 := by omega
 have hN0 : 0 < N := by omega
 have hxl : x.length ≤ 1048576 := by rw [Mv.len mx]; omega
 have hm24 : m.length ≤ 1024 := by omega
 clear hm hKe hFe hN hNb hFb hR hli hCS HNA
 clear hs hS hx mx
 go_enter Tryz.func148, Tryz.ntmps148
 go_upto_region 1 with fail
 obtain ⟨w0, hw0'⟩ : ∃ z, z = w.alloc (.cells #[.int .i64 pS, .slice aS S.length cS, .slice ax x.length cx] 82) := ⟨_, rfl⟩
 rw [← hw0'] at HB0 k0 ⊢
 have hw0 : w.heap.size < w0.heap.size := by rw [hw0']; simp
 have hwz : w.heap.size + 1 = w0.heap.size := by rw [hw0']; simp
 try rw [hwz]
 clear hw0'
 obtain ⟨w1, hw1⟩ : ∃ z, z = w0.alloc (.cells #[.int .i64 0, .slice none 0 0, .slice none 0 0, .slice none 0 0, .int .i64 0] 115) := ⟨_, rfl⟩
 obtain ⟨g, hg⟩ : ∃ b, b = w0.heap.size := ⟨_, rfl⟩
 have hs0 : BoxX w.heap.size pS aS S.length cS ax x.length cx w1 := by rw [hw1]; exact k0.below (below_alloc w0 _) hw0
 have z0 : Z5 g (.int .i64 0) (.slice none 0 0) (.slice none 0 0) (.slice none 0 0) (.int .i64 0) w1 := by rw [hw1, hg]; exact Z5.new _ _ _ _ _ _ _
 have HB1 : Hid (Below w.heap.size w w1) := by show Below _ _ _; rw [hw1]; exact HB0.out.alloc HB0.out.size _
 have hg1 : g < w1.heap.size := by rw [hw1, hg]; simp
 have hwg : w.heap.size < g := by omega
 have hngw : w.heap.size ≠ g := by omega
 rw [← hw1]
 rw [← hg]
 clear hw1 hwz hg
 have hs1 : Hid (BoxX w.heap.size pS aS S.length cS ax x.length cx w1.drew) := hs0
 have HBD : Hid (Below w.heap.size w w1.drew) := HB1.out.drew
 have hd0 : w.heap.size < w1.drew.heap.size := Nat.lt_trans hwg hg1
 have gd : g < w1.drew.heap.size := hg1
 have zz0 : Hid (Z5 g (.int .i64 0) (.slice none 0 0) (.slice none 0 0) (.slice none 0 0) (.int .i64 0) w1.drew) := z0
 clear z0 k0 hs0
 go_region_held3 (fun w' => w'.cell? ⟨w.heap.size, 0, none⟩ = some (.int .i64 pS) ∧ w'.cell? ⟨w.heap.size, 1, none⟩ = some (.slice aS S.length cS) ∧ w'.cell? ⟨w.heap.size, 2, none⟩ = some (.slice ax x.length cx)) (first | exact hs1.out | exact SSa.out | exact SSab.out | go_keep) (first | (go_at_call 160; (with_reducible refine (wedgeEquations_any pS aS S cS loS tpS ax x cx lox tpx w1.drew HI.out (HS.out.below HBD.out tS) (Nat.le_trans tS (HBD.out).size) (Hx.out.below HBD.out tx) (Nat.le_trans tx (HBD.out).size) HMx.out).mono ?_); rintro e wa ⟨ra, ka, rfl, o_, b_⟩; have SSa := Lib.hid ((hs1.out).below b_ hd0); have HBa := Lib.hid (below_step HBD.out (Nat.le_of_lt hd0) b_); have zz_ := b_.size; have hda := Nat.lt_of_lt_of_le hd0 zz_; have Ma_a := Lib.hid (o_.mat.mono (Nat.le_of_lt hd0) (Nat.le_refl _)); have zza := Lib.hid (zz0.out.below b_ gd); have gda := Nat.lt_of_lt_of_le gd zz_; have hza := b_.size; clear b_ o_) | (go_at_call 161; (with_reducible refine (kernelOf_sub pS S x ra ka w.heap.size wa.heap.size wa HI.out Ma_a.out (Nat.le_refl _)).mono ?_); rintro e wab ⟨rb, kb, rfl, o_, b_⟩; have SSab := Lib.hid ((SSa.out).below b_ hda); have HBab := Lib.hid (below_step HBa.out (Nat.le_of_lt hda) b_); have zz_ := b_.size; have hdab := Nat.lt_of_lt_of_le hda zz_; have Ma_ab := Lib.hid ((Ma_a.out.below b_ (Nat.le_refl _)).mono (Nat.le_refl _) zz_); have Mb_ab := Lib.hid (o_.mat.mono (Nat.le_of_lt hda) (Nat.le_refl _)); have zzab := Lib.hid (zza.out.below b_ gda); have gdab := Nat.lt_of_lt_of_le gda zz_; have OK := Lib.hid (OwnM.mono o_ hza (Nat.le_refl _)); clear b_ o_))
 obtain ⟨bx, ox, hax, _, hux, hcx⟩ := (Hx.out.below HBab.out tx).num hK
 subst hax
 rw [HFM.out] at hcx
 rw [← HM.out] at OK Mb_ab ⊢
 have hs2 : Hid (wab.drew.cell? ⟨w.heap.size, 0, none⟩ = some (.int .i64 pS) ∧ wab.drew.cell? ⟨w.heap.size, 1, none⟩ = some (.slice aS S.length cS) ∧ wab.drew.cell? ⟨w.heap.size, 2, none⟩ = some (.slice (some ⟨bx, ox, none⟩) x.length cx) ∧ wab.drew.cell? ⟨bx, ox + K, none⟩ = some (.int .i64 F)) := ⟨SSab.out.1, SSab.out.2.1, SSab.out.2.2, hcx⟩
 have HMD : Hid (MatIn w.heap.size wab.heap.size wab.drew rb m) := Mb_ab.out.below (bdrew wab) (Nat.le_refl _)
 have HBE : Hid (Below w.heap.size w wab.drew) := HBab.out.drew
 clear hcx
 go_wp2
 go_region_held3 (fun w' => w'.cell? ⟨w.heap.size, 0, none⟩ = some (.int .i64 pS) ∧ w'.cell? ⟨w.heap.size, 1, none⟩ = some (.slice aS S.length cS) ∧ w'.cell? ⟨w.heap.size, 2, none⟩ = some (.slice (some ⟨bx, ox, none⟩) x.length cx) ∧ w'.cell? ⟨bx, ox + K, none⟩ = some (.int .i64 F)) (first | exact hs2.out | go_keep) ((go_at_call 222; ((with_reducible refine (pivotMask_any rb m kb w.heap.size wab.heap.size (pvs m) wab.drew HMD.out HRL.out HRF.out HRP.out hm24).mono ?_); rintro e w' ⟨rfl, rfl⟩; rw [HKM.out])))
 obtain ⟨W, hW⟩ : ∃ z, z = wab.drew := ⟨_, rfl⟩
 rw [← hW] at HBE HMD hs2 ⊢
 have SW : Hid (BoxX w.heap.size pS aS S.length cS (some ⟨bx, ox, none⟩) x.length cx W) := ⟨hs2.out.1, hs2.out.2.1, hs2.out.2.2.1⟩
 have OW : Hid (OwnM w1.drew.heap.size W.heap.size W rb m) := by show OwnM _ _ _ _ _; rw [hW]; exact OK.out.same (fun _ _ _ => rfl)
 have ZW : Hid (Z5 g (.int .i64 0) (.slice none 0 0) (.slice none 0 0) (.slice none 0 0) (.int .i64 0) W) := by show Z5 _ _ _ _ _ _ _; rw [hW]; exact zzab.out
 have hgW : g < W.heap.size := by rw [hW]; exact gdab
 have hdW : w.heap.size < W.heap.size := by rw [hW]; exact hdab
 have HMW : Hid (MatIn w.heap.size W.heap.size W rb m) := by have := HMD.out; rw [hW] at this ⊢; exact this
 clear hW hs2 HMD
 have q0 := SW.out.1
 have q1 := SW.out.2.1
 have q2 := SW.out.2.2
 go_upto_region 4 with (go_at_call 147; ((with_reducible refine (wedgeOfVectors_own pS aS S cS loS tpS rb m kb w.heap.size W.heap.size W HI.out (HS.out.below HBE.out tS) (Nat.le_trans tS HBE.out.size) HMW.out (Nat.le_refl _) HL.out).mono ?_); rintro e w3 ⟨rw_, kw_, rfl, o_, b_⟩; obtain ⟨bw, ow, hrw, lw_, uw_, ro_⟩ := RowOwn.of o_ (by rw [wvM_len]; exact hb0); subst hrw; rw [← HNN.out] at ro_ ⊢; have RO := Lib.hid ro_; have S3 := Lib.hid (SW.out.below b_ hdW); have O3 := Lib.hid (OW.out.below b_ (Nat.le_refl _)); have Z3 := Lib.hid (ZW.out.below b_ hgW); have B3 := Lib.hid (below_step HBE.out HBE.out.size b_); have hz3 := b_.size; clear q0 q1 q2 o_ b_ ro_))
 have q0 := S3.out.1
 have q1 := S3.out.2.1
 have q2 := S3.out.2.2
 have HWN : Hid (∀ j, j < N → 0 ≤ (wvM pS S m m.length).getD j 0 ∧ (wvM pS S m m.length).getD j 0 < pS) := fun j hj => HWB.out j (by rw [← HNN.out]; exact hj)
 go_upto_region 5 with (go_at_call 124; ((with_reducible refine (scale_any pS F bw ow N kw_ (fun j => (wvM pS S m m.length).getD j 0) w3 (isSp_iff.1 HI.out).prime RO.out hNs HWN.out F0 (Int.le_of_lt F1)).mono ?_); rintro e w4 ⟨rfl, ro_, q_⟩; have RO4 := Lib.hid ro_; have b_ := q_.belowB lw_; have hz4 : w4.heap.size = w3.heap.size := q_.size; have S4 := Lib.hid (S3.out.below b_ hdW); have O4 := Lib.hid (O3.out.below b_ (Nat.le_refl _)); have Z4 := Lib.hid (Z3.out.below b_ hgW); have B4 := Lib.hid (B3.out.trans (b_.mono (Nat.le_of_lt hdW))); clear q0 q1 q2 q_ b_ ro_))
 have HZZ := Lib.hid hz4
 have uw4 : bw < w4.heap.size := by rw [hz4]; exact uw_
 clear hz4
 have q0 := S4.out.1
 have q1 := S4.out.2.1
 have q2 := S4.out.2.2
 obtain ⟨⟨z0_, z1_, z2_, z3_, z4_⟩, y0_, y1_, y2_, y3_, y4_⟩ := Z4.out
 have RZ : Hid (RowIn w.heap.size w4.heap.size w4 (some ⟨bw, ow, none⟩) (mkR N fun j => (wvM pS S m m.length).getD j 0 * F % pS)) := (RO4.out.own (show w.heap.size ≤ bw by omega) uw4).row
 have HZL : Hid ((mkR N fun j => (wvM pS S m m.length).getD j 0 * F % pS).length = N) := mkR_len _ _
 have HZE : Hid ((mkR N fun j => (wvM pS S m m.length).getD j 0 * F % pS) = mkR (bl S) fun j => (wvM pS S m m.length).getD j 0 * F % pS) := by show _ = _; rw [HNB.out]
 have HXR : Hid (RowIn lox tpx w4 (some ⟨bx, ox, none⟩) x) := Hx.out.below B4.out tx
 rcases HCS.out with ⟨hF, hB⟩ | ⟨hF, hE, hB⟩ | ⟨hF, hE, hB⟩
 · have e1 : (F == 0) = true := by simpa using hF
   have HB := Lib.hid hB
   clear hB hF
   go_wp2
   refine bodyPost_ret (v := .tuple #[.agg #[.int .i64 0, .slice none 0 0, .slice none 0 0, .slice none 0 0, .int .i64 0], .bool false]) (by simp [results, Tryz.results148, go_sem, z0_, z1_, z2_, z3_, z4_]) rfl (.inr ⟨HB.out, rfl, below_put5 B4.out (Nat.le_of_lt hwg)⟩)
 · have e1 : (F == 0) = false := by simpa using hF
   have HB := Lib.hid hB
   have HE : Hid (decide ((mkR N fun j => (wvM pS S m m.length).getD j 0 * F % pS) = x) = true) := by show _ = _; rw [HZE.out]; exact hE
   clear hB hF hE
   go_wp2_with (go_at_call 223; ((with_reducible refine (equal_n (some ⟨bw, ow, none⟩) (some ⟨bx, ox, none⟩) (mkR N fun j => (wvM pS S m m.length).getD j 0 * F % pS) x N kw_ cx w.heap.size w4.heap.size lox tpx w4 HZL.out RZ.out HXR.out (by rw [HZL.out]; omega)).mono ?_); rintro e w5 ⟨rfl, b_⟩; rw [HE.out]; have hz4 := HZZ.out; have B5 := Lib.hid (B4.out.trans (b_.mono B4.out.size)); have S5 := S4.out.below b_ (by rw [hz4]; omega); have O5 := Lib.hid (O4.out.below b_ (by rw [hz4]; exact hz3)); obtain ⟨⟨z0, z1, z2, z3, z4⟩, y0, y1, y2, y3, y4⟩ := Z4.out.below b_ (by rw [hz4]; omega); have hz5 : w3.heap.size ≤ w5.heap.size := (by rw [← hz4]; exact b_.size); have q0_ := S5.1; have q1_ := S5.2.1; have q2_ := S5.2.2; clear b_ S5 hz4))
   refine bodyPost_ret (v := .tuple #[.agg #[.int .i64 pS, .slice aS S.length cS, .slice (some ⟨bx, ox, none⟩) x.length cx, .slice rb m.length kb, .int .i64 F], .bool true]) (by simp [results, Tryz.results148, go_sem, z0, z1, z2, z3, z4]) rfl (.inl ⟨HB.out, rb, kb, by rw [← HM.out, ← HFE.out], ?_, below_put5 B5.out (Nat.le_of_lt hwg)⟩)
   rw [← HM.out]
   have h5 := (O5.out.put5 (v0 := .int .i64 pS) (v1 := .slice aS S.length cS) (v2 := .slice (some ⟨bx, ox, none⟩) x.length cx) (v3 := .slice rb m.length kb) (v4 := .int .i64 F) gd).mono (Nat.le_of_lt hd0) (show W.heap.size ≤ (put5 g (.int .i64 pS) (.slice aS S.length cS) (.slice (some ⟨bx, ox, none⟩) x.length cx) (.slice rb m.length kb) (.int .i64 F) w5).heap.size by rw [put5_size]; omega)
   exact h5
 · have e1 : (F == 0) = false := by simpa using hF
   have HB := Lib.hid hB
   have HE : Hid (decide ((mkR N fun j => (wvM pS S m m.length).getD j 0 * F % pS) = x) = false) := by show _ = _; rw [HZE.out]; exact hE
   clear hB hF hE
   go_wp2_with (go_at_call 223; ((with_reducible refine (equal_n (some ⟨bw, ow, none⟩) (some ⟨bx, ox, none⟩) (mkR N fun j => (wvM pS S m m.length).getD j 0 * F % pS) x N kw_ cx w.heap.size w4.heap.size lox tpx w4 HZL.out RZ.out HXR.out (by rw [HZL.out]; omega)).mono ?_); rintro e w5 ⟨rfl, b_⟩; rw [HE.out]; have hz4 := HZZ.out; have B5 := Lib.hid (B4.out.trans (b_.mono B4.out.size)); obtain ⟨⟨z0, z1, z2, z3, z4⟩, y0, y1, y2, y3, y4⟩ := Z4.out.below b_ (by rw [hz4]; omega); clear b_ hz4))
   refine bodyPost_ret (v := .tuple #[.agg #[.int .i64 0, .slice none 0 0, .slice none 0 0, .slice none 0 0, .int .i64 0], .bool false]) (by simp [results, Tryz.results148, go_sem, z0, z1, z2, z3, z4]) rfl (.inr ⟨HB.out, rfl, below_put5 B5.out (Nat.le_of_lt hwg)⟩)
theorem asBlade_yes (p : Int) (aS : Option Addr) (S : List Int) (cS loS tpS : Nat) (ax : Option Addr) (x : List Int) (cx lox tpx : Nat) (w : World) (hs : isSp p S = true) (hS : RowIn loS tpS w aS S) (tS : tpS ≤ w.heap.size) (hx : RowIn lox tpx w ax x) (tx : tpx ≤ w.heap.size) (mx : isMv p S x = true) (hb : isBl p S x = true) :
 Calls Tryz.prog 148 #[.agg #[.int .i64 p, .slice aS S.length cS, .slice ax x.length cx]] w (fun e w' => ∃ r k, e = .returned (.tuple #[.agg #[.int .i64 p, .slice aS S.length cS, .slice ax x.length cx, .slice r (subM p S x).length k, .int .i64 (facM p S x)], .bool true]) ∧ OwnM w.heap.size w'.heap.size w' r (subM p S x) ∧ Below w.heap.size w w') :=
 (asBlade_any p aS S cS loS tpS ax x cx lox tpx w hs hS tS hx tx mx).mono fun _ _ h => by
  rcases h with ⟨_, h⟩ | ⟨h, _⟩
  · exact h
  · rw [hb] at h; cases h
theorem asBlade_no (p : Int) (aS : Option Addr) (S : List Int) (cS loS tpS : Nat) (ax : Option Addr) (x : List Int) (cx lox tpx : Nat) (w : World) (hs : isSp p S = true) (hS : RowIn loS tpS w aS S) (tS : tpS ≤ w.heap.size) (hx : RowIn lox tpx w ax x) (tx : tpx ≤ w.heap.size) (mx : isMv p S x = true) (hb : isBl p S x = false) :
 Calls Tryz.prog 148 #[.agg #[.int .i64 p, .slice aS S.length cS, .slice ax x.length cx]] w (fun e w' => e = .returned (.tuple #[.agg #[.int .i64 0, .slice none 0 0, .slice none 0 0, .slice none 0 0, .int .i64 0], .bool false]) ∧ Below w.heap.size w w') :=
 (asBlade_any p aS S cS loS tpS ax x cx lox tpx w hs hS tS hx tx mx).mono fun _ _ h => by
  rcases h with ⟨h, _⟩ | ⟨_, h⟩
  · rw [hb] at h; cases h
  · exact h
end Go.Proofs.YtgfanoejohpmkaaGreat