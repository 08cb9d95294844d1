/-
  Half brackets of bivectors (program): contracts of the program and of the model.
  Conditions: the lists are nil or rows of known cells, of at most 1048576 numbers.
-/
import Derived.Test.YtkibkkdeaojjoabGreatQg42
import Derived.Test.YtkibkkdeaojjoabGreatQg40
import Derived.Test.YtkibkkdeaojjoabGreatQg8
import Derived.Test.YtkibkkdeaojjoabGreatQg21
import Derived.Deep.RegionHeld3
import Derived.Deep.DeepCutAuto
import Derived.Deep.DeepAppendRoom
namespace Go.Proofs.YtkibkkdeaojjoabGreat
open Go.RowKit
set_option linter.unusedVariables false

theorem kwrap_powB {i : Nat} (h : i < 6) : IntKind.i64.wrap ((2 : Int) ^ i) = ((2 ^ i : Nat) : Int) := by
  have : i = 0 ∨ i = 1 ∨ i = 2 ∨ i = 3 ∨ i = 4 ∨ i = 5 := by omega
  rcases this with rfl | rfl | rfl | rfl | rfl | rfl <;> rfl
/-- The basis vectors as multivectors. -/
def bsM (S : List Int) : List (List Int) := mk S.length (bl S) fun i c => if c = 2 ^ i then 1 else 0
theorem bs_row {S : List Int} {i : Nat} (h : i < S.length) : rw' (bsM S) i = bladeM S (2 ^ i) := mk_row _ h
theorem bs_len (S : List Int) : (bsM S).length = S.length := mk_len _ _ _
set_option maxHeartbeats 800000 in
theorem blade_tagB (p : Int) (a : Option Addr) (S : List Int) (c k : Nat) (w : World) (h : S.length ≤ 6) (hk : k < bl S) :
    Calls Tryz.prog 56 #[.agg #[.int .i64 p, .slice a S.length c], .int .i64 k] w (fun e w' => ∃ b, e = .returned (.slice (some ⟨b, 0, none⟩) (bl S) (bl S)) ∧ TagR w.heap.size w'.heap.size w' (some ⟨b, 0, none⟩) (bladeM S k) ∧ Below w.heap.size w w') := by
  have hbl := bl_le h
  have hmk := fun W => run_make_row' (P := Tryz.prog) 22 2 (.int .i64 0) 8 Tryz.underlying22 info64 rfl .i64 .i64 (bl S) (by omega) (by omega) W
  go_enter Tryz.func56, Tryz.ntmps56
  go_wp2_with (go_at_call 54; ((with_reducible refine (blades_any p a S c _ h).mono ?_); rintro e w1 ⟨rfl, hb1⟩; have HB1 := Lib.hid hb1; have hz1 := hb1.size; have g0 := made_cell w1 (.int .i64 0) (bl S) 2 hk; have f0 : (w1.alloc (.cells (madeCells #[.int .i64 0] (bl S)) 2)).frozen? ⟨w1.heap.size, k, none⟩ = false := (by simp [go_sem]); clear hb1))
  go_ret
  have hb := below_step (below_alloc w _) (by simp) HB1.out
  have hr := one_rowA w1 (n := bl S) (k := k) 2 1
  exact ⟨w1.heap.size, rfl, .inr ⟨w1.heap.size, 0, _, rfl, hb.size, by simp, heap_alloc_new w1 _, fun j hj => by
    unfold bladeM at hj ⊢
    rw [mkR_len] at hj
    rw [mkR_at _ hj]
    exact hr.cell j hj⟩, hb.alloc (hb.size) _⟩
set_option maxRecDepth 100000 in
set_option maxHeartbeats 3200000 in
theorem basisVectorsB (pS : Int) (aS : Option Addr) (S : List Int) (cS : Nat) (w : World) (h6 : S.length ≤ 6) :
    Calls Tryz.prog 107 #[.agg #[.int .i64 pS, .slice aS S.length cS]] w (NewM (bsM S) w) := by
  obtain ⟨j0, kj, kz0, kz1, kz2⟩ := info_parts info_slice
  have hbl := bl_le h6
  have k0 := nw0 w (.int .i64 pS) (.slice aS S.length cS) 29
  have k1 := nw1 w (.int .i64 pS) (.slice aS S.length cS) 29
  have HB0 := Lib.hid (below_alloc w (.cells #[.int .i64 pS, .slice aS S.length cS] 29))
  go_enter Tryz.func107, Tryz.ntmps107
  go_upto_region 1 with fail
  obtain ⟨wB, hw1⟩ : ∃ z, z = w.alloc (.cells #[.int .i64 pS, .slice aS S.length cS] 29) := ⟨_, rfl⟩
  rw [← hw1] at HB0 k0 k1 ⊢
  have hw0 : w.heap.size < wB.heap.size := by rw [hw1]; simp
  clear hw1
  have K0 := Lib.hid k0
  have K1 := Lib.hid k1
  go_wp2
  go_loopw [3, 8] (fun v t wr => ∃ i : Nat, i ≤ S.length ∧ t = .int .i64 i ∧ OutM wB.heap.size wr v (mk i (bl S) fun j c => if c = 2 ^ j then 1 else 0) ∧ Below wB.heap.size wB wr) (fun _ t _ => S.length - (intOf t).toNat)
  case atStart => exact ⟨0, Nat.zero_le _, rfl, ⟨[], ⟨rfl, .inl ⟨rfl, rfl⟩⟩, fun i hi => absurd hi (Nat.not_lt_zero i)⟩, Below.refl _ _⟩
  case round =>
    obtain ⟨i, hi, rfl, ho, hbel⟩ := hrel
    obtain ⟨V5, hV5⟩ : ∃ z, z = u3 := ⟨_, rfl⟩
    rw [← hV5] at ho ⊢
    clear hV5
    have HO := Lib.hid ho
    have HB := Lib.hid hbel
    have hwz := hbel.size
    have hk0 := (hbel.cell (p := ⟨w.heap.size, 0, none⟩) hw0).trans K0.out
    have hk1 := (hbel.cell (p := ⟨w.heap.size, 1, none⟩) hw0).trans K1.out
    have hlw : w.heap.size < wr.heap.size := by omega
    clear ho hbel k0 k1
    by_cases hlt : i < S.length
    · have hi1 : (i : Int) < (S.length : Int) := Int.ofNat_lt.2 hlt
      obtain ⟨vals, hvo, hvr⟩ := HO.out
      rw [mk_len] at hvo hvr
      have HVO := Lib.hid hvo
      have HVR := Lib.hid hvr
      obtain ⟨q, hq⟩ : ∃ q, q = 2 ^ i := ⟨_, rfl⟩
      have HQ := Lib.hid hq
      have hqn : q < bl S := by rw [hq]; unfold bl; exact pow_lt hlt
      have e1 : wrap64 ((2 : Int) ^ i) = (q : Int) := by rw [hq]; exact wrap_pow (by omega)
      have e2 : IntKind.i64.wrap ((2 : Int) ^ i) = (q : Int) := by rw [hq]; exact kwrap_powB (by omega)
      have hs1 : Hid (wr.drew.cell? ⟨w.heap.size, 0, none⟩ = some (.int .i64 pS) ∧ wr.drew.cell? ⟨w.heap.size, 1, none⟩ = some (.slice aS S.length cS)) := ⟨hk0, hk1⟩
      have HQD : Hid (Below wr.heap.size wr wr.drew) := below_drew wr
      have hdr : w.heap.size < wr.drew.heap.size := hlw
      clear hvo hvr hk0 hk1 hq
      go_wp2
      go_region_held3 (fun w' => w'.cell? ⟨w.heap.size, 0, none⟩ = some (.int .i64 pS) ∧ w'.cell? ⟨w.heap.size, 1, none⟩ = some (.slice aS S.length cS)) (first | exact hs1.out | exact SSb.out | exact SS4.out | go_keep) (first | (go_at_call 56; ((with_reducible refine (blade_tagB pS aS S cS q wr.drew h6 hqn).mono ?_); rintro e wb ⟨bb, rfl, t_, b_⟩; have SSb := Lib.hid (ss2 b_ hdr hs1.out); have HQb := Lib.hid (HQD.out.trans b_); have hzb := HQb.out.size; have Tb : Hid (TagR wr.heap.size wb.heap.size wb (some ⟨bb, 0, none⟩) (bladeM S q)) := t_; have HVW := Lib.hid (HVO.out.kept (below_grown HQb.out) (by cases hv : Value.ownBlock V5 <;> simp)); clear b_ t_)) | ((refine step_append_lies _ (by rfl) _ _ _ (by rfl) wB.heap.size 22 j0 _ 1 24 Tryz.underlying26 kj kz0 kz1 kz2 rfl (by omega) V5 i vals (by rfl) (HVW.out.alloc _) ⟨wb.heap.size, 0, none⟩ 1 1 [.slice (some ⟨bb, 0, none⟩) (bl S) (bl S)] (by rfl) (by rfl) (World.news_of_block (cs := #[.slice (some ⟨bb, 0, none⟩) (bl S) (bl S)]) (t := 22) (fr := (0, 0)) (heap_alloc_new wb _)) (by simp [Value.oneCell']) (by omega) (by unfold maxLen; omega) (by omega) (by simp; omega) (wb.heap.size + 1) (by simp) ?_; intro g4 cap4 w4 hown4 hgrow4 hat4 hlt4; have HO4 := Lib.hid hown4; have HG4 := Lib.hid hgrow4; have HB4 : Hid (Below wB.heap.size wB w4) := ((HB.out.trans (HQb.out.mono hwz)).alloc (Nat.le_trans hwz hzb) _).grown hgrow4 (by simp; omega) (fun _ hk => (HVO.out.lt _ hk).1); have SS4 := Lib.hid (ss2 (HB4.out) hw0 ⟨K0.out, K1.out⟩); clear hown4 hgrow4)))
      have HVRW : Hid (∀ i', i' < i → ∃ r c', vals[i']? = some (.slice r (rw' (mk i (bl S) fun j c => if c = 2 ^ j then (1 : Int) else 0) i').length c') ∧ TagR wB.heap.size wb.heap.size wb r (rw' (mk i (bl S) fun j c => if c = 2 ^ j then (1 : Int) else 0) i')) := fun i' h' => by
        obtain ⟨r', c', g1, g2⟩ := HVR.out i' h'
        exact ⟨r', c', g1, g2.below HQb.out (Nat.le_refl _) (Nat.le_refl _) HQb.out.size⟩
      go_wp2
      go_roundw
      case rel => exact ⟨i + 1, by omega, by go_num, OutM.next HVW.out HVRW.out Tb.out (by rw [HQ.out]; rfl) hwz HO4.out HG4.out, HB4.out⟩
      case measure => simp [intOf]; omega
    · have hin : i = S.length := by omega
      subst hin
      obtain ⟨r, c, hv, hmat⟩ := HO.out.mat
      subst hv
      have HMT := Lib.hid hmat
      clear hmat
      go_wp2
      go_ret
      exact ⟨r, c, rfl, HMT.out.mono (by omega) (Nat.le_refl _), HB0.out.trans (HB.out.mono (by omega))⟩

theorem bracket_num {p : Int} (hp : 0 < p) (S x y : List Int) : ∀ j, j < bl S → 0 ≤ (brM p S x y).getD j 0 ∧ (brM p S x y).getD j 0 < p := fun j hj => by
  rw [← brM_eq, mkR_at _ hj]
  exact ⟨Int.emod_nonneg _ (by omega), Int.emod_lt_of_pos _ hp⟩
theorem hbM_at (p : Int) (S x y : List Int) {j : Nat} (hj : j < bl S) : (hbM p S x y).getD j 0 = (brM p S x y).getD j 0 * inv p 2 % p := by
  unfold hbM hfR sclV
  rw [brM_len, mkR_at _ hj]
def HbN (p : Int) (S x y : List Int) (w : World) (e : Ending) (w' : World) : Prop :=
  ∃ g o c, e = .returned (.slice (some ⟨g, o, none⟩) (bl S) c) ∧ w.heap.size ≤ g ∧ g < w'.heap.size ∧ RowOwn w' g o (bl S) (fun j => (hbM p S x y).getD j 0) ∧ Below w.heap.size w w'
def BoxB (z d : Nat) (p : Int) (aS : Option Addr) (n cS : Nat) (ax : Option Addr) (l cx : Nat) (W : World) : Prop :=
  (W.cell? ⟨z, 0, none⟩ = some (.int .i64 p) ∧ W.cell? ⟨z, 1, none⟩ = some (.slice aS n cS) ∧ W.cell? ⟨z, 2, none⟩ = some (.slice ax l cx)) ∧ W.cell? ⟨d, 0, none⟩ = some (.int .i64 p) ∧ W.cell? ⟨d, 1, none⟩ = some (.slice aS n cS)
theorem BoxB.below {z d : Nat} {p : Int} {aS ax : Option Addr} {n cS l cx B : Nat} {w w' : World} (h : BoxB z d p aS n cS ax l cx w) (b : Below B w w') (hz : z < B) (hd : d < B) : BoxB z d p aS n cS ax l cx w' :=
  ⟨⟨(b.cell (p := ⟨z, 0, none⟩) hz).trans h.1.1, (b.cell (p := ⟨z, 1, none⟩) hz).trans h.1.2.1, (b.cell (p := ⟨z, 2, none⟩) hz).trans h.1.2.2⟩, (b.cell (p := ⟨d, 0, none⟩) hd).trans h.2.1, (b.cell (p := ⟨d, 1, none⟩) hd).trans h.2.2⟩
theorem BoxB.wrote {z d b o m : Nat} {p : Int} {aS ax : Option Addr} {n cS l cx : Nat} {w w' : World} (h : BoxB z d p aS n cS ax l cx w) (q : Wrote b o m w w') (hz : b ≠ z) (hd : b ≠ d) : BoxB z d p aS n cS ax l cx w' :=
  ⟨⟨(World.cell?_of_block (w := w) (a := ⟨z, 0, none⟩) (q.block z hz.symm)).trans h.1.1, (World.cell?_of_block (w := w) (a := ⟨z, 1, none⟩) (q.block z hz.symm)).trans h.1.2.1, (World.cell?_of_block (w := w) (a := ⟨z, 2, none⟩) (q.block z hz.symm)).trans h.1.2.2⟩, (World.cell?_of_block (w := w) (a := ⟨d, 0, none⟩) (q.block d hd.symm)).trans h.2.1, (World.cell?_of_block (w := w) (a := ⟨d, 1, none⟩) (q.block d hd.symm)).trans h.2.2⟩
theorem BoxB.two (w : World) (p : Int) (aS ax : Option Addr) (n cS l cx : Nat) (T T' : TypeId) : BoxB w.heap.size (w.alloc (.cells #[.int .i64 p, .slice aS n cS, .slice ax l cx] T)).heap.size p aS n cS ax l cx ((w.alloc (.cells #[.int .i64 p, .slice aS n cS, .slice ax l cx] T)).alloc (.cells #[.int .i64 p, .slice aS n cS] T')) := by
  have h := below_alloc (w.alloc (.cells #[.int .i64 p, .slice aS n cS, .slice ax l cx] T)) (.cells #[.int .i64 p, .slice aS n cS] T')
  exact ⟨⟨(h.cell (p := ⟨w.heap.size, 0, none⟩) (lt_alloc w _)).trans (by simp [go_sem]), (h.cell (p := ⟨w.heap.size, 1, none⟩) (lt_alloc w _)).trans (by simp [go_sem]), (h.cell (p := ⟨w.heap.size, 2, none⟩) (lt_alloc w _)).trans (by simp [go_sem])⟩, nw0 _ _ _ _, nw1 _ _ _ _⟩

set_option maxRecDepth 100000 in
set_option maxHeartbeats 6400000 in
theorem halfBracket_own (pS : Int) (aS : Option Addr) (S : List Int) (cS loS tpS : Nat) (ax : Option Addr) (x : List Int) (cx lox tpx : Nat) (ay : Option Addr) (y : List Int) (cy loy tpy : Nat) (w : World) (hs : isSp pS S = true) (hS : RowIn loS tpS w aS S) (tS : tpS ≤ w.heap.size) (hx : RowIn lox tpx w ax x) (tx : tpx ≤ w.heap.size) (mx : isMv pS S x = true) (hy : RowIn loy tpy w ay y) (ty : tpy ≤ w.heap.size) (my : isMv pS S y = true) :
    Calls Tryz.prog 52 #[.agg #[.int .i64 pS, .slice aS S.length cS, .slice ax x.length cx], .slice ay y.length cy] w (HbN pS S x y w) := by
  have HI := Lib.hid hs
  have HS := Lib.hid hS
  have Hx := Lib.hid hx
  have HMX := Lib.hid mx
  have HP := Lib.hid (isSp_iff.1 hs).prime
  have h6 := (isSp_iff.1 hs).hi
  have hpb := prm_bd (isSp_iff.1 hs).prime
  have hbl := bl_le h6
  have hb0 := bl_pos S
  have Hy := Lib.hid hy
  have HMY := Lib.hid my
  have hfv := field_value
  clear hs hS hx mx hy my
  go_enter Tryz.func52, Tryz.ntmps52
  go_upto_region 1 with fail
  obtain ⟨w1, hw1⟩ : ∃ z, z = w.alloc (.cells #[.int .i64 pS, .slice aS S.length cS, .slice ax x.length cx] 51) := ⟨_, rfl⟩
  have hz1 : w1.heap.size = w.heap.size + 1 := by rw [hw1]; simp
  have HZ1 := Lib.hid hz1
  have kz0 : w1.cell? ⟨w.heap.size, 0, none⟩ = some (.int .i64 pS) := by rw [hw1]; simp [go_sem]
  have kz1 : w1.cell? ⟨w.heap.size, 1, none⟩ = some (.slice aS S.length cS) := by rw [hw1]; simp [go_sem]
  have kz2 : w1.cell? ⟨w.heap.size, 2, none⟩ = some (.slice ax x.length cx) := by rw [hw1]; simp [go_sem]
  have HBX := BoxB.two w pS aS ax S.length cS x.length cx 51 29
  have HBW := (below_alloc w (.cells #[.int .i64 pS, .slice aS S.length cS, .slice ax x.length cx] 51))
  rw [← hw1] at HBX HBW ⊢
  try rw [← hz1]
  clear hw1 hz1
  go_upto_region 2 with fail
  obtain ⟨w2, hw2⟩ : ∃ z, z = w1.alloc (.cells #[.int .i64 pS, .slice aS S.length cS] 29) := ⟨_, rfl⟩
  obtain ⟨d, hd⟩ : ∃ b, b = w1.heap.size := ⟨_, rfl⟩
  have HB2 : Hid (Below w.heap.size w w2) := by show Below _ _ _; rw [hw2]; exact HBW.alloc HBW.size _
  have hd2 : d < w2.heap.size := by rw [hw2, hd]; simp
  have hwd : w.heap.size < d := by rw [hd, HZ1.out]; exact Nat.lt_succ_self _
  rw [← hw2, ← hd] at HBX
  rw [← hw2, ← hd]
  have HX2 := Lib.hid HBX
  have hw2' : w.heap.size < w2.heap.size := Nat.lt_trans hwd hd2
  clear hw2 hd HBX HBW kz0 kz1 kz2
  obtain ⟨⟨k0, k1, k2⟩, d0, d1⟩ := HX2.out
  go_upto_region 3 with (go_at_call 76; ((with_reducible refine (bracket_any pS aS S cS loS tpS ax x cx lox tpx ay y cy loy tpy w2 HI.out (HS.out.below HB2.out tS) (Nat.le_trans tS HB2.out.size) (Hx.out.below HB2.out tx) (Nat.le_trans tx HB2.out.size) HMX.out (Hy.out.below HB2.out ty) (Nat.le_trans ty HB2.out.size) HMY.out).mono ?_); rintro e w3 ⟨r3, c3, rfl, o_, b_⟩; rw [brM_len]; have HO3 := Lib.hid o_; have HX3 := Lib.hid (HX2.out.below b_ hw2' hd2); have HB3 := Lib.hid (below_step HB2.out HB2.out.size b_); have hd3 := Nat.lt_of_lt_of_le hd2 b_.size; have z23 := b_.size; clear o_ b_ k0 k1 k2 d0 d1))
  obtain ⟨g, o, hr3, lg, ug, hc3⟩ := HO3.out.resolve_left (fun h => by have h2 := brM_len pS S x y; rw [h] at h2; simp at h2; omega)
  subst hr3
  have NN : Hid (RowOwn w3.drew g o (bl S) (fun j => (brM pS S x y).getD j 0)) := ⟨fun j hj => (hc3 j (by rw [brM_len]; exact hj)).1, fun j hj => (hc3 j (by rw [brM_len]; exact hj)).2⟩
  clear hc3
  have hs3 : Hid (BoxB w.heap.size d pS aS S.length cS ax x.length cx w3.drew) := HX3.out
  have HBE : Hid (Below w.heap.size w w3.drew) := HB3.out.drew
  have hwd3 : w.heap.size < w3.drew.heap.size := Nat.lt_of_lt_of_le hw2' z23
  have hdd3 : d < w3.drew.heap.size := hd3
  have ug' : g < w3.drew.heap.size := ug
  have hgw : w.heap.size ≤ g := Nat.le_trans (Nat.le_of_lt hw2') lg
  have hgz : g ≠ w.heap.size := by omega
  have hgd : g ≠ d := by omega
  have hbn : bl S ≤ 100000 := by omega
  have HTB : Hid (∀ j, j < bl S → 0 ≤ (brM pS S x y).getD j 0 ∧ (brM pS S x y).getD j 0 < pS) := bracket_num (by omega) S x y
  have HIV : Hid (0 ≤ inv pS 2 ∧ inv pS 2 < pS) := inv_bd HP.out 2
  have hinv : inv pS 2 ≤ pS := Int.le_of_lt HIV.out.2
  go_region_held3 (fun w' => w'.cell? ⟨d, 0, none⟩ = some (.int .i64 pS) ∧ w'.cell? ⟨d, 1, none⟩ = some (.slice aS S.length cS)) (first | exact hs3.out.2 | exact SSp.out.2 | exact SSpq.out.2 | go_keep) (first | (go_at_call 78; (with_reducible refine (inverse_any pS 2 w3.drew HP.out (by omega) (by omega)).mono ?_); rintro e wp ⟨rfl, b_⟩; have SSp := Lib.hid (hs3.out.below b_ hwd3 hdd3); have HBp := Lib.hid (below_step HBE.out (Nat.le_of_lt hwd3) b_); have zz_ := b_.size; have HCp := Lib.hid b_; clear b_) | (go_at_call 77; (with_reducible refine (scale_any pS (inv pS 2) g o (bl S) c3 (fun j => (brM pS S x y).getD j 0) wp HP.out (NN.out.stay (HCp.out.block g ug')) hbn HTB.out HIV.out.1 hinv).mono ?_); rintro e wpq ⟨rfl, o_, q_⟩; have HBpq := Lib.hid ((HBp.out).trans (q_.belowB hgw)); have zq_ : wp.heap.size ≤ wpq.heap.size := Nat.le_of_eq q_.size.symm; have SSpq : Hid (BoxB w.heap.size d pS aS S.length cS ax x.length cx wpq) := Lib.hid (SSp.out.wrote q_ hgz hgd); have Ng_pq := Lib.hid o_; clear o_ q_))
  all_goals
    go_wp2
    go_ret
    have hz := HCp.out.size
    exact ⟨g, o, c3, rfl, hgw, Nat.lt_of_lt_of_le ug (Nat.le_trans hz zq_), ⟨fun j hj => by rw [hbM_at pS S x y hj]; exact Ng_pq.out.cell j hj, Ng_pq.out.free⟩, HBpq.out⟩

/-- What an operation makes of a list's rows. -/
def imM (p : Int) (S x : List Int) (m : List (List Int)) : List (List Int) := mk m.length (bl S) fun i j => (hbM p S x (rw' m i)).getD j 0
theorem imM_len (p : Int) (S x : List Int) (m : List (List Int)) : (imM p S x m).length = m.length := mk_len _ _ _
theorem imM_row {p : Int} {S x : List Int} {m : List (List Int)} {i : Nat} (h : i < m.length) : rw' (imM p S x m) i = hbM p S x (rw' m i) := by
  unfold imM
  rw [mk_row _ h]
  have h2 := mkR_self (hbM p S x (rw' m i))
  rw [hbM_len] at h2
  exact h2
set_option maxRecDepth 100000 in
set_option maxHeartbeats 3200000 in
theorem imagesOf_half (pS : Int) (aS : Option Addr) (S : List Int) (cS loS tpS : Nat) (ax : Option Addr) (x : List Int) (cx lox tpx : Nat) (am : Option Addr) (m : List (List Int)) (n cm lom tpm : Nat) (w : World) (hs : isSp pS S = true) (hS : RowIn loS tpS w aS S) (tS : tpS ≤ w.heap.size) (hx : RowIn lox tpx w ax x) (tx : tpx ≤ w.heap.size) (mx : isMv pS S x = true) (hm : MatIn lom tpm w am m) (tm : tpm ≤ w.heap.size) (hn : m.length = n) (sm : m.length ≤ 64) (hr : ∀ i, i < m.length → isMv pS S (rw' m i) = true) :
    Calls Tryz.prog 51 #[.func (.func 52) #[.agg #[.int .i64 pS, .slice aS S.length cS, .slice ax x.length cx]] #[], .slice am n cm] w (NewM (imM pS S x m) w) := by
  subst hn
  have HI := Lib.hid hs
  have HS := Lib.hid hS
  have Hx := Lib.hid hx
  have HMX := Lib.hid mx
  have HP := Lib.hid (isSp_iff.1 hs).prime
  have h6 := (isSp_iff.1 hs).hi
  have hpb := prm_bd (isSp_iff.1 hs).prime
  have hbl := bl_le h6
  have hb0 := bl_pos S
  have HM := Lib.hid hm
  have HR := Lib.hid hr
  have hZ := imM_len pS S x m
  obtain ⟨Z, hZe⟩ : ∃ Z, Z = imM pS S x m := ⟨_, rfl⟩
  rw [← hZe] at hZ ⊢
  have HZE := Lib.hid hZe
  have HZL := Lib.hid hZ
  have hmk := fun W => run_make_row' (P := Tryz.prog) 26 22 (.slice none 0 0) 24 Tryz.underlying26 info_slice rfl .i64 .i64 m.length (by omega) (by omega) W
  clear hs hS hx mx hm hr hZ hZe
  go_enter Tryz.func51, Tryz.ntmps51
  go_upto_region 2 with fail
  clear hmk
  obtain ⟨w1, hw1⟩ : ∃ z, z = w.alloc (.cells (madeCells #[.slice none 0 0] m.length) 22) := ⟨_, rfl⟩
  have HB1 : Hid (Below w.heap.size w w1) := by show Below _ _ _; rw [hw1]; exact below_alloc w _
  have hd1 : w.heap.size < w1.heap.size := by rw [hw1]; exact lt_alloc w _
  have HH1 : Hid (HalfG w1 w.heap.size 0 Z (fun _ => none) (fun _ => 0) (fun _ => 0) (fun _ => 0)) := by
    show HalfG _ _ _ _ _ _ _ _
    rw [hw1]
    have := HalfG.start w Z 22 (fun _ => none) (fun _ => 0) (fun _ => 0) (fun _ => 0)
    rw [HZL.out] at this
    exact this
  rw [← hw1]
  clear hw1
  go_wp2
  go_loopw [13] (fun t wr => ∃ i : Nat, i ≤ m.length ∧ t = .int .i64 i ∧ (∃ A C lo tp, HalfG wr w.heap.size i Z A C lo tp) ∧ Below w.heap.size w wr) (fun t _ => m.length - (intOf t).toNat)
  case atStart => exact ⟨0, Nat.zero_le _, rfl, ⟨_, _, _, _, HH1.out⟩, HB1.out⟩
  case round =>
    obtain ⟨i, hi, rfl, ⟨A, C, lo, tp, hh⟩, hbel⟩ := hrel
    have HH := Lib.hid hh
    have HBEL := Lib.hid hbel
    have hz2 := hbel.size
    by_cases hlt : i < m.length
    · obtain ⟨b2, o2, r, c2, ha2, _, hb2, hr2, hrow⟩ := (HM.out.below hbel tm).row hlt
      subst ha2
      have HROW := Lib.hid hrow
      have hi1 : (i : Int) < (m.length : Int) := Int.ofNat_lt.2 hlt
      have HMV := Lib.hid (HR.out i hlt)
      have hx0 : rw' Z i = hbM pS S x (rw' m i) := by rw [HZE.out]; exact imM_row hlt
      have HX := Lib.hid hx0
      have hsz := hh.lt
      have g0 := hh.rest i (Nat.le_refl _) (by rw [HZL.out]; exact hlt)
      have f0 := hh.free i
      clear hx0 hrow hbel hh
      go_wp2_with (go_at_call 52; ((with_reducible refine (halfBracket_own pS aS S cS loS tpS ax x cx lox tpx r (rw' m i) c2 lom tpm wr HI.out (HS.out.below HBEL.out tS) (Nat.le_trans tS hz2) (Hx.out.below HBEL.out tx) (Nat.le_trans tx hz2) HMX.out HROW.out (Nat.le_trans tm hz2) HMV.out).mono ?_); rintro e w3 ⟨g, o, c3, rfl, lg, ug, n_, b_⟩; have N3 := Lib.hid n_; have B3 := Lib.hid b_; have g2 := (b_.cell (p := ⟨w.heap.size, i, none⟩) hsz).trans g0; have f2 := (b_.frozen (p := ⟨w.heap.size, i, none⟩) hsz).trans f0; clear n_ b_ g0 f0))
      go_roundw
      case rel =>
        have hgb : g ≠ w.heap.size := by omega
        have hf := HH.out.fill (by rw [HZL.out]; exact hlt) B3.out lg ug (show (rw' Z i).length = bl S by rw [HX.out, hbM_len]) (Wrote.refl g o (bl S) (w3.setCell ⟨w.heap.size, i, none⟩ (.slice (some ⟨g, o, none⟩) (bl S) c3))) (N3.out.far w.heap.size i _ hgb) (fun j hj => by rw [HX.out])
        exact ⟨i + 1, by omega, by go_num, ⟨_, _, _, _, hf.1⟩, (HBEL.out.trans (B3.out.mono hz2)).setCell (Nat.le_refl _) _⟩
      case measure => simp [intOf]; omega
    · have hn : i = m.length := by omega
      subst hn
      have HF : Hid (HalfG wr w.heap.size Z.length Z A C lo tp) := by have := HH.out; rw [← HZL.out] at this; exact this
      clear hbel hh
      go_wp2
      go_ret
      exact ⟨_, m.length, by rw [HZL.out]; rfl, HF.out.own.mat, HBEL.out⟩
end Go.Proofs.YtkibkkdeaojjoabGreat
