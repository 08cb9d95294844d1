/-
  Cells and live cells behind new blocks, stores and calls.
  No conditions.
  CentreBasis: contracts of the program and of the model.
  Conditions: the lists are nil or rows of known cells, of at most 1048576 numbers.
  The model's solutions of linear equations: the walk.
  Conditions: the matrix is a row of rows of known cells with numbers of the prime, the right side too.
-/
import Derived.Test.YtijklpcelbnnjaaGreatQk4
import Derived.Lib.SliceRun
import Derived.Test.YtijklpcelbnnjaaGreatQk34
import Derived.Test.YtijklpcelbnnjaaGreatQk19
import Derived.Test.YtijklpcelbnnjaaGreatQk29
import Derived.Test.YtijklpcelbnnjaaGreatQk30
import Derived.Deep.RegionHeld3
import Derived.Deep.DeepCutAuto
import Derived.Test.YtijklpcelbnnjaaGreatQk18
import Derived.Test.YtijklpcelbnnjaaGreatQk28
namespace Go.Proofs.YtijklpcelbnnjaaGreat
open Go.RowKit
set_option linter.unusedVariables false
set_option linter.unusedSimpArgs false

theorem ca_new0 {W : World} {x y : Value} {t : TypeId} {g : Nat} (hg : g = W.heap.size) : (W.alloc (.cells #[x, y] t)).cell? ⟨g, 0, none⟩ = some x := by subst hg; exact nw0 W x y t
theorem ca_new1 {W : World} {x y : Value} {t : TypeId} {g : Nat} (hg : g = W.heap.size) : (W.alloc (.cells #[x, y] t)).cell? ⟨g, 1, none⟩ = some y := by subst hg; exact nw1 W x y t
theorem cs_same {W : World} {a : Addr} {v : Value} (h : ∃ u, W.cell? a = some u) : (W.setCell a v).cell? a = some v := by obtain ⟨u, hu⟩ := h; exact World.cell?_setCell_same W _ _ hu
theorem cs_other {W : World} {a a' : Addr} {v u : Value} (ne : a' ≠ a) (h : W.cell? a = some u) : (W.setCell a' v).cell? a = some u := (World.cell?_setCell_other _ _ _ _ ne).trans h
theorem ca_old {W : World} {o : Obj} {a : Addr} {u : Value} (h : W.cell? a = some u) : (W.alloc o).cell? a = some u := Lib.cell?_alloc_some o h
theorem cd_ {W : World} {a : Addr} {u : Value} (h : W.cell? a = some u) : W.drew.cell? a = some u := h
theorem cell_lt {W : World} {a : Addr} {v : Value} (h : W.cell? a = some v) : a.block < W.heap.size := by
  rcases Nat.lt_or_ge a.block W.heap.size with h' | h'
  · exact h'
  · simp [World.cell?, Array.getElem?_eq_none h'] at h
theorem cb_ {W W' : World} {a : Addr} {u : Value} (hb : Below W.heap.size W W') (h : W.cell? a = some u) : W'.cell? a = some u := (hb.cell (p := a) (cell_lt h)).trans h
def Live (W : World) (a : Addr) (u : Value) : Prop := W.cell? a = some u ∧ W.frozen? a = false
theorem lv_new0 {W : World} {x y : Value} {t : TypeId} {g : Nat} (hg : g = W.heap.size) : Live (W.alloc (.cells #[x, y] t)) ⟨g, 0, none⟩ x := by subst hg; exact ⟨nw0 W x y t, by simp [go_sem]⟩
theorem lv_new1 {W : World} {x y : Value} {t : TypeId} {g : Nat} (hg : g = W.heap.size) : Live (W.alloc (.cells #[x, y] t)) ⟨g, 1, none⟩ y := by subst hg; exact ⟨nw1 W x y t, by simp [go_sem]⟩
theorem lv_old {W : World} {o : Obj} {a : Addr} {u : Value} (h : Live W a u) : Live (W.alloc o) a u := ⟨ca_old h.1, ((below_alloc W o).frozen (p := a) (cell_lt h.1)).trans h.2⟩
theorem lv_drew {W : World} {a : Addr} {u : Value} (h : Live W a u) : Live W.drew a u := h
theorem lv_below {W W' : World} {a : Addr} {u : Value} (hb : Below W.heap.size W W') (h : Live W a u) : Live W' a u := ⟨cb_ hb h.1, (hb.frozen (p := a) (cell_lt h.1)).trans h.2⟩
theorem ex_here {W : World} {a : Addr} {u : Value} (h : W.cell? a = some u) : ∃ u, W.cell? a = some u := ⟨u, h⟩
theorem ex_set {W : World} {a a' : Addr} {v : Value} (h : ∃ u, W.cell? a = some u) : ∃ u, (W.setCell a' v).cell? a = some u := by
  obtain ⟨u, hu⟩ := h
  by_cases e : a' = a
  · subst e; exact ⟨v, World.cell?_setCell_same W _ _ hu⟩
  · exact ⟨u, cs_other e hu⟩
theorem ex_old {W : World} {o : Obj} {a : Addr} (h : ∃ u, W.cell? a = some u) : ∃ u, (W.alloc o).cell? a = some u := by obtain ⟨u, hu⟩ := h; exact ⟨u, ca_old hu⟩
theorem ex_new0 {W : World} {x y : Value} {t : TypeId} {g : Nat} (hg : g = W.heap.size) : ∃ u, (W.alloc (.cells #[x, y] t)).cell? ⟨g, 0, none⟩ = some u := ⟨x, ca_new0 hg⟩
theorem ex_new1 {W : World} {x y : Value} {t : TypeId} {g : Nat} (hg : g = W.heap.size) : ∃ u, (W.alloc (.cells #[x, y] t)).cell? ⟨g, 1, none⟩ = some u := ⟨y, ca_new1 hg⟩
theorem ex_drew {W : World} {a : Addr} (h : ∃ u, W.cell? a = some u) : ∃ u, W.drew.cell? a = some u := h
theorem sm_refl (lo hi : Nat) (w : World) : Same lo hi w w := fun _ _ _ => rfl
theorem sm_set {lo hi g i : Nat} {w W : World} {v : Value} (h : Same lo hi w W) (hg : g < lo ∨ hi ≤ g) : Same lo hi w (W.setCell ⟨g, i, none⟩ v) := fun k k0 k1 => (Below.heap_setCell _ _ _ _ (show k ≠ g by omega)).trans (h k k0 k1)
theorem sm_alloc {lo hi : Nat} {w W : World} {o : Obj} (h : Same lo hi w W) (hh : hi ≤ W.heap.size) : Same lo hi w (W.alloc o) := fun k k0 k1 => (Below.heap_alloc _ _ _ (by omega)).trans (h k k0 k1)
theorem sm_drew {lo hi : Nat} {w W : World} (h : Same lo hi w W) : Same lo hi w W.drew := h
theorem sm_below {lo hi : Nat} {w W W' : World} (hb : Below W.heap.size W W') (h : Same lo hi w W) (hh : hi ≤ W.heap.size) : Same lo hi w W' := fun k k0 k1 => (hb.block k (by omega)).trans (h k k0 k1)

end Go.Proofs.YtijklpcelbnnjaaGreat

namespace Go.Proofs.YtijklpcelbnnjaaGreat
open Go.RowKit
set_option linter.unusedVariables false

/-- The equations of the centre: row k of the ones for the basis vector i. -/
def ceF (p : Int) (S : List Int) (i k j : Nat) : Int := (at' (leftM p S (bladeM S (2 ^ i))) k j + (p - 1) * at' (rightM p S (bladeM S (2 ^ i))) k j) % p
def ceM (p : Int) (S : List Int) : List (List Int) := mk (S.length * bl S) (bl S) fun r j => ceF p S (r / bl S) (r % bl S) j
theorem ce_len (p : Int) (S : List Int) : (ceM p S).length = S.length * bl S := mk_len _ _ _
theorem ce_idx {S : List Int} {i k : Nat} (hi : i < S.length) (hk : k < bl S) : i * bl S + k < S.length * bl S ∧ (i * bl S + k) / bl S = i ∧ (i * bl S + k) % bl S = k := by
  have hb := bl_pos S
  refine ⟨?_, ?_, ?_⟩
  · have h : (i + 1) * bl S ≤ S.length * bl S := Nat.mul_le_mul_right _ hi
    rw [Nat.add_mul, Nat.one_mul] at h
    omega
  · rw [Nat.mul_comm, Nat.mul_add_div hb, Nat.div_eq_of_lt hk, Nat.add_zero]
  · rw [Nat.mul_comm, Nat.mul_add_mod, Nat.mod_eq_of_lt hk]
theorem ce_row {p : Int} {S : List Int} {i k : Nat} (hi : i < S.length) (hk : k < bl S) : rw' (ceM p S) (i * bl S + k) = mkR (bl S) (ceF p S i k) := by
  obtain ⟨h1, h2, h3⟩ := ce_idx hi hk
  unfold ceM
  rw [mk_row _ h1, h2, h3]
theorem ce_plus {p : Int} {S : List Int} {i k : Nat} (hi : i < S.length) (hk : k < bl S) : plusR p (rw' (leftM p S (bladeM S (2 ^ i))) k) (rw' (rightM p S (bladeM S (2 ^ i))) k) (p - 1) = rw' (ceM p S) (i * bl S + k) := by
  rw [ce_row hi hk]
  unfold plusR
  rw [show (rw' (leftM p S (bladeM S (2 ^ i))) k).length = bl S from mk_rowLen _ hk]
  rfl
theorem ce_rows {p : Int} {S : List Int} (hs : isSp p S = true) (h4 : S.length ≤ 4) : RowsW p (ceM p S) := by
  have hp := prm_bd (isSp_iff.1 hs).prime
  have hb := bl_pos S
  have h16 := bl_st h4
  have h1 := (isSp_iff.1 hs).lo
  have hn : S.length * bl S ≤ 4 * 16 := Nat.mul_le_mul h4 h16
  have hn0 : 0 < S.length * bl S := Nat.mul_pos h1 hb
  have r0 : (rw' (ceM p S) 0).length = bl S := by unfold ceM; rw [mk_rowLen _ hn0]
  refine ⟨(isSp_iff.1 hs).prime, by rw [ce_len]; exact hn0, by rw [ce_len]; omega, by rw [r0]; exact hb, by rw [r0]; exact h16, fun i hi => ?_, fun i hi j hj => ?_⟩
  · rw [ce_len] at hi; rw [r0]; unfold ceM; rw [mk_rowLen _ hi]
  · rw [ce_len] at hi; rw [r0] at hj
    unfold ceM; rw [mk_at _ hi hj]
    exact ⟨Int.emod_nonneg _ (by omega), Int.emod_lt_of_pos _ (by omega)⟩
noncomputable def cbV (p : Int) (S : List Int) : List (List Int) := if stC p S [] = 0 then kerB p (ceM p S) else []
theorem cbV_size (p : Int) (S : List Int) : (cbV p S).length + tot (cbV p S) (cbV p S).length ≤ 1048576 := by
  unfold cbV; split
  · rename_i h
    have hz := stC_zero h
    have hr := ce_rows hz.1 hz.2.2
    have hk := ker_is (A := ceM p S) hr.prime
    have hb := bl_pos S
    have r0 : (rw' (ceM p S) 0).length = bl S := by unfold ceM; rw [mk_rowLen _ (Nat.mul_pos (isSp_iff.1 hz.1).lo hb)]
    rw [r0] at hk
    obtain ⟨P, hP⟩ := hk.red
    have h1 := rref_le hP
    have h2 := bl_st hz.2.2
    exact size_bl hz.2.2 (by omega) hk.len
  · simp [tot]
theorem lw_nums {p : Int} {S : List Int} (hs : isSp p S = true) (h4 : S.length ≤ 4) {A : List (List Int)} (hA : Lst 1 p A) {k : Nat} (hk : k < A.length) : ∀ j, j < (rw' A k).length → 0 ≤ (rw' A k).getD j 0 ∧ (rw' A k).getD j 0 < p := fun j hj => hA.at hk (by rw [← hA.len k hk]; exact hj)
theorem left_bl (p : Int) (aS : Option Addr) (S : List Int) (cS loS tpS b q lo : Nat) (w : World) (hs : isSp p S = true) (hS : RowIn loS tpS w aS S) (tS : tpS ≤ w.heap.size) (hb : RowIn lo w.heap.size w (some ⟨b, 0, none⟩) (bladeM S q)) :
    Calls Tryz.prog 24 #[.agg #[.int .i64 p, .slice aS S.length cS], .slice (some ⟨b, 0, none⟩) (bl S) (bl S)] w (NewM (leftM p S (bladeM S q)) w) := by
  have h := l04Left_any p aS S cS loS tpS (some ⟨b, 0, none⟩) (bladeM S q) (bl S) lo w.heap.size w hs hS tS hb (Nat.le_refl _) (blade_mv hs q)
  rw [blade_len] at h; exact h
theorem right_bl (p : Int) (aS : Option Addr) (S : List Int) (cS loS tpS b q lo tp : Nat) (w : World) (hs : isSp p S = true) (hS : RowIn loS tpS w aS S) (tS : tpS ≤ w.heap.size) (hb : RowIn lo tp w (some ⟨b, 0, none⟩) (bladeM S q)) (tb : tp ≤ w.heap.size) :
    Calls Tryz.prog 25 #[.agg #[.int .i64 p, .slice aS S.length cS], .slice (some ⟨b, 0, none⟩) (bl S) (bl S)] w (NewM (rightM p S (bladeM S q)) w) := by
  have h := l09Right_any p aS S cS loS tpS (some ⟨b, 0, none⟩) (bladeM S q) (bl S) lo tp w hs hS tS hb tb (blade_mv hs q)
  rw [blade_len] at h; exact h
theorem same_trans {lo hi : Nat} {w w' w'' : World} (h : Same lo hi w w') (k : Same lo hi w' w'') : Same lo hi w w'' := fun b b0 b1 => (k b b0 b1).trans (h b b0 b1)
theorem same_of_below {lo hi : Nat} {w w' : World} (h : Below w.heap.size w w') (k : hi ≤ w.heap.size) : Same lo hi w w' := fun b _ b1 => h.block b (Nat.lt_of_lt_of_le b1 k)
theorem same_grown {lo hi : Nat} {w w' : World} {o : Obj} {v : Value} (hg : (w.alloc o).grownBy w' v.ownBlock) (hh : hi ≤ w.heap.size) (hv : ∀ g, v.ownBlock = some g → g < lo ∨ hi ≤ g) : Same lo hi w w' := fun b b0 b1 => by
  have h1 := hg.block b (Nat.lt_of_lt_of_le (Nat.lt_of_lt_of_le b1 hh) (size_alloc w o)) (fun e => by have := hv b e.symm; omega)
  exact h1.trans ((below_alloc w o).block b (Nat.lt_of_lt_of_le b1 hh))

set_option maxRecDepth 100000 in
set_option maxHeartbeats 12800000 in
theorem spec_CentreBasis (pS : Int) (aS : Option Addr) (S : List Int) (cS loS tpS : Nat) (w : World) (hS : RowIn loS tpS w aS S) (tS : tpS ≤ w.heap.size) (sS : S.length ≤ 1048576) :
    Calls Tryz.prog 7 #[.agg #[.int .i64 pS, .slice aS S.length cS]] w (SpecM (cbV pS S) (stC pS S []) w) := by
  have HS := Lib.hid hS
  have k0 := nw0 w (.int .i64 pS) (.slice aS S.length cS) 26
  have k1 := nw1 w (.int .i64 pS) (.slice aS S.length cS) 26
  have HB0 := Lib.hid (below_alloc w (.cells #[.int .i64 pS, .slice aS S.length cS] 26))
  clear hS
  obtain ⟨j0, kj, kz0, kz1, kz2⟩ := info_parts info_slice
  by_cases h0 : stC pS S [] = 0
  · have HC0 := Lib.hid h0
    have hz := stC_zero h0
    have HI := Lib.hid hz.1
    have H4 := Lib.hid hz.2.2
    have h6 := (isSp_iff.1 hz.1).hi
    have hbl := bl_le h6
    have hb16 := bl_st hz.2.2
    have hb0 := bl_pos S
    have hpb := prm_bd (isSp_iff.1 hz.1).prime
    have HP := Lib.hid (isSp_iff.1 hz.1).prime
    have HV : Hid (cbV pS S = kerB pS (ceM pS S)) := if_pos h0
    have HRW := Lib.hid (ce_rows hz.1 hz.2.2)
    obtain ⟨M, hM⟩ : ∃ m, m = ceM pS S := ⟨_, rfl⟩
    have HML : Hid (M.length = S.length * bl S) := by show _ = _; rw [hM]; exact ce_len _ _
    have HME := Lib.hid hM
    rw [← hM] at HRW HV
    clear h0 hz hM
    go_enter Tryz.func7, Tryz.ntmps7
    go_upto_region 1 with fail
    obtain ⟨w1, hw1⟩ : ∃ z, z = w.alloc (.cells #[.int .i64 pS, .slice aS S.length cS] 26) := ⟨_, rfl⟩
    rw [← hw1] at HB0 k0 k1 ⊢
    have hd1 : w.heap.size < w1.heap.size := by rw [hw1]; simp
    have HB1 := HB0
    clear hw1
    have SS1 := Lib.hid (And.intro k0 k1)
    go_wp2_with (go_at_call 22; ((with_reducible refine (codeS0 pS aS S cS loS tpS w1 (HS.out.below HB1.out tS) (Nat.le_trans tS HB1.out.size) sS).mono ?_); rintro e w2 ⟨rfl, b_⟩; rw [HC0.out]; have SS2 := Lib.hid (ss2 b_ hd1 SS1.out); have HB2 := Lib.hid (below_step HB1.out HB1.out.size b_); have hd2 := Nat.lt_of_lt_of_le hd1 b_.size; clear k0 k1; obtain ⟨k0, k1⟩ := SS2.out; clear b_))
    go_loopw [5, 6, 7, 8, 9, 10] (fun u t _ _ _ _ wr => ∃ i : Nat, i ≤ S.length ∧ t = .int .i64 i ∧ OutM w2.heap.size wr u (M.take (i * bl S)) ∧ Below w2.heap.size w2 wr) (fun _ t _ _ _ _ _ => S.length - (intOf t).toNat)
    case atStart => exact ⟨0, Nat.zero_le _, rfl, by rw [Nat.zero_mul]; exact OutM.start w2 _ _ (Nat.le_refl _) rfl, below_alloc w2 _⟩
    case round =>
      obtain ⟨i, hi, rfl, ho, hbel⟩ := hrel
      have HO := Lib.hid ho
      have HB := Lib.hid hbel
      have hwz := hbel.size
      clear k0 k1
      have k0 := (hbel.cell (p := ⟨w.heap.size, 0, none⟩) hd2).trans SS2.out.1
      have k1 := (hbel.cell (p := ⟨w.heap.size, 1, none⟩) hd2).trans SS2.out.2
      have SSr := Lib.hid (And.intro k0 k1)
      have hlw : w.heap.size < wr.heap.size := Nat.lt_of_lt_of_le hd2 hwz
      clear ho hbel
      by_cases hlt : i < S.length
      · have hi1 : (i : Int) < (S.length : Int) := Int.ofNat_lt.2 hlt
        obtain ⟨q, hq⟩ : ∃ q, q = 2 ^ i := ⟨_, rfl⟩
        have HQ := Lib.hid hq
        have hqn : q < bl S := by rw [hq]; unfold bl; exact pow_lt hlt
        have hq1 : (q : Int) < (bl S : Int) := Int.ofNat_lt.2 hqn
        have e1 : wrap64 ((2 : Int) ^ i) = (q : Int) := by rw [hq]; exact wrap_pow (by omega)
        have e2 : IntKind.i64.wrap ((2 : Int) ^ i) = (q : Int) := by rw [hq]; exact kwrap_pow9 (by omega)
        clear hq
        go_upto_region 10 with (go_at_call 23; ((with_reducible refine (l04Zero_any pS aS S cS wr h6).mono ?_); rintro e w4 ⟨b4, rfl, l4, u4, o4, q4⟩; have O4 := Lib.hid o4; have B4 := Lib.hid q4; have z4 := q4.size; have c4 := o4.cell q hqn; have f4 := o4.free q hqn; rw [Nat.zero_add] at c4 f4; have SS4 := Lib.hid (ss2 q4 hlw SSr.out); clear o4 q4 k0 k1; obtain ⟨k0, k1⟩ := SS4.out))
        clear e1 e2
        obtain ⟨w5, hw5⟩ : ∃ z, z = w4.setCell ⟨b4, q, none⟩ (.int .i64 1) := ⟨_, rfl⟩
        have HR5 : Hid (RowOwn w5 b4 0 (bl S) (fun j => if j = q then 1 else 0)) := by show RowOwn _ _ _ _ _; rw [hw5]; exact row_put0 O4.out hqn (fun j _ => rfl)
        have HQ5 : Hid (Below wr.heap.size wr w5) := by show Below _ _ _; rw [hw5]; exact B4.out.trans ((wrote_put0 (Wrote.refl b4 0 (bl S) w4) hqn _).belowB (by omega))
        have u5' : b4 < w5.heap.size := by rw [hw5]; simp [World.setCell]; exact u4
        rw [← hw5]
        clear hw5 c4 f4 k0 k1
        have HW5 : Hid (Below w.heap.size w w5.drew) := ((HB2.out.trans (HB.out.mono HB2.out.size)).trans (HQ5.out.mono (by omega))).drew
        have hs1 : Hid (w5.drew.cell? ⟨w.heap.size, 0, none⟩ = some (.int .i64 pS) ∧ w5.drew.cell? ⟨w.heap.size, 1, none⟩ = some (.slice aS S.length cS)) := ⟨(HQ5.out.cell (p := ⟨w.heap.size, 0, none⟩) hlw).trans SSr.out.1, (HQ5.out.cell (p := ⟨w.heap.size, 1, none⟩) hlw).trans SSr.out.2⟩
        have hdd : w.heap.size < w5.drew.heap.size := Nat.lt_of_lt_of_le hlw HQ5.out.size
        have HRD : Hid (RowIn wr.heap.size w5.drew.heap.size w5.drew (some ⟨b4, 0, none⟩) (bladeM S q)) := (HR5.out.own (tp := w5.heap.size) l4 u5').row.below (below_drew w5) (Nat.le_refl _)
        have z5 : wr.heap.size ≤ w5.drew.heap.size := HQ5.out.size
        obtain ⟨L, hL⟩ : ∃ l, l = leftM pS S (bladeM S q) := ⟨_, rfl⟩
        obtain ⟨R, hR⟩ : ∃ r, r = rightM pS S (bladeM S q) := ⟨_, rfl⟩
        have HLE : Hid (leftM pS S (bladeM S q) = L) := hL.symm
        have HRE : Hid (rightM pS S (bladeM S q) = R) := hR.symm
        have HLL : Hid (Lst 1 pS L) := by show Lst _ _ _; rw [hL]; exact left_wide HI.out H4.out _
        have HRL : Hid (Lst 1 pS R) := by show Lst _ _ _; rw [hR]; exact right_lst HI.out H4.out _
        have HLn : Hid (L.length = bl S) := by show _ = _; rw [hL]; exact mk_len _ _ _
        have HRn : Hid (R.length = bl S) := by show _ = _; rw [hR]; exact right_len _ _ _
        have HLr : Hid (∀ k, k < bl S → (rw' L k).length = bl S) := fun k hk => by rw [hL]; exact mk_rowLen _ hk
        have HRr : Hid (∀ k, k < bl S → (rw' R k).length = bl S) := fun k hk => by rw [hR]; exact right_rl hk
        have HPL : Hid (∀ k, k < bl S → plusR pS (rw' L k) (rw' R k) (pS - 1) = rw' M (i * bl S + k)) := fun k hk => by rw [hL, hR, HME.out, HQ.out]; exact ce_plus hlt hk
        clear hL hR
        go_wp2
        go_region_held3 (fun w' => w'.cell? ⟨w.heap.size, 0, none⟩ = some (.int .i64 pS) ∧ w'.cell? ⟨w.heap.size, 1, none⟩ = some (.slice aS S.length cS)) (first | exact hs1.out | exact SSa.out | exact SSab.out | go_keep) (first | (go_at_call 24; (with_reducible refine (left_bl pS aS S cS loS tpS b4 q wr.heap.size w5.drew HI.out (HS.out.below HW5.out tS) (Nat.le_trans tS (HW5.out).size) HRD.out).mono ?_); rintro e wa ⟨ra, ka, rfl, o_, b_⟩; rw [HLE.out] at o_ ⊢; have SSa := Lib.hid (ss2 b_ hdd hs1.out); have HBa := Lib.hid (below_step HW5.out (Nat.le_of_lt hdd) b_); have zz_ := b_.size; have HCa := Lib.hid b_; have hda := Nat.lt_of_lt_of_le hdd zz_; have Ma_a := Lib.hid (o_.mono (Nat.le_of_lt hdd) (Nat.le_refl _)); have MLa := Lib.hid o_; clear b_ o_) | (go_at_call 25; (with_reducible refine (right_bl pS aS S cS loS tpS b4 q wr.heap.size w5.drew.heap.size wa HI.out (HS.out.below HBa.out tS) (Nat.le_trans tS (HBa.out).size) (HRD.out.below HCa.out (Nat.le_refl _)) HCa.out.size).mono ?_); rintro e wab ⟨rb, kb, rfl, o_, b_⟩; rw [HRE.out] at o_ ⊢; have SSab := Lib.hid (ss2 b_ hda SSa.out); have HBab := Lib.hid (below_step HBa.out (Nat.le_of_lt hda) b_); have zz_ := b_.size; have HCab := Lib.hid (below_step HCa.out (HCa.out).size b_); have hdab := Nat.lt_of_lt_of_le hda zz_; have Ma_ab := Lib.hid ((Ma_a.out.below b_ (Nat.le_refl _)).mono (Nat.le_refl _) zz_); have Mb_ab := Lib.hid (o_.mono (Nat.le_of_lt hda) (Nat.le_refl _)); have MRb := Lib.hid o_; have MLb := Lib.hid ((MLa.out.below b_ (Nat.le_refl _)).mono (Nat.le_refl _) b_.size); clear b_ o_))
        obtain ⟨wl, hwl⟩ : ∃ z, z = wab := ⟨_, rfl⟩
        have HLM : Hid (MatIn w5.drew.heap.size wab.heap.size wab ra L) := MLb.out
        have HRM : Hid (MatIn w5.drew.heap.size wab.heap.size wab rb R) := MRb.out.mono HCa.out.size (Nat.le_refl _)
        have zab : wr.heap.size ≤ wab.heap.size := Nat.le_trans z5 (HCab.out).size
        have HVab : Hid (OutM w2.heap.size wab u5 (M.take (i * bl S))) := HO.out.below (HQ5.out.trans ((below_drew w5).trans (HCab.out) |>.mono HQ5.out.size))
        have HBab2 : Hid (Below w2.heap.size w2 wab) := HB.out.trans ((HQ5.out.trans ((below_drew w5).trans (HCab.out) |>.mono HQ5.out.size)).mono hwz)
        have hov : ∀ g, Value.ownBlock u5 = some g → g < w5.drew.heap.size ∨ wab.heap.size ≤ g := fun g hg => by
          obtain ⟨vals, hvo, _⟩ := HO.out
          exact .inl (Nat.lt_of_lt_of_le (hvo.lt g hg).2 z5)
        clear hwl HQ5 HW5 HRD HR5
        have hw2l : w2.heap.size ≤ w5.drew.heap.size := Nat.le_trans hwz z5
        go_wp2
        go_loopw [5, 10] (fun u t wr2 => ∃ k : Nat, k ≤ bl S ∧ t = .int .i64 k ∧ OutM w2.heap.size wr2 u (M.take (i * bl S + k)) ∧ Below w2.heap.size w2 wr2 ∧ Same w5.drew.heap.size wab.heap.size wab wr2 ∧ wab.heap.size ≤ wr2.heap.size ∧ (∀ g, Value.ownBlock u = some g → g < w5.drew.heap.size ∨ wab.heap.size ≤ g)) (fun _ t _ => bl S - (intOf t).toNat)
        case atStart => exact ⟨0, Nat.zero_le _, rfl, HVab.out, HBab2.out, fun _ _ _ => rfl, Nat.le_refl _, hov⟩
        case round =>
          obtain ⟨k, hk, rfl, ho, hbel, hsm, hsz, hov2⟩ := hrel
          rename World => wq
          obtain ⟨V5, hV5⟩ : ∃ z, z = u5 := ⟨_, rfl⟩
          rw [← hV5] at ho hov2 ⊢
          clear hV5
          have HO2 := Lib.hid ho
          have HBq := Lib.hid hbel
          have HSM := Lib.hid hsm
          have hk0_ := (hbel.cell (p := ⟨w.heap.size, 0, none⟩) hd2).trans SS2.out.1
          have hk1_ := (hbel.cell (p := ⟨w.heap.size, 1, none⟩) hd2).trans SS2.out.2
          have hln : (L.length : Int) = (bl S : Int) := by rw [HLn.out]
          clear ho hbel hsm
          by_cases hkt : k < bl S
          · have hi2 : (k : Int) < (L.length : Int) := by omega
            have hi3 : (k : Int) < (R.length : Int) := by rw [HRn.out]; omega
            clear hln
            obtain ⟨hkx, _, _⟩ := ce_idx hlt hkt
            have hkm : i * bl S + k < M.length := by rw [HML.out]; exact hkx
            have hkc : i * bl S + k < 64 := Nat.lt_of_lt_of_le hkx (by have := Nat.mul_le_mul H4.out hb16; omega)
            have HTL : Hid ((M.take (i * bl S + k)).length = i * bl S + k) := by show _ = _; rw [List.length_take]; omega
            obtain ⟨vals, hvo, hvr⟩ := HO2.out
            rw [HTL.out] at hvo hvr
            obtain ⟨n, hn⟩ : ∃ n, n = i * bl S + k := ⟨_, rfl⟩
            have HN := Lib.hid hn
            rw [← hn] at hvo hvr hkm hkc
            have HVO := Lib.hid hvo
            have HVR := Lib.hid hvr
            obtain ⟨b8, o8, rl, cl, ha8, g8, hb8, hr8, hrow8⟩ := (HLM.out.same HSM.out).row (show k < L.length by rw [HLn.out]; exact hkt)
            obtain ⟨b9, o9, rr, cr, ha9, g9, hb9, hr9, hrow9⟩ := (HRM.out.same HSM.out).row (show k < R.length by rw [HRn.out]; exact hkt)
            subst ha8
            subst ha9
            have HX8 : Hid (RowIn w5.drew.heap.size wab.heap.size wq.drew rl (rw' L k)) := hrow8.below (below_drew wq) hsz
            have HX9 : Hid (RowIn w5.drew.heap.size wab.heap.size wq.drew rr (rw' R k)) := hrow9.below (below_drew wq) hsz
            have hszd : wab.heap.size ≤ wq.drew.heap.size := hsz
            have hs4 : Hid (wq.drew.cell? ⟨w.heap.size, 0, none⟩ = some (.int .i64 pS) ∧ wq.drew.cell? ⟨w.heap.size, 1, none⟩ = some (.slice aS S.length cS) ∧ wq.drew.cell? ⟨b8, o8 + k, none⟩ = some (.slice rl (rw' L k).length cl) ∧ wq.drew.cell? ⟨b9, o9 + k, none⟩ = some (.slice rr (rw' R k).length cr)) := ⟨hk0_, hk1_, hr8, hr9⟩
            have hw1_ : wrap64 (pS - 1) = pS - 1 := by unfold wrap64; omega
            have hw2_ : IntKind.i64.wrap (pS - 1) = pS - 1 := IntWalk.i64_in _ (by omega)
            have HN1 := Lib.hid (lw_nums HI.out H4.out HLL.out (show k < L.length by rw [HLn.out]; exact hkt))
            have HN2 := Lib.hid (lw_nums HI.out H4.out HRL.out (show k < R.length by rw [HRn.out]; exact hkt))
            have hle : (rw' L k).length ≤ (rw' R k).length := by rw [HLr.out k hkt, HRr.out k hkt]; exact Nat.le_refl _
            have hls : (rw' L k).length ≤ 1048576 := by rw [HLr.out k hkt]; omega
            have hp0 : 0 ≤ pS - 1 := by omega
            have hp1 : pS - 1 ≤ pS := by omega
            have HPK : Hid (plusR pS (rw' L k) (rw' R k) (pS - 1) = rw' M n) := by show _ = _; rw [HPL.out k hkt, ← hn]
            have hdq : w.heap.size < wq.drew.heap.size := Nat.lt_of_lt_of_le hd2 HBq.out.size
            have hb8q : b8 < wq.drew.heap.size := Nat.lt_of_lt_of_le hb8 hsz
            have hb9q : b9 < wq.drew.heap.size := Nat.lt_of_lt_of_le hb9 hsz
            have hqz : w2.heap.size ≤ wq.drew.heap.size := HBq.out.size
            have HOV := Lib.hid hov2
            clear hvo hvr hrow8 hrow9 hr8 hr9 hk0_ hk1_ hn hov2
            go_wp2
            go_region_held3 (fun w' => w'.cell? ⟨w.heap.size, 0, none⟩ = some (.int .i64 pS) ∧ w'.cell? ⟨w.heap.size, 1, none⟩ = some (.slice aS S.length cS) ∧ w'.cell? ⟨b8, o8 + k, none⟩ = some (.slice rl (rw' L k).length cl) ∧ w'.cell? ⟨b9, o9 + k, none⟩ = some (.slice rr (rw' R k).length cr)) (first | exact hs4.out | exact SSb.out | exact SS4.out | go_keep) (first | (go_at_call 26; ((with_reducible refine (l02Plus_any pS (pS - 1) rl rr (rw' L k) (rw' R k) cl cr w5.drew.heap.size wab.heap.size w5.drew.heap.size wab.heap.size wq.drew HP.out HX8.out HX9.out hszd hszd hle hls HN1.out HN2.out hp0 hp1).mono ?_); rintro e wb ⟨rp, cp, rfl, t_, b_⟩; rw [HPK.out] at t_; have HQb : Hid (Below wq.heap.size wq wb) := (below_drew wq).trans b_; have hzb := HQb.out.size; have SSb := Lib.hid (And.intro ((b_.cell (p := ⟨w.heap.size, 0, none⟩) hdq).trans hs4.out.1) (And.intro ((b_.cell (p := ⟨w.heap.size, 1, none⟩) hdq).trans hs4.out.2.1) (And.intro ((b_.cell (p := ⟨b8, o8 + k, none⟩) hb8q).trans hs4.out.2.2.1) ((b_.cell (p := ⟨b9, o9 + k, none⟩) hb9q).trans hs4.out.2.2.2)))); have Tb : Hid (TagR wq.heap.size wb.heap.size wb rp (rw' M n)) := t_; have HVW := Lib.hid (HVO.out.kept (below_grown HQb.out) (by cases hv : Value.ownBlock V5 <;> simp)); clear b_ t_)) | ((refine step_append_lies _ (by rfl) _ _ _ (by rfl) w2.heap.size 24 j0 _ 1 24 Tryz.underlying28 kj kz0 kz1 kz2 rfl (by omega) V5 n vals (by rfl) (HVW.out.alloc _) ⟨wb.heap.size, 0, none⟩ 1 1 [.slice rp (plusR pS (rw' L k) (rw' R k) (pS - 1)).length cp] (by rfl) (by rfl) (World.news_of_block (cs := #[.slice rp (plusR pS (rw' L k) (rw' R k) (pS - 1)).length cp]) (t := 24) (fr := (0, 0)) (heap_alloc_new wb _)) (by simp [Value.oneCell']) (by omega) (by unfold maxLen; omega) (by omega) (by simp; omega) (wb.heap.size + 1) (by simp) ?_; intro g4 cap4 w4 hown4 hgrow4 hat4 hlt4; rw [HPK.out] at hown4; have HO4 := Lib.hid hown4; have HG4 := Lib.hid hgrow4; have HA4 := Lib.hid hat4; have HB4 : Hid (Below w2.heap.size w2 w4) := ((HBq.out.trans (HQb.out.mono HBq.out.size)).alloc (Nat.le_trans HBq.out.size hzb) _).grown hgrow4 (by simp; omega) (fun _ hk => (HVO.out.lt _ hk).1); have HSM4 : Hid (Same w5.drew.heap.size wab.heap.size wab w4) := same_trans HSM.out (same_trans (same_of_below HQb.out hsz) (same_grown hgrow4 (Nat.le_trans hsz hzb) HOV.out)); have SS4 := Lib.hid (And.intro ((HB4.out.cell (p := ⟨w.heap.size, 0, none⟩) hd2).trans SS2.out.1) (And.intro ((HB4.out.cell (p := ⟨w.heap.size, 1, none⟩) hd2).trans SS2.out.2) (And.intro ((same_trans (same_of_below HQb.out hsz) (same_grown hgrow4 (Nat.le_trans hsz hzb) HOV.out)).cell (p := ⟨b8, o8 + k, none⟩) g8 hb8 |>.trans hs4.out.2.2.1) ((same_trans (same_of_below HQb.out hsz) (same_grown hgrow4 (Nat.le_trans hsz hzb) HOV.out)).cell (p := ⟨b9, o9 + k, none⟩) g9 hb9 |>.trans hs4.out.2.2.2)))); have hz4 : wb.heap.size ≤ w4.heap.size := Nat.le_trans (size_alloc wb _) hgrow4.size; clear hown4 hgrow4 hat4)))
            go_wp2
            go_roundw
            case rel => exact ⟨k + 1, by omega, by go_num, by rw [← Nat.add_assoc, ← HN.out]; exact OutM.nextT hkm HVO.out HVR.out Tb.out HBq.out.size HQb.out HO4.out HG4.out, HB4.out, HSM4.out, by omega, fun g hg => by
              have hg2 : some g4 = some g := hg
              injection hg2 with hg3
              subst hg3
              rcases HA4.out with h | h
              · exact HOV.out _ h
              · right; omega⟩
            case measure => simp [intOf]; omega
          · have hkn : k = bl S := by omega
            subst hkn
            have hi2 : ¬ ((bl S : Nat) : Int) < (L.length : Int) := by omega
            go_wp2
            go_roundw
            case rel => exact ⟨i + 1, by omega, by go_num, by rw [Nat.add_mul, Nat.one_mul]; exact HO2.out, HBq.out⟩
            case measure => simp [intOf]; omega
      · have hin : i = S.length := by omega
        subst hin
        have hi1 : ¬ (S.length : Int) < (S.length : Int) := Int.lt_irrefl _
        have ho2 := HO.out
        rw [List.take_of_length_le (by rw [HML.out]; exact Nat.le_refl _)] at ho2
        obtain ⟨r, c, hv, hmat⟩ := ho2.mat
        subst hv
        have HMT := Lib.hid hmat
        clear ho2 hmat
        have HWr : Hid (Below w.heap.size w wr) := HB2.out.trans (HB.out.mono HB2.out.size)
        go_wp2_with (go_at_call 27; ((with_reducible refine (l02Kernel_wide pS r M c w2.heap.size wr.heap.size wr HMT.out (Nat.le_refl _) HRW.out).mono ?_); rintro e w4 ⟨r4, c4, rfl, o_, b_⟩; have HO4 := Lib.hid (o_.mono HWr.out.size (Nat.le_refl _)); have HB4 := Lib.hid (below_step HWr.out HWr.out.size b_); clear o_ b_))
        go_ret2
        rw [HV.out, HC0.out]
        exact ⟨r4, c4, rfl, HO4.out, HB4.out⟩
  · have HV : Hid (cbV pS S = []) := if_neg h0
    obtain ⟨C, hC⟩ : ∃ c, c = stC pS S [] := ⟨_, rfl⟩
    have hc1 : (C != 0) = true := by rw [hC]; simpa using h0
    have hc2 : (C == 0) = false := by rw [hC]; simpa using h0
    have HCE := Lib.hid hC
    clear hC
    clear h0
    go_enter Tryz.func7, Tryz.ntmps7
    go_upto_region 1 with fail
    obtain ⟨w1, hw1⟩ : ∃ z, z = w.alloc (.cells #[.int .i64 pS, .slice aS S.length cS] 26) := ⟨_, rfl⟩
    rw [← hw1] at HB0 k0 k1 ⊢
    have hd1 : w.heap.size < w1.heap.size := by rw [hw1]; simp
    have HB1 := HB0
    clear hw1
    have SS1 := Lib.hid (And.intro k0 k1)
    go_wp2_with (go_at_call 22; ((with_reducible refine (codeS0 pS aS S cS loS tpS w1 (HS.out.below HB1.out tS) (Nat.le_trans tS HB1.out.size) sS).mono ?_); rintro e w2 ⟨rfl, b_⟩; rw [← HCE.out]; have SS2 := Lib.hid (ss2 b_ hd1 SS1.out); have HB2 := Lib.hid (below_step HB1.out HB1.out.size b_); have hd2 := Nat.lt_of_lt_of_le hd1 b_.size; clear k0 k1; obtain ⟨k0, k1⟩ := SS2.out; clear b_))
    go_ret2
    rw [HV.out, ← HCE.out]
    exact ⟨none, 0, rfl, .inl rfl, HB2.out⟩

end Go.Proofs.YtijklpcelbnnjaaGreat
