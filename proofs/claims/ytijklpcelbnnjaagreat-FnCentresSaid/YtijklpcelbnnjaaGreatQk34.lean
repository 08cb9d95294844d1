/-
  Basis vectors, IsCentral: contracts of the program and of the model.
  Conditions: the lists are nil or rows of known cells, of at most 1048576 numbers.
-/
import Derived.Test.YtijklpcelbnnjaaGreatQk30
import Derived.Test.YtijklpcelbnnjaaGreatQk33
import Derived.Test.YtijklpcelbnnjaaGreatQk10
import Derived.Test.YtijklpcelbnnjaaGreatQk8
import Derived.Test.YtijklpcelbnnjaaGreatQk28
import Derived.Deep.RegionHeld3
import Derived.Deep.DeepCutAuto
namespace Go.Proofs.YtijklpcelbnnjaaGreat
open Go.RowKit
set_option linter.unusedVariables false

theorem bool_ext9 {a b : Bool} (h : a = true ↔ b = true) : a = b := by cases a <;> cases b <;> simp_all
theorem kwrap_pow9 {i : Nat} (h : i < 6) : IntKind.i64.wrap ((2 : Int) ^ i) = ((2 ^ i : Nat) : Int) := by
  have : i = 0 ∨ i = 1 ∨ i = 2 ∨ i = 3 ∨ i = 4 ∨ i = 5 := by omega
  rcases this with rfl | rfl | rfl | rfl | rfl | rfl <;> rfl
/-- The basis vectors as multivectors. -/
def bvM (S : List Int) : List (List Int) := mk S.length (bl S) fun i c => if c = 2 ^ i then 1 else 0
theorem bv_row {S : List Int} {i : Nat} (h : i < S.length) : rw' (bvM S) i = bladeM S (2 ^ i) := mk_row _ h
theorem bv_len (S : List Int) : (bvM S).length = S.length := mk_len _ _ _
def comB (p : Int) (S x : List Int) (i : Nat) : Bool := decide (prodM p S x (bladeM S (2 ^ i)) = prodM p S (bladeM S (2 ^ i)) x)
def cenB (p : Int) (S x : List Int) : Bool := (List.range S.length).all (comB p S x)
def cenV (p : Int) (S x : List Int) : Bool := if stC p S [x] = 0 then cenB p S x else false
theorem cen_no {p : Int} {S x : List Int} {i : Nat} (hi : i < S.length) (h : comB p S x i = false) : cenB p S x = false := by
  cases e : cenB p S x with
  | false => rfl
  | true => have := List.all_eq_true.1 e i (List.mem_range.2 hi); rw [h] at this; cases this
theorem cen_yes {p : Int} {S x : List Int} (h : ∀ i, i < S.length → comB p S x i = true) : cenB p S x = true := List.all_eq_true.2 fun i hi => h i (List.mem_range.1 hi)
/-- A bracket is 0 exactly if the factors commute. -/
theorem br_zero {p : Int} {S : List Int} (hs : isSp p S = true) (x y : List Int) : allZ (brM p S x y) = decide (prodM p S x y = prodM p S y x) := by
  have hpb := prm_bd (isSp_iff.1 hs).prime
  apply bool_ext9
  rw [allZ_iff, decide_eq_true_eq, brM_len]
  have hb : ∀ j, j < bl S → (brM p S x y).getD j 0 = (prodF p S x y j + (p - 1) * prodF p S y x j) % p := fun j hj => by
    rw [← brM_eq, mkR_at _ hj, prodM_at p S y x hj]
  have key : ∀ j, j < bl S → ((brM p S x y).getD j 0 = 0 ↔ prodF p S x y j = prodF p S y x j) := fun j hj => by
    rw [hb j hj]
    have h1 := prodF_bd (p := p) (by omega) S x y j
    have h2 := prodF_bd (p := p) (by omega) S y x j
    have e : (prodF p S x y j + (p - 1) * prodF p S y x j) % p = (prodF p S x y j - prodF p S y x j) % p := by
      rw [Int.sub_mul, Int.one_mul, show prodF p S x y j + (p * prodF p S y x j - prodF p S y x j) = (prodF p S x y j - prodF p S y x j) + p * prodF p S y x j by omega]
      exact Int.add_mul_emod_self_left _ _ _
    rw [e]
    constructor
    · intro h
      have h3 : prodF p S x y j % p = prodF p S y x j % p := Int.emod_eq_emod_iff_emod_sub_eq_zero.2 h
      rwa [Int.emod_eq_of_lt h1.1 h1.2, Int.emod_eq_of_lt h2.1 h2.2] at h3
    · intro h; rw [h, Int.sub_self]; rfl
  constructor
  · intro h
    apply row_ext (by rw [prodM_len, prodM_len])
    intro j hj
    rw [prodM_len] at hj
    rw [prodM_at p S _ _ hj, prodM_at p S _ _ hj]
    exact (key j hj).1 (h j hj)
  · intro h j hj
    refine (key j hj).2 ?_
    rw [← prodM_at p S x y hj, ← prodM_at p S y x hj, h]
theorem br_nn {p : Int} {S : List Int} (hs : isSp p S = true) (x y : List Int) : ∀ j, j < (brM p S x y).length → 0 ≤ (brM p S x y).getD j 0 := fun j hj => by
  have hpb := prm_bd (isSp_iff.1 hs).prime
  rw [brM_len] at hj
  rw [← brM_eq, mkR_at _ hj]
  exact Int.emod_nonneg _ (by omega)

set_option maxHeartbeats 800000 in
theorem blade_tag (p : Int) (a : Option Addr) (S : List Int) (c k : Nat) (w : World) (h : S.length ≤ 6) (hk : k < bl S) :
    Calls Tryz.prog 75 #[.agg #[.int .i64 p, .slice a S.length c], .int .i64 k] w (fun e w' => ∃ b, e = .returned (.slice (some ⟨b, 0, none⟩) (bl S) (bl S)) ∧ TagR w.heap.size w'.heap.size w' (some ⟨b, 0, none⟩) (bladeM S k) ∧ Below w.heap.size w w') := by
  have hbl := bl_le h
  have hmk := fun W => run_make_row' (P := Tryz.prog) 24 2 (.int .i64 0) 8 Tryz.underlying24 info64 rfl .i64 .i64 (bl S) (by omega) (by omega) W
  go_enter Tryz.func75, Tryz.ntmps75
  go_wp2_with (go_at_call 74; ((with_reducible refine (blades_any p a S c _ h).mono ?_); rintro e w1 ⟨rfl, hb1⟩; have HB1 := Lib.hid hb1; have hz1 := hb1.size; have g0 := made_cell w1 (.int .i64 0) (bl S) 2 hk; have f0 : (w1.alloc (.cells (madeCells #[.int .i64 0] (bl S)) 2)).frozen? ⟨w1.heap.size, k, none⟩ = false := (by simp [go_sem]); clear hb1))
  go_ret
  have hb := below_step (below_alloc w _) (by simp) HB1.out
  have hr := one_rowA w1 (n := bl S) (k := k) 2 1
  exact ⟨w1.heap.size, rfl, .inr ⟨w1.heap.size, 0, _, rfl, hb.size, by simp, heap_alloc_new w1 _, fun j hj => by
    unfold bladeM at hj ⊢
    rw [mkR_len] at hj
    rw [mkR_at _ hj]
    exact hr.cell j hj⟩, hb.alloc (hb.size) _⟩
set_option maxHeartbeats 1600000 in
theorem l02First_sgn (a : Option Addr) (z : List Int) (n c lo tp : Nat) (w : World) (h : RowIn lo tp w a z) (hl : z.length = n) (hn : n ≤ 1048576) :
    Calls Tryz.prog 38 #[.slice a n c] w fun e w' => ∃ r, e = .returned (.int .i64 r) ∧ (allZ z = false → 0 ≤ r) ∧ (allZ z = true → r = -1) ∧ w = w' := by
  subst hl
  have H := Lib.hid h
  clear h
  go_enter Tryz.func38, Tryz.ntmps38
  go_wp2
  go_loop [3] (fun t => ∃ k : Nat, k ≤ z.length ∧ t = .int .i64 k ∧ ∀ j, j < k → z.getD j 0 = 0) (fun t => z.length - (intOf t).toNat)
  case atStart => exact ⟨0, Nat.zero_le _, rfl, fun j hj => by omega⟩
  case round =>
    obtain ⟨k, hk, rfl, hall⟩ := hrel
    have HA := Lib.hid hall
    clear hall
    by_cases hlt : k < z.length
    · obtain ⟨b9, o9, ha9, _, _, hc⟩ := H.out.num hlt
      subst ha9
      have hi1 : (k : Int) < (z.length : Int) := by omega
      obtain ⟨y, hy⟩ : ∃ y, y = z.getD k 0 := ⟨_, rfl⟩
      have HY := Lib.hid hy
      rw [← hy] at hc
      clear hy
      by_cases h0 : y = 0
      · have e0 : (y != 0) = false := by simp [h0]
        go_wp2
        go_round
        case rel => exact ⟨k + 1, by omega, by go_num, fun j hj => by
          by_cases e : j = k
          · subst e; rw [← HY.out]; exact h0
          · exact HA.out j (by omega)⟩
        case measure => simp [intOf]; omega
      · have e0 : (y != 0) = true := by simp [h0]
        go_wp2
        go_ret
        exact ⟨k, rfl, fun _ => by omega, fun hz => (h0 (by rw [HY.out]; exact allZ_iff.1 hz k hlt)).elim, rfl⟩
    · go_wp2
      go_ret
      refine ⟨-1, rfl, fun h => ?_, fun _ => rfl, rfl⟩
      exfalso
      rw [allZ_iff.2 fun j hj => HA.out j (by omega)] at h
      cases h

set_option maxRecDepth 100000 in
set_option maxHeartbeats 3200000 in
theorem basisVectors_any (pS : Int) (aS : Option Addr) (S : List Int) (cS : Nat) (w : World) (h6 : S.length ≤ 6) :
    Calls Tryz.prog 41 #[.agg #[.int .i64 pS, .slice aS S.length cS]] w (NewM (bvM S) w) := by
  obtain ⟨j0, kj, kz0, kz1, kz2⟩ := info_parts info_slice
  have hbl := bl_le h6
  have k0 := nw0 w (.int .i64 pS) (.slice aS S.length cS) 26
  have k1 := nw1 w (.int .i64 pS) (.slice aS S.length cS) 26
  have HB0 := Lib.hid (below_alloc w (.cells #[.int .i64 pS, .slice aS S.length cS] 26))
  go_enter Tryz.func41, Tryz.ntmps41
  go_upto_region 1 with fail
  obtain ⟨wB, hw1⟩ : ∃ z, z = w.alloc (.cells #[.int .i64 pS, .slice aS S.length cS] 26) := ⟨_, rfl⟩
  rw [← hw1] at HB0 k0 k1 ⊢
  have hw0 : w.heap.size < wB.heap.size := by rw [hw1]; simp
  clear hw1
  have K0 := Lib.hid k0
  have K1 := Lib.hid k1
  go_wp2
  go_loopw [3, 8] (fun v t wr => ∃ i : Nat, i ≤ S.length ∧ t = .int .i64 i ∧ OutM wB.heap.size wr v (mk i (bl S) fun j c => if c = 2 ^ j then 1 else 0) ∧ Below wB.heap.size wB wr) (fun _ t _ => S.length - (intOf t).toNat)
  case atStart => exact ⟨0, Nat.zero_le _, rfl, ⟨[], ⟨rfl, .inl ⟨rfl, rfl⟩⟩, fun i hi => absurd hi (Nat.not_lt_zero i)⟩, Below.refl _ _⟩
  case round =>
    obtain ⟨i, hi, rfl, ho, hbel⟩ := hrel
    obtain ⟨V5, hV5⟩ : ∃ z, z = u3 := ⟨_, rfl⟩
    rw [← hV5] at ho ⊢
    clear hV5
    have HO := Lib.hid ho
    have HB := Lib.hid hbel
    have hwz := hbel.size
    have hk0 := (hbel.cell (p := ⟨w.heap.size, 0, none⟩) hw0).trans K0.out
    have hk1 := (hbel.cell (p := ⟨w.heap.size, 1, none⟩) hw0).trans K1.out
    have hlw : w.heap.size < wr.heap.size := by omega
    clear ho hbel k0 k1
    by_cases hlt : i < S.length
    · have hi1 : (i : Int) < (S.length : Int) := Int.ofNat_lt.2 hlt
      obtain ⟨vals, hvo, hvr⟩ := HO.out
      rw [mk_len] at hvo hvr
      have HVO := Lib.hid hvo
      have HVR := Lib.hid hvr
      obtain ⟨q, hq⟩ : ∃ q, q = 2 ^ i := ⟨_, rfl⟩
      have HQ := Lib.hid hq
      have hqn : q < bl S := by rw [hq]; unfold bl; exact pow_lt hlt
      have e1 : wrap64 ((2 : Int) ^ i) = (q : Int) := by rw [hq]; exact wrap_pow (by omega)
      have e2 : IntKind.i64.wrap ((2 : Int) ^ i) = (q : Int) := by rw [hq]; exact kwrap_pow9 (by omega)
      have hs1 : Hid (wr.drew.cell? ⟨w.heap.size, 0, none⟩ = some (.int .i64 pS) ∧ wr.drew.cell? ⟨w.heap.size, 1, none⟩ = some (.slice aS S.length cS)) := ⟨hk0, hk1⟩
      have HQD : Hid (Below wr.heap.size wr wr.drew) := below_drew wr
      have hdr : w.heap.size < wr.drew.heap.size := hlw
      clear hvo hvr hk0 hk1 hq
      go_wp2
      go_region_held3 (fun w' => w'.cell? ⟨w.heap.size, 0, none⟩ = some (.int .i64 pS) ∧ w'.cell? ⟨w.heap.size, 1, none⟩ = some (.slice aS S.length cS)) (first | exact hs1.out | exact SSb.out | exact SS4.out | go_keep) (first | (go_at_call 75; ((with_reducible refine (blade_tag pS aS S cS q wr.drew h6 hqn).mono ?_); rintro e wb ⟨bb, rfl, t_, b_⟩; have SSb := Lib.hid (ss2 b_ hdr hs1.out); have HQb := Lib.hid (HQD.out.trans b_); have hzb := HQb.out.size; have Tb : Hid (TagR wr.heap.size wb.heap.size wb (some ⟨bb, 0, none⟩) (bladeM S q)) := t_; have HVW := Lib.hid (HVO.out.kept (below_grown HQb.out) (by cases hv : Value.ownBlock V5 <;> simp)); clear b_ t_)) | ((refine step_append_lies _ (by rfl) _ _ _ (by rfl) wB.heap.size 24 j0 _ 1 24 Tryz.underlying28 kj kz0 kz1 kz2 rfl (by omega) V5 i vals (by rfl) (HVW.out.alloc _) ⟨wb.heap.size, 0, none⟩ 1 1 [.slice (some ⟨bb, 0, none⟩) (bl S) (bl S)] (by rfl) (by rfl) (World.news_of_block (cs := #[.slice (some ⟨bb, 0, none⟩) (bl S) (bl S)]) (t := 24) (fr := (0, 0)) (heap_alloc_new wb _)) (by simp [Value.oneCell']) (by omega) (by unfold maxLen; omega) (by omega) (by simp; omega) (wb.heap.size + 1) (by simp) ?_; intro g4 cap4 w4 hown4 hgrow4 hat4 hlt4; have HO4 := Lib.hid hown4; have HG4 := Lib.hid hgrow4; have HB4 : Hid (Below wB.heap.size wB w4) := ((HB.out.trans (HQb.out.mono hwz)).alloc (Nat.le_trans hwz hzb) _).grown hgrow4 (by simp; omega) (fun _ hk => (HVO.out.lt _ hk).1); have SS4 := Lib.hid (ss2 (HB4.out) hw0 ⟨K0.out, K1.out⟩); clear hown4 hgrow4)))
      have HVRW : Hid (∀ i', i' < i → ∃ r c', vals[i']? = some (.slice r (rw' (mk i (bl S) fun j c => if c = 2 ^ j then (1 : Int) else 0) i').length c') ∧ TagR wB.heap.size wb.heap.size wb r (rw' (mk i (bl S) fun j c => if c = 2 ^ j then (1 : Int) else 0) i')) := fun i' h' => by
        obtain ⟨r', c', g1, g2⟩ := HVR.out i' h'
        exact ⟨r', c', g1, g2.below HQb.out (Nat.le_refl _) (Nat.le_refl _) HQb.out.size⟩
      go_wp2
      go_roundw
      case rel => exact ⟨i + 1, by omega, by go_num, OutM.next HVW.out HVRW.out Tb.out (by rw [HQ.out]; rfl) hwz HO4.out HG4.out, HB4.out⟩
      case measure => simp [intOf]; omega
    · have hin : i = S.length := by omega
      subst hin
      obtain ⟨r, c, hv, hmat⟩ := HO.out.mat
      subst hv
      have HMT := Lib.hid hmat
      clear hmat
      go_wp2
      go_ret
      exact ⟨r, c, rfl, HMT.out.mono (by omega) (Nat.le_refl _), HB0.out.trans (HB.out.mono (by omega))⟩

set_option maxRecDepth 100000 in
set_option maxHeartbeats 1600000 in
theorem isOther_any (pS : Int) (aS : Option Addr) (S : List Int) (cS loS tpS : Nat) (ax : Option Addr) (x : List Int) (cx lox tpx kb xb : Nat) (ae : Option Addr) (y : List Int) (n ce loe tpe : Nat) (W : World) (hn : y.length = n) (hs : isSp pS S = true) (hS : RowIn loS tpS W aS S) (tS : tpS ≤ W.heap.size) (hx : RowIn lox tpx W ax x) (tx : tpx ≤ W.heap.size) (mx : isMv pS S x = true) (hy : RowIn loe tpe W ae y) (te : tpe ≤ W.heap.size) (my : isMv pS S y = true) (hk : W.cell? ⟨kb, 0, none⟩ = some (.int .i64 pS) ∧ W.cell? ⟨kb, 1, none⟩ = some (.slice aS S.length cS)) (hxb : W.cell? ⟨xb, 0, none⟩ = some (.slice ax x.length cx)) :
    Calls Tryz.prog 53 #[.slice ae n ce, .pointer (some ⟨kb, 0, none⟩), .pointer (some ⟨xb, 0, none⟩)] W (fun e w' => e = .returned (.bool (!decide (prodM pS S x y = prodM pS S y x))) ∧ Below W.heap.size W w') := by
  subst hn
  have HS := Lib.hid hS
  have Hx := Lib.hid hx
  have Hy := Lib.hid hy
  have HI := Lib.hid hs
  have HMX := Lib.hid mx
  have HMY := Lib.hid my
  obtain ⟨k0, k1⟩ := hk
  have hbl := bl_le (isSp_iff.1 hs).hi
  have hb0 := bl_pos S
  obtain ⟨M, hM⟩ : ∃ m, m = mxF (brM pS S x y) ((brM pS S x y).length - 1) := ⟨_, rfl⟩
  have HM := Lib.hid hM
  have HL0 : Hid (0 < (brM pS S x y).length) := by show 0 < _; rw [brM_len]; exact hb0
  have HL1 : Hid ((brM pS S x y).length ≤ 1048576) := by show _ ≤ _; rw [brM_len]; omega
  have HR : Hid ((M != 0) = !decide (prodM pS S x y = prodM pS S y x)) := by
    show _ = _
    rw [← br_zero hs, ← mx_zero HL0.out (br_nn hs x y), hM]
    rfl
  clear hS hx hy hs mx my hM
  go_enter Tryz.func53, Tryz.ntmps53
  go_wp2_with (first | (go_at_call 55; ((with_reducible refine (bracket_any pS aS S cS loS tpS ax x cx lox tpx ae y ce loe tpe W HI.out HS.out tS Hx.out tx HMX.out Hy.out te HMY.out).mono ?_); rintro e w2 ⟨r2, c2, rfl, o_, b_⟩; have HO2 := Lib.hid o_.row; have HB2 := Lib.hid b_; clear o_ b_)) | (go_at_call 54; ((with_reducible refine (max_any r2 (brM pS S x y) c2 W.heap.size w2.heap.size w2 HO2.out HL0.out HL1.out).mono ?_); rintro e w3 ⟨rfl, rfl⟩; rw [← HM.out])))
  go_ret
  exact ⟨by rw [← HR.out]; rfl, HB2.out⟩

set_option maxRecDepth 100000 in
set_option maxHeartbeats 3200000 in
theorem indexOther (pS : Int) (aS : Option Addr) (S : List Int) (cS loS tpS : Nat) (ax : Option Addr) (x : List Int) (cx lox tpx kb xb : Nat) (r : Option Addr) (c : Nat) (W : World) (hs : isSp pS S = true) (hS : RowIn loS tpS W aS S) (tS : tpS ≤ W.heap.size) (hx : RowIn lox tpx W ax x) (tx : tpx ≤ W.heap.size) (mx : isMv pS S x = true) (lor tpr : Nat) (hr : MatIn lor tpr W r (bvM S)) (tr : tpr ≤ W.heap.size) (lk : kb < W.heap.size) (lx : xb < W.heap.size) (hk : W.cell? ⟨kb, 0, none⟩ = some (.int .i64 pS) ∧ W.cell? ⟨kb, 1, none⟩ = some (.slice aS S.length cS)) (hxb : W.cell? ⟨xb, 0, none⟩ = some (.slice ax x.length cx)) :
    Calls Tryz.prog 86 #[.slice r S.length c, (.func (.func 53) #[] #[.pointer (some ⟨kb, 0, none⟩), .pointer (some ⟨xb, 0, none⟩)])] W (fun e w' => ∃ k, e = .returned (.int .i64 k) ∧ (cenB pS S x = true → k = -1) ∧ (cenB pS S x = false → 0 ≤ k) ∧ Below W.heap.size W w') := by
  have HS := Lib.hid hS
  have Hx := Lib.hid hx
  have Hr := Lib.hid hr
  have HI := Lib.hid hs
  have HMX := Lib.hid mx
  have HK := Lib.hid hk
  have HXB := Lib.hid hxb
  have h6 := (isSp_iff.1 hs).hi
  clear hS hx hr hs mx hk hxb
  go_enter Tryz.func86, Tryz.ntmps86
  go_wp2
  go_loopw [8] (fun t wr => ∃ i : Nat, i ≤ S.length ∧ t = .int .i64 i ∧ (∀ j, j < i → comB pS S x j = true) ∧ Below W.heap.size W wr) (fun t _ => S.length - (intOf t).toNat)
  case atStart => exact ⟨0, Nat.zero_le _, rfl, fun j hj => absurd hj (Nat.not_lt_zero j), Below.refl _ _⟩
  case round =>
    obtain ⟨i, hi, rfl, hall, hbel⟩ := hrel
    have HA := Lib.hid hall
    have HB := Lib.hid hbel
    have hwz := hbel.size
    by_cases hlt : i < S.length
    · have hi1 : (i : Int) < (S.length : Int) := Int.ofNat_lt.2 hlt
      obtain ⟨b9, o9, rv, cv, ha9, _, hb9, hr9, hrow⟩ := (Hr.out.below hbel tr).row (show i < (bvM S).length by rw [bv_len]; exact hlt)
      rw [bv_row hlt] at hr9 hrow
      subst ha9
      have HRW := Lib.hid hrow
      have HKr := Lib.hid (And.intro ((hbel.cell (p := ⟨kb, 0, none⟩) lk).trans HK.out.1) ((hbel.cell (p := ⟨kb, 1, none⟩) lk).trans HK.out.2))
      have HXr := Lib.hid ((hbel.cell (p := ⟨xb, 0, none⟩) lx).trans HXB.out)
      have hbm := blade_mv (p := pS) HI.out (2 ^ i)
      have HBM := Lib.hid hbm
      rw [blade_len] at hr9
      clear hall hbel hrow hbm
      cases hc : comB pS S x i with
      | true =>
        have HC : Hid ((!decide (prodM pS S x (bladeM S (2 ^ i)) = prodM pS S (bladeM S (2 ^ i)) x)) = false) := by show _ = _; rw [show decide (prodM pS S x (bladeM S (2 ^ i)) = prodM pS S (bladeM S (2 ^ i)) x) = true from hc]; rfl
        have HCC := Lib.hid hc
        clear hc
        go_wp2_with (go_at_call 53; ((with_reducible refine (isOther_any pS aS S cS loS tpS ax x cx lox tpx kb xb rv (bladeM S (2 ^ i)) (bl S) cv lor tpr wr (blade_len _ _) HI.out (HS.out.below HB.out tS) (Nat.le_trans tS hwz) (Hx.out.below HB.out tx) (Nat.le_trans tx hwz) HMX.out HRW.out (Nat.le_trans tr hwz) HBM.out HKr.out HXr.out).mono ?_); rintro e w2 ⟨rfl, b_⟩; rw [HC.out]; have HB2 := Lib.hid (below_step HB.out hwz b_); clear b_))
        go_roundw
        case rel => exact ⟨i + 1, by omega, by go_num, fun j hj => by
          by_cases e : j = i
          · subst e; exact HCC.out
          · exact HA.out j (by omega), HB2.out⟩
        case measure => simp [intOf]; omega
      | false =>
        have HC : Hid ((!decide (prodM pS S x (bladeM S (2 ^ i)) = prodM pS S (bladeM S (2 ^ i)) x)) = true) := by show _ = _; rw [show decide (prodM pS S x (bladeM S (2 ^ i)) = prodM pS S (bladeM S (2 ^ i)) x) = false from hc]; rfl
        have HN := Lib.hid (cen_no hlt hc)
        clear hc
        go_wp2_with (go_at_call 53; ((with_reducible refine (isOther_any pS aS S cS loS tpS ax x cx lox tpx kb xb rv (bladeM S (2 ^ i)) (bl S) cv lor tpr wr (blade_len _ _) HI.out (HS.out.below HB.out tS) (Nat.le_trans tS hwz) (Hx.out.below HB.out tx) (Nat.le_trans tx hwz) HMX.out HRW.out (Nat.le_trans tr hwz) HBM.out HKr.out HXr.out).mono ?_); rintro e w2 ⟨rfl, b_⟩; rw [HC.out]; have HB2 := Lib.hid (below_step HB.out hwz b_); clear b_))
        go_ret
        exact ⟨i, rfl, fun h => (by rw [HN.out] at h; cases h), fun _ => by omega, HB2.out⟩
    · have hin : i = S.length := by omega
      subst hin
      have HY := Lib.hid (cen_yes HA.out)
      clear hall hbel
      go_wp2
      go_ret
      exact ⟨-1, rfl, fun _ => rfl, fun h => (by rw [HY.out] at h; cases h), HB.out⟩
theorem containsOther (pS : Int) (aS : Option Addr) (S : List Int) (cS loS tpS : Nat) (ax : Option Addr) (x : List Int) (cx lox tpx kb xb : Nat) (r : Option Addr) (n c : Nat) (W : World) (hn : S.length = n) (hs : isSp pS S = true) (hS : RowIn loS tpS W aS S) (tS : tpS ≤ W.heap.size) (hx : RowIn lox tpx W ax x) (tx : tpx ≤ W.heap.size) (mx : isMv pS S x = true) (lor tpr : Nat) (hr : MatIn lor tpr W r (bvM S)) (tr : tpr ≤ W.heap.size) (lk : kb < W.heap.size) (lx : xb < W.heap.size) (hk : W.cell? ⟨kb, 0, none⟩ = some (.int .i64 pS) ∧ W.cell? ⟨kb, 1, none⟩ = some (.slice aS S.length cS)) (hxb : W.cell? ⟨xb, 0, none⟩ = some (.slice ax x.length cx)) :
    Calls Tryz.prog 56 #[.slice r n c, (.func (.func 53) #[] #[.pointer (some ⟨kb, 0, none⟩), .pointer (some ⟨xb, 0, none⟩)])] W (fun e w' => e = .returned (.bool (!cenB pS S x)) ∧ Below W.heap.size W w') := by
  subst hn
  have HQ := Lib.hid (indexOther pS aS S cS loS tpS ax x cx lox tpx kb xb r c W hs hS tS hx tx mx lor tpr hr tr lk lx hk hxb)
  clear hS hx hr hs mx hk hxb
  cases hc : cenB pS S x with
  | true =>
    go_enter Tryz.func56, Tryz.ntmps56
    go_wp2_with (go_at_call 86; (with_reducible refine HQ.out.mono ?_); rintro e w2 ⟨k, rfl, h1, h2, b_⟩; have e0 := h1 hc; subst e0; have HB2 := Lib.hid b_; clear h1 h2 b_)
    go_ret
    exact ⟨rfl, HB2.out⟩
  | false =>
    go_enter Tryz.func56, Tryz.ntmps56
    go_wp2_with (go_at_call 86; (with_reducible refine HQ.out.mono ?_); rintro e w2 ⟨k, rfl, h1, h2, b_⟩; have e0 := h2 hc; have HB2 := Lib.hid b_; clear h1 h2 b_)
    go_ret
    exact ⟨rfl, HB2.out⟩

set_option maxRecDepth 100000 in
set_option maxHeartbeats 3200000 in
theorem isCentral_any (pS : Int) (aS : Option Addr) (S : List Int) (cS loS tpS : Nat) (ax : Option Addr) (x : List Int) (cx lox tpx : Nat) (w : World) (hs : isSp pS S = true) (hS : RowIn loS tpS w aS S) (tS : tpS ≤ w.heap.size) (hx : RowIn lox tpx w ax x) (tx : tpx ≤ w.heap.size) (mx : isMv pS S x = true) :
    Calls Tryz.prog 29 #[.agg #[.int .i64 pS, .slice aS S.length cS], .slice ax x.length cx] w (fun e w' => e = .returned (.bool (cenB pS S x)) ∧ Below w.heap.size w w') := by
  have HS := Lib.hid hS
  have Hx := Lib.hid hx
  have HI := Lib.hid hs
  have HMX := Lib.hid mx
  have h6 := (isSp_iff.1 hs).hi
  have k0 := nw0 w (.int .i64 pS) (.slice aS S.length cS) 26
  have k1 := nw1 w (.int .i64 pS) (.slice aS S.length cS) 26
  have HB0 := Lib.hid (below_alloc w (.cells #[.int .i64 pS, .slice aS S.length cS] 26))
  clear hS hx hs mx
  go_enter Tryz.func29, Tryz.ntmps29
  go_upto_region 1 with fail
  obtain ⟨w0, hw0'⟩ : ∃ z, z = w.alloc (.cells #[.int .i64 pS, .slice aS S.length cS] 26) := ⟨_, rfl⟩
  rw [← hw0'] at HB0 k0 k1 ⊢
  have hw0 : w.heap.size < w0.heap.size := by rw [hw0']; simp
  have hwz : w.heap.size + 1 = w0.heap.size := by rw [hw0']; simp
  try rw [hwz]
  clear hw0'
  obtain ⟨w1, hw1⟩ : ∃ z, z = w0.alloc (.cells #[.slice ax x.length cx] 24) := ⟨_, rfl⟩
  obtain ⟨g, hg⟩ : ∃ b, b = w0.heap.size := ⟨_, rfl⟩
  have SS1 : Hid (w1.cell? ⟨w.heap.size, 0, none⟩ = some (.int .i64 pS) ∧ w1.cell? ⟨w.heap.size, 1, none⟩ = some (.slice aS S.length cS)) := by show _ ∧ _; rw [hw1]; exact ss2 (below_alloc w0 _) hw0 ⟨k0, k1⟩
  have GG1 : Hid (w1.cell? ⟨g, 0, none⟩ = some (.slice ax x.length cx)) := by show _ = _; rw [hw1, hg]; simp [go_sem]
  have HB1 : Hid (Below w.heap.size w w1) := by show Below _ _ _; rw [hw1]; exact HB0.out.alloc HB0.out.size _
  have hg1 : g < w1.heap.size := by rw [hw1, hg]; simp
  have hd1 : w.heap.size < w1.heap.size := by rw [hw1]; exact Nat.lt_of_lt_of_le hw0 (size_alloc w0 _)
  rw [← hw1, ← hg]
  clear hw1 hg hwz k0 k1
  obtain ⟨k0, k1⟩ := SS1.out
  go_wp2_with (first | (go_at_call 41; ((with_reducible refine (basisVectors_any pS aS S cS w1 h6).mono ?_); rintro e w2 ⟨r2, c2, rfl, o_, b_⟩; rw [bv_len]; have HM2 := Lib.hid o_; have SS2 := Lib.hid (ss2 b_ hd1 SS1.out); have GG2 := Lib.hid ((b_.cell (p := ⟨g, 0, none⟩) hg1).trans GG1.out); have HB2 := Lib.hid (below_step HB1.out HB1.out.size b_); have hg2 := Nat.lt_of_lt_of_le hg1 b_.size; have hd2 := Nat.lt_of_lt_of_le hd1 b_.size; clear b_ o_ k0 k1)) | (go_at_call 56; ((with_reducible refine (containsOther pS aS S cS loS tpS ax x cx lox tpx w.heap.size g r2 S.length c2 w2 rfl HI.out (HS.out.below HB2.out tS) (Nat.le_trans tS HB2.out.size) (Hx.out.below HB2.out tx) (Nat.le_trans tx HB2.out.size) HMX.out w1.heap.size w2.heap.size HM2.out (Nat.le_refl _) hd2 hg2 SS2.out GG2.out).mono ?_); rintro e w3 ⟨rfl, b_⟩; have HB3 := Lib.hid (below_step HB2.out HB2.out.size b_); clear b_)))
  go_ret
  exact ⟨by first | rfl | simp, HB3.out⟩

set_option maxRecDepth 100000 in
set_option maxHeartbeats 3200000 in
theorem impl_IsCentral (pS : Int) (aS : Option Addr) (S : List Int) (cS loS tpS : Nat) (ax : Option Addr) (x : List Int) (cx lox tpx : Nat) (w : World) (hS : RowIn loS tpS w aS S) (tS : tpS ≤ w.heap.size) (sS : S.length ≤ 1048576) (hx : RowIn lox tpx w ax x) (tx : tpx ≤ w.heap.size) (sx : x.length ≤ 1048576) :
    Calls Tryz.prog 12 #[.agg #[.int .i64 pS, .slice aS S.length cS], .slice ax x.length cx] w (RetB (cenV pS S x) (stC pS S [x]) w) := by
  have HS := Lib.hid hS
  have Hx := Lib.hid hx
  have k0 := nw0 w (.int .i64 pS) (.slice aS S.length cS) 26
  have k1 := nw1 w (.int .i64 pS) (.slice aS S.length cS) 26
  have HB0 := Lib.hid (below_alloc w (.cells #[.int .i64 pS, .slice aS S.length cS] 26))
  clear hS hx
  by_cases h0 : stC pS S [x] = 0
  · have HC0 := Lib.hid h0
    have hz := stC_one h0
    have HI := Lib.hid hz.1
    have HMX := Lib.hid hz.2.1
    have H4 := Lib.hid hz.2.2
    have HV : Hid (cenV pS S x = cenB pS S x) := if_pos h0
    clear h0 hz
    go_enter Tryz.func12, Tryz.ntmps12
    go_upto_region 1 with fail
    obtain ⟨w1, hw1⟩ : ∃ z, z = w.alloc (.cells #[.int .i64 pS, .slice aS S.length cS] 26) := ⟨_, rfl⟩
    rw [← hw1] at HB0 k0 k1 ⊢
    have hd1 : w.heap.size < w1.heap.size := by rw [hw1]; simp
    have HB1 := HB0
    clear hw1
    have SS1 := Lib.hid (And.intro k0 k1)
    go_wp2_with (first | (go_at_call 20; ((with_reducible refine (checkS1 pS aS S cS loS tpS ax x cx lox tpx _ _ w1 _ rfl (HS.out.below HB1.out tS) (Nat.le_trans tS HB1.out.size) sS (Hx.out.below HB1.out tx) (Nat.le_trans tx HB1.out.size) sx).mono ?_); rintro e w2 ⟨rfl, b_⟩; rw [HC0.out]; have b2_ := below_step (below_alloc w1 (.cells #[.slice ax x.length cx] 24)) (size_alloc w1 (.cells #[.slice ax x.length cx] 24)) b_; have SS2 := Lib.hid (ss2 b2_ hd1 SS1.out); have HB2 := Lib.hid (below_step HB1.out HB1.out.size b2_); have hd2 := Nat.lt_of_lt_of_le hd1 b2_.size; clear k0 k1; obtain ⟨k0, k1⟩ := SS2.out; clear b_ b2_)) | (go_at_call 29; ((with_reducible refine (isCentral_any pS aS S cS loS tpS ax x cx lox tpx w2 HI.out (HS.out.below HB2.out tS) (Nat.le_trans tS HB2.out.size) (Hx.out.below HB2.out tx) (Nat.le_trans tx HB2.out.size) HMX.out).mono ?_); rintro e w3 ⟨rfl, b_⟩; have SS3 := Lib.hid (ss2 b_ hd2 SS2.out); have HB3 := Lib.hid (below_step HB2.out HB2.out.size b_); have hd3 := Nat.lt_of_lt_of_le hd2 b_.size; clear k0 k1; obtain ⟨k0, k1⟩ := SS3.out; clear b_)))
    go_ret2
    exact ⟨by rw [HV.out, HC0.out]; rfl, HB3.out⟩
  · have HV : Hid (cenV pS S x = false) := if_neg h0
    obtain ⟨C, hC⟩ : ∃ c, c = stC pS S [x] := ⟨_, rfl⟩
    have hc1 : (C != 0) = true := by rw [hC]; simpa using h0
    have hc2 : (C == 0) = false := by rw [hC]; simpa using h0
    have HCE := Lib.hid hC
    clear hC
    clear h0
    go_enter Tryz.func12, Tryz.ntmps12
    go_upto_region 1 with fail
    obtain ⟨w1, hw1⟩ : ∃ z, z = w.alloc (.cells #[.int .i64 pS, .slice aS S.length cS] 26) := ⟨_, rfl⟩
    rw [← hw1] at HB0 k0 k1 ⊢
    have hd1 : w.heap.size < w1.heap.size := by rw [hw1]; simp
    have HB1 := HB0
    clear hw1
    have SS1 := Lib.hid (And.intro k0 k1)
    go_wp2_with (go_at_call 20; ((with_reducible refine (checkS1 pS aS S cS loS tpS ax x cx lox tpx _ _ w1 _ rfl (HS.out.below HB1.out tS) (Nat.le_trans tS HB1.out.size) sS (Hx.out.below HB1.out tx) (Nat.le_trans tx HB1.out.size) sx).mono ?_); rintro e w2 ⟨rfl, b_⟩; rw [← HCE.out]; have b2_ := below_step (below_alloc w1 (.cells #[.slice ax x.length cx] 24)) (size_alloc w1 (.cells #[.slice ax x.length cx] 24)) b_; have SS2 := Lib.hid (ss2 b2_ hd1 SS1.out); have HB2 := Lib.hid (below_step HB1.out HB1.out.size b2_); have hd2 := Nat.lt_of_lt_of_le hd1 b2_.size; clear k0 k1; obtain ⟨k0, k1⟩ := SS2.out; clear b_ b2_))
    go_ret2
    rw [HV.out, ← HCE.out]
    exact ⟨rfl, HB2.out⟩

theorem bracket_bl (pS : Int) (aS : Option Addr) (S : List Int) (cS loS tpS : Nat) (ax : Option Addr) (x : List Int) (cx lox tpx b i lo : Nat) (w : World) (hs : isSp pS S = true) (hS : RowIn loS tpS w aS S) (tS : tpS ≤ w.heap.size) (hx : RowIn lox tpx w ax x) (tx : tpx ≤ w.heap.size) (mx : isMv pS S x = true) (hb : RowIn lo w.heap.size w (some ⟨b, 0, none⟩) (bladeM S (2 ^ i))) (mb : isMv pS S (bladeM S (2 ^ i)) = true) :
    Calls Tryz.prog 39 #[.agg #[.int .i64 pS, .slice aS S.length cS], .slice (some ⟨b, 0, none⟩) (bl S) (bl S), .slice ax x.length cx] w (fun e w' => ∃ r c, e = .returned (.slice r (brM pS S (bladeM S (2 ^ i)) x).length c) ∧ RowIn w.heap.size w'.heap.size w' r (brM pS S (bladeM S (2 ^ i)) x) ∧ Below w.heap.size w w') := by
  have h := l04Bracket_any pS aS S cS loS tpS (some ⟨b, 0, none⟩) (bladeM S (2 ^ i)) (bl S) lo w.heap.size ax x cx lox tpx w hs hS tS hb (Nat.le_refl _) mb hx tx mx
  rw [blade_len] at h
  exact h.mono fun _ _ ⟨r, c, e, o, b⟩ => ⟨r, c, e, o.row, b⟩

set_option maxRecDepth 100000 in
set_option maxHeartbeats 3200000 in
theorem spec_IsCentral (pS : Int) (aS : Option Addr) (S : List Int) (cS loS tpS : Nat) (ax : Option Addr) (x : List Int) (cx lox tpx : Nat) (w : World) (hS : RowIn loS tpS w aS S) (tS : tpS ≤ w.heap.size) (sS : S.length ≤ 1048576) (hx : RowIn lox tpx w ax x) (tx : tpx ≤ w.heap.size) (sx : x.length ≤ 1048576) :
    Calls Tryz.prog 18 #[.agg #[.int .i64 pS, .slice aS S.length cS], .slice ax x.length cx] w (RetB (cenV pS S x) (stC pS S [x]) w) := by
  have HS := Lib.hid hS
  have Hx := Lib.hid hx
  have k0 := nw0 w (.int .i64 pS) (.slice aS S.length cS) 26
  have k1 := nw1 w (.int .i64 pS) (.slice aS S.length cS) 26
  have HB0 := Lib.hid (below_alloc w (.cells #[.int .i64 pS, .slice aS S.length cS] 26))
  clear hS hx
  by_cases h0 : stC pS S [x] = 0
  · have HC0 := Lib.hid h0
    have hz := stC_one h0
    have HI := Lib.hid hz.1
    have HMX := Lib.hid hz.2.1
    have H4 := Lib.hid hz.2.2
    have HV : Hid (cenV pS S x = cenB pS S x) := if_pos h0
    clear h0 hz
    have h6 := (isSp_iff.1 HI.out).hi
    have hbl := bl_le h6
    go_enter Tryz.func18, Tryz.ntmps18
    go_upto_region 1 with fail
    obtain ⟨w1, hw1⟩ : ∃ z, z = w.alloc (.cells #[.int .i64 pS, .slice aS S.length cS] 26) := ⟨_, rfl⟩
    rw [← hw1] at HB0 k0 k1 ⊢
    have hd1 : w.heap.size < w1.heap.size := by rw [hw1]; simp
    have HB1 := HB0
    clear hw1
    have SS1 := Lib.hid (And.intro k0 k1)
    go_wp2_with (go_at_call 22; ((with_reducible refine (codeS1 pS aS S cS loS tpS ax x cx lox tpx _ _ w1 _ rfl (HS.out.below HB1.out tS) (Nat.le_trans tS HB1.out.size) sS (Hx.out.below HB1.out tx) (Nat.le_trans tx HB1.out.size) sx).mono ?_); rintro e w2 ⟨rfl, b_⟩; rw [HC0.out]; have b2_ := below_step (below_alloc w1 (.cells #[.slice ax x.length cx] 24)) (size_alloc w1 (.cells #[.slice ax x.length cx] 24)) b_; have SS2 := Lib.hid (ss2 b2_ hd1 SS1.out); have HB2 := Lib.hid (below_step HB1.out HB1.out.size b2_); have hd2 := Nat.lt_of_lt_of_le hd1 b2_.size; clear k0 k1; obtain ⟨k0, k1⟩ := SS2.out; clear b_ b2_))
    go_loopw [7, 8] (fun t v wr => ∃ i : Nat, i ≤ S.length ∧ t = .int .i64 i ∧ (∀ j, j < i → comB pS S x j = true) ∧ Below w2.heap.size w2 wr) (fun t _ _ => S.length - (intOf t).toNat)
    case atStart => exact ⟨0, Nat.zero_le _, rfl, fun j hj => absurd hj (Nat.not_lt_zero j), Below.refl _ _⟩
    case round =>
      obtain ⟨i, hi, rfl, hall, hbel⟩ := hrel
      have HA := Lib.hid hall
      have HB := Lib.hid hbel
      have hwz := hbel.size
      clear k0 k1
      have k0 := (hbel.cell (p := ⟨w.heap.size, 0, none⟩) hd2).trans SS2.out.1
      have k1 := (hbel.cell (p := ⟨w.heap.size, 1, none⟩) hd2).trans SS2.out.2
      have SSr := Lib.hid (And.intro k0 k1)
      have hlw : w.heap.size < wr.heap.size := Nat.lt_of_lt_of_le hd2 hwz
      clear hall hbel
      by_cases hlt : i < S.length
      · have hi1 : (i : Int) < (S.length : Int) := Int.ofNat_lt.2 hlt
        obtain ⟨q, hq⟩ : ∃ q, q = 2 ^ i := ⟨_, rfl⟩
        have HQ := Lib.hid hq
        have hqn : q < bl S := by rw [hq]; unfold bl; exact pow_lt hlt
        have hq1 : (q : Int) < (bl S : Int) := Int.ofNat_lt.2 hqn
        have e1 : wrap64 ((2 : Int) ^ i) = (q : Int) := by rw [hq]; exact wrap_pow (by omega)
        have e2 : IntKind.i64.wrap ((2 : Int) ^ i) = (q : Int) := by rw [hq]; exact kwrap_pow9 (by omega)
        clear hq
        go_upto_region 9 with (first | (go_at_call 23; ((with_reducible refine (l04Zero_any pS aS S cS wr h6).mono ?_); rintro e w4 ⟨b4, rfl, l4, u4, o4, q4⟩; have O4 := Lib.hid o4; have B4 := Lib.hid q4; have z4 := q4.size; have c4 := o4.cell q hqn; have f4 := o4.free q hqn; rw [Nat.zero_add] at c4 f4; have SS4 := Lib.hid (ss2 q4 hlw SSr.out); clear o4 q4 k0 k1; obtain ⟨k0, k1⟩ := SS4.out)))
        clear e1 e2
        obtain ⟨w5, hw5⟩ : ∃ z, z = w4.setCell ⟨b4, q, none⟩ (.int .i64 1) := ⟨_, rfl⟩
        have HR5 : Hid (RowOwn w5 b4 0 (bl S) (fun j => if j = q then 1 else 0)) := by show RowOwn _ _ _ _ _; rw [hw5]; exact row_put0 O4.out hqn (fun j _ => rfl)
        have HQ5 : Hid (Below wr.heap.size wr w5) := by show Below _ _ _; rw [hw5]; exact B4.out.trans ((wrote_put0 (Wrote.refl b4 0 (bl S) w4) hqn _).belowB (by omega))
        have u5 : b4 < w5.heap.size := by rw [hw5]; simp [World.setCell]; exact u4
        rw [← hw5]
        clear hw5 c4 f4 k0 k1
        have HW5 : Hid (Below w.heap.size w w5) := (HB2.out.trans (HB.out.mono HB2.out.size)).trans (HQ5.out.mono (by omega))
        have HB5 : Hid (Below w2.heap.size w2 w5) := HB.out.trans (HQ5.out.mono hwz)
        have z5 := HW5.out.size
        have k0 := (HQ5.out.cell (p := ⟨w.heap.size, 0, none⟩) hlw).trans SSr.out.1
        have k1 := (HQ5.out.cell (p := ⟨w.heap.size, 1, none⟩) hlw).trans SSr.out.2
        have HRR : Hid (RowIn w.heap.size w5.heap.size w5 (some ⟨b4, 0, none⟩) (bladeM S (2 ^ i))) := by show RowIn _ _ _ _ _; rw [← HQ.out]; exact (HR5.out.own (Nat.le_trans (Nat.le_of_lt hlw) l4) u5).row
        have HMB := Lib.hid (blade_mv (p := pS) HI.out (2 ^ i))
        have HBL2 : Hid ((brM pS S (bladeM S (2 ^ i)) x).length ≤ 1048576) := by show _ ≤ _; rw [brM_len]; omega
        have HZE : Hid (allZ (brM pS S (bladeM S (2 ^ i)) x) = comB pS S x i) := by
          show _ = _
          rw [br_zero HI.out]
          unfold comB
          apply bool_ext9
          rw [decide_eq_true_eq, decide_eq_true_eq]
          exact ⟨fun h => h.symm, fun h => h.symm⟩
        cases hc : comB pS S x i with
        | true =>
          have HCC := Lib.hid hc
          have HZ1 : Hid (allZ (brM pS S (bladeM S (2 ^ i)) x) = true) := HZE.out.trans hc
          clear hc
          go_wp2_with (first | (go_at_call 39; ((with_reducible refine (bracket_bl pS aS S cS loS tpS ax x cx lox tpx b4 i w.heap.size w5 HI.out (HS.out.below HW5.out tS) (Nat.le_trans tS z5) (Hx.out.below HW5.out tx) (Nat.le_trans tx z5) HMX.out HRR.out HMB.out).mono ?_); rintro e w6 ⟨r6, c6, rfl, o_, b_⟩; have HO6 := Lib.hid o_; have HB6 := Lib.hid (HB5.out.trans (b_.mono HB5.out.size)); clear o_ b_ k0 k1)) | (go_at_call 38; ((with_reducible refine (l02First_sgn r6 (brM pS S (bladeM S (2 ^ i)) x) _ c6 w5.heap.size w6.heap.size w6 HO6.out rfl HBL2.out).mono ?_); rintro e w7 ⟨rk, rfl, f1, f2, rfl⟩; have e0 := f2 HZ1.out; subst e0; clear f1 f2)))
          go_roundw
          case rel => exact ⟨i + 1, by omega, by go_num, fun j hj => by
            by_cases e : j = i
            · subst e; exact HCC.out
            · exact HA.out j (by omega), HB6.out⟩
          case measure => simp [intOf]; omega
        | false =>
          have HN := Lib.hid (cen_no hlt hc)
          have HZ1 : Hid (allZ (brM pS S (bladeM S (2 ^ i)) x) = false) := HZE.out.trans hc
          clear hc
          go_wp2_with (first | (go_at_call 39; ((with_reducible refine (bracket_bl pS aS S cS loS tpS ax x cx lox tpx b4 i w.heap.size w5 HI.out (HS.out.below HW5.out tS) (Nat.le_trans tS z5) (Hx.out.below HW5.out tx) (Nat.le_trans tx z5) HMX.out HRR.out HMB.out).mono ?_); rintro e w6 ⟨r6, c6, rfl, o_, b_⟩; have HO6 := Lib.hid o_; have HB6 := Lib.hid (HB5.out.trans (b_.mono HB5.out.size)); clear o_ b_ k0 k1)) | (go_at_call 38; ((with_reducible refine (l02First_sgn r6 (brM pS S (bladeM S (2 ^ i)) x) _ c6 w5.heap.size w6.heap.size w6 HO6.out rfl HBL2.out).mono ?_); rintro e w7 ⟨rk, rfl, f1, f2, rfl⟩; have e0 := f1 HZ1.out; clear f1 f2)))
          go_ret2
          exact ⟨by rw [HV.out, HN.out, HC0.out]; rfl, HB2.out.trans (HB6.out.mono HB2.out.size)⟩
      · have hin : i = S.length := by omega
        subst hin
        have HY := Lib.hid (cen_yes HA.out)
        go_wp2
        go_ret2
        exact ⟨by rw [HV.out, HY.out, HC0.out]; rfl, HB2.out.trans (HB.out.mono HB2.out.size)⟩
  · have HV : Hid (cenV pS S x = false) := if_neg h0
    obtain ⟨C, hC⟩ : ∃ c, c = stC pS S [x] := ⟨_, rfl⟩
    have hc1 : (C != 0) = true := by rw [hC]; simpa using h0
    have hc2 : (C == 0) = false := by rw [hC]; simpa using h0
    have HCE := Lib.hid hC
    clear hC
    clear h0
    go_enter Tryz.func18, Tryz.ntmps18
    go_upto_region 1 with fail
    obtain ⟨w1, hw1⟩ : ∃ z, z = w.alloc (.cells #[.int .i64 pS, .slice aS S.length cS] 26) := ⟨_, rfl⟩
    rw [← hw1] at HB0 k0 k1 ⊢
    have hd1 : w.heap.size < w1.heap.size := by rw [hw1]; simp
    have HB1 := HB0
    clear hw1
    have SS1 := Lib.hid (And.intro k0 k1)
    go_wp2_with (go_at_call 22; ((with_reducible refine (codeS1 pS aS S cS loS tpS ax x cx lox tpx _ _ w1 _ rfl (HS.out.below HB1.out tS) (Nat.le_trans tS HB1.out.size) sS (Hx.out.below HB1.out tx) (Nat.le_trans tx HB1.out.size) sx).mono ?_); rintro e w2 ⟨rfl, b_⟩; rw [← HCE.out]; have b2_ := below_step (below_alloc w1 (.cells #[.slice ax x.length cx] 24)) (size_alloc w1 (.cells #[.slice ax x.length cx] 24)) b_; have SS2 := Lib.hid (ss2 b2_ hd1 SS1.out); have HB2 := Lib.hid (below_step HB1.out HB1.out.size b2_); have hd2 := Nat.lt_of_lt_of_le hd1 b2_.size; clear k0 k1; obtain ⟨k0, k1⟩ := SS2.out; clear b_ b2_))
    go_ret2
    rw [HV.out, ← HCE.out]
    exact ⟨rfl, HB2.out⟩

end Go.Proofs.YtijklpcelbnnjaaGreat
