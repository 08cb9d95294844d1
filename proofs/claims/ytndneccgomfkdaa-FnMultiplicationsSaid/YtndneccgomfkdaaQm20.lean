/-
  The matrix of the products with a multivector, in the program and in the model: contracts.
  Conditions: a space of at most 4 squares and a multivector of it: rows of known cells.
  The program's matrix of the products with a multivector: contract.
  Conditions: a space and a multivector of it: rows of known cells.
  Products of a kind: wedge product, left and right contraction: sums. No Go in sight.
  No conditions.
  The program's products of a kind: sums; the table of the kinds: contracts.
  No conditions but masks below 64.
-/
import Derived.Test.YtndneccgomfkdaaQm19
import Derived.Deep.RegionHeld3
import Derived.Deep.DeepCutAuto
import Derived.Test.YtndneccgomfkdaaQm15
import Derived.Test.YtndneccgomfkdaaQm14
import Derived.Laws.EntriesVeiled
namespace Go.Proofs.Ytndneccgomfkdaa
open Go.RowKit
set_option linter.unusedVariables false

/-- The products with the blades, as rows. -/
def colsM (p : Int) (S x : List Int) : List (List Int) := mk (bl S) (bl S) fun j c => prodF p S x (bladeM S j) c
theorem cols_tr (p : Int) (S x : List Int) : trM (colsM p S x) = leftM p S x := by
  unfold trM leftM
  have h0 : (rw' (colsM p S x) 0).length = bl S := mk_rowLen _ (bl_pos S)
  rw [h0, show (colsM p S x).length = bl S from mk_len _ _ _]
  exact mk_congr fun i hi j hj => mk_at _ hj hi
theorem cols_row {p : Int} {S x : List Int} {i : Nat} (h : i < bl S) : rw' (colsM p S x) i = prodM p S x (bladeM S i) := mk_row _ h
theorem blade_len (S : List Int) (k : Nat) : (bladeM S k).length = bl S := mkR_len _ _
theorem blade_mv {p : Int} {S : List Int} (hs : isSp p S = true) (k : Nat) : isMv p S (bladeM S k) = true :=
  isMv_of (mkR_len _ _) (fun j hj => by
    have hp := prm_bd (isSp_iff.1 hs).prime
    unfold bladeM at hj ⊢
    rw [mkR_len] at hj
    rw [mkR_at _ hj]
    split <;> omega)
def NewRowTB (p : Int) (S x : List Int) (i : Nat) (w : World) (e : Ending) (w' : World) : Prop :=
  ∃ b, e = .returned (.slice (some ⟨b, 0, none⟩) (bl S) (bl S)) ∧ TagR w.heap.size w'.heap.size w' (some ⟨b, 0, none⟩) (prodM p S x (bladeM S i)) ∧ Below w.heap.size w w'
theorem times_blade (p : Int) (aS : Option Addr) (S : List Int) (cS loS tpS : Nat) (ax : Option Addr) (x : List Int) (cx lox tpx b i : Nat) (w : World) (hs : isSp p S = true) (hS : RowIn loS tpS w aS S) (tS : tpS ≤ w.heap.size) (hx : RowIn lox tpx w ax x) (tx : tpx ≤ w.heap.size) (mx : isMv p S x = true) (hb : RowOwn w b 0 (bl S) (fun j => if j = i then 1 else 0)) (ub : b < w.heap.size) :
    Calls Try.prog 41 #[.agg #[.int .i64 p, .slice aS S.length cS], .slice ax x.length cx, .slice (some ⟨b, 0, none⟩) (bl S) (bl S)] w (NewRowTB p S x i w) := by
  have h := l04Times_tag p aS S cS loS tpS ax x cx lox tpx (some ⟨b, 0, none⟩) (bladeM S i) (bl S) 0 w.heap.size w (isSp_iff.1 hs).prime (isSp_iff.1 hs).hi hS tS (sp_nums hs) hx tx (Mv.len mx) (Mv.nums mx) (hb.own (Nat.zero_le _) ub).row (Nat.le_refl _) (blade_len S i) (Mv.nums (blade_mv hs i))
  rw [blade_len] at h
  refine h.mono ?_
  rintro e w' ⟨b', rfl, hl, hu, hr, hbl, cur, ht⟩
  refine ⟨b', rfl, .inr ⟨b', 0, cur, rfl, hl, hu, ht, fun j hj => ?_⟩, hbl⟩
  rw [prodM_len] at hj
  rw [prodM_at p S x _ hj]
  exact hr.cell j hj
theorem product_blade (p : Int) (aS : Option Addr) (S : List Int) (cS loS tpS : Nat) (ax : Option Addr) (x : List Int) (cx lox tpx b i : Nat) (w : World) (hs : isSp p S = true) (hS : RowIn loS tpS w aS S) (tS : tpS ≤ w.heap.size) (hx : RowIn lox tpx w ax x) (tx : tpx ≤ w.heap.size) (mx : isMv p S x = true) (hb : RowOwn w b 0 (bl S) (fun j => if j = i then 1 else 0)) (ub : b < w.heap.size) :
    Calls Try.prog 44 #[.agg #[.int .i64 p, .slice aS S.length cS], .slice ax x.length cx, .slice (some ⟨b, 0, none⟩) (bl S) (bl S)] w (OwnE (prodM p S x (bladeM S i)) w) := by
  have h := product_own p aS S cS loS tpS ax x cx lox tpx (some ⟨b, 0, none⟩) (bladeM S i) (bl S) 0 w.heap.size w hs hS tS hx tx mx (hb.own (Nat.zero_le _) ub).row (Nat.le_refl _) (blade_mv hs i)
  rw [blade_len] at h
  exact h

set_option maxRecDepth 100000 in
set_option maxHeartbeats 3200000 in
theorem l04Left_any (p : Int) (aS : Option Addr) (S : List Int) (cS loS tpS : Nat) (ax : Option Addr) (x : List Int) (cx lox tpx : Nat) (w : World) (hs : isSp p S = true) (hS : RowIn loS tpS w aS S) (tS : tpS ≤ w.heap.size) (hx : RowIn lox tpx w ax x) (tx : tpx ≤ w.heap.size) (mx : isMv p S x = true) :
    Calls Try.prog 22 #[.agg #[.int .i64 p, .slice aS S.length cS], .slice ax x.length cx] w (NewM (leftM p S x) w) := by
  obtain ⟨j0, kj, kz0, kz1, kz2⟩ := info_parts info_slice
  have HS := Lib.hid hS
  have HX := Lib.hid hx
  have HI := Lib.hid hs
  have HMX := Lib.hid mx
  have h6 := (isSp_iff.1 hs).hi
  have hbl := bl_le h6
  have hb0 := bl_pos S
  have HB0 := Lib.hid (below_alloc w (.cells #[.int .i64 p, .slice aS S.length cS] 26))
  have k0 := nw0 w (.int .i64 p) (.slice aS S.length cS) 26
  have k1 := nw1 w (.int .i64 p) (.slice aS S.length cS) 26
  clear hS hx hs mx
  go_enter Try.func22, Try.ntmps22
  go_upto_region 1 with fail
  obtain ⟨wB, hw1⟩ : ∃ z, z = w.alloc (.cells #[.int .i64 p, .slice aS S.length cS] 26) := ⟨_, rfl⟩
  rw [← hw1] at HB0 k0 k1 ⊢
  have hw0 : w.heap.size < wB.heap.size := by rw [hw1]; simp
  clear hw1
  have K0 := Lib.hid k0
  have K1 := Lib.hid k1
  clear k0 k1
  go_wp2
  go_loopw [5, 6, 7] (fun v t _ wr => ∃ i : Nat, i ≤ bl S ∧ t = .int .i64 i ∧ OutM wB.heap.size wr v (mk i (bl S) fun j c => prodF p S x (bladeM S j) c) ∧ Below wB.heap.size wB wr) (fun _ t _ _ => bl S - (intOf t).toNat)
  case atStart => exact ⟨0, Nat.zero_le _, rfl, OutM.start wB _ _ (Nat.le_refl _) rfl, below_alloc wB _⟩
  case round =>
    obtain ⟨i, hi, rfl, ho, hbel⟩ := hrel
    obtain ⟨V5, hV5⟩ : ∃ z, z = u5 := ⟨_, rfl⟩
    rw [← hV5] at ho ⊢
    clear hV5
    have HO := Lib.hid ho
    have HB := Lib.hid hbel
    have hwz := hbel.size
    have hk0 := (hbel.cell (p := ⟨w.heap.size, 0, none⟩) hw0).trans K0.out
    have hk1 := (hbel.cell (p := ⟨w.heap.size, 1, none⟩) hw0).trans K1.out
    have hlw : w.heap.size < wr.heap.size := by omega
    clear ho hbel
    by_cases hlt : i < bl S
    · have hi1 : (i : Int) < (bl S : Int) := Int.ofNat_lt.2 hlt
      obtain ⟨vals, hvo, hvr⟩ := HO.out
      rw [mk_len] at hvo hvr
      have HVO := Lib.hid hvo
      have HVR := Lib.hid hvr
      clear hvo hvr
      go_upto_region 7 with (first | (go_at_call 48; (with_reducible refine (l04Size_any p aS S cS wr h6).mono ?_); rintro e w3 ⟨rfl, b3⟩; have B3 := Lib.hid b3; have z3 := b3.size; have hk03 := (b3.cell (p := ⟨w.heap.size, 0, none⟩) hlw).trans hk0; have hk13 := (b3.cell (p := ⟨w.heap.size, 1, none⟩) hlw).trans hk1; clear b3) | (go_at_call 49; (with_reducible refine (l04Zero_any p aS S cS w3 h6).mono ?_); rintro e w4 ⟨b4, rfl, l4, u4, o4, q4⟩; have O4 := Lib.hid o4; have B4 := Lib.hid q4; have z4 := q4.size; have c4 := o4.cell i hlt; have f4 := o4.free i hlt; rw [Nat.zero_add] at c4 f4; have hk04 := (q4.cell (p := ⟨w.heap.size, 0, none⟩) (Nat.lt_of_lt_of_le hlw z3)).trans hk03; have hk14 := (q4.cell (p := ⟨w.heap.size, 1, none⟩) (Nat.lt_of_lt_of_le hlw z3)).trans hk13; clear o4 q4))
      obtain ⟨w5, hw5⟩ : ∃ z, z = w4.setCell ⟨b4, i, none⟩ (.int .i64 1) := ⟨_, rfl⟩
      have HR5 : Hid (RowOwn w5 b4 0 (bl S) (fun j => if j = i then 1 else 0)) := by show RowOwn _ _ _ _ _; rw [hw5]; exact row_put0 O4.out hlt (fun j _ => rfl)
      have HQ5 : Hid (Below wr.heap.size wr w5) := by show Below _ _ _; rw [hw5]; exact (B3.out.trans (B4.out.mono z3)).trans ((wrote_put0 (Wrote.refl b4 0 (bl S) w4) hlt _).belowB (by omega))
      have u5 : b4 < w5.heap.size := by rw [hw5]; simp [World.setCell]; exact u4
      rw [← hw5]
      clear hw5 c4 f4 hk04 hk14 hk03 hk13
      have HB5 : Hid (Below wB.heap.size wB w5) := HB.out.trans (HQ5.out.mono hwz)
      have HW5 : Hid (Below w.heap.size w w5) := HB0.out.trans (HB5.out.mono (by omega))
      have z5 := HW5.out.size
      have z5r := HQ5.out.size
      have hk05 := (HB5.out.cell (p := ⟨w.heap.size, 0, none⟩) hw0).trans K0.out
      have hk15 := (HB5.out.cell (p := ⟨w.heap.size, 1, none⟩) hw0).trans K1.out
      have HS5 := Lib.hid (HS.out.below HW5.out tS)
      have HX5 := Lib.hid (HX.out.below HW5.out tx)
      have tS5 : tpS ≤ w5.heap.size := by omega
      have tx5 : tpx ≤ w5.heap.size := by omega
      go_wp2_with (first | (go_at_call 41; (with_reducible refine (times_blade p aS S cS loS tpS ax x cx lox tpx b4 i w5 HI.out HS5.out tS5 HX5.out tx5 HMX.out HR5.out u5).mono ?_); rintro e w6 ⟨b6, rfl, t6, q6⟩; have T6 := Lib.hid t6; have B6 := Lib.hid q6; have z6 := q6.size; have HQ6 := Lib.hid (HQ5.out.trans (q6.mono z5r)); have HVW := Lib.hid (HVO.out.kept (below_grown HQ6.out) (by cases hv : Value.ownBlock V5 <;> simp)); clear t6 q6) | (at_builtin; refine wpList_append_lies _ rfl _ _ 29 rfl wB.heap.size 24 j0 (.slice none 0 0) 1 24 Try.underlying29 kj kz0 kz1 kz2 rfl (by decide) V5 i vals rfl (HVW.out.alloc _) ⟨w6.heap.size, 0, none⟩ 1 1 [.slice (some ⟨b6, 0, none⟩) (bl S) (bl S)] rfl rfl (World.news_of_block (cs := #[.slice (some ⟨b6, 0, none⟩) (bl S) (bl S)]) (t := 24) (fr := (0, 0)) (heap_alloc_new w6 _)) (by simp [Value.oneCell']) (by omega) (by unfold maxLen; omega) (by omega) (by simp; omega) (w6.heap.size + 1) (by simp) ?_; intro gg cap w1 hown1 hgrow hat hlt1))
      have HVRW : Hid (∀ i', i' < i → ∃ r c', vals[i']? = some (.slice r (rw' (mk i (bl S) fun j c => prodF p S x (bladeM S j) c) i').length c') ∧ TagR wB.heap.size w6.heap.size w6 r (rw' (mk i (bl S) fun j c => prodF p S x (bladeM S j) c) i')) := fun i' h' => by
        obtain ⟨r', c', g1, g2⟩ := HVR.out i' h'
        exact ⟨r', c', g1, g2.below HQ6.out (Nat.le_refl _) (Nat.le_refl _) HQ6.out.size⟩
      have HT6 : Hid (TagR w5.heap.size w6.heap.size w6 (some ⟨b6, 0, none⟩) (prodM p S x (bladeM S i))) := T6.out
      go_roundw
      case rel => exact ⟨i + 1, by omega, by go_num, OutM.next HVW.out HVRW.out HT6.out rfl (Nat.le_trans hwz z5r) hown1 hgrow, ((HB.out.trans (HQ6.out.mono hwz)).alloc (by omega) _).grown hgrow (by simp; omega) (fun _ hk => (HVW.out.lt _ hk).1)⟩
      case measure => simp [intOf]; omega
    · have hin : i = bl S := by omega
      subst hin
      obtain ⟨r, c, hv, hmat⟩ := HO.out.mat
      subst hv
      have HMT := Lib.hid hmat
      clear hmat
      have h0l : 0 < (mk (bl S) (bl S) fun j c => prodF p S x (bladeM S j) c).length := by rw [mk_len]; exact hb0
      have HLE : Hid (∀ i, i < (mk (bl S) (bl S) fun j c => prodF p S x (bladeM S j) c).length → (rw' (mk (bl S) (bl S) fun j c => prodF p S x (bladeM S j) c) i).length = (rw' (mk (bl S) (bl S) fun j c => prodF p S x (bladeM S j) c) 0).length) := fun i hi => by
        rw [mk_len] at hi
        rw [mk_rowLen _ hi, mk_rowLen _ hb0]
      have hn1 : (mk (bl S) (bl S) fun j c => prodF p S x (bladeM S j) c).length ≤ 1024 := by rw [mk_len]; omega
      have hn2 : (rw' (mk (bl S) (bl S) fun j c => prodF p S x (bladeM S j) c) 0).length ≤ 1024 := by rw [mk_rowLen _ hb0]; omega
      have HTR : Hid (trM (mk (bl S) (bl S) fun j c => prodF p S x (bladeM S j) c) = leftM p S x) := cols_tr p S x
      go_wp2_with (first | (go_at_call 48; (with_reducible refine (l04Size_any p aS S cS wr h6).mono ?_); rintro e w3 ⟨rfl, b3⟩; have B3 := Lib.hid b3; have z3 := b3.size; clear b3) | (go_at_call 50; (with_reducible refine (l02Turn_any r _ c wB.heap.size wr.heap.size w3 (HMT.out.below B3.out (Nat.le_refl _)) z3 h0l HLE.out hn1 hn2).mono ?_); rintro e w4 ⟨r4, c4, rfl, m4, b4⟩; have M4 := Lib.hid m4; have B4 := Lib.hid b4; clear m4 b4))
      go_ret
      have h := M4.out
      rw [HTR.out] at h
      exact ⟨r4, c4, by rw [HTR.out]; rfl, h.mono (by omega) (Nat.le_refl _), (HB0.out.trans (HB.out.mono (by omega))).trans ((B3.out.trans (B4.out.mono z3)).mono (by omega))⟩

end Go.Proofs.Ytndneccgomfkdaa

namespace Go.Proofs.Ytndneccgomfkdaa
open Go.RowKit
set_option linter.unusedVariables false

theorem transposed_n (a : Option Addr) (m : List (List Int)) (n ca lo tp : Nat) (w : World) (hnm : m.length = n) (hm : MatIn lo tp w a m) (ht : tp ≤ w.heap.size) (h0 : 0 < m.length) (hc : ∀ i, i < m.length → (rw' m i).length = (rw' m 0).length) (hn : m.length ≤ 1024) (hn2 : (rw' m 0).length ≤ 1024) :
    Calls Try.prog 46 #[.slice a n ca] w (OwnNew (trM m) w) := by
  subst hnm; exact transposed_any a m ca lo tp w hm ht h0 hc hn hn2

set_option maxRecDepth 100000 in
set_option maxHeartbeats 3200000 in
theorem leftMatrix_any (p : Int) (aS : Option Addr) (S : List Int) (cS loS tpS : Nat) (ax : Option Addr) (x : List Int) (cx lox tpx : Nat) (w : World) (hs : isSp p S = true) (hS : RowIn loS tpS w aS S) (tS : tpS ≤ w.heap.size) (hx : RowIn lox tpx w ax x) (tx : tpx ≤ w.heap.size) (mx : isMv p S x = true) :
    Calls Try.prog 20 #[.agg #[.int .i64 p, .slice aS S.length cS], .slice ax x.length cx] w (OwnNew (leftM p S x) w) := by
  have HS := Lib.hid hS
  have HX := Lib.hid hx
  have HI := Lib.hid hs
  have HMX := Lib.hid mx
  have h6 := (isSp_iff.1 hs).hi
  have hbl := bl_le h6
  have hb0 := bl_pos S
  have hmk := fun W => run_make_row' (P := Try.prog) 29 24 (.slice none 0 0) 24 Try.underlying29 info_slice rfl .i64 .i64 (bl S) (by omega) (by omega) W
  obtain ⟨Z, hZ⟩ : ∃ Z, Z = colsM p S x := ⟨_, rfl⟩
  have HZL : Hid (Z.length = bl S) := by show _ = _; rw [hZ]; exact mk_len _ _ _
  have HZR : Hid (∀ i, i < bl S → rw' Z i = prodM p S x (bladeM S i)) := fun i hi => by rw [hZ]; exact cols_row hi
  have HZT : Hid (trM Z = leftM p S x) := by show _ = _; rw [hZ]; exact cols_tr p S x
  have HZE : Hid (∀ i, i < Z.length → (rw' Z i).length = bl S) := fun i hi => by rw [HZL.out] at hi; rw [HZR.out i hi, prodM_len]
  have HB0 := Lib.hid (below_alloc w (.cells #[.int .i64 p, .slice aS S.length cS] 26))
  have k0 := nw0 w (.int .i64 p) (.slice aS S.length cS) 26
  have k1 := nw1 w (.int .i64 p) (.slice aS S.length cS) 26
  clear hS hx hs mx hZ
  go_enter Try.func20, Try.ntmps20
  go_upto_region 1 with fail
  obtain ⟨w1, hw1⟩ : ∃ z, z = w.alloc (.cells #[.int .i64 p, .slice aS S.length cS] 26) := ⟨_, rfl⟩
  rw [← hw1] at HB0 k0 k1 ⊢
  have hw0 : w.heap.size < w1.heap.size := by rw [hw1]; simp
  clear hw1
  go_upto_region 2 with (go_at_call 43; (with_reducible refine (blades_any p aS S cS _ h6).mono ?_); rintro e w2 ⟨rfl, b2⟩; have B2 := Lib.hid b2; have z2 := b2.size; clear b2)
  obtain ⟨b, hb⟩ : ∃ b, b = w2.heap.size := ⟨_, rfl⟩
  obtain ⟨w3, hw3⟩ : ∃ z, z = w2.alloc (.cells (madeCells #[.slice none 0 0] (bl S)) 24) := ⟨_, rfl⟩
  have HG3 : Hid (HalfG w3 b 0 Z (fun _ => none) (fun _ => 0) (fun _ => 0) (fun _ => 0)) := by
    show HalfG _ _ _ _ _ _ _ _
    rw [hw3, hb, ← HZL.out]
    exact HalfG.start w2 Z 24 (fun _ => none) (fun _ => 0) (fun _ => 0) (fun _ => 0)
  have HB2 : Hid (Below w.heap.size w w2) := HB0.out.trans (B2.out.mono (by omega))
  have HB3 : Hid (Below w.heap.size w w3) := by show Below _ _ _; rw [hw3]; exact HB2.out.alloc HB2.out.size _
  have K0 : Hid (w3.cell? ⟨w.heap.size, 0, none⟩ = some (.int .i64 p)) := by show _ = _; rw [hw3]; exact (World.cell?_alloc_old _ _ _ (show w.heap.size ≠ w2.heap.size by omega)).trans ((B2.out.cell (p := ⟨w.heap.size, 0, none⟩) hw0).trans k0)
  have K1 : Hid (w3.cell? ⟨w.heap.size, 1, none⟩ = some (.slice aS S.length cS)) := by show _ = _; rw [hw3]; exact (World.cell?_alloc_old _ _ _ (show w.heap.size ≠ w2.heap.size by omega)).trans ((B2.out.cell (p := ⟨w.heap.size, 1, none⟩) hw0).trans k1)
  have hwb : w.heap.size < b := by omega
  have hbl3 : b < w3.heap.size := by rw [hw3, hb]; simp
  rw [← hw3, ← hb]
  clear hw3 hmk hb z2 k0 k1
  go_wp2
  go_loopw [12] (fun t wr => ∃ i : Nat, i ≤ bl S ∧ t = .int .i64 i ∧ (∃ A C lo tp, HalfG wr b i Z A C lo tp) ∧ wr.cell? ⟨w.heap.size, 0, none⟩ = some (.int .i64 p) ∧ wr.cell? ⟨w.heap.size, 1, none⟩ = some (.slice aS S.length cS) ∧ Below w.heap.size w wr ∧ b < wr.heap.size) (fun t _ => bl S - (intOf t).toNat)
  case atStart => exact ⟨0, Nat.zero_le _, rfl, ⟨_, _, _, _, HG3.out⟩, K0.out, K1.out, HB3.out, hbl3⟩
  case round =>
    obtain ⟨i, hi, rfl, ⟨A, C, lo, tp, hh⟩, hk0, hk1, hbel, hbr⟩ := hrel
    have HH := Lib.hid hh
    have HB := Lib.hid hbel
    have HK0 := Lib.hid hk0
    have HK1 := Lib.hid hk1
    have hwz := hbel.size
    by_cases hlt : i < bl S
    · have hi1 : (i : Int) < (bl S : Int) := Int.ofNat_lt.2 hlt
      have g0 := hh.rest i (Nat.le_refl _) (by rw [HZL.out]; exact hlt)
      have gf := hh.free i
      have hlw : w.heap.size < wr.drew.heap.size := by show w.heap.size < wr.heap.size; omega
      have hbd : b < wr.drew.heap.size := hbr
      have hs1 : Hid (wr.drew.cell? ⟨w.heap.size, 0, none⟩ = some (.int .i64 p) ∧ wr.drew.cell? ⟨w.heap.size, 1, none⟩ = some (.slice aS S.length cS)) := ⟨hk0, hk1⟩
      have HBD : Hid (Below w.heap.size w wr.drew) := hbel.drew
      have hzd := HBD.out.size
      have hwb2 : w.heap.size ≠ b := by omega
      have G0 : Hid (wr.drew.cell? ⟨b, i, none⟩ = some (.slice none 0 0)) := g0
      have GF : Hid (wr.drew.frozen? ⟨b, i, none⟩ = false) := gf
      clear hh hbel
      go_wp2
      go_region_held3 (fun w' => w'.cell? ⟨w.heap.size, 0, none⟩ = some (.int .i64 p) ∧ w'.cell? ⟨w.heap.size, 1, none⟩ = some (.slice aS S.length cS)) (first | go_keep | exact SS7.out | exact SS9.out | exact SS10.out) (first | (go_at_call 45; (with_reducible refine (blade_any p aS S cS i wr.drew h6 hlt).mono ?_); rintro e w7 ⟨b7, rfl, l7, u7, o7, q7⟩; have O7 := Lib.hid o7; have B7 := Lib.hid q7; have z7 := q7.size; have SS7 := Lib.hid (And.intro ((q7.cell (p := ⟨w.heap.size, 0, none⟩) hlw).trans hs1.out.1) ((q7.cell (p := ⟨w.heap.size, 1, none⟩) hlw).trans hs1.out.2)); have HB7 := Lib.hid (HBD.out.trans (q7.mono hzd)); have hz7 := Nat.le_trans hzd z7; have hlw7 := Nat.lt_of_lt_of_le hlw z7; have hbd7 := Nat.lt_of_lt_of_le hbd z7; clear o7 q7) | (go_at_call 44; (with_reducible refine (product_blade p aS S cS loS tpS ax x cx lox tpx b7 i w7 HI.out (HS.out.below HB7.out tS) (Nat.le_trans tS hz7) (HX.out.below HB7.out tx) (Nat.le_trans tx hz7) HMX.out O7.out u7).mono ?_); rintro e w9 ⟨r9, c9, rfl, o9, q9⟩; have O9 := Lib.hid o9; have B9 := Lib.hid q9; have z9 := q9.size; have SS9 := Lib.hid (And.intro ((q9.cell (p := ⟨w.heap.size, 0, none⟩) hlw7).trans SS7.out.1) ((q9.cell (p := ⟨w.heap.size, 1, none⟩) hlw7).trans SS7.out.2)); have SS10 := Lib.hid (And.intro ((World.cell?_setCell_other w9 ⟨b, i, none⟩ ⟨w.heap.size, 0, none⟩ (.slice r9 (prodM p S x (bladeM S i)).length c9) (fun e => hwb2 (by injection e with e1; exact e1.symm))).trans SS9.out.1) ((World.cell?_setCell_other w9 ⟨b, i, none⟩ ⟨w.heap.size, 1, none⟩ (.slice r9 (prodM p S x (bladeM S i)).length c9) (fun e => hwb2 (by injection e with e1; exact e1.symm))).trans SS9.out.2)); have HQ9 := Lib.hid (B7.out.trans (q9.mono z7)); have c0 := (HQ9.out.cell (p := ⟨b, i, none⟩) hbd).trans G0.out; have f0 := (HQ9.out.frozen (p := ⟨b, i, none⟩) hbd).trans GF.out; clear o9 q9))
      have hq9 := HQ9.out.size
      have hq9' : wr.heap.size ≤ w9.heap.size := hq9
      have HZI := HZR.out i hlt
      have HNX := HH.out.next (w1 := w9.setCell ⟨b, i, none⟩ (.slice r9 (prodM p S x (bladeM S i)).length c9)) (r := r9) (c := c9) (T := w9.heap.size) (by rw [HZL.out]; exact hlt)
        (fun k k0 k1 => (Below.heap_setCell _ _ _ _ k1).trans (HQ9.out.block k k0)) (by simp [World.setCell]; exact hq9') (by simp [World.setCell])
        (by rw [HZI]; exact World.cell?_setCell_same w9 _ _ c0)
        (fun j hj => (World.cell?_setCell_other w9 ⟨b, i, none⟩ ⟨b, j, none⟩ _ (fun e => hj (by injection e with _ e2; exact e2.symm))).trans (HQ9.out.cell (p := ⟨b, j, none⟩) hbd))
        (fun j => by have := (HQ9.out.frozen (p := ⟨b, j, none⟩) hbd).trans (HH.out.free j); simp [go_sem, this])
        (by rw [HZI]; exact (OwnR.mono' O9.out (show wr.heap.size ≤ w7.heap.size from z7) (Nat.le_refl _)).same (fun k k0 _ => Below.heap_setCell _ _ _ _ (show k ≠ b by omega)))
      have HNX := Lib.hid HNX
      go_wp2
      go_roundw
      case rel => exact ⟨i + 1, by omega, by go_num, ⟨_, _, _, _, HNX.out⟩, SS10.out.1, SS10.out.2, (HBD.out.trans (HQ9.out.mono hzd)).setCell (by show w.heap.size ≤ b; omega) _, by simp [World.setCell]; omega⟩
      case measure => simp [intOf]; omega
    · have hin : i = bl S := by omega
      have HF : Hid (HalfG wr b Z.length Z A C lo tp) := by show HalfG _ _ _ _ _ _ _ _; rw [HZL.out, ← hin]; exact hh
      have HM := Lib.hid HF.out.own.mat
      have hz0 : 0 < Z.length := by rw [HZL.out]; exact hb0
      have HE : Hid (∀ i, i < Z.length → (rw' Z i).length = (rw' Z 0).length) := fun i hi => by rw [HZE.out i hi, HZE.out 0 hz0]
      have hz1 : Z.length ≤ 1024 := by rw [HZL.out]; omega
      have hz2 : (rw' Z 0).length ≤ 1024 := by rw [HZE.out 0 hz0]; omega
      clear hh hbel hin
      go_wp2_with (first | (go_at_call 46; (with_reducible refine (transposed_n (some ⟨b, 0, none⟩) Z (bl S) (bl S) b wr.heap.size wr HZL.out HM.out (Nat.le_refl _) hz0 HE.out hz1 hz2).mono ?_); rintro e w7 ⟨r7, c7, rfl, o7, q7⟩; have O7 := Lib.hid o7; have B7 := Lib.hid q7; clear o7 q7))
      go_ret
      have h := O7.out
      rw [HZT.out] at h
      exact ⟨r7, c7, by rw [HZT.out]; rfl, h.mono hwz (Nat.le_refl _), HB.out.trans (B7.out.mono hwz)⟩

end Go.Proofs.Ytndneccgomfkdaa

namespace Go.Proofs.Ytndneccgomfkdaa
open Go.RowKit
set_option linter.unusedVariables false

/-- Whether the product of two blades is kept: 0 the wedge product, 1 the left contraction, else the right one. -/
def kp (κ a b : Nat) : Bool := if κ = 0 then a &&& b == 0 else if κ = 1 then a &&& b == a else a &&& b == b
end Go.Proofs.Ytndneccgomfkdaa

namespace Go.Proofs.Ytndneccgomfkdaa
open Go.RowKit Go.Maps
set_option linter.unusedVariables false

theorem ss2 {B : Nat} {w w' : World} (h : Below B w w') {g : Nat} {u0 u1 : Value} (l : g < B) (h0 : w.cell? ⟨g, 0, none⟩ = some u0 ∧ w.cell? ⟨g, 1, none⟩ = some u1) : w'.cell? ⟨g, 0, none⟩ = some u0 ∧ w'.cell? ⟨g, 1, none⟩ = some u1 :=
  ⟨(h.cell (p := ⟨g, 0, none⟩) l).trans h0.1, (h.cell (p := ⟨g, 1, none⟩) l).trans h0.2⟩
end Go.Proofs.Ytndneccgomfkdaa
