/-
  Right matrices: contracts of the program and of the model.
  Conditions: the lists are nil or rows of known cells, of at most 1048576 numbers.
  The program's opposites and first numbers: contracts.
-/
import Derived.Test.YtijklpcelbnnjaaGreatQk19
import Derived.Test.YtijklpcelbnnjaaGreatQk20
import Derived.Test.YtijklpcelbnnjaaGreatQk18
namespace Go.Proofs.YtijklpcelbnnjaaGreat
open Go.RowKit
set_option linter.unusedVariables false

/-- The products of the blades with a multivector, as rows. -/
def colsR (p : Int) (S x : List Int) : List (List Int) := mk (bl S) (bl S) fun j c => prodF p S (bladeM S j) x c
def rightM (p : Int) (S x : List Int) : List (List Int) := mk (bl S) (bl S) fun i j => prodF p S (bladeM S j) x i
theorem colsR_len (p : Int) (S x : List Int) : (colsR p S x).length = bl S := mk_len _ _ _
theorem colsR_row {p : Int} {S x : List Int} {i : Nat} (h : i < bl S) : rw' (colsR p S x) i = prodM p S (bladeM S i) x := mk_row _ h
theorem colsR_tr (p : Int) (S x : List Int) : trM (colsR p S x) = rightM p S x := by
  unfold trM rightM
  have h0 : (rw' (colsR p S x) 0).length = bl S := mk_rowLen _ (bl_pos S)
  rw [h0, show (colsR p S x).length = bl S from mk_len _ _ _]
  exact mk_congr fun i hi j hj => mk_at _ hj hi
theorem right_len (p : Int) (S x : List Int) : (rightM p S x).length = bl S := mk_len _ _ _
theorem right_rl {p : Int} {S x : List Int} {i : Nat} (h : i < bl S) : (rw' (rightM p S x) i).length = bl S := mk_rowLen _ h
theorem colsR_rl {p : Int} {S x : List Int} {i : Nat} (h : i < bl S) : (rw' (colsR p S x) i).length = bl S := mk_rowLen _ h
theorem bl_st {S : List Int} (h : S.length ≤ 4) : bl S ≤ 16 := Nat.pow_le_pow_right (by decide) h

def NewRowTR (p : Int) (S x : List Int) (i : Nat) (w : World) (e : Ending) (w' : World) : Prop :=
  ∃ b, e = .returned (.slice (some ⟨b, 0, none⟩) (bl S) (bl S)) ∧ TagR w.heap.size w'.heap.size w' (some ⟨b, 0, none⟩) (prodM p S (bladeM S i) x) ∧ Below w.heap.size w w'
theorem times_bladeR (p : Int) (aS : Option Addr) (S : List Int) (cS loS tpS : Nat) (ax : Option Addr) (x : List Int) (cx lox tpx b i : Nat) (w : World) (hs : isSp p S = true) (hS : RowIn loS tpS w aS S) (tS : tpS ≤ w.heap.size) (hx : RowIn lox tpx w ax x) (tx : tpx ≤ w.heap.size) (mx : isMv p S x = true) (hb : RowOwn w b 0 (bl S) (fun j => if j = i then 1 else 0)) (ub : b < w.heap.size) :
    Calls Tryz.prog 48 #[.agg #[.int .i64 p, .slice aS S.length cS], .slice (some ⟨b, 0, none⟩) (bl S) (bl S), .slice ax x.length cx] w (NewRowTR p S x i w) := by
  have h := l04Times_tag p aS S cS loS tpS (some ⟨b, 0, none⟩) (bladeM S i) (bl S) 0 w.heap.size ax x cx lox tpx w (isSp_iff.1 hs).prime (isSp_iff.1 hs).hi hS tS (sp_nums hs) (hb.own (Nat.zero_le _) ub).row (Nat.le_refl _) (blade_len S i) (Mv.nums (blade_mv hs i)) hx tx (Mv.len mx) (Mv.nums mx)
  rw [blade_len] at h
  refine h.mono ?_
  rintro e w' ⟨b', rfl, hl, hu, hr, hbl, cur, ht⟩
  refine ⟨b', rfl, .inr ⟨b', 0, cur, rfl, hl, hu, ht, fun j hj => ?_⟩, hbl⟩
  rw [prodM_len] at hj
  rw [prodM_at p S _ x hj]
  exact hr.cell j hj

theorem product_bladeR (p : Int) (aS : Option Addr) (S : List Int) (cS loS tpS : Nat) (ax : Option Addr) (x : List Int) (cx lox tpx b i : Nat) (w : World) (hs : isSp p S = true) (hS : RowIn loS tpS w aS S) (tS : tpS ≤ w.heap.size) (hx : RowIn lox tpx w ax x) (tx : tpx ≤ w.heap.size) (mx : isMv p S x = true) (hb : RowOwn w b 0 (bl S) (fun j => if j = i then 1 else 0)) (ub : b < w.heap.size) :
    Calls Tryz.prog 58 #[.agg #[.int .i64 p, .slice aS S.length cS], .slice (some ⟨b, 0, none⟩) (bl S) (bl S), .slice ax x.length cx] w (OwnE (prodM p S (bladeM S i) x) w) := by
  have h := product_own p aS S cS loS tpS (some ⟨b, 0, none⟩) (bladeM S i) (bl S) 0 w.heap.size ax x cx lox tpx w hs hS tS (hb.own (Nat.zero_le _) ub).row (Nat.le_refl _) (blade_mv hs i) hx tx mx
  rw [blade_len] at h
  exact h

set_option maxRecDepth 100000 in
set_option maxHeartbeats 3200000 in
theorem l09Right_any (p : Int) (aS : Option Addr) (S : List Int) (cS loS tpS : Nat) (ax : Option Addr) (x : List Int) (cx lox tpx : Nat) (w : World) (hs : isSp p S = true) (hS : RowIn loS tpS w aS S) (tS : tpS ≤ w.heap.size) (hx : RowIn lox tpx w ax x) (tx : tpx ≤ w.heap.size) (mx : isMv p S x = true) :
    Calls Tryz.prog 25 #[.agg #[.int .i64 p, .slice aS S.length cS], .slice ax x.length cx] w (NewM (rightM p S x) w) := by
  obtain ⟨j0, kj, kz0, kz1, kz2⟩ := info_parts info_slice
  have HS := Lib.hid hS
  have HX := Lib.hid hx
  have HI := Lib.hid hs
  have HMX := Lib.hid mx
  have h6 := (isSp_iff.1 hs).hi
  have hbl := bl_le h6
  have hb0 := bl_pos S
  have HB0 := Lib.hid (below_alloc w (.cells #[.int .i64 p, .slice aS S.length cS] 26))
  have k0 := nw0 w (.int .i64 p) (.slice aS S.length cS) 26
  have k1 := nw1 w (.int .i64 p) (.slice aS S.length cS) 26
  clear hS hx hs mx
  go_enter Tryz.func25, Tryz.ntmps25
  go_upto_region 1 with fail
  obtain ⟨wB, hw1⟩ : ∃ z, z = w.alloc (.cells #[.int .i64 p, .slice aS S.length cS] 26) := ⟨_, rfl⟩
  rw [← hw1] at HB0 k0 k1 ⊢
  have hw0 : w.heap.size < wB.heap.size := by rw [hw1]; simp
  clear hw1
  have K0 := Lib.hid k0
  have K1 := Lib.hid k1
  clear k0 k1
  go_wp2
  go_loopw [5, 6, 7] (fun v t _ wr => ∃ i : Nat, i ≤ bl S ∧ t = .int .i64 i ∧ OutM wB.heap.size wr v (mk i (bl S) fun j c => prodF p S (bladeM S j) x c) ∧ Below wB.heap.size wB wr) (fun _ t _ _ => bl S - (intOf t).toNat)
  case atStart => exact ⟨0, Nat.zero_le _, rfl, OutM.start wB _ _ (Nat.le_refl _) rfl, below_alloc wB _⟩
  case round =>
    obtain ⟨i, hi, rfl, ho, hbel⟩ := hrel
    obtain ⟨V5, hV5⟩ : ∃ z, z = u5 := ⟨_, rfl⟩
    rw [← hV5] at ho ⊢
    clear hV5
    have HO := Lib.hid ho
    have HB := Lib.hid hbel
    have hwz := hbel.size
    have hk0 := (hbel.cell (p := ⟨w.heap.size, 0, none⟩) hw0).trans K0.out
    have hk1 := (hbel.cell (p := ⟨w.heap.size, 1, none⟩) hw0).trans K1.out
    have hlw : w.heap.size < wr.heap.size := by omega
    clear ho hbel
    by_cases hlt : i < bl S
    · have hi1 : (i : Int) < (bl S : Int) := Int.ofNat_lt.2 hlt
      obtain ⟨vals, hvo, hvr⟩ := HO.out
      rw [mk_len] at hvo hvr
      have HVO := Lib.hid hvo
      have HVR := Lib.hid hvr
      clear hvo hvr
      go_upto_region 7 with (first | (go_at_call 47; (with_reducible refine (l04Size_any p aS S cS wr h6).mono ?_); rintro e w3 ⟨rfl, b3⟩; have B3 := Lib.hid b3; have z3 := b3.size; have hk03 := (b3.cell (p := ⟨w.heap.size, 0, none⟩) hlw).trans hk0; have hk13 := (b3.cell (p := ⟨w.heap.size, 1, none⟩) hlw).trans hk1; clear b3) | (go_at_call 23; (with_reducible refine (l04Zero_any p aS S cS w3 h6).mono ?_); rintro e w4 ⟨b4, rfl, l4, u4, o4, q4⟩; have O4 := Lib.hid o4; have B4 := Lib.hid q4; have z4 := q4.size; have c4 := o4.cell i hlt; have f4 := o4.free i hlt; rw [Nat.zero_add] at c4 f4; have hk04 := (q4.cell (p := ⟨w.heap.size, 0, none⟩) (Nat.lt_of_lt_of_le hlw z3)).trans hk03; have hk14 := (q4.cell (p := ⟨w.heap.size, 1, none⟩) (Nat.lt_of_lt_of_le hlw z3)).trans hk13; clear o4 q4))
      obtain ⟨w5, hw5⟩ : ∃ z, z = w4.setCell ⟨b4, i, none⟩ (.int .i64 1) := ⟨_, rfl⟩
      have HR5 : Hid (RowOwn w5 b4 0 (bl S) (fun j => if j = i then 1 else 0)) := by show RowOwn _ _ _ _ _; rw [hw5]; exact row_put0 O4.out hlt (fun j _ => rfl)
      have HQ5 : Hid (Below wr.heap.size wr w5) := by show Below _ _ _; rw [hw5]; exact (B3.out.trans (B4.out.mono z3)).trans ((wrote_put0 (Wrote.refl b4 0 (bl S) w4) hlt _).belowB (by omega))
      have u5 : b4 < w5.heap.size := by rw [hw5]; simp [World.setCell]; exact u4
      rw [← hw5]
      clear hw5 c4 f4 hk04 hk14 hk03 hk13
      have HB5 : Hid (Below wB.heap.size wB w5) := HB.out.trans (HQ5.out.mono hwz)
      have HW5 : Hid (Below w.heap.size w w5) := HB0.out.trans (HB5.out.mono (by omega))
      have z5 := HW5.out.size
      have z5r := HQ5.out.size
      have hk05 := (HB5.out.cell (p := ⟨w.heap.size, 0, none⟩) hw0).trans K0.out
      have hk15 := (HB5.out.cell (p := ⟨w.heap.size, 1, none⟩) hw0).trans K1.out
      have HS5 := Lib.hid (HS.out.below HW5.out tS)
      have HX5 := Lib.hid (HX.out.below HW5.out tx)
      have tS5 : tpS ≤ w5.heap.size := by omega
      have tx5 : tpx ≤ w5.heap.size := by omega
      go_wp2_with (first | (go_at_call 48; (with_reducible refine (times_bladeR p aS S cS loS tpS ax x cx lox tpx b4 i w5 HI.out HS5.out tS5 HX5.out tx5 HMX.out HR5.out u5).mono ?_); rintro e w6 ⟨b6, rfl, t6, q6⟩; have T6 := Lib.hid t6; have B6 := Lib.hid q6; have z6 := q6.size; have HQ6 := Lib.hid (HQ5.out.trans (q6.mono z5r)); have HVW := Lib.hid (HVO.out.kept (below_grown HQ6.out) (by cases hv : Value.ownBlock V5 <;> simp)); clear t6 q6) | (at_builtin; refine wpList_append_lies _ rfl _ _ 28 rfl wB.heap.size 24 j0 (.slice none 0 0) 1 24 Tryz.underlying28 kj kz0 kz1 kz2 rfl (by decide) V5 i vals rfl (HVW.out.alloc _) ⟨w6.heap.size, 0, none⟩ 1 1 [.slice (some ⟨b6, 0, none⟩) (bl S) (bl S)] rfl rfl (World.news_of_block (cs := #[.slice (some ⟨b6, 0, none⟩) (bl S) (bl S)]) (t := 24) (fr := (0, 0)) (heap_alloc_new w6 _)) (by simp [Value.oneCell']) (by omega) (by unfold maxLen; omega) (by omega) (by simp; omega) (w6.heap.size + 1) (by simp) ?_; intro gg cap w1 hown1 hgrow hat hlt1))
      have HVRW : Hid (∀ i', i' < i → ∃ r c', vals[i']? = some (.slice r (rw' (mk i (bl S) fun j c => prodF p S (bladeM S j) x c) i').length c') ∧ TagR wB.heap.size w6.heap.size w6 r (rw' (mk i (bl S) fun j c => prodF p S (bladeM S j) x c) i')) := fun i' h' => by
        obtain ⟨r', c', g1, g2⟩ := HVR.out i' h'
        exact ⟨r', c', g1, g2.below HQ6.out (Nat.le_refl _) (Nat.le_refl _) HQ6.out.size⟩
      have HT6 : Hid (TagR w5.heap.size w6.heap.size w6 (some ⟨b6, 0, none⟩) (prodM p S (bladeM S i) x)) := T6.out
      go_roundw
      case rel => exact ⟨i + 1, by omega, by go_num, OutM.next HVW.out HVRW.out HT6.out rfl (Nat.le_trans hwz z5r) hown1 hgrow, ((HB.out.trans (HQ6.out.mono hwz)).alloc (by omega) _).grown hgrow (by simp; omega) (fun _ hk => (HVW.out.lt _ hk).1)⟩
      case measure => simp [intOf]; omega
    · have hin : i = bl S := by omega
      subst hin
      obtain ⟨r, c, hv, hmat⟩ := HO.out.mat
      subst hv
      have HMT := Lib.hid hmat
      clear hmat
      have h0l : 0 < (mk (bl S) (bl S) fun j c => prodF p S (bladeM S j) x c).length := by rw [mk_len]; exact hb0
      have HLE : Hid (∀ i, i < (mk (bl S) (bl S) fun j c => prodF p S (bladeM S j) x c).length → (rw' (mk (bl S) (bl S) fun j c => prodF p S (bladeM S j) x c) i).length = (rw' (mk (bl S) (bl S) fun j c => prodF p S (bladeM S j) x c) 0).length) := fun i hi => by
        rw [mk_len] at hi
        rw [mk_rowLen _ hi, mk_rowLen _ hb0]
      have hn1 : (mk (bl S) (bl S) fun j c => prodF p S (bladeM S j) x c).length ≤ 1024 := by rw [mk_len]; omega
      have hn2 : (rw' (mk (bl S) (bl S) fun j c => prodF p S (bladeM S j) x c) 0).length ≤ 1024 := by rw [mk_rowLen _ hb0]; omega
      have HTR : Hid (trM (mk (bl S) (bl S) fun j c => prodF p S (bladeM S j) x c) = rightM p S x) := colsR_tr p S x
      go_wp2_with (first | (go_at_call 47; (with_reducible refine (l04Size_any p aS S cS wr h6).mono ?_); rintro e w3 ⟨rfl, b3⟩; have B3 := Lib.hid b3; have z3 := b3.size; clear b3) | (go_at_call 49; (with_reducible refine (l02Turn_any r _ c wB.heap.size wr.heap.size w3 (HMT.out.below B3.out (Nat.le_refl _)) z3 h0l HLE.out hn1 hn2).mono ?_); rintro e w4 ⟨r4, c4, rfl, m4, b4⟩; have M4 := Lib.hid m4; have B4 := Lib.hid b4; clear m4 b4))
      go_ret
      have h := M4.out
      rw [HTR.out] at h
      exact ⟨r4, c4, by rw [HTR.out]; rfl, h.mono (by omega) (Nat.le_refl _), (HB0.out.trans (HB.out.mono (by omega))).trans ((B3.out.trans (B4.out.mono z3)).mono (by omega))⟩

set_option maxRecDepth 100000 in
set_option maxHeartbeats 3200000 in
theorem rightProducts_own (p : Int) (aS : Option Addr) (S : List Int) (cS loS tpS : Nat) (ax : Option Addr) (x : List Int) (cx lox tpx : Nat) (w : World) (hs : isSp p S = true) (hS : RowIn loS tpS w aS S) (tS : tpS ≤ w.heap.size) (hx : RowIn lox tpx w ax x) (tx : tpx ≤ w.heap.size) (mx : isMv p S x = true) :
    Calls Tryz.prog 77 #[.agg #[.int .i64 p, .slice aS S.length cS], .slice ax x.length cx] w (OwnNew (colsR p S x) w) := by
  have HS := Lib.hid hS
  have HX := Lib.hid hx
  have HI := Lib.hid hs
  have HMX := Lib.hid mx
  have h6 := (isSp_iff.1 hs).hi
  have hbl := bl_le h6
  have hb0 := bl_pos S
  have hmk := fun W => run_make_row' (P := Tryz.prog) 28 24 (.slice none 0 0) 24 Tryz.underlying28 info_slice rfl .i64 .i64 (bl S) (by omega) (by omega) W
  obtain ⟨Z, hZ⟩ : ∃ Z, Z = colsR p S x := ⟨_, rfl⟩
  have HZL : Hid (Z.length = bl S) := by show _ = _; rw [hZ]; exact mk_len _ _ _
  have HZR : Hid (∀ i, i < bl S → rw' Z i = prodM p S (bladeM S i) x) := fun i hi => by rw [hZ]; exact colsR_row hi
  have HZZ : Hid (Z = colsR p S x) := hZ
  have HZE : Hid (∀ i, i < Z.length → (rw' Z i).length = bl S) := fun i hi => by rw [HZL.out] at hi; rw [HZR.out i hi, prodM_len]
  have HB0 := Lib.hid (below_alloc w (.cells #[.int .i64 p, .slice aS S.length cS] 26))
  have k0 := nw0 w (.int .i64 p) (.slice aS S.length cS) 26
  have k1 := nw1 w (.int .i64 p) (.slice aS S.length cS) 26
  clear hS hx hs mx hZ
  go_enter Tryz.func77, Tryz.ntmps77
  go_upto_region 1 with fail
  obtain ⟨w1, hw1⟩ : ∃ z, z = w.alloc (.cells #[.int .i64 p, .slice aS S.length cS] 26) := ⟨_, rfl⟩
  rw [← hw1] at HB0 k0 k1 ⊢
  have hw0 : w.heap.size < w1.heap.size := by rw [hw1]; simp
  clear hw1
  go_upto_region 2 with (go_at_call 74; (with_reducible refine (blades_any p aS S cS _ h6).mono ?_); rintro e w2 ⟨rfl, b2⟩; have B2 := Lib.hid b2; have z2 := b2.size; clear b2)
  obtain ⟨b, hb⟩ : ∃ b, b = w2.heap.size := ⟨_, rfl⟩
  obtain ⟨w3, hw3⟩ : ∃ z, z = w2.alloc (.cells (madeCells #[.slice none 0 0] (bl S)) 24) := ⟨_, rfl⟩
  have HG3 : Hid (HalfG w3 b 0 Z (fun _ => none) (fun _ => 0) (fun _ => 0) (fun _ => 0)) := by
    show HalfG _ _ _ _ _ _ _ _
    rw [hw3, hb, ← HZL.out]
    exact HalfG.start w2 Z 24 (fun _ => none) (fun _ => 0) (fun _ => 0) (fun _ => 0)
  have HB2 : Hid (Below w.heap.size w w2) := HB0.out.trans (B2.out.mono (by omega))
  have HB3 : Hid (Below w.heap.size w w3) := by show Below _ _ _; rw [hw3]; exact HB2.out.alloc HB2.out.size _
  have K0 : Hid (w3.cell? ⟨w.heap.size, 0, none⟩ = some (.int .i64 p)) := by show _ = _; rw [hw3]; exact (World.cell?_alloc_old _ _ _ (show w.heap.size ≠ w2.heap.size by omega)).trans ((B2.out.cell (p := ⟨w.heap.size, 0, none⟩) hw0).trans k0)
  have K1 : Hid (w3.cell? ⟨w.heap.size, 1, none⟩ = some (.slice aS S.length cS)) := by show _ = _; rw [hw3]; exact (World.cell?_alloc_old _ _ _ (show w.heap.size ≠ w2.heap.size by omega)).trans ((B2.out.cell (p := ⟨w.heap.size, 1, none⟩) hw0).trans k1)
  have hwb : w.heap.size < b := by omega
  have hbl3 : b < w3.heap.size := by rw [hw3, hb]; simp
  rw [← hw3, ← hb]
  clear hw3 hmk hb z2 k0 k1
  go_wp2
  go_loopw [12] (fun t wr => ∃ i : Nat, i ≤ bl S ∧ t = .int .i64 i ∧ (∃ A C lo tp, HalfG wr b i Z A C lo tp) ∧ wr.cell? ⟨w.heap.size, 0, none⟩ = some (.int .i64 p) ∧ wr.cell? ⟨w.heap.size, 1, none⟩ = some (.slice aS S.length cS) ∧ Below w.heap.size w wr ∧ b < wr.heap.size) (fun t _ => bl S - (intOf t).toNat)
  case atStart => exact ⟨0, Nat.zero_le _, rfl, ⟨_, _, _, _, HG3.out⟩, K0.out, K1.out, HB3.out, hbl3⟩
  case round =>
    obtain ⟨i, hi, rfl, ⟨A, C, lo, tp, hh⟩, hk0, hk1, hbel, hbr⟩ := hrel
    have HH := Lib.hid hh
    have HB := Lib.hid hbel
    have HK0 := Lib.hid hk0
    have HK1 := Lib.hid hk1
    have hwz := hbel.size
    by_cases hlt : i < bl S
    · have hi1 : (i : Int) < (bl S : Int) := Int.ofNat_lt.2 hlt
      have g0 := hh.rest i (Nat.le_refl _) (by rw [HZL.out]; exact hlt)
      have gf := hh.free i
      have hlw : w.heap.size < wr.drew.heap.size := by show w.heap.size < wr.heap.size; omega
      have hbd : b < wr.drew.heap.size := hbr
      have hs1 : Hid (wr.drew.cell? ⟨w.heap.size, 0, none⟩ = some (.int .i64 p) ∧ wr.drew.cell? ⟨w.heap.size, 1, none⟩ = some (.slice aS S.length cS)) := ⟨hk0, hk1⟩
      have HBD : Hid (Below w.heap.size w wr.drew) := hbel.drew
      have hzd := HBD.out.size
      have hwb2 : w.heap.size ≠ b := by omega
      have G0 : Hid (wr.drew.cell? ⟨b, i, none⟩ = some (.slice none 0 0)) := g0
      have GF : Hid (wr.drew.frozen? ⟨b, i, none⟩ = false) := gf
      clear hh hbel
      go_wp2
      go_region_held3 (fun w' => w'.cell? ⟨w.heap.size, 0, none⟩ = some (.int .i64 p) ∧ w'.cell? ⟨w.heap.size, 1, none⟩ = some (.slice aS S.length cS)) (first | go_keep | exact SS7.out | exact SS9.out | exact SS10.out) (first | (go_at_call 75; (with_reducible refine (blade_any p aS S cS i wr.drew h6 hlt).mono ?_); rintro e w7 ⟨b7, rfl, l7, u7, o7, q7⟩; have O7 := Lib.hid o7; have B7 := Lib.hid q7; have z7 := q7.size; have SS7 := Lib.hid (And.intro ((q7.cell (p := ⟨w.heap.size, 0, none⟩) hlw).trans hs1.out.1) ((q7.cell (p := ⟨w.heap.size, 1, none⟩) hlw).trans hs1.out.2)); have HB7 := Lib.hid (HBD.out.trans (q7.mono hzd)); have hz7 := Nat.le_trans hzd z7; have hlw7 := Nat.lt_of_lt_of_le hlw z7; have hbd7 := Nat.lt_of_lt_of_le hbd z7; clear o7 q7) | (go_at_call 58; (with_reducible refine (product_bladeR p aS S cS loS tpS ax x cx lox tpx b7 i w7 HI.out (HS.out.below HB7.out tS) (Nat.le_trans tS hz7) (HX.out.below HB7.out tx) (Nat.le_trans tx hz7) HMX.out O7.out u7).mono ?_); rintro e w9 ⟨r9, c9, rfl, o9, q9⟩; have O9 := Lib.hid o9; have B9 := Lib.hid q9; have z9 := q9.size; have SS9 := Lib.hid (And.intro ((q9.cell (p := ⟨w.heap.size, 0, none⟩) hlw7).trans SS7.out.1) ((q9.cell (p := ⟨w.heap.size, 1, none⟩) hlw7).trans SS7.out.2)); have SS10 := Lib.hid (And.intro ((World.cell?_setCell_other w9 ⟨b, i, none⟩ ⟨w.heap.size, 0, none⟩ (.slice r9 (prodM p S (bladeM S i) x).length c9) (fun e => hwb2 (by injection e with e1; exact e1.symm))).trans SS9.out.1) ((World.cell?_setCell_other w9 ⟨b, i, none⟩ ⟨w.heap.size, 1, none⟩ (.slice r9 (prodM p S (bladeM S i) x).length c9) (fun e => hwb2 (by injection e with e1; exact e1.symm))).trans SS9.out.2)); have HQ9 := Lib.hid (B7.out.trans (q9.mono z7)); have c0 := (HQ9.out.cell (p := ⟨b, i, none⟩) hbd).trans G0.out; have f0 := (HQ9.out.frozen (p := ⟨b, i, none⟩) hbd).trans GF.out; clear o9 q9))
      have hq9 := HQ9.out.size
      have hq9' : wr.heap.size ≤ w9.heap.size := hq9
      have HZI := HZR.out i hlt
      have HNX := HH.out.next (w1 := w9.setCell ⟨b, i, none⟩ (.slice r9 (prodM p S (bladeM S i) x).length c9)) (r := r9) (c := c9) (T := w9.heap.size) (by rw [HZL.out]; exact hlt)
        (fun k k0 k1 => (Below.heap_setCell _ _ _ _ k1).trans (HQ9.out.block k k0)) (by simp [World.setCell]; exact hq9') (by simp [World.setCell])
        (by rw [HZI]; exact World.cell?_setCell_same w9 _ _ c0)
        (fun j hj => (World.cell?_setCell_other w9 ⟨b, i, none⟩ ⟨b, j, none⟩ _ (fun e => hj (by injection e with _ e2; exact e2.symm))).trans (HQ9.out.cell (p := ⟨b, j, none⟩) hbd))
        (fun j => by have := (HQ9.out.frozen (p := ⟨b, j, none⟩) hbd).trans (HH.out.free j); simp [go_sem, this])
        (by rw [HZI]; exact (OwnR.mono' O9.out (show wr.heap.size ≤ w7.heap.size from z7) (Nat.le_refl _)).same (fun k k0 _ => Below.heap_setCell _ _ _ _ (show k ≠ b by omega)))
      have HNX := Lib.hid HNX
      go_wp2
      go_roundw
      case rel => exact ⟨i + 1, by omega, by go_num, ⟨_, _, _, _, HNX.out⟩, SS10.out.1, SS10.out.2, (HBD.out.trans (HQ9.out.mono hzd)).setCell (by show w.heap.size ≤ b; omega) _, by simp [World.setCell]; omega⟩
      case measure => simp [intOf]; omega
    · have hin : i = bl S := by omega
      have HF : Hid (HalfG wr b Z.length Z A C lo tp) := by show HalfG _ _ _ _ _ _ _ _; rw [HZL.out, ← hin]; exact hh
      have HO := Lib.hid HF.out.own
      clear hh hbel hin
      go_wp2
      go_ret
      have h := HO.out
      rw [HZZ.out] at h
      exact ⟨_, _, by rw [← HZZ.out, HZL.out]; rfl, h.mono (by omega) (Nat.le_refl _), HB.out⟩

set_option maxRecDepth 100000 in
set_option maxHeartbeats 3200000 in
theorem rightMatrix_own (pS : Int) (aS : Option Addr) (S : List Int) (cS loS tpS : Nat) (ax : Option Addr) (x : List Int) (cx lox tpx : Nat) (w : World) (hs : isSp pS S = true) (hS : RowIn loS tpS w aS S) (tS : tpS ≤ w.heap.size) (hx : RowIn lox tpx w ax x) (tx : tpx ≤ w.heap.size) (mx : isMv pS S x = true) :
    Calls Tryz.prog 42 #[.agg #[.int .i64 pS, .slice aS S.length cS], .slice ax x.length cx] w (OwnNew (rightM pS S x) w) := by
  have HS := Lib.hid hS
  have Hx := Lib.hid hx
  have HI := Lib.hid hs
  have HMX := Lib.hid mx
  have k0 := nw0 w (.int .i64 pS) (.slice aS S.length cS) 26
  have k1 := nw1 w (.int .i64 pS) (.slice aS S.length cS) 26
  have HB0 := Lib.hid (below_alloc w (.cells #[.int .i64 pS, .slice aS S.length cS] 26))
  clear hS hx hs mx
  have h6 := (isSp_iff.1 HI.out).hi
  have hbl := bl_le h6
  have hb0 := bl_pos S
  have h0l : 0 < (colsR pS S x).length := by rw [colsR_len]; exact hb0
  have HLE : Hid (∀ i, i < (colsR pS S x).length → (rw' (colsR pS S x) i).length = (rw' (colsR pS S x) 0).length) := fun i hi => by
    rw [colsR_len] at hi
    rw [colsR_rl hi, colsR_rl hb0]
  have hn1 : (colsR pS S x).length ≤ 1024 := by rw [colsR_len]; omega
  have hn2 : (rw' (colsR pS S x) 0).length ≤ 1024 := by rw [colsR_rl hb0]; omega
  go_enter Tryz.func42, Tryz.ntmps42
  go_upto_region 1 with fail
  obtain ⟨w1, hw1⟩ : ∃ z, z = w.alloc (.cells #[.int .i64 pS, .slice aS S.length cS] 26) := ⟨_, rfl⟩
  rw [← hw1] at HB0 k0 k1 ⊢
  have hd1 : w.heap.size < w1.heap.size := by rw [hw1]; simp
  have HB1 := HB0
  clear hw1
  have SS1 := Lib.hid (And.intro k0 k1)
  go_wp2_with (first | (go_at_call 77; ((with_reducible refine (rightProducts_own pS aS S cS loS tpS ax x cx lox tpx w1 HI.out (HS.out.below HB1.out tS) (Nat.le_trans tS HB1.out.size) (Hx.out.below HB1.out tx) (Nat.le_trans tx HB1.out.size) HMX.out).mono ?_); rintro e w2 ⟨r2, c2, rfl, o_, b_⟩; have SS2 := Lib.hid (ss2 b_ hd1 SS1.out); have HB2 := Lib.hid (below_step HB1.out HB1.out.size b_); have hd2 := Nat.lt_of_lt_of_le hd1 b_.size; have HR := Lib.hid o_.mat; clear o_; clear k0 k1; obtain ⟨k0, k1⟩ := SS2.out; clear b_)) | (go_at_call 76; ((with_reducible refine (transposed_n r2 (colsR pS S x) _ c2 w1.heap.size w2.heap.size w2 rfl HR.out (Nat.le_refl _) h0l HLE.out hn1 hn2).mono ?_); rintro e w3 ⟨r3, c3, rfl, o_, b_⟩; have SS3 := Lib.hid (ss2 b_ hd2 SS2.out); have HB3 := Lib.hid (below_step HB2.out HB2.out.size b_); have hd3 := Nat.lt_of_lt_of_le hd2 b_.size; have HR3 := Lib.hid o_; clear o_; clear k0 k1; obtain ⟨k0, k1⟩ := SS3.out; clear b_)))
  go_ret
  have h := HR3.out
  rw [colsR_tr] at h
  exact ⟨r3, c3, by rw [colsR_tr]; rfl, h.mono HB2.out.size (Nat.le_refl _), HB3.out⟩

end Go.Proofs.YtijklpcelbnnjaaGreat

namespace Go.Proofs.YtijklpcelbnnjaaGreat
open Go.RowKit
set_option linter.unusedVariables false

theorem opposite_any (p a : Int) (w : World) (hp : prm p = true) (a0 : 0 ≤ a) (a1 : a < p) :
    Calls Tryz.prog 80 #[.int .i64 p, .int .i64 a] w fun e w' => e = .returned (.int .i64 (-a % p)) ∧ w = w' := by
  have hb := prm_bd hp
  have e2 : IntKind.i64.wrap (p - a) = p - a := IntWalk.i64_in _ (by omega)
  have hyy : (p - a) % p = -a % p := by simp
  have e3 : (p - a).tmod p = -a % p := (Int.tmod_eq_emod_of_nonneg (by omega)).trans hyy
  have hp0 : ¬ p = 0 := by omega
  have hp1 : (p == 0) = false := by simpa using hp0
  clear hyy hp
  go_enter Tryz.func80, Tryz.ntmps80
  go_wp2
  go_ret
  exact ⟨rfl, rfl⟩

theorem isNot0_any (x : Int) (w : World) :
    Calls Tryz.prog 118 #[.int .i64 x] w fun e w' => e = .returned (.bool (x != 0)) ∧ w = w' := by
  go_enter Tryz.func118, Tryz.ntmps118
  go_wp2
  go_ret
  exact ⟨rfl, rfl⟩

/-- The place of the first number that is not 0 from k on, or -1. -/
def fstAt (z : List Int) (k : Nat) : Prop := k < z.length ∧ (∀ j, j < k → z.getD j 0 = 0) ∧ z.getD k 0 ≠ 0

set_option maxHeartbeats 800000 in
theorem indexFunc_yes (a : Option Addr) (z : List Int) (n k ca lo tp : Nat) (w : World) (hz : RowIn lo tp w a z) (hn : z.length = n) (hl : n ≤ 1024) (hk : fstAt z k) :
    Calls Tryz.prog 117 #[.slice a n ca, .func (.func 118) #[] #[]] w fun e w' => e = .returned (.int .i64 k) ∧ w = w' := by
  subst hn
  have HZ := Lib.hid hz
  have HK := Lib.hid hk
  clear hz hk
  go_enter Tryz.func117, Tryz.ntmps117
  go_wp2
  go_loop [8] (fun t => ∃ i : Nat, i ≤ k ∧ t = .int .i64 i) (fun t => z.length - (intOf t).toNat)
  case atStart => exact ⟨0, Nat.zero_le _, rfl⟩
  case round =>
    obtain ⟨i, hi, rfl⟩ := hrel
    have hkl := HK.out.1
    have hi1 : (i : Int) < (z.length : Int) := by omega
    obtain ⟨b1, o1, ha1, _, _, hc1⟩ := HZ.out.num (by omega : i < z.length)
    subst ha1
    by_cases e : i = k
    · subst e
      have h3 := HK.out.2.2
      obtain ⟨x, hx⟩ : ∃ x, x = z.getD i 0 := ⟨_, rfl⟩
      rw [← hx] at hc1 h3
      have HX : Hid ((x != 0) = true) := by show _ = _; simpa using h3
      clear hx h3
      go_wp2_with (go_at_call 118; refine (isNot0_any x _).mono ?_; rintro e w1 ⟨rfl, rfl⟩; rw [HX.out])
      go_ret
      exact ⟨rfl, rfl⟩
    · have h2 := HK.out.2.1 i (by omega)
      rw [h2] at hc1
      go_wp2_with (go_at_call 118; refine (isNot0_any 0 _).mono ?_; rintro e w1 ⟨rfl, rfl⟩)
      go_round
      case rel => exact ⟨i + 1, by omega, by go_num⟩
      case measure => simp [intOf]; omega

set_option maxHeartbeats 800000 in
theorem indexFunc_no (a : Option Addr) (z : List Int) (n ca lo tp : Nat) (w : World) (hz : RowIn lo tp w a z) (hn : z.length = n) (hl : n ≤ 1024) (hk : ∀ j, j < z.length → z.getD j 0 = 0) :
    Calls Tryz.prog 117 #[.slice a n ca, .func (.func 118) #[] #[]] w fun e w' => e = .returned (.int .i64 (-1)) ∧ w = w' := by
  subst hn
  have HZ := Lib.hid hz
  have HK := Lib.hid hk
  clear hz hk
  go_enter Tryz.func117, Tryz.ntmps117
  go_wp2
  go_loop [8] (fun t => ∃ i : Nat, i ≤ z.length ∧ t = .int .i64 i) (fun t => z.length - (intOf t).toNat)
  case atStart => exact ⟨0, Nat.zero_le _, rfl⟩
  case round =>
    obtain ⟨i, hi, rfl⟩ := hrel
    by_cases hlt : i < z.length
    · have hi1 : (i : Int) < (z.length : Int) := by omega
      obtain ⟨b1, o1, ha1, _, _, hc1⟩ := HZ.out.num hlt
      subst ha1
      rw [HK.out i hlt] at hc1
      go_wp2_with (go_at_call 118; refine (isNot0_any 0 _).mono ?_; rintro e w1 ⟨rfl, rfl⟩)
      go_round
      case rel => exact ⟨i + 1, by omega, by go_num⟩
      case measure => simp [intOf]; omega
    · have hn : i = z.length := by omega
      subst hn
      go_wp2
      go_ret
      exact ⟨rfl, rfl⟩

theorem fst_cases (z : List Int) : (∃ k, fstAt z k) ∨ ∀ j, j < z.length → z.getD j 0 = 0 := by
  by_cases h : ∀ j, j < z.length → z.getD j 0 = 0
  · exact .inr h
  · left
    have h2 : ∃ k, k < z.length ∧ z.getD k 0 ≠ 0 := Classical.byContradiction fun c => h fun j hj => Classical.byContradiction fun d => c ⟨j, hj, d⟩
    have key : ∀ n, (∃ k, k ≤ n ∧ k < z.length ∧ z.getD k 0 ≠ 0) → ∃ k, fstAt z k := by
      intro n
      induction n with
      | zero =>
        rintro ⟨k, h1, h2, h3⟩
        have : k = 0 := by omega
        subst this
        exact ⟨0, h2, fun j hj => by omega, h3⟩
      | succ n ih =>
        rintro ⟨k, h1, h2, h3⟩
        by_cases e : ∃ k, k ≤ n ∧ k < z.length ∧ z.getD k 0 ≠ 0
        · exact ih e
        · refine ⟨k, h2, fun j hj => Classical.byContradiction fun d => e ⟨j, by omega, by omega, d⟩, h3⟩
    obtain ⟨k, k1, k2⟩ := h2
    exact key k ⟨k, Nat.le_refl _, k1, k2⟩

end Go.Proofs.YtijklpcelbnnjaaGreat
