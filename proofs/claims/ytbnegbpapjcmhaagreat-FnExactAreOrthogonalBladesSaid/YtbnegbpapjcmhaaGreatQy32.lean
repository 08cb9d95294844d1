/-
  Masks of pivots, the greatest number, lists compared: contracts of the program and of the model.
  Conditions: the lists are nil or rows of known cells, of at most 1048576 numbers.
  AreDependent: contracts of the program and of the model.
  Conditions: the lists are nil or rows of known cells, of at most 1048576 numbers.
  Squares, members, blades of lists: contracts of the program and of the model.
  Conditions: the lists are nil or rows of known cells, of at most 1048576 numbers.
-/
import Derived.Test.YtbnegbpapjcmhaaGreatQy31
import Derived.Test.YtbnegbpapjcmhaaGreatQy23
import Derived.BigQuiet
import Derived.Test.YtbnegbpapjcmhaaGreatQy18
import Derived.Test.YtbnegbpapjcmhaaGreatQy29
import Derived.Deep.RegionHeld3
import Derived.Deep.DeepCutAuto
namespace Go.Proofs.YtbnegbpapjcmhaaGreat
open Go.RowKit
set_option linter.unusedVariables false

theorem isNotZ_any (x : Int) (w : World) :
    Calls Tryz.prog 148 #[.int .i64 x] w fun e w' => e = .returned (.bool (x != 0)) ∧ w = w' := by
  go_enter Tryz.func148, Tryz.ntmps148
  go_wp2
  go_ret
  exact ⟨rfl, rfl⟩

set_option maxHeartbeats 800000 in
theorem pivFunc_yes (a : Option Addr) (z : List Int) (n k ca lo tp : Nat) (w : World) (hz : RowIn lo tp w a z) (hn : z.length = n) (hl : n ≤ 1024) (hk : fstAt z k) :
    Calls Tryz.prog 147 #[.slice a n ca, .func (.func 148) #[] #[]] w fun e w' => e = .returned (.int .i64 k) ∧ w = w' := by
  subst hn
  have HZ := Lib.hid hz
  have HK := Lib.hid hk
  clear hz hk
  go_enter Tryz.func147, Tryz.ntmps147
  go_wp2
  go_loop [8] (fun t => ∃ i : Nat, i ≤ k ∧ t = .int .i64 i) (fun t => z.length - (intOf t).toNat)
  case atStart => exact ⟨0, Nat.zero_le _, rfl⟩
  case round =>
    obtain ⟨i, hi, rfl⟩ := hrel
    have hkl := HK.out.1
    have hi1 : (i : Int) < (z.length : Int) := by omega
    obtain ⟨b1, o1, ha1, _, _, hc1⟩ := HZ.out.num (by omega : i < z.length)
    subst ha1
    by_cases e : i = k
    · subst e
      have h3 := HK.out.2.2
      obtain ⟨x, hx⟩ : ∃ x, x = z.getD i 0 := ⟨_, rfl⟩
      rw [← hx] at hc1 h3
      have HX : Hid ((x != 0) = true) := by show _ = _; simpa using h3
      clear hx h3
      go_wp2_with (go_at_call 148; refine (isNotZ_any x _).mono ?_; rintro e w1 ⟨rfl, rfl⟩; rw [HX.out])
      go_ret
      exact ⟨rfl, rfl⟩
    · have h2 := HK.out.2.1 i (by omega)
      rw [h2] at hc1
      go_wp2_with (go_at_call 148; refine (isNotZ_any 0 _).mono ?_; rintro e w1 ⟨rfl, rfl⟩)
      go_round
      case rel => exact ⟨i + 1, by omega, by go_num⟩
      case measure => simp [intOf]; omega

theorem or_64 {a b : Nat} (ha : a < 64) (hb : b < 64) : bits .or .i64 (a : Int) (b : Int) = ((a ||| b : Nat) : Int) := by
  have h : ∀ a : Nat, a < 64 → ∀ b : Nat, b < 64 → bits .or .i64 (a : Int) (b : Int) = ((a ||| b : Nat) : Int) := by decide +kernel
  exact h a ha b hb
set_option maxHeartbeats 1600000 in
theorem pivotMask_any (a : Option Addr) (m : List (List Int)) (ca lo tp : Nat) (P : Nat → Nat) (w : World) (hm : MatIn lo tp w a m) (hl : ∀ i, i < m.length → (rw' m i).length ≤ 1024) (hf : ∀ i, i < m.length → fstAt (rw' m i) (P i)) (h6 : ∀ i, i < m.length → P i < 6) (hn : m.length ≤ 1024) :
    Calls Tryz.prog 127 #[.slice a m.length ca] w fun e w' => e = .returned (.int .i64 (pm P m.length)) ∧ w = w' := by
  have HM := Lib.hid hm
  have HL := Lib.hid hl
  have HF := Lib.hid hf
  have H6 := Lib.hid h6
  clear hm hl hf h6
  go_enter Tryz.func127, Tryz.ntmps127
  go_wp2
  go_loop [3, 8] (fun u t => ∃ i : Nat, i ≤ m.length ∧ u = .int .i64 (pm P i) ∧ t = .int .i64 i) (fun _ t => m.length - (intOf t).toNat)
  case atStart => exact ⟨0, Nat.zero_le _, rfl, rfl⟩
  case round =>
    obtain ⟨i, hi, rfl, rfl⟩ := hrel
    by_cases hlt : i < m.length
    · have hi1 : (i : Int) < (m.length : Int) := by omega
      obtain ⟨b9, o9, rv, cv, ha9, _, _, hr9, hrow⟩ := HM.out.row hlt
      subst ha9
      have HR := Lib.hid hrow
      have h6 := H6.out i hlt
      have hl1 := HL.out i hlt
      obtain ⟨q, hq⟩ : ∃ q, q = 2 ^ P i := ⟨_, rfl⟩
      obtain ⟨M, hM⟩ : ∃ M, M = pm P i := ⟨_, rfl⟩
      have hM64 : M < 64 := by rw [hM]; exact pm_lt (Q := 6) P i fun j hj => H6.out j (by omega)
      have hq64 : q < 64 := by rw [hq]; exact (show 2 ^ P i < 2 ^ 6 from Nat.pow_lt_pow_right (by decide) h6)
      have e1 : wrap64 ((2 : Int) ^ P i) = (q : Int) := by rw [hq]; exact wrap_pow h6
      have e2 : IntKind.i64.wrap ((2 : Int) ^ P i) = (q : Int) := by rw [hq]; exact kwrap_pow h6
      have e3 : bits .or .i64 (M : Int) (q : Int) = ((M ||| q : Nat) : Int) := or_64 hM64 hq64
      have HN : Hid (M ||| q = pm P (i + 1)) := by show _ = _; rw [hM, hq]; rfl
      rw [← hM]
      clear hrow hq hM
      go_wp2_with (go_at_call 147; (with_reducible refine (pivFunc_yes rv (rw' m i) (rw' m i).length (P i) cv lo tp _ HR.out rfl hl1 (HF.out i hlt)).mono ?_); rintro e w1 ⟨rfl, rfl⟩)
      go_round
      case rel => exact ⟨i + 1, by omega, by rw [← HN.out], by go_num⟩
      case measure => simp [intOf]; omega
    · have hin : i = m.length := by omega
      subst hin
      go_wp2
      go_ret
      exact ⟨rfl, rfl⟩

set_option maxHeartbeats 1600000 in
theorem equal_any (a b : Option Addr) (za zb : List Int) (ca cb lo tp lo' tp' : Nat) (w : World) (ha : RowIn lo tp w a za) (hb : RowIn lo' tp' w b zb) (sa : za.length ≤ 1048576) :
    Calls Tryz.prog 129 #[.slice a za.length ca, .slice b zb.length cb] w fun e w' => e = .returned (.bool (decide (za = zb))) ∧ Quiet w w' := by
  have HA := Lib.hid ha
  have HB := Lib.hid hb
  clear ha hb
  by_cases hl : za.length = zb.length
  · have HL := Lib.hid hl
    obtain ⟨n, hn⟩ : ∃ n, n = zb.length := ⟨_, rfl⟩
    have HN := Lib.hid hn
    rw [hl] at sa ⊢
    rw [← hn] at sa ⊢
    clear hl hn
    go_enter Tryz.func129, Tryz.ntmps129
    go_wp2
    go_loopw [13] (fun t wr => ∃ i : Nat, i ≤ n ∧ t = .int .i64 i ∧ (∀ j, j < i → za.getD j 0 = zb.getD j 0) ∧ Quiet w wr) (fun t _ => n - (intOf t).toNat)
    case atStart => exact ⟨0, Nat.zero_le _, rfl, fun j hj => by omega, Quiet.refl _⟩
    case round =>
      obtain ⟨i, hi, rfl, hall, hq⟩ := hrel
      have HQ := Lib.hid hq
      have HALL := Lib.hid hall
      by_cases hlt : i < n
      · obtain ⟨b1, o1, ha1, _, _, hc1⟩ := (HA.out.same (hq.same _ _)).num (show i < za.length by rw [HL.out, ← HN.out]; exact hlt)
        obtain ⟨b2, o2, ha2, _, _, hc2⟩ := (HB.out.same (hq.same _ _)).num (show i < zb.length by rw [← HN.out]; exact hlt)
        subst ha1
        subst ha2
        have hi1 : (i : Int) < (n : Int) := by omega
        obtain ⟨x, hx⟩ : ∃ x, x = za.getD i 0 := ⟨_, rfl⟩
        obtain ⟨y, hy⟩ : ∃ y, y = zb.getD i 0 := ⟨_, rfl⟩
        have HX := Lib.hid hx
        have HY := Lib.hid hy
        rw [← hx] at hc1
        rw [← hy] at hc2
        clear hx hy hall hq
        by_cases hxy : x = y
        · have e1 : (x != y) = false := by simp [hxy]
          have HXY := Lib.hid hxy
          clear hxy
          go_wp2
          go_quiet (fail)
          go_wp2
          go_roundw
          case rel => exact ⟨i + 1, by omega, by go_num, fun j hj => by
            by_cases e : j = i
            · subst e; rw [← HX.out, ← HY.out, HXY.out]
            · exact HALL.out j (by omega), HQ.out.next _⟩
          case measure => simp [intOf]; omega
        · have e1 : (x != y) = true := by simp [hxy]
          have HR : Hid (decide (za = zb) = false) := decide_eq_false fun e => hxy (by rw [HX.out, HY.out, e])
          clear hxy
          go_wp2
          go_quiet (fail)
          go_wp2
          go_ret
          exact ⟨by rw [HR.out]; rfl, HQ.out.next _⟩
      · have hin : i = n := by omega
        subst hin
        have HR : Hid (decide (za = zb) = true) := decide_eq_true (row_ext HL.out (fun j hj => hall j (by rw [HN.out, ← HL.out]; exact hj)))
        clear hall hq
        go_wp2
        go_ret
        exact ⟨by rw [HR.out]; rfl, HQ.out⟩
  · have HR : Hid (decide (za = zb) = false) := decide_eq_false fun e => hl (by rw [e])
    obtain ⟨n, hn⟩ : ∃ n, n = za.length := ⟨_, rfl⟩
    obtain ⟨m, hm⟩ : ∃ m, m = zb.length := ⟨_, rfl⟩
    rw [← hn, ← hm] at hl ⊢
    have hl2 : ((n : Int) != (m : Int)) = true := by simp; omega
    go_enter Tryz.func129, Tryz.ntmps129
    go_wp2
    go_ret
    exact ⟨by rw [HR.out]; rfl, Quiet.refl _⟩

end Go.Proofs.YtbnegbpapjcmhaaGreat

namespace Go.Proofs.YtbnegbpapjcmhaaGreat
open Go.RowKit
set_option linter.unusedVariables false

theorem live4b {B : Nat} {w w' : World} (h : Below B w w') {g : Nat} {u v : Value} (l : g < B) (k : w.cell? ⟨g, 0, none⟩ = some u ∧ w.cell? ⟨g, 1, none⟩ = some v ∧ w.frozen? ⟨g, 0, none⟩ = false ∧ w.frozen? ⟨g, 1, none⟩ = false) : w'.cell? ⟨g, 0, none⟩ = some u ∧ w'.cell? ⟨g, 1, none⟩ = some v ∧ w'.frozen? ⟨g, 0, none⟩ = false ∧ w'.frozen? ⟨g, 1, none⟩ = false :=
  ⟨(h.cell (p := ⟨g, 0, none⟩) l).trans k.1, (h.cell (p := ⟨g, 1, none⟩) l).trans k.2.1, (h.frozen (p := ⟨g, 0, none⟩) l).trans k.2.2.1, (h.frozen (p := ⟨g, 1, none⟩) l).trans k.2.2.2⟩
set_option maxRecDepth 100000 in
set_option maxHeartbeats 3200000 in
theorem squareX_any (pS : Int) (aS : Option Addr) (S : List Int) (cS loS tpS : Nat) (ax : Option Addr) (x : List Int) (cx lox tpx : Nat) (w : World) (hs : isSp pS S = true) (hS : RowIn loS tpS w aS S) (tS : tpS ≤ w.heap.size) (hx : RowIn lox tpx w ax x) (tx : tpx ≤ w.heap.size) (mx : isMv pS S x = true) :
    Calls Tryz.prog 69 #[.agg #[.int .i64 pS, .slice aS S.length cS, .slice ax x.length cx]] w (fun e w' => e = .returned (.agg #[.int .i64 pS, .int .i64 (prodF pS S x x 0)]) ∧ Below w.heap.size w w') := by
  have HI := Lib.hid hs
  have HS := Lib.hid hS
  have Hx := Lib.hid hx
  have HMx := Lib.hid mx
  have h6 := (isSp_iff.1 hs).hi
  have hpb := prm_bd (isSp_iff.1 hs).prime
  have hbl := bl_le h6
  have hb0 := bl_pos S
  have HB0 := Lib.hid (below_alloc w (.cells #[.int .i64 pS, .slice aS S.length cS, .slice ax x.length cx] 50))
  have k0 := BoxX.new w pS aS S.length cS ax x.length cx 50
  have hi0 : (0 : Int) < ((bl S : Nat) : Int) := by omega
  clear hs hS hx mx
  go_enter Tryz.func69, Tryz.ntmps69
  go_upto_region 1 with fail
  obtain ⟨w0, hw0'⟩ : ∃ z, z = w.alloc (.cells #[.int .i64 pS, .slice aS S.length cS, .slice ax x.length cx] 50) := ⟨_, rfl⟩
  rw [← hw0'] at HB0 k0 ⊢
  have hw0 : w.heap.size < w0.heap.size := by rw [hw0']; simp
  have hwz : w.heap.size + 1 = w0.heap.size := by rw [hw0']; simp
  try rw [hwz]
  clear hw0'
  obtain ⟨w1, hw1⟩ : ∃ z, z = w0.alloc (.cells #[.int .i64 0, .int .i64 0] 74) := ⟨_, rfl⟩
  obtain ⟨g, hg⟩ : ∃ b, b = w0.heap.size := ⟨_, rfl⟩
  have hs0 : BoxX w.heap.size pS aS S.length cS ax x.length cx w1 := by rw [hw1]; exact k0.below (below_alloc w0 _) hw0
  have z0 : w1.cell? ⟨g, 0, none⟩ = some (.int .i64 0) := by rw [hw1, hg]; simp [go_sem]
  have z1 : w1.cell? ⟨g, 1, none⟩ = some (.int .i64 0) := by rw [hw1, hg]; simp [go_sem]
  have y0 : w1.frozen? ⟨g, 0, none⟩ = false := by rw [hw1, hg]; simp [go_sem]
  have y1 : w1.frozen? ⟨g, 1, none⟩ = false := by rw [hw1, hg]; simp [go_sem]
  have HB1 : Hid (Below w.heap.size w w1) := by show Below _ _ _; rw [hw1]; exact HB0.out.alloc HB0.out.size _
  have hg1 : g < w1.heap.size := by rw [hw1, hg]; simp
  have hwg : w.heap.size < g := by omega
  have hngw : w.heap.size ≠ g := by omega
  rw [← hw1]
  rw [← hg]
  clear hw1 hwz hg
  have hs1 : Hid (BoxX w.heap.size pS aS S.length cS ax x.length cx w1.drew) := hs0
  have HBD : Hid (Below w.heap.size w w1.drew) := HB1.out.drew
  have hd0 : w.heap.size < w1.drew.heap.size := Nat.lt_trans hwg hg1
  have gd : g < w1.drew.heap.size := hg1
  have zz0_ : Hid (w1.drew.cell? ⟨g, 0, none⟩ = some (.int .i64 0) ∧ w1.drew.cell? ⟨g, 1, none⟩ = some (.int .i64 0) ∧ w1.drew.frozen? ⟨g, 0, none⟩ = false ∧ w1.drew.frozen? ⟨g, 1, none⟩ = false) := ⟨z0, z1, y0, y1⟩
  clear z0 z1 y0 y1 k0 hs0
  refine wp_region_noPanic ?_
  refine wp_region_held_drew (S := fun w' => w'.cell? ⟨w.heap.size, 0, none⟩ = some (.int .i64 pS) ∧ w'.cell? ⟨w.heap.size, 1, none⟩ = some (.slice aS S.length cS) ∧ w'.cell? ⟨w.heap.size, 2, none⟩ = some (.slice ax x.length cx)) (by kernel_rfl) (hs1.out) (fun hHeld => ?_)
  (refine wpAnyH_take (i := 0) (oi := _) (v := ?_) rfl (by kernel_rfl) (by kernel_rfl) (by kernel_rfl) (fun _ _ _ h => h) (Or.inl ⟨by rfl, ?_⟩) (by assumption) ?_; rotate_left; (focus (intro w' hSw; (try dsimp only at hSw); first | (go_simp; done) | (go_simp; with_reducible rfl)))); ((try simp only [Act.put]); (try simp only [List.setIfInBounds_toArray]); (try simp only [List.set_cons_succ]); (try simp only [List.set_cons_zero]))
  (refine wpAnyH_take (i := 1) (oi := _) (v := ?_) rfl (by kernel_rfl) (by kernel_rfl) (by kernel_rfl) (fun _ _ _ h => h) (Or.inl ⟨by rfl, ?_⟩) (by assumption) ?_; rotate_left; (focus (intro w' hSw; (try dsimp only at hSw); first | (go_simp; done) | (go_simp; with_reducible rfl)))); ((try simp only [Act.put]); (try simp only [List.setIfInBounds_toArray]); (try simp only [List.set_cons_succ]); (try simp only [List.set_cons_zero]))
  (refine wpAnyH_take (i := 2) (oi := _) (v := ?_) rfl (by kernel_rfl) (by kernel_rfl) (by kernel_rfl) (fun _ _ _ h => h) (Or.inl ⟨by rfl, ?_⟩) (by assumption) ?_; rotate_left; (focus (intro w' hSw; (try dsimp only at hSw); first | (go_simp; done) | (go_simp; with_reducible rfl)))); ((try simp only [Act.put]); (try simp only [List.setIfInBounds_toArray]); (try simp only [List.set_cons_succ]); (try simp only [List.set_cons_zero]))
  (refine wpAnyH_take (i := 3) (oi := _) (v := ?_) rfl (by kernel_rfl) (by kernel_rfl) (by kernel_rfl) (fun _ _ _ h => h) (Or.inl ⟨by rfl, ?_⟩) (by assumption) ?_; rotate_left; (focus (intro w' hSw; (try dsimp only at hSw); first | (go_simp; done) | (go_simp; with_reducible rfl)))); ((try simp only [Act.put]); (try simp only [List.setIfInBounds_toArray]); (try simp only [List.set_cons_succ]); (try simp only [List.set_cons_zero]))
  (refine wpAnyH_take (i := 4) (oi := _) (v := ?_) rfl (by kernel_rfl) (by kernel_rfl) (by kernel_rfl) (fun _ _ _ h => h) (Or.inl ⟨by rfl, ?_⟩) (by assumption) ?_; rotate_left; (focus (intro w' hSw; (try dsimp only at hSw); first | (go_simp; done) | (go_simp; with_reducible rfl)))); ((try simp only [Act.put]); (try simp only [List.setIfInBounds_toArray]); (try simp only [List.set_cons_succ]); (try simp only [List.set_cons_zero]))
  (refine wpAnyH_take (i := 5) (oi := _) (v := ?_) rfl (by kernel_rfl) (by kernel_rfl) (by kernel_rfl) (fun _ _ _ h => h) (Or.inl ⟨by rfl, ?_⟩) (by assumption) ?_; rotate_left; (focus (intro w' hSw; (try dsimp only at hSw); first | (go_simp; done) | (go_simp; with_reducible rfl)))); ((try simp only [Act.put]); (try simp only [List.setIfInBounds_toArray]); (try simp only [List.set_cons_succ]); (try simp only [List.set_cons_zero]))
  (refine wpAnyH_take (i := 6) (oi := _) (v := ?_) rfl (by kernel_rfl) (by kernel_rfl) (by kernel_rfl) (fun _ _ _ h => h) (Or.inl ⟨by rfl, ?_⟩) (by assumption) ?_; rotate_left; (focus (intro w' hSw; (try dsimp only at hSw); first | (go_simp; done) | (go_simp; with_reducible rfl)))); ((try simp only [Act.put]); (try simp only [List.setIfInBounds_toArray]); (try simp only [List.set_cons_succ]); (try simp only [List.set_cons_zero]))
  (refine wpAnyH_take (i := 7) (oi := _) (v := ?_) rfl (by kernel_rfl) (by kernel_rfl) (by kernel_rfl) (fun _ _ _ h => h) (Or.inl ⟨by rfl, ?_⟩) (by assumption) ?_; rotate_left; (focus (intro w' hSw; (try dsimp only at hSw); first | (go_simp; done) | (go_simp; with_reducible rfl)))); ((try simp only [Act.put]); (try simp only [List.setIfInBounds_toArray]); (try simp only [List.set_cons_succ]); (try simp only [List.set_cons_zero]))
  (refine wpAnyH_take (i := 8) (oi := _) (v := ?_) rfl (by kernel_rfl) (by kernel_rfl) (by kernel_rfl) (fun _ _ _ h => h) (Or.inl ⟨by rfl, ?_⟩) (by assumption) ?_; rotate_left; (focus (intro w' hSw; (try dsimp only at hSw); first | (go_simp; done) | (go_simp; with_reducible rfl)))); ((try simp only [Act.put]); (try simp only [List.setIfInBounds_toArray]); (try simp only [List.set_cons_succ]); (try simp only [List.set_cons_zero]))
  refine wpAnyH_ready (rs := [9]) (by kernel_rfl) (by simp) ?_
  refine AllReadyH.cons (o := _) rfl (fun K hK => ?_) AllReadyH.nil
  go_simp; go_at_call 108; (with_reducible refine (product_any pS aS S cS loS tpS ax x cx lox tpx ax x cx lox tpx w1.drew (isSp_iff.1 HI.out).prime h6 (HS.out.below HBD.out tS) (Nat.le_trans tS (HBD.out).size) (sp_nums HI.out) (Hx.out.below HBD.out tx) (Nat.le_trans tx (HBD.out).size) (Mv.len HMx.out) (Mv.nums HMx.out) (Hx.out.below HBD.out tx) (Nat.le_trans tx (HBD.out).size) (Mv.len HMx.out) (Mv.nums HMx.out)).mono ?_); rintro e wa ⟨ba, rfl, l_, u_, o_, b_⟩; have SSa := Lib.hid ((hs1.out).below b_ hd0); have HBa := Lib.hid (below_step HBD.out (Nat.le_of_lt hd0) b_); have zz_ := b_.size; have hda := Nat.lt_of_lt_of_le hd0 zz_; have la := Nat.lt_of_lt_of_le hd0 l_; have ua_a := u_; have Na_a := Lib.hid o_; have Ra_a := Lib.hid ((o_.own (Nat.le_of_lt la) u_).row); have zz_a := Lib.hid (live4b b_ gd zz0_.out); have gd_a := Nat.lt_of_lt_of_le gd zz_; obtain ⟨z0_, z1_, y0_, y1_⟩ := zz_a.out; have c0_ := Na_a.out.cell 0 hb0; rw [Nat.zero_add] at c0_; clear b_ o_; (try go_wp2_with fail)
  refine hK.out _ _ (SSa.out) (fun hHeld => ?_)
  clear hK K
  ((try simp only [Act.put]); (try simp only [List.setIfInBounds_toArray]); (try simp only [List.set_cons_succ]); (try simp only [List.set_cons_zero]))
  (refine wpAnyH_take (i := 10) (oi := _) (v := ?_) rfl (by kernel_rfl) (by kernel_rfl) (by kernel_rfl) (fun _ _ _ h => h) (Or.inl ⟨by rfl, ?_⟩) (by assumption) ?_; rotate_left; (focus (intro w' hSw; (try dsimp only at hSw); first | (go_simp; done) | (go_simp; with_reducible rfl)))); ((try simp only [Act.put]); (try simp only [List.setIfInBounds_toArray]); (try simp only [List.set_cons_succ]); (try simp only [List.set_cons_zero]))
  refine wpAnyH_ready (rs := [11]) (by kernel_rfl) (by simp) ?_
  refine AllReadyH.cons (o := _) rfl (fun K hK => ?_) AllReadyH.nil
  go_simp
  refine hK.out _ _ (hHeld) (fun hHeld => ?_)
  clear hK K
  ((try simp only [Act.put]); (try simp only [List.setIfInBounds_toArray]); (try simp only [List.set_cons_succ]); (try simp only [List.set_cons_zero]))
  (refine wpAnyH_take (i := 12) (oi := _) (v := ?_) rfl (by kernel_rfl) (by kernel_rfl) (by kernel_rfl) (fun _ _ _ h => h) (Or.inl ⟨by rfl, ?_⟩) (by assumption) ?_; rotate_left; (focus (intro w' hSw; (try dsimp only at hSw); first | (go_simp; done) | (go_simp; with_reducible rfl)))); ((try simp only [Act.put]); (try simp only [List.setIfInBounds_toArray]); (try simp only [List.set_cons_succ]); (try simp only [List.set_cons_zero]))
  refine wpAnyH_ready (rs := [13]) (by kernel_rfl) (by simp) ?_
  refine AllReadyH.cons (o := _) rfl (fun K hK => ?_) AllReadyH.nil
  go_simp
  refine hK.out _ _ ((SSa.out.put (o := 0) (v := .int .i64 pS) hngw).put (o := 1) (v := .int .i64 (prodF pS S x x 0)) hngw) (fun hHeld => ?_)
  clear hK K
  ((try simp only [Act.put]); (try simp only [List.setIfInBounds_toArray]); (try simp only [List.set_cons_succ]); (try simp only [List.set_cons_zero]))
  refine wpAnyH_done (by kernel_rfl) ?_ _
  refine NoPanic.normal ?_
  go_wp2
  refine bodyPost_ret (v := .agg #[.int .i64 pS, .int .i64 (prodF pS S x x 0)]) (by simp [results, Tryz.results69, go_sem, z0_, z1_]) rfl ⟨rfl, ?_⟩
  exact (HBa.out.setCell (Nat.le_of_lt hwg) _).setCell (Nat.le_of_lt hwg) _

theorem Vec.num' {p : Int} {n : Nat} {v : List Int} (h : Vec p n v) {j : Nat} (hj : j < n) : 0 ≤ v.getD j 0 ∧ v.getD j 0 < p := by
  have hj' : j < v.length := by rw [h.len]; exact hj
  have := List.all_eq_true.1 h.all (v[j]) (List.getElem_mem hj')
  rw [getD_at hj']
  exact inr_iff.1 this
end Go.Proofs.YtbnegbpapjcmhaaGreat
