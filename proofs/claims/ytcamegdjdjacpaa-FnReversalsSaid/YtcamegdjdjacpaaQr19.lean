/-
  GradesOf: contracts of the program and of the model.
  Conditions: the lists are nil or rows of known cells, of at most 1048576 numbers.
-/
import Derived.Test.YtcamegdjdjacpaaQr17
import Derived.Test.YtcamegdjdjacpaaQr18
import Derived.Laws.AppendOwn
namespace Go.Proofs.Ytcamegdjdjacpaa
open Go.RowKit
set_option linter.unusedVariables false

def gradesTo (x : List Int) (k : Nat) : List Int := ((List.range k).filter (hasGr x)).map fun (k : Nat) => (k : Int)
theorem grades_eq (S x : List Int) : grades S x = gradesTo x (S.length + 1) := rfl
theorem gradesTo_yes {x : List Int} {k : Nat} (h : hasGr x k = true) : gradesTo x (k + 1) = gradesTo x k ++ [(k : Int)] := by
  unfold gradesTo; rw [List.range_succ, List.filter_append, List.map_append]; simp [h]
theorem gradesTo_no {x : List Int} {k : Nat} (h : hasGr x k = false) : gradesTo x (k + 1) = gradesTo x k := by
  unfold gradesTo; rw [List.range_succ, List.filter_append, List.map_append]; simp [h]
theorem gradesTo_le (x : List Int) (k : Nat) : (gradesTo x k).length ≤ k := by
  unfold gradesTo; rw [List.length_map]; exact Nat.le_trans (List.length_filter_le _ _) (by simp)
theorem hasGr_far {S x : List Int} (hS : S.length ≤ 6) (hx : x.length = bl S) {k : Nat} (hk : S.length < k) : hasGr x k = false := by
  cases e : hasGr x k with
  | false => rfl
  | true =>
    obtain ⟨j, h1, h2, _⟩ := hasGr_iff.1 e
    have := gr_le_of hS (m := j) (by rw [hx] at h1; exact h1)
    omega
theorem gradesTo_far {S x : List Int} (hS : S.length ≤ 6) (hx : x.length = bl S) : ∀ d, gradesTo x (S.length + 1 + d) = gradesTo x (S.length + 1)
  | 0 => rfl
  | d + 1 => by
    rw [← gradesTo_far hS hx d]
    exact gradesTo_no (hasGr_far hS hx (show S.length < S.length + 1 + d by omega))
theorem gradesTo_seven {S x : List Int} (hS : S.length ≤ 6) (hx : x.length = bl S) : gradesTo x 7 = grades S x := by
  have h := gradesTo_far hS hx (6 - S.length)
  rw [show S.length + 1 + (6 - S.length) = 7 by omega] at h
  rw [h]; rfl
theorem OutR.more {B : Nat} {w1 : World} {v' : Value} {zs ys : List Int} {N : Nat} {X : List Value} {k : Int} (hX : X = zs.map (Value.int .i64)) (hN : N = zs.length) (hs : ys = zs ++ [k]) (h1 : w1.ownsRow B 2 1 v' (N + 1) (X ++ [.int .i64 k])) : OutR B w1 v' ys := by
  subst hs hN hX
  unfold OutR
  rw [List.length_append, List.map_append]
  exact h1
def gradesV (p : Int) (S x : List Int) : List Int := if codeMv p S [x] = 0 then grades S x else []
theorem gradesV_size (p : Int) (S x : List Int) : (gradesV p S x).length ≤ 1048576 := by
  unfold gradesV; split
  · rename_i h; have := gradesTo_le x (S.length + 1); have h6 := codeMv_sp' h; rw [grades_eq]; omega
  · simp
def Nz (n : Nat) (f : Nat → Int) : Prop := ∃ j, j < n ∧ f j ≠ 0
theorem pg_has {x : List Int} {k : Nat} : Nz x.length (pg x k) ↔ hasGr x k = true := by
  rw [hasGr_iff]
  constructor
  · rintro ⟨j, h1, h2⟩
    unfold pg at h2
    by_cases e : ((gr j : Nat) : Int) = k
    · rw [if_pos e] at h2; exact ⟨j, h1, by omega, h2⟩
    · rw [if_neg e] at h2; exact absurd rfl h2
  · rintro ⟨j, h1, h2, h3⟩
    exact ⟨j, h1, by unfold pg; rw [if_pos (by rw [h2])]; exact h3⟩

set_option maxHeartbeats 1600000 in
theorem l02First_sign (b n : Nat) (f : Nat → Int) (c : Nat) (w : World) (h : RowOwn w b 0 n f) (hn : n ≤ 1048576) :
    Calls Try.prog 173 #[.slice (some ⟨b, 0, none⟩) n c] w fun e w' => ∃ r, e = .returned (.int .i64 r) ∧ (Nz n f → 0 ≤ r) ∧ (¬ Nz n f → r = -1) ∧ w = w' := by
  have H := Lib.hid h
  clear h
  go_enter Try.func173, Try.ntmps173
  go_wp2
  go_loop [3] (fun t => ∃ k : Nat, k ≤ n ∧ t = .int .i64 k ∧ ∀ j, j < k → f j = 0) (fun t => n - (intOf t).toNat)
  case atStart => exact ⟨0, Nat.zero_le _, rfl, fun j hj => by omega⟩
  case round =>
    obtain ⟨k, hk, rfl, hall⟩ := hrel
    have HA := Lib.hid hall
    clear hall
    by_cases hlt : k < n
    · have hc := H.out.cell k hlt
      rw [Nat.zero_add] at hc
      have hi1 : (k : Int) < (n : Int) := by omega
      obtain ⟨y, hy⟩ : ∃ y, y = f k := ⟨_, rfl⟩
      have HY := Lib.hid hy
      rw [← hy] at hc
      clear hy
      by_cases h0 : y = 0
      · have e0 : (y != 0) = false := by simp [h0]
        go_wp2
        go_round
        case rel => exact ⟨k + 1, by omega, by go_num, fun j hj => by
          by_cases e : j = k
          · subst e; rw [← HY.out]; exact h0
          · exact HA.out j (by omega)⟩
        case measure => simp [intOf]; omega
      · have e0 : (y != 0) = true := by simp [h0]
        go_wp2
        go_ret
        exact ⟨k, rfl, fun _ => by omega, fun hno => (hno ⟨k, hlt, by rw [← HY.out]; exact h0⟩).elim, rfl⟩
    · go_wp2
      go_ret
      refine ⟨-1, rfl, fun h => ?_, fun _ => rfl, rfl⟩
      obtain ⟨j, h1, h2⟩ := h
      exact absurd (HA.out j (by omega)) h2

set_option maxRecDepth 100000 in
set_option maxHeartbeats 3200000 in
theorem l04Grades_any (p : Int) (aS : Option Addr) (S : List Int) (cS : Nat) (ax : Option Addr) (x : List Int) (cx lox tpx : Nat) (w : World) (h6 : S.length ≤ 6) (hx : RowIn lox tpx w ax x) (tx : tpx ≤ w.heap.size) (sx : x.length ≤ 64) :
    Calls Try.prog 108 #[.agg #[.int .i64 p, .slice aS S.length cS], .slice ax x.length cx] w (SRow (grades S x) w) := by
  obtain ⟨i0, hi, hz0, hz1, hz2⟩ := info_parts info64
  have Hx := Lib.hid hx
  have HB0 := Lib.hid (below_alloc w (.cells #[.int .i64 p, .slice aS S.length cS] 26))
  have k1 := nw1 w (.int .i64 p) (.slice aS S.length cS) 26
  clear hx
  go_enter Try.func108, Try.ntmps108
  go_upto_region 1 with fail
  obtain ⟨w1, hw1⟩ : ∃ z, z = w.alloc (.cells #[.int .i64 p, .slice aS S.length cS] 26) := ⟨_, rfl⟩
  rw [← hw1] at HB0 k1
  rw [← hw1]
  have hw0 : w.heap.size < w1.heap.size := by rw [hw1]; simp
  clear hw1
  go_wp2
  go_loopw [5, 6] (fun v t wr => ∃ i : Nat, i ≤ S.length + 1 ∧ t = .int .i64 i ∧ OutR w1.heap.size wr v (gradesTo x i) ∧ wr.cell? ⟨w.heap.size, 1, none⟩ = some (.slice aS S.length cS) ∧ Below w1.heap.size w1 wr) (fun _ t _ => S.length + 1 - (intOf t).toNat)
  case atStart => exact ⟨0, Nat.zero_le _, rfl, OutR.start w1 _ _ (Nat.le_refl _) rfl, ca0 k1, below_alloc w1 _⟩
  case round =>
    obtain ⟨i, hi', rfl, ho, hk, hbel⟩ := hrel
    have HO := Lib.hid ho
    have HB := Lib.hid hbel
    have HK := Lib.hid hk
    have hwz := hbel.size
    clear ho hbel
    by_cases hlt : i ≤ S.length
    · have hi1 : (i : Int) ≤ (S.length : Int) := by omega
      have HXR := Lib.hid ((Hx.out.below HB0.out tx).below HB.out (by omega))
      obtain ⟨N, hN⟩ : ∃ N, N = (gradesTo x i).length := ⟨_, rfl⟩
      have hN7 : N ≤ 7 := by have := gradesTo_le x i; omega
      have HN := Lib.hid hN
      obtain ⟨X, hX⟩ : ∃ X, X = (gradesTo x i).map (Value.int .i64) := ⟨_, rfl⟩
      have HX := Lib.hid hX
      have HO2 : Hid (wr.ownsRow w1.heap.size 2 1 u5 N X) := by
        have := HO.out; unfold OutR at this; rw [← hN, ← hX] at this; exact this
      have n0 : u5.ownBlock ≠ some w.heap.size := fun e => by have := (HO2.out.lt _ e).1; omega
      clear hX hN
      by_cases hg : hasGr x i = true
      · have HSU := Lib.hid (gradesTo_yes hg)
        have HEX := Lib.hid (pg_has.2 hg)
        clear hg
        go_wp2_with (first | (go_at_call 174; (with_reducible refine (l04Part_any ax x cx lox tpx i wr HXR.out (by omega) sx).mono ?_); rintro e w3 ⟨d3, rfl, l3, u3', o3, b3⟩; have O3 := Lib.hid o3; have B3 := Lib.hid b3; have z3 := b3.size; have HV3 := Lib.hid (HO2.out.kept (below_grown b3) (by cases hv : Value.ownBlock u5 <;> simp)); have hk3 := (b3.cell (p := ⟨w.heap.size, 1, none⟩) (show w.heap.size < wr.heap.size by omega)).trans HK.out; clear o3 b3) | (go_at_call 173; (with_reducible refine (l02First_sign d3 x.length _ _ w3 O3.out (by omega)).mono ?_); rintro e w4 ⟨r4, rfl, hr4, hr5, rfl⟩; have hr6 := hr4 HEX.out; clear hr4 hr5) | (at_builtin; refine wpList_append_lies _ rfl _ _ 24 rfl w1.heap.size 2 i0 (.int .i64 0) 1 8 Try.underlying24 hi hz0 hz1 hz2 rfl (by decide) u5 N X rfl (HV3.out.alloc _) ⟨w3.heap.size, 0, none⟩ 1 1 [.int .i64 i] rfl rfl (World.news_of_block (cs := #[.int .i64 i]) (t := 2) (fr := (0, 0)) (heap_alloc_new w3 _)) (by simp [Value.oneCell']) (by omega) (by unfold maxLen; omega) (by omega) (by simp; omega) (w3.heap.size + 1) (by simp) ?_; intro gg cap w1 hown1 hgrow hat hlt1))
        go_wp2
        go_roundw
        case rel => exact ⟨i + 1, by omega, by go_num, OutR.more HX.out HN.out HSU.out hown1, (hgrow.cell_far ⟨w.heap.size, 1, none⟩ (by simp; omega) (Ne.symm n0)).trans (ca0 hk3), ((HB.out.trans (B3.out.mono hwz)).alloc (by omega) _).grown hgrow (by simp; omega) (fun _ hk => (HO2.out.lt _ hk).1)⟩
        case measure => simp [intOf]; omega
      · have hg' : hasGr x i = false := by simpa using hg
        have HSU := Lib.hid (gradesTo_no hg')
        have HEX : Hid (¬ Nz x.length (pg x i)) := fun e => hg (pg_has.1 e)
        clear hg hg'
        go_wp2_with (first | (go_at_call 174; (with_reducible refine (l04Part_any ax x cx lox tpx i wr HXR.out (by omega) sx).mono ?_); rintro e w3 ⟨d3, rfl, l3, u3', o3, b3⟩; have O3 := Lib.hid o3; have B3 := Lib.hid b3; have z3 := b3.size; have HV3 := Lib.hid (HO2.out.kept (below_grown b3) (by cases hv : Value.ownBlock u5 <;> simp)); have hk3 := (b3.cell (p := ⟨w.heap.size, 1, none⟩) (show w.heap.size < wr.heap.size by omega)).trans HK.out; clear o3 b3) | (go_at_call 173; (with_reducible refine (l02First_sign d3 x.length _ _ w3 O3.out (by omega)).mono ?_); rintro e w4 ⟨r4, rfl, hr4, hr5, rfl⟩; have hr6 := hr5 HEX.out; clear hr4 hr5; subst hr6))
        go_roundw
        case rel => exact ⟨i + 1, by omega, by go_num, by rw [HSU.out]; unfold OutR; rw [← HN.out, ← HX.out]; exact HV3.out, hk3, HB.out.trans (B3.out.mono hwz)⟩
        case measure => simp [intOf]; omega
    · have hn : i = S.length + 1 := by omega
      subst hn
      have hi1 : (S.length : Int) < ((S.length + 1 : Nat) : Int) := by omega
      obtain ⟨a8, c8, e8, ht8⟩ := HO.out.tag
      subst e8
      have HT8 := Lib.hid ht8
      clear ht8
      go_wp2
      go_ret
      exact ⟨a8, c8, by rw [grades_eq]; rfl, by rw [grades_eq]; exact HT8.out.row.mono (by omega) (Nat.le_refl _), HB0.out.trans (HB.out.mono (by omega))⟩

theorem on_one (ax : Option Addr) (x : List Int) (cx lox tpx : Nat) (w : World) (hx : RowIn lox tpx w ax x) (tx : tpx ≤ w.heap.size) (sx : x.length ≤ 64) (nx : ∀ j, j < x.length → -100 ≤ x.getD j 0 ∧ x.getD j 0 ≤ 100) :
    Calls Try.prog 106 #[.agg #[.int .i64 1, .int .i64 1, .int .i64 1, .int .i64 1, .int .i64 1, .int .i64 1, .int .i64 1], .slice ax x.length cx] w fun e w' => e = .returned (.agg #[.int .i64 (kp (fun _ => 1) x 0), .int .i64 (kp (fun _ => 1) x 1), .int .i64 (kp (fun _ => 1) x 2), .int .i64 (kp (fun _ => 1) x 3), .int .i64 (kp (fun _ => 1) x 4), .int .i64 (kp (fun _ => 1) x 5), .int .i64 (kp (fun _ => 1) x 6)]) ∧ Below w.heap.size w w' := on_any (fun _ => 1) ax x cx lox tpx w hx tx sx nx

set_option maxRecDepth 100000 in
set_option maxHeartbeats 1600000 in
theorem spec_GradesOf (pS : Int) (aS : Option Addr) (S : List Int) (cS loS tpS : Nat) (ax : Option Addr) (x : List Int) (cx lox tpx : Nat) (w : World) (hS : RowIn loS tpS w aS S) (tS : tpS ≤ w.heap.size) (sS : S.length ≤ 1048576) (hx : RowIn lox tpx w ax x) (tx : tpx ≤ w.heap.size) (sx : x.length ≤ 1048576) :
    Calls Try.prog 42 #[.agg #[.int .i64 pS, .slice aS S.length cS], .slice ax x.length cx] w (SpecR (gradesV pS S x) (codeMv pS S [x]) w) := by
  have HS := Lib.hid hS
  have Hx := Lib.hid hx
  clear hS hx
  rcases codeMv_cases pS S [x] with ⟨hi, hc⟩ | ⟨hi, ha, hc⟩ | ⟨hi, ha, hc⟩
  · have HI := Lib.hid hi
    have HC := Lib.hid hc
    have HV : Hid (gradesV pS S x = []) := by show _ = _; unfold gradesV; rw [if_neg (by rw [hc]; decide)]
    clear hi hc
    go_enter Try.func42, Try.ntmps42
    go_wp2_with (first | (go_at_call 83; go_loud ((with_reducible refine (codeM1 pS aS S cS loS tpS ax x cx lox tpx (w.heap.size + 1) _ _ _ (by simp) (HS.out.below ((Below.refl _ _).alloc (Nat.le_refl _) (.cells #[.int .i64 pS, .slice aS S.length cS] 26)) tS) (Nat.le_trans tS (((Below.refl _ _).alloc (Nat.le_refl _) (.cells #[.int .i64 pS, .slice aS S.length cS] 26))).size) sS (Hx.out.below ((Below.refl _ _).alloc (Nat.le_refl _) (.cells #[.int .i64 pS, .slice aS S.length cS] 26)) tx) (Nat.le_trans tx (((Below.refl _ _).alloc (Nat.le_refl _) (.cells #[.int .i64 pS, .slice aS S.length cS] 26))).size) sx).mono ?_); rintro e w3 ⟨rfl, b3⟩; rw [HC.out]; have B3 := Lib.hid b3; have K3_0_0 := (b3.cell (p := ⟨w.heap.size, 0, none⟩) (Nat.lt_of_lt_of_le (show w.heap.size < (w.alloc (.cells #[.int .i64 pS, .slice aS S.length cS] 26)).heap.size by simp) (Nat.le_trans (Nat.le_refl _) (size_alloc (w.alloc (.cells #[.int .i64 pS, .slice aS S.length cS] 26)) (.cells #[.slice ax x.length cx] 24))))).trans (show ((w.alloc (.cells #[.int .i64 pS, .slice aS S.length cS] 26)).alloc (.cells #[.slice ax x.length cx] 24)).cell? ⟨w.heap.size, 0, none⟩ = some (.int .i64 pS) from (World.cell?_alloc_old _ _ _ (by simp)).trans (by simp [go_sem])); have K3_0_1 := (b3.cell (p := ⟨w.heap.size, 1, none⟩) (Nat.lt_of_lt_of_le (show w.heap.size < (w.alloc (.cells #[.int .i64 pS, .slice aS S.length cS] 26)).heap.size by simp) (Nat.le_trans (Nat.le_refl _) (size_alloc (w.alloc (.cells #[.int .i64 pS, .slice aS S.length cS] 26)) (.cells #[.slice ax x.length cx] 24))))).trans (show ((w.alloc (.cells #[.int .i64 pS, .slice aS S.length cS] 26)).alloc (.cells #[.slice ax x.length cx] 24)).cell? ⟨w.heap.size, 1, none⟩ = some (.slice aS S.length cS) from (World.cell?_alloc_old _ _ _ (by simp)).trans (by simp [go_sem])); clear b3)))
    go_ret2
    rw [HV.out, HC.out]
    exact ⟨none, 0, rfl, .inl rfl, (below_step (((Below.refl _ _).alloc (Nat.le_refl _) (.cells #[.int .i64 pS, .slice aS S.length cS] 26)).alloc (show w.heap.size ≤ (w.alloc (.cells #[.int .i64 pS, .slice aS S.length cS] 26)).heap.size from (((Below.refl _ _).alloc (Nat.le_refl _) (.cells #[.int .i64 pS, .slice aS S.length cS] 26))).size) (.cells #[.slice ax x.length cx] 24)) (show w.heap.size ≤ ((w.alloc (.cells #[.int .i64 pS, .slice aS S.length cS] 26)).alloc (.cells #[.slice ax x.length cx] 24)).heap.size from ((((Below.refl _ _).alloc (Nat.le_refl _) (.cells #[.int .i64 pS, .slice aS S.length cS] 26)).alloc (show w.heap.size ≤ (w.alloc (.cells #[.int .i64 pS, .slice aS S.length cS] 26)).heap.size from (((Below.refl _ _).alloc (Nat.le_refl _) (.cells #[.int .i64 pS, .slice aS S.length cS] 26))).size) (.cells #[.slice ax x.length cx] 24))).size) B3.out)⟩
  · have HI := Lib.hid hi
    have HC := Lib.hid hc
    rw [mv_all1] at ha
    have h6 := (isSp_iff.1 hi).hi
    have h64 := bl_le h6
    have hlx : x.length ≤ 64 := by rw [Mv.len ha]; exact h64
    have HV : Hid (gradesV pS S x = grades S x) := by show _ = _; unfold gradesV; rw [if_pos hc]
    clear hi hc ha
    go_enter Try.func42, Try.ntmps42
    go_wp2_with (first | (go_at_call 83; go_loud ((with_reducible refine (codeM1 pS aS S cS loS tpS ax x cx lox tpx (w.heap.size + 1) _ _ _ (by simp) (HS.out.below ((Below.refl _ _).alloc (Nat.le_refl _) (.cells #[.int .i64 pS, .slice aS S.length cS] 26)) tS) (Nat.le_trans tS (((Below.refl _ _).alloc (Nat.le_refl _) (.cells #[.int .i64 pS, .slice aS S.length cS] 26))).size) sS (Hx.out.below ((Below.refl _ _).alloc (Nat.le_refl _) (.cells #[.int .i64 pS, .slice aS S.length cS] 26)) tx) (Nat.le_trans tx (((Below.refl _ _).alloc (Nat.le_refl _) (.cells #[.int .i64 pS, .slice aS S.length cS] 26))).size) sx).mono ?_); rintro e w3 ⟨rfl, b3⟩; rw [HC.out]; have B3 := Lib.hid b3; have K3_0_0 := (b3.cell (p := ⟨w.heap.size, 0, none⟩) (Nat.lt_of_lt_of_le (show w.heap.size < (w.alloc (.cells #[.int .i64 pS, .slice aS S.length cS] 26)).heap.size by simp) (Nat.le_trans (Nat.le_refl _) (size_alloc (w.alloc (.cells #[.int .i64 pS, .slice aS S.length cS] 26)) (.cells #[.slice ax x.length cx] 24))))).trans (show ((w.alloc (.cells #[.int .i64 pS, .slice aS S.length cS] 26)).alloc (.cells #[.slice ax x.length cx] 24)).cell? ⟨w.heap.size, 0, none⟩ = some (.int .i64 pS) from (World.cell?_alloc_old _ _ _ (by simp)).trans (by simp [go_sem])); have K3_0_1 := (b3.cell (p := ⟨w.heap.size, 1, none⟩) (Nat.lt_of_lt_of_le (show w.heap.size < (w.alloc (.cells #[.int .i64 pS, .slice aS S.length cS] 26)).heap.size by simp) (Nat.le_trans (Nat.le_refl _) (size_alloc (w.alloc (.cells #[.int .i64 pS, .slice aS S.length cS] 26)) (.cells #[.slice ax x.length cx] 24))))).trans (show ((w.alloc (.cells #[.int .i64 pS, .slice aS S.length cS] 26)).alloc (.cells #[.slice ax x.length cx] 24)).cell? ⟨w.heap.size, 1, none⟩ = some (.slice aS S.length cS) from (World.cell?_alloc_old _ _ _ (by simp)).trans (by simp [go_sem])); clear b3)) | (go_at_call 108; go_loud ((with_reducible refine (l04Grades_any pS aS S cS ax x cx lox tpx _ h6 (Hx.out.below (below_step (((Below.refl _ _).alloc (Nat.le_refl _) (.cells #[.int .i64 pS, .slice aS S.length cS] 26)).alloc (show w.heap.size ≤ (w.alloc (.cells #[.int .i64 pS, .slice aS S.length cS] 26)).heap.size from (((Below.refl _ _).alloc (Nat.le_refl _) (.cells #[.int .i64 pS, .slice aS S.length cS] 26))).size) (.cells #[.slice ax x.length cx] 24)) (show w.heap.size ≤ ((w.alloc (.cells #[.int .i64 pS, .slice aS S.length cS] 26)).alloc (.cells #[.slice ax x.length cx] 24)).heap.size from ((((Below.refl _ _).alloc (Nat.le_refl _) (.cells #[.int .i64 pS, .slice aS S.length cS] 26)).alloc (show w.heap.size ≤ (w.alloc (.cells #[.int .i64 pS, .slice aS S.length cS] 26)).heap.size from (((Below.refl _ _).alloc (Nat.le_refl _) (.cells #[.int .i64 pS, .slice aS S.length cS] 26))).size) (.cells #[.slice ax x.length cx] 24))).size) B3.out) tx) (Nat.le_trans tx ((below_step (((Below.refl _ _).alloc (Nat.le_refl _) (.cells #[.int .i64 pS, .slice aS S.length cS] 26)).alloc (show w.heap.size ≤ (w.alloc (.cells #[.int .i64 pS, .slice aS S.length cS] 26)).heap.size from (((Below.refl _ _).alloc (Nat.le_refl _) (.cells #[.int .i64 pS, .slice aS S.length cS] 26))).size) (.cells #[.slice ax x.length cx] 24)) (show w.heap.size ≤ ((w.alloc (.cells #[.int .i64 pS, .slice aS S.length cS] 26)).alloc (.cells #[.slice ax x.length cx] 24)).heap.size from ((((Below.refl _ _).alloc (Nat.le_refl _) (.cells #[.int .i64 pS, .slice aS S.length cS] 26)).alloc (show w.heap.size ≤ (w.alloc (.cells #[.int .i64 pS, .slice aS S.length cS] 26)).heap.size from (((Below.refl _ _).alloc (Nat.le_refl _) (.cells #[.int .i64 pS, .slice aS S.length cS] 26))).size) (.cells #[.slice ax x.length cx] 24))).size) B3.out)).size) hlx).mono ?_); rintro e w4 ⟨r4, c4, rfl, o4, b4⟩; have B4 := Lib.hid b4; have K4_0_0 := (b4.cell (p := ⟨w.heap.size, 0, none⟩) (Nat.lt_of_lt_of_le (show w.heap.size < (w.alloc (.cells #[.int .i64 pS, .slice aS S.length cS] 26)).heap.size by simp) (Nat.le_trans (Nat.le_trans (Nat.le_refl _) (size_alloc (w.alloc (.cells #[.int .i64 pS, .slice aS S.length cS] 26)) (.cells #[.slice ax x.length cx] 24))) B3.out.size))).trans K3_0_0; clear K3_0_0; have K4_0_1 := (b4.cell (p := ⟨w.heap.size, 1, none⟩) (Nat.lt_of_lt_of_le (show w.heap.size < (w.alloc (.cells #[.int .i64 pS, .slice aS S.length cS] 26)).heap.size by simp) (Nat.le_trans (Nat.le_trans (Nat.le_refl _) (size_alloc (w.alloc (.cells #[.int .i64 pS, .slice aS S.length cS] 26)) (.cells #[.slice ax x.length cx] 24))) B3.out.size))).trans K3_0_1; clear K3_0_1; have O4 := Lib.hid o4; clear o4; clear b4)))
    go_ret2
    rw [HV.out, HC.out]
    exact ⟨_, _, rfl, O4.out.mono (show w.heap.size ≤ w3.heap.size from ((below_step (((Below.refl _ _).alloc (Nat.le_refl _) (.cells #[.int .i64 pS, .slice aS S.length cS] 26)).alloc (show w.heap.size ≤ (w.alloc (.cells #[.int .i64 pS, .slice aS S.length cS] 26)).heap.size from (((Below.refl _ _).alloc (Nat.le_refl _) (.cells #[.int .i64 pS, .slice aS S.length cS] 26))).size) (.cells #[.slice ax x.length cx] 24)) (show w.heap.size ≤ ((w.alloc (.cells #[.int .i64 pS, .slice aS S.length cS] 26)).alloc (.cells #[.slice ax x.length cx] 24)).heap.size from ((((Below.refl _ _).alloc (Nat.le_refl _) (.cells #[.int .i64 pS, .slice aS S.length cS] 26)).alloc (show w.heap.size ≤ (w.alloc (.cells #[.int .i64 pS, .slice aS S.length cS] 26)).heap.size from (((Below.refl _ _).alloc (Nat.le_refl _) (.cells #[.int .i64 pS, .slice aS S.length cS] 26))).size) (.cells #[.slice ax x.length cx] 24))).size) B3.out)).size) (Nat.le_refl _), (below_step (below_step (((Below.refl _ _).alloc (Nat.le_refl _) (.cells #[.int .i64 pS, .slice aS S.length cS] 26)).alloc (show w.heap.size ≤ (w.alloc (.cells #[.int .i64 pS, .slice aS S.length cS] 26)).heap.size from (((Below.refl _ _).alloc (Nat.le_refl _) (.cells #[.int .i64 pS, .slice aS S.length cS] 26))).size) (.cells #[.slice ax x.length cx] 24)) (show w.heap.size ≤ ((w.alloc (.cells #[.int .i64 pS, .slice aS S.length cS] 26)).alloc (.cells #[.slice ax x.length cx] 24)).heap.size from ((((Below.refl _ _).alloc (Nat.le_refl _) (.cells #[.int .i64 pS, .slice aS S.length cS] 26)).alloc (show w.heap.size ≤ (w.alloc (.cells #[.int .i64 pS, .slice aS S.length cS] 26)).heap.size from (((Below.refl _ _).alloc (Nat.le_refl _) (.cells #[.int .i64 pS, .slice aS S.length cS] 26))).size) (.cells #[.slice ax x.length cx] 24))).size) B3.out) (show w.heap.size ≤ w3.heap.size from ((below_step (((Below.refl _ _).alloc (Nat.le_refl _) (.cells #[.int .i64 pS, .slice aS S.length cS] 26)).alloc (show w.heap.size ≤ (w.alloc (.cells #[.int .i64 pS, .slice aS S.length cS] 26)).heap.size from (((Below.refl _ _).alloc (Nat.le_refl _) (.cells #[.int .i64 pS, .slice aS S.length cS] 26))).size) (.cells #[.slice ax x.length cx] 24)) (show w.heap.size ≤ ((w.alloc (.cells #[.int .i64 pS, .slice aS S.length cS] 26)).alloc (.cells #[.slice ax x.length cx] 24)).heap.size from ((((Below.refl _ _).alloc (Nat.le_refl _) (.cells #[.int .i64 pS, .slice aS S.length cS] 26)).alloc (show w.heap.size ≤ (w.alloc (.cells #[.int .i64 pS, .slice aS S.length cS] 26)).heap.size from (((Below.refl _ _).alloc (Nat.le_refl _) (.cells #[.int .i64 pS, .slice aS S.length cS] 26))).size) (.cells #[.slice ax x.length cx] 24))).size) B3.out)).size) B4.out)⟩
  · have HI := Lib.hid hi
    have HC := Lib.hid hc
    have HV : Hid (gradesV pS S x = []) := by show _ = _; unfold gradesV; rw [if_neg (by rw [hc]; decide)]
    clear hi hc ha
    go_enter Try.func42, Try.ntmps42
    go_wp2_with (first | (go_at_call 83; go_loud ((with_reducible refine (codeM1 pS aS S cS loS tpS ax x cx lox tpx (w.heap.size + 1) _ _ _ (by simp) (HS.out.below ((Below.refl _ _).alloc (Nat.le_refl _) (.cells #[.int .i64 pS, .slice aS S.length cS] 26)) tS) (Nat.le_trans tS (((Below.refl _ _).alloc (Nat.le_refl _) (.cells #[.int .i64 pS, .slice aS S.length cS] 26))).size) sS (Hx.out.below ((Below.refl _ _).alloc (Nat.le_refl _) (.cells #[.int .i64 pS, .slice aS S.length cS] 26)) tx) (Nat.le_trans tx (((Below.refl _ _).alloc (Nat.le_refl _) (.cells #[.int .i64 pS, .slice aS S.length cS] 26))).size) sx).mono ?_); rintro e w3 ⟨rfl, b3⟩; rw [HC.out]; have B3 := Lib.hid b3; have K3_0_0 := (b3.cell (p := ⟨w.heap.size, 0, none⟩) (Nat.lt_of_lt_of_le (show w.heap.size < (w.alloc (.cells #[.int .i64 pS, .slice aS S.length cS] 26)).heap.size by simp) (Nat.le_trans (Nat.le_refl _) (size_alloc (w.alloc (.cells #[.int .i64 pS, .slice aS S.length cS] 26)) (.cells #[.slice ax x.length cx] 24))))).trans (show ((w.alloc (.cells #[.int .i64 pS, .slice aS S.length cS] 26)).alloc (.cells #[.slice ax x.length cx] 24)).cell? ⟨w.heap.size, 0, none⟩ = some (.int .i64 pS) from (World.cell?_alloc_old _ _ _ (by simp)).trans (by simp [go_sem])); have K3_0_1 := (b3.cell (p := ⟨w.heap.size, 1, none⟩) (Nat.lt_of_lt_of_le (show w.heap.size < (w.alloc (.cells #[.int .i64 pS, .slice aS S.length cS] 26)).heap.size by simp) (Nat.le_trans (Nat.le_refl _) (size_alloc (w.alloc (.cells #[.int .i64 pS, .slice aS S.length cS] 26)) (.cells #[.slice ax x.length cx] 24))))).trans (show ((w.alloc (.cells #[.int .i64 pS, .slice aS S.length cS] 26)).alloc (.cells #[.slice ax x.length cx] 24)).cell? ⟨w.heap.size, 1, none⟩ = some (.slice aS S.length cS) from (World.cell?_alloc_old _ _ _ (by simp)).trans (by simp [go_sem])); clear b3)))
    go_ret2
    rw [HV.out, HC.out]
    exact ⟨none, 0, rfl, .inl rfl, (below_step (((Below.refl _ _).alloc (Nat.le_refl _) (.cells #[.int .i64 pS, .slice aS S.length cS] 26)).alloc (show w.heap.size ≤ (w.alloc (.cells #[.int .i64 pS, .slice aS S.length cS] 26)).heap.size from (((Below.refl _ _).alloc (Nat.le_refl _) (.cells #[.int .i64 pS, .slice aS S.length cS] 26))).size) (.cells #[.slice ax x.length cx] 24)) (show w.heap.size ≤ ((w.alloc (.cells #[.int .i64 pS, .slice aS S.length cS] 26)).alloc (.cells #[.slice ax x.length cx] 24)).heap.size from ((((Below.refl _ _).alloc (Nat.le_refl _) (.cells #[.int .i64 pS, .slice aS S.length cS] 26)).alloc (show w.heap.size ≤ (w.alloc (.cells #[.int .i64 pS, .slice aS S.length cS] 26)).heap.size from (((Below.refl _ _).alloc (Nat.le_refl _) (.cells #[.int .i64 pS, .slice aS S.length cS] 26))).size) (.cells #[.slice ax x.length cx] 24))).size) B3.out)⟩

set_option maxRecDepth 100000 in
set_option maxHeartbeats 6400000 in
theorem impl_GradesOf (pS : Int) (aS : Option Addr) (S : List Int) (cS loS tpS : Nat) (ax : Option Addr) (x : List Int) (cx lox tpx : Nat) (w : World) (hS : RowIn loS tpS w aS S) (tS : tpS ≤ w.heap.size) (sS : S.length ≤ 1048576) (hx : RowIn lox tpx w ax x) (tx : tpx ≤ w.heap.size) (sx : x.length ≤ 1048576) :
    Calls Try.prog 41 #[.agg #[.int .i64 pS, .slice aS S.length cS], .slice ax x.length cx] w (ImplR (gradesV pS S x) (codeMv pS S [x]) w) := by
  have HS := Lib.hid hS
  have Hx := Lib.hid hx
  clear hS hx
  rcases codeMv_cases pS S [x] with ⟨hi, hc⟩ | ⟨hi, ha, hc⟩ | ⟨hi, ha, hc⟩
  · have HI := Lib.hid hi
    have HC := Lib.hid hc
    have HV : Hid (gradesV pS S x = []) := by show _ = _; unfold gradesV; rw [if_neg (by rw [hc]; decide)]
    clear hi hc
    go_enter Try.func41, Try.ntmps41
    go_wp2_with (first | (go_at_call 85; go_loud ((with_reducible refine (checkM1 pS aS S cS loS tpS ax x cx lox tpx (w.heap.size + 1) _ _ _ (by simp) (HS.out.below ((Below.refl _ _).alloc (Nat.le_refl _) (.cells #[.int .i64 pS, .slice aS S.length cS] 26)) tS) (Nat.le_trans tS (((Below.refl _ _).alloc (Nat.le_refl _) (.cells #[.int .i64 pS, .slice aS S.length cS] 26))).size) sS (Hx.out.below ((Below.refl _ _).alloc (Nat.le_refl _) (.cells #[.int .i64 pS, .slice aS S.length cS] 26)) tx) (Nat.le_trans tx (((Below.refl _ _).alloc (Nat.le_refl _) (.cells #[.int .i64 pS, .slice aS S.length cS] 26))).size) sx).mono ?_); rintro e w3 ⟨rfl, b3⟩; rw [HC.out]; have B3 := Lib.hid b3; have K3_0_0 := (b3.cell (p := ⟨w.heap.size, 0, none⟩) (Nat.lt_of_lt_of_le (show w.heap.size < (w.alloc (.cells #[.int .i64 pS, .slice aS S.length cS] 26)).heap.size by simp) (Nat.le_trans (Nat.le_refl _) (size_alloc (w.alloc (.cells #[.int .i64 pS, .slice aS S.length cS] 26)) (.cells #[.slice ax x.length cx] 24))))).trans (show ((w.alloc (.cells #[.int .i64 pS, .slice aS S.length cS] 26)).alloc (.cells #[.slice ax x.length cx] 24)).cell? ⟨w.heap.size, 0, none⟩ = some (.int .i64 pS) from (World.cell?_alloc_old _ _ _ (by simp)).trans (by simp [go_sem])); have K3_0_1 := (b3.cell (p := ⟨w.heap.size, 1, none⟩) (Nat.lt_of_lt_of_le (show w.heap.size < (w.alloc (.cells #[.int .i64 pS, .slice aS S.length cS] 26)).heap.size by simp) (Nat.le_trans (Nat.le_refl _) (size_alloc (w.alloc (.cells #[.int .i64 pS, .slice aS S.length cS] 26)) (.cells #[.slice ax x.length cx] 24))))).trans (show ((w.alloc (.cells #[.int .i64 pS, .slice aS S.length cS] 26)).alloc (.cells #[.slice ax x.length cx] 24)).cell? ⟨w.heap.size, 1, none⟩ = some (.slice aS S.length cS) from (World.cell?_alloc_old _ _ _ (by simp)).trans (by simp [go_sem])); clear b3)))
    go_ret2
    rw [HV.out, HC.out]
    exact ⟨none, 0, rfl, .inl rfl, (below_step (((Below.refl _ _).alloc (Nat.le_refl _) (.cells #[.int .i64 pS, .slice aS S.length cS] 26)).alloc (show w.heap.size ≤ (w.alloc (.cells #[.int .i64 pS, .slice aS S.length cS] 26)).heap.size from (((Below.refl _ _).alloc (Nat.le_refl _) (.cells #[.int .i64 pS, .slice aS S.length cS] 26))).size) (.cells #[.slice ax x.length cx] 24)) (show w.heap.size ≤ ((w.alloc (.cells #[.int .i64 pS, .slice aS S.length cS] 26)).alloc (.cells #[.slice ax x.length cx] 24)).heap.size from ((((Below.refl _ _).alloc (Nat.le_refl _) (.cells #[.int .i64 pS, .slice aS S.length cS] 26)).alloc (show w.heap.size ≤ (w.alloc (.cells #[.int .i64 pS, .slice aS S.length cS] 26)).heap.size from (((Below.refl _ _).alloc (Nat.le_refl _) (.cells #[.int .i64 pS, .slice aS S.length cS] 26))).size) (.cells #[.slice ax x.length cx] 24))).size) B3.out)⟩
  · have HI := Lib.hid hi
    have HC := Lib.hid hc
    rw [mv_all1] at ha
    have h6 := (isSp_iff.1 hi).hi
    have hpb := prm_bd (isSp_iff.1 hi).prime
    have h64 := bl_le h6
    have hlx : x.length ≤ 64 := by rw [Mv.len ha]; exact h64
    have HV : Hid (gradesV pS S x = gradesTo x 7) := by show _ = _; unfold gradesV; rw [if_pos hc, gradesTo_seven h6 (Mv.len ha)]
    have HNB : Hid (∀ j, j < x.length → -100 ≤ x.getD j 0 ∧ x.getD j 0 ≤ 100) := fun j hj => by have := Mv.num ha j hj; omega
    obtain ⟨i0, hi8, hz0, hz1, hz2⟩ := info_parts info64
    obtain ⟨v0, hv0⟩ : ∃ v, v = kp (fun _ => 1) x 0 := ⟨_, rfl⟩
    have HV0 := Lib.hid hv0
    clear hv0
    obtain ⟨v1, hv1⟩ : ∃ v, v = kp (fun _ => 1) x 1 := ⟨_, rfl⟩
    have HV1 := Lib.hid hv1
    clear hv1
    obtain ⟨v2, hv2⟩ : ∃ v, v = kp (fun _ => 1) x 2 := ⟨_, rfl⟩
    have HV2 := Lib.hid hv2
    clear hv2
    obtain ⟨v3, hv3⟩ : ∃ v, v = kp (fun _ => 1) x 3 := ⟨_, rfl⟩
    have HV3 := Lib.hid hv3
    clear hv3
    obtain ⟨v4, hv4⟩ : ∃ v, v = kp (fun _ => 1) x 4 := ⟨_, rfl⟩
    have HV4 := Lib.hid hv4
    clear hv4
    obtain ⟨v5, hv5⟩ : ∃ v, v = kp (fun _ => 1) x 5 := ⟨_, rfl⟩
    have HV5 := Lib.hid hv5
    clear hv5
    obtain ⟨v6, hv6⟩ : ∃ v, v = kp (fun _ => 1) x 6 := ⟨_, rfl⟩
    have HV6 := Lib.hid hv6
    clear hv6
    clear hi hc ha
    have hi := hi8
    go_enter Try.func41, Try.ntmps41
    go_wp2_with (first | (go_at_call 85; go_loud ((with_reducible refine (checkM1 pS aS S cS loS tpS ax x cx lox tpx (w.heap.size + 1) _ _ _ (by simp) (HS.out.below ((Below.refl _ _).alloc (Nat.le_refl _) (.cells #[.int .i64 pS, .slice aS S.length cS] 26)) tS) (Nat.le_trans tS (((Below.refl _ _).alloc (Nat.le_refl _) (.cells #[.int .i64 pS, .slice aS S.length cS] 26))).size) sS (Hx.out.below ((Below.refl _ _).alloc (Nat.le_refl _) (.cells #[.int .i64 pS, .slice aS S.length cS] 26)) tx) (Nat.le_trans tx (((Below.refl _ _).alloc (Nat.le_refl _) (.cells #[.int .i64 pS, .slice aS S.length cS] 26))).size) sx).mono ?_); rintro e w3 ⟨rfl, b3⟩; rw [HC.out]; have B3 := Lib.hid b3; have K3_0_0 := (b3.cell (p := ⟨w.heap.size, 0, none⟩) (Nat.lt_of_lt_of_le (show w.heap.size < (w.alloc (.cells #[.int .i64 pS, .slice aS S.length cS] 26)).heap.size by simp) (Nat.le_trans (Nat.le_refl _) (size_alloc (w.alloc (.cells #[.int .i64 pS, .slice aS S.length cS] 26)) (.cells #[.slice ax x.length cx] 24))))).trans (show ((w.alloc (.cells #[.int .i64 pS, .slice aS S.length cS] 26)).alloc (.cells #[.slice ax x.length cx] 24)).cell? ⟨w.heap.size, 0, none⟩ = some (.int .i64 pS) from (World.cell?_alloc_old _ _ _ (by simp)).trans (by simp [go_sem])); have K3_0_1 := (b3.cell (p := ⟨w.heap.size, 1, none⟩) (Nat.lt_of_lt_of_le (show w.heap.size < (w.alloc (.cells #[.int .i64 pS, .slice aS S.length cS] 26)).heap.size by simp) (Nat.le_trans (Nat.le_refl _) (size_alloc (w.alloc (.cells #[.int .i64 pS, .slice aS S.length cS] 26)) (.cells #[.slice ax x.length cx] 24))))).trans (show ((w.alloc (.cells #[.int .i64 pS, .slice aS S.length cS] 26)).alloc (.cells #[.slice ax x.length cx] 24)).cell? ⟨w.heap.size, 1, none⟩ = some (.slice aS S.length cS) from (World.cell?_alloc_old _ _ _ (by simp)).trans (by simp [go_sem])); clear b3)) | (go_at_call 105; go_loud ((with_reducible refine (signsBy_constancy _).mono ?_); rintro e w4 ⟨rfl, b4⟩; have B4 := Lib.hid b4; have K4_0_0 := (b4.cell (p := ⟨w.heap.size, 0, none⟩) (Nat.lt_of_lt_of_le (show w.heap.size < (w.alloc (.cells #[.int .i64 pS, .slice aS S.length cS] 26)).heap.size by simp) (Nat.le_trans (Nat.le_trans (Nat.le_refl _) (size_alloc (w.alloc (.cells #[.int .i64 pS, .slice aS S.length cS] 26)) (.cells #[.slice ax x.length cx] 24))) B3.out.size))).trans K3_0_0; clear K3_0_0; have K4_0_1 := (b4.cell (p := ⟨w.heap.size, 1, none⟩) (Nat.lt_of_lt_of_le (show w.heap.size < (w.alloc (.cells #[.int .i64 pS, .slice aS S.length cS] 26)).heap.size by simp) (Nat.le_trans (Nat.le_trans (Nat.le_refl _) (size_alloc (w.alloc (.cells #[.int .i64 pS, .slice aS S.length cS] 26)) (.cells #[.slice ax x.length cx] 24))) B3.out.size))).trans K3_0_1; clear K3_0_1; clear b4)) | (go_at_call 106; go_loud ((with_reducible refine (on_one ax x cx lox tpx _ (Hx.out.below (below_step (below_step (((Below.refl _ _).alloc (Nat.le_refl _) (.cells #[.int .i64 pS, .slice aS S.length cS] 26)).alloc (show w.heap.size ≤ (w.alloc (.cells #[.int .i64 pS, .slice aS S.length cS] 26)).heap.size from (((Below.refl _ _).alloc (Nat.le_refl _) (.cells #[.int .i64 pS, .slice aS S.length cS] 26))).size) (.cells #[.slice ax x.length cx] 24)) (show w.heap.size ≤ ((w.alloc (.cells #[.int .i64 pS, .slice aS S.length cS] 26)).alloc (.cells #[.slice ax x.length cx] 24)).heap.size from ((((Below.refl _ _).alloc (Nat.le_refl _) (.cells #[.int .i64 pS, .slice aS S.length cS] 26)).alloc (show w.heap.size ≤ (w.alloc (.cells #[.int .i64 pS, .slice aS S.length cS] 26)).heap.size from (((Below.refl _ _).alloc (Nat.le_refl _) (.cells #[.int .i64 pS, .slice aS S.length cS] 26))).size) (.cells #[.slice ax x.length cx] 24))).size) B3.out) (show w.heap.size ≤ w3.heap.size from ((below_step (((Below.refl _ _).alloc (Nat.le_refl _) (.cells #[.int .i64 pS, .slice aS S.length cS] 26)).alloc (show w.heap.size ≤ (w.alloc (.cells #[.int .i64 pS, .slice aS S.length cS] 26)).heap.size from (((Below.refl _ _).alloc (Nat.le_refl _) (.cells #[.int .i64 pS, .slice aS S.length cS] 26))).size) (.cells #[.slice ax x.length cx] 24)) (show w.heap.size ≤ ((w.alloc (.cells #[.int .i64 pS, .slice aS S.length cS] 26)).alloc (.cells #[.slice ax x.length cx] 24)).heap.size from ((((Below.refl _ _).alloc (Nat.le_refl _) (.cells #[.int .i64 pS, .slice aS S.length cS] 26)).alloc (show w.heap.size ≤ (w.alloc (.cells #[.int .i64 pS, .slice aS S.length cS] 26)).heap.size from (((Below.refl _ _).alloc (Nat.le_refl _) (.cells #[.int .i64 pS, .slice aS S.length cS] 26))).size) (.cells #[.slice ax x.length cx] 24))).size) B3.out)).size) B4.out) tx) (Nat.le_trans tx ((below_step (below_step (((Below.refl _ _).alloc (Nat.le_refl _) (.cells #[.int .i64 pS, .slice aS S.length cS] 26)).alloc (show w.heap.size ≤ (w.alloc (.cells #[.int .i64 pS, .slice aS S.length cS] 26)).heap.size from (((Below.refl _ _).alloc (Nat.le_refl _) (.cells #[.int .i64 pS, .slice aS S.length cS] 26))).size) (.cells #[.slice ax x.length cx] 24)) (show w.heap.size ≤ ((w.alloc (.cells #[.int .i64 pS, .slice aS S.length cS] 26)).alloc (.cells #[.slice ax x.length cx] 24)).heap.size from ((((Below.refl _ _).alloc (Nat.le_refl _) (.cells #[.int .i64 pS, .slice aS S.length cS] 26)).alloc (show w.heap.size ≤ (w.alloc (.cells #[.int .i64 pS, .slice aS S.length cS] 26)).heap.size from (((Below.refl _ _).alloc (Nat.le_refl _) (.cells #[.int .i64 pS, .slice aS S.length cS] 26))).size) (.cells #[.slice ax x.length cx] 24))).size) B3.out) (show w.heap.size ≤ w3.heap.size from ((below_step (((Below.refl _ _).alloc (Nat.le_refl _) (.cells #[.int .i64 pS, .slice aS S.length cS] 26)).alloc (show w.heap.size ≤ (w.alloc (.cells #[.int .i64 pS, .slice aS S.length cS] 26)).heap.size from (((Below.refl _ _).alloc (Nat.le_refl _) (.cells #[.int .i64 pS, .slice aS S.length cS] 26))).size) (.cells #[.slice ax x.length cx] 24)) (show w.heap.size ≤ ((w.alloc (.cells #[.int .i64 pS, .slice aS S.length cS] 26)).alloc (.cells #[.slice ax x.length cx] 24)).heap.size from ((((Below.refl _ _).alloc (Nat.le_refl _) (.cells #[.int .i64 pS, .slice aS S.length cS] 26)).alloc (show w.heap.size ≤ (w.alloc (.cells #[.int .i64 pS, .slice aS S.length cS] 26)).heap.size from (((Below.refl _ _).alloc (Nat.le_refl _) (.cells #[.int .i64 pS, .slice aS S.length cS] 26))).size) (.cells #[.slice ax x.length cx] 24))).size) B3.out)).size) B4.out)).size) hlx HNB.out).mono ?_); rintro e w5 ⟨rfl, b5⟩; rw [← HV0.out, ← HV1.out, ← HV2.out, ← HV3.out, ← HV4.out, ← HV5.out, ← HV6.out]; have B5 := Lib.hid b5; have K5_0_0 := (b5.cell (p := ⟨w.heap.size, 0, none⟩) (Nat.lt_of_lt_of_le (show w.heap.size < (w.alloc (.cells #[.int .i64 pS, .slice aS S.length cS] 26)).heap.size by simp) (Nat.le_trans (Nat.le_trans (Nat.le_trans (Nat.le_refl _) (size_alloc (w.alloc (.cells #[.int .i64 pS, .slice aS S.length cS] 26)) (.cells #[.slice ax x.length cx] 24))) B3.out.size) B4.out.size))).trans K4_0_0; clear K4_0_0; have K5_0_1 := (b5.cell (p := ⟨w.heap.size, 1, none⟩) (Nat.lt_of_lt_of_le (show w.heap.size < (w.alloc (.cells #[.int .i64 pS, .slice aS S.length cS] 26)).heap.size by simp) (Nat.le_trans (Nat.le_trans (Nat.le_trans (Nat.le_refl _) (size_alloc (w.alloc (.cells #[.int .i64 pS, .slice aS S.length cS] 26)) (.cells #[.slice ax x.length cx] 24))) B3.out.size) B4.out.size))).trans K4_0_1; clear K4_0_1; clear b5)))
    have HBW := Lib.hid ((below_step (below_step (below_step (((Below.refl _ _).alloc (Nat.le_refl _) (.cells #[.int .i64 pS, .slice aS S.length cS] 26)).alloc (show w.heap.size ≤ (w.alloc (.cells #[.int .i64 pS, .slice aS S.length cS] 26)).heap.size from (((Below.refl _ _).alloc (Nat.le_refl _) (.cells #[.int .i64 pS, .slice aS S.length cS] 26))).size) (.cells #[.slice ax x.length cx] 24)) (show w.heap.size ≤ ((w.alloc (.cells #[.int .i64 pS, .slice aS S.length cS] 26)).alloc (.cells #[.slice ax x.length cx] 24)).heap.size from ((((Below.refl _ _).alloc (Nat.le_refl _) (.cells #[.int .i64 pS, .slice aS S.length cS] 26)).alloc (show w.heap.size ≤ (w.alloc (.cells #[.int .i64 pS, .slice aS S.length cS] 26)).heap.size from (((Below.refl _ _).alloc (Nat.le_refl _) (.cells #[.int .i64 pS, .slice aS S.length cS] 26))).size) (.cells #[.slice ax x.length cx] 24))).size) B3.out) (show w.heap.size ≤ w3.heap.size from ((below_step (((Below.refl _ _).alloc (Nat.le_refl _) (.cells #[.int .i64 pS, .slice aS S.length cS] 26)).alloc (show w.heap.size ≤ (w.alloc (.cells #[.int .i64 pS, .slice aS S.length cS] 26)).heap.size from (((Below.refl _ _).alloc (Nat.le_refl _) (.cells #[.int .i64 pS, .slice aS S.length cS] 26))).size) (.cells #[.slice ax x.length cx] 24)) (show w.heap.size ≤ ((w.alloc (.cells #[.int .i64 pS, .slice aS S.length cS] 26)).alloc (.cells #[.slice ax x.length cx] 24)).heap.size from ((((Below.refl _ _).alloc (Nat.le_refl _) (.cells #[.int .i64 pS, .slice aS S.length cS] 26)).alloc (show w.heap.size ≤ (w.alloc (.cells #[.int .i64 pS, .slice aS S.length cS] 26)).heap.size from (((Below.refl _ _).alloc (Nat.le_refl _) (.cells #[.int .i64 pS, .slice aS S.length cS] 26))).size) (.cells #[.slice ax x.length cx] 24))).size) B3.out)).size) B4.out) (show w.heap.size ≤ w4.heap.size from ((below_step (below_step (((Below.refl _ _).alloc (Nat.le_refl _) (.cells #[.int .i64 pS, .slice aS S.length cS] 26)).alloc (show w.heap.size ≤ (w.alloc (.cells #[.int .i64 pS, .slice aS S.length cS] 26)).heap.size from (((Below.refl _ _).alloc (Nat.le_refl _) (.cells #[.int .i64 pS, .slice aS S.length cS] 26))).size) (.cells #[.slice ax x.length cx] 24)) (show w.heap.size ≤ ((w.alloc (.cells #[.int .i64 pS, .slice aS S.length cS] 26)).alloc (.cells #[.slice ax x.length cx] 24)).heap.size from ((((Below.refl _ _).alloc (Nat.le_refl _) (.cells #[.int .i64 pS, .slice aS S.length cS] 26)).alloc (show w.heap.size ≤ (w.alloc (.cells #[.int .i64 pS, .slice aS S.length cS] 26)).heap.size from (((Below.refl _ _).alloc (Nat.le_refl _) (.cells #[.int .i64 pS, .slice aS S.length cS] 26))).size) (.cells #[.slice ax x.length cx] 24))).size) B3.out) (show w.heap.size ≤ w3.heap.size from ((below_step (((Below.refl _ _).alloc (Nat.le_refl _) (.cells #[.int .i64 pS, .slice aS S.length cS] 26)).alloc (show w.heap.size ≤ (w.alloc (.cells #[.int .i64 pS, .slice aS S.length cS] 26)).heap.size from (((Below.refl _ _).alloc (Nat.le_refl _) (.cells #[.int .i64 pS, .slice aS S.length cS] 26))).size) (.cells #[.slice ax x.length cx] 24)) (show w.heap.size ≤ ((w.alloc (.cells #[.int .i64 pS, .slice aS S.length cS] 26)).alloc (.cells #[.slice ax x.length cx] 24)).heap.size from ((((Below.refl _ _).alloc (Nat.le_refl _) (.cells #[.int .i64 pS, .slice aS S.length cS] 26)).alloc (show w.heap.size ≤ (w.alloc (.cells #[.int .i64 pS, .slice aS S.length cS] 26)).heap.size from (((Below.refl _ _).alloc (Nat.le_refl _) (.cells #[.int .i64 pS, .slice aS S.length cS] 26))).size) (.cells #[.slice ax x.length cx] 24))).size) B3.out)).size) B4.out)).size) B5.out))
    have hwz := HBW.out.size
    go_loopw [7, 20] (fun v t wr => ∃ i : Nat, i ≤ 7 ∧ t = .int .i64 i ∧ OutR w.heap.size wr v (gradesTo x i) ∧ Below w.heap.size w wr) (fun _ t _ => 7 - (intOf t).toNat)
    case atStart => exact ⟨0, Nat.zero_le _, rfl, World.ownsRow_nil _ _ _ _, HBW.out⟩
    case round =>
      obtain ⟨i, hi', rfl, ho, hbel⟩ := hrel
      have HO := Lib.hid ho
      have HB := Lib.hid hbel
      have hwz2 := hbel.size
      clear ho hbel
      by_cases hlt : i < 7
      · obtain ⟨N, hN⟩ : ∃ N, N = (gradesTo x i).length := ⟨_, rfl⟩
        have hN7 : N ≤ 7 := by have := gradesTo_le x i; omega
        have HN := Lib.hid hN
        obtain ⟨X, hX⟩ : ∃ X, X = (gradesTo x i).map (Value.int .i64) := ⟨_, rfl⟩
        have HX := Lib.hid hX
        have HO2 : Hid (wr.ownsRow w.heap.size 2 1 u7 N X) := by
          have := HO.out; unfold OutR at this; rw [← hN, ← hX] at this; exact this
        clear hX hN
        rcases seven hlt with rfl | rfl | rfl | rfl | rfl | rfl | rfl
        · by_cases hg : hasGr x 0 = true
          · have hv : v0 = 1 := by rw [HV0.out]; unfold kp; rw [if_pos hg]
            have HSU := Lib.hid (gradesTo_yes hg)
            clear hg
            subst hv
            have ix : ∀ W, (Instr.index 89 (.agg #[.int .i64 1, .int .i64 v1, .int .i64 v2, .int .i64 v3, .int .i64 v4, .int .i64 v5, .int .i64 v6]) (.int .i64 0)).run Try.prog W = .ok (.int .i64 1) W := fun W => by kernel_rfl
            go_wp2_with (first | (at_builtin; refine wpList_append_lies _ rfl _ _ 24 rfl w.heap.size 2 i0 (.int .i64 0) 1 8 Try.underlying24 hi hz0 hz1 hz2 rfl (by decide) u7 N X rfl (HO2.out.alloc _) ⟨wr.heap.size, 0, none⟩ 1 1 [.int .i64 0] rfl rfl (World.news_of_block (cs := #[.int .i64 0]) (t := 2) (fr := (0, 0)) (heap_alloc_new wr _)) (by simp [Value.oneCell']) (by omega) (by unfold maxLen; omega) (by omega) (by simp; omega) (wr.heap.size + 1) (by simp) ?_; intro gg cap w1 hown1 hgrow hat hlt1))
            go_wp2
            go_roundw
            case rel => exact ⟨0 + 1, by omega, by go_num, OutR.more HX.out HN.out HSU.out hown1, (HB.out.alloc hwz2 _).grown hgrow (by simp; omega) (fun _ hk => (HO2.out.lt _ hk).1)⟩
            case measure => simp [intOf]
          · have hg' : hasGr x 0 = false := by simpa using hg
            have hv : v0 = 0 := by rw [HV0.out]; unfold kp; rw [if_neg hg]
            have HSU := Lib.hid (gradesTo_no hg')
            clear hg hg'
            subst hv
            have ix : ∀ W, (Instr.index 89 (.agg #[.int .i64 0, .int .i64 v1, .int .i64 v2, .int .i64 v3, .int .i64 v4, .int .i64 v5, .int .i64 v6]) (.int .i64 0)).run Try.prog W = .ok (.int .i64 0) W := fun W => by kernel_rfl
            go_wp2
            clear ix
            go_roundw
            case rel => exact ⟨0 + 1, by omega, by go_num, by rw [HSU.out]; exact HO.out, HB.out⟩
            case measure => simp [intOf]
        · by_cases hg : hasGr x 1 = true
          · have hv : v1 = 1 := by rw [HV1.out]; unfold kp; rw [if_pos hg]
            have HSU := Lib.hid (gradesTo_yes hg)
            clear hg
            subst hv
            have ix : ∀ W, (Instr.index 89 (.agg #[.int .i64 v0, .int .i64 1, .int .i64 v2, .int .i64 v3, .int .i64 v4, .int .i64 v5, .int .i64 v6]) (.int .i64 1)).run Try.prog W = .ok (.int .i64 1) W := fun W => by kernel_rfl
            go_wp2_with (first | (at_builtin; refine wpList_append_lies _ rfl _ _ 24 rfl w.heap.size 2 i0 (.int .i64 0) 1 8 Try.underlying24 hi hz0 hz1 hz2 rfl (by decide) u7 N X rfl (HO2.out.alloc _) ⟨wr.heap.size, 0, none⟩ 1 1 [.int .i64 1] rfl rfl (World.news_of_block (cs := #[.int .i64 1]) (t := 2) (fr := (0, 0)) (heap_alloc_new wr _)) (by simp [Value.oneCell']) (by omega) (by unfold maxLen; omega) (by omega) (by simp; omega) (wr.heap.size + 1) (by simp) ?_; intro gg cap w1 hown1 hgrow hat hlt1))
            go_wp2
            go_roundw
            case rel => exact ⟨1 + 1, by omega, by go_num, OutR.more HX.out HN.out HSU.out hown1, (HB.out.alloc hwz2 _).grown hgrow (by simp; omega) (fun _ hk => (HO2.out.lt _ hk).1)⟩
            case measure => simp [intOf]
          · have hg' : hasGr x 1 = false := by simpa using hg
            have hv : v1 = 0 := by rw [HV1.out]; unfold kp; rw [if_neg hg]
            have HSU := Lib.hid (gradesTo_no hg')
            clear hg hg'
            subst hv
            have ix : ∀ W, (Instr.index 89 (.agg #[.int .i64 v0, .int .i64 0, .int .i64 v2, .int .i64 v3, .int .i64 v4, .int .i64 v5, .int .i64 v6]) (.int .i64 1)).run Try.prog W = .ok (.int .i64 0) W := fun W => by kernel_rfl
            go_wp2
            clear ix
            go_roundw
            case rel => exact ⟨1 + 1, by omega, by go_num, by rw [HSU.out]; exact HO.out, HB.out⟩
            case measure => simp [intOf]
        · by_cases hg : hasGr x 2 = true
          · have hv : v2 = 1 := by rw [HV2.out]; unfold kp; rw [if_pos hg]
            have HSU := Lib.hid (gradesTo_yes hg)
            clear hg
            subst hv
            have ix : ∀ W, (Instr.index 89 (.agg #[.int .i64 v0, .int .i64 v1, .int .i64 1, .int .i64 v3, .int .i64 v4, .int .i64 v5, .int .i64 v6]) (.int .i64 2)).run Try.prog W = .ok (.int .i64 1) W := fun W => by kernel_rfl
            go_wp2_with (first | (at_builtin; refine wpList_append_lies _ rfl _ _ 24 rfl w.heap.size 2 i0 (.int .i64 0) 1 8 Try.underlying24 hi hz0 hz1 hz2 rfl (by decide) u7 N X rfl (HO2.out.alloc _) ⟨wr.heap.size, 0, none⟩ 1 1 [.int .i64 2] rfl rfl (World.news_of_block (cs := #[.int .i64 2]) (t := 2) (fr := (0, 0)) (heap_alloc_new wr _)) (by simp [Value.oneCell']) (by omega) (by unfold maxLen; omega) (by omega) (by simp; omega) (wr.heap.size + 1) (by simp) ?_; intro gg cap w1 hown1 hgrow hat hlt1))
            go_wp2
            go_roundw
            case rel => exact ⟨2 + 1, by omega, by go_num, OutR.more HX.out HN.out HSU.out hown1, (HB.out.alloc hwz2 _).grown hgrow (by simp; omega) (fun _ hk => (HO2.out.lt _ hk).1)⟩
            case measure => simp [intOf]
          · have hg' : hasGr x 2 = false := by simpa using hg
            have hv : v2 = 0 := by rw [HV2.out]; unfold kp; rw [if_neg hg]
            have HSU := Lib.hid (gradesTo_no hg')
            clear hg hg'
            subst hv
            have ix : ∀ W, (Instr.index 89 (.agg #[.int .i64 v0, .int .i64 v1, .int .i64 0, .int .i64 v3, .int .i64 v4, .int .i64 v5, .int .i64 v6]) (.int .i64 2)).run Try.prog W = .ok (.int .i64 0) W := fun W => by kernel_rfl
            go_wp2
            clear ix
            go_roundw
            case rel => exact ⟨2 + 1, by omega, by go_num, by rw [HSU.out]; exact HO.out, HB.out⟩
            case measure => simp [intOf]
        · by_cases hg : hasGr x 3 = true
          · have hv : v3 = 1 := by rw [HV3.out]; unfold kp; rw [if_pos hg]
            have HSU := Lib.hid (gradesTo_yes hg)
            clear hg
            subst hv
            have ix : ∀ W, (Instr.index 89 (.agg #[.int .i64 v0, .int .i64 v1, .int .i64 v2, .int .i64 1, .int .i64 v4, .int .i64 v5, .int .i64 v6]) (.int .i64 3)).run Try.prog W = .ok (.int .i64 1) W := fun W => by kernel_rfl
            go_wp2_with (first | (at_builtin; refine wpList_append_lies _ rfl _ _ 24 rfl w.heap.size 2 i0 (.int .i64 0) 1 8 Try.underlying24 hi hz0 hz1 hz2 rfl (by decide) u7 N X rfl (HO2.out.alloc _) ⟨wr.heap.size, 0, none⟩ 1 1 [.int .i64 3] rfl rfl (World.news_of_block (cs := #[.int .i64 3]) (t := 2) (fr := (0, 0)) (heap_alloc_new wr _)) (by simp [Value.oneCell']) (by omega) (by unfold maxLen; omega) (by omega) (by simp; omega) (wr.heap.size + 1) (by simp) ?_; intro gg cap w1 hown1 hgrow hat hlt1))
            go_wp2
            go_roundw
            case rel => exact ⟨3 + 1, by omega, by go_num, OutR.more HX.out HN.out HSU.out hown1, (HB.out.alloc hwz2 _).grown hgrow (by simp; omega) (fun _ hk => (HO2.out.lt _ hk).1)⟩
            case measure => simp [intOf]
          · have hg' : hasGr x 3 = false := by simpa using hg
            have hv : v3 = 0 := by rw [HV3.out]; unfold kp; rw [if_neg hg]
            have HSU := Lib.hid (gradesTo_no hg')
            clear hg hg'
            subst hv
            have ix : ∀ W, (Instr.index 89 (.agg #[.int .i64 v0, .int .i64 v1, .int .i64 v2, .int .i64 0, .int .i64 v4, .int .i64 v5, .int .i64 v6]) (.int .i64 3)).run Try.prog W = .ok (.int .i64 0) W := fun W => by kernel_rfl
            go_wp2
            clear ix
            go_roundw
            case rel => exact ⟨3 + 1, by omega, by go_num, by rw [HSU.out]; exact HO.out, HB.out⟩
            case measure => simp [intOf]
        · by_cases hg : hasGr x 4 = true
          · have hv : v4 = 1 := by rw [HV4.out]; unfold kp; rw [if_pos hg]
            have HSU := Lib.hid (gradesTo_yes hg)
            clear hg
            subst hv
            have ix : ∀ W, (Instr.index 89 (.agg #[.int .i64 v0, .int .i64 v1, .int .i64 v2, .int .i64 v3, .int .i64 1, .int .i64 v5, .int .i64 v6]) (.int .i64 4)).run Try.prog W = .ok (.int .i64 1) W := fun W => by kernel_rfl
            go_wp2_with (first | (at_builtin; refine wpList_append_lies _ rfl _ _ 24 rfl w.heap.size 2 i0 (.int .i64 0) 1 8 Try.underlying24 hi hz0 hz1 hz2 rfl (by decide) u7 N X rfl (HO2.out.alloc _) ⟨wr.heap.size, 0, none⟩ 1 1 [.int .i64 4] rfl rfl (World.news_of_block (cs := #[.int .i64 4]) (t := 2) (fr := (0, 0)) (heap_alloc_new wr _)) (by simp [Value.oneCell']) (by omega) (by unfold maxLen; omega) (by omega) (by simp; omega) (wr.heap.size + 1) (by simp) ?_; intro gg cap w1 hown1 hgrow hat hlt1))
            go_wp2
            go_roundw
            case rel => exact ⟨4 + 1, by omega, by go_num, OutR.more HX.out HN.out HSU.out hown1, (HB.out.alloc hwz2 _).grown hgrow (by simp; omega) (fun _ hk => (HO2.out.lt _ hk).1)⟩
            case measure => simp [intOf]
          · have hg' : hasGr x 4 = false := by simpa using hg
            have hv : v4 = 0 := by rw [HV4.out]; unfold kp; rw [if_neg hg]
            have HSU := Lib.hid (gradesTo_no hg')
            clear hg hg'
            subst hv
            have ix : ∀ W, (Instr.index 89 (.agg #[.int .i64 v0, .int .i64 v1, .int .i64 v2, .int .i64 v3, .int .i64 0, .int .i64 v5, .int .i64 v6]) (.int .i64 4)).run Try.prog W = .ok (.int .i64 0) W := fun W => by kernel_rfl
            go_wp2
            clear ix
            go_roundw
            case rel => exact ⟨4 + 1, by omega, by go_num, by rw [HSU.out]; exact HO.out, HB.out⟩
            case measure => simp [intOf]
        · by_cases hg : hasGr x 5 = true
          · have hv : v5 = 1 := by rw [HV5.out]; unfold kp; rw [if_pos hg]
            have HSU := Lib.hid (gradesTo_yes hg)
            clear hg
            subst hv
            have ix : ∀ W, (Instr.index 89 (.agg #[.int .i64 v0, .int .i64 v1, .int .i64 v2, .int .i64 v3, .int .i64 v4, .int .i64 1, .int .i64 v6]) (.int .i64 5)).run Try.prog W = .ok (.int .i64 1) W := fun W => by kernel_rfl
            go_wp2_with (first | (at_builtin; refine wpList_append_lies _ rfl _ _ 24 rfl w.heap.size 2 i0 (.int .i64 0) 1 8 Try.underlying24 hi hz0 hz1 hz2 rfl (by decide) u7 N X rfl (HO2.out.alloc _) ⟨wr.heap.size, 0, none⟩ 1 1 [.int .i64 5] rfl rfl (World.news_of_block (cs := #[.int .i64 5]) (t := 2) (fr := (0, 0)) (heap_alloc_new wr _)) (by simp [Value.oneCell']) (by omega) (by unfold maxLen; omega) (by omega) (by simp; omega) (wr.heap.size + 1) (by simp) ?_; intro gg cap w1 hown1 hgrow hat hlt1))
            go_wp2
            go_roundw
            case rel => exact ⟨5 + 1, by omega, by go_num, OutR.more HX.out HN.out HSU.out hown1, (HB.out.alloc hwz2 _).grown hgrow (by simp; omega) (fun _ hk => (HO2.out.lt _ hk).1)⟩
            case measure => simp [intOf]
          · have hg' : hasGr x 5 = false := by simpa using hg
            have hv : v5 = 0 := by rw [HV5.out]; unfold kp; rw [if_neg hg]
            have HSU := Lib.hid (gradesTo_no hg')
            clear hg hg'
            subst hv
            have ix : ∀ W, (Instr.index 89 (.agg #[.int .i64 v0, .int .i64 v1, .int .i64 v2, .int .i64 v3, .int .i64 v4, .int .i64 0, .int .i64 v6]) (.int .i64 5)).run Try.prog W = .ok (.int .i64 0) W := fun W => by kernel_rfl
            go_wp2
            clear ix
            go_roundw
            case rel => exact ⟨5 + 1, by omega, by go_num, by rw [HSU.out]; exact HO.out, HB.out⟩
            case measure => simp [intOf]
        · by_cases hg : hasGr x 6 = true
          · have hv : v6 = 1 := by rw [HV6.out]; unfold kp; rw [if_pos hg]
            have HSU := Lib.hid (gradesTo_yes hg)
            clear hg
            subst hv
            have ix : ∀ W, (Instr.index 89 (.agg #[.int .i64 v0, .int .i64 v1, .int .i64 v2, .int .i64 v3, .int .i64 v4, .int .i64 v5, .int .i64 1]) (.int .i64 6)).run Try.prog W = .ok (.int .i64 1) W := fun W => by kernel_rfl
            go_wp2_with (first | (at_builtin; refine wpList_append_lies _ rfl _ _ 24 rfl w.heap.size 2 i0 (.int .i64 0) 1 8 Try.underlying24 hi hz0 hz1 hz2 rfl (by decide) u7 N X rfl (HO2.out.alloc _) ⟨wr.heap.size, 0, none⟩ 1 1 [.int .i64 6] rfl rfl (World.news_of_block (cs := #[.int .i64 6]) (t := 2) (fr := (0, 0)) (heap_alloc_new wr _)) (by simp [Value.oneCell']) (by omega) (by unfold maxLen; omega) (by omega) (by simp; omega) (wr.heap.size + 1) (by simp) ?_; intro gg cap w1 hown1 hgrow hat hlt1))
            go_wp2
            go_roundw
            case rel => exact ⟨6 + 1, by omega, by go_num, OutR.more HX.out HN.out HSU.out hown1, (HB.out.alloc hwz2 _).grown hgrow (by simp; omega) (fun _ hk => (HO2.out.lt _ hk).1)⟩
            case measure => simp [intOf]
          · have hg' : hasGr x 6 = false := by simpa using hg
            have hv : v6 = 0 := by rw [HV6.out]; unfold kp; rw [if_neg hg]
            have HSU := Lib.hid (gradesTo_no hg')
            clear hg hg'
            subst hv
            have ix : ∀ W, (Instr.index 89 (.agg #[.int .i64 v0, .int .i64 v1, .int .i64 v2, .int .i64 v3, .int .i64 v4, .int .i64 v5, .int .i64 0]) (.int .i64 6)).run Try.prog W = .ok (.int .i64 0) W := fun W => by kernel_rfl
            go_wp2
            clear ix
            go_roundw
            case rel => exact ⟨6 + 1, by omega, by go_num, by rw [HSU.out]; exact HO.out, HB.out⟩
            case measure => simp [intOf]
      · have hn : i = 7 := by omega
        subst hn
        obtain ⟨a8, c8, e8, ht8⟩ := HO.out.tag
        subst e8
        have HT8 := Lib.hid ht8
        clear ht8
        go_wp2
        go_ret2
        rw [HV.out, HC.out]
        exact ⟨a8, c8, rfl, HT8.out.own, HB.out⟩
  · have HI := Lib.hid hi
    have HC := Lib.hid hc
    have HV : Hid (gradesV pS S x = []) := by show _ = _; unfold gradesV; rw [if_neg (by rw [hc]; decide)]
    clear hi hc ha
    go_enter Try.func41, Try.ntmps41
    go_wp2_with (first | (go_at_call 85; go_loud ((with_reducible refine (checkM1 pS aS S cS loS tpS ax x cx lox tpx (w.heap.size + 1) _ _ _ (by simp) (HS.out.below ((Below.refl _ _).alloc (Nat.le_refl _) (.cells #[.int .i64 pS, .slice aS S.length cS] 26)) tS) (Nat.le_trans tS (((Below.refl _ _).alloc (Nat.le_refl _) (.cells #[.int .i64 pS, .slice aS S.length cS] 26))).size) sS (Hx.out.below ((Below.refl _ _).alloc (Nat.le_refl _) (.cells #[.int .i64 pS, .slice aS S.length cS] 26)) tx) (Nat.le_trans tx (((Below.refl _ _).alloc (Nat.le_refl _) (.cells #[.int .i64 pS, .slice aS S.length cS] 26))).size) sx).mono ?_); rintro e w3 ⟨rfl, b3⟩; rw [HC.out]; have B3 := Lib.hid b3; have K3_0_0 := (b3.cell (p := ⟨w.heap.size, 0, none⟩) (Nat.lt_of_lt_of_le (show w.heap.size < (w.alloc (.cells #[.int .i64 pS, .slice aS S.length cS] 26)).heap.size by simp) (Nat.le_trans (Nat.le_refl _) (size_alloc (w.alloc (.cells #[.int .i64 pS, .slice aS S.length cS] 26)) (.cells #[.slice ax x.length cx] 24))))).trans (show ((w.alloc (.cells #[.int .i64 pS, .slice aS S.length cS] 26)).alloc (.cells #[.slice ax x.length cx] 24)).cell? ⟨w.heap.size, 0, none⟩ = some (.int .i64 pS) from (World.cell?_alloc_old _ _ _ (by simp)).trans (by simp [go_sem])); have K3_0_1 := (b3.cell (p := ⟨w.heap.size, 1, none⟩) (Nat.lt_of_lt_of_le (show w.heap.size < (w.alloc (.cells #[.int .i64 pS, .slice aS S.length cS] 26)).heap.size by simp) (Nat.le_trans (Nat.le_refl _) (size_alloc (w.alloc (.cells #[.int .i64 pS, .slice aS S.length cS] 26)) (.cells #[.slice ax x.length cx] 24))))).trans (show ((w.alloc (.cells #[.int .i64 pS, .slice aS S.length cS] 26)).alloc (.cells #[.slice ax x.length cx] 24)).cell? ⟨w.heap.size, 1, none⟩ = some (.slice aS S.length cS) from (World.cell?_alloc_old _ _ _ (by simp)).trans (by simp [go_sem])); clear b3)))
    go_ret2
    rw [HV.out, HC.out]
    exact ⟨none, 0, rfl, .inl rfl, (below_step (((Below.refl _ _).alloc (Nat.le_refl _) (.cells #[.int .i64 pS, .slice aS S.length cS] 26)).alloc (show w.heap.size ≤ (w.alloc (.cells #[.int .i64 pS, .slice aS S.length cS] 26)).heap.size from (((Below.refl _ _).alloc (Nat.le_refl _) (.cells #[.int .i64 pS, .slice aS S.length cS] 26))).size) (.cells #[.slice ax x.length cx] 24)) (show w.heap.size ≤ ((w.alloc (.cells #[.int .i64 pS, .slice aS S.length cS] 26)).alloc (.cells #[.slice ax x.length cx] 24)).heap.size from ((((Below.refl _ _).alloc (Nat.le_refl _) (.cells #[.int .i64 pS, .slice aS S.length cS] 26)).alloc (show w.heap.size ≤ (w.alloc (.cells #[.int .i64 pS, .slice aS S.length cS] 26)).heap.size from (((Below.refl _ _).alloc (Nat.le_refl _) (.cells #[.int .i64 pS, .slice aS S.length cS] 26))).size) (.cells #[.slice ax x.length cx] 24))).size) B3.out)⟩

end Go.Proofs.Ytcamegdjdjacpaa
