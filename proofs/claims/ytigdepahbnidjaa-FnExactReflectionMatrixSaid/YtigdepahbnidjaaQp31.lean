/-
  Versors (model): contracts of the program and of the model.
  Conditions: the lists are nil or rows of known cells, of at most 1048576 numbers.
  The model's GramOf: contract.
  Conditions: the lists are nil or rows of known cells, of at most 1048576 numbers.
  The program's Gram matrices: the walk.
  Conditions: the lists are nil or rows of known cells, of at most 1048576 numbers.
  The program's GramOf: contract.
  Conditions: the lists are nil or rows of known cells, of at most 1048576 numbers.
  Products of vectors: symmetric, linear, norms of sums. No Go in sight.
  No conditions.
  Geometric products of vectors: twice their product, squares are norms. No Go in sight.
  No conditions.
  BracketOf: contracts of the program and of the model.
  Conditions: the lists are nil or rows of known cells, of at most 1048576 numbers.
-/
import Derived.Test.YtigdepahbnidjaaQp29
import Derived.Test.YtigdepahbnidjaaQp28
import Derived.Test.YtigdepahbnidjaaQp30
import Derived.Test.YtigdepahbnidjaaQp19
import Derived.Test.YtigdepahbnidjaaQp20
import Derived.Test.YtigdepahbnidjaaQp10
import Derived.Deep.RegionHeld3
import Derived.Deep.DeepCutAuto
import Derived.Test.YtigdepahbnidjaaQp18
import Derived.Test.YtigdepahbnidjaaQp7
import Derived.Test.YtigdepahbnidjaaQp22
import Derived.Test.YtigdepahbnidjaaQp8
import Derived.Test.YtigdepahbnidjaaQp6
import Derived.Test.YtigdepahbnidjaaQp15
namespace Go.Proofs.Ytigdepahbnidjaa
open Go.RowKit
set_option linter.unusedVariables false

theorem l04Times_m (p : Int) (aS : Option Addr) (S : List Int) (cS loS tpS : Nat) (ax : Option Addr) (x : List Int) (nx cx lox tpx : Nat) (ay : Option Addr) (y : List Int) (ny cy loy tpy : Nat) (w : World) (hnx : x.length = nx) (hny : y.length = ny) (hs : isSp p S = true) (hS : RowIn loS tpS w aS S) (tS : tpS ≤ w.heap.size) (hx : RowIn lox tpx w ax x) (tx : tpx ≤ w.heap.size) (mx : isMv p S x = true) (hy : RowIn loy tpy w ay y) (ty : tpy ≤ w.heap.size) (my : isMv p S y = true) :
    Calls Try.prog 129 #[.agg #[.int .i64 p, .slice aS S.length cS], .slice ax nx cx, .slice ay ny cy] w (OwnE (prodM p S x y) w) := by
  subst hnx hny; exact times_own p aS S cS loS tpS ax x cx lox tpx ay y cy loy tpy w hs hS tS hx tx mx hy ty my
theorem l04Times_v (p : Int) (aS : Option Addr) (S : List Int) (cS loS tpS : Nat) (ax : Option Addr) (x : List Int) (nx cx lox tpx b lo tp : Nat) (v : List Int) (w : World) (hnx : x.length = nx) (hs : isSp p S = true) (hS : RowIn loS tpS w aS S) (tS : tpS ≤ w.heap.size) (hx : RowIn lox tpx w ax x) (tx : tpx ≤ w.heap.size) (mx : isMv p S x = true) (hy : RowIn lo tp w (some ⟨b, 0, none⟩) (mkR (bl S) (vecF v v.length))) (ty : tp ≤ w.heap.size) (hv : isVec p S.length v = true) :
    Calls Try.prog 129 #[.agg #[.int .i64 p, .slice aS S.length cS], .slice ax nx cx, .slice (some ⟨b, 0, none⟩) (bl S) (bl S)] w (OwnE (prodM p S x (vecM S v)) w) := l04Times_m p aS S cS loS tpS ax x nx cx lox tpx (some ⟨b, 0, none⟩) (vecM S v) (bl S) (bl S) lo tp w hnx (mkR_len _ _) hs hS tS hx tx mx hy ty (vec_mv hs hv)
theorem l04Times_n (p : Int) (aS : Option Addr) (S : List Int) (cS loS tpS : Nat) (ax : Option Addr) (x : List Int) (nx cx lox tpx : Nat) (ay : Option Addr) (y : List Int) (ny cy loy tpy : Nat) (w : World) (hnx : x.length = nx) (hny : y.length = ny) (hs : isSp p S = true) (hS : RowIn loS tpS w aS S) (tS : tpS ≤ w.heap.size) (hx : RowIn lox tpx w ax x) (tx : tpx ≤ w.heap.size) (mx : isMv p S x = true) (hy : RowIn loy tpy w ay y) (ty : tpy ≤ w.heap.size) (my : isMv p S y = true) :
    Calls Try.prog 129 #[.agg #[.int .i64 p, .slice aS S.length cS], .slice ax nx cx, .slice ay ny cy] w (NewRow (bl S) (prodF p S x y) w) := by
  subst hnx hny; exact l04Times_any p aS S cS loS tpS ax x cx lox tpx ay y cy loy tpy w (isSp_iff.1 hs).prime (isSp_iff.1 hs).hi hS tS (sp_nums hs) hx tx (Mv.len mx) (Mv.nums mx) hy ty (Mv.len my) (Mv.nums my)
theorem revM_len (p : Int) (x : List Int) : (revM p x).length = x.length := mkR_len _ _
theorem ivM_len (p : Int) (x : List Int) : (ivM p x).length = x.length := mkR_len _ _
theorem l04Rev (p : Int) (aS : Option Addr) (S : List Int) (cS : Nat) (ax : Option Addr) (x : List Int) (cx lox tpx : Nat) (w : World) (hs : isSp p S = true) (hx : RowIn lox tpx w ax x) (tx : tpx ≤ w.heap.size) (mx : isMv p S x = true) :
    Calls Try.prog 128 #[.agg #[.int .i64 p, .slice aS S.length cS], .slice ax x.length cx] w (fun e w' => ∃ r k, e = .returned (.slice r x.length k) ∧ RowIn w.heap.size w'.heap.size w' r (revM p x) ∧ Below w.heap.size w w') :=
  (l04Reverse_any p aS S cS ax x cx lox tpx w (isSp_iff.1 hs).prime hx tx (mv_small hs mx) (Mv.nums mx)).mono fun _ _ ⟨r, k, e, o, b⟩ => ⟨r, k, by rw [e, mkR_len], o, b⟩
theorem l04Inv7 (p : Int) (aS : Option Addr) (S : List Int) (cS : Nat) (ax : Option Addr) (x : List Int) (cx lox tpx : Nat) (w : World) (hs : isSp p S = true) (hx : RowIn lox tpx w ax x) (tx : tpx ≤ w.heap.size) (mx : isMv p S x = true) :
    Calls Try.prog 133 #[.agg #[.int .i64 p, .slice aS S.length cS], .slice ax x.length cx] w (fun e w' => ∃ r k, e = .returned (.slice r x.length k) ∧ RowIn w.heap.size w'.heap.size w' r (ivM p x) ∧ Below w.heap.size w w') :=
  (l04Involute_any p aS S cS ax x cx lox tpx w (isSp_iff.1 hs).prime hx tx (mv_small hs mx) (Mv.nums mx)).mono fun _ _ ⟨r, k, e, o, b⟩ => ⟨r, k, by rw [e, mkR_len], o, b⟩
theorem l01Inv_low7 (p a : Int) (w : World) (hp : prm p = true) (a0 : 1 ≤ a) (a1 : a < p) :
    Calls Try.prog 104 #[.int .i64 p, .int .i64 a] w fun e w' => e = .returned (.int .i64 (inv p a)) ∧ Below w.heap.size w w' :=
  (l01Inv_any p a w hp a0 a1).mono fun _ _ ⟨h, e⟩ => ⟨h, e ▸ Below.refl _ _⟩
theorem l02Scale_n7 (p k : Int) (a : Option Addr) (za : List Int) (n ca lo tp : Nat) (w : World) (hn : za.length = n) (hp : prm p = true) (ha : RowIn lo tp w a za) (ht : tp ≤ w.heap.size) (hs : za.length ≤ 1048576) (hna : ∀ j, j < za.length → 0 ≤ za.getD j 0 ∧ za.getD j 0 < p) (k0 : 0 ≤ k) (k1 : k ≤ p) :
    Calls Try.prog 130 #[.int .i64 p, .slice a n ca, .int .i64 k] w (fun e w' => ∃ r c, e = .returned (.slice r n c) ∧ RowIn w.heap.size w'.heap.size w' r (sclR p za k) ∧ Below w.heap.size w w') := by
  subst hn
  exact (l02Scale_any p k a za ca lo tp w hp ha ht hs hna k0 k1).mono fun _ _ ⟨r, c, e, o, b⟩ => ⟨r, c, by rw [e]; unfold sclR; rw [mkR_len], o.row, b⟩
theorem l01Same_b (a b : Option Addr) (za zb : List Int) (na nb ca cb lo tp lo' tp' : Nat) (w : World) (hna : za.length = na) (hnb : zb.length = nb) (ha : RowIn lo tp w a za) (hb : RowIn lo' tp' w b zb) (sa : na ≤ 1048576) :
    Calls Try.prog 99 #[.slice a na ca, .slice b nb cb] w fun e w' => e = .returned (.bool (decide (za = zb))) ∧ Below w.heap.size w w' := by
  subst hna hnb
  exact (l01Same_any a b za zb ca cb lo tp lo' tp' w ha hb sa).mono fun _ _ ⟨h, q⟩ => ⟨h, q.below _⟩
theorem parI_all {S x : List Int} (h6 : S.length ≤ 6) (hx : x.length = bl S) {o : Int} (ho : 0 < (grades S x).length → o = (grades S x).getD 0 0 % 2) (ho0 : (grades S x).length = 0 → o = 0) (hall : ∀ j, j < (grades S x).length → (grades S x).getD j 0 % 2 = o) : parI x = o := by
  unfold parI
  by_cases h0 : (grades S x).length = 0
  · rw [if_pos ((grades_mem h6 hx (r := 0)).2 fun i hi => by omega), ho0 h0]
  · have hp : 0 < (grades S x).length := by omega
    have e := ho hp
    have h2 : o = 0 ∨ o = 1 := by omega
    rcases h2 with h2 | h2
    · rw [if_pos ((grades_mem h6 hx (r := 0)).2 fun i hi => by rw [hall i hi, h2]; rfl), h2]
    · have hn : ¬ parB x 0 = true := fun h => by
        have := (grades_mem h6 hx (r := 0)).1 h 0 hp
        rw [← e, h2] at this; cases this
      rw [if_neg hn, if_pos ((grades_mem h6 hx (r := 1)).2 fun i hi => by rw [hall i hi, h2]; rfl), h2]
theorem parI_two {S x : List Int} (h6 : S.length ≤ 6) (hx : x.length = bl S) {i : Nat} (hi : i < (grades S x).length) (h : (grades S x).getD i 0 % 2 ≠ (grades S x).getD 0 0 % 2) : parI x = -1 := by
  have key : ∀ r : Nat, ¬ parB x r = true := fun r hr => by
    have h1 := (grades_mem h6 hx (r := r)).1 hr
    exact h (by rw [h1 i hi, h1 0 (by omega)])
  unfold parI
  rw [if_neg (key 0), if_neg (key 1)]

set_option maxRecDepth 100000 in
set_option maxHeartbeats 6400000 in
theorem l07Even_any (pS : Int) (aS : Option Addr) (S : List Int) (cS loS tpS : Nat) (ax : Option Addr) (x : List Int) (cx lox tpx : Nat) (w : World) (hs : isSp pS S = true) (hS : RowIn loS tpS w aS S) (tS : tpS ≤ w.heap.size) (hx : RowIn lox tpx w ax x) (tx : tpx ≤ w.heap.size) (mx : isMv pS S x = true) :
    Calls Try.prog 132 #[.agg #[.int .i64 pS, .slice aS S.length cS], .slice ax x.length cx] w (fun e w' => e = .returned (.int .i64 (parI x)) ∧ Below w.heap.size w w') := by
  have HI := Lib.hid hs
  have HS := Lib.hid hS
  have Hx := Lib.hid hx
  have HMx := Lib.hid mx
  have h6 := (isSp_iff.1 hs).hi
  have hl1 := (isSp_iff.1 hs).lo
  have hpb := prm_bd (isSp_iff.1 hs).prime
  have hbl := bl_le h6
  have hb0 := bl_pos S
  have hx64 : x.length ≤ 64 := by rw [Mv.len mx]; exact hbl
  have HB0 := Lib.hid (below_alloc w (.cells #[.int .i64 pS, .slice aS S.length cS] 30))
  have k0 := nw0 w (.int .i64 pS) (.slice aS S.length cS) 30
  have k1 := nw1 w (.int .i64 pS) (.slice aS S.length cS) 30
  have hMl := Mv.len mx
  have HML := Lib.hid hMl
  clear hs hS hx mx hMl
  go_enter Try.func132, Try.ntmps132
  go_upto_region 1 with fail
  obtain ⟨w1, hw1⟩ : ∃ z, z = w.alloc (.cells #[.int .i64 pS, .slice aS S.length cS] 30) := ⟨_, rfl⟩
  rw [← hw1] at HB0 k0 k1 ⊢
  have hw0 : w.heap.size < w1.heap.size := by rw [hw1]; simp
  clear hw1
  go_upto_region 2 with (go_at_call 172; ((with_reducible refine (l04Grades_any pS aS S cS ax x cx lox tpx w1 h6 (Hx.out.below HB0.out tx) (Nat.le_trans tx HB0.out.size) hx64).mono ?_); rintro e w2 ⟨r2, c2, rfl, m_, b_⟩; have HB2 := Lib.hid (below_step HB0.out HB0.out.size b_); have M2 := Lib.hid m_; clear m_ b_ k0 k1))
  obtain ⟨G, hG⟩ : ∃ g, g = grades S x := ⟨_, rfl⟩
  have HGE := Lib.hid hG
  have HGB : Hid (∀ i, i < G.length → 0 ≤ G.getD i 0 ∧ G.getD i 0 ≤ 6) := fun i hi => by rw [hG] at hi ⊢; exact grades_nn h6 hi
  have hGl : G.length ≤ 7 := by
    rw [hG]; unfold grades
    rw [List.length_map]
    exact Nat.le_trans (List.length_filter_le _ _) (by rw [List.length_range]; omega)
  rw [← hG] at M2 ⊢
  clear hG
  go_wp2
  go_loop [6, 7] (fun s6 s7 => ∃ (i : Nat) (o : Int), i ≤ G.length ∧ s7 = .int .i64 i ∧ s6 = .int .i64 o ∧ (i = 0 → o = 0) ∧ (0 < i → o = G.getD 0 0 % 2) ∧ (∀ j, j < i → G.getD j 0 % 2 = o)) (fun _ t => G.length - (intOf t).toNat)
  case atStart => exact ⟨0, 0, Nat.zero_le _, rfl, rfl, fun _ => rfl, fun h => by omega, fun j hj => by omega⟩
  case round =>
    obtain ⟨i, o, hi, rfl, rfl, h0, h1, hall⟩ := hrel
    have HALL := Lib.hid hall
    have H0 := Lib.hid h0
    have H1 := Lib.hid h1
    by_cases hlt : i < G.length
    · have hi1 : (i : Int) < (G.length : Int) := by omega
      obtain ⟨bz, oz, haz, _, _, hcz⟩ := M2.out.num hlt
      have hg0 : 0 < G.length := by omega
      have hcz0 : w2.cell? ⟨bz, oz, none⟩ = some (.int .i64 (G.getD 0 0)) := by
        obtain ⟨b', o', ha', _, _, h'⟩ := M2.out.num hg0
        rw [haz] at ha'
        injection ha' with ha'
        injection ha' with e1 e2
        subst e1 e2
        rw [Nat.add_zero] at h'; exact h'
      subst haz
      obtain ⟨Y, hY⟩ : ∃ y, y = G.getD i 0 := ⟨_, rfl⟩
      obtain ⟨Z, hZ⟩ : ∃ y, y = G.getD 0 0 := ⟨_, rfl⟩
      have hYb : 0 ≤ Y ∧ Y ≤ 6 := by rw [hY]; exact HGB.out i hlt
      have hZb : 0 ≤ Z ∧ Z ≤ 6 := by rw [hZ]; exact HGB.out 0 hg0
      have hYt : Y.tmod 2 = Y % 2 := Int.tmod_eq_emod_of_nonneg hYb.1
      have hZt : Z.tmod 2 = Z % 2 := Int.tmod_eq_emod_of_nonneg hZb.1
      have hg1 : (0 : Int) < (G.length : Int) := by omega
      have HYE := Lib.hid hY
      have HZE := Lib.hid hZ
      rw [← hY] at hcz
      rw [← hZ] at hcz0
      have HZ1 : Hid (0 < i → o = Z % 2) := by show _ → _; rw [hZ]; exact h1
      clear h0 h1 hall hY hZ
      by_cases hi0 : i = 0
      · subst hi0
        rw [Nat.add_zero] at hcz
        have hYZ : Y = Z := by rw [HYE.out, HZE.out]
        subst hYZ
        have e1 : ((Y % 2 != Y % 2) : Bool) = false := by simp
        clear hcz0
        go_wp2
        go_round
        case rel => exact ⟨1, Y % 2, by omega, by go_num, by simp, fun h => by omega, fun _ => by rw [HZE.out], fun j hj => by rw [show j = 0 by omega, ← HZE.out]⟩
        case measure => simp [intOf]; omega
      · have hi2 : ¬ ((i : Int) = 0) := by omega
        have hi3 : ((i : Int) == 0) = false := by simpa using hi0
        have ho : o = Z % 2 := HZ1.out (by omega)
        subst ho
        by_cases hyz : Y % 2 = Z % 2
        · have e1 : ((Y % 2 != Z % 2) : Bool) = false := by simpa using hyz
          have HYZ := Lib.hid hyz
          clear hyz
          go_wp2
          go_round
          case rel => exact ⟨i + 1, Z % 2, by omega, by go_num, rfl, fun h => by omega, fun _ => by rw [HZE.out], fun j hj => by
            by_cases e : j = i
            · subst e; rw [← HYE.out]; exact HYZ.out
            · exact HALL.out j (by omega)⟩
          case measure => simp [intOf]; omega
        · have e1 : ((Y % 2 != Z % 2) : Bool) = true := by simpa using hyz
          have HV : Hid (parI x = -1) := by
            show _ = _
            refine parI_two h6 HML.out (i := i) (by rw [← HGE.out]; exact hlt) ?_
            rw [← HGE.out, ← HYE.out, ← HZE.out]; exact hyz
          clear hyz
          go_wp2
          go_ret
          exact ⟨by rw [HV.out]; rfl, HB2.out⟩
    · have hin : i = G.length := by omega
      subst hin
      have HV : Hid (parI x = o) := by
        show _ = _
        rw [HGE.out] at H0 H1 HALL
        exact parI_all h6 HML.out H1.out H0.out HALL.out
      clear h0 h1 hall
      go_wp2
      go_ret
      exact ⟨by rw [HV.out]; rfl, HB2.out⟩

set_option maxRecDepth 100000 in
set_option maxHeartbeats 6400000 in
theorem l07Norm_any (pS : Int) (aS : Option Addr) (S : List Int) (cS loS tpS : Nat) (ax : Option Addr) (x : List Int) (cx lox tpx : Nat) (w : World) (hs : isSp pS S = true) (hS : RowIn loS tpS w aS S) (tS : tpS ≤ w.heap.size) (hx : RowIn lox tpx w ax x) (tx : tpx ≤ w.heap.size) (mx : isMv pS S x = true) :
    Calls Try.prog 174 #[.agg #[.int .i64 pS, .slice aS S.length cS], .slice ax x.length cx] w (fun e w' => e = .returned (.int .i64 (nrF pS S x)) ∧ Below w.heap.size w w') := by
  have HI := Lib.hid hs
  have HS := Lib.hid hS
  have Hx := Lib.hid hx
  have HMx := Lib.hid mx
  have h6 := (isSp_iff.1 hs).hi
  have hl1 := (isSp_iff.1 hs).lo
  have hpb := prm_bd (isSp_iff.1 hs).prime
  have hbl := bl_le h6
  have hb0 := bl_pos S
  have hx64 : x.length ≤ 64 := by rw [Mv.len mx]; exact hbl
  have HB0 := Lib.hid (below_alloc w (.cells #[.int .i64 pS, .slice aS S.length cS] 30))
  have k0 := nw0 w (.int .i64 pS) (.slice aS S.length cS) 30
  have k1 := nw1 w (.int .i64 pS) (.slice aS S.length cS) 30
  have hi0 : (0 : Int) < ((bl S : Nat) : Int) := by omega
  clear hs hS hx mx
  go_enter Try.func174, Try.ntmps174
  go_upto_region 1 with fail
  obtain ⟨w1, hw1⟩ : ∃ z, z = w.alloc (.cells #[.int .i64 pS, .slice aS S.length cS] 30) := ⟨_, rfl⟩
  rw [← hw1] at HB0 k0 k1 ⊢
  have hw0 : w.heap.size < w1.heap.size := by rw [hw1]; simp
  clear hw1
  have hs1 : Hid (w1.drew.cell? ⟨w.heap.size, 0, none⟩ = some (.int .i64 pS) ∧ w1.drew.cell? ⟨w.heap.size, 1, none⟩ = some (.slice aS S.length cS)) := ⟨k0, k1⟩
  have HBD : Hid (Below w.heap.size w w1.drew) := HB0.out.drew
  have hd0 : w.heap.size < w1.drew.heap.size := hw0
  refine wp_region_noPanic ?_
  refine wp_region_held_drew (S := fun w' => w'.cell? ⟨w.heap.size, 0, none⟩ = some (.int .i64 pS) ∧ w'.cell? ⟨w.heap.size, 1, none⟩ = some (.slice aS S.length cS)) (by kernel_rfl) (hs1.out) (fun hHeld => ?_)
  (refine wpAnyH_take (i := 0) (oi := _) (v := ?_) rfl (by kernel_rfl) (by kernel_rfl) (by kernel_rfl) (fun _ _ _ h => h) (Or.inl ⟨by kernel_rfl, ?_⟩) (by assumption) ?_; rotate_left; (focus (intro w' hSw; (try dsimp only at hSw); first | (go_simp; done) | (go_simp; with_reducible rfl)))); ((try simp only [Act.put]); (try simp only [List.setIfInBounds_toArray]); (try simp only [List.set_cons_succ]); (try simp only [List.set_cons_zero]))
  (refine wpAnyH_take (i := 1) (oi := _) (v := ?_) rfl (by kernel_rfl) (by kernel_rfl) (by kernel_rfl) (fun _ _ _ h => h) (Or.inl ⟨by kernel_rfl, ?_⟩) (by assumption) ?_; rotate_left; (focus (intro w' hSw; (try dsimp only at hSw); first | (go_simp; done) | (go_simp; with_reducible rfl)))); ((try simp only [Act.put]); (try simp only [List.setIfInBounds_toArray]); (try simp only [List.set_cons_succ]); (try simp only [List.set_cons_zero]))
  (refine wpAnyH_take (i := 2) (oi := _) (v := ?_) rfl (by kernel_rfl) (by kernel_rfl) (by kernel_rfl) (fun _ _ _ h => h) (Or.inl ⟨by kernel_rfl, ?_⟩) (by assumption) ?_; rotate_left; (focus (intro w' hSw; (try dsimp only at hSw); first | (go_simp; done) | (go_simp; with_reducible rfl)))); ((try simp only [Act.put]); (try simp only [List.setIfInBounds_toArray]); (try simp only [List.set_cons_succ]); (try simp only [List.set_cons_zero]))
  (refine wpAnyH_take (i := 3) (oi := _) (v := ?_) rfl (by kernel_rfl) (by kernel_rfl) (by kernel_rfl) (fun _ _ _ h => h) (Or.inl ⟨by kernel_rfl, ?_⟩) (by assumption) ?_; rotate_left; (focus (intro w' hSw; (try dsimp only at hSw); first | (go_simp; done) | (go_simp; with_reducible rfl)))); ((try simp only [Act.put]); (try simp only [List.setIfInBounds_toArray]); (try simp only [List.set_cons_succ]); (try simp only [List.set_cons_zero]))
  refine wpAnyH_ready (rs := [4]) (by kernel_rfl) (by simp) ?_
  refine AllReadyH.cons (o := _) rfl (fun K hK => ?_) AllReadyH.nil
  go_simp; go_at_call 128; (with_reducible refine (l04Rev pS aS S cS ax x cx lox tpx w1.drew HI.out (Hx.out.below HBD.out tx) (Nat.le_trans tx (HBD.out).size) HMx.out).mono ?_); rintro e wa ⟨ra, ka, rfl, o_, b_⟩; have SSa := Lib.hid (ss2 b_ hd0 hs1.out); have HBa := Lib.hid (below_step HBD.out (Nat.le_of_lt hd0) b_); have zz_ := b_.size; have hda := Nat.lt_of_lt_of_le hd0 zz_; have Ra_a := Lib.hid (o_.mono (Nat.le_of_lt hd0) (Nat.le_refl _)); clear b_ o_; (try go_wp2_with fail)
  refine hK.out _ _ (SSa.out) (fun hHeld => ?_)
  clear hK K
  ((try simp only [Act.put]); (try simp only [List.setIfInBounds_toArray]); (try simp only [List.set_cons_succ]); (try simp only [List.set_cons_zero]))
  refine wpAnyH_ready (rs := [5]) (by kernel_rfl) (by simp) ?_
  refine AllReadyH.cons (o := _) rfl (fun K hK => ?_) AllReadyH.nil
  go_simp; go_at_call 129; (with_reducible refine (l04Times_n pS aS S cS loS tpS ax x x.length cx lox tpx ra (revM pS x) x.length ka w.heap.size wa.heap.size wa rfl (revM_len _ _) HI.out (HS.out.below HBa.out tS) (Nat.le_trans tS (HBa.out).size) (Hx.out.below HBa.out tx) (Nat.le_trans tx (HBa.out).size) HMx.out Ra_a.out (Nat.le_refl _) (rev_mv HI.out HMx.out)).mono ?_); rintro e wab ⟨bb, rfl, l_, u_, o_, b_⟩; have SSab := Lib.hid (ss2 b_ hda SSa.out); have HBab := Lib.hid (below_step HBa.out (Nat.le_of_lt hda) b_); have zz_ := b_.size; have hdab := Nat.lt_of_lt_of_le hda zz_; have Ra_ab := Lib.hid ((Ra_a.out.below b_ (Nat.le_refl _)).mono (Nat.le_refl _) zz_); have lb := Nat.lt_of_lt_of_le hda l_; have ub_ab := u_; have Nb_ab := Lib.hid o_; have Rb_ab := Lib.hid ((o_.own (Nat.le_of_lt lb) u_).row); have c0_ := o_.cell 0 hb0; rw [Nat.zero_add] at c0_; clear b_ o_; (try go_wp2_with fail)
  refine hK.out _ _ (SSab.out) (fun hHeld => ?_)
  clear hK K
  ((try simp only [Act.put]); (try simp only [List.setIfInBounds_toArray]); (try simp only [List.set_cons_succ]); (try simp only [List.set_cons_zero]))
  (refine wpAnyH_take (i := 6) (oi := _) (v := ?_) rfl (by kernel_rfl) (by kernel_rfl) (by kernel_rfl) (fun _ _ _ h => h) (Or.inl ⟨by kernel_rfl, ?_⟩) (by assumption) ?_; rotate_left; (focus (intro w' hSw; (try dsimp only at hSw); first | (go_simp; done) | (go_simp; with_reducible rfl)))); ((try simp only [Act.put]); (try simp only [List.setIfInBounds_toArray]); (try simp only [List.set_cons_succ]); (try simp only [List.set_cons_zero]))
  refine wpAnyH_ready (rs := [7]) (by kernel_rfl) (by simp) ?_
  refine AllReadyH.cons (o := _) rfl (fun K hK => ?_) AllReadyH.nil
  go_simp
  refine hK.out _ _ (hHeld) (fun hHeld => ?_)
  clear hK K
  ((try simp only [Act.put]); (try simp only [List.setIfInBounds_toArray]); (try simp only [List.set_cons_succ]); (try simp only [List.set_cons_zero]))
  refine wpAnyH_ready (rs := [8]) (by kernel_rfl) (by simp) ?_
  refine AllReadyH.cons (o := _) rfl (fun K hK => ?_) AllReadyH.nil
  go_simp
  refine hK.out _ _ (hHeld) (fun hHeld => ?_)
  clear hK K
  ((try simp only [Act.put]); (try simp only [List.setIfInBounds_toArray]); (try simp only [List.set_cons_succ]); (try simp only [List.set_cons_zero]))
  refine wpAnyH_done (by kernel_rfl) ?_ _
  refine NoPanic.normal ?_
  go_wp2
  go_ret
  exact ⟨rfl, HBab.out⟩

set_option maxRecDepth 100000 in
set_option maxHeartbeats 6400000 in
theorem l07Inverse_any (pS : Int) (aS : Option Addr) (S : List Int) (cS loS tpS : Nat) (ax : Option Addr) (x : List Int) (cx lox tpx : Nat) (w : World) (hs : isSp pS S = true) (hS : RowIn loS tpS w aS S) (tS : tpS ≤ w.heap.size) (hx : RowIn lox tpx w ax x) (tx : tpx ≤ w.heap.size) (mx : isMv pS S x = true) (h0 : nrF pS S x ≠ 0) :
    Calls Try.prog 137 #[.agg #[.int .i64 pS, .slice aS S.length cS], .slice ax x.length cx] w (fun e w' => ∃ r k, e = .returned (.slice r x.length k) ∧ RowIn w.heap.size w'.heap.size w' r (viM pS S x) ∧ Below w.heap.size w w') := by
  have HI := Lib.hid hs
  have HS := Lib.hid hS
  have Hx := Lib.hid hx
  have HMx := Lib.hid mx
  have h6 := (isSp_iff.1 hs).hi
  have hl1 := (isSp_iff.1 hs).lo
  have hpb := prm_bd (isSp_iff.1 hs).prime
  have hbl := bl_le h6
  have hb0 := bl_pos S
  have hx64 : x.length ≤ 64 := by rw [Mv.len mx]; exact hbl
  have HB0 := Lib.hid (below_alloc w (.cells #[.int .i64 pS, .slice aS S.length cS] 30))
  have k0 := nw0 w (.int .i64 pS) (.slice aS S.length cS) 30
  have k1 := nw1 w (.int .i64 pS) (.slice aS S.length cS) 30
  have hFb := nrF_bd hs x
  have HF1 : Hid (1 ≤ nrF pS S x) := by show _ ≤ _; omega
  have HF2 : Hid (nrF pS S x < pS) := hFb.2
  have HIV : Hid (0 ≤ inv pS (nrF pS S x) ∧ inv pS (nrF pS S x) < pS) := inv_bd (isSp_iff.1 hs).prime _
  have hinv : inv pS (nrF pS S x) ≤ pS := Int.le_of_lt HIV.out.2
  clear h0 hFb
  clear hs hS hx mx
  go_enter Try.func137, Try.ntmps137
  go_upto_region 1 with fail
  obtain ⟨w1, hw1⟩ : ∃ z, z = w.alloc (.cells #[.int .i64 pS, .slice aS S.length cS] 30) := ⟨_, rfl⟩
  rw [← hw1] at HB0 k0 k1 ⊢
  have hw0 : w.heap.size < w1.heap.size := by rw [hw1]; simp
  clear hw1
  have hs1 : Hid (w1.drew.cell? ⟨w.heap.size, 0, none⟩ = some (.int .i64 pS) ∧ w1.drew.cell? ⟨w.heap.size, 1, none⟩ = some (.slice aS S.length cS)) := ⟨k0, k1⟩
  have HBD : Hid (Below w.heap.size w w1.drew) := HB0.out.drew
  have hd0 : w.heap.size < w1.drew.heap.size := hw0
  go_region_held3 (fun w' => w'.cell? ⟨w.heap.size, 0, none⟩ = some (.int .i64 pS) ∧ w'.cell? ⟨w.heap.size, 1, none⟩ = some (.slice aS S.length cS)) (first | exact hs1.out | exact SSa.out | exact SSab.out | exact SSabc.out | exact SSabcd.out | go_keep) (first | (go_at_call 128; (with_reducible refine (l04Rev pS aS S cS ax x cx lox tpx w1.drew HI.out (Hx.out.below HBD.out tx) (Nat.le_trans tx (HBD.out).size) HMx.out).mono ?_); rintro e wa ⟨ra, ka, rfl, o_, b_⟩; have SSa := Lib.hid (ss2 b_ hd0 hs1.out); have HBa := Lib.hid (below_step HBD.out (Nat.le_of_lt hd0) b_); have zz_ := b_.size; have hda := Nat.lt_of_lt_of_le hd0 zz_; have Ra_a := Lib.hid (o_.mono (Nat.le_of_lt hd0) (Nat.le_refl _)); clear b_ o_) | (go_at_call 174; (with_reducible refine (l07Norm_any pS aS S cS loS tpS ax x cx lox tpx wa HI.out (HS.out.below HBa.out tS) (Nat.le_trans tS (HBa.out).size) (Hx.out.below HBa.out tx) (Nat.le_trans tx (HBa.out).size) HMx.out).mono ?_); rintro e wab ⟨rfl, b_⟩; have SSab := Lib.hid (ss2 b_ hda SSa.out); have HBab := Lib.hid (below_step HBa.out (Nat.le_of_lt hda) b_); have zz_ := b_.size; have hdab := Nat.lt_of_lt_of_le hda zz_; have Ra_ab := Lib.hid ((Ra_a.out.below b_ (Nat.le_refl _)).mono (Nat.le_refl _) zz_); clear b_) | (go_at_call 104; (with_reducible refine (l01Inv_low7 pS (nrF pS S x) wab (isSp_iff.1 HI.out).prime HF1.out HF2.out).mono ?_); rintro e wabc ⟨rfl, b_⟩; have SSabc := Lib.hid (ss2 b_ hdab SSab.out); have HBabc := Lib.hid (below_step HBab.out (Nat.le_of_lt hdab) b_); have zz_ := b_.size; have hdabc := Nat.lt_of_lt_of_le hdab zz_; have Ra_abc := Lib.hid ((Ra_ab.out.below b_ (Nat.le_refl _)).mono (Nat.le_refl _) zz_); clear b_) | (go_at_call 130; (with_reducible refine (l02Scale_n7 pS (inv pS (nrF pS S x)) ra (revM pS x) x.length ka w.heap.size wabc.heap.size wabc (revM_len _ _) (isSp_iff.1 HI.out).prime Ra_abc.out (Nat.le_refl _) (by rw [revM_len]; omega) (Mv.num (rev_mv HI.out HMx.out)) HIV.out.1 hinv).mono ?_); rintro e wabcd ⟨rd, kd, rfl, o_, b_⟩; have SSabcd := Lib.hid (ss2 b_ hdabc SSabc.out); have HBabcd := Lib.hid (below_step HBabc.out (Nat.le_of_lt hdabc) b_); have zz_ := b_.size; have hdabcd := Nat.lt_of_lt_of_le hdabc zz_; have Ra_abcd := Lib.hid ((Ra_abc.out.below b_ (Nat.le_refl _)).mono (Nat.le_refl _) zz_); have Rd_abcd := Lib.hid (o_.mono (Nat.le_of_lt hdabc) (Nat.le_refl _)); clear b_ o_))
  go_wp2
  go_ret
  exact ⟨rd, kd, rfl, Rd_abcd.out, HBabcd.out⟩

end Go.Proofs.Ytigdepahbnidjaa

namespace Go.Proofs.Ytigdepahbnidjaa
open Go.RowKit
set_option linter.unusedVariables false

theorem plusR_ln (p k : Int) (v u : List Int) : (plusR p v u k).length = v.length := by unfold plusR; rw [mkR_len]
end Go.Proofs.Ytigdepahbnidjaa
