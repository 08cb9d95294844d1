/-
  Bivectors: codes, turned vectors, brackets: contracts of the program and of the model.
  Conditions: the lists are nil or rows of known cells, of at most 1048576 numbers.
-/
import Derived.Test.YtkibkkdeaojjoaaQb27
import Derived.Test.YtkibkkdeaojjoaaQb12
import Derived.Test.YtkibkkdeaojjoaaQb21
import Derived.Test.YtkibkkdeaojjoaaQb28
import Derived.Test.YtkibkkdeaojjoaaQb17
import Derived.Test.YtkibkkdeaojjoaaQb6
import Derived.Deep.RegionHeld3
import Derived.Deep.DeepCutAuto
namespace Go.Proofs.Ytkibkkdeaojjoaa
open Go.RowKit
set_option linter.unusedVariables false

theorem allB2 {m : List (List Int)} {k : Nat} (hk : k = m.length) (h : ∀ j, j < k → isB2 (rw' m j) = true) : m.all isB2 = true := by
  rw [List.all_eq_true]
  intro y hy
  obtain ⟨j, hj, rfl⟩ := List.getElem_of_mem hy
  have := h j (by omega)
  rwa [show rw' m j = m[j] by simp [rw', List.getD, hj]] at this
theorem notB2 {m : List (List Int)} {k : Nat} (hk : k < m.length) (h : isB2 (rw' m k) = false) : m.all isB2 = false := by
  cases e : m.all isB2 with
  | false => rfl
  | true => have := List.all_eq_true.1 e _ (mem_row hk); rw [h] at this; cases this
theorem l01Same_p (a : Option Addr) (b : Nat) (x : List Int) (n ca cb lo tp lo' tp' : Nat) (w : World) (hn : x.length = n) (ha : RowIn lo tp w a x) (hb : RowIn lo' tp' w (some ⟨b, 0, none⟩) (mkR x.length (pg x 2))) (sa : x.length ≤ 1048576) :
    Calls Try.prog 39 #[.slice a n ca, .slice (some ⟨b, 0, none⟩) n cb] w fun e w' => e = .returned (.bool (isB2 x)) ∧ Below w.heap.size w w' := by
  subst hn
  have h := l01Same_any a (some ⟨b, 0, none⟩) x (mkR x.length (pg x 2)) ca cb lo tp lo' tp' w ha hb sa
  rw [mkR_len] at h
  exact h.mono fun _ _ ⟨e, q⟩ => ⟨e, q.below _⟩
set_option maxRecDepth 100000 in
set_option maxHeartbeats 3200000 in
theorem l10Code_any (pS : Int) (aS : Option Addr) (S : List Int) (cS loS tpS : Nat) (am : Option Addr) (m : List (List Int)) (cm lom tpm : Nat) (w : World) (hS : RowIn loS tpS w aS S) (tS : tpS ≤ w.heap.size) (sS : S.length ≤ 1048576) (hm : MatIn lom tpm w am m) (tm : tpm ≤ w.heap.size) (sm : m.length ≤ 1024) (sr : ∀ i, i < m.length → (rw' m i).length ≤ 1048576) :
    Calls Try.prog 50 #[.agg #[.int .i64 pS, .slice aS S.length cS], .slice am m.length cm] w fun e w' => e = .returned (.int .i64 (bvC pS S m)) ∧ Below w.heap.size w w' := by
  have HS := Lib.hid hS
  have Hm := Lib.hid hm
  have HSR := Lib.hid sr
  have k0 := nw0 w (.int .i64 pS) (.slice aS S.length cS) 28
  have k1 := nw1 w (.int .i64 pS) (.slice aS S.length cS) 28
  have HB0 := Lib.hid (below_alloc w (.cells #[.int .i64 pS, .slice aS S.length cS] 28))
  have HBAD : Hid (regC pS S m ≠ 0 → bvC pS S m = regC pS S m) := fun h => if_neg h
  obtain ⟨C, hC⟩ : ∃ c, c = regC pS S m := ⟨_, rfl⟩
  have HCE := Lib.hid hC
  clear hS hm sr hC
  go_enter Try.func50, Try.ntmps50
  go_upto_region 2 with (go_at_call 38; ((with_reducible refine (l05Regular_any pS aS S cS loS tpS am m cm lom tpm _ (HS.out.below HB0.out tS) (Nat.le_trans tS HB0.out.size) sS (Hm.out.below HB0.out tm) (Nat.le_trans tm HB0.out.size) (by omega) HSR.out).mono ?_); rintro e w2 ⟨rfl, b_⟩; rw [← HCE.out]; have HB2 := Lib.hid (below_step HB0.out HB0.out.size b_); clear b_ k0 k1))
  go_wp2
  go_loopw [5, 6] (fun c t wr => ∃ (i : Nat) (D : Int), i ≤ m.length ∧ t = .int .i64 i ∧ c = .int .i64 D ∧ Hid ((D = 0 → regC pS S m = 0 ∧ ∀ j, j < i → isB2 (rw' m j) = true) ∧ (D ≠ 0 → bvC pS S m = D)) ∧ Below w.heap.size w wr) (fun _ t _ => m.length - (intOf t).toNat)
  case atStart => exact ⟨0, C, Nat.zero_le _, rfl, rfl, ⟨fun h => ⟨by rw [← HCE.out]; exact h, fun j hj => absurd hj (Nat.not_lt_zero j)⟩, fun h => by rw [HBAD.out (by rw [← HCE.out]; exact h), ← HCE.out]⟩, HB2.out⟩
  case round =>
    obtain ⟨i, D, hi, rfl, rfl, HD, hbel⟩ := hrel
    have HB := Lib.hid hbel
    have hbz := hbel.size
    by_cases h0 : D = 0
    · subst h0
      have HZ := Lib.hid (HD.out.1 rfl)
      by_cases hlt : i < m.length
      · obtain ⟨b9, o9, rv, cv, ha9, _, hb9, hr90, hrow0⟩ := Hm.out.row hlt
        subst ha9
        have hr9 := (hbel.cell (p := ⟨b9, o9 + i, none⟩) (Nat.lt_of_lt_of_le hb9 tm)).trans hr90
        have HROW := Lib.hid (hrow0.below hbel tm)
        have hi1 : (i : Int) < (m.length : Int) := Int.ofNat_lt.2 hlt
        have HMV := Lib.hid (bi_all (regC_mv HZ.out.1).2.1 hlt)
        have h64 : (rw' m i).length ≤ 64 := by rw [Mv.len HMV.out]; exact bl_le (isSp_iff.1 (regC_mv HZ.out.1).1).hi
        have h20 : (rw' m i).length ≤ 1048576 := by omega
        have hs9 : Hid (wr.drew.cell? ⟨b9, o9 + i, none⟩ = some (.slice rv (rw' m i).length cv)) := hr9
        have l9 : b9 < wr.drew.heap.size := Nat.lt_of_lt_of_le hb9 (Nat.le_trans tm hbz)
        have HBD : Hid (Below w.heap.size w wr.drew) := HB.out.drew
        have HRD : Hid (RowIn lom tpm wr.drew rv (rw' m i)) := HROW.out.below (below_drew wr) (Nat.le_trans tm hbz)
        have tD : tpm ≤ wr.drew.heap.size := Nat.le_trans tm hbz
        clear hr90 hrow0 hbel
        cases hq : isB2 (rw' m i) with
        | true =>
          have HQ := Lib.hid hq
          clear hq hr9
          go_wp2
          go_region_held3 (fun w' => w'.cell? ⟨b9, o9 + i, none⟩ = some (.slice rv (rw' m i).length cv)) (first | exact hs9.out | exact SSa.out | exact SSab.out | go_keep) (first | (go_at_call 40; ((with_reducible refine (l04Part_any rv (rw' m i) cv lom tpm 2 wr.drew HRD.out tD h64).mono ?_); rintro e wa ⟨ba, rfl, la, ua, oa, b_⟩; have SSa := Lib.hid ((b_.cell (p := ⟨b9, o9 + i, none⟩) l9).trans hs9.out); have HBa := Lib.hid (below_step HBD.out HBD.out.size b_); have Ra := Lib.hid ((oa.own la ua).row); have Ma := Lib.hid (HRD.out.below b_ tD); have za := b_.size; clear b_ oa)) | (go_at_call 39; ((with_reducible refine (l01Same_p rv ba (rw' m i) (rw' m i).length cv (rw' m i).length lom tpm wr.drew.heap.size wa.heap.size wa rfl Ma.out Ra.out h20).mono ?_); rintro e wab ⟨rfl, b_⟩; rw [HQ.out]; have SSab := Lib.hid ((b_.cell (p := ⟨b9, o9 + i, none⟩) (Nat.lt_of_lt_of_le l9 za)).trans SSa.out); have HBab := Lib.hid (below_step HBa.out HBa.out.size b_); clear b_)))
          all_goals
            go_wp2
            go_roundw
            case rel => exact ⟨i + 1, 0, by omega, by go_num, rfl, ⟨fun _ => ⟨HZ.out.1, fun j hj => by
              by_cases e : j = i
              · subst e; exact HQ.out
              · exact HZ.out.2 j (by omega)⟩, fun h => absurd rfl h⟩, HBab.out⟩
            case measure => simp [intOf]; omega
        | false =>
          have HQ := Lib.hid hq
          clear hq hr9
          go_wp2
          go_region_held3 (fun w' => w'.cell? ⟨b9, o9 + i, none⟩ = some (.slice rv (rw' m i).length cv)) (first | exact hs9.out | exact SSa.out | exact SSab.out | go_keep) (first | (go_at_call 40; ((with_reducible refine (l04Part_any rv (rw' m i) cv lom tpm 2 wr.drew HRD.out tD h64).mono ?_); rintro e wa ⟨ba, rfl, la, ua, oa, b_⟩; have SSa := Lib.hid ((b_.cell (p := ⟨b9, o9 + i, none⟩) l9).trans hs9.out); have HBa := Lib.hid (below_step HBD.out HBD.out.size b_); have Ra := Lib.hid ((oa.own la ua).row); have Ma := Lib.hid (HRD.out.below b_ tD); have za := b_.size; clear b_ oa)) | (go_at_call 39; ((with_reducible refine (l01Same_p rv ba (rw' m i) (rw' m i).length cv (rw' m i).length lom tpm wr.drew.heap.size wa.heap.size wa rfl Ma.out Ra.out h20).mono ?_); rintro e wab ⟨rfl, b_⟩; rw [HQ.out]; have SSab := Lib.hid ((b_.cell (p := ⟨b9, o9 + i, none⟩) (Nat.lt_of_lt_of_le l9 za)).trans SSa.out); have HBab := Lib.hid (below_step HBa.out HBa.out.size b_); clear b_)))
          all_goals
            go_wp2
            go_roundw
            case rel => exact ⟨i + 1, 5, by omega, by go_num, rfl, ⟨fun h => absurd h (by decide), fun _ => by unfold bvC; rw [if_pos HZ.out.1, if_neg (by rw [notB2 hlt HQ.out]; decide)]⟩, HBab.out⟩
            case measure => simp [intOf]; omega
      · have hin : i = m.length := by omega
        subst hin
        have hi1 : ¬ (m.length : Int) < (m.length : Int) := Int.lt_irrefl _
        clear hbel
        go_wp2
        go_ret
        exact ⟨by unfold bvC; rw [if_pos HZ.out.1, if_pos (allB2 rfl HZ.out.2)]; rfl, HB.out⟩
    · have HV := Lib.hid (HD.out.2 h0)
      have h1 : (D == 0) = false := by simpa using h0
      clear hbel h0
      by_cases hlt : i < m.length
      · have hi1 : (i : Int) < (m.length : Int) := Int.ofNat_lt.2 hlt
        go_wp2
        go_ret
        exact ⟨by rw [HV.out]; rfl, HB.out⟩
      · have hi1 : ¬ (i : Int) < (m.length : Int) := by omega
        go_wp2
        go_ret
        exact ⟨by rw [HV.out]; rfl, HB.out⟩

theorem codeB1 (p : Int) (aS : Option Addr) (S : List Int) (cS loS tpS : Nat) (av : Option Addr) (v : List Int) (cv lov tpv b cap : Nat) (W : World) (T : TypeId) (hb : b = W.heap.size)
    (hS : RowIn loS tpS W aS S) (tS : tpS ≤ W.heap.size) (sS : S.length ≤ 1048576) (hv : RowIn lov tpv W av v) (tv : tpv ≤ W.heap.size) (sv : v.length ≤ 1048576) :
    Calls Try.prog 50 #[.agg #[.int .i64 p, .slice aS S.length cS], .slice (some ⟨b, 0, none⟩) 1 cap] (W.alloc (.cells #[.slice av v.length cv] T)) fun e w' => e = .returned (.int .i64 (bvC p S [v])) ∧ Below (W.alloc (.cells #[.slice av v.length cv] T)).heap.size (W.alloc (.cells #[.slice av v.length cv] T)) w' :=
  l10Code_any p aS S cS loS tpS (some ⟨b, 0, none⟩) [v] cap 0 _ _ (hS.below (below_alloc W _) tS) (Nat.le_trans tS (size_alloc W _)) sS (mv_one hb hv tv T) (Nat.le_refl _) (by show 1 ≤ 1024; omega) (fun i hi => by match i, hi with | 0, _ => exact sv)
theorem codeB2 (p : Int) (aS : Option Addr) (S : List Int) (cS loS tpS : Nat) (av : Option Addr) (v : List Int) (cv lov tpv : Nat) (au : Option Addr) (u : List Int) (cu lou tpu b cap : Nat) (W : World) (T : TypeId) (hb : b = W.heap.size)
    (hS : RowIn loS tpS W aS S) (tS : tpS ≤ W.heap.size) (sS : S.length ≤ 1048576) (hv : RowIn lov tpv W av v) (tv : tpv ≤ W.heap.size) (sv : v.length ≤ 1048576) (hu : RowIn lou tpu W au u) (tu : tpu ≤ W.heap.size) (su : u.length ≤ 1048576) :
    Calls Try.prog 50 #[.agg #[.int .i64 p, .slice aS S.length cS], .slice (some ⟨b, 0, none⟩) 2 cap] (W.alloc (.cells #[.slice av v.length cv, .slice au u.length cu] T)) fun e w' => e = .returned (.int .i64 (bvC p S [v, u])) ∧ Below (W.alloc (.cells #[.slice av v.length cv, .slice au u.length cu] T)).heap.size (W.alloc (.cells #[.slice av v.length cv, .slice au u.length cu] T)) w' :=
  l10Code_any p aS S cS loS tpS (some ⟨b, 0, none⟩) [v, u] cap 0 _ _ (hS.below (below_alloc W _) tS) (Nat.le_trans tS (size_alloc W _)) sS (mv_two hb hv tv hu tu T) (Nat.le_refl _) (by show 2 ≤ 1024; omega) (fun i hi => by match i, hi with | 0, _ => exact sv | 1, _ => exact su)

/-- The half bracket of a bivector and a vector as a list of numbers. -/
def tuM (p : Int) (S x v : List Int) : List Int := vnM S.length (hbM p S x (vecM S v))
theorem tuM_len (p : Int) (S x v : List Int) : (tuM p S x v).length = S.length := mkR_len _ _
theorem bracketS_n (pS : Int) (aS : Option Addr) (S : List Int) (cS loS tpS : Nat) (ax : Option Addr) (x : List Int) (cx lox tpx : Nat) (ay : Option Addr) (y : List Int) (n cy loy tpy : Nat) (w : World) (hn : y.length = n) (hs : isSp pS S = true) (hS : RowIn loS tpS w aS S) (tS : tpS ≤ w.heap.size) (hx : RowIn lox tpx w ax x) (tx : tpx ≤ w.heap.size) (mx : isMv pS S x = true) (hy : RowIn loy tpy w ay y) (ty : tpy ≤ w.heap.size) (my : isMv pS S y = true) :
    Calls Try.prog 89 #[.agg #[.int .i64 pS, .slice aS S.length cS], .slice ax x.length cx, .slice ay n cy] w (OwnE (brM pS S x y) w) := by
  subst hn; exact l04Bracket_any pS aS S cS loS tpS ax x cx lox tpx ay y cy loy tpy w hs hS tS hx tx mx hy ty my
theorem tu_list {p : Int} (S x v : List Int) : sclR p (lst2 S.length (brM p S x (vecM S v))) (inv p 2) = tuM p S x v := by
  unfold sclR tuM vnM
  have hl : (lst2 S.length (brM p S x (vecM S v))).length = S.length := mkR_len _ _
  rw [hl]
  refine mkR_congr fun i hi => ?_
  unfold vnF
  rw [hbM_at p S x _ (pow_lt hi)]
  unfold lst2
  rw [mkR_at _ hi]

set_option maxRecDepth 100000 in
set_option maxHeartbeats 6400000 in
theorem l10Turn_tag (pS : Int) (aS : Option Addr) (S : List Int) (cS loS tpS : Nat) (ax : Option Addr) (x : List Int) (cx lox tpx : Nat) (av : Option Addr) (v : List Int) (cv lov tpv : Nat) (w : World) (hs : isSp pS S = true) (hS : RowIn loS tpS w aS S) (tS : tpS ≤ w.heap.size) (hx : RowIn lox tpx w ax x) (tx : tpx ≤ w.heap.size) (mx : isMv pS S x = true) (hv : RowIn lov tpv w av v) (tv : tpv ≤ w.heap.size) (hvv : isVec pS S.length v = true) :
    Calls Try.prog 57 #[.agg #[.int .i64 pS, .slice aS S.length cS], .slice ax x.length cx, .slice av v.length cv] w (NewR (tuM pS S x v) w) := by
  have HS := Lib.hid hS
  have Hx := Lib.hid hx
  have HI := Lib.hid hs
  have HMX := Lib.hid mx
  have HP := Lib.hid (isSp_iff.1 hs).prime
  have h6 := (isSp_iff.1 hs).hi
  have hpb := prm_bd (isSp_iff.1 hs).prime
  have hbl := bl_le h6
  have hb0 := bl_pos S
  have k0 := nw0 w (.int .i64 pS) (.slice aS S.length cS) 28
  have k1 := nw1 w (.int .i64 pS) (.slice aS S.length cS) 28
  have HB0 := Lib.hid (below_alloc w (.cells #[.int .i64 pS, .slice aS S.length cS] 28))
  have Hv := Lib.hid hv
  have HVL := Lib.hid (isVec_iff.1 hvv).len
  have HVM := Lib.hid (vec_mv' hs hvv)
  have HBL : Hid ((brM pS S x (mkR (bl S) (vecF v v.length))).length = bl S) := brM_len _ _ _ _
  have HLL : Hid ((lst2 S.length (brM pS S x (mkR (bl S) (vecF v v.length)))).length ≤ 1048576) := by show (mkR _ _).length ≤ _; rw [mkR_len]; omega
  have HLB : Hid (∀ j, j < (lst2 S.length (brM pS S x (mkR (bl S) (vecF v v.length)))).length → 0 ≤ (lst2 S.length (brM pS S x (mkR (bl S) (vecF v v.length)))).getD j 0 ∧ (lst2 S.length (brM pS S x (mkR (bl S) (vecF v v.length)))).getD j 0 < pS) := fun j hj => by
    have hl : (lst2 S.length (brM pS S x (mkR (bl S) (vecF v v.length)))).length = S.length := mkR_len _ _
    rw [hl] at hj
    unfold lst2
    rw [mkR_at _ hj]
    exact bracket_num (by omega) S x _ _ (pow_lt hj)
  have HIV : Hid (0 ≤ inv pS 2 ∧ inv pS 2 ≤ pS) := ⟨(inv_bd HP.out 2).1, Int.le_of_lt (inv_bd HP.out 2).2⟩
  clear hS hx hs mx hv hvv
  go_enter Try.func57, Try.ntmps57
  go_upto_region 1 with fail
  obtain ⟨w1, hw1⟩ : ∃ z, z = w.alloc (.cells #[.int .i64 pS, .slice aS S.length cS] 28) := ⟨_, rfl⟩
  rw [← hw1] at HB0 k0 k1 ⊢
  have hd1 : w.heap.size < w1.heap.size := by rw [hw1]; simp
  have HB1 := HB0
  clear hw1
  have SS1 := Lib.hid (And.intro k0 k1)
  have hs1 : Hid (w1.drew.cell? ⟨w.heap.size, 0, none⟩ = some (.int .i64 pS) ∧ w1.drew.cell? ⟨w.heap.size, 1, none⟩ = some (.slice aS S.length cS)) := SS1.out
  have HBD : Hid (Below w.heap.size w w1.drew) := HB1.out.drew
  have hdd : w.heap.size < w1.drew.heap.size := hd1
  go_region_held3 (fun w' => w'.cell? ⟨w.heap.size, 0, none⟩ = some (.int .i64 pS) ∧ w'.cell? ⟨w.heap.size, 1, none⟩ = some (.slice aS S.length cS)) (first | exact hs1.out | exact SSa.out | exact SSab.out | exact SSabc.out | exact SSabcd.out | exact SSabcde.out | go_keep) (first | (go_at_call 90; (with_reducible refine (l04Vector_any pS aS S cS av v cv lov tpv w1.drew h6 HVL.out (Hv.out.below HBD.out tv) (Nat.le_trans tv (HBD.out).size)).mono ?_); rintro e wa ⟨ba, rfl, l_, u_, o_, b_⟩; have SSa := Lib.hid (ss2 b_ hdd hs1.out); have HBa := Lib.hid (below_step HBD.out (Nat.le_of_lt hdd) b_); have zz_ := b_.size; have hda := Nat.lt_of_lt_of_le hdd zz_; have la := Nat.lt_of_lt_of_le hdd l_; have ua_a := u_; have Na_a := Lib.hid o_; have Ra_a := Lib.hid ((o_.own (Nat.le_of_lt la) u_).row); clear b_ o_) | (go_at_call 89; (with_reducible refine (bracketS_n pS aS S cS loS tpS ax x cx lox tpx (some ⟨ba, 0, none⟩) (mkR (bl S) (vecF v v.length)) (bl S) (bl S) w.heap.size wa.heap.size wa (mkR_len _ _) HI.out (HS.out.below HBa.out tS) (Nat.le_trans tS (HBa.out).size) (Hx.out.below HBa.out tx) (Nat.le_trans tx (HBa.out).size) HMX.out Ra_a.out (Nat.le_refl _) HVM.out).mono ?_); rintro e wab ⟨rb, kb, rfl, o_, b_⟩; have SSab := Lib.hid (ss2 b_ hda SSa.out); have HBab := Lib.hid (below_step HBa.out (Nat.le_of_lt hda) b_); have zz_ := b_.size; have hdab := Nat.lt_of_lt_of_le hda zz_; have Ra_ab := Lib.hid ((Ra_a.out.below b_ (Nat.le_refl _)).mono (Nat.le_refl _) zz_); have Na_ab := Lib.hid (Na_a.out.stay (b_.block ba ua_a)); have ua_ab := Nat.lt_of_lt_of_le ua_a zz_; have Ob_ab := Lib.hid (OwnR.mono' o_ (Nat.le_of_lt hda) (Nat.le_refl _)); have Rb_ab := Lib.hid (Ob_ab.out.row); clear b_ o_) | (go_at_call 88; (with_reducible refine (l04List_any pS aS S cS rb (brM pS S x (mkR (bl S) (vecF v v.length))) kb w.heap.size wab.heap.size wab h6 Rb_ab.out (Nat.le_refl _) HBL.out).mono ?_); rintro e wabc ⟨rc, kc, rfl, o_, b_⟩; have SSabc := Lib.hid (ss2 b_ hdab SSab.out); have HBabc := Lib.hid (below_step HBab.out (Nat.le_of_lt hdab) b_); have zz_ := b_.size; have hdabc := Nat.lt_of_lt_of_le hdab zz_; have Ra_abc := Lib.hid ((Ra_ab.out.below b_ (Nat.le_refl _)).mono (Nat.le_refl _) zz_); have Na_abc := Lib.hid (Na_ab.out.stay (b_.block ba ua_ab)); have ua_abc := Nat.lt_of_lt_of_le ua_ab zz_; have Rb_abc := Lib.hid ((Rb_ab.out.below b_ (Nat.le_refl _)).mono (Nat.le_refl _) zz_); have Rc_abc := Lib.hid (o_.mono (Nat.le_of_lt hdab) (Nat.le_refl _)); clear b_ o_) | (go_at_call 48; (with_reducible refine (l01Inv_below pS 2 wabc HP.out (by omega) (by omega)).mono ?_); rintro e wabcd ⟨rfl, b_⟩; have SSabcd := Lib.hid (ss2 b_ hdabc SSabc.out); have HBabcd := Lib.hid (below_step HBabc.out (Nat.le_of_lt hdabc) b_); have zz_ := b_.size; have hdabcd := Nat.lt_of_lt_of_le hdabc zz_; have Ra_abcd := Lib.hid ((Ra_abc.out.below b_ (Nat.le_refl _)).mono (Nat.le_refl _) zz_); have Na_abcd := Lib.hid (Na_abc.out.stay (b_.block ba ua_abc)); have ua_abcd := Nat.lt_of_lt_of_le ua_abc zz_; have Rb_abcd := Lib.hid ((Rb_abc.out.below b_ (Nat.le_refl _)).mono (Nat.le_refl _) zz_); have Rc_abcd := Lib.hid ((Rc_abc.out.below b_ (Nat.le_refl _)).mono (Nat.le_refl _) zz_); clear b_) | (go_at_call 87; (with_reducible refine (l02Scale_any pS (inv pS 2) rc (lst2 S.length (brM pS S x (mkR (bl S) (vecF v v.length)))) kc w.heap.size wabcd.heap.size wabcd HP.out Rc_abcd.out (Nat.le_refl _) HLL.out HLB.out HIV.out.1 HIV.out.2).mono ?_); rintro e wabcde ⟨re, ke, rfl, o_, b_⟩; have SSabcde := Lib.hid (ss2 b_ hdabcd SSabcd.out); have HBabcde := Lib.hid (below_step HBabcd.out (Nat.le_of_lt hdabcd) b_); have zz_ := b_.size; have hdabcde := Nat.lt_of_lt_of_le hdabcd zz_; have Ra_abcde := Lib.hid ((Ra_abcd.out.below b_ (Nat.le_refl _)).mono (Nat.le_refl _) zz_); have Na_abcde := Lib.hid (Na_abcd.out.stay (b_.block ba ua_abcd)); have ua_abcde := Nat.lt_of_lt_of_le ua_abcd zz_; have Rb_abcde := Lib.hid ((Rb_abcd.out.below b_ (Nat.le_refl _)).mono (Nat.le_refl _) zz_); have Rc_abcde := Lib.hid ((Rc_abcd.out.below b_ (Nat.le_refl _)).mono (Nat.le_refl _) zz_); have Re_abcde := Lib.hid (o_.block (Nat.le_of_lt hdabcd) (Nat.le_refl _) (fun _ _ _ _ _ => rfl)); clear b_ o_))
  all_goals
    go_wp2
    go_ret
    exact ⟨re, ke, by rw [← tu_list]; rfl, by rw [← tu_list]; exact Re_abcde.out, HBabcde.out⟩

end Go.Proofs.Ytkibkkdeaojjoaa
