/-
  Bivectors: codes, turned vectors, brackets: contracts of the program and of the model.
  Conditions: the lists are nil or rows of known cells, of at most 1048576 numbers.
-/
import Derived.Test.YtkibkkdeaojjoaaQa24
import Derived.Test.YtkibkkdeaojjoaaQa12
import Derived.Test.YtkibkkdeaojjoaaQa20
import Derived.Test.YtkibkkdeaojjoaaQa11
import Derived.Test.YtkibkkdeaojjoaaQa16
import Derived.Test.YtkibkkdeaojjoaaQa6
import Derived.Deep.RegionHeld3
import Derived.Deep.DeepCutAuto
namespace Go.Proofs.Ytkibkkdeaojjoaa
open Go.RowKit
set_option linter.unusedVariables false

theorem halfBracket_n (pS : Int) (aS : Option Addr) (S : List Int) (cS loS tpS : Nat) (ax : Option Addr) (x : List Int) (cx lox tpx : Nat) (ay : Option Addr) (y : List Int) (n cy loy tpy : Nat) (w : World) (hn : y.length = n) (hs : isSp pS S = true) (hS : RowIn loS tpS w aS S) (tS : tpS ≤ w.heap.size) (hx : RowIn lox tpx w ax x) (tx : tpx ≤ w.heap.size) (mx : isMv pS S x = true) (hy : RowIn loy tpy w ay y) (ty : tpy ≤ w.heap.size) (my : isMv pS S y = true) :
    Calls Try.prog 60 #[.agg #[.int .i64 pS, .slice aS S.length cS, .slice ax x.length cx], .slice ay n cy] w (HbN pS S x y w) := by
  subst hn; exact halfBracket_own pS aS S cS loS tpS ax x cx lox tpx ay y cy loy tpy w hs hS tS hx tx mx hy ty my
theorem allB2 {m : List (List Int)} {k : Nat} (hk : k = m.length) (h : ∀ j, j < k → isB2 (rw' m j) = true) : m.all isB2 = true := by
  rw [List.all_eq_true]
  intro y hy
  obtain ⟨j, hj, rfl⟩ := List.getElem_of_mem hy
  have := h j (by omega)
  rwa [show rw' m j = m[j] by simp [rw', List.getD, hj]] at this
theorem notB2 {m : List (List Int)} {k : Nat} (hk : k < m.length) (h : isB2 (rw' m k) = false) : m.all isB2 = false := by
  cases e : m.all isB2 with
  | false => rfl
  | true => have := List.all_eq_true.1 e _ (mem_row hk); rw [h] at this; cases this
theorem l01Same_p (a : Option Addr) (b : Nat) (x : List Int) (n ca cb lo tp lo' tp' : Nat) (w : World) (hn : x.length = n) (ha : RowIn lo tp w a x) (hb : RowIn lo' tp' w (some ⟨b, 0, none⟩) (mkR x.length (pg x 2))) (sa : x.length ≤ 1048576) :
    Calls Try.prog 39 #[.slice a n ca, .slice (some ⟨b, 0, none⟩) n cb] w fun e w' => e = .returned (.bool (isB2 x)) ∧ Below w.heap.size w w' := by
  subst hn
  have h := l01Same_any a (some ⟨b, 0, none⟩) x (mkR x.length (pg x 2)) ca cb lo tp lo' tp' w ha hb sa
  rw [mkR_len] at h
  exact h.mono fun _ _ ⟨e, q⟩ => ⟨e, q.below _⟩
set_option maxRecDepth 100000 in
set_option maxHeartbeats 3200000 in
theorem l10Code_any (pS : Int) (aS : Option Addr) (S : List Int) (cS loS tpS : Nat) (am : Option Addr) (m : List (List Int)) (cm lom tpm : Nat) (w : World) (hS : RowIn loS tpS w aS S) (tS : tpS ≤ w.heap.size) (sS : S.length ≤ 1048576) (hm : MatIn lom tpm w am m) (tm : tpm ≤ w.heap.size) (sm : m.length ≤ 1024) (sr : ∀ i, i < m.length → (rw' m i).length ≤ 1048576) :
    Calls Try.prog 50 #[.agg #[.int .i64 pS, .slice aS S.length cS], .slice am m.length cm] w fun e w' => e = .returned (.int .i64 (bvC pS S m)) ∧ Below w.heap.size w w' := by
  have HS := Lib.hid hS
  have Hm := Lib.hid hm
  have HSR := Lib.hid sr
  have k0 := nw0 w (.int .i64 pS) (.slice aS S.length cS) 28
  have k1 := nw1 w (.int .i64 pS) (.slice aS S.length cS) 28
  have HB0 := Lib.hid (below_alloc w (.cells #[.int .i64 pS, .slice aS S.length cS] 28))
  have HBAD : Hid (regC pS S m ≠ 0 → bvC pS S m = regC pS S m) := fun h => if_neg h
  obtain ⟨C, hC⟩ : ∃ c, c = regC pS S m := ⟨_, rfl⟩
  have HCE := Lib.hid hC
  clear hS hm sr hC
  go_enter Try.func50, Try.ntmps50
  go_upto_region 2 with (go_at_call 38; ((with_reducible refine (l05Regular_any pS aS S cS loS tpS am m cm lom tpm _ (HS.out.below HB0.out tS) (Nat.le_trans tS HB0.out.size) sS (Hm.out.below HB0.out tm) (Nat.le_trans tm HB0.out.size) (by omega) HSR.out).mono ?_); rintro e w2 ⟨rfl, b_⟩; rw [← HCE.out]; have HB2 := Lib.hid (below_step HB0.out HB0.out.size b_); clear b_ k0 k1))
  go_wp2
  go_loopw [5, 6] (fun c t wr => ∃ (i : Nat) (D : Int), i ≤ m.length ∧ t = .int .i64 i ∧ c = .int .i64 D ∧ Hid ((D = 0 → regC pS S m = 0 ∧ ∀ j, j < i → isB2 (rw' m j) = true) ∧ (D ≠ 0 → bvC pS S m = D)) ∧ Below w.heap.size w wr) (fun _ t _ => m.length - (intOf t).toNat)
  case atStart => exact ⟨0, C, Nat.zero_le _, rfl, rfl, ⟨fun h => ⟨by rw [← HCE.out]; exact h, fun j hj => absurd hj (Nat.not_lt_zero j)⟩, fun h => by rw [HBAD.out (by rw [← HCE.out]; exact h), ← HCE.out]⟩, HB2.out⟩
  case round =>
    obtain ⟨i, D, hi, rfl, rfl, HD, hbel⟩ := hrel
    have HB := Lib.hid hbel
    have hbz := hbel.size
    by_cases h0 : D = 0
    · subst h0
      have HZ := Lib.hid (HD.out.1 rfl)
      by_cases hlt : i < m.length
      · obtain ⟨b9, o9, rv, cv, ha9, _, hb9, hr90, hrow0⟩ := Hm.out.row hlt
        subst ha9
        have hr9 := (hbel.cell (p := ⟨b9, o9 + i, none⟩) (Nat.lt_of_lt_of_le hb9 tm)).trans hr90
        have HROW := Lib.hid (hrow0.below hbel tm)
        have hi1 : (i : Int) < (m.length : Int) := Int.ofNat_lt.2 hlt
        have HMV := Lib.hid (bi_all (regC_mv HZ.out.1).2.1 hlt)
        have h64 : (rw' m i).length ≤ 64 := by rw [Mv.len HMV.out]; exact bl_le (isSp_iff.1 (regC_mv HZ.out.1).1).hi
        have h20 : (rw' m i).length ≤ 1048576 := by omega
        have hs9 : Hid (wr.drew.cell? ⟨b9, o9 + i, none⟩ = some (.slice rv (rw' m i).length cv)) := hr9
        have l9 : b9 < wr.drew.heap.size := Nat.lt_of_lt_of_le hb9 (Nat.le_trans tm hbz)
        have HBD : Hid (Below w.heap.size w wr.drew) := HB.out.drew
        have HRD : Hid (RowIn lom tpm wr.drew rv (rw' m i)) := HROW.out.below (below_drew wr) (Nat.le_trans tm hbz)
        have tD : tpm ≤ wr.drew.heap.size := Nat.le_trans tm hbz
        clear hr90 hrow0 hbel
        cases hq : isB2 (rw' m i) with
        | true =>
          have HQ := Lib.hid hq
          clear hq hr9
          go_wp2
          go_region_held3 (fun w' => w'.cell? ⟨b9, o9 + i, none⟩ = some (.slice rv (rw' m i).length cv)) (first | exact hs9.out | exact SSa.out | exact SSab.out | go_keep) (first | (go_at_call 40; ((with_reducible refine (l04Part_any rv (rw' m i) cv lom tpm 2 wr.drew HRD.out tD h64).mono ?_); rintro e wa ⟨ba, rfl, la, ua, oa, b_⟩; have SSa := Lib.hid ((b_.cell (p := ⟨b9, o9 + i, none⟩) l9).trans hs9.out); have HBa := Lib.hid (below_step HBD.out HBD.out.size b_); have Ra := Lib.hid ((oa.own la ua).row); have Ma := Lib.hid (HRD.out.below b_ tD); have za := b_.size; clear b_ oa)) | (go_at_call 39; ((with_reducible refine (l01Same_p rv ba (rw' m i) (rw' m i).length cv (rw' m i).length lom tpm wr.drew.heap.size wa.heap.size wa rfl Ma.out Ra.out h20).mono ?_); rintro e wab ⟨rfl, b_⟩; rw [HQ.out]; have SSab := Lib.hid ((b_.cell (p := ⟨b9, o9 + i, none⟩) (Nat.lt_of_lt_of_le l9 za)).trans SSa.out); have HBab := Lib.hid (below_step HBa.out HBa.out.size b_); clear b_)))
          all_goals
            go_wp2
            go_roundw
            case rel => exact ⟨i + 1, 0, by omega, by go_num, rfl, ⟨fun _ => ⟨HZ.out.1, fun j hj => by
              by_cases e : j = i
              · subst e; exact HQ.out
              · exact HZ.out.2 j (by omega)⟩, fun h => absurd rfl h⟩, HBab.out⟩
            case measure => simp [intOf]; omega
        | false =>
          have HQ := Lib.hid hq
          clear hq hr9
          go_wp2
          go_region_held3 (fun w' => w'.cell? ⟨b9, o9 + i, none⟩ = some (.slice rv (rw' m i).length cv)) (first | exact hs9.out | exact SSa.out | exact SSab.out | go_keep) (first | (go_at_call 40; ((with_reducible refine (l04Part_any rv (rw' m i) cv lom tpm 2 wr.drew HRD.out tD h64).mono ?_); rintro e wa ⟨ba, rfl, la, ua, oa, b_⟩; have SSa := Lib.hid ((b_.cell (p := ⟨b9, o9 + i, none⟩) l9).trans hs9.out); have HBa := Lib.hid (below_step HBD.out HBD.out.size b_); have Ra := Lib.hid ((oa.own la ua).row); have Ma := Lib.hid (HRD.out.below b_ tD); have za := b_.size; clear b_ oa)) | (go_at_call 39; ((with_reducible refine (l01Same_p rv ba (rw' m i) (rw' m i).length cv (rw' m i).length lom tpm wr.drew.heap.size wa.heap.size wa rfl Ma.out Ra.out h20).mono ?_); rintro e wab ⟨rfl, b_⟩; rw [HQ.out]; have SSab := Lib.hid ((b_.cell (p := ⟨b9, o9 + i, none⟩) (Nat.lt_of_lt_of_le l9 za)).trans SSa.out); have HBab := Lib.hid (below_step HBa.out HBa.out.size b_); clear b_)))
          all_goals
            go_wp2
            go_roundw
            case rel => exact ⟨i + 1, 5, by omega, by go_num, rfl, ⟨fun h => absurd h (by decide), fun _ => by unfold bvC; rw [if_pos HZ.out.1, if_neg (by rw [notB2 hlt HQ.out]; decide)]⟩, HBab.out⟩
            case measure => simp [intOf]; omega
      · have hin : i = m.length := by omega
        subst hin
        have hi1 : ¬ (m.length : Int) < (m.length : Int) := Int.lt_irrefl _
        clear hbel
        go_wp2
        go_ret
        exact ⟨by unfold bvC; rw [if_pos HZ.out.1, if_pos (allB2 rfl HZ.out.2)]; rfl, HB.out⟩
    · have HV := Lib.hid (HD.out.2 h0)
      have h1 : (D == 0) = false := by simpa using h0
      clear hbel h0
      by_cases hlt : i < m.length
      · have hi1 : (i : Int) < (m.length : Int) := Int.ofNat_lt.2 hlt
        go_wp2
        go_ret
        exact ⟨by rw [HV.out]; rfl, HB.out⟩
      · have hi1 : ¬ (i : Int) < (m.length : Int) := by omega
        go_wp2
        go_ret
        exact ⟨by rw [HV.out]; rfl, HB.out⟩

theorem codeB1 (p : Int) (aS : Option Addr) (S : List Int) (cS loS tpS : Nat) (av : Option Addr) (v : List Int) (cv lov tpv b cap : Nat) (W : World) (T : TypeId) (hb : b = W.heap.size)
    (hS : RowIn loS tpS W aS S) (tS : tpS ≤ W.heap.size) (sS : S.length ≤ 1048576) (hv : RowIn lov tpv W av v) (tv : tpv ≤ W.heap.size) (sv : v.length ≤ 1048576) :
    Calls Try.prog 50 #[.agg #[.int .i64 p, .slice aS S.length cS], .slice (some ⟨b, 0, none⟩) 1 cap] (W.alloc (.cells #[.slice av v.length cv] T)) fun e w' => e = .returned (.int .i64 (bvC p S [v])) ∧ Below (W.alloc (.cells #[.slice av v.length cv] T)).heap.size (W.alloc (.cells #[.slice av v.length cv] T)) w' :=
  l10Code_any p aS S cS loS tpS (some ⟨b, 0, none⟩) [v] cap 0 _ _ (hS.below (below_alloc W _) tS) (Nat.le_trans tS (size_alloc W _)) sS (mv_one hb hv tv T) (Nat.le_refl _) (by show 1 ≤ 1024; omega) (fun i hi => by match i, hi with | 0, _ => exact sv)
theorem codeB2 (p : Int) (aS : Option Addr) (S : List Int) (cS loS tpS : Nat) (av : Option Addr) (v : List Int) (cv lov tpv : Nat) (au : Option Addr) (u : List Int) (cu lou tpu b cap : Nat) (W : World) (T : TypeId) (hb : b = W.heap.size)
    (hS : RowIn loS tpS W aS S) (tS : tpS ≤ W.heap.size) (sS : S.length ≤ 1048576) (hv : RowIn lov tpv W av v) (tv : tpv ≤ W.heap.size) (sv : v.length ≤ 1048576) (hu : RowIn lou tpu W au u) (tu : tpu ≤ W.heap.size) (su : u.length ≤ 1048576) :
    Calls Try.prog 50 #[.agg #[.int .i64 p, .slice aS S.length cS], .slice (some ⟨b, 0, none⟩) 2 cap] (W.alloc (.cells #[.slice av v.length cv, .slice au u.length cu] T)) fun e w' => e = .returned (.int .i64 (bvC p S [v, u])) ∧ Below (W.alloc (.cells #[.slice av v.length cv, .slice au u.length cu] T)).heap.size (W.alloc (.cells #[.slice av v.length cv, .slice au u.length cu] T)) w' :=
  l10Code_any p aS S cS loS tpS (some ⟨b, 0, none⟩) [v, u] cap 0 _ _ (hS.below (below_alloc W _) tS) (Nat.le_trans tS (size_alloc W _)) sS (mv_two hb hv tv hu tu T) (Nat.le_refl _) (by show 2 ≤ 1024; omega) (fun i hi => by match i, hi with | 0, _ => exact sv | 1, _ => exact su)

/-- The half bracket of a bivector and a vector as a list of numbers. -/
def tuM (p : Int) (S x v : List Int) : List Int := vnM S.length (hbM p S x (vecM S v))
def tuC (p : Int) (S x v : List Int) : Int := if codeVs p S [v] = 0 then bvC p S [x] else codeVs p S [v]
def tuV (p : Int) (S x v : List Int) : List Int := if tuC p S x v = 0 then tuM p S x v else []
def ivB (p : Int) (S x : List Int) : Bool := if regC p S [x] = 0 then isB2 x else false
def bbV (p : Int) (S x y : List Int) : List Int := if bvC p S [x, y] = 0 then hbM p S x y else []
theorem tuM_len (p : Int) (S x v : List Int) : (tuM p S x v).length = S.length := mkR_len _ _
theorem codeVs_b1 {p : Int} {S v : List Int} (h : codeVs p S [v] = 0) : isSp p S = true ∧ isVec p S.length v = true := by
  rcases codeVs_cases p S [v] with ⟨_, hc⟩ | ⟨hi, ha, _⟩ | ⟨_, _, hc⟩
  · rw [hc] at h; cases h
  · simp only [List.all_cons, List.all_nil, Bool.and_true] at ha; exact ⟨hi, ha⟩
  · rw [hc] at h; cases h
theorem tuC_zero {p : Int} {S x v : List Int} (h : tuC p S x v = 0) : codeVs p S [v] = 0 ∧ bvC p S [x] = 0 := by
  unfold tuC at h
  split at h
  · rename_i h0; exact ⟨h0, h⟩
  · rename_i h0; exact absurd h h0
theorem tuV_size (p : Int) (S x v : List Int) : (tuV p S x v).length ≤ 1048576 := by
  unfold tuV; split
  · rename_i h
    rw [tuM_len]
    have := (isSp_iff.1 (codeVs_b1 (tuC_zero h).1).1).hi
    omega
  · simp
theorem bbV_size (p : Int) (S x y : List Int) : (bbV p S x y).length ≤ 1048576 := by
  unfold bbV; split
  · rename_i h
    rw [hbM_len]
    have := bl_le (isSp_iff.1 (bvC_two h).1).hi
    omega
  · simp
/-- The model's order of the checks gives the same code. -/
theorem tuC_model (p : Int) (S x v : List Int) : (codeMv p S [x] ≠ 0 ∧ tuC p S x v = codeMv p S [x]) ∨ (codeMv p S [x] = 0 ∧ isSp p S = true ∧ isVec p S.length v = false ∧ tuC p S x v = 2) ∨ (codeMv p S [x] = 0 ∧ isSp p S = true ∧ isVec p S.length v = true ∧ tuC p S x v = bvC p S [x]) := by
  have hv : ∀ b, isVec p S.length v = b → isSp p S = true → codeVs p S [v] = if b = true then 0 else 2 := fun b hb hi => by
    unfold codeVs
    rw [if_pos hi]
    simp only [List.all_cons, List.all_nil, Bool.and_true, hb]
  rcases codeMv_cases p S [x] with ⟨hi, hc⟩ | ⟨hi, ha, hc⟩ | ⟨hi, ha, hc⟩
  · refine .inl ⟨by rw [hc]; decide, ?_⟩
    have : codeVs p S [v] = 1 := by unfold codeVs; rw [if_neg (by rw [hi]; decide)]
    unfold tuC
    rw [if_neg (by rw [this]; decide), this, hc]
  · cases hb : isVec p S.length v with
    | true =>
      have e := hv true hb hi
      exact .inr (.inr ⟨hc, hi, rfl, by unfold tuC; rw [if_pos (by rw [e]; rfl)]⟩)
    | false =>
      have e := hv false hb hi
      exact .inr (.inl ⟨hc, hi, rfl, by unfold tuC; rw [if_neg (by rw [e]; decide), e]; rfl⟩)
  · refine .inl ⟨by rw [hc]; decide, ?_⟩
    have hr : bvC p S [x] = 2 := by
      have : regC p S [x] = 2 := by unfold regC; rw [if_neg (by rw [hc]; decide), hc]
      unfold bvC; rw [if_neg (by rw [this]; decide), this]
    cases hb : isVec p S.length v with
    | true => have e := hv true hb hi; unfold tuC; rw [if_pos (by rw [e]; rfl), hr, hc]
    | false => have e := hv false hb hi; unfold tuC; rw [if_neg (by rw [e]; decide), e, hc]; rfl
theorem bracketS_n (pS : Int) (aS : Option Addr) (S : List Int) (cS loS tpS : Nat) (ax : Option Addr) (x : List Int) (cx lox tpx : Nat) (ay : Option Addr) (y : List Int) (n cy loy tpy : Nat) (w : World) (hn : y.length = n) (hs : isSp pS S = true) (hS : RowIn loS tpS w aS S) (tS : tpS ≤ w.heap.size) (hx : RowIn lox tpx w ax x) (tx : tpx ≤ w.heap.size) (mx : isMv pS S x = true) (hy : RowIn loy tpy w ay y) (ty : tpy ≤ w.heap.size) (my : isMv pS S y = true) :
    Calls Try.prog 89 #[.agg #[.int .i64 pS, .slice aS S.length cS], .slice ax x.length cx, .slice ay n cy] w (OwnE (brM pS S x y) w) := by
  subst hn; exact l04Bracket_any pS aS S cS loS tpS ax x cx lox tpx ay y cy loy tpy w hs hS tS hx tx mx hy ty my
theorem l02Scale_b (p k : Int) (a : Option Addr) (za : List Int) (ca lo tp : Nat) (w : World) (hp : prm p = true) (ha : RowIn lo tp w a za) (ht : tp ≤ w.heap.size) (hs : za.length ≤ 1048576) (hna : ∀ j, j < za.length → 0 ≤ za.getD j 0 ∧ za.getD j 0 < p) (k0 : 0 ≤ k) (k1 : k ≤ p) :
    Calls Try.prog 87 #[.int .i64 p, .slice a za.length ca, .int .i64 k] w (SRow (sclR p za k) w) :=
  (l02Scale_any p k a za ca lo tp w hp ha ht hs hna k0 k1).mono fun _ _ ⟨r, c, h, ht, hb⟩ => ⟨r, c, h, ht.row, hb⟩
theorem hb_row {p : Int} {S x y : List Int} {g o lo hi : Nat} {w : World} (h : RowOwn w g o (bl S) (fun j => (hbM p S x y).getD j 0)) (l : lo ≤ g) (u : g < hi) : RowIn lo hi w (some ⟨g, o, none⟩) (hbM p S x y) :=
  OwnR.row (.inr ⟨g, o, rfl, l, u, fun j hj => by rw [hbM_len] at hj; exact ⟨h.cell j hj, h.free j hj⟩⟩)
theorem tu_list {p : Int} (S x v : List Int) : sclR p (lst2 S.length (brM p S x (vecM S v))) (inv p 2) = tuM p S x v := by
  unfold sclR tuM vnM
  have hl : (lst2 S.length (brM p S x (vecM S v))).length = S.length := mkR_len _ _
  rw [hl]
  refine mkR_congr fun i hi => ?_
  unfold vnF
  rw [hbM_at p S x _ (pow_lt hi)]
  unfold lst2
  rw [mkR_at _ hi]

set_option maxRecDepth 100000 in
set_option maxHeartbeats 6400000 in
theorem l10Turn_any (pS : Int) (aS : Option Addr) (S : List Int) (cS loS tpS : Nat) (ax : Option Addr) (x : List Int) (cx lox tpx : Nat) (av : Option Addr) (v : List Int) (cv lov tpv : Nat) (w : World) (hs : isSp pS S = true) (hS : RowIn loS tpS w aS S) (tS : tpS ≤ w.heap.size) (hx : RowIn lox tpx w ax x) (tx : tpx ≤ w.heap.size) (mx : isMv pS S x = true) (hv : RowIn lov tpv w av v) (tv : tpv ≤ w.heap.size) (hvv : isVec pS S.length v = true) :
    Calls Try.prog 57 #[.agg #[.int .i64 pS, .slice aS S.length cS], .slice ax x.length cx, .slice av v.length cv] w (SRow (tuM pS S x v) w) := by
  have HS := Lib.hid hS
  have Hx := Lib.hid hx
  have HI := Lib.hid hs
  have HMX := Lib.hid mx
  have HP := Lib.hid (isSp_iff.1 hs).prime
  have h6 := (isSp_iff.1 hs).hi
  have hpb := prm_bd (isSp_iff.1 hs).prime
  have hbl := bl_le h6
  have hb0 := bl_pos S
  have k0 := nw0 w (.int .i64 pS) (.slice aS S.length cS) 28
  have k1 := nw1 w (.int .i64 pS) (.slice aS S.length cS) 28
  have HB0 := Lib.hid (below_alloc w (.cells #[.int .i64 pS, .slice aS S.length cS] 28))
  have Hv := Lib.hid hv
  have HVL := Lib.hid (isVec_iff.1 hvv).len
  have HVM := Lib.hid (vec_mv' hs hvv)
  have HBL : Hid ((brM pS S x (mkR (bl S) (vecF v v.length))).length = bl S) := brM_len _ _ _ _
  have HLL : Hid ((lst2 S.length (brM pS S x (mkR (bl S) (vecF v v.length)))).length ≤ 1048576) := by show (mkR _ _).length ≤ _; rw [mkR_len]; omega
  have HLB : Hid (∀ j, j < (lst2 S.length (brM pS S x (mkR (bl S) (vecF v v.length)))).length → 0 ≤ (lst2 S.length (brM pS S x (mkR (bl S) (vecF v v.length)))).getD j 0 ∧ (lst2 S.length (brM pS S x (mkR (bl S) (vecF v v.length)))).getD j 0 < pS) := fun j hj => by
    have hl : (lst2 S.length (brM pS S x (mkR (bl S) (vecF v v.length)))).length = S.length := mkR_len _ _
    rw [hl] at hj
    unfold lst2
    rw [mkR_at _ hj]
    exact bracket_num (by omega) S x _ _ (pow_lt hj)
  have HIV : Hid (0 ≤ inv pS 2 ∧ inv pS 2 ≤ pS) := ⟨(inv_bd HP.out 2).1, Int.le_of_lt (inv_bd HP.out 2).2⟩
  clear hS hx hs mx hv hvv
  go_enter Try.func57, Try.ntmps57
  go_upto_region 1 with fail
  obtain ⟨w1, hw1⟩ : ∃ z, z = w.alloc (.cells #[.int .i64 pS, .slice aS S.length cS] 28) := ⟨_, rfl⟩
  rw [← hw1] at HB0 k0 k1 ⊢
  have hd1 : w.heap.size < w1.heap.size := by rw [hw1]; simp
  have HB1 := HB0
  clear hw1
  have SS1 := Lib.hid (And.intro k0 k1)
  have hs1 : Hid (w1.drew.cell? ⟨w.heap.size, 0, none⟩ = some (.int .i64 pS) ∧ w1.drew.cell? ⟨w.heap.size, 1, none⟩ = some (.slice aS S.length cS)) := SS1.out
  have HBD : Hid (Below w.heap.size w w1.drew) := HB1.out.drew
  have hdd : w.heap.size < w1.drew.heap.size := hd1
  go_region_held3 (fun w' => w'.cell? ⟨w.heap.size, 0, none⟩ = some (.int .i64 pS) ∧ w'.cell? ⟨w.heap.size, 1, none⟩ = some (.slice aS S.length cS)) (first | exact hs1.out | exact SSa.out | exact SSab.out | exact SSabc.out | exact SSabcd.out | exact SSabcde.out | go_keep) (first | (go_at_call 90; (with_reducible refine (l04Vector_any pS aS S cS av v cv lov tpv w1.drew h6 HVL.out (Hv.out.below HBD.out tv) (Nat.le_trans tv (HBD.out).size)).mono ?_); rintro e wa ⟨ba, rfl, l_, u_, o_, b_⟩; have SSa := Lib.hid (ss2 b_ hdd hs1.out); have HBa := Lib.hid (below_step HBD.out (Nat.le_of_lt hdd) b_); have zz_ := b_.size; have hda := Nat.lt_of_lt_of_le hdd zz_; have la := Nat.lt_of_lt_of_le hdd l_; have ua_a := u_; have Na_a := Lib.hid o_; have Ra_a := Lib.hid ((o_.own (Nat.le_of_lt la) u_).row); clear b_ o_) | (go_at_call 89; (with_reducible refine (bracketS_n pS aS S cS loS tpS ax x cx lox tpx (some ⟨ba, 0, none⟩) (mkR (bl S) (vecF v v.length)) (bl S) (bl S) w.heap.size wa.heap.size wa (mkR_len _ _) HI.out (HS.out.below HBa.out tS) (Nat.le_trans tS (HBa.out).size) (Hx.out.below HBa.out tx) (Nat.le_trans tx (HBa.out).size) HMX.out Ra_a.out (Nat.le_refl _) HVM.out).mono ?_); rintro e wab ⟨rb, kb, rfl, o_, b_⟩; have SSab := Lib.hid (ss2 b_ hda SSa.out); have HBab := Lib.hid (below_step HBa.out (Nat.le_of_lt hda) b_); have zz_ := b_.size; have hdab := Nat.lt_of_lt_of_le hda zz_; have Ra_ab := Lib.hid ((Ra_a.out.below b_ (Nat.le_refl _)).mono (Nat.le_refl _) zz_); have Na_ab := Lib.hid (Na_a.out.stay (b_.block ba ua_a)); have ua_ab := Nat.lt_of_lt_of_le ua_a zz_; have Ob_ab := Lib.hid (OwnR.mono' o_ (Nat.le_of_lt hda) (Nat.le_refl _)); have Rb_ab := Lib.hid (Ob_ab.out.row); clear b_ o_) | (go_at_call 88; (with_reducible refine (l04List_any pS aS S cS rb (brM pS S x (mkR (bl S) (vecF v v.length))) kb w.heap.size wab.heap.size wab h6 Rb_ab.out (Nat.le_refl _) HBL.out).mono ?_); rintro e wabc ⟨rc, kc, rfl, o_, b_⟩; have SSabc := Lib.hid (ss2 b_ hdab SSab.out); have HBabc := Lib.hid (below_step HBab.out (Nat.le_of_lt hdab) b_); have zz_ := b_.size; have hdabc := Nat.lt_of_lt_of_le hdab zz_; have Ra_abc := Lib.hid ((Ra_ab.out.below b_ (Nat.le_refl _)).mono (Nat.le_refl _) zz_); have Na_abc := Lib.hid (Na_ab.out.stay (b_.block ba ua_ab)); have ua_abc := Nat.lt_of_lt_of_le ua_ab zz_; have Rb_abc := Lib.hid ((Rb_ab.out.below b_ (Nat.le_refl _)).mono (Nat.le_refl _) zz_); have Rc_abc := Lib.hid (o_.mono (Nat.le_of_lt hdab) (Nat.le_refl _)); clear b_ o_) | (go_at_call 48; (with_reducible refine (l01Inv_below pS 2 wabc HP.out (by omega) (by omega)).mono ?_); rintro e wabcd ⟨rfl, b_⟩; have SSabcd := Lib.hid (ss2 b_ hdabc SSabc.out); have HBabcd := Lib.hid (below_step HBabc.out (Nat.le_of_lt hdabc) b_); have zz_ := b_.size; have hdabcd := Nat.lt_of_lt_of_le hdabc zz_; have Ra_abcd := Lib.hid ((Ra_abc.out.below b_ (Nat.le_refl _)).mono (Nat.le_refl _) zz_); have Na_abcd := Lib.hid (Na_abc.out.stay (b_.block ba ua_abc)); have ua_abcd := Nat.lt_of_lt_of_le ua_abc zz_; have Rb_abcd := Lib.hid ((Rb_abc.out.below b_ (Nat.le_refl _)).mono (Nat.le_refl _) zz_); have Rc_abcd := Lib.hid ((Rc_abc.out.below b_ (Nat.le_refl _)).mono (Nat.le_refl _) zz_); clear b_) | (go_at_call 87; (with_reducible refine (l02Scale_b pS (inv pS 2) rc (lst2 S.length (brM pS S x (mkR (bl S) (vecF v v.length)))) kc w.heap.size wabcd.heap.size wabcd HP.out Rc_abcd.out (Nat.le_refl _) HLL.out HLB.out HIV.out.1 HIV.out.2).mono ?_); rintro e wabcde ⟨re, ke, rfl, o_, b_⟩; have SSabcde := Lib.hid (ss2 b_ hdabcd SSabcd.out); have HBabcde := Lib.hid (below_step HBabcd.out (Nat.le_of_lt hdabcd) b_); have zz_ := b_.size; have hdabcde := Nat.lt_of_lt_of_le hdabcd zz_; have Ra_abcde := Lib.hid ((Ra_abcd.out.below b_ (Nat.le_refl _)).mono (Nat.le_refl _) zz_); have Na_abcde := Lib.hid (Na_abcd.out.stay (b_.block ba ua_abcd)); have ua_abcde := Nat.lt_of_lt_of_le ua_abcd zz_; have Rb_abcde := Lib.hid ((Rb_abcd.out.below b_ (Nat.le_refl _)).mono (Nat.le_refl _) zz_); have Rc_abcde := Lib.hid ((Rc_abcd.out.below b_ (Nat.le_refl _)).mono (Nat.le_refl _) zz_); have Re_abcde := Lib.hid (o_.mono (Nat.le_of_lt hdabcd) (Nat.le_refl _)); have RR := Lib.hid (o_.mono (Nat.le_of_lt hdabcd) (Nat.le_refl _)); clear b_ o_))
  all_goals
    go_wp2
    go_ret
    exact ⟨re, ke, by rw [← tu_list]; rfl, by rw [← tu_list]; exact RR.out, HBabcde.out⟩

set_option maxRecDepth 100000 in
set_option maxHeartbeats 6400000 in
theorem l10Bracket_any (pS : Int) (aS : Option Addr) (S : List Int) (cS loS tpS : Nat) (ax : Option Addr) (x : List Int) (cx lox tpx : Nat) (ay : Option Addr) (y : List Int) (cy loy tpy : Nat) (w : World) (hs : isSp pS S = true) (hS : RowIn loS tpS w aS S) (tS : tpS ≤ w.heap.size) (hx : RowIn lox tpx w ax x) (tx : tpx ≤ w.heap.size) (mx : isMv pS S x = true) (hy : RowIn loy tpy w ay y) (ty : tpy ≤ w.heap.size) (my : isMv pS S y = true) :
    Calls Try.prog 62 #[.agg #[.int .i64 pS, .slice aS S.length cS], .slice ax x.length cx, .slice ay y.length cy] w (SRow (hbM pS S x y) w) := by
  have HS := Lib.hid hS
  have Hx := Lib.hid hx
  have HI := Lib.hid hs
  have HMX := Lib.hid mx
  have HP := Lib.hid (isSp_iff.1 hs).prime
  have h6 := (isSp_iff.1 hs).hi
  have hpb := prm_bd (isSp_iff.1 hs).prime
  have hbl := bl_le h6
  have hb0 := bl_pos S
  have k0 := nw0 w (.int .i64 pS) (.slice aS S.length cS) 28
  have k1 := nw1 w (.int .i64 pS) (.slice aS S.length cS) 28
  have HB0 := Lib.hid (below_alloc w (.cells #[.int .i64 pS, .slice aS S.length cS] 28))
  have Hy := Lib.hid hy
  have HMY := Lib.hid my
  have HBL : Hid ((brM pS S x y).length ≤ 1048576) := by show _ ≤ _; rw [brM_len]; omega
  have HLB : Hid (∀ j, j < (brM pS S x y).length → 0 ≤ (brM pS S x y).getD j 0 ∧ (brM pS S x y).getD j 0 < pS) := fun j hj => by
    rw [brM_len] at hj
    exact bracket_num (by omega) S x _ _ hj
  have HIV : Hid (0 ≤ inv pS 2 ∧ inv pS 2 ≤ pS) := ⟨(inv_bd HP.out 2).1, Int.le_of_lt (inv_bd HP.out 2).2⟩
  clear hS hx hs mx hy my
  go_enter Try.func62, Try.ntmps62
  go_upto_region 1 with fail
  obtain ⟨w1, hw1⟩ : ∃ z, z = w.alloc (.cells #[.int .i64 pS, .slice aS S.length cS] 28) := ⟨_, rfl⟩
  rw [← hw1] at HB0 k0 k1 ⊢
  have hd1 : w.heap.size < w1.heap.size := by rw [hw1]; simp
  have HB1 := HB0
  clear hw1
  have SS1 := Lib.hid (And.intro k0 k1)
  have hs1 : Hid (w1.drew.cell? ⟨w.heap.size, 0, none⟩ = some (.int .i64 pS) ∧ w1.drew.cell? ⟨w.heap.size, 1, none⟩ = some (.slice aS S.length cS)) := SS1.out
  have HBD : Hid (Below w.heap.size w w1.drew) := HB1.out.drew
  have hdd : w.heap.size < w1.drew.heap.size := hd1
  go_region_held3 (fun w' => w'.cell? ⟨w.heap.size, 0, none⟩ = some (.int .i64 pS) ∧ w'.cell? ⟨w.heap.size, 1, none⟩ = some (.slice aS S.length cS)) (first | exact hs1.out | exact SSa.out | exact SSab.out | exact SSabc.out | go_keep) (first | (go_at_call 89; (with_reducible refine (l04Bracket_any pS aS S cS loS tpS ax x cx lox tpx ay y cy loy tpy w1.drew HI.out (HS.out.below HBD.out tS) (Nat.le_trans tS (HBD.out).size) (Hx.out.below HBD.out tx) (Nat.le_trans tx (HBD.out).size) HMX.out (Hy.out.below HBD.out ty) (Nat.le_trans ty (HBD.out).size) HMY.out).mono ?_); rintro e wa ⟨ra, ka, rfl, o_, b_⟩; have SSa := Lib.hid (ss2 b_ hdd hs1.out); have HBa := Lib.hid (below_step HBD.out (Nat.le_of_lt hdd) b_); have zz_ := b_.size; have hda := Nat.lt_of_lt_of_le hdd zz_; have Oa_a := Lib.hid (OwnR.mono' o_ (Nat.le_of_lt hdd) (Nat.le_refl _)); have Ra_a := Lib.hid (Oa_a.out.row); clear b_ o_) | (go_at_call 48; (with_reducible refine (l01Inv_below pS 2 wa HP.out (by omega) (by omega)).mono ?_); rintro e wab ⟨rfl, b_⟩; have SSab := Lib.hid (ss2 b_ hda SSa.out); have HBab := Lib.hid (below_step HBa.out (Nat.le_of_lt hda) b_); have zz_ := b_.size; have hdab := Nat.lt_of_lt_of_le hda zz_; have Ra_ab := Lib.hid ((Ra_a.out.below b_ (Nat.le_refl _)).mono (Nat.le_refl _) zz_); clear b_) | (go_at_call 87; (with_reducible refine (l02Scale_b pS (inv pS 2) ra (brM pS S x y) ka w.heap.size wab.heap.size wab HP.out Ra_ab.out (Nat.le_refl _) HBL.out HLB.out HIV.out.1 HIV.out.2).mono ?_); rintro e wabc ⟨rc, kc, rfl, o_, b_⟩; have SSabc := Lib.hid (ss2 b_ hdab SSab.out); have HBabc := Lib.hid (below_step HBab.out (Nat.le_of_lt hdab) b_); have zz_ := b_.size; have hdabc := Nat.lt_of_lt_of_le hdab zz_; have Ra_abc := Lib.hid ((Ra_ab.out.below b_ (Nat.le_refl _)).mono (Nat.le_refl _) zz_); have Rc_abc := Lib.hid (o_.mono (Nat.le_of_lt hdab) (Nat.le_refl _)); have RR := Lib.hid (o_.mono (Nat.le_of_lt hdab) (Nat.le_refl _)); clear b_ o_))
  all_goals
    go_wp2
    go_ret
    exact ⟨rc, kc, rfl, RR.out, HBabc.out⟩

set_option maxRecDepth 100000 in
set_option maxHeartbeats 3200000 in
theorem impl_IsBivector (pS : Int) (aS : Option Addr) (S : List Int) (cS loS tpS : Nat) (ax : Option Addr) (x : List Int) (cx lox tpx : Nat) (w : World) (hS : RowIn loS tpS w aS S) (tS : tpS ≤ w.heap.size) (sS : S.length ≤ 1048576) (hx : RowIn lox tpx w ax x) (tx : tpx ≤ w.heap.size) (sx : x.length ≤ 1048576) :
    Calls Try.prog 14 #[.agg #[.int .i64 pS, .slice aS S.length cS], .slice ax x.length cx] w (RetB (ivB pS S x) (regC pS S [x]) w) := by
  have HS := Lib.hid hS
  have Hx := Lib.hid hx
  have k0 := nw0 w (.int .i64 pS) (.slice aS S.length cS) 28
  have k1 := nw1 w (.int .i64 pS) (.slice aS S.length cS) 28
  have HB0 := Lib.hid (below_alloc w (.cells #[.int .i64 pS, .slice aS S.length cS] 28))
  clear hS hx
  by_cases h0 : regC pS S [x] = 0
  · have HC0 := Lib.hid h0
    have hz := regC_mv h0
    have HI := Lib.hid hz.1
    have HMX : Hid (isMv pS S x = true) := by have := hz.2.1; simp only [List.all_cons, List.all_nil, Bool.and_true] at this; exact this
    have h64 : x.length ≤ 64 := by rw [Mv.len HMX.out]; exact bl_le (isSp_iff.1 HI.out).hi
    have HV : Hid (ivB pS S x = isB2 x) := if_pos h0
    clear h0 hz
    go_enter Try.func14, Try.ntmps14
    go_upto_region 1 with fail
    obtain ⟨w1, hw1⟩ : ∃ z, z = w.alloc (.cells #[.int .i64 pS, .slice aS S.length cS] 28) := ⟨_, rfl⟩
    rw [← hw1] at HB0 k0 k1 ⊢
    have hd1 : w.heap.size < w1.heap.size := by rw [hw1]; simp
    have HB1 := HB0
    clear hw1
    have SS1 := Lib.hid (And.intro k0 k1)
    go_wp2_with (first | (go_at_call 41; ((with_reducible refine (checkR1 pS aS S cS loS tpS ax x cx lox tpx _ _ w1 _ rfl (HS.out.below HB1.out tS) (Nat.le_trans tS HB1.out.size) sS (Hx.out.below HB1.out tx) (Nat.le_trans tx HB1.out.size) sx).mono ?_); rintro e w2 ⟨rfl, b_⟩; rw [HC0.out]; have b2_ := below_step (below_alloc w1 (.cells #[.slice ax x.length cx] 22)) (size_alloc w1 (.cells #[.slice ax x.length cx] 22)) b_; have SS2 := Lib.hid (ss2 b2_ hd1 SS1.out); have HB2 := Lib.hid (below_step HB1.out HB1.out.size b2_); have hd2 := Nat.lt_of_lt_of_le hd1 b2_.size; clear k0 k1; obtain ⟨k0, k1⟩ := SS2.out; clear b_ b2_)) | (go_at_call 42; ((with_reducible refine (isOfGrade_any pS aS S cS loS tpS ax x cx lox tpx w2 HI.out (HS.out.below HB2.out tS) (Nat.le_trans tS HB2.out.size) (Hx.out.below HB2.out tx) (Nat.le_trans tx HB2.out.size) HMX.out).mono ?_); rintro e w3 ⟨rfl, b_⟩; have SS3 := Lib.hid (ss2 b_ hd2 SS2.out); have HB3 := Lib.hid (below_step HB2.out HB2.out.size b_); have hd3 := Nat.lt_of_lt_of_le hd2 b_.size; clear k0 k1; obtain ⟨k0, k1⟩ := SS3.out; clear b_)))
    go_ret2
    exact ⟨by rw [HV.out, HC0.out]; rfl, HB3.out⟩
  · have HV : Hid (ivB pS S x = false) := if_neg h0
    obtain ⟨C, hC⟩ : ∃ c, c = regC pS S [x] := ⟨_, rfl⟩
    have hc1 : (C != 0) = true := by rw [hC]; simpa using h0
    have hc2 : (C == 0) = false := by rw [hC]; simpa using h0
    have HCE := Lib.hid hC
    clear hC
    clear h0
    go_enter Try.func14, Try.ntmps14
    go_upto_region 1 with fail
    obtain ⟨w1, hw1⟩ : ∃ z, z = w.alloc (.cells #[.int .i64 pS, .slice aS S.length cS] 28) := ⟨_, rfl⟩
    rw [← hw1] at HB0 k0 k1 ⊢
    have hd1 : w.heap.size < w1.heap.size := by rw [hw1]; simp
    have HB1 := HB0
    clear hw1
    have SS1 := Lib.hid (And.intro k0 k1)
    go_wp2_with (go_at_call 41; ((with_reducible refine (checkR1 pS aS S cS loS tpS ax x cx lox tpx _ _ w1 _ rfl (HS.out.below HB1.out tS) (Nat.le_trans tS HB1.out.size) sS (Hx.out.below HB1.out tx) (Nat.le_trans tx HB1.out.size) sx).mono ?_); rintro e w2 ⟨rfl, b_⟩; rw [← HCE.out]; have b2_ := below_step (below_alloc w1 (.cells #[.slice ax x.length cx] 22)) (size_alloc w1 (.cells #[.slice ax x.length cx] 22)) b_; have SS2 := Lib.hid (ss2 b2_ hd1 SS1.out); have HB2 := Lib.hid (below_step HB1.out HB1.out.size b2_); have hd2 := Nat.lt_of_lt_of_le hd1 b2_.size; clear k0 k1; obtain ⟨k0, k1⟩ := SS2.out; clear b_ b2_))
    go_ret2
    exact ⟨by rw [HV.out, ← HCE.out]; rfl, HB2.out⟩

set_option maxRecDepth 100000 in
set_option maxHeartbeats 3200000 in
theorem spec_IsBivector (pS : Int) (aS : Option Addr) (S : List Int) (cS loS tpS : Nat) (ax : Option Addr) (x : List Int) (cx lox tpx : Nat) (w : World) (hS : RowIn loS tpS w aS S) (tS : tpS ≤ w.heap.size) (sS : S.length ≤ 1048576) (hx : RowIn lox tpx w ax x) (tx : tpx ≤ w.heap.size) (sx : x.length ≤ 1048576) :
    Calls Try.prog 11 #[.agg #[.int .i64 pS, .slice aS S.length cS], .slice ax x.length cx] w (RetB (ivB pS S x) (regC pS S [x]) w) := by
  have HS := Lib.hid hS
  have Hx := Lib.hid hx
  have k0 := nw0 w (.int .i64 pS) (.slice aS S.length cS) 28
  have k1 := nw1 w (.int .i64 pS) (.slice aS S.length cS) 28
  have HB0 := Lib.hid (below_alloc w (.cells #[.int .i64 pS, .slice aS S.length cS] 28))
  clear hS hx
  by_cases h0 : regC pS S [x] = 0
  · have HC0 := Lib.hid h0
    have hz := regC_mv h0
    have HI := Lib.hid hz.1
    have HMX : Hid (isMv pS S x = true) := by have := hz.2.1; simp only [List.all_cons, List.all_nil, Bool.and_true] at this; exact this
    have h64 : x.length ≤ 64 := by rw [Mv.len HMX.out]; exact bl_le (isSp_iff.1 HI.out).hi
    have HV : Hid (ivB pS S x = isB2 x) := if_pos h0
    clear h0 hz
    go_enter Try.func11, Try.ntmps11
    go_upto_region 1 with fail
    obtain ⟨w1, hw1⟩ : ∃ z, z = w.alloc (.cells #[.int .i64 pS, .slice aS S.length cS] 28) := ⟨_, rfl⟩
    rw [← hw1] at HB0 k0 k1 ⊢
    have hd1 : w.heap.size < w1.heap.size := by rw [hw1]; simp
    have HB1 := HB0
    clear hw1
    have SS1 := Lib.hid (And.intro k0 k1)
    go_wp2_with (first | (go_at_call 38; ((with_reducible refine (codeR1 pS aS S cS loS tpS ax x cx lox tpx _ _ w1 _ rfl (HS.out.below HB1.out tS) (Nat.le_trans tS HB1.out.size) sS (Hx.out.below HB1.out tx) (Nat.le_trans tx HB1.out.size) sx).mono ?_); rintro e w2 ⟨rfl, b_⟩; rw [HC0.out]; have b2_ := below_step (below_alloc w1 (.cells #[.slice ax x.length cx] 22)) (size_alloc w1 (.cells #[.slice ax x.length cx] 22)) b_; have SS2 := Lib.hid (ss2 b2_ hd1 SS1.out); have HB2 := Lib.hid (below_step HB1.out HB1.out.size b2_); have hd2 := Nat.lt_of_lt_of_le hd1 b2_.size; clear k0 k1; obtain ⟨k0, k1⟩ := SS2.out; clear b_ b2_)) | (go_at_call 40; ((with_reducible refine (l04Part_any ax x cx lox tpx 2 w2 (Hx.out.below HB2.out tx) (Nat.le_trans tx HB2.out.size) h64).mono ?_); rintro e w3 ⟨ba, rfl, la, ua, oa, b_⟩; have SS3 := Lib.hid (ss2 b_ hd2 SS2.out); have HB3 := Lib.hid (below_step HB2.out HB2.out.size b_); have hd3 := Nat.lt_of_lt_of_le hd2 b_.size; have Ra := Lib.hid ((oa.own la ua).row); clear oa; clear k0 k1; obtain ⟨k0, k1⟩ := SS3.out; clear b_)) | (go_at_call 39; ((with_reducible refine (l01Same_p ax ba x x.length cx x.length lox tpx w2.heap.size w3.heap.size w3 rfl (Hx.out.below HB3.out tx) Ra.out (by omega)).mono ?_); rintro e w4 ⟨rfl, b_⟩; have SS4 := Lib.hid (ss2 b_ hd3 SS3.out); have HB4 := Lib.hid (below_step HB3.out HB3.out.size b_); have hd4 := Nat.lt_of_lt_of_le hd3 b_.size; clear k0 k1; obtain ⟨k0, k1⟩ := SS4.out; clear b_)))
    go_ret2
    exact ⟨by rw [HV.out, HC0.out]; rfl, HB4.out⟩
  · have HV : Hid (ivB pS S x = false) := if_neg h0
    obtain ⟨C, hC⟩ : ∃ c, c = regC pS S [x] := ⟨_, rfl⟩
    have hc1 : (C != 0) = true := by rw [hC]; simpa using h0
    have hc2 : (C == 0) = false := by rw [hC]; simpa using h0
    have HCE := Lib.hid hC
    clear hC
    clear h0
    go_enter Try.func11, Try.ntmps11
    go_upto_region 1 with fail
    obtain ⟨w1, hw1⟩ : ∃ z, z = w.alloc (.cells #[.int .i64 pS, .slice aS S.length cS] 28) := ⟨_, rfl⟩
    rw [← hw1] at HB0 k0 k1 ⊢
    have hd1 : w.heap.size < w1.heap.size := by rw [hw1]; simp
    have HB1 := HB0
    clear hw1
    have SS1 := Lib.hid (And.intro k0 k1)
    go_wp2_with (go_at_call 38; ((with_reducible refine (codeR1 pS aS S cS loS tpS ax x cx lox tpx _ _ w1 _ rfl (HS.out.below HB1.out tS) (Nat.le_trans tS HB1.out.size) sS (Hx.out.below HB1.out tx) (Nat.le_trans tx HB1.out.size) sx).mono ?_); rintro e w2 ⟨rfl, b_⟩; rw [← HCE.out]; have b2_ := below_step (below_alloc w1 (.cells #[.slice ax x.length cx] 22)) (size_alloc w1 (.cells #[.slice ax x.length cx] 22)) b_; have SS2 := Lib.hid (ss2 b2_ hd1 SS1.out); have HB2 := Lib.hid (below_step HB1.out HB1.out.size b2_); have hd2 := Nat.lt_of_lt_of_le hd1 b2_.size; clear k0 k1; obtain ⟨k0, k1⟩ := SS2.out; clear b_ b2_))
    go_ret2
    exact ⟨by rw [HV.out, ← HCE.out]; rfl, HB2.out⟩

set_option maxRecDepth 100000 in
set_option maxHeartbeats 3200000 in
theorem impl_BivectorBracket (pS : Int) (aS : Option Addr) (S : List Int) (cS loS tpS : Nat) (ax : Option Addr) (x : List Int) (cx lox tpx : Nat) (ay : Option Addr) (y : List Int) (cy loy tpy : Nat) (w : World) (hS : RowIn loS tpS w aS S) (tS : tpS ≤ w.heap.size) (sS : S.length ≤ 1048576) (hx : RowIn lox tpx w ax x) (tx : tpx ≤ w.heap.size) (sx : x.length ≤ 1048576) (hy : RowIn loy tpy w ay y) (ty : tpy ≤ w.heap.size) (sy : y.length ≤ 1048576) :
    Calls Try.prog 34 #[.agg #[.int .i64 pS, .slice aS S.length cS], .slice ax x.length cx, .slice ay y.length cy] w (ImplR (bbV pS S x y) (bvC pS S [x, y]) w) := by
  have HS := Lib.hid hS
  have Hx := Lib.hid hx
  have Hy := Lib.hid hy
  have k0 := nw0 w (.int .i64 pS) (.slice aS S.length cS) 28
  have k1 := nw1 w (.int .i64 pS) (.slice aS S.length cS) 28
  have HB0 := Lib.hid (below_alloc w (.cells #[.int .i64 pS, .slice aS S.length cS] 28))
  clear hS hx hy
  by_cases h0 : bvC pS S [x, y] = 0
  · have HC := Lib.hid h0
    have hz := bvC_two h0
    have HI := Lib.hid hz.1
    have HMX := Lib.hid hz.2.1.1
    have HMY := Lib.hid hz.2.1.2
    have HV : Hid (bbV pS S x y = hbM pS S x y) := if_pos h0
    clear h0 hz
    go_enter Try.func34, Try.ntmps34
    go_upto_region 1 with fail
    obtain ⟨w1, hw1⟩ : ∃ z, z = w.alloc (.cells #[.int .i64 pS, .slice aS S.length cS] 28) := ⟨_, rfl⟩
    rw [← hw1] at HB0 k0 k1 ⊢
    have hd1 : w.heap.size < w1.heap.size := by rw [hw1]; simp
    have HB1 := HB0
    clear hw1
    have SS1 := Lib.hid (And.intro k0 k1)
    go_wp2_with (first | (go_at_call 63; ((with_reducible refine (checkBivectors_2y pS aS S cS loS tpS ax x cx lox tpx ay y cy loy tpy _ _ w1 _ rfl (HS.out.below HB1.out tS) (Nat.le_trans tS HB1.out.size) sS (Hx.out.below HB1.out tx) (Nat.le_trans tx HB1.out.size) sx (Hy.out.below HB1.out ty) (Nat.le_trans ty HB1.out.size) sy HC.out).mono ?_); rintro e w2 ⟨g, rfl, ⟨⟨q0, q1, q2⟩, q3, q4, q5⟩, lg, ug, b_⟩; have SS2 := Lib.hid (ss2 b_ hd1 SS1.out); have HB2 := Lib.hid (below_step HB1.out HB1.out.size b_); have hd2 := Nat.lt_of_lt_of_le hd1 b_.size; clear k0 k1; obtain ⟨k0, k1⟩ := SS2.out; clear b_)) | (go_at_call 60; ((with_reducible refine (halfBracket_own pS aS S cS loS tpS ax x cx lox tpx ay y cy loy tpy w2 HI.out (HS.out.below HB2.out tS) (Nat.le_trans tS HB2.out.size) (Hx.out.below HB2.out tx) (Nat.le_trans tx HB2.out.size) HMX.out (Hy.out.below HB2.out ty) (Nat.le_trans ty HB2.out.size) HMY.out).mono ?_); rintro e w3 ⟨g3, o3, c3, rfl, l3, u3, n3, b_⟩; have SS3 := Lib.hid (ss2 b_ hd2 SS2.out); have HB3 := Lib.hid (below_step HB2.out HB2.out.size b_); have hd3 := Nat.lt_of_lt_of_le hd2 b_.size; have N3 := Lib.hid n3; clear n3; clear k0 k1; obtain ⟨k0, k1⟩ := SS3.out; clear b_)))
    go_ret2
    rw [HV.out, HC.out]
    exact ⟨some ⟨g3, o3, none⟩, c3, by rw [hbM_len]; rfl, .inr ⟨g3, o3, rfl, Nat.le_trans HB2.out.size l3, u3, fun j hj => by rw [hbM_len] at hj; exact ⟨N3.out.cell j hj, N3.out.free j hj⟩⟩, HB3.out⟩
  · have HC := Lib.hid h0
    have HV : Hid (bbV pS S x y = []) := if_neg h0
    obtain ⟨C, hC⟩ : ∃ c, c = bvC pS S [x, y] := ⟨_, rfl⟩
    have hc1 : (C != 0) = true := by rw [hC]; simpa using h0
    have hc2 : (C == 0) = false := by rw [hC]; simpa using h0
    have HCE := Lib.hid hC
    clear hC
    clear h0
    go_enter Try.func34, Try.ntmps34
    go_upto_region 1 with fail
    obtain ⟨w1, hw1⟩ : ∃ z, z = w.alloc (.cells #[.int .i64 pS, .slice aS S.length cS] 28) := ⟨_, rfl⟩
    rw [← hw1] at HB0 k0 k1 ⊢
    have hd1 : w.heap.size < w1.heap.size := by rw [hw1]; simp
    have HB1 := HB0
    clear hw1
    have SS1 := Lib.hid (And.intro k0 k1)
    go_wp2_with (go_at_call 63; ((with_reducible refine (checkBivectors_2n pS aS S cS loS tpS ax x cx lox tpx ay y cy loy tpy _ _ w1 _ rfl (HS.out.below HB1.out tS) (Nat.le_trans tS HB1.out.size) sS (Hx.out.below HB1.out tx) (Nat.le_trans tx HB1.out.size) sx (Hy.out.below HB1.out ty) (Nat.le_trans ty HB1.out.size) sy HC.out).mono ?_); rintro e w2 ⟨rfl, b_⟩; rw [← HCE.out]; have SS2 := Lib.hid (ss2 b_ hd1 SS1.out); have HB2 := Lib.hid (below_step HB1.out HB1.out.size b_); have hd2 := Nat.lt_of_lt_of_le hd1 b_.size; clear k0 k1; obtain ⟨k0, k1⟩ := SS2.out; clear b_))
    go_ret2
    rw [HV.out, ← HCE.out]
    exact ⟨none, 0, rfl, .inl rfl, HB2.out⟩

set_option maxRecDepth 100000 in
set_option maxHeartbeats 3200000 in
theorem spec_BivectorBracket (pS : Int) (aS : Option Addr) (S : List Int) (cS loS tpS : Nat) (ax : Option Addr) (x : List Int) (cx lox tpx : Nat) (ay : Option Addr) (y : List Int) (cy loy tpy : Nat) (w : World) (hS : RowIn loS tpS w aS S) (tS : tpS ≤ w.heap.size) (sS : S.length ≤ 1048576) (hx : RowIn lox tpx w ax x) (tx : tpx ≤ w.heap.size) (sx : x.length ≤ 1048576) (hy : RowIn loy tpy w ay y) (ty : tpy ≤ w.heap.size) (sy : y.length ≤ 1048576) :
    Calls Try.prog 33 #[.agg #[.int .i64 pS, .slice aS S.length cS], .slice ax x.length cx, .slice ay y.length cy] w (SpecR (bbV pS S x y) (bvC pS S [x, y]) w) := by
  have HS := Lib.hid hS
  have Hx := Lib.hid hx
  have Hy := Lib.hid hy
  have k0 := nw0 w (.int .i64 pS) (.slice aS S.length cS) 28
  have k1 := nw1 w (.int .i64 pS) (.slice aS S.length cS) 28
  have HB0 := Lib.hid (below_alloc w (.cells #[.int .i64 pS, .slice aS S.length cS] 28))
  clear hS hx hy
  by_cases h0 : bvC pS S [x, y] = 0
  · have HC := Lib.hid h0
    have hz := bvC_two h0
    have HI := Lib.hid hz.1
    have HMX := Lib.hid hz.2.1.1
    have HMY := Lib.hid hz.2.1.2
    have HV : Hid (bbV pS S x y = hbM pS S x y) := if_pos h0
    clear h0 hz
    go_enter Try.func33, Try.ntmps33
    go_upto_region 1 with fail
    obtain ⟨w1, hw1⟩ : ∃ z, z = w.alloc (.cells #[.int .i64 pS, .slice aS S.length cS] 28) := ⟨_, rfl⟩
    rw [← hw1] at HB0 k0 k1 ⊢
    have hd1 : w.heap.size < w1.heap.size := by rw [hw1]; simp
    have HB1 := HB0
    clear hw1
    have SS1 := Lib.hid (And.intro k0 k1)
    go_wp2_with (first | (go_at_call 50; ((with_reducible refine (codeB2 pS aS S cS loS tpS ax x cx lox tpx ay y cy loy tpy _ _ w1 _ rfl (HS.out.below HB1.out tS) (Nat.le_trans tS HB1.out.size) sS (Hx.out.below HB1.out tx) (Nat.le_trans tx HB1.out.size) sx (Hy.out.below HB1.out ty) (Nat.le_trans ty HB1.out.size) sy).mono ?_); rintro e w2 ⟨rfl, b_⟩; rw [HC.out]; have b2_ := below_step (below_alloc w1 (.cells #[.slice ax x.length cx, .slice ay y.length cy] 22)) (size_alloc w1 (.cells #[.slice ax x.length cx, .slice ay y.length cy] 22)) b_; have SS2 := Lib.hid (ss2 b2_ hd1 SS1.out); have HB2 := Lib.hid (below_step HB1.out HB1.out.size b2_); have hd2 := Nat.lt_of_lt_of_le hd1 b2_.size; clear k0 k1; obtain ⟨k0, k1⟩ := SS2.out; clear b_ b2_)) | (go_at_call 62; ((with_reducible refine (l10Bracket_any pS aS S cS loS tpS ax x cx lox tpx ay y cy loy tpy w2 HI.out (HS.out.below HB2.out tS) (Nat.le_trans tS HB2.out.size) (Hx.out.below HB2.out tx) (Nat.le_trans tx HB2.out.size) HMX.out (Hy.out.below HB2.out ty) (Nat.le_trans ty HB2.out.size) HMY.out).mono ?_); rintro e w3 ⟨r3, c3, rfl, o_, b_⟩; have SS3 := Lib.hid (ss2 b_ hd2 SS2.out); have HB3 := Lib.hid (below_step HB2.out HB2.out.size b_); have hd3 := Nat.lt_of_lt_of_le hd2 b_.size; have RR := Lib.hid (o_.mono (Nat.le_of_lt hd2) (Nat.le_refl _)); clear o_; clear k0 k1; obtain ⟨k0, k1⟩ := SS3.out; clear b_)))
    go_ret2
    rw [HV.out, HC.out]
    exact ⟨r3, c3, rfl, RR.out, HB3.out⟩
  · have HV : Hid (bbV pS S x y = []) := if_neg h0
    obtain ⟨C, hC⟩ : ∃ c, c = bvC pS S [x, y] := ⟨_, rfl⟩
    have hc1 : (C != 0) = true := by rw [hC]; simpa using h0
    have hc2 : (C == 0) = false := by rw [hC]; simpa using h0
    have HCE := Lib.hid hC
    clear hC
    clear h0
    go_enter Try.func33, Try.ntmps33
    go_upto_region 1 with fail
    obtain ⟨w1, hw1⟩ : ∃ z, z = w.alloc (.cells #[.int .i64 pS, .slice aS S.length cS] 28) := ⟨_, rfl⟩
    rw [← hw1] at HB0 k0 k1 ⊢
    have hd1 : w.heap.size < w1.heap.size := by rw [hw1]; simp
    have HB1 := HB0
    clear hw1
    have SS1 := Lib.hid (And.intro k0 k1)
    go_wp2_with (go_at_call 50; ((with_reducible refine (codeB2 pS aS S cS loS tpS ax x cx lox tpx ay y cy loy tpy _ _ w1 _ rfl (HS.out.below HB1.out tS) (Nat.le_trans tS HB1.out.size) sS (Hx.out.below HB1.out tx) (Nat.le_trans tx HB1.out.size) sx (Hy.out.below HB1.out ty) (Nat.le_trans ty HB1.out.size) sy).mono ?_); rintro e w2 ⟨rfl, b_⟩; rw [← HCE.out]; have b2_ := below_step (below_alloc w1 (.cells #[.slice ax x.length cx, .slice ay y.length cy] 22)) (size_alloc w1 (.cells #[.slice ax x.length cx, .slice ay y.length cy] 22)) b_; have SS2 := Lib.hid (ss2 b2_ hd1 SS1.out); have HB2 := Lib.hid (below_step HB1.out HB1.out.size b2_); have hd2 := Nat.lt_of_lt_of_le hd1 b2_.size; clear k0 k1; obtain ⟨k0, k1⟩ := SS2.out; clear b_ b2_))
    go_ret2
    rw [HV.out, ← HCE.out]
    exact ⟨none, 0, rfl, .inl rfl, HB2.out⟩

set_option maxRecDepth 100000 in
set_option maxHeartbeats 6400000 in
theorem impl_TurnVector (pS : Int) (aS : Option Addr) (S : List Int) (cS loS tpS : Nat) (ax : Option Addr) (x : List Int) (cx lox tpx : Nat) (av : Option Addr) (v : List Int) (cv lov tpv : Nat) (w : World) (hS : RowIn loS tpS w aS S) (tS : tpS ≤ w.heap.size) (sS : S.length ≤ 1048576) (hx : RowIn lox tpx w ax x) (tx : tpx ≤ w.heap.size) (sx : x.length ≤ 1048576) (hv : RowIn lov tpv w av v) (tv : tpv ≤ w.heap.size) (sv : v.length ≤ 1048576) :
    Calls Try.prog 32 #[.agg #[.int .i64 pS, .slice aS S.length cS], .slice ax x.length cx, .slice av v.length cv] w (ImplR (tuV pS S x v) (tuC pS S x v) w) := by
  have HS := Lib.hid hS
  have Hx := Lib.hid hx
  have Hv := Lib.hid hv
  have k0 := nw0 w (.int .i64 pS) (.slice aS S.length cS) 28
  have k1 := nw1 w (.int .i64 pS) (.slice aS S.length cS) 28
  have HB0 := Lib.hid (below_alloc w (.cells #[.int .i64 pS, .slice aS S.length cS] 28))
  clear hS hx hv
  by_cases h0 : tuC pS S x v = 0
  · have hz0 := tuC_zero h0
    have HCT := Lib.hid h0
    have HCV := Lib.hid hz0.1
    have HC := Lib.hid hz0.2
    have hz := bvC_one hz0.2
    have HI := Lib.hid hz.1
    have HMX := Lib.hid hz.2.1
    have hvv := (codeVs_b1 hz0.1).2
    have HVV := Lib.hid hvv
    have HVL := Lib.hid (isVec_iff.1 hvv).len
    have HVM := Lib.hid (vec_mv' hz.1 hvv)
    have h6 := (isSp_iff.1 hz.1).hi
    have hbl := bl_le h6
    have HV : Hid (tuV pS S x v = tuM pS S x v) := if_pos h0
    clear h0 hz hz0 hvv
    go_enter Try.func32, Try.ntmps32
    go_upto_region 1 with fail
    obtain ⟨w1, hw1⟩ : ∃ z, z = w.alloc (.cells #[.int .i64 pS, .slice aS S.length cS] 28) := ⟨_, rfl⟩
    rw [← hw1] at HB0 k0 k1 ⊢
    have hd1 : w.heap.size < w1.heap.size := by rw [hw1]; simp
    have HB1 := HB0
    clear hw1
    have SS1 := Lib.hid (And.intro k0 k1)
    go_upto_region 5 with (first | (go_at_call 58; ((with_reducible refine (checkW1 pS aS S cS loS tpS av v cv lov tpv _ _ w1 _ rfl (HS.out.below HB1.out tS) (Nat.le_trans tS HB1.out.size) sS (Hv.out.below HB1.out tv) (Nat.le_trans tv HB1.out.size) sv).mono ?_); rintro e w2 ⟨rfl, b_⟩; rw [HCV.out]; have b2_ := below_step (below_alloc w1 (.cells #[.slice av v.length cv] 22)) (size_alloc w1 (.cells #[.slice av v.length cv] 22)) b_; have SS2 := Lib.hid (ss2 b2_ hd1 SS1.out); have HB2 := Lib.hid (below_step HB1.out HB1.out.size b2_); have hd2 := Nat.lt_of_lt_of_le hd1 b2_.size; clear k0 k1; obtain ⟨k0, k1⟩ := SS2.out; clear b_ b2_)) | (go_at_call 52; ((with_reducible refine (checkBivector_y pS aS S cS loS tpS ax x cx lox tpx w2 (HS.out.below HB2.out tS) (Nat.le_trans tS HB2.out.size) sS (Hx.out.below HB2.out tx) (Nat.le_trans tx HB2.out.size) sx HC.out).mono ?_); rintro e w3 ⟨rfl, b_⟩; have SS3 := Lib.hid (ss2 b_ hd2 SS2.out); have HB3 := Lib.hid (below_step HB2.out HB2.out.size b_); have hd3 := Nat.lt_of_lt_of_le hd2 b_.size; clear k0 k1; obtain ⟨k0, k1⟩ := SS3.out; clear b_)))
    obtain ⟨w4, hwn⟩ : ∃ z, z = w3.alloc (.cells #[.int .i64 pS, .slice aS S.length cS, .slice ax x.length cx] 58) := ⟨_, rfl⟩
    obtain ⟨g, hg⟩ : ∃ b, b = w3.heap.size := ⟨_, rfl⟩
    have GN : Hid (w4.cell? ⟨g, 0, none⟩ = some (.int .i64 pS) ∧ w4.cell? ⟨g, 1, none⟩ = some (.slice aS S.length cS) ∧ w4.cell? ⟨g, 2, none⟩ = some (.slice ax x.length cx)) := by show _ ∧ _ ∧ _; rw [hwn, hg]; exact ⟨by simp [go_sem], by simp [go_sem], by simp [go_sem]⟩
    have bn_ : Below w3.heap.size w3 w4 := by rw [hwn]; exact below_alloc _ _
    have gg4 : g < w4.heap.size := by rw [hwn, hg]; simp
    have lg : w.heap.size < g := by rw [hg]; exact hd3
    have SS4 := Lib.hid (ss2 bn_ hd3 SS3.out)
    have HB4 := Lib.hid (below_step HB3.out HB3.out.size bn_)
    have hd4 := Nat.lt_of_lt_of_le hd3 bn_.size
    rw [← hwn, ← hg]
    clear hwn hg bn_ k0 k1
    obtain ⟨k0, k1⟩ := SS4.out
    obtain ⟨g0, g1, g2⟩ := GN.out
    have hs5 : Hid (w4.drew.cell? ⟨w.heap.size, 0, none⟩ = some (.int .i64 pS) ∧ w4.drew.cell? ⟨w.heap.size, 1, none⟩ = some (.slice aS S.length cS) ∧ w4.drew.cell? ⟨g, 0, none⟩ = some (.int .i64 pS) ∧ w4.drew.cell? ⟨g, 1, none⟩ = some (.slice aS S.length cS) ∧ w4.drew.cell? ⟨g, 2, none⟩ = some (.slice ax x.length cx)) := ⟨k0, k1, g0, g1, g2⟩
    have HBD : Hid (Below w.heap.size w w4.drew) := HB4.out.drew
    have hdd : w.heap.size < w4.drew.heap.size := hd4
    have ggd : g < w4.drew.heap.size := gg4
    clear k0 k1 g0 g1 g2
    go_wp2_with fail
    go_region_held3 (fun w' => w'.cell? ⟨w.heap.size, 0, none⟩ = some (.int .i64 pS) ∧ w'.cell? ⟨w.heap.size, 1, none⟩ = some (.slice aS S.length cS) ∧ w'.cell? ⟨g, 0, none⟩ = some (.int .i64 pS) ∧ w'.cell? ⟨g, 1, none⟩ = some (.slice aS S.length cS) ∧ w'.cell? ⟨g, 2, none⟩ = some (.slice ax x.length cx)) (first | exact hs5.out | exact SSa.out | exact SSb.out | exact SSc.out | go_keep) (first | (go_at_call 61; ((with_reducible refine (vector_any pS aS S cS av v cv lov tpv w4.drew h6 HVL.out (Hv.out.below HBD.out tv) (Nat.le_trans tv HBD.out.size)).mono ?_); rintro e wa ⟨ba, rfl, la, ua, oa, b_⟩; have SSa : Hid (wa.cell? ⟨w.heap.size, 0, none⟩ = some (.int .i64 pS) ∧ wa.cell? ⟨w.heap.size, 1, none⟩ = some (.slice aS S.length cS) ∧ wa.cell? ⟨g, 0, none⟩ = some (.int .i64 pS) ∧ wa.cell? ⟨g, 1, none⟩ = some (.slice aS S.length cS) ∧ wa.cell? ⟨g, 2, none⟩ = some (.slice ax x.length cx)) := ⟨(b_.cell (p := ⟨w.heap.size, 0, none⟩) hdd).trans hs5.out.1, (b_.cell (p := ⟨w.heap.size, 1, none⟩) hdd).trans hs5.out.2.1, (b_.cell (p := ⟨g, 0, none⟩) ggd).trans hs5.out.2.2.1, (b_.cell (p := ⟨g, 1, none⟩) ggd).trans hs5.out.2.2.2.1, (b_.cell (p := ⟨g, 2, none⟩) ggd).trans hs5.out.2.2.2.2⟩; have HBa := Lib.hid (below_step HBD.out HBD.out.size b_); have Ra := Lib.hid ((oa.own la ua).row); have za := b_.size; have hda := Nat.lt_of_lt_of_le hdd za; have gga := Nat.lt_of_lt_of_le ggd za; clear b_ oa)) | (go_at_call 60; ((with_reducible refine (halfBracket_n pS aS S cS loS tpS ax x cx lox tpx (some ⟨ba, 0, none⟩) (mkR (bl S) (vecF v v.length)) (bl S) (bl S) w4.drew.heap.size wa.heap.size wa (mkR_len _ _) HI.out (HS.out.below HBa.out tS) (Nat.le_trans tS HBa.out.size) (Hx.out.below HBa.out tx) (Nat.le_trans tx HBa.out.size) HMX.out Ra.out (Nat.le_refl _) HVM.out).mono ?_); rintro e wb ⟨gb, ob, cb, rfl, lb, ub, nb, b_⟩; have SSb : Hid (wb.cell? ⟨w.heap.size, 0, none⟩ = some (.int .i64 pS) ∧ wb.cell? ⟨w.heap.size, 1, none⟩ = some (.slice aS S.length cS) ∧ wb.cell? ⟨g, 0, none⟩ = some (.int .i64 pS) ∧ wb.cell? ⟨g, 1, none⟩ = some (.slice aS S.length cS) ∧ wb.cell? ⟨g, 2, none⟩ = some (.slice ax x.length cx)) := ⟨(b_.cell (p := ⟨w.heap.size, 0, none⟩) hda).trans SSa.out.1, (b_.cell (p := ⟨w.heap.size, 1, none⟩) hda).trans SSa.out.2.1, (b_.cell (p := ⟨g, 0, none⟩) gga).trans SSa.out.2.2.1, (b_.cell (p := ⟨g, 1, none⟩) gga).trans SSa.out.2.2.2.1, (b_.cell (p := ⟨g, 2, none⟩) gga).trans SSa.out.2.2.2.2⟩; have HBb := Lib.hid (below_step HBa.out HBa.out.size b_); have Nb := Lib.hid nb; have zb := b_.size; have hdb := Nat.lt_of_lt_of_le hda zb; have ggb := Nat.lt_of_lt_of_le gga zb; clear b_ nb)) | (go_at_call 59; ((with_reducible refine (vectorNumbers_n pS aS S cS loS tpS (some ⟨gb, ob, none⟩) (hbM pS S x (mkR (bl S) (vecF v v.length))) cb wa.heap.size wb.heap.size wb HI.out (HS.out.below HBb.out tS) (Nat.le_trans tS HBb.out.size) (hb_row Nb.out lb ub) (Nat.le_refl _) (hbM_len _ _ _ _)).mono ?_); rintro e wc ⟨bc, rfl, lc, uc, oc, b_⟩; have SSc : Hid (wc.cell? ⟨w.heap.size, 0, none⟩ = some (.int .i64 pS) ∧ wc.cell? ⟨w.heap.size, 1, none⟩ = some (.slice aS S.length cS) ∧ wc.cell? ⟨g, 0, none⟩ = some (.int .i64 pS) ∧ wc.cell? ⟨g, 1, none⟩ = some (.slice aS S.length cS) ∧ wc.cell? ⟨g, 2, none⟩ = some (.slice ax x.length cx)) := ⟨(b_.cell (p := ⟨w.heap.size, 0, none⟩) hdb).trans SSb.out.1, (b_.cell (p := ⟨w.heap.size, 1, none⟩) hdb).trans SSb.out.2.1, (b_.cell (p := ⟨g, 0, none⟩) ggb).trans SSb.out.2.2.1, (b_.cell (p := ⟨g, 1, none⟩) ggb).trans SSb.out.2.2.2.1, (b_.cell (p := ⟨g, 2, none⟩) ggb).trans SSb.out.2.2.2.2⟩; have HBc := Lib.hid (below_step HBb.out HBb.out.size b_); have Oc := Lib.hid ((oc.own lc uc)); clear b_ oc)))
    all_goals
      go_wp2
      go_ret2
      rw [HV.out, HCT.out]
      exact ⟨some ⟨bc, 0, none⟩, S.length, by rw [tuM_len]; rfl, OwnR.mono' Oc.out (Nat.le_of_lt hdb) (Nat.le_refl _), HBc.out⟩
  · have HV : Hid (tuV pS S x v = []) := if_neg h0
    by_cases hv0 : codeVs pS S [v] = 0
    · have HT : Hid (tuC pS S x v = bvC pS S [x]) := if_pos hv0
      have HCV := Lib.hid hv0
      have hb0 : bvC pS S [x] ≠ 0 := fun h => h0 (HT.out.trans h)
      have HC := Lib.hid hb0
      obtain ⟨C, hC⟩ : ∃ c, c = bvC pS S [x] := ⟨_, rfl⟩
      have hc1 : (C != 0) = true := by rw [hC]; simpa using hb0
      have hc2 : (C == 0) = false := by rw [hC]; simpa using hb0
      have HCE := Lib.hid hC
      clear hC
      clear h0 hv0 hb0
      go_enter Try.func32, Try.ntmps32
      go_upto_region 1 with fail
      obtain ⟨w1, hw1⟩ : ∃ z, z = w.alloc (.cells #[.int .i64 pS, .slice aS S.length cS] 28) := ⟨_, rfl⟩
      rw [← hw1] at HB0 k0 k1 ⊢
      have hd1 : w.heap.size < w1.heap.size := by rw [hw1]; simp
      have HB1 := HB0
      clear hw1
      have SS1 := Lib.hid (And.intro k0 k1)
      go_upto_region 5 with (first | (go_at_call 58; ((with_reducible refine (checkW1 pS aS S cS loS tpS av v cv lov tpv _ _ w1 _ rfl (HS.out.below HB1.out tS) (Nat.le_trans tS HB1.out.size) sS (Hv.out.below HB1.out tv) (Nat.le_trans tv HB1.out.size) sv).mono ?_); rintro e w2 ⟨rfl, b_⟩; rw [HCV.out]; have b2_ := below_step (below_alloc w1 (.cells #[.slice av v.length cv] 22)) (size_alloc w1 (.cells #[.slice av v.length cv] 22)) b_; have SS2 := Lib.hid (ss2 b2_ hd1 SS1.out); have HB2 := Lib.hid (below_step HB1.out HB1.out.size b2_); have hd2 := Nat.lt_of_lt_of_le hd1 b2_.size; clear k0 k1; obtain ⟨k0, k1⟩ := SS2.out; clear b_ b2_)) | (go_at_call 52; ((with_reducible refine (checkBivector_n pS aS S cS loS tpS ax x cx lox tpx w2 (HS.out.below HB2.out tS) (Nat.le_trans tS HB2.out.size) sS (Hx.out.below HB2.out tx) (Nat.le_trans tx HB2.out.size) sx HC.out).mono ?_); rintro e w3 ⟨rfl, b_⟩; rw [← HCE.out]; have SS3 := Lib.hid (ss2 b_ hd2 SS2.out); have HB3 := Lib.hid (below_step HB2.out HB2.out.size b_); have hd3 := Nat.lt_of_lt_of_le hd2 b_.size; clear k0 k1; obtain ⟨k0, k1⟩ := SS3.out; clear b_)))
      go_wp2
      go_ret2
      rw [HV.out, HT.out, ← HCE.out]
      exact ⟨none, 0, rfl, .inl rfl, HB3.out.alloc HB3.out.size _⟩
    · have HT : Hid (tuC pS S x v = codeVs pS S [v]) := if_neg hv0
      obtain ⟨C, hC⟩ : ∃ c, c = codeVs pS S [v] := ⟨_, rfl⟩
      have hc1 : (C != 0) = true := by rw [hC]; simpa using hv0
      have hc2 : (C == 0) = false := by rw [hC]; simpa using hv0
      have HCE := Lib.hid hC
      clear hC
      clear h0 hv0
      go_enter Try.func32, Try.ntmps32
      go_upto_region 1 with fail
      obtain ⟨w1, hw1⟩ : ∃ z, z = w.alloc (.cells #[.int .i64 pS, .slice aS S.length cS] 28) := ⟨_, rfl⟩
      rw [← hw1] at HB0 k0 k1 ⊢
      have hd1 : w.heap.size < w1.heap.size := by rw [hw1]; simp
      have HB1 := HB0
      clear hw1
      have SS1 := Lib.hid (And.intro k0 k1)
      go_wp2_with (go_at_call 58; ((with_reducible refine (checkW1 pS aS S cS loS tpS av v cv lov tpv _ _ w1 _ rfl (HS.out.below HB1.out tS) (Nat.le_trans tS HB1.out.size) sS (Hv.out.below HB1.out tv) (Nat.le_trans tv HB1.out.size) sv).mono ?_); rintro e w2 ⟨rfl, b_⟩; rw [← HCE.out]; have b2_ := below_step (below_alloc w1 (.cells #[.slice av v.length cv] 22)) (size_alloc w1 (.cells #[.slice av v.length cv] 22)) b_; have SS2 := Lib.hid (ss2 b2_ hd1 SS1.out); have HB2 := Lib.hid (below_step HB1.out HB1.out.size b2_); have hd2 := Nat.lt_of_lt_of_le hd1 b2_.size; clear k0 k1; obtain ⟨k0, k1⟩ := SS2.out; clear b_ b2_))
      go_ret2
      rw [HV.out, HT.out, ← HCE.out]
      exact ⟨none, 0, rfl, .inl rfl, HB2.out⟩

set_option maxRecDepth 100000 in
set_option maxHeartbeats 6400000 in
theorem spec_TurnVector (pS : Int) (aS : Option Addr) (S : List Int) (cS loS tpS : Nat) (ax : Option Addr) (x : List Int) (cx lox tpx : Nat) (av : Option Addr) (v : List Int) (cv lov tpv : Nat) (w : World) (hS : RowIn loS tpS w aS S) (tS : tpS ≤ w.heap.size) (sS : S.length ≤ 1048576) (hx : RowIn lox tpx w ax x) (tx : tpx ≤ w.heap.size) (sx : x.length ≤ 1048576) (hv : RowIn lov tpv w av v) (tv : tpv ≤ w.heap.size) (sv : v.length ≤ 1048576) :
    Calls Try.prog 31 #[.agg #[.int .i64 pS, .slice aS S.length cS], .slice ax x.length cx, .slice av v.length cv] w (SpecR (tuV pS S x v) (tuC pS S x v) w) := by
  have HS := Lib.hid hS
  have Hx := Lib.hid hx
  have Hv := Lib.hid hv
  have k0 := nw0 w (.int .i64 pS) (.slice aS S.length cS) 28
  have k1 := nw1 w (.int .i64 pS) (.slice aS S.length cS) 28
  have HB0 := Lib.hid (below_alloc w (.cells #[.int .i64 pS, .slice aS S.length cS] 28))
  clear hS hx hv
  rcases tuC_model pS S x v with ⟨h0, ht⟩ | ⟨h0, hi, hv, ht⟩ | ⟨h0, hi, hv, ht⟩
  · have HT := Lib.hid ht
    have HV : Hid (tuV pS S x v = []) := if_neg (by rw [ht]; exact h0)
    obtain ⟨C, hC⟩ : ∃ c, c = codeMv pS S [x] := ⟨_, rfl⟩
    have hc1 : (C != 0) = true := by rw [hC]; simpa using h0
    have hc2 : (C == 0) = false := by rw [hC]; simpa using h0
    have HCE := Lib.hid hC
    clear hC
    clear h0 ht
    go_enter Try.func31, Try.ntmps31
    go_upto_region 1 with fail
    obtain ⟨w1, hw1⟩ : ∃ z, z = w.alloc (.cells #[.int .i64 pS, .slice aS S.length cS] 28) := ⟨_, rfl⟩
    rw [← hw1] at HB0 k0 k1 ⊢
    have hd1 : w.heap.size < w1.heap.size := by rw [hw1]; simp
    have HB1 := HB0
    clear hw1
    have SS1 := Lib.hid (And.intro k0 k1)
    go_wp2_with (go_at_call 55; ((with_reducible refine (codeM1 pS aS S cS loS tpS ax x cx lox tpx _ _ w1 _ rfl (HS.out.below HB1.out tS) (Nat.le_trans tS HB1.out.size) sS (Hx.out.below HB1.out tx) (Nat.le_trans tx HB1.out.size) sx).mono ?_); rintro e w2 ⟨rfl, b_⟩; rw [← HCE.out]; have b2_ := below_step (below_alloc w1 (.cells #[.slice ax x.length cx] 22)) (size_alloc w1 (.cells #[.slice ax x.length cx] 22)) b_; have SS2 := Lib.hid (ss2 b2_ hd1 SS1.out); have HB2 := Lib.hid (below_step HB1.out HB1.out.size b2_); have hd2 := Nat.lt_of_lt_of_le hd1 b2_.size; clear k0 k1; obtain ⟨k0, k1⟩ := SS2.out; clear b_ b2_))
    go_ret2
    rw [HV.out, HT.out, ← HCE.out]
    exact ⟨none, 0, rfl, .inl rfl, HB2.out⟩
  · have HT := Lib.hid ht
    have HC0 := Lib.hid h0
    have HI := Lib.hid hi
    have HVV := Lib.hid hv
    have HV : Hid (tuV pS S x v = []) := if_neg (by rw [ht]; decide)
    clear h0 ht hi hv
    go_enter Try.func31, Try.ntmps31
    go_upto_region 1 with fail
    obtain ⟨w1, hw1⟩ : ∃ z, z = w.alloc (.cells #[.int .i64 pS, .slice aS S.length cS] 28) := ⟨_, rfl⟩
    rw [← hw1] at HB0 k0 k1 ⊢
    have hd1 : w.heap.size < w1.heap.size := by rw [hw1]; simp
    have HB1 := HB0
    clear hw1
    have SS1 := Lib.hid (And.intro k0 k1)
    go_wp2_with (first | (go_at_call 55; ((with_reducible refine (codeM1 pS aS S cS loS tpS ax x cx lox tpx _ _ w1 _ rfl (HS.out.below HB1.out tS) (Nat.le_trans tS HB1.out.size) sS (Hx.out.below HB1.out tx) (Nat.le_trans tx HB1.out.size) sx).mono ?_); rintro e w2 ⟨rfl, b_⟩; rw [HC0.out]; have b2_ := below_step (below_alloc w1 (.cells #[.slice ax x.length cx] 22)) (size_alloc w1 (.cells #[.slice ax x.length cx] 22)) b_; have SS2 := Lib.hid (ss2 b2_ hd1 SS1.out); have HB2 := Lib.hid (below_step HB1.out HB1.out.size b2_); have hd2 := Nat.lt_of_lt_of_le hd1 b2_.size; clear k0 k1; obtain ⟨k0, k1⟩ := SS2.out; clear b_ b2_)) | (go_at_call 56; ((with_reducible refine (l03Vector_any pS aS S cS av v cv lov tpv w2 (isSp_iff.1 HI.out).prime sS (Hv.out.below HB2.out tv) (Nat.le_trans tv HB2.out.size) sv).mono ?_); rintro e w3 ⟨rfl, b_⟩; rw [HVV.out]; have SS3 := Lib.hid (ss2 b_ hd2 SS2.out); have HB3 := Lib.hid (below_step HB2.out HB2.out.size b_); have hd3 := Nat.lt_of_lt_of_le hd2 b_.size; clear k0 k1; obtain ⟨k0, k1⟩ := SS3.out; clear b_)))
    go_ret2
    rw [HV.out, HT.out]
    exact ⟨none, 0, rfl, .inl rfl, HB3.out⟩
  · have HT := Lib.hid ht
    have HC0 := Lib.hid h0
    have HI := Lib.hid hi
    have HVV := Lib.hid hv
    clear h0 ht hi hv
    by_cases hb : bvC pS S [x] = 0
    · have HC := Lib.hid hb
      have HMX := Lib.hid (bvC_one hb).2.1
      have HV : Hid (tuV pS S x v = tuM pS S x v) := if_pos (HT.out.trans hb)
      clear hb
      go_enter Try.func31, Try.ntmps31
      go_upto_region 1 with fail
      obtain ⟨w1, hw1⟩ : ∃ z, z = w.alloc (.cells #[.int .i64 pS, .slice aS S.length cS] 28) := ⟨_, rfl⟩
      rw [← hw1] at HB0 k0 k1 ⊢
      have hd1 : w.heap.size < w1.heap.size := by rw [hw1]; simp
      have HB1 := HB0
      clear hw1
      have SS1 := Lib.hid (And.intro k0 k1)
      go_wp2_with (first | (go_at_call 55; ((with_reducible refine (codeM1 pS aS S cS loS tpS ax x cx lox tpx _ _ w1 _ rfl (HS.out.below HB1.out tS) (Nat.le_trans tS HB1.out.size) sS (Hx.out.below HB1.out tx) (Nat.le_trans tx HB1.out.size) sx).mono ?_); rintro e w2 ⟨rfl, b_⟩; rw [HC0.out]; have b2_ := below_step (below_alloc w1 (.cells #[.slice ax x.length cx] 22)) (size_alloc w1 (.cells #[.slice ax x.length cx] 22)) b_; have SS2 := Lib.hid (ss2 b2_ hd1 SS1.out); have HB2 := Lib.hid (below_step HB1.out HB1.out.size b2_); have hd2 := Nat.lt_of_lt_of_le hd1 b2_.size; clear k0 k1; obtain ⟨k0, k1⟩ := SS2.out; clear b_ b2_)) | (go_at_call 56; ((with_reducible refine (l03Vector_any pS aS S cS av v cv lov tpv w2 (isSp_iff.1 HI.out).prime sS (Hv.out.below HB2.out tv) (Nat.le_trans tv HB2.out.size) sv).mono ?_); rintro e w3 ⟨rfl, b_⟩; rw [HVV.out]; have SS3 := Lib.hid (ss2 b_ hd2 SS2.out); have HB3 := Lib.hid (below_step HB2.out HB2.out.size b_); have hd3 := Nat.lt_of_lt_of_le hd2 b_.size; clear k0 k1; obtain ⟨k0, k1⟩ := SS3.out; clear b_)) | (go_at_call 50; ((with_reducible refine (codeB1 pS aS S cS loS tpS ax x cx lox tpx _ _ w3 _ rfl (HS.out.below HB3.out tS) (Nat.le_trans tS HB3.out.size) sS (Hx.out.below HB3.out tx) (Nat.le_trans tx HB3.out.size) sx).mono ?_); rintro e w4 ⟨rfl, b_⟩; rw [HC.out]; have b2_ := below_step (below_alloc w3 (.cells #[.slice ax x.length cx] 22)) (size_alloc w3 (.cells #[.slice ax x.length cx] 22)) b_; have SS4 := Lib.hid (ss2 b2_ hd3 SS3.out); have HB4 := Lib.hid (below_step HB3.out HB3.out.size b2_); have hd4 := Nat.lt_of_lt_of_le hd3 b2_.size; clear k0 k1; obtain ⟨k0, k1⟩ := SS4.out; clear b_ b2_)) | (go_at_call 57; ((with_reducible refine (l10Turn_any pS aS S cS loS tpS ax x cx lox tpx av v cv lov tpv w4 HI.out (HS.out.below HB4.out tS) (Nat.le_trans tS HB4.out.size) (Hx.out.below HB4.out tx) (Nat.le_trans tx HB4.out.size) HMX.out (Hv.out.below HB4.out tv) (Nat.le_trans tv HB4.out.size) HVV.out).mono ?_); rintro e w5 ⟨r3, c3, rfl, o_, b_⟩; have SS5 := Lib.hid (ss2 b_ hd4 SS4.out); have HB5 := Lib.hid (below_step HB4.out HB4.out.size b_); have hd5 := Nat.lt_of_lt_of_le hd4 b_.size; have RR := Lib.hid (o_.mono (Nat.le_of_lt hd4) (Nat.le_refl _)); clear o_; clear k0 k1; obtain ⟨k0, k1⟩ := SS5.out; clear b_)))
      go_ret2
      rw [HV.out, HT.out, HC.out]
      exact ⟨r3, c3, rfl, RR.out, HB5.out⟩
    · have HV : Hid (tuV pS S x v = []) := if_neg (by rw [HT.out]; exact hb)
      obtain ⟨C, hC⟩ : ∃ c, c = bvC pS S [x] := ⟨_, rfl⟩
      have hc1 : (C != 0) = true := by rw [hC]; simpa using hb
      have hc2 : (C == 0) = false := by rw [hC]; simpa using hb
      have HCE := Lib.hid hC
      clear hC
      clear hb
      go_enter Try.func31, Try.ntmps31
      go_upto_region 1 with fail
      obtain ⟨w1, hw1⟩ : ∃ z, z = w.alloc (.cells #[.int .i64 pS, .slice aS S.length cS] 28) := ⟨_, rfl⟩
      rw [← hw1] at HB0 k0 k1 ⊢
      have hd1 : w.heap.size < w1.heap.size := by rw [hw1]; simp
      have HB1 := HB0
      clear hw1
      have SS1 := Lib.hid (And.intro k0 k1)
      go_wp2_with (first | (go_at_call 55; ((with_reducible refine (codeM1 pS aS S cS loS tpS ax x cx lox tpx _ _ w1 _ rfl (HS.out.below HB1.out tS) (Nat.le_trans tS HB1.out.size) sS (Hx.out.below HB1.out tx) (Nat.le_trans tx HB1.out.size) sx).mono ?_); rintro e w2 ⟨rfl, b_⟩; rw [HC0.out]; have b2_ := below_step (below_alloc w1 (.cells #[.slice ax x.length cx] 22)) (size_alloc w1 (.cells #[.slice ax x.length cx] 22)) b_; have SS2 := Lib.hid (ss2 b2_ hd1 SS1.out); have HB2 := Lib.hid (below_step HB1.out HB1.out.size b2_); have hd2 := Nat.lt_of_lt_of_le hd1 b2_.size; clear k0 k1; obtain ⟨k0, k1⟩ := SS2.out; clear b_ b2_)) | (go_at_call 56; ((with_reducible refine (l03Vector_any pS aS S cS av v cv lov tpv w2 (isSp_iff.1 HI.out).prime sS (Hv.out.below HB2.out tv) (Nat.le_trans tv HB2.out.size) sv).mono ?_); rintro e w3 ⟨rfl, b_⟩; rw [HVV.out]; have SS3 := Lib.hid (ss2 b_ hd2 SS2.out); have HB3 := Lib.hid (below_step HB2.out HB2.out.size b_); have hd3 := Nat.lt_of_lt_of_le hd2 b_.size; clear k0 k1; obtain ⟨k0, k1⟩ := SS3.out; clear b_)) | (go_at_call 50; ((with_reducible refine (codeB1 pS aS S cS loS tpS ax x cx lox tpx _ _ w3 _ rfl (HS.out.below HB3.out tS) (Nat.le_trans tS HB3.out.size) sS (Hx.out.below HB3.out tx) (Nat.le_trans tx HB3.out.size) sx).mono ?_); rintro e w4 ⟨rfl, b_⟩; rw [← HCE.out]; have b2_ := below_step (below_alloc w3 (.cells #[.slice ax x.length cx] 22)) (size_alloc w3 (.cells #[.slice ax x.length cx] 22)) b_; have SS4 := Lib.hid (ss2 b2_ hd3 SS3.out); have HB4 := Lib.hid (below_step HB3.out HB3.out.size b2_); have hd4 := Nat.lt_of_lt_of_le hd3 b2_.size; clear k0 k1; obtain ⟨k0, k1⟩ := SS4.out; clear b_ b2_)))
      go_ret2
      rw [HV.out, HT.out, ← HCE.out]
      exact ⟨none, 0, rfl, .inl rfl, HB4.out⟩

end Go.Proofs.Ytkibkkdeaojjoaa
