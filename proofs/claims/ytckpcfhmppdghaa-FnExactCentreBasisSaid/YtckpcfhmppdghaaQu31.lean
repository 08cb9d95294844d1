/-
  The model's solutions of linear equations: the walk.
  Conditions: the matrix is a row of rows of known cells with numbers of the prime, the right side too.
-/
import Derived.Test.YtckpcfhmppdghaaQu17
import Derived.Test.YtckpcfhmppdghaaQu27
namespace Go.Proofs.Ytckpcfhmppdghaa
open Go.RowKit Go.ChangeShapes Go.WideShapes
set_option linter.unusedVariables false

theorem basisX (p : Int) (a : Option Addr) (A : List (List Int)) (ca lo tp c : Nat) (w : World) (hm : MatIn lo tp w a A) (ht : tp ≤ w.heap.size) (hA : RowsX p c A) :
    Calls Try.prog 64 #[.int .i64 p, .slice a A.length ca] w (NewBas p A w) := by
  have hp := (prm_bd hA.prime).1
  have h0 := hA.len0
  have c0 := hA.c0
  refine (l02Basis_any p a A ca lo tp c w hA.prime hm ht hA.lo hA.hi (by omega) hA.c1 hA.len hA.rng).mono ?_
  rintro e w' ⟨r, k, m, rfl, hM, hB, hb⟩
  rw [← h0] at hB
  have e1 := bas_eq (by omega) hB
  subst e1
  exact ⟨r, k, rfl, hM, hb, hB⟩
def NewRO (z : List Int) (w : World) (e : Ending) (w' : World) : Prop := ∃ g k, e = .returned (.slice (some ⟨g, 0, none⟩) z.length k) ∧ OutR w.heap.size w' (.slice (some ⟨g, 0, none⟩) z.length k) z ∧ Below w.heap.size w w'
set_option maxHeartbeats 800000 in
theorem l01Own_out (a : Option Addr) (zs : List Int) (ca lo tp : Nat) (w : World) (ha : RowIn lo tp w a zs) (ht : tp ≤ w.heap.size) (h0 : 0 < zs.length) (hs : zs.length ≤ 1048576) :
    Calls Try.prog 63 #[.slice a zs.length ca] w (NewRO zs w) := by
  obtain ⟨i0, hi, hz0, hz1, hz2⟩ := info_parts info64
  rcases ha with h | ⟨b, o, rfl, _, hb, hc⟩
  · rw [h] at h0; simp at h0
  · have hbw : b < w.heap.size := Nat.lt_of_lt_of_le hb ht
    have HN := Lib.hid (news_of hc (.cells #[] 2) hbw)
    clear hc
    go_enter Try.func63, Try.ntmps63
    go_wp2_with (at_builtin; refine wpList_append_lies _ rfl _ _ 22 rfl w.heap.size 2 i0 (.int .i64 0) 1 8 Try.underlying22 hi hz0 hz1 hz2 rfl (by decide) _ 0 [] rfl (World.ownsRow_made w #[] 0 (Nat.le_refl _) (Nat.zero_le _) rfl) ⟨b, o, none⟩ zs.length ca (zs.map (Value.int .i64)) rfl (by simp) HN.out (ones_of zs) h0 (by unfold maxLen; omega) (by omega) (by simp) (w.heap.size + 1) (by simp) ?_; intro gg cap w1 hown1 hgrow hat hlt1)
    rw [Nat.zero_add] at hown1
    have HO : Hid (OutR w.heap.size w1 (.slice (some ⟨gg, 0, none⟩) zs.length cap) zs) := OutR.of hown1 rfl
    have HB : Hid (Below w.heap.size w w1) := ((Below.refl _ _).alloc (Nat.le_refl _) _).grown hgrow (by simp) (fun k hk => by cases hk; exact Nat.le_refl _)
    clear hown1 hgrow
    go_wp2
    go_ret
    exact ⟨_, _, rfl, HO.out, HB.out⟩
def NewRN (n : Nat) (z : List Int) (w : World) (e : Ending) (w' : World) : Prop := ∃ g k, e = .returned (.slice (some ⟨g, 0, none⟩) n k) ∧ w'.ownsRow w.heap.size 2 1 (.slice (some ⟨g, 0, none⟩) n k) n (z.map (Value.int .i64)) ∧ Below w.heap.size w w'
theorem l01Own_n (a : Option Addr) (zs : List Int) (n ca lo tp : Nat) (w : World) (ha : RowIn lo tp w a zs) (ht : tp ≤ w.heap.size) (hn : zs.length = n) (h0 : 0 < n) (hs : n ≤ 1048576) :
    Calls Try.prog 63 #[.slice a n ca] w (NewRN n zs w) := by
  subst hn
  exact (l01Own_out a zs ca lo tp w ha ht h0 hs).mono (fun e w' h => h)
theorem ownsRow_base {w : World} {B B' s n : Nat} {E : TypeId} {v : Value} {xs : List Value} (h : w.ownsRow B E s v n xs) (hB : B' ≤ B) : w.ownsRow B' E s v n xs :=
  ⟨h.1, h.2.imp id (fun ⟨g, cap, cur, e, hb, r⟩ => ⟨g, cap, cur, e, Nat.le_trans hB hb, r⟩)⟩
theorem solvec_next {p : Int} {c n i : Nat} {B : List (List Int)} {P : Nat → Nat} (h : Rref p n (c + 1) (at' B) P) (hi : i < n) : (solvec B P c i).set (P i) (at' B i c) = solvec B P c (i + 1) :=
  mkR_set _ _ (fun j hj => by
    show sm i (fun i' => if j = P i' then at' B i' c else 0) + (if j = P i then at' B i c else 0) = if j = P i then at' B i c else sm i (fun i' => if j = P i' then at' B i' c else 0)
    by_cases e : j = P i
    · rw [if_pos e, if_pos e]
      have : sm i (fun i' => if j = P i' then at' B i' c else 0) = sm i (fun _ => 0) := sm_congr (fun i' hi' => by
        have := h.mono i' i hi' hi
        rw [if_neg (by omega)])
      rw [this, sm_zero, Int.zero_add]
    · rw [if_neg e, if_neg e, Int.add_zero])
theorem made_tag (w : World) (n : Nat) (t : TypeId) (ht : t = 2) : TagR w.heap.size (w.alloc (.cells (madeCells #[.int .i64 0] n) t)).heap.size (w.alloc (.cells (madeCells #[.int .i64 0] n) t)) (some ⟨w.heap.size, 0, none⟩) (mkR n fun _ => 0) := by
  subst ht
  refine .inr ⟨w.heap.size, 0, madeCells #[.int .i64 0] n, rfl, Nat.le_refl _, by simp, heap_alloc_new w _, fun j hj => ?_⟩
  rw [mkR_len] at hj
  rw [Nat.zero_add, made_cell w _ n _ hj, mkR_at _ hj]

def SolRet (p : Int) (A : List (List Int)) (v : List Int) (w : World) (e : Ending) (w' : World) : Prop :=
  ∃ r k, e = .returned (.tuple #[.slice r (solL p A v).length k, .bool (solOk p A v)]) ∧ RowIn w.heap.size w'.heap.size w' r (solL p A v) ∧ Below w.heap.size w w'

set_option maxRecDepth 100000 in
set_option maxHeartbeats 6400000 in
theorem l02Solve_any (p : Int) (a : Option Addr) (A : List (List Int)) (ca lo tp : Nat) (av : Option Addr) (v : List Int) (cv lov tpv : Nat) (w : World) (hm : MatIn lo tp w a A) (ht : tp ≤ w.heap.size) (hv : RowIn lov tpv w av v) (tv : tpv ≤ w.heap.size)
    (hA : Lst 1 p A) (hvl : v.length = A.length) (hvn : v.all (inr p) = true) :
    Calls Try.prog 77 #[.int .i64 p, .slice a A.length ca, .slice av v.length cv] w (SolRet p A v w) := by
  obtain ⟨i0, hi, hz0, hz1, hz2⟩ := info_parts info64
  obtain ⟨j0, kj, kz0, kz1, kz2⟩ := info_parts info_slice
  have hpb := prm_bd hA.prime
  have HP := Lib.hid hA.prime
  have HM := Lib.hid hm
  have HV := Lib.hid hv
  have HX := Lib.hid (col_rows hA hvl hvn)
  have hA0 : 0 < A.length := hA.lo
  have hA16 := hA.hi
  have HLA := Lib.hid hA.len
  obtain ⟨b, o, r0, c0, ha, _, hb, hr0, _⟩ := HM.out.row (i := 0) hA.lo
  subst ha
  rw [Nat.add_zero] at hr0
  have hb' : b < w.heap.size := Nat.lt_of_lt_of_le hb ht
  have c1 := hA.c0 0 hA.lo
  have c16 := hA.c1 0 hA.lo
  have HOK : Hid (solOk p A v = !isPv (pvs (bas p (bes A (col v)))) (bas p (bes A (col v))).length (rw' A 0).length) := rfl
  have HSL : Hid (solL p A v = if solOk p A v = true then solvec (bas p (bes A (col v))) (pvs (bas p (bes A (col v)))) (rw' A 0).length (bas p (bes A (col v))).length else []) := rfl
  obtain ⟨c, hcc⟩ : ∃ c, c = (rw' A 0).length := ⟨_, rfl⟩
  rw [← hcc] at hr0 c1 c16 HX HLA HOK HSL
  obtain ⟨W, hW⟩ : ∃ W, W = bes A (col v) := ⟨_, rfl⟩
  have HWL : Hid (W.length = A.length) := by show _ = _; rw [hW]; exact bes_len _ _
  have HWR : Hid (∀ i, i < A.length → rw' W i = rw' A i ++ [v.getD i 0]) := fun i h => by rw [hW, bes_row h, col_row (by omega)]
  rw [← hW] at HX HOK HSL
  have HVL := Lib.hid hvl
  obtain ⟨B, hB⟩ : ∃ B, B = bas p W := ⟨_, rfl⟩
  rw [← hB] at HOK HSL
  have HBE := Lib.hid hB
  obtain ⟨n, hn⟩ : ∃ n, n = B.length := ⟨_, rfl⟩
  rw [← hn] at HOK HSL
  have HN := Lib.hid hn
  obtain ⟨P, hP⟩ : ∃ P, P = pvs B := ⟨_, rfl⟩
  rw [← hP] at HOK HSL
  have HPE := Lib.hid hP
  have HPF : Hid (∀ i, i < n → fstN (rw' B i) = P i) := fun i _ => by rw [hP]; rfl
  clear hm hv hA hcc hW hvl hvn hB hn hP
  go_enter Try.func77, Try.ntmps77
  go_wp2
  go_loopw [8, 9] (fun z t wr => ∃ i : Nat, i ≤ A.length ∧ t = .int .i64 i ∧ OutM w.heap.size wr z (W.take i) ∧ Below w.heap.size w wr) (fun _ t _ => A.length - (intOf t).toNat)
  case atStart => exact ⟨0, Nat.zero_le _, rfl, OutM.start w _ _ (Nat.le_refl _) rfl, by ((repeat' (first | with_reducible exact Below.refl _ _ | (with_reducible refine Below.setCell ?_ ?_ _) | (with_reducible refine Below.alloc ?_ ?_ _) | (with_reducible refine Below.drew ?_))); all_goals (first | (simp; done) | omega | (simp; omega)))⟩
  case round =>
    obtain ⟨i, hi', rfl, ho, hbel⟩ := hrel
    have HO := Lib.hid ho
    have HB := Lib.hid hbel
    have hwz := hbel.size
    clear ho
    by_cases hlt : i < A.length
    · obtain ⟨b1, o1, r, k1, ha1, _, hb1, hr1, hrow⟩ := (HM.out.below hbel ht).row hlt
      cases ha1
      obtain ⟨b2, o2, ha2, _, hb2, hc2⟩ := (HV.out.below hbel tv).num (j := i) (by rw [HVL.out]; exact hlt)
      subst ha2
      have hl := HLA.out i hlt
      rw [hl] at hr1
      have HROWd := Lib.hid (hrow.below (bdrew wr) (Nat.le_trans ht hwz))
      have HTD : Hid (tp ≤ wr.drew.heap.size) := Nat.le_trans ht hwz
      have HWI := Lib.hid (HWR.out i hlt)
      have hrow0 := hrow
      obtain ⟨x, hx⟩ : ∃ x, x = v.getD i 0 := ⟨_, rfl⟩
      obtain ⟨z, hz⟩ : ∃ z, z = rw' A i := ⟨_, rfl⟩
      rw [← hx] at hc2 HWI
      rw [← hz] at HROWd HWI hl hrow0
      have HLZ := Lib.hid hl
      obtain ⟨X, hX⟩ : ∃ X, X = z.map (Value.int .i64) := ⟨_, rfl⟩
      have HXX := Lib.hid hX
      obtain ⟨vals, hvo, hvr⟩ := HO.out
      rw [List.length_take, Nat.min_eq_left (by rw [HWL.out]; exact hi')] at hvo hvr
      have HV1 := Lib.hid hvo
      have HVR := Lib.hid hvr
      have hb1w : b < w.heap.size := Nat.lt_of_lt_of_le hb1 ht
      have hb2w : b2 < w.heap.size := Nat.lt_of_lt_of_le hb2 tv
      have hi1 : (i : Int) < (A.length : Int) := by omega
      have hi2 : (i : Int) < (v.length : Int) := by rw [HVL.out]; omega
      have hc0 : 0 < c := c1
      have HROWb := Lib.hid (hrow0.below ((balloc wr (.cells #[.int .i64 x] 2)).drew) (Nat.le_trans ht hwz))
      have HTDb : Hid (tp ≤ (wr.alloc (.cells #[.int .i64 x] 2)).drew.heap.size) := Nat.le_trans (Nat.le_trans ht hwz) (balloc wr (.cells #[.int .i64 x] 2)).size
      have hcb : c ≤ 1048576 := by omega
      clear hx hz hX hvo hvr hrow hrow0 hbel
      go_wp2
      go_region_held3 (fun w' => w'.cell? ⟨b, o + i, none⟩ = some (.slice r c k1) ∧ w'.cell? ⟨b2, o2 + i, none⟩ = some (.int .i64 x)) (first | go_keep | exact SS2.out | exact SS3.out | exact SS4.out) (first | (go_at_call 63; (with_reducible refine (l01Own_n r z c k1 lo tp wr.drew HROWd.out HTD.out HLZ.out hc0 hcb).mono ?_); rintro e w2 ⟨g2, k2, rfl, ho2, hb2d⟩; rw [← HXX.out] at ho2; have hb2' : Below wr.heap.size wr w2 := (bdrew wr).trans hb2d; have HO2 : Hid (w2.ownsRow wr.heap.size 2 1 (.slice (some ⟨g2, 0, none⟩) c k2) c X) := ho2; have HB2 := Lib.hid hb2'; have SS2 := Lib.hid (And.intro ((hb2'.cell (p := ⟨b, o + i, none⟩) (Nat.lt_of_lt_of_le hb1w hwz)).trans hr1) ((hb2'.cell (p := ⟨b2, o2 + i, none⟩) (Nat.lt_of_lt_of_le hb2w hwz)).trans hc2)); have hz2' : wr.heap.size ≤ w2.heap.size := hb2'.size; clear ho2 hb2' hb2d) | (go_at_call 63; (with_reducible refine (l01Own_n r z c k1 lo tp (wr.alloc (.cells #[.int .i64 x] 2)).drew HROWb.out HTDb.out HLZ.out hc0 hcb).mono ?_); rintro e w2 ⟨g2, k2, rfl, ho2, hb2d⟩; rw [← HXX.out] at ho2; have hb2' : Below wr.heap.size wr w2 := ((balloc wr (.cells #[.int .i64 x] 2)).drew).trans (hb2d.mono (balloc wr (.cells #[.int .i64 x] 2)).size); have HO2 : Hid (w2.ownsRow wr.heap.size 2 1 (.slice (some ⟨g2, 0, none⟩) c k2) c X) := ownsRow_base ho2 (balloc wr (.cells #[.int .i64 x] 2)).size; have HB2 := Lib.hid hb2'; have XN := Lib.hid ((hb2d.block wr.heap.size (show wr.heap.size < (wr.alloc (.cells #[.int .i64 x] 2)).heap.size by simp)).trans (heap_alloc_new wr (.cells #[.int .i64 x] 2))); have SS2 := Lib.hid (And.intro ((hb2'.cell (p := ⟨b, o + i, none⟩) (Nat.lt_of_lt_of_le hb1w hwz)).trans hr1) ((hb2'.cell (p := ⟨b2, o2 + i, none⟩) (Nat.lt_of_lt_of_le hb2w hwz)).trans hc2)); have hz2' : wr.heap.size ≤ w2.heap.size := hb2'.size; clear ho2 hb2' hb2d) | (refine step_append_lies _ (by rfl) _ _ _ (by rfl) wr.heap.size 2 i0 _ 1 8 Try.underlying22 hi hz0 hz1 hz2 rfl (by omega) (.slice (some ⟨g2, 0, none⟩) c k2) c X (by rfl) (HO2.out.alloc _) ⟨w2.heap.size, 0, none⟩ 1 1 [.int .i64 x] (by rfl) (by rfl) (World.news_of_block (cs := #[.int .i64 x]) (t := 2) (fr := (0, 0)) (heap_alloc_new w2 _)) (by simp [Value.oneCell']) (by omega) (by unfold maxLen; omega) (by omega) (by simp; omega) (w2.heap.size + 1) (by simp) ?_; intro g3 cap3 w3 hown3 hgrow3 hat3 hlt3; have HO3 := Lib.hid hown3; have HB3 : Hid (Below wr.heap.size wr w3) := (HB2.out.alloc hz2' _).grown hgrow3 (by simp; omega) (fun _ hk => (HO2.out.lt _ hk).1); have hz3' := HB3.out.size; have SS3 := Lib.hid (And.intro ((HB3.out.cell (p := ⟨b, o + i, none⟩) (Nat.lt_of_lt_of_le hb1w hwz)).trans hr1) ((HB3.out.cell (p := ⟨b2, o2 + i, none⟩) (Nat.lt_of_lt_of_le hb2w hwz)).trans hc2)); have HV3 := Lib.hid (HV1.out.kept (below_grown HB3.out) (by cases hv : Value.ownBlock u8 <;> simp)); clear hown3 hgrow3) | (refine step_append_lies _ (by rfl) _ _ _ (by rfl) wr.heap.size 2 i0 _ 1 8 Try.underlying22 hi hz0 hz1 hz2 rfl (by omega) (.slice (some ⟨g2, 0, none⟩) c k2) c X (by rfl) HO2.out ⟨wr.heap.size, 0, none⟩ 1 1 [.int .i64 x] (by rfl) (by rfl) (World.news_of_block (cs := #[.int .i64 x]) (t := 2) (fr := (0, 0)) XN.out) (by simp [Value.oneCell']) (by omega) (by unfold maxLen; omega) (by omega) (by omega) w2.heap.size (by omega) ?_; intro g3 cap3 w3 hown3 hgrow3 hat3 hlt3; have HO3 := Lib.hid hown3; have HB3 : Hid (Below wr.heap.size wr w3) := HB2.out.grown hgrow3 hz2' (fun _ hk => (HO2.out.lt _ hk).1); have hz3' := HB3.out.size; have SS3 := Lib.hid (And.intro ((HB3.out.cell (p := ⟨b, o + i, none⟩) (Nat.lt_of_lt_of_le hb1w hwz)).trans hr1) ((HB3.out.cell (p := ⟨b2, o2 + i, none⟩) (Nat.lt_of_lt_of_le hb2w hwz)).trans hc2)); have HV3 := Lib.hid (HV1.out.kept (below_grown HB3.out) (by cases hv : Value.ownBlock u8 <;> simp)); clear hown3 hgrow3) | (refine step_append_lies _ (by rfl) _ _ _ (by rfl) w.heap.size 22 j0 _ 1 24 Try.underlying26 kj kz0 kz1 kz2 rfl (by omega) u8 i vals (by rfl) (HV3.out.alloc _) ⟨w3.heap.size, 0, none⟩ 1 1 [.slice (some ⟨g3, 0, none⟩) (c + 1) cap3] (by rfl) (by rfl) (World.news_of_block (cs := #[.slice (some ⟨g3, 0, none⟩) (c + 1) cap3]) (t := 22) (fr := (0, 0)) (heap_alloc_new w3 _)) (by simp [Value.oneCell']) (by omega) (by unfold maxLen; omega) (by omega) (by simp; omega) (w3.heap.size + 1) (by simp) ?_; intro g4 cap4 w4 hown4 hgrow4 hat4 hlt4; have HO4 := Lib.hid hown4; have HG4 := Lib.hid hgrow4; have HB4 : Hid (Below w.heap.size wr w4) := ((HB3.out.mono hwz).alloc (Nat.le_trans hwz hz3') _).grown hgrow4 (by simp; omega) (fun _ hk => (HV1.out.lt _ hk).1); have SS4 := Lib.hid (And.intro ((HB4.out.cell (p := ⟨b, o + i, none⟩) hb1w).trans hr1) ((HB4.out.cell (p := ⟨b2, o2 + i, none⟩) hb2w).trans hc2)); clear hown4 hgrow4))
      all_goals
        go_wp2
        go_roundw
        case rel =>
          have ho3 : OutR wr.heap.size w3 (.slice (some ⟨g3, 0, none⟩) (c + 1) cap3) (rw' W i) := by
            unfold OutR
            rw [HWI.out, List.length_append, HLZ.out, List.map_append, ← HXX.out]
            exact HO3.out
          obtain ⟨a3, c3, e3, ht3⟩ := ho3.tag
          injection e3 with e31 e32 e33
          subst e31
          have hlt2 : i < W.length := by rw [HWL.out]; exact hlt
          exact ⟨i + 1, by omega, by go_num, by rw [take_snoc' hlt2]; exact OutM.pushW (by rw [List.length_take]; omega) (by rw [HWI.out, List.length_append, HLZ.out]; rfl) HV1.out HVR.out ht3 hwz HB3.out HO4.out HG4.out, HB.out.trans HB4.out⟩
        case measure => simp [intOf]; omega
    · have hn : i = A.length := by omega
      subst hn
      have h8 := HO.out
      rw [List.take_of_length_le (by rw [HWL.out]; exact Nat.le_refl _)] at h8
      obtain ⟨a8, c8, e8, hm8⟩ := h8.mat
      subst e8
      have HM8 := Lib.hid hm8
      have hq := (hbel.cell (p := ⟨b, o, none⟩) hb').trans hr0
      have hmk := fun W => run_make_row' (P := Try.prog) 22 2 (.int .i64 0) 8 Try.underlying22 info64 rfl .i64 .i64 c (by omega) (by omega) W
      have hbw : b < wr.heap.size := Nat.lt_of_lt_of_le hb' hwz
      clear h8 hm8 hbel
      go_wp2_with (go_at_call 64; (with_reducible refine (basisX p a8 W c8 w.heap.size wr.heap.size (c + 1) wr HM8.out (Nat.le_refl _) HX.out).mono ?_); rintro e w5 ⟨r5, k5, rfl, ho5, hb5, hi5⟩; rw [← HBE.out, ← HN.out]; rw [← HBE.out, HX.out.len0] at hi5; rw [← HBE.out] at ho5; have HIB := Lib.hid hi5; have HO5 := Lib.hid ho5; have HB5 := Lib.hid hb5; have hq5 := (hb5.cell (p := ⟨b, o, none⟩) hbw).trans hq; have zw5 := hb5.size; clear ho5 hb5 hi5)
      have hRR : Rref p n (c + 1) (at' B) P := by rw [HPE.out, HN.out]; exact HIB.out.pivs
      have HRR := Lib.hid hRR
      have hnc : n ≤ c + 1 := hRR.rows_le
      have HLB : Hid (∀ i, i < n → (rw' B i).length = c + 1) := fun i hi => HIB.out.len i (by rw [← HN.out]; exact hi)
      have HW5 : Hid (Below w.heap.size w w5) := HB.out.trans (HB5.out.mono hwz)
      clear hRR hmk hq hq5
      rename World => w5'
      go_loopw [12] (fun t wr => ∃ j : Nat, j ≤ n ∧ t = .int .i64 j ∧ (∀ i', i' < j → P i' ≠ c) ∧ TagR w5'.heap.size wr.heap.size wr (some ⟨w5'.heap.size, 0, none⟩) (solvec B P c j) ∧ Below w5'.heap.size w5' wr) (fun t _ => n - (intOf t).toNat)
      case atStart => exact ⟨0, Nat.zero_le _, rfl, fun i' h => absurd h (Nat.not_lt_zero _), by rw [solvec_zero]; exact made_tag w5' c _ rfl, balloc w5' _⟩
      case round =>
        obtain ⟨j, hj, rfl, hne, htv, hbv⟩ := hrel
        have HNE := Lib.hid hne
        have HTV := Lib.hid htv
        have HBV := Lib.hid hbv
        have hwv := hbv.size
        clear hne htv hbv
        by_cases hltj : j < n
        · have hj1 : (j : Int) < (n : Int) := by omega
          obtain ⟨bq, oq, rq, cq, haq, _, _, hrq, hrowq⟩ := (HO5.out.below HBV.out (Nat.le_refl _)).row (show j < B.length by rw [← HN.out]; exact hltj)
          subst haq
          have hcl := HLB.out j hltj
          rw [hcl] at hrq
          have HROWQ := Lib.hid hrowq
          have hpf := HPF.out j hltj
          have hpc := HRR.out.pv j hltj
          by_cases hpe : P j = c
          · have HF : Hid (solOk p A v = false) := by
              show _ = _
              rw [HOK.out, isPv_iff.2 ⟨j, hltj, hpe⟩]; rfl
            have HL0 : Hid (solL p A v = []) := by show _ = _; rw [HSL.out, if_neg (by rw [HF.out]; decide)]
            have e1 : ((P j : Int) == (c : Int)) = true := by rw [hpe]; simp
            have HPE2 := Lib.hid hpe
            clear hrowq hpe
            go_wp2_with (go_at_call 70; (with_reducible refine (l02First_any rq (rw' B j) (c + 1) (P j) cq _ _ _ HROWQ.out hcl (by omega) hpf hpc).mono ?_); rintro e w' ⟨rfl, rfl⟩)
            go_ret2
            exact ⟨none, 0, by rw [HF.out, HL0.out]; rfl, by rw [HL0.out]; exact .inl rfl, HW5.out.trans (HBV.out.mono (Nat.le_trans hwz zw5))⟩
          · have e1 : ((P j : Int) == (c : Int)) = false := by simp; omega
            have hpl : P j < c := by omega
            have hpl1 : (P j : Int) < (c : Int) := by omega
            obtain ⟨bx, ox, hax, _, _, hcx0⟩ := hrowq.num (j := c) (by omega)
            subst hax
            obtain ⟨x, hx⟩ : ∃ x, x = at' B j c := ⟨_, rfl⟩
            have hcx : wr.cell? ⟨bx, ox + c, none⟩ = some (.int .i64 x) := by rw [hx]; exact hcx0
            have HST : Hid ((solvec B P c j).set (P j) x = solvec B P c (j + 1)) := by show _ = _; rw [hx]; exact solvec_next HRR.out hltj
            obtain ⟨bv, ov, hav, _, _, hcv⟩ := HTV.out.row.num (j := P j) (by rw [solvec_len]; exact hpl)
            cases hav
            rw [Nat.zero_add] at hcv
            obtain ⟨y, hy⟩ : ∃ y, y = (solvec B P c j).getD (P j) 0 := ⟨_, rfl⟩
            rw [← hy] at hcv
            have hfv : wr.frozen? ⟨w5'.heap.size, P j, none⟩ = false := by
              rcases HTV.out with h | ⟨b', o', cur, e, _, _, ht, _⟩
              · have := solvec_len B P c j; rw [h] at this; simp at this; omega
              · cases e; exact free_of ht _
            have HPN := Lib.hid hpe
            clear hx hy hcx0 hrowq hpe
            go_wp2_with (go_at_call 70; (with_reducible refine (l02First_any _ (rw' B j) (c + 1) (P j) cq _ _ _ HROWQ.out hcl (by omega) hpf hpc).mono ?_); rintro e w' ⟨rfl, rfl⟩)
            go_roundw
            case rel =>
              refine ⟨j + 1, by omega, by go_num, fun i' h => ?_, ?_, Below.setCell HBV.out (Nat.le_refl w5'.heap.size) _⟩
              · by_cases e : i' = j
                · subst e; exact HPN.out
                · exact HNE.out i' (by omega)
              · have h := HTV.out.set (j := P j) (by rw [solvec_len]; exact hpl) x
                rw [HST.out, Nat.zero_add] at h
                exact h.block (Nat.le_refl _) (by simp [World.setCell]) (fun _ _ _ _ _ => rfl)
            case measure => simp [intOf]; omega
        · have hjn : j = n := by omega
          subst hjn
          have HF : Hid (solOk p A v = true) := by
            show _ = _
            rw [HOK.out]
            cases hpv : isPv P j c with
            | false => rfl
            | true => obtain ⟨i', h1, h2⟩ := isPv_iff.1 hpv; exact absurd h2 (HNE.out i' h1)
          have HL0 : Hid (solL p A v = solvec B P c j) := by show _ = _; rw [HSL.out, if_pos HF.out]
          go_wp2
          go_ret2
          exact ⟨some ⟨w5'.heap.size, 0, none⟩, c, by rw [HF.out, HL0.out, solvec_len]; rfl, by rw [HL0.out]; exact HTV.out.row.mono (Nat.le_trans hwz zw5) (Nat.le_refl _), HW5.out.trans (HBV.out.mono (Nat.le_trans hwz zw5))⟩

end Go.Proofs.Ytckpcfhmppdghaa
