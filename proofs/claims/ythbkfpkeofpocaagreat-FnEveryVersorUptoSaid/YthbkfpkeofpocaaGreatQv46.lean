/-
  Laws of versors, the model's side: contracts of the program and of the model.
  Conditions: the lists are nil or rows of known cells, of at most 1048576 numbers.
  What the law on every versor needs to know of a product of vectors. No Go in sight.
  No conditions.
-/
import Derived.Test.YthbkfpkeofpocaaGreatQv39
import Derived.Test.YthbkfpkeofpocaaGreatQv41
import Derived.Test.YthbkfpkeofpocaaGreatQv44
import Derived.Test.YthbkfpkeofpocaaGreatQv45
import Derived.Test.YthbkfpkeofpocaaGreatQv23
namespace Go.Proofs.YthbkfpkeofpocaaGreat
open Go.RowKit
set_option linter.unusedVariables false

set_option maxRecDepth 100000 in
set_option maxHeartbeats 6400000 in
theorem spec_VersorOf (pS : Int) (aS : Option Addr) (S : List Int) (cS loS tpS : Nat) (am : Option Addr) (m : List (List Int)) (cm lom tpm : Nat) (w : World) (hS : RowIn loS tpS w aS S) (tS : tpS ≤ w.heap.size) (sS : S.length ≤ 1048576) (hm : MatIn lom tpm w am m) (tm : tpm ≤ w.heap.size) (sm : m.length + tot m m.length ≤ 1048576) :
    Calls Tryz.prog 7 #[.agg #[.int .i64 pS, .slice aS S.length cS], .slice am m.length cm] w (SpecR (voV pS S m) (voC pS S m) w) := by
  have HS := Lib.hid hS
  have Hm := Lib.hid hm
  have sm1 : m.length ≤ 1048576 := by omega
  have HSR : Hid (∀ i, i < m.length → (rw' m i).length ≤ 1048576) := fun i hi => by have := tot_row hi; omega
  have k0 := nw0 w (.int .i64 pS) (.slice aS S.length cS) 24
  have k1 := nw1 w (.int .i64 pS) (.slice aS S.length cS) 24
  have HB0 := Lib.hid (below_alloc w (.cells #[.int .i64 pS, .slice aS S.length cS] 24))
  clear hS hm
  by_cases hz0 : codeL pS S m = 0
  · have HZ := Lib.hid hz0
    have HI := Lib.hid (codeL_sp7 hz0).1
    have HLB := Lib.hid (codeL_sp7 hz0).2
    have HL := Lib.hid (listB_iff (codeL_sp7 hz0).2)
    have hm16 := HL.out.1
    obtain ⟨D, hD⟩ : ∃ d, d = discN pS S := ⟨_, rfl⟩
    have HDE := Lib.hid hD
    by_cases hd0 : D = 0
    · have HVC : Hid (voV pS S m = [] ∧ voC pS S m = 5) := by
        have e : voC pS S m = 5 := by unfold voC; rw [if_pos hz0, if_pos (by rw [← hD]; exact hd0)]
        exact ⟨by unfold voV; rw [if_neg (by rw [e]; decide)], e⟩
      have hd1_ : (D == 0) = true := by simpa using hd0
      clear hz0 hD hd0
      go_enter Tryz.func7, Tryz.ntmps7
      go_upto_region 1 with fail
      obtain ⟨w1, hw1⟩ : ∃ z, z = w.alloc (.cells #[.int .i64 pS, .slice aS S.length cS] 24) := ⟨_, rfl⟩
      rw [← hw1] at HB0 k0 k1 ⊢
      have hd1 : w.heap.size < w1.heap.size := by rw [hw1]; simp
      have HB1 := HB0
      clear hw1
      have SS1 := Lib.hid (And.intro k0 k1)
      go_wp2_with (first | (go_at_call 22; ((with_reducible refine (l05List_any pS aS S cS loS tpS am m cm lom tpm w1 (HS.out.below HB1.out tS) (Nat.le_trans tS HB1.out.size) sS (Hm.out.below HB1.out tm) (Nat.le_trans tm HB1.out.size) sm1 HSR.out).mono ?_); rintro e w2 ⟨rfl, b_⟩; rw [HZ.out]; have SS2 := Lib.hid (ss2 b_ hd1 SS1.out); have HB2 := Lib.hid (below_step HB1.out HB1.out.size b_); have hd2 := Nat.lt_of_lt_of_le hd1 b_.size; clear k0 k1; obtain ⟨k0, k1⟩ := SS2.out; clear b_)) | (go_at_call 23; ((with_reducible refine (l03Disc_any pS aS S cS loS tpS w2 (HS.out.below HB2.out tS) (Nat.le_trans tS HB2.out.size) HI.out).mono ?_); rintro e w3 ⟨rfl, b_⟩; rw [← HDE.out]; have SS3 := Lib.hid (ss2 b_ hd2 SS2.out); have HB3 := Lib.hid (below_step HB2.out HB2.out.size b_); have hd3 := Nat.lt_of_lt_of_le hd2 b_.size; clear k0 k1; obtain ⟨k0, k1⟩ := SS3.out; clear b_)))
      go_loopw [6, 7] (fun s6 s7 wr => s6 = .int .i64 5 ∧ s7 = .int .i64 0 ∧ Below w.heap.size w wr) (fun _ _ _ => 0)
      case atStart => exact ⟨rfl, rfl, HB3.out⟩
      case round =>
        obtain ⟨rfl, rfl, hbel⟩ := hrel
        have HBR := Lib.hid hbel
        clear hbel
        by_cases hlt : (0 : Int) < (m.length : Int)
        all_goals
          go_wp2
          go_ret2
          rw [HVC.out.1, HVC.out.2]
          exact ⟨none, 0, rfl, .inl rfl, HBR.out⟩
    · have HV5 : Hid (nulB pS S m m.length = true → voV pS S m = [] ∧ voC pS S m = 5) := by
        show _ → _
        intro hn
        have e : voC pS S m = 5 := by unfold voC; rw [if_pos hz0, if_neg (by rw [← hD]; exact hd0), if_pos hn]
        exact ⟨by unfold voV; rw [if_neg (by rw [e]; decide)], e⟩
      have HV0 : Hid (nulB pS S m m.length = false → voV pS S m = vrM pS S m m.length ∧ voC pS S m = 0) := by
        show _ → _
        intro hn
        have e : voC pS S m = 0 := by unfold voC; rw [if_pos hz0, if_neg (by rw [← hD]; exact hd0), if_neg (by rw [hn]; decide)]
        exact ⟨by unfold voV; rw [if_pos e], e⟩
      have hd1_ : (D == 0) = false := by simpa using hd0
      clear hz0 hD hd0
      go_enter Tryz.func7, Tryz.ntmps7
      go_upto_region 1 with fail
      obtain ⟨w1, hw1⟩ : ∃ z, z = w.alloc (.cells #[.int .i64 pS, .slice aS S.length cS] 24) := ⟨_, rfl⟩
      rw [← hw1] at HB0 k0 k1 ⊢
      have hd1 : w.heap.size < w1.heap.size := by rw [hw1]; simp
      have HB1 := HB0
      clear hw1
      have SS1 := Lib.hid (And.intro k0 k1)
      go_wp2_with (first | (go_at_call 22; ((with_reducible refine (l05List_any pS aS S cS loS tpS am m cm lom tpm w1 (HS.out.below HB1.out tS) (Nat.le_trans tS HB1.out.size) sS (Hm.out.below HB1.out tm) (Nat.le_trans tm HB1.out.size) sm1 HSR.out).mono ?_); rintro e w2 ⟨rfl, b_⟩; rw [HZ.out]; have SS2 := Lib.hid (ss2 b_ hd1 SS1.out); have HB2 := Lib.hid (below_step HB1.out HB1.out.size b_); have hd2 := Nat.lt_of_lt_of_le hd1 b_.size; clear k0 k1; obtain ⟨k0, k1⟩ := SS2.out; clear b_)) | (go_at_call 23; ((with_reducible refine (l03Disc_any pS aS S cS loS tpS w2 (HS.out.below HB2.out tS) (Nat.le_trans tS HB2.out.size) HI.out).mono ?_); rintro e w3 ⟨rfl, b_⟩; rw [← HDE.out]; have SS3 := Lib.hid (ss2 b_ hd2 SS2.out); have HB3 := Lib.hid (below_step HB2.out HB2.out.size b_); have hd3 := Nat.lt_of_lt_of_le hd2 b_.size; clear k0 k1; obtain ⟨k0, k1⟩ := SS3.out; clear b_)))
      go_loopw [6, 7] (fun s6 s7 wr => ∃ (k : Nat) (C : Int), k ≤ m.length ∧ s6 = .int .i64 C ∧ s7 = .int .i64 k ∧ ((C = 0 ∧ ∀ j, j < k → pairN pS S (rw' m j) (rw' m j) ≠ 0) ∨ (C = 5 ∧ nulB pS S m m.length = true)) ∧ (wr.cell? ⟨w.heap.size, 0, none⟩ = some (.int .i64 pS) ∧ wr.cell? ⟨w.heap.size, 1, none⟩ = some (.slice aS S.length cS)) ∧ Below w.heap.size w wr ∧ w.heap.size < wr.heap.size) (fun _ t _ => m.length - (intOf t).toNat)
      case atStart => exact ⟨0, 0, Nat.zero_le _, rfl, rfl, .inl ⟨rfl, fun j hj => absurd hj (Nat.not_lt_zero j)⟩, SS3.out, HB3.out, hd3⟩
      case round =>
        obtain ⟨k, C, hk, rfl, rfl, hst, ⟨k0, k1⟩, hbel, hlw⟩ := hrel
        have HB := Lib.hid hbel
        have SSr := Lib.hid (And.intro k0 k1)
        rcases hst with ⟨rfl, hst⟩ | ⟨rfl, hst⟩
        · have HST := Lib.hid hst
          by_cases hlt : k < m.length
          · obtain ⟨b9, o9, rv, cv, ha9, _, hb9, hr9, hrow⟩ := (Hm.out.below hbel tm).row hlt
            subst ha9
            have hwz := hbel.size
            have hi1 : (k : Int) < (m.length : Int) := by omega
            have HVV := Lib.hid (HL.out.2 k hlt)
            have HRV := Lib.hid (hrow.below (below_drew wr) (Nat.le_trans tm hwz))
            have HTV : Hid (tpm ≤ wr.drew.heap.size) := Nat.le_trans tm hwz
            have hxd : b9 < wr.drew.heap.size := Nat.lt_of_lt_of_le hb9 (Nat.le_trans tm hwz)
            have hs1 : Hid (wr.drew.cell? ⟨w.heap.size, 0, none⟩ = some (.int .i64 pS) ∧ wr.drew.cell? ⟨w.heap.size, 1, none⟩ = some (.slice aS S.length cS) ∧ wr.drew.cell? ⟨b9, o9 + k, none⟩ = some (.slice rv (rw' m k).length cv)) := ⟨k0, k1, hr9⟩
            have HBD : Hid (Below w.heap.size w wr.drew) := hbel.drew
            have hdr : w.heap.size < wr.drew.heap.size := hlw
            obtain ⟨N, hN⟩ : ∃ n, n = pairN pS S (rw' m k) (rw' m k) := ⟨_, rfl⟩
            have HNE := Lib.hid hN
            clear hbel hrow hst
            by_cases hn0 : N = 0
            · have hn1 : (N == 0) = true := by simpa using hn0
              have HN5 : Hid (nulB pS S m m.length = true) := nulB_yes hlt (by rw [← hN]; exact hn0)
              clear hN hn0
              go_wp2
              go_region_held3 (fun w' => w'.cell? ⟨w.heap.size, 0, none⟩ = some (.int .i64 pS) ∧ w'.cell? ⟨w.heap.size, 1, none⟩ = some (.slice aS S.length cS) ∧ w'.cell? ⟨b9, o9 + k, none⟩ = some (.slice rv (rw' m k).length cv)) (first | exact hs1.out | exact SSa.out | go_keep) (first | (go_at_call 24; (with_reducible refine (l03Pair_any pS aS S cS loS tpS rv (rw' m k) cv lom tpm rv (rw' m k) cv lom tpm wr.drew (HS.out.below HBD.out tS) (Nat.le_trans tS (HBD.out).size) HRV.out HTV.out HRV.out HTV.out HI.out HVV.out HVV.out).mono ?_); rintro e wa ⟨rfl, b_⟩; rw [← HNE.out]; have SSa := Lib.hid (ss3 b_ hdr hxd hs1.out); have hxa := Nat.lt_of_lt_of_le hxd b_.size; have HBa := Lib.hid (below_step HBD.out (Nat.le_of_lt hdr) b_); have zz_ := b_.size; have hda := Nat.lt_of_lt_of_le hdr zz_; clear b_))
              go_wp2
              go_roundw
              case rel => exact ⟨k + 1, 5, by omega, rfl, by go_num, .inr ⟨rfl, HN5.out⟩, ⟨SSa.out.1, SSa.out.2.1⟩, HBa.out, hda⟩
              case measure => simp [intOf]; omega
            · have hn1 : (N == 0) = false := by simpa using hn0
              have HN5 : Hid (∀ j, j < k + 1 → pairN pS S (rw' m j) (rw' m j) ≠ 0) := fun j hj => by
                by_cases e : j = k
                · rw [e, ← hN]; exact hn0
                · exact HST.out j (by omega)
              clear hN hn0
              go_wp2
              go_region_held3 (fun w' => w'.cell? ⟨w.heap.size, 0, none⟩ = some (.int .i64 pS) ∧ w'.cell? ⟨w.heap.size, 1, none⟩ = some (.slice aS S.length cS) ∧ w'.cell? ⟨b9, o9 + k, none⟩ = some (.slice rv (rw' m k).length cv)) (first | exact hs1.out | exact SSa.out | go_keep) (first | (go_at_call 24; (with_reducible refine (l03Pair_any pS aS S cS loS tpS rv (rw' m k) cv lom tpm rv (rw' m k) cv lom tpm wr.drew (HS.out.below HBD.out tS) (Nat.le_trans tS (HBD.out).size) HRV.out HTV.out HRV.out HTV.out HI.out HVV.out HVV.out).mono ?_); rintro e wa ⟨rfl, b_⟩; rw [← HNE.out]; have SSa := Lib.hid (ss3 b_ hdr hxd hs1.out); have hxa := Nat.lt_of_lt_of_le hxd b_.size; have HBa := Lib.hid (below_step HBD.out (Nat.le_of_lt hdr) b_); have zz_ := b_.size; have hda := Nat.lt_of_lt_of_le hdr zz_; clear b_))
              go_wp2
              go_roundw
              case rel => exact ⟨k + 1, 0, by omega, rfl, by go_num, .inl ⟨rfl, HN5.out⟩, ⟨SSa.out.1, SSa.out.2.1⟩, HBa.out, hda⟩
              case measure => simp [intOf]; omega
          · have hkn : k = m.length := by omega
            subst hkn
            have HVC := Lib.hid (HV0.out (nulB_no hst))
            clear hbel hst
            go_wp2_with (go_at_call 25; ((with_reducible refine (l07Versor_own pS aS S cS loS tpS am m cm lom tpm wr HI.out (HS.out.below HB.out tS) (Nat.le_trans tS HB.out.size) (Hm.out.below HB.out tm) (Nat.le_trans tm HB.out.size) HLB.out).mono ?_); rintro e wz ⟨r, c, rfl, o_, b_⟩; have RR := Lib.hid (OwnR.mono' o_ (Nat.le_of_lt hlw) (Nat.le_refl _)); have HBz := Lib.hid (below_step HB.out HB.out.size b_); clear o_ b_))
            go_ret2
            rw [HVC.out.1, HVC.out.2]
            exact ⟨r, c, rfl, RR.out.row, HBz.out⟩
        · have HVC := Lib.hid (HV5.out hst)
          clear hbel hst
          by_cases hlt : (k : Int) < (m.length : Int)
          all_goals
            go_wp2
            go_ret2
            rw [HVC.out.1, HVC.out.2]
            exact ⟨none, 0, rfl, .inl rfl, HB.out⟩
  · have HVC : Hid (voV pS S m = [] ∧ voC pS S m = codeL pS S m) := by
      have e : voC pS S m = codeL pS S m := by unfold voC; rw [if_neg hz0]
      exact ⟨by unfold voV; rw [if_neg (by rw [e]; exact hz0)], e⟩
    obtain ⟨C, hC⟩ : ∃ c, c = codeL pS S m := ⟨_, rfl⟩
    have hc1 : (C != 0) = true := by rw [hC]; simpa using hz0
    have hc2 : (C == 0) = false := by rw [hC]; simpa using hz0
    have HCE := Lib.hid hC
    clear hz0 hC
    go_enter Tryz.func7, Tryz.ntmps7
    go_upto_region 1 with fail
    obtain ⟨w1, hw1⟩ : ∃ z, z = w.alloc (.cells #[.int .i64 pS, .slice aS S.length cS] 24) := ⟨_, rfl⟩
    rw [← hw1] at HB0 k0 k1 ⊢
    have hd1 : w.heap.size < w1.heap.size := by rw [hw1]; simp
    have HB1 := HB0
    clear hw1
    have SS1 := Lib.hid (And.intro k0 k1)
    go_wp2_with (go_at_call 22; ((with_reducible refine (l05List_any pS aS S cS loS tpS am m cm lom tpm w1 (HS.out.below HB1.out tS) (Nat.le_trans tS HB1.out.size) sS (Hm.out.below HB1.out tm) (Nat.le_trans tm HB1.out.size) sm1 HSR.out).mono ?_); rintro e w2 ⟨rfl, b_⟩; rw [← HCE.out]; have SS2 := Lib.hid (ss2 b_ hd1 SS1.out); have HB2 := Lib.hid (below_step HB1.out HB1.out.size b_); have hd2 := Nat.lt_of_lt_of_le hd1 b_.size; clear k0 k1; obtain ⟨k0, k1⟩ := SS2.out; clear b_))
    go_loopw [6, 7] (fun s6 s7 wr => s6 = .int .i64 C ∧ s7 = .int .i64 0 ∧ Below w.heap.size w wr) (fun _ _ _ => 0)
    case atStart => exact ⟨rfl, rfl, HB2.out⟩
    case round =>
      obtain ⟨rfl, rfl, hbel⟩ := hrel
      have HBR := Lib.hid hbel
      clear hbel
      by_cases hlt : (0 : Int) < (m.length : Int)
      all_goals
        go_wp2
        go_ret2
        rw [HVC.out.1, HVC.out.2, ← HCE.out]
        exact ⟨none, 0, rfl, .inl rfl, HBR.out⟩

end Go.Proofs.YthbkfpkeofpocaaGreat

namespace Go.Proofs.YthbkfpkeofpocaaGreat
set_option linter.unusedVariables false

theorem nz_some {p : Int} {S y : List Int} {i : List Int} (hy : y.length = bl S) (h : prodM p S y i = mOne S) (hn : ∀ j, j < y.length → 0 ≤ y.getD j 0 ∧ y.getD j 0 < p) : ∃ j, j < y.length ∧ y.getD j 0 ≠ 0 := by
  refine Classical.byContradiction fun hne => ?_
  have hall : ∀ j, j < y.length → y.getD j 0 = 0 := fun j hj => Classical.byContradiction fun k => hne ⟨j, hj, k⟩
  have e : y = sclV p y 0 := row_ext (by rw [sclV_len]) fun j hj => by
    unfold sclV
    rw [mkR_at _ hj, Int.mul_zero, Int.zero_emod, hall j hj]
  rw [e, prod_scl_l _ _ _ _ _ hy] at h
  have q := congrArg (fun x => x.getD 0 0) h
  have hb : 0 < bl S := Nat.two_pow_pos _
  have e1 : (mOne S).getD 0 0 = 1 := by unfold mOne; rw [mkR_at _ hb]; rfl
  have e2 : ∀ w : List Int, w.length = bl S → (sclV p w 0).getD 0 0 = 0 := fun w hw => by unfold sclV; rw [mkR_at _ (by rw [hw]; exact hb), Int.mul_zero, Int.zero_emod]
  rw [e2 _ (prodM_len _ _ _ _), e1] at q
  cases q
theorem div_back {p y c : Int} (hp : prm p = true) (y0 : 0 ≤ y) (y1 : y < p) (c0 : 0 ≤ c) (c1 : c < p) (hy : y ≠ 0) : divV p (y * c % p) y = c ∧ divC p (y * c % p) y = 0 := by
  have hb := prm_bd hp
  have h0 : 0 ≤ y * c % p := Int.emod_nonneg _ (by omega)
  have h1 : y * c % p < p := Int.emod_lt_of_pos _ (by omega)
  have hc : codeOf p [y * c % p, y] = 0 := by
    rcases code_two p (y * c % p) y with ⟨hc, _⟩ | ⟨_, hq⟩ | ⟨_, _, hn⟩
    · exact hc
    · rw [hp] at hq; cases hq
    · exact absurd ⟨⟨h0, h1⟩, y0, y1⟩ hn
  have h2 := every2_at (Q := fun p y c => decide (y ≠ 0 → (y * c % p) * inv p y % p = c)) (by decide +kernel) hp y0 y1 c0 c1
  simp only [decide_eq_true_eq] at h2
  have h3 := div_ok hc hy
  exact ⟨by rw [h3.1]; exact h2 hy, h3.2⟩
theorem vo_zero {p : Int} {S : List Int} {L : List (List Int)} (h : voC p S L = 0) : isSp p S = true ∧ discN p S ≠ 0 ∧ (∀ j, j < L.length → isVec p S.length (rw' L j) = true) ∧ ∀ j, j < L.length → pairN p S (rw' L j) (rw' L j) ≠ 0 := by
  unfold voC at h
  split at h
  · rename_i hc
    split at h
    · cases h
    · rename_i hd
      split at h
      · cases h
      · rename_i hn
        rcases codeL_cases p S L with ⟨_, q⟩ | ⟨hs, hl, _⟩ | ⟨_, _, q⟩
        · rw [q] at hc; cases hc
        · refine ⟨hs, hd, (listB_iff hl).2, fun j hj e => hn (nulB_yes hj e)⟩
        · rw [q] at hc; cases hc
  · rename_i hc; exact absurd h hc
/-- All that the law asks. -/
structure EvF (p : Int) (S : List Int) (L : List (List Int)) (x y : List Int) (M : List (List Int)) (c : Int) : Prop where
  sp : isSp p S = true
  vo : voV p S L = x
  vr : vrC p S x = 0
  mv : mvV p S x = M
  rg : regC p S [] = 0
  ort : orV p S M = true
  co : coC p S M = 0
  vm : voM p S M = y
  len : y.length = x.length
  szx : x.length ≤ 1048576
  szm : M.length + tot M M.length ≤ 1048576
  ymv : isMv p S y = true
  some : ∃ j, j < y.length ∧ y.getD j 0 ≠ 0
  c0 : 0 ≤ c
  c1 : c < p
  cn : c ≠ 0
  eq : x = sclV p y c
  sc : sclMC p S y c = 0 ∧ sclMV p S y c = x
theorem ev_main {p : Int} {S : List Int} {L : List (List Int)} (h : voC p S L = 0) : ∃ x y M c, EvF p S L x y M c := by
  obtain ⟨hs, hd, hm, hn⟩ := vo_zero h
  have hp := (isSp_iff.1 hs).prime
  obtain ⟨e1, e2, c, c0, c1, cn, e3⟩ := vr_orth hs hd hm hn
  have hreg : regC p S [] = 0 := by rw [regC_nil hs, if_neg hd]
  have hco := coC_yes hreg e2
  have hok := (dec_ok hs hd e2).1
  have hy := vr_mv hs (decL p S (mvV p S (vrM p S L L.length))) (decL p S (mvV p S (vrM p S L L.length))).length
  have hyi := vi_vr hs (fun j hj => (hok _ (mem_of hj)).1) (fun j hj => (hok _ (mem_of hj)).2)
  have hsc : sclMC p S (vrM p S (decL p S (mvV p S (vrM p S L L.length))) (decL p S (mvV p S (vrM p S L L.length))).length) c = 0 := by
    unfold sclMC
    rw [if_pos (codeMv_zero.2 ⟨hs, by simp [hy]⟩), if_pos ⟨c0, c1⟩]
  have h6 := (isSp_iff.1 hs).hi
  exact ⟨vrM p S L L.length, _, mvV p S (vrM p S L L.length), c, hs, by unfold voV; rw [if_pos h], e1, rfl, hreg, by rw [orV_reg hreg]; exact e2, hco, by unfold voM; rw [if_pos hco], by rw [vr_len, vr_len], by rw [vr_len]; exact Nat.le_trans (Nat.pow_le_pow_right (by decide) h6) (by decide), mvV_size _ _ _, hy, nz_some (Mv.len hy) hyi (Mv.num hy), c0, c1, cn, e3, hsc, by unfold sclMV; rw [if_pos hsc]; exact e3.symm⟩
theorem EvF.div {p : Int} {S : List Int} {L : List (List Int)} {x y : List Int} {M : List (List Int)} {c : Int} (h : EvF p S L x y M c) {j : Nat} (hj : j < y.length) (hn : y.getD j 0 ≠ 0) : divV p (x.getD j 0) (y.getD j 0) = c ∧ divC p (x.getD j 0) (y.getD j 0) = 0 := by
  have e : x.getD j 0 = y.getD j 0 * c % p := by
    rw [h.eq]; unfold sclV; exact mkR_at _ hj
  rw [e]
  exact div_back (isSp_iff.1 h.sp).prime (Mv.num h.ymv j hj).1 (Mv.num h.ymv j hj).2 h.c0 h.c1 hn

end Go.Proofs.YthbkfpkeofpocaaGreat
