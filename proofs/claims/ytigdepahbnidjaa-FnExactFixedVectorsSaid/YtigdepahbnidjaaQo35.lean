/-
  Lists of rows whose headers may be written to: new matrices, unit matrices, turned ones.
  Conditions: at least one column, at most 1024 rows and columns.
  The model's sandwiches and reflections, with the type of their block: contracts of the program and of the model.
  Conditions: the lists are nil or rows of known cells, of at most 1048576 numbers.
  The program's kernel: the walk.
  Conditions: the matrix is a row of rows of known cells with numbers of the prime.
-/
import Derived.Test.YtigdepahbnidjaaQo7
import Derived.Test.YtigdepahbnidjaaQo12
import Derived.Test.YtigdepahbnidjaaQo9
import Derived.Test.YtigdepahbnidjaaQo32
import Derived.Test.YtigdepahbnidjaaQo16
import Derived.Test.YtigdepahbnidjaaQo11
import Derived.Deep.RegionHeld3
import Derived.Deep.DeepCutAuto
import Derived.Test.YtigdepahbnidjaaQo30
import Derived.Test.YtigdepahbnidjaaQo21
namespace Go.Proofs.Ytigdepahbnidjaa
open Go.RowKit
set_option linter.unusedVariables false

/-- A row that lies in another block than b. -/
def RowX (lo tp b : Nat) (w : World) (a : Option Addr) (zs : List Int) : Prop :=
  zs = [] ∨ ∃ b' o : Nat, a = some ⟨b', o, none⟩ ∧ lo ≤ b' ∧ b' < tp ∧ b' ≠ b ∧ ∀ j, j < zs.length → w.cell? ⟨b', o + j, none⟩ = some (.int .i64 (zs.getD j 0))
theorem RowX.row {lo tp b : Nat} {w : World} {a : Option Addr} {zs : List Int} (h : RowX lo tp b w a zs) : RowIn lo tp w a zs := by
  rcases h with h | ⟨b', o, e, h0, h1, _, h3⟩
  · exact .inl h
  · exact .inr ⟨b', o, e, h0, h1, h3⟩
theorem RowX.of {lo lo' tp b : Nat} {w : World} {a : Option Addr} {zs : List Int} (h : RowIn lo tp w a zs) (hb : b < lo) (hl : lo' ≤ lo) : RowX lo' tp b w a zs := by
  rcases h with h | ⟨b', o, e, h0, h1, h3⟩
  · exact .inl h
  · exact .inr ⟨b', o, e, Nat.le_trans hl h0, h1, by omega, h3⟩
theorem RowX.below {lo tp b B : Nat} {w w' : World} {a : Option Addr} {zs : List Int} (h : RowX lo tp b w a zs) (hb : Below B w w') (ht : tp ≤ B) : RowX lo tp b w' a zs := by
  rcases h with h | ⟨b', o, e, h0, h1, h2, h3⟩
  · exact .inl h
  · exact .inr ⟨b', o, e, h0, h1, h2, fun j hj => (hb.cell (p := ⟨b', o + j, none⟩) (Nat.lt_of_lt_of_le h1 ht)).trans (h3 j hj)⟩
theorem RowX.mono {lo lo' tp tp' b : Nat} {w : World} {a : Option Addr} {zs : List Int} (h : RowX lo tp b w a zs) (hl : lo' ≤ lo) (ht : tp ≤ tp') : RowX lo' tp' b w a zs := by
  rcases h with h | ⟨b', o, e, h0, h1, h2, h3⟩
  · exact .inl h
  · exact .inr ⟨b', o, e, Nat.le_trans hl h0, Nat.lt_of_lt_of_le h1 ht, h2, h3⟩
theorem RowX.put {lo tp b i : Nat} {w : World} {a : Option Addr} {zs : List Int} {v : Value} (h : RowX lo tp b w a zs) : RowX lo tp b (w.setCell ⟨b, i, none⟩ v) a zs := by
  rcases h with h | ⟨b', o, e, h0, h1, h2, h3⟩
  · exact .inl h
  · exact .inr ⟨b', o, e, h0, h1, h2, fun j hj => (World.cell?_setCell_other _ _ _ _ (fun e => h2 (by injection e with e1; exact e1.symm))).trans (h3 j hj)⟩
/-- The headers lie in block b from o on and may be written to; the rows lie in other blocks from lo on. -/
structure TopX (lo : Nat) (w : World) (b o : Nat) (m : List (List Int)) : Prop where
  lob : lo ≤ b
  hib : b < w.heap.size
  free : ∀ j, w.frozen? ⟨b, j, none⟩ = false
  row : ∀ i, i < m.length → ∃ r c, w.cell? ⟨b, o + i, none⟩ = some (.slice r (rw' m i).length c) ∧ RowX lo w.heap.size b w r (rw' m i)
theorem TopX.below {lo b o : Nat} {w w' : World} {m : List (List Int)} (h : TopX lo w b o m) (hb : Below w.heap.size w w') : TopX lo w' b o m where
  lob := h.lob
  hib := Nat.lt_of_lt_of_le h.hib hb.size
  free j := (hb.frozen (p := ⟨b, j, none⟩) h.hib).trans (h.free j)
  row i hi := by
    obtain ⟨r, c, h1, h2⟩ := h.row i hi
    exact ⟨r, c, (hb.cell (p := ⟨b, o + i, none⟩) h.hib).trans h1, (h2.below hb (Nat.le_refl _)).mono (Nat.le_refl _) hb.size⟩
theorem TopX.mono {lo lo' b o : Nat} {w : World} {m : List (List Int)} (h : TopX lo w b o m) (hl : lo' ≤ lo) : TopX lo' w b o m where
  lob := Nat.le_trans hl h.lob
  hib := h.hib
  free := h.free
  row i hi := by
    obtain ⟨r, c, h1, h2⟩ := h.row i hi
    exact ⟨r, c, h1, h2.mono hl (Nat.le_refl _)⟩
theorem TopX.mat {lo b o : Nat} {w : World} {m : List (List Int)} (h : TopX lo w b o m) : MatIn lo w.heap.size w (some ⟨b, o, none⟩) m :=
  .inr ⟨b, o, rfl, h.lob, h.hib, fun i hi => by
    obtain ⟨r, c, h1, h2⟩ := h.row i hi
    exact ⟨r, c, h1, h2.row⟩⟩
theorem rw_setX {m : List (List Int)} {i j : Nat} (z : List Int) (hi : i < m.length) : rw' (m.set i z) j = if j = i then z else rw' m j := by
  simp only [rw', List.getD_eq_getElem?_getD, List.getElem?_set]
  by_cases e : j = i
  · subst e; simp [hi]
  · rw [if_neg (fun h => e h.symm), if_neg e]
/-- Another row is put in the place of row i. -/
theorem TopX.set {lo b o i : Nat} {w : World} {m : List (List Int)} {r : Option Addr} {z : List Int} {c : Nat} (h : TopX lo w b o m) (hi : i < m.length) (hz : RowX lo w.heap.size b w r z) :
    TopX lo (w.setCell ⟨b, o + i, none⟩ (.slice r z.length c)) b o (m.set i z) := by
  have hsz : (w.setCell ⟨b, o + i, none⟩ (.slice r z.length c)).heap.size = w.heap.size := by simp [World.setCell]
  obtain ⟨r0, c0, g0, _⟩ := h.row i hi
  refine ⟨h.lob, by rw [hsz]; exact h.hib, fun j => by simp [go_sem, h.free], fun j hj => ?_⟩
  rw [List.length_set] at hj
  rw [rw_setX z hi, hsz]
  by_cases e : j = i
  · subst e
    rw [if_pos rfl]
    exact ⟨r, c, World.cell?_setCell_same w _ _ g0, hz.put⟩
  · rw [if_neg e]
    obtain ⟨r1, c1, g1, g2⟩ := h.row j hj
    exact ⟨r1, c1, (World.cell?_setCell_other _ _ _ _ (fun e2 => e (by injection e2 with _ e3; omega))).trans g1, g2.put⟩
end Go.Proofs.Ytigdepahbnidjaa

namespace Go.Proofs.Ytigdepahbnidjaa
open Go.RowKit
set_option linter.unusedVariables false

theorem TagR.low {lo lo' tp : Nat} {w : World} {a : Option Addr} {z : List Int} (h : TagR lo tp w a z) (hl : lo' ≤ lo) : TagR lo' tp w a z := h.block hl (Nat.le_refl _) (fun _ _ _ _ _ => rfl)
end Go.Proofs.Ytigdepahbnidjaa

namespace Go.Proofs.Ytigdepahbnidjaa
open Go.RowKit
set_option linter.unusedVariables false

def OwnK (m : List (List Int)) (w : World) (e : Ending) (w' : World) : Prop :=
  ∃ r k, e = .returned (.slice r m.length k) ∧ OwnM w.heap.size w'.heap.size w' r m ∧ Below w.heap.size w w'

set_option maxRecDepth 100000 in
set_option maxHeartbeats 6400000 in
theorem kernelOf_any (p : Int) (a : Option Addr) (A : List (List Int)) (ca lo tp : Nat) (w : World) (hm : MatIn lo tp w a A) (ht : tp ≤ w.heap.size) (hA : RowsW p A) :
    Calls Try.prog 81 #[.int .i64 p, .slice a A.length ca] w (OwnK (kerB p A) w) := by
  obtain ⟨i0, hi, hz0, hz1, hz2⟩ := info_parts info64
  obtain ⟨j0, kj, kz0, kz1, kz2⟩ := info_parts info_slice
  have hpb := prm_bd hA.prime
  have HP := Lib.hid hA.prime
  have HM := Lib.hid hm
  have HA := Lib.hid hA
  have HKL := Lib.hid (kerP_lstW hA)
  have hA0 : 0 < A.length := hA.lo
  obtain ⟨b, o, r0, c0, ha, _, hb, hr0, _⟩ := HM.out.row (i := 0) hA.lo
  subst ha
  rw [Nat.add_zero] at hr0
  have c1 := hA.c0
  have c16 := hA.c1
  obtain ⟨KP, hKP⟩ : ∃ x, x = kerP p A := ⟨_, rfl⟩
  have HKP : Hid (KP = kerN p (bas p A) (pvs (bas p A)) (rw' A 0).length (bas p A).length (rw' A 0).length) := hKP
  have HKB : Hid (kerB p A = bas p KP) := by show _ = _; rw [hKP]; rfl
  rw [← hKP] at HKL
  obtain ⟨c, hcc⟩ : ∃ c, c = (rw' A 0).length := ⟨_, rfl⟩
  rw [← hcc] at hr0 c1 c16 HKP
  have HCC := Lib.hid hcc
  have hb' : b < w.heap.size := Nat.lt_of_lt_of_le hb ht
  obtain ⟨B, hB⟩ : ∃ B, B = bas p A := ⟨_, rfl⟩
  rw [← hB] at HKP
  have HBE := Lib.hid hB
  obtain ⟨n, hn⟩ : ∃ n, n = B.length := ⟨_, rfl⟩
  rw [← hn] at HKP
  have HN := Lib.hid hn
  obtain ⟨P, hP⟩ : ∃ P, P = pvs B := ⟨_, rfl⟩
  rw [← hP] at HKP
  have HPE := Lib.hid hP
  have fv := field_ech
  have hmk := fun W => run_make_row' (P := Try.prog) 22 2 (.int .i64 0) 8 Try.underlying22 info64 rfl .i64 .i64 c (by omega) (by omega) W
  have HMK := Lib.hid hmk
  rw [HKB.out]
  clear hm hA hKP hcc hB hn hP hmk
  go_enter Try.func81, Try.ntmps81
  go_wp2_with (go_at_call 66; (with_reducible refine (elimK p _ A _ lo tp _ HM.out ht HA.out).mono ?_); rintro e w2 ⟨ar, cr, ap, cp, dd, rfl, ho2, hp2, hi2, hb2⟩; rw [← HBE.out, ← HN.out]; rw [← HBE.out, ← HCC.out] at hi2; rw [← HBE.out] at ho2; rw [← HBE.out, ← HN.out, ← HPE.out] at hp2; have HIB := Lib.hid hi2; have HO2 := Lib.hid ho2.mat; have HP2 := Lib.hid hp2; have HB2 := Lib.hid hb2; have hr0' := (hb2.cell (p := ⟨b, o, none⟩) hb').trans hr0; have zw2 := hb2.size; have hr3 := ((balloc w2 (.cells #[.slice ar n cr, .slice ap n cp, .int .i64 dd] 78)).cell (p := ⟨b, o, none⟩) (Nat.lt_of_lt_of_le hb' zw2)).trans hr0'; clear ho2 hb2 hi2 hp2 hr0')
  have hRR : Rref p n c (at' B) P := by rw [HPE.out, HN.out]; exact HIB.out.pivs
  have HRR := Lib.hid hRR
  have hnc : n ≤ c := hRR.rows_le
  have HLB : Hid (∀ i, i < n → (rw' B i).length = c) := fun i hi => HIB.out.len i (by rw [← HN.out]; exact hi)
  have HB3 := Lib.hid (balloc w2 (.cells #[.slice ar n cr, .slice ap n cp, .int .i64 dd] 78))
  have HK0 := Lib.hid (cel3_new w2 (.slice ar n cr) (.slice ap n cp) (.int .i64 dd) 78).c0
  have HK1 := Lib.hid (cel3_new w2 (.slice ar n cr) (.slice ap n cp) (.int .i64 dd) 78).c1
  have hz3 : w2.heap.size < (w2.alloc (.cells #[.slice ar n cr, .slice ap n cp, .int .i64 dd] 78)).heap.size := by simp
  obtain ⟨w3, hw3⟩ : ∃ z, z = w2.alloc (.cells #[.slice ar n cr, .slice ap n cp, .int .i64 dd] 78) := ⟨_, rfl⟩
  rw [← hw3] at HB3 HK0 HK1 hz3 hr3
  rw [← hw3]
  clear hRR hw3 hr0
  go_loopw [6, 18] (fun v t wr => ∃ k : Nat, k ≤ c ∧ t = .int .i64 k ∧ OutM w3.heap.size wr v (kerN p B P c n k) ∧ Below w3.heap.size w3 wr) (fun _ t _ => c - (intOf t).toNat)
  case atStart => exact ⟨0, Nat.zero_le _, rfl, ⟨[], ⟨rfl, .inl ⟨rfl, rfl⟩⟩, fun i hi => absurd hi (Nat.not_lt_zero i)⟩, Below.refl _ _⟩
  case round =>
    obtain ⟨k, hk, rfl, ho, hbel⟩ := hrel
    have HO := Lib.hid ho
    have HBEL := Lib.hid hbel
    have hwz := hbel.size
    have k0 := (hbel.cell (p := ⟨w2.heap.size, 0, none⟩) hz3).trans HK0.out
    have k1 := (hbel.cell (p := ⟨w2.heap.size, 1, none⟩) hz3).trans HK1.out
    have hr := (hbel.cell (p := ⟨b, o, none⟩) (show b < w3.heap.size by omega)).trans hr3
    have HB3k : Hid (Below w2.heap.size w2 wr) := HB3.out.trans (hbel.mono (by omega))
    rename World => wk
    clear ho hbel
    by_cases hlt : k < c
    · have hk1 : (k : Int) < (c : Int) := by omega
      cases hpv : isPv P n k with
      | true =>
        have HPV : Hid ((pvL P n).any (· == (k : Int)) = true) := by show _ = _; rw [pvL_any]; exact hpv
        have HE := Lib.hid (kerN_pv (p := p) (B := B) (c := c) hpv)
        clear hpv
        go_wp2_with (go_at_call 118; (with_reducible refine (containsI_any ap (pvL P n) k n _ _ _ _ (HP2.out.below HB3k.out (Nat.le_refl _)) (pvL_len _ _) (by omega)).mono ?_); rintro e w' ⟨rfl, rfl⟩; rw [HPV.out])
        go_roundw
        case rel => exact ⟨k + 1, by omega, by go_num, by rw [HE.out]; exact HO.out, HBEL.out⟩
        case measure => simp [intOf]; omega
      | false =>
        have HPV : Hid ((pvL P n).any (· == (k : Int)) = false) := by show _ = _; rw [pvL_any]; exact hpv
        have HE := Lib.hid (kerN_no (p := p) (B := B) (c := c) hpv)
        have HNP : Hid (∀ i, i < n → P i ≠ k) := fun i hi => isPv_no hpv hi
        have g0 := made_cell wk (.int .i64 0) c 2 hlt
        have f0 : (wk.alloc (.cells (madeCells #[.int .i64 0] c) 2)).frozen? ⟨wk.heap.size, k, none⟩ = false := by simp [go_sem]
        have HT := Lib.hid (unit_tag wk hlt)
        have hmk := HMK.out
        have k1u := ((balloc wk (.cells ((madeCells #[.int .i64 0] c).setIfInBounds k (.int .i64 1)) 2)).cell (p := ⟨w2.heap.size, 1, none⟩) (show w2.heap.size < wk.heap.size by omega)).trans k1
        clear hpv
        go_wp2_with (go_at_call 118; (with_reducible refine (containsI_any ap (pvL P n) k n _ _ _ _ (HP2.out.below HB3k.out (Nat.le_refl _)) (pvL_len _ _) (by omega)).mono ?_); rintro e w' ⟨rfl, rfl⟩; rw [HPV.out])
        clear hmk g0 f0 k0 k1 k1u
        go_loopw [36] (fun t wr => ∃ j : Nat, j ≤ n ∧ t = .int .i64 j ∧ TagR wk.heap.size wr.heap.size wr (some ⟨wk.heap.size, 0, none⟩) (kvec p B P c j k) ∧ Below wk.heap.size wk wr) (fun t _ => n - (intOf t).toNat)
        case atStart => exact ⟨0, Nat.zero_le _, rfl, by rw [← kvec_unit (by omega)]; exact HT.out, by ((repeat' (first | with_reducible exact Below.refl _ _ | (with_reducible refine Below.setCell ?_ ?_ _) | (with_reducible refine Below.alloc ?_ ?_ _) | (with_reducible refine Below.drew ?_))); all_goals (first | (simp; done) | omega | (simp; omega)))⟩
        case round =>
          obtain ⟨j, hj, rfl, htv, hbv⟩ := hrel
          have HTV := Lib.hid htv
          have HBV := Lib.hid hbv
          have hwv := hbv.size
          have HBW : Hid (Below w2.heap.size w2 wr) := HB3k.out.trans (hbv.mono (by omega))
          have k0 := (hbv.cell (p := ⟨w2.heap.size, 0, none⟩) (show w2.heap.size < wk.heap.size by omega)).trans ((HBEL.out.cell (p := ⟨w2.heap.size, 0, none⟩) hz3).trans HK0.out)
          clear htv hbv
          by_cases hltj : j < n
          · have hj1 : (j : Int) < (n : Int) := by omega
            obtain ⟨bp, op, hap, _, _, hcp⟩ := (HP2.out.below HBW.out (Nat.le_refl _)).num (j := j) (by rw [pvL_len]; exact hltj)
            subst hap
            rw [pvL_at hltj] at hcp
            obtain ⟨bq, oq, rq, cq, haq, _, _, hrq, hrowq⟩ := (HO2.out.below HBW.out (Nat.le_refl _)).row (show j < B.length by rw [← HN.out]; exact hltj)
            subst haq
            have hcl := HLB.out j hltj
            rw [hcl] at hrq
            obtain ⟨bx, ox, hax, _, _, hcx0⟩ := hrowq.num (j := k) (by omega)
            subst hax
            obtain ⟨x0, x1⟩ := HRR.out.rng j hltj k hlt
            obtain ⟨x, hx⟩ : ∃ x, x = at' B j k := ⟨_, rfl⟩
            have hcx : wr.cell? ⟨bx, ox + k, none⟩ = some (.int .i64 x) := by rw [hx]; exact hcx0
            rw [← hx] at x0 x1
            have HST : Hid ((kvec p B P c j k).set (P j) (-x % p) = kvec p B P c (j + 1) k) := by
              show _ = _
              rw [hx, ← neg_mod]
              exact kvec_next HRR.out hltj (HNP.out j hltj)
            have hpc := HRR.out.pv j hltj
            have hpc1 : (P j : Int) < (c : Int) := by omega
            obtain ⟨bv, ov, hav, _, _, hcv⟩ := HTV.out.row.num (j := P j) (by rw [kvec_len]; exact hpc)
            cases hav
            rw [Nat.zero_add] at hcv
            obtain ⟨y, hy⟩ : ∃ y, y = (kvec p B P c j k).getD (P j) 0 := ⟨_, rfl⟩
            rw [← hy] at hcv
            have hfv : wr.frozen? ⟨wk.heap.size, P j, none⟩ = false := by
              rcases HTV.out with h | ⟨b', o', cur, e, _, _, ht, _⟩
              · have := kvec_len p B P c j k; rw [h] at this; simp at this; omega
              · cases e; exact free_of ht _
            clear hx hy hcx0 hrowq hcl
            go_wp2_with (go_at_call 119; (with_reducible refine (opposite_any p x _ HP.out x0 x1).mono ?_); rintro e w' ⟨rfl, rfl⟩)
            go_roundw
            case rel =>
              refine ⟨j + 1, by omega, by go_num, ?_, Below.setCell HBV.out (Nat.le_refl wk.heap.size) _⟩
              have h := HTV.out.set (j := P j) (by rw [kvec_len]; exact hpc) (-x % p)
              rw [HST.out, Nat.zero_add] at h
              exact h.block (Nat.le_refl _) (by simp [World.setCell]) (fun _ _ _ _ _ => rfl)
            case measure => simp [intOf]; omega
          · have hji : j = n := by omega
            subst hji
            obtain ⟨vals, hvo, hvr⟩ := HO.out
            have hkb := kerN_len p B P c j k
            obtain ⟨kl, hkl⟩ : ∃ x, x = (kerN p B P c j k).length := ⟨_, rfl⟩
            rw [← hkl] at hvo hvr hkb
            have HKN := Lib.hid hkl
            have HV := Lib.hid hvo
            have HVR := Lib.hid hvr
            have HVW := Lib.hid (hvo.kept (below_grown HBV.out) (by cases hv : Value.ownBlock u6 <;> simp))
            clear hvo hvr hkl
            go_wp2_with (at_builtin; refine wpList_append_lies _ rfl _ _ 25 rfl w3.heap.size 22 j0 (.slice none 0 0) 1 24 Try.underlying25 kj kz0 kz1 kz2 rfl (by decide) u6 kl vals rfl (HVW.out.alloc _) ⟨wr.heap.size, 0, none⟩ 1 1 [.slice (some ⟨wk.heap.size, 0, none⟩) c c] rfl rfl (World.news_of_block (cs := #[.slice (some ⟨wk.heap.size, 0, none⟩) c c]) (t := 22) (fr := (0, 0)) (heap_alloc_new wr _)) (by simp [Value.oneCell']) (by omega) (by unfold maxLen; omega) (by omega) (by simp; omega) (wr.heap.size + 1) (by simp) ?_; intro gg cap w1 hown1 hgrow hat hlt1)
            go_roundw
            case rel =>
              exact ⟨k + 1, by omega, by go_num, by rw [HE.out]; exact OutM.pushW HKN.out.symm (kvec_len _ _ _ _ _ _) HV.out HVR.out HTV.out hwz HBV.out hown1 hgrow,
                ((HBEL.out.trans (HBV.out.mono hwz)).alloc (by omega) _).grown hgrow (by simp; omega) (fun _ hk => (HV.out.lt _ hk).1)⟩
            case measure => simp [intOf]; omega
    · have hkc : k = c := by omega
      subst hkc
      obtain ⟨a8, c8, e8, hm8⟩ := HO.out.mat
      subst e8
      have HM8 := Lib.hid hm8
      have HE : Hid (kerN p B P k n k = KP) := by show _ = _; exact HKP.out.symm
      rw [HE.out] at HM8 ⊢
      clear hm8
      go_wp2_with (go_at_call 66; (with_reducible refine (elimO p _ KP _ w3.heap.size wk.heap.size _ HM8.out (Nat.le_refl _) HKL.out).mono ?_); rintro e w5 ⟨r5, k5, vp, d5, rfl, ho5, hb5⟩; have HO5 := Lib.hid ho5; have HB5 := Lib.hid hb5; clear ho5 hb5)
      go_ret
      exact ⟨_, _, rfl, HO5.out.mono (by omega) (Nat.le_refl _), (HB2.out.trans (HB3k.out.mono zw2)).trans (HB5.out.mono (by omega))⟩

end Go.Proofs.Ytigdepahbnidjaa
