/-
  The model's kernel: the walk.
  Conditions: the matrix is a row of rows of known cells with numbers of the prime.
  What the program's elimination hands back, to be read: rows, pivots.
  Conditions: the list of vectors is a row of rows of known cells.
  Each list of rows has a reduced basis; kernels. No Go in sight.
  No conditions.
  Blades: the equations of a subspace, its reduced basis, the factor. No Go in sight.
  No conditions.
-/
import Derived.Test.YtbnegbpapjcmhaaGreatQz17
import Derived.Test.YtbnegbpapjcmhaaGreatQz16
import Derived.Test.YtbnegbpapjcmhaaGreatQz19
import Derived.Test.YtbnegbpapjcmhaaGreatQz14
namespace Go.Proofs.YtbnegbpapjcmhaaGreat
open Go.RowKit
set_option linter.unusedVariables false

theorem balloc (w : World) (o : Obj) : Below w.heap.size w (w.alloc o) := (Below.refl _ _).alloc (Nat.le_refl _) o
theorem bdrew (w : World) : Below w.heap.size w w.drew := (Below.refl _ _).drew
theorem lst0 {p : Int} {m : List (List Int)} (h : Lst 1 p m) : isL 0 p m = true := isL_iff.2 { h with lo := Nat.zero_le _ }
/-- The places of the pivots, as numbers. -/
def pvL (P : Nat → Nat) (n : Nat) : List Int := (List.range n).map fun i => (P i : Int)
theorem pvL_len (P : Nat → Nat) (n : Nat) : (pvL P n).length = n := by simp [pvL]
theorem pvL_at {P : Nat → Nat} {n i : Nat} (h : i < n) : (pvL P n).getD i 0 = P i := by simp [pvL, List.getD, h]
theorem pvL_succ (P : Nat → Nat) (n : Nat) : pvL P (n + 1) = pvL P n ++ [(P n : Int)] := by simp [pvL, List.range_succ]
theorem pvL_any (P : Nat → Nat) (n k : Nat) : (pvL P n).any (· == (k : Int)) = isPv P n k := any_pivs P n k
/-- The vectors that the free columns make, and their reduced basis. -/
noncomputable def kerP (p : Int) (A : List (List Int)) : List (List Int) := kerN p (bas p A) (pvs (bas p A)) (rw' A 0).length (bas p A).length (rw' A 0).length
noncomputable def kerB (p : Int) (A : List (List Int)) : List (List Int) := bas p (kerP p A)
theorem kerP_lst {p : Int} {A : List (List Int)} (h : Lst 1 p A) : isL 0 p (kerP p A) = true :=
  isL_iff.2 (kerN_lst h.prime (h.c0 0 h.lo) (h.c1 0 h.lo) (Nat.le_refl _))

/-- A list of numbers stays where a list of lists is appended to. -/
theorem TagR.push {B lo tp n : Nat} {w w1 : World} {v : Value} {vals : List Value} {r : Option Addr} {z : List Int} (ho : w.ownsRow B 22 1 v n vals) (hg : w.grownBy w1 v.ownBlock) (ht : tp ≤ w.heap.size) (hz : TagR lo tp w r z) : TagR lo tp w1 r z := by
  refine hz.block (Nat.le_refl _) (Nat.le_refl _) (fun b cur _ h1 hc => hg.block b (Nat.lt_of_lt_of_le h1 ht) (fun e => ?_))
  rcases ho.2 with ⟨rfl, _⟩ | ⟨g, cap, cur', rfl, _, hgg, _⟩
  · simp [Value.ownBlock] at e
  · simp [Value.ownBlock] at e
    subst e
    rw [hgg] at hc
    simp at hc
/-- A list of lists stays where a list of numbers is appended to. -/
theorem OutM.beside {B n : Nat} {w w1 : World} {v v' : Value} {xs : List Value} (h : OutM B w v []) (ho : w.ownsRow B 2 1 v' n xs) (hg : w.grownBy w1 v'.ownBlock) : OutM B w1 v [] := by
  obtain ⟨vals, h1, _⟩ := h
  exact ⟨vals, h1.kept hg (own_apart h1 ho (by decide)), fun i hi => by simp at hi⟩
/-- A number is put into a list in place. -/
theorem TagR.set {lo tp : Nat} {w : World} {b o j : Nat} {z : List Int} (h : TagR lo tp w (some ⟨b, o, none⟩) z) (hj : j < z.length) (x : Int) : TagR lo tp (w.setCell ⟨b, o + j, none⟩ (.int .i64 x)) (some ⟨b, o, none⟩) (z.set j x) := by
  rcases h with h | ⟨b', o', cur, e, h0, h1, hc, hv⟩
  · rw [h] at hj; simp at hj
  · cases e
    refine .inr ⟨b, o, cur.setIfInBounds (o + j) (.int .i64 x), rfl, h0, h1, by simp [World.setCell, Array.getElem?_modify, hc], fun i hi => ?_⟩
    rw [List.length_set] at hi
    by_cases e : i = j
    · subst e
      rw [World.cell?_setCell_same w _ _ (hv i hi)]
      simp [List.getD, hi]
    · rw [World.cell?_setCell_other _ _ _ _ (fun e2 => e (by injection e2 with _ e3; omega)), hv i hi]
      simp only [List.getD_eq_getElem?_getD]
      rw [List.getElem?_set_ne (fun h => e h.symm)]
theorem mkR_set {c k : Nat} {x : Int} (f g : Nat → Int) (h : ∀ j, j < c → g j = if j = k then x else f j) : (mkR c f).set k x = mkR c g := by
  apply row_ext (by simp [mkR_len])
  intro j hj
  rw [List.length_set, mkR_len] at hj
  rw [mkR_at _ hj, h j hj]
  simp only [List.getD_eq_getElem?_getD]
  by_cases e : j = k
  · subst e
    rw [List.getElem?_set_self (by rw [mkR_len]; exact hj), if_pos rfl]; rfl
  · rw [List.getElem?_set_ne (fun h => e h.symm), if_neg e, ← List.getD_eq_getElem?_getD, mkR_at _ hj]
theorem kvec_next {p : Int} {c : Nat} {B : List (List Int)} {P : Nat → Nat} {n i k : Nat} (h : Rref p n c (at' B) P) (hi : i < n) (hk : P i ≠ k) : (kvec p B P c i k).set (P i) ((p - at' B i k) % p) = kvec p B P c (i + 1) k :=
  mkR_set _ _ (fun j hj => kvec_step h hi hk hj)

theorem OutM.start2 (w : World) (B : Nat) (t t' : TypeId) (hB : B ≤ w.heap.size) (ht : t' = 22) : OutM B ((w.alloc (.cells #[] t)).alloc (.cells #[] t')) (.slice (some ⟨w.heap.size + 1, 0, none⟩) 0 0) [] := by
  have h := OutM.start (w.alloc (.cells #[] t)) B t' (by simp; omega) ht
  have e : (w.alloc (.cells #[] t)).heap.size = w.heap.size + 1 := by simp
  rw [e] at h; exact h
theorem OutM.pushW {B n : Nat} {w w2 w1 : World} {o : Obj} {v v' : Value} {m : List (List Int)} {z : List Int} {vals : List Value} {r : Option Addr} {cz cp : Nat} (hl : m.length = n) (hzl : z.length = cz)
    (ho : w.ownsRow B 22 1 v n vals) (hr : ∀ i, i < n → ∃ r c', vals[i]? = some (.slice r (rw' m i).length c') ∧ TagR B w.heap.size w r (rw' m i))
    (hz : TagR w.heap.size w2.heap.size w2 r z) (hB : B ≤ w.heap.size) (h2 : Below w.heap.size w w2) (h1 : w1.ownsRow B 22 1 v' (n + 1) (vals ++ [.slice r cz cp])) (hg : (w2.alloc o).grownBy w1 v.ownBlock) : OutM B w1 v' (m ++ [z]) := by
  subst hl hzl
  have hb : Below w2.heap.size w2 (w2.alloc o) := (Below.refl _ _).alloc (Nat.le_refl _) o
  refine OutM.push (m := m) (w := w2.alloc o) (vals := vals) ((ho.kept (below_grown h2) (by cases hv : v.ownBlock <;> simp)).alloc o) (fun i hi => ?_) (hz.below hb (Nat.le_refl _) hB hb.size) (c := cp) h1 hg
  obtain ⟨r', c', g1, g2⟩ := hr i hi
  exact ⟨r', c', g1, (g2.below h2 (Nat.le_refl _) (Nat.le_refl _) h2.size).below hb (Nat.le_refl _) (Nat.le_refl _) hb.size⟩
theorem kvec_unit {p : Int} (hp : 1 < p) (B : List (List Int)) (P : Nat → Nat) (c k : Nat) : (mkR c fun j => if k = j then 1 else 0) = kvec p B P c 0 k := mkR_congr (fun j _ => by
  rw [kv_zero]
  by_cases e : j = k
  · rw [if_pos e, if_pos e.symm]; exact (Int.emod_eq_of_lt (by omega) hp).symm
  · rw [if_neg e, if_neg (fun h => e h.symm)]; rfl)
theorem kvec_len (p : Int) (B : List (List Int)) (P : Nat → Nat) (c i k : Nat) : (kvec p B P c i k).length = c := mkR_len _ _
theorem neg_mod (p x : Int) : (p - x) % p = -x % p := by simp

set_option maxRecDepth 100000 in
set_option maxHeartbeats 6400000 in
theorem l02Kernel_any (p : Int) (a : Option Addr) (A : List (List Int)) (ca lo tp : Nat) (w : World) (hm : MatIn lo tp w a A) (ht : tp ≤ w.heap.size) (hA : Lst 1 p A) :
    Calls Tryz.prog 82 #[.int .i64 p, .slice a A.length ca] w (NewM (kerB p A) w) := by
  obtain ⟨i0, hi, hz0, hz1, hz2⟩ := info_parts info64
  obtain ⟨j0, kj, kz0, kz1, kz2⟩ := info_parts info_slice
  have hpb := prm_bd hA.prime
  have HP := Lib.hid hA.prime
  have HM := Lib.hid hm
  have HA := Lib.hid (lst0 hA)
  have HKL := Lib.hid (kerP_lst hA)
  have hA0 : 0 < A.length := hA.lo
  obtain ⟨b, o, r0, c0, ha, _, hb, hr0, _⟩ := HM.out.row (i := 0) hA.lo
  subst ha
  rw [Nat.add_zero] at hr0
  have c1 := hA.c0 0 hA.lo
  have c16 := hA.c1 0 hA.lo
  obtain ⟨KP, hKP⟩ : ∃ x, x = kerP p A := ⟨_, rfl⟩
  have HKP : Hid (KP = kerN p (bas p A) (pvs (bas p A)) (rw' A 0).length (bas p A).length (rw' A 0).length) := hKP
  have HKB : Hid (kerB p A = bas p KP) := by show _ = _; rw [hKP]; rfl
  rw [← hKP] at HKL
  obtain ⟨c, hcc⟩ : ∃ c, c = (rw' A 0).length := ⟨_, rfl⟩
  rw [← hcc] at hr0 c1 c16 HKP
  have HCC := Lib.hid hcc
  have hb' : b < w.heap.size := Nat.lt_of_lt_of_le hb ht
  obtain ⟨B, hB⟩ : ∃ B, B = bas p A := ⟨_, rfl⟩
  rw [← hB] at HKP
  have HBE := Lib.hid hB
  obtain ⟨n, hn⟩ : ∃ n, n = B.length := ⟨_, rfl⟩
  rw [← hn] at HKP
  have HN := Lib.hid hn
  obtain ⟨P, hP⟩ : ∃ P, P = pvs B := ⟨_, rfl⟩
  rw [← hP] at HKP
  have HPE := Lib.hid hP
  rw [HKB.out]
  clear hm hA hKP hcc hB hn hP
  have HMD := Lib.hid (HM.out.below (bdrew w) ht)
  have htd : tp ≤ w.drew.heap.size := ht
  go_enter Tryz.func82, Tryz.ntmps82
  go_wp2
  go_region_held3 (fun w' => w'.cell? ⟨b, o, none⟩ = some (.slice r0 c c0)) (first | go_keep | exact SS2.out) (first | (go_at_call 85; (with_reducible refine (basis_any p _ A _ lo tp w.drew HMD.out htd HA.out).mono ?_); rintro e w2 ⟨r2, k2, rfl, ho2, hb2, hi2⟩; rw [← HBE.out, ← HN.out]; rw [← HBE.out, ← HCC.out] at hi2; rw [← HBE.out] at ho2; have HIB := Lib.hid hi2; have HO2 : Hid (MatIn w.heap.size w2.heap.size w2 r2 B) := ho2; have HB2 : Hid (Below w.heap.size w w2) := (bdrew w).trans hb2; have SS2 : Hid (w2.cell? ⟨b, o, none⟩ = some (.slice r0 c c0)) := (HB2.out.cell (p := ⟨b, o, none⟩) hb').trans hr0; clear ho2 hb2 hi2))
  have zw2 := HB2.out.size
  have hRR : Rref p n c (at' B) P := by rw [HPE.out, HN.out]; exact HIB.out.pivs
  have HRR := Lib.hid hRR
  have hnc : n ≤ c := hRR.rows_le
  have HPF : Hid (∀ i, i < n → fstN (rw' B i) = P i) := fun i _ => by rw [HPE.out]; rfl
  have HLB : Hid (∀ i, i < n → (rw' B i).length = c) := fun i hi => HIB.out.len i (by rw [← HN.out]; exact hi)
  clear hRR
  go_wp2
  go_loopw [7, 9] (fun v t wr => ∃ i : Nat, i ≤ n ∧ t = .int .i64 i ∧ OutR w2.heap.size wr v (pvL P i) ∧ OutM w2.heap.size wr (.slice (some ⟨w2.heap.size + 1, 0, none⟩) 0 0) [] ∧ Below w2.heap.size w2 wr) (fun _ t _ => n - (intOf t).toNat)
  case atStart => exact ⟨0, Nat.zero_le _, rfl, (OutR.start w2 w2.heap.size _ (Nat.le_refl _) rfl).below (balloc _ _), OutM.start2 w2 _ _ _ (Nat.le_refl _) rfl, by ((repeat' (first | with_reducible exact Below.refl _ _ | (with_reducible refine Below.setCell ?_ ?_ _) | (with_reducible refine Below.alloc ?_ ?_ _) | (with_reducible refine Below.drew ?_))); all_goals (first | (simp; done) | omega | (simp; omega)))⟩
  case round =>
    obtain ⟨i, hi', rfl, ho, hm0, hbel⟩ := hrel
    have HO := Lib.hid ho
    have HM0 := Lib.hid hm0
    have HBEL := Lib.hid hbel
    have hwz := hbel.size
    clear ho hm0
    by_cases hlt : i < n
    · obtain ⟨b1, o1, r, c1', ha1, _, hb1, hr1, hrow⟩ := (HO2.out.below hbel (Nat.le_refl _)).row (show i < B.length by rw [← HN.out]; exact hlt)
      subst ha1
      have hcl := HLB.out i hlt
      rw [hcl] at hr1
      have HROW := Lib.hid hrow
      have hpf := HPF.out i hlt
      have hpc := HRR.out.pv i hlt
      obtain ⟨X, hX⟩ : ∃ X, X = (pvL P i).map (Value.int .i64) := ⟨_, rfl⟩
      have HX := Lib.hid hX
      have HO' : Hid (wr.ownsRow w2.heap.size 2 1 u7 i X) := by
        have := HO.out; unfold OutR at this; rw [pvL_len, ← hX] at this; exact this
      clear hX hrow hbel
      go_wp2_with (first | (go_at_call 52; (with_reducible refine (l02First_any _ (rw' B i) c (P i) _ _ _ _ HROW.out hcl (by omega) hpf hpc).mono ?_); rintro e w' ⟨rfl, rfl⟩) | (at_builtin; refine wpList_append_lies _ rfl _ _ 22 rfl w2.heap.size 2 i0 (.int .i64 0) 1 8 Tryz.underlying22 hi hz0 hz1 hz2 rfl (by decide) u7 i X rfl (HO'.out.alloc _) ⟨wr.heap.size, 0, none⟩ 1 1 [.int .i64 (P i)] rfl rfl (World.news_of_block (cs := #[.int .i64 (P i)]) (t := 2) (fr := (0, 0)) (heap_alloc_new wr _)) (by simp [Value.oneCell']) (by omega) (by unfold maxLen; omega) (by omega) (by simp; omega) (wr.heap.size + 1) (by simp) ?_; intro gg cap w1 hown1 hgrow hat hlt1))
      go_wp2
      go_roundw
      case rel =>
        exact ⟨i + 1, by omega, by go_num, by unfold OutR; rw [pvL_len, pvL_succ, List.map_append, ← HX.out]; exact hown1, (HM0.out.below (balloc wr _)).beside (HO'.out.alloc _) hgrow, (HBEL.out.alloc hwz _).grown hgrow (by simp; omega) (fun _ hk => (HO'.out.lt _ hk).1)⟩
      case measure => simp [intOf]; omega
    · have hin : i = n := by omega
      subst hin
      obtain ⟨a7, c7, e7, ht7⟩ := HO.out.tag
      rw [pvL_len] at e7
      subst e7
      have HT7 := Lib.hid ht7
      clear ht7 hbel
      rename World => w3
      have hmk := fun W => run_make_row' (P := Tryz.prog) 22 2 (.int .i64 0) 8 Tryz.underlying22 info64 rfl .i64 .i64 c (by omega) (by omega) W
      have HMK := Lib.hid hmk
      clear hmk
      go_wp2
      go_loopw [8, 10] (fun v t wr => ∃ k : Nat, k ≤ c ∧ t = .int .i64 k ∧ OutM w2.heap.size wr v (kerN p B P c i k) ∧ TagR w2.heap.size wr.heap.size wr a7 (pvL P i) ∧ Below w2.heap.size w2 wr) (fun _ t _ => c - (intOf t).toNat)
      case atStart => exact ⟨0, Nat.zero_le _, rfl, HM0.out, HT7.out, HBEL.out⟩
      case round =>
        obtain ⟨k, hk, rfl, ho, ht7, hbel⟩ := hrel
        have HO := Lib.hid ho
        have HT := Lib.hid ht7
        have HB := Lib.hid hbel
        have hwk := hbel.size
        rename World => wk
        clear ho ht7 hbel
        by_cases hltk : k < c
        · have hk1 : (k : Int) < (c : Int) := by omega
          cases hpv : isPv P i k with
          | true =>
            have HPV : Hid ((pvL P i).any (· == (k : Int)) = true) := by show _ = _; rw [pvL_any]; exact hpv
            have HE := Lib.hid (kerN_pv (p := p) (B := B) (c := c) hpv)
            clear hpv
            go_wp2_with (go_at_call 119; (with_reducible refine (l01Has_any a7 (pvL P i) k i _ _ _ _ HT.out.row (pvL_len _ _) (by omega)).mono ?_); rintro e w' ⟨rfl, rfl⟩; rw [HPV.out])
            go_roundw
            case rel => exact ⟨k + 1, by omega, by go_num, by rw [HE.out]; exact HO.out, HT.out, HB.out⟩
            case measure => simp [intOf]; omega
          | false =>
            have HPV : Hid ((pvL P i).any (· == (k : Int)) = false) := by show _ = _; rw [pvL_any]; exact hpv
            have HE := Lib.hid (kerN_no (p := p) (B := B) (c := c) hpv)
            have HNP : Hid (∀ j, j < i → P j ≠ k) := fun j hj => isPv_no hpv hj
            have g0 := made_cell wk (.int .i64 0) c 2 hltk
            have f0 : (wk.alloc (.cells (madeCells #[.int .i64 0] c) 2)).frozen? ⟨wk.heap.size, k, none⟩ = false := by simp [go_sem]
            have HU := Lib.hid (unit_tag wk hltk)
            have hmk := HMK.out
            clear hpv
            go_wp2_with (go_at_call 119; (with_reducible refine (l01Has_any a7 (pvL P i) k i _ _ _ _ HT.out.row (pvL_len _ _) (by omega)).mono ?_); rintro e w' ⟨rfl, rfl⟩; rw [HPV.out])
            clear hmk g0 f0
            go_loopw [12] (fun t wr => ∃ j : Nat, j ≤ i ∧ t = .int .i64 j ∧ TagR wk.heap.size wr.heap.size wr (some ⟨wk.heap.size, 0, none⟩) (kvec p B P c j k) ∧ Below wk.heap.size wk wr) (fun t _ => i - (intOf t).toNat)
            case atStart => exact ⟨0, Nat.zero_le _, rfl, by rw [← kvec_unit (by omega)]; exact HU.out, by ((repeat' (first | with_reducible exact Below.refl _ _ | (with_reducible refine Below.setCell ?_ ?_ _) | (with_reducible refine Below.alloc ?_ ?_ _) | (with_reducible refine Below.drew ?_))); all_goals (first | (simp; done) | omega | (simp; omega)))⟩
            case round =>
              obtain ⟨j, hj, rfl, htv, hbv⟩ := hrel
              have HTV := Lib.hid htv
              have HBV := Lib.hid hbv
              have hwv := hbv.size
              have HBW : Hid (Below w2.heap.size w2 wr) := HB.out.trans (hbv.mono hwk)
              clear htv hbv
              by_cases hltj : j < i
              · have hj1 : (j : Int) < (i : Int) := by omega
                obtain ⟨bp, op, hap, _, _, hcp⟩ := (HT.out.below HBV.out (Nat.le_refl _) (Nat.le_refl _) hwv).row.num (j := j) (by rw [pvL_len]; exact hltj)
                subst hap
                rw [pvL_at hltj] at hcp
                obtain ⟨bq, oq, rq, cq, haq, _, _, hrq, hrowq⟩ := (HO2.out.below HBW.out (Nat.le_refl _)).row (show j < B.length by rw [← HN.out]; exact hltj)
                cases haq
                have hcl := HLB.out j hltj
                rw [hcl] at hrq
                obtain ⟨bx, ox, hax, _, _, hcx0⟩ := hrowq.num (j := k) (by omega)
                subst hax
                obtain ⟨x0, x1⟩ := HRR.out.rng j hltj k hltk
                obtain ⟨x, hx⟩ : ∃ x, x = at' B j k := ⟨_, rfl⟩
                have hcx : wr.cell? ⟨bx, ox + k, none⟩ = some (.int .i64 x) := by rw [hx]; exact hcx0
                rw [← hx] at x0 x1
                have HST : Hid ((kvec p B P c j k).set (P j) (-x % p) = kvec p B P c (j + 1) k) := by
                  show _ = _
                  rw [hx, ← neg_mod]
                  exact kvec_next HRR.out hltj (HNP.out j hltj)
                have hpc := HRR.out.pv j hltj
                have hpc1 : (P j : Int) < (c : Int) := by omega
                obtain ⟨bv, ov, hav, _, _, hcv⟩ := HTV.out.row.num (j := P j) (by rw [kvec_len]; exact hpc)
                cases hav
                rw [Nat.zero_add] at hcv
                obtain ⟨y, hy⟩ : ∃ y, y = (kvec p B P c j k).getD (P j) 0 := ⟨_, rfl⟩
                rw [← hy] at hcv
                have hfv : wr.frozen? ⟨wk.heap.size, P j, none⟩ = false := by
                  rcases HTV.out with h | ⟨b', o', cur, e, _, _, ht, _⟩
                  · have := kvec_len p B P c j k; rw [h] at this; simp at this; omega
                  · cases e; exact free_of ht _
                have e4 : IntKind.i64.wrap (p - x) = p - x := IntWalk.i64_in _ (by omega)
                have e3 : (p - x).tmod p = -x % p := (Int.tmod_eq_emod_of_nonneg (by omega)).trans (neg_mod p x)
                have hp0 : ¬ p = 0 := by omega
                have hp1 : (p == 0) = false := by simpa using hp0
                have HTD := Lib.hid (HTV.out.below (bdrew wr) (Nat.le_refl _) (Nat.le_refl _) (Nat.le_refl _))
                clear hx hy hcx0 hrowq hcl
                go_wp2
                go_region
                go_wp2
                go_roundw
                case rel =>
                  refine ⟨j + 1, by omega, by go_num, ?_, (Below.setCell HBV.out (Nat.le_refl wk.heap.size) _).drew⟩
                  have h := HTV.out.set (j := P j) (by rw [kvec_len]; exact hpc) (-x % p)
                  rw [HST.out, Nat.zero_add] at h
                  exact h.block (Nat.le_refl _) (by simp [World.setCell]) (fun _ _ _ _ _ => rfl)
                case measure => simp [intOf]; omega
              · have hji : j = i := by omega
                subst hji
                obtain ⟨vals, hvo, hvr⟩ := HO.out
                have hkb := kerN_len p B P c j k
                obtain ⟨kl, hkl⟩ : ∃ x, x = (kerN p B P c j k).length := ⟨_, rfl⟩
                rw [← hkl] at hvo hvr hkb
                have HKN := Lib.hid hkl
                have HV := Lib.hid hvo
                have HVR := Lib.hid hvr
                have HVW := Lib.hid (hvo.kept (below_grown HBV.out) (by cases hv : Value.ownBlock u8 <;> simp))
                have HTW := Lib.hid ((HT.out.below HBV.out (Nat.le_refl _) (Nat.le_refl _) hwv))
                clear hvo hvr hkl
                go_wp2_with (at_builtin; refine wpList_append_lies _ rfl _ _ 26 rfl w2.heap.size 22 j0 (.slice none 0 0) 1 24 Tryz.underlying26 kj kz0 kz1 kz2 rfl (by decide) u8 kl vals rfl (HVW.out.alloc _) ⟨wr.heap.size, 0, none⟩ 1 1 [.slice (some ⟨wk.heap.size, 0, none⟩) c c] rfl rfl (World.news_of_block (cs := #[.slice (some ⟨wk.heap.size, 0, none⟩) c c]) (t := 22) (fr := (0, 0)) (heap_alloc_new wr _)) (by simp [Value.oneCell']) (by omega) (by unfold maxLen; omega) (by omega) (by simp; omega) (wr.heap.size + 1) (by simp) ?_; intro gg cap w1 hown1 hgrow hat hlt1)
                go_roundw
                case rel =>
                  exact ⟨k + 1, by omega, by go_num, by rw [HE.out]; exact OutM.pushW HKN.out.symm (kvec_len _ _ _ _ _ _) HV.out HVR.out HTV.out hwk HBV.out hown1 hgrow,
                    (TagR.push (HVW.out.alloc _) hgrow (Nat.le_refl _) (HTW.out.below (balloc wr _) (Nat.le_refl _) (Nat.le_refl _) (balloc wr _).size)).block (Nat.le_refl _) hgrow.size (fun _ _ _ _ _ => rfl),
                    ((HB.out.trans (HBV.out.mono hwk)).alloc (by omega) _).grown hgrow (by simp; omega) (fun _ hk => (HV.out.lt _ hk).1)⟩
                case measure => simp [intOf]; omega
        · have hkc : k = c := by omega
          subst hkc
          obtain ⟨a8, c8, e8, hm8⟩ := HO.out.mat
          subst e8
          have HM8 := Lib.hid hm8
          have HE : Hid (kerN p B P k i k = KP) := by show _ = _; exact HKP.out.symm
          rw [HE.out] at HM8 ⊢
          clear hm8
          go_wp2_with (first | (go_at_call 85; (with_reducible refine (basis_any p a8 KP c8 w2.heap.size wk.heap.size wk HM8.out (Nat.le_refl _) HKL.out).mono ?_); rintro e w5 ⟨r5, k5, rfl, ho5, hb5, hi5⟩; have HO5 := Lib.hid ho5; have HB5 := Lib.hid hb5; have HS5 := Lib.hid (bas_small HKL.out hi5); have z5 := hb5.size; clear ho5 hb5 hi5) | (go_at_call 97; (with_reducible refine (l01Own2_any _ (bas p KP) _ wk.heap.size w5.heap.size _ HO5.out (Nat.le_refl _) HS5.out.1 HS5.out.2).mono ?_); rintro e w6 ⟨r6, k6, rfl, ho6, hb6⟩; have HO6 := Lib.hid ho6; have HB6 := Lib.hid hb6; clear ho6 hb6))
          go_ret
          exact ⟨_, _, rfl, HO6.out.mono (by omega) (Nat.le_refl _), ((HB2.out.trans (HB.out.mono zw2)).trans (HB5.out.mono (by omega))).trans (HB6.out.mono (by omega))⟩

end Go.Proofs.YtbnegbpapjcmhaaGreat

namespace Go.Proofs.YtbnegbpapjcmhaaGreat
open Go.RowKit Go.ChangeShapes Go.WideShapes
set_option linter.unusedVariables false

theorem EchM.pivRow {w : World} {kb c nr np : Nat} {Z : Nat → Nat → Int} {P : Nat → Nat} {ar ap : Option Addr} {cr cp : Nat} {d : Int} {RB RO RC : Nat → Nat} (h : EchM w kb c nr np Z P (.slice ar nr cr) (.slice ap np cp) d RB RO RC) : RowIn kb w.heap.size w ap (pvL P np) := by
  by_cases h0 : 0 < np
  · obtain ⟨g, rfl, _, hg0, hg1⟩ := h.pivA h0
    refine .inr ⟨g, 0, rfl, by omega, hg1, fun j hj => ?_⟩
    rw [pvL_len] at hj
    obtain ⟨g', e, hc, _, _⟩ := h.pivA hj
    injection e with e1
    injection e1 with e2
    subst e2
    rw [Nat.zero_add, pvL_at hj]; exact hc
  · have : np = 0 := by omega
    subst this
    exact .inl rfl
def ElimK (p : Int) (A : List (List Int)) (w : World) (e : Ending) (w' : World) : Prop :=
  ∃ ar cr ap cp dd, e = .returned (.agg #[.slice ar (bas p A).length cr, .slice ap (bas p A).length cp, .int .i64 dd]) ∧ OwnM w.heap.size w'.heap.size w' ar (bas p A) ∧ RowIn w.heap.size w'.heap.size w' ap (pvL (pvs (bas p A)) (bas p A).length) ∧
    IsBas p (rw' A 0).length A (bas p A) ∧ Below w.heap.size w w'
theorem pvL_congr {P P' : Nat → Nat} {n : Nat} (h : ∀ i, i < n → P i = P' i) : pvL P n = pvL P' n := by
  unfold pvL
  apply List.map_congr_left
  intro i hi
  rw [h i (List.mem_range.1 hi)]
/-- Rows of one length with numbers of the prime, at least one. -/
structure RowsW (p : Int) (A : List (List Int)) : Prop where
  prime : prm p = true
  lo : 0 < A.length
  hi : A.length ≤ 1024
  c0 : 1 ≤ (rw' A 0).length
  c1 : (rw' A 0).length ≤ 16
  len : ∀ i, i < A.length → (rw' A i).length = (rw' A 0).length
  rng : ∀ i, i < A.length → ∀ j, j < (rw' A 0).length → 0 ≤ at' A i j ∧ at' A i j < p
theorem elimK (p : Int) (a : Option Addr) (A : List (List Int)) (ca lo tp : Nat) (w : World) (hm : MatIn lo tp w a A) (ht : tp ≤ w.heap.size) (hA : RowsW p A) :
    Calls Tryz.prog 95 #[.int .i64 p, .slice a A.length ca] w (ElimK p A w) := by
  have hp := hA.prime
  have hc0 := hA.c0
  have hc1 := hA.c1
  refine (eliminate_bas p a A ca lo tp w hp hm ht hA.hi (fun i hi => by rw [hA.len i hi]; exact ⟨hc0, by omega, rfl⟩) (fun i hi j hj => hA.rng i hi j (by rw [← hA.len i hi]; exact hj))).mono ?_
  rintro e w' ⟨P, d, dd, ar, ap, cr, cp, kb, c, RB, RO, RC, rfl, hE, hM, hB, hk, hd⟩
  obtain ⟨_, rfl⟩ := hd hA.lo
  have hK := hM.kept hp
  refine ⟨ar, cr, ap, cp, dd, rfl, hE.own hK.len hk, ?_, hK.bas, hB⟩
  rw [pvL_congr (fun i hi => hK.red.pvs hK.len hi)]
  exact hE.pivRow.mono hk (Nat.le_refl _)
theorem kerP_lstW {p : Int} {A : List (List Int)} (h : RowsW p A) : isL 0 p (kerP p A) = true :=
  isL_iff.2 (kerN_lst h.prime h.c0 h.c1 (Nat.le_refl _))

end Go.Proofs.YtbnegbpapjcmhaaGreat

namespace Go.Proofs.YtbnegbpapjcmhaaGreat
open Go.RowKit
set_option linter.unusedVariables false

theorem redu_ex {p : Int} {c : Nat} {A m : List (List Int)} {P : Nat → Nat} {r : List Int} (hp : prm p = true) (h : Kept p c A m P) (hl : r.length = c) (hr : ∀ j, j < c → 0 ≤ num r j ∧ num r j < p) : ∀ k, k ≤ m.length → ∃ r', Redu p c m P r r' k
  | 0, _ => ⟨r, Redu.start hl hr⟩
  | k + 1, hk => by
    obtain ⟨r', h'⟩ := redu_ex hp h hl hr k (by omega)
    exact ⟨mkR c fun j => (num r' j + (p - num r' (P k)) % p * at' m k j) % p, h'.next hp h.red (by omega) (mkR_len _ _) (fun j hj => mkR_at _ hj)⟩
theorem place_ex {P : Nat → Nat} {q N : Nat} (mono : ∀ i i', i < i' → i' < N → P i < P i') (ne : ∀ i, i < N → P i ≠ q) : ∀ n, n ≤ N → ∃ t, t ≤ n ∧ (∀ i, i < t → P i < q) ∧ ∀ i, t ≤ i → i < n → q < P i
  | 0, _ => ⟨0, Nat.le_refl _, fun i hi => by omega, fun i _ hi => by omega⟩
  | n + 1, hn => by
    by_cases h : P n < q
    · refine ⟨n + 1, Nat.le_refl _, fun i hi => ?_, fun i h1 h2 => by omega⟩
      by_cases e : i = n
      · rw [e]; exact h
      · have := mono i n (by omega) (by omega); omega
    · obtain ⟨t, h1, h2, h3⟩ := place_ex mono ne n (by omega)
      refine ⟨t, by omega, h2, fun i i1 i2 => ?_⟩
      by_cases e : i = n
      · rw [e]; have := ne n (by omega); omega
      · exact h3 i i1 (by omega)
theorem first_ex {c : Nat} (f : Nat → Int) : (∀ j, j < c → f j = 0) ∨ ∃ q, q < c ∧ f q ≠ 0 ∧ ∀ j, j < q → f j = 0 := by
  induction c with
  | zero => exact .inl fun j hj => by omega
  | succ c ih =>
    rcases ih with h | ⟨q, h1, h2, h3⟩
    · by_cases e : f c = 0
      · refine .inl fun j hj => ?_
        by_cases ej : j = c
        · rw [ej]; exact e
        · exact h j (by omega)
      · exact .inr ⟨c, Nat.lt_succ_self c, e, h⟩
    · exact .inr ⟨q, by omega, h2, h3⟩
theorem kept_snoc {p : Int} {c : Nat} {A m : List (List Int)} {P : Nat → Nat} {r : List Int} (hp : prm p = true) (h : Kept p c A m P) (hl : r.length = c) (hr : ∀ j, j < c → 0 ≤ num r j ∧ num r j < p) : ∃ m' P', Kept p c (A ++ [r]) m' P' := by
  obtain ⟨r', h'⟩ := redu_ex hp h hl hr m.length (Nat.le_refl _)
  rcases first_ex (c := c) (num r') with hz | ⟨q, hq, q0, ql⟩
  · exact ⟨m, P, h.same h'.van hz⟩
  · have ne : ∀ i, i < m.length → P i ≠ q := fun i hi e => q0 (by rw [← e]; exact h'.zer i hi)
    obtain ⟨t, t0, t1, t2⟩ := place_ex h.red.mono ne m.length (Nat.le_refl _)
    have hs : ∀ j, j < c → num (mkR c fun j => num r' j * inv p (num r' q) % p) j = num r' j * inv p (num r' q) % p := fun j hj => mkR_at _ hj
    refine ⟨_, _, h.more (m' := mk m.length c fun i j => (at' m i j + (p - at' m i q) % p * num (mkR c fun j => num r' j * inv p (num r' q) % p) j) % p) (s := mkR c fun j => num r' j * inv p (num r' q) % p) (t := t) hp h'.van h'.zer h'.rng hq q0 ql hs (mkR_len _ _) (mk_len _ _ _) (fun i hi => mk_rowLen _ hi) (fun i hi j hj => mk_at _ hi hj) t0 t1 t2⟩
theorem kept_ex {p : Int} {c : Nat} (hp : prm p = true) (A : List (List Int)) (hl : ∀ i, i < A.length → (rw' A i).length = c) (hr : ∀ i, i < A.length → ∀ j, j < c → 0 ≤ at' A i j ∧ at' A i j < p) : ∃ m P, Kept p c A m P := by
  have key : ∀ n, n ≤ A.length → ∃ m P, Kept p c (A.take n) m P := by
    intro n
    induction n with
    | zero => intro _; exact ⟨[], fun _ => 0, Kept.start p c _⟩
    | succ n ih =>
      intro hn
      obtain ⟨m, P, h⟩ := ih (by omega)
      have e : A.take (n + 1) = A.take n ++ [rw' A n] := by
        rw [List.take_add_one, show A[n]? = some (rw' A n) by unfold rw'; simp [List.getD, show n < A.length by omega]]; rfl
      rw [e]
      exact kept_snoc hp h (hl n (by omega)) (fun j hj => hr n (by omega) j hj)
  have h := key A.length (Nat.le_refl _)
  rw [List.take_length] at h
  exact h
theorem bas_is {p : Int} {c : Nat} (hp : prm p = true) (A : List (List Int)) (hl : ∀ i, i < A.length → (rw' A i).length = c) (hr : ∀ i, i < A.length → ∀ j, j < c → 0 ≤ at' A i j ∧ at' A i j < p) : IsBas p c A (bas p A) := by
  have hpb := prm_bd hp
  by_cases h0 : 0 < A.length
  · obtain ⟨m, P, h⟩ := kept_ex hp A hl hr
    have hb := h.bas
    have e := hl 0 h0
    subst e
    rw [← bas_eq (by omega) hb]
    exact hb
  · have hA : A = [] := List.eq_nil_of_length_eq_zero (by omega)
    subst hA
    rw [bas_nil (by omega)]
    exact (Kept.start p c fun _ => 0).bas
theorem RowsW.bas {p : Int} {A : List (List Int)} (h : RowsW p A) : IsBas p (rw' A 0).length A (bas p A) := bas_is h.prime A h.len h.rng
theorem isBas_self {p : Int} {c : Nat} {A m : List (List Int)} (h : IsBas p c A m) : IsBas p c m m := ⟨h.len, h.red, fun x => Iff.rfl⟩
/-- A reduced basis is its own reduced basis. -/
theorem bas_self {p : Int} {c : Nat} {A m : List (List Int)} (hp : 1 < p) (h : IsBas p c A m) : bas p m = m := by
  by_cases h0 : 0 < m.length
  · have e := h.len 0 h0
    subst e
    exact (bas_eq hp (isBas_self h)).symm
  · have hA : m = [] := List.eq_nil_of_length_eq_zero (by omega)
    subst hA
    exact bas_nil hp
theorem kerP_len {p : Int} {A : List (List Int)} {i : Nat} (h : i < (kerP p A).length) : (rw' (kerP p A) i).length = (rw' A 0).length := by
  obtain ⟨k', _, e⟩ := kerN_mem (mem_row h)
  unfold kerP
  rw [e]
  exact mkR_len _ _
theorem kerP_rng {p : Int} (hp : 0 < p) {A : List (List Int)} {i j : Nat} (h : i < (kerP p A).length) (hj : j < (rw' A 0).length) : 0 ≤ at' (kerP p A) i j ∧ at' (kerP p A) i j < p := by
  obtain ⟨k', _, e⟩ := kerN_mem (mem_row h)
  have e2 : at' (kerP p A) i j = (kvec p (bas p A) (pvs (bas p A)) (rw' A 0).length (bas p A).length k').getD j 0 := by
    unfold at'; rw [show rw' (kerP p A) i = _ from e]
  rw [e2]
  unfold kvec
  rw [mkR_at _ hj]
  exact ⟨Int.emod_nonneg _ (by omega), Int.emod_lt_of_pos _ hp⟩
theorem ker_is {p : Int} {A : List (List Int)} (hp : prm p = true) : IsBas p (rw' A 0).length (kerP p A) (kerB p A) :=
  bas_is hp _ (fun i hi => kerP_len hi) (fun i hi j hj => kerP_rng (by have := prm_bd hp; omega) hi hj)
theorem kerB_self {p : Int} {A : List (List Int)} (hp : prm p = true) : bas p (kerB p A) = kerB p A := bas_self (by have := prm_bd hp; omega) (ker_is hp)
theorem van_comm {p : Int} {c : Nat} {r x : Nat → Int} : van p c r x ↔ van p c x r := by
  unfold van; rw [sm_congr (fun j _ => Int.mul_comm (r j) (x j))]
theorem van_mod {p : Int} {c : Nat} {r r' x : Nat → Int} (h : ∀ j, j < c → r j % p = r' j % p) : van p c r x ↔ van p c r' x := by
  unfold van
  rw [show sm c (fun j => r j * x j) % p = sm c (fun j => r' j * x j) % p from by
    induction c with
    | zero => rfl
    | succ c ih =>
      show (sm c _ + r c * x c) % p = (sm c _ + r' c * x c) % p
      rw [Int.add_emod, ih (fun j hj => h j (by omega)), Int.mul_emod (r c), h c (Nat.lt_succ_self c), ← Int.mul_emod, ← Int.add_emod]]
/-- The rows vanish at the vectors of their kernel. -/
theorem ker_nul {p : Int} {A : List (List Int)} (h : RowsW p A) {i : Nat} (hi : i < A.length) : nul p (kerB p A).length (rw' A 0).length (at' (kerB p A)) (at' A i) := by
  refine ((ker_is h.prime).nul _).1 fun k hk => ?_
  obtain ⟨k', hk', e⟩ := kerN_mem (mem_row hk)
  have hR := h.bas.pivs
  have hz := (h.bas.nul _).2 (kv_nul hR hk') i hi
  have e2 : ∀ j, j < (rw' A 0).length → at' (kerP p A) k j % p = kv (bas p A).length (at' (bas p A)) (pvs (bas p A)) k' j % p := fun j hj => by
    have e3 : at' (kerP p A) k j = (kvec p (bas p A) (pvs (bas p A)) (rw' A 0).length (bas p A).length k').getD j 0 := by
      unfold at'; rw [show rw' (kerP p A) k = _ from e]
    rw [e3]
    unfold kvec
    rw [mkR_at _ hj, Int.emod_emod]
  exact (van_mod e2).2 (van_comm.1 hz)

end Go.Proofs.YtbnegbpapjcmhaaGreat

namespace Go.Proofs.YtbnegbpapjcmhaaGreat
open Go.RowKit
set_option linter.unusedVariables false

theorem range_one (f : Nat → Bool) (k : Nat) (h : ∀ j, f j = true ↔ j = k) (n : Nat) : (List.range n).filter f = if k < n then [k] else [] := by
  induction n with
  | zero => rfl
  | succ n ih =>
    rw [List.range_succ, List.filter_append, ih]
    by_cases e : n = k
    · subst e
      rw [if_neg (Nat.lt_irrefl _), if_pos (Nat.lt_succ_self _), List.filter_cons, if_pos ((h n).2 rfl)]; rfl
    · have hf : f n = false := by
        cases hh : f n with
        | false => rfl
        | true => exact absurd ((h n).1 hh) e
      have hn0 : [n].filter f = [] := by simp [hf]
      rw [hn0, List.append_nil]
      by_cases hk : k < n
      · rw [if_pos hk, if_pos (by omega)]
      · rw [if_neg hk, if_neg (by omega)]
theorem grades_one {S x : List Int} (h6 : S.length ≤ 6) (hx : x.length = bl S) {k : Nat} : grades S x = [(k : Int)] ↔ hasGr x k = true ∧ ∀ j, hasGr x j = true → j = k := by
  have hle : ∀ j, hasGr x j = true → j ≤ S.length := fun j hj => by
    obtain ⟨c, h1, h2, _⟩ := hasGr_iff.1 hj
    rw [← h2]
    exact gr_le_of h6 (by rw [hx] at h1; exact h1)
  constructor
  · intro h
    have hm : ∀ j, hasGr x j = true → j = k := fun j hj => by
      have : ((j : Nat) : Int) ∈ grades S x := List.mem_map.2 ⟨j, List.mem_filter.2 ⟨List.mem_range.2 (by have := hle j hj; omega), hj⟩, rfl⟩
      rw [h, List.mem_singleton] at this
      omega
    refine ⟨?_, hm⟩
    have : ((k : Nat) : Int) ∈ grades S x := by rw [h]; simp
    obtain ⟨j, h1, h2⟩ := List.mem_map.1 this
    have h3 := (List.mem_filter.1 h1).2
    rw [← hm j h3]; exact h3
  · rintro ⟨h1, h2⟩
    unfold grades
    rw [range_one (hasGr x) k (fun j => ⟨h2 j, fun e => by rw [e]; exact h1⟩), if_pos (by have := hle k h1; omega)]
    rfl

theorem wv_pm {p : Int} {S : List Int} (hs : isSp p S = true) {m : List (List Int)} {P : Nat → Nat} (hm : ∀ i, i < m.length → isVec p S.length (rw' m i) = true) (hR : Rref p m.length S.length (at' m) P) : (wvM p S m m.length).getD (pm P m.length) 0 = 1 := by
  have h6 := (isSp_iff.1 hs).hi
  have hp := prm_bd (isSp_iff.1 hs).prime
  have hb : pm P m.length < bl S := pm_lt P m.length hR.pv
  rw [wv_wD hs hm m.length (Nat.le_refl _) _ hb, wD_pm h6 hR m.length (Nat.le_refl _)]
  exact Int.emod_eq_of_lt (by omega) (by omega)
theorem blade_iff {p : Int} {S x : List Int} {m : List (List Int)} {P : Nat → Nat} (hs : isSp p S = true) (hx : x.length = bl S) (hn : ∀ j, j < x.length → 0 ≤ x.getD j 0 ∧ x.getD j 0 < p)
    (hm : ∀ i, i < m.length → isVec p S.length (rw' m i) = true) (hR : Rref p m.length S.length (at' m) P) (ha : ∀ j, j < m.length → Ann p S (rw' m j) x) :
    grades S x = [(m.length : Int)] ↔ x.getD (pm P m.length) 0 ≠ 0 ∧ (mkR (bl S) fun c => (wvM p S m m.length).getD c 0 * x.getD (pm P m.length) 0 % p) = x := by
  have h6 := (isSp_iff.1 hs).hi
  have hbl := bl_le h6
  have hpb := prm_bd (isSp_iff.1 hs).prime
  have hl : ∀ i, i < m.length → (rw' m i).length = S.length := fun i hi => (isVec_iff.1 (hm i hi)).len
  have hb : pm P m.length < bl S := pm_lt P m.length hR.pv
  rw [grades_one h6 hx]
  constructor
  · rintro ⟨h1, h2⟩
    have hH : Hom (bl S) x m.length := fun c hc hne => h2 _ (hasGr_iff.2 ⟨c, by rw [hx]; exact hc, rfl, hne⟩)
    have hT := take_hom (p := p) h6 hR.pv hH m.length (Nat.le_refl _)
    rw [Nat.sub_self] at hT
    have hy : ∀ c, c < bl S → (takeM p S P x m.length).getD c 0 = if c = 0 then (takeM p S P x m.length).getD 0 0 else 0 := fun c hc => by
      by_cases e : c = 0
      · rw [if_pos e, e]
      · rw [if_neg e]
        exact Classical.byContradiction fun h => e (gr_none c (by omega) (hT c hc h))
    have hk := (split_off (by omega) h6 hx hn hR hl ha m.length (Nat.le_refl _)).1
    have hc : ∀ c, c < bl S → x.getD c 0 = (wvM p S m m.length).getD c 0 * (takeM p S P x m.length).getD 0 0 % p := fun c hc => by
      have := wg_scal (p := p) (w := wvM p S m m.length) hy hc
      rw [hk] at this
      exact this
    have hf : x.getD (pm P m.length) 0 = (takeM p S P x m.length).getD 0 0 := by
      rw [hc _ hb, wv_pm hs hm hR, Int.one_mul]
      have := takeM_num (show 0 < p by omega) hn (S := S) (P := P) m.length 0 (by rw [takeM_len hx]; exact bl_pos S)
      exact Int.emod_eq_of_lt this.1 this.2
    constructor
    · intro h0
      obtain ⟨c, g1, _, g3⟩ := hasGr_iff.1 h1
      rw [hx] at g1
      apply g3
      rw [hc c g1, ← hf, h0, Int.mul_zero, Int.zero_emod]
    · refine row_ext (by rw [mkR_len, hx]) fun c hcc => ?_
      rw [mkR_len] at hcc
      rw [mkR_at _ hcc, hc c hcc, hf]
  · rintro ⟨h1, h2⟩
    have hg : ∀ c, c < bl S → x.getD c 0 ≠ 0 → gr c = m.length := fun c hc hne => by
      apply wD_hom (at' m) m.length c (by omega)
      intro h0
      apply hne
      have e := congrArg (fun z : List Int => z.getD c 0) h2
      simp only [mkR_at _ hc] at e
      rw [← e, wv_wD hs hm m.length (Nat.le_refl _) c hc, h0, Int.zero_emod, Int.zero_mul, Int.zero_emod]
    exact ⟨hasGr_iff.2 ⟨_, by rw [hx]; exact hb, hg _ hb h1, h1⟩, fun j hj => by
      obtain ⟨c, g1, g2, g3⟩ := hasGr_iff.1 hj
      rw [hx] at g1
      rw [← g2]; exact hg c g1 g3⟩

/-- The wedge products of the basis and a multivector as rows, and the matrix of these columns. -/
def colW (p : Int) (S x : List Int) : List (List Int) := mk S.length (bl S) fun i c => kF p S 0 (bladeM S (2 ^ i)) x c
def eqM (p : Int) (S x : List Int) : List (List Int) := mk (bl S) S.length fun c i => kF p S 0 (bladeM S (2 ^ i)) x c
theorem colW_row {p : Int} {S x : List Int} {i : Nat} (h : i < S.length) : rw' (colW p S x) i = wgM p S (bladeM S (2 ^ i)) x := mk_row _ h
theorem colW_tr {p : Int} {S x : List Int} (h : 1 ≤ S.length) : trM (colW p S x) = eqM p S x := by
  unfold trM eqM
  have h0 : (rw' (colW p S x) 0).length = bl S := mk_rowLen _ h
  rw [h0, show (colW p S x).length = S.length from mk_len _ _ _]
  exact mk_congr fun i hi j hj => mk_at _ hj hi
theorem eqM_wide {p : Int} {S x : List Int} (hs : isSp p S = true) : RowsW p (eqM p S x) := by
  have hb := bl_pos S
  have h6 := (isSp_iff.1 hs).hi
  have h1 := (isSp_iff.1 hs).lo
  have hbl := bl_le h6
  have hp := prm_bd (isSp_iff.1 hs).prime
  have e : (eqM p S x).length = bl S := mk_len _ _ _
  have e0 : ∀ i, i < bl S → (rw' (eqM p S x) i).length = S.length := fun i hi => mk_rowLen _ hi
  refine ⟨(isSp_iff.1 hs).prime, by omega, by omega, by rw [e0 0 hb]; exact h1, by rw [e0 0 hb]; omega, fun i hi => by rw [e] at hi; rw [e0 i hi, e0 0 hb], fun i hi j hj => ?_⟩
  rw [e] at hi
  rw [e0 0 hb] at hj
  rw [show at' (eqM p S x) i j = kF p S 0 (bladeM S (2 ^ j)) x i from mk_at _ hi hj]
  exact kF_bd (by omega) _ _ _ _ _
theorem eqM_c {p : Int} {S x : List Int} : (rw' (eqM p S x) 0).length = S.length := mk_rowLen _ (bl_pos S)
def unitR (n i : Nat) : List Int := mkR n fun j => if i = j then 1 else 0
theorem unit_blade {S : List Int} {i : Nat} (hi : i < S.length) : bladeM S (2 ^ i) = vecM S (unitR S.length i) := by
  unfold bladeM vecM
  apply mkR_congr
  intro j hj
  rw [vecF_sum, show (unitR S.length i).length = S.length from mkR_len _ _]
  rw [sm_congr (g := fun k => if k = i then (if j = 2 ^ i then 1 else 0) else 0), sm_single, if_pos hi]
  intro k hk
  rw [show (unitR S.length i).getD k 0 = if i = k then 1 else 0 from mkR_at _ hk]
  by_cases e : k = i
  · subst e; simp
  · have e' : ¬ i = k := fun h => e h.symm
    simp [e, e']
theorem lw_unit {n : Nat} (hn : n ≤ 6) {i : Nat} (hi : i < n) (y : Nat → Int) {c : Nat} (hc : c < 2 ^ n) : lw (fun k => (unitR n i).getD k 0) y c = if c / 2 ^ i % 2 = 1 then sl i (c ^^^ 2 ^ i) * y (c ^^^ 2 ^ i) else 0 := by
  rw [lw_short hn _ _ hc, sm_congr (g := fun k => if k = i then (if c / 2 ^ i % 2 = 1 then sl i (c ^^^ 2 ^ i) * y (c ^^^ 2 ^ i) else 0) else 0), sm_single, if_pos hi]
  intro k hk
  show (if c / 2 ^ k % 2 = 1 then (unitR n i).getD k 0 * _ * _ else 0) = _
  rw [show (unitR n i).getD k 0 = if i = k then 1 else 0 from mkR_at _ hk]
  by_cases e : k = i
  · subst e; simp
  · have e' : ¬ i = k := fun h => e h.symm
    simp [e, e']
/-- A vector solves the equations exactly if it annihilates the multivector. -/
theorem eqM_ann {p : Int} {S x v : List Int} (hs : isSp p S = true) (hv : v.length = S.length) : nul p (eqM p S x).length S.length (at' (eqM p S x)) (fun j => v.getD j 0) ↔ Ann p S v x := by
  have h6 := (isSp_iff.1 hs).hi
  have hbl := bl_le h6
  have key : ∀ c, c < bl S → sm S.length (fun j => at' (eqM p S x) c j * v.getD j 0) % p = (kM p S 0 (vecM S v) x).getD c 0 := fun c hc => by
    rw [kM_at _ _ _ _ _ hc, vec_wg p h6 _ hv hc, lw_short h6 _ _ hc]
    apply sm_congr_p
    intro i hi
    rw [show at' (eqM p S x) c i = kF p S 0 (bladeM S (2 ^ i)) x c from mk_at _ hc hi, unit_blade hi, vec_wg p h6 x (v := unitR S.length i) (mkR_len _ _) hc, lw_unit h6 hi _ hc, em_l]
    by_cases hb : c / 2 ^ i % 2 = 1
    · rw [if_pos hb, if_pos hb]; congr 1; ac_rfl
    · rw [if_neg hb, if_neg hb, Int.zero_mul]
  constructor
  · intro h c hc
    rw [← key c hc]
    exact h c (by rw [show (eqM p S x).length = bl S from mk_len _ _ _]; exact hc)
  · intro h c hc
    rw [show (eqM p S x).length = bl S from mk_len _ _ _] at hc
    exact (key c hc).trans (h c hc)

/-- The reduced basis of the subspace, the factor, whether it is a blade. -/
noncomputable def subM (p : Int) (S x : List Int) : List (List Int) := kerB p (eqM p S x)
noncomputable def maskM (p : Int) (S x : List Int) : Nat := pm (pvs (subM p S x)) (subM p S x).length
noncomputable def facM (p : Int) (S x : List Int) : Int := x.getD (maskM p S x) 0
noncomputable def isBl (p : Int) (S x : List Int) : Bool := decide (grades S x = [((subM p S x).length : Int)])
noncomputable def wvB (p : Int) (S : List Int) (m : List (List Int)) : List Int := wvM p S (bas p m) (bas p m).length
theorem sub_is {p : Int} {S x : List Int} (hs : isSp p S = true) : IsBas p S.length (kerP p (eqM p S x)) (subM p S x) := by
  have h := ker_is (A := eqM p S x) (isSp_iff.1 hs).prime
  rw [eqM_c] at h
  exact h
theorem sub_red {p : Int} {S x : List Int} (hs : isSp p S = true) : Rref p (subM p S x).length S.length (at' (subM p S x)) (pvs (subM p S x)) := (sub_is hs).pivs
theorem sub_self {p : Int} {S x : List Int} (hs : isSp p S = true) : bas p (subM p S x) = subM p S x := kerB_self (isSp_iff.1 hs).prime
theorem sub_vec {p : Int} {S x : List Int} (hs : isSp p S = true) : ∀ i, i < (subM p S x).length → isVec p S.length (rw' (subM p S x) i) = true := fun i hi => by
  have hl := (sub_is (x := x) hs).len i hi
  have hR := (sub_red (x := x) hs).rng i hi
  refine isVec_iff.2 ⟨hl, ?_⟩
  rw [List.all_eq_true]
  intro z hz
  obtain ⟨j, hj, rfl⟩ := List.getElem_of_mem hz
  have h2 := hR j (by omega)
  unfold at' at h2
  rw [getD_at hj] at h2
  exact inr_iff.2 h2
theorem sub_ann {p : Int} {S x : List Int} (hs : isSp p S = true) : ∀ j, j < (subM p S x).length → Ann p S (rw' (subM p S x) j) x := fun j hj => by
  refine (eqM_ann hs ((sub_is hs).len j hj)).1 fun c hc => ?_
  have h := ker_nul (eqM_wide (x := x) hs) hc j hj
  rw [eqM_c] at h
  exact van_comm.1 h
theorem sub_le {p : Int} {S x : List Int} (hs : isSp p S = true) : (subM p S x).length ≤ 6 := Nat.le_trans (sub_red hs).rows_le (isSp_iff.1 hs).hi
theorem sub_list {p : Int} {S x : List Int} (hs : isSp p S = true) : listB p S (subM p S x) = true := by
  unfold listB
  rw [Bool.and_eq_true, decide_eq_true_eq]
  refine ⟨List.all_eq_true.2 fun z hz => ?_, by have := sub_le (x := x) hs; omega⟩
  obtain ⟨i, hi, rfl⟩ := List.getElem_of_mem hz
  have := sub_vec (x := x) hs i hi
  unfold rw' at this
  rw [show (subM p S x).getD i [] = (subM p S x)[i] by simp [List.getD, hi]] at this
  exact this
theorem mask_lt {p : Int} {S x : List Int} (hs : isSp p S = true) : maskM p S x < bl S := pm_lt _ _ (sub_red hs).pv
theorem isBl_iff {p : Int} {S x : List Int} (hs : isSp p S = true) (hx : isMv p S x = true) : isBl p S x = true ↔ facM p S x ≠ 0 ∧ (mkR (bl S) fun c => (wvM p S (subM p S x) (subM p S x).length).getD c 0 * facM p S x % p) = x := by
  unfold isBl
  rw [decide_eq_true_eq]
  exact blade_iff hs (Mv.len hx) (Mv.nums hx) (sub_vec hs) (sub_red hs) (sub_ann hs)
theorem wvB_sub {p : Int} {S x : List Int} (hs : isSp p S = true) : wvB p S (subM p S x) = wvM p S (subM p S x) (subM p S x).length := by unfold wvB; rw [sub_self hs]
theorem mul_back : every2 (fun p a f => a == 0 || f * a % p * inv p a % p == f) = true := by decide +kernel
theorem fac_back {p : Int} {S x : List Int} (hs : isSp p S = true) (hx : isMv p S x = true) (hb : isBl p S x = true) {c : Nat} (hc : c < bl S) (hne : (wvB p S (subM p S x)).getD c 0 ≠ 0) : x.getD c 0 * inv p ((wvB p S (subM p S x)).getD c 0) % p = facM p S x := by
  have hp := (isSp_iff.1 hs).prime
  have e := ((isBl_iff hs hx).1 hb).2
  have e2 := congrArg (fun z : List Int => z.getD c 0) e
  simp only [mkR_at _ hc] at e2
  rw [wvB_sub hs] at hne ⊢
  rw [← e2]
  have hw := wv_mv hs (subM p S x) (subM p S x).length
  have b1 := Mv.nums hw c (by rw [Mv.len hw]; exact hc)
  have b2 : 0 ≤ facM p S x ∧ facM p S x < p := Mv.nums hx _ (by rw [Mv.len hx]; exact mask_lt hs)
  have := every2_at mul_back hp b1.1 b1.2 b2.1 b2.2
  rw [Bool.or_eq_true] at this
  rcases this with h | h
  · exact absurd (by simpa using h) hne
  · rw [Int.mul_comm ((wvM p S (subM p S x) (subM p S x).length).getD c 0)]
    simpa using h

end Go.Proofs.YtbnegbpapjcmhaaGreat
