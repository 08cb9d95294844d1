/-
  Fixed vectors: contracts of the program and of the model.
  Conditions: the lists are nil or rows of known cells, of at most 1048576 numbers.
-/
import Derived.Test.YtigdepahbnidjaaQo32
import Derived.Test.YtigdepahbnidjaaQo33
import Derived.Test.YtigdepahbnidjaaQo35
import Derived.Test.YtigdepahbnidjaaQo36
import Derived.Test.YtigdepahbnidjaaQo8
import Derived.Test.YtigdepahbnidjaaQo12
import Derived.Deep.RegionHeld3
import Derived.Deep.DeepCutAuto
namespace Go.Proofs.Ytigdepahbnidjaa
open Go.RowKit
set_option linter.unusedVariables false

def fxF (p : Int) (m : List (List Int)) (i j : Nat) : Int := ((if i = j then 1 else 0) + (p - 1) * at' m i j) % p
def fxG (p : Int) (m : List (List Int)) (i j : Nat) : Int := if j = i then (at' m i j + p - 1) % p else at' m i j
def fxP (p : Int) (m : List (List Int)) : List (List Int) := mk m.length m.length (fxF p m)
def fxM (p : Int) (m : List (List Int)) : List (List Int) := mk m.length m.length (fxG p m)
theorem fx_neg {p : Int} {m : List (List Int)} (i j : Nat) (x : Int) (h : at' m i j % p = at' m i j) : p ∣ fxF p m i j * x + fxG p m i j * x := by
  rw [← Int.add_mul]
  refine Int.dvd_mul_of_dvd_left ?_
  unfold fxF fxG
  by_cases e : i = j
  · subst e
    rw [if_pos rfl, if_pos rfl, Int.emod_def, Int.emod_def (at' m i i + p - 1)]
    refine ⟨at' m i i + 1 - (1 + (p - 1) * at' m i i) / p - (at' m i i + p - 1) / p, ?_⟩
    rw [Int.mul_sub, Int.mul_sub, Int.mul_add, Int.sub_mul p 1]
    omega
  · rw [if_neg e, if_neg (fun h => e h.symm), Int.emod_def]
    refine ⟨at' m i j - (0 + (p - 1) * at' m i j) / p, ?_⟩
    rw [Int.mul_sub, Int.sub_mul p 1]
    omega
theorem sm_dvd {p : Int} {n : Nat} {f : Nat → Int} (h : ∀ j, j < n → p ∣ f j) : p ∣ sm n f := by
  have e := sm_cong_p (p := p) (n := n) (f := f) (g := fun _ => 0) (fun j hj => by rw [Int.emod_eq_zero_of_dvd (h j hj)]; simp)
  rw [sm_zero] at e
  exact Int.dvd_of_emod_eq_zero (by rw [e]; simp)
theorem fx_van {p : Int} {m : List (List Int)} (hm : Lst 1 p m) (hc : (rw' m 0).length = m.length) {i : Nat} (hi : i < m.length) (x : Nat → Int) : sm m.length (fun j => fxF p m i j * x j) % p = 0 ↔ sm m.length (fun j => fxG p m i j * x j) % p = 0 := by
  have h : p ∣ sm m.length (fun j => fxF p m i j * x j) + sm m.length (fun j => fxG p m i j * x j) := by
    rw [← sm_add]
    exact sm_dvd fun j hj => fx_neg i j (x j) (by have := hm.at hi (by rw [hc]; exact hj); exact Int.emod_eq_of_lt this.1 this.2)
  rw [← Int.dvd_iff_emod_eq_zero, ← Int.dvd_iff_emod_eq_zero]
  exact (Int.dvd_add_right (c := sm m.length (fun j => fxG p m i j * x j)) · |>.mp h |> fun k => k) |> fun f => ⟨fun k => (Int.dvd_add_right k).1 h, fun k => (Int.dvd_add_left k).1 h⟩
theorem fxP_rows {p : Int} {m : List (List Int)} (hm : Lst 1 p m) : RowsW p (fxP p m) := by
  have hp := prm_bd hm.prime
  have l : (fxP p m).length = m.length := mk_len _ _ _
  have r0 : (rw' (fxP p m) 0).length = m.length := by unfold fxP; rw [mk_row _ hm.lo, mkR_len]
  refine ⟨hm.prime, by rw [l]; exact hm.lo, by rw [l]; have := hm.hi; omega, by rw [r0]; exact hm.lo, by rw [r0]; exact hm.hi, fun i hi => ?_, fun i hi j hj => ?_⟩
  · rw [l] at hi; rw [r0]; unfold fxP; rw [mk_row _ hi, mkR_len]
  · rw [l] at hi; rw [r0] at hj
    unfold fxP; rw [mk_at _ hi hj]
    exact ⟨Int.emod_nonneg _ (by omega), Int.emod_lt_of_pos _ (by omega)⟩
theorem fxM_rows {p : Int} {m : List (List Int)} (hm : Lst 1 p m) (hc : (rw' m 0).length = m.length) : RowsW p (fxM p m) := by
  have hp := prm_bd hm.prime
  have l : (fxM p m).length = m.length := mk_len _ _ _
  have r0 : (rw' (fxM p m) 0).length = m.length := by unfold fxM; rw [mk_row _ hm.lo, mkR_len]
  refine ⟨hm.prime, by rw [l]; exact hm.lo, by rw [l]; have := hm.hi; omega, by rw [r0]; exact hm.lo, by rw [r0]; exact hm.hi, fun i hi => ?_, fun i hi j hj => ?_⟩
  · rw [l] at hi; rw [r0]; unfold fxM; rw [mk_row _ hi, mkR_len]
  · rw [l] at hi; rw [r0] at hj
    unfold fxM; rw [mk_at _ hi hj]
    unfold fxG
    split
    · exact ⟨Int.emod_nonneg _ (by omega), Int.emod_lt_of_pos _ (by omega)⟩
    · exact hm.at hi (by rw [hc]; exact hj)
theorem fx_ker {p : Int} {m : List (List Int)} (hm : Lst 1 p m) (hc : (rw' m 0).length = m.length) : kerB p (fxP p m) = kerB p (fxM p m) := by
  have hp := prm_bd hm.prime
  have h1 := fxP_rows hm
  have h2 := fxM_rows hm hc
  have l1 : (fxP p m).length = m.length := mk_len _ _ _
  have l2 : (fxM p m).length = m.length := mk_len _ _ _
  have r1 : (rw' (fxP p m) 0).length = m.length := by unfold fxP; rw [mk_row _ hm.lo, mkR_len]
  have r2 : (rw' (fxM p m) 0).length = m.length := by unfold fxM; rw [mk_row _ hm.lo, mkR_len]
  have hB := h1.bas
  have hB2 : IsBas p (rw' (fxM p m) 0).length (fxM p m) (bas p (fxP p m)) := by
    rw [r2]
    rw [r1] at hB
    refine ⟨hB.len, hB.red, fun x => Iff.trans ?_ (hB.nul x)⟩
    rw [l1, l2]
    constructor
    · intro h i hi
      have e : sm m.length (fun j => at' (fxP p m) i j * x j) = sm m.length (fun j => fxF p m i j * x j) := sm_congr fun j hj => by unfold fxP; rw [mk_at _ hi hj]
      rw [e]
      refine (fx_van hm hc hi x).2 ?_
      have := h i hi
      rwa [show sm m.length (fun j => at' (fxM p m) i j * x j) = sm m.length (fun j => fxG p m i j * x j) from sm_congr fun j hj => by unfold fxM; rw [mk_at _ hi hj]] at this
    · intro h i hi
      have e : sm m.length (fun j => at' (fxM p m) i j * x j) = sm m.length (fun j => fxG p m i j * x j) := sm_congr fun j hj => by unfold fxM; rw [mk_at _ hi hj]
      rw [e]
      refine (fx_van hm hc hi x).1 ?_
      have := h i hi
      rwa [show sm m.length (fun j => at' (fxP p m) i j * x j) = sm m.length (fun j => fxF p m i j * x j) from sm_congr fun j hj => by unfold fxP; rw [mk_at _ hi hj]] at this
  have e := bas_eq (by omega) hB2
  unfold kerB kerP
  rw [e, r1, r2]
theorem ite_bd {p : Int} (hp : 3 ≤ p) (i j : Nat) : 0 ≤ (if i = j then (1 : Int) else 0) ∧ (if i = j then (1 : Int) else 0) < p := by
  by_cases e : i = j
  · rw [if_pos e]; omega
  · rw [if_neg e]; omega
theorem rref_le {p : Int} {n c : Nat} {R : Nat → Nat → Int} {P : Nat → Nat} (h : Rref p n c R P) : n ≤ c := by
  have key : ∀ i, i < n → i ≤ P i := by
    intro i
    induction i with
    | zero => intro _; exact Nat.zero_le _
    | succ i ih => intro hi; have h1 := ih (by omega); have h2 := h.mono i (i + 1) (by omega) hi; omega
  by_cases h0 : n = 0
  · omega
  · have h1 := key (n - 1) (by omega)
    have h2 := h.pv (n - 1) (by omega)
    omega
theorem fxP_len (p : Int) (m : List (List Int)) : (fxP p m).length = m.length := mk_len _ _ _
noncomputable def fxV (p : Int) (S : List Int) (m : List (List Int)) : List (List Int) := if coC p S m = 0 then kerB p (fxM p m) else []
theorem fxV_size (p : Int) (S : List Int) (m : List (List Int)) : (fxV p S m).length + tot (fxV p S m) (fxV p S m).length ≤ 1048576 := by
  unfold fxV; split
  · rename_i h
    have hh := orB_all (coC_zero h).2
    have hm := isL_iff.1 hh.2.1
    have hp := prm_bd hm.prime
    have hc : (rw' m 0).length = m.length := by rw [hh.2.2.1, hh.1]
    have r2 : (rw' (fxM p m) 0).length = m.length := by unfold fxM; rw [mk_row _ hm.lo, mkR_len]
    have hk := ker_is (A := fxM p m) hm.prime
    rw [r2] at hk
    obtain ⟨P, hP⟩ := hk.red
    have h1 := rref_le hP
    have h16 := hm.hi
    rw [tot_const (c := m.length) hk.len (Nat.le_refl _)]
    have : (kerB p (fxM p m)).length * m.length ≤ 16 * 16 := Nat.mul_le_mul (by omega) h16
    omega
  · simp [tot]
theorem kernelOf_n (p : Int) (a : Option Addr) (A : List (List Int)) (n ca lo tp : Nat) (w : World) (hn : A.length = n) (hm : MatIn lo tp w a A) (ht : tp ≤ w.heap.size) (hA : RowsW p A) :
    Calls Try.prog 81 #[.int .i64 p, .slice a n ca] w (OwnK (kerB p A) w) := by
  subst hn; exact kernelOf_any p a A ca lo tp w hm ht hA
theorem kernelW_n (p : Int) (a : Option Addr) (A : List (List Int)) (n ca lo tp : Nat) (w : World) (hn : A.length = n) (hm : MatIn lo tp w a A) (ht : tp ≤ w.heap.size) (hA : RowsW p A) :
    Calls Try.prog 79 #[.int .i64 p, .slice a n ca] w (NewM (kerB p A) w) := by
  subst hn; exact l02Kernel_wide p a A ca lo tp w hm ht hA
/-- A unit matrix in its own place. -/
def NewAt (n : Nat) (w : World) (e : Ending) (w' : World) : Prop := ∃ (q : Place) (c : Nat), e = .returned (.slice (some ⟨q.b, q.o, none⟩) n c) ∧ OwnAt w.heap.size w'.heap.size w' q n (fun _ => n) (fun i j => if i = j then 1 else 0) ∧ Below w.heap.size w w'
theorem tag_put {lo tp : Nat} {w : World} {b o n i : Nat} {f : Nat → Int} {cur : Array Value} (hc : w.heap[b]? = some (.cells cur 2 (0, 0))) (h : ∀ j, j < n → w.cell? ⟨b, o + j, none⟩ = some (.int .i64 (f j))) (hi : i < n) (v : Int) (h0 : lo ≤ b) (h1 : b < tp) : TagR lo tp (w.setCell ⟨b, o + i, none⟩ (.int .i64 v)) (some ⟨b, o, none⟩) (mkR n (fun j => if j = i then v else f j)) := by
  refine .inr ⟨b, o, cur.setIfInBounds (o + i) (.int .i64 v), rfl, h0, h1, by simp [World.setCell, Array.getElem?_modify, hc], fun j hj => ?_⟩
  rw [mkR_len] at hj
  rw [mkR_at _ hj]
  by_cases e : j = i
  · subst e; rw [if_pos rfl]; exact World.cell?_setCell_same w _ _ (h j hj)
  · rw [if_neg e]; exact (World.cell?_setCell_other _ _ _ _ (fun e2 => e (by injection e2 with _ e3; omega))).trans (h j hj)
theorem l01Own_m (a : Option Addr) (zs : List Int) (n ca lo tp : Nat) (w : World) (hn : zs.length = n) (ha : RowIn lo tp w a zs) (ht : tp ≤ w.heap.size) (h0 : 0 < n) (hs : n ≤ 1048576) :
    Calls Try.prog 78 #[.slice a n ca] w (fun e w' => ∃ (b o c : Nat) (cur : Array Value), e = .returned (.slice (some ⟨b, o, none⟩) n c) ∧ w.heap.size ≤ b ∧ b < w'.heap.size ∧ w'.heap[b]? = some (.cells cur 2 (0, 0)) ∧ (∀ j, j < n → w'.cell? ⟨b, o + j, none⟩ = some (.int .i64 (zs.getD j 0))) ∧ Below w.heap.size w w') := by
  subst hn
  exact (l01Own_any a zs ca lo tp w ha ht h0 hs).mono fun _ _ ⟨r, c, e, t, b⟩ => by
    rcases t with h | ⟨b', o, cur, rfl, g0, g1, g2, g3⟩
    · rw [h] at h0; cases h0
    · exact ⟨b', o, c, cur, e, g0, g1, g2, g3, b⟩

set_option maxHeartbeats 1600000 in
theorem unitMatrix_at (n : Nat) (w : World) (hn : n ≤ 1024) (h0 : 1 ≤ n) :
    Calls Try.prog 74 #[.int .i64 n] w (NewAt n w) := by
  go_enter Try.func74, Try.ntmps74
  go_wp2_with (go_at_call 113; (with_reducible refine (newMatrix_any n n _ (by omega) (by omega) (by omega)).mono ?_); rintro e w1 ⟨q, rfl, ho1, hb1⟩; have HO1 := Lib.hid ho1; have HB1 := Lib.hid hb1; clear ho1 hb1)
  go_loopw [10] (fun t wr => ∃ i : Nat, i ≤ n ∧ t = .int .i64 i ∧ OwnAt w.heap.size w1.heap.size wr q n (fun _ => n) (fun k j => if k < i ∧ k = j then 1 else 0) ∧ Below w.heap.size w wr ∧ wr.heap.size = w1.heap.size) (fun t _ => n - (intOf t).toNat)
  case atStart => exact ⟨0, Nat.zero_le _, rfl, HO1.out.congr (fun i _ j _ => by simp), HB1.out, rfl⟩
  case round =>
    obtain ⟨i, hi, rfl, ho, hbel, hsz⟩ := hrel
    have HO := Lib.hid ho
    have HBEL := Lib.hid hbel
    have HSZ := Lib.hid hsz
    clear hsz hbel
    by_cases hlt : i < n
    · have ht3 := ho.top i hlt
      have hR := (ho.row i hlt).resolve_left (by omega)
      rw [hR] at ht3
      have hf3 := ho.free i hlt i hlt
      have hrg := ho.rrng i hlt (by omega)
      obtain ⟨y, hy⟩ : ∃ y, wr.cell? ⟨q.B i, q.O i + i, none⟩ = some (.int .i64 y) := ⟨_, ho.cell i hlt i hlt⟩
      have hi1 : (i : Int) < (n : Int) := by omega
      clear ho hR
      go_wp2
      go_roundw
      case rel => exact ⟨i + 1, by omega, by go_num, (HO.out.set hlt hlt 1).congr (fun k hk j _ => by
        by_cases e1 : k = i ∧ j = i
        · obtain ⟨rfl, rfl⟩ := e1
          rw [if_pos ⟨rfl, rfl⟩, if_pos ⟨by omega, rfl⟩]
        · rw [if_neg e1]
          by_cases e2 : k < i ∧ k = j
          · rw [if_pos e2, if_pos ⟨by omega, e2.2⟩]
          · rw [if_neg e2, if_neg (by omega)]), HBEL.out.setCell hrg.1 _, by simpa [World.setCell] using HSZ.out⟩
      case measure => simp [intOf]; omega
    · have hn : i = n := by omega
      subst hn
      have HF := Lib.hid (HO.out.congr (Z' := fun k j => if k = j then 1 else 0) (fun k hk j _ => by
        by_cases e : k = j
        · rw [if_pos ⟨hk, e⟩, if_pos e]
        · rw [if_neg (fun h => e h.2), if_neg e]))
      clear ho
      go_wp2
      go_ret
      exact ⟨q, i, rfl, HF.out.mono (Nat.le_refl _) (by rw [HSZ.out]; exact Nat.le_refl _), HBEL.out⟩

set_option maxRecDepth 100000 in
set_option maxHeartbeats 6400000 in
theorem impl_FixedVectors (pS : Int) (aS : Option Addr) (S : List Int) (cS loS tpS : Nat) (am : Option Addr) (m : List (List Int)) (cm lom tpm : Nat) (w : World) (hS : RowIn loS tpS w aS S) (tS : tpS ≤ w.heap.size) (sS : S.length ≤ 1048576) (hm : MatIn lom tpm w am m) (tm : tpm ≤ w.heap.size) (sm' : m.length + tot m m.length ≤ 1048576) :
    Calls Try.prog 44 #[.agg #[.int .i64 pS, .slice aS S.length cS], .slice am m.length cm] w (ImplM (fxV pS S m) (coC pS S m) w) := by
  have HS := Lib.hid hS
  have Hm := Lib.hid hm
  have HSM := Lib.hid sm'
  have k0 := nw0 w (.int .i64 pS) (.slice aS S.length cS) 30
  have k1 := nw1 w (.int .i64 pS) (.slice aS S.length cS) 30
  have HB0 := Lib.hid (below_alloc w (.cells #[.int .i64 pS, .slice aS S.length cS] 30))
  clear hS hm sm'
  by_cases h0 : coC pS S m = 0
  · have HC0 := Lib.hid h0
    have HI := Lib.hid (reg0 (coC_zero h0).1).1
    have hh := orB_all (coC_zero h0).2
    have HL := Lib.hid (isL_iff.1 hh.2.1)
    have hc_ : (rw' m 0).length = m.length := by rw [hh.2.2.1, hh.1]
    have HCC : Hid (∀ i, i < m.length → (rw' m i).length = m.length) := fun i hi => by rw [HL.out.len i hi, hc_]
    have HV : Hid (fxV pS S m = kerB pS (fxM pS m)) := if_pos h0
    have HVP : Hid (kerB pS (fxP pS m) = kerB pS (fxM pS m)) := fx_ker HL.out hc_
    have HRP := Lib.hid (fxP_rows HL.out)
    have HRM := Lib.hid (fxM_rows HL.out hc_)
    have hpb := prm_bd (isSp_iff.1 HI.out).prime
    have hm0 : 0 < m.length := HL.out.lo
    have hm16 : m.length ≤ 16 := HL.out.hi
    have hw1_ : wrap64 (pS - 1) = pS - 1 := by unfold wrap64; omega
    have hw2_ : IntKind.i64.wrap (pS - 1) = pS - 1 := IntWalk.i64_in _ (by omega)
    clear h0 hh hc_
    go_enter Try.func44, Try.ntmps44
    go_upto_region 1 with fail
    obtain ⟨w1, hw1⟩ : ∃ z, z = w.alloc (.cells #[.int .i64 pS, .slice aS S.length cS] 30) := ⟨_, rfl⟩
    rw [← hw1] at HB0 k0 k1 ⊢
    have hd1 : w.heap.size < w1.heap.size := by rw [hw1]; simp
    have HB1 := HB0
    clear hw1
    have SS1 := Lib.hid (And.intro k0 k1)
    go_wp2_with (first | (go_at_call 63; ((with_reducible refine (checkOrthogonal_any pS aS S cS loS tpS am m cm lom tpm w1 (HS.out.below HB1.out tS) (Nat.le_trans tS HB1.out.size) sS (Hm.out.below HB1.out tm) (Nat.le_trans tm HB1.out.size) HSM.out).mono ?_); rintro e w2 ⟨rfl, b_⟩; rw [HC0.out]; have SS2 := Lib.hid (ss2 b_ hd1 SS1.out); have HB2 := Lib.hid (below_step HB1.out HB1.out.size b_); have hd2 := Nat.lt_of_lt_of_le hd1 b_.size; clear k0 k1; obtain ⟨k0, k1⟩ := SS2.out; clear b_)) | (go_at_call 74; ((with_reducible refine (unitMatrix_at m.length w2 (by omega) (by omega)).mono ?_); rintro e w3 ⟨q, c, rfl, o_, b_⟩; have SS3 := Lib.hid (ss2 b_ hd2 SS2.out); have HB3 := Lib.hid (below_step HB2.out HB2.out.size b_); have hd3 := Nat.lt_of_lt_of_le hd2 b_.size; have HU := Lib.hid o_; have HB23 := Lib.hid b_; clear o_; clear k0 k1; obtain ⟨k0, k1⟩ := SS3.out; clear b_)))
    go_loopw [21] (fun t wr => ∃ i : Nat, i ≤ m.length ∧ t = .int .i64 i ∧ OwnAt w2.heap.size w3.heap.size wr q m.length (fun _ => m.length) (fun a j => if a < i then fxF pS m a j else if a = j then 1 else 0) ∧ Below w2.heap.size w2 wr ∧ wr.heap.size = w3.heap.size) (fun t _ => m.length - (intOf t).toNat)
    case atStart => exact ⟨0, Nat.zero_le _, rfl, HU.out.congr (fun a _ j _ => by simp), HB23.out, rfl⟩
    case round =>
      obtain ⟨i, hi, rfl, ho, hbel, hsz⟩ := hrel
      have HO := Lib.hid ho
      have HBL := Lib.hid hbel
      have HSZ := Lib.hid hsz
      have HBX : Hid (Below w.heap.size w wr) := HB2.out.trans (hbel.mono HB2.out.size)
      clear k0 k1
      have k0 := (hbel.cell (p := ⟨w.heap.size, 0, none⟩) hd2).trans SS2.out.1
      have k1 := (hbel.cell (p := ⟨w.heap.size, 1, none⟩) hd2).trans SS2.out.2
      by_cases hlt : i < m.length
      · have ht3 := ho.top i hlt
        have hR := (ho.row i hlt).resolve_left (by omega)
        rw [hR] at ht3
        have hrg := ho.rrng i hlt (by omega)
        have HRG := Lib.hid hrg
        have hi1 : (i : Int) < (m.length : Int) := by omega
        obtain ⟨b9, o9, rv, cv, ha9, _, hb9, hr9, hrow⟩ := (Hm.out.below HBX.out tm).row hlt
        subst ha9
        have hzx := HBX.out.size
        have HRV := Lib.hid (hrow.below (below_drew wr) (Nat.le_trans tm hzx))
        have HRO : Hid (RowOwn wr.drew (q.B i) (q.O i) m.length (fun j => if i = j then 1 else 0)) := ⟨fun j hj => by
          have h := ho.cell i hlt j hj
          rw [if_neg (Nat.lt_irrefl _)] at h
          exact h, fun j hj => ho.free i hlt j hj⟩
        have HRL := Lib.hid (HCC.out i hlt)
        have htq : tpm ≤ q.B i := Nat.le_trans tm (Nat.le_trans HB2.out.size hrg.1)
        have hne : w.heap.size ≠ q.B i := by have := hrg.1; omega
        have hne9 : b9 ≠ q.B i := by omega
        have HNM : Hid (Nums pS (rw' m i)) := fun j hj => HL.out.at hlt (by rw [HCC.out 0 hm0]; rw [HRL.out] at hj; exact hj)
        have HDL : Hid (∀ j, j < m.length → 0 ≤ (fun j => if i = j then (1 : Int) else 0) j ∧ (fun j => if i = j then (1 : Int) else 0) j < pS) := fun j _ => by show 0 ≤ (if i = j then (1 : Int) else 0) ∧ (if i = j then (1 : Int) else 0) < pS; exact ite_bd hpb.1 i j
        have hs1 : Hid (wr.drew.cell? ⟨w.heap.size, 0, none⟩ = some (.int .i64 pS) ∧ wr.drew.cell? ⟨w.heap.size, 1, none⟩ = some (.slice aS S.length cS) ∧ wr.drew.cell? ⟨b9, o9 + i, none⟩ = some (.slice rv (rw' m i).length cv)) := ⟨k0, k1, hr9⟩
        have htp : tpm ≤ wr.drew.heap.size := Nat.le_trans tm hzx
        have hk0 : 0 ≤ pS - 1 := by omega
        have hk1 : pS - 1 ≤ pS := by omega
        have hn1 : m.length ≤ (rw' m i).length := by rw [HRL.out]; exact Nat.le_refl _
        have hn2 : (rw' m i).length ≤ 100000 := by rw [HRL.out]; omega
        clear ho hbel hsz hR hrg hrow hr9 k0 k1
        go_wp2
        go_region_held3 (fun w' => w'.cell? ⟨w.heap.size, 0, none⟩ = some (.int .i64 pS) ∧ w'.cell? ⟨w.heap.size, 1, none⟩ = some (.slice aS S.length cS) ∧ w'.cell? ⟨b9, o9 + i, none⟩ = some (.slice rv (rw' m i).length cv)) (first | exact hs1.out | exact SSa.out | go_keep) ((go_at_call 80; ((with_reducible refine (addMultiple_any pS (pS - 1) (q.B i) (q.O i) m.length (q.C i) (fun j => if i = j then 1 else 0) rv (rw' m i) cv lom tpm wr.drew (isSp_iff.1 HI.out).prime HRO.out HRV.out (.inr htq) hn1 hn2 HDL.out HNM.out hk0 hk1).mono ?_); rintro e wa ⟨rfl, o_, q_⟩; have SSa : Hid (wa.cell? ⟨w.heap.size, 0, none⟩ = some (.int .i64 pS) ∧ wa.cell? ⟨w.heap.size, 1, none⟩ = some (.slice aS S.length cS) ∧ wa.cell? ⟨b9, o9 + i, none⟩ = some (.slice rv (rw' m i).length cv)) := ⟨(World.cell?_of_block (w := wr.drew) (a := ⟨w.heap.size, 0, none⟩) (q_.block _ hne)).trans hs1.out.1, (World.cell?_of_block (w := wr.drew) (a := ⟨w.heap.size, 1, none⟩) (q_.block _ hne)).trans hs1.out.2.1, (World.cell?_of_block (w := wr.drew) (a := ⟨b9, o9 + i, none⟩) (q_.block _ hne9)).trans hs1.out.2.2⟩; have OO := Lib.hid o_; have QQ := Lib.hid q_; clear o_ q_)))
        go_wp2
        go_roundw
        case rel => exact ⟨i + 1, by omega, by go_num, (((HO.out.same (w' := wr.drew) (fun _ _ _ => rfl)).wrote hlt QQ.out _ (fun j hj => OO.out.cell j hj)).congr (fun a ha j hj => by
          show (if a = i then ((if i = j then 1 else 0) + (pS - 1) * (rw' m i).getD j 0) % pS else if a < i then fxF pS m a j else if a = j then 1 else 0) = if a < i + 1 then fxF pS m a j else if a = j then 1 else 0
          by_cases e : a = i
          · subst e; rw [if_pos rfl, if_pos (Nat.lt_succ_self _)]; rfl
          · rw [if_neg e]
            by_cases l : a < i
            · rw [if_pos l, if_pos (show a < i + 1 by omega)]
            · rw [if_neg l, if_neg (show ¬ a < i + 1 by omega)])), HBL.out.drew.trans (QQ.out.belowB HRG.out.1), by rw [QQ.out.size]; exact HSZ.out⟩
        case measure => simp [intOf]; omega
      · have hi2 : ¬ (i : Int) < (m.length : Int) := by omega
        have hin : i = m.length := by omega
        have HF : Hid (OwnAt w2.heap.size w3.heap.size wr q m.length (fun _ => m.length) (fxF pS m)) := ho.congr (fun a ha j _ => by rw [if_pos (by omega)])
        have HFM : Hid (MatIn w2.heap.size w3.heap.size wr (some ⟨q.b, q.o, none⟩) (fxP pS m)) := by show MatIn _ _ _ _ _; exact HF.out.ownM.mat
        have hz3 : w3.heap.size ≤ wr.heap.size := by rw [hsz]; exact Nat.le_refl _
        clear ho hbel hsz hin
        go_wp2_with (go_at_call 81; ((with_reducible refine (kernelOf_n pS (some ⟨q.b, q.o, none⟩) (fxP pS m) m.length c w2.heap.size w3.heap.size wr (fxP_len _ _) HFM.out hz3 HRP.out).mono ?_); rintro e w4 ⟨r4, c4, rfl, o_, b_⟩; have HO4 := Lib.hid (o_.mono HBX.out.size (Nat.le_refl _)); have HB4 := Lib.hid (below_step HBX.out HBX.out.size b_); clear o_ b_))
        go_ret2
        rw [HV.out, HC0.out, ← HVP.out]
        exact ⟨r4, c4, rfl, HO4.out, HB4.out⟩
  · have HV : Hid (fxV pS S m = []) := if_neg h0
    obtain ⟨C, hC⟩ : ∃ c, c = coC pS S m := ⟨_, rfl⟩
    have hc1 : (C != 0) = true := by rw [hC]; simpa using h0
    have hc2 : (C == 0) = false := by rw [hC]; simpa using h0
    have HCE := Lib.hid hC
    clear h0 hC
    go_enter Try.func44, Try.ntmps44
    go_upto_region 1 with fail
    obtain ⟨w1, hw1⟩ : ∃ z, z = w.alloc (.cells #[.int .i64 pS, .slice aS S.length cS] 30) := ⟨_, rfl⟩
    rw [← hw1] at HB0 k0 k1 ⊢
    have hd1 : w.heap.size < w1.heap.size := by rw [hw1]; simp
    have HB1 := HB0
    clear hw1
    have SS1 := Lib.hid (And.intro k0 k1)
    go_wp2_with (go_at_call 63; ((with_reducible refine (checkOrthogonal_any pS aS S cS loS tpS am m cm lom tpm w1 (HS.out.below HB1.out tS) (Nat.le_trans tS HB1.out.size) sS (Hm.out.below HB1.out tm) (Nat.le_trans tm HB1.out.size) HSM.out).mono ?_); rintro e w2 ⟨rfl, b_⟩; rw [← HCE.out]; have SS2 := Lib.hid (ss2 b_ hd1 SS1.out); have HB2 := Lib.hid (below_step HB1.out HB1.out.size b_); have hd2 := Nat.lt_of_lt_of_le hd1 b_.size; clear k0 k1; obtain ⟨k0, k1⟩ := SS2.out; clear b_))
    go_ret2
    rw [HV.out, ← HCE.out]
    exact ⟨none, 0, rfl, .inl rfl, HB2.out⟩

set_option maxRecDepth 100000 in
set_option maxHeartbeats 6400000 in
theorem spec_FixedVectors (pS : Int) (aS : Option Addr) (S : List Int) (cS loS tpS : Nat) (am : Option Addr) (m : List (List Int)) (cm lom tpm : Nat) (w : World) (hS : RowIn loS tpS w aS S) (tS : tpS ≤ w.heap.size) (sS : S.length ≤ 1048576) (hm : MatIn lom tpm w am m) (tm : tpm ≤ w.heap.size) (sm' : m.length + tot m m.length ≤ 1048576) :
    Calls Try.prog 43 #[.agg #[.int .i64 pS, .slice aS S.length cS], .slice am m.length cm] w (SpecM (fxV pS S m) (coC pS S m) w) := by
  have HS := Lib.hid hS
  have Hm := Lib.hid hm
  have HSM := Lib.hid sm'
  have k0 := nw0 w (.int .i64 pS) (.slice aS S.length cS) 30
  have k1 := nw1 w (.int .i64 pS) (.slice aS S.length cS) 30
  have HB0 := Lib.hid (below_alloc w (.cells #[.int .i64 pS, .slice aS S.length cS] 30))
  clear hS hm sm'
  obtain ⟨j0, kj, kz0, kz1, kz2⟩ := info_parts info_slice
  by_cases h0 : coC pS S m = 0
  · have HC0 := Lib.hid h0
    have HI := Lib.hid (reg0 (coC_zero h0).1).1
    have hh := orB_all (coC_zero h0).2
    have HL := Lib.hid (isL_iff.1 hh.2.1)
    have hc_ : (rw' m 0).length = m.length := by rw [hh.2.2.1, hh.1]
    have HCC : Hid (∀ i, i < m.length → (rw' m i).length = m.length) := fun i hi => by rw [HL.out.len i hi, hc_]
    have HV : Hid (fxV pS S m = kerB pS (fxM pS m)) := if_pos h0
    have HVP : Hid (kerB pS (fxP pS m) = kerB pS (fxM pS m)) := fx_ker HL.out hc_
    have HRP := Lib.hid (fxP_rows HL.out)
    have HRM := Lib.hid (fxM_rows HL.out hc_)
    have hpb := prm_bd (isSp_iff.1 HI.out).prime
    have hm0 : 0 < m.length := HL.out.lo
    have hm16 : m.length ≤ 16 := HL.out.hi
    have hw1_ : wrap64 (pS - 1) = pS - 1 := by unfold wrap64; omega
    have hw2_ : IntKind.i64.wrap (pS - 1) = pS - 1 := IntWalk.i64_in _ (by omega)
    clear h0 hh hc_
    obtain ⟨M, hM⟩ : ∃ M, M = fxM pS m := ⟨_, rfl⟩
    have HML : Hid (M.length = m.length) := by show _ = _; rw [hM]; exact mk_len _ _ _
    have HMR : Hid (∀ i, i < m.length → rw' M i = mkR m.length (fxG pS m i)) := fun i hi => by rw [hM]; exact mk_row _ hi
    have HTK : Hid (M.take m.length = M) := List.take_of_length_le (by rw [HML.out]; exact Nat.le_refl _)
    rw [← hM] at HRM HV
    clear hM
    go_enter Try.func43, Try.ntmps43
    go_upto_region 1 with fail
    obtain ⟨w1, hw1⟩ : ∃ z, z = w.alloc (.cells #[.int .i64 pS, .slice aS S.length cS] 30) := ⟨_, rfl⟩
    rw [← hw1] at HB0 k0 k1 ⊢
    have hd1 : w.heap.size < w1.heap.size := by rw [hw1]; simp
    have HB1 := HB0
    clear hw1
    have SS1 := Lib.hid (And.intro k0 k1)
    go_wp2_with (go_at_call 61; ((with_reducible refine (l08Code_any pS aS S cS loS tpS am m cm lom tpm w1 (HS.out.below HB1.out tS) (Nat.le_trans tS HB1.out.size) sS (Hm.out.below HB1.out tm) (Nat.le_trans tm HB1.out.size) HSM.out).mono ?_); rintro e w2 ⟨rfl, b_⟩; rw [HC0.out]; have SS2 := Lib.hid (ss2 b_ hd1 SS1.out); have HB2 := Lib.hid (below_step HB1.out HB1.out.size b_); have hd2 := Nat.lt_of_lt_of_le hd1 b_.size; clear k0 k1; obtain ⟨k0, k1⟩ := SS2.out; clear b_))
    go_loopw [7, 8] (fun u t wr => ∃ i : Nat, i ≤ m.length ∧ t = .int .i64 i ∧ OutM w2.heap.size wr u (M.take i) ∧ Below w2.heap.size w2 wr) (fun _ t _ => m.length - (intOf t).toNat)
    case atStart => exact ⟨0, Nat.zero_le _, rfl, OutM.start w2 _ _ (Nat.le_refl _) rfl, below_alloc w2 _⟩
    case round =>
      obtain ⟨i, hi, rfl, ho, hbel⟩ := hrel
      have HO := Lib.hid ho
      have HBEL := Lib.hid hbel
      have hwz := hbel.size
      have HBX : Hid (Below w.heap.size w wr) := HB2.out.trans (hbel.mono HB2.out.size)
      clear k0 k1
      have k0 := (hbel.cell (p := ⟨w.heap.size, 0, none⟩) hd2).trans SS2.out.1
      have k1 := (hbel.cell (p := ⟨w.heap.size, 1, none⟩) hd2).trans SS2.out.2
      by_cases hlt : i < m.length
      · have hi1 : (i : Int) < (m.length : Int) := by omega
        have HTL : Hid ((M.take i).length = i) := by show _ = _; rw [List.length_take, HML.out]; omega
        obtain ⟨vals, hvo, hvr⟩ := ho
        rw [HTL.out] at hvo hvr
        have HV1 := Lib.hid hvo
        have HVR := Lib.hid hvr
        obtain ⟨b9, o9, rv, cv, ha9, _, hb9, hr9, hrow⟩ := (Hm.out.below HBX.out tm).row hlt
        subst ha9
        have hzx := HBX.out.size
        have HRV := Lib.hid hrow
        have hrl := HCC.out i hlt
        have HRL := Lib.hid hrl
        rw [hrl] at hr9
        have htw : tpm ≤ wr.heap.size := Nat.le_trans tm hzx
        obtain ⟨x, hx⟩ : ∃ x, x = at' m i i := ⟨_, rfl⟩
        have hxb := HL.out.at hlt (show i < (rw' m 0).length by rw [HCC.out 0 hm0]; exact hlt)
        rw [← hx] at hxb
        have HXE := Lib.hid hx
        clear hbel hvo hvr hrow hrl hx
        go_upto_region 9 with (go_at_call 78; ((with_reducible refine (l01Own_m rv (rw' m i) m.length cv lom tpm wr HRL.out HRV.out htw hm0 (by omega)).mono ?_); rintro e w4 ⟨b4, o4, c4, cur4, rfl, l4, u4, hcur, hcs, b_⟩; have HB4r := Lib.hid b_; have HCU := Lib.hid hcur; have HCS := Lib.hid hcs; have q0 := (b_.cell (p := ⟨w.heap.size, 0, none⟩) (Nat.lt_of_lt_of_le hd2 hwz)).trans k0; have q1 := (b_.cell (p := ⟨w.heap.size, 1, none⟩) (Nat.lt_of_lt_of_le hd2 hwz)).trans k1; have c0 : w4.cell? ⟨b4, o4 + i, none⟩ = some (.int .i64 x) := (by have h := hcs i hlt; rw [HXE.out]; exact h); have f0 := free_of hcur (o4 + i); have hu4 := u4; have hl4 := l4; clear b_ hcur hcs k0 k1 l4 u4))
        have e1 : IntKind.i64.wrap (x + pS) = x + pS := IntWalk.i64_in _ (by omega)
        have e2 : IntKind.i64.wrap (x + pS - 1) = x + pS - 1 := IntWalk.i64_in _ (by omega)
        have e3 : (x + pS - 1).tmod pS = (x + pS - 1) % pS := Int.tmod_eq_emod_of_nonneg (by omega)
        have e4 : wrap64 (x + pS) = x + pS := by unfold wrap64; omega
        have e5 : wrap64 (x + pS - 1) = x + pS - 1 := by unfold wrap64; omega
        have hp0 : ¬ pS = 0 := by omega
        have hp1 : (pS == 0) = false := by simpa using hp0
        go_region
        all_goals
          clear e1 e2 e3 e4 e5 hw1_ hw2_
          obtain ⟨w5, hw5⟩ : ∃ z, z = (w4.setCell ⟨b4, o4 + i, none⟩ (.int .i64 ((x + pS - 1) % pS))).drew := ⟨_, rfl⟩
          rw [← hw5]
          have hsz5 : w5.heap.size = w4.heap.size := by rw [hw5]; simp [World.setCell]
          have HB5r : Hid (Below wr.heap.size wr w5) := by show Below _ _ _; rw [hw5]; exact (HB4r.out.setCell hl4 _).drew
          have HT5 : Hid (TagR wr.heap.size w5.heap.size w5 (some ⟨b4, o4, none⟩) (rw' M i)) := by
            show TagR _ _ _ _ _
            rw [HMR.out i hlt, hsz5, hw5]
            have h := tag_put (lo := wr.heap.size) (tp := w4.heap.size) HCU.out HCS.out hlt ((x + pS - 1) % pS) hl4 hu4
            have e : mkR m.length (fxG pS m i) = mkR m.length (fun j => if j = i then (x + pS - 1) % pS else (rw' m i).getD j 0) := mkR_congr fun j hj => by
              unfold fxG
              by_cases e : j = i
              · subst e; rw [if_pos rfl, if_pos rfl, HXE.out]
              · rw [if_neg e, if_neg e]; rfl
            rw [e]
            exact h
          have HRL5 : Hid ((rw' M i).length = m.length) := by show _ = _; rw [HMR.out i hlt, mkR_len]
          have HVW := Lib.hid (HV1.out.kept (below_grown HB5r.out) (by cases hv : Value.ownBlock u7 <;> simp))
          have hwz5 : w2.heap.size ≤ w5.heap.size := Nat.le_trans hwz HB5r.out.size
          clear hw5 c0 f0 hsz5
          go_wp2_with ((at_builtin; (refine wpList_append_lies _ rfl _ _ 25 rfl w2.heap.size 22 j0 (.slice none 0 0) 1 24 Try.underlying25 kj kz0 kz1 kz2 rfl (by decide) u7 i vals rfl (HVW.out.alloc _) ⟨w5.heap.size, 0, none⟩ 1 1 [.slice (some ⟨b4, o4, none⟩) m.length c4] rfl rfl (World.news_of_block (cs := #[.slice (some ⟨b4, o4, none⟩) m.length c4]) (t := 22) (fr := (0, 0)) (heap_alloc_new w5 _)) (by simp [Value.oneCell']) (by omega) (by unfold maxLen; omega) (by omega) (by simp; omega) (w5.heap.size + 1) (by simp) ?_); intro gg cap w1 hown1 hgrow hat hlt1))
          go_roundw
          case rel => exact ⟨i + 1, by omega, by go_num, OutM.nextT (by rw [HML.out]; exact hlt) HV1.out HVR.out HT5.out hwz HB5r.out (by rw [HRL5.out]; exact hown1) hgrow, ((HBEL.out.trans (HB5r.out.mono hwz)).alloc (by omega) _).grown hgrow (by simp; omega) (fun _ hk => (HV1.out.lt _ hk).1)⟩
          case measure => simp [intOf]; omega
      · have hi2 : ¬ (i : Int) < (m.length : Int) := by omega
        have hin : i = m.length := by omega
        have ho2 := HO.out
        rw [hin, HTK.out] at ho2
        obtain ⟨r, c, hv, hmat⟩ := ho2.mat
        rw [HML.out] at hv
        subst hv
        have HMT := Lib.hid hmat
        clear ho hbel ho2 hmat hin
        go_wp2_with (go_at_call 79; ((with_reducible refine (kernelW_n pS r M m.length c w2.heap.size wr.heap.size wr HML.out HMT.out (Nat.le_refl _) HRM.out).mono ?_); rintro e w4 ⟨r4, c4, rfl, o_, b_⟩; have HO4 := Lib.hid (o_.mono HBX.out.size (Nat.le_refl _)); have HB4 := Lib.hid (below_step HBX.out HBX.out.size b_); clear o_ b_))
        go_ret2
        rw [HV.out, HC0.out]
        exact ⟨r4, c4, rfl, HO4.out, HB4.out⟩
  · have HV : Hid (fxV pS S m = []) := if_neg h0
    obtain ⟨C, hC⟩ : ∃ c, c = coC pS S m := ⟨_, rfl⟩
    have hc1 : (C != 0) = true := by rw [hC]; simpa using h0
    have hc2 : (C == 0) = false := by rw [hC]; simpa using h0
    have HCE := Lib.hid hC
    clear h0 hC
    go_enter Try.func43, Try.ntmps43
    go_upto_region 1 with fail
    obtain ⟨w1, hw1⟩ : ∃ z, z = w.alloc (.cells #[.int .i64 pS, .slice aS S.length cS] 30) := ⟨_, rfl⟩
    rw [← hw1] at HB0 k0 k1 ⊢
    have hd1 : w.heap.size < w1.heap.size := by rw [hw1]; simp
    have HB1 := HB0
    clear hw1
    have SS1 := Lib.hid (And.intro k0 k1)
    go_wp2_with (go_at_call 61; ((with_reducible refine (l08Code_any pS aS S cS loS tpS am m cm lom tpm w1 (HS.out.below HB1.out tS) (Nat.le_trans tS HB1.out.size) sS (Hm.out.below HB1.out tm) (Nat.le_trans tm HB1.out.size) HSM.out).mono ?_); rintro e w2 ⟨rfl, b_⟩; rw [← HCE.out]; have SS2 := Lib.hid (ss2 b_ hd1 SS1.out); have HB2 := Lib.hid (below_step HB1.out HB1.out.size b_); have hd2 := Nat.lt_of_lt_of_le hd1 b_.size; clear k0 k1; obtain ⟨k0, k1⟩ := SS2.out; clear b_))
    go_ret2
    rw [HV.out, ← HCE.out]
    exact ⟨none, 0, rfl, .inl rfl, HB2.out⟩

end Go.Proofs.Ytigdepahbnidjaa
