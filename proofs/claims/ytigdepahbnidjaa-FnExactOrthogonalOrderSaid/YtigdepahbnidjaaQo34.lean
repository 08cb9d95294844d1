/-
  Orders of orthogonal matrices: contracts of the program and of the model.
  Conditions: the lists are nil or rows of known cells, of at most 1048576 numbers.
-/
import Derived.Test.YtigdepahbnidjaaQo32
import Derived.Test.YtigdepahbnidjaaQo33
import Derived.Test.YtigdepahbnidjaaQo11
import Derived.Test.YtigdepahbnidjaaQo12
import Derived.Test.YtigdepahbnidjaaQo24
import Derived.Test.YtigdepahbnidjaaQo16
import Derived.Deep.RegionHeld3
import Derived.Deep.DeepCutAuto
namespace Go.Proofs.Ytigdepahbnidjaa
open Go.RowKit
set_option linter.unusedVariables false

/-- The powers, from the first one on. -/
def pwN (p : Int) (m : List (List Int)) : Nat → List (List Int)
  | 0 => m
  | k + 1 => mulM p (pwN p m k) m
/-- The search for the order: f tries are left, k powers are not the unit matrix. -/
def oSe (p : Int) (m : List (List Int)) : Nat → Nat → Int
  | 0, _ => 0
  | f + 1, k => if pwN p m k = oneM m.length then (k : Int) + 1 else oSe p m f (k + 1)
def ordN (p : Int) (m : List (List Int)) : Int := oSe p m 100000 0
def ordV (p : Int) (S : List Int) (m : List (List Int)) : Int := if coC p S m = 0 then ordN p m else 0
def ordC (p : Int) (S : List Int) (m : List (List Int)) : Int := if coC p S m = 0 then (if ordN p m = 0 then 3 else 0) else coC p S m
theorem oSe_zero {p : Int} {m : List (List Int)} {j : Nat} (h : ¬ j < 100000) : oSe p m (100000 - j) j = 0 := by
  rw [show 100000 - j = 0 by omega]; rfl
theorem oSe_yes {p : Int} {m : List (List Int)} {j : Nat} (h : j < 100000) (e : pwN p m j = oneM m.length) : oSe p m (100000 - j) j = (j : Int) + 1 := by
  obtain ⟨f, hf⟩ : ∃ f, 100000 - j = f + 1 := ⟨100000 - j - 1, by omega⟩
  rw [hf]; unfold oSe; rw [if_pos e]
theorem oSe_no {p : Int} {m : List (List Int)} {j : Nat} (h : j < 100000) (e : ¬ pwN p m j = oneM m.length) : oSe p m (100000 - j) j = oSe p m (100000 - (j + 1)) (j + 1) := by
  obtain ⟨f, hf⟩ : ∃ f, 100000 - j = f + 1 := ⟨100000 - j - 1, by omega⟩
  rw [hf, show 100000 - (j + 1) = f by omega]
  show (if pwN p m j = oneM m.length then (j : Int) + 1 else oSe p m f (j + 1)) = _
  rw [if_neg e]
theorem ord_found {p : Int} {S : List Int} {m : List (List Int)} {j : Nat} (h : coC p S m = 0) (e : ordN p m = (j : Int) + 1) : ordV p S m = (j : Int) + 1 ∧ ordC p S m = 0 := by
  unfold ordV ordC
  rw [if_pos h, if_pos h, e, if_neg (by omega)]
  exact ⟨rfl, rfl⟩
theorem ord_none {p : Int} {S : List Int} {m : List (List Int)} (h : coC p S m = 0) (e : ordN p m = 0) : ordV p S m = 0 ∧ ordC p S m = 3 := by
  unfold ordV ordC
  rw [if_pos h, if_pos h, e, if_pos rfl]
  exact ⟨rfl, rfl⟩
theorem ord_out {p : Int} {S : List Int} {m : List (List Int)} (h : coC p S m ≠ 0) : ordV p S m = 0 ∧ ordC p S m = coC p S m := by
  unfold ordV ordC
  rw [if_neg h, if_neg h]
  exact ⟨rfl, rfl⟩
theorem pwN_sq {p : Int} {m : List (List Int)} {n : Nat} (hp : prm p = true) (h : Sq p m n) (h0 : 0 < n) : ∀ k, Sq p (pwN p m k) n
  | 0 => h
  | k + 1 => Sq.mul hp (pwN_sq hp h h0 k) h h0
theorem sq_len {p : Int} {m : List (List Int)} {n : Nat} (h : Sq p m n) : m.length = n := h.2
theorem sq_row {p : Int} {m : List (List Int)} {n i : Nat} (h : Sq p m n) (hi : i < n) : (rw' m i).length = n := h.1.len i (by rw [h.2]; exact hi)
theorem times_sq (p : Int) (a b : Option Addr) (m m' : List (List Int)) (n ca cb lo tp lo' tp' : Nat) (w : World) (hp : prm p = true) (hm : MatIn lo tp w a m) (hm' : MatIn lo' tp' w b m') (ht : tp ≤ w.heap.size) (ht' : tp' ≤ w.heap.size) (h1 : Sq p m n) (h2 : Sq p m' n) (h0 : 0 < n) :
    Calls Try.prog 77 #[.int .i64 p, .slice a n ca, .slice b n cb] w (fun e w' => ∃ r c, e = .returned (.slice r n c) ∧ MatIn w.heap.size w'.heap.size w' r (mulM p m m') ∧ Below w.heap.size w w') := by
  have h3 := (Sq.mul hp h1 h2 h0).2
  obtain ⟨r1, l1⟩ := h1
  obtain ⟨r2, l2⟩ := h2
  subst l1
  have q := timesMatrix_any p a b m m' ca cb lo tp lo' tp' w hp hm hm' ht ht' (by rw [l2]; exact r1) (by rw [r2.len 0 (by omega)]; exact r2) (by omega)
  rw [l2] at q
  exact q.mono fun _ _ ⟨r, c, e, o, b⟩ => ⟨r, c, by rw [e, h3], o.mat, b⟩
theorem l02Times_sq (p : Int) (a b : Option Addr) (m m' : List (List Int)) (n ca cb lo tp lo' tp' : Nat) (w : World) (hp : prm p = true) (hm : MatIn lo tp w a m) (hm' : MatIn lo' tp' w b m') (ht : tp ≤ w.heap.size) (ht' : tp' ≤ w.heap.size) (h1 : Sq p m n) (h2 : Sq p m' n) (h0 : 0 < n) :
    Calls Try.prog 73 #[.int .i64 p, .slice a n ca, .slice b n cb] w (fun e w' => ∃ r c, e = .returned (.slice r n c) ∧ MatIn w.heap.size w'.heap.size w' r (mulM p m m') ∧ Below w.heap.size w w') := by
  have h3 := (Sq.mul hp h1 h2 h0).2
  obtain ⟨r1, l1⟩ := h1
  obtain ⟨r2, l2⟩ := h2
  subst l1
  have q := l02Times_any p a b m m' ca cb lo tp lo' tp' w hp hm hm' ht ht' (by rw [l2]; exact r1) (by rw [r2.len 0 (by omega)]; exact r2) (by omega)
  rw [l2] at q
  exact q.mono fun _ _ ⟨r, c, e, o, b⟩ => ⟨r, c, by rw [e, h3], o, b⟩
theorem equalF_n (a b : Option Addr) (A B : List (List Int)) (n ca cb lo tp lo' tp' : Nat) (w : World) (hA : A.length = n) (hB : B.length = n) (ha : MatIn lo tp w a A) (ta : tp ≤ w.heap.size) (hb : MatIn lo' tp' w b B) (tb : tp' ≤ w.heap.size) (sa : n ≤ 1024) (sr : ∀ i, i < A.length → (rw' A i).length ≤ 1048576) :
    Calls Try.prog 75 #[.slice a n ca, .slice b n cb, .func (.func 76) #[] #[]] w fun e w' => e = .returned (.bool (decide (A = B))) ∧ Below w.heap.size w w' := by
  have q := equalF_any a b A B ca cb lo tp lo' tp' w ha ta hb tb (by omega) sr
  rw [hA, hB] at q
  exact q.mono fun _ _ ⟨e, q⟩ => ⟨e, q.below _⟩

set_option maxRecDepth 100000 in
set_option maxHeartbeats 3200000 in
theorem l01Same2_n (a b : Option Addr) (A B : List (List Int)) (n ca cb lo tp lo' tp' : Nat) (w : World) (hA : A.length = n) (hB : B.length = n) (ha : MatIn lo tp w a A) (ta : tp ≤ w.heap.size) (hb : MatIn lo' tp' w b B) (tb : tp' ≤ w.heap.size) (sa : n ≤ 1024) (sr : ∀ i, i < n → (rw' A i).length ≤ 1048576) :
    Calls Try.prog 72 #[.slice a n ca, .slice b n cb] w fun e w' => e = .returned (.bool (decide (A = B))) ∧ Below w.heap.size w w' := by
  have HA := Lib.hid ha
  have HB := Lib.hid hb
  have HSR := Lib.hid sr
  have HLA := Lib.hid hA
  have HLB := Lib.hid hB
  clear ha hb sr hA hB
  go_enter Try.func72, Try.ntmps72
  go_wp2
  go_loopw [5] (fun t wr => ∃ i : Nat, i ≤ n ∧ t = .int .i64 i ∧ (∀ j, j < i → rw' A j = rw' B j) ∧ Below w.heap.size w wr) (fun t _ => n - (intOf t).toNat)
  case atStart => exact ⟨0, Nat.zero_le _, rfl, fun j hj => absurd hj (Nat.not_lt_zero _), Below.refl _ _⟩
  case round =>
    obtain ⟨i, hi, rfl, hall, hbel⟩ := hrel
    have HBL := Lib.hid hbel
    have HALL := Lib.hid hall
    by_cases hlt : i < n
    · obtain ⟨b1, o1, r1, k1, ha1, _, lb1, hc1, hr1⟩ := (HA.out.below hbel ta).row (show i < A.length by rw [HLA.out]; exact hlt)
      obtain ⟨b2, o2, r2, k2, ha2, _, lb2, hc2, hr2⟩ := (HB.out.below hbel tb).row (show i < B.length by rw [HLB.out]; exact hlt)
      subst ha1
      subst ha2
      have hi1 : (i : Int) < (n : Int) := by omega
      have hz := hbel.size
      have HR1 := Lib.hid (hr1.below (below_drew wr) (Nat.le_trans ta hz))
      have HR2 := Lib.hid (hr2.below (below_drew wr) (Nat.le_trans tb hz))
      have hs1 : (rw' A i).length ≤ 1048576 := HSR.out i hlt
      have HBD : Hid (Below w.heap.size w wr.drew) := hbel.drew
      have hs : Hid (wr.drew.cell? ⟨b1, o1 + i, none⟩ = some (.slice r1 (rw' A i).length k1) ∧ wr.drew.cell? ⟨b2, o2 + i, none⟩ = some (.slice r2 (rw' B i).length k2)) := ⟨hc1, hc2⟩
      have l1 : b1 < wr.drew.heap.size := Nat.lt_of_lt_of_le lb1 (Nat.le_trans ta hz)
      have l2 : b2 < wr.drew.heap.size := Nat.lt_of_lt_of_le lb2 (Nat.le_trans tb hz)
      clear hr1 hr2 hall hbel hc1 hc2
      by_cases hxy : rw' A i = rw' B i
      · have HD : Hid (decide (rw' A i = rw' B i) = true) := decide_eq_true hxy
        have HXY := Lib.hid hxy
        clear hxy
        go_wp2
        go_region_held3 (fun w' => w'.cell? ⟨b1, o1 + i, none⟩ = some (.slice r1 (rw' A i).length k1) ∧ w'.cell? ⟨b2, o2 + i, none⟩ = some (.slice r2 (rw' B i).length k2)) (first | exact hs.out | exact SSa.out | go_keep) ((go_at_call 99; ((with_reducible refine (l01Same_b r1 r2 (rw' A i) (rw' B i) _ _ k1 k2 lo tp lo' tp' wr.drew rfl rfl HR1.out HR2.out hs1).mono ?_); rintro e wa ⟨rfl, b_⟩; rw [HD.out]; have SSa : Hid (wa.cell? ⟨b1, o1 + i, none⟩ = some (.slice r1 (rw' A i).length k1) ∧ wa.cell? ⟨b2, o2 + i, none⟩ = some (.slice r2 (rw' B i).length k2)) := ⟨(b_.cell (p := ⟨b1, o1 + i, none⟩) l1).trans hs.out.1, (b_.cell (p := ⟨b2, o2 + i, none⟩) l2).trans hs.out.2⟩; have HBa := Lib.hid (below_step HBD.out HBD.out.size b_); clear b_)))
        go_wp2
        go_roundw
        case rel => exact ⟨i + 1, by omega, by go_num, fun j hj => by
          by_cases e : j = i
          · subst e; exact HXY.out
          · exact HALL.out j (by omega), HBa.out⟩
        case measure => (simp [intOf] <;> omega)
      · have HD : Hid (decide (rw' A i = rw' B i) = false) := decide_eq_false hxy
        have HR : Hid (decide (A = B) = false) := decide_eq_false fun e => hxy (by rw [e])
        clear hxy
        go_wp2
        go_region_held3 (fun w' => w'.cell? ⟨b1, o1 + i, none⟩ = some (.slice r1 (rw' A i).length k1) ∧ w'.cell? ⟨b2, o2 + i, none⟩ = some (.slice r2 (rw' B i).length k2)) (first | exact hs.out | exact SSa.out | go_keep) ((go_at_call 99; ((with_reducible refine (l01Same_b r1 r2 (rw' A i) (rw' B i) _ _ k1 k2 lo tp lo' tp' wr.drew rfl rfl HR1.out HR2.out hs1).mono ?_); rintro e wa ⟨rfl, b_⟩; rw [HD.out]; have SSa : Hid (wa.cell? ⟨b1, o1 + i, none⟩ = some (.slice r1 (rw' A i).length k1) ∧ wa.cell? ⟨b2, o2 + i, none⟩ = some (.slice r2 (rw' B i).length k2)) := ⟨(b_.cell (p := ⟨b1, o1 + i, none⟩) l1).trans hs.out.1, (b_.cell (p := ⟨b2, o2 + i, none⟩) l2).trans hs.out.2⟩; have HBa := Lib.hid (below_step HBD.out HBD.out.size b_); clear b_)))
        go_wp2
        go_ret
        exact ⟨by rw [HR.out]; rfl, HBa.out⟩
    · have hi2 : ¬ (i : Int) < (n : Int) := by omega
      have hin : i = n := by omega
      have HR : Hid (decide (A = B) = true) := decide_eq_true (mat_ext (by rw [HLA.out, HLB.out]) fun j hj => hall j (by rw [hin, ← HLA.out]; exact hj))
      clear hall hbel
      go_wp2
      go_ret
      exact ⟨by rw [HR.out]; rfl, HBL.out⟩

theorem unitMatrix_n (n : Nat) (w : World) (hn : n ≤ 1024) (h0 : 1 ≤ n) :
    Calls Try.prog 74 #[.int .i64 n] w (fun e w' => ∃ r c, e = .returned (.slice r n c) ∧ MatIn w.heap.size w'.heap.size w' r (oneM n) ∧ Below w.heap.size w w') :=
  (unitMatrix_any n w hn h0).mono fun _ _ ⟨r, c, e, o, b⟩ => ⟨r, c, by rw [e]; unfold oneM; rw [mk_len], o.mat, b⟩
theorem l02Unit_n (n : Nat) (w : World) (hn : n ≤ 1024) :
    Calls Try.prog 71 #[.int .i64 n] w (fun e w' => ∃ r c, e = .returned (.slice r n c) ∧ MatIn w.heap.size w'.heap.size w' r (oneM n) ∧ Below w.heap.size w w') :=
  (l02Unit_any n w hn).mono fun _ _ ⟨r, c, e, o, b⟩ => ⟨r, c, by rw [e]; unfold oneM; rw [mk_len], o, b⟩

set_option maxRecDepth 100000 in
set_option maxHeartbeats 6400000 in
theorem impl_OrthogonalOrder (pS : Int) (aS : Option Addr) (S : List Int) (cS loS tpS : Nat) (am : Option Addr) (m : List (List Int)) (cm lom tpm : Nat) (w : World) (hS : RowIn loS tpS w aS S) (tS : tpS ≤ w.heap.size) (sS : S.length ≤ 1048576) (hm : MatIn lom tpm w am m) (tm : tpm ≤ w.heap.size) (sm' : m.length + tot m m.length ≤ 1048576) :
    Calls Try.prog 42 #[.agg #[.int .i64 pS, .slice aS S.length cS], .slice am m.length cm] w (RetI (ordV pS S m) (ordC pS S m) w) := by
  have HS := Lib.hid hS
  have Hm := Lib.hid hm
  have HSM := Lib.hid sm'
  have k0 := nw0 w (.int .i64 pS) (.slice aS S.length cS) 30
  have k1 := nw1 w (.int .i64 pS) (.slice aS S.length cS) 30
  have HB0 := Lib.hid (below_alloc w (.cells #[.int .i64 pS, .slice aS S.length cS] 30))
  clear hS hm sm'
  by_cases h0 : coC pS S m = 0
  · have HC0 := Lib.hid h0
    have HI := Lib.hid (reg0 (coC_zero h0).1).1
    have hh := orB_all (coC_zero h0).2
    have hl1 := (isSp_iff.1 HI.out).lo
    have h6 := (isSp_iff.1 HI.out).hi
    have hnS : m.length = S.length := hh.1
    have HSQ : Hid (Sq pS m m.length) := Sq.of (isL_iff.1 hh.2.1) (hh.1.trans hh.2.2.1.symm)
    have hn0 : 0 < m.length := by omega
    have hn6 : m.length ≤ 6 := by omega
    have HPS : Hid (∀ k, Sq pS (pwN pS m k) m.length) := fun k => pwN_sq (isSp_iff.1 HI.out).prime HSQ.out hn0 k
    have HOS : Hid (Sq pS (oneM m.length) m.length) := Sq.one (isSp_iff.1 HI.out).prime (by omega)
    clear h0 hh hnS
    go_enter Try.func42, Try.ntmps42
    go_upto_region 1 with fail
    obtain ⟨w1, hw1⟩ : ∃ z, z = w.alloc (.cells #[.int .i64 pS, .slice aS S.length cS] 30) := ⟨_, rfl⟩
    rw [← hw1] at HB0 k0 k1 ⊢
    have hd1 : w.heap.size < w1.heap.size := by rw [hw1]; simp
    have HB1 := HB0
    clear hw1
    have SS1 := Lib.hid (And.intro k0 k1)
    go_wp2_with (first | (go_at_call 63; ((with_reducible refine (checkOrthogonal_any pS aS S cS loS tpS am m cm lom tpm w1 (HS.out.below HB1.out tS) (Nat.le_trans tS HB1.out.size) sS (Hm.out.below HB1.out tm) (Nat.le_trans tm HB1.out.size) HSM.out).mono ?_); rintro e w2 ⟨rfl, b_⟩; rw [HC0.out]; have SS2 := Lib.hid (ss2 b_ hd1 SS1.out); have HB2 := Lib.hid (below_step HB1.out HB1.out.size b_); have hd2 := Nat.lt_of_lt_of_le hd1 b_.size; clear k0 k1; obtain ⟨k0, k1⟩ := SS2.out; clear b_)) | (go_at_call 74; ((with_reducible refine (unitMatrix_n m.length w2 (by omega) (by omega)).mono ?_); rintro e w3 ⟨ru, cu, rfl, o_, b_⟩; have SS3 := Lib.hid (ss2 b_ hd2 SS2.out); have HB3 := Lib.hid (below_step HB2.out HB2.out.size b_); have hd3 := Nat.lt_of_lt_of_le hd2 b_.size; have HU := Lib.hid (o_.mono (Nat.zero_le _) (Nat.le_refl _)); clear o_; clear k0 k1; obtain ⟨k0, k1⟩ := SS3.out; clear b_)))
    have HUW := HU
    go_loopw [8, 9] (fun u t wr => ∃ (j : Nat) (r : Option Addr) (c : Nat), j ≤ 100000 ∧ t = .int .i64 ((j : Int) + 1) ∧ u = .slice r m.length c ∧ MatIn 0 wr.heap.size wr r (pwN pS m j) ∧ Below w.heap.size w wr ∧ (wr.cell? ⟨w.heap.size, 0, none⟩ = some (.int .i64 pS) ∧ wr.cell? ⟨w.heap.size, 1, none⟩ = some (.slice aS S.length cS)) ∧ w.heap.size < wr.heap.size ∧ ordN pS m = oSe pS m (100000 - j) j ∧ Below w3.heap.size w3 wr) (fun _ t _ => 100002 - (intOf t).toNat)
    case atStart => exact ⟨0, am, cm, by decide, rfl, rfl, (Hm.out.below HB3.out tm).mono (Nat.zero_le _) (Nat.le_trans tm HB3.out.size), HB3.out, SS3.out, hd3, rfl, Below.refl _ _⟩
    case round =>
      obtain ⟨j, r, c, hj, rfl, rfl, hmat, hbel, ⟨k0, k1⟩, hlw, hord, hbk⟩ := hrel
      have HM := Lib.hid hmat
      have HB := Lib.hid hbel
      have HBK_ := Lib.hid hbk
      have HU2 := Lib.hid (HU.out.below hbk (Nat.le_refl _))
      have HZ : Hid (w3.heap.size ≤ wr.heap.size) := hbk.size
      have SSr := Lib.hid (And.intro k0 k1)
      have HO := Lib.hid hord
      clear hmat hbel hord hbk
      by_cases hjl : j < 100000
      · have hi1 : (j : Int) + 1 ≤ 100000 := by omega
        by_cases he : pwN pS m j = oneM m.length
        · have HD : Hid (decide (pwN pS m j = oneM m.length) = true) := decide_eq_true he
          have HV := Lib.hid (ord_found (S := S) HC0.out (HO.out.trans (oSe_yes hjl he)))
          clear he
          go_wp2_with (go_at_call 75; ((with_reducible refine (equalF_n r ru (pwN pS m j) (oneM m.length) m.length c cu 0 wr.heap.size 0 w3.heap.size wr (sq_len (HPS.out j)) (sq_len HOS.out) HM.out (Nat.le_refl _) HU2.out HZ.out (by omega) (fun i hi => by rw [sq_row (HPS.out j) (by rw [← sq_len (HPS.out j)]; exact hi)]; omega)).mono ?_); rintro e wa ⟨rfl, b_⟩; rw [HD.out]; have SSa := Lib.hid (ss2 b_ hlw SSr.out); have HBa := Lib.hid (below_step HB.out HB.out.size b_); have hla := Nat.lt_of_lt_of_le hlw b_.size; have HMa := Lib.hid (HM.out.below b_ (Nat.le_refl _)); have hza := b_.size; have HBa2 := Lib.hid b_; clear b_ k0 k1; obtain ⟨k0, k1⟩ := SSa.out))
          go_ret2
          exact ⟨by rw [HV.out.1, HV.out.2]; rfl, HBa.out⟩
        · have HD : Hid (decide (pwN pS m j = oneM m.length) = false) := decide_eq_false he
          have HN : Hid (ordN pS m = oSe pS m (100000 - (j + 1)) (j + 1)) := HO.out.trans (oSe_no hjl he)
          clear he
          go_wp2_with (first | (go_at_call 75; ((with_reducible refine (equalF_n r ru (pwN pS m j) (oneM m.length) m.length c cu 0 wr.heap.size 0 w3.heap.size wr (sq_len (HPS.out j)) (sq_len HOS.out) HM.out (Nat.le_refl _) HU2.out HZ.out (by omega) (fun i hi => by rw [sq_row (HPS.out j) (by rw [← sq_len (HPS.out j)]; exact hi)]; omega)).mono ?_); rintro e wa ⟨rfl, b_⟩; rw [HD.out]; have SSa := Lib.hid (ss2 b_ hlw SSr.out); have HBa := Lib.hid (below_step HB.out HB.out.size b_); have hla := Nat.lt_of_lt_of_le hlw b_.size; have HMa := Lib.hid (HM.out.below b_ (Nat.le_refl _)); have hza := b_.size; have HBa2 := Lib.hid b_; clear b_ k0 k1; obtain ⟨k0, k1⟩ := SSa.out)) | (go_at_call 77; ((with_reducible refine (times_sq pS r am (pwN pS m j) m m.length c cm 0 wr.heap.size lom tpm wa (isSp_iff.1 HI.out).prime HMa.out (Hm.out.below HBa.out tm) hza (Nat.le_trans tm HBa.out.size) (HPS.out j) HSQ.out hn0).mono ?_); rintro e wb ⟨rb, cb, rfl, o_, b_⟩; have SSb := Lib.hid (ss2 b_ hla SSa.out); have HBb := Lib.hid (below_step HBa.out HBa.out.size b_); have hlb := Nat.lt_of_lt_of_le hla b_.size; have HMb := Lib.hid (o_.mono (Nat.zero_le _) (Nat.le_refl _)); have HBb2 := Lib.hid b_; clear b_ o_ k0 k1; obtain ⟨k0, k1⟩ := SSb.out)))
          have HBKb : Below w3.heap.size w3 wb := (HBK_.out.trans (HBa2.out.mono HZ.out)).trans (HBb2.out.mono (Nat.le_trans HZ.out HBa2.out.size))
          go_roundw
          case rel => exact ⟨j + 1, rb, cb, by omega, by go_num, rfl, HMb.out, HBb.out, SSb.out, hlb, HN.out, HBKb⟩
          case measure => simp [intOf]; omega
      · have hi1 : ¬ (j : Int) + 1 ≤ 100000 := by omega
        have HV := Lib.hid (ord_none (S := S) HC0.out (HO.out.trans (oSe_zero hjl)))
        go_wp2
        go_ret2
        exact ⟨by rw [HV.out.1, HV.out.2]; rfl, HB.out⟩
  · have HV := Lib.hid (ord_out h0)
    obtain ⟨C, hC⟩ : ∃ c, c = coC pS S m := ⟨_, rfl⟩
    have hc1 : (C != 0) = true := by rw [hC]; simpa using h0
    have hc2 : (C == 0) = false := by rw [hC]; simpa using h0
    have HCE := Lib.hid hC
    clear h0 hC
    go_enter Try.func42, Try.ntmps42
    go_upto_region 1 with fail
    obtain ⟨w1, hw1⟩ : ∃ z, z = w.alloc (.cells #[.int .i64 pS, .slice aS S.length cS] 30) := ⟨_, rfl⟩
    rw [← hw1] at HB0 k0 k1 ⊢
    have hd1 : w.heap.size < w1.heap.size := by rw [hw1]; simp
    have HB1 := HB0
    clear hw1
    have SS1 := Lib.hid (And.intro k0 k1)
    go_wp2_with (go_at_call 63; ((with_reducible refine (checkOrthogonal_any pS aS S cS loS tpS am m cm lom tpm w1 (HS.out.below HB1.out tS) (Nat.le_trans tS HB1.out.size) sS (Hm.out.below HB1.out tm) (Nat.le_trans tm HB1.out.size) HSM.out).mono ?_); rintro e w2 ⟨rfl, b_⟩; rw [← HCE.out]; have SS2 := Lib.hid (ss2 b_ hd1 SS1.out); have HB2 := Lib.hid (below_step HB1.out HB1.out.size b_); have hd2 := Nat.lt_of_lt_of_le hd1 b_.size; clear k0 k1; obtain ⟨k0, k1⟩ := SS2.out; clear b_))
    go_ret2
    exact ⟨by rw [HV.out.1, HV.out.2, ← HCE.out]; rfl, HB2.out⟩

set_option maxRecDepth 100000 in
set_option maxHeartbeats 6400000 in
theorem spec_OrthogonalOrder (pS : Int) (aS : Option Addr) (S : List Int) (cS loS tpS : Nat) (am : Option Addr) (m : List (List Int)) (cm lom tpm : Nat) (w : World) (hS : RowIn loS tpS w aS S) (tS : tpS ≤ w.heap.size) (sS : S.length ≤ 1048576) (hm : MatIn lom tpm w am m) (tm : tpm ≤ w.heap.size) (sm' : m.length + tot m m.length ≤ 1048576) :
    Calls Try.prog 41 #[.agg #[.int .i64 pS, .slice aS S.length cS], .slice am m.length cm] w (RetI (ordV pS S m) (ordC pS S m) w) := by
  have HS := Lib.hid hS
  have Hm := Lib.hid hm
  have HSM := Lib.hid sm'
  have k0 := nw0 w (.int .i64 pS) (.slice aS S.length cS) 30
  have k1 := nw1 w (.int .i64 pS) (.slice aS S.length cS) 30
  have HB0 := Lib.hid (below_alloc w (.cells #[.int .i64 pS, .slice aS S.length cS] 30))
  clear hS hm sm'
  by_cases h0 : coC pS S m = 0
  · have HC0 := Lib.hid h0
    have HI := Lib.hid (reg0 (coC_zero h0).1).1
    have hh := orB_all (coC_zero h0).2
    have hl1 := (isSp_iff.1 HI.out).lo
    have h6 := (isSp_iff.1 HI.out).hi
    have hnS : m.length = S.length := hh.1
    have HSQ : Hid (Sq pS m m.length) := Sq.of (isL_iff.1 hh.2.1) (hh.1.trans hh.2.2.1.symm)
    have hn0 : 0 < m.length := by omega
    have hn6 : m.length ≤ 6 := by omega
    have HPS : Hid (∀ k, Sq pS (pwN pS m k) m.length) := fun k => pwN_sq (isSp_iff.1 HI.out).prime HSQ.out hn0 k
    have HOS : Hid (Sq pS (oneM m.length) m.length) := Sq.one (isSp_iff.1 HI.out).prime (by omega)
    clear h0 hh hnS
    go_enter Try.func41, Try.ntmps41
    go_upto_region 1 with fail
    obtain ⟨w1, hw1⟩ : ∃ z, z = w.alloc (.cells #[.int .i64 pS, .slice aS S.length cS] 30) := ⟨_, rfl⟩
    rw [← hw1] at HB0 k0 k1 ⊢
    have hd1 : w.heap.size < w1.heap.size := by rw [hw1]; simp
    have HB1 := HB0
    clear hw1
    have SS1 := Lib.hid (And.intro k0 k1)
    go_wp2_with (first | (go_at_call 61; ((with_reducible refine (l08Code_any pS aS S cS loS tpS am m cm lom tpm w1 (HS.out.below HB1.out tS) (Nat.le_trans tS HB1.out.size) sS (Hm.out.below HB1.out tm) (Nat.le_trans tm HB1.out.size) HSM.out).mono ?_); rintro e w2 ⟨rfl, b_⟩; rw [HC0.out]; have SS2 := Lib.hid (ss2 b_ hd1 SS1.out); have HB2 := Lib.hid (below_step HB1.out HB1.out.size b_); have hd2 := Nat.lt_of_lt_of_le hd1 b_.size; clear k0 k1; obtain ⟨k0, k1⟩ := SS2.out; clear b_)) | (go_at_call 71; ((with_reducible refine (l02Unit_n m.length w2 (by omega)).mono ?_); rintro e w3 ⟨ru, cu, rfl, o_, b_⟩; have SS3 := Lib.hid (ss2 b_ hd2 SS2.out); have HB3 := Lib.hid (below_step HB2.out HB2.out.size b_); have hd3 := Nat.lt_of_lt_of_le hd2 b_.size; have HU := Lib.hid (o_.mono (Nat.zero_le _) (Nat.le_refl _)); clear o_; clear k0 k1; obtain ⟨k0, k1⟩ := SS3.out; clear b_)))
    have HUW := HU
    go_loopw [8, 9] (fun u t wr => ∃ (j : Nat) (r : Option Addr) (c : Nat), j < 100000 ∧ t = .int .i64 ((j : Int) + 1) ∧ u = .slice r m.length c ∧ MatIn 0 wr.heap.size wr r (pwN pS m j) ∧ Below w.heap.size w wr ∧ (wr.cell? ⟨w.heap.size, 0, none⟩ = some (.int .i64 pS) ∧ wr.cell? ⟨w.heap.size, 1, none⟩ = some (.slice aS S.length cS)) ∧ w.heap.size < wr.heap.size ∧ ordN pS m = oSe pS m (100000 - j) j ∧ Below w3.heap.size w3 wr) (fun _ t _ => 100002 - (intOf t).toNat)
    case atStart => exact ⟨0, am, cm, by decide, rfl, rfl, (Hm.out.below HB3.out tm).mono (Nat.zero_le _) (Nat.le_trans tm HB3.out.size), HB3.out, SS3.out, hd3, rfl, Below.refl _ _⟩
    case round =>
      obtain ⟨j, r, c, hj, rfl, rfl, hmat, hbel, ⟨k0, k1⟩, hlw, hord, hbk⟩ := hrel
      have HM := Lib.hid hmat
      have HB := Lib.hid hbel
      have HBK_ := Lib.hid hbk
      have HU2 := Lib.hid (HU.out.below hbk (Nat.le_refl _))
      have HZ : Hid (w3.heap.size ≤ wr.heap.size) := hbk.size
      have SSr := Lib.hid (And.intro k0 k1)
      have HO := Lib.hid hord
      clear hmat hbel hord hbk
      have hjl := hj
      by_cases he : pwN pS m j = oneM m.length
      · have HD : Hid (decide (pwN pS m j = oneM m.length) = true) := decide_eq_true he
        have HV := Lib.hid (ord_found (S := S) HC0.out (HO.out.trans (oSe_yes hjl he)))
        clear he
        go_wp2_with (go_at_call 72; ((with_reducible refine (l01Same2_n r ru (pwN pS m j) (oneM m.length) m.length c cu 0 wr.heap.size 0 w3.heap.size wr (sq_len (HPS.out j)) (sq_len HOS.out) HM.out (Nat.le_refl _) HU2.out HZ.out (by omega) (fun i hi => by rw [sq_row (HPS.out j) hi]; omega)).mono ?_); rintro e wa ⟨rfl, b_⟩; rw [HD.out]; have SSa := Lib.hid (ss2 b_ hlw SSr.out); have HBa := Lib.hid (below_step HB.out HB.out.size b_); have hla := Nat.lt_of_lt_of_le hlw b_.size; have HMa := Lib.hid (HM.out.below b_ (Nat.le_refl _)); have hza := b_.size; have HBa2 := Lib.hid b_; clear b_ k0 k1; obtain ⟨k0, k1⟩ := SSa.out))
        go_ret2
        exact ⟨by rw [HV.out.1, HV.out.2]; rfl, HBa.out⟩
      · have HD : Hid (decide (pwN pS m j = oneM m.length) = false) := decide_eq_false he
        have HN : Hid (ordN pS m = oSe pS m (100000 - (j + 1)) (j + 1)) := HO.out.trans (oSe_no hjl he)
        clear he
        by_cases hj1 : j + 1 < 100000
        · have hi1 : (j : Int) + 1 + 1 ≤ 100000 := by omega
          have hji : (j : Int) ≤ 100000 := by omega
          have HJ := Lib.hid hj1
          clear hj hjl hj1
          go_upto_region 8 with (first | (go_at_call 72; ((with_reducible refine (l01Same2_n r ru (pwN pS m j) (oneM m.length) m.length c cu 0 wr.heap.size 0 w3.heap.size wr (sq_len (HPS.out j)) (sq_len HOS.out) HM.out (Nat.le_refl _) HU2.out HZ.out (by omega) (fun i hi => by rw [sq_row (HPS.out j) hi]; omega)).mono ?_); rintro e wa ⟨rfl, b_⟩; rw [HD.out]; have SSa := Lib.hid (ss2 b_ hlw SSr.out); have HBa := Lib.hid (below_step HB.out HB.out.size b_); have hla := Nat.lt_of_lt_of_le hlw b_.size; have HMa := Lib.hid (HM.out.below b_ (Nat.le_refl _)); have hza := b_.size; have HBa2 := Lib.hid b_; clear b_ k0 k1; obtain ⟨k0, k1⟩ := SSa.out)) | (go_at_call 73; ((with_reducible refine (l02Times_sq pS r am (pwN pS m j) m m.length c cm 0 wr.heap.size lom tpm wa (isSp_iff.1 HI.out).prime HMa.out (Hm.out.below HBa.out tm) hza (Nat.le_trans tm HBa.out.size) (HPS.out j) HSQ.out hn0).mono ?_); rintro e wb ⟨rb, cb, rfl, o_, b_⟩; have SSb := Lib.hid (ss2 b_ hla SSa.out); have HBb := Lib.hid (below_step HBa.out HBa.out.size b_); have hlb := Nat.lt_of_lt_of_le hla b_.size; have HMb := Lib.hid (o_.mono (Nat.zero_le _) (Nat.le_refl _)); have HBb2 := Lib.hid b_; clear b_ o_ k0 k1; obtain ⟨k0, k1⟩ := SSb.out)))
          have HBKb : Below w3.heap.size w3 wb := (HBK_.out.trans (HBa2.out.mono HZ.out)).trans (HBb2.out.mono (Nat.le_trans HZ.out HBa2.out.size))
          obtain ⟨T, hT⟩ : ∃ T, T = (j : Int) + 1 + 1 := ⟨_, rfl⟩
          rw [← hT]
          rw [← hT] at hi1
          have HT := Lib.hid hT
          clear hT hji
          have hz : decide ((100000 : Int) < T) = false := by rw [decide_eq_false_iff_not]; omega
          go_wp2
          go_roundw
          case rel => exact ⟨j + 1, rb, cb, HJ.out, by rw [HT.out]; simp, rfl, HMb.out, HBb.out, SSb.out, hlb, HN.out, HBKb⟩
          case measure => have h1 := HT.out; have h2 := HJ.out; simp [intOf]; omega
        · have hi1 : (100000 : Int) < (j : Int) + 1 + 1 := by omega
          have HV := Lib.hid (ord_none (S := S) HC0.out (HN.out.trans (oSe_zero hj1)))
          have hji : (j : Int) ≤ 100000 := by omega
          clear hj hjl hj1
          go_wp2_with (first | (go_at_call 72; ((with_reducible refine (l01Same2_n r ru (pwN pS m j) (oneM m.length) m.length c cu 0 wr.heap.size 0 w3.heap.size wr (sq_len (HPS.out j)) (sq_len HOS.out) HM.out (Nat.le_refl _) HU2.out HZ.out (by omega) (fun i hi => by rw [sq_row (HPS.out j) hi]; omega)).mono ?_); rintro e wa ⟨rfl, b_⟩; rw [HD.out]; have SSa := Lib.hid (ss2 b_ hlw SSr.out); have HBa := Lib.hid (below_step HB.out HB.out.size b_); have hla := Nat.lt_of_lt_of_le hlw b_.size; have HMa := Lib.hid (HM.out.below b_ (Nat.le_refl _)); have hza := b_.size; have HBa2 := Lib.hid b_; clear b_ k0 k1; obtain ⟨k0, k1⟩ := SSa.out)) | (go_at_call 73; ((with_reducible refine (l02Times_sq pS r am (pwN pS m j) m m.length c cm 0 wr.heap.size lom tpm wa (isSp_iff.1 HI.out).prime HMa.out (Hm.out.below HBa.out tm) hza (Nat.le_trans tm HBa.out.size) (HPS.out j) HSQ.out hn0).mono ?_); rintro e wb ⟨rb, cb, rfl, o_, b_⟩; have SSb := Lib.hid (ss2 b_ hla SSa.out); have HBb := Lib.hid (below_step HBa.out HBa.out.size b_); have hlb := Nat.lt_of_lt_of_le hla b_.size; have HMb := Lib.hid (o_.mono (Nat.zero_le _) (Nat.le_refl _)); have HBb2 := Lib.hid b_; clear b_ o_ k0 k1; obtain ⟨k0, k1⟩ := SSb.out)))
          go_ret2
          exact ⟨by rw [HV.out.1, HV.out.2]; rfl, HBb.out⟩
  · have HV := Lib.hid (ord_out h0)
    obtain ⟨C, hC⟩ : ∃ c, c = coC pS S m := ⟨_, rfl⟩
    have hc1 : (C != 0) = true := by rw [hC]; simpa using h0
    have hc2 : (C == 0) = false := by rw [hC]; simpa using h0
    have HCE := Lib.hid hC
    clear h0 hC
    go_enter Try.func41, Try.ntmps41
    go_upto_region 1 with fail
    obtain ⟨w1, hw1⟩ : ∃ z, z = w.alloc (.cells #[.int .i64 pS, .slice aS S.length cS] 30) := ⟨_, rfl⟩
    rw [← hw1] at HB0 k0 k1 ⊢
    have hd1 : w.heap.size < w1.heap.size := by rw [hw1]; simp
    have HB1 := HB0
    clear hw1
    have SS1 := Lib.hid (And.intro k0 k1)
    go_wp2_with (go_at_call 61; ((with_reducible refine (l08Code_any pS aS S cS loS tpS am m cm lom tpm w1 (HS.out.below HB1.out tS) (Nat.le_trans tS HB1.out.size) sS (Hm.out.below HB1.out tm) (Nat.le_trans tm HB1.out.size) HSM.out).mono ?_); rintro e w2 ⟨rfl, b_⟩; rw [← HCE.out]; have SS2 := Lib.hid (ss2 b_ hd1 SS1.out); have HB2 := Lib.hid (below_step HB1.out HB1.out.size b_); have hd2 := Nat.lt_of_lt_of_le hd1 b_.size; clear k0 k1; obtain ⟨k0, k1⟩ := SS2.out; clear b_))
    go_ret2
    exact ⟨by rw [HV.out.1, HV.out.2, ← HCE.out]; rfl, HB2.out⟩

end Go.Proofs.Ytigdepahbnidjaa
