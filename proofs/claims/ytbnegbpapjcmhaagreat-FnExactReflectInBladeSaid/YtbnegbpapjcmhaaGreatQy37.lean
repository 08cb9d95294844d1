/-
  The model's codes of blades: contracts of the program and of the model.
  Conditions: the lists are nil or rows of known cells, of at most 1048576 numbers.
  One blade checked: contracts of the program and of the model.
  Conditions: the lists are nil or rows of known cells, of at most 1048576 numbers.
-/
import Derived.Test.YtbnegbpapjcmhaaGreatQy36
import Derived.Test.YtbnegbpapjcmhaaGreatQy34
import Derived.Deep.RegionHeld3
import Derived.Deep.DeepCutAuto
namespace Go.Proofs.YtbnegbpapjcmhaaGreat
open Go.RowKit
set_option linter.unusedVariables false

set_option maxRecDepth 100000 in
set_option maxHeartbeats 3200000 in
theorem l06Code_any (pS : Int) (aS : Option Addr) (S : List Int) (cS loS tpS : Nat) (am : Option Addr) (m : List (List Int)) (cm lom tpm : Nat) (w : World) (hS : RowIn loS tpS w aS S) (tS : tpS ≤ w.heap.size) (sS : S.length ≤ 1048576) (hm : MatIn lom tpm w am m) (tm : tpm ≤ w.heap.size) (sm : m.length ≤ 1024) (sr : ∀ i, i < m.length → (rw' m i).length ≤ 1048576) :
    Calls Tryz.prog 48 #[.agg #[.int .i64 pS, .slice aS S.length cS], .slice am m.length cm] w fun e w' => e = .returned (.int .i64 (codeB pS S m)) ∧ Below w.heap.size w w' := by
  have HS := Lib.hid hS
  have Hm := Lib.hid hm
  have HSR := Lib.hid sr
  have HB0 := Lib.hid (below_alloc w (.cells #[.int .i64 pS, .slice aS S.length cS] 29))
  have k0 := nw0 w (.int .i64 pS) (.slice aS S.length cS) 29
  have k1 := nw1 w (.int .i64 pS) (.slice aS S.length cS) 29
  have hbad : codeMv pS S m ≠ 0 → codeB pS S m = codeMv pS S m := fun h => if_neg h
  have HBAD := Lib.hid hbad
  clear hS hm sr hbad
  by_cases hc : codeMv pS S m = 0
  · have HC := Lib.hid hc
    have HI := Lib.hid (codeMv_zero.1 hc).1
    have HA := Lib.hid (codeMv_zero.1 hc).2
    clear hc
    go_enter Tryz.func48, Tryz.ntmps48
    go_wp2_with (go_at_call 80; ((with_reducible refine (l04Code_any pS aS S cS loS tpS am m cm lom tpm _ (HS.out.below HB0.out tS) (Nat.le_trans tS HB0.out.size) sS (Hm.out.below HB0.out tm) (Nat.le_trans tm HB0.out.size) (by omega) HSR.out).mono ?_); rintro e w2 ⟨rfl, b_⟩; rw [HC.out]; have HB2 := Lib.hid (below_step HB0.out HB0.out.size b_); have k0' := (b_.cell (p := ⟨w.heap.size, 0, none⟩) (lt_alloc w (.cells #[.int .i64 pS, .slice aS S.length cS] 29))).trans k0; have k1' := (b_.cell (p := ⟨w.heap.size, 1, none⟩) (lt_alloc w (.cells #[.int .i64 pS, .slice aS S.length cS] 29))).trans k1; have hd2 := Nat.lt_of_lt_of_le (lt_alloc w (.cells #[.int .i64 pS, .slice aS S.length cS] 29)) b_.size; clear b_ k0 k1))
    have K2 := Lib.hid (And.intro k0' k1')
    clear k0' k1'
    go_loopw [6] (fun t wr => ∃ i : Nat, i ≤ m.length ∧ t = .int .i64 i ∧ (∀ j, j < i → isBl pS S (rw' m j) = true) ∧ (wr.cell? ⟨w.heap.size, 0, none⟩ = some (.int .i64 pS) ∧ wr.cell? ⟨w.heap.size, 1, none⟩ = some (.slice aS S.length cS)) ∧ Below w.heap.size w wr ∧ w.heap.size < wr.heap.size) (fun t _ => m.length - (intOf t).toNat)
    case atStart => exact ⟨0, Nat.zero_le _, rfl, fun j hj => by omega, K2.out, HB2.out, hd2⟩
    case round =>
      obtain ⟨i, hi, rfl, hd, hk, hbel, hz⟩ := hrel
      have HD := Lib.hid hd
      have HK := Lib.hid hk
      have HB := Lib.hid hbel
      by_cases hlt : i < m.length
      · obtain ⟨b9, o9, rv, cv, ha9, _, hb9, hr9, hrow⟩ := (Hm.out.below hbel tm).row hlt
        subst ha9
        have hi1 : (i : Int) < (m.length : Int) := Int.ofNat_lt.2 hlt
        have HMV := Lib.hid (all_mv HA.out hlt)
        have HROW := Lib.hid (hrow.below (bdrew wr) (Nat.le_trans tm hbel.size))
        have hs1 : Hid (wr.drew.cell? ⟨w.heap.size, 0, none⟩ = some (.int .i64 pS) ∧ wr.drew.cell? ⟨w.heap.size, 1, none⟩ = some (.slice aS S.length cS) ∧ wr.drew.cell? ⟨b9, o9 + i, none⟩ = some (.slice rv (rw' m i).length cv)) := ⟨hk.1, hk.2, hr9⟩
        have HBD : Hid (Below w.heap.size w wr.drew) := hbel.drew
        have hd0 : w.heap.size < wr.drew.heap.size := hz
        have hx0 : b9 < wr.drew.heap.size := Nat.lt_of_lt_of_le hb9 (Nat.le_trans tm hbel.size)
        clear hd hk hbel hrow hr9
        by_cases hbl : isBl pS S (rw' m i) = true
        · have HBL := Lib.hid hbl
          clear hbl
          go_wp2
          go_region_held3 (fun w' => w'.cell? ⟨w.heap.size, 0, none⟩ = some (.int .i64 pS) ∧ w'.cell? ⟨w.heap.size, 1, none⟩ = some (.slice aS S.length cS) ∧ w'.cell? ⟨b9, o9 + i, none⟩ = some (.slice rv (rw' m i).length cv)) (first | exact hs1.out | exact SSa.out | go_keep) ((go_at_call 81; ((with_reducible refine (l06Is_any pS aS S cS loS tpS rv (rw' m i) cv lom tpm wr.drew HI.out (HS.out.below HBD.out tS) (Nat.le_trans tS HBD.out.size) HROW.out (Nat.le_trans tm HBD.out.size) HMV.out).mono ?_); rintro e wa ⟨rfl, b_⟩; rw [HBL.out]; have SSa := Lib.hid (ss3 b_ hd0 hx0 hs1.out); have HBa := Lib.hid (below_step HBD.out HBD.out.size b_); have hda := Nat.lt_of_lt_of_le hd0 b_.size; clear b_)))
          go_wp2
          go_roundw
          case rel => exact ⟨i + 1, by omega, by go_num, fun j hj => by
            by_cases e : j = i
            · subst e; exact HBL.out
            · exact HD.out j (by omega), ⟨SSa.out.1, SSa.out.2.1⟩, HBa.out, hda⟩
          case measure => simp [intOf]; omega
        · have HBL : Hid (isBl pS S (rw' m i) = false) := by show _ = _; simpa using hbl
          have HNB : Hid (¬ ∀ j, j < m.length → isBl pS S (rw' m j) = true) := fun h => hbl (h i hlt)
          clear hbl
          go_wp2
          go_region_held3 (fun w' => w'.cell? ⟨w.heap.size, 0, none⟩ = some (.int .i64 pS) ∧ w'.cell? ⟨w.heap.size, 1, none⟩ = some (.slice aS S.length cS) ∧ w'.cell? ⟨b9, o9 + i, none⟩ = some (.slice rv (rw' m i).length cv)) (first | exact hs1.out | exact SSa.out | go_keep) ((go_at_call 81; ((with_reducible refine (l06Is_any pS aS S cS loS tpS rv (rw' m i) cv lom tpm wr.drew HI.out (HS.out.below HBD.out tS) (Nat.le_trans tS HBD.out.size) HROW.out (Nat.le_trans tm HBD.out.size) HMV.out).mono ?_); rintro e wa ⟨rfl, b_⟩; rw [HBL.out]; have SSa := Lib.hid (ss3 b_ hd0 hx0 hs1.out); have HBa := Lib.hid (below_step HBD.out HBD.out.size b_); have hda := Nat.lt_of_lt_of_le hd0 b_.size; clear b_)))
          go_wp2
          go_ret
          have h5 : codeB pS S m = 5 := by unfold codeB; rw [if_pos HC.out, if_neg HNB.out]
          exact ⟨by rw [h5]; rfl, HBa.out⟩
      · have hin : i = m.length := by omega
        subst hin
        have h0 : codeB pS S m = 0 := by unfold codeB; rw [if_pos HC.out, if_pos hd]
        have H0 := Lib.hid h0
        clear hd hk hbel h0
        go_wp2
        go_ret
        exact ⟨by rw [H0.out]; rfl, HB.out⟩
  · have HC := Lib.hid hc
    obtain ⟨C, hCe⟩ : ∃ c, c = codeMv pS S m := ⟨_, rfl⟩
    have hc1 : (C != 0) = true := by rw [hCe]; simpa using hc
    have HCE := Lib.hid hCe
    clear hc hCe
    go_enter Tryz.func48, Tryz.ntmps48
    go_wp2_with (go_at_call 80; ((with_reducible refine (l04Code_any pS aS S cS loS tpS am m cm lom tpm _ (HS.out.below HB0.out tS) (Nat.le_trans tS HB0.out.size) sS (Hm.out.below HB0.out tm) (Nat.le_trans tm HB0.out.size) (by omega) HSR.out).mono ?_); rintro e w2 ⟨rfl, b_⟩; rw [← HCE.out]; have HB2 := Lib.hid (below_step HB0.out HB0.out.size b_); clear b_ k0 k1))
    go_ret
    exact ⟨by rw [HBAD.out HC.out, HCE.out]; rfl, HB2.out⟩

end Go.Proofs.YtbnegbpapjcmhaaGreat

namespace Go.Proofs.YtbnegbpapjcmhaaGreat
open Go.RowKit
set_option linter.unusedVariables false

theorem checkBlades_1 (p : Int) (aS : Option Addr) (S : List Int) (cS loS tpS : Nat) (av : Option Addr) (v : List Int) (cv lov tpv : Nat) (b cap : Nat) (W : World) (T : TypeId) (hb : b = W.heap.size) (hS : RowIn loS tpS W aS S) (tS : tpS ≤ W.heap.size) (sS : S.length ≤ 1048576) (hv : RowIn lov tpv W av v) (tv : tpv ≤ W.heap.size) (sv : v.length ≤ 1048576) :
    Calls Tryz.prog 59 #[.agg #[.int .i64 p, .slice aS S.length cS], .slice (some ⟨b, 0, none⟩) 1 cap] (W.alloc (.cells #[.slice av v.length cv] T)) (ChBs 0 (W.alloc (.cells #[.slice av v.length cv] T)).heap.size p aS S cS (some ⟨b, 0, none⟩) [v] (W.alloc (.cells #[.slice av v.length cv] T))) :=
  checkBlades_any p aS S cS loS tpS (some ⟨b, 0, none⟩) [v] cap 0 _ _ (hS.below (below_alloc W _) tS) (Nat.le_trans tS (size_alloc W _)) sS (mv_one hb hv tv T) (Nat.le_refl _) (by show 1 ≤ 1024; omega) (fun i hi => by match i, hi with | 0, _ => exact sv)
theorem checkBlades_1y (p : Int) (aS : Option Addr) (S : List Int) (cS loS tpS : Nat) (av : Option Addr) (v : List Int) (cv lov tpv : Nat) (b cap : Nat) (W : World) (T : TypeId) (hb : b = W.heap.size) (hS : RowIn loS tpS W aS S) (tS : tpS ≤ W.heap.size) (sS : S.length ≤ 1048576) (hv : RowIn lov tpv W av v) (tv : tpv ≤ W.heap.size) (sv : v.length ≤ 1048576) (hc : codeB p S [v] = 0) :
    Calls Tryz.prog 59 #[.agg #[.int .i64 p, .slice aS S.length cS], .slice (some ⟨b, 0, none⟩) 1 cap] (W.alloc (.cells #[.slice av v.length cv] T)) fun e w' => ∃ (g : Nat) (r0 : Option Addr) (k0 : Nat), e = .returned (.tuple #[.slice (some ⟨g, 0, none⟩) 1 1, .int .i64 0]) ∧ ((w'.cell? ⟨g, 0, none⟩ = some (.int .i64 p) ∧ w'.cell? ⟨g, 1, none⟩ = some (.slice aS S.length cS) ∧ w'.cell? ⟨g, 2, none⟩ = some (.slice av v.length cv) ∧ w'.cell? ⟨g, 3, none⟩ = some (.slice r0 (subM p S v).length k0) ∧ w'.cell? ⟨g, 4, none⟩ = some (.int .i64 (facM p S v))) ∧ OwnM W.heap.size w'.heap.size w' r0 (subM p S v)) ∧ W.heap.size < g ∧ g < w'.heap.size ∧ Below W.heap.size W w' :=
  (checkBlades_1 p aS S cS loS tpS av v cv lov tpv b cap W T hb hS tS sS hv tv sv).mono fun e w' h => by
    rcases h with ⟨_, g, rfl, hb', hg0, hg1, hbl⟩ | ⟨h, _⟩
    rotate_left
    · exact absurd hc h
    have hz := hbl.size
    obtain ⟨a0, c0, r0, k0, ⟨bb0, ob0, hbb0, hcc0⟩, q0, rr0, oo0⟩ := hb' 0 (by show 0 < 1; omega)
    have e0 : b = bb0 ∧ 0 = ob0 := by injection hbb0 with h1; injection h1 with h2 h3; exact ⟨h2, h3⟩
    rw [← e0.1, ← e0.2, hb, World.cell?_alloc_new] at hcc0
    have f0 : (av = a0) ∧ (cv = c0) := by simp at hcc0; exact ⟨hcc0.1, hcc0.2.2⟩
    obtain ⟨rfl, rfl⟩ := f0
    have hW : W.heap.size < (W.alloc (.cells #[.slice av v.length cv] T)).heap.size := by simp
    exact ⟨g, r0, k0, rfl, ⟨q0, oo0.mono (size_alloc W _) (Nat.le_refl _)⟩, by omega, hg1, below_step (below_alloc W _) (size_alloc W _) hbl⟩
theorem checkBlades_1n (p : Int) (aS : Option Addr) (S : List Int) (cS loS tpS : Nat) (av : Option Addr) (v : List Int) (cv lov tpv : Nat) (b cap : Nat) (W : World) (T : TypeId) (hb : b = W.heap.size) (hS : RowIn loS tpS W aS S) (tS : tpS ≤ W.heap.size) (sS : S.length ≤ 1048576) (hv : RowIn lov tpv W av v) (tv : tpv ≤ W.heap.size) (sv : v.length ≤ 1048576) (hc : codeB p S [v] ≠ 0) :
    Calls Tryz.prog 59 #[.agg #[.int .i64 p, .slice aS S.length cS], .slice (some ⟨b, 0, none⟩) 1 cap] (W.alloc (.cells #[.slice av v.length cv] T)) fun e w' => e = .returned (.tuple #[.slice none 0 0, .int .i64 (codeB p S [v])]) ∧ Below W.heap.size W w' :=
  (checkBlades_1 p aS S cS loS tpS av v cv lov tpv b cap W T hb hS tS sS hv tv sv).mono fun e w' h => by
    rcases h with ⟨h, _⟩ | ⟨_, h, hbl⟩
    · exact absurd h hc
    · exact ⟨h, below_step (below_alloc W _) (size_alloc W _) hbl⟩

theorem checkBlades_2 (p : Int) (aS : Option Addr) (S : List Int) (cS loS tpS : Nat) (av : Option Addr) (v : List Int) (cv lov tpv : Nat) (au : Option Addr) (u : List Int) (cu lou tpu : Nat) (b cap : Nat) (W : World) (T : TypeId) (hb : b = W.heap.size) (hS : RowIn loS tpS W aS S) (tS : tpS ≤ W.heap.size) (sS : S.length ≤ 1048576) (hv : RowIn lov tpv W av v) (tv : tpv ≤ W.heap.size) (sv : v.length ≤ 1048576) (hu : RowIn lou tpu W au u) (tu : tpu ≤ W.heap.size) (su : u.length ≤ 1048576) :
    Calls Tryz.prog 59 #[.agg #[.int .i64 p, .slice aS S.length cS], .slice (some ⟨b, 0, none⟩) 2 cap] (W.alloc (.cells #[.slice av v.length cv, .slice au u.length cu] T)) (ChBs 0 (W.alloc (.cells #[.slice av v.length cv, .slice au u.length cu] T)).heap.size p aS S cS (some ⟨b, 0, none⟩) [v, u] (W.alloc (.cells #[.slice av v.length cv, .slice au u.length cu] T))) :=
  checkBlades_any p aS S cS loS tpS (some ⟨b, 0, none⟩) [v, u] cap 0 _ _ (hS.below (below_alloc W _) tS) (Nat.le_trans tS (size_alloc W _)) sS (mv_two hb hv tv hu tu T) (Nat.le_refl _) (by show 2 ≤ 1024; omega) (fun i hi => by match i, hi with | 0, _ => exact sv | 1, _ => exact su)
theorem checkBlades_2y (p : Int) (aS : Option Addr) (S : List Int) (cS loS tpS : Nat) (av : Option Addr) (v : List Int) (cv lov tpv : Nat) (au : Option Addr) (u : List Int) (cu lou tpu : Nat) (b cap : Nat) (W : World) (T : TypeId) (hb : b = W.heap.size) (hS : RowIn loS tpS W aS S) (tS : tpS ≤ W.heap.size) (sS : S.length ≤ 1048576) (hv : RowIn lov tpv W av v) (tv : tpv ≤ W.heap.size) (sv : v.length ≤ 1048576) (hu : RowIn lou tpu W au u) (tu : tpu ≤ W.heap.size) (su : u.length ≤ 1048576) (hc : codeB p S [v, u] = 0) :
    Calls Tryz.prog 59 #[.agg #[.int .i64 p, .slice aS S.length cS], .slice (some ⟨b, 0, none⟩) 2 cap] (W.alloc (.cells #[.slice av v.length cv, .slice au u.length cu] T)) fun e w' => ∃ (g : Nat) (r0 : Option Addr) (k0 : Nat) (r1 : Option Addr) (k1 : Nat), e = .returned (.tuple #[.slice (some ⟨g, 0, none⟩) 2 2, .int .i64 0]) ∧ ((w'.cell? ⟨g, 0, none⟩ = some (.int .i64 p) ∧ w'.cell? ⟨g, 1, none⟩ = some (.slice aS S.length cS) ∧ w'.cell? ⟨g, 2, none⟩ = some (.slice av v.length cv) ∧ w'.cell? ⟨g, 3, none⟩ = some (.slice r0 (subM p S v).length k0) ∧ w'.cell? ⟨g, 4, none⟩ = some (.int .i64 (facM p S v))) ∧ OwnM W.heap.size w'.heap.size w' r0 (subM p S v)) ∧ ((w'.cell? ⟨g, 5, none⟩ = some (.int .i64 p) ∧ w'.cell? ⟨g, 6, none⟩ = some (.slice aS S.length cS) ∧ w'.cell? ⟨g, 7, none⟩ = some (.slice au u.length cu) ∧ w'.cell? ⟨g, 8, none⟩ = some (.slice r1 (subM p S u).length k1) ∧ w'.cell? ⟨g, 9, none⟩ = some (.int .i64 (facM p S u))) ∧ OwnM W.heap.size w'.heap.size w' r1 (subM p S u)) ∧ W.heap.size < g ∧ g < w'.heap.size ∧ Below W.heap.size W w' :=
  (checkBlades_2 p aS S cS loS tpS av v cv lov tpv au u cu lou tpu b cap W T hb hS tS sS hv tv sv hu tu su).mono fun e w' h => by
    rcases h with ⟨_, g, rfl, hb', hg0, hg1, hbl⟩ | ⟨h, _⟩
    rotate_left
    · exact absurd hc h
    have hz := hbl.size
    obtain ⟨a0, c0, r0, k0, ⟨bb0, ob0, hbb0, hcc0⟩, q0, rr0, oo0⟩ := hb' 0 (by show 0 < 2; omega)
    have e0 : b = bb0 ∧ 0 = ob0 := by injection hbb0 with h1; injection h1 with h2 h3; exact ⟨h2, h3⟩
    rw [← e0.1, ← e0.2, hb, World.cell?_alloc_new] at hcc0
    have f0 : (av = a0) ∧ (cv = c0) := by simp at hcc0; exact ⟨hcc0.1, hcc0.2.2⟩
    obtain ⟨rfl, rfl⟩ := f0
    obtain ⟨a1, c1, r1, k1, ⟨bb1, ob1, hbb1, hcc1⟩, q1, rr1, oo1⟩ := hb' 1 (by show 1 < 2; omega)
    have e1 : b = bb1 ∧ 0 = ob1 := by injection hbb1 with h1; injection h1 with h2 h3; exact ⟨h2, h3⟩
    rw [← e1.1, ← e1.2, hb, World.cell?_alloc_new] at hcc1
    have f1 : (au = a1) ∧ (cu = c1) := by simp at hcc1; exact ⟨hcc1.1, hcc1.2.2⟩
    obtain ⟨rfl, rfl⟩ := f1
    have hW : W.heap.size < (W.alloc (.cells #[.slice av v.length cv, .slice au u.length cu] T)).heap.size := by simp
    exact ⟨g, r0, k0, r1, k1, rfl, ⟨q0, oo0.mono (size_alloc W _) (Nat.le_refl _)⟩, ⟨q1, oo1.mono (size_alloc W _) (Nat.le_refl _)⟩, by omega, hg1, below_step (below_alloc W _) (size_alloc W _) hbl⟩
theorem checkBlades_2n (p : Int) (aS : Option Addr) (S : List Int) (cS loS tpS : Nat) (av : Option Addr) (v : List Int) (cv lov tpv : Nat) (au : Option Addr) (u : List Int) (cu lou tpu : Nat) (b cap : Nat) (W : World) (T : TypeId) (hb : b = W.heap.size) (hS : RowIn loS tpS W aS S) (tS : tpS ≤ W.heap.size) (sS : S.length ≤ 1048576) (hv : RowIn lov tpv W av v) (tv : tpv ≤ W.heap.size) (sv : v.length ≤ 1048576) (hu : RowIn lou tpu W au u) (tu : tpu ≤ W.heap.size) (su : u.length ≤ 1048576) (hc : codeB p S [v, u] ≠ 0) :
    Calls Tryz.prog 59 #[.agg #[.int .i64 p, .slice aS S.length cS], .slice (some ⟨b, 0, none⟩) 2 cap] (W.alloc (.cells #[.slice av v.length cv, .slice au u.length cu] T)) fun e w' => e = .returned (.tuple #[.slice none 0 0, .int .i64 (codeB p S [v, u])]) ∧ Below W.heap.size W w' :=
  (checkBlades_2 p aS S cS loS tpS av v cv lov tpv au u cu lou tpu b cap W T hb hS tS sS hv tv sv hu tu su).mono fun e w' h => by
    rcases h with ⟨h, _⟩ | ⟨_, h, hbl⟩
    · exact absurd h hc
    · exact ⟨h, below_step (below_alloc W _) (size_alloc W _) hbl⟩

/-- A blade, or a code and a zero blade. -/
def ChB (p : Int) (aS : Option Addr) (S : List Int) (cS : Nat) (ax : Option Addr) (x : List Int) (cx : Nat) (C : Int) (w : World) (e : Ending) (w' : World) : Prop :=
  (C = 0 ∧ ∃ (r : Option Addr) (k : Nat), e = .returned (.tuple #[.agg #[.int .i64 p, .slice aS S.length cS, .slice ax x.length cx, .slice r (subM p S x).length k, .int .i64 (facM p S x)], .int .i64 0]) ∧ OwnM w.heap.size w'.heap.size w' r (subM p S x) ∧ Below w.heap.size w w')
  ∨ (C ≠ 0 ∧ e = .returned (.tuple #[.agg #[.int .i64 0, .slice none 0 0, .slice none 0 0, .slice none 0 0, .int .i64 0], .int .i64 C]) ∧ Below w.heap.size w w')

set_option maxRecDepth 100000 in
set_option maxHeartbeats 3200000 in
theorem checkBlade_any (pS : Int) (aS : Option Addr) (S : List Int) (cS loS tpS : Nat) (ax : Option Addr) (x : List Int) (cx lox tpx : Nat) (w : World) (hS : RowIn loS tpS w aS S) (tS : tpS ≤ w.heap.size) (sS : S.length ≤ 1048576) (hx : RowIn lox tpx w ax x) (tx : tpx ≤ w.heap.size) (sx : x.length ≤ 1048576) :
    Calls Tryz.prog 50 #[.agg #[.int .i64 pS, .slice aS S.length cS], .slice ax x.length cx] w (ChB pS aS S cS ax x cx (codeB pS S [x]) w) := by
  have HS := Lib.hid hS
  have Hx := Lib.hid hx
  have HB0 := Lib.hid (below_alloc w (.cells #[.int .i64 pS, .slice aS S.length cS] 29))
  have k0 := nw0 w (.int .i64 pS) (.slice aS S.length cS) 29
  have k1 := nw1 w (.int .i64 pS) (.slice aS S.length cS) 29
  clear hS hx
  by_cases hc : codeB pS S [x] = 0
  · have HC := Lib.hid hc
    clear hc
    go_enter Tryz.func50, Tryz.ntmps50
    go_upto_region 1 with fail
    obtain ⟨w0, hw0'⟩ : ∃ z, z = w.alloc (.cells #[.int .i64 pS, .slice aS S.length cS] 29) := ⟨_, rfl⟩
    rw [← hw0'] at HB0 k0 k1 ⊢
    have hw0 : w.heap.size < w0.heap.size := by rw [hw0']; simp
    have hwz : w.heap.size + 1 = w0.heap.size := by rw [hw0']; simp
    try rw [hwz]
    clear hw0'
    obtain ⟨w1, hw1⟩ : ∃ z, z = w0.alloc (.cells #[.int .i64 0, .slice none 0 0, .slice none 0 0, .slice none 0 0, .int .i64 0] 52) := ⟨_, rfl⟩
    obtain ⟨g, hg⟩ : ∃ b, b = w0.heap.size := ⟨_, rfl⟩
    have hs0 : w1.cell? ⟨w.heap.size, 0, none⟩ = some (.int .i64 pS) ∧ w1.cell? ⟨w.heap.size, 1, none⟩ = some (.slice aS S.length cS) := by rw [hw1]; exact ss2x (below_alloc w0 _) hw0 ⟨k0, k1⟩
    have hzz : Z5 g (.int .i64 0) (.slice none 0 0) (.slice none 0 0) (.slice none 0 0) (.int .i64 0) w1 := by rw [hw1, hg]; exact Z5.new _ _ _ _ _ _ _
    have HB1 : Hid (Below w.heap.size w w1) := by show Below _ _ _; rw [hw1]; exact HB0.out.alloc HB0.out.size _
    have hg1 : g < w1.heap.size := by rw [hw1, hg]; simp
    have hwg : w.heap.size < g := by omega
    have hd1 : w.heap.size < w1.heap.size := Nat.lt_trans hwg hg1
    rw [← hw1]
    rw [← hg]
    clear hw1 hwz hg k0 k1
    have k0 := hs0.1
    have k1 := hs0.2
    have K1 := Lib.hid hs0
    have ZZ := Lib.hid hzz
    clear hs0 hzz
    go_upto_region 2 with (go_at_call 59; ((with_reducible refine (checkBlades_1y pS aS S cS loS tpS ax x cx lox tpx _ _ w1 _ rfl (HS.out.below HB1.out tS) (Nat.le_trans tS HB1.out.size) sS (Hx.out.below HB1.out tx) (Nat.le_trans tx HB1.out.size) sx HC.out).mono ?_); rintro e w2 ⟨b, r0, k0_, rfl, ⟨⟨q0, q1, q2, q3, q4⟩, oo_⟩, hb0, hb1, b_⟩; have OO := Lib.hid oo_; have B2 := Lib.hid b_; obtain ⟨⟨z0, z1, z2, z3, z4⟩, y0, y1, y2, y3, y4⟩ := ZZ.out.below b_ hg1; clear oo_ b_ k0 k1))
    have hbg : b ≠ g := by omega
    obtain ⟨F, hF⟩ : ∃ f, f = facM pS S x := ⟨_, rfl⟩
    have HF := Lib.hid hF
    rw [← hF] at q4
    clear hF
    go_wp2
    refine bodyPost_ret (v := .tuple #[.agg #[.int .i64 pS, .slice aS S.length cS, .slice ax x.length cx, .slice r0 (subM pS S x).length k0_, .int .i64 F], .int .i64 0]) (by simp [results, Tryz.results50, go_sem, z0, z1, z2, z3, z4]) rfl (.inl ⟨HC.out, r0, k0_, by rw [← HF.out], ?_, ?_⟩)
    · exact (OO.out.put5 (g := g) hg1).mono (Nat.le_of_lt hd1) (by simp [World.setCell])
    · exact below_put5 (HB1.out.trans (B2.out.mono (Nat.le_of_lt hd1))) (Nat.le_of_lt hwg)
  · have HC := Lib.hid hc
    obtain ⟨C, hC⟩ : ∃ c, c = codeB pS S [x] := ⟨_, rfl⟩
    have hc1 : (C != 0) = true := by rw [hC]; simpa using hc
    have HCE := Lib.hid hC
    clear hc hC
    go_enter Tryz.func50, Tryz.ntmps50
    go_upto_region 1 with fail
    obtain ⟨w0, hw0'⟩ : ∃ z, z = w.alloc (.cells #[.int .i64 pS, .slice aS S.length cS] 29) := ⟨_, rfl⟩
    rw [← hw0'] at HB0 k0 k1 ⊢
    have hw0 : w.heap.size < w0.heap.size := by rw [hw0']; simp
    have hwz : w.heap.size + 1 = w0.heap.size := by rw [hw0']; simp
    try rw [hwz]
    clear hw0'
    obtain ⟨w1, hw1⟩ : ∃ z, z = w0.alloc (.cells #[.int .i64 0, .slice none 0 0, .slice none 0 0, .slice none 0 0, .int .i64 0] 52) := ⟨_, rfl⟩
    obtain ⟨g, hg⟩ : ∃ b, b = w0.heap.size := ⟨_, rfl⟩
    have hs0 : w1.cell? ⟨w.heap.size, 0, none⟩ = some (.int .i64 pS) ∧ w1.cell? ⟨w.heap.size, 1, none⟩ = some (.slice aS S.length cS) := by rw [hw1]; exact ss2x (below_alloc w0 _) hw0 ⟨k0, k1⟩
    have hzz : Z5 g (.int .i64 0) (.slice none 0 0) (.slice none 0 0) (.slice none 0 0) (.int .i64 0) w1 := by rw [hw1, hg]; exact Z5.new _ _ _ _ _ _ _
    have HB1 : Hid (Below w.heap.size w w1) := by show Below _ _ _; rw [hw1]; exact HB0.out.alloc HB0.out.size _
    have hg1 : g < w1.heap.size := by rw [hw1, hg]; simp
    have hwg : w.heap.size < g := by omega
    have hd1 : w.heap.size < w1.heap.size := Nat.lt_trans hwg hg1
    rw [← hw1]
    rw [← hg]
    clear hw1 hwz hg k0 k1
    have k0 := hs0.1
    have k1 := hs0.2
    have K1 := Lib.hid hs0
    have ZZ := Lib.hid hzz
    clear hs0 hzz
    go_wp2_with (go_at_call 59; ((with_reducible refine (checkBlades_1n pS aS S cS loS tpS ax x cx lox tpx _ _ w1 _ rfl (HS.out.below HB1.out tS) (Nat.le_trans tS HB1.out.size) sS (Hx.out.below HB1.out tx) (Nat.le_trans tx HB1.out.size) sx HC.out).mono ?_); rintro e w2 ⟨rfl, b_⟩; rw [← HCE.out]; have B2 := Lib.hid b_; obtain ⟨⟨z0, z1, z2, z3, z4⟩, y0, y1, y2, y3, y4⟩ := ZZ.out.below b_ hg1; clear b_ k0 k1))
    refine bodyPost_ret (v := .tuple #[.agg #[.int .i64 0, .slice none 0 0, .slice none 0 0, .slice none 0 0, .int .i64 0], .int .i64 C]) (by simp [results, Tryz.results50, go_sem, z0, z1, z2, z3, z4]) rfl (.inr ⟨HC.out, by rw [← HCE.out], below_put5 (HB1.out.trans (B2.out.mono (Nat.le_of_lt hd1))) (Nat.le_of_lt hwg)⟩)

end Go.Proofs.YtbnegbpapjcmhaaGreat
