/-
  Inverse matrices (program): contracts of the program and of the model.
  Conditions: the lists are nil or rows of known cells, of at most 1048576 numbers.
-/
import Derived.Test.YtkibkkdeaojjoabGreatQg28
import Derived.Test.YtkibkkdeaojjoabGreatQg29
import Derived.Test.YtkibkkdeaojjoabGreatQg12
import Derived.Test.YtkibkkdeaojjoabGreatQg30
import Derived.Test.YtkibkkdeaojjoabGreatQg27
import Derived.Deep.RegionHeld3
import Derived.Deep.DeepCutAuto
namespace Go.Proofs.YtkibkkdeaojjoabGreat
open Go.RowKit Go.ChangeShapes Go.WideShapes
set_option linter.unusedVariables false

/-- The rows that elimination makes, where they lie, and their pivots. -/
def ElV (p : Int) (n c : Nat) (B : List (List Int)) (w : World) (e : Ending) (w' : World) : Prop :=
  ∃ (ar ap cr cp : Nat) (dd : Int) (RB RO RC : Nat → Nat), e = .returned (.agg #[.slice (some ⟨ar, 0, none⟩) n cr, .slice (some ⟨ap, 0, none⟩) n cp, .int .i64 dd]) ∧
    (∀ i, i < n → w'.cell? ⟨ar, i, none⟩ = some (.slice (some ⟨RB i, RO i, none⟩) c (RC i)) ∧ c ≤ RC i ∧ w.heap.size ≤ RB i ∧ RB i < w'.heap.size ∧ RowOwn w' (RB i) (RO i) c (at' B i)) ∧
    (∀ i, i < n → ∀ i', i' < n → i ≠ i' → RB i ≠ RB i') ∧ (∀ i, i < n → w'.cell? ⟨ap, i, none⟩ = some (.int .i64 (pvs B i : Int))) ∧ ar < w'.heap.size ∧ ap < w'.heap.size ∧ Below w.heap.size w w'
theorem eliminate_v (p : Int) (a : Option Addr) (A : List (List Int)) (n ca lo tp : Nat) (w : World) (hn : A.length = n) (hm : MatIn lo tp w a (inW A)) (ht : tp ≤ w.heap.size) (hA : Lst 1 p A) (hq : A.length = (rw' A 0).length) :
    Calls Tryz.prog 80 #[.int .i64 p, .slice a n ca] w (ElV p n (n + n) (inB p A) w) := by
  subst hn
  have hX := inW_rows hA hq
  have hp := hX.prime
  have hlen : (inW A).length = A.length := bes_len _ _
  have h0 := hX.len0
  have hIB := inB_is hA hq
  have h := eliminate_bas p a (inW A) ca lo tp w hp hm ht hX.hi (fun i hi => by rw [hX.len i hi, h0]; exact ⟨hX.c0, hX.c1, rfl⟩) (fun i hi j hj => hX.rng i hi j (by rw [← hX.len i hi]; exact hj))
  rw [hlen] at h
  refine h.mono ?_
  rintro e w' ⟨P, d, dd, ar, ap, cr, cp, kb, c', RB, RO, RC, rfl, hE, hM, hB, hk, hd⟩
  obtain ⟨_, rfl⟩ := hd hX.lo
  have hK := hM.kept hp
  have e0 : (bas p (inW A)).length = A.length := hIB.2
  have hA0 : 0 < A.length := hA.lo
  obtain ⟨g, rfl, _, hg0, hg1⟩ := hE.readA (i := 0) (by omega)
  obtain ⟨q, rfl, _, hq0, hq1⟩ := hE.pivA (i := 0) (by omega)
  refine ⟨g, q, cr, cp, dd, RB, RO, RC, by rw [e0], fun i hi => ?_, fun i hi i' hi' hne => hE.apart i (by omega) i' (by omega) hne, fun i hi => ?_, hg1, hq1, hB⟩
  · obtain ⟨g', eg, hc, _, _⟩ := hE.readA (i := i) (by omega)
    injection eg with e1
    injection e1 with e2
    subst e2
    have hr := hE.rng i (by omega)
    have h5 := hE.row i (by omega)
    have h6 := hE.rc i (by omega)
    rw [h0] at hc h5 h6
    exact ⟨hc, h6, by omega, hr.2, h5⟩
  · obtain ⟨g', eg, hc, _, _⟩ := hE.pivA (i := i) (by omega)
    injection eg with e1
    injection e1 with e2
    subst e2
    have := hK.red.pvs hK.len (i := i) (by omega)
    unfold inB
    rw [this]
    exact hc
theorem besideI (p : Int) (a a' : Option Addr) (A : List (List Int)) (n ca ca' lo tp lo' tp' : Nat) (w : World) (hn : A.length = n) (hm : MatIn lo tp w a A) (ht : tp ≤ w.heap.size) (hm' : MatIn lo' tp' w a' (oneM n)) (ht' : tp' ≤ w.heap.size) (hA : Lst 1 p A) (hq : A.length = (rw' A 0).length) :
    Calls Tryz.prog 92 #[.slice a n ca, .slice a' n ca'] w (NewMN n (inW A) w) := by
  subst hn
  have h16 := hA.hi
  have h0 : 0 < A.length := hA.lo
  exact besideEach_any a a' A (oneM A.length) ca ca' lo tp lo' tp' A.length A.length A.length w hm ht hm' ht' (show A.length = (oneM A.length).length from (mk_len _ _ _).symm) (by rw [show (oneM A.length).length = A.length from mk_len _ _ _]; exact Nat.le_refl _) (by rw [show (oneM A.length).length = A.length from mk_len _ _ _]; omega) (fun i hi => by rw [hA.len i hi, ← hq]) (fun i hi => mk_rowLen _ hi) h0 (by omega) h0 (by omega)
theorem checkSq_n (p : Int) (a : Option Addr) (m : List (List Int)) (n cap lo tp : Nat) (w : World) (hn : m.length = n) (hm : MatIn lo tp w a m) (ht : tp ≤ w.heap.size) (hs : m.length + tot m m.length ≤ 1048576) :
    Calls Tryz.prog 91 #[.int .i64 p, .slice a n cap] w fun e w' => e = .returned (.int .i64 (sqC p m)) ∧ Below w.heap.size w w' := by
  subst hn; exact checkSquare_any p a m cap lo tp w hm ht hs
theorem unitI (n : Nat) (w : World) (hn : n ≤ 1024) (h0 : 1 ≤ n) :
    Calls Tryz.prog 53 #[.int .i64 n] w (fun e w' => ∃ r c, e = .returned (.slice r n c) ∧ OwnM w.heap.size w'.heap.size w' r (oneM n) ∧ Below w.heap.size w w') :=
  (unitMatrix_any n w hn h0).mono fun _ _ ⟨r, c, h1, h2, h3⟩ => ⟨r, c, by rw [h1, show (oneM n).length = n from mk_len _ _ _], h2, h3⟩

set_option maxRecDepth 100000 in
set_option maxHeartbeats 6400000 in
theorem impl_InverseMatrix (p : Int) (am : Option Addr) (m : List (List Int)) (cm lom tpm : Nat) (w : World) (hm : MatIn lom tpm w am m) (tm : tpm ≤ w.heap.size) (sm' : m.length + tot m m.length ≤ 1048576) :
    Calls Tryz.prog 68 #[.int .i64 p, .slice am m.length cm] w (ImplM (ivmV p m) (ivmC p m) w) := by
  have Hm := Lib.hid hm
  have Sm := Lib.hid sm'
  clear hm sm'
  by_cases h0 : sqC p m = 0
  · have HC0 := Lib.hid h0
    have hL := sq_lst h0
    have HL := Lib.hid hL
    have hIB := inB_is hL.1 hL.2
    have hm0 : 0 < m.length := hL.1.lo
    have hm16 := hL.1.hi
    obtain ⟨n, hn⟩ : ∃ n, n = m.length := ⟨_, rfl⟩
    obtain ⟨B, hB⟩ : ∃ B, B = inB p m := ⟨_, rfl⟩
    have HBE := Lib.hid hB
    have HN := Lib.hid hn
    have hpiv : pvs B (n - 1) = n - 1 ↔ detP p m ≠ 0 := by
      rw [hB, hn]
      exact inv_iff_det hL.1.prime rfl hm0 (fun i hi => by rw [hL.1.len i hi, ← hL.2]) (fun i hi j hj => hL.1.at hi (by rw [← hL.2]; exact hj)) hIB.1 hIB.2
    have HPV := Lib.hid hpiv
    obtain ⟨n1, hn1⟩ : ∃ k, k = n - 1 := ⟨_, rfl⟩
    rw [← hn1] at hpiv
    obtain ⟨P1, hP1⟩ : ∃ k, k = pvs B n1 := ⟨_, rfl⟩
    have HP1 := Lib.hid hP1
    rw [← hP1] at hpiv
    have q0 : (0 : Int) ≤ (n : Int) - 1 := by omega
    have q1 : (n : Int) - 1 < (n : Int) := by omega
    have q2 : ((n : Int) - 1).toNat = n1 := by omega
    have hnn1 : n1 < n := by omega
    have HPQ := Lib.hid hpiv
    have hnm : n ≤ m.length ∧ m.length ≤ n := by omega
    rw [← hn]
    rw [← hn] at hm0 hm16
    clear h0 hL hIB hB hpiv hP1 hn1 hn
    by_cases hp : P1 = n1
    · have HV : Hid (ivmC p m = 0 ∧ ivmV p m = invM p m) := by
        have hd : detP p m ≠ 0 := (HPQ.out).1 hp
        have e : ivmC p m = 0 := by unfold ivmC; rw [if_pos HC0.out, if_neg hd]
        exact ⟨e, if_pos e⟩
      have e1 : ((P1 : Int) != (n : Int) - 1) = false := by
        have : (P1 : Int) = (n : Int) - 1 := by omega
        simpa using this
      have hmk := fun W => run_make_row' (P := Tryz.prog) 26 22 (.slice none 0 0) 24 Tryz.underlying26 info_slice rfl .i64 .i64 n (by omega) (by omega) W
      clear hp
      go_enter Tryz.func68, Tryz.ntmps68
      go_upto_region 5 with (go_at_call 91; ((with_reducible refine (checkSq_n p am m n cm lom tpm w HN.out.symm Hm.out tm Sm.out).mono ?_); rintro e w1 ⟨rfl, hb⟩; rw [HC0.out]; have HB1 := Lib.hid hb; have hz1 := hb.size; clear hb))
      go_upto_region 6 with (first | (go_at_call 53; ((with_reducible refine (unitI n w1 (by omega) (by omega)).mono ?_); rintro e w2 ⟨r2, c2, rfl, o_, b_⟩; have HU2 := Lib.hid o_.mat; have HB2 := Lib.hid (below_step HB1.out hz1 b_); have hz2 := HB2.out.size; clear o_ b_)) | (go_at_call 92; ((with_reducible refine (besideI p am r2 m n cm c2 lom tpm w1.heap.size w2.heap.size w2 HN.out.symm (Hm.out.below HB2.out tm) (Nat.le_trans tm hz2) HU2.out (Nat.le_refl _) HL.out.1 HL.out.2).mono ?_); rintro e w3 ⟨r3, c3, rfl, o_, b_⟩; have HW3 := Lib.hid o_; have HB3 := Lib.hid (below_step HB2.out hz2 b_); have hz3 := HB3.out.size; clear o_ b_)) | (go_at_call 80; ((with_reducible refine (eliminate_v p r3 m n c3 w2.heap.size w3.heap.size w3 HN.out.symm HW3.out (Nat.le_refl _) HL.out.1 HL.out.2).mono ?_); rintro e w4 ⟨ar, ap, cr, cp, dd, RB, RO, RC, rfl, hrw, hap, hpv, lar, lap, b_⟩; rw [← HBE.out] at hrw hpv; have HRW := Lib.hid hrw; have HAP := Lib.hid hap; have HPC := Lib.hid hpv; have HB4 := Lib.hid (below_step HB3.out hz3 b_); have hz4 := HB4.out.size; clear hrw hap hpv b_)))
      obtain ⟨w5, hw5⟩ : ∃ z, z = w4.alloc (.cells #[.slice (some ⟨ar, 0, none⟩) n cr, .slice (some ⟨ap, 0, none⟩) n cp, .int .i64 dd] 96) := ⟨_, rfl⟩
      obtain ⟨k, hk⟩ : ∃ b, b = w4.heap.size := ⟨_, rfl⟩
      have k0 : w5.cell? ⟨k, 0, none⟩ = some (.slice (some ⟨ar, 0, none⟩) n cr) := by rw [hw5, hk]; simp [go_sem]
      have k1 : w5.cell? ⟨k, 1, none⟩ = some (.slice (some ⟨ap, 0, none⟩) n cp) := by rw [hw5, hk]; simp [go_sem]
      have b45 : Below w4.heap.size w4 w5 := by rw [hw5]; exact balloc w4 _
      have HB45 := Lib.hid b45
      have HB5 := Lib.hid (below_step HB4.out hz4 b45)
      have hk5 : k < w5.heap.size := by rw [hw5, hk]; simp
      rw [← hw5, ← hk]
      have hz5 := HB5.out.size
      have c1 : w5.cell? ⟨ap, n1, none⟩ = some (.int .i64 (P1 : Int)) := by rw [HP1.out]; exact (b45.cell (p := ⟨ap, n1, none⟩) lap).trans (HPC.out n1 hnn1)
      clear hw5 hk b45
      go_upto_region 9 with fail
      clear hmk
      obtain ⟨w6, hw6⟩ : ∃ z, z = w5.alloc (.cells (madeCells #[.slice none 0 0] n) 22) := ⟨_, rfl⟩
      obtain ⟨g, hg⟩ : ∃ b, b = w5.heap.size := ⟨_, rfl⟩
      have b56 : Below w5.heap.size w5 w6 := by rw [hw6]; exact balloc w5 _
      have HB6 := Lib.hid (below_step HB5.out hz5 b56)
      have g6 : g < w6.heap.size := by rw [hw6, hg]; simp
      have m0 := (b56.cell (p := ⟨k, 0, none⟩) hk5).trans k0
      have HRS : Hid (∀ j, j < n → w6.cell? ⟨g, j, none⟩ = some (.slice none 0 0)) := fun j hj => by rw [hw6, hg]; exact made_cell w5 _ n _ hj
      have HFZ : Hid (∀ j, w6.frozen? ⟨g, j, none⟩ = false) := fun j => by rw [hw6, hg]; simp [go_sem]
      have HR6 : Hid (∀ i, i < n → w6.cell? ⟨ar, i, none⟩ = some (.slice (some ⟨RB i, RO i, none⟩) (n + n) (RC i)) ∧ n + n ≤ RC i ∧ w.heap.size ≤ RB i ∧ RB i < g ∧ RowOwn w6 (RB i) (RO i) (n + n) (at' B i)) := fun i hi => by
        obtain ⟨r1, r2, r3, r4, r5⟩ := HRW.out i hi
        have hb := HB45.out.trans (b56.mono HB45.out.size)
        have h45 := HB45.out.size
        exact ⟨(hb.cell (p := ⟨ar, i, none⟩) lar).trans r1, r2, by omega, by omega, ⟨fun j hj => (hb.cell (p := ⟨RB i, RO i + j, none⟩) r4).trans (r5.cell j hj), fun j hj => (hb.frozen (p := ⟨RB i, RO i + j, none⟩) r4).trans (r5.free j hj)⟩⟩
      have har : ar < g := by have := HB45.out.size; omega
      have hwg : w.heap.size ≤ g := by omega
      rw [← hw6, ← hg]
      clear hw6 hg b56 k0 k1 c1
      go_wp2
      clear m0
      go_loopw [40] (fun t wr => ∃ i : Nat, i ≤ n ∧ t = .int .i64 i ∧ (∀ j, j < i → wr.cell? ⟨g, j, none⟩ = some (.slice (some ⟨RB j, RO j + n, none⟩) n n)) ∧ (∀ j, i ≤ j → j < n → wr.cell? ⟨g, j, none⟩ = some (.slice none 0 0)) ∧ Wrote g 0 n w6 wr) (fun t _ => n - (intOf t).toNat)
      case atStart => exact ⟨0, Nat.zero_le _, rfl, fun j hj => absurd hj (Nat.not_lt_zero j), fun j _ hj => HRS.out j hj, Wrote.refl _ _ _ _⟩
      case round =>
        obtain ⟨i, hi, rfl, hdn, hrs, hwr⟩ := hrel
        have HDN := Lib.hid hdn
        have HRE := Lib.hid hrs
        have HWR := Lib.hid hwr
        by_cases hlt : i < n
        · have hi1 : (i : Int) < (n : Int) := Int.ofNat_lt.2 hlt
          obtain ⟨r1, r2, r3, r4, r5⟩ := HR6.out i hlt
          have rc := (World.cell?_of_block (w := w6) (a := ⟨ar, i, none⟩) (hwr.block ar (by omega))).trans r1
          obtain ⟨L, hL⟩ : ∃ L, L = n + n := ⟨_, rfl⟩
          rw [← hL] at rc r2
          have g0 := hrs i (Nat.le_refl _) hlt
          have f0 : wr.frozen? ⟨g, i, none⟩ = false := (hwr.frozen i).trans (HFZ.out i)
          have x3 : (n : Int) ≤ (L : Int) := by omega
          have x4 : (L : Int) ≤ (RC i : Int) := by omega
          have x5 : n ≤ L := by omega
          have x6 : L ≤ RC i := r2
          have x7 : ¬ L = n := by omega
          have x8 : L - n = n := by omega
          have x9 : ((L : Int) - (n : Int)) = (n : Int) := by omega
          have x10 : ¬ n = L := by omega
          have x11 : (2 * (n : Int)) = (L : Int) := by omega
          have x1 : IntKind.i64.wrap (2 * (n : Int)) = (L : Int) := (IntWalk.i64_in _ (by omega)).trans x11
          have x2 : wrap64 (2 * (n : Int)) = (L : Int) := (show wrap64 (2 * (n : Int)) = 2 * (n : Int) by clear x1; unfold wrap64; omega).trans x11
          clear x11
          have HWS := Lib.hid (hwr.set (i := i) hlt (.slice (some ⟨RB i, RO i + n, none⟩) n n))
          clear hdn hrs hwr r1 r2 r3 r4 r5 hL
          go_wp2
          clear x1 x2 x3 x4 x5 x6 x7 x8 x9 x10
          go_roundw
          case rel =>
            refine ⟨i + 1, by omega, by go_num, fun j hj => ?_, fun j h1 h2 => ?_, ?_⟩
            · by_cases e : j = i
              · subst e; exact World.cell?_setCell_same wr _ _ g0
              · exact (World.cell?_setCell_other wr ⟨g, i, none⟩ ⟨g, j, none⟩ _ (fun e2 => e (by injection e2 with _ e3; exact e3.symm))).trans (HDN.out j (by omega))
            · exact (World.cell?_setCell_other wr ⟨g, i, none⟩ ⟨g, j, none⟩ _ (fun e2 => by injection e2 with _ e3; omega)).trans (HRE.out j (by omega) h2)
            · have h := HWS.out; rw [Nat.zero_add] at h; exact h
          case measure => simp [intOf]; omega
        · have hin : i = n := by omega
          subst hin
          clear hdn hrs hwr
          go_wp2
          go_ret2
          rw [HV.out.1, HV.out.2]
          refine ⟨some ⟨g, 0, none⟩, i, by rw [invM_len, ← HN.out]; rfl, .inr ⟨⟨g, 0, fun j => some ⟨RB j, RO j + i, none⟩, RB, fun j => RO j + i, fun _ => i⟩, rfl, ?_⟩, HB6.out.trans ((HWR.out.off hwg (Nat.lt_succ_self g)).below (Nat.le_refl _))⟩
          have hZ : (invM p m).length = i := by rw [invM_len, ← HN.out]
          have hR : ∀ j, j < i → (rw' (invM p m) j).length = i := fun j hj => by rw [invM_rl (by rw [← HN.out]; exact hj), ← HN.out]
          have hat : ∀ j, j < i → ∀ l, l < i → at' (invM p m) j l = at' B j (i + l) := fun j hj l hl => by
            rw [HBE.out, HN.out]; exact mk_at _ (by rw [← HN.out]; exact hj) (by rw [← HN.out]; exact hl)
          have hsz := HWR.out.size
          rw [hZ]
          exact {
            rng := fun _ => ⟨hwg, by show g < _; omega⟩
            top := fun j hj => by show wr.cell? ⟨g, 0 + j, none⟩ = _; rw [Nat.zero_add, hR j hj]; exact HDN.out j hj
            row := fun j hj => .inr rfl
            rrng := fun j hj _ => by have := HR6.out j hj; exact ⟨this.2.2.1, by show RB j < _; omega⟩
            cell := fun j hj l hl => by
              rw [hR j hj] at hl
              rw [hat j hj l hl]
              have h5 := (HR6.out j hj).2.2.2
              show wr.cell? ⟨RB j, RO j + i + l, none⟩ = _
              rw [Nat.add_assoc]
              exact (World.cell?_of_block (w := w6) (a := ⟨RB j, RO j + (i + l), none⟩) (HWR.out.block (RB j) (by omega))).trans (h5.2.cell (i + l) (by omega))
            free := fun j hj l hl => by
              rw [hR j hj] at hl
              have h5 := (HR6.out j hj).2.2.2
              show wr.frozen? ⟨RB j, RO j + i + l, none⟩ = _
              rw [Nat.add_assoc]
              exact (World.frozen?_of_block (w := w6) (a := ⟨RB j, RO j + (i + l), none⟩) (HWR.out.block (RB j) (by omega))).trans (h5.2.free (i + l) (by omega))
            apart := fun j hj j' hj' hne l _ l' _ e => HAP.out j hj j' hj' hne e.1
            tops := fun j hj l _ j' _ e => by have h5 := (HR6.out j hj).2.2.2.1; have e1 : RB j = g := e.1; omega }
    · have HV : Hid (ivmC p m = 5 ∧ ivmV p m = []) := by
        have hd : detP p m = 0 := Classical.byContradiction fun h => hp ((HPQ.out).2 h)
        have e : ivmC p m = 5 := by unfold ivmC; rw [if_pos HC0.out, if_pos hd]
        exact ⟨e, if_neg (by rw [e]; decide)⟩
      have e1 : ((P1 : Int) != (n : Int) - 1) = true := by
        have : ¬ (P1 : Int) = (n : Int) - 1 := by omega
        simpa using this
      clear hp
      go_enter Tryz.func68, Tryz.ntmps68
      go_upto_region 5 with (go_at_call 91; ((with_reducible refine (checkSq_n p am m n cm lom tpm w HN.out.symm Hm.out tm Sm.out).mono ?_); rintro e w1 ⟨rfl, hb⟩; rw [HC0.out]; have HB1 := Lib.hid hb; have hz1 := hb.size; clear hb))
      go_upto_region 6 with (first | (go_at_call 53; ((with_reducible refine (unitI n w1 (by omega) (by omega)).mono ?_); rintro e w2 ⟨r2, c2, rfl, o_, b_⟩; have HU2 := Lib.hid o_.mat; have HB2 := Lib.hid (below_step HB1.out hz1 b_); have hz2 := HB2.out.size; clear o_ b_)) | (go_at_call 92; ((with_reducible refine (besideI p am r2 m n cm c2 lom tpm w1.heap.size w2.heap.size w2 HN.out.symm (Hm.out.below HB2.out tm) (Nat.le_trans tm hz2) HU2.out (Nat.le_refl _) HL.out.1 HL.out.2).mono ?_); rintro e w3 ⟨r3, c3, rfl, o_, b_⟩; have HW3 := Lib.hid o_; have HB3 := Lib.hid (below_step HB2.out hz2 b_); have hz3 := HB3.out.size; clear o_ b_)) | (go_at_call 80; ((with_reducible refine (eliminate_v p r3 m n c3 w2.heap.size w3.heap.size w3 HN.out.symm HW3.out (Nat.le_refl _) HL.out.1 HL.out.2).mono ?_); rintro e w4 ⟨ar, ap, cr, cp, dd, RB, RO, RC, rfl, hrw, hap, hpv, lar, lap, b_⟩; rw [← HBE.out] at hrw hpv; have HRW := Lib.hid hrw; have HAP := Lib.hid hap; have HPC := Lib.hid hpv; have HB4 := Lib.hid (below_step HB3.out hz3 b_); have hz4 := HB4.out.size; clear hrw hap hpv b_)))
      obtain ⟨w5, hw5⟩ : ∃ z, z = w4.alloc (.cells #[.slice (some ⟨ar, 0, none⟩) n cr, .slice (some ⟨ap, 0, none⟩) n cp, .int .i64 dd] 96) := ⟨_, rfl⟩
      obtain ⟨k, hk⟩ : ∃ b, b = w4.heap.size := ⟨_, rfl⟩
      have k0 : w5.cell? ⟨k, 0, none⟩ = some (.slice (some ⟨ar, 0, none⟩) n cr) := by rw [hw5, hk]; simp [go_sem]
      have k1 : w5.cell? ⟨k, 1, none⟩ = some (.slice (some ⟨ap, 0, none⟩) n cp) := by rw [hw5, hk]; simp [go_sem]
      have b45 : Below w4.heap.size w4 w5 := by rw [hw5]; exact balloc w4 _
      have HB45 := Lib.hid b45
      have HB5 := Lib.hid (below_step HB4.out hz4 b45)
      have hk5 : k < w5.heap.size := by rw [hw5, hk]; simp
      rw [← hw5, ← hk]
      have hz5 := HB5.out.size
      have c1 : w5.cell? ⟨ap, n1, none⟩ = some (.int .i64 (P1 : Int)) := by rw [HP1.out]; exact (b45.cell (p := ⟨ap, n1, none⟩) lap).trans (HPC.out n1 hnn1)
      clear hw5 hk b45
      go_wp2
      go_ret2
      rw [HV.out.1, HV.out.2]
      exact ⟨none, 0, rfl, .inl rfl, HB5.out⟩
  · obtain ⟨C, hC⟩ : ∃ c, c = sqC p m := ⟨_, rfl⟩
    have hc1 : (C != 0) = true := by rw [hC]; simpa using h0
    have HCE := Lib.hid hC
    have HV : Hid (ivmC p m = sqC p m ∧ ivmV p m = []) := by
      have e : ivmC p m = sqC p m := if_neg h0
      exact ⟨e, if_neg (by rw [e]; exact h0)⟩
    clear h0 hC
    go_enter Tryz.func68, Tryz.ntmps68
    go_wp2_with (go_at_call 91; ((with_reducible refine (checkSquare_any p am m cm lom tpm w Hm.out tm Sm.out).mono ?_); rintro e w1 ⟨rfl, hb⟩; rw [← HCE.out]; have HB := Lib.hid hb; clear hb))
    go_ret2
    rw [HV.out.1, HV.out.2, ← HCE.out]
    exact ⟨none, 0, rfl, .inl rfl, HB.out⟩

end Go.Proofs.YtkibkkdeaojjoabGreat
