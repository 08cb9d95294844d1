/-
  Products of vectors (program): contracts of the program and of the model.
  Conditions: the lists are nil or rows of known cells, of at most 1048576 numbers.
-/
import Derived.Test.YthbkfpkeofpocaaGreatQv21
import Derived.Test.YthbkfpkeofpocaaGreatQv24
import Derived.Test.YthbkfpkeofpocaaGreatQv15
import Derived.Deep.RegionHeld3
import Derived.Deep.DeepCutAuto
namespace Go.Proofs.YthbkfpkeofpocaaGreat
open Go.RowKit
set_option linter.unusedVariables false

/-- What holds behind the box of a space and that of a zero versor. -/
structure DS7 (w : World) (g : Nat) (p : Int) (aS : Option Addr) (n cS : Nat) (W : World) : Prop where
  ss : W.cell? ⟨w.heap.size, 0, none⟩ = some (.int .i64 p) ∧ W.cell? ⟨w.heap.size, 1, none⟩ = some (.slice aS n cS)
  vv : V5 g (.int .i64 0) (.slice none 0 0) (.slice none 0 0) (.int .i64 0) (.int .i64 0) W
  bel : Below w.heap.size w W
  hd : w.heap.size < W.heap.size ∧ g < W.heap.size
theorem DS7.call {w W W' : World} {g : Nat} {p : Int} {aS : Option Addr} {n cS : Nat} (h : DS7 w g p aS n cS W) (b : Below W.heap.size W W') : DS7 w g p aS n cS W' :=
  ⟨ss2 b h.hd.1 h.ss, h.vv.below b h.hd.2, below_step h.bel (Nat.le_of_lt h.hd.1) b, Nat.lt_of_lt_of_le h.hd.1 b.size, Nat.lt_of_lt_of_le h.hd.2 b.size⟩
/-- With the block of the norm. -/
structure DSE (w : World) (g : Nat) (p : Int) (aS : Option Addr) (n cS : Nat) (bf : Nat) (q K : Int) (W : World) : Prop extends DS7 w g p aS n cS W where
  c0 : W.cell? ⟨bf, 0, none⟩ = some (.int .i64 q)
  c1 : W.cell? ⟨bf, 1, none⟩ = some (.int .i64 K)
  y0 : W.frozen? ⟨bf, 0, none⟩ = false
  y1 : W.frozen? ⟨bf, 1, none⟩ = false
  lb : bf < W.heap.size
  lw : w.heap.size < bf ∧ g < bf
theorem DS7.allocn {w W : World} {g : Nat} {p q K : Int} {aS : Option Addr} {n cS : Nat} (h : DS7 w g p aS n cS W) (T : TypeId) : DSE w g p aS n cS W.heap.size q K (W.alloc (.cells #[.int .i64 q, .int .i64 K] T)) :=
  { h.call (below_alloc W (.cells #[.int .i64 q, .int .i64 K] T)) with c0 := by simp [go_sem], c1 := by simp [go_sem], y0 := by simp [go_sem], y1 := by simp [go_sem], lb := lt_alloc W _, lw := h.hd }
theorem DSE.call {w W W' : World} {g bf : Nat} {p q K : Int} {aS : Option Addr} {n cS : Nat} (h : DSE w g p aS n cS bf q K W) (b : Below W.heap.size W W') : DSE w g p aS n cS bf q K W' :=
  { h.toDS7.call b with c0 := (b.cell (p := ⟨bf, 0, none⟩) h.lb).trans h.c0, c1 := (b.cell (p := ⟨bf, 1, none⟩) h.lb).trans h.c1, y0 := (b.frozen (p := ⟨bf, 0, none⟩) h.lb).trans h.y0, y1 := (b.frozen (p := ⟨bf, 1, none⟩) h.lb).trans h.y1, lb := Nat.lt_of_lt_of_le h.lb b.size, lw := h.lw }
theorem V5.put {g b o : Nat} {v0 v1 v2 v3 v4 v : Value} {w : World} (h : V5 g v0 v1 v2 v3 v4 w) (hg : g ≠ b) : V5 g v0 v1 v2 v3 v4 (w.setCell ⟨b, o, none⟩ v) := by
  have e : ∀ j, (w.setCell ⟨b, o, none⟩ v).cell? ⟨g, j, none⟩ = w.cell? ⟨g, j, none⟩ := fun j => World.cell?_setCell_other w ⟨b, o, none⟩ ⟨g, j, none⟩ v (fun e => hg (by injection e with e1; exact e1.symm))
  have f : ∀ j, (w.setCell ⟨b, o, none⟩ v).frozen? ⟨g, j, none⟩ = w.frozen? ⟨g, j, none⟩ := fun j => by simp [go_sem]
  exact ⟨⟨(e 0).trans h.1.1, (e 1).trans h.1.2.1, (e 2).trans h.1.2.2.1, (e 3).trans h.1.2.2.2.1, (e 4).trans h.1.2.2.2.2⟩, (f 0).trans h.2.1, (f 1).trans h.2.2.1, (f 2).trans h.2.2.2.1, (f 3).trans h.2.2.2.2.1, (f 4).trans h.2.2.2.2.2⟩
theorem DSE.put {w W : World} {g bf : Nat} {p q K : Int} {aS : Option Addr} {n cS : Nat} (h : DSE w g p aS n cS bf q K W) (q' K' : Int) : DSE w g p aS n cS bf q' K' ((W.setCell ⟨bf, 0, none⟩ (.int .i64 q')).setCell ⟨bf, 1, none⟩ (.int .i64 K')) :=
  { ss := ss2s (Nat.ne_of_lt h.lw.1) h.ss
    vv := (h.vv.put (Nat.ne_of_lt h.lw.2)).put (Nat.ne_of_lt h.lw.2)
    bel := (h.bel.setCell (Nat.le_of_lt h.lw.1) _).setCell (Nat.le_of_lt h.lw.1) _
    hd := by simpa [World.setCell] using h.hd
    c0 := (World.cell?_setCell_other _ _ _ _ (by simp)).trans (World.cell?_setCell_same W _ _ h.c0)
    c1 := World.cell?_setCell_same _ _ _ ((World.cell?_setCell_other _ _ _ _ (by simp)).trans h.c1)
    y0 := by simp [go_sem, h.y0]
    y1 := by simp [go_sem, h.y1]
    lb := by simpa [World.setCell] using h.lb
    lw := h.lw }
theorem OwnR.put2 {lo hi k : Nat} {w : World} {r : Option Addr} {zs : List Int} (h : OwnR lo hi w r zs) (hk : k < lo) (u v : Value) : OwnR lo hi ((w.setCell ⟨k, 0, none⟩ u).setCell ⟨k, 1, none⟩ v) r zs :=
  (h.same fun j j0 j1 => Below.heap_setCell _ _ _ _ (show j ≠ k by omega)).same fun j j0 j1 => Below.heap_setCell _ _ _ _ (show j ≠ k by omega)
theorem OwnR.vput5 {lo hi k : Nat} {w : World} {r : Option Addr} {zs : List Int} (h : OwnR lo hi w r zs) (hk : k < lo) (v0 v1 v2 v3 v4 : Value) : OwnR lo hi (vput5 k v0 v1 v2 v3 v4 w) r zs :=
  ((((h.same fun j j0 j1 => Below.heap_setCell _ _ _ _ (show j ≠ k by omega)).same fun j j0 j1 => Below.heap_setCell _ _ _ _ (show j ≠ k by omega)).same fun j j0 j1 => Below.heap_setCell _ _ _ _ (show j ≠ k by omega)).same fun j j0 j1 => Below.heap_setCell _ _ _ _ (show j ≠ k by omega)).same fun j j0 j1 => Below.heap_setCell _ _ _ _ (show j ≠ k by omega)
theorem vput5_size (g : Nat) (v0 v1 v2 v3 v4 : Value) (w : World) : (vput5 g v0 v1 v2 v3 v4 w).heap.size = w.heap.size := by simp [vput5, World.setCell]
theorem product_vk (pS : Int) (aS : Option Addr) (S : List Int) (cS loS tpS : Nat) (r : Option Addr) (m : List (List Int)) (k c lo tp b lo2 tp2 : Nat) (W : World) (hs : isSp pS S = true) (hS : RowIn loS tpS W aS S) (tS : tpS ≤ W.heap.size) (h : RowIn lo tp W r (vrM pS S m k)) (th : tp ≤ W.heap.size) (h2 : RowIn lo2 tp2 W (some ⟨b, 0, none⟩) (mkR (bl S) (vecF (rw' m k) (rw' m k).length))) (th2 : tp2 ≤ W.heap.size) (hv : isVec pS S.length (rw' m k) = true) :
    Calls Tryz.prog 45 #[.agg #[.int .i64 pS, .slice aS S.length cS], .slice r (vrM pS S m k).length c, .slice (some ⟨b, 0, none⟩) (bl S) (bl S)] W (OwnE (vrM pS S m (k + 1)) W) := by
  have q := product_own pS aS S cS loS tpS r (vrM pS S m k) c lo tp (some ⟨b, 0, none⟩) (mkR (bl S) (vecF (rw' m k) (rw' m k).length)) (bl S) lo2 tp2 W hs hS tS h th (vr_mv hs m k) h2 th2 (vec_mv' hs hv)
  rw [mkR_len] at q
  exact q

set_option maxRecDepth 100000 in
set_option maxHeartbeats 6400000 in
theorem versorOfVectors_own (pS : Int) (aS : Option Addr) (S : List Int) (cS loS tpS : Nat) (am : Option Addr) (m : List (List Int)) (cm lom tpm : Nat) (w : World) (hs : isSp pS S = true) (hS : RowIn loS tpS w aS S) (tS : tpS ≤ w.heap.size) (hm : MatIn lom tpm w am m) (tm : tpm ≤ w.heap.size) (hl : listB pS S m = true) :
    Calls Tryz.prog 21 #[.agg #[.int .i64 pS, .slice aS S.length cS], .slice am m.length cm] w (fun e w' => ∃ r c, e = .returned (.agg #[.int .i64 pS, .slice aS S.length cS, .slice r (vrM pS S m m.length).length c, .int .i64 pS, .int .i64 (vsF pS S m m.length)]) ∧ OwnR w.heap.size w'.heap.size w' r (vrM pS S m m.length) ∧ Below w.heap.size w w') := by
  have HI := Lib.hid hs
  have HS := Lib.hid hS
  have HM := Lib.hid hm
  have HL := Lib.hid (listB_iff hl)
  have h6 := (isSp_iff.1 hs).hi
  have hpb := prm_bd (isSp_iff.1 hs).prime
  have hbl := bl_le h6
  have hb0 := bl_pos S
  have hm16 := HL.out.1
  have HB0 := Lib.hid (below_alloc w (.cells #[.int .i64 pS, .slice aS S.length cS] 24))
  have k0 := nw0 w (.int .i64 pS) (.slice aS S.length cS) 24
  have k1 := nw1 w (.int .i64 pS) (.slice aS S.length cS) 24
  clear hs hS hm hl
  go_enter Tryz.func21, Tryz.ntmps21
  go_upto_region 1 with fail
  obtain ⟨w0, hw0'⟩ : ∃ z, z = w.alloc (.cells #[.int .i64 pS, .slice aS S.length cS] 24) := ⟨_, rfl⟩
  rw [← hw0'] at HB0 k0 k1 ⊢
  have hw0 : w.heap.size < w0.heap.size := by rw [hw0']; simp
  have hwz : w.heap.size + 1 = w0.heap.size := by rw [hw0']; simp
  try rw [hwz]
  clear hw0'
  obtain ⟨w1, hw1⟩ : ∃ z, z = w0.alloc (.cells #[.int .i64 0, .slice none 0 0, .slice none 0 0, .int .i64 0, .int .i64 0] 50) := ⟨_, rfl⟩
  obtain ⟨g, hg⟩ : ∃ b, b = w0.heap.size := ⟨_, rfl⟩
  have D1 : Hid (DS7 w g pS aS S.length cS w1) := by
    have h0 := ss2 (below_alloc w0 (.cells #[.int .i64 0, .slice none 0 0, .slice none 0 0, .int .i64 0, .int .i64 0] 50)) hw0 ⟨k0, k1⟩
    rw [← hw1] at h0
    refine ⟨h0, by rw [hw1, hg]; exact V5.new _ _ _ _ _ _ _, by rw [hw1]; exact HB0.out.alloc HB0.out.size _, ?_, ?_⟩
    · rw [hw1]; simp; omega
    · rw [hw1, hg]; simp
  have hwg : w.heap.size < g := by omega
  rw [← hw1]
  rw [← hg]
  clear hw1 hwz hg k0 k1 HB0 hw0
  have DN0 : Hid (DS7 w g pS aS S.length cS w1.drew) := D1.out.call (below_drew w1)
  have DM0 : Hid (DSE w g pS aS S.length cS w1.heap.size 0 0 (w1.alloc (.cells #[.int .i64 0, .int .i64 0] 48)).drew) := (D1.out.allocn (q := 0) (K := 0) 48).call (below_drew _)
  go_cut [5, 6] (fun s5 s6 wx => ∃ (r : Option Addr) (c bf : Nat), s5 = .slice r (mOne S).length c ∧ s6 = .pointer (some ⟨bf, 0, none⟩) ∧ Hid (OwnR (g + 1) wx.heap.size wx r (mOne S)) ∧ Hid (DSE w g pS aS S.length cS bf pS 1 wx))
  case first =>
    go_region_held3 (fun w' => w'.cell? ⟨w.heap.size, 0, none⟩ = some (.int .i64 pS) ∧ w'.cell? ⟨w.heap.size, 1, none⟩ = some (.slice aS S.length cS)) (first | exact DN0.out.ss | exact DM0.out.ss | exact DNa.out.ss | exact DMa.out.ss | exact (DNa.out.allocn _).ss | exact (DMa.out.put _ _).ss | go_keep) (first | (go_at_call 44; ((with_reducible refine (blade0_any pS aS S cS w1.drew h6).mono ?_); rintro e wa ⟨ra, ka, rfl, o_, b_⟩; have DNa := Lib.hid (DN0.out.call b_); have OA := Lib.hid o_; clear o_ b_)) | (go_at_call 44; ((with_reducible refine (blade0_any pS aS S cS (w1.alloc (.cells #[.int .i64 0, .int .i64 0] 48)).drew h6).mono ?_); rintro e wa ⟨ra, ka, rfl, o_, b_⟩; have DMa := Lib.hid (DM0.out.call b_); have OA := Lib.hid o_; have z0_ := DMa.out.c0; have z1_ := DMa.out.c1; have y0_ := DMa.out.y0; have y1_ := DMa.out.y1; clear o_ b_)))
    all_goals (go_wp2_with fail; go_meet; first | exact ⟨_, _, _, rfl, rfl, Lib.hid (OwnR.mono' (OA.out.put2 (k := w1.heap.size) (lt_alloc w1 _) _ _) DM0.out.hd.2 (by simp [World.setCell])), Lib.hid (DMa.out.put _ _)⟩ | exact ⟨_, _, _, rfl, rfl, Lib.hid (OwnR.mono' (OA.out.below (below_alloc wa _) (Nat.le_refl _)) DN0.out.hd.2 (size_alloc wa _)), Lib.hid (DNa.out.allocn _)⟩)
  case rest =>
    obtain ⟨r1, c1, bf, rfl, rfl, HO1, HE1⟩ := hcut
    clear DN0 DM0 D1
    go_wp2
    go_loopw [5, 16] (fun s5 s16 wr => ∃ (k : Nat) (r : Option Addr) (c : Nat), k ≤ m.length ∧ s5 = .slice r (vrM pS S m k).length c ∧ s16 = .int .i64 k ∧ OwnR (g + 1) wr.heap.size wr r (vrM pS S m k) ∧ DSE w g pS aS S.length cS bf pS (vsF pS S m k) wr) (fun _ t _ => m.length - (intOf t).toNat)
    case atStart => exact ⟨0, r1, c1, Nat.zero_le _, rfl, rfl, HO1.out, HE1.out⟩
    case round =>
      obtain ⟨k, r, c, hk, rfl, rfl, ho, hde⟩ := hrel
      have HO := Lib.hid ho
      have HD := Lib.hid hde
      have hbel := hde.bel
      by_cases hlt : k < m.length
      · obtain ⟨b9, o9, rv, cv, ha9, _, hb9, hr9, hrow⟩ := (HM.out.below hbel tm).row hlt
        subst ha9
        have hwz := hbel.size
        have hi1 : (k : Int) < (m.length : Int) := by omega
        have HVV := Lib.hid (HL.out.2 k hlt)
        have HVL := Lib.hid (isVec_iff.1 HVV.out).len
        have HRV := Lib.hid (hrow.below (below_drew wr) (Nat.le_trans tm hwz))
        have HTV : Hid (tpm ≤ wr.drew.heap.size) := Nat.le_trans tm hwz
        have HRR : Hid (RowIn (g + 1) wr.drew.heap.size wr.drew r (vrM pS S m k)) := ho.row.below (below_drew wr) (Nat.le_refl _)
        have hs1 : Hid (wr.drew.cell? ⟨w.heap.size, 0, none⟩ = some (.int .i64 pS) ∧ wr.drew.cell? ⟨w.heap.size, 1, none⟩ = some (.slice aS S.length cS)) := hde.ss
        have HBD : Hid (Below w.heap.size w wr.drew) := hbel.drew
        have hd0 : w.heap.size < wr.drew.heap.size := hde.hd.1
        have HD0 := Lib.hid (hde.call (below_drew wr))
        obtain ⟨N, hN⟩ : ∃ a, a = pairN pS S (rw' m k) (rw' m k) := ⟨_, rfl⟩
        have HNB : Hid (0 ≤ N ∧ N < pS) := by show _ ∧ _; rw [hN]; exact pairN_bd7 (by omega)
        obtain ⟨Kv, hKv⟩ : ∃ a, a = vsF pS S m k := ⟨_, rfl⟩
        have HKB : Hid (0 ≤ Kv ∧ Kv < pS) := by show _ ∧ _; rw [hKv]; exact vs_bd (by omega) S m k
        have HNE := Lib.hid hN
        have HKE := Lib.hid hKv
        have HSTEP : Hid (vsF pS S m (k + 1) = Kv * N % pS) := by show _ = _; rw [hKv, hN]; rfl
        clear hde ho hbel hrow hN hKv
        go_wp2
        go_region_held3 (fun w' => w'.cell? ⟨w.heap.size, 0, none⟩ = some (.int .i64 pS) ∧ w'.cell? ⟨w.heap.size, 1, none⟩ = some (.slice aS S.length cS)) (first | exact hs1.out | exact SSa.out | exact SSab.out | go_keep) (first | (go_at_call 46; (with_reducible refine (vector_any pS aS S cS rv (rw' m k) cv lom tpm wr.drew h6 HVL.out HRV.out HTV.out).mono ?_); rintro e wa ⟨ba, rfl, l_, u_, o_, b_⟩; have SSa := Lib.hid (ss2 b_ hd0 hs1.out); have HBa := Lib.hid (below_step HBD.out (Nat.le_of_lt hd0) b_); have zz_ := b_.size; have HCa := Lib.hid b_; have hda := Nat.lt_of_lt_of_le hd0 zz_; have la := Nat.lt_of_lt_of_le hd0 l_; have ua_a := u_; have Na_a := Lib.hid o_; have Ra_a := Lib.hid ((o_.own (Nat.le_of_lt la) u_).row); clear b_ o_) | (go_at_call 45; (with_reducible refine (product_vk pS aS S cS loS tpS r m k c (g + 1) wr.drew.heap.size ba w.heap.size wa.heap.size wa HI.out (HS.out.below HBa.out tS) (Nat.le_trans tS (HBa.out).size) (HRR.out.below HCa.out (Nat.le_refl _)) HCa.out.size Ra_a.out (Nat.le_refl _) HVV.out).mono ?_); rintro e wab ⟨rb, kb, rfl, o_, b_⟩; have SSab := Lib.hid (ss2 b_ hda SSa.out); have HBab := Lib.hid (below_step HBa.out (Nat.le_of_lt hda) b_); have zz_ := b_.size; have HCab := Lib.hid (below_step HCa.out (HCa.out).size b_); have hdab := Nat.lt_of_lt_of_le hda zz_; have Ra_ab := Lib.hid ((Ra_a.out.below b_ (Nat.le_refl _)).mono (Nat.le_refl _) zz_); have Na_ab := Lib.hid (Na_a.out.stay (b_.block ba ua_a)); have ua_ab := Nat.lt_of_lt_of_le ua_a zz_; have Ob_ab := Lib.hid (OwnR.mono' o_ (Nat.le_of_lt hda) (Nat.le_refl _)); have Rb_ab := Lib.hid (Ob_ab.out.row); have OBR := Lib.hid o_; have zba := zz_; clear b_ o_))
        go_wp2
        have HD2 : Hid (DSE w g pS aS S.length cS bf pS Kv wab.drew) := by have := (HD0.out.call HCab.out).call (below_drew wab); rw [← HKE.out] at this; exact this
        have hs2 : Hid (wab.drew.cell? ⟨w.heap.size, 0, none⟩ = some (.int .i64 pS) ∧ wab.drew.cell? ⟨w.heap.size, 1, none⟩ = some (.slice aS S.length cS)) := HD2.out.ss
        have OB2 : Hid (OwnR wa.heap.size wab.drew.heap.size wab.drew rb (vrM pS S m (k + 1))) := OBR.out.below (below_drew wab) (Nat.le_refl _)
        have d0_ := HD2.out.c0
        have d1_ := HD2.out.c1
        have HRV2 := Lib.hid ((HRV.out.below HCab.out HTV.out).below (below_drew wab) (Nat.le_trans HTV.out HCab.out.size))
        have HTV2 : Hid (tpm ≤ wab.drew.heap.size) := Nat.le_trans HTV.out HCab.out.size
        have hba : wa.heap.size ≤ wab.drew.heap.size := zba
        refine wp_region_noPanic ?_
        refine wp_region_held_drew (S := fun w' => w'.cell? ⟨w.heap.size, 0, none⟩ = some (.int .i64 pS) ∧ w'.cell? ⟨w.heap.size, 1, none⟩ = some (.slice aS S.length cS)) (by kernel_rfl) (hs2.out) (fun hHeld => ?_)
        (refine wpAnyH_take (i := 1) (oi := _) (v := ?_) rfl (by kernel_rfl) (by kernel_rfl) (by kernel_rfl) (fun _ _ _ h => h) (Or.inl ⟨by rfl, ?_⟩) (by assumption) ?_; rotate_left; (focus (intro w' hSw; (try dsimp only at hSw); first | (go_simp; done) | (go_simp; with_reducible rfl)))); ((try simp only [Act.put]); (try simp only [List.setIfInBounds_toArray]); (try simp only [List.set_cons_succ]); (try simp only [List.set_cons_zero]))
        (refine wpAnyH_take (i := 2) (oi := _) (v := ?_) rfl (by kernel_rfl) (by kernel_rfl) (by kernel_rfl) (fun _ _ _ h => h) (Or.inl ⟨by rfl, ?_⟩) (by assumption) ?_; rotate_left; (focus (intro w' hSw; (try dsimp only at hSw); first | (go_simp; done) | (go_simp; with_reducible rfl)))); ((try simp only [Act.put]); (try simp only [List.setIfInBounds_toArray]); (try simp only [List.set_cons_succ]); (try simp only [List.set_cons_zero]))
        (refine wpAnyH_take (i := 3) (oi := _) (v := ?_) rfl (by kernel_rfl) (by kernel_rfl) (by kernel_rfl) (fun _ _ _ h => h) (Or.inl ⟨by rfl, ?_⟩) (by assumption) ?_; rotate_left; (focus (intro w' hSw; (try dsimp only at hSw); first | (go_simp; done) | (go_simp; with_reducible rfl)))); ((try simp only [Act.put]); (try simp only [List.setIfInBounds_toArray]); (try simp only [List.set_cons_succ]); (try simp only [List.set_cons_zero]))
        (refine wpAnyH_take (i := 4) (oi := _) (v := ?_) rfl (by kernel_rfl) (by kernel_rfl) (by kernel_rfl) (fun _ _ _ h => h) (Or.inl ⟨by rfl, ?_⟩) (by assumption) ?_; rotate_left; (focus (intro w' hSw; (try dsimp only at hSw); first | (go_simp; done) | (go_simp; with_reducible rfl)))); ((try simp only [Act.put]); (try simp only [List.setIfInBounds_toArray]); (try simp only [List.set_cons_succ]); (try simp only [List.set_cons_zero]))
        refine wpAnyH_ready (rs := [0, 5]) (by kernel_rfl) (by simp) ?_
        refine AllReadyH.cons (o := _) rfl (fun K hK => ?_) (AllReadyH.cons (o := _) rfl (fun K hK => ?_) AllReadyH.nil)
        · go_simp
          refine hK.out _ _ (hHeld) (fun hHeld => ?_)
          clear hK K
          ((try simp only [Act.put]); (try simp only [List.setIfInBounds_toArray]); (try simp only [List.set_cons_succ]); (try simp only [List.set_cons_zero]))
          refine wpAnyH_ready (rs := [5]) (by kernel_rfl) (by simp) ?_
          refine AllReadyH.cons (o := _) rfl (fun K hK => ?_) AllReadyH.nil
          go_simp; go_at_call 15; ((with_reducible refine (norm_any pS aS S cS loS tpS rv (rw' m k) cv lom tpm wab.drew (HS.out.below HD2.out.bel tS) (Nat.le_trans tS HD2.out.bel.size) HRV2.out HTV2.out HI.out HVV.out).mono ?_); rintro e wn ⟨rfl, b_⟩; rw [← HNE.out]; have HD3 := Lib.hid (HD2.out.call b_); have OB3 := Lib.hid ((OB2.out.below b_ (Nat.le_refl _)).mono' (Nat.le_refl _) b_.size); have d2_ := HD3.out.c0; have d3_ := HD3.out.c1; have hzn := b_.size; clear b_); (try go_wp2_with fail)
          refine hK.out _ _ (HD3.out.ss) (fun hHeld => ?_)
          clear hK K
          ((try simp only [Act.put]); (try simp only [List.setIfInBounds_toArray]); (try simp only [List.set_cons_succ]); (try simp only [List.set_cons_zero]))
          (refine wpAnyH_take (i := 6) (oi := _) (v := ?_) rfl (by kernel_rfl) (by kernel_rfl) (by kernel_rfl) (fun _ _ _ h => h) (Or.inl ⟨by rfl, ?_⟩) (by assumption) ?_; rotate_left; (focus (intro w' hSw; (try dsimp only at hSw); first | (go_simp; done) | (go_simp; with_reducible rfl)))); ((try simp only [Act.put]); (try simp only [List.setIfInBounds_toArray]); (try simp only [List.set_cons_succ]); (try simp only [List.set_cons_zero]))
          refine wpAnyH_ready (rs := [7]) (by kernel_rfl) (by simp) ?_
          refine AllReadyH.cons (o := _) rfl (fun K hK => ?_) AllReadyH.nil
          go_simp; go_at_call 47; ((with_reducible refine (times_any pS Kv N wn (isSp_iff.1 HI.out).prime HKB.out.1 HKB.out.2 HNB.out.1 HNB.out.2).mono ?_); rintro e wt ⟨rfl, b_⟩; have HD4 := Lib.hid (HD3.out.call b_); have OB4 := Lib.hid ((OB3.out.below b_ (Nat.le_refl _)).mono' (Nat.le_refl _) b_.size); have z0_ := HD4.out.c0; have z1_ := HD4.out.c1; have y0_ := HD4.out.y0; have y1_ := HD4.out.y1; have HD5 := Lib.hid (HD4.out.put pS (Kv * N % pS)); have hzt := b_.size; clear b_); (try go_wp2_with fail)
          refine hK.out _ _ (HD4.out.ss) (fun hHeld => ?_)
          clear hK K
          ((try simp only [Act.put]); (try simp only [List.setIfInBounds_toArray]); (try simp only [List.set_cons_succ]); (try simp only [List.set_cons_zero]))
          refine wpAnyH_ready (rs := [8]) (by kernel_rfl) (by simp) ?_
          refine AllReadyH.cons (o := _) rfl (fun K hK => ?_) AllReadyH.nil
          go_simp
          refine hK.out _ _ (HD5.out.ss) (fun hHeld => ?_)
          clear hK K
          ((try simp only [Act.put]); (try simp only [List.setIfInBounds_toArray]); (try simp only [List.set_cons_succ]); (try simp only [List.set_cons_zero]))
          refine wpAnyH_done (by kernel_rfl) ?_ _
          refine NoPanic.normal ?_
          go_wp2_with fail
          go_roundw
          case rel => exact ⟨k + 1, rb, kb, by omega, rfl, by go_num, (OB4.out.put2 (k := bf) (Nat.lt_of_lt_of_le HD0.out.lb HCa.out.size) _ _).mono' (Nat.lt_of_lt_of_le HD0.out.hd.2 HCa.out.size) (by simp [World.setCell]), by rw [HSTEP.out]; exact HD5.out⟩
          case measure => simp [intOf]; omega
        · go_simp; go_at_call 15; ((with_reducible refine (norm_any pS aS S cS loS tpS rv (rw' m k) cv lom tpm wab.drew (HS.out.below HD2.out.bel tS) (Nat.le_trans tS HD2.out.bel.size) HRV2.out HTV2.out HI.out HVV.out).mono ?_); rintro e wn ⟨rfl, b_⟩; rw [← HNE.out]; have HD3 := Lib.hid (HD2.out.call b_); have OB3 := Lib.hid ((OB2.out.below b_ (Nat.le_refl _)).mono' (Nat.le_refl _) b_.size); have d2_ := HD3.out.c0; have d3_ := HD3.out.c1; have hzn := b_.size; clear b_); (try go_wp2_with fail)
          refine hK.out _ _ (HD3.out.ss) (fun hHeld => ?_)
          clear hK K
          ((try simp only [Act.put]); (try simp only [List.setIfInBounds_toArray]); (try simp only [List.set_cons_succ]); (try simp only [List.set_cons_zero]))
          (refine wpAnyH_take (i := 6) (oi := _) (v := ?_) rfl (by kernel_rfl) (by kernel_rfl) (by kernel_rfl) (fun _ _ _ h => h) (Or.inl ⟨by rfl, ?_⟩) (by assumption) ?_; rotate_left; (focus (intro w' hSw; (try dsimp only at hSw); first | (go_simp; done) | (go_simp; with_reducible rfl)))); ((try simp only [Act.put]); (try simp only [List.setIfInBounds_toArray]); (try simp only [List.set_cons_succ]); (try simp only [List.set_cons_zero]))
          refine wpAnyH_ready (rs := [0]) (by kernel_rfl) (by simp) ?_
          refine AllReadyH.cons (o := _) rfl (fun K hK => ?_) AllReadyH.nil
          go_simp
          refine hK.out _ _ (hHeld) (fun hHeld => ?_)
          clear hK K
          ((try simp only [Act.put]); (try simp only [List.setIfInBounds_toArray]); (try simp only [List.set_cons_succ]); (try simp only [List.set_cons_zero]))
          refine wpAnyH_ready (rs := [7]) (by kernel_rfl) (by simp) ?_
          refine AllReadyH.cons (o := _) rfl (fun K hK => ?_) AllReadyH.nil
          go_simp; go_at_call 47; ((with_reducible refine (times_any pS Kv N wn (isSp_iff.1 HI.out).prime HKB.out.1 HKB.out.2 HNB.out.1 HNB.out.2).mono ?_); rintro e wt ⟨rfl, b_⟩; have HD4 := Lib.hid (HD3.out.call b_); have OB4 := Lib.hid ((OB3.out.below b_ (Nat.le_refl _)).mono' (Nat.le_refl _) b_.size); have z0_ := HD4.out.c0; have z1_ := HD4.out.c1; have y0_ := HD4.out.y0; have y1_ := HD4.out.y1; have HD5 := Lib.hid (HD4.out.put pS (Kv * N % pS)); have hzt := b_.size; clear b_); (try go_wp2_with fail)
          refine hK.out _ _ (HD4.out.ss) (fun hHeld => ?_)
          clear hK K
          ((try simp only [Act.put]); (try simp only [List.setIfInBounds_toArray]); (try simp only [List.set_cons_succ]); (try simp only [List.set_cons_zero]))
          refine wpAnyH_ready (rs := [8]) (by kernel_rfl) (by simp) ?_
          refine AllReadyH.cons (o := _) rfl (fun K hK => ?_) AllReadyH.nil
          go_simp
          refine hK.out _ _ (HD5.out.ss) (fun hHeld => ?_)
          clear hK K
          ((try simp only [Act.put]); (try simp only [List.setIfInBounds_toArray]); (try simp only [List.set_cons_succ]); (try simp only [List.set_cons_zero]))
          refine wpAnyH_done (by kernel_rfl) ?_ _
          refine NoPanic.normal ?_
          go_wp2_with fail
          go_roundw
          case rel => exact ⟨k + 1, rb, kb, by omega, rfl, by go_num, (OB4.out.put2 (k := bf) (Nat.lt_of_lt_of_le HD0.out.lb HCa.out.size) _ _).mono' (Nat.lt_of_lt_of_le HD0.out.hd.2 HCa.out.size) (by simp [World.setCell]), by rw [HSTEP.out]; exact HD5.out⟩
          case measure => simp [intOf]; omega
      · have hkn : k = m.length := by omega
        subst hkn
        have d0_ := HD.out.c0
        have d1_ := HD.out.c1
        obtain ⟨k0_, k1_⟩ := HD.out.ss
        obtain ⟨⟨z0, z1, z2, z3, z4⟩, y0, y1, y2, y3, y4⟩ := HD.out.vv
        have hgb : g ≠ bf := Nat.ne_of_lt HD.out.lw.2
        clear hde ho hbel
        go_wp2
        refine bodyPost_ret (v := .agg #[.int .i64 pS, .slice aS S.length cS, .slice r (vrM pS S m m.length).length c, .int .i64 pS, .int .i64 (vsF pS S m m.length)]) (by simp [results, Tryz.results21, go_sem, z0, z1, z2, z3, z4]) rfl ⟨r, c, rfl, ?_, below_vput5 HD.out.bel (Nat.le_of_lt hwg)⟩
        exact (show OwnR w.heap.size (vput5 g _ _ _ _ _ wr).heap.size (vput5 g _ _ _ _ _ wr) r _ from (HO.out.vput5 (Nat.lt_succ_self g) _ _ _ _ _).mono' (Nat.le_of_lt (Nat.lt_succ_of_lt hwg)) (by rw [vput5_size]; exact Nat.le_refl _))

end Go.Proofs.YthbkfpkeofpocaaGreat
