/-
  The draws of the law on centres: contracts.
  Conditions: the code is nil or a row of known bytes, of at most 4096.
-/
import Derived.Test.YtijklpcelbnnjaaGreatQk32
import Derived.Test.YtijklpcelbnnjaaGreatQk37
import Derived.Deep.RegionHeld3
import Derived.Deep.DeepCutAuto
namespace Go.Proofs.YtijklpcelbnnjaaGreat
open Go.RowKit
set_option linter.unusedVariables false

/-- A space is handed back. -/
def DrawnSp9 (w : World) (e : Ending) (w' : World) : Prop :=
  ∃ p r X c, e = .returned (.agg #[.int .i64 p, .slice r X.length c]) ∧ X.length ≤ 7 ∧ RowIn w.heap.size w'.heap.size w' r X ∧ Below w.heap.size w w'
theorem MatIn.onlyC {lo tp k : Nat} {w w' : World} {r : Option Addr} {m : List (List Int)} (h : MatIn lo tp w r m) (ho : Only k w w') (hk : k < lo ∨ tp ≤ k) (ht : tp ≤ w.heap.size) : MatIn lo tp w' r m :=
  h.same (fun j j0 j1 => ho.block j (Nat.lt_of_lt_of_le j1 ht) (by omega))
theorem stC_nil {p : Int} {S : List Int} (hs : isSp p S = true) (h4 : S.length ≤ 4) : stC p S [] = 0 := by
  unfold stC
  rw [if_pos (codeMv_ok hs rfl), if_neg (by omega)]

set_option maxRecDepth 100000 in
set_option maxHeartbeats 6400000 in
theorem draw9S_any (a : Option Addr) (len cap : Nat) (zs : List Int) (w : World) (hb : Code8 w a len zs) (hl : len ≤ 4096) :
    Calls Tryz.prog 19 #[.slice a len cap] w (DrawnSp9 w) := by
  have HB := Lib.hid hb
  clear hb
  go_enter Tryz.func19, Tryz.ntmps19
  go_upto_region 1 with fail
  obtain ⟨wa, hwa⟩ : ∃ z, z = w.alloc (.cells #[.int .i64 0, .slice none 0 0] 26) := ⟨_, rfl⟩
  have HR1 : Hid (L2 wa w.heap.size (.int .i64 0) (.slice none 0 0)) := by show L2 _ _ _ _; rw [hwa]; exact L2.new _ _ _ _
  have HC1 : Hid (Code8 wa a len zs) := by show Code8 _ _ _ _; rw [hwa]; exact HB.out.below (below_alloc w _)
  have HB1 : Hid (Below w.heap.size w wa) := by show Below _ _ _; rw [hwa]; exact below_alloc w _
  have hRa : w.heap.size < wa.heap.size := by rw [hwa]; simp
  rw [← hwa]
  clear hwa
  go_upto_region 2 with (go_at_call 35; (with_reducible refine (draw09_any a len cap zs wa HC1.out hl).mono ?_); rintro e w2 ⟨p, r, X, c, r1, Y, c1, rfl, hX, hY, oX, oY, b2⟩; have HR2 := Lib.hid (HR1.out.below b2 hRa); have HB2 := Lib.hid (below_step HB1.out (Nat.le_of_lt hRa) b2); have HN := Lib.hid hX; have HX2 := Lib.hid oX; have hR2 := Nat.lt_of_lt_of_le hRa b2.size; clear b2 hX hY oX oY)
  obtain ⟨wg, hwg⟩ : ∃ z, z = w2.alloc (.cells #[.int .i64 p, .slice r X.length c] 26) := ⟨_, rfl⟩
  obtain ⟨g, hg⟩ : ∃ z, z = w2.heap.size := ⟨_, rfl⟩
  have HG : Hid (L2 wg g (.int .i64 p) (.slice r X.length c)) := by show L2 _ _ _ _; rw [hwg, hg]; exact L2.new _ _ _ _
  have HR4 : Hid (L2 wg w.heap.size (.int .i64 0) (.slice none 0 0)) := by show L2 _ _ _ _; rw [hwg]; exact HR2.out.alloc _ hR2
  have HB4 : Hid (Below w.heap.size w wg) := by show Below _ _ _; rw [hwg]; exact HB2.out.alloc (Nat.le_of_lt hR2) _
  have HX4 : Hid (RowIn wa.heap.size g wg r X) := by show RowIn _ _ _ _ _; rw [hwg, hg]; exact HX2.out.below (below_alloc w2 _) (Nat.le_refl _)
  have hgg : g < wg.heap.size := by rw [hwg, hg]; simp
  rw [← hwg, ← hg]
  clear hwg hg HR2 HB2 HX2 HR1 HC1 HB1 hR2
  have r0 := HR4.out.1
  have r1' := HR4.out.2.1
  have r2' := HR4.out.2.2.1
  have r3 := HR4.out.2.2.2
  have g0 := HG.out.1
  have g1 := HG.out.2.1
  go_wp2
  refine bodyPost_ret (v := .agg #[.int .i64 p, .slice r X.length c]) (by simp [results, Tryz.results19, go_sem, r0, r1']) rfl ⟨p, r, X, c, rfl, HN.out, ?_, (HB4.out.setCell (Nat.le_refl _) _).setCell (Nat.le_refl _) _⟩
  exact ((HX4.out.far _ (.inl hRa)).far _ (.inl hRa)).mono (Nat.le_of_lt hRa) (by first | (simp [World.setCell]; done) | (simp [World.setCell]; omega))

set_option maxRecDepth 100000 in
set_option maxHeartbeats 6400000 in
theorem drawCB_any (a : Option Addr) (len cap : Nat) (zs : List Int) (w : World) (hb : Code8 w a len zs) (hl : len ≤ 4096) :
    Calls Tryz.prog 5 #[.slice a len cap] w (DrawnSp9 w) := by
  have HB := Lib.hid hb
  clear hb
  go_enter Tryz.func5, Tryz.ntmps5
  go_upto_region 1 with fail
  obtain ⟨wa, hwa⟩ : ∃ z, z = w.alloc (.cells #[.int .i64 0, .slice none 0 0] 26) := ⟨_, rfl⟩
  have HR1 : Hid (L2 wa w.heap.size (.int .i64 0) (.slice none 0 0)) := by show L2 _ _ _ _; rw [hwa]; exact L2.new _ _ _ _
  have HC1 : Hid (Code8 wa a len zs) := by show Code8 _ _ _ _; rw [hwa]; exact HB.out.below (below_alloc w _)
  have HB1 : Hid (Below w.heap.size w wa) := by show Below _ _ _; rw [hwa]; exact below_alloc w _
  have hRa : w.heap.size < wa.heap.size := by rw [hwa]; simp
  rw [← hwa]
  clear hwa
  go_wp2_with (go_at_call 19; (with_reducible refine (draw9S_any a len cap zs wa HC1.out hl).mono ?_); rintro e w2 ⟨p, r, X, c, rfl, hX, oX, b2⟩; have HR2 := Lib.hid (HR1.out.below b2 hRa); have HB2 := Lib.hid (below_step HB1.out (Nat.le_of_lt hRa) b2); have HN := Lib.hid hX; have HX2 := Lib.hid oX; have hR2 := Nat.lt_of_lt_of_le hRa b2.size; have r0 := HR2.out.1; have r1' := HR2.out.2.1; have r2' := HR2.out.2.2.1; have r3 := HR2.out.2.2.2; clear b2 hX oX)
  refine bodyPost_ret (v := .agg #[.int .i64 p, .slice r X.length c]) (by simp [results, Tryz.results5, go_sem, r0, r1']) rfl ⟨p, r, X, c, rfl, HN.out, ?_, (HB2.out.setCell (Nat.le_refl _) _).setCell (Nat.le_refl _) _⟩
  exact ((HX2.out.far _ (.inl hRa)).far _ (.inl hRa)).mono (Nat.le_of_lt hRa) (by simp [World.setCell])

set_option maxRecDepth 100000 in
set_option maxHeartbeats 6400000 in
theorem drawIC_any (a : Option Addr) (len cap : Nat) (zs : List Int) (w : World) (hb : Code8 w a len zs) (hl : len ≤ 4096) :
    Calls Tryz.prog 17 #[.slice a len cap] w (DrawnX w) := by
  have HB := Lib.hid hb
  clear hb
  go_enter Tryz.func17, Tryz.ntmps17
  go_upto_region 1 with fail
  obtain ⟨wa, hwa⟩ : ∃ z, z = w.alloc (.cells #[.int .i64 0, .slice none 0 0] 26) := ⟨_, rfl⟩
  have HR1 : Hid (L2 wa w.heap.size (.int .i64 0) (.slice none 0 0)) := by show L2 _ _ _ _; rw [hwa]; exact L2.new _ _ _ _
  have HC1 : Hid (Code8 wa a len zs) := by show Code8 _ _ _ _; rw [hwa]; exact HB.out.below (below_alloc w _)
  have HB1 : Hid (Below w.heap.size w wa) := by show Below _ _ _; rw [hwa]; exact below_alloc w _
  have hRa : w.heap.size < wa.heap.size := by rw [hwa]; simp
  rw [← hwa]
  clear hwa
  go_upto_region 3 with (first
    | (go_at_call 34; (with_reducible refine (from_any a len cap zs wa HC1.out hl).mono ?_); rintro e w1 ⟨rfl, b1, s1⟩; have HS1 := Lib.hid s1; have HB2 := Lib.hid (below_step HB1.out (Nat.le_of_lt hRa) b1); have HR2 := Lib.hid (HR1.out.below b1 hRa); have HC2 := Lib.hid (HC1.out.below b1); have hR1 := Nat.lt_of_lt_of_le hRa b1.size; have hb1 := s1.lt; clear b1 s1)
    | (go_at_call 35; (with_reducible refine (draw09_any a len cap zs w1 HC2.out hl).mono ?_); rintro e w2 ⟨p, r, X, c, r1, Y, c1, rfl, hX, hY, oX, oY, b2⟩; have HR3 := Lib.hid (HR2.out.below b2 hR1); have HB3 := Lib.hid (below_step HB2.out (Nat.le_of_lt hR1) b2); have HS2 := Lib.hid (HS1.out.step b2); have HN := Lib.hid (And.intro hX hY); have HX2 := Lib.hid oX; have HY2 := Lib.hid oY; have hR2 := Nat.lt_of_lt_of_le hR1 b2.size; clear b2 hX hY oX oY))
  obtain ⟨wg, hwg⟩ : ∃ z, z = w2.alloc (.cells #[.int .i64 p, .slice r X.length c] 26) := ⟨_, rfl⟩
  obtain ⟨g, hg⟩ : ∃ z, z = w2.heap.size := ⟨_, rfl⟩
  obtain ⟨b, hbb⟩ : ∃ z, z = wa.heap.size := ⟨_, rfl⟩
  obtain ⟨lo, hlo⟩ : ∃ z, z = w1.heap.size := ⟨_, rfl⟩
  have DG : Hid (D9 b a len cap zs g p r X c lo g w wg) := by
    show D9 _ _ _ _ _ _ _ _ _ _ _ _ _ _
    rw [hwg, hg, hbb, hlo]
    exact { src := HS2.out.alloc _, tc := L2.new _ _ _ _, rc := HR3.out.alloc _ hR2, row := HX2.out.below (below_alloc w2 _) (Nat.le_refl _), bel := HB3.out.alloc (Nat.le_of_lt hR2) _, lt := Nat.lt_of_lt_of_le hR2 (size_alloc w2 _), gl := by simp, tl := size_alloc w2 _, wb := hRa, bg := HS2.out.lt, wg := Nat.ne_of_lt hR2, sd := .inl hb1, wlo := hR1 }
  have HYG : Hid (RowIn lo g wg r1 Y) := by show RowIn _ _ _ _ _; rw [hwg, hg, hlo]; exact HY2.out.below (below_alloc w2 _) (Nat.le_refl _)
  have hX7 : Hid (X.length ≤ 7) := HN.out.1
  have HY := Lib.hid HN.out.2
  have hXs : X.length ≤ 1048576 := by have := HN.out.1; omega
  have hY65 : Y.length ≤ 1048576 := by have := HN.out.2; omega
  have hgt := DG.out.tl
  have hlt7 : w.heap.size < lo := DG.out.wlo
  have hb7 : b < lo := by rw [hbb, hlo]; exact hb1
  rw [← hwg, ← hg, ← hbb]
  clear hwg hg hbb hlo HR1 HC1 HB1 HS1 HB2 HR2 HC2 HS2 HB3 HR3 HX2 HY2 HN hRa hR1 hb1 hR2
  have t0 := DG.out.tc.1
  have t1 := DG.out.tc.2.1
  cases hm : mvB p X Y with
  | false =>
    have HM := Lib.hid hm
    clear hm
    go_wp2_with (first | (go_at_call 36; ((with_reducible refine (l04Is_any p r X c lo g r1 Y c1 lo g wg DG.out.row DG.out.tl hXs HYG.out hgt hY65).mono ?_); rintro e w8 ⟨rfl, b_⟩; rw [HM.out]; have D8 := Lib.hid (DG.out.below b_); have HY8 := Lib.hid (HYG.out.below b_ hgt); have z8 := Nat.le_trans hgt b_.size; clear b_ t0 t1; have t0 := D8.out.tc.1; have t1 := D8.out.tc.2.1; have q0 := D8.out.rc.1; have q1 := D8.out.rc.2.1; have q2 := D8.out.rc.2.2.1; have q3 := D8.out.rc.2.2.2)))
    refine bodyPost_ret (v := .tuple #[.agg #[.int .i64 p, .slice r X.length c], .slice r1 Y.length c1]) (by simp [results, Tryz.results17, go_sem, q0, q1]) rfl (D8.out.fin hX7.out HY.out HY8.out z8 hlt7)
  | true =>
    have HM := Lib.hid hm
    have hsm := mvB_yes hm
    clear hm
    by_cases h4 : X.length ≤ 4
    · have h4' : (X.length : Int) ≤ 4 := by omega
      have HI := Lib.hid hsm.1
      have H4 := Lib.hid h4
      have HP := Lib.hid (isSp_iff.1 hsm.1).prime
      have hpb := prm_bd (isSp_iff.1 hsm.1).prime
      have hp1 : 1 ≤ p := by omega
      have h6 : X.length ≤ 6 := by omega
      have hbl := bl_le h6
      have hst : stC p X [] = 0 := stC_nil hsm.1 h4
      obtain ⟨K, hK⟩ : ∃ k, k = cbV p X := ⟨_, rfl⟩
      have HCK : Hid (cbV p X = K) := hK.symm
      have hKk : K = kerB p (ceM p X) := hK.trans (if_pos hst)
      have HKR : Hid (∀ i, i < K.length → (rw' K i).length = bl X ∧ ∀ j, j < (rw' K i).length → 0 ≤ (rw' K i).getD j 0 ∧ (rw' K i).getD j 0 < p) := fun i hi => by
        rw [hKk] at hi ⊢
        have h := (cen_rows hsm.1 h4 hi).1
        exact ⟨Mv.len h, Mv.num h⟩
      have hK16 : K.length ≤ 1048576 := by have := cbV_size p X; rw [HCK.out] at this; omega
      obtain ⟨Kn, hKn⟩ : ∃ n, n = K.length := ⟨_, rfl⟩
      clear hsm hK hKk hst
      go_wp2_with (first | (go_at_call 36; ((with_reducible refine (l04Is_any p r X c lo g r1 Y c1 lo g wg DG.out.row DG.out.tl hXs HYG.out hgt hY65).mono ?_); rintro e w8 ⟨rfl, b_⟩; rw [HM.out]; have D8 := Lib.hid (DG.out.below b_); have HY8 := Lib.hid (HYG.out.below b_ hgt); have z8 := Nat.le_trans hgt b_.size; clear b_ t0 t1; have t0 := D8.out.tc.1; have t1 := D8.out.tc.2.1; have q0 := D8.out.rc.1; have q1 := D8.out.rc.2.1; have q2 := D8.out.rc.2.2.1; have q3 := D8.out.rc.2.2.2)) | (go_at_call 37; ((with_reducible refine (next_any 2 b a len cap zs w8 D8.out.src).mono ?_); rintro e w9 ⟨x9, rfl, _, on9, s9⟩; have DN := Lib.hid (D8.out.only on9 s9); have HY9 := Lib.hid (HY8.out.only on9 (.inl hb7) z8); have z9 := Nat.le_trans z8 on9.size; clear on9 s9 t0 t1 q0 q1 q2 q3; have t0 := DN.out.tc.1; have t1 := DN.out.tc.2.1; have q0 := DN.out.rc.1; have q1 := DN.out.rc.2.1; have q2 := DN.out.rc.2.2.1; have q3 := DN.out.rc.2.2.2)))
      · have hb9 := DN.out.src.lt
        have HLL : Hid (K.length = Kn) := by show _ = _; rw [hKn]
        clear hKn
        go_wp2_with (first | (go_at_call 7; ((with_reducible refine (spec_CentreBasis p r X c lo g w9 DN.out.row DN.out.tl hXs).mono ?_); rintro e wA ⟨rL, cL, rfl, oL, bL⟩; rw [HCK.out] at oL; rw [HCK.out]; have DA := Lib.hid (DN.out.below bL); have HLA := Lib.hid oL; have zA := Nat.le_trans z9 bL.size; have z9A := bL.size; clear oL bL t0 t1 q0 q1 q2 q3; have t0 := DA.out.tc.1; have t1 := DA.out.tc.2.1)) | (go_at_call 23; ((with_reducible refine (l04Zero_any p r X c wA h6).mono ?_); rintro e wB ⟨b4, rfl, l4, u4, o4, q4⟩; have DB := Lib.hid (DA.out.below q4); have HLB := Lib.hid (HLA.out.below q4 (Nat.le_refl _)); have HVB := Lib.hid (RowIn.mono (o4.own l4 u4).row z9A (Nat.le_refl _)); have zAB := q4.size; clear o4 q4 l4 u4 t0 t1; have t0 := DB.out.tc.1; have t1 := DB.out.tc.2.1)))
        go_loopw [6, 9] (fun u t wr => ∃ (i : Nat) (rx : Option Addr) (cx : Nat) (V : List Int), i ≤ K.length ∧ t = .int .i64 i ∧ u = .slice rx V.length cx ∧ V.length = bl X ∧ (∀ j, j < V.length → 0 ≤ V.getD j 0 ∧ V.getD j 0 < p) ∧ RowIn w9.heap.size wr.heap.size wr rx V ∧ D9 b a len cap zs g p r X c lo g w wr ∧ MatIn w9.heap.size wB.heap.size wr rL K ∧ wB.heap.size ≤ wr.heap.size) (fun _ t _ => K.length - (intOf t).toNat)
        case atStart => exact ⟨0, some ⟨b4, 0, none⟩, bl X, mkR (bl X) fun _ => 0, Nat.zero_le _, rfl, by rw [mkR_len], mkR_len _ _, fun j hj => by rw [mkR_len] at hj; rw [mkR_at _ hj]; omega, HVB.out, DB.out, HLB.out.mono (Nat.le_refl _) zAB, Nat.le_refl _⟩
        case round =>
          obtain ⟨i, rx, cx, V, hi, rfl, hu, hvl, hvn, hrx, hd, hml, hzb⟩ := hrel
          subst hu
          have HVL := Lib.hid hvl
          have HVN := Lib.hid hvn
          have HRX := Lib.hid hrx
          have DR := Lib.hid hd
          have HMR := Lib.hid hml
          have zr : w9.heap.size ≤ wr.heap.size := Nat.le_trans (Nat.le_trans z9A zAB) hzb
          clear hvl hvn hrx hd hml t0 t1
          by_cases hlt : i < K.length
          · have hi1 : (i : Int) < (K.length : Int) := Int.ofNat_lt.2 hlt
            obtain ⟨b8, o8, rk, ck, ha8, l8, hb8, hr8, hrow8⟩ := HMR.out.row hlt
            subst ha8
            have HKL : Hid ((rw' K i).length = bl X) := (HKR.out i hlt).1
            have HKN := Lib.hid (HKR.out i hlt).2
            have hb8r : b8 < wr.heap.size := Nat.lt_of_lt_of_le hb8 hzb
            have hne8 : b8 ≠ b := by omega
            have SSr : Hid (wr.drew.cell? ⟨g, 0, none⟩ = some (.int .i64 p) ∧ wr.drew.cell? ⟨g, 1, none⟩ = some (.slice r X.length c) ∧ wr.drew.cell? ⟨b8, o8 + i, none⟩ = some (.slice rk (rw' K i).length ck)) := ⟨DR.out.ss.1, DR.out.ss.2, hr8⟩
            have DD : Hid (D9 b a len cap zs g p r X c lo g w wr.drew) := DR.out.below (below_drew wr)
            have HXD : Hid (RowIn w9.heap.size wr.heap.size wr.drew rx V) := HRX.out.below (below_drew wr) (Nat.le_refl _)
            have HKD : Hid (RowIn w9.heap.size wB.heap.size wr.drew rk (rw' K i)) := hrow8.below (below_drew wr) hzb
            have HMD : Hid (MatIn w9.heap.size wB.heap.size wr.drew (some ⟨b8, o8, none⟩) K) := HMR.out.below (below_drew wr) hzb
            have zd : wr.heap.size ≤ wr.drew.heap.size := Nat.le_refl _
            clear hrow8 hr8 DR HRX HMR
            go_wp2
            go_region_held3 (fun w' => w'.cell? ⟨g, 0, none⟩ = some (.int .i64 p) ∧ w'.cell? ⟨g, 1, none⟩ = some (.slice r X.length c) ∧ w'.cell? ⟨b8, o8 + i, none⟩ = some (.slice rk (rw' K i).length ck)) (first | exact SSr.out | exact SSn.out | exact SSp.out | go_keep) (first
              | (go_at_call 37; ((with_reducible refine (next_any p b a len cap zs wr.drew DD.out.src).mono ?_); rintro e wn ⟨xn, rfl, hxn, onn, sn⟩; have hxr := hxn hp1; have DX := Lib.hid (DD.out.only onn sn); have HXN := Lib.hid (HXD.out.only onn (.inl hb9) zd); have HKX := Lib.hid (HKD.out.only onn (.inl hb9) (Nat.le_trans hzb zd)); have HMX := Lib.hid (HMD.out.onlyC onn (.inl hb9) (Nat.le_trans hzb zd)); have zn : wr.heap.size ≤ wn.heap.size := onn.size; have SSn := Lib.hid (And.intro DX.out.ss.1 (And.intro DX.out.ss.2 ((onn.cell (p := ⟨b8, o8 + i, none⟩) hb8r hne8).trans SSr.out.2.2))); clear onn sn hxn))
              | (go_at_call 26; ((with_reducible refine (l02Plus_any p xn rx rk V (rw' K i) cx ck w9.heap.size wr.heap.size w9.heap.size wB.heap.size wn HP.out HXN.out HKX.out zn (Nat.le_trans hzb zn) (by rw [HVL.out, HKL.out]; exact Nat.le_refl _) (by rw [HVL.out]; omega) HVN.out HKN.out hxr.1 (Int.le_of_lt hxr.2)).mono ?_); rintro e wp ⟨rp, cp, rfl, op, bp⟩; have DP := Lib.hid (DX.out.below bp); have HVP := Lib.hid (RowIn.mono op.row (Nat.le_trans zr zn) (Nat.le_refl _)); have HMP := Lib.hid (HMX.out.below bp (Nat.le_trans hzb zn)); have zp := Nat.le_trans (Nat.le_trans hzb zn) bp.size; have SSp := Lib.hid (And.intro DP.out.ss.1 (And.intro DP.out.ss.2 ((bp.cell (p := ⟨b8, o8 + i, none⟩) (Nat.lt_of_lt_of_le hb8r zn)).trans SSn.out.2.2))); clear op bp)))
            all_goals
              go_wp2
              go_roundw
              case rel => exact ⟨i + 1, rp, cp, plusR p V (rw' K i) xn, by omega, by go_num, rfl, (mkR_len _ _).trans HVL.out, fun j hj => by
                have hj2 : j < V.length := by unfold plusR at hj; rw [mkR_len] at hj; exact hj
                unfold plusR
                rw [mkR_at _ hj2]
                exact ⟨Int.emod_nonneg _ (by omega), Int.emod_lt_of_pos _ (by omega)⟩, HVP.out, DP.out, HMP.out, zp⟩
              case measure => simp [intOf]; omega
          · have hin : i = K.length := by omega
            subst hin
            have hi1 : ¬ (K.length : Int) < (K.length : Int) := Int.lt_irrefl _
            have t0 := DR.out.tc.1
            have t1 := DR.out.tc.2.1
            have q0 := DR.out.rc.1
            have q1 := DR.out.rc.2.1
            have q2 := DR.out.rc.2.2.1
            have q3 := DR.out.rc.2.2.2
            have hlw : w.heap.size < w9.heap.size := DN.out.lt
            go_wp2
            refine bodyPost_ret (v := .tuple #[.agg #[.int .i64 p, .slice r X.length c], .slice rx V.length cx]) (by simp [results, Tryz.results17, go_sem, q0, q1]) rfl (DR.out.fin hX7.out (by rw [HVL.out]; omega) HRX.out (Nat.le_refl _) hlw)
      · refine bodyPost_ret (v := .tuple #[.agg #[.int .i64 p, .slice r X.length c], .slice r1 Y.length c1]) (by simp [results, Tryz.results17, go_sem, q0, q1]) rfl (DN.out.fin hX7.out HY.out HY9.out z9 hlt7)
    · have h4' : ¬ ((X.length : Int) ≤ 4) := by omega
      clear h4 hsm
      go_wp2_with (first | (go_at_call 36; ((with_reducible refine (l04Is_any p r X c lo g r1 Y c1 lo g wg DG.out.row DG.out.tl hXs HYG.out hgt hY65).mono ?_); rintro e w8 ⟨rfl, b_⟩; rw [HM.out]; have D8 := Lib.hid (DG.out.below b_); have HY8 := Lib.hid (HYG.out.below b_ hgt); have z8 := Nat.le_trans hgt b_.size; clear b_ t0 t1; have t0 := D8.out.tc.1; have t1 := D8.out.tc.2.1; have q0 := D8.out.rc.1; have q1 := D8.out.rc.2.1; have q2 := D8.out.rc.2.2.1; have q3 := D8.out.rc.2.2.2)))
      refine bodyPost_ret (v := .tuple #[.agg #[.int .i64 p, .slice r X.length c], .slice r1 Y.length c1]) (by simp [results, Tryz.results17, go_sem, q0, q1]) rfl (D8.out.fin hX7.out HY.out HY8.out z8 hlt7)

end Go.Proofs.YtijklpcelbnnjaaGreat
