/-
  The draw of a space, some zeros of which are mended, and two multivectors: contracts.
  Conditions: the code is nil or a row of known bytes, of at most 4096.
-/
import Derived.Test.YtgfohjfemkmldaaQd24
import Derived.Test.YtgfohjfemkmldaaQd43
namespace Go.Proofs.Ytgfohjfemkmldaa
open Go.RowKit
set_option linter.unusedVariables false

set_option maxRecDepth 100000 in
set_option maxHeartbeats 6400000 in
theorem l05Draw_any (a : Option Addr) (len cap : Nat) (zs : List Int) (w : World) (hb : Code8 w a len zs) (hl : len ≤ 4096) :
    Calls Try.prog 18 #[.slice a len cap] w (DrawnQ w) := by
  have HB := Lib.hid hb
  clear hb
  go_enter Try.func18, Try.ntmps18
  go_upto_region 1 with fail
  obtain ⟨wa, hwa⟩ : ∃ z, z = w.alloc (.cells #[.int .i64 0, .slice none 0 0] 26) := ⟨_, rfl⟩
  have HR1 : Hid (L2 wa w.heap.size (.int .i64 0) (.slice none 0 0)) := by show L2 _ _ _ _; rw [hwa]; exact L2.new _ _ _ _
  have HC1 : Hid (Code8 wa a len zs) := by show Code8 _ _ _ _; rw [hwa]; exact HB.out.below (below_alloc w _)
  have HB1 : Hid (Below w.heap.size w wa) := by show Below _ _ _; rw [hwa]; exact below_alloc w _
  have hRa : w.heap.size < wa.heap.size := by rw [hwa]; simp
  rw [← hwa]
  clear hwa
  go_upto_region 3 with (first
    | (go_at_call 38; (with_reducible refine (from_any a len cap zs wa HC1.out hl).mono ?_); rintro e w1 ⟨rfl, b1, s1⟩; have HS1 := Lib.hid s1; have HB2 := Lib.hid (below_step HB1.out (Nat.le_of_lt hRa) b1); have HR2 := Lib.hid (HR1.out.below b1 hRa); have hR1 := Nat.lt_of_lt_of_le hRa b1.size; clear b1 s1)
    | (go_at_call 39; (with_reducible refine (spoil_own wa.heap.size a len cap zs w1 HS1.out).mono ?_); rintro e w2 ⟨p, r, X, c, rfl, hX, o2, on2, s2⟩; have HX := Lib.hid hX; have HS2 := Lib.hid s2; have HX2 := Lib.hid o2; have HB3 := Lib.hid (HB2.out.trans (on2.below (Nat.le_of_lt hRa) (Nat.le_of_lt hR1))); have HR3 := Lib.hid (HR2.out.only on2 hR1 (Nat.ne_of_lt hRa)); have hR2 := Nat.lt_of_lt_of_le hR1 on2.size; have hb1 := HS1.out.lt; have zy2 := on2.size; clear on2 s2 o2 hX))
  obtain ⟨wg, hwg⟩ : ∃ z, z = w2.alloc (.cells #[.int .i64 p, .slice r X.length c] 26) := ⟨_, rfl⟩
  obtain ⟨g, hg⟩ : ∃ z, z = w2.heap.size := ⟨_, rfl⟩
  obtain ⟨b, hbb⟩ : ∃ z, z = wa.heap.size := ⟨_, rfl⟩
  have HG : Hid (L2 wg g (.int .i64 p) (.slice r X.length c)) := by show L2 _ _ _ _; rw [hwg, hg]; exact L2.new _ _ _ _
  have HR4 : Hid (L2 wg w.heap.size (.int .i64 0) (.slice none 0 0)) := by show L2 _ _ _ _; rw [hwg]; exact HR3.out.alloc _ hR2
  have HS4 : Hid (Src wg b a len cap zs) := by show Src _ _ _ _ _ _; rw [hwg, hbb]; exact HS2.out.alloc _
  have HB4 : Hid (Below w.heap.size w wg) := by show Below _ _ _; rw [hwg]; exact HB3.out.alloc (Nat.le_of_lt hR2) _
  have HX4 : Hid (OwnR w1.heap.size g wg r X) := by show OwnR _ _ _ _ _; rw [hwg, hg]; exact ownR_below HX2.out (below_alloc w2 _) (Nat.le_refl _)
  have hgg : g < wg.heap.size := by rw [hwg, hg]; simp
  have hbg : b < g := by rw [hbb, hg]; omega
  have hRb : w.heap.size < b := by rw [hbb]; exact hRa
  have hb1' : b < w1.heap.size := by rw [hbb]; exact hb1
  have h1g : w1.heap.size ≤ g := by rw [hg]; exact zy2
  have hXs : Hid (X.length ≤ 1048576) := by show _ ≤ _; have := HX.out; omega
  rw [← hwg, ← hg, ← hbb]
  clear hwg hg hbb HR3 HS2 HB3 HX2 hb1 zy2 HR1 HR2 HC1 HB1 HB2 HS1 hRa hR1 hR2
  obtain ⟨n, hn⟩ : ∃ n, n = X.length := ⟨_, rfl⟩
  have HXn : Hid (X.length = n) := hn.symm
  have HN7 : Hid (n ≤ 7) := by show _ ≤ _; rw [hn]; exact HX.out
  rw [← hn] at HG ⊢
  clear hn hXs HX
  have hw1g : w1.heap.size ≤ wg.heap.size := by omega
  go_upto_region 4 with fail
  go_loopw [7] (fun t wr => ∃ (i : Nat) (X' : List Int), i ≤ n ∧ X'.length = n ∧ t = .int .i64 i ∧ OwnR w1.heap.size g wr r X' ∧ L2 wr g (.int .i64 p) (.slice r n c) ∧ L2 wr w.heap.size (.int .i64 0) (.slice none 0 0) ∧ Src wr b a len cap zs ∧ Below w.heap.size w wr ∧ g < wr.heap.size) (fun t _ => n - (intOf t).toNat)
  case atStart => exact ⟨0, X, Nat.zero_le _, HXn.out, rfl, HX4.out, HG.out, HR4.out, HS4.out, HB4.out, hgg⟩
  case round =>
    obtain ⟨i, X', hi, hX', rfl, ho, hg2, hr2, hsr, hbel, hgr⟩ := hrel
    rename World => wr
    have HXP := Lib.hid hX'
    have HO := Lib.hid ho
    have HGR := Lib.hid hg2
    have HRR := Lib.hid hr2
    have HSR := Lib.hid hsr
    have HBR := Lib.hid hbel
    have g0 := HGR.out.1
    have g1 := HGR.out.2.1
    clear hX' ho hg2 hr2 hsr hbel
    by_cases hlt : i < n
    · have hlt1 : (i : Int) < (n : Int) := by omega
      obtain ⟨q1, o1, hr1, hq0, hq1, hro⟩ := RowOwn.of HO.out (by rw [HXP.out]; omega)
      subst hr1
      rw [HXP.out] at hro
      have HRO := Lib.hid hro
      clear hro
      have hn7 := HN7.out
      have hqg : q1 ≠ g := Nat.ne_of_lt hq1
      have hqR : w.heap.size ≠ q1 := by omega
      have hqb : q1 ≠ b := by omega
      have hqw : q1 < wr.heap.size := Nat.lt_trans hq1 hgr
      obtain ⟨u, hu⟩ : ∃ u, u = X'.getD i 0 := ⟨_, rfl⟩
      have HU := Lib.hid hu
      clear hu
      go_wp2_with (go_at_call 40; (with_reducible refine (next_any 6 b a len cap zs wr HSR.out).mono ?_); rintro e w5 ⟨x, rfl, _, on5, s5⟩; have HS5 := Lib.hid s5; have HG5 := Lib.hid (HGR.out.only on5 hgr (Nat.ne_of_gt hbg)); have HR5 := Lib.hid (HRR.out.only on5 (Nat.lt_trans (Nat.lt_trans hRb hbg) hgr) (Nat.ne_of_lt hRb)); have HB5 := Lib.hid (HBR.out.trans (on5.below (Nat.le_of_lt hRb) (Nat.le_of_lt (Nat.lt_trans (Nat.lt_trans hRb hbg) hgr)))); have HO5 := Lib.hid (ownR_only HO.out on5 (.inl hb1') (Nat.le_of_lt hgr)); have HRO5 := Lib.hid (rowOwn_stay HRO.out (on5.block q1 hqw hqb)); have cy := HRO5.out.cell i hlt; rw [← HU.out] at cy; have fy := HRO5.out.free i hlt; have hg5' := Nat.lt_of_lt_of_le hgr on5.size; have g05 := HG5.out.1; have g15 := HG5.out.2.1; have g25 := HG5.out.2.2.1; have g35 := HG5.out.2.2.2; clear on5 s5)
      · go_roundw
        case rel => exact ⟨i + 1, mkR n (fun k => if k = i then 1 else X'.getD k 0), by omega, mkR_len _ _, by go_num, rowOwn_own (rowOwn_put HRO5.out hlt 1) hq0 hq1, HG5.out.far _ (Ne.symm hqg), HR5.out.far _ hqR, HS5.out.far (Only.set _ _ _ _) (by omega), HB5.out.setCell (by show w.heap.size ≤ q1; omega) _, by simp [World.setCell]; omega⟩
        case measure => simp [intOf]; omega
      · go_roundw
        case rel => exact ⟨i + 1, X', by omega, HXP.out, by go_num, HO5.out, HG5.out, HR5.out, HS5.out, HB5.out, hg5'⟩
        case measure => simp [intOf]; omega
      · have HX4' := Lib.hid (HO5.out.row)
        have HX6' : Hid (X'.length ≤ 7) := by show _ ≤ _; rw [HXP.out]; exact HN7.out
        have HX1' : Hid (X'.length ≤ 1048576) := by show _ ≤ _; rw [HXP.out]; have := HN7.out; omega
        obtain ⟨hXe⟩ : Nonempty (X'.length = n) := ⟨HXP.out⟩
        clear HXP HXn HN7
        subst hXe
        go_upto_region 8 with fail
        have hs1 : Hid (w5.drew.cell? ⟨g, 0, none⟩ = some (.int .i64 p) ∧ w5.drew.cell? ⟨g, 1, none⟩ = some (.slice (some ⟨q1, o1, none⟩) X'.length c)) := ⟨HG5.out.1, HG5.out.2.1⟩
        have HSD : Hid (Src w5.drew b a len cap zs) := HS5.out.step (below_drew w5)
        have HGD : Hid (L2 w5.drew g (.int .i64 p) (.slice (some ⟨q1, o1, none⟩) X'.length c)) := HG5.out.below (below_drew w5) hg5'
        have HRD : Hid (L2 w5.drew w.heap.size (.int .i64 0) (.slice none 0 0)) := HR5.out.below (below_drew w5) (by omega)
        have HBD : Hid (Below w.heap.size w w5.drew) := HB5.out.drew
        have hgd : g < w5.drew.heap.size := hg5'
        have HXD : Hid (RowIn w1.heap.size g w5.drew (some ⟨q1, o1, none⟩) X') := HX4'.out.below (below_drew w5) (Nat.le_of_lt hg5')
        have hRd : w.heap.size < w5.drew.heap.size := by omega
        go_region_held3 (fun w' => w'.cell? ⟨g, 0, none⟩ = some (.int .i64 p) ∧ w'.cell? ⟨g, 1, none⟩ = some (.slice (some ⟨q1, o1, none⟩) X'.length c)) (first | exact hs1.out | exact SS5.out | exact SS6.out | exact SS7.out | go_keep) (first
          | (go_at_call 41; (with_reducible refine (spoilM_any p (some ⟨q1, o1, none⟩) X' c w1.heap.size g b a len cap zs w5.drew HSD.out HX1'.out HXD.out (Nat.le_of_lt hgd) (.inl hb1')).mono ?_); rintro e w5 ⟨r1, c1, Y, rfl, hY, o5, on5, s5⟩; have HY := Lib.hid hY; have HS5 := Lib.hid s5; have HG5 := Lib.hid (HGD.out.only on5 hgd (Nat.ne_of_gt hbg)); have HR5 := Lib.hid (HRD.out.only on5 hRd (Nat.ne_of_lt hRb)); have HB5 := Lib.hid (HBD.out.trans (on5.below (Nat.le_of_lt hRb) (Nat.le_of_lt hRd))); have HX5 := Lib.hid (HXD.out.only on5 (.inl hb1') (Nat.le_of_lt hgd)); have HY5 := Lib.hid o5; have zy5 := on5.size; have SS5 := Lib.hid (And.intro HG5.out.1 HG5.out.2.1); have hg5 := Nat.lt_of_lt_of_le hgd zy5; have hR5 := Nat.lt_of_lt_of_le hRd zy5; clear o5 on5 s5 hY)
          | (go_at_call 41; (with_reducible refine (spoilM_any p (some ⟨q1, o1, none⟩) X' c w1.heap.size g b a len cap zs w5 HS5.out HX1'.out HX5.out (Nat.le_of_lt hg5) (.inl hb1')).mono ?_); rintro e w6 ⟨r2, c2, Z, rfl, hZ, o6, on6, s6⟩; have HZ := Lib.hid hZ; have HG6 := Lib.hid (HG5.out.only on6 hg5 (Nat.ne_of_gt hbg)); have HR6 := Lib.hid (HR5.out.only on6 hR5 (Nat.ne_of_lt hRb)); have HB6 := Lib.hid (HB5.out.trans (on6.below (Nat.le_of_lt hRb) (Nat.le_of_lt hR5))); have HX6 := Lib.hid (HX5.out.only on6 (.inl hb1') (Nat.le_of_lt hg5)); have HY6 := Lib.hid (HY5.out.only on6 (.inl (Nat.lt_trans hbg hgd)) (Nat.le_refl _)); have HZ6 := Lib.hid o6; have zy6 := on6.size; have SS6 := Lib.hid (And.intro HG6.out.1 HG6.out.2.1); have r0 := HR6.out.1; have r1' := HR6.out.2.1; have r2' := HR6.out.2.2.1; have r3 := HR6.out.2.2.2; have HGF := Lib.hid ((HG6.out.far (k := w.heap.size) (i := 0) (.int .i64 p) (Nat.ne_of_gt (Nat.lt_trans hRb hbg))).far (k := w.heap.size) (i := 1) (.slice (some ⟨q1, o1, none⟩) X'.length c) (Nat.ne_of_gt (Nat.lt_trans hRb hbg))); have SS7 := Lib.hid (And.intro HGF.out.1 HGF.out.2.1); have hg6 := Nat.lt_of_lt_of_le hg5 zy6; clear o6 on6 s6 hZ))
        all_goals
          go_wp2
          refine bodyPost_ret (v := .tuple #[.agg #[.int .i64 p, .slice (some ⟨q1, o1, none⟩) X'.length c], .slice r1 Y.length c1, .slice r2 Z.length c2]) (by simp [results, Try.results18, go_sem, r0, r1']) rfl ⟨p, (some ⟨q1, o1, none⟩), X', c, r1, Y, c1, r2, Z, c2, rfl, HX6'.out, HY.out, HZ.out, ?_, ?_, ?_, (HB6.out.setCell (Nat.le_refl _) _).setCell (Nat.le_refl _) _⟩
          · exact ((HX6.out.far _ (.inl (by omega))).far _ (.inl (by omega))).mono (by omega) (by simp [World.setCell]; omega)
          · exact ((HY6.out.far _ (.inl (by omega))).far _ (.inl (by omega))).mono (by omega) (by simp [World.setCell]; omega)
          · exact ((HZ6.out.far _ (.inl (by omega))).far _ (.inl (by omega))).mono (by omega) (by simp [World.setCell])
    · have hlt1 : ¬ (i : Int) < (n : Int) := by omega
      have HX4' := Lib.hid (HO.out.row)
      have HX6' : Hid (X'.length ≤ 7) := by show _ ≤ _; rw [HXP.out]; exact HN7.out
      have HX1' : Hid (X'.length ≤ 1048576) := by show _ ≤ _; rw [HXP.out]; have := HN7.out; omega
      obtain ⟨hXe⟩ : Nonempty (X'.length = n) := ⟨HXP.out⟩
      clear HXP HXn HN7
      subst hXe
      go_upto_region 8 with fail
      have hs1 : Hid (wr.drew.cell? ⟨g, 0, none⟩ = some (.int .i64 p) ∧ wr.drew.cell? ⟨g, 1, none⟩ = some (.slice r X'.length c)) := ⟨HGR.out.1, HGR.out.2.1⟩
      have HSD : Hid (Src wr.drew b a len cap zs) := HSR.out.step (below_drew wr)
      have HGD : Hid (L2 wr.drew g (.int .i64 p) (.slice r X'.length c)) := HGR.out.below (below_drew wr) hgr
      have HRD : Hid (L2 wr.drew w.heap.size (.int .i64 0) (.slice none 0 0)) := HRR.out.below (below_drew wr) (by omega)
      have HBD : Hid (Below w.heap.size w wr.drew) := HBR.out.drew
      have hgd : g < wr.drew.heap.size := hgr
      have HXD : Hid (RowIn w1.heap.size g wr.drew r X') := HX4'.out.below (below_drew wr) (Nat.le_of_lt hgr)
      have hRd : w.heap.size < wr.drew.heap.size := by omega
      go_region_held3 (fun w' => w'.cell? ⟨g, 0, none⟩ = some (.int .i64 p) ∧ w'.cell? ⟨g, 1, none⟩ = some (.slice r X'.length c)) (first | exact hs1.out | exact SS5.out | exact SS6.out | exact SS7.out | go_keep) (first
        | (go_at_call 41; (with_reducible refine (spoilM_any p r X' c w1.heap.size g b a len cap zs wr.drew HSD.out HX1'.out HXD.out (Nat.le_of_lt hgd) (.inl hb1')).mono ?_); rintro e w5 ⟨r1, c1, Y, rfl, hY, o5, on5, s5⟩; have HY := Lib.hid hY; have HS5 := Lib.hid s5; have HG5 := Lib.hid (HGD.out.only on5 hgd (Nat.ne_of_gt hbg)); have HR5 := Lib.hid (HRD.out.only on5 hRd (Nat.ne_of_lt hRb)); have HB5 := Lib.hid (HBD.out.trans (on5.below (Nat.le_of_lt hRb) (Nat.le_of_lt hRd))); have HX5 := Lib.hid (HXD.out.only on5 (.inl hb1') (Nat.le_of_lt hgd)); have HY5 := Lib.hid o5; have zy5 := on5.size; have SS5 := Lib.hid (And.intro HG5.out.1 HG5.out.2.1); have hg5 := Nat.lt_of_lt_of_le hgd zy5; have hR5 := Nat.lt_of_lt_of_le hRd zy5; clear o5 on5 s5 hY)
        | (go_at_call 41; (with_reducible refine (spoilM_any p r X' c w1.heap.size g b a len cap zs w5 HS5.out HX1'.out HX5.out (Nat.le_of_lt hg5) (.inl hb1')).mono ?_); rintro e w6 ⟨r2, c2, Z, rfl, hZ, o6, on6, s6⟩; have HZ := Lib.hid hZ; have HG6 := Lib.hid (HG5.out.only on6 hg5 (Nat.ne_of_gt hbg)); have HR6 := Lib.hid (HR5.out.only on6 hR5 (Nat.ne_of_lt hRb)); have HB6 := Lib.hid (HB5.out.trans (on6.below (Nat.le_of_lt hRb) (Nat.le_of_lt hR5))); have HX6 := Lib.hid (HX5.out.only on6 (.inl hb1') (Nat.le_of_lt hg5)); have HY6 := Lib.hid (HY5.out.only on6 (.inl (Nat.lt_trans hbg hgd)) (Nat.le_refl _)); have HZ6 := Lib.hid o6; have zy6 := on6.size; have SS6 := Lib.hid (And.intro HG6.out.1 HG6.out.2.1); have r0 := HR6.out.1; have r1' := HR6.out.2.1; have r2' := HR6.out.2.2.1; have r3 := HR6.out.2.2.2; have HGF := Lib.hid ((HG6.out.far (k := w.heap.size) (i := 0) (.int .i64 p) (Nat.ne_of_gt (Nat.lt_trans hRb hbg))).far (k := w.heap.size) (i := 1) (.slice r X'.length c) (Nat.ne_of_gt (Nat.lt_trans hRb hbg))); have SS7 := Lib.hid (And.intro HGF.out.1 HGF.out.2.1); have hg6 := Nat.lt_of_lt_of_le hg5 zy6; clear o6 on6 s6 hZ))
      all_goals
        go_wp2
        refine bodyPost_ret (v := .tuple #[.agg #[.int .i64 p, .slice r X'.length c], .slice r1 Y.length c1, .slice r2 Z.length c2]) (by simp [results, Try.results18, go_sem, r0, r1']) rfl ⟨p, r, X', c, r1, Y, c1, r2, Z, c2, rfl, HX6'.out, HY.out, HZ.out, ?_, ?_, ?_, (HB6.out.setCell (Nat.le_refl _) _).setCell (Nat.le_refl _) _⟩
        · exact ((HX6.out.far _ (.inl (by omega))).far _ (.inl (by omega))).mono (by omega) (by simp [World.setCell]; omega)
        · exact ((HY6.out.far _ (.inl (by omega))).far _ (.inl (by omega))).mono (by omega) (by simp [World.setCell]; omega)
        · exact ((HZ6.out.far _ (.inl (by omega))).far _ (.inl (by omega))).mono (by omega) (by simp [World.setCell])

set_option maxRecDepth 100000 in
set_option maxHeartbeats 3200000 in
theorem drawMt_any (a : Option Addr) (len cap : Nat) (zs : List Int) (w : World) (hb : Code8 w a len zs) (hl : len ≤ 4096) :
    Calls Try.prog 5 #[.slice a len cap] w (DrawnQ w) := by
  have HB := Lib.hid hb
  clear hb
  go_enter Try.func5, Try.ntmps5
  go_upto_region 1 with fail
  obtain ⟨wa, hwa⟩ : ∃ z, z = w.alloc (.cells #[.int .i64 0, .slice none 0 0] 26) := ⟨_, rfl⟩
  have HR1 : Hid (L2 wa w.heap.size (.int .i64 0) (.slice none 0 0)) := by show L2 _ _ _ _; rw [hwa]; exact L2.new _ _ _ _
  have HC1 : Hid (Code8 wa a len zs) := by show Code8 _ _ _ _; rw [hwa]; exact HB.out.below (below_alloc w _)
  have HB1 : Hid (Below w.heap.size w wa) := by show Below _ _ _; rw [hwa]; exact below_alloc w _
  have hRa : w.heap.size < wa.heap.size := by rw [hwa]; simp
  rw [← hwa]
  clear hwa
  go_upto_region 2 with (go_at_call 18; (with_reducible refine (l05Draw_any a len cap zs wa HC1.out hl).mono ?_); rintro e w2 ⟨p, r, X, c, r1, Y, c1, r2, Z, c2, rfl, hX, hY, hZ, oX, oY, oZ, b2⟩; have HR2 := Lib.hid (HR1.out.below b2 hRa); have HB2 := Lib.hid (below_step HB1.out (Nat.le_of_lt hRa) b2); have HN := Lib.hid (And.intro hX (And.intro hY hZ)); have HX2 := Lib.hid oX; have HY2 := Lib.hid oY; have HZ2 := Lib.hid oZ; have hR2 := Nat.lt_of_lt_of_le hRa b2.size; clear b2 hX hY hZ oX oY oZ)
  obtain ⟨wg, hwg⟩ : ∃ z, z = w2.alloc (.cells #[.int .i64 p, .slice r X.length c] 26) := ⟨_, rfl⟩
  obtain ⟨g, hg⟩ : ∃ z, z = w2.heap.size := ⟨_, rfl⟩
  have HG : Hid (L2 wg g (.int .i64 p) (.slice r X.length c)) := by show L2 _ _ _ _; rw [hwg, hg]; exact L2.new _ _ _ _
  have HR4 : Hid (L2 wg w.heap.size (.int .i64 0) (.slice none 0 0)) := by show L2 _ _ _ _; rw [hwg]; exact HR2.out.alloc _ hR2
  have HB4 : Hid (Below w.heap.size w wg) := by show Below _ _ _; rw [hwg]; exact HB2.out.alloc (Nat.le_of_lt hR2) _
  have HX4 : Hid (RowIn wa.heap.size g wg r X) := by show RowIn _ _ _ _ _; rw [hwg, hg]; exact HX2.out.below (below_alloc w2 _) (Nat.le_refl _)
  have HY4 : Hid (RowIn wa.heap.size g wg r1 Y) := by show RowIn _ _ _ _ _; rw [hwg, hg]; exact HY2.out.below (below_alloc w2 _) (Nat.le_refl _)
  have HZ4 : Hid (RowIn wa.heap.size g wg r2 Z) := by show RowIn _ _ _ _ _; rw [hwg, hg]; exact HZ2.out.below (below_alloc w2 _) (Nat.le_refl _)
  have hgg : g < wg.heap.size := by rw [hwg, hg]; simp
  have hRg : w.heap.size < g := by rw [hg]; exact hR2
  rw [← hwg, ← hg]
  clear hwg hg HR2 HB2 HX2 HY2 HZ2 HR1 HC1 HB1 hR2
  have r0 := HR4.out.1
  have r1' := HR4.out.2.1
  have r2' := HR4.out.2.2.1
  have r3 := HR4.out.2.2.2
  have g0 := HG.out.1
  have g1 := HG.out.2.1
  go_wp2
  refine bodyPost_ret (v := .tuple #[.agg #[.int .i64 p, .slice r X.length c], .slice r1 Y.length c1, .slice r2 Z.length c2]) (by simp [results, Try.results5, go_sem, r0, r1']) rfl ⟨p, r, X, c, r1, Y, c1, r2, Z, c2, rfl, HN.out.1, HN.out.2.1, HN.out.2.2, ?_, ?_, ?_, (HB4.out.setCell (Nat.le_refl _) _).setCell (Nat.le_refl _) _⟩
  · exact ((HX4.out.far _ (.inl hRa)).far _ (.inl hRa)).mono (Nat.le_of_lt hRa) (by simp [World.setCell]; omega)
  · exact ((HY4.out.far _ (.inl hRa)).far _ (.inl hRa)).mono (Nat.le_of_lt hRa) (by simp [World.setCell]; omega)
  · exact ((HZ4.out.far _ (.inl hRa)).far _ (.inl hRa)).mono (Nat.le_of_lt hRa) (by simp [World.setCell]; omega)

end Go.Proofs.Ytgfohjfemkmldaa
