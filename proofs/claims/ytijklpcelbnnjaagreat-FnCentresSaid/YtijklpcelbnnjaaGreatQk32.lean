/-
  The draws of a space with few squares and a multivector: contracts.
  Conditions: the code is nil or a row of known bytes, of at most 4096.
-/
import Derived.Test.YtijklpcelbnnjaaGreatQk16
import Derived.Test.YtijklpcelbnnjaaGreatQk6
import Derived.Test.YtijklpcelbnnjaaGreatQk31
import Derived.Test.YtijklpcelbnnjaaGreatQk9
import Derived.Deep.RegionHeld3
import Derived.Deep.DeepCutAuto
namespace Go.Proofs.YtijklpcelbnnjaaGreat
open Go.RowKit
set_option linter.unusedVariables false

/-- A space and a list are handed back. -/
def DrawnX (w : World) (e : Ending) (w' : World) : Prop :=
  ∃ p r X c r1 Y c1, e = .returned (.tuple #[.agg #[.int .i64 p, .slice r X.length c], .slice r1 Y.length c1]) ∧ X.length ≤ 7 ∧ Y.length ≤ 65 ∧ RowIn w.heap.size w'.heap.size w' r X ∧ RowIn w.heap.size w'.heap.size w' r1 Y ∧ Below w.heap.size w w'
/-- What such a draw carries: the source, the space that was drawn (its box and its squares), the box of the result. -/
structure D9 (b : Nat) (a : Option Addr) (len cap : Nat) (zs : List Int) (g : Nat) (p : Int) (r : Option Addr) (X : List Int) (c lo tp : Nat) (w : World) (W : World) : Prop where
  src : Src W b a len cap zs
  tc : L2 W g (.int .i64 p) (.slice r X.length c)
  rc : L2 W w.heap.size (.int .i64 0) (.slice none 0 0)
  row : RowIn lo tp W r X
  bel : Below w.heap.size w W
  lt : w.heap.size < W.heap.size
  gl : g < W.heap.size
  tl : tp ≤ W.heap.size
  wb : w.heap.size < b
  bg : b < g
  wg : w.heap.size ≠ g
  sd : b < lo ∨ tp ≤ b
  wlo : w.heap.size < lo
theorem D9.only {b : Nat} {a : Option Addr} {len cap : Nat} {zs : List Int} {g : Nat} {p : Int} {r : Option Addr} {X : List Int} {c lo tp : Nat} {w : World} {W W' : World} (h : D9 b a len cap zs g p r X c lo tp w W) (ho : Only b W W') (hs : Src W' b a len cap zs) : D9 b a len cap zs g p r X c lo tp w W' :=
  { h with src := hs, tc := h.tc.only ho h.gl (Nat.ne_of_gt h.bg), rc := h.rc.only ho h.lt (Nat.ne_of_lt h.wb), row := h.row.only ho h.sd h.tl, bel := h.bel.trans (ho.below (Nat.le_of_lt h.wb) (Nat.le_of_lt h.lt)), lt := Nat.lt_of_lt_of_le h.lt ho.size, gl := Nat.lt_of_lt_of_le h.gl ho.size, tl := Nat.le_trans h.tl ho.size }
theorem D9.below {b : Nat} {a : Option Addr} {len cap : Nat} {zs : List Int} {g : Nat} {p : Int} {r : Option Addr} {X : List Int} {c lo tp : Nat} {w : World} {W W' : World} (h : D9 b a len cap zs g p r X c lo tp w W) (hb : Below W.heap.size W W') : D9 b a len cap zs g p r X c lo tp w W' := h.only (Only.of_below hb) (h.src.step hb)
theorem D9.ss {b : Nat} {a : Option Addr} {len cap : Nat} {zs : List Int} {g : Nat} {p : Int} {r : Option Addr} {X : List Int} {c lo tp : Nat} {w : World} {W : World} (h : D9 b a len cap zs g p r X c lo tp w W) : W.cell? ⟨g, 0, none⟩ = some (.int .i64 p) ∧ W.cell? ⟨g, 1, none⟩ = some (.slice r X.length c) := ⟨h.tc.1, h.tc.2.1⟩
/-- Another space is stored. -/
theorem D9.put {b : Nat} {a : Option Addr} {len cap : Nat} {zs : List Int} {g : Nat} {p : Int} {r : Option Addr} {X : List Int} {c lo tp : Nat} {w : World} {W : World} (h : D9 b a len cap zs g p r X c lo tp w W) {p' : Int} {r' : Option Addr} {X' : List Int} {c' lo' tp' : Nat} (hr : RowIn lo' tp' W r' X') (ht : tp' ≤ W.heap.size) (hs : b < lo' ∨ tp' ≤ b) (hg : g < lo' ∨ tp' ≤ g) (hlo : w.heap.size < lo') (hwg : w.heap.size ≤ g) :
    D9 b a len cap zs g p' r' X' c' lo' tp' w ((W.setCell ⟨g, 0, none⟩ (.int .i64 p')).setCell ⟨g, 1, none⟩ (.slice r' X'.length c')) :=
  { src := (h.src.far (Only.set g 0 W _) h.bg).far (Only.set g 1 _ _) h.bg
    tc := (h.tc.put0 _).put1 _
    rc := (h.rc.far _ h.wg).far _ h.wg
    row := (hr.far _ hg).far _ hg
    bel := (h.bel.setCell hwg _).setCell hwg _
    lt := by have := h.lt; simpa [World.setCell] using this
    gl := by have := h.gl; simpa [World.setCell] using this
    tl := by simpa [World.setCell] using ht
    wb := h.wb, bg := h.bg, wg := h.wg, sd := hs, wlo := hlo }
/-- What is left behind the last stores. -/
theorem D9.fin {b : Nat} {a : Option Addr} {len cap : Nat} {zs : List Int} {g : Nat} {p : Int} {r : Option Addr} {X : List Int} {c lo tp : Nat} {w : World} {W : World} (h : D9 b a len cap zs g p r X c lo tp w W) {r1 : Option Addr} {Y : List Int} {c1 lo1 tp1 : Nat} (hX : X.length ≤ 7) (hY : Y.length ≤ 65) (hy : RowIn lo1 tp1 W r1 Y) (t1 : tp1 ≤ W.heap.size) (h1 : w.heap.size < lo1) :
    DrawnX w (.returned (.tuple #[.agg #[.int .i64 p, .slice r X.length c], .slice r1 Y.length c1])) ((W.setCell ⟨w.heap.size, 0, none⟩ (.int .i64 p)).setCell ⟨w.heap.size, 1, none⟩ (.slice r X.length c)) :=
  ⟨p, r, X, c, r1, Y, c1, rfl, hX, hY, ((h.row.far _ (.inl h.wlo)).far _ (.inl h.wlo)).mono (Nat.le_of_lt h.wlo) (by have := h.tl; simpa [World.setCell] using this), ((hy.far _ (.inl h1)).far _ (.inl h1)).mono (Nat.le_of_lt h1) (by simpa [World.setCell] using t1), (h.bel.setCell (Nat.le_refl _) _).setCell (Nat.le_refl _) _⟩
theorem four_in9 {y : Int} (h : y ∈ [2, 3, 3, 4]) : 1 ≤ y ∧ y ≤ 6 := by
  simp at h; omega
theorem mvB_yes {p : Int} {S x : List Int} (h : mvB p S x = true) : isSp p S = true ∧ isMv p S x = true := by unfold mvB at h; rw [Bool.and_eq_true] at h; exact h

theorem spec_VI_n (pS : Int) (aS : Option Addr) (S : List Int) (cS loS tpS bv : Nat) (v : List Int) (n lov tpv : Nat) (w : World) (hn : v.length = n) (hS : RowIn loS tpS w aS S) (tS : tpS ≤ w.heap.size) (sS : S.length ≤ 1048576) (hv : RowIn lov tpv w (some ⟨bv, 0, none⟩) v) (tv : tpv ≤ w.heap.size) (sv : v.length ≤ 1048576) :
    Calls Tryz.prog 67 #[.agg #[.int .i64 pS, .slice aS S.length cS], .slice (some ⟨bv, 0, none⟩) n n] w (SpecR (viV pS S v) (viC pS S v) w) := by
  subst hn; exact spec_VectorIdempotent pS aS S cS loS tpS (some ⟨bv, 0, none⟩) v v.length lov tpv w hS tS sS hv tv sv
theorem viV_ok {p : Int} {S v : List Int} (h : viC p S v = 0) : viV p S v = viM9 p S v := if_pos h

set_option maxRecDepth 100000 in
set_option maxHeartbeats 6400000 in
theorem draw09_any (a : Option Addr) (len cap : Nat) (zs : List Int) (w : World) (hb : Code8 w a len zs) (hl : len ≤ 4096) :
    Calls Tryz.prog 35 #[.slice a len cap] w (DrawnX w) := by
  have HB := Lib.hid hb
  clear hb
  go_enter Tryz.func35, Tryz.ntmps35
  go_upto_region 1 with fail
  obtain ⟨wa, hwa⟩ : ∃ z, z = w.alloc (.cells #[.int .i64 0, .slice none 0 0] 26) := ⟨_, rfl⟩
  have HR1 : Hid (L2 wa w.heap.size (.int .i64 0) (.slice none 0 0)) := by show L2 _ _ _ _; rw [hwa]; exact L2.new _ _ _ _
  have HC1 : Hid (Code8 wa a len zs) := by show Code8 _ _ _ _; rw [hwa]; exact HB.out.below (below_alloc w _)
  have HB1 : Hid (Below w.heap.size w wa) := by show Below _ _ _; rw [hwa]; exact below_alloc w _
  have hRa : w.heap.size < wa.heap.size := by rw [hwa]; simp
  rw [← hwa]
  clear hwa
  go_upto_region 3 with (first
    | (go_at_call 34; (with_reducible refine (from_any a len cap zs wa HC1.out hl).mono ?_); rintro e w1 ⟨rfl, b1, s1⟩; have HS1 := Lib.hid s1; have HB2 := Lib.hid (below_step HB1.out (Nat.le_of_lt hRa) b1); have HR2 := Lib.hid (HR1.out.below b1 hRa); have hR1 := Nat.lt_of_lt_of_le hRa b1.size; have hb1 := s1.lt; clear b1 s1)
    | (go_at_call 64; (refine (pick_in w1.heap.size 4 [2, 3, 3, 4] wa.heap.size a len cap zs _ (HS1.out.alloc _) (rowOf w1 [2, 3, 3, 4] _) rfl (by omega) (by omega) (by simp) (by omega)).mono ?_; rintro e w2 ⟨y, rfl, hy, on2, s2⟩; have hyy := four_in9 hy; have HS2 := Lib.hid s2; have hRb := Nat.lt_of_lt_of_le hR1 (size_alloc w1 (.cells (List.map (Value.int .i64) [2, 3, 3, 4]).toArray 2)); have HB3 := Lib.hid ((HB2.out.alloc (Nat.le_of_lt hR1) (.cells (List.map (Value.int .i64) [2, 3, 3, 4]).toArray 2)).trans (on2.below (Nat.le_of_lt hRa) (Nat.le_of_lt hRb))); have HR3 := Lib.hid ((HR2.out.alloc (.cells (List.map (Value.int .i64) [2, 3, 3, 4]).toArray 2) hR1).only on2 hRb (Nat.ne_of_lt hRa)); have hR2 := Nat.lt_of_lt_of_le hRb on2.size; have hb2 : wa.heap.size < w2.heap.size := (Nat.lt_of_lt_of_le (Nat.lt_of_lt_of_le hb1 (size_alloc w1 _)) on2.size); clear on2 s2 hy))
    | (go_at_call 63; ((with_reducible refine (any_any y wa.heap.size a len cap zs w2 HS2.out hyy.1 hyy.2).mono ?_); rintro e w3 ⟨p, r, X, c, rfl, hX, o3, on3, s3⟩; have HX := Lib.hid hX; have HS3 := Lib.hid s3; have HB4 := Lib.hid (HB3.out.trans (on3.below (Nat.le_of_lt hRa) (Nat.le_of_lt hR2))); have HR4 := Lib.hid (HR3.out.only on3 hR2 (Nat.ne_of_lt hRa)); have HO3 := Lib.hid o3.rowIn; have hR3 := Nat.lt_of_lt_of_le hR2 on3.size; have zy3 := on3.size; clear on3 s3 hX o3)))
  obtain ⟨wg, hwg⟩ : ∃ z, z = w3.alloc (.cells #[.int .i64 p, .slice r X.length c] 26) := ⟨_, rfl⟩
  obtain ⟨g, hg⟩ : ∃ z, z = w3.heap.size := ⟨_, rfl⟩
  obtain ⟨b, hbb⟩ : ∃ z, z = wa.heap.size := ⟨_, rfl⟩
  obtain ⟨lo, hlo⟩ : ∃ z, z = w2.heap.size := ⟨_, rfl⟩
  have DG : Hid (D9 b a len cap zs g p r X c lo g w wg) := by
    show D9 _ _ _ _ _ _ _ _ _ _ _ _ _ _
    rw [hwg, hg, hbb, hlo]
    exact { src := HS3.out.alloc _, tc := L2.new _ _ _ _, rc := HR4.out.alloc _ hR3, row := HO3.out.below (below_alloc w3 _) (Nat.le_refl _), bel := HB4.out.alloc (Nat.le_of_lt hR3) _, lt := Nat.lt_of_lt_of_le hR3 (size_alloc w3 _), gl := by simp, tl := size_alloc w3 _, wb := hRa, bg := by omega, wg := Nat.ne_of_lt hR3, sd := .inl hb2, wlo := hR2 }
  have hwg1 : w.heap.size ≤ g := by rw [hg]; exact Nat.le_of_lt hR3
  have hX7 : Hid (X.length ≤ 7) := by show _ ≤ _; have := HX.out; omega
  have hXs : X.length ≤ 1048576 := by have := HX.out; omega
  rw [← hwg, ← hg, ← hbb]
  clear hwg hg hbb hlo HR1 HC1 HB1 HS1 HB2 HR2 HS2 HB3 HR3 HS3 HB4 HR4 HO3 hRa hR1 hb1 hyy hRb hR2 hb2 hR3 zy3 HX
  have t0 := DG.out.tc.1
  have t1 := DG.out.tc.2.1
  have t2 := DG.out.tc.2.2.1
  have t3 := DG.out.tc.2.2.2
  have hgl := DG.out.gl
  go_upto_region 5 with (first | (go_at_call 37; ((with_reducible refine (next_any 16 b a len cap zs wg DG.out.src).mono ?_); rintro e w4 ⟨x4, rfl, _, on4, s4⟩; have D4 := Lib.hid (DG.out.only on4 s4); have hg4 := D4.out.gl; clear on4 s4 t0 t1 t2 t3; have t0 := D4.out.tc.1; have t1 := D4.out.tc.2.1; have t2 := D4.out.tc.2.2.1; have t3 := D4.out.tc.2.2.2)) | (go_at_call 65; ((with_reducible refine (spoil_space b a len cap zs w4 D4.out.src).mono ?_); rintro e w5 ⟨p5, r5, X5, c5, rfl, hX5, o5, on5, s5⟩; have HX5 := Lib.hid hX5; have HO5 := Lib.hid o5; have D5 := Lib.hid (D4.out.only on5 s5); have hb4 := D4.out.src.lt; have zy5 := on5.size; clear on5 s5 hX5 o5 t0 t1 t2 t3; have t0 := D5.out.tc.1; have t1 := D5.out.tc.2.1; have t2 := D5.out.tc.2.2.1; have t3 := D5.out.tc.2.2.2)))
  · obtain ⟨w6, hw6⟩ : ∃ z, z = (w5.setCell ⟨g, 0, none⟩ (.int .i64 p5)).setCell ⟨g, 1, none⟩ (.slice r5 X5.length c5) := ⟨_, rfl⟩
    have D6 : Hid (D9 b a len cap zs g p5 r5 X5 c5 w4.heap.size w5.heap.size w w6) := by show D9 _ _ _ _ _ _ _ _ _ _ _ _ _ _; rw [hw6]; exact D5.out.put HO5.out (Nat.le_refl _) (.inl hb4) (.inl hg4) D4.out.lt hwg1
    rw [← hw6]
    clear hw6 D4 D5 HO5 DG t0 t1 t2 t3 hb4 zy5
    have hX5s : X5.length ≤ 1048576 := by have := HX5.out; omega
    have t0 := D6.out.tc.1
    have t1 := D6.out.tc.2.1
    go_upto_region 6 with (first | (go_at_call 66; ((with_reducible refine (spoilM_any p5 r5 X5 c5 w4.heap.size w5.heap.size b a len cap zs w6 D6.out.src hX5s D6.out.row D6.out.tl D6.out.sd).mono ?_); rintro e w7 ⟨r1, c1, Y, rfl, hY, o7, on7, s7⟩; have HY := Lib.hid hY; have HY7 := Lib.hid o7; have D7 := Lib.hid (D6.out.only on7 s7); have hb7 := D6.out.src.lt; have hlt7 := D6.out.lt; clear o7 on7 s7 hY t0 t1; have t0 := D7.out.tc.1; have t1 := D7.out.tc.2.1)))
    have hY65 : Y.length ≤ 1048576 := by have := HY.out; omega
    cases hm : mvB p5 X5 Y with
    | false =>
      have HM := Lib.hid hm
      clear hm
      go_wp2_with (first | (go_at_call 36; ((with_reducible refine (l04Is_any p5 r5 X5 c5 w4.heap.size w5.heap.size r1 Y c1 w6.heap.size w7.heap.size w7 D7.out.row D7.out.tl hX5s HY7.out (Nat.le_refl _) hY65).mono ?_); rintro e w8 ⟨rfl, b_⟩; rw [HM.out]; have D8 := Lib.hid (D7.out.below b_); have HY8 := Lib.hid (HY7.out.below b_ (Nat.le_refl _)); have z8 := b_.size; clear b_ t0 t1; have t0 := D8.out.tc.1; have t1 := D8.out.tc.2.1; have q0 := D8.out.rc.1; have q1 := D8.out.rc.2.1; have q2 := D8.out.rc.2.2.1; have q3 := D8.out.rc.2.2.2)))
      refine bodyPost_ret (v := .tuple #[.agg #[.int .i64 p5, .slice r5 X5.length c5], .slice r1 Y.length c1]) (by simp [results, Tryz.results35, go_sem, q0, q1]) rfl (D8.out.fin HX5.out HY.out HY8.out z8 hlt7)
    | true =>
      have HM := Lib.hid hm
      have hsm := mvB_yes hm
      clear hm
      by_cases h4 : X5.length ≤ 4
      · have h4' : (X5.length : Int) ≤ 4 := by omega
        have HI := Lib.hid hsm.1
        have HMY := Lib.hid hsm.2
        have HP := Lib.hid (isSp_iff.1 hsm.1).prime
        have hpb := prm_bd (isSp_iff.1 hsm.1).prime
        have hp1 : 1 ≤ p5 := by omega
        have h6 : X5.length ≤ 6 := by omega
        have hbl := bl_le h6
        clear hsm
        go_wp2_with (first | (go_at_call 36; ((with_reducible refine (l04Is_any p5 r5 X5 c5 w4.heap.size w5.heap.size r1 Y c1 w6.heap.size w7.heap.size w7 D7.out.row D7.out.tl hX5s HY7.out (Nat.le_refl _) hY65).mono ?_); rintro e w8 ⟨rfl, b_⟩; rw [HM.out]; have D8 := Lib.hid (D7.out.below b_); have HY8 := Lib.hid (HY7.out.below b_ (Nat.le_refl _)); have z8 := b_.size; clear b_ t0 t1; have t0 := D8.out.tc.1; have t1 := D8.out.tc.2.1; have q0 := D8.out.rc.1; have q1 := D8.out.rc.2.1; have q2 := D8.out.rc.2.2.1; have q3 := D8.out.rc.2.2.2)) | (go_at_call 37; ((with_reducible refine (next_any 3 b a len cap zs w8 D8.out.src).mono ?_); rintro e w9 ⟨x9, rfl, _, on9, s9⟩; have D9' := Lib.hid (D8.out.only on9 s9); have HY9 := Lib.hid (HY8.out.only on9 (.inl hb7) z8); have z9 := Nat.le_trans z8 on9.size; clear on9 s9 t0 t1 q0 q1 q2 q3; have t0 := D9'.out.tc.1; have t1 := D9'.out.tc.2.1; have q0 := D9'.out.rc.1; have q1 := D9'.out.rc.2.1; have q2 := D9'.out.rc.2.2.1; have q3 := D9'.out.rc.2.2.2)))
        · have SS9 : Hid (w9.drew.cell? ⟨g, 0, none⟩ = some (.int .i64 p5) ∧ w9.drew.cell? ⟨g, 1, none⟩ = some (.slice r5 X5.length c5)) := D9'.out.ss
          have DD : Hid (D9 b a len cap zs g p5 r5 X5 c5 w4.heap.size w5.heap.size w w9.drew) := D9'.out.below (below_drew w9)
          have HYD : Hid (RowIn w6.heap.size w7.heap.size w9.drew r1 Y) := HY9.out.below (below_drew w9) z9
          have zd : w7.heap.size ≤ w9.drew.heap.size := z9
          clear t0 t1 q0 q1 q2 q3
          go_region_held3 (fun w' => w'.cell? ⟨g, 0, none⟩ = some (.int .i64 p5) ∧ w'.cell? ⟨g, 1, none⟩ = some (.slice r5 X5.length c5)) (first | exact SS9.out | exact SSb.out | exact SSc.out | exact SSd.out | go_keep) (first | (go_at_call 69; ((with_reducible refine (listN_any p5 X5.length b a len cap zs w9.drew DD.out.src (by omega) hp1).mono ?_); rintro e wb ⟨v9, V, rfl, hV, ob, onb, sb⟩; obtain ⟨rv, cv, rfl, tb⟩ := ob.tag; have DB := Lib.hid (DD.out.only onb sb); have HYB := Lib.hid (HYD.out.only onb (.inl hb7) zd); have HTB := Lib.hid tb; have HVL := Lib.hid hV.1; have HVN := Lib.hid hV.2; have SSb := Lib.hid DB.out.ss; have zb := Nat.le_trans zd onb.size; clear tb ob hV onb sb)) | (go_at_call 68; ((with_reducible refine (l04Vector_any p5 r5 X5 c5 rv V cv w9.drew.heap.size wb.heap.size wb h6 HVL.out HTB.out.row (Nat.le_refl _)).mono ?_); rintro e wc ⟨bc, rfl, hlc, huc, hoc, bec⟩; have DC := Lib.hid (DB.out.below bec); have HYC := Lib.hid (HYB.out.below bec zb); have HOC := Lib.hid (hoc.own hlc huc).row; have SSc := Lib.hid DC.out.ss; have zc := Nat.le_trans zb bec.size; have MV : Hid (isMv p5 X5 (mkR (bl X5) (vecF V V.length)) = true) := isMv_of (mkR_len _ _) (fun j hj => vecNN hp1 HVN.out j hj); have hVs : (mkR (bl X5) (vecF V V.length)).length ≤ 1048576 := (by rw [mkR_len]; omega); clear hoc bec hlc huc)) | (go_at_call 67; ((with_reducible refine (spec_VI_n p5 r5 X5 c5 w4.heap.size w5.heap.size bc (mkR (bl X5) (vecF V V.length)) (bl X5) wb.heap.size wc.heap.size wc (mkR_len _ _) DC.out.row DC.out.tl hX5s HOC.out (Nat.le_refl _) hVs).mono ?_); rintro e wd ⟨rd, cd, rfl, od, bd⟩; have DE := Lib.hid (DC.out.below bd); have HYE := Lib.hid (HYC.out.below bd zc); have HOE := Lib.hid od; have SSd := Lib.hid DE.out.ss; have zd2 := Nat.le_trans zc bd.size; have t0 := DE.out.tc.1; have t1 := DE.out.tc.2.1; have q0 := DE.out.rc.1; have q1 := DE.out.rc.2.1; have q2 := DE.out.rc.2.2.1; have q3 := DE.out.rc.2.2.2; clear od bd)))
          all_goals
            obtain ⟨K, hK⟩ : ∃ k, k = viC p5 X5 (mkR (bl X5) (vecF V V.length)) := ⟨_, rfl⟩
            have HKE := Lib.hid hK
            rw [← hK]
            by_cases hk0 : K = 0
            · subst hk0
              have HV0 := Lib.hid (viV_ok hK.symm)
              clear hK
              have DF : Hid (D9 b a len cap zs g p5 r5 X5 c5 w4.heap.size w5.heap.size w wd.drew) := DE.out.below (below_drew wd)
              have HYF : Hid (RowIn w6.heap.size w7.heap.size wd.drew r1 Y) := HYE.out.below (below_drew wd) zd2
              have zf : w7.heap.size ≤ wd.drew.heap.size := zd2
              have HOF : Hid (RowIn wc.heap.size wd.heap.size wd.drew rd (viM9 p5 X5 (mkR (bl X5) (vecF V V.length)))) := by have h := HOE.out; rw [HV0.out] at h; exact h.below (below_drew wd) (Nat.le_refl _)
              have hle : wd.heap.size ≤ wd.drew.heap.size := Nat.le_refl _
              have HMI : Hid (isMv p5 X5 (viM9 p5 X5 (mkR (bl X5) (vecF V V.length))) = true) := viM9_mv HI.out _
              have SSf := Lib.hid DF.out.ss
              rw [HV0.out]
              clear t0 t1 q0 q1 q2 q3
              go_wp2
              go_region_held3 (fun w' => w'.cell? ⟨g, 0, none⟩ = some (.int .i64 p5) ∧ w'.cell? ⟨g, 1, none⟩ = some (.slice r5 X5.length c5)) (first | exact SSf.out | exact SSg.out | exact SSh.out | go_keep) (first | (go_at_call 48; ((with_reducible refine (times_own p5 r5 X5 c5 w4.heap.size w5.heap.size r1 Y c1 w6.heap.size w7.heap.size rd (viM9 p5 X5 (mkR (bl X5) (vecF V V.length))) cd wc.heap.size wd.heap.size wd.drew HI.out DF.out.row DF.out.tl HYF.out zf HMY.out HOF.out hle HMI.out).mono ?_); rintro e wg2 ⟨rg, cg, rfl, og, bg⟩; have DX := Lib.hid (DF.out.below bg); have HOG := Lib.hid og.row; have SSg := Lib.hid DX.out.ss; have q0 := DX.out.rc.1; have q1 := DX.out.rc.2.1; have q2 := DX.out.rc.2.2.1; have q3 := DX.out.rc.2.2.2; have SSh := Lib.hid (And.intro ((DX.out.tc.far (k := w.heap.size) (i := 0) (.int .i64 p5) (Ne.symm DX.out.wg)).far (k := w.heap.size) (i := 1) (.slice r5 X5.length c5) (Ne.symm DX.out.wg)).1 ((DX.out.tc.far (k := w.heap.size) (i := 0) (.int .i64 p5) (Ne.symm DX.out.wg)).far (k := w.heap.size) (i := 1) (.slice r5 X5.length c5) (Ne.symm DX.out.wg)).2.1); have hlf := DF.out.lt; clear og bg)))
              all_goals
                go_wp2
                refine bodyPost_ret (v := .tuple #[.agg #[.int .i64 p5, .slice r5 X5.length c5], .slice rg (prodM p5 X5 Y (viM9 p5 X5 (mkR (bl X5) (vecF V V.length)))).length cg]) (by simp [results, Tryz.results35, go_sem, q0, q1]) rfl (DX.out.fin HX5.out (by rw [prodM_len]; omega) HOG.out (Nat.le_refl _) hlf)
            · have hk1 : (K == 0) = false := by simpa using hk0
              clear hK hk0
              go_wp2
              refine bodyPost_ret (v := .tuple #[.agg #[.int .i64 p5, .slice r5 X5.length c5], .slice r1 Y.length c1]) (by simp [results, Tryz.results35, go_sem, q0, q1]) rfl (DE.out.fin HX5.out HY.out HYE.out zd2 hlt7)
        · refine bodyPost_ret (v := .tuple #[.agg #[.int .i64 p5, .slice r5 X5.length c5], .slice r1 Y.length c1]) (by simp [results, Tryz.results35, go_sem, q0, q1]) rfl (D9'.out.fin HX5.out HY.out HY9.out z9 hlt7)
      · have h4' : ¬ ((X5.length : Int) ≤ 4) := by omega
        clear h4 hsm
        go_wp2_with (first | (go_at_call 36; ((with_reducible refine (l04Is_any p5 r5 X5 c5 w4.heap.size w5.heap.size r1 Y c1 w6.heap.size w7.heap.size w7 D7.out.row D7.out.tl hX5s HY7.out (Nat.le_refl _) hY65).mono ?_); rintro e w8 ⟨rfl, b_⟩; rw [HM.out]; have D8 := Lib.hid (D7.out.below b_); have HY8 := Lib.hid (HY7.out.below b_ (Nat.le_refl _)); have z8 := b_.size; clear b_ t0 t1; have t0 := D8.out.tc.1; have t1 := D8.out.tc.2.1; have q0 := D8.out.rc.1; have q1 := D8.out.rc.2.1; have q2 := D8.out.rc.2.2.1; have q3 := D8.out.rc.2.2.2)))
        refine bodyPost_ret (v := .tuple #[.agg #[.int .i64 p5, .slice r5 X5.length c5], .slice r1 Y.length c1]) (by simp [results, Tryz.results35, go_sem, q0, q1]) rfl (D8.out.fin HX5.out HY.out HY8.out z8 hlt7)
  · clear t2 t3
    go_upto_region 6 with (first | (go_at_call 66; ((with_reducible refine (spoilM_any p r X c lo g b a len cap zs w4 D4.out.src hXs D4.out.row D4.out.tl D4.out.sd).mono ?_); rintro e w7 ⟨r1, c1, Y, rfl, hY, o7, on7, s7⟩; have HY := Lib.hid hY; have HY7 := Lib.hid o7; have D7 := Lib.hid (D4.out.only on7 s7); have hb7 := D4.out.src.lt; have hlt7 := D4.out.lt; clear o7 on7 s7 hY t0 t1; have t0 := D7.out.tc.1; have t1 := D7.out.tc.2.1)))
    have hY65 : Y.length ≤ 1048576 := by have := HY.out; omega
    cases hm : mvB p X Y with
    | false =>
      have HM := Lib.hid hm
      clear hm
      go_wp2_with (first | (go_at_call 36; ((with_reducible refine (l04Is_any p r X c lo g r1 Y c1 w4.heap.size w7.heap.size w7 D7.out.row D7.out.tl hXs HY7.out (Nat.le_refl _) hY65).mono ?_); rintro e w8 ⟨rfl, b_⟩; rw [HM.out]; have D8 := Lib.hid (D7.out.below b_); have HY8 := Lib.hid (HY7.out.below b_ (Nat.le_refl _)); have z8 := b_.size; clear b_ t0 t1; have t0 := D8.out.tc.1; have t1 := D8.out.tc.2.1; have q0 := D8.out.rc.1; have q1 := D8.out.rc.2.1; have q2 := D8.out.rc.2.2.1; have q3 := D8.out.rc.2.2.2)))
      refine bodyPost_ret (v := .tuple #[.agg #[.int .i64 p, .slice r X.length c], .slice r1 Y.length c1]) (by simp [results, Tryz.results35, go_sem, q0, q1]) rfl (D8.out.fin hX7.out HY.out HY8.out z8 hlt7)
    | true =>
      have HM := Lib.hid hm
      have hsm := mvB_yes hm
      clear hm
      by_cases h4 : X.length ≤ 4
      · have h4' : (X.length : Int) ≤ 4 := by omega
        have HI := Lib.hid hsm.1
        have HMY := Lib.hid hsm.2
        have HP := Lib.hid (isSp_iff.1 hsm.1).prime
        have hpb := prm_bd (isSp_iff.1 hsm.1).prime
        have hp1 : 1 ≤ p := by omega
        have h6 : X.length ≤ 6 := by omega
        have hbl := bl_le h6
        clear hsm
        go_wp2_with (first | (go_at_call 36; ((with_reducible refine (l04Is_any p r X c lo g r1 Y c1 w4.heap.size w7.heap.size w7 D7.out.row D7.out.tl hXs HY7.out (Nat.le_refl _) hY65).mono ?_); rintro e w8 ⟨rfl, b_⟩; rw [HM.out]; have D8 := Lib.hid (D7.out.below b_); have HY8 := Lib.hid (HY7.out.below b_ (Nat.le_refl _)); have z8 := b_.size; clear b_ t0 t1; have t0 := D8.out.tc.1; have t1 := D8.out.tc.2.1; have q0 := D8.out.rc.1; have q1 := D8.out.rc.2.1; have q2 := D8.out.rc.2.2.1; have q3 := D8.out.rc.2.2.2)) | (go_at_call 37; ((with_reducible refine (next_any 3 b a len cap zs w8 D8.out.src).mono ?_); rintro e w9 ⟨x9, rfl, _, on9, s9⟩; have D9' := Lib.hid (D8.out.only on9 s9); have HY9 := Lib.hid (HY8.out.only on9 (.inl hb7) z8); have z9 := Nat.le_trans z8 on9.size; clear on9 s9 t0 t1 q0 q1 q2 q3; have t0 := D9'.out.tc.1; have t1 := D9'.out.tc.2.1; have q0 := D9'.out.rc.1; have q1 := D9'.out.rc.2.1; have q2 := D9'.out.rc.2.2.1; have q3 := D9'.out.rc.2.2.2)))
        · have SS9 : Hid (w9.drew.cell? ⟨g, 0, none⟩ = some (.int .i64 p) ∧ w9.drew.cell? ⟨g, 1, none⟩ = some (.slice r X.length c)) := D9'.out.ss
          have DD : Hid (D9 b a len cap zs g p r X c lo g w w9.drew) := D9'.out.below (below_drew w9)
          have HYD : Hid (RowIn w4.heap.size w7.heap.size w9.drew r1 Y) := HY9.out.below (below_drew w9) z9
          have zd : w7.heap.size ≤ w9.drew.heap.size := z9
          clear t0 t1 q0 q1 q2 q3
          go_region_held3 (fun w' => w'.cell? ⟨g, 0, none⟩ = some (.int .i64 p) ∧ w'.cell? ⟨g, 1, none⟩ = some (.slice r X.length c)) (first | exact SS9.out | exact SSb.out | exact SSc.out | exact SSd.out | go_keep) (first | (go_at_call 69; ((with_reducible refine (listN_any p X.length b a len cap zs w9.drew DD.out.src (by omega) hp1).mono ?_); rintro e wb ⟨v9, V, rfl, hV, ob, onb, sb⟩; obtain ⟨rv, cv, rfl, tb⟩ := ob.tag; have DB := Lib.hid (DD.out.only onb sb); have HYB := Lib.hid (HYD.out.only onb (.inl hb7) zd); have HTB := Lib.hid tb; have HVL := Lib.hid hV.1; have HVN := Lib.hid hV.2; have SSb := Lib.hid DB.out.ss; have zb := Nat.le_trans zd onb.size; clear tb ob hV onb sb)) | (go_at_call 68; ((with_reducible refine (l04Vector_any p r X c rv V cv w9.drew.heap.size wb.heap.size wb h6 HVL.out HTB.out.row (Nat.le_refl _)).mono ?_); rintro e wc ⟨bc, rfl, hlc, huc, hoc, bec⟩; have DC := Lib.hid (DB.out.below bec); have HYC := Lib.hid (HYB.out.below bec zb); have HOC := Lib.hid (hoc.own hlc huc).row; have SSc := Lib.hid DC.out.ss; have zc := Nat.le_trans zb bec.size; have MV : Hid (isMv p X (mkR (bl X) (vecF V V.length)) = true) := isMv_of (mkR_len _ _) (fun j hj => vecNN hp1 HVN.out j hj); have hVs : (mkR (bl X) (vecF V V.length)).length ≤ 1048576 := (by rw [mkR_len]; omega); clear hoc bec hlc huc)) | (go_at_call 67; ((with_reducible refine (spec_VI_n p r X c lo g bc (mkR (bl X) (vecF V V.length)) (bl X) wb.heap.size wc.heap.size wc (mkR_len _ _) DC.out.row DC.out.tl hXs HOC.out (Nat.le_refl _) hVs).mono ?_); rintro e wd ⟨rd, cd, rfl, od, bd⟩; have DE := Lib.hid (DC.out.below bd); have HYE := Lib.hid (HYC.out.below bd zc); have HOE := Lib.hid od; have SSd := Lib.hid DE.out.ss; have zd2 := Nat.le_trans zc bd.size; have t0 := DE.out.tc.1; have t1 := DE.out.tc.2.1; have q0 := DE.out.rc.1; have q1 := DE.out.rc.2.1; have q2 := DE.out.rc.2.2.1; have q3 := DE.out.rc.2.2.2; clear od bd)))
          all_goals
            obtain ⟨K, hK⟩ : ∃ k, k = viC p X (mkR (bl X) (vecF V V.length)) := ⟨_, rfl⟩
            have HKE := Lib.hid hK
            rw [← hK]
            by_cases hk0 : K = 0
            · subst hk0
              have HV0 := Lib.hid (viV_ok hK.symm)
              clear hK
              have DF : Hid (D9 b a len cap zs g p r X c lo g w wd.drew) := DE.out.below (below_drew wd)
              have HYF : Hid (RowIn w4.heap.size w7.heap.size wd.drew r1 Y) := HYE.out.below (below_drew wd) zd2
              have zf : w7.heap.size ≤ wd.drew.heap.size := zd2
              have HOF : Hid (RowIn wc.heap.size wd.heap.size wd.drew rd (viM9 p X (mkR (bl X) (vecF V V.length)))) := by have h := HOE.out; rw [HV0.out] at h; exact h.below (below_drew wd) (Nat.le_refl _)
              have hle : wd.heap.size ≤ wd.drew.heap.size := Nat.le_refl _
              have HMI : Hid (isMv p X (viM9 p X (mkR (bl X) (vecF V V.length))) = true) := viM9_mv HI.out _
              have SSf := Lib.hid DF.out.ss
              rw [HV0.out]
              clear t0 t1 q0 q1 q2 q3
              go_wp2
              go_region_held3 (fun w' => w'.cell? ⟨g, 0, none⟩ = some (.int .i64 p) ∧ w'.cell? ⟨g, 1, none⟩ = some (.slice r X.length c)) (first | exact SSf.out | exact SSg.out | exact SSh.out | go_keep) (first | (go_at_call 48; ((with_reducible refine (times_own p r X c lo g r1 Y c1 w4.heap.size w7.heap.size rd (viM9 p X (mkR (bl X) (vecF V V.length))) cd wc.heap.size wd.heap.size wd.drew HI.out DF.out.row DF.out.tl HYF.out zf HMY.out HOF.out hle HMI.out).mono ?_); rintro e wg2 ⟨rg, cg, rfl, og, bg⟩; have DX := Lib.hid (DF.out.below bg); have HOG := Lib.hid og.row; have SSg := Lib.hid DX.out.ss; have q0 := DX.out.rc.1; have q1 := DX.out.rc.2.1; have q2 := DX.out.rc.2.2.1; have q3 := DX.out.rc.2.2.2; have SSh := Lib.hid (And.intro ((DX.out.tc.far (k := w.heap.size) (i := 0) (.int .i64 p) (Ne.symm DX.out.wg)).far (k := w.heap.size) (i := 1) (.slice r X.length c) (Ne.symm DX.out.wg)).1 ((DX.out.tc.far (k := w.heap.size) (i := 0) (.int .i64 p) (Ne.symm DX.out.wg)).far (k := w.heap.size) (i := 1) (.slice r X.length c) (Ne.symm DX.out.wg)).2.1); have hlf := DF.out.lt; clear og bg)))
              all_goals
                go_wp2
                refine bodyPost_ret (v := .tuple #[.agg #[.int .i64 p, .slice r X.length c], .slice rg (prodM p X Y (viM9 p X (mkR (bl X) (vecF V V.length)))).length cg]) (by simp [results, Tryz.results35, go_sem, q0, q1]) rfl (DX.out.fin hX7.out (by rw [prodM_len]; omega) HOG.out (Nat.le_refl _) hlf)
            · have hk1 : (K == 0) = false := by simpa using hk0
              clear hK hk0
              go_wp2
              refine bodyPost_ret (v := .tuple #[.agg #[.int .i64 p, .slice r X.length c], .slice r1 Y.length c1]) (by simp [results, Tryz.results35, go_sem, q0, q1]) rfl (DE.out.fin hX7.out HY.out HYE.out zd2 hlt7)
        · refine bodyPost_ret (v := .tuple #[.agg #[.int .i64 p, .slice r X.length c], .slice r1 Y.length c1]) (by simp [results, Tryz.results35, go_sem, q0, q1]) rfl (D9'.out.fin hX7.out HY.out HY9.out z9 hlt7)
      · have h4' : ¬ ((X.length : Int) ≤ 4) := by omega
        clear h4 hsm
        go_wp2_with (first | (go_at_call 36; ((with_reducible refine (l04Is_any p r X c lo g r1 Y c1 w4.heap.size w7.heap.size w7 D7.out.row D7.out.tl hXs HY7.out (Nat.le_refl _) hY65).mono ?_); rintro e w8 ⟨rfl, b_⟩; rw [HM.out]; have D8 := Lib.hid (D7.out.below b_); have HY8 := Lib.hid (HY7.out.below b_ (Nat.le_refl _)); have z8 := b_.size; clear b_ t0 t1; have t0 := D8.out.tc.1; have t1 := D8.out.tc.2.1; have q0 := D8.out.rc.1; have q1 := D8.out.rc.2.1; have q2 := D8.out.rc.2.2.1; have q3 := D8.out.rc.2.2.2)))
        refine bodyPost_ret (v := .tuple #[.agg #[.int .i64 p, .slice r X.length c], .slice r1 Y.length c1]) (by simp [results, Tryz.results35, go_sem, q0, q1]) rfl (D8.out.fin hX7.out HY.out HY8.out z8 hlt7)

end Go.Proofs.YtijklpcelbnnjaaGreat
