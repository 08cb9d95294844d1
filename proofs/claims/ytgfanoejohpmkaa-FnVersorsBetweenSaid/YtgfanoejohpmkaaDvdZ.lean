/-
  The draw of two vectors with the same norm: contract.
  Conditions: the code is nil or a row of known bytes, of at most 4096.
-/
import Derived.Test.YtgfanoejohpmkaaQb8
import Derived.Test.YtgfanoejohpmkaaQb9
import Derived.Test.YtgfanoejohpmkaaQb34
import Derived.Test.YtgfanoejohpmkaaQb39
import Derived.Test.YtgfanoejohpmkaaQb41
import Derived.Test.YtgfanoejohpmkaaQb11
import Derived.Test.YtgfanoejohpmkaaQb10
import Derived.Test.YtgfanoejohpmkaaQb21
import Derived.Deep.RegionHeld3
import Derived.Deep.DeepCutAuto
namespace Go.Proofs.Ytgfanoejohpmkaa
open Go.RowKit
set_option linter.unusedVariables false

/-- What a draw carries: the source, the box of the first result, the box of the space, its squares. -/
structure DB (b : Nat) (a : Option Addr) (len cap : Nat) (zs : List Int) (g : Nat) (p : Int) (r : Option Addr) (X : List Int) (c lo : Nat) (w : World) (W : World) : Prop where
  src : Src W b a len cap zs
  R : L2 W w.heap.size (.int .i64 0) (.slice none 0 0)
  G : L2 W g (.int .i64 p) (.slice r X.length c)
  row : RowIn lo g W r X
  on : Below w.heap.size w W
  hR : w.heap.size < b
  hb : b < lo
  hlo : lo ≤ g
  hg : g < W.heap.size
theorem DB.bg {b : Nat} {a : Option Addr} {len cap : Nat} {zs : List Int} {g : Nat} {p : Int} {r : Option Addr} {X : List Int} {c lo : Nat} {w : World} {W : World} (h : DB b a len cap zs g p r X c lo w W) : b < g := Nat.lt_of_lt_of_le h.hb h.hlo
theorem DB.rW {b : Nat} {a : Option Addr} {len cap : Nat} {zs : List Int} {g : Nat} {p : Int} {r : Option Addr} {X : List Int} {c lo : Nat} {w : World} {W : World} (h : DB b a len cap zs g p r X c lo w W) : w.heap.size < W.heap.size := Nat.lt_trans (Nat.lt_trans h.hR h.bg) h.hg
theorem DB.only {b : Nat} {a : Option Addr} {len cap : Nat} {zs : List Int} {g : Nat} {p : Int} {r : Option Addr} {X : List Int} {c lo : Nat} {w : World} {W W' : World} (h : DB b a len cap zs g p r X c lo w W) (ho : Only b W W') (hs : Src W' b a len cap zs) : DB b a len cap zs g p r X c lo w W' :=
  { h with src := hs, R := h.R.only ho h.rW (Nat.ne_of_lt h.hR), G := h.G.only ho h.hg (Nat.ne_of_gt h.bg), row := h.row.only ho (.inl h.hb) (Nat.le_of_lt h.hg), on := h.on.trans (ho.below (Nat.le_of_lt h.hR) (Nat.le_of_lt h.rW)), hg := Nat.lt_of_lt_of_le h.hg ho.size }
theorem DB.below {b : Nat} {a : Option Addr} {len cap : Nat} {zs : List Int} {g : Nat} {p : Int} {r : Option Addr} {X : List Int} {c lo : Nat} {w : World} {W W' : World} (h : DB b a len cap zs g p r X c lo w W) (hb : Below W.heap.size W W') : DB b a len cap zs g p r X c lo w W' := h.only (Only.of_below hb) (h.src.step hb)
theorem rowB_only {B b : Nat} {W W' : World} {r : Option Addr} {Y : List Int} (h : RowIn B W.heap.size W r Y) (ho : Only b W W') (hb : b < B) : RowIn B W'.heap.size W' r Y :=
  (h.only ho (.inl hb) (Nat.le_refl _)).mono (Nat.le_refl _) ho.size
theorem rowB_below {B : Nat} {W W' : World} {r : Option Addr} {Y : List Int} (h : RowIn B W.heap.size W r Y) (hb : Below W.heap.size W W') : RowIn B W'.heap.size W' r Y :=
  (h.below hb (Nat.le_refl _)).mono (Nat.le_refl _) hb.size
theorem MatIn.only {lo tp k : Nat} {w w' : World} {r : Option Addr} {m : List (List Int)} (h : MatIn lo tp w r m) (ho : Only k w w') (hk : k < lo ∨ tp ≤ k) (ht : tp ≤ w.heap.size) : MatIn lo tp w' r m :=
  h.same (fun j j0 j1 => ho.block j (Nat.lt_of_lt_of_le j1 ht) (by omega))
theorem matB_only {B b : Nat} {W W' : World} {r : Option Addr} {m : List (List Int)} (h : MatIn B W.heap.size W r m) (ho : Only b W W') (hb : b < B) : MatIn B W'.heap.size W' r m :=
  (h.only ho (.inl hb) (Nat.le_refl _)).mono (Nat.le_refl _) ho.size
theorem matB_below {B : Nat} {W W' : World} {r : Option Addr} {m : List (List Int)} (h : MatIn B W.heap.size W r m) (hb : Below W.heap.size W W') : MatIn B W'.heap.size W' r m :=
  (h.below hb (Nat.le_refl _)).mono (Nat.le_refl _) hb.size
/-- The result, written into its box. -/
theorem DB.fin {b : Nat} {a : Option Addr} {len cap : Nat} {zs : List Int} {g : Nat} {p : Int} {r : Option Addr} {X : List Int} {c lo : Nat} {w : World} {W : World} (h : DB b a len cap zs g p r X c lo w W) (x y : Value) : Below w.heap.size w ((W.setCell ⟨w.heap.size, 0, none⟩ x).setCell ⟨w.heap.size, 1, none⟩ y) := (h.on.setCell (Nat.le_refl _) _).setCell (Nat.le_refl _) _
theorem row_fin {w W : World} {r : Option Addr} {Y : List Int} {B tp : Nat} (h : RowIn B tp W r Y) (ht : tp ≤ W.heap.size) (hB : w.heap.size < B) (x y : Value) : RowIn w.heap.size ((W.setCell ⟨w.heap.size, 0, none⟩ x).setCell ⟨w.heap.size, 1, none⟩ y).heap.size ((W.setCell ⟨w.heap.size, 0, none⟩ x).setCell ⟨w.heap.size, 1, none⟩ y) r Y :=
  ((h.far _ (.inl hB)).far _ (.inl hB)).mono (Nat.le_of_lt hB) (by simp [World.setCell]; exact ht)
theorem mat_far {lo tp k i : Nat} {w : World} {r : Option Addr} {m : List (List Int)} (h : MatIn lo tp w r m) (x : Value) (hk : k < lo ∨ tp ≤ k) : MatIn lo tp (w.setCell ⟨k, i, none⟩ x) r m :=
  h.same (fun j j0 j1 => Below.heap_setCell _ _ _ _ (by show j ≠ k; omega))
theorem mat_fin {w W : World} {r : Option Addr} {m : List (List Int)} {B tp : Nat} (h : MatIn B tp W r m) (ht : tp ≤ W.heap.size) (hB : w.heap.size < B) (x y : Value) : MatIn w.heap.size ((W.setCell ⟨w.heap.size, 0, none⟩ x).setCell ⟨w.heap.size, 1, none⟩ y).heap.size ((W.setCell ⟨w.heap.size, 0, none⟩ x).setCell ⟨w.heap.size, 1, none⟩ y) r m :=
  ((mat_far h _ (.inl hB)).mono (Nat.le_refl _) (Nat.le_refl _) |> fun h => (mat_far h _ (.inl hB)).mono (Nat.le_of_lt hB) (by simp [World.setCell]; exact ht))

theorem units_at (b : Nat) (a : Option Addr) (len cap : Nat) (zs : List Int) (pS : Int) (aS : Option Addr) (S : List Int) (cS loS tpS : Nat) (most : Nat) (K : Int) (hK : K = (most : Int)) (w : World) (hs : Src w b a len cap zs) (hi : isSp pS S = true) (hS : RowIn loS tpS w aS S) (tS : tpS ≤ w.heap.size) (hbS : b < loS ∨ tpS ≤ b) (hm : most ≤ 10) :
    Calls Try.prog 20 #[.pointer (some ⟨b, 0, none⟩), .agg #[.int .i64 pS, .slice aS S.length cS], .int .i64 K] w (DrawnL pS S b a len cap zs w) := by
  subst hK; exact units_any b a len cap zs pS aS S cS loS tpS most w hs hi hS tS hbS hm

set_option maxRecDepth 100000 in
set_option maxHeartbeats 6400000 in
theorem drawVB_any (a : Option Addr) (len cap : Nat) (zs : List Int) (w : World) (hb : Code8 w a len zs) (hl : len ≤ 4096) :
    Calls Try.prog 5 #[.slice a len cap] w (DrawnP w) := by
  have HB := Lib.hid hb
  clear hb
  go_enter Try.func5, Try.ntmps5
  go_upto_region 1 with fail
  obtain ⟨wa, hwa⟩ : ∃ z, z = w.alloc (.cells #[.int .i64 0, .slice none 0 0] 26) := ⟨_, rfl⟩
  have HR1 : Hid (L2 wa w.heap.size (.int .i64 0) (.slice none 0 0)) := by show L2 _ _ _ _; rw [hwa]; exact L2.new _ _ _ _
  have HC1 : Hid (Code8 wa a len zs) := by show Code8 _ _ _ _; rw [hwa]; exact HB.out.below (below_alloc w _)
  have HB1 : Hid (Below w.heap.size w wa) := by show Below _ _ _; rw [hwa]; exact below_alloc w _
  have hRa : w.heap.size < wa.heap.size := by rw [hwa]; simp
  rw [← hwa]
  clear hwa
  go_upto_region 3 with (first
    | (go_at_call 13; (with_reducible refine (from_any a len cap zs wa HC1.out hl).mono ?_); rintro e w1 ⟨rfl, b1, s1⟩; have HS1 := Lib.hid s1; have HB2 := Lib.hid (below_step HB1.out (Nat.le_of_lt hRa) b1); have HR2 := Lib.hid (HR1.out.below b1 hRa); have hR1 := Nat.lt_of_lt_of_le hRa b1.size; clear b1 s1)
    | (go_at_call 14; (with_reducible refine (space7_any wa.heap.size a len cap zs w1 HS1.out).mono ?_); rintro e w2 ⟨p, r, X, c, rfl, hX, o2, on2, s2⟩; have HX := Lib.hid hX; have HS2 := Lib.hid s2; have HX2 := Lib.hid o2; have HB3 := Lib.hid (HB2.out.trans (on2.below (Nat.le_of_lt hRa) (Nat.le_of_lt hR1))); have HR3 := Lib.hid (HR2.out.only on2 hR1 (Nat.ne_of_lt hRa)); have hR2 := Nat.lt_of_lt_of_le hR1 on2.size; have hb1 := HS1.out.lt; have zy2 := on2.size; clear on2 s2 o2 hX))
  obtain ⟨wg, hwg⟩ : ∃ z, z = w2.alloc (.cells #[.int .i64 p, .slice r X.length c] 26) := ⟨_, rfl⟩
  obtain ⟨g, hg⟩ : ∃ z, z = w2.heap.size := ⟨_, rfl⟩
  obtain ⟨b, hbb⟩ : ∃ z, z = wa.heap.size := ⟨_, rfl⟩
  obtain ⟨lo, hlo⟩ : ∃ z, z = w1.heap.size := ⟨_, rfl⟩
  have D0 : Hid (DB b a len cap zs g p r X c lo w wg) := by
    show DB b a len cap zs g p r X c lo w wg
    have hbg : Below w2.heap.size w2 wg := by rw [hwg]; exact below_alloc w2 _
    exact { src := by rw [hbb]; exact HS2.out.step hbg, R := HR3.out.below hbg hR2, G := by rw [hwg, hg]; exact L2.new _ _ _ _, row := by rw [hlo, hg]; exact HX2.out.below hbg (Nat.le_refl _), on := HB3.out.trans (hbg.mono (Nat.le_of_lt hR2)), hR := by rw [hbb]; exact hRa, hb := by rw [hbb, hlo]; exact hb1, hlo := by rw [hlo, hg]; exact zy2, hg := by rw [hwg, hg]; simp }
  have hXs : X.length ≤ 7 := HX.out
  rw [← hwg, ← hg, ← hbb]
  clear hwg hg hbb hlo HR3 HS2 HB3 HX2 hb1 zy2 HR1 HR2 HC1 HB1 HB2 HS1 hRa hR1 hR2 HX
  have k0 := D0.out.G.1
  have k1 := D0.out.G.2.1
  go_upto_region 4 with (first | (go_at_call 15; ((with_reducible refine (drawVector_any b a len cap zs p r X c wg D0.out.src (by omega)).mono ?_); rintro e w91 ⟨rU, cU, U, rfl, hU, o_, on_, s_⟩; have D1 := Lib.hid (D0.out.only on_ s_); have LU := Lib.hid hU; have RU_1 := Lib.hid (o_.mono (Nat.le_of_lt D0.out.hg) (Nat.le_refl _)); clear o_ hU; clear on_ s_; (try clear k0 k1); have k0 := D1.out.G.1; have k1 := D1.out.G.2.1)))
  clear D0
  cases hi : isSp p X with
  | false =>
    have HI := Lib.hid hi
    clear hi
    go_wp2_with (first | (go_at_call 16; ((with_reducible refine (l03Is_any p r X c lo g w91 D1.out.row (Nat.le_of_lt D1.out.hg) (by omega)).mono ?_); rintro e w92 ⟨rfl, b_⟩; rw [HI.out]; have D2 := Lib.hid (D1.out.below b_); have RU_2 := Lib.hid (rowB_below RU_1.out b_); clear b_; (try clear k0 k1); have k0 := D2.out.G.1; have k1 := D2.out.G.2.1)))
    have D3 : Hid (DB b a len cap zs g p r X c lo w w92.drew) := D2.out.below (below_drew w92)
    have RU_3 := Lib.hid (rowB_below RU_2.out (below_drew w92))
    have SS3 : Hid (w92.drew.cell? ⟨g, 0, none⟩ = some (.int .i64 p) ∧ w92.drew.cell? ⟨g, 1, none⟩ = some (.slice r X.length c)) := ⟨D3.out.G.1, D3.out.G.2.1⟩
    go_region_held3 (fun w' => w'.cell? ⟨g, 0, none⟩ = some (.int .i64 p) ∧ w'.cell? ⟨g, 1, none⟩ = some (.slice r X.length c)) (first | exact SS3.out | exact SS4.out | exact SS9.out | go_keep) (first | (go_at_call 15; ((with_reducible refine (drawVector_any b a len cap zs p r X c w92.drew D3.out.src (by omega)).mono ?_); rintro e w94 ⟨rZ, cZ, Z, rfl, hZ, o_, on_, s_⟩; have D4 := Lib.hid (D3.out.only on_ s_); have RU_4 := Lib.hid (rowB_only RU_3.out on_ D3.out.bg); have LZ := Lib.hid hZ; have RZ_4 := Lib.hid (o_.mono (Nat.le_of_lt D3.out.hg) (Nat.le_refl _)); clear o_ hZ; clear on_ s_; (try clear k0 k1); have k0 := D4.out.G.1; have k1 := D4.out.G.2.1; have SS4 := Lib.hid (And.intro D4.out.G.1 D4.out.G.2.1); have r0 := D4.out.R.1; have r1' := D4.out.R.2.1; have r2' := D4.out.R.2.2.1; have r3 := D4.out.R.2.2.2; have HGF := Lib.hid ((D4.out.G.far (k := w.heap.size) (i := 0) (.int .i64 p) (Nat.ne_of_gt (Nat.lt_trans D4.out.hR D4.out.bg))).far (k := w.heap.size) (i := 1) (.slice r X.length c) (Nat.ne_of_gt (Nat.lt_trans D4.out.hR D4.out.bg))); have SS9 := Lib.hid (And.intro HGF.out.1 HGF.out.2.1))))
    all_goals
      go_wp2
      refine bodyPost_ret (v := .tuple #[.agg #[.int .i64 p, .slice r X.length c], .slice rU U.length cU, .slice rZ Z.length cZ]) (by simp [results, Try.results5, go_sem, r0, r1']) rfl ⟨p, r, X, c, rU, U, cU, rZ, Z, cZ, rfl, hXs, by have := LU.out; omega, by have := LZ.out; omega, row_fin D4.out.row (Nat.le_of_lt D4.out.hg) (Nat.lt_trans D4.out.hR D4.out.hb) _ _, row_fin RU_4.out (Nat.le_refl _) (Nat.lt_trans D4.out.hR D4.out.bg) _ _, row_fin RZ_4.out (Nat.le_refl _) (Nat.lt_trans D4.out.hR D4.out.bg) _ _, D4.out.fin _ _⟩
  | true =>
    have HI := Lib.hid hi
    clear hi
    by_cases hd : discN p X = 0
    · have HDC := Lib.hid hd
      clear hd
      go_wp2_with (first | (go_at_call 16; ((with_reducible refine (l03Is_any p r X c lo g w91 D1.out.row (Nat.le_of_lt D1.out.hg) (by omega)).mono ?_); rintro e w92 ⟨rfl, b_⟩; rw [HI.out]; have D2 := Lib.hid (D1.out.below b_); have RU_2 := Lib.hid (rowB_below RU_1.out b_); clear b_; (try clear k0 k1); have k0 := D2.out.G.1; have k1 := D2.out.G.2.1)) | (go_at_call 17; ((with_reducible refine (l03Disc_any p r X c lo g w92 D2.out.row (Nat.le_of_lt D2.out.hg) HI.out).mono ?_); rintro e w93 ⟨rfl, b_⟩; rw [HDC.out]; have D3 := Lib.hid (D2.out.below b_); have RU_3 := Lib.hid (rowB_below RU_2.out b_); clear b_; (try clear k0 k1); have k0 := D3.out.G.1; have k1 := D3.out.G.2.1)))
      have D4 : Hid (DB b a len cap zs g p r X c lo w w93.drew) := D3.out.below (below_drew w93)
      have RU_4 := Lib.hid (rowB_below RU_3.out (below_drew w93))
      have SS4 : Hid (w93.drew.cell? ⟨g, 0, none⟩ = some (.int .i64 p) ∧ w93.drew.cell? ⟨g, 1, none⟩ = some (.slice r X.length c)) := ⟨D4.out.G.1, D4.out.G.2.1⟩
      go_region_held3 (fun w' => w'.cell? ⟨g, 0, none⟩ = some (.int .i64 p) ∧ w'.cell? ⟨g, 1, none⟩ = some (.slice r X.length c)) (first | exact SS4.out | exact SS5.out | exact SS9.out | go_keep) (first | (go_at_call 15; ((with_reducible refine (drawVector_any b a len cap zs p r X c w93.drew D4.out.src (by omega)).mono ?_); rintro e w95 ⟨rZ, cZ, Z, rfl, hZ, o_, on_, s_⟩; have D5 := Lib.hid (D4.out.only on_ s_); have RU_5 := Lib.hid (rowB_only RU_4.out on_ D4.out.bg); have LZ := Lib.hid hZ; have RZ_5 := Lib.hid (o_.mono (Nat.le_of_lt D4.out.hg) (Nat.le_refl _)); clear o_ hZ; clear on_ s_; (try clear k0 k1); have k0 := D5.out.G.1; have k1 := D5.out.G.2.1; have SS5 := Lib.hid (And.intro D5.out.G.1 D5.out.G.2.1); have r0 := D5.out.R.1; have r1' := D5.out.R.2.1; have r2' := D5.out.R.2.2.1; have r3 := D5.out.R.2.2.2; have HGF := Lib.hid ((D5.out.G.far (k := w.heap.size) (i := 0) (.int .i64 p) (Nat.ne_of_gt (Nat.lt_trans D5.out.hR D5.out.bg))).far (k := w.heap.size) (i := 1) (.slice r X.length c) (Nat.ne_of_gt (Nat.lt_trans D5.out.hR D5.out.bg))); have SS9 := Lib.hid (And.intro HGF.out.1 HGF.out.2.1))))
      all_goals
        go_wp2
        refine bodyPost_ret (v := .tuple #[.agg #[.int .i64 p, .slice r X.length c], .slice rU U.length cU, .slice rZ Z.length cZ]) (by simp [results, Try.results5, go_sem, r0, r1']) rfl ⟨p, r, X, c, rU, U, cU, rZ, Z, cZ, rfl, hXs, by have := LU.out; omega, by have := LZ.out; omega, row_fin D5.out.row (Nat.le_of_lt D5.out.hg) (Nat.lt_trans D5.out.hR D5.out.hb) _ _, row_fin RU_5.out (Nat.le_refl _) (Nat.lt_trans D5.out.hR D5.out.bg) _ _, row_fin RZ_5.out (Nat.le_refl _) (Nat.lt_trans D5.out.hR D5.out.bg) _ _, D5.out.fin _ _⟩
    · obtain ⟨d, hdd⟩ : ∃ d, d = discN p X := ⟨_, rfl⟩
      have HDC : Hid (discN p X = d) := hdd.symm
      have hd0 : (d == 0) = false := by rw [hdd]; exact beq_eq_false_iff_ne.2 hd
      clear hd hdd
      cases hv : isVec p X.length U with
      | false =>
        have HV := Lib.hid hv
        clear hv
        go_wp2_with (first | (go_at_call 16; ((with_reducible refine (l03Is_any p r X c lo g w91 D1.out.row (Nat.le_of_lt D1.out.hg) (by omega)).mono ?_); rintro e w92 ⟨rfl, b_⟩; rw [HI.out]; have D2 := Lib.hid (D1.out.below b_); have RU_2 := Lib.hid (rowB_below RU_1.out b_); clear b_; (try clear k0 k1); have k0 := D2.out.G.1; have k1 := D2.out.G.2.1)) | (go_at_call 17; ((with_reducible refine (l03Disc_any p r X c lo g w92 D2.out.row (Nat.le_of_lt D2.out.hg) HI.out).mono ?_); rintro e w93 ⟨rfl, b_⟩; rw [HDC.out]; have D3 := Lib.hid (D2.out.below b_); have RU_3 := Lib.hid (rowB_below RU_2.out b_); clear b_; (try clear k0 k1); have k0 := D3.out.G.1; have k1 := D3.out.G.2.1)) | (go_at_call 18; ((with_reducible refine (l03Vector_any p r X c rU U cU g w93.heap.size w93 (isSp_iff.1 HI.out).prime (by omega) RU_3.out (Nat.le_refl _) (by have := LU.out; omega)).mono ?_); rintro e w94 ⟨rfl, b_⟩; rw [HV.out]; have D4 := Lib.hid (D3.out.below b_); have RU_4 := Lib.hid (rowB_below RU_3.out b_); clear b_; (try clear k0 k1); have k0 := D4.out.G.1; have k1 := D4.out.G.2.1)))
        have D5 : Hid (DB b a len cap zs g p r X c lo w w94.drew) := D4.out.below (below_drew w94)
        have RU_5 := Lib.hid (rowB_below RU_4.out (below_drew w94))
        have SS5 : Hid (w94.drew.cell? ⟨g, 0, none⟩ = some (.int .i64 p) ∧ w94.drew.cell? ⟨g, 1, none⟩ = some (.slice r X.length c)) := ⟨D5.out.G.1, D5.out.G.2.1⟩
        go_region_held3 (fun w' => w'.cell? ⟨g, 0, none⟩ = some (.int .i64 p) ∧ w'.cell? ⟨g, 1, none⟩ = some (.slice r X.length c)) (first | exact SS5.out | exact SS6.out | exact SS9.out | go_keep) (first | (go_at_call 15; ((with_reducible refine (drawVector_any b a len cap zs p r X c w94.drew D5.out.src (by omega)).mono ?_); rintro e w96 ⟨rZ, cZ, Z, rfl, hZ, o_, on_, s_⟩; have D6 := Lib.hid (D5.out.only on_ s_); have RU_6 := Lib.hid (rowB_only RU_5.out on_ D5.out.bg); have LZ := Lib.hid hZ; have RZ_6 := Lib.hid (o_.mono (Nat.le_of_lt D5.out.hg) (Nat.le_refl _)); clear o_ hZ; clear on_ s_; (try clear k0 k1); have k0 := D6.out.G.1; have k1 := D6.out.G.2.1; have SS6 := Lib.hid (And.intro D6.out.G.1 D6.out.G.2.1); have r0 := D6.out.R.1; have r1' := D6.out.R.2.1; have r2' := D6.out.R.2.2.1; have r3 := D6.out.R.2.2.2; have HGF := Lib.hid ((D6.out.G.far (k := w.heap.size) (i := 0) (.int .i64 p) (Nat.ne_of_gt (Nat.lt_trans D6.out.hR D6.out.bg))).far (k := w.heap.size) (i := 1) (.slice r X.length c) (Nat.ne_of_gt (Nat.lt_trans D6.out.hR D6.out.bg))); have SS9 := Lib.hid (And.intro HGF.out.1 HGF.out.2.1))))
        all_goals
          go_wp2
          refine bodyPost_ret (v := .tuple #[.agg #[.int .i64 p, .slice r X.length c], .slice rU U.length cU, .slice rZ Z.length cZ]) (by simp [results, Try.results5, go_sem, r0, r1']) rfl ⟨p, r, X, c, rU, U, cU, rZ, Z, cZ, rfl, hXs, by have := LU.out; omega, by have := LZ.out; omega, row_fin D6.out.row (Nat.le_of_lt D6.out.hg) (Nat.lt_trans D6.out.hR D6.out.hb) _ _, row_fin RU_6.out (Nat.le_refl _) (Nat.lt_trans D6.out.hR D6.out.bg) _ _, row_fin RZ_6.out (Nat.le_refl _) (Nat.lt_trans D6.out.hR D6.out.bg) _ _, D6.out.fin _ _⟩
      | true =>
        have HV := Lib.hid hv
        clear hv
        go_wp2_with (first | (go_at_call 16; ((with_reducible refine (l03Is_any p r X c lo g w91 D1.out.row (Nat.le_of_lt D1.out.hg) (by omega)).mono ?_); rintro e w92 ⟨rfl, b_⟩; rw [HI.out]; have D2 := Lib.hid (D1.out.below b_); have RU_2 := Lib.hid (rowB_below RU_1.out b_); clear b_; (try clear k0 k1); have k0 := D2.out.G.1; have k1 := D2.out.G.2.1)) | (go_at_call 17; ((with_reducible refine (l03Disc_any p r X c lo g w92 D2.out.row (Nat.le_of_lt D2.out.hg) HI.out).mono ?_); rintro e w93 ⟨rfl, b_⟩; rw [HDC.out]; have D3 := Lib.hid (D2.out.below b_); have RU_3 := Lib.hid (rowB_below RU_2.out b_); clear b_; (try clear k0 k1); have k0 := D3.out.G.1; have k1 := D3.out.G.2.1)) | (go_at_call 18; ((with_reducible refine (l03Vector_any p r X c rU U cU g w93.heap.size w93 (isSp_iff.1 HI.out).prime (by omega) RU_3.out (Nat.le_refl _) (by have := LU.out; omega)).mono ?_); rintro e w94 ⟨rfl, b_⟩; rw [HV.out]; have D4 := Lib.hid (D3.out.below b_); have RU_4 := Lib.hid (rowB_below RU_3.out b_); clear b_; (try clear k0 k1); have k0 := D4.out.G.1; have k1 := D4.out.G.2.1)) | (go_at_call 19; ((with_reducible refine (next_any 8 b a len cap zs w94 D4.out.src).mono ?_); rintro e w95 ⟨x8, rfl, _, on_, s_⟩; have D5 := Lib.hid (D4.out.only on_ s_); have RU_5 := Lib.hid (rowB_only RU_4.out on_ D4.out.bg); clear on_ s_; (try clear k0 k1); have k0 := D5.out.G.1; have k1 := D5.out.G.2.1)) | (go_at_call 20; ((with_reducible refine (units_at b a len cap zs p r X c lo g 3 3 rfl w95 D5.out.src HI.out D5.out.row (Nat.le_of_lt D5.out.hg) (.inl D5.out.hb) (by decide)).mono ?_); rintro e w96 ⟨rl, cl, m, rfl, hm16, hall, o_, on_, s_⟩; have D6 := Lib.hid (D5.out.only on_ s_); have RU_6 := Lib.hid (rowB_only RU_5.out on_ D5.out.bg); have HALL := Lib.hid hall; have ML_6 := Lib.hid (o_.mono (Nat.le_of_lt D5.out.hg) (Nat.le_refl _)); clear o_ hall; clear on_ s_; (try clear k0 k1); have k0 := D6.out.G.1; have k1 := D6.out.G.2.1)))
        · have D6 : Hid (DB b a len cap zs g p r X c lo w w95.drew) := D5.out.below (below_drew w95)
          have RU_6 := Lib.hid (rowB_below RU_5.out (below_drew w95))
          have SS6 : Hid (w95.drew.cell? ⟨g, 0, none⟩ = some (.int .i64 p) ∧ w95.drew.cell? ⟨g, 1, none⟩ = some (.slice r X.length c)) := ⟨D6.out.G.1, D6.out.G.2.1⟩
          go_region_held3 (fun w' => w'.cell? ⟨g, 0, none⟩ = some (.int .i64 p) ∧ w'.cell? ⟨g, 1, none⟩ = some (.slice r X.length c)) (first | exact SS6.out | exact SS7.out | exact SS9.out | go_keep) (first | (go_at_call 15; ((with_reducible refine (drawVector_any b a len cap zs p r X c w95.drew D6.out.src (by omega)).mono ?_); rintro e w97 ⟨rZ, cZ, Z, rfl, hZ, o_, on_, s_⟩; have D7 := Lib.hid (D6.out.only on_ s_); have RU_7 := Lib.hid (rowB_only RU_6.out on_ D6.out.bg); have LZ := Lib.hid hZ; have RZ_7 := Lib.hid (o_.mono (Nat.le_of_lt D6.out.hg) (Nat.le_refl _)); clear o_ hZ; clear on_ s_; (try clear k0 k1); have k0 := D7.out.G.1; have k1 := D7.out.G.2.1; have SS7 := Lib.hid (And.intro D7.out.G.1 D7.out.G.2.1); have r0 := D7.out.R.1; have r1' := D7.out.R.2.1; have r2' := D7.out.R.2.2.1; have r3 := D7.out.R.2.2.2; have HGF := Lib.hid ((D7.out.G.far (k := w.heap.size) (i := 0) (.int .i64 p) (Nat.ne_of_gt (Nat.lt_trans D7.out.hR D7.out.bg))).far (k := w.heap.size) (i := 1) (.slice r X.length c) (Nat.ne_of_gt (Nat.lt_trans D7.out.hR D7.out.bg))); have SS9 := Lib.hid (And.intro HGF.out.1 HGF.out.2.1))))
          all_goals
            go_wp2
            refine bodyPost_ret (v := .tuple #[.agg #[.int .i64 p, .slice r X.length c], .slice rU U.length cU, .slice rZ Z.length cZ]) (by simp [results, Try.results5, go_sem, r0, r1']) rfl ⟨p, r, X, c, rU, U, cU, rZ, Z, cZ, rfl, hXs, by have := LU.out; omega, by have := LZ.out; omega, row_fin D7.out.row (Nat.le_of_lt D7.out.hg) (Nat.lt_trans D7.out.hR D7.out.hb) _ _, row_fin RU_7.out (Nat.le_refl _) (Nat.lt_trans D7.out.hR D7.out.bg) _ _, row_fin RZ_7.out (Nat.le_refl _) (Nat.lt_trans D7.out.hR D7.out.bg) _ _, D7.out.fin _ _⟩
        · go_loopw [8, 10] (fun u t wr => ∃ (k : Nat) (rv : Option Addr) (cv : Nat) (V : List Int), k ≤ m.length ∧ u = .slice rv V.length cv ∧ t = .int .i64 k ∧ isVec p X.length V = true ∧ DB b a len cap zs g p r X c lo w wr ∧ RowIn g wr.heap.size wr rU U ∧ RowIn g wr.heap.size wr rv V ∧ MatIn g wr.heap.size wr rl m) (fun _ t _ => m.length - (intOf t).toNat)
          case atStart => exact ⟨0, rU, cU, U, Nat.zero_le _, rfl, rfl, HV.out, D6.out, RU_6.out, RU_6.out, ML_6.out⟩
          case round =>
            obtain ⟨k, rv, cv, V, hk, rfl, rfl, hV, hd, hu, hvr, hml⟩ := hrel
            clear k0 k1
            have HVV := Lib.hid hV
            have DR := Lib.hid hd
            have RU_r := Lib.hid hu
            have RV_r := Lib.hid hvr
            have ML_r := Lib.hid hml
            clear hV hd hu hvr hml
            have k0 := DR.out.G.1
            have k1 := DR.out.G.2.1
            by_cases hlt : k < m.length
            · obtain ⟨b9, o9, rq, cq, ha9, hb8, hb9, hr9, hrow⟩ := ML_r.out.row hlt
              subst ha9
              have hi1 : (k : Int) < (m.length : Int) := by omega
              have HQ := Lib.hid (HALL.out k hlt)
              have HQR : Hid (RowIn g wr.drew.heap.size wr.drew rq (rw' m k)) := hrow.below (below_drew wr) (Nat.le_refl _)
              have hs1 : Hid (wr.drew.cell? ⟨g, 0, none⟩ = some (.int .i64 p) ∧ wr.drew.cell? ⟨g, 1, none⟩ = some (.slice r X.length c) ∧ wr.drew.cell? ⟨b9, o9 + k, none⟩ = some (.slice rq (rw' m k).length cq)) := ⟨k0, k1, hr9⟩
              have DE : Hid (DB b a len cap zs g p r X c lo w wr.drew) := DR.out.below (below_drew wr)
              have RU_e := Lib.hid (rowB_below RU_r.out (below_drew wr))
              have RV_e := Lib.hid (rowB_below RV_r.out (below_drew wr))
              have ML_e := Lib.hid (matB_below ML_r.out (below_drew wr))
              have hb9' : b9 < wr.drew.heap.size := hb9
              clear hrow RU_r RV_r ML_r DR k0 k1
              go_wp2
              go_region_held3 (fun w' => w'.cell? ⟨g, 0, none⟩ = some (.int .i64 p) ∧ w'.cell? ⟨g, 1, none⟩ = some (.slice r X.length c) ∧ w'.cell? ⟨b9, o9 + k, none⟩ = some (.slice rq (rw' m k).length cq)) (first | exact hs1.out | exact SSf.out | go_keep) (first | (go_at_call 21; ((with_reducible refine (l07Reflect_any p r X c lo g rq (rw' m k) cq g wr.drew.heap.size rv V cv g wr.drew.heap.size wr.drew HI.out DE.out.row (Nat.le_of_lt DE.out.hg) HQR.out (Nat.le_refl _) HQ.out.1 RV_e.out (Nat.le_refl _) HVV.out HQ.out.2).mono ?_); rintro e wf ⟨rf, cf, rfl, o_, b_⟩; have DF := Lib.hid (DE.out.below b_); have RU_f := Lib.hid (rowB_below RU_e.out b_); have ML_f := Lib.hid (matB_below ML_e.out b_); have RV_f := Lib.hid (o_.mono (Nat.le_of_lt DE.out.hg) (Nat.le_refl _)); have SSf := Lib.hid (And.intro DF.out.G.1 (And.intro DF.out.G.2.1 ((b_.cell (p := ⟨b9, o9 + k, none⟩) hb9').trans hs1.out.2.2))); clear o_ b_)))
              go_wp2
              go_roundw
              case rel => exact ⟨k + 1, rf, cf, _, by omega, rfl, by go_num, rfl_vec7 (by have := prm_bd (isSp_iff.1 HI.out).prime; omega) HVV.out, DF.out, RU_f.out, RV_f.out, ML_f.out⟩
              case measure => simp [intOf]; omega
            · have hi1 : ¬ (k : Int) < (m.length : Int) := by omega
              have r0 := DR.out.R.1
              have r1' := DR.out.R.2.1
              have r2' := DR.out.R.2.2.1
              have r3 := DR.out.R.2.2.2
              have hVl : V.length ≤ 8 := by rw [(isVec_iff.1 HVV.out).len]; omega
              go_wp2
              refine bodyPost_ret (v := .tuple #[.agg #[.int .i64 p, .slice r X.length c], .slice rU U.length cU, .slice rv V.length cv]) (by simp [results, Try.results5, go_sem, r0, r1']) rfl ⟨p, r, X, c, rU, U, cU, rv, V, cv, rfl, hXs, by have := LU.out; omega, hVl, row_fin DR.out.row (Nat.le_of_lt DR.out.hg) (Nat.lt_trans DR.out.hR DR.out.hb) _ _, row_fin RU_r.out (Nat.le_refl _) (Nat.lt_trans DR.out.hR DR.out.bg) _ _, row_fin RV_r.out (Nat.le_refl _) (Nat.lt_trans DR.out.hR DR.out.bg) _ _, DR.out.fin _ _⟩

end Go.Proofs.Ytgfanoejohpmkaa
