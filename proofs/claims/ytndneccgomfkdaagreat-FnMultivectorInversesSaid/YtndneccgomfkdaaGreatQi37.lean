/-
  The draws of a space with few squares and a multivector: contracts.
  Conditions: the code is nil or a row of known bytes, of at most 4096.
  Room for rows, and lists of rows one behind the other: contracts of slices.Grow and slices.Concat.
  Conditions: at most 1024 rows.
  The program's rows with others beside them: the walk.
  Conditions: both are rows of rows of known cells, as many.
  SolveMatrix: contracts of the program and of the model.
  Conditions: the arguments are nil or rows of known cells, of at most 1048576 numbers.
-/
import Derived.Test.YtndneccgomfkdaaGreatQi36
import Derived.Test.YtndneccgomfkdaaGreatQi36b
import Derived.Test.YtndneccgomfkdaaGreatQi7
import Derived.Test.YtndneccgomfkdaaGreatQi11
import Derived.Deep.RegionHeld3
import Derived.Deep.DeepCutAuto
import Derived.Test.YtndneccgomfkdaaGreatQi26
import Derived.Lib.AppendZerosOnto
import Derived.Deep.DeepAppendRoom
import Derived.Test.YtndneccgomfkdaaGreatQi20
import Derived.Test.YtndneccgomfkdaaGreatQi29
import Derived.Test.YtndneccgomfkdaaGreatQi31
import Derived.Test.YtndneccgomfkdaaGreatQi4
import Derived.Test.YtndneccgomfkdaaGreatQi5
namespace Go.Proofs.YtndneccgomfkdaaGreat
open Go.RowKit
set_option linter.unusedVariables false

/-- A space and a list are handed back. -/
def DrawnX (w : World) (e : Ending) (w' : World) : Prop :=
  ∃ p r X c r1 Y c1, e = .returned (.tuple #[.agg #[.int .i64 p, .slice r X.length c], .slice r1 Y.length c1]) ∧ X.length ≤ 7 ∧ Y.length ≤ 65 ∧ RowIn w.heap.size w'.heap.size w' r X ∧ RowIn w.heap.size w'.heap.size w' r1 Y ∧ Below w.heap.size w w'
/-- What such a draw carries: the source, the space that was drawn (its box and its squares), the box of the result. -/
structure D9 (b : Nat) (a : Option Addr) (len cap : Nat) (zs : List Int) (g : Nat) (p : Int) (r : Option Addr) (X : List Int) (c lo tp : Nat) (w : World) (W : World) : Prop where
  src : Src W b a len cap zs
  tc : L2 W g (.int .i64 p) (.slice r X.length c)
  rc : L2 W w.heap.size (.int .i64 0) (.slice none 0 0)
  row : RowIn lo tp W r X
  bel : Below w.heap.size w W
  lt : w.heap.size < W.heap.size
  gl : g < W.heap.size
  tl : tp ≤ W.heap.size
  wb : w.heap.size < b
  bg : b < g
  wg : w.heap.size ≠ g
  sd : b < lo ∨ tp ≤ b
  wlo : w.heap.size < lo
theorem D9.only {b : Nat} {a : Option Addr} {len cap : Nat} {zs : List Int} {g : Nat} {p : Int} {r : Option Addr} {X : List Int} {c lo tp : Nat} {w : World} {W W' : World} (h : D9 b a len cap zs g p r X c lo tp w W) (ho : Only b W W') (hs : Src W' b a len cap zs) : D9 b a len cap zs g p r X c lo tp w W' :=
  { h with src := hs, tc := h.tc.only ho h.gl (Nat.ne_of_gt h.bg), rc := h.rc.only ho h.lt (Nat.ne_of_lt h.wb), row := h.row.only ho h.sd h.tl, bel := h.bel.trans (ho.below (Nat.le_of_lt h.wb) (Nat.le_of_lt h.lt)), lt := Nat.lt_of_lt_of_le h.lt ho.size, gl := Nat.lt_of_lt_of_le h.gl ho.size, tl := Nat.le_trans h.tl ho.size }
theorem D9.below {b : Nat} {a : Option Addr} {len cap : Nat} {zs : List Int} {g : Nat} {p : Int} {r : Option Addr} {X : List Int} {c lo tp : Nat} {w : World} {W W' : World} (h : D9 b a len cap zs g p r X c lo tp w W) (hb : Below W.heap.size W W') : D9 b a len cap zs g p r X c lo tp w W' := h.only (Only.of_below hb) (h.src.step hb)
theorem D9.ss {b : Nat} {a : Option Addr} {len cap : Nat} {zs : List Int} {g : Nat} {p : Int} {r : Option Addr} {X : List Int} {c lo tp : Nat} {w : World} {W : World} (h : D9 b a len cap zs g p r X c lo tp w W) : W.cell? ⟨g, 0, none⟩ = some (.int .i64 p) ∧ W.cell? ⟨g, 1, none⟩ = some (.slice r X.length c) := ⟨h.tc.1, h.tc.2.1⟩
/-- Another space is stored. -/
theorem D9.put {b : Nat} {a : Option Addr} {len cap : Nat} {zs : List Int} {g : Nat} {p : Int} {r : Option Addr} {X : List Int} {c lo tp : Nat} {w : World} {W : World} (h : D9 b a len cap zs g p r X c lo tp w W) {p' : Int} {r' : Option Addr} {X' : List Int} {c' lo' tp' : Nat} (hr : RowIn lo' tp' W r' X') (ht : tp' ≤ W.heap.size) (hs : b < lo' ∨ tp' ≤ b) (hg : g < lo' ∨ tp' ≤ g) (hlo : w.heap.size < lo') (hwg : w.heap.size ≤ g) :
    D9 b a len cap zs g p' r' X' c' lo' tp' w ((W.setCell ⟨g, 0, none⟩ (.int .i64 p')).setCell ⟨g, 1, none⟩ (.slice r' X'.length c')) :=
  { src := (h.src.far (Only.set g 0 W _) h.bg).far (Only.set g 1 _ _) h.bg
    tc := (h.tc.put0 _).put1 _
    rc := (h.rc.far _ h.wg).far _ h.wg
    row := (hr.far _ hg).far _ hg
    bel := (h.bel.setCell hwg _).setCell hwg _
    lt := by have := h.lt; simpa [World.setCell] using this
    gl := by have := h.gl; simpa [World.setCell] using this
    tl := by simpa [World.setCell] using ht
    wb := h.wb, bg := h.bg, wg := h.wg, sd := hs, wlo := hlo }
/-- What is left behind the last stores. -/
theorem D9.fin {b : Nat} {a : Option Addr} {len cap : Nat} {zs : List Int} {g : Nat} {p : Int} {r : Option Addr} {X : List Int} {c lo tp : Nat} {w : World} {W : World} (h : D9 b a len cap zs g p r X c lo tp w W) {r1 : Option Addr} {Y : List Int} {c1 lo1 tp1 : Nat} (hX : X.length ≤ 7) (hY : Y.length ≤ 65) (hy : RowIn lo1 tp1 W r1 Y) (t1 : tp1 ≤ W.heap.size) (h1 : w.heap.size < lo1) :
    DrawnX w (.returned (.tuple #[.agg #[.int .i64 p, .slice r X.length c], .slice r1 Y.length c1])) ((W.setCell ⟨w.heap.size, 0, none⟩ (.int .i64 p)).setCell ⟨w.heap.size, 1, none⟩ (.slice r X.length c)) :=
  ⟨p, r, X, c, r1, Y, c1, rfl, hX, hY, ((h.row.far _ (.inl h.wlo)).far _ (.inl h.wlo)).mono (Nat.le_of_lt h.wlo) (by have := h.tl; simpa [World.setCell] using this), ((hy.far _ (.inl h1)).far _ (.inl h1)).mono (Nat.le_of_lt h1) (by simpa [World.setCell] using t1), (h.bel.setCell (Nat.le_refl _) _).setCell (Nat.le_refl _) _⟩
theorem four_in9 {y : Int} (h : y ∈ [2, 3, 3, 4]) : 1 ≤ y ∧ y ≤ 6 := by
  simp at h; omega
set_option maxRecDepth 100000 in
set_option maxHeartbeats 6400000 in
theorem drawIO_any (a : Option Addr) (len cap : Nat) (zs : List Int) (w : World) (hb : Code8 w a len zs) (hl : len ≤ 4096) :
    Calls Tryz.prog 6 #[.slice a len cap] w (DrawnX w) := by
  have HB := Lib.hid hb
  clear hb
  go_enter Tryz.func6, Tryz.ntmps6
  go_upto_region 1 with fail
  obtain ⟨wa, hwa⟩ : ∃ z, z = w.alloc (.cells #[.int .i64 0, .slice none 0 0] 26) := ⟨_, rfl⟩
  have HR1 : Hid (L2 wa w.heap.size (.int .i64 0) (.slice none 0 0)) := by show L2 _ _ _ _; rw [hwa]; exact L2.new _ _ _ _
  have HC1 : Hid (Code8 wa a len zs) := by show Code8 _ _ _ _; rw [hwa]; exact HB.out.below (below_alloc w _)
  have HB1 : Hid (Below w.heap.size w wa) := by show Below _ _ _; rw [hwa]; exact below_alloc w _
  have hRa : w.heap.size < wa.heap.size := by rw [hwa]; simp
  rw [← hwa]
  clear hwa
  go_upto_region 3 with (first
    | (go_at_call 29; (with_reducible refine (from_any a len cap zs wa HC1.out hl).mono ?_); rintro e w1 ⟨rfl, b1, s1⟩; have HS1 := Lib.hid s1; have HB2 := Lib.hid (below_step HB1.out (Nat.le_of_lt hRa) b1); have HR2 := Lib.hid (HR1.out.below b1 hRa); have hR1 := Nat.lt_of_lt_of_le hRa b1.size; have hb1 := s1.lt; clear b1 s1)
    | (go_at_call 31; (refine (pick_in w1.heap.size 4 [2, 3, 3, 4] wa.heap.size a len cap zs _ (HS1.out.alloc _) (rowOf w1 [2, 3, 3, 4] _) rfl (by omega) (by omega) (by simp) (by omega)).mono ?_; rintro e w2 ⟨y, rfl, hy, on2, s2⟩; have hyy := four_in9 hy; have HS2 := Lib.hid s2; have hRb := Nat.lt_of_lt_of_le hR1 (size_alloc w1 (.cells (List.map (Value.int .i64) [2, 3, 3, 4]).toArray 2)); have HB3 := Lib.hid ((HB2.out.alloc (Nat.le_of_lt hR1) (.cells (List.map (Value.int .i64) [2, 3, 3, 4]).toArray 2)).trans (on2.below (Nat.le_of_lt hRa) (Nat.le_of_lt hRb))); have HR3 := Lib.hid ((HR2.out.alloc (.cells (List.map (Value.int .i64) [2, 3, 3, 4]).toArray 2) hR1).only on2 hRb (Nat.ne_of_lt hRa)); have hR2 := Nat.lt_of_lt_of_le hRb on2.size; have hb2 : wa.heap.size < w2.heap.size := (Nat.lt_of_lt_of_le (Nat.lt_of_lt_of_le hb1 (size_alloc w1 _)) on2.size); clear on2 s2 hy))
    | (go_at_call 30; ((with_reducible refine (any_any y wa.heap.size a len cap zs w2 HS2.out hyy.1 hyy.2).mono ?_); rintro e w3 ⟨p, r, X, c, rfl, hX, o3, on3, s3⟩; have HX := Lib.hid hX; have HS3 := Lib.hid s3; have HB4 := Lib.hid (HB3.out.trans (on3.below (Nat.le_of_lt hRa) (Nat.le_of_lt hR2))); have HR4 := Lib.hid (HR3.out.only on3 hR2 (Nat.ne_of_lt hRa)); have HO3 := Lib.hid o3.rowIn; have hR3 := Nat.lt_of_lt_of_le hR2 on3.size; have zy3 := on3.size; clear on3 s3 hX o3)))
  obtain ⟨wg, hwg⟩ : ∃ z, z = w3.alloc (.cells #[.int .i64 p, .slice r X.length c] 26) := ⟨_, rfl⟩
  obtain ⟨g, hg⟩ : ∃ z, z = w3.heap.size := ⟨_, rfl⟩
  obtain ⟨b, hbb⟩ : ∃ z, z = wa.heap.size := ⟨_, rfl⟩
  obtain ⟨lo, hlo⟩ : ∃ z, z = w2.heap.size := ⟨_, rfl⟩
  have DG : Hid (D9 b a len cap zs g p r X c lo g w wg) := by
    show D9 _ _ _ _ _ _ _ _ _ _ _ _ _ _
    rw [hwg, hg, hbb, hlo]
    exact { src := HS3.out.alloc _, tc := L2.new _ _ _ _, rc := HR4.out.alloc _ hR3, row := HO3.out.below (below_alloc w3 _) (Nat.le_refl _), bel := HB4.out.alloc (Nat.le_of_lt hR3) _, lt := Nat.lt_of_lt_of_le hR3 (size_alloc w3 _), gl := by simp, tl := size_alloc w3 _, wb := hRa, bg := by omega, wg := Nat.ne_of_lt hR3, sd := .inl hb2, wlo := hR2 }
  have hwg1 : w.heap.size ≤ g := by rw [hg]; exact Nat.le_of_lt hR3
  have hX7 : Hid (X.length ≤ 7) := by show _ ≤ _; have := HX.out; omega
  have hXs : X.length ≤ 1048576 := by have := HX.out; omega
  rw [← hwg, ← hg, ← hbb]
  clear hwg hg hbb hlo HR1 HC1 HB1 HS1 HB2 HR2 HS2 HB3 HR3 HS3 HB4 HR4 HO3 hRa hR1 hb1 hyy hRb hR2 hb2 hR3 zy3 HX
  have t0 := DG.out.tc.1
  have t1 := DG.out.tc.2.1
  have t2 := DG.out.tc.2.2.1
  have t3 := DG.out.tc.2.2.2
  have hgl := DG.out.gl
  go_wp2_with (first | (go_at_call 32; ((with_reducible refine (next_any 12 b a len cap zs wg DG.out.src).mono ?_); rintro e w4 ⟨x4, rfl, _, on4, s4⟩; have D4 := Lib.hid (DG.out.only on4 s4); have hg4 := D4.out.gl; clear on4 s4 t0 t1 t2 t3; have t0 := D4.out.tc.1; have t1 := D4.out.tc.2.1; have t2 := D4.out.tc.2.2.1; have t3 := D4.out.tc.2.2.2)) | (go_at_call 33; ((with_reducible refine (spoil_space b a len cap zs w4 D4.out.src).mono ?_); rintro e w5 ⟨p5, r5, X5, c5, rfl, hX5, o5, on5, s5⟩; have HX5 := Lib.hid hX5; have HO5 := Lib.hid o5; have D5 := Lib.hid (D4.out.only on5 s5); have hb4 := D4.out.src.lt; have zy5 := on5.size; clear on5 s5 hX5 o5 t0 t1 t2 t3; have t0 := D5.out.tc.1; have t1 := D5.out.tc.2.1; have t2 := D5.out.tc.2.2.1; have t3 := D5.out.tc.2.2.2)))
  · obtain ⟨w6, hw6⟩ : ∃ z, z = (w5.setCell ⟨g, 0, none⟩ (.int .i64 p5)).setCell ⟨g, 1, none⟩ (.slice r5 X5.length c5) := ⟨_, rfl⟩
    have D6 : Hid (D9 b a len cap zs g p5 r5 X5 c5 w4.heap.size w5.heap.size w w6) := by show D9 _ _ _ _ _ _ _ _ _ _ _ _ _ _; rw [hw6]; exact D5.out.put HO5.out (Nat.le_refl _) (.inl hb4) (.inl hg4) D4.out.lt hwg1
    rw [← hw6]
    clear hw6 D4 D5 HO5 DG t0 t1 t2 t3 hb4 zy5
    have hX5s : X5.length ≤ 1048576 := by have := HX5.out; omega
    have t0 := D6.out.tc.1
    have t1 := D6.out.tc.2.1
    have DD : Hid (D9 b a len cap zs g p5 r5 X5 c5 w4.heap.size w5.heap.size w w6.drew) := D6.out.below (below_drew w6)
    have SSD := Lib.hid DD.out.ss
    clear t0 t1
    go_region_held3 (fun w' => w'.cell? ⟨g, 0, none⟩ = some (.int .i64 p5) ∧ w'.cell? ⟨g, 1, none⟩ = some (.slice r5 X5.length c5)) (first | exact SSD.out | exact SS7.out | exact SSh.out | go_keep) (first | (go_at_call 34; ((with_reducible refine (spoilM_any p5 r5 X5 c5 w4.heap.size w5.heap.size b a len cap zs w6.drew DD.out.src hX5s DD.out.row DD.out.tl DD.out.sd).mono ?_); rintro e w7 ⟨r1, c1, Y, rfl, hY, o7, on7, s7⟩; have HY := Lib.hid hY; have HY7 := Lib.hid o7; have D7 := Lib.hid (DD.out.only on7 s7); have hb7 := DD.out.src.lt; have hlt7 := DD.out.lt; clear o7 on7 s7 hY; have SS7 := Lib.hid D7.out.ss; have q0 := D7.out.rc.1; have q1 := D7.out.rc.2.1; have q2 := D7.out.rc.2.2.1; have q3 := D7.out.rc.2.2.2; have SSh := Lib.hid (And.intro ((D7.out.tc.far (k := w.heap.size) (i := 0) (.int .i64 p5) (Ne.symm D7.out.wg)).far (k := w.heap.size) (i := 1) (.slice r5 X5.length c5) (Ne.symm D7.out.wg)).1 ((D7.out.tc.far (k := w.heap.size) (i := 0) (.int .i64 p5) (Ne.symm D7.out.wg)).far (k := w.heap.size) (i := 1) (.slice r5 X5.length c5) (Ne.symm D7.out.wg)).2.1))))
    all_goals
      go_wp2
      refine bodyPost_ret (v := .tuple #[.agg #[.int .i64 p5, .slice r5 X5.length c5], .slice r1 Y.length c1]) (by simp [results, Tryz.results6, go_sem, q0, q1]) rfl (D7.out.fin HX5.out HY.out HY7.out (Nat.le_refl _) hlt7)
  · clear t2 t3
    have DD : Hid (D9 b a len cap zs g p r X c lo g w w4.drew) := D4.out.below (below_drew w4)
    have SSD := Lib.hid DD.out.ss
    clear t0 t1
    go_region_held3 (fun w' => w'.cell? ⟨g, 0, none⟩ = some (.int .i64 p) ∧ w'.cell? ⟨g, 1, none⟩ = some (.slice r X.length c)) (first | exact SSD.out | exact SS7.out | exact SSh.out | go_keep) (first | (go_at_call 34; ((with_reducible refine (spoilM_any p r X c lo g b a len cap zs w4.drew DD.out.src hXs DD.out.row DD.out.tl DD.out.sd).mono ?_); rintro e w7 ⟨r1, c1, Y, rfl, hY, o7, on7, s7⟩; have HY := Lib.hid hY; have HY7 := Lib.hid o7; have D7 := Lib.hid (DD.out.only on7 s7); have hb7 := DD.out.src.lt; have hlt7 := DD.out.lt; clear o7 on7 s7 hY; have SS7 := Lib.hid D7.out.ss; have q0 := D7.out.rc.1; have q1 := D7.out.rc.2.1; have q2 := D7.out.rc.2.2.1; have q3 := D7.out.rc.2.2.2; have SSh := Lib.hid (And.intro ((D7.out.tc.far (k := w.heap.size) (i := 0) (.int .i64 p) (Ne.symm D7.out.wg)).far (k := w.heap.size) (i := 1) (.slice r X.length c) (Ne.symm D7.out.wg)).1 ((D7.out.tc.far (k := w.heap.size) (i := 0) (.int .i64 p) (Ne.symm D7.out.wg)).far (k := w.heap.size) (i := 1) (.slice r X.length c) (Ne.symm D7.out.wg)).2.1))))
    all_goals
      go_wp2
      refine bodyPost_ret (v := .tuple #[.agg #[.int .i64 p, .slice r X.length c], .slice r1 Y.length c1]) (by simp [results, Tryz.results6, go_sem, q0, q1]) rfl (D7.out.fin hX7.out HY.out HY7.out (Nat.le_refl _) hlt7)

end Go.Proofs.YtndneccgomfkdaaGreat

namespace Go.Proofs.YtndneccgomfkdaaGreat
open Go.RowKit Go.ChangeShapes Go.WideShapes
set_option linter.unusedVariables false

theorem matTwo {W : World} {lo tp lo' tp' cv cu b : Nat} {a a' : Option Addr} {v u : List Int} (hb' : b = W.heap.size) (hv : RowIn lo tp W a v) (tv : tp ≤ W.heap.size) (hu : RowIn lo' tp' W a' u) (tu : tp' ≤ W.heap.size) (T : TypeId) :
    MatIn 0 (W.alloc (.cells #[.slice a v.length cv, .slice a' u.length cu] T)).heap.size (W.alloc (.cells #[.slice a v.length cv, .slice a' u.length cu] T)) (some ⟨b, 0, none⟩) [v, u] := by
  subst hb'
  refine .inr ⟨W.heap.size, 0, rfl, Nat.zero_le _, by simp, fun i hi => ?_⟩
  have hb := balloc W (.cells #[.slice a v.length cv, .slice a' u.length cu] T)
  match i, hi with
  | 0, _ => exact ⟨a, cv, by simp [go_sem, rw'], (hv.below hb tv).mono (Nat.zero_le _) (Nat.le_trans tv hb.size)⟩
  | 1, _ => exact ⟨a', cu, by simp [go_sem, rw'], (hu.below hb tu).mono (Nat.zero_le _) (Nat.le_trans tu hb.size)⟩
theorem cat_two (v u : List Int) : catN [v, u] 2 = v ++ u := by simp [catN, rw']
theorem tot_two' (v u : List Int) : tot [v, u] 2 = v.length + u.length := by simp [tot, rw']
def NewRL (n : Nat) (z : List Int) (w : World) (e : Ending) (w' : World) : Prop := ∃ r k, e = .returned (.slice r n k) ∧ TagR w.heap.size w'.heap.size w' r z ∧ Below w.heap.size w w'
theorem concat_two (av au : Option Addr) (v u : List Int) (nv nu cv cu lov tpv lou tpu b cap : Nat) (W : World) (T : TypeId) (hb : b = W.heap.size) (hnv : v.length = nv) (hnu : u.length = nu)
    (hv : RowIn lov tpv W av v) (tv : tpv ≤ W.heap.size) (hu : RowIn lou tpu W au u) (tu : tpu ≤ W.heap.size) (v0 : 0 < nv) (v1 : nv ≤ 1024) (u0 : 0 < nu) (u1 : nu ≤ 1024) :
    Calls Tryz.prog 121 #[.slice (some ⟨b, 0, none⟩) 2 cap] (W.alloc (.cells #[.slice av nv cv, .slice au nu cu] T)) (NewRL (nv + nu) (v ++ u) (W.alloc (.cells #[.slice av nv cv, .slice au nu cu] T))) := by
  subst hnv hnu
  have h := concat_any (some ⟨b, 0, none⟩) [v, u] cap 0 _ _ (matTwo (cv := cv) (cu := cu) hb hv tv hu tu T) (Nat.le_refl _) (by show 0 < 2; omega) (by show 2 ≤ 64; omega) (fun i hi => by
    match i, hi with
    | 0, _ => exact ⟨v0, v1⟩
    | 1, _ => exact ⟨u0, u1⟩) (by show tot [v, u] 2 ≤ 100000; rw [tot_two']; omega)
  refine h.mono ?_
  rintro e w' ⟨r, k, rfl, ht, hb'⟩
  have e2 : catN [v, u] [v, u].length = v ++ u := cat_two v u
  rw [e2] at ht
  exact ⟨r, k, by rw [e2, List.length_append], ht, hb'⟩

/-- A list of lists that is being filled. -/
structure RdM (w : World) (b i n : Nat) (Z : Nat → List Int) : Prop where
  lt : b < w.heap.size
  done : ∀ j, j < i → ∃ r c, w.cell? ⟨b, j, none⟩ = some (.slice r (Z j).length c) ∧ RowIn (b + 1) w.heap.size w r (Z j)
  rest : ∀ j, i ≤ j → j < n → w.cell? ⟨b, j, none⟩ = some (.slice none 0 0)
  free : ∀ j, w.frozen? ⟨b, j, none⟩ = false
theorem RdM.start (w : World) (n : Nat) (t : TypeId) (Z : Nat → List Int) : RdM (w.alloc (.cells (madeCells #[.slice none 0 0] n) t)) w.heap.size 0 n Z where
  lt := by simp
  done j hj := by omega
  rest j _ hj := made_cell w _ n t hj
  free j := by simp [go_sem]
theorem RdM.next {w w1 : World} {b i n : Nat} {Z : Nat → List Int} {r : Option Addr} {c : Nat} (h : RdM w b i n Z) (hi : i < n) (hb : Below w.heap.size w w1) (hr : RowIn w.heap.size w1.heap.size w1 r (Z i)) :
    RdM (w1.setCell ⟨b, i, none⟩ (.slice r (Z i).length c)) b (i + 1) n Z := by
  have hlt := h.lt
  have hsz : (w1.setCell ⟨b, i, none⟩ (.slice r (Z i).length c)).heap.size = w1.heap.size := by simp [World.setCell]
  have hz := hb.size
  have keep : ∀ lo z r', b < lo → RowIn lo w1.heap.size w1 r' z → RowIn lo w1.heap.size (w1.setCell ⟨b, i, none⟩ (.slice r (Z i).length c)) r' z := fun lo z r' hlo hr' => by
    rcases hr' with h0 | ⟨b', o', e, g0, g1, g2⟩
    · exact .inl h0
    · exact .inr ⟨b', o', e, g0, g1, fun j hj => (World.cell?_setCell_other _ _ _ _ (fun e2 => by injection e2 with e3; omega)).trans (g2 j hj)⟩
  refine ⟨by rw [hsz]; omega, fun j hj => ?_, fun j h1 h2 => ?_, fun j => ?_⟩
  · rw [hsz]
    by_cases e : j = i
    · subst e
      exact ⟨r, c, World.cell?_setCell_same w1 _ _ ((hb.cell (p := ⟨b, j, none⟩) hlt).trans (h.rest j (Nat.le_refl _) hi)), keep (b + 1) (Z j) r (Nat.lt_succ_self b) (hr.mono hlt (Nat.le_refl _))⟩
    · obtain ⟨r', c', g1, g2⟩ := h.done j (by omega)
      exact ⟨r', c', (World.cell?_setCell_other _ _ _ _ (fun e2 => e (by injection e2 with _ e3; exact e3.symm))).trans ((hb.cell (p := ⟨b, j, none⟩) hlt).trans g1), keep (b + 1) (Z j) r' (Nat.lt_succ_self b) ((g2.below hb (Nat.le_refl _)).mono (Nat.le_refl _) hz)⟩
  · exact (World.cell?_setCell_other _ _ _ _ (fun e2 => by injection e2 with _ e3; omega)).trans ((hb.cell (p := ⟨b, j, none⟩) hlt).trans (h.rest j (by omega) h2))
  · have := (hb.frozen (p := ⟨b, j, none⟩) hlt).trans (h.free j)
    simpa [go_sem] using this
theorem RdM.mat {w : World} {b n : Nat} {m : List (List Int)} (h : RdM w b n n (rw' m)) (hn : m.length = n) : MatIn b w.heap.size w (some ⟨b, 0, none⟩) m :=
  .inr ⟨b, 0, rfl, Nat.le_refl _, h.lt, fun i hi => by
    obtain ⟨r, c, g1, g2⟩ := h.done i (by omega)
    exact ⟨r, c, by rw [Nat.zero_add]; exact g1, g2.mono (Nat.le_succ b) (Nat.le_refl _)⟩⟩

def NewMN (n : Nat) (m : List (List Int)) (w : World) (e : Ending) (w' : World) : Prop := ∃ r k, e = .returned (.slice r n k) ∧ MatIn w.heap.size w'.heap.size w' r m ∧ Below w.heap.size w w'
set_option maxRecDepth 100000 in
set_option maxHeartbeats 3200000 in
theorem besideEach_any (a a' : Option Addr) (A O : List (List Int)) (ca ca' lo tp lo' tp' c d no : Nat) (w : World) (hm : MatIn lo tp w a A) (ht : tp ≤ w.heap.size) (hm' : MatIn lo' tp' w a' O) (ht' : tp' ≤ w.heap.size) (hno : no = O.length) (hn : A.length ≤ O.length) (h1 : O.length ≤ 1024)
    (hc : ∀ i, i < A.length → (rw' A i).length = c) (hd : ∀ i, i < A.length → (rw' O i).length = d) (c0 : 0 < c) (c1 : c ≤ 1024) (d0 : 0 < d) (d1 : d ≤ 1024) :
    Calls Tryz.prog 76 #[.slice a A.length ca, .slice a' no ca'] w (NewMN A.length (bes A O) w) := by
  have HM := Lib.hid hm
  have HM' := Lib.hid hm'
  have HC := Lib.hid hc
  have HD := Lib.hid hd
  have HNO := Lib.hid hno
  have hno1 : O.length ≤ no ∧ no ≤ O.length := by omega
  have hmk := fun W => run_make_row' (P := Tryz.prog) 32 24 (.slice none 0 0) 24 Tryz.underlying32 info_slice rfl .i64 .i64 A.length (by omega) (by omega) W
  obtain ⟨n, hnn⟩ : ∃ n, n = A.length := ⟨_, rfl⟩
  have HN := Lib.hid hnn
  have HBR : Hid (∀ i, i < n → rw' (bes A O) i = rw' A i ++ rw' O i) := fun i h => bes_row (by omega)
  rw [← hnn] at hmk hn
  rw [← hnn]
  have hnA : n ≤ A.length ∧ A.length ≤ n := by omega
  clear hm hm' hc hd hno hnn
  go_enter Tryz.func76, Tryz.ntmps76
  go_wp2
  go_loopw [13] (fun t wr => ∃ i : Nat, i ≤ n ∧ t = .int .i64 i ∧ RdM wr w.heap.size i n (rw' (bes A O)) ∧ Below w.heap.size w wr) (fun t _ => n - (intOf t).toNat)
  case atStart => exact ⟨0, Nat.zero_le _, rfl, RdM.start w n _ _, balloc w _⟩
  case round =>
    obtain ⟨i, hi, rfl, hrd, hbel⟩ := hrel
    have HRD := Lib.hid hrd
    have HB := Lib.hid hbel
    have hwz := hbel.size
    by_cases hlt : i < n
    · obtain ⟨b1, o1, r1, k1, ha1, _, hb1, hr1, hrow1⟩ := (HM.out.below hbel ht).row (show i < A.length by omega)
      subst ha1
      obtain ⟨b2, o2, r2, k2, ha2, _, hb2, hr2, hrow2⟩ := (HM'.out.below hbel ht').row (show i < O.length by omega)
      subst ha2
      have hl1 := HC.out i (by omega)
      have hl2 := HD.out i (by omega)
      rw [hl1] at hr1
      rw [hl2] at hr2
      have HR1 := Lib.hid hrow1
      have HR2 := Lib.hid hrow2
      have HT1 : Hid (tp ≤ wr.heap.size) := Nat.le_trans ht hwz
      have HT2 : Hid (tp' ≤ wr.heap.size) := Nat.le_trans ht' hwz
      have g0 := hrd.rest i (Nat.le_refl _) hlt
      have f0 := hrd.free i
      have hlw := hrd.lt
      have hi1 : (i : Int) < (n : Int) := by omega
      have hi2 : (i : Int) < (no : Int) := by omega
      have HL1 := Lib.hid hl1
      have HL2 := Lib.hid hl2
      clear hrow1 hrow2 hbel hrd hl1 hl2
      go_wp2_with (go_at_call 121; (with_reducible refine (concat_two r1 r2 (rw' A i) (rw' O i) c d k1 k2 lo tp lo' tp' wr.heap.size _ wr _ rfl HL1.out HL2.out HR1.out HT1.out HR2.out HT2.out c0 c1 d0 d1).mono ?_); rintro e w2 ⟨r3, k3, rfl, ho3, hb3⟩; have HO3 := Lib.hid ho3; have HB3 := Lib.hid (below_step (balloc wr _) (balloc wr _).size hb3); have HZ3 := Lib.hid (balloc wr (.cells #[.slice r1 c k1, .slice r2 d k2] 24)).size; have g3 := (HB3.out.cell (p := ⟨w.heap.size, i, none⟩) hlw).trans g0; have f3 := (HB3.out.frozen (p := ⟨w.heap.size, i, none⟩) hlw).trans f0; clear ho3 hb3)
      go_roundw
      case rel =>
        have hl : (rw' (bes A O) i).length = c + d := by rw [HBR.out i hlt, List.length_append, HL1.out, HL2.out]
        refine ⟨i + 1, by omega, by go_num, ?_, (HB.out.trans (HB3.out.mono hwz)).setCell (Nat.le_refl w.heap.size) _⟩
        have h := HRD.out.next (c := k3) (r := r3) hlt HB3.out (by rw [HBR.out i hlt]; exact HO3.out.row.mono HZ3.out (Nat.le_refl _))
        rw [hl] at h
        exact h
      case measure => simp [intOf]; omega
    · have hin : i = n := by omega
      subst hin
      clear hbel hrd
      go_wp2
      go_ret
      exact ⟨_, i, rfl, HRD.out.mat (by rw [bes_len]; exact HN.out.symm), HB.out⟩

end Go.Proofs.YtndneccgomfkdaaGreat

namespace Go.Proofs.YtndneccgomfkdaaGreat
open Go.RowKit Go.ChangeShapes Go.WideShapes
set_option linter.unusedVariables false

theorem elimX (p : Int) (a : Option Addr) (A : List (List Int)) (n ca lo tp c : Nat) (w : World) (hn : A.length = n) (hm : MatIn lo tp w a A) (ht : tp ≤ w.heap.size) (hA : RowsX p c A) :
    Calls Tryz.prog 43 #[.int .i64 p, .slice a n ca] w (ElimK p A w) := by
  subst hn
  have hp := hA.prime
  have hc0 := hA.c0
  have hc1 := hA.c1
  have h0 := hA.len0
  refine (eliminate_bas p a A ca lo tp w hp hm ht hA.hi (fun i hi => by rw [hA.len i hi, h0]; exact ⟨hc0, hc1, rfl⟩) (fun i hi j hj => hA.rng i hi j (by rw [← hA.len i hi]; exact hj))).mono ?_
  rintro e w' ⟨P, d, dd, ar, ap, cr, cp, kb, c', RB, RO, RC, rfl, hE, hM, hB, hk, hd⟩
  obtain ⟨_, rfl⟩ := hd hA.lo
  have hK := hM.kept hp
  refine ⟨ar, cr, ap, cp, dd, rfl, hE.own hK.len hk, ?_, hK.bas, hB⟩
  rw [pvL_congr (fun i hi => hK.red.pvs hK.len hi)]
  exact hE.pivRow.mono hk (Nat.le_refl _)
theorem matOne {W : World} {lo tp cv b : Nat} {a : Option Addr} {v : List Int} (hb' : b = W.heap.size) (hv : RowIn lo tp W a v) (tv : tp ≤ W.heap.size) (T : TypeId) :
    MatIn 0 (W.alloc (.cells #[.slice a v.length cv] T)).heap.size (W.alloc (.cells #[.slice a v.length cv] T)) (some ⟨b, 0, none⟩) [v] := by
  subst hb'
  refine .inr ⟨W.heap.size, 0, rfl, Nat.zero_le _, by simp, fun i hi => ?_⟩
  have hb := balloc W (.cells #[.slice a v.length cv] T)
  match i, hi with
  | 0, _ => exact ⟨a, cv, by simp [go_sem, rw'], (hv.below hb tv).mono (Nat.zero_le _) (Nat.le_trans tv hb.size)⟩
theorem transpCol (av : Option Addr) (v : List Int) (nv cv lov tpv b cap : Nat) (W : World) (T : TypeId) (hb : b = W.heap.size) (hnv : v.length = nv) (hv : RowIn lov tpv W av v) (tv : tpv ≤ W.heap.size) (v0 : 0 < nv) (v1 : nv ≤ 1024) :
    Calls Tryz.prog 77 #[.slice (some ⟨b, 0, none⟩) 1 cap] (W.alloc (.cells #[.slice av nv cv] T)) (NewMN nv (col v) (W.alloc (.cells #[.slice av nv cv] T))) := by
  subst hnv
  refine (transposed_any (some ⟨b, 0, none⟩) [v] cap 0 _ _ (matOne (cv := cv) hb hv tv T) (Nat.le_refl _) (by show 0 < 1; omega) (fun i hi => by match i, hi with | 0, _ => rfl) (by show 1 ≤ 1024; omega) (by show v.length ≤ 1024; exact v1)).mono ?_
  rintro e w' ⟨r, k, rfl, ho, hb'⟩
  rw [col_tr] at ho ⊢
  exact ⟨r, k, by rw [col_len], ho.mat, hb'⟩

noncomputable def solC (p : Int) (A : List (List Int)) (v : List Int) : Int := if isM p A = true then (if v.length = A.length ∧ v.all (inr p) = true then (if solOk p A v = true then 0 else 4) else 2) else 1
noncomputable def solV (p : Int) (A : List (List Int)) (v : List Int) : List Int := if isM p A = true then (if v.length = A.length ∧ v.all (inr p) = true then solL p A v else []) else []
theorem sol_not {p : Int} {A : List (List Int)} {v : List Int} (h : isM p A = false) : solC p A v = 1 ∧ solV p A v = [] := by unfold solC solV; rw [if_neg (by simp [h]), if_neg (by simp [h])]; exact ⟨rfl, rfl⟩
theorem sol_rng {p : Int} {A : List (List Int)} {v : List Int} (h : isM p A = true) (k : ¬ (v.length = A.length ∧ v.all (inr p) = true)) : solC p A v = 2 ∧ solV p A v = [] := by unfold solC solV; rw [if_pos h, if_neg k, if_pos h, if_neg k]; exact ⟨rfl, rfl⟩
theorem sol_in {p : Int} {A : List (List Int)} {v : List Int} (h : isM p A = true) (k : v.length = A.length ∧ v.all (inr p) = true) : solC p A v = (if solOk p A v = true then 0 else 4) ∧ solV p A v = solL p A v := by unfold solC solV; rw [if_pos h, if_pos k, if_pos h, if_pos k]; exact ⟨rfl, rfl⟩
theorem solL_no {p : Int} {A : List (List Int)} {v : List Int} (h : solOk p A v = false) : solL p A v = [] := by unfold solL; rw [if_neg (by simp [h])]
end Go.Proofs.YtndneccgomfkdaaGreat
