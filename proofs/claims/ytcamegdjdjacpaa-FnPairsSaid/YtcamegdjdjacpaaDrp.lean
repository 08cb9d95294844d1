/-
  The draw of a space and two lists: contract.
  Conditions: the code is nil or a row of known bytes, of at most 4096.
-/
import Derived.Test.YtcamegdjdjacpaaDrt
import Derived.Test.YtcamegdjdjacpaaRoll
namespace Go.Proofs.Ytcamegdjdjacpaa
open Go.RowKit
set_option linter.unusedVariables false

/-- A space, or what is none, and two lists, in new memory. -/
def DrawnP (w : World) (e : Ending) (w' : World) : Prop :=
  ∃ p r X c r1 Y c1 r2 Z c2, e = .returned (.tuple #[.agg #[.int .i64 p, .slice r X.length c], .slice r1 Y.length c1, .slice r2 Z.length c2]) ∧ X.length ≤ 7 ∧ Y.length ≤ 8 ∧ Z.length ≤ 8 ∧ RowIn w.heap.size w'.heap.size w' r X ∧ RowIn w.heap.size w'.heap.size w' r1 Y ∧ RowIn w.heap.size w'.heap.size w' r2 Z ∧ Below w.heap.size w w'

set_option maxRecDepth 100000 in
set_option maxHeartbeats 3200000 in
theorem drawPair_any (a : Option Addr) (len cap : Nat) (zs : List Int) (w : World) (hb : Code8 w a len zs) (hl : len ≤ 4096) :
    Calls Try.prog 28 #[.slice a len cap] w (DrawnP w) := by
  have HB := Lib.hid hb
  clear hb
  go_enter Try.func28, Try.ntmps28
  go_upto_region 1 with fail
  obtain ⟨wa, hwa⟩ : ∃ z, z = w.alloc (.cells #[.int .i64 0, .slice none 0 0] 26) := ⟨_, rfl⟩
  have HR1 : Hid (L2 wa w.heap.size (.int .i64 0) (.slice none 0 0)) := by show L2 _ _ _ _; rw [hwa]; exact L2.new _ _ _ _
  have HC1 : Hid (Code8 wa a len zs) := by show Code8 _ _ _ _; rw [hwa]; exact HB.out.below (below_alloc w _)
  have HB1 : Hid (Below w.heap.size w wa) := by show Below _ _ _; rw [hwa]; exact below_alloc w _
  have hRa : w.heap.size < wa.heap.size := by rw [hwa]; simp
  rw [← hwa]
  clear hwa
  go_upto_region 3 with (first
    | (go_at_call 89; (with_reducible refine (from_any a len cap zs wa HC1.out hl).mono ?_); rintro e w1 ⟨rfl, b1, s1⟩; have HS1 := Lib.hid s1; have HB2 := Lib.hid (below_step HB1.out (Nat.le_of_lt hRa) b1); have HR2 := Lib.hid (HR1.out.below b1 hRa); have hR1 := Nat.lt_of_lt_of_le hRa b1.size; clear b1 s1)
    | (go_at_call 90; (with_reducible refine (spoil_space wa.heap.size a len cap zs w1 HS1.out).mono ?_); rintro e w2 ⟨p, r, X, c, rfl, hX, o2, on2, s2⟩; have HX := Lib.hid hX; have HS2 := Lib.hid s2; have HX2 := Lib.hid o2; have HB3 := Lib.hid (HB2.out.trans (on2.below (Nat.le_of_lt hRa) (Nat.le_of_lt hR1))); have HR3 := Lib.hid (HR2.out.only on2 hR1 (Nat.ne_of_lt hRa)); have hR2 := Nat.lt_of_lt_of_le hR1 on2.size; have hb1 := HS1.out.lt; have zy2 := on2.size; clear on2 s2 o2 hX))
  obtain ⟨wg, hwg⟩ : ∃ z, z = w2.alloc (.cells #[.int .i64 p, .slice r X.length c] 26) := ⟨_, rfl⟩
  obtain ⟨g, hg⟩ : ∃ z, z = w2.heap.size := ⟨_, rfl⟩
  obtain ⟨b, hbb⟩ : ∃ z, z = wa.heap.size := ⟨_, rfl⟩
  have HG : Hid (L2 wg g (.int .i64 p) (.slice r X.length c)) := by show L2 _ _ _ _; rw [hwg, hg]; exact L2.new _ _ _ _
  have HR4 : Hid (L2 wg w.heap.size (.int .i64 0) (.slice none 0 0)) := by show L2 _ _ _ _; rw [hwg]; exact HR3.out.alloc _ hR2
  have HS4 : Hid (Src wg b a len cap zs) := by show Src _ _ _ _ _ _; rw [hwg, hbb]; exact HS2.out.alloc _
  have HB4 : Hid (Below w.heap.size w wg) := by show Below _ _ _; rw [hwg]; exact HB3.out.alloc (Nat.le_of_lt hR2) _
  have HX4 : Hid (RowIn w1.heap.size g wg r X) := by show RowIn _ _ _ _ _; rw [hwg, hg]; exact HX2.out.below (below_alloc w2 _) (Nat.le_refl _)
  have hgg : g < wg.heap.size := by rw [hwg, hg]; simp
  have hbg : b < g := by rw [hbb, hg]; omega
  have hRb : w.heap.size < b := by rw [hbb]; exact hRa
  have hb1' : b < w1.heap.size := by rw [hbb]; exact hb1
  have h1g : w1.heap.size ≤ g := by rw [hg]; exact zy2
  have hXs : Hid (X.length ≤ 1048500) := by show _ ≤ _; have := HX.out; omega
  rw [← hwg, ← hg, ← hbb]
  clear hwg hg hbb HR3 HS2 HB3 HX2 hb1 zy2 HR1 HR2 HC1 HB1 HB2 HS1 hRa hR1 hR2
  have hs1 : Hid (wg.drew.cell? ⟨g, 0, none⟩ = some (.int .i64 p) ∧ wg.drew.cell? ⟨g, 1, none⟩ = some (.slice r X.length c)) := ⟨HG.out.1, HG.out.2.1⟩
  have HSD : Hid (Src wg.drew b a len cap zs) := HS4.out.step (below_drew wg)
  have HGD : Hid (L2 wg.drew g (.int .i64 p) (.slice r X.length c)) := HG.out.below (below_drew wg) hgg
  have HRD : Hid (L2 wg.drew w.heap.size (.int .i64 0) (.slice none 0 0)) := HR4.out.below (below_drew wg) (by omega)
  have HBD : Hid (Below w.heap.size w wg.drew) := HB4.out.drew
  have hgd : g < wg.drew.heap.size := hgg
  have HXD : Hid (RowIn w1.heap.size g wg.drew r X) := HX4.out.below (below_drew wg) (Nat.le_of_lt hgg)
  have hRd : w.heap.size < wg.drew.heap.size := by omega
  go_region_held3 (fun w' => w'.cell? ⟨g, 0, none⟩ = some (.int .i64 p) ∧ w'.cell? ⟨g, 1, none⟩ = some (.slice r X.length c)) (first | exact hs1.out | exact SS5.out | exact SS6.out | exact SS7.out | go_keep) (first
    | (go_at_call 91; (with_reducible refine (drawVector_any b a len cap zs p r X c wg.drew HSD.out hXs.out).mono ?_); rintro e w5 ⟨r1, c1, Y, rfl, hY, o5, on5, s5⟩; have HY := Lib.hid hY; have HS5 := Lib.hid s5; have HG5 := Lib.hid (HGD.out.only on5 hgd (Nat.ne_of_gt hbg)); have HR5 := Lib.hid (HRD.out.only on5 hRd (Nat.ne_of_lt hRb)); have HB5 := Lib.hid (HBD.out.trans (on5.below (Nat.le_of_lt hRb) (Nat.le_of_lt hRd))); have HX5 := Lib.hid (HXD.out.only on5 (.inl hb1') (Nat.le_of_lt hgd)); have HY5 := Lib.hid o5; have zy5 := on5.size; have SS5 := Lib.hid (And.intro HG5.out.1 HG5.out.2.1); have hg5 := Nat.lt_of_lt_of_le hgd zy5; have hR5 := Nat.lt_of_lt_of_le hRd zy5; clear o5 on5 s5 hY)
    | (go_at_call 91; (with_reducible refine (drawVector_any b a len cap zs p r X c w5 HS5.out hXs.out).mono ?_); rintro e w6 ⟨r2, c2, Z, rfl, hZ, o6, on6, s6⟩; have HZ := Lib.hid hZ; have HG6 := Lib.hid (HG5.out.only on6 hg5 (Nat.ne_of_gt hbg)); have HR6 := Lib.hid (HR5.out.only on6 hR5 (Nat.ne_of_lt hRb)); have HB6 := Lib.hid (HB5.out.trans (on6.below (Nat.le_of_lt hRb) (Nat.le_of_lt hR5))); have HX6 := Lib.hid (HX5.out.only on6 (.inl hb1') (Nat.le_of_lt hg5)); have HY6 := Lib.hid (HY5.out.only on6 (.inl (Nat.lt_trans hbg hgd)) (Nat.le_refl _)); have HZ6 := Lib.hid o6; have zy6 := on6.size; have SS6 := Lib.hid (And.intro HG6.out.1 HG6.out.2.1); have r0 := HR6.out.1; have r1' := HR6.out.2.1; have r2' := HR6.out.2.2.1; have r3 := HR6.out.2.2.2; have HGF := Lib.hid ((HG6.out.far (k := w.heap.size) (i := 0) (.int .i64 p) (Nat.ne_of_gt (Nat.lt_trans hRb hbg))).far (k := w.heap.size) (i := 1) (.slice r X.length c) (Nat.ne_of_gt (Nat.lt_trans hRb hbg))); have SS7 := Lib.hid (And.intro HGF.out.1 HGF.out.2.1); have hg6 := Nat.lt_of_lt_of_le hg5 zy6; clear o6 on6 s6 hZ))
  all_goals
    go_wp2
    refine bodyPost_ret (v := .tuple #[.agg #[.int .i64 p, .slice r X.length c], .slice r1 Y.length c1, .slice r2 Z.length c2]) (by simp [results, Try.results28, go_sem, r0, r1']) rfl ⟨p, r, X, c, r1, Y, c1, r2, Z, c2, rfl, HX.out, by have := HX.out; have := HY.out; omega, by have := HX.out; have := HZ.out; omega, ?_, ?_, ?_, (HB6.out.setCell (Nat.le_refl _) _).setCell (Nat.le_refl _) _⟩
    · exact ((HX6.out.far _ (.inl (by omega))).far _ (.inl (by omega))).mono (by omega) (by simp [World.setCell]; omega)
    · exact ((HY6.out.far _ (.inl (by omega))).far _ (.inl (by omega))).mono (by omega) (by simp [World.setCell]; omega)
    · exact ((HZ6.out.far _ (.inl (by omega))).far _ (.inl (by omega))).mono (by omega) (by simp [World.setCell])

end Go.Proofs.Ytcamegdjdjacpaa
