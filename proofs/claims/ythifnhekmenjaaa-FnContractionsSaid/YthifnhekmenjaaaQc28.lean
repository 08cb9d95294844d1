/-
  The draws of a space and two multivectors: contracts.
  Conditions: the code is nil or a row of known bytes, of at most 4096.
  Changes of signs by grades, and the signs of all grades: contracts of the program.
  Conditions: the lists are nil or rows of known cells, of at most 1048576 numbers.
-/
import Derived.Test.YthifnhekmenjaaaQc27
import Derived.Test.YthifnhekmenjaaaQc9
import Derived.Test.YthifnhekmenjaaaQc19
import Derived.Test.YthifnhekmenjaaaQc17
namespace Go.Proofs.Ythifnhekmenjaaa
open Go.RowKit
set_option linter.unusedVariables false

/-- A space, or what is none, and two lists, in new memory. -/
def DrawnQ (w : World) (e : Ending) (w' : World) : Prop :=
  ∃ p r X c r1 Y c1 r2 Z c2, e = .returned (.tuple #[.agg #[.int .i64 p, .slice r X.length c], .slice r1 Y.length c1, .slice r2 Z.length c2]) ∧ X.length ≤ 7 ∧ Y.length ≤ 65 ∧ Z.length ≤ 65 ∧ RowIn w.heap.size w'.heap.size w' r X ∧ RowIn w.heap.size w'.heap.size w' r1 Y ∧ RowIn w.heap.size w'.heap.size w' r2 Z ∧ Below w.heap.size w w'

set_option maxRecDepth 100000 in
set_option maxHeartbeats 3200000 in
theorem two_any (a : Option Addr) (len cap : Nat) (zs : List Int) (w : World) (hb : Code8 w a len zs) (hl : len ≤ 4096) :
    Calls Try.prog 19 #[.slice a len cap] w (DrawnQ w) := by
  have HB := Lib.hid hb
  clear hb
  go_enter Try.func19, Try.ntmps19
  go_upto_region 1 with fail
  obtain ⟨wa, hwa⟩ : ∃ z, z = w.alloc (.cells #[.int .i64 0, .slice none 0 0] 26) := ⟨_, rfl⟩
  have HR1 : Hid (L2 wa w.heap.size (.int .i64 0) (.slice none 0 0)) := by show L2 _ _ _ _; rw [hwa]; exact L2.new _ _ _ _
  have HC1 : Hid (Code8 wa a len zs) := by show Code8 _ _ _ _; rw [hwa]; exact HB.out.below (below_alloc w _)
  have HB1 : Hid (Below w.heap.size w wa) := by show Below _ _ _; rw [hwa]; exact below_alloc w _
  have hRa : w.heap.size < wa.heap.size := by rw [hwa]; simp
  rw [← hwa]
  clear hwa
  go_upto_region 3 with (first
    | (go_at_call 35; (with_reducible refine (from_any a len cap zs wa HC1.out hl).mono ?_); rintro e w1 ⟨rfl, b1, s1⟩; have HS1 := Lib.hid s1; have HB2 := Lib.hid (below_step HB1.out (Nat.le_of_lt hRa) b1); have HR2 := Lib.hid (HR1.out.below b1 hRa); have hR1 := Nat.lt_of_lt_of_le hRa b1.size; clear b1 s1)
    | (go_at_call 36; (with_reducible refine (spoil_space wa.heap.size a len cap zs w1 HS1.out).mono ?_); rintro e w2 ⟨p, r, X, c, rfl, hX, o2, on2, s2⟩; have HX := Lib.hid hX; have HS2 := Lib.hid s2; have HX2 := Lib.hid o2; have HB3 := Lib.hid (HB2.out.trans (on2.below (Nat.le_of_lt hRa) (Nat.le_of_lt hR1))); have HR3 := Lib.hid (HR2.out.only on2 hR1 (Nat.ne_of_lt hRa)); have hR2 := Nat.lt_of_lt_of_le hR1 on2.size; have hb1 := HS1.out.lt; have zy2 := on2.size; clear on2 s2 o2 hX))
  obtain ⟨wg, hwg⟩ : ∃ z, z = w2.alloc (.cells #[.int .i64 p, .slice r X.length c] 26) := ⟨_, rfl⟩
  obtain ⟨g, hg⟩ : ∃ z, z = w2.heap.size := ⟨_, rfl⟩
  obtain ⟨b, hbb⟩ : ∃ z, z = wa.heap.size := ⟨_, rfl⟩
  have HG : Hid (L2 wg g (.int .i64 p) (.slice r X.length c)) := by show L2 _ _ _ _; rw [hwg, hg]; exact L2.new _ _ _ _
  have HR4 : Hid (L2 wg w.heap.size (.int .i64 0) (.slice none 0 0)) := by show L2 _ _ _ _; rw [hwg]; exact HR3.out.alloc _ hR2
  have HS4 : Hid (Src wg b a len cap zs) := by show Src _ _ _ _ _ _; rw [hwg, hbb]; exact HS2.out.alloc _
  have HB4 : Hid (Below w.heap.size w wg) := by show Below _ _ _; rw [hwg]; exact HB3.out.alloc (Nat.le_of_lt hR2) _
  have HX4 : Hid (RowIn w1.heap.size g wg r X) := by show RowIn _ _ _ _ _; rw [hwg, hg]; exact HX2.out.below (below_alloc w2 _) (Nat.le_refl _)
  have hgg : g < wg.heap.size := by rw [hwg, hg]; simp
  have hbg : b < g := by rw [hbb, hg]; omega
  have hRb : w.heap.size < b := by rw [hbb]; exact hRa
  have hb1' : b < w1.heap.size := by rw [hbb]; exact hb1
  have h1g : w1.heap.size ≤ g := by rw [hg]; exact zy2
  have hXs : Hid (X.length ≤ 1048576) := by show _ ≤ _; have := HX.out; omega
  rw [← hwg, ← hg, ← hbb]
  clear hwg hg hbb HR3 HS2 HB3 HX2 hb1 zy2 HR1 HR2 HC1 HB1 HB2 HS1 hRa hR1 hR2
  have hs1 : Hid (wg.drew.cell? ⟨g, 0, none⟩ = some (.int .i64 p) ∧ wg.drew.cell? ⟨g, 1, none⟩ = some (.slice r X.length c)) := ⟨HG.out.1, HG.out.2.1⟩
  have HSD : Hid (Src wg.drew b a len cap zs) := HS4.out.step (below_drew wg)
  have HGD : Hid (L2 wg.drew g (.int .i64 p) (.slice r X.length c)) := HG.out.below (below_drew wg) hgg
  have HRD : Hid (L2 wg.drew w.heap.size (.int .i64 0) (.slice none 0 0)) := HR4.out.below (below_drew wg) (by omega)
  have HBD : Hid (Below w.heap.size w wg.drew) := HB4.out.drew
  have hgd : g < wg.drew.heap.size := hgg
  have HXD : Hid (RowIn w1.heap.size g wg.drew r X) := HX4.out.below (below_drew wg) (Nat.le_of_lt hgg)
  have hRd : w.heap.size < wg.drew.heap.size := by omega
  go_region_held3 (fun w' => w'.cell? ⟨g, 0, none⟩ = some (.int .i64 p) ∧ w'.cell? ⟨g, 1, none⟩ = some (.slice r X.length c)) (first | exact hs1.out | exact SS5.out | exact SS6.out | exact SS7.out | go_keep) (first
    | (go_at_call 37; (with_reducible refine (spoilM_any p r X c w1.heap.size g b a len cap zs wg.drew HSD.out hXs.out HXD.out (Nat.le_of_lt hgd) (.inl hb1')).mono ?_); rintro e w5 ⟨r1, c1, Y, rfl, hY, o5, on5, s5⟩; have HY := Lib.hid hY; have HS5 := Lib.hid s5; have HG5 := Lib.hid (HGD.out.only on5 hgd (Nat.ne_of_gt hbg)); have HR5 := Lib.hid (HRD.out.only on5 hRd (Nat.ne_of_lt hRb)); have HB5 := Lib.hid (HBD.out.trans (on5.below (Nat.le_of_lt hRb) (Nat.le_of_lt hRd))); have HX5 := Lib.hid (HXD.out.only on5 (.inl hb1') (Nat.le_of_lt hgd)); have HY5 := Lib.hid o5; have zy5 := on5.size; have SS5 := Lib.hid (And.intro HG5.out.1 HG5.out.2.1); have hg5 := Nat.lt_of_lt_of_le hgd zy5; have hR5 := Nat.lt_of_lt_of_le hRd zy5; clear o5 on5 s5 hY)
    | (go_at_call 37; (with_reducible refine (spoilM_any p r X c w1.heap.size g b a len cap zs w5 HS5.out hXs.out HX5.out (Nat.le_of_lt hg5) (.inl hb1')).mono ?_); rintro e w6 ⟨r2, c2, Z, rfl, hZ, o6, on6, s6⟩; have HZ := Lib.hid hZ; have HG6 := Lib.hid (HG5.out.only on6 hg5 (Nat.ne_of_gt hbg)); have HR6 := Lib.hid (HR5.out.only on6 hR5 (Nat.ne_of_lt hRb)); have HB6 := Lib.hid (HB5.out.trans (on6.below (Nat.le_of_lt hRb) (Nat.le_of_lt hR5))); have HX6 := Lib.hid (HX5.out.only on6 (.inl hb1') (Nat.le_of_lt hg5)); have HY6 := Lib.hid (HY5.out.only on6 (.inl (Nat.lt_trans hbg hgd)) (Nat.le_refl _)); have HZ6 := Lib.hid o6; have zy6 := on6.size; have SS6 := Lib.hid (And.intro HG6.out.1 HG6.out.2.1); have r0 := HR6.out.1; have r1' := HR6.out.2.1; have r2' := HR6.out.2.2.1; have r3 := HR6.out.2.2.2; have HGF := Lib.hid ((HG6.out.far (k := w.heap.size) (i := 0) (.int .i64 p) (Nat.ne_of_gt (Nat.lt_trans hRb hbg))).far (k := w.heap.size) (i := 1) (.slice r X.length c) (Nat.ne_of_gt (Nat.lt_trans hRb hbg))); have SS7 := Lib.hid (And.intro HGF.out.1 HGF.out.2.1); have hg6 := Nat.lt_of_lt_of_le hg5 zy6; clear o6 on6 s6 hZ))
  all_goals
    go_wp2
    refine bodyPost_ret (v := .tuple #[.agg #[.int .i64 p, .slice r X.length c], .slice r1 Y.length c1, .slice r2 Z.length c2]) (by simp [results, Try.results19, go_sem, r0, r1']) rfl ⟨p, r, X, c, r1, Y, c1, r2, Z, c2, rfl, HX.out, HY.out, HZ.out, ?_, ?_, ?_, (HB6.out.setCell (Nat.le_refl _) _).setCell (Nat.le_refl _) _⟩
    · exact ((HX6.out.far _ (.inl (by omega))).far _ (.inl (by omega))).mono (by omega) (by simp [World.setCell]; omega)
    · exact ((HY6.out.far _ (.inl (by omega))).far _ (.inl (by omega))).mono (by omega) (by simp [World.setCell]; omega)
    · exact ((HZ6.out.far _ (.inl (by omega))).far _ (.inl (by omega))).mono (by omega) (by simp [World.setCell])

end Go.Proofs.Ythifnhekmenjaaa

namespace Go.Proofs.Ythifnhekmenjaaa
open Go.RowKit
set_option linter.unusedVariables false

theorem seven {g : Nat} (h : g < 7) : g = 0 ∨ g = 1 ∨ g = 2 ∨ g = 3 ∨ g = 4 ∨ g = 5 ∨ g = 6 := by omega
/-- The sign of a grade. -/
def sg (c : Nat → Nat) (g : Nat) : Int := 1 - 2 * ((c g % 2 : Nat) : Int)
def c_reversal : Nat → Nat := fun g => g * (g - 1) / 2
theorem c_reversal_le {g : Nat} (hg : g < 7) : c_reversal g ≤ 21 := by rcases seven hg with rfl | rfl | rfl | rfl | rfl | rfl | rfl <;> decide
set_option maxHeartbeats 800000 in
theorem reversal_any (g : Nat) (hg : g < 7) (w : World) : Calls Try.prog 28 #[.int .i64 g] w fun e w' => e = .returned (.int .i64 (c_reversal g)) ∧ w = w' := by
  rcases seven hg with rfl | rfl | rfl | rfl | rfl | rfl | rfl <;>
  · go_enter Try.func28, Try.ntmps28
    go_wp2
    go_ret
    exact ⟨rfl, rfl⟩
set_option maxRecDepth 100000 in
set_option maxHeartbeats 1600000 in
theorem signsBy_reversal (w : World) : Calls Try.prog 49 #[.func (.func 28) #[] #[]] w fun e w' => e = .returned (.agg #[.int .i64 1, .int .i64 1, .int .i64 (-1), .int .i64 (-1), .int .i64 1, .int .i64 1, .int .i64 (-1)]) ∧ Below w.heap.size w w' := by
  go_enter Try.func49, Try.ntmps49
  go_wp2
  go_loopw [5] (fun t wr => ∃ i : Nat, i ≤ 7 ∧ t = .int .i64 i ∧ RowOwn wr (w.heap.size + 1) 0 7 (fun j => if j < i then sg c_reversal j else 0) ∧ RowOwn wr w.heap.size 0 7 (fun _ => 0) ∧ Below w.heap.size w wr) (fun t _ => 7 - (intOf t).toNat)
  case atStart => exact ⟨0, Nat.zero_le _, rfl, ⟨fun j hj => by rcases seven hj with rfl | rfl | rfl | rfl | rfl | rfl | rfl <;> simp [go_sem], fun j hj => by simp [go_sem]⟩, ⟨fun j hj => by rcases seven hj with rfl | rfl | rfl | rfl | rfl | rfl | rfl <;> simp [go_sem], fun j hj => by simp [go_sem]⟩, (below_alloc w _).alloc (by simp) _⟩
  case round =>
    obtain ⟨i, hi, rfl, hr, hz, hb⟩ := hrel
    have HR := Lib.hid hr
    have HZ := Lib.hid hz
    have HB := Lib.hid hb
    by_cases hlt : i < 7
    · have c0 := hr.cell i hlt
      have f0 := hr.free i hlt
      rw [Nat.zero_add] at c0 f0
      rw [if_neg (Nat.lt_irrefl _)] at c0
      obtain ⟨q, hq⟩ : ∃ q, q = c_reversal i := ⟨_, rfl⟩
      have hq21 : q ≤ 21 := by rw [hq]; exact c_reversal_le hlt
      have HQ := Lib.hid hq
      have hi1 : (i : Int) < 7 := by omega
      clear hr hz hb hq
      go_wp2_with (go_at_call 28; (with_reducible refine (reversal_any i hlt _).mono ?_); rintro e w1 ⟨rfl, rfl⟩; rw [← HQ.out])
      go_roundw
      case rel => exact ⟨i + 1, by omega, by go_num, row_fill HR.out hlt (by unfold sg; rw [← HQ.out]; omega), HZ.out.stay (Below.heap_setCell _ _ _ _ (show w.heap.size ≠ w.heap.size + 1 by omega)), HB.out.trans ((wrote_put0 (Wrote.refl (w.heap.size + 1) 0 7 _) hlt _).belowB (by omega))⟩
      case measure => simp [intOf]; omega
    · have hn : i = 7 := by omega
      subst hn
      have A0 : wr.cell? ⟨w.heap.size + 1, 0, none⟩ = some (.int .i64 (1)) := hr.cell 0 (by omega)
      have A1 : wr.cell? ⟨w.heap.size + 1, 1, none⟩ = some (.int .i64 (1)) := hr.cell 1 (by omega)
      have A2 : wr.cell? ⟨w.heap.size + 1, 2, none⟩ = some (.int .i64 (-1)) := hr.cell 2 (by omega)
      have A3 : wr.cell? ⟨w.heap.size + 1, 3, none⟩ = some (.int .i64 (-1)) := hr.cell 3 (by omega)
      have A4 : wr.cell? ⟨w.heap.size + 1, 4, none⟩ = some (.int .i64 (1)) := hr.cell 4 (by omega)
      have A5 : wr.cell? ⟨w.heap.size + 1, 5, none⟩ = some (.int .i64 (1)) := hr.cell 5 (by omega)
      have A6 : wr.cell? ⟨w.heap.size + 1, 6, none⟩ = some (.int .i64 (-1)) := hr.cell 6 (by omega)
      have Z0 : wr.cell? ⟨w.heap.size, 0, none⟩ = some (.int .i64 0) := hz.cell 0 (by omega)
      have F0 : wr.frozen? ⟨w.heap.size, 0, none⟩ = false := hz.free 0 (by omega)
      have Z1 : wr.cell? ⟨w.heap.size, 1, none⟩ = some (.int .i64 0) := hz.cell 1 (by omega)
      have F1 : wr.frozen? ⟨w.heap.size, 1, none⟩ = false := hz.free 1 (by omega)
      have Z2 : wr.cell? ⟨w.heap.size, 2, none⟩ = some (.int .i64 0) := hz.cell 2 (by omega)
      have F2 : wr.frozen? ⟨w.heap.size, 2, none⟩ = false := hz.free 2 (by omega)
      have Z3 : wr.cell? ⟨w.heap.size, 3, none⟩ = some (.int .i64 0) := hz.cell 3 (by omega)
      have F3 : wr.frozen? ⟨w.heap.size, 3, none⟩ = false := hz.free 3 (by omega)
      have Z4 : wr.cell? ⟨w.heap.size, 4, none⟩ = some (.int .i64 0) := hz.cell 4 (by omega)
      have F4 : wr.frozen? ⟨w.heap.size, 4, none⟩ = false := hz.free 4 (by omega)
      have Z5 : wr.cell? ⟨w.heap.size, 5, none⟩ = some (.int .i64 0) := hz.cell 5 (by omega)
      have F5 : wr.frozen? ⟨w.heap.size, 5, none⟩ = false := hz.free 5 (by omega)
      have Z6 : wr.cell? ⟨w.heap.size, 6, none⟩ = some (.int .i64 0) := hz.cell 6 (by omega)
      have F6 : wr.frozen? ⟨w.heap.size, 6, none⟩ = false := hz.free 6 (by omega)
      clear hr hz
      go_wp2
      refine bodyPost_ret (v := .agg #[.int .i64 1, .int .i64 1, .int .i64 (-1), .int .i64 (-1), .int .i64 1, .int .i64 1, .int .i64 (-1)]) (by simp [results, Try.results49, go_sem, Z0, Z1, Z2, Z3, Z4, Z5, Z6]) rfl ⟨rfl, ?_⟩
      have hb := HB.out
      have hz := hb.size
      (have hs_hb := hb.size; (repeat' (first | with_reducible exact Below.refl _ _ | (with_reducible refine Below.setCell ?_ ?_ _) | (with_reducible refine Below.alloc ?_ ?_ _) | (with_reducible refine Below.drew ?_) | (with_reducible refine below_step ?_ ?_ hb))); all_goals (first | (simp; done) | omega | (simp; omega) | (simp at hs_hb ⊢; omega)))
end Go.Proofs.Ythifnhekmenjaaa
