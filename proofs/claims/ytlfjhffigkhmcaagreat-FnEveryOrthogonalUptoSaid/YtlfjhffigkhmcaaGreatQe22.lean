/-
  Spaces and multivectors checked to be versors (program): contracts of the program and of the model.
  Conditions: the lists are nil or rows of known cells, of at most 1048576 numbers.
-/
import Derived.Test.YtlfjhffigkhmcaaGreatQe19
import Derived.Test.YtlfjhffigkhmcaaGreatQe21
import Derived.Deep.RegionHeld3
import Derived.Deep.DeepCutAuto
namespace Go.Proofs.YtlfjhffigkhmcaaGreat
open Go.RowKit
set_option linter.unusedVariables false

/-- The code of a regular space and a versor. -/
def vrC (p : Int) (S x : List Int) : Int := if regC p S [x] = 0 then (if isVr p S x = true then 0 else 5) else regC p S [x]
theorem vrC_cases (p : Int) (S x : List Int) : (regC p S [x] ≠ 0 ∧ vrC p S x = regC p S [x]) ∨ (regC p S [x] = 0 ∧ isVr p S x = false ∧ vrC p S x = 5) ∨ (regC p S [x] = 0 ∧ isVr p S x = true ∧ vrC p S x = 0) := by
  unfold vrC
  by_cases h : regC p S [x] = 0
  · rw [if_pos h]
    cases hv : isVr p S x with
    | false => exact .inr (.inl ⟨h, rfl, if_neg (by decide)⟩)
    | true => exact .inr (.inr ⟨h, rfl, if_pos rfl⟩)
  · rw [if_neg h]; exact .inl ⟨h, rfl⟩
theorem vrC_zero {p : Int} {S x : List Int} (h : vrC p S x = 0) : isSp p S = true ∧ isMv p S x = true ∧ isVr p S x = true ∧ regC p S [x] = 0 := by
  rcases vrC_cases p S x with ⟨h1, h2⟩ | ⟨_, _, h2⟩ | ⟨h1, h2, _⟩
  · rw [h2] at h; exact absurd h h1
  · rw [h] at h2; cases h2
  · have h3 := regC_zero h1
    rw [mv_all1] at h3
    exact ⟨h3.1, h3.2, h2, h1⟩
theorem asVersor_yes (pS : Int) (aS : Option Addr) (S : List Int) (cS loS tpS : Nat) (ax : Option Addr) (x : List Int) (cx lox tpx : Nat) (w : World) (hs : isSp pS S = true) (hS : RowIn loS tpS w aS S) (tS : tpS ≤ w.heap.size) (hx : RowIn lox tpx w ax x) (tx : tpx ≤ w.heap.size) (mx : isMv pS S x = true) (hv : isVr pS S x = true) :
    Calls Tryz.prog 55 #[.agg #[.int .i64 pS, .slice aS S.length cS, .slice ax x.length cx]] w (fun e w' => e = .returned (.tuple #[.agg #[.int .i64 pS, .slice aS S.length cS, .slice ax x.length cx, .int .i64 pS, .int .i64 (nrF pS S x)], .bool true]) ∧ Below w.heap.size w w') :=
  (asVersor_any pS aS S cS loS tpS ax x cx lox tpx w hs hS tS hx tx mx).mono fun _ _ h => by
    rcases h with ⟨_, h⟩ | ⟨h, _⟩
    · exact h
    · rw [hv] at h; cases h
theorem asVersor_no (pS : Int) (aS : Option Addr) (S : List Int) (cS loS tpS : Nat) (ax : Option Addr) (x : List Int) (cx lox tpx : Nat) (w : World) (hs : isSp pS S = true) (hS : RowIn loS tpS w aS S) (tS : tpS ≤ w.heap.size) (hx : RowIn lox tpx w ax x) (tx : tpx ≤ w.heap.size) (mx : isMv pS S x = true) (hv : isVr pS S x = false) :
    Calls Tryz.prog 55 #[.agg #[.int .i64 pS, .slice aS S.length cS, .slice ax x.length cx]] w (fun e w' => e = .returned (.tuple #[.agg #[.int .i64 0, .slice none 0 0, .slice none 0 0, .int .i64 0, .int .i64 0], .bool false]) ∧ Below w.heap.size w w') :=
  (asVersor_any pS aS S cS loS tpS ax x cx lox tpx w hs hS tS hx tx mx).mono fun _ _ h => by
    rcases h with ⟨h, _⟩ | ⟨_, h⟩
    · rw [hv] at h; cases h
    · exact h

/-- A versor with its norm, or a zero one, and the code. -/
def ChV7 (p : Int) (aS : Option Addr) (S : List Int) (cS : Nat) (ax : Option Addr) (x : List Int) (cx : Nat) (w : World) (e : Ending) (w' : World) : Prop :=
  (vrC p S x = 0 ∧ e = .returned (.tuple #[.agg #[.int .i64 p, .slice aS S.length cS, .slice ax x.length cx, .int .i64 p, .int .i64 (nrF p S x)], .int .i64 0]) ∧ Below w.heap.size w w')
  ∨ (vrC p S x ≠ 0 ∧ e = .returned (.tuple #[.agg #[.int .i64 0, .slice none 0 0, .slice none 0 0, .int .i64 0, .int .i64 0], .int .i64 (vrC p S x)]) ∧ Below w.heap.size w w')

set_option maxRecDepth 100000 in
set_option maxHeartbeats 6400000 in
theorem checkVersor_any (pS : Int) (aS : Option Addr) (S : List Int) (cS loS tpS : Nat) (ax : Option Addr) (x : List Int) (cx lox tpx : Nat) (w : World) (hS : RowIn loS tpS w aS S) (tS : tpS ≤ w.heap.size) (sS : S.length ≤ 1048576) (hx : RowIn lox tpx w ax x) (tx : tpx ≤ w.heap.size) (sx : x.length ≤ 1048576) :
    Calls Tryz.prog 29 #[.agg #[.int .i64 pS, .slice aS S.length cS], .slice ax x.length cx] w (ChV7 pS aS S cS ax x cx w) := by
  have HS := Lib.hid hS
  have Hx := Lib.hid hx
  rcases vrC_cases pS S x with ⟨h0, hc⟩ | ⟨h0, hv, hc⟩ | ⟨h0, hv, hc⟩
  · obtain ⟨C, hC⟩ : ∃ c, c = regC pS S [x] := ⟨_, rfl⟩
    rw [← hC] at h0 hc
    have hc1 : (C != 0) = true := by simpa using h0
    have HCE := Lib.hid hC
    have HC := Lib.hid hc
    have hne : ¬ vrC pS S x = 0 := by rw [hc]; exact h0
    have HNE := Lib.hid hne
    clear hc hC h0 hne
    have k0 := nw0 w (.int .i64 pS) (.slice aS S.length cS) 24
    have k1 := nw1 w (.int .i64 pS) (.slice aS S.length cS) 24
    have HB0 := Lib.hid (below_alloc w (.cells #[.int .i64 pS, .slice aS S.length cS] 24))
    clear hS hx
    go_enter Tryz.func29, Tryz.ntmps29
    go_upto_region 1 with fail
    obtain ⟨w0, hw0'⟩ : ∃ z, z = w.alloc (.cells #[.int .i64 pS, .slice aS S.length cS] 24) := ⟨_, rfl⟩
    rw [← hw0'] at HB0 k0 k1 ⊢
    have hw0 : w.heap.size < w0.heap.size := by rw [hw0']; simp
    have hwz : w.heap.size + 1 = w0.heap.size := by rw [hw0']; simp
    try rw [hwz]
    clear hw0'
    obtain ⟨w1, hw1⟩ : ∃ z, z = w0.alloc (.cells #[.int .i64 0, .slice none 0 0, .slice none 0 0, .int .i64 0, .int .i64 0] 52) := ⟨_, rfl⟩
    obtain ⟨g, hg⟩ : ∃ b, b = w0.heap.size := ⟨_, rfl⟩
    have hs0 := ss2 (below_alloc w0 (.cells #[.int .i64 0, .slice none 0 0, .slice none 0 0, .int .i64 0, .int .i64 0] 52)) hw0 ⟨k0, k1⟩
    have z0 : V5 g (.int .i64 0) (.slice none 0 0) (.slice none 0 0) (.int .i64 0) (.int .i64 0) w1 := by rw [hw1, hg]; exact V5.new _ _ _ _ _ _ _
    have HB1 : Hid (Below w.heap.size w w1) := by show Below _ _ _; rw [hw1]; exact HB0.out.alloc HB0.out.size _
    have hg1 : g < w1.heap.size := by rw [hw1, hg]; simp
    have hwg : w.heap.size < g := by omega
    rw [← hw1] at hs0
    rw [← hw1]
    rw [← hg]
    clear hw1 hwz hg k0 k1
    have hd1 : w.heap.size < w1.heap.size := Nat.lt_trans hwg hg1
    have SS1 := Lib.hid hs0
    have ZZ1 := Lib.hid z0
    obtain ⟨k0, k1⟩ := hs0
    clear z0
    go_upto_region 2 with (go_at_call 13; ((with_reducible refine (checkR1 pS aS S cS loS tpS ax x cx lox tpx _ _ w1 _ rfl (HS.out.below HB1.out tS) (Nat.le_trans tS HB1.out.size) sS (Hx.out.below HB1.out tx) (Nat.le_trans tx HB1.out.size) sx).mono ?_); rintro e w2 ⟨rfl, b_⟩; rw [← HCE.out]; have b2_ := below_step (below_alloc w1 (.cells #[.slice ax x.length cx] 22)) (size_alloc w1 _) b_; have SS2 := Lib.hid (ss2 b2_ hd1 SS1.out); have ZZ2 := Lib.hid (ZZ1.out.below b2_ hg1); have HB2 := Lib.hid (below_step HB1.out HB1.out.size b2_); have hg2 := Nat.lt_of_lt_of_le hg1 b2_.size; have hd2 := Nat.lt_of_lt_of_le hd1 b2_.size; clear b_ b2_ k0 k1))
    obtain ⟨k0, k1⟩ := SS2.out
    obtain ⟨⟨z0, z1, z2, z3, z4⟩, y0, y1, y2, y3, y4⟩ := ZZ2.out
    go_wp2
    refine bodyPost_ret (v := .tuple #[.agg #[.int .i64 0, .slice none 0 0, .slice none 0 0, .int .i64 0, .int .i64 0], .int .i64 C]) (by simp [results, Tryz.results29, go_sem, z0, z1, z2, z3, z4]) rfl (.inr ⟨HNE.out, by rw [HC.out], below_vput5 HB2.out (Nat.le_of_lt hwg)⟩)
  · have HC0 := Lib.hid h0
    have HC := Lib.hid hc
    have HV := Lib.hid hv
    have h3 := regC_zero h0
    rw [mv_all1] at h3
    have HI := Lib.hid h3.1
    have HMX := Lib.hid h3.2
    obtain ⟨F, hF⟩ : ∃ f, f = nrF pS S x := ⟨_, rfl⟩
    have HFE := Lib.hid hF
    clear hc h0 hv h3 hF
    have k0 := nw0 w (.int .i64 pS) (.slice aS S.length cS) 24
    have k1 := nw1 w (.int .i64 pS) (.slice aS S.length cS) 24
    have HB0 := Lib.hid (below_alloc w (.cells #[.int .i64 pS, .slice aS S.length cS] 24))
    clear hS hx
    go_enter Tryz.func29, Tryz.ntmps29
    go_upto_region 1 with fail
    obtain ⟨w0, hw0'⟩ : ∃ z, z = w.alloc (.cells #[.int .i64 pS, .slice aS S.length cS] 24) := ⟨_, rfl⟩
    rw [← hw0'] at HB0 k0 k1 ⊢
    have hw0 : w.heap.size < w0.heap.size := by rw [hw0']; simp
    have hwz : w.heap.size + 1 = w0.heap.size := by rw [hw0']; simp
    try rw [hwz]
    clear hw0'
    obtain ⟨w1, hw1⟩ : ∃ z, z = w0.alloc (.cells #[.int .i64 0, .slice none 0 0, .slice none 0 0, .int .i64 0, .int .i64 0] 52) := ⟨_, rfl⟩
    obtain ⟨g, hg⟩ : ∃ b, b = w0.heap.size := ⟨_, rfl⟩
    have hs0 := ss2 (below_alloc w0 (.cells #[.int .i64 0, .slice none 0 0, .slice none 0 0, .int .i64 0, .int .i64 0] 52)) hw0 ⟨k0, k1⟩
    have z0 : V5 g (.int .i64 0) (.slice none 0 0) (.slice none 0 0) (.int .i64 0) (.int .i64 0) w1 := by rw [hw1, hg]; exact V5.new _ _ _ _ _ _ _
    have HB1 : Hid (Below w.heap.size w w1) := by show Below _ _ _; rw [hw1]; exact HB0.out.alloc HB0.out.size _
    have hg1 : g < w1.heap.size := by rw [hw1, hg]; simp
    have hwg : w.heap.size < g := by omega
    rw [← hw1] at hs0
    rw [← hw1]
    rw [← hg]
    clear hw1 hwz hg k0 k1
    have hd1 : w.heap.size < w1.heap.size := Nat.lt_trans hwg hg1
    have SS1 := Lib.hid hs0
    have ZZ1 := Lib.hid z0
    obtain ⟨k0, k1⟩ := hs0
    clear z0
    go_upto_region 2 with (go_at_call 13; ((with_reducible refine (checkR1 pS aS S cS loS tpS ax x cx lox tpx _ _ w1 _ rfl (HS.out.below HB1.out tS) (Nat.le_trans tS HB1.out.size) sS (Hx.out.below HB1.out tx) (Nat.le_trans tx HB1.out.size) sx).mono ?_); rintro e w2 ⟨rfl, b_⟩; rw [HC0.out]; have b2_ := below_step (below_alloc w1 (.cells #[.slice ax x.length cx] 22)) (size_alloc w1 _) b_; have SS2 := Lib.hid (ss2 b2_ hd1 SS1.out); have ZZ2 := Lib.hid (ZZ1.out.below b2_ hg1); have HB2 := Lib.hid (below_step HB1.out HB1.out.size b2_); have hg2 := Nat.lt_of_lt_of_le hg1 b2_.size; have hd2 := Nat.lt_of_lt_of_le hd1 b2_.size; clear b_ b2_ k0 k1))
    obtain ⟨k0, k1⟩ := SS2.out
    obtain ⟨⟨z0, z1, z2, z3, z4⟩, y0, y1, y2, y3, y4⟩ := ZZ2.out
    go_upto_region 5 with (go_at_call 55; ((with_reducible refine (asVersor_no pS aS S cS loS tpS ax x cx lox tpx w2 HI.out (HS.out.below HB2.out tS) (Nat.le_trans tS HB2.out.size) (Hx.out.below HB2.out tx) (Nat.le_trans tx HB2.out.size) HMX.out HV.out).mono ?_); rintro e w3 ⟨rfl, b_⟩; have SS3 := Lib.hid (ss2 b_ hd2 SS2.out); have ZZ3 := Lib.hid (ZZ2.out.below b_ hg2); have HB3 := Lib.hid (below_step HB2.out HB2.out.size b_); have hg3 := Nat.lt_of_lt_of_le hg2 b_.size; clear b_ k0 k1 z0 z1 z2 z3 z4 y0 y1 y2 y3 y4))
    obtain ⟨w4, hw4⟩ : ∃ z, z = w3.alloc (.cells #[.int .i64 0, .slice none 0 0, .slice none 0 0, .int .i64 0, .int .i64 0] 52) := ⟨_, rfl⟩
    obtain ⟨f, hf⟩ : ∃ b, b = w3.heap.size := ⟨_, rfl⟩
    have F4 : V5 f (.int .i64 0) (.slice none 0 0) (.slice none 0 0) (.int .i64 0) (.int .i64 0) w4 := by rw [hw4, hf]; exact V5.new _ _ _ _ _ _ _
    have ZZ4 : V5 g (.int .i64 0) (.slice none 0 0) (.slice none 0 0) (.int .i64 0) (.int .i64 0) w4 := by rw [hw4]; exact ZZ3.out.below (below_alloc w3 _) hg3
    have HB4 : Hid (Below w.heap.size w w4) := by show Below _ _ _; rw [hw4]; exact HB3.out.alloc HB3.out.size _
    have hgf : g ≠ f := by rw [hf]; exact Nat.ne_of_lt hg3
    rw [← hw4, ← hf]
    clear hw4 hf
    obtain ⟨⟨f0, f1, f2, f3, f4⟩, _⟩ := F4
    obtain ⟨⟨z0, z1, z2, z3, z4⟩, y0, y1, y2, y3, y4⟩ := ZZ4
    go_wp2
    refine bodyPost_ret (v := .tuple #[.agg #[.int .i64 0, .slice none 0 0, .slice none 0 0, .int .i64 0, .int .i64 0], .int .i64 5]) (by simp [results, Tryz.results29, go_sem, z0, z1, z2, z3, z4]) rfl (.inr ⟨by rw [HC.out]; decide, by rw [HC.out], below_vput5 HB4.out (Nat.le_of_lt hwg)⟩)
  · have HC0 := Lib.hid h0
    have HC := Lib.hid hc
    have HV := Lib.hid hv
    have h3 := regC_zero h0
    rw [mv_all1] at h3
    have HI := Lib.hid h3.1
    have HMX := Lib.hid h3.2
    obtain ⟨F, hF⟩ : ∃ f, f = nrF pS S x := ⟨_, rfl⟩
    have HFE := Lib.hid hF
    clear hc h0 hv h3 hF
    have k0 := nw0 w (.int .i64 pS) (.slice aS S.length cS) 24
    have k1 := nw1 w (.int .i64 pS) (.slice aS S.length cS) 24
    have HB0 := Lib.hid (below_alloc w (.cells #[.int .i64 pS, .slice aS S.length cS] 24))
    clear hS hx
    go_enter Tryz.func29, Tryz.ntmps29
    go_upto_region 1 with fail
    obtain ⟨w0, hw0'⟩ : ∃ z, z = w.alloc (.cells #[.int .i64 pS, .slice aS S.length cS] 24) := ⟨_, rfl⟩
    rw [← hw0'] at HB0 k0 k1 ⊢
    have hw0 : w.heap.size < w0.heap.size := by rw [hw0']; simp
    have hwz : w.heap.size + 1 = w0.heap.size := by rw [hw0']; simp
    try rw [hwz]
    clear hw0'
    obtain ⟨w1, hw1⟩ : ∃ z, z = w0.alloc (.cells #[.int .i64 0, .slice none 0 0, .slice none 0 0, .int .i64 0, .int .i64 0] 52) := ⟨_, rfl⟩
    obtain ⟨g, hg⟩ : ∃ b, b = w0.heap.size := ⟨_, rfl⟩
    have hs0 := ss2 (below_alloc w0 (.cells #[.int .i64 0, .slice none 0 0, .slice none 0 0, .int .i64 0, .int .i64 0] 52)) hw0 ⟨k0, k1⟩
    have z0 : V5 g (.int .i64 0) (.slice none 0 0) (.slice none 0 0) (.int .i64 0) (.int .i64 0) w1 := by rw [hw1, hg]; exact V5.new _ _ _ _ _ _ _
    have HB1 : Hid (Below w.heap.size w w1) := by show Below _ _ _; rw [hw1]; exact HB0.out.alloc HB0.out.size _
    have hg1 : g < w1.heap.size := by rw [hw1, hg]; simp
    have hwg : w.heap.size < g := by omega
    rw [← hw1] at hs0
    rw [← hw1]
    rw [← hg]
    clear hw1 hwz hg k0 k1
    have hd1 : w.heap.size < w1.heap.size := Nat.lt_trans hwg hg1
    have SS1 := Lib.hid hs0
    have ZZ1 := Lib.hid z0
    obtain ⟨k0, k1⟩ := hs0
    clear z0
    go_upto_region 2 with (go_at_call 13; ((with_reducible refine (checkR1 pS aS S cS loS tpS ax x cx lox tpx _ _ w1 _ rfl (HS.out.below HB1.out tS) (Nat.le_trans tS HB1.out.size) sS (Hx.out.below HB1.out tx) (Nat.le_trans tx HB1.out.size) sx).mono ?_); rintro e w2 ⟨rfl, b_⟩; rw [HC0.out]; have b2_ := below_step (below_alloc w1 (.cells #[.slice ax x.length cx] 22)) (size_alloc w1 _) b_; have SS2 := Lib.hid (ss2 b2_ hd1 SS1.out); have ZZ2 := Lib.hid (ZZ1.out.below b2_ hg1); have HB2 := Lib.hid (below_step HB1.out HB1.out.size b2_); have hg2 := Nat.lt_of_lt_of_le hg1 b2_.size; have hd2 := Nat.lt_of_lt_of_le hd1 b2_.size; clear b_ b2_ k0 k1))
    obtain ⟨k0, k1⟩ := SS2.out
    obtain ⟨⟨z0, z1, z2, z3, z4⟩, y0, y1, y2, y3, y4⟩ := ZZ2.out
    go_upto_region 5 with (go_at_call 55; ((with_reducible refine (asVersor_yes pS aS S cS loS tpS ax x cx lox tpx w2 HI.out (HS.out.below HB2.out tS) (Nat.le_trans tS HB2.out.size) (Hx.out.below HB2.out tx) (Nat.le_trans tx HB2.out.size) HMX.out HV.out).mono ?_); rintro e w3 ⟨rfl, b_⟩; rw [← HFE.out]; have SS3 := Lib.hid (ss2 b_ hd2 SS2.out); have ZZ3 := Lib.hid (ZZ2.out.below b_ hg2); have HB3 := Lib.hid (below_step HB2.out HB2.out.size b_); have hg3 := Nat.lt_of_lt_of_le hg2 b_.size; clear b_ k0 k1 z0 z1 z2 z3 z4 y0 y1 y2 y3 y4))
    obtain ⟨w4, hw4⟩ : ∃ z, z = w3.alloc (.cells #[.int .i64 pS, .slice aS S.length cS, .slice ax x.length cx, .int .i64 pS, .int .i64 F] 52) := ⟨_, rfl⟩
    obtain ⟨f, hf⟩ : ∃ b, b = w3.heap.size := ⟨_, rfl⟩
    have F4 : V5 f (.int .i64 pS) (.slice aS S.length cS) (.slice ax x.length cx) (.int .i64 pS) (.int .i64 F) w4 := by rw [hw4, hf]; exact V5.new _ _ _ _ _ _ _
    have ZZ4 : V5 g (.int .i64 0) (.slice none 0 0) (.slice none 0 0) (.int .i64 0) (.int .i64 0) w4 := by rw [hw4]; exact ZZ3.out.below (below_alloc w3 _) hg3
    have HB4 : Hid (Below w.heap.size w w4) := by show Below _ _ _; rw [hw4]; exact HB3.out.alloc HB3.out.size _
    have hgf : g ≠ f := by rw [hf]; exact Nat.ne_of_lt hg3
    rw [← hw4, ← hf]
    clear hw4 hf
    obtain ⟨⟨f0, f1, f2, f3, f4⟩, _⟩ := F4
    obtain ⟨⟨z0, z1, z2, z3, z4⟩, y0, y1, y2, y3, y4⟩ := ZZ4
    go_wp2
    refine bodyPost_ret (v := .tuple #[.agg #[.int .i64 pS, .slice aS S.length cS, .slice ax x.length cx, .int .i64 pS, .int .i64 F], .int .i64 0]) (by simp [results, Tryz.results29, go_sem, z0, z1, z2, z3, z4]) rfl (.inl ⟨HC.out, by rw [HFE.out], below_vput5 HB4.out (Nat.le_of_lt hwg)⟩)

theorem checkVersor_y (pS : Int) (aS : Option Addr) (S : List Int) (cS loS tpS : Nat) (ax : Option Addr) (x : List Int) (cx lox tpx : Nat) (w : World) (hS : RowIn loS tpS w aS S) (tS : tpS ≤ w.heap.size) (sS : S.length ≤ 1048576) (hx : RowIn lox tpx w ax x) (tx : tpx ≤ w.heap.size) (sx : x.length ≤ 1048576) (hc : vrC pS S x = 0) :
    Calls Tryz.prog 29 #[.agg #[.int .i64 pS, .slice aS S.length cS], .slice ax x.length cx] w (fun e w' => e = .returned (.tuple #[.agg #[.int .i64 pS, .slice aS S.length cS, .slice ax x.length cx, .int .i64 pS, .int .i64 (nrF pS S x)], .int .i64 0]) ∧ Below w.heap.size w w') :=
  (checkVersor_any pS aS S cS loS tpS ax x cx lox tpx w hS tS sS hx tx sx).mono fun _ _ h => by
    rcases h with ⟨h0, h⟩ | ⟨h0, h⟩
    · exact h
    · exact absurd hc h0
theorem checkVersor_n (pS : Int) (aS : Option Addr) (S : List Int) (cS loS tpS : Nat) (ax : Option Addr) (x : List Int) (cx lox tpx : Nat) (w : World) (hS : RowIn loS tpS w aS S) (tS : tpS ≤ w.heap.size) (sS : S.length ≤ 1048576) (hx : RowIn lox tpx w ax x) (tx : tpx ≤ w.heap.size) (sx : x.length ≤ 1048576) (hc : vrC pS S x ≠ 0) :
    Calls Tryz.prog 29 #[.agg #[.int .i64 pS, .slice aS S.length cS], .slice ax x.length cx] w (fun e w' => e = .returned (.tuple #[.agg #[.int .i64 0, .slice none 0 0, .slice none 0 0, .int .i64 0, .int .i64 0], .int .i64 (vrC pS S x)]) ∧ Below w.heap.size w w') :=
  (checkVersor_any pS aS S cS loS tpS ax x cx lox tpx w hS tS sS hx tx sx).mono fun _ _ h => by
    rcases h with ⟨h0, h⟩ | ⟨h0, h⟩
    · exact absurd h0 hc
    · exact h

end Go.Proofs.YtlfjhffigkhmcaaGreat
