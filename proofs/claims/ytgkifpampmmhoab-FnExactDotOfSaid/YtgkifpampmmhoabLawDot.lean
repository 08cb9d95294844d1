/-
  What the program's DotOf returns, and the walk of its law.
  Conditions: of the law none but that the lists are nil or rows of known cells.
-/
import Derived.Test.YtgkifpampmmhoabDotOf
namespace Go.Proofs.Ytgkifpampmmhoab
open Go.RowKit Go.ChangeShapes Go.WideShapes
set_option linter.unusedVariables false

theorem dotOf_impl (p : Int) (b c : Nat) (zs ws : List Int) (w : World) (hb : RowAt w b zs) (hc : RowAt w c ws) (hbl : b < w.heap.size) (hcl : c < w.heap.size) (h1 : zs.length ≤ 1048576) (h2 : ws.length ≤ 1048576) :
    Calls Try.prog 15 #[.int .i64 p, .slice (some ⟨b, 0, none⟩) zs.length zs.length, .slice (some ⟨c, 0, none⟩) ws.length ws.length] w fun e w' => e = .returned (.tuple #[.int .i64 (dotV p zs ws), .int .i64 (dotC p zs ws)]) ∧ Below w.heap.size w w' := by
  by_cases hp : prm p = true
  · by_cases hl : zs.length = ws.length
    · by_cases h64 : zs.length ≤ 64
      · exact dotOf_loop p b c zs ws w hp hb hc hbl hcl hl h64
      · have HS := Lib.hid (dot_bad hp (by simp [dotOk]; intro _ h; omega : dotOk p zs ws = false))
        have HP := Lib.hid hp
        have hl1 : zs.length ≤ ws.length ∧ ws.length ≤ zs.length := by omega
        clear hb hc hp hl
        go_enter Try.func15, Try.ntmps15
        go_wp2_with (go_at_call 27; refine (isPrime_any p _).mono ?_; rintro e w1 ⟨rfl, rfl⟩; rw [HP.out])
        go_ret2
        exact ⟨by rw [HS.out.1, HS.out.2]; rfl, Below.refl _ _⟩
    · have HS := Lib.hid (dot_bad hp (by simp [dotOk, hl] : dotOk p zs ws = false))
      have HP := Lib.hid hp
      clear hb hc hp
      go_enter Try.func15, Try.ntmps15
      go_wp2_with (go_at_call 27; refine (isPrime_any p _).mono ?_; rintro e w1 ⟨rfl, rfl⟩; rw [HP.out])
      go_ret2
      exact ⟨by rw [HS.out.1, HS.out.2]; rfl, Below.refl _ _⟩
  · have hp' : prm p = false := by simpa using hp
    have HP := Lib.hid hp'
    have HS := Lib.hid (dot_no (zs := zs) (ws := ws) hp')
    clear hp hp' hb hc
    go_enter Try.func15, Try.ntmps15
    go_wp2_with (go_at_call 27; refine (isPrime_any p _).mono ?_; rintro e w1 ⟨rfl, rfl⟩; rw [HP.out])
    go_ret2
    exact ⟨by rw [HS.out.1, HS.out.2]; rfl, Below.refl _ _⟩

set_option maxRecDepth 100000 in
set_option maxHeartbeats 1600000 in
theorem law_dotOf (p : Int) (a b : Option Addr) (zs ws : List Int) (ca cb : Nat) (w : World) (ha : In64 w a zs) (hb : In64 w b ws) (h1 : zs.length ≤ 9223372036854775807) (h2 : ws.length ≤ 9223372036854775807) :
    Calls Try.prog 6 #[.int .i64 p, .slice a zs.length ca, .slice b ws.length cb] w fun e w' => e = .returned (.bool true) ∧ Below w.heap.size w w' := by
  have HA := Lib.hid ha
  have HB := Lib.hid hb
  clear ha hb
  by_cases hz : zs.length ≤ 1048576
  · by_cases hw : ws.length ≤ 1048576
    · go_enter Try.func6, Try.ntmps6
      go_wp2_with (first | (go_at_call 14; (with_reducible refine (copy_any a zs ca _ HA.out (by omega)).mono ?_); rintro e w1 ⟨rfl, k1, r1, z1⟩; have K1 := k1) | (go_at_call 14; (with_reducible refine (copy_any b ws cb _ (HB.out.below K1) (by omega)).mono ?_); rintro e w2 ⟨rfl, k2, r2, z2⟩; have K2 := below_step K1 K1.size k2; have y1 := r1.below z1 k2) | (go_at_call 13; refine (dotOf_spec p w.heap.size w1.heap.size zs ws _ y1 r2 (by omega) (by omega)).mono ?_; rintro e w3 ⟨rfl, k3⟩; have K3 := below_step K2 K2.size k3) | (go_at_call 14; (with_reducible refine (copy_any a zs ca _ (HA.out.below K3) (by omega)).mono ?_); rintro e w4 ⟨rfl, k4, r4, z4⟩; have K4 := below_step K3 K3.size k4) | (go_at_call 14; (with_reducible refine (copy_any b ws cb _ (HB.out.below K4) (by omega)).mono ?_); rintro e w5 ⟨rfl, k5, r5, z5⟩; have K5 := below_step K4 K4.size k5; have y4 := r4.below z4 k5; have s4 := Nat.lt_of_lt_of_le z4 k5.size) | (go_at_call 15; refine (dotOf_impl p w3.heap.size w4.heap.size zs ws _ y4 r5 s4 z5 (by omega) (by omega)).mono ?_; rintro e w6 ⟨rfl, k6⟩; have K6 := below_step K5 K5.size k6; have x4 := y4.below s4 k6; have x5 := r5.below z5 k6; have t4 := Nat.lt_of_lt_of_le s4 k6.size; have t5 := Nat.lt_of_lt_of_le z5 k6.size) | (go_at_call 14; (with_reducible refine (copy_any a zs ca _ (HA.out.below K6) (by omega)).mono ?_); rintro e w7 ⟨rfl, k7, r7, z7⟩; have K7 := below_step K6 K6.size k7; have u4 := x4.below t4 k7; have u5 := x5.below t5 k7; have v5 := Nat.lt_of_lt_of_le t5 k7.size) | (go_at_call 16; (with_reducible refine (same_any w3.heap.size w6.heap.size zs _ u4 r7 (by omega)).mono ?_); rintro e w8 ⟨rfl, k8⟩; have K8 := below_step K7 K7.size k8; have p5 := u5.below v5 k8; have q5 := Nat.lt_of_lt_of_le v5 k8.size) | (go_at_call 14; (with_reducible refine (copy_any b ws cb _ (HB.out.below K8) (by omega)).mono ?_); rintro e w9 ⟨rfl, k9, r9, z9⟩; have K9 := below_step K8 K8.size k9; have m5 := p5.below q5 k9) | (go_at_call 16; (with_reducible refine (same_any w4.heap.size w8.heap.size ws _ m5 r9 (by omega)).mono ?_); rintro e w10 ⟨rfl, k10⟩; have K10 := below_step K9 K9.size k10))
      go_ret
      exact ⟨rfl, K10⟩
    · go_enter Try.func6, Try.ntmps6
      go_wp2
      go_ret
      exact ⟨rfl, Below.refl _ _⟩
  · go_enter Try.func6, Try.ntmps6
    go_wp2
    go_ret
    exact ⟨rfl, Below.refl _ _⟩

/-- What the frame knows of a slice of numbers. -/
theorem in64_of {w : World} {a : Option Addr} {len cap : Nat} {zs : List Int}
    (h : (a = none ∧ len = 0 ∧ cap = 0 ∧ zs = []) ∨ ∃ x, a = some x ∧ len ≤ cap ∧ cap ≤ maxLen ∧ zs.length = cap ∧ (∀ i, i < zs.length → w.cell? (x.add i) = some (.int .i64 (zs.getD i 0))) ∧ ∀ n ∈ zs, (Lit.int .i64 n).wf = true) :
    ∃ ys : List Int, ys.length = len ∧ In64 w a ys ∧ len ≤ 9223372036854775807 := by
  rcases h with ⟨rfl, rfl, rfl, rfl⟩ | ⟨x, rfl, h1, h2, h3, h4, h5⟩
  · exact ⟨[], rfl, .inl rfl, by omega⟩
  · unfold maxLen at h2
    have hl : (zs.take len).length = len := by simp; omega
    refine ⟨zs.take len, hl, ?_, by omega⟩
    by_cases h0 : len = 0
    · exact .inl (by rw [h0]; rfl)
    · obtain ⟨xb, off, rfl, hc⟩ := ints_at h4 (by omega)
      have hlt : xb < w.heap.size := World.block_lt_of_cell? w ⟨xb, off + 0, none⟩ (hc 0 (by omega))
      refine .inr ⟨xb, off, rfl, hlt, fun i hi => ?_⟩
      rw [hl] at hi
      rw [hc i (by omega)]
      simp [hi]

theorem law_dotOf_all (p : Int) (a b : Option Addr) (la ca lb cb : Nat) (za zb : List Int) (w : World)
    (ha : (a = none ∧ la = 0 ∧ ca = 0 ∧ za = []) ∨ ∃ x, a = some x ∧ la ≤ ca ∧ ca ≤ maxLen ∧ za.length = ca ∧ (∀ i, i < za.length → w.cell? (x.add i) = some (.int .i64 (za.getD i 0))) ∧ ∀ n ∈ za, (Lit.int .i64 n).wf = true)
    (hb : (b = none ∧ lb = 0 ∧ cb = 0 ∧ zb = []) ∨ ∃ x, b = some x ∧ lb ≤ cb ∧ cb ≤ maxLen ∧ zb.length = cb ∧ (∀ i, i < zb.length → w.cell? (x.add i) = some (.int .i64 (zb.getD i 0))) ∧ ∀ n ∈ zb, (Lit.int .i64 n).wf = true) :
    Calls Try.prog 6 #[.int .i64 p, .slice a la ca, .slice b lb cb] w fun e w' => e = .returned (.bool true) ∧ Below w.heap.size w w' := by
  obtain ⟨zs, rfl, i1, l1⟩ := in64_of ha
  obtain ⟨ws, rfl, i2, l2⟩ := in64_of hb
  exact law_dotOf p a b zs ws ca cb w i1 i2 l1 l2

end Go.Proofs.Ytgkifpampmmhoab
