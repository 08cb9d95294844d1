/-
  Multivectors of zeros, blades and vectors in both: contracts.
  Conditions: the lists are nil or rows of known cells, of at most 1048576 numbers.
-/
import Derived.Test.YthifnhekmenjaaaQc15
import Derived.Test.YthifnhekmenjaaaQc16
namespace Go.Proofs.Ythifnhekmenjaaa
open Go.RowKit
set_option linter.unusedVariables false

/-- A row of one's own at the start of a new block. -/
def NewRow (n : Nat) (f : Nat → Int) (w : World) (e : Ending) (w' : World) : Prop :=
  ∃ b, e = .returned (.slice (some ⟨b, 0, none⟩) n n) ∧ w.heap.size ≤ b ∧ b < w'.heap.size ∧ RowOwn w' b 0 n f ∧ Below w.heap.size w w'
theorem RowOwn.own {lo tp : Nat} {w : World} {b o n : Nat} {f : Nat → Int} (h : RowOwn w b o n f) (h0 : lo ≤ b) (h1 : b < tp) : OwnR lo tp w (some ⟨b, o, none⟩) (mkR n f) :=
  .inr ⟨b, o, rfl, h0, h1, fun j hj => by
    rw [mkR_len] at hj
    rw [mkR_at _ hj]
    exact ⟨h.cell j hj, h.free j hj⟩⟩
theorem pow_lt {i n : Nat} (h : i < n) : 2 ^ i < 2 ^ n := Nat.pow_lt_pow_right (by decide) h

set_option maxHeartbeats 800000 in
theorem l04Zero_any (p : Int) (a : Option Addr) (S : List Int) (c : Nat) (w : World) (h : S.length ≤ 6) :
    Calls Try.prog 66 #[.agg #[.int .i64 p, .slice a S.length c]] w (NewRow (bl S) (fun _ => 0) w) := by
  have hbl := bl_le h
  have hmk := fun W => run_make_row' (P := Try.prog) 24 2 (.int .i64 0) 8 Try.underlying24 info64 rfl .i64 .i64 (bl S) (by omega) (by omega) W
  go_enter Try.func66, Try.ntmps66
  go_wp2_with (go_at_call 56; (with_reducible refine (l04Size_any p a S c _ h).mono ?_); rintro e w1 ⟨rfl, hb1⟩; have HB1 := Lib.hid hb1; have hz1 := hb1.size; clear hb1)
  go_ret
  have hb := below_step (below_alloc w _) (by simp) HB1.out
  exact ⟨w1.heap.size, rfl, hb.size, by simp, RowOwn.start w1 (bl S) _, hb.alloc (hb.size) _⟩

theorem SpecR.new {n : Nat} {f : Nat → Int} {b : Nat} {C : Int} {w w' : World} (h : RowOwn w' b 0 n f) (h0 : w.heap.size ≤ b) (h1 : b < w'.heap.size) (hb : Below w.heap.size w w') :
    SpecR (mkR n f) C w (.returned (.tuple #[.slice (some ⟨b, 0, none⟩) n n, .int .i64 C])) w' :=
  ⟨_, n, by rw [mkR_len], (h.own h0 h1).row, hb⟩
theorem ImplR.new {n : Nat} {f : Nat → Int} {b : Nat} {C : Int} {w w' : World} (h : RowOwn w' b 0 n f) (h0 : w.heap.size ≤ b) (h1 : b < w'.heap.size) (hb : Below w.heap.size w w') :
    ImplR (mkR n f) C w (.returned (.tuple #[.slice (some ⟨b, 0, none⟩) n n, .int .i64 C])) w' :=
  ⟨_, n, by rw [mkR_len], h.own h0 h1, hb⟩

theorem wrap_pow {i : Nat} (h : i < 6) : wrap64 ((2 : Int) ^ i) = ((2 ^ i : Nat) : Int) := by
  have : i = 0 ∨ i = 1 ∨ i = 2 ∨ i = 3 ∨ i = 4 ∨ i = 5 := by omega
  rcases this with rfl | rfl | rfl | rfl | rfl | rfl <;> simp [wrap64]
theorem pow_bl {v S : List Int} {i : Nat} (h : v.length = S.length) (hi : i < v.length) : 2 ^ i < bl S := by unfold bl; rw [← h]; exact pow_lt hi
theorem row_put0 {w : World} {b n j : Nat} {f g : Nat → Int} {v : Int} (h : RowOwn w b 0 n f) (hj : j < n) (e : ∀ i, i < n → (if i = j then v else f i) = g i) : RowOwn (w.setCell ⟨b, j, none⟩ (.int .i64 v)) b 0 n g := by
  have h2 := (h.put hj v).congr e
  rwa [Nat.zero_add] at h2
theorem wrote_put0 {b n j : Nat} {w w' : World} (h : Wrote b 0 n w w') (hj : j < n) (v : Value) : Wrote b 0 n w (w'.setCell ⟨b, j, none⟩ v) := by
  have h2 := h.set hj v
  rwa [Nat.zero_add] at h2
theorem RowOwn.stay {w w' : World} {b o n : Nat} {f : Nat → Int} (h : RowOwn w b o n f) (e : w'.heap[b]? = w.heap[b]?) : RowOwn w' b o n f :=
  ⟨fun j hj => (World.cell?_of_block (w := w) (a := ⟨b, o + j, none⟩) e).trans (h.cell j hj), fun j hj => (World.frozen?_of_block (w := w) (a := ⟨b, o + j, none⟩) e).trans (h.free j hj)⟩
theorem row_fill {w : World} {b n i : Nat} {g : Nat → Int} {v : Int} (h : RowOwn w b 0 n (fun j => if j < i then g j else 0)) (hi : i < n) (hv : v = g i) : RowOwn (w.setCell ⟨b, i, none⟩ (.int .i64 v)) b 0 n (fun j => if j < i + 1 then g j else 0) :=
  row_put0 h hi (fun j _ => by
    by_cases e : j = i
    · subst e; rw [if_pos rfl, if_pos (by omega), hv]
    · rw [if_neg e]
      by_cases e2 : j < i
      · rw [if_pos e2, if_pos (by omega)]
      · rw [if_neg e2, if_neg (by omega)])
theorem row_leave {w : World} {b n i : Nat} {g : Nat → Int} (h : RowOwn w b 0 n (fun j => if j < i then g j else 0)) (hv : g i = 0) : RowOwn w b 0 n (fun j => if j < i + 1 then g j else 0) :=
  h.congr (fun j _ => by
    by_cases e : j = i
    · subst e; rw [if_neg (Nat.lt_irrefl _), if_pos (by omega), hv]
    · by_cases e2 : j < i
      · rw [if_pos e2, if_pos (by omega)]
      · rw [if_neg e2, if_neg (by omega)])
theorem row_done {w : World} {b n : Nat} {g : Nat → Int} (h : RowOwn w b 0 n (fun j => if j < n then g j else 0)) : RowOwn w b 0 n g := h.congr (fun j hj => if_pos hj)
theorem row_zero {w : World} {b n : Nat} {g : Nat → Int} (h : RowOwn w b 0 n (fun _ => 0)) : RowOwn w b 0 n (fun j => if j < 0 then g j else 0) := h.congr (fun j _ => (if_neg (by omega)).symm)
theorem Wrote.belowB {b o n k : Nat} {w w' : World} (h : Wrote b o n w w') (hk : k ≤ b) : Below k w w' := ⟨h.os, h.tape, h.output, Nat.le_of_eq h.size.symm, fun i hi => h.block i (by omega)⟩

set_option maxRecDepth 100000 in
set_option maxHeartbeats 1600000 in
theorem l04Vector_any (p : Int) (aS : Option Addr) (S : List Int) (cS : Nat) (av : Option Addr) (v : List Int) (cv lov tpv : Nat) (w : World) (h : S.length ≤ 6) (hl : v.length = S.length) (hv : RowIn lov tpv w av v) (tv : tpv ≤ w.heap.size) :
    Calls Try.prog 67 #[.agg #[.int .i64 p, .slice aS S.length cS], .slice av v.length cv] w (NewRow (bl S) (vecF v v.length) w) := by
  have hbl := bl_le h
  have HV := Lib.hid hv
  have HL := Lib.hid hl
  clear hv hl
  go_enter Try.func67, Try.ntmps67
  go_wp2_with (go_at_call 66; (with_reducible refine (l04Zero_any p aS S cS _ h).mono ?_); rintro e w1 ⟨b1, rfl, hl1, hu1, ho1, hb1⟩; have HO1 := Lib.hid ho1; have HB1 := Lib.hid (below_step (below_alloc w _) (by simp) hb1); have hz1 := hb1.size; clear hb1 ho1)
  have hwb : w.heap.size ≤ b1 := by simp at hl1; omega
  go_loopw [6] (fun t wr => ∃ i : Nat, i ≤ v.length ∧ t = .int .i64 i ∧ RowOwn wr b1 0 (bl S) (vecF v i) ∧ Wrote b1 0 (bl S) w1 wr) (fun t _ => v.length - (intOf t).toNat)
  case atStart => exact ⟨0, Nat.zero_le _, rfl, HO1.out, Wrote.refl _ _ _ _⟩
  case round =>
    obtain ⟨i, hi, rfl, hr, hw⟩ := hrel
    have HR := Lib.hid hr
    have HW := Lib.hid hw
    by_cases hlt : i < v.length
    · obtain ⟨b2, o2, ha2, l2, t2, hc2⟩ := ((HV.out.below HB1.out tv).same (hw.same (by omega : b1 < lov ∨ tpv ≤ b1))).num hlt
      subst ha2
      obtain ⟨q, hq⟩ : ∃ q, q = 2 ^ i := ⟨_, rfl⟩
      have HQ := Lib.hid hq
      have hqn : q < bl S := by rw [hq]; exact pow_bl HL.out hlt
      have c0 := hr.cell q hqn
      have f0 := hr.free q hqn
      rw [Nat.zero_add] at c0 f0
      have hi1 : (i : Int) < (v.length : Int) := by omega
      have hi6 : i < 6 := by have := HL.out; omega
      have e1 : wrap64 ((2 : Int) ^ i) = (q : Int) := by rw [hq]; exact wrap_pow hi6
      clear hq
      have hq1 : (q : Int) < (bl S : Int) := Int.ofNat_lt.2 hqn
      clear hr hw
      go_wp2
      go_roundw
      case rel => exact ⟨i + 1, by omega, by go_num, row_put0 HR.out hqn (fun j _ => by rw [HQ.out, ← getD_at hlt]; rfl), wrote_put0 HW.out hqn _⟩
      case measure => simp [intOf]; omega
    · have hn : i = v.length := by omega
      subst hn
      clear hr hw
      go_wp2
      go_ret
      exact ⟨b1, rfl, hwb, by rw [HW.out.size]; exact hu1, HR.out, HB1.out.trans (HW.out.belowB hwb)⟩

set_option maxRecDepth 100000 in
set_option maxHeartbeats 1600000 in
theorem vector_any (p : Int) (aS : Option Addr) (S : List Int) (cS : Nat) (av : Option Addr) (v : List Int) (cv lov tpv : Nat) (w : World) (h : S.length ≤ 6) (hl : v.length = S.length) (hv : RowIn lov tpv w av v) (tv : tpv ≤ w.heap.size) :
    Calls Try.prog 43 #[.agg #[.int .i64 p, .slice aS S.length cS], .slice av v.length cv] w (NewRow (bl S) (vecF v v.length) w) := by
  have hbl := bl_le h
  have HV := Lib.hid hv
  have HL := Lib.hid hl
  clear hv hl
  have hmk := fun W => run_make_row' (P := Try.prog) 24 2 (.int .i64 0) 8 Try.underlying24 info64 rfl .i64 .i64 (bl S) (by omega) (by omega) W
  go_enter Try.func43, Try.ntmps43
  go_wp2_with (go_at_call 46; (with_reducible refine (blades_any p aS S cS _ h).mono ?_); rintro e w1 ⟨rfl, hb1⟩; have HB1 := Lib.hid (below_step (below_alloc w _) (by simp) hb1); have hz1 := hb1.size; clear hb1)
  obtain ⟨b1, hb1⟩ : ∃ b1, b1 = w1.heap.size := ⟨_, rfl⟩
  have hwb : w.heap.size ≤ b1 := by simp at hz1; omega
  obtain ⟨W1, hW1⟩ : ∃ W1, W1 = w1.alloc (.cells (madeCells #[.int .i64 0] (bl S)) 2) := ⟨_, rfl⟩
  have HO1 : Hid (RowOwn W1 b1 0 (bl S) (fun _ => 0)) := by show RowOwn _ _ _ _ _; rw [hW1, hb1]; exact RowOwn.start w1 (bl S) _
  have HBW : Hid (Below w.heap.size w W1) := by show Below _ _ _; rw [hW1]; exact HB1.out.alloc (by omega) _
  have hu1 : b1 < W1.heap.size := by rw [hW1, hb1]; simp
  rw [← hW1, ← hb1]
  clear hmk hW1 hb1
  go_loopw [13] (fun t wr => ∃ i : Nat, i ≤ v.length ∧ t = .int .i64 i ∧ RowOwn wr b1 0 (bl S) (vecF v i) ∧ Wrote b1 0 (bl S) W1 wr) (fun t _ => v.length - (intOf t).toNat)
  case atStart => exact ⟨0, Nat.zero_le _, rfl, HO1.out, Wrote.refl _ _ _ _⟩
  case round =>
    obtain ⟨i, hi, rfl, hr, hw⟩ := hrel
    have HR := Lib.hid hr
    have HW := Lib.hid hw
    by_cases hlt : i < v.length
    · obtain ⟨b2, o2, ha2, l2, t2, hc2⟩ := ((HV.out.below HBW.out tv).same (hw.same (by omega : b1 < lov ∨ tpv ≤ b1))).num hlt
      subst ha2
      obtain ⟨q, hq⟩ : ∃ q, q = 2 ^ i := ⟨_, rfl⟩
      have HQ := Lib.hid hq
      have hqn : q < bl S := by rw [hq]; exact pow_bl HL.out hlt
      have c0 := hr.cell q hqn
      have f0 := hr.free q hqn
      rw [Nat.zero_add] at c0 f0
      have hi1 : (i : Int) < (v.length : Int) := by omega
      have hi6 : i < 6 := by have := HL.out; omega
      have e1 : wrap64 ((2 : Int) ^ i) = (q : Int) := by rw [hq]; exact wrap_pow hi6
      clear hq
      have hq1 : (q : Int) < (bl S : Int) := Int.ofNat_lt.2 hqn
      clear hr hw
      go_wp2
      go_roundw
      case rel => exact ⟨i + 1, by omega, by go_num, row_put0 HR.out hqn (fun j _ => by rw [HQ.out, ← getD_at hlt]; rfl), wrote_put0 HW.out hqn _⟩
      case measure => simp [intOf]; omega
    · have hn : i = v.length := by omega
      subst hn
      clear hr hw
      go_wp2
      go_ret
      exact ⟨b1, rfl, hwb, by rw [HW.out.size]; exact hu1, HR.out, HBW.out.trans (HW.out.belowB hwb)⟩

end Go.Proofs.Ythifnhekmenjaaa
