/-
  Contracts and facts that the walk of the law rests on.
  Conditions: those that each theorem names.
-/
import Derived.Test.YtgfanoejohpmkaaGreatQp8
import Derived.Test.YtgfanoejohpmkaaGreatQp7
import Derived.Test.YtgfanoejohpmkaaGreatQp5
import Derived.Test.YtgfanoejohpmkaaGreatQp6
namespace Go.Proofs.YtgfanoejohpmkaaGreat
open Go.RowKit
set_option linter.unusedVariables false
def NewRow (n : Nat) (f : Nat → Int) (w : World) (e : Ending) (w' : World) : Prop :=
 ∃ b, e = .returned (.slice (some ⟨b, 0, none⟩) n n) ∧ w.heap.size ≤ b ∧ b < w'.heap.size ∧ RowOwn w' b 0 n f ∧ Below w.heap.size w w'
theorem RowOwn.own {lo tp : Nat} {w : World} {b o n : Nat} {f : Nat → Int} (h : RowOwn w b o n f) (h0 : lo ≤ b) (h1 : b < tp) : OwnR lo tp w (some ⟨b, o, none⟩) (mkR n f) :=
 .inr ⟨b, o, rfl, h0, h1, fun j hj => by
  rw [mkR_len] at hj
  rw [mkR_at _ hj]
  exact ⟨h.cell j hj, h.free j hj⟩⟩
theorem pow_lt {i n : Nat} (h : i < n) : 2 ^ i < 2 ^ n := Nat.pow_lt_pow_right (by decide) h
set_option maxHeartbeats 800000 in
theorem l04Zero_any (p : Int) (a : Option Addr) (S : List Int) (c : Nat) (w : World) (h : S.length ≤ 6) :
 Calls Tryz.prog 221 #[.agg #[.int .i64 p, .slice a S.length c]] w (NewRow (bl S) (fun _ => 0) w) := by
 have hbl := bl_le h
 have hmk := fun W => run_make_row' (P := Tryz.prog) 24 2 (.int .i64 0) 8 Tryz.underlying24 info64 rfl .i64 .i64 (bl S) (by omega) (by omega) W
 go_enter Tryz.func221, Tryz.ntmps221
 go_wp2_with (go_at_call 197; (with_reducible refine (l04Size_any p a S c _ h).mono ?_); rintro e w1 ⟨rfl, hb1⟩; have HB1 := Lib.hid hb1; have hz1 := hb1.size; clear hb1)
 go_ret
 have hb := below_step (below_alloc w _) (by simp) HB1.out
 exact ⟨w1.heap.size, rfl, hb.size, by simp, RowOwn.start w1 (bl S) _, hb.alloc (hb.size) _⟩
theorem one_row (w : World) {n k : Nat} (t : TypeId) (v : Int) : RowOwn (w.alloc (.cells ((madeCells #[.int .i64 0] n).setIfInBounds k (.int .i64 v)) t)) w.heap.size 0 n (fun j => if j = k then v else 0) where
 cell j hj := by
  rw [Nat.zero_add, World.cell?_alloc_new, Array.getElem?_setIfInBounds]
  by_cases e : k = j
  · subst e; simp [size_madeCells, hj]
  · rw [if_neg e, if_neg (fun h => e h.symm)]; simp [madeCells, hj, Nat.mod_one]
 free j hj := by simp [go_sem]
set_option maxHeartbeats 800000 in
theorem blade_any (p : Int) (a : Option Addr) (S : List Int) (c k : Nat) (w : World) (h : S.length ≤ 6) (hk : k < bl S) :
 Calls Tryz.prog 183 #[.agg #[.int .i64 p, .slice a S.length c], .int .i64 k] w (NewRow (bl S) (fun j => if j = k then 1 else 0) w) := by
 have hbl := bl_le h
 have hmk := fun W => run_make_row' (P := Tryz.prog) 24 2 (.int .i64 0) 8 Tryz.underlying24 info64 rfl .i64 .i64 (bl S) (by omega) (by omega) W
 go_enter Tryz.func183, Tryz.ntmps183
 go_wp2_with (go_at_call 198; ((with_reducible refine (blades_any p a S c _ h).mono ?_); rintro e w1 ⟨rfl, hb1⟩; have HB1 := Lib.hid hb1; have hz1 := hb1.size; have g0 := made_cell w1 (.int .i64 0) (bl S) 2 hk; have f0 : (w1.alloc (.cells (madeCells #[.int .i64 0] (bl S)) 2)).frozen? ⟨w1.heap.size, k, none⟩ = false := (by simp [go_sem]); clear hb1))
 go_ret
 have hb := below_step (below_alloc w _) (by simp) HB1.out
 exact ⟨w1.heap.size, rfl, hb.size, by simp, one_row _ _ _, hb.alloc (hb.size) _⟩
theorem ImplR.new {n : Nat} {f : Nat → Int} {b : Nat} {C : Int} {w w' : World} (h : RowOwn w' b 0 n f) (h0 : w.heap.size ≤ b) (h1 : b < w'.heap.size) (hb : Below w.heap.size w w') :
 ImplR (mkR n f) C w (.returned (.tuple #[.slice (some ⟨b, 0, none⟩) n n, .int .i64 C])) w' :=
 ⟨_, n, by rw [mkR_len], h.own h0 h1, hb⟩
theorem wrap_pow {i : Nat} (h : i < 6) : wrap64 ((2 : Int) ^ i) = ((2 ^ i : Nat) : Int) := by
 have : i = 0 ∨ i = 1 ∨ i = 2 ∨ i = 3 ∨ i = 4 ∨ i = 5 := by omega
 rcases this with rfl | rfl | rfl | rfl | rfl | rfl <;> simp [wrap64]
theorem pow_bl {v S : List Int} {i : Nat} (h : v.length = S.length) (hi : i < v.length) : 2 ^ i < bl S := by unfold bl; rw [← h]; exact pow_lt hi
theorem row_put0 {w : World} {b n j : Nat} {f g : Nat → Int} {v : Int} (h : RowOwn w b 0 n f) (hj : j < n) (e : ∀ i, i < n → (if i = j then v else f i) = g i) : RowOwn (w.setCell ⟨b, j, none⟩ (.int .i64 v)) b 0 n g := by
 have h2 := (h.put hj v).congr e
 rwa [Nat.zero_add] at h2
theorem wrote_put0 {b n j : Nat} {w w' : World} (h : Wrote b 0 n w w') (hj : j < n) (v : Value) : Wrote b 0 n w (w'.setCell ⟨b, j, none⟩ v) := by
 have h2 := h.set hj v
 rwa [Nat.zero_add] at h2
theorem RowOwn.stay {w w' : World} {b o n : Nat} {f : Nat → Int} (h : RowOwn w b o n f) (e : w'.heap[b]? = w.heap[b]?) : RowOwn w' b o n f :=
 ⟨fun j hj => (World.cell?_of_block (w := w) (a := ⟨b, o + j, none⟩) e).trans (h.cell j hj), fun j hj => (World.frozen?_of_block (w := w) (a := ⟨b, o + j, none⟩) e).trans (h.free j hj)⟩
theorem row_fill {w : World} {b n i : Nat} {g : Nat → Int} {v : Int} (h : RowOwn w b 0 n (fun j => if j < i then g j else 0)) (hi : i < n) (hv : v = g i) : RowOwn (w.setCell ⟨b, i, none⟩ (.int .i64 v)) b 0 n (fun j => if j < i + 1 then g j else 0) :=
 row_put0 h hi (fun j _ => by
  by_cases e : j = i
  · subst e; rw [if_pos rfl, if_pos (by omega), hv]
  · rw [if_neg e]
    by_cases e2 : j < i
    · rw [if_pos e2, if_pos (by omega)]
    · rw [if_neg e2, if_neg (by omega)])
theorem row_leave {w : World} {b n i : Nat} {g : Nat → Int} (h : RowOwn w b 0 n (fun j => if j < i then g j else 0)) (hv : g i = 0) : RowOwn w b 0 n (fun j => if j < i + 1 then g j else 0) :=
 h.congr (fun j _ => by
  by_cases e : j = i
  · subst e; rw [if_neg (Nat.lt_irrefl _), if_pos (by omega), hv]
  · by_cases e2 : j < i
    · rw [if_pos e2, if_pos (by omega)]
    · rw [if_neg e2, if_neg (by omega)])
theorem row_done {w : World} {b n : Nat} {g : Nat → Int} (h : RowOwn w b 0 n (fun j => if j < n then g j else 0)) : RowOwn w b 0 n g := h.congr (fun j hj => if_pos hj)
theorem row_zero {w : World} {b n : Nat} {g : Nat → Int} (h : RowOwn w b 0 n (fun _ => 0)) : RowOwn w b 0 n (fun j => if j < 0 then g j else 0) := h.congr (fun j _ => (if_neg (by omega)).symm)
theorem Wrote.belowB {b o n k : Nat} {w w' : World} (h : Wrote b o n w w') (hk : k ≤ b) : Below k w w' := ⟨h.os, h.tape, h.output, Nat.le_of_eq h.size.symm, fun i hi => h.block i (by omega)⟩
set_option maxRecDepth 100000 in
set_option maxHeartbeats 1600000 in
theorem l04Vector_any (p : Int) (aS : Option Addr) (S : List Int) (cS : Nat) (av : Option Addr) (v : List Int) (cv lov tpv : Nat) (w : World) (h : S.length ≤ 6) (hl : v.length = S.length) (hv : RowIn lov tpv w av v) (tv : tpv ≤ w.heap.size) :
 Calls Tryz.prog 146 #[.agg #[.int .i64 p, .slice aS S.length cS], .slice av v.length cv] w (NewRow (bl S) (vecF v v.length) w) := by
 have hbl := bl_le h
 have HV := Lib.hid hv
 have HL := Lib.hid hl
 clear hv hl
 go_enter Tryz.func146, Tryz.ntmps146
 go_wp2_with (go_at_call 221; (with_reducible refine (l04Zero_any p aS S cS _ h).mono ?_); rintro e w1 ⟨b1, rfl, hl1, hu1, ho1, hb1⟩; have HO1 := Lib.hid ho1; have HB1 := Lib.hid (below_step (below_alloc w _) (by simp) hb1); have hz1 := hb1.size; clear hb1 ho1)
 have hwb : w.heap.size ≤ b1 := by simp at hl1; omega
 go_loopw [6] (fun t wr => ∃ i : Nat, i ≤ v.length ∧ t = .int .i64 i ∧ RowOwn wr b1 0 (bl S) (vecF v i) ∧ Wrote b1 0 (bl S) w1 wr) (fun t _ => v.length - (intOf t).toNat)
 case atStart => exact ⟨0, Nat.zero_le _, rfl, HO1.out, Wrote.refl _ _ _ _⟩
 case round =>
  obtain ⟨i, hi, rfl, hr, hw⟩ := hrel
  have HR := Lib.hid hr
  have HW := Lib.hid hw
  by_cases hlt : i < v.length
  · obtain ⟨b2, o2, ha2, l2, t2, hc2⟩ := ((HV.out.below HB1.out tv).same (hw.same (by omega : b1 < lov ∨ tpv ≤ b1))).num hlt
    subst ha2
    obtain ⟨q, hq⟩ : ∃ q, q = 2 ^ i := ⟨_, rfl⟩
    have HQ := Lib.hid hq
    have hqn : q < bl S := by rw [hq]; exact pow_bl HL.out hlt
    have c0 := hr.cell q hqn
    have f0 := hr.free q hqn
    rw [Nat.zero_add] at c0 f0
    have hi1 : (i : Int) < (v.length : Int) := by omega
    have hi6 : i < 6 := by have := HL.out; omega
    have e1 : wrap64 ((2 : Int) ^ i) = (q : Int) := by rw [hq]; exact wrap_pow hi6
    clear hq
    have hq1 : (q : Int) < (bl S : Int) := Int.ofNat_lt.2 hqn
    clear hr hw
    go_wp2
    go_roundw
    case rel => exact ⟨i + 1, by omega, by go_num, row_put0 HR.out hqn (fun j _ => by rw [HQ.out, ← getD_at hlt]; rfl), wrote_put0 HW.out hqn _⟩
    case measure => simp [intOf]; omega
  · have hn : i = v.length := by omega
    subst hn
    clear hr hw
    go_wp2
    go_ret
    exact ⟨b1, rfl, hwb, by rw [HW.out.size]; exact hu1, HR.out, HB1.out.trans (HW.out.belowB hwb)⟩
set_option maxRecDepth 100000 in
set_option maxHeartbeats 1600000 in
theorem vector_any (p : Int) (aS : Option Addr) (S : List Int) (cS : Nat) (av : Option Addr) (v : List Int) (cv lov tpv : Nat) (w : World) (h : S.length ≤ 6) (hl : v.length = S.length) (hv : RowIn lov tpv w av v) (tv : tpv ≤ w.heap.size) :
 Calls Tryz.prog 185 #[.agg #[.int .i64 p, .slice aS S.length cS], .slice av v.length cv] w (NewRow (bl S) (vecF v v.length) w) := by
 have hbl := bl_le h
 have HV := Lib.hid hv
 have HL := Lib.hid hl
 clear hv hl
 have hmk := fun W => run_make_row' (P := Tryz.prog) 24 2 (.int .i64 0) 8 Tryz.underlying24 info64 rfl .i64 .i64 (bl S) (by omega) (by omega) W
 go_enter Tryz.func185, Tryz.ntmps185
 go_wp2_with (go_at_call 198; (with_reducible refine (blades_any p aS S cS _ h).mono ?_); rintro e w1 ⟨rfl, hb1⟩; have HB1 := Lib.hid (below_step (below_alloc w _) (by simp) hb1); have hz1 := hb1.size; clear hb1)
 obtain ⟨b1, hb1⟩ : ∃ b1, b1 = w1.heap.size := ⟨_, rfl⟩
 have hwb : w.heap.size ≤ b1 := by simp at hz1; omega
 obtain ⟨W1, hW1⟩ : ∃ W1, W1 = w1.alloc (.cells (madeCells #[.int .i64 0] (bl S)) 2) := ⟨_, rfl⟩
 have HO1 : Hid (RowOwn W1 b1 0 (bl S) (fun _ => 0)) := by show RowOwn _ _ _ _ _; rw [hW1, hb1]; exact RowOwn.start w1 (bl S) _
 have HBW : Hid (Below w.heap.size w W1) := by show Below _ _ _; rw [hW1]; exact HB1.out.alloc (by omega) _
 have hu1 : b1 < W1.heap.size := by rw [hW1, hb1]; simp
 rw [← hW1, ← hb1]
 clear hmk hW1 hb1
 go_loopw [13] (fun t wr => ∃ i : Nat, i ≤ v.length ∧ t = .int .i64 i ∧ RowOwn wr b1 0 (bl S) (vecF v i) ∧ Wrote b1 0 (bl S) W1 wr) (fun t _ => v.length - (intOf t).toNat)
 case atStart => exact ⟨0, Nat.zero_le _, rfl, HO1.out, Wrote.refl _ _ _ _⟩
 case round =>
  obtain ⟨i, hi, rfl, hr, hw⟩ := hrel
  have HR := Lib.hid hr
  have HW := Lib.hid hw
  by_cases hlt : i < v.length
  · obtain ⟨b2, o2, ha2, l2, t2, hc2⟩ := ((HV.out.below HBW.out tv).same (hw.same (by omega : b1 < lov ∨ tpv ≤ b1))).num hlt
    subst ha2
    obtain ⟨q, hq⟩ : ∃ q, q = 2 ^ i := ⟨_, rfl⟩
    have HQ := Lib.hid hq
    have hqn : q < bl S := by rw [hq]; exact pow_bl HL.out hlt
    have c0 := hr.cell q hqn
    have f0 := hr.free q hqn
    rw [Nat.zero_add] at c0 f0
    have hi1 : (i : Int) < (v.length : Int) := by omega
    have hi6 : i < 6 := by have := HL.out; omega
    have e1 : wrap64 ((2 : Int) ^ i) = (q : Int) := by rw [hq]; exact wrap_pow hi6
    clear hq
    have hq1 : (q : Int) < (bl S : Int) := Int.ofNat_lt.2 hqn
    clear hr hw
    go_wp2
    go_roundw
    case rel => exact ⟨i + 1, by omega, by go_num, row_put0 HR.out hqn (fun j _ => by rw [HQ.out, ← getD_at hlt]; rfl), wrote_put0 HW.out hqn _⟩
    case measure => simp [intOf]; omega
  · have hn : i = v.length := by omega
    subst hn
    clear hr hw
    go_wp2
    go_ret
    exact ⟨b1, rfl, hwb, by rw [HW.out.size]; exact hu1, HR.out, HBW.out.trans (HW.out.belowB hwb)⟩
def c_reversal : Nat → Nat := fun g => g * (g - 1) / 2
theorem eps_add (a b : Nat) : eps (a + b) = eps a * eps b := by
 unfold eps
 rcases Nat.mod_two_eq_zero_or_one a with ha | ha <;> rcases Nat.mod_two_eq_zero_or_one b with hb | hb <;> simp [ha, hb, Nat.add_mod]
theorem eps_mod {a b : Nat} (h : a % 2 = b % 2) : eps a = eps b := by unfold eps; rw [h]
def sgn (a b : Nat) : Nat → Nat
 | 0 => 0
 | n + 1 => sgn a b n + b / 2 ^ n % 2 * gr (a / 2 ^ (n + 1))
def shr (S : List Int) (a b : Nat) : Nat → Int
 | 0 => 1
 | n + 1 => shr S a b n * (if b / 2 ^ n % 2 = 1 ∧ a / 2 ^ n % 2 = 1 then S.getD n 0 else 1)
theorem shr_comm (S : List Int) (a b : Nat) : ∀ n, shr S a b n = shr S b a n
 | 0 => rfl
 | n + 1 => by
  simp only [shr]
  rw [shr_comm S a b n]
  congr 1
  by_cases h : b / 2 ^ n % 2 = 1 ∧ a / 2 ^ n % 2 = 1
  · rw [if_pos h, if_pos ⟨h.2, h.1⟩]
  · rw [if_neg h, if_neg (fun k => h ⟨k.2, k.1⟩)]
theorem fz_split (S : List Int) (a b : Nat) : ∀ n, fz S a b n = eps (sgn a b n) * shr S a b n
 | 0 => rfl
 | n + 1 => by
  simp only [fz, sgn, shr]
  rw [fz_split S a b n, eps_add]
  have h : gi S a b n = eps (b / 2 ^ n % 2 * gr (a / 2 ^ (n + 1))) * (if b / 2 ^ n % 2 = 1 ∧ a / 2 ^ n % 2 = 1 then S.getD n 0 else 1) := by
   unfold gi
   rcases Nat.mod_two_eq_zero_or_one (b / 2 ^ n) with hb | hb
   · rw [hb]; simp [eps]
   · rw [hb]; simp
  rw [h]
  generalize eps (sgn a b n) = x1
  generalize shr S a b n = x2
  generalize eps (b / 2 ^ n % 2 * gr (a / 2 ^ (n + 1))) = x3
  ac_rfl
def passes : Bool := (List.range 7).all fun n => (List.range (2 ^ n)).all fun a => (List.range (2 ^ n)).all fun b => (c_reversal (gr (a ^^^ b)) + sgn a b n) % 2 == (c_reversal (gr a) + c_reversal (gr b) + sgn b a n) % 2
set_option maxRecDepth 100000 in
theorem passes_all : passes = true := by decide +kernel
theorem passes_at {n a b : Nat} (hn : n ≤ 6) (ha : a < 2 ^ n) (hb : b < 2 ^ n) : (c_reversal (gr (a ^^^ b)) + sgn a b n) % 2 = (c_reversal (gr a) + c_reversal (gr b) + sgn b a n) % 2 := by
 have h := passes_all
 unfold passes at h
 rw [List.all_eq_true] at h
 have h1 := h n (List.mem_range.2 (by omega))
 rw [List.all_eq_true] at h1
 have h2 := h1 a (List.mem_range.2 ha)
 rw [List.all_eq_true] at h2
 have h3 := h2 b (List.mem_range.2 hb)
 simpa using h3
theorem fz_turn (S : List Int) {n a b : Nat} (hn : n ≤ 6) (ha : a < 2 ^ n) (hb : b < 2 ^ n) :
 eps (c_reversal (gr (a ^^^ b))) * fz S a b n = eps (c_reversal (gr a)) * eps (c_reversal (gr b)) * fz S b a n := by
 rw [fz_split, fz_split, shr_comm S a b n, ← Int.mul_assoc, ← Int.mul_assoc, ← eps_add, ← eps_add, ← eps_add, eps_mod (passes_at hn ha hb)]
theorem sgR_eq {p : Int} {c : Nat → Nat} {x : List Int} {j : Nat} (h : 0 ≤ x.getD j 0 ∧ x.getD j 0 < p) : sgF p c x j = eps (c (gr j)) * x.getD j 0 % p := by
 unfold sgF eps
 split
 · rw [Int.neg_one_mul, Int.sub_eq_add_neg, Int.add_comm, Int.add_emod_right]
 · rw [Int.one_mul, Int.emod_eq_of_lt h.1 h.2]
theorem sgM_at (p : Int) (c : Nat → Nat) (x : List Int) {j : Nat} (hj : j < x.length) : (mkR x.length (sgF p c x)).getD j 0 = sgF p c x j := mkR_at _ hj
theorem sg_mod {p : Int} {c : Nat → Nat} {x : List Int} (hn : ∀ j, j < x.length → 0 ≤ x.getD j 0 ∧ x.getD j 0 < p) {j : Nat} (hj : j < x.length) : (mkR x.length (sgF p c x)).getD j 0 % p = (eps (c (gr j)) * x.getD j 0) % p := by
 rw [sgM_at _ _ _ hj, sgR_eq (hn j hj), Int.emod_emod]
theorem sg_prod {p : Int} {c : Nat → Nat} {S x y : List Int} (hp : 0 < p) {d : Nat} (hd : d < bl S) : sgF p c (prodM p S x y) d = (eps (c (gr d)) * gpz S S.length (fun j => x.getD j 0) (fun j => y.getD j 0) d) % p := by
 have h := prodM_num hp S x y d (by rw [prodM_len]; exact hd)
 rw [sgR_eq h, prodM_at _ _ _ _ hd]
 unfold prodF
 rw [Int.mul_emod, Int.emod_emod, ← Int.mul_emod]
theorem gpz_turn (S : List Int) (h6 : S.length ≤ 6) (x y : Nat → Int) {d : Nat} (hd : d < 2 ^ S.length) :
 eps (c_reversal (gr d)) * gpz S S.length x y d = gpz S S.length (fun j => eps (c_reversal (gr j)) * y j) (fun j => eps (c_reversal (gr j)) * x j) d := by
 unfold gpz
 rw [← sm_xor S.length d hd (fun a => eps (c_reversal (gr a)) * y a * fz S a (a ^^^ d) S.length * (eps (c_reversal (gr (a ^^^ d))) * x (a ^^^ d))), ← sm_mul]
 apply sm_congr
 intro a ha
 have hb : a ^^^ d < 2 ^ S.length := Nat.xor_lt_two_pow ha hd
 have e : a ^^^ (a ^^^ d) = d := by rw [← Nat.xor_assoc, Nat.xor_self, Nat.zero_xor]
 have e2 : a ^^^ d ^^^ d = a := by rw [Nat.xor_assoc, Nat.xor_self, Nat.xor_zero]
 have h := fz_turn S h6 ha hb
 rw [e] at h
 simp only [e2]
 generalize eps (c_reversal (gr d)) = t1 at *
 generalize eps (c_reversal (gr a)) = t2 at *
 generalize eps (c_reversal (gr (a ^^^ d))) = t3 at *
 generalize fz S a (a ^^^ d) S.length = f1 at *
 generalize fz S (a ^^^ d) a S.length = f2 at *
 generalize x a = u
 generalize y (a ^^^ d) = v
 calc t1 * (u * f1 * v) = (t1 * f1) * u * v := by ac_rfl
  _ = (t2 * t3 * f2) * u * v := by rw [h]
  _ = t3 * v * f2 * (t2 * u) := by ac_rfl
theorem rev_prod {p : Int} (hp : 0 < p) {S x y : List Int} (h6 : S.length ≤ 6) (hx : x.length = bl S) (hy : y.length = bl S) (nx : ∀ j, j < x.length → 0 ≤ x.getD j 0 ∧ x.getD j 0 < p) (ny : ∀ j, j < y.length → 0 ≤ y.getD j 0 ∧ y.getD j 0 < p) :
 prodM p S (mkR y.length (sgF p c_reversal y)) (mkR x.length (sgF p c_reversal x)) = mkR (prodM p S x y).length (sgF p c_reversal (prodM p S x y)) := by
 rw [prodM_len]
 exact mkR_congr fun d hd => by
  rw [sg_prod hp hd, gpz_turn S h6 _ _ hd]
  exact gpz_mod S S.length hd (fun j hj => sg_mod ny (by rw [hy]; exact hj)) (fun j hj => sg_mod nx (by rw [hx]; exact hj))
theorem half_zero {p v : Int} (hp : p % 2 = 1) (h0 : 0 ≤ v) (h1 : v < p) (h : (p - v) % p = v) : v = 0 := by
 by_cases hv : v = 0
 · exact hv
 · rw [Int.emod_eq_of_lt (by omega) (by omega)] at h; omega
def zB (z : List Int) : Bool := (List.range z.length).all fun j => decide (z.getD j 0 = 0)
theorem zB_iff {z : List Int} : zB z = true ↔ ∀ j, j < z.length → z.getD j 0 = 0 := by
 unfold zB
 simp only [List.all_eq_true, List.mem_range, decide_eq_true_eq]
theorem zB_no {z : List Int} {i : Nat} (hi : i < z.length) (h : z.getD i 0 ≠ 0) : zB z = false := by
 cases e : zB z with
 | false => rfl
 | true => exact absurd (zB_iff.1 e i hi) h
def hB (z : List Int) (v : Int) : Bool := (List.range z.length).any fun j => decide (z.getD j 0 = v)
set_option maxHeartbeats 800000 in
theorem zero5_any (a : Option Addr) (z : List Int) (k1 lo hi : Nat) (w : World) (hb : RowIn lo hi w a z) (hl : z.length ≤ 1048576) :
 Calls Tryz.prog 46 #[.slice a z.length k1] w fun e w' => e = .returned (.bool (zB z)) ∧ Quiet w w' := by
 have HB := Lib.hid hb
 clear hb
 go_enter Tryz.func46, Tryz.ntmps46
 go_wp2
 go_loopw [3] (fun t wr => ∃ i : Nat, i ≤ z.length ∧ t = .int .i64 i ∧ (∀ j, j < i → z.getD j 0 = 0) ∧ (∃ n, wr = w.drewN n)) (fun t _ => z.length - (intOf t).toNat)
 case atStart => exact ⟨0, Nat.zero_le _, rfl, fun j hj => by omega, 0, rfl⟩
 case round =>
  obtain ⟨i, hi, rfl, hpre, n, rfl⟩ := hrel
  have HPRE := Lib.hid hpre
  clear hpre
  by_cases hlt : i < z.length
  · obtain ⟨b1, o1, ha1, _, _, hb1⟩ := HB.out.num hlt
    subst ha1
    have hlt1 : (i : Int) < (z.length : Int) := by omega
    obtain ⟨u, hu⟩ : ∃ u, u = z.getD i 0 := ⟨_, rfl⟩
    have HU := Lib.hid hu
    rw [← hu] at hb1
    clear hu
    by_cases hu0 : u = 0
    · subst hu0
      go_wp2
      go_roundw
      case rel => exact ⟨i + 1, by omega, by go_num, fun j hj => by
       by_cases hji : j = i
       · rw [hji]; exact HU.out.symm
       · exact HPRE.out j (by omega), _, rfl⟩
      case measure => simp [intOf]; omega
    · have hd : zB z = false := zB_no hlt (by rw [← HU.out]; exact hu0)
      have ne : (u != 0) = true := by simpa using hu0
      go_wp2
      go_ret
      exact ⟨by first | rfl | exact congrArg (fun b => Ending.returned (.bool b)) hd.symm, _, rfl⟩
  · have hd : zB z = true := zB_iff.2 fun j hj => HPRE.out j (by omega)
    have hlt1 : ¬ (i : Int) < (z.length : Int) := by omega
    go_wp2
    go_ret
    exact ⟨by first | rfl | exact congrArg (fun b => Ending.returned (.bool b)) hd.symm, n, rfl⟩
end Go.Proofs.YtgfanoejohpmkaaGreat