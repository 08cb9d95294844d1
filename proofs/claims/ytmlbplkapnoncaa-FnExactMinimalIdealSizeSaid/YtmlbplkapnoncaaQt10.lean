/-
  Masks of even grades: contracts of the program and of the model.
  Conditions: the lists are nil or rows of known cells, of at most 1048576 numbers.
  GeometricProduct: contracts of the program and of the model.
  Conditions: the lists are nil or rows of known cells, of at most 1048576 numbers.
  The model's product of the kind 0: contract.
  Conditions: a space and multivectors of it: rows of known cells with numbers of the prime.
  The model's product of the kind 1: contract.
  Conditions: a space and multivectors of it: rows of known cells with numbers of the prime.
  The model's product of the kind 2: contract.
  Conditions: a space and multivectors of it: rows of known cells with numbers of the prime.
  The program's product of the kind 0: contract.
  Conditions: a space and multivectors of it: rows of known cells with numbers of the prime.
  The program's product of the kind 1: contract.
  Conditions: a space and multivectors of it: rows of known cells with numbers of the prime.
  The program's product of the kind 2: contract.
  Conditions: a space and multivectors of it: rows of known cells with numbers of the prime.
  WedgeProduct, LeftContraction, RightContraction: contracts of the program and of the model.
  Conditions: the lists are nil or rows of known cells, of at most 1048576 numbers.
  PowerOf: contracts of the program and of the model.
  Conditions: the lists are nil or rows of known cells, of at most 1048576 numbers.
  Discriminants, in the program and in the model.
  Conditions: the squares are nil or a row of known cells.
  What the model's check of a prime and of a list of numbers returns, and both checks at the short lists that the functions of chapter 1 build.
  Conditions: the lists are rows of cells that are known.
  What powers, inverses and quotients of numbers return: contracts of the program's methods and of the model's helpers.
  Conditions: the prime is one, the numbers are remainders by it, an exponent is at most 1000.
  What inverses, powers with negative exponents and quotients of numbers return, in the program.
  Conditions: the prime is one, the numbers are remainders by it, a divisor is not 0, an exponent is from -1000000 to 1000000.
  Pseudoscalars, their squares, duals, meets: numbers. No Go in sight.
  No conditions.
-/
import Derived.Test.YtmlbplkapnoncaaQt9
import Derived.Test.YtmlbplkapnoncaaQt5
import Derived.Deep.RegionHeld3
import Derived.Deep.DeepCutAuto
import Derived.Test.YtmlbplkapnoncaaQt8
import Derived.Test.YtmlbplkapnoncaaQt7
import Derived.Test.YtmlbplkapnoncaaQt3
import Derived.Test.YtmlbplkapnoncaaQt1
import Derived.BigQuiet
import Derived.Deep.QuietTactic
import Derived.RegionTactic
namespace Go.Proofs.Ytmlbplkapnoncaa
open Go.RowKit
set_option linter.unusedVariables false

def evTo (k : Nat) : List Int := ((List.range k).filter (fun m => gr m % 2 == 0)).map fun (m : Nat) => (m : Int)
theorem evTo_yes {k : Nat} (h : gr k % 2 = 0) : evTo (k + 1) = evTo k ++ [(k : Int)] := by
  unfold evTo; rw [List.range_succ, List.filter_append, List.map_append]; simp [h]
theorem evTo_no {k : Nat} (h : gr k % 2 = 1) : evTo (k + 1) = evTo k := by
  unfold evTo; rw [List.range_succ, List.filter_append, List.map_append]; simp [h]
theorem evTo_le (k : Nat) : (evTo k).length ≤ k := by
  unfold evTo; rw [List.length_map]; exact Nat.le_trans (List.length_filter_le _ _) (by simp)
def evnV (p : Int) (S : List Int) : List Int := if stC p S [] = 0 then evTo (bl S) else []
theorem evnV_size (p : Int) (S : List Int) : (evnV p S).length ≤ 1048576 := by
  unfold evnV; split
  · rename_i h
    have h6 := (isSp_iff.1 (stC_zero h).1).hi
    have h1 := evTo_le (bl S)
    have h2 := bl_le h6
    omega
  · simp

set_option maxRecDepth 100000 in
set_option maxHeartbeats 3200000 in
theorem impl_EvenBasis (pS : Int) (aS : Option Addr) (S : List Int) (cS loS tpS : Nat) (w : World) (hS : RowIn loS tpS w aS S) (tS : tpS ≤ w.heap.size) (sS : S.length ≤ 1048576) :
    Calls Try.prog 19 #[.agg #[.int .i64 pS, .slice aS S.length cS]] w (ImplR (evnV pS S) (stC pS S []) w) := by
  have HS := Lib.hid hS
  have k0 := nw0 w (.int .i64 pS) (.slice aS S.length cS) 28
  have k1 := nw1 w (.int .i64 pS) (.slice aS S.length cS) 28
  have HB0 := Lib.hid (below_alloc w (.cells #[.int .i64 pS, .slice aS S.length cS] 28))
  clear hS
  obtain ⟨i0, hi, hz0, hz1, hz2⟩ := info_parts info64
  by_cases h0 : stC pS S [] = 0
  · have HC0 := Lib.hid h0
    have hz := stC_zero h0
    have HI := Lib.hid hz.1
    have h6 := (isSp_iff.1 hz.1).hi
    have hbl := bl_le h6
    have HV : Hid (evnV pS S = evTo (bl S)) := if_pos h0
    clear h0 hz
    go_enter Try.func19, Try.ntmps19
    go_upto_region 1 with fail
    obtain ⟨w1, hw1⟩ : ∃ z, z = w.alloc (.cells #[.int .i64 pS, .slice aS S.length cS] 28) := ⟨_, rfl⟩
    rw [← hw1] at HB0 k0 k1 ⊢
    have hd1 : w.heap.size < w1.heap.size := by rw [hw1]; simp
    have HB1 := HB0
    clear hw1
    have SS1 := Lib.hid (And.intro k0 k1)
    go_wp2_with (first | (go_at_call 57; ((with_reducible refine (checkS0 pS aS S cS loS tpS w1 (HS.out.below HB1.out tS) (Nat.le_trans tS HB1.out.size) sS).mono ?_); rintro e w2 ⟨rfl, b_⟩; rw [HC0.out]; have SS2 := Lib.hid (ss2 b_ hd1 SS1.out); have HB2 := Lib.hid (below_step HB1.out HB1.out.size b_); have hd2 := Nat.lt_of_lt_of_le hd1 b_.size; clear k0 k1; obtain ⟨k0, k1⟩ := SS2.out; clear b_)) | (go_at_call 58; ((with_reducible refine (blades_any pS aS S cS w2 h6).mono ?_); rintro e w3 ⟨rfl, b_⟩; have SS3 := Lib.hid (ss2 b_ hd2 SS2.out); have HB3 := Lib.hid (below_step HB2.out HB2.out.size b_); have hd3 := Nat.lt_of_lt_of_le hd2 b_.size; clear k0 k1; obtain ⟨k0, k1⟩ := SS3.out; clear b_)))
    go_loopw [5, 14] (fun v t wr => ∃ i : Nat, i ≤ bl S ∧ t = .int .i64 i ∧ OutR w.heap.size wr v (evTo i) ∧ Below w.heap.size w wr) (fun _ t _ => bl S - (intOf t).toNat)
    case atStart => exact ⟨0, Nat.zero_le _, rfl, World.ownsRow_nil _ _ _ _, HB3.out⟩
    case round =>
      obtain ⟨i, hi', rfl, ho, hbel⟩ := hrel
      have HO := Lib.hid ho
      have hB := Lib.hid hbel
      have hwz := hbel.size
      clear ho hbel
      by_cases hlt : i < bl S
      · have hi1 : (i : Int) < (bl S : Int) := Int.ofNat_lt.2 hlt
        have hi64 : i < 64 := by omega
        obtain ⟨N, hN⟩ : ∃ N, N = (evTo i).length := ⟨_, rfl⟩
        have hN7 : N ≤ 64 := by have := evTo_le i; omega
        have HN := Lib.hid hN
        obtain ⟨X, hX⟩ : ∃ X, X = (evTo i).map (Value.int .i64) := ⟨_, rfl⟩
        have HX := Lib.hid hX
        have HO2 : Hid (wr.ownsRow w.heap.size 2 1 u5 N X) := by
          have := HO.out; unfold OutR at this; rw [← hN, ← hX] at this; exact this
        obtain ⟨G, hG⟩ : ∃ G : Int, G = (gr i : Int) := ⟨_, rfl⟩
        have HG : Hid (((gr i : Nat) : Int) = G) := hG.symm
        have hg6 := gr_le i
        have hG0 : 0 ≤ G := by omega
        clear hX hN
        by_cases hg : gr i % 2 = 0
        · have HSU := Lib.hid (evTo_yes hg)
          have t1 : G.tmod 2 = 0 := by rw [Int.tmod_eq_emod_of_nonneg hG0]; omega
          clear hg hG
          go_upto_region 9 with (first | (go_at_call 59; ((with_reducible refine (gradeOf_any i hi64 wr).mono ?_); rintro e w7 ⟨rfl, rfl⟩; rw [HG.out])))
          go_wp2_with ((at_builtin; (refine wpList_append_lies _ rfl _ _ 22 rfl w.heap.size 2 i0 (.int .i64 0) 1 8 Try.underlying22 hi hz0 hz1 hz2 rfl (by decide) u5 N X rfl (HO2.out.alloc _) ⟨wr.heap.size, 0, none⟩ 1 1 [.int .i64 i] rfl rfl (World.news_of_block (cs := #[.int .i64 i]) (t := 2) (fr := (0, 0)) (heap_alloc_new wr _)) (by simp [Value.oneCell']) (by omega) (by unfold maxLen; omega) (by omega) (by simp; omega) (wr.heap.size + 1) (by simp) ?_); intro gg cap w1 hown1 hgrow hat hlt1))
          go_roundw
          case rel => exact ⟨i + 1, by omega, by go_num, OutR.more HX.out HN.out HSU.out hown1, (hB.out.alloc hwz _).grown hgrow (by simp; omega) (fun _ hk => (HO2.out.lt _ hk).1)⟩
          case measure => simp [intOf]; omega
        · have HSU := Lib.hid (evTo_no (show gr i % 2 = 1 by omega))
          have t1 : G.tmod 2 = 1 := by rw [Int.tmod_eq_emod_of_nonneg hG0]; omega
          clear hg hG
          go_wp2_with (first | (go_at_call 59; ((with_reducible refine (gradeOf_any i hi64 wr).mono ?_); rintro e w7 ⟨rfl, rfl⟩; rw [HG.out])))
          go_roundw
          case rel => exact ⟨i + 1, by omega, by go_num, by rw [HSU.out]; exact HO.out, hB.out⟩
          case measure => simp [intOf]; omega
      · have hin : i = bl S := by omega
        subst hin
        have hi1 : ¬ (bl S : Int) < (bl S : Int) := Int.lt_irrefl _
        obtain ⟨a8, c8, e8, ht8⟩ := HO.out.tag
        subst e8
        have HT8 := Lib.hid ht8
        clear ht8
        go_wp2
        go_ret2
        rw [HV.out, HC0.out]
        exact ⟨a8, c8, rfl, HT8.out.own, hB.out⟩
  · have HV : Hid (evnV pS S = []) := if_neg h0
    obtain ⟨C, hC⟩ : ∃ c, c = stC pS S [] := ⟨_, rfl⟩
    have hc1 : (C != 0) = true := by rw [hC]; simpa using h0
    have hc2 : (C == 0) = false := by rw [hC]; simpa using h0
    have HCE := Lib.hid hC
    clear hC
    clear h0
    go_enter Try.func19, Try.ntmps19
    go_upto_region 1 with fail
    obtain ⟨w1, hw1⟩ : ∃ z, z = w.alloc (.cells #[.int .i64 pS, .slice aS S.length cS] 28) := ⟨_, rfl⟩
    rw [← hw1] at HB0 k0 k1 ⊢
    have hd1 : w.heap.size < w1.heap.size := by rw [hw1]; simp
    have HB1 := HB0
    clear hw1
    have SS1 := Lib.hid (And.intro k0 k1)
    go_wp2_with (go_at_call 57; ((with_reducible refine (checkS0 pS aS S cS loS tpS w1 (HS.out.below HB1.out tS) (Nat.le_trans tS HB1.out.size) sS).mono ?_); rintro e w2 ⟨rfl, b_⟩; rw [← HCE.out]; have SS2 := Lib.hid (ss2 b_ hd1 SS1.out); have HB2 := Lib.hid (below_step HB1.out HB1.out.size b_); have hd2 := Nat.lt_of_lt_of_le hd1 b_.size; clear k0 k1; obtain ⟨k0, k1⟩ := SS2.out; clear b_))
    go_ret2
    rw [HV.out, ← HCE.out]
    exact ⟨none, 0, rfl, .inl rfl, HB2.out⟩

set_option maxRecDepth 100000 in
set_option maxHeartbeats 3200000 in
theorem spec_EvenBasis (pS : Int) (aS : Option Addr) (S : List Int) (cS loS tpS : Nat) (w : World) (hS : RowIn loS tpS w aS S) (tS : tpS ≤ w.heap.size) (sS : S.length ≤ 1048576) :
    Calls Try.prog 17 #[.agg #[.int .i64 pS, .slice aS S.length cS]] w (SpecR (evnV pS S) (stC pS S []) w) := by
  have HS := Lib.hid hS
  have k0 := nw0 w (.int .i64 pS) (.slice aS S.length cS) 28
  have k1 := nw1 w (.int .i64 pS) (.slice aS S.length cS) 28
  have HB0 := Lib.hid (below_alloc w (.cells #[.int .i64 pS, .slice aS S.length cS] 28))
  clear hS
  obtain ⟨i0, hi, hz0, hz1, hz2⟩ := info_parts info64
  by_cases h0 : stC pS S [] = 0
  · have HC0 := Lib.hid h0
    have hz := stC_zero h0
    have HI := Lib.hid hz.1
    have h6 := (isSp_iff.1 hz.1).hi
    have hbl := bl_le h6
    have HV : Hid (evnV pS S = evTo (bl S)) := if_pos h0
    clear h0 hz
    go_enter Try.func17, Try.ntmps17
    go_upto_region 1 with fail
    obtain ⟨w1, hw1⟩ : ∃ z, z = w.alloc (.cells #[.int .i64 pS, .slice aS S.length cS] 28) := ⟨_, rfl⟩
    rw [← hw1] at HB0 k0 k1 ⊢
    have hd1 : w.heap.size < w1.heap.size := by rw [hw1]; simp
    have HB1 := HB0
    clear hw1
    have SS1 := Lib.hid (And.intro k0 k1)
    go_wp2_with (go_at_call 54; ((with_reducible refine (codeS0 pS aS S cS loS tpS w1 (HS.out.below HB1.out tS) (Nat.le_trans tS HB1.out.size) sS).mono ?_); rintro e w2 ⟨rfl, b_⟩; rw [HC0.out]; have SS2 := Lib.hid (ss2 b_ hd1 SS1.out); have HB2 := Lib.hid (below_step HB1.out HB1.out.size b_); have hd2 := Nat.lt_of_lt_of_le hd1 b_.size; clear k0 k1; obtain ⟨k0, k1⟩ := SS2.out; clear b_))
    go_loopw [5, 6] (fun v t wr => ∃ i : Nat, i ≤ bl S ∧ t = .int .i64 i ∧ OutR w2.heap.size wr v (evTo i) ∧ Below w2.heap.size w2 wr) (fun _ t _ => bl S - (intOf t).toNat)
    case atStart => exact ⟨0, Nat.zero_le _, rfl, OutR.start w2 _ _ (Nat.le_refl _) rfl, below_alloc w2 _⟩
    case round =>
      obtain ⟨i, hi', rfl, ho, hbel⟩ := hrel
      have HO := Lib.hid ho
      have hB := Lib.hid hbel
      have hwz := hbel.size
      clear k0 k1
      have k0 := (hbel.cell (p := ⟨w.heap.size, 0, none⟩) hd2).trans SS2.out.1
      have k1 := (hbel.cell (p := ⟨w.heap.size, 1, none⟩) hd2).trans SS2.out.2
      have SSr := Lib.hid (And.intro k0 k1)
      have hlw : w.heap.size < wr.heap.size := Nat.lt_of_lt_of_le hd2 hwz
      clear ho hbel
      by_cases hlt : i < bl S
      · have hi1 : (i : Int) < (bl S : Int) := Int.ofNat_lt.2 hlt
        have hi64 : i < 64 := by omega
        obtain ⟨N, hN⟩ : ∃ N, N = (evTo i).length := ⟨_, rfl⟩
        have hN7 : N ≤ 64 := by have := evTo_le i; omega
        have HN := Lib.hid hN
        obtain ⟨X, hX⟩ : ∃ X, X = (evTo i).map (Value.int .i64) := ⟨_, rfl⟩
        have HX := Lib.hid hX
        have HO2 : Hid (wr.ownsRow w2.heap.size 2 1 u5 N X) := by
          have := HO.out; unfold OutR at this; rw [← hN, ← hX] at this; exact this
        obtain ⟨G, hG⟩ : ∃ G : Int, G = (gr i : Int) := ⟨_, rfl⟩
        have HG : Hid (((gr i : Nat) : Int) = G) := hG.symm
        have hg6 := gr_le i
        have hG0 : 0 ≤ G := by omega
        clear hX hN
        by_cases hg : gr i % 2 = 0
        · have HSU := Lib.hid (evTo_yes hg)
          have t1 : G.tmod 2 = 0 := by rw [Int.tmod_eq_emod_of_nonneg hG0]; omega
          clear hg hG
          go_upto_region 9 with (first | (go_at_call 55; ((with_reducible refine (l04Size_any pS aS S cS wr h6).mono ?_); rintro e w9 ⟨rfl, b_⟩; have HB9 := Lib.hid (hB.out.trans (b_.mono hB.out.size)); have SS9 := Lib.hid (ss2 b_ hlw SSr.out); have hl9 := Nat.lt_of_lt_of_le hlw b_.size; have B9 := Lib.hid b_; have z9 := b_.size; clear b_)) | (go_at_call 56; ((with_reducible refine (l04Grade_any i hi64 w9).mono ?_); rintro e w7 ⟨rfl, rfl⟩; rw [HG.out])))
          have HO3 := Lib.hid (HO2.out.kept (below_grown B9.out) (by cases hv : Value.ownBlock u5 <;> simp))
          go_wp2_with ((at_builtin; (refine wpList_append_lies _ rfl _ _ 22 rfl w2.heap.size 2 i0 (.int .i64 0) 1 8 Try.underlying22 hi hz0 hz1 hz2 rfl (by decide) u5 N X rfl (HO3.out.alloc _) ⟨w9.heap.size, 0, none⟩ 1 1 [.int .i64 i] rfl rfl (World.news_of_block (cs := #[.int .i64 i]) (t := 2) (fr := (0, 0)) (heap_alloc_new w9 _)) (by simp [Value.oneCell']) (by omega) (by unfold maxLen; omega) (by omega) (by simp; omega) (w9.heap.size + 1) (by simp) ?_); intro gg cap w1 hown1 hgrow hat hlt1))
          go_roundw
          case rel => exact ⟨i + 1, by omega, by go_num, OutR.more HX.out HN.out HSU.out hown1, (HB9.out.alloc HB9.out.size _).grown hgrow (by simp; omega) (fun _ hk => (HO3.out.lt _ hk).1)⟩
          case measure => simp [intOf]; omega
        · have HSU := Lib.hid (evTo_no (show gr i % 2 = 1 by omega))
          have t1 : G.tmod 2 = 1 := by rw [Int.tmod_eq_emod_of_nonneg hG0]; omega
          clear hg hG
          go_wp2_with (first | (go_at_call 55; ((with_reducible refine (l04Size_any pS aS S cS wr h6).mono ?_); rintro e w9 ⟨rfl, b_⟩; have HB9 := Lib.hid (hB.out.trans (b_.mono hB.out.size)); have SS9 := Lib.hid (ss2 b_ hlw SSr.out); have hl9 := Nat.lt_of_lt_of_le hlw b_.size; have B9 := Lib.hid b_; have z9 := b_.size; clear b_)) | (go_at_call 56; ((with_reducible refine (l04Grade_any i hi64 w9).mono ?_); rintro e w7 ⟨rfl, rfl⟩; rw [HG.out])))
          go_roundw
          case rel => exact ⟨i + 1, by omega, by go_num, by rw [HSU.out]; exact HO.out.below B9.out, HB9.out⟩
          case measure => simp [intOf]; omega
      · have hin : i = bl S := by omega
        subst hin
        have hi1 : ¬ (bl S : Int) < (bl S : Int) := Int.lt_irrefl _
        obtain ⟨a8, c8, e8, ht8⟩ := HO.out.tag
        subst e8
        have HT8 := Lib.hid ht8
        clear ht8
        go_wp2_with (first | (go_at_call 55; ((with_reducible refine (l04Size_any pS aS S cS wr h6).mono ?_); rintro e w9 ⟨rfl, b_⟩; have HB9 := Lib.hid (hB.out.trans (b_.mono hB.out.size)); have SS9 := Lib.hid (ss2 b_ hlw SSr.out); have hl9 := Nat.lt_of_lt_of_le hlw b_.size; have B9 := Lib.hid b_; have z9 := b_.size; clear b_)))
        go_ret2
        rw [HV.out, HC0.out]
        exact ⟨a8, c8, rfl, ((HT8.out.below B9.out (Nat.le_refl _) (Nat.le_refl _) z9).row).mono HB2.out.size (Nat.le_refl _), HB2.out.trans (HB9.out.mono HB2.out.size)⟩
  · have HV : Hid (evnV pS S = []) := if_neg h0
    obtain ⟨C, hC⟩ : ∃ c, c = stC pS S [] := ⟨_, rfl⟩
    have hc1 : (C != 0) = true := by rw [hC]; simpa using h0
    have hc2 : (C == 0) = false := by rw [hC]; simpa using h0
    have HCE := Lib.hid hC
    clear hC
    clear h0
    go_enter Try.func17, Try.ntmps17
    go_upto_region 1 with fail
    obtain ⟨w1, hw1⟩ : ∃ z, z = w.alloc (.cells #[.int .i64 pS, .slice aS S.length cS] 28) := ⟨_, rfl⟩
    rw [← hw1] at HB0 k0 k1 ⊢
    have hd1 : w.heap.size < w1.heap.size := by rw [hw1]; simp
    have HB1 := HB0
    clear hw1
    have SS1 := Lib.hid (And.intro k0 k1)
    go_wp2_with (go_at_call 54; ((with_reducible refine (codeS0 pS aS S cS loS tpS w1 (HS.out.below HB1.out tS) (Nat.le_trans tS HB1.out.size) sS).mono ?_); rintro e w2 ⟨rfl, b_⟩; rw [← HCE.out]; have SS2 := Lib.hid (ss2 b_ hd1 SS1.out); have HB2 := Lib.hid (below_step HB1.out HB1.out.size b_); have hd2 := Nat.lt_of_lt_of_le hd1 b_.size; clear k0 k1; obtain ⟨k0, k1⟩ := SS2.out; clear b_))
    go_ret2
    rw [HV.out, ← HCE.out]
    exact ⟨none, 0, rfl, .inl rfl, HB2.out⟩

end Go.Proofs.Ytmlbplkapnoncaa

namespace Go.Proofs.Ytmlbplkapnoncaa
open Go.RowKit
set_option linter.unusedVariables false

theorem sp_nums {p : Int} {S : List Int} (h : isSp p S = true) : Nums p S := Nums.of (isSp_iff.1 h).all
end Go.Proofs.Ytmlbplkapnoncaa

namespace Go.Proofs.Ytmlbplkapnoncaa
open Go.RowKit
set_option linter.unusedVariables false

theorem isMv_of {p : Int} {S z : List Int} (hl : z.length = bl S) (hn : ∀ j, j < z.length → 0 ≤ z.getD j 0 ∧ z.getD j 0 < p) : isMv p S z = true := by
  unfold isMv isVec
  rw [hl, Bool.and_eq_true]
  refine ⟨by simp, ?_⟩
  rw [List.all_eq_true]
  intro y hy
  obtain ⟨j, hj, rfl⟩ := List.getElem_of_mem hy
  have h := hn j hj
  rw [getD_at hj] at h
  exact inr_iff.2 h
end Go.Proofs.Ytmlbplkapnoncaa

namespace Go.Proofs.Ytmlbplkapnoncaa
open Go.RowKit
set_option linter.unusedVariables false

def disN (p : Int) (S : List Int) : Nat → Int
  | 0 => 1
  | i + 1 => disN p S i * S.getD i 0 % p
def discN (p : Int) (S : List Int) : Int := disN p S S.length
theorem disN_bd {p : Int} (hp : prm p = true) (S : List Int) (i : Nat) : 0 ≤ disN p S i ∧ disN p S i < p := by
  have := prm_bd hp
  cases i with
  | zero => show 0 ≤ (1 : Int) ∧ (1 : Int) < p; omega
  | succ i => exact mod_bd hp _
set_option maxRecDepth 100000 in
set_option maxHeartbeats 3200000 in
theorem l03Disc_any (p : Int) (aS : Option Addr) (S : List Int) (cS loS tpS : Nat) (w : World)
    (hS : RowIn loS tpS w aS S) (tS : tpS ≤ w.heap.size) (hs : isSp p S = true) :
    Calls Try.prog 79 #[.agg #[.int .i64 p, .slice aS S.length cS]] w fun e w' => e = .returned (.int .i64 (discN p S)) ∧ Below w.heap.size w w' := by
  have K := isSp_iff.1 hs
  have hpb := prm_bd K.prime
  have hS6 := K.hi
  have HS := Lib.hid hS
  have HK := Lib.hid K
  obtain ⟨n, hn⟩ : ∃ n, n = S.length := ⟨_, rfl⟩
  rw [← hn] at hS6
  have HN := Lib.hid hn
  have hn1 : S.length ≤ n ∧ n ≤ S.length := by omega
  rw [← hn]
  clear hS hs K hn
  go_enter Try.func79, Try.ntmps79
  go_wp2
  go_loopw [3, 4] (fun s t wr => ∃ i : Nat, i ≤ n ∧ s = .int .i64 (disN p S i) ∧ t = .int .i64 i ∧ Quiet (w.alloc (.cells #[.int .i64 p, .slice aS n cS] 28)) wr) (fun _ t _ => n - (intOf t).toNat)
  case atStart => exact ⟨0, Nat.zero_le _, rfl, rfl, Quiet.refl _⟩
  case round =>
    obtain ⟨i, hi, rfl, rfl, hq⟩ := hrel
    have HQ := Lib.hid hq
    have hb0 := (hq.cell ⟨w.heap.size, 0, none⟩).trans (nw0 w _ _ _)
    have hb1 := (hq.cell ⟨w.heap.size, 1, none⟩).trans (nw1 w _ _ _)
    have hqb := (below_alloc w (.cells #[.int .i64 p, .slice aS n cS] 28)).trans (hq.below _)
    by_cases hlt : i < n
    · obtain ⟨bs, os, ha1, _, _, cs⟩ := (HS.out.below hqb tS).num (by omega : i < S.length)
      subst ha1
      obtain ⟨z0, z1⟩ := HK.out.num (by omega : i < S.length)
      obtain ⟨q0, q1⟩ := disN_bd HK.out.prime S i
      have HST : Hid (∀ s z : Int, s = disN p S i → z = S.getD i 0 → s * z % p = disN p S (i + 1)) := by
        intro s z e1 e2
        subst e1 e2
        rfl
      obtain ⟨s, hs⟩ : ∃ s, s = disN p S i := ⟨_, rfl⟩
      obtain ⟨z, hz⟩ : ∃ z, z = S.getD i 0 := ⟨_, rfl⟩
      have HE := Lib.hid (HST.out s z hs hz)
      rw [← hs] at q0 q1
      rw [← hz] at cs z0 z1
      rw [← hs]
      clear hs hz HST hq hqb
      obtain ⟨p1, p2, _, _⟩ := prod3 hpb.2 q0 q1 z0 z1 z0 z1
      have e1 : IntKind.i64.wrap (s * z) = s * z := IntWalk.i64_in _ (by omega)
      have e2 : (s * z).tmod p = s * z % p := Int.tmod_eq_emod_of_nonneg p1
      have hp0 : ¬ p = 0 := by omega
      have hp1 : (p == 0) = false := by simpa using hp0
      have hi1 : (i : Int) < (n : Int) := by omega
      go_wp2
      go_quiet (fail)
      clear e1 e2
      go_wp2
      go_roundw
      case rel => exact ⟨i + 1, by omega, by rw [HE.out], by go_num, HQ.out.next _⟩
      case measure => simp [intOf]; omega
    · have hin : i = n := by omega
      subst hin
      have HE : Hid (disN p S i = discN p S) := by show _ = _; unfold discN; rw [HN.out]
      rw [HE.out]
      clear hq hqb
      go_wp2
      go_ret
      exact ⟨rfl, (below_alloc w _).trans (HQ.out.below _)⟩

end Go.Proofs.Ytmlbplkapnoncaa

namespace Go.Proofs.Ytmlbplkapnoncaa
open Go.RowKit
set_option linter.unusedVariables false

def topF (S : List Int) (k : Int) : Nat → Int := fun j => if j = bl S - 1 then k else 0
/-- A number times the pseudoscalar. -/
def topM (S : List Int) (k : Int) : List Int := mkR (bl S) (topF S k)
theorem topM_len (S : List Int) (k : Int) : (topM S k).length = bl S := mkR_len _ _
theorem topM_at (S : List Int) (k : Int) {j : Nat} (h : j < bl S) : (topM S k).getD j 0 = topF S k j := mkR_at _ h
theorem top_mv {p : Int} {S : List Int} (hs : isSp p S = true) {k : Int} (h0 : 0 ≤ k) (h1 : k < p) : isMv p S (topM S k) = true :=
  isMv_of (topM_len S k) fun j hj => by
    have hp := prm_bd (isSp_iff.1 hs).prime
    rw [topM_len] at hj
    rw [topM_at S k hj]
    unfold topF
    split <;> omega
/-- The square of the pseudoscalar. -/
def sqT (p : Int) (S : List Int) : Int := fm p S (bl S - 1) (bl S - 1) S.length
theorem sqT_bd {p : Int} {S : List Int} (hs : isSp p S = true) : 0 ≤ sqT p S ∧ sqT p S < p := fm_bd (by have := prm_bd (isSp_iff.1 hs).prime; omega) _ _ _ _
theorem top_last (S : List Int) : bl S - 1 < bl S := by have := bl_pos S; omega
theorem sq_prod {p : Int} {S : List Int} (hs : isSp p S = true) : prodF p S (topM S 1) (topM S 1) 0 = sqT p S := by
  have hp := prm_bd (isSp_iff.1 hs).prime
  rw [← tm_sum]
  have h : ∀ a, a < bl S → tm p S (topM S 1) (topM S 1) 0 a = if a = bl S - 1 then sqT p S else 0 := fun a ha => by
    unfold tm
    rw [Nat.xor_zero, topM_at S 1 ha]
    unfold topF
    by_cases e : a = bl S - 1
    · subst e; rw [if_pos rfl, if_pos rfl, Int.one_mul, Int.mul_one]; rfl
    · rw [if_neg e, if_neg e, Int.mul_zero]
  rw [sm_congr h, sm_single, if_pos (top_last S)]
  exact Int.emod_eq_of_lt (sqT_bd hs).1 (sqT_bd hs).2
end Go.Proofs.Ytmlbplkapnoncaa
