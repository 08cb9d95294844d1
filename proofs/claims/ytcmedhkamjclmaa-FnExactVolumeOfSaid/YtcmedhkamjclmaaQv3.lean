/-
  Grades of blades and terms of multivectors, in the program; grades in the model.
  Conditions: masks of at most six bits; the multivector is a row of known cells.
  GradePart: contracts of the program and of the model.
  Conditions: the lists are nil or rows of known cells, of at most 1048576 numbers.
  The model's factors of blades: contract.
  Conditions: masks of at most six bits; the squares are a row of known cells with numbers of the prime.
  The program's factors behind a blade: contract.
  Conditions: a mask of at most six bits; the squares are a row of known cells with numbers of the prime.
  The program's geometric product: contract.
  Conditions: a space and multivectors of it: rows of known cells with numbers of the prime.
  The model's geometric product: contract.
  Conditions: a space and multivectors of it: rows of known cells with numbers of the prime.
  GeometricProduct: contracts of the program and of the model.
  Conditions: the lists are nil or rows of known cells, of at most 1048576 numbers.
  Products of a kind: wedge product, left and right contraction: sums. No Go in sight.
  No conditions.
  The model's product of the kind 0: contract.
  Conditions: a space and multivectors of it: rows of known cells with numbers of the prime.
  The model's product of the kind 1: contract.
  Conditions: a space and multivectors of it: rows of known cells with numbers of the prime.
  The model's product of the kind 2: contract.
  Conditions: a space and multivectors of it: rows of known cells with numbers of the prime.
  The program's products of a kind: sums; the table of the kinds: contracts.
  No conditions but masks below 64.
  The program's product of the kind 0: contract.
  Conditions: a space and multivectors of it: rows of known cells with numbers of the prime.
  The program's product of the kind 1: contract.
  Conditions: a space and multivectors of it: rows of known cells with numbers of the prime.
  The program's product of the kind 2: contract.
  Conditions: a space and multivectors of it: rows of known cells with numbers of the prime.
  WedgeProduct, LeftContraction, RightContraction: contracts of the program and of the model.
  Conditions: the lists are nil or rows of known cells, of at most 1048576 numbers.
  PowerOf: contracts of the program and of the model.
  Conditions: the lists are nil or rows of known cells, of at most 1048576 numbers.
  PairOf and NormOf: contracts of the program and of the model.
  Conditions: the lists are nil or rows of known cells, of at most 1048576 numbers.
-/
import Derived.Test.YtcmedhkamjclmaaQv2
import Derived.Maps.Own
import Derived.Maps.OwnSet
import Derived.Deep.RegionHeld3
import Derived.Deep.DeepAppendRoom
import Derived.Deep.DeepCutAuto
import Derived.Laws.EntriesVeiled
namespace Go.Proofs.Ytcmedhkamjclmaa
open Go.RowKit Go.Maps
set_option linter.unusedVariables false

set_option maxHeartbeats 800000 in
theorem ones64 (m : Nat) (hm : m < 64) (w : World) : Calls Try.prog 142 #[.int .u64 m] w fun e w' => e = .returned (.int .i64 (gr m)) ∧ w = w' := by
  go_enter Try.func142, Try.ntmps142
  go_wp2
  go_ret
  refine ⟨congrArg (fun z => Ending.returned (.int .i64 z)) ?_, rfl⟩
  clear w
  revert hm
  revert m
  decide +kernel

set_option maxHeartbeats 800000 in
theorem ones_any (m : Nat) (hm : m < 64) (w : World) : Calls Try.prog 123 #[.int .u64 m] w fun e w' => e = .returned (.int .i64 (gr m)) ∧ w = w' := by
  go_enter Try.func123, Try.ntmps123
  go_wp2_with (go_at_call 142; refine (ones64 m hm _).mono ?_; rintro e w1 ⟨rfl, rfl⟩)
  go_ret
  exact ⟨rfl, rfl⟩
set_option maxHeartbeats 800000 in
theorem gradeOf_any (m : Nat) (hm : m < 64) (w : World) : Calls Try.prog 97 #[.int .i64 m] w fun e w' => e = .returned (.int .i64 (gr m)) ∧ w = w' := by
  go_enter Try.func97, Try.ntmps97
  go_wp2_with (go_at_call 123; refine (ones_any m hm _).mono ?_; rintro e w1 ⟨rfl, rfl⟩)
  go_ret
  exact ⟨rfl, rfl⟩
theorem lawK : Keyed Try.prog 3 := int_keyed Try.underlying3
/-- The terms of x are handed back as a map of the call's own. -/
def TermsE (x : List Int) (w : World) (e : Ending) (w' : World) : Prop :=
  ∃ b D, e = .returned (.map (some b)) ∧ w.heap.size ≤ b ∧ b < w'.heap.size ∧ w'.ownsMap Try.prog 3 (plainElem (H := Unit) Try.prog 2) b x.length D ∧ Tm D x x.length ∧ Below w.heap.size w w'

set_option maxRecDepth 100000 in
set_option maxHeartbeats 1600000 in
theorem termsOf_any (a : Option Addr) (x : List Int) (c lo tp : Nat) (w : World) (hx : RowIn lo tp w a x) (tx : tp ≤ w.heap.size) (sx : x.length ≤ 64) (nx : ∀ j, j < x.length → -100 ≤ x.getD j 0 ∧ x.getD j 0 ≤ 100) :
    Calls Try.prog 93 #[.slice a x.length c] w (TermsE x w) := by
  have hmm := @run_makeMap Try.prog
  have HX := Lib.hid hx
  have HN := Lib.hid nx
  clear hx nx
  go_enter Try.func93, Try.ntmps93
  go_wp2
  clear hmm
  go_loopw [9] (fun t wr => ∃ (i : Nat) (D : DataW Unit), i ≤ x.length ∧ t = .int .i64 i ∧ wr.ownsMap Try.prog 3 (plainElem (H := Unit) Try.prog 2) w.heap.size i D ∧ Tm D x i ∧ Below w.heap.size w wr ∧ w.heap.size < wr.heap.size) (fun t _ => x.length - (intOf t).toNat)
  case atStart => exact ⟨0, .map [], Nat.zero_le _, rfl, World.ownsMap_made _ _ _ _, Tm.start x, below_alloc w _, by simp⟩
  case round =>
    obtain ⟨i, D, hi, rfl, hown, hT, hbel, hwlt⟩ := hrel
    have HO := Lib.hid hown
    have HT := Lib.hid hT
    have HB := Lib.hid hbel
    by_cases hlt : i < x.length
    · obtain ⟨b1, o1, ha1, l1, t1, hc1⟩ := (HX.out.below hbel tx).num hlt
      subst ha1
      obtain ⟨x0, x1⟩ := HN.out i hlt
      have hi1 : (i : Int) < (x.length : Int) := by omega
      obtain ⟨y, hy⟩ : ∃ y, y = x.getD i 0 := ⟨_, rfl⟩
      have HY := Lib.hid hy
      rw [← hy] at hc1 x0 x1
      clear hown hT hbel hy
      by_cases h0 : y = 0
      · subst h0
        go_wp2
        go_roundw
        case rel => exact ⟨i + 1, D, by omega, by go_num, HO.out.mono (Nat.le_succ _), HT.out.skip HY.out.symm, HB.out, hwlt⟩
        case measure => simp [intOf]; omega
      · have e0 : (y != 0) = true := by simpa using h0
        have hwf : (Lit.int .i64 y).wf = true := WalkArith.wf_i64 (by omega)
        have hwk : (Lit.int .i64 (i : Int)).wf = true := WalkArith.wf_i64 (by omega)
        have HY0 : Hid (x.getD i 0 ≠ 0) := by show _ ≠ _; rw [← HY.out]; exact h0
        go_wp2_with (first | (at_mapUpdate; refine wpList_mapUpdate_own _ rfl _ _ _ 84 rfl 3 2 lawK Try.underlying84 (plainElem (H := Unit) Try.prog 2) w.heap.size i D rfl HO.out (by unfold maxLen; omega) _ _ _ rfl rfl (keyOf_int_mk Try.underlying3 hwk) _ [] (plainElem_int Try.underlying2 hwf) ?_; intro w1 hown1 hgrow1))
        go_roundw
        case rel => exact ⟨i + 1, _, by omega, by go_num, hown1, by have h := HT.out.put HO.out.isMap HY0.out; rw [← HY.out] at h; exact h, HB.out.grown hgrow1 HB.out.size (fun j hj => by cases hj; exact Nat.le_refl _), by have := hgrow1.size; omega⟩
        case measure => simp [intOf]; omega
    · have hn : i = x.length := by omega
      subst hn
      clear hown hT hbel
      go_wp2
      go_ret
      exact ⟨w.heap.size, D, rfl, Nat.le_refl _, hwlt, HO.out, HT.out, HB.out⟩

end Go.Proofs.Ytcmedhkamjclmaa

namespace Go.Proofs.Ytcmedhkamjclmaa
open Go.RowKit
set_option linter.unusedVariables false

theorem xor_64 {a b : Nat} (ha : a < 64) (hb : b < 64) : bits .xor .i64 (a : Int) (b : Int) = ((a ^^^ b : Nat) : Int) := by
  have h : ∀ a : Nat, a < 64 → ∀ b : Nat, b < 64 → bits .xor .i64 (a : Int) (b : Int) = ((a ^^^ b : Nat) : Int) := by decide +kernel
  exact h a ha b hb
theorem and_one {a : Nat} (ha : a < 64) : bits .and .i64 (a : Int) 1 = ((a % 2 : Nat) : Int) := by
  have h : ∀ a : Nat, a < 64 → bits .and .i64 (a : Int) 1 = ((a % 2 : Nat) : Int) := by decide +kernel
  exact h a ha
theorem two_cases {a : Nat} (h : ¬ a % 2 = 1) : a % 2 = 0 := by omega

theorem shr_nat (a i : Nat) : (a : Int) / 2 ^ i = ((a / 2 ^ i : Nat) : Int) := by simp
theorem shr_lt {a : Nat} (ha : a < 64) (i : Nat) : a / 2 ^ i < 64 := Nat.lt_of_le_of_lt (Nat.div_le_self _ _) ha
theorem and_shr {a : Nat} (ha : a < 64) (i : Nat) : bits .and .i64 ((a : Int) / 2 ^ i) 1 = ((a / 2 ^ i % 2 : Nat) : Int) := by rw [shr_nat, and_one (shr_lt ha i)]
end Go.Proofs.Ytcmedhkamjclmaa

namespace Go.Proofs.Ytcmedhkamjclmaa
open Go.RowKit
set_option linter.unusedVariables false

theorem gradeOf_shr (a i : Nat) (ha : a < 64) (w : World) : Calls Try.prog 97 #[.int .i64 ((a : Int) / 2 ^ i)] w fun e w' => e = .returned (.int .i64 (gr (a / 2 ^ i))) ∧ w = w' := by
  rw [shr_nat]; exact gradeOf_any _ (shr_lt ha i) w
/-- Room of one's own at a known block: a list with capacity. -/
def RoomR (w : World) (g cap : Nat) (zs : List Int) : Prop := w.ownsRow g 2 1 (.slice (some ⟨g, 0, none⟩) zs.length cap) zs.length (zs.map (Value.int .i64))
theorem RoomR.cell {w : World} {g cap : Nat} {zs : List Int} (h : RoomR w g cap zs) {j : Nat} (hj : j < zs.length) : w.cell? ⟨g, j, none⟩ = some (.int .i64 (zs.getD j 0)) := by
  have h2 := World.ownsRow.cells h (g := g) rfl j (.int .i64 (zs.getD j 0)) (by simp [hj, List.getD])
  rw [Addr.add_lit, Nat.zero_add] at h2
  exact h2
theorem RoomR.row {w : World} {g n : Nat} {f : Nat → Int} (h : RoomR w g n (mkR n f)) : RowOwn w g 0 n f := by
  refine ⟨fun j hj => ?_, fun j hj => ?_⟩
  · have h2 := h.cell (j := j) (by rw [mkR_len]; exact hj)
    rw [mkR_at _ hj] at h2
    rw [Nat.zero_add]; exact h2
  · obtain ⟨_, h⟩ := h
    rcases h with ⟨h, _⟩ | ⟨g', cap, cur, hv, hb, hg, hnc, hcm, hcs, htake⟩
    · cases h
    · cases hv
      simp [World.frozen?, hg]
theorem RoomR.start (w : World) {n : Nat} (hn : 0 < n) (hm : n ≤ 64) (v : Int) : RoomR (w.alloc (.cells ((madeCells #[.int .i64 0] n).setIfInBounds 0 (.int .i64 v)) 2)) w.heap.size n [v] := by
  refine ⟨rfl, .inr ⟨w.heap.size, n, (madeCells #[.int .i64 0] n).setIfInBounds 0 (.int .i64 v), rfl, Nat.le_refl _, heap_alloc_new w _, hn, by unfold maxLen; omega, by simp [size_madeCells], ?_⟩⟩
  obtain ⟨k, rfl⟩ : ∃ k, n = k + 1 := ⟨n - 1, by omega⟩
  have e : ((madeCells #[.int .i64 0] (k + 1)).setIfInBounds 0 (Value.int .i64 v)).toList = (Value.int .i64 v) :: ((madeCells #[.int .i64 0] (k + 1)).setIfInBounds 0 (Value.int .i64 v)).toList.drop 1 := by
    have hl : 0 < ((madeCells #[Value.int .i64 0] (k + 1)).setIfInBounds 0 (Value.int .i64 v)).toList.length := by simp [size_madeCells]
    rw [List.drop_one]
    have h2 := List.cons_head_tail (List.ne_nil_of_length_pos hl)
    rw [← h2]
    simp [List.head_eq_getElem]
  rw [e]; rfl
theorem RoomR.below {w w' : World} {B g n : Nat} {zs : List Int} (h : RoomR w g n zs) (hb : Below B w w') (hg : g < B) : RoomR w' g n zs := by
  obtain ⟨h0, h1⟩ := h
  rcases h1 with ⟨h1, _⟩ | ⟨g', cap, cur, hv, hb1, hg1, hnc, hcm, hcs, htake⟩
  · cases h1
  · cases hv
    exact ⟨h0, .inr ⟨g, n, cur, rfl, hb1, (hb.block g hg).trans hg1, hnc, hcm, hcs, htake⟩⟩
theorem half_bit {k i : Nat} (h : k < 2 ^ i) : k / 2 ^ i % 2 = 0 ∧ (k + 2 ^ i) / 2 ^ i % 2 = 1 := by
  have hp := Nat.two_pow_pos i
  rw [Nat.div_eq_of_lt h, Nat.add_div_right k hp, Nat.div_eq_of_lt h]
  exact ⟨rfl, rfl⟩
theorem mkR_snoc (k : Nat) (f : Nat → Int) : mkR (k + 1) f = mkR k f ++ [f k] := by simp [mkR, List.range_succ]
theorem fi_bd {p : Int} (hp : 3 ≤ p) (S : List Int) (a i : Nat) : 0 ≤ fi p S a i ∧ fi p S a i < p := by
  unfold fi
  split
  · exact ⟨Int.emod_nonneg _ (by omega), Int.emod_lt_of_pos _ (by omega)⟩
  · split <;> omega

set_option maxRecDepth 100000 in
set_option maxHeartbeats 3200000 in
theorem factorsBehind_any (p : Int) (aS : Option Addr) (S : List Int) (cS loS tpS : Nat) (a : Nat) (w : World) (hp : prm p = true) (h6 : S.length ≤ 6) (hS : RowIn loS tpS w aS S) (tS : tpS ≤ w.heap.size) (hn : Nums p S) (ha : a < 64) :
    Calls Try.prog 94 #[.agg #[.int .i64 p, .slice aS S.length cS], .int .i64 a] w (NewRow (bl S) (fun b => fm p S a b S.length) w) := by
  have hpb := prm_bd hp
  have hbl := bl_le h6
  have hb0 := bl_pos S
  obtain ⟨i0, hi, hz0, hz1, hz2⟩ := info_parts info64
  obtain ⟨n, hnn⟩ : ∃ n, n = bl S := ⟨_, rfl⟩
  rw [← hnn] at hbl hb0 ⊢
  have HNN := Lib.hid hnn
  have hmk : ∀ W, (Instr.makeSlice 22 (.int .i64 1) (.int .i64 (n : Int))).run Try.prog W = .ok (.slice (some ⟨W.heap.size, 0, none⟩) 1 n) (W.alloc (.cells (madeCells #[.int .i64 0] n) 2)) := fun W => by
    have h := Go.run_make (P := Try.prog) W 22 2 i0 (.int .i64 0) Try.underlying22 hi hz0 .i64 .i64 1 n (by omega) (by omega) (by rw [hz2]; omega) (by omega)
    simp only [Int.toNat_natCast, hz1, Nat.mul_one] at h
    exact h
  have HS := Lib.hid hS
  have HN := Lib.hid hn
  have HB0 := Lib.hid (below_alloc w (.cells #[.int .i64 p, .slice aS S.length cS] 28))
  have k0 := nw0 w (.int .i64 p) (.slice aS S.length cS) 28
  have k1 := nw1 w (.int .i64 p) (.slice aS S.length cS) 28
  clear hS hn hnn
  go_enter Try.func94, Try.ntmps94
  go_upto_region 1 with fail
  obtain ⟨w1, hw1⟩ : ∃ z, z = w.alloc (.cells #[.int .i64 p, .slice aS S.length cS] 28) := ⟨_, rfl⟩
  rw [← hw1] at HB0 k0 k1 ⊢
  have hw0 : w.heap.size < w1.heap.size := by rw [hw1]; simp
  clear hw1
  go_upto_region 3 with (go_at_call 92; (with_reducible refine (blades_any p aS S cS _ h6).mono ?_); rintro e w2 ⟨rfl, b2⟩; rw [← HNN.out]; have B2 := Lib.hid b2; have z2 := b2.size; have g0 := made_cell w2 (.int .i64 0) n 2 hb0; have f0 : (w2.alloc (.cells (madeCells #[.int .i64 0] n) 2)).frozen? ⟨w2.heap.size, 0, none⟩ = false := (by simp [go_sem]); clear b2)
  obtain ⟨g, hg⟩ : ∃ b, b = w2.heap.size := ⟨_, rfl⟩
  obtain ⟨w3, hw3⟩ : ∃ z, z = w2.alloc (.cells ((madeCells #[.int .i64 0] n).setIfInBounds 0 (.int .i64 1)) 2) := ⟨_, rfl⟩
  have HR3 : Hid (RoomR w3 g n (mkR (2 ^ 0) (fun b => fm p S a b 0))) := by
    show RoomR _ _ _ _
    rw [hw3, hg, show mkR (2 ^ 0) (fun b => fm p S a b 0) = [1] by show [fm p S a 0 0] = [1]; rw [fm_zero (by omega)]]
    exact RoomR.start w2 hb0 hbl 1
  have HB2 : Hid (Below w.heap.size w w2) := HB0.out.trans (B2.out.mono (by omega))
  have HB3 : Hid (Below w.heap.size w w3) := by show Below _ _ _; rw [hw3]; exact HB2.out.alloc HB2.out.size _
  have hz3 : w2.heap.size < w3.heap.size := by rw [hw3]; simp
  have K0 : Hid (w3.cell? ⟨w.heap.size, 0, none⟩ = some (.int .i64 p)) := by show _ = _; rw [hw3]; exact (World.cell?_alloc_old _ _ _ (show w.heap.size ≠ w2.heap.size by omega)).trans ((B2.out.cell (p := ⟨w.heap.size, 0, none⟩) hw0).trans k0)
  have K1 : Hid (w3.cell? ⟨w.heap.size, 1, none⟩ = some (.slice aS S.length cS)) := by show _ = _; rw [hw3]; exact (World.cell?_alloc_old _ _ _ (show w.heap.size ≠ w2.heap.size by omega)).trans ((B2.out.cell (p := ⟨w.heap.size, 1, none⟩) hw0).trans k1)
  have k1 := K1.out
  have hwg : w.heap.size < g := by omega
  have hgl : g < w3.heap.size := by omega
  rw [← hw3, ← hg]
  clear hw3 hmk g0 f0 hg z2
  go_wp2
  go_loopw [5, 19] (fun v t wr => ∃ i : Nat, i ≤ S.length ∧ v = .slice (some ⟨g, 0, none⟩) (2 ^ i) n ∧ t = .int .i64 i ∧ RoomR wr g n (mkR (2 ^ i) (fun b => fm p S a b i)) ∧ wr.cell? ⟨w.heap.size, 0, none⟩ = some (.int .i64 p) ∧ Below w.heap.size w wr ∧ g < wr.heap.size) (fun _ t _ => S.length - (intOf t).toNat)
  case atStart => exact ⟨0, Nat.zero_le _, rfl, rfl, HR3.out, K0.out, HB3.out, hgl⟩
  case round =>
    obtain ⟨i, hile, rfl, rfl, hr, hk0, hbel, hgw⟩ := hrel
    rename World => wo
    have HR := Lib.hid hr
    have HK0 := Lib.hid hk0
    have HB := Lib.hid hbel
    have hwz := hbel.size
    by_cases hlt : i < S.length
    · obtain ⟨bx, ox, hax, _, ux, hcx⟩ := (HS.out.below hbel tS).num hlt
      subst hax
      have hi1 : (i : Int) < (S.length : Int) := by omega
      obtain ⟨s0, s1⟩ := HN.out i hlt
      obtain ⟨s, hs⟩ : ∃ s, s = S.getD i 0 := ⟨_, rfl⟩
      have HSS := Lib.hid hs
      rw [← hs] at hcx s0 s1
      have hpn : 2 ^ i + 2 ^ i ≤ n := by
        rw [HNN.out]; unfold bl
        have h := Nat.pow_le_pow_right (show 0 < 2 by decide) (show i + 1 ≤ S.length by omega)
        rw [Nat.pow_succ] at h; omega
      obtain ⟨m, hm⟩ : ∃ m, m = 2 ^ i := ⟨_, rfl⟩
      have HM := Lib.hid hm
      rw [← hm] at hpn ⊢
      rw [← hm] at HR
      clear hs hr hbel hm
      by_cases hg : gr (a / 2 ^ (i + 1)) % 2 = 1
      · have e4 : (((gr (a / 2 ^ (i + 1)) : Nat) : Int) % 2 == 1) = true := by simp; omega
        have e6 : IntKind.i64.wrap (p - 1) = p - 1 := IntWalk.i64_in _ (by omega)
        by_cases hai : a / 2 ^ i % 2 = 1
        · have e5 : (bits BinOp.and IntKind.i64 ((a : Int) / 2 ^ i) 1 == 1) = true := by rw [and_shr ha]; rw [hai]; rfl
          have hf : fi p S a i = (p - 1) * s % p := by unfold fi; rw [if_pos hai, if_pos hg, ← HSS.out]
          obtain ⟨m0, m1⟩ := mul_bd' hpb.2 (show 0 ≤ p - 1 by omega) (show p - 1 < p by omega) s0 s1
          have e8 : IntKind.i64.wrap ((p - 1) * s) = (p - 1) * s := IntWalk.i64_in _ (by omega)
          have e9 : ((p - 1) * s).tmod p = (p - 1) * s % p := Int.tmod_eq_emod_of_nonneg m0
          have hp0 : ¬ p = 0 := by omega
          have hp1 : (p == 0) = false := by simpa using hp0
          obtain ⟨f, hf2⟩ : ∃ f : Int, f = (p - 1) * s % p := ⟨_, rfl⟩
          rw [← hf2] at hf
          rw [← hf2] at e9
          have HF := Lib.hid hf
          obtain ⟨f0, f1⟩ := fi_bd hpb.1 S a i
          rw [hf] at f0 f1
          clear hg hai hf hf2
          go_wp2_with (first | (go_at_call 97; refine (gradeOf_shr a (i + 1) ha _).mono ?_; rintro e w4 ⟨rfl, rfl⟩))
          go_loopw [5, 47] (fun v t wr => ∃ k : Nat, k ≤ m ∧ v = .slice (some ⟨g, 0, none⟩) (m + k) n ∧ t = .int .i64 k ∧ RoomR wr g n (mkR (m + k) (fun b => fm p S a b (i + 1))) ∧ wr.cell? ⟨w.heap.size, 0, none⟩ = some (.int .i64 p) ∧ Below w.heap.size w wr ∧ g < wr.heap.size) (fun _ t _ => m - (intOf t).toNat)
          case atStart => exact ⟨0, Nat.zero_le _, rfl, rfl, (mkR_congr (c := m) (f := fun b => fm p S a b i) (g := fun b => fm p S a b (i + 1)) (fun b hb => (fm_skip p S (half_bit (HM.out ▸ hb)).1).symm)) ▸ HR.out, HK0.out, HB.out, hgw⟩
          case round =>
            obtain ⟨k, hk, rfl, rfl, hr, hk0, hbel, hgw2⟩ := hrel
            have HRK := Lib.hid hr
            have HK0' := Lib.hid hk0
            have HBK := Lib.hid hbel
            have hwz2 := hbel.size
            by_cases hltk : k < m
            · have c0 := hr.cell (j := k) (by rw [mkR_len]; omega)
              rw [mkR_at _ (by omega)] at c0
              obtain ⟨y0, y1⟩ := fm_bd (show 0 < p by omega) S a k (i + 1)
              have HST : Hid (fm p S a (m + k) (i + 1) = fm p S a k (i + 1) * f % p) := by
                show _ = _
                have hkp : k < 2 ^ i := HM.out ▸ hltk
                rw [Nat.add_comm, HM.out, fm_step p S (half_bit hkp).2, fm_add, fm_skip p S (half_bit hkp).1, HF.out]
              obtain ⟨y, hy⟩ : ∃ y, y = fm p S a k (i + 1) := ⟨_, rfl⟩
              rw [← hy] at c0 y0 y1 HST
              have hk1 : (k : Int) < (m : Int) := by omega
              obtain ⟨m0, m1⟩ := mul_bd' hpb.2 y0 y1 f0 f1
              have e1 : IntKind.i64.wrap (y * f) = y * f := IntWalk.i64_in _ (by omega)
              have e2 : (y * f).tmod p = y * f % p := Int.tmod_eq_emod_of_nonneg m0
              obtain ⟨X, hX⟩ : ∃ X, X = (mkR (m + k) (fun b => fm p S a b (i + 1))).map (Value.int .i64) := ⟨_, rfl⟩
              have HX := Lib.hid hX
              have HO : Hid (wr.ownsRow g 2 1 (.slice (some ⟨g, 0, none⟩) (m + k) n) (m + k) X) := by
                have h := HRK.out; unfold RoomR at h; rw [mkR_len, ← hX] at h; exact h
              clear hr hbel hy hX
              go_wp2_with (first | (at_builtin; refine wpList_append_own_spare _ rfl _ _ 22 rfl g 2 i0 1 Try.underlying22 hi hz1 g (m + k) n X rfl (HO.out.alloc _) ⟨wr.heap.size, 0, none⟩ 1 1 [.int .i64 (y * f % p)] rfl rfl (World.news_of_block (cs := #[.int .i64 (y * f % p)]) (t := 2) (fr := (0, 0)) (heap_alloc_new wr _)) (by simp [Value.oneCell']) (by omega) ?_; intro w5 hown1 hgrow1))
              have hz5 := hgrow1.size
              simp at hz5
              go_roundw
              case rel => exact ⟨k + 1, by omega, rfl, by go_num, by
                  unfold RoomR; rw [mkR_len, show m + (k + 1) = m + k + 1 from rfl, mkR_snoc, List.map_append, ← HX.out, HST.out]; exact hown1,
                (hgrow1.cell_far ⟨w.heap.size, 0, none⟩ (by simp; omega) (by simp; omega)).trans ((World.cell?_alloc_old _ _ _ (show w.heap.size ≠ wr.heap.size by omega)).trans HK0'.out), (HBK.out.alloc hwz2 _).grown hgrow1 (by simp; omega) (fun j hj => by cases hj; omega), by omega⟩
              case measure => simp [intOf]; omega
            · have hkm : k = m := by omega
              subst hkm
              clear hr hbel
              go_wp2
              go_roundw
              case rel => exact ⟨i + 1, by omega, by rw [Nat.pow_succ, ← HM.out]; congr 1; omega, by go_num, by
                  have h := HRK.out; rw [show k + k = 2 ^ (i + 1) by rw [Nat.pow_succ, ← HM.out]; omega] at h; exact h, HK0'.out, HBK.out, hgw2⟩
              case measure => simp [intOf]; omega
        · have e5 : (bits BinOp.and IntKind.i64 ((a : Int) / 2 ^ i) 1 == 1) = false := by rw [and_shr ha]; rw [two_cases hai]; rfl
          have hf : fi p S a i = p - 1 := by unfold fi; rw [if_neg hai, if_pos hg]
          have hp0 : ¬ p = 0 := by omega
          have hp1 : (p == 0) = false := by simpa using hp0
          obtain ⟨f, hf2⟩ : ∃ f : Int, f = p - 1 := ⟨_, rfl⟩
          rw [← hf2] at hf
          have HF := Lib.hid hf
          obtain ⟨f0, f1⟩ := fi_bd hpb.1 S a i
          rw [hf] at f0 f1
          clear hg hai hf
          go_wp2_with (first | (go_at_call 97; refine (gradeOf_shr a (i + 1) ha _).mono ?_; rintro e w4 ⟨rfl, rfl⟩))
          rw [← hf2]
          clear hf2
          go_loopw [5, 47] (fun v t wr => ∃ k : Nat, k ≤ m ∧ v = .slice (some ⟨g, 0, none⟩) (m + k) n ∧ t = .int .i64 k ∧ RoomR wr g n (mkR (m + k) (fun b => fm p S a b (i + 1))) ∧ wr.cell? ⟨w.heap.size, 0, none⟩ = some (.int .i64 p) ∧ Below w.heap.size w wr ∧ g < wr.heap.size) (fun _ t _ => m - (intOf t).toNat)
          case atStart => exact ⟨0, Nat.zero_le _, rfl, rfl, (mkR_congr (c := m) (f := fun b => fm p S a b i) (g := fun b => fm p S a b (i + 1)) (fun b hb => (fm_skip p S (half_bit (HM.out ▸ hb)).1).symm)) ▸ HR.out, HK0.out, HB.out, hgw⟩
          case round =>
            obtain ⟨k, hk, rfl, rfl, hr, hk0, hbel, hgw2⟩ := hrel
            have HRK := Lib.hid hr
            have HK0' := Lib.hid hk0
            have HBK := Lib.hid hbel
            have hwz2 := hbel.size
            by_cases hltk : k < m
            · have c0 := hr.cell (j := k) (by rw [mkR_len]; omega)
              rw [mkR_at _ (by omega)] at c0
              obtain ⟨y0, y1⟩ := fm_bd (show 0 < p by omega) S a k (i + 1)
              have HST : Hid (fm p S a (m + k) (i + 1) = fm p S a k (i + 1) * f % p) := by
                show _ = _
                have hkp : k < 2 ^ i := HM.out ▸ hltk
                rw [Nat.add_comm, HM.out, fm_step p S (half_bit hkp).2, fm_add, fm_skip p S (half_bit hkp).1, HF.out]
              obtain ⟨y, hy⟩ : ∃ y, y = fm p S a k (i + 1) := ⟨_, rfl⟩
              rw [← hy] at c0 y0 y1 HST
              have hk1 : (k : Int) < (m : Int) := by omega
              obtain ⟨m0, m1⟩ := mul_bd' hpb.2 y0 y1 f0 f1
              have e1 : IntKind.i64.wrap (y * f) = y * f := IntWalk.i64_in _ (by omega)
              have e2 : (y * f).tmod p = y * f % p := Int.tmod_eq_emod_of_nonneg m0
              obtain ⟨X, hX⟩ : ∃ X, X = (mkR (m + k) (fun b => fm p S a b (i + 1))).map (Value.int .i64) := ⟨_, rfl⟩
              have HX := Lib.hid hX
              have HO : Hid (wr.ownsRow g 2 1 (.slice (some ⟨g, 0, none⟩) (m + k) n) (m + k) X) := by
                have h := HRK.out; unfold RoomR at h; rw [mkR_len, ← hX] at h; exact h
              clear hr hbel hy hX
              go_wp2_with (first | (at_builtin; refine wpList_append_own_spare _ rfl _ _ 22 rfl g 2 i0 1 Try.underlying22 hi hz1 g (m + k) n X rfl (HO.out.alloc _) ⟨wr.heap.size, 0, none⟩ 1 1 [.int .i64 (y * f % p)] rfl rfl (World.news_of_block (cs := #[.int .i64 (y * f % p)]) (t := 2) (fr := (0, 0)) (heap_alloc_new wr _)) (by simp [Value.oneCell']) (by omega) ?_; intro w5 hown1 hgrow1))
              have hz5 := hgrow1.size
              simp at hz5
              go_roundw
              case rel => exact ⟨k + 1, by omega, rfl, by go_num, by
                  unfold RoomR; rw [mkR_len, show m + (k + 1) = m + k + 1 from rfl, mkR_snoc, List.map_append, ← HX.out, HST.out]; exact hown1,
                (hgrow1.cell_far ⟨w.heap.size, 0, none⟩ (by simp; omega) (by simp; omega)).trans ((World.cell?_alloc_old _ _ _ (show w.heap.size ≠ wr.heap.size by omega)).trans HK0'.out), (HBK.out.alloc hwz2 _).grown hgrow1 (by simp; omega) (fun j hj => by cases hj; omega), by omega⟩
              case measure => simp [intOf]; omega
            · have hkm : k = m := by omega
              subst hkm
              clear hr hbel
              go_wp2
              go_roundw
              case rel => exact ⟨i + 1, by omega, by rw [Nat.pow_succ, ← HM.out]; congr 1; omega, by go_num, by
                  have h := HRK.out; rw [show k + k = 2 ^ (i + 1) by rw [Nat.pow_succ, ← HM.out]; omega] at h; exact h, HK0'.out, HBK.out, hgw2⟩
              case measure => simp [intOf]; omega
      · have e4 : (((gr (a / 2 ^ (i + 1)) : Nat) : Int) % 2 == 1) = false := by simp; omega
        by_cases hai : a / 2 ^ i % 2 = 1
        · have e5 : (bits BinOp.and IntKind.i64 ((a : Int) / 2 ^ i) 1 == 1) = true := by rw [and_shr ha]; rw [hai]; rfl
          have hf : fi p S a i = s % p := by unfold fi; rw [if_pos hai, if_neg hg, ← HSS.out]; rw [Int.one_mul]
          have e9 : s.tmod p = s % p := Int.tmod_eq_emod_of_nonneg s0
          have hp0 : ¬ p = 0 := by omega
          have hp1 : (p == 0) = false := by simpa using hp0
          obtain ⟨f, hf2⟩ : ∃ f : Int, f = s % p := ⟨_, rfl⟩
          rw [← hf2] at hf
          rw [← hf2] at e9
          have HF := Lib.hid hf
          obtain ⟨f0, f1⟩ := fi_bd hpb.1 S a i
          rw [hf] at f0 f1
          clear hg hai hf hf2
          go_wp2_with (first | (go_at_call 97; refine (gradeOf_shr a (i + 1) ha _).mono ?_; rintro e w4 ⟨rfl, rfl⟩))
          go_loopw [5, 47] (fun v t wr => ∃ k : Nat, k ≤ m ∧ v = .slice (some ⟨g, 0, none⟩) (m + k) n ∧ t = .int .i64 k ∧ RoomR wr g n (mkR (m + k) (fun b => fm p S a b (i + 1))) ∧ wr.cell? ⟨w.heap.size, 0, none⟩ = some (.int .i64 p) ∧ Below w.heap.size w wr ∧ g < wr.heap.size) (fun _ t _ => m - (intOf t).toNat)
          case atStart => exact ⟨0, Nat.zero_le _, rfl, rfl, (mkR_congr (c := m) (f := fun b => fm p S a b i) (g := fun b => fm p S a b (i + 1)) (fun b hb => (fm_skip p S (half_bit (HM.out ▸ hb)).1).symm)) ▸ HR.out, HK0.out, HB.out, hgw⟩
          case round =>
            obtain ⟨k, hk, rfl, rfl, hr, hk0, hbel, hgw2⟩ := hrel
            have HRK := Lib.hid hr
            have HK0' := Lib.hid hk0
            have HBK := Lib.hid hbel
            have hwz2 := hbel.size
            by_cases hltk : k < m
            · have c0 := hr.cell (j := k) (by rw [mkR_len]; omega)
              rw [mkR_at _ (by omega)] at c0
              obtain ⟨y0, y1⟩ := fm_bd (show 0 < p by omega) S a k (i + 1)
              have HST : Hid (fm p S a (m + k) (i + 1) = fm p S a k (i + 1) * f % p) := by
                show _ = _
                have hkp : k < 2 ^ i := HM.out ▸ hltk
                rw [Nat.add_comm, HM.out, fm_step p S (half_bit hkp).2, fm_add, fm_skip p S (half_bit hkp).1, HF.out]
              obtain ⟨y, hy⟩ : ∃ y, y = fm p S a k (i + 1) := ⟨_, rfl⟩
              rw [← hy] at c0 y0 y1 HST
              have hk1 : (k : Int) < (m : Int) := by omega
              obtain ⟨m0, m1⟩ := mul_bd' hpb.2 y0 y1 f0 f1
              have e1 : IntKind.i64.wrap (y * f) = y * f := IntWalk.i64_in _ (by omega)
              have e2 : (y * f).tmod p = y * f % p := Int.tmod_eq_emod_of_nonneg m0
              obtain ⟨X, hX⟩ : ∃ X, X = (mkR (m + k) (fun b => fm p S a b (i + 1))).map (Value.int .i64) := ⟨_, rfl⟩
              have HX := Lib.hid hX
              have HO : Hid (wr.ownsRow g 2 1 (.slice (some ⟨g, 0, none⟩) (m + k) n) (m + k) X) := by
                have h := HRK.out; unfold RoomR at h; rw [mkR_len, ← hX] at h; exact h
              clear hr hbel hy hX
              go_wp2_with (first | (at_builtin; refine wpList_append_own_spare _ rfl _ _ 22 rfl g 2 i0 1 Try.underlying22 hi hz1 g (m + k) n X rfl (HO.out.alloc _) ⟨wr.heap.size, 0, none⟩ 1 1 [.int .i64 (y * f % p)] rfl rfl (World.news_of_block (cs := #[.int .i64 (y * f % p)]) (t := 2) (fr := (0, 0)) (heap_alloc_new wr _)) (by simp [Value.oneCell']) (by omega) ?_; intro w5 hown1 hgrow1))
              have hz5 := hgrow1.size
              simp at hz5
              go_roundw
              case rel => exact ⟨k + 1, by omega, rfl, by go_num, by
                  unfold RoomR; rw [mkR_len, show m + (k + 1) = m + k + 1 from rfl, mkR_snoc, List.map_append, ← HX.out, HST.out]; exact hown1,
                (hgrow1.cell_far ⟨w.heap.size, 0, none⟩ (by simp; omega) (by simp; omega)).trans ((World.cell?_alloc_old _ _ _ (show w.heap.size ≠ wr.heap.size by omega)).trans HK0'.out), (HBK.out.alloc hwz2 _).grown hgrow1 (by simp; omega) (fun j hj => by cases hj; omega), by omega⟩
              case measure => simp [intOf]; omega
            · have hkm : k = m := by omega
              subst hkm
              clear hr hbel
              go_wp2
              go_roundw
              case rel => exact ⟨i + 1, by omega, by rw [Nat.pow_succ, ← HM.out]; congr 1; omega, by go_num, by
                  have h := HRK.out; rw [show k + k = 2 ^ (i + 1) by rw [Nat.pow_succ, ← HM.out]; omega] at h; exact h, HK0'.out, HBK.out, hgw2⟩
              case measure => simp [intOf]; omega
        · have e5 : (bits BinOp.and IntKind.i64 ((a : Int) / 2 ^ i) 1 == 1) = false := by rw [and_shr ha]; rw [two_cases hai]; rfl
          have hf : fi p S a i = 1 := by unfold fi; rw [if_neg hai, if_neg hg]
          have hp0 : ¬ p = 0 := by omega
          have hp1 : (p == 0) = false := by simpa using hp0
          obtain ⟨f, hf2⟩ : ∃ f : Int, f = 1 := ⟨_, rfl⟩
          rw [← hf2] at hf
          have HF := Lib.hid hf
          obtain ⟨f0, f1⟩ := fi_bd hpb.1 S a i
          rw [hf] at f0 f1
          clear hg hai hf
          go_wp2_with (first | (go_at_call 97; refine (gradeOf_shr a (i + 1) ha _).mono ?_; rintro e w4 ⟨rfl, rfl⟩))
          subst hf2
          go_loopw [5, 47] (fun v t wr => ∃ k : Nat, k ≤ m ∧ v = .slice (some ⟨g, 0, none⟩) (m + k) n ∧ t = .int .i64 k ∧ RoomR wr g n (mkR (m + k) (fun b => fm p S a b (i + 1))) ∧ wr.cell? ⟨w.heap.size, 0, none⟩ = some (.int .i64 p) ∧ Below w.heap.size w wr ∧ g < wr.heap.size) (fun _ t _ => m - (intOf t).toNat)
          case atStart => exact ⟨0, Nat.zero_le _, rfl, rfl, (mkR_congr (c := m) (f := fun b => fm p S a b i) (g := fun b => fm p S a b (i + 1)) (fun b hb => (fm_skip p S (half_bit (HM.out ▸ hb)).1).symm)) ▸ HR.out, HK0.out, HB.out, hgw⟩
          case round =>
            obtain ⟨k, hk, rfl, rfl, hr, hk0, hbel, hgw2⟩ := hrel
            have HRK := Lib.hid hr
            have HK0' := Lib.hid hk0
            have HBK := Lib.hid hbel
            have hwz2 := hbel.size
            by_cases hltk : k < m
            · have c0 := hr.cell (j := k) (by rw [mkR_len]; omega)
              rw [mkR_at _ (by omega)] at c0
              obtain ⟨y0, y1⟩ := fm_bd (show 0 < p by omega) S a k (i + 1)
              have HST : Hid (fm p S a (m + k) (i + 1) = fm p S a k (i + 1) % p) := by
                show _ = _
                have hkp : k < 2 ^ i := HM.out ▸ hltk
                rw [Nat.add_comm, HM.out, fm_step p S (half_bit hkp).2, fm_add, fm_skip p S (half_bit hkp).1, HF.out, Int.mul_one]
              obtain ⟨y, hy⟩ : ∃ y, y = fm p S a k (i + 1) := ⟨_, rfl⟩
              rw [← hy] at c0 y0 y1 HST
              have hk1 : (k : Int) < (m : Int) := by omega
              have e2 : y.tmod p = y % p := Int.tmod_eq_emod_of_nonneg y0
              obtain ⟨X, hX⟩ : ∃ X, X = (mkR (m + k) (fun b => fm p S a b (i + 1))).map (Value.int .i64) := ⟨_, rfl⟩
              have HX := Lib.hid hX
              have HO : Hid (wr.ownsRow g 2 1 (.slice (some ⟨g, 0, none⟩) (m + k) n) (m + k) X) := by
                have h := HRK.out; unfold RoomR at h; rw [mkR_len, ← hX] at h; exact h
              clear hr hbel hy hX
              go_wp2_with (first | (at_builtin; refine wpList_append_own_spare _ rfl _ _ 22 rfl g 2 i0 1 Try.underlying22 hi hz1 g (m + k) n X rfl (HO.out.alloc _) ⟨wr.heap.size, 0, none⟩ 1 1 [.int .i64 (y % p)] rfl rfl (World.news_of_block (cs := #[.int .i64 (y % p)]) (t := 2) (fr := (0, 0)) (heap_alloc_new wr _)) (by simp [Value.oneCell']) (by omega) ?_; intro w5 hown1 hgrow1))
              have hz5 := hgrow1.size
              simp at hz5
              go_roundw
              case rel => exact ⟨k + 1, by omega, rfl, by go_num, by
                  unfold RoomR; rw [mkR_len, show m + (k + 1) = m + k + 1 from rfl, mkR_snoc, List.map_append, ← HX.out, HST.out]; exact hown1,
                (hgrow1.cell_far ⟨w.heap.size, 0, none⟩ (by simp; omega) (by simp; omega)).trans ((World.cell?_alloc_old _ _ _ (show w.heap.size ≠ wr.heap.size by omega)).trans HK0'.out), (HBK.out.alloc hwz2 _).grown hgrow1 (by simp; omega) (fun j hj => by cases hj; omega), by omega⟩
              case measure => simp [intOf]; omega
            · have hkm : k = m := by omega
              subst hkm
              clear hr hbel
              go_wp2
              go_roundw
              case rel => exact ⟨i + 1, by omega, by rw [Nat.pow_succ, ← HM.out]; congr 1; omega, by go_num, by
                  have h := HRK.out; rw [show k + k = 2 ^ (i + 1) by rw [Nat.pow_succ, ← HM.out]; omega] at h; exact h, HK0'.out, HBK.out, hgw2⟩
              case measure => simp [intOf]; omega
    · have hin : i = S.length := by omega
      subst hin
      clear hr hk0 hbel
      go_wp2
      go_ret
      have hn2 : 2 ^ S.length = n := HNN.out.symm
      refine ⟨g, by rw [← hn2]; rfl, by omega, hgw, RoomR.row (n := n) ?_, HB.out⟩
      have h := HR.out
      rw [hn2] at h
      exact h

end Go.Proofs.Ytcmedhkamjclmaa

namespace Go.Proofs.Ytcmedhkamjclmaa
open Go.RowKit Go.Maps
set_option linter.unusedVariables false

theorem sm_put {n k : Nat} (hk : k < n) (v : Int) {f : Nat → Int} (h0 : f k = 0) : sm n (fun j => if j = k then v else f j) = sm n f + v := by
  have e : sm n (fun j => if j = k then v else f j) = sm n (fun j => f j + if j = k then v else 0) := sm_congr fun j _ => by
    by_cases h : j = k
    · subst h; rw [if_pos rfl, if_pos rfl, h0, Int.zero_add]
    · rw [if_neg h, if_neg h, Int.add_zero]
  rw [e, sm_add, sm_single, if_pos hk]
/-- The number at c, when the terms that have come are added. -/
def gq (p : Int) (S x y : List Int) (left : Lit → Bool) (c : Nat) : Int := sm (bl S) (fl x left (tm p S x y c))
theorem tm_none {p : Int} {S x y : List Int} {c a : Nat} (h : x.getD a 0 = 0) : tm p S x y c a = 0 := by unfold tm; rw [h, Int.zero_mul, Int.zero_mul]
theorem tm_bd {p : Int} (h3 : 3 ≤ p) (h13 : p ≤ 13) {S x y : List Int} (nx : Nums p x) (ny : Nums p y) (lx : x.length = bl S) (ly : y.length = bl S) {c a : Nat} (hc : c < bl S) (ha : a < bl S) : 0 ≤ tm p S x y c a ∧ tm p S x y c a ≤ 1728 := by
  obtain ⟨x0, x1⟩ := nx a (by omega)
  obtain ⟨y0, y1⟩ := ny (a ^^^ c) (by rw [ly]; exact Nat.xor_lt_two_pow ha hc)
  obtain ⟨f0, f1⟩ := fm_bd (by omega : 0 < p) S a (a ^^^ c) S.length
  obtain ⟨m0, m1⟩ := mul_bd' h13 x0 x1 f0 f1
  unfold tm
  exact ⟨Int.mul_nonneg m0 y0, Int.le_trans (Int.mul_le_mul_of_nonneg_right m1 y0) (by omega)⟩
/-- .. and those of the first k numbers of the term j. -/
def gk (p : Int) (S x y : List Int) (left : Lit → Bool) (j k c : Nat) : Int := gq p S x y left c + if j ^^^ c < k then tm p S x y c j else 0
theorem ranges_wrote {w w' : World} {P : Program} {k : TypeId} {R : Value → Option (DataW Unit × List MemPlace)} {b r n : Nat} {D : DataW Unit} {left : Lit → Bool} {cnt c o m : Nat} (h : w.ranges P k R b r n D left cnt) (hw : Wrote c o m w w') (hb : b ≠ c) (hr : r ≠ c) : w'.ranges P k R b r n D left cnt := by
  obtain ⟨es, clock, since, seen, c0, k1, h2, h3, h4, k5, h6⟩ := h
  exact ⟨es, clock, since, seen, c0, (hw.block b hb).trans k1, h2, h3, h4, (hw.block r hr).trans k5, h6⟩

end Go.Proofs.Ytcmedhkamjclmaa

namespace Go.Proofs.Ytcmedhkamjclmaa
open Go.RowKit
set_option linter.unusedVariables false

/-- A block of numbers. -/
def Tag (b : Nat) (w : World) : Prop := ∃ cur, w.heap[b]? = some (.cells cur 2 (0, 0))
theorem Tag.stay {b : Nat} {w w' : World} (h : Tag b w) (e : w'.heap[b]? = w.heap[b]?) : Tag b w' := by
  obtain ⟨cur, h⟩ := h
  exact ⟨cur, e.trans h⟩
theorem Tag.start (w : World) (cs : Array Value) : Tag w.heap.size (w.alloc (.cells cs 2)) := ⟨cs, heap_alloc_new w _⟩
theorem Tag.set {b : Nat} {w : World} (h : Tag b w) (c i : Nat) (v : Value) : Tag b (w.setCell ⟨c, i, none⟩ v) := by
  obtain ⟨cur, h⟩ := h
  by_cases e : b = c
  · subst e
    exact ⟨cur.setIfInBounds i v, by simp [World.setCell, Array.getElem?_modify, h]⟩
  · exact ⟨cur, (Below.heap_setCell _ _ _ _ e).trans h⟩
end Go.Proofs.Ytcmedhkamjclmaa

namespace Go.Proofs.Ytcmedhkamjclmaa
open Go.RowKit
set_option linter.unusedVariables false

theorem sp_nums {p : Int} {S : List Int} (h : isSp p S = true) : Nums p S := Nums.of (isSp_iff.1 h).all
theorem NewRow.ownE {n : Nat} {f : Nat → Int} {w : World} {e : Ending} {w' : World} (h : NewRow n f w e w') : OwnE (mkR n f) w e w' := by
  obtain ⟨b, rfl, hl, hu, hr, hb⟩ := h
  exact ⟨_, n, by rw [mkR_len], hr.own hl hu, hb⟩
end Go.Proofs.Ytcmedhkamjclmaa

namespace Go.Proofs.Ytcmedhkamjclmaa
open Go.RowKit
set_option linter.unusedVariables false

/-- Whether the product of two blades is kept: 0 the wedge product, 1 the left contraction, else the right one. -/
def kp (κ a b : Nat) : Bool := if κ = 0 then a &&& b == 0 else if κ = 1 then a &&& b == a else a &&& b == b
def tk (p : Int) (S : List Int) (κ : Nat) (x y : List Int) (c a : Nat) : Int := if kp κ a (a ^^^ c) = true then tm p S x y c a else 0
/-- The number at c of the product of a kind. -/
def kF (p : Int) (S : List Int) (κ : Nat) (x y : List Int) (c : Nat) : Int := sm (bl S) (tk p S κ x y c) % p
def kM (p : Int) (S : List Int) (κ : Nat) (x y : List Int) : List Int := mkR (bl S) (kF p S κ x y)
theorem kM_len (p : Int) (S : List Int) (κ : Nat) (x y : List Int) : (kM p S κ x y).length = bl S := mkR_len _ _
theorem kM_at (p : Int) (S : List Int) (κ : Nat) (x y : List Int) {c : Nat} (hc : c < bl S) : (kM p S κ x y).getD c 0 = kF p S κ x y c := mkR_at _ hc
theorem kF_bd {p : Int} (hp : 0 < p) (S : List Int) (κ : Nat) (x y : List Int) (c : Nat) : 0 ≤ kF p S κ x y c ∧ kF p S κ x y c < p := ⟨Int.emod_nonneg _ (by omega), Int.emod_lt_of_pos _ hp⟩
theorem tk_yes {p : Int} {S : List Int} {κ : Nat} {x y : List Int} {a b : Nat} (h : kp κ a b = true) : tk p S κ x y (a ^^^ b) a = tm p S x y (a ^^^ b) a := by unfold tk; rw [xor_back, if_pos h]
theorem tk_no {p : Int} {S : List Int} {κ : Nat} {x y : List Int} {a b : Nat} (h : kp κ a b = false) : tk p S κ x y (a ^^^ b) a = 0 := by unfold tk; rw [xor_back, if_neg (by simp [h])]

theorem and_64 {a b : Nat} (ha : a < 64) (hb : b < 64) : bits .and .i64 (a : Int) (b : Int) = ((a &&& b : Nat) : Int) := by
  have h : ∀ a : Nat, a < 64 → ∀ b : Nat, b < 64 → bits .and .i64 (a : Int) (b : Int) = ((a &&& b : Nat) : Int) := by decide +kernel
  exact h a ha b hb
theorem beq_nat (a b : Nat) : ((a : Int) == (b : Int)) = (a == b) := by
  by_cases h : a = b
  · subst h; simp
  · have h2 : ¬ (a : Int) = (b : Int) := by omega
    rw [beq_eq_false_iff_ne.2 h2, beq_eq_false_iff_ne.2 h]
theorem beq_nat0 (a : Nat) : ((a : Int) == 0) = (a == 0) := beq_nat a 0
end Go.Proofs.Ytcmedhkamjclmaa

namespace Go.Proofs.Ytcmedhkamjclmaa
open Go.RowKit Go.Maps
set_option linter.unusedVariables false

/-- The number at c, when the terms that have come are added. -/
def gqk (p : Int) (S : List Int) (κ : Nat) (x y : List Int) (left : Lit → Bool) (c : Nat) : Int := sm (bl S) (fl x left (tk p S κ x y c))
theorem tk_none {p : Int} {S : List Int} {κ : Nat} {x y : List Int} {c a : Nat} (h : x.getD a 0 = 0) : tk p S κ x y c a = 0 := by unfold tk; rw [tm_none h, ite_self]
theorem gqk_start {D : DataW Unit} {p : Int} {S : List Int} {κ : Nat} {x y : List Int} (h : Tm D x (bl S)) (c : Nat) : gqk p S κ x y (Maps.has D) c = 0 := by
  unfold gqk; rw [sm_congr (fun j hj => fl_start h (tk p S κ x y c) hj), sm_zero]
theorem gqk_end {p : Int} {S : List Int} {κ : Nat} {x y : List Int} {left : Lit → Bool} (h : ∀ kl, left kl = false) (c : Nat) : gqk p S κ x y left c = sm (bl S) (tk p S κ x y c) := by
  unfold gqk
  apply sm_congr
  intro j _
  rw [fl_end h]
  by_cases e : x.getD j 0 ≠ 0
  · rw [if_pos e]
  · rw [if_neg e, tk_none (by simpa using e)]
theorem gqk_step {p : Int} {S : List Int} {κ : Nat} {x y : List Int} {left : Lit → Bool} {k : Nat} (hk : k < bl S) (hne : x.getD k 0 ≠ 0) (ht : td left k = true) (c : Nat) : gqk p S κ x y (fun z => left z && !z.sameKey (.int .i64 (k : Int))) c = gqk p S κ x y left c + tk p S κ x y c k := by
  unfold gqk
  rw [← sm_put hk (tk p S κ x y c k) (f := fl x left (tk p S κ x y c)) (by unfold fl; rw [if_neg (fun e => by rw [ht] at e; cases e.2)])]
  exact sm_congr fun j _ => (fl_step hne j).symm
theorem tk_bd {p : Int} (h3 : 3 ≤ p) (h13 : p ≤ 13) {S : List Int} {κ : Nat} {x y : List Int} (nx : Nums p x) (ny : Nums p y) (lx : x.length = bl S) (ly : y.length = bl S) {c a : Nat} (hc : c < bl S) (ha : a < bl S) : 0 ≤ tk p S κ x y c a ∧ tk p S κ x y c a ≤ 1728 := by
  unfold tk
  split
  · exact tm_bd h3 h13 nx ny lx ly hc ha
  · omega
theorem gqk_bd {p : Int} (h3 : 3 ≤ p) (h13 : p ≤ 13) {S : List Int} {κ : Nat} {x y : List Int} (h6 : S.length ≤ 6) (nx : Nums p x) (ny : Nums p y) (lx : x.length = bl S) (ly : y.length = bl S) (left : Lit → Bool) {c : Nat} (hc : c < bl S) : 0 ≤ gqk p S κ x y left c ∧ gqk p S κ x y left c ≤ 110592 := by
  have h := sm_bd (n := bl S) (f := fl x left (tk p S κ x y c)) (b := 1728) (fun j hj => by
    unfold fl
    split
    · exact tk_bd h3 h13 nx ny lx ly hc hj
    · omega)
  have := bl_le h6
  unfold gqk; omega
/-- .. and those of the first k numbers of the term j. -/
def gkk (p : Int) (S : List Int) (κ : Nat) (x y : List Int) (left : Lit → Bool) (j k c : Nat) : Int := gqk p S κ x y left c + if j ^^^ c < k then tk p S κ x y c j else 0
theorem gkk_start (p : Int) (S : List Int) (κ : Nat) (x y : List Int) (left : Lit → Bool) (j c : Nat) : gkk p S κ x y left j 0 c = gqk p S κ x y left c := by unfold gkk; rw [if_neg (Nat.not_lt_zero _), Int.add_zero]
theorem gkk_end {p : Int} {S : List Int} {κ : Nat} {x y : List Int} {left : Lit → Bool} {j c : Nat} (hj : j < bl S) (hc : c < bl S) (hne : x.getD j 0 ≠ 0) (ht : td left j = true) : gkk p S κ x y left j (bl S) c = gqk p S κ x y (fun z => left z && !z.sameKey (.int .i64 (j : Int))) c := by
  rw [gqk_step hj hne ht]; unfold gkk; rw [if_pos (show j ^^^ c < bl S from Nat.xor_lt_two_pow hj hc)]
theorem gkk_here (p : Int) (S : List Int) (κ : Nat) (x y : List Int) (left : Lit → Bool) (j k : Nat) : gkk p S κ x y left j k (j ^^^ k) = gqk p S κ x y left (j ^^^ k) := by unfold gkk; rw [xor_back, if_neg (Nat.lt_irrefl _), Int.add_zero]
theorem gkk_put (p : Int) (S : List Int) (κ : Nat) (x y : List Int) (left : Lit → Bool) (j k : Nat) (hk : kp κ j k = true) {v : Int} (hv : v = gkk p S κ x y left j k (j ^^^ k) + x.getD j 0 * fm p S j k S.length * y.getD k 0) (c : Nat) : (if c = j ^^^ k then v else gkk p S κ x y left j k c) = gkk p S κ x y left j (k + 1) c := by
  by_cases e : c = j ^^^ k
  · rw [if_pos e, hv, e, gkk_here]
    unfold gkk
    rw [xor_back, if_pos (Nat.lt_succ_self k), tk_yes hk]
    unfold tm
    rw [xor_back]
  · rw [if_neg e]
    have e3 : ¬ j ^^^ c = k := fun h => e (by rw [← h, xor_back])
    unfold gkk
    by_cases e2 : j ^^^ c < k
    · rw [if_pos e2, if_pos (by omega)]
    · rw [if_neg e2, if_neg (by omega)]
theorem gkk_skip {p : Int} {S : List Int} {κ : Nat} {x y : List Int} {left : Lit → Bool} {j k : Nat} (hk : kp κ j k = false) (c : Nat) : gkk p S κ x y left j k c = gkk p S κ x y left j (k + 1) c := by
  unfold gkk
  by_cases e : j ^^^ c = k
  · have e2 : c = j ^^^ k := by rw [← e, xor_back]
    rw [if_neg (by omega), if_pos (by omega), e2, tk_no hk]
  · by_cases e2 : j ^^^ c < k
    · rw [if_pos e2, if_pos (by omega)]
    · rw [if_neg e2, if_neg (by omega)]

theorem productKinds_any (w : World) : Calls Try.prog 119 #[] w fun e w' => e = .returned (.agg #[.func (.func 137) #[] #[], .func (.func 138) #[] #[], .func (.func 139) #[] #[]]) ∧ Below w.heap.size w w' := by
  go_enter Try.func119, Try.ntmps119
  go_wp2
  refine bodyPost_ret (v := .agg #[.func (.func 137) #[] #[], .func (.func 138) #[] #[], .func (.func 139) #[] #[]]) (by simp [results, Try.results119, go_sem]) rfl ⟨rfl, ?_⟩
  ((repeat' (first | with_reducible exact Below.refl _ _ | (with_reducible refine Below.setCell ?_ ?_ _) | (with_reducible refine Below.alloc ?_ ?_ _) | (with_reducible refine Below.drew ?_))); all_goals (first | (simp; done) | omega | (simp; omega)))
theorem kept0 (a b : Nat) (w : World) (ha : a < 64) (hb : b < 64) : Calls Try.prog 137 #[.int .i64 a, .int .i64 b] w fun e w' => e = .returned (.bool (kp 0 a b)) ∧ w' = w := by
  have hand := and_64 ha hb
  have hB : (bits .and .i64 (a : Int) (b : Int) == 0) = kp 0 a b := by rw [hand]; exact beq_nat0 _
  clear hand
  go_enter Try.func137, Try.ntmps137
  go_wp2
  go_ret
  exact ⟨rfl, rfl⟩
theorem kind_index0 (w : World) : (Instr.index 106 (.agg #[.func (.func 137) #[] #[], .func (.func 138) #[] #[], .func (.func 139) #[] #[]]) (.int .i64 0)).run Try.prog w = .ok (.func (.func 137) #[] #[]) w := by kernel_rfl
theorem ss2 {B : Nat} {w w' : World} (h : Below B w w') {g : Nat} {u0 u1 : Value} (l : g < B) (h0 : w.cell? ⟨g, 0, none⟩ = some u0 ∧ w.cell? ⟨g, 1, none⟩ = some u1) : w'.cell? ⟨g, 0, none⟩ = some u0 ∧ w'.cell? ⟨g, 1, none⟩ = some u1 :=
  ⟨(h.cell (p := ⟨g, 0, none⟩) l).trans h0.1, (h.cell (p := ⟨g, 1, none⟩) l).trans h0.2⟩
theorem ss2a {w : World} {g : Nat} {u0 u1 : Value} (o : Obj) (l : g < w.heap.size) (h0 : w.cell? ⟨g, 0, none⟩ = some u0 ∧ w.cell? ⟨g, 1, none⟩ = some u1) : (w.alloc o).cell? ⟨g, 0, none⟩ = some u0 ∧ (w.alloc o).cell? ⟨g, 1, none⟩ = some u1 := ss2 (below_alloc w o) l h0
theorem belowA {B : Nat} {w w' : World} (h : Below B w w') (hB : B = w.heap.size) (o : Obj) : Below B w (w'.alloc o) := by subst hB; exact h.alloc h.size o

end Go.Proofs.Ytcmedhkamjclmaa

namespace Go.Proofs.Ytcmedhkamjclmaa
open Go.RowKit Go.Maps
set_option linter.unusedVariables false

set_option maxRecDepth 100000 in
set_option maxHeartbeats 3200000 in
theorem productOf_any0 (p : Int) (aS : Option Addr) (S : List Int) (cS loS tpS : Nat) (ax : Option Addr) (x : List Int) (cx lox tpx : Nat) (ay : Option Addr) (y : List Int) (cy loy tpy : Nat) (w : World) (hp : prm p = true) (h6 : S.length ≤ 6) (hS : RowIn loS tpS w aS S) (tS : tpS ≤ w.heap.size) (nS : Nums p S) (hx : RowIn lox tpx w ax x) (tx : tpx ≤ w.heap.size) (lx : x.length = bl S) (nx : Nums p x) (hy : RowIn loy tpy w ay y) (ty : tpy ≤ w.heap.size) (ly : y.length = bl S) (ny : Nums p y) :
    Calls Try.prog 87 #[.agg #[.int .i64 p, .slice aS S.length cS], .int .i64 0, .slice ax x.length cx, .slice ay y.length cy] w (NewRow (bl S) (kF p S 0 x y) w) := by
  have hpb := prm_bd hp
  have hbl := bl_le h6
  have HGB : Hid (∀ left c, c < bl S → 0 ≤ gqk p S 0 x y left c ∧ gqk p S 0 x y left c ≤ 110592) := fun left c hc => gqk_bd hpb.1 hpb.2 h6 nx ny lx ly left hc
  have HNB : Hid (∀ j, j < x.length → -100 ≤ x.getD j 0 ∧ x.getD j 0 ≤ 100) := fun j hj => by have := nx j hj; omega
  obtain ⟨n, hn⟩ : ∃ n, n = bl S := ⟨_, rfl⟩
  have hmk := fun W => run_make_row' (P := Try.prog) 22 2 (.int .i64 0) 8 Try.underlying22 info64 rfl .i64 .i64 n (by omega) (by omega) W
  have HS := Lib.hid hS
  have HX := Lib.hid hx
  have HY := Lib.hid hy
  have HNX := Lib.hid nx
  have HNY := Lib.hid ny
  have HNS := Lib.hid nS
  have HP := Lib.hid hp
  have HN := Lib.hid hn
  have HXN : Hid (x.length = n) := by show _ = _; rw [lx, hn]
  have HYN : Hid (y.length = n) := by show _ = _; rw [ly, hn]
  have HB0 := Lib.hid (below_alloc w (.cells #[.int .i64 p, .slice aS S.length cS] 28))
  have k0 := nw0 w (.int .i64 p) (.slice aS S.length cS) 28
  have k1 := nw1 w (.int .i64 p) (.slice aS S.length cS) 28
  have hnb : n ≤ 64 := by omega
  rw [lx, ly, ← hn]
  clear hS hx hy nx ny nS hp lx ly hn
  have hix := kind_index0
  go_enter Try.func87, Try.ntmps87
  go_upto_region 1 with fail
  obtain ⟨w1, hw1⟩ : ∃ z, z = w.alloc (.cells #[.int .i64 p, .slice aS S.length cS] 28) := ⟨_, rfl⟩
  rw [← hw1] at HB0 k0 k1 ⊢
  have hw0 : w.heap.size < w1.heap.size := by rw [hw1]; simp
  clear hw1
  have hs1 : Hid (w1.drew.cell? ⟨w.heap.size, 0, none⟩ = some (.int .i64 p) ∧ w1.drew.cell? ⟨w.heap.size, 1, none⟩ = some (.slice aS S.length cS)) := ⟨k0, k1⟩
  have HBD : Hid (Below w.heap.size w w1.drew) := HB0.out.drew
  have hd0 : w.heap.size < w1.drew.heap.size := hw0
  clear k0 k1
  go_cut [9, 10] (fun s9 s10 wx => s9 = .func (.func 137) #[] #[] ∧ ∃ g : Nat, s10 = .slice (some ⟨g, 0, none⟩) n n ∧ Hid (RowOwn wx g 0 n (fun _ => 0) ∧ w.heap.size < g ∧ g < wx.heap.size ∧ Below w.heap.size w wx ∧ wx.cell? ⟨w.heap.size, 0, none⟩ = some (.int .i64 p) ∧ wx.cell? ⟨w.heap.size, 1, none⟩ = some (.slice aS S.length cS)))
  case first =>
    go_region_held3 (fun w' => w'.cell? ⟨w.heap.size, 0, none⟩ = some (.int .i64 p) ∧ w'.cell? ⟨w.heap.size, 1, none⟩ = some (.slice aS S.length cS)) (first | exact hs1.out | exact SSk.out | exact SSb.out | exact ss2a _ hdb SSb.out | exact ss2a _ hdk SSk.out | go_keep) (first | (go_at_call 119; (with_reducible refine (productKinds_any w1.drew).mono ?_); rintro e wk ⟨rfl, bk⟩; have SSk := Lib.hid (ss2 bk hd0 hs1.out); have HBk := Lib.hid (below_step HBD.out (Nat.le_of_lt hd0) bk); have hdk := Nat.lt_of_lt_of_le hd0 bk.size; clear bk) | (go_at_call 92; (with_reducible refine (blades_any p aS S cS w1.drew h6).mono ?_); rintro e wb ⟨rfl, bb⟩; rw [← HN.out]; have SSb := Lib.hid (ss2 bb hd0 hs1.out); have HBb := Lib.hid (below_step HBD.out (Nat.le_of_lt hd0) bb); have hdb := Nat.lt_of_lt_of_le hd0 bb.size; clear bb) | (go_at_call 92; (with_reducible refine (blades_any p aS S cS wk h6).mono ?_); rintro e wb ⟨rfl, bb⟩; rw [← HN.out]; have SSb := Lib.hid (ss2 bb hdk SSk.out); have HBb := Lib.hid (below_step HBk.out (Nat.le_of_lt hdk) bb); have hdb := Nat.lt_of_lt_of_le hdk bb.size; clear bb) | (go_at_call 119; (with_reducible refine (productKinds_any wb).mono ?_); rintro e wk ⟨rfl, bk⟩; have SSk := Lib.hid (ss2 bk hdb SSb.out); have HBk := Lib.hid (below_step HBb.out (Nat.le_of_lt hdb) bk); have hdk := Nat.lt_of_lt_of_le hdb bk.size; clear bk) | (go_at_call 119; (with_reducible refine (productKinds_any (wb.alloc (.cells (madeCells #[.int .i64 0] n) 2))).mono ?_); rintro e wk ⟨rfl, bk⟩; have SSk := Lib.hid (ss2 bk (Nat.lt_trans hdb (lt_alloc wb (.cells (madeCells #[.int .i64 0] n) 2))) (ss2a (.cells (madeCells #[.int .i64 0] n) 2) hdb SSb.out)); have HBk := Lib.hid (below_step (belowA HBb.out rfl (.cells (madeCells #[.int .i64 0] n) 2)) (Nat.le_of_lt (Nat.lt_trans hdb (lt_alloc wb (.cells (madeCells #[.int .i64 0] n) 2)))) bk); have hdk := Nat.lt_of_lt_of_le (Nat.lt_trans hdb (lt_alloc wb (.cells (madeCells #[.int .i64 0] n) 2))) bk.size; have HRk := Lib.hid ((RowOwn.start wb n 2).stay (bk.block wb.heap.size (lt_alloc wb (.cells (madeCells #[.int .i64 0] n) 2)))); have hgk := Nat.lt_of_lt_of_le (lt_alloc wb (.cells (madeCells #[.int .i64 0] n) 2)) bk.size; clear bk))
    all_goals (go_wp2_with fail; go_meet; first | (exact ⟨rfl, _, rfl, Lib.hid ⟨RowOwn.start wb n _, hdb, lt_alloc wb (.cells (madeCells #[.int .i64 0] n) 2), belowA HBb.out rfl (.cells (madeCells #[.int .i64 0] n) 2), ss2a (.cells (madeCells #[.int .i64 0] n) 2) hdb SSb.out⟩⟩) | (exact ⟨rfl, _, rfl, Lib.hid ⟨RowOwn.start wk n _, hdk, lt_alloc wk (.cells (madeCells #[.int .i64 0] n) 2), belowA HBk.out rfl (.cells (madeCells #[.int .i64 0] n) 2), ss2a (.cells (madeCells #[.int .i64 0] n) 2) hdk SSk.out⟩⟩) | (exact ⟨rfl, _, rfl, Lib.hid ⟨HRk.out, hdb, hgk, HBk.out, SSk.out⟩⟩))
  case rest =>
    obtain ⟨rfl, g, rfl, HC⟩ := hcut
    rename World => w3
    have HR3 : Hid (RowOwn w3 g 0 n (fun _ => 0)) := HC.out.1
    have hwg : w.heap.size < g := HC.out.2.1
    have hgl : g < w3.heap.size := HC.out.2.2.1
    have HB3 : Hid (Below w.heap.size w w3) := HC.out.2.2.2.1
    have K0 : Hid (w3.cell? ⟨w.heap.size, 0, none⟩ = some (.int .i64 p)) := HC.out.2.2.2.2.1
    have K1 : Hid (w3.cell? ⟨w.heap.size, 1, none⟩ = some (.slice aS S.length cS)) := HC.out.2.2.2.2.2
    have hz3 := HB3.out.size
    clear hmk hix
    have HX3 := Lib.hid (HX.out.below HB3.out tx)
    have tx3 : tpx ≤ w3.heap.size := by omega
    have sx : x.length ≤ 64 := by rw [HXN.out]; exact hnb
    rw [show (Value.slice ax n cx) = Value.slice ax x.length cx by rw [HXN.out]]
    go_wp2_with (first | (go_at_call 93; (with_reducible refine (termsOf_any ax x cx lox tpx w3 HX3.out tx3 sx HNB.out).mono ?_); rintro e w5 ⟨bT, D, rfl, lT, uT, oT, tT, b5⟩; have HOT := Lib.hid oT; have HTM := Lib.hid tT; have HB5 := Lib.hid b5; have z5 := b5.size; clear oT tT b5) | (at_range; refine wpList_range_own _ rfl _ 84 rfl 3 2 lawK Try.underlying84 (plainElem (H := Unit) Try.prog 2) bT x.length D rfl HOT.out ?_; intro w6 hrg0 hg0 hs0))
    go_frame
    have HB6 : Hid (Below w3.heap.size w3 w6) := HB5.out.grown hg0 z5 (fun j hj => by cases hj)
    have HTN : Hid (Tm D x (bl S)) := by have h := HTM.out; rwa [HXN.out, HN.out] at h
    have HR6 : Hid (RowOwn w6 g 0 n (gqk p S 0 x y (Maps.has D))) := (HR3.out.stay (HB6.out.block g hgl)).congr (fun j hj => (gqk_start HTN.out j).symm)
    have HBW : Hid (Below w.heap.size w w6) := HB3.out.trans (HB6.out.mono (by omega))
    have K06 : Hid (w6.cell? ⟨w.heap.size, 0, none⟩ = some (.int .i64 p)) := (HB6.out.cell (p := ⟨w.heap.size, 0, none⟩) (show w.heap.size < w3.heap.size by omega)).trans K0.out
    have K16 : Hid (w6.cell? ⟨w.heap.size, 1, none⟩ = some (.slice aS S.length cS)) := (HB6.out.cell (p := ⟨w.heap.size, 1, none⟩) (show w.heap.size < w3.heap.size by omega)).trans K1.out
    go_loopw [25] (fun _ wr => ∃ (left : Lit → Bool) (cnt : Nat), wr.ranges Try.prog 3 (plainElem (H := Unit) Try.prog 2) bT w5.heap.size x.length D left cnt ∧ Sub left D ∧ RowOwn wr g 0 n (gqk p S 0 x y left) ∧ wr.cell? ⟨w.heap.size, 0, none⟩ = some (.int .i64 p) ∧ wr.cell? ⟨w.heap.size, 1, none⟩ = some (.slice aS S.length cS) ∧ Below w.heap.size w wr ∧ w6.heap.size ≤ wr.heap.size) (fun _ wr => wr.rangeLeft bT w5.heap.size)
    case atStart => exact ⟨_, _, hrg0, sub_refl D, HR6.out, K06.out, K16.out, HBW.out, Nat.le_refl _⟩
    case round =>
      obtain ⟨left, cnt, hrg, hsub, hro, hk0, hk1, hnx, hsz⟩ := hrel
      have HRO := Lib.hid hro
      have HNXB := Lib.hid hnx
      have HSUB := Lib.hid hsub
      have HKR0 := Lib.hid hk0
      have HKR1 := Lib.hid hk1
      have hw6 := hs0
      clear hro hnx hsub hk0 hk1
      go_wp2_with (first | (at_next; refine wpList_next_ranges_ii _ rfl _ rfl 3 2 .i64 .i64 lawK Try.underlying3 Try.underlying2 bT w5.heap.size x.length D left cnt rfl hrg ?_ ?_) | go_in)
      · intro hc0 hl0
        have HE : Hid (RowOwn wr g 0 n (fun c => if c < 0 then kF p S 0 x y c else sm (bl S) (tk p S 0 x y c))) := HRO.out.congr (fun j hj => by rw [gqk_end hl0, if_neg (Nat.not_lt_zero _)])
        have HSB : Hid (∀ c, c < n → 0 ≤ sm (bl S) (tk p S 0 x y c) ∧ sm (bl S) (tk p S 0 x y c) ≤ 110592) := fun c hc => by
          have h := HGB.out left c (by rw [← HN.out]; exact hc)
          rwa [gqk_end hl0] at h
        obtain ⟨we, hwe⟩ : ∃ z, z = wr := ⟨_, rfl⟩
        have HKE : Hid (we.cell? ⟨w.heap.size, 0, none⟩ = some (.int .i64 p)) := by show _ = _; rw [hwe]; exact HKR0.out
        have HEE : Hid (RowOwn we g 0 n (fun c => if c < 0 then kF p S 0 x y c else sm (bl S) (tk p S 0 x y c))) := by show RowOwn _ _ _ _ _; rw [hwe]; exact HE.out
        have HBE : Hid (Below w.heap.size w we) := by show Below _ _ _; rw [hwe]; exact HNXB.out
        have hge : g < we.heap.size := by rw [hwe]; have := HB6.out.size; omega
        rw [← hwe]
        clear hwe
        go_wp2
        go_loopw [62] (fun t wi => ∃ i : Nat, i ≤ n ∧ t = .int .i64 i ∧ RowOwn wi g 0 n (fun c => if c < i then kF p S 0 x y c else sm (bl S) (tk p S 0 x y c)) ∧ Wrote g 0 n we wi) (fun t _ => n - (intOf t).toNat)
        case atStart => exact ⟨0, Nat.zero_le _, rfl, HEE.out, Wrote.refl _ _ _ _⟩
        case round =>
          obtain ⟨i, hi, rfl, hr, hw⟩ := hrel
          rename World => wi
          have HRI := Lib.hid hr
          have HWI := Lib.hid hw
          by_cases hlti : i < n
          · have c0 := hr.cell i hlti
            have f0 := hr.free i hlti
            rw [if_neg (Nat.lt_irrefl _)] at c0
            rw [Nat.zero_add] at c0 f0
            have kp := (World.cell?_of_block (w := we) (a := ⟨w.heap.size, 0, none⟩) (hw.block w.heap.size (by omega))).trans HKE.out
            obtain ⟨z0, z1⟩ := HSB.out i hlti
            obtain ⟨z, hz⟩ : ∃ z, z = sm (bl S) (tk p S 0 x y i) := ⟨_, rfl⟩
            have HPF : Hid (z % p = kF p S 0 x y i) := by show _ = _; rw [hz]; exact rfl
            rw [← hz] at c0 z0 z1
            have e1 : z.tmod p = z % p := Int.tmod_eq_emod_of_nonneg z0
            have hp0 : ¬ p = 0 := by omega
            have hp1 : (p == 0) = false := by simpa using hp0
            have hi1 : (i : Int) < (n : Int) := by omega
            clear hr hw hz
            go_wp2
            go_region
            all_goals
              go_wp2
              go_roundw
              case rel => exact ⟨i + 1, by omega, by go_num, (row_put0 HRI.out hlti (fun c _ => by
                by_cases e : c = i
                · subst e; rw [if_pos rfl, if_pos (by omega), HPF.out]
                · rw [if_neg e]
                  by_cases e2 : c < i
                  · rw [if_pos e2, if_pos (by omega)]
                  · rw [if_neg e2, if_neg (by omega)])).drew, (wrote_put0 HWI.out hlti _).drew⟩
              case measure => simp [intOf]; omega
          · have hin : i = n := by omega
            subst hin
            clear hr hw
            go_wp2
            go_ret
            exact ⟨g, rfl, by omega, by rw [HWI.out.size]; exact hge, HRI.out.congr (fun c hc => if_pos hc), HBE.out.trans (HWI.out.belowB (by omega))⟩
      · intro kx c w7 cnt1 hwx hwc hlx' hat hrg1 hlt hg1 hs1 hen
        obtain ⟨j, hj, rfl, hcx, hne0, htd⟩ := HTM.out.come HSUB.out hlx' hat
        have hgw : g < wr.heap.size := by have := HB6.out.size; omega
        have HR1 : Hid (RowOwn w7 g 0 n (gqk p S 0 x y left)) := HRO.out.stay (hg1.block _ (by omega) (by simp; omega))
        have HB7 : Hid (Below w.heap.size w w7) := HNXB.out.grown hg1 (by omega) (fun i hi => by cases hi; omega)
        have hz7 := hg1.size
        have k70 : w7.cell? ⟨w.heap.size, 0, none⟩ = some (.int .i64 p) := (World.cell?_of_block (w := wr) (a := ⟨w.heap.size, 0, none⟩) (hg1.block w.heap.size (by omega) (by simp; omega))).trans HKR0.out
        have k71 : w7.cell? ⟨w.heap.size, 1, none⟩ = some (.slice aS S.length cS) := (World.cell?_of_block (w := wr) (a := ⟨w.heap.size, 1, none⟩) (hg1.block w.heap.size (by omega) (by simp; omega))).trans HKR1.out
        have HCX := Lib.hid hcx
        have HNE := Lib.hid hne0
        have HRG1 := Lib.hid hrg1
        have HTD := Lib.hid htd
        have HLT := Lib.hid hlt
        have hjn : j < n := by rw [← HXN.out]; exact hj
        have hcb : 0 ≤ c ∧ c < p := by rw [hcx]; exact HNX.out j hj
        have hj64 : j < 64 := by omega
        have HS7 := Lib.hid (HS.out.below HB7.out tS)
        have tS7 : tpS ≤ w7.heap.size := by omega
        have K70 := Lib.hid k70
        have K71 := Lib.hid k71
        clear hcx hne0 htd hlt
        go_wp2_with (first | (go_at_call 94; (with_reducible refine (factorsBehind_any p aS S cS loS tpS j w7 HP.out h6 HS7.out tS7 HNS.out hj64).mono ?_); rintro e w8 ⟨b8, rfl, l8, u8, o8, q8⟩; rw [← HN.out] at o8; rw [← HN.out]; have O8 := Lib.hid o8; have B8 := Lib.hid q8; have z8 := q8.size; clear o8 q8) | go_in)
        have HR8 : Hid (RowOwn w8 g 0 n (gkk p S 0 x y left j 0)) := (HR1.out.stay (B8.out.block g (by omega))).congr (fun c _ => (gkk_start p S 0 x y left j c).symm)
        have HB8 : Hid (Below w.heap.size w w8) := HB7.out.trans (B8.out.mono (by omega))
        have K80 : Hid (w8.cell? ⟨w.heap.size, 0, none⟩ = some (.int .i64 p)) := (B8.out.cell (p := ⟨w.heap.size, 0, none⟩) (show w.heap.size < w7.heap.size by omega)).trans K70.out
        have K81 : Hid (w8.cell? ⟨w.heap.size, 1, none⟩ = some (.slice aS S.length cS)) := (B8.out.cell (p := ⟨w.heap.size, 1, none⟩) (show w.heap.size < w7.heap.size by omega)).trans K71.out
        have HY8 := Lib.hid (HY.out.below HB8.out ty)
        have hgb8 : g ≠ b8 := by omega
        clear k70 k71
        go_loopw [34] (fun t wi => ∃ k : Nat, k ≤ n ∧ t = .int .i64 k ∧ RowOwn wi g 0 n (gkk p S 0 x y left j k) ∧ Wrote g 0 n w8 wi) (fun t _ => n - (intOf t).toNat)
        case atStart => exact ⟨0, Nat.zero_le _, rfl, HR8.out, Wrote.refl _ _ _ _⟩
        case round =>
          obtain ⟨k, hk, rfl, hr, hw⟩ := hrel
          rename World => wi
          have HRI := Lib.hid hr
          have HWI := Lib.hid hw
          by_cases hltk : k < n
          · obtain ⟨by', oy, hay, _, uy, hcy⟩ := (HY8.out.same (hw.same (show g < loy ∨ tpy ≤ g by omega))).num (show k < y.length by rw [HYN.out]; exact hltk)
            subst hay
            obtain ⟨y0, y1⟩ := HNY.out k (by rw [HYN.out]; exact hltk)
            have cf8 := O8.out.cell k hltk
            rw [Nat.zero_add] at cf8
            have cf := (World.cell?_of_block (w := w8) (a := ⟨b8, k, none⟩) (hw.block b8 (Ne.symm hgb8))).trans cf8
            obtain ⟨f0, f1⟩ := fm_bd (show 0 < p by omega) S j k S.length
            obtain ⟨q, hq⟩ : ∃ q, q = j ^^^ k := ⟨_, rfl⟩
            have hqn : q < n := by rw [hq, HN.out]; exact Nat.xor_lt_two_pow (by rw [← show bl S = 2 ^ S.length from rfl, ← HN.out]; exact hjn) (by rw [← show bl S = 2 ^ S.length from rfl, ← HN.out]; exact hltk)
            have hqn1 : (q : Int) < (n : Int) := by omega
            have e0 : bits .xor .i64 (j : Int) (k : Int) = (q : Int) := by rw [xor_64 hj64 (by omega), hq]
            have c0 := hr.cell q hqn
            have f9 := hr.free q hqn
            rw [Nat.zero_add] at c0 f9
            have hob : 0 ≤ gkk p S 0 x y left j k q ∧ gkk p S 0 x y left j k q ≤ 110592 := by
              rw [hq, gkk_here]
              exact HGB.out left (j ^^^ k) (by rw [← hq, ← HN.out]; exact hqn)
            have hk1 : (k : Int) < (n : Int) := by omega
            have hk64 : k < 64 := by omega
            by_cases hkp : kp 0 j k = true
            · have HKP := Lib.hid hkp
              have HKB : Hid (kp 0 j k = true) := HKP
              clear hkp
              obtain ⟨f, hf⟩ : ∃ f, f = fm p S j k S.length := ⟨_, rfl⟩
              obtain ⟨yk, hyk⟩ : ∃ z, z = y.getD k 0 := ⟨_, rfl⟩
              obtain ⟨o, ho⟩ : ∃ o, o = gkk p S 0 x y left j k q := ⟨_, rfl⟩
              have HV : Hid (∀ d, (if d = q then o + c * f * yk else gkk p S 0 x y left j k d) = gkk p S 0 x y left j (k + 1) d) := fun d => by
                have h := gkk_put p S 0 x y left j k HKP.out (v := o + c * f * yk) (by rw [ho, hf, hq, hyk, HCX.out]) d
                rw [← hq] at h; exact h
              rw [← hf] at cf f0 f1
              rw [← hyk] at hcy y0 y1
              rw [← ho] at hob c0
              obtain ⟨m0, m1⟩ := mul_bd' hpb.2 hcb.1 hcb.2 f0 f1
              have e1 : IntKind.i64.wrap (c * f) = c * f := IntWalk.i64_in _ (by omega)
              have n0 : 0 ≤ c * f * yk := Int.mul_nonneg m0 y0
              have n1 : c * f * yk ≤ 1728 := Int.le_trans (Int.mul_le_mul_of_nonneg_right m1 y0) (by omega)
              have e2 : IntKind.i64.wrap (c * f * yk) = c * f * yk := IntWalk.i64_in _ (by omega)
              have e3 : IntKind.i64.wrap (o + c * f * yk) = o + c * f * yk := IntWalk.i64_in _ (by omega)
              clear hr hw hf hyk ho hq cf8
              go_wp2_with (go_at_call 137; (with_reducible refine (kept0 j k _ hj64 hk64).mono ?_); rintro e w9 ⟨rfl, rfl⟩; rw [HKB.out])
              go_region
              all_goals
                clear e0 e1 e2 e3
                go_wp2
                go_roundw
                case rel => exact ⟨k + 1, by omega, by go_num, (row_put0 HRI.out hqn (fun d _ => HV.out d)).drew, (wrote_put0 HWI.out hqn _).drew⟩
                case measure => simp [intOf]; omega
            · have HKB : Hid (kp 0 j k = false) := by show _ = _; simpa using hkp
              clear hkp hr hw cf8 hq c0 f9 hob
              go_wp2_with (go_at_call 137; (with_reducible refine (kept0 j k _ hj64 hk64).mono ?_); rintro e w9 ⟨rfl, rfl⟩; rw [HKB.out])
              go_roundw
              case rel => exact ⟨k + 1, by omega, by go_num, HRI.out.congr (fun d _ => gkk_skip HKB.out d), HWI.out⟩
              case measure => simp [intOf]; omega
          · have hkn : k = n := by omega
            subst hkn
            have hwz := hw.size
            have HRGW := Lib.hid (ranges_wrote (ranges_below HRG1.out B8.out (by omega) (by omega)) hw (by omega) (by omega))
            have kw0 := (World.cell?_of_block (w := w8) (a := ⟨w.heap.size, 0, none⟩) (hw.block w.heap.size (by omega))).trans K80.out
            have kw1 := (World.cell?_of_block (w := w8) (a := ⟨w.heap.size, 1, none⟩) (hw.block w.heap.size (by omega))).trans K81.out
            have KW0 := Lib.hid kw0
            have KW1 := Lib.hid kw1
            clear hr hw kw0 kw1
            go_wp2
            go_roundw
            case rel => exact ⟨_, cnt1, HRGW.out, sub_strike HSUB.out _, HRI.out.congr (fun d hd => by rw [HN.out] at hd ⊢; exact gkk_end (by rw [← HN.out]; exact hjn) hd HNE.out HTD.out), KW0.out, KW1.out, HB8.out.trans (HWI.out.belowB (by omega)), by omega⟩
            case measure => rw [HRGW.out.left_eq, hrg.left_eq]; exact HLT.out

end Go.Proofs.Ytcmedhkamjclmaa

namespace Go.Proofs.Ytcmedhkamjclmaa
open Go.RowKit
set_option linter.unusedVariables false

def wgM (p : Int) (S x y : List Int) : List Int := kM p S 0 x y
theorem wgM_len (p : Int) (S x y : List Int) : (wgM p S x y).length = bl S := kM_len _ _ _ _ _
theorem productOf_own0 (pS : Int) (aS : Option Addr) (S : List Int) (cS loS tpS : Nat) (ax : Option Addr) (x : List Int) (cx lox tpx : Nat) (ay : Option Addr) (y : List Int) (cy loy tpy : Nat) (w : World) (hs : isSp pS S = true) (hS : RowIn loS tpS w aS S) (tS : tpS ≤ w.heap.size) (hx : RowIn lox tpx w ax x) (tx : tpx ≤ w.heap.size) (mx : isMv pS S x = true) (hy : RowIn loy tpy w ay y) (ty : tpy ≤ w.heap.size) (my : isMv pS S y = true) :
    Calls Try.prog 87 #[.agg #[.int .i64 pS, .slice aS S.length cS], .int .i64 0, .slice ax x.length cx, .slice ay y.length cy] w (OwnE (wgM pS S x y) w) :=
  (productOf_any0 pS aS S cS loS tpS ax x cx lox tpx ay y cy loy tpy w (isSp_iff.1 hs).prime (isSp_iff.1 hs).hi hS tS (sp_nums hs) hx tx (Mv.len mx) (Mv.nums mx) hy ty (Mv.len my) (Mv.nums my)).mono fun _ _ h => h.ownE

theorem kind_mv {p : Int} {S : List Int} (hs : isSp p S = true) (κ : Nat) (x y : List Int) : isMv p S (kM p S κ x y) = true := by
  have hp := prm_bd (isSp_iff.1 hs).prime
  unfold isMv isVec
  rw [kM_len, Bool.and_eq_true]
  refine ⟨by simp, ?_⟩
  rw [List.all_eq_true]
  intro z hz
  obtain ⟨j, hj, rfl⟩ := List.getElem_of_mem hz
  have hj' : j < bl S := by rw [kM_len] at hj; exact hj
  have h := kF_bd (p := p) (by omega) S κ x y j
  rw [← kM_at p S κ x y hj', getD_at hj] at h
  exact inr_iff.2 h

set_option maxRecDepth 100000 in
set_option maxHeartbeats 1600000 in
theorem wedge_own (pS : Int) (aS : Option Addr) (S : List Int) (cS loS tpS : Nat) (ax : Option Addr) (x : List Int) (cx lox tpx : Nat) (ay : Option Addr) (y : List Int) (cy loy tpy : Nat) (w : World) (hs : isSp pS S = true) (hS : RowIn loS tpS w aS S) (tS : tpS ≤ w.heap.size) (hx : RowIn lox tpx w ax x) (tx : tpx ≤ w.heap.size) (mx : isMv pS S x = true) (hy : RowIn loy tpy w ay y) (ty : tpy ≤ w.heap.size) (my : isMv pS S y = true) :
    Calls Try.prog 55 #[.agg #[.int .i64 pS, .slice aS S.length cS], .slice ax x.length cx, .slice ay y.length cy] w (OwnE (wgM pS S x y) w) := by
  have HI := Lib.hid hs
  have HS := Lib.hid hS
  have Hx := Lib.hid hx
  have HMx := Lib.hid mx
  have Hy := Lib.hid hy
  have HMy := Lib.hid my
  clear hs hS hx mx hy my
  go_enter Try.func55, Try.ntmps55
  go_wp2_with (first | (go_at_call 87; (with_reducible refine (productOf_own0 pS aS S cS loS tpS ax x cx lox tpx ay y cy loy tpy _ HI.out (HS.out.below ((Below.refl _ _).alloc (Nat.le_refl _) (.cells #[.int .i64 pS, .slice aS S.length cS] 28)) tS) (Nat.le_trans tS (((Below.refl _ _).alloc (Nat.le_refl _) (.cells #[.int .i64 pS, .slice aS S.length cS] 28))).size) (Hx.out.below ((Below.refl _ _).alloc (Nat.le_refl _) (.cells #[.int .i64 pS, .slice aS S.length cS] 28)) tx) (Nat.le_trans tx (((Below.refl _ _).alloc (Nat.le_refl _) (.cells #[.int .i64 pS, .slice aS S.length cS] 28))).size) HMx.out (Hy.out.below ((Below.refl _ _).alloc (Nat.le_refl _) (.cells #[.int .i64 pS, .slice aS S.length cS] 28)) ty) (Nat.le_trans ty (((Below.refl _ _).alloc (Nat.le_refl _) (.cells #[.int .i64 pS, .slice aS S.length cS] 28))).size) HMy.out).mono ?_); rintro e w2 ⟨r2, c2, rfl, o2, b2⟩; have B2 := Lib.hid b2; have K2_0_0 := (b2.cell (p := ⟨w.heap.size, 0, none⟩) (Nat.lt_of_lt_of_le (show w.heap.size < (w.alloc (.cells #[.int .i64 pS, .slice aS S.length cS] 28)).heap.size by simp) (Nat.le_refl _))).trans (show (w.alloc (.cells #[.int .i64 pS, .slice aS S.length cS] 28)).cell? ⟨w.heap.size, 0, none⟩ = some (.int .i64 pS) by simp [go_sem]); have K2_0_1 := (b2.cell (p := ⟨w.heap.size, 1, none⟩) (Nat.lt_of_lt_of_le (show w.heap.size < (w.alloc (.cells #[.int .i64 pS, .slice aS S.length cS] 28)).heap.size by simp) (Nat.le_refl _))).trans (show (w.alloc (.cells #[.int .i64 pS, .slice aS S.length cS] 28)).cell? ⟨w.heap.size, 1, none⟩ = some (.slice aS S.length cS) by simp [go_sem]); have O2 := Lib.hid o2; clear o2; clear b2))
  go_ret
  exact ⟨_, _, rfl, OwnR.mono' O2.out (show w.heap.size ≤ (w.alloc (.cells #[.int .i64 pS, .slice aS S.length cS] 28)).heap.size from (((Below.refl _ _).alloc (Nat.le_refl _) (.cells #[.int .i64 pS, .slice aS S.length cS] 28))).size) (Nat.le_refl _), (below_step ((Below.refl _ _).alloc (Nat.le_refl _) (.cells #[.int .i64 pS, .slice aS S.length cS] 28)) (show w.heap.size ≤ (w.alloc (.cells #[.int .i64 pS, .slice aS S.length cS] 28)).heap.size from (((Below.refl _ _).alloc (Nat.le_refl _) (.cells #[.int .i64 pS, .slice aS S.length cS] 28))).size) B2.out)⟩

end Go.Proofs.Ytcmedhkamjclmaa

namespace Go.Proofs.Ytcmedhkamjclmaa
open Go.RowKit
set_option linter.unusedVariables false

def mOne (S : List Int) : List Int := mkR (bl S) oneF
theorem isMv_of {p : Int} {S z : List Int} (hl : z.length = bl S) (hn : ∀ j, j < z.length → 0 ≤ z.getD j 0 ∧ z.getD j 0 < p) : isMv p S z = true := by
  unfold isMv isVec
  rw [hl, Bool.and_eq_true]
  refine ⟨by simp, ?_⟩
  rw [List.all_eq_true]
  intro y hy
  obtain ⟨j, hj, rfl⟩ := List.getElem_of_mem hy
  have h := hn j hj
  rw [getD_at hj] at h
  exact inr_iff.2 h
theorem blade0_any (p : Int) (a : Option Addr) (S : List Int) (c : Nat) (w : World) (h : S.length ≤ 6) :
    Calls Try.prog 103 #[.agg #[.int .i64 p, .slice a S.length c], .int .i64 0] w (OwnE (mOne S) w) :=
  (blade_any p a S c 0 w h (bl_pos S)).mono fun _ _ h => h.ownE

end Go.Proofs.Ytcmedhkamjclmaa
