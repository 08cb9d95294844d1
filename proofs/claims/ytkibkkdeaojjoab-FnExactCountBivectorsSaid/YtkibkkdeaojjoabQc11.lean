/-
  Grades of blades and terms of multivectors, in the program; grades in the model.
  Conditions: masks of at most six bits; the multivector is a row of known cells.
  GradePart: contracts of the program and of the model.
  Conditions: the lists are nil or rows of known cells, of at most 1048576 numbers.
  The model's factors of blades: contract.
  Conditions: masks of at most six bits; the squares are a row of known cells with numbers of the prime.
-/
import Derived.Test.YtkibkkdeaojjoabQc10
import Derived.Maps.Own
import Derived.Maps.OwnSet
import Derived.Test.YtkibkkdeaojjoabQc7
import Derived.Deep.RegionHeld3
import Derived.Test.YtkibkkdeaojjoabQc6
namespace Go.Proofs.Ytkibkkdeaojjoab
open Go.RowKit Go.Maps
set_option linter.unusedVariables false

set_option maxHeartbeats 800000 in
theorem ones64 (m : Nat) (hm : m < 64) (w : World) : Calls Try.prog 149 #[.int .u64 m] w fun e w' => e = .returned (.int .i64 (gr m)) ∧ w = w' := by
  go_enter Try.func149, Try.ntmps149
  go_wp2
  go_ret
  refine ⟨congrArg (fun z => Ending.returned (.int .i64 z)) ?_, rfl⟩
  clear w
  revert hm
  revert m
  decide +kernel

set_option maxHeartbeats 800000 in
theorem ones_any (m : Nat) (hm : m < 64) (w : World) : Calls Try.prog 143 #[.int .u64 m] w fun e w' => e = .returned (.int .i64 (gr m)) ∧ w = w' := by
  go_enter Try.func143, Try.ntmps143
  go_wp2_with (go_at_call 149; refine (ones64 m hm _).mono ?_; rintro e w1 ⟨rfl, rfl⟩)
  go_ret
  exact ⟨rfl, rfl⟩
set_option maxHeartbeats 800000 in
theorem gradeOf_any (m : Nat) (hm : m < 64) (w : World) : Calls Try.prog 134 #[.int .i64 m] w fun e w' => e = .returned (.int .i64 (gr m)) ∧ w = w' := by
  go_enter Try.func134, Try.ntmps134
  go_wp2_with (go_at_call 143; refine (ones_any m hm _).mono ?_; rintro e w1 ⟨rfl, rfl⟩)
  go_ret
  exact ⟨rfl, rfl⟩
set_option maxHeartbeats 800000 in
theorem l04Grade_any (m : Nat) (hm : m < 64) (w : World) : Calls Try.prog 125 #[.int .i64 m] w fun e w' => e = .returned (.int .i64 (gr m)) ∧ w = w' := by
  go_enter Try.func125, Try.ntmps125
  go_wp2
  go_loop [0, 3] (fun u v => ∃ k n : Nat, k < 64 ∧ u = .int .i64 k ∧ v = .int .i64 n ∧ n + gr k = gr m) (fun u _ => (intOf u).toNat)
  case atStart => exact ⟨m, 0, hm, rfl, rfl, Nat.zero_add _⟩
  case round =>
    obtain ⟨k, n, hk, rfl, rfl, he⟩ := hrel
    by_cases h0 : 0 < k
    · have HE : Hid (n + k % 2 + gr (k / 2) = gr m) := by show _ = _; rw [← he, gr_step hk]; omega
      have hn : n ≤ 6 := by have := gr_le m; omega
      have h1 : (0 : Int) < (k : Int) := by omega
      clear he
      go_wp2
      go_round
      case rel => exact ⟨k / 2, n + k % 2, by omega, by go_num, by go_num, HE.out⟩
      case measure => simp [intOf]; omega
    · have e : k = 0 := by omega
      subst e
      have HE : Hid (n = gr m) := by show _ = _; rw [← he, gr_zero]; rfl
      clear he
      go_wp2
      go_ret
      exact ⟨by rw [← HE.out]; rfl, rfl⟩

theorem lawK : Keyed Try.prog 3 := int_keyed Try.underlying3
/-- The terms of x are handed back as a map of the call's own. -/
def TermsE (x : List Int) (w : World) (e : Ending) (w' : World) : Prop :=
  ∃ b D, e = .returned (.map (some b)) ∧ w.heap.size ≤ b ∧ b < w'.heap.size ∧ w'.ownsMap Try.prog 3 (plainElem (H := Unit) Try.prog 2) b x.length D ∧ Tm D x x.length ∧ Below w.heap.size w w'

set_option maxRecDepth 100000 in
set_option maxHeartbeats 1600000 in
theorem termsOf_any (a : Option Addr) (x : List Int) (c lo tp : Nat) (w : World) (hx : RowIn lo tp w a x) (tx : tp ≤ w.heap.size) (sx : x.length ≤ 64) (nx : ∀ j, j < x.length → -100 ≤ x.getD j 0 ∧ x.getD j 0 ≤ 100) :
    Calls Try.prog 110 #[.slice a x.length c] w (TermsE x w) := by
  have hmm := @run_makeMap Try.prog
  have HX := Lib.hid hx
  have HN := Lib.hid nx
  clear hx nx
  go_enter Try.func110, Try.ntmps110
  go_wp2
  clear hmm
  go_loopw [9] (fun t wr => ∃ (i : Nat) (D : DataW Unit), i ≤ x.length ∧ t = .int .i64 i ∧ wr.ownsMap Try.prog 3 (plainElem (H := Unit) Try.prog 2) w.heap.size i D ∧ Tm D x i ∧ Below w.heap.size w wr ∧ w.heap.size < wr.heap.size) (fun t _ => x.length - (intOf t).toNat)
  case atStart => exact ⟨0, .map [], Nat.zero_le _, rfl, World.ownsMap_made _ _ _ _, Tm.start x, below_alloc w _, by simp⟩
  case round =>
    obtain ⟨i, D, hi, rfl, hown, hT, hbel, hwlt⟩ := hrel
    have HO := Lib.hid hown
    have HT := Lib.hid hT
    have HB := Lib.hid hbel
    by_cases hlt : i < x.length
    · obtain ⟨b1, o1, ha1, l1, t1, hc1⟩ := (HX.out.below hbel tx).num hlt
      subst ha1
      obtain ⟨x0, x1⟩ := HN.out i hlt
      have hi1 : (i : Int) < (x.length : Int) := by omega
      obtain ⟨y, hy⟩ : ∃ y, y = x.getD i 0 := ⟨_, rfl⟩
      have HY := Lib.hid hy
      rw [← hy] at hc1 x0 x1
      clear hown hT hbel hy
      by_cases h0 : y = 0
      · subst h0
        go_wp2
        go_roundw
        case rel => exact ⟨i + 1, D, by omega, by go_num, HO.out.mono (Nat.le_succ _), HT.out.skip HY.out.symm, HB.out, hwlt⟩
        case measure => simp [intOf]; omega
      · have e0 : (y != 0) = true := by simpa using h0
        have hwf : (Lit.int .i64 y).wf = true := WalkArith.wf_i64 (by omega)
        have hwk : (Lit.int .i64 (i : Int)).wf = true := WalkArith.wf_i64 (by omega)
        have HY0 : Hid (x.getD i 0 ≠ 0) := by show _ ≠ _; rw [← HY.out]; exact h0
        go_wp2_with (first | (at_mapUpdate; refine wpList_mapUpdate_own _ rfl _ _ _ 109 rfl 3 2 lawK Try.underlying109 (plainElem (H := Unit) Try.prog 2) w.heap.size i D rfl HO.out (by unfold maxLen; omega) _ _ _ rfl rfl (keyOf_int_mk Try.underlying3 hwk) _ [] (plainElem_int Try.underlying2 hwf) ?_; intro w1 hown1 hgrow1))
        go_roundw
        case rel => exact ⟨i + 1, _, by omega, by go_num, hown1, by have h := HT.out.put HO.out.isMap HY0.out; rw [← HY.out] at h; exact h, HB.out.grown hgrow1 HB.out.size (fun j hj => by cases hj; exact Nat.le_refl _), by have := hgrow1.size; omega⟩
        case measure => simp [intOf]; omega
    · have hn : i = x.length := by omega
      subst hn
      clear hown hT hbel
      go_wp2
      go_ret
      exact ⟨w.heap.size, D, rfl, Nat.le_refl _, hwlt, HO.out, HT.out, HB.out⟩

end Go.Proofs.Ytkibkkdeaojjoab

namespace Go.Proofs.Ytkibkkdeaojjoab
open Go.RowKit
set_option linter.unusedVariables false

theorem xor_64 {a b : Nat} (ha : a < 64) (hb : b < 64) : bits .xor .i64 (a : Int) (b : Int) = ((a ^^^ b : Nat) : Int) := by
  have h : ∀ a : Nat, a < 64 → ∀ b : Nat, b < 64 → bits .xor .i64 (a : Int) (b : Int) = ((a ^^^ b : Nat) : Int) := by decide +kernel
  exact h a ha b hb
theorem xor_lt {a b : Nat} (ha : a < 64) (hb : b < 64) : a ^^^ b < 64 := Nat.xor_lt_two_pow (n := 6) ha hb
theorem and_one {a : Nat} (ha : a < 64) : bits .and .i64 (a : Int) 1 = ((a % 2 : Nat) : Int) := by
  have h : ∀ a : Nat, a < 64 → bits .and .i64 (a : Int) 1 = ((a % 2 : Nat) : Int) := by decide +kernel
  exact h a ha
theorem two_cases {a : Nat} (h : ¬ a % 2 = 1) : a % 2 = 0 := by omega

theorem shr_nat (a i : Nat) : (a : Int) / 2 ^ i = ((a / 2 ^ i : Nat) : Int) := by simp
theorem shr_lt {a : Nat} (ha : a < 64) (i : Nat) : a / 2 ^ i < 64 := Nat.lt_of_le_of_lt (Nat.div_le_self _ _) ha
theorem and_shr {a : Nat} (ha : a < 64) (i : Nat) : bits .and .i64 ((a : Int) / 2 ^ i) 1 = ((a / 2 ^ i % 2 : Nat) : Int) := by rw [shr_nat, and_one (shr_lt ha i)]
theorem l04Grade_shr (a i : Nat) (ha : a < 64) (w : World) : Calls Try.prog 125 #[.int .i64 ((a : Int) / 2 ^ i)] w fun e w' => e = .returned (.int .i64 (gr (a / 2 ^ i))) ∧ w = w' := by
  rw [shr_nat]; exact l04Grade_any _ (shr_lt ha i) w
theorem bit_up {aa a i : Nat} (haa : aa < 64) (hi : i < 6) (h : aa / 2 ^ i = a / 2 ^ i) : aa ^^^ 2 ^ i < 64 ∧ (aa ^^^ 2 ^ i) / 2 ^ (i + 1) = a / 2 ^ (i + 1) := by
  have h2 : 2 ^ i < 64 := Nat.pow_lt_pow_right (by decide) hi
  refine ⟨xor_lt haa h2, ?_⟩
  rw [Nat.xor_div_two_pow, Nat.div_eq_of_lt (Nat.pow_lt_pow_right (by decide) (Nat.lt_succ_self i)), Nat.xor_zero, Nat.pow_succ, ← Nat.div_div_eq_div_mul, ← Nat.div_div_eq_div_mul, h]
theorem bit_keep {aa a i : Nat} (h : aa / 2 ^ i = a / 2 ^ i) : aa / 2 ^ (i + 1) = a / 2 ^ (i + 1) := by
  rw [Nat.pow_succ, ← Nat.div_div_eq_div_mul, ← Nat.div_div_eq_div_mul, h]

set_option maxRecDepth 100000 in
set_option maxHeartbeats 1600000 in
theorem l04Blades_any (p : Int) (aS : Option Addr) (S : List Int) (cS loS tpS : Nat) (a b : Nat) (w : World) (hp : prm p = true) (h6 : S.length ≤ 6) (hS : RowIn loS tpS w aS S) (tS : tpS ≤ w.heap.size) (hn : Nums p S) (ha : a < 64) (hb : b < 64) :
    Calls Try.prog 90 #[.agg #[.int .i64 p, .slice aS S.length cS], .int .i64 a, .int .i64 b] w fun e w' => e = .returned (.int .i64 (fm p S a b S.length)) ∧ Below w.heap.size w w' := by
  have hpb := prm_bd hp
  have HS := Lib.hid hS
  have HN := Lib.hid hn
  clear hS hn
  go_enter Try.func90, Try.ntmps90
  go_wp2
  have hk0 : (w.alloc (.cells #[.int .i64 p, .slice aS S.length cS] 30)).cell? ⟨w.heap.size, 0, none⟩ = some (.int .i64 p) := nw0 w _ _ _
  have hk1 : (w.alloc (.cells #[.int .i64 p, .slice aS S.length cS] 30)).cell? ⟨w.heap.size, 1, none⟩ = some (.slice aS S.length cS) := nw1 w _ _ _
  have HBW := Lib.hid (below_alloc w (.cells #[.int .i64 p, .slice aS S.length cS] 30))
  obtain ⟨W, hW⟩ : ∃ W, W = w.alloc (.cells #[.int .i64 p, .slice aS S.length cS] 30) := ⟨_, rfl⟩
  rw [← hW] at hk0 hk1 HBW ⊢
  have HS1 := Lib.hid (HS.out.below HBW.out tS)
  clear hW
  go_loopw [1, 7, 8] (fun u v t wr => ∃ i aa : Nat, i ≤ S.length ∧ aa < 64 ∧ aa / 2 ^ i = a / 2 ^ i ∧ u = .int .i64 aa ∧ v = .int .i64 (fm p S a b i) ∧ t = .int .i64 i ∧ Quiet W wr) (fun _ _ t _ => S.length - (intOf t).toNat)
  case atStart => exact ⟨0, a, Nat.zero_le _, ha, rfl, rfl, by rw [fm_zero (by omega)], rfl, Quiet.refl _⟩
  case round =>
    obtain ⟨i, aa, hi, haa, hae, rfl, rfl, rfl, hq⟩ := hrel
    have HQ := Lib.hid hq
    have hk0' := (hq.cell ⟨w.heap.size, 0, none⟩).trans hk0
    have hk1' := (hq.cell ⟨w.heap.size, 1, none⟩).trans hk1
    have hs1' := HS1.out.same (hq.same loS tpS)
    clear hq
    by_cases hlt : i < S.length
    · have hi6 : i < 6 := by omega
      have hi1 : (i : Int) < (S.length : Int) := by omega
      obtain ⟨o, ho⟩ : ∃ o, o = fm p S a b i := ⟨_, rfl⟩
      have hob := fm_bd (by omega : 0 < p) S a b i
      rw [← ho] at hob ⊢
      have HAE := Lib.hid hae
      have HO := Lib.hid ho
      clear ho
      by_cases hbi : b / 2 ^ i % 2 = 1
      · have HFM : Hid (fo p S a i o = fm p S a b (i + 1)) := by show _ = _; rw [HO.out]; exact fm_model p S hbi
        have e1 : (bits BinOp.and IntKind.i64 ((b : Int) / 2 ^ i) 1 == 0) = false := by rw [and_shr hb, hbi]; rfl
        obtain ⟨b2, o2, ha2, l2, t2, hc2⟩ := hs1'.num hlt
        subst ha2
        obtain ⟨s0, s1⟩ := HN.out i hlt
        have HX := Lib.hid (bit_up haa hi6 hae)
        obtain ⟨q, hq⟩ : ∃ q, q = 2 ^ i := ⟨_, rfl⟩
        have hq2 : q < 64 := by rw [hq]; exact Nat.pow_lt_pow_right (by decide) hi6
        have e2 : wrap64 ((2 : Int) ^ i) = (q : Int) := by rw [hq]; exact wrap_pow hi6
        have e3 := xor_64 haa hq2
        have hp0 : ¬ p = 0 := by omega
        have hp1 : (p == 0) = false := by simpa using hp0
        rw [← hq] at HX
        clear hq
        obtain ⟨x, hx⟩ : ∃ x, x = S.getD i 0 := ⟨_, rfl⟩
        have HXX := Lib.hid hx
        rw [← hx] at hc2 s0 s1
        clear hx hs1'
        by_cases hg : gr (a / 2 ^ (i + 1)) % 2 = 1
        · have e4 : (((gr (aa / 2 ^ (i + 1)) : Nat) : Int) % 2 == 1) = true := by rw [bit_keep HAE.out]; simp; omega
          by_cases hai : a / 2 ^ i % 2 = 1
          · have e5 : (bits BinOp.and IntKind.i64 ((aa : Int) / 2 ^ i) 1 == 1) = true := by rw [and_shr haa, HAE.out]; rw [hai]; rfl
            have HF : Hid (((p - o) % p) * x % p = fm p S a b (i + 1)) := by show _ = _; rw [← HFM.out]; unfold fo; rw [if_pos hai, if_pos hg, ← HXX.out]
            have e6 : (p - o).tmod p = (p - o) % p := Int.tmod_eq_emod_of_nonneg (by omega)
            have e7 : IntKind.i64.wrap (p - o) = p - o := IntWalk.i64_in _ (by omega)
            obtain ⟨d, hd⟩ : ∃ d, d = (p - o) % p := ⟨_, rfl⟩
            have d0 := Int.emod_nonneg (p - o) (by omega : p ≠ 0)
            have d1 := Int.emod_lt_of_pos (p - o) (by omega : 0 < p)
            rw [← hd] at e6 d0 d1 HF
            clear hd
            obtain ⟨m0, m1⟩ := mul_bd' hpb.2 d0 d1 s0 s1
            have e8 : IntKind.i64.wrap (d * x) = d * x := IntWalk.i64_in _ (by omega)
            have e9 : (d * x).tmod p = (d * x) % p := Int.tmod_eq_emod_of_nonneg (by omega)
            clear hae hbi hg hai
            go_wp2_with (go_at_call 125; refine (l04Grade_shr aa (i + 1) haa _).mono ?_; rintro e w3 ⟨rfl, rfl⟩)
            go_quiet (fail)
            clear e8 e9
            go_wp2
            go_roundw
            case rel => exact ⟨i + 1, _, by omega, HX.out.1, HX.out.2, by go_num, by rw [HF.out], by go_num, HQ.out.next _⟩
            case measure => simp [intOf]; omega
          · have e5 : (bits BinOp.and IntKind.i64 ((aa : Int) / 2 ^ i) 1 == 1) = false := by rw [and_shr haa, HAE.out]; rw [two_cases hai]; rfl
            have HF : Hid (((p - o) % p) = fm p S a b (i + 1)) := by show _ = _; rw [← HFM.out]; unfold fo; rw [if_neg hai, if_pos hg]
            have e6 : (p - o).tmod p = (p - o) % p := Int.tmod_eq_emod_of_nonneg (by omega)
            have e7 : IntKind.i64.wrap (p - o) = p - o := IntWalk.i64_in _ (by omega)
            obtain ⟨d, hd⟩ : ∃ d, d = (p - o) % p := ⟨_, rfl⟩
            have d0 := Int.emod_nonneg (p - o) (by omega : p ≠ 0)
            have d1 := Int.emod_lt_of_pos (p - o) (by omega : 0 < p)
            rw [← hd] at e6 d0 d1 HF
            clear hd
            clear hae hbi hg hai
            go_wp2_with (go_at_call 125; refine (l04Grade_shr aa (i + 1) haa _).mono ?_; rintro e w3 ⟨rfl, rfl⟩)
            go_roundw
            case rel => exact ⟨i + 1, _, by omega, HX.out.1, HX.out.2, by go_num, by rw [HF.out], by go_num, HQ.out⟩
            case measure => simp [intOf]; omega
        · have e4 : (((gr (aa / 2 ^ (i + 1)) : Nat) : Int) % 2 == 1) = false := by rw [bit_keep HAE.out]; simp; omega
          by_cases hai : a / 2 ^ i % 2 = 1
          · have e5 : (bits BinOp.and IntKind.i64 ((aa : Int) / 2 ^ i) 1 == 1) = true := by rw [and_shr haa, HAE.out]; rw [hai]; rfl
            have HF : Hid (o * x % p = fm p S a b (i + 1)) := by show _ = _; rw [← HFM.out]; unfold fo; rw [if_pos hai, if_neg hg, ← HXX.out]
            obtain ⟨m0, m1⟩ := mul_bd' hpb.2 hob.1 hob.2 s0 s1
            have e8 : IntKind.i64.wrap (o * x) = o * x := IntWalk.i64_in _ (by omega)
            have e9 : (o * x).tmod p = (o * x) % p := Int.tmod_eq_emod_of_nonneg (by omega)
            clear hae hbi hg hai
            go_wp2_with (go_at_call 125; refine (l04Grade_shr aa (i + 1) haa _).mono ?_; rintro e w3 ⟨rfl, rfl⟩)
            go_quiet (fail)
            clear e8 e9
            go_wp2
            go_roundw
            case rel => exact ⟨i + 1, _, by omega, HX.out.1, HX.out.2, by go_num, by rw [HF.out], by go_num, HQ.out.next _⟩
            case measure => simp [intOf]; omega
          · have e5 : (bits BinOp.and IntKind.i64 ((aa : Int) / 2 ^ i) 1 == 1) = false := by rw [and_shr haa, HAE.out]; rw [two_cases hai]; rfl
            have HF : Hid (o = fm p S a b (i + 1)) := by show _ = _; rw [← HFM.out]; unfold fo; rw [if_neg hai, if_neg hg]
            clear hae hbi hg hai
            go_wp2_with (go_at_call 125; refine (l04Grade_shr aa (i + 1) haa _).mono ?_; rintro e w3 ⟨rfl, rfl⟩)
            go_roundw
            case rel => exact ⟨i + 1, _, by omega, HX.out.1, HX.out.2, by go_num, by rw [HF.out], by go_num, HQ.out⟩
            case measure => simp [intOf]; omega
      · have HFM : Hid (fm p S a b (i + 1) = o) := by show _ = _; rw [HO.out]; exact fm_skip p S (two_cases hbi)
        have e1 : (bits BinOp.and IntKind.i64 ((b : Int) / 2 ^ i) 1 == 0) = true := by rw [and_shr hb, two_cases hbi]; rfl
        clear hae hbi hs1'
        go_wp2
        go_roundw
        case rel => exact ⟨i + 1, aa, by omega, haa, bit_keep HAE.out, rfl, by rw [HFM.out], by go_num, HQ.out⟩
        case measure => simp [intOf]; omega
    · clear hs1'
      go_wp2
      go_ret
      have hn : i = S.length := by omega
      subst hn
      exact ⟨rfl, HBW.out.trans (HQ.out.below _)⟩

end Go.Proofs.Ytkibkkdeaojjoab
