/-
  The model's factors of blades: contract.
  Conditions: masks of at most six bits; the squares are a row of known cells with numbers of the prime.
-/
import Derived.Test.YtkibkkdeaojjoaaQb7
import Derived.Test.YtkibkkdeaojjoaaQb12
namespace Go.Proofs.Ytkibkkdeaojjoaa
open Go.RowKit
set_option linter.unusedVariables false

theorem xor_64 {a b : Nat} (ha : a < 64) (hb : b < 64) : bits .xor .i64 (a : Int) (b : Int) = ((a ^^^ b : Nat) : Int) := by
  have h : ∀ a : Nat, a < 64 → ∀ b : Nat, b < 64 → bits .xor .i64 (a : Int) (b : Int) = ((a ^^^ b : Nat) : Int) := by decide +kernel
  exact h a ha b hb
theorem xor_lt {a b : Nat} (ha : a < 64) (hb : b < 64) : a ^^^ b < 64 := Nat.xor_lt_two_pow (n := 6) ha hb
theorem and_one {a : Nat} (ha : a < 64) : bits .and .i64 (a : Int) 1 = ((a % 2 : Nat) : Int) := by
  have h : ∀ a : Nat, a < 64 → bits .and .i64 (a : Int) 1 = ((a % 2 : Nat) : Int) := by decide +kernel
  exact h a ha
theorem two_cases {a : Nat} (h : ¬ a % 2 = 1) : a % 2 = 0 := by omega

theorem shr_nat (a i : Nat) : (a : Int) / 2 ^ i = ((a / 2 ^ i : Nat) : Int) := by simp
theorem shr_lt {a : Nat} (ha : a < 64) (i : Nat) : a / 2 ^ i < 64 := Nat.lt_of_le_of_lt (Nat.div_le_self _ _) ha
theorem and_shr {a : Nat} (ha : a < 64) (i : Nat) : bits .and .i64 ((a : Int) / 2 ^ i) 1 = ((a / 2 ^ i % 2 : Nat) : Int) := by rw [shr_nat, and_one (shr_lt ha i)]
theorem l04Grade_shr (a i : Nat) (ha : a < 64) (w : World) : Calls Try.prog 68 #[.int .i64 ((a : Int) / 2 ^ i)] w fun e w' => e = .returned (.int .i64 (gr (a / 2 ^ i))) ∧ w = w' := by
  rw [shr_nat]; exact l04Grade_any _ (shr_lt ha i) w
theorem bit_up {aa a i : Nat} (haa : aa < 64) (hi : i < 6) (h : aa / 2 ^ i = a / 2 ^ i) : aa ^^^ 2 ^ i < 64 ∧ (aa ^^^ 2 ^ i) / 2 ^ (i + 1) = a / 2 ^ (i + 1) := by
  have h2 : 2 ^ i < 64 := Nat.pow_lt_pow_right (by decide) hi
  refine ⟨xor_lt haa h2, ?_⟩
  rw [Nat.xor_div_two_pow, Nat.div_eq_of_lt (Nat.pow_lt_pow_right (by decide) (Nat.lt_succ_self i)), Nat.xor_zero, Nat.pow_succ, ← Nat.div_div_eq_div_mul, ← Nat.div_div_eq_div_mul, h]
theorem bit_keep {aa a i : Nat} (h : aa / 2 ^ i = a / 2 ^ i) : aa / 2 ^ (i + 1) = a / 2 ^ (i + 1) := by
  rw [Nat.pow_succ, ← Nat.div_div_eq_div_mul, ← Nat.div_div_eq_div_mul, h]

set_option maxRecDepth 100000 in
set_option maxHeartbeats 1600000 in
theorem l04Blades_any (p : Int) (aS : Option Addr) (S : List Int) (cS loS tpS : Nat) (a b : Nat) (w : World) (hp : prm p = true) (h6 : S.length ≤ 6) (hS : RowIn loS tpS w aS S) (tS : tpS ≤ w.heap.size) (hn : Nums p S) (ha : a < 64) (hb : b < 64) :
    Calls Try.prog 119 #[.agg #[.int .i64 p, .slice aS S.length cS], .int .i64 a, .int .i64 b] w fun e w' => e = .returned (.int .i64 (fm p S a b S.length)) ∧ Below w.heap.size w w' := by
  have hpb := prm_bd hp
  have HS := Lib.hid hS
  have HN := Lib.hid hn
  clear hS hn
  go_enter Try.func119, Try.ntmps119
  go_wp2
  have hk0 : (w.alloc (.cells #[.int .i64 p, .slice aS S.length cS] 28)).cell? ⟨w.heap.size, 0, none⟩ = some (.int .i64 p) := nw0 w _ _ _
  have hk1 : (w.alloc (.cells #[.int .i64 p, .slice aS S.length cS] 28)).cell? ⟨w.heap.size, 1, none⟩ = some (.slice aS S.length cS) := nw1 w _ _ _
  have HBW := Lib.hid (below_alloc w (.cells #[.int .i64 p, .slice aS S.length cS] 28))
  obtain ⟨W, hW⟩ : ∃ W, W = w.alloc (.cells #[.int .i64 p, .slice aS S.length cS] 28) := ⟨_, rfl⟩
  rw [← hW] at hk0 hk1 HBW ⊢
  have HS1 := Lib.hid (HS.out.below HBW.out tS)
  clear hW
  go_loopw [1, 7, 8] (fun u v t wr => ∃ i aa : Nat, i ≤ S.length ∧ aa < 64 ∧ aa / 2 ^ i = a / 2 ^ i ∧ u = .int .i64 aa ∧ v = .int .i64 (fm p S a b i) ∧ t = .int .i64 i ∧ Quiet W wr) (fun _ _ t _ => S.length - (intOf t).toNat)
  case atStart => exact ⟨0, a, Nat.zero_le _, ha, rfl, rfl, by rw [fm_zero (by omega)], rfl, Quiet.refl _⟩
  case round =>
    obtain ⟨i, aa, hi, haa, hae, rfl, rfl, rfl, hq⟩ := hrel
    have HQ := Lib.hid hq
    have hk0' := (hq.cell ⟨w.heap.size, 0, none⟩).trans hk0
    have hk1' := (hq.cell ⟨w.heap.size, 1, none⟩).trans hk1
    have hs1' := HS1.out.same (hq.same loS tpS)
    clear hq
    by_cases hlt : i < S.length
    · have hi6 : i < 6 := by omega
      have hi1 : (i : Int) < (S.length : Int) := by omega
      obtain ⟨o, ho⟩ : ∃ o, o = fm p S a b i := ⟨_, rfl⟩
      have hob := fm_bd (by omega : 0 < p) S a b i
      rw [← ho] at hob ⊢
      have HAE := Lib.hid hae
      have HO := Lib.hid ho
      clear ho
      by_cases hbi : b / 2 ^ i % 2 = 1
      · have HFM : Hid (fo p S a i o = fm p S a b (i + 1)) := by show _ = _; rw [HO.out]; exact fm_model p S hbi
        have e1 : (bits BinOp.and IntKind.i64 ((b : Int) / 2 ^ i) 1 == 0) = false := by rw [and_shr hb, hbi]; rfl
        obtain ⟨b2, o2, ha2, l2, t2, hc2⟩ := hs1'.num hlt
        subst ha2
        obtain ⟨s0, s1⟩ := HN.out i hlt
        have HX := Lib.hid (bit_up haa hi6 hae)
        obtain ⟨q, hq⟩ : ∃ q, q = 2 ^ i := ⟨_, rfl⟩
        have hq2 : q < 64 := by rw [hq]; exact Nat.pow_lt_pow_right (by decide) hi6
        have e2 : wrap64 ((2 : Int) ^ i) = (q : Int) := by rw [hq]; exact wrap_pow hi6
        have e3 := xor_64 haa hq2
        have hp0 : ¬ p = 0 := by omega
        have hp1 : (p == 0) = false := by simpa using hp0
        rw [← hq] at HX
        clear hq
        obtain ⟨x, hx⟩ : ∃ x, x = S.getD i 0 := ⟨_, rfl⟩
        have HXX := Lib.hid hx
        rw [← hx] at hc2 s0 s1
        clear hx hs1'
        by_cases hg : gr (a / 2 ^ (i + 1)) % 2 = 1
        · have e4 : (((gr (aa / 2 ^ (i + 1)) : Nat) : Int) % 2 == 1) = true := by rw [bit_keep HAE.out]; simp; omega
          by_cases hai : a / 2 ^ i % 2 = 1
          · have e5 : (bits BinOp.and IntKind.i64 ((aa : Int) / 2 ^ i) 1 == 1) = true := by rw [and_shr haa, HAE.out]; rw [hai]; rfl
            have HF : Hid (((p - o) % p) * x % p = fm p S a b (i + 1)) := by show _ = _; rw [← HFM.out]; unfold fo; rw [if_pos hai, if_pos hg, ← HXX.out]
            have e6 : (p - o).tmod p = (p - o) % p := Int.tmod_eq_emod_of_nonneg (by omega)
            have e7 : IntKind.i64.wrap (p - o) = p - o := IntWalk.i64_in _ (by omega)
            obtain ⟨d, hd⟩ : ∃ d, d = (p - o) % p := ⟨_, rfl⟩
            have d0 := Int.emod_nonneg (p - o) (by omega : p ≠ 0)
            have d1 := Int.emod_lt_of_pos (p - o) (by omega : 0 < p)
            rw [← hd] at e6 d0 d1 HF
            clear hd
            obtain ⟨m0, m1⟩ := mul_bd' hpb.2 d0 d1 s0 s1
            have e8 : IntKind.i64.wrap (d * x) = d * x := IntWalk.i64_in _ (by omega)
            have e9 : (d * x).tmod p = (d * x) % p := Int.tmod_eq_emod_of_nonneg (by omega)
            clear hae hbi hg hai
            go_wp2_with (go_at_call 68; refine (l04Grade_shr aa (i + 1) haa _).mono ?_; rintro e w3 ⟨rfl, rfl⟩)
            go_quiet (fail)
            clear e8 e9
            go_wp2
            go_roundw
            case rel => exact ⟨i + 1, _, by omega, HX.out.1, HX.out.2, by go_num, by rw [HF.out], by go_num, HQ.out.next _⟩
            case measure => simp [intOf]; omega
          · have e5 : (bits BinOp.and IntKind.i64 ((aa : Int) / 2 ^ i) 1 == 1) = false := by rw [and_shr haa, HAE.out]; rw [two_cases hai]; rfl
            have HF : Hid (((p - o) % p) = fm p S a b (i + 1)) := by show _ = _; rw [← HFM.out]; unfold fo; rw [if_neg hai, if_pos hg]
            have e6 : (p - o).tmod p = (p - o) % p := Int.tmod_eq_emod_of_nonneg (by omega)
            have e7 : IntKind.i64.wrap (p - o) = p - o := IntWalk.i64_in _ (by omega)
            obtain ⟨d, hd⟩ : ∃ d, d = (p - o) % p := ⟨_, rfl⟩
            have d0 := Int.emod_nonneg (p - o) (by omega : p ≠ 0)
            have d1 := Int.emod_lt_of_pos (p - o) (by omega : 0 < p)
            rw [← hd] at e6 d0 d1 HF
            clear hd
            clear hae hbi hg hai
            go_wp2_with (go_at_call 68; refine (l04Grade_shr aa (i + 1) haa _).mono ?_; rintro e w3 ⟨rfl, rfl⟩)
            go_roundw
            case rel => exact ⟨i + 1, _, by omega, HX.out.1, HX.out.2, by go_num, by rw [HF.out], by go_num, HQ.out⟩
            case measure => simp [intOf]; omega
        · have e4 : (((gr (aa / 2 ^ (i + 1)) : Nat) : Int) % 2 == 1) = false := by rw [bit_keep HAE.out]; simp; omega
          by_cases hai : a / 2 ^ i % 2 = 1
          · have e5 : (bits BinOp.and IntKind.i64 ((aa : Int) / 2 ^ i) 1 == 1) = true := by rw [and_shr haa, HAE.out]; rw [hai]; rfl
            have HF : Hid (o * x % p = fm p S a b (i + 1)) := by show _ = _; rw [← HFM.out]; unfold fo; rw [if_pos hai, if_neg hg, ← HXX.out]
            obtain ⟨m0, m1⟩ := mul_bd' hpb.2 hob.1 hob.2 s0 s1
            have e8 : IntKind.i64.wrap (o * x) = o * x := IntWalk.i64_in _ (by omega)
            have e9 : (o * x).tmod p = (o * x) % p := Int.tmod_eq_emod_of_nonneg (by omega)
            clear hae hbi hg hai
            go_wp2_with (go_at_call 68; refine (l04Grade_shr aa (i + 1) haa _).mono ?_; rintro e w3 ⟨rfl, rfl⟩)
            go_quiet (fail)
            clear e8 e9
            go_wp2
            go_roundw
            case rel => exact ⟨i + 1, _, by omega, HX.out.1, HX.out.2, by go_num, by rw [HF.out], by go_num, HQ.out.next _⟩
            case measure => simp [intOf]; omega
          · have e5 : (bits BinOp.and IntKind.i64 ((aa : Int) / 2 ^ i) 1 == 1) = false := by rw [and_shr haa, HAE.out]; rw [two_cases hai]; rfl
            have HF : Hid (o = fm p S a b (i + 1)) := by show _ = _; rw [← HFM.out]; unfold fo; rw [if_neg hai, if_neg hg]
            clear hae hbi hg hai
            go_wp2_with (go_at_call 68; refine (l04Grade_shr aa (i + 1) haa _).mono ?_; rintro e w3 ⟨rfl, rfl⟩)
            go_roundw
            case rel => exact ⟨i + 1, _, by omega, HX.out.1, HX.out.2, by go_num, by rw [HF.out], by go_num, HQ.out⟩
            case measure => simp [intOf]; omega
      · have HFM : Hid (fm p S a b (i + 1) = o) := by show _ = _; rw [HO.out]; exact fm_skip p S (two_cases hbi)
        have e1 : (bits BinOp.and IntKind.i64 ((b : Int) / 2 ^ i) 1 == 0) = true := by rw [and_shr hb, two_cases hbi]; rfl
        clear hae hbi hs1'
        go_wp2
        go_roundw
        case rel => exact ⟨i + 1, aa, by omega, haa, bit_keep HAE.out, rfl, by rw [HFM.out], by go_num, HQ.out⟩
        case measure => simp [intOf]; omega
    · clear hs1'
      go_wp2
      go_ret
      have hn : i = S.length := by omega
      subst hn
      exact ⟨rfl, HBW.out.trans (HQ.out.below _)⟩

end Go.Proofs.Ytkibkkdeaojjoaa
