/-
  GradePart: contracts of the program and of the model.
  Conditions: the lists are nil or rows of known cells, of at most 1048576 numbers.
  The model's factors of blades: contract.
  Conditions: masks of at most six bits; the squares are a row of known cells with numbers of the prime.
  The model's geometric product: contract.
  Conditions: a space and multivectors of it: rows of known cells with numbers of the prime.
  Products of a kind: wedge product, left and right contraction: sums. No Go in sight.
  No conditions.
  Products of a kind, over the integers: how they go together. No Go in sight.
  No conditions.
-/
import Derived.Test.YtbnegbpapjcmhaaQa69
import Derived.Deep.RegionHeld3
import Derived.Test.YtbnegbpapjcmhaaQa65
import Derived.Deep.DeepCutAuto
namespace Go.Proofs.Ytbnegbpapjcmhaa
open Go.RowKit
set_option linter.unusedVariables false

def pg (x : List Int) (k : Int) (j : Nat) : Int := if ((gr j : Nat) : Int) = k then x.getD j 0 else 0
set_option maxRecDepth 100000 in
set_option maxHeartbeats 1600000 in
theorem l04Part_any (a : Option Addr) (x : List Int) (c lo tp : Nat) (k : Int) (w : World) (hx : RowIn lo tp w a x) (tx : tp ≤ w.heap.size) (sx : x.length ≤ 64) :
    Calls Try.prog 53 #[.slice a x.length c, .int .i64 k] w (NewRow x.length (pg x k) w) := by
  have hmk := fun W => run_make_row' (P := Try.prog) 22 2 (.int .i64 0) 8 Try.underlying22 info64 rfl .i64 .i64 x.length (by omega) (by omega) W
  have HX := Lib.hid hx
  clear hx
  go_enter Try.func53, Try.ntmps53
  go_wp2
  obtain ⟨W1, hW1⟩ : ∃ W1, W1 = w.alloc (.cells (madeCells #[.int .i64 0] x.length) 2) := ⟨_, rfl⟩
  have HO1 : Hid (RowOwn W1 w.heap.size 0 x.length (fun _ => 0)) := by show RowOwn _ _ _ _ _; rw [hW1]; exact RowOwn.start w x.length _
  have HB1 : Hid (Below w.heap.size w W1) := by show Below _ _ _; rw [hW1]; exact below_alloc w _
  have hu1 : w.heap.size < W1.heap.size := by rw [hW1]; simp
  rw [← hW1]
  clear hmk hW1
  go_loopw [6] (fun t wr => ∃ i : Nat, i ≤ x.length ∧ t = .int .i64 i ∧ RowOwn wr w.heap.size 0 x.length (fun j => if j < i then pg x k j else 0) ∧ Wrote w.heap.size 0 x.length W1 wr) (fun t _ => x.length - (intOf t).toNat)
  case atStart => exact ⟨0, Nat.zero_le _, rfl, row_zero HO1.out, Wrote.refl _ _ _ _⟩
  case round =>
    obtain ⟨i, hi, rfl, hr, hw⟩ := hrel
    have HR := Lib.hid hr
    have HW := Lib.hid hw
    by_cases hlt : i < x.length
    · obtain ⟨b2, o2, ha2, l2, t2, hc2⟩ := ((HX.out.below HB1.out tx).same (hw.same (by omega : w.heap.size < lo ∨ tp ≤ w.heap.size))).num hlt
      subst ha2
      have c0 := hr.cell i hlt
      have f0 := hr.free i hlt
      rw [Nat.zero_add] at c0 f0
      rw [if_neg (Nat.lt_irrefl _)] at c0
      have hi1 : (i : Int) < (x.length : Int) := by omega
      obtain ⟨y, hy⟩ : ∃ y, y = x.getD i 0 := ⟨_, rfl⟩
      have HY := Lib.hid hy
      rw [← hy] at hc2
      clear hr hw hy
      by_cases hk : ((gr i : Nat) : Int) = k
      · have HG : Hid (y = pg x k i) := by show _ = _; unfold pg; rw [if_pos hk, HY.out]
        have e1 : (((gr i : Nat) : Int) == k) = true := by simpa using hk
        clear hk
        go_wp2_with (go_at_call 75; refine (l04Grade_any i (by omega) _).mono ?_; rintro e w3 ⟨rfl, rfl⟩)
        go_roundw
        case rel => exact ⟨i + 1, by omega, by go_num, row_fill HR.out hlt HG.out, wrote_put0 HW.out hlt _⟩
        case measure => simp [intOf]; omega
      · have HG : Hid (pg x k i = 0) := by show _ = _; unfold pg; rw [if_neg hk]
        have e1 : (((gr i : Nat) : Int) == k) = false := by simpa using hk
        clear hk
        go_wp2_with (go_at_call 75; refine (l04Grade_any i (by omega) _).mono ?_; rintro e w3 ⟨rfl, rfl⟩)
        go_roundw
        case rel => exact ⟨i + 1, by omega, by go_num, row_leave HR.out HG.out, HW.out⟩
        case measure => simp [intOf]; omega
    · have hn : i = x.length := by omega
      subst hn
      clear hr hw
      go_wp2
      go_ret
      exact ⟨w.heap.size, rfl, Nat.le_refl _, by rw [HW.out.size]; exact hu1, row_done HR.out, HB1.out.trans (HW.out.belowB (Nat.le_refl _))⟩

end Go.Proofs.Ytbnegbpapjcmhaa

namespace Go.Proofs.Ytbnegbpapjcmhaa
open Go.RowKit
set_option linter.unusedVariables false

theorem xor_64 {a b : Nat} (ha : a < 64) (hb : b < 64) : bits .xor .i64 (a : Int) (b : Int) = ((a ^^^ b : Nat) : Int) := by
  have h : ∀ a : Nat, a < 64 → ∀ b : Nat, b < 64 → bits .xor .i64 (a : Int) (b : Int) = ((a ^^^ b : Nat) : Int) := by decide +kernel
  exact h a ha b hb
theorem xor_lt {a b : Nat} (ha : a < 64) (hb : b < 64) : a ^^^ b < 64 := Nat.xor_lt_two_pow (n := 6) ha hb
theorem and_one {a : Nat} (ha : a < 64) : bits .and .i64 (a : Int) 1 = ((a % 2 : Nat) : Int) := by
  have h : ∀ a : Nat, a < 64 → bits .and .i64 (a : Int) 1 = ((a % 2 : Nat) : Int) := by decide +kernel
  exact h a ha
theorem two_cases {a : Nat} (h : ¬ a % 2 = 1) : a % 2 = 0 := by omega

theorem shr_nat (a i : Nat) : (a : Int) / 2 ^ i = ((a / 2 ^ i : Nat) : Int) := by simp
theorem shr_lt {a : Nat} (ha : a < 64) (i : Nat) : a / 2 ^ i < 64 := Nat.lt_of_le_of_lt (Nat.div_le_self _ _) ha
theorem and_shr {a : Nat} (ha : a < 64) (i : Nat) : bits .and .i64 ((a : Int) / 2 ^ i) 1 = ((a / 2 ^ i % 2 : Nat) : Int) := by rw [shr_nat, and_one (shr_lt ha i)]
theorem l04Grade_shr (a i : Nat) (ha : a < 64) (w : World) : Calls Try.prog 75 #[.int .i64 ((a : Int) / 2 ^ i)] w fun e w' => e = .returned (.int .i64 (gr (a / 2 ^ i))) ∧ w = w' := by
  rw [shr_nat]; exact l04Grade_any _ (shr_lt ha i) w
theorem bit_up {aa a i : Nat} (haa : aa < 64) (hi : i < 6) (h : aa / 2 ^ i = a / 2 ^ i) : aa ^^^ 2 ^ i < 64 ∧ (aa ^^^ 2 ^ i) / 2 ^ (i + 1) = a / 2 ^ (i + 1) := by
  have h2 : 2 ^ i < 64 := Nat.pow_lt_pow_right (by decide) hi
  refine ⟨xor_lt haa h2, ?_⟩
  rw [Nat.xor_div_two_pow, Nat.div_eq_of_lt (Nat.pow_lt_pow_right (by decide) (Nat.lt_succ_self i)), Nat.xor_zero, Nat.pow_succ, ← Nat.div_div_eq_div_mul, ← Nat.div_div_eq_div_mul, h]
theorem bit_keep {aa a i : Nat} (h : aa / 2 ^ i = a / 2 ^ i) : aa / 2 ^ (i + 1) = a / 2 ^ (i + 1) := by
  rw [Nat.pow_succ, ← Nat.div_div_eq_div_mul, ← Nat.div_div_eq_div_mul, h]

set_option maxRecDepth 100000 in
set_option maxHeartbeats 1600000 in
theorem l04Blades_any (p : Int) (aS : Option Addr) (S : List Int) (cS loS tpS : Nat) (a b : Nat) (w : World) (hp : prm p = true) (h6 : S.length ≤ 6) (hS : RowIn loS tpS w aS S) (tS : tpS ≤ w.heap.size) (hn : Nums p S) (ha : a < 64) (hb : b < 64) :
    Calls Try.prog 92 #[.agg #[.int .i64 p, .slice aS S.length cS], .int .i64 a, .int .i64 b] w fun e w' => e = .returned (.int .i64 (fm p S a b S.length)) ∧ Below w.heap.size w w' := by
  have hpb := prm_bd hp
  have HS := Lib.hid hS
  have HN := Lib.hid hn
  clear hS hn
  go_enter Try.func92, Try.ntmps92
  go_wp2
  have hk0 : (w.alloc (.cells #[.int .i64 p, .slice aS S.length cS] 28)).cell? ⟨w.heap.size, 0, none⟩ = some (.int .i64 p) := nw0 w _ _ _
  have hk1 : (w.alloc (.cells #[.int .i64 p, .slice aS S.length cS] 28)).cell? ⟨w.heap.size, 1, none⟩ = some (.slice aS S.length cS) := nw1 w _ _ _
  have HBW := Lib.hid (below_alloc w (.cells #[.int .i64 p, .slice aS S.length cS] 28))
  obtain ⟨W, hW⟩ : ∃ W, W = w.alloc (.cells #[.int .i64 p, .slice aS S.length cS] 28) := ⟨_, rfl⟩
  rw [← hW] at hk0 hk1 HBW ⊢
  have HS1 := Lib.hid (HS.out.below HBW.out tS)
  clear hW
  go_loopw [1, 7, 8] (fun u v t wr => ∃ i aa : Nat, i ≤ S.length ∧ aa < 64 ∧ aa / 2 ^ i = a / 2 ^ i ∧ u = .int .i64 aa ∧ v = .int .i64 (fm p S a b i) ∧ t = .int .i64 i ∧ Quiet W wr) (fun _ _ t _ => S.length - (intOf t).toNat)
  case atStart => exact ⟨0, a, Nat.zero_le _, ha, rfl, rfl, by rw [fm_zero (by omega)], rfl, Quiet.refl _⟩
  case round =>
    obtain ⟨i, aa, hi, haa, hae, rfl, rfl, rfl, hq⟩ := hrel
    have HQ := Lib.hid hq
    have hk0' := (hq.cell ⟨w.heap.size, 0, none⟩).trans hk0
    have hk1' := (hq.cell ⟨w.heap.size, 1, none⟩).trans hk1
    have hs1' := HS1.out.same (hq.same loS tpS)
    clear hq
    by_cases hlt : i < S.length
    · have hi6 : i < 6 := by omega
      have hi1 : (i : Int) < (S.length : Int) := by omega
      obtain ⟨o, ho⟩ : ∃ o, o = fm p S a b i := ⟨_, rfl⟩
      have hob := fm_bd (by omega : 0 < p) S a b i
      rw [← ho] at hob ⊢
      have HAE := Lib.hid hae
      have HO := Lib.hid ho
      clear ho
      by_cases hbi : b / 2 ^ i % 2 = 1
      · have HFM : Hid (fo p S a i o = fm p S a b (i + 1)) := by show _ = _; rw [HO.out]; exact fm_model p S hbi
        have e1 : (bits BinOp.and IntKind.i64 ((b : Int) / 2 ^ i) 1 == 0) = false := by rw [and_shr hb, hbi]; rfl
        obtain ⟨b2, o2, ha2, l2, t2, hc2⟩ := hs1'.num hlt
        subst ha2
        obtain ⟨s0, s1⟩ := HN.out i hlt
        have HX := Lib.hid (bit_up haa hi6 hae)
        obtain ⟨q, hq⟩ : ∃ q, q = 2 ^ i := ⟨_, rfl⟩
        have hq2 : q < 64 := by rw [hq]; exact Nat.pow_lt_pow_right (by decide) hi6
        have e2 : wrap64 ((2 : Int) ^ i) = (q : Int) := by rw [hq]; exact wrap_pow hi6
        have e3 := xor_64 haa hq2
        have hp0 : ¬ p = 0 := by omega
        have hp1 : (p == 0) = false := by simpa using hp0
        rw [← hq] at HX
        clear hq
        obtain ⟨x, hx⟩ : ∃ x, x = S.getD i 0 := ⟨_, rfl⟩
        have HXX := Lib.hid hx
        rw [← hx] at hc2 s0 s1
        clear hx hs1'
        by_cases hg : gr (a / 2 ^ (i + 1)) % 2 = 1
        · have e4 : (((gr (aa / 2 ^ (i + 1)) : Nat) : Int) % 2 == 1) = true := by rw [bit_keep HAE.out]; simp; omega
          by_cases hai : a / 2 ^ i % 2 = 1
          · have e5 : (bits BinOp.and IntKind.i64 ((aa : Int) / 2 ^ i) 1 == 1) = true := by rw [and_shr haa, HAE.out]; rw [hai]; rfl
            have HF : Hid (((p - o) % p) * x % p = fm p S a b (i + 1)) := by show _ = _; rw [← HFM.out]; unfold fo; rw [if_pos hai, if_pos hg, ← HXX.out]
            have e6 : (p - o).tmod p = (p - o) % p := Int.tmod_eq_emod_of_nonneg (by omega)
            have e7 : IntKind.i64.wrap (p - o) = p - o := IntWalk.i64_in _ (by omega)
            obtain ⟨d, hd⟩ : ∃ d, d = (p - o) % p := ⟨_, rfl⟩
            have d0 := Int.emod_nonneg (p - o) (by omega : p ≠ 0)
            have d1 := Int.emod_lt_of_pos (p - o) (by omega : 0 < p)
            rw [← hd] at e6 d0 d1 HF
            clear hd
            obtain ⟨m0, m1⟩ := mul_bd' hpb.2 d0 d1 s0 s1
            have e8 : IntKind.i64.wrap (d * x) = d * x := IntWalk.i64_in _ (by omega)
            have e9 : (d * x).tmod p = (d * x) % p := Int.tmod_eq_emod_of_nonneg (by omega)
            clear hae hbi hg hai
            go_wp2_with (go_at_call 75; refine (l04Grade_shr aa (i + 1) haa _).mono ?_; rintro e w3 ⟨rfl, rfl⟩)
            go_quiet (fail)
            clear e8 e9
            go_wp2
            go_roundw
            case rel => exact ⟨i + 1, _, by omega, HX.out.1, HX.out.2, by go_num, by rw [HF.out], by go_num, HQ.out.next _⟩
            case measure => simp [intOf]; omega
          · have e5 : (bits BinOp.and IntKind.i64 ((aa : Int) / 2 ^ i) 1 == 1) = false := by rw [and_shr haa, HAE.out]; rw [two_cases hai]; rfl
            have HF : Hid (((p - o) % p) = fm p S a b (i + 1)) := by show _ = _; rw [← HFM.out]; unfold fo; rw [if_neg hai, if_pos hg]
            have e6 : (p - o).tmod p = (p - o) % p := Int.tmod_eq_emod_of_nonneg (by omega)
            have e7 : IntKind.i64.wrap (p - o) = p - o := IntWalk.i64_in _ (by omega)
            obtain ⟨d, hd⟩ : ∃ d, d = (p - o) % p := ⟨_, rfl⟩
            have d0 := Int.emod_nonneg (p - o) (by omega : p ≠ 0)
            have d1 := Int.emod_lt_of_pos (p - o) (by omega : 0 < p)
            rw [← hd] at e6 d0 d1 HF
            clear hd
            clear hae hbi hg hai
            go_wp2_with (go_at_call 75; refine (l04Grade_shr aa (i + 1) haa _).mono ?_; rintro e w3 ⟨rfl, rfl⟩)
            go_roundw
            case rel => exact ⟨i + 1, _, by omega, HX.out.1, HX.out.2, by go_num, by rw [HF.out], by go_num, HQ.out⟩
            case measure => simp [intOf]; omega
        · have e4 : (((gr (aa / 2 ^ (i + 1)) : Nat) : Int) % 2 == 1) = false := by rw [bit_keep HAE.out]; simp; omega
          by_cases hai : a / 2 ^ i % 2 = 1
          · have e5 : (bits BinOp.and IntKind.i64 ((aa : Int) / 2 ^ i) 1 == 1) = true := by rw [and_shr haa, HAE.out]; rw [hai]; rfl
            have HF : Hid (o * x % p = fm p S a b (i + 1)) := by show _ = _; rw [← HFM.out]; unfold fo; rw [if_pos hai, if_neg hg, ← HXX.out]
            obtain ⟨m0, m1⟩ := mul_bd' hpb.2 hob.1 hob.2 s0 s1
            have e8 : IntKind.i64.wrap (o * x) = o * x := IntWalk.i64_in _ (by omega)
            have e9 : (o * x).tmod p = (o * x) % p := Int.tmod_eq_emod_of_nonneg (by omega)
            clear hae hbi hg hai
            go_wp2_with (go_at_call 75; refine (l04Grade_shr aa (i + 1) haa _).mono ?_; rintro e w3 ⟨rfl, rfl⟩)
            go_quiet (fail)
            clear e8 e9
            go_wp2
            go_roundw
            case rel => exact ⟨i + 1, _, by omega, HX.out.1, HX.out.2, by go_num, by rw [HF.out], by go_num, HQ.out.next _⟩
            case measure => simp [intOf]; omega
          · have e5 : (bits BinOp.and IntKind.i64 ((aa : Int) / 2 ^ i) 1 == 1) = false := by rw [and_shr haa, HAE.out]; rw [two_cases hai]; rfl
            have HF : Hid (o = fm p S a b (i + 1)) := by show _ = _; rw [← HFM.out]; unfold fo; rw [if_neg hai, if_neg hg]
            clear hae hbi hg hai
            go_wp2_with (go_at_call 75; refine (l04Grade_shr aa (i + 1) haa _).mono ?_; rintro e w3 ⟨rfl, rfl⟩)
            go_roundw
            case rel => exact ⟨i + 1, _, by omega, HX.out.1, HX.out.2, by go_num, by rw [HF.out], by go_num, HQ.out⟩
            case measure => simp [intOf]; omega
      · have HFM : Hid (fm p S a b (i + 1) = o) := by show _ = _; rw [HO.out]; exact fm_skip p S (two_cases hbi)
        have e1 : (bits BinOp.and IntKind.i64 ((b : Int) / 2 ^ i) 1 == 0) = true := by rw [and_shr hb, two_cases hbi]; rfl
        clear hae hbi hs1'
        go_wp2
        go_roundw
        case rel => exact ⟨i + 1, aa, by omega, haa, bit_keep HAE.out, rfl, by rw [HFM.out], by go_num, HQ.out⟩
        case measure => simp [intOf]; omega
    · clear hs1'
      go_wp2
      go_ret
      have hn : i = S.length := by omega
      subst hn
      exact ⟨rfl, HBW.out.trans (HQ.out.below _)⟩

end Go.Proofs.Ytbnegbpapjcmhaa

namespace Go.Proofs.Ytbnegbpapjcmhaa
open Go.RowKit
set_option linter.unusedVariables false

theorem xor_bl {S : List Int} {a b : Nat} (ha : a < bl S) (hb : b < bl S) : a ^^^ b < bl S := Nat.xor_lt_two_pow ha hb

theorem sst4 {B : Nat} {w w' : World} (h : Below B w w') {g bx ox by' oy : Nat} {u0 u1 u2 u3 : Value} (l0 : g < B) (l1 : bx < B) (l2 : by' < B) (h0 : w.cell? ⟨g, 0, none⟩ = some u0) (h1 : w.cell? ⟨g, 1, none⟩ = some u1) (h2 : w.cell? ⟨bx, ox, none⟩ = some u2) (h3 : w.cell? ⟨by', oy, none⟩ = some u3) :
    w'.cell? ⟨g, 0, none⟩ = some u0 ∧ w'.cell? ⟨g, 1, none⟩ = some u1 ∧ w'.cell? ⟨bx, ox, none⟩ = some u2 ∧ w'.cell? ⟨by', oy, none⟩ = some u3 :=
  ⟨(h.cell (p := ⟨g, 0, none⟩) l0).trans h0, (h.cell (p := ⟨g, 1, none⟩) l0).trans h1, (h.cell (p := ⟨bx, ox, none⟩) l1).trans h2, (h.cell (p := ⟨by', oy, none⟩) l2).trans h3⟩
theorem ssp4 (w : World) (b q : Nat) (v : Value) {g bx ox by' oy : Nat} {u0 u1 u2 u3 : Value} (n0 : g ≠ b) (n1 : bx ≠ b) (n2 : by' ≠ b) (h : w.cell? ⟨g, 0, none⟩ = some u0 ∧ w.cell? ⟨g, 1, none⟩ = some u1 ∧ w.cell? ⟨bx, ox, none⟩ = some u2 ∧ w.cell? ⟨by', oy, none⟩ = some u3) :
    (w.setCell ⟨b, q, none⟩ v).cell? ⟨g, 0, none⟩ = some u0 ∧ (w.setCell ⟨b, q, none⟩ v).cell? ⟨g, 1, none⟩ = some u1 ∧ (w.setCell ⟨b, q, none⟩ v).cell? ⟨bx, ox, none⟩ = some u2 ∧ (w.setCell ⟨b, q, none⟩ v).cell? ⟨by', oy, none⟩ = some u3 :=
  ⟨(World.cell?_setCell_other w ⟨b, q, none⟩ ⟨g, 0, none⟩ v (fun e => by injection e with e1; omega)).trans h.1, (World.cell?_setCell_other w ⟨b, q, none⟩ ⟨g, 1, none⟩ v (fun e => by injection e with e1; omega)).trans h.2.1, (World.cell?_setCell_other w ⟨b, q, none⟩ ⟨bx, ox, none⟩ v (fun e => by injection e with e1; omega)).trans h.2.2.1, (World.cell?_setCell_other w ⟨b, q, none⟩ ⟨by', oy, none⟩ v (fun e => by injection e with e1; omega)).trans h.2.2.2⟩

/-- A block of numbers. -/
def Tag (b : Nat) (w : World) : Prop := ∃ cur, w.heap[b]? = some (.cells cur 2 (0, 0))
theorem Tag.stay {b : Nat} {w w' : World} (h : Tag b w) (e : w'.heap[b]? = w.heap[b]?) : Tag b w' := by
  obtain ⟨cur, h⟩ := h
  exact ⟨cur, e.trans h⟩
theorem Tag.start (w : World) (cs : Array Value) : Tag w.heap.size (w.alloc (.cells cs 2)) := ⟨cs, heap_alloc_new w _⟩
theorem Tag.set {b : Nat} {w : World} (h : Tag b w) (c i : Nat) (v : Value) : Tag b (w.setCell ⟨c, i, none⟩ v) := by
  obtain ⟨cur, h⟩ := h
  by_cases e : b = c
  · subst e
    exact ⟨cur.setIfInBounds i v, by simp [World.setCell, Array.getElem?_modify, h]⟩
  · exact ⟨cur, (Below.heap_setCell _ _ _ _ e).trans h⟩
def NewRowT (n : Nat) (f : Nat → Int) (w : World) (e : Ending) (w' : World) : Prop :=
  ∃ b, e = .returned (.slice (some ⟨b, 0, none⟩) n n) ∧ w.heap.size ≤ b ∧ b < w'.heap.size ∧ RowOwn w' b 0 n f ∧ Below w.heap.size w w' ∧ Tag b w'

end Go.Proofs.Ytbnegbpapjcmhaa

namespace Go.Proofs.Ytbnegbpapjcmhaa
open Go.RowKit
set_option linter.unusedVariables false

/-- Whether the product of two blades is kept: 0 the wedge product, 1 the left contraction, else the right one. -/
def kp (κ a b : Nat) : Bool := if κ = 0 then a &&& b == 0 else if κ = 1 then a &&& b == a else a &&& b == b
def tk (p : Int) (S : List Int) (κ : Nat) (x y : List Int) (c a : Nat) : Int := if kp κ a (a ^^^ c) = true then tm p S x y c a else 0
/-- The number at c of the product of a kind. -/
def kF (p : Int) (S : List Int) (κ : Nat) (x y : List Int) (c : Nat) : Int := sm (bl S) (tk p S κ x y c) % p
def kM (p : Int) (S : List Int) (κ : Nat) (x y : List Int) : List Int := mkR (bl S) (kF p S κ x y)
theorem kM_len (p : Int) (S : List Int) (κ : Nat) (x y : List Int) : (kM p S κ x y).length = bl S := mkR_len _ _
theorem kM_at (p : Int) (S : List Int) (κ : Nat) (x y : List Int) {c : Nat} (hc : c < bl S) : (kM p S κ x y).getD c 0 = kF p S κ x y c := mkR_at _ hc
theorem kF_bd {p : Int} (hp : 0 < p) (S : List Int) (κ : Nat) (x y : List Int) (c : Nat) : 0 ≤ kF p S κ x y c ∧ kF p S κ x y c < p := ⟨Int.emod_nonneg _ (by omega), Int.emod_lt_of_pos _ hp⟩
theorem tk_yes {p : Int} {S : List Int} {κ : Nat} {x y : List Int} {a b : Nat} (h : kp κ a b = true) : tk p S κ x y (a ^^^ b) a = tm p S x y (a ^^^ b) a := by unfold tk; rw [xor_back, if_pos h]
theorem tk_no {p : Int} {S : List Int} {κ : Nat} {x y : List Int} {a b : Nat} (h : kp κ a b = false) : tk p S κ x y (a ^^^ b) a = 0 := by unfold tk; rw [xor_back, if_neg (by simp [h])]

/-- The number at c, when the products of the first i numbers, and those of the number i with the first k of the other one, have been added. -/
def pk (p : Int) (S : List Int) (κ : Nat) (x y : List Int) (i k c : Nat) : Int := (sm i (tk p S κ x y c) + if i ^^^ c < k then tk p S κ x y c i else 0) % p
theorem pk_bd {p : Int} (hp : 0 < p) (S : List Int) (κ : Nat) (x y : List Int) (i k c : Nat) : 0 ≤ pk p S κ x y i k c ∧ pk p S κ x y i k c < p := ⟨Int.emod_nonneg _ (by omega), Int.emod_lt_of_pos _ hp⟩
theorem pk_start (p : Int) (S : List Int) (κ : Nat) (x y : List Int) (i c : Nat) : pk p S κ x y i 0 c = sm i (tk p S κ x y c) % p := by
  unfold pk; rw [if_neg (Nat.not_lt_zero _), Int.add_zero]
theorem pk_end (p : Int) (S : List Int) (κ : Nat) (x y : List Int) {i c : Nat} (hi : i < bl S) (hc : c < bl S) : pk p S κ x y i (bl S) c = sm (i + 1) (tk p S κ x y c) % p := by
  unfold pk; rw [if_pos (show i ^^^ c < bl S from Nat.xor_lt_two_pow hi hc)]; rfl
theorem pk_skip {p : Int} {S : List Int} {κ : Nat} {x y : List Int} {i k : Nat} (h : kp κ i k = false) (c : Nat) : pk p S κ x y i k c = pk p S κ x y i (k + 1) c := by
  unfold pk
  by_cases e : i ^^^ c = k
  · have e2 : c = i ^^^ k := by rw [← e, xor_back]
    rw [if_neg (by omega), if_pos (by omega), e2, tk_no h]
  · by_cases e2 : i ^^^ c < k
    · rw [if_pos e2, if_pos (by omega)]
    · rw [if_neg e2, if_neg (by omega)]
theorem pk_here (p : Int) (S : List Int) (κ : Nat) (x y : List Int) (i k : Nat) : pk p S κ x y i k (i ^^^ k) = sm i (tk p S κ x y (i ^^^ k)) % p := by
  unfold pk; rw [xor_back, if_neg (Nat.lt_irrefl _), Int.add_zero]
theorem pk_put (p : Int) (S : List Int) (κ : Nat) (x y : List Int) {i k : Nat} (hk : kp κ i k = true) {v : Int} (hv : v = (pk p S κ x y i k (i ^^^ k) + x.getD i 0 * y.getD k 0 % p * fm p S i k S.length) % p) (c : Nat) : (if c = i ^^^ k then v else pk p S κ x y i k c) = pk p S κ x y i (k + 1) c := by
  by_cases e : c = i ^^^ k
  · rw [if_pos e, hv, e, pk_here]
    unfold pk
    rw [xor_back, if_pos (Nat.lt_succ_self k), tk_yes hk]
    unfold tm
    rw [xor_back, Int.add_emod, em_l, Int.emod_emod, ← Int.add_emod]
    congr 2
    rw [Int.mul_assoc, Int.mul_assoc, Int.mul_comm (y.getD k 0)]
  · rw [if_neg e]
    have e3 : ¬ i ^^^ c = k := fun h => e (by rw [← h, xor_back])
    unfold pk
    by_cases e2 : i ^^^ c < k
    · rw [if_pos e2, if_pos (by omega)]
    · rw [if_neg e2, if_neg (by omega)]
theorem and_64 {a b : Nat} (ha : a < 64) (hb : b < 64) : bits .and .i64 (a : Int) (b : Int) = ((a &&& b : Nat) : Int) := by
  have h : ∀ a : Nat, a < 64 → ∀ b : Nat, b < 64 → bits .and .i64 (a : Int) (b : Int) = ((a &&& b : Nat) : Int) := by decide +kernel
  exact h a ha b hb
theorem beq_nat (a b : Nat) : ((a : Int) == (b : Int)) = (a == b) := by
  by_cases h : a = b
  · subst h; simp
  · have h2 : ¬ (a : Int) = (b : Int) := by omega
    rw [beq_eq_false_iff_ne.2 h2, beq_eq_false_iff_ne.2 h]
theorem bne_nat (a b : Nat) : ((a : Int) != (b : Int)) = !(a == b) := by unfold bne; rw [beq_nat]
theorem beq_nat0 (a : Nat) : ((a : Int) == 0) = (a == 0) := beq_nat a 0
theorem bne_nat0 (a : Nat) : ((a : Int) != 0) = !(a == 0) := bne_nat a 0

end Go.Proofs.Ytbnegbpapjcmhaa

namespace Go.Proofs.Ytbnegbpapjcmhaa
open Go.RowKit
set_option linter.unusedVariables false

theorem kp0_iff {a b : Nat} : kp 0 a b = true ↔ ∀ i, (a.testBit i && b.testBit i) = false := by
  unfold kp
  rw [if_pos rfl, beq_iff_eq]
  constructor
  · intro h i
    rw [← Nat.testBit_and, h, Nat.zero_testBit]
  · intro h
    exact Nat.eq_of_testBit_eq fun i => by rw [Nat.testBit_and, h i, Nat.zero_testBit]
theorem kp_wedge (a b e : Nat) : (kp 0 a b && kp 0 (a ^^^ b) e) = (kp 0 a (b ^^^ e) && kp 0 b e) := by
  rw [Bool.eq_iff_iff, Bool.and_eq_true, Bool.and_eq_true, kp0_iff, kp0_iff, kp0_iff, kp0_iff]
  constructor
  · rintro ⟨h, k⟩
    refine ⟨fun i => ?_, fun i => ?_⟩ <;>
    · have h1 := h i
      have k1 := k i
      rw [Nat.testBit_xor] at *
      revert h1 k1
      cases a.testBit i <;> cases b.testBit i <;> cases e.testBit i <;> simp
  · rintro ⟨h, k⟩
    refine ⟨fun i => ?_, fun i => ?_⟩ <;>
    · have h1 := h i
      have k1 := k i
      rw [Nat.testBit_xor] at *
      revert h1 k1
      cases a.testBit i <;> cases b.testBit i <;> cases e.testBit i <;> simp
/-- The factor of the product of two blades, where it is kept. -/
def fk (S : List Int) (κ a b n : Nat) : Int := if kp κ a b = true then fz S a b n else 0
def kpz (S : List Int) (n κ : Nat) (x y : Nat → Int) (c : Nat) : Int := sm (2 ^ n) fun a => x a * fk S κ a (a ^^^ c) n * y (a ^^^ c)
theorem fk_coc (S : List Int) {κ1 κ2 κ3 κ4 : Nat} (h : ∀ a b e, (kp κ1 a b && kp κ2 (a ^^^ b) e) = (kp κ3 a (b ^^^ e) && kp κ4 b e)) (a b e n : Nat) : fk S κ1 a b n * fk S κ2 (a ^^^ b) e n = fk S κ3 a (b ^^^ e) n * fk S κ4 b e n := by
  have hk := h a b e
  have hf := fz_coc S a b e n
  unfold fk
  revert hk
  cases kp κ1 a b <;> cases kp κ2 (a ^^^ b) e <;> cases kp κ3 a (b ^^^ e) <;> cases kp κ4 b e <;> simp [hf]
theorem kpz_assoc (S : List Int) (n : Nat) {κ1 κ2 κ3 κ4 : Nat} (hk : ∀ a b e, (kp κ1 a b && kp κ2 (a ^^^ b) e) = (kp κ3 a (b ^^^ e) && kp κ4 b e)) (x y z : Nat → Int) {d : Nat} (hd : d < 2 ^ n) : kpz S n κ2 (kpz S n κ1 x y) z d = kpz S n κ3 x (kpz S n κ4 y z) d := by
  unfold kpz
  have h1 : ∀ c, c < 2 ^ n → (sm (2 ^ n) fun a => x a * fk S κ1 a (a ^^^ c) n * y (a ^^^ c)) * fk S κ2 c (c ^^^ d) n * z (c ^^^ d) = sm (2 ^ n) fun a => x a * (fk S κ3 a (a ^^^ d) n * fk S κ4 (a ^^^ c) (c ^^^ d) n) * (y (a ^^^ c) * z (c ^^^ d)) := fun c _ => by
    rw [Int.mul_assoc, Int.mul_comm, ← sm_mul]
    apply sm_congr
    intro a _
    have h := fk_coc S hk a (a ^^^ c) (c ^^^ d) n
    rw [xor_back, show (a ^^^ c) ^^^ (c ^^^ d) = a ^^^ d by rw [Nat.xor_assoc, xor_back]] at h
    rw [← h]
    ac_rfl
  rw [sm_congr h1, sm_swap]
  apply sm_congr
  intro a ha
  have h2 : x a * fk S κ3 a (a ^^^ d) n * (sm (2 ^ n) fun b => y b * fk S κ4 b (b ^^^ (a ^^^ d)) n * z (b ^^^ (a ^^^ d))) = sm (2 ^ n) fun b => x a * fk S κ3 a (a ^^^ d) n * (y b * fk S κ4 b (b ^^^ (a ^^^ d)) n * z (b ^^^ (a ^^^ d))) := by rw [sm_mul]
  rw [h2, ← sm_xor n a ha (fun b => x a * fk S κ3 a (a ^^^ d) n * (y b * fk S κ4 b (b ^^^ (a ^^^ d)) n * z (b ^^^ (a ^^^ d))))]
  apply sm_congr
  intro c _
  show _ = x a * fk S κ3 a (a ^^^ d) n * (y (c ^^^ a) * fk S κ4 (c ^^^ a) (c ^^^ a ^^^ (a ^^^ d)) n * z (c ^^^ a ^^^ (a ^^^ d)))
  rw [Nat.xor_comm c a, xor_mid]
  ac_rfl
theorem kpz_mod {p : Int} (S : List Int) (n κ : Nat) {x x' y y' : Nat → Int} {c : Nat} (hc : c < 2 ^ n) (hx : ∀ j, j < 2 ^ n → x j % p = x' j % p) (hy : ∀ j, j < 2 ^ n → y j % p = y' j % p) : kpz S n κ x y c % p = kpz S n κ x' y' c % p :=
  sm_congr_p fun a ha => by
    rw [Int.mul_emod, Int.mul_emod (x a), hx a ha, hy _ (Nat.xor_lt_two_pow ha hc), ← Int.mul_emod (x' a), ← Int.mul_emod]
theorem kF_eq (p : Int) (S : List Int) (κ : Nat) (x y : List Int) (c : Nat) : kF p S κ x y c = kpz S S.length κ (fun j => x.getD j 0) (fun j => y.getD j 0) c % p := by
  unfold kF kpz
  exact sm_congr_p fun a _ => by
    unfold tk fk tm fm
    by_cases h : kp κ a (a ^^^ c) = true
    · rw [if_pos h, if_pos h, Int.mul_emod, Int.mul_emod (x.getD a 0), Int.emod_emod, ← Int.mul_emod (x.getD a 0), ← Int.mul_emod]
    · rw [if_neg h, if_neg h, Int.mul_zero, Int.zero_mul]
theorem kM_assoc (p : Int) (S : List Int) {κ1 κ2 κ3 κ4 : Nat} (hk : ∀ a b e, (kp κ1 a b && kp κ2 (a ^^^ b) e) = (kp κ3 a (b ^^^ e) && kp κ4 b e)) (x y z : List Int) : kM p S κ2 (kM p S κ1 x y) z = kM p S κ3 x (kM p S κ4 y z) :=
  mkR_congr fun d hd => by
    have hd' : d < 2 ^ S.length := hd
    rw [kF_eq, kF_eq]
    rw [kpz_mod S S.length κ2 hd' (x' := kpz S S.length κ1 (fun j => x.getD j 0) (fun j => y.getD j 0)) (y' := fun j => z.getD j 0) (fun j hj => by rw [kM_at p S κ1 x y hj, kF_eq]; exact Int.emod_emod _ _) (fun j _ => rfl), kpz_assoc S S.length hk _ _ _ hd',
      kpz_mod S S.length κ3 hd' (x' := fun j => x.getD j 0) (y' := fun j => (kM p S κ4 y z).getD j 0) (fun j _ => rfl) (fun j hj => by rw [kM_at p S κ4 y z hj, kF_eq]; exact (Int.emod_emod _ _).symm)]
theorem wedge_assoc (p : Int) (S x y z : List Int) : kM p S 0 (kM p S 0 x y) z = kM p S 0 x (kM p S 0 y z) := kM_assoc p S kp_wedge x y z
end Go.Proofs.Ytbnegbpapjcmhaa
