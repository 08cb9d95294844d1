/-
  ReverseOf, InvoluteOf and ConjugateOf: contracts of the program and of the model.
  Conditions: the lists are nil or rows of known cells, of at most 1048576 numbers.
  Discriminants, in the program and in the model.
  Conditions: the squares are nil or a row of known cells.
  What the model's check of a prime and of a list of numbers returns, and both checks at the short lists that the functions of chapter 1 build.
  Conditions: the lists are rows of cells that are known.
  What powers, inverses and quotients of numbers return: contracts of the program's methods and of the model's helpers.
  Conditions: the prime is one, the numbers are remainders by it, an exponent is at most 1000.
  What inverses, powers with negative exponents and quotients of numbers return, in the program.
  Conditions: the prime is one, the numbers are remainders by it, a divisor is not 0, an exponent is from -1000000 to 1000000.
  Pseudoscalars, their squares, duals, meets: numbers. No Go in sight.
  No conditions.
-/
import Derived.Test.YtcmedhkamjclmaaQa8
import Derived.Deep.AppendLies
import Derived.StillTailTactics
import Derived.Test.YtcmedhkamjclmaaQa2
import Derived.Test.YtcmedhkamjclmaaQa1
import Derived.BigQuiet
import Derived.Deep.QuietTactic
import Derived.Deep.RegionHeld3
import Derived.RegionTactic
namespace Go.Proofs.Ytcmedhkamjclmaa
open Go.RowKit
set_option linter.unusedVariables false

/-- A list is handed back by the model. -/
def SRow (R : List Int) (w : World) (e : Ending) (w' : World) : Prop := ∃ r k, e = .returned (.slice r R.length k) ∧ RowIn w.heap.size w'.heap.size w' r R ∧ Below w.heap.size w w'
theorem sgF_plus {p : Int} {c : Nat → Nat} {x : List Int} {i : Nat} (h : c (gr i) % 2 = 0) : sgF p c x i = x.getD i 0 := by unfold sgF; rw [if_neg (by omega)]
theorem sgF_minus {p : Int} {c : Nat → Nat} {x : List Int} {i : Nat} (h : c (gr i) % 2 = 1) : sgF p c x i = (p - x.getD i 0) % p := by unfold sgF; rw [if_pos h]

set_option maxRecDepth 100000 in
set_option maxHeartbeats 6400000 in
theorem l04Signs_reversal (p : Int) (aS : Option Addr) (S : List Int) (cS : Nat) (ax : Option Addr) (x : List Int) (cx lox tpx : Nat) (w : World) (hp : prm p = true) (hx : RowIn lox tpx w ax x) (tx : tpx ≤ w.heap.size) (sx : x.length ≤ 64) (nx : Nums p x) :
    Calls Try.prog 121 #[.agg #[.int .i64 p, .slice aS S.length cS], .slice ax x.length cx, .bool true, .bool false] w (SRow (mkR x.length (sgF p c_reversal x)) w) := by
  obtain ⟨i0, hi, hz0, hz1, hz2⟩ := info_parts info64
  have hpb := prm_bd hp
  have Hx := Lib.hid hx
  have HNX := Lib.hid nx
  have HB0 := Lib.hid (below_alloc w (.cells #[.int .i64 p, .slice aS S.length cS] 28))
  have k0 := nw0 w (.int .i64 p) (.slice aS S.length cS) 28
  clear hx hp nx
  go_enter Try.func121, Try.ntmps121
  go_upto_region 1 with fail
  obtain ⟨w1, hw1⟩ : ∃ z, z = w.alloc (.cells #[.int .i64 p, .slice aS S.length cS] 28) := ⟨_, rfl⟩
  rw [← hw1] at HB0 k0
  rw [← hw1]
  have hw0 : w.heap.size < w1.heap.size := by rw [hw1]; simp
  clear hw1
  go_wp2
  go_loopw [9, 10] (fun v t wr => ∃ i : Nat, i ≤ x.length ∧ t = .int .i64 i ∧ OutR w1.heap.size wr v (mkR i (sgF p c_reversal x)) ∧ wr.cell? ⟨w.heap.size, 0, none⟩ = some (.int .i64 p) ∧ Below w1.heap.size w1 wr) (fun _ t _ => x.length - (intOf t).toNat)
  case atStart => exact ⟨0, Nat.zero_le _, rfl, OutR.start w1 _ _ (Nat.le_refl _) rfl, ca0 k0, below_alloc w1 _⟩
  case round =>
    obtain ⟨i, hi', rfl, ho, hk, hbel⟩ := hrel
    have HO := Lib.hid ho
    have HB := Lib.hid hbel
    have hwz := hbel.size
    clear ho hbel
    by_cases hlt : i < x.length
    · obtain ⟨b1, o1, ha1, _, hb1, hc1⟩ := ((Hx.out.below HB0.out tx).below HB.out (by omega)).num hlt
      subst ha1
      obtain ⟨x0, x1⟩ := HNX.out i hlt
      have hi1 : (i : Int) < (x.length : Int) := by omega
      obtain ⟨X, hX⟩ : ∃ X, X = (mkR i (sgF p c_reversal x)).map (Value.int .i64) := ⟨_, rfl⟩
      have HX := Lib.hid hX
      have HO2 : Hid (wr.ownsRow w1.heap.size 2 1 u9 i X) := by
        have := HO.out; unfold OutR at this; rw [mkR_len, ← hX] at this; exact this
      have n0 : u9.ownBlock ≠ some w.heap.size := fun e => by have := (HO2.out.lt _ e).1; omega
      have n1 : u9.ownBlock ≠ some b1 := fun e => by have := (HO2.out.lt _ e).1; omega
      have q0 : w.heap.size < wr.heap.size := by omega
      have lb1 : b1 < wr.heap.size := by omega
      obtain ⟨y, hy⟩ : ∃ y, y = x.getD i 0 := ⟨_, rfl⟩
      rw [← hy] at hc1 x0 x1
      have e1 : IntKind.i64.wrap (p - y) = p - y := IntWalk.i64_in _ (by omega)
      obtain ⟨Z, hZ⟩ : ∃ Z, Z = (p - y) % p := ⟨_, rfl⟩
      have e2 : (p - y).tmod p = Z := by rw [hZ]; exact Int.tmod_eq_emod_of_nonneg (by omega)
      have hp0 : ¬ p = 0 := by omega
      have hp1 : (p == 0) = false := by simpa using hp0
      have hg7 : gr i < 7 := by have := gr_le i; omega
      clear hX
      rcases seven hg7 with hg | hg | hg | hg | hg | hg | hg
      · have HG : Hid (((gr i : Nat) : Int) = 0) := by show _ = _; rw [hg]; rfl
        have HSU : Hid (mkR (i + 1) (sgF p c_reversal x) = mkR i (sgF p c_reversal x) ++ [y]) := by show _ = _; rw [mkR_succ, sgF_plus (by rw [hg]; decide), hy]
        clear hg hy hZ
        go_wp2_with (first | (go_at_call 120; (with_reducible refine (l04Grade_any i (by omega) _).mono ?_); rintro e w3 ⟨rfl, rfl⟩; rw [HG.out]) | (at_builtin; refine wpList_append_lies _ rfl _ _ 22 rfl w1.heap.size 2 i0 (.int .i64 0) 1 8 Try.underlying22 hi hz0 hz1 hz2 rfl (by decide) u9 i X rfl (HO2.out.alloc _) ⟨wr.heap.size, 0, none⟩ 1 1 [.int .i64 y] rfl rfl (World.news_of_block (cs := #[.int .i64 y]) (t := 2) (fr := (0, 0)) (heap_alloc_new wr _)) (by simp [Value.oneCell']) (by omega) (by unfold maxLen; omega) (by omega) (by simp; omega) (wr.heap.size + 1) (by simp) ?_; intro gg cap w1 hown1 hgrow hat hlt1))
        clear e1 e2
        go_wp2
        go_roundw
        case rel => exact ⟨i + 1, by omega, by go_num, OutR.step HO2.out HX.out HSU.out hown1, (hgrow.cell_far ⟨w.heap.size, 0, none⟩ (by simp; omega) (Ne.symm n0)).trans (ca0 hk), (HB.out.alloc hwz _).grown hgrow (by simp; omega) (fun _ hk => (HO2.out.lt _ hk).1)⟩
        case measure => simp [intOf]; omega
      · have HG : Hid (((gr i : Nat) : Int) = 1) := by show _ = _; rw [hg]; rfl
        have HSU : Hid (mkR (i + 1) (sgF p c_reversal x) = mkR i (sgF p c_reversal x) ++ [y]) := by show _ = _; rw [mkR_succ, sgF_plus (by rw [hg]; decide), hy]
        clear hg hy hZ
        go_wp2_with (first | (go_at_call 120; (with_reducible refine (l04Grade_any i (by omega) _).mono ?_); rintro e w3 ⟨rfl, rfl⟩; rw [HG.out]) | (at_builtin; refine wpList_append_lies _ rfl _ _ 22 rfl w1.heap.size 2 i0 (.int .i64 0) 1 8 Try.underlying22 hi hz0 hz1 hz2 rfl (by decide) u9 i X rfl (HO2.out.alloc _) ⟨wr.heap.size, 0, none⟩ 1 1 [.int .i64 y] rfl rfl (World.news_of_block (cs := #[.int .i64 y]) (t := 2) (fr := (0, 0)) (heap_alloc_new wr _)) (by simp [Value.oneCell']) (by omega) (by unfold maxLen; omega) (by omega) (by simp; omega) (wr.heap.size + 1) (by simp) ?_; intro gg cap w1 hown1 hgrow hat hlt1))
        clear e1 e2
        go_wp2
        go_roundw
        case rel => exact ⟨i + 1, by omega, by go_num, OutR.step HO2.out HX.out HSU.out hown1, (hgrow.cell_far ⟨w.heap.size, 0, none⟩ (by simp; omega) (Ne.symm n0)).trans (ca0 hk), (HB.out.alloc hwz _).grown hgrow (by simp; omega) (fun _ hk => (HO2.out.lt _ hk).1)⟩
        case measure => simp [intOf]; omega
      · have HG : Hid (((gr i : Nat) : Int) = 2) := by show _ = _; rw [hg]; rfl
        have HSU : Hid (mkR (i + 1) (sgF p c_reversal x) = mkR i (sgF p c_reversal x) ++ [Z]) := by show _ = _; rw [mkR_succ, sgF_minus (by rw [hg]; decide), hZ, hy]
        clear hg hy hZ
        go_wp2_with (first | (go_at_call 120; (with_reducible refine (l04Grade_any i (by omega) _).mono ?_); rintro e w3 ⟨rfl, rfl⟩; rw [HG.out]))
        go_region_held3 (fun w' => w'.cell? ⟨w.heap.size, 0, none⟩ = some (.int .i64 p) ∧ w'.cell? ⟨b1, o1 + i, none⟩ = some (.int .i64 y)) (first | go_keep | (go_split_ands; refine ⟨?_, ?_⟩; (rw [hgrow.cell_far _ (by simp; omega) (Ne.symm n0)]; assumption); (rw [hgrow.cell_far _ (by simp; omega) (Ne.symm n1)]; assumption))) (go_loud (refine step_append_lies _ (by rfl) _ _ _ (by rfl) w1.heap.size 2 i0 _ 1 8 Try.underlying22 hi hz0 hz1 hz2 rfl (by omega) u9 i X (by rfl) ((HO2.out.alloc _).drew) ⟨wr.heap.size, 0, none⟩ 1 1 [.int .i64 Z] (by rfl) (by rfl) (World.news_of_block (cs := #[.int .i64 Z]) (t := 2) (fr := (0, 0)) (heap_alloc_new wr _)) (by simp [Value.oneCell']) (by omega) (by unfold maxLen; omega) (by omega) (by simp; omega) (wr.heap.size + 1) (by simp) ?_; intro gg cap w4 hown1 hgrow hat hlt1))
        clear e1 e2
        go_wp2
        go_roundw
        case rel => exact ⟨i + 1, by omega, by go_num, OutR.step HO2.out HX.out HSU.out hown1, (hgrow.cell_far ⟨w.heap.size, 0, none⟩ (by simp; omega) (Ne.symm n0)).trans (ca0 hk), ((HB.out.alloc hwz _).drew).grown hgrow (by simp; omega) (fun _ hk => (HO2.out.lt _ hk).1)⟩
        case measure => simp [intOf]; omega
      · have HG : Hid (((gr i : Nat) : Int) = 3) := by show _ = _; rw [hg]; rfl
        have HSU : Hid (mkR (i + 1) (sgF p c_reversal x) = mkR i (sgF p c_reversal x) ++ [Z]) := by show _ = _; rw [mkR_succ, sgF_minus (by rw [hg]; decide), hZ, hy]
        clear hg hy hZ
        go_wp2_with (first | (go_at_call 120; (with_reducible refine (l04Grade_any i (by omega) _).mono ?_); rintro e w3 ⟨rfl, rfl⟩; rw [HG.out]))
        go_region_held3 (fun w' => w'.cell? ⟨w.heap.size, 0, none⟩ = some (.int .i64 p) ∧ w'.cell? ⟨b1, o1 + i, none⟩ = some (.int .i64 y)) (first | go_keep | (go_split_ands; refine ⟨?_, ?_⟩; (rw [hgrow.cell_far _ (by simp; omega) (Ne.symm n0)]; assumption); (rw [hgrow.cell_far _ (by simp; omega) (Ne.symm n1)]; assumption))) (go_loud (refine step_append_lies _ (by rfl) _ _ _ (by rfl) w1.heap.size 2 i0 _ 1 8 Try.underlying22 hi hz0 hz1 hz2 rfl (by omega) u9 i X (by rfl) ((HO2.out.alloc _).drew) ⟨wr.heap.size, 0, none⟩ 1 1 [.int .i64 Z] (by rfl) (by rfl) (World.news_of_block (cs := #[.int .i64 Z]) (t := 2) (fr := (0, 0)) (heap_alloc_new wr _)) (by simp [Value.oneCell']) (by omega) (by unfold maxLen; omega) (by omega) (by simp; omega) (wr.heap.size + 1) (by simp) ?_; intro gg cap w4 hown1 hgrow hat hlt1))
        clear e1 e2
        go_wp2
        go_roundw
        case rel => exact ⟨i + 1, by omega, by go_num, OutR.step HO2.out HX.out HSU.out hown1, (hgrow.cell_far ⟨w.heap.size, 0, none⟩ (by simp; omega) (Ne.symm n0)).trans (ca0 hk), ((HB.out.alloc hwz _).drew).grown hgrow (by simp; omega) (fun _ hk => (HO2.out.lt _ hk).1)⟩
        case measure => simp [intOf]; omega
      · have HG : Hid (((gr i : Nat) : Int) = 4) := by show _ = _; rw [hg]; rfl
        have HSU : Hid (mkR (i + 1) (sgF p c_reversal x) = mkR i (sgF p c_reversal x) ++ [y]) := by show _ = _; rw [mkR_succ, sgF_plus (by rw [hg]; decide), hy]
        clear hg hy hZ
        go_wp2_with (first | (go_at_call 120; (with_reducible refine (l04Grade_any i (by omega) _).mono ?_); rintro e w3 ⟨rfl, rfl⟩; rw [HG.out]) | (at_builtin; refine wpList_append_lies _ rfl _ _ 22 rfl w1.heap.size 2 i0 (.int .i64 0) 1 8 Try.underlying22 hi hz0 hz1 hz2 rfl (by decide) u9 i X rfl (HO2.out.alloc _) ⟨wr.heap.size, 0, none⟩ 1 1 [.int .i64 y] rfl rfl (World.news_of_block (cs := #[.int .i64 y]) (t := 2) (fr := (0, 0)) (heap_alloc_new wr _)) (by simp [Value.oneCell']) (by omega) (by unfold maxLen; omega) (by omega) (by simp; omega) (wr.heap.size + 1) (by simp) ?_; intro gg cap w1 hown1 hgrow hat hlt1))
        clear e1 e2
        go_wp2
        go_roundw
        case rel => exact ⟨i + 1, by omega, by go_num, OutR.step HO2.out HX.out HSU.out hown1, (hgrow.cell_far ⟨w.heap.size, 0, none⟩ (by simp; omega) (Ne.symm n0)).trans (ca0 hk), (HB.out.alloc hwz _).grown hgrow (by simp; omega) (fun _ hk => (HO2.out.lt _ hk).1)⟩
        case measure => simp [intOf]; omega
      · have HG : Hid (((gr i : Nat) : Int) = 5) := by show _ = _; rw [hg]; rfl
        have HSU : Hid (mkR (i + 1) (sgF p c_reversal x) = mkR i (sgF p c_reversal x) ++ [y]) := by show _ = _; rw [mkR_succ, sgF_plus (by rw [hg]; decide), hy]
        clear hg hy hZ
        go_wp2_with (first | (go_at_call 120; (with_reducible refine (l04Grade_any i (by omega) _).mono ?_); rintro e w3 ⟨rfl, rfl⟩; rw [HG.out]) | (at_builtin; refine wpList_append_lies _ rfl _ _ 22 rfl w1.heap.size 2 i0 (.int .i64 0) 1 8 Try.underlying22 hi hz0 hz1 hz2 rfl (by decide) u9 i X rfl (HO2.out.alloc _) ⟨wr.heap.size, 0, none⟩ 1 1 [.int .i64 y] rfl rfl (World.news_of_block (cs := #[.int .i64 y]) (t := 2) (fr := (0, 0)) (heap_alloc_new wr _)) (by simp [Value.oneCell']) (by omega) (by unfold maxLen; omega) (by omega) (by simp; omega) (wr.heap.size + 1) (by simp) ?_; intro gg cap w1 hown1 hgrow hat hlt1))
        clear e1 e2
        go_wp2
        go_roundw
        case rel => exact ⟨i + 1, by omega, by go_num, OutR.step HO2.out HX.out HSU.out hown1, (hgrow.cell_far ⟨w.heap.size, 0, none⟩ (by simp; omega) (Ne.symm n0)).trans (ca0 hk), (HB.out.alloc hwz _).grown hgrow (by simp; omega) (fun _ hk => (HO2.out.lt _ hk).1)⟩
        case measure => simp [intOf]; omega
      · have HG : Hid (((gr i : Nat) : Int) = 6) := by show _ = _; rw [hg]; rfl
        have HSU : Hid (mkR (i + 1) (sgF p c_reversal x) = mkR i (sgF p c_reversal x) ++ [Z]) := by show _ = _; rw [mkR_succ, sgF_minus (by rw [hg]; decide), hZ, hy]
        clear hg hy hZ
        go_wp2_with (first | (go_at_call 120; (with_reducible refine (l04Grade_any i (by omega) _).mono ?_); rintro e w3 ⟨rfl, rfl⟩; rw [HG.out]))
        go_region_held3 (fun w' => w'.cell? ⟨w.heap.size, 0, none⟩ = some (.int .i64 p) ∧ w'.cell? ⟨b1, o1 + i, none⟩ = some (.int .i64 y)) (first | go_keep | (go_split_ands; refine ⟨?_, ?_⟩; (rw [hgrow.cell_far _ (by simp; omega) (Ne.symm n0)]; assumption); (rw [hgrow.cell_far _ (by simp; omega) (Ne.symm n1)]; assumption))) (go_loud (refine step_append_lies _ (by rfl) _ _ _ (by rfl) w1.heap.size 2 i0 _ 1 8 Try.underlying22 hi hz0 hz1 hz2 rfl (by omega) u9 i X (by rfl) ((HO2.out.alloc _).drew) ⟨wr.heap.size, 0, none⟩ 1 1 [.int .i64 Z] (by rfl) (by rfl) (World.news_of_block (cs := #[.int .i64 Z]) (t := 2) (fr := (0, 0)) (heap_alloc_new wr _)) (by simp [Value.oneCell']) (by omega) (by unfold maxLen; omega) (by omega) (by simp; omega) (wr.heap.size + 1) (by simp) ?_; intro gg cap w4 hown1 hgrow hat hlt1))
        clear e1 e2
        go_wp2
        go_roundw
        case rel => exact ⟨i + 1, by omega, by go_num, OutR.step HO2.out HX.out HSU.out hown1, (hgrow.cell_far ⟨w.heap.size, 0, none⟩ (by simp; omega) (Ne.symm n0)).trans (ca0 hk), ((HB.out.alloc hwz _).drew).grown hgrow (by simp; omega) (fun _ hk => (HO2.out.lt _ hk).1)⟩
        case measure => simp [intOf]; omega
    · have hn : i = x.length := by omega
      subst hn
      obtain ⟨a8, c8, e8, ht8⟩ := HO.out.tag
      rw [mkR_len] at e8
      subst e8
      have HT8 := Lib.hid ht8
      clear ht8
      go_wp2
      go_ret
      exact ⟨a8, c8, by rw [mkR_len]; rfl, HT8.out.row.mono (by omega) (Nat.le_refl _), HB0.out.trans (HB.out.mono (by omega))⟩

set_option maxHeartbeats 1600000 in
theorem l04Reverse_any (p : Int) (aS : Option Addr) (S : List Int) (cS : Nat) (ax : Option Addr) (x : List Int) (cx lox tpx : Nat) (w : World) (hp : prm p = true) (hx : RowIn lox tpx w ax x) (tx : tpx ≤ w.heap.size) (sx : x.length ≤ 64) (nx : Nums p x) :
    Calls Try.prog 90 #[.agg #[.int .i64 p, .slice aS S.length cS], .slice ax x.length cx] w (SRow (mkR x.length (sgF p c_reversal x)) w) := by
  have Hx := Lib.hid hx
  clear hx
  go_enter Try.func90, Try.ntmps90
  go_wp2_with (first | (go_at_call 121; go_loud ((with_reducible refine (l04Signs_reversal p aS S cS ax x cx lox tpx _ hp (Hx.out.below ((Below.refl _ _).alloc (Nat.le_refl _) (.cells #[.int .i64 p, .slice aS S.length cS] 28)) tx) (Nat.le_trans tx (((Below.refl _ _).alloc (Nat.le_refl _) (.cells #[.int .i64 p, .slice aS S.length cS] 28))).size) sx nx).mono ?_); rintro e w2 ⟨r2, c2, rfl, o2, b2⟩; have B2 := Lib.hid b2; have K2_0_0 := (b2.cell (p := ⟨w.heap.size, 0, none⟩) (Nat.lt_of_lt_of_le (show w.heap.size < (w.alloc (.cells #[.int .i64 p, .slice aS S.length cS] 28)).heap.size by simp) (Nat.le_refl _))).trans (show (w.alloc (.cells #[.int .i64 p, .slice aS S.length cS] 28)).cell? ⟨w.heap.size, 0, none⟩ = some (.int .i64 p) by simp [go_sem]); have K2_0_1 := (b2.cell (p := ⟨w.heap.size, 1, none⟩) (Nat.lt_of_lt_of_le (show w.heap.size < (w.alloc (.cells #[.int .i64 p, .slice aS S.length cS] 28)).heap.size by simp) (Nat.le_refl _))).trans (show (w.alloc (.cells #[.int .i64 p, .slice aS S.length cS] 28)).cell? ⟨w.heap.size, 1, none⟩ = some (.slice aS S.length cS) by simp [go_sem]); have O2 := Lib.hid o2; clear o2; clear b2)))
  go_ret
  exact ⟨_, _, rfl, O2.out.mono (show w.heap.size ≤ (w.alloc (.cells #[.int .i64 p, .slice aS S.length cS] 28)).heap.size from (((Below.refl _ _).alloc (Nat.le_refl _) (.cells #[.int .i64 p, .slice aS S.length cS] 28))).size) (Nat.le_refl _), (below_step ((Below.refl _ _).alloc (Nat.le_refl _) (.cells #[.int .i64 p, .slice aS S.length cS] 28)) (show w.heap.size ≤ (w.alloc (.cells #[.int .i64 p, .slice aS S.length cS] 28)).heap.size from (((Below.refl _ _).alloc (Nat.le_refl _) (.cells #[.int .i64 p, .slice aS S.length cS] 28))).size) B2.out)⟩

end Go.Proofs.Ytcmedhkamjclmaa

namespace Go.Proofs.Ytcmedhkamjclmaa
open Go.RowKit
set_option linter.unusedVariables false

def disN (p : Int) (S : List Int) : Nat → Int
  | 0 => 1
  | i + 1 => disN p S i * S.getD i 0 % p
def discN (p : Int) (S : List Int) : Int := disN p S S.length
theorem disN_bd {p : Int} (hp : prm p = true) (S : List Int) (i : Nat) : 0 ≤ disN p S i ∧ disN p S i < p := by
  have := prm_bd hp
  cases i with
  | zero => show 0 ≤ (1 : Int) ∧ (1 : Int) < p; omega
  | succ i => exact mod_bd hp _
theorem discN_bd {p : Int} (hp : prm p = true) (S : List Int) : 0 ≤ discN p S ∧ discN p S < p := disN_bd hp S _

set_option maxRecDepth 100000 in
set_option maxHeartbeats 3200000 in
theorem l03Disc_any (p : Int) (aS : Option Addr) (S : List Int) (cS loS tpS : Nat) (w : World)
    (hS : RowIn loS tpS w aS S) (tS : tpS ≤ w.heap.size) (hs : isSp p S = true) :
    Calls Try.prog 104 #[.agg #[.int .i64 p, .slice aS S.length cS]] w fun e w' => e = .returned (.int .i64 (discN p S)) ∧ Below w.heap.size w w' := by
  have K := isSp_iff.1 hs
  have hpb := prm_bd K.prime
  have hS6 := K.hi
  have HS := Lib.hid hS
  have HK := Lib.hid K
  obtain ⟨n, hn⟩ : ∃ n, n = S.length := ⟨_, rfl⟩
  rw [← hn] at hS6
  have HN := Lib.hid hn
  have hn1 : S.length ≤ n ∧ n ≤ S.length := by omega
  rw [← hn]
  clear hS hs K hn
  go_enter Try.func104, Try.ntmps104
  go_wp2
  go_loopw [3, 4] (fun s t wr => ∃ i : Nat, i ≤ n ∧ s = .int .i64 (disN p S i) ∧ t = .int .i64 i ∧ Quiet (w.alloc (.cells #[.int .i64 p, .slice aS n cS] 28)) wr) (fun _ t _ => n - (intOf t).toNat)
  case atStart => exact ⟨0, Nat.zero_le _, rfl, rfl, Quiet.refl _⟩
  case round =>
    obtain ⟨i, hi, rfl, rfl, hq⟩ := hrel
    have HQ := Lib.hid hq
    have hb0 := (hq.cell ⟨w.heap.size, 0, none⟩).trans (nw0 w _ _ _)
    have hb1 := (hq.cell ⟨w.heap.size, 1, none⟩).trans (nw1 w _ _ _)
    have hqb := (below_alloc w (.cells #[.int .i64 p, .slice aS n cS] 28)).trans (hq.below _)
    by_cases hlt : i < n
    · obtain ⟨bs, os, ha1, _, _, cs⟩ := (HS.out.below hqb tS).num (by omega : i < S.length)
      subst ha1
      obtain ⟨z0, z1⟩ := HK.out.num (by omega : i < S.length)
      obtain ⟨q0, q1⟩ := disN_bd HK.out.prime S i
      have HST : Hid (∀ s z : Int, s = disN p S i → z = S.getD i 0 → s * z % p = disN p S (i + 1)) := by
        intro s z e1 e2
        subst e1 e2
        rfl
      obtain ⟨s, hs⟩ : ∃ s, s = disN p S i := ⟨_, rfl⟩
      obtain ⟨z, hz⟩ : ∃ z, z = S.getD i 0 := ⟨_, rfl⟩
      have HE := Lib.hid (HST.out s z hs hz)
      rw [← hs] at q0 q1
      rw [← hz] at cs z0 z1
      rw [← hs]
      clear hs hz HST hq hqb
      obtain ⟨p1, p2, _, _⟩ := prod3 hpb.2 q0 q1 z0 z1 z0 z1
      have e1 : IntKind.i64.wrap (s * z) = s * z := IntWalk.i64_in _ (by omega)
      have e2 : (s * z).tmod p = s * z % p := Int.tmod_eq_emod_of_nonneg p1
      have hp0 : ¬ p = 0 := by omega
      have hp1 : (p == 0) = false := by simpa using hp0
      have hi1 : (i : Int) < (n : Int) := by omega
      go_wp2
      go_quiet (fail)
      clear e1 e2
      go_wp2
      go_roundw
      case rel => exact ⟨i + 1, by omega, by rw [HE.out], by go_num, HQ.out.next _⟩
      case measure => simp [intOf]; omega
    · have hin : i = n := by omega
      subst hin
      have HE : Hid (disN p S i = discN p S) := by show _ = _; unfold discN; rw [HN.out]
      rw [HE.out]
      clear hq hqb
      go_wp2
      go_ret
      exact ⟨rfl, (below_alloc w _).trans (HQ.out.below _)⟩

end Go.Proofs.Ytcmedhkamjclmaa

namespace Go.Proofs.Ytcmedhkamjclmaa
open Go.RowKit
set_option linter.unusedVariables false

theorem l01Inv_any (p a : Int) (w : World) (hp : prm p = true) (a0 : 1 ≤ a) (a1 : a < p) :
    Calls Try.prog 105 #[.int .i64 p, .int .i64 a] w fun e w' => e = .returned (.int .i64 (inv p a)) ∧ w = w' := by
  have hb := prm_bd hp
  obtain ⟨v0, v1⟩ := inv_bd hp a
  have v2 := inv_pos hp a0 a1
  have HP := Lib.hid hp
  clear hp
  go_enter Try.func105, Try.ntmps105
  go_wp2
  go_loop [5] (fun t => ∃ b : Int, 1 ≤ b ∧ b ≤ inv p a ∧ t = .int .i64 b) (fun t => (inv p a - intOf t).toNat)
  case atStart => exact ⟨1, by omega, by omega, rfl⟩
  case round =>
    obtain ⟨b, b0, b1, rfl⟩ := hrel
    obtain ⟨m0, m1⟩ := mul_bd (a := a) (b := b) HP.out (by omega) (by omega) (by omega) (by omega)
    obtain ⟨q0, q1⟩ := mod_bd HP.out (a * b)
    have hi := inv_iff (a := a) HP.out a0 a1 b0 b1
    by_cases hq : b = inv p a
    · have ht := hi.2 hq
      have HQ := Lib.hid hq
      clear hi hq
      go_wp2
      go_ret
      exact ⟨by rw [← HQ.out]; rfl, rfl⟩
    · have ht : ¬ a * b % p = 1 := fun h => hq (hi.1 h)
      clear hi
      go_wp2
      go_round
      case rel => exact ⟨b + 1, by omega, by omega, rfl⟩
      case measure => simp [intOf]; omega

set_option maxHeartbeats 800000 in
theorem power_pos (p a : Int) (m : Nat) (w : World) (hp : prm p = true) (a0 : 0 ≤ a) (a1 : a < p) (hm : m ≤ 1000000) :
    Calls Try.prog 125 #[.agg #[.int .i64 p, .int .i64 a], .int .i64 m] w fun e w' => e = .returned (.agg #[.int .i64 p, .int .i64 (pw p a m)]) ∧ Below w.heap.size w w' := by
  have HP := Lib.hid hp
  have hb := prm_bd hp
  clear hp
  go_enter Try.func125, Try.ntmps125
  go_wp2
  go_loopw [17] (fun t wr => ∃ j : Nat, j ≤ m ∧ t = .int .i64 j ∧ NumAt wr (w.heap.size + 1 + 1) p (pw p a j) ∧ NumAt wr w.heap.size p a ∧ NumAt wr (w.heap.size + 1) 0 0 ∧ Below w.heap.size w wr ∧ w.heap.size + 3 ≤ wr.heap.size) (fun t _ => m - (intOf t).toNat)
  case atStart =>
    refine ⟨0, Nat.zero_le _, rfl, ?_, ?_, ?_, by ((repeat' (first | with_reducible exact Below.refl _ _ | (with_reducible refine Below.setCell ?_ ?_ _) | (with_reducible refine Below.alloc ?_ ?_ _) | (with_reducible refine Below.drew ?_))); all_goals (first | (simp; done) | omega | (simp; omega))), by simp⟩
    · exact (by simpa [pw] using numAt_new ((w.alloc (Obj.cells #[.int .i64 p, .int .i64 a] _)).alloc (Obj.cells #[.int .i64 0, .int .i64 0] _)) p 1 _)
    · exact ((numAt_new w p a _).alloc (by simp) _).alloc (by simp; omega) _
    · exact NumAt.alloc (by simpa using numAt_new (w.alloc (Obj.cells #[.int .i64 p, .int .i64 a] _)) 0 0 _) (by simp) _
  case round =>
    obtain ⟨j, hj, rfl, n2, n0, n1, hbel, hz⟩ := hrel
    obtain ⟨q0, q1⟩ := pw_bd (a := a) HP.out j
    obtain ⟨g20, g21, k20, k21⟩ := n2
    obtain ⟨g00, g01, k00, k01⟩ := n0
    by_cases hlt : j < m
    · go_wp2_with (go_at_call 144; refine (times_any p (pw p a j) a _ HP.out q0 q1 a0 a1).mono ?_; rintro e w1 ⟨rfl, hb1⟩; have n2' := NumAt.keep (b := w.heap.size + 1 + 1) ⟨g20, g21, k20, k21⟩ hb1 (by omega); obtain ⟨e20, e21, h20, h21⟩ := n2')
      go_roundw
      case rel =>
        have hs1 := hb1.size
        have n2' : NumAt w1 (w.heap.size + 1 + 1) p (pw p a j) := ⟨e20, e21, h20, h21⟩
        refine ⟨j + 1, by omega, by go_num, n2'.set p _, ((NumAt.keep (b := w.heap.size) ⟨g00, g01, k00, k01⟩ hb1 (by omega)).far (by omega) _ _).far (by omega) _ _, ((n1.keep hb1 (by omega)).far (by omega) _ _).far (by omega) _ _, by (have hs_hb1 := hb1.size; have hs_hbel := hbel.size; (repeat' (first | with_reducible exact Below.refl _ _ | (with_reducible refine Below.setCell ?_ ?_ _) | (with_reducible refine Below.alloc ?_ ?_ _) | (with_reducible refine Below.drew ?_) | (with_reducible refine below_step ?_ ?_ hb1) | (with_reducible refine below_step ?_ ?_ hbel))); all_goals (first | (simp; done) | omega | (simp; omega) | (simp at hs_hb1 hs_hbel ⊢; omega))), by simp; omega⟩
      case measure => simp [intOf]; omega
    · have hjm : Hid (j = m) := by show j = m; omega
      obtain ⟨g10, g11, k10, k11⟩ := n1
      go_wp2
      refine bodyPost_ret (v := .agg #[.int .i64 p, .int .i64 (pw p a j)]) (by simp [results, Try.results125, go_sem, g10, g11]) rfl ⟨by rw [hjm.out], ?_⟩
      (have hs_hbel := hbel.size; (repeat' (first | with_reducible exact Below.refl _ _ | (with_reducible refine Below.setCell ?_ ?_ _) | (with_reducible refine Below.alloc ?_ ?_ _) | (with_reducible refine Below.drew ?_) | (with_reducible refine below_step ?_ ?_ hbel))); all_goals (first | (simp; done) | omega | (simp; omega) | (simp at hs_hbel ⊢; omega)))

end Go.Proofs.Ytcmedhkamjclmaa

namespace Go.Proofs.Ytcmedhkamjclmaa
open Go.RowKit
set_option linter.unusedVariables false

theorem power_any (p a : Int) (k : Int) (w : World) (hp : prm p = true) (a0 : 0 ≤ a) (a1 : a < p) (k0 : 0 ≤ k) (k1 : k ≤ 1000000) :
    Calls Try.prog 125 #[.agg #[.int .i64 p, .int .i64 a], .int .i64 k] w fun e w' => e = .returned (.agg #[.int .i64 p, .int .i64 (pw p a k.toNat)]) ∧ Below w.heap.size w w' := by
  have h := power_pos p a k.toNat w hp a0 a1 (by omega)
  rwa [Int.toNat_of_nonneg k0] at h

set_option maxHeartbeats 400000 in
theorem inverse_any (p a : Int) (w : World) (hp : prm p = true) (a0 : 0 ≤ a) (a1 : a < p) :
    Calls Try.prog 108 #[.agg #[.int .i64 p, .int .i64 a]] w fun e w' => e = .returned (.agg #[.int .i64 p, .int .i64 (inv p a)]) ∧ Below w.heap.size w w' := by
  have HP := Lib.hid hp
  have hb := prm_bd hp
  clear hp
  go_enter Try.func108, Try.ntmps108
  go_wp2_with (go_at_call 125; refine (power_any p a (p - 2) _ HP.out a0 a1 (by omega) (by omega)).mono ?_; rintro e w1 ⟨rfl, hb1⟩; obtain ⟨hc, hf⟩ := bcell hb1)
  refine bodyPost_ret (v := .agg #[.int .i64 p, .int .i64 (inv p a)]) (by simp [results, Try.results108, go_sem, hc, inv]) rfl ⟨rfl, ?_⟩
  (have hs_hb1 := hb1.size; (repeat' (first | with_reducible exact Below.refl _ _ | (with_reducible refine Below.setCell ?_ ?_ _) | (with_reducible refine Below.alloc ?_ ?_ _) | (with_reducible refine Below.drew ?_) | (with_reducible refine below_step ?_ ?_ hb1))); all_goals (first | (simp; done) | omega | (simp; omega) | (simp at hs_hb1 ⊢; omega)))

end Go.Proofs.Ytcmedhkamjclmaa

namespace Go.Proofs.Ytcmedhkamjclmaa
open Go.RowKit
set_option linter.unusedVariables false

def topF (S : List Int) (k : Int) : Nat → Int := fun j => if j = bl S - 1 then k else 0
/-- A number times the pseudoscalar. -/
def topM (S : List Int) (k : Int) : List Int := mkR (bl S) (topF S k)
theorem topM_len (S : List Int) (k : Int) : (topM S k).length = bl S := mkR_len _ _
theorem topM_at (S : List Int) (k : Int) {j : Nat} (h : j < bl S) : (topM S k).getD j 0 = topF S k j := mkR_at _ h
theorem top_mv {p : Int} {S : List Int} (hs : isSp p S = true) {k : Int} (h0 : 0 ≤ k) (h1 : k < p) : isMv p S (topM S k) = true :=
  isMv_of (topM_len S k) fun j hj => by
    have hp := prm_bd (isSp_iff.1 hs).prime
    rw [topM_len] at hj
    rw [topM_at S k hj]
    unfold topF
    split <;> omega
/-- The square of the pseudoscalar. -/
def sqT (p : Int) (S : List Int) : Int := fm p S (bl S - 1) (bl S - 1) S.length
theorem sqT_bd {p : Int} {S : List Int} (hs : isSp p S = true) : 0 ≤ sqT p S ∧ sqT p S < p := fm_bd (by have := prm_bd (isSp_iff.1 hs).prime; omega) _ _ _ _
theorem top_last (S : List Int) : bl S - 1 < bl S := by have := bl_pos S; omega
theorem sq_prod {p : Int} {S : List Int} (hs : isSp p S = true) : prodF p S (topM S 1) (topM S 1) 0 = sqT p S := by
  have hp := prm_bd (isSp_iff.1 hs).prime
  rw [← tm_sum]
  have h : ∀ a, a < bl S → tm p S (topM S 1) (topM S 1) 0 a = if a = bl S - 1 then sqT p S else 0 := fun a ha => by
    unfold tm
    rw [Nat.xor_zero, topM_at S 1 ha]
    unfold topF
    by_cases e : a = bl S - 1
    · subst e; rw [if_pos rfl, if_pos rfl, Int.one_mul, Int.mul_one]; rfl
    · rw [if_neg e, if_neg e, Int.mul_zero]
  rw [sm_congr h, sm_single, if_pos (top_last S)]
  exact Int.emod_eq_of_lt (sqT_bd hs).1 (sqT_bd hs).2
theorem whole_bit {n i : Nat} (h : i < n) : (2 ^ n - 1) / 2 ^ i % 2 = 1 := by
  rw [← Nat.toNat_testBit, Nat.testBit_two_pow_sub_one, decide_eq_true h]; rfl
theorem sq_zero {p a : Int} (hp : prm p = true) (h0 : 0 ≤ a) (h1 : a < p) (h : a * a % p = 0) : a = 0 := by
  have k := every_at (Q := fun p a => !(decide (a * a % p = 0)) || decide (a = 0)) (by decide +kernel) hp h0 h1
  simpa [h] using k
theorem sq_pos {p : Int} {S : List Int} (hs : isSp p S = true) (hd : discN p S ≠ 0) : 1 ≤ sqT p S := by
  have hp := (isSp_iff.1 hs).prime
  have hpb := prm_bd hp
  have hb := sqT_bd hs
  have hdb := discN_bd hp S
  by_cases h0 : sqT p S = 0
  · exfalso
    apply hd
    have key : ∀ k, k ≤ S.length → fz S (bl S - 1) (bl S - 1) k * fz S (bl S - 1) (bl S - 1) k % p = disN p S k * disN p S k % p := fun k => by
      induction k with
      | zero => intro _; rfl
      | succ k ih =>
        intro h
        have hb : (bl S - 1) / 2 ^ k % 2 = 1 := whole_bit (n := S.length) (by omega)
        have e := eps_sq (gr ((bl S - 1) / 2 ^ (k + 1)))
        show fz S (bl S - 1) (bl S - 1) k * gi S (bl S - 1) (bl S - 1) k * (fz S (bl S - 1) (bl S - 1) k * gi S (bl S - 1) (bl S - 1) k) % p = (disN p S k * S.getD k 0 % p) * (disN p S k * S.getD k 0 % p) % p
        rw [em_l, em_r]
        unfold gi
        rw [if_pos hb, if_pos hb]
        generalize eps (gr ((bl S - 1) / 2 ^ (k + 1))) = u at e
        generalize hf : fz S (bl S - 1) (bl S - 1) k = f at *
        generalize S.getD k 0 = s
        have e1 : f * (u * s) * (f * (u * s)) = f * f * (s * s) := by
          calc f * (u * s) * (f * (u * s)) = f * f * (u * u) * (s * s) := by ac_rfl
            _ = f * f * (s * s) := by rw [e, Int.mul_one]
        have e2 : disN p S k * s * (disN p S k * s) = disN p S k * disN p S k * (s * s) := by ac_rfl
        rw [e1, e2, ← em_l, ih (by omega), em_l]
    have h2 : sqT p S * sqT p S % p = discN p S * discN p S % p := by
      unfold sqT fm
      rw [em_l, em_r]
      exact key S.length (Nat.le_refl _)
    rw [h0, Int.mul_zero, Int.zero_emod] at h2
    exact sq_zero hp hdb.1 hdb.2 h2.symm
  · omega
def invT (p : Int) (S : List Int) : Int := inv p (sqT p S)
theorem invT_bd {p : Int} {S : List Int} (hs : isSp p S = true) : 0 ≤ invT p S ∧ invT p S < p := inv_bd (isSp_iff.1 hs).prime _
def dualM (p : Int) (S x : List Int) : List Int := lcM p S x (topM S (invT p S))
def undM (p : Int) (S x : List Int) : List Int := lcM p S x (topM S 1)
def meetM (p : Int) (S x y : List Int) : List Int := undM p S (wgM p S (dualM p S x) (dualM p S y))
def revM (p : Int) (x : List Int) : List Int := mkR x.length (sgF p c_reversal x)
theorem rev_mv {p : Int} {S x : List Int} (hs : isSp p S = true) (h : isMv p S x = true) : isMv p S (revM p x) = true :=
  isMv_of (by unfold revM; rw [mkR_len]; exact Mv.len h) fun j hj => by
    have hp := prm_bd (isSp_iff.1 hs).prime
    unfold revM at hj ⊢
    rw [mkR_len] at hj
    rw [mkR_at _ hj]
    unfold sgF
    have hx := Mv.num h j hj
    split
    · exact ⟨Int.emod_nonneg _ (by omega), Int.emod_lt_of_pos _ (by omega)⟩
    · exact hx
def scalT (p : Int) (S x y : List Int) : Int := prodF p S (revM p x) y 0
theorem dual_mv {p : Int} {S : List Int} (hs : isSp p S = true) (x : List Int) : isMv p S (dualM p S x) = true := kind_mv hs _ _ _
theorem wg_mv {p : Int} {S : List Int} (hs : isSp p S = true) (x y : List Int) : isMv p S (wgM p S x y) = true := kind_mv hs _ _ _
theorem ss2w {b o n : Nat} {w w' : World} (h : Wrote b o n w w') {g : Nat} {u0 u1 : Value} (l : g ≠ b) (h0 : w.cell? ⟨g, 0, none⟩ = some u0 ∧ w.cell? ⟨g, 1, none⟩ = some u1) : w'.cell? ⟨g, 0, none⟩ = some u0 ∧ w'.cell? ⟨g, 1, none⟩ = some u1 :=
  ⟨(World.cell?_of_block (w := w) (a := ⟨g, 0, none⟩) (h.block g l)).trans h0.1, (World.cell?_of_block (w := w) (a := ⟨g, 1, none⟩) (h.block g l)).trans h0.2⟩

end Go.Proofs.Ytcmedhkamjclmaa
