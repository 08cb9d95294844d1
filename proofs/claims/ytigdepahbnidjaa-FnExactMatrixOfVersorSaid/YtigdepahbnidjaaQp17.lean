/-
  ReverseOf, InvoluteOf and ConjugateOf: contracts of the program and of the model.
  Conditions: the lists are nil or rows of known cells, of at most 1048576 numbers.
-/
import Derived.Test.YtigdepahbnidjaaQp16
import Derived.Deep.AppendLies
import Derived.StillTailTactics
namespace Go.Proofs.Ytigdepahbnidjaa
open Go.RowKit
set_option linter.unusedVariables false

/-- A list is handed back by the model. -/
def SRow (R : List Int) (w : World) (e : Ending) (w' : World) : Prop := ∃ r k, e = .returned (.slice r R.length k) ∧ RowIn w.heap.size w'.heap.size w' r R ∧ Below w.heap.size w w'
theorem sgF_plus {p : Int} {c : Nat → Nat} {x : List Int} {i : Nat} (h : c (gr i) % 2 = 0) : sgF p c x i = x.getD i 0 := by unfold sgF; rw [if_neg (by omega)]
theorem sgF_minus {p : Int} {c : Nat → Nat} {x : List Int} {i : Nat} (h : c (gr i) % 2 = 1) : sgF p c x i = (p - x.getD i 0) % p := by unfold sgF; rw [if_pos h]

set_option maxRecDepth 100000 in
set_option maxHeartbeats 6400000 in
theorem l04Signs_reversal (p : Int) (aS : Option Addr) (S : List Int) (cS : Nat) (ax : Option Addr) (x : List Int) (cx lox tpx : Nat) (w : World) (hp : prm p = true) (hx : RowIn lox tpx w ax x) (tx : tpx ≤ w.heap.size) (sx : x.length ≤ 64) (nx : Nums p x) :
    Calls Try.prog 169 #[.agg #[.int .i64 p, .slice aS S.length cS], .slice ax x.length cx, .bool true, .bool false] w (SRow (mkR x.length (sgF p c_reversal x)) w) := by
  obtain ⟨i0, hi, hz0, hz1, hz2⟩ := info_parts info64
  have hpb := prm_bd hp
  have Hx := Lib.hid hx
  have HNX := Lib.hid nx
  have HB0 := Lib.hid (below_alloc w (.cells #[.int .i64 p, .slice aS S.length cS] 30))
  have k0 := nw0 w (.int .i64 p) (.slice aS S.length cS) 30
  clear hx hp nx
  go_enter Try.func169, Try.ntmps169
  go_upto_region 1 with fail
  obtain ⟨w1, hw1⟩ : ∃ z, z = w.alloc (.cells #[.int .i64 p, .slice aS S.length cS] 30) := ⟨_, rfl⟩
  rw [← hw1] at HB0 k0
  rw [← hw1]
  have hw0 : w.heap.size < w1.heap.size := by rw [hw1]; simp
  clear hw1
  go_wp2
  go_loopw [9, 10] (fun v t wr => ∃ i : Nat, i ≤ x.length ∧ t = .int .i64 i ∧ OutR w1.heap.size wr v (mkR i (sgF p c_reversal x)) ∧ wr.cell? ⟨w.heap.size, 0, none⟩ = some (.int .i64 p) ∧ Below w1.heap.size w1 wr) (fun _ t _ => x.length - (intOf t).toNat)
  case atStart => exact ⟨0, Nat.zero_le _, rfl, OutR.start w1 _ _ (Nat.le_refl _) rfl, ca0 k0, below_alloc w1 _⟩
  case round =>
    obtain ⟨i, hi', rfl, ho, hk, hbel⟩ := hrel
    have HO := Lib.hid ho
    have HB := Lib.hid hbel
    have hwz := hbel.size
    clear ho hbel
    by_cases hlt : i < x.length
    · obtain ⟨b1, o1, ha1, _, hb1, hc1⟩ := ((Hx.out.below HB0.out tx).below HB.out (by omega)).num hlt
      subst ha1
      obtain ⟨x0, x1⟩ := HNX.out i hlt
      have hi1 : (i : Int) < (x.length : Int) := by omega
      obtain ⟨X, hX⟩ : ∃ X, X = (mkR i (sgF p c_reversal x)).map (Value.int .i64) := ⟨_, rfl⟩
      have HX := Lib.hid hX
      have HO2 : Hid (wr.ownsRow w1.heap.size 2 1 u9 i X) := by
        have := HO.out; unfold OutR at this; rw [mkR_len, ← hX] at this; exact this
      have n0 : u9.ownBlock ≠ some w.heap.size := fun e => by have := (HO2.out.lt _ e).1; omega
      have n1 : u9.ownBlock ≠ some b1 := fun e => by have := (HO2.out.lt _ e).1; omega
      have q0 : w.heap.size < wr.heap.size := by omega
      have lb1 : b1 < wr.heap.size := by omega
      obtain ⟨y, hy⟩ : ∃ y, y = x.getD i 0 := ⟨_, rfl⟩
      rw [← hy] at hc1 x0 x1
      have e1 : IntKind.i64.wrap (p - y) = p - y := IntWalk.i64_in _ (by omega)
      obtain ⟨Z, hZ⟩ : ∃ Z, Z = (p - y) % p := ⟨_, rfl⟩
      have e2 : (p - y).tmod p = Z := by rw [hZ]; exact Int.tmod_eq_emod_of_nonneg (by omega)
      have hp0 : ¬ p = 0 := by omega
      have hp1 : (p == 0) = false := by simpa using hp0
      have hg7 : gr i < 7 := by have := gr_le i; omega
      clear hX
      rcases seven hg7 with hg | hg | hg | hg | hg | hg | hg
      · have HG : Hid (((gr i : Nat) : Int) = 0) := by show _ = _; rw [hg]; rfl
        have HSU : Hid (mkR (i + 1) (sgF p c_reversal x) = mkR i (sgF p c_reversal x) ++ [y]) := by show _ = _; rw [mkR_succ, sgF_plus (by rw [hg]; decide), hy]
        clear hg hy hZ
        go_wp2_with (first | (go_at_call 173; (with_reducible refine (l04Grade_any i (by omega) _).mono ?_); rintro e w3 ⟨rfl, rfl⟩; rw [HG.out]) | (at_builtin; refine wpList_append_lies _ rfl _ _ 22 rfl w1.heap.size 2 i0 (.int .i64 0) 1 8 Try.underlying22 hi hz0 hz1 hz2 rfl (by decide) u9 i X rfl (HO2.out.alloc _) ⟨wr.heap.size, 0, none⟩ 1 1 [.int .i64 y] rfl rfl (World.news_of_block (cs := #[.int .i64 y]) (t := 2) (fr := (0, 0)) (heap_alloc_new wr _)) (by simp [Value.oneCell']) (by omega) (by unfold maxLen; omega) (by omega) (by simp; omega) (wr.heap.size + 1) (by simp) ?_; intro gg cap w1 hown1 hgrow hat hlt1))
        clear e1 e2
        go_wp2
        go_roundw
        case rel => exact ⟨i + 1, by omega, by go_num, OutR.step HO2.out HX.out HSU.out hown1, (hgrow.cell_far ⟨w.heap.size, 0, none⟩ (by simp; omega) (Ne.symm n0)).trans (ca0 hk), (HB.out.alloc hwz _).grown hgrow (by simp; omega) (fun _ hk => (HO2.out.lt _ hk).1)⟩
        case measure => simp [intOf]; omega
      · have HG : Hid (((gr i : Nat) : Int) = 1) := by show _ = _; rw [hg]; rfl
        have HSU : Hid (mkR (i + 1) (sgF p c_reversal x) = mkR i (sgF p c_reversal x) ++ [y]) := by show _ = _; rw [mkR_succ, sgF_plus (by rw [hg]; decide), hy]
        clear hg hy hZ
        go_wp2_with (first | (go_at_call 173; (with_reducible refine (l04Grade_any i (by omega) _).mono ?_); rintro e w3 ⟨rfl, rfl⟩; rw [HG.out]) | (at_builtin; refine wpList_append_lies _ rfl _ _ 22 rfl w1.heap.size 2 i0 (.int .i64 0) 1 8 Try.underlying22 hi hz0 hz1 hz2 rfl (by decide) u9 i X rfl (HO2.out.alloc _) ⟨wr.heap.size, 0, none⟩ 1 1 [.int .i64 y] rfl rfl (World.news_of_block (cs := #[.int .i64 y]) (t := 2) (fr := (0, 0)) (heap_alloc_new wr _)) (by simp [Value.oneCell']) (by omega) (by unfold maxLen; omega) (by omega) (by simp; omega) (wr.heap.size + 1) (by simp) ?_; intro gg cap w1 hown1 hgrow hat hlt1))
        clear e1 e2
        go_wp2
        go_roundw
        case rel => exact ⟨i + 1, by omega, by go_num, OutR.step HO2.out HX.out HSU.out hown1, (hgrow.cell_far ⟨w.heap.size, 0, none⟩ (by simp; omega) (Ne.symm n0)).trans (ca0 hk), (HB.out.alloc hwz _).grown hgrow (by simp; omega) (fun _ hk => (HO2.out.lt _ hk).1)⟩
        case measure => simp [intOf]; omega
      · have HG : Hid (((gr i : Nat) : Int) = 2) := by show _ = _; rw [hg]; rfl
        have HSU : Hid (mkR (i + 1) (sgF p c_reversal x) = mkR i (sgF p c_reversal x) ++ [Z]) := by show _ = _; rw [mkR_succ, sgF_minus (by rw [hg]; decide), hZ, hy]
        clear hg hy hZ
        go_wp2_with (first | (go_at_call 173; (with_reducible refine (l04Grade_any i (by omega) _).mono ?_); rintro e w3 ⟨rfl, rfl⟩; rw [HG.out]))
        go_region_held3 (fun w' => w'.cell? ⟨w.heap.size, 0, none⟩ = some (.int .i64 p) ∧ w'.cell? ⟨b1, o1 + i, none⟩ = some (.int .i64 y)) (first | go_keep | (go_split_ands; refine ⟨?_, ?_⟩; (rw [hgrow.cell_far _ (by simp; omega) (Ne.symm n0)]; assumption); (rw [hgrow.cell_far _ (by simp; omega) (Ne.symm n1)]; assumption))) ((refine step_append_lies _ (by rfl) _ _ _ (by rfl) w1.heap.size 2 i0 _ 1 8 Try.underlying22 hi hz0 hz1 hz2 rfl (by omega) u9 i X (by rfl) ((HO2.out.alloc _).drew) ⟨wr.heap.size, 0, none⟩ 1 1 [.int .i64 Z] (by rfl) (by rfl) (World.news_of_block (cs := #[.int .i64 Z]) (t := 2) (fr := (0, 0)) (heap_alloc_new wr _)) (by simp [Value.oneCell']) (by omega) (by unfold maxLen; omega) (by omega) (by simp; omega) (wr.heap.size + 1) (by simp) ?_; intro gg cap w4 hown1 hgrow hat hlt1))
        clear e1 e2
        go_wp2
        go_roundw
        case rel => exact ⟨i + 1, by omega, by go_num, OutR.step HO2.out HX.out HSU.out hown1, (hgrow.cell_far ⟨w.heap.size, 0, none⟩ (by simp; omega) (Ne.symm n0)).trans (ca0 hk), ((HB.out.alloc hwz _).drew).grown hgrow (by simp; omega) (fun _ hk => (HO2.out.lt _ hk).1)⟩
        case measure => simp [intOf]; omega
      · have HG : Hid (((gr i : Nat) : Int) = 3) := by show _ = _; rw [hg]; rfl
        have HSU : Hid (mkR (i + 1) (sgF p c_reversal x) = mkR i (sgF p c_reversal x) ++ [Z]) := by show _ = _; rw [mkR_succ, sgF_minus (by rw [hg]; decide), hZ, hy]
        clear hg hy hZ
        go_wp2_with (first | (go_at_call 173; (with_reducible refine (l04Grade_any i (by omega) _).mono ?_); rintro e w3 ⟨rfl, rfl⟩; rw [HG.out]))
        go_region_held3 (fun w' => w'.cell? ⟨w.heap.size, 0, none⟩ = some (.int .i64 p) ∧ w'.cell? ⟨b1, o1 + i, none⟩ = some (.int .i64 y)) (first | go_keep | (go_split_ands; refine ⟨?_, ?_⟩; (rw [hgrow.cell_far _ (by simp; omega) (Ne.symm n0)]; assumption); (rw [hgrow.cell_far _ (by simp; omega) (Ne.symm n1)]; assumption))) ((refine step_append_lies _ (by rfl) _ _ _ (by rfl) w1.heap.size 2 i0 _ 1 8 Try.underlying22 hi hz0 hz1 hz2 rfl (by omega) u9 i X (by rfl) ((HO2.out.alloc _).drew) ⟨wr.heap.size, 0, none⟩ 1 1 [.int .i64 Z] (by rfl) (by rfl) (World.news_of_block (cs := #[.int .i64 Z]) (t := 2) (fr := (0, 0)) (heap_alloc_new wr _)) (by simp [Value.oneCell']) (by omega) (by unfold maxLen; omega) (by omega) (by simp; omega) (wr.heap.size + 1) (by simp) ?_; intro gg cap w4 hown1 hgrow hat hlt1))
        clear e1 e2
        go_wp2
        go_roundw
        case rel => exact ⟨i + 1, by omega, by go_num, OutR.step HO2.out HX.out HSU.out hown1, (hgrow.cell_far ⟨w.heap.size, 0, none⟩ (by simp; omega) (Ne.symm n0)).trans (ca0 hk), ((HB.out.alloc hwz _).drew).grown hgrow (by simp; omega) (fun _ hk => (HO2.out.lt _ hk).1)⟩
        case measure => simp [intOf]; omega
      · have HG : Hid (((gr i : Nat) : Int) = 4) := by show _ = _; rw [hg]; rfl
        have HSU : Hid (mkR (i + 1) (sgF p c_reversal x) = mkR i (sgF p c_reversal x) ++ [y]) := by show _ = _; rw [mkR_succ, sgF_plus (by rw [hg]; decide), hy]
        clear hg hy hZ
        go_wp2_with (first | (go_at_call 173; (with_reducible refine (l04Grade_any i (by omega) _).mono ?_); rintro e w3 ⟨rfl, rfl⟩; rw [HG.out]) | (at_builtin; refine wpList_append_lies _ rfl _ _ 22 rfl w1.heap.size 2 i0 (.int .i64 0) 1 8 Try.underlying22 hi hz0 hz1 hz2 rfl (by decide) u9 i X rfl (HO2.out.alloc _) ⟨wr.heap.size, 0, none⟩ 1 1 [.int .i64 y] rfl rfl (World.news_of_block (cs := #[.int .i64 y]) (t := 2) (fr := (0, 0)) (heap_alloc_new wr _)) (by simp [Value.oneCell']) (by omega) (by unfold maxLen; omega) (by omega) (by simp; omega) (wr.heap.size + 1) (by simp) ?_; intro gg cap w1 hown1 hgrow hat hlt1))
        clear e1 e2
        go_wp2
        go_roundw
        case rel => exact ⟨i + 1, by omega, by go_num, OutR.step HO2.out HX.out HSU.out hown1, (hgrow.cell_far ⟨w.heap.size, 0, none⟩ (by simp; omega) (Ne.symm n0)).trans (ca0 hk), (HB.out.alloc hwz _).grown hgrow (by simp; omega) (fun _ hk => (HO2.out.lt _ hk).1)⟩
        case measure => simp [intOf]; omega
      · have HG : Hid (((gr i : Nat) : Int) = 5) := by show _ = _; rw [hg]; rfl
        have HSU : Hid (mkR (i + 1) (sgF p c_reversal x) = mkR i (sgF p c_reversal x) ++ [y]) := by show _ = _; rw [mkR_succ, sgF_plus (by rw [hg]; decide), hy]
        clear hg hy hZ
        go_wp2_with (first | (go_at_call 173; (with_reducible refine (l04Grade_any i (by omega) _).mono ?_); rintro e w3 ⟨rfl, rfl⟩; rw [HG.out]) | (at_builtin; refine wpList_append_lies _ rfl _ _ 22 rfl w1.heap.size 2 i0 (.int .i64 0) 1 8 Try.underlying22 hi hz0 hz1 hz2 rfl (by decide) u9 i X rfl (HO2.out.alloc _) ⟨wr.heap.size, 0, none⟩ 1 1 [.int .i64 y] rfl rfl (World.news_of_block (cs := #[.int .i64 y]) (t := 2) (fr := (0, 0)) (heap_alloc_new wr _)) (by simp [Value.oneCell']) (by omega) (by unfold maxLen; omega) (by omega) (by simp; omega) (wr.heap.size + 1) (by simp) ?_; intro gg cap w1 hown1 hgrow hat hlt1))
        clear e1 e2
        go_wp2
        go_roundw
        case rel => exact ⟨i + 1, by omega, by go_num, OutR.step HO2.out HX.out HSU.out hown1, (hgrow.cell_far ⟨w.heap.size, 0, none⟩ (by simp; omega) (Ne.symm n0)).trans (ca0 hk), (HB.out.alloc hwz _).grown hgrow (by simp; omega) (fun _ hk => (HO2.out.lt _ hk).1)⟩
        case measure => simp [intOf]; omega
      · have HG : Hid (((gr i : Nat) : Int) = 6) := by show _ = _; rw [hg]; rfl
        have HSU : Hid (mkR (i + 1) (sgF p c_reversal x) = mkR i (sgF p c_reversal x) ++ [Z]) := by show _ = _; rw [mkR_succ, sgF_minus (by rw [hg]; decide), hZ, hy]
        clear hg hy hZ
        go_wp2_with (first | (go_at_call 173; (with_reducible refine (l04Grade_any i (by omega) _).mono ?_); rintro e w3 ⟨rfl, rfl⟩; rw [HG.out]))
        go_region_held3 (fun w' => w'.cell? ⟨w.heap.size, 0, none⟩ = some (.int .i64 p) ∧ w'.cell? ⟨b1, o1 + i, none⟩ = some (.int .i64 y)) (first | go_keep | (go_split_ands; refine ⟨?_, ?_⟩; (rw [hgrow.cell_far _ (by simp; omega) (Ne.symm n0)]; assumption); (rw [hgrow.cell_far _ (by simp; omega) (Ne.symm n1)]; assumption))) ((refine step_append_lies _ (by rfl) _ _ _ (by rfl) w1.heap.size 2 i0 _ 1 8 Try.underlying22 hi hz0 hz1 hz2 rfl (by omega) u9 i X (by rfl) ((HO2.out.alloc _).drew) ⟨wr.heap.size, 0, none⟩ 1 1 [.int .i64 Z] (by rfl) (by rfl) (World.news_of_block (cs := #[.int .i64 Z]) (t := 2) (fr := (0, 0)) (heap_alloc_new wr _)) (by simp [Value.oneCell']) (by omega) (by unfold maxLen; omega) (by omega) (by simp; omega) (wr.heap.size + 1) (by simp) ?_; intro gg cap w4 hown1 hgrow hat hlt1))
        clear e1 e2
        go_wp2
        go_roundw
        case rel => exact ⟨i + 1, by omega, by go_num, OutR.step HO2.out HX.out HSU.out hown1, (hgrow.cell_far ⟨w.heap.size, 0, none⟩ (by simp; omega) (Ne.symm n0)).trans (ca0 hk), ((HB.out.alloc hwz _).drew).grown hgrow (by simp; omega) (fun _ hk => (HO2.out.lt _ hk).1)⟩
        case measure => simp [intOf]; omega
    · have hn : i = x.length := by omega
      subst hn
      obtain ⟨a8, c8, e8, ht8⟩ := HO.out.tag
      rw [mkR_len] at e8
      subst e8
      have HT8 := Lib.hid ht8
      clear ht8
      go_wp2
      go_ret
      exact ⟨a8, c8, by rw [mkR_len]; rfl, HT8.out.row.mono (by omega) (Nat.le_refl _), HB0.out.trans (HB.out.mono (by omega))⟩

set_option maxRecDepth 100000 in
set_option maxHeartbeats 6400000 in
theorem l04Signs_involution (p : Int) (aS : Option Addr) (S : List Int) (cS : Nat) (ax : Option Addr) (x : List Int) (cx lox tpx : Nat) (w : World) (hp : prm p = true) (hx : RowIn lox tpx w ax x) (tx : tpx ≤ w.heap.size) (sx : x.length ≤ 64) (nx : Nums p x) :
    Calls Try.prog 169 #[.agg #[.int .i64 p, .slice aS S.length cS], .slice ax x.length cx, .bool false, .bool true] w (SRow (mkR x.length (sgF p c_involution x)) w) := by
  obtain ⟨i0, hi, hz0, hz1, hz2⟩ := info_parts info64
  have hpb := prm_bd hp
  have Hx := Lib.hid hx
  have HNX := Lib.hid nx
  have HB0 := Lib.hid (below_alloc w (.cells #[.int .i64 p, .slice aS S.length cS] 30))
  have k0 := nw0 w (.int .i64 p) (.slice aS S.length cS) 30
  clear hx hp nx
  go_enter Try.func169, Try.ntmps169
  go_upto_region 1 with fail
  obtain ⟨w1, hw1⟩ : ∃ z, z = w.alloc (.cells #[.int .i64 p, .slice aS S.length cS] 30) := ⟨_, rfl⟩
  rw [← hw1] at HB0 k0
  rw [← hw1]
  have hw0 : w.heap.size < w1.heap.size := by rw [hw1]; simp
  clear hw1
  go_wp2
  go_loopw [9, 10] (fun v t wr => ∃ i : Nat, i ≤ x.length ∧ t = .int .i64 i ∧ OutR w1.heap.size wr v (mkR i (sgF p c_involution x)) ∧ wr.cell? ⟨w.heap.size, 0, none⟩ = some (.int .i64 p) ∧ Below w1.heap.size w1 wr) (fun _ t _ => x.length - (intOf t).toNat)
  case atStart => exact ⟨0, Nat.zero_le _, rfl, OutR.start w1 _ _ (Nat.le_refl _) rfl, ca0 k0, below_alloc w1 _⟩
  case round =>
    obtain ⟨i, hi', rfl, ho, hk, hbel⟩ := hrel
    have HO := Lib.hid ho
    have HB := Lib.hid hbel
    have hwz := hbel.size
    clear ho hbel
    by_cases hlt : i < x.length
    · obtain ⟨b1, o1, ha1, _, hb1, hc1⟩ := ((Hx.out.below HB0.out tx).below HB.out (by omega)).num hlt
      subst ha1
      obtain ⟨x0, x1⟩ := HNX.out i hlt
      have hi1 : (i : Int) < (x.length : Int) := by omega
      obtain ⟨X, hX⟩ : ∃ X, X = (mkR i (sgF p c_involution x)).map (Value.int .i64) := ⟨_, rfl⟩
      have HX := Lib.hid hX
      have HO2 : Hid (wr.ownsRow w1.heap.size 2 1 u9 i X) := by
        have := HO.out; unfold OutR at this; rw [mkR_len, ← hX] at this; exact this
      have n0 : u9.ownBlock ≠ some w.heap.size := fun e => by have := (HO2.out.lt _ e).1; omega
      have n1 : u9.ownBlock ≠ some b1 := fun e => by have := (HO2.out.lt _ e).1; omega
      have q0 : w.heap.size < wr.heap.size := by omega
      have lb1 : b1 < wr.heap.size := by omega
      obtain ⟨y, hy⟩ : ∃ y, y = x.getD i 0 := ⟨_, rfl⟩
      rw [← hy] at hc1 x0 x1
      have e1 : IntKind.i64.wrap (p - y) = p - y := IntWalk.i64_in _ (by omega)
      obtain ⟨Z, hZ⟩ : ∃ Z, Z = (p - y) % p := ⟨_, rfl⟩
      have e2 : (p - y).tmod p = Z := by rw [hZ]; exact Int.tmod_eq_emod_of_nonneg (by omega)
      have hp0 : ¬ p = 0 := by omega
      have hp1 : (p == 0) = false := by simpa using hp0
      have hg7 : gr i < 7 := by have := gr_le i; omega
      clear hX
      rcases seven hg7 with hg | hg | hg | hg | hg | hg | hg
      · have HG : Hid (((gr i : Nat) : Int) = 0) := by show _ = _; rw [hg]; rfl
        have HSU : Hid (mkR (i + 1) (sgF p c_involution x) = mkR i (sgF p c_involution x) ++ [y]) := by show _ = _; rw [mkR_succ, sgF_plus (by rw [hg]; decide), hy]
        clear hg hy hZ
        go_wp2_with (first | (go_at_call 173; (with_reducible refine (l04Grade_any i (by omega) _).mono ?_); rintro e w3 ⟨rfl, rfl⟩; rw [HG.out]) | (at_builtin; refine wpList_append_lies _ rfl _ _ 22 rfl w1.heap.size 2 i0 (.int .i64 0) 1 8 Try.underlying22 hi hz0 hz1 hz2 rfl (by decide) u9 i X rfl (HO2.out.alloc _) ⟨wr.heap.size, 0, none⟩ 1 1 [.int .i64 y] rfl rfl (World.news_of_block (cs := #[.int .i64 y]) (t := 2) (fr := (0, 0)) (heap_alloc_new wr _)) (by simp [Value.oneCell']) (by omega) (by unfold maxLen; omega) (by omega) (by simp; omega) (wr.heap.size + 1) (by simp) ?_; intro gg cap w1 hown1 hgrow hat hlt1))
        clear e1 e2
        go_wp2
        go_roundw
        case rel => exact ⟨i + 1, by omega, by go_num, OutR.step HO2.out HX.out HSU.out hown1, (hgrow.cell_far ⟨w.heap.size, 0, none⟩ (by simp; omega) (Ne.symm n0)).trans (ca0 hk), (HB.out.alloc hwz _).grown hgrow (by simp; omega) (fun _ hk => (HO2.out.lt _ hk).1)⟩
        case measure => simp [intOf]; omega
      · have HG : Hid (((gr i : Nat) : Int) = 1) := by show _ = _; rw [hg]; rfl
        have HSU : Hid (mkR (i + 1) (sgF p c_involution x) = mkR i (sgF p c_involution x) ++ [Z]) := by show _ = _; rw [mkR_succ, sgF_minus (by rw [hg]; decide), hZ, hy]
        clear hg hy hZ
        go_wp2_with (first | (go_at_call 173; (with_reducible refine (l04Grade_any i (by omega) _).mono ?_); rintro e w3 ⟨rfl, rfl⟩; rw [HG.out]))
        go_region_held3 (fun w' => w'.cell? ⟨w.heap.size, 0, none⟩ = some (.int .i64 p) ∧ w'.cell? ⟨b1, o1 + i, none⟩ = some (.int .i64 y)) (first | go_keep | (go_split_ands; refine ⟨?_, ?_⟩; (rw [hgrow.cell_far _ (by simp; omega) (Ne.symm n0)]; assumption); (rw [hgrow.cell_far _ (by simp; omega) (Ne.symm n1)]; assumption))) ((refine step_append_lies _ (by rfl) _ _ _ (by rfl) w1.heap.size 2 i0 _ 1 8 Try.underlying22 hi hz0 hz1 hz2 rfl (by omega) u9 i X (by rfl) ((HO2.out.alloc _).drew) ⟨wr.heap.size, 0, none⟩ 1 1 [.int .i64 Z] (by rfl) (by rfl) (World.news_of_block (cs := #[.int .i64 Z]) (t := 2) (fr := (0, 0)) (heap_alloc_new wr _)) (by simp [Value.oneCell']) (by omega) (by unfold maxLen; omega) (by omega) (by simp; omega) (wr.heap.size + 1) (by simp) ?_; intro gg cap w4 hown1 hgrow hat hlt1))
        clear e1 e2
        go_wp2
        go_roundw
        case rel => exact ⟨i + 1, by omega, by go_num, OutR.step HO2.out HX.out HSU.out hown1, (hgrow.cell_far ⟨w.heap.size, 0, none⟩ (by simp; omega) (Ne.symm n0)).trans (ca0 hk), ((HB.out.alloc hwz _).drew).grown hgrow (by simp; omega) (fun _ hk => (HO2.out.lt _ hk).1)⟩
        case measure => simp [intOf]; omega
      · have HG : Hid (((gr i : Nat) : Int) = 2) := by show _ = _; rw [hg]; rfl
        have HSU : Hid (mkR (i + 1) (sgF p c_involution x) = mkR i (sgF p c_involution x) ++ [y]) := by show _ = _; rw [mkR_succ, sgF_plus (by rw [hg]; decide), hy]
        clear hg hy hZ
        go_wp2_with (first | (go_at_call 173; (with_reducible refine (l04Grade_any i (by omega) _).mono ?_); rintro e w3 ⟨rfl, rfl⟩; rw [HG.out]) | (at_builtin; refine wpList_append_lies _ rfl _ _ 22 rfl w1.heap.size 2 i0 (.int .i64 0) 1 8 Try.underlying22 hi hz0 hz1 hz2 rfl (by decide) u9 i X rfl (HO2.out.alloc _) ⟨wr.heap.size, 0, none⟩ 1 1 [.int .i64 y] rfl rfl (World.news_of_block (cs := #[.int .i64 y]) (t := 2) (fr := (0, 0)) (heap_alloc_new wr _)) (by simp [Value.oneCell']) (by omega) (by unfold maxLen; omega) (by omega) (by simp; omega) (wr.heap.size + 1) (by simp) ?_; intro gg cap w1 hown1 hgrow hat hlt1))
        clear e1 e2
        go_wp2
        go_roundw
        case rel => exact ⟨i + 1, by omega, by go_num, OutR.step HO2.out HX.out HSU.out hown1, (hgrow.cell_far ⟨w.heap.size, 0, none⟩ (by simp; omega) (Ne.symm n0)).trans (ca0 hk), (HB.out.alloc hwz _).grown hgrow (by simp; omega) (fun _ hk => (HO2.out.lt _ hk).1)⟩
        case measure => simp [intOf]; omega
      · have HG : Hid (((gr i : Nat) : Int) = 3) := by show _ = _; rw [hg]; rfl
        have HSU : Hid (mkR (i + 1) (sgF p c_involution x) = mkR i (sgF p c_involution x) ++ [Z]) := by show _ = _; rw [mkR_succ, sgF_minus (by rw [hg]; decide), hZ, hy]
        clear hg hy hZ
        go_wp2_with (first | (go_at_call 173; (with_reducible refine (l04Grade_any i (by omega) _).mono ?_); rintro e w3 ⟨rfl, rfl⟩; rw [HG.out]))
        go_region_held3 (fun w' => w'.cell? ⟨w.heap.size, 0, none⟩ = some (.int .i64 p) ∧ w'.cell? ⟨b1, o1 + i, none⟩ = some (.int .i64 y)) (first | go_keep | (go_split_ands; refine ⟨?_, ?_⟩; (rw [hgrow.cell_far _ (by simp; omega) (Ne.symm n0)]; assumption); (rw [hgrow.cell_far _ (by simp; omega) (Ne.symm n1)]; assumption))) ((refine step_append_lies _ (by rfl) _ _ _ (by rfl) w1.heap.size 2 i0 _ 1 8 Try.underlying22 hi hz0 hz1 hz2 rfl (by omega) u9 i X (by rfl) ((HO2.out.alloc _).drew) ⟨wr.heap.size, 0, none⟩ 1 1 [.int .i64 Z] (by rfl) (by rfl) (World.news_of_block (cs := #[.int .i64 Z]) (t := 2) (fr := (0, 0)) (heap_alloc_new wr _)) (by simp [Value.oneCell']) (by omega) (by unfold maxLen; omega) (by omega) (by simp; omega) (wr.heap.size + 1) (by simp) ?_; intro gg cap w4 hown1 hgrow hat hlt1))
        clear e1 e2
        go_wp2
        go_roundw
        case rel => exact ⟨i + 1, by omega, by go_num, OutR.step HO2.out HX.out HSU.out hown1, (hgrow.cell_far ⟨w.heap.size, 0, none⟩ (by simp; omega) (Ne.symm n0)).trans (ca0 hk), ((HB.out.alloc hwz _).drew).grown hgrow (by simp; omega) (fun _ hk => (HO2.out.lt _ hk).1)⟩
        case measure => simp [intOf]; omega
      · have HG : Hid (((gr i : Nat) : Int) = 4) := by show _ = _; rw [hg]; rfl
        have HSU : Hid (mkR (i + 1) (sgF p c_involution x) = mkR i (sgF p c_involution x) ++ [y]) := by show _ = _; rw [mkR_succ, sgF_plus (by rw [hg]; decide), hy]
        clear hg hy hZ
        go_wp2_with (first | (go_at_call 173; (with_reducible refine (l04Grade_any i (by omega) _).mono ?_); rintro e w3 ⟨rfl, rfl⟩; rw [HG.out]) | (at_builtin; refine wpList_append_lies _ rfl _ _ 22 rfl w1.heap.size 2 i0 (.int .i64 0) 1 8 Try.underlying22 hi hz0 hz1 hz2 rfl (by decide) u9 i X rfl (HO2.out.alloc _) ⟨wr.heap.size, 0, none⟩ 1 1 [.int .i64 y] rfl rfl (World.news_of_block (cs := #[.int .i64 y]) (t := 2) (fr := (0, 0)) (heap_alloc_new wr _)) (by simp [Value.oneCell']) (by omega) (by unfold maxLen; omega) (by omega) (by simp; omega) (wr.heap.size + 1) (by simp) ?_; intro gg cap w1 hown1 hgrow hat hlt1))
        clear e1 e2
        go_wp2
        go_roundw
        case rel => exact ⟨i + 1, by omega, by go_num, OutR.step HO2.out HX.out HSU.out hown1, (hgrow.cell_far ⟨w.heap.size, 0, none⟩ (by simp; omega) (Ne.symm n0)).trans (ca0 hk), (HB.out.alloc hwz _).grown hgrow (by simp; omega) (fun _ hk => (HO2.out.lt _ hk).1)⟩
        case measure => simp [intOf]; omega
      · have HG : Hid (((gr i : Nat) : Int) = 5) := by show _ = _; rw [hg]; rfl
        have HSU : Hid (mkR (i + 1) (sgF p c_involution x) = mkR i (sgF p c_involution x) ++ [Z]) := by show _ = _; rw [mkR_succ, sgF_minus (by rw [hg]; decide), hZ, hy]
        clear hg hy hZ
        go_wp2_with (first | (go_at_call 173; (with_reducible refine (l04Grade_any i (by omega) _).mono ?_); rintro e w3 ⟨rfl, rfl⟩; rw [HG.out]))
        go_region_held3 (fun w' => w'.cell? ⟨w.heap.size, 0, none⟩ = some (.int .i64 p) ∧ w'.cell? ⟨b1, o1 + i, none⟩ = some (.int .i64 y)) (first | go_keep | (go_split_ands; refine ⟨?_, ?_⟩; (rw [hgrow.cell_far _ (by simp; omega) (Ne.symm n0)]; assumption); (rw [hgrow.cell_far _ (by simp; omega) (Ne.symm n1)]; assumption))) ((refine step_append_lies _ (by rfl) _ _ _ (by rfl) w1.heap.size 2 i0 _ 1 8 Try.underlying22 hi hz0 hz1 hz2 rfl (by omega) u9 i X (by rfl) ((HO2.out.alloc _).drew) ⟨wr.heap.size, 0, none⟩ 1 1 [.int .i64 Z] (by rfl) (by rfl) (World.news_of_block (cs := #[.int .i64 Z]) (t := 2) (fr := (0, 0)) (heap_alloc_new wr _)) (by simp [Value.oneCell']) (by omega) (by unfold maxLen; omega) (by omega) (by simp; omega) (wr.heap.size + 1) (by simp) ?_; intro gg cap w4 hown1 hgrow hat hlt1))
        clear e1 e2
        go_wp2
        go_roundw
        case rel => exact ⟨i + 1, by omega, by go_num, OutR.step HO2.out HX.out HSU.out hown1, (hgrow.cell_far ⟨w.heap.size, 0, none⟩ (by simp; omega) (Ne.symm n0)).trans (ca0 hk), ((HB.out.alloc hwz _).drew).grown hgrow (by simp; omega) (fun _ hk => (HO2.out.lt _ hk).1)⟩
        case measure => simp [intOf]; omega
      · have HG : Hid (((gr i : Nat) : Int) = 6) := by show _ = _; rw [hg]; rfl
        have HSU : Hid (mkR (i + 1) (sgF p c_involution x) = mkR i (sgF p c_involution x) ++ [y]) := by show _ = _; rw [mkR_succ, sgF_plus (by rw [hg]; decide), hy]
        clear hg hy hZ
        go_wp2_with (first | (go_at_call 173; (with_reducible refine (l04Grade_any i (by omega) _).mono ?_); rintro e w3 ⟨rfl, rfl⟩; rw [HG.out]) | (at_builtin; refine wpList_append_lies _ rfl _ _ 22 rfl w1.heap.size 2 i0 (.int .i64 0) 1 8 Try.underlying22 hi hz0 hz1 hz2 rfl (by decide) u9 i X rfl (HO2.out.alloc _) ⟨wr.heap.size, 0, none⟩ 1 1 [.int .i64 y] rfl rfl (World.news_of_block (cs := #[.int .i64 y]) (t := 2) (fr := (0, 0)) (heap_alloc_new wr _)) (by simp [Value.oneCell']) (by omega) (by unfold maxLen; omega) (by omega) (by simp; omega) (wr.heap.size + 1) (by simp) ?_; intro gg cap w1 hown1 hgrow hat hlt1))
        clear e1 e2
        go_wp2
        go_roundw
        case rel => exact ⟨i + 1, by omega, by go_num, OutR.step HO2.out HX.out HSU.out hown1, (hgrow.cell_far ⟨w.heap.size, 0, none⟩ (by simp; omega) (Ne.symm n0)).trans (ca0 hk), (HB.out.alloc hwz _).grown hgrow (by simp; omega) (fun _ hk => (HO2.out.lt _ hk).1)⟩
        case measure => simp [intOf]; omega
    · have hn : i = x.length := by omega
      subst hn
      obtain ⟨a8, c8, e8, ht8⟩ := HO.out.tag
      rw [mkR_len] at e8
      subst e8
      have HT8 := Lib.hid ht8
      clear ht8
      go_wp2
      go_ret
      exact ⟨a8, c8, by rw [mkR_len]; rfl, HT8.out.row.mono (by omega) (Nat.le_refl _), HB0.out.trans (HB.out.mono (by omega))⟩

set_option maxHeartbeats 1600000 in
theorem l04Reverse_any (p : Int) (aS : Option Addr) (S : List Int) (cS : Nat) (ax : Option Addr) (x : List Int) (cx lox tpx : Nat) (w : World) (hp : prm p = true) (hx : RowIn lox tpx w ax x) (tx : tpx ≤ w.heap.size) (sx : x.length ≤ 64) (nx : Nums p x) :
    Calls Try.prog 128 #[.agg #[.int .i64 p, .slice aS S.length cS], .slice ax x.length cx] w (SRow (mkR x.length (sgF p c_reversal x)) w) := by
  have Hx := Lib.hid hx
  clear hx
  go_enter Try.func128, Try.ntmps128
  go_wp2_with (first | (go_at_call 169; ((with_reducible refine (l04Signs_reversal p aS S cS ax x cx lox tpx _ hp (Hx.out.below ((Below.refl _ _).alloc (Nat.le_refl _) (.cells #[.int .i64 p, .slice aS S.length cS] 30)) tx) (Nat.le_trans tx (((Below.refl _ _).alloc (Nat.le_refl _) (.cells #[.int .i64 p, .slice aS S.length cS] 30))).size) sx nx).mono ?_); rintro e w2 ⟨r2, c2, rfl, o2, b2⟩; have B2 := Lib.hid b2; have K2_0_0 := (b2.cell (p := ⟨w.heap.size, 0, none⟩) (Nat.lt_of_lt_of_le (show w.heap.size < (w.alloc (.cells #[.int .i64 p, .slice aS S.length cS] 30)).heap.size by simp) (Nat.le_refl _))).trans (show (w.alloc (.cells #[.int .i64 p, .slice aS S.length cS] 30)).cell? ⟨w.heap.size, 0, none⟩ = some (.int .i64 p) by simp [go_sem]); have K2_0_1 := (b2.cell (p := ⟨w.heap.size, 1, none⟩) (Nat.lt_of_lt_of_le (show w.heap.size < (w.alloc (.cells #[.int .i64 p, .slice aS S.length cS] 30)).heap.size by simp) (Nat.le_refl _))).trans (show (w.alloc (.cells #[.int .i64 p, .slice aS S.length cS] 30)).cell? ⟨w.heap.size, 1, none⟩ = some (.slice aS S.length cS) by simp [go_sem]); have O2 := Lib.hid o2; clear o2; clear b2)))
  go_ret
  exact ⟨_, _, rfl, O2.out.mono (show w.heap.size ≤ (w.alloc (.cells #[.int .i64 p, .slice aS S.length cS] 30)).heap.size from (((Below.refl _ _).alloc (Nat.le_refl _) (.cells #[.int .i64 p, .slice aS S.length cS] 30))).size) (Nat.le_refl _), (below_step ((Below.refl _ _).alloc (Nat.le_refl _) (.cells #[.int .i64 p, .slice aS S.length cS] 30)) (show w.heap.size ≤ (w.alloc (.cells #[.int .i64 p, .slice aS S.length cS] 30)).heap.size from (((Below.refl _ _).alloc (Nat.le_refl _) (.cells #[.int .i64 p, .slice aS S.length cS] 30))).size) B2.out)⟩

set_option maxHeartbeats 1600000 in
theorem l04Involute_any (p : Int) (aS : Option Addr) (S : List Int) (cS : Nat) (ax : Option Addr) (x : List Int) (cx lox tpx : Nat) (w : World) (hp : prm p = true) (hx : RowIn lox tpx w ax x) (tx : tpx ≤ w.heap.size) (sx : x.length ≤ 64) (nx : Nums p x) :
    Calls Try.prog 133 #[.agg #[.int .i64 p, .slice aS S.length cS], .slice ax x.length cx] w (SRow (mkR x.length (sgF p c_involution x)) w) := by
  have Hx := Lib.hid hx
  clear hx
  go_enter Try.func133, Try.ntmps133
  go_wp2_with (first | (go_at_call 169; ((with_reducible refine (l04Signs_involution p aS S cS ax x cx lox tpx _ hp (Hx.out.below ((Below.refl _ _).alloc (Nat.le_refl _) (.cells #[.int .i64 p, .slice aS S.length cS] 30)) tx) (Nat.le_trans tx (((Below.refl _ _).alloc (Nat.le_refl _) (.cells #[.int .i64 p, .slice aS S.length cS] 30))).size) sx nx).mono ?_); rintro e w2 ⟨r2, c2, rfl, o2, b2⟩; have B2 := Lib.hid b2; have K2_0_0 := (b2.cell (p := ⟨w.heap.size, 0, none⟩) (Nat.lt_of_lt_of_le (show w.heap.size < (w.alloc (.cells #[.int .i64 p, .slice aS S.length cS] 30)).heap.size by simp) (Nat.le_refl _))).trans (show (w.alloc (.cells #[.int .i64 p, .slice aS S.length cS] 30)).cell? ⟨w.heap.size, 0, none⟩ = some (.int .i64 p) by simp [go_sem]); have K2_0_1 := (b2.cell (p := ⟨w.heap.size, 1, none⟩) (Nat.lt_of_lt_of_le (show w.heap.size < (w.alloc (.cells #[.int .i64 p, .slice aS S.length cS] 30)).heap.size by simp) (Nat.le_refl _))).trans (show (w.alloc (.cells #[.int .i64 p, .slice aS S.length cS] 30)).cell? ⟨w.heap.size, 1, none⟩ = some (.slice aS S.length cS) by simp [go_sem]); have O2 := Lib.hid o2; clear o2; clear b2)))
  go_ret
  exact ⟨_, _, rfl, O2.out.mono (show w.heap.size ≤ (w.alloc (.cells #[.int .i64 p, .slice aS S.length cS] 30)).heap.size from (((Below.refl _ _).alloc (Nat.le_refl _) (.cells #[.int .i64 p, .slice aS S.length cS] 30))).size) (Nat.le_refl _), (below_step ((Below.refl _ _).alloc (Nat.le_refl _) (.cells #[.int .i64 p, .slice aS S.length cS] 30)) (show w.heap.size ≤ (w.alloc (.cells #[.int .i64 p, .slice aS S.length cS] 30)).heap.size from (((Below.refl _ _).alloc (Nat.le_refl _) (.cells #[.int .i64 p, .slice aS S.length cS] 30))).size) B2.out)⟩

end Go.Proofs.Ytigdepahbnidjaa
