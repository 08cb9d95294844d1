/-
  What the model's sums, multiples, copies, turned matrices and unit matrices are: contracts.
  Conditions: the lists and matrices are rows of known cells with numbers of the prime; their sizes fit.
  Helpers of the laws with draws: contracts.
  Conditions: lists are nil or rows of known cells.
  What the program's and the model's checks of lists of numbers return.
  Conditions: they are nil or rows of known cells.
  Spaces: what they are, and their checks in the program and in the model.
  Conditions: the list of squares is nil or a row of known cells, of at most 1048576 numbers.
-/
import Derived.Test.YtijklpcelbnnjaaGreatQk3
import Derived.Deep.RegionHeld3
import Derived.BigQuiet
import Derived.Deep.AppendLies
import Derived.Test.YtijklpcelbnnjaaGreatQk6
import Derived.Test.YtijklpcelbnnjaaGreatQk2
import Derived.Test.YtijklpcelbnnjaaGreatQk4
namespace Go.Proofs.YtijklpcelbnnjaaGreat
open Go.RowKit
set_option linter.unusedVariables false

def plusR (p : Int) (a b : List Int) (k : Int) : List Int := mkR a.length fun j => (a.getD j 0 + k * b.getD j 0) % p

set_option maxHeartbeats 1600000 in
set_option maxRecDepth 100000 in
theorem l02Plus_any (p k : Int) (a b : Option Addr) (za zb : List Int) (ca cb lo tp lo' tp' : Nat) (w : World) (hp : prm p = true) (ha : RowIn lo tp w a za) (hb : RowIn lo' tp' w b zb) (ht : tp ≤ w.heap.size) (ht' : tp' ≤ w.heap.size)
    (hl : za.length ≤ zb.length) (hs : za.length ≤ 1048576) (hna : ∀ j, j < za.length → 0 ≤ za.getD j 0 ∧ za.getD j 0 < p) (hnb : ∀ j, j < zb.length → 0 ≤ zb.getD j 0 ∧ zb.getD j 0 < p) (k0 : 0 ≤ k) (k1 : k ≤ p) :
    Calls Tryz.prog 26 #[.int .i64 p, .slice a za.length ca, .slice b zb.length cb, .int .i64 k] w (NewR (plusR p za zb k) w) := by
  obtain ⟨i0, hi, hz0, hz1, hz2⟩ := info_parts info64
  have hpb := prm_bd hp
  have HA := Lib.hid ha
  have HB := Lib.hid hb
  have HNA := Lib.hid hna
  have HNB := Lib.hid hnb
  clear ha hb hna hnb hp
  go_enter Tryz.func26, Tryz.ntmps26
  go_wp2
  go_loopw [9, 10] (fun v t wr => ∃ i : Nat, i ≤ za.length ∧ t = .int .i64 i ∧ OutR w.heap.size wr v (mkR i fun j => (za.getD j 0 + k * zb.getD j 0) % p) ∧ Below w.heap.size w wr) (fun _ t _ => za.length - (intOf t).toNat)
  case atStart => exact ⟨0, Nat.zero_le _, rfl, OutR.start w _ _ (Nat.le_refl _) rfl, by ((repeat' (first | with_reducible exact Below.refl _ _ | (with_reducible refine Below.setCell ?_ ?_ _) | (with_reducible refine Below.alloc ?_ ?_ _) | (with_reducible refine Below.drew ?_))); all_goals (first | (simp; done) | omega | (simp; omega)))⟩
  case round =>
    obtain ⟨i, hi', rfl, ho, hbel⟩ := hrel
    have HO := Lib.hid ho
    have hwz := hbel.size
    clear ho
    by_cases hlt : i < za.length
    · obtain ⟨b1, o1, ha1, _, hb1, hc1⟩ := HA.out.num hlt
      obtain ⟨b2, o2, ha2, _, hb2, hc2⟩ := HB.out.num (by omega : i < zb.length)
      subst ha1
      subst ha2
      have hc1 := (hbel.cell (p := ⟨b1, o1 + i, none⟩) (Nat.lt_of_lt_of_le hb1 ht)).trans hc1
      have hc2 := (hbel.cell (p := ⟨b2, o2 + i, none⟩) (Nat.lt_of_lt_of_le hb2 ht')).trans hc2
      obtain ⟨x0, x1⟩ := HNA.out i hlt
      obtain ⟨y0, y1⟩ := HNB.out i (by omega)
      have HS : Hid (mkR (i + 1) (fun j => (za.getD j 0 + k * zb.getD j 0) % p) = mkR i (fun j => (za.getD j 0 + k * zb.getD j 0) % p) ++ [(za.getD i 0 + k * zb.getD i 0) % p]) := mkR_succ _ _
      obtain ⟨x, hx⟩ : ∃ x, x = za.getD i 0 := ⟨_, rfl⟩
      obtain ⟨y, hy⟩ : ∃ y, y = zb.getD i 0 := ⟨_, rfl⟩
      rw [← hx] at hc1 x0 x1 HS
      rw [← hy] at hc2 y0 y1 HS
      clear hx hy
      have m0 : 0 ≤ k * y := Int.mul_nonneg k0 y0
      have m1 : k * y ≤ 13 * 13 := Int.le_trans (Int.mul_le_mul_of_nonneg_right (by omega : k ≤ 13) y0) (Int.mul_le_mul_of_nonneg_left (by omega) (by omega))
      have hi1 : (i : Int) < (za.length : Int) := by omega
      have hi2 : (i : Int) < (zb.length : Int) := by omega
      have e1 : IntKind.i64.wrap (k * y) = k * y := IntWalk.i64_in _ (by omega)
      have e2 : IntKind.i64.wrap (x + k * y) = x + k * y := IntWalk.i64_in _ (by omega)
      have e3 : (x + k * y).tmod p = (x + k * y) % p := Int.tmod_eq_emod_of_nonneg (by omega)
      obtain ⟨X, hX⟩ : ∃ X, X = (mkR i (fun j => (za.getD j 0 + k * zb.getD j 0) % p)).map (Value.int .i64) := ⟨_, rfl⟩
      have HX := Lib.hid hX
      have HO2 : Hid (wr.ownsRow w.heap.size 2 1 u9 i X) := by
        have := HO.out; unfold OutR at this; rw [mkR_len, ← hX] at this; exact this
      have n1 : u9.ownBlock ≠ some b1 := fun e => by have := (HO2.out.lt _ e).1; omega
      have n2 : u9.ownBlock ≠ some b2 := fun e => by have := (HO2.out.lt _ e).1; omega
      have lb1 : b1 < wr.heap.size := by omega
      have lb2 : b2 < wr.heap.size := by omega
      have hp0 : ¬ p = 0 := by omega
      have hp1 : (p == 0) = false := by simpa using hp0
      clear hX
      go_wp2
      go_region_held3 (fun w' => w'.cell? ⟨b1, o1 + i, none⟩ = some (.int .i64 x) ∧ w'.cell? ⟨b2, o2 + i, none⟩ = some (.int .i64 y)) (first | go_keep | (go_split_ands; refine ⟨?_, ?_⟩; (rw [hgrow.cell_far _ (by simp; omega) (Ne.symm n1)]; assumption); (rw [hgrow.cell_far _ (by simp; omega) (Ne.symm n2)]; assumption))) ((refine step_append_lies _ (by rfl) _ _ _ (by rfl) w.heap.size 2 i0 _ 1 8 Tryz.underlying24 hi hz0 hz1 hz2 rfl (by omega) u9 i X (by rfl) ((HO2.out.alloc _).drew) ⟨wr.heap.size, 0, none⟩ 1 1 [.int .i64 ((x + k * y) % p)] (by rfl) (by rfl) (World.news_of_block (cs := #[.int .i64 ((x + k * y) % p)]) (t := 2) (fr := (0, 0)) (heap_alloc_new wr _)) (by simp [Value.oneCell']) (by omega) (by unfold maxLen; omega) (by omega) (by simp; omega) (wr.heap.size + 1) (by simp) ?_; intro gg cap w1 hown1 hgrow hat hlt1))
      clear e1 e2 e3
      go_wp2
      go_roundw
      case rel => exact ⟨i + 1, by omega, by go_num, OutR.step HO2.out HX.out HS.out hown1, ((hbel.alloc hwz _).drew).grown hgrow (by simp; omega) (fun _ hk => (HO2.out.lt _ hk).1)⟩
      case measure => simp [intOf]; omega
    · have hn : i = za.length := by omega
      subst hn
      go_wp2
      go_ret
      exact HO.out.new hbel

def sclR (p : Int) (a : List Int) (k : Int) : List Int := mkR a.length fun j => a.getD j 0 * k % p

set_option maxHeartbeats 1600000 in
set_option maxRecDepth 100000 in
theorem l02Scale_any (p k : Int) (a : Option Addr) (za : List Int) (ca lo tp : Nat) (w : World) (hp : prm p = true) (ha : RowIn lo tp w a za) (ht : tp ≤ w.heap.size)
    (hs : za.length ≤ 1048576) (hna : ∀ j, j < za.length → 0 ≤ za.getD j 0 ∧ za.getD j 0 < p) (k0 : 0 ≤ k) (k1 : k ≤ p) :
    Calls Tryz.prog 82 #[.int .i64 p, .slice a za.length ca, .int .i64 k] w (NewR (sclR p za k) w) := by
  obtain ⟨i0, hi, hz0, hz1, hz2⟩ := info_parts info64
  have hpb := prm_bd hp
  have HA := Lib.hid ha
  have HNA := Lib.hid hna
  clear ha hna hp
  go_enter Tryz.func82, Tryz.ntmps82
  go_wp2
  go_loopw [7, 8] (fun v t wr => ∃ i : Nat, i ≤ za.length ∧ t = .int .i64 i ∧ OutR w.heap.size wr v (mkR i fun j => za.getD j 0 * k % p) ∧ Below w.heap.size w wr) (fun _ t _ => za.length - (intOf t).toNat)
  case atStart => exact ⟨0, Nat.zero_le _, rfl, OutR.start w _ _ (Nat.le_refl _) rfl, by ((repeat' (first | with_reducible exact Below.refl _ _ | (with_reducible refine Below.setCell ?_ ?_ _) | (with_reducible refine Below.alloc ?_ ?_ _) | (with_reducible refine Below.drew ?_))); all_goals (first | (simp; done) | omega | (simp; omega)))⟩
  case round =>
    obtain ⟨i, hi', rfl, ho, hbel⟩ := hrel
    have HO := Lib.hid ho
    have hwz := hbel.size
    clear ho
    by_cases hlt : i < za.length
    · obtain ⟨b1, o1, ha1, _, hb1, hc1⟩ := HA.out.num hlt
      subst ha1
      have hc1 := (hbel.cell (p := ⟨b1, o1 + i, none⟩) (Nat.lt_of_lt_of_le hb1 ht)).trans hc1
      obtain ⟨x0, x1⟩ := HNA.out i hlt
      have HS : Hid (mkR (i + 1) (fun j => za.getD j 0 * k % p) = mkR i (fun j => za.getD j 0 * k % p) ++ [za.getD i 0 * k % p]) := mkR_succ _ _
      obtain ⟨x, hx⟩ : ∃ x, x = za.getD i 0 := ⟨_, rfl⟩
      rw [← hx] at hc1 x0 x1 HS
      clear hx
      have m0 : 0 ≤ x * k := Int.mul_nonneg x0 k0
      have m1 : x * k ≤ 13 * 13 := Int.le_trans (Int.mul_le_mul_of_nonneg_right (by omega : x ≤ 13) k0) (Int.mul_le_mul_of_nonneg_left (by omega) (by omega))
      have hi1 : (i : Int) < (za.length : Int) := by omega
      have e1 : IntKind.i64.wrap (x * k) = x * k := IntWalk.i64_in _ (by omega)
      have e3 : (x * k).tmod p = x * k % p := Int.tmod_eq_emod_of_nonneg (by omega)
      obtain ⟨X, hX⟩ : ∃ X, X = (mkR i (fun j => za.getD j 0 * k % p)).map (Value.int .i64) := ⟨_, rfl⟩
      have HX := Lib.hid hX
      have HO2 : Hid (wr.ownsRow w.heap.size 2 1 u7 i X) := by
        have := HO.out; unfold OutR at this; rw [mkR_len, ← hX] at this; exact this
      have n1 : u7.ownBlock ≠ some b1 := fun e => by have := (HO2.out.lt _ e).1; omega
      have lb1 : b1 < wr.heap.size := by omega
      have hp0 : ¬ p = 0 := by omega
      have hp1 : (p == 0) = false := by simpa using hp0
      clear hX
      go_wp2_with (at_builtin; refine wpList_append_lies _ rfl _ _ 24 rfl w.heap.size 2 i0 (.int .i64 0) 1 8 Tryz.underlying24 hi hz0 hz1 hz2 rfl (by decide) u7 i X rfl (HO2.out.alloc _) ⟨wr.heap.size, 0, none⟩ 1 1 [.int .i64 (Int.emod (x * k) p)] rfl rfl (World.news_of_block (cs := #[.int .i64 (Int.emod (x * k) p)]) (t := 2) (fr := (0, 0)) (heap_alloc_new wr _)) (by simp [Value.oneCell']) (by omega) (by unfold maxLen; omega) (by omega) (by simp; omega) (wr.heap.size + 1) (by simp) ?_; intro gg cap w1 hown1 hgrow hat hlt1)
      clear e1 e3
      go_wp2
      go_roundw
      case rel => exact ⟨i + 1, by omega, by go_num, OutR.step HO2.out HX.out HS.out hown1, (hbel.alloc hwz _).grown hgrow (by simp; omega) (fun _ hk => (HO2.out.lt _ hk).1)⟩
      case measure => simp [intOf]; omega
    · have hn : i = za.length := by omega
      subst hn
      go_wp2
      go_ret
      exact HO.out.new hbel

end Go.Proofs.YtijklpcelbnnjaaGreat

namespace Go.Proofs.YtijklpcelbnnjaaGreat
open Go.RowKit
set_option linter.unusedVariables false

set_option maxHeartbeats 800000 in
theorem likeInts_same (a c : Option Addr) (zs : List Int) (k1 k2 lo hi lo' hi' : Nat) (w : World) (hb : RowIn lo hi w a zs) (hc : RowIn lo' hi' w c zs) (hl : zs.length ≤ 1048576) :
    Calls Tryz.prog 13 #[.slice a zs.length k1, .slice c zs.length k2] w fun e w' => e = .returned (.bool true) ∧ Quiet w w' := by
  have HB := Lib.hid hb
  have HC := Lib.hid hc
  clear hb hc
  go_enter Tryz.func13, Tryz.ntmps13
  go_wp2
  go_loopw [5] (fun t wr => ∃ i : Nat, i ≤ zs.length ∧ t = .int .i64 i ∧ (∃ n, wr = w.drewN n)) (fun t _ => zs.length - (intOf t).toNat)
  case atStart => exact ⟨0, Nat.zero_le _, rfl, 0, rfl⟩
  case round =>
    obtain ⟨i, hi, rfl, n, rfl⟩ := hrel
    by_cases hlt : i < zs.length
    · obtain ⟨b1, o1, ha1, _, _, hb1⟩ := HB.out.num hlt
      obtain ⟨b2, o2, ha2, _, _, hb2⟩ := HC.out.num hlt
      subst ha1
      subst ha2
      obtain ⟨x, hx⟩ : ∃ x, x = zs.getD i 0 := ⟨_, rfl⟩
      rw [← hx] at hb1 hb2
      clear hx
      go_wp2
      go_quiet (fail)
      go_wp2
      go_roundw
      case rel => exact ⟨i + 1, by omega, by go_num, _, rfl⟩
      case measure => simp [intOf]; omega
    · go_wp2
      go_ret
      exact ⟨rfl, n, rfl⟩

set_option maxHeartbeats 1600000 in
theorem likeRows_same (a c : Option Addr) (m : List (List Int)) (k1 k2 lo tp lo' tp' : Nat) (w : World) (hm : MatIn lo tp w a m) (hm' : MatIn lo' tp' w c m) (hl : m.length + tot m m.length ≤ 1048576) :
    Calls Tryz.prog 8 #[.slice a m.length k1, .slice c m.length k2] w fun e w' => e = .returned (.bool true) ∧ Quiet w w' := by
  have HM := Lib.hid hm
  have HM' := Lib.hid hm'
  clear hm hm'
  go_enter Tryz.func8, Tryz.ntmps8
  go_wp2
  go_loopw [5] (fun t wr => ∃ i : Nat, i ≤ m.length ∧ t = .int .i64 i ∧ Quiet w wr) (fun t _ => m.length - (intOf t).toNat)
  case atStart => exact ⟨0, Nat.zero_le _, rfl, Quiet.refl _⟩
  case round =>
    obtain ⟨i, hi, rfl, hq⟩ := hrel
    have HQ := Lib.hid hq
    by_cases hlt : i < m.length
    · obtain ⟨b1, o1, r1, c1, ha1, _, _, hr1, hw1⟩ := (HM.out.same (hq.same lo tp)).row hlt
      obtain ⟨b2, o2, r2, c2, ha2, _, _, hr2, hw2⟩ := (HM'.out.same (hq.same lo' tp')).row hlt
      subst ha1
      subst ha2
      have h1 : tot m i + (rw' m i).length ≤ tot m m.length := tot_mono (m := m) (i := i + 1) (by omega)
      have H1 := Lib.hid hw1
      have H2 := Lib.hid hw2
      clear hw1 hw2 hq
      go_wp2
      go_quiet ((go_at_call 13; refine Calls.quiet_of (likeInts_same _ _ _ _ _ lo tp lo' tp' _ (H1.out.same ((Quiet.refl _).next _ |>.same _ _)) (H2.out.same ((Quiet.refl _).next _ |>.same _ _)) (by omega))))
      go_wp2
      go_roundw
      case rel => exact ⟨i + 1, by omega, by go_num, HQ.out.next _⟩
      case measure => simp [intOf]; omega
    · clear hq
      go_wp2
      go_ret
      exact ⟨rfl, HQ.out⟩

theorem nums_push {p x : Int} {X : List Int} (h : ∀ j, j < X.length → 0 ≤ X.getD j 0 ∧ X.getD j 0 < p) (hx : 0 ≤ x ∧ x < p) : ∀ j, j < (X ++ [x]).length → 0 ≤ (X ++ [x]).getD j 0 ∧ (X ++ [x]).getD j 0 < p := fun j hj => by
  rw [List.length_append] at hj
  have hj' : j < X.length + 1 := hj
  by_cases e : j < X.length
  · have : (X ++ [x]).getD j 0 = X.getD j 0 := by simp [List.getD, List.getElem?_append_left e]
    rw [this]; exact h j e
  · have e2 : j = X.length := by omega
    have : (X ++ [x]).getD j 0 = x := by subst e2; simp [List.getD]
    rw [this]; exact hx

set_option maxHeartbeats 1600000 in
theorem list5_any (p : Int) (n : Nat) (b : Nat) (a : Option Addr) (len cap : Nat) (zs : List Int) (w : World) (hs : Src w b a len cap zs) (hn : n ≤ 1048576) (hp : 1 ≤ p) :
    Calls Tryz.prog 9 #[.pointer (some ⟨b, 0, none⟩), .int .i64 n, .int .i64 p] w (DrawnR (fun X => X.length = n ∧ ∀ j, j < X.length → 0 ≤ X.getD j 0 ∧ X.getD j 0 < p) b a len cap zs w) := by
  obtain ⟨i0, hi, hz0, hz1, hz2⟩ := info_parts info64
  have hlt := hs.lt
  have HS := Lib.hid hs
  clear hs
  go_enter Tryz.func9, Tryz.ntmps9
  go_wp2
  go_loopw [7, 1] (fun v t wr => ∃ (X : List Int), X.length ≤ n ∧ (∀ j, j < X.length → 0 ≤ X.getD j 0 ∧ X.getD j 0 < p) ∧ t = .int .i64 ((n : Int) - X.length) ∧ OutR w.heap.size wr v X ∧ Src wr b a len cap zs ∧ Only b w wr) (fun _ t _ => (intOf t).toNat)
  case atStart => exact ⟨[], Nat.zero_le _, fun j hj => by simp at hj, by simp, OutR.start w _ _ (Nat.le_refl _) rfl, HS.out.alloc _, (Only.refl b w).alloc _⟩
  case round =>
    obtain ⟨X, hX, hXn, rfl, ho, hsr, hon⟩ := hrel
    have HXN := Lib.hid hXn
    clear hXn
    have HO := Lib.hid ho
    have HSR := Lib.hid hsr
    have HON := Lib.hid hon
    have hwz := hon.size
    clear ho hsr hon
    by_cases hlx : X.length < n
    · have hp0 : (0 : Int) < (n : Int) - X.length := by omega
      obtain ⟨j, hj⟩ : ∃ j, j = X.length := ⟨_, rfl⟩
      obtain ⟨Y, hY⟩ : ∃ Y, Y = X.map (Value.int .i64) := ⟨_, rfl⟩
      have HJ := Lib.hid hj
      have HY := Lib.hid hY
      rw [← hj] at hp0 hlx ⊢
      clear hj hY
      go_wp2_with (first | (go_at_call 28; (with_reducible refine (below_any p b a len cap zs _ HSR.out).mono ?_); rintro e w3 ⟨x, rfl, hx, ho3, hs3⟩; have HXX := Lib.hid (hx hp); have hz3 := ho3.size; have H3 : Hid (w3.ownsRow w.heap.size 2 1 u7 j Y) := (by have h := HO.out.only ho3 hlt; unfold OutR at h; rw [← HY.out, ← HJ.out] at h; exact h); have HS3 := Lib.hid hs3; have HO3 := Lib.hid (HON.out.trans ho3); clear ho3 hs3 hx) | (at_builtin; refine wpList_append_lies _ rfl _ _ 24 rfl w.heap.size 2 i0 (.int .i64 0) 1 8 Tryz.underlying24 hi hz0 hz1 hz2 rfl (by decide) u7 j Y rfl (H3.out.alloc _) ⟨w3.heap.size, 0, none⟩ 1 1 [.int .i64 x] rfl rfl (World.news_of_block (cs := #[.int .i64 x]) (t := 2) (fr := (0, 0)) (heap_alloc_new w3 _)) (by simp [Value.oneCell']) (by omega) (by unfold maxLen; omega) (by omega) (by simp; omega) (w3.heap.size + 1) (by simp) ?_; intro gg cap w1 hown1 hgrow hat hlt1))
      go_roundw
      case rel => exact ⟨X ++ [x], by rw [List.length_append, ← HJ.out]; exact hlx, nums_push HXN.out HXX.out, by rw [List.length_append, ← HJ.out]; go_num, OutR.push (by rw [← HY.out, ← HJ.out]; exact hown1), (HS3.out.alloc _).grown hgrow (fun k e => by have := (H3.out.lt _ e).1; omega), (HO3.out.alloc _).grown hgrow (fun k e => (H3.out.lt _ e).1)⟩
      case measure => simp [intOf]; omega
    · have hp0 : ¬ (0 : Int) < (n : Int) - X.length := by omega
      go_wp2
      go_ret
      obtain ⟨r9, c9, e9, t9⟩ := HO.out.tag
      exact ⟨r9, c9, X, by rw [← e9]; rfl, ⟨by omega, HXN.out⟩, t9.row, HON.out, HSR.out⟩

/-- What the frame knows of a slice of bytes. -/
theorem code8_from {w : World} {a : Option Addr} {len cap : Nat} {zs : List Int}
    (h : (a = none ∧ len = 0 ∧ cap = 0 ∧ zs = []) ∨ ∃ x, a = some x ∧ len ≤ cap ∧ cap ≤ maxLen ∧ zs.length = cap ∧ (∀ i, i < zs.length → w.cell? (x.add i) = some (.int .u8 (zs.getD i 0))) ∧ ∀ n ∈ zs, (Lit.int .u8 n).wf = true) :
    Code8 w a len zs ∧ len ≤ 9223372036854775807 := by
  rcases h with ⟨rfl, rfl, rfl, rfl⟩ | ⟨x, rfl, h1, h2, h3, h4, h5⟩
  · exact ⟨.inl rfl, by omega⟩
  · unfold maxLen at h2
    refine ⟨?_, by omega⟩
    by_cases h0 : len = 0
    · exact .inl h0
    · obtain ⟨xb, off, rfl, hc⟩ := ints_at h4 (by omega)
      have hlt : xb < w.heap.size := World.block_lt_of_cell? w ⟨xb, off + 0, none⟩ (hc 0 (by omega))
      refine .inr ⟨xb, off, rfl, hlt, hlt, fun i hi => ⟨?_, hc i (by omega)⟩⟩
      have hm : zs.getD i 0 ∈ zs := by rw [getD_at (by omega : i < zs.length)]; exact List.getElem_mem _
      have hw := h5 _ hm
      generalize zs.getD i 0 = n at hw
      simp [Lit.wf, IntKind.min, IntKind.max, IntKind.signed, IntKind.bits] at hw
      omega

end Go.Proofs.YtijklpcelbnnjaaGreat

namespace Go.Proofs.YtijklpcelbnnjaaGreat
open Go.RowKit Go.ChangeShapes Go.WideShapes
set_option linter.unusedVariables false

set_option maxHeartbeats 800000 in
theorem checkRow (p : Int) (a : Option Addr) (zs : List Int) (cap lo tp : Nat) (w : World) (hp : prm p = true) (hrow : RowIn lo tp w a zs) (hlen : zs.length ≤ 9223372036854775807) :
    Calls Tryz.prog 105 #[.int .i64 p, .slice a zs.length cap] w fun e w' => e = .returned (.int .i64 (codeOf p zs)) ∧ w = w' := by
  have HP := Lib.hid hp
  have HR := Lib.hid hrow
  clear hrow hp
  go_enter Tryz.func105, Tryz.ntmps105
  go_wp2_with (go_at_call 114; refine (isPrime_any _ _).mono ?_; rintro e w' ⟨rfl, rfl⟩; rw [HP.out])
  go_loop [12] (fun t => ∃ k : Nat, k ≤ zs.length ∧ t = .int .i64 k ∧ (zs.take k).all (inr p) = true) (fun t => zs.length - (intOf t).toNat)
  case atStart => exact ⟨0, Nat.zero_le _, rfl, rfl⟩
  case round =>
    obtain ⟨k, hk, rfl, hall⟩ := hrel
    have HA := Lib.hid hall
    clear hall
    by_cases hlt : k < zs.length
    · obtain ⟨b, o, ha, _, _, hcell⟩ := HR.out.num hlt
      subst ha
      obtain ⟨x, hx⟩ : ∃ x, x = zs.getD k 0 := ⟨_, rfl⟩
      rw [← hx] at hcell
      have HX := Lib.hid hx
      clear hx
      by_cases hin : 0 ≤ x ∧ x < p
      · have HI : Hid (inr p x = true) := inr_iff.2 hin
        obtain ⟨hi0, hi1⟩ := hin
        go_wp2
        go_round
        case rel => exact ⟨k + 1, by omega, by go_num, by rw [all_take_succ hlt HX.out, HA.out, HI.out]; rfl⟩
        case measure => simp [intOf]; omega
      · have HI : Hid (inr p x = false) := inr_not.2 hin
        have HC : Hid (codeOf p zs = 2) := code_bad HP.out (all_false_of hlt HX.out HI.out)
        by_cases h0 : x < 0
        · clear hin
          go_wp2
          go_ret
          exact ⟨by rw [HC.out]; rfl, rfl⟩
        · have h1 : p ≤ x := by omega
          clear hin
          go_wp2
          go_ret
          exact ⟨by rw [HC.out]; rfl, rfl⟩
    · have HC : Hid (codeOf p zs = 0) := code_ok HP.out (by have := HA.out; rwa [List.take_of_length_le (by omega)] at this)
      go_wp2
      go_ret
      exact ⟨by rw [HC.out]; rfl, rfl⟩

set_option maxHeartbeats 800000 in
theorem numsRow (p : Int) (a : Option Addr) (zs : List Int) (cap lo tp : Nat) (w : World) (hp : prm p = true) (hrow : RowIn lo tp w a zs) (hlen : zs.length ≤ 9223372036854775807) :
    Calls Tryz.prog 71 #[.int .i64 p, .slice a zs.length cap] w fun e w' => e = .returned (.bool (zs.all (inr p))) ∧ w = w' := by
  have hpb := prm_bd hp
  clear hp
  have HR := Lib.hid hrow
  clear hrow
  go_enter Tryz.func71, Tryz.ntmps71
  go_wp2
  go_loop [5] (fun t => ∃ k : Nat, k ≤ zs.length ∧ t = .int .i64 k ∧ (zs.take k).all (inr p) = true) (fun t => zs.length - (intOf t).toNat)
  case atStart => exact ⟨0, Nat.zero_le _, rfl, rfl⟩
  case round =>
    obtain ⟨k, hk, rfl, hall⟩ := hrel
    have HA := Lib.hid hall
    clear hall
    by_cases hlt : k < zs.length
    · obtain ⟨b, o, ha, _, _, hcell⟩ := HR.out.num hlt
      subst ha
      obtain ⟨x, hx⟩ : ∃ x, x = zs.getD k 0 := ⟨_, rfl⟩
      rw [← hx] at hcell
      have HX := Lib.hid hx
      clear hx
      by_cases hin : 0 ≤ x ∧ x < p
      · have HI : Hid (inr p x = true) := inr_iff.2 hin
        obtain ⟨hi0, hi1⟩ := hin
        go_wp2_with (go_at_call 103; refine (l01In_yes _ _ _ _ (by omega) (by omega)).mono ?_; rintro e w' ⟨rfl, rfl⟩)
        go_round
        case rel => exact ⟨k + 1, by omega, by go_num, by rw [all_take_succ hlt HX.out, HA.out, HI.out]; rfl⟩
        case measure => simp [intOf]; omega
      · have HI : Hid (inr p x = false) := inr_not.2 hin
        have HC : Hid (zs.all (inr p) = false) := all_false_of hlt HX.out HI.out
        have hin' : ¬ (0 ≤ x ∧ x ≤ p - 1) := by omega
        have HN := Lib.hid hin'
        clear hin hin'
        go_wp2_with (go_at_call 103; refine (l01In_no _ _ _ _ HN.out).mono ?_; rintro e w' ⟨rfl, rfl⟩)
        go_ret
        exact ⟨by rw [HC.out]; rfl, rfl⟩
    · have HC : Hid (zs.all (inr p) = true) := by have := HA.out; rwa [List.take_of_length_le (by omega)] at this
      go_wp2
      go_ret
      exact ⟨by rw [HC.out]; rfl, rfl⟩

set_option maxHeartbeats 800000 in
theorem checkRow_any (p : Int) (a : Option Addr) (zs : List Int) (cap lo tp : Nat) (w : World) (hrow : RowIn lo tp w a zs) (hlen : zs.length ≤ 9223372036854775807) :
    Calls Tryz.prog 105 #[.int .i64 p, .slice a zs.length cap] w fun e w' => e = .returned (.int .i64 (codeOf p zs)) ∧ w = w' := by
  by_cases hp : prm p = true
  · exact checkRow p a zs cap lo tp w hp hrow hlen
  · have HP : Hid (prm p = false) := by show _ = _; simpa using hp
    clear hp hrow
    go_enter Tryz.func105, Tryz.ntmps105
    go_wp2_with (go_at_call 114; refine (isPrime_any _ _).mono ?_; rintro e w' ⟨rfl, rfl⟩; rw [HP.out])
    go_ret
    exact ⟨by rw [code_np HP.out]; rfl, rfl⟩

set_option maxHeartbeats 800000 in
theorem isVector_any (p : Int) (a : Option Addr) (v : List Int) (c n lo tp : Nat) (w : World) (hp : prm p = true) (hv : RowIn lo tp w a v) (hs : v.length ≤ 1048576) (hn : n ≤ 1048576) :
    Calls Tryz.prog 73 #[.int .i64 p, .slice a v.length c, .int .i64 n] w fun e w' => e = .returned (.bool (decide (v.length = n) && v.all (inr p))) ∧ w = w' := by
  have HV := Lib.hid hv
  have HP := Lib.hid hp
  clear hv hp
  by_cases h : v.length = n
  · subst h
    by_cases ha : v.all (inr p) = true
    · have HA := Lib.hid ha
      have HC := Lib.hid (code_ok HP.out ha)
      clear ha
      go_enter Tryz.func73, Tryz.ntmps73
      go_wp2_with (go_at_call 105; (with_reducible refine (checkRow _ _ _ _ lo tp _ HP.out HV.out (by omega)).mono ?_); rintro e w1 ⟨rfl, rfl⟩; rw [HC.out])
      go_ret
      exact ⟨by rw [HA.out]; simp, rfl⟩
    · have HA : Hid (v.all (inr p) = false) := by show v.all (inr p) = false; simpa using ha
      have HC := Lib.hid (code_bad HP.out HA.out)
      clear ha
      go_enter Tryz.func73, Tryz.ntmps73
      go_wp2_with (go_at_call 105; (with_reducible refine (checkRow _ _ _ _ lo tp _ HP.out HV.out (by omega)).mono ?_); rintro e w1 ⟨rfl, rfl⟩; rw [HC.out])
      go_ret
      exact ⟨by rw [HA.out]; simp, rfl⟩
  · have HF : Hid ((decide (v.length = n) && v.all (inr p)) = false) := by show _ = _; simp [h]
    have e1 : ((v.length : Int) == (n : Int)) = false := by simp; omega
    have e2 : decide ((v.length : Int) = (n : Int)) = false := by simp; omega
    clear h
    go_enter Tryz.func73, Tryz.ntmps73
    go_wp2
    go_ret
    exact ⟨by rw [HF.out]; rfl, rfl⟩

end Go.Proofs.YtijklpcelbnnjaaGreat

namespace Go.Proofs.YtijklpcelbnnjaaGreat
open Go.RowKit
set_option linter.unusedVariables false

def isSp (p : Int) (S : List Int) : Bool := prm p && decide (1 ≤ S.length ∧ S.length ≤ 6) && S.all (inr p)
structure Spa (p : Int) (S : List Int) : Prop where
  prime : prm p = true
  lo : 1 ≤ S.length
  hi : S.length ≤ 6
  all : S.all (inr p) = true
theorem isSp_iff {p : Int} {S : List Int} : isSp p S = true ↔ Spa p S := by
  unfold isSp
  simp only [Bool.and_eq_true, decide_eq_true_eq]
  exact ⟨fun h => ⟨h.1.1, h.1.2.1, h.1.2.2, h.2⟩, fun h => ⟨⟨h.prime, h.lo, h.hi⟩, h.all⟩⟩
theorem isSp_no {p : Int} {S : List Int} (h : ¬ Spa p S) : isSp p S = false := by
  cases e : isSp p S with
  | false => rfl
  | true => exact absurd (isSp_iff.1 e) h
theorem Spa.num {p : Int} {S : List Int} (h : Spa p S) {j : Nat} (hj : j < S.length) : 0 ≤ S.getD j 0 ∧ S.getD j 0 < p := by
  have ha := h.all
  rw [List.all_eq_true] at ha
  exact inr_iff.1 (ha _ (by rw [getD_at hj]; exact List.getElem_mem hj))

set_option maxHeartbeats 800000 in
theorem isSpace_any (p : Int) (a : Option Addr) (S : List Int) (c lo tp : Nat) (w : World) (h : RowIn lo tp w a S) (ht : tp ≤ w.heap.size) (hs : S.length ≤ 1048576) :
    Calls Tryz.prog 104 #[.agg #[.int .i64 p, .slice a S.length c]] w fun e w' => e = .returned (.bool (isSp p S)) ∧ Below w.heap.size w w' := by
  have H := Lib.hid h
  clear h
  by_cases h1 : 1 ≤ S.length
  · by_cases h2 : S.length ≤ 6
    · rcases code_cases p S with ⟨hp, hc⟩ | ⟨hp, ha, hc⟩ | ⟨hp, ha, hc⟩
      · have HC := Lib.hid hc
        have HV : Hid (isSp p S = false) := isSp_no (fun k => by have := k.prime; rw [hp] at this; cases this)
        clear hc hp
        go_enter Tryz.func104, Tryz.ntmps104
        go_wp2_with (go_at_call 105; (with_reducible refine (checkRow_any p a S c lo tp _ (H.out.below ((Below.refl _ _).alloc (Nat.le_refl _) _) ht) (by omega)).mono ?_); rintro e w1 ⟨rfl, rfl⟩; rw [HC.out])
        go_ret
        exact ⟨by rw [HV.out]; rfl, by ((repeat' (first | with_reducible exact Below.refl _ _ | (with_reducible refine Below.setCell ?_ ?_ _) | (with_reducible refine Below.alloc ?_ ?_ _) | (with_reducible refine Below.drew ?_))); all_goals (first | (simp; done) | omega | (simp; omega)))⟩
      · have HC := Lib.hid hc
        have HV : Hid (isSp p S = true) := isSp_iff.2 ⟨hp, h1, h2, ha⟩
        clear hc hp ha
        go_enter Tryz.func104, Tryz.ntmps104
        go_wp2_with (go_at_call 105; (with_reducible refine (checkRow_any p a S c lo tp _ (H.out.below ((Below.refl _ _).alloc (Nat.le_refl _) _) ht) (by omega)).mono ?_); rintro e w1 ⟨rfl, rfl⟩; rw [HC.out])
        go_ret
        exact ⟨by rw [HV.out]; rfl, by ((repeat' (first | with_reducible exact Below.refl _ _ | (with_reducible refine Below.setCell ?_ ?_ _) | (with_reducible refine Below.alloc ?_ ?_ _) | (with_reducible refine Below.drew ?_))); all_goals (first | (simp; done) | omega | (simp; omega)))⟩
      · have HC := Lib.hid hc
        have HV : Hid (isSp p S = false) := isSp_no (fun k => by have := k.all; rw [ha] at this; cases this)
        clear hc hp ha
        go_enter Tryz.func104, Tryz.ntmps104
        go_wp2_with (go_at_call 105; (with_reducible refine (checkRow_any p a S c lo tp _ (H.out.below ((Below.refl _ _).alloc (Nat.le_refl _) _) ht) (by omega)).mono ?_); rintro e w1 ⟨rfl, rfl⟩; rw [HC.out])
        go_ret
        exact ⟨by rw [HV.out]; rfl, by ((repeat' (first | with_reducible exact Below.refl _ _ | (with_reducible refine Below.setCell ?_ ?_ _) | (with_reducible refine Below.alloc ?_ ?_ _) | (with_reducible refine Below.drew ?_))); all_goals (first | (simp; done) | omega | (simp; omega)))⟩
    · have HV : Hid (isSp p S = false) := isSp_no (fun k => h2 k.hi)
      go_enter Tryz.func104, Tryz.ntmps104
      go_wp2
      go_ret
      exact ⟨by rw [HV.out]; rfl, by ((repeat' (first | with_reducible exact Below.refl _ _ | (with_reducible refine Below.setCell ?_ ?_ _) | (with_reducible refine Below.alloc ?_ ?_ _) | (with_reducible refine Below.drew ?_))); all_goals (first | (simp; done) | omega | (simp; omega)))⟩
  · have HV : Hid (isSp p S = false) := isSp_no (fun k => h1 k.lo)
    go_enter Tryz.func104, Tryz.ntmps104
    go_wp2
    go_ret
    exact ⟨by rw [HV.out]; rfl, by ((repeat' (first | with_reducible exact Below.refl _ _ | (with_reducible refine Below.setCell ?_ ?_ _) | (with_reducible refine Below.alloc ?_ ?_ _) | (with_reducible refine Below.drew ?_))); all_goals (first | (simp; done) | omega | (simp; omega)))⟩

set_option maxHeartbeats 800000 in
theorem l03Is_any (p : Int) (a : Option Addr) (S : List Int) (c lo tp : Nat) (w : World) (h : RowIn lo tp w a S) (ht : tp ≤ w.heap.size) (hs : S.length ≤ 1048576) :
    Calls Tryz.prog 70 #[.agg #[.int .i64 p, .slice a S.length c]] w fun e w' => e = .returned (.bool (isSp p S)) ∧ Below w.heap.size w w' := by
  have H := Lib.hid h
  clear h
  by_cases hp : prm p = true
  · have HP := Lib.hid hp
    clear hp
    by_cases h1 : 1 ≤ S.length ∧ S.length ≤ 6
    · have hb : (1 : Int) ≤ (S.length : Int) ∧ (S.length : Int) ≤ 6 := by omega
      by_cases ha : S.all (inr p) = true
      · have HA := Lib.hid ha
        have HV : Hid (isSp p S = true) := isSp_iff.2 ⟨HP.out, h1.1, h1.2, ha⟩
        clear ha h1
        go_enter Tryz.func70, Tryz.ntmps70
        go_wp2_with (first | (go_at_call 102; refine (l01Prime_any _ _).mono ?_; rintro e w1 ⟨rfl, rfl⟩; rw [HP.out]) | (go_at_call 103; refine (l01In_yes _ _ _ _ hb.1 hb.2).mono ?_; rintro e w1 ⟨rfl, rfl⟩) | (go_at_call 71; (with_reducible refine (numsRow p a S c lo tp _ HP.out (H.out.below ((Below.refl _ _).alloc (Nat.le_refl _) _) ht) (by omega)).mono ?_); rintro e w1 ⟨rfl, rfl⟩; rw [HA.out]))
        go_ret
        exact ⟨by rw [HV.out]; rfl, by ((repeat' (first | with_reducible exact Below.refl _ _ | (with_reducible refine Below.setCell ?_ ?_ _) | (with_reducible refine Below.alloc ?_ ?_ _) | (with_reducible refine Below.drew ?_))); all_goals (first | (simp; done) | omega | (simp; omega)))⟩
      · have HA : Hid (S.all (inr p) = false) := by show _ = _; simpa using ha
        have HV : Hid (isSp p S = false) := isSp_no (fun k => ha k.all)
        clear ha h1
        go_enter Tryz.func70, Tryz.ntmps70
        go_wp2_with (first | (go_at_call 102; refine (l01Prime_any _ _).mono ?_; rintro e w1 ⟨rfl, rfl⟩; rw [HP.out]) | (go_at_call 103; refine (l01In_yes _ _ _ _ hb.1 hb.2).mono ?_; rintro e w1 ⟨rfl, rfl⟩) | (go_at_call 71; (with_reducible refine (numsRow p a S c lo tp _ HP.out (H.out.below ((Below.refl _ _).alloc (Nat.le_refl _) _) ht) (by omega)).mono ?_); rintro e w1 ⟨rfl, rfl⟩; rw [HA.out]))
        go_ret
        exact ⟨by rw [HV.out]; rfl, by ((repeat' (first | with_reducible exact Below.refl _ _ | (with_reducible refine Below.setCell ?_ ?_ _) | (with_reducible refine Below.alloc ?_ ?_ _) | (with_reducible refine Below.drew ?_))); all_goals (first | (simp; done) | omega | (simp; omega)))⟩
    · have hb : ¬ ((1 : Int) ≤ (S.length : Int) ∧ (S.length : Int) ≤ 6) := by omega
      have HB := Lib.hid hb
      have HV : Hid (isSp p S = false) := isSp_no (fun k => h1 ⟨k.lo, k.hi⟩)
      clear h1 hb
      go_enter Tryz.func70, Tryz.ntmps70
      go_wp2_with (first | (go_at_call 102; refine (l01Prime_any _ _).mono ?_; rintro e w1 ⟨rfl, rfl⟩; rw [HP.out]) | (go_at_call 103; refine (l01In_no _ _ _ _ HB.out).mono ?_; rintro e w1 ⟨rfl, rfl⟩))
      go_ret
      exact ⟨by rw [HV.out]; rfl, by ((repeat' (first | with_reducible exact Below.refl _ _ | (with_reducible refine Below.setCell ?_ ?_ _) | (with_reducible refine Below.alloc ?_ ?_ _) | (with_reducible refine Below.drew ?_))); all_goals (first | (simp; done) | omega | (simp; omega)))⟩
  · have HP : Hid (prm p = false) := by show _ = _; simpa using hp
    have HV : Hid (isSp p S = false) := isSp_no (fun k => hp k.prime)
    clear hp
    go_enter Tryz.func70, Tryz.ntmps70
    go_wp2_with (first | (go_at_call 102; refine (l01Prime_any _ _).mono ?_; rintro e w1 ⟨rfl, rfl⟩; rw [HP.out]))
    go_ret
    exact ⟨by rw [HV.out]; rfl, by ((repeat' (first | with_reducible exact Below.refl _ _ | (with_reducible refine Below.setCell ?_ ?_ _) | (with_reducible refine Below.alloc ?_ ?_ _) | (with_reducible refine Below.drew ?_))); all_goals (first | (simp; done) | omega | (simp; omega)))⟩

end Go.Proofs.YtijklpcelbnnjaaGreat
