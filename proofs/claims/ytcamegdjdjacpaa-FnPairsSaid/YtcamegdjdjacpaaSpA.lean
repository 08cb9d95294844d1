/-
  What the model's sums, multiples, copies, turned matrices and unit matrices are: contracts.
  Conditions: the lists and matrices are rows of known cells with numbers of the prime; their sizes fit.
-/
import Derived.Test.YtcamegdjdjacpaaApp
import Derived.Deep.RegionHeld3
import Derived.BigQuiet
import Derived.Deep.AppendLies
namespace Go.Proofs.Ytcamegdjdjacpaa
open Go.RowKit
set_option linter.unusedVariables false

def plusR (p : Int) (a b : List Int) (k : Int) : List Int := mkR a.length fun j => (a.getD j 0 + k * b.getD j 0) % p

theorem one_new (w : World) (x : Value) (t : TypeId) : ∀ j u, ([x] : List Value)[j]? = some u → (w.alloc (.cells #[x] t)).cell? ((⟨w.heap.size, 0, none⟩ : Addr).add j) = some u := by
  intro j u hj
  match j, hj with
  | 0, hj => simp at hj; subst hj; simp [Addr.add]

set_option maxHeartbeats 1600000 in
set_option maxRecDepth 100000 in
theorem l02Plus_any (p k : Int) (a b : Option Addr) (za zb : List Int) (ca cb lo tp lo' tp' : Nat) (w : World) (hp : prm p = true) (ha : RowIn lo tp w a za) (hb : RowIn lo' tp' w b zb) (ht : tp ≤ w.heap.size) (ht' : tp' ≤ w.heap.size)
    (hl : za.length ≤ zb.length) (hs : za.length ≤ 1048576) (hna : ∀ j, j < za.length → 0 ≤ za.getD j 0 ∧ za.getD j 0 < p) (hnb : ∀ j, j < zb.length → 0 ≤ zb.getD j 0 ∧ zb.getD j 0 < p) (k0 : 0 ≤ k) (k1 : k ≤ p) :
    Calls Try.prog 172 #[.int .i64 p, .slice a za.length ca, .slice b zb.length cb, .int .i64 k] w (NewR (plusR p za zb k) w) := by
  obtain ⟨i0, hi, hz0, hz1, hz2⟩ := info_parts info64
  have hpb := prm_bd hp
  have HA := Lib.hid ha
  have HB := Lib.hid hb
  have HNA := Lib.hid hna
  have HNB := Lib.hid hnb
  clear ha hb hna hnb hp
  go_enter Try.func172, Try.ntmps172
  go_wp2
  go_loopw [9, 10] (fun v t wr => ∃ i : Nat, i ≤ za.length ∧ t = .int .i64 i ∧ OutR w.heap.size wr v (mkR i fun j => (za.getD j 0 + k * zb.getD j 0) % p) ∧ Below w.heap.size w wr) (fun _ t _ => za.length - (intOf t).toNat)
  case atStart => exact ⟨0, Nat.zero_le _, rfl, OutR.start w _ _ (Nat.le_refl _) rfl, by ((repeat' (first | with_reducible exact Below.refl _ _ | (with_reducible refine Below.setCell ?_ ?_ _) | (with_reducible refine Below.alloc ?_ ?_ _) | (with_reducible refine Below.drew ?_))); all_goals (first | (simp; done) | omega | (simp; omega)))⟩
  case round =>
    obtain ⟨i, hi', rfl, ho, hbel⟩ := hrel
    have HO := Lib.hid ho
    have hwz := hbel.size
    clear ho
    by_cases hlt : i < za.length
    · obtain ⟨b1, o1, ha1, _, hb1, hc1⟩ := HA.out.num hlt
      obtain ⟨b2, o2, ha2, _, hb2, hc2⟩ := HB.out.num (by omega : i < zb.length)
      subst ha1
      subst ha2
      have hc1 := (hbel.cell (p := ⟨b1, o1 + i, none⟩) (Nat.lt_of_lt_of_le hb1 ht)).trans hc1
      have hc2 := (hbel.cell (p := ⟨b2, o2 + i, none⟩) (Nat.lt_of_lt_of_le hb2 ht')).trans hc2
      obtain ⟨x0, x1⟩ := HNA.out i hlt
      obtain ⟨y0, y1⟩ := HNB.out i (by omega)
      have HS : Hid (mkR (i + 1) (fun j => (za.getD j 0 + k * zb.getD j 0) % p) = mkR i (fun j => (za.getD j 0 + k * zb.getD j 0) % p) ++ [(za.getD i 0 + k * zb.getD i 0) % p]) := mkR_succ _ _
      obtain ⟨x, hx⟩ : ∃ x, x = za.getD i 0 := ⟨_, rfl⟩
      obtain ⟨y, hy⟩ : ∃ y, y = zb.getD i 0 := ⟨_, rfl⟩
      rw [← hx] at hc1 x0 x1 HS
      rw [← hy] at hc2 y0 y1 HS
      clear hx hy
      have m0 : 0 ≤ k * y := Int.mul_nonneg k0 y0
      have m1 : k * y ≤ 13 * 13 := Int.le_trans (Int.mul_le_mul_of_nonneg_right (by omega : k ≤ 13) y0) (Int.mul_le_mul_of_nonneg_left (by omega) (by omega))
      have hi1 : (i : Int) < (za.length : Int) := by omega
      have hi2 : (i : Int) < (zb.length : Int) := by omega
      have e1 : IntKind.i64.wrap (k * y) = k * y := IntWalk.i64_in _ (by omega)
      have e2 : IntKind.i64.wrap (x + k * y) = x + k * y := IntWalk.i64_in _ (by omega)
      have e3 : (x + k * y).tmod p = (x + k * y) % p := Int.tmod_eq_emod_of_nonneg (by omega)
      obtain ⟨X, hX⟩ : ∃ X, X = (mkR i (fun j => (za.getD j 0 + k * zb.getD j 0) % p)).map (Value.int .i64) := ⟨_, rfl⟩
      have HX := Lib.hid hX
      have HO2 : Hid (wr.ownsRow w.heap.size 2 1 u9 i X) := by
        have := HO.out; unfold OutR at this; rw [mkR_len, ← hX] at this; exact this
      have n1 : u9.ownBlock ≠ some b1 := fun e => by have := (HO2.out.lt _ e).1; omega
      have n2 : u9.ownBlock ≠ some b2 := fun e => by have := (HO2.out.lt _ e).1; omega
      have lb1 : b1 < wr.heap.size := by omega
      have lb2 : b2 < wr.heap.size := by omega
      have hp0 : ¬ p = 0 := by omega
      have hp1 : (p == 0) = false := by simpa using hp0
      clear hX
      go_wp2
      go_region_held3 (fun w' => w'.cell? ⟨b1, o1 + i, none⟩ = some (.int .i64 x) ∧ w'.cell? ⟨b2, o2 + i, none⟩ = some (.int .i64 y)) (first | go_keep | (go_split_ands; refine ⟨?_, ?_⟩; (rw [hgrow.cell_far _ (by simp; omega) (Ne.symm n1)]; assumption); (rw [hgrow.cell_far _ (by simp; omega) (Ne.symm n2)]; assumption))) ((refine step_append_lies _ (by rfl) _ _ _ (by rfl) w.heap.size 2 i0 _ 1 8 Try.underlying24 hi hz0 hz1 hz2 rfl (by omega) u9 i X (by rfl) ((HO2.out.alloc _).drew) ⟨wr.heap.size, 0, none⟩ 1 1 [.int .i64 ((x + k * y) % p)] (by rfl) (by rfl) (World.news_of_block (cs := #[.int .i64 ((x + k * y) % p)]) (t := 2) (fr := (0, 0)) (heap_alloc_new wr _)) (by simp [Value.oneCell']) (by omega) (by unfold maxLen; omega) (by omega) (by simp; omega) (wr.heap.size + 1) (by simp) ?_; intro gg cap w1 hown1 hgrow hat hlt1))
      clear e1 e2 e3
      go_wp2
      go_roundw
      case rel => exact ⟨i + 1, by omega, by go_num, OutR.step HO2.out HX.out HS.out hown1, ((hbel.alloc hwz _).drew).grown hgrow (by simp; omega) (fun _ hk => (HO2.out.lt _ hk).1)⟩
      case measure => simp [intOf]; omega
    · have hn : i = za.length := by omega
      subst hn
      go_wp2
      go_ret
      exact HO.out.new hbel

def sclR (p : Int) (a : List Int) (k : Int) : List Int := mkR a.length fun j => a.getD j 0 * k % p

set_option maxHeartbeats 1600000 in
set_option maxRecDepth 100000 in
theorem l02Scale_any (p k : Int) (a : Option Addr) (za : List Int) (ca lo tp : Nat) (w : World) (hp : prm p = true) (ha : RowIn lo tp w a za) (ht : tp ≤ w.heap.size)
    (hs : za.length ≤ 1048576) (hna : ∀ j, j < za.length → 0 ≤ za.getD j 0 ∧ za.getD j 0 < p) (k0 : 0 ≤ k) (k1 : k ≤ p) :
    Calls Try.prog 217 #[.int .i64 p, .slice a za.length ca, .int .i64 k] w (NewR (sclR p za k) w) := by
  obtain ⟨i0, hi, hz0, hz1, hz2⟩ := info_parts info64
  have hpb := prm_bd hp
  have HA := Lib.hid ha
  have HNA := Lib.hid hna
  clear ha hna hp
  go_enter Try.func217, Try.ntmps217
  go_wp2
  go_loopw [7, 8] (fun v t wr => ∃ i : Nat, i ≤ za.length ∧ t = .int .i64 i ∧ OutR w.heap.size wr v (mkR i fun j => za.getD j 0 * k % p) ∧ Below w.heap.size w wr) (fun _ t _ => za.length - (intOf t).toNat)
  case atStart => exact ⟨0, Nat.zero_le _, rfl, OutR.start w _ _ (Nat.le_refl _) rfl, by ((repeat' (first | with_reducible exact Below.refl _ _ | (with_reducible refine Below.setCell ?_ ?_ _) | (with_reducible refine Below.alloc ?_ ?_ _) | (with_reducible refine Below.drew ?_))); all_goals (first | (simp; done) | omega | (simp; omega)))⟩
  case round =>
    obtain ⟨i, hi', rfl, ho, hbel⟩ := hrel
    have HO := Lib.hid ho
    have hwz := hbel.size
    clear ho
    by_cases hlt : i < za.length
    · obtain ⟨b1, o1, ha1, _, hb1, hc1⟩ := HA.out.num hlt
      subst ha1
      have hc1 := (hbel.cell (p := ⟨b1, o1 + i, none⟩) (Nat.lt_of_lt_of_le hb1 ht)).trans hc1
      obtain ⟨x0, x1⟩ := HNA.out i hlt
      have HS : Hid (mkR (i + 1) (fun j => za.getD j 0 * k % p) = mkR i (fun j => za.getD j 0 * k % p) ++ [za.getD i 0 * k % p]) := mkR_succ _ _
      obtain ⟨x, hx⟩ : ∃ x, x = za.getD i 0 := ⟨_, rfl⟩
      rw [← hx] at hc1 x0 x1 HS
      clear hx
      have m0 : 0 ≤ x * k := Int.mul_nonneg x0 k0
      have m1 : x * k ≤ 13 * 13 := Int.le_trans (Int.mul_le_mul_of_nonneg_right (by omega : x ≤ 13) k0) (Int.mul_le_mul_of_nonneg_left (by omega) (by omega))
      have hi1 : (i : Int) < (za.length : Int) := by omega
      have e1 : IntKind.i64.wrap (x * k) = x * k := IntWalk.i64_in _ (by omega)
      have e3 : (x * k).tmod p = x * k % p := Int.tmod_eq_emod_of_nonneg (by omega)
      obtain ⟨X, hX⟩ : ∃ X, X = (mkR i (fun j => za.getD j 0 * k % p)).map (Value.int .i64) := ⟨_, rfl⟩
      have HX := Lib.hid hX
      have HO2 : Hid (wr.ownsRow w.heap.size 2 1 u7 i X) := by
        have := HO.out; unfold OutR at this; rw [mkR_len, ← hX] at this; exact this
      have n1 : u7.ownBlock ≠ some b1 := fun e => by have := (HO2.out.lt _ e).1; omega
      have lb1 : b1 < wr.heap.size := by omega
      have hp0 : ¬ p = 0 := by omega
      have hp1 : (p == 0) = false := by simpa using hp0
      clear hX
      go_wp2_with (at_builtin; refine wpList_append_lies _ rfl _ _ 24 rfl w.heap.size 2 i0 (.int .i64 0) 1 8 Try.underlying24 hi hz0 hz1 hz2 rfl (by decide) u7 i X rfl (HO2.out.alloc _) ⟨wr.heap.size, 0, none⟩ 1 1 [.int .i64 (Int.emod (x * k) p)] rfl rfl (World.news_of_block (cs := #[.int .i64 (Int.emod (x * k) p)]) (t := 2) (fr := (0, 0)) (heap_alloc_new wr _)) (by simp [Value.oneCell']) (by omega) (by unfold maxLen; omega) (by omega) (by simp; omega) (wr.heap.size + 1) (by simp) ?_; intro gg cap w1 hown1 hgrow hat hlt1)
      clear e1 e3
      go_wp2
      go_roundw
      case rel => exact ⟨i + 1, by omega, by go_num, OutR.step HO2.out HX.out HS.out hown1, (hbel.alloc hwz _).grown hgrow (by simp; omega) (fun _ hk => (HO2.out.lt _ hk).1)⟩
      case measure => simp [intOf]; omega
    · have hn : i = za.length := by omega
      subst hn
      go_wp2
      go_ret
      exact HO.out.new hbel

end Go.Proofs.Ytcamegdjdjacpaa
