/-
  How many vectors have each norm: the walks, in the model and in the program.
  Conditions: the squares are nil or a row of known cells.
-/
import Derived.Test.YtihanbfbgiiakaaCntP
import Derived.Test.YtihanbfbgiiakaaSolS
import Derived.Test.YtihanbfbgiiakaaSpk
namespace Go.Proofs.Ytihanbfbgiiakaa
open Go.RowKit Go.ChangeShapes Go.WideShapes
set_option linter.unusedVariables false

def CntR (P : Nat) (S : List Int) (w : World) (e : Ending) (w' : World) : Prop := ∃ b, e = .returned (.slice (some ⟨b, 0, none⟩) P P) ∧ RowIn w.heap.size w'.heap.size w' (some ⟨b, 0, none⟩) (mkR P (cntN P S S.length)) ∧ Below w.heap.size w w'

set_option maxRecDepth 100000 in
set_option maxHeartbeats 6400000 in
theorem l03Counts_any (P : Nat) (aS : Option Addr) (S : List Int) (cS loS tpS : Nat) (w : World)
    (hS : RowIn loS tpS w aS S) (tS : tpS ≤ w.heap.size) (hs : isSp (P : Int) S = true) :
    Calls Try.prog 86 #[.agg #[.int .i64 (P : Int), .slice aS S.length cS]] w (CntR P S w) := by
  have K := isSp_iff.1 hs
  have hpb := prm_bd K.prime
  have hP13 : P ≤ 13 := by omega
  have hP0 : 0 < P := by omega
  have hS6 := K.hi
  have HS := Lib.hid hS
  have HK := Lib.hid K
  obtain ⟨n, hn⟩ : ∃ n, n = S.length := ⟨_, rfl⟩
  rw [← hn] at hS6
  have HN := Lib.hid hn
  have hn1 : S.length ≤ n ∧ n ≤ S.length := by omega
  rw [← hn]
  have hmk := fun W => run_make_row' (P := Try.prog) 31 2 (.int .i64 0) 8 Try.underlying31 info64 rfl .i64 .i64 P (by omega) (by omega) W
  have HMK := Lib.hid hmk
  have g0 := made_cell (w.alloc (.cells #[.int .i64 (P : Int), .slice aS n cS] 44)) (.int .i64 0) P 2 hP0
  have f0 : ((w.alloc (.cells #[.int .i64 (P : Int), .slice aS n cS] 44)).alloc (.cells (madeCells #[.int .i64 0] P) 2)).frozen? ⟨(w.alloc (.cells #[.int .i64 (P : Int), .slice aS n cS] 44)).heap.size, 0, none⟩ = false := by simp [go_sem]
  have HU := Lib.hid (unit_tag (w.alloc (.cells #[.int .i64 (P : Int), .slice aS n cS] 44)) hP0)
  have HU2 : Hid ((w.alloc (.cells #[.int .i64 (P : Int), .slice aS n cS] 44)).heap.size = w.heap.size + 1) := by show _ = _; simp
  rw [HU2.out] at g0 f0
  have hPi : (0 : Int) < (P : Int) := by omega
  have k1u := ((balloc (w.alloc (.cells #[.int .i64 (P : Int), .slice aS n cS] 44)) (.cells ((madeCells #[.int .i64 0] P).setIfInBounds 0 (.int .i64 1)) 2)).cell (p := ⟨w.heap.size, 1, none⟩) (show w.heap.size < (w.alloc (.cells #[.int .i64 (P : Int), .slice aS n cS] 44)).heap.size by simp)).trans (nw1 w _ _ _)
  have k0u := ((balloc (w.alloc (.cells #[.int .i64 (P : Int), .slice aS n cS] 44)) (.cells ((madeCells #[.int .i64 0] P).setIfInBounds 0 (.int .i64 1)) 2)).cell (p := ⟨w.heap.size, 0, none⟩) (show w.heap.size < (w.alloc (.cells #[.int .i64 (P : Int), .slice aS n cS] 44)).heap.size by simp)).trans (nw0 w _ _ _)
  have K0u := Lib.hid k0u
  have K1u := Lib.hid k1u
  clear hS hs K hn
  go_enter Try.func86, Try.ntmps86
  go_wp2
  clear g0 f0 hmk k0u k1u
  go_loopw [3, 4] (fun v t wr => ∃ i bo : Nat, i ≤ n ∧ t = .int .i64 i ∧ v = .slice (some ⟨bo, 0, none⟩) P P ∧ TagR (w.heap.size + 1) wr.heap.size wr (some ⟨bo, 0, none⟩) (mkR P (cntN P S i)) ∧ wr.cell? ⟨w.heap.size, 0, none⟩ = some (.int .i64 (P : Int)) ∧ wr.cell? ⟨w.heap.size, 1, none⟩ = some (.slice aS n cS) ∧ Below w.heap.size w wr ∧ w.heap.size < wr.heap.size) (fun _ t _ => n - (intOf t).toNat)
  case atStart => exact ⟨0, w.heap.size + 1, Nat.zero_le _, rfl, rfl, by have h := HU.out; rw [HU2.out] at h; exact h, K0u.out, K1u.out, by ((repeat' (first | with_reducible exact Below.refl _ _ | (with_reducible refine Below.setCell ?_ ?_ _) | (with_reducible refine Below.alloc ?_ ?_ _) | (with_reducible refine Below.drew ?_))); all_goals (first | (simp; done) | omega | (simp; omega))), by simp; omega⟩
  case round =>
    obtain ⟨i, bo, hi, rfl, rfl, hto, k0, k1, hbel, hlw⟩ := hrel
    have HTO := Lib.hid hto
    have HB := Lib.hid hbel
    have HK0 := Lib.hid k0
    have HK1 := Lib.hid k1
    rename World => wo
    clear hto
    by_cases hlt : i < n
    · have hi1 : (i : Int) < (n : Int) := by omega
      obtain ⟨bs, os, ha1, _, _, cs0⟩ := (HS.out.below hbel tS).num (by omega : i < S.length)
      subst ha1
      obtain ⟨z0, z1⟩ := HK.out.num (by omega : i < S.length)
      have HCB := Lib.hid (cntN_bd hP13 S i)
      have hb5 := bnd5 (i := i) (by omega)
      have hb6 := bnd_le (i := i) (by omega)
      have hmk := HMK.out
      have hbos : bs < wo.heap.size := World.block_lt_of_cell? wo ⟨bs, os + i, none⟩ cs0
      obtain ⟨s, hs⟩ : ∃ s, s = S.getD i 0 := ⟨_, rfl⟩
      rw [← hs] at cs0 z0 z1
      have HSS := Lib.hid hs
      have k0v := ((balloc wo (.cells (madeCells #[.int .i64 0] P) 2)).cell (p := ⟨w.heap.size, 0, none⟩) hlw).trans k0
      clear hbel hs
      go_wp2
      clear hmk k0v
      rw [HSS.out] at z0 z1 cs0
      go_loopw [6] (fun t wr => ∃ c : Nat, c ≤ P ∧ t = .int .i64 c ∧ TagR wo.heap.size wr.heap.size wr (some ⟨wo.heap.size, 0, none⟩) (mkR P (fun k => stA P (S.getD i 0) (cntN P S i) c 0 k)) ∧ Below wo.heap.size wo wr) (fun t _ => P - (intOf t).toNat)
      case atStart => exact ⟨0, Nat.zero_le _, rfl, by have h := made_tag wo P _ rfl; rw [show (mkR P fun _ => (0 : Int)) = mkR P (fun k => stA P (S.getD i 0) (cntN P S i) 0 0 k) from mkR_congr (fun j _ => by simp [stA, sm])] at h; exact h, balloc wo _⟩
      case round =>
        obtain ⟨c, h1, rfl, ht1, hb1⟩ := hrel
        have HT1 := Lib.hid ht1
        have HB1 := Lib.hid hb1
        clear ht1
        have k0 := (hb1.cell (p := ⟨w.heap.size, 0, none⟩) hlw).trans HK0.out
        by_cases hlt1 : c < P
        · have hf1 : (c : Int) < (P : Int) := by omega
          clear hb1
          
          go_wp2
          go_loopw [7] (fun t wr => ∃ x : Nat, x ≤ P ∧ t = .int .i64 x ∧ TagR wo.heap.size wr.heap.size wr (some ⟨wo.heap.size, 0, none⟩) (mkR P (fun k => stA P (S.getD i 0) (cntN P S i) c x k)) ∧ Below wo.heap.size wo wr) (fun t _ => P - (intOf t).toNat)
          case atStart => exact ⟨0, Nat.zero_le _, rfl, HT1.out, HB1.out⟩
          case round =>
            obtain ⟨x, h2, rfl, ht2, hb2⟩ := hrel
            have HT2 := Lib.hid ht2
            have HB2 := Lib.hid hb2
            have hwz2 := hb2.size
            have k0 := (hb2.cell (p := ⟨w.heap.size, 0, none⟩) hlw).trans HK0.out
            have k1 := (hb2.cell (p := ⟨w.heap.size, 1, none⟩) hlw).trans HK1.out
            by_cases hlt2 : x < P
            · have hf2 : (x : Int) < (P : Int) := by omega
              have hcs := (hb2.cell (p := ⟨bs, os + i, none⟩) hbos).trans cs0
              obtain ⟨bz, oz, haz, _, _, hcz0⟩ := (HTO.out.below hb2 (Nat.le_refl _) (Nat.le_refl _) hwz2).row.num (j := c) (by rw [mkR_len]; omega)
              cases haz
              rw [mkR_at _ (by omega : c < P), Nat.zero_add] at hcz0
              obtain ⟨y0, y1⟩ := HCB.out c
              have hlx := ixN_lt hP0 (S.getD i 0) c x
              have hcx := ixN_cast hP0 (S.getD i 0) c x
              obtain ⟨bq, oq, haq, _, _, hcq0⟩ := HT2.out.row.num (j := ixN P (S.getD i 0) c x) (by rw [mkR_len]; exact hlx)
              cases haq
              rw [mkR_at _ hlx, Nat.zero_add] at hcq0
              have hsb := st_bd (s := S.getD i 0) hP13 HCB.out (c := c) (x := x) (by omega) (by omega) (ixN P (S.getD i 0) c x)
              have hsb2 := st_bd (s := S.getD i 0) hP13 HCB.out (c := c) (x := (x + 1)) (by omega) (by omega) (ixN P (S.getD i 0) c x)
              have hfq : wr.frozen? ⟨wo.heap.size, ixN P (S.getD i 0) c x, none⟩ = false := by
                rcases HT2.out with h | ⟨b', o', cur, e, _, _, ht, _⟩
                · have := mkR_len P (fun k => stA P (S.getD i 0) (cntN P S i) c x k); rw [h] at this; simp at this; omega
                · cases e; exact free_of ht _
              have hstp := stA_next P (S.getD i 0) (cntN P S i) c x (ixN P (S.getD i 0) c x)
              rw [if_pos rfl] at hstp
              have HSET : Hid (((mkR P (fun k => stA P (S.getD i 0) (cntN P S i) c x k)).set (ixN P (S.getD i 0) c x) (stA P (S.getD i 0) (cntN P S i) c x (ixN P (S.getD i 0) c x) + cntN P S i c)) = mkR P (fun k => stA P (S.getD i 0) (cntN P S i) c (x + 1) k)) := mkR_set _ _ (fun j _ => stA_next P (S.getD i 0) (cntN P S i) c x j)
              have hmm := ixN_mod P (S.getD i 0) c x
              have hzz : S.getD i 0 * (x : Int) * (x : Int) = (x : Int) * (x : Int) * S.getD i 0 := by rw [Int.mul_comm (S.getD i 0), Int.mul_assoc, Int.mul_comm (S.getD i 0), ← Int.mul_assoc]
              obtain ⟨a, ha⟩ : ∃ a, a = ixN P (S.getD i 0) c x := ⟨_, rfl⟩
              have hz : s = S.getD i 0 := HSS.out
              rw [← ha] at hlx hcx hcq0 hsb hsb2 hfq hstp HSET
              rw [← hz] at hcx hmm hzz z0 z1 hcs hsb hsb2 hstp hcq0 HSET
              obtain ⟨y, hy⟩ : ∃ y, y = cntN P S i c := ⟨_, rfl⟩
              rw [← hy] at hcz0 y0 y1 hstp HSET
              obtain ⟨u, hu⟩ : ∃ u, u = stA P s (cntN P S i) c x a := ⟨_, rfl⟩
              rw [← hu] at hcq0 hsb hstp HSET
              rw [hstp] at hsb2
              have hal : (a : Int) < (P : Int) := by omega
              have xb : 0 ≤ (x : Int) * (x : Int) ∧ (x : Int) * (x : Int) ≤ 169 := ⟨Int.mul_nonneg (by omega) (by omega), Int.le_trans (Int.mul_le_mul_of_nonneg_right (by omega : (x : Int) ≤ 13) (by omega)) (Int.mul_le_mul_of_nonneg_left (by omega : (x : Int) ≤ 13) (by omega : (0:Int) ≤ 13))⟩
              have xm0 := Int.emod_nonneg ((x : Int) * (x : Int)) (by omega : (P : Int) ≠ 0)
              have xm1 := Int.emod_lt_of_pos ((x : Int) * (x : Int)) (by omega : 0 < (P : Int))
              have hp0 : ¬ (P : Int) = 0 := by omega
              have hp1 : ((P : Int) == 0) = false := by simpa using hp0
              have e1 : IntKind.i64.wrap ((x : Int) * (x : Int)) = (x : Int) * (x : Int) := IntWalk.i64_in _ (by omega)
              have e2 : ((x : Int) * (x : Int)).tmod (P : Int) = (x : Int) * (x : Int) % (P : Int) := Int.tmod_eq_emod_of_nonneg xb.1
              have zb : 0 ≤ (x : Int) * (x : Int) % (P : Int) * s ∧ (x : Int) * (x : Int) % (P : Int) * s ≤ 169 := ⟨Int.mul_nonneg xm0 z0, Int.le_trans (Int.mul_le_mul_of_nonneg_right (by omega : (x : Int) * (x : Int) % (P : Int) ≤ 13) z0) (Int.mul_le_mul_of_nonneg_left (by omega : s ≤ 13) (by omega : (0:Int) ≤ 13))⟩
              have e3 : IntKind.i64.wrap ((x : Int) * (x : Int) % (P : Int) * s) = (x : Int) * (x : Int) % (P : Int) * s := IntWalk.i64_in _ (by omega)
              have e4 : IntKind.i64.wrap ((c : Int) + (x : Int) * (x : Int) % (P : Int) * s) = (c : Int) + (x : Int) * (x : Int) % (P : Int) * s := IntWalk.i64_in _ (by omega)
              have e5 : ((c : Int) + (x : Int) * (x : Int) % (P : Int) * s).tmod (P : Int) = (a : Int) := (Int.tmod_eq_emod_of_nonneg (by omega)).trans (hmm.trans hcx.symm)
              clear hmm hcx hzz
              have e6 : IntKind.i64.wrap (u + y) = u + y := IntWalk.i64_in _ (by omega)
              clear ha hz hy hu hstp hb2
              go_wp2
              go_quiet (fail)
              clear e1 e2 e3 e4 e5
              go_wp2
              go_region
              go_wp2
              go_roundw
              case rel =>
                have hq : Quiet wr (wr.drewN (nq + 1)) := ⟨_, rfl⟩
                have h := (HT2.out.below (hq.below wr.heap.size) (Nat.le_refl _) (Nat.le_refl _) (hq.below 0).size).set (j := a) (by rw [mkR_len]; exact hlx) (u + y)
                have hs2 := HSET.out
                rw [HSS.out] at hs2
                rw [hs2, Nat.zero_add] at h
                exact ⟨x + 1, by omega, by go_num, h.block (Nat.le_refl _) (by simp [World.setCell]) (fun _ _ _ _ _ => rfl), (HB2.out.trans (hq.below wo.heap.size)).setCell (Nat.le_refl wo.heap.size) _⟩
              case measure => simp [intOf]; omega
            · have he : x = P := by omega
              subst he
              have HE : Hid (mkR x (fun k => stA x (S.getD i 0) (cntN x S i) c x k) = mkR x (fun k => stA x (S.getD i 0) (cntN x S i) (c + 1) 0 k)) := mkR_congr (fun j _ => stA_row _ _ _ _ _)
              clear hb2
              go_wp2
              go_roundw
              case rel => exact ⟨c + 1, by omega, by go_num, by rw [← HE.out]; exact HT2.out, HB2.out⟩
              case measure => simp [intOf]; omega
        · have he : c = P := by omega
          subst he
          have HE : Hid (mkR c (fun k => stA c (S.getD i 0) (cntN c S i) c 0 k) = mkR c (cntN c S (i + 1))) := rfl
          have hb1z := hb1.size
          have k1 := (hb1.cell (p := ⟨w.heap.size, 1, none⟩) hlw).trans HK1.out
          clear hb1
          go_wp2
          go_roundw
          case rel => exact ⟨i + 1, wo.heap.size, by omega, by go_num, rfl, by rw [← HE.out]; exact HT1.out.block (by omega) (Nat.le_refl _) (fun _ _ _ _ _ => rfl), k0, k1, HB.out.trans (HB1.out.mono (Nat.le_of_lt hlw)), by omega⟩
          case measure => simp [intOf]; omega
    · have hin : i = n := by omega
      subst hin
      clear hbel
      go_wp2
      go_ret
      exact ⟨bo, rfl, by rw [← HN.out]; exact HTO.out.row.mono (Nat.le_succ _) (Nat.le_refl _), HB.out⟩

set_option maxRecDepth 100000 in
set_option maxHeartbeats 6400000 in
theorem countsOfNorms_any (P : Nat) (aS : Option Addr) (S : List Int) (cS loS tpS : Nat) (w : World)
    (hS : RowIn loS tpS w aS S) (tS : tpS ≤ w.heap.size) (hs : isSp (P : Int) S = true) :
    Calls Try.prog 88 #[.agg #[.int .i64 (P : Int), .slice aS S.length cS]] w (CntR P S w) := by
  have K := isSp_iff.1 hs
  have hpb := prm_bd K.prime
  have hP13 : P ≤ 13 := by omega
  have hP0 : 0 < P := by omega
  have hS6 := K.hi
  have HS := Lib.hid hS
  have HK := Lib.hid K
  obtain ⟨n, hn⟩ : ∃ n, n = S.length := ⟨_, rfl⟩
  rw [← hn] at hS6
  have HN := Lib.hid hn
  have hn1 : S.length ≤ n ∧ n ≤ S.length := by omega
  rw [← hn]
  have hmk := fun W => run_make_row' (P := Try.prog) 31 2 (.int .i64 0) 8 Try.underlying31 info64 rfl .i64 .i64 P (by omega) (by omega) W
  have HMK := Lib.hid hmk
  have g0 := made_cell (w.alloc (.cells #[.int .i64 (P : Int), .slice aS n cS] 44)) (.int .i64 0) P 2 hP0
  have f0 : ((w.alloc (.cells #[.int .i64 (P : Int), .slice aS n cS] 44)).alloc (.cells (madeCells #[.int .i64 0] P) 2)).frozen? ⟨(w.alloc (.cells #[.int .i64 (P : Int), .slice aS n cS] 44)).heap.size, 0, none⟩ = false := by simp [go_sem]
  have HU := Lib.hid (unit_tag (w.alloc (.cells #[.int .i64 (P : Int), .slice aS n cS] 44)) hP0)
  have HU2 : Hid ((w.alloc (.cells #[.int .i64 (P : Int), .slice aS n cS] 44)).heap.size = w.heap.size + 1) := by show _ = _; simp
  rw [HU2.out] at g0 f0
  have hPi : (0 : Int) < (P : Int) := by omega
  have k1u := ((balloc (w.alloc (.cells #[.int .i64 (P : Int), .slice aS n cS] 44)) (.cells ((madeCells #[.int .i64 0] P).setIfInBounds 0 (.int .i64 1)) 2)).cell (p := ⟨w.heap.size, 1, none⟩) (show w.heap.size < (w.alloc (.cells #[.int .i64 (P : Int), .slice aS n cS] 44)).heap.size by simp)).trans (nw1 w _ _ _)
  have k0u := ((balloc (w.alloc (.cells #[.int .i64 (P : Int), .slice aS n cS] 44)) (.cells ((madeCells #[.int .i64 0] P).setIfInBounds 0 (.int .i64 1)) 2)).cell (p := ⟨w.heap.size, 0, none⟩) (show w.heap.size < (w.alloc (.cells #[.int .i64 (P : Int), .slice aS n cS] 44)).heap.size by simp)).trans (nw0 w _ _ _)
  have K0u := Lib.hid k0u
  have K1u := Lib.hid k1u
  clear hS hs K hn
  go_enter Try.func88, Try.ntmps88
  go_wp2
  clear g0 f0 hmk k0u k1u
  go_loopw [3, 18] (fun v t wr => ∃ i bo : Nat, i ≤ n ∧ t = .int .i64 i ∧ v = .slice (some ⟨bo, 0, none⟩) P P ∧ TagR (w.heap.size + 1) wr.heap.size wr (some ⟨bo, 0, none⟩) (mkR P (cntN P S i)) ∧ wr.cell? ⟨w.heap.size, 0, none⟩ = some (.int .i64 (P : Int)) ∧ wr.cell? ⟨w.heap.size, 1, none⟩ = some (.slice aS n cS) ∧ Below w.heap.size w wr ∧ w.heap.size < wr.heap.size) (fun _ t _ => n - (intOf t).toNat)
  case atStart => exact ⟨0, w.heap.size + 1, Nat.zero_le _, rfl, rfl, by have h := HU.out; rw [HU2.out] at h; exact h, K0u.out, K1u.out, by ((repeat' (first | with_reducible exact Below.refl _ _ | (with_reducible refine Below.setCell ?_ ?_ _) | (with_reducible refine Below.alloc ?_ ?_ _) | (with_reducible refine Below.drew ?_))); all_goals (first | (simp; done) | omega | (simp; omega))), by simp; omega⟩
  case round =>
    obtain ⟨i, bo, hi, rfl, rfl, hto, k0, k1, hbel, hlw⟩ := hrel
    have HTO := Lib.hid hto
    have HB := Lib.hid hbel
    have HK0 := Lib.hid k0
    have HK1 := Lib.hid k1
    rename World => wo
    clear hto
    by_cases hlt : i < n
    · have hi1 : (i : Int) < (n : Int) := by omega
      obtain ⟨bs, os, ha1, _, _, cs0⟩ := (HS.out.below hbel tS).num (by omega : i < S.length)
      subst ha1
      obtain ⟨z0, z1⟩ := HK.out.num (by omega : i < S.length)
      have HCB := Lib.hid (cntN_bd hP13 S i)
      have hb5 := bnd5 (i := i) (by omega)
      have hb6 := bnd_le (i := i) (by omega)
      have hmk := HMK.out
      have hbos : bs < wo.heap.size := World.block_lt_of_cell? wo ⟨bs, os + i, none⟩ cs0
      obtain ⟨s, hs⟩ : ∃ s, s = S.getD i 0 := ⟨_, rfl⟩
      rw [← hs] at cs0 z0 z1
      have HSS := Lib.hid hs
      have k0v := ((balloc wo (.cells (madeCells #[.int .i64 0] P) 2)).cell (p := ⟨w.heap.size, 0, none⟩) hlw).trans k0
      clear hbel hs
      go_wp2
      clear hmk k0v
      rw [HSS.out] at z0 z1 cs0
      go_loopw [27] (fun t wr => ∃ x : Nat, x ≤ P ∧ t = .int .i64 x ∧ TagR wo.heap.size wr.heap.size wr (some ⟨wo.heap.size, 0, none⟩) (mkR P (fun k => stB P (S.getD i 0) (cntN P S i) 0 x k)) ∧ Below wo.heap.size wo wr) (fun t _ => P - (intOf t).toNat)
      case atStart => exact ⟨0, Nat.zero_le _, rfl, by have h := made_tag wo P _ rfl; rw [show (mkR P fun _ => (0 : Int)) = mkR P (fun k => stB P (S.getD i 0) (cntN P S i) 0 0 k) from mkR_congr (fun j _ => by simp [stB, sm])] at h; exact h, balloc wo _⟩
      case round =>
        obtain ⟨x, h1, rfl, ht1, hb1⟩ := hrel
        have HT1 := Lib.hid ht1
        have HB1 := Lib.hid hb1
        clear ht1
        have k0 := (hb1.cell (p := ⟨w.heap.size, 0, none⟩) hlw).trans HK0.out
        by_cases hlt1 : x < P
        · have hf1 : (x : Int) < (P : Int) := by omega
          clear hb1
          
          go_wp2
          go_loopw [32] (fun t wr => ∃ c : Nat, c ≤ P ∧ t = .int .i64 c ∧ TagR wo.heap.size wr.heap.size wr (some ⟨wo.heap.size, 0, none⟩) (mkR P (fun k => stB P (S.getD i 0) (cntN P S i) c x k)) ∧ Below wo.heap.size wo wr) (fun t _ => P - (intOf t).toNat)
          case atStart => exact ⟨0, Nat.zero_le _, rfl, HT1.out, HB1.out⟩
          case round =>
            obtain ⟨c, h2, rfl, ht2, hb2⟩ := hrel
            have HT2 := Lib.hid ht2
            have HB2 := Lib.hid hb2
            have hwz2 := hb2.size
            have k0 := (hb2.cell (p := ⟨w.heap.size, 0, none⟩) hlw).trans HK0.out
            have k1 := (hb2.cell (p := ⟨w.heap.size, 1, none⟩) hlw).trans HK1.out
            by_cases hlt2 : c < P
            · have hf2 : (c : Int) < (P : Int) := by omega
              have hcs := (hb2.cell (p := ⟨bs, os + i, none⟩) hbos).trans cs0
              obtain ⟨bz, oz, haz, _, _, hcz0⟩ := (HTO.out.below hb2 (Nat.le_refl _) (Nat.le_refl _) hwz2).row.num (j := c) (by rw [mkR_len]; omega)
              cases haz
              rw [mkR_at _ (by omega : c < P), Nat.zero_add] at hcz0
              obtain ⟨y0, y1⟩ := HCB.out c
              have hlx := ixN_lt hP0 (S.getD i 0) c x
              have hcx := ixN_cast hP0 (S.getD i 0) c x
              obtain ⟨bq, oq, haq, _, _, hcq0⟩ := HT2.out.row.num (j := ixN P (S.getD i 0) c x) (by rw [mkR_len]; exact hlx)
              cases haq
              rw [mkR_at _ hlx, Nat.zero_add] at hcq0
              have hsb := st_bd (s := S.getD i 0) hP13 HCB.out (c := c) (x := x) (by omega) (by omega) (ixN P (S.getD i 0) c x)
              have hsb2 := st_bd (s := S.getD i 0) hP13 HCB.out (c := (c + 1)) (x := x) (by omega) (by omega) (ixN P (S.getD i 0) c x)
              have hfq : wr.frozen? ⟨wo.heap.size, ixN P (S.getD i 0) c x, none⟩ = false := by
                rcases HT2.out with h | ⟨b', o', cur, e, _, _, ht, _⟩
                · have := mkR_len P (fun k => stB P (S.getD i 0) (cntN P S i) c x k); rw [h] at this; simp at this; omega
                · cases e; exact free_of ht _
              have hstp := stB_next P (S.getD i 0) (cntN P S i) c x (ixN P (S.getD i 0) c x)
              rw [if_pos rfl] at hstp
              have HSET : Hid (((mkR P (fun k => stB P (S.getD i 0) (cntN P S i) c x k)).set (ixN P (S.getD i 0) c x) (stB P (S.getD i 0) (cntN P S i) c x (ixN P (S.getD i 0) c x) + cntN P S i c)) = mkR P (fun k => stB P (S.getD i 0) (cntN P S i) (c + 1) x k)) := mkR_set _ _ (fun j _ => stB_next P (S.getD i 0) (cntN P S i) c x j)
              have hmm := ixN_mod P (S.getD i 0) c x
              have hzz : S.getD i 0 * (x : Int) * (x : Int) = (x : Int) * (x : Int) * S.getD i 0 := by rw [Int.mul_comm (S.getD i 0), Int.mul_assoc, Int.mul_comm (S.getD i 0), ← Int.mul_assoc]
              obtain ⟨a, ha⟩ : ∃ a, a = ixN P (S.getD i 0) c x := ⟨_, rfl⟩
              have hz : s = S.getD i 0 := HSS.out
              rw [← ha] at hlx hcx hcq0 hsb hsb2 hfq hstp HSET
              rw [← hz] at hcx hmm hzz z0 z1 hcs hsb hsb2 hstp hcq0 HSET
              obtain ⟨y, hy⟩ : ∃ y, y = cntN P S i c := ⟨_, rfl⟩
              rw [← hy] at hcz0 y0 y1 hstp HSET
              obtain ⟨u, hu⟩ : ∃ u, u = stB P s (cntN P S i) c x a := ⟨_, rfl⟩
              rw [← hu] at hcq0 hsb hstp HSET
              rw [hstp] at hsb2
              have hal : (a : Int) < (P : Int) := by omega
              have xb : 0 ≤ (x : Int) * (x : Int) ∧ (x : Int) * (x : Int) ≤ 169 := ⟨Int.mul_nonneg (by omega) (by omega), Int.le_trans (Int.mul_le_mul_of_nonneg_right (by omega : (x : Int) ≤ 13) (by omega)) (Int.mul_le_mul_of_nonneg_left (by omega : (x : Int) ≤ 13) (by omega : (0:Int) ≤ 13))⟩
              have xm0 := Int.emod_nonneg ((x : Int) * (x : Int)) (by omega : (P : Int) ≠ 0)
              have xm1 := Int.emod_lt_of_pos ((x : Int) * (x : Int)) (by omega : 0 < (P : Int))
              have hp0 : ¬ (P : Int) = 0 := by omega
              have hp1 : ((P : Int) == 0) = false := by simpa using hp0
              have sb : 0 ≤ s * (x : Int) ∧ s * (x : Int) ≤ 169 := ⟨Int.mul_nonneg z0 (by omega), Int.le_trans (Int.mul_le_mul_of_nonneg_right (by omega : s ≤ 13) (by omega)) (Int.mul_le_mul_of_nonneg_left (by omega : (x : Int) ≤ 13) (by omega : (0:Int) ≤ 13))⟩
              have tb : 0 ≤ s * (x : Int) * (x : Int) ∧ s * (x : Int) * (x : Int) ≤ 2197 := ⟨Int.mul_nonneg sb.1 (by omega), Int.le_trans (Int.mul_le_mul_of_nonneg_right sb.2 (by omega)) (Int.mul_le_mul_of_nonneg_left (by omega : (x : Int) ≤ 13) (by omega : (0:Int) ≤ 169))⟩
              have e1 : IntKind.i64.wrap (s * (x : Int)) = s * (x : Int) := IntWalk.i64_in _ (by omega)
              have e2 : IntKind.i64.wrap (s * (x : Int) * (x : Int)) = s * (x : Int) * (x : Int) := IntWalk.i64_in _ (by omega)
              have e4 : IntKind.i64.wrap ((c : Int) + s * (x : Int) * (x : Int)) = (c : Int) + s * (x : Int) * (x : Int) := IntWalk.i64_in _ (by omega)
              have e5 : ((c : Int) + s * (x : Int) * (x : Int)).tmod (P : Int) = (a : Int) := (Int.tmod_eq_emod_of_nonneg (by omega)).trans (by rw [hzz]; exact hcx.symm)
              clear hmm hcx hzz
              have e6 : IntKind.i64.wrap (u + y) = u + y := IntWalk.i64_in _ (by omega)
              clear ha hz hy hu hstp hb2
              go_wp2
              go_roundw
              case rel =>
                have h := HT2.out.set (j := a) (by rw [mkR_len]; exact hlx) (u + y)
                have hs2 := HSET.out
                rw [HSS.out] at hs2
                rw [hs2, Nat.zero_add] at h
                exact ⟨c + 1, by omega, by go_num, h.block (Nat.le_refl _) (by simp [World.setCell]) (fun _ _ _ _ _ => rfl), HB2.out.setCell (Nat.le_refl wo.heap.size) _⟩
              case measure => simp [intOf]; omega
            · have he : c = P := by omega
              subst he
              have HE : Hid (mkR c (fun k => stB c (S.getD i 0) (cntN c S i) c x k) = mkR c (fun k => stB c (S.getD i 0) (cntN c S i) 0 (x + 1) k)) := mkR_congr (fun j _ => stB_row _ _ _ _ _)
              clear hb2
              go_wp2
              go_roundw
              case rel => exact ⟨x + 1, by omega, by go_num, by rw [← HE.out]; exact HT2.out, HB2.out⟩
              case measure => simp [intOf]; omega
        · have he : x = P := by omega
          subst he
          have HE : Hid (mkR x (fun k => stB x (S.getD i 0) (cntN x S i) 0 x k) = mkR x (cntN x S (i + 1))) := mkR_congr (fun j _ => stB_end _ _ _ _)
          have hb1z := hb1.size
          have k1 := (hb1.cell (p := ⟨w.heap.size, 1, none⟩) hlw).trans HK1.out
          clear hb1
          go_wp2
          go_roundw
          case rel => exact ⟨i + 1, wo.heap.size, by omega, by go_num, rfl, by rw [← HE.out]; exact HT1.out.block (by omega) (Nat.le_refl _) (fun _ _ _ _ _ => rfl), k0, k1, HB.out.trans (HB1.out.mono (Nat.le_of_lt hlw)), by omega⟩
          case measure => simp [intOf]; omega
    · have hin : i = n := by omega
      subst hin
      clear hbel
      go_wp2
      go_ret
      exact ⟨bo, rfl, by rw [← HN.out]; exact HTO.out.row.mono (Nat.le_succ _) (Nat.le_refl _), HB.out⟩

end Go.Proofs.Ytihanbfbgiiakaa
