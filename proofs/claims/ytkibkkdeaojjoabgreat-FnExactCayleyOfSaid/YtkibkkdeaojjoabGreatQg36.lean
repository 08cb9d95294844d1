/-
  The program's factors behind a blade: contract.
  Conditions: a mask of at most six bits; the squares are a row of known cells with numbers of the prime.
-/
import Derived.Test.YtkibkkdeaojjoabGreatQg35
import Derived.Deep.DeepAppendRoom
import Derived.Deep.DeepCutAuto
namespace Go.Proofs.YtkibkkdeaojjoabGreat
open Go.RowKit
set_option linter.unusedVariables false

theorem gradeOf_shr (a i : Nat) (ha : a < 64) (w : World) : Calls Tryz.prog 55 #[.int .i64 ((a : Int) / 2 ^ i)] w fun e w' => e = .returned (.int .i64 (gr (a / 2 ^ i))) ∧ w = w' := by
  rw [shr_nat]; exact gradeOf_any _ (shr_lt ha i) w
/-- Room of one's own at a known block: a list with capacity. -/
def RoomR (w : World) (g cap : Nat) (zs : List Int) : Prop := w.ownsRow g 2 1 (.slice (some ⟨g, 0, none⟩) zs.length cap) zs.length (zs.map (Value.int .i64))
theorem RoomR.cell {w : World} {g cap : Nat} {zs : List Int} (h : RoomR w g cap zs) {j : Nat} (hj : j < zs.length) : w.cell? ⟨g, j, none⟩ = some (.int .i64 (zs.getD j 0)) := by
  have h2 := World.ownsRow.cells h (g := g) rfl j (.int .i64 (zs.getD j 0)) (by simp [hj, List.getD])
  rw [Addr.add_lit, Nat.zero_add] at h2
  exact h2
theorem RoomR.row {w : World} {g n : Nat} {f : Nat → Int} (h : RoomR w g n (mkR n f)) : RowOwn w g 0 n f := by
  refine ⟨fun j hj => ?_, fun j hj => ?_⟩
  · have h2 := h.cell (j := j) (by rw [mkR_len]; exact hj)
    rw [mkR_at _ hj] at h2
    rw [Nat.zero_add]; exact h2
  · obtain ⟨_, h⟩ := h
    rcases h with ⟨h, _⟩ | ⟨g', cap, cur, hv, hb, hg, hnc, hcm, hcs, htake⟩
    · cases h
    · cases hv
      simp [World.frozen?, hg]
theorem RoomR.start (w : World) {n : Nat} (hn : 0 < n) (hm : n ≤ 64) (v : Int) : RoomR (w.alloc (.cells ((madeCells #[.int .i64 0] n).setIfInBounds 0 (.int .i64 v)) 2)) w.heap.size n [v] := by
  refine ⟨rfl, .inr ⟨w.heap.size, n, (madeCells #[.int .i64 0] n).setIfInBounds 0 (.int .i64 v), rfl, Nat.le_refl _, heap_alloc_new w _, hn, by unfold maxLen; omega, by simp [size_madeCells], ?_⟩⟩
  obtain ⟨k, rfl⟩ : ∃ k, n = k + 1 := ⟨n - 1, by omega⟩
  have e : ((madeCells #[.int .i64 0] (k + 1)).setIfInBounds 0 (Value.int .i64 v)).toList = (Value.int .i64 v) :: ((madeCells #[.int .i64 0] (k + 1)).setIfInBounds 0 (Value.int .i64 v)).toList.drop 1 := by
    have hl : 0 < ((madeCells #[Value.int .i64 0] (k + 1)).setIfInBounds 0 (Value.int .i64 v)).toList.length := by simp [size_madeCells]
    rw [List.drop_one]
    have h2 := List.cons_head_tail (List.ne_nil_of_length_pos hl)
    rw [← h2]
    simp [List.head_eq_getElem]
  rw [e]; rfl
theorem RoomR.below {w w' : World} {B g n : Nat} {zs : List Int} (h : RoomR w g n zs) (hb : Below B w w') (hg : g < B) : RoomR w' g n zs := by
  obtain ⟨h0, h1⟩ := h
  rcases h1 with ⟨h1, _⟩ | ⟨g', cap, cur, hv, hb1, hg1, hnc, hcm, hcs, htake⟩
  · cases h1
  · cases hv
    exact ⟨h0, .inr ⟨g, n, cur, rfl, hb1, (hb.block g hg).trans hg1, hnc, hcm, hcs, htake⟩⟩
theorem half_bit {k i : Nat} (h : k < 2 ^ i) : k / 2 ^ i % 2 = 0 ∧ (k + 2 ^ i) / 2 ^ i % 2 = 1 := by
  have hp := Nat.two_pow_pos i
  rw [Nat.div_eq_of_lt h, Nat.add_div_right k hp, Nat.div_eq_of_lt h]
  exact ⟨rfl, rfl⟩
theorem mkR_snoc (k : Nat) (f : Nat → Int) : mkR (k + 1) f = mkR k f ++ [f k] := by simp [mkR, List.range_succ]
theorem fi_bd {p : Int} (hp : 3 ≤ p) (S : List Int) (a i : Nat) : 0 ≤ fi p S a i ∧ fi p S a i < p := by
  unfold fi
  split
  · exact ⟨Int.emod_nonneg _ (by omega), Int.emod_lt_of_pos _ (by omega)⟩
  · split <;> omega

set_option maxRecDepth 100000 in
set_option maxHeartbeats 3200000 in
theorem factorsBehind_any (p : Int) (aS : Option Addr) (S : List Int) (cS loS tpS : Nat) (a : Nat) (w : World) (hp : prm p = true) (h6 : S.length ≤ 6) (hS : RowIn loS tpS w aS S) (tS : tpS ≤ w.heap.size) (hn : Nums p S) (ha : a < 64) :
    Calls Tryz.prog 114 #[.agg #[.int .i64 p, .slice aS S.length cS], .int .i64 a] w (NewRow (bl S) (fun b => fm p S a b S.length) w) := by
  have hpb := prm_bd hp
  have hbl := bl_le h6
  have hb0 := bl_pos S
  obtain ⟨i0, hi, hz0, hz1, hz2⟩ := info_parts info64
  obtain ⟨n, hnn⟩ : ∃ n, n = bl S := ⟨_, rfl⟩
  rw [← hnn] at hbl hb0 ⊢
  have HNN := Lib.hid hnn
  have hmk : ∀ W, (Instr.makeSlice 22 (.int .i64 1) (.int .i64 (n : Int))).run Tryz.prog W = .ok (.slice (some ⟨W.heap.size, 0, none⟩) 1 n) (W.alloc (.cells (madeCells #[.int .i64 0] n) 2)) := fun W => by
    have h := Go.run_make (P := Tryz.prog) W 22 2 i0 (.int .i64 0) Tryz.underlying22 hi hz0 .i64 .i64 1 n (by omega) (by omega) (by rw [hz2]; omega) (by omega)
    simp only [Int.toNat_natCast, hz1, Nat.mul_one] at h
    exact h
  have HS := Lib.hid hS
  have HN := Lib.hid hn
  have HB0 := Lib.hid (below_alloc w (.cells #[.int .i64 p, .slice aS S.length cS] 29))
  have k0 := nw0 w (.int .i64 p) (.slice aS S.length cS) 29
  have k1 := nw1 w (.int .i64 p) (.slice aS S.length cS) 29
  clear hS hn hnn
  go_enter Tryz.func114, Tryz.ntmps114
  go_upto_region 1 with fail
  obtain ⟨w1, hw1⟩ : ∃ z, z = w.alloc (.cells #[.int .i64 p, .slice aS S.length cS] 29) := ⟨_, rfl⟩
  rw [← hw1] at HB0 k0 k1 ⊢
  have hw0 : w.heap.size < w1.heap.size := by rw [hw1]; simp
  clear hw1
  go_upto_region 3 with (go_at_call 54; (with_reducible refine (blades_any p aS S cS _ h6).mono ?_); rintro e w2 ⟨rfl, b2⟩; rw [← HNN.out]; have B2 := Lib.hid b2; have z2 := b2.size; have g0 := made_cell w2 (.int .i64 0) n 2 hb0; have f0 : (w2.alloc (.cells (madeCells #[.int .i64 0] n) 2)).frozen? ⟨w2.heap.size, 0, none⟩ = false := (by simp [go_sem]); clear b2)
  obtain ⟨g, hg⟩ : ∃ b, b = w2.heap.size := ⟨_, rfl⟩
  obtain ⟨w3, hw3⟩ : ∃ z, z = w2.alloc (.cells ((madeCells #[.int .i64 0] n).setIfInBounds 0 (.int .i64 1)) 2) := ⟨_, rfl⟩
  have HR3 : Hid (RoomR w3 g n (mkR (2 ^ 0) (fun b => fm p S a b 0))) := by
    show RoomR _ _ _ _
    rw [hw3, hg, show mkR (2 ^ 0) (fun b => fm p S a b 0) = [1] by show [fm p S a 0 0] = [1]; rw [fm_zero (by omega)]]
    exact RoomR.start w2 hb0 hbl 1
  have HB2 : Hid (Below w.heap.size w w2) := HB0.out.trans (B2.out.mono (by omega))
  have HB3 : Hid (Below w.heap.size w w3) := by show Below _ _ _; rw [hw3]; exact HB2.out.alloc HB2.out.size _
  have hz3 : w2.heap.size < w3.heap.size := by rw [hw3]; simp
  have K0 : Hid (w3.cell? ⟨w.heap.size, 0, none⟩ = some (.int .i64 p)) := by show _ = _; rw [hw3]; exact (World.cell?_alloc_old _ _ _ (show w.heap.size ≠ w2.heap.size by omega)).trans ((B2.out.cell (p := ⟨w.heap.size, 0, none⟩) hw0).trans k0)
  have K1 : Hid (w3.cell? ⟨w.heap.size, 1, none⟩ = some (.slice aS S.length cS)) := by show _ = _; rw [hw3]; exact (World.cell?_alloc_old _ _ _ (show w.heap.size ≠ w2.heap.size by omega)).trans ((B2.out.cell (p := ⟨w.heap.size, 1, none⟩) hw0).trans k1)
  have k1 := K1.out
  have hwg : w.heap.size < g := by omega
  have hgl : g < w3.heap.size := by omega
  rw [← hw3, ← hg]
  clear hw3 hmk g0 f0 hg z2
  go_wp2
  go_loopw [5, 19] (fun v t wr => ∃ i : Nat, i ≤ S.length ∧ v = .slice (some ⟨g, 0, none⟩) (2 ^ i) n ∧ t = .int .i64 i ∧ RoomR wr g n (mkR (2 ^ i) (fun b => fm p S a b i)) ∧ wr.cell? ⟨w.heap.size, 0, none⟩ = some (.int .i64 p) ∧ Below w.heap.size w wr ∧ g < wr.heap.size) (fun _ t _ => S.length - (intOf t).toNat)
  case atStart => exact ⟨0, Nat.zero_le _, rfl, rfl, HR3.out, K0.out, HB3.out, hgl⟩
  case round =>
    obtain ⟨i, hile, rfl, rfl, hr, hk0, hbel, hgw⟩ := hrel
    rename World => wo
    have HR := Lib.hid hr
    have HK0 := Lib.hid hk0
    have HB := Lib.hid hbel
    have hwz := hbel.size
    by_cases hlt : i < S.length
    · obtain ⟨bx, ox, hax, _, ux, hcx⟩ := (HS.out.below hbel tS).num hlt
      subst hax
      have hi1 : (i : Int) < (S.length : Int) := by omega
      obtain ⟨s0, s1⟩ := HN.out i hlt
      obtain ⟨s, hs⟩ : ∃ s, s = S.getD i 0 := ⟨_, rfl⟩
      have HSS := Lib.hid hs
      rw [← hs] at hcx s0 s1
      have hpn : 2 ^ i + 2 ^ i ≤ n := by
        rw [HNN.out]; unfold bl
        have h := Nat.pow_le_pow_right (show 0 < 2 by decide) (show i + 1 ≤ S.length by omega)
        rw [Nat.pow_succ] at h; omega
      obtain ⟨m, hm⟩ : ∃ m, m = 2 ^ i := ⟨_, rfl⟩
      have HM := Lib.hid hm
      rw [← hm] at hpn ⊢
      rw [← hm] at HR
      clear hs hr hbel hm
      by_cases hg : gr (a / 2 ^ (i + 1)) % 2 = 1
      · have e4 : (((gr (a / 2 ^ (i + 1)) : Nat) : Int) % 2 == 1) = true := by simp; omega
        have e6 : IntKind.i64.wrap (p - 1) = p - 1 := IntWalk.i64_in _ (by omega)
        by_cases hai : a / 2 ^ i % 2 = 1
        · have e5 : (bits BinOp.and IntKind.i64 ((a : Int) / 2 ^ i) 1 == 1) = true := by rw [and_shr ha]; rw [hai]; rfl
          have hf : fi p S a i = (p - 1) * s % p := by unfold fi; rw [if_pos hai, if_pos hg, ← HSS.out]
          obtain ⟨m0, m1⟩ := mul_bd' hpb.2 (show 0 ≤ p - 1 by omega) (show p - 1 < p by omega) s0 s1
          have e8 : IntKind.i64.wrap ((p - 1) * s) = (p - 1) * s := IntWalk.i64_in _ (by omega)
          have e9 : ((p - 1) * s).tmod p = (p - 1) * s % p := Int.tmod_eq_emod_of_nonneg m0
          have hp0 : ¬ p = 0 := by omega
          have hp1 : (p == 0) = false := by simpa using hp0
          obtain ⟨f, hf2⟩ : ∃ f : Int, f = (p - 1) * s % p := ⟨_, rfl⟩
          rw [← hf2] at hf
          rw [← hf2] at e9
          have HF := Lib.hid hf
          obtain ⟨f0, f1⟩ := fi_bd hpb.1 S a i
          rw [hf] at f0 f1
          clear hg hai hf hf2
          go_wp2_with (first | (go_at_call 55; refine (gradeOf_shr a (i + 1) ha _).mono ?_; rintro e w4 ⟨rfl, rfl⟩))
          go_loopw [5, 47] (fun v t wr => ∃ k : Nat, k ≤ m ∧ v = .slice (some ⟨g, 0, none⟩) (m + k) n ∧ t = .int .i64 k ∧ RoomR wr g n (mkR (m + k) (fun b => fm p S a b (i + 1))) ∧ wr.cell? ⟨w.heap.size, 0, none⟩ = some (.int .i64 p) ∧ Below w.heap.size w wr ∧ g < wr.heap.size) (fun _ t _ => m - (intOf t).toNat)
          case atStart => exact ⟨0, Nat.zero_le _, rfl, rfl, (mkR_congr (c := m) (f := fun b => fm p S a b i) (g := fun b => fm p S a b (i + 1)) (fun b hb => (fm_skip p S (half_bit (HM.out ▸ hb)).1).symm)) ▸ HR.out, HK0.out, HB.out, hgw⟩
          case round =>
            obtain ⟨k, hk, rfl, rfl, hr, hk0, hbel, hgw2⟩ := hrel
            have HRK := Lib.hid hr
            have HK0' := Lib.hid hk0
            have HBK := Lib.hid hbel
            have hwz2 := hbel.size
            by_cases hltk : k < m
            · have c0 := hr.cell (j := k) (by rw [mkR_len]; omega)
              rw [mkR_at _ (by omega)] at c0
              obtain ⟨y0, y1⟩ := fm_bd (show 0 < p by omega) S a k (i + 1)
              have HST : Hid (fm p S a (m + k) (i + 1) = fm p S a k (i + 1) * f % p) := by
                show _ = _
                have hkp : k < 2 ^ i := HM.out ▸ hltk
                rw [Nat.add_comm, HM.out, fm_step p S (half_bit hkp).2, fm_add, fm_skip p S (half_bit hkp).1, HF.out]
              obtain ⟨y, hy⟩ : ∃ y, y = fm p S a k (i + 1) := ⟨_, rfl⟩
              rw [← hy] at c0 y0 y1 HST
              have hk1 : (k : Int) < (m : Int) := by omega
              obtain ⟨m0, m1⟩ := mul_bd' hpb.2 y0 y1 f0 f1
              have e1 : IntKind.i64.wrap (y * f) = y * f := IntWalk.i64_in _ (by omega)
              have e2 : (y * f).tmod p = y * f % p := Int.tmod_eq_emod_of_nonneg m0
              obtain ⟨X, hX⟩ : ∃ X, X = (mkR (m + k) (fun b => fm p S a b (i + 1))).map (Value.int .i64) := ⟨_, rfl⟩
              have HX := Lib.hid hX
              have HO : Hid (wr.ownsRow g 2 1 (.slice (some ⟨g, 0, none⟩) (m + k) n) (m + k) X) := by
                have h := HRK.out; unfold RoomR at h; rw [mkR_len, ← hX] at h; exact h
              clear hr hbel hy hX
              go_wp2_with (first | (at_builtin; refine wpList_append_own_spare _ rfl _ _ 22 rfl g 2 i0 1 Tryz.underlying22 hi hz1 g (m + k) n X rfl (HO.out.alloc _) ⟨wr.heap.size, 0, none⟩ 1 1 [.int .i64 (y * f % p)] rfl rfl (World.news_of_block (cs := #[.int .i64 (y * f % p)]) (t := 2) (fr := (0, 0)) (heap_alloc_new wr _)) (by simp [Value.oneCell']) (by omega) ?_; intro w5 hown1 hgrow1))
              have hz5 := hgrow1.size
              simp at hz5
              go_roundw
              case rel => exact ⟨k + 1, by omega, rfl, by go_num, by
                  unfold RoomR; rw [mkR_len, show m + (k + 1) = m + k + 1 from rfl, mkR_snoc, List.map_append, ← HX.out, HST.out]; exact hown1,
                (hgrow1.cell_far ⟨w.heap.size, 0, none⟩ (by simp; omega) (by simp; omega)).trans ((World.cell?_alloc_old _ _ _ (show w.heap.size ≠ wr.heap.size by omega)).trans HK0'.out), (HBK.out.alloc hwz2 _).grown hgrow1 (by simp; omega) (fun j hj => by cases hj; omega), by omega⟩
              case measure => simp [intOf]; omega
            · have hkm : k = m := by omega
              subst hkm
              clear hr hbel
              go_wp2
              go_roundw
              case rel => exact ⟨i + 1, by omega, by rw [Nat.pow_succ, ← HM.out]; congr 1; omega, by go_num, by
                  have h := HRK.out; rw [show k + k = 2 ^ (i + 1) by rw [Nat.pow_succ, ← HM.out]; omega] at h; exact h, HK0'.out, HBK.out, hgw2⟩
              case measure => simp [intOf]; omega
        · have e5 : (bits BinOp.and IntKind.i64 ((a : Int) / 2 ^ i) 1 == 1) = false := by rw [and_shr ha]; rw [two_cases hai]; rfl
          have hf : fi p S a i = p - 1 := by unfold fi; rw [if_neg hai, if_pos hg]
          have hp0 : ¬ p = 0 := by omega
          have hp1 : (p == 0) = false := by simpa using hp0
          obtain ⟨f, hf2⟩ : ∃ f : Int, f = p - 1 := ⟨_, rfl⟩
          rw [← hf2] at hf
          have HF := Lib.hid hf
          obtain ⟨f0, f1⟩ := fi_bd hpb.1 S a i
          rw [hf] at f0 f1
          clear hg hai hf
          go_wp2_with (first | (go_at_call 55; refine (gradeOf_shr a (i + 1) ha _).mono ?_; rintro e w4 ⟨rfl, rfl⟩))
          rw [← hf2]
          clear hf2
          go_loopw [5, 47] (fun v t wr => ∃ k : Nat, k ≤ m ∧ v = .slice (some ⟨g, 0, none⟩) (m + k) n ∧ t = .int .i64 k ∧ RoomR wr g n (mkR (m + k) (fun b => fm p S a b (i + 1))) ∧ wr.cell? ⟨w.heap.size, 0, none⟩ = some (.int .i64 p) ∧ Below w.heap.size w wr ∧ g < wr.heap.size) (fun _ t _ => m - (intOf t).toNat)
          case atStart => exact ⟨0, Nat.zero_le _, rfl, rfl, (mkR_congr (c := m) (f := fun b => fm p S a b i) (g := fun b => fm p S a b (i + 1)) (fun b hb => (fm_skip p S (half_bit (HM.out ▸ hb)).1).symm)) ▸ HR.out, HK0.out, HB.out, hgw⟩
          case round =>
            obtain ⟨k, hk, rfl, rfl, hr, hk0, hbel, hgw2⟩ := hrel
            have HRK := Lib.hid hr
            have HK0' := Lib.hid hk0
            have HBK := Lib.hid hbel
            have hwz2 := hbel.size
            by_cases hltk : k < m
            · have c0 := hr.cell (j := k) (by rw [mkR_len]; omega)
              rw [mkR_at _ (by omega)] at c0
              obtain ⟨y0, y1⟩ := fm_bd (show 0 < p by omega) S a k (i + 1)
              have HST : Hid (fm p S a (m + k) (i + 1) = fm p S a k (i + 1) * f % p) := by
                show _ = _
                have hkp : k < 2 ^ i := HM.out ▸ hltk
                rw [Nat.add_comm, HM.out, fm_step p S (half_bit hkp).2, fm_add, fm_skip p S (half_bit hkp).1, HF.out]
              obtain ⟨y, hy⟩ : ∃ y, y = fm p S a k (i + 1) := ⟨_, rfl⟩
              rw [← hy] at c0 y0 y1 HST
              have hk1 : (k : Int) < (m : Int) := by omega
              obtain ⟨m0, m1⟩ := mul_bd' hpb.2 y0 y1 f0 f1
              have e1 : IntKind.i64.wrap (y * f) = y * f := IntWalk.i64_in _ (by omega)
              have e2 : (y * f).tmod p = y * f % p := Int.tmod_eq_emod_of_nonneg m0
              obtain ⟨X, hX⟩ : ∃ X, X = (mkR (m + k) (fun b => fm p S a b (i + 1))).map (Value.int .i64) := ⟨_, rfl⟩
              have HX := Lib.hid hX
              have HO : Hid (wr.ownsRow g 2 1 (.slice (some ⟨g, 0, none⟩) (m + k) n) (m + k) X) := by
                have h := HRK.out; unfold RoomR at h; rw [mkR_len, ← hX] at h; exact h
              clear hr hbel hy hX
              go_wp2_with (first | (at_builtin; refine wpList_append_own_spare _ rfl _ _ 22 rfl g 2 i0 1 Tryz.underlying22 hi hz1 g (m + k) n X rfl (HO.out.alloc _) ⟨wr.heap.size, 0, none⟩ 1 1 [.int .i64 (y * f % p)] rfl rfl (World.news_of_block (cs := #[.int .i64 (y * f % p)]) (t := 2) (fr := (0, 0)) (heap_alloc_new wr _)) (by simp [Value.oneCell']) (by omega) ?_; intro w5 hown1 hgrow1))
              have hz5 := hgrow1.size
              simp at hz5
              go_roundw
              case rel => exact ⟨k + 1, by omega, rfl, by go_num, by
                  unfold RoomR; rw [mkR_len, show m + (k + 1) = m + k + 1 from rfl, mkR_snoc, List.map_append, ← HX.out, HST.out]; exact hown1,
                (hgrow1.cell_far ⟨w.heap.size, 0, none⟩ (by simp; omega) (by simp; omega)).trans ((World.cell?_alloc_old _ _ _ (show w.heap.size ≠ wr.heap.size by omega)).trans HK0'.out), (HBK.out.alloc hwz2 _).grown hgrow1 (by simp; omega) (fun j hj => by cases hj; omega), by omega⟩
              case measure => simp [intOf]; omega
            · have hkm : k = m := by omega
              subst hkm
              clear hr hbel
              go_wp2
              go_roundw
              case rel => exact ⟨i + 1, by omega, by rw [Nat.pow_succ, ← HM.out]; congr 1; omega, by go_num, by
                  have h := HRK.out; rw [show k + k = 2 ^ (i + 1) by rw [Nat.pow_succ, ← HM.out]; omega] at h; exact h, HK0'.out, HBK.out, hgw2⟩
              case measure => simp [intOf]; omega
      · have e4 : (((gr (a / 2 ^ (i + 1)) : Nat) : Int) % 2 == 1) = false := by simp; omega
        by_cases hai : a / 2 ^ i % 2 = 1
        · have e5 : (bits BinOp.and IntKind.i64 ((a : Int) / 2 ^ i) 1 == 1) = true := by rw [and_shr ha]; rw [hai]; rfl
          have hf : fi p S a i = s % p := by unfold fi; rw [if_pos hai, if_neg hg, ← HSS.out]; rw [Int.one_mul]
          have e9 : s.tmod p = s % p := Int.tmod_eq_emod_of_nonneg s0
          have hp0 : ¬ p = 0 := by omega
          have hp1 : (p == 0) = false := by simpa using hp0
          obtain ⟨f, hf2⟩ : ∃ f : Int, f = s % p := ⟨_, rfl⟩
          rw [← hf2] at hf
          rw [← hf2] at e9
          have HF := Lib.hid hf
          obtain ⟨f0, f1⟩ := fi_bd hpb.1 S a i
          rw [hf] at f0 f1
          clear hg hai hf hf2
          go_wp2_with (first | (go_at_call 55; refine (gradeOf_shr a (i + 1) ha _).mono ?_; rintro e w4 ⟨rfl, rfl⟩))
          go_loopw [5, 47] (fun v t wr => ∃ k : Nat, k ≤ m ∧ v = .slice (some ⟨g, 0, none⟩) (m + k) n ∧ t = .int .i64 k ∧ RoomR wr g n (mkR (m + k) (fun b => fm p S a b (i + 1))) ∧ wr.cell? ⟨w.heap.size, 0, none⟩ = some (.int .i64 p) ∧ Below w.heap.size w wr ∧ g < wr.heap.size) (fun _ t _ => m - (intOf t).toNat)
          case atStart => exact ⟨0, Nat.zero_le _, rfl, rfl, (mkR_congr (c := m) (f := fun b => fm p S a b i) (g := fun b => fm p S a b (i + 1)) (fun b hb => (fm_skip p S (half_bit (HM.out ▸ hb)).1).symm)) ▸ HR.out, HK0.out, HB.out, hgw⟩
          case round =>
            obtain ⟨k, hk, rfl, rfl, hr, hk0, hbel, hgw2⟩ := hrel
            have HRK := Lib.hid hr
            have HK0' := Lib.hid hk0
            have HBK := Lib.hid hbel
            have hwz2 := hbel.size
            by_cases hltk : k < m
            · have c0 := hr.cell (j := k) (by rw [mkR_len]; omega)
              rw [mkR_at _ (by omega)] at c0
              obtain ⟨y0, y1⟩ := fm_bd (show 0 < p by omega) S a k (i + 1)
              have HST : Hid (fm p S a (m + k) (i + 1) = fm p S a k (i + 1) * f % p) := by
                show _ = _
                have hkp : k < 2 ^ i := HM.out ▸ hltk
                rw [Nat.add_comm, HM.out, fm_step p S (half_bit hkp).2, fm_add, fm_skip p S (half_bit hkp).1, HF.out]
              obtain ⟨y, hy⟩ : ∃ y, y = fm p S a k (i + 1) := ⟨_, rfl⟩
              rw [← hy] at c0 y0 y1 HST
              have hk1 : (k : Int) < (m : Int) := by omega
              obtain ⟨m0, m1⟩ := mul_bd' hpb.2 y0 y1 f0 f1
              have e1 : IntKind.i64.wrap (y * f) = y * f := IntWalk.i64_in _ (by omega)
              have e2 : (y * f).tmod p = y * f % p := Int.tmod_eq_emod_of_nonneg m0
              obtain ⟨X, hX⟩ : ∃ X, X = (mkR (m + k) (fun b => fm p S a b (i + 1))).map (Value.int .i64) := ⟨_, rfl⟩
              have HX := Lib.hid hX
              have HO : Hid (wr.ownsRow g 2 1 (.slice (some ⟨g, 0, none⟩) (m + k) n) (m + k) X) := by
                have h := HRK.out; unfold RoomR at h; rw [mkR_len, ← hX] at h; exact h
              clear hr hbel hy hX
              go_wp2_with (first | (at_builtin; refine wpList_append_own_spare _ rfl _ _ 22 rfl g 2 i0 1 Tryz.underlying22 hi hz1 g (m + k) n X rfl (HO.out.alloc _) ⟨wr.heap.size, 0, none⟩ 1 1 [.int .i64 (y * f % p)] rfl rfl (World.news_of_block (cs := #[.int .i64 (y * f % p)]) (t := 2) (fr := (0, 0)) (heap_alloc_new wr _)) (by simp [Value.oneCell']) (by omega) ?_; intro w5 hown1 hgrow1))
              have hz5 := hgrow1.size
              simp at hz5
              go_roundw
              case rel => exact ⟨k + 1, by omega, rfl, by go_num, by
                  unfold RoomR; rw [mkR_len, show m + (k + 1) = m + k + 1 from rfl, mkR_snoc, List.map_append, ← HX.out, HST.out]; exact hown1,
                (hgrow1.cell_far ⟨w.heap.size, 0, none⟩ (by simp; omega) (by simp; omega)).trans ((World.cell?_alloc_old _ _ _ (show w.heap.size ≠ wr.heap.size by omega)).trans HK0'.out), (HBK.out.alloc hwz2 _).grown hgrow1 (by simp; omega) (fun j hj => by cases hj; omega), by omega⟩
              case measure => simp [intOf]; omega
            · have hkm : k = m := by omega
              subst hkm
              clear hr hbel
              go_wp2
              go_roundw
              case rel => exact ⟨i + 1, by omega, by rw [Nat.pow_succ, ← HM.out]; congr 1; omega, by go_num, by
                  have h := HRK.out; rw [show k + k = 2 ^ (i + 1) by rw [Nat.pow_succ, ← HM.out]; omega] at h; exact h, HK0'.out, HBK.out, hgw2⟩
              case measure => simp [intOf]; omega
        · have e5 : (bits BinOp.and IntKind.i64 ((a : Int) / 2 ^ i) 1 == 1) = false := by rw [and_shr ha]; rw [two_cases hai]; rfl
          have hf : fi p S a i = 1 := by unfold fi; rw [if_neg hai, if_neg hg]
          have hp0 : ¬ p = 0 := by omega
          have hp1 : (p == 0) = false := by simpa using hp0
          obtain ⟨f, hf2⟩ : ∃ f : Int, f = 1 := ⟨_, rfl⟩
          rw [← hf2] at hf
          have HF := Lib.hid hf
          obtain ⟨f0, f1⟩ := fi_bd hpb.1 S a i
          rw [hf] at f0 f1
          clear hg hai hf
          go_wp2_with (first | (go_at_call 55; refine (gradeOf_shr a (i + 1) ha _).mono ?_; rintro e w4 ⟨rfl, rfl⟩))
          subst hf2
          go_loopw [5, 47] (fun v t wr => ∃ k : Nat, k ≤ m ∧ v = .slice (some ⟨g, 0, none⟩) (m + k) n ∧ t = .int .i64 k ∧ RoomR wr g n (mkR (m + k) (fun b => fm p S a b (i + 1))) ∧ wr.cell? ⟨w.heap.size, 0, none⟩ = some (.int .i64 p) ∧ Below w.heap.size w wr ∧ g < wr.heap.size) (fun _ t _ => m - (intOf t).toNat)
          case atStart => exact ⟨0, Nat.zero_le _, rfl, rfl, (mkR_congr (c := m) (f := fun b => fm p S a b i) (g := fun b => fm p S a b (i + 1)) (fun b hb => (fm_skip p S (half_bit (HM.out ▸ hb)).1).symm)) ▸ HR.out, HK0.out, HB.out, hgw⟩
          case round =>
            obtain ⟨k, hk, rfl, rfl, hr, hk0, hbel, hgw2⟩ := hrel
            have HRK := Lib.hid hr
            have HK0' := Lib.hid hk0
            have HBK := Lib.hid hbel
            have hwz2 := hbel.size
            by_cases hltk : k < m
            · have c0 := hr.cell (j := k) (by rw [mkR_len]; omega)
              rw [mkR_at _ (by omega)] at c0
              obtain ⟨y0, y1⟩ := fm_bd (show 0 < p by omega) S a k (i + 1)
              have HST : Hid (fm p S a (m + k) (i + 1) = fm p S a k (i + 1) % p) := by
                show _ = _
                have hkp : k < 2 ^ i := HM.out ▸ hltk
                rw [Nat.add_comm, HM.out, fm_step p S (half_bit hkp).2, fm_add, fm_skip p S (half_bit hkp).1, HF.out, Int.mul_one]
              obtain ⟨y, hy⟩ : ∃ y, y = fm p S a k (i + 1) := ⟨_, rfl⟩
              rw [← hy] at c0 y0 y1 HST
              have hk1 : (k : Int) < (m : Int) := by omega
              have e2 : y.tmod p = y % p := Int.tmod_eq_emod_of_nonneg y0
              obtain ⟨X, hX⟩ : ∃ X, X = (mkR (m + k) (fun b => fm p S a b (i + 1))).map (Value.int .i64) := ⟨_, rfl⟩
              have HX := Lib.hid hX
              have HO : Hid (wr.ownsRow g 2 1 (.slice (some ⟨g, 0, none⟩) (m + k) n) (m + k) X) := by
                have h := HRK.out; unfold RoomR at h; rw [mkR_len, ← hX] at h; exact h
              clear hr hbel hy hX
              go_wp2_with (first | (at_builtin; refine wpList_append_own_spare _ rfl _ _ 22 rfl g 2 i0 1 Tryz.underlying22 hi hz1 g (m + k) n X rfl (HO.out.alloc _) ⟨wr.heap.size, 0, none⟩ 1 1 [.int .i64 (y % p)] rfl rfl (World.news_of_block (cs := #[.int .i64 (y % p)]) (t := 2) (fr := (0, 0)) (heap_alloc_new wr _)) (by simp [Value.oneCell']) (by omega) ?_; intro w5 hown1 hgrow1))
              have hz5 := hgrow1.size
              simp at hz5
              go_roundw
              case rel => exact ⟨k + 1, by omega, rfl, by go_num, by
                  unfold RoomR; rw [mkR_len, show m + (k + 1) = m + k + 1 from rfl, mkR_snoc, List.map_append, ← HX.out, HST.out]; exact hown1,
                (hgrow1.cell_far ⟨w.heap.size, 0, none⟩ (by simp; omega) (by simp; omega)).trans ((World.cell?_alloc_old _ _ _ (show w.heap.size ≠ wr.heap.size by omega)).trans HK0'.out), (HBK.out.alloc hwz2 _).grown hgrow1 (by simp; omega) (fun j hj => by cases hj; omega), by omega⟩
              case measure => simp [intOf]; omega
            · have hkm : k = m := by omega
              subst hkm
              clear hr hbel
              go_wp2
              go_roundw
              case rel => exact ⟨i + 1, by omega, by rw [Nat.pow_succ, ← HM.out]; congr 1; omega, by go_num, by
                  have h := HRK.out; rw [show k + k = 2 ^ (i + 1) by rw [Nat.pow_succ, ← HM.out]; omega] at h; exact h, HK0'.out, HBK.out, hgw2⟩
              case measure => simp [intOf]; omega
    · have hin : i = S.length := by omega
      subst hin
      clear hr hk0 hbel
      go_wp2
      go_ret
      have hn2 : 2 ^ S.length = n := HNN.out.symm
      refine ⟨g, by rw [← hn2]; rfl, by omega, hgw, RoomR.row (n := n) ?_, HB.out⟩
      have h := HR.out
      rw [hn2] at h
      exact h

end Go.Proofs.YtkibkkdeaojjoabGreat
