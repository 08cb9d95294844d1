/-
  The model's product of the kind 0: contract.
  Conditions: a space and multivectors of it: rows of known cells with numbers of the prime.
-/
import Derived.Test.YtkibkkdeaojjoabQc13
namespace Go.Proofs.Ytkibkkdeaojjoab
open Go.RowKit
set_option linter.unusedVariables false

set_option maxRecDepth 100000 in
set_option maxHeartbeats 3200000 in
theorem l05Kind_tag0 (p : Int) (aS : Option Addr) (S : List Int) (cS loS tpS : Nat) (ax : Option Addr) (x : List Int) (cx lox tpx : Nat) (ay : Option Addr) (y : List Int) (cy loy tpy : Nat) (w : World) (hp : prm p = true) (h6 : S.length ≤ 6) (hS : RowIn loS tpS w aS S) (tS : tpS ≤ w.heap.size) (nS : Nums p S) (hx : RowIn lox tpx w ax x) (tx : tpx ≤ w.heap.size) (lx : x.length = bl S) (nx : Nums p x) (hy : RowIn loy tpy w ay y) (ty : tpy ≤ w.heap.size) (ly : y.length = bl S) (ny : Nums p y) :
    Calls Try.prog 74 #[.agg #[.int .i64 p, .slice aS S.length cS], .slice ax x.length cx, .slice ay y.length cy, .int .i64 0] w (NewRowT (bl S) (kF p S 0 x y) w) := by
  have hpb := prm_bd hp
  have hbl := bl_le h6
  obtain ⟨n, hn⟩ : ∃ n, n = x.length := ⟨_, rfl⟩
  have hyn : y.length = n := by omega
  have hns : n = bl S := by omega
  have h64 : n ≤ 64 := by omega
  have hmk := fun W => run_make_row' (P := Try.prog) 22 2 (.int .i64 0) 8 Try.underlying22 info64 rfl .i64 .i64 n (by omega) (by omega) W
  have HS := Lib.hid hS
  have HX := Lib.hid hx
  have HY := Lib.hid hy
  have HNX := Lib.hid nx
  have HNY := Lib.hid ny
  have HNS := Lib.hid nS
  have HP := Lib.hid hp
  have HN := Lib.hid hns
  have HXN := Lib.hid hn
  have HYN := Lib.hid hyn
  have HB0 := Lib.hid (below_alloc w (.cells #[.int .i64 p, .slice aS S.length cS] 30))
  have k0 := nw0 w (.int .i64 p) (.slice aS S.length cS) 30
  have k1 := nw1 w (.int .i64 p) (.slice aS S.length cS) 30
  rw [← hn, hyn]
  clear hS hx hy nx ny nS hp lx ly hn hyn hns
  go_enter Try.func74, Try.ntmps74
  go_upto_region 1 with fail
  obtain ⟨w1, hw1⟩ : ∃ z, z = w.alloc (.cells #[.int .i64 p, .slice aS S.length cS] 30) := ⟨_, rfl⟩
  rw [← hw1] at HB0 k0 k1 ⊢
  have hw0 : w.heap.size < w1.heap.size := by rw [hw1]; simp
  clear hw1
  go_upto_region 2 with fail
  obtain ⟨w2, hw2⟩ : ∃ z, z = w1.alloc (.cells (madeCells #[.int .i64 0] n) 2) := ⟨_, rfl⟩
  have HO2 : Hid (RowOwn w2 w1.heap.size 0 n (fun c => sm 0 (tk p S 0 x y c) % p)) := by
    show RowOwn _ _ _ _ _; rw [hw2]; exact (RowOwn.start w1 n _).congr (fun j _ => by simp [sm])
  have HB2 : Hid (Below w.heap.size w w2) := by show Below _ _ _; rw [hw2]; exact HB0.out.alloc (by omega) _
  have hz2 : w1.heap.size < w2.heap.size := by rw [hw2]; simp
  have HT2 : Hid (Tag w1.heap.size w2) := by show Tag _ _; rw [hw2]; exact Tag.start w1 _
  have K0 : Hid (w2.cell? ⟨w.heap.size, 0, none⟩ = some (.int .i64 p)) := by show _ = _; rw [hw2]; exact (World.cell?_alloc_old _ _ _ (show w.heap.size ≠ w1.heap.size by omega)).trans k0
  have K1 : Hid (w2.cell? ⟨w.heap.size, 1, none⟩ = some (.slice aS S.length cS)) := by show _ = _; rw [hw2]; exact (World.cell?_alloc_old _ _ _ (show w.heap.size ≠ w1.heap.size by omega)).trans k1
  rw [← hw2]
  obtain ⟨b1, hb1⟩ : ∃ b, b = w1.heap.size := ⟨_, rfl⟩
  rw [← hb1] at hw0 hz2 HO2 HT2 ⊢
  clear hw2 hmk k0 k1 HB0 hb1
  go_wp2
  go_loopw [10] (fun t wr => ∃ i : Nat, i ≤ n ∧ t = .int .i64 i ∧ RowOwn wr b1 0 n (fun c => sm i (tk p S 0 x y c) % p) ∧ wr.cell? ⟨w.heap.size, 0, none⟩ = some (.int .i64 p) ∧ wr.cell? ⟨w.heap.size, 1, none⟩ = some (.slice aS S.length cS) ∧ Below w.heap.size w wr ∧ w2.heap.size ≤ wr.heap.size ∧ Tag b1 wr) (fun t _ => n - (intOf t).toNat)
  case atStart => exact ⟨0, Nat.zero_le _, rfl, HO2.out, K0.out, K1.out, HB2.out, Nat.le_refl _, HT2.out⟩
  case round =>
    obtain ⟨i, hi, rfl, hr, hk0, hk1, hbel, hsz, htg⟩ := hrel
    rename World => wo
    have HR := Lib.hid hr
    have HK0 := Lib.hid hk0
    have HK1 := Lib.hid hk1
    have HB := Lib.hid hbel
    have HTG := Lib.hid htg
    clear hr hk0 hk1 hbel htg
    by_cases hlt : i < n
    · have hi1 : (i : Int) < (n : Int) := by omega
      go_wp2
      go_loopw [11] (fun t wr => ∃ k : Nat, k ≤ n ∧ t = .int .i64 k ∧ RowOwn wr b1 0 n (pk p S 0 x y i k) ∧ wr.cell? ⟨w.heap.size, 0, none⟩ = some (.int .i64 p) ∧ wr.cell? ⟨w.heap.size, 1, none⟩ = some (.slice aS S.length cS) ∧ Below w.heap.size w wr ∧ w2.heap.size ≤ wr.heap.size ∧ Tag b1 wr) (fun t _ => n - (intOf t).toNat)
      case atStart => exact ⟨0, Nat.zero_le _, rfl, HR.out.congr (fun c _ => (pk_start p S 0 x y i c).symm), HK0.out, HK1.out, HB.out, hsz, HTG.out⟩
      case round =>
        obtain ⟨k, hk, rfl, hr, hk0, hk1, hbel, hsz3, htg3⟩ := hrel
        have HTK := Lib.hid htg3
        clear htg3
        have HRK := Lib.hid hr
        have HK0' := Lib.hid hk0
        have HK1' := Lib.hid hk1
        have HBK := Lib.hid hbel
        have hwz := hbel.size
        by_cases hltk : k < n
        · obtain ⟨bx, ox, hax, _, ux, hcx⟩ := (HX.out.below hbel tx).num (show i < x.length by rw [← HXN.out]; exact hlt)
          obtain ⟨by', oy, hay, _, uy, hcy⟩ := (HY.out.below hbel ty).num (show k < y.length by rw [HYN.out]; exact hltk)
          subst hax hay
          have hk1' : (k : Int) < (n : Int) := by omega
          obtain ⟨x0, x1⟩ := HNX.out i (by rw [← HXN.out]; exact hlt)
          obtain ⟨y0, y1⟩ := HNY.out k (by rw [HYN.out]; exact hltk)
          obtain ⟨xi, hxi⟩ : ∃ z, z = x.getD i 0 := ⟨_, rfl⟩
          obtain ⟨yk, hyk⟩ : ∃ z, z = y.getD k 0 := ⟨_, rfl⟩
          have HXI := Lib.hid hxi
          have HYK := Lib.hid hyk
          rw [← hxi] at hcx x0 x1
          rw [← hyk] at hcy y0 y1
          clear hxi hyk
          have hand := and_64 (a := i) (b := k) (by omega) (by omega)
          have hB : (bits .and .i64 (i : Int) (k : Int) != 0) = !(kp 0 i k) := by rw [hand]; exact bne_nat0 _
          clear hand
          by_cases hkp : kp 0 i k = true
          · rw [hkp, Bool.not_true] at hB
            have HKP := Lib.hid hkp
            obtain ⟨q, hq⟩ : ∃ q, q = i ^^^ k := ⟨_, rfl⟩
            have hqn : q < n := by rw [hq, HN.out]; exact xor_bl (HN.out ▸ hlt) (HN.out ▸ hltk)
            have hqn1 : (q : Int) < (n : Int) := by omega
            have e3 : bits .xor .i64 (i : Int) (k : Int) = (q : Int) := by rw [xor_64 (by omega) (by omega), hq]
            have c0 := hr.cell q hqn
            have f0 := hr.free q hqn
            rw [Nat.zero_add] at c0 f0
            have hob := pk_bd (by omega : 0 < p) S 0 x y i k q
            obtain ⟨o, ho⟩ : ∃ o, o = pk p S 0 x y i k q := ⟨_, rfl⟩
            have hfb := fm_bd (by omega : 0 < p) S i k S.length
            obtain ⟨g, hg⟩ : ∃ g, g = fm p S i k S.length := ⟨_, rfl⟩
            have HV : Hid (∀ c, (if c = q then (o + xi * yk % p * g) % p else pk p S 0 x y i k c) = pk p S 0 x y i (k + 1) c) := fun c => by
              have h := pk_put p S 0 x y HKP.out (i := i) (k := k) (v := (o + xi * yk % p * g) % p) (by rw [ho, hg, hq, HXI.out, HYK.out]) c
              rw [← hq] at h; exact h
            rw [← ho] at hob c0
            rw [← hg] at hfb
            have HG := Lib.hid hg
            obtain ⟨m0, m1⟩ := mul_bd' hpb.2 x0 x1 y0 y1
            have d0 := Int.emod_nonneg (xi * yk) (by omega : p ≠ 0)
            have d1 := Int.emod_lt_of_pos (xi * yk) (by omega : 0 < p)
            have e4 : IntKind.i64.wrap (xi * yk) = xi * yk := IntWalk.i64_in _ (by omega)
            have e5 : (xi * yk).tmod p = xi * yk % p := Int.tmod_eq_emod_of_nonneg m0
            obtain ⟨m, hm⟩ : ∃ m, m = xi * yk % p := ⟨_, rfl⟩
            rw [← hm] at d0 d1 e5 HV
            obtain ⟨z0, z1⟩ := mul_bd' hpb.2 d0 d1 hfb.1 hfb.2
            have e6 : IntKind.i64.wrap (m * g) = m * g := IntWalk.i64_in _ (by omega)
            have e7 : IntKind.i64.wrap (o + m * g) = o + m * g := IntWalk.i64_in _ (by omega)
            have e8 : (o + m * g).tmod p = (o + m * g) % p := Int.tmod_eq_emod_of_nonneg (by omega)
            have hp0 : ¬ p = 0 := by omega
            have hp1 : (p == 0) = false := by simpa using hp0
            have HSW := Lib.hid (HS.out.below hbel tS)
            have tSw : tpS ≤ wr.heap.size := by omega
            have lw : w.heap.size < wr.heap.size := by omega
            have tSd : tpS ≤ wr.drew.heap.size := tSw
            have hi64 : i < 64 := by omega
            have hk64 : k < 64 := by omega
            have lbx : bx < wr.heap.size := by omega
            have lby : by' < wr.heap.size := by omega
            have nwb : w.heap.size ≠ b1 := by omega
            have nxb : bx ≠ b1 := by omega
            have nyb : by' ≠ b1 := by omega
            have lb : b1 < wr.heap.size := by omega
            clear ho hg hm hq hr hbel hkp
            go_wp2
            refine wp_region_noPanic ?_
            refine wp_region_held_drew (S := fun w' => w'.cell? ⟨w.heap.size, 0, none⟩ = some (.int .i64 p) ∧ w'.cell? ⟨w.heap.size, 1, none⟩ = some (.slice aS S.length cS) ∧ w'.cell? ⟨bx, ox + i, none⟩ = some (.int .i64 xi) ∧ w'.cell? ⟨by', oy + k, none⟩ = some (.int .i64 yk)) (by kernel_rfl) (⟨HK0'.out, HK1'.out, hcx, hcy⟩) (fun hHeld => ?_)
            (refine wpAnyH_take (i := 0) (oi := _) (v := ?_) rfl (by kernel_rfl) (by kernel_rfl) (by kernel_rfl) (fun _ _ _ h => h) (Or.inl ⟨by rfl, ?_⟩) (by assumption) ?_; rotate_left; (focus (intro w' hSw; (try dsimp only at hSw); first | (go_simp; done) | (go_simp; with_reducible rfl)))); ((try simp only [Act.put]); (try simp only [List.setIfInBounds_toArray]); (try simp only [List.set_cons_succ]); (try simp only [List.set_cons_zero]))
            (refine wpAnyH_take (i := 1) (oi := _) (v := ?_) rfl (by kernel_rfl) (by kernel_rfl) (by kernel_rfl) (fun _ _ _ h => h) (Or.inl ⟨by rfl, ?_⟩) (by assumption) ?_; rotate_left; (focus (intro w' hSw; (try dsimp only at hSw); first | (go_simp; done) | (go_simp; with_reducible rfl)))); ((try simp only [Act.put]); (try simp only [List.setIfInBounds_toArray]); (try simp only [List.set_cons_succ]); (try simp only [List.set_cons_zero]))
            (refine wpAnyH_take (i := 2) (oi := _) (v := ?_) rfl (by kernel_rfl) (by kernel_rfl) (by kernel_rfl) (fun _ _ _ h => h) (Or.inl ⟨by rfl, ?_⟩) (by assumption) ?_; rotate_left; (focus (intro w' hSw; (try dsimp only at hSw); first | (go_simp; done) | (go_simp; with_reducible rfl)))); ((try simp only [Act.put]); (try simp only [List.setIfInBounds_toArray]); (try simp only [List.set_cons_succ]); (try simp only [List.set_cons_zero]))
            (refine wpAnyH_take (i := 3) (oi := _) (v := ?_) rfl (by kernel_rfl) (by kernel_rfl) (by kernel_rfl) (fun _ _ _ h => h) (Or.inl ⟨by rfl, ?_⟩) (by assumption) ?_; rotate_left; (focus (intro w' hSw; (try dsimp only at hSw); first | (go_simp; done) | (go_simp; with_reducible rfl)))); ((try simp only [Act.put]); (try simp only [List.setIfInBounds_toArray]); (try simp only [List.set_cons_succ]); (try simp only [List.set_cons_zero]))
            (refine wpAnyH_take (i := 4) (oi := _) (v := ?_) rfl (by kernel_rfl) (by kernel_rfl) (by kernel_rfl) (fun _ _ _ h => h) (Or.inl ⟨by rfl, ?_⟩) (by assumption) ?_; rotate_left; (focus (intro w' hSw; (try dsimp only at hSw); first | (go_simp; done) | (go_simp; with_reducible rfl)))); ((try simp only [Act.put]); (try simp only [List.setIfInBounds_toArray]); (try simp only [List.set_cons_succ]); (try simp only [List.set_cons_zero]))
            (refine wpAnyH_take (i := 5) (oi := _) (v := ?_) rfl (by kernel_rfl) (by kernel_rfl) (by kernel_rfl) (fun _ _ _ h => h) (Or.inl ⟨by rfl, ?_⟩) (by assumption) ?_; rotate_left; (focus (intro w' hSw; (try dsimp only at hSw); first | (go_simp; done) | (go_simp; with_reducible rfl)))); ((try simp only [Act.put]); (try simp only [List.setIfInBounds_toArray]); (try simp only [List.set_cons_succ]); (try simp only [List.set_cons_zero]))
            (refine wpAnyH_take (i := 6) (oi := _) (v := ?_) rfl (by kernel_rfl) (by kernel_rfl) (by kernel_rfl) (fun _ _ _ h => h) (Or.inl ⟨by rfl, ?_⟩) (by assumption) ?_; rotate_left; (focus (intro w' hSw; (try dsimp only at hSw); first | (go_simp; done) | (go_simp; with_reducible rfl)))); ((try simp only [Act.put]); (try simp only [List.setIfInBounds_toArray]); (try simp only [List.set_cons_succ]); (try simp only [List.set_cons_zero]))
            (refine wpAnyH_take (i := 7) (oi := _) (v := ?_) rfl (by kernel_rfl) (by kernel_rfl) (by kernel_rfl) (fun _ _ _ h => h) (Or.inl ⟨by rfl, ?_⟩) (by assumption) ?_; rotate_left; (focus (intro w' hSw; (try dsimp only at hSw); first | (go_simp; done) | (go_simp; with_reducible rfl)))); ((try simp only [Act.put]); (try simp only [List.setIfInBounds_toArray]); (try simp only [List.set_cons_succ]); (try simp only [List.set_cons_zero]))
            (refine wpAnyH_take (i := 8) (oi := _) (v := ?_) rfl (by kernel_rfl) (by kernel_rfl) (by kernel_rfl) (fun _ _ _ h => h) (Or.inl ⟨by rfl, ?_⟩) (by assumption) ?_; rotate_left; (focus (intro w' hSw; (try dsimp only at hSw); first | (go_simp; done) | (go_simp; with_reducible rfl)))); ((try simp only [Act.put]); (try simp only [List.setIfInBounds_toArray]); (try simp only [List.set_cons_succ]); (try simp only [List.set_cons_zero]))
            (refine wpAnyH_take (i := 10) (oi := _) (v := ?_) rfl (by kernel_rfl) (by kernel_rfl) (by kernel_rfl) (fun _ _ _ h => h) (Or.inl ⟨by rfl, ?_⟩) (by assumption) ?_; rotate_left; (focus (intro w' hSw; (try dsimp only at hSw); first | (go_simp; done) | (go_simp; with_reducible rfl)))); ((try simp only [Act.put]); (try simp only [List.setIfInBounds_toArray]); (try simp only [List.set_cons_succ]); (try simp only [List.set_cons_zero]))
            (refine wpAnyH_take (i := 11) (oi := _) (v := ?_) rfl (by kernel_rfl) (by kernel_rfl) (by kernel_rfl) (fun _ _ _ h => h) (Or.inl ⟨by rfl, ?_⟩) (by assumption) ?_; rotate_left; (focus (intro w' hSw; (try dsimp only at hSw); first | (go_simp; done) | (go_simp; with_reducible rfl)))); ((try simp only [Act.put]); (try simp only [List.setIfInBounds_toArray]); (try simp only [List.set_cons_succ]); (try simp only [List.set_cons_zero]))
            (refine wpAnyH_take (i := 12) (oi := _) (v := ?_) rfl (by kernel_rfl) (by kernel_rfl) (by kernel_rfl) (fun _ _ _ h => h) (Or.inl ⟨by rfl, ?_⟩) (by assumption) ?_; rotate_left; (focus (intro w' hSw; (try dsimp only at hSw); first | (go_simp; done) | (go_simp; with_reducible rfl)))); ((try simp only [Act.put]); (try simp only [List.setIfInBounds_toArray]); (try simp only [List.set_cons_succ]); (try simp only [List.set_cons_zero]))
            (refine wpAnyH_take (i := 13) (oi := _) (v := ?_) rfl (by kernel_rfl) (by kernel_rfl) (by kernel_rfl) (fun _ _ _ h => h) (Or.inl ⟨by rfl, ?_⟩) (by assumption) ?_; rotate_left; (focus (intro w' hSw; (try dsimp only at hSw); first | (go_simp; done) | (go_simp; with_reducible rfl)))); ((try simp only [Act.put]); (try simp only [List.setIfInBounds_toArray]); (try simp only [List.set_cons_succ]); (try simp only [List.set_cons_zero]))
            (refine wpAnyH_take (i := 14) (oi := _) (v := ?_) rfl (by kernel_rfl) (by kernel_rfl) (by kernel_rfl) (fun _ _ _ h => h) (Or.inl ⟨by rfl, ?_⟩) (by assumption) ?_; rotate_left; (focus (intro w' hSw; (try dsimp only at hSw); first | (go_simp; done) | (go_simp; with_reducible rfl)))); ((try simp only [Act.put]); (try simp only [List.setIfInBounds_toArray]); (try simp only [List.set_cons_succ]); (try simp only [List.set_cons_zero]))
            (refine wpAnyH_take (i := 15) (oi := _) (v := ?_) rfl (by kernel_rfl) (by kernel_rfl) (by kernel_rfl) (fun _ _ _ h => h) (Or.inl ⟨by rfl, ?_⟩) (by assumption) ?_; rotate_left; (focus (intro w' hSw; (try dsimp only at hSw); first | (go_simp; done) | (go_simp; with_reducible rfl)))); ((try simp only [Act.put]); (try simp only [List.setIfInBounds_toArray]); (try simp only [List.set_cons_succ]); (try simp only [List.set_cons_zero]))
            (refine wpAnyH_take (i := 16) (oi := _) (v := ?_) rfl (by kernel_rfl) (by kernel_rfl) (by kernel_rfl) (fun _ _ _ h => h) (Or.inl ⟨by rfl, ?_⟩) (by assumption) ?_; rotate_left; (focus (intro w' hSw; (try dsimp only at hSw); first | (go_simp; done) | (go_simp; with_reducible rfl)))); ((try simp only [Act.put]); (try simp only [List.setIfInBounds_toArray]); (try simp only [List.set_cons_succ]); (try simp only [List.set_cons_zero]))
            (refine wpAnyH_take (i := 17) (oi := _) (v := ?_) rfl (by kernel_rfl) (by kernel_rfl) (by kernel_rfl) (fun _ _ _ h => h) (Or.inl ⟨by rfl, ?_⟩) (by assumption) ?_; rotate_left; (focus (intro w' hSw; (try dsimp only at hSw); first | (go_simp; done) | (go_simp; with_reducible rfl)))); ((try simp only [Act.put]); (try simp only [List.setIfInBounds_toArray]); (try simp only [List.set_cons_succ]); (try simp only [List.set_cons_zero]))
            (refine wpAnyH_take (i := 18) (oi := _) (v := ?_) rfl (by kernel_rfl) (by kernel_rfl) (by kernel_rfl) (fun _ _ _ h => h) (Or.inl ⟨by rfl, ?_⟩) (by assumption) ?_; rotate_left; (focus (intro w' hSw; (try dsimp only at hSw); first | (go_simp; done) | (go_simp; with_reducible rfl)))); ((try simp only [Act.put]); (try simp only [List.setIfInBounds_toArray]); (try simp only [List.set_cons_succ]); (try simp only [List.set_cons_zero]))
            (refine wpAnyH_take (i := 19) (oi := _) (v := ?_) rfl (by kernel_rfl) (by kernel_rfl) (by kernel_rfl) (fun _ _ _ h => h) (Or.inl ⟨by rfl, ?_⟩) (by assumption) ?_; rotate_left; (focus (intro w' hSw; (try dsimp only at hSw); first | (go_simp; done) | (go_simp; with_reducible rfl)))); ((try simp only [Act.put]); (try simp only [List.setIfInBounds_toArray]); (try simp only [List.set_cons_succ]); (try simp only [List.set_cons_zero]))
            (refine wpAnyH_take (i := 20) (oi := _) (v := ?_) rfl (by kernel_rfl) (by kernel_rfl) (by kernel_rfl) (fun _ _ _ h => h) (Or.inl ⟨by rfl, ?_⟩) (by assumption) ?_; rotate_left; (focus (intro w' hSw; (try dsimp only at hSw); first | (go_simp; done) | (go_simp; with_reducible rfl)))); ((try simp only [Act.put]); (try simp only [List.setIfInBounds_toArray]); (try simp only [List.set_cons_succ]); (try simp only [List.set_cons_zero]))
            (refine wpAnyH_take (i := 21) (oi := _) (v := ?_) rfl (by kernel_rfl) (by kernel_rfl) (by kernel_rfl) (fun _ _ _ h => h) (Or.inl ⟨by rfl, ?_⟩) (by assumption) ?_; rotate_left; (focus (intro w' hSw; (try dsimp only at hSw); first | (go_simp; done) | (go_simp; with_reducible rfl)))); ((try simp only [Act.put]); (try simp only [List.setIfInBounds_toArray]); (try simp only [List.set_cons_succ]); (try simp only [List.set_cons_zero]))
            (refine wpAnyH_take (i := 22) (oi := _) (v := ?_) rfl (by kernel_rfl) (by kernel_rfl) (by kernel_rfl) (fun _ _ _ h => h) (Or.inl ⟨by rfl, ?_⟩) (by assumption) ?_; rotate_left; (focus (intro w' hSw; (try dsimp only at hSw); first | (go_simp; done) | (go_simp; with_reducible rfl)))); ((try simp only [Act.put]); (try simp only [List.setIfInBounds_toArray]); (try simp only [List.set_cons_succ]); (try simp only [List.set_cons_zero]))
            (refine wpAnyH_take (i := 23) (oi := _) (v := ?_) rfl (by kernel_rfl) (by kernel_rfl) (by kernel_rfl) (fun _ _ _ h => h) (Or.inl ⟨by rfl, ?_⟩) (by assumption) ?_; rotate_left; (focus (intro w' hSw; (try dsimp only at hSw); first | (go_simp; done) | (go_simp; with_reducible rfl)))); ((try simp only [Act.put]); (try simp only [List.setIfInBounds_toArray]); (try simp only [List.set_cons_succ]); (try simp only [List.set_cons_zero]))
            (refine wpAnyH_take (i := 24) (oi := _) (v := ?_) rfl (by kernel_rfl) (by kernel_rfl) (by kernel_rfl) (fun _ _ _ h => h) (Or.inl ⟨by rfl, ?_⟩) (by assumption) ?_; rotate_left; (focus (intro w' hSw; (try dsimp only at hSw); first | (go_simp; done) | (go_simp; with_reducible rfl)))); ((try simp only [Act.put]); (try simp only [List.setIfInBounds_toArray]); (try simp only [List.set_cons_succ]); (try simp only [List.set_cons_zero]))
            (refine wpAnyH_take (i := 28) (oi := _) (v := ?_) rfl (by kernel_rfl) (by kernel_rfl) (by kernel_rfl) (fun _ _ _ h => h) (Or.inl ⟨by rfl, ?_⟩) (by assumption) ?_; rotate_left; (focus (intro w' hSw; (try dsimp only at hSw); first | (go_simp; done) | (go_simp; with_reducible rfl)))); ((try simp only [Act.put]); (try simp only [List.setIfInBounds_toArray]); (try simp only [List.set_cons_succ]); (try simp only [List.set_cons_zero]))
            (refine wpAnyH_take (i := 29) (oi := _) (v := ?_) rfl (by kernel_rfl) (by kernel_rfl) (by kernel_rfl) (fun _ _ _ h => h) (Or.inl ⟨by rfl, ?_⟩) (by assumption) ?_; rotate_left; (focus (intro w' hSw; (try dsimp only at hSw); first | (go_simp; done) | (go_simp; with_reducible rfl)))); ((try simp only [Act.put]); (try simp only [List.setIfInBounds_toArray]); (try simp only [List.set_cons_succ]); (try simp only [List.set_cons_zero]))
            refine wpAnyH_ready (rs := [9, 25]) (by kernel_rfl) (by simp) ?_
            refine AllReadyH.cons (o := _) rfl (fun K hK => ?_) (AllReadyH.cons (o := _) rfl (fun K hK => ?_) AllReadyH.nil)
            · go_simp
              refine hK.out _ _ (hHeld) (fun hHeld => ?_)
              clear hK K
              ((try simp only [Act.put]); (try simp only [List.setIfInBounds_toArray]); (try simp only [List.set_cons_succ]); (try simp only [List.set_cons_zero]))
              refine wpAnyH_ready (rs := [25]) (by kernel_rfl) (by simp) ?_
              refine AllReadyH.cons (o := _) rfl (fun K hK => ?_) AllReadyH.nil
              go_simp; go_at_call 90; (with_reducible refine (l04Blades_any p aS S cS loS tpS i k _ HP.out h6 (HSW.out.below (below_drew wr) tSw) tSd HNS.out hi64 hk64).mono ?_); rintro e w3 ⟨rfl, b3⟩; rw [← HG.out]; have HB3 : Hid (Below wr.heap.size wr w3) := (below_drew wr).trans b3; have SS3 := Lib.hid (sst4 HB3.out lw lbx lby HK0'.out HK1'.out hcx hcy); have SS4 := Lib.hid (ssp4 w3 b1 q (.int .i64 ((o + m * g) % p)) nwb nxb nyb SS3.out); have c9 := (HB3.out.cell (p := ⟨b1, q, none⟩) lb).trans c0; have f9 := (HB3.out.frozen (p := ⟨b1, q, none⟩) lb).trans f0; clear b3; (try go_wp2_with fail)
              refine hK.out _ _ (SS3.out) (fun hHeld => ?_)
              clear hK K
              ((try simp only [Act.put]); (try simp only [List.setIfInBounds_toArray]); (try simp only [List.set_cons_succ]); (try simp only [List.set_cons_zero]))
              (refine wpAnyH_take (i := 26) (oi := _) (v := ?_) rfl (by kernel_rfl) (by kernel_rfl) (by kernel_rfl) (fun _ _ _ h => h) (Or.inl ⟨by rfl, ?_⟩) (by assumption) ?_; rotate_left; (focus (intro w' hSw; (try dsimp only at hSw); first | (go_simp; done) | (go_simp; with_reducible rfl)))); ((try simp only [Act.put]); (try simp only [List.setIfInBounds_toArray]); (try simp only [List.set_cons_succ]); (try simp only [List.set_cons_zero]))
              (refine wpAnyH_take (i := 27) (oi := _) (v := ?_) rfl (by kernel_rfl) (by kernel_rfl) (by kernel_rfl) (fun _ _ _ h => h) (Or.inl ⟨by rfl, ?_⟩) (by assumption) ?_; rotate_left; (focus (intro w' hSw; (try dsimp only at hSw); first | (go_simp; done) | (go_simp; with_reducible rfl)))); ((try simp only [Act.put]); (try simp only [List.setIfInBounds_toArray]); (try simp only [List.set_cons_succ]); (try simp only [List.set_cons_zero]))
              (refine wpAnyH_take (i := 30) (oi := _) (v := ?_) rfl (by kernel_rfl) (by kernel_rfl) (by kernel_rfl) (fun _ _ _ h => h) (Or.inl ⟨by rfl, ?_⟩) (by assumption) ?_; rotate_left; (focus (intro w' hSw; (try dsimp only at hSw); first | (go_simp; done) | (go_simp; with_reducible rfl)))); ((try simp only [Act.put]); (try simp only [List.setIfInBounds_toArray]); (try simp only [List.set_cons_succ]); (try simp only [List.set_cons_zero]))
              (refine wpAnyH_take (i := 31) (oi := _) (v := ?_) rfl (by kernel_rfl) (by kernel_rfl) (by kernel_rfl) (fun _ _ _ h => h) (Or.inl ⟨by rfl, ?_⟩) (by assumption) ?_; rotate_left; (focus (intro w' hSw; (try dsimp only at hSw); first | (go_simp; done) | (go_simp; with_reducible rfl)))); ((try simp only [Act.put]); (try simp only [List.setIfInBounds_toArray]); (try simp only [List.set_cons_succ]); (try simp only [List.set_cons_zero]))
              refine wpAnyH_ready (rs := [32]) (by kernel_rfl) (by simp) ?_
              refine AllReadyH.cons (o := _) rfl (fun K hK => ?_) AllReadyH.nil
              go_simp
              refine hK.out _ _ (SS4.out) (fun hHeld => ?_)
              clear hK K
              ((try simp only [Act.put]); (try simp only [List.setIfInBounds_toArray]); (try simp only [List.set_cons_succ]); (try simp only [List.set_cons_zero]))
              refine wpAnyH_done (by kernel_rfl) ?_ _
              refine NoPanic.normal ?_
              go_wp2
              have hz3 := HB3.out.size
              go_roundw
              case rel => exact ⟨k + 1, by omega, by go_num, row_put0 (HRK.out.stay (HB3.out.block b1 lb)) hqn (fun c _ => HV.out c), SS4.out.1, SS4.out.2.1, (below_step HBK.out hwz HB3.out).trans ((wrote_put0 (Wrote.refl b1 0 n _) hqn _).belowB (by omega)), by simp [World.setCell]; omega, (HTK.out.stay (HB3.out.block b1 lb)).set _ _ _⟩
              case measure => simp [intOf]; omega
            · go_simp; go_at_call 90; (with_reducible refine (l04Blades_any p aS S cS loS tpS i k _ HP.out h6 (HSW.out.below (below_drew wr) tSw) tSd HNS.out hi64 hk64).mono ?_); rintro e w3 ⟨rfl, b3⟩; rw [← HG.out]; have HB3 : Hid (Below wr.heap.size wr w3) := (below_drew wr).trans b3; have SS3 := Lib.hid (sst4 HB3.out lw lbx lby HK0'.out HK1'.out hcx hcy); have SS4 := Lib.hid (ssp4 w3 b1 q (.int .i64 ((o + m * g) % p)) nwb nxb nyb SS3.out); have c9 := (HB3.out.cell (p := ⟨b1, q, none⟩) lb).trans c0; have f9 := (HB3.out.frozen (p := ⟨b1, q, none⟩) lb).trans f0; clear b3; (try go_wp2_with fail)
              refine hK.out _ _ (SS3.out) (fun hHeld => ?_)
              clear hK K
              ((try simp only [Act.put]); (try simp only [List.setIfInBounds_toArray]); (try simp only [List.set_cons_succ]); (try simp only [List.set_cons_zero]))
              (refine wpAnyH_take (i := 26) (oi := _) (v := ?_) rfl (by kernel_rfl) (by kernel_rfl) (by kernel_rfl) (fun _ _ _ h => h) (Or.inl ⟨by rfl, ?_⟩) (by assumption) ?_; rotate_left; (focus (intro w' hSw; (try dsimp only at hSw); first | (go_simp; done) | (go_simp; with_reducible rfl)))); ((try simp only [Act.put]); (try simp only [List.setIfInBounds_toArray]); (try simp only [List.set_cons_succ]); (try simp only [List.set_cons_zero]))
              refine wpAnyH_ready (rs := [9]) (by kernel_rfl) (by simp) ?_
              refine AllReadyH.cons (o := _) rfl (fun K hK => ?_) AllReadyH.nil
              go_simp
              refine hK.out _ _ (hHeld) (fun hHeld => ?_)
              clear hK K
              ((try simp only [Act.put]); (try simp only [List.setIfInBounds_toArray]); (try simp only [List.set_cons_succ]); (try simp only [List.set_cons_zero]))
              (refine wpAnyH_take (i := 27) (oi := _) (v := ?_) rfl (by kernel_rfl) (by kernel_rfl) (by kernel_rfl) (fun _ _ _ h => h) (Or.inl ⟨by rfl, ?_⟩) (by assumption) ?_; rotate_left; (focus (intro w' hSw; (try dsimp only at hSw); first | (go_simp; done) | (go_simp; with_reducible rfl)))); ((try simp only [Act.put]); (try simp only [List.setIfInBounds_toArray]); (try simp only [List.set_cons_succ]); (try simp only [List.set_cons_zero]))
              (refine wpAnyH_take (i := 30) (oi := _) (v := ?_) rfl (by kernel_rfl) (by kernel_rfl) (by kernel_rfl) (fun _ _ _ h => h) (Or.inl ⟨by rfl, ?_⟩) (by assumption) ?_; rotate_left; (focus (intro w' hSw; (try dsimp only at hSw); first | (go_simp; done) | (go_simp; with_reducible rfl)))); ((try simp only [Act.put]); (try simp only [List.setIfInBounds_toArray]); (try simp only [List.set_cons_succ]); (try simp only [List.set_cons_zero]))
              (refine wpAnyH_take (i := 31) (oi := _) (v := ?_) rfl (by kernel_rfl) (by kernel_rfl) (by kernel_rfl) (fun _ _ _ h => h) (Or.inl ⟨by rfl, ?_⟩) (by assumption) ?_; rotate_left; (focus (intro w' hSw; (try dsimp only at hSw); first | (go_simp; done) | (go_simp; with_reducible rfl)))); ((try simp only [Act.put]); (try simp only [List.setIfInBounds_toArray]); (try simp only [List.set_cons_succ]); (try simp only [List.set_cons_zero]))
              refine wpAnyH_ready (rs := [32]) (by kernel_rfl) (by simp) ?_
              refine AllReadyH.cons (o := _) rfl (fun K hK => ?_) AllReadyH.nil
              go_simp
              refine hK.out _ _ (SS4.out) (fun hHeld => ?_)
              clear hK K
              ((try simp only [Act.put]); (try simp only [List.setIfInBounds_toArray]); (try simp only [List.set_cons_succ]); (try simp only [List.set_cons_zero]))
              refine wpAnyH_done (by kernel_rfl) ?_ _
              refine NoPanic.normal ?_
              go_wp2
              have hz3 := HB3.out.size
              go_roundw
              case rel => exact ⟨k + 1, by omega, by go_num, row_put0 (HRK.out.stay (HB3.out.block b1 lb)) hqn (fun c _ => HV.out c), SS4.out.1, SS4.out.2.1, (below_step HBK.out hwz HB3.out).trans ((wrote_put0 (Wrote.refl b1 0 n _) hqn _).belowB (by omega)), by simp [World.setCell]; omega, (HTK.out.stay (HB3.out.block b1 lb)).set _ _ _⟩
              case measure => simp [intOf]; omega
          · have hkf : kp 0 i k = false := by simpa using hkp
            rw [hkf, Bool.not_false] at hB
            have HKF := Lib.hid hkf
            clear hkp hkf hr hk0 hk1 hbel
            go_wp2
            go_roundw
            case rel => exact ⟨k + 1, by omega, by go_num, HRK.out.congr (fun c _ => pk_skip HKF.out c), HK0'.out, HK1'.out, HBK.out, hsz3, HTK.out⟩
            case measure => simp [intOf]; omega
        · have hkn : k = n := by omega
          subst hkn
          clear hr hk0 hk1 hbel
          go_wp2
          go_roundw
          case rel => exact ⟨i + 1, by omega, by go_num, HRK.out.congr (fun c hc => by rw [HN.out] at hlt hc ⊢; exact pk_end p S 0 x y hlt hc), HK0'.out, HK1'.out, HBK.out, hsz3, HTK.out⟩
          case measure => simp [intOf]; omega
    · have hin : i = n := by omega
      subst hin
      go_wp2
      go_ret
      exact ⟨b1, by rw [← HN.out]; rfl, by omega, by omega, by rw [← HN.out]; exact HR.out.congr (fun c _ => by rw [HN.out]; exact rfl), HB.out, HTG.out⟩

end Go.Proofs.Ytkibkkdeaojjoab
