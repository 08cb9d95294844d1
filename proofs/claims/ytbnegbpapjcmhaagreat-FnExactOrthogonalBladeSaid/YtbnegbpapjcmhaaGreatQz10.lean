/-
  The model's product of the kind 0: contract.
  Conditions: a space and multivectors of it: rows of known cells with numbers of the prime.
  The model's product of the kind 1: contract.
  Conditions: a space and multivectors of it: rows of known cells with numbers of the prime.
  The model's product of the kind 2: contract.
  Conditions: a space and multivectors of it: rows of known cells with numbers of the prime.
  The program's products of a kind: sums; the table of the kinds: contracts.
  No conditions but masks below 64.
-/
import Derived.Test.YtbnegbpapjcmhaaGreatQz7
import Derived.Test.YtbnegbpapjcmhaaGreatQz9
import Derived.Laws.EntriesVeiled
namespace Go.Proofs.YtbnegbpapjcmhaaGreat
open Go.RowKit
set_option linter.unusedVariables false

set_option maxRecDepth 100000 in
set_option maxHeartbeats 3200000 in
theorem l05Kind_tag0 (p : Int) (aS : Option Addr) (S : List Int) (cS loS tpS : Nat) (ax : Option Addr) (x : List Int) (cx lox tpx : Nat) (ay : Option Addr) (y : List Int) (cy loy tpy : Nat) (w : World) (hp : prm p = true) (h6 : S.length ≤ 6) (hS : RowIn loS tpS w aS S) (tS : tpS ≤ w.heap.size) (nS : Nums p S) (hx : RowIn lox tpx w ax x) (tx : tpx ≤ w.heap.size) (lx : x.length = bl S) (nx : Nums p x) (hy : RowIn loy tpy w ay y) (ty : tpy ≤ w.heap.size) (ly : y.length = bl S) (ny : Nums p y) :
    Calls Tryz.prog 87 #[.agg #[.int .i64 p, .slice aS S.length cS], .slice ax x.length cx, .slice ay y.length cy, .int .i64 0] w (NewRowT (bl S) (kF p S 0 x y) w) := by
  have hpb := prm_bd hp
  have hbl := bl_le h6
  obtain ⟨n, hn⟩ : ∃ n, n = x.length := ⟨_, rfl⟩
  have hyn : y.length = n := by omega
  have hns : n = bl S := by omega
  have h64 : n ≤ 64 := by omega
  have hmk := fun W => run_make_row' (P := Tryz.prog) 22 2 (.int .i64 0) 8 Tryz.underlying22 info64 rfl .i64 .i64 n (by omega) (by omega) W
  have HS := Lib.hid hS
  have HX := Lib.hid hx
  have HY := Lib.hid hy
  have HNX := Lib.hid nx
  have HNY := Lib.hid ny
  have HNS := Lib.hid nS
  have HP := Lib.hid hp
  have HN := Lib.hid hns
  have HXN := Lib.hid hn
  have HYN := Lib.hid hyn
  have HB0 := Lib.hid (below_alloc w (.cells #[.int .i64 p, .slice aS S.length cS] 29))
  have k0 := nw0 w (.int .i64 p) (.slice aS S.length cS) 29
  have k1 := nw1 w (.int .i64 p) (.slice aS S.length cS) 29
  rw [← hn, hyn]
  clear hS hx hy nx ny nS hp lx ly hn hyn hns
  go_enter Tryz.func87, Tryz.ntmps87
  go_upto_region 1 with fail
  obtain ⟨w1, hw1⟩ : ∃ z, z = w.alloc (.cells #[.int .i64 p, .slice aS S.length cS] 29) := ⟨_, rfl⟩
  rw [← hw1] at HB0 k0 k1 ⊢
  have hw0 : w.heap.size < w1.heap.size := by rw [hw1]; simp
  clear hw1
  go_upto_region 2 with fail
  obtain ⟨w2, hw2⟩ : ∃ z, z = w1.alloc (.cells (madeCells #[.int .i64 0] n) 2) := ⟨_, rfl⟩
  have HO2 : Hid (RowOwn w2 w1.heap.size 0 n (fun c => sm 0 (tk p S 0 x y c) % p)) := by
    show RowOwn _ _ _ _ _; rw [hw2]; exact (RowOwn.start w1 n _).congr (fun j _ => by simp [sm])
  have HB2 : Hid (Below w.heap.size w w2) := by show Below _ _ _; rw [hw2]; exact HB0.out.alloc (by omega) _
  have hz2 : w1.heap.size < w2.heap.size := by rw [hw2]; simp
  have HT2 : Hid (Tag w1.heap.size w2) := by show Tag _ _; rw [hw2]; exact Tag.start w1 _
  have K0 : Hid (w2.cell? ⟨w.heap.size, 0, none⟩ = some (.int .i64 p)) := by show _ = _; rw [hw2]; exact (World.cell?_alloc_old _ _ _ (show w.heap.size ≠ w1.heap.size by omega)).trans k0
  have K1 : Hid (w2.cell? ⟨w.heap.size, 1, none⟩ = some (.slice aS S.length cS)) := by show _ = _; rw [hw2]; exact (World.cell?_alloc_old _ _ _ (show w.heap.size ≠ w1.heap.size by omega)).trans k1
  rw [← hw2]
  obtain ⟨b1, hb1⟩ : ∃ b, b = w1.heap.size := ⟨_, rfl⟩
  rw [← hb1] at hw0 hz2 HO2 HT2 ⊢
  clear hw2 hmk k0 k1 HB0 hb1
  go_wp2
  go_loopw [10] (fun t wr => ∃ i : Nat, i ≤ n ∧ t = .int .i64 i ∧ RowOwn wr b1 0 n (fun c => sm i (tk p S 0 x y c) % p) ∧ wr.cell? ⟨w.heap.size, 0, none⟩ = some (.int .i64 p) ∧ wr.cell? ⟨w.heap.size, 1, none⟩ = some (.slice aS S.length cS) ∧ Below w.heap.size w wr ∧ w2.heap.size ≤ wr.heap.size ∧ Tag b1 wr) (fun t _ => n - (intOf t).toNat)
  case atStart => exact ⟨0, Nat.zero_le _, rfl, HO2.out, K0.out, K1.out, HB2.out, Nat.le_refl _, HT2.out⟩
  case round =>
    obtain ⟨i, hi, rfl, hr, hk0, hk1, hbel, hsz, htg⟩ := hrel
    rename World => wo
    have HR := Lib.hid hr
    have HK0 := Lib.hid hk0
    have HK1 := Lib.hid hk1
    have HB := Lib.hid hbel
    have HTG := Lib.hid htg
    clear hr hk0 hk1 hbel htg
    by_cases hlt : i < n
    · have hi1 : (i : Int) < (n : Int) := by omega
      go_wp2
      go_loopw [11] (fun t wr => ∃ k : Nat, k ≤ n ∧ t = .int .i64 k ∧ RowOwn wr b1 0 n (pk p S 0 x y i k) ∧ wr.cell? ⟨w.heap.size, 0, none⟩ = some (.int .i64 p) ∧ wr.cell? ⟨w.heap.size, 1, none⟩ = some (.slice aS S.length cS) ∧ Below w.heap.size w wr ∧ w2.heap.size ≤ wr.heap.size ∧ Tag b1 wr) (fun t _ => n - (intOf t).toNat)
      case atStart => exact ⟨0, Nat.zero_le _, rfl, HR.out.congr (fun c _ => (pk_start p S 0 x y i c).symm), HK0.out, HK1.out, HB.out, hsz, HTG.out⟩
      case round =>
        obtain ⟨k, hk, rfl, hr, hk0, hk1, hbel, hsz3, htg3⟩ := hrel
        have HTK := Lib.hid htg3
        clear htg3
        have HRK := Lib.hid hr
        have HK0' := Lib.hid hk0
        have HK1' := Lib.hid hk1
        have HBK := Lib.hid hbel
        have hwz := hbel.size
        by_cases hltk : k < n
        · obtain ⟨bx, ox, hax, _, ux, hcx⟩ := (HX.out.below hbel tx).num (show i < x.length by rw [← HXN.out]; exact hlt)
          obtain ⟨by', oy, hay, _, uy, hcy⟩ := (HY.out.below hbel ty).num (show k < y.length by rw [HYN.out]; exact hltk)
          subst hax hay
          have hk1' : (k : Int) < (n : Int) := by omega
          obtain ⟨x0, x1⟩ := HNX.out i (by rw [← HXN.out]; exact hlt)
          obtain ⟨y0, y1⟩ := HNY.out k (by rw [HYN.out]; exact hltk)
          obtain ⟨xi, hxi⟩ : ∃ z, z = x.getD i 0 := ⟨_, rfl⟩
          obtain ⟨yk, hyk⟩ : ∃ z, z = y.getD k 0 := ⟨_, rfl⟩
          have HXI := Lib.hid hxi
          have HYK := Lib.hid hyk
          rw [← hxi] at hcx x0 x1
          rw [← hyk] at hcy y0 y1
          clear hxi hyk
          have hand := and_64 (a := i) (b := k) (by omega) (by omega)
          have hB : (bits .and .i64 (i : Int) (k : Int) != 0) = !(kp 0 i k) := by rw [hand]; exact bne_nat0 _
          clear hand
          by_cases hkp : kp 0 i k = true
          · rw [hkp, Bool.not_true] at hB
            have HKP := Lib.hid hkp
            obtain ⟨q, hq⟩ : ∃ q, q = i ^^^ k := ⟨_, rfl⟩
            have hqn : q < n := by rw [hq, HN.out]; exact xor_bl (HN.out ▸ hlt) (HN.out ▸ hltk)
            have hqn1 : (q : Int) < (n : Int) := by omega
            have e3 : bits .xor .i64 (i : Int) (k : Int) = (q : Int) := by rw [xor_64 (by omega) (by omega), hq]
            have c0 := hr.cell q hqn
            have f0 := hr.free q hqn
            rw [Nat.zero_add] at c0 f0
            have hob := pk_bd (by omega : 0 < p) S 0 x y i k q
            obtain ⟨o, ho⟩ : ∃ o, o = pk p S 0 x y i k q := ⟨_, rfl⟩
            have hfb := fm_bd (by omega : 0 < p) S i k S.length
            obtain ⟨g, hg⟩ : ∃ g, g = fm p S i k S.length := ⟨_, rfl⟩
            have HV : Hid (∀ c, (if c = q then (o + xi * yk % p * g) % p else pk p S 0 x y i k c) = pk p S 0 x y i (k + 1) c) := fun c => by
              have h := pk_put p S 0 x y HKP.out (i := i) (k := k) (v := (o + xi * yk % p * g) % p) (by rw [ho, hg, hq, HXI.out, HYK.out]) c
              rw [← hq] at h; exact h
            rw [← ho] at hob c0
            rw [← hg] at hfb
            have HG := Lib.hid hg
            obtain ⟨m0, m1⟩ := mul_bd' hpb.2 x0 x1 y0 y1
            have d0 := Int.emod_nonneg (xi * yk) (by omega : p ≠ 0)
            have d1 := Int.emod_lt_of_pos (xi * yk) (by omega : 0 < p)
            have e4 : IntKind.i64.wrap (xi * yk) = xi * yk := IntWalk.i64_in _ (by omega)
            have e5 : (xi * yk).tmod p = xi * yk % p := Int.tmod_eq_emod_of_nonneg m0
            obtain ⟨m, hm⟩ : ∃ m, m = xi * yk % p := ⟨_, rfl⟩
            rw [← hm] at d0 d1 e5 HV
            obtain ⟨z0, z1⟩ := mul_bd' hpb.2 d0 d1 hfb.1 hfb.2
            have e6 : IntKind.i64.wrap (m * g) = m * g := IntWalk.i64_in _ (by omega)
            have e7 : IntKind.i64.wrap (o + m * g) = o + m * g := IntWalk.i64_in _ (by omega)
            have e8 : (o + m * g).tmod p = (o + m * g) % p := Int.tmod_eq_emod_of_nonneg (by omega)
            have hp0 : ¬ p = 0 := by omega
            have hp1 : (p == 0) = false := by simpa using hp0
            have HSW := Lib.hid (HS.out.below hbel tS)
            have tSw : tpS ≤ wr.heap.size := by omega
            have lw : w.heap.size < wr.heap.size := by omega
            have tSd : tpS ≤ wr.drew.heap.size := tSw
            have hi64 : i < 64 := by omega
            have hk64 : k < 64 := by omega
            have lbx : bx < wr.heap.size := by omega
            have lby : by' < wr.heap.size := by omega
            have nwb : w.heap.size ≠ b1 := by omega
            have nxb : bx ≠ b1 := by omega
            have nyb : by' ≠ b1 := by omega
            have lb : b1 < wr.heap.size := by omega
            clear ho hg hm hq hr hbel hkp
            go_wp2
            refine wp_region_noPanic ?_
            refine wp_region_held_drew (S := fun w' => w'.cell? ⟨w.heap.size, 0, none⟩ = some (.int .i64 p) ∧ w'.cell? ⟨w.heap.size, 1, none⟩ = some (.slice aS S.length cS) ∧ w'.cell? ⟨bx, ox + i, none⟩ = some (.int .i64 xi) ∧ w'.cell? ⟨by', oy + k, none⟩ = some (.int .i64 yk)) (by kernel_rfl) (⟨HK0'.out, HK1'.out, hcx, hcy⟩) (fun hHeld => ?_)
            (refine wpAnyH_take (i := 0) (oi := _) (v := ?_) rfl (by kernel_rfl) (by kernel_rfl) (by kernel_rfl) (fun _ _ _ h => h) (Or.inl ⟨by rfl, ?_⟩) (by assumption) ?_; rotate_left; (focus (intro w' hSw; (try dsimp only at hSw); first | (go_simp; done) | (go_simp; with_reducible rfl)))); ((try simp only [Act.put]); (try simp only [List.setIfInBounds_toArray]); (try simp only [List.set_cons_succ]); (try simp only [List.set_cons_zero]))
            (refine wpAnyH_take (i := 1) (oi := _) (v := ?_) rfl (by kernel_rfl) (by kernel_rfl) (by kernel_rfl) (fun _ _ _ h => h) (Or.inl ⟨by rfl, ?_⟩) (by assumption) ?_; rotate_left; (focus (intro w' hSw; (try dsimp only at hSw); first | (go_simp; done) | (go_simp; with_reducible rfl)))); ((try simp only [Act.put]); (try simp only [List.setIfInBounds_toArray]); (try simp only [List.set_cons_succ]); (try simp only [List.set_cons_zero]))
            (refine wpAnyH_take (i := 2) (oi := _) (v := ?_) rfl (by kernel_rfl) (by kernel_rfl) (by kernel_rfl) (fun _ _ _ h => h) (Or.inl ⟨by rfl, ?_⟩) (by assumption) ?_; rotate_left; (focus (intro w' hSw; (try dsimp only at hSw); first | (go_simp; done) | (go_simp; with_reducible rfl)))); ((try simp only [Act.put]); (try simp only [List.setIfInBounds_toArray]); (try simp only [List.set_cons_succ]); (try simp only [List.set_cons_zero]))
            (refine wpAnyH_take (i := 3) (oi := _) (v := ?_) rfl (by kernel_rfl) (by kernel_rfl) (by kernel_rfl) (fun _ _ _ h => h) (Or.inl ⟨by rfl, ?_⟩) (by assumption) ?_; rotate_left; (focus (intro w' hSw; (try dsimp only at hSw); first | (go_simp; done) | (go_simp; with_reducible rfl)))); ((try simp only [Act.put]); (try simp only [List.setIfInBounds_toArray]); (try simp only [List.set_cons_succ]); (try simp only [List.set_cons_zero]))
            (refine wpAnyH_take (i := 4) (oi := _) (v := ?_) rfl (by kernel_rfl) (by kernel_rfl) (by kernel_rfl) (fun _ _ _ h => h) (Or.inl ⟨by rfl, ?_⟩) (by assumption) ?_; rotate_left; (focus (intro w' hSw; (try dsimp only at hSw); first | (go_simp; done) | (go_simp; with_reducible rfl)))); ((try simp only [Act.put]); (try simp only [List.setIfInBounds_toArray]); (try simp only [List.set_cons_succ]); (try simp only [List.set_cons_zero]))
            (refine wpAnyH_take (i := 5) (oi := _) (v := ?_) rfl (by kernel_rfl) (by kernel_rfl) (by kernel_rfl) (fun _ _ _ h => h) (Or.inl ⟨by rfl, ?_⟩) (by assumption) ?_; rotate_left; (focus (intro w' hSw; (try dsimp only at hSw); first | (go_simp; done) | (go_simp; with_reducible rfl)))); ((try simp only [Act.put]); (try simp only [List.setIfInBounds_toArray]); (try simp only [List.set_cons_succ]); (try simp only [List.set_cons_zero]))
            (refine wpAnyH_take (i := 6) (oi := _) (v := ?_) rfl (by kernel_rfl) (by kernel_rfl) (by kernel_rfl) (fun _ _ _ h => h) (Or.inl ⟨by rfl, ?_⟩) (by assumption) ?_; rotate_left; (focus (intro w' hSw; (try dsimp only at hSw); first | (go_simp; done) | (go_simp; with_reducible rfl)))); ((try simp only [Act.put]); (try simp only [List.setIfInBounds_toArray]); (try simp only [List.set_cons_succ]); (try simp only [List.set_cons_zero]))
            (refine wpAnyH_take (i := 7) (oi := _) (v := ?_) rfl (by kernel_rfl) (by kernel_rfl) (by kernel_rfl) (fun _ _ _ h => h) (Or.inl ⟨by rfl, ?_⟩) (by assumption) ?_; rotate_left; (focus (intro w' hSw; (try dsimp only at hSw); first | (go_simp; done) | (go_simp; with_reducible rfl)))); ((try simp only [Act.put]); (try simp only [List.setIfInBounds_toArray]); (try simp only [List.set_cons_succ]); (try simp only [List.set_cons_zero]))
            (refine wpAnyH_take (i := 8) (oi := _) (v := ?_) rfl (by kernel_rfl) (by kernel_rfl) (by kernel_rfl) (fun _ _ _ h => h) (Or.inl ⟨by rfl, ?_⟩) (by assumption) ?_; rotate_left; (focus (intro w' hSw; (try dsimp only at hSw); first | (go_simp; done) | (go_simp; with_reducible rfl)))); ((try simp only [Act.put]); (try simp only [List.setIfInBounds_toArray]); (try simp only [List.set_cons_succ]); (try simp only [List.set_cons_zero]))
            (refine wpAnyH_take (i := 10) (oi := _) (v := ?_) rfl (by kernel_rfl) (by kernel_rfl) (by kernel_rfl) (fun _ _ _ h => h) (Or.inl ⟨by rfl, ?_⟩) (by assumption) ?_; rotate_left; (focus (intro w' hSw; (try dsimp only at hSw); first | (go_simp; done) | (go_simp; with_reducible rfl)))); ((try simp only [Act.put]); (try simp only [List.setIfInBounds_toArray]); (try simp only [List.set_cons_succ]); (try simp only [List.set_cons_zero]))
            (refine wpAnyH_take (i := 11) (oi := _) (v := ?_) rfl (by kernel_rfl) (by kernel_rfl) (by kernel_rfl) (fun _ _ _ h => h) (Or.inl ⟨by rfl, ?_⟩) (by assumption) ?_; rotate_left; (focus (intro w' hSw; (try dsimp only at hSw); first | (go_simp; done) | (go_simp; with_reducible rfl)))); ((try simp only [Act.put]); (try simp only [List.setIfInBounds_toArray]); (try simp only [List.set_cons_succ]); (try simp only [List.set_cons_zero]))
            (refine wpAnyH_take (i := 12) (oi := _) (v := ?_) rfl (by kernel_rfl) (by kernel_rfl) (by kernel_rfl) (fun _ _ _ h => h) (Or.inl ⟨by rfl, ?_⟩) (by assumption) ?_; rotate_left; (focus (intro w' hSw; (try dsimp only at hSw); first | (go_simp; done) | (go_simp; with_reducible rfl)))); ((try simp only [Act.put]); (try simp only [List.setIfInBounds_toArray]); (try simp only [List.set_cons_succ]); (try simp only [List.set_cons_zero]))
            (refine wpAnyH_take (i := 13) (oi := _) (v := ?_) rfl (by kernel_rfl) (by kernel_rfl) (by kernel_rfl) (fun _ _ _ h => h) (Or.inl ⟨by rfl, ?_⟩) (by assumption) ?_; rotate_left; (focus (intro w' hSw; (try dsimp only at hSw); first | (go_simp; done) | (go_simp; with_reducible rfl)))); ((try simp only [Act.put]); (try simp only [List.setIfInBounds_toArray]); (try simp only [List.set_cons_succ]); (try simp only [List.set_cons_zero]))
            (refine wpAnyH_take (i := 14) (oi := _) (v := ?_) rfl (by kernel_rfl) (by kernel_rfl) (by kernel_rfl) (fun _ _ _ h => h) (Or.inl ⟨by rfl, ?_⟩) (by assumption) ?_; rotate_left; (focus (intro w' hSw; (try dsimp only at hSw); first | (go_simp; done) | (go_simp; with_reducible rfl)))); ((try simp only [Act.put]); (try simp only [List.setIfInBounds_toArray]); (try simp only [List.set_cons_succ]); (try simp only [List.set_cons_zero]))
            (refine wpAnyH_take (i := 15) (oi := _) (v := ?_) rfl (by kernel_rfl) (by kernel_rfl) (by kernel_rfl) (fun _ _ _ h => h) (Or.inl ⟨by rfl, ?_⟩) (by assumption) ?_; rotate_left; (focus (intro w' hSw; (try dsimp only at hSw); first | (go_simp; done) | (go_simp; with_reducible rfl)))); ((try simp only [Act.put]); (try simp only [List.setIfInBounds_toArray]); (try simp only [List.set_cons_succ]); (try simp only [List.set_cons_zero]))
            (refine wpAnyH_take (i := 16) (oi := _) (v := ?_) rfl (by kernel_rfl) (by kernel_rfl) (by kernel_rfl) (fun _ _ _ h => h) (Or.inl ⟨by rfl, ?_⟩) (by assumption) ?_; rotate_left; (focus (intro w' hSw; (try dsimp only at hSw); first | (go_simp; done) | (go_simp; with_reducible rfl)))); ((try simp only [Act.put]); (try simp only [List.setIfInBounds_toArray]); (try simp only [List.set_cons_succ]); (try simp only [List.set_cons_zero]))
            (refine wpAnyH_take (i := 17) (oi := _) (v := ?_) rfl (by kernel_rfl) (by kernel_rfl) (by kernel_rfl) (fun _ _ _ h => h) (Or.inl ⟨by rfl, ?_⟩) (by assumption) ?_; rotate_left; (focus (intro w' hSw; (try dsimp only at hSw); first | (go_simp; done) | (go_simp; with_reducible rfl)))); ((try simp only [Act.put]); (try simp only [List.setIfInBounds_toArray]); (try simp only [List.set_cons_succ]); (try simp only [List.set_cons_zero]))
            (refine wpAnyH_take (i := 18) (oi := _) (v := ?_) rfl (by kernel_rfl) (by kernel_rfl) (by kernel_rfl) (fun _ _ _ h => h) (Or.inl ⟨by rfl, ?_⟩) (by assumption) ?_; rotate_left; (focus (intro w' hSw; (try dsimp only at hSw); first | (go_simp; done) | (go_simp; with_reducible rfl)))); ((try simp only [Act.put]); (try simp only [List.setIfInBounds_toArray]); (try simp only [List.set_cons_succ]); (try simp only [List.set_cons_zero]))
            (refine wpAnyH_take (i := 19) (oi := _) (v := ?_) rfl (by kernel_rfl) (by kernel_rfl) (by kernel_rfl) (fun _ _ _ h => h) (Or.inl ⟨by rfl, ?_⟩) (by assumption) ?_; rotate_left; (focus (intro w' hSw; (try dsimp only at hSw); first | (go_simp; done) | (go_simp; with_reducible rfl)))); ((try simp only [Act.put]); (try simp only [List.setIfInBounds_toArray]); (try simp only [List.set_cons_succ]); (try simp only [List.set_cons_zero]))
            (refine wpAnyH_take (i := 20) (oi := _) (v := ?_) rfl (by kernel_rfl) (by kernel_rfl) (by kernel_rfl) (fun _ _ _ h => h) (Or.inl ⟨by rfl, ?_⟩) (by assumption) ?_; rotate_left; (focus (intro w' hSw; (try dsimp only at hSw); first | (go_simp; done) | (go_simp; with_reducible rfl)))); ((try simp only [Act.put]); (try simp only [List.setIfInBounds_toArray]); (try simp only [List.set_cons_succ]); (try simp only [List.set_cons_zero]))
            (refine wpAnyH_take (i := 21) (oi := _) (v := ?_) rfl (by kernel_rfl) (by kernel_rfl) (by kernel_rfl) (fun _ _ _ h => h) (Or.inl ⟨by rfl, ?_⟩) (by assumption) ?_; rotate_left; (focus (intro w' hSw; (try dsimp only at hSw); first | (go_simp; done) | (go_simp; with_reducible rfl)))); ((try simp only [Act.put]); (try simp only [List.setIfInBounds_toArray]); (try simp only [List.set_cons_succ]); (try simp only [List.set_cons_zero]))
            (refine wpAnyH_take (i := 22) (oi := _) (v := ?_) rfl (by kernel_rfl) (by kernel_rfl) (by kernel_rfl) (fun _ _ _ h => h) (Or.inl ⟨by rfl, ?_⟩) (by assumption) ?_; rotate_left; (focus (intro w' hSw; (try dsimp only at hSw); first | (go_simp; done) | (go_simp; with_reducible rfl)))); ((try simp only [Act.put]); (try simp only [List.setIfInBounds_toArray]); (try simp only [List.set_cons_succ]); (try simp only [List.set_cons_zero]))
            (refine wpAnyH_take (i := 23) (oi := _) (v := ?_) rfl (by kernel_rfl) (by kernel_rfl) (by kernel_rfl) (fun _ _ _ h => h) (Or.inl ⟨by rfl, ?_⟩) (by assumption) ?_; rotate_left; (focus (intro w' hSw; (try dsimp only at hSw); first | (go_simp; done) | (go_simp; with_reducible rfl)))); ((try simp only [Act.put]); (try simp only [List.setIfInBounds_toArray]); (try simp only [List.set_cons_succ]); (try simp only [List.set_cons_zero]))
            (refine wpAnyH_take (i := 24) (oi := _) (v := ?_) rfl (by kernel_rfl) (by kernel_rfl) (by kernel_rfl) (fun _ _ _ h => h) (Or.inl ⟨by rfl, ?_⟩) (by assumption) ?_; rotate_left; (focus (intro w' hSw; (try dsimp only at hSw); first | (go_simp; done) | (go_simp; with_reducible rfl)))); ((try simp only [Act.put]); (try simp only [List.setIfInBounds_toArray]); (try simp only [List.set_cons_succ]); (try simp only [List.set_cons_zero]))
            (refine wpAnyH_take (i := 28) (oi := _) (v := ?_) rfl (by kernel_rfl) (by kernel_rfl) (by kernel_rfl) (fun _ _ _ h => h) (Or.inl ⟨by rfl, ?_⟩) (by assumption) ?_; rotate_left; (focus (intro w' hSw; (try dsimp only at hSw); first | (go_simp; done) | (go_simp; with_reducible rfl)))); ((try simp only [Act.put]); (try simp only [List.setIfInBounds_toArray]); (try simp only [List.set_cons_succ]); (try simp only [List.set_cons_zero]))
            (refine wpAnyH_take (i := 29) (oi := _) (v := ?_) rfl (by kernel_rfl) (by kernel_rfl) (by kernel_rfl) (fun _ _ _ h => h) (Or.inl ⟨by rfl, ?_⟩) (by assumption) ?_; rotate_left; (focus (intro w' hSw; (try dsimp only at hSw); first | (go_simp; done) | (go_simp; with_reducible rfl)))); ((try simp only [Act.put]); (try simp only [List.setIfInBounds_toArray]); (try simp only [List.set_cons_succ]); (try simp only [List.set_cons_zero]))
            refine wpAnyH_ready (rs := [9, 25]) (by kernel_rfl) (by simp) ?_
            refine AllReadyH.cons (o := _) rfl (fun K hK => ?_) (AllReadyH.cons (o := _) rfl (fun K hK => ?_) AllReadyH.nil)
            · go_simp
              refine hK.out _ _ (hHeld) (fun hHeld => ?_)
              clear hK K
              ((try simp only [Act.put]); (try simp only [List.setIfInBounds_toArray]); (try simp only [List.set_cons_succ]); (try simp only [List.set_cons_zero]))
              refine wpAnyH_ready (rs := [25]) (by kernel_rfl) (by simp) ?_
              refine AllReadyH.cons (o := _) rfl (fun K hK => ?_) AllReadyH.nil
              go_simp; go_at_call 107; (with_reducible refine (l04Blades_any p aS S cS loS tpS i k _ HP.out h6 (HSW.out.below (below_drew wr) tSw) tSd HNS.out hi64 hk64).mono ?_); rintro e w3 ⟨rfl, b3⟩; rw [← HG.out]; have HB3 : Hid (Below wr.heap.size wr w3) := (below_drew wr).trans b3; have SS3 := Lib.hid (sst4 HB3.out lw lbx lby HK0'.out HK1'.out hcx hcy); have SS4 := Lib.hid (ssp4 w3 b1 q (.int .i64 ((o + m * g) % p)) nwb nxb nyb SS3.out); have c9 := (HB3.out.cell (p := ⟨b1, q, none⟩) lb).trans c0; have f9 := (HB3.out.frozen (p := ⟨b1, q, none⟩) lb).trans f0; clear b3; (try go_wp2_with fail)
              refine hK.out _ _ (SS3.out) (fun hHeld => ?_)
              clear hK K
              ((try simp only [Act.put]); (try simp only [List.setIfInBounds_toArray]); (try simp only [List.set_cons_succ]); (try simp only [List.set_cons_zero]))
              (refine wpAnyH_take (i := 26) (oi := _) (v := ?_) rfl (by kernel_rfl) (by kernel_rfl) (by kernel_rfl) (fun _ _ _ h => h) (Or.inl ⟨by rfl, ?_⟩) (by assumption) ?_; rotate_left; (focus (intro w' hSw; (try dsimp only at hSw); first | (go_simp; done) | (go_simp; with_reducible rfl)))); ((try simp only [Act.put]); (try simp only [List.setIfInBounds_toArray]); (try simp only [List.set_cons_succ]); (try simp only [List.set_cons_zero]))
              (refine wpAnyH_take (i := 27) (oi := _) (v := ?_) rfl (by kernel_rfl) (by kernel_rfl) (by kernel_rfl) (fun _ _ _ h => h) (Or.inl ⟨by rfl, ?_⟩) (by assumption) ?_; rotate_left; (focus (intro w' hSw; (try dsimp only at hSw); first | (go_simp; done) | (go_simp; with_reducible rfl)))); ((try simp only [Act.put]); (try simp only [List.setIfInBounds_toArray]); (try simp only [List.set_cons_succ]); (try simp only [List.set_cons_zero]))
              (refine wpAnyH_take (i := 30) (oi := _) (v := ?_) rfl (by kernel_rfl) (by kernel_rfl) (by kernel_rfl) (fun _ _ _ h => h) (Or.inl ⟨by rfl, ?_⟩) (by assumption) ?_; rotate_left; (focus (intro w' hSw; (try dsimp only at hSw); first | (go_simp; done) | (go_simp; with_reducible rfl)))); ((try simp only [Act.put]); (try simp only [List.setIfInBounds_toArray]); (try simp only [List.set_cons_succ]); (try simp only [List.set_cons_zero]))
              (refine wpAnyH_take (i := 31) (oi := _) (v := ?_) rfl (by kernel_rfl) (by kernel_rfl) (by kernel_rfl) (fun _ _ _ h => h) (Or.inl ⟨by rfl, ?_⟩) (by assumption) ?_; rotate_left; (focus (intro w' hSw; (try dsimp only at hSw); first | (go_simp; done) | (go_simp; with_reducible rfl)))); ((try simp only [Act.put]); (try simp only [List.setIfInBounds_toArray]); (try simp only [List.set_cons_succ]); (try simp only [List.set_cons_zero]))
              refine wpAnyH_ready (rs := [32]) (by kernel_rfl) (by simp) ?_
              refine AllReadyH.cons (o := _) rfl (fun K hK => ?_) AllReadyH.nil
              go_simp
              refine hK.out _ _ (SS4.out) (fun hHeld => ?_)
              clear hK K
              ((try simp only [Act.put]); (try simp only [List.setIfInBounds_toArray]); (try simp only [List.set_cons_succ]); (try simp only [List.set_cons_zero]))
              refine wpAnyH_done (by kernel_rfl) ?_ _
              refine NoPanic.normal ?_
              go_wp2
              have hz3 := HB3.out.size
              go_roundw
              case rel => exact ⟨k + 1, by omega, by go_num, row_put0 (HRK.out.stay (HB3.out.block b1 lb)) hqn (fun c _ => HV.out c), SS4.out.1, SS4.out.2.1, (below_step HBK.out hwz HB3.out).trans ((wrote_put0 (Wrote.refl b1 0 n _) hqn _).belowB (by omega)), by simp [World.setCell]; omega, (HTK.out.stay (HB3.out.block b1 lb)).set _ _ _⟩
              case measure => simp [intOf]; omega
            · go_simp; go_at_call 107; (with_reducible refine (l04Blades_any p aS S cS loS tpS i k _ HP.out h6 (HSW.out.below (below_drew wr) tSw) tSd HNS.out hi64 hk64).mono ?_); rintro e w3 ⟨rfl, b3⟩; rw [← HG.out]; have HB3 : Hid (Below wr.heap.size wr w3) := (below_drew wr).trans b3; have SS3 := Lib.hid (sst4 HB3.out lw lbx lby HK0'.out HK1'.out hcx hcy); have SS4 := Lib.hid (ssp4 w3 b1 q (.int .i64 ((o + m * g) % p)) nwb nxb nyb SS3.out); have c9 := (HB3.out.cell (p := ⟨b1, q, none⟩) lb).trans c0; have f9 := (HB3.out.frozen (p := ⟨b1, q, none⟩) lb).trans f0; clear b3; (try go_wp2_with fail)
              refine hK.out _ _ (SS3.out) (fun hHeld => ?_)
              clear hK K
              ((try simp only [Act.put]); (try simp only [List.setIfInBounds_toArray]); (try simp only [List.set_cons_succ]); (try simp only [List.set_cons_zero]))
              (refine wpAnyH_take (i := 26) (oi := _) (v := ?_) rfl (by kernel_rfl) (by kernel_rfl) (by kernel_rfl) (fun _ _ _ h => h) (Or.inl ⟨by rfl, ?_⟩) (by assumption) ?_; rotate_left; (focus (intro w' hSw; (try dsimp only at hSw); first | (go_simp; done) | (go_simp; with_reducible rfl)))); ((try simp only [Act.put]); (try simp only [List.setIfInBounds_toArray]); (try simp only [List.set_cons_succ]); (try simp only [List.set_cons_zero]))
              refine wpAnyH_ready (rs := [9]) (by kernel_rfl) (by simp) ?_
              refine AllReadyH.cons (o := _) rfl (fun K hK => ?_) AllReadyH.nil
              go_simp
              refine hK.out _ _ (hHeld) (fun hHeld => ?_)
              clear hK K
              ((try simp only [Act.put]); (try simp only [List.setIfInBounds_toArray]); (try simp only [List.set_cons_succ]); (try simp only [List.set_cons_zero]))
              (refine wpAnyH_take (i := 27) (oi := _) (v := ?_) rfl (by kernel_rfl) (by kernel_rfl) (by kernel_rfl) (fun _ _ _ h => h) (Or.inl ⟨by rfl, ?_⟩) (by assumption) ?_; rotate_left; (focus (intro w' hSw; (try dsimp only at hSw); first | (go_simp; done) | (go_simp; with_reducible rfl)))); ((try simp only [Act.put]); (try simp only [List.setIfInBounds_toArray]); (try simp only [List.set_cons_succ]); (try simp only [List.set_cons_zero]))
              (refine wpAnyH_take (i := 30) (oi := _) (v := ?_) rfl (by kernel_rfl) (by kernel_rfl) (by kernel_rfl) (fun _ _ _ h => h) (Or.inl ⟨by rfl, ?_⟩) (by assumption) ?_; rotate_left; (focus (intro w' hSw; (try dsimp only at hSw); first | (go_simp; done) | (go_simp; with_reducible rfl)))); ((try simp only [Act.put]); (try simp only [List.setIfInBounds_toArray]); (try simp only [List.set_cons_succ]); (try simp only [List.set_cons_zero]))
              (refine wpAnyH_take (i := 31) (oi := _) (v := ?_) rfl (by kernel_rfl) (by kernel_rfl) (by kernel_rfl) (fun _ _ _ h => h) (Or.inl ⟨by rfl, ?_⟩) (by assumption) ?_; rotate_left; (focus (intro w' hSw; (try dsimp only at hSw); first | (go_simp; done) | (go_simp; with_reducible rfl)))); ((try simp only [Act.put]); (try simp only [List.setIfInBounds_toArray]); (try simp only [List.set_cons_succ]); (try simp only [List.set_cons_zero]))
              refine wpAnyH_ready (rs := [32]) (by kernel_rfl) (by simp) ?_
              refine AllReadyH.cons (o := _) rfl (fun K hK => ?_) AllReadyH.nil
              go_simp
              refine hK.out _ _ (SS4.out) (fun hHeld => ?_)
              clear hK K
              ((try simp only [Act.put]); (try simp only [List.setIfInBounds_toArray]); (try simp only [List.set_cons_succ]); (try simp only [List.set_cons_zero]))
              refine wpAnyH_done (by kernel_rfl) ?_ _
              refine NoPanic.normal ?_
              go_wp2
              have hz3 := HB3.out.size
              go_roundw
              case rel => exact ⟨k + 1, by omega, by go_num, row_put0 (HRK.out.stay (HB3.out.block b1 lb)) hqn (fun c _ => HV.out c), SS4.out.1, SS4.out.2.1, (below_step HBK.out hwz HB3.out).trans ((wrote_put0 (Wrote.refl b1 0 n _) hqn _).belowB (by omega)), by simp [World.setCell]; omega, (HTK.out.stay (HB3.out.block b1 lb)).set _ _ _⟩
              case measure => simp [intOf]; omega
          · have hkf : kp 0 i k = false := by simpa using hkp
            rw [hkf, Bool.not_false] at hB
            have HKF := Lib.hid hkf
            clear hkp hkf hr hk0 hk1 hbel
            go_wp2
            go_roundw
            case rel => exact ⟨k + 1, by omega, by go_num, HRK.out.congr (fun c _ => pk_skip HKF.out c), HK0'.out, HK1'.out, HBK.out, hsz3, HTK.out⟩
            case measure => simp [intOf]; omega
        · have hkn : k = n := by omega
          subst hkn
          clear hr hk0 hk1 hbel
          go_wp2
          go_roundw
          case rel => exact ⟨i + 1, by omega, by go_num, HRK.out.congr (fun c hc => by rw [HN.out] at hlt hc ⊢; exact pk_end p S 0 x y hlt hc), HK0'.out, HK1'.out, HBK.out, hsz3, HTK.out⟩
          case measure => simp [intOf]; omega
    · have hin : i = n := by omega
      subst hin
      go_wp2
      go_ret
      exact ⟨b1, by rw [← HN.out]; rfl, by omega, by omega, by rw [← HN.out]; exact HR.out.congr (fun c _ => by rw [HN.out]; exact rfl), HB.out, HTG.out⟩

end Go.Proofs.YtbnegbpapjcmhaaGreat

namespace Go.Proofs.YtbnegbpapjcmhaaGreat
open Go.RowKit Go.Maps
set_option linter.unusedVariables false

/-- The number at c, when the terms that have come are added. -/
def gqk (p : Int) (S : List Int) (κ : Nat) (x y : List Int) (left : Lit → Bool) (c : Nat) : Int := sm (bl S) (fl x left (tk p S κ x y c))
theorem tk_none {p : Int} {S : List Int} {κ : Nat} {x y : List Int} {c a : Nat} (h : x.getD a 0 = 0) : tk p S κ x y c a = 0 := by unfold tk; rw [tm_none h, ite_self]
theorem gqk_start {D : DataW Unit} {p : Int} {S : List Int} {κ : Nat} {x y : List Int} (h : Tm D x (bl S)) (c : Nat) : gqk p S κ x y (Maps.has D) c = 0 := by
  unfold gqk; rw [sm_congr (fun j hj => fl_start h (tk p S κ x y c) hj), sm_zero]
theorem gqk_end {p : Int} {S : List Int} {κ : Nat} {x y : List Int} {left : Lit → Bool} (h : ∀ kl, left kl = false) (c : Nat) : gqk p S κ x y left c = sm (bl S) (tk p S κ x y c) := by
  unfold gqk
  apply sm_congr
  intro j _
  rw [fl_end h]
  by_cases e : x.getD j 0 ≠ 0
  · rw [if_pos e]
  · rw [if_neg e, tk_none (by simpa using e)]
theorem gqk_step {p : Int} {S : List Int} {κ : Nat} {x y : List Int} {left : Lit → Bool} {k : Nat} (hk : k < bl S) (hne : x.getD k 0 ≠ 0) (ht : td left k = true) (c : Nat) : gqk p S κ x y (fun z => left z && !z.sameKey (.int .i64 (k : Int))) c = gqk p S κ x y left c + tk p S κ x y c k := by
  unfold gqk
  rw [← sm_put hk (tk p S κ x y c k) (f := fl x left (tk p S κ x y c)) (by unfold fl; rw [if_neg (fun e => by rw [ht] at e; cases e.2)])]
  exact sm_congr fun j _ => (fl_step hne j).symm
theorem tk_bd {p : Int} (h3 : 3 ≤ p) (h13 : p ≤ 13) {S : List Int} {κ : Nat} {x y : List Int} (nx : Nums p x) (ny : Nums p y) (lx : x.length = bl S) (ly : y.length = bl S) {c a : Nat} (hc : c < bl S) (ha : a < bl S) : 0 ≤ tk p S κ x y c a ∧ tk p S κ x y c a ≤ 1728 := by
  unfold tk
  split
  · exact tm_bd h3 h13 nx ny lx ly hc ha
  · omega
theorem gqk_bd {p : Int} (h3 : 3 ≤ p) (h13 : p ≤ 13) {S : List Int} {κ : Nat} {x y : List Int} (h6 : S.length ≤ 6) (nx : Nums p x) (ny : Nums p y) (lx : x.length = bl S) (ly : y.length = bl S) (left : Lit → Bool) {c : Nat} (hc : c < bl S) : 0 ≤ gqk p S κ x y left c ∧ gqk p S κ x y left c ≤ 110592 := by
  have h := sm_bd (n := bl S) (f := fl x left (tk p S κ x y c)) (b := 1728) (fun j hj => by
    unfold fl
    split
    · exact tk_bd h3 h13 nx ny lx ly hc hj
    · omega)
  have := bl_le h6
  unfold gqk; omega
/-- .. and those of the first k numbers of the term j. -/
def gkk (p : Int) (S : List Int) (κ : Nat) (x y : List Int) (left : Lit → Bool) (j k c : Nat) : Int := gqk p S κ x y left c + if j ^^^ c < k then tk p S κ x y c j else 0
theorem gkk_start (p : Int) (S : List Int) (κ : Nat) (x y : List Int) (left : Lit → Bool) (j c : Nat) : gkk p S κ x y left j 0 c = gqk p S κ x y left c := by unfold gkk; rw [if_neg (Nat.not_lt_zero _), Int.add_zero]
theorem gkk_end {p : Int} {S : List Int} {κ : Nat} {x y : List Int} {left : Lit → Bool} {j c : Nat} (hj : j < bl S) (hc : c < bl S) (hne : x.getD j 0 ≠ 0) (ht : td left j = true) : gkk p S κ x y left j (bl S) c = gqk p S κ x y (fun z => left z && !z.sameKey (.int .i64 (j : Int))) c := by
  rw [gqk_step hj hne ht]; unfold gkk; rw [if_pos (show j ^^^ c < bl S from Nat.xor_lt_two_pow hj hc)]
theorem gkk_here (p : Int) (S : List Int) (κ : Nat) (x y : List Int) (left : Lit → Bool) (j k : Nat) : gkk p S κ x y left j k (j ^^^ k) = gqk p S κ x y left (j ^^^ k) := by unfold gkk; rw [xor_back, if_neg (Nat.lt_irrefl _), Int.add_zero]
theorem gkk_put (p : Int) (S : List Int) (κ : Nat) (x y : List Int) (left : Lit → Bool) (j k : Nat) (hk : kp κ j k = true) {v : Int} (hv : v = gkk p S κ x y left j k (j ^^^ k) + x.getD j 0 * fm p S j k S.length * y.getD k 0) (c : Nat) : (if c = j ^^^ k then v else gkk p S κ x y left j k c) = gkk p S κ x y left j (k + 1) c := by
  by_cases e : c = j ^^^ k
  · rw [if_pos e, hv, e, gkk_here]
    unfold gkk
    rw [xor_back, if_pos (Nat.lt_succ_self k), tk_yes hk]
    unfold tm
    rw [xor_back]
  · rw [if_neg e]
    have e3 : ¬ j ^^^ c = k := fun h => e (by rw [← h, xor_back])
    unfold gkk
    by_cases e2 : j ^^^ c < k
    · rw [if_pos e2, if_pos (by omega)]
    · rw [if_neg e2, if_neg (by omega)]
theorem gkk_skip {p : Int} {S : List Int} {κ : Nat} {x y : List Int} {left : Lit → Bool} {j k : Nat} (hk : kp κ j k = false) (c : Nat) : gkk p S κ x y left j k c = gkk p S κ x y left j (k + 1) c := by
  unfold gkk
  by_cases e : j ^^^ c = k
  · have e2 : c = j ^^^ k := by rw [← e, xor_back]
    rw [if_neg (by omega), if_pos (by omega), e2, tk_no hk]
  · by_cases e2 : j ^^^ c < k
    · rw [if_pos e2, if_pos (by omega)]
    · rw [if_neg e2, if_neg (by omega)]

theorem productKinds_any (w : World) : Calls Tryz.prog 146 #[] w fun e w' => e = .returned (.agg #[.func (.func 159) #[] #[], .func (.func 160) #[] #[], .func (.func 161) #[] #[]]) ∧ Below w.heap.size w w' := by
  go_enter Tryz.func146, Tryz.ntmps146
  go_wp2
  refine bodyPost_ret (v := .agg #[.func (.func 159) #[] #[], .func (.func 160) #[] #[], .func (.func 161) #[] #[]]) (by simp [results, Tryz.results146, go_sem]) rfl ⟨rfl, ?_⟩
  ((repeat' (first | with_reducible exact Below.refl _ _ | (with_reducible refine Below.setCell ?_ ?_ _) | (with_reducible refine Below.alloc ?_ ?_ _) | (with_reducible refine Below.drew ?_))); all_goals (first | (simp; done) | omega | (simp; omega)))
theorem kept0 (a b : Nat) (w : World) (ha : a < 64) (hb : b < 64) : Calls Tryz.prog 159 #[.int .i64 a, .int .i64 b] w fun e w' => e = .returned (.bool (kp 0 a b)) ∧ w' = w := by
  have hand := and_64 ha hb
  have hB : (bits .and .i64 (a : Int) (b : Int) == 0) = kp 0 a b := by rw [hand]; exact beq_nat0 _
  clear hand
  go_enter Tryz.func159, Tryz.ntmps159
  go_wp2
  go_ret
  exact ⟨rfl, rfl⟩
theorem kind_index0 (w : World) : (Instr.index 133 (.agg #[.func (.func 159) #[] #[], .func (.func 160) #[] #[], .func (.func 161) #[] #[]]) (.int .i64 0)).run Tryz.prog w = .ok (.func (.func 159) #[] #[]) w := by kernel_rfl
theorem ss2 {B : Nat} {w w' : World} (h : Below B w w') {g : Nat} {u0 u1 : Value} (l : g < B) (h0 : w.cell? ⟨g, 0, none⟩ = some u0 ∧ w.cell? ⟨g, 1, none⟩ = some u1) : w'.cell? ⟨g, 0, none⟩ = some u0 ∧ w'.cell? ⟨g, 1, none⟩ = some u1 :=
  ⟨(h.cell (p := ⟨g, 0, none⟩) l).trans h0.1, (h.cell (p := ⟨g, 1, none⟩) l).trans h0.2⟩
theorem ss2a {w : World} {g : Nat} {u0 u1 : Value} (o : Obj) (l : g < w.heap.size) (h0 : w.cell? ⟨g, 0, none⟩ = some u0 ∧ w.cell? ⟨g, 1, none⟩ = some u1) : (w.alloc o).cell? ⟨g, 0, none⟩ = some u0 ∧ (w.alloc o).cell? ⟨g, 1, none⟩ = some u1 := ss2 (below_alloc w o) l h0
theorem belowA {B : Nat} {w w' : World} (h : Below B w w') (hB : B = w.heap.size) (o : Obj) : Below B w (w'.alloc o) := by subst hB; exact h.alloc h.size o

end Go.Proofs.YtbnegbpapjcmhaaGreat
