/-
  The model's determinant: the walk.
  Conditions: the matrix is a row of rows of known cells with numbers of the prime, as many as columns.
-/
import Derived.Test.YtkibkkdeaojjoabGreatQg24
import Derived.Test.YtkibkkdeaojjoabGreatQg13
namespace Go.Proofs.YtkibkkdeaojjoabGreat
open Go.RowKit
set_option linter.unusedVariables false

def DetR (p : Int) (A : List (List Int)) (w : World) (e : Ending) (w' : World) : Prop := e = .returned (.int .i64 (detP p A)) ∧ Below w.heap.size w w'
theorem swap_top {lo n : Nat} {w : World} {b k f : Nat} {m : List (List Int)} {rf rk : Option Addr} {cf ck : Nat} (h : TopM lo w b m) (hk : k < m.length) (hf : f < m.length) (hlk : (rw' m k).length = n) (hlf : (rw' m f).length = n) (tf : TagR lo w.heap.size w rf (rw' m f)) (tk : TagR lo w.heap.size w rk (rw' m k)) :
    TopM lo ((w.setCell ⟨b, f, none⟩ (.slice rk n ck)).setCell ⟨b, k, none⟩ (.slice rf n cf)) b (swapL m k f) :=
  (h.setn (c := ck) hf hlk tk).setn (c := cf) (by simpa using hk) hlf (tf.keepTop h)

set_option maxRecDepth 100000 in
set_option maxHeartbeats 6400000 in
theorem l02Det_any (p : Int) (a : Option Addr) (A : List (List Int)) (ca lo tp : Nat) (w : World) (hp : prm p = true) (hm : MatIn lo tp w a A) (ht : tp ≤ w.heap.size) (h0 : 0 < A.length) (hn : A.length ≤ 1024)
    (hl : ∀ i, i < A.length → (rw' A i).length = A.length) (hr : ∀ i, i < A.length → ∀ j, j < A.length → 0 ≤ at' A i j ∧ at' A i j < p) :
    Calls Tryz.prog 62 #[.int .i64 p, .slice a A.length ca] w (DetR p A w) := by
  have hpb := prm_bd hp
  have HP := Lib.hid hp
  have HM := Lib.hid hm
  have HC2 : Hid (∀ i, i < A.length → 0 < (rw' A i).length ∧ (rw' A i).length ≤ 1024) := fun i hi => by rw [hl i hi]; exact ⟨h0, hn⟩
  have HST := Lib.hid (DetAt.start hp hl hr)
  clear hm hp hl hr
  go_enter Tryz.func62, Tryz.ntmps62
  go_wp2_with (go_at_call 29; (with_reducible refine (l01Own2_out _ A _ lo tp _ HM.out ht hn HC2.out).mono ?_); rintro e w1 ⟨v, rfl, ho, hb1⟩; obtain ⟨gb, cap, rfl, hnc, hcm, htop⟩ := ho.top h0; have HT1 := Lib.hid htop; have HB1 := Lib.hid hb1; have hgb := htop.lob; clear ho htop hb1)
  go_loopw [6, 7] (fun s t wr => ∃ (k : Nat) (out : Int) (m : List (List Int)), s = .int .i64 out ∧ t = .int .i64 k ∧ DetAt p A.length A m k out ∧ TopM w.heap.size wr gb m ∧ Below w.heap.size w wr) (fun _ t _ => A.length - (intOf t).toNat)
  case atStart => exact ⟨0, 1, A, rfl, rfl, HST.out, HT1.out, HB1.out⟩
  case round =>
    obtain ⟨k, out, m, rfl, rfl, hD, hT, hB⟩ := hrel
    have HD := Lib.hid hD
    have HT := Lib.hid hT
    have HB := Lib.hid hB
    have hwz := hB.size
    have HMN := Lib.hid hD.ml
    have hmn : m.length ≤ A.length ∧ A.length ≤ m.length := by have := hD.ml; omega
    have hkn := hD.kn
    obtain ⟨o0, o1⟩ := hD.ob
    rename World => wo
    clear hD hT hB
    by_cases hlt : k < A.length
    · have hk1 : (k : Int) < (A.length : Int) := by omega
      go_wp2
      go_loopw [8] (fun t wr => ∃ f : Nat, k ≤ f ∧ f ≤ A.length ∧ t = .int .i64 f ∧ Zer m k k f ∧ Quiet wo wr) (fun t _ => A.length - (intOf t).toNat)
      case atStart => exact ⟨k, Nat.le_refl _, by omega, rfl, fun i h1 h2 => by omega, Quiet.refl _⟩
      case round =>
        obtain ⟨f, hdf, hf, rfl, hz, hq⟩ := hrel
        have HZ := Lib.hid hz
        have HQ := Lib.hid hq
        clear hz
        have HTr := Lib.hid (HT.out.below (hq.below _))
        rename World => wf
        by_cases hltf : f < A.length
        · obtain ⟨rf, cf, g1, htf⟩ := HTr.out.row f (by omega)
          have hlf := HD.out.len f (by omega)
          rw [hlf] at g1
          have hrow := htf.row
          obtain ⟨bf, of', haf, _, _, hcf0⟩ := hrow.num (j := k) (by omega)
          subst haf
          have HTF := Lib.hid htf
          obtain ⟨x0, x1⟩ := HD.out.rng f (by omega) k hlt
          obtain ⟨x, hx⟩ : ∃ x, x = at' m f k := ⟨_, rfl⟩
          have hcf : wf.cell? ⟨bf, of' + k, none⟩ = some (.int .i64 x) := by rw [hx]; exact hcf0
          rw [← hx] at x0 x1
          have HX := Lib.hid hx
          have hf1 : (f : Int) < (A.length : Int) := by omega
          have HLF := Lib.hid hlf
          clear hx hrow htf hlf hq hcf0
          by_cases hxz : x = 0
          · subst hxz
            go_wp2
            go_roundw
            case rel => exact ⟨f + 1, by omega, by omega, by go_num, fun i h1 h2 => by
                by_cases e : i = f
                · subst e; exact HX.out.symm
                · exact HZ.out i h1 (by omega), HQ.out⟩
            case measure => simp [intOf]; omega
          · have hx1 : (x == 0) = false := by simpa using hxz
            have HBW : Hid (Below w.heap.size w wf) := HB.out.trans (HQ.out.below _)
            have hsf : w.heap.size ≤ wf.heap.size := HBW.out.size
            clear HQ
            have hx1' : 1 ≤ x := by omega
            have hp0 : ¬ p = 0 := by omega
            have hp1 : (p == 0) = false := by simpa using hp0
            obtain ⟨v0, v1⟩ := inv_bd HP.out x
            rcases Nat.lt_or_ge k f with hkf | hkf
            case' inl =>
              obtain ⟨rk, ck, g2, htk⟩ := HTr.out.row k (by omega)
              have hlk := HD.out.len k hlt
              rw [hlk] at g2
              have ff := HTr.out.free f
              have fk := HTr.out.free k
              have hg1 : (k : Int) < (f : Int) := by omega
              have HT2 := Lib.hid (swap_top (ck := ck) (cf := cf) HTr.out (by omega) (by omega) hlk HLF.out HTF.out htk)
              have HD2 := Lib.hid (HD.out.swap HP.out hkf hltf)
              have HX2 : Hid (x = at' (swapL m k f) k k) := by
                show _ = (rw' (swapL m k f) k).getD k 0
                rw [swapL_row (by omega) (by omega), if_pos rfl]; exact HX.out
              have HBX : Hid (Below w.heap.size w ((wf.setCell ⟨gb, f, none⟩ (.slice rk A.length ck)).setCell ⟨gb, k, none⟩ (.slice (some ⟨bf, of', none⟩) A.length cf))) := below_top hgb (below_top hgb HBW.out)
              have hbg : bf ≠ gb := by
                rcases HTF.out with h | ⟨b', o', cur, e, _, _, htag, _⟩
                · have hl' := HLF.out; rw [h] at hl'; simp at hl'; omega
                · cases e
                  intro e2
                  subst e2
                  obtain ⟨cur', hcur⟩ := HTr.out.tag
                  rw [htag] at hcur
                  simp at hcur
              have hcf2 : ((wf.setCell ⟨gb, f, none⟩ (.slice rk A.length ck)).setCell ⟨gb, k, none⟩ (.slice (some ⟨bf, of', none⟩) A.length cf)).cell? ⟨bf, of' + k, none⟩ = some (.int .i64 x) :=
                (World.cell?_setCell_other _ _ _ _ (fun e => hbg (by injection e with e1; exact e1.symm))).trans ((World.cell?_setCell_other _ _ _ _ (fun e => hbg (by injection e with e1; exact e1.symm))).trans hcf)
              have hck2 : ((wf.setCell ⟨gb, f, none⟩ (.slice rk A.length ck)).setCell ⟨gb, k, none⟩ (.slice (some ⟨bf, of', none⟩) A.length cf)).cell? ⟨gb, k, none⟩ = some (.slice (some ⟨bf, of', none⟩) A.length cf) :=
                World.cell?_setCell_same _ _ _ ((World.cell?_setCell_other _ _ _ _ (fun e => by injection e with _ e1; omega)).trans g2)
              have g2' : (wf.setCell ⟨gb, f, none⟩ (.slice rk A.length ck)).cell? ⟨gb, k, none⟩ = some (.slice rk A.length ck) := (World.cell?_setCell_other _ _ _ _ (fun e => by injection e with _ e1; omega)).trans g2
              have hyy : (p - out) % p = -out % p := by simp
              have e3 : (p - out).tmod p = -out % p := (Int.tmod_eq_emod_of_nonneg (by omega)).trans hyy
              have e4 : IntKind.i64.wrap (p - out) = p - out := IntWalk.i64_in _ (by omega)
              have q0 := Int.emod_nonneg (-out) (by omega : p ≠ 0)
              have q1 := Int.emod_lt_of_pos (-out) (by omega : 0 < p)
              have m0 : 0 ≤ (-out % p) * x := Int.mul_nonneg (by omega) x0
              have m1' : (-out % p) * x ≤ 13 * 13 := Int.le_trans (Int.mul_le_mul_of_nonneg_right (by omega : (-out % p) ≤ 13) x0) (Int.mul_le_mul_of_nonneg_left (by omega) (by omega))
              have e1 : IntKind.i64.wrap ((-out % p) * x) = (-out % p) * x := IntWalk.i64_in _ (by omega)
              have e2 : ((-out % p) * x).tmod p = (-out % p) * x % p := Int.tmod_eq_emod_of_nonneg m0
              clear htk hlk hyy
              go_wp2_with (first | (go_at_call 48; (with_reducible refine (l01Inv_any p x _ HP.out hx1' x1).mono ?_); rintro e w' ⟨rfl, rfl⟩))
              obtain ⟨w2, hw2⟩ : ∃ z, z = (wf.setCell ⟨gb, f, none⟩ (.slice rk A.length ck)).setCell ⟨gb, k, none⟩ (.slice (some ⟨bf, of', none⟩) A.length cf) := ⟨_, rfl⟩
              obtain ⟨m1, hm1⟩ : ∃ z, z = swapL m k f := ⟨_, rfl⟩
              obtain ⟨out1, ho1⟩ : ∃ z, z = -out % p := ⟨_, rfl⟩
              have hml : m1.length ≤ A.length ∧ A.length ≤ m1.length := by rw [hm1, swapL_len]; exact hmn
              rw [← hw2] at HT2 HBX
              rw [← hm1] at HT2 HD2 HX2
              rw [← ho1] at HD2
              rw [← hw2, ← ho1]
              clear e1 e2 e3 e4 m0 m1' hw2 hm1 ho1 hcf2 hck2 g2 g2' ff fk g1 hcf q0 q1 hg1 hkf hbg
            case' inr =>
              have hfk : k = f := by omega
              subst hfk
              have HT2 := Lib.hid HTr.out
              have HD2 := Lib.hid HD.out
              have HX2 := Lib.hid HX.out
              have HBX := Lib.hid HBW.out
              have m0 : 0 ≤ out * x := Int.mul_nonneg (by omega) x0
              have m1' : out * x ≤ 13 * 13 := Int.le_trans (Int.mul_le_mul_of_nonneg_right (by omega : out ≤ 13) x0) (Int.mul_le_mul_of_nonneg_left (by omega) (by omega))
              have e1 : IntKind.i64.wrap (out * x) = out * x := IntWalk.i64_in _ (by omega)
              have e2 : (out * x).tmod p = out * x % p := Int.tmod_eq_emod_of_nonneg m0
              go_wp2_with (first | (go_at_call 48; (with_reducible refine (l01Inv_any p x _ HP.out hx1' x1).mono ?_); rintro e w' ⟨rfl, rfl⟩))
              obtain ⟨w2, hw2⟩ : ∃ z, z = wf := ⟨_, rfl⟩
              obtain ⟨m1, hm1⟩ : ∃ z, z = m := ⟨_, rfl⟩
              obtain ⟨out1, ho1⟩ : ∃ z, z = out := ⟨_, rfl⟩
              have hml : m1.length ≤ A.length ∧ A.length ≤ m1.length := by rw [hm1]; exact hmn
              rw [← hw2] at HT2 HBX
              rw [← hm1] at HT2 HD2 HX2
              rw [← ho1] at HD2
              rw [← hw2, ← ho1]
              clear e1 e2 m0 m1' hw2 hm1 ho1 g1 hcf hkf
            all_goals
              obtain ⟨v, hv⟩ : ∃ z, z = inv p x := ⟨_, rfl⟩
              rw [← hv] at v0 v1
              rw [← hv]
              have HVV := Lib.hid hv
              clear hv
              go_loopw [11] (fun t wr => ∃ i : Nat, k + 1 ≤ i ∧ i ≤ A.length ∧ t = .int .i64 i ∧ TopM w.heap.size wr gb (rowsD p m1 k i) ∧ Below w.heap.size w wr) (fun t _ => A.length - (intOf t).toNat)
              case atStart => exact ⟨k + 1, Nat.le_refl _, by omega, by go_num, by rw [rowsD_start]; exact HT2.out, HBX.out⟩
              case round =>
                obtain ⟨i, hki, hi, rfl, hTi, hBi⟩ := hrel
                have HTI := Lib.hid hTi
                have HBI := Lib.hid hBi
                have hwz4 := hBi.size
                rename World => wi
                clear hTi hBi
                by_cases hlti : i < A.length
                · have hi1 : (i : Int) < (A.length : Int) := by omega
                  have HRW : Hid (rw' (rowsD p m1 k i) i = rw' m1 i) := by
                    show rw' (rowsD p m1 k i) i = rw' m1 i
                    rw [rowsD_row (by omega)]; unfold rowD; rw [if_neg (by omega)]
                  have HRK : Hid (rw' (rowsD p m1 k i) k = rw' m1 k) := by
                    show rw' (rowsD p m1 k i) k = rw' m1 k
                    rw [rowsD_row (by omega)]; unfold rowD; rw [if_neg (by omega)]
                  have HLI := Lib.hid (HD2.out.len i hlti)
                  have HLK := Lib.hid (HD2.out.len k hlt)
                  obtain ⟨ri, ci, gi, hti⟩ := HTI.out.row i (by rw [rowsD_len]; omega)
                  obtain ⟨rk, ck, gk, htk⟩ := HTI.out.row k (by rw [rowsD_len]; omega)
                  rw [HRW.out] at gi hti
                  rw [HRK.out] at gk htk
                  rw [HLI.out] at gi
                  rw [HLK.out] at gk
                  have HTG := Lib.hid hti
                  have HTK := Lib.hid htk
                  obtain ⟨bi, oi, hai, _, hbi, hci0⟩ := hti.row.num (j := k) (by rw [HLI.out]; omega)
                  subst hai
                  obtain ⟨y0, y1⟩ := HD2.out.rng i hlti k hlt
                  have HNS : Hid (∀ j, j < A.length → 0 ≤ (rw' m1 i).getD j 0 ∧ (rw' m1 i).getD j 0 < p) := fun j hj => HD2.out.rng i hlti j hj
                  have HNB : Hid (∀ j, j < A.length → 0 ≤ (rw' m1 k).getD j 0 ∧ (rw' m1 k).getD j 0 < p) := fun j hj => HD2.out.rng k hlt j hj
                  obtain ⟨y, hy⟩ : ∃ y, y = at' m1 i k := ⟨_, rfl⟩
                  have hci : wi.cell? ⟨bi, oi + k, none⟩ = some (.int .i64 y) := by rw [hy]; exact hci0
                  rw [← hy] at y0 y1
                  have HY := Lib.hid hy
                  have c0 : 0 ≤ (p - y) * v := Int.mul_nonneg (by omega) v0
                  have c1 : (p - y) * v ≤ 13 * 13 := Int.le_trans (Int.mul_le_mul_of_nonneg_right (by omega : p - y ≤ 13) v0) (Int.mul_le_mul_of_nonneg_left (by omega) (by omega))
                  have e2 : IntKind.i64.wrap (p - y) = p - y := IntWalk.i64_in _ (by omega)
                  have e3 : IntKind.i64.wrap ((p - y) * v) = (p - y) * v := IntWalk.i64_in _ (by omega)
                  have e4 : ((p - y) * v).tmod p = (p - y) * v % p := Int.tmod_eq_emod_of_nonneg c0
                  have q0 := Int.emod_nonneg ((p - y) * v) (by omega : p ≠ 0)
                  have q1 := Int.emod_lt_of_pos ((p - y) * v) (by omega : 0 < p)
                  have fi := HTI.out.free i
                  have HTd : Hid (TagR w.heap.size wi.drew.heap.size wi.drew (some ⟨bi, oi, none⟩) (rw' m1 i)) := HTG.out.block (Nat.le_refl _) (Nat.le_refl _) (fun _ _ _ _ _ => rfl)
                  have HRd : Hid (TagR w.heap.size wi.drew.heap.size wi.drew rk (rw' m1 k)) := HTK.out.block (Nat.le_refl _) (Nat.le_refl _) (fun _ _ _ _ _ => rfl)
                  clear hy hti htk hci0
                  go_wp2
                  go_region_with (first | (go_at_call 42; (with_reducible refine (l02Plus_n p ((p - y) * v % p) _ _ (rw' m1 i) (rw' m1 k) A.length _ _ w.heap.size wi.drew.heap.size w.heap.size wi.drew.heap.size _ HP.out HTd.out.row HRd.out.row (Nat.le_refl _) (Nat.le_refl _) HLI.out HLK.out (by omega) HNS.out HNB.out q0 (by omega)).mono ?_); rintro e w5 ⟨hl5, r5, k5, rfl, ht5, hb5⟩; have HL5 := Lib.hid hl5; have HT5 := Lib.hid ht5; have HB5 := Lib.hid hb5; have HM5 := Lib.hid ((HTI.out.below (Below.refl wi.heap.size wi).drew).below hb5); obtain ⟨rq, cq, gq, _⟩ := HM5.out.row i (by rw [rowsD_len]; omega); have fq := HM5.out.free i; clear hl5 ht5 hb5))
                  all_goals go_wp2
                  all_goals go_roundw
                  all_goals (first | (case rel =>
                    exact ⟨i + 1, by omega, by omega, by go_num, by rw [← rowsD_next (by omega) (by omega), ← HY.out, ← HX2.out, ← HVV.out]; exact HM5.out.setn (by rw [rowsD_len]; omega) HL5.out (HT5.out.block hwz4 (Nat.le_refl _) (fun _ _ _ _ _ => rfl)), below_top hgb (HBI.out.trans ((((Below.refl wi.heap.size wi).drew).trans HB5.out).mono hwz4))⟩) | (simp [intOf]; omega))
                · have hin : i = A.length := by omega
                  subst hin
                  go_wp2
                  go_roundw
                  case rel => exact ⟨k + 1, out1 * x % p, _, rfl, by go_num, by have h := HD2.out.rows HP.out hlt (by rw [← HX2.out]; exact hx1'); rw [← HX2.out] at h; exact h, HTI.out, HBI.out⟩
                  case measure => simp [intOf]; omega
        · have hfn : f = A.length := by omega
          subst hfn
          have HV : Hid (detP p A = 0) := HD.out.none hlt (fun i h1 h2 => HZ.out i h1 h2)
          have HBW : Hid (Below w.heap.size w wf) := HB.out.trans (HQ.out.below _)
          clear hq
          go_wp2
          go_ret
          exact ⟨by rw [HV.out]; rfl, HBW.out⟩
    · have hkc : k = A.length := by omega
      subst hkc
      have HV := Lib.hid HD.out.done
      go_wp2
      go_ret
      exact ⟨by rw [HV.out]; rfl, HB.out⟩

end Go.Proofs.YtkibkkdeaojjoabGreat
