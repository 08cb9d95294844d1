/-
  The program's transposed matrices and unit matrices: contracts.
  Conditions: the matrix is a row of rows of known cells, all of one length, at most 1024.
  Sums of products of lists, and products of matrices with vectors, in the program and in the model: contracts.
  Conditions: the lists and matrices are rows of known cells with numbers of the prime; their sizes fit.
  Matrices with rows of one length, and their products with vectors in the program: contracts.
  Conditions: the matrices are rows of rows of known cells with numbers of the prime; their sizes fit.
  Copies of lists and matrices in the model, copies of lists in the program, and unit matrices in both: contracts.
  Conditions: the lists are rows of known cells, not empty.
  Multiples added to lists and lists multiplied, in place, in the program: contracts.
  Conditions: the arguments are nil or rows of known cells, of at most 1048576 numbers.
  What a law knows of the lists and matrices that it is handed.
  No conditions: what can be read as data.
  The words in which the exact laws of matrices are walked: what a function of the program or of the model hands back, and the laws' marks of lists.
  No conditions.
  Spaces: what the laws' sizes, copies, comparisons and marks of a space do.
  Conditions: the list of squares is nil or a row of known cells, of at most 1048576 numbers.
-/
import Derived.Test.YtndneccgomfkdaaQm3
import Derived.Deep.AppendLies
import Derived.BigQuiet
import Derived.Lib.SliceRun
import Derived.RegionTactic
import Derived.ChangeAlike
import Derived.OpenShut
import Derived.Deep.Matrix
namespace Go.Proofs.Ytndneccgomfkdaa
open Go.RowKit
set_option linter.unusedVariables false

/-- A matrix of one's own is handed back. -/
def OwnNew (m : List (List Int)) (w : World) (e : Ending) (w' : World) : Prop :=
  ∃ r c, e = .returned (.slice r m.length c) ∧ OwnM w.heap.size w'.heap.size w' r m ∧ Below w.heap.size w w'
theorem OwnAt.ownM {lo tp : Nat} {w : World} {q : Place} {n c : Nat} {Z : Nat → Nat → Int} (h : OwnAt lo tp w q n (fun _ => c) Z) : OwnM lo tp w (some ⟨q.b, q.o, none⟩) (Go.Proofs.Ytndneccgomfkdaa.mk n c Z) := by
  refine .inr ⟨q, rfl, ?_⟩
  rw [mk_len]
  have e : ∀ i, i < n → (rw' (Go.Proofs.Ytndneccgomfkdaa.mk n c Z) i).length = c := fun i hi => mk_rowLen Z hi
  exact {
    rng := h.rng
    top := fun i hi => by rw [e i hi]; exact h.top i hi
    row := fun i hi => by rw [e i hi]; exact h.row i hi
    rrng := fun i hi hl => h.rrng i hi (by rw [e i hi] at hl; exact hl)
    cell := fun i hi j hj => by rw [e i hi] at hj; rw [mk_at Z hi hj]; exact h.cell i hi j hj
    free := fun i hi j hj => h.free i hi j (by rw [e i hi] at hj; exact hj)
    apart := fun i hi i' hi' hne j hj j' hj' => h.apart i hi i' hi' hne j (by rw [e i hi] at hj; exact hj) j' (by rw [e i' hi'] at hj'; exact hj')
    tops := fun i hi j hj i' hi' => h.tops i hi j (by rw [e i hi] at hj; exact hj) i' hi' }

set_option maxRecDepth 100000 in
set_option maxHeartbeats 3200000 in
theorem transposed_any (a : Option Addr) (m : List (List Int)) (ca lo tp : Nat) (w : World) (hm : MatIn lo tp w a m) (ht : tp ≤ w.heap.size) (h0 : 0 < m.length) (hc : ∀ i, i < m.length → (rw' m i).length = (rw' m 0).length) (hn : m.length ≤ 1024) (hn2 : (rw' m 0).length ≤ 1024) :
    Calls Try.prog 46 #[.slice a m.length ca] w (OwnNew (trM m) w) := by
  have HM := Lib.hid hm
  have HC := Lib.hid hc
  obtain ⟨b, o, r0, c0, ha, _, hb, hr0, _⟩ := HM.out.row h0
  subst ha
  rw [Nat.add_zero] at hr0
  obtain ⟨c, hcc⟩ : ∃ c, c = (rw' m 0).length := ⟨_, rfl⟩
  rw [← hcc] at hn2 hr0
  have HCC := Lib.hid hcc
  have hb' : b < w.heap.size := Nat.lt_of_lt_of_le hb ht
  clear hm hc hcc
  go_enter Try.func46, Try.ntmps46
  go_wp2_with (go_at_call 74; (with_reducible refine (newMatrix_any c m.length _ (by omega) (by omega) (by omega)).mono ?_); rintro e w1 ⟨q, rfl, ho1, hb1⟩; have HO1 := Lib.hid ho1; have HB1 := Lib.hid hb1; clear ho1 hb1)
  go_loopw [17] (fun t wr => ∃ i : Nat, i ≤ m.length ∧ t = .int .i64 i ∧ OwnAt w.heap.size w1.heap.size wr q c (fun _ => m.length) (fun k i' => if i' < i then at' m i' k else 0) ∧ Below w.heap.size w wr ∧ wr.heap.size = w1.heap.size) (fun t _ => m.length - (intOf t).toNat)
  case atStart => exact ⟨0, Nat.zero_le _, rfl, HO1.out.congr (fun i _ j _ => by simp), HB1.out, rfl⟩
  case round =>
    obtain ⟨i, hi, rfl, ho, hbel, hsz⟩ := hrel
    have HO := Lib.hid ho
    have HBEL := Lib.hid hbel
    have HSZ := Lib.hid hsz
    rename World => wo
    clear ho hsz
    by_cases hlt : i < m.length
    · obtain ⟨b1, o1, r, c1, ha1, _, hb1, hr1, hrow⟩ := HM.out.row hlt
      cases ha1
      have hr1 := (hbel.cell (p := ⟨b, o + i, none⟩) hb').trans hr1
      have hcl := (HC.out i hlt).trans HCC.out.symm
      rw [hcl] at hr1
      have HCL := Lib.hid hcl
      have HROW := Lib.hid hrow
      have hi1 : (i : Int) < (m.length : Int) := by omega
      clear hcl hrow hbel
      go_wp2
      go_loopw [24] (fun t wr => ∃ j : Nat, j ≤ c ∧ t = .int .i64 j ∧ OwnAt w.heap.size w1.heap.size wr q c (fun _ => m.length) (fun k i' => if i' < i ∨ (i' = i ∧ k < j) then at' m i' k else 0) ∧ Below w.heap.size w wr ∧ wr.heap.size = w1.heap.size) (fun t _ => c - (intOf t).toNat)
      case atStart => exact ⟨0, Nat.zero_le _, rfl, HO.out.congr (fun k _ i' _ => by simp), HBEL.out, HSZ.out⟩
      case round =>
        obtain ⟨j, hj, rfl, hoj, hbj, hsj⟩ := hrel
        have HOJ := Lib.hid hoj
        have HBJ := Lib.hid hbj
        have HSJ := Lib.hid hsj
        clear hr1 hsj
        by_cases hltj : j < c
        · obtain ⟨b2, o2, ha2, _, hb2, hx2⟩ := (HROW.out.below hbj ht).num (j := j) (by rw [HCL.out]; exact hltj)
          subst ha2
          have ht3 := hoj.top j hltj
          have hR := (hoj.row j hltj).resolve_left (by omega)
          rw [hR] at ht3
          have hc3 := hoj.cell j hltj i hlt
          have hf3 := hoj.free j hltj i hlt
          have hrg := hoj.rrng j hltj (by omega)
          obtain ⟨x, hx⟩ : ∃ x, x = (rw' m i).getD j 0 := ⟨_, rfl⟩
          rw [← hx] at hx2
          have HX := Lib.hid hx
          have hj1 : (j : Int) < (c : Int) := by omega
          have HC3 := Lib.hid hc3
          obtain ⟨y, hy⟩ : ∃ y, wr.cell? ⟨q.B j, q.O j + i, none⟩ = some (.int .i64 y) := ⟨_, hc3⟩
          clear hoj hbj hR hc3 hx
          go_wp2
          go_roundw
          case rel => exact ⟨j + 1, by omega, by go_num, (HOJ.out.set hltj hlt x).congr (fun k hk i' _ => by
            rw [HX.out]
            by_cases e1 : k = j ∧ i' = i
            · obtain ⟨rfl, rfl⟩ := e1
              rw [if_pos ⟨rfl, rfl⟩, if_pos (.inr ⟨rfl, by omega⟩)]; rfl
            · rw [if_neg e1]
              by_cases e2 : i' < i ∨ (i' = i ∧ k < j)
              · rw [if_pos e2, if_pos (by omega)]
              · rw [if_neg e2, if_neg (by omega)]), HBJ.out.setCell hrg.1 _, by simpa [World.setCell] using HSJ.out⟩
          case measure => simp [intOf]; omega
        · have hn : j = c := by omega
          subst hn
          clear hoj hbj
          go_wp2
          go_roundw
          case rel => exact ⟨i + 1, by omega, by go_num, HOJ.out.congr (fun k hk i' _ => by
            by_cases e : i' < i + 1
            · rw [if_pos e, if_pos (by omega)]
            · rw [if_neg e, if_neg (by omega)]), HBJ.out, HSJ.out⟩
          case measure => simp [intOf]; omega
    · have hn : i = m.length := by omega
      subst hn
      have HF := Lib.hid (HO.out.congr (Z' := fun k i' => at' m i' k) (fun k _ i' h => by rw [if_pos h]))
      have HE : Hid (trM m = mk c m.length fun k i => at' m i k) := by show trM m = _; unfold trM; rw [← HCC.out]
      clear hbel
      go_wp2
      go_ret
      rw [HE.out]
      exact ⟨_, c, by rw [mk_len]; rfl, (HF.out.mono (Nat.le_refl _) (by rw [HSZ.out]; exact Nat.le_refl _)).ownM, HBEL.out⟩

end Go.Proofs.Ytndneccgomfkdaa

namespace Go.Proofs.Ytndneccgomfkdaa
open Go.RowKit
set_option linter.unusedVariables false

def sdot (za zb : List Int) (i : Nat) : Int := sm i fun j => za.getD j 0 * zb.getD j 0
def Nums (p : Int) (z : List Int) : Prop := ∀ j, j < z.length → 0 ≤ z.getD j 0 ∧ z.getD j 0 < p
theorem Nums.of {p : Int} {z : List Int} (h : z.all (inr p) = true) : Nums p z := by
  intro j hj
  rw [List.all_eq_true] at h
  exact inr_iff.1 (h _ (by rw [getD_at hj]; exact List.getElem_mem hj))
theorem mul_bd' {p x y : Int} (hp : p ≤ 13) (x0 : 0 ≤ x) (x1 : x < p) (y0 : 0 ≤ y) (y1 : y < p) : 0 ≤ x * y ∧ x * y ≤ 144 :=
  ⟨Int.mul_nonneg x0 y0, Int.le_trans (Int.mul_le_mul_of_nonneg_right (by omega : x ≤ 12) y0) (Int.mul_le_mul_of_nonneg_left (by omega : y ≤ 12) (by omega))⟩
theorem sdot_bd {p : Int} {za zb : List Int} (hp : p ≤ 13) (ha : Nums p za) (hb : Nums p zb) {i : Nat} (h1 : i ≤ za.length) (h2 : i ≤ zb.length) : 0 ≤ sdot za zb i ∧ sdot za zb i ≤ i * 144 :=
  sm_bd fun j hj => mul_bd' hp (ha j (by omega)).1 (ha j (by omega)).2 (hb j (by omega)).1 (hb j (by omega)).2
set_option maxHeartbeats 1600000 in
theorem dotI (p : Int) (a b : Option Addr) (za zb : List Int) (ca cb lo tp lo' tp' : Nat) (w : World) (hp : prm p = true) (ha : RowIn lo tp w a za) (hb : RowIn lo' tp' w b zb) (hl : za.length ≤ zb.length) (hs : za.length ≤ 100000) (hna : Nums p za) (hnb : Nums p zb) :
    Calls Try.prog 54 #[.int .i64 p, .slice a za.length ca, .slice b zb.length cb] w fun e w' => e = .returned (.int .i64 (sdot za zb za.length % p)) ∧ Quiet w w' := by
  have hpb := prm_bd hp
  have HA := Lib.hid ha
  have HB := Lib.hid hb
  have HNA := Lib.hid hna
  have HNB := Lib.hid hnb
  clear ha hb hna hnb hp
  go_enter Try.func54, Try.ntmps54
  go_wp2
  go_loopw [7, 11] (fun s t wr => ∃ i : Nat, i ≤ za.length ∧ s = .int .i64 (sdot za zb i) ∧ t = .int .i64 i ∧ Quiet w wr) (fun _ t _ => za.length - (intOf t).toNat)
  case atStart => exact ⟨0, Nat.zero_le _, by simp [sdot, sm], rfl, Quiet.refl _⟩
  case round =>
    obtain ⟨i, hi', rfl, rfl, hq⟩ := hrel
    have HQ := Lib.hid hq
    by_cases hlt : i < za.length
    · obtain ⟨b1, o1, ha1, _, _, hc1⟩ := (HA.out.same (hq.same _ _)).num hlt
      obtain ⟨b2, o2, ha2, _, _, hc2⟩ := (HB.out.same (hq.same _ _)).num (by omega : i < zb.length)
      subst ha1
      subst ha2
      obtain ⟨x0, x1⟩ := HNA.out i hlt
      obtain ⟨y0, y1⟩ := HNB.out i (by omega)
      have hst : sdot za zb i + za.getD i 0 * zb.getD i 0 = sdot za zb (i + 1) := rfl
      obtain ⟨d0, d1⟩ := sdot_bd hpb.2 HNA.out HNB.out (i := i) (by omega) (by omega)
      obtain ⟨x, hx⟩ : ∃ x, x = za.getD i 0 := ⟨_, rfl⟩
      obtain ⟨y, hy⟩ : ∃ y, y = zb.getD i 0 := ⟨_, rfl⟩
      obtain ⟨d, hd⟩ : ∃ d, d = sdot za zb i := ⟨_, rfl⟩
      rw [← hx] at hc1 x0 x1 hst
      rw [← hy] at hc2 y0 y1 hst
      rw [← hd] at d0 d1 hst
      rw [← hd]
      have HS := Lib.hid hst
      clear hx hy hd hst hq
      obtain ⟨m0, m1⟩ := mul_bd' hpb.2 x0 x1 y0 y1
      have hi2 : (i : Int) < (zb.length : Int) := by omega
      have hi1 : (i : Int) < (za.length : Int) := by omega
      have e1 : IntKind.i64.wrap (x * y) = x * y := IntWalk.i64_in _ (by omega)
      have e2 : IntKind.i64.wrap (d + x * y) = d + x * y := IntWalk.i64_in _ (by omega)
      go_wp2
      go_quiet (fail)
      clear e1 e2
      go_wp2
      go_roundw
      case rel => exact ⟨i + 1, by omega, by rw [HS.out], by go_num, HQ.out.next _⟩
      case measure => simp [intOf]; omega
    · have hn : i = za.length := by omega
      subst hn
      obtain ⟨d0, d1⟩ := sdot_bd hpb.2 HNA.out HNB.out (i := za.length) (by omega) (by omega)
      obtain ⟨d, hd⟩ : ∃ d, d = sdot za zb za.length := ⟨_, rfl⟩
      rw [← hd] at d0 d1
      have HD := Lib.hid hd
      rw [← hd]
      clear hq hd
      go_wp2
      go_ret
      exact ⟨by rw [← HD.out]; rfl, HQ.out⟩

/-- A vector of products of rows. -/
def appV (p : Int) (a : List (List Int)) (v : List Int) : List Int := mkR a.length fun i => sdot (rw' a i) v (rw' a i).length % p

end Go.Proofs.Ytndneccgomfkdaa

namespace Go.Proofs.Ytndneccgomfkdaa
open Go.RowKit Go.ChangeShapes Go.WideShapes
set_option linter.unusedVariables false

/-- Rows of c numbers of the prime, at most 1024 of at most 1024. -/
structure Rect (p : Int) (m : List (List Int)) (c : Nat) : Prop where
  rows : m.length ≤ 1024
  cols : c ≤ 1024
  len : ∀ i, i < m.length → (rw' m i).length = c
  num : ∀ i, i < m.length → Nums p (rw' m i)
theorem Rect.at {p : Int} {m : List (List Int)} {c : Nat} (h : Rect p m c) {i j : Nat} (hi : i < m.length) (hj : j < c) : 0 ≤ at' m i j ∧ at' m i j < p := h.num i hi j (by rw [h.len i hi]; exact hj)
theorem Rect.tr {p : Int} {m : List (List Int)} {c : Nat} (h : Rect p m c) (hc : c = (rw' m 0).length) : Rect p (trM m) m.length where
  rows := by unfold trM; rw [mk_len, ← hc]; exact h.cols
  cols := h.rows
  len i hi := by unfold trM at hi ⊢; rw [mk_len] at hi; exact mk_rowLen _ hi
  num i hi j hj := by
    unfold trM at hi hj ⊢
    rw [mk_len] at hi
    rw [mk_rowLen _ hi] at hj
    have : (rw' (Go.Proofs.Ytndneccgomfkdaa.mk (rw' m 0).length m.length fun k i => at' m i k) i).getD j 0 = at' m j i := mk_at _ hi hj
    rw [this]; exact h.at hj (by rw [hc]; exact hi)

theorem mul_row {p : Int} {a b : List (List Int)} {i : Nat} (hi : i < a.length) (hb : Rect p b (rw' b 0).length) : rw' (mulM p a b) i = appV p (trM b) (rw' a i) := by
  unfold mulM appV
  rw [mk_row _ hi]
  have e : (trM b).length = (rw' b 0).length := by unfold trM; rw [mk_len]
  rw [e]
  apply mkR_congr
  intro k hk
  have e2 : (rw' (trM b) k).length = b.length := by unfold trM; rw [mk_rowLen _ hk]
  rw [e2]
  congr 1
  unfold sdot
  apply sm_congr
  intro j hj
  have e3 : (rw' (trM b) k).getD j 0 = at' b j k := by unfold trM; exact mk_at _ hk hj
  rw [e3, Int.mul_comm]; rfl

set_option maxHeartbeats 1600000 in
theorem timesVector_any (p : Int) (a b : Option Addr) (m : List (List Int)) (v : List Int) (ca cb lo tp lo' tp' : Nat) (w : World) (hp : prm p = true) (hm : MatIn lo tp w a m) (hv : RowIn lo' tp' w b v) (ht : tp ≤ w.heap.size) (ht' : tp' ≤ w.heap.size)
    (hr : Rect p m v.length) (hnb : Nums p v) :
    Calls Try.prog 28 #[.int .i64 p, .slice a m.length ca, .slice b v.length cb] w (Copied (appV p m v) w) := by
  have HP := Lib.hid hp
  have HM := Lib.hid hm
  have HV := Lib.hid hv
  have HR := Lib.hid hr
  have HNB := Lib.hid hnb
  have hn := hr.rows
  have hvl := hr.cols
  have hZ : (appV p m v).length = m.length := mkR_len _ _
  have HZ := Lib.hid hZ
  obtain ⟨Z, hZe⟩ : ∃ Z, Z = appV p m v := ⟨_, rfl⟩
  rw [← hZe] at hZ
  rw [← hZe]
  have HZE := Lib.hid hZe
  have HZL := Lib.hid hZ
  have hmk := fun W => run_make_row' (P := Try.prog) 24 2 (.int .i64 0) 8 Try.underlying24 info64 rfl .i64 .i64 m.length (by omega) (by omega) W
  clear hm hv hnb hp hr hZ hZe
  go_enter Try.func28, Try.ntmps28
  go_wp2
  clear hmk
  go_loopw [15] (fun t wr => ∃ i : Nat, i ≤ m.length ∧ t = .int .i64 i ∧ Half wr w.heap.size i Z ∧ Below w.heap.size w wr) (fun t _ => m.length - (intOf t).toNat)
  case atStart => exact ⟨0, Nat.zero_le _, rfl, by have := Half.start w Z 2; rw [HZL.out] at this; exact this, by ((repeat' (first | with_reducible exact Below.refl _ _ | (with_reducible refine Below.setCell ?_ ?_ _) | (with_reducible refine Below.alloc ?_ ?_ _) | (with_reducible refine Below.drew ?_))); all_goals (first | (simp; done) | omega | (simp; omega)))⟩
  case round =>
    obtain ⟨i, hi, rfl, hh, hbel⟩ := hrel
    have HH := Lib.hid hh
    have HBEL := Lib.hid hbel
    by_cases hlt : i < m.length
    · obtain ⟨b1, o1, r, c1, ha1, _, hb1, hr1, hrow⟩ := (HM.out.below hbel ht).row hlt
      subst ha1
      have HROW := Lib.hid hrow
      have HVW := Lib.hid (HV.out.below hbel ht')
      have hlen := HR.out.len i hlt
      have HLen := Lib.hid hlen
      have hx0 : Z.getD i 0 = sdot (rw' m i) v (rw' m i).length % p := by rw [HZE.out]; exact mkR_at _ hlt
      have HX := Lib.hid hx0
      obtain ⟨x, hx⟩ : ∃ x, x = sdot (rw' m i) v (rw' m i).length % p := ⟨_, rfl⟩
      have HX' := Lib.hid hx
      have hsz := hh.lt
      have g0 := hh.rest i (Nat.le_refl _) (by rw [HZL.out]; exact hlt)
      have f0 := hh.free i
      clear hx hx0 hrow hbel hh hlen
      go_wp2_with (go_at_call 54; (with_reducible refine (dotI _ _ _ _ _ _ _ lo tp lo' tp' _ HP.out HROW.out HVW.out (by rw [HLen.out]; exact Nat.le_refl _) (by rw [HLen.out]; omega) (HR.out.num i hlt) HNB.out).mono ?_); rintro e w2 ⟨rfl, hq2⟩; have HQ2 := Lib.hid hq2; have g2 := (hq2.cell _).trans g0; have f2 := (((hq2.same 0 (w.heap.size + 1)).frozen (p := ⟨w.heap.size, i, none⟩) (Nat.zero_le _) (Nat.lt_succ_self _))).trans f0; rw [← HX'.out]; clear hq2)
      go_roundw
      case rel => exact ⟨i + 1, by omega, by go_num, by
        have := (HH.out.quiet HQ2.out).next (by rw [HZL.out]; exact hlt)
        rw [HX.out, ← HX'.out] at this; exact this, (HBEL.out.trans (HQ2.out.below _)).setCell (Nat.le_refl _) _⟩
      case measure => simp [intOf]; omega
    · have hn : i = m.length := by omega
      subst hn
      clear hbel hh
      go_wp2
      go_ret
      exact ⟨by rw [HZL.out]; rfl, HBEL.out, HH.out.lt, .inr ⟨_, 0, rfl, Nat.le_refl _, HH.out.lt, fun j hj => ⟨by rw [Nat.zero_add]; exact HH.out.done j (by rw [HZL.out] at hj; omega), by rw [Nat.zero_add]; exact HH.out.free j⟩⟩⟩

end Go.Proofs.Ytndneccgomfkdaa

namespace Go.Proofs.Ytndneccgomfkdaa
open Go.RowKit Go.ChangeShapes Go.WideShapes
set_option linter.unusedVariables false

theorem OutR.of {B n : Nat} {w : World} {v : Value} {zs : List Int} (h : w.ownsRow B 2 1 v n ([] ++ zs.map (Value.int .i64))) (hn : n = zs.length) : OutR B w v zs := by
  subst hn; simpa [OutR] using h

end Go.Proofs.Ytndneccgomfkdaa

namespace Go.Proofs.Ytndneccgomfkdaa
open Go.RowKit
set_option linter.unusedVariables false

/-- A list of one's own, rewritten in place: what stands where. -/
structure RowOwn (w : World) (b o : Nat) (n : Nat) (f : Nat → Int) : Prop where
  cell : ∀ j, j < n → w.cell? ⟨b, o + j, none⟩ = some (.int .i64 (f j))
  free : ∀ j, j < n → w.frozen? ⟨b, o + j, none⟩ = false
theorem RowOwn.of {lo tp : Nat} {w : World} {a : Option Addr} {zs : List Int} (h : OwnR lo tp w a zs) (h0 : 0 < zs.length) : ∃ b o, a = some ⟨b, o, none⟩ ∧ lo ≤ b ∧ b < tp ∧ RowOwn w b o zs.length (fun j => zs.getD j 0) := by
  rcases h with h | ⟨b, o, ha, k0, k1, hc⟩
  · rw [h] at h0; simp at h0
  · exact ⟨b, o, ha, k0, k1, fun j hj => (hc j hj).1, fun j hj => (hc j hj).2⟩
theorem RowOwn.back {lo tp : Nat} {w : World} {b o : Nat} {zs : List Int} (h : RowOwn w b o zs.length (fun j => zs.getD j 0)) (h0 : lo ≤ b) (h1 : b < tp) : OwnR lo tp w (some ⟨b, o, none⟩) zs :=
  .inr ⟨b, o, rfl, h0, h1, fun j hj => ⟨h.cell j hj, h.free j hj⟩⟩
theorem RowOwn.step {w : World} {b o n i : Nat} {f g : Nat → Int} (h : RowOwn w b o n (fun j => if j < i then g j else f j)) (hi : i < n) (v : Value) (hv : v = .int .i64 (g i)) : RowOwn (w.setCell ⟨b, o + i, none⟩ v) b o n (fun j => if j < i + 1 then g j else f j) where
  cell j hj := by
    subst hv
    by_cases e : j = i
    · subst e; rw [if_pos (by omega)]; exact World.cell?_setCell_same w _ _ (h.cell j hj)
    · by_cases e2 : j < i
      · rw [if_pos (by omega)]; have h2 := h.cell j hj; rw [if_pos e2] at h2; exact (World.cell?_setCell_other _ _ _ _ (by first | (simp; done) | (simp; omega))).trans h2
      · rw [if_neg (by omega)]; have h2 := h.cell j hj; rw [if_neg e2] at h2; exact (World.cell?_setCell_other _ _ _ _ (by first | (simp; done) | (simp; omega))).trans h2
  free j hj := by simp [go_sem, h.free j hj]
theorem Wrote.same {b o n lo tp : Nat} {w w' : World} (h : Wrote b o n w w') (hb : b < lo ∨ tp ≤ b) : Same lo tp w w' := fun i i0 i1 => h.block i (by omega)
theorem RowOwn.drew {w : World} {b o n : Nat} {f : Nat → Int} (h : RowOwn w b o n f) : RowOwn w.drew b o n f := ⟨h.cell, h.free⟩

end Go.Proofs.Ytndneccgomfkdaa

namespace Go.Proofs.Ytndneccgomfkdaa
open Go.RowKit Go.ChangeShapes Go.WideShapes
set_option linter.unusedVariables false

def IsMat (w : World) (a : Option Addr) (len : Nat) : Prop :=
  ∃ m : List (List Int), m.length = len ∧ MatIn 0 w.heap.size w a m ∧ len ≤ 9223372036854775807 ∧ ∀ i, i < m.length → (rw' m i).length ≤ 9223372036854775807
def IsLst (w : World) (a : Option Addr) (len : Nat) : Prop :=
  ∃ z : List Int, z.length = len ∧ RowIn 0 w.heap.size w a z ∧ len ≤ 9223372036854775807

theorem row_of {w : World} {x : Addr} {len : Nat} {zs : List Int} (hl : len ≤ zs.length) (h : ∀ i, i < zs.length → w.cell? (x.add i) = some (.int .i64 (zs.getD i 0))) : RowIn 0 w.heap.size w (some x) (zs.take len) := by
  by_cases h0 : len = 0
  · exact .inl (by rw [h0]; rfl)
  · obtain ⟨b, o, rfl, hc⟩ := ints_at h (by omega)
    have hlt : b < w.heap.size := World.block_lt_of_cell? w ⟨b, o + 0, none⟩ (hc 0 (by omega))
    refine .inr ⟨b, o, rfl, Nat.zero_le _, hlt, fun i hi => ?_⟩
    rw [List.length_take] at hi
    rw [hc i (by omega)]
    simp only [List.getD_eq_getElem?_getD, List.getElem?_take]
    rw [if_pos (by omega)]
theorem isLst_nil (w : World) : IsLst w none 0 := ⟨[], rfl, .inl rfl, by omega⟩
theorem isLst_of {w : World} {x : Addr} {len cap : Nat} {zs : List Int} (h1 : len ≤ cap) (h2 : cap ≤ maxLen) (h3 : zs.length = cap) (h : ∀ i, i < zs.length → w.cell? (x.add i) = some (.int .i64 (zs.getD i 0))) : IsLst w (some x) len := by
  unfold maxLen at h2
  exact ⟨zs.take len, by simp; omega, row_of (by omega) h, by omega⟩
theorem isMat_nil (w : World) : IsMat w none 0 := ⟨[], rfl, .inl rfl, by omega, fun i hi => by simp at hi⟩
theorem slice_at {w : World} {x : Addr} {v : Nat → Value} {n : Nat} (hn : 0 < n) (h : ∀ r, r < n → w.cell? (x.add r) = some (v r)) : ∃ b o, x = ⟨b, o, none⟩ ∧ ∀ r, r < n → w.cell? ⟨b, o + r, none⟩ = some (v r) := by
  obtain ⟨b, off, spot⟩ := x
  have hspot : spot = none := by simpa [Addr.add] using World.cell?_spot (h 0 hn)
  subst hspot
  exact ⟨b, off, rfl, fun j hj => by rw [← Go.WideShapes.add_plain]; exact h j hj⟩
theorem isMat_of {w : World} {x : Addr} {len cap : Nat} {A : Nat → Option Addr} {L C : Nat → Nat} {Z : Nat → List Int} (hl : len ≤ cap) (hm : cap ≤ maxLen)
    (h : ∀ r, r < cap → w.cell? (x.add r) = some (.slice (A r) (L r) (C r)) ∧ L r ≤ C r ∧ C r ≤ maxLen ∧ (Z r).length = C r ∧ (∀ n ∈ Z r, (Lit.int .i64 n).wf = true) ∧ (A r = none → C r = 0) ∧
        ∀ a', A r = some a' → 0 ≤ a'.block ∧ ∀ c, c < C r → w.cell? (a'.add c) = some (.int .i64 ((Z r).getD c 0))) : IsMat w (some x) len := by
  unfold maxLen at hm
  refine ⟨(List.range len).map fun r => (Z r).take (L r), by simp, ?_, by omega, fun i hi => ?_⟩
  · by_cases h0 : len = 0
    · subst h0; exact .inl rfl
    · obtain ⟨b, o, rfl, hc⟩ := slice_at (n := cap) (v := fun r => .slice (A r) (L r) (C r)) (by omega) (fun r hr => (h r hr).1)
      have hlt : b < w.heap.size := World.block_lt_of_cell? w ⟨b, o + 0, none⟩ (hc 0 (by omega))
      refine .inr ⟨b, o, rfl, Nat.zero_le _, hlt, fun i hi => ?_⟩
      simp only [List.length_map, List.length_range] at hi
      obtain ⟨_, r1, r2, r3, _, r5, r6⟩ := h i (by omega)
      have e : rw' ((List.range len).map fun r => (Z r).take (L r)) i = (Z i).take (L i) := by simp [rw', List.getD, hi]
      rw [e]
      have e2 : ((Z i).take (L i)).length = L i := by simp; omega
      rw [e2]
      refine ⟨A i, C i, hc i (by omega), ?_⟩
      cases hA : A i with
      | none =>
        have := r5 hA
        have h0 : L i = 0 := by omega
        exact .inl (by rw [h0]; rfl)
      | some a' => exact row_of (by omega) (fun c hc' => (r6 a' hA).2 c (by omega))
  · simp only [List.length_map, List.length_range] at hi
    obtain ⟨_, r1, r2, r3, _⟩ := h i (by omega)
    unfold maxLen at r2
    have e : rw' ((List.range len).map fun r => (Z r).take (L r)) i = (Z i).take (L i) := by simp [rw', List.getD, hi]
    rw [e]; simp; omega

end Go.Proofs.Ytndneccgomfkdaa

namespace Go.Proofs.Ytndneccgomfkdaa
open Go.RowKit
set_option linter.unusedVariables false

/-- The model hands back a matrix and a code. -/
def SpecM (R : List (List Int)) (C : Int) (w : World) (e : Ending) (w' : World) : Prop :=
  ∃ r c, e = .returned (.tuple #[.slice r R.length c, .int .i64 C]) ∧ MatIn w.heap.size w'.heap.size w' r R ∧ Below w.heap.size w w'
/-- The program hands back a matrix of its own and a code. -/
def ImplM (R : List (List Int)) (C : Int) (w : World) (e : Ending) (w' : World) : Prop :=
  ∃ r c, e = .returned (.tuple #[.slice r R.length c, .int .i64 C]) ∧ OwnM w.heap.size w'.heap.size w' r R ∧ Below w.heap.size w w'
def SpecR (R : List Int) (C : Int) (w : World) (e : Ending) (w' : World) : Prop :=
  ∃ r c, e = .returned (.tuple #[.slice r R.length c, .int .i64 C]) ∧ RowIn w.heap.size w'.heap.size w' r R ∧ Below w.heap.size w w'
def ImplR (R : List Int) (C : Int) (w : World) (e : Ending) (w' : World) : Prop :=
  ∃ r c, e = .returned (.tuple #[.slice r R.length c, .int .i64 C]) ∧ OwnR w.heap.size w'.heap.size w' r R ∧ Below w.heap.size w w'
end Go.Proofs.Ytndneccgomfkdaa

namespace Go.Proofs.Ytndneccgomfkdaa
open Go.RowKit Go.ChangeShapes Go.WideShapes
set_option linter.unusedVariables false

/-- Blocks outside lo up to hi are as they were; there may be new ones. -/
structure OffG (lo hi : Nat) (w w' : World) : Prop where
  os : w'.os = w.os
  tape : w'.tape = w.tape
  output : w'.output = w.output
  size : w.heap.size ≤ w'.heap.size
  block : ∀ k, k < w.heap.size → (k < lo ∨ hi ≤ k) → w'.heap[k]? = w.heap[k]?
theorem OffG.same {lo hi lo' hi' : Nat} {w w' : World} (h : OffG lo hi w w') (k : hi' ≤ lo ∨ hi ≤ lo') (hz : hi' ≤ w.heap.size) : Same lo' hi' w w' := fun i i0 i1 => h.block i (by omega) (by omega)
theorem OffG.below {B lo hi : Nat} {w w' : World} (h : OffG lo hi w w') (hB : B ≤ lo) (hw : lo ≤ w.heap.size) : Below B w w' := ⟨h.os, h.tape, h.output, h.size, fun k hk => h.block k (by omega) (by omega)⟩

theorem OffG.cell {lo hi : Nat} {w w' : World} (h : OffG lo hi w w') {p : Addr} (k0 : p.block < w.heap.size) (k : p.block < lo ∨ hi ≤ p.block) : w'.cell? p = w.cell? p := World.cell?_of_block (w := w) (h.block p.block k0 k)
theorem Off.cell {lo hi : Nat} {w w' : World} (h : Off lo hi w w') {p : Addr} (k : p.block < lo ∨ hi ≤ p.block) : w'.cell? p = w.cell? p := World.cell?_of_block (w := w) (h.block p.block k)
theorem below_alloc (w : World) (o : Obj) : Below w.heap.size w (w.alloc o) := (Below.refl _ _).alloc (Nat.le_refl _) o
theorem below_drew (w : World) : Below w.heap.size w w.drew := (Below.refl _ _).drew
theorem size_alloc (w : World) (o : Obj) : w.heap.size ≤ (w.alloc o).heap.size := by simp
theorem size_drew (w : World) : w.heap.size ≤ w.drew.heap.size := Nat.le_refl _
theorem lt_alloc (w : World) (o : Obj) : w.heap.size < (w.alloc o).heap.size := by simp
theorem nw0 (w : World) (x y : Value) (t : TypeId) : (w.alloc (.cells #[x, y] t)).cell? ⟨w.heap.size, 0, none⟩ = some x := by simp [go_sem]
theorem nw1 (w : World) (x y : Value) (t : TypeId) : (w.alloc (.cells #[x, y] t)).cell? ⟨w.heap.size, 1, none⟩ = some y := by simp [go_sem]

theorem OwnR.mono' {lo hi lo' hi' : Nat} {w : World} {a : Option Addr} {zs : List Int} (h : OwnR lo hi w a zs) (h0 : lo' ≤ lo) (h1 : hi ≤ hi') : OwnR lo' hi' w a zs := by
  rcases h with h | ⟨b, o, ha, k0, k1, hc⟩
  · exact .inl h
  · exact .inr ⟨b, o, ha, by omega, by omega, hc⟩
end Go.Proofs.Ytndneccgomfkdaa
