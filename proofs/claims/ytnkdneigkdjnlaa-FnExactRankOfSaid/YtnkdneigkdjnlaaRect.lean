/-
  Matrices with rows of one length, and their products with vectors in the program: contracts.
  Conditions: the matrices are rows of rows of known cells with numbers of the prime; their sizes fit.
-/
import Derived.Test.YtnkdneigkdjnlaaDots
namespace Go.Proofs.Ytnkdneigkdjnlaa
open Go.RowKit Go.ChangeShapes Go.WideShapes
set_option linter.unusedVariables false

/-- Rows of c numbers of the prime, at most 1024 of at most 1024. -/
structure Rect (p : Int) (m : List (List Int)) (c : Nat) : Prop where
  rows : m.length ≤ 1024
  cols : c ≤ 1024
  len : ∀ i, i < m.length → (rw' m i).length = c
  num : ∀ i, i < m.length → Nums p (rw' m i)
theorem Rect.at {p : Int} {m : List (List Int)} {c : Nat} (h : Rect p m c) {i j : Nat} (hi : i < m.length) (hj : j < c) : 0 ≤ at' m i j ∧ at' m i j < p := h.num i hi j (by rw [h.len i hi]; exact hj)
theorem Rect.tr {p : Int} {m : List (List Int)} {c : Nat} (h : Rect p m c) (hc : c = (rw' m 0).length) : Rect p (trM m) m.length where
  rows := by unfold trM; rw [mk_len, ← hc]; exact h.cols
  cols := h.rows
  len i hi := by unfold trM at hi ⊢; rw [mk_len] at hi; exact mk_rowLen _ hi
  num i hi j hj := by
    unfold trM at hi hj ⊢
    rw [mk_len] at hi
    rw [mk_rowLen _ hi] at hj
    have : (rw' (Go.Proofs.Ytnkdneigkdjnlaa.mk (rw' m 0).length m.length fun k i => at' m i k) i).getD j 0 = at' m j i := mk_at _ hi hj
    rw [this]; exact h.at hj (by rw [hc]; exact hi)

theorem mul_row {p : Int} {a b : List (List Int)} {i : Nat} (hi : i < a.length) (hb : Rect p b (rw' b 0).length) : rw' (mulM p a b) i = appV p (trM b) (rw' a i) := by
  unfold mulM appV
  rw [mk_row _ hi]
  have e : (trM b).length = (rw' b 0).length := by unfold trM; rw [mk_len]
  rw [e]
  apply mkR_congr
  intro k hk
  have e2 : (rw' (trM b) k).length = b.length := by unfold trM; rw [mk_rowLen _ hk]
  rw [e2]
  congr 1
  unfold sdot
  apply sm_congr
  intro j hj
  have e3 : (rw' (trM b) k).getD j 0 = at' b j k := by unfold trM; exact mk_at _ hk hj
  rw [e3, Int.mul_comm]; rfl

set_option maxHeartbeats 1600000 in
theorem timesVector_any (p : Int) (a b : Option Addr) (m : List (List Int)) (v : List Int) (ca cb lo tp lo' tp' : Nat) (w : World) (hp : prm p = true) (hm : MatIn lo tp w a m) (hv : RowIn lo' tp' w b v) (ht : tp ≤ w.heap.size) (ht' : tp' ≤ w.heap.size)
    (hr : Rect p m v.length) (hnb : Nums p v) :
    Calls Try.prog 86 #[.int .i64 p, .slice a m.length ca, .slice b v.length cb] w (Copied (appV p m v) w) := by
  have HP := Lib.hid hp
  have HM := Lib.hid hm
  have HV := Lib.hid hv
  have HR := Lib.hid hr
  have HNB := Lib.hid hnb
  have hn := hr.rows
  have hvl := hr.cols
  have hZ : (appV p m v).length = m.length := mkR_len _ _
  have HZ := Lib.hid hZ
  obtain ⟨Z, hZe⟩ : ∃ Z, Z = appV p m v := ⟨_, rfl⟩
  rw [← hZe] at hZ
  rw [← hZe]
  have HZE := Lib.hid hZe
  have HZL := Lib.hid hZ
  have hmk := fun W => run_make_row' (P := Try.prog) 31 2 (.int .i64 0) 8 Try.underlying31 info64 rfl .i64 .i64 m.length (by omega) (by omega) W
  clear hm hv hnb hp hr hZ hZe
  go_enter Try.func86, Try.ntmps86
  go_wp2
  clear hmk
  go_loopw [15] (fun t wr => ∃ i : Nat, i ≤ m.length ∧ t = .int .i64 i ∧ Half wr w.heap.size i Z ∧ Below w.heap.size w wr) (fun t _ => m.length - (intOf t).toNat)
  case atStart => exact ⟨0, Nat.zero_le _, rfl, by have := Half.start w Z 2; rw [HZL.out] at this; exact this, by ((repeat' (first | with_reducible exact Below.refl _ _ | (with_reducible refine Below.setCell ?_ ?_ _) | (with_reducible refine Below.alloc ?_ ?_ _) | (with_reducible refine Below.drew ?_))); all_goals (first | (simp; done) | omega | (simp; omega)))⟩
  case round =>
    obtain ⟨i, hi, rfl, hh, hbel⟩ := hrel
    have HH := Lib.hid hh
    have HBEL := Lib.hid hbel
    by_cases hlt : i < m.length
    · obtain ⟨b1, o1, r, c1, ha1, _, hb1, hr1, hrow⟩ := (HM.out.below hbel ht).row hlt
      subst ha1
      have HROW := Lib.hid hrow
      have HVW := Lib.hid (HV.out.below hbel ht')
      have hlen := HR.out.len i hlt
      have HLen := Lib.hid hlen
      have hx0 : Z.getD i 0 = sdot (rw' m i) v (rw' m i).length % p := by rw [HZE.out]; exact mkR_at _ hlt
      have HX := Lib.hid hx0
      obtain ⟨x, hx⟩ : ∃ x, x = sdot (rw' m i) v (rw' m i).length % p := ⟨_, rfl⟩
      have HX' := Lib.hid hx
      have hsz := hh.lt
      have g0 := hh.rest i (Nat.le_refl _) (by rw [HZL.out]; exact hlt)
      have f0 := hh.free i
      clear hx hx0 hrow hbel hh hlen
      go_wp2_with (go_at_call 118; (with_reducible refine (dotI _ _ _ _ _ _ _ lo tp lo' tp' _ HP.out HROW.out HVW.out (by rw [HLen.out]; exact Nat.le_refl _) (by rw [HLen.out]; omega) (HR.out.num i hlt) HNB.out).mono ?_); rintro e w2 ⟨rfl, hq2⟩; have HQ2 := Lib.hid hq2; have g2 := (hq2.cell _).trans g0; have f2 := (((hq2.same 0 (w.heap.size + 1)).frozen (p := ⟨w.heap.size, i, none⟩) (Nat.zero_le _) (Nat.lt_succ_self _))).trans f0; rw [← HX'.out]; clear hq2)
      go_roundw
      case rel => exact ⟨i + 1, by omega, by go_num, by
        have := (HH.out.quiet HQ2.out).next (by rw [HZL.out]; exact hlt)
        rw [HX.out, ← HX'.out] at this; exact this, (HBEL.out.trans (HQ2.out.below _)).setCell (Nat.le_refl _) _⟩
      case measure => simp [intOf]; omega
    · have hn : i = m.length := by omega
      subst hn
      clear hbel hh
      go_wp2
      go_ret
      exact ⟨by rw [HZL.out]; rfl, HBEL.out, HH.out.lt, .inr ⟨_, 0, rfl, Nat.le_refl _, HH.out.lt, fun j hj => ⟨by rw [Nat.zero_add]; exact HH.out.done j (by rw [HZL.out] at hj; omega), by rw [Nat.zero_add]; exact HH.out.free j⟩⟩⟩

end Go.Proofs.Ytnkdneigkdjnlaa
