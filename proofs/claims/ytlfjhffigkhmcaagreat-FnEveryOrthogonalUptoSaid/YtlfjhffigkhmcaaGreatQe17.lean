/-
  What the program's and the model's checks of lists of numbers, matrices and lists of vectors return.
  Conditions: they are nil or rows of known cells.
  Checks of lists of vectors under one bound on all numbers.
  Conditions: they are nil or rows of known cells, of at most 1048576 numbers.
  What the program's checks of matrices return, and its new matrices of zeros.
  Conditions: the matrices are nil or rows of known cells.
  What the model's turned matrices are: a contract.
  Conditions: the matrix is a row of rows of known cells, all of one length.
  Products of matrices, in the program and in the model: contracts.
  Conditions: the matrices are rows of rows of known cells with numbers of the prime; their sizes fit.
  The model's products of matrices: a contract.
  Conditions: the matrices are rows of rows of known cells with numbers of the prime; their sizes fit.
-/
import Derived.Test.YtlfjhffigkhmcaaGreatQe2
import Derived.Test.YtlfjhffigkhmcaaGreatQe6
import Derived.RegionTactic
import Derived.ChangeAlike
import Derived.Test.YtlfjhffigkhmcaaGreatQe14
import Derived.Deep.AppendLies
import Derived.Test.YtlfjhffigkhmcaaGreatQe7
namespace Go.Proofs.YtlfjhffigkhmcaaGreat
open Go.RowKit Go.ChangeShapes Go.WideShapes
set_option linter.unusedVariables false

theorem isM_nprime {p : Int} {n : Nat} {m : List (List Int)} (h : prm p = false) : isL n p m = false := not_isL fun k => by rw [k.prime] at h; cases h
theorem isM_nlen {p : Int} {n : Nat} {m : List (List Int)} (h : ¬ (n ≤ m.length ∧ m.length ≤ 16)) : isL n p m = false := not_isL fun k => h ⟨k.lo, k.hi⟩
theorem isM_nrow {p : Int} {n : Nat} {m : List (List Int)} {i : Nat} (hi : i < m.length) (h : ¬ (1 ≤ (rw' m i).length ∧ (rw' m i).length ≤ 16)) : isL n p m = false := not_isL fun k => h ⟨k.c0 i hi, k.c1 i hi⟩
theorem isM_ncol {p : Int} {n : Nat} {m : List (List Int)} {i : Nat} (hi : i < m.length) (h : ¬ (rw' m i).length = (rw' m 0).length) : isL n p m = false := not_isL fun k => h (k.len i hi)
theorem isM_nall {p : Int} {n : Nat} {m : List (List Int)} {i : Nat} (hi : i < m.length) (h : (rw' m i).all (inr p) = false) : isL n p m = false := not_isL fun k => by rw [k.all i hi] at h; cases h
/-- What has been seen of the first i rows. -/
def Seen (p : Int) (m : List (List Int)) (i : Nat) : Prop := ∀ i', i' < i → (rw' m i').length = (rw' m 0).length ∧ (1 ≤ (rw' m i').length ∧ (rw' m i').length ≤ 16) ∧ (rw' m i').all (inr p) = true
theorem Seen.zero (p : Int) (m : List (List Int)) : Seen p m 0 := fun i' h => by omega
theorem Seen.next {p : Int} {m : List (List Int)} {i : Nat} (h : Seen p m i) (h1 : (rw' m i).length = (rw' m 0).length) (h2 : 1 ≤ (rw' m i).length ∧ (rw' m i).length ≤ 16) (h3 : (rw' m i).all (inr p) = true) : Seen p m (i + 1) := by
  intro i' hi'
  by_cases e : i' = i
  · subst e; exact ⟨h1, h2, h3⟩
  · exact h i' (by omega)
theorem Seen.yes {p : Int} {n : Nat} {m : List (List Int)} {i : Nat} (h : Seen p m i) (hi : m.length ≤ i) (hp : prm p = true) (h1 : n ≤ m.length ∧ m.length ≤ 16) : isL n p m = true :=
  isL_iff.2 ⟨hp, h1.1, h1.2, fun j hj => (h j (by omega)).1, fun j hj => (h j (by omega)).2.1.1, fun j hj => (h j (by omega)).2.1.2, fun j hj => (h j (by omega)).2.2⟩
theorem neq_spell {a b : Nat} (h : ¬ a = b) : ((a : Int) == (b : Int)) = false ∧ ((a : Int) != (b : Int)) = true := by
  have : ¬ (a : Int) = (b : Int) := by omega
  simp [this]
set_option maxHeartbeats 1600000 in
theorem l02Is_any (p : Int) (a : Option Addr) (m : List (List Int)) (cap lo tp : Nat) (w : World) (hm : MatIn lo tp w a m) (h1 : m.length ≤ 9223372036854775807) (h2 : ∀ i, i < m.length → (rw' m i).length ≤ 9223372036854775807) :
    Calls Tryz.prog 64 #[.int .i64 p, .slice a m.length cap] w fun e w' => e = .returned (.bool (isM p m)) ∧ Quiet w w' := by
  have HM := Lib.hid hm
  have HL := Lib.hid h2
  clear hm h2
  by_cases hp : prm p = true
  · have HP := Lib.hid hp
    clear hp
    by_cases hn : 1 ≤ m.length ∧ m.length ≤ 16
    · obtain ⟨hn1, hn2⟩ := hn
      obtain ⟨b, o, r0, c0, ha, _, _, hr0, _⟩ := HM.out.row (i := 0) (by omega)
      subst ha
      rw [Nat.add_zero] at hr0
      have hl0 := HL.out 0 (by omega)
      by_cases hc : 1 ≤ (rw' m 0).length ∧ (rw' m 0).length ≤ 16
      · have HC0 := Lib.hid hc
        obtain ⟨hc1, hc2⟩ := hc
        go_enter Tryz.func64, Tryz.ntmps64
        go_wp2_with (go_at_call 33; refine (l01Prime_any _ _).mono ?_; rintro e w' ⟨rfl, rfl⟩; rw [HP.out])
        go_loopw [5] (fun t wr => ∃ i : Nat, i ≤ m.length ∧ t = .int .i64 i ∧ Seen p m i ∧ Quiet w wr) (fun t _ => m.length - (intOf t).toNat)
        case atStart => exact ⟨0, Nat.zero_le _, rfl, Seen.zero _ _, Quiet.refl _⟩
        case round =>
          obtain ⟨i, hi, rfl, hs, hq⟩ := hrel
          have HQ := Lib.hid hq
          have HS := Lib.hid hs
          clear hs
          have hr0 := (hq.cell _).trans hr0
          by_cases hlt : i < m.length
          · obtain ⟨b', o', r, c, ha, _, _, hr, hrow⟩ := (HM.out.same (hq.same lo tp)).row hlt
            cases ha
            clear hq
            have HR := Lib.hid hrow
            clear hrow
            by_cases hcol : (rw' m i).length = (rw' m 0).length
            · have HCol := Lib.hid hcol
              clear hcol
              rw [← HCol.out] at hr0 hl0 hc1 hc2
              by_cases hall : (rw' m i).all (inr p) = true
              · have HAll := Lib.hid hall
                clear hall
                go_wp2
                go_quiet ((go_at_call 35; refine Calls.quiet_of_same ((numsRow _ _ _ _ lo tp _ HP.out (HR.out.same (((Quiet.refl _).next _).same _ _)) (by omega)).mono fun _ _ h => ⟨h.1.trans (by rw [HAll.out]), h.2.symm⟩)))
                go_wp2
                go_roundw
                case rel => exact ⟨i + 1, by omega, by go_num, HS.out.next HCol.out (by rw [HCol.out]; exact HC0.out) HAll.out, HQ.out.next _⟩
                case measure => simp [intOf]; omega
              · have HAll : Hid ((rw' m i).all (inr p) = false) := by show (rw' m i).all (inr p) = false; simpa using hall
                have HF : Hid (isM p m = false) := isM_nall hlt HAll.out
                clear hall
                go_wp2
                go_quiet ((go_at_call 35; refine Calls.quiet_of_same ((numsRow _ _ _ _ lo tp _ HP.out (HR.out.same (((Quiet.refl _).next _).same _ _)) (by omega)).mono fun _ _ h => ⟨h.1.trans (by rw [HAll.out]), h.2.symm⟩)))
                go_wp2
                go_ret
                exact ⟨by rw [HF.out]; rfl, HQ.out.next _⟩
            · have HF : Hid (isM p m = false) := isM_ncol hlt hcol
              have hln := HL.out i hlt
              obtain ⟨e1, e2⟩ := neq_spell hcol
              clear hcol
              go_wp2
              go_quiet (fail)
              go_wp2
              go_ret
              exact ⟨by rw [HF.out]; rfl, HQ.out.next _⟩
          · clear hq
            have HF : Hid (isM p m = true) := HS.out.yes (by omega) HP.out ⟨hn1, hn2⟩
            go_wp2
            go_ret
            exact ⟨by rw [HF.out]; rfl, HQ.out⟩
      · have HF : Hid (isM p m = false) := isM_nrow (i := 0) (by omega) hc
        obtain ⟨l0, hl⟩ : ∃ l0, l0 = (rw' m 0).length := ⟨_, rfl⟩
        rw [← hl] at hr0 hl0 hc
        clear hl
        by_cases hz : l0 < 1
        · clear hc
          go_enter Tryz.func64, Tryz.ntmps64
          go_wp2_with (go_at_call 33; refine (l01Prime_any _ _).mono ?_; rintro e w' ⟨rfl, rfl⟩; rw [HP.out])
          go_ret
          exact ⟨by rw [HF.out]; rfl, Quiet.refl _⟩
        · have hz2 : 16 < l0 := by omega
          clear hc
          go_enter Tryz.func64, Tryz.ntmps64
          go_wp2_with (go_at_call 33; refine (l01Prime_any _ _).mono ?_; rintro e w' ⟨rfl, rfl⟩; rw [HP.out])
          go_ret
          exact ⟨by rw [HF.out]; rfl, Quiet.refl _⟩
    · have HF : Hid (isM p m = false) := isM_nlen hn
      by_cases hz : m.length < 1
      · clear hn
        go_enter Tryz.func64, Tryz.ntmps64
        go_wp2_with (go_at_call 33; refine (l01Prime_any _ _).mono ?_; rintro e w' ⟨rfl, rfl⟩; rw [HP.out])
        go_ret
        exact ⟨by rw [HF.out]; rfl, Quiet.refl _⟩
      · have hz2 : 16 < m.length := by omega
        clear hn
        go_enter Tryz.func64, Tryz.ntmps64
        go_wp2_with (go_at_call 33; refine (l01Prime_any _ _).mono ?_; rintro e w' ⟨rfl, rfl⟩; rw [HP.out])
        go_ret
        exact ⟨by rw [HF.out]; rfl, Quiet.refl _⟩
  · have hp' : prm p = false := by simpa using hp
    have HP := Lib.hid hp'
    have HF : Hid (isM p m = false) := isM_nprime HP.out
    clear hp hp'
    go_enter Tryz.func64, Tryz.ntmps64
    go_wp2_with (go_at_call 33; refine (l01Prime_any _ _).mono ?_; rintro e w' ⟨rfl, rfl⟩; rw [HP.out])
    go_ret
    exact ⟨by rw [HF.out]; rfl, Quiet.refl _⟩

set_option maxHeartbeats 1600000 in
theorem isRows_any (p : Int) (a : Option Addr) (m : List (List Int)) (n cap lo tp : Nat) (w : World) (hn1 : n ≤ 1) (hm : MatIn lo tp w a m) (h1 : m.length ≤ 9223372036854775807) (h2 : ∀ i, i < m.length → (rw' m i).length ≤ 9223372036854775807) :
    Calls Tryz.prog 81 #[.int .i64 p, .slice a m.length cap, .int .i64 n] w fun e w' => e = .returned (.bool (isL n p m)) ∧ w = w' := by
  have HM := Lib.hid hm
  have HL := Lib.hid h2
  clear hm h2
  by_cases hp : prm p = true
  · have HP := Lib.hid hp
    clear hp
    by_cases hn : n ≤ m.length ∧ m.length ≤ 16
    · have HN := Lib.hid hn
      have hd1 : decide (m.length < n) = false := by simp; omega
      have hn2 := hn.2
      clear hn
      go_enter Tryz.func81, Tryz.ntmps81
      go_wp2_with (go_at_call 91; refine (isPrime_any _ _).mono ?_; rintro e w' ⟨rfl, rfl⟩; rw [HP.out])
      clear hd1
      go_loop [25] (fun t => ∃ i : Nat, i ≤ m.length ∧ t = .int .i64 i ∧ Seen p m i) (fun t => m.length - (intOf t).toNat)
      case atStart => exact ⟨0, Nat.zero_le _, rfl, Seen.zero _ _⟩
      case round =>
        obtain ⟨i, hi, rfl, hs⟩ := hrel
        have HS := Lib.hid hs
        clear hs
        by_cases hlt : i < m.length
        · obtain ⟨b, o, r, c, ha, _, _, hr, hrow⟩ := HM.out.row hlt
          subst ha
          obtain ⟨b', o', r0, c0, ha, _, _, hr0, _⟩ := HM.out.row (i := 0) (by omega)
          cases ha
          rw [Nat.add_zero] at hr0
          have HR := Lib.hid hrow
          have hln := HL.out i hlt
          have hl0 := HL.out 0 (by omega)
          clear hrow
          by_cases hc : 1 ≤ (rw' m i).length ∧ (rw' m i).length ≤ 16
          · have HC := Lib.hid hc
            obtain ⟨hc1, hc2⟩ := hc
            by_cases hcol : (rw' m i).length = (rw' m 0).length
            · have HCol := Lib.hid hcol
              clear hcol
              rw [← HCol.out] at hr0 hl0
              by_cases hall : (rw' m i).all (inr p) = true
              · have HAll := Lib.hid (code_ok HP.out hall)
                have HA2 := Lib.hid hall
                clear hall
                go_wp2_with (go_at_call 80; (with_reducible refine (checkRow _ _ _ _ _ _ _ HP.out HR.out (by omega)).mono ?_); rintro e w' ⟨rfl, rfl⟩; rw [HAll.out])
                go_round
                case rel => exact ⟨i + 1, by omega, by go_num, HS.out.next HCol.out HC.out HA2.out⟩
                case measure => simp [intOf]; omega
              · have hall' : (rw' m i).all (inr p) = false := by simpa using hall
                have HAll := Lib.hid (code_bad HP.out hall')
                have HF := Lib.hid (isM_nall (n := n) hlt hall')
                clear hall hall'
                go_wp2_with (go_at_call 80; (with_reducible refine (checkRow _ _ _ _ _ _ _ HP.out HR.out (by omega)).mono ?_); rintro e w' ⟨rfl, rfl⟩; rw [HAll.out])
                go_ret
                exact ⟨by rw [HF.out]; rfl, rfl⟩
            · have HF := Lib.hid (isM_ncol (n := n) (p := p) hlt hcol)
              obtain ⟨e1, e2⟩ := neq_spell hcol
              clear hcol
              go_wp2
              go_ret
              exact ⟨by rw [HF.out]; rfl, rfl⟩
          · have HF := Lib.hid (isM_nrow (n := n) (p := p) hlt hc)
            by_cases hz : (rw' m i).length < 1
            · clear hc
              go_wp2
              go_ret
              exact ⟨by rw [HF.out]; rfl, rfl⟩
            · have hz2 : 16 < (rw' m i).length := by omega
              clear hc
              go_wp2
              go_ret
              exact ⟨by rw [HF.out]; rfl, rfl⟩
        · have HF := Lib.hid (HS.out.yes (n := n) (by omega) HP.out HN.out)
          go_wp2
          go_ret
          exact ⟨by rw [HF.out]; rfl, rfl⟩
    · have HF := Lib.hid (isM_nlen (p := p) hn)
      by_cases hz : m.length < n
      · have hd1 : decide (m.length < n) = true := by simp; omega
        clear hn
        go_enter Tryz.func81, Tryz.ntmps81
        go_wp2_with (go_at_call 91; refine (isPrime_any _ _).mono ?_; rintro e w' ⟨rfl, rfl⟩; rw [HP.out])
        go_ret
        exact ⟨by rw [HF.out]; rfl, rfl⟩
      · have hd1 : decide (m.length < n) = false := by simp; omega
        have hz2 : 16 < m.length := by omega
        clear hn
        go_enter Tryz.func81, Tryz.ntmps81
        go_wp2_with (go_at_call 91; refine (isPrime_any _ _).mono ?_; rintro e w' ⟨rfl, rfl⟩; rw [HP.out])
        go_ret
        exact ⟨by rw [HF.out]; rfl, rfl⟩
  · have hp' : prm p = false := by simpa using hp
    have HP := Lib.hid hp'
    have HF := Lib.hid (isM_nprime (n := n) (m := m) hp')
    clear hp hp'
    go_enter Tryz.func81, Tryz.ntmps81
    go_wp2_with (go_at_call 91; refine (isPrime_any _ _).mono ?_; rintro e w' ⟨rfl, rfl⟩; rw [HP.out])
    go_ret
    exact ⟨by rw [HF.out]; rfl, rfl⟩

end Go.Proofs.YtlfjhffigkhmcaaGreat

namespace Go.Proofs.YtlfjhffigkhmcaaGreat
open Go.RowKit
set_option linter.unusedVariables false

theorem len_of {m : List (List Int)} (h : m.length + tot m m.length ≤ 1048576) : m.length ≤ 9223372036854775807 ∧ ∀ i, i < m.length → (rw' m i).length ≤ 9223372036854775807 :=
  ⟨by omega, fun i hi => by have := tot_row (m := m) hi; omega⟩

theorem isRows_one (p : Int) (a : Option Addr) (m : List (List Int)) (cap lo tp : Nat) (w : World) (hm : MatIn lo tp w a m) (hs : m.length + tot m m.length ≤ 1048576) :
    Calls Tryz.prog 81 #[.int .i64 p, .slice a m.length cap, .int .i64 1] w fun e w' => e = .returned (.bool (isM p m)) ∧ w = w' :=
  isRows_any p a m 1 cap lo tp w (by omega) hm (len_of hs).1 (len_of hs).2
end Go.Proofs.YtlfjhffigkhmcaaGreat

namespace Go.Proofs.YtlfjhffigkhmcaaGreat
open Go.RowKit
set_option linter.unusedVariables false

set_option maxRecDepth 100000 in
set_option maxHeartbeats 3200000 in
theorem l02Turn_any (a : Option Addr) (m : List (List Int)) (ca lo tp : Nat) (w : World) (hm : MatIn lo tp w a m) (ht : tp ≤ w.heap.size) (h0 : 0 < m.length) (hc : ∀ i, i < m.length → (rw' m i).length = (rw' m 0).length) (hn : m.length ≤ 1024) (hn2 : (rw' m 0).length ≤ 1024) :
    Calls Tryz.prog 41 #[.slice a m.length ca] w (NewM (trM m) w) := by
  obtain ⟨i0, hi, hz0, hz1, hz2⟩ := info_parts info64
  obtain ⟨j0, kj, kz0, kz1, kz2⟩ := info_parts info_slice
  have HM := Lib.hid hm
  have HC := Lib.hid hc
  obtain ⟨b, o, r0, c0, ha, _, hb, hr0, _⟩ := HM.out.row h0
  subst ha
  rw [Nat.add_zero] at hr0
  have HR0 := Lib.hid hr0
  obtain ⟨c, hcc⟩ : ∃ c, c = (rw' m 0).length := ⟨_, rfl⟩
  rw [← hcc] at hn2 hr0
  have HCC := Lib.hid hcc
  have hb' : b < w.heap.size := Nat.lt_of_lt_of_le hb ht
  clear hm hc hcc
  go_enter Tryz.func41, Tryz.ntmps41
  go_wp2
  go_loopw [3, 4] (fun v t wr => ∃ k : Nat, k ≤ c ∧ t = .int .i64 k ∧ OutM w.heap.size wr v (mk k m.length fun k i => at' m i k) ∧ Below w.heap.size w wr) (fun _ t _ => c - (intOf t).toNat)
  case atStart => exact ⟨0, Nat.zero_le _, rfl, OutM.start w _ _ (Nat.le_refl _) rfl, by ((repeat' (first | with_reducible exact Below.refl _ _ | (with_reducible refine Below.setCell ?_ ?_ _) | (with_reducible refine Below.alloc ?_ ?_ _) | (with_reducible refine Below.drew ?_))); all_goals (first | (simp; done) | omega | (simp; omega)))⟩
  case round =>
    obtain ⟨k, hk, rfl, ho, hbel⟩ := hrel
    have HO := Lib.hid ho
    have HBEL := Lib.hid hbel
    have hwz := hbel.size
    have hr0 := (hbel.cell (p := ⟨b, o, none⟩) hb').trans hr0
    rename World => wo
    clear ho
    by_cases hlt : k < c
    · have hk1 : (k : Int) < (c : Int) := by omega
      clear hbel
      go_wp2
      go_loopw [5, 6] (fun v t wr => ∃ i : Nat, i ≤ m.length ∧ t = .int .i64 i ∧ OutR wo.heap.size wr v (mkR i fun i => at' m i k) ∧ Below wo.heap.size wo wr) (fun _ t _ => m.length - (intOf t).toNat)
      case atStart => exact ⟨0, Nat.zero_le _, rfl, OutR.start wo _ _ (Nat.le_refl _) rfl, by ((repeat' (first | with_reducible exact Below.refl _ _ | (with_reducible refine Below.setCell ?_ ?_ _) | (with_reducible refine Below.alloc ?_ ?_ _) | (with_reducible refine Below.drew ?_))); all_goals (first | (simp; done) | omega | (simp; omega)))⟩
      case round =>
        obtain ⟨i, hi', rfl, hoi, hbi⟩ := hrel
        have HOI := Lib.hid hoi
        have HBI := Lib.hid hbi
        have hwi := hbi.size
        clear hoi hr0
        by_cases hlti : i < m.length
        · have hbw := HBEL.out.trans (HBI.out.mono hwz)
          obtain ⟨b1, o1, r, c1, ha1, _, hb1, hr1, hrow⟩ := (HM.out.below hbw ht).row hlti
          cases ha1
          have hcl := HC.out i hlti
          rw [← HCC.out] at hcl
          obtain ⟨b2, o2, ha2, _, hb2, hc2⟩ := hrow.num (j := k) (by omega)
          subst ha2
          rw [hcl] at hr1
          have HS : Hid (mkR (i + 1) (fun i => at' m i k) = mkR i (fun i => at' m i k) ++ [(rw' m i).getD k 0]) := mkR_succ _ _
          obtain ⟨x, hx⟩ : ∃ x, x = (rw' m i).getD k 0 := ⟨_, rfl⟩
          rw [← hx] at hc2 HS
          obtain ⟨X, hX⟩ : ∃ X, X = (mkR i (fun i => at' m i k)).map (Value.int .i64) := ⟨_, rfl⟩
          have HX := Lib.hid hX
          have HO2 : Hid (wr.ownsRow wo.heap.size 2 1 u5 i X) := by
            have := HOI.out; unfold OutR at this; rw [mkR_len, ← hX] at this; exact this
          clear hX hx hcl hrow hbw hbi
          go_wp2_with (at_builtin; refine wpList_append_lies _ rfl _ _ 22 rfl wo.heap.size 2 i0 (.int .i64 0) 1 8 Tryz.underlying22 hi hz0 hz1 hz2 rfl (by decide) u5 i X rfl (HO2.out.alloc _) ⟨wr.heap.size, 0, none⟩ 1 1 [.int .i64 x] rfl rfl (World.news_of_block (cs := #[.int .i64 x]) (t := 2) (fr := (0, 0)) (heap_alloc_new wr _)) (by simp [Value.oneCell']) (by omega) (by unfold maxLen; omega) (by omega) (by simp; omega) (wr.heap.size + 1) (by simp) ?_; intro gg cap w1 hown1 hgrow hat hlt1)
          go_wp2
          go_roundw
          case rel => exact ⟨i + 1, by omega, by go_num, OutR.step HO2.out HX.out HS.out hown1, (HBI.out.alloc hwi _).grown hgrow (by simp; omega) (fun _ hk => (HO2.out.lt _ hk).1)⟩
          case measure => simp [intOf]; omega
        · have hn : i = m.length := by omega
          subst hn
          obtain ⟨r, cp, hv, htag⟩ := HOI.out.tag
          rw [mkR_len] at hv
          subst hv
          obtain ⟨vals, hvo, hvr⟩ := HO.out.below HBI.out
          rw [mk_len] at hvo hvr
          have HV := Lib.hid hvo
          have HVR := Lib.hid hvr
          have HT := Lib.hid htag
          clear hvo hvr htag hbi
          go_wp2_with (at_builtin; refine wpList_append_lies _ rfl _ _ 25 rfl w.heap.size 22 j0 (.slice none 0 0) 1 24 Tryz.underlying25 kj kz0 kz1 kz2 rfl (by decide) u3 k vals rfl (HV.out.alloc _) ⟨wr.heap.size, 0, none⟩ 1 1 [.slice r m.length cp] rfl rfl (World.news_of_block (cs := #[.slice r m.length cp]) (t := 22) (fr := (0, 0)) (heap_alloc_new wr _)) (by simp [Value.oneCell']) (by omega) (by unfold maxLen; omega) (by omega) (by simp; omega) (wr.heap.size + 1) (by simp) ?_; intro gg cap w1 hown1 hgrow hat hlt1)
          go_wp2
          go_roundw
          case rel => exact ⟨k + 1, by omega, by go_num, OutM.next HV.out HVR.out HT.out rfl hwz hown1 hgrow, ((HBEL.out.trans (HBI.out.mono hwz)).alloc (by omega) _).grown hgrow (by simp; omega) (fun _ hk => (HV.out.lt _ hk).1)⟩
          case measure => simp [intOf]; omega
    · have hn : k = c := by omega
      subst hn
      have HE : Hid (trM m = mk k m.length fun k i => at' m i k) := by show trM m = _; unfold trM; rw [← HCC.out]
      clear hbel
      go_wp2
      go_ret
      rw [HE.out]
      exact HO.out.new HBEL.out

end Go.Proofs.YtlfjhffigkhmcaaGreat

namespace Go.Proofs.YtlfjhffigkhmcaaGreat
open Go.RowKit
set_option linter.unusedVariables false

set_option maxRecDepth 100000 in
set_option maxHeartbeats 6400000 in
theorem l02Times_any (p : Int) (a b : Option Addr) (m m' : List (List Int)) (ca cb lo tp lo' tp' : Nat) (w : World) (hp : prm p = true) (hm : MatIn lo tp w a m) (hm' : MatIn lo' tp' w b m') (ht : tp ≤ w.heap.size) (ht' : tp' ≤ w.heap.size)
    (hr : Rect p m m'.length) (hr' : Rect p m' (rw' m' 0).length) (h0 : 0 < m'.length) :
    Calls Tryz.prog 45 #[.int .i64 p, .slice a m.length ca, .slice b m'.length cb] w (NewM (mulM p m m') w) := by
  obtain ⟨i0, hi, hz0, hz1, hz2⟩ := info_parts info64
  obtain ⟨j0, kj, kz0, kz1, kz2⟩ := info_parts info_slice
  have hpb := prm_bd hp
  have HM := Lib.hid hm
  have HM' := Lib.hid hm'
  have HR := Lib.hid hr
  have HR' := Lib.hid hr'
  have hn := hr.rows
  have hn' := hr.cols
  obtain ⟨bb, bo, r0, c0, hb, _, hbt, hr0, _⟩ := HM'.out.row h0
  subst hb
  rw [Nat.add_zero] at hr0
  have hbw : bb < w.heap.size := Nat.lt_of_lt_of_le hbt ht'
  obtain ⟨c, hcc⟩ : ∃ c, c = (rw' m' 0).length := ⟨_, rfl⟩
  have hc' : c ≤ 1024 := by rw [hcc]; exact hr'.cols
  rw [← hcc] at hr0
  have HCC := Lib.hid hcc
  have HNP : Hid (∀ i j, i < m.length → j < m'.length → 0 ≤ at' m i j ∧ at' m i j < p) := fun i j hi hj => HR.out.at hi hj
  have HNQ : Hid (∀ j k, j < m'.length → k < c → 0 ≤ at' m' j k ∧ at' m' j k < p) := fun j k hj hk => HR'.out.at hj (by rw [← HCC.out]; exact hk)
  clear hm hm' hp hr hr' hcc
  go_enter Tryz.func45, Tryz.ntmps45
  go_wp2
  go_loopw [7, 8] (fun v t wr => ∃ i : Nat, i ≤ m.length ∧ t = .int .i64 i ∧ OutM w.heap.size wr v (mk i c fun i k => sm m'.length (fun j => at' m i j * at' m' j k) % p) ∧ Below w.heap.size w wr) (fun _ t _ => m.length - (intOf t).toNat)
  case atStart => exact ⟨0, Nat.zero_le _, rfl, OutM.start w _ _ (Nat.le_refl _) rfl, by ((repeat' (first | with_reducible exact Below.refl _ _ | (with_reducible refine Below.setCell ?_ ?_ _) | (with_reducible refine Below.alloc ?_ ?_ _) | (with_reducible refine Below.drew ?_))); all_goals (first | (simp; done) | omega | (simp; omega)))⟩
  case round =>
    obtain ⟨i, hi', rfl, ho, hbel⟩ := hrel
    have HO := Lib.hid ho
    have HBEL := Lib.hid hbel
    have hwz := hbel.size
    rename World => wo
    clear ho hbel
    by_cases hlt : i < m.length
    · go_wp2
      go_loopw [9, 10] (fun v t wr => ∃ k : Nat, k ≤ c ∧ t = .int .i64 k ∧ OutR wo.heap.size wr v (mkR k fun k => sm m'.length (fun j => at' m i j * at' m' j k) % p) ∧ Below wo.heap.size wo wr) (fun _ t _ => c - (intOf t).toNat)
      case atStart => exact ⟨0, Nat.zero_le _, rfl, OutR.start wo _ _ (Nat.le_refl _) rfl, by ((repeat' (first | with_reducible exact Below.refl _ _ | (with_reducible refine Below.setCell ?_ ?_ _) | (with_reducible refine Below.alloc ?_ ?_ _) | (with_reducible refine Below.drew ?_))); all_goals (first | (simp; done) | omega | (simp; omega)))⟩
      case round =>
        obtain ⟨k, hk, rfl, hom, hbm⟩ := hrel
        have HOM := Lib.hid hom
        have HBM := Lib.hid hbm
        have hwm := hbm.size
        have hbwm := HBEL.out.trans (hbm.mono hwz)
        have HBWM := Lib.hid hbwm
        have hr0m := (hbwm.cell (p := ⟨bb, bo, none⟩) hbw).trans hr0
        rename World => wm
        clear hom hbm hbwm hr0
        by_cases hltk : k < c
        · have hk1 : (k : Int) < (c : Int) := by omega
          go_wp2
          go_loopw [11, 12] (fun s t wr => ∃ j : Nat, j ≤ m'.length ∧ s = .int .i64 (sm j (fun j => at' m i j * at' m' j k) % p) ∧ t = .int .i64 j ∧ Quiet wm wr) (fun _ t _ => m'.length - (intOf t).toNat)
          case atStart => exact ⟨0, Nat.zero_le _, by simp [sm], rfl, Quiet.refl _⟩
          case round =>
            obtain ⟨j, hj, rfl, rfl, hq⟩ := hrel
            have HQ := Lib.hid hq
            have HB3 := Lib.hid (HBWM.out.trans (hq.below _))
            clear hr0m
            by_cases hltj : j < m'.length
            · obtain ⟨b1, o1, r1, c1, ha1, _, _, hr1, hrow1⟩ := (HM.out.below HB3.out ht).row hlt
              subst ha1
              obtain ⟨b2, o2, ha2, _, _, hc1o⟩ := hrow1.num (j := j) (by rw [HR.out.len i hlt]; exact hltj)
              subst ha2
              obtain ⟨b3, o3, r3, c3, ha3, _, _, hr3, hrow3⟩ := (HM'.out.below HB3.out ht').row hltj
              cases ha3
              obtain ⟨b4, o4, ha4, _, _, hc3o⟩ := hrow3.num (j := k) (by rw [HR'.out.len j hltj, ← HCC.out]; exact hltk)
              subst ha4
              rw [HR.out.len i hlt] at hr1
              rw [HR'.out.len j hltj, ← HCC.out] at hr3
              obtain ⟨x0, x1⟩ := HNP.out i j hlt hltj
              obtain ⟨y0, y1⟩ := HNQ.out j k hltj hltk
              have hst : (sm j (fun j => at' m i j * at' m' j k) % p + at' m i j * at' m' j k) % p = sm (j + 1) (fun j => at' m i j * at' m' j k) % p := by rw [add_mod']; rfl
              have d0 := Int.emod_nonneg (sm j (fun j => at' m i j * at' m' j k)) (by omega : p ≠ 0)
              have d1 := Int.emod_lt_of_pos (sm j (fun j => at' m i j * at' m' j k)) (by omega : 0 < p)
              have hc1 : wr.cell? ⟨b2, o2 + j, none⟩ = some (.int .i64 (at' m i j)) := hc1o
              have hc3 : wr.cell? ⟨b4, o4 + k, none⟩ = some (.int .i64 (at' m' j k)) := hc3o
              clear hc1o hc3o
              obtain ⟨x, hx⟩ : ∃ x, x = at' m i j := ⟨_, rfl⟩
              obtain ⟨y, hy⟩ : ∃ y, y = at' m' j k := ⟨_, rfl⟩
              obtain ⟨d, hd⟩ : ∃ d, d = sm j (fun j => at' m i j * at' m' j k) % p := ⟨_, rfl⟩
              rw [← hx] at hc1 x0 x1 hst
              rw [← hy] at hc3 y0 y1 hst
              rw [← hd] at d0 d1 hst
              rw [← hd]
              have HS := Lib.hid hst
              clear hx hy hd hst hq hrow1 hrow3
              obtain ⟨m0, m1⟩ := mul_bd' hpb.2 x0 x1 y0 y1
              have hi1 : (i : Int) < (m.length : Int) := by omega
              have hj1 : (j : Int) < (m'.length : Int) := by omega
              have e1 : IntKind.i64.wrap (x * y) = x * y := IntWalk.i64_in _ (by omega)
              have e2 : IntKind.i64.wrap (d + x * y) = d + x * y := IntWalk.i64_in _ (by omega)
              have e3 : (d + x * y).tmod p = (d + x * y) % p := Int.tmod_eq_emod_of_nonneg (by omega)
              have hp0 : ¬ p = 0 := by omega
              have hp1 : (p == 0) = false := by simpa using hp0
              go_wp2
              go_quiet (fail)
              clear e1 e2 e3
              go_wp2
              go_roundw
              case rel => exact ⟨j + 1, by omega, by rw [HS.out], by go_num, HQ.out.next _⟩
              case measure => simp [intOf]; omega
            · have hn : j = m'.length := by omega
              subst hn
              have HS : Hid (mkR (k + 1) (fun k => sm m'.length (fun j => at' m i j * at' m' j k) % p) = mkR k (fun k => sm m'.length (fun j => at' m i j * at' m' j k) % p) ++ [sm m'.length (fun j => at' m i j * at' m' j k) % p]) := mkR_succ _ _
              obtain ⟨x, hx⟩ : ∃ x, x = sm m'.length (fun j => at' m i j * at' m' j k) % p := ⟨_, rfl⟩
              rw [← hx] at HS
              rw [← hx]
              obtain ⟨X, hX⟩ : ∃ X, X = (mkR k (fun k => sm m'.length (fun j => at' m i j * at' m' j k) % p)).map (Value.int .i64) := ⟨_, rfl⟩
              have HX := Lib.hid hX
              have HO2 : Hid (wr.ownsRow wo.heap.size 2 1 u9 k X) := by
                have := HOM.out.below (HQ.out.below _); unfold OutR at this; rw [mkR_len, ← hX] at this; exact this
              have hwr : wo.heap.size ≤ wr.heap.size := Nat.le_trans hwm (Nat.le_of_eq hq.size.symm)
              clear hX hx hq
              go_wp2_with (at_builtin; refine wpList_append_lies _ rfl _ _ 22 rfl wo.heap.size 2 i0 (.int .i64 0) 1 8 Tryz.underlying22 hi hz0 hz1 hz2 rfl (by decide) u9 k X rfl (HO2.out.alloc _) ⟨wr.heap.size, 0, none⟩ 1 1 [.int .i64 x] rfl rfl (World.news_of_block (cs := #[.int .i64 x]) (t := 2) (fr := (0, 0)) (heap_alloc_new wr _)) (by simp [Value.oneCell']) (by omega) (by unfold maxLen; omega) (by omega) (by simp; omega) (wr.heap.size + 1) (by simp) ?_; intro gg cap w1 hown1 hgrow hat hlt1)
              go_wp2
              go_roundw
              case rel => exact ⟨k + 1, by omega, by go_num, OutR.step HO2.out HX.out HS.out hown1, ((HBM.out.trans (HQ.out.below _)).alloc hwr _).grown hgrow (by simp; omega) (fun _ hk => (HO2.out.lt _ hk).1)⟩
              case measure => simp [intOf]; omega
        · have hn : k = c := by omega
          subst hn
          obtain ⟨r, cp, hv, htag⟩ := HOM.out.tag
          rw [mkR_len] at hv
          subst hv
          obtain ⟨vals, hvo, hvr⟩ := HO.out.below HBM.out
          rw [mk_len] at hvo hvr
          have HV := Lib.hid hvo
          have HVR := Lib.hid hvr
          have HT := Lib.hid htag
          clear hvo hvr htag
          go_wp2_with (at_builtin; refine wpList_append_lies _ rfl _ _ 25 rfl w.heap.size 22 j0 (.slice none 0 0) 1 24 Tryz.underlying25 kj kz0 kz1 kz2 rfl (by decide) u7 i vals rfl (HV.out.alloc _) ⟨wm.heap.size, 0, none⟩ 1 1 [.slice r k cp] rfl rfl (World.news_of_block (cs := #[.slice r k cp]) (t := 22) (fr := (0, 0)) (heap_alloc_new wm _)) (by simp [Value.oneCell']) (by omega) (by unfold maxLen; omega) (by omega) (by simp; omega) (wm.heap.size + 1) (by simp) ?_; intro gg cap w1 hown1 hgrow hat hlt1)
          go_wp2
          go_roundw
          case rel => exact ⟨i + 1, by omega, by go_num, OutM.next HV.out HVR.out HT.out rfl hwz hown1 hgrow, (HBWM.out.alloc (by omega) _).grown hgrow (by simp; omega) (fun _ hk => (HV.out.lt _ hk).1)⟩
          case measure => simp [intOf]; omega
    · have hn : i = m.length := by omega
      subst hn
      have HE : Hid (mulM p m m' = mk m.length c fun i k => sm m'.length (fun j => at' m i j * at' m' j k) % p) := by show mulM p m m' = _; unfold mulM; rw [← HCC.out]
      go_wp2
      go_ret
      rw [HE.out]
      exact HO.out.new HBEL.out

end Go.Proofs.YtlfjhffigkhmcaaGreat
