/-
  The program's Gram matrices: the walk.
  Conditions: the lists are nil or rows of known cells, of at most 1048576 numbers.
  The program's GramOf: contract.
  Conditions: the lists are nil or rows of known cells, of at most 1048576 numbers.
  Products of vectors: symmetric, linear, norms of sums. No Go in sight.
  No conditions.
  What an isometry is: by columns, and by the program's way. No Go in sight.
  No conditions.
-/
import Derived.Test.YtifiobhbhcfneaaQi11
import Derived.Test.YtifiobhbhcfneaaQi5
import Derived.Test.YtifiobhbhcfneaaQi10
namespace Go.Proofs.Ytifiobhbhcfneaa
open Go.RowKit
set_option linter.unusedVariables false

def OwnG (m : List (List Int)) (w : World) (e : Ending) (w' : World) : Prop :=
  ∃ r k, e = .returned (.slice r m.length k) ∧ OwnM w.heap.size w'.heap.size w' r m ∧ Below w.heap.size w w'

def NewZ0 (n : Nat) (w : World) (e : Ending) (w' : World) : Prop := ∃ a, e = .returned (.slice a n n) ∧ Below w.heap.size w w'
set_option maxRecDepth 100000 in
set_option maxHeartbeats 1600000 in
theorem newMatrix_zero (n : Nat) (w : World) (hn : n = 0) :
    Calls Try.prog 45 #[.int .i64 n, .int .i64 n] w (NewZ0 n w) := by
  obtain ⟨t, htt⟩ : ∃ t, t = n * n := ⟨_, rfl⟩
  have htb : t ≤ 1048576 := by rw [htt, hn]; omega
  have hmul : IntKind.i64.wrap ((n : Int) * (n : Int)) = (t : Int) := by
    have : (n : Int) * (n : Int) = (t : Int) := by rw [htt]; simp
    rw [this]; exact IntWalk.i64_in _ (by omega)
  have hnn : n ≤ 0 := by omega
  clear htt hn
  have hmk := fun W => run_make_row' (P := Try.prog) 25 22 (.slice none 0 0) 24 Try.underlying25 info_slice rfl .i64 .i64 n (by omega) (by omega) W
  have hmk2 := fun W => run_make_row' (P := Try.prog) 22 2 (.int .i64 0) 8 Try.underlying22 info64 rfl .i64 .i64 t (by omega) (by omega) W
  go_enter Try.func45, Try.ntmps45
  go_wp2
  go_region
  all_goals
    go_wp2
    go_loopw [6, 16] (fun v t wr => ∃ i : Nat, i ≤ n ∧ t = .int .i64 i ∧ Below w.heap.size w wr) (fun _ t _ => n - (intOf t).toNat)
    case atStart => exact ⟨0, Nat.zero_le _, rfl, by ((repeat' (first | with_reducible exact Below.refl _ _ | (with_reducible refine Below.setCell ?_ ?_ _) | (with_reducible refine Below.alloc ?_ ?_ _) | (with_reducible refine Below.drew ?_))); all_goals (first | (simp; done) | omega | (simp; omega)))⟩
    case round =>
      obtain ⟨i, hi, rfl, hb⟩ := hrel
      have HB := Lib.hid hb
      have hin : ¬ (i : Int) < (n : Int) := by omega
      clear hb
      go_wp2
      go_ret
      exact ⟨_, rfl, HB.out⟩

set_option maxRecDepth 100000 in
set_option maxHeartbeats 6400000 in
theorem gram_any (pS : Int) (aS : Option Addr) (S : List Int) (cS loS tpS : Nat) (am : Option Addr) (m : List (List Int)) (cm lom tpm : Nat) (w : World)
    (hS : RowIn loS tpS w aS S) (tS : tpS ≤ w.heap.size) (hm : MatIn lom tpm w am m) (tm : tpm ≤ w.heap.size) (hs : isSp pS S = true) (hl : listB pS S m = true) :
    Calls Try.prog 24 #[.agg #[.int .i64 pS, .slice aS S.length cS], .slice am m.length cm] w (OwnG (gramM pS S m) w) := by
  have HS := Lib.hid hS
  have Hm := Lib.hid hm
  have HI := Lib.hid hs
  have HVE : Hid (∀ i, i < m.length → isVec pS S.length (rw' m i) = true) := (listB_iff hl).2
  have h16 := (listB_iff hl).1
  have HBB := Lib.hid (below_alloc w (.cells #[.int .i64 pS, .slice aS S.length cS] 30))
  have HZZ := Lib.hid HBB.out.size
  clear hS hm hs hl
  by_cases h0 : m.length = 0
  · have HG : Hid (gramM pS S m = []) := by show _ = _; unfold gramM; rw [h0]; rfl
    have h01 : m.length ≤ 0 := by omega
    have hin : ¬ (0 : Int) < (m.length : Int) := by omega
    have H0 := Lib.hid h0
    clear h0
    go_enter Try.func24, Try.ntmps24
    go_wp2_with (go_at_call 45; (with_reducible refine (newMatrix_zero m.length _ H0.out).mono ?_); rintro e w1 ⟨a1, rfl, hb1⟩; have HB1 := Lib.hid hb1; clear hb1)
    go_loopw [17] (fun t wr => ∃ i : Nat, i ≤ m.length ∧ t = .int .i64 i ∧ Below w.heap.size w wr) (fun t _ => m.length - (intOf t).toNat)
    case atStart => exact ⟨0, Nat.zero_le _, rfl, HBB.out.trans (HB1.out.mono HZZ.out)⟩
    case round =>
      obtain ⟨i, hi, rfl, hb⟩ := hrel
      have HB := Lib.hid hb
      have hii : ¬ (i : Int) < (m.length : Int) := by omega
      clear hb
      go_wp2
      go_ret
      rw [HG.out]
      exact ⟨a1, m.length, by rw [H0.out]; rfl, .inl rfl, HB.out⟩
  · have hpos : 1 ≤ m.length := by omega
    have h1024 : m.length ≤ 1024 := by omega
    go_enter Try.func24, Try.ntmps24
    go_wp2_with (go_at_call 45; (with_reducible refine (newMatrix_any m.length m.length _ h1024 h1024 hpos).mono ?_); rintro e w1 ⟨q, rfl, ho1, hb1⟩; have HO1 := Lib.hid (ho1.mono (show w.heap.size + 1 ≤ _ by simp) (Nat.le_refl _)); have HB1 := Lib.hid (HBB.out.trans (hb1.mono HZZ.out)); have K0 := Lib.hid ((hb1.cell (p := ⟨w.heap.size, 0, none⟩) (lt_alloc w _)).trans (nw0 w _ _ _)); have K1 := Lib.hid ((hb1.cell (p := ⟨w.heap.size, 1, none⟩) (lt_alloc w _)).trans (nw1 w _ _ _)); have hlw : w.heap.size < w1.heap.size := Nat.lt_of_lt_of_le (lt_alloc w _) hb1.size; clear ho1 hb1)
    go_loopw [17] (fun t wr => ∃ i : Nat, i ≤ m.length ∧ t = .int .i64 i ∧ OwnAt (w.heap.size + 1) w1.heap.size wr q m.length (fun _ => m.length) (fun k j => if k < i then gramF pS S m k j else 0) ∧ Below w.heap.size w wr ∧ wr.cell? ⟨w.heap.size, 0, none⟩ = some (.int .i64 pS) ∧ wr.cell? ⟨w.heap.size, 1, none⟩ = some (.slice aS S.length cS) ∧ w1.heap.size ≤ wr.heap.size) (fun t _ => m.length - (intOf t).toNat)
    case atStart => exact ⟨0, Nat.zero_le _, rfl, HO1.out.congr (fun i _ j _ => by simp), HB1.out, K0.out, K1.out, Nat.le_refl _⟩
    case round =>
      obtain ⟨i, hi, rfl, ho, hbel, k0, k1, hsz⟩ := hrel
      have HO := Lib.hid ho
      have HBEL := Lib.hid hbel
      have HK0 := Lib.hid k0
      have HK1 := Lib.hid k1
      have hwz := hbel.size
      rename World => wo
      clear ho k0 k1
      by_cases hlt : i < m.length
      · obtain ⟨b1, o1, r1, c1, ha1, _, hb1, hr1', hrow1⟩ := Hm.out.row hlt
        cases ha1
        have hr1 := (hbel.cell (p := ⟨b1, o1 + i, none⟩) (Nat.lt_of_lt_of_le hb1 tm)).trans hr1'
        have HROW := Lib.hid hrow1
        have hi1 : (i : Int) < (m.length : Int) := by omega
        clear hrow1 hbel
        go_wp2
        go_loopw [24] (fun t wr => ∃ j : Nat, j ≤ m.length ∧ t = .int .i64 j ∧ OwnAt (w.heap.size + 1) w1.heap.size wr q m.length (fun _ => m.length) (fun k j' => if k < i ∨ (k = i ∧ j' < j) then gramF pS S m k j' else 0) ∧ Below w.heap.size w wr ∧ wr.cell? ⟨w.heap.size, 0, none⟩ = some (.int .i64 pS) ∧ wr.cell? ⟨w.heap.size, 1, none⟩ = some (.slice aS S.length cS) ∧ w1.heap.size ≤ wr.heap.size) (fun t _ => m.length - (intOf t).toNat)
        case atStart => exact ⟨0, Nat.zero_le _, rfl, HO.out.congr (fun k _ j _ => by simp), HBEL.out, HK0.out, HK1.out, hsz⟩
        case round =>
          obtain ⟨j, hj, rfl, hoj, hbj, k0, k1, hsj⟩ := hrel
          have HOJ := Lib.hid hoj
          have HBJ := Lib.hid hbj
          have hwj := hbj.size
          by_cases hltj : j < m.length
          · obtain ⟨b2, o2, r2, c2, ha2, _, hb2, hr2, hrow2⟩ := (Hm.out.below hbj tm).row hltj
            cases ha2
            have HSd := Lib.hid (HS.out.below (hbj.trans ((below_drew wr).mono hwj)) tS)
            have HR1 := Lib.hid (HROW.out.below (hbj.trans ((below_drew wr).mono hwj)) tm)
            have HR2 := Lib.hid (hrow2.below (below_drew wr) (Nat.le_trans tm hwj))
            have HTS : Hid (tpS ≤ wr.drew.heap.size) := Nat.le_trans tS hwj
            have HTM : Hid (tpm ≤ wr.drew.heap.size) := Nat.le_trans tm hwj
            have v1 := HVE.out i hlt
            have v2 := HVE.out j hltj
            have ht3 := hoj.top i hlt
            have hR := (hoj.row i hlt).resolve_left (by omega)
            rw [hR] at ht3
            have hrg := hoj.rrng i hlt (by omega)
            have hrb := hoj.rng hpos
            have hc3 := hoj.cell i hlt j hltj
            have hf3 := hoj.free i hlt j hltj
            obtain ⟨y, hy⟩ : ∃ y, wr.cell? ⟨q.B i, q.O i + j, none⟩ = some (.int .i64 y) := ⟨_, hc3⟩
            have hne := hoj.tops i hlt j hltj i hlt
            have hne2 : (⟨q.b, q.o + i, none⟩ : Addr) ≠ ⟨q.B i, q.O i + j, none⟩ := fun e => by injection e with e1 e2; exact hne ⟨e1.symm, e2.symm⟩
            obtain ⟨x, hx⟩ : ∃ x, x = pairN pS S (rw' m i) (rw' m j) := ⟨_, rfl⟩
            have HX := Lib.hid hx
            have hj1 : (j : Int) < (m.length : Int) := by omega
            have hqb : q.b < wr.heap.size := by omega
            have hqB : q.B i < wr.heap.size := by omega
            have l0 : w.heap.size < wr.heap.size := by omega
            have l1 : w.heap.size ≠ q.B i := by omega
            clear hoj hbj hrow2 hR hc3 hx hne
            go_wp2
            go_region_held3 (fun w' => w'.cell? ⟨q.b, q.o + i, none⟩ = some (.slice (some ⟨q.B i, q.O i, none⟩) m.length (q.C i)) ∧ w'.cell? ⟨w.heap.size, 0, none⟩ = some (.int .i64 pS) ∧ w'.cell? ⟨w.heap.size, 1, none⟩ = some (.slice aS S.length cS)) (first | go_keep | exact SS5.out | exact SS6.out) (first | (go_at_call 46; (with_reducible refine (pair_any pS aS S cS loS tpS r1 (rw' m i) c1 lom tpm r2 (rw' m j) c2 lom tpm wr.drew HSd.out HTS.out HR1.out HTM.out HR2.out HTM.out HI.out v1 v2).mono ?_); rintro e w5 ⟨rfl, hb5⟩; rw [← HX.out]; have HB5 : Hid (Below wr.heap.size wr w5) := (below_drew wr).trans hb5; have SS5 := Lib.hid (And.intro ((HB5.out.cell (p := ⟨q.b, q.o + i, none⟩) hqb).trans ht3) (And.intro ((HB5.out.cell (p := ⟨w.heap.size, 0, none⟩) l0).trans k0) ((HB5.out.cell (p := ⟨w.heap.size, 1, none⟩) l0).trans k1))); have yc := (HB5.out.cell (p := ⟨q.B i, q.O i + j, none⟩) hqB).trans hy; have yf := (HB5.out.frozen (p := ⟨q.B i, q.O i + j, none⟩) hqB).trans hf3; have SS6 := Lib.hid (And.intro ((World.cell?_setCell_other w5 ⟨q.B i, q.O i + j, none⟩ ⟨q.b, q.o + i, none⟩ (.int .i64 x) (fun e => hne2 e.symm)).trans SS5.out.1) (And.intro ((World.cell?_setCell_other w5 ⟨q.B i, q.O i + j, none⟩ ⟨w.heap.size, 0, none⟩ (.int .i64 x) (fun e => l1 (by injection e with e1; exact e1.symm))).trans SS5.out.2.1) ((World.cell?_setCell_other w5 ⟨q.B i, q.O i + j, none⟩ ⟨w.heap.size, 1, none⟩ (.int .i64 x) (fun e => l1 (by injection e with e1; exact e1.symm))).trans SS5.out.2.2))); clear hb5))
            go_wp2
            go_roundw
            case rel =>
              have hz5 := HB5.out.size
              exact ⟨j + 1, by omega, by go_num, ((HOJ.out.same (same_below HB5.out hsj)).set hlt hltj x).congr (fun k hk j' hj' => by
                rw [HX.out]
                by_cases e1 : k = i ∧ j' = j
                · obtain ⟨rfl, rfl⟩ := e1
                  rw [if_pos ⟨rfl, rfl⟩, if_pos (.inr ⟨rfl, by omega⟩)]; rfl
                · rw [if_neg e1]
                  by_cases e2 : k < i ∨ (k = i ∧ j' < j)
                  · rw [if_pos e2, if_pos (by omega)]
                  · rw [if_neg e2, if_neg (by omega)]), (HBJ.out.trans (HB5.out.mono hwj)).setCell (show w.heap.size ≤ q.B i by omega) _, SS6.out.2.1, SS6.out.2.2, by simp [World.setCell]; omega⟩
            case measure => simp [intOf]; omega
          · have hn : j = m.length := by omega
            subst hn
            clear hoj hbj
            go_wp2
            go_roundw
            case rel => exact ⟨i + 1, by omega, by go_num, HOJ.out.congr (fun k hk j' hj' => by
              by_cases e : k < i + 1
              · rw [if_pos e, if_pos (by omega)]
              · rw [if_neg e, if_neg (by omega)]), HBJ.out, k0, k1, hsj⟩
            case measure => simp [intOf]; omega
      · have hn : i = m.length := by omega
        subst hn
        have HF := Lib.hid (HO.out.congr (Z' := gramF pS S m) (fun k h j _ => by rw [if_pos h]))
        clear hbel
        go_wp2
        go_ret
        exact ⟨_, m.length, by rw [gramM, mk_len]; rfl, (HF.out.mono (show w.heap.size ≤ w.heap.size + 1 by omega) hsz).ownM, HBEL.out⟩

end Go.Proofs.Ytifiobhbhcfneaa

namespace Go.Proofs.Ytifiobhbhcfneaa
open Go.RowKit
set_option linter.unusedVariables false

theorem pairN_comm (p : Int) (S v w : List Int) : pairN p S v w = pairN p S w v := by
  unfold pairN psum
  congr 1
  exact sm_congr fun j _ => by rw [Int.mul_comm (v.getD j 0)]
end Go.Proofs.Ytifiobhbhcfneaa

namespace Go.Proofs.Ytifiobhbhcfneaa
open Go.RowKit
set_option linter.unusedVariables false

def wantF (S : List Int) (i k : Nat) : Int := if i = k then S.getD i 0 else 0
/-- The columns have the products of the basis vectors. -/
def colB (p : Int) (S T : List Int) (m : List (List Int)) : Bool := (List.range S.length).all fun i => (List.range (i + 1)).all fun k => decide (pairN p T (rw' (trM m) i) (rw' (trM m) k) = wantF S i k)
theorem colB_iff {p : Int} {S T : List Int} {m : List (List Int)} : colB p S T m = true ↔ ∀ i, i < S.length → ∀ k, k ≤ i → pairN p T (rw' (trM m) i) (rw' (trM m) k) = wantF S i k := by
  unfold colB
  simp only [List.all_eq_true, List.mem_range, decide_eq_true_eq, Nat.lt_succ_iff]
theorem colB_no {p : Int} {S T : List Int} {m : List (List Int)} {i k : Nat} (hi : i < S.length) (hk : k ≤ i) (h : pairN p T (rw' (trM m) i) (rw' (trM m) k) ≠ wantF S i k) : colB p S T m = false := by
  cases e : colB p S T m with
  | false => rfl
  | true => exact absurd (colB_iff.1 e i hi k hk) h
/-- A square matrix of the size of both spaces. -/
def ismF (p q : Int) (S T : List Int) (m : List (List Int)) : Bool := decide (p = q) && decide (T.length = S.length) && decide (m.length = S.length) && isM p m && decide ((rw' m 0).length = S.length)
/-- What is told of an isometry. -/
def ismB (p q : Int) (S T : List Int) (m : List (List Int)) : Bool := ismF p q S T m && decide (detP p m ≠ 0) && colB p S T m
theorem ismF_iff {p q : Int} {S T : List Int} {m : List (List Int)} : ismF p q S T m = true ↔ p = q ∧ T.length = S.length ∧ m.length = S.length ∧ isM p m = true ∧ (rw' m 0).length = S.length := by
  unfold ismF
  simp only [Bool.and_eq_true, decide_eq_true_eq, and_assoc]
theorem one_row {n i : Nat} (hi : i < n) : rw' (oneM n) i = mkR n fun j => if i = j then 1 else 0 := mk_row _ hi
theorem one_pair {p : Int} {S : List Int} (hs : isSp p S = true) {i j : Nat} (hi : i < S.length) (hj : j < S.length) : pairN p S (rw' (oneM S.length) i) (rw' (oneM S.length) j) = wantF S i j := by
  have hp := prm_bd (isSp_iff.1 hs).prime
  rw [one_row hi, one_row hj]
  unfold pairN psum wantF
  rw [sm_congr (g := fun l => if l = i then (if i = j then S.getD i 0 else 0) else 0) fun l hl => by
    rw [mkR_at _ hl, mkR_at _ hl]
    by_cases e : l = i
    · subst e
      rw [if_pos rfl, if_pos rfl, Int.one_mul]
      by_cases e2 : l = j
      · subst e2; rw [if_pos rfl, if_pos rfl, Int.one_mul]
      · rw [if_neg (fun h => e2 h.symm), if_neg e2, Int.zero_mul]
    · rw [if_neg (fun h => e h.symm), if_neg e, Int.zero_mul, Int.zero_mul], sm_single, if_pos hi]
  have h := (isSp_iff.1 hs).num hi
  split
  · exact Int.emod_eq_of_lt h.1 h.2
  · exact Int.zero_emod _
theorem mk_inj {n c : Nat} {f g : Nat → Nat → Int} : mk n c f = mk n c g ↔ ∀ i, i < n → ∀ j, j < c → f i j = g i j := by
  constructor
  · intro h i hi j hj
    rw [← mk_at f hi hj, ← mk_at g hi hj, h]
  · intro h
    refine mat_ext (by rw [mk_len, mk_len]) fun i hi => ?_
    rw [mk_len] at hi
    rw [mk_row _ hi, mk_row _ hi]
    exact mkR_congr fun j hj => h i hi j hj
/-- The program's way: both Gram matrices are the same. -/
theorem kept_iff {p : Int} {S T : List Int} {m : List (List Int)} (hs : isSp p S = true) (hl : (trM m).length = S.length) : gramM p S (oneM S.length) = gramM p T (trM m) ↔ colB p S T m = true := by
  have e1 : (oneM S.length).length = S.length := mk_len _ _ _
  unfold gramM
  rw [e1, hl, mk_inj, colB_iff]
  unfold gramF
  constructor
  · intro h i hi k hk
    rw [← h i hi k (by omega), one_pair hs hi (by omega)]
  · intro h i hi j hj
    rw [one_pair hs hi hj]
    by_cases hk : j ≤ i
    · exact (h i hi j hk).symm
    · rw [pairN_comm, h j hj i (by omega)]
      unfold wantF
      by_cases e : i = j
      · omega
      · rw [if_neg e, if_neg fun q => e q.symm]
theorem bas_full {p : Int} {n : Nat} {m B : List (List Int)} (hp : prm p = true) (hn : m.length = n) (hl : ∀ i, i < m.length → (rw' m i).length = n) (hr : ∀ i, i < m.length → ∀ j, j < n → 0 ≤ at' m i j ∧ at' m i j < p) (hB : IsBas p n m B) : B.length = n ↔ detP p m ≠ 0 := by
  have hpb := prm_bd hp
  rw [det_triv hp hn hl hr]
  obtain ⟨P, hR⟩ := hB.red
  constructor
  · intro h x hx j hj
    have hx2 := (hB.nul x).1 (by rw [hn]; exact hx)
    rw [h] at hR hx2
    have hu := hR.unit.2
    have := hx2 j hj
    have e : sm n (fun k => at' B j k * x k) = sm n (fun k => if k = j then x j else 0) := sm_congr fun k hk => by
      rw [hu j hj k hk]
      by_cases e : j = k
      · subst e; simp
      · rw [if_neg e, if_neg (fun q => e q.symm)]; simp
    rw [e, sm_single, if_pos hj] at this
    exact this
  · intro ht
    refine Classical.byContradiction fun hne => ?_
    have hle := hR.rows_le
    obtain ⟨k, hk, hf⟩ := hR.free (N := n) (fun q => by have := (q (n - 1) (by omega)).1; omega)
    have hz := ht (kv B.length (at' B) P k) (by have := (hB.nul (kv B.length (at' B) P k)).2 (kv_nul hR hk); rwa [hn] at this) k hk
    rw [kv_top hR hf, Int.emod_eq_of_lt (by omega) (by omega)] at hz
    omega

end Go.Proofs.Ytifiobhbhcfneaa
