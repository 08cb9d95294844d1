/-
  Versors (model): contracts of the program and of the model.
  Conditions: the lists are nil or rows of known cells, of at most 1048576 numbers.
  The model's GramOf: contract.
  Conditions: the lists are nil or rows of known cells, of at most 1048576 numbers.
  The program's Gram matrices: the walk.
  Conditions: the lists are nil or rows of known cells, of at most 1048576 numbers.
  The program's GramOf: contract.
  Conditions: the lists are nil or rows of known cells, of at most 1048576 numbers.
  Products of vectors: symmetric, linear, norms of sums. No Go in sight.
  No conditions.
  Geometric products of vectors: twice their product, squares are norms. No Go in sight.
  No conditions.
  The source that the model draws from: what stays as it is while numbers are drawn.
  No conditions.
  What the model's draws are: a number in its range.
  Conditions: the source is one, of at most 4096 bytes.
  What the model's source picks: one of a list.
  Conditions: the source is one, of at most 4096 bytes; the list is a row of known cells in another block.
  The model's source of a code, and what it draws first: a prime or not, numbers or not.
  Conditions: the code is a row of at most 4096 known bytes.
-/
import Derived.Test.YtkibkkdeaojjoabQf39
import Derived.Test.YtkibkkdeaojjoabQf38
import Derived.Test.YtkibkkdeaojjoabQf8
import Derived.Deep.RegionHeld3
import Derived.Deep.DeepCutAuto
import Derived.Test.YtkibkkdeaojjoabQf7
import Derived.Test.YtkibkkdeaojjoabQf12
import Derived.Test.YtkibkkdeaojjoabQf9
import Derived.Test.YtkibkkdeaojjoabQf36
import Derived.Test.YtkibkkdeaojjoabQf1
import Derived.Deep.Draws
import Derived.WalkKit
import Derived.Test.YtkibkkdeaojjoabRows
import Derived.LoopTactic
import Derived.Lib.Hide
import Derived.BigQuiet
import Derived.Deep.QuietTactic
import Derived.Laws.Bits64
import Derived.Laws.BitsAllLaws
import Derived.RegionTactic
import Derived.Deep.RegionWith
namespace Go.Proofs.Ytkibkkdeaojjoab
open Go.RowKit
set_option linter.unusedVariables false

def gramF (p : Int) (S : List Int) (m : List (List Int)) (i j : Nat) : Int := pairN p S (rw' m i) (rw' m j)
def gramM (p : Int) (S : List Int) (m : List (List Int)) : List (List Int) := mk m.length m.length (gramF p S m)
end Go.Proofs.Ytkibkkdeaojjoab

namespace Go.Proofs.Ytkibkkdeaojjoab
open Go.RowKit
set_option linter.unusedVariables false

def OwnG (m : List (List Int)) (w : World) (e : Ending) (w' : World) : Prop :=
  ∃ r k, e = .returned (.slice r m.length k) ∧ OwnM w.heap.size w'.heap.size w' r m ∧ Below w.heap.size w w'

def NewZ0 (n : Nat) (w : World) (e : Ending) (w' : World) : Prop := ∃ a, e = .returned (.slice a n n) ∧ Below w.heap.size w w'
set_option maxRecDepth 100000 in
set_option maxHeartbeats 1600000 in
theorem newMatrix_zero (n : Nat) (w : World) (hn : n = 0) :
    Calls Try.prog 89 #[.int .i64 n, .int .i64 n] w (NewZ0 n w) := by
  obtain ⟨t, htt⟩ : ∃ t, t = n * n := ⟨_, rfl⟩
  have htb : t ≤ 1048576 := by rw [htt, hn]; omega
  have hmul : IntKind.i64.wrap ((n : Int) * (n : Int)) = (t : Int) := by
    have : (n : Int) * (n : Int) = (t : Int) := by rw [htt]; simp
    rw [this]; exact IntWalk.i64_in _ (by omega)
  have hnn : n ≤ 0 := by omega
  clear htt hn
  have hmk := fun W => run_make_row' (P := Try.prog) 25 22 (.slice none 0 0) 24 Try.underlying25 info_slice rfl .i64 .i64 n (by omega) (by omega) W
  have hmk2 := fun W => run_make_row' (P := Try.prog) 22 2 (.int .i64 0) 8 Try.underlying22 info64 rfl .i64 .i64 t (by omega) (by omega) W
  go_enter Try.func89, Try.ntmps89
  go_wp2
  go_region
  all_goals
    go_wp2
    go_loopw [6, 16] (fun v t wr => ∃ i : Nat, i ≤ n ∧ t = .int .i64 i ∧ Below w.heap.size w wr) (fun _ t _ => n - (intOf t).toNat)
    case atStart => exact ⟨0, Nat.zero_le _, rfl, by ((repeat' (first | with_reducible exact Below.refl _ _ | (with_reducible refine Below.setCell ?_ ?_ _) | (with_reducible refine Below.alloc ?_ ?_ _) | (with_reducible refine Below.drew ?_))); all_goals (first | (simp; done) | omega | (simp; omega)))⟩
    case round =>
      obtain ⟨i, hi, rfl, hb⟩ := hrel
      have HB := Lib.hid hb
      have hin : ¬ (i : Int) < (n : Int) := by omega
      clear hb
      go_wp2
      go_ret
      exact ⟨_, rfl, HB.out⟩

set_option maxRecDepth 100000 in
set_option maxHeartbeats 6400000 in
theorem gram_any (pS : Int) (aS : Option Addr) (S : List Int) (cS loS tpS : Nat) (am : Option Addr) (m : List (List Int)) (cm lom tpm : Nat) (w : World)
    (hS : RowIn loS tpS w aS S) (tS : tpS ≤ w.heap.size) (hm : MatIn lom tpm w am m) (tm : tpm ≤ w.heap.size) (hs : isSp pS S = true) (hl : listB pS S m = true) :
    Calls Try.prog 102 #[.agg #[.int .i64 pS, .slice aS S.length cS], .slice am m.length cm] w (OwnG (gramM pS S m) w) := by
  have HS := Lib.hid hS
  have Hm := Lib.hid hm
  have HI := Lib.hid hs
  have HVE : Hid (∀ i, i < m.length → isVec pS S.length (rw' m i) = true) := (listB_iff hl).2
  have h16 := (listB_iff hl).1
  have HBB := Lib.hid (below_alloc w (.cells #[.int .i64 pS, .slice aS S.length cS] 30))
  have HZZ := Lib.hid HBB.out.size
  clear hS hm hs hl
  by_cases h0 : m.length = 0
  · have HG : Hid (gramM pS S m = []) := by show _ = _; unfold gramM; rw [h0]; rfl
    have h01 : m.length ≤ 0 := by omega
    have hin : ¬ (0 : Int) < (m.length : Int) := by omega
    have H0 := Lib.hid h0
    clear h0
    go_enter Try.func102, Try.ntmps102
    go_wp2_with (go_at_call 89; (with_reducible refine (newMatrix_zero m.length _ H0.out).mono ?_); rintro e w1 ⟨a1, rfl, hb1⟩; have HB1 := Lib.hid hb1; clear hb1)
    go_loopw [17] (fun t wr => ∃ i : Nat, i ≤ m.length ∧ t = .int .i64 i ∧ Below w.heap.size w wr) (fun t _ => m.length - (intOf t).toNat)
    case atStart => exact ⟨0, Nat.zero_le _, rfl, HBB.out.trans (HB1.out.mono HZZ.out)⟩
    case round =>
      obtain ⟨i, hi, rfl, hb⟩ := hrel
      have HB := Lib.hid hb
      have hii : ¬ (i : Int) < (m.length : Int) := by omega
      clear hb
      go_wp2
      go_ret
      rw [HG.out]
      exact ⟨a1, m.length, by rw [H0.out]; rfl, .inl rfl, HB.out⟩
  · have hpos : 1 ≤ m.length := by omega
    have h1024 : m.length ≤ 1024 := by omega
    go_enter Try.func102, Try.ntmps102
    go_wp2_with (go_at_call 89; (with_reducible refine (newMatrix_any m.length m.length _ h1024 h1024 hpos).mono ?_); rintro e w1 ⟨q, rfl, ho1, hb1⟩; have HO1 := Lib.hid (ho1.mono (show w.heap.size + 1 ≤ _ by simp) (Nat.le_refl _)); have HB1 := Lib.hid (HBB.out.trans (hb1.mono HZZ.out)); have K0 := Lib.hid ((hb1.cell (p := ⟨w.heap.size, 0, none⟩) (lt_alloc w _)).trans (nw0 w _ _ _)); have K1 := Lib.hid ((hb1.cell (p := ⟨w.heap.size, 1, none⟩) (lt_alloc w _)).trans (nw1 w _ _ _)); have hlw : w.heap.size < w1.heap.size := Nat.lt_of_lt_of_le (lt_alloc w _) hb1.size; clear ho1 hb1)
    go_loopw [17] (fun t wr => ∃ i : Nat, i ≤ m.length ∧ t = .int .i64 i ∧ OwnAt (w.heap.size + 1) w1.heap.size wr q m.length (fun _ => m.length) (fun k j => if k < i then gramF pS S m k j else 0) ∧ Below w.heap.size w wr ∧ wr.cell? ⟨w.heap.size, 0, none⟩ = some (.int .i64 pS) ∧ wr.cell? ⟨w.heap.size, 1, none⟩ = some (.slice aS S.length cS) ∧ w1.heap.size ≤ wr.heap.size) (fun t _ => m.length - (intOf t).toNat)
    case atStart => exact ⟨0, Nat.zero_le _, rfl, HO1.out.congr (fun i _ j _ => by simp), HB1.out, K0.out, K1.out, Nat.le_refl _⟩
    case round =>
      obtain ⟨i, hi, rfl, ho, hbel, k0, k1, hsz⟩ := hrel
      have HO := Lib.hid ho
      have HBEL := Lib.hid hbel
      have HK0 := Lib.hid k0
      have HK1 := Lib.hid k1
      have hwz := hbel.size
      rename World => wo
      clear ho k0 k1
      by_cases hlt : i < m.length
      · obtain ⟨b1, o1, r1, c1, ha1, _, hb1, hr1', hrow1⟩ := Hm.out.row hlt
        cases ha1
        have hr1 := (hbel.cell (p := ⟨b1, o1 + i, none⟩) (Nat.lt_of_lt_of_le hb1 tm)).trans hr1'
        have HROW := Lib.hid hrow1
        have hi1 : (i : Int) < (m.length : Int) := by omega
        clear hrow1 hbel
        go_wp2
        go_loopw [24] (fun t wr => ∃ j : Nat, j ≤ m.length ∧ t = .int .i64 j ∧ OwnAt (w.heap.size + 1) w1.heap.size wr q m.length (fun _ => m.length) (fun k j' => if k < i ∨ (k = i ∧ j' < j) then gramF pS S m k j' else 0) ∧ Below w.heap.size w wr ∧ wr.cell? ⟨w.heap.size, 0, none⟩ = some (.int .i64 pS) ∧ wr.cell? ⟨w.heap.size, 1, none⟩ = some (.slice aS S.length cS) ∧ w1.heap.size ≤ wr.heap.size) (fun t _ => m.length - (intOf t).toNat)
        case atStart => exact ⟨0, Nat.zero_le _, rfl, HO.out.congr (fun k _ j _ => by simp), HBEL.out, HK0.out, HK1.out, hsz⟩
        case round =>
          obtain ⟨j, hj, rfl, hoj, hbj, k0, k1, hsj⟩ := hrel
          have HOJ := Lib.hid hoj
          have HBJ := Lib.hid hbj
          have hwj := hbj.size
          by_cases hltj : j < m.length
          · obtain ⟨b2, o2, r2, c2, ha2, _, hb2, hr2, hrow2⟩ := (Hm.out.below hbj tm).row hltj
            cases ha2
            have HSd := Lib.hid (HS.out.below (hbj.trans ((below_drew wr).mono hwj)) tS)
            have HR1 := Lib.hid (HROW.out.below (hbj.trans ((below_drew wr).mono hwj)) tm)
            have HR2 := Lib.hid (hrow2.below (below_drew wr) (Nat.le_trans tm hwj))
            have HTS : Hid (tpS ≤ wr.drew.heap.size) := Nat.le_trans tS hwj
            have HTM : Hid (tpm ≤ wr.drew.heap.size) := Nat.le_trans tm hwj
            have v1 := HVE.out i hlt
            have v2 := HVE.out j hltj
            have ht3 := hoj.top i hlt
            have hR := (hoj.row i hlt).resolve_left (by omega)
            rw [hR] at ht3
            have hrg := hoj.rrng i hlt (by omega)
            have hrb := hoj.rng hpos
            have hc3 := hoj.cell i hlt j hltj
            have hf3 := hoj.free i hlt j hltj
            obtain ⟨y, hy⟩ : ∃ y, wr.cell? ⟨q.B i, q.O i + j, none⟩ = some (.int .i64 y) := ⟨_, hc3⟩
            have hne := hoj.tops i hlt j hltj i hlt
            have hne2 : (⟨q.b, q.o + i, none⟩ : Addr) ≠ ⟨q.B i, q.O i + j, none⟩ := fun e => by injection e with e1 e2; exact hne ⟨e1.symm, e2.symm⟩
            obtain ⟨x, hx⟩ : ∃ x, x = pairN pS S (rw' m i) (rw' m j) := ⟨_, rfl⟩
            have HX := Lib.hid hx
            have hj1 : (j : Int) < (m.length : Int) := by omega
            have hqb : q.b < wr.heap.size := by omega
            have hqB : q.B i < wr.heap.size := by omega
            have l0 : w.heap.size < wr.heap.size := by omega
            have l1 : w.heap.size ≠ q.B i := by omega
            clear hoj hbj hrow2 hR hc3 hx hne
            go_wp2
            go_region_held3 (fun w' => w'.cell? ⟨q.b, q.o + i, none⟩ = some (.slice (some ⟨q.B i, q.O i, none⟩) m.length (q.C i)) ∧ w'.cell? ⟨w.heap.size, 0, none⟩ = some (.int .i64 pS) ∧ w'.cell? ⟨w.heap.size, 1, none⟩ = some (.slice aS S.length cS)) (first | go_keep | exact SS5.out | exact SS6.out) (first | (go_at_call 128; (with_reducible refine (pair_any pS aS S cS loS tpS r1 (rw' m i) c1 lom tpm r2 (rw' m j) c2 lom tpm wr.drew HSd.out HTS.out HR1.out HTM.out HR2.out HTM.out HI.out v1 v2).mono ?_); rintro e w5 ⟨rfl, hb5⟩; rw [← HX.out]; have HB5 : Hid (Below wr.heap.size wr w5) := (below_drew wr).trans hb5; have SS5 := Lib.hid (And.intro ((HB5.out.cell (p := ⟨q.b, q.o + i, none⟩) hqb).trans ht3) (And.intro ((HB5.out.cell (p := ⟨w.heap.size, 0, none⟩) l0).trans k0) ((HB5.out.cell (p := ⟨w.heap.size, 1, none⟩) l0).trans k1))); have yc := (HB5.out.cell (p := ⟨q.B i, q.O i + j, none⟩) hqB).trans hy; have yf := (HB5.out.frozen (p := ⟨q.B i, q.O i + j, none⟩) hqB).trans hf3; have SS6 := Lib.hid (And.intro ((World.cell?_setCell_other w5 ⟨q.B i, q.O i + j, none⟩ ⟨q.b, q.o + i, none⟩ (.int .i64 x) (fun e => hne2 e.symm)).trans SS5.out.1) (And.intro ((World.cell?_setCell_other w5 ⟨q.B i, q.O i + j, none⟩ ⟨w.heap.size, 0, none⟩ (.int .i64 x) (fun e => l1 (by injection e with e1; exact e1.symm))).trans SS5.out.2.1) ((World.cell?_setCell_other w5 ⟨q.B i, q.O i + j, none⟩ ⟨w.heap.size, 1, none⟩ (.int .i64 x) (fun e => l1 (by injection e with e1; exact e1.symm))).trans SS5.out.2.2))); clear hb5))
            go_wp2
            go_roundw
            case rel =>
              have hz5 := HB5.out.size
              exact ⟨j + 1, by omega, by go_num, ((HOJ.out.same (same_below HB5.out hsj)).set hlt hltj x).congr (fun k hk j' hj' => by
                rw [HX.out]
                by_cases e1 : k = i ∧ j' = j
                · obtain ⟨rfl, rfl⟩ := e1
                  rw [if_pos ⟨rfl, rfl⟩, if_pos (.inr ⟨rfl, by omega⟩)]; rfl
                · rw [if_neg e1]
                  by_cases e2 : k < i ∨ (k = i ∧ j' < j)
                  · rw [if_pos e2, if_pos (by omega)]
                  · rw [if_neg e2, if_neg (by omega)]), (HBJ.out.trans (HB5.out.mono hwj)).setCell (show w.heap.size ≤ q.B i by omega) _, SS6.out.2.1, SS6.out.2.2, by simp [World.setCell]; omega⟩
            case measure => simp [intOf]; omega
          · have hn : j = m.length := by omega
            subst hn
            clear hoj hbj
            go_wp2
            go_roundw
            case rel => exact ⟨i + 1, by omega, by go_num, HOJ.out.congr (fun k hk j' hj' => by
              by_cases e : k < i + 1
              · rw [if_pos e, if_pos (by omega)]
              · rw [if_neg e, if_neg (by omega)]), HBJ.out, k0, k1, hsj⟩
            case measure => simp [intOf]; omega
      · have hn : i = m.length := by omega
        subst hn
        have HF := Lib.hid (HO.out.congr (Z' := gramF pS S m) (fun k h j _ => by rw [if_pos h]))
        clear hbel
        go_wp2
        go_ret
        exact ⟨_, m.length, by rw [gramM, mk_len]; rfl, (HF.out.mono (show w.heap.size ≤ w.heap.size + 1 by omega) hsz).ownM, HBEL.out⟩

end Go.Proofs.Ytkibkkdeaojjoab

namespace Go.Proofs.Ytkibkkdeaojjoab
open Go.RowKit
set_option linter.unusedVariables false

theorem pairN_comm (p : Int) (S v w : List Int) : pairN p S v w = pairN p S w v := by
  unfold pairN psum
  congr 1
  exact sm_congr fun j _ => by rw [Int.mul_comm (v.getD j 0)]
end Go.Proofs.Ytkibkkdeaojjoab

namespace Go.Proofs.Ytkibkkdeaojjoab
open Go.RowKit
set_option linter.unusedVariables false

def eF (S : List Int) (i j : Nat) : Int := fz S (2 ^ i) (2 ^ j) S.length
end Go.Proofs.Ytkibkkdeaojjoab

namespace Go.Proofs.Ytkibkkdeaojjoab
open Go.RowKit
set_option linter.unusedVariables false

/-- Of what was there, block b alone may have turned. -/
structure Only (b : Nat) (w w' : World) : Prop where
  os : w'.os = w.os
  tape : w'.tape = w.tape
  output : w'.output = w.output
  size : w.heap.size ≤ w'.heap.size
  block : ∀ k, k < w.heap.size → k ≠ b → w'.heap[k]? = w.heap[k]?

theorem Only.refl (b : Nat) (w : World) : Only b w w := ⟨rfl, rfl, rfl, Nat.le_refl _, fun _ _ _ => rfl⟩
theorem Only.trans {b : Nat} {u v w : World} (h : Only b u v) (k : Only b v w) : Only b u w :=
  ⟨k.os.trans h.os, k.tape.trans h.tape, k.output.trans h.output, Nat.le_trans h.size k.size, fun i hi hn => (k.block i (Nat.lt_of_lt_of_le hi h.size) hn).trans (h.block i hi hn)⟩
theorem Only.drew {b : Nat} {u w : World} (h : Only b u w) : Only b u w.drew := ⟨h.os, h.tape, h.output, h.size, h.block⟩
theorem Only.drewN {b : Nat} {u w : World} (h : Only b u w) (n : Nat) : Only b u (w.drewN n) := ⟨h.os, h.tape, h.output, h.size, h.block⟩
theorem Only.alloc {b : Nat} {u w : World} (h : Only b u w) (o : Obj) : Only b u (w.alloc o) :=
  h.trans ⟨rfl, rfl, rfl, by simp, fun k hk _ => Below.heap_alloc _ _ _ hk⟩
theorem Only.setCell {b : Nat} {u w : World} (h : Only b u w) {p : Addr} (hp : p.block = b ∨ u.heap.size ≤ p.block) (x : Value) : Only b u (w.setCell p x) :=
  ⟨h.os, h.tape, h.output, by simpa [World.setCell] using h.size, fun k hk hn => (Below.heap_setCell _ _ _ _ (by rcases hp with hp | hp <;> omega)).trans (h.block k hk hn)⟩
theorem Only.set (b o : Nat) (w : World) (x : Value) : Only b w (w.setCell ⟨b, o, none⟩ x) := (Only.refl b w).setCell (p := ⟨b, o, none⟩) (.inl rfl) x
theorem Only.of_below {b : Nat} {u w : World} (h : Below u.heap.size u w) : Only b u w := ⟨h.os, h.tape, h.output, h.size, fun k hk _ => h.block k hk⟩
theorem Only.step {b : Nat} {u v w : World} (h : Only b u v) (k : Below v.heap.size v w) : Only b u w := h.trans (Only.of_below k)
theorem Only.below {b B : Nat} {u w : World} (h : Only b u w) (hB : B ≤ b) (hs : B ≤ u.heap.size) : Below B u w :=
  ⟨h.os, h.tape, h.output, h.size, fun k hk => h.block k (by omega) (by omega)⟩
theorem Only.cell {b : Nat} {u w : World} (h : Only b u w) {p : Addr} (hp : p.block < u.heap.size) (hn : p.block ≠ b) : w.cell? p = u.cell? p := World.cell?_of_block (w := u) (h.block p.block hp hn)
theorem Only.frozen {b : Nat} {u w : World} (h : Only b u w) {p : Addr} (hp : p.block < u.heap.size) (hn : p.block ≠ b) : w.frozen? p = u.frozen? p := World.frozen?_of_block (w := u) (h.block p.block hp hn)

/-- Bytes that a slice leads to: none, or a row of known cells in a block before b. -/
def Bytes (w : World) (b : Nat) (a : Option Addr) (len : Nat) (zs : List Int) : Prop :=
  len = 0 ∨ ∃ xb xo : Nat, a = some ⟨xb, xo, none⟩ ∧ xb < b ∧ xb < w.heap.size ∧ ∀ i, i < len → (0 ≤ zs.getD i 0 ∧ zs.getD i 0 ≤ 255) ∧ w.cell? ⟨xb, xo + i, none⟩ = some (.int .u8 (zs.getD i 0))
theorem Bytes.only {w w' : World} {b : Nat} {a : Option Addr} {len : Nat} {zs : List Int} (h : Bytes w b a len zs) (ho : Only b w w') : Bytes w' b a len zs := by
  rcases h with h | ⟨xb, xo, ha, hb, hs, hc⟩
  · exact .inl h
  · exact .inr ⟨xb, xo, ha, hb, Nat.lt_of_lt_of_le hs ho.size, fun i hi => ⟨(hc i hi).1, (ho.cell (p := ⟨xb, xo + i, none⟩) hs (by show xb ≠ b; omega)).trans (hc i hi).2⟩⟩

/-- The source at block b: its bytes, how many are used up, its state. -/
structure SrcAt (w : World) (b : Nat) (a : Option Addr) (len cap : Nat) (zs : List Int) (at_ : Nat) (h : Int) : Prop where
  lt : b < w.heap.size
  c0 : w.cell? ⟨b, 0, none⟩ = some (.slice a len cap)
  c1 : w.cell? ⟨b, 1, none⟩ = some (.int .i64 at_)
  c2 : w.cell? ⟨b, 2, none⟩ = some (.int .u64 h)
  f1 : w.frozen? ⟨b, 1, none⟩ = false
  f2 : w.frozen? ⟨b, 2, none⟩ = false
  le : at_ ≤ len
  small : len ≤ 4096
  bytes : Bytes w b a len zs
theorem SrcAt.drewN {w : World} {b : Nat} {a : Option Addr} {len cap : Nat} {zs : List Int} {k : Nat} {h : Int} (s : SrcAt w b a len cap zs k h) (n : Nat) : SrcAt (w.drewN n) b a len cap zs k h :=
  ⟨s.lt, s.c0, s.c1, s.c2, s.f1, s.f2, s.le, s.small, s.bytes.only ((Only.refl _ _).drewN n)⟩
/-- .. in some state. -/
def Src (w : World) (b : Nat) (a : Option Addr) (len cap : Nat) (zs : List Int) : Prop := ∃ (at_ : Nat) (h : Int), SrcAt w b a len cap zs at_ h
theorem Src.below {w w' : World} {b : Nat} {a : Option Addr} {len cap : Nat} {zs : List Int} (h : Src w b a len cap zs) (k : Below w.heap.size w w') : Src w' b a len cap zs := by
  obtain ⟨n, x, lt, c0, c1, c2, f1, f2, le, sm, by_⟩ := h
  exact ⟨n, x, Nat.lt_of_lt_of_le lt k.size, (k.cell (p := ⟨b, 0, none⟩) lt).trans c0, (k.cell (p := ⟨b, 1, none⟩) lt).trans c1, (k.cell (p := ⟨b, 2, none⟩) lt).trans c2, (k.frozen (p := ⟨b, 1, none⟩) lt).trans f1, (k.frozen (p := ⟨b, 2, none⟩) lt).trans f2, le, sm, by_.only (Only.of_below k)⟩
theorem Src.alloc {w : World} {b : Nat} {a : Option Addr} {len cap : Nat} {zs : List Int} (h : Src w b a len cap zs) (o : Obj) : Src (w.alloc o) b a len cap zs :=
  h.below ((Below.refl _ _).alloc (Nat.le_refl _) o)

/-- What a draw does: a number in its range; the source alone has turned. -/
def Drawn (P : Int → Prop) (b : Nat) (a : Option Addr) (len cap : Nat) (zs : List Int) (w : World) (e : Ending) (w' : World) : Prop :=
  ∃ x : Int, e = .returned (.int .i64 x) ∧ P x ∧ Only b w w' ∧ Src w' b a len cap zs

end Go.Proofs.Ytkibkkdeaojjoab

namespace Go.Proofs.Ytkibkkdeaojjoab
open Go.RowKit
set_option linter.unusedVariables false

theorem Drawn.any {P : Int → Prop} {b : Nat} {a : Option Addr} {len cap : Nat} {zs : List Int} {w w1 w' : World} {e : Ending} (ho : Only b w w1) (h : Drawn P b a len cap zs w1 e w') : Drawn (fun _ => True) b a len cap zs w e w' := by
  obtain ⟨x, he, _, hn, hs⟩ := h
  exact ⟨x, he, trivial, ho.trans hn, hs⟩

end Go.Proofs.Ytkibkkdeaojjoab

namespace Go.Proofs.Ytkibkkdeaojjoab
open Go.RowKit
set_option linter.unusedVariables false

theorem SrcAt.drew {w : World} {b : Nat} {a : Option Addr} {len cap : Nat} {zs : List Int} {k : Nat} {h : Int} (s : SrcAt w b a len cap zs k h) : SrcAt w.drew b a len cap zs k h :=
  ⟨s.lt, s.c0, s.c1, s.c2, s.f1, s.f2, s.le, s.small, s.bytes.only (Only.refl _ _).drew⟩
/-- The code as it comes in: none, or a row of known bytes. -/
def Code8 (w : World) (a : Option Addr) (len : Nat) (zs : List Int) : Prop := Bytes w w.heap.size a len zs

/-- A made source and the rest. -/
theorem Src.step {w w' : World} {b : Nat} {a : Option Addr} {len cap : Nat} {zs : List Int} (h : Src w b a len cap zs) (k : Below w.heap.size w w') : Src w' b a len cap zs := h.below k

end Go.Proofs.Ytkibkkdeaojjoab
