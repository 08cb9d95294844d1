/-
  Spaces: what the laws' sizes, copies, comparisons and marks of a space do.
  Conditions: the list of squares is nil or a row of known cells, of at most 1048576 numbers.
  Spaces: what they are, and their checks in the program and in the model.
  Conditions: the list of squares is nil or a row of known cells, of at most 1048576 numbers.
  Products of vectors of a space, in the program and in the model; checks of lists of vectors.
  Conditions: the lists are nil or rows of known cells, of at most 1048576 numbers.
  The program's products of vectors and checks of spaces and vectors.
  Conditions: the lists are nil or rows of known cells, of at most 1048576 numbers.
  Checks of spaces and lists of vectors in the program; of vectors in the model.
  Conditions: the lists are nil or rows of known cells, of at most 1048576 numbers.
  Multivectors: sizes, codes, grades; what chapter 4 makes of them. No Go in sight.
  No conditions.
  Geometric products: signs and factors of blades, their sums, associativity, the unit. No Go in sight.
  No conditions.
  Checks of multivectors, in the program and in the model.
  Conditions: the lists are nil or rows of known cells, of at most 1048576 numbers.
  Checks of multivectors in the model; IsMultivector in both.
  Conditions: the lists are nil or rows of known cells, of at most 1048576 numbers.
  Lists and matrices of numbers that a call builds by append.
  No conditions.
-/
import Derived.Test.YtcmedhkamjclmaaQa1
import Derived.BigQuiet
import Derived.Deep.QuietTactic
import Derived.RegionTactic
import Derived.Deep.LoopGhost
import Derived.Laws.AppendOwn
import Derived.OwnWalk
namespace Go.Proofs.Ytcmedhkamjclmaa
open Go.RowKit Go.ChangeShapes Go.WideShapes
set_option linter.unusedVariables false

/-- Blocks outside lo up to hi are as they were; there may be new ones. -/
structure OffG (lo hi : Nat) (w w' : World) : Prop where
  os : w'.os = w.os
  tape : w'.tape = w.tape
  output : w'.output = w.output
  size : w.heap.size ≤ w'.heap.size
  block : ∀ k, k < w.heap.size → (k < lo ∨ hi ≤ k) → w'.heap[k]? = w.heap[k]?
theorem OffG.same {lo hi lo' hi' : Nat} {w w' : World} (h : OffG lo hi w w') (k : hi' ≤ lo ∨ hi ≤ lo') (hz : hi' ≤ w.heap.size) : Same lo' hi' w w' := fun i i0 i1 => h.block i (by omega) (by omega)
theorem OffG.below {B lo hi : Nat} {w w' : World} (h : OffG lo hi w w') (hB : B ≤ lo) (hw : lo ≤ w.heap.size) : Below B w w' := ⟨h.os, h.tape, h.output, h.size, fun k hk => h.block k (by omega) (by omega)⟩

theorem OffG.cell {lo hi : Nat} {w w' : World} (h : OffG lo hi w w') {p : Addr} (k0 : p.block < w.heap.size) (k : p.block < lo ∨ hi ≤ p.block) : w'.cell? p = w.cell? p := World.cell?_of_block (w := w) (h.block p.block k0 k)
theorem Off.cell {lo hi : Nat} {w w' : World} (h : Off lo hi w w') {p : Addr} (k : p.block < lo ∨ hi ≤ p.block) : w'.cell? p = w.cell? p := World.cell?_of_block (w := w) (h.block p.block k)
theorem below_alloc (w : World) (o : Obj) : Below w.heap.size w (w.alloc o) := (Below.refl _ _).alloc (Nat.le_refl _) o
theorem below_drew (w : World) : Below w.heap.size w w.drew := (Below.refl _ _).drew
theorem size_alloc (w : World) (o : Obj) : w.heap.size ≤ (w.alloc o).heap.size := by simp
theorem size_drew (w : World) : w.heap.size ≤ w.drew.heap.size := Nat.le_refl _
theorem lt_alloc (w : World) (o : Obj) : w.heap.size < (w.alloc o).heap.size := by simp
theorem nw0 (w : World) (x y : Value) (t : TypeId) : (w.alloc (.cells #[x, y] t)).cell? ⟨w.heap.size, 0, none⟩ = some x := by simp [go_sem]
theorem nw1 (w : World) (x y : Value) (t : TypeId) : (w.alloc (.cells #[x, y] t)).cell? ⟨w.heap.size, 1, none⟩ = some y := by simp [go_sem]

theorem szSpace_yes (p : Int) (a : Option Addr) (S : List Int) (n cap : Nat) (left : Int) (w : World) (hn : n = S.length) (h : (n : Int) ≤ left) (k : left ≤ 1048576) :
    Calls Try.prog 15 #[.agg #[.int .i64 p, .slice a S.length cap], .int .i64 left] w fun e w' => e = .returned (.int .i64 (left - n)) ∧ Below w.heap.size w w' := by
  subst hn
  go_enter Try.func15, Try.ntmps15
  go_wp2_with (go_at_call 51; (with_reducible refine (szRow_yes _ _ _ _ _ h k).mono ?_); rintro e w' ⟨rfl, rfl⟩)
  go_ret
  exact ⟨rfl, by ((repeat' (first | with_reducible exact Below.refl _ _ | (with_reducible refine Below.setCell ?_ ?_ _) | (with_reducible refine Below.alloc ?_ ?_ _) | (with_reducible refine Below.drew ?_))); all_goals (first | (simp; done) | omega | (simp; omega)))⟩
theorem szSpace_no (p : Int) (a : Option Addr) (S : List Int) (n cap : Nat) (left : Int) (w : World) (hn : n = S.length) (h : left < n) (h0 : 0 ≤ left) (k : (n : Int) ≤ 9223372036854775807) :
    Calls Try.prog 15 #[.agg #[.int .i64 p, .slice a S.length cap], .int .i64 left] w fun e w' => e = .returned (.int .i64 (-1)) ∧ Below w.heap.size w w' := by
  subst hn
  go_enter Try.func15, Try.ntmps15
  go_wp2_with (go_at_call 51; (with_reducible refine (szRow_no _ _ _ _ _ h h0 k).mono ?_); rintro e w' ⟨rfl, rfl⟩)
  go_ret
  exact ⟨rfl, by ((repeat' (first | with_reducible exact Below.refl _ _ | (with_reducible refine Below.setCell ?_ ?_ _) | (with_reducible refine Below.alloc ?_ ?_ _) | (with_reducible refine Below.drew ?_))); all_goals (first | (simp; done) | omega | (simp; omega)))⟩

/-- A copied list, wherever it lies in new memory. -/
def CopiedE (z : List Int) (w : World) (e : Ending) (w' : World) : Prop := ∃ r, e = .returned (.slice r z.length z.length) ∧ Below w.heap.size w w' ∧ OwnR w.heap.size w'.heap.size w' r z
theorem copyRowE (a : Option Addr) (zs : List Int) (cap lo hi : Nat) (w : World) (hin : RowIn lo hi w a zs) (hhi : hi ≤ w.heap.size) (hl : zs.length ≤ 1048576) :
    Calls Try.prog 18 #[.slice a zs.length cap] w (CopiedE zs w) :=
  (copyRow a zs cap lo hi w hin hhi hl).mono (fun e w' h => ⟨_, h.1, h.2.1, h.2.2.2⟩)
/-- A copied space: its squares in new memory. -/
def CopiedS (p : Int) (S : List Int) (w : World) (e : Ending) (w' : World) : Prop :=
  ∃ r, e = .returned (.agg #[.int .i64 p, .slice r S.length S.length]) ∧ Below w.heap.size w w' ∧ OwnR w.heap.size w'.heap.size w' r S
theorem OwnR.mono' {lo hi lo' hi' : Nat} {w : World} {a : Option Addr} {zs : List Int} (h : OwnR lo hi w a zs) (h0 : lo' ≤ lo) (h1 : hi ≤ hi') : OwnR lo' hi' w a zs := by
  rcases h with h | ⟨b, o, ha, k0, k1, hc⟩
  · exact .inl h
  · exact .inr ⟨b, o, ha, by omega, by omega, hc⟩
set_option maxHeartbeats 800000 in
theorem copySpace (p : Int) (a : Option Addr) (S : List Int) (cap lo hi : Nat) (w : World) (hin : RowIn lo hi w a S) (hhi : hi ≤ w.heap.size) (hl : S.length ≤ 1048576) :
    Calls Try.prog 17 #[.agg #[.int .i64 p, .slice a S.length cap]] w (CopiedS p S w) := by
  have H := Lib.hid hin
  clear hin
  go_enter Try.func17, Try.ntmps17
  go_wp2_with (go_at_call 18; (with_reducible refine (copyRow a S cap lo hi _ (H.out.below ((((Below.refl _ _).alloc (Nat.le_refl _) _).alloc (by simp) _).alloc (by simp; omega) _) hhi) (by simp; omega) hl).mono ?_); rintro e w1 ⟨rfl, hb1, hz1, ho1⟩; have HO := Lib.hid ho1; have HB := Lib.hid hb1; obtain ⟨hc, hf⟩ := bcell hb1; have hz := hb1.size; clear ho1 hz1 hb1)
  refine bodyPost_ret (v := .agg #[.int .i64 p, .slice (some ⟨w.heap.size + 1 + 1 + 1, 0, none⟩) S.length S.length]) (by simp [results, Try.results17, go_sem, hc]) rfl ⟨_, rfl, ?_, ?_⟩
  · have hb1 := HB.out
    (have hs_hb1 := hb1.size; (repeat' (first | with_reducible exact Below.refl _ _ | (with_reducible refine Below.setCell ?_ ?_ _) | (with_reducible refine Below.alloc ?_ ?_ _) | (with_reducible refine Below.drew ?_) | (with_reducible refine below_step ?_ ?_ hb1))); all_goals (first | (simp; done) | omega | (simp; omega) | (simp at hs_hb1 ⊢; omega)))
  · have h := HO.out
    simp at h
    refine OwnR.mono' (h.same (fun k k0 k1 => ?_)) (by omega) (by simp [World.setCell])
    simp only [World.setCell, Array.getElem?_modify]
    repeat (first | rfl | (rw [if_neg (by show ¬ _; omega)]))
theorem sameSpace (p : Int) (a c : Option Addr) (S : List Int) (k1 k2 lo hi lo' hi' : Nat) (w : World) (hb : RowIn lo hi w a S) (hc : RowIn lo' hi' w c S) (h1 : hi ≤ w.heap.size) (h2 : hi' ≤ w.heap.size) (hl : S.length ≤ 1048576) :
    Calls Try.prog 21 #[.agg #[.int .i64 p, .slice a S.length k1], .agg #[.int .i64 p, .slice c S.length k2]] w fun e w' => e = .returned (.bool true) ∧ Below w.heap.size w w' := by
  have HB := Lib.hid hb
  have HC := Lib.hid hc
  clear hb hc
  go_enter Try.func21, Try.ntmps21
  go_wp2_with (go_at_call 20; (with_reducible refine (sameRow a c S k1 k2 lo hi lo' hi' _ (HB.out.below (((Below.refl _ _).alloc (Nat.le_refl _) _).alloc (by simp) _) h1) (HC.out.below (((Below.refl _ _).alloc (Nat.le_refl _) _).alloc (by simp) _) h2) hl).mono ?_); rintro e w1 ⟨rfl, hq1⟩; have HQ := Lib.hid hq1; clear hq1)
  go_ret
  exact ⟨rfl, (((Below.refl _ _).alloc (Nat.le_refl _) _).alloc (by simp) _).trans (HQ.out.below _)⟩
theorem markSpace_any (p : Int) (a : Option Addr) (S : List Int) (cap lo tp : Nat) (k : Int) (w : World) (hz : OwnR lo tp w a S) (ht : tp ≤ w.heap.size) (hl : S.length ≤ 1048576) (k0 : 0 ≤ k) (k1 : k ≤ 10000000) :
    Calls Try.prog 22 #[.agg #[.int .i64 p, .slice a S.length cap], .int .i64 k] w fun e w' => e = .returned (.int .i64 (k + S.length)) ∧ OwnR lo tp w' a (markedR k S) ∧ OffG lo tp w w' := by
  have H := Lib.hid hz
  clear hz
  go_enter Try.func22, Try.ntmps22
  go_wp2_with (go_at_call 23; (with_reducible refine (markOwnR a S cap lo tp k _ (H.out.below ((Below.refl _ _).alloc (Nat.le_refl _) _) ht) hl k0 k1).mono ?_); rintro e w1 ⟨rfl, ho, hf⟩; have HO := Lib.hid ho; have HF := Lib.hid hf; clear ho hf)
  go_ret
  exact ⟨rfl, HO.out, HF.out.os, HF.out.tape, HF.out.output, by rw [HF.out.size]; simp, fun i hi0 hi1 => (HF.out.block i hi1).trans (Below.heap_alloc w _ i hi0)⟩

end Go.Proofs.Ytcmedhkamjclmaa

namespace Go.Proofs.Ytcmedhkamjclmaa
open Go.RowKit
set_option linter.unusedVariables false

def isSp (p : Int) (S : List Int) : Bool := prm p && decide (1 ≤ S.length ∧ S.length ≤ 6) && S.all (inr p)
structure Spa (p : Int) (S : List Int) : Prop where
  prime : prm p = true
  lo : 1 ≤ S.length
  hi : S.length ≤ 6
  all : S.all (inr p) = true
theorem isSp_iff {p : Int} {S : List Int} : isSp p S = true ↔ Spa p S := by
  unfold isSp
  simp only [Bool.and_eq_true, decide_eq_true_eq]
  exact ⟨fun h => ⟨h.1.1, h.1.2.1, h.1.2.2, h.2⟩, fun h => ⟨⟨h.prime, h.lo, h.hi⟩, h.all⟩⟩
theorem isSp_no {p : Int} {S : List Int} (h : ¬ Spa p S) : isSp p S = false := by
  cases e : isSp p S with
  | false => rfl
  | true => exact absurd (isSp_iff.1 e) h
theorem Spa.num {p : Int} {S : List Int} (h : Spa p S) {j : Nat} (hj : j < S.length) : 0 ≤ S.getD j 0 ∧ S.getD j 0 < p := by
  have ha := h.all
  rw [List.all_eq_true] at ha
  exact inr_iff.1 (ha _ (by rw [getD_at hj]; exact List.getElem_mem hj))

set_option maxHeartbeats 800000 in
theorem isSpace_any (p : Int) (a : Option Addr) (S : List Int) (c lo tp : Nat) (w : World) (h : RowIn lo tp w a S) (ht : tp ≤ w.heap.size) (hs : S.length ≤ 1048576) :
    Calls Try.prog 102 #[.agg #[.int .i64 p, .slice a S.length c]] w fun e w' => e = .returned (.bool (isSp p S)) ∧ Below w.heap.size w w' := by
  have H := Lib.hid h
  clear h
  by_cases h1 : 1 ≤ S.length
  · by_cases h2 : S.length ≤ 6
    · rcases code_cases p S with ⟨hp, hc⟩ | ⟨hp, ha, hc⟩ | ⟨hp, ha, hc⟩
      · have HC := Lib.hid hc
        have HV : Hid (isSp p S = false) := isSp_no (fun k => by have := k.prime; rw [hp] at this; cases this)
        clear hc hp
        go_enter Try.func102, Try.ntmps102
        go_wp2_with (go_at_call 122; (with_reducible refine (checkRow_any p a S c lo tp _ (H.out.below ((Below.refl _ _).alloc (Nat.le_refl _) _) ht) (by omega)).mono ?_); rintro e w1 ⟨rfl, rfl⟩; rw [HC.out])
        go_ret
        exact ⟨by rw [HV.out]; rfl, by ((repeat' (first | with_reducible exact Below.refl _ _ | (with_reducible refine Below.setCell ?_ ?_ _) | (with_reducible refine Below.alloc ?_ ?_ _) | (with_reducible refine Below.drew ?_))); all_goals (first | (simp; done) | omega | (simp; omega)))⟩
      · have HC := Lib.hid hc
        have HV : Hid (isSp p S = true) := isSp_iff.2 ⟨hp, h1, h2, ha⟩
        clear hc hp ha
        go_enter Try.func102, Try.ntmps102
        go_wp2_with (go_at_call 122; (with_reducible refine (checkRow_any p a S c lo tp _ (H.out.below ((Below.refl _ _).alloc (Nat.le_refl _) _) ht) (by omega)).mono ?_); rintro e w1 ⟨rfl, rfl⟩; rw [HC.out])
        go_ret
        exact ⟨by rw [HV.out]; rfl, by ((repeat' (first | with_reducible exact Below.refl _ _ | (with_reducible refine Below.setCell ?_ ?_ _) | (with_reducible refine Below.alloc ?_ ?_ _) | (with_reducible refine Below.drew ?_))); all_goals (first | (simp; done) | omega | (simp; omega)))⟩
      · have HC := Lib.hid hc
        have HV : Hid (isSp p S = false) := isSp_no (fun k => by have := k.all; rw [ha] at this; cases this)
        clear hc hp ha
        go_enter Try.func102, Try.ntmps102
        go_wp2_with (go_at_call 122; (with_reducible refine (checkRow_any p a S c lo tp _ (H.out.below ((Below.refl _ _).alloc (Nat.le_refl _) _) ht) (by omega)).mono ?_); rintro e w1 ⟨rfl, rfl⟩; rw [HC.out])
        go_ret
        exact ⟨by rw [HV.out]; rfl, by ((repeat' (first | with_reducible exact Below.refl _ _ | (with_reducible refine Below.setCell ?_ ?_ _) | (with_reducible refine Below.alloc ?_ ?_ _) | (with_reducible refine Below.drew ?_))); all_goals (first | (simp; done) | omega | (simp; omega)))⟩
    · have HV : Hid (isSp p S = false) := isSp_no (fun k => h2 k.hi)
      go_enter Try.func102, Try.ntmps102
      go_wp2
      go_ret
      exact ⟨by rw [HV.out]; rfl, by ((repeat' (first | with_reducible exact Below.refl _ _ | (with_reducible refine Below.setCell ?_ ?_ _) | (with_reducible refine Below.alloc ?_ ?_ _) | (with_reducible refine Below.drew ?_))); all_goals (first | (simp; done) | omega | (simp; omega)))⟩
  · have HV : Hid (isSp p S = false) := isSp_no (fun k => h1 k.lo)
    go_enter Try.func102, Try.ntmps102
    go_wp2
    go_ret
    exact ⟨by rw [HV.out]; rfl, by ((repeat' (first | with_reducible exact Below.refl _ _ | (with_reducible refine Below.setCell ?_ ?_ _) | (with_reducible refine Below.alloc ?_ ?_ _) | (with_reducible refine Below.drew ?_))); all_goals (first | (simp; done) | omega | (simp; omega)))⟩

set_option maxHeartbeats 800000 in
theorem l03Is_any (p : Int) (a : Option Addr) (S : List Int) (c lo tp : Nat) (w : World) (h : RowIn lo tp w a S) (ht : tp ≤ w.heap.size) (hs : S.length ≤ 1048576) :
    Calls Try.prog 65 #[.agg #[.int .i64 p, .slice a S.length c]] w fun e w' => e = .returned (.bool (isSp p S)) ∧ Below w.heap.size w w' := by
  have H := Lib.hid h
  clear h
  by_cases hp : prm p = true
  · have HP := Lib.hid hp
    clear hp
    by_cases h1 : 1 ≤ S.length ∧ S.length ≤ 6
    · have hb : (1 : Int) ≤ (S.length : Int) ∧ (S.length : Int) ≤ 6 := by omega
      by_cases ha : S.all (inr p) = true
      · have HA := Lib.hid ha
        have HV : Hid (isSp p S = true) := isSp_iff.2 ⟨HP.out, h1.1, h1.2, ha⟩
        clear ha h1
        go_enter Try.func65, Try.ntmps65
        go_wp2_with (first | (go_at_call 98; refine (l01Prime_any _ _).mono ?_; rintro e w1 ⟨rfl, rfl⟩; rw [HP.out]) | (go_at_call 99; refine (l01In_yes _ _ _ _ hb.1 hb.2).mono ?_; rintro e w1 ⟨rfl, rfl⟩) | (go_at_call 100; (with_reducible refine (numsRow p a S c lo tp _ HP.out (H.out.below ((Below.refl _ _).alloc (Nat.le_refl _) _) ht) (by omega)).mono ?_); rintro e w1 ⟨rfl, rfl⟩; rw [HA.out]))
        go_ret
        exact ⟨by rw [HV.out]; rfl, by ((repeat' (first | with_reducible exact Below.refl _ _ | (with_reducible refine Below.setCell ?_ ?_ _) | (with_reducible refine Below.alloc ?_ ?_ _) | (with_reducible refine Below.drew ?_))); all_goals (first | (simp; done) | omega | (simp; omega)))⟩
      · have HA : Hid (S.all (inr p) = false) := by show _ = _; simpa using ha
        have HV : Hid (isSp p S = false) := isSp_no (fun k => ha k.all)
        clear ha h1
        go_enter Try.func65, Try.ntmps65
        go_wp2_with (first | (go_at_call 98; refine (l01Prime_any _ _).mono ?_; rintro e w1 ⟨rfl, rfl⟩; rw [HP.out]) | (go_at_call 99; refine (l01In_yes _ _ _ _ hb.1 hb.2).mono ?_; rintro e w1 ⟨rfl, rfl⟩) | (go_at_call 100; (with_reducible refine (numsRow p a S c lo tp _ HP.out (H.out.below ((Below.refl _ _).alloc (Nat.le_refl _) _) ht) (by omega)).mono ?_); rintro e w1 ⟨rfl, rfl⟩; rw [HA.out]))
        go_ret
        exact ⟨by rw [HV.out]; rfl, by ((repeat' (first | with_reducible exact Below.refl _ _ | (with_reducible refine Below.setCell ?_ ?_ _) | (with_reducible refine Below.alloc ?_ ?_ _) | (with_reducible refine Below.drew ?_))); all_goals (first | (simp; done) | omega | (simp; omega)))⟩
    · have hb : ¬ ((1 : Int) ≤ (S.length : Int) ∧ (S.length : Int) ≤ 6) := by omega
      have HB := Lib.hid hb
      have HV : Hid (isSp p S = false) := isSp_no (fun k => h1 ⟨k.lo, k.hi⟩)
      clear h1 hb
      go_enter Try.func65, Try.ntmps65
      go_wp2_with (first | (go_at_call 98; refine (l01Prime_any _ _).mono ?_; rintro e w1 ⟨rfl, rfl⟩; rw [HP.out]) | (go_at_call 99; refine (l01In_no _ _ _ _ HB.out).mono ?_; rintro e w1 ⟨rfl, rfl⟩))
      go_ret
      exact ⟨by rw [HV.out]; rfl, by ((repeat' (first | with_reducible exact Below.refl _ _ | (with_reducible refine Below.setCell ?_ ?_ _) | (with_reducible refine Below.alloc ?_ ?_ _) | (with_reducible refine Below.drew ?_))); all_goals (first | (simp; done) | omega | (simp; omega)))⟩
  · have HP : Hid (prm p = false) := by show _ = _; simpa using hp
    have HV : Hid (isSp p S = false) := isSp_no (fun k => hp k.prime)
    clear hp
    go_enter Try.func65, Try.ntmps65
    go_wp2_with (first | (go_at_call 98; refine (l01Prime_any _ _).mono ?_; rintro e w1 ⟨rfl, rfl⟩; rw [HP.out]))
    go_ret
    exact ⟨by rw [HV.out]; rfl, by ((repeat' (first | with_reducible exact Below.refl _ _ | (with_reducible refine Below.setCell ?_ ?_ _) | (with_reducible refine Below.alloc ?_ ?_ _) | (with_reducible refine Below.drew ?_))); all_goals (first | (simp; done) | omega | (simp; omega)))⟩

end Go.Proofs.Ytcmedhkamjclmaa

namespace Go.Proofs.Ytcmedhkamjclmaa
open Go.RowKit
set_option linter.unusedVariables false

def isVec (p : Int) (n : Nat) (v : List Int) : Bool := decide (v.length = n) && v.all (inr p)
structure Vec (p : Int) (n : Nat) (v : List Int) : Prop where
  len : v.length = n
  all : v.all (inr p) = true
theorem isVec_iff {p : Int} {n : Nat} {v : List Int} : isVec p n v = true ↔ Vec p n v := by
  unfold isVec
  simp only [Bool.and_eq_true, decide_eq_true_eq]
  exact ⟨fun h => ⟨h.1, h.2⟩, fun h => ⟨h.len, h.all⟩⟩
theorem Vec.num {p : Int} {n : Nat} {v : List Int} (h : Vec p n v) {j : Nat} (hj : j < n) : 0 ≤ v.getD j 0 ∧ v.getD j 0 < p := by
  have ha := h.all
  have hl := h.len
  rw [List.all_eq_true] at ha
  exact inr_iff.1 (ha _ (by rw [getD_at (by omega : j < v.length)]; exact List.getElem_mem _))
theorem prod3 {p x y z : Int} (hp : p ≤ 13) (x0 : 0 ≤ x) (x1 : x < p) (y0 : 0 ≤ y) (y1 : y < p) (z0 : 0 ≤ z) (z1 : z < p) : 0 ≤ x * y ∧ x * y ≤ 144 ∧ 0 ≤ x * y * z ∧ x * y * z ≤ 1728 := by
  have a0 : 0 ≤ x * y := Int.mul_nonneg x0 y0
  have a1 : x * y ≤ 12 * 12 := Int.le_trans (Int.mul_le_mul_of_nonneg_right (by omega : x ≤ 12) y0) (Int.mul_le_mul_of_nonneg_left (by omega) (by omega))
  have b0 : 0 ≤ x * y * z := Int.mul_nonneg a0 z0
  have b1 : x * y * z ≤ 144 * 12 := Int.le_trans (Int.mul_le_mul_of_nonneg_right (by omega : x * y ≤ 144) z0) (Int.mul_le_mul_of_nonneg_left (by omega) (by omega))
  omega
end Go.Proofs.Ytcmedhkamjclmaa

namespace Go.Proofs.Ytcmedhkamjclmaa
open Go.RowKit
set_option linter.unusedVariables false

/-- Several spaces, one behind the other in a block. -/
def Spaces (w : World) (b N : Nat) (q : Nat → Int) (A : Nat → Option Addr) (Z : Nat → List Int) (C : Nat → Nat) (lo tp : Nat → Nat) : Prop :=
  b < w.heap.size ∧ ∀ i, i < N → w.cell? ⟨b, i * 2, none⟩ = some (.int .i64 (q i)) ∧ w.cell? ⟨b, i * 2 + 1, none⟩ = some (.slice (A i) (Z i).length (C i)) ∧ RowIn (lo i) (tp i) w (A i) (Z i) ∧ tp i ≤ w.heap.size ∧ (Z i).length ≤ 1048576
/-- The code of several spaces. -/
def SpsC (N : Nat) (q : Nat → Int) (Z : Nat → List Int) (w : World) (e : Ending) (w' : World) : Prop :=
  ∃ c : Int, e = .returned (.int .i64 c) ∧ Below w.heap.size w w' ∧ ((c = 0 ∧ ∀ i, i < N → isSp (q i) (Z i) = true) ∨ (c = 1 ∧ ∃ i, i < N ∧ isSp (q i) (Z i) = false))
def AllSp (N : Nat) (q : Nat → Int) (Z : Nat → List Int) : Prop := ∀ i, i < N → isSp (q i) (Z i) = true

set_option maxRecDepth 100000 in
set_option maxHeartbeats 1600000 in
theorem checkSpaces_any (b N cap : Nat) (q : Nat → Int) (A : Nat → Option Addr) (Z : Nat → List Int) (C lo tp : Nat → Nat) (w : World) (h : Spaces w b N q A Z C lo tp) (hN : N ≤ 2) :
    Calls Try.prog 67 #[.slice (some ⟨b, 0, none⟩) N cap] w (SpsC N q Z w) := by
  have H := Lib.hid h
  clear h
  go_enter Try.func67, Try.ntmps67
  go_wp2
  have hb0 := H.out.1
  go_loopw [7] (fun t wr => ∃ i : Nat, i ≤ N ∧ t = .int .i64 i ∧ AllSp i q Z ∧ Below w.heap.size w wr) (fun t _ => N - (intOf t).toNat)
  case atStart => exact ⟨0, Nat.zero_le _, rfl, fun i hi => by omega, Below.refl _ _⟩
  case round =>
    obtain ⟨i, hi, rfl, hA, hB⟩ := hrel
    have HA := Lib.hid hA
    have HB := Lib.hid hB
    have hsz := hB.size
    by_cases hlt : i < N
    · obtain ⟨g0, g1, hr, ht, hz⟩ := H.out.2 i hlt
      have g0' := (hB.cell (p := ⟨b, i * 2, none⟩) hb0).trans g0
      have g1' := (hB.cell (p := ⟨b, i * 2 + 1, none⟩) hb0).trans g1
      have HR := Lib.hid (hr.below hB ht)
      have hi1 : (i : Int) < (N : Int) := by omega
      clear hA hB g0 g1 hr
      by_cases hs : isSp (q i) (Z i) = true
      · have HS := Lib.hid hs
        clear hs
        go_wp2_with (go_at_call 102; (with_reducible refine (isSpace_any (q i) (A i) (Z i) (C i) (lo i) (tp i) _ (HR.out.below (below_alloc _ _) (by omega)) (by simp; omega) hz).mono ?_); rintro e w1 ⟨rfl, hb1⟩; rw [HS.out]; have HB1 := Lib.hid hb1; clear hb1)
        go_roundw
        case rel => exact ⟨i + 1, by omega, by go_num, fun j hj => by
            by_cases e : j = i
            · subst e; exact HS.out
            · exact HA.out j (by omega), by
              have hb1 := HB.out
              have hb2 := HB1.out
              exact below_step (hb1.alloc hsz _) (by simp; omega) hb2⟩
        case measure => simp [intOf]; omega
      · have HS : Hid (isSp (q i) (Z i) = false) := by show _ = _; simpa using hs
        clear hs
        go_wp2_with (go_at_call 102; (with_reducible refine (isSpace_any (q i) (A i) (Z i) (C i) (lo i) (tp i) _ (HR.out.below (below_alloc _ _) (by omega)) (by simp; omega) hz).mono ?_); rintro e w1 ⟨rfl, hb1⟩; rw [HS.out]; have HB1 := Lib.hid hb1; clear hb1)
        go_ret
        exact ⟨1, rfl, below_step (HB.out.alloc hsz _) (by simp; omega) HB1.out, .inr ⟨rfl, i, hlt, HS.out⟩⟩
    · have hin : i = N := by omega
      subst hin
      clear hA hB
      go_wp2
      go_ret
      exact ⟨0, rfl, HB.out, .inl ⟨rfl, HA.out⟩⟩

end Go.Proofs.Ytcmedhkamjclmaa

namespace Go.Proofs.Ytcmedhkamjclmaa
open Go.RowKit
set_option linter.unusedVariables false

def code1 (p : Int) (S : List Int) : Int := if isSp p S = true then 0 else 1
theorem code1_yes {p : Int} {S : List Int} (h : isSp p S = true) : code1 p S = 0 := if_pos h
theorem code1_no {p : Int} {S : List Int} (h : isSp p S = false) : code1 p S = 1 := if_neg (by simp [h])
theorem checkSp1 (p : Int) (a : Option Addr) (S : List Int) (c lo tp cap b : Nat) (W : World) (T : TypeId) (hb' : b = W.heap.size) (hS : RowIn lo tp W a S) (tS : tp ≤ W.heap.size) (sS : S.length ≤ 1048576) :
    Calls Try.prog 67 #[.slice (some ⟨b, 0, none⟩) 1 cap] (W.alloc (.cells #[.int .i64 p, .slice a S.length c] T)) fun e w' => e = .returned (.int .i64 (code1 p S)) ∧ Below (W.alloc (.cells #[.int .i64 p, .slice a S.length c] T)).heap.size (W.alloc (.cells #[.int .i64 p, .slice a S.length c] T)) w' := by
  subst hb'
  refine (checkSpaces_any W.heap.size 1 cap (fun _ => p) (fun _ => a) (fun _ => S) (fun _ => c) (fun _ => lo) (fun _ => tp) _ ⟨lt_alloc W _, fun i hi => ?_⟩ (by omega)).mono ?_
  · have : i = 0 := by omega
    subst this
    exact ⟨nw0 W _ _ T, nw1 W _ _ T, hS.below (below_alloc W _) tS, by simp; omega, sS⟩
  · rintro e w' ⟨c', rfl, hb, h⟩
    refine ⟨?_, hb⟩
    rcases h with ⟨rfl, h⟩ | ⟨rfl, i, hi, h⟩
    · rw [code1_yes (h 0 (by omega))]
    · rw [code1_no h]
theorem all_take_vec {f : List Int → Bool} {m : List (List Int)} {i : Nat} (hi : i < m.length) : (m.take (i + 1)).all f = ((m.take i).all f && f (rw' m i)) := by
  rw [List.take_succ_eq_append_getElem hi, List.all_append]
  simp [rw', hi]
theorem all_false_vec {f : List Int → Bool} {m : List (List Int)} {i : Nat} (hi : i < m.length) (h : f (rw' m i) = false) : m.all f = false := by
  rw [List.all_eq_false]
  exact ⟨rw' m i, mem_row hi, by simp [h]⟩

end Go.Proofs.Ytcmedhkamjclmaa

namespace Go.Proofs.Ytcmedhkamjclmaa
open Go.RowKit
set_option linter.unusedVariables false

/-- How many blades there are. -/
def bl (S : List Int) : Nat := 2 ^ S.length
theorem bl_le {S : List Int} (h : S.length ≤ 6) : bl S ≤ 64 := Nat.pow_le_pow_right (by decide) h
theorem bl_pos (S : List Int) : 0 < bl S := Nat.two_pow_pos _
def isMv (p : Int) (S x : List Int) : Bool := isVec p (bl S) x
def codeMv (p : Int) (S : List Int) (m : List (List Int)) : Int := if isSp p S = true then (if m.all (isMv p S) = true then 0 else 2) else 1
theorem codeMv_sp {p : Int} {S : List Int} {m : List (List Int)} (h : isSp p S = false) : codeMv p S m = 1 := if_neg (by simp [h])
theorem codeMv_ok {p : Int} {S : List Int} {m : List (List Int)} (h : isSp p S = true) (k : m.all (isMv p S) = true) : codeMv p S m = 0 := by unfold codeMv; rw [if_pos h, if_pos k]
theorem codeMv_no {p : Int} {S : List Int} {m : List (List Int)} (h : isSp p S = true) (k : m.all (isMv p S) = false) : codeMv p S m = 2 := by unfold codeMv; rw [if_pos h, if_neg (by simp [k])]
theorem codeMv_cases (p : Int) (S : List Int) (m : List (List Int)) : (isSp p S = false ∧ codeMv p S m = 1) ∨ (isSp p S = true ∧ m.all (isMv p S) = true ∧ codeMv p S m = 0) ∨ (isSp p S = true ∧ m.all (isMv p S) = false ∧ codeMv p S m = 2) := by
  by_cases h : isSp p S = true
  · by_cases k : m.all (isMv p S) = true
    · exact .inr (.inl ⟨h, k, codeMv_ok h k⟩)
    · have k' : m.all (isMv p S) = false := by simpa using k
      exact .inr (.inr ⟨h, k', codeMv_no h k'⟩)
  · have h' : isSp p S = false := by simpa using h
    exact .inl ⟨h', codeMv_sp h'⟩
theorem mv_all1 (f : List Int → Bool) (x : List Int) : [x].all f = f x := by simp
theorem mv_all2 (f : List Int → Bool) (x y : List Int) : [x, y].all f = (f x && f y) := by simp

/-- The grade of a blade. -/
def gr (m : Nat) : Nat := m % 2 + m / 2 % 2 + m / 4 % 2 + m / 8 % 2 + m / 16 % 2 + m / 32 % 2
theorem gr_step {m : Nat} (h : m < 64) : gr m = m % 2 + gr (m / 2) := by unfold gr; omega
theorem gr_le (m : Nat) : gr m ≤ 6 := by unfold gr; omega
theorem gr_zero : gr 0 = 0 := rfl
def sgF (p : Int) (c : Nat → Nat) (x : List Int) (j : Nat) : Int := if c (gr j) % 2 = 1 then (p - x.getD j 0) % p else x.getD j 0
end Go.Proofs.Ytcmedhkamjclmaa

namespace Go.Proofs.Ytcmedhkamjclmaa
open Go.RowKit
set_option linter.unusedVariables false

/-- A sign. -/
def eps (k : Nat) : Int := if k % 2 = 1 then -1 else 1
theorem eps_cases (k : Nat) : eps k = 1 ∨ eps k = -1 := by unfold eps; split <;> simp
theorem eps_sq (k : Nat) : eps k * eps k = 1 := by rcases eps_cases k with h | h <;> rw [h] <;> rfl
/-- What the basis vector i of a blade b brings with it behind the blade a. -/
def gi (S : List Int) (a b i : Nat) : Int := if b / 2 ^ i % 2 = 1 then eps (gr (a / 2 ^ (i + 1))) * (if a / 2 ^ i % 2 = 1 then S.getD i 0 else 1) else 1
/-- The factor of the product of two blades, over the first n basis vectors of the second one. -/
def fz (S : List Int) (a b : Nat) : Nat → Int
  | 0 => 1
  | n + 1 => fz S a b n * gi S a b n
theorem bit_add {b i n : Nat} (h : i < n) : (b + 2 ^ n) / 2 ^ i % 2 = b / 2 ^ i % 2 := by
  obtain ⟨d, rfl⟩ : ∃ d, n = i + 1 + d := ⟨n - i - 1, by omega⟩
  have e : (2 : Nat) ^ (i + 1 + d) = 2 ^ d * 2 * 2 ^ i := by rw [Nat.pow_add, Nat.pow_succ, Nat.mul_comm (2 ^ i * 2), Nat.mul_comm (2 ^ i), Nat.mul_assoc]
  rw [e, Nat.add_mul_div_right _ _ (Nat.two_pow_pos i)]
  omega
theorem fz_add (S : List Int) (a b N : Nat) : ∀ n, n ≤ N → fz S a (b + 2 ^ N) n = fz S a b n
  | 0, _ => rfl
  | n + 1, h => by simp only [fz]; rw [fz_add S a b N n (by omega)]; unfold gi; rw [bit_add (by omega)]

/-- The number at c of the product, over the integers. -/
def gpz (S : List Int) (n : Nat) (x y : Nat → Int) (c : Nat) : Int := sm (2 ^ n) fun a => x a * fz S a (a ^^^ c) n * y (a ^^^ c)
theorem xor_back (a c : Nat) : a ^^^ (a ^^^ c) = c := by rw [← Nat.xor_assoc, Nat.xor_self, Nat.zero_xor]
theorem sm_congr_p {p : Int} {n : Nat} {f g : Nat → Int} (h : ∀ j, j < n → f j % p = g j % p) : sm n f % p = sm n g % p := by
  rw [← sm_mod n p f, ← sm_mod n p g, sm_congr h]
theorem em_l (a b p : Int) : (a % p * b) % p = (a * b) % p := by rw [Int.mul_emod, Int.emod_emod, ← Int.mul_emod]
theorem em_r (a b p : Int) : (a * (b % p)) % p = (a * b) % p := by rw [Int.mul_emod, Int.emod_emod, ← Int.mul_emod]
theorem em_sub (a p : Int) : (p - a % p) % p = (-a) % p := by
  rw [Int.sub_emod, Int.emod_self, Int.emod_emod, ← Int.zero_sub a, Int.sub_emod 0 a, Int.zero_emod]
/-- The geometric product of two lists of numbers. -/
def prodF (p : Int) (S x y : List Int) (c : Nat) : Int := gpz S S.length (fun j => x.getD j 0) (fun j => y.getD j 0) c % p
/-- The factor, as a number of the prime. -/
def fm (p : Int) (S : List Int) (a b n : Nat) : Int := fz S a b n % p
theorem fm_bd {p : Int} (hp : 0 < p) (S : List Int) (a b n : Nat) : 0 ≤ fm p S a b n ∧ fm p S a b n < p := ⟨Int.emod_nonneg _ (by omega), Int.emod_lt_of_pos _ hp⟩
theorem fm_zero {p : Int} (hp : 1 < p) (S : List Int) (a b : Nat) : fm p S a b 0 = 1 := Int.emod_eq_of_lt (by show (0 : Int) ≤ 1; decide) hp
theorem fm_skip (p : Int) (S : List Int) {a b n : Nat} (h : b / 2 ^ n % 2 = 0) : fm p S a b (n + 1) = fm p S a b n := by
  show fz S a b n * gi S a b n % p = fz S a b n % p
  unfold gi
  rw [if_neg (by omega), Int.mul_one]
theorem fm_add (p : Int) (S : List Int) (a b n : Nat) : fm p S a (b + 2 ^ n) n = fm p S a b n := by
  unfold fm; rw [fz_add S a b n n (Nat.le_refl _)]
/-- What the program multiplies by. -/
def fi (p : Int) (S : List Int) (a i : Nat) : Int := if a / 2 ^ i % 2 = 1 then (if gr (a / 2 ^ (i + 1)) % 2 = 1 then p - 1 else 1) * S.getD i 0 % p else (if gr (a / 2 ^ (i + 1)) % 2 = 1 then p - 1 else 1)
theorem fm_step (p : Int) (S : List Int) {a b n : Nat} (h : b / 2 ^ n % 2 = 1) : fm p S a b (n + 1) = fm p S a b n * fi p S a n % p := by
  show fz S a b n * gi S a b n % p = fz S a b n % p * fi p S a n % p
  rw [em_l]
  unfold gi fi eps
  rw [if_pos h]
  have e : ∀ s : Int, (p - 1) * s = -1 * s + p * s := fun s => by rw [Int.sub_mul]; omega
  by_cases h1 : gr (a / 2 ^ (n + 1)) % 2 = 1 <;> by_cases h2 : a / 2 ^ n % 2 = 1
  · rw [if_pos h1, if_pos h1, if_pos h2, if_pos h2, em_r, ← em_r _ ((p - 1) * _), e, Int.add_mul_emod_self_left, em_r]
  · rw [if_pos h1, if_pos h1, if_neg h2, if_neg h2, ← em_r _ (p - 1), Int.sub_emod_left, em_r]; rfl
  · rw [if_neg h1, if_neg h1, if_pos h2, if_pos h2, em_r]
  · rw [if_neg h1, if_neg h1, if_neg h2, if_neg h2]; congr 1
/-- What the model makes of it. -/
def fo (p : Int) (S : List Int) (a i : Nat) (o : Int) : Int := if a / 2 ^ i % 2 = 1 then (if gr (a / 2 ^ (i + 1)) % 2 = 1 then (p - o) % p else o) * S.getD i 0 % p else (if gr (a / 2 ^ (i + 1)) % 2 = 1 then (p - o) % p else o)
theorem fm_model (p : Int) (S : List Int) {a b n : Nat} (h : b / 2 ^ n % 2 = 1) : fo p S a n (fm p S a b n) = fm p S a b (n + 1) := by
  show _ = fz S a b n * gi S a b n % p
  unfold gi fo eps fm
  rw [if_pos h]
  by_cases h1 : gr (a / 2 ^ (n + 1)) % 2 = 1 <;> by_cases h2 : a / 2 ^ n % 2 = 1
  · rw [if_pos h1, if_pos h1, if_pos h2, if_pos h2, em_l, ← em_l, em_sub, em_l]; congr 1; rw [← Int.mul_assoc]; congr 1; omega
  · rw [if_pos h1, if_pos h1, if_neg h2, if_neg h2, em_sub]; congr 1; omega
  · rw [if_neg h1, if_neg h1, if_pos h2, if_pos h2, em_l, Int.one_mul]
  · rw [if_neg h1, if_neg h1, if_neg h2, if_neg h2]; congr 1; omega

/-- One product of three numbers. -/
def tm (p : Int) (S x y : List Int) (c a : Nat) : Int := x.getD a 0 * fm p S a (a ^^^ c) S.length * y.getD (a ^^^ c) 0
theorem tm_sum (p : Int) (S x y : List Int) (c : Nat) : sm (bl S) (tm p S x y c) % p = prodF p S x y c := by
  apply sm_congr_p
  intro a _
  unfold tm fm
  rw [Int.mul_assoc, Int.mul_assoc, ← em_r, em_l, em_r]

end Go.Proofs.Ytcmedhkamjclmaa

namespace Go.Proofs.Ytcmedhkamjclmaa
open Go.RowKit
set_option linter.unusedVariables false

set_option maxHeartbeats 800000 in
theorem blades_any (p : Int) (a : Option Addr) (S : List Int) (c : Nat) (w : World) (h : S.length ≤ 6) :
    Calls Try.prog 92 #[.agg #[.int .i64 p, .slice a S.length c]] w fun e w' => e = .returned (.int .i64 (bl S)) ∧ Below w.heap.size w w' := by
  have hb : S.length = 0 ∨ S.length = 1 ∨ S.length = 2 ∨ S.length = 3 ∨ S.length = 4 ∨ S.length = 5 ∨ S.length = 6 := by omega
  unfold bl
  obtain ⟨n, hn⟩ : ∃ n, n = S.length := ⟨_, rfl⟩
  rw [← hn] at hb ⊢
  clear hn h
  rcases hb with rfl | rfl | rfl | rfl | rfl | rfl | rfl <;>
  · go_enter Try.func92, Try.ntmps92
    go_wp2
    go_ret
    exact ⟨by first | rfl | simp, by ((repeat' (first | with_reducible exact Below.refl _ _ | (with_reducible refine Below.setCell ?_ ?_ _) | (with_reducible refine Below.alloc ?_ ?_ _) | (with_reducible refine Below.drew ?_))); all_goals (first | (simp; done) | omega | (simp; omega)))⟩
set_option maxHeartbeats 800000 in
theorem l04Size_any (p : Int) (a : Option Addr) (S : List Int) (c : Nat) (w : World) (h : S.length ≤ 6) :
    Calls Try.prog 118 #[.agg #[.int .i64 p, .slice a S.length c]] w fun e w' => e = .returned (.int .i64 (bl S)) ∧ Below w.heap.size w w' := by
  have hb : S.length = 0 ∨ S.length = 1 ∨ S.length = 2 ∨ S.length = 3 ∨ S.length = 4 ∨ S.length = 5 ∨ S.length = 6 := by omega
  unfold bl
  obtain ⟨n, hn⟩ : ∃ n, n = S.length := ⟨_, rfl⟩
  rw [← hn] at hb ⊢
  clear hn h
  rcases hb with rfl | rfl | rfl | rfl | rfl | rfl | rfl <;>
  · go_enter Try.func118, Try.ntmps118
    go_wp2
    go_ret
    exact ⟨by first | rfl | simp, by ((repeat' (first | with_reducible exact Below.refl _ _ | (with_reducible refine Below.setCell ?_ ?_ _) | (with_reducible refine Below.alloc ?_ ?_ _) | (with_reducible refine Below.drew ?_))); all_goals (first | (simp; done) | omega | (simp; omega)))⟩

set_option maxRecDepth 100000 in
set_option maxHeartbeats 1600000 in
theorem checkMultivectors_any (p : Int) (aS : Option Addr) (S : List Int) (cS loS tpS : Nat) (am : Option Addr) (m : List (List Int)) (cm lom tpm : Nat) (w : World)
    (hS : RowIn loS tpS w aS S) (tS : tpS ≤ w.heap.size) (sS : S.length ≤ 1048576) (hm : MatIn lom tpm w am m) (tm : tpm ≤ w.heap.size) (sm : m.length ≤ 1048576) (sr : ∀ i, i < m.length → (rw' m i).length ≤ 1048576) :
    Calls Try.prog 61 #[.agg #[.int .i64 p, .slice aS S.length cS], .slice am m.length cm] w fun e w' => e = .returned (.int .i64 (codeMv p S m)) ∧ Below w.heap.size w w' := by
  have HS := Lib.hid hS
  have HM := Lib.hid hm
  have HT := Lib.hid sr
  clear hS hm sr
  by_cases h : isSp p S = true
  · have HI := Lib.hid h
    have HC := Lib.hid (code1_yes h)
    have h6 := (isSp_iff.1 h).hi
    have hbl := bl_le h6
    clear h
    go_enter Try.func61, Try.ntmps61
    go_wp2_with (go_at_call 67; (with_reducible refine (checkSp1 p aS S cS loS tpS _ (w.heap.size + 1) _ _ (by simp) (HS.out.below (below_alloc _ _) tS) (by simp; omega) sS).mono ?_); rintro e w2 ⟨rfl, hb2⟩; rw [HC.out]; have HB := Lib.hid hb2; clear hb2)
    have HBW : Hid (Below w.heap.size w w2) := below_step (((below_alloc _ _)).alloc (by simp) _) (by simp; omega) HB.out
    have HC0 := Lib.hid ((HB.out.cell (p := ⟨w.heap.size, 0, none⟩) (by simp; omega)).trans ((World.cell?_alloc_old _ _ _ (by simp)).trans (nw0 w _ _ _)))
    have HC1 := Lib.hid ((HB.out.cell (p := ⟨w.heap.size, 1, none⟩) (by simp; omega)).trans ((World.cell?_alloc_old _ _ _ (by simp)).trans (nw1 w _ _ _)))
    have hwz := HBW.out.size
    have hwlt : w.heap.size < w2.heap.size := by have := HB.out.size; simp at this; omega
    have HM2 := Lib.hid (HM.out.below HBW.out tm)
    clear HB
    go_loopw [16] (fun t wr => ∃ i : Nat, i ≤ m.length ∧ t = .int .i64 i ∧ (m.take i).all (isMv p S) = true ∧ Below w2.heap.size w2 wr) (fun t _ => m.length - (intOf t).toNat)
    case atStart => exact ⟨0, Nat.zero_le _, rfl, rfl, Below.refl _ _⟩
    case round =>
      obtain ⟨i, hi, rfl, hA, hbel⟩ := hrel
      have HA := Lib.hid hA
      have HBEL := Lib.hid hbel
      have hwz2 := hbel.size
      have l0 : w.heap.size < wr.heap.size := by omega
      have hc0 := (hbel.cell (p := ⟨w.heap.size, 0, none⟩) hwlt).trans HC0.out
      have hc1 := (hbel.cell (p := ⟨w.heap.size, 1, none⟩) hwlt).trans HC1.out
      clear hA
      by_cases hlt : i < m.length
      · obtain ⟨b1, o1, r, c1, ha1, _, hb1, hr, hrow⟩ := (HM2.out.below hbel (by omega)).row hlt
        subst ha1
        have hl := HT.out i hlt
        have HR := Lib.hid hrow
        have hi1 : (i : Int) < (m.length : Int) := by omega
        clear hrow hbel
        by_cases hv : isMv p S (rw' m i) = true
        · have HV := Lib.hid hv
          have HVV : Hid ((decide ((rw' m i).length = bl S) && (rw' m i).all (inr p)) = true) := hv
          clear hv
          go_wp2
          go_region_held3 (fun w' => w'.cell? ⟨w.heap.size, 0, none⟩ = some (.int .i64 p) ∧ w'.cell? ⟨w.heap.size, 1, none⟩ = some (.slice aS S.length cS)) (first | go_keep | exact SS3.out) (first | (go_at_call 92; (with_reducible refine (blades_any p aS S cS wr.drew h6).mono ?_); rintro e w3 ⟨rfl, hb3⟩; have HB3 : Hid (Below wr.heap.size wr w3) := (below_drew wr).trans hb3; have SS3 := Lib.hid (And.intro ((HB3.out.cell (p := ⟨w.heap.size, 0, none⟩) l0).trans hc0) ((HB3.out.cell (p := ⟨w.heap.size, 1, none⟩) l0).trans hc1)); clear hb3) | (go_at_call 91; (with_reducible refine (isVector_any p r (rw' m i) c1 (bl S) lom tpm _ (isSp_iff.1 HI.out).prime (HR.out.below HB3.out (by omega)) hl (by omega)).mono ?_); rintro e w4 ⟨rfl, rfl⟩; rw [HVV.out]))
          go_wp2
          go_roundw
          case rel => exact ⟨i + 1, by omega, by go_num, by rw [all_take_vec hlt, HA.out, HV.out]; rfl, below_step HBEL.out hwz2 HB3.out⟩
          case measure => simp [intOf]; omega
        · have HV : Hid (isMv p S (rw' m i) = false) := by show _ = _; simpa using hv
          have HVV : Hid ((decide ((rw' m i).length = bl S) && (rw' m i).all (inr p)) = false) := HV.out
          have HCV := Lib.hid (codeMv_no HI.out (all_false_vec hlt HV.out))
          clear hv
          go_wp2
          go_region_held3 (fun w' => w'.cell? ⟨w.heap.size, 0, none⟩ = some (.int .i64 p) ∧ w'.cell? ⟨w.heap.size, 1, none⟩ = some (.slice aS S.length cS)) (first | go_keep | exact SS3.out) (first | (go_at_call 92; (with_reducible refine (blades_any p aS S cS wr.drew h6).mono ?_); rintro e w3 ⟨rfl, hb3⟩; have HB3 : Hid (Below wr.heap.size wr w3) := (below_drew wr).trans hb3; have SS3 := Lib.hid (And.intro ((HB3.out.cell (p := ⟨w.heap.size, 0, none⟩) l0).trans hc0) ((HB3.out.cell (p := ⟨w.heap.size, 1, none⟩) l0).trans hc1)); clear hb3) | (go_at_call 91; (with_reducible refine (isVector_any p r (rw' m i) c1 (bl S) lom tpm _ (isSp_iff.1 HI.out).prime (HR.out.below HB3.out (by omega)) hl (by omega)).mono ?_); rintro e w4 ⟨rfl, rfl⟩; rw [HVV.out]))
          go_wp2
          go_ret
          exact ⟨by rw [HCV.out]; rfl, HBW.out.trans ((below_step HBEL.out hwz2 HB3.out).mono hwz)⟩
      · have HCV : Hid (codeMv p S m = 0) := codeMv_ok HI.out (by have h := HA.out; rwa [List.take_of_length_le (by omega)] at h)
        clear hbel
        go_wp2
        go_ret
        exact ⟨by rw [HCV.out]; rfl, HBW.out.trans (HBEL.out.mono hwz)⟩
  · have HI : Hid (isSp p S = false) := by show _ = _; simpa using h
    have HC := Lib.hid (code1_no HI.out)
    have HCV : Hid (codeMv p S m = 1) := codeMv_sp HI.out
    clear h
    go_enter Try.func61, Try.ntmps61
    go_wp2_with (go_at_call 67; (with_reducible refine (checkSp1 p aS S cS loS tpS _ (w.heap.size + 1) _ _ (by simp) (HS.out.below (below_alloc _ _) tS) (by simp; omega) sS).mono ?_); rintro e w2 ⟨rfl, hb2⟩; rw [HC.out]; have HB := Lib.hid hb2; clear hb2)
    go_ret
    exact ⟨by rw [HCV.out]; rfl, below_step (((below_alloc _ _)).alloc (by simp) _) (by simp; omega) HB.out⟩

theorem mv_two {W : World} {lo tp lo' tp' cv cu b : Nat} {a a' : Option Addr} {v u : List Int} (hb' : b = W.heap.size) (hv : RowIn lo tp W a v) (tv : tp ≤ W.heap.size) (hu : RowIn lo' tp' W a' u) (tu : tp' ≤ W.heap.size) (T : TypeId) :
    MatIn 0 (W.alloc (.cells #[.slice a v.length cv, .slice a' u.length cu] T)).heap.size (W.alloc (.cells #[.slice a v.length cv, .slice a' u.length cu] T)) (some ⟨b, 0, none⟩) [v, u] := by
  subst hb'
  refine .inr ⟨W.heap.size, 0, rfl, Nat.zero_le _, lt_alloc W _, fun i hi => ?_⟩
  have hb := below_alloc W (.cells #[.slice a v.length cv, .slice a' u.length cu] T)
  match i, hi with
  | 0, _ => exact ⟨a, cv, nw0 W _ _ T, (hv.below hb tv).mono (Nat.zero_le _) (Nat.le_trans tv (size_alloc W _))⟩
  | 1, _ => exact ⟨a', cu, nw1 W _ _ T, (hu.below hb tu).mono (Nat.zero_le _) (Nat.le_trans tu (size_alloc W _))⟩
theorem mv_one {W : World} {lo tp cv b : Nat} {a : Option Addr} {v : List Int} (hb' : b = W.heap.size) (hv : RowIn lo tp W a v) (tv : tp ≤ W.heap.size) (T : TypeId) :
    MatIn 0 (W.alloc (.cells #[.slice a v.length cv] T)).heap.size (W.alloc (.cells #[.slice a v.length cv] T)) (some ⟨b, 0, none⟩) [v] := by
  subst hb'
  refine .inr ⟨W.heap.size, 0, rfl, Nat.zero_le _, lt_alloc W _, fun i hi => ?_⟩
  have hb := below_alloc W (.cells #[.slice a v.length cv] T)
  match i, hi with
  | 0, _ => exact ⟨a, cv, by simp [go_sem, rw'], (hv.below hb tv).mono (Nat.zero_le _) (Nat.le_trans tv (size_alloc W _))⟩

theorem checkM2 (p : Int) (aS : Option Addr) (S : List Int) (cS loS tpS : Nat) (av : Option Addr) (v : List Int) (cv lov tpv : Nat) (au : Option Addr) (u : List Int) (cu lou tpu b cap : Nat) (W : World) (T : TypeId) (hb : b = W.heap.size)
    (hS : RowIn loS tpS W aS S) (tS : tpS ≤ W.heap.size) (sS : S.length ≤ 1048576) (hv : RowIn lov tpv W av v) (tv : tpv ≤ W.heap.size) (sv : v.length ≤ 1048576) (hu : RowIn lou tpu W au u) (tu : tpu ≤ W.heap.size) (su : u.length ≤ 1048576) :
    Calls Try.prog 61 #[.agg #[.int .i64 p, .slice aS S.length cS], .slice (some ⟨b, 0, none⟩) 2 cap] (W.alloc (.cells #[.slice av v.length cv, .slice au u.length cu] T)) fun e w' => e = .returned (.int .i64 (codeMv p S [v, u])) ∧ Below (W.alloc (.cells #[.slice av v.length cv, .slice au u.length cu] T)).heap.size (W.alloc (.cells #[.slice av v.length cv, .slice au u.length cu] T)) w' :=
  checkMultivectors_any p aS S cS loS tpS (some ⟨b, 0, none⟩) [v, u] cap 0 _ _ (hS.below (below_alloc W _) tS) (Nat.le_trans tS (size_alloc W _)) sS (mv_two hb hv tv hu tu T) (Nat.le_refl _) (by show 2 ≤ 1048576; omega) (fun i hi => by match i, hi with | 0, _ => exact sv | 1, _ => exact su)

end Go.Proofs.Ytcmedhkamjclmaa

namespace Go.Proofs.Ytcmedhkamjclmaa
open Go.RowKit
set_option linter.unusedVariables false

def mvB (p : Int) (S x : List Int) : Bool := isSp p S && isMv p S x
set_option maxHeartbeats 1600000 in
theorem l04Is_any (p : Int) (aS : Option Addr) (S : List Int) (cS loS tpS : Nat) (av : Option Addr) (v : List Int) (cv lov tpv : Nat) (w : World)
    (hS : RowIn loS tpS w aS S) (tS : tpS ≤ w.heap.size) (sS : S.length ≤ 1048576) (hv : RowIn lov tpv w av v) (tv : tpv ≤ w.heap.size) (sv : v.length ≤ 1048576) :
    Calls Try.prog 86 #[.agg #[.int .i64 p, .slice aS S.length cS], .slice av v.length cv] w fun e w' => e = .returned (.bool (mvB p S v)) ∧ Below w.heap.size w w' := by
  have HS := Lib.hid hS
  have HV := Lib.hid hv
  clear hS hv
  by_cases h : isSp p S = true
  · have HI := Lib.hid h
    have h6 := (isSp_iff.1 h).hi
    have HP := Lib.hid (isSp_iff.1 h).prime
    clear h
    by_cases hl : v.length = bl S
    · have e1 : ((v.length : Int) == (bl S : Int)) = true := by simp [hl]
      have HR : Hid (mvB p S v = v.all (inr p)) := by show _ = _; unfold mvB isMv isVec; rw [HI.out]; simp [hl]
      rw [HR.out]
      clear hl
      by_cases ha : v.all (inr p) = true
      · have HA := Lib.hid ha
        clear ha
        go_enter Try.func86, Try.ntmps86
        go_wp2_with (first | (go_at_call 65; go_loud ((with_reducible refine (l03Is_any p aS S cS loS tpS _ (HS.out.below (below_alloc _ _) tS) (by simp; omega) sS).mono ?_); rintro e w1 ⟨rfl, hb1⟩; rw [HI.out]; have HB1 := Lib.hid hb1; have hz1 := hb1.size; have hc0 := (hb1.cell (p := ⟨w.heap.size, 0, none⟩) (by simp)).trans (nw0 w _ _ _); have hc1 := (hb1.cell (p := ⟨w.heap.size, 1, none⟩) (by simp)).trans (nw1 w _ _ _); clear hb1)) | (go_at_call 118; go_loud ((with_reducible refine (l04Size_any p aS S cS _ h6).mono ?_); rintro e w2 ⟨rfl, hb2⟩; have HB2 := Lib.hid hb2; have hz2 := hb2.size; have hd0 := (hb2.cell (p := ⟨w.heap.size, 0, none⟩) (by simp at hz1; show w.heap.size < _; omega)).trans hc0; have hd1 := (hb2.cell (p := ⟨w.heap.size, 1, none⟩) (by simp at hz1; show w.heap.size < _; omega)).trans hc1; clear hb2)) | (go_at_call 100; go_loud ((with_reducible refine (numsRow p av v cv lov tpv _ HP.out ((HV.out.below ((below_alloc _ _).trans (HB1.out.mono (by simp))) tv).below HB2.out (by simp at hz1; omega)) (by omega)).mono ?_); rintro e w3 ⟨rfl, rfl⟩; rw [HA.out])))
        go_ret
        exact ⟨by rw [HA.out]; rfl, below_step (below_step (below_alloc _ _) (by simp) HB1.out) (by simp at hz1; omega) HB2.out⟩
      · have HA : Hid (v.all (inr p) = false) := by show _ = _; simpa using ha
        clear ha
        go_enter Try.func86, Try.ntmps86
        go_wp2_with (first | (go_at_call 65; go_loud ((with_reducible refine (l03Is_any p aS S cS loS tpS _ (HS.out.below (below_alloc _ _) tS) (by simp; omega) sS).mono ?_); rintro e w1 ⟨rfl, hb1⟩; rw [HI.out]; have HB1 := Lib.hid hb1; have hz1 := hb1.size; have hc0 := (hb1.cell (p := ⟨w.heap.size, 0, none⟩) (by simp)).trans (nw0 w _ _ _); have hc1 := (hb1.cell (p := ⟨w.heap.size, 1, none⟩) (by simp)).trans (nw1 w _ _ _); clear hb1)) | (go_at_call 118; go_loud ((with_reducible refine (l04Size_any p aS S cS _ h6).mono ?_); rintro e w2 ⟨rfl, hb2⟩; have HB2 := Lib.hid hb2; have hz2 := hb2.size; have hd0 := (hb2.cell (p := ⟨w.heap.size, 0, none⟩) (by simp at hz1; show w.heap.size < _; omega)).trans hc0; have hd1 := (hb2.cell (p := ⟨w.heap.size, 1, none⟩) (by simp at hz1; show w.heap.size < _; omega)).trans hc1; clear hb2)) | (go_at_call 100; go_loud ((with_reducible refine (numsRow p av v cv lov tpv _ HP.out ((HV.out.below ((below_alloc _ _).trans (HB1.out.mono (by simp))) tv).below HB2.out (by simp at hz1; omega)) (by omega)).mono ?_); rintro e w3 ⟨rfl, rfl⟩; rw [HA.out])))
        go_ret
        exact ⟨by rw [HA.out]; rfl, below_step (below_step (below_alloc _ _) (by simp) HB1.out) (by simp at hz1; omega) HB2.out⟩
    · have e1 : ((v.length : Int) == (bl S : Int)) = false := by simp; omega
      have e2 : decide ((v.length : Int) = (bl S : Int)) = false := by simp; omega
      have HR : Hid (mvB p S v = false) := by show _ = _; unfold mvB isMv isVec; simp [hl]
      rw [HR.out]
      clear hl
      go_enter Try.func86, Try.ntmps86
      go_wp2_with (first | (go_at_call 65; go_loud ((with_reducible refine (l03Is_any p aS S cS loS tpS _ (HS.out.below (below_alloc _ _) tS) (by simp; omega) sS).mono ?_); rintro e w1 ⟨rfl, hb1⟩; rw [HI.out]; have HB1 := Lib.hid hb1; have hz1 := hb1.size; have hc0 := (hb1.cell (p := ⟨w.heap.size, 0, none⟩) (by simp)).trans (nw0 w _ _ _); have hc1 := (hb1.cell (p := ⟨w.heap.size, 1, none⟩) (by simp)).trans (nw1 w _ _ _); clear hb1)) | (go_at_call 118; go_loud ((with_reducible refine (l04Size_any p aS S cS _ h6).mono ?_); rintro e w2 ⟨rfl, hb2⟩; have HB2 := Lib.hid hb2; have hz2 := hb2.size; have hd0 := (hb2.cell (p := ⟨w.heap.size, 0, none⟩) (by simp at hz1; show w.heap.size < _; omega)).trans hc0; have hd1 := (hb2.cell (p := ⟨w.heap.size, 1, none⟩) (by simp at hz1; show w.heap.size < _; omega)).trans hc1; clear hb2)))
      go_ret
      exact ⟨rfl, below_step (below_step (below_alloc _ _) (by simp) HB1.out) (by simp at hz1; omega) HB2.out⟩
  · have HI : Hid (isSp p S = false) := by show _ = _; simpa using h
    have HR : Hid (mvB p S v = false) := by show _ = _; unfold mvB; rw [HI.out]; rfl
    rw [HR.out]
    clear h
    go_enter Try.func86, Try.ntmps86
    go_wp2_with (first | (go_at_call 65; (with_reducible refine (l03Is_any p aS S cS loS tpS _ (HS.out.below (below_alloc _ _) tS) (by simp; omega) sS).mono ?_); rintro e w1 ⟨rfl, hb1⟩; rw [HI.out]; have HB1 := Lib.hid hb1; clear hb1))
    go_ret
    exact ⟨rfl, below_step (below_alloc _ _) (by simp) HB1.out⟩

set_option maxRecDepth 100000 in
set_option maxHeartbeats 1600000 in
theorem l04Code_any (p : Int) (aS : Option Addr) (S : List Int) (cS loS tpS : Nat) (am : Option Addr) (m : List (List Int)) (cm lom tpm : Nat) (w : World)
    (hS : RowIn loS tpS w aS S) (tS : tpS ≤ w.heap.size) (sS : S.length ≤ 1048576) (hm : MatIn lom tpm w am m) (tm : tpm ≤ w.heap.size) (sm : m.length ≤ 1048576) (sr : ∀ i, i < m.length → (rw' m i).length ≤ 1048576) :
    Calls Try.prog 52 #[.agg #[.int .i64 p, .slice aS S.length cS], .slice am m.length cm] w fun e w' => e = .returned (.int .i64 (codeMv p S m)) ∧ Below w.heap.size w w' := by
  have HS := Lib.hid hS
  have HM := Lib.hid hm
  have HT := Lib.hid sr
  clear hS hm sr
  by_cases h : isSp p S = true
  · have HI := Lib.hid h
    clear h
    go_enter Try.func52, Try.ntmps52
    go_wp2_with (go_at_call 65; (with_reducible refine (l03Is_any p aS S cS loS tpS _ (HS.out.below (below_alloc _ _) tS) (by simp; omega) sS).mono ?_); rintro e w2 ⟨rfl, hb2⟩; rw [HI.out]; have HB := Lib.hid hb2; clear hb2)
    have HBW : Hid (Below w.heap.size w w2) := below_step (below_alloc _ _) (by simp) HB.out
    have hwz := HBW.out.size
    have hwlt : w.heap.size < w2.heap.size := by have := HB.out.size; simp at this; omega
    have HC0 := Lib.hid ((HB.out.cell (p := ⟨w.heap.size, 0, none⟩) (by simp)).trans (nw0 w _ _ _))
    have HC1 := Lib.hid ((HB.out.cell (p := ⟨w.heap.size, 1, none⟩) (by simp)).trans (nw1 w _ _ _))
    have HM2 := Lib.hid (HM.out.below HBW.out tm)
    have HS2 := Lib.hid (HS.out.below HBW.out tS)
    clear HB
    go_loopw [5] (fun t wr => ∃ i : Nat, i ≤ m.length ∧ t = .int .i64 i ∧ (m.take i).all (isMv p S) = true ∧ Below w2.heap.size w2 wr) (fun t _ => m.length - (intOf t).toNat)
    case atStart => exact ⟨0, Nat.zero_le _, rfl, rfl, Below.refl _ _⟩
    case round =>
      obtain ⟨i, hi, rfl, hA, hbel⟩ := hrel
      have HA := Lib.hid hA
      have HBEL := Lib.hid hbel
      have hwz2 := hbel.size
      have l0 : w.heap.size < wr.heap.size := by omega
      have hc0 := (hbel.cell (p := ⟨w.heap.size, 0, none⟩) hwlt).trans HC0.out
      have hc1 := (hbel.cell (p := ⟨w.heap.size, 1, none⟩) hwlt).trans HC1.out
      clear hA
      by_cases hlt : i < m.length
      · obtain ⟨b1, o1, r, c1, ha1, _, hb1, hr, hrow⟩ := (HM2.out.below hbel (by omega)).row hlt
        subst ha1
        have hl := HT.out i hlt
        have HRd : Hid (RowIn lom tpm wr.drew r (rw' m i)) := hrow.same (fun _ _ _ => rfl)
        have HSd : Hid (RowIn loS tpS wr.drew aS S) := (HS2.out.below HBEL.out (by omega)).same (fun _ _ _ => rfl)
        have HTd : Hid (tpS ≤ wr.drew.heap.size) := by show tpS ≤ wr.heap.size; omega
        have HTM : Hid (tpm ≤ wr.drew.heap.size) := by show tpm ≤ wr.heap.size; omega
        have hi1 : (i : Int) < (m.length : Int) := by omega
        have l1 : b1 < wr.heap.size := by omega
        clear hrow hbel
        by_cases hv : isMv p S (rw' m i) = true
        · have HV := Lib.hid hv
          have HVV : Hid (mvB p S (rw' m i) = true) := by show _ = _; unfold mvB; rw [HI.out, HV.out]; rfl
          clear hv
          go_wp2
          go_region_held3 (fun w' => w'.cell? ⟨w.heap.size, 0, none⟩ = some (.int .i64 p) ∧ w'.cell? ⟨w.heap.size, 1, none⟩ = some (.slice aS S.length cS) ∧ w'.cell? ⟨b1, o1 + i, none⟩ = some (.slice r (rw' m i).length c1)) (first | go_keep | exact SS3.out) (first | (go_at_call 86; (with_reducible refine (l04Is_any p aS S cS loS tpS r (rw' m i) c1 lom tpm wr.drew HSd.out HTd.out sS HRd.out HTM.out hl).mono ?_); rintro e w3 ⟨rfl, hb3⟩; rw [HVV.out]; have HB3 : Hid (Below wr.heap.size wr w3) := (below_drew wr).trans hb3; have SS3 := Lib.hid (And.intro ((HB3.out.cell (p := ⟨w.heap.size, 0, none⟩) l0).trans hc0) (And.intro ((HB3.out.cell (p := ⟨w.heap.size, 1, none⟩) l0).trans hc1) ((HB3.out.cell (p := ⟨b1, o1 + i, none⟩) l1).trans hr))); clear hb3))
          go_wp2
          go_roundw
          case rel => exact ⟨i + 1, by omega, by go_num, by rw [all_take_vec hlt, HA.out, HV.out]; rfl, below_step HBEL.out hwz2 HB3.out⟩
          case measure => simp [intOf]; omega
        · have HV : Hid (isMv p S (rw' m i) = false) := by show _ = _; simpa using hv
          have HVV : Hid (mvB p S (rw' m i) = false) := by show _ = _; unfold mvB; rw [HV.out]; simp
          have HCV := Lib.hid (codeMv_no HI.out (all_false_vec hlt HV.out))
          clear hv
          go_wp2
          go_region_held3 (fun w' => w'.cell? ⟨w.heap.size, 0, none⟩ = some (.int .i64 p) ∧ w'.cell? ⟨w.heap.size, 1, none⟩ = some (.slice aS S.length cS) ∧ w'.cell? ⟨b1, o1 + i, none⟩ = some (.slice r (rw' m i).length c1)) (first | go_keep | exact SS3.out) (first | (go_at_call 86; (with_reducible refine (l04Is_any p aS S cS loS tpS r (rw' m i) c1 lom tpm wr.drew HSd.out HTd.out sS HRd.out HTM.out hl).mono ?_); rintro e w3 ⟨rfl, hb3⟩; rw [HVV.out]; have HB3 : Hid (Below wr.heap.size wr w3) := (below_drew wr).trans hb3; have SS3 := Lib.hid (And.intro ((HB3.out.cell (p := ⟨w.heap.size, 0, none⟩) l0).trans hc0) (And.intro ((HB3.out.cell (p := ⟨w.heap.size, 1, none⟩) l0).trans hc1) ((HB3.out.cell (p := ⟨b1, o1 + i, none⟩) l1).trans hr))); clear hb3))
          go_wp2
          go_ret
          exact ⟨by rw [HCV.out]; rfl, HBW.out.trans ((below_step HBEL.out hwz2 HB3.out).mono hwz)⟩
      · have HCV : Hid (codeMv p S m = 0) := codeMv_ok HI.out (by have h := HA.out; rwa [List.take_of_length_le (by omega)] at h)
        clear hbel
        go_wp2
        go_ret
        exact ⟨by rw [HCV.out]; rfl, HBW.out.trans (HBEL.out.mono hwz)⟩
  · have HI : Hid (isSp p S = false) := by show _ = _; simpa using h
    have HCV : Hid (codeMv p S m = 1) := codeMv_sp HI.out
    clear h
    go_enter Try.func52, Try.ntmps52
    go_wp2_with (go_at_call 65; (with_reducible refine (l03Is_any p aS S cS loS tpS _ (HS.out.below (below_alloc _ _) tS) (by simp; omega) sS).mono ?_); rintro e w2 ⟨rfl, hb2⟩; rw [HI.out]; have HB := Lib.hid hb2; clear hb2)
    go_ret
    exact ⟨by rw [HCV.out]; rfl, below_step (below_alloc _ _) (by simp) HB.out⟩

theorem codeM2 (p : Int) (aS : Option Addr) (S : List Int) (cS loS tpS : Nat) (av : Option Addr) (v : List Int) (cv lov tpv : Nat) (au : Option Addr) (u : List Int) (cu lou tpu b cap : Nat) (W : World) (T : TypeId) (hb : b = W.heap.size)
    (hS : RowIn loS tpS W aS S) (tS : tpS ≤ W.heap.size) (sS : S.length ≤ 1048576) (hv : RowIn lov tpv W av v) (tv : tpv ≤ W.heap.size) (sv : v.length ≤ 1048576) (hu : RowIn lou tpu W au u) (tu : tpu ≤ W.heap.size) (su : u.length ≤ 1048576) :
    Calls Try.prog 52 #[.agg #[.int .i64 p, .slice aS S.length cS], .slice (some ⟨b, 0, none⟩) 2 cap] (W.alloc (.cells #[.slice av v.length cv, .slice au u.length cu] T)) fun e w' => e = .returned (.int .i64 (codeMv p S [v, u])) ∧ Below (W.alloc (.cells #[.slice av v.length cv, .slice au u.length cu] T)).heap.size (W.alloc (.cells #[.slice av v.length cv, .slice au u.length cu] T)) w' :=
  l04Code_any p aS S cS loS tpS (some ⟨b, 0, none⟩) [v, u] cap 0 _ _ (hS.below (below_alloc W _) tS) (Nat.le_trans tS (size_alloc W _)) sS (mv_two hb hv tv hu tu T) (Nat.le_refl _) (by show 2 ≤ 1048576; omega) (fun i hi => by match i, hi with | 0, _ => exact sv | 1, _ => exact su)

end Go.Proofs.Ytcmedhkamjclmaa

namespace Go.Proofs.Ytcmedhkamjclmaa
open Go.RowKit
set_option linter.unusedVariables false

/-- A list of one's own in a block of numbers. -/
def TagR (lo tp : Nat) (w : World) (a : Option Addr) (zs : List Int) : Prop :=
  zs = [] ∨ ∃ b o cur, a = some ⟨b, o, none⟩ ∧ lo ≤ b ∧ b < tp ∧ w.heap[b]? = some (.cells cur 2 (0, 0)) ∧ ∀ j, j < zs.length → w.cell? ⟨b, o + j, none⟩ = some (.int .i64 (zs.getD j 0))
theorem free_of {w : World} {b : Nat} {cur : Array Value} {t : TypeId} (h : w.heap[b]? = some (.cells cur t (0, 0))) (j : Nat) : w.frozen? ⟨b, j, none⟩ = false := by
  simp [World.frozen?, h]
theorem TagR.own {lo tp : Nat} {w : World} {a : Option Addr} {zs : List Int} (h : TagR lo tp w a zs) : OwnR lo tp w a zs := by
  rcases h with h | ⟨b, o, cur, ha, h0, h1, ht, hc⟩
  · exact .inl h
  · exact .inr ⟨b, o, ha, h0, h1, fun j hj => ⟨hc j hj, free_of ht _⟩⟩
theorem TagR.row {lo tp : Nat} {w : World} {a : Option Addr} {zs : List Int} (h : TagR lo tp w a zs) : RowIn lo tp w a zs := h.own.row
theorem TagR.block {lo tp lo' tp' : Nat} {w w' : World} {a : Option Addr} {zs : List Int} (h : TagR lo tp w a zs) (k0 : lo' ≤ lo) (k1 : tp ≤ tp')
    (k : ∀ b cur, lo ≤ b → b < tp → w.heap[b]? = some (.cells cur 2 (0, 0)) → w'.heap[b]? = w.heap[b]?) : TagR lo' tp' w' a zs := by
  rcases h with h | ⟨b, o, cur, ha, h0, h1, ht, hc⟩
  · exact .inl h
  · have e := k b cur h0 h1 ht
    exact .inr ⟨b, o, cur, ha, by omega, by omega, e.trans ht, fun j hj => (World.cell?_of_block (w := w) (a := ⟨b, o + j, none⟩) e).trans (hc j hj)⟩
theorem TagR.below {B lo tp lo' tp' : Nat} {w w' : World} {a : Option Addr} {zs : List Int} (h : TagR lo tp w a zs) (hb : Below B w w') (hB : tp ≤ B) (k0 : lo' ≤ lo) (k1 : tp ≤ tp') : TagR lo' tp' w' a zs :=
  h.block k0 k1 (fun b _ _ h1 _ => hb.block b (by omega))
theorem below_grown {w w' : World} (h : Below w.heap.size w w') : w.grownBy w' none := ⟨h.os, h.tape, h.output, h.size, fun k hk _ => h.block k hk⟩

/-- A list that is being built. -/
def OutR (B : Nat) (w : World) (v : Value) (zs : List Int) : Prop := w.ownsRow B 2 1 v zs.length (zs.map (Value.int .i64))
theorem OutR.tag {B : Nat} {w : World} {v : Value} {zs : List Int} (h : OutR B w v zs) : ∃ a c, v = .slice a zs.length c ∧ TagR B w.heap.size w a zs := by
  have h0 := h
  obtain ⟨_, h⟩ := h
  rcases h with ⟨rfl, hn⟩ | ⟨g, cap, cur, rfl, hb, hg, hnc, hcm, hcs, htake⟩
  · exact ⟨none, 0, by rw [hn], .inl (List.eq_nil_of_length_eq_zero hn)⟩
  · have hlt : g < w.heap.size := (Array.getElem?_eq_some_iff.1 hg).1
    refine ⟨_, cap, rfl, .inr ⟨g, 0, cur, rfl, hb, hlt, hg, fun j hj => ?_⟩⟩
    have := h0.cells (g := g) rfl j (.int .i64 (zs.getD j 0)) (by simp [hj, List.getD])
    rwa [Addr.add_lit] at this
theorem OutR.below {B : Nat} {w w' : World} {v : Value} {zs : List Int} (h : OutR B w v zs) (hb : Below w.heap.size w w') : OutR B w' v zs :=
  World.ownsRow.kept h (below_grown hb) (by cases hv : v.ownBlock <;> simp)
theorem OutR.start (w : World) (B : Nat) (t : TypeId) (hB : B ≤ w.heap.size) (ht : t = 2) : OutR B (w.alloc (.cells #[] t)) (.slice (some ⟨w.heap.size, 0, none⟩) 0 0) [] := by
  subst ht
  exact World.ownsRow_made w #[] 0 hB (Nat.zero_le _) rfl

theorem OutR.step {B : Nat} {w w1 : World} {v v' : Value} {i : Nat} {f : Nat → Int} {X : List Value} {x : Int} (_ : w.ownsRow B 2 1 v i X) (hX : X = (mkR i f).map (Value.int .i64)) (hs : mkR (i + 1) f = mkR i f ++ [x])
    (h1 : w1.ownsRow B 2 1 v' (i + 1) (X ++ [.int .i64 x])) : OutR B w1 v' (mkR (i + 1) f) := by
  unfold OutR
  rw [mkR_len, hs, List.map_append, ← hX]
  exact h1

/-- A matrix that is being built. -/
def OutM (B : Nat) (w : World) (v : Value) (m : List (List Int)) : Prop :=
  ∃ vals : List Value, w.ownsRow B 22 1 v m.length vals ∧ ∀ i, i < m.length → ∃ r c, vals[i]? = some (.slice r (rw' m i).length c) ∧ TagR B w.heap.size w r (rw' m i)
theorem OutM.start (w : World) (B : Nat) (t : TypeId) (hB : B ≤ w.heap.size) (ht : t = 22) : OutM B (w.alloc (.cells #[] t)) (.slice (some ⟨w.heap.size, 0, none⟩) 0 0) [] := by
  subst ht
  exact ⟨[], World.ownsRow_made w #[] 0 hB (Nat.zero_le _) rfl, fun i hi => by simp at hi⟩
theorem OutM.below {B : Nat} {w w' : World} {v : Value} {m : List (List Int)} (h : OutM B w v m) (hb : Below w.heap.size w w') : OutM B w' v m := by
  obtain ⟨vals, ho, hr⟩ := h
  refine ⟨vals, ho.kept (below_grown hb) (by cases hv : v.ownBlock <;> simp), fun i hi => ?_⟩
  obtain ⟨r, c, h1, h2⟩ := hr i hi
  exact ⟨r, c, h1, h2.below hb (Nat.le_refl _) (Nat.le_refl _) hb.size⟩
theorem rw_append {m : List (List Int)} {z : List Int} {i : Nat} (h : i < m.length) : rw' (m ++ [z]) i = rw' m i := by simp only [rw', List.getD_eq_getElem?_getD]; rw [List.getElem?_append_left h]
theorem rw_append_last (m : List (List Int)) (z : List Int) : rw' (m ++ [z]) m.length = z := by simp [rw', List.getD]
/-- A row is appended: 'w1' is the world behind the append. -/
theorem OutM.push {B : Nat} {w w1 : World} {v v' : Value} {m : List (List Int)} {vals : List Value} {r : Option Addr} {z : List Int} {c : Nat}
    (ho : w.ownsRow B 22 1 v m.length vals) (hr : ∀ i, i < m.length → ∃ r c, vals[i]? = some (.slice r (rw' m i).length c) ∧ TagR B w.heap.size w r (rw' m i))
    (hz : TagR B w.heap.size w r z) (h1 : w1.ownsRow B 22 1 v' (m.length + 1) (vals ++ [.slice r z.length c])) (hg : w.grownBy w1 v.ownBlock) : OutM B w1 v' (m ++ [z]) := by
  have hvl : vals.length = m.length := by have := ho.1; omega
  have keep : ∀ b cur, B ≤ b → b < w.heap.size → w.heap[b]? = some (.cells cur 2 (0, 0)) → w1.heap[b]? = w.heap[b]? := by
    intro b cur _ hlt ht
    refine hg.block b hlt (fun e => ?_)
    rcases ho.2 with ⟨rfl, _⟩ | ⟨g, cap, cur', rfl, _, hgg, _⟩
    · simp [Value.ownBlock] at e
    · simp [Value.ownBlock] at e
      subst e
      rw [hgg] at ht
      simp at ht
  refine ⟨vals ++ [.slice r z.length c], by rw [List.length_append]; exact h1, fun i hi => ?_⟩
  simp only [List.length_append, List.length_cons, List.length_nil] at hi
  by_cases e : i < m.length
  · obtain ⟨r', c', g1, g2⟩ := hr i e
    rw [rw_append e]
    exact ⟨r', c', by rw [List.getElem?_append_left (by omega)]; exact g1, g2.block (Nat.le_refl _) hg.size (fun b cur h0 h1 h2 => keep b cur h0 h1 h2)⟩
  · have : i = m.length := by omega
    subst this
    rw [rw_append_last]
    exact ⟨r, c, by rw [← hvl]; simp, hz.block (Nat.le_refl _) hg.size (fun b cur h0 h1 h2 => keep b cur h0 h1 h2)⟩
theorem OutM.mat {B : Nat} {w : World} {v : Value} {m : List (List Int)} (h : OutM B w v m) : ∃ a c, v = .slice a m.length c ∧ MatIn B w.heap.size w a m := by
  obtain ⟨vals, ho, hr⟩ := h
  rcases ho.2 with ⟨rfl, hn⟩ | ⟨g, cap, cur, rfl, hb, hg, hnc, hcm, hcs, htake⟩
  · exact ⟨none, 0, by rw [hn], .inl (List.eq_nil_of_length_eq_zero hn)⟩
  · have hlt : g < w.heap.size := (Array.getElem?_eq_some_iff.1 hg).1
    refine ⟨_, cap, rfl, .inr ⟨g, 0, rfl, hb, hlt, fun i hi => ?_⟩⟩
    obtain ⟨r, c, h1, h2⟩ := hr i hi
    refine ⟨r, c, ?_, h2.row⟩
    have := ho.cells (g := g) rfl i _ h1
    rwa [Addr.add_lit] at this

/-- A list in new memory is handed back. -/
def NewR (z : List Int) (w : World) (e : Ending) (w' : World) : Prop :=
  ∃ r c, e = .returned (.slice r z.length c) ∧ TagR w.heap.size w'.heap.size w' r z ∧ Below w.heap.size w w'
theorem OutR.new {w w' : World} {v : Value} {zs : List Int} (h : OutR w.heap.size w' v zs) (hb : Below w.heap.size w w') : NewR zs w (.returned v) w' := by
  obtain ⟨a, c, rfl, ht⟩ := h.tag
  exact ⟨a, c, rfl, ht, hb⟩
/-- A matrix in new memory is handed back, to be read. -/
def NewM (m : List (List Int)) (w : World) (e : Ending) (w' : World) : Prop :=
  ∃ r c, e = .returned (.slice r m.length c) ∧ MatIn w.heap.size w'.heap.size w' r m ∧ Below w.heap.size w w'
theorem OutM.new {w w' : World} {v : Value} {m : List (List Int)} (h : OutM w.heap.size w' v m) (hb : Below w.heap.size w w') : NewM m w (.returned v) w' := by
  obtain ⟨a, c, rfl, ht⟩ := h.mat
  exact ⟨a, c, rfl, ht, hb⟩

theorem mkR_succ (n : Nat) (f : Nat → Int) : mkR (n + 1) f = mkR n f ++ [f n] := by simp [mkR, List.range_succ]
theorem mk_succ (n c : Nat) (f : Nat → Nat → Int) : mk (n + 1) c f = mk n c f ++ [mkR c (f n)] := by simp [mk, List.range_succ]
theorem OutM.next {B B' n c : Nat} {w w1 : World} {o : Obj} {v v' : Value} {f : Nat → Nat → Int} {z : List Int} {vals : List Value} {r : Option Addr} {cp : Nat}
    (ho : w.ownsRow B 22 1 v n vals) (hr : ∀ i, i < n → ∃ r c', vals[i]? = some (.slice r (rw' (mk n c f) i).length c') ∧ TagR B w.heap.size w r (rw' (mk n c f) i))
    (hz : TagR B' w.heap.size w r z) (he : z = mkR c (f n)) (hB : B ≤ B') (h1 : w1.ownsRow B 22 1 v' (n + 1) (vals ++ [.slice r c cp])) (hg : (w.alloc o).grownBy w1 v.ownBlock) : OutM B w1 v' (mk (n + 1) c f) := by
  subst he
  have hb : Below w.heap.size w (w.alloc o) := (Below.refl _ _).alloc (Nat.le_refl _) o
  rw [mk_succ]
  refine OutM.push (m := mk n c f) (w := w.alloc o) (vals := vals) (by rw [mk_len]; exact ho.alloc o) (fun i hi => ?_) (hz.below hb (Nat.le_refl _) hB hb.size) (c := cp) (by rw [mk_len, mkR_len]; exact h1) hg
  rw [mk_len] at hi
  obtain ⟨r', c', g1, g2⟩ := hr i hi
  exact ⟨r', c', g1, g2.below hb (Nat.le_refl _) (Nat.le_refl _) hb.size⟩

end Go.Proofs.Ytcmedhkamjclmaa
