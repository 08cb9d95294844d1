/-
  Spaces: what the laws' sizes, copies, comparisons and marks of a space do.
  Conditions: the list of squares is nil or a row of known cells, of at most 1048576 numbers.
  Spaces: what they are, and their checks in the program and in the model.
  Conditions: the list of squares is nil or a row of known cells, of at most 1048576 numbers.
  Products of vectors of a space, in the program and in the model; checks of lists of vectors.
  Conditions: the lists are nil or rows of known cells, of at most 1048576 numbers.
  The program's products of vectors and checks of spaces and vectors.
  Conditions: the lists are nil or rows of known cells, of at most 1048576 numbers.
-/
import Derived.Test.YtkibkkdeaojjoabGreatQg5
import Derived.Test.YtkibkkdeaojjoabGreatQg11
import Derived.BigQuiet
import Derived.Deep.QuietTactic
import Derived.RegionTactic
import Derived.Deep.LoopGhost
namespace Go.Proofs.YtkibkkdeaojjoabGreat
open Go.RowKit Go.ChangeShapes Go.WideShapes
set_option linter.unusedVariables false

/-- Blocks outside lo up to hi are as they were; there may be new ones. -/
structure OffG (lo hi : Nat) (w w' : World) : Prop where
  os : w'.os = w.os
  tape : w'.tape = w.tape
  output : w'.output = w.output
  size : w.heap.size ≤ w'.heap.size
  block : ∀ k, k < w.heap.size → (k < lo ∨ hi ≤ k) → w'.heap[k]? = w.heap[k]?
theorem OffG.same {lo hi lo' hi' : Nat} {w w' : World} (h : OffG lo hi w w') (k : hi' ≤ lo ∨ hi ≤ lo') (hz : hi' ≤ w.heap.size) : Same lo' hi' w w' := fun i i0 i1 => h.block i (by omega) (by omega)
theorem OffG.below {B lo hi : Nat} {w w' : World} (h : OffG lo hi w w') (hB : B ≤ lo) (hw : lo ≤ w.heap.size) : Below B w w' := ⟨h.os, h.tape, h.output, h.size, fun k hk => h.block k (by omega) (by omega)⟩

theorem OffG.cell {lo hi : Nat} {w w' : World} (h : OffG lo hi w w') {p : Addr} (k0 : p.block < w.heap.size) (k : p.block < lo ∨ hi ≤ p.block) : w'.cell? p = w.cell? p := World.cell?_of_block (w := w) (h.block p.block k0 k)
theorem Off.cell {lo hi : Nat} {w w' : World} (h : Off lo hi w w') {p : Addr} (k : p.block < lo ∨ hi ≤ p.block) : w'.cell? p = w.cell? p := World.cell?_of_block (w := w) (h.block p.block k)
theorem below_alloc (w : World) (o : Obj) : Below w.heap.size w (w.alloc o) := (Below.refl _ _).alloc (Nat.le_refl _) o
theorem below_drew (w : World) : Below w.heap.size w w.drew := (Below.refl _ _).drew
theorem size_alloc (w : World) (o : Obj) : w.heap.size ≤ (w.alloc o).heap.size := by simp
theorem size_drew (w : World) : w.heap.size ≤ w.drew.heap.size := Nat.le_refl _
theorem lt_alloc (w : World) (o : Obj) : w.heap.size < (w.alloc o).heap.size := by simp
theorem nw0 (w : World) (x y : Value) (t : TypeId) : (w.alloc (.cells #[x, y] t)).cell? ⟨w.heap.size, 0, none⟩ = some x := by simp [go_sem]
theorem nw1 (w : World) (x y : Value) (t : TypeId) : (w.alloc (.cells #[x, y] t)).cell? ⟨w.heap.size, 1, none⟩ = some y := by simp [go_sem]

theorem szSpace_yes (p : Int) (a : Option Addr) (S : List Int) (n cap : Nat) (left : Int) (w : World) (hn : n = S.length) (h : (n : Int) ≤ left) (k : left ≤ 1048576) :
    Calls Tryz.prog 5 #[.agg #[.int .i64 p, .slice a S.length cap], .int .i64 left] w fun e w' => e = .returned (.int .i64 (left - n)) ∧ Below w.heap.size w w' := by
  subst hn
  go_enter Tryz.func5, Tryz.ntmps5
  go_wp2_with (go_at_call 21; (with_reducible refine (szRow_yes _ _ _ _ _ h k).mono ?_); rintro e w' ⟨rfl, rfl⟩)
  go_ret
  exact ⟨rfl, by ((repeat' (first | with_reducible exact Below.refl _ _ | (with_reducible refine Below.setCell ?_ ?_ _) | (with_reducible refine Below.alloc ?_ ?_ _) | (with_reducible refine Below.drew ?_))); all_goals (first | (simp; done) | omega | (simp; omega)))⟩
theorem szSpace_no (p : Int) (a : Option Addr) (S : List Int) (n cap : Nat) (left : Int) (w : World) (hn : n = S.length) (h : left < n) (h0 : 0 ≤ left) (k : (n : Int) ≤ 9223372036854775807) :
    Calls Tryz.prog 5 #[.agg #[.int .i64 p, .slice a S.length cap], .int .i64 left] w fun e w' => e = .returned (.int .i64 (-1)) ∧ Below w.heap.size w w' := by
  subst hn
  go_enter Tryz.func5, Tryz.ntmps5
  go_wp2_with (go_at_call 21; (with_reducible refine (szRow_no _ _ _ _ _ h h0 k).mono ?_); rintro e w' ⟨rfl, rfl⟩)
  go_ret
  exact ⟨rfl, by ((repeat' (first | with_reducible exact Below.refl _ _ | (with_reducible refine Below.setCell ?_ ?_ _) | (with_reducible refine Below.alloc ?_ ?_ _) | (with_reducible refine Below.drew ?_))); all_goals (first | (simp; done) | omega | (simp; omega)))⟩

def CopiedME (m : List (List Int)) (w : World) (e : Ending) (w' : World) : Prop := ∃ r, e = .returned (.slice r m.length m.length) ∧ Below w.heap.size w w' ∧ OwnM w.heap.size w'.heap.size w' r m
theorem copyMatE (a : Option Addr) (m : List (List Int)) (cap lo hi : Nat) (w : World) (hin : MatIn lo hi w a m) (hhi : hi ≤ w.heap.size) (hl : m.length + tot m m.length ≤ 1048576) :
    Calls Tryz.prog 19 #[.slice a m.length cap] w (CopiedME m w) :=
  (copyMat a m cap lo hi w hin hhi hl).mono (fun e w' h => ⟨_, h.1, h.2.1, h.2.2.2⟩)
/-- A copied space: its squares in new memory. -/
def CopiedS (p : Int) (S : List Int) (w : World) (e : Ending) (w' : World) : Prop :=
  ∃ r, e = .returned (.agg #[.int .i64 p, .slice r S.length S.length]) ∧ Below w.heap.size w w' ∧ OwnR w.heap.size w'.heap.size w' r S
theorem OwnR.mono' {lo hi lo' hi' : Nat} {w : World} {a : Option Addr} {zs : List Int} (h : OwnR lo hi w a zs) (h0 : lo' ≤ lo) (h1 : hi ≤ hi') : OwnR lo' hi' w a zs := by
  rcases h with h | ⟨b, o, ha, k0, k1, hc⟩
  · exact .inl h
  · exact .inr ⟨b, o, ha, by omega, by omega, hc⟩
set_option maxHeartbeats 800000 in
theorem copySpace (p : Int) (a : Option Addr) (S : List Int) (cap lo hi : Nat) (w : World) (hin : RowIn lo hi w a S) (hhi : hi ≤ w.heap.size) (hl : S.length ≤ 1048576) :
    Calls Tryz.prog 7 #[.agg #[.int .i64 p, .slice a S.length cap]] w (CopiedS p S w) := by
  have H := Lib.hid hin
  clear hin
  go_enter Tryz.func7, Tryz.ntmps7
  go_wp2_with (go_at_call 8; (with_reducible refine (copyRow a S cap lo hi _ (H.out.below ((((Below.refl _ _).alloc (Nat.le_refl _) _).alloc (by simp) _).alloc (by simp; omega) _) hhi) (by simp; omega) hl).mono ?_); rintro e w1 ⟨rfl, hb1, hz1, ho1⟩; have HO := Lib.hid ho1; have HB := Lib.hid hb1; obtain ⟨hc, hf⟩ := bcell hb1; have hz := hb1.size; clear ho1 hz1 hb1)
  refine bodyPost_ret (v := .agg #[.int .i64 p, .slice (some ⟨w.heap.size + 1 + 1 + 1, 0, none⟩) S.length S.length]) (by simp [results, Tryz.results7, go_sem, hc]) rfl ⟨_, rfl, ?_, ?_⟩
  · have hb1 := HB.out
    (have hs_hb1 := hb1.size; (repeat' (first | with_reducible exact Below.refl _ _ | (with_reducible refine Below.setCell ?_ ?_ _) | (with_reducible refine Below.alloc ?_ ?_ _) | (with_reducible refine Below.drew ?_) | (with_reducible refine below_step ?_ ?_ hb1))); all_goals (first | (simp; done) | omega | (simp; omega) | (simp at hs_hb1 ⊢; omega)))
  · have h := HO.out
    simp at h
    refine OwnR.mono' (h.same (fun k k0 k1 => ?_)) (by omega) (by simp [World.setCell])
    simp only [World.setCell, Array.getElem?_modify]
    repeat (first | rfl | (rw [if_neg (by show ¬ _; omega)]))
theorem sameSpace (p : Int) (a c : Option Addr) (S : List Int) (k1 k2 lo hi lo' hi' : Nat) (w : World) (hb : RowIn lo hi w a S) (hc : RowIn lo' hi' w c S) (h1 : hi ≤ w.heap.size) (h2 : hi' ≤ w.heap.size) (hl : S.length ≤ 1048576) :
    Calls Tryz.prog 11 #[.agg #[.int .i64 p, .slice a S.length k1], .agg #[.int .i64 p, .slice c S.length k2]] w fun e w' => e = .returned (.bool true) ∧ Below w.heap.size w w' := by
  have HB := Lib.hid hb
  have HC := Lib.hid hc
  clear hb hc
  go_enter Tryz.func11, Tryz.ntmps11
  go_wp2_with (go_at_call 12; (with_reducible refine (sameRow a c S k1 k2 lo hi lo' hi' _ (HB.out.below (((Below.refl _ _).alloc (Nat.le_refl _) _).alloc (by simp) _) h1) (HC.out.below (((Below.refl _ _).alloc (Nat.le_refl _) _).alloc (by simp) _) h2) hl).mono ?_); rintro e w1 ⟨rfl, hq1⟩; have HQ := Lib.hid hq1; clear hq1)
  go_ret
  exact ⟨rfl, (((Below.refl _ _).alloc (Nat.le_refl _) _).alloc (by simp) _).trans (HQ.out.below _)⟩
theorem markSpace_any (p : Int) (a : Option Addr) (S : List Int) (cap lo tp : Nat) (k : Int) (w : World) (hz : OwnR lo tp w a S) (ht : tp ≤ w.heap.size) (hl : S.length ≤ 1048576) (k0 : 0 ≤ k) (k1 : k ≤ 10000000) :
    Calls Tryz.prog 13 #[.agg #[.int .i64 p, .slice a S.length cap], .int .i64 k] w fun e w' => e = .returned (.int .i64 (k + S.length)) ∧ OwnR lo tp w' a (markedR k S) ∧ OffG lo tp w w' := by
  have H := Lib.hid hz
  clear hz
  go_enter Tryz.func13, Tryz.ntmps13
  go_wp2_with (go_at_call 14; (with_reducible refine (markOwnR a S cap lo tp k _ (H.out.below ((Below.refl _ _).alloc (Nat.le_refl _) _) ht) hl k0 k1).mono ?_); rintro e w1 ⟨rfl, ho, hf⟩; have HO := Lib.hid ho; have HF := Lib.hid hf; clear ho hf)
  go_ret
  exact ⟨rfl, HO.out, HF.out.os, HF.out.tape, HF.out.output, by rw [HF.out.size]; simp, fun i hi0 hi1 => (HF.out.block i hi1).trans (Below.heap_alloc w _ i hi0)⟩

end Go.Proofs.YtkibkkdeaojjoabGreat

namespace Go.Proofs.YtkibkkdeaojjoabGreat
open Go.RowKit
set_option linter.unusedVariables false

def isSp (p : Int) (S : List Int) : Bool := prm p && decide (1 ≤ S.length ∧ S.length ≤ 6) && S.all (inr p)
structure Spa (p : Int) (S : List Int) : Prop where
  prime : prm p = true
  lo : 1 ≤ S.length
  hi : S.length ≤ 6
  all : S.all (inr p) = true
theorem isSp_iff {p : Int} {S : List Int} : isSp p S = true ↔ Spa p S := by
  unfold isSp
  simp only [Bool.and_eq_true, decide_eq_true_eq]
  exact ⟨fun h => ⟨h.1.1, h.1.2.1, h.1.2.2, h.2⟩, fun h => ⟨⟨h.prime, h.lo, h.hi⟩, h.all⟩⟩
theorem isSp_no {p : Int} {S : List Int} (h : ¬ Spa p S) : isSp p S = false := by
  cases e : isSp p S with
  | false => rfl
  | true => exact absurd (isSp_iff.1 e) h
theorem Spa.num {p : Int} {S : List Int} (h : Spa p S) {j : Nat} (hj : j < S.length) : 0 ≤ S.getD j 0 ∧ S.getD j 0 < p := by
  have ha := h.all
  rw [List.all_eq_true] at ha
  exact inr_iff.1 (ha _ (by rw [getD_at hj]; exact List.getElem_mem hj))

set_option maxHeartbeats 800000 in
theorem isSpace_any (p : Int) (a : Option Addr) (S : List Int) (c lo tp : Nat) (w : World) (h : RowIn lo tp w a S) (ht : tp ≤ w.heap.size) (hs : S.length ≤ 1048576) :
    Calls Tryz.prog 104 #[.agg #[.int .i64 p, .slice a S.length c]] w fun e w' => e = .returned (.bool (isSp p S)) ∧ Below w.heap.size w w' := by
  have H := Lib.hid h
  clear h
  by_cases h1 : 1 ≤ S.length
  · by_cases h2 : S.length ≤ 6
    · rcases code_cases p S with ⟨hp, hc⟩ | ⟨hp, ha, hc⟩ | ⟨hp, ha, hc⟩
      · have HC := Lib.hid hc
        have HV : Hid (isSp p S = false) := isSp_no (fun k => by have := k.prime; rw [hp] at this; cases this)
        clear hc hp
        go_enter Tryz.func104, Tryz.ntmps104
        go_wp2_with (go_at_call 122; (with_reducible refine (checkRow_any p a S c lo tp _ (H.out.below ((Below.refl _ _).alloc (Nat.le_refl _) _) ht) (by omega)).mono ?_); rintro e w1 ⟨rfl, rfl⟩; rw [HC.out])
        go_ret
        exact ⟨by rw [HV.out]; rfl, by ((repeat' (first | with_reducible exact Below.refl _ _ | (with_reducible refine Below.setCell ?_ ?_ _) | (with_reducible refine Below.alloc ?_ ?_ _) | (with_reducible refine Below.drew ?_))); all_goals (first | (simp; done) | omega | (simp; omega)))⟩
      · have HC := Lib.hid hc
        have HV : Hid (isSp p S = true) := isSp_iff.2 ⟨hp, h1, h2, ha⟩
        clear hc hp ha
        go_enter Tryz.func104, Tryz.ntmps104
        go_wp2_with (go_at_call 122; (with_reducible refine (checkRow_any p a S c lo tp _ (H.out.below ((Below.refl _ _).alloc (Nat.le_refl _) _) ht) (by omega)).mono ?_); rintro e w1 ⟨rfl, rfl⟩; rw [HC.out])
        go_ret
        exact ⟨by rw [HV.out]; rfl, by ((repeat' (first | with_reducible exact Below.refl _ _ | (with_reducible refine Below.setCell ?_ ?_ _) | (with_reducible refine Below.alloc ?_ ?_ _) | (with_reducible refine Below.drew ?_))); all_goals (first | (simp; done) | omega | (simp; omega)))⟩
      · have HC := Lib.hid hc
        have HV : Hid (isSp p S = false) := isSp_no (fun k => by have := k.all; rw [ha] at this; cases this)
        clear hc hp ha
        go_enter Tryz.func104, Tryz.ntmps104
        go_wp2_with (go_at_call 122; (with_reducible refine (checkRow_any p a S c lo tp _ (H.out.below ((Below.refl _ _).alloc (Nat.le_refl _) _) ht) (by omega)).mono ?_); rintro e w1 ⟨rfl, rfl⟩; rw [HC.out])
        go_ret
        exact ⟨by rw [HV.out]; rfl, by ((repeat' (first | with_reducible exact Below.refl _ _ | (with_reducible refine Below.setCell ?_ ?_ _) | (with_reducible refine Below.alloc ?_ ?_ _) | (with_reducible refine Below.drew ?_))); all_goals (first | (simp; done) | omega | (simp; omega)))⟩
    · have HV : Hid (isSp p S = false) := isSp_no (fun k => h2 k.hi)
      go_enter Tryz.func104, Tryz.ntmps104
      go_wp2
      go_ret
      exact ⟨by rw [HV.out]; rfl, by ((repeat' (first | with_reducible exact Below.refl _ _ | (with_reducible refine Below.setCell ?_ ?_ _) | (with_reducible refine Below.alloc ?_ ?_ _) | (with_reducible refine Below.drew ?_))); all_goals (first | (simp; done) | omega | (simp; omega)))⟩
  · have HV : Hid (isSp p S = false) := isSp_no (fun k => h1 k.lo)
    go_enter Tryz.func104, Tryz.ntmps104
    go_wp2
    go_ret
    exact ⟨by rw [HV.out]; rfl, by ((repeat' (first | with_reducible exact Below.refl _ _ | (with_reducible refine Below.setCell ?_ ?_ _) | (with_reducible refine Below.alloc ?_ ?_ _) | (with_reducible refine Below.drew ?_))); all_goals (first | (simp; done) | omega | (simp; omega)))⟩

set_option maxHeartbeats 800000 in
theorem l03Is_any (p : Int) (a : Option Addr) (S : List Int) (c lo tp : Nat) (w : World) (h : RowIn lo tp w a S) (ht : tp ≤ w.heap.size) (hs : S.length ≤ 1048576) :
    Calls Tryz.prog 58 #[.agg #[.int .i64 p, .slice a S.length c]] w fun e w' => e = .returned (.bool (isSp p S)) ∧ Below w.heap.size w w' := by
  have H := Lib.hid h
  clear h
  by_cases hp : prm p = true
  · have HP := Lib.hid hp
    clear hp
    by_cases h1 : 1 ≤ S.length ∧ S.length ≤ 6
    · have hb : (1 : Int) ≤ (S.length : Int) ∧ (S.length : Int) ≤ 6 := by omega
      by_cases ha : S.all (inr p) = true
      · have HA := Lib.hid ha
        have HV : Hid (isSp p S = true) := isSp_iff.2 ⟨HP.out, h1.1, h1.2, ha⟩
        clear ha h1
        go_enter Tryz.func58, Tryz.ntmps58
        go_wp2_with (first | (go_at_call 83; refine (l01Prime_any _ _).mono ?_; rintro e w1 ⟨rfl, rfl⟩; rw [HP.out]) | (go_at_call 84; refine (l01In_yes _ _ _ _ hb.1 hb.2).mono ?_; rintro e w1 ⟨rfl, rfl⟩) | (go_at_call 85; (with_reducible refine (numsRow p a S c lo tp _ HP.out (H.out.below ((Below.refl _ _).alloc (Nat.le_refl _) _) ht) (by omega)).mono ?_); rintro e w1 ⟨rfl, rfl⟩; rw [HA.out]))
        go_ret
        exact ⟨by rw [HV.out]; rfl, by ((repeat' (first | with_reducible exact Below.refl _ _ | (with_reducible refine Below.setCell ?_ ?_ _) | (with_reducible refine Below.alloc ?_ ?_ _) | (with_reducible refine Below.drew ?_))); all_goals (first | (simp; done) | omega | (simp; omega)))⟩
      · have HA : Hid (S.all (inr p) = false) := by show _ = _; simpa using ha
        have HV : Hid (isSp p S = false) := isSp_no (fun k => ha k.all)
        clear ha h1
        go_enter Tryz.func58, Tryz.ntmps58
        go_wp2_with (first | (go_at_call 83; refine (l01Prime_any _ _).mono ?_; rintro e w1 ⟨rfl, rfl⟩; rw [HP.out]) | (go_at_call 84; refine (l01In_yes _ _ _ _ hb.1 hb.2).mono ?_; rintro e w1 ⟨rfl, rfl⟩) | (go_at_call 85; (with_reducible refine (numsRow p a S c lo tp _ HP.out (H.out.below ((Below.refl _ _).alloc (Nat.le_refl _) _) ht) (by omega)).mono ?_); rintro e w1 ⟨rfl, rfl⟩; rw [HA.out]))
        go_ret
        exact ⟨by rw [HV.out]; rfl, by ((repeat' (first | with_reducible exact Below.refl _ _ | (with_reducible refine Below.setCell ?_ ?_ _) | (with_reducible refine Below.alloc ?_ ?_ _) | (with_reducible refine Below.drew ?_))); all_goals (first | (simp; done) | omega | (simp; omega)))⟩
    · have hb : ¬ ((1 : Int) ≤ (S.length : Int) ∧ (S.length : Int) ≤ 6) := by omega
      have HB := Lib.hid hb
      have HV : Hid (isSp p S = false) := isSp_no (fun k => h1 ⟨k.lo, k.hi⟩)
      clear h1 hb
      go_enter Tryz.func58, Tryz.ntmps58
      go_wp2_with (first | (go_at_call 83; refine (l01Prime_any _ _).mono ?_; rintro e w1 ⟨rfl, rfl⟩; rw [HP.out]) | (go_at_call 84; refine (l01In_no _ _ _ _ HB.out).mono ?_; rintro e w1 ⟨rfl, rfl⟩))
      go_ret
      exact ⟨by rw [HV.out]; rfl, by ((repeat' (first | with_reducible exact Below.refl _ _ | (with_reducible refine Below.setCell ?_ ?_ _) | (with_reducible refine Below.alloc ?_ ?_ _) | (with_reducible refine Below.drew ?_))); all_goals (first | (simp; done) | omega | (simp; omega)))⟩
  · have HP : Hid (prm p = false) := by show _ = _; simpa using hp
    have HV : Hid (isSp p S = false) := isSp_no (fun k => hp k.prime)
    clear hp
    go_enter Tryz.func58, Tryz.ntmps58
    go_wp2_with (first | (go_at_call 83; refine (l01Prime_any _ _).mono ?_; rintro e w1 ⟨rfl, rfl⟩; rw [HP.out]))
    go_ret
    exact ⟨by rw [HV.out]; rfl, by ((repeat' (first | with_reducible exact Below.refl _ _ | (with_reducible refine Below.setCell ?_ ?_ _) | (with_reducible refine Below.alloc ?_ ?_ _) | (with_reducible refine Below.drew ?_))); all_goals (first | (simp; done) | omega | (simp; omega)))⟩

end Go.Proofs.YtkibkkdeaojjoabGreat

namespace Go.Proofs.YtkibkkdeaojjoabGreat
open Go.RowKit
set_option linter.unusedVariables false

def isVec (p : Int) (n : Nat) (v : List Int) : Bool := decide (v.length = n) && v.all (inr p)
structure Vec (p : Int) (n : Nat) (v : List Int) : Prop where
  len : v.length = n
  all : v.all (inr p) = true
theorem isVec_iff {p : Int} {n : Nat} {v : List Int} : isVec p n v = true ↔ Vec p n v := by
  unfold isVec
  simp only [Bool.and_eq_true, decide_eq_true_eq]
  exact ⟨fun h => ⟨h.1, h.2⟩, fun h => ⟨h.len, h.all⟩⟩
theorem Vec.num {p : Int} {n : Nat} {v : List Int} (h : Vec p n v) {j : Nat} (hj : j < n) : 0 ≤ v.getD j 0 ∧ v.getD j 0 < p := by
  have ha := h.all
  have hl := h.len
  rw [List.all_eq_true] at ha
  exact inr_iff.1 (ha _ (by rw [getD_at (by omega : j < v.length)]; exact List.getElem_mem _))
/-- The sum of products up to i. -/
def psum (S v w : List Int) (i : Nat) : Int := sm i fun j => v.getD j 0 * w.getD j 0 * S.getD j 0
def pairN (p : Int) (S v w : List Int) : Int := psum S v w S.length % p
theorem prod3 {p x y z : Int} (hp : p ≤ 13) (x0 : 0 ≤ x) (x1 : x < p) (y0 : 0 ≤ y) (y1 : y < p) (z0 : 0 ≤ z) (z1 : z < p) : 0 ≤ x * y ∧ x * y ≤ 144 ∧ 0 ≤ x * y * z ∧ x * y * z ≤ 1728 := by
  have a0 : 0 ≤ x * y := Int.mul_nonneg x0 y0
  have a1 : x * y ≤ 12 * 12 := Int.le_trans (Int.mul_le_mul_of_nonneg_right (by omega : x ≤ 12) y0) (Int.mul_le_mul_of_nonneg_left (by omega) (by omega))
  have b0 : 0 ≤ x * y * z := Int.mul_nonneg a0 z0
  have b1 : x * y * z ≤ 144 * 12 := Int.le_trans (Int.mul_le_mul_of_nonneg_right (by omega : x * y ≤ 144) z0) (Int.mul_le_mul_of_nonneg_left (by omega) (by omega))
  omega
end Go.Proofs.YtkibkkdeaojjoabGreat

namespace Go.Proofs.YtkibkkdeaojjoabGreat
open Go.RowKit
set_option linter.unusedVariables false

/-- Several spaces, one behind the other in a block. -/
def Spaces (w : World) (b N : Nat) (q : Nat → Int) (A : Nat → Option Addr) (Z : Nat → List Int) (C : Nat → Nat) (lo tp : Nat → Nat) : Prop :=
  b < w.heap.size ∧ ∀ i, i < N → w.cell? ⟨b, i * 2, none⟩ = some (.int .i64 (q i)) ∧ w.cell? ⟨b, i * 2 + 1, none⟩ = some (.slice (A i) (Z i).length (C i)) ∧ RowIn (lo i) (tp i) w (A i) (Z i) ∧ tp i ≤ w.heap.size ∧ (Z i).length ≤ 1048576
/-- The code of several spaces. -/
def SpsC (N : Nat) (q : Nat → Int) (Z : Nat → List Int) (w : World) (e : Ending) (w' : World) : Prop :=
  ∃ c : Int, e = .returned (.int .i64 c) ∧ Below w.heap.size w w' ∧ ((c = 0 ∧ ∀ i, i < N → isSp (q i) (Z i) = true) ∨ (c = 1 ∧ ∃ i, i < N ∧ isSp (q i) (Z i) = false))
def AllSp (N : Nat) (q : Nat → Int) (Z : Nat → List Int) : Prop := ∀ i, i < N → isSp (q i) (Z i) = true

set_option maxRecDepth 100000 in
set_option maxHeartbeats 1600000 in
theorem checkSpaces_any (b N cap : Nat) (q : Nat → Int) (A : Nat → Option Addr) (Z : Nat → List Int) (C lo tp : Nat → Nat) (w : World) (h : Spaces w b N q A Z C lo tp) (hN : N ≤ 2) :
    Calls Tryz.prog 86 #[.slice (some ⟨b, 0, none⟩) N cap] w (SpsC N q Z w) := by
  have H := Lib.hid h
  clear h
  go_enter Tryz.func86, Tryz.ntmps86
  go_wp2
  have hb0 := H.out.1
  go_loopw [7] (fun t wr => ∃ i : Nat, i ≤ N ∧ t = .int .i64 i ∧ AllSp i q Z ∧ Below w.heap.size w wr) (fun t _ => N - (intOf t).toNat)
  case atStart => exact ⟨0, Nat.zero_le _, rfl, fun i hi => by omega, Below.refl _ _⟩
  case round =>
    obtain ⟨i, hi, rfl, hA, hB⟩ := hrel
    have HA := Lib.hid hA
    have HB := Lib.hid hB
    have hsz := hB.size
    by_cases hlt : i < N
    · obtain ⟨g0, g1, hr, ht, hz⟩ := H.out.2 i hlt
      have g0' := (hB.cell (p := ⟨b, i * 2, none⟩) hb0).trans g0
      have g1' := (hB.cell (p := ⟨b, i * 2 + 1, none⟩) hb0).trans g1
      have HR := Lib.hid (hr.below hB ht)
      have hi1 : (i : Int) < (N : Int) := by omega
      clear hA hB g0 g1 hr
      by_cases hs : isSp (q i) (Z i) = true
      · have HS := Lib.hid hs
        clear hs
        go_wp2_with (go_at_call 104; (with_reducible refine (isSpace_any (q i) (A i) (Z i) (C i) (lo i) (tp i) _ (HR.out.below (below_alloc _ _) (by omega)) (by simp; omega) hz).mono ?_); rintro e w1 ⟨rfl, hb1⟩; rw [HS.out]; have HB1 := Lib.hid hb1; clear hb1)
        go_roundw
        case rel => exact ⟨i + 1, by omega, by go_num, fun j hj => by
            by_cases e : j = i
            · subst e; exact HS.out
            · exact HA.out j (by omega), by
              have hb1 := HB.out
              have hb2 := HB1.out
              exact below_step (hb1.alloc hsz _) (by simp; omega) hb2⟩
        case measure => simp [intOf]; omega
      · have HS : Hid (isSp (q i) (Z i) = false) := by show _ = _; simpa using hs
        clear hs
        go_wp2_with (go_at_call 104; (with_reducible refine (isSpace_any (q i) (A i) (Z i) (C i) (lo i) (tp i) _ (HR.out.below (below_alloc _ _) (by omega)) (by simp; omega) hz).mono ?_); rintro e w1 ⟨rfl, hb1⟩; rw [HS.out]; have HB1 := Lib.hid hb1; clear hb1)
        go_ret
        exact ⟨1, rfl, below_step (HB.out.alloc hsz _) (by simp; omega) HB1.out, .inr ⟨rfl, i, hlt, HS.out⟩⟩
    · have hin : i = N := by omega
      subst hin
      clear hA hB
      go_wp2
      go_ret
      exact ⟨0, rfl, HB.out, .inl ⟨rfl, HA.out⟩⟩

end Go.Proofs.YtkibkkdeaojjoabGreat
