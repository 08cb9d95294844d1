/-
  What the program's and the model's checks of lists of numbers return.
  Conditions: they are nil or rows of known cells.
  Spaces: what the laws' sizes, copies, comparisons and marks of a space do.
  Conditions: the list of squares is nil or a row of known cells, of at most 1048576 numbers.
  Spaces: what they are, and their checks in the program and in the model.
  Conditions: the list of squares is nil or a row of known cells, of at most 1048576 numbers.
  Products of vectors of a space, in the program and in the model; checks of lists of vectors.
  Conditions: the lists are nil or rows of known cells, of at most 1048576 numbers.
-/
import Derived.Test.YtckpcfhmppdghaaQu3
import Derived.BigQuiet
import Derived.Deep.QuietTactic
import Derived.RegionTactic
namespace Go.Proofs.Ytckpcfhmppdghaa
open Go.RowKit Go.ChangeShapes Go.WideShapes
set_option linter.unusedVariables false

set_option maxHeartbeats 800000 in
theorem checkRow (p : Int) (a : Option Addr) (zs : List Int) (cap lo tp : Nat) (w : World) (hp : prm p = true) (hrow : RowIn lo tp w a zs) (hlen : zs.length ≤ 9223372036854775807) :
    Calls Try.prog 107 #[.int .i64 p, .slice a zs.length cap] w fun e w' => e = .returned (.int .i64 (codeOf p zs)) ∧ w = w' := by
  have HP := Lib.hid hp
  have HR := Lib.hid hrow
  clear hrow hp
  go_enter Try.func107, Try.ntmps107
  go_wp2_with (go_at_call 115; refine (isPrime_any _ _).mono ?_; rintro e w' ⟨rfl, rfl⟩; rw [HP.out])
  go_loop [12] (fun t => ∃ k : Nat, k ≤ zs.length ∧ t = .int .i64 k ∧ (zs.take k).all (inr p) = true) (fun t => zs.length - (intOf t).toNat)
  case atStart => exact ⟨0, Nat.zero_le _, rfl, rfl⟩
  case round =>
    obtain ⟨k, hk, rfl, hall⟩ := hrel
    have HA := Lib.hid hall
    clear hall
    by_cases hlt : k < zs.length
    · obtain ⟨b, o, ha, _, _, hcell⟩ := HR.out.num hlt
      subst ha
      obtain ⟨x, hx⟩ : ∃ x, x = zs.getD k 0 := ⟨_, rfl⟩
      rw [← hx] at hcell
      have HX := Lib.hid hx
      clear hx
      by_cases hin : 0 ≤ x ∧ x < p
      · have HI : Hid (inr p x = true) := inr_iff.2 hin
        obtain ⟨hi0, hi1⟩ := hin
        go_wp2
        go_round
        case rel => exact ⟨k + 1, by omega, by go_num, by rw [all_take_succ hlt HX.out, HA.out, HI.out]; rfl⟩
        case measure => simp [intOf]; omega
      · have HI : Hid (inr p x = false) := inr_not.2 hin
        have HC : Hid (codeOf p zs = 2) := code_bad HP.out (all_false_of hlt HX.out HI.out)
        by_cases h0 : x < 0
        · clear hin
          go_wp2
          go_ret
          exact ⟨by rw [HC.out]; rfl, rfl⟩
        · have h1 : p ≤ x := by omega
          clear hin
          go_wp2
          go_ret
          exact ⟨by rw [HC.out]; rfl, rfl⟩
    · have HC : Hid (codeOf p zs = 0) := code_ok HP.out (by have := HA.out; rwa [List.take_of_length_le (by omega)] at this)
      go_wp2
      go_ret
      exact ⟨by rw [HC.out]; rfl, rfl⟩

set_option maxHeartbeats 800000 in
theorem numsRow (p : Int) (a : Option Addr) (zs : List Int) (cap lo tp : Nat) (w : World) (hp : prm p = true) (hrow : RowIn lo tp w a zs) (hlen : zs.length ≤ 9223372036854775807) :
    Calls Try.prog 105 #[.int .i64 p, .slice a zs.length cap] w fun e w' => e = .returned (.bool (zs.all (inr p))) ∧ w = w' := by
  have hpb := prm_bd hp
  clear hp
  have HR := Lib.hid hrow
  clear hrow
  go_enter Try.func105, Try.ntmps105
  go_wp2
  go_loop [5] (fun t => ∃ k : Nat, k ≤ zs.length ∧ t = .int .i64 k ∧ (zs.take k).all (inr p) = true) (fun t => zs.length - (intOf t).toNat)
  case atStart => exact ⟨0, Nat.zero_le _, rfl, rfl⟩
  case round =>
    obtain ⟨k, hk, rfl, hall⟩ := hrel
    have HA := Lib.hid hall
    clear hall
    by_cases hlt : k < zs.length
    · obtain ⟨b, o, ha, _, _, hcell⟩ := HR.out.num hlt
      subst ha
      obtain ⟨x, hx⟩ : ∃ x, x = zs.getD k 0 := ⟨_, rfl⟩
      rw [← hx] at hcell
      have HX := Lib.hid hx
      clear hx
      by_cases hin : 0 ≤ x ∧ x < p
      · have HI : Hid (inr p x = true) := inr_iff.2 hin
        obtain ⟨hi0, hi1⟩ := hin
        go_wp2_with (go_at_call 104; refine (l01In_yes _ _ _ _ (by omega) (by omega)).mono ?_; rintro e w' ⟨rfl, rfl⟩)
        go_round
        case rel => exact ⟨k + 1, by omega, by go_num, by rw [all_take_succ hlt HX.out, HA.out, HI.out]; rfl⟩
        case measure => simp [intOf]; omega
      · have HI : Hid (inr p x = false) := inr_not.2 hin
        have HC : Hid (zs.all (inr p) = false) := all_false_of hlt HX.out HI.out
        have hin' : ¬ (0 ≤ x ∧ x ≤ p - 1) := by omega
        have HN := Lib.hid hin'
        clear hin hin'
        go_wp2_with (go_at_call 104; refine (l01In_no _ _ _ _ HN.out).mono ?_; rintro e w' ⟨rfl, rfl⟩)
        go_ret
        exact ⟨by rw [HC.out]; rfl, rfl⟩
    · have HC : Hid (zs.all (inr p) = true) := by have := HA.out; rwa [List.take_of_length_le (by omega)] at this
      go_wp2
      go_ret
      exact ⟨by rw [HC.out]; rfl, rfl⟩

set_option maxHeartbeats 800000 in
theorem checkRow_any (p : Int) (a : Option Addr) (zs : List Int) (cap lo tp : Nat) (w : World) (hrow : RowIn lo tp w a zs) (hlen : zs.length ≤ 9223372036854775807) :
    Calls Try.prog 107 #[.int .i64 p, .slice a zs.length cap] w fun e w' => e = .returned (.int .i64 (codeOf p zs)) ∧ w = w' := by
  by_cases hp : prm p = true
  · exact checkRow p a zs cap lo tp w hp hrow hlen
  · have HP : Hid (prm p = false) := by show _ = _; simpa using hp
    clear hp hrow
    go_enter Try.func107, Try.ntmps107
    go_wp2_with (go_at_call 115; refine (isPrime_any _ _).mono ?_; rintro e w' ⟨rfl, rfl⟩; rw [HP.out])
    go_ret
    exact ⟨by rw [code_np HP.out]; rfl, rfl⟩

set_option maxHeartbeats 800000 in
theorem isVector_any (p : Int) (a : Option Addr) (v : List Int) (c n lo tp : Nat) (w : World) (hp : prm p = true) (hv : RowIn lo tp w a v) (hs : v.length ≤ 1048576) (hn : n ≤ 1048576) :
    Calls Try.prog 88 #[.int .i64 p, .slice a v.length c, .int .i64 n] w fun e w' => e = .returned (.bool (decide (v.length = n) && v.all (inr p))) ∧ w = w' := by
  have HV := Lib.hid hv
  have HP := Lib.hid hp
  clear hv hp
  by_cases h : v.length = n
  · subst h
    by_cases ha : v.all (inr p) = true
    · have HA := Lib.hid ha
      have HC := Lib.hid (code_ok HP.out ha)
      clear ha
      go_enter Try.func88, Try.ntmps88
      go_wp2_with (go_at_call 107; (with_reducible refine (checkRow _ _ _ _ lo tp _ HP.out HV.out (by omega)).mono ?_); rintro e w1 ⟨rfl, rfl⟩; rw [HC.out])
      go_ret
      exact ⟨by rw [HA.out]; simp, rfl⟩
    · have HA : Hid (v.all (inr p) = false) := by show v.all (inr p) = false; simpa using ha
      have HC := Lib.hid (code_bad HP.out HA.out)
      clear ha
      go_enter Try.func88, Try.ntmps88
      go_wp2_with (go_at_call 107; (with_reducible refine (checkRow _ _ _ _ lo tp _ HP.out HV.out (by omega)).mono ?_); rintro e w1 ⟨rfl, rfl⟩; rw [HC.out])
      go_ret
      exact ⟨by rw [HA.out]; simp, rfl⟩
  · have HF : Hid ((decide (v.length = n) && v.all (inr p)) = false) := by show _ = _; simp [h]
    have e1 : ((v.length : Int) == (n : Int)) = false := by simp; omega
    have e2 : decide ((v.length : Int) = (n : Int)) = false := by simp; omega
    clear h
    go_enter Try.func88, Try.ntmps88
    go_wp2
    go_ret
    exact ⟨by rw [HF.out]; rfl, rfl⟩

end Go.Proofs.Ytckpcfhmppdghaa

namespace Go.Proofs.Ytckpcfhmppdghaa
open Go.RowKit Go.ChangeShapes Go.WideShapes
set_option linter.unusedVariables false

/-- Blocks outside lo up to hi are as they were; there may be new ones. -/
structure OffG (lo hi : Nat) (w w' : World) : Prop where
  os : w'.os = w.os
  tape : w'.tape = w.tape
  output : w'.output = w.output
  size : w.heap.size ≤ w'.heap.size
  block : ∀ k, k < w.heap.size → (k < lo ∨ hi ≤ k) → w'.heap[k]? = w.heap[k]?
theorem OffG.same {lo hi lo' hi' : Nat} {w w' : World} (h : OffG lo hi w w') (k : hi' ≤ lo ∨ hi ≤ lo') (hz : hi' ≤ w.heap.size) : Same lo' hi' w w' := fun i i0 i1 => h.block i (by omega) (by omega)
theorem OffG.below {B lo hi : Nat} {w w' : World} (h : OffG lo hi w w') (hB : B ≤ lo) (hw : lo ≤ w.heap.size) : Below B w w' := ⟨h.os, h.tape, h.output, h.size, fun k hk => h.block k (by omega) (by omega)⟩

theorem OffG.cell {lo hi : Nat} {w w' : World} (h : OffG lo hi w w') {p : Addr} (k0 : p.block < w.heap.size) (k : p.block < lo ∨ hi ≤ p.block) : w'.cell? p = w.cell? p := World.cell?_of_block (w := w) (h.block p.block k0 k)
theorem Off.cell {lo hi : Nat} {w w' : World} (h : Off lo hi w w') {p : Addr} (k : p.block < lo ∨ hi ≤ p.block) : w'.cell? p = w.cell? p := World.cell?_of_block (w := w) (h.block p.block k)
theorem below_alloc (w : World) (o : Obj) : Below w.heap.size w (w.alloc o) := (Below.refl _ _).alloc (Nat.le_refl _) o
theorem below_drew (w : World) : Below w.heap.size w w.drew := (Below.refl _ _).drew
theorem size_alloc (w : World) (o : Obj) : w.heap.size ≤ (w.alloc o).heap.size := by simp
theorem size_drew (w : World) : w.heap.size ≤ w.drew.heap.size := Nat.le_refl _
theorem lt_alloc (w : World) (o : Obj) : w.heap.size < (w.alloc o).heap.size := by simp
theorem nw0 (w : World) (x y : Value) (t : TypeId) : (w.alloc (.cells #[x, y] t)).cell? ⟨w.heap.size, 0, none⟩ = some x := by simp [go_sem]
theorem nw1 (w : World) (x y : Value) (t : TypeId) : (w.alloc (.cells #[x, y] t)).cell? ⟨w.heap.size, 1, none⟩ = some y := by simp [go_sem]

theorem szSpace_yes (p : Int) (a : Option Addr) (S : List Int) (n cap : Nat) (left : Int) (w : World) (hn : n = S.length) (h : (n : Int) ≤ left) (k : left ≤ 1048576) :
    Calls Try.prog 8 #[.agg #[.int .i64 p, .slice a S.length cap], .int .i64 left] w fun e w' => e = .returned (.int .i64 (left - n)) ∧ Below w.heap.size w w' := by
  subst hn
  go_enter Try.func8, Try.ntmps8
  go_wp2_with (go_at_call 29; (with_reducible refine (szRow_yes _ _ _ _ _ h k).mono ?_); rintro e w' ⟨rfl, rfl⟩)
  go_ret
  exact ⟨rfl, by ((repeat' (first | with_reducible exact Below.refl _ _ | (with_reducible refine Below.setCell ?_ ?_ _) | (with_reducible refine Below.alloc ?_ ?_ _) | (with_reducible refine Below.drew ?_))); all_goals (first | (simp; done) | omega | (simp; omega)))⟩
theorem szSpace_no (p : Int) (a : Option Addr) (S : List Int) (n cap : Nat) (left : Int) (w : World) (hn : n = S.length) (h : left < n) (h0 : 0 ≤ left) (k : (n : Int) ≤ 9223372036854775807) :
    Calls Try.prog 8 #[.agg #[.int .i64 p, .slice a S.length cap], .int .i64 left] w fun e w' => e = .returned (.int .i64 (-1)) ∧ Below w.heap.size w w' := by
  subst hn
  go_enter Try.func8, Try.ntmps8
  go_wp2_with (go_at_call 29; (with_reducible refine (szRow_no _ _ _ _ _ h h0 k).mono ?_); rintro e w' ⟨rfl, rfl⟩)
  go_ret
  exact ⟨rfl, by ((repeat' (first | with_reducible exact Below.refl _ _ | (with_reducible refine Below.setCell ?_ ?_ _) | (with_reducible refine Below.alloc ?_ ?_ _) | (with_reducible refine Below.drew ?_))); all_goals (first | (simp; done) | omega | (simp; omega)))⟩

/-- A copied list, wherever it lies in new memory. -/
def CopiedE (z : List Int) (w : World) (e : Ending) (w' : World) : Prop := ∃ r, e = .returned (.slice r z.length z.length) ∧ Below w.heap.size w w' ∧ OwnR w.heap.size w'.heap.size w' r z
theorem copyRowE (a : Option Addr) (zs : List Int) (cap lo hi : Nat) (w : World) (hin : RowIn lo hi w a zs) (hhi : hi ≤ w.heap.size) (hl : zs.length ≤ 1048576) :
    Calls Try.prog 11 #[.slice a zs.length cap] w (CopiedE zs w) :=
  (copyRow a zs cap lo hi w hin hhi hl).mono (fun e w' h => ⟨_, h.1, h.2.1, h.2.2.2⟩)
/-- A copied space: its squares in new memory. -/
def CopiedS (p : Int) (S : List Int) (w : World) (e : Ending) (w' : World) : Prop :=
  ∃ r, e = .returned (.agg #[.int .i64 p, .slice r S.length S.length]) ∧ Below w.heap.size w w' ∧ OwnR w.heap.size w'.heap.size w' r S
theorem OwnR.mono' {lo hi lo' hi' : Nat} {w : World} {a : Option Addr} {zs : List Int} (h : OwnR lo hi w a zs) (h0 : lo' ≤ lo) (h1 : hi ≤ hi') : OwnR lo' hi' w a zs := by
  rcases h with h | ⟨b, o, ha, k0, k1, hc⟩
  · exact .inl h
  · exact .inr ⟨b, o, ha, by omega, by omega, hc⟩
set_option maxHeartbeats 800000 in
theorem copySpace (p : Int) (a : Option Addr) (S : List Int) (cap lo hi : Nat) (w : World) (hin : RowIn lo hi w a S) (hhi : hi ≤ w.heap.size) (hl : S.length ≤ 1048576) :
    Calls Try.prog 10 #[.agg #[.int .i64 p, .slice a S.length cap]] w (CopiedS p S w) := by
  have H := Lib.hid hin
  clear hin
  go_enter Try.func10, Try.ntmps10
  go_wp2_with (go_at_call 11; (with_reducible refine (copyRow a S cap lo hi _ (H.out.below ((((Below.refl _ _).alloc (Nat.le_refl _) _).alloc (by simp) _).alloc (by simp; omega) _) hhi) (by simp; omega) hl).mono ?_); rintro e w1 ⟨rfl, hb1, hz1, ho1⟩; have HO := Lib.hid ho1; have HB := Lib.hid hb1; obtain ⟨hc, hf⟩ := bcell hb1; have hz := hb1.size; clear ho1 hz1 hb1)
  refine bodyPost_ret (v := .agg #[.int .i64 p, .slice (some ⟨w.heap.size + 1 + 1 + 1, 0, none⟩) S.length S.length]) (by simp [results, Try.results10, go_sem, hc]) rfl ⟨_, rfl, ?_, ?_⟩
  · have hb1 := HB.out
    (have hs_hb1 := hb1.size; (repeat' (first | with_reducible exact Below.refl _ _ | (with_reducible refine Below.setCell ?_ ?_ _) | (with_reducible refine Below.alloc ?_ ?_ _) | (with_reducible refine Below.drew ?_) | (with_reducible refine below_step ?_ ?_ hb1))); all_goals (first | (simp; done) | omega | (simp; omega) | (simp at hs_hb1 ⊢; omega)))
  · have h := HO.out
    simp at h
    refine OwnR.mono' (h.same (fun k k0 k1 => ?_)) (by omega) (by simp [World.setCell])
    simp only [World.setCell, Array.getElem?_modify]
    repeat (first | rfl | (rw [if_neg (by show ¬ _; omega)]))
theorem sameSpace (p : Int) (a c : Option Addr) (S : List Int) (k1 k2 lo hi lo' hi' : Nat) (w : World) (hb : RowIn lo hi w a S) (hc : RowIn lo' hi' w c S) (h1 : hi ≤ w.heap.size) (h2 : hi' ≤ w.heap.size) (hl : S.length ≤ 1048576) :
    Calls Try.prog 14 #[.agg #[.int .i64 p, .slice a S.length k1], .agg #[.int .i64 p, .slice c S.length k2]] w fun e w' => e = .returned (.bool true) ∧ Below w.heap.size w w' := by
  have HB := Lib.hid hb
  have HC := Lib.hid hc
  clear hb hc
  go_enter Try.func14, Try.ntmps14
  go_wp2_with (go_at_call 15; (with_reducible refine (sameRow a c S k1 k2 lo hi lo' hi' _ (HB.out.below (((Below.refl _ _).alloc (Nat.le_refl _) _).alloc (by simp) _) h1) (HC.out.below (((Below.refl _ _).alloc (Nat.le_refl _) _).alloc (by simp) _) h2) hl).mono ?_); rintro e w1 ⟨rfl, hq1⟩; have HQ := Lib.hid hq1; clear hq1)
  go_ret
  exact ⟨rfl, (((Below.refl _ _).alloc (Nat.le_refl _) _).alloc (by simp) _).trans (HQ.out.below _)⟩
theorem markSpace_any (p : Int) (a : Option Addr) (S : List Int) (cap lo tp : Nat) (k : Int) (w : World) (hz : OwnR lo tp w a S) (ht : tp ≤ w.heap.size) (hl : S.length ≤ 1048576) (k0 : 0 ≤ k) (k1 : k ≤ 10000000) :
    Calls Try.prog 16 #[.agg #[.int .i64 p, .slice a S.length cap], .int .i64 k] w fun e w' => e = .returned (.int .i64 (k + S.length)) ∧ OwnR lo tp w' a (markedR k S) ∧ OffG lo tp w w' := by
  have H := Lib.hid hz
  clear hz
  go_enter Try.func16, Try.ntmps16
  go_wp2_with (go_at_call 17; (with_reducible refine (markOwnR a S cap lo tp k _ (H.out.below ((Below.refl _ _).alloc (Nat.le_refl _) _) ht) hl k0 k1).mono ?_); rintro e w1 ⟨rfl, ho, hf⟩; have HO := Lib.hid ho; have HF := Lib.hid hf; clear ho hf)
  go_ret
  exact ⟨rfl, HO.out, HF.out.os, HF.out.tape, HF.out.output, by rw [HF.out.size]; simp, fun i hi0 hi1 => (HF.out.block i hi1).trans (Below.heap_alloc w _ i hi0)⟩

end Go.Proofs.Ytckpcfhmppdghaa

namespace Go.Proofs.Ytckpcfhmppdghaa
open Go.RowKit
set_option linter.unusedVariables false

def isSp (p : Int) (S : List Int) : Bool := prm p && decide (1 ≤ S.length ∧ S.length ≤ 6) && S.all (inr p)
structure Spa (p : Int) (S : List Int) : Prop where
  prime : prm p = true
  lo : 1 ≤ S.length
  hi : S.length ≤ 6
  all : S.all (inr p) = true
theorem isSp_iff {p : Int} {S : List Int} : isSp p S = true ↔ Spa p S := by
  unfold isSp
  simp only [Bool.and_eq_true, decide_eq_true_eq]
  exact ⟨fun h => ⟨h.1.1, h.1.2.1, h.1.2.2, h.2⟩, fun h => ⟨⟨h.prime, h.lo, h.hi⟩, h.all⟩⟩
theorem isSp_no {p : Int} {S : List Int} (h : ¬ Spa p S) : isSp p S = false := by
  cases e : isSp p S with
  | false => rfl
  | true => exact absurd (isSp_iff.1 e) h
theorem Spa.num {p : Int} {S : List Int} (h : Spa p S) {j : Nat} (hj : j < S.length) : 0 ≤ S.getD j 0 ∧ S.getD j 0 < p := by
  have ha := h.all
  rw [List.all_eq_true] at ha
  exact inr_iff.1 (ha _ (by rw [getD_at hj]; exact List.getElem_mem hj))

set_option maxHeartbeats 800000 in
theorem isSpace_any (p : Int) (a : Option Addr) (S : List Int) (c lo tp : Nat) (w : World) (h : RowIn lo tp w a S) (ht : tp ≤ w.heap.size) (hs : S.length ≤ 1048576) :
    Calls Try.prog 106 #[.agg #[.int .i64 p, .slice a S.length c]] w fun e w' => e = .returned (.bool (isSp p S)) ∧ Below w.heap.size w w' := by
  have H := Lib.hid h
  clear h
  by_cases h1 : 1 ≤ S.length
  · by_cases h2 : S.length ≤ 6
    · rcases code_cases p S with ⟨hp, hc⟩ | ⟨hp, ha, hc⟩ | ⟨hp, ha, hc⟩
      · have HC := Lib.hid hc
        have HV : Hid (isSp p S = false) := isSp_no (fun k => by have := k.prime; rw [hp] at this; cases this)
        clear hc hp
        go_enter Try.func106, Try.ntmps106
        go_wp2_with (go_at_call 107; (with_reducible refine (checkRow_any p a S c lo tp _ (H.out.below ((Below.refl _ _).alloc (Nat.le_refl _) _) ht) (by omega)).mono ?_); rintro e w1 ⟨rfl, rfl⟩; rw [HC.out])
        go_ret
        exact ⟨by rw [HV.out]; rfl, by ((repeat' (first | with_reducible exact Below.refl _ _ | (with_reducible refine Below.setCell ?_ ?_ _) | (with_reducible refine Below.alloc ?_ ?_ _) | (with_reducible refine Below.drew ?_))); all_goals (first | (simp; done) | omega | (simp; omega)))⟩
      · have HC := Lib.hid hc
        have HV : Hid (isSp p S = true) := isSp_iff.2 ⟨hp, h1, h2, ha⟩
        clear hc hp ha
        go_enter Try.func106, Try.ntmps106
        go_wp2_with (go_at_call 107; (with_reducible refine (checkRow_any p a S c lo tp _ (H.out.below ((Below.refl _ _).alloc (Nat.le_refl _) _) ht) (by omega)).mono ?_); rintro e w1 ⟨rfl, rfl⟩; rw [HC.out])
        go_ret
        exact ⟨by rw [HV.out]; rfl, by ((repeat' (first | with_reducible exact Below.refl _ _ | (with_reducible refine Below.setCell ?_ ?_ _) | (with_reducible refine Below.alloc ?_ ?_ _) | (with_reducible refine Below.drew ?_))); all_goals (first | (simp; done) | omega | (simp; omega)))⟩
      · have HC := Lib.hid hc
        have HV : Hid (isSp p S = false) := isSp_no (fun k => by have := k.all; rw [ha] at this; cases this)
        clear hc hp ha
        go_enter Try.func106, Try.ntmps106
        go_wp2_with (go_at_call 107; (with_reducible refine (checkRow_any p a S c lo tp _ (H.out.below ((Below.refl _ _).alloc (Nat.le_refl _) _) ht) (by omega)).mono ?_); rintro e w1 ⟨rfl, rfl⟩; rw [HC.out])
        go_ret
        exact ⟨by rw [HV.out]; rfl, by ((repeat' (first | with_reducible exact Below.refl _ _ | (with_reducible refine Below.setCell ?_ ?_ _) | (with_reducible refine Below.alloc ?_ ?_ _) | (with_reducible refine Below.drew ?_))); all_goals (first | (simp; done) | omega | (simp; omega)))⟩
    · have HV : Hid (isSp p S = false) := isSp_no (fun k => h2 k.hi)
      go_enter Try.func106, Try.ntmps106
      go_wp2
      go_ret
      exact ⟨by rw [HV.out]; rfl, by ((repeat' (first | with_reducible exact Below.refl _ _ | (with_reducible refine Below.setCell ?_ ?_ _) | (with_reducible refine Below.alloc ?_ ?_ _) | (with_reducible refine Below.drew ?_))); all_goals (first | (simp; done) | omega | (simp; omega)))⟩
  · have HV : Hid (isSp p S = false) := isSp_no (fun k => h1 k.lo)
    go_enter Try.func106, Try.ntmps106
    go_wp2
    go_ret
    exact ⟨by rw [HV.out]; rfl, by ((repeat' (first | with_reducible exact Below.refl _ _ | (with_reducible refine Below.setCell ?_ ?_ _) | (with_reducible refine Below.alloc ?_ ?_ _) | (with_reducible refine Below.drew ?_))); all_goals (first | (simp; done) | omega | (simp; omega)))⟩

set_option maxHeartbeats 800000 in
theorem l03Is_any (p : Int) (a : Option Addr) (S : List Int) (c lo tp : Nat) (w : World) (h : RowIn lo tp w a S) (ht : tp ≤ w.heap.size) (hs : S.length ≤ 1048576) :
    Calls Try.prog 85 #[.agg #[.int .i64 p, .slice a S.length c]] w fun e w' => e = .returned (.bool (isSp p S)) ∧ Below w.heap.size w w' := by
  have H := Lib.hid h
  clear h
  by_cases hp : prm p = true
  · have HP := Lib.hid hp
    clear hp
    by_cases h1 : 1 ≤ S.length ∧ S.length ≤ 6
    · have hb : (1 : Int) ≤ (S.length : Int) ∧ (S.length : Int) ≤ 6 := by omega
      by_cases ha : S.all (inr p) = true
      · have HA := Lib.hid ha
        have HV : Hid (isSp p S = true) := isSp_iff.2 ⟨HP.out, h1.1, h1.2, ha⟩
        clear ha h1
        go_enter Try.func85, Try.ntmps85
        go_wp2_with (first | (go_at_call 103; refine (l01Prime_any _ _).mono ?_; rintro e w1 ⟨rfl, rfl⟩; rw [HP.out]) | (go_at_call 104; refine (l01In_yes _ _ _ _ hb.1 hb.2).mono ?_; rintro e w1 ⟨rfl, rfl⟩) | (go_at_call 105; (with_reducible refine (numsRow p a S c lo tp _ HP.out (H.out.below ((Below.refl _ _).alloc (Nat.le_refl _) _) ht) (by omega)).mono ?_); rintro e w1 ⟨rfl, rfl⟩; rw [HA.out]))
        go_ret
        exact ⟨by rw [HV.out]; rfl, by ((repeat' (first | with_reducible exact Below.refl _ _ | (with_reducible refine Below.setCell ?_ ?_ _) | (with_reducible refine Below.alloc ?_ ?_ _) | (with_reducible refine Below.drew ?_))); all_goals (first | (simp; done) | omega | (simp; omega)))⟩
      · have HA : Hid (S.all (inr p) = false) := by show _ = _; simpa using ha
        have HV : Hid (isSp p S = false) := isSp_no (fun k => ha k.all)
        clear ha h1
        go_enter Try.func85, Try.ntmps85
        go_wp2_with (first | (go_at_call 103; refine (l01Prime_any _ _).mono ?_; rintro e w1 ⟨rfl, rfl⟩; rw [HP.out]) | (go_at_call 104; refine (l01In_yes _ _ _ _ hb.1 hb.2).mono ?_; rintro e w1 ⟨rfl, rfl⟩) | (go_at_call 105; (with_reducible refine (numsRow p a S c lo tp _ HP.out (H.out.below ((Below.refl _ _).alloc (Nat.le_refl _) _) ht) (by omega)).mono ?_); rintro e w1 ⟨rfl, rfl⟩; rw [HA.out]))
        go_ret
        exact ⟨by rw [HV.out]; rfl, by ((repeat' (first | with_reducible exact Below.refl _ _ | (with_reducible refine Below.setCell ?_ ?_ _) | (with_reducible refine Below.alloc ?_ ?_ _) | (with_reducible refine Below.drew ?_))); all_goals (first | (simp; done) | omega | (simp; omega)))⟩
    · have hb : ¬ ((1 : Int) ≤ (S.length : Int) ∧ (S.length : Int) ≤ 6) := by omega
      have HB := Lib.hid hb
      have HV : Hid (isSp p S = false) := isSp_no (fun k => h1 ⟨k.lo, k.hi⟩)
      clear h1 hb
      go_enter Try.func85, Try.ntmps85
      go_wp2_with (first | (go_at_call 103; refine (l01Prime_any _ _).mono ?_; rintro e w1 ⟨rfl, rfl⟩; rw [HP.out]) | (go_at_call 104; refine (l01In_no _ _ _ _ HB.out).mono ?_; rintro e w1 ⟨rfl, rfl⟩))
      go_ret
      exact ⟨by rw [HV.out]; rfl, by ((repeat' (first | with_reducible exact Below.refl _ _ | (with_reducible refine Below.setCell ?_ ?_ _) | (with_reducible refine Below.alloc ?_ ?_ _) | (with_reducible refine Below.drew ?_))); all_goals (first | (simp; done) | omega | (simp; omega)))⟩
  · have HP : Hid (prm p = false) := by show _ = _; simpa using hp
    have HV : Hid (isSp p S = false) := isSp_no (fun k => hp k.prime)
    clear hp
    go_enter Try.func85, Try.ntmps85
    go_wp2_with (first | (go_at_call 103; refine (l01Prime_any _ _).mono ?_; rintro e w1 ⟨rfl, rfl⟩; rw [HP.out]))
    go_ret
    exact ⟨by rw [HV.out]; rfl, by ((repeat' (first | with_reducible exact Below.refl _ _ | (with_reducible refine Below.setCell ?_ ?_ _) | (with_reducible refine Below.alloc ?_ ?_ _) | (with_reducible refine Below.drew ?_))); all_goals (first | (simp; done) | omega | (simp; omega)))⟩

end Go.Proofs.Ytckpcfhmppdghaa

namespace Go.Proofs.Ytckpcfhmppdghaa
open Go.RowKit
set_option linter.unusedVariables false

def isVec (p : Int) (n : Nat) (v : List Int) : Bool := decide (v.length = n) && v.all (inr p)
structure Vec (p : Int) (n : Nat) (v : List Int) : Prop where
  len : v.length = n
  all : v.all (inr p) = true
theorem isVec_iff {p : Int} {n : Nat} {v : List Int} : isVec p n v = true ↔ Vec p n v := by
  unfold isVec
  simp only [Bool.and_eq_true, decide_eq_true_eq]
  exact ⟨fun h => ⟨h.1, h.2⟩, fun h => ⟨h.len, h.all⟩⟩
theorem Vec.num {p : Int} {n : Nat} {v : List Int} (h : Vec p n v) {j : Nat} (hj : j < n) : 0 ≤ v.getD j 0 ∧ v.getD j 0 < p := by
  have ha := h.all
  have hl := h.len
  rw [List.all_eq_true] at ha
  exact inr_iff.1 (ha _ (by rw [getD_at (by omega : j < v.length)]; exact List.getElem_mem _))
/-- The sum of products up to i. -/
def psum (S v w : List Int) (i : Nat) : Int := sm i fun j => v.getD j 0 * w.getD j 0 * S.getD j 0
def pairN (p : Int) (S v w : List Int) : Int := psum S v w S.length % p
theorem prod3 {p x y z : Int} (hp : p ≤ 13) (x0 : 0 ≤ x) (x1 : x < p) (y0 : 0 ≤ y) (y1 : y < p) (z0 : 0 ≤ z) (z1 : z < p) : 0 ≤ x * y ∧ x * y ≤ 144 ∧ 0 ≤ x * y * z ∧ x * y * z ≤ 1728 := by
  have a0 : 0 ≤ x * y := Int.mul_nonneg x0 y0
  have a1 : x * y ≤ 12 * 12 := Int.le_trans (Int.mul_le_mul_of_nonneg_right (by omega : x ≤ 12) y0) (Int.mul_le_mul_of_nonneg_left (by omega) (by omega))
  have b0 : 0 ≤ x * y * z := Int.mul_nonneg a0 z0
  have b1 : x * y * z ≤ 144 * 12 := Int.le_trans (Int.mul_le_mul_of_nonneg_right (by omega : x * y ≤ 144) z0) (Int.mul_le_mul_of_nonneg_left (by omega) (by omega))
  omega
theorem psum_bd {p : Int} {S v w : List Int} {n : Nat} (hp : p ≤ 13) (hS : ∀ j, j < n → 0 ≤ S.getD j 0 ∧ S.getD j 0 < p) (hv : ∀ j, j < n → 0 ≤ v.getD j 0 ∧ v.getD j 0 < p) (hw : ∀ j, j < n → 0 ≤ w.getD j 0 ∧ w.getD j 0 < p) {i : Nat} (hi : i ≤ n) :
    0 ≤ psum S v w i ∧ psum S v w i ≤ i * 1728 :=
  sm_bd (fun j hj => by
    obtain ⟨_, _, h3, h4⟩ := prod3 hp (hv j (by omega)).1 (hv j (by omega)).2 (hw j (by omega)).1 (hw j (by omega)).2 (hS j (by omega)).1 (hS j (by omega)).2
    exact ⟨h3, h4⟩)
theorem psum_step (p s x y z : Int) : (s % p + x * y % p * z) % p = (s + x * y * z) % p := by
  rw [Int.add_emod, Int.emod_emod, Int.mul_emod (x * y % p), Int.emod_emod, ← Int.mul_emod, ← Int.add_emod]

set_option maxRecDepth 100000 in
set_option maxHeartbeats 3200000 in
theorem l03Pair_any (p : Int) (aS : Option Addr) (S : List Int) (cS loS tpS : Nat) (av : Option Addr) (v : List Int) (cv lov tpv : Nat) (aw : Option Addr) (u : List Int) (cu lou tpu : Nat) (w : World)
    (hS : RowIn loS tpS w aS S) (tS : tpS ≤ w.heap.size) (hv : RowIn lov tpv w av v) (tv : tpv ≤ w.heap.size) (hu : RowIn lou tpu w aw u) (tu : tpu ≤ w.heap.size) (hs : isSp p S = true) (h1 : isVec p S.length v = true) (h2 : isVec p S.length u = true) :
    Calls Try.prog 44 #[.agg #[.int .i64 p, .slice aS S.length cS], .slice av v.length cv, .slice aw u.length cu] w fun e w' => e = .returned (.int .i64 (pairN p S v u)) ∧ Below w.heap.size w w' := by
  have K := isSp_iff.1 hs
  have V := isVec_iff.1 h1
  have U := isVec_iff.1 h2
  have hpb := prm_bd K.prime
  have hS6 := K.hi
  have hvl := V.len
  have hul := U.len
  have HS := Lib.hid hS
  have HV := Lib.hid hv
  have HU := Lib.hid hu
  have HK := Lib.hid K
  have HVN := Lib.hid V
  have HUN := Lib.hid U
  have HVL := Lib.hid hvl
  have HUL := Lib.hid hul
  rw [hvl, hul]
  clear hS hv hu hs h1 h2 K V U hvl hul
  go_enter Try.func44, Try.ntmps44
  go_wp2
  obtain ⟨n, hn⟩ : ∃ n, n = S.length := ⟨_, rfl⟩
  rw [← hn] at hS6 HVL HUL
  have HN := Lib.hid hn
  have hn1 : S.length ≤ n ∧ n ≤ S.length := by omega
  rw [← hn]
  clear hn
  go_loopw [7, 8] (fun s t wr => ∃ i : Nat, i ≤ n ∧ s = .int .i64 (psum S v u i % p) ∧ t = .int .i64 i ∧ Quiet (w.alloc (.cells #[.int .i64 p, .slice aS n cS] 29)) wr) (fun _ t _ => n - (intOf t).toNat)
  case atStart => exact ⟨0, Nat.zero_le _, by simp [psum, sm], rfl, Quiet.refl _⟩
  case round =>
    obtain ⟨i, hi, rfl, rfl, hq⟩ := hrel
    have HQ := Lib.hid hq
    have hb0 := (hq.cell ⟨w.heap.size, 0, none⟩).trans (nw0 w _ _ _)
    have hb1 := (hq.cell ⟨w.heap.size, 1, none⟩).trans (nw1 w _ _ _)
    have hqb := (below_alloc w (.cells #[.int .i64 p, .slice aS n cS] 29)).trans (hq.below _)
    by_cases hlt : i < n
    · obtain ⟨bs, os, ha1, _, _, cs⟩ := (HS.out.below hqb tS).num (by omega : i < S.length)
      obtain ⟨bv, ov, ha2, _, _, cv'⟩ := (HV.out.below hqb tv).num (by rw [HVL.out]; exact hlt)
      obtain ⟨bu, ou, ha3, _, _, cu'⟩ := (HU.out.below hqb tu).num (by rw [HUL.out]; exact hlt)
      subst ha1
      subst ha2
      subst ha3
      obtain ⟨x0, x1⟩ := HVN.out.num (by omega : i < S.length)
      obtain ⟨y0, y1⟩ := HUN.out.num (by omega : i < S.length)
      obtain ⟨z0, z1⟩ := HK.out.num (by omega : i < S.length)
      obtain ⟨q0, q1⟩ := mod_bd HK.out.prime (psum S v u i)
      have HST : Hid (∀ s x y z : Int, s = psum S v u i % p → x = v.getD i 0 → y = u.getD i 0 → z = S.getD i 0 → (s + x * y % p * z) % p = psum S v u (i + 1) % p) := by
        intro s x y z e1 e2 e3 e4
        subst e1 e2 e3 e4
        exact psum_step p _ _ _ _
      obtain ⟨s, hs⟩ : ∃ s, s = psum S v u i % p := ⟨_, rfl⟩
      obtain ⟨x, hx⟩ : ∃ x, x = v.getD i 0 := ⟨_, rfl⟩
      obtain ⟨y, hy⟩ : ∃ y, y = u.getD i 0 := ⟨_, rfl⟩
      obtain ⟨z, hz⟩ : ∃ z, z = S.getD i 0 := ⟨_, rfl⟩
      have HE := Lib.hid (HST.out s x y z hs hx hy hz)
      rw [← hs] at q0 q1
      rw [← hx] at cv' x0 x1
      rw [← hy] at cu' y0 y1
      rw [← hz] at cs z0 z1
      rw [← hs]
      clear hs hx hy hz HST hq hqb
      obtain ⟨p1, p2, _, _⟩ := prod3 hpb.2 x0 x1 y0 y1 z0 z1
      have m0 := Int.emod_nonneg (x * y) (by omega : p ≠ 0)
      have m1 := Int.emod_lt_of_pos (x * y) (by omega : 0 < p)
      obtain ⟨p3, p4, _, _⟩ := prod3 hpb.2 m0 m1 z0 z1 z0 z1
      have e1 : IntKind.i64.wrap (x * y) = x * y := IntWalk.i64_in _ (by omega)
      have e2 : (x * y).tmod p = x * y % p := Int.tmod_eq_emod_of_nonneg p1
      have e3 : IntKind.i64.wrap (x * y % p * z) = x * y % p * z := IntWalk.i64_in _ (by omega)
      have e4 : IntKind.i64.wrap (s + x * y % p * z) = s + x * y % p * z := IntWalk.i64_in _ (by omega)
      have e5 : (s + x * y % p * z).tmod p = (s + x * y % p * z) % p := Int.tmod_eq_emod_of_nonneg (by omega)
      have hp0 : ¬ p = 0 := by omega
      have hp1 : (p == 0) = false := by simpa using hp0
      have hi1 : (i : Int) < (n : Int) := by omega
      go_wp2
      go_quiet (fail)
      clear e1 e2 e3 e4 e5
      go_wp2
      go_roundw
      case rel => exact ⟨i + 1, by omega, by rw [HE.out], by go_num, HQ.out.next _⟩
      case measure => simp [intOf]; omega
    · have hin : i = n := by omega
      subst hin
      have HE : Hid (psum S v u i % p = pairN p S v u) := by show _ = _; unfold pairN; rw [HN.out]
      rw [HE.out]
      clear hq hb0 hb1 hqb
      go_wp2
      go_ret
      exact ⟨rfl, (below_alloc w _).trans (HQ.out.below _)⟩

end Go.Proofs.Ytckpcfhmppdghaa
