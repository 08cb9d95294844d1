/-
  What a law knows of the lists and matrices that it is handed.
  No conditions: what can be read as data.
  The words in which the exact laws of matrices are walked: what a function of the program or of the model hands back, and the laws' marks of lists.
  No conditions.
  What the program's and the model's checks of lists of numbers return.
  Conditions: they are nil or rows of known cells.
-/
import Derived.Test.YtkibkkdeaojjoaaQe4
import Derived.OpenShut
import Derived.Deep.Matrix
namespace Go.Proofs.Ytkibkkdeaojjoaa
open Go.RowKit Go.ChangeShapes Go.WideShapes
set_option linter.unusedVariables false

def IsMat (w : World) (a : Option Addr) (len : Nat) : Prop :=
  ∃ m : List (List Int), m.length = len ∧ MatIn 0 w.heap.size w a m ∧ len ≤ 9223372036854775807 ∧ ∀ i, i < m.length → (rw' m i).length ≤ 9223372036854775807
def IsLst (w : World) (a : Option Addr) (len : Nat) : Prop :=
  ∃ z : List Int, z.length = len ∧ RowIn 0 w.heap.size w a z ∧ len ≤ 9223372036854775807

theorem row_of {w : World} {x : Addr} {len : Nat} {zs : List Int} (hl : len ≤ zs.length) (h : ∀ i, i < zs.length → w.cell? (x.add i) = some (.int .i64 (zs.getD i 0))) : RowIn 0 w.heap.size w (some x) (zs.take len) := by
  by_cases h0 : len = 0
  · exact .inl (by rw [h0]; rfl)
  · obtain ⟨b, o, rfl, hc⟩ := ints_at h (by omega)
    have hlt : b < w.heap.size := World.block_lt_of_cell? w ⟨b, o + 0, none⟩ (hc 0 (by omega))
    refine .inr ⟨b, o, rfl, Nat.zero_le _, hlt, fun i hi => ?_⟩
    rw [List.length_take] at hi
    rw [hc i (by omega)]
    simp only [List.getD_eq_getElem?_getD, List.getElem?_take]
    rw [if_pos (by omega)]
theorem isLst_nil (w : World) : IsLst w none 0 := ⟨[], rfl, .inl rfl, by omega⟩
theorem isLst_of {w : World} {x : Addr} {len cap : Nat} {zs : List Int} (h1 : len ≤ cap) (h2 : cap ≤ maxLen) (h3 : zs.length = cap) (h : ∀ i, i < zs.length → w.cell? (x.add i) = some (.int .i64 (zs.getD i 0))) : IsLst w (some x) len := by
  unfold maxLen at h2
  exact ⟨zs.take len, by simp; omega, row_of (by omega) h, by omega⟩
theorem isMat_nil (w : World) : IsMat w none 0 := ⟨[], rfl, .inl rfl, by omega, fun i hi => by simp at hi⟩
theorem slice_at {w : World} {x : Addr} {v : Nat → Value} {n : Nat} (hn : 0 < n) (h : ∀ r, r < n → w.cell? (x.add r) = some (v r)) : ∃ b o, x = ⟨b, o, none⟩ ∧ ∀ r, r < n → w.cell? ⟨b, o + r, none⟩ = some (v r) := by
  obtain ⟨b, off, spot⟩ := x
  have hspot : spot = none := by simpa [Addr.add] using World.cell?_spot (h 0 hn)
  subst hspot
  exact ⟨b, off, rfl, fun j hj => by rw [← Go.WideShapes.add_plain]; exact h j hj⟩
theorem isMat_of {w : World} {x : Addr} {len cap : Nat} {A : Nat → Option Addr} {L C : Nat → Nat} {Z : Nat → List Int} (hl : len ≤ cap) (hm : cap ≤ maxLen)
    (h : ∀ r, r < cap → w.cell? (x.add r) = some (.slice (A r) (L r) (C r)) ∧ L r ≤ C r ∧ C r ≤ maxLen ∧ (Z r).length = C r ∧ (∀ n ∈ Z r, (Lit.int .i64 n).wf = true) ∧ (A r = none → C r = 0) ∧
        ∀ a', A r = some a' → 0 ≤ a'.block ∧ ∀ c, c < C r → w.cell? (a'.add c) = some (.int .i64 ((Z r).getD c 0))) : IsMat w (some x) len := by
  unfold maxLen at hm
  refine ⟨(List.range len).map fun r => (Z r).take (L r), by simp, ?_, by omega, fun i hi => ?_⟩
  · by_cases h0 : len = 0
    · subst h0; exact .inl rfl
    · obtain ⟨b, o, rfl, hc⟩ := slice_at (n := cap) (v := fun r => .slice (A r) (L r) (C r)) (by omega) (fun r hr => (h r hr).1)
      have hlt : b < w.heap.size := World.block_lt_of_cell? w ⟨b, o + 0, none⟩ (hc 0 (by omega))
      refine .inr ⟨b, o, rfl, Nat.zero_le _, hlt, fun i hi => ?_⟩
      simp only [List.length_map, List.length_range] at hi
      obtain ⟨_, r1, r2, r3, _, r5, r6⟩ := h i (by omega)
      have e : rw' ((List.range len).map fun r => (Z r).take (L r)) i = (Z i).take (L i) := by simp [rw', List.getD, hi]
      rw [e]
      have e2 : ((Z i).take (L i)).length = L i := by simp; omega
      rw [e2]
      refine ⟨A i, C i, hc i (by omega), ?_⟩
      cases hA : A i with
      | none =>
        have := r5 hA
        have h0 : L i = 0 := by omega
        exact .inl (by rw [h0]; rfl)
      | some a' => exact row_of (by omega) (fun c hc' => (r6 a' hA).2 c (by omega))
  · simp only [List.length_map, List.length_range] at hi
    obtain ⟨_, r1, r2, r3, _⟩ := h i (by omega)
    unfold maxLen at r2
    have e : rw' ((List.range len).map fun r => (Z r).take (L r)) i = (Z i).take (L i) := by simp [rw', List.getD, hi]
    rw [e]; simp; omega

end Go.Proofs.Ytkibkkdeaojjoaa

namespace Go.Proofs.Ytkibkkdeaojjoaa
open Go.RowKit
set_option linter.unusedVariables false

def SpecR (R : List Int) (C : Int) (w : World) (e : Ending) (w' : World) : Prop :=
  ∃ r c, e = .returned (.tuple #[.slice r R.length c, .int .i64 C]) ∧ RowIn w.heap.size w'.heap.size w' r R ∧ Below w.heap.size w w'
def ImplR (R : List Int) (C : Int) (w : World) (e : Ending) (w' : World) : Prop :=
  ∃ r c, e = .returned (.tuple #[.slice r R.length c, .int .i64 C]) ∧ OwnR w.heap.size w'.heap.size w' r R ∧ Below w.heap.size w w'
def RetB (V : Bool) (C : Int) (w : World) (e : Ending) (w' : World) : Prop := e = .returned (.tuple #[.bool V, .int .i64 C]) ∧ Below w.heap.size w w'
def markedR (k : Int) (z : List Int) : List Int := mkR z.length fun j => k + j
theorem markedR_len (k : Int) (z : List Int) : (markedR k z).length = z.length := mkR_len _ _

theorem markOwnR (a : Option Addr) (z : List Int) (cap lo tp : Nat) (k : Int) (w : World) (hz : OwnR lo tp w a z) (hl : z.length ≤ 1048576) (k0 : 0 ≤ k) (k1 : k ≤ 10000000) :
    Calls Try.prog 26 #[.slice a z.length cap, .int .i64 k] w fun e w' => e = .returned (.int .i64 (k + z.length)) ∧ OwnR lo tp w' a (markedR k z) ∧ Off lo tp w w' := by
  rcases hz with h0 | ⟨b, o, rfl, h0, h1, hc⟩
  · subst h0
    refine (markRow_nil a cap k w).mono ?_
    rintro e w' ⟨rfl, rfl⟩
    exact ⟨ret_int (by simp), .inl rfl, Off.refl _ _ _⟩
  · refine (markRow b o z.length cap k w (fun j hj => ⟨_, (hc j hj).1⟩) (fun j hj => (hc j hj).2) hl k0 (by omega)).mono ?_
    rintro e w' ⟨rfl, hw, hd⟩
    refine ⟨rfl, .inr ⟨b, o, rfl, h0, h1, fun j hj => ?_⟩, hw.off h0 h1⟩
    rw [markedR_len] at hj
    exact ⟨by rw [hd j hj]; unfold markedR; rw [mkR_at _ hj], (hw.frozenAll _ _).trans (hc j hj).2⟩

theorem markOwnM (a : Option Addr) (m : List (List Int)) (cap lo tp n : Nat) (k : Int) (w : World) (hm : OwnM lo tp w a m) (hn : n = tot m m.length) (hl : m.length + tot m m.length ≤ 1048576) (k0 : 0 ≤ k) (k1 : k ≤ 10000000) :
    Calls Try.prog 25 #[.slice a m.length cap, .int .i64 k] w fun e w' => e = .returned (.int .i64 (k + n)) ∧ OwnM lo tp w' a (marked k m) ∧ Off lo tp w w' := by
  subst hn; exact markMat a m cap lo tp k w hm hl k0 k1

theorem szMat_n (a : Option Addr) (m : List (List Int)) (cap lo tp n : Nat) (left : Int) (w : World) (hm : MatIn lo tp w a m) (hn : n = m.length + tot m m.length) (h : (n : Int) ≤ left) (k : left ≤ 1048576) :
    Calls Try.prog 17 #[.slice a m.length cap, .int .i64 left] w fun e w' => e = .returned (.int .i64 (left - n)) ∧ w = w' := by
  subst hn; exact szMat_yes a m cap lo tp left w hm h k
theorem szMat_x (a : Option Addr) (m : List (List Int)) (cap lo tp n : Nat) (left : Int) (w : World) (hm : MatIn lo tp w a m) (hn : n = m.length + tot m m.length) (h : left < (n : Int)) (h0 : 0 ≤ left) (k : left ≤ 1048576) (hn' : m.length ≤ 9223372036854775807) (hr : ∀ i, i < m.length → (rw' m i).length ≤ 9223372036854775807) :
    Calls Try.prog 17 #[.slice a m.length cap, .int .i64 left] w fun e w' => e = .returned (.int .i64 (-1)) ∧ w = w' := by
  subst hn; exact szMat_no a m cap lo tp left w hm h h0 k hn' hr
theorem heldRow_n (a : Option Addr) (z : List Int) (cap lo tp : Nat) (w : World) (hm : RowIn lo tp w a (markedR 1 z)) (hl : z.length ≤ 1048576) :
    Calls Try.prog 27 #[.slice a z.length cap, .int .i64 1] w fun e w' => e = .returned (.int .i64 (1 + z.length)) ∧ Quiet w w' :=
  heldRow_mk a z.length cap lo tp 1 w hm hl (by omega) (by omega)

theorem quiet_z {w w' : World} (h : Quiet w w') : w.heap.size ≤ w'.heap.size := Nat.le_of_eq h.size.symm
theorem off_z {lo tp : Nat} {w w' : World} (h : Off lo tp w w') : w.heap.size ≤ w'.heap.size := Nat.le_of_eq h.size.symm

end Go.Proofs.Ytkibkkdeaojjoaa

namespace Go.Proofs.Ytkibkkdeaojjoaa
open Go.RowKit Go.ChangeShapes Go.WideShapes
set_option linter.unusedVariables false

set_option maxHeartbeats 800000 in
theorem checkRow (p : Int) (a : Option Addr) (zs : List Int) (cap lo tp : Nat) (w : World) (hp : prm p = true) (hrow : RowIn lo tp w a zs) (hlen : zs.length ≤ 9223372036854775807) :
    Calls Try.prog 108 #[.int .i64 p, .slice a zs.length cap] w fun e w' => e = .returned (.int .i64 (codeOf p zs)) ∧ w = w' := by
  have HP := Lib.hid hp
  have HR := Lib.hid hrow
  clear hrow hp
  go_enter Try.func108, Try.ntmps108
  go_wp2_with (go_at_call 117; refine (isPrime_any _ _).mono ?_; rintro e w' ⟨rfl, rfl⟩; rw [HP.out])
  go_loop [12] (fun t => ∃ k : Nat, k ≤ zs.length ∧ t = .int .i64 k ∧ (zs.take k).all (inr p) = true) (fun t => zs.length - (intOf t).toNat)
  case atStart => exact ⟨0, Nat.zero_le _, rfl, rfl⟩
  case round =>
    obtain ⟨k, hk, rfl, hall⟩ := hrel
    have HA := Lib.hid hall
    clear hall
    by_cases hlt : k < zs.length
    · obtain ⟨b, o, ha, _, _, hcell⟩ := HR.out.num hlt
      subst ha
      obtain ⟨x, hx⟩ : ∃ x, x = zs.getD k 0 := ⟨_, rfl⟩
      rw [← hx] at hcell
      have HX := Lib.hid hx
      clear hx
      by_cases hin : 0 ≤ x ∧ x < p
      · have HI : Hid (inr p x = true) := inr_iff.2 hin
        obtain ⟨hi0, hi1⟩ := hin
        go_wp2
        go_round
        case rel => exact ⟨k + 1, by omega, by go_num, by rw [all_take_succ hlt HX.out, HA.out, HI.out]; rfl⟩
        case measure => simp [intOf]; omega
      · have HI : Hid (inr p x = false) := inr_not.2 hin
        have HC : Hid (codeOf p zs = 2) := code_bad HP.out (all_false_of hlt HX.out HI.out)
        by_cases h0 : x < 0
        · clear hin
          go_wp2
          go_ret
          exact ⟨by rw [HC.out]; rfl, rfl⟩
        · have h1 : p ≤ x := by omega
          clear hin
          go_wp2
          go_ret
          exact ⟨by rw [HC.out]; rfl, rfl⟩
    · have HC : Hid (codeOf p zs = 0) := code_ok HP.out (by have := HA.out; rwa [List.take_of_length_le (by omega)] at this)
      go_wp2
      go_ret
      exact ⟨by rw [HC.out]; rfl, rfl⟩

set_option maxHeartbeats 800000 in
theorem numsRow (p : Int) (a : Option Addr) (zs : List Int) (cap lo tp : Nat) (w : World) (hp : prm p = true) (hrow : RowIn lo tp w a zs) (hlen : zs.length ≤ 9223372036854775807) :
    Calls Try.prog 86 #[.int .i64 p, .slice a zs.length cap] w fun e w' => e = .returned (.bool (zs.all (inr p))) ∧ w = w' := by
  have hpb := prm_bd hp
  clear hp
  have HR := Lib.hid hrow
  clear hrow
  go_enter Try.func86, Try.ntmps86
  go_wp2
  go_loop [5] (fun t => ∃ k : Nat, k ≤ zs.length ∧ t = .int .i64 k ∧ (zs.take k).all (inr p) = true) (fun t => zs.length - (intOf t).toNat)
  case atStart => exact ⟨0, Nat.zero_le _, rfl, rfl⟩
  case round =>
    obtain ⟨k, hk, rfl, hall⟩ := hrel
    have HA := Lib.hid hall
    clear hall
    by_cases hlt : k < zs.length
    · obtain ⟨b, o, ha, _, _, hcell⟩ := HR.out.num hlt
      subst ha
      obtain ⟨x, hx⟩ : ∃ x, x = zs.getD k 0 := ⟨_, rfl⟩
      rw [← hx] at hcell
      have HX := Lib.hid hx
      clear hx
      by_cases hin : 0 ≤ x ∧ x < p
      · have HI : Hid (inr p x = true) := inr_iff.2 hin
        obtain ⟨hi0, hi1⟩ := hin
        go_wp2_with (go_at_call 101; refine (l01In_yes _ _ _ _ (by omega) (by omega)).mono ?_; rintro e w' ⟨rfl, rfl⟩)
        go_round
        case rel => exact ⟨k + 1, by omega, by go_num, by rw [all_take_succ hlt HX.out, HA.out, HI.out]; rfl⟩
        case measure => simp [intOf]; omega
      · have HI : Hid (inr p x = false) := inr_not.2 hin
        have HC : Hid (zs.all (inr p) = false) := all_false_of hlt HX.out HI.out
        have hin' : ¬ (0 ≤ x ∧ x ≤ p - 1) := by omega
        have HN := Lib.hid hin'
        clear hin hin'
        go_wp2_with (go_at_call 101; refine (l01In_no _ _ _ _ HN.out).mono ?_; rintro e w' ⟨rfl, rfl⟩)
        go_ret
        exact ⟨by rw [HC.out]; rfl, rfl⟩
    · have HC : Hid (zs.all (inr p) = true) := by have := HA.out; rwa [List.take_of_length_le (by omega)] at this
      go_wp2
      go_ret
      exact ⟨by rw [HC.out]; rfl, rfl⟩

set_option maxHeartbeats 800000 in
theorem checkRow_any (p : Int) (a : Option Addr) (zs : List Int) (cap lo tp : Nat) (w : World) (hrow : RowIn lo tp w a zs) (hlen : zs.length ≤ 9223372036854775807) :
    Calls Try.prog 108 #[.int .i64 p, .slice a zs.length cap] w fun e w' => e = .returned (.int .i64 (codeOf p zs)) ∧ w = w' := by
  by_cases hp : prm p = true
  · exact checkRow p a zs cap lo tp w hp hrow hlen
  · have HP : Hid (prm p = false) := by show _ = _; simpa using hp
    clear hp hrow
    go_enter Try.func108, Try.ntmps108
    go_wp2_with (go_at_call 117; refine (isPrime_any _ _).mono ?_; rintro e w' ⟨rfl, rfl⟩; rw [HP.out])
    go_ret
    exact ⟨by rw [code_np HP.out]; rfl, rfl⟩

set_option maxHeartbeats 800000 in
theorem isVector_any (p : Int) (a : Option Addr) (v : List Int) (c n lo tp : Nat) (w : World) (hp : prm p = true) (hv : RowIn lo tp w a v) (hs : v.length ≤ 1048576) (hn : n ≤ 1048576) :
    Calls Try.prog 91 #[.int .i64 p, .slice a v.length c, .int .i64 n] w fun e w' => e = .returned (.bool (decide (v.length = n) && v.all (inr p))) ∧ w = w' := by
  have HV := Lib.hid hv
  have HP := Lib.hid hp
  clear hv hp
  by_cases h : v.length = n
  · subst h
    by_cases ha : v.all (inr p) = true
    · have HA := Lib.hid ha
      have HC := Lib.hid (code_ok HP.out ha)
      clear ha
      go_enter Try.func91, Try.ntmps91
      go_wp2_with (go_at_call 108; (with_reducible refine (checkRow _ _ _ _ lo tp _ HP.out HV.out (by omega)).mono ?_); rintro e w1 ⟨rfl, rfl⟩; rw [HC.out])
      go_ret
      exact ⟨by rw [HA.out]; simp, rfl⟩
    · have HA : Hid (v.all (inr p) = false) := by show v.all (inr p) = false; simpa using ha
      have HC := Lib.hid (code_bad HP.out HA.out)
      clear ha
      go_enter Try.func91, Try.ntmps91
      go_wp2_with (go_at_call 108; (with_reducible refine (checkRow _ _ _ _ lo tp _ HP.out HV.out (by omega)).mono ?_); rintro e w1 ⟨rfl, rfl⟩; rw [HC.out])
      go_ret
      exact ⟨by rw [HA.out]; simp, rfl⟩
  · have HF : Hid ((decide (v.length = n) && v.all (inr p)) = false) := by show _ = _; simp [h]
    have e1 : ((v.length : Int) == (n : Int)) = false := by simp; omega
    have e2 : decide ((v.length : Int) = (n : Int)) = false := by simp; omega
    clear h
    go_enter Try.func91, Try.ntmps91
    go_wp2
    go_ret
    exact ⟨by rw [HF.out]; rfl, rfl⟩

end Go.Proofs.Ytkibkkdeaojjoaa
