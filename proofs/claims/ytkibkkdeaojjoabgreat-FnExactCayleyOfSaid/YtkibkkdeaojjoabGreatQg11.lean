/-
  The model's reduced bases: a contract.
  Conditions: the list of vectors is a row of rows of known cells with numbers of the prime, all of one length.
  The model's reduced bases: the walk.
  Conditions: the list of vectors is a row of rows of known cells with numbers of the prime, all of one length, at least one.
  What the program's and the model's checks of lists of numbers return.
  Conditions: they are nil or rows of known cells.
-/
import Derived.Test.YtkibkkdeaojjoabGreatQg7
import Derived.Test.YtkibkkdeaojjoabGreatQg6
import Derived.Test.YtkibkkdeaojjoabGreatQg8
import Derived.Test.YtkibkkdeaojjoabGreatQg10
import Derived.Deep.RegionHeld3
import Derived.Deep.RegionLaw
import Derived.Deep.RegionWith
import Derived.Test.YtkibkkdeaojjoabGreatQg4
namespace Go.Proofs.YtkibkkdeaojjoabGreat
open Go.RowKit
set_option linter.unusedVariables false

/-- What stands in the rows when row d is scaled and the first i are done. -/
def sig (d f i : Nat) : Nat := if i = f then d else i
def scaled (p : Int) (m : List (List Int)) (f k : Nat) : List Int := sclR p (rw' m f) (inv p (at' m f k))
def doneRow (p : Int) (m : List (List Int)) (d f k i : Nat) : List Int := if i = d then scaled p m f k else plusR p (rw' m (sig d f i)) (scaled p m f k) ((p - at' m (sig d f i) k) % p)
def midRow (p : Int) (m : List (List Int)) (d f k i : Nat) : List Int := if i = d then scaled p m f k else rw' m (sig d f i)
def rowsAt (p : Int) (m : List (List Int)) (d f k i : Nat) : List (List Int) := (List.range m.length).map fun j => if j < i then doneRow p m d f k j else midRow p m d f k j
theorem rowsAt_len (p : Int) (m : List (List Int)) (d f k i : Nat) : (rowsAt p m d f k i).length = m.length := by simp [rowsAt]
theorem rowsAt_row {p : Int} {m : List (List Int)} {d f k i j : Nat} (h : j < m.length) : rw' (rowsAt p m d f k i) j = if j < i then doneRow p m d f k j else midRow p m d f k j := by simp [rowsAt, rw', List.getD, h]
theorem rowsAt_start {p : Int} {m : List (List Int)} {d f k : Nat} (hd : d < m.length) (hf : f < m.length) : (m.set f (rw' m d)).set d (scaled p m f k) = rowsAt p m d f k 0 := by
  refine mat_ext (by simp [rowsAt_len]) (fun j hj => ?_)
  simp only [List.length_set] at hj
  rw [rw_set _ (by simpa using hd), rw_set _ hf, rowsAt_row hj, if_neg (Nat.not_lt_zero _)]
  unfold midRow sig
  by_cases e : j = d
  · rw [if_pos e, if_pos e]
  · rw [if_neg e, if_neg e]
    by_cases e' : j = f
    · rw [if_pos e', if_pos e']
    · rw [if_neg e', if_neg e']
theorem rowsAt_next {p : Int} {m : List (List Int)} {d f k i : Nat} (hi : i < m.length) (hne : i ≠ d) : (rowsAt p m d f k i).set i (doneRow p m d f k i) = rowsAt p m d f k (i + 1) := by
  refine mat_ext (by simp [rowsAt_len]) (fun j hj => ?_)
  simp only [List.length_set, rowsAt_len] at hj
  rw [rw_set _ (by rw [rowsAt_len]; exact hi), rowsAt_row hj, rowsAt_row hj]
  by_cases e : j = i
  · subst e; rw [if_pos rfl, if_pos (by omega)]
  · rw [if_neg e]
    by_cases e' : j < i
    · rw [if_pos e', if_pos (by omega)]
    · rw [if_neg e', if_neg (by omega)]
theorem rowsAt_skip {p : Int} {m : List (List Int)} {d f k : Nat} : rowsAt p m d f k d = rowsAt p m d f k (d + 1) := by
  refine mat_ext (by simp [rowsAt_len]) (fun j hj => ?_)
  rw [rowsAt_len] at hj
  rw [rowsAt_row hj, rowsAt_row hj]
  by_cases e : j = d
  · subst e; rw [if_neg (Nat.lt_irrefl _), if_pos (by omega)]; unfold doneRow midRow; rw [if_pos rfl, if_pos rfl]
  · by_cases e' : j < d
    · rw [if_pos e', if_pos (by omega)]
    · rw [if_neg e', if_neg (by omega)]
theorem ColAt.rows {p : Int} {c : Nat} {A m : List (List Int)} {d k f : Nat} {P : Nat → Nat} (hp : prm p = true) (h : ColAt p c A m d k P) (hk : k < c) (hdf : d ≤ f) (hf : f < m.length) (ha : 1 ≤ at' m f k) :
    ColAt p c A (rowsAt p m d f k m.length) (d + 1) (k + 1) (fun i => if i = d then k else P i) := by
  have hL : ∀ i, i < m.length → rw' (rowsAt p m d f k m.length) i = doneRow p m d f k i := fun i hi => by rw [rowsAt_row hi, if_pos hi]
  have hsig : ∀ i, i < m.length → sig d f i < m.length := fun i hi => by unfold sig; split <;> omega
  have hdm : d < m.length := by omega
  have hS : (scaled p m f k).length = c := by unfold scaled sclR; rw [mkR_len, h.len f hf]
  refine h.pick hp hk hdf hf ha (rowsAt_len _ _ _ _ _ _) (fun i hi => ?_) (fun j hj => ?_) (fun i hi hne j hj => ?_)
  · rw [rowsAt_len] at hi
    rw [hL i hi]
    unfold doneRow
    split
    · exact hS
    · unfold plusR; rw [mkR_len]; exact h.len _ (hsig i hi)
  · have e : at' (rowsAt p m d f k m.length) d j = (scaled p m f k).getD j 0 := by unfold at'; rw [hL d hdm]; unfold doneRow; rw [if_pos rfl]
    rw [e]
    unfold scaled sclR
    rw [mkR_at _ (by rw [h.len f hf]; exact hj)]; rfl
  · have e : at' (rowsAt p m d f k m.length) i j = (plusR p (rw' m (sig d f i)) (scaled p m f k) ((p - at' m (sig d f i) k) % p)).getD j 0 := by unfold at'; rw [hL i hi]; unfold doneRow; rw [if_neg hne]; rfl
    have e2 : at' (rowsAt p m d f k m.length) d j = (scaled p m f k).getD j 0 := by unfold at'; rw [hL d hdm]; unfold doneRow; rw [if_pos rfl]
    rw [e, e2]
    unfold plusR
    rw [mkR_at _ (by rw [h.len _ (hsig i hi)]; exact hj)]; rfl

end Go.Proofs.YtkibkkdeaojjoabGreat

namespace Go.Proofs.YtkibkkdeaojjoabGreat
open Go.RowKit
set_option linter.unusedVariables false

/-- A row of n numbers in new memory is handed back. -/
def NewL (n : Nat) (z : List Int) (w : World) (e : Ending) (w' : World) : Prop :=
  z.length = n ∧ ∃ r c, e = .returned (.slice r n c) ∧ TagR w.heap.size w'.heap.size w' r z ∧ Below w.heap.size w w'
theorem NewR.l {n : Nat} {z : List Int} {w w' : World} {e : Ending} (h : NewR z w e w') (hn : z.length = n) : NewL n z w e w' := by
  subst hn; exact ⟨rfl, h⟩
theorem l02Plus_n (p k : Int) (a b : Option Addr) (za zb : List Int) (n ca cb lo tp lo' tp' : Nat) (w : World) (hp : prm p = true) (ha : RowIn lo tp w a za) (hb : RowIn lo' tp' w b zb) (ht : tp ≤ w.heap.size) (ht' : tp' ≤ w.heap.size)
    (hn : za.length = n) (hn' : zb.length = n) (hs : n ≤ 1048576) (hna : ∀ j, j < n → 0 ≤ za.getD j 0 ∧ za.getD j 0 < p) (hnb : ∀ j, j < n → 0 ≤ zb.getD j 0 ∧ zb.getD j 0 < p) (k0 : 0 ≤ k) (k1 : k ≤ p) :
    Calls Tryz.prog 42 #[.int .i64 p, .slice a n ca, .slice b n cb, .int .i64 k] w (NewL n (plusR p za zb k) w) := by
  subst hn
  have h := l02Plus_any p k a b za zb ca cb lo tp lo' tp' w hp ha hb ht ht' (by omega) hs hna (fun j hj => hnb j (by omega)) k0 k1
  rw [hn'] at h
  exact h.mono (fun e w' h => h.l (by unfold plusR; rw [mkR_len]))
theorem TopM.setn {lo n : Nat} {w : World} {b i : Nat} {m : List (List Int)} {r : Option Addr} {z : List Int} {c : Nat} (h : TopM lo w b m) (hi : i < m.length) (hn : z.length = n) (hz : TagR lo w.heap.size w r z) :
    TopM lo (w.setCell ⟨b, i, none⟩ (.slice r n c)) b (m.set i z) := by
  subst hn; exact h.set hi hz
theorem TagR.keepTop {lo : Nat} {w : World} {b i : Nat} {m : List (List Int)} {r : Option Addr} {z : List Int} {v : Value} (h : TopM lo w b m) (hz : TagR lo w.heap.size w r z) : TagR lo (w.setCell ⟨b, i, none⟩ v).heap.size (w.setCell ⟨b, i, none⟩ v) r z := by
  have hsz : (w.setCell ⟨b, i, none⟩ v).heap.size = w.heap.size := by simp [World.setCell]
  rw [hsz]
  exact hz.setTop h

/-- From row d to row f column k is zero. -/
def Zer (m : List (List Int)) (k d f : Nat) : Prop := ∀ i, d ≤ i → i < f → at' m i k = 0

theorem below_top {B b i : Nat} {w w' : World} {v : Value} (h : B ≤ b) (hb : Below B w w') : Below B w (w'.setCell ⟨b, i, none⟩ v) := Below.setCell hb (show B ≤ (⟨b, i, none⟩ : Addr).block from h) v
end Go.Proofs.YtkibkkdeaojjoabGreat

namespace Go.Proofs.YtkibkkdeaojjoabGreat
open Go.RowKit Go.ChangeShapes Go.WideShapes
set_option linter.unusedVariables false

set_option maxHeartbeats 800000 in
theorem checkRow (p : Int) (a : Option Addr) (zs : List Int) (cap lo tp : Nat) (w : World) (hp : prm p = true) (hrow : RowIn lo tp w a zs) (hlen : zs.length ≤ 9223372036854775807) :
    Calls Tryz.prog 122 #[.int .i64 p, .slice a zs.length cap] w fun e w' => e = .returned (.int .i64 (codeOf p zs)) ∧ w = w' := by
  have HP := Lib.hid hp
  have HR := Lib.hid hrow
  clear hrow hp
  go_enter Tryz.func122, Tryz.ntmps122
  go_wp2_with (go_at_call 123; refine (isPrime_any _ _).mono ?_; rintro e w' ⟨rfl, rfl⟩; rw [HP.out])
  go_loop [12] (fun t => ∃ k : Nat, k ≤ zs.length ∧ t = .int .i64 k ∧ (zs.take k).all (inr p) = true) (fun t => zs.length - (intOf t).toNat)
  case atStart => exact ⟨0, Nat.zero_le _, rfl, rfl⟩
  case round =>
    obtain ⟨k, hk, rfl, hall⟩ := hrel
    have HA := Lib.hid hall
    clear hall
    by_cases hlt : k < zs.length
    · obtain ⟨b, o, ha, _, _, hcell⟩ := HR.out.num hlt
      subst ha
      obtain ⟨x, hx⟩ : ∃ x, x = zs.getD k 0 := ⟨_, rfl⟩
      rw [← hx] at hcell
      have HX := Lib.hid hx
      clear hx
      by_cases hin : 0 ≤ x ∧ x < p
      · have HI : Hid (inr p x = true) := inr_iff.2 hin
        obtain ⟨hi0, hi1⟩ := hin
        go_wp2
        go_round
        case rel => exact ⟨k + 1, by omega, by go_num, by rw [all_take_succ hlt HX.out, HA.out, HI.out]; rfl⟩
        case measure => simp [intOf]; omega
      · have HI : Hid (inr p x = false) := inr_not.2 hin
        have HC : Hid (codeOf p zs = 2) := code_bad HP.out (all_false_of hlt HX.out HI.out)
        by_cases h0 : x < 0
        · clear hin
          go_wp2
          go_ret
          exact ⟨by rw [HC.out]; rfl, rfl⟩
        · have h1 : p ≤ x := by omega
          clear hin
          go_wp2
          go_ret
          exact ⟨by rw [HC.out]; rfl, rfl⟩
    · have HC : Hid (codeOf p zs = 0) := code_ok HP.out (by have := HA.out; rwa [List.take_of_length_le (by omega)] at this)
      go_wp2
      go_ret
      exact ⟨by rw [HC.out]; rfl, rfl⟩

set_option maxHeartbeats 800000 in
theorem numsRow (p : Int) (a : Option Addr) (zs : List Int) (cap lo tp : Nat) (w : World) (hp : prm p = true) (hrow : RowIn lo tp w a zs) (hlen : zs.length ≤ 9223372036854775807) :
    Calls Tryz.prog 85 #[.int .i64 p, .slice a zs.length cap] w fun e w' => e = .returned (.bool (zs.all (inr p))) ∧ w = w' := by
  have hpb := prm_bd hp
  clear hp
  have HR := Lib.hid hrow
  clear hrow
  go_enter Tryz.func85, Tryz.ntmps85
  go_wp2
  go_loop [5] (fun t => ∃ k : Nat, k ≤ zs.length ∧ t = .int .i64 k ∧ (zs.take k).all (inr p) = true) (fun t => zs.length - (intOf t).toNat)
  case atStart => exact ⟨0, Nat.zero_le _, rfl, rfl⟩
  case round =>
    obtain ⟨k, hk, rfl, hall⟩ := hrel
    have HA := Lib.hid hall
    clear hall
    by_cases hlt : k < zs.length
    · obtain ⟨b, o, ha, _, _, hcell⟩ := HR.out.num hlt
      subst ha
      obtain ⟨x, hx⟩ : ∃ x, x = zs.getD k 0 := ⟨_, rfl⟩
      rw [← hx] at hcell
      have HX := Lib.hid hx
      clear hx
      by_cases hin : 0 ≤ x ∧ x < p
      · have HI : Hid (inr p x = true) := inr_iff.2 hin
        obtain ⟨hi0, hi1⟩ := hin
        go_wp2_with (go_at_call 84; refine (l01In_yes _ _ _ _ (by omega) (by omega)).mono ?_; rintro e w' ⟨rfl, rfl⟩)
        go_round
        case rel => exact ⟨k + 1, by omega, by go_num, by rw [all_take_succ hlt HX.out, HA.out, HI.out]; rfl⟩
        case measure => simp [intOf]; omega
      · have HI : Hid (inr p x = false) := inr_not.2 hin
        have HC : Hid (zs.all (inr p) = false) := all_false_of hlt HX.out HI.out
        have hin' : ¬ (0 ≤ x ∧ x ≤ p - 1) := by omega
        have HN := Lib.hid hin'
        clear hin hin'
        go_wp2_with (go_at_call 84; refine (l01In_no _ _ _ _ HN.out).mono ?_; rintro e w' ⟨rfl, rfl⟩)
        go_ret
        exact ⟨by rw [HC.out]; rfl, rfl⟩
    · have HC : Hid (zs.all (inr p) = true) := by have := HA.out; rwa [List.take_of_length_le (by omega)] at this
      go_wp2
      go_ret
      exact ⟨by rw [HC.out]; rfl, rfl⟩

set_option maxHeartbeats 800000 in
theorem checkRow_any (p : Int) (a : Option Addr) (zs : List Int) (cap lo tp : Nat) (w : World) (hrow : RowIn lo tp w a zs) (hlen : zs.length ≤ 9223372036854775807) :
    Calls Tryz.prog 122 #[.int .i64 p, .slice a zs.length cap] w fun e w' => e = .returned (.int .i64 (codeOf p zs)) ∧ w = w' := by
  by_cases hp : prm p = true
  · exact checkRow p a zs cap lo tp w hp hrow hlen
  · have HP : Hid (prm p = false) := by show _ = _; simpa using hp
    clear hp hrow
    go_enter Tryz.func122, Tryz.ntmps122
    go_wp2_with (go_at_call 123; refine (isPrime_any _ _).mono ?_; rintro e w' ⟨rfl, rfl⟩; rw [HP.out])
    go_ret
    exact ⟨by rw [code_np HP.out]; rfl, rfl⟩

set_option maxHeartbeats 800000 in
theorem isVector_any (p : Int) (a : Option Addr) (v : List Int) (c n lo tp : Nat) (w : World) (hp : prm p = true) (hv : RowIn lo tp w a v) (hs : v.length ≤ 1048576) (hn : n ≤ 1048576) :
    Calls Tryz.prog 112 #[.int .i64 p, .slice a v.length c, .int .i64 n] w fun e w' => e = .returned (.bool (decide (v.length = n) && v.all (inr p))) ∧ w = w' := by
  have HV := Lib.hid hv
  have HP := Lib.hid hp
  clear hv hp
  by_cases h : v.length = n
  · subst h
    by_cases ha : v.all (inr p) = true
    · have HA := Lib.hid ha
      have HC := Lib.hid (code_ok HP.out ha)
      clear ha
      go_enter Tryz.func112, Tryz.ntmps112
      go_wp2_with (go_at_call 122; (with_reducible refine (checkRow _ _ _ _ lo tp _ HP.out HV.out (by omega)).mono ?_); rintro e w1 ⟨rfl, rfl⟩; rw [HC.out])
      go_ret
      exact ⟨by rw [HA.out]; simp, rfl⟩
    · have HA : Hid (v.all (inr p) = false) := by show v.all (inr p) = false; simpa using ha
      have HC := Lib.hid (code_bad HP.out HA.out)
      clear ha
      go_enter Tryz.func112, Tryz.ntmps112
      go_wp2_with (go_at_call 122; (with_reducible refine (checkRow _ _ _ _ lo tp _ HP.out HV.out (by omega)).mono ?_); rintro e w1 ⟨rfl, rfl⟩; rw [HC.out])
      go_ret
      exact ⟨by rw [HA.out]; simp, rfl⟩
  · have HF : Hid ((decide (v.length = n) && v.all (inr p)) = false) := by show _ = _; simp [h]
    have e1 : ((v.length : Int) == (n : Int)) = false := by simp; omega
    have e2 : decide ((v.length : Int) = (n : Int)) = false := by simp; omega
    clear h
    go_enter Tryz.func112, Tryz.ntmps112
    go_wp2
    go_ret
    exact ⟨by rw [HF.out]; rfl, rfl⟩

end Go.Proofs.YtkibkkdeaojjoabGreat
