/-
  Contracts and facts that the walk of the law rests on.
  Conditions: those that each theorem names.
-/
import Derived.Test.YtgfanoejohpmkaaGreatQp26
import Derived.Test.YtgfanoejohpmkaaGreatQp15
import Derived.Test.YtgfanoejohpmkaaGreatQp5
import Derived.Test.YtgfanoejohpmkaaGreatQp3
import Derived.Deep.RegionHeld3
import Derived.BigQuiet
import Derived.Deep.QuietTactic
import Derived.Deep.Draws
import Derived.Deep.AppendLies
import Derived.Shelf.Spec.SlicesInsert
namespace Go.Proofs.YtgfanoejohpmkaaGreat
open Go.RowKit
set_option linter.unusedVariables false
def NewB (p : Int) (c : Nat) (A : List (List Int)) (w : World) (e : Ending) (w' : World) : Prop :=
 ∃ r k m, e = .returned (.slice r m.length k) ∧ MatIn w.heap.size w'.heap.size w' r m ∧ IsBas p c A m ∧ Below w.heap.size w w'
def sig (d f i : Nat) : Nat := if i = f then d else i
def scaled (p : Int) (m : List (List Int)) (f k : Nat) : List Int := sclR p (rw' m f) (inv p (at' m f k))
def doneRow (p : Int) (m : List (List Int)) (d f k i : Nat) : List Int := if i = d then scaled p m f k else plusR p (rw' m (sig d f i)) (scaled p m f k) ((p - at' m (sig d f i) k) % p)
def midRow (p : Int) (m : List (List Int)) (d f k i : Nat) : List Int := if i = d then scaled p m f k else rw' m (sig d f i)
def rowsAt (p : Int) (m : List (List Int)) (d f k i : Nat) : List (List Int) := (List.range m.length).map fun j => if j < i then doneRow p m d f k j else midRow p m d f k j
theorem rowsAt_len (p : Int) (m : List (List Int)) (d f k i : Nat) : (rowsAt p m d f k i).length = m.length := by simp [rowsAt]
theorem rowsAt_row {p : Int} {m : List (List Int)} {d f k i j : Nat} (h : j < m.length) : rw' (rowsAt p m d f k i) j = if j < i then doneRow p m d f k j else midRow p m d f k j := by simp [rowsAt, rw', List.getD, h]
theorem rowsAt_start {p : Int} {m : List (List Int)} {d f k : Nat} (hd : d < m.length) (hf : f < m.length) : (m.set f (rw' m d)).set d (scaled p m f k) = rowsAt p m d f k 0 := by
 refine mat_ext (by simp [rowsAt_len]) (fun j hj => ?_)
 simp only [List.length_set] at hj
 rw [rw_set _ (by simpa using hd), rw_set _ hf, rowsAt_row hj, if_neg (Nat.not_lt_zero _)]
 unfold midRow sig
 by_cases e : j = d
 · rw [if_pos e, if_pos e]
 · rw [if_neg e, if_neg e]
   by_cases e' : j = f
   · rw [if_pos e', if_pos e']
   · rw [if_neg e', if_neg e']
theorem rowsAt_next {p : Int} {m : List (List Int)} {d f k i : Nat} (hi : i < m.length) (hne : i ≠ d) : (rowsAt p m d f k i).set i (doneRow p m d f k i) = rowsAt p m d f k (i + 1) := by
 refine mat_ext (by simp [rowsAt_len]) (fun j hj => ?_)
 simp only [List.length_set, rowsAt_len] at hj
 rw [rw_set _ (by rw [rowsAt_len]; exact hi), rowsAt_row hj, rowsAt_row hj]
 by_cases e : j = i
 · subst e; rw [if_pos rfl, if_pos (by omega)]
 · rw [if_neg e]
   by_cases e' : j < i
   · rw [if_pos e', if_pos (by omega)]
   · rw [if_neg e', if_neg (by omega)]
theorem rowsAt_skip {p : Int} {m : List (List Int)} {d f k : Nat} : rowsAt p m d f k d = rowsAt p m d f k (d + 1) := by
 refine mat_ext (by simp [rowsAt_len]) (fun j hj => ?_)
 rw [rowsAt_len] at hj
 rw [rowsAt_row hj, rowsAt_row hj]
 by_cases e : j = d
 · subst e; rw [if_neg (Nat.lt_irrefl _), if_pos (by omega)]; unfold doneRow midRow; rw [if_pos rfl, if_pos rfl]
 · by_cases e' : j < d
   · rw [if_pos e', if_pos (by omega)]
   · rw [if_neg e', if_neg (by omega)]
theorem ColAt.rows {p : Int} {c : Nat} {A m : List (List Int)} {d k f : Nat} {P : Nat → Nat} (hp : prm p = true) (h : ColAt p c A m d k P) (hk : k < c) (hdf : d ≤ f) (hf : f < m.length) (ha : 1 ≤ at' m f k) :
 ColAt p c A (rowsAt p m d f k m.length) (d + 1) (k + 1) (fun i => if i = d then k else P i) := by
 have hL : ∀ i, i < m.length → rw' (rowsAt p m d f k m.length) i = doneRow p m d f k i := fun i hi => by rw [rowsAt_row hi, if_pos hi]
 have hsig : ∀ i, i < m.length → sig d f i < m.length := fun i hi => by unfold sig; split <;> omega
 have hdm : d < m.length := by omega
 have hS : (scaled p m f k).length = c := by unfold scaled sclR; rw [mkR_len, h.len f hf]
 refine h.pick hp hk hdf hf ha (rowsAt_len _ _ _ _ _ _) (fun i hi => ?_) (fun j hj => ?_) (fun i hi hne j hj => ?_)
 · rw [rowsAt_len] at hi
   rw [hL i hi]
   unfold doneRow
   split
   · exact hS
   · unfold plusR; rw [mkR_len]; exact h.len _ (hsig i hi)
 · have e : at' (rowsAt p m d f k m.length) d j = (scaled p m f k).getD j 0 := by unfold at'; rw [hL d hdm]; unfold doneRow; rw [if_pos rfl]
   rw [e]
   unfold scaled sclR
   rw [mkR_at _ (by rw [h.len f hf]; exact hj)]; rfl
 · have e : at' (rowsAt p m d f k m.length) i j = (plusR p (rw' m (sig d f i)) (scaled p m f k) ((p - at' m (sig d f i) k) % p)).getD j 0 := by unfold at'; rw [hL i hi]; unfold doneRow; rw [if_neg hne]; rfl
   have e2 : at' (rowsAt p m d f k m.length) d j = (scaled p m f k).getD j 0 := by unfold at'; rw [hL d hdm]; unfold doneRow; rw [if_pos rfl]
   rw [e, e2]
   unfold plusR
   rw [mkR_at _ (by rw [h.len _ (hsig i hi)]; exact hj)]; rfl
theorem opposite_any (p a : Int) (w : World) (hp : prm p = true) (a0 : 0 ≤ a) (a1 : a < p) :
 Calls Tryz.prog 230 #[.int .i64 p, .int .i64 a] w fun e w' => e = .returned (.int .i64 (-a % p)) ∧ w = w' := by
 have hb := prm_bd hp
 have e2 : IntKind.i64.wrap (p - a) = p - a := IntWalk.i64_in _ (by omega)
 have hyy : (p - a) % p = -a % p := by simp
 have e3 : (p - a).tmod p = -a % p := (Int.tmod_eq_emod_of_nonneg (by omega)).trans hyy
 have hp0 : ¬ p = 0 := by omega
 have hp1 : (p == 0) = false := by simpa using hp0
 clear hyy hp
 go_enter Tryz.func230, Tryz.ntmps230
 go_wp2
 go_ret
 exact ⟨rfl, rfl⟩
theorem isNot0_any (x : Int) (w : World) :
 Calls Tryz.prog 260 #[.int .i64 x] w fun e w' => e = .returned (.bool (x != 0)) ∧ w = w' := by
 go_enter Tryz.func260, Tryz.ntmps260
 go_wp2
 go_ret
 exact ⟨rfl, rfl⟩
def fstAt (z : List Int) (k : Nat) : Prop := k < z.length ∧ (∀ j, j < k → z.getD j 0 = 0) ∧ z.getD k 0 ≠ 0
set_option maxHeartbeats 800000 in
theorem indexFunc_yes (a : Option Addr) (z : List Int) (n k ca lo tp : Nat) (w : World) (hz : RowIn lo tp w a z) (hn : z.length = n) (hl : n ≤ 1024) (hk : fstAt z k) :
 Calls Tryz.prog 250 #[.slice a n ca, .func (.func 260) #[] #[]] w fun e w' => e = .returned (.int .i64 k) ∧ w = w' := by
 subst hn
 have HZ := Lib.hid hz
 have HK := Lib.hid hk
 clear hz hk
 go_enter Tryz.func250, Tryz.ntmps250
 go_wp2
 go_loop [8] (fun t => ∃ i : Nat, i ≤ k ∧ t = .int .i64 i) (fun t => z.length - (intOf t).toNat)
 case atStart => exact ⟨0, Nat.zero_le _, rfl⟩
 case round =>
  obtain ⟨i, hi, rfl⟩ := hrel
  have hkl := HK.out.1
  have hi1 : (i : Int) < (z.length : Int) := by omega
  obtain ⟨b1, o1, ha1, _, _, hc1⟩ := HZ.out.num (by omega : i < z.length)
  subst ha1
  by_cases e : i = k
  · subst e
    have h3 := HK.out.2.2
    obtain ⟨x, hx⟩ : ∃ x, x = z.getD i 0 := ⟨_, rfl⟩
    rw [← hx] at hc1 h3
    have HX : Hid ((x != 0) = true) := by show _ = _; simpa using h3
    clear hx h3
    go_wp2_with (go_at_call 260; refine (isNot0_any x _).mono ?_; rintro e w1 ⟨rfl, rfl⟩; rw [HX.out])
    go_ret
    exact ⟨rfl, rfl⟩
  · have h2 := HK.out.2.1 i (by omega)
    rw [h2] at hc1
    go_wp2_with (go_at_call 260; refine (isNot0_any 0 _).mono ?_; rintro e w1 ⟨rfl, rfl⟩)
    go_round
    case rel => exact ⟨i + 1, by omega, by go_num⟩
    case measure => simp [intOf]; omega
set_option maxHeartbeats 800000 in
theorem indexFunc_no (a : Option Addr) (z : List Int) (n ca lo tp : Nat) (w : World) (hz : RowIn lo tp w a z) (hn : z.length = n) (hl : n ≤ 1024) (hk : ∀ j, j < z.length → z.getD j 0 = 0) :
 Calls Tryz.prog 250 #[.slice a n ca, .func (.func 260) #[] #[]] w fun e w' => e = .returned (.int .i64 (-1)) ∧ w = w' := by
 subst hn
 have HZ := Lib.hid hz
 have HK := Lib.hid hk
 clear hz hk
 go_enter Tryz.func250, Tryz.ntmps250
 go_wp2
 go_loop [8] (fun t => ∃ i : Nat, i ≤ z.length ∧ t = .int .i64 i) (fun t => z.length - (intOf t).toNat)
 case atStart => exact ⟨0, Nat.zero_le _, rfl⟩
 case round =>
  obtain ⟨i, hi, rfl⟩ := hrel
  by_cases hlt : i < z.length
  · have hi1 : (i : Int) < (z.length : Int) := by omega
    obtain ⟨b1, o1, ha1, _, _, hc1⟩ := HZ.out.num hlt
    subst ha1
    rw [HK.out i hlt] at hc1
    go_wp2_with (go_at_call 260; refine (isNot0_any 0 _).mono ?_; rintro e w1 ⟨rfl, rfl⟩)
    go_round
    case rel => exact ⟨i + 1, by omega, by go_num⟩
    case measure => simp [intOf]; omega
  · have hn : i = z.length := by omega
    subst hn
    go_wp2
    go_ret
    exact ⟨rfl, rfl⟩
theorem fst_cases (z : List Int) : (∃ k, fstAt z k) ∨ ∀ j, j < z.length → z.getD j 0 = 0 := by
 by_cases h : ∀ j, j < z.length → z.getD j 0 = 0
 · exact .inr h
 · left
   have h2 : ∃ k, k < z.length ∧ z.getD k 0 ≠ 0 := Classical.byContradiction fun c => h fun j hj => Classical.byContradiction fun d => c ⟨j, hj, d⟩
   have key : ∀ n, (∃ k, k ≤ n ∧ k < z.length ∧ z.getD k 0 ≠ 0) → ∃ k, fstAt z k := by
    intro n
    induction n with
    | zero =>
     rintro ⟨k, h1, h2, h3⟩
     have : k = 0 := by omega
     subst this
     exact ⟨0, h2, fun j hj => by omega, h3⟩
    | succ n ih =>
     rintro ⟨k, h1, h2, h3⟩
     by_cases e : ∃ k, k ≤ n ∧ k < z.length ∧ z.getD k 0 ≠ 0
     · exact ih e
     · refine ⟨k, h2, fun j hj => Classical.byContradiction fun d => e ⟨j, by omega, by omega, d⟩, h3⟩
   obtain ⟨k, k1, k2⟩ := h2
   exact key k ⟨k, Nat.le_refl _, k1, k2⟩
end Go.Proofs.YtgfanoejohpmkaaGreat
namespace Go.Proofs.YtgfanoejohpmkaaGreat
open Go.RowKit Go.ChangeShapes Go.WideShapes
set_option linter.unusedVariables false
def IntsIn (lo tp : Nat) (w : World) (a : Option Addr) (n : Nat) (P : Nat → Nat) : Prop :=
 n = 0 ∨ ∃ b o, a = some ⟨b, o, none⟩ ∧ lo ≤ b ∧ b < tp ∧ ∀ j, j < n → w.cell? ⟨b, o + j, none⟩ = some (.int .i64 (P j))
theorem IntsIn.at {lo tp : Nat} {w : World} {a : Option Addr} {n : Nat} {P : Nat → Nat} (h : IntsIn lo tp w a n P) {j : Nat} (hj : j < n) : ∃ b o, a = some ⟨b, o, none⟩ ∧ lo ≤ b ∧ b < tp ∧ w.cell? ⟨b, o + j, none⟩ = some (.int .i64 (P j)) := by
 rcases h with h | ⟨b, o, ha, h1, h2, hc⟩
 · omega
 · exact ⟨b, o, ha, h1, h2, hc j hj⟩
theorem isNaNc_any (x : Int) (w : World) : Calls Tryz.prog 277 #[.int .i64 x] w fun e w' => e = .returned (.bool false) ∧ w = w' := by
 go_enter Tryz.func277, Tryz.ntmps277
 go_wp2
 go_ret
 exact ⟨rfl, rfl⟩
theorem isNaNs_any (x : Int) (w : World) : Calls Tryz.prog 272 #[.int .i64 x] w fun e w' => e = .returned (.bool false) ∧ w = w' := by
 go_enter Tryz.func272, Tryz.ntmps272
 go_wp2
 go_ret
 exact ⟨rfl, rfl⟩
theorem less_any (x y : Int) (w : World) : Calls Tryz.prog 271 #[.int .i64 x, .int .i64 y] w fun e w' => e = .returned (.bool (decide (x < y))) ∧ Quiet w w' := by
 go_enter Tryz.func271, Tryz.ntmps271
 go_wp2_with (go_at_call 277; refine (isNaNc_any _ _).mono ?_; rintro e w1 ⟨rfl, rfl⟩)
 all_goals (go_ret; exact ⟨by simp, Quiet.refl _⟩)
set_option maxRecDepth 100000 in
set_option maxHeartbeats 1600000 in
theorem search_any (a : Option Addr) (n ca lo tp q : Nat) (P : Nat → Nat) (w : World) (hP : IntsIn lo tp w a n P) (hn : n ≤ 1024) (hq : q ≤ 1024) (hb : ∀ i, i < n → P i ≤ 1024) (hm : ∀ i i', i < i' → i' < n → P i < P i') (hne : ∀ i, i < n → P i ≠ q) :
 Calls Tryz.prog 261 #[.slice a n ca, .int .i64 q] w fun e w' => ∃ t : Nat, e = .returned (.tuple #[.int .i64 t, .bool false]) ∧ Quiet w w' ∧ t ≤ n ∧ (∀ i, i < t → P i < q) ∧ ∀ i, t ≤ i → i < n → q < P i := by
 have HP := Lib.hid hP
 have HB := Lib.hid hb
 have HM := Lib.hid hm
 have HE := Lib.hid hne
 clear hP hb hm hne
 go_enter Tryz.func261, Tryz.ntmps261
 go_wp2
 go_loopw [7, 8] (fun s t wr => ∃ i j : Nat, i ≤ j ∧ j ≤ n ∧ s = .int .i64 i ∧ t = .int .i64 j ∧ Quiet w wr ∧ (∀ k, k < i → P k < q) ∧ ∀ k, j ≤ k → k < n → q < P k) (fun s t _ => (intOf t).toNat - (intOf s).toNat)
 case atStart => exact ⟨0, n, Nat.zero_le _, Nat.le_refl _, rfl, rfl, Quiet.refl _, fun k hk => by omega, fun k hk hk2 => by omega⟩
 case round =>
  obtain ⟨i, j, hij, hj, rfl, rfl, hqt, h1, h2⟩ := hrel
  have HQ := Lib.hid hqt
  have H1 := Lib.hid h1
  have H2 := Lib.hid h2
  clear h1 h2
  by_cases hlt : i < j
  · have hi1 : (i : Int) < (j : Int) := by omega
    obtain ⟨h, hdef⟩ : ∃ h, h = (i + j) / 2 := ⟨_, rfl⟩
    have hh : ((i : Int) + (j : Int)) / 2 = (h : Int) := by omega
    have hih : i ≤ h := by omega
    have hhj : h < j := by omega
    have hh1 : (h : Int) < (n : Int) := by omega
    obtain ⟨b1, o1, ha1, _, _, hc0⟩ := HP.out.at (by omega : h < n)
    subst ha1
    have hc1 := ((hqt.below _).cell (p := ⟨b1, o1 + h, none⟩) (by assumption)).trans hc0
    have hpb := HB.out h (by omega)
    have hne := HE.out h (by omega)
    clear hc0 hqt hdef
    by_cases hx : P h < q
    · have HD : Hid (decide ((P h : Int) < (q : Int)) = true) := by show _ = _; simp; exact hx
      go_wp2_with (go_at_call 271; refine (less_any _ _ _).mono ?_; rintro e w1 ⟨rfl, hq1⟩; rw [HD.out]; have HQ1 := Lib.hid hq1; clear hq1)
      go_roundw
      case rel => exact ⟨h + 1, j, by omega, by omega, by go_num, rfl, HQ.out.trans HQ1.out, fun k hk => by
       by_cases e : k = h
       · subst e; exact hx
       · have := HM.out k h (by omega) (by omega); omega, H2.out⟩
      case measure => simp [intOf]; omega
    · have HD : Hid (decide ((P h : Int) < (q : Int)) = false) := by show _ = _; simp; omega
      go_wp2_with (go_at_call 271; refine (less_any _ _ _).mono ?_; rintro e w1 ⟨rfl, hq1⟩; rw [HD.out]; have HQ1 := Lib.hid hq1; clear hq1)
      go_roundw
      case rel => exact ⟨i, h, by omega, by omega, rfl, rfl, HQ.out.trans HQ1.out, H1.out, fun k hk hk2 => by
       by_cases e : k = h
       · subst e; omega
       · have := HM.out h k (by omega) (by omega); omega⟩
      case measure => simp [intOf]; omega
  · have hij : i = j := by omega
    subst hij
    by_cases hin : i < n
    · have hi1 : (i : Int) < (n : Int) := by omega
      obtain ⟨b1, o1, ha1, _, _, hc0⟩ := HP.out.at hin
      subst ha1
      have hc1 := ((hqt.below _).cell (p := ⟨b1, o1 + i, none⟩) (by assumption)).trans hc0
      have hne := HE.out i hin
      have hne1 : ((P i : Int) == (q : Int)) = false := by simp; omega
      have hne2 : ¬ (P i : Int) = (q : Int) := by omega
      clear hc0 hqt
      go_wp2_with (go_at_call 272; refine (isNaNs_any _ _).mono ?_; rintro e w1 ⟨rfl, rfl⟩)
      all_goals (refine bodyPost_ret (v := .tuple #[.int .i64 i, .bool false]) (by simp [results, Tryz.results261, go_sem]) rfl ⟨i, rfl, HQ.out, hj, H1.out, H2.out⟩)
    · have hin2 : ¬ (i : Int) < (n : Int) := by omega
      clear hqt
      go_wp2
      refine bodyPost_ret (v := .tuple #[.int .i64 i, .bool false]) (by simp [results, Tryz.results261, go_sem]) rfl ⟨i, rfl, HQ.out, hj, H1.out, H2.out⟩
end Go.Proofs.YtgfanoejohpmkaaGreat
namespace Go.Proofs.YtgfanoejohpmkaaGreat
open Go.RowKit Go.ChangeShapes Go.WideShapes
set_option linter.unusedVariables false
theorem info_place : (Tryz.prog.info? 3).map (fun i => (i.zero, i.size, i.bytes)) = some (some (.int .i64 0), 1, 8) := by kernel_rfl
def InsP (E : TypeId) (B : Nat) (v : Value) (n : Nat) (Y : List Value) (w : World) (e : Ending) (w' : World) : Prop :=
 ∃ g cap, e = .returned (.slice (some ⟨g, 0, none⟩) (n + 1) cap) ∧ w'.ownsRow B E 1 (.slice (some ⟨g, 0, none⟩) (n + 1) cap) (n + 1) Y ∧ w.grownBy w' v.ownBlock ∧ (v.ownBlock = some g ∨ g = w.heap.size)
theorem room_list {C V : List Value} {x : Value} {i n : Nat} (h : C.take n = V) (hi : i < n) (hn : n < C.length) :
 ((C.take (i + 1) ++ V.drop i ++ C.drop (i + 1 + (V.drop i).length)).toArray.toList.take i ++ [x] ++ (C.take (i + 1) ++ V.drop i ++ C.drop (i + 1 + (V.drop i).length)).toArray.toList.drop (i + ([x] : List Value).length)).toArray.toList.take (n + 1) = V.take i ++ x :: V.drop i := by
 show (List.take i (C.take (i + 1) ++ V.drop i ++ C.drop (i + 1 + (V.drop i).length)) ++ [x] ++ List.drop (i + 1) (C.take (i + 1) ++ V.drop i ++ C.drop (i + 1 + (V.drop i).length))).take (n + 1) = _
 have hl : (C.take (i + 1)).length = i + 1 := by rw [List.length_take]; omega
 have hV : V.length = n := by rw [← h, List.length_take]; omega
 have e1 : C.take i = V.take i := by rw [← h, List.take_take, Nat.min_eq_left (by omega)]
 have t1 : List.take i (C.take (i + 1) ++ V.drop i ++ C.drop (i + 1 + (V.drop i).length)) = V.take i := by
  rw [List.append_assoc, List.take_append_of_le_length (by omega), List.take_take, Nat.min_eq_left (by omega), e1]
 have t2 : List.drop (i + 1) (C.take (i + 1) ++ V.drop i ++ C.drop (i + 1 + (V.drop i).length)) = V.drop i ++ C.drop (i + 1 + (V.drop i).length) := by
  rw [List.append_assoc, List.drop_left' hl]
 rw [t1, t2, ← List.append_assoc, List.take_left' (by simp; omega)]
 simp
theorem one_at {w : World} {b1 : Nat} {x : Value} (hx : w.cell? ⟨b1, 0, none⟩ = some x) : ∀ j u, ([x] : List Value)[j]? = some u → w.cell? ((⟨b1, 0, none⟩ : Addr).add j) = some u := by
 intro j u hj
 match j, hj with
 | 0, hj => simp at hj; subst hj; exact hx
set_option maxRecDepth 100000 in
set_option maxHeartbeats 1600000 in
theorem insertM_end (B n b1 c1 : Nat) (v x : Value) (vals : List Value) (w : World) (ho : w.ownsRow B 24 1 v n vals) (hB : B ≤ w.heap.size) (hn : n ≤ 1024) (hx : w.cell? ⟨b1, 0, none⟩ = some x) (h1 : x.oneCell' = true) :
 Calls Tryz.prog 262 #[v, .int .i64 n, .slice (some ⟨b1, 0, none⟩) 1 c1] w (InsP 24 B v n (vals ++ [x]) w) := by
 obtain ⟨j0, kj, kz0, kz1, kz2⟩ := info_parts info_slice
 have HN := Lib.hid (one_at hx)
 have HX : Hid (∀ u : Value, u ∈ [x] → u.oneCell' = true) := fun u hu => by simp at hu; subst hu; exact h1
 have ho' := ho.2
 have HO := Lib.hid ho
 clear ho hx h1
 rcases ho' with ⟨rfl, rfl⟩ | ⟨g, cap, cur, rfl, hb, hg, hnc, hcm, hcs, htake⟩
 · go_enter Tryz.func262, Tryz.ntmps262
   go_wp2_with (at_builtin; refine wpList_append_lies _ rfl _ _ 27 rfl B 24 j0 (.slice none 0 0) 1 24 Tryz.underlying27 kj kz0 kz1 kz2 rfl (by decide) (.slice none 0 0) 0 vals rfl HO.out ⟨b1, 0, none⟩ 1 c1 [x] rfl rfl HN.out HX.out (by omega) (by unfold maxLen; omega) (by omega) hB w.heap.size rfl ?_; intro gg cap' w1 hown1 hgrow hat hlt1)
   all_goals (go_ret; exact ⟨gg, cap', rfl, hown1, hgrow, hat⟩)
 · clear hg htake hcs
   go_enter Tryz.func262, Tryz.ntmps262
   go_wp2_with (at_builtin; refine wpList_append_lies _ rfl _ _ 27 rfl B 24 j0 (.slice none 0 0) 1 24 Tryz.underlying27 kj kz0 kz1 kz2 rfl (by decide) (.slice (some ⟨g, 0, none⟩) n cap) n vals rfl HO.out ⟨b1, 0, none⟩ 1 c1 [x] rfl rfl HN.out HX.out (by omega) (by unfold maxLen; omega) (by omega) hB w.heap.size rfl ?_; intro gg cap' w1 hown1 hgrow hat hlt1)
   all_goals (go_ret; exact ⟨gg, cap', rfl, hown1, hgrow, hat⟩)
/-! ### The other roads -/
set_option maxRecDepth 100000 in
theorem overlapsM_run (w : World) (a b : Addr) (la ca lb cb : Nat) (hne : a.block ≠ b.block) (tA tB : TypeId) (kA kB : Nat) (hA : w.shape? a.block = some (tA, kA)) (hB : w.shape? b.block = some (tB, kB)) (hk : kB ≠ 0) (f0 : w.frozen? a = false) (f1 : w.frozen? ⟨a.block, kA, none⟩ = false) :
 Sem.run Tryz.prog (callFunc 273 #[.slice (some a) la ca, .slice (some b) lb cb]) w = .ok (.value (.bool false)) w := by
 have h := Lib.run_overlaps_apart (P := Tryz.prog) w 27 4 24 Tryz.underlying27 1 (fun w => by kernel_rfl) a b la ca lb cb hne tA tB kA kB hA hB hk f0 f1
 have e1 : Extern.findNext Tryz.f273 = none := by kernel_rfl
 have e2 : Extern.find Tryz.f273 = some (Extern.SlicesOverlaps.overlaps #[27, 27] #[4]) := by kernel_rfl
 have e3 : Tryz.f273.body = none := by kernel_rfl
 have e4' : (Tryz.f273.name == "runtime.NumGoroutine") = false := by kernel_rfl
 have e4 : ¬ Tryz.f273.name = "runtime.NumGoroutine" := by simpa using e4'
 simp [callFunc, go_sem, Tryz.func273, e1, e2, e3, e4, h]
set_option maxRecDepth 100000 in
set_option maxHeartbeats 1600000 in
theorem insertM_room (B n g cap i b1 c1 : Nat) (x : Value) (vals : List Value) (w : World) (ho : w.ownsRow B 24 1 (.slice (some ⟨g, 0, none⟩) n cap) n vals) (hi : i < n) (hc : n + 1 ≤ cap) (hn : n ≤ 1024) (hb1 : w.heap[b1]? = some (.cells #[x] 24 (0, 0))) (hne : b1 ≠ g) (h1 : x.oneCell' = true) (hall : ∀ u : Value, u ∈ vals → u.oneCell' = true) :
 Calls Tryz.prog 262 #[.slice (some ⟨g, 0, none⟩) n cap, .int .i64 i, .slice (some ⟨b1, 0, none⟩) 1 c1] w (InsP 24 B (.slice (some ⟨g, 0, none⟩) n cap) n (vals.take i ++ x :: vals.drop i) w) := by
 obtain ⟨j0, kj, kz0, kz1, kz2⟩ := info_parts info_slice
 obtain ⟨cur, hBg, hg, hcm, hcs, hv⟩ : ∃ cur, B ≤ g ∧ w.heap[g]? = some (.cells cur 24 (0, 0)) ∧ cap ≤ maxLen ∧ cur.size = cap ∧ cur.toList.take n = vals := by
  rcases ho.2 with ⟨h, _⟩ | ⟨g', cap', cur, h, q1, q2, q3, q4, q5, q6⟩
  · simp at h
  · cases h; exact ⟨cur, q1, q2, q4, by omega, by rw [Nat.mul_one] at q6; exact q6⟩
 obtain ⟨d1, hd1⟩ : ∃ d1, d1 = (cur.toList.take (i + 1) ++ vals.drop i ++ cur.toList.drop (i + 1 + (vals.drop i).length)).toArray := ⟨_, rfl⟩
 obtain ⟨d2, hd2⟩ : ∃ d2, d2 = (d1.toList.take i ++ [x] ++ d1.toList.drop (i + ([x] : List Value).length)).toArray := ⟨_, rfl⟩
 have hvl : vals.length = n := by rw [← hv, List.length_take]; simp; omega
 have hdl : (vals.drop i).length = n - i := by rw [List.length_drop]; omega
 have hd1s : d1.size = cap := by rw [hd1]; simp; omega
 have hd2s : d2.size = cap := by rw [hd2]; simp; omega
 have hcell : ∀ j v, vals[j]? = some v → w.cell? ⟨g, 0 + j, none⟩ = some v := fun j v hj => by
  have h := ho.cells (g := g) rfl j v hj
  rwa [Addr.add_lit] at h
 have hsz := (Array.getElem?_eq_some_iff.1 hg).1
 have R1 := run_copy_row Tryz.prog w.drew 27 27 3 24 g (i + 1) (n - i) (cap - (i + 1)) ⟨g, i, none⟩ (n + 1 - i) (cap - i) cur 24 (vals.drop i) Tryz.underlying27 (by simp [kj, kz1]) hg
  (by rw [hdl]; exact (Nat.min_eq_right (by omega)).symm) (fun j v hj => by
   rw [List.getElem?_drop] at hj
   have := hcell (i + j) v hj
   rw [Nat.zero_add] at this
   rw [Addr.add_lit]; exact this) (by omega) (fun u hu => hall u (List.mem_of_mem_drop hu))
 rw [← hd1] at R1
 have R2 := run_copy_row Tryz.prog (w.drew.setRow g d1) 27 27 3 24 g i (n + 1 - i) (cap - i) ⟨b1, 0, none⟩ 1 c1 d1 24 [x] Tryz.underlying27 (by simp [kj, kz1]) (setRow_heap w.drew g cur d1 24 (0, 0) hg)
  (by show 1 = Nat.min 1 (n + 1 - i); exact (Nat.min_eq_left (by omega)).symm) (fun j v hj => by
   match j, hj with
   | 0, hj =>
    simp at hj; subst hj
    show (w.drew.setRow g d1).cell? ⟨b1, 0, none⟩ = some x
    rw [cell_setRow_other _ _ _ _ hne]
    have hb1d : w.drew.heap[b1]? = some (.cells #[x] 24 (0, 0)) := hb1
    simp [World.cell?, hb1d]) (by simp; omega) (fun u hu => by simp at hu; subst hu; exact h1)
 rw [← hd2] at R2
 have HR1 := Lib.hid R1
 have HR2 := Lib.hid R2
 have HF : Hid (InsP 24 B (.slice (some ⟨g, 0, none⟩) n cap) n (vals.take i ++ x :: vals.drop i) w (.returned (.slice (some ⟨g, 0, none⟩) (n + 1) cap)) ((w.drew.setRow g d1).setRow g d2)) := by
  refine ⟨g, cap, rfl, ⟨by simp; omega, .inr ⟨g, cap, d2, rfl, hBg, setRow_heap (w.drew.setRow g d1) g d1 d2 24 (0, 0) (setRow_heap w.drew g cur d1 24 (0, 0) hg), hc, hcm, by omega, ?_⟩⟩, ?_, .inl rfl⟩
  · rw [Nat.mul_one, hd2, hd1]
    exact room_list hv hi (by simp; omega)
  · refine ⟨rfl, rfl, rfl, by rw [setRow_size, setRow_size]; exact Nat.le_refl _, fun k hk hk2 => ?_⟩
    have hkg : k ≠ g := fun e => hk2 (by rw [e]; rfl)
    rw [setRow_other _ _ _ _ hkg, setRow_other _ _ _ _ hkg]; rfl
 have OV := overlapsM_run w ⟨b1, 0, none⟩ ⟨g, i + 1, none⟩ 1 c1 (n - i) (cap - (i + 1)) hne 24 24 1 cap (by simp [World.shape?, hb1]) (by simp [World.shape?, hg, hcs]) (by omega) (free_of hb1 0) (free_of hb1 1)
 have hi1 : ¬ (i : Int) = (n : Int) := by omega
 have hi2 : ((i : Int) == (n : Int)) = false := by simp; omega
 have hi3 : ¬ (cap : Int) < (n : Int) + 1 := by omega
 have eW : IntKind.i64.wrap ((i : Int) + 1) = (i : Int) + 1 := IntWalk.i64_in _ (by omega)
 have eN : ((i : Int) + 1).toNat = i + 1 := by omega
 have eB : 0 ≤ (i : Int) + 1 := by omega
 have eC : (i : Int) + 1 ≤ (n : Int) + 1 := by omega
 have eD : ¬ cap = i + 1 := by omega
 have eE : ¬ cap = i := by omega
 have eF : (i : Int) ≤ (n : Int) + 1 := by omega
 clear R1 R2 hd1 hd2 hd1s hd2s hcell hvl hdl hv hg hb1 ho hcs
 go_enter Tryz.func262, Tryz.ntmps262
 go_wp2
 go_region_law (refine step_copy_runI (by rfl) _ _ _ _ (by rfl) (.slice (some ⟨g, i + 1, none⟩) (n - i) (cap - (i + 1))) (.slice (some ⟨g, i, none⟩) (n + 1 - i) (cap - i)) (by simp [Act.eval, Act.put]) (by simp [Act.eval, Act.put]) HR1.out ?_)
 have R2 := HR2.out
 clear OV
 go_wp2
 go_ret
 exact HF.out
set_option maxRecDepth 100000 in
set_option maxHeartbeats 1600000 in
theorem insertI_end (B n b1 c1 : Nat) (v x : Value) (vals : List Value) (w : World) (ho : w.ownsRow B 3 1 v n vals) (hB : B ≤ w.heap.size) (hn : n ≤ 1024) (hx : w.cell? ⟨b1, 0, none⟩ = some x) (h1 : x.oneCell' = true) :
 Calls Tryz.prog 263 #[v, .int .i64 n, .slice (some ⟨b1, 0, none⟩) 1 c1] w (InsP 3 B v n (vals ++ [x]) w) := by
 obtain ⟨j0, kj, kz0, kz1, kz2⟩ := info_parts info_place
 have HN := Lib.hid (one_at hx)
 have HX : Hid (∀ u : Value, u ∈ [x] → u.oneCell' = true) := fun u hu => by simp at hu; subst hu; exact h1
 have ho' := ho.2
 have HO := Lib.hid ho
 clear ho hx h1
 rcases ho' with ⟨rfl, rfl⟩ | ⟨g, cap, cur, rfl, hb, hg, hnc, hcm, hcs, htake⟩
 · go_enter Tryz.func263, Tryz.ntmps263
   go_wp2_with (at_builtin; refine wpList_append_lies _ rfl _ _ 141 rfl B 3 j0 (.int .i64 0) 1 8 Tryz.underlying141 kj kz0 kz1 kz2 rfl (by decide) (.slice none 0 0) 0 vals rfl HO.out ⟨b1, 0, none⟩ 1 c1 [x] rfl rfl HN.out HX.out (by omega) (by unfold maxLen; omega) (by omega) hB w.heap.size rfl ?_; intro gg cap' w1 hown1 hgrow hat hlt1)
   all_goals (go_ret; exact ⟨gg, cap', rfl, hown1, hgrow, hat⟩)
 · clear hg htake hcs
   go_enter Tryz.func263, Tryz.ntmps263
   go_wp2_with (at_builtin; refine wpList_append_lies _ rfl _ _ 141 rfl B 3 j0 (.int .i64 0) 1 8 Tryz.underlying141 kj kz0 kz1 kz2 rfl (by decide) (.slice (some ⟨g, 0, none⟩) n cap) n vals rfl HO.out ⟨b1, 0, none⟩ 1 c1 [x] rfl rfl HN.out HX.out (by omega) (by unfold maxLen; omega) (by omega) hB w.heap.size rfl ?_; intro gg cap' w1 hown1 hgrow hat hlt1)
   all_goals (go_ret; exact ⟨gg, cap', rfl, hown1, hgrow, hat⟩)
/-! ### The other roads -/
set_option maxRecDepth 100000 in
theorem overlapsI_run (w : World) (a b : Addr) (la ca lb cb : Nat) (hne : a.block ≠ b.block) (tA tB : TypeId) (kA kB : Nat) (hA : w.shape? a.block = some (tA, kA)) (hB : w.shape? b.block = some (tB, kB)) (hk : kB ≠ 0) (f0 : w.frozen? a = false) (f1 : w.frozen? ⟨a.block, kA, none⟩ = false) :
 Sem.run Tryz.prog (callFunc 275 #[.slice (some a) la ca, .slice (some b) lb cb]) w = .ok (.value (.bool false)) w := by
 have h := Lib.run_overlaps_apart (P := Tryz.prog) w 141 4 3 Tryz.underlying141 1 (fun w => by kernel_rfl) a b la ca lb cb hne tA tB kA kB hA hB hk f0 f1
 have e1 : Extern.findNext Tryz.f275 = none := by kernel_rfl
 have e2 : Extern.find Tryz.f275 = some (Extern.SlicesOverlaps.overlaps #[141, 141] #[4]) := by kernel_rfl
 have e3 : Tryz.f275.body = none := by kernel_rfl
 have e4' : (Tryz.f275.name == "runtime.NumGoroutine") = false := by kernel_rfl
 have e4 : ¬ Tryz.f275.name = "runtime.NumGoroutine" := by simpa using e4'
 simp [callFunc, go_sem, Tryz.func275, e1, e2, e3, e4, h]
set_option maxRecDepth 100000 in
set_option maxHeartbeats 1600000 in
theorem insertI_room (B n g cap i b1 c1 : Nat) (x : Value) (vals : List Value) (w : World) (ho : w.ownsRow B 3 1 (.slice (some ⟨g, 0, none⟩) n cap) n vals) (hi : i < n) (hc : n + 1 ≤ cap) (hn : n ≤ 1024) (hb1 : w.heap[b1]? = some (.cells #[x] 3 (0, 0))) (hne : b1 ≠ g) (h1 : x.oneCell' = true) (hall : ∀ u : Value, u ∈ vals → u.oneCell' = true) :
 Calls Tryz.prog 263 #[.slice (some ⟨g, 0, none⟩) n cap, .int .i64 i, .slice (some ⟨b1, 0, none⟩) 1 c1] w (InsP 3 B (.slice (some ⟨g, 0, none⟩) n cap) n (vals.take i ++ x :: vals.drop i) w) := by
 obtain ⟨j0, kj, kz0, kz1, kz2⟩ := info_parts info_place
 obtain ⟨cur, hBg, hg, hcm, hcs, hv⟩ : ∃ cur, B ≤ g ∧ w.heap[g]? = some (.cells cur 3 (0, 0)) ∧ cap ≤ maxLen ∧ cur.size = cap ∧ cur.toList.take n = vals := by
  rcases ho.2 with ⟨h, _⟩ | ⟨g', cap', cur, h, q1, q2, q3, q4, q5, q6⟩
  · simp at h
  · cases h; exact ⟨cur, q1, q2, q4, by omega, by rw [Nat.mul_one] at q6; exact q6⟩
 obtain ⟨d1, hd1⟩ : ∃ d1, d1 = (cur.toList.take (i + 1) ++ vals.drop i ++ cur.toList.drop (i + 1 + (vals.drop i).length)).toArray := ⟨_, rfl⟩
 obtain ⟨d2, hd2⟩ : ∃ d2, d2 = (d1.toList.take i ++ [x] ++ d1.toList.drop (i + ([x] : List Value).length)).toArray := ⟨_, rfl⟩
 have hvl : vals.length = n := by rw [← hv, List.length_take]; simp; omega
 have hdl : (vals.drop i).length = n - i := by rw [List.length_drop]; omega
 have hd1s : d1.size = cap := by rw [hd1]; simp; omega
 have hd2s : d2.size = cap := by rw [hd2]; simp; omega
 have hcell : ∀ j v, vals[j]? = some v → w.cell? ⟨g, 0 + j, none⟩ = some v := fun j v hj => by
  have h := ho.cells (g := g) rfl j v hj
  rwa [Addr.add_lit] at h
 have hsz := (Array.getElem?_eq_some_iff.1 hg).1
 have R1 := run_copy_row Tryz.prog w.drew 141 141 3 3 g (i + 1) (n - i) (cap - (i + 1)) ⟨g, i, none⟩ (n + 1 - i) (cap - i) cur 3 (vals.drop i) Tryz.underlying141 (by simp [kj, kz1]) hg
  (by rw [hdl]; exact (Nat.min_eq_right (by omega)).symm) (fun j v hj => by
   rw [List.getElem?_drop] at hj
   have := hcell (i + j) v hj
   rw [Nat.zero_add] at this
   rw [Addr.add_lit]; exact this) (by omega) (fun u hu => hall u (List.mem_of_mem_drop hu))
 rw [← hd1] at R1
 have R2 := run_copy_row Tryz.prog (w.drew.setRow g d1) 141 141 3 3 g i (n + 1 - i) (cap - i) ⟨b1, 0, none⟩ 1 c1 d1 3 [x] Tryz.underlying141 (by simp [kj, kz1]) (setRow_heap w.drew g cur d1 3 (0, 0) hg)
  (by show 1 = Nat.min 1 (n + 1 - i); exact (Nat.min_eq_left (by omega)).symm) (fun j v hj => by
   match j, hj with
   | 0, hj =>
    simp at hj; subst hj
    show (w.drew.setRow g d1).cell? ⟨b1, 0, none⟩ = some x
    rw [cell_setRow_other _ _ _ _ hne]
    have hb1d : w.drew.heap[b1]? = some (.cells #[x] 3 (0, 0)) := hb1
    simp [World.cell?, hb1d]) (by simp; omega) (fun u hu => by simp at hu; subst hu; exact h1)
 rw [← hd2] at R2
 have HR1 := Lib.hid R1
 have HR2 := Lib.hid R2
 have HF : Hid (InsP 3 B (.slice (some ⟨g, 0, none⟩) n cap) n (vals.take i ++ x :: vals.drop i) w (.returned (.slice (some ⟨g, 0, none⟩) (n + 1) cap)) ((w.drew.setRow g d1).setRow g d2)) := by
  refine ⟨g, cap, rfl, ⟨by simp; omega, .inr ⟨g, cap, d2, rfl, hBg, setRow_heap (w.drew.setRow g d1) g d1 d2 3 (0, 0) (setRow_heap w.drew g cur d1 3 (0, 0) hg), hc, hcm, by omega, ?_⟩⟩, ?_, .inl rfl⟩
  · rw [Nat.mul_one, hd2, hd1]
    exact room_list hv hi (by simp; omega)
  · refine ⟨rfl, rfl, rfl, by rw [setRow_size, setRow_size]; exact Nat.le_refl _, fun k hk hk2 => ?_⟩
    have hkg : k ≠ g := fun e => hk2 (by rw [e]; rfl)
    rw [setRow_other _ _ _ _ hkg, setRow_other _ _ _ _ hkg]; rfl
 have OV := overlapsI_run w ⟨b1, 0, none⟩ ⟨g, i + 1, none⟩ 1 c1 (n - i) (cap - (i + 1)) hne 3 3 1 cap (by simp [World.shape?, hb1]) (by simp [World.shape?, hg, hcs]) (by omega) (free_of hb1 0) (free_of hb1 1)
 have hi1 : ¬ (i : Int) = (n : Int) := by omega
 have hi2 : ((i : Int) == (n : Int)) = false := by simp; omega
 have hi3 : ¬ (cap : Int) < (n : Int) + 1 := by omega
 have eW : IntKind.i64.wrap ((i : Int) + 1) = (i : Int) + 1 := IntWalk.i64_in _ (by omega)
 have eN : ((i : Int) + 1).toNat = i + 1 := by omega
 have eB : 0 ≤ (i : Int) + 1 := by omega
 have eC : (i : Int) + 1 ≤ (n : Int) + 1 := by omega
 have eD : ¬ cap = i + 1 := by omega
 have eE : ¬ cap = i := by omega
 have eF : (i : Int) ≤ (n : Int) + 1 := by omega
 clear R1 R2 hd1 hd2 hd1s hd2s hcell hvl hdl hv hg hb1 ho hcs
 go_enter Tryz.func263, Tryz.ntmps263
 go_wp2
 go_region_law (refine step_copy_runI (by rfl) _ _ _ _ (by rfl) (.slice (some ⟨g, i + 1, none⟩) (n - i) (cap - (i + 1))) (.slice (some ⟨g, i, none⟩) (n + 1 - i) (cap - i)) (by simp [Act.eval, Act.put]) (by simp [Act.eval, Act.put]) HR1.out ?_)
 have R2 := HR2.out
 clear OV
 go_wp2
 go_ret
 exact HF.out
end Go.Proofs.YtgfanoejohpmkaaGreat