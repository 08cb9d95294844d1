/-
  A matrix whose outer list is one's own, each row in a block of numbers: rows are put in the place of others.
  No conditions.
  What inverses of numbers are, in the program and in the model: contracts (for a seat that holds no more of chapter 1).
  Conditions: the prime is one, the numbers are remainders by it.
  The model's reduced bases: a contract.
  Conditions: the list of vectors is a row of rows of known cells with numbers of the prime, all of one length.
  The program's opposites and first numbers: contracts.
  The program's search among the pivots: a contract.
-/
import Derived.Test.YtbnegbpapjcmhaaQa67
import Derived.Test.YtbnegbpapjcmhaaQa619
import Derived.Outline
import Derived.BigQuiet
import Derived.Deep.QuietTactic
import Derived.Deep.RegionHeld3
import Derived.RegionTactic
import Derived.Test.YtbnegbpapjcmhaaQa617
import Derived.Test.YtbnegbpapjcmhaaQa69
import Derived.Test.YtbnegbpapjcmhaaQa68
import Derived.Deep.Draws
namespace Go.Proofs.Ytbnegbpapjcmhaa
open Go.RowKit
set_option linter.unusedVariables false

/-- The outer list lies at the head of block b, the rows in blocks of numbers from lo on. -/
structure TopM (lo : Nat) (w : World) (b : Nat) (m : List (List Int)) : Prop where
  lob : lo ≤ b
  tag : ∃ cur, w.heap[b]? = some (.cells cur 22 (0, 0))
  row : ∀ i, i < m.length → ∃ r c, w.cell? ⟨b, i, none⟩ = some (.slice r (rw' m i).length c) ∧ TagR lo w.heap.size w r (rw' m i)
theorem TopM.lt {lo : Nat} {w : World} {b : Nat} {m : List (List Int)} (h : TopM lo w b m) : b < w.heap.size := by
  obtain ⟨cur, hb⟩ := h.tag
  exact (Array.getElem?_eq_some_iff.1 hb).1
theorem TopM.free {lo : Nat} {w : World} {b : Nat} {m : List (List Int)} (h : TopM lo w b m) (j : Nat) : w.frozen? ⟨b, j, none⟩ = false := by
  obtain ⟨cur, hb⟩ := h.tag
  exact free_of hb j
theorem TopM.below {lo : Nat} {w w' : World} {b : Nat} {m : List (List Int)} (h : TopM lo w b m) (hb : Below w.heap.size w w') : TopM lo w' b m where
  lob := h.lob
  tag := by obtain ⟨cur, hc⟩ := h.tag; exact ⟨cur, (hb.block b h.lt).trans hc⟩
  row i hi := by
    obtain ⟨r, c, h1, h2⟩ := h.row i hi
    exact ⟨r, c, (hb.cell (p := ⟨b, i, none⟩) h.lt).trans h1, h2.below hb (Nat.le_refl _) (Nat.le_refl _) hb.size⟩
theorem TopM.mono {lo lo' : Nat} {w : World} {b : Nat} {m : List (List Int)} (h : TopM lo w b m) (hl : lo' ≤ lo) : TopM lo' w b m where
  lob := Nat.le_trans hl h.lob
  tag := h.tag
  row i hi := by
    obtain ⟨r, c, h1, h2⟩ := h.row i hi
    exact ⟨r, c, h1, h2.block hl (Nat.le_refl _) (fun _ _ _ _ _ => rfl)⟩
theorem TopM.mat {lo : Nat} {w : World} {b : Nat} {m : List (List Int)} (h : TopM lo w b m) : MatIn lo w.heap.size w (some ⟨b, 0, none⟩) m :=
  .inr ⟨b, 0, rfl, h.lob, h.lt, fun i hi => by
    obtain ⟨r, c, h1, h2⟩ := h.row i hi
    exact ⟨r, c, by rw [Nat.zero_add]; exact h1, h2.row⟩⟩
theorem rw_set {m : List (List Int)} {i j : Nat} (z : List Int) (hi : i < m.length) : rw' (m.set i z) j = if j = i then z else rw' m j := by
  simp only [rw', List.getD_eq_getElem?_getD, List.getElem?_set]
  by_cases e : j = i
  · subst e; simp [hi]
  · rw [if_neg (fun h => e h.symm), if_neg e]
/-- Another row is put in the place of row i. -/
theorem TopM.set {lo : Nat} {w : World} {b i : Nat} {m : List (List Int)} {r : Option Addr} {z : List Int} {c : Nat} (h : TopM lo w b m) (hi : i < m.length) (hz : TagR lo w.heap.size w r z) :
    TopM lo (w.setCell ⟨b, i, none⟩ (.slice r z.length c)) b (m.set i z) := by
  obtain ⟨cur, hcur⟩ := h.tag
  have hsz : (w.setCell ⟨b, i, none⟩ (.slice r z.length c)).heap.size = w.heap.size := by simp [World.setCell]
  have keep : ∀ k cur', w.heap[k]? = some (Obj.cells cur' 2 (0, 0)) → (w.setCell ⟨b, i, none⟩ (.slice r z.length c)).heap[k]? = w.heap[k]? := fun k cur' hk =>
    Below.heap_setCell _ _ _ _ (fun e => by have e1 : k = b := e; subst e1; rw [hcur] at hk; simp at hk)
  obtain ⟨r0, c0, g0, _⟩ := h.row i hi
  refine ⟨h.lob, ⟨cur.setIfInBounds i (.slice r z.length c), by simp [World.setCell, Array.getElem?_modify, hcur]⟩, fun j hj => ?_⟩
  rw [List.length_set] at hj
  rw [rw_set z hi, hsz]
  by_cases e : j = i
  · subst e
    rw [if_pos rfl]
    exact ⟨r, c, World.cell?_setCell_same w _ _ g0, hz.block (Nat.le_refl _) (Nat.le_refl _) (fun k cur' _ _ hk => keep k cur' hk)⟩
  · rw [if_neg e]
    obtain ⟨r1, c1, g1, g2⟩ := h.row j hj
    exact ⟨r1, c1, (World.cell?_setCell_other _ _ _ _ (fun e2 => e (by injection e2 with _ e3; exact e3.symm))).trans g1, g2.block (Nat.le_refl _) (Nat.le_refl _) (fun k cur' _ _ hk => keep k cur' hk)⟩
theorem OutM.top {B : Nat} {w : World} {v : Value} {m : List (List Int)} (h : OutM B w v m) (h0 : 0 < m.length) : ∃ b c, v = .slice (some ⟨b, 0, none⟩) m.length c ∧ m.length ≤ c ∧ c ≤ maxLen ∧ TopM B w b m := by
  obtain ⟨vals, ho, hr⟩ := h
  rcases ho.2 with ⟨rfl, hn⟩ | ⟨g, cap, cur, rfl, hb, hg, hnc, hcm, hcs, htake⟩
  · omega
  · refine ⟨g, cap, rfl, hnc, hcm, hb, ⟨cur, hg⟩, fun i hi => ?_⟩
    obtain ⟨r, c, h1, h2⟩ := hr i hi
    refine ⟨r, c, ?_, h2⟩
    have := ho.cells (g := g) rfl i _ h1
    rwa [Addr.add_lit, Nat.zero_add] at this

theorem TagR.setTop {lo lo' tp : Nat} {w : World} {b i : Nat} {m : List (List Int)} {r : Option Addr} {z : List Int} {v : Value} (h : TopM lo w b m) (hz : TagR lo' tp w r z) : TagR lo' tp (w.setCell ⟨b, i, none⟩ v) r z := by
  obtain ⟨cur, hcur⟩ := h.tag
  exact hz.block (Nat.le_refl _) (Nat.le_refl _) (fun k cur' _ _ hk => Below.heap_setCell _ _ _ _ (fun e => by have e1 : k = b := e; subst e1; rw [hcur] at hk; simp at hk))

end Go.Proofs.Ytbnegbpapjcmhaa

namespace Go.Proofs.Ytbnegbpapjcmhaa
open Go.RowKit
set_option linter.unusedVariables false

theorem l01Inv_any (p a : Int) (w : World) (hp : prm p = true) (a0 : 1 ≤ a) (a1 : a < p) :
    Calls Try.prog 72 #[.int .i64 p, .int .i64 a] w fun e w' => e = .returned (.int .i64 (inv p a)) ∧ w = w' := by
  have hb := prm_bd hp
  obtain ⟨v0, v1⟩ := inv_bd hp a
  have v2 := inv_pos hp a0 a1
  have HP := Lib.hid hp
  clear hp
  go_enter Try.func72, Try.ntmps72
  go_wp2
  go_loop [5] (fun t => ∃ b : Int, 1 ≤ b ∧ b ≤ inv p a ∧ t = .int .i64 b) (fun t => (inv p a - intOf t).toNat)
  case atStart => exact ⟨1, by omega, by omega, rfl⟩
  case round =>
    obtain ⟨b, b0, b1, rfl⟩ := hrel
    obtain ⟨m0, m1⟩ := mul_bd (a := a) (b := b) HP.out (by omega) (by omega) (by omega) (by omega)
    obtain ⟨q0, q1⟩ := mod_bd HP.out (a * b)
    have hi := inv_iff (a := a) HP.out a0 a1 b0 b1
    by_cases hq : b = inv p a
    · have ht := hi.2 hq
      have HQ := Lib.hid hq
      clear hi hq
      go_wp2
      go_ret
      exact ⟨by rw [← HQ.out]; rfl, rfl⟩
    · have ht : ¬ a * b % p = 1 := fun h => hq (hi.1 h)
      clear hi
      go_wp2
      go_round
      case rel => exact ⟨b + 1, by omega, by omega, rfl⟩
      case measure => simp [intOf]; omega

set_option maxHeartbeats 800000 in
theorem power_pos (p a : Int) (m : Nat) (w : World) (hp : prm p = true) (a0 : 0 ≤ a) (a1 : a < p) (hm : m ≤ 1000000) :
    Calls Try.prog 97 #[.agg #[.int .i64 p, .int .i64 a], .int .i64 m] w fun e w' => e = .returned (.agg #[.int .i64 p, .int .i64 (pw p a m)]) ∧ Below w.heap.size w w' := by
  have HP := Lib.hid hp
  have hb := prm_bd hp
  clear hp
  go_enter Try.func97, Try.ntmps97
  go_wp2
  go_loopw [17] (fun t wr => ∃ j : Nat, j ≤ m ∧ t = .int .i64 j ∧ NumAt wr (w.heap.size + 1 + 1) p (pw p a j) ∧ NumAt wr w.heap.size p a ∧ NumAt wr (w.heap.size + 1) 0 0 ∧ Below w.heap.size w wr ∧ w.heap.size + 3 ≤ wr.heap.size) (fun t _ => m - (intOf t).toNat)
  case atStart =>
    refine ⟨0, Nat.zero_le _, rfl, ?_, ?_, ?_, by ((repeat' (first | with_reducible exact Below.refl _ _ | (with_reducible refine Below.setCell ?_ ?_ _) | (with_reducible refine Below.alloc ?_ ?_ _) | (with_reducible refine Below.drew ?_))); all_goals (first | (simp; done) | omega | (simp; omega))), by simp⟩
    · exact (by simpa [pw] using numAt_new ((w.alloc (Obj.cells #[.int .i64 p, .int .i64 a] _)).alloc (Obj.cells #[.int .i64 0, .int .i64 0] _)) p 1 _)
    · exact ((numAt_new w p a _).alloc (by simp) _).alloc (by simp; omega) _
    · exact NumAt.alloc (by simpa using numAt_new (w.alloc (Obj.cells #[.int .i64 p, .int .i64 a] _)) 0 0 _) (by simp) _
  case round =>
    obtain ⟨j, hj, rfl, n2, n0, n1, hbel, hz⟩ := hrel
    obtain ⟨q0, q1⟩ := pw_bd (a := a) HP.out j
    obtain ⟨g20, g21, k20, k21⟩ := n2
    obtain ⟨g00, g01, k00, k01⟩ := n0
    by_cases hlt : j < m
    · go_wp2_with (go_at_call 108; refine (times_any p (pw p a j) a _ HP.out q0 q1 a0 a1).mono ?_; rintro e w1 ⟨rfl, hb1⟩; have n2' := NumAt.keep (b := w.heap.size + 1 + 1) ⟨g20, g21, k20, k21⟩ hb1 (by omega); obtain ⟨e20, e21, h20, h21⟩ := n2')
      go_roundw
      case rel =>
        have hs1 := hb1.size
        have n2' : NumAt w1 (w.heap.size + 1 + 1) p (pw p a j) := ⟨e20, e21, h20, h21⟩
        refine ⟨j + 1, by omega, by go_num, n2'.set p _, ((NumAt.keep (b := w.heap.size) ⟨g00, g01, k00, k01⟩ hb1 (by omega)).far (by omega) _ _).far (by omega) _ _, ((n1.keep hb1 (by omega)).far (by omega) _ _).far (by omega) _ _, by (have hs_hb1 := hb1.size; have hs_hbel := hbel.size; (repeat' (first | with_reducible exact Below.refl _ _ | (with_reducible refine Below.setCell ?_ ?_ _) | (with_reducible refine Below.alloc ?_ ?_ _) | (with_reducible refine Below.drew ?_) | (with_reducible refine below_step ?_ ?_ hb1) | (with_reducible refine below_step ?_ ?_ hbel))); all_goals (first | (simp; done) | omega | (simp; omega) | (simp at hs_hb1 hs_hbel ⊢; omega))), by simp; omega⟩
      case measure => simp [intOf]; omega
    · have hjm : Hid (j = m) := by show j = m; omega
      obtain ⟨g10, g11, k10, k11⟩ := n1
      go_wp2
      refine bodyPost_ret (v := .agg #[.int .i64 p, .int .i64 (pw p a j)]) (by simp [results, Try.results97, go_sem, g10, g11]) rfl ⟨by rw [hjm.out], ?_⟩
      (have hs_hbel := hbel.size; (repeat' (first | with_reducible exact Below.refl _ _ | (with_reducible refine Below.setCell ?_ ?_ _) | (with_reducible refine Below.alloc ?_ ?_ _) | (with_reducible refine Below.drew ?_) | (with_reducible refine below_step ?_ ?_ hbel))); all_goals (first | (simp; done) | omega | (simp; omega) | (simp at hs_hbel ⊢; omega)))

theorem power_any (p a : Int) (k : Int) (w : World) (hp : prm p = true) (a0 : 0 ≤ a) (a1 : a < p) (k0 : 0 ≤ k) (k1 : k ≤ 1000000) :
    Calls Try.prog 97 #[.agg #[.int .i64 p, .int .i64 a], .int .i64 k] w fun e w' => e = .returned (.agg #[.int .i64 p, .int .i64 (pw p a k.toNat)]) ∧ Below w.heap.size w w' := by
  have h := power_pos p a k.toNat w hp a0 a1 (by omega)
  rwa [Int.toNat_of_nonneg k0] at h

set_option maxHeartbeats 400000 in
theorem inverse_any (p a : Int) (w : World) (hp : prm p = true) (a0 : 0 ≤ a) (a1 : a < p) :
    Calls Try.prog 88 #[.agg #[.int .i64 p, .int .i64 a]] w fun e w' => e = .returned (.agg #[.int .i64 p, .int .i64 (inv p a)]) ∧ Below w.heap.size w w' := by
  have HP := Lib.hid hp
  have hb := prm_bd hp
  clear hp
  go_enter Try.func88, Try.ntmps88
  go_wp2_with (go_at_call 97; refine (power_any p a (p - 2) _ HP.out a0 a1 (by omega) (by omega)).mono ?_; rintro e w1 ⟨rfl, hb1⟩; obtain ⟨hc, hf⟩ := bcell hb1)
  refine bodyPost_ret (v := .agg #[.int .i64 p, .int .i64 (inv p a)]) (by simp [results, Try.results88, go_sem, hc, inv]) rfl ⟨rfl, ?_⟩
  (have hs_hb1 := hb1.size; (repeat' (first | with_reducible exact Below.refl _ _ | (with_reducible refine Below.setCell ?_ ?_ _) | (with_reducible refine Below.alloc ?_ ?_ _) | (with_reducible refine Below.drew ?_) | (with_reducible refine below_step ?_ ?_ hb1))); all_goals (first | (simp; done) | omega | (simp; omega) | (simp at hs_hb1 ⊢; omega)))

end Go.Proofs.Ytbnegbpapjcmhaa

namespace Go.Proofs.Ytbnegbpapjcmhaa
open Go.RowKit
set_option linter.unusedVariables false

/-- A reduced basis in new memory is handed back. -/
def NewB (p : Int) (c : Nat) (A : List (List Int)) (w : World) (e : Ending) (w' : World) : Prop :=
  ∃ r k m, e = .returned (.slice r m.length k) ∧ MatIn w.heap.size w'.heap.size w' r m ∧ IsBas p c A m ∧ Below w.heap.size w w'

/-- What stands in the rows when row d is scaled and the first i are done. -/
def sig (d f i : Nat) : Nat := if i = f then d else i
def scaled (p : Int) (m : List (List Int)) (f k : Nat) : List Int := sclR p (rw' m f) (inv p (at' m f k))
def doneRow (p : Int) (m : List (List Int)) (d f k i : Nat) : List Int := if i = d then scaled p m f k else plusR p (rw' m (sig d f i)) (scaled p m f k) ((p - at' m (sig d f i) k) % p)
def midRow (p : Int) (m : List (List Int)) (d f k i : Nat) : List Int := if i = d then scaled p m f k else rw' m (sig d f i)
def rowsAt (p : Int) (m : List (List Int)) (d f k i : Nat) : List (List Int) := (List.range m.length).map fun j => if j < i then doneRow p m d f k j else midRow p m d f k j
theorem rowsAt_len (p : Int) (m : List (List Int)) (d f k i : Nat) : (rowsAt p m d f k i).length = m.length := by simp [rowsAt]
theorem rowsAt_row {p : Int} {m : List (List Int)} {d f k i j : Nat} (h : j < m.length) : rw' (rowsAt p m d f k i) j = if j < i then doneRow p m d f k j else midRow p m d f k j := by simp [rowsAt, rw', List.getD, h]
theorem rowsAt_start {p : Int} {m : List (List Int)} {d f k : Nat} (hd : d < m.length) (hf : f < m.length) : (m.set f (rw' m d)).set d (scaled p m f k) = rowsAt p m d f k 0 := by
  refine mat_ext (by simp [rowsAt_len]) (fun j hj => ?_)
  simp only [List.length_set] at hj
  rw [rw_set _ (by simpa using hd), rw_set _ hf, rowsAt_row hj, if_neg (Nat.not_lt_zero _)]
  unfold midRow sig
  by_cases e : j = d
  · rw [if_pos e, if_pos e]
  · rw [if_neg e, if_neg e]
    by_cases e' : j = f
    · rw [if_pos e', if_pos e']
    · rw [if_neg e', if_neg e']
theorem rowsAt_next {p : Int} {m : List (List Int)} {d f k i : Nat} (hi : i < m.length) (hne : i ≠ d) : (rowsAt p m d f k i).set i (doneRow p m d f k i) = rowsAt p m d f k (i + 1) := by
  refine mat_ext (by simp [rowsAt_len]) (fun j hj => ?_)
  simp only [List.length_set, rowsAt_len] at hj
  rw [rw_set _ (by rw [rowsAt_len]; exact hi), rowsAt_row hj, rowsAt_row hj]
  by_cases e : j = i
  · subst e; rw [if_pos rfl, if_pos (by omega)]
  · rw [if_neg e]
    by_cases e' : j < i
    · rw [if_pos e', if_pos (by omega)]
    · rw [if_neg e', if_neg (by omega)]
theorem rowsAt_skip {p : Int} {m : List (List Int)} {d f k : Nat} : rowsAt p m d f k d = rowsAt p m d f k (d + 1) := by
  refine mat_ext (by simp [rowsAt_len]) (fun j hj => ?_)
  rw [rowsAt_len] at hj
  rw [rowsAt_row hj, rowsAt_row hj]
  by_cases e : j = d
  · subst e; rw [if_neg (Nat.lt_irrefl _), if_pos (by omega)]; unfold doneRow midRow; rw [if_pos rfl, if_pos rfl]
  · by_cases e' : j < d
    · rw [if_pos e', if_pos (by omega)]
    · rw [if_neg e', if_neg (by omega)]
theorem ColAt.rows {p : Int} {c : Nat} {A m : List (List Int)} {d k f : Nat} {P : Nat → Nat} (hp : prm p = true) (h : ColAt p c A m d k P) (hk : k < c) (hdf : d ≤ f) (hf : f < m.length) (ha : 1 ≤ at' m f k) :
    ColAt p c A (rowsAt p m d f k m.length) (d + 1) (k + 1) (fun i => if i = d then k else P i) := by
  have hL : ∀ i, i < m.length → rw' (rowsAt p m d f k m.length) i = doneRow p m d f k i := fun i hi => by rw [rowsAt_row hi, if_pos hi]
  have hsig : ∀ i, i < m.length → sig d f i < m.length := fun i hi => by unfold sig; split <;> omega
  have hdm : d < m.length := by omega
  have hS : (scaled p m f k).length = c := by unfold scaled sclR; rw [mkR_len, h.len f hf]
  refine h.pick hp hk hdf hf ha (rowsAt_len _ _ _ _ _ _) (fun i hi => ?_) (fun j hj => ?_) (fun i hi hne j hj => ?_)
  · rw [rowsAt_len] at hi
    rw [hL i hi]
    unfold doneRow
    split
    · exact hS
    · unfold plusR; rw [mkR_len]; exact h.len _ (hsig i hi)
  · have e : at' (rowsAt p m d f k m.length) d j = (scaled p m f k).getD j 0 := by unfold at'; rw [hL d hdm]; unfold doneRow; rw [if_pos rfl]
    rw [e]
    unfold scaled sclR
    rw [mkR_at _ (by rw [h.len f hf]; exact hj)]; rfl
  · have e : at' (rowsAt p m d f k m.length) i j = (plusR p (rw' m (sig d f i)) (scaled p m f k) ((p - at' m (sig d f i) k) % p)).getD j 0 := by unfold at'; rw [hL i hi]; unfold doneRow; rw [if_neg hne]; rfl
    have e2 : at' (rowsAt p m d f k m.length) d j = (scaled p m f k).getD j 0 := by unfold at'; rw [hL d hdm]; unfold doneRow; rw [if_pos rfl]
    rw [e, e2]
    unfold plusR
    rw [mkR_at _ (by rw [h.len _ (hsig i hi)]; exact hj)]; rfl

end Go.Proofs.Ytbnegbpapjcmhaa

namespace Go.Proofs.Ytbnegbpapjcmhaa
open Go.RowKit
set_option linter.unusedVariables false

theorem opposite_any (p a : Int) (w : World) (hp : prm p = true) (a0 : 0 ≤ a) (a1 : a < p) :
    Calls Try.prog 61 #[.int .i64 p, .int .i64 a] w fun e w' => e = .returned (.int .i64 (-a % p)) ∧ w = w' := by
  have hb := prm_bd hp
  have e2 : IntKind.i64.wrap (p - a) = p - a := IntWalk.i64_in _ (by omega)
  have hyy : (p - a) % p = -a % p := by simp
  have e3 : (p - a).tmod p = -a % p := (Int.tmod_eq_emod_of_nonneg (by omega)).trans hyy
  have hp0 : ¬ p = 0 := by omega
  have hp1 : (p == 0) = false := by simpa using hp0
  clear hyy hp
  go_enter Try.func61, Try.ntmps61
  go_wp2
  go_ret
  exact ⟨rfl, rfl⟩

theorem isNot0_any (x : Int) (w : World) :
    Calls Try.prog 87 #[.int .i64 x] w fun e w' => e = .returned (.bool (x != 0)) ∧ w = w' := by
  go_enter Try.func87, Try.ntmps87
  go_wp2
  go_ret
  exact ⟨rfl, rfl⟩

/-- The place of the first number that is not 0 from k on, or -1. -/
def fstAt (z : List Int) (k : Nat) : Prop := k < z.length ∧ (∀ j, j < k → z.getD j 0 = 0) ∧ z.getD k 0 ≠ 0

set_option maxHeartbeats 800000 in
theorem indexFunc_yes (a : Option Addr) (z : List Int) (n k ca lo tp : Nat) (w : World) (hz : RowIn lo tp w a z) (hn : z.length = n) (hl : n ≤ 1024) (hk : fstAt z k) :
    Calls Try.prog 65 #[.slice a n ca, .func (.func 87) #[] #[]] w fun e w' => e = .returned (.int .i64 k) ∧ w = w' := by
  subst hn
  have HZ := Lib.hid hz
  have HK := Lib.hid hk
  clear hz hk
  go_enter Try.func65, Try.ntmps65
  go_wp2
  go_loop [8] (fun t => ∃ i : Nat, i ≤ k ∧ t = .int .i64 i) (fun t => z.length - (intOf t).toNat)
  case atStart => exact ⟨0, Nat.zero_le _, rfl⟩
  case round =>
    obtain ⟨i, hi, rfl⟩ := hrel
    have hkl := HK.out.1
    have hi1 : (i : Int) < (z.length : Int) := by omega
    obtain ⟨b1, o1, ha1, _, _, hc1⟩ := HZ.out.num (by omega : i < z.length)
    subst ha1
    by_cases e : i = k
    · subst e
      have h3 := HK.out.2.2
      obtain ⟨x, hx⟩ : ∃ x, x = z.getD i 0 := ⟨_, rfl⟩
      rw [← hx] at hc1 h3
      have HX : Hid ((x != 0) = true) := by show _ = _; simpa using h3
      clear hx h3
      go_wp2_with (go_at_call 87; refine (isNot0_any x _).mono ?_; rintro e w1 ⟨rfl, rfl⟩; rw [HX.out])
      go_ret
      exact ⟨rfl, rfl⟩
    · have h2 := HK.out.2.1 i (by omega)
      rw [h2] at hc1
      go_wp2_with (go_at_call 87; refine (isNot0_any 0 _).mono ?_; rintro e w1 ⟨rfl, rfl⟩)
      go_round
      case rel => exact ⟨i + 1, by omega, by go_num⟩
      case measure => simp [intOf]; omega

set_option maxHeartbeats 800000 in
theorem indexFunc_no (a : Option Addr) (z : List Int) (n ca lo tp : Nat) (w : World) (hz : RowIn lo tp w a z) (hn : z.length = n) (hl : n ≤ 1024) (hk : ∀ j, j < z.length → z.getD j 0 = 0) :
    Calls Try.prog 65 #[.slice a n ca, .func (.func 87) #[] #[]] w fun e w' => e = .returned (.int .i64 (-1)) ∧ w = w' := by
  subst hn
  have HZ := Lib.hid hz
  have HK := Lib.hid hk
  clear hz hk
  go_enter Try.func65, Try.ntmps65
  go_wp2
  go_loop [8] (fun t => ∃ i : Nat, i ≤ z.length ∧ t = .int .i64 i) (fun t => z.length - (intOf t).toNat)
  case atStart => exact ⟨0, Nat.zero_le _, rfl⟩
  case round =>
    obtain ⟨i, hi, rfl⟩ := hrel
    by_cases hlt : i < z.length
    · have hi1 : (i : Int) < (z.length : Int) := by omega
      obtain ⟨b1, o1, ha1, _, _, hc1⟩ := HZ.out.num hlt
      subst ha1
      rw [HK.out i hlt] at hc1
      go_wp2_with (go_at_call 87; refine (isNot0_any 0 _).mono ?_; rintro e w1 ⟨rfl, rfl⟩)
      go_round
      case rel => exact ⟨i + 1, by omega, by go_num⟩
      case measure => simp [intOf]; omega
    · have hn : i = z.length := by omega
      subst hn
      go_wp2
      go_ret
      exact ⟨rfl, rfl⟩

theorem fst_cases (z : List Int) : (∃ k, fstAt z k) ∨ ∀ j, j < z.length → z.getD j 0 = 0 := by
  by_cases h : ∀ j, j < z.length → z.getD j 0 = 0
  · exact .inr h
  · left
    have h2 : ∃ k, k < z.length ∧ z.getD k 0 ≠ 0 := Classical.byContradiction fun c => h fun j hj => Classical.byContradiction fun d => c ⟨j, hj, d⟩
    have key : ∀ n, (∃ k, k ≤ n ∧ k < z.length ∧ z.getD k 0 ≠ 0) → ∃ k, fstAt z k := by
      intro n
      induction n with
      | zero =>
        rintro ⟨k, h1, h2, h3⟩
        have : k = 0 := by omega
        subst this
        exact ⟨0, h2, fun j hj => by omega, h3⟩
      | succ n ih =>
        rintro ⟨k, h1, h2, h3⟩
        by_cases e : ∃ k, k ≤ n ∧ k < z.length ∧ z.getD k 0 ≠ 0
        · exact ih e
        · refine ⟨k, h2, fun j hj => Classical.byContradiction fun d => e ⟨j, by omega, by omega, d⟩, h3⟩
    obtain ⟨k, k1, k2⟩ := h2
    exact key k ⟨k, Nat.le_refl _, k1, k2⟩

end Go.Proofs.Ytbnegbpapjcmhaa

namespace Go.Proofs.Ytbnegbpapjcmhaa
open Go.RowKit Go.ChangeShapes Go.WideShapes
set_option linter.unusedVariables false

/-- A readable list of n places. -/
def IntsIn (lo tp : Nat) (w : World) (a : Option Addr) (n : Nat) (P : Nat → Nat) : Prop :=
  n = 0 ∨ ∃ b o, a = some ⟨b, o, none⟩ ∧ lo ≤ b ∧ b < tp ∧ ∀ j, j < n → w.cell? ⟨b, o + j, none⟩ = some (.int .i64 (P j))
theorem IntsIn.at {lo tp : Nat} {w : World} {a : Option Addr} {n : Nat} {P : Nat → Nat} (h : IntsIn lo tp w a n P) {j : Nat} (hj : j < n) : ∃ b o, a = some ⟨b, o, none⟩ ∧ lo ≤ b ∧ b < tp ∧ w.cell? ⟨b, o + j, none⟩ = some (.int .i64 (P j)) := by
  rcases h with h | ⟨b, o, ha, h1, h2, hc⟩
  · omega
  · exact ⟨b, o, ha, h1, h2, hc j hj⟩

theorem isNaNc_any (x : Int) (w : World) : Calls Try.prog 109 #[.int .i64 x] w fun e w' => e = .returned (.bool false) ∧ w = w' := by
  go_enter Try.func109, Try.ntmps109
  go_wp2
  go_ret
  exact ⟨rfl, rfl⟩
theorem isNaNs_any (x : Int) (w : World) : Calls Try.prog 99 #[.int .i64 x] w fun e w' => e = .returned (.bool false) ∧ w = w' := by
  go_enter Try.func99, Try.ntmps99
  go_wp2
  go_ret
  exact ⟨rfl, rfl⟩
theorem less_any (x y : Int) (w : World) : Calls Try.prog 98 #[.int .i64 x, .int .i64 y] w fun e w' => e = .returned (.bool (decide (x < y))) ∧ Quiet w w' := by
  go_enter Try.func98, Try.ntmps98
  go_wp2_with (go_at_call 109; refine (isNaNc_any _ _).mono ?_; rintro e w1 ⟨rfl, rfl⟩)
  all_goals (go_ret; exact ⟨by simp, Quiet.refl _⟩)

set_option maxRecDepth 100000 in
set_option maxHeartbeats 1600000 in
theorem search_any (a : Option Addr) (n ca lo tp q : Nat) (P : Nat → Nat) (w : World) (hP : IntsIn lo tp w a n P) (hn : n ≤ 1024) (hq : q ≤ 1024) (hb : ∀ i, i < n → P i ≤ 1024) (hm : ∀ i i', i < i' → i' < n → P i < P i') (hne : ∀ i, i < n → P i ≠ q) :
    Calls Try.prog 89 #[.slice a n ca, .int .i64 q] w fun e w' => ∃ t : Nat, e = .returned (.tuple #[.int .i64 t, .bool false]) ∧ Quiet w w' ∧ t ≤ n ∧ (∀ i, i < t → P i < q) ∧ ∀ i, t ≤ i → i < n → q < P i := by
  have HP := Lib.hid hP
  have HB := Lib.hid hb
  have HM := Lib.hid hm
  have HE := Lib.hid hne
  clear hP hb hm hne
  go_enter Try.func89, Try.ntmps89
  go_wp2
  go_loopw [7, 8] (fun s t wr => ∃ i j : Nat, i ≤ j ∧ j ≤ n ∧ s = .int .i64 i ∧ t = .int .i64 j ∧ Quiet w wr ∧ (∀ k, k < i → P k < q) ∧ ∀ k, j ≤ k → k < n → q < P k) (fun s t _ => (intOf t).toNat - (intOf s).toNat)
  case atStart => exact ⟨0, n, Nat.zero_le _, Nat.le_refl _, rfl, rfl, Quiet.refl _, fun k hk => by omega, fun k hk hk2 => by omega⟩
  case round =>
    obtain ⟨i, j, hij, hj, rfl, rfl, hqt, h1, h2⟩ := hrel
    have HQ := Lib.hid hqt
    have H1 := Lib.hid h1
    have H2 := Lib.hid h2
    clear h1 h2
    by_cases hlt : i < j
    · have hi1 : (i : Int) < (j : Int) := by omega
      obtain ⟨h, hdef⟩ : ∃ h, h = (i + j) / 2 := ⟨_, rfl⟩
      have hh : ((i : Int) + (j : Int)) / 2 = (h : Int) := by omega
      have hih : i ≤ h := by omega
      have hhj : h < j := by omega
      have hh1 : (h : Int) < (n : Int) := by omega
      obtain ⟨b1, o1, ha1, _, _, hc0⟩ := HP.out.at (by omega : h < n)
      subst ha1
      have hc1 := ((hqt.below _).cell (p := ⟨b1, o1 + h, none⟩) (by assumption)).trans hc0
      have hpb := HB.out h (by omega)
      have hne := HE.out h (by omega)
      clear hc0 hqt hdef
      by_cases hx : P h < q
      · have HD : Hid (decide ((P h : Int) < (q : Int)) = true) := by show _ = _; simp; exact hx
        go_wp2_with (go_at_call 98; refine (less_any _ _ _).mono ?_; rintro e w1 ⟨rfl, hq1⟩; rw [HD.out]; have HQ1 := Lib.hid hq1; clear hq1)
        go_roundw
        case rel => exact ⟨h + 1, j, by omega, by omega, by go_num, rfl, HQ.out.trans HQ1.out, fun k hk => by
            by_cases e : k = h
            · subst e; exact hx
            · have := HM.out k h (by omega) (by omega); omega, H2.out⟩
        case measure => simp [intOf]; omega
      · have HD : Hid (decide ((P h : Int) < (q : Int)) = false) := by show _ = _; simp; omega
        go_wp2_with (go_at_call 98; refine (less_any _ _ _).mono ?_; rintro e w1 ⟨rfl, hq1⟩; rw [HD.out]; have HQ1 := Lib.hid hq1; clear hq1)
        go_roundw
        case rel => exact ⟨i, h, by omega, by omega, rfl, rfl, HQ.out.trans HQ1.out, H1.out, fun k hk hk2 => by
            by_cases e : k = h
            · subst e; omega
            · have := HM.out h k (by omega) (by omega); omega⟩
        case measure => simp [intOf]; omega
    · have hij : i = j := by omega
      subst hij
      by_cases hin : i < n
      · have hi1 : (i : Int) < (n : Int) := by omega
        obtain ⟨b1, o1, ha1, _, _, hc0⟩ := HP.out.at hin
        subst ha1
        have hc1 := ((hqt.below _).cell (p := ⟨b1, o1 + i, none⟩) (by assumption)).trans hc0
        have hne := HE.out i hin
        have hne1 : ((P i : Int) == (q : Int)) = false := by simp; omega
        have hne2 : ¬ (P i : Int) = (q : Int) := by omega
        clear hc0 hqt
        go_wp2_with (go_at_call 99; refine (isNaNs_any _ _).mono ?_; rintro e w1 ⟨rfl, rfl⟩)
        all_goals (refine bodyPost_ret (v := .tuple #[.int .i64 i, .bool false]) (by simp [results, Try.results89, go_sem]) rfl ⟨i, rfl, HQ.out, hj, H1.out, H2.out⟩)
      · have hin2 : ¬ (i : Int) < (n : Int) := by omega
        clear hqt
        go_wp2
        refine bodyPost_ret (v := .tuple #[.int .i64 i, .bool false]) (by simp [results, Try.results89, go_sem]) rfl ⟨i, rfl, HQ.out, hj, H1.out, H2.out⟩
end Go.Proofs.Ytbnegbpapjcmhaa
