/-
  The model's reduced bases: a contract.
  Conditions: the list of vectors is a row of rows of known cells with numbers of the prime, all of one length.
  The model's reduced bases: the walk.
  Conditions: the list of vectors is a row of rows of known cells with numbers of the prime, all of one length, at least one.
  What the program's and the model's checks of lists of numbers, matrices and lists of vectors return.
  Conditions: they are nil or rows of known cells.
  Checks of lists of vectors under one bound on all numbers.
  Conditions: they are nil or rows of known cells, of at most 1048576 numbers.
  What the program's checks of matrices return, and its new matrices of zeros.
  Conditions: the matrices are nil or rows of known cells.
  Sizes of matrices.
  No conditions.
  The reduced basis as a function of the rows; the model's SpanBasis and RankOf: contracts.
  Conditions: the list of vectors is a row of rows of known cells.
  Solutions of linear equations out of reduced rows. No Go in sight.
  No conditions.
  A solution that is read off the reduced rows solves. No Go in sight.
  No conditions.
  Inverses of multivectors: what solves one equation is the inverse on both sides. No Go in sight.
  No conditions.
-/
import Derived.Test.YtijklpcelbnnjaaGreatQk17
import Derived.Test.YtijklpcelbnnjaaGreatQk7
import Derived.Test.YtijklpcelbnnjaaGreatQk4
import Derived.Deep.RegionHeld3
import Derived.Deep.RegionLaw
import Derived.Deep.RegionWith
import Derived.Test.YtijklpcelbnnjaaGreatQk3
import Derived.RegionTactic
import Derived.ChangeAlike
import Derived.Test.YtijklpcelbnnjaaGreatQk1
import Derived.Test.YtijklpcelbnnjaaGreatQk16
namespace Go.Proofs.YtijklpcelbnnjaaGreat
open Go.RowKit
set_option linter.unusedVariables false

/-- A reduced basis in new memory is handed back. -/
def NewB (p : Int) (c : Nat) (A : List (List Int)) (w : World) (e : Ending) (w' : World) : Prop :=
  ∃ r k m, e = .returned (.slice r m.length k) ∧ MatIn w.heap.size w'.heap.size w' r m ∧ IsBas p c A m ∧ Below w.heap.size w w'

/-- What stands in the rows when row d is scaled and the first i are done. -/
def sig (d f i : Nat) : Nat := if i = f then d else i
def scaled (p : Int) (m : List (List Int)) (f k : Nat) : List Int := sclR p (rw' m f) (inv p (at' m f k))
def doneRow (p : Int) (m : List (List Int)) (d f k i : Nat) : List Int := if i = d then scaled p m f k else plusR p (rw' m (sig d f i)) (scaled p m f k) ((p - at' m (sig d f i) k) % p)
def midRow (p : Int) (m : List (List Int)) (d f k i : Nat) : List Int := if i = d then scaled p m f k else rw' m (sig d f i)
def rowsAt (p : Int) (m : List (List Int)) (d f k i : Nat) : List (List Int) := (List.range m.length).map fun j => if j < i then doneRow p m d f k j else midRow p m d f k j
theorem rowsAt_len (p : Int) (m : List (List Int)) (d f k i : Nat) : (rowsAt p m d f k i).length = m.length := by simp [rowsAt]
theorem rowsAt_row {p : Int} {m : List (List Int)} {d f k i j : Nat} (h : j < m.length) : rw' (rowsAt p m d f k i) j = if j < i then doneRow p m d f k j else midRow p m d f k j := by simp [rowsAt, rw', List.getD, h]
theorem rowsAt_start {p : Int} {m : List (List Int)} {d f k : Nat} (hd : d < m.length) (hf : f < m.length) : (m.set f (rw' m d)).set d (scaled p m f k) = rowsAt p m d f k 0 := by
  refine mat_ext (by simp [rowsAt_len]) (fun j hj => ?_)
  simp only [List.length_set] at hj
  rw [rw_set _ (by simpa using hd), rw_set _ hf, rowsAt_row hj, if_neg (Nat.not_lt_zero _)]
  unfold midRow sig
  by_cases e : j = d
  · rw [if_pos e, if_pos e]
  · rw [if_neg e, if_neg e]
    by_cases e' : j = f
    · rw [if_pos e', if_pos e']
    · rw [if_neg e', if_neg e']
theorem rowsAt_next {p : Int} {m : List (List Int)} {d f k i : Nat} (hi : i < m.length) (hne : i ≠ d) : (rowsAt p m d f k i).set i (doneRow p m d f k i) = rowsAt p m d f k (i + 1) := by
  refine mat_ext (by simp [rowsAt_len]) (fun j hj => ?_)
  simp only [List.length_set, rowsAt_len] at hj
  rw [rw_set _ (by rw [rowsAt_len]; exact hi), rowsAt_row hj, rowsAt_row hj]
  by_cases e : j = i
  · subst e; rw [if_pos rfl, if_pos (by omega)]
  · rw [if_neg e]
    by_cases e' : j < i
    · rw [if_pos e', if_pos (by omega)]
    · rw [if_neg e', if_neg (by omega)]
theorem rowsAt_skip {p : Int} {m : List (List Int)} {d f k : Nat} : rowsAt p m d f k d = rowsAt p m d f k (d + 1) := by
  refine mat_ext (by simp [rowsAt_len]) (fun j hj => ?_)
  rw [rowsAt_len] at hj
  rw [rowsAt_row hj, rowsAt_row hj]
  by_cases e : j = d
  · subst e; rw [if_neg (Nat.lt_irrefl _), if_pos (by omega)]; unfold doneRow midRow; rw [if_pos rfl, if_pos rfl]
  · by_cases e' : j < d
    · rw [if_pos e', if_pos (by omega)]
    · rw [if_neg e', if_neg (by omega)]
theorem ColAt.rows {p : Int} {c : Nat} {A m : List (List Int)} {d k f : Nat} {P : Nat → Nat} (hp : prm p = true) (h : ColAt p c A m d k P) (hk : k < c) (hdf : d ≤ f) (hf : f < m.length) (ha : 1 ≤ at' m f k) :
    ColAt p c A (rowsAt p m d f k m.length) (d + 1) (k + 1) (fun i => if i = d then k else P i) := by
  have hL : ∀ i, i < m.length → rw' (rowsAt p m d f k m.length) i = doneRow p m d f k i := fun i hi => by rw [rowsAt_row hi, if_pos hi]
  have hsig : ∀ i, i < m.length → sig d f i < m.length := fun i hi => by unfold sig; split <;> omega
  have hdm : d < m.length := by omega
  have hS : (scaled p m f k).length = c := by unfold scaled sclR; rw [mkR_len, h.len f hf]
  refine h.pick hp hk hdf hf ha (rowsAt_len _ _ _ _ _ _) (fun i hi => ?_) (fun j hj => ?_) (fun i hi hne j hj => ?_)
  · rw [rowsAt_len] at hi
    rw [hL i hi]
    unfold doneRow
    split
    · exact hS
    · unfold plusR; rw [mkR_len]; exact h.len _ (hsig i hi)
  · have e : at' (rowsAt p m d f k m.length) d j = (scaled p m f k).getD j 0 := by unfold at'; rw [hL d hdm]; unfold doneRow; rw [if_pos rfl]
    rw [e]
    unfold scaled sclR
    rw [mkR_at _ (by rw [h.len f hf]; exact hj)]; rfl
  · have e : at' (rowsAt p m d f k m.length) i j = (plusR p (rw' m (sig d f i)) (scaled p m f k) ((p - at' m (sig d f i) k) % p)).getD j 0 := by unfold at'; rw [hL i hi]; unfold doneRow; rw [if_neg hne]; rfl
    have e2 : at' (rowsAt p m d f k m.length) d j = (scaled p m f k).getD j 0 := by unfold at'; rw [hL d hdm]; unfold doneRow; rw [if_pos rfl]
    rw [e, e2]
    unfold plusR
    rw [mkR_at _ (by rw [h.len _ (hsig i hi)]; exact hj)]; rfl

end Go.Proofs.YtijklpcelbnnjaaGreat

namespace Go.Proofs.YtijklpcelbnnjaaGreat
open Go.RowKit
set_option linter.unusedVariables false

/-- A row of n numbers in new memory is handed back. -/
def NewL (n : Nat) (z : List Int) (w : World) (e : Ending) (w' : World) : Prop :=
  z.length = n ∧ ∃ r c, e = .returned (.slice r n c) ∧ TagR w.heap.size w'.heap.size w' r z ∧ Below w.heap.size w w'
theorem NewR.l {n : Nat} {z : List Int} {w w' : World} {e : Ending} (h : NewR z w e w') (hn : z.length = n) : NewL n z w e w' := by
  subst hn; exact ⟨rfl, h⟩
theorem l02Scale_n (p k : Int) (a : Option Addr) (za : List Int) (n ca lo tp : Nat) (w : World) (hp : prm p = true) (ha : RowIn lo tp w a za) (ht : tp ≤ w.heap.size)
    (hn : za.length = n) (hs : n ≤ 1048576) (hna : ∀ j, j < n → 0 ≤ za.getD j 0 ∧ za.getD j 0 < p) (k0 : 0 ≤ k) (k1 : k ≤ p) :
    Calls Tryz.prog 82 #[.int .i64 p, .slice a n ca, .int .i64 k] w (NewL n (sclR p za k) w) := by
  subst hn
  exact (l02Scale_any p k a za ca lo tp w hp ha ht hs hna k0 k1).mono (fun e w' h => h.l (by unfold sclR; rw [mkR_len]))
theorem l02Plus_n (p k : Int) (a b : Option Addr) (za zb : List Int) (n ca cb lo tp lo' tp' : Nat) (w : World) (hp : prm p = true) (ha : RowIn lo tp w a za) (hb : RowIn lo' tp' w b zb) (ht : tp ≤ w.heap.size) (ht' : tp' ≤ w.heap.size)
    (hn : za.length = n) (hn' : zb.length = n) (hs : n ≤ 1048576) (hna : ∀ j, j < n → 0 ≤ za.getD j 0 ∧ za.getD j 0 < p) (hnb : ∀ j, j < n → 0 ≤ zb.getD j 0 ∧ zb.getD j 0 < p) (k0 : 0 ≤ k) (k1 : k ≤ p) :
    Calls Tryz.prog 26 #[.int .i64 p, .slice a n ca, .slice b n cb, .int .i64 k] w (NewL n (plusR p za zb k) w) := by
  subst hn
  have h := l02Plus_any p k a b za zb ca cb lo tp lo' tp' w hp ha hb ht ht' (by omega) hs hna (fun j hj => hnb j (by omega)) k0 k1
  rw [hn'] at h
  exact h.mono (fun e w' h => h.l (by unfold plusR; rw [mkR_len]))
theorem TopM.setn {lo n : Nat} {w : World} {b i : Nat} {m : List (List Int)} {r : Option Addr} {z : List Int} {c : Nat} (h : TopM lo w b m) (hi : i < m.length) (hn : z.length = n) (hz : TagR lo w.heap.size w r z) :
    TopM lo (w.setCell ⟨b, i, none⟩ (.slice r n c)) b (m.set i z) := by
  subst hn; exact h.set hi hz
theorem TagR.keepTop {lo : Nat} {w : World} {b i : Nat} {m : List (List Int)} {r : Option Addr} {z : List Int} {v : Value} (h : TopM lo w b m) (hz : TagR lo w.heap.size w r z) : TagR lo (w.setCell ⟨b, i, none⟩ v).heap.size (w.setCell ⟨b, i, none⟩ v) r z := by
  have hsz : (w.setCell ⟨b, i, none⟩ v).heap.size = w.heap.size := by simp [World.setCell]
  rw [hsz]
  exact hz.setTop h

/-- From row d to row f column k is zero. -/
def Zer (m : List (List Int)) (k d f : Nat) : Prop := ∀ i, d ≤ i → i < f → at' m i k = 0

theorem below_top {B b i : Nat} {w w' : World} {v : Value} (h : B ≤ b) (hb : Below B w w') : Below B w (w'.setCell ⟨b, i, none⟩ v) := Below.setCell hb (show B ≤ (⟨b, i, none⟩ : Addr).block from h) v
theorem newB_of {p : Int} {c d n gb cap : Nat} {A m : List (List Int)} {w w' : World} (h : IsBas p c A (m.take d)) (ht : TopM w.heap.size w' gb m) (hb : Below w.heap.size w w') (hd : d ≤ m.length) (hn : m.length = n) :
    NewB p c A w (.returned (.slice (some ⟨gb, 0, none⟩) d cap)) w' := by
  have hl : (m.take d).length = d := by rw [List.length_take]; omega
  refine ⟨some ⟨gb, 0, none⟩, cap, m.take d, by rw [hl], .inr ⟨gb, 0, rfl, ht.lob, ht.lt, fun i hi => ?_⟩, h, hb⟩
  rw [hl] at hi
  obtain ⟨r, c', h1, h2⟩ := ht.row i (by omega)
  rw [rw_take hi]
  exact ⟨r, c', by rw [Nat.zero_add]; exact h1, h2.row⟩

set_option maxRecDepth 100000 in
set_option maxHeartbeats 6400000 in
theorem l02Basis_any (p : Int) (a : Option Addr) (A : List (List Int)) (ca lo tp c : Nat) (w : World) (hp : prm p = true) (hm : MatIn lo tp w a A) (ht : tp ≤ w.heap.size) (h0 : 0 < A.length) (hn : A.length ≤ 1024) (c0 : 0 < c) (c1 : c ≤ 1024)
    (hl : ∀ i, i < A.length → (rw' A i).length = c) (hr : ∀ i, i < A.length → ∀ j, j < c → 0 ≤ at' A i j ∧ at' A i j < p) :
    Calls Tryz.prog 50 #[.int .i64 p, .slice a A.length ca] w (NewB p c A w) := by
  have hpb := prm_bd hp
  have HP := Lib.hid hp
  have HM := Lib.hid hm
  have HC2 : Hid (∀ i, i < A.length → 0 < (rw' A i).length ∧ (rw' A i).length ≤ 1024) := fun i hi => by rw [hl i hi]; exact ⟨c0, c1⟩
  have HST := Lib.hid (ColAt.start hl hr)
  clear hm hp hl hr
  go_enter Tryz.func50, Tryz.ntmps50
  go_wp2_with (go_at_call 52; (with_reducible refine (l01Own2_out _ A _ lo tp _ HM.out ht hn HC2.out).mono ?_); rintro e w1 ⟨v, rfl, ho, hb1⟩; obtain ⟨gb, cap, rfl, hnc, hcm, htop⟩ := ho.top h0; have HT1 := Lib.hid htop; have HB1 := Lib.hid hb1; have hgb := htop.lob; clear ho htop hb1)
  go_loopw [6, 7] (fun s t wr => ∃ (d k : Nat) (m : List (List Int)) (P : Nat → Nat), s = .int .i64 d ∧ t = .int .i64 k ∧ k ≤ c ∧ ColAt p c A m d k P ∧ TopM w.heap.size wr gb m ∧ Below w.heap.size w wr) (fun _ t _ => c - (intOf t).toNat)
  case atStart => exact ⟨0, 0, A, _, rfl, rfl, Nat.zero_le _, HST.out, HT1.out, HB1.out⟩
  case round =>
    obtain ⟨d, k, m, P, rfl, rfl, hk, hC, hT, hB⟩ := hrel
    have HC := Lib.hid hC
    have HT := Lib.hid hT
    have HB := Lib.hid hB
    have hwz := hB.size
    have hmn := hC.n
    have hdn := hC.dn
    obtain ⟨r0, c0', g0, _⟩ := hT.row 0 (by omega)
    have hl0 := hC.len 0 (by omega)
    rw [hl0] at g0
    rename World => wo
    clear hC hT hB hl0
    by_cases hlt : k < c
    · have hk1 : (k : Int) < (c : Int) := by omega
      go_wp2
      go_loopw [8] (fun t wr => ∃ f : Nat, d ≤ f ∧ f ≤ A.length ∧ t = .int .i64 f ∧ Zer m k d f ∧ Quiet wo wr) (fun t _ => A.length - (intOf t).toNat)
      case atStart => exact ⟨d, Nat.le_refl _, by omega, rfl, fun i h1 h2 => by omega, Quiet.refl _⟩
      case round =>
        obtain ⟨f, hdf, hf, rfl, hz, hq⟩ := hrel
        have HZ := Lib.hid hz
        have HQ := Lib.hid hq
        clear hz
        have HTr := Lib.hid (HT.out.below (hq.below _))
        rename World => wf
        by_cases hltf : f < A.length
        · obtain ⟨rf, cf, g1, htf⟩ := HTr.out.row f (by omega)
          have hlf := HC.out.len f (by omega)
          rw [hlf] at g1
          have hrow := htf.row
          obtain ⟨bf, of', haf, _, _, hcf0⟩ := hrow.num (j := k) (by omega)
          subst haf
          have HTF := Lib.hid htf
          obtain ⟨x0, x1⟩ := HC.out.rng f (by omega) k hlt
          obtain ⟨x, hx⟩ : ∃ x, x = at' m f k := ⟨_, rfl⟩
          have hcf : wf.cell? ⟨bf, of' + k, none⟩ = some (.int .i64 x) := by rw [hx]; exact hcf0
          rw [← hx] at x0 x1
          have HX := Lib.hid hx
          have hf1 : (f : Int) < (A.length : Int) := by omega
          clear hx hrow htf hlf hq hcf0
          by_cases hxz : x = 0
          · subst hxz
            go_wp2
            go_roundw
            case rel => exact ⟨f + 1, by omega, by omega, by go_num, fun i h1 h2 => by
                by_cases e : i = f
                · subst e; exact HX.out.symm
                · exact HZ.out i h1 (by omega), HQ.out⟩
            case measure => simp [intOf]; omega
          · have hx1 : (x == 0) = false := by simpa using hxz
            obtain ⟨rd, cd, g2, htd⟩ := HTr.out.row d (by omega)
            have hld := HC.out.len d (by omega)
            have hlf := HC.out.len f (by omega)
            rw [hld] at g2
            have ff := HTr.out.free f
            have fd := HTr.out.free d
            have hd1 : (d : Int) < (A.length : Int) := by omega
            have HT2 := Lib.hid (HTr.out.setn (c := cd) (i := f) (by omega) hld htd)
            have HF2 := Lib.hid (HTF.out.setTop (i := f) (v := .slice rd c cd) HTr.out)
            have HB2 : Hid (Below w.heap.size w (wf.setCell ⟨gb, f, none⟩ (.slice rd c cd))) := by
              have hb0 := HB.out.trans (HQ.out.below _)
              have hs0 := hb0.size
              show Below w.heap.size w _
              (have hs_hb0 := hb0.size; (repeat' (first | with_reducible exact Below.refl _ _ | (with_reducible refine Below.setCell ?_ ?_ _) | (with_reducible refine Below.alloc ?_ ?_ _) | (with_reducible refine Below.drew ?_) | (with_reducible refine below_step ?_ ?_ hb0))); all_goals (first | (simp; done) | omega | (simp; omega) | (simp at hs_hb0 ⊢; omega)))
            obtain ⟨v0, v1⟩ := inv_bd HP.out x
            have hz2 : (wf.setCell ⟨gb, f, none⟩ (.slice rd c cd)).heap.size = wf.heap.size := by simp [World.setCell]
            have HZ2 := Lib.hid hz2
            have hcf2 : (wf.setCell ⟨gb, f, none⟩ (.slice rd c cd)).cell? ⟨bf, of' + k, none⟩ = some (.int .i64 x) := by
              rcases HF2.out with h | ⟨b, o, cur, e, _, _, _, hc⟩
              · rw [h] at hlf; simp at hlf; omega
              · cases e
                have := hc k (by omega)
                rw [HX.out]; exact this
            have HLF := Lib.hid hlf
            have hx1' : 1 ≤ x := by omega
            have HNF : Hid (∀ j, j < c → 0 ≤ (rw' m f).getD j 0 ∧ (rw' m f).getD j 0 < p) := fun j hj => HC.out.rng f (by omega) j hj
            have hw2 : wf.heap.size ≤ (wf.setCell ⟨gb, f, none⟩ (.slice rd c cd)).heap.size := by rw [HZ2.out]; exact Nat.le_refl _
            have HW2 := Lib.hid hw2
            have hlb : w.heap.size ≤ (wf.setCell ⟨gb, f, none⟩ (.slice rd c cd)).heap.size := HB2.out.size
            clear htd hld hlf hz2 hw2
            go_wp2_with (first | (go_at_call 83; (with_reducible refine (l01Inv_any p x _ HP.out hx1' x1).mono ?_); rintro e w' ⟨rfl, rfl⟩) | (go_at_call 82; (with_reducible refine (l02Scale_n p (inv p x) _ (rw' m f) c _ w.heap.size wf.heap.size _ HP.out HF2.out.row HW2.out HLF.out (by omega) HNF.out v0 (by omega)).mono ?_); rintro e w3 ⟨hl3, r3, k3, rfl, ht3, hb3⟩; have HL3 := Lib.hid hl3; have HT3 := Lib.hid ht3; have HB3 := Lib.hid hb3; have HM3 := Lib.hid (HT2.out.below hb3); obtain ⟨rq, cq, gq, _⟩ := HM3.out.row d (by rw [List.length_set]; omega); have fq := HM3.out.free d; clear hl3 ht3 hb3))
            have HI0 : Hid (TopM w.heap.size (w3.setCell ⟨gb, d, none⟩ (.slice r3 c k3)) gb (rowsAt p m d f k 0) ∧ TagR w.heap.size (w3.setCell ⟨gb, d, none⟩ (.slice r3 c k3)).heap.size (w3.setCell ⟨gb, d, none⟩ (.slice r3 c k3)) r3 (scaled p m f k) ∧ Below w.heap.size w (w3.setCell ⟨gb, d, none⟩ (.slice r3 c k3))) := by
              have hz3 : (w3.setCell ⟨gb, d, none⟩ (.slice r3 c k3)).heap.size = w3.heap.size := by simp [World.setCell]
              have hE : sclR p (rw' m f) (inv p x) = scaled p m f k := by rw [HX.out]; rfl
              have hT3 := HT3.out
              have hL3 := HL3.out
              rw [hE] at hT3 hL3
              have hT3' : TagR w.heap.size w3.heap.size w3 r3 (scaled p m f k) := hT3.block hlb (Nat.le_refl _) (fun _ _ _ _ _ => rfl)
              refine ⟨?_, ?_, ?_⟩
              · rw [← rowsAt_start (by omega) (by omega)]
                exact HM3.out.setn (by rw [List.length_set]; omega) hL3 hT3'
              · rw [hz3]; exact hT3'.setTop HM3.out
              · have hb0 := HB2.out.trans (HB3.out.mono hlb)
                have hs0 := hb0.size
                (have hs_hb0 := hb0.size; (repeat' (first | with_reducible exact Below.refl _ _ | (with_reducible refine Below.setCell ?_ ?_ _) | (with_reducible refine Below.alloc ?_ ?_ _) | (with_reducible refine Below.drew ?_) | (with_reducible refine below_step ?_ ?_ hb0))); all_goals (first | (simp; done) | omega | (simp; omega) | (simp at hs_hb0 ⊢; omega)))
            have HLS : Hid ((scaled p m f k).length = c) := by have h := HL3.out; show (scaled p m f k).length = c; unfold scaled; rw [← HX.out]; exact h
            obtain ⟨w4, hw4⟩ : ∃ w4, w4 = w3.setCell ⟨gb, d, none⟩ (.slice r3 c k3) := ⟨_, rfl⟩
            rw [← hw4] at HI0
            rw [← hw4]
            have HW4 := Lib.hid hw4
            clear hw4 hcf hcf2 g0 g1 g2 gq ff fd fq
            go_loopw [10] (fun t wr => ∃ i : Nat, i ≤ A.length ∧ t = .int .i64 i ∧ TopM w.heap.size wr gb (rowsAt p m d f k i) ∧ TagR w.heap.size wr.heap.size wr r3 (scaled p m f k) ∧ Below w.heap.size w wr) (fun t _ => A.length - (intOf t).toNat)
            case atStart => exact ⟨0, Nat.zero_le _, rfl, HI0.out.1, HI0.out.2.1, HI0.out.2.2⟩
            case round =>
              obtain ⟨i, hi, rfl, hTi, hRi, hBi⟩ := hrel
              have HTI := Lib.hid hTi
              have HRI := Lib.hid hRi
              have HBI := Lib.hid hBi
              have hwz4 := hBi.size
              rename World => wi
              by_cases hlti : i < A.length
              · have hi1 : (i : Int) < (A.length : Int) := by omega
                clear hTi hRi hBi
                by_cases hid : i = d
                · subst hid
                  go_wp2
                  go_roundw
                  case rel => exact ⟨i + 1, by omega, by go_num, by rw [← rowsAt_skip]; exact HTI.out, HRI.out, HBI.out⟩
                  case measure => simp [intOf]; omega
                · have hid1 : ((i : Int) == (d : Int)) = false := by simp; omega
                  have hid2 : ¬ (i : Int) = (d : Int) := by omega
                  obtain ⟨s, hs⟩ : ∃ s, s = sig d f i := ⟨_, rfl⟩
                  have hsm : s < m.length := by rw [hs]; unfold sig; split <;> omega
                  have HRW : Hid (rw' (rowsAt p m d f k i) i = rw' m s) := by
                    show rw' (rowsAt p m d f k i) i = rw' m s
                    rw [rowsAt_row (by omega), if_neg (Nat.lt_irrefl _), hs]; unfold midRow; rw [if_neg hid]
                  have HDR : Hid (doneRow p m d f k i = plusR p (rw' m s) (scaled p m f k) ((p - at' m s k) % p)) := by
                    show doneRow p m d f k i = _
                    rw [hs]; unfold doneRow; rw [if_neg hid]
                  have HLS2 : Hid ((rw' m s).length = c) := HC.out.len s hsm
                  obtain ⟨ri, ci, gi, hti⟩ := HTI.out.row i (by rw [rowsAt_len]; omega)
                  rw [HRW.out] at gi hti
                  rw [HLS2.out] at gi
                  have HTG := Lib.hid hti
                  obtain ⟨bi, oi, hai, _, hbi, hci0⟩ := hti.row.num (j := k) (by rw [HLS2.out]; omega)
                  subst hai
                  obtain ⟨y0, y1⟩ := HC.out.rng s hsm k hlt
                  have HNS : Hid (∀ j, j < c → 0 ≤ (rw' m s).getD j 0 ∧ (rw' m s).getD j 0 < p) := fun j hj => HC.out.rng s hsm j hj
                  have HNB : Hid (∀ j, j < c → 0 ≤ (scaled p m f k).getD j 0 ∧ (scaled p m f k).getD j 0 < p) := fun j hj => by
                    have hl := HLF.out
                    unfold scaled sclR
                    rw [mkR_at _ (by omega)]
                    exact ⟨Int.emod_nonneg _ (by omega), Int.emod_lt_of_pos _ (by omega)⟩
                  obtain ⟨y, hy⟩ : ∃ y, y = at' m s k := ⟨_, rfl⟩
                  have hci : wi.cell? ⟨bi, oi + k, none⟩ = some (.int .i64 y) := by rw [hy]; exact hci0
                  rw [← hy] at y0 y1 HDR
                  have e2 : IntKind.i64.wrap (p - y) = p - y := IntWalk.i64_in _ (by omega)
                  have hyy : (p - y) % p = -y % p := by simp
                  have HDR := Lib.hid (hyy ▸ HDR.out)
                  have e3 : (p - y).tmod p = -y % p := (Int.tmod_eq_emod_of_nonneg (by omega)).trans hyy
                  have q0 := Int.emod_nonneg (-y) (by omega : p ≠ 0)
                  have q1 := Int.emod_lt_of_pos (-y) (by omega : 0 < p)
                  have hp0 : ¬ p = 0 := by omega
                  have hp1 : (p == 0) = false := by simpa using hp0
                  have fi := HTI.out.free i
                  have HTd : Hid (TagR w.heap.size wi.drew.heap.size wi.drew (some ⟨bi, oi, none⟩) (rw' m s)) := HTG.out.block (Nat.le_refl _) (Nat.le_refl _) (fun _ _ _ _ _ => rfl)
                  have HRd : Hid (TagR w.heap.size wi.drew.heap.size wi.drew r3 (scaled p m f k)) := HRI.out.block (Nat.le_refl _) (Nat.le_refl _) (fun _ _ _ _ _ => rfl)
                  have hwd : wi.heap.size ≤ wi.drew.heap.size := Nat.le_refl _
                  clear hs hy hti hci0 hyy
                  go_wp2
                  go_region_with (first | (go_at_call 26; (with_reducible refine (l02Plus_n p (-y % p) _ _ (rw' m s) (scaled p m f k) c _ _ w.heap.size wi.drew.heap.size w.heap.size wi.drew.heap.size _ HP.out HTd.out.row HRd.out.row (Nat.le_refl _) (Nat.le_refl _) HLS2.out HLS.out (by omega) HNS.out HNB.out q0 (by omega)).mono ?_); rintro e w5 ⟨hl5, r5, k5, rfl, ht5, hb5⟩; have HL5 := Lib.hid hl5; have HT5 := Lib.hid ht5; have HB5 := Lib.hid hb5; have HM5 := Lib.hid ((HTI.out.below (Below.refl wi.heap.size wi).drew).below hb5); obtain ⟨rq, cq, gq, _⟩ := HM5.out.row i (by rw [rowsAt_len]; omega); have fq := HM5.out.free i; clear hl5 ht5 hb5))
                  all_goals go_wp2
                  all_goals go_roundw
                  all_goals (first | (case rel =>
                    exact ⟨i + 1, by omega, by go_num, by rw [← rowsAt_next (by omega) hid, HDR.out]; exact HM5.out.setn (by rw [rowsAt_len]; omega) HL5.out (HT5.out.block hwz4 (Nat.le_refl _) (fun _ _ _ _ _ => rfl)),
                      TagR.keepTop HM5.out (HRd.out.below HB5.out (Nat.le_refl _) (Nat.le_refl _) HB5.out.size), below_top hgb (HBI.out.trans ((((Below.refl wi.heap.size wi).drew).trans HB5.out).mono hwz4))⟩) | (simp [intOf]; omega))
              · have hin : i = A.length := by omega
                subst hin
                clear hTi hRi hBi
                go_wp2
                go_roundw
                case rel => exact ⟨d + 1, k + 1, _, _, by go_num, by go_num, by omega, by rw [← hmn] at HTI; exact HC.out.rows HP.out hlt hdf (by omega) (by rw [← HX.out]; exact hx1'), by rw [hmn]; exact HTI.out, HBI.out⟩
                case measure => simp [intOf]; omega
        · have hfn : f = A.length := by omega
          subst hfn
          clear hq
          go_wp2
          go_roundw
          case rel => exact ⟨d, k + 1, m, P, rfl, by go_num, by omega, HC.out.skip (fun i h1 h2 => HZ.out i h1 (by omega)), HTr.out, HB.out.trans (HQ.out.below _)⟩
          case measure => simp [intOf]; omega
    · have hkc : k = c := by omega
      subst hkc
      have HD := Lib.hid HC.out.done
      go_wp2
      go_ret
      exact newB_of HD.out HT.out HB.out hdn hmn

end Go.Proofs.YtijklpcelbnnjaaGreat

namespace Go.Proofs.YtijklpcelbnnjaaGreat
open Go.RowKit Go.ChangeShapes Go.WideShapes
set_option linter.unusedVariables false

/-- What has been seen of the first i rows. -/
def Seen (p : Int) (m : List (List Int)) (i : Nat) : Prop := ∀ i', i' < i → (rw' m i').length = (rw' m 0).length ∧ (1 ≤ (rw' m i').length ∧ (rw' m i').length ≤ 16) ∧ (rw' m i').all (inr p) = true
theorem Seen.zero (p : Int) (m : List (List Int)) : Seen p m 0 := fun i' h => by omega
theorem Seen.next {p : Int} {m : List (List Int)} {i : Nat} (h : Seen p m i) (h1 : (rw' m i).length = (rw' m 0).length) (h2 : 1 ≤ (rw' m i).length ∧ (rw' m i).length ≤ 16) (h3 : (rw' m i).all (inr p) = true) : Seen p m (i + 1) := by
  intro i' hi'
  by_cases e : i' = i
  · subst e; exact ⟨h1, h2, h3⟩
  · exact h i' (by omega)
end Go.Proofs.YtijklpcelbnnjaaGreat

namespace Go.Proofs.YtijklpcelbnnjaaGreat
set_option linter.unusedVariables false

theorem rect_of {n : Nat} {p : Int} {m : List (List Int)} (h : Lst n p m) : Rect p m (rw' m 0).length where
  rows := by have := h.hi; omega
  cols := by
    by_cases h0 : 0 < m.length
    · have := h.c1 0 h0; omega
    · have e : m = [] := List.eq_nil_of_length_eq_zero (by omega)
      rw [e]; simp [rw']
  len := h.len
  num i hi := Nums.of (h.all i hi)

theorem tot_const {m : List (List Int)} {c : Nat} (h : ∀ i, i < m.length → (rw' m i).length = c) : ∀ {k : Nat}, k ≤ m.length → tot m k = k * c := by
  intro k
  induction k with
  | zero => intro _; simp [tot]
  | succ k ih => intro hk; simp only [tot]; rw [ih (by omega), h k (by omega), Nat.succ_mul]
theorem Lst.c16 {n : Nat} {p : Int} {m : List (List Int)} (h : Lst n p m) : (rw' m 0).length ≤ 16 := by
  by_cases h0 : 0 < m.length
  · exact h.c1 0 h0
  · have e : m = [] := List.eq_nil_of_length_eq_zero (by omega)
    rw [e]; simp [rw']
end Go.Proofs.YtijklpcelbnnjaaGreat

namespace Go.Proofs.YtijklpcelbnnjaaGreat
open Go.RowKit
set_option linter.unusedVariables false

open Classical in
/-- The reduced basis of what the rows make. -/
noncomputable def bas (p : Int) (A : List (List Int)) : List (List Int) := if h : ∃ m, IsBas p (rw' A 0).length A m then Classical.choose h else []
theorem bas_eq {p : Int} {A m : List (List Int)} (hp : 1 < p) (h : IsBas p (rw' A 0).length A m) : m = bas p A := by
  unfold bas
  rw [dif_pos ⟨m, h⟩]
  exact h.unique hp (Classical.choose_spec (⟨m, h⟩ : ∃ m, IsBas p (rw' A 0).length A m))
theorem bas_nil {p : Int} (hp : 1 < p) : bas p [] = [] := by
  refine (bas_eq hp (m := []) ⟨fun i hi => by simp at hi, ⟨fun _ => 0, ?_⟩, fun x => Iff.rfl⟩).symm
  constructor <;> intros <;> simp at * <;> omega
theorem l01Own2_nil (a : Option Addr) (ca : Nat) (w : World) :
    Calls Tryz.prog 52 #[.slice a 0 ca] w fun e w' => ∃ r k, e = .returned (.slice r 0 k) ∧ Below w.heap.size w w' := by
  have h := l01Own2_any a ([] : List (List Int)) ca 0 0 w (.inl rfl) (Nat.zero_le _) (by simp) (fun i hi => by simp at hi)
  refine h.mono ?_
  rintro e w' ⟨r, k, rfl, _, hb⟩
  exact ⟨r, k, rfl, hb⟩
set_option maxHeartbeats 800000 in
theorem l02Basis_nil (p : Int) (a : Option Addr) (ca : Nat) (w : World) :
    Calls Tryz.prog 50 #[.int .i64 p, .slice a 0 ca] w fun e w' => ∃ r k, e = .returned (.slice r 0 k) ∧ Below w.heap.size w w' := by
  go_enter Tryz.func50, Tryz.ntmps50
  go_wp2_with (go_at_call 52; (with_reducible refine (l01Own2_nil _ _ _).mono ?_); rintro e w1 ⟨r, k, rfl, hb1⟩; have HB := Lib.hid hb1; clear hb1)
  go_loopw [6, 7] (fun s t wr => s = .int .i64 0 ∧ t = .int .i64 0 ∧ wr = w1) (fun _ _ _ => 0)
  case atStart => exact ⟨rfl, rfl, rfl⟩
  case round =>
    obtain ⟨rfl, rfl, rfl⟩ := hrel
    go_wp2
    go_ret
    exact ⟨_, _, rfl, HB.out⟩

/-- The reduced basis in new memory. -/
def NewBas (p : Int) (A : List (List Int)) (w : World) (e : Ending) (w' : World) : Prop :=
  ∃ r k, e = .returned (.slice r (bas p A).length k) ∧ MatIn w.heap.size w'.heap.size w' r (bas p A) ∧ Below w.heap.size w w' ∧ IsBas p (rw' A 0).length A (bas p A)
theorem basis_any (p : Int) (a : Option Addr) (A : List (List Int)) (ca lo tp : Nat) (w : World) (hm : MatIn lo tp w a A) (ht : tp ≤ w.heap.size) (hA : isL 0 p A = true) :
    Calls Tryz.prog 50 #[.int .i64 p, .slice a A.length ca] w (NewBas p A w) := by
  have hL := isL_iff.1 hA
  have hp := (prm_bd hL.prime).1
  by_cases h0 : A = []
  · subst h0
    refine (l02Basis_nil p a ca w).mono ?_
    rintro e w' ⟨r, k, rfl, hb⟩
    have e0 := bas_nil (p := p) (by omega)
    refine ⟨r, k, by rw [e0]; rfl, by rw [e0]; exact .inl rfl, hb, ?_⟩
    rw [e0]
    refine ⟨fun i hi => by simp at hi, ⟨fun _ => 0, ?_⟩, fun x => Iff.rfl⟩
    constructor <;> intros <;> simp at * <;> omega
  · have h1 : 0 < A.length := List.length_pos_iff.2 h0
    have hR := rect_of hL
    have hc := hL.c0 0 h1
    have hc16 := hL.c16
    refine (l02Basis_any p a A ca lo tp (rw' A 0).length w hL.prime hm ht h1 (by have := hL.hi; omega) (by omega) (by omega) hL.len (fun i hi j hj => hR.at hi hj)).mono ?_
    rintro e w' ⟨r, k, m, rfl, hM, hB, hb⟩
    have e1 := bas_eq (by omega) hB
    subst e1
    exact ⟨r, k, rfl, hM, hb, hB⟩
theorem Rref.rows_le {p : Int} {n c : Nat} {R : Nat → Nat → Int} {P : Nat → Nat} (h : Rref p n c R P) : n ≤ c := by
  have key : ∀ i, i < n → i ≤ P i := by
    intro i
    induction i with
    | zero => intro _; exact Nat.zero_le _
    | succ i ih => intro hi; have := ih (by omega); have := h.mono i (i + 1) (by omega) hi; omega
  by_cases h0 : n = 0
  · omega
  · have := key (n - 1) (by omega); have := h.pv (n - 1) (by omega); omega
theorem bas_small {p : Int} {A : List (List Int)} (hA : isL 0 p A = true) (h : IsBas p (rw' A 0).length A (bas p A)) : (bas p A).length ≤ 1024 ∧ ∀ i, i < (bas p A).length → 0 < (rw' (bas p A) i).length ∧ (rw' (bas p A) i).length ≤ 1024 := by
  have hL := isL_iff.1 hA
  have hc16 := hL.c16
  obtain ⟨P, hP⟩ := h.red
  have hle : (bas p A).length ≤ (rw' A 0).length := hP.rows_le
  refine ⟨by omega, fun i hi => ?_⟩
  rw [h.len i hi]
  omega

end Go.Proofs.YtijklpcelbnnjaaGreat

namespace Go.Proofs.YtijklpcelbnnjaaGreat
open Go.RowKit
set_option linter.unusedVariables false

/-- The matrix of the products with x. -/
def leftM (p : Int) (S x : List Int) : List (List Int) := mk (bl S) (bl S) fun i j => prodF p S x (bladeM S j) i
/-- Its product with a list is the geometric product. -/
theorem left_prod {p : Int} {S x y : List Int} {i : Nat} (hi : i < bl S) : sm (bl S) (fun j => prodF p S x (bladeM S j) i * y.getD j 0) % p = prodF p S x y i := by
  have hi' : i < 2 ^ S.length := hi
  have e1 : ∀ j, j < bl S → prodF p S x (bladeM S j) i = (x.getD (i ^^^ j) 0 * fz S (i ^^^ j) j S.length) % p := fun j hj => by
    unfold prodF gpz
    have h : ∀ a, a < 2 ^ S.length → x.getD a 0 * fz S a (a ^^^ i) S.length * (bladeM S j).getD (a ^^^ i) 0 = if a = i ^^^ j then x.getD (i ^^^ j) 0 * fz S (i ^^^ j) j S.length else 0 := fun a ha => by
      unfold bladeM
      rw [mkR_at _ (show a ^^^ i < bl S from Nat.xor_lt_two_pow ha hi')]
      by_cases e : a = i ^^^ j
      · have e2 : a ^^^ i = j := by rw [e, Nat.xor_comm i j, Nat.xor_assoc, Nat.xor_self, Nat.xor_zero]
        rw [if_pos e, if_pos e2, e2, ← e, Int.mul_one]
      · have e2 : ¬ a ^^^ i = j := fun h => e (by rw [← h, Nat.xor_comm a i, xor_back])
        rw [if_neg e, if_neg e2, Int.mul_zero]
    rw [sm_congr h, sm_single, if_pos (Nat.xor_lt_two_pow hi' hj)]
  have e2 : sm (bl S) (fun j => prodF p S x (bladeM S j) i * y.getD j 0) % p = sm (bl S) (fun j => x.getD (j ^^^ i) 0 * fz S (j ^^^ i) j S.length * y.getD j 0) % p := by
    apply sm_congr_p
    intro j hj
    rw [e1 j hj, em_l, Nat.xor_comm i j]
  rw [e2]
  unfold prodF gpz
  congr 1
  rw [← sm_xor S.length i hi' (fun a => x.getD a 0 * fz S a (a ^^^ i) S.length * y.getD (a ^^^ i) 0)]
  apply sm_congr
  intro j _
  show _ = x.getD (j ^^^ i) 0 * fz S (j ^^^ i) (j ^^^ i ^^^ i) S.length * y.getD (j ^^^ i ^^^ i) 0
  rw [Nat.xor_assoc, Nat.xor_self, Nat.xor_zero]

end Go.Proofs.YtijklpcelbnnjaaGreat
