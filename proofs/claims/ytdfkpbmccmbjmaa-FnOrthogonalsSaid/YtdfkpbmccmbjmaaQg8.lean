/-
  The model's reduced bases: the walk.
  Conditions: the list of vectors is a row of rows of known cells with numbers of the prime, all of one length, at least one.
  What a law knows of the lists and matrices that it is handed.
  No conditions: what can be read as data.
  The words in which the exact laws of matrices are walked: what a function of the program or of the model hands back, and the laws' marks of lists.
  No conditions.
  What the program's and the model's checks of lists of numbers return.
  Conditions: they are nil or rows of known cells.
  What the program's and the model's checks of lists of numbers, matrices and lists of vectors return.
  Conditions: they are nil or rows of known cells.
-/
import Derived.Test.YtdfkpbmccmbjmaaQg4
import Derived.Deep.RegionLaw
import Derived.Deep.RegionWith
import Derived.Test.YtdfkpbmccmbjmaaQg2
import Derived.OpenShut
import Derived.Deep.Matrix
namespace Go.Proofs.Ytdfkpbmccmbjmaa
open Go.RowKit
set_option linter.unusedVariables false

/-- A row of n numbers in new memory is handed back. -/
def NewL (n : Nat) (z : List Int) (w : World) (e : Ending) (w' : World) : Prop :=
  z.length = n ∧ ∃ r c, e = .returned (.slice r n c) ∧ TagR w.heap.size w'.heap.size w' r z ∧ Below w.heap.size w w'
theorem NewR.l {n : Nat} {z : List Int} {w w' : World} {e : Ending} (h : NewR z w e w') (hn : z.length = n) : NewL n z w e w' := by
  subst hn; exact ⟨rfl, h⟩
theorem l02Scale_n (p k : Int) (a : Option Addr) (za : List Int) (n ca lo tp : Nat) (w : World) (hp : prm p = true) (ha : RowIn lo tp w a za) (ht : tp ≤ w.heap.size)
    (hn : za.length = n) (hs : n ≤ 1048576) (hna : ∀ j, j < n → 0 ≤ za.getD j 0 ∧ za.getD j 0 < p) (k0 : 0 ≤ k) (k1 : k ≤ p) :
    Calls Try.prog 71 #[.int .i64 p, .slice a n ca, .int .i64 k] w (NewL n (sclR p za k) w) := by
  subst hn
  exact (l02Scale_any p k a za ca lo tp w hp ha ht hs hna k0 k1).mono (fun e w' h => h.l (by unfold sclR; rw [mkR_len]))
theorem l02Plus_n (p k : Int) (a b : Option Addr) (za zb : List Int) (n ca cb lo tp lo' tp' : Nat) (w : World) (hp : prm p = true) (ha : RowIn lo tp w a za) (hb : RowIn lo' tp' w b zb) (ht : tp ≤ w.heap.size) (ht' : tp' ≤ w.heap.size)
    (hn : za.length = n) (hn' : zb.length = n) (hs : n ≤ 1048576) (hna : ∀ j, j < n → 0 ≤ za.getD j 0 ∧ za.getD j 0 < p) (hnb : ∀ j, j < n → 0 ≤ zb.getD j 0 ∧ zb.getD j 0 < p) (k0 : 0 ≤ k) (k1 : k ≤ p) :
    Calls Try.prog 73 #[.int .i64 p, .slice a n ca, .slice b n cb, .int .i64 k] w (NewL n (plusR p za zb k) w) := by
  subst hn
  have h := l02Plus_any p k a b za zb ca cb lo tp lo' tp' w hp ha hb ht ht' (by omega) hs hna (fun j hj => hnb j (by omega)) k0 k1
  rw [hn'] at h
  exact h.mono (fun e w' h => h.l (by unfold plusR; rw [mkR_len]))
theorem TopM.setn {lo n : Nat} {w : World} {b i : Nat} {m : List (List Int)} {r : Option Addr} {z : List Int} {c : Nat} (h : TopM lo w b m) (hi : i < m.length) (hn : z.length = n) (hz : TagR lo w.heap.size w r z) :
    TopM lo (w.setCell ⟨b, i, none⟩ (.slice r n c)) b (m.set i z) := by
  subst hn; exact h.set hi hz
theorem TagR.keepTop {lo : Nat} {w : World} {b i : Nat} {m : List (List Int)} {r : Option Addr} {z : List Int} {v : Value} (h : TopM lo w b m) (hz : TagR lo w.heap.size w r z) : TagR lo (w.setCell ⟨b, i, none⟩ v).heap.size (w.setCell ⟨b, i, none⟩ v) r z := by
  have hsz : (w.setCell ⟨b, i, none⟩ v).heap.size = w.heap.size := by simp [World.setCell]
  rw [hsz]
  exact hz.setTop h

/-- From row d to row f column k is zero. -/
def Zer (m : List (List Int)) (k d f : Nat) : Prop := ∀ i, d ≤ i → i < f → at' m i k = 0

theorem below_top {B b i : Nat} {w w' : World} {v : Value} (h : B ≤ b) (hb : Below B w w') : Below B w (w'.setCell ⟨b, i, none⟩ v) := Below.setCell hb (show B ≤ (⟨b, i, none⟩ : Addr).block from h) v
theorem newB_of {p : Int} {c d n gb cap : Nat} {A m : List (List Int)} {w w' : World} (h : IsBas p c A (m.take d)) (ht : TopM w.heap.size w' gb m) (hb : Below w.heap.size w w') (hd : d ≤ m.length) (hn : m.length = n) :
    NewB p c A w (.returned (.slice (some ⟨gb, 0, none⟩) d cap)) w' := by
  have hl : (m.take d).length = d := by rw [List.length_take]; omega
  refine ⟨some ⟨gb, 0, none⟩, cap, m.take d, by rw [hl], .inr ⟨gb, 0, rfl, ht.lob, ht.lt, fun i hi => ?_⟩, h, hb⟩
  rw [hl] at hi
  obtain ⟨r, c', h1, h2⟩ := ht.row i (by omega)
  rw [rw_take hi]
  exact ⟨r, c', by rw [Nat.zero_add]; exact h1, h2.row⟩

set_option maxRecDepth 100000 in
set_option maxHeartbeats 6400000 in
theorem l02Basis_any (p : Int) (a : Option Addr) (A : List (List Int)) (ca lo tp c : Nat) (w : World) (hp : prm p = true) (hm : MatIn lo tp w a A) (ht : tp ≤ w.heap.size) (h0 : 0 < A.length) (hn : A.length ≤ 1024) (c0 : 0 < c) (c1 : c ≤ 1024)
    (hl : ∀ i, i < A.length → (rw' A i).length = c) (hr : ∀ i, i < A.length → ∀ j, j < c → 0 ≤ at' A i j ∧ at' A i j < p) :
    Calls Try.prog 53 #[.int .i64 p, .slice a A.length ca] w (NewB p c A w) := by
  have hpb := prm_bd hp
  have HP := Lib.hid hp
  have HM := Lib.hid hm
  have HC2 : Hid (∀ i, i < A.length → 0 < (rw' A i).length ∧ (rw' A i).length ≤ 1024) := fun i hi => by rw [hl i hi]; exact ⟨c0, c1⟩
  have HST := Lib.hid (ColAt.start hl hr)
  clear hm hp hl hr
  go_enter Try.func53, Try.ntmps53
  go_wp2_with (go_at_call 56; (with_reducible refine (l01Own2_out _ A _ lo tp _ HM.out ht hn HC2.out).mono ?_); rintro e w1 ⟨v, rfl, ho, hb1⟩; obtain ⟨gb, cap, rfl, hnc, hcm, htop⟩ := ho.top h0; have HT1 := Lib.hid htop; have HB1 := Lib.hid hb1; have hgb := htop.lob; clear ho htop hb1)
  go_loopw [6, 7] (fun s t wr => ∃ (d k : Nat) (m : List (List Int)) (P : Nat → Nat), s = .int .i64 d ∧ t = .int .i64 k ∧ k ≤ c ∧ ColAt p c A m d k P ∧ TopM w.heap.size wr gb m ∧ Below w.heap.size w wr) (fun _ t _ => c - (intOf t).toNat)
  case atStart => exact ⟨0, 0, A, _, rfl, rfl, Nat.zero_le _, HST.out, HT1.out, HB1.out⟩
  case round =>
    obtain ⟨d, k, m, P, rfl, rfl, hk, hC, hT, hB⟩ := hrel
    have HC := Lib.hid hC
    have HT := Lib.hid hT
    have HB := Lib.hid hB
    have hwz := hB.size
    have hmn := hC.n
    have hdn := hC.dn
    obtain ⟨r0, c0', g0, _⟩ := hT.row 0 (by omega)
    have hl0 := hC.len 0 (by omega)
    rw [hl0] at g0
    rename World => wo
    clear hC hT hB hl0
    by_cases hlt : k < c
    · have hk1 : (k : Int) < (c : Int) := by omega
      go_wp2
      go_loopw [8] (fun t wr => ∃ f : Nat, d ≤ f ∧ f ≤ A.length ∧ t = .int .i64 f ∧ Zer m k d f ∧ Quiet wo wr) (fun t _ => A.length - (intOf t).toNat)
      case atStart => exact ⟨d, Nat.le_refl _, by omega, rfl, fun i h1 h2 => by omega, Quiet.refl _⟩
      case round =>
        obtain ⟨f, hdf, hf, rfl, hz, hq⟩ := hrel
        have HZ := Lib.hid hz
        have HQ := Lib.hid hq
        clear hz
        have HTr := Lib.hid (HT.out.below (hq.below _))
        rename World => wf
        by_cases hltf : f < A.length
        · obtain ⟨rf, cf, g1, htf⟩ := HTr.out.row f (by omega)
          have hlf := HC.out.len f (by omega)
          rw [hlf] at g1
          have hrow := htf.row
          obtain ⟨bf, of', haf, _, _, hcf0⟩ := hrow.num (j := k) (by omega)
          subst haf
          have HTF := Lib.hid htf
          obtain ⟨x0, x1⟩ := HC.out.rng f (by omega) k hlt
          obtain ⟨x, hx⟩ : ∃ x, x = at' m f k := ⟨_, rfl⟩
          have hcf : wf.cell? ⟨bf, of' + k, none⟩ = some (.int .i64 x) := by rw [hx]; exact hcf0
          rw [← hx] at x0 x1
          have HX := Lib.hid hx
          have hf1 : (f : Int) < (A.length : Int) := by omega
          clear hx hrow htf hlf hq hcf0
          by_cases hxz : x = 0
          · subst hxz
            go_wp2
            go_roundw
            case rel => exact ⟨f + 1, by omega, by omega, by go_num, fun i h1 h2 => by
                by_cases e : i = f
                · subst e; exact HX.out.symm
                · exact HZ.out i h1 (by omega), HQ.out⟩
            case measure => simp [intOf]; omega
          · have hx1 : (x == 0) = false := by simpa using hxz
            obtain ⟨rd, cd, g2, htd⟩ := HTr.out.row d (by omega)
            have hld := HC.out.len d (by omega)
            have hlf := HC.out.len f (by omega)
            rw [hld] at g2
            have ff := HTr.out.free f
            have fd := HTr.out.free d
            have hd1 : (d : Int) < (A.length : Int) := by omega
            have HT2 := Lib.hid (HTr.out.setn (c := cd) (i := f) (by omega) hld htd)
            have HF2 := Lib.hid (HTF.out.setTop (i := f) (v := .slice rd c cd) HTr.out)
            have HB2 : Hid (Below w.heap.size w (wf.setCell ⟨gb, f, none⟩ (.slice rd c cd))) := by
              have hb0 := HB.out.trans (HQ.out.below _)
              have hs0 := hb0.size
              show Below w.heap.size w _
              (have hs_hb0 := hb0.size; (repeat' (first | with_reducible exact Below.refl _ _ | (with_reducible refine Below.setCell ?_ ?_ _) | (with_reducible refine Below.alloc ?_ ?_ _) | (with_reducible refine Below.drew ?_) | (with_reducible refine below_step ?_ ?_ hb0))); all_goals (first | (simp; done) | omega | (simp; omega) | (simp at hs_hb0 ⊢; omega)))
            obtain ⟨v0, v1⟩ := inv_bd HP.out x
            have hz2 : (wf.setCell ⟨gb, f, none⟩ (.slice rd c cd)).heap.size = wf.heap.size := by simp [World.setCell]
            have HZ2 := Lib.hid hz2
            have hcf2 : (wf.setCell ⟨gb, f, none⟩ (.slice rd c cd)).cell? ⟨bf, of' + k, none⟩ = some (.int .i64 x) := by
              rcases HF2.out with h | ⟨b, o, cur, e, _, _, _, hc⟩
              · rw [h] at hlf; simp at hlf; omega
              · cases e
                have := hc k (by omega)
                rw [HX.out]; exact this
            have HLF := Lib.hid hlf
            have hx1' : 1 ≤ x := by omega
            have HNF : Hid (∀ j, j < c → 0 ≤ (rw' m f).getD j 0 ∧ (rw' m f).getD j 0 < p) := fun j hj => HC.out.rng f (by omega) j hj
            have hw2 : wf.heap.size ≤ (wf.setCell ⟨gb, f, none⟩ (.slice rd c cd)).heap.size := by rw [HZ2.out]; exact Nat.le_refl _
            have HW2 := Lib.hid hw2
            have hlb : w.heap.size ≤ (wf.setCell ⟨gb, f, none⟩ (.slice rd c cd)).heap.size := HB2.out.size
            clear htd hld hlf hz2 hw2
            go_wp2_with (first | (go_at_call 72; (with_reducible refine (l01Inv_any p x _ HP.out hx1' x1).mono ?_); rintro e w' ⟨rfl, rfl⟩) | (go_at_call 71; (with_reducible refine (l02Scale_n p (inv p x) _ (rw' m f) c _ w.heap.size wf.heap.size _ HP.out HF2.out.row HW2.out HLF.out (by omega) HNF.out v0 (by omega)).mono ?_); rintro e w3 ⟨hl3, r3, k3, rfl, ht3, hb3⟩; have HL3 := Lib.hid hl3; have HT3 := Lib.hid ht3; have HB3 := Lib.hid hb3; have HM3 := Lib.hid (HT2.out.below hb3); obtain ⟨rq, cq, gq, _⟩ := HM3.out.row d (by rw [List.length_set]; omega); have fq := HM3.out.free d; clear hl3 ht3 hb3))
            have HI0 : Hid (TopM w.heap.size (w3.setCell ⟨gb, d, none⟩ (.slice r3 c k3)) gb (rowsAt p m d f k 0) ∧ TagR w.heap.size (w3.setCell ⟨gb, d, none⟩ (.slice r3 c k3)).heap.size (w3.setCell ⟨gb, d, none⟩ (.slice r3 c k3)) r3 (scaled p m f k) ∧ Below w.heap.size w (w3.setCell ⟨gb, d, none⟩ (.slice r3 c k3))) := by
              have hz3 : (w3.setCell ⟨gb, d, none⟩ (.slice r3 c k3)).heap.size = w3.heap.size := by simp [World.setCell]
              have hE : sclR p (rw' m f) (inv p x) = scaled p m f k := by rw [HX.out]; rfl
              have hT3 := HT3.out
              have hL3 := HL3.out
              rw [hE] at hT3 hL3
              have hT3' : TagR w.heap.size w3.heap.size w3 r3 (scaled p m f k) := hT3.block hlb (Nat.le_refl _) (fun _ _ _ _ _ => rfl)
              refine ⟨?_, ?_, ?_⟩
              · rw [← rowsAt_start (by omega) (by omega)]
                exact HM3.out.setn (by rw [List.length_set]; omega) hL3 hT3'
              · rw [hz3]; exact hT3'.setTop HM3.out
              · have hb0 := HB2.out.trans (HB3.out.mono hlb)
                have hs0 := hb0.size
                (have hs_hb0 := hb0.size; (repeat' (first | with_reducible exact Below.refl _ _ | (with_reducible refine Below.setCell ?_ ?_ _) | (with_reducible refine Below.alloc ?_ ?_ _) | (with_reducible refine Below.drew ?_) | (with_reducible refine below_step ?_ ?_ hb0))); all_goals (first | (simp; done) | omega | (simp; omega) | (simp at hs_hb0 ⊢; omega)))
            have HLS : Hid ((scaled p m f k).length = c) := by have h := HL3.out; show (scaled p m f k).length = c; unfold scaled; rw [← HX.out]; exact h
            obtain ⟨w4, hw4⟩ : ∃ w4, w4 = w3.setCell ⟨gb, d, none⟩ (.slice r3 c k3) := ⟨_, rfl⟩
            rw [← hw4] at HI0
            rw [← hw4]
            have HW4 := Lib.hid hw4
            clear hw4 hcf hcf2 g0 g1 g2 gq ff fd fq
            go_loopw [10] (fun t wr => ∃ i : Nat, i ≤ A.length ∧ t = .int .i64 i ∧ TopM w.heap.size wr gb (rowsAt p m d f k i) ∧ TagR w.heap.size wr.heap.size wr r3 (scaled p m f k) ∧ Below w.heap.size w wr) (fun t _ => A.length - (intOf t).toNat)
            case atStart => exact ⟨0, Nat.zero_le _, rfl, HI0.out.1, HI0.out.2.1, HI0.out.2.2⟩
            case round =>
              obtain ⟨i, hi, rfl, hTi, hRi, hBi⟩ := hrel
              have HTI := Lib.hid hTi
              have HRI := Lib.hid hRi
              have HBI := Lib.hid hBi
              have hwz4 := hBi.size
              rename World => wi
              by_cases hlti : i < A.length
              · have hi1 : (i : Int) < (A.length : Int) := by omega
                clear hTi hRi hBi
                by_cases hid : i = d
                · subst hid
                  go_wp2
                  go_roundw
                  case rel => exact ⟨i + 1, by omega, by go_num, by rw [← rowsAt_skip]; exact HTI.out, HRI.out, HBI.out⟩
                  case measure => simp [intOf]; omega
                · have hid1 : ((i : Int) == (d : Int)) = false := by simp; omega
                  have hid2 : ¬ (i : Int) = (d : Int) := by omega
                  obtain ⟨s, hs⟩ : ∃ s, s = sig d f i := ⟨_, rfl⟩
                  have hsm : s < m.length := by rw [hs]; unfold sig; split <;> omega
                  have HRW : Hid (rw' (rowsAt p m d f k i) i = rw' m s) := by
                    show rw' (rowsAt p m d f k i) i = rw' m s
                    rw [rowsAt_row (by omega), if_neg (Nat.lt_irrefl _), hs]; unfold midRow; rw [if_neg hid]
                  have HDR : Hid (doneRow p m d f k i = plusR p (rw' m s) (scaled p m f k) ((p - at' m s k) % p)) := by
                    show doneRow p m d f k i = _
                    rw [hs]; unfold doneRow; rw [if_neg hid]
                  have HLS2 : Hid ((rw' m s).length = c) := HC.out.len s hsm
                  obtain ⟨ri, ci, gi, hti⟩ := HTI.out.row i (by rw [rowsAt_len]; omega)
                  rw [HRW.out] at gi hti
                  rw [HLS2.out] at gi
                  have HTG := Lib.hid hti
                  obtain ⟨bi, oi, hai, _, hbi, hci0⟩ := hti.row.num (j := k) (by rw [HLS2.out]; omega)
                  subst hai
                  obtain ⟨y0, y1⟩ := HC.out.rng s hsm k hlt
                  have HNS : Hid (∀ j, j < c → 0 ≤ (rw' m s).getD j 0 ∧ (rw' m s).getD j 0 < p) := fun j hj => HC.out.rng s hsm j hj
                  have HNB : Hid (∀ j, j < c → 0 ≤ (scaled p m f k).getD j 0 ∧ (scaled p m f k).getD j 0 < p) := fun j hj => by
                    have hl := HLF.out
                    unfold scaled sclR
                    rw [mkR_at _ (by omega)]
                    exact ⟨Int.emod_nonneg _ (by omega), Int.emod_lt_of_pos _ (by omega)⟩
                  obtain ⟨y, hy⟩ : ∃ y, y = at' m s k := ⟨_, rfl⟩
                  have hci : wi.cell? ⟨bi, oi + k, none⟩ = some (.int .i64 y) := by rw [hy]; exact hci0
                  rw [← hy] at y0 y1 HDR
                  have e2 : IntKind.i64.wrap (p - y) = p - y := IntWalk.i64_in _ (by omega)
                  have hyy : (p - y) % p = -y % p := by simp
                  have HDR := Lib.hid (hyy ▸ HDR.out)
                  have e3 : (p - y).tmod p = -y % p := (Int.tmod_eq_emod_of_nonneg (by omega)).trans hyy
                  have q0 := Int.emod_nonneg (-y) (by omega : p ≠ 0)
                  have q1 := Int.emod_lt_of_pos (-y) (by omega : 0 < p)
                  have hp0 : ¬ p = 0 := by omega
                  have hp1 : (p == 0) = false := by simpa using hp0
                  have fi := HTI.out.free i
                  have HTd : Hid (TagR w.heap.size wi.drew.heap.size wi.drew (some ⟨bi, oi, none⟩) (rw' m s)) := HTG.out.block (Nat.le_refl _) (Nat.le_refl _) (fun _ _ _ _ _ => rfl)
                  have HRd : Hid (TagR w.heap.size wi.drew.heap.size wi.drew r3 (scaled p m f k)) := HRI.out.block (Nat.le_refl _) (Nat.le_refl _) (fun _ _ _ _ _ => rfl)
                  have hwd : wi.heap.size ≤ wi.drew.heap.size := Nat.le_refl _
                  clear hs hy hti hci0 hyy
                  go_wp2
                  go_region_with (first | (go_at_call 73; (with_reducible refine (l02Plus_n p (-y % p) _ _ (rw' m s) (scaled p m f k) c _ _ w.heap.size wi.drew.heap.size w.heap.size wi.drew.heap.size _ HP.out HTd.out.row HRd.out.row (Nat.le_refl _) (Nat.le_refl _) HLS2.out HLS.out (by omega) HNS.out HNB.out q0 (by omega)).mono ?_); rintro e w5 ⟨hl5, r5, k5, rfl, ht5, hb5⟩; have HL5 := Lib.hid hl5; have HT5 := Lib.hid ht5; have HB5 := Lib.hid hb5; have HM5 := Lib.hid ((HTI.out.below (Below.refl wi.heap.size wi).drew).below hb5); obtain ⟨rq, cq, gq, _⟩ := HM5.out.row i (by rw [rowsAt_len]; omega); have fq := HM5.out.free i; clear hl5 ht5 hb5))
                  all_goals go_wp2
                  all_goals go_roundw
                  all_goals (first | (case rel =>
                    exact ⟨i + 1, by omega, by go_num, by rw [← rowsAt_next (by omega) hid, HDR.out]; exact HM5.out.setn (by rw [rowsAt_len]; omega) HL5.out (HT5.out.block hwz4 (Nat.le_refl _) (fun _ _ _ _ _ => rfl)),
                      TagR.keepTop HM5.out (HRd.out.below HB5.out (Nat.le_refl _) (Nat.le_refl _) HB5.out.size), below_top hgb (HBI.out.trans ((((Below.refl wi.heap.size wi).drew).trans HB5.out).mono hwz4))⟩) | (simp [intOf]; omega))
              · have hin : i = A.length := by omega
                subst hin
                clear hTi hRi hBi
                go_wp2
                go_roundw
                case rel => exact ⟨d + 1, k + 1, _, _, by go_num, by go_num, by omega, by rw [← hmn] at HTI; exact HC.out.rows HP.out hlt hdf (by omega) (by rw [← HX.out]; exact hx1'), by rw [hmn]; exact HTI.out, HBI.out⟩
                case measure => simp [intOf]; omega
        · have hfn : f = A.length := by omega
          subst hfn
          clear hq
          go_wp2
          go_roundw
          case rel => exact ⟨d, k + 1, m, P, rfl, by go_num, by omega, HC.out.skip (fun i h1 h2 => HZ.out i h1 (by omega)), HTr.out, HB.out.trans (HQ.out.below _)⟩
          case measure => simp [intOf]; omega
    · have hkc : k = c := by omega
      subst hkc
      have HD := Lib.hid HC.out.done
      go_wp2
      go_ret
      exact newB_of HD.out HT.out HB.out hdn hmn

end Go.Proofs.Ytdfkpbmccmbjmaa

namespace Go.Proofs.Ytdfkpbmccmbjmaa
open Go.RowKit Go.ChangeShapes Go.WideShapes
set_option linter.unusedVariables false

def IsMat (w : World) (a : Option Addr) (len : Nat) : Prop :=
  ∃ m : List (List Int), m.length = len ∧ MatIn 0 w.heap.size w a m ∧ len ≤ 9223372036854775807 ∧ ∀ i, i < m.length → (rw' m i).length ≤ 9223372036854775807
def IsLst (w : World) (a : Option Addr) (len : Nat) : Prop :=
  ∃ z : List Int, z.length = len ∧ RowIn 0 w.heap.size w a z ∧ len ≤ 9223372036854775807

theorem row_of {w : World} {x : Addr} {len : Nat} {zs : List Int} (hl : len ≤ zs.length) (h : ∀ i, i < zs.length → w.cell? (x.add i) = some (.int .i64 (zs.getD i 0))) : RowIn 0 w.heap.size w (some x) (zs.take len) := by
  by_cases h0 : len = 0
  · exact .inl (by rw [h0]; rfl)
  · obtain ⟨b, o, rfl, hc⟩ := ints_at h (by omega)
    have hlt : b < w.heap.size := World.block_lt_of_cell? w ⟨b, o + 0, none⟩ (hc 0 (by omega))
    refine .inr ⟨b, o, rfl, Nat.zero_le _, hlt, fun i hi => ?_⟩
    rw [List.length_take] at hi
    rw [hc i (by omega)]
    simp only [List.getD_eq_getElem?_getD, List.getElem?_take]
    rw [if_pos (by omega)]
theorem isLst_nil (w : World) : IsLst w none 0 := ⟨[], rfl, .inl rfl, by omega⟩
theorem isLst_of {w : World} {x : Addr} {len cap : Nat} {zs : List Int} (h1 : len ≤ cap) (h2 : cap ≤ maxLen) (h3 : zs.length = cap) (h : ∀ i, i < zs.length → w.cell? (x.add i) = some (.int .i64 (zs.getD i 0))) : IsLst w (some x) len := by
  unfold maxLen at h2
  exact ⟨zs.take len, by simp; omega, row_of (by omega) h, by omega⟩
theorem isMat_nil (w : World) : IsMat w none 0 := ⟨[], rfl, .inl rfl, by omega, fun i hi => by simp at hi⟩
theorem slice_at {w : World} {x : Addr} {v : Nat → Value} {n : Nat} (hn : 0 < n) (h : ∀ r, r < n → w.cell? (x.add r) = some (v r)) : ∃ b o, x = ⟨b, o, none⟩ ∧ ∀ r, r < n → w.cell? ⟨b, o + r, none⟩ = some (v r) := by
  obtain ⟨b, off, spot⟩ := x
  have hspot : spot = none := by simpa [Addr.add] using World.cell?_spot (h 0 hn)
  subst hspot
  exact ⟨b, off, rfl, fun j hj => by rw [← Go.WideShapes.add_plain]; exact h j hj⟩
theorem isMat_of {w : World} {x : Addr} {len cap : Nat} {A : Nat → Option Addr} {L C : Nat → Nat} {Z : Nat → List Int} (hl : len ≤ cap) (hm : cap ≤ maxLen)
    (h : ∀ r, r < cap → w.cell? (x.add r) = some (.slice (A r) (L r) (C r)) ∧ L r ≤ C r ∧ C r ≤ maxLen ∧ (Z r).length = C r ∧ (∀ n ∈ Z r, (Lit.int .i64 n).wf = true) ∧ (A r = none → C r = 0) ∧
        ∀ a', A r = some a' → 0 ≤ a'.block ∧ ∀ c, c < C r → w.cell? (a'.add c) = some (.int .i64 ((Z r).getD c 0))) : IsMat w (some x) len := by
  unfold maxLen at hm
  refine ⟨(List.range len).map fun r => (Z r).take (L r), by simp, ?_, by omega, fun i hi => ?_⟩
  · by_cases h0 : len = 0
    · subst h0; exact .inl rfl
    · obtain ⟨b, o, rfl, hc⟩ := slice_at (n := cap) (v := fun r => .slice (A r) (L r) (C r)) (by omega) (fun r hr => (h r hr).1)
      have hlt : b < w.heap.size := World.block_lt_of_cell? w ⟨b, o + 0, none⟩ (hc 0 (by omega))
      refine .inr ⟨b, o, rfl, Nat.zero_le _, hlt, fun i hi => ?_⟩
      simp only [List.length_map, List.length_range] at hi
      obtain ⟨_, r1, r2, r3, _, r5, r6⟩ := h i (by omega)
      have e : rw' ((List.range len).map fun r => (Z r).take (L r)) i = (Z i).take (L i) := by simp [rw', List.getD, hi]
      rw [e]
      have e2 : ((Z i).take (L i)).length = L i := by simp; omega
      rw [e2]
      refine ⟨A i, C i, hc i (by omega), ?_⟩
      cases hA : A i with
      | none =>
        have := r5 hA
        have h0 : L i = 0 := by omega
        exact .inl (by rw [h0]; rfl)
      | some a' => exact row_of (by omega) (fun c hc' => (r6 a' hA).2 c (by omega))
  · simp only [List.length_map, List.length_range] at hi
    obtain ⟨_, r1, r2, r3, _⟩ := h i (by omega)
    unfold maxLen at r2
    have e : rw' ((List.range len).map fun r => (Z r).take (L r)) i = (Z i).take (L i) := by simp [rw', List.getD, hi]
    rw [e]; simp; omega

end Go.Proofs.Ytdfkpbmccmbjmaa

namespace Go.Proofs.Ytdfkpbmccmbjmaa
open Go.RowKit
set_option linter.unusedVariables false

/-- The model hands back a matrix and a code. -/
def SpecM (R : List (List Int)) (C : Int) (w : World) (e : Ending) (w' : World) : Prop :=
  ∃ r c, e = .returned (.tuple #[.slice r R.length c, .int .i64 C]) ∧ MatIn w.heap.size w'.heap.size w' r R ∧ Below w.heap.size w w'
/-- The program hands back a matrix of its own and a code. -/
def ImplM (R : List (List Int)) (C : Int) (w : World) (e : Ending) (w' : World) : Prop :=
  ∃ r c, e = .returned (.tuple #[.slice r R.length c, .int .i64 C]) ∧ OwnM w.heap.size w'.heap.size w' r R ∧ Below w.heap.size w w'
def SpecR (R : List Int) (C : Int) (w : World) (e : Ending) (w' : World) : Prop :=
  ∃ r c, e = .returned (.tuple #[.slice r R.length c, .int .i64 C]) ∧ RowIn w.heap.size w'.heap.size w' r R ∧ Below w.heap.size w w'
def ImplR (R : List Int) (C : Int) (w : World) (e : Ending) (w' : World) : Prop :=
  ∃ r c, e = .returned (.tuple #[.slice r R.length c, .int .i64 C]) ∧ OwnR w.heap.size w'.heap.size w' r R ∧ Below w.heap.size w w'
/-- A number and a code are handed back. -/
def RetI (V C : Int) (w : World) (e : Ending) (w' : World) : Prop := e = .returned (.tuple #[.int .i64 V, .int .i64 C]) ∧ Below w.heap.size w w'
def RetB (V : Bool) (C : Int) (w : World) (e : Ending) (w' : World) : Prop := e = .returned (.tuple #[.bool V, .int .i64 C]) ∧ Below w.heap.size w w'
end Go.Proofs.Ytdfkpbmccmbjmaa

namespace Go.Proofs.Ytdfkpbmccmbjmaa
open Go.RowKit Go.ChangeShapes Go.WideShapes
set_option linter.unusedVariables false

set_option maxHeartbeats 800000 in
theorem checkRow (p : Int) (a : Option Addr) (zs : List Int) (cap lo tp : Nat) (w : World) (hp : prm p = true) (hrow : RowIn lo tp w a zs) (hlen : zs.length ≤ 9223372036854775807) :
    Calls Try.prog 48 #[.int .i64 p, .slice a zs.length cap] w fun e w' => e = .returned (.int .i64 (codeOf p zs)) ∧ w = w' := by
  have HP := Lib.hid hp
  have HR := Lib.hid hrow
  clear hrow hp
  go_enter Try.func48, Try.ntmps48
  go_wp2_with (go_at_call 47; refine (isPrime_any _ _).mono ?_; rintro e w' ⟨rfl, rfl⟩; rw [HP.out])
  go_loop [12] (fun t => ∃ k : Nat, k ≤ zs.length ∧ t = .int .i64 k ∧ (zs.take k).all (inr p) = true) (fun t => zs.length - (intOf t).toNat)
  case atStart => exact ⟨0, Nat.zero_le _, rfl, rfl⟩
  case round =>
    obtain ⟨k, hk, rfl, hall⟩ := hrel
    have HA := Lib.hid hall
    clear hall
    by_cases hlt : k < zs.length
    · obtain ⟨b, o, ha, _, _, hcell⟩ := HR.out.num hlt
      subst ha
      obtain ⟨x, hx⟩ : ∃ x, x = zs.getD k 0 := ⟨_, rfl⟩
      rw [← hx] at hcell
      have HX := Lib.hid hx
      clear hx
      by_cases hin : 0 ≤ x ∧ x < p
      · have HI : Hid (inr p x = true) := inr_iff.2 hin
        obtain ⟨hi0, hi1⟩ := hin
        go_wp2
        go_round
        case rel => exact ⟨k + 1, by omega, by go_num, by rw [all_take_succ hlt HX.out, HA.out, HI.out]; rfl⟩
        case measure => simp [intOf]; omega
      · have HI : Hid (inr p x = false) := inr_not.2 hin
        have HC : Hid (codeOf p zs = 2) := code_bad HP.out (all_false_of hlt HX.out HI.out)
        by_cases h0 : x < 0
        · clear hin
          go_wp2
          go_ret
          exact ⟨by rw [HC.out]; rfl, rfl⟩
        · have h1 : p ≤ x := by omega
          clear hin
          go_wp2
          go_ret
          exact ⟨by rw [HC.out]; rfl, rfl⟩
    · have HC : Hid (codeOf p zs = 0) := code_ok HP.out (by have := HA.out; rwa [List.take_of_length_le (by omega)] at this)
      go_wp2
      go_ret
      exact ⟨by rw [HC.out]; rfl, rfl⟩

set_option maxHeartbeats 800000 in
theorem numsRow (p : Int) (a : Option Addr) (zs : List Int) (cap lo tp : Nat) (w : World) (hp : prm p = true) (hrow : RowIn lo tp w a zs) (hlen : zs.length ≤ 9223372036854775807) :
    Calls Try.prog 39 #[.int .i64 p, .slice a zs.length cap] w fun e w' => e = .returned (.bool (zs.all (inr p))) ∧ w = w' := by
  have hpb := prm_bd hp
  clear hp
  have HR := Lib.hid hrow
  clear hrow
  go_enter Try.func39, Try.ntmps39
  go_wp2
  go_loop [5] (fun t => ∃ k : Nat, k ≤ zs.length ∧ t = .int .i64 k ∧ (zs.take k).all (inr p) = true) (fun t => zs.length - (intOf t).toNat)
  case atStart => exact ⟨0, Nat.zero_le _, rfl, rfl⟩
  case round =>
    obtain ⟨k, hk, rfl, hall⟩ := hrel
    have HA := Lib.hid hall
    clear hall
    by_cases hlt : k < zs.length
    · obtain ⟨b, o, ha, _, _, hcell⟩ := HR.out.num hlt
      subst ha
      obtain ⟨x, hx⟩ : ∃ x, x = zs.getD k 0 := ⟨_, rfl⟩
      rw [← hx] at hcell
      have HX := Lib.hid hx
      clear hx
      by_cases hin : 0 ≤ x ∧ x < p
      · have HI : Hid (inr p x = true) := inr_iff.2 hin
        obtain ⟨hi0, hi1⟩ := hin
        go_wp2_with (go_at_call 38; refine (l01In_yes _ _ _ _ (by omega) (by omega)).mono ?_; rintro e w' ⟨rfl, rfl⟩)
        go_round
        case rel => exact ⟨k + 1, by omega, by go_num, by rw [all_take_succ hlt HX.out, HA.out, HI.out]; rfl⟩
        case measure => simp [intOf]; omega
      · have HI : Hid (inr p x = false) := inr_not.2 hin
        have HC : Hid (zs.all (inr p) = false) := all_false_of hlt HX.out HI.out
        have hin' : ¬ (0 ≤ x ∧ x ≤ p - 1) := by omega
        have HN := Lib.hid hin'
        clear hin hin'
        go_wp2_with (go_at_call 38; refine (l01In_no _ _ _ _ HN.out).mono ?_; rintro e w' ⟨rfl, rfl⟩)
        go_ret
        exact ⟨by rw [HC.out]; rfl, rfl⟩
    · have HC : Hid (zs.all (inr p) = true) := by have := HA.out; rwa [List.take_of_length_le (by omega)] at this
      go_wp2
      go_ret
      exact ⟨by rw [HC.out]; rfl, rfl⟩

set_option maxHeartbeats 800000 in
theorem checkRow_any (p : Int) (a : Option Addr) (zs : List Int) (cap lo tp : Nat) (w : World) (hrow : RowIn lo tp w a zs) (hlen : zs.length ≤ 9223372036854775807) :
    Calls Try.prog 48 #[.int .i64 p, .slice a zs.length cap] w fun e w' => e = .returned (.int .i64 (codeOf p zs)) ∧ w = w' := by
  by_cases hp : prm p = true
  · exact checkRow p a zs cap lo tp w hp hrow hlen
  · have HP : Hid (prm p = false) := by show _ = _; simpa using hp
    clear hp hrow
    go_enter Try.func48, Try.ntmps48
    go_wp2_with (go_at_call 47; refine (isPrime_any _ _).mono ?_; rintro e w' ⟨rfl, rfl⟩; rw [HP.out])
    go_ret
    exact ⟨by rw [code_np HP.out]; rfl, rfl⟩

set_option maxHeartbeats 800000 in
theorem isVector_any (p : Int) (a : Option Addr) (v : List Int) (c n lo tp : Nat) (w : World) (hp : prm p = true) (hv : RowIn lo tp w a v) (hs : v.length ≤ 1048576) (hn : n ≤ 1048576) :
    Calls Try.prog 43 #[.int .i64 p, .slice a v.length c, .int .i64 n] w fun e w' => e = .returned (.bool (decide (v.length = n) && v.all (inr p))) ∧ w = w' := by
  have HV := Lib.hid hv
  have HP := Lib.hid hp
  clear hv hp
  by_cases h : v.length = n
  · subst h
    by_cases ha : v.all (inr p) = true
    · have HA := Lib.hid ha
      have HC := Lib.hid (code_ok HP.out ha)
      clear ha
      go_enter Try.func43, Try.ntmps43
      go_wp2_with (go_at_call 48; (with_reducible refine (checkRow _ _ _ _ lo tp _ HP.out HV.out (by omega)).mono ?_); rintro e w1 ⟨rfl, rfl⟩; rw [HC.out])
      go_ret
      exact ⟨by rw [HA.out]; simp, rfl⟩
    · have HA : Hid (v.all (inr p) = false) := by show v.all (inr p) = false; simpa using ha
      have HC := Lib.hid (code_bad HP.out HA.out)
      clear ha
      go_enter Try.func43, Try.ntmps43
      go_wp2_with (go_at_call 48; (with_reducible refine (checkRow _ _ _ _ lo tp _ HP.out HV.out (by omega)).mono ?_); rintro e w1 ⟨rfl, rfl⟩; rw [HC.out])
      go_ret
      exact ⟨by rw [HA.out]; simp, rfl⟩
  · have HF : Hid ((decide (v.length = n) && v.all (inr p)) = false) := by show _ = _; simp [h]
    have e1 : ((v.length : Int) == (n : Int)) = false := by simp; omega
    have e2 : decide ((v.length : Int) = (n : Int)) = false := by simp; omega
    clear h
    go_enter Try.func43, Try.ntmps43
    go_wp2
    go_ret
    exact ⟨by rw [HF.out]; rfl, rfl⟩

end Go.Proofs.Ytdfkpbmccmbjmaa

namespace Go.Proofs.Ytdfkpbmccmbjmaa
open Go.RowKit Go.ChangeShapes Go.WideShapes
set_option linter.unusedVariables false

theorem isM_nprime {p : Int} {n : Nat} {m : List (List Int)} (h : prm p = false) : isL n p m = false := not_isL fun k => by rw [k.prime] at h; cases h
theorem isM_nlen {p : Int} {n : Nat} {m : List (List Int)} (h : ¬ (n ≤ m.length ∧ m.length ≤ 16)) : isL n p m = false := not_isL fun k => h ⟨k.lo, k.hi⟩
theorem isM_nrow {p : Int} {n : Nat} {m : List (List Int)} {i : Nat} (hi : i < m.length) (h : ¬ (1 ≤ (rw' m i).length ∧ (rw' m i).length ≤ 16)) : isL n p m = false := not_isL fun k => h ⟨k.c0 i hi, k.c1 i hi⟩
theorem isM_ncol {p : Int} {n : Nat} {m : List (List Int)} {i : Nat} (hi : i < m.length) (h : ¬ (rw' m i).length = (rw' m 0).length) : isL n p m = false := not_isL fun k => h (k.len i hi)
theorem isM_nall {p : Int} {n : Nat} {m : List (List Int)} {i : Nat} (hi : i < m.length) (h : (rw' m i).all (inr p) = false) : isL n p m = false := not_isL fun k => by rw [k.all i hi] at h; cases h
/-- What has been seen of the first i rows. -/
def Seen (p : Int) (m : List (List Int)) (i : Nat) : Prop := ∀ i', i' < i → (rw' m i').length = (rw' m 0).length ∧ (1 ≤ (rw' m i').length ∧ (rw' m i').length ≤ 16) ∧ (rw' m i').all (inr p) = true
theorem Seen.zero (p : Int) (m : List (List Int)) : Seen p m 0 := fun i' h => by omega
theorem Seen.next {p : Int} {m : List (List Int)} {i : Nat} (h : Seen p m i) (h1 : (rw' m i).length = (rw' m 0).length) (h2 : 1 ≤ (rw' m i).length ∧ (rw' m i).length ≤ 16) (h3 : (rw' m i).all (inr p) = true) : Seen p m (i + 1) := by
  intro i' hi'
  by_cases e : i' = i
  · subst e; exact ⟨h1, h2, h3⟩
  · exact h i' (by omega)
theorem Seen.yes {p : Int} {n : Nat} {m : List (List Int)} {i : Nat} (h : Seen p m i) (hi : m.length ≤ i) (hp : prm p = true) (h1 : n ≤ m.length ∧ m.length ≤ 16) : isL n p m = true :=
  isL_iff.2 ⟨hp, h1.1, h1.2, fun j hj => (h j (by omega)).1, fun j hj => (h j (by omega)).2.1.1, fun j hj => (h j (by omega)).2.1.2, fun j hj => (h j (by omega)).2.2⟩
theorem neq_spell {a b : Nat} (h : ¬ a = b) : ((a : Int) == (b : Int)) = false ∧ ((a : Int) != (b : Int)) = true := by
  have : ¬ (a : Int) = (b : Int) := by omega
  simp [this]
set_option maxHeartbeats 1600000 in
theorem isRows_any (p : Int) (a : Option Addr) (m : List (List Int)) (n cap lo tp : Nat) (w : World) (hn1 : n ≤ 1) (hm : MatIn lo tp w a m) (h1 : m.length ≤ 9223372036854775807) (h2 : ∀ i, i < m.length → (rw' m i).length ≤ 9223372036854775807) :
    Calls Try.prog 29 #[.int .i64 p, .slice a m.length cap, .int .i64 n] w fun e w' => e = .returned (.bool (isL n p m)) ∧ w = w' := by
  have HM := Lib.hid hm
  have HL := Lib.hid h2
  clear hm h2
  by_cases hp : prm p = true
  · have HP := Lib.hid hp
    clear hp
    by_cases hn : n ≤ m.length ∧ m.length ≤ 16
    · have HN := Lib.hid hn
      have hd1 : decide (m.length < n) = false := by simp; omega
      have hn2 := hn.2
      clear hn
      go_enter Try.func29, Try.ntmps29
      go_wp2_with (go_at_call 47; refine (isPrime_any _ _).mono ?_; rintro e w' ⟨rfl, rfl⟩; rw [HP.out])
      clear hd1
      go_outline
      go_loop [25] (fun t => ∃ i : Nat, i ≤ m.length ∧ t = .int .i64 i ∧ Seen p m i) (fun t => m.length - (intOf t).toNat)
      case atStart => exact ⟨0, Nat.zero_le _, rfl, Seen.zero _ _⟩
      case round =>
        obtain ⟨i, hi, rfl, hs⟩ := hrel
        have HS := Lib.hid hs
        clear hs
        by_cases hlt : i < m.length
        · obtain ⟨b, o, r, c, ha, _, _, hr, hrow⟩ := HM.out.row hlt
          subst ha
          obtain ⟨b', o', r0, c0, ha, _, _, hr0, _⟩ := HM.out.row (i := 0) (by omega)
          cases ha
          rw [Nat.add_zero] at hr0
          have HR := Lib.hid hrow
          have hln := HL.out i hlt
          have hl0 := HL.out 0 (by omega)
          clear hrow
          by_cases hc : 1 ≤ (rw' m i).length ∧ (rw' m i).length ≤ 16
          · have HC := Lib.hid hc
            obtain ⟨hc1, hc2⟩ := hc
            by_cases hcol : (rw' m i).length = (rw' m 0).length
            · have HCol := Lib.hid hcol
              clear hcol
              rw [← HCol.out] at hr0 hl0
              by_cases hall : (rw' m i).all (inr p) = true
              · have HAll := Lib.hid (code_ok HP.out hall)
                have HA2 := Lib.hid hall
                clear hall
                go_wp2_with (go_at_call 48; (with_reducible refine (checkRow _ _ _ _ _ _ _ HP.out HR.out (by omega)).mono ?_); rintro e w' ⟨rfl, rfl⟩; rw [HAll.out])
                go_round
                case rel => exact ⟨i + 1, by omega, by go_num, HS.out.next HCol.out HC.out HA2.out⟩
                case measure => simp [intOf]; omega
              · have hall' : (rw' m i).all (inr p) = false := by simpa using hall
                have HAll := Lib.hid (code_bad HP.out hall')
                have HF := Lib.hid (isM_nall (n := n) hlt hall')
                clear hall hall'
                go_wp2_with (go_at_call 48; (with_reducible refine (checkRow _ _ _ _ _ _ _ HP.out HR.out (by omega)).mono ?_); rintro e w' ⟨rfl, rfl⟩; rw [HAll.out])
                go_ret
                exact ⟨by rw [HF.out]; rfl, rfl⟩
            · have HF := Lib.hid (isM_ncol (n := n) (p := p) hlt hcol)
              obtain ⟨e1, e2⟩ := neq_spell hcol
              clear hcol
              go_wp2
              go_ret
              exact ⟨by rw [HF.out]; rfl, rfl⟩
          · have HF := Lib.hid (isM_nrow (n := n) (p := p) hlt hc)
            by_cases hz : (rw' m i).length < 1
            · clear hc
              go_wp2
              go_ret
              exact ⟨by rw [HF.out]; rfl, rfl⟩
            · have hz2 : 16 < (rw' m i).length := by omega
              clear hc
              go_wp2
              go_ret
              exact ⟨by rw [HF.out]; rfl, rfl⟩
        · have HF := Lib.hid (HS.out.yes (n := n) (by omega) HP.out HN.out)
          go_wp2
          go_ret
          exact ⟨by rw [HF.out]; rfl, rfl⟩
    · have HF := Lib.hid (isM_nlen (p := p) hn)
      by_cases hz : m.length < n
      · have hd1 : decide (m.length < n) = true := by simp; omega
        clear hn
        go_enter Try.func29, Try.ntmps29
        go_wp2_with (go_at_call 47; refine (isPrime_any _ _).mono ?_; rintro e w' ⟨rfl, rfl⟩; rw [HP.out])
        go_ret
        exact ⟨by rw [HF.out]; rfl, rfl⟩
      · have hd1 : decide (m.length < n) = false := by simp; omega
        have hz2 : 16 < m.length := by omega
        clear hn
        go_enter Try.func29, Try.ntmps29
        go_wp2_with (go_at_call 47; refine (isPrime_any _ _).mono ?_; rintro e w' ⟨rfl, rfl⟩; rw [HP.out])
        go_ret
        exact ⟨by rw [HF.out]; rfl, rfl⟩
  · have hp' : prm p = false := by simpa using hp
    have HP := Lib.hid hp'
    have HF := Lib.hid (isM_nprime (n := n) (m := m) hp')
    clear hp hp'
    go_enter Try.func29, Try.ntmps29
    go_wp2_with (go_at_call 47; refine (isPrime_any _ _).mono ?_; rintro e w' ⟨rfl, rfl⟩; rw [HP.out])
    go_ret
    exact ⟨by rw [HF.out]; rfl, rfl⟩

end Go.Proofs.Ytdfkpbmccmbjmaa
