/-
  The program's transposed matrices and unit matrices: contracts.
  Conditions: the matrix is a row of rows of known cells, all of one length, at most 1024.
-/
import Derived.Test.YtcamegdjdjacpaaImB
namespace Go.Proofs.Ytcamegdjdjacpaa
open Go.RowKit
set_option linter.unusedVariables false

/-- A matrix of one's own is handed back. -/
def OwnNew (m : List (List Int)) (w : World) (e : Ending) (w' : World) : Prop :=
  ∃ r c, e = .returned (.slice r m.length c) ∧ OwnM w.heap.size w'.heap.size w' r m ∧ Below w.heap.size w w'
theorem OwnAt.ownM {lo tp : Nat} {w : World} {q : Place} {n c : Nat} {Z : Nat → Nat → Int} (h : OwnAt lo tp w q n (fun _ => c) Z) : OwnM lo tp w (some ⟨q.b, q.o, none⟩) (Go.Proofs.Ytcamegdjdjacpaa.mk n c Z) := by
  refine .inr ⟨q, rfl, ?_⟩
  rw [mk_len]
  have e : ∀ i, i < n → (rw' (Go.Proofs.Ytcamegdjdjacpaa.mk n c Z) i).length = c := fun i hi => mk_rowLen Z hi
  exact {
    rng := h.rng
    top := fun i hi => by rw [e i hi]; exact h.top i hi
    row := fun i hi => by rw [e i hi]; exact h.row i hi
    rrng := fun i hi hl => h.rrng i hi (by rw [e i hi] at hl; exact hl)
    cell := fun i hi j hj => by rw [e i hi] at hj; rw [mk_at Z hi hj]; exact h.cell i hi j hj
    free := fun i hi j hj => h.free i hi j (by rw [e i hi] at hj; exact hj)
    apart := fun i hi i' hi' hne j hj j' hj' => h.apart i hi i' hi' hne j (by rw [e i hi] at hj; exact hj) j' (by rw [e i' hi'] at hj'; exact hj')
    tops := fun i hi j hj i' hi' => h.tops i hi j (by rw [e i hi] at hj; exact hj) i' hi' }

set_option maxRecDepth 100000 in
set_option maxHeartbeats 3200000 in
theorem transposed_any (a : Option Addr) (m : List (List Int)) (ca lo tp : Nat) (w : World) (hm : MatIn lo tp w a m) (ht : tp ≤ w.heap.size) (h0 : 0 < m.length) (hc : ∀ i, i < m.length → (rw' m i).length = (rw' m 0).length) (hn : m.length ≤ 1024) (hn2 : (rw' m 0).length ≤ 1024) :
    Calls Try.prog 140 #[.slice a m.length ca] w (OwnNew (trM m) w) := by
  have HM := Lib.hid hm
  have HC := Lib.hid hc
  obtain ⟨b, o, r0, c0, ha, _, hb, hr0, _⟩ := HM.out.row h0
  subst ha
  rw [Nat.add_zero] at hr0
  obtain ⟨c, hcc⟩ : ∃ c, c = (rw' m 0).length := ⟨_, rfl⟩
  rw [← hcc] at hn2 hr0
  have HCC := Lib.hid hcc
  have hb' : b < w.heap.size := Nat.lt_of_lt_of_le hb ht
  clear hm hc hcc
  go_enter Try.func140, Try.ntmps140
  go_wp2_with (go_at_call 188; (with_reducible refine (newMatrix_any c m.length _ (by omega) (by omega) (by omega)).mono ?_); rintro e w1 ⟨q, rfl, ho1, hb1⟩; have HO1 := Lib.hid ho1; have HB1 := Lib.hid hb1; clear ho1 hb1)
  go_loopw [17] (fun t wr => ∃ i : Nat, i ≤ m.length ∧ t = .int .i64 i ∧ OwnAt w.heap.size w1.heap.size wr q c (fun _ => m.length) (fun k i' => if i' < i then at' m i' k else 0) ∧ Below w.heap.size w wr ∧ wr.heap.size = w1.heap.size) (fun t _ => m.length - (intOf t).toNat)
  case atStart => exact ⟨0, Nat.zero_le _, rfl, HO1.out.congr (fun i _ j _ => by simp), HB1.out, rfl⟩
  case round =>
    obtain ⟨i, hi, rfl, ho, hbel, hsz⟩ := hrel
    have HO := Lib.hid ho
    have HBEL := Lib.hid hbel
    have HSZ := Lib.hid hsz
    rename World => wo
    clear ho hsz
    by_cases hlt : i < m.length
    · obtain ⟨b1, o1, r, c1, ha1, _, hb1, hr1, hrow⟩ := HM.out.row hlt
      cases ha1
      have hr1 := (hbel.cell (p := ⟨b, o + i, none⟩) hb').trans hr1
      have hcl := (HC.out i hlt).trans HCC.out.symm
      rw [hcl] at hr1
      have HCL := Lib.hid hcl
      have HROW := Lib.hid hrow
      have hi1 : (i : Int) < (m.length : Int) := by omega
      clear hcl hrow hbel
      go_wp2
      go_loopw [24] (fun t wr => ∃ j : Nat, j ≤ c ∧ t = .int .i64 j ∧ OwnAt w.heap.size w1.heap.size wr q c (fun _ => m.length) (fun k i' => if i' < i ∨ (i' = i ∧ k < j) then at' m i' k else 0) ∧ Below w.heap.size w wr ∧ wr.heap.size = w1.heap.size) (fun t _ => c - (intOf t).toNat)
      case atStart => exact ⟨0, Nat.zero_le _, rfl, HO.out.congr (fun k _ i' _ => by simp), HBEL.out, HSZ.out⟩
      case round =>
        obtain ⟨j, hj, rfl, hoj, hbj, hsj⟩ := hrel
        have HOJ := Lib.hid hoj
        have HBJ := Lib.hid hbj
        have HSJ := Lib.hid hsj
        clear hr1 hsj
        by_cases hltj : j < c
        · obtain ⟨b2, o2, ha2, _, hb2, hx2⟩ := (HROW.out.below hbj ht).num (j := j) (by rw [HCL.out]; exact hltj)
          subst ha2
          have ht3 := hoj.top j hltj
          have hR := (hoj.row j hltj).resolve_left (by omega)
          rw [hR] at ht3
          have hc3 := hoj.cell j hltj i hlt
          have hf3 := hoj.free j hltj i hlt
          have hrg := hoj.rrng j hltj (by omega)
          obtain ⟨x, hx⟩ : ∃ x, x = (rw' m i).getD j 0 := ⟨_, rfl⟩
          rw [← hx] at hx2
          have HX := Lib.hid hx
          have hj1 : (j : Int) < (c : Int) := by omega
          have HC3 := Lib.hid hc3
          obtain ⟨y, hy⟩ : ∃ y, wr.cell? ⟨q.B j, q.O j + i, none⟩ = some (.int .i64 y) := ⟨_, hc3⟩
          clear hoj hbj hR hc3 hx
          go_wp2
          go_roundw
          case rel => exact ⟨j + 1, by omega, by go_num, (HOJ.out.set hltj hlt x).congr (fun k hk i' _ => by
            rw [HX.out]
            by_cases e1 : k = j ∧ i' = i
            · obtain ⟨rfl, rfl⟩ := e1
              rw [if_pos ⟨rfl, rfl⟩, if_pos (.inr ⟨rfl, by omega⟩)]; rfl
            · rw [if_neg e1]
              by_cases e2 : i' < i ∨ (i' = i ∧ k < j)
              · rw [if_pos e2, if_pos (by omega)]
              · rw [if_neg e2, if_neg (by omega)]), HBJ.out.setCell hrg.1 _, by simpa [World.setCell] using HSJ.out⟩
          case measure => simp [intOf]; omega
        · have hn : j = c := by omega
          subst hn
          clear hoj hbj
          go_wp2
          go_roundw
          case rel => exact ⟨i + 1, by omega, by go_num, HOJ.out.congr (fun k hk i' _ => by
            by_cases e : i' < i + 1
            · rw [if_pos e, if_pos (by omega)]
            · rw [if_neg e, if_neg (by omega)]), HBJ.out, HSJ.out⟩
          case measure => simp [intOf]; omega
    · have hn : i = m.length := by omega
      subst hn
      have HF := Lib.hid (HO.out.congr (Z' := fun k i' => at' m i' k) (fun k _ i' h => by rw [if_pos h]))
      have HE : Hid (trM m = mk c m.length fun k i => at' m i k) := by show trM m = _; unfold trM; rw [← HCC.out]
      clear hbel
      go_wp2
      go_ret
      rw [HE.out]
      exact ⟨_, c, by rw [mk_len]; rfl, (HF.out.mono (Nat.le_refl _) (by rw [HSZ.out]; exact Nat.le_refl _)).ownM, HBEL.out⟩

end Go.Proofs.Ytcamegdjdjacpaa
