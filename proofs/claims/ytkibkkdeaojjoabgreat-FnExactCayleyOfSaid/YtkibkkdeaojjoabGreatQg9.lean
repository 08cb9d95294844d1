/-
  The program's new matrices of zeros.
  Conditions: at least one column, at most 1024 rows and columns.
  The program's transposed matrices and unit matrices: contracts.
  Conditions: the matrix is a row of rows of known cells, all of one length, at most 1024.
-/
import Derived.Test.YtkibkkdeaojjoabGreatQg7
import Derived.RegionTactic
import Derived.ChangeAlike
namespace Go.Proofs.YtkibkkdeaojjoabGreat
open Go.RowKit
set_option linter.unusedVariables false

/-- What has been cut out of one piece so far. -/
structure CutAt (w wr : World) (bm br n c i : Nat) : Prop where
  bel : Below w.heap.size w wr
  lm : w.heap.size ≤ bm ∧ bm < wr.heap.size
  lr : w.heap.size ≤ br ∧ br < wr.heap.size
  ne : bm ≠ br
  done : ∀ j, j < i → wr.cell? ⟨bm, j, none⟩ = some (.slice (some ⟨br, j * c, none⟩) c c)
  rest : ∀ j, i ≤ j → j < n → wr.cell? ⟨bm, j, none⟩ = some (.slice none 0 0)
  fm : ∀ j, wr.frozen? ⟨bm, j, none⟩ = false
  fr : ∀ j, wr.frozen? ⟨br, j, none⟩ = false
  zero : ∀ j, j < n * c → wr.cell? ⟨br, j, none⟩ = some (.int .i64 0)
theorem made_cell (w : World) (x : Value) (n : Nat) (t : TypeId) {j : Nat} (hj : j < n) : (w.alloc (.cells (madeCells #[x] n) t)).cell? ⟨w.heap.size, j, none⟩ = some x := by
  rw [World.cell?_alloc_new (w := w) (madeCells #[x] n) t j]
  simp [madeCells, hj, Nat.mod_one]
theorem CutAt.drew {w wr : World} {bm br n c i : Nat} (h : CutAt w wr bm br n c i) : CutAt w wr.drew bm br n c i := ⟨h.bel.drew, h.lm, h.lr, h.ne, h.done, h.rest, h.fm, h.fr, h.zero⟩
theorem CutAt.start1 (w : World) (n c k : Nat) (t t' : TypeId) (hk : k = n * c) : CutAt w ((w.alloc (.cells (madeCells #[.slice none 0 0] n) t)).alloc (.cells (madeCells #[.int .i64 0] k) t')) w.heap.size (w.heap.size + 1) n c 0 where
  bel := ((Below.refl _ _).alloc (Nat.le_refl _) _).alloc (by simp) _
  lm := by simp; omega
  lr := by simp
  ne := by omega
  done j hj := by omega
  rest j _ hj := (World.cell?_alloc_old _ _ _ (by simp)).trans (made_cell w _ n t hj)
  fm j := by simp [go_sem]
  fr j := by
    have := World.frozen?_of_block (w := (w.alloc (.cells (madeCells #[.slice none 0 0] n) t)).alloc (.cells (madeCells #[.int .i64 0] k) t')) (w' := (w.alloc (.cells (madeCells #[.slice none 0 0] n) t)).alloc (.cells (madeCells #[.int .i64 0] k) t')) (a := ⟨w.heap.size + 1, j, none⟩) rfl
    have h := heap_alloc_new (w.alloc (.cells (madeCells #[.slice none 0 0] n) t)) (.cells (madeCells #[.int .i64 0] k) t')
    simp at h
    simp [World.frozen?, h]
  zero j hj := by
    have h := made_cell (w.alloc (.cells (madeCells #[.slice none 0 0] n) t)) (.int .i64 0) k t' (j := j) (by omega)
    simpa using h
theorem CutAt.start2 (w : World) (n c k : Nat) (t t' : TypeId) (hk : k = n * c) : CutAt w ((w.alloc (.cells (madeCells #[.int .i64 0] k) t')).alloc (.cells (madeCells #[.slice none 0 0] n) t)) (w.heap.size + 1) w.heap.size n c 0 where
  bel := ((Below.refl _ _).alloc (Nat.le_refl _) _).alloc (by simp) _
  lm := by simp
  lr := by simp; omega
  ne := by omega
  done j hj := by omega
  rest j _ hj := by
    have h := made_cell (w.alloc (.cells (madeCells #[.int .i64 0] k) t')) (.slice none 0 0) n t (j := j) hj
    simpa using h
  fm j := by
    have h := heap_alloc_new (w.alloc (.cells (madeCells #[.int .i64 0] k) t')) (.cells (madeCells #[.slice none 0 0] n) t)
    simp at h
    simp [World.frozen?, h]
  fr j := by simp [go_sem]
  zero j hj := (World.cell?_alloc_old _ _ _ (by simp)).trans (made_cell w _ k t' (by omega))
theorem CutAt.next {w wr : World} {bm br n c i o : Nat} (h : CutAt w wr bm br n c i) (hi : i < n) (ho : o = i * c) : CutAt w (wr.setCell ⟨bm, i, none⟩ (.slice (some ⟨br, o, none⟩) c c)) bm br n c (i + 1) where
  bel := h.bel.setCell h.lm.1 _
  lm := by simpa [World.setCell] using h.lm
  lr := by simpa [World.setCell] using h.lr
  ne := h.ne
  done j hj := by
    subst ho
    by_cases e : j = i
    · subst e; exact World.cell?_setCell_same wr _ _ (h.rest j (Nat.le_refl _) hi)
    · exact (World.cell?_setCell_other _ _ _ _ (by first | (simp; done) | (simp; omega))).trans (h.done j (by omega))
  rest j hj hl := (World.cell?_setCell_other _ _ _ _ (by first | (simp; done) | (simp; omega))).trans (h.rest j (by omega) hl)
  fm j := by simp [go_sem, h.fm]
  fr j := by simp [go_sem, h.fr]
  zero j hj := (World.cell?_setCell_other _ _ _ _ (fun e => h.ne (by injection e))).trans (h.zero j hj)
theorem CutAt.own {w wr : World} {bm br n c : Nat} (h : CutAt w wr bm br n c n) (hc : 1 ≤ c) : OwnAt w.heap.size wr.heap.size wr ⟨bm, 0, fun i => some ⟨br, i * c, none⟩, fun _ => br, fun i => i * c, fun _ => c⟩ n (fun _ => c) (fun _ _ => 0) where
  rng _ := h.lm
  top i hi := by show wr.cell? ⟨bm, 0 + i, none⟩ = _; rw [Nat.zero_add]; exact h.done i hi
  row i hi := .inr rfl
  rrng i hi _ := h.lr
  cell i hi j hj := h.zero _ (by
    have : (i + 1) * c ≤ n * c := Nat.mul_le_mul_right _ (by omega)
    have e : (i + 1) * c = i * c + c := Nat.succ_mul _ _
    show i * c + j < n * c
    omega)
  free i hi j hj := h.fr _
  apart i hi i' hi' hne j hj j' hj' e := by
    have e2 : i * c + j = i' * c + j' := e.2
    rcases Nat.lt_or_ge i i' with l | l
    · have : (i + 1) * c ≤ i' * c := Nat.mul_le_mul_right _ (by omega)
      have e3 : (i + 1) * c = i * c + c := Nat.succ_mul _ _
      omega
    · have : (i' + 1) * c ≤ i * c := Nat.mul_le_mul_right _ (by omega)
      have e3 : (i' + 1) * c = i' * c + c := Nat.succ_mul _ _
      omega
  tops i hi j hj i' hi' e := h.ne e.1.symm

/-- A new matrix of zeros is handed back. -/
def NewZ (n c : Nat) (w : World) (e : Ending) (w' : World) : Prop :=
  ∃ q : Place, e = .returned (.slice (some ⟨q.b, q.o, none⟩) n n) ∧ OwnAt w.heap.size w'.heap.size w' q n (fun _ => c) (fun _ _ => 0) ∧ Below w.heap.size w w'

set_option maxRecDepth 100000 in
set_option maxHeartbeats 3200000 in
theorem newMatrix_any (n c : Nat) (w : World) (hn : n ≤ 1024) (hc : c ≤ 1024) (hc0 : 1 ≤ c) :
    Calls Tryz.prog 75 #[.int .i64 n, .int .i64 c] w (NewZ n c w) := by
  obtain ⟨t, htt⟩ : ∃ t, t = n * c := ⟨_, rfl⟩
  have htb : t ≤ 1048576 := by rw [htt]; exact Nat.mul_le_mul hn hc
  have hmul : IntKind.i64.wrap ((n : Int) * (c : Int)) = (t : Int) := by
    have : (n : Int) * (c : Int) = (t : Int) := by rw [htt]; simp
    rw [this]; exact IntWalk.i64_in _ (by omega)
  have HT := Lib.hid htt
  clear htt
  have hmk := fun W => run_make_row' (P := Tryz.prog) 26 22 (.slice none 0 0) 24 Tryz.underlying26 info_slice rfl .i64 .i64 n (by omega) (by omega) W
  have hmk2 := fun W => run_make_row' (P := Tryz.prog) 22 2 (.int .i64 0) 8 Tryz.underlying22 info64 rfl .i64 .i64 t (by omega) (by omega) W
  go_enter Tryz.func75, Tryz.ntmps75
  go_wp2
  go_region
  · go_wp2
    go_loopw [6, 16] (fun v t wr => ∃ i o L : Nat, i ≤ n ∧ t = .int .i64 i ∧ v = .slice (some ⟨(w.heap.size + 1), o, none⟩) L L ∧ L = (n - i) * c ∧ (i < n → o = i * c) ∧ CutAt w wr w.heap.size (w.heap.size + 1) n c i) (fun _ t _ => n - (intOf t).toNat)
    case atStart => exact ⟨0, 0, t, Nat.zero_le _, rfl, rfl, by rw [HT.out]; rfl, fun _ => by simp, (CutAt.start1 w n c t _ _ HT.out).drew⟩
    case round =>
      obtain ⟨i, o, L, hi, rfl, rfl, hL, ho, hcut⟩ := hrel
      have HCut := Lib.hid hcut
      have HL := Lib.hid hL
      have HOo := Lib.hid ho
      by_cases hlt : i < n
      · have g0 := hcut.rest i (Nat.le_refl _) hlt
        have f0 := hcut.fm i
        have hLc : c ≤ L := by rw [hL]; exact Nat.le_mul_of_pos_left _ (by omega)
        have hLe : L - c = (n - (i + 1)) * c := by
          rw [hL]
          have : n - i = (n - (i + 1)) + 1 := by omega
          rw [this, Nat.succ_mul]; omega
        have HLe := Lib.hid hLe
        have hLt : L ≤ t := by rw [hL, HT.out]; exact Nat.mul_le_mul_right _ (by omega)
        have hi1 : (i : Int) < (n : Int) := by omega
        have hc1 : (c : Int) ≤ (L : Int) := by omega
        by_cases hend : c = L
        · have hin : i + 1 = n := by
            have h2 : (n - (i + 1)) * c = 0 := by omega
            rcases Nat.mul_eq_zero.1 h2 with h3 | h3 <;> omega
          have HIn := Lib.hid hin
          subst hend
          clear hL ho hcut hLe hin
          go_wp2
          go_region
          go_wp2
          go_roundw
          case rel => exact ⟨i + 1, o, 0, by omega, by go_num, by first | rfl | simp, by rw [HIn.out]; simp, fun h => absurd HIn.out (by omega), (HCut.out.next hlt (HOo.out hlt)).drew⟩
          case measure => simp [intOf]; omega
        · have hlt2 : c < L := by omega
          clear hL ho hcut hLe hend
          go_wp2
          go_region
          go_wp2
          go_roundw
          case rel => exact ⟨i + 1, o + c, L - c, by omega, by go_num, by first | rfl | simp, HLe.out, fun h => by rw [HOo.out hlt, Nat.succ_mul], (HCut.out.next hlt (HOo.out hlt)).drew⟩
          case measure => simp [intOf]; omega
      · have hn : i = n := by omega
        subst hn
        clear hL ho hcut
        go_wp2
        go_ret
        exact ⟨_, rfl, HCut.out.own hc0, HCut.out.bel⟩
  · go_wp2
    go_loopw [6, 16] (fun v t wr => ∃ i o L : Nat, i ≤ n ∧ t = .int .i64 i ∧ v = .slice (some ⟨w.heap.size, o, none⟩) L L ∧ L = (n - i) * c ∧ (i < n → o = i * c) ∧ CutAt w wr (w.heap.size + 1) w.heap.size n c i) (fun _ t _ => n - (intOf t).toNat)
    case atStart => exact ⟨0, 0, t, Nat.zero_le _, rfl, rfl, by rw [HT.out]; rfl, fun _ => by simp, (CutAt.start2 w n c t _ _ HT.out).drew⟩
    case round =>
      obtain ⟨i, o, L, hi, rfl, rfl, hL, ho, hcut⟩ := hrel
      have HCut := Lib.hid hcut
      have HL := Lib.hid hL
      have HOo := Lib.hid ho
      by_cases hlt : i < n
      · have g0 := hcut.rest i (Nat.le_refl _) hlt
        have f0 := hcut.fm i
        have hLc : c ≤ L := by rw [hL]; exact Nat.le_mul_of_pos_left _ (by omega)
        have hLe : L - c = (n - (i + 1)) * c := by
          rw [hL]
          have : n - i = (n - (i + 1)) + 1 := by omega
          rw [this, Nat.succ_mul]; omega
        have HLe := Lib.hid hLe
        have hLt : L ≤ t := by rw [hL, HT.out]; exact Nat.mul_le_mul_right _ (by omega)
        have hi1 : (i : Int) < (n : Int) := by omega
        have hc1 : (c : Int) ≤ (L : Int) := by omega
        by_cases hend : c = L
        · have hin : i + 1 = n := by
            have h2 : (n - (i + 1)) * c = 0 := by omega
            rcases Nat.mul_eq_zero.1 h2 with h3 | h3 <;> omega
          have HIn := Lib.hid hin
          subst hend
          clear hL ho hcut hLe hin
          go_wp2
          go_region
          go_wp2
          go_roundw
          case rel => exact ⟨i + 1, o, 0, by omega, by go_num, by first | rfl | simp, by rw [HIn.out]; simp, fun h => absurd HIn.out (by omega), (HCut.out.next hlt (HOo.out hlt)).drew⟩
          case measure => simp [intOf]; omega
        · have hlt2 : c < L := by omega
          clear hL ho hcut hLe hend
          go_wp2
          go_region
          go_wp2
          go_roundw
          case rel => exact ⟨i + 1, o + c, L - c, by omega, by go_num, by first | rfl | simp, HLe.out, fun h => by rw [HOo.out hlt, Nat.succ_mul], (HCut.out.next hlt (HOo.out hlt)).drew⟩
          case measure => simp [intOf]; omega
      · have hn : i = n := by omega
        subst hn
        clear hL ho hcut
        go_wp2
        go_ret
        exact ⟨_, rfl, HCut.out.own hc0, HCut.out.bel⟩

end Go.Proofs.YtkibkkdeaojjoabGreat

namespace Go.Proofs.YtkibkkdeaojjoabGreat
open Go.RowKit
set_option linter.unusedVariables false

/-- A matrix of one's own is handed back. -/
def OwnNew (m : List (List Int)) (w : World) (e : Ending) (w' : World) : Prop :=
  ∃ r c, e = .returned (.slice r m.length c) ∧ OwnM w.heap.size w'.heap.size w' r m ∧ Below w.heap.size w w'
theorem OwnAt.ownM {lo tp : Nat} {w : World} {q : Place} {n c : Nat} {Z : Nat → Nat → Int} (h : OwnAt lo tp w q n (fun _ => c) Z) : OwnM lo tp w (some ⟨q.b, q.o, none⟩) (Go.Proofs.YtkibkkdeaojjoabGreat.mk n c Z) := by
  refine .inr ⟨q, rfl, ?_⟩
  rw [mk_len]
  have e : ∀ i, i < n → (rw' (Go.Proofs.YtkibkkdeaojjoabGreat.mk n c Z) i).length = c := fun i hi => mk_rowLen Z hi
  exact {
    rng := h.rng
    top := fun i hi => by rw [e i hi]; exact h.top i hi
    row := fun i hi => by rw [e i hi]; exact h.row i hi
    rrng := fun i hi hl => h.rrng i hi (by rw [e i hi] at hl; exact hl)
    cell := fun i hi j hj => by rw [e i hi] at hj; rw [mk_at Z hi hj]; exact h.cell i hi j hj
    free := fun i hi j hj => h.free i hi j (by rw [e i hi] at hj; exact hj)
    apart := fun i hi i' hi' hne j hj j' hj' => h.apart i hi i' hi' hne j (by rw [e i hi] at hj; exact hj) j' (by rw [e i' hi'] at hj'; exact hj')
    tops := fun i hi j hj i' hi' => h.tops i hi j (by rw [e i hi] at hj; exact hj) i' hi' }

set_option maxRecDepth 100000 in
set_option maxHeartbeats 3200000 in
theorem transposed_any (a : Option Addr) (m : List (List Int)) (ca lo tp : Nat) (w : World) (hm : MatIn lo tp w a m) (ht : tp ≤ w.heap.size) (h0 : 0 < m.length) (hc : ∀ i, i < m.length → (rw' m i).length = (rw' m 0).length) (hn : m.length ≤ 1024) (hn2 : (rw' m 0).length ≤ 1024) :
    Calls Tryz.prog 50 #[.slice a m.length ca] w (OwnNew (trM m) w) := by
  have HM := Lib.hid hm
  have HC := Lib.hid hc
  obtain ⟨b, o, r0, c0, ha, _, hb, hr0, _⟩ := HM.out.row h0
  subst ha
  rw [Nat.add_zero] at hr0
  obtain ⟨c, hcc⟩ : ∃ c, c = (rw' m 0).length := ⟨_, rfl⟩
  rw [← hcc] at hn2 hr0
  have HCC := Lib.hid hcc
  have hb' : b < w.heap.size := Nat.lt_of_lt_of_le hb ht
  clear hm hc hcc
  go_enter Tryz.func50, Tryz.ntmps50
  go_wp2_with (go_at_call 75; (with_reducible refine (newMatrix_any c m.length _ (by omega) (by omega) (by omega)).mono ?_); rintro e w1 ⟨q, rfl, ho1, hb1⟩; have HO1 := Lib.hid ho1; have HB1 := Lib.hid hb1; clear ho1 hb1)
  go_loopw [17] (fun t wr => ∃ i : Nat, i ≤ m.length ∧ t = .int .i64 i ∧ OwnAt w.heap.size w1.heap.size wr q c (fun _ => m.length) (fun k i' => if i' < i then at' m i' k else 0) ∧ Below w.heap.size w wr ∧ wr.heap.size = w1.heap.size) (fun t _ => m.length - (intOf t).toNat)
  case atStart => exact ⟨0, Nat.zero_le _, rfl, HO1.out.congr (fun i _ j _ => by simp), HB1.out, rfl⟩
  case round =>
    obtain ⟨i, hi, rfl, ho, hbel, hsz⟩ := hrel
    have HO := Lib.hid ho
    have HBEL := Lib.hid hbel
    have HSZ := Lib.hid hsz
    rename World => wo
    clear ho hsz
    by_cases hlt : i < m.length
    · obtain ⟨b1, o1, r, c1, ha1, _, hb1, hr1, hrow⟩ := HM.out.row hlt
      cases ha1
      have hr1 := (hbel.cell (p := ⟨b, o + i, none⟩) hb').trans hr1
      have hcl := (HC.out i hlt).trans HCC.out.symm
      rw [hcl] at hr1
      have HCL := Lib.hid hcl
      have HROW := Lib.hid hrow
      have hi1 : (i : Int) < (m.length : Int) := by omega
      clear hcl hrow hbel
      go_wp2
      go_loopw [24] (fun t wr => ∃ j : Nat, j ≤ c ∧ t = .int .i64 j ∧ OwnAt w.heap.size w1.heap.size wr q c (fun _ => m.length) (fun k i' => if i' < i ∨ (i' = i ∧ k < j) then at' m i' k else 0) ∧ Below w.heap.size w wr ∧ wr.heap.size = w1.heap.size) (fun t _ => c - (intOf t).toNat)
      case atStart => exact ⟨0, Nat.zero_le _, rfl, HO.out.congr (fun k _ i' _ => by simp), HBEL.out, HSZ.out⟩
      case round =>
        obtain ⟨j, hj, rfl, hoj, hbj, hsj⟩ := hrel
        have HOJ := Lib.hid hoj
        have HBJ := Lib.hid hbj
        have HSJ := Lib.hid hsj
        clear hr1 hsj
        by_cases hltj : j < c
        · obtain ⟨b2, o2, ha2, _, hb2, hx2⟩ := (HROW.out.below hbj ht).num (j := j) (by rw [HCL.out]; exact hltj)
          subst ha2
          have ht3 := hoj.top j hltj
          have hR := (hoj.row j hltj).resolve_left (by omega)
          rw [hR] at ht3
          have hc3 := hoj.cell j hltj i hlt
          have hf3 := hoj.free j hltj i hlt
          have hrg := hoj.rrng j hltj (by omega)
          obtain ⟨x, hx⟩ : ∃ x, x = (rw' m i).getD j 0 := ⟨_, rfl⟩
          rw [← hx] at hx2
          have HX := Lib.hid hx
          have hj1 : (j : Int) < (c : Int) := by omega
          have HC3 := Lib.hid hc3
          obtain ⟨y, hy⟩ : ∃ y, wr.cell? ⟨q.B j, q.O j + i, none⟩ = some (.int .i64 y) := ⟨_, hc3⟩
          clear hoj hbj hR hc3 hx
          go_wp2
          go_roundw
          case rel => exact ⟨j + 1, by omega, by go_num, (HOJ.out.set hltj hlt x).congr (fun k hk i' _ => by
            rw [HX.out]
            by_cases e1 : k = j ∧ i' = i
            · obtain ⟨rfl, rfl⟩ := e1
              rw [if_pos ⟨rfl, rfl⟩, if_pos (.inr ⟨rfl, by omega⟩)]; rfl
            · rw [if_neg e1]
              by_cases e2 : i' < i ∨ (i' = i ∧ k < j)
              · rw [if_pos e2, if_pos (by omega)]
              · rw [if_neg e2, if_neg (by omega)]), HBJ.out.setCell hrg.1 _, by simpa [World.setCell] using HSJ.out⟩
          case measure => simp [intOf]; omega
        · have hn : j = c := by omega
          subst hn
          clear hoj hbj
          go_wp2
          go_roundw
          case rel => exact ⟨i + 1, by omega, by go_num, HOJ.out.congr (fun k hk i' _ => by
            by_cases e : i' < i + 1
            · rw [if_pos e, if_pos (by omega)]
            · rw [if_neg e, if_neg (by omega)]), HBJ.out, HSJ.out⟩
          case measure => simp [intOf]; omega
    · have hn : i = m.length := by omega
      subst hn
      have HF := Lib.hid (HO.out.congr (Z' := fun k i' => at' m i' k) (fun k _ i' h => by rw [if_pos h]))
      have HE : Hid (trM m = mk c m.length fun k i => at' m i k) := by show trM m = _; unfold trM; rw [← HCC.out]
      clear hbel
      go_wp2
      go_ret
      rw [HE.out]
      exact ⟨_, c, by rw [mk_len]; rfl, (HF.out.mono (Nat.le_refl _) (by rw [HSZ.out]; exact Nat.le_refl _)).ownM, HBEL.out⟩

end Go.Proofs.YtkibkkdeaojjoabGreat
