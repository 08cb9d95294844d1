/-
  The program's SpanBasis and RankOf: contracts.
  Conditions: the list of vectors is a row of rows of known cells.
  The model's kernel: the walk.
  Conditions: the matrix is a row of rows of known cells with numbers of the prime.
  What the program's elimination hands back, to be read: rows, pivots.
  Conditions: the list of vectors is a row of rows of known cells.
  IsIsometry: contracts of the program and of the model.
  Conditions: the lists are nil or rows of known cells, of at most 1048576 numbers.
  Orthogonal matrices: codes: contracts of the program and of the model.
  Conditions: the lists are nil or rows of known cells, of at most 1048576 numbers.
  Determinants, in the program and in the model.
  Conditions: the arguments are nil or rows of known cells, of at most 1048576 numbers.
  Orthogonal matrices (program): contracts of the program and of the model.
  Conditions: the lists are nil or rows of known cells, of at most 1048576 numbers.
  Lists of rows whose headers may be written to: new matrices, unit matrices, turned ones.
  Conditions: at least one column, at most 1024 rows and columns.
-/
import Derived.Test.YtigdepahbnidjaaQp35
import Derived.Test.YtigdepahbnidjaaQp32
import Derived.Test.YtigdepahbnidjaaQp25
import Derived.Test.YtigdepahbnidjaaQp5
import Derived.Test.YtigdepahbnidjaaQp3
import Derived.Test.YtigdepahbnidjaaQp22
import Derived.Test.YtigdepahbnidjaaQp31
import Derived.Deep.RegionHeld3
import Derived.Test.YtigdepahbnidjaaQp34
import Derived.Test.YtigdepahbnidjaaQp30
import Derived.Deep.DeepCutAuto
import Derived.Test.YtigdepahbnidjaaQp8
import Derived.Test.YtigdepahbnidjaaQp10
namespace Go.Proofs.Ytigdepahbnidjaa
open Go.RowKit Go.ChangeShapes Go.WideShapes
set_option linter.unusedVariables false

theorem EchM.own {B : Nat} {w : World} {kb c : Nat} {m : List (List Int)} {P : Nat → Nat} {ar ap : Option Addr} {cr cp : Nat} {d : Int} {RB RO RC : Nat → Nat} (h : EchM w kb c m.length m.length (at' m) P (.slice ar m.length cr) (.slice ap m.length cp) d RB RO RC)
    (hl : ∀ i, i < m.length → (rw' m i).length = c) (hB : B ≤ kb) : OwnM B w.heap.size w ar m := by
  by_cases h0 : 0 < m.length
  · obtain ⟨g, rfl, _, hg0, hg1⟩ := h.readA h0
    refine .inr ⟨⟨g, 0, fun i => some ⟨RB i, RO i, none⟩, RB, RO, RC⟩, rfl, {
      rng := fun _ => ⟨by show B ≤ g; omega, hg1⟩
      top := fun i hi => by
        obtain ⟨g', e, hc, _, _⟩ := h.readA hi
        injection e with e1
        injection e1 with e2
        subst e2
        show w.cell? ⟨g, 0 + i, none⟩ = _
        rw [Nat.zero_add, hl i hi]; exact hc
      row := fun i hi => .inr rfl
      rrng := fun i hi _ => by have := h.rng i hi; exact ⟨by show B ≤ RB i; omega, this.2⟩
      cell := fun i hi j hj => (h.row i hi).cell j (by rw [← hl i hi]; exact hj)
      free := fun i hi j hj => (h.row i hi).free j (by rw [← hl i hi]; exact hj)
      apart := fun i hi i' hi' hne j hj j' hj' e => h.apart i hi i' hi' hne e.1
      tops := fun i hi j hj i' hi' e => h.ra i hi (by have e1 : RB i = g := e.1; show some g = some (RB i); rw [e1]) }⟩
  · exact .inl (List.eq_nil_of_length_eq_zero (by omega))
theorem Elm.nil {p : Int} {c : Nat} {A m : List (List Int)} {P : Nat → Nat} {d : Int} (h : Elm p c A m P d) (e : A = []) : m = [] := by
  cases h with
  | start => rfl
  | same => simp at e
  | more => simp at e
/-- The reduced basis in new memory, with the pivots. -/
def ElimB (p : Int) (A : List (List Int)) (w : World) (e : Ending) (w' : World) : Prop :=
  ∃ (P : Nat → Nat) (d dd : Int) (ar ap : Option Addr) (cr cp kb c : Nat) (RB RO RC : Nat → Nat),
    e = .returned (.agg #[.slice ar (bas p A).length cr, .slice ap (bas p A).length cp, .int .i64 dd]) ∧ EchM w' kb c (bas p A).length (bas p A).length (at' (bas p A)) P (.slice ar (bas p A).length cr) (.slice ap (bas p A).length cp) d RB RO RC ∧ Elm p c A (bas p A) P d ∧ Below w.heap.size w w' ∧ w.heap.size ≤ kb ∧ (0 < A.length → dd = d ∧ c = (rw' A 0).length)
theorem ElimB.own {p : Int} {A : List (List Int)} {w w' : World} {e : Ending} (hp : prm p = true) (h : ElimB p A w e w') : ∃ ar cr vp dd, e = .returned (.agg #[.slice ar (bas p A).length cr, vp, .int .i64 dd]) ∧ OwnM w.heap.size w'.heap.size w' ar (bas p A) ∧ Below w.heap.size w w' := by
  obtain ⟨P, d, dd, ar, ap, cr, cp, kb, c, RB, RO, RC, rfl, hE, hM, hB, hk, _⟩ := h
  exact ⟨ar, cr, _, dd, rfl, hE.own (hM.kept hp).len hk, hB⟩
end Go.Proofs.Ytigdepahbnidjaa

namespace Go.Proofs.Ytigdepahbnidjaa
open Go.RowKit
set_option linter.unusedVariables false

/-- A list of numbers stays where a list of lists is appended to. -/
theorem TagR.push {B lo tp n : Nat} {w w1 : World} {v : Value} {vals : List Value} {r : Option Addr} {z : List Int} (ho : w.ownsRow B 22 1 v n vals) (hg : w.grownBy w1 v.ownBlock) (ht : tp ≤ w.heap.size) (hz : TagR lo tp w r z) : TagR lo tp w1 r z := by
  refine hz.block (Nat.le_refl _) (Nat.le_refl _) (fun b cur _ h1 hc => hg.block b (Nat.lt_of_lt_of_le h1 ht) (fun e => ?_))
  rcases ho.2 with ⟨rfl, _⟩ | ⟨g, cap, cur', rfl, _, hgg, _⟩
  · simp [Value.ownBlock] at e
  · simp [Value.ownBlock] at e
    subst e
    rw [hgg] at hc
    simp at hc
/-- A number is put into a list in place. -/
theorem TagR.set {lo tp : Nat} {w : World} {b o j : Nat} {z : List Int} (h : TagR lo tp w (some ⟨b, o, none⟩) z) (hj : j < z.length) (x : Int) : TagR lo tp (w.setCell ⟨b, o + j, none⟩ (.int .i64 x)) (some ⟨b, o, none⟩) (z.set j x) := by
  rcases h with h | ⟨b', o', cur, e, h0, h1, hc, hv⟩
  · rw [h] at hj; simp at hj
  · cases e
    refine .inr ⟨b, o, cur.setIfInBounds (o + j) (.int .i64 x), rfl, h0, h1, by simp [World.setCell, Array.getElem?_modify, hc], fun i hi => ?_⟩
    rw [List.length_set] at hi
    by_cases e : i = j
    · subst e
      rw [World.cell?_setCell_same w _ _ (hv i hi)]
      simp [List.getD, hi]
    · rw [World.cell?_setCell_other _ _ _ _ (fun e2 => e (by injection e2 with _ e3; omega)), hv i hi]
      simp only [List.getD_eq_getElem?_getD]
      rw [List.getElem?_set_ne (fun h => e h.symm)]
theorem OutM.start2 (w : World) (B : Nat) (t t' : TypeId) (hB : B ≤ w.heap.size) (ht : t' = 22) : OutM B ((w.alloc (.cells #[] t)).alloc (.cells #[] t')) (.slice (some ⟨w.heap.size + 1, 0, none⟩) 0 0) [] := by
  have h := OutM.start (w.alloc (.cells #[] t)) B t' (by simp; omega) ht
  have e : (w.alloc (.cells #[] t)).heap.size = w.heap.size + 1 := by simp
  rw [e] at h; exact h
end Go.Proofs.Ytigdepahbnidjaa

namespace Go.Proofs.Ytigdepahbnidjaa
open Go.RowKit
set_option linter.unusedVariables false

/-- A row that lies in another block than b. -/
def RowX (lo tp b : Nat) (w : World) (a : Option Addr) (zs : List Int) : Prop :=
  zs = [] ∨ ∃ b' o : Nat, a = some ⟨b', o, none⟩ ∧ lo ≤ b' ∧ b' < tp ∧ b' ≠ b ∧ ∀ j, j < zs.length → w.cell? ⟨b', o + j, none⟩ = some (.int .i64 (zs.getD j 0))
theorem RowX.row {lo tp b : Nat} {w : World} {a : Option Addr} {zs : List Int} (h : RowX lo tp b w a zs) : RowIn lo tp w a zs := by
  rcases h with h | ⟨b', o, e, h0, h1, _, h3⟩
  · exact .inl h
  · exact .inr ⟨b', o, e, h0, h1, h3⟩
theorem RowX.of {lo lo' tp b : Nat} {w : World} {a : Option Addr} {zs : List Int} (h : RowIn lo tp w a zs) (hb : b < lo) (hl : lo' ≤ lo) : RowX lo' tp b w a zs := by
  rcases h with h | ⟨b', o, e, h0, h1, h3⟩
  · exact .inl h
  · exact .inr ⟨b', o, e, Nat.le_trans hl h0, h1, by omega, h3⟩
theorem RowX.below {lo tp b B : Nat} {w w' : World} {a : Option Addr} {zs : List Int} (h : RowX lo tp b w a zs) (hb : Below B w w') (ht : tp ≤ B) : RowX lo tp b w' a zs := by
  rcases h with h | ⟨b', o, e, h0, h1, h2, h3⟩
  · exact .inl h
  · exact .inr ⟨b', o, e, h0, h1, h2, fun j hj => (hb.cell (p := ⟨b', o + j, none⟩) (Nat.lt_of_lt_of_le h1 ht)).trans (h3 j hj)⟩
theorem RowX.mono {lo lo' tp tp' b : Nat} {w : World} {a : Option Addr} {zs : List Int} (h : RowX lo tp b w a zs) (hl : lo' ≤ lo) (ht : tp ≤ tp') : RowX lo' tp' b w a zs := by
  rcases h with h | ⟨b', o, e, h0, h1, h2, h3⟩
  · exact .inl h
  · exact .inr ⟨b', o, e, Nat.le_trans hl h0, Nat.lt_of_lt_of_le h1 ht, h2, h3⟩
theorem RowX.put {lo tp b i : Nat} {w : World} {a : Option Addr} {zs : List Int} {v : Value} (h : RowX lo tp b w a zs) : RowX lo tp b (w.setCell ⟨b, i, none⟩ v) a zs := by
  rcases h with h | ⟨b', o, e, h0, h1, h2, h3⟩
  · exact .inl h
  · exact .inr ⟨b', o, e, h0, h1, h2, fun j hj => (World.cell?_setCell_other _ _ _ _ (fun e => h2 (by injection e with e1; exact e1.symm))).trans (h3 j hj)⟩
/-- The headers lie in block b from o on and may be written to; the rows lie in other blocks from lo on. -/
structure TopX (lo : Nat) (w : World) (b o : Nat) (m : List (List Int)) : Prop where
  lob : lo ≤ b
  hib : b < w.heap.size
  free : ∀ j, w.frozen? ⟨b, j, none⟩ = false
  row : ∀ i, i < m.length → ∃ r c, w.cell? ⟨b, o + i, none⟩ = some (.slice r (rw' m i).length c) ∧ RowX lo w.heap.size b w r (rw' m i)
theorem TopX.below {lo b o : Nat} {w w' : World} {m : List (List Int)} (h : TopX lo w b o m) (hb : Below w.heap.size w w') : TopX lo w' b o m where
  lob := h.lob
  hib := Nat.lt_of_lt_of_le h.hib hb.size
  free j := (hb.frozen (p := ⟨b, j, none⟩) h.hib).trans (h.free j)
  row i hi := by
    obtain ⟨r, c, h1, h2⟩ := h.row i hi
    exact ⟨r, c, (hb.cell (p := ⟨b, o + i, none⟩) h.hib).trans h1, (h2.below hb (Nat.le_refl _)).mono (Nat.le_refl _) hb.size⟩
theorem TopX.mono {lo lo' b o : Nat} {w : World} {m : List (List Int)} (h : TopX lo w b o m) (hl : lo' ≤ lo) : TopX lo' w b o m where
  lob := Nat.le_trans hl h.lob
  hib := h.hib
  free := h.free
  row i hi := by
    obtain ⟨r, c, h1, h2⟩ := h.row i hi
    exact ⟨r, c, h1, h2.mono hl (Nat.le_refl _)⟩
theorem TopX.mat {lo b o : Nat} {w : World} {m : List (List Int)} (h : TopX lo w b o m) : MatIn lo w.heap.size w (some ⟨b, o, none⟩) m :=
  .inr ⟨b, o, rfl, h.lob, h.hib, fun i hi => by
    obtain ⟨r, c, h1, h2⟩ := h.row i hi
    exact ⟨r, c, h1, h2.row⟩⟩
theorem rw_setX {m : List (List Int)} {i j : Nat} (z : List Int) (hi : i < m.length) : rw' (m.set i z) j = if j = i then z else rw' m j := by
  simp only [rw', List.getD_eq_getElem?_getD, List.getElem?_set]
  by_cases e : j = i
  · subst e; simp [hi]
  · rw [if_neg (fun h => e h.symm), if_neg e]
/-- Another row is put in the place of row i. -/
theorem TopX.set {lo b o i : Nat} {w : World} {m : List (List Int)} {r : Option Addr} {z : List Int} {c : Nat} (h : TopX lo w b o m) (hi : i < m.length) (hz : RowX lo w.heap.size b w r z) :
    TopX lo (w.setCell ⟨b, o + i, none⟩ (.slice r z.length c)) b o (m.set i z) := by
  have hsz : (w.setCell ⟨b, o + i, none⟩ (.slice r z.length c)).heap.size = w.heap.size := by simp [World.setCell]
  obtain ⟨r0, c0, g0, _⟩ := h.row i hi
  refine ⟨h.lob, by rw [hsz]; exact h.hib, fun j => by simp [go_sem, h.free], fun j hj => ?_⟩
  rw [List.length_set] at hj
  rw [rw_setX z hi, hsz]
  by_cases e : j = i
  · subst e
    rw [if_pos rfl]
    exact ⟨r, c, World.cell?_setCell_same w _ _ g0, hz.put⟩
  · rw [if_neg e]
    obtain ⟨r1, c1, g1, g2⟩ := h.row j hj
    exact ⟨r1, c1, (World.cell?_setCell_other _ _ _ _ (fun e2 => e (by injection e2 with _ e3; omega))).trans g1, g2.put⟩
theorem TopX.ofOwn {lo n c : Nat} {w : World} {q : Place} {Z : Nat → Nat → Int} (h : OwnAt lo w.heap.size w q n (fun _ => c) Z) (h0 : 0 < n) (hc : 0 < c) (hf : ∀ j, w.frozen? ⟨q.b, j, none⟩ = false) (hn : ∀ i, i < n → q.B i ≠ q.b) : TopX lo w q.b q.o (Go.Proofs.Ytigdepahbnidjaa.mk n c Z) where
  lob := (h.rng h0).1
  hib := (h.rng h0).2
  free := hf
  row i hi := by
    rw [mk_len] at hi
    refine ⟨q.R i, q.C i, by rw [mk_rowLen _ hi]; exact h.top i hi, .inr ⟨q.B i, q.O i, (h.row i hi).resolve_left (by omega), (h.rrng i hi hc).1, (h.rrng i hi hc).2, hn i hi, fun j hj => ?_⟩⟩
    rw [mk_rowLen _ hi] at hj
    rw [mk_row _ hi, mkR_at _ hj]
    exact h.cell i hi j hj
/-- A list of rows whose headers may be written to is handed back. -/
def NewX (m : List (List Int)) (w : World) (e : Ending) (w' : World) : Prop :=
  ∃ b o c, e = .returned (.slice (some ⟨b, o, none⟩) m.length c) ∧ TopX w.heap.size w' b o m ∧ Below w.heap.size w w'
/-- A new matrix of zeros, its headers free. -/
def NewZX (n c : Nat) (w : World) (e : Ending) (w' : World) : Prop :=
  ∃ q : Place, e = .returned (.slice (some ⟨q.b, q.o, none⟩) n n) ∧ OwnAt w.heap.size w'.heap.size w' q n (fun _ => c) (fun _ _ => 0) ∧ Below w.heap.size w w' ∧ (∀ j, w'.frozen? ⟨q.b, j, none⟩ = false) ∧ ∀ i, i < n → q.B i ≠ q.b

set_option maxRecDepth 100000 in
set_option maxHeartbeats 3200000 in
theorem newMatrix_top (n c : Nat) (w : World) (hn : n ≤ 1024) (hc : c ≤ 1024) (hc0 : 1 ≤ c) :
    Calls Try.prog 113 #[.int .i64 n, .int .i64 c] w (NewZX n c w) := by
  obtain ⟨t, htt⟩ : ∃ t, t = n * c := ⟨_, rfl⟩
  have htb : t ≤ 1048576 := by rw [htt]; exact Nat.mul_le_mul hn hc
  have hmul : IntKind.i64.wrap ((n : Int) * (c : Int)) = (t : Int) := by
    have : (n : Int) * (c : Int) = (t : Int) := by rw [htt]; simp
    rw [this]; exact IntWalk.i64_in _ (by omega)
  have HT := Lib.hid htt
  clear htt
  have hmk := fun W => run_make_row' (P := Try.prog) 25 22 (.slice none 0 0) 24 Try.underlying25 info_slice rfl .i64 .i64 n (by omega) (by omega) W
  have hmk2 := fun W => run_make_row' (P := Try.prog) 22 2 (.int .i64 0) 8 Try.underlying22 info64 rfl .i64 .i64 t (by omega) (by omega) W
  go_enter Try.func113, Try.ntmps113
  go_wp2
  go_region
  · go_wp2
    go_loopw [6, 16] (fun v t wr => ∃ i o L : Nat, i ≤ n ∧ t = .int .i64 i ∧ v = .slice (some ⟨(w.heap.size + 1), o, none⟩) L L ∧ L = (n - i) * c ∧ (i < n → o = i * c) ∧ CutAt w wr w.heap.size (w.heap.size + 1) n c i) (fun _ t _ => n - (intOf t).toNat)
    case atStart => exact ⟨0, 0, t, Nat.zero_le _, rfl, rfl, by rw [HT.out]; rfl, fun _ => by simp, (CutAt.start1 w n c t _ _ HT.out).drew⟩
    case round =>
      obtain ⟨i, o, L, hi, rfl, rfl, hL, ho, hcut⟩ := hrel
      have HCut := Lib.hid hcut
      have HL := Lib.hid hL
      have HOo := Lib.hid ho
      by_cases hlt : i < n
      · have g0 := hcut.rest i (Nat.le_refl _) hlt
        have f0 := hcut.fm i
        have hLc : c ≤ L := by rw [hL]; exact Nat.le_mul_of_pos_left _ (by omega)
        have hLe : L - c = (n - (i + 1)) * c := by
          rw [hL]
          have : n - i = (n - (i + 1)) + 1 := by omega
          rw [this, Nat.succ_mul]; omega
        have HLe := Lib.hid hLe
        have hLt : L ≤ t := by rw [hL, HT.out]; exact Nat.mul_le_mul_right _ (by omega)
        have hi1 : (i : Int) < (n : Int) := by omega
        have hc1 : (c : Int) ≤ (L : Int) := by omega
        by_cases hend : c = L
        · have hin : i + 1 = n := by
            have h2 : (n - (i + 1)) * c = 0 := by omega
            rcases Nat.mul_eq_zero.1 h2 with h3 | h3 <;> omega
          have HIn := Lib.hid hin
          subst hend
          clear hL ho hcut hLe hin
          go_wp2
          go_region
          go_wp2
          go_roundw
          case rel => exact ⟨i + 1, o, 0, by omega, by go_num, by first | rfl | simp, by rw [HIn.out]; simp, fun h => absurd HIn.out (by omega), (HCut.out.next hlt (HOo.out hlt)).drew⟩
          case measure => simp [intOf]; omega
        · have hlt2 : c < L := by omega
          clear hL ho hcut hLe hend
          go_wp2
          go_region
          go_wp2
          go_roundw
          case rel => exact ⟨i + 1, o + c, L - c, by omega, by go_num, by first | rfl | simp, HLe.out, fun h => by rw [HOo.out hlt, Nat.succ_mul], (HCut.out.next hlt (HOo.out hlt)).drew⟩
          case measure => simp [intOf]; omega
      · have hn : i = n := by omega
        subst hn
        clear hL ho hcut
        go_wp2
        go_ret
        exact ⟨_, rfl, HCut.out.own hc0, HCut.out.bel, HCut.out.fm, fun _ _ e => HCut.out.ne e.symm⟩
  · go_wp2
    go_loopw [6, 16] (fun v t wr => ∃ i o L : Nat, i ≤ n ∧ t = .int .i64 i ∧ v = .slice (some ⟨w.heap.size, o, none⟩) L L ∧ L = (n - i) * c ∧ (i < n → o = i * c) ∧ CutAt w wr (w.heap.size + 1) w.heap.size n c i) (fun _ t _ => n - (intOf t).toNat)
    case atStart => exact ⟨0, 0, t, Nat.zero_le _, rfl, rfl, by rw [HT.out]; rfl, fun _ => by simp, (CutAt.start2 w n c t _ _ HT.out).drew⟩
    case round =>
      obtain ⟨i, o, L, hi, rfl, rfl, hL, ho, hcut⟩ := hrel
      have HCut := Lib.hid hcut
      have HL := Lib.hid hL
      have HOo := Lib.hid ho
      by_cases hlt : i < n
      · have g0 := hcut.rest i (Nat.le_refl _) hlt
        have f0 := hcut.fm i
        have hLc : c ≤ L := by rw [hL]; exact Nat.le_mul_of_pos_left _ (by omega)
        have hLe : L - c = (n - (i + 1)) * c := by
          rw [hL]
          have : n - i = (n - (i + 1)) + 1 := by omega
          rw [this, Nat.succ_mul]; omega
        have HLe := Lib.hid hLe
        have hLt : L ≤ t := by rw [hL, HT.out]; exact Nat.mul_le_mul_right _ (by omega)
        have hi1 : (i : Int) < (n : Int) := by omega
        have hc1 : (c : Int) ≤ (L : Int) := by omega
        by_cases hend : c = L
        · have hin : i + 1 = n := by
            have h2 : (n - (i + 1)) * c = 0 := by omega
            rcases Nat.mul_eq_zero.1 h2 with h3 | h3 <;> omega
          have HIn := Lib.hid hin
          subst hend
          clear hL ho hcut hLe hin
          go_wp2
          go_region
          go_wp2
          go_roundw
          case rel => exact ⟨i + 1, o, 0, by omega, by go_num, by first | rfl | simp, by rw [HIn.out]; simp, fun h => absurd HIn.out (by omega), (HCut.out.next hlt (HOo.out hlt)).drew⟩
          case measure => simp [intOf]; omega
        · have hlt2 : c < L := by omega
          clear hL ho hcut hLe hend
          go_wp2
          go_region
          go_wp2
          go_roundw
          case rel => exact ⟨i + 1, o + c, L - c, by omega, by go_num, by first | rfl | simp, HLe.out, fun h => by rw [HOo.out hlt, Nat.succ_mul], (HCut.out.next hlt (HOo.out hlt)).drew⟩
          case measure => simp [intOf]; omega
      · have hn : i = n := by omega
        subst hn
        clear hL ho hcut
        go_wp2
        go_ret
        exact ⟨_, rfl, HCut.out.own hc0, HCut.out.bel, HCut.out.fm, fun _ _ e => HCut.out.ne e.symm⟩

set_option maxHeartbeats 1600000 in
theorem unitMatrix_top (n : Nat) (w : World) (hn : n ≤ 1024) (h0 : 1 ≤ n) :
    Calls Try.prog 74 #[.int .i64 n] w (NewX (oneM n) w) := by
  go_enter Try.func74, Try.ntmps74
  go_wp2_with (go_at_call 113; (with_reducible refine (newMatrix_top n n _ (by omega) (by omega) (by omega)).mono ?_); rintro e w1 ⟨q, rfl, ho1, hb1, hf1, hn1⟩; have HO1 := Lib.hid ho1; have HB1 := Lib.hid hb1; have HF1 := Lib.hid hf1; have HN1 := Lib.hid hn1; clear ho1 hb1 hf1 hn1)
  go_loopw [10] (fun t wr => ∃ i : Nat, i ≤ n ∧ t = .int .i64 i ∧ OwnAt w.heap.size w1.heap.size wr q n (fun _ => n) (fun k j => if k < i ∧ k = j then 1 else 0) ∧ Below w.heap.size w wr ∧ wr.heap.size = w1.heap.size ∧ ∀ j, wr.frozen? ⟨q.b, j, none⟩ = false) (fun t _ => n - (intOf t).toNat)
  case atStart => exact ⟨0, Nat.zero_le _, rfl, HO1.out.congr (fun i _ j _ => by simp), HB1.out, rfl, HF1.out⟩
  case round =>
    obtain ⟨i, hi, rfl, ho, hbel, hsz, hfz⟩ := hrel
    have HFZ := Lib.hid hfz
    clear hfz
    have HO := Lib.hid ho
    have HBEL := Lib.hid hbel
    have HSZ := Lib.hid hsz
    clear hsz hbel
    by_cases hlt : i < n
    · have ht3 := ho.top i hlt
      have hR := (ho.row i hlt).resolve_left (by omega)
      rw [hR] at ht3
      have hf3 := ho.free i hlt i hlt
      have hrg := ho.rrng i hlt (by omega)
      obtain ⟨y, hy⟩ : ∃ y, wr.cell? ⟨q.B i, q.O i + i, none⟩ = some (.int .i64 y) := ⟨_, ho.cell i hlt i hlt⟩
      have hi1 : (i : Int) < (n : Int) := by omega
      clear ho hR
      go_wp2
      go_roundw
      case rel => exact ⟨i + 1, by omega, by go_num, (HO.out.set hlt hlt 1).congr (fun k hk j _ => by
        by_cases e1 : k = i ∧ j = i
        · obtain ⟨rfl, rfl⟩ := e1
          rw [if_pos ⟨rfl, rfl⟩, if_pos ⟨by omega, rfl⟩]
        · rw [if_neg e1]
          by_cases e2 : k < i ∧ k = j
          · rw [if_pos e2, if_pos ⟨by omega, e2.2⟩]
          · rw [if_neg e2, if_neg (by omega)]), HBEL.out.setCell hrg.1 _, by simpa [World.setCell] using HSZ.out, fun j => by simp [go_sem, HFZ.out]⟩
      case measure => simp [intOf]; omega
    · have hn : i = n := by omega
      subst hn
      have HF := Lib.hid (HO.out.congr (Z' := fun k j => if k = j then 1 else 0) (fun k hk j _ => by
        by_cases e : k = j
        · rw [if_pos ⟨hk, e⟩, if_pos e]
        · rw [if_neg (fun h => e h.2), if_neg e]))
      clear ho
      go_wp2
      go_ret
      exact ⟨q.b, q.o, i, by unfold oneM; rw [mk_len]; rfl, TopX.ofOwn (HF.out.mono (Nat.le_refl _) (by rw [HSZ.out]; exact Nat.le_refl _)) h0 h0 HFZ.out HN1.out, HBEL.out⟩

end Go.Proofs.Ytigdepahbnidjaa
