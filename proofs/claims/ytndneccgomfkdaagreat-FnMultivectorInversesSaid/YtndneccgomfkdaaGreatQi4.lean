/-
  The program's transposed matrices and unit matrices: contracts.
  Conditions: the matrix is a row of rows of known cells, all of one length, at most 1024.
  Sums of products of lists, and products of matrices with vectors, in the program and in the model: contracts.
  Conditions: the lists and matrices are rows of known cells with numbers of the prime; their sizes fit.
  Matrices with rows of one length, and their products with vectors in the program: contracts.
  Conditions: the matrices are rows of rows of known cells with numbers of the prime; their sizes fit.
  Copies of lists and matrices in the model, copies of lists in the program, and unit matrices in both: contracts.
  Conditions: the lists are rows of known cells, not empty.
  Multiples added to lists and lists multiplied, in place, in the program: contracts.
  Conditions: the arguments are nil or rows of known cells, of at most 1048576 numbers.
-/
import Derived.Test.YtndneccgomfkdaaGreatQi3
import Derived.Deep.AppendLies
import Derived.BigQuiet
import Derived.Lib.SliceRun
import Derived.RegionTactic
import Derived.ChangeAlike
namespace Go.Proofs.YtndneccgomfkdaaGreat
open Go.RowKit
set_option linter.unusedVariables false

/-- A matrix of one's own is handed back. -/
def OwnNew (m : List (List Int)) (w : World) (e : Ending) (w' : World) : Prop :=
  ∃ r c, e = .returned (.slice r m.length c) ∧ OwnM w.heap.size w'.heap.size w' r m ∧ Below w.heap.size w w'
theorem OwnAt.ownM {lo tp : Nat} {w : World} {q : Place} {n c : Nat} {Z : Nat → Nat → Int} (h : OwnAt lo tp w q n (fun _ => c) Z) : OwnM lo tp w (some ⟨q.b, q.o, none⟩) (Go.Proofs.YtndneccgomfkdaaGreat.mk n c Z) := by
  refine .inr ⟨q, rfl, ?_⟩
  rw [mk_len]
  have e : ∀ i, i < n → (rw' (Go.Proofs.YtndneccgomfkdaaGreat.mk n c Z) i).length = c := fun i hi => mk_rowLen Z hi
  exact {
    rng := h.rng
    top := fun i hi => by rw [e i hi]; exact h.top i hi
    row := fun i hi => by rw [e i hi]; exact h.row i hi
    rrng := fun i hi hl => h.rrng i hi (by rw [e i hi] at hl; exact hl)
    cell := fun i hi j hj => by rw [e i hi] at hj; rw [mk_at Z hi hj]; exact h.cell i hi j hj
    free := fun i hi j hj => h.free i hi j (by rw [e i hi] at hj; exact hj)
    apart := fun i hi i' hi' hne j hj j' hj' => h.apart i hi i' hi' hne j (by rw [e i hi] at hj; exact hj) j' (by rw [e i' hi'] at hj'; exact hj')
    tops := fun i hi j hj i' hi' => h.tops i hi j (by rw [e i hi] at hj; exact hj) i' hi' }

set_option maxRecDepth 100000 in
set_option maxHeartbeats 3200000 in
theorem transposed_any (a : Option Addr) (m : List (List Int)) (ca lo tp : Nat) (w : World) (hm : MatIn lo tp w a m) (ht : tp ≤ w.heap.size) (h0 : 0 < m.length) (hc : ∀ i, i < m.length → (rw' m i).length = (rw' m 0).length) (hn : m.length ≤ 1024) (hn2 : (rw' m 0).length ≤ 1024) :
    Calls Tryz.prog 77 #[.slice a m.length ca] w (OwnNew (trM m) w) := by
  have HM := Lib.hid hm
  have HC := Lib.hid hc
  obtain ⟨b, o, r0, c0, ha, _, hb, hr0, _⟩ := HM.out.row h0
  subst ha
  rw [Nat.add_zero] at hr0
  obtain ⟨c, hcc⟩ : ∃ c, c = (rw' m 0).length := ⟨_, rfl⟩
  rw [← hcc] at hn2 hr0
  have HCC := Lib.hid hcc
  have hb' : b < w.heap.size := Nat.lt_of_lt_of_le hb ht
  clear hm hc hcc
  go_enter Tryz.func77, Tryz.ntmps77
  go_wp2_with (go_at_call 94; (with_reducible refine (newMatrix_any c m.length _ (by omega) (by omega) (by omega)).mono ?_); rintro e w1 ⟨q, rfl, ho1, hb1⟩; have HO1 := Lib.hid ho1; have HB1 := Lib.hid hb1; clear ho1 hb1)
  go_loopw [17] (fun t wr => ∃ i : Nat, i ≤ m.length ∧ t = .int .i64 i ∧ OwnAt w.heap.size w1.heap.size wr q c (fun _ => m.length) (fun k i' => if i' < i then at' m i' k else 0) ∧ Below w.heap.size w wr ∧ wr.heap.size = w1.heap.size) (fun t _ => m.length - (intOf t).toNat)
  case atStart => exact ⟨0, Nat.zero_le _, rfl, HO1.out.congr (fun i _ j _ => by simp), HB1.out, rfl⟩
  case round =>
    obtain ⟨i, hi, rfl, ho, hbel, hsz⟩ := hrel
    have HO := Lib.hid ho
    have HBEL := Lib.hid hbel
    have HSZ := Lib.hid hsz
    rename World => wo
    clear ho hsz
    by_cases hlt : i < m.length
    · obtain ⟨b1, o1, r, c1, ha1, _, hb1, hr1, hrow⟩ := HM.out.row hlt
      cases ha1
      have hr1 := (hbel.cell (p := ⟨b, o + i, none⟩) hb').trans hr1
      have hcl := (HC.out i hlt).trans HCC.out.symm
      rw [hcl] at hr1
      have HCL := Lib.hid hcl
      have HROW := Lib.hid hrow
      have hi1 : (i : Int) < (m.length : Int) := by omega
      clear hcl hrow hbel
      go_wp2
      go_loopw [24] (fun t wr => ∃ j : Nat, j ≤ c ∧ t = .int .i64 j ∧ OwnAt w.heap.size w1.heap.size wr q c (fun _ => m.length) (fun k i' => if i' < i ∨ (i' = i ∧ k < j) then at' m i' k else 0) ∧ Below w.heap.size w wr ∧ wr.heap.size = w1.heap.size) (fun t _ => c - (intOf t).toNat)
      case atStart => exact ⟨0, Nat.zero_le _, rfl, HO.out.congr (fun k _ i' _ => by simp), HBEL.out, HSZ.out⟩
      case round =>
        obtain ⟨j, hj, rfl, hoj, hbj, hsj⟩ := hrel
        have HOJ := Lib.hid hoj
        have HBJ := Lib.hid hbj
        have HSJ := Lib.hid hsj
        clear hr1 hsj
        by_cases hltj : j < c
        · obtain ⟨b2, o2, ha2, _, hb2, hx2⟩ := (HROW.out.below hbj ht).num (j := j) (by rw [HCL.out]; exact hltj)
          subst ha2
          have ht3 := hoj.top j hltj
          have hR := (hoj.row j hltj).resolve_left (by omega)
          rw [hR] at ht3
          have hc3 := hoj.cell j hltj i hlt
          have hf3 := hoj.free j hltj i hlt
          have hrg := hoj.rrng j hltj (by omega)
          obtain ⟨x, hx⟩ : ∃ x, x = (rw' m i).getD j 0 := ⟨_, rfl⟩
          rw [← hx] at hx2
          have HX := Lib.hid hx
          have hj1 : (j : Int) < (c : Int) := by omega
          have HC3 := Lib.hid hc3
          obtain ⟨y, hy⟩ : ∃ y, wr.cell? ⟨q.B j, q.O j + i, none⟩ = some (.int .i64 y) := ⟨_, hc3⟩
          clear hoj hbj hR hc3 hx
          go_wp2
          go_roundw
          case rel => exact ⟨j + 1, by omega, by go_num, (HOJ.out.set hltj hlt x).congr (fun k hk i' _ => by
            rw [HX.out]
            by_cases e1 : k = j ∧ i' = i
            · obtain ⟨rfl, rfl⟩ := e1
              rw [if_pos ⟨rfl, rfl⟩, if_pos (.inr ⟨rfl, by omega⟩)]; rfl
            · rw [if_neg e1]
              by_cases e2 : i' < i ∨ (i' = i ∧ k < j)
              · rw [if_pos e2, if_pos (by omega)]
              · rw [if_neg e2, if_neg (by omega)]), HBJ.out.setCell hrg.1 _, by simpa [World.setCell] using HSJ.out⟩
          case measure => simp [intOf]; omega
        · have hn : j = c := by omega
          subst hn
          clear hoj hbj
          go_wp2
          go_roundw
          case rel => exact ⟨i + 1, by omega, by go_num, HOJ.out.congr (fun k hk i' _ => by
            by_cases e : i' < i + 1
            · rw [if_pos e, if_pos (by omega)]
            · rw [if_neg e, if_neg (by omega)]), HBJ.out, HSJ.out⟩
          case measure => simp [intOf]; omega
    · have hn : i = m.length := by omega
      subst hn
      have HF := Lib.hid (HO.out.congr (Z' := fun k i' => at' m i' k) (fun k _ i' h => by rw [if_pos h]))
      have HE : Hid (trM m = mk c m.length fun k i => at' m i k) := by show trM m = _; unfold trM; rw [← HCC.out]
      clear hbel
      go_wp2
      go_ret
      rw [HE.out]
      exact ⟨_, c, by rw [mk_len]; rfl, (HF.out.mono (Nat.le_refl _) (by rw [HSZ.out]; exact Nat.le_refl _)).ownM, HBEL.out⟩

end Go.Proofs.YtndneccgomfkdaaGreat

namespace Go.Proofs.YtndneccgomfkdaaGreat
open Go.RowKit
set_option linter.unusedVariables false

def Nums (p : Int) (z : List Int) : Prop := ∀ j, j < z.length → 0 ≤ z.getD j 0 ∧ z.getD j 0 < p
theorem Nums.of {p : Int} {z : List Int} (h : z.all (inr p) = true) : Nums p z := by
  intro j hj
  rw [List.all_eq_true] at h
  exact inr_iff.1 (h _ (by rw [getD_at hj]; exact List.getElem_mem hj))
theorem mul_bd' {p x y : Int} (hp : p ≤ 13) (x0 : 0 ≤ x) (x1 : x < p) (y0 : 0 ≤ y) (y1 : y < p) : 0 ≤ x * y ∧ x * y ≤ 144 :=
  ⟨Int.mul_nonneg x0 y0, Int.le_trans (Int.mul_le_mul_of_nonneg_right (by omega : x ≤ 12) y0) (Int.mul_le_mul_of_nonneg_left (by omega : y ≤ 12) (by omega))⟩
end Go.Proofs.YtndneccgomfkdaaGreat

namespace Go.Proofs.YtndneccgomfkdaaGreat
open Go.RowKit Go.ChangeShapes Go.WideShapes
set_option linter.unusedVariables false

/-- Rows of c numbers of the prime, at most 1024 of at most 1024. -/
structure Rect (p : Int) (m : List (List Int)) (c : Nat) : Prop where
  rows : m.length ≤ 1024
  cols : c ≤ 1024
  len : ∀ i, i < m.length → (rw' m i).length = c
  num : ∀ i, i < m.length → Nums p (rw' m i)
theorem Rect.at {p : Int} {m : List (List Int)} {c : Nat} (h : Rect p m c) {i j : Nat} (hi : i < m.length) (hj : j < c) : 0 ≤ at' m i j ∧ at' m i j < p := h.num i hi j (by rw [h.len i hi]; exact hj)
theorem Rect.tr {p : Int} {m : List (List Int)} {c : Nat} (h : Rect p m c) (hc : c = (rw' m 0).length) : Rect p (trM m) m.length where
  rows := by unfold trM; rw [mk_len, ← hc]; exact h.cols
  cols := h.rows
  len i hi := by unfold trM at hi ⊢; rw [mk_len] at hi; exact mk_rowLen _ hi
  num i hi j hj := by
    unfold trM at hi hj ⊢
    rw [mk_len] at hi
    rw [mk_rowLen _ hi] at hj
    have : (rw' (Go.Proofs.YtndneccgomfkdaaGreat.mk (rw' m 0).length m.length fun k i => at' m i k) i).getD j 0 = at' m j i := mk_at _ hi hj
    rw [this]; exact h.at hj (by rw [hc]; exact hi)

end Go.Proofs.YtndneccgomfkdaaGreat

namespace Go.Proofs.YtndneccgomfkdaaGreat
open Go.RowKit Go.ChangeShapes Go.WideShapes
set_option linter.unusedVariables false

theorem news_of {w : World} {b o : Nat} {zs : List Int} (hc : ∀ j, j < zs.length → w.cell? ⟨b, o + j, none⟩ = some (.int .i64 (zs.getD j 0))) (x : Obj) (hb : b < w.heap.size) :
    ∀ j u, (zs.map (Value.int .i64))[j]? = some u → (w.alloc x).cell? ((⟨b, o, none⟩ : Addr).add j) = some u := by
  intro j u hj
  have hlt : j < zs.length := by
    have := (List.getElem?_eq_some_iff.1 hj).1
    simpa using this
  rw [Addr.add_lit]
  have e : (zs.map (Value.int .i64))[j]? = some (.int .i64 (zs.getD j 0)) := by simp [hlt, List.getD]
  rw [e] at hj
  rw [World.cell?_alloc_old _ _ _ (by show b ≠ w.heap.size; omega), hc j hlt]
  exact hj
theorem ones_of (zs : List Int) : ∀ u ∈ zs.map (Value.int .i64), u.oneCell' = true := by
  intro u hu; obtain ⟨x, _, rfl⟩ := List.mem_map.1 hu; rfl
theorem OutR.of {B n : Nat} {w : World} {v : Value} {zs : List Int} (h : w.ownsRow B 2 1 v n ([] ++ zs.map (Value.int .i64))) (hn : n = zs.length) : OutR B w v zs := by
  subst hn; simpa [OutR] using h

set_option maxHeartbeats 800000 in
theorem l01Own_any (a : Option Addr) (zs : List Int) (ca lo tp : Nat) (w : World) (ha : RowIn lo tp w a zs) (ht : tp ≤ w.heap.size) (h0 : 0 < zs.length) (hs : zs.length ≤ 1048576) :
    Calls Tryz.prog 53 #[.slice a zs.length ca] w (NewR zs w) := by
  obtain ⟨i0, hi, hz0, hz1, hz2⟩ := info_parts info64
  rcases ha with h | ⟨b, o, rfl, _, hb, hc⟩
  · rw [h] at h0; simp at h0
  · have hbw : b < w.heap.size := Nat.lt_of_lt_of_le hb ht
    have HN := Lib.hid (news_of hc (.cells #[] 2) hbw)
    clear hc
    go_enter Tryz.func53, Tryz.ntmps53
    go_wp2_with (at_builtin; refine wpList_append_lies _ rfl _ _ 24 rfl w.heap.size 2 i0 (.int .i64 0) 1 8 Tryz.underlying24 hi hz0 hz1 hz2 rfl (by decide) _ 0 [] rfl (World.ownsRow_made w #[] 0 (Nat.le_refl _) (Nat.zero_le _) rfl) ⟨b, o, none⟩ zs.length ca (zs.map (Value.int .i64)) rfl (by simp) HN.out (ones_of zs) h0 (by unfold maxLen; omega) (by omega) (by simp) (w.heap.size + 1) (by simp) ?_; intro gg cap w1 hown1 hgrow hat hlt1)
    rw [Nat.zero_add] at hown1
    have HO : Hid (OutR w.heap.size w1 (.slice (some ⟨gg, 0, none⟩) zs.length cap) zs) := OutR.of hown1 rfl
    have HB : Hid (Below w.heap.size w w1) := ((Below.refl _ _).alloc (Nat.le_refl _) _).grown hgrow (by simp) (fun k hk => by cases hk; exact Nat.le_refl _)
    clear hown1 hgrow
    go_wp2
    go_ret
    exact HO.out.new HB.out

theorem rw_take {m : List (List Int)} {i j : Nat} (h : j < i) : rw' (m.take i) j = rw' m j := by
  simp only [rw', List.getD_eq_getElem?_getD, List.getElem?_take]
  rw [if_pos h]
theorem take_snoc' {m : List (List Int)} {i : Nat} (h : i < m.length) : m.take (i + 1) = m.take i ++ [rw' m i] := by
  rw [List.take_succ_eq_append_getElem h]
  congr 2
  simp [rw', h]
theorem OutM.nextT {B n : Nat} {w w2 w1 : World} {o : Obj} {v v' : Value} {m : List (List Int)} {vals : List Value} {r : Option Addr} {cp : Nat} (hn : n < m.length)
    (ho : w.ownsRow B 24 1 v n vals) (hr : ∀ i, i < n → ∃ r c', vals[i]? = some (.slice r (rw' (m.take n) i).length c') ∧ TagR B w.heap.size w r (rw' (m.take n) i))
    (hz : TagR w.heap.size w2.heap.size w2 r (rw' m n)) (hB : B ≤ w.heap.size) (h2 : Below w.heap.size w w2) (h1 : w1.ownsRow B 24 1 v' (n + 1) (vals ++ [.slice r (rw' m n).length cp])) (hg : (w2.alloc o).grownBy w1 v.ownBlock) : OutM B w1 v' (m.take (n + 1)) := by
  have hb : Below w2.heap.size w2 (w2.alloc o) := (Below.refl _ _).alloc (Nat.le_refl _) o
  have hl : (m.take n).length = n := by rw [List.length_take]; omega
  rw [take_snoc' hn]
  refine OutM.push (m := m.take n) (w := w2.alloc o) (vals := vals) (by rw [hl]; exact (ho.kept (below_grown h2) (by cases hv : v.ownBlock <;> simp)).alloc o) (fun i hi => ?_) (hz.below hb (Nat.le_refl _) hB hb.size) (c := cp) (by rw [hl]; exact h1) hg
  rw [hl] at hi
  obtain ⟨r', c', g1, g2⟩ := hr i hi
  exact ⟨r', c', g1, (g2.below h2 (Nat.le_refl _) (Nat.le_refl _) h2.size).below hb (Nat.le_refl _) (Nat.le_refl _) hb.size⟩

/-- A matrix appended row by row in new memory is handed back. -/
def NewO (m : List (List Int)) (w : World) (e : Ending) (w' : World) : Prop :=
  ∃ v, e = .returned v ∧ OutM w.heap.size w' v m ∧ Below w.heap.size w w'

set_option maxRecDepth 100000 in
set_option maxHeartbeats 1600000 in
theorem l01Own2_out (a : Option Addr) (m : List (List Int)) (ca lo tp : Nat) (w : World) (hm : MatIn lo tp w a m) (ht : tp ≤ w.heap.size) (hn : m.length ≤ 1024) (hc : ∀ i, i < m.length → 0 < (rw' m i).length ∧ (rw' m i).length ≤ 1024) :
    Calls Tryz.prog 101 #[.slice a m.length ca] w (NewO m w) := by
  obtain ⟨j0, kj, kz0, kz1, kz2⟩ := info_parts info_slice
  have HM := Lib.hid hm
  have HC := Lib.hid hc
  clear hm hc
  go_enter Tryz.func101, Tryz.ntmps101
  go_wp2
  go_loopw [3, 4] (fun v t wr => ∃ i : Nat, i ≤ m.length ∧ t = .int .i64 i ∧ OutM w.heap.size wr v (m.take i) ∧ Below w.heap.size w wr) (fun _ t _ => m.length - (intOf t).toNat)
  case atStart => exact ⟨0, Nat.zero_le _, rfl, OutM.start w _ _ (Nat.le_refl _) rfl, by ((repeat' (first | with_reducible exact Below.refl _ _ | (with_reducible refine Below.setCell ?_ ?_ _) | (with_reducible refine Below.alloc ?_ ?_ _) | (with_reducible refine Below.drew ?_))); all_goals (first | (simp; done) | omega | (simp; omega)))⟩
  case round =>
    obtain ⟨i, hi', rfl, ho, hbel⟩ := hrel
    have HO := Lib.hid ho
    have HBEL := Lib.hid hbel
    have hwz := hbel.size
    clear ho
    by_cases hlt : i < m.length
    · obtain ⟨b1, o1, r, c1, ha1, _, hb1, hr1, hrow⟩ := (HM.out.below hbel ht).row hlt
      subst ha1
      have HROW := Lib.hid hrow
      clear hrow hbel
      obtain ⟨vals, hvo, hvr⟩ := HO.out
      rw [List.length_take, Nat.min_eq_left hi'] at hvo hvr
      have HV := Lib.hid hvo
      have HVR := Lib.hid hvr
      clear hvo hvr
      go_wp2_with (first | (go_at_call 53; (with_reducible refine (l01Own_any _ _ _ lo tp _ HROW.out (by omega) (HC.out i hlt).1 (by have := (HC.out i hlt).2; omega)).mono ?_); rintro e w2 ⟨r2, k2, rfl, ho2, hb2⟩; have HO2 := Lib.hid ho2; have HB2 := Lib.hid hb2; have hz2 := hb2.size; have HV2 := Lib.hid (HV.out.kept (below_grown hb2) (by cases hv : Value.ownBlock u3 <;> simp)); clear ho2 hb2) | (at_builtin; refine wpList_append_lies _ rfl _ _ 32 rfl w.heap.size 24 j0 (.slice none 0 0) 1 24 Tryz.underlying32 kj kz0 kz1 kz2 rfl (by decide) u3 i vals rfl (HV2.out.alloc _) ⟨w2.heap.size, 0, none⟩ 1 1 [.slice r2 (rw' m i).length k2] rfl rfl (World.news_of_block (cs := #[.slice r2 (rw' m i).length k2]) (t := 24) (fr := (0, 0)) (heap_alloc_new w2 _)) (by simp [Value.oneCell']) (by omega) (by unfold maxLen; omega) (by omega) (by simp; omega) (w2.heap.size + 1) (by simp) ?_; intro gg cap w1 hown1 hgrow hat hlt1))
      go_wp2
      go_roundw
      case rel => exact ⟨i + 1, by omega, by go_num, OutM.nextT hlt HV.out HVR.out HO2.out hwz HB2.out hown1 hgrow, ((HBEL.out.trans (HB2.out.mono hwz)).alloc (by omega) _).grown hgrow (by simp; omega) (fun _ hk => (HV.out.lt _ hk).1)⟩
      case measure => simp [intOf]; omega
    · have hn : i = m.length := by omega
      subst hn
      have HT : Hid (m.take m.length = m) := by show m.take m.length = m; exact List.take_length
      have HF := HO.out
      rw [HT.out] at HF
      have HF := Lib.hid HF
      clear hbel
      go_wp2
      go_ret
      exact ⟨_, rfl, HF.out, HBEL.out⟩

end Go.Proofs.YtndneccgomfkdaaGreat

namespace Go.Proofs.YtndneccgomfkdaaGreat
open Go.RowKit
set_option linter.unusedVariables false

/-- A list of one's own, rewritten in place: what stands where. -/
structure RowOwn (w : World) (b o : Nat) (n : Nat) (f : Nat → Int) : Prop where
  cell : ∀ j, j < n → w.cell? ⟨b, o + j, none⟩ = some (.int .i64 (f j))
  free : ∀ j, j < n → w.frozen? ⟨b, o + j, none⟩ = false
theorem RowOwn.of {lo tp : Nat} {w : World} {a : Option Addr} {zs : List Int} (h : OwnR lo tp w a zs) (h0 : 0 < zs.length) : ∃ b o, a = some ⟨b, o, none⟩ ∧ lo ≤ b ∧ b < tp ∧ RowOwn w b o zs.length (fun j => zs.getD j 0) := by
  rcases h with h | ⟨b, o, ha, k0, k1, hc⟩
  · rw [h] at h0; simp at h0
  · exact ⟨b, o, ha, k0, k1, fun j hj => (hc j hj).1, fun j hj => (hc j hj).2⟩
theorem RowOwn.back {lo tp : Nat} {w : World} {b o : Nat} {zs : List Int} (h : RowOwn w b o zs.length (fun j => zs.getD j 0)) (h0 : lo ≤ b) (h1 : b < tp) : OwnR lo tp w (some ⟨b, o, none⟩) zs :=
  .inr ⟨b, o, rfl, h0, h1, fun j hj => ⟨h.cell j hj, h.free j hj⟩⟩
theorem RowOwn.step {w : World} {b o n i : Nat} {f g : Nat → Int} (h : RowOwn w b o n (fun j => if j < i then g j else f j)) (hi : i < n) (v : Value) (hv : v = .int .i64 (g i)) : RowOwn (w.setCell ⟨b, o + i, none⟩ v) b o n (fun j => if j < i + 1 then g j else f j) where
  cell j hj := by
    subst hv
    by_cases e : j = i
    · subst e; rw [if_pos (by omega)]; exact World.cell?_setCell_same w _ _ (h.cell j hj)
    · by_cases e2 : j < i
      · rw [if_pos (by omega)]; have h2 := h.cell j hj; rw [if_pos e2] at h2; exact (World.cell?_setCell_other _ _ _ _ (by first | (simp; done) | (simp; omega))).trans h2
      · rw [if_neg (by omega)]; have h2 := h.cell j hj; rw [if_neg e2] at h2; exact (World.cell?_setCell_other _ _ _ _ (by first | (simp; done) | (simp; omega))).trans h2
  free j hj := by simp [go_sem, h.free j hj]
theorem Wrote.same {b o n lo tp : Nat} {w w' : World} (h : Wrote b o n w w') (hb : b < lo ∨ tp ≤ b) : Same lo tp w w' := fun i i0 i1 => h.block i (by omega)
theorem RowOwn.drew {w : World} {b o n : Nat} {f : Nat → Int} (h : RowOwn w b o n f) : RowOwn w.drew b o n f := ⟨h.cell, h.free⟩

set_option maxRecDepth 100000 in
set_option maxHeartbeats 3200000 in
theorem scale_any (p k : Int) (b o n c : Nat) (f : Nat → Int) (w : World) (hp : prm p = true) (h : RowOwn w b o n f) (hn : n ≤ 100000) (hf : ∀ j, j < n → 0 ≤ f j ∧ f j < p) (k0 : 0 ≤ k) (k1 : k ≤ p) :
    Calls Tryz.prog 129 #[.int .i64 p, .slice (some ⟨b, o, none⟩) n c, .int .i64 k] w fun e w' => e = .returned (.tuple #[]) ∧ RowOwn w' b o n (fun j => f j * k % p) ∧ Wrote b o n w w' := by
  have hpb := prm_bd hp
  have H := Lib.hid h
  have HF := Lib.hid hf
  clear h hf hp
  go_enter Tryz.func129, Tryz.ntmps129
  go_wp2
  go_loopw [9] (fun t wr => ∃ i : Nat, i ≤ n ∧ t = .int .i64 i ∧ RowOwn wr b o n (fun j => if j < i then f j * k % p else f j) ∧ Wrote b o n w wr) (fun t _ => n - (intOf t).toNat)
  case atStart => exact ⟨0, Nat.zero_le _, rfl, ⟨fun j hj => by simpa using H.out.cell j hj, H.out.free⟩, Wrote.refl _ _ _ _⟩
  case round =>
    obtain ⟨i, hi, rfl, hr, hw⟩ := hrel
    have HR := Lib.hid hr
    have HW := Lib.hid hw
    by_cases hlt : i < n
    · have c0 := hr.cell i hlt
      rw [if_neg (Nat.lt_irrefl _)] at c0
      have f0 := hr.free i hlt
      obtain ⟨x0, x1⟩ := HF.out i hlt
      obtain ⟨x, hx⟩ : ∃ x, x = f i := ⟨_, rfl⟩
      rw [← hx] at c0 x0 x1
      have HX := Lib.hid hx
      have m0 : 0 ≤ x * k := Int.mul_nonneg x0 k0
      have m1 : x * k ≤ 13 * 13 := Int.le_trans (Int.mul_le_mul_of_nonneg_right (by omega : x ≤ 13) k0) (Int.mul_le_mul_of_nonneg_left (by omega) (by omega))
      have hi1 : (i : Int) < (n : Int) := by omega
      have e1 : IntKind.i64.wrap (x * k) = x * k := IntWalk.i64_in _ (by omega)
      have e3 : (x * k).tmod p = x * k % p := Int.tmod_eq_emod_of_nonneg (by omega)
      have hp0 : ¬ p = 0 := by omega
      have hp1 : (p == 0) = false := by simpa using hp0
      clear hr hw hx
      go_wp2
      clear e1 e3
      go_wp2
      go_roundw
      case rel => exact ⟨i + 1, by omega, by go_num, HR.out.step hlt _ (by rw [HX.out]), HW.out.set hlt _⟩
      case measure => simp [intOf]; omega
    · have hn : i = n := by omega
      subst hn
      have HE : Hid (RowOwn wr b o i (fun j => f j * k % p)) := ⟨fun j hj => by have := HR.out.cell j hj; rwa [if_pos hj] at this, HR.out.free⟩
      clear hr hw
      go_wp2
      go_end0
      exact ⟨rfl, HE.out, HW.out⟩

set_option maxRecDepth 100000 in
set_option maxHeartbeats 3200000 in
theorem addMultiple_any (p k : Int) (b o n c : Nat) (f : Nat → Int) (a : Option Addr) (z : List Int) (cz lo tp : Nat) (w : World) (hp : prm p = true) (h : RowOwn w b o n f) (hz : RowIn lo tp w a z) (hb : b < lo ∨ tp ≤ b) (hl : n ≤ z.length) (hn : z.length ≤ 100000) (hf : ∀ j, j < n → 0 ≤ f j ∧ f j < p) (hzn : Nums p z) (k0 : 0 ≤ k) (k1 : k ≤ p) :
    Calls Tryz.prog 50 #[.int .i64 p, .slice (some ⟨b, o, none⟩) n c, .int .i64 k, .slice a z.length cz] w fun e w' => e = .returned (.tuple #[]) ∧ RowOwn w' b o n (fun j => (f j + k * z.getD j 0) % p) ∧ Wrote b o n w w' := by
  have hpb := prm_bd hp
  have H := Lib.hid h
  have HF := Lib.hid hf
  have HZ := Lib.hid hz
  have HZN := Lib.hid hzn
  clear h hf hp hz hzn
  go_enter Tryz.func50, Tryz.ntmps50
  go_wp2
  go_loopw [11] (fun t wr => ∃ i : Nat, i ≤ n ∧ t = .int .i64 i ∧ RowOwn wr b o n (fun j => if j < i then (f j + k * z.getD j 0) % p else f j) ∧ Wrote b o n w wr) (fun t _ => n - (intOf t).toNat)
  case atStart => exact ⟨0, Nat.zero_le _, rfl, ⟨fun j hj => by simpa using H.out.cell j hj, H.out.free⟩, Wrote.refl _ _ _ _⟩
  case round =>
    obtain ⟨i, hi, rfl, hr, hw⟩ := hrel
    have HR := Lib.hid hr
    have HW := Lib.hid hw
    by_cases hlt : i < n
    · have c0 := hr.cell i hlt
      rw [if_neg (Nat.lt_irrefl _)] at c0
      have f0 := hr.free i hlt
      obtain ⟨b2, o2, ha2, l2, t2, hc2⟩ := (HZ.out.same (hw.same hb)).num (by omega : i < z.length)
      subst ha2
      obtain ⟨x0, x1⟩ := HF.out i hlt
      obtain ⟨y0, y1⟩ := HZN.out i (by omega)
      obtain ⟨x, hx⟩ : ∃ x, x = f i := ⟨_, rfl⟩
      obtain ⟨y, hy⟩ : ∃ y, y = z.getD i 0 := ⟨_, rfl⟩
      rw [← hx] at c0 x0 x1
      rw [← hy] at hc2 y0 y1
      have HX := Lib.hid hx
      have HY := Lib.hid hy
      have m0 : 0 ≤ k * y := Int.mul_nonneg k0 y0
      have m1 : k * y ≤ 13 * 13 := Int.le_trans (Int.mul_le_mul_of_nonneg_right (by omega : k ≤ 13) y0) (Int.mul_le_mul_of_nonneg_left (by omega) (by omega))
      have hi1 : (i : Int) < (n : Int) := by omega
      have hi2 : (i : Int) < (z.length : Int) := by omega
      have e1 : IntKind.i64.wrap (k * y) = k * y := IntWalk.i64_in _ (by omega)
      have e2 : IntKind.i64.wrap (x + k * y) = x + k * y := IntWalk.i64_in _ (by omega)
      have e3 : (x + k * y).tmod p = (x + k * y) % p := Int.tmod_eq_emod_of_nonneg (by omega)
      have hp0 : ¬ p = 0 := by omega
      have hp1 : (p == 0) = false := by simpa using hp0
      clear hr hw hx hy
      go_wp2
      go_region
      all_goals
        clear e1 e2 e3
        go_wp2
        go_roundw
        case rel => exact ⟨i + 1, by omega, by go_num, (HR.out.step hlt _ (by rw [HX.out, HY.out])).drew, (HW.out.set hlt _).drew⟩
        case measure => simp [intOf]; omega
    · have hn : i = n := by omega
      subst hn
      have HE : Hid (RowOwn wr b o i (fun j => (f j + k * z.getD j 0) % p)) := ⟨fun j hj => by have := HR.out.cell j hj; rwa [if_pos hj] at this, HR.out.free⟩
      clear hr hw
      go_wp2
      go_end0
      exact ⟨rfl, HE.out, HW.out⟩

end Go.Proofs.YtndneccgomfkdaaGreat
