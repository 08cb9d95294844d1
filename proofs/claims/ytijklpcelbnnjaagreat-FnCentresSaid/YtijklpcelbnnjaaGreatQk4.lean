/-
  Copies of lists and matrices in the model, copies of lists in the program, and unit matrices in both: contracts.
  Conditions: the lists are rows of known cells, not empty.
  Multiples added to lists and lists multiplied, in place, in the program: contracts.
  Conditions: the arguments are nil or rows of known cells, of at most 1048576 numbers.
  What a law knows of the lists and matrices that it is handed.
  No conditions: what can be read as data.
  The words in which the exact laws of matrices are walked: what a function of the program or of the model hands back, and the laws' marks of lists.
  No conditions.
  Spaces: what the laws' sizes, copies, comparisons and marks of a space do.
  Conditions: the list of squares is nil or a row of known cells, of at most 1048576 numbers.
  Draws of lists and vectors: contracts.
  Conditions: the source stands in a block of known cells.
  Draws of vectors: contracts.
  Conditions: the source stands in a block of known cells.
-/
import Derived.Test.YtijklpcelbnnjaaGreatQk3
import Derived.Lib.SliceRun
import Derived.RegionTactic
import Derived.ChangeAlike
import Derived.Test.YtijklpcelbnnjaaGreatQk2
import Derived.OpenShut
import Derived.Deep.Matrix
import Derived.Test.YtijklpcelbnnjaaGreatQk1
import Derived.Deep.DeepCutAuto
import Derived.Deep.RegionHeld3
namespace Go.Proofs.YtijklpcelbnnjaaGreat
open Go.RowKit Go.ChangeShapes Go.WideShapes
set_option linter.unusedVariables false

theorem news_of {w : World} {b o : Nat} {zs : List Int} (hc : ∀ j, j < zs.length → w.cell? ⟨b, o + j, none⟩ = some (.int .i64 (zs.getD j 0))) (x : Obj) (hb : b < w.heap.size) :
    ∀ j u, (zs.map (Value.int .i64))[j]? = some u → (w.alloc x).cell? ((⟨b, o, none⟩ : Addr).add j) = some u := by
  intro j u hj
  have hlt : j < zs.length := by
    have := (List.getElem?_eq_some_iff.1 hj).1
    simpa using this
  rw [Addr.add_lit]
  have e : (zs.map (Value.int .i64))[j]? = some (.int .i64 (zs.getD j 0)) := by simp [hlt, List.getD]
  rw [e] at hj
  rw [World.cell?_alloc_old _ _ _ (by show b ≠ w.heap.size; omega), hc j hlt]
  exact hj
theorem ones_of (zs : List Int) : ∀ u ∈ zs.map (Value.int .i64), u.oneCell' = true := by
  intro u hu; obtain ⟨x, _, rfl⟩ := List.mem_map.1 hu; rfl
theorem OutR.of {B n : Nat} {w : World} {v : Value} {zs : List Int} (h : w.ownsRow B 2 1 v n ([] ++ zs.map (Value.int .i64))) (hn : n = zs.length) : OutR B w v zs := by
  subst hn; simpa [OutR] using h

set_option maxHeartbeats 800000 in
theorem l01Own_any (a : Option Addr) (zs : List Int) (ca lo tp : Nat) (w : World) (ha : RowIn lo tp w a zs) (ht : tp ≤ w.heap.size) (h0 : 0 < zs.length) (hs : zs.length ≤ 1048576) :
    Calls Tryz.prog 85 #[.slice a zs.length ca] w (NewR zs w) := by
  obtain ⟨i0, hi, hz0, hz1, hz2⟩ := info_parts info64
  rcases ha with h | ⟨b, o, rfl, _, hb, hc⟩
  · rw [h] at h0; simp at h0
  · have hbw : b < w.heap.size := Nat.lt_of_lt_of_le hb ht
    have HN := Lib.hid (news_of hc (.cells #[] 2) hbw)
    clear hc
    go_enter Tryz.func85, Tryz.ntmps85
    go_wp2_with (at_builtin; refine wpList_append_lies _ rfl _ _ 24 rfl w.heap.size 2 i0 (.int .i64 0) 1 8 Tryz.underlying24 hi hz0 hz1 hz2 rfl (by decide) _ 0 [] rfl (World.ownsRow_made w #[] 0 (Nat.le_refl _) (Nat.zero_le _) rfl) ⟨b, o, none⟩ zs.length ca (zs.map (Value.int .i64)) rfl (by simp) HN.out (ones_of zs) h0 (by unfold maxLen; omega) (by omega) (by simp) (w.heap.size + 1) (by simp) ?_; intro gg cap w1 hown1 hgrow hat hlt1)
    rw [Nat.zero_add] at hown1
    have HO : Hid (OutR w.heap.size w1 (.slice (some ⟨gg, 0, none⟩) zs.length cap) zs) := OutR.of hown1 rfl
    have HB : Hid (Below w.heap.size w w1) := ((Below.refl _ _).alloc (Nat.le_refl _) _).grown hgrow (by simp) (fun k hk => by cases hk; exact Nat.le_refl _)
    clear hown1 hgrow
    go_wp2
    go_ret
    exact HO.out.new HB.out

theorem rw_take {m : List (List Int)} {i j : Nat} (h : j < i) : rw' (m.take i) j = rw' m j := by
  simp only [rw', List.getD_eq_getElem?_getD, List.getElem?_take]
  rw [if_pos h]
theorem take_snoc' {m : List (List Int)} {i : Nat} (h : i < m.length) : m.take (i + 1) = m.take i ++ [rw' m i] := by
  rw [List.take_succ_eq_append_getElem h]
  congr 2
  simp [rw', h]
theorem OutM.nextT {B n : Nat} {w w2 w1 : World} {o : Obj} {v v' : Value} {m : List (List Int)} {vals : List Value} {r : Option Addr} {cp : Nat} (hn : n < m.length)
    (ho : w.ownsRow B 24 1 v n vals) (hr : ∀ i, i < n → ∃ r c', vals[i]? = some (.slice r (rw' (m.take n) i).length c') ∧ TagR B w.heap.size w r (rw' (m.take n) i))
    (hz : TagR w.heap.size w2.heap.size w2 r (rw' m n)) (hB : B ≤ w.heap.size) (h2 : Below w.heap.size w w2) (h1 : w1.ownsRow B 24 1 v' (n + 1) (vals ++ [.slice r (rw' m n).length cp])) (hg : (w2.alloc o).grownBy w1 v.ownBlock) : OutM B w1 v' (m.take (n + 1)) := by
  have hb : Below w2.heap.size w2 (w2.alloc o) := (Below.refl _ _).alloc (Nat.le_refl _) o
  have hl : (m.take n).length = n := by rw [List.length_take]; omega
  rw [take_snoc' hn]
  refine OutM.push (m := m.take n) (w := w2.alloc o) (vals := vals) (by rw [hl]; exact (ho.kept (below_grown h2) (by cases hv : v.ownBlock <;> simp)).alloc o) (fun i hi => ?_) (hz.below hb (Nat.le_refl _) hB hb.size) (c := cp) (by rw [hl]; exact h1) hg
  rw [hl] at hi
  obtain ⟨r', c', g1, g2⟩ := hr i hi
  exact ⟨r', c', g1, (g2.below h2 (Nat.le_refl _) (Nat.le_refl _) h2.size).below hb (Nat.le_refl _) (Nat.le_refl _) hb.size⟩

/-- A matrix appended row by row in new memory is handed back. -/
def NewO (m : List (List Int)) (w : World) (e : Ending) (w' : World) : Prop :=
  ∃ v, e = .returned v ∧ OutM w.heap.size w' v m ∧ Below w.heap.size w w'

set_option maxRecDepth 100000 in
set_option maxHeartbeats 1600000 in
theorem l01Own2_out (a : Option Addr) (m : List (List Int)) (ca lo tp : Nat) (w : World) (hm : MatIn lo tp w a m) (ht : tp ≤ w.heap.size) (hn : m.length ≤ 1024) (hc : ∀ i, i < m.length → 0 < (rw' m i).length ∧ (rw' m i).length ≤ 1024) :
    Calls Tryz.prog 52 #[.slice a m.length ca] w (NewO m w) := by
  obtain ⟨j0, kj, kz0, kz1, kz2⟩ := info_parts info_slice
  have HM := Lib.hid hm
  have HC := Lib.hid hc
  clear hm hc
  go_enter Tryz.func52, Tryz.ntmps52
  go_wp2
  go_loopw [3, 4] (fun v t wr => ∃ i : Nat, i ≤ m.length ∧ t = .int .i64 i ∧ OutM w.heap.size wr v (m.take i) ∧ Below w.heap.size w wr) (fun _ t _ => m.length - (intOf t).toNat)
  case atStart => exact ⟨0, Nat.zero_le _, rfl, OutM.start w _ _ (Nat.le_refl _) rfl, by ((repeat' (first | with_reducible exact Below.refl _ _ | (with_reducible refine Below.setCell ?_ ?_ _) | (with_reducible refine Below.alloc ?_ ?_ _) | (with_reducible refine Below.drew ?_))); all_goals (first | (simp; done) | omega | (simp; omega)))⟩
  case round =>
    obtain ⟨i, hi', rfl, ho, hbel⟩ := hrel
    have HO := Lib.hid ho
    have HBEL := Lib.hid hbel
    have hwz := hbel.size
    clear ho
    by_cases hlt : i < m.length
    · obtain ⟨b1, o1, r, c1, ha1, _, hb1, hr1, hrow⟩ := (HM.out.below hbel ht).row hlt
      subst ha1
      have HROW := Lib.hid hrow
      clear hrow hbel
      obtain ⟨vals, hvo, hvr⟩ := HO.out
      rw [List.length_take, Nat.min_eq_left hi'] at hvo hvr
      have HV := Lib.hid hvo
      have HVR := Lib.hid hvr
      clear hvo hvr
      go_wp2_with (first | (go_at_call 85; (with_reducible refine (l01Own_any _ _ _ lo tp _ HROW.out (by omega) (HC.out i hlt).1 (by have := (HC.out i hlt).2; omega)).mono ?_); rintro e w2 ⟨r2, k2, rfl, ho2, hb2⟩; have HO2 := Lib.hid ho2; have HB2 := Lib.hid hb2; have hz2 := hb2.size; have HV2 := Lib.hid (HV.out.kept (below_grown hb2) (by cases hv : Value.ownBlock u3 <;> simp)); clear ho2 hb2) | (at_builtin; refine wpList_append_lies _ rfl _ _ 28 rfl w.heap.size 24 j0 (.slice none 0 0) 1 24 Tryz.underlying28 kj kz0 kz1 kz2 rfl (by decide) u3 i vals rfl (HV2.out.alloc _) ⟨w2.heap.size, 0, none⟩ 1 1 [.slice r2 (rw' m i).length k2] rfl rfl (World.news_of_block (cs := #[.slice r2 (rw' m i).length k2]) (t := 24) (fr := (0, 0)) (heap_alloc_new w2 _)) (by simp [Value.oneCell']) (by omega) (by unfold maxLen; omega) (by omega) (by simp; omega) (w2.heap.size + 1) (by simp) ?_; intro gg cap w1 hown1 hgrow hat hlt1))
      go_wp2
      go_roundw
      case rel => exact ⟨i + 1, by omega, by go_num, OutM.nextT hlt HV.out HVR.out HO2.out hwz HB2.out hown1 hgrow, ((HBEL.out.trans (HB2.out.mono hwz)).alloc (by omega) _).grown hgrow (by simp; omega) (fun _ hk => (HV.out.lt _ hk).1)⟩
      case measure => simp [intOf]; omega
    · have hn : i = m.length := by omega
      subst hn
      have HT : Hid (m.take m.length = m) := by show m.take m.length = m; exact List.take_length
      have HF := HO.out
      rw [HT.out] at HF
      have HF := Lib.hid HF
      clear hbel
      go_wp2
      go_ret
      exact ⟨_, rfl, HF.out, HBEL.out⟩

theorem l01Own2_any (a : Option Addr) (m : List (List Int)) (ca lo tp : Nat) (w : World) (hm : MatIn lo tp w a m) (ht : tp ≤ w.heap.size) (hn : m.length ≤ 1024) (hc : ∀ i, i < m.length → 0 < (rw' m i).length ∧ (rw' m i).length ≤ 1024) :
    Calls Tryz.prog 52 #[.slice a m.length ca] w (NewM m w) := by
  refine (l01Own2_out a m ca lo tp w hm ht hn hc).mono ?_
  rintro e w' ⟨v, rfl, ho, hb⟩
  exact ho.new hb

theorem unit_tag (w : World) {n i : Nat} (hi : i < n) : TagR w.heap.size (w.alloc (.cells ((madeCells #[.int .i64 0] n).setIfInBounds i (.int .i64 1)) 2)).heap.size
    (w.alloc (.cells ((madeCells #[.int .i64 0] n).setIfInBounds i (.int .i64 1)) 2)) (some ⟨w.heap.size, 0, none⟩) (mkR n fun j => if i = j then 1 else 0) := by
  have hsz : ((madeCells #[.int .i64 0] n).setIfInBounds i (.int .i64 1) : Array Value).size = n := by simp [size_madeCells]
  have hr := World.rowIs_alloc w ((madeCells #[.int .i64 0] n).setIfInBounds i (.int .i64 1)) 2 (fun j => if j = i then .int .i64 1 else .int .i64 0) (fun j hj => by
    rw [hsz] at hj
    rw [Array.getElem?_setIfInBounds]
    by_cases e : j = i
    · subst e; simp [size_madeCells, hj]
    · rw [if_neg (fun h => e h.symm), if_neg e]; simp [madeCells, hj, Nat.mod_one])
  rw [hsz] at hr
  obtain ⟨cur, hb, _⟩ := id hr
  refine .inr ⟨_, 0, cur, rfl, Nat.le_refl _, hr.lt, hb, fun j hj => ?_⟩
  rw [mkR_len] at hj
  rw [Nat.zero_add, hr.cell hj, mkR_at _ hj]
  by_cases e : j = i
  · subst e; simp
  · rw [if_neg e, if_neg (fun h => e h.symm)]
end Go.Proofs.YtijklpcelbnnjaaGreat

namespace Go.Proofs.YtijklpcelbnnjaaGreat
open Go.RowKit
set_option linter.unusedVariables false

/-- A list of one's own, rewritten in place: what stands where. -/
structure RowOwn (w : World) (b o : Nat) (n : Nat) (f : Nat → Int) : Prop where
  cell : ∀ j, j < n → w.cell? ⟨b, o + j, none⟩ = some (.int .i64 (f j))
  free : ∀ j, j < n → w.frozen? ⟨b, o + j, none⟩ = false
theorem RowOwn.of {lo tp : Nat} {w : World} {a : Option Addr} {zs : List Int} (h : OwnR lo tp w a zs) (h0 : 0 < zs.length) : ∃ b o, a = some ⟨b, o, none⟩ ∧ lo ≤ b ∧ b < tp ∧ RowOwn w b o zs.length (fun j => zs.getD j 0) := by
  rcases h with h | ⟨b, o, ha, k0, k1, hc⟩
  · rw [h] at h0; simp at h0
  · exact ⟨b, o, ha, k0, k1, fun j hj => (hc j hj).1, fun j hj => (hc j hj).2⟩
theorem RowOwn.back {lo tp : Nat} {w : World} {b o : Nat} {zs : List Int} (h : RowOwn w b o zs.length (fun j => zs.getD j 0)) (h0 : lo ≤ b) (h1 : b < tp) : OwnR lo tp w (some ⟨b, o, none⟩) zs :=
  .inr ⟨b, o, rfl, h0, h1, fun j hj => ⟨h.cell j hj, h.free j hj⟩⟩
theorem RowOwn.step {w : World} {b o n i : Nat} {f g : Nat → Int} (h : RowOwn w b o n (fun j => if j < i then g j else f j)) (hi : i < n) (v : Value) (hv : v = .int .i64 (g i)) : RowOwn (w.setCell ⟨b, o + i, none⟩ v) b o n (fun j => if j < i + 1 then g j else f j) where
  cell j hj := by
    subst hv
    by_cases e : j = i
    · subst e; rw [if_pos (by omega)]; exact World.cell?_setCell_same w _ _ (h.cell j hj)
    · by_cases e2 : j < i
      · rw [if_pos (by omega)]; have h2 := h.cell j hj; rw [if_pos e2] at h2; exact (World.cell?_setCell_other _ _ _ _ (by first | (simp; done) | (simp; omega))).trans h2
      · rw [if_neg (by omega)]; have h2 := h.cell j hj; rw [if_neg e2] at h2; exact (World.cell?_setCell_other _ _ _ _ (by first | (simp; done) | (simp; omega))).trans h2
  free j hj := by simp [go_sem, h.free j hj]
theorem Wrote.same {b o n lo tp : Nat} {w w' : World} (h : Wrote b o n w w') (hb : b < lo ∨ tp ≤ b) : Same lo tp w w' := fun i i0 i1 => h.block i (by omega)
theorem RowOwn.drew {w : World} {b o n : Nat} {f : Nat → Int} (h : RowOwn w b o n f) : RowOwn w.drew b o n f := ⟨h.cell, h.free⟩

set_option maxRecDepth 100000 in
set_option maxHeartbeats 3200000 in
theorem scale_any (p k : Int) (b o n c : Nat) (f : Nat → Int) (w : World) (hp : prm p = true) (h : RowOwn w b o n f) (hn : n ≤ 100000) (hf : ∀ j, j < n → 0 ≤ f j ∧ f j < p) (k0 : 0 ≤ k) (k1 : k ≤ p) :
    Calls Tryz.prog 119 #[.int .i64 p, .slice (some ⟨b, o, none⟩) n c, .int .i64 k] w fun e w' => e = .returned (.tuple #[]) ∧ RowOwn w' b o n (fun j => f j * k % p) ∧ Wrote b o n w w' := by
  have hpb := prm_bd hp
  have H := Lib.hid h
  have HF := Lib.hid hf
  clear h hf hp
  go_enter Tryz.func119, Tryz.ntmps119
  go_wp2
  go_loopw [9] (fun t wr => ∃ i : Nat, i ≤ n ∧ t = .int .i64 i ∧ RowOwn wr b o n (fun j => if j < i then f j * k % p else f j) ∧ Wrote b o n w wr) (fun t _ => n - (intOf t).toNat)
  case atStart => exact ⟨0, Nat.zero_le _, rfl, ⟨fun j hj => by simpa using H.out.cell j hj, H.out.free⟩, Wrote.refl _ _ _ _⟩
  case round =>
    obtain ⟨i, hi, rfl, hr, hw⟩ := hrel
    have HR := Lib.hid hr
    have HW := Lib.hid hw
    by_cases hlt : i < n
    · have c0 := hr.cell i hlt
      rw [if_neg (Nat.lt_irrefl _)] at c0
      have f0 := hr.free i hlt
      obtain ⟨x0, x1⟩ := HF.out i hlt
      obtain ⟨x, hx⟩ : ∃ x, x = f i := ⟨_, rfl⟩
      rw [← hx] at c0 x0 x1
      have HX := Lib.hid hx
      have m0 : 0 ≤ x * k := Int.mul_nonneg x0 k0
      have m1 : x * k ≤ 13 * 13 := Int.le_trans (Int.mul_le_mul_of_nonneg_right (by omega : x ≤ 13) k0) (Int.mul_le_mul_of_nonneg_left (by omega) (by omega))
      have hi1 : (i : Int) < (n : Int) := by omega
      have e1 : IntKind.i64.wrap (x * k) = x * k := IntWalk.i64_in _ (by omega)
      have e3 : (x * k).tmod p = x * k % p := Int.tmod_eq_emod_of_nonneg (by omega)
      have hp0 : ¬ p = 0 := by omega
      have hp1 : (p == 0) = false := by simpa using hp0
      clear hr hw hx
      go_wp2
      clear e1 e3
      go_wp2
      go_roundw
      case rel => exact ⟨i + 1, by omega, by go_num, HR.out.step hlt _ (by rw [HX.out]), HW.out.set hlt _⟩
      case measure => simp [intOf]; omega
    · have hn : i = n := by omega
      subst hn
      have HE : Hid (RowOwn wr b o i (fun j => f j * k % p)) := ⟨fun j hj => by have := HR.out.cell j hj; rwa [if_pos hj] at this, HR.out.free⟩
      clear hr hw
      go_wp2
      go_end0
      exact ⟨rfl, HE.out, HW.out⟩

set_option maxRecDepth 100000 in
set_option maxHeartbeats 3200000 in
theorem addMultiple_any (p k : Int) (b o n c : Nat) (f : Nat → Int) (a : Option Addr) (z : List Int) (cz lo tp : Nat) (w : World) (hp : prm p = true) (h : RowOwn w b o n f) (hz : RowIn lo tp w a z) (hb : b < lo ∨ tp ≤ b) (hl : n ≤ z.length) (hn : z.length ≤ 100000) (hf : ∀ j, j < n → 0 ≤ f j ∧ f j < p) (hzn : Nums p z) (k0 : 0 ≤ k) (k1 : k ≤ p) :
    Calls Tryz.prog 44 #[.int .i64 p, .slice (some ⟨b, o, none⟩) n c, .int .i64 k, .slice a z.length cz] w fun e w' => e = .returned (.tuple #[]) ∧ RowOwn w' b o n (fun j => (f j + k * z.getD j 0) % p) ∧ Wrote b o n w w' := by
  have hpb := prm_bd hp
  have H := Lib.hid h
  have HF := Lib.hid hf
  have HZ := Lib.hid hz
  have HZN := Lib.hid hzn
  clear h hf hp hz hzn
  go_enter Tryz.func44, Tryz.ntmps44
  go_wp2
  go_loopw [11] (fun t wr => ∃ i : Nat, i ≤ n ∧ t = .int .i64 i ∧ RowOwn wr b o n (fun j => if j < i then (f j + k * z.getD j 0) % p else f j) ∧ Wrote b o n w wr) (fun t _ => n - (intOf t).toNat)
  case atStart => exact ⟨0, Nat.zero_le _, rfl, ⟨fun j hj => by simpa using H.out.cell j hj, H.out.free⟩, Wrote.refl _ _ _ _⟩
  case round =>
    obtain ⟨i, hi, rfl, hr, hw⟩ := hrel
    have HR := Lib.hid hr
    have HW := Lib.hid hw
    by_cases hlt : i < n
    · have c0 := hr.cell i hlt
      rw [if_neg (Nat.lt_irrefl _)] at c0
      have f0 := hr.free i hlt
      obtain ⟨b2, o2, ha2, l2, t2, hc2⟩ := (HZ.out.same (hw.same hb)).num (by omega : i < z.length)
      subst ha2
      obtain ⟨x0, x1⟩ := HF.out i hlt
      obtain ⟨y0, y1⟩ := HZN.out i (by omega)
      obtain ⟨x, hx⟩ : ∃ x, x = f i := ⟨_, rfl⟩
      obtain ⟨y, hy⟩ : ∃ y, y = z.getD i 0 := ⟨_, rfl⟩
      rw [← hx] at c0 x0 x1
      rw [← hy] at hc2 y0 y1
      have HX := Lib.hid hx
      have HY := Lib.hid hy
      have m0 : 0 ≤ k * y := Int.mul_nonneg k0 y0
      have m1 : k * y ≤ 13 * 13 := Int.le_trans (Int.mul_le_mul_of_nonneg_right (by omega : k ≤ 13) y0) (Int.mul_le_mul_of_nonneg_left (by omega) (by omega))
      have hi1 : (i : Int) < (n : Int) := by omega
      have hi2 : (i : Int) < (z.length : Int) := by omega
      have e1 : IntKind.i64.wrap (k * y) = k * y := IntWalk.i64_in _ (by omega)
      have e2 : IntKind.i64.wrap (x + k * y) = x + k * y := IntWalk.i64_in _ (by omega)
      have e3 : (x + k * y).tmod p = (x + k * y) % p := Int.tmod_eq_emod_of_nonneg (by omega)
      have hp0 : ¬ p = 0 := by omega
      have hp1 : (p == 0) = false := by simpa using hp0
      clear hr hw hx hy
      go_wp2
      go_region
      all_goals
        clear e1 e2 e3
        go_wp2
        go_roundw
        case rel => exact ⟨i + 1, by omega, by go_num, (HR.out.step hlt _ (by rw [HX.out, HY.out])).drew, (HW.out.set hlt _).drew⟩
        case measure => simp [intOf]; omega
    · have hn : i = n := by omega
      subst hn
      have HE : Hid (RowOwn wr b o i (fun j => (f j + k * z.getD j 0) % p)) := ⟨fun j hj => by have := HR.out.cell j hj; rwa [if_pos hj] at this, HR.out.free⟩
      clear hr hw
      go_wp2
      go_end0
      exact ⟨rfl, HE.out, HW.out⟩

end Go.Proofs.YtijklpcelbnnjaaGreat

namespace Go.Proofs.YtijklpcelbnnjaaGreat
open Go.RowKit Go.ChangeShapes Go.WideShapes
set_option linter.unusedVariables false

def IsMat (w : World) (a : Option Addr) (len : Nat) : Prop :=
  ∃ m : List (List Int), m.length = len ∧ MatIn 0 w.heap.size w a m ∧ len ≤ 9223372036854775807 ∧ ∀ i, i < m.length → (rw' m i).length ≤ 9223372036854775807
def IsLst (w : World) (a : Option Addr) (len : Nat) : Prop :=
  ∃ z : List Int, z.length = len ∧ RowIn 0 w.heap.size w a z ∧ len ≤ 9223372036854775807

theorem row_of {w : World} {x : Addr} {len : Nat} {zs : List Int} (hl : len ≤ zs.length) (h : ∀ i, i < zs.length → w.cell? (x.add i) = some (.int .i64 (zs.getD i 0))) : RowIn 0 w.heap.size w (some x) (zs.take len) := by
  by_cases h0 : len = 0
  · exact .inl (by rw [h0]; rfl)
  · obtain ⟨b, o, rfl, hc⟩ := ints_at h (by omega)
    have hlt : b < w.heap.size := World.block_lt_of_cell? w ⟨b, o + 0, none⟩ (hc 0 (by omega))
    refine .inr ⟨b, o, rfl, Nat.zero_le _, hlt, fun i hi => ?_⟩
    rw [List.length_take] at hi
    rw [hc i (by omega)]
    simp only [List.getD_eq_getElem?_getD, List.getElem?_take]
    rw [if_pos (by omega)]
theorem isLst_nil (w : World) : IsLst w none 0 := ⟨[], rfl, .inl rfl, by omega⟩
theorem isLst_of {w : World} {x : Addr} {len cap : Nat} {zs : List Int} (h1 : len ≤ cap) (h2 : cap ≤ maxLen) (h3 : zs.length = cap) (h : ∀ i, i < zs.length → w.cell? (x.add i) = some (.int .i64 (zs.getD i 0))) : IsLst w (some x) len := by
  unfold maxLen at h2
  exact ⟨zs.take len, by simp; omega, row_of (by omega) h, by omega⟩
theorem isMat_nil (w : World) : IsMat w none 0 := ⟨[], rfl, .inl rfl, by omega, fun i hi => by simp at hi⟩
theorem slice_at {w : World} {x : Addr} {v : Nat → Value} {n : Nat} (hn : 0 < n) (h : ∀ r, r < n → w.cell? (x.add r) = some (v r)) : ∃ b o, x = ⟨b, o, none⟩ ∧ ∀ r, r < n → w.cell? ⟨b, o + r, none⟩ = some (v r) := by
  obtain ⟨b, off, spot⟩ := x
  have hspot : spot = none := by simpa [Addr.add] using World.cell?_spot (h 0 hn)
  subst hspot
  exact ⟨b, off, rfl, fun j hj => by rw [← Go.WideShapes.add_plain]; exact h j hj⟩
theorem isMat_of {w : World} {x : Addr} {len cap : Nat} {A : Nat → Option Addr} {L C : Nat → Nat} {Z : Nat → List Int} (hl : len ≤ cap) (hm : cap ≤ maxLen)
    (h : ∀ r, r < cap → w.cell? (x.add r) = some (.slice (A r) (L r) (C r)) ∧ L r ≤ C r ∧ C r ≤ maxLen ∧ (Z r).length = C r ∧ (∀ n ∈ Z r, (Lit.int .i64 n).wf = true) ∧ (A r = none → C r = 0) ∧
        ∀ a', A r = some a' → 0 ≤ a'.block ∧ ∀ c, c < C r → w.cell? (a'.add c) = some (.int .i64 ((Z r).getD c 0))) : IsMat w (some x) len := by
  unfold maxLen at hm
  refine ⟨(List.range len).map fun r => (Z r).take (L r), by simp, ?_, by omega, fun i hi => ?_⟩
  · by_cases h0 : len = 0
    · subst h0; exact .inl rfl
    · obtain ⟨b, o, rfl, hc⟩ := slice_at (n := cap) (v := fun r => .slice (A r) (L r) (C r)) (by omega) (fun r hr => (h r hr).1)
      have hlt : b < w.heap.size := World.block_lt_of_cell? w ⟨b, o + 0, none⟩ (hc 0 (by omega))
      refine .inr ⟨b, o, rfl, Nat.zero_le _, hlt, fun i hi => ?_⟩
      simp only [List.length_map, List.length_range] at hi
      obtain ⟨_, r1, r2, r3, _, r5, r6⟩ := h i (by omega)
      have e : rw' ((List.range len).map fun r => (Z r).take (L r)) i = (Z i).take (L i) := by simp [rw', List.getD, hi]
      rw [e]
      have e2 : ((Z i).take (L i)).length = L i := by simp; omega
      rw [e2]
      refine ⟨A i, C i, hc i (by omega), ?_⟩
      cases hA : A i with
      | none =>
        have := r5 hA
        have h0 : L i = 0 := by omega
        exact .inl (by rw [h0]; rfl)
      | some a' => exact row_of (by omega) (fun c hc' => (r6 a' hA).2 c (by omega))
  · simp only [List.length_map, List.length_range] at hi
    obtain ⟨_, r1, r2, r3, _⟩ := h i (by omega)
    unfold maxLen at r2
    have e : rw' ((List.range len).map fun r => (Z r).take (L r)) i = (Z i).take (L i) := by simp [rw', List.getD, hi]
    rw [e]; simp; omega

end Go.Proofs.YtijklpcelbnnjaaGreat

namespace Go.Proofs.YtijklpcelbnnjaaGreat
open Go.RowKit
set_option linter.unusedVariables false

/-- The model hands back a matrix and a code. -/
def SpecM (R : List (List Int)) (C : Int) (w : World) (e : Ending) (w' : World) : Prop :=
  ∃ r c, e = .returned (.tuple #[.slice r R.length c, .int .i64 C]) ∧ MatIn w.heap.size w'.heap.size w' r R ∧ Below w.heap.size w w'
/-- The program hands back a matrix of its own and a code. -/
def ImplM (R : List (List Int)) (C : Int) (w : World) (e : Ending) (w' : World) : Prop :=
  ∃ r c, e = .returned (.tuple #[.slice r R.length c, .int .i64 C]) ∧ OwnM w.heap.size w'.heap.size w' r R ∧ Below w.heap.size w w'
def SpecR (R : List Int) (C : Int) (w : World) (e : Ending) (w' : World) : Prop :=
  ∃ r c, e = .returned (.tuple #[.slice r R.length c, .int .i64 C]) ∧ RowIn w.heap.size w'.heap.size w' r R ∧ Below w.heap.size w w'
def ImplR (R : List Int) (C : Int) (w : World) (e : Ending) (w' : World) : Prop :=
  ∃ r c, e = .returned (.tuple #[.slice r R.length c, .int .i64 C]) ∧ OwnR w.heap.size w'.heap.size w' r R ∧ Below w.heap.size w w'
def RetB (V : Bool) (C : Int) (w : World) (e : Ending) (w' : World) : Prop := e = .returned (.tuple #[.bool V, .int .i64 C]) ∧ Below w.heap.size w w'
end Go.Proofs.YtijklpcelbnnjaaGreat

namespace Go.Proofs.YtijklpcelbnnjaaGreat
open Go.RowKit Go.ChangeShapes Go.WideShapes
set_option linter.unusedVariables false

/-- Blocks outside lo up to hi are as they were; there may be new ones. -/
structure OffG (lo hi : Nat) (w w' : World) : Prop where
  os : w'.os = w.os
  tape : w'.tape = w.tape
  output : w'.output = w.output
  size : w.heap.size ≤ w'.heap.size
  block : ∀ k, k < w.heap.size → (k < lo ∨ hi ≤ k) → w'.heap[k]? = w.heap[k]?
theorem OffG.same {lo hi lo' hi' : Nat} {w w' : World} (h : OffG lo hi w w') (k : hi' ≤ lo ∨ hi ≤ lo') (hz : hi' ≤ w.heap.size) : Same lo' hi' w w' := fun i i0 i1 => h.block i (by omega) (by omega)
theorem OffG.below {B lo hi : Nat} {w w' : World} (h : OffG lo hi w w') (hB : B ≤ lo) (hw : lo ≤ w.heap.size) : Below B w w' := ⟨h.os, h.tape, h.output, h.size, fun k hk => h.block k (by omega) (by omega)⟩

theorem OffG.cell {lo hi : Nat} {w w' : World} (h : OffG lo hi w w') {p : Addr} (k0 : p.block < w.heap.size) (k : p.block < lo ∨ hi ≤ p.block) : w'.cell? p = w.cell? p := World.cell?_of_block (w := w) (h.block p.block k0 k)
theorem Off.cell {lo hi : Nat} {w w' : World} (h : Off lo hi w w') {p : Addr} (k : p.block < lo ∨ hi ≤ p.block) : w'.cell? p = w.cell? p := World.cell?_of_block (w := w) (h.block p.block k)
theorem below_alloc (w : World) (o : Obj) : Below w.heap.size w (w.alloc o) := (Below.refl _ _).alloc (Nat.le_refl _) o
theorem below_drew (w : World) : Below w.heap.size w w.drew := (Below.refl _ _).drew
theorem size_alloc (w : World) (o : Obj) : w.heap.size ≤ (w.alloc o).heap.size := by simp
theorem size_drew (w : World) : w.heap.size ≤ w.drew.heap.size := Nat.le_refl _
theorem lt_alloc (w : World) (o : Obj) : w.heap.size < (w.alloc o).heap.size := by simp
theorem nw0 (w : World) (x y : Value) (t : TypeId) : (w.alloc (.cells #[x, y] t)).cell? ⟨w.heap.size, 0, none⟩ = some x := by simp [go_sem]
theorem nw1 (w : World) (x y : Value) (t : TypeId) : (w.alloc (.cells #[x, y] t)).cell? ⟨w.heap.size, 1, none⟩ = some y := by simp [go_sem]

theorem OwnR.mono' {lo hi lo' hi' : Nat} {w : World} {a : Option Addr} {zs : List Int} (h : OwnR lo hi w a zs) (h0 : lo' ≤ lo) (h1 : hi ≤ hi') : OwnR lo' hi' w a zs := by
  rcases h with h | ⟨b, o, ha, k0, k1, hc⟩
  · exact .inl h
  · exact .inr ⟨b, o, ha, by omega, by omega, hc⟩
end Go.Proofs.YtijklpcelbnnjaaGreat

namespace Go.Proofs.YtijklpcelbnnjaaGreat
open Go.RowKit
set_option linter.unusedVariables false

theorem Src.lt {w : World} {b : Nat} {a : Option Addr} {len cap : Nat} {zs : List Int} (h : Src w b a len cap zs) : b < w.heap.size := by
  obtain ⟨k, x, s⟩ := h
  exact s.lt
/-- Changes at a later block leave the source as it is. -/
theorem Src.far {w w' : World} {b k : Nat} {a : Option Addr} {len cap : Nat} {zs : List Int} (h : Src w b a len cap zs) (ho : Only k w w') (hk : b < k) : Src w' b a len cap zs := by
  obtain ⟨n, x, lt, c0, c1, c2, f1, f2, le, sm, by_⟩ := h
  have hne : b ≠ k := by omega
  refine ⟨n, x, Nat.lt_of_lt_of_le lt ho.size, (ho.cell (p := ⟨b, 0, none⟩) lt hne).trans c0, (ho.cell (p := ⟨b, 1, none⟩) lt hne).trans c1, (ho.cell (p := ⟨b, 2, none⟩) lt hne).trans c2, (ho.frozen (p := ⟨b, 1, none⟩) lt hne).trans f1, (ho.frozen (p := ⟨b, 2, none⟩) lt hne).trans f2, le, sm, ?_⟩
  rcases by_ with h | ⟨xb, xo, ha, hb, hs, hc⟩
  · exact .inl h
  · exact .inr ⟨xb, xo, ha, hb, Nat.lt_of_lt_of_le hs ho.size, fun i hi => ⟨(hc i hi).1, (ho.cell (p := ⟨xb, xo + i, none⟩) hs (by show xb ≠ k; omega)).trans (hc i hi).2⟩⟩
theorem only_of {w w' : World} {row : Option Nat} (h : w.grownBy w' row) {B : Nat} (hr : ∀ k, row = some k → B ≤ k) (hB : B ≤ w.heap.size) : ∃ k, B ≤ k ∧ Only k w w' := by
  cases row with
  | none => exact ⟨w.heap.size, hB, h.os, h.tape, h.output, h.size, fun k hk _ => h.block k hk (by simp)⟩
  | some g => exact ⟨g, hr g rfl, h.os, h.tape, h.output, h.size, fun k hk hne => h.block k hk (by simp; exact fun e => hne e)⟩
theorem Src.grown {w w' : World} {b : Nat} {a : Option Addr} {len cap : Nat} {zs : List Int} {row : Option Nat} (h : Src w b a len cap zs) (hg : w.grownBy w' row) (hr : ∀ k, row = some k → b < k) : Src w' b a len cap zs := by
  obtain ⟨k, hk, ho⟩ := only_of hg (B := b + 1) (fun k e => hr k e) h.lt
  exact h.far ho hk
theorem Only.grown {b : Nat} {u v w : World} {row : Option Nat} (h : Only b u v) (hg : v.grownBy w row) (hr : ∀ k, row = some k → u.heap.size ≤ k) : Only b u w :=
  ⟨hg.os.trans h.os, hg.tape.trans h.tape, hg.output.trans h.output, Nat.le_trans h.size hg.size, fun k hk hne => (hg.block k (Nat.lt_of_lt_of_le hk h.size) (by
    cases row with
    | none => simp
    | some g => simp; intro e; have := hr g rfl; omega)).trans (h.block k hk hne)⟩
theorem OutR.only {B k : Nat} {w w' : World} {v : Value} {zs : List Int} (h : OutR B w v zs) (ho : Only k w w') (hk : k < B) : OutR B w' v zs :=
  World.ownsRow.kept h ⟨ho.os, ho.tape, ho.output, ho.size, fun j hj hne => ho.block j hj (fun e => hne (by rw [e]))⟩ (by
    cases hv : v.ownBlock with
    | none => exact .inl rfl
    | some g => exact .inr (by intro e; injection e with e; have := (World.ownsRow.lt h g hv).1; omega))
theorem OutR.push {B : Nat} {w : World} {v : Value} {X : List Int} {x : Int} (h : w.ownsRow B 2 1 v (X.length + 1) (X.map (Value.int .i64) ++ [.int .i64 x])) : OutR B w v (X ++ [x]) := by
  unfold OutR
  rw [List.length_append, List.map_append]
  exact h

/-- One of the numbers of a list, as it lies in memory. -/
theorem pick_in (c m : Nat) (ls : List Int) (b : Nat) (a : Option Addr) (len cap : Nat) (zs : List Int) (w : World) (hs : Src w b a len cap zs) (hrow : RowAt w c ls) (hl : ls.length = m) (m1 : 1 ≤ m) (m2 : m ≤ 1000) (hc : c < w.heap.size) (hne : c ≠ b) :
    Calls Tryz.prog 64 #[.pointer (some ⟨b, 0, none⟩), .slice (some ⟨c, 0, none⟩) m m] w (Drawn (fun x => x ∈ ls) b a len cap zs w) := by
  have HS := Lib.hid hs
  have HR := Lib.hid hrow
  have HL := Lib.hid hl
  clear hs hrow hl
  go_enter Tryz.func64, Tryz.ntmps64
  go_wp2_with (go_at_call 37; refine (next_any (m : Int) b a len cap zs _ HS.out).mono ?_; rintro e w1 ⟨x, rfl, hx, ho, hs1⟩; obtain ⟨hx0, hx1⟩ := hx (by omega); obtain ⟨j, rfl⟩ := Int.eq_ofNat_of_zero_le hx0; have hcell := (ho.cell (p := ⟨c, j, none⟩) hc hne).trans (HR.out j (by rw [HL.out]; omega)); have HJ : Hid (ls.getD j 0 ∈ ls) := (by show _ ∈ _; have hj : j < ls.length := (by rw [HL.out]; omega); rw [getD_at hj]; exact List.getElem_mem hj); clear hx)
  go_ret
  exact ⟨_, rfl, HJ.out, ho, hs1⟩

/-- A list that has been drawn: new, growing on. -/
def DrawnO (Q : List Int → Prop) (b : Nat) (a : Option Addr) (len cap : Nat) (zs : List Int) (w : World) (e : Ending) (w' : World) : Prop :=
  ∃ v X, e = .returned v ∧ Q X ∧ OutR w.heap.size w' v X ∧ Only b w w' ∧ Src w' b a len cap zs
/-- .. to be read. -/
def DrawnR (Q : List Int → Prop) (b : Nat) (a : Option Addr) (len cap : Nat) (zs : List Int) (w : World) (e : Ending) (w' : World) : Prop :=
  ∃ r c X, e = .returned (.slice r X.length c) ∧ Q X ∧ RowIn w.heap.size w'.heap.size w' r X ∧ Only b w w' ∧ Src w' b a len cap zs

end Go.Proofs.YtijklpcelbnnjaaGreat

namespace Go.Proofs.YtijklpcelbnnjaaGreat
open Go.RowKit
set_option linter.unusedVariables false

theorem rowOwn_in {lo tp : Nat} {w : World} {b o n : Nat} {f : Nat → Int} (h : RowOwn w b o n f) (h0 : lo ≤ b) (h1 : b < tp) : RowIn lo tp w (some ⟨b, o, none⟩) (mkR n f) :=
  .inr ⟨b, o, rfl, h0, h1, fun j hj => by
    rw [mkR_len] at hj
    rw [mkR_at _ hj]
    exact h.cell j hj⟩
theorem rowOwn_stay {w w' : World} {b o n : Nat} {f : Nat → Int} (h : RowOwn w b o n f) (e : w'.heap[b]? = w.heap[b]?) : RowOwn w' b o n f :=
  ⟨fun j hj => (World.cell?_of_block (w := w) (a := ⟨b, o + j, none⟩) e).trans (h.cell j hj), fun j hj => (World.frozen?_of_block (w := w) (a := ⟨b, o + j, none⟩) e).trans (h.free j hj)⟩
theorem rowOwn_put {w : World} {b o n : Nat} {f : Nat → Int} (h : RowOwn w b o n f) {j : Nat} (hj : j < n) (v : Int) : RowOwn (w.setCell ⟨b, o + j, none⟩ (.int .i64 v)) b o n (fun i => if i = j then v else f i) where
  cell i hi := by
    by_cases e : i = j
    · subst e; rw [if_pos rfl]; exact World.cell?_setCell_same w _ _ (h.cell i hi)
    · rw [if_neg e]; exact (World.cell?_setCell_other _ _ _ _ (by first | (simp; done) | (simp; omega))).trans (h.cell i hi)
  free i hi := by simp [go_sem, h.free i hi]
theorem rowOwn_put0 {w : World} {b o n : Nat} {f : Nat → Int} (h : RowOwn w b o n f) (hn : 0 < n) (v : Int) : RowOwn (w.setCell ⟨b, o, none⟩ (.int .i64 v)) b o n (fun i => if i = 0 then v else f i) := rowOwn_put h (j := 0) hn v
theorem heap_other (w : World) (o : Obj) {k : Nat} (h : k < w.heap.size) : (w.alloc o).heap[k]? = w.heap[k]? := (below_alloc w o).block k h

end Go.Proofs.YtijklpcelbnnjaaGreat
