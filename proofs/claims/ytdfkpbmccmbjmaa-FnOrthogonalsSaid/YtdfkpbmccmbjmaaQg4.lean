/-
  Matrices with rows of one length, and their products with vectors in the program: contracts.
  Conditions: the matrices are rows of rows of known cells with numbers of the prime; their sizes fit.
  Copies of lists and matrices in the model, copies of lists in the program, and unit matrices in both: contracts.
  Conditions: the lists are rows of known cells, not empty.
  The model's reduced bases: a contract.
  Conditions: the list of vectors is a row of rows of known cells with numbers of the prime, all of one length.
  The program's opposites and first numbers: contracts.
  The program's search among the pivots: a contract.
-/
import Derived.Test.YtdfkpbmccmbjmaaQg3
import Derived.Lib.SliceRun
import Derived.Test.YtdfkpbmccmbjmaaQg2
import Derived.Deep.RegionHeld3
import Derived.BigQuiet
import Derived.Deep.QuietTactic
import Derived.Deep.Draws
namespace Go.Proofs.Ytdfkpbmccmbjmaa
open Go.RowKit Go.ChangeShapes Go.WideShapes
set_option linter.unusedVariables false

/-- Rows of c numbers of the prime, at most 1024 of at most 1024. -/
structure Rect (p : Int) (m : List (List Int)) (c : Nat) : Prop where
  rows : m.length ≤ 1024
  cols : c ≤ 1024
  len : ∀ i, i < m.length → (rw' m i).length = c
  num : ∀ i, i < m.length → Nums p (rw' m i)
theorem Rect.at {p : Int} {m : List (List Int)} {c : Nat} (h : Rect p m c) {i j : Nat} (hi : i < m.length) (hj : j < c) : 0 ≤ at' m i j ∧ at' m i j < p := h.num i hi j (by rw [h.len i hi]; exact hj)
theorem Rect.tr {p : Int} {m : List (List Int)} {c : Nat} (h : Rect p m c) (hc : c = (rw' m 0).length) : Rect p (trM m) m.length where
  rows := by unfold trM; rw [mk_len, ← hc]; exact h.cols
  cols := h.rows
  len i hi := by unfold trM at hi ⊢; rw [mk_len] at hi; exact mk_rowLen _ hi
  num i hi j hj := by
    unfold trM at hi hj ⊢
    rw [mk_len] at hi
    rw [mk_rowLen _ hi] at hj
    have : (rw' (Go.Proofs.Ytdfkpbmccmbjmaa.mk (rw' m 0).length m.length fun k i => at' m i k) i).getD j 0 = at' m j i := mk_at _ hi hj
    rw [this]; exact h.at hj (by rw [hc]; exact hi)

end Go.Proofs.Ytdfkpbmccmbjmaa

namespace Go.Proofs.Ytdfkpbmccmbjmaa
open Go.RowKit Go.ChangeShapes Go.WideShapes
set_option linter.unusedVariables false

theorem news_of {w : World} {b o : Nat} {zs : List Int} (hc : ∀ j, j < zs.length → w.cell? ⟨b, o + j, none⟩ = some (.int .i64 (zs.getD j 0))) (x : Obj) (hb : b < w.heap.size) :
    ∀ j u, (zs.map (Value.int .i64))[j]? = some u → (w.alloc x).cell? ((⟨b, o, none⟩ : Addr).add j) = some u := by
  intro j u hj
  have hlt : j < zs.length := by
    have := (List.getElem?_eq_some_iff.1 hj).1
    simpa using this
  rw [Addr.add_lit]
  have e : (zs.map (Value.int .i64))[j]? = some (.int .i64 (zs.getD j 0)) := by simp [hlt, List.getD]
  rw [e] at hj
  rw [World.cell?_alloc_old _ _ _ (by show b ≠ w.heap.size; omega), hc j hlt]
  exact hj
theorem ones_of (zs : List Int) : ∀ u ∈ zs.map (Value.int .i64), u.oneCell' = true := by
  intro u hu; obtain ⟨x, _, rfl⟩ := List.mem_map.1 hu; rfl
theorem OutR.of {B n : Nat} {w : World} {v : Value} {zs : List Int} (h : w.ownsRow B 2 1 v n ([] ++ zs.map (Value.int .i64))) (hn : n = zs.length) : OutR B w v zs := by
  subst hn; simpa [OutR] using h

set_option maxHeartbeats 800000 in
theorem l01Own_any (a : Option Addr) (zs : List Int) (ca lo tp : Nat) (w : World) (ha : RowIn lo tp w a zs) (ht : tp ≤ w.heap.size) (h0 : 0 < zs.length) (hs : zs.length ≤ 1048576) :
    Calls Try.prog 75 #[.slice a zs.length ca] w (NewR zs w) := by
  obtain ⟨i0, hi, hz0, hz1, hz2⟩ := info_parts info64
  rcases ha with h | ⟨b, o, rfl, _, hb, hc⟩
  · rw [h] at h0; simp at h0
  · have hbw : b < w.heap.size := Nat.lt_of_lt_of_le hb ht
    have HN := Lib.hid (news_of hc (.cells #[] 2) hbw)
    clear hc
    go_enter Try.func75, Try.ntmps75
    go_wp2_with (at_builtin; refine wpList_append_lies _ rfl _ _ 24 rfl w.heap.size 2 i0 (.int .i64 0) 1 8 Try.underlying24 hi hz0 hz1 hz2 rfl (by decide) _ 0 [] rfl (World.ownsRow_made w #[] 0 (Nat.le_refl _) (Nat.zero_le _) rfl) ⟨b, o, none⟩ zs.length ca (zs.map (Value.int .i64)) rfl (by simp) HN.out (ones_of zs) h0 (by unfold maxLen; omega) (by omega) (by simp) (w.heap.size + 1) (by simp) ?_; intro gg cap w1 hown1 hgrow hat hlt1)
    rw [Nat.zero_add] at hown1
    have HO : Hid (OutR w.heap.size w1 (.slice (some ⟨gg, 0, none⟩) zs.length cap) zs) := OutR.of hown1 rfl
    have HB : Hid (Below w.heap.size w w1) := ((Below.refl _ _).alloc (Nat.le_refl _) _).grown hgrow (by simp) (fun k hk => by cases hk; exact Nat.le_refl _)
    clear hown1 hgrow
    go_wp2
    go_ret
    exact HO.out.new HB.out

theorem rw_take {m : List (List Int)} {i j : Nat} (h : j < i) : rw' (m.take i) j = rw' m j := by
  simp only [rw', List.getD_eq_getElem?_getD, List.getElem?_take]
  rw [if_pos h]
theorem take_snoc' {m : List (List Int)} {i : Nat} (h : i < m.length) : m.take (i + 1) = m.take i ++ [rw' m i] := by
  rw [List.take_succ_eq_append_getElem h]
  congr 2
  simp [rw', h]
theorem OutM.nextT {B n : Nat} {w w2 w1 : World} {o : Obj} {v v' : Value} {m : List (List Int)} {vals : List Value} {r : Option Addr} {cp : Nat} (hn : n < m.length)
    (ho : w.ownsRow B 24 1 v n vals) (hr : ∀ i, i < n → ∃ r c', vals[i]? = some (.slice r (rw' (m.take n) i).length c') ∧ TagR B w.heap.size w r (rw' (m.take n) i))
    (hz : TagR w.heap.size w2.heap.size w2 r (rw' m n)) (hB : B ≤ w.heap.size) (h2 : Below w.heap.size w w2) (h1 : w1.ownsRow B 24 1 v' (n + 1) (vals ++ [.slice r (rw' m n).length cp])) (hg : (w2.alloc o).grownBy w1 v.ownBlock) : OutM B w1 v' (m.take (n + 1)) := by
  have hb : Below w2.heap.size w2 (w2.alloc o) := (Below.refl _ _).alloc (Nat.le_refl _) o
  have hl : (m.take n).length = n := by rw [List.length_take]; omega
  rw [take_snoc' hn]
  refine OutM.push (m := m.take n) (w := w2.alloc o) (vals := vals) (by rw [hl]; exact (ho.kept (below_grown h2) (by cases hv : v.ownBlock <;> simp)).alloc o) (fun i hi => ?_) (hz.below hb (Nat.le_refl _) hB hb.size) (c := cp) (by rw [hl]; exact h1) hg
  rw [hl] at hi
  obtain ⟨r', c', g1, g2⟩ := hr i hi
  exact ⟨r', c', g1, (g2.below h2 (Nat.le_refl _) (Nat.le_refl _) h2.size).below hb (Nat.le_refl _) (Nat.le_refl _) hb.size⟩

/-- A matrix appended row by row in new memory is handed back. -/
def NewO (m : List (List Int)) (w : World) (e : Ending) (w' : World) : Prop :=
  ∃ v, e = .returned v ∧ OutM w.heap.size w' v m ∧ Below w.heap.size w w'

set_option maxRecDepth 100000 in
set_option maxHeartbeats 1600000 in
theorem l01Own2_out (a : Option Addr) (m : List (List Int)) (ca lo tp : Nat) (w : World) (hm : MatIn lo tp w a m) (ht : tp ≤ w.heap.size) (hn : m.length ≤ 1024) (hc : ∀ i, i < m.length → 0 < (rw' m i).length ∧ (rw' m i).length ≤ 1024) :
    Calls Try.prog 56 #[.slice a m.length ca] w (NewO m w) := by
  obtain ⟨j0, kj, kz0, kz1, kz2⟩ := info_parts info_slice
  have HM := Lib.hid hm
  have HC := Lib.hid hc
  clear hm hc
  go_enter Try.func56, Try.ntmps56
  go_wp2
  go_loopw [3, 4] (fun v t wr => ∃ i : Nat, i ≤ m.length ∧ t = .int .i64 i ∧ OutM w.heap.size wr v (m.take i) ∧ Below w.heap.size w wr) (fun _ t _ => m.length - (intOf t).toNat)
  case atStart => exact ⟨0, Nat.zero_le _, rfl, OutM.start w _ _ (Nat.le_refl _) rfl, by ((repeat' (first | with_reducible exact Below.refl _ _ | (with_reducible refine Below.setCell ?_ ?_ _) | (with_reducible refine Below.alloc ?_ ?_ _) | (with_reducible refine Below.drew ?_))); all_goals (first | (simp; done) | omega | (simp; omega)))⟩
  case round =>
    obtain ⟨i, hi', rfl, ho, hbel⟩ := hrel
    have HO := Lib.hid ho
    have HBEL := Lib.hid hbel
    have hwz := hbel.size
    clear ho
    by_cases hlt : i < m.length
    · obtain ⟨b1, o1, r, c1, ha1, _, hb1, hr1, hrow⟩ := (HM.out.below hbel ht).row hlt
      subst ha1
      have HROW := Lib.hid hrow
      clear hrow hbel
      obtain ⟨vals, hvo, hvr⟩ := HO.out
      rw [List.length_take, Nat.min_eq_left hi'] at hvo hvr
      have HV := Lib.hid hvo
      have HVR := Lib.hid hvr
      clear hvo hvr
      go_wp2_with (first | (go_at_call 75; (with_reducible refine (l01Own_any _ _ _ lo tp _ HROW.out (by omega) (HC.out i hlt).1 (by have := (HC.out i hlt).2; omega)).mono ?_); rintro e w2 ⟨r2, k2, rfl, ho2, hb2⟩; have HO2 := Lib.hid ho2; have HB2 := Lib.hid hb2; have hz2 := hb2.size; have HV2 := Lib.hid (HV.out.kept (below_grown hb2) (by cases hv : Value.ownBlock u3 <;> simp)); clear ho2 hb2) | (at_builtin; refine wpList_append_lies _ rfl _ _ 27 rfl w.heap.size 24 j0 (.slice none 0 0) 1 24 Try.underlying27 kj kz0 kz1 kz2 rfl (by decide) u3 i vals rfl (HV2.out.alloc _) ⟨w2.heap.size, 0, none⟩ 1 1 [.slice r2 (rw' m i).length k2] rfl rfl (World.news_of_block (cs := #[.slice r2 (rw' m i).length k2]) (t := 24) (fr := (0, 0)) (heap_alloc_new w2 _)) (by simp [Value.oneCell']) (by omega) (by unfold maxLen; omega) (by omega) (by simp; omega) (w2.heap.size + 1) (by simp) ?_; intro gg cap w1 hown1 hgrow hat hlt1))
      go_wp2
      go_roundw
      case rel => exact ⟨i + 1, by omega, by go_num, OutM.nextT hlt HV.out HVR.out HO2.out hwz HB2.out hown1 hgrow, ((HBEL.out.trans (HB2.out.mono hwz)).alloc (by omega) _).grown hgrow (by simp; omega) (fun _ hk => (HV.out.lt _ hk).1)⟩
      case measure => simp [intOf]; omega
    · have hn : i = m.length := by omega
      subst hn
      have HT : Hid (m.take m.length = m) := by show m.take m.length = m; exact List.take_length
      have HF := HO.out
      rw [HT.out] at HF
      have HF := Lib.hid HF
      clear hbel
      go_wp2
      go_ret
      exact ⟨_, rfl, HF.out, HBEL.out⟩

theorem l01Own2_any (a : Option Addr) (m : List (List Int)) (ca lo tp : Nat) (w : World) (hm : MatIn lo tp w a m) (ht : tp ≤ w.heap.size) (hn : m.length ≤ 1024) (hc : ∀ i, i < m.length → 0 < (rw' m i).length ∧ (rw' m i).length ≤ 1024) :
    Calls Try.prog 56 #[.slice a m.length ca] w (NewM m w) := by
  refine (l01Own2_out a m ca lo tp w hm ht hn hc).mono ?_
  rintro e w' ⟨v, rfl, ho, hb⟩
  exact ho.new hb

theorem unit_tag (w : World) {n i : Nat} (hi : i < n) : TagR w.heap.size (w.alloc (.cells ((madeCells #[.int .i64 0] n).setIfInBounds i (.int .i64 1)) 2)).heap.size
    (w.alloc (.cells ((madeCells #[.int .i64 0] n).setIfInBounds i (.int .i64 1)) 2)) (some ⟨w.heap.size, 0, none⟩) (mkR n fun j => if i = j then 1 else 0) := by
  have hsz : ((madeCells #[.int .i64 0] n).setIfInBounds i (.int .i64 1) : Array Value).size = n := by simp [size_madeCells]
  have hr := World.rowIs_alloc w ((madeCells #[.int .i64 0] n).setIfInBounds i (.int .i64 1)) 2 (fun j => if j = i then .int .i64 1 else .int .i64 0) (fun j hj => by
    rw [hsz] at hj
    rw [Array.getElem?_setIfInBounds]
    by_cases e : j = i
    · subst e; simp [size_madeCells, hj]
    · rw [if_neg (fun h => e h.symm), if_neg e]; simp [madeCells, hj, Nat.mod_one])
  rw [hsz] at hr
  obtain ⟨cur, hb, _⟩ := id hr
  refine .inr ⟨_, 0, cur, rfl, Nat.le_refl _, hr.lt, hb, fun j hj => ?_⟩
  rw [mkR_len] at hj
  rw [Nat.zero_add, hr.cell hj, mkR_at _ hj]
  by_cases e : j = i
  · subst e; simp
  · rw [if_neg e, if_neg (fun h => e h.symm)]
theorem alloc2_new (w : World) (o o' : Obj) : ((w.alloc o).alloc o').heap[w.heap.size + 1]? = some o' := by
  have h := heap_alloc_new (w.alloc o) o'
  simpa using h

set_option maxRecDepth 100000 in
set_option maxHeartbeats 1600000 in
theorem l02Unit_any (n : Nat) (w : World) (hn : n ≤ 1024) :
    Calls Try.prog 41 #[.int .i64 n] w (NewM (oneM n) w) := by
  obtain ⟨j0, kj, kz0, kz1, kz2⟩ := info_parts info_slice
  have hmk := fun W => run_make_row' (P := Try.prog) 24 2 (.int .i64 0) 8 Try.underlying24 info64 rfl .i64 .i64 n (by omega) (by omega) W
  have HMK := Lib.hid hmk
  clear hmk
  go_enter Try.func41, Try.ntmps41
  go_wp2
  go_loopw [3, 4] (fun v t wr => ∃ i : Nat, i ≤ n ∧ t = .int .i64 i ∧ OutM w.heap.size wr v (mk i n fun i j => if i = j then 1 else 0) ∧ Below w.heap.size w wr) (fun _ t _ => n - (intOf t).toNat)
  case atStart => exact ⟨0, Nat.zero_le _, rfl, OutM.start w _ _ (Nat.le_refl _) rfl, by ((repeat' (first | with_reducible exact Below.refl _ _ | (with_reducible refine Below.setCell ?_ ?_ _) | (with_reducible refine Below.alloc ?_ ?_ _) | (with_reducible refine Below.drew ?_))); all_goals (first | (simp; done) | omega | (simp; omega)))⟩
  case round =>
    obtain ⟨i, hi', rfl, ho, hbel⟩ := hrel
    have HO := Lib.hid ho
    have HBEL := Lib.hid hbel
    have hwz := hbel.size
    clear ho hbel
    by_cases hlt : i < n
    · obtain ⟨vals, hvo, hvr⟩ := HO.out
      rw [mk_len] at hvo hvr
      have HV := Lib.hid hvo
      have HVR := Lib.hid hvr
      have hmk := HMK.out
      have g0 := made_cell wr (.int .i64 0) n 2 hlt
      have f0 : (wr.alloc (.cells (madeCells #[.int .i64 0] n) 2)).frozen? ⟨wr.heap.size, i, none⟩ = false := by simp [go_sem]
      have HT := Lib.hid (unit_tag wr hlt)
      clear hvo hvr
      go_wp2_with (at_builtin; refine wpList_append_lies _ rfl _ _ 27 rfl w.heap.size 24 j0 (.slice none 0 0) 1 24 Try.underlying27 kj kz0 kz1 kz2 rfl (by decide) u3 i vals rfl ((HV.out.alloc _).alloc _) ⟨wr.heap.size + 1, 0, none⟩ 1 1 [.slice (some ⟨wr.heap.size, 0, none⟩) n n] rfl rfl (World.news_of_block (cs := #[.slice (some ⟨wr.heap.size, 0, none⟩) n n]) (t := 24) (fr := (0, 0)) (alloc2_new wr _ _)) (by simp [Value.oneCell']) (by omega) (by unfold maxLen; omega) (by omega) (by simp; omega) (wr.heap.size + 2) (by simp) ?_; intro gg cap w1 hown1 hgrow hat hlt1)
      go_wp2
      go_roundw
      case rel => exact ⟨i + 1, by omega, by go_num, OutM.next (HV.out.alloc _) (fun j hj => by
          obtain ⟨r', c', g1, g2⟩ := HVR.out j hj
          exact ⟨r', c', g1, g2.below ((Below.refl _ _).alloc (Nat.le_refl _) _) (Nat.le_refl _) (Nat.le_refl _) (by simp)⟩) HT.out rfl hwz hown1 hgrow, ((HBEL.out.alloc hwz _).alloc (by simp; omega) _).grown hgrow (by simp; omega) (fun _ hk => (HV.out.lt _ hk).1)⟩
      case measure => simp [intOf]; omega
    · have hn : i = n := by omega
      subst hn
      go_wp2
      go_ret
      exact HO.out.new HBEL.out

end Go.Proofs.Ytdfkpbmccmbjmaa

namespace Go.Proofs.Ytdfkpbmccmbjmaa
open Go.RowKit
set_option linter.unusedVariables false

/-- A reduced basis in new memory is handed back. -/
def NewB (p : Int) (c : Nat) (A : List (List Int)) (w : World) (e : Ending) (w' : World) : Prop :=
  ∃ r k m, e = .returned (.slice r m.length k) ∧ MatIn w.heap.size w'.heap.size w' r m ∧ IsBas p c A m ∧ Below w.heap.size w w'

/-- What stands in the rows when row d is scaled and the first i are done. -/
def sig (d f i : Nat) : Nat := if i = f then d else i
def scaled (p : Int) (m : List (List Int)) (f k : Nat) : List Int := sclR p (rw' m f) (inv p (at' m f k))
def doneRow (p : Int) (m : List (List Int)) (d f k i : Nat) : List Int := if i = d then scaled p m f k else plusR p (rw' m (sig d f i)) (scaled p m f k) ((p - at' m (sig d f i) k) % p)
def midRow (p : Int) (m : List (List Int)) (d f k i : Nat) : List Int := if i = d then scaled p m f k else rw' m (sig d f i)
def rowsAt (p : Int) (m : List (List Int)) (d f k i : Nat) : List (List Int) := (List.range m.length).map fun j => if j < i then doneRow p m d f k j else midRow p m d f k j
theorem rowsAt_len (p : Int) (m : List (List Int)) (d f k i : Nat) : (rowsAt p m d f k i).length = m.length := by simp [rowsAt]
theorem rowsAt_row {p : Int} {m : List (List Int)} {d f k i j : Nat} (h : j < m.length) : rw' (rowsAt p m d f k i) j = if j < i then doneRow p m d f k j else midRow p m d f k j := by simp [rowsAt, rw', List.getD, h]
theorem rowsAt_start {p : Int} {m : List (List Int)} {d f k : Nat} (hd : d < m.length) (hf : f < m.length) : (m.set f (rw' m d)).set d (scaled p m f k) = rowsAt p m d f k 0 := by
  refine mat_ext (by simp [rowsAt_len]) (fun j hj => ?_)
  simp only [List.length_set] at hj
  rw [rw_set _ (by simpa using hd), rw_set _ hf, rowsAt_row hj, if_neg (Nat.not_lt_zero _)]
  unfold midRow sig
  by_cases e : j = d
  · rw [if_pos e, if_pos e]
  · rw [if_neg e, if_neg e]
    by_cases e' : j = f
    · rw [if_pos e', if_pos e']
    · rw [if_neg e', if_neg e']
theorem rowsAt_next {p : Int} {m : List (List Int)} {d f k i : Nat} (hi : i < m.length) (hne : i ≠ d) : (rowsAt p m d f k i).set i (doneRow p m d f k i) = rowsAt p m d f k (i + 1) := by
  refine mat_ext (by simp [rowsAt_len]) (fun j hj => ?_)
  simp only [List.length_set, rowsAt_len] at hj
  rw [rw_set _ (by rw [rowsAt_len]; exact hi), rowsAt_row hj, rowsAt_row hj]
  by_cases e : j = i
  · subst e; rw [if_pos rfl, if_pos (by omega)]
  · rw [if_neg e]
    by_cases e' : j < i
    · rw [if_pos e', if_pos (by omega)]
    · rw [if_neg e', if_neg (by omega)]
theorem rowsAt_skip {p : Int} {m : List (List Int)} {d f k : Nat} : rowsAt p m d f k d = rowsAt p m d f k (d + 1) := by
  refine mat_ext (by simp [rowsAt_len]) (fun j hj => ?_)
  rw [rowsAt_len] at hj
  rw [rowsAt_row hj, rowsAt_row hj]
  by_cases e : j = d
  · subst e; rw [if_neg (Nat.lt_irrefl _), if_pos (by omega)]; unfold doneRow midRow; rw [if_pos rfl, if_pos rfl]
  · by_cases e' : j < d
    · rw [if_pos e', if_pos (by omega)]
    · rw [if_neg e', if_neg (by omega)]
theorem ColAt.rows {p : Int} {c : Nat} {A m : List (List Int)} {d k f : Nat} {P : Nat → Nat} (hp : prm p = true) (h : ColAt p c A m d k P) (hk : k < c) (hdf : d ≤ f) (hf : f < m.length) (ha : 1 ≤ at' m f k) :
    ColAt p c A (rowsAt p m d f k m.length) (d + 1) (k + 1) (fun i => if i = d then k else P i) := by
  have hL : ∀ i, i < m.length → rw' (rowsAt p m d f k m.length) i = doneRow p m d f k i := fun i hi => by rw [rowsAt_row hi, if_pos hi]
  have hsig : ∀ i, i < m.length → sig d f i < m.length := fun i hi => by unfold sig; split <;> omega
  have hdm : d < m.length := by omega
  have hS : (scaled p m f k).length = c := by unfold scaled sclR; rw [mkR_len, h.len f hf]
  refine h.pick hp hk hdf hf ha (rowsAt_len _ _ _ _ _ _) (fun i hi => ?_) (fun j hj => ?_) (fun i hi hne j hj => ?_)
  · rw [rowsAt_len] at hi
    rw [hL i hi]
    unfold doneRow
    split
    · exact hS
    · unfold plusR; rw [mkR_len]; exact h.len _ (hsig i hi)
  · have e : at' (rowsAt p m d f k m.length) d j = (scaled p m f k).getD j 0 := by unfold at'; rw [hL d hdm]; unfold doneRow; rw [if_pos rfl]
    rw [e]
    unfold scaled sclR
    rw [mkR_at _ (by rw [h.len f hf]; exact hj)]; rfl
  · have e : at' (rowsAt p m d f k m.length) i j = (plusR p (rw' m (sig d f i)) (scaled p m f k) ((p - at' m (sig d f i) k) % p)).getD j 0 := by unfold at'; rw [hL i hi]; unfold doneRow; rw [if_neg hne]; rfl
    have e2 : at' (rowsAt p m d f k m.length) d j = (scaled p m f k).getD j 0 := by unfold at'; rw [hL d hdm]; unfold doneRow; rw [if_pos rfl]
    rw [e, e2]
    unfold plusR
    rw [mkR_at _ (by rw [h.len _ (hsig i hi)]; exact hj)]; rfl

end Go.Proofs.Ytdfkpbmccmbjmaa

namespace Go.Proofs.Ytdfkpbmccmbjmaa
open Go.RowKit
set_option linter.unusedVariables false

theorem opposite_any (p a : Int) (w : World) (hp : prm p = true) (a0 : 0 ≤ a) (a1 : a < p) :
    Calls Try.prog 36 #[.int .i64 p, .int .i64 a] w fun e w' => e = .returned (.int .i64 (-a % p)) ∧ w = w' := by
  have hb := prm_bd hp
  have e2 : IntKind.i64.wrap (p - a) = p - a := IntWalk.i64_in _ (by omega)
  have hyy : (p - a) % p = -a % p := by simp
  have e3 : (p - a).tmod p = -a % p := (Int.tmod_eq_emod_of_nonneg (by omega)).trans hyy
  have hp0 : ¬ p = 0 := by omega
  have hp1 : (p == 0) = false := by simpa using hp0
  clear hyy hp
  go_enter Try.func36, Try.ntmps36
  go_wp2
  go_ret
  exact ⟨rfl, rfl⟩

theorem isNot0_any (x : Int) (w : World) :
    Calls Try.prog 63 #[.int .i64 x] w fun e w' => e = .returned (.bool (x != 0)) ∧ w = w' := by
  go_enter Try.func63, Try.ntmps63
  go_wp2
  go_ret
  exact ⟨rfl, rfl⟩

/-- The place of the first number that is not 0 from k on, or -1. -/
def fstAt (z : List Int) (k : Nat) : Prop := k < z.length ∧ (∀ j, j < k → z.getD j 0 = 0) ∧ z.getD k 0 ≠ 0

set_option maxHeartbeats 800000 in
theorem indexFunc_yes (a : Option Addr) (z : List Int) (n k ca lo tp : Nat) (w : World) (hz : RowIn lo tp w a z) (hn : z.length = n) (hl : n ≤ 1024) (hk : fstAt z k) :
    Calls Try.prog 62 #[.slice a n ca, .func (.func 63) #[] #[]] w fun e w' => e = .returned (.int .i64 k) ∧ w = w' := by
  subst hn
  have HZ := Lib.hid hz
  have HK := Lib.hid hk
  clear hz hk
  go_enter Try.func62, Try.ntmps62
  go_wp2
  go_loop [8] (fun t => ∃ i : Nat, i ≤ k ∧ t = .int .i64 i) (fun t => z.length - (intOf t).toNat)
  case atStart => exact ⟨0, Nat.zero_le _, rfl⟩
  case round =>
    obtain ⟨i, hi, rfl⟩ := hrel
    have hkl := HK.out.1
    have hi1 : (i : Int) < (z.length : Int) := by omega
    obtain ⟨b1, o1, ha1, _, _, hc1⟩ := HZ.out.num (by omega : i < z.length)
    subst ha1
    by_cases e : i = k
    · subst e
      have h3 := HK.out.2.2
      obtain ⟨x, hx⟩ : ∃ x, x = z.getD i 0 := ⟨_, rfl⟩
      rw [← hx] at hc1 h3
      have HX : Hid ((x != 0) = true) := by show _ = _; simpa using h3
      clear hx h3
      go_wp2_with (go_at_call 63; refine (isNot0_any x _).mono ?_; rintro e w1 ⟨rfl, rfl⟩; rw [HX.out])
      go_ret
      exact ⟨rfl, rfl⟩
    · have h2 := HK.out.2.1 i (by omega)
      rw [h2] at hc1
      go_wp2_with (go_at_call 63; refine (isNot0_any 0 _).mono ?_; rintro e w1 ⟨rfl, rfl⟩)
      go_round
      case rel => exact ⟨i + 1, by omega, by go_num⟩
      case measure => simp [intOf]; omega

set_option maxHeartbeats 800000 in
theorem indexFunc_no (a : Option Addr) (z : List Int) (n ca lo tp : Nat) (w : World) (hz : RowIn lo tp w a z) (hn : z.length = n) (hl : n ≤ 1024) (hk : ∀ j, j < z.length → z.getD j 0 = 0) :
    Calls Try.prog 62 #[.slice a n ca, .func (.func 63) #[] #[]] w fun e w' => e = .returned (.int .i64 (-1)) ∧ w = w' := by
  subst hn
  have HZ := Lib.hid hz
  have HK := Lib.hid hk
  clear hz hk
  go_enter Try.func62, Try.ntmps62
  go_wp2
  go_loop [8] (fun t => ∃ i : Nat, i ≤ z.length ∧ t = .int .i64 i) (fun t => z.length - (intOf t).toNat)
  case atStart => exact ⟨0, Nat.zero_le _, rfl⟩
  case round =>
    obtain ⟨i, hi, rfl⟩ := hrel
    by_cases hlt : i < z.length
    · have hi1 : (i : Int) < (z.length : Int) := by omega
      obtain ⟨b1, o1, ha1, _, _, hc1⟩ := HZ.out.num hlt
      subst ha1
      rw [HK.out i hlt] at hc1
      go_wp2_with (go_at_call 63; refine (isNot0_any 0 _).mono ?_; rintro e w1 ⟨rfl, rfl⟩)
      go_round
      case rel => exact ⟨i + 1, by omega, by go_num⟩
      case measure => simp [intOf]; omega
    · have hn : i = z.length := by omega
      subst hn
      go_wp2
      go_ret
      exact ⟨rfl, rfl⟩

theorem fst_cases (z : List Int) : (∃ k, fstAt z k) ∨ ∀ j, j < z.length → z.getD j 0 = 0 := by
  by_cases h : ∀ j, j < z.length → z.getD j 0 = 0
  · exact .inr h
  · left
    have h2 : ∃ k, k < z.length ∧ z.getD k 0 ≠ 0 := Classical.byContradiction fun c => h fun j hj => Classical.byContradiction fun d => c ⟨j, hj, d⟩
    have key : ∀ n, (∃ k, k ≤ n ∧ k < z.length ∧ z.getD k 0 ≠ 0) → ∃ k, fstAt z k := by
      intro n
      induction n with
      | zero =>
        rintro ⟨k, h1, h2, h3⟩
        have : k = 0 := by omega
        subst this
        exact ⟨0, h2, fun j hj => by omega, h3⟩
      | succ n ih =>
        rintro ⟨k, h1, h2, h3⟩
        by_cases e : ∃ k, k ≤ n ∧ k < z.length ∧ z.getD k 0 ≠ 0
        · exact ih e
        · refine ⟨k, h2, fun j hj => Classical.byContradiction fun d => e ⟨j, by omega, by omega, d⟩, h3⟩
    obtain ⟨k, k1, k2⟩ := h2
    exact key k ⟨k, Nat.le_refl _, k1, k2⟩

end Go.Proofs.Ytdfkpbmccmbjmaa

namespace Go.Proofs.Ytdfkpbmccmbjmaa
open Go.RowKit Go.ChangeShapes Go.WideShapes
set_option linter.unusedVariables false

/-- A readable list of n places. -/
def IntsIn (lo tp : Nat) (w : World) (a : Option Addr) (n : Nat) (P : Nat → Nat) : Prop :=
  n = 0 ∨ ∃ b o, a = some ⟨b, o, none⟩ ∧ lo ≤ b ∧ b < tp ∧ ∀ j, j < n → w.cell? ⟨b, o + j, none⟩ = some (.int .i64 (P j))
theorem IntsIn.at {lo tp : Nat} {w : World} {a : Option Addr} {n : Nat} {P : Nat → Nat} (h : IntsIn lo tp w a n P) {j : Nat} (hj : j < n) : ∃ b o, a = some ⟨b, o, none⟩ ∧ lo ≤ b ∧ b < tp ∧ w.cell? ⟨b, o + j, none⟩ = some (.int .i64 (P j)) := by
  rcases h with h | ⟨b, o, ha, h1, h2, hc⟩
  · omega
  · exact ⟨b, o, ha, h1, h2, hc j hj⟩

theorem isNaNc_any (x : Int) (w : World) : Calls Try.prog 83 #[.int .i64 x] w fun e w' => e = .returned (.bool false) ∧ w = w' := by
  go_enter Try.func83, Try.ntmps83
  go_wp2
  go_ret
  exact ⟨rfl, rfl⟩
theorem isNaNs_any (x : Int) (w : World) : Calls Try.prog 78 #[.int .i64 x] w fun e w' => e = .returned (.bool false) ∧ w = w' := by
  go_enter Try.func78, Try.ntmps78
  go_wp2
  go_ret
  exact ⟨rfl, rfl⟩
theorem less_any (x y : Int) (w : World) : Calls Try.prog 77 #[.int .i64 x, .int .i64 y] w fun e w' => e = .returned (.bool (decide (x < y))) ∧ Quiet w w' := by
  go_enter Try.func77, Try.ntmps77
  go_wp2_with (go_at_call 83; refine (isNaNc_any _ _).mono ?_; rintro e w1 ⟨rfl, rfl⟩)
  all_goals (go_ret; exact ⟨by simp, Quiet.refl _⟩)

set_option maxRecDepth 100000 in
set_option maxHeartbeats 1600000 in
theorem search_any (a : Option Addr) (n ca lo tp q : Nat) (P : Nat → Nat) (w : World) (hP : IntsIn lo tp w a n P) (hn : n ≤ 1024) (hq : q ≤ 1024) (hb : ∀ i, i < n → P i ≤ 1024) (hm : ∀ i i', i < i' → i' < n → P i < P i') (hne : ∀ i, i < n → P i ≠ q) :
    Calls Try.prog 66 #[.slice a n ca, .int .i64 q] w fun e w' => ∃ t : Nat, e = .returned (.tuple #[.int .i64 t, .bool false]) ∧ Quiet w w' ∧ t ≤ n ∧ (∀ i, i < t → P i < q) ∧ ∀ i, t ≤ i → i < n → q < P i := by
  have HP := Lib.hid hP
  have HB := Lib.hid hb
  have HM := Lib.hid hm
  have HE := Lib.hid hne
  clear hP hb hm hne
  go_enter Try.func66, Try.ntmps66
  go_wp2
  go_loopw [7, 8] (fun s t wr => ∃ i j : Nat, i ≤ j ∧ j ≤ n ∧ s = .int .i64 i ∧ t = .int .i64 j ∧ Quiet w wr ∧ (∀ k, k < i → P k < q) ∧ ∀ k, j ≤ k → k < n → q < P k) (fun s t _ => (intOf t).toNat - (intOf s).toNat)
  case atStart => exact ⟨0, n, Nat.zero_le _, Nat.le_refl _, rfl, rfl, Quiet.refl _, fun k hk => by omega, fun k hk hk2 => by omega⟩
  case round =>
    obtain ⟨i, j, hij, hj, rfl, rfl, hqt, h1, h2⟩ := hrel
    have HQ := Lib.hid hqt
    have H1 := Lib.hid h1
    have H2 := Lib.hid h2
    clear h1 h2
    by_cases hlt : i < j
    · have hi1 : (i : Int) < (j : Int) := by omega
      obtain ⟨h, hdef⟩ : ∃ h, h = (i + j) / 2 := ⟨_, rfl⟩
      have hh : ((i : Int) + (j : Int)) / 2 = (h : Int) := by omega
      have hih : i ≤ h := by omega
      have hhj : h < j := by omega
      have hh1 : (h : Int) < (n : Int) := by omega
      obtain ⟨b1, o1, ha1, _, _, hc0⟩ := HP.out.at (by omega : h < n)
      subst ha1
      have hc1 := ((hqt.below _).cell (p := ⟨b1, o1 + h, none⟩) (by assumption)).trans hc0
      have hpb := HB.out h (by omega)
      have hne := HE.out h (by omega)
      clear hc0 hqt hdef
      by_cases hx : P h < q
      · have HD : Hid (decide ((P h : Int) < (q : Int)) = true) := by show _ = _; simp; exact hx
        go_wp2_with (go_at_call 77; refine (less_any _ _ _).mono ?_; rintro e w1 ⟨rfl, hq1⟩; rw [HD.out]; have HQ1 := Lib.hid hq1; clear hq1)
        go_roundw
        case rel => exact ⟨h + 1, j, by omega, by omega, by go_num, rfl, HQ.out.trans HQ1.out, fun k hk => by
            by_cases e : k = h
            · subst e; exact hx
            · have := HM.out k h (by omega) (by omega); omega, H2.out⟩
        case measure => simp [intOf]; omega
      · have HD : Hid (decide ((P h : Int) < (q : Int)) = false) := by show _ = _; simp; omega
        go_wp2_with (go_at_call 77; refine (less_any _ _ _).mono ?_; rintro e w1 ⟨rfl, hq1⟩; rw [HD.out]; have HQ1 := Lib.hid hq1; clear hq1)
        go_roundw
        case rel => exact ⟨i, h, by omega, by omega, rfl, rfl, HQ.out.trans HQ1.out, H1.out, fun k hk hk2 => by
            by_cases e : k = h
            · subst e; omega
            · have := HM.out h k (by omega) (by omega); omega⟩
        case measure => simp [intOf]; omega
    · have hij : i = j := by omega
      subst hij
      by_cases hin : i < n
      · have hi1 : (i : Int) < (n : Int) := by omega
        obtain ⟨b1, o1, ha1, _, _, hc0⟩ := HP.out.at hin
        subst ha1
        have hc1 := ((hqt.below _).cell (p := ⟨b1, o1 + i, none⟩) (by assumption)).trans hc0
        have hne := HE.out i hin
        have hne1 : ((P i : Int) == (q : Int)) = false := by simp; omega
        have hne2 : ¬ (P i : Int) = (q : Int) := by omega
        clear hc0 hqt
        go_wp2_with (go_at_call 78; refine (isNaNs_any _ _).mono ?_; rintro e w1 ⟨rfl, rfl⟩)
        all_goals (refine bodyPost_ret (v := .tuple #[.int .i64 i, .bool false]) (by simp [results, Try.results66, go_sem]) rfl ⟨i, rfl, HQ.out, hj, H1.out, H2.out⟩)
      · have hin2 : ¬ (i : Int) < (n : Int) := by omega
        clear hqt
        go_wp2
        refine bodyPost_ret (v := .tuple #[.int .i64 i, .bool false]) (by simp [results, Try.results66, go_sem]) rfl ⟨i, rfl, HQ.out, hj, H1.out, H2.out⟩
end Go.Proofs.Ytdfkpbmccmbjmaa
