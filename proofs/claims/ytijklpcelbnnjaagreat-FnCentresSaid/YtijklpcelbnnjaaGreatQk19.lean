/-
  What the model's turned matrices are: a contract.
  Conditions: the matrix is a row of rows of known cells, all of one length.
  A matrix that is filled row by row, each row in blocks of its own.
  No conditions.
  The matrix of the products with a multivector, in the program and in the model: contracts.
  Conditions: a space of at most 4 squares and a multivector of it: rows of known cells.
  The program's matrix of the products with a multivector: contract.
  Conditions: a space and a multivector of it: rows of known cells.
-/
import Derived.Test.YtijklpcelbnnjaaGreatQk3
import Derived.Deep.AppendLies
import Derived.Test.YtijklpcelbnnjaaGreatQk4
import Derived.Test.YtijklpcelbnnjaaGreatQk18
import Derived.Deep.RegionHeld3
import Derived.Deep.DeepCutAuto
namespace Go.Proofs.YtijklpcelbnnjaaGreat
open Go.RowKit
set_option linter.unusedVariables false

set_option maxRecDepth 100000 in
set_option maxHeartbeats 3200000 in
theorem l02Turn_any (a : Option Addr) (m : List (List Int)) (ca lo tp : Nat) (w : World) (hm : MatIn lo tp w a m) (ht : tp ≤ w.heap.size) (h0 : 0 < m.length) (hc : ∀ i, i < m.length → (rw' m i).length = (rw' m 0).length) (hn : m.length ≤ 1024) (hn2 : (rw' m 0).length ≤ 1024) :
    Calls Tryz.prog 49 #[.slice a m.length ca] w (NewM (trM m) w) := by
  obtain ⟨i0, hi, hz0, hz1, hz2⟩ := info_parts info64
  obtain ⟨j0, kj, kz0, kz1, kz2⟩ := info_parts info_slice
  have HM := Lib.hid hm
  have HC := Lib.hid hc
  obtain ⟨b, o, r0, c0, ha, _, hb, hr0, _⟩ := HM.out.row h0
  subst ha
  rw [Nat.add_zero] at hr0
  have HR0 := Lib.hid hr0
  obtain ⟨c, hcc⟩ : ∃ c, c = (rw' m 0).length := ⟨_, rfl⟩
  rw [← hcc] at hn2 hr0
  have HCC := Lib.hid hcc
  have hb' : b < w.heap.size := Nat.lt_of_lt_of_le hb ht
  clear hm hc hcc
  go_enter Tryz.func49, Tryz.ntmps49
  go_wp2
  go_loopw [3, 4] (fun v t wr => ∃ k : Nat, k ≤ c ∧ t = .int .i64 k ∧ OutM w.heap.size wr v (mk k m.length fun k i => at' m i k) ∧ Below w.heap.size w wr) (fun _ t _ => c - (intOf t).toNat)
  case atStart => exact ⟨0, Nat.zero_le _, rfl, OutM.start w _ _ (Nat.le_refl _) rfl, by ((repeat' (first | with_reducible exact Below.refl _ _ | (with_reducible refine Below.setCell ?_ ?_ _) | (with_reducible refine Below.alloc ?_ ?_ _) | (with_reducible refine Below.drew ?_))); all_goals (first | (simp; done) | omega | (simp; omega)))⟩
  case round =>
    obtain ⟨k, hk, rfl, ho, hbel⟩ := hrel
    have HO := Lib.hid ho
    have HBEL := Lib.hid hbel
    have hwz := hbel.size
    have hr0 := (hbel.cell (p := ⟨b, o, none⟩) hb').trans hr0
    rename World => wo
    clear ho
    by_cases hlt : k < c
    · have hk1 : (k : Int) < (c : Int) := by omega
      clear hbel
      go_wp2
      go_loopw [5, 6] (fun v t wr => ∃ i : Nat, i ≤ m.length ∧ t = .int .i64 i ∧ OutR wo.heap.size wr v (mkR i fun i => at' m i k) ∧ Below wo.heap.size wo wr) (fun _ t _ => m.length - (intOf t).toNat)
      case atStart => exact ⟨0, Nat.zero_le _, rfl, OutR.start wo _ _ (Nat.le_refl _) rfl, by ((repeat' (first | with_reducible exact Below.refl _ _ | (with_reducible refine Below.setCell ?_ ?_ _) | (with_reducible refine Below.alloc ?_ ?_ _) | (with_reducible refine Below.drew ?_))); all_goals (first | (simp; done) | omega | (simp; omega)))⟩
      case round =>
        obtain ⟨i, hi', rfl, hoi, hbi⟩ := hrel
        have HOI := Lib.hid hoi
        have HBI := Lib.hid hbi
        have hwi := hbi.size
        clear hoi hr0
        by_cases hlti : i < m.length
        · have hbw := HBEL.out.trans (HBI.out.mono hwz)
          obtain ⟨b1, o1, r, c1, ha1, _, hb1, hr1, hrow⟩ := (HM.out.below hbw ht).row hlti
          cases ha1
          have hcl := HC.out i hlti
          rw [← HCC.out] at hcl
          obtain ⟨b2, o2, ha2, _, hb2, hc2⟩ := hrow.num (j := k) (by omega)
          subst ha2
          rw [hcl] at hr1
          have HS : Hid (mkR (i + 1) (fun i => at' m i k) = mkR i (fun i => at' m i k) ++ [(rw' m i).getD k 0]) := mkR_succ _ _
          obtain ⟨x, hx⟩ : ∃ x, x = (rw' m i).getD k 0 := ⟨_, rfl⟩
          rw [← hx] at hc2 HS
          obtain ⟨X, hX⟩ : ∃ X, X = (mkR i (fun i => at' m i k)).map (Value.int .i64) := ⟨_, rfl⟩
          have HX := Lib.hid hX
          have HO2 : Hid (wr.ownsRow wo.heap.size 2 1 u5 i X) := by
            have := HOI.out; unfold OutR at this; rw [mkR_len, ← hX] at this; exact this
          clear hX hx hcl hrow hbw hbi
          go_wp2_with (at_builtin; refine wpList_append_lies _ rfl _ _ 24 rfl wo.heap.size 2 i0 (.int .i64 0) 1 8 Tryz.underlying24 hi hz0 hz1 hz2 rfl (by decide) u5 i X rfl (HO2.out.alloc _) ⟨wr.heap.size, 0, none⟩ 1 1 [.int .i64 x] rfl rfl (World.news_of_block (cs := #[.int .i64 x]) (t := 2) (fr := (0, 0)) (heap_alloc_new wr _)) (by simp [Value.oneCell']) (by omega) (by unfold maxLen; omega) (by omega) (by simp; omega) (wr.heap.size + 1) (by simp) ?_; intro gg cap w1 hown1 hgrow hat hlt1)
          go_wp2
          go_roundw
          case rel => exact ⟨i + 1, by omega, by go_num, OutR.step HO2.out HX.out HS.out hown1, (HBI.out.alloc hwi _).grown hgrow (by simp; omega) (fun _ hk => (HO2.out.lt _ hk).1)⟩
          case measure => simp [intOf]; omega
        · have hn : i = m.length := by omega
          subst hn
          obtain ⟨r, cp, hv, htag⟩ := HOI.out.tag
          rw [mkR_len] at hv
          subst hv
          obtain ⟨vals, hvo, hvr⟩ := HO.out.below HBI.out
          rw [mk_len] at hvo hvr
          have HV := Lib.hid hvo
          have HVR := Lib.hid hvr
          have HT := Lib.hid htag
          clear hvo hvr htag hbi
          go_wp2_with (at_builtin; refine wpList_append_lies _ rfl _ _ 28 rfl w.heap.size 24 j0 (.slice none 0 0) 1 24 Tryz.underlying28 kj kz0 kz1 kz2 rfl (by decide) u3 k vals rfl (HV.out.alloc _) ⟨wr.heap.size, 0, none⟩ 1 1 [.slice r m.length cp] rfl rfl (World.news_of_block (cs := #[.slice r m.length cp]) (t := 24) (fr := (0, 0)) (heap_alloc_new wr _)) (by simp [Value.oneCell']) (by omega) (by unfold maxLen; omega) (by omega) (by simp; omega) (wr.heap.size + 1) (by simp) ?_; intro gg cap w1 hown1 hgrow hat hlt1)
          go_wp2
          go_roundw
          case rel => exact ⟨k + 1, by omega, by go_num, OutM.next HV.out HVR.out HT.out rfl hwz hown1 hgrow, ((HBEL.out.trans (HBI.out.mono hwz)).alloc (by omega) _).grown hgrow (by simp; omega) (fun _ hk => (HV.out.lt _ hk).1)⟩
          case measure => simp [intOf]; omega
    · have hn : k = c := by omega
      subst hn
      have HE : Hid (trM m = mk k m.length fun k i => at' m i k) := by show trM m = _; unfold trM; rw [← HCC.out]
      clear hbel
      go_wp2
      go_ret
      rw [HE.out]
      exact HO.out.new HBEL.out

end Go.Proofs.YtijklpcelbnnjaaGreat

namespace Go.Proofs.YtijklpcelbnnjaaGreat
open Go.RowKit Go.ChangeShapes Go.WideShapes
set_option linter.unusedVariables false

/-- i rows are there: row j in blocks from lo j up to tp j, behind block b and behind those of the rows before it. -/
structure HalfG (w : World) (b i : Nat) (m : List (List Int)) (A : Nat → Option Addr) (C lo tp : Nat → Nat) : Prop where
  lt : b < w.heap.size
  done : ∀ j, j < i → w.cell? ⟨b, j, none⟩ = some (.slice (A j) (rw' m j).length (C j))
  rest : ∀ j, i ≤ j → j < m.length → w.cell? ⟨b, j, none⟩ = some (.slice none 0 0)
  free : ∀ j, w.frozen? ⟨b, j, none⟩ = false
  rows : ∀ j, j < i → OwnR (lo j) (tp j) w (A j) (rw' m j) ∧ b < lo j ∧ tp j ≤ w.heap.size
  apart : ∀ j j', j < j' → j' < i → tp j ≤ lo j'
theorem HalfG.start (w : World) (m : List (List Int)) (t : TypeId) (A : Nat → Option Addr) (C lo tp : Nat → Nat) : HalfG (w.alloc (.cells (madeCells #[.slice none 0 0] m.length) t)) w.heap.size 0 m A C lo tp where
  lt := by simp
  done j hj := by omega
  rest j _ hj := by
    have h := World.cell?_alloc_new (w := w) (madeCells #[.slice none 0 0] m.length) t j
    rw [h]
    simp [madeCells, hj, Nat.mod_one]
  free j := by simp [go_sem]
  rows j hj := by omega
  apart j j' _ hj := by omega
/-- One row more. -/
theorem HalfG.next {w w1 : World} {b i : Nat} {m : List (List Int)} {A : Nat → Option Addr} {C lo tp : Nat → Nat} {r : Option Addr} {c T : Nat} (h : HalfG w b i m A C lo tp) (hi : i < m.length)
    (hk : ∀ k, k < w.heap.size → k ≠ b → w1.heap[k]? = w.heap[k]?) (hs : w.heap.size ≤ w1.heap.size) (hT : T ≤ w1.heap.size)
    (hci : w1.cell? ⟨b, i, none⟩ = some (.slice r (rw' m i).length c)) (hc : ∀ j, j ≠ i → w1.cell? ⟨b, j, none⟩ = w.cell? ⟨b, j, none⟩) (hf : ∀ j, w1.frozen? ⟨b, j, none⟩ = false)
    (hr : OwnR w.heap.size T w1 r (rw' m i)) :
    HalfG w1 b (i + 1) m (fun j => if j = i then r else A j) (fun j => if j = i then c else C j) (fun j => if j = i then w.heap.size else lo j) (fun j => if j = i then T else tp j) where
  lt := Nat.lt_of_lt_of_le h.lt hs
  done j hj := by
    by_cases e : j = i
    · subst e; simp only [if_pos]; exact hci
    · simp only [if_neg e]; exact (hc j e).trans (h.done j (by omega))
  rest j hj hl := (hc j (by omega)).trans (h.rest j (by omega) hl)
  free := hf
  rows j hj := by
    by_cases e : j = i
    · subst e; simp only [if_pos]; exact ⟨hr, h.lt, hT⟩
    · simp only [if_neg e]
      obtain ⟨h1, h2, h3⟩ := h.rows j (by omega)
      exact ⟨h1.same (fun k k0 k1 => hk k (by omega) (by omega)), h2, by omega⟩
  apart j j' hj hj' := by
    have e : ¬ j = i := by omega
    simp only [if_neg e]
    by_cases e' : j' = i
    · simp only [if_pos e']; exact (h.rows j (by omega)).2.2
    · simp only [if_neg e']; exact h.apart j j' hj (by omega)
def blk (a : Option Addr) : Nat := match a with | some a => a.block | none => 0
def ofs (a : Option Addr) : Nat := match a with | some a => a.off | none => 0
theorem OwnR.at {lo tp : Nat} {w : World} {a : Option Addr} {zs : List Int} (h : OwnR lo tp w a zs) {j : Nat} (hj : j < zs.length) : a = some ⟨blk a, ofs a, none⟩ ∧ lo ≤ blk a ∧ blk a < tp ∧ w.cell? ⟨blk a, ofs a + j, none⟩ = some (.int .i64 (zs.getD j 0)) ∧ w.frozen? ⟨blk a, ofs a + j, none⟩ = false := by
  rcases h with h | ⟨b, o, rfl, h0, h1, hc⟩
  · rw [h] at hj; simp at hj
  · exact ⟨rfl, h0, h1, (hc j hj).1, (hc j hj).2⟩
theorem HalfG.own {w : World} {b : Nat} {m : List (List Int)} {A : Nat → Option Addr} {C lo tp : Nat → Nat} (h : HalfG w b m.length m A C lo tp) : OwnM b w.heap.size w (some ⟨b, 0, none⟩) m :=
  .inr ⟨⟨b, 0, A, fun j => blk (A j), fun j => ofs (A j), C⟩, rfl, {
    rng := fun _ => ⟨Nat.le_refl _, h.lt⟩
    top := fun i hi => by show w.cell? ⟨b, 0 + i, none⟩ = _; rw [Nat.zero_add]; exact h.done i hi
    row := fun i hi => by
      by_cases h0 : (rw' m i).length = 0
      · exact .inl h0
      · exact .inr ((h.rows i hi).1.at (j := 0) (by omega)).1
    rrng := fun i hi hl => by
      obtain ⟨h1, h2, h3⟩ := h.rows i hi
      have := h1.at (j := 0) hl
      exact ⟨by show b ≤ blk (A i); omega, by show blk (A i) < _; omega⟩
    cell := fun i hi j hj => ((h.rows i hi).1.at hj).2.2.2.1
    free := fun i hi j hj => ((h.rows i hi).1.at hj).2.2.2.2
    apart := fun i hi i' hi' hne j hj j' hj' e => by
      have h1 := (h.rows i hi).1.at hj
      have h2 := (h.rows i' hi').1.at hj'
      have e1 : blk (A i) = blk (A i') := e.1
      rcases Nat.lt_or_ge i i' with l | l
      · have := h.apart i i' l hi'; omega
      · have := h.apart i' i (by omega) hi; omega
    tops := fun i hi j hj i' hi' e => by
      obtain ⟨h1, h2, h3⟩ := h.rows i hi
      have := h1.at hj
      have e1 : blk (A i) = b := e.1
      omega }⟩

theorem RowOwn.block {w w' : World} {b o n : Nat} {f : Nat → Int} (h : RowOwn w b o n f) (e : w'.heap[b]? = w.heap[b]?) : RowOwn w' b o n f :=
  ⟨fun j hj => (World.cell?_of_block (w := w) (a := ⟨b, o + j, none⟩) e).trans (h.cell j hj), fun j hj => (World.frozen?_of_block (w := w) (a := ⟨b, o + j, none⟩) e).trans (h.free j hj)⟩
theorem RowOwn.far {w : World} {b o n : Nat} {f : Nat → Int} (h : RowOwn w b o n f) (c i : Nat) (v : Value) (hne : b ≠ c) : RowOwn (w.setCell ⟨c, i, none⟩ v) b o n f :=
  h.block (Below.heap_setCell _ _ _ _ hne)
end Go.Proofs.YtijklpcelbnnjaaGreat

namespace Go.Proofs.YtijklpcelbnnjaaGreat
open Go.RowKit
set_option linter.unusedVariables false

/-- The products with the blades, as rows. -/
def colsM (p : Int) (S x : List Int) : List (List Int) := mk (bl S) (bl S) fun j c => prodF p S x (bladeM S j) c
theorem cols_tr (p : Int) (S x : List Int) : trM (colsM p S x) = leftM p S x := by
  unfold trM leftM
  have h0 : (rw' (colsM p S x) 0).length = bl S := mk_rowLen _ (bl_pos S)
  rw [h0, show (colsM p S x).length = bl S from mk_len _ _ _]
  exact mk_congr fun i hi j hj => mk_at _ hj hi
theorem cols_row {p : Int} {S x : List Int} {i : Nat} (h : i < bl S) : rw' (colsM p S x) i = prodM p S x (bladeM S i) := mk_row _ h
theorem blade_len (S : List Int) (k : Nat) : (bladeM S k).length = bl S := mkR_len _ _
theorem blade_mv {p : Int} {S : List Int} (hs : isSp p S = true) (k : Nat) : isMv p S (bladeM S k) = true :=
  isMv_of (mkR_len _ _) (fun j hj => by
    have hp := prm_bd (isSp_iff.1 hs).prime
    unfold bladeM at hj ⊢
    rw [mkR_len] at hj
    rw [mkR_at _ hj]
    split <;> omega)
def NewRowTB (p : Int) (S x : List Int) (i : Nat) (w : World) (e : Ending) (w' : World) : Prop :=
  ∃ b, e = .returned (.slice (some ⟨b, 0, none⟩) (bl S) (bl S)) ∧ TagR w.heap.size w'.heap.size w' (some ⟨b, 0, none⟩) (prodM p S x (bladeM S i)) ∧ Below w.heap.size w w'
theorem times_blade (p : Int) (aS : Option Addr) (S : List Int) (cS loS tpS : Nat) (ax : Option Addr) (x : List Int) (cx lox tpx b i : Nat) (w : World) (hs : isSp p S = true) (hS : RowIn loS tpS w aS S) (tS : tpS ≤ w.heap.size) (hx : RowIn lox tpx w ax x) (tx : tpx ≤ w.heap.size) (mx : isMv p S x = true) (hb : RowOwn w b 0 (bl S) (fun j => if j = i then 1 else 0)) (ub : b < w.heap.size) :
    Calls Tryz.prog 48 #[.agg #[.int .i64 p, .slice aS S.length cS], .slice ax x.length cx, .slice (some ⟨b, 0, none⟩) (bl S) (bl S)] w (NewRowTB p S x i w) := by
  have h := l04Times_tag p aS S cS loS tpS ax x cx lox tpx (some ⟨b, 0, none⟩) (bladeM S i) (bl S) 0 w.heap.size w (isSp_iff.1 hs).prime (isSp_iff.1 hs).hi hS tS (sp_nums hs) hx tx (Mv.len mx) (Mv.nums mx) (hb.own (Nat.zero_le _) ub).row (Nat.le_refl _) (blade_len S i) (Mv.nums (blade_mv hs i))
  rw [blade_len] at h
  refine h.mono ?_
  rintro e w' ⟨b', rfl, hl, hu, hr, hbl, cur, ht⟩
  refine ⟨b', rfl, .inr ⟨b', 0, cur, rfl, hl, hu, ht, fun j hj => ?_⟩, hbl⟩
  rw [prodM_len] at hj
  rw [prodM_at p S x _ hj]
  exact hr.cell j hj
theorem product_blade (p : Int) (aS : Option Addr) (S : List Int) (cS loS tpS : Nat) (ax : Option Addr) (x : List Int) (cx lox tpx b i : Nat) (w : World) (hs : isSp p S = true) (hS : RowIn loS tpS w aS S) (tS : tpS ≤ w.heap.size) (hx : RowIn lox tpx w ax x) (tx : tpx ≤ w.heap.size) (mx : isMv p S x = true) (hb : RowOwn w b 0 (bl S) (fun j => if j = i then 1 else 0)) (ub : b < w.heap.size) :
    Calls Tryz.prog 58 #[.agg #[.int .i64 p, .slice aS S.length cS], .slice ax x.length cx, .slice (some ⟨b, 0, none⟩) (bl S) (bl S)] w (OwnE (prodM p S x (bladeM S i)) w) := by
  have h := product_own p aS S cS loS tpS ax x cx lox tpx (some ⟨b, 0, none⟩) (bladeM S i) (bl S) 0 w.heap.size w hs hS tS hx tx mx (hb.own (Nat.zero_le _) ub).row (Nat.le_refl _) (blade_mv hs i)
  rw [blade_len] at h
  exact h

set_option maxRecDepth 100000 in
set_option maxHeartbeats 3200000 in
theorem l04Left_any (p : Int) (aS : Option Addr) (S : List Int) (cS loS tpS : Nat) (ax : Option Addr) (x : List Int) (cx lox tpx : Nat) (w : World) (hs : isSp p S = true) (hS : RowIn loS tpS w aS S) (tS : tpS ≤ w.heap.size) (hx : RowIn lox tpx w ax x) (tx : tpx ≤ w.heap.size) (mx : isMv p S x = true) :
    Calls Tryz.prog 24 #[.agg #[.int .i64 p, .slice aS S.length cS], .slice ax x.length cx] w (NewM (leftM p S x) w) := by
  obtain ⟨j0, kj, kz0, kz1, kz2⟩ := info_parts info_slice
  have HS := Lib.hid hS
  have HX := Lib.hid hx
  have HI := Lib.hid hs
  have HMX := Lib.hid mx
  have h6 := (isSp_iff.1 hs).hi
  have hbl := bl_le h6
  have hb0 := bl_pos S
  have HB0 := Lib.hid (below_alloc w (.cells #[.int .i64 p, .slice aS S.length cS] 26))
  have k0 := nw0 w (.int .i64 p) (.slice aS S.length cS) 26
  have k1 := nw1 w (.int .i64 p) (.slice aS S.length cS) 26
  clear hS hx hs mx
  go_enter Tryz.func24, Tryz.ntmps24
  go_upto_region 1 with fail
  obtain ⟨wB, hw1⟩ : ∃ z, z = w.alloc (.cells #[.int .i64 p, .slice aS S.length cS] 26) := ⟨_, rfl⟩
  rw [← hw1] at HB0 k0 k1 ⊢
  have hw0 : w.heap.size < wB.heap.size := by rw [hw1]; simp
  clear hw1
  have K0 := Lib.hid k0
  have K1 := Lib.hid k1
  clear k0 k1
  go_wp2
  go_loopw [5, 6, 7] (fun v t _ wr => ∃ i : Nat, i ≤ bl S ∧ t = .int .i64 i ∧ OutM wB.heap.size wr v (mk i (bl S) fun j c => prodF p S x (bladeM S j) c) ∧ Below wB.heap.size wB wr) (fun _ t _ _ => bl S - (intOf t).toNat)
  case atStart => exact ⟨0, Nat.zero_le _, rfl, OutM.start wB _ _ (Nat.le_refl _) rfl, below_alloc wB _⟩
  case round =>
    obtain ⟨i, hi, rfl, ho, hbel⟩ := hrel
    obtain ⟨V5, hV5⟩ : ∃ z, z = u5 := ⟨_, rfl⟩
    rw [← hV5] at ho ⊢
    clear hV5
    have HO := Lib.hid ho
    have HB := Lib.hid hbel
    have hwz := hbel.size
    have hk0 := (hbel.cell (p := ⟨w.heap.size, 0, none⟩) hw0).trans K0.out
    have hk1 := (hbel.cell (p := ⟨w.heap.size, 1, none⟩) hw0).trans K1.out
    have hlw : w.heap.size < wr.heap.size := by omega
    clear ho hbel
    by_cases hlt : i < bl S
    · have hi1 : (i : Int) < (bl S : Int) := Int.ofNat_lt.2 hlt
      obtain ⟨vals, hvo, hvr⟩ := HO.out
      rw [mk_len] at hvo hvr
      have HVO := Lib.hid hvo
      have HVR := Lib.hid hvr
      clear hvo hvr
      go_upto_region 7 with (first | (go_at_call 47; (with_reducible refine (l04Size_any p aS S cS wr h6).mono ?_); rintro e w3 ⟨rfl, b3⟩; have B3 := Lib.hid b3; have z3 := b3.size; have hk03 := (b3.cell (p := ⟨w.heap.size, 0, none⟩) hlw).trans hk0; have hk13 := (b3.cell (p := ⟨w.heap.size, 1, none⟩) hlw).trans hk1; clear b3) | (go_at_call 23; (with_reducible refine (l04Zero_any p aS S cS w3 h6).mono ?_); rintro e w4 ⟨b4, rfl, l4, u4, o4, q4⟩; have O4 := Lib.hid o4; have B4 := Lib.hid q4; have z4 := q4.size; have c4 := o4.cell i hlt; have f4 := o4.free i hlt; rw [Nat.zero_add] at c4 f4; have hk04 := (q4.cell (p := ⟨w.heap.size, 0, none⟩) (Nat.lt_of_lt_of_le hlw z3)).trans hk03; have hk14 := (q4.cell (p := ⟨w.heap.size, 1, none⟩) (Nat.lt_of_lt_of_le hlw z3)).trans hk13; clear o4 q4))
      obtain ⟨w5, hw5⟩ : ∃ z, z = w4.setCell ⟨b4, i, none⟩ (.int .i64 1) := ⟨_, rfl⟩
      have HR5 : Hid (RowOwn w5 b4 0 (bl S) (fun j => if j = i then 1 else 0)) := by show RowOwn _ _ _ _ _; rw [hw5]; exact row_put0 O4.out hlt (fun j _ => rfl)
      have HQ5 : Hid (Below wr.heap.size wr w5) := by show Below _ _ _; rw [hw5]; exact (B3.out.trans (B4.out.mono z3)).trans ((wrote_put0 (Wrote.refl b4 0 (bl S) w4) hlt _).belowB (by omega))
      have u5 : b4 < w5.heap.size := by rw [hw5]; simp [World.setCell]; exact u4
      rw [← hw5]
      clear hw5 c4 f4 hk04 hk14 hk03 hk13
      have HB5 : Hid (Below wB.heap.size wB w5) := HB.out.trans (HQ5.out.mono hwz)
      have HW5 : Hid (Below w.heap.size w w5) := HB0.out.trans (HB5.out.mono (by omega))
      have z5 := HW5.out.size
      have z5r := HQ5.out.size
      have hk05 := (HB5.out.cell (p := ⟨w.heap.size, 0, none⟩) hw0).trans K0.out
      have hk15 := (HB5.out.cell (p := ⟨w.heap.size, 1, none⟩) hw0).trans K1.out
      have HS5 := Lib.hid (HS.out.below HW5.out tS)
      have HX5 := Lib.hid (HX.out.below HW5.out tx)
      have tS5 : tpS ≤ w5.heap.size := by omega
      have tx5 : tpx ≤ w5.heap.size := by omega
      go_wp2_with (first | (go_at_call 48; (with_reducible refine (times_blade p aS S cS loS tpS ax x cx lox tpx b4 i w5 HI.out HS5.out tS5 HX5.out tx5 HMX.out HR5.out u5).mono ?_); rintro e w6 ⟨b6, rfl, t6, q6⟩; have T6 := Lib.hid t6; have B6 := Lib.hid q6; have z6 := q6.size; have HQ6 := Lib.hid (HQ5.out.trans (q6.mono z5r)); have HVW := Lib.hid (HVO.out.kept (below_grown HQ6.out) (by cases hv : Value.ownBlock V5 <;> simp)); clear t6 q6) | (at_builtin; refine wpList_append_lies _ rfl _ _ 28 rfl wB.heap.size 24 j0 (.slice none 0 0) 1 24 Tryz.underlying28 kj kz0 kz1 kz2 rfl (by decide) V5 i vals rfl (HVW.out.alloc _) ⟨w6.heap.size, 0, none⟩ 1 1 [.slice (some ⟨b6, 0, none⟩) (bl S) (bl S)] rfl rfl (World.news_of_block (cs := #[.slice (some ⟨b6, 0, none⟩) (bl S) (bl S)]) (t := 24) (fr := (0, 0)) (heap_alloc_new w6 _)) (by simp [Value.oneCell']) (by omega) (by unfold maxLen; omega) (by omega) (by simp; omega) (w6.heap.size + 1) (by simp) ?_; intro gg cap w1 hown1 hgrow hat hlt1))
      have HVRW : Hid (∀ i', i' < i → ∃ r c', vals[i']? = some (.slice r (rw' (mk i (bl S) fun j c => prodF p S x (bladeM S j) c) i').length c') ∧ TagR wB.heap.size w6.heap.size w6 r (rw' (mk i (bl S) fun j c => prodF p S x (bladeM S j) c) i')) := fun i' h' => by
        obtain ⟨r', c', g1, g2⟩ := HVR.out i' h'
        exact ⟨r', c', g1, g2.below HQ6.out (Nat.le_refl _) (Nat.le_refl _) HQ6.out.size⟩
      have HT6 : Hid (TagR w5.heap.size w6.heap.size w6 (some ⟨b6, 0, none⟩) (prodM p S x (bladeM S i))) := T6.out
      go_roundw
      case rel => exact ⟨i + 1, by omega, by go_num, OutM.next HVW.out HVRW.out HT6.out rfl (Nat.le_trans hwz z5r) hown1 hgrow, ((HB.out.trans (HQ6.out.mono hwz)).alloc (by omega) _).grown hgrow (by simp; omega) (fun _ hk => (HVW.out.lt _ hk).1)⟩
      case measure => simp [intOf]; omega
    · have hin : i = bl S := by omega
      subst hin
      obtain ⟨r, c, hv, hmat⟩ := HO.out.mat
      subst hv
      have HMT := Lib.hid hmat
      clear hmat
      have h0l : 0 < (mk (bl S) (bl S) fun j c => prodF p S x (bladeM S j) c).length := by rw [mk_len]; exact hb0
      have HLE : Hid (∀ i, i < (mk (bl S) (bl S) fun j c => prodF p S x (bladeM S j) c).length → (rw' (mk (bl S) (bl S) fun j c => prodF p S x (bladeM S j) c) i).length = (rw' (mk (bl S) (bl S) fun j c => prodF p S x (bladeM S j) c) 0).length) := fun i hi => by
        rw [mk_len] at hi
        rw [mk_rowLen _ hi, mk_rowLen _ hb0]
      have hn1 : (mk (bl S) (bl S) fun j c => prodF p S x (bladeM S j) c).length ≤ 1024 := by rw [mk_len]; omega
      have hn2 : (rw' (mk (bl S) (bl S) fun j c => prodF p S x (bladeM S j) c) 0).length ≤ 1024 := by rw [mk_rowLen _ hb0]; omega
      have HTR : Hid (trM (mk (bl S) (bl S) fun j c => prodF p S x (bladeM S j) c) = leftM p S x) := cols_tr p S x
      go_wp2_with (first | (go_at_call 47; (with_reducible refine (l04Size_any p aS S cS wr h6).mono ?_); rintro e w3 ⟨rfl, b3⟩; have B3 := Lib.hid b3; have z3 := b3.size; clear b3) | (go_at_call 49; (with_reducible refine (l02Turn_any r _ c wB.heap.size wr.heap.size w3 (HMT.out.below B3.out (Nat.le_refl _)) z3 h0l HLE.out hn1 hn2).mono ?_); rintro e w4 ⟨r4, c4, rfl, m4, b4⟩; have M4 := Lib.hid m4; have B4 := Lib.hid b4; clear m4 b4))
      go_ret
      have h := M4.out
      rw [HTR.out] at h
      exact ⟨r4, c4, by rw [HTR.out]; rfl, h.mono (by omega) (Nat.le_refl _), (HB0.out.trans (HB.out.mono (by omega))).trans ((B3.out.trans (B4.out.mono z3)).mono (by omega))⟩

end Go.Proofs.YtijklpcelbnnjaaGreat

namespace Go.Proofs.YtijklpcelbnnjaaGreat
open Go.RowKit
set_option linter.unusedVariables false

theorem transposed_n (a : Option Addr) (m : List (List Int)) (n ca lo tp : Nat) (w : World) (hnm : m.length = n) (hm : MatIn lo tp w a m) (ht : tp ≤ w.heap.size) (h0 : 0 < m.length) (hc : ∀ i, i < m.length → (rw' m i).length = (rw' m 0).length) (hn : m.length ≤ 1024) (hn2 : (rw' m 0).length ≤ 1024) :
    Calls Tryz.prog 76 #[.slice a n ca] w (OwnNew (trM m) w) := by
  subst hnm; exact transposed_any a m ca lo tp w hm ht h0 hc hn hn2

set_option maxRecDepth 100000 in
set_option maxHeartbeats 3200000 in
theorem leftMatrix_any (p : Int) (aS : Option Addr) (S : List Int) (cS loS tpS : Nat) (ax : Option Addr) (x : List Int) (cx lox tpx : Nat) (w : World) (hs : isSp p S = true) (hS : RowIn loS tpS w aS S) (tS : tpS ≤ w.heap.size) (hx : RowIn lox tpx w ax x) (tx : tpx ≤ w.heap.size) (mx : isMv p S x = true) :
    Calls Tryz.prog 43 #[.agg #[.int .i64 p, .slice aS S.length cS], .slice ax x.length cx] w (OwnNew (leftM p S x) w) := by
  have HS := Lib.hid hS
  have HX := Lib.hid hx
  have HI := Lib.hid hs
  have HMX := Lib.hid mx
  have h6 := (isSp_iff.1 hs).hi
  have hbl := bl_le h6
  have hb0 := bl_pos S
  have hmk := fun W => run_make_row' (P := Tryz.prog) 28 24 (.slice none 0 0) 24 Tryz.underlying28 info_slice rfl .i64 .i64 (bl S) (by omega) (by omega) W
  obtain ⟨Z, hZ⟩ : ∃ Z, Z = colsM p S x := ⟨_, rfl⟩
  have HZL : Hid (Z.length = bl S) := by show _ = _; rw [hZ]; exact mk_len _ _ _
  have HZR : Hid (∀ i, i < bl S → rw' Z i = prodM p S x (bladeM S i)) := fun i hi => by rw [hZ]; exact cols_row hi
  have HZT : Hid (trM Z = leftM p S x) := by show _ = _; rw [hZ]; exact cols_tr p S x
  have HZE : Hid (∀ i, i < Z.length → (rw' Z i).length = bl S) := fun i hi => by rw [HZL.out] at hi; rw [HZR.out i hi, prodM_len]
  have HB0 := Lib.hid (below_alloc w (.cells #[.int .i64 p, .slice aS S.length cS] 26))
  have k0 := nw0 w (.int .i64 p) (.slice aS S.length cS) 26
  have k1 := nw1 w (.int .i64 p) (.slice aS S.length cS) 26
  clear hS hx hs mx hZ
  go_enter Tryz.func43, Tryz.ntmps43
  go_upto_region 1 with fail
  obtain ⟨w1, hw1⟩ : ∃ z, z = w.alloc (.cells #[.int .i64 p, .slice aS S.length cS] 26) := ⟨_, rfl⟩
  rw [← hw1] at HB0 k0 k1 ⊢
  have hw0 : w.heap.size < w1.heap.size := by rw [hw1]; simp
  clear hw1
  go_upto_region 2 with (go_at_call 74; (with_reducible refine (blades_any p aS S cS _ h6).mono ?_); rintro e w2 ⟨rfl, b2⟩; have B2 := Lib.hid b2; have z2 := b2.size; clear b2)
  obtain ⟨b, hb⟩ : ∃ b, b = w2.heap.size := ⟨_, rfl⟩
  obtain ⟨w3, hw3⟩ : ∃ z, z = w2.alloc (.cells (madeCells #[.slice none 0 0] (bl S)) 24) := ⟨_, rfl⟩
  have HG3 : Hid (HalfG w3 b 0 Z (fun _ => none) (fun _ => 0) (fun _ => 0) (fun _ => 0)) := by
    show HalfG _ _ _ _ _ _ _ _
    rw [hw3, hb, ← HZL.out]
    exact HalfG.start w2 Z 24 (fun _ => none) (fun _ => 0) (fun _ => 0) (fun _ => 0)
  have HB2 : Hid (Below w.heap.size w w2) := HB0.out.trans (B2.out.mono (by omega))
  have HB3 : Hid (Below w.heap.size w w3) := by show Below _ _ _; rw [hw3]; exact HB2.out.alloc HB2.out.size _
  have K0 : Hid (w3.cell? ⟨w.heap.size, 0, none⟩ = some (.int .i64 p)) := by show _ = _; rw [hw3]; exact (World.cell?_alloc_old _ _ _ (show w.heap.size ≠ w2.heap.size by omega)).trans ((B2.out.cell (p := ⟨w.heap.size, 0, none⟩) hw0).trans k0)
  have K1 : Hid (w3.cell? ⟨w.heap.size, 1, none⟩ = some (.slice aS S.length cS)) := by show _ = _; rw [hw3]; exact (World.cell?_alloc_old _ _ _ (show w.heap.size ≠ w2.heap.size by omega)).trans ((B2.out.cell (p := ⟨w.heap.size, 1, none⟩) hw0).trans k1)
  have hwb : w.heap.size < b := by omega
  have hbl3 : b < w3.heap.size := by rw [hw3, hb]; simp
  rw [← hw3, ← hb]
  clear hw3 hmk hb z2 k0 k1
  go_wp2
  go_loopw [12] (fun t wr => ∃ i : Nat, i ≤ bl S ∧ t = .int .i64 i ∧ (∃ A C lo tp, HalfG wr b i Z A C lo tp) ∧ wr.cell? ⟨w.heap.size, 0, none⟩ = some (.int .i64 p) ∧ wr.cell? ⟨w.heap.size, 1, none⟩ = some (.slice aS S.length cS) ∧ Below w.heap.size w wr ∧ b < wr.heap.size) (fun t _ => bl S - (intOf t).toNat)
  case atStart => exact ⟨0, Nat.zero_le _, rfl, ⟨_, _, _, _, HG3.out⟩, K0.out, K1.out, HB3.out, hbl3⟩
  case round =>
    obtain ⟨i, hi, rfl, ⟨A, C, lo, tp, hh⟩, hk0, hk1, hbel, hbr⟩ := hrel
    have HH := Lib.hid hh
    have HB := Lib.hid hbel
    have HK0 := Lib.hid hk0
    have HK1 := Lib.hid hk1
    have hwz := hbel.size
    by_cases hlt : i < bl S
    · have hi1 : (i : Int) < (bl S : Int) := Int.ofNat_lt.2 hlt
      have g0 := hh.rest i (Nat.le_refl _) (by rw [HZL.out]; exact hlt)
      have gf := hh.free i
      have hlw : w.heap.size < wr.drew.heap.size := by show w.heap.size < wr.heap.size; omega
      have hbd : b < wr.drew.heap.size := hbr
      have hs1 : Hid (wr.drew.cell? ⟨w.heap.size, 0, none⟩ = some (.int .i64 p) ∧ wr.drew.cell? ⟨w.heap.size, 1, none⟩ = some (.slice aS S.length cS)) := ⟨hk0, hk1⟩
      have HBD : Hid (Below w.heap.size w wr.drew) := hbel.drew
      have hzd := HBD.out.size
      have hwb2 : w.heap.size ≠ b := by omega
      have G0 : Hid (wr.drew.cell? ⟨b, i, none⟩ = some (.slice none 0 0)) := g0
      have GF : Hid (wr.drew.frozen? ⟨b, i, none⟩ = false) := gf
      clear hh hbel
      go_wp2
      go_region_held3 (fun w' => w'.cell? ⟨w.heap.size, 0, none⟩ = some (.int .i64 p) ∧ w'.cell? ⟨w.heap.size, 1, none⟩ = some (.slice aS S.length cS)) (first | go_keep | exact SS7.out | exact SS9.out | exact SS10.out) (first | (go_at_call 75; (with_reducible refine (blade_any p aS S cS i wr.drew h6 hlt).mono ?_); rintro e w7 ⟨b7, rfl, l7, u7, o7, q7⟩; have O7 := Lib.hid o7; have B7 := Lib.hid q7; have z7 := q7.size; have SS7 := Lib.hid (And.intro ((q7.cell (p := ⟨w.heap.size, 0, none⟩) hlw).trans hs1.out.1) ((q7.cell (p := ⟨w.heap.size, 1, none⟩) hlw).trans hs1.out.2)); have HB7 := Lib.hid (HBD.out.trans (q7.mono hzd)); have hz7 := Nat.le_trans hzd z7; have hlw7 := Nat.lt_of_lt_of_le hlw z7; have hbd7 := Nat.lt_of_lt_of_le hbd z7; clear o7 q7) | (go_at_call 58; (with_reducible refine (product_blade p aS S cS loS tpS ax x cx lox tpx b7 i w7 HI.out (HS.out.below HB7.out tS) (Nat.le_trans tS hz7) (HX.out.below HB7.out tx) (Nat.le_trans tx hz7) HMX.out O7.out u7).mono ?_); rintro e w9 ⟨r9, c9, rfl, o9, q9⟩; have O9 := Lib.hid o9; have B9 := Lib.hid q9; have z9 := q9.size; have SS9 := Lib.hid (And.intro ((q9.cell (p := ⟨w.heap.size, 0, none⟩) hlw7).trans SS7.out.1) ((q9.cell (p := ⟨w.heap.size, 1, none⟩) hlw7).trans SS7.out.2)); have SS10 := Lib.hid (And.intro ((World.cell?_setCell_other w9 ⟨b, i, none⟩ ⟨w.heap.size, 0, none⟩ (.slice r9 (prodM p S x (bladeM S i)).length c9) (fun e => hwb2 (by injection e with e1; exact e1.symm))).trans SS9.out.1) ((World.cell?_setCell_other w9 ⟨b, i, none⟩ ⟨w.heap.size, 1, none⟩ (.slice r9 (prodM p S x (bladeM S i)).length c9) (fun e => hwb2 (by injection e with e1; exact e1.symm))).trans SS9.out.2)); have HQ9 := Lib.hid (B7.out.trans (q9.mono z7)); have c0 := (HQ9.out.cell (p := ⟨b, i, none⟩) hbd).trans G0.out; have f0 := (HQ9.out.frozen (p := ⟨b, i, none⟩) hbd).trans GF.out; clear o9 q9))
      have hq9 := HQ9.out.size
      have hq9' : wr.heap.size ≤ w9.heap.size := hq9
      have HZI := HZR.out i hlt
      have HNX := HH.out.next (w1 := w9.setCell ⟨b, i, none⟩ (.slice r9 (prodM p S x (bladeM S i)).length c9)) (r := r9) (c := c9) (T := w9.heap.size) (by rw [HZL.out]; exact hlt)
        (fun k k0 k1 => (Below.heap_setCell _ _ _ _ k1).trans (HQ9.out.block k k0)) (by simp [World.setCell]; exact hq9') (by simp [World.setCell])
        (by rw [HZI]; exact World.cell?_setCell_same w9 _ _ c0)
        (fun j hj => (World.cell?_setCell_other w9 ⟨b, i, none⟩ ⟨b, j, none⟩ _ (fun e => hj (by injection e with _ e2; exact e2.symm))).trans (HQ9.out.cell (p := ⟨b, j, none⟩) hbd))
        (fun j => by have := (HQ9.out.frozen (p := ⟨b, j, none⟩) hbd).trans (HH.out.free j); simp [go_sem, this])
        (by rw [HZI]; exact (OwnR.mono' O9.out (show wr.heap.size ≤ w7.heap.size from z7) (Nat.le_refl _)).same (fun k k0 _ => Below.heap_setCell _ _ _ _ (show k ≠ b by omega)))
      have HNX := Lib.hid HNX
      go_wp2
      go_roundw
      case rel => exact ⟨i + 1, by omega, by go_num, ⟨_, _, _, _, HNX.out⟩, SS10.out.1, SS10.out.2, (HBD.out.trans (HQ9.out.mono hzd)).setCell (by show w.heap.size ≤ b; omega) _, by simp [World.setCell]; omega⟩
      case measure => simp [intOf]; omega
    · have hin : i = bl S := by omega
      have HF : Hid (HalfG wr b Z.length Z A C lo tp) := by show HalfG _ _ _ _ _ _ _ _; rw [HZL.out, ← hin]; exact hh
      have HM := Lib.hid HF.out.own.mat
      have hz0 : 0 < Z.length := by rw [HZL.out]; exact hb0
      have HE : Hid (∀ i, i < Z.length → (rw' Z i).length = (rw' Z 0).length) := fun i hi => by rw [HZE.out i hi, HZE.out 0 hz0]
      have hz1 : Z.length ≤ 1024 := by rw [HZL.out]; omega
      have hz2 : (rw' Z 0).length ≤ 1024 := by rw [HZE.out 0 hz0]; omega
      clear hh hbel hin
      go_wp2_with (first | (go_at_call 76; (with_reducible refine (transposed_n (some ⟨b, 0, none⟩) Z (bl S) (bl S) b wr.heap.size wr HZL.out HM.out (Nat.le_refl _) hz0 HE.out hz1 hz2).mono ?_); rintro e w7 ⟨r7, c7, rfl, o7, q7⟩; have O7 := Lib.hid o7; have B7 := Lib.hid q7; clear o7 q7))
      go_ret
      have h := O7.out
      rw [HZT.out] at h
      exact ⟨r7, c7, by rw [HZT.out]; rfl, h.mono hwz (Nat.le_refl _), HB.out.trans (B7.out.mono hwz)⟩

end Go.Proofs.YtijklpcelbnnjaaGreat
