/-
  Decompositions into reflections (program): contracts of the program and of the model.
  Conditions: the lists are nil or rows of known cells, of at most 1048576 numbers.
  Decompositions into reflections, the model's side: contracts of the program and of the model.
  Conditions: the lists are nil or rows of known cells, of at most 1048576 numbers.
  Decompositions: contracts of the program and of the model.
  Conditions: the lists are nil or rows of known cells, of at most 1048576 numbers.
-/
import Derived.Test.YthbkfpkeofpocaaGreatQv42
import Derived.Test.YthbkfpkeofpocaaGreatQv39
import Derived.Test.YthbkfpkeofpocaaGreatQv24
import Derived.Test.YthbkfpkeofpocaaGreatQv4
import Derived.Deep.RegionHeld3
import Derived.Deep.DeepCutAuto
import Derived.Test.YthbkfpkeofpocaaGreatQv40
import Derived.Test.YthbkfpkeofpocaaGreatQv31
import Derived.Test.YthbkfpkeofpocaaGreatQv38
namespace Go.Proofs.YthbkfpkeofpocaaGreat
open Go.RowKit
set_option linter.unusedVariables false

/-- The rows below j led by f, the others as they are. -/
def mixC (f : List Int → List Int) (C : List (List Int)) (j : Nat) : List (List Int) := (List.range C.length).map fun k => if k < j then f (rw' C k) else rw' C k
theorem mix_len (f : List Int → List Int) (C : List (List Int)) (j : Nat) : (mixC f C j).length = C.length := by simp [mixC]
theorem mix_row (f : List Int → List Int) {C : List (List Int)} (j : Nat) {k : Nat} (hk : k < C.length) : rw' (mixC f C j) k = if k < j then f (rw' C k) else rw' C k := by simp [mixC, rw', List.getD, hk]
theorem mix_zero (f : List Int → List Int) (C : List (List Int)) : mixC f C 0 = C :=
  mat_ext (mix_len f C 0) fun i hi => by rw [mix_len] at hi; rw [mix_row f 0 hi, if_neg (Nat.not_lt_zero _)]
theorem mix_set (f : List Int → List Int) {C : List (List Int)} {j : Nat} (hj : j < C.length) : (mixC f C j).set j (f (rw' C j)) = mixC f C (j + 1) := by
  refine mat_ext (by rw [List.length_set, mix_len, mix_len]) fun i hi => ?_
  rw [List.length_set, mix_len] at hi
  rw [rw_setX _ (by rw [mix_len]; exact hj), mix_row f _ hi, mix_row f _ hi]
  by_cases e : i = j
  · subst e; rw [if_pos rfl, if_pos (Nat.lt_succ_self _)]
  · rw [if_neg e]
    by_cases l : i < j
    · rw [if_pos l, if_pos (show i < j + 1 by omega)]
    · rw [if_neg l, if_neg (show ¬ i < j + 1 by omega)]
theorem mix_all (p : Int) (S u : List Int) (C : List (List Int)) : mixC (rflM p S u) C C.length = refC p S u C :=
  mat_ext (by rw [mix_len, ref_len]) fun i hi => by rw [mix_len] at hi; rw [mix_row _ _ hi, if_pos hi, ref_row p S u hi]
theorem refA_snoc (p : Int) (S : List Int) (L : List (List Int)) (u : List Int) (C : List (List Int)) : refA p S (L ++ [u]) C = refC p S u (refA p S L C) := by unfold refA; rw [List.foldl_append]; rfl
theorem gb_low {w w3 W : World} {b B : Nat} (h : w3.grownBy W (some b)) (hb : Below B w w3) (hl : B ≤ b) (hB : B ≤ w3.heap.size) : Below B w W :=
  ⟨h.os.trans hb.os, h.tape.trans hb.tape, h.output.trans hb.output, Nat.le_trans hb.size h.size, fun k hk => (h.block k (Nat.lt_of_lt_of_le hk hB) (fun e => by injection e with e; omega)).trans (hb.block k hk)⟩
theorem gb_same {w3 W : World} {b lo tp : Nat} (h : w3.grownBy W (some b)) (hl : b < lo) (ht : tp ≤ w3.heap.size) : Same lo tp w3 W := fun k k0 k1 => h.block k (by omega) (fun e => by injection e with e; omega)
theorem transposed_x (a : Option Addr) (m : List (List Int)) (n ca lo tp : Nat) (w : World) (hm : MatIn lo tp w a m) (ht : tp ≤ w.heap.size) (h0 : 0 < n) (hl : m.length = n) (hc : ∀ i, i < m.length → (rw' m i).length = n) (hn : n ≤ 1024) :
    Calls Tryz.prog 54 #[.slice a m.length ca] w (fun e w' => ∃ b o c, e = .returned (.slice (some ⟨b, o, none⟩) m.length c) ∧ TopX w.heap.size w' b o (trM m) ∧ Below w.heap.size w w') := by
  have c0 := hc 0 (by omega)
  exact (transposed_top a m ca lo tp w hm ht (by omega) (fun i hi => by rw [hc i hi, c0]) (by omega) (by rw [c0]; exact hn) (by rw [c0]; exact h0)).mono fun _ _ ⟨b, o, c, e, t, h⟩ => ⟨b, o, c, by rw [e, tr_ln, c0, hl], t, h⟩
/-- What holds between the steps of the decomposition. -/
structure DcB (w w3 : World) (b o : Nat) (C : List (List Int)) (u : Value) (L : List (List Int)) (RB RO : Nat → Nat) (W : World) : Prop where
  gb : w3.grownBy W (some b)
  cols : TopQ w.heap.size W b o C (fun k => u.ownBlock ≠ some k)
  list : OutW w3.heap.size W u L RB RO
theorem DcB.below {w w3 W W' : World} {b o : Nat} {C : List (List Int)} {u : Value} {L : List (List Int)} {RB RO : Nat → Nat} (h : DcB w w3 b o C u L RB RO W) (k : Below W.heap.size W W') : DcB w w3 b o C u L RB RO W' :=
  ⟨gb_below h.gb k, h.cols.below k, h.list.below k⟩
/-- And within a step: the vectors of the step, from the s-th one on not yet in the list. -/
structure DcS (w w3 : World) (b o : Nat) (C : List (List Int)) (u : Value) (L : List (List Int)) (RB RO : Nat → Nat) (z : Nat) (V : List (List Int)) (hb : Nat) (SB SO : Nat → Nat) (s : Nat) (W : World) : Prop extends DcB w w3 b o C u L RB RO W where
  st : StW z W V hb SB SO
  sep : ∀ k, u.ownBlock = some k → (0 < V.length → k ≠ hb) ∧ ∀ s', s' < V.length → SB s' ≠ k
  fresh : ∀ i, i < L.length → ∀ s', s ≤ s' → s' < V.length → RB i ≠ SB s'
theorem DcS.below {w w3 W W' : World} {b o : Nat} {C : List (List Int)} {u : Value} {L : List (List Int)} {RB RO : Nat → Nat} {z hb s : Nat} {V : List (List Int)} {SB SO : Nat → Nat} (h : DcS w w3 b o C u L RB RO z V hb SB SO s W) (k : Below W.heap.size W W') : DcS w w3 b o C u L RB RO z V hb SB SO s W' :=
  { h.toDcB.below k with st := h.st.below k, sep := h.sep, fresh := h.fresh }
theorem DcS.store {w w3 W : World} {b o j b1 o1 c1 : Nat} {C : List (List Int)} {u : Value} {L : List (List Int)} {RB RO : Nat → Nat} {z hb s : Nat} {V : List (List Int)} {SB SO : Nat → Nat} {x : List Int} (h : DcS w w3 b o C u L RB RO z V hb SB SO s W) (hbw : b < w3.heap.size) (hz : w3.heap.size ≤ z) (hj : j < C.length) (h0 : w3.heap.size ≤ b1) (h1 : b1 < W.heap.size) (hlo : w.heap.size ≤ b1) (hq : u.ownBlock ≠ some b1) (hx : ∀ j, j < x.length → W.cell? ⟨b1, o1 + j, none⟩ = some (.int .i64 (x.getD j 0))) :
    DcS w w3 b o (C.set j x) u L RB RO z V hb SB SO s (W.setCell ⟨b, o + j, none⟩ (.slice (some ⟨b1, o1, none⟩) x.length c1)) where
  gb := gb_set h.gb
  cols := h.cols.set hj hlo h1 (by omega) hq hx
  list := h.list.kept (setk_grown _ _ _ _) (.inr fun e => by have := (h.list.lt e).1; omega) (fun i hi e => by injection e with e; have := (h.list.rng i hi).1; omega)
  st := h.st.kept (setk_grown _ _ _ _) (fun h0 e => by injection e with e; have := (h.st.hh h0).1; omega) (fun s' hs e => by injection e with e; have := (h.st.rng s' hs).1; omega)
  sep := h.sep
  fresh := h.fresh
theorem DcS.push {w w3 W W1 : World} {ob : Obj} {b o g cap c : Nat} {C : List (List Int)} {u : Value} {L : List (List Int)} {RB RO : Nat → Nat} {z hb s : Nat} {V : List (List Int)} {SB SO : Nat → Nat} {vals : List Value} (h : DcS w w3 b o C u L RB RO z V hb SB SO s W) (hbw : b < w3.heap.size) (hz : w3.heap.size ≤ z) (hs : s < V.length)
    (hvr : ∀ i, i < L.length → ∃ c, vals[i]? = some (.slice (some ⟨RB i, RO i, none⟩) (rw' L i).length c)) (hvl : vals.length = L.length)
    (hown : W1.ownsRow w3.heap.size 22 1 (.slice (some ⟨g, 0, none⟩) (L.length + 1) cap) (L.length + 1) (vals ++ [.slice (some ⟨SB s, SO s, none⟩) (rw' V s).length c])) (hg : (W.alloc ob).grownBy W1 u.ownBlock) (hat : u.ownBlock = some g ∨ g = W.heap.size + 1) :
    DcS w w3 b o C (.slice (some ⟨g, 0, none⟩) (L.length + 1) cap) (L ++ [rw' V s]) (fun i => if i = L.length then SB s else RB i) (fun i => if i = L.length then SO s else RO i) z V hb SB SO (s + 1) W1 := by
  have ha := below_alloc W ob
  have hsz : W.heap.size < (W.alloc ob).heap.size := lt_alloc W ob
  have hsa : (W.alloc ob).heap.size = W.heap.size + 1 := by simp
  have hob : ∀ k, u.ownBlock = some k → w3.heap.size ≤ k := fun k hk => (h.list.lt hk).1
  have hg0 : ∀ k, k < W.heap.size → u.ownBlock ≠ some k → (Value.slice (some ⟨g, 0, none⟩) (L.length + 1) cap).ownBlock ≠ some k := fun k hk hne e => by
    simp [Value.ownBlock] at e
    rcases hat with h | h
    · exact hne (by rw [h, e])
    · omega
  have hR := h.st.row s hs
  have hr := h.st.rng s hs
  have e1 : (rw' V s) = (rw' V s) := rfl
  refine { gb := ?_, cols := ?_, list := ?_, st := ?_, sep := ?_, fresh := ?_ }
  · exact gb_own (gb_below h.gb ha) hg hob
  · refine (((h.cols.below ha).imp (Q' := fun k => u.ownBlock ≠ some k ∧ k < W.heap.size + 1) (fun k hk hq => ⟨hq, by omega⟩)).kept hg (fun e => by have := hob b e.symm; omega) (fun k hk e => hk.1 e.symm)).imp fun k hk hq => ?_
    intro e
    simp [Value.ownBlock] at e
    rcases hat with h2 | h2
    · exact hq.1 (by rw [h2, e])
    · omega
  · exact h.list.push hvr hvl hR (by omega) hr.2 (fun e => by have := (h.sep _ e).2 s hs; exact this rfl) (fun i hi => h.fresh i hi s (Nat.le_refl _) hs) hown hg hat
  · exact (h.st.below ha).kept hg (fun h0 e => (h.sep _ e.symm).1 h0 rfl) (fun s' hs' e => (h.sep _ e.symm).2 s' hs' rfl)
  · intro k hk
    simp [Value.ownBlock] at hk
    refine ⟨fun h0 e => ?_, fun s' hs' e => ?_⟩
    · have h3 := h.st.hh h0
      rcases hat with h2 | h2
      · exact (h.sep _ h2).1 h0 (by omega)
      · omega
    · have h3 := h.st.rng s' hs'
      rcases hat with h2 | h2
      · exact (h.sep _ h2).2 s' hs' (by omega)
      · omega
  · intro i hi s' h1 h2
    rw [List.length_append] at hi
    by_cases e : i = L.length
    · simp only [if_pos e]; exact h.st.apart s hs s' h2 (by omega)
    · have hi2 : i < L.length := by simp at hi; omega
      simp only [if_neg e]; exact h.fresh i hi2 s' (by omega) h2

/-- The decomposition is handed back in memory of its own. -/
def DecR (L : List (List Int)) (w : World) (e : Ending) (w' : World) : Prop := ∃ a c, e = .returned (.slice a L.length c) ∧ OwnM w.heap.size w'.heap.size w' a L ∧ Below w.heap.size w w'

set_option maxRecDepth 100000 in
set_option maxHeartbeats 12800000 in
theorem decomposition_own (pS : Int) (aS : Option Addr) (S : List Int) (cS loS tpS : Nat) (am : Option Addr) (m : List (List Int)) (cm lom tpm : Nat) (w : World) (hs : isSp pS S = true) (hd : discN pS S ≠ 0) (ho : orB pS S m = true) (hS : RowIn loS tpS w aS S) (tS : tpS ≤ w.heap.size) (hm : MatIn lom tpm w am m) (tm : tpm ≤ w.heap.size) :
    Calls Tryz.prog 56 #[.agg #[.int .i64 pS, .slice aS S.length cS], .slice am m.length cm] w (DecR (decL pS S m) w) := by
  obtain ⟨j0, kj, kz0, kz1, kz2⟩ := info_parts info_slice
  have HI := Lib.hid hs
  have HD := Lib.hid hd
  have HS := Lib.hid hS
  have Hm := Lib.hid hm
  have h6 := (isSp_iff.1 hs).hi
  have hl1 := (isSp_iff.1 hs).lo
  have hpb := prm_bd (isSp_iff.1 hs).prime
  have hh := orB_all ho
  have hmS : m.length = S.length := hh.1
  have HMS := Lib.hid hmS
  have HCR : Hid (∀ i, i < m.length → (rw' m i).length = m.length) := fun i hi => by rw [(isL_iff.1 hh.2.1).len i hi, hh.2.2.1, hmS]
  have hm0 : 0 < m.length := by omega
  have hm6 : m.length ≤ 6 := by omega
  have HCO : Hid (∀ k, k ≤ S.length → Cols pS S (dcC pS S (trM m) k)) := Cols.dc hs hd (or_cols hs ho)
  have HDL : Hid ((decL pS S m).length ≤ 12) := (dec_ok hs hd ho).2
  have HLL : Hid (∀ k, k ≤ S.length → (dcL pS S (trM m) k).length ≤ 2 * k) := fun k hk => (dcL_ok hs hd (or_cols hs ho) k hk).2
  have HON : Hid (oneM m.length = oneM S.length) := by show _ = _; rw [hmS]
  have k0 := nw0 w (.int .i64 pS) (.slice aS S.length cS) 24
  have k1 := nw1 w (.int .i64 pS) (.slice aS S.length cS) 24
  have HB0 := Lib.hid (below_alloc w (.cells #[.int .i64 pS, .slice aS S.length cS] 24))
  clear hs hd ho hS hm hh hmS
  go_enter Tryz.func56, Tryz.ntmps56
  go_upto_region 1 with fail
  obtain ⟨w1, hw1⟩ : ∃ z, z = w.alloc (.cells #[.int .i64 pS, .slice aS S.length cS] 24) := ⟨_, rfl⟩
  rw [← hw1] at HB0 k0 k1 ⊢
  have hd1 : w.heap.size < w1.heap.size := by rw [hw1]; simp
  have HB1 := HB0
  clear hw1
  have SS1 := Lib.hid (And.intro k0 k1)
  go_wp2_with (first | (go_at_call 54; ((with_reducible refine (transposed_x am m m.length cm lom tpm w1 (Hm.out.below HB1.out tm) (Nat.le_trans tm HB1.out.size) hm0 rfl HCR.out (by omega)).mono ?_); rintro e w2 ⟨b, o, c, rfl, t_, b_⟩; have HT2 := Lib.hid t_; have HB2r := Lib.hid b_; have SS2 := Lib.hid (ss2 b_ hd1 SS1.out); have HB2 := Lib.hid (below_step HB1.out HB1.out.size b_); have hd2 := Nat.lt_of_lt_of_le hd1 b_.size; clear t_ b_ k0 k1)) | (go_at_call 53; ((with_reducible refine (unitMatrix_n m.length w2 (by omega) (by omega)).mono ?_); rintro e w3 ⟨ru, cu, rfl, o_, b_⟩; have HU3 : Hid (MatIn w2.heap.size w3.heap.size w3 ru (oneM S.length)) := (by show MatIn _ _ _ _ _; rw [← HON.out]; exact o_); have HT3 := Lib.hid (HT2.out.below b_); have SS3 := Lib.hid (ss2 b_ hd2 SS2.out); have HB3 := Lib.hid (below_step HB2.out HB2.out.size b_); have hd3 := Nat.lt_of_lt_of_le hd2 b_.size; have HZ3 := Lib.hid b_.size; clear o_ b_)))
  have HBW : Hid (w.heap.size < b) := Nat.lt_of_lt_of_le hd1 HT2.out.lob
  have HB2b : Hid (b < w2.heap.size) := HT2.out.hib
  have HBb : Hid (b < w3.heap.size) := Nat.lt_of_lt_of_le HT2.out.hib HZ3.out
  have HOL : Hid ((oneM S.length).length = S.length) := mk_len _ _ _
  have HTQ : Hid (TopQ w.heap.size w3 b o (trM m) (fun k => (Value.slice none 0 0).ownBlock ≠ some k)) := by
    have hc0 : Cols pS S (trM m) := HCO.out 0 (Nat.zero_le _)
    exact (TopQ.of (HT3.out.mono HB1.out.size) (fun i hi => by
      have hi' : i < S.length := by rw [← hc0.len]; exact hi
      rw [(isVec_iff.1 (hc0.vec i hi')).len]; omega)).imp (fun k _ _ => by simp [Value.ownBlock])
  go_loopw [5, 19] (fun u t wr => ∃ (i : Nat) (RB RO : Nat → Nat), i ≤ m.length ∧ t = .int .i64 i ∧ DcB w w3 b o (dcC pS S (trM m) i) u (dcL pS S (trM m) i) RB RO wr) (fun _ t _ => m.length - (intOf t).toNat)
  case atStart => exact ⟨0, fun _ => 0, fun _ => 0, Nat.zero_le _, rfl, ⟨gb_refl _ _, HTQ.out, OutW.nil _ _ _ _⟩⟩
  case round =>
    obtain ⟨i, RB, RO, hi, rfl, hD⟩ := hrel
    have HDB := Lib.hid hD
    have HBX : Hid (Below w.heap.size w wr) := gb_low hD.gb HB3.out (Nat.le_of_lt HBW.out) (Nat.le_of_lt hd3)
    have hzx := HBX.out.size
    clear hD
    by_cases hlt : i < m.length
    · have hi1 : (i : Int) < (m.length : Int) := by omega
      have hiS : i < S.length := by have := HMS.out; omega
      have HIS := Lib.hid hiS
      obtain ⟨C, hC⟩ : ∃ C, C = dcC pS S (trM m) i := ⟨_, rfl⟩
      obtain ⟨L, hL⟩ : ∃ L, L = dcL pS S (trM m) i := ⟨_, rfl⟩
      have HCC : Hid (Cols pS S C) := by show Cols _ _ _; rw [hC]; exact HCO.out i (by omega)
      have HCE := Lib.hid hC
      have HLE := Lib.hid hL
      have HLB : Hid (L.length ≤ 12) := by show _ ≤ _; rw [hL]; have := HLL.out i (by omega); omega
      rw [← hC, ← hL] at HDB
      clear hC hL
      have hr3 := gb_same (lo := w2.heap.size) HDB.out.gb HB2b.out (Nat.le_refl _)
      obtain ⟨b9, o9, re, ce, ha9, l9, hb9, hr9, hrow⟩ := (HU3.out.same hr3).row (i := i) (by rw [HOL.out]; exact hiS)
      subst ha9
      rw [ei_row hiS] at hr9 hrow
      have HRE : Hid (RowIn w2.heap.size w3.heap.size wr.drew re (eiR S.length i)) := hrow
      obtain ⟨rc, cc, hcc, hcr⟩ := HDB.out.cols.get (i := i) (by rw [HCC.out.len]; exact hiS)
      have HRC : Hid (RowIn w.heap.size wr.heap.size wr.drew rc (rw' C i)) := hcr
      have k0 := ((gb_cell HDB.out.gb (p := ⟨w.heap.size, 0, none⟩) hd3 (fun e => by injection e with e; have := HBW.out; have e2 : w.heap.size = b := e; omega)).trans SS3.out.1)
      have k1 := ((gb_cell HDB.out.gb (p := ⟨w.heap.size, 1, none⟩) hd3 (fun e => by injection e with e; have := HBW.out; have e2 : w.heap.size = b := e; omega)).trans SS3.out.2)
      have hs1 : Hid (wr.drew.cell? ⟨w.heap.size, 0, none⟩ = some (.int .i64 pS) ∧ wr.drew.cell? ⟨w.heap.size, 1, none⟩ = some (.slice aS S.length cS) ∧ wr.drew.cell? ⟨b, o + i, none⟩ = some (.slice rc (rw' C i).length cc)) := ⟨k0, k1, hcc⟩
      have HBD : Hid (Below w.heap.size w wr.drew) := HBX.out.drew
      have hg3 : w3.heap.size ≤ wr.drew.heap.size := HDB.out.gb.size
      have hbl : b < wr.drew.heap.size := HDB.out.cols.hib
      have hwl : w.heap.size < wr.drew.heap.size := Nat.lt_of_lt_of_le hd3 hg3
      have HVC : Hid (isVec pS S.length (rw' C i) = true) := HCC.out.vec i hiS
      obtain ⟨V, hV⟩ : ∃ V, V = stV pS S (rw' C i) i := ⟨_, rfl⟩
      have HVE := Lib.hid hV
      have hV2 : V.length ≤ 2 := by rw [hV]; exact st_len _ _ _ _
      have HVO : Hid (∀ s, s < V.length → isVec pS S.length (rw' V s) = true ∧ pairN pS S (rw' V s) (rw' V s) ≠ 0) := fun s hs' => st_ok HI.out HD.out hiS (HCC.out.vec i hiS) (HCC.out.nrm i hiS) _ (by rw [← hV]; exact mem_row hs')
      have HSTP : Hid (Calls Tryz.prog 80 #[.agg #[.int .i64 pS, .slice aS S.length cS], .slice rc (rw' C i).length cc, .slice re (eiR S.length i).length ce] wr.drew (StepR V wr.drew)) := by
        show Calls _ _ _ _ _
        rw [hV]
        exact stepsBetween_own pS aS S cS loS tpS rc (rw' C i) cc w.heap.size wr.heap.size re i ce w2.heap.size w3.heap.size wr.drew HI.out (HS.out.below HBD.out tS) (Nat.le_trans tS hzx) HRC.out (Nat.le_refl _) HVC.out HRE.out hg3 hiS
      clear hV hr3 hrow hcc hcr k0 k1
      go_wp2
      go_region_held3 (fun w' => w'.cell? ⟨w.heap.size, 0, none⟩ = some (.int .i64 pS) ∧ w'.cell? ⟨w.heap.size, 1, none⟩ = some (.slice aS S.length cS) ∧ w'.cell? ⟨b, o + i, none⟩ = some (.slice rc (rw' C i).length cc)) (first | exact hs1.out | exact SSa.out | go_keep) ((go_at_call 80; ((with_reducible refine (HSTP.out).mono ?_); rintro e wa ⟨as_, cs, hb, SB, SO, rfl, ha_, st_, b_⟩; have SSa : Hid (wa.cell? ⟨w.heap.size, 0, none⟩ = some (.int .i64 pS) ∧ wa.cell? ⟨w.heap.size, 1, none⟩ = some (.slice aS S.length cS) ∧ wa.cell? ⟨b, o + i, none⟩ = some (.slice rc (rw' C i).length cc)) := ⟨(b_.cell (p := ⟨w.heap.size, 0, none⟩) hwl).trans hs1.out.1, (b_.cell (p := ⟨w.heap.size, 1, none⟩) hwl).trans hs1.out.2.1, (b_.cell (p := ⟨b, o + i, none⟩) hbl).trans hs1.out.2.2⟩; have HST := Lib.hid st_; have HBa := Lib.hid b_; have HDa := Lib.hid ((DcB.below (W' := wr.drew) HDB.out (below_drew wr)).below b_); have HAS := Lib.hid ha_; clear st_ b_ ha_)))
      go_wp2
      obtain ⟨Z, hZ⟩ : ∃ z, z = wr.drew.heap.size := ⟨_, rfl⟩
      have HZ := Lib.hid hZ
      rw [← hZ] at HST hg3
      have HZW : Hid (w3.heap.size ≤ Z) := hg3
      have HLR : Hid (∀ j, j < L.length → RB j < Z) := fun j hj => by rw [hZ]; exact (HDB.out.list.rng j hj).2
      have HLK : Hid (∀ k, u5.ownBlock = some k → k < Z) := fun k hk => by rw [hZ]; exact (HDB.out.list.lt hk).2
      clear hZ hr9 hs1 hbl hwl
      go_loopw [5, 32] (fun u t wq => ∃ (s : Nat) (RB RO : Nat → Nat), s ≤ V.length ∧ t = .int .i64 s ∧ DcS w w3 b o (refA pS S (V.take s) C) u (L ++ V.take s) RB RO Z V hb SB SO s wq) (fun _ t _ => V.length - (intOf t).toNat)
      case atStart =>
        refine ⟨0, RB, RO, Nat.zero_le _, rfl, ?_⟩
        rw [List.take_zero, List.append_nil]
        refine { HDa.out with st := HST.out, sep := fun k hk => ⟨fun h0 e => ?_, fun s' hs' e => ?_⟩, fresh := fun j hj s' _ h2 => ?_ }
        · have h1 := HLK.out k hk; have := (HST.out.hh h0).1; omega
        · have h1 := HLK.out k hk; have := (HST.out.rng s' hs').1; omega
        · have h1 := HLR.out j hj; have := (HST.out.rng s' h2).1; omega
      case round =>
        rename World => wq
        obtain ⟨s, RB2, RO2, hs', rfl, hE⟩ := hrel
        have HE := Lib.hid hE
        clear hE
        by_cases hls : s < V.length
        · have hs1 : (s : Int) < (V.length : Int) := by omega
          have e0 := HAS.out (by omega)
          subst e0
          obtain ⟨v, hv⟩ : ∃ v, v = rw' V s := ⟨_, rfl⟩
          have HVV := Lib.hid hv
          have HVo := Lib.hid (HVO.out s hls)
          obtain ⟨cv, hhd⟩ := HE.out.st.hdr s hls
          obtain ⟨C2, hC2⟩ : ∃ C2, C2 = refA pS S (V.take s) C := ⟨_, rfl⟩
          obtain ⟨L2, hL2⟩ : ∃ L2, L2 = L ++ V.take s := ⟨_, rfl⟩
          have HC2 : Hid (Cols pS S C2) := by
            show Cols _ _ _
            rw [hC2]
            exact Cols.refA (isSp_iff.1 HI.out).prime _ _ HCC.out fun u hu => by
              obtain ⟨j, hj, rfl⟩ := List.getElem_of_mem hu
              have hj2 : j < V.length := by rw [List.length_take] at hj; omega
              have h := (HVO.out j hj2).2
              have e : (V.take s)[j] = rw' V j := by simp [rw', List.getD, hj2]
              rw [e]; exact h
          have HC2E : Hid (refA pS S (V.take (s + 1)) C = refC pS S v C2) := by show _ = _; rw [take_row hls, refA_snoc, hC2, hv]
          have HL2E : Hid (L ++ V.take (s + 1) = L2 ++ [v]) := by show _ = _; rw [take_row hls, hL2, hv, List.append_assoc]
          have HL2B : Hid (L2.length ≤ 14) := by show _ ≤ _; rw [hL2, List.length_append, List.length_take]; have := HLB.out; omega
          have HE2 : Hid (DcS w w3 b o C2 u5 L2 RB2 RO2 Z V hb SB SO s wq) := by
            have h := HE.out
            rw [← hC2, ← hL2] at h
            exact h
          rw [← hv] at hhd
          have HCL : Hid (C2.length = m.length) := by show _ = _; rw [HC2.out.len, HMS.out]
          clear hv hC2 hL2
          go_wp2
          go_loopw [38] (fun t wp => ∃ j : Nat, j ≤ m.length ∧ t = .int .i64 j ∧ DcS w w3 b o (mixC (rflM pS S v) C2 j) u5 L2 RB2 RO2 Z V hb SB SO s wp) (fun t _ => m.length - (intOf t).toNat)
          case atStart => exact ⟨0, Nat.zero_le _, rfl, by rw [mix_zero]; exact HE2.out⟩
          case round =>
            rename World => wp
            obtain ⟨j, hj, rfl, hF⟩ := hrel
            have HF := Lib.hid hF
            have HBp : Hid (Below w.heap.size w wp) := gb_low hF.gb HB3.out (Nat.le_of_lt HBW.out) (Nat.le_of_lt hd3)
            clear hF
            by_cases hlj : j < m.length
            · have hj1 : (j : Int) < (m.length : Int) := by omega
              have hjS : j < S.length := by have := HMS.out; omega
              have hjC : j < C2.length := by rw [HCL.out]; exact hlj
              obtain ⟨r4, c4, hc4, hrow4⟩ := HF.out.cols.get (i := j) (by rw [mix_len]; exact hjC)
              rw [mix_row _ _ hjC, if_neg (Nat.lt_irrefl _)] at hc4 hrow4
              have HR4 := Lib.hid hrow4
              have HRV : Hid (RowIn Z wp.heap.size wp (some ⟨SB s, SO s, none⟩) v) := by
                show RowIn _ _ _ _ _
                rw [HVV.out]
                exact .inr ⟨SB s, SO s, rfl, (HF.out.st.rng s hls).1, (HF.out.st.rng s hls).2, fun j hj => (HF.out.st.row s hls).cell j hj⟩
              have hvv : isVec pS S.length v = true := by rw [HVV.out]; exact HVo.out.1
              have HVI := Lib.hid hvv
              have HCI : Hid (isVec pS S.length (rw' C2 j) = true) := HC2.out.vec j hjS
              have k0 : wp.cell? ⟨w.heap.size, 0, none⟩ = some (.int .i64 pS) := ((gb_cell HF.out.gb (p := ⟨w.heap.size, 0, none⟩) hd3 (fun e => by injection e with e; have := HBW.out; have e2 : w.heap.size = b := e; omega)).trans SS3.out.1)
              have k1 : wp.cell? ⟨w.heap.size, 1, none⟩ = some (.slice aS S.length cS) := ((gb_cell HF.out.gb (p := ⟨w.heap.size, 1, none⟩) hd3 (fun e => by injection e with e; have := HBW.out; have e2 : w.heap.size = b := e; omega)).trans SS3.out.2)
              have hfr := HF.out.cols.free (o + j)
              have hr0 : 0 < (rflM pS S v (rw' C2 j)).length := by rw [rfl_len, (isVec_iff.1 HCI.out).len]; omega
              clear hrow4 hvv
              go_wp2_with (go_at_call 81; ((with_reducible refine (reflect_own pS aS S cS loS tpS (some ⟨SB s, SO s, none⟩) v cv Z wp.heap.size r4 (rw' C2 j) c4 w.heap.size wp.heap.size wp HI.out (HS.out.below HBp.out tS) (Nat.le_trans tS HBp.out.size) HRV.out (Nat.le_refl _) HVI.out HR4.out (Nat.le_refl _) HCI.out).mono ?_); rintro e wz ⟨r5, c5, rfl, o_, b_⟩; obtain ⟨b5, o5, rfl, l5_, u5_, ro_⟩ := RowOwn.of o_ hr0; have HRO := Lib.hid ro_; have HFz := Lib.hid (HF.out.below b_); have L5 := Lib.hid l5_; have U5 := Lib.hid u5_; have hcz := (b_.cell (p := ⟨b, o + j, none⟩) HF.out.cols.hib).trans hc4; have hfz := HFz.out.cols.free (o + j); clear o_ ro_ l5_ u5_ b_ hc4 hfr))
              go_roundw
              case rel =>
                refine ⟨j + 1, by omega, by go_num, ?_⟩
                rw [← mix_set _ hjC]
                exact HFz.out.store HBb.out HZW.out (by rw [mix_len]; exact hjC) (Nat.le_trans HF.out.gb.size L5.out) U5.out (Nat.le_trans HBp.out.size L5.out) (fun e => by have := (HF.out.list.lt e).2; have := L5.out; omega) (fun j hj => HRO.out.cell j hj)
              case measure => simp [intOf]; omega
            · have hj2 : ¬ (j : Int) < (m.length : Int) := by omega
              have hjn : j = C2.length := by rw [HCL.out]; omega
              have HG : Hid (DcS w w3 b o (refC pS S v C2) u5 L2 RB2 RO2 Z V hb SB SO s wp) := by
                have h := HF.out
                rw [hjn, mix_all] at h
                exact h
              obtain ⟨vals, hvo, hvr⟩ := HG.out.list.own
              have hvl : vals.length = L2.length := by have := hvo.1; omega
              have HVW := Lib.hid hvo
              have HVR := Lib.hid hvr
              have HVLn := Lib.hid hvl
              have hz0 : w3.heap.size ≤ wp.heap.size := HG.out.gb.size
              have hl14 := HL2B.out
              clear hvo hvr hvl hjn
              go_wp2_with ((at_builtin; (refine wpList_append_lies _ rfl _ _ 25 rfl w3.heap.size 22 j0 (.slice none 0 0) 1 24 Tryz.underlying25 kj kz0 kz1 kz2 rfl (by decide) u5 L2.length vals rfl (HVW.out.alloc _) ⟨wp.heap.size, 0, none⟩ 1 1 [.slice (some ⟨SB s, SO s, none⟩) v.length cv] rfl rfl (World.news_of_block (cs := #[.slice (some ⟨SB s, SO s, none⟩) v.length cv]) (t := 22) (fr := (0, 0)) (heap_alloc_new wp _)) (by simp [Value.oneCell']) (by omega) (by unfold maxLen; omega) (by omega) (by simp; omega) (wp.heap.size + 1) (by simp) ?_); intro gg cap w1 hown1 hgrow hat hlt1))
              go_roundw
              case rel =>
                refine ⟨s + 1, (fun i => if i = L2.length then SB s else RB2 i), (fun i => if i = L2.length then SO s else RO2 i), by omega, by go_num, ?_⟩
                rw [HC2E.out, HL2E.out]
                have h := HG.out.push (ob := .cells #[.slice (some ⟨SB s, SO s, none⟩) v.length cv] 22) HBb.out HZW.out hls HVR.out HVLn.out (by rw [← HVV.out]; exact hown1) hgrow hat
                rw [← HVV.out] at h
                exact h
              case measure => simp [intOf]; omega
        · have hs2 : ¬ (s : Int) < (V.length : Int) := by omega
          have hsn : s = V.length := by omega
          have HN : Hid (DcB w w3 b o (dcC pS S (trM m) (i + 1)) u5 (dcL pS S (trM m) (i + 1)) RB2 RO2 wq) := by
            have h := HE.out.toDcB
            rw [hsn, List.take_length] at h
            show DcB _ _ _ _ _ _ _ _ _ _
            rw [HVE.out, HCE.out, HLE.out] at h
            exact h
          clear hsn
          go_wp2
          go_roundw
          case rel => exact ⟨i + 1, RB2, RO2, by omega, by go_num, HN.out⟩
          case measure => simp [intOf]; omega
    · have hi2 : ¬ (i : Int) < (m.length : Int) := by omega
      have hin : i = S.length := by have := HMS.out; omega
      obtain ⟨a, c', hu, hOM⟩ := HDB.out.list.ownM
      subst hu
      have HOM : Hid (OwnM w3.heap.size wr.heap.size wr a (decL pS S m)) := by
        have h := hOM
        rw [hin] at h
        exact h
      have HLN : Hid ((decL pS S m).length = (dcL pS S (trM m) i).length) := by show _ = _; unfold decL; rw [hin]
      clear hOM hin
      go_wp2
      go_ret
      exact ⟨a, c', by rw [HLN.out]; rfl, HOM.out.mono (Nat.le_of_lt hd3) (Nat.le_refl _), HBX.out⟩

end Go.Proofs.YthbkfpkeofpocaaGreat
