/-
  CentreBasis: the program's side: contracts of the program and of the model.
  Conditions: the lists are nil or rows of known cells, of at most 1048576 numbers.
-/
import Derived.Test.YtijklpcelbnnjaaGreatQk35
import Derived.Test.YtijklpcelbnnjaaGreatQk4
import Derived.Test.YtijklpcelbnnjaaGreatQk3
import Derived.Test.YtijklpcelbnnjaaGreatQk19
import Derived.Test.YtijklpcelbnnjaaGreatQk21
import Derived.Test.YtijklpcelbnnjaaGreatQk29
import Derived.Deep.AppendLies
import Derived.Deep.RegionHeld3
import Derived.Deep.DeepCutAuto
namespace Go.Proofs.YtijklpcelbnnjaaGreat
open Go.RowKit
set_option linter.unusedVariables false

theorem OwnAt.even {lo hi : Nat} {w : World} {q : Place} {n c : Nat} {L : Nat → Nat} {Z : Nat → Nat → Int} (h : OwnAt lo hi w q n L Z) (e : ∀ i, i < n → L i = c) : OwnAt lo hi w q n (fun _ => c) Z where
  rng := h.rng
  top i hi := by have := h.top i hi; rw [e i hi] at this; exact this
  row i hi := by have := h.row i hi; rw [e i hi] at this; exact this
  rrng i hi hl := h.rrng i hi (by rw [e i hi]; exact hl)
  cell i hi j hj := h.cell i hi j (by rw [e i hi]; exact hj)
  free i hi j hj := h.free i hi j (by rw [e i hi]; exact hj)
  apart i hi i' hi' ne j hj j' hj' := h.apart i hi i' hi' ne j (by rw [e i hi]; exact hj) j' (by rw [e i' hi']; exact hj')
  tops i hi j hj i' hi' := h.tops i hi j (by rw [e i hi]; exact hj) i' hi'
/-- A row of a list that lies at a place of its own, not in the list's block. -/
def RowX (P : Nat → Nat → Prop) (B : Nat) (w : World) (v : Value) (r : Option Addr) (z : List Int) : Prop :=
  ∃ b o, r = some ⟨b, o, none⟩ ∧ P b o ∧ B ≤ b ∧ b < w.heap.size ∧ v.ownBlock ≠ some b ∧ ∀ j, j < z.length → w.cell? ⟨b, o + j, none⟩ = some (.int .i64 (z.getD j 0))
/-- A list of rows that are other lists' rows. -/
def EqL (P : Nat → Nat → Prop) (B : Nat) (w : World) (v : Value) (m : List (List Int)) : Prop :=
  ∃ vals : List Value, w.ownsRow B 24 1 v m.length vals ∧ ∀ i, i < m.length → ∃ r c, vals[i]? = some (.slice r (rw' m i).length c) ∧ RowX P B w v r (rw' m i)
theorem EqL.start (P : Nat → Nat → Prop) (B : Nat) (w : World) : EqL P B w (.slice none 0 0) [] := ⟨[], ⟨rfl, .inl ⟨rfl, rfl⟩⟩, fun i hi => absurd hi (Nat.not_lt_zero i)⟩
theorem RowX.weaken {P P' : Nat → Nat → Prop} {B : Nat} {w : World} {v : Value} {r : Option Addr} {z : List Int} (h : RowX P B w v r z) (k : ∀ b o, P b o → b < w.heap.size → P' b o) : RowX P' B w v r z := by
  obtain ⟨b, o, h0, h1, h2, h3, h4⟩ := h
  exact ⟨b, o, h0, k b o h1 h3, h2, h3, h4⟩
theorem EqL.weaken {P P' : Nat → Nat → Prop} {B : Nat} {w : World} {v : Value} {m : List (List Int)} (h : EqL P B w v m) (k : ∀ b o, P b o → b < w.heap.size → P' b o) : EqL P' B w v m := by
  obtain ⟨vals, ho, hr⟩ := h
  refine ⟨vals, ho, fun i hi => ?_⟩
  obtain ⟨r, c, h1, h2⟩ := hr i hi
  exact ⟨r, c, h1, h2.weaken k⟩
theorem RowX.below {P : Nat → Nat → Prop} {B : Nat} {w w' : World} {v : Value} {r : Option Addr} {z : List Int} (h : RowX P B w v r z) (hb : Below w.heap.size w w') : RowX P B w' v r z := by
  obtain ⟨b, o, h0, h1, h2, h3, h4, h5⟩ := h
  exact ⟨b, o, h0, h1, h2, Nat.lt_of_lt_of_le h3 hb.size, h4, fun j hj => (hb.cell (p := ⟨b, o + j, none⟩) h3).trans (h5 j hj)⟩
theorem EqL.below {P : Nat → Nat → Prop} {B : Nat} {w w' : World} {v : Value} {m : List (List Int)} (h : EqL P B w v m) (hb : Below w.heap.size w w') : EqL P B w' v m := by
  obtain ⟨vals, ho, hr⟩ := h
  refine ⟨vals, ho.kept (below_grown hb) (by cases hv : v.ownBlock <;> simp), fun i hi => ?_⟩
  obtain ⟨r, c, h1, h2⟩ := hr i hi
  exact ⟨r, c, h1, h2.below hb⟩
/-- Another row is rewritten. -/
theorem EqL.wrote {P : Nat → Nat → Prop} {B b o n N : Nat} {w w' : World} {v : Value} {m : List (List Int)} (h : EqL P B w v m) (k : Wrote b o n w w') (hv : v.ownBlock ≠ some b) (hN : ∀ i, i < m.length → (rw' m i).length = N)
    (hP : ∀ c d, P c d → ∀ j, j < N → ∀ i, i < n → ¬ (c = b ∧ d + j = o + i)) : EqL P B w' v m := by
  obtain ⟨vals, ho, hr⟩ := h
  refine ⟨vals, ho.kept (row := some b) ⟨k.os, k.tape, k.output, Nat.le_of_eq k.size.symm, fun i _ ne => k.block i (fun e => ne (by rw [e]))⟩ (.inr hv), fun i hi => ?_⟩
  obtain ⟨r, c, h1, c', d, h2, h3, h4, h5, h6, h7⟩ := hr i hi
  refine ⟨r, c, h1, c', d, h2, h3, h4, by rw [k.size]; exact h5, h6, fun j hj => ?_⟩
  exact (k.cellOut (fun ⟨e, i', hi', e2⟩ => hP c' d h3 j (by rw [← hN i hi]; exact hj) i' hi' ⟨e, e2⟩)).trans (h7 j hj)
theorem RowX.grown {P : Nat → Nat → Prop} {B : Nat} {w w1 : World} {v v' : Value} {r : Option Addr} {z : List Int} (h : RowX P B w v r z) (hg : w.grownBy w1 v.ownBlock) (hat : ∀ g, v'.ownBlock = some g → v.ownBlock = some g ∨ w.heap.size ≤ g) : RowX P B w1 v' r z := by
  obtain ⟨b, o, h0, h1, h2, h3, h4, h5⟩ := h
  refine ⟨b, o, h0, h1, h2, Nat.lt_of_lt_of_le h3 hg.size, fun e => ?_, fun j hj => ?_⟩
  · rcases hat b e with h | h
    · exact h4 h
    · omega
  · exact (World.cell?_of_block (w := w) (a := ⟨b, o + j, none⟩) (hg.block b h3 (fun e => h4 e.symm))).trans (h5 j hj)
theorem EqL.push {P : Nat → Nat → Prop} {B n N : Nat} {w w1 : World} {o : Obj} {v v' : Value} {m : List (List Int)} {vals : List Value} {r : Option Addr} {c : Nat} (hn : n < m.length) (hN : (rw' m n).length = N)
    (hr : ∀ i, i < n → ∃ r c', vals[i]? = some (.slice r (rw' (m.take n) i).length c') ∧ RowX P B w v r (rw' (m.take n) i)) (hvl : vals.length = n)
    (hz : RowX P B w v r (rw' m n)) (h1 : w1.ownsRow B 24 1 v' (n + 1) (vals ++ [.slice r N c])) (hg : (w.alloc o).grownBy w1 v.ownBlock) (hat : ∀ g, v'.ownBlock = some g → v.ownBlock = some g ∨ (w.alloc o).heap.size ≤ g) : EqL P B w1 v' (m.take (n + 1)) := by
  have hb : Below w.heap.size w (w.alloc o) := (Below.refl _ _).alloc (Nat.le_refl _) o
  have hl : (m.take n).length = n := by rw [List.length_take]; omega
  rw [take_snoc' hn]
  refine ⟨vals ++ [.slice r N c], by rw [List.length_append, hl]; exact h1, fun i hi => ?_⟩
  rw [List.length_append, hl] at hi
  simp only [List.length_cons, List.length_nil] at hi
  by_cases e : i < n
  · obtain ⟨r', c', g1, g2⟩ := hr i e
    rw [rw_append (by rw [hl]; exact e)]
    exact ⟨r', c', by rw [List.getElem?_append_left (by omega)]; exact g1, (g2.below hb).grown hg hat⟩
  · have hin : i = (m.take n).length := by omega
    have hin2 : i = vals.length := by omega
    have e1 : rw' (m.take n ++ [rw' m n]) i = rw' m n := by rw [hin]; exact rw_append_last _ _
    rw [e1, hN]
    refine ⟨r, c, by rw [hin2]; simp, (hz.below hb).grown hg hat⟩
theorem EqL.mat {P : Nat → Nat → Prop} {B : Nat} {w : World} {v : Value} {m : List (List Int)} (h : EqL P B w v m) : ∃ a c, v = .slice a m.length c ∧ MatIn B w.heap.size w a m := by
  obtain ⟨vals, ho, hr⟩ := h
  rcases ho.2 with ⟨rfl, hn⟩ | ⟨g, cap, cur, rfl, hb, hg, hnc, hcm, hcs, htake⟩
  · exact ⟨none, 0, by rw [hn], .inl (List.eq_nil_of_length_eq_zero hn)⟩
  · have hlt : g < w.heap.size := (Array.getElem?_eq_some_iff.1 hg).1
    refine ⟨_, cap, rfl, .inr ⟨g, 0, rfl, hb, hlt, fun i hi => ?_⟩⟩
    obtain ⟨r, c, h1, b, o, h2, _, h4, h5, _, h7⟩ := hr i hi
    refine ⟨r, c, ?_, .inr ⟨b, o, h2, h4, h5, h7⟩⟩
    have := ho.cells (g := g) rfl i _ h1
    rwa [Addr.add_lit] at this
theorem basisVectors_n (pS : Int) (aS : Option Addr) (S : List Int) (cS : Nat) (w : World) (h6 : S.length ≤ 6) :
    Calls Tryz.prog 41 #[.agg #[.int .i64 pS, .slice aS S.length cS]] w fun e w' => ∃ r c, e = .returned (.slice r S.length c) ∧ MatIn w.heap.size w'.heap.size w' r (bvM S) ∧ Below w.heap.size w w' :=
  (basisVectors_any pS aS S cS w h6).mono fun _ _ ⟨r, c, h, o, b⟩ => ⟨r, c, by rw [h, bv_len], o, b⟩
theorem rightMatrix_9 (p : Int) (aS : Option Addr) (S : List Int) (cS loS tpS : Nat) (a : Option Addr) (q c lo tp : Nat) (w : World) (hs : isSp p S = true) (hS : RowIn loS tpS w aS S) (tS : tpS ≤ w.heap.size) (hb : RowIn lo tp w a (bladeM S q)) (tb : tp ≤ w.heap.size) :
    Calls Tryz.prog 42 #[.agg #[.int .i64 p, .slice aS S.length cS], .slice a (bl S) c] w fun e w' => ∃ r c', e = .returned (.slice r (bl S) c') ∧ MatIn w.heap.size w'.heap.size w' r (rightM p S (bladeM S q)) ∧ Below w.heap.size w w' := by
  have h := rightMatrix_own p aS S cS loS tpS a (bladeM S q) c lo tp w hs hS tS hb tb (blade_mv hs q)
  rw [blade_len] at h
  exact h.mono fun _ _ ⟨r, c, h, o, b⟩ => ⟨r, c, by rw [h, right_len], o.mat, b⟩
theorem leftMatrix_9 (p : Int) (aS : Option Addr) (S : List Int) (cS loS tpS : Nat) (a : Option Addr) (q c lo tp : Nat) (w : World) (hs : isSp p S = true) (hS : RowIn loS tpS w aS S) (tS : tpS ≤ w.heap.size) (hb : RowIn lo tp w a (bladeM S q)) (tb : tp ≤ w.heap.size) :
    Calls Tryz.prog 43 #[.agg #[.int .i64 p, .slice aS S.length cS], .slice a (bl S) c] w fun e w' => ∃ (Q : Place) (c' : Nat), e = .returned (.slice (some ⟨Q.b, Q.o, none⟩) (bl S) c') ∧ OwnAt w.heap.size w'.heap.size w' Q (bl S) (fun _ => bl S) (at' (leftM p S (bladeM S q))) ∧ Below w.heap.size w w' := by
  have h := leftMatrix_any p aS S cS loS tpS a (bladeM S q) c lo tp w hs hS tS hb tb (blade_mv hs q)
  rw [blade_len] at h
  have hll : (leftM p S (bladeM S q)).length = bl S := mk_len _ _ _
  have hb0 := bl_pos S
  refine h.mono fun _ _ ⟨r, c, h, o, b⟩ => ?_
  rcases o with h0 | ⟨Q, ha, ho⟩
  · rw [h0] at hll; simp at hll; omega
  · subst ha
    rw [hll] at h ho
    exact ⟨Q, c, h, ho.even (fun i hi => mk_rowLen _ hi), b⟩
theorem addMultiple_9 (p k : Int) (b o n c : Nat) (f : Nat → Int) (a : Option Addr) (z : List Int) (nz cz lo tp : Nat) (w : World) (hnz : z.length = nz) (hp : prm p = true) (h : RowOwn w b o n f) (hz : RowIn lo tp w a z) (hb : b < lo ∨ tp ≤ b) (hl : n ≤ z.length) (hn : z.length ≤ 100000) (hf : ∀ j, j < n → 0 ≤ f j ∧ f j < p) (hzn : Nums p z) (k0 : 0 ≤ k) (k1 : k ≤ p) :
    Calls Tryz.prog 44 #[.int .i64 p, .slice (some ⟨b, o, none⟩) n c, .int .i64 k, .slice a nz cz] w fun e w' => e = .returned (.tuple #[]) ∧ RowOwn w' b o n (fun j => (f j + k * z.getD j 0) % p) ∧ Wrote b o n w w' := by
  subst hnz; exact addMultiple_any p k b o n c f a z cz lo tp w hp h hz hb hl hn hf hzn k0 k1
theorem ce_cell {p : Int} {S : List Int} {i k j : Nat} (hi : i < S.length) (hk : k < bl S) (hj : j < bl S) : (rw' (ceM p S) (i * bl S + k)).getD j 0 = (at' (leftM p S (bladeM S (2 ^ i))) k j + (p - 1) * (rw' (rightM p S (bladeM S (2 ^ i))) k).getD j 0) % p := by
  rw [ce_row hi hk, mkR_at _ hj]; rfl

set_option maxRecDepth 100000 in
set_option maxHeartbeats 12800000 in
theorem centre_own (pS : Int) (aS : Option Addr) (S : List Int) (cS loS tpS : Nat) (w : World) (hs : isSp pS S = true) (h4 : S.length ≤ 4) (hS : RowIn loS tpS w aS S) (tS : tpS ≤ w.heap.size) :
    Calls Tryz.prog 21 #[.agg #[.int .i64 pS, .slice aS S.length cS]] w (OwnK (kerB pS (ceM pS S)) w) := by
  have HS := Lib.hid hS
  have k0 := nw0 w (.int .i64 pS) (.slice aS S.length cS) 26
  have k1 := nw1 w (.int .i64 pS) (.slice aS S.length cS) 26
  have HB0 := Lib.hid (below_alloc w (.cells #[.int .i64 pS, .slice aS S.length cS] 26))
  clear hS
  have HI := Lib.hid hs
  have H4 := Lib.hid h4
  have h6 := (isSp_iff.1 hs).hi
  have hbl := bl_le h6
  have hb16 := bl_st h4
  have hb0 := bl_pos S
  have hpb := prm_bd (isSp_iff.1 hs).prime
  have HP := Lib.hid (isSp_iff.1 hs).prime
  have HRW := Lib.hid (ce_rows hs h4)
  obtain ⟨M, hM⟩ : ∃ m, m = ceM pS S := ⟨_, rfl⟩
  have HML : Hid (M.length = S.length * bl S) := by show _ = _; rw [hM]; exact ce_len _ _
  have HMR : Hid (∀ r, r < M.length → (rw' M r).length = bl S) := fun r hr => by rw [hM]; rw [hM, ce_len] at hr; exact mk_rowLen _ hr
  have HMC : Hid (∀ i k j, i < S.length → k < bl S → j < bl S → (rw' M (i * bl S + k)).getD j 0 = (at' (leftM pS S (bladeM S (2 ^ i))) k j + (pS - 1) * (rw' (rightM pS S (bladeM S (2 ^ i))) k).getD j 0) % pS) := fun i k j h1 h2 h3 => by rw [hM]; exact ce_cell h1 h2 h3
  rw [← hM] at HRW ⊢
  clear hM h4
  obtain ⟨j0, kj, kz0, kz1, kz2⟩ := info_parts info_slice
  clear hs
  go_enter Tryz.func21, Tryz.ntmps21
  go_upto_region 1 with fail
  obtain ⟨w1, hw1⟩ : ∃ z, z = w.alloc (.cells #[.int .i64 pS, .slice aS S.length cS] 26) := ⟨_, rfl⟩
  rw [← hw1] at HB0 k0 k1 ⊢
  have hd1 : w.heap.size < w1.heap.size := by rw [hw1]; simp
  have HB1 := HB0
  clear hw1
  have SS1 := Lib.hid (And.intro k0 k1)
  go_wp2_with (go_at_call 41; ((with_reducible refine (basisVectors_n pS aS S cS w1 h6).mono ?_); rintro e wB ⟨rb, cb, rfl, o_, b_⟩; have SSB := Lib.hid (ss2 b_ hd1 SS1.out); have HBB := Lib.hid (below_step HB1.out HB1.out.size b_); have HBV := Lib.hid o_; have hdB := Nat.lt_of_lt_of_le hd1 b_.size; clear o_ k0 k1; obtain ⟨k0, k1⟩ := SSB.out; clear b_))
  go_loopw [3, 12] (fun u  t  wr => ∃ i : Nat, i ≤ S.length ∧ t = .int .i64 i ∧ EqL (fun _ _ => True) wB.heap.size wr u (M.take (i * bl S)) ∧ Below wB.heap.size wB wr) (fun _  t  _ => S.length - (intOf t).toNat)
  case atStart => exact ⟨0, Nat.zero_le _, rfl, by rw [Nat.zero_mul]; exact EqL.start _ _ _, Below.refl _ _⟩
  case round =>
    obtain ⟨i, hi, rfl, ho, hbel⟩ := hrel
    obtain ⟨V3, hV3⟩ : ∃ z, z = u3 := ⟨_, rfl⟩
    rw [← hV3] at ho ⊢
    clear hV3
    have HO := Lib.hid ho
    have HB := Lib.hid hbel
    have hwz := hbel.size
    clear k0 k1
    have k0 := (hbel.cell (p := ⟨w.heap.size, 0, none⟩) hdB).trans SSB.out.1
    have k1 := (hbel.cell (p := ⟨w.heap.size, 1, none⟩) hdB).trans SSB.out.2
    have SSr := Lib.hid (And.intro k0 k1)
    have hlw : w.heap.size < wr.heap.size := Nat.lt_of_lt_of_le hdB hwz
    have HBr : Hid (Below w.heap.size w wr) := HBB.out.trans (HB.out.mono HBB.out.size)
    clear ho hbel
    by_cases hlt : i < S.length
    · have hi1 : (i : Int) < (S.length : Int) := Int.ofNat_lt.2 hlt
      obtain ⟨q, hq⟩ : ∃ q, q = 2 ^ i := ⟨_, rfl⟩
      have HQ := Lib.hid hq
      obtain ⟨be, oe, re, ce, hae, _, hbe, hre, hrowe⟩ := (HBV.out.below HB.out (Nat.le_refl _)).row (show i < (bvM S).length by rw [bv_len]; exact hlt)
      subst hae
      rw [bv_row hlt, ← hq] at hre hrowe
      rw [blade_len] at hre
      have HE := Lib.hid hrowe
      have HMI : Hid (∀ k j, k < bl S → j < bl S → (rw' M (i * bl S + k)).getD j 0 = (at' (leftM pS S (bladeM S q)) k j + (pS - 1) * (rw' (rightM pS S (bladeM S q)) k).getD j 0) % pS) := fun k j h2 h3 => by rw [HQ.out]; exact HMC.out i k j hlt h2 h3
      clear hq hrowe
      go_wp2_with (first | (go_at_call 42; ((with_reducible refine (rightMatrix_9 pS aS S cS loS tpS re q ce _ _ wr HI.out (HS.out.below HBr.out tS) (Nat.le_trans tS HBr.out.size) HE.out hwz).mono ?_); rintro e wR ⟨rR, cR, rfl, o_, b_⟩; have HRM := Lib.hid o_; have HBR := Lib.hid b_; have SSR := Lib.hid (ss2 b_ hlw SSr.out); have hlR := Nat.lt_of_lt_of_le hlw b_.size; clear o_ k0 k1; obtain ⟨k0, k1⟩ := SSR.out; clear b_)) | (go_at_call 43; ((with_reducible refine (leftMatrix_9 pS aS S cS loS tpS re q ce _ _ wR HI.out (HS.out.below (HBr.out.trans (HBR.out.mono (Nat.le_of_lt hlw))) tS) (Nat.le_trans tS (Nat.le_trans HBr.out.size HBR.out.size)) (HE.out.below HBR.out hwz) (Nat.le_trans hwz HBR.out.size)).mono ?_); rintro e wL ⟨Q, cL, rfl, o_, b_⟩; have HLO := Lib.hid o_; have HBL := Lib.hid b_; have HBLx := HBL; have SSL := Lib.hid (ss2 b_ hlR SSR.out); have hlL := Nat.lt_of_lt_of_le hlR b_.size; clear o_ k0 k1; obtain ⟨k0, k1⟩ := SSL.out; clear b_)))
      obtain ⟨L, hL⟩ : ∃ l, l = leftM pS S (bladeM S q) := ⟨_, rfl⟩
      obtain ⟨R, hR⟩ : ∃ r, r = rightM pS S (bladeM S q) := ⟨_, rfl⟩
      have HLL : Hid (Lst 1 pS L) := by show Lst _ _ _; rw [hL]; exact left_wide HI.out H4.out _
      have HRL : Hid (Lst 1 pS R) := by show Lst _ _ _; rw [hR]; exact right_lst HI.out H4.out _
      have HLn : Hid (L.length = bl S) := by show _ = _; rw [hL]; exact mk_len _ _ _
      have HRn : Hid (R.length = bl S) := by show _ = _; rw [hR]; exact right_len _ _ _
      have HLr : Hid (∀ k, k < bl S → (rw' L k).length = bl S) := fun k hk => by rw [hL]; exact mk_rowLen _ hk
      have HRr : Hid (∀ k, k < bl S → (rw' R k).length = bl S) := fun k hk => by rw [hR]; exact right_rl hk
      rw [← hL] at HLO HMI
      rw [← hR] at HRM HMI
      clear hL hR
      have hzR : wr.heap.size ≤ wR.heap.size := HBR.out.size
      have hzL : wR.heap.size ≤ wL.heap.size := HBL.out.size
      have hBr : wB.heap.size ≤ wR.heap.size := Nat.le_trans hwz hzR
      have HBW : Hid (Below wr.heap.size wr wL) := HBR.out.trans (HBL.out.mono hzR)
      have HE0 : Hid (EqL (fun b o => ∀ a, 0 ≤ a → a < bl S → ∀ j, j < bl S → ∀ j', j' < bl S → ¬ (b = Q.B a ∧ o + j = Q.O a + j')) wB.heap.size wL V3 (M.take (i * bl S + 0))) := (HO.out.weaken (fun b o _ hb a _ ha j _ j' _ e => by have := (HLO.out.rrng a ha hb0).1; omega)).below HBW.out
      have HB0L : Hid (Below wB.heap.size wB wL) := HB.out.trans (HBW.out.mono hwz)
      have hov : ∀ g, Value.ownBlock V3 = some g → g < wr.heap.size ∨ wL.heap.size ≤ g := fun g hg => by
        obtain ⟨vals, hvo, _⟩ := HO.out
        exact .inl (hvo.lt g hg).2
      clear HBR HBL HBW HE hre
      go_wp2
      go_loopw [3, 23] (fun u  t wr2 => ∃ k : Nat, k ≤ bl S ∧ t = .int .i64 k ∧ EqL (fun b o => ∀ a, k ≤ a → a < bl S → ∀ j, j < bl S → ∀ j', j' < bl S → ¬ (b = Q.B a ∧ o + j = Q.O a + j')) wB.heap.size wr2 u (M.take (i * bl S + k)) ∧ OwnAt wR.heap.size wL.heap.size wr2 Q (bl S) (fun _ => bl S) (fun a j => if a < k then (rw' M (i * bl S + a)).getD j 0 else at' L a j) ∧ Below wB.heap.size wB wr2 ∧ Same wr.heap.size wR.heap.size wR wr2 ∧ wL.heap.size ≤ wr2.heap.size ∧ (∀ g, Value.ownBlock u = some g → g < wr.heap.size ∨ wL.heap.size ≤ g)) (fun _  t _ => bl S - (intOf t).toNat)
      case atStart => exact ⟨0, Nat.zero_le _, rfl, HE0.out, HLO.out.congr (fun a _ j _ => by rw [if_neg (Nat.not_lt_zero a)]), HB0L.out, same_of_below HBLx.out (Nat.le_refl _), Nat.le_refl _, hov⟩
      case round =>
        obtain ⟨k, hk, rfl, ho, how, hbel, hsm, hsz, hov2⟩ := hrel
        rename World => wq
        obtain ⟨V5, hV5⟩ : ∃ z, z = u3 := ⟨_, rfl⟩
        rw [← hV5] at ho hov2 ⊢
        clear hV5
        have HO2 := Lib.hid ho
        have HOW := Lib.hid how
        have HBq := Lib.hid hbel
        have HSM := Lib.hid hsm
        have HOV := Lib.hid hov2
        have hk0_ := (hbel.cell (p := ⟨w.heap.size, 0, none⟩) hdB).trans SSB.out.1
        have hk1_ := (hbel.cell (p := ⟨w.heap.size, 1, none⟩) hdB).trans SSB.out.2
        clear ho how hbel hsm hov2 k0 k1
        by_cases hkt : k < bl S
        · have hi2 : (k : Int) < (bl S : Int) := Int.ofNat_lt.2 hkt
          obtain ⟨hkx, _, _⟩ := ce_idx hlt hkt
          have hkm : i * bl S + k < M.length := by rw [HML.out]; exact hkx
          have hkc : i * bl S + k < 64 := Nat.lt_of_lt_of_le hkx (by have := Nat.mul_le_mul H4.out hb16; omega)
          have HTL : Hid ((M.take (i * bl S + k)).length = i * bl S + k) := by show _ = _; rw [List.length_take]; omega
          have HTR : Hid (∀ r, r < (M.take (i * bl S + k)).length → (rw' (M.take (i * bl S + k)) r).length = bl S) := fun r hr => by
            rw [HTL.out] at hr
            rw [rw_take hr]; exact HMR.out r (by omega)
          obtain ⟨n, hn⟩ : ∃ n, n = i * bl S + k := ⟨_, rfl⟩
          have HN := Lib.hid hn
          have ht3 := HOW.out.top k hkt
          have hRk := (HOW.out.row k hkt).resolve_left (by omega)
          rw [hRk] at ht3
          have hrg := HOW.out.rrng k hkt hb0
          have HRG := Lib.hid hrg
          obtain ⟨b9, o9, rr, cr, ha9, g9, hb9, hr9, hrow9⟩ := (HRM.out.same HSM.out).row (show k < R.length by rw [HRn.out]; exact hkt)
          subst ha9
          have hRL : (rw' R k).length = bl S := HRr.out k hkt
          rw [hRL] at hr9
          have HRLn := Lib.hid hRL
          have HX9 : Hid (RowIn wr.heap.size wR.heap.size wq.drew rr (rw' R k)) := hrow9.below (below_drew wq) (Nat.le_trans hzL hsz)
          have HRO : Hid (RowOwn wq.drew (Q.B k) (Q.O k) (bl S) (fun j => at' L k j)) := ⟨fun j hj => by
            have h := HOW.out.cell k hkt j hj
            rw [if_neg (Nat.lt_irrefl _)] at h
            exact h, fun j hj => HOW.out.free k hkt j hj⟩
          have hw1_ : wrap64 (pS - 1) = pS - 1 := by unfold wrap64; omega
          have hw2_ : IntKind.i64.wrap (pS - 1) = pS - 1 := IntWalk.i64_in _ (by omega)
          have HN1 := Lib.hid (lw_nums HI.out H4.out HLL.out (show k < L.length by rw [HLn.out]; exact hkt))
          have HN2 : Hid (Nums pS (rw' R k)) := lw_nums HI.out H4.out HRL.out (show k < R.length by rw [HRn.out]; exact hkt)
          have HDL : Hid (∀ j, j < bl S → 0 ≤ (fun j => at' L k j) j ∧ (fun j => at' L k j) j < pS) := fun j hj => HN1.out j (by rw [HLr.out k hkt]; exact hj)
          have hp0 : 0 ≤ pS - 1 := by omega
          have hp1 : pS - 1 ≤ pS := by omega
          have hn1 : bl S ≤ (rw' R k).length := by rw [hRL]; exact Nat.le_refl _
          have hn2 : (rw' R k).length ≤ 100000 := by rw [hRL]; omega
          have htq : wR.heap.size ≤ Q.B k := hrg.1
          have htz : wR.heap.size ≤ wq.drew.heap.size := Nat.le_trans hzL hsz
          have hne : w.heap.size ≠ Q.B k := by omega
          have hne9 : b9 ≠ Q.B k := by omega
          have hs4 : Hid (wq.drew.cell? ⟨w.heap.size, 0, none⟩ = some (.int .i64 pS) ∧ wq.drew.cell? ⟨w.heap.size, 1, none⟩ = some (.slice aS S.length cS) ∧ wq.drew.cell? ⟨b9, o9 + k, none⟩ = some (.slice rr (bl S) cr)) := ⟨hk0_, hk1_, hr9⟩
          have hqz : wB.heap.size ≤ wq.heap.size := HBq.out.size
          have hdq : w.heap.size < wq.heap.size := Nat.lt_of_lt_of_le hdB hqz
          have HOD : Hid (EqL (fun b o => ∀ a, k ≤ a → a < bl S → ∀ j, j < bl S → ∀ j', j' < bl S → ¬ (b = Q.B a ∧ o + j = Q.O a + j')) wB.heap.size wq.drew V5 (M.take (i * bl S + k))) := HO2.out.below (below_drew wq)
          have hvk : Value.ownBlock V5 ≠ some (Q.B k) := fun e => by have := HOV.out _ e; omega
          clear hrg hrow9 hk0_ hk1_ hRk HO2 hRL
          go_wp2
          go_region_held3 (fun w' => w'.cell? ⟨w.heap.size, 0, none⟩ = some (.int .i64 pS) ∧ w'.cell? ⟨w.heap.size, 1, none⟩ = some (.slice aS S.length cS) ∧ w'.cell? ⟨b9, o9 + k, none⟩ = some (.slice rr (bl S) cr)) (first | exact hs4.out | exact SSa.out | go_keep) ((go_at_call 44; ((with_reducible refine (addMultiple_9 pS (pS - 1) (Q.B k) (Q.O k) (bl S) (Q.C k) (fun j => at' L k j) rr (rw' R k) (bl S) cr wr.heap.size wR.heap.size wq.drew HRLn.out HP.out HRO.out HX9.out (.inr htq) hn1 hn2 HDL.out HN2.out hp0 hp1).mono ?_); rintro e wa ⟨rfl, o_, q_⟩; have SSa : Hid (wa.cell? ⟨w.heap.size, 0, none⟩ = some (.int .i64 pS) ∧ wa.cell? ⟨w.heap.size, 1, none⟩ = some (.slice aS S.length cS) ∧ wa.cell? ⟨b9, o9 + k, none⟩ = some (.slice rr (bl S) cr)) := ⟨(World.cell?_of_block (w := wq.drew) (a := ⟨w.heap.size, 0, none⟩) (q_.block _ hne)).trans hs4.out.1, (World.cell?_of_block (w := wq.drew) (a := ⟨w.heap.size, 1, none⟩) (q_.block _ hne)).trans hs4.out.2.1, (World.cell?_of_block (w := wq.drew) (a := ⟨b9, o9 + k, none⟩) (q_.block _ hne9)).trans hs4.out.2.2⟩; have OO := Lib.hid o_; have QQ := Lib.hid q_; clear o_ q_)))
          have HWA : Hid (wa.heap.size = wq.heap.size) := QQ.out.size
          have HEA := HOD.out.wrote QQ.out hvk HTR.out (fun c d h j hj a ha => h k (Nat.le_refl _) hkt j hj a ha)
          have HEB := HEA.weaken (P' := fun b o => ∀ a, k + 1 ≤ a → a < bl S → ∀ j, j < bl S → ∀ j', j' < bl S → ¬ (b = Q.B a ∧ o + j = Q.O a + j')) (fun b o h _ a h1 h2 => h a (Nat.le_of_succ_le h1) h2)
          obtain ⟨vals, hvo, hvr⟩ := HEB
          rw [HTL.out, ← hn] at hvo
          rw [HTL.out, ← hn] at hvr
          have HVO := Lib.hid hvo
          have HVR := Lib.hid hvr
          have HRX : Hid (RowX (fun b o => ∀ a, k + 1 ≤ a → a < bl S → ∀ j, j < bl S → ∀ j', j' < bl S → ¬ (b = Q.B a ∧ o + j = Q.O a + j')) wB.heap.size wa V5 (some ⟨Q.B k, Q.O k, none⟩) (rw' M n)) := ⟨Q.B k, Q.O k, rfl, fun a h1 h2 j hj j' hj' e => HOW.out.apart k hkt a h2 (by omega) j hj j' hj' e, Nat.le_trans hBr htq, by rw [HWA.out]; have := HRG.out.2; omega, hvk, fun j hj => by
            rw [hn] at hj ⊢
            rw [HMR.out _ hkm] at hj
            rw [OO.out.cell j hj, HMI.out k j hkt hj]⟩
          have hnM : n < M.length := by rw [hn]; exact hkm
          have hn64 : n < 64 := by rw [hn]; exact hkc
          have HBa : Hid (Below wB.heap.size wB wa) := HBq.out.drew.trans (QQ.out.belowB (Nat.le_trans hBr htq))
          have hza : wB.heap.size ≤ wa.heap.size := HBa.out.size
          have hzaL : wL.heap.size ≤ wa.heap.size := by rw [HWA.out]; exact hsz
          clear hvo hvr HEA hn HOD
          go_wp2_with (at_builtin; (refine wpList_append_lies _ rfl _ _ 28 rfl wB.heap.size 24 j0 (.slice none 0 0) 1 24 Tryz.underlying28 kj kz0 kz1 kz2 rfl (by decide) V5 n vals rfl (HVO.out.alloc _) ⟨wa.heap.size, 0, none⟩ 1 1 [.slice (some ⟨Q.B k, Q.O k, none⟩) (bl S) (Q.C k)] rfl rfl (World.news_of_block (cs := #[.slice (some ⟨Q.B k, Q.O k, none⟩) (bl S) (Q.C k)]) (t := 24) (fr := (0, 0)) (heap_alloc_new wa _)) (by simp [Value.oneCell']) (by omega) (by unfold maxLen; omega) (by omega) (by simp; omega) (wa.heap.size + 1) (by simp) ?_); intro g4 cap4 w4 hown4 hgrow4 hat4 hlt4)
          have HSa4 : ∀ lo hi, hi ≤ wL.heap.size → wr.heap.size ≤ lo → Same lo hi wa w4 := fun lo hi h1 h2 => same_grown hgrow4 (Nat.le_trans h1 hzaL) (fun g hg => by have := HOV.out g hg; omega)
          have HS9 := Lib.hid HSa4
          have HO4 := Lib.hid hown4
          have HG4 := Lib.hid hgrow4
          have HA4 := Lib.hid hat4
          have HB4 : Hid (Below wB.heap.size wB w4) := (HBa.out.alloc hza _).grown hgrow4 (by simp; omega) (fun _ hk => (HVO.out.lt _ hk).1)
          have hz4 : wL.heap.size ≤ w4.heap.size := Nat.le_trans hzaL (Nat.le_trans (size_alloc wa _) hgrow4.size)
          have hga : ∀ g, Value.ownBlock (.slice (some ⟨g4, 0, none⟩) (n + 1) cap4) = some g → Value.ownBlock V5 = some g ∨ wa.heap.size + 1 ≤ g := fun g hg => by
            have hg2 : some g4 = some g := hg
            injection hg2 with hg3
            subst hg3
            rcases HA4.out with h | h
            · exact .inl h
            · right; omega
          clear hown4 hgrow4 hat4 HSa4
          go_wp2
          go_roundw
          case rel => exact ⟨k + 1, by omega, by go_num, by rw [← Nat.add_assoc, ← HN.out]; exact EqL.push hnM (HMR.out n hnM) HVR.out (by have := HVO.out.1; omega) HRX.out HO4.out HG4.out (fun g hg => (hga g hg).imp id (fun h => by simpa using h)), (((HOW.out.same (w' := wq.drew) (fun _ _ _ => rfl)).wrote hkt QQ.out _ (fun j hj => OO.out.cell j hj)).congr (fun a ha j hj => by
            show (if a = k then (at' L k j + (pS - 1) * (rw' R k).getD j 0) % pS else if a < k then (rw' M (i * bl S + a)).getD j 0 else at' L a j) = if a < k + 1 then (rw' M (i * bl S + a)).getD j 0 else at' L a j
            by_cases e : a = k
            · subst e; rw [if_pos rfl, if_pos (Nat.lt_succ_self _), HMI.out a j ha hj]
            · rw [if_neg e]
              by_cases l : a < k
              · rw [if_pos l, if_pos (show a < k + 1 by omega)]
              · rw [if_neg l, if_neg (show ¬ a < k + 1 by omega)])).same (HS9.out _ _ (Nat.le_refl _) hzR), HB4.out, same_trans HSM.out (same_trans (fun b _ h1 => QQ.out.block b (by omega)) (HS9.out _ _ hzL (Nat.le_refl _))), hz4, fun g hg => by
              rcases hga g hg with h | h
              · exact HOV.out _ h
              · right; omega⟩
          case measure => simp [intOf]; omega
        · have hkn : k = bl S := by omega
          subst hkn
          have hi2 : ¬ ((bl S : Nat) : Int) < (bl S : Int) := Int.lt_irrefl _
          go_wp2
          go_roundw
          case rel => exact ⟨i + 1, by omega, by go_num, by rw [Nat.add_mul, Nat.one_mul]; exact HO2.out.weaken (fun _ _ _ _ => trivial), HBq.out⟩
          case measure => simp [intOf]; omega
    · have hin : i = S.length := by omega
      subst hin
      have hi1 : ¬ (S.length : Int) < (S.length : Int) := Int.lt_irrefl _
      have ho2 := HO.out
      rw [List.take_of_length_le (by rw [HML.out]; exact Nat.le_refl _)] at ho2
      obtain ⟨r, c, hv, hmat⟩ := ho2.mat
      subst hv
      have HMT := Lib.hid hmat
      clear ho2 hmat
      go_wp2_with (go_at_call 45; ((with_reducible refine (kernelOf_any pS r M c wB.heap.size wr.heap.size wr HMT.out (Nat.le_refl _) HRW.out).mono ?_); rintro e w4 ⟨r4, c4, rfl, o_, b_⟩; have HO4 := Lib.hid (o_.mono HBr.out.size (Nat.le_refl _)); have HB4 := Lib.hid (below_step HBr.out HBr.out.size b_); clear o_ b_))
      go_ret
      exact ⟨r4, c4, rfl, HO4.out, HB4.out⟩

set_option maxRecDepth 100000 in
set_option maxHeartbeats 3200000 in
theorem impl_CentreBasis (pS : Int) (aS : Option Addr) (S : List Int) (cS loS tpS : Nat) (w : World) (hS : RowIn loS tpS w aS S) (tS : tpS ≤ w.heap.size) (sS : S.length ≤ 1048576) :
    Calls Tryz.prog 6 #[.agg #[.int .i64 pS, .slice aS S.length cS]] w (ImplM (cbV pS S) (stC pS S []) w) := by
  have HS := Lib.hid hS
  have k0 := nw0 w (.int .i64 pS) (.slice aS S.length cS) 26
  have k1 := nw1 w (.int .i64 pS) (.slice aS S.length cS) 26
  have HB0 := Lib.hid (below_alloc w (.cells #[.int .i64 pS, .slice aS S.length cS] 26))
  clear hS
  by_cases h0 : stC pS S [] = 0
  · have HC0 := Lib.hid h0
    have hz := stC_zero h0
    have HI := Lib.hid hz.1
    have H4 := Lib.hid hz.2.2
    have HV : Hid (cbV pS S = kerB pS (ceM pS S)) := if_pos h0
    clear h0 hz
    go_enter Tryz.func6, Tryz.ntmps6
    go_upto_region 1 with fail
    obtain ⟨w1, hw1⟩ : ∃ z, z = w.alloc (.cells #[.int .i64 pS, .slice aS S.length cS] 26) := ⟨_, rfl⟩
    rw [← hw1] at HB0 k0 k1 ⊢
    have hd1 : w.heap.size < w1.heap.size := by rw [hw1]; simp
    have HB1 := HB0
    clear hw1
    have SS1 := Lib.hid (And.intro k0 k1)
    go_wp2_with (first | (go_at_call 20; ((with_reducible refine (checkS0 pS aS S cS loS tpS w1 (HS.out.below HB1.out tS) (Nat.le_trans tS HB1.out.size) sS).mono ?_); rintro e w2 ⟨rfl, b_⟩; rw [HC0.out]; have SS2 := Lib.hid (ss2 b_ hd1 SS1.out); have HB2 := Lib.hid (below_step HB1.out HB1.out.size b_); have hd2 := Nat.lt_of_lt_of_le hd1 b_.size; clear k0 k1; obtain ⟨k0, k1⟩ := SS2.out; clear b_)) | (go_at_call 21; ((with_reducible refine (centre_own pS aS S cS loS tpS w2 HI.out H4.out (HS.out.below HB2.out tS) (Nat.le_trans tS HB2.out.size)).mono ?_); rintro e w3 ⟨r3, c3, rfl, o_, b_⟩; have SS3 := Lib.hid (ss2 b_ hd2 SS2.out); have HB3 := Lib.hid (below_step HB2.out HB2.out.size b_); have hd3 := Nat.lt_of_lt_of_le hd2 b_.size; have RR := Lib.hid (o_.mono (Nat.le_of_lt hd2) (Nat.le_refl _)); clear o_; clear k0 k1; obtain ⟨k0, k1⟩ := SS3.out; clear b_)))
    go_ret2
    rw [HV.out, HC0.out]
    exact ⟨r3, c3, rfl, RR.out, HB3.out⟩
  · have HV : Hid (cbV pS S = []) := if_neg h0
    obtain ⟨C, hC⟩ : ∃ c, c = stC pS S [] := ⟨_, rfl⟩
    have hc1 : (C != 0) = true := by rw [hC]; simpa using h0
    have hc2 : (C == 0) = false := by rw [hC]; simpa using h0
    have HCE := Lib.hid hC
    clear hC
    clear h0
    go_enter Tryz.func6, Tryz.ntmps6
    go_upto_region 1 with fail
    obtain ⟨w1, hw1⟩ : ∃ z, z = w.alloc (.cells #[.int .i64 pS, .slice aS S.length cS] 26) := ⟨_, rfl⟩
    rw [← hw1] at HB0 k0 k1 ⊢
    have hd1 : w.heap.size < w1.heap.size := by rw [hw1]; simp
    have HB1 := HB0
    clear hw1
    have SS1 := Lib.hid (And.intro k0 k1)
    go_wp2_with (go_at_call 20; ((with_reducible refine (checkS0 pS aS S cS loS tpS w1 (HS.out.below HB1.out tS) (Nat.le_trans tS HB1.out.size) sS).mono ?_); rintro e w2 ⟨rfl, b_⟩; rw [← HCE.out]; have SS2 := Lib.hid (ss2 b_ hd1 SS1.out); have HB2 := Lib.hid (below_step HB1.out HB1.out.size b_); have hd2 := Nat.lt_of_lt_of_le hd1 b_.size; clear k0 k1; obtain ⟨k0, k1⟩ := SS2.out; clear b_))
    go_ret2
    rw [HV.out, ← HCE.out]
    exact ⟨none, 0, rfl, .inl rfl, HB2.out⟩

end Go.Proofs.YtijklpcelbnnjaaGreat
