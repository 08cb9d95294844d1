/-
  Contracts and facts that the walk of the law rests on.
  Conditions: those that each theorem names.
-/
import Derived.Test.YtgfanoejohpmkaaGreatQp26
import Derived.Test.YtgfanoejohpmkaaGreatQp32
import Derived.Test.YtgfanoejohpmkaaGreatQp28
import Derived.Test.YtgfanoejohpmkaaGreatQp21
import Derived.Deep.RegionHeld3
import Derived.Deep.DeepCutAuto
import Derived.Test.YtgfanoejohpmkaaGreatQp27
import Derived.Test.YtgfanoejohpmkaaGreatQp22
import Derived.BigQuiet
import Derived.Test.YtgfanoejohpmkaaGreatQp11
namespace Go.Proofs.YtgfanoejohpmkaaGreat
open Go.RowKit
set_option linter.unusedVariables false
theorem range_one (f : Nat → Bool) (k : Nat) (h : ∀ j, f j = true ↔ j = k) (n : Nat) : (List.range n).filter f = if k < n then [k] else [] := by
 induction n with
 | zero => rfl
 | succ n ih =>
  rw [List.range_succ, List.filter_append, ih]
  by_cases e : n = k
  · subst e
    rw [if_neg (Nat.lt_irrefl _), if_pos (Nat.lt_succ_self _), List.filter_cons, if_pos ((h n).2 rfl)]; rfl
  · have hf : f n = false := by
     cases hh : f n with
     | false => rfl
     | true => exact absurd ((h n).1 hh) e
    have hn0 : [n].filter f = [] := by simp [hf]
    rw [hn0, List.append_nil]
    by_cases hk : k < n
    · rw [if_pos hk, if_pos (by omega)]
    · rw [if_neg hk, if_neg (by omega)]
theorem grades_one {S x : List Int} (h6 : S.length ≤ 6) (hx : x.length = bl S) {k : Nat} : grades S x = [(k : Int)] ↔ hasGr x k = true ∧ ∀ j, hasGr x j = true → j = k := by
 have hle : ∀ j, hasGr x j = true → j ≤ S.length := fun j hj => by
  obtain ⟨c, h1, h2, _⟩ := hasGr_iff.1 hj
  rw [← h2]
  exact gr_le_of h6 (by rw [hx] at h1; exact h1)
 constructor
 · intro h
   have hm : ∀ j, hasGr x j = true → j = k := fun j hj => by
    have : ((j : Nat) : Int) ∈ grades S x := List.mem_map.2 ⟨j, List.mem_filter.2 ⟨List.mem_range.2 (by have := hle j hj; omega), hj⟩, rfl⟩
    rw [h, List.mem_singleton] at this
    omega
   refine ⟨?_, hm⟩
   have : ((k : Nat) : Int) ∈ grades S x := by rw [h]; simp
   obtain ⟨j, h1, h2⟩ := List.mem_map.1 this
   have h3 := (List.mem_filter.1 h1).2
   rw [← hm j h3]; exact h3
 · rintro ⟨h1, h2⟩
   unfold grades
   rw [range_one (hasGr x) k (fun j => ⟨h2 j, fun e => by rw [e]; exact h1⟩), if_pos (by have := hle k h1; omega)]
   rfl
theorem wv_pm {p : Int} {S : List Int} (hs : isSp p S = true) {m : List (List Int)} {P : Nat → Nat} (hm : ∀ i, i < m.length → isVec p S.length (rw' m i) = true) (hR : Rref p m.length S.length (at' m) P) : (wvM p S m m.length).getD (pm P m.length) 0 = 1 := by
 have h6 := (isSp_iff.1 hs).hi
 have hp := prm_bd (isSp_iff.1 hs).prime
 have hb : pm P m.length < bl S := pm_lt P m.length hR.pv
 rw [wv_wD hs hm m.length (Nat.le_refl _) _ hb, wD_pm h6 hR m.length (Nat.le_refl _)]
 exact Int.emod_eq_of_lt (by omega) (by omega)
theorem blade_iff {p : Int} {S x : List Int} {m : List (List Int)} {P : Nat → Nat} (hs : isSp p S = true) (hx : x.length = bl S) (hn : ∀ j, j < x.length → 0 ≤ x.getD j 0 ∧ x.getD j 0 < p)
 (hm : ∀ i, i < m.length → isVec p S.length (rw' m i) = true) (hR : Rref p m.length S.length (at' m) P) (ha : ∀ j, j < m.length → Ann p S (rw' m j) x) :
 grades S x = [(m.length : Int)] ↔ x.getD (pm P m.length) 0 ≠ 0 ∧ (mkR (bl S) fun c => (wvM p S m m.length).getD c 0 * x.getD (pm P m.length) 0 % p) = x := by
 have h6 := (isSp_iff.1 hs).hi
 have hbl := bl_le h6
 have hpb := prm_bd (isSp_iff.1 hs).prime
 have hl : ∀ i, i < m.length → (rw' m i).length = S.length := fun i hi => (isVec_iff.1 (hm i hi)).len
 have hb : pm P m.length < bl S := pm_lt P m.length hR.pv
 rw [grades_one h6 hx]
 constructor
 · rintro ⟨h1, h2⟩
   have hH : Hom (bl S) x m.length := fun c hc hne => h2 _ (hasGr_iff.2 ⟨c, by rw [hx]; exact hc, rfl, hne⟩)
   have hT := take_hom (p := p) h6 hR.pv hH m.length (Nat.le_refl _)
   rw [Nat.sub_self] at hT
   have hy : ∀ c, c < bl S → (takeM p S P x m.length).getD c 0 = if c = 0 then (takeM p S P x m.length).getD 0 0 else 0 := fun c hc => by
    by_cases e : c = 0
    · rw [if_pos e, e]
    · rw [if_neg e]
      exact Classical.byContradiction fun h => e (gr_none c (by omega) (hT c hc h))
   have hk := (split_off (by omega) h6 hx hn hR hl ha m.length (Nat.le_refl _)).1
   have hc : ∀ c, c < bl S → x.getD c 0 = (wvM p S m m.length).getD c 0 * (takeM p S P x m.length).getD 0 0 % p := fun c hc => by
    have := wg_scal (p := p) (w := wvM p S m m.length) hy hc
    rw [hk] at this
    exact this
   have hf : x.getD (pm P m.length) 0 = (takeM p S P x m.length).getD 0 0 := by
    rw [hc _ hb, wv_pm hs hm hR, Int.one_mul]
    have := takeM_num (show 0 < p by omega) hn (S := S) (P := P) m.length 0 (by rw [takeM_len hx]; exact bl_pos S)
    exact Int.emod_eq_of_lt this.1 this.2
   constructor
   · intro h0
     obtain ⟨c, g1, _, g3⟩ := hasGr_iff.1 h1
     rw [hx] at g1
     apply g3
     rw [hc c g1, ← hf, h0, Int.mul_zero, Int.zero_emod]
   · refine row_ext (by rw [mkR_len, hx]) fun c hcc => ?_
     rw [mkR_len] at hcc
     rw [mkR_at _ hcc, hc c hcc, hf]
 · rintro ⟨h1, h2⟩
   have hg : ∀ c, c < bl S → x.getD c 0 ≠ 0 → gr c = m.length := fun c hc hne => by
    apply wD_hom (at' m) m.length c (by omega)
    intro h0
    apply hne
    have e := congrArg (fun z : List Int => z.getD c 0) h2
    simp only [mkR_at _ hc] at e
    rw [← e, wv_wD hs hm m.length (Nat.le_refl _) c hc, h0, Int.zero_emod, Int.zero_mul, Int.zero_emod]
   exact ⟨hasGr_iff.2 ⟨_, by rw [hx]; exact hb, hg _ hb h1, h1⟩, fun j hj => by
    obtain ⟨c, g1, g2, g3⟩ := hasGr_iff.1 hj
    rw [hx] at g1
    rw [← g2]; exact hg c g1 g3⟩
def colW (p : Int) (S x : List Int) : List (List Int) := mk S.length (bl S) fun i c => kF p S 0 (bladeM S (2 ^ i)) x c
def eqM (p : Int) (S x : List Int) : List (List Int) := mk (bl S) S.length fun c i => kF p S 0 (bladeM S (2 ^ i)) x c
theorem colW_row {p : Int} {S x : List Int} {i : Nat} (h : i < S.length) : rw' (colW p S x) i = wgM p S (bladeM S (2 ^ i)) x := mk_row _ h
theorem colW_tr {p : Int} {S x : List Int} (h : 1 ≤ S.length) : trM (colW p S x) = eqM p S x := by
 unfold trM eqM
 have h0 : (rw' (colW p S x) 0).length = bl S := mk_rowLen _ h
 rw [h0, show (colW p S x).length = S.length from mk_len _ _ _]
 exact mk_congr fun i hi j hj => mk_at _ hj hi
theorem eqM_wide {p : Int} {S x : List Int} (hs : isSp p S = true) : RowsW p (eqM p S x) := by
 have hb := bl_pos S
 have h6 := (isSp_iff.1 hs).hi
 have h1 := (isSp_iff.1 hs).lo
 have hbl := bl_le h6
 have hp := prm_bd (isSp_iff.1 hs).prime
 have e : (eqM p S x).length = bl S := mk_len _ _ _
 have e0 : ∀ i, i < bl S → (rw' (eqM p S x) i).length = S.length := fun i hi => mk_rowLen _ hi
 refine ⟨(isSp_iff.1 hs).prime, by omega, by omega, by rw [e0 0 hb]; exact h1, by rw [e0 0 hb]; omega, fun i hi => by rw [e] at hi; rw [e0 i hi, e0 0 hb], fun i hi j hj => ?_⟩
 rw [e] at hi
 rw [e0 0 hb] at hj
 rw [show at' (eqM p S x) i j = kF p S 0 (bladeM S (2 ^ j)) x i from mk_at _ hi hj]
 exact kF_bd (by omega) _ _ _ _ _
theorem eqM_c {p : Int} {S x : List Int} : (rw' (eqM p S x) 0).length = S.length := mk_rowLen _ (bl_pos S)
def unitE (n i : Nat) : List Int := mkR n fun j => if i = j then 1 else 0
theorem unit_blade {S : List Int} {i : Nat} (hi : i < S.length) : bladeM S (2 ^ i) = vecM S (unitE S.length i) := by
 unfold bladeM vecM
 apply mkR_congr
 intro j hj
 rw [vecF_sum, show (unitE S.length i).length = S.length from mkR_len _ _]
 rw [sm_congr (g := fun k => if k = i then (if j = 2 ^ i then 1 else 0) else 0), sm_single, if_pos hi]
 intro k hk
 rw [show (unitE S.length i).getD k 0 = if i = k then 1 else 0 from mkR_at _ hk]
 by_cases e : k = i
 · subst e; simp
 · have e' : ¬ i = k := fun h => e h.symm
   simp [e, e']
theorem lw_unit {n : Nat} (hn : n ≤ 6) {i : Nat} (hi : i < n) (y : Nat → Int) {c : Nat} (hc : c < 2 ^ n) : lw (fun k => (unitE n i).getD k 0) y c = if c / 2 ^ i % 2 = 1 then sl i (c ^^^ 2 ^ i) * y (c ^^^ 2 ^ i) else 0 := by
 rw [lw_short hn _ _ hc, sm_congr (g := fun k => if k = i then (if c / 2 ^ i % 2 = 1 then sl i (c ^^^ 2 ^ i) * y (c ^^^ 2 ^ i) else 0) else 0), sm_single, if_pos hi]
 intro k hk
 show (if c / 2 ^ k % 2 = 1 then (unitE n i).getD k 0 * _ * _ else 0) = _
 rw [show (unitE n i).getD k 0 = if i = k then 1 else 0 from mkR_at _ hk]
 by_cases e : k = i
 · subst e; simp
 · have e' : ¬ i = k := fun h => e h.symm
   simp [e, e']
theorem eqM_ann {p : Int} {S x v : List Int} (hs : isSp p S = true) (hv : v.length = S.length) : nul p (eqM p S x).length S.length (at' (eqM p S x)) (fun j => v.getD j 0) ↔ Ann p S v x := by
 have h6 := (isSp_iff.1 hs).hi
 have hbl := bl_le h6
 have key : ∀ c, c < bl S → sm S.length (fun j => at' (eqM p S x) c j * v.getD j 0) % p = (kM p S 0 (vecM S v) x).getD c 0 := fun c hc => by
  rw [kM_at _ _ _ _ _ hc, vec_wg p h6 _ hv hc, lw_short h6 _ _ hc]
  apply sm_congr_p
  intro i hi
  rw [show at' (eqM p S x) c i = kF p S 0 (bladeM S (2 ^ i)) x c from mk_at _ hc hi, unit_blade hi, vec_wg p h6 x (v := unitE S.length i) (mkR_len _ _) hc, lw_unit h6 hi _ hc, em_l]
  by_cases hb : c / 2 ^ i % 2 = 1
  · rw [if_pos hb, if_pos hb]; congr 1; ac_rfl
  · rw [if_neg hb, if_neg hb, Int.zero_mul]
 constructor
 · intro h c hc
   rw [← key c hc]
   exact h c (by rw [show (eqM p S x).length = bl S from mk_len _ _ _]; exact hc)
 · intro h c hc
   rw [show (eqM p S x).length = bl S from mk_len _ _ _] at hc
   exact (key c hc).trans (h c hc)
noncomputable def subM (p : Int) (S x : List Int) : List (List Int) := kerB p (eqM p S x)
noncomputable def maskM (p : Int) (S x : List Int) : Nat := pm (pvs (subM p S x)) (subM p S x).length
noncomputable def facM (p : Int) (S x : List Int) : Int := x.getD (maskM p S x) 0
noncomputable def isBl (p : Int) (S x : List Int) : Bool := decide (grades S x = [((subM p S x).length : Int)])
noncomputable def wvB (p : Int) (S : List Int) (m : List (List Int)) : List Int := wvM p S (bas p m) (bas p m).length
theorem sub_is {p : Int} {S x : List Int} (hs : isSp p S = true) : IsBas p S.length (kerP p (eqM p S x)) (subM p S x) := by
 have h := ker_is (A := eqM p S x) (isSp_iff.1 hs).prime
 rw [eqM_c] at h
 exact h
theorem sub_red {p : Int} {S x : List Int} (hs : isSp p S = true) : Rref p (subM p S x).length S.length (at' (subM p S x)) (pvs (subM p S x)) := (sub_is hs).pivs
theorem sub_vec {p : Int} {S x : List Int} (hs : isSp p S = true) : ∀ i, i < (subM p S x).length → isVec p S.length (rw' (subM p S x) i) = true := fun i hi => by
 have hl := (sub_is (x := x) hs).len i hi
 have hR := (sub_red (x := x) hs).rng i hi
 refine isVec_iff.2 ⟨hl, ?_⟩
 rw [List.all_eq_true]
 intro z hz
 obtain ⟨j, hj, rfl⟩ := List.getElem_of_mem hz
 have h2 := hR j (by omega)
 unfold at' at h2
 rw [getD_at hj] at h2
 exact inr_iff.2 h2
theorem sub_ann {p : Int} {S x : List Int} (hs : isSp p S = true) : ∀ j, j < (subM p S x).length → Ann p S (rw' (subM p S x) j) x := fun j hj => by
 refine (eqM_ann hs ((sub_is hs).len j hj)).1 fun c hc => ?_
 have h := ker_nul (eqM_wide (x := x) hs) hc j hj
 rw [eqM_c] at h
 exact van_comm.1 h
theorem sub_le {p : Int} {S x : List Int} (hs : isSp p S = true) : (subM p S x).length ≤ 6 := Nat.le_trans (sub_red hs).rows_le (isSp_iff.1 hs).hi
theorem sub_list {p : Int} {S x : List Int} (hs : isSp p S = true) : listB p S (subM p S x) = true := by
 unfold listB
 rw [Bool.and_eq_true, decide_eq_true_eq]
 refine ⟨List.all_eq_true.2 fun z hz => ?_, by have := sub_le (x := x) hs; omega⟩
 obtain ⟨i, hi, rfl⟩ := List.getElem_of_mem hz
 have := sub_vec (x := x) hs i hi
 unfold rw' at this
 rw [show (subM p S x).getD i [] = (subM p S x)[i] by simp [List.getD, hi]] at this
 exact this
theorem mask_lt {p : Int} {S x : List Int} (hs : isSp p S = true) : maskM p S x < bl S := pm_lt _ _ (sub_red hs).pv
theorem isBl_iff {p : Int} {S x : List Int} (hs : isSp p S = true) (hx : isMv p S x = true) : isBl p S x = true ↔ facM p S x ≠ 0 ∧ (mkR (bl S) fun c => (wvM p S (subM p S x) (subM p S x).length).getD c 0 * facM p S x % p) = x := by
 unfold isBl
 rw [decide_eq_true_eq]
 exact blade_iff hs (Mv.len hx) (Mv.nums hx) (sub_vec hs) (sub_red hs) (sub_ann hs)
theorem transposed_n (a : Option Addr) (m : List (List Int)) (n ca lo tp : Nat) (w : World) (hnm : m.length = n) (hm : MatIn lo tp w a m) (ht : tp ≤ w.heap.size) (h0 : 0 < m.length) (hc : ∀ i, i < m.length → (rw' m i).length = (rw' m 0).length) (hn : m.length ≤ 1024) (hn2 : (rw' m 0).length ≤ 1024) :
 Calls Tryz.prog 152 #[.slice a n ca] w (OwnNew (trM m) w) := by
 subst hnm; exact transposed_any a m ca lo tp w hm ht h0 hc hn hn2
theorem blade_mv {p : Int} {S : List Int} (hs : isSp p S = true) (k : Nat) : isMv p S (bladeM S k) = true :=
 isMv_of (mkR_len _ _) (fun j hj => by
  have hp := prm_bd (isSp_iff.1 hs).prime
  unfold bladeM at hj ⊢
  rw [mkR_len] at hj
  rw [mkR_at _ hj]
  split <;> omega)
theorem wedge_blade (p : Int) (aS : Option Addr) (S : List Int) (cS loS tpS : Nat) (ax : Option Addr) (x : List Int) (cx lox tpx b i : Nat) (w : World) (hs : isSp p S = true) (hS : RowIn loS tpS w aS S) (tS : tpS ≤ w.heap.size) (hx : RowIn lox tpx w ax x) (tx : tpx ≤ w.heap.size) (mx : isMv p S x = true) (hb : RowOwn w b 0 (bl S) (fun j => if j = i then 1 else 0)) (ub : b < w.heap.size) :
 Calls Tryz.prog 168 #[.agg #[.int .i64 p, .slice aS S.length cS], .slice (some ⟨b, 0, none⟩) (bl S) (bl S), .slice ax x.length cx] w (OwnE (wgM p S (bladeM S i) x) w) := by
 have h := wedge_own p aS S cS loS tpS (some ⟨b, 0, none⟩) (bladeM S i) (bl S) 0 w.heap.size ax x cx lox tpx w hs hS tS (hb.own (Nat.zero_le _) ub).row (Nat.le_refl _) (blade_mv hs i) hx tx mx
 rw [show (bladeM S i).length = bl S from mkR_len _ _] at h
 exact h
theorem kwrap_pow {i : Nat} (h : i < 6) : IntKind.i64.wrap ((2 : Int) ^ i) = ((2 ^ i : Nat) : Int) := by
 have : i = 0 ∨ i = 1 ∨ i = 2 ∨ i = 3 ∨ i = 4 ∨ i = 5 := by omega
 rcases this with rfl | rfl | rfl | rfl | rfl | rfl <;> exact IntWalk.i64_in _ (by decide)
def BoxX (g : Nat) (p : Int) (aS : Option Addr) (n cS : Nat) (ax : Option Addr) (l cx : Nat) (W : World) : Prop :=
 W.cell? ⟨g, 0, none⟩ = some (.int .i64 p) ∧ W.cell? ⟨g, 1, none⟩ = some (.slice aS n cS) ∧ W.cell? ⟨g, 2, none⟩ = some (.slice ax l cx)
theorem BoxX.below {g : Nat} {p : Int} {aS ax : Option Addr} {n cS l cx B : Nat} {w w' : World} (h : BoxX g p aS n cS ax l cx w) (hb : Below B w w') (hg : g < B) : BoxX g p aS n cS ax l cx w' :=
 ⟨(hb.cell (p := ⟨g, 0, none⟩) hg).trans h.1, (hb.cell (p := ⟨g, 1, none⟩) hg).trans h.2.1, (hb.cell (p := ⟨g, 2, none⟩) hg).trans h.2.2⟩
theorem BoxX.put {g b o : Nat} {p : Int} {aS ax : Option Addr} {n cS l cx : Nat} {w : World} {v : Value} (h : BoxX g p aS n cS ax l cx w) (hg : g ≠ b) : BoxX g p aS n cS ax l cx (w.setCell ⟨b, o, none⟩ v) := by
 have e : ∀ j, (w.setCell ⟨b, o, none⟩ v).cell? ⟨g, j, none⟩ = w.cell? ⟨g, j, none⟩ := fun j => World.cell?_setCell_other w ⟨b, o, none⟩ ⟨g, j, none⟩ v (fun e => hg (by injection e with e1; exact e1.symm))
 exact ⟨(e 0).trans h.1, (e 1).trans h.2.1, (e 2).trans h.2.2⟩
theorem BoxX.new (w : World) (p : Int) (aS : Option Addr) (n cS : Nat) (ax : Option Addr) (l cx : Nat) (T : TypeId) : BoxX w.heap.size p aS n cS ax l cx (w.alloc (.cells #[.int .i64 p, .slice aS n cS, .slice ax l cx] T)) :=
 ⟨by simp [go_sem], by simp [go_sem], by simp [go_sem]⟩
set_option maxRecDepth 100000 in
set_option maxHeartbeats 3200000 in
theorem wedgeEquations_any (p : Int) (aS : Option Addr) (S : List Int) (cS loS tpS : Nat) (ax : Option Addr) (x : List Int) (cx lox tpx : Nat) (w : World) (hs : isSp p S = true) (hS : RowIn loS tpS w aS S) (tS : tpS ≤ w.heap.size) (hx : RowIn lox tpx w ax x) (tx : tpx ≤ w.heap.size) (mx : isMv p S x = true) :
 Calls Tryz.prog 160 #[.agg #[.int .i64 p, .slice aS S.length cS, .slice ax x.length cx]] w (OwnNew (eqM p S x) w) := by
 have HS := Lib.hid hS
 have HX := Lib.hid hx
 have HI := Lib.hid hs
 have HMX := Lib.hid mx
 have h6 := (isSp_iff.1 hs).hi
 have hS1 := (isSp_iff.1 hs).lo
 have hbl := bl_le h6
 have hb0 := bl_pos S
 have hmk := fun W => run_make_row' (P := Tryz.prog) 27 24 (.slice none 0 0) 24 Tryz.underlying27 info_slice rfl .i64 .i64 S.length (by omega) (by omega) W
 obtain ⟨Z, hZ⟩ : ∃ Z, Z = colW p S x := ⟨_, rfl⟩
 have HZL : Hid (Z.length = S.length) := by show _ = _; rw [hZ]; exact mk_len _ _ _
 have HZR : Hid (∀ i, i < S.length → rw' Z i = wgM p S (bladeM S (2 ^ i)) x) := fun i hi => by rw [hZ]; exact colW_row hi
 have HZT : Hid (trM Z = eqM p S x) := by show _ = _; rw [hZ]; exact colW_tr hS1
 have HZE : Hid (∀ i, i < Z.length → (rw' Z i).length = bl S) := fun i hi => by rw [HZL.out] at hi; rw [HZR.out i hi, wgM_len]
 have HB0 := Lib.hid (below_alloc w (.cells #[.int .i64 p, .slice aS S.length cS, .slice ax x.length cx] 82))
 have k0 := BoxX.new w p aS S.length cS ax x.length cx 82
 have k0a := k0.1
 have k0b := k0.2.1
 have k0c := k0.2.2
 have K0 := Lib.hid k0
 clear hS hx hs mx hZ k0
 go_enter Tryz.func160, Tryz.ntmps160
 go_upto_region 1 with fail
 obtain ⟨w2, hw1⟩ : ∃ z, z = w.alloc (.cells #[.int .i64 p, .slice aS S.length cS, .slice ax x.length cx] 82) := ⟨_, rfl⟩
 rw [← hw1] at HB0 K0 k0a k0b k0c ⊢
 have hw0 : w.heap.size < w2.heap.size := by rw [hw1]; simp
 clear hw1
 go_upto_region 2 with fail
 obtain ⟨b, hb⟩ : ∃ b, b = w2.heap.size := ⟨_, rfl⟩
 obtain ⟨w3, hw3⟩ : ∃ z, z = w2.alloc (.cells (madeCells #[.slice none 0 0] S.length) 24) := ⟨_, rfl⟩
 have HG3 : Hid (HalfG w3 b 0 Z (fun _ => none) (fun _ => 0) (fun _ => 0) (fun _ => 0)) := by
  show HalfG _ _ _ _ _ _ _ _
  rw [hw3, hb, ← HZL.out]
  exact HalfG.start w2 Z 24 (fun _ => none) (fun _ => 0) (fun _ => 0) (fun _ => 0)
 have HB3 : Hid (Below w.heap.size w w3) := by show Below _ _ _; rw [hw3]; exact HB0.out.alloc HB0.out.size _
 have K3 : Hid (BoxX w.heap.size p aS S.length cS ax x.length cx w3) := by show BoxX _ _ _ _ _ _ _ _ _; rw [hw3]; exact K0.out.below (below_alloc w2 _) hw0
 have hwb : w.heap.size < b := by omega
 have hbl3 : b < w3.heap.size := by rw [hw3, hb]; simp
 rw [← hw3, ← hb]
 clear hw3 hmk hb k0a k0b k0c
 go_wp2
 go_loopw [12] (fun t wr => ∃ i : Nat, i ≤ S.length ∧ t = .int .i64 i ∧ (∃ A C lo tp, HalfG wr b i Z A C lo tp) ∧ BoxX w.heap.size p aS S.length cS ax x.length cx wr ∧ Below w.heap.size w wr ∧ b < wr.heap.size) (fun t _ => S.length - (intOf t).toNat)
 case atStart => exact ⟨0, Nat.zero_le _, rfl, ⟨_, _, _, _, HG3.out⟩, K3.out, HB3.out, hbl3⟩
 case round =>
  obtain ⟨i, hi, rfl, ⟨A, C, lo, tp, hh⟩, hk0, hbel, hbr⟩ := hrel
  have HH := Lib.hid hh
  have HB := Lib.hid hbel
  have hwz := hbel.size
  by_cases hlt : i < S.length
  · have hi1 : (i : Int) < (S.length : Int) := Int.ofNat_lt.2 hlt
    obtain ⟨q, hq⟩ : ∃ q, q = 2 ^ i := ⟨_, rfl⟩
    have hqn : q < bl S := by rw [hq]; exact Nat.pow_lt_pow_right (by decide) hlt
    have e1 : wrap64 ((2 : Int) ^ i) = (q : Int) := by rw [hq]; exact wrap_pow (by omega)
    have e2 : IntKind.i64.wrap ((2 : Int) ^ i) = (q : Int) := by rw [hq]; exact kwrap_pow (by omega)
    have HZI : Hid (rw' Z i = wgM p S (bladeM S q) x) := by show _ = _; rw [hq]; exact HZR.out i hlt
    clear hq
    have g0 := hh.rest i (Nat.le_refl _) (by rw [HZL.out]; exact hlt)
    have gf := hh.free i
    have hlw : w.heap.size < wr.drew.heap.size := by show w.heap.size < wr.heap.size; omega
    have hbd : b < wr.drew.heap.size := hbr
    have hs1 : Hid (BoxX w.heap.size p aS S.length cS ax x.length cx wr.drew) := hk0
    have HBD : Hid (Below w.heap.size w wr.drew) := hbel.drew
    have hzd := HBD.out.size
    have hwb2 : w.heap.size ≠ b := by omega
    have G0 : Hid (wr.drew.cell? ⟨b, i, none⟩ = some (.slice none 0 0)) := g0
    have GF : Hid (wr.drew.frozen? ⟨b, i, none⟩ = false) := gf
    clear hh hbel hk0
    go_wp2
    go_region_held3 (fun w' => w'.cell? ⟨w.heap.size, 0, none⟩ = some (.int .i64 p) ∧ w'.cell? ⟨w.heap.size, 1, none⟩ = some (.slice aS S.length cS) ∧ w'.cell? ⟨w.heap.size, 2, none⟩ = some (.slice ax x.length cx)) (first | exact hs1.out | exact SS7.out | exact SS9.out | exact SS10.out | go_keep) (first | (go_at_call 183; ((with_reducible refine (blade_any p aS S cS q wr.drew h6 hqn).mono ?_); rintro e w7 ⟨b7, rfl, l7, u7, o7, q7⟩; have O7 := Lib.hid o7; have B7 := Lib.hid q7; have z7 := q7.size; have SS7 := Lib.hid (hs1.out.below q7 hlw); have HB7 := Lib.hid (HBD.out.trans (q7.mono hzd)); have hz7 := Nat.le_trans hzd z7; have hlw7 := Nat.lt_of_lt_of_le hlw z7; have hbd7 := Nat.lt_of_lt_of_le hbd z7; clear o7 q7)) | (go_at_call 168; ((with_reducible refine (wedge_blade p aS S cS loS tpS ax x cx lox tpx b7 q w7 HI.out (HS.out.below HB7.out tS) (Nat.le_trans tS hz7) (HX.out.below HB7.out tx) (Nat.le_trans tx hz7) HMX.out O7.out u7).mono ?_); rintro e w9 ⟨r9, c9, rfl, o9, q9⟩; have O9 := Lib.hid o9; have B9 := Lib.hid q9; have z9 := q9.size; have SS9 := Lib.hid (SS7.out.below q9 hlw7); have SS10 := Lib.hid (SS9.out.put (o := i) (v := .slice r9 (wgM p S (bladeM S q) x).length c9) hwb2); have HQ9 := Lib.hid (B7.out.trans (q9.mono z7)); have c0 := (HQ9.out.cell (p := ⟨b, i, none⟩) hbd).trans G0.out; have f0 := (HQ9.out.frozen (p := ⟨b, i, none⟩) hbd).trans GF.out; clear o9 q9)))
    have hq9 := HQ9.out.size
    have hq9' : wr.heap.size ≤ w9.heap.size := hq9
    have HNX := HH.out.next (w1 := w9.setCell ⟨b, i, none⟩ (.slice r9 (wgM p S (bladeM S q) x).length c9)) (r := r9) (c := c9) (T := w9.heap.size) (by rw [HZL.out]; exact hlt)
     (fun k k0 k1 => (Below.heap_setCell _ _ _ _ k1).trans (HQ9.out.block k k0)) (by simp [World.setCell]; exact hq9') (by simp [World.setCell])
     (by rw [HZI.out]; exact World.cell?_setCell_same w9 _ _ c0)
     (fun j hj => (World.cell?_setCell_other w9 ⟨b, i, none⟩ ⟨b, j, none⟩ _ (fun e => hj (by injection e with _ e2; exact e2.symm))).trans (HQ9.out.cell (p := ⟨b, j, none⟩) hbd))
     (fun j => by have := (HQ9.out.frozen (p := ⟨b, j, none⟩) hbd).trans (HH.out.free j); simp [go_sem, this])
     (by rw [HZI.out]; exact (OwnR.mono' O9.out (show wr.heap.size ≤ w7.heap.size from z7) (Nat.le_refl _)).same (fun k k0 _ => Below.heap_setCell _ _ _ _ (show k ≠ b by omega)))
    have HNX := Lib.hid HNX
    go_wp2
    go_roundw
    case rel => exact ⟨i + 1, by omega, by go_num, ⟨_, _, _, _, HNX.out⟩, SS10.out, (HBD.out.trans (HQ9.out.mono hzd)).setCell (by show w.heap.size ≤ b; omega) _, by simp [World.setCell]; omega⟩
    case measure => simp [intOf]; omega
  · have hin : i = S.length := by omega
    have HF : Hid (HalfG wr b Z.length Z A C lo tp) := by show HalfG _ _ _ _ _ _ _ _; rw [HZL.out, ← hin]; exact hh
    have HM := Lib.hid HF.out.own.mat
    have hz0 : 0 < Z.length := by rw [HZL.out]; exact hS1
    have HE : Hid (∀ i, i < Z.length → (rw' Z i).length = (rw' Z 0).length) := fun i hi => by rw [HZE.out i hi, HZE.out 0 hz0]
    have hz1 : Z.length ≤ 1024 := by rw [HZL.out]; omega
    have hz2 : (rw' Z 0).length ≤ 1024 := by rw [HZE.out 0 hz0]; omega
    clear hh hbel hin
    go_wp2_with (first | (go_at_call 152; (with_reducible refine (transposed_n (some ⟨b, 0, none⟩) Z S.length S.length b wr.heap.size wr HZL.out HM.out (Nat.le_refl _) hz0 HE.out hz1 hz2).mono ?_); rintro e w7 ⟨r7, c7, rfl, o7, q7⟩; have O7 := Lib.hid o7; have B7 := Lib.hid q7; clear o7 q7))
    go_ret
    have h := O7.out
    rw [HZT.out] at h
    exact ⟨r7, c7, by rw [HZT.out]; rfl, h.mono hwz (Nat.le_refl _), HB.out.trans (B7.out.mono hwz)⟩
theorem isNotZ_any (x : Int) (w : World) :
 Calls Tryz.prog 251 #[.int .i64 x] w fun e w' => e = .returned (.bool (x != 0)) ∧ w = w' := by
 go_enter Tryz.func251, Tryz.ntmps251
 go_wp2
 go_ret
 exact ⟨rfl, rfl⟩
set_option maxHeartbeats 800000 in
theorem pivFunc_yes (a : Option Addr) (z : List Int) (n k ca lo tp : Nat) (w : World) (hz : RowIn lo tp w a z) (hn : z.length = n) (hl : n ≤ 1024) (hk : fstAt z k) :
 Calls Tryz.prog 250 #[.slice a n ca, .func (.func 251) #[] #[]] w fun e w' => e = .returned (.int .i64 k) ∧ w = w' := by
 subst hn
 have HZ := Lib.hid hz
 have HK := Lib.hid hk
 clear hz hk
 go_enter Tryz.func250, Tryz.ntmps250
 go_wp2
 go_loop [8] (fun t => ∃ i : Nat, i ≤ k ∧ t = .int .i64 i) (fun t => z.length - (intOf t).toNat)
 case atStart => exact ⟨0, Nat.zero_le _, rfl⟩
 case round =>
  obtain ⟨i, hi, rfl⟩ := hrel
  have hkl := HK.out.1
  have hi1 : (i : Int) < (z.length : Int) := by omega
  obtain ⟨b1, o1, ha1, _, _, hc1⟩ := HZ.out.num (by omega : i < z.length)
  subst ha1
  by_cases e : i = k
  · subst e
    have h3 := HK.out.2.2
    obtain ⟨x, hx⟩ : ∃ x, x = z.getD i 0 := ⟨_, rfl⟩
    rw [← hx] at hc1 h3
    have HX : Hid ((x != 0) = true) := by show _ = _; simpa using h3
    clear hx h3
    go_wp2_with (go_at_call 251; refine (isNotZ_any x _).mono ?_; rintro e w1 ⟨rfl, rfl⟩; rw [HX.out])
    go_ret
    exact ⟨rfl, rfl⟩
  · have h2 := HK.out.2.1 i (by omega)
    rw [h2] at hc1
    go_wp2_with (go_at_call 251; refine (isNotZ_any 0 _).mono ?_; rintro e w1 ⟨rfl, rfl⟩)
    go_round
    case rel => exact ⟨i + 1, by omega, by go_num⟩
    case measure => simp [intOf]; omega
theorem or_64 {a b : Nat} (ha : a < 64) (hb : b < 64) : bits .or .i64 (a : Int) (b : Int) = ((a ||| b : Nat) : Int) := by
 have h : ∀ a : Nat, a < 64 → ∀ b : Nat, b < 64 → bits .or .i64 (a : Int) (b : Int) = ((a ||| b : Nat) : Int) := by decide +kernel
 exact h a ha b hb
set_option maxHeartbeats 1600000 in
theorem pivotMask_any (a : Option Addr) (m : List (List Int)) (ca lo tp : Nat) (P : Nat → Nat) (w : World) (hm : MatIn lo tp w a m) (hl : ∀ i, i < m.length → (rw' m i).length ≤ 1024) (hf : ∀ i, i < m.length → fstAt (rw' m i) (P i)) (h6 : ∀ i, i < m.length → P i < 6) (hn : m.length ≤ 1024) :
 Calls Tryz.prog 222 #[.slice a m.length ca] w fun e w' => e = .returned (.int .i64 (pm P m.length)) ∧ w = w' := by
 have HM := Lib.hid hm
 have HL := Lib.hid hl
 have HF := Lib.hid hf
 have H6 := Lib.hid h6
 clear hm hl hf h6
 go_enter Tryz.func222, Tryz.ntmps222
 go_wp2
 go_loop [3, 8] (fun u t => ∃ i : Nat, i ≤ m.length ∧ u = .int .i64 (pm P i) ∧ t = .int .i64 i) (fun _ t => m.length - (intOf t).toNat)
 case atStart => exact ⟨0, Nat.zero_le _, rfl, rfl⟩
 case round =>
  obtain ⟨i, hi, rfl, rfl⟩ := hrel
  by_cases hlt : i < m.length
  · have hi1 : (i : Int) < (m.length : Int) := by omega
    obtain ⟨b9, o9, rv, cv, ha9, _, _, hr9, hrow⟩ := HM.out.row hlt
    subst ha9
    have HR := Lib.hid hrow
    have h6 := H6.out i hlt
    have hl1 := HL.out i hlt
    obtain ⟨q, hq⟩ : ∃ q, q = 2 ^ P i := ⟨_, rfl⟩
    obtain ⟨M, hM⟩ : ∃ M, M = pm P i := ⟨_, rfl⟩
    have hM64 : M < 64 := by rw [hM]; exact pm_lt (Q := 6) P i fun j hj => H6.out j (by omega)
    have hq64 : q < 64 := by rw [hq]; exact (show 2 ^ P i < 2 ^ 6 from Nat.pow_lt_pow_right (by decide) h6)
    have e1 : wrap64 ((2 : Int) ^ P i) = (q : Int) := by rw [hq]; exact wrap_pow h6
    have e2 : IntKind.i64.wrap ((2 : Int) ^ P i) = (q : Int) := by rw [hq]; exact kwrap_pow h6
    have e3 : bits .or .i64 (M : Int) (q : Int) = ((M ||| q : Nat) : Int) := or_64 hM64 hq64
    have HN : Hid (M ||| q = pm P (i + 1)) := by show _ = _; rw [hM, hq]; rfl
    rw [← hM]
    clear hrow hq hM
    go_wp2_with (go_at_call 250; (with_reducible refine (pivFunc_yes rv (rw' m i) (rw' m i).length (P i) cv lo tp _ HR.out rfl hl1 (HF.out i hlt)).mono ?_); rintro e w1 ⟨rfl, rfl⟩)
    go_round
    case rel => exact ⟨i + 1, by omega, by rw [← HN.out], by go_num⟩
    case measure => simp [intOf]; omega
  · have hin : i = m.length := by omega
    subst hin
    go_wp2
    go_ret
    exact ⟨rfl, rfl⟩
theorem list_isL {p : Int} {S : List Int} {m : List (List Int)} (hs : isSp p S = true) (hl : listB p S m = true) : isL 0 p m = true := by
 have h := listB_iff hl
 have k := isSp_iff.1 hs
 have len : ∀ i, i < m.length → (rw' m i).length = S.length := fun i hi => (isVec_iff.1 (h.2 i hi)).len
 have h6 := k.hi
 have h1 := k.lo
 refine isL_iff.2 ⟨k.prime, Nat.zero_le _, h.1, fun i hi => ?_, fun i hi => ?_, fun i hi => ?_, fun i hi => ?_⟩
 · rw [len i hi, len 0 (by omega)]
 · rw [len i hi]; exact h1
 · rw [len i hi]; omega
 · have h2 := h.2 i hi
   unfold isVec at h2
   rw [Bool.and_eq_true] at h2
   exact h2.2
end Go.Proofs.YtgfanoejohpmkaaGreat