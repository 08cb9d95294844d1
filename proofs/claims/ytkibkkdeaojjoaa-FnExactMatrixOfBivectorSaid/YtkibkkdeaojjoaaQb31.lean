/-
  Matrices of bivectors, the form of Killing: contracts of the program and of the model.
  Conditions: the lists are nil or rows of known cells, of at most 1048576 numbers.
-/
import Derived.Test.YtkibkkdeaojjoaaQb30
import Derived.Test.YtkibkkdeaojjoaaQb8
import Derived.Test.YtkibkkdeaojjoaaQb24
import Derived.Test.YtkibkkdeaojjoaaQb25
import Derived.Laws.CopyOwn
import Derived.Laws.IdiomCopy
import Derived.Deep.RegionHeld3
import Derived.Deep.DeepCutAuto
namespace Go.Proofs.Ytkibkkdeaojjoaa
open Go.RowKit
set_option linter.unusedVariables false

theorem vecF_ifB (L : List Int) (j : Nat) : ∀ k, vecF L k j = 0 ∨ ∃ i, i < k ∧ j = 2 ^ i ∧ vecF L k j = L.getD i 0
  | 0 => .inl rfl
  | k + 1 => by
    by_cases e : j = 2 ^ k
    · exact .inr ⟨k, Nat.lt_succ_self k, e, by show (if j = 2 ^ k then L.getD k 0 else vecF L k j) = _; rw [if_pos e]⟩
    · have h : vecF L (k + 1) j = vecF L k j := by show (if j = 2 ^ k then L.getD k 0 else vecF L k j) = _; rw [if_neg e]
      rcases vecF_ifB L j k with h1 | ⟨i, hi, hj, h1⟩
      · exact .inl (h.trans h1)
      · exact .inr ⟨i, by omega, hj, h.trans h1⟩
theorem vecF_atB (L : List Int) {i : Nat} : ∀ k, i < k → vecF L k (2 ^ i) = L.getD i 0
  | 0, h => absurd h (Nat.not_lt_zero i)
  | k + 1, h => by
    show (if 2 ^ i = 2 ^ k then L.getD k 0 else vecF L k (2 ^ i)) = _
    by_cases e : i = k
    · subst e; rw [if_pos rfl]
    · have hik : i < k := by omega
      have hne : ¬ 2 ^ i = 2 ^ k := by have := Nat.pow_lt_pow_right (show 1 < 2 by decide) hik; omega
      rw [if_neg hne]
      exact vecF_atB L k hik
theorem vec_ei {S : List Int} {i : Nat} (hi : i < S.length) : vecM S (eiR S.length i) = bladeM S (2 ^ i) := by
  unfold vecM bladeM
  have hl : (eiR S.length i).length = S.length := mkR_len _ _
  rw [hl]
  refine mkR_congr fun j hj => ?_
  by_cases e : j = 2 ^ i
  · subst e
    rw [vecF_atB _ _ hi, if_pos rfl]
    unfold eiR
    rw [mkR_at _ hi, if_pos rfl]
  · rw [if_neg e]
    rcases vecF_ifB (eiR S.length i) j S.length with h | ⟨k, hk, hjk, h⟩
    · exact h
    · rw [h]
      unfold eiR
      rw [mkR_at _ hk, if_neg]
      intro e2; subst e2; exact e hjk
theorem ei_lenB (n i : Nat) : (eiR n i).length = n := mkR_len _ _
theorem ei_altB (n i : Nat) : eiR n i = mkR n fun j => if j = i then 1 else 0 := mkR_congr fun j _ => by simp [eq_comm]
/-- The columns of the matrix of a bivector. -/
def coM (p : Int) (S x : List Int) : List (List Int) := mk S.length S.length fun j i => bmF p S x i j
theorem coM_len (p : Int) (S x : List Int) : (coM p S x).length = S.length := mk_len _ _ _
theorem coM_row {p : Int} {S x : List Int} {j : Nat} (h : j < S.length) : rw' (coM p S x) j = tuM p S x (eiR S.length j) := by
  unfold coM
  rw [mk_row _ h]
  unfold tuM vnM
  rw [vec_ei h]
  rfl
theorem coM_tr {p : Int} {S x : List Int} (h : 0 < S.length) : trM (coM p S x) = bmM p S x := by
  unfold trM bmM
  rw [coM_len, show (rw' (coM p S x) 0).length = S.length from mk_rowLen _ h]
  exact mk_congr fun i hi j hj => mk_at _ hj hi
theorem bm_num {p : Int} (hp : 0 < p) (S x : List Int) {i j : Nat} (hi : i < S.length) (hj : j < S.length) : 0 ≤ at' (bmM p S x) i j ∧ at' (bmM p S x) i j < p := by
  rw [bm_at hi hj]
  unfold bmF
  rw [hbM_at p S x _ (pow_lt hi)]
  exact ⟨Int.emod_nonneg _ (by omega), Int.emod_lt_of_pos _ hp⟩
theorem bm_rect {p : Int} (hp : 0 < p) (S x : List Int) (h6 : S.length ≤ 6) : Rect p (bmM p S x) S.length where
  rows := by rw [bm_len]; omega
  cols := by omega
  len i hi := by rw [bm_len] at hi; exact bm_rl hi
  num i hi := fun j hj => by
    rw [bm_len] at hi
    rw [bm_rl hi] at hj
    exact bm_num hp S x hi hj
def mbV (p : Int) (S x : List Int) : List (List Int) := if bvC p S [x] = 0 then bmM p S x else []
theorem mbV_size (p : Int) (S x : List Int) : (mbV p S x).length + tot (mbV p S x) (mbV p S x).length ≤ 1048576 := by
  unfold mbV; split
  · rename_i h
    have h6 := (isSp_iff.1 (bvC_one h).1).hi
    rw [tot_const (c := S.length) (fun i hi => by rw [bm_len] at hi; exact bm_rl hi) (Nat.le_refl _), bm_len]
    have : S.length * S.length ≤ 6 * 6 := Nat.mul_le_mul h6 h6
    omega
  · simp [tot]
def kfM (p : Int) (S x y : List Int) : List (List Int) := mulM p (bmM p S x) (bmM p S y)
def kfV (p : Int) (S x y : List Int) : Int := if bvC p S [x, y] = 0 then trcM p (kfM p S x y) else 0
section
variable {P : Program} {ops : Array Oper} {rest : List Oper} {op : Oper} {a : Act} {w : World} {Q : Exit → Act → World → Prop}
theorem wpList_copy_cells (hgd : op.guard = none) (d s : Operand) (dT sT : TypeId)
    (ho : op.op = .call { callee := .builtin .copy, args := #[d, s], argTypes := #[dT, sT] }) (elem : TypeId) (hu : P.underlying dT = some (.slice elem)) (hsz : (P.info? elem).map (·.size) = some 1)
    (b o dLen dCap : Nat) (ad : Addr) (sLen sCap : Nat) (hd : a.eval d = .slice (some ⟨b, o, none⟩) dLen dCap) (hs : a.eval s = .slice (some ad) sLen sCap)
    (cs : List Value) (hn : cs.length = Nat.min sLen dLen) (hsrc : ∀ j v, cs[j]? = some v → w.cell? (ad.add j) = some v) (hc : ∀ j, j < cs.length → (w.cell? ⟨b, o + j, none⟩).isSome = true) (hf : ∀ j, j < cs.length → w.frozen? ⟨b, o + j, none⟩ = false) (h1 : ∀ v ∈ cs, v.oneCell' = true)
    (h : wpList P ops Q rest (a.put op.dst (goInt cs.length)) (w.setCells b o cs)) : wpList P ops Q (op :: rest) a w := by
  refine wpList_plain hgd fun K hK => ?_
  have hrun := run_copy_cells (P := P) w dT sT op.type elem b o dLen dCap ad sLen sCap cs hu hsz hn hsrc hc hf h1
  unfold Oper.wp
  simp [execOp, ho, resolve, invoke, builtin, hd, hs, hrun, Result.andThen]
  exact hK _ _ h
end
theorem wrote_setCells (b o : Nat) (vs : List Value) (w : World) : Wrote b o vs.length w (w.setCells b o vs) := by
  generalize hn0 : vs.length = n0
  have key : ∀ (vs : List Value) (k : Nat) (w1 : World), k + vs.length ≤ n0 → Wrote b o n0 w w1 → Wrote b o n0 w (w1.setCells b (o + k) vs) := by
    intro vs
    induction vs with
    | nil => intro k w1 _ h; exact h
    | cons v r ih =>
      intro k w1 hk h
      rw [World.setCells]
      rw [List.length_cons] at hk
      exact ih (k + 1) _ (by omega) (h.set (by omega) v)
  have h := key vs 0 w (by omega) (Wrote.refl b o n0 w)
  rwa [Nat.add_zero] at h
/-- What stands in the rows behind i copies. -/
def rwF (f : Nat → Int) (i i' j : Nat) : Int := if i' < i then f (i' * 6 + j) else 0

set_option maxRecDepth 100000 in
set_option maxHeartbeats 6400000 in
theorem rows_any (n : Nat) (f : Nat → Int) (w : World) (h6 : n ≤ 6) (h1 : 1 ≤ n) :
    Calls Try.prog 54 #[.agg (smL n f).toArray] w (OwnNew (mk n n fun i j => f (i * 6 + j)) w) := by
  obtain ⟨i0, hi, hz0, hz1, hz2⟩ := info_parts info64
  go_enter Try.func54, Try.ntmps54
  go_upto_region 1 with fail
  obtain ⟨w1, hw1⟩ : ∃ z, z = w.alloc (.cells (smL n f).toArray 71) := ⟨_, rfl⟩
  have GB1 : Hid (SmB w.heap.size n f w1) := by show SmB _ _ _ _; rw [hw1]; exact SmB.new _ _ _ _
  have HB1 : Hid (Below w.heap.size w w1) := by show Below _ _ _; rw [hw1]; exact below_alloc w _
  have hd1 : w.heap.size < w1.heap.size := by rw [hw1]; exact lt_alloc w _
  rw [← hw1]
  clear hw1
  have c0 := GB1.out.head
  go_upto_region 2 with (go_at_call 84; ((with_reducible refine (newMatrix_any n n w1 (by omega) (by omega) h1).mono ?_); rintro e w2 ⟨q, rfl, o_, b_⟩; have HO2 := Lib.hid o_; have GB2 := Lib.hid (GB1.out.below b_ hd1); have B2 := Lib.hid b_; have HB2 := Lib.hid (below_step HB1.out HB1.out.size b_); have z12 := b_.size; clear o_ b_ c0))
  have hqb : 0 < n → w1.heap.size ≤ q.b := fun h => (HO2.out.rng h).1
  go_wp2
  go_loopw [13] (fun t wr => ∃ i : Nat, i ≤ n ∧ t = .int .i64 i ∧ OwnAt w1.heap.size wr.heap.size wr q n (fun _ => n) (rwF f i) ∧ Below w1.heap.size w1 wr) (fun t _ => n - (intOf t).toNat)
  case atStart => exact ⟨0, Nat.zero_le _, rfl, HO2.out.congr (fun i _ j _ => by unfold rwF; rw [if_neg (Nat.not_lt_zero _)]), B2.out⟩
  case round =>
    obtain ⟨i, hi', rfl, ho, hbel⟩ := hrel
    have HO := Lib.hid ho
    have HB := Lib.hid hbel
    have GBr := Lib.hid (GB1.out.below hbel hd1)
    have hwz := hbel.size
    by_cases hlt : i < n
    · have hi1 : (i : Int) < (n : Int) := Int.ofNat_lt.2 hlt
      have hi6 : (i : Int) < 6 := by omega
      have h0i : (0 : Int) ≤ (i : Int) := Int.natCast_nonneg _
      have t0 := ho.top i hlt
      have HQ : Hid (q.R i = some ⟨q.B i, q.O i, none⟩) := (ho.row i hlt).resolve_left (by omega)
      have hq1 := (ho.rrng i hlt (by show 0 < n; omega)).1
      obtain ⟨cs, hcs⟩ : ∃ z, z = (List.range n).map fun j => Value.int .i64 (f (i * 6 + j)) := ⟨_, rfl⟩
      have HCL : Hid (cs.length = n) := by show _ = _; rw [hcs]; simp
      have HCV : Hid (∀ j v, cs[j]? = some v → j < n ∧ v = Value.int .i64 (f (i * 6 + j))) := fun j v hv => by
        have hj := (List.getElem?_eq_some_iff.1 hv).1
        rw [HCL.out] at hj
        refine ⟨hj, ?_⟩
        rw [hcs] at hv
        simp [hj] at hv
        exact hv.symm
      have HCO : Hid (∀ v ∈ cs, v.oneCell' = true) := fun v hv => by
        rw [hcs] at hv
        obtain ⟨j, _, rfl⟩ := List.mem_map.1 hv
        rfl
      have HSR : Hid (∀ j v, cs[j]? = some v → wr.cell? ((⟨w.heap.size, 1 + i * 6, none⟩ : Addr).add j) = some v) := fun j v hv => by
        obtain ⟨hj, e⟩ := HCV.out j v hv
        rw [Addr.add_mid, e, Nat.add_assoc]
        exact GBr.out.row.cell (i * 6 + j) (by omega)
      have HDC : Hid (∀ j, j < cs.length → (wr.cell? ⟨q.B i, q.O i + j, none⟩).isSome = true) := fun j hj => by
        rw [HCL.out] at hj
        rw [HO.out.cell i hlt j hj]; rfl
      have HDF : Hid (∀ j, j < cs.length → wr.frozen? ⟨q.B i, q.O i + j, none⟩ = false) := fun j hj => by
        rw [HCL.out] at hj
        exact HO.out.free i hlt j hj
      rw [HQ.out] at t0
      have HCM : Hid (cs.length = Nat.min 6 n) := by show _ = _; rw [HCL.out]; exact (Nat.min_eq_right h6).symm
      clear ho hbel hcs
      go_wp2_with (refine wpList_copy_cells (by rfl) _ _ _ _ (by rfl) 2 Try.underlying22 (by rw [hi]; simp [hz1]) (q.B i) (q.O i) n (q.C i) ⟨w.heap.size, 1 + i * 6, none⟩ 6 6 (by first | rfl | (simp [Act.eval]; done) | simp [Act.eval, Act.put]) (by first | rfl | (simp [Act.eval]; done) | simp [Act.eval, Act.put]) cs HCM.out HSR.out HDC.out HDF.out HCO.out ?_)
      go_roundw
      case rel =>
        have hw := wrote_setCells (q.B i) (q.O i) cs wr
        rw [HCL.out] at hw
        refine ⟨i + 1, by omega, by go_num, ?_, ?_⟩
        · refine ((HO.out.wrote hlt hw (fun j => f (i * 6 + j)) (fun j hj => ?_)).congr (fun i' _ j _ => ?_)).mono (Nat.le_refl _) (Nat.le_of_eq hw.size.symm)
          · have hj2 : j < cs.length := by rw [HCL.out]; exact hj
            have h := World.cell?_setCells_in (q.B i) cs (q.O i) wr HDC.out j hj2
            rw [h]
            exact congrArg some (HCV.out j _ (List.getElem?_eq_getElem hj2)).2
          · unfold rwF
            by_cases e : i' = i
            · subst e; rw [if_pos rfl, if_pos (Nat.lt_succ_self _)]
            · rw [if_neg e]
              by_cases e2 : i' < i
              · rw [if_pos e2, if_pos (by omega)]
              · rw [if_neg e2, if_neg (by omega)]
        · exact below_setCells HB.out hq1 _ _
      case measure => simp [intOf]; omega
    · have hin : i = n := by omega
      subst hin
      clear hbel ho
      go_wp2
      go_ret
      refine ⟨some ⟨q.b, q.o, none⟩, i, by rw [mk_len]; rfl, .inr ⟨q, rfl, ?_⟩, HB1.out.trans (HB.out.mono HB1.out.size)⟩
      rw [mk_len]
      have h := (HO.out.mono (Nat.le_of_lt hd1) (Nat.le_refl _)).congr (Z' := fun i' j => f (i' * 6 + j)) (fun i' h' j _ => by unfold rwF; rw [if_pos h'])
      exact { rng := h.rng, top := fun i' h' => by rw [mk_rowLen _ h']; exact h.top i' h', row := fun i' h' => by rw [mk_rowLen _ h']; exact h.row i' h', rrng := fun i' h' => by rw [mk_rowLen _ h']; exact h.rrng i' h', cell := fun i' h' j hj => by rw [mk_rowLen _ h'] at hj; rw [mk_at _ h' hj]; exact h.cell i' h' j hj, free := fun i' h' j hj => by rw [mk_rowLen _ h'] at hj; exact h.free i' h' j hj, apart := fun i' h' k hk e j hj l hl => by rw [mk_rowLen _ h'] at hj; rw [mk_rowLen _ hk] at hl; exact h.apart i' h' k hk e j hj l hl, tops := fun i' h' j hj k hk => by rw [mk_rowLen _ h'] at hj; exact h.tops i' h' j hj k hk }
theorem sm_back {n : Nat} {m : List (List Int)} (h6 : n ≤ 6) (hl : m.length = n) (hr : ∀ i, i < m.length → (rw' m i).length = n) : mk n n (fun i j => smM n m (i * 6 + j)) = m := by
  refine Eq.trans ?_ (eq_mk hr).symm
  rw [hl]
  refine mk_congr fun i hi j hj => ?_
  unfold smM
  have h1 : (i * 6 + j) / 6 = i := by omega
  have h2 : (i * 6 + j) % 6 = j := by omega
  rw [h1, h2, if_pos ⟨hi, hj⟩]
theorem rows_bm (pS : Int) (S x : List Int) (w : World) (h6 : S.length ≤ 6) (h1 : 1 ≤ S.length) :
    Calls Try.prog 54 #[.agg (smL S.length (smM S.length (bmM pS S x))).toArray] w (OwnNew (bmM pS S x) w) := by
  have h := rows_any S.length (smM S.length (bmM pS S x)) w h6 h1
  rw [sm_back h6 (bm_len _ _ _) (fun i hi => by rw [bm_len] at hi; exact bm_rl hi)] at h
  exact h

theorem l02Turn_mB (a : Option Addr) (m : List (List Int)) (n ca lo tp : Nat) (w : World) (hnm : m.length = n) (hm : MatIn lo tp w a m) (ht : tp ≤ w.heap.size) (h0 : 0 < m.length) (hc : ∀ i, i < m.length → (rw' m i).length = (rw' m 0).length) (hn : m.length ≤ 1024) (hn2 : (rw' m 0).length ≤ 1024) :
    Calls Try.prog 81 #[.slice a n ca] w (NewM (trM m) w) := by
  subst hnm; exact l02Turn_any a m ca lo tp w hm ht h0 hc hn hn2
set_option maxRecDepth 100000 in
set_option maxHeartbeats 6400000 in
theorem l10Matrix_any (pS : Int) (aS : Option Addr) (S : List Int) (cS loS tpS : Nat) (ax : Option Addr) (x : List Int) (cx lox tpx : Nat) (w : World) (hs : isSp pS S = true) (hS : RowIn loS tpS w aS S) (tS : tpS ≤ w.heap.size) (hx : RowIn lox tpx w ax x) (tx : tpx ≤ w.heap.size) (mx : isMv pS S x = true) :
    Calls Try.prog 51 #[.agg #[.int .i64 pS, .slice aS S.length cS], .slice ax x.length cx] w (NewM (bmM pS S x) w) := by
  obtain ⟨j0, kj, kz0, kz1, kz2⟩ := info_parts info_slice
  have HI := Lib.hid hs
  have HS := Lib.hid hS
  have Hx := Lib.hid hx
  have HMx := Lib.hid mx
  have h6 := (isSp_iff.1 hs).hi
  have hl1 := (isSp_iff.1 hs).lo
  have hpb := prm_bd (isSp_iff.1 hs).prime
  obtain ⟨M, hM⟩ : ∃ M, M = coM pS S x := ⟨_, rfl⟩
  have HML : Hid (M.length = S.length) := by show _ = _; rw [hM, coM_len]
  have HMR : Hid (∀ i, i < S.length → rw' M i = tuM pS S x (eiR S.length i)) := fun i hi => by rw [hM]; exact coM_row hi
  have HTK : Hid (M.take S.length = M) := List.take_of_length_le (by rw [HML.out]; exact Nat.le_refl _)
  have HCL : Hid (∀ i, i < S.length → (rw' M i).length = S.length) := fun i hi => by rw [HMR.out i hi]; exact tuM_len _ _ _ _
  rw [← coM_tr hl1, ← hM]
  have hmk := fun W => run_make_row' (P := Try.prog) 22 2 (.int .i64 0) 8 Try.underlying22 info64 rfl .i64 .i64 S.length (by omega) (by omega) W
  have k0 := nw0 w (.int .i64 pS) (.slice aS S.length cS) 28
  have k1 := nw1 w (.int .i64 pS) (.slice aS S.length cS) 28
  have HB0 := Lib.hid (below_alloc w (.cells #[.int .i64 pS, .slice aS S.length cS] 28))
  clear hs hS hx mx hM
  go_enter Try.func51, Try.ntmps51
  go_upto_region 1 with fail
  obtain ⟨w1, hw1⟩ : ∃ z, z = w.alloc (.cells #[.int .i64 pS, .slice aS S.length cS] 28) := ⟨_, rfl⟩
  rw [← hw1] at HB0 k0 k1 ⊢
  have hd1 : w.heap.size < w1.heap.size := by rw [hw1]; simp
  have HB1 := HB0
  clear hw1
  have SS1 := Lib.hid (And.intro k0 k1)
  go_wp2
  go_loopw [5, 6] (fun u t wr => ∃ i : Nat, i ≤ S.length ∧ t = .int .i64 i ∧ OutM w1.heap.size wr u (M.take i) ∧ Below w1.heap.size w1 wr) (fun _ t _ => S.length - (intOf t).toNat)
  case atStart => exact ⟨0, Nat.zero_le _, rfl, OutM.start w1 _ _ (Nat.le_refl _) rfl, below_alloc w1 _⟩
  case round =>
    obtain ⟨i, hi, rfl, ho, hbel⟩ := hrel
    have HO := Lib.hid ho
    have HBEL := Lib.hid hbel
    have hwz := hbel.size
    have HBW : Hid (Below w.heap.size w wr) := HB1.out.trans (hbel.mono HB1.out.size)
    clear k0 k1
    have k0 := (hbel.cell (p := ⟨w.heap.size, 0, none⟩) hd1).trans SS1.out.1
    have k1 := (hbel.cell (p := ⟨w.heap.size, 1, none⟩) hd1).trans SS1.out.2
    by_cases hlt : i < S.length
    · have hi1 : (i : Int) < (S.length : Int) := by omega
      have g0 := made_cell wr (.int .i64 0) S.length 2 hlt
      have f0 : (wr.alloc (.cells (madeCells #[.int .i64 0] S.length) 2)).frozen? ⟨wr.heap.size, i, none⟩ = false := (by simp [go_sem])
      have HTL : Hid ((M.take i).length = i) := by show _ = _; rw [List.length_take, HML.out]; omega
      obtain ⟨vals, hvo, hvr⟩ := ho
      rw [HTL.out] at hvo hvr
      have HV1 := Lib.hid hvo
      have HVR := Lib.hid hvr
      clear hbel hvo hvr
      go_upto_region 7 with fail
      obtain ⟨w3, hw3⟩ : ∃ z, z = wr.alloc (.cells ((madeCells #[.int .i64 0] S.length).setIfInBounds i (.int .i64 1)) 2) := ⟨_, rfl⟩
      obtain ⟨B3, hB3⟩ : ∃ z, z = wr.heap.size := ⟨_, rfl⟩
      have hb3 : Below wr.heap.size wr w3 := by rw [hw3]; exact below_alloc wr _
      have HE : Hid (RowIn w.heap.size w3.heap.size w3 (some ⟨B3, 0, none⟩) (eiR S.length i)) := by
        show RowIn _ _ _ _ _
        rw [ei_altB, hB3]
        have h := one_rowA wr (n := S.length) (k := i) 2 1
        rw [← hw3] at h
        exact (h.own HBW.out.size (by rw [hw3]; simp)).row
      have HB3 : Hid (Below w.heap.size w w3) := below_step HBW.out HBW.out.size hb3
      have HB3r := Lib.hid hb3
      rw [← hw3]
      rw [← hB3]
      have q0 : w3.cell? ⟨w.heap.size, 0, none⟩ = some (.int .i64 pS) := (hb3.cell (p := ⟨w.heap.size, 0, none⟩) (Nat.lt_of_lt_of_le hd1 hwz)).trans k0
      have q1 : w3.cell? ⟨w.heap.size, 1, none⟩ = some (.slice aS S.length cS) := (hb3.cell (p := ⟨w.heap.size, 1, none⟩) (Nat.lt_of_lt_of_le hd1 hwz)).trans k1
      have hwz3 := hb3.size
      clear hw3 g0 f0 hb3 k0 k1 hB3
      have HCC : Hid (Calls Try.prog 57 #[.agg #[.int .i64 pS, .slice aS S.length cS], .slice ax x.length cx, .slice (some ⟨B3, 0, none⟩) S.length S.length] w3 (NewR (rw' M i) w3)) := by
        show Calls _ _ _ _ _
        rw [HMR.out i hlt]
        have h := l10Turn_tag pS aS S cS loS tpS ax x cx lox tpx (some ⟨B3, 0, none⟩) (eiR S.length i) S.length w.heap.size w3.heap.size w3 HI.out (HS.out.below HB3.out tS) (Nat.le_trans tS HB3.out.size) (Hx.out.below HB3.out tx) (Nat.le_trans tx HB3.out.size) HMx.out HE.out (Nat.le_refl _) (ei_vec (by omega) _ _)
        rw [ei_lenB] at h
        exact h
      go_wp2_with (first | (go_at_call 57; ((with_reducible refine (HCC.out).mono ?_); rintro e w4 ⟨r4, c4, rfl, t_, b_⟩; have HB4r := Lib.hid (below_step HB3r.out HB3r.out.size b_); have hwz4 := Nat.le_trans hwz HB4r.out.size; have HT4 := Lib.hid (t_.block hwz3 (Nat.le_refl _) (fun _ _ _ _ _ => rfl)); have HVW := Lib.hid (HV1.out.kept (below_grown HB4r.out) (by cases hv : Value.ownBlock u5 <;> simp)); clear t_ b_ q0 q1)) | ((at_builtin; (refine wpList_append_lies _ rfl _ _ 34 rfl w1.heap.size 22 j0 (.slice none 0 0) 1 24 Try.underlying34 kj kz0 kz1 kz2 rfl (by decide) u5 i vals rfl (HVW.out.alloc _) ⟨w4.heap.size, 0, none⟩ 1 1 [.slice r4 (rw' M i).length c4] rfl rfl (World.news_of_block (cs := #[.slice r4 (rw' M i).length c4]) (t := 22) (fr := (0, 0)) (heap_alloc_new w4 _)) (by simp [Value.oneCell']) (by omega) (by unfold maxLen; omega) (by omega) (by simp; omega) (w4.heap.size + 1) (by simp) ?_); intro gg cap w1 hown1 hgrow hat hlt1)))
      go_wp2
      go_roundw
      case rel => exact ⟨i + 1, by omega, by go_num, OutM.nextT (by rw [HML.out]; exact hlt) HV1.out HVR.out HT4.out hwz HB4r.out hown1 hgrow, ((HBEL.out.trans (HB4r.out.mono hwz)).alloc (by omega) _).grown hgrow (by simp; omega) (fun _ hk => (HV1.out.lt _ hk).1)⟩
      case measure => simp [intOf]; omega
    · have hi2 : ¬ (i : Int) < (S.length : Int) := by omega
      have hin : i = S.length := by omega
      have ho2 := HO.out
      rw [hin, HTK.out] at ho2
      obtain ⟨r, c, hv, hmat⟩ := ho2.mat
      rw [HML.out] at hv
      subst hv
      have HMT := Lib.hid hmat
      clear ho hbel ho2 hmat hin
      go_wp2_with (go_at_call 81; ((with_reducible refine (l02Turn_mB r M S.length c w1.heap.size wr.heap.size wr HML.out HMT.out (Nat.le_refl _) (by rw [HML.out]; omega) (fun i hi => by rw [HCL.out i (by rw [← HML.out]; exact hi), HCL.out 0 (by omega)]) (by rw [HML.out]; omega) (by rw [HCL.out 0 (by omega)]; omega)).mono ?_); rintro e w4 ⟨r4, c4, rfl, o_, b_⟩; have HO4 := Lib.hid (o_.mono HBW.out.size (Nat.le_refl _)); have HB4 := Lib.hid (below_step HBW.out HBW.out.size b_); clear o_ b_))
      go_ret
      exact ⟨r4, c4, rfl, HO4.out, HB4.out⟩

set_option maxRecDepth 100000 in
set_option maxHeartbeats 6400000 in
theorem impl_MatrixOfBivector (pS : Int) (aS : Option Addr) (S : List Int) (cS loS tpS : Nat) (ax : Option Addr) (x : List Int) (cx lox tpx : Nat) (w : World) (hS : RowIn loS tpS w aS S) (tS : tpS ≤ w.heap.size) (sS : S.length ≤ 1048576) (hx : RowIn lox tpx w ax x) (tx : tpx ≤ w.heap.size) (sx : x.length ≤ 1048576) :
    Calls Try.prog 29 #[.agg #[.int .i64 pS, .slice aS S.length cS], .slice ax x.length cx] w (ImplM (mbV pS S x) (bvC pS S [x]) w) := by
  have HS := Lib.hid hS
  have Hx := Lib.hid hx
  have k0 := nw0 w (.int .i64 pS) (.slice aS S.length cS) 28
  have k1 := nw1 w (.int .i64 pS) (.slice aS S.length cS) 28
  have HB0 := Lib.hid (below_alloc w (.cells #[.int .i64 pS, .slice aS S.length cS] 28))
  clear hS hx
  by_cases h0 : bvC pS S [x] = 0
  · have HC := Lib.hid h0
    have hz := bvC_one h0
    have HI := Lib.hid hz.1
    have HMX := Lib.hid hz.2.1
    have h6 := (isSp_iff.1 hz.1).hi
    have h1 := (isSp_iff.1 hz.1).lo
    have HV : Hid (mbV pS S x = bmM pS S x) := if_pos h0
    clear h0 hz
    go_enter Try.func29, Try.ntmps29
    go_upto_region 1 with fail
    obtain ⟨w1, hw1⟩ : ∃ z, z = w.alloc (.cells #[.int .i64 pS, .slice aS S.length cS] 28) := ⟨_, rfl⟩
    rw [← hw1] at HB0 k0 k1 ⊢
    have hd1 : w.heap.size < w1.heap.size := by rw [hw1]; simp
    have HB1 := HB0
    clear hw1
    have SS1 := Lib.hid (And.intro k0 k1)
    go_upto_region 2 with (go_at_call 52; ((with_reducible refine (checkBivector_y pS aS S cS loS tpS ax x cx lox tpx w1 (HS.out.below HB1.out tS) (Nat.le_trans tS HB1.out.size) sS (Hx.out.below HB1.out tx) (Nat.le_trans tx HB1.out.size) sx HC.out).mono ?_); rintro e w2 ⟨rfl, b_⟩; have SS2 := Lib.hid (ss2 b_ hd1 SS1.out); have HB2 := Lib.hid (below_step HB1.out HB1.out.size b_); have hd2 := Nat.lt_of_lt_of_le hd1 b_.size; clear k0 k1; obtain ⟨k0, k1⟩ := SS2.out; clear b_))
    obtain ⟨w3, hwn⟩ : ∃ z, z = w2.alloc (.cells #[.int .i64 pS, .slice aS S.length cS, .slice ax x.length cx] 58) := ⟨_, rfl⟩
    obtain ⟨g, hg⟩ : ∃ b, b = w2.heap.size := ⟨_, rfl⟩
    have GN : Hid (w3.cell? ⟨g, 0, none⟩ = some (.int .i64 pS) ∧ w3.cell? ⟨g, 1, none⟩ = some (.slice aS S.length cS) ∧ w3.cell? ⟨g, 2, none⟩ = some (.slice ax x.length cx)) := by show _ ∧ _ ∧ _; rw [hwn, hg]; exact ⟨by simp [go_sem], by simp [go_sem], by simp [go_sem]⟩
    have bn_ : Below w2.heap.size w2 w3 := by rw [hwn]; exact below_alloc _ _
    have gg3 : g < w3.heap.size := by rw [hwn, hg]; simp
    have lg : w.heap.size < g := by rw [hg]; exact hd2
    have SS3 := Lib.hid (ss2 bn_ hd2 SS2.out)
    have HB3 := Lib.hid (below_step HB2.out HB2.out.size bn_)
    have hd3 := Nat.lt_of_lt_of_le hd2 bn_.size
    rw [← hwn, ← hg]
    clear hwn hg bn_ k0 k1
    obtain ⟨k0, k1⟩ := SS3.out
    obtain ⟨g0, g1, g2⟩ := GN.out
    go_wp2_with (first | (go_at_call 53; ((with_reducible refine (matrix_any pS aS S cS loS tpS ax x cx lox tpx w3 HI.out (HS.out.below HB3.out tS) (Nat.le_trans tS HB3.out.size) (Hx.out.below HB3.out tx) (Nat.le_trans tx HB3.out.size) HMX.out).mono ?_); rintro e w4 ⟨rfl, b_⟩; have SS4 := Lib.hid (ss2 b_ hd3 SS3.out); have HB4 := Lib.hid (below_step HB3.out HB3.out.size b_); have hd4 := Nat.lt_of_lt_of_le hd3 b_.size; clear k0 k1; obtain ⟨k0, k1⟩ := SS4.out; clear b_)) | (go_at_call 54; ((with_reducible refine (rows_bm pS S x w4 h6 h1).mono ?_); rintro e w5 ⟨r9, c9, rfl, o_, b_⟩; have SS5 := Lib.hid (ss2 b_ hd4 SS4.out); have HB5 := Lib.hid (below_step HB4.out HB4.out.size b_); have hd5 := Nat.lt_of_lt_of_le hd4 b_.size; have RR := Lib.hid (o_.mono (Nat.le_of_lt hd4) (Nat.le_refl _)); clear o_; clear k0 k1; obtain ⟨k0, k1⟩ := SS5.out; clear b_)))
    go_ret2
    rw [HV.out, HC.out]
    exact ⟨r9, c9, rfl, RR.out, HB5.out⟩
  · have HC := Lib.hid h0
    have HV : Hid (mbV pS S x = []) := if_neg h0
    obtain ⟨C, hC⟩ : ∃ c, c = bvC pS S [x] := ⟨_, rfl⟩
    have hc1 : (C != 0) = true := by rw [hC]; simpa using h0
    have hc2 : (C == 0) = false := by rw [hC]; simpa using h0
    have HCE := Lib.hid hC
    clear hC
    clear h0
    go_enter Try.func29, Try.ntmps29
    go_upto_region 1 with fail
    obtain ⟨w1, hw1⟩ : ∃ z, z = w.alloc (.cells #[.int .i64 pS, .slice aS S.length cS] 28) := ⟨_, rfl⟩
    rw [← hw1] at HB0 k0 k1 ⊢
    have hd1 : w.heap.size < w1.heap.size := by rw [hw1]; simp
    have HB1 := HB0
    clear hw1
    have SS1 := Lib.hid (And.intro k0 k1)
    go_upto_region 2 with (go_at_call 52; ((with_reducible refine (checkBivector_n pS aS S cS loS tpS ax x cx lox tpx w1 (HS.out.below HB1.out tS) (Nat.le_trans tS HB1.out.size) sS (Hx.out.below HB1.out tx) (Nat.le_trans tx HB1.out.size) sx HC.out).mono ?_); rintro e w2 ⟨rfl, b_⟩; rw [← HCE.out]; have SS2 := Lib.hid (ss2 b_ hd1 SS1.out); have HB2 := Lib.hid (below_step HB1.out HB1.out.size b_); have hd2 := Nat.lt_of_lt_of_le hd1 b_.size; clear k0 k1; obtain ⟨k0, k1⟩ := SS2.out; clear b_))
    go_wp2
    go_ret2
    rw [HV.out, ← HCE.out]
    exact ⟨none, 0, rfl, .inl rfl, HB2.out.alloc HB2.out.size _⟩

set_option maxRecDepth 100000 in
set_option maxHeartbeats 6400000 in
theorem spec_MatrixOfBivector (pS : Int) (aS : Option Addr) (S : List Int) (cS loS tpS : Nat) (ax : Option Addr) (x : List Int) (cx lox tpx : Nat) (w : World) (hS : RowIn loS tpS w aS S) (tS : tpS ≤ w.heap.size) (sS : S.length ≤ 1048576) (hx : RowIn lox tpx w ax x) (tx : tpx ≤ w.heap.size) (sx : x.length ≤ 1048576) :
    Calls Try.prog 28 #[.agg #[.int .i64 pS, .slice aS S.length cS], .slice ax x.length cx] w (SpecM (mbV pS S x) (bvC pS S [x]) w) := by
  have HS := Lib.hid hS
  have Hx := Lib.hid hx
  have k0 := nw0 w (.int .i64 pS) (.slice aS S.length cS) 28
  have k1 := nw1 w (.int .i64 pS) (.slice aS S.length cS) 28
  have HB0 := Lib.hid (below_alloc w (.cells #[.int .i64 pS, .slice aS S.length cS] 28))
  clear hS hx
  by_cases h0 : bvC pS S [x] = 0
  · have HC := Lib.hid h0
    have hz := bvC_one h0
    have HI := Lib.hid hz.1
    have HMX := Lib.hid hz.2.1
    have h6 := (isSp_iff.1 hz.1).hi
    have h1 := (isSp_iff.1 hz.1).lo
    have HV : Hid (mbV pS S x = bmM pS S x) := if_pos h0
    clear h0 hz
    go_enter Try.func28, Try.ntmps28
    go_upto_region 1 with fail
    obtain ⟨w1, hw1⟩ : ∃ z, z = w.alloc (.cells #[.int .i64 pS, .slice aS S.length cS] 28) := ⟨_, rfl⟩
    rw [← hw1] at HB0 k0 k1 ⊢
    have hd1 : w.heap.size < w1.heap.size := by rw [hw1]; simp
    have HB1 := HB0
    clear hw1
    have SS1 := Lib.hid (And.intro k0 k1)
    go_wp2_with (first | (go_at_call 50; ((with_reducible refine (codeB1 pS aS S cS loS tpS ax x cx lox tpx _ _ w1 _ rfl (HS.out.below HB1.out tS) (Nat.le_trans tS HB1.out.size) sS (Hx.out.below HB1.out tx) (Nat.le_trans tx HB1.out.size) sx).mono ?_); rintro e w2 ⟨rfl, b_⟩; rw [HC.out]; have b2_ := below_step (below_alloc w1 (.cells #[.slice ax x.length cx] 22)) (size_alloc w1 (.cells #[.slice ax x.length cx] 22)) b_; have SS2 := Lib.hid (ss2 b2_ hd1 SS1.out); have HB2 := Lib.hid (below_step HB1.out HB1.out.size b2_); have hd2 := Nat.lt_of_lt_of_le hd1 b2_.size; clear k0 k1; obtain ⟨k0, k1⟩ := SS2.out; clear b_ b2_)) | (go_at_call 51; ((with_reducible refine (l10Matrix_any pS aS S cS loS tpS ax x cx lox tpx w2 HI.out (HS.out.below HB2.out tS) (Nat.le_trans tS HB2.out.size) (Hx.out.below HB2.out tx) (Nat.le_trans tx HB2.out.size) HMX.out).mono ?_); rintro e w3 ⟨r9, c9, rfl, o_, b_⟩; have SS3 := Lib.hid (ss2 b_ hd2 SS2.out); have HB3 := Lib.hid (below_step HB2.out HB2.out.size b_); have hd3 := Nat.lt_of_lt_of_le hd2 b_.size; have RR := Lib.hid (o_.mono (Nat.le_of_lt hd2) (Nat.le_refl _)); clear o_; clear k0 k1; obtain ⟨k0, k1⟩ := SS3.out; clear b_)))
    go_ret2
    rw [HV.out, HC.out]
    exact ⟨r9, c9, rfl, RR.out, HB3.out⟩
  · have HV : Hid (mbV pS S x = []) := if_neg h0
    obtain ⟨C, hC⟩ : ∃ c, c = bvC pS S [x] := ⟨_, rfl⟩
    have hc1 : (C != 0) = true := by rw [hC]; simpa using h0
    have hc2 : (C == 0) = false := by rw [hC]; simpa using h0
    have HCE := Lib.hid hC
    clear hC
    clear h0
    go_enter Try.func28, Try.ntmps28
    go_upto_region 1 with fail
    obtain ⟨w1, hw1⟩ : ∃ z, z = w.alloc (.cells #[.int .i64 pS, .slice aS S.length cS] 28) := ⟨_, rfl⟩
    rw [← hw1] at HB0 k0 k1 ⊢
    have hd1 : w.heap.size < w1.heap.size := by rw [hw1]; simp
    have HB1 := HB0
    clear hw1
    have SS1 := Lib.hid (And.intro k0 k1)
    go_wp2_with (go_at_call 50; ((with_reducible refine (codeB1 pS aS S cS loS tpS ax x cx lox tpx _ _ w1 _ rfl (HS.out.below HB1.out tS) (Nat.le_trans tS HB1.out.size) sS (Hx.out.below HB1.out tx) (Nat.le_trans tx HB1.out.size) sx).mono ?_); rintro e w2 ⟨rfl, b_⟩; rw [← HCE.out]; have b2_ := below_step (below_alloc w1 (.cells #[.slice ax x.length cx] 22)) (size_alloc w1 (.cells #[.slice ax x.length cx] 22)) b_; have SS2 := Lib.hid (ss2 b2_ hd1 SS1.out); have HB2 := Lib.hid (below_step HB1.out HB1.out.size b2_); have hd2 := Nat.lt_of_lt_of_le hd1 b2_.size; clear k0 k1; obtain ⟨k0, k1⟩ := SS2.out; clear b_ b2_))
    go_ret2
    rw [HV.out, ← HCE.out]
    exact ⟨none, 0, rfl, .inl rfl, HB2.out⟩

end Go.Proofs.Ytkibkkdeaojjoaa
