/-
  Decompositions into reflections, the model's side: contracts of the program and of the model.
  Conditions: the lists are nil or rows of known cells, of at most 1048576 numbers.
-/
import Derived.Test.YtlfjhffigkhmcaaGreatQe47
import Derived.Test.YtlfjhffigkhmcaaGreatQe34
import Derived.Test.YtlfjhffigkhmcaaGreatQe50
import Derived.Test.YtlfjhffigkhmcaaGreatQe46
import Derived.Deep.RegionHeld3
import Derived.Deep.DeepCutAuto
namespace Go.Proofs.YtlfjhffigkhmcaaGreat
open Go.RowKit
set_option linter.unusedVariables false

theorem OutM.push2 {B : Nat} {w w1 : World} {o : Obj} {v v' : Value} {m : List (List Int)} {vals : List Value} {r r' : Option Addr} {z z' : List Int} {c c' : Nat}
    (ho : w.ownsRow B 22 1 v m.length vals) (hr : ∀ i, i < m.length → ∃ r c, vals[i]? = some (.slice r (rw' m i).length c) ∧ TagR B w.heap.size w r (rw' m i))
    (hz : TagR B w.heap.size w r z) (hz' : TagR B w.heap.size w r' z') (h1 : w1.ownsRow B 22 1 v' (m.length + 2) (vals ++ [.slice r z.length c, .slice r' z'.length c'])) (hg : (w.alloc o).grownBy w1 v.ownBlock) : OutM B w1 v' (m ++ [z, z']) := by
  have hvl : vals.length = m.length := by have := ho.1; omega
  have hs : w.heap.size ≤ w1.heap.size := Nat.le_trans (size_alloc w o) hg.size
  have keep : ∀ b cur, B ≤ b → b < w.heap.size → w.heap[b]? = some (.cells cur 2 (0, 0)) → w1.heap[b]? = w.heap[b]? := by
    intro b cur _ hlt ht
    refine (hg.block b (Nat.lt_of_lt_of_le hlt (size_alloc w o)) (fun e => ?_)).trans ((below_alloc w o).block b hlt)
    rcases ho.2 with ⟨rfl, _⟩ | ⟨g, cap, cur', rfl, _, hgg, _⟩
    · simp [Value.ownBlock] at e
    · simp [Value.ownBlock] at e
      subst e
      rw [hgg] at ht
      simp at ht
  refine ⟨vals ++ [.slice r z.length c, .slice r' z'.length c'], by rw [List.length_append]; exact h1, fun i hi => ?_⟩
  simp only [List.length_append, List.length_cons, List.length_nil] at hi
  by_cases e : i < m.length
  · obtain ⟨r0, c0, g1, g2⟩ := hr i e
    have e1 : rw' (m ++ [z, z']) i = rw' m i := by simp only [rw', List.getD_eq_getElem?_getD]; rw [List.getElem?_append_left e]
    rw [e1]
    exact ⟨r0, c0, by rw [List.getElem?_append_left (by omega)]; exact g1, g2.block (Nat.le_refl _) hs (fun b cur h0 h1 h2 => keep b cur h0 h1 h2)⟩
  · by_cases e2 : i = m.length
    · subst e2
      have e1 : rw' (m ++ [z, z']) m.length = z := by simp [rw', List.getD]
      rw [e1]
      exact ⟨r, c, by rw [← hvl]; simp, hz.block (Nat.le_refl _) hs (fun b cur h0 h1 h2 => keep b cur h0 h1 h2)⟩
    · have e3 : i = m.length + 1 := by omega
      subst e3
      have e1 : rw' (m ++ [z, z']) (m.length + 1) = z' := by simp [rw', List.getD]
      rw [e1]
      exact ⟨r', c', by rw [← hvl]; simp, hz'.block (Nat.le_refl _) hs (fun b cur h0 h1 h2 => keep b cur h0 h1 h2)⟩
theorem turn_i (a : Option Addr) (p : Int) (S : List Int) (C : List (List Int)) (n ca lo tp i : Nat) (w : World) (hC : Cols p S C) (hn : S.length = n) (h1 : 1 ≤ n) (h6 : n ≤ 6) (hi : i < n) (hm : MatIn lo tp w a (trM C)) (ht : tp ≤ w.heap.size) :
    Calls Tryz.prog 41 #[.slice a n ca] w (fun e w' => ∃ b o c, e = .returned (.slice (some ⟨b, o, none⟩) n c) ∧ (∃ r7 c7, w'.cell? ⟨b, o + i, none⟩ = some (.slice r7 (rw' C i).length c7) ∧ RowIn w.heap.size w'.heap.size w' r7 (rw' C i)) ∧ Below w.heap.size w w') := by
  obtain ⟨t1, t2, t3⟩ := hC.tr (by omega)
  have hr : ∀ i, i < (trM C).length → (rw' (trM C) i).length = n := fun i hi => by
    rw [tr_rw (by rw [← tr_ln]; exact hi), mkR_len, hC.len, hn]
  refine (l02Turn_m a (trM C) n ca lo tp w (by rw [t1, hn]) hm ht (by rw [t1]; omega) (fun i hi => by rw [hr i hi, hr 0 (by rw [t1]; omega)]) (by rw [t1]; omega) (by rw [t2]; omega)).mono ?_
  rintro e w' ⟨r, c, rfl, hM, hb⟩
  rw [t3] at hM ⊢
  obtain ⟨b, o, r7, c7, rfl, l, u, h7, hr7⟩ := hM.row (i := i) (by rw [hC.len, hn]; exact hi)
  exact ⟨b, o, c, by rw [hC.len, hn], ⟨r7, c7, h7, hr7⟩, hb⟩
theorem plus_tgn (p k : Int) (a b : Option Addr) (za zb : List Int) (na nb ca cb lo tp lo' tp' : Nat) (w : World) (hna_ : za.length = na) (hnb_ : zb.length = nb) (hp : prm p = true) (ha : RowIn lo tp w a za) (hb : RowIn lo' tp' w b zb) (ht : tp ≤ w.heap.size) (ht' : tp' ≤ w.heap.size) (hl : na ≤ nb) (hs : na ≤ 1048576) (hna : ∀ j, j < za.length → 0 ≤ za.getD j 0 ∧ za.getD j 0 < p) (hnb : ∀ j, j < zb.length → 0 ≤ zb.getD j 0 ∧ zb.getD j 0 < p) (k0 : 0 ≤ k) (k1 : k ≤ p) :
    Calls Tryz.prog 43 #[.int .i64 p, .slice a na ca, .slice b nb cb, .int .i64 k] w (fun e w' => ∃ r c, e = .returned (.slice r na c) ∧ TagR w.heap.size w'.heap.size w' r (plusR p za zb k) ∧ Below w.heap.size w w') := by
  subst hna_ hnb_; exact plus_tg p k a b za zb ca cb lo tp lo' tp' w hp ha hb ht ht' hl hs hna hnb k0 k1
theorem refl_n (pS : Int) (aS : Option Addr) (S : List Int) (cS loS tpS : Nat) (au : Option Addr) (u : List Int) (nu n cu lou tpu : Nat) (w : World) (hnu : u.length = nu) (hn : S.length = n) (hs : isSp pS S = true) (hS : RowIn loS tpS w aS S) (tS : tpS ≤ w.heap.size) (hu : RowIn lou tpu w au u) (tu : tpu ≤ w.heap.size) (mu : isVec pS S.length u = true) (h0 : pairN pS S u u ≠ 0) :
    Calls Tryz.prog 46 #[.agg #[.int .i64 pS, .slice aS S.length cS], .slice au nu cu] w (fun e w' => ∃ r c, e = .returned (.slice r n c) ∧ MatIn w.heap.size w'.heap.size w' r (rfX pS S u) ∧ Below w.heap.size w w') := by
  subst hnu
  have h1 := (isSp_iff.1 hs).lo
  refine (l08Reflection_any pS aS S cS loS tpS au u cu lou tpu w hs hS tS hu tu mu h0).mono ?_
  rintro e w' ⟨r, c, rfl, hM, hb⟩
  rw [← rf_led] at hM ⊢
  have e : (rfX pS S u).length = n := by unfold rfX; rw [tr_ln, led_ref, led_all _ (by omega), rfl_len, ei_len, hn]
  exact ⟨r, c, by rw [e], hM, hb⟩
theorem rfX_sq {p : Int} {S u : List Int} (hs : isSp p S = true) : Sq p (rfX p S u) S.length := by
  have hp := prm_bd (isSp_iff.1 hs).prime
  have h1 := (isSp_iff.1 hs).lo
  have h6 := (isSp_iff.1 hs).hi
  have l0 : (refC p S u (oneM S.length)).length = S.length := by rw [ref_len]; exact mk_len _ _ _
  have r0 : (rw' (refC p S u (oneM S.length)) 0).length = S.length := by rw [led_ref, led_all _ (by omega), rfl_len, ei_len]
  have e : rfX p S u = mk S.length S.length fun i k => at' (refC p S u (oneM S.length)) k i := by unfold rfX trM; rw [r0, l0]
  rw [e]
  refine ⟨⟨by rw [mk_len]; omega, by omega, fun i hi => by rw [mk_len] at hi; exact mk_rowLen _ hi, fun i hi j hj => ?_⟩, mk_len _ _ _⟩
  rw [mk_len] at hi
  rw [mk_rowLen _ hi] at hj
  rw [mk_row _ hi, mkR_at _ hj]
  unfold at'
  rw [ref_row p S u (by rw [show (oneM S.length).length = S.length from mk_len _ _ _]; exact hj), ei_row hj]
  have hv := rfl_vec7 (p := p) (S := S) (u := u) (by omega) (ei_vec (p := p) (by omega) S.length j)
  exact (isVec_iff.1 hv).num hi
theorem cols_sq {p : Int} {S : List Int} {C : List (List Int)} (hs : isSp p S = true) (h : Cols p S C) : Sq p (trM C) S.length := by
  have h1 := (isSp_iff.1 hs).lo
  have h6 := (isSp_iff.1 hs).hi
  have r0 : (rw' C 0).length = S.length := (isVec_iff.1 (h.vec 0 (by omega))).len
  have e : trM C = mk S.length S.length fun i k => at' C k i := by unfold trM; rw [r0, h.len]
  rw [e]
  refine ⟨⟨by rw [mk_len]; omega, by omega, fun i hi => by rw [mk_len] at hi; exact mk_rowLen _ hi, fun i hi j hj => ?_⟩, mk_len _ _ _⟩
  rw [mk_len] at hi
  rw [mk_rowLen _ hi] at hj
  rw [mk_row _ hi, mkR_at _ hj]
  exact (isVec_iff.1 (h.vec j hj)).num hi
theorem app_same {w W1 : World} {ob : Obj} {v : Value} {lo tp : Nat} (hg : (w.alloc ob).grownBy W1 v.ownBlock) (ht : tp ≤ w.heap.size) (hs : ∀ k, v.ownBlock = some k → k < lo ∨ tp ≤ k) : Same lo tp w W1 := fun k k0 k1 =>
  (hg.block k (Nat.lt_of_lt_of_le (Nat.lt_of_lt_of_le k1 ht) (size_alloc w ob)) (fun e => by rcases hs k e.symm with h | h <;> omega)).trans ((below_alloc w ob).block k (Nat.lt_of_lt_of_le k1 ht))
theorem own_lt {B : Nat} {w : World} {v : Value} {m : List (List Int)} (h : OutM B w v m) {k : Nat} (hk : v.ownBlock = some k) : B ≤ k ∧ k < w.heap.size := by
  obtain ⟨vals, ho, _⟩ := h; exact ho.lt k hk
theorem ei_tag (w : World) {n i : Nat} (lo : Nat) (hlo : lo ≤ w.heap.size) : TagR lo (w.alloc (.cells ((madeCells #[.int .i64 0] n).setIfInBounds i (.int .i64 1)) 2)).heap.size (w.alloc (.cells ((madeCells #[.int .i64 0] n).setIfInBounds i (.int .i64 1)) 2)) (some ⟨w.heap.size, 0, none⟩) (eiR n i) := by
  have h := one_rowA w (n := n) (k := i) 2 1
  refine .inr ⟨w.heap.size, 0, _, rfl, hlo, by simp, heap_alloc_new w _, fun j hj => ?_⟩
  rw [ei_len] at hj
  rw [ei_alt, mkR_at _ hj]
  exact h.cell j hj

set_option maxRecDepth 100000 in
set_option maxHeartbeats 12800000 in
theorem l08Decompose_any (pS : Int) (aS : Option Addr) (S : List Int) (cS loS tpS : Nat) (am : Option Addr) (m : List (List Int)) (cm lom tpm : Nat) (w : World) (hs : isSp pS S = true) (hd : discN pS S ≠ 0) (ho : orB pS S m = true) (hS : RowIn loS tpS w aS S) (tS : tpS ≤ w.heap.size) (hm : MatIn lom tpm w am m) (tm : tpm ≤ w.heap.size) :
    Calls Tryz.prog 21 #[.agg #[.int .i64 pS, .slice aS S.length cS], .slice am m.length cm] w (NewM (decL pS S m) w) := by
  obtain ⟨j0, kj, kz0, kz1, kz2⟩ := info_parts info_slice
  have HI := Lib.hid hs
  have HD := Lib.hid hd
  have HS := Lib.hid hS
  have Hm := Lib.hid hm
  have h6 := (isSp_iff.1 hs).hi
  have hl1 := (isSp_iff.1 hs).lo
  have hpb := prm_bd (isSp_iff.1 hs).prime
  have hh := orB_all ho
  have hmS : m.length = S.length := hh.1
  have HMS2 : Hid (S.length = m.length) := hmS.symm
  have SQM : ∀ A, Sq pS A S.length → Sq pS A m.length := fun A hA => by rw [← HMS2.out]; exact hA
  have hm0 : 0 < m.length := by omega
  have hm6 : m.length ≤ 6 := by omega
  have HCO : Hid (∀ k, k ≤ S.length → Cols pS S (dcC pS S (trM m) k)) := Cols.dc hs hd (or_cols hs ho)
  have HLL : Hid (∀ k, k ≤ S.length → (dcL pS S (trM m) k).length ≤ 2 * k) := fun k hk => (dcL_ok hs hd (or_cols hs ho) k hk).2
  have HTT : Hid (trM (trM m) = m) := tr_tr hm0 (by rw [hh.2.2.1]; omega) (fun i hi => (isL_iff.1 hh.2.1).len i hi)
  have w1_ : wrap64 (pS - 1) = pS - 1 := by unfold wrap64; omega
  have w2_ : IntKind.i64.wrap (pS - 1) = pS - 1 := IntWalk.i64_in _ (by omega)
  have q0_ : 0 ≤ pS - 1 := by omega
  have q1_ : pS - 1 ≤ pS := by omega
  have q2_ : (1 : Int) ≤ pS := by omega
  have hmk := fun W => run_make_row' (P := Tryz.prog) 22 2 (.int .i64 0) 8 Tryz.underlying22 info64 rfl .i64 .i64 S.length (by omega) (by omega) W
  have k0 := nw0 w (.int .i64 pS) (.slice aS S.length cS) 24
  have k1 := nw1 w (.int .i64 pS) (.slice aS S.length cS) 24
  have HB0 := Lib.hid (below_alloc w (.cells #[.int .i64 pS, .slice aS S.length cS] 24))
  clear hs hd ho hS hm hh
  go_enter Tryz.func21, Tryz.ntmps21
  go_upto_region 1 with fail
  obtain ⟨w1, hw1⟩ : ∃ z, z = w.alloc (.cells #[.int .i64 pS, .slice aS S.length cS] 24) := ⟨_, rfl⟩
  rw [← hw1] at HB0 k0 k1 ⊢
  have hd1 : w.heap.size < w1.heap.size := by rw [hw1]; simp
  have HB1 := HB0
  clear hw1
  have SS1 := Lib.hid (And.intro k0 k1)
  go_wp2
  clear hmS
  go_loopw [1, 5, 6] (fun u1 u5 t wr => ∃ (i : Nat) (r : Option Addr) (c lo tp : Nat), i ≤ S.length ∧ t = .int .i64 i ∧ u1 = .slice r m.length c ∧ MatIn lo tp wr r (trM (dcC pS S (trM m) i)) ∧ tp ≤ wr.heap.size ∧ (∀ k, u5.ownBlock = some k → k < lo ∨ tp ≤ k) ∧ OutM w1.heap.size wr u5 (dcL pS S (trM m) i) ∧ Below w1.heap.size w1 wr) (fun _ _ t _ => S.length - (intOf t).toNat)
  case atStart => exact ⟨0, am, cm, lom, tpm, Nat.zero_le _, rfl, rfl, by show MatIn _ _ _ _ (trM (trM m)); rw [HTT.out]; exact Hm.out.below ((HB1.out).alloc HB1.out.size _) tm, Nat.le_trans tm (HB1.out.alloc HB1.out.size _).size, fun k hk => .inr (by simp [Value.ownBlock] at hk; have := HB1.out.size; omega), OutM.start w1 _ _ (Nat.le_refl _) rfl, below_alloc w1 _⟩
  case round =>
    obtain ⟨i, r, c, lo, tp, hi, rfl, rfl, hM, htp, hsep, hO, hbel⟩ := hrel
    have HSEP := Lib.hid hsep
    have HOW : Hid (∀ k, u5.ownBlock = some k → w1.heap.size ≤ k ∧ k < wr.heap.size) := fun k hk => own_lt hO hk
    have HM0 := Lib.hid hM
    have HO0 := Lib.hid hO
    have HBEL := Lib.hid hbel
    have hwz := hbel.size
    have HB10 : Hid (Below w.heap.size w wr) := HB1.out.trans (hbel.mono HB1.out.size)
    have SS10 := Lib.hid (ss2 hbel hd1 SS1.out)
    have hd10 := Nat.lt_of_lt_of_le hd1 hwz
    have BR10 : Hid (Below wr.heap.size wr wr) := Below.refl _ _
    clear hM hO hbel hsep k0 k1
    obtain ⟨k0, k1⟩ := SS10.out
    by_cases hlt' : i < S.length
    · have hi1 : (i : Int) < (S.length : Int) := by omega
      have hiS := hlt'
      have hlt : i < m.length := by have := HMS2.out; omega
      obtain ⟨C, hC⟩ : ∃ C, C = dcC pS S (trM m) i := ⟨_, rfl⟩
      obtain ⟨L, hL⟩ : ∃ L, L = dcL pS S (trM m) i := ⟨_, rfl⟩
      have HCC : Hid (Cols pS S C) := by show Cols _ _ _; rw [hC]; exact HCO.out i (by omega)
      have HCE := Lib.hid hC
      have HLE := Lib.hid hL
      have hL12 : L.length ≤ 12 := by rw [hL]; have := HLL.out i (by omega); omega
      have HM : Hid (MatIn lo tp wr r (trM C)) := by show MatIn _ _ _ _ _; rw [hC]; exact HM0.out
      have HO : Hid (OutM w1.heap.size wr u5 L) := by show OutM _ _ _ _; rw [hL]; exact HO0.out
      have HXV : Hid (isVec pS S.length (rw' C i) = true) := HCC.out.vec i hiS
      have hxl : (rw' C i).length = S.length := (isVec_iff.1 HXV.out).len
      have HXL := Lib.hid hxl
      have hwl : (rw' C i).length ≤ S.length := by rw [hxl]; exact Nat.le_refl _
      have HXN : Hid (∀ j, j < (rw' C i).length → 0 ≤ (rw' C i).getD j 0 ∧ (rw' C i).getD j 0 < pS) := fun j hj => (isVec_iff.1 HXV.out).num (by rw [← hxl]; exact hj)
      have HEV : Hid (isVec pS S.length (eiR S.length i) = true) := ei_vec (by omega) _ _
      have HEN : Hid (∀ j, j < (eiR S.length i).length → 0 ≤ (eiR S.length i).getD j 0 ∧ (eiR S.length i).getD j 0 < pS) := fun j hj => (isVec_iff.1 HEV.out).num (by rw [← ei_len S.length i]; exact hj)
      have hn6 : (rw' C i).length ≤ 6 := by rw [hxl]; exact h6
      have HSO : Hid (∀ u, u ∈ stV pS S (rw' C i) i → isVec pS S.length u = true ∧ pairN pS S u u ≠ 0) := st_ok HI.out HD.out hiS HXV.out (HCC.out.nrm i hiS)
      have HSQ : Hid (Sq pS (trM C) m.length) := SQM _ (cols_sq HI.out HCC.out)
      clear hC hL hxl
      go_upto_region 8 with (go_at_call 41; ((with_reducible refine (turn_i r pS S C m.length c lo tp i wr HCC.out HMS2.out (Nat.succ_le_of_lt hm0) hm6 hlt HM.out htp).mono ?_); rintro e w11 ⟨b7, o7, c7_, rfl, ⟨r7, c7, hc7, hr7_⟩, b_⟩; have SS11 := Lib.hid (ss2 b_ hd10 SS10.out); have HB11 := Lib.hid (below_step HB10.out HB10.out.size b_); have hd11 := Nat.lt_of_lt_of_le hd10 b_.size; have BR11 := Lib.hid (below_step BR10.out BR10.out.size b_); have HR7 := Lib.hid hr7_; have g0 := made_cell w11 (.int .i64 0) S.length 2 hiS; have f0 : (w11.alloc (.cells (madeCells #[.int .i64 0] S.length) 2)).frozen? ⟨w11.heap.size, i, none⟩ = false := (by simp [go_sem]); clear hr7_; clear k0 k1; obtain ⟨k0, k1⟩ := SS11.out; clear b_))
      obtain ⟨w12, hw12⟩ : ∃ z, z = w11.alloc (.cells ((madeCells #[.int .i64 0] S.length).setIfInBounds i (.int .i64 1)) 2) := ⟨_, rfl⟩
      obtain ⟨B3, hB3⟩ : ∃ z, z = w11.heap.size := ⟨_, rfl⟩
      have b_ : Below w11.heap.size w11 w12 := by rw [hw12]; exact below_alloc w11 _
      have HET : Hid (TagR wr.heap.size w12.heap.size w12 (some ⟨B3, 0, none⟩) (eiR S.length i)) := by
        show TagR _ _ _ _ _
        rw [hB3, hw12]
        exact ei_tag w11 _ BR11.out.size
      have SS12 := Lib.hid (ss2 b_ hd11 SS11.out)
      have HB12 := Lib.hid (below_step HB11.out HB11.out.size b_)
      have hd12 := Nat.lt_of_lt_of_le hd11 b_.size
      have BR12 := Lib.hid (below_step BR11.out BR11.out.size b_)
      have HR7c := Lib.hid (HR7.out.below b_ (Nat.le_refl _))
      have HZ11 := Lib.hid b_.size
      rw [← hw12]
      rw [← hB3]
      clear hw12 hB3 b_ g0 f0 hc7 k0 k1
      obtain ⟨k0, k1⟩ := SS12.out
      by_cases hxe : rw' C i = eiR S.length i
      · have HDC : Hid (decide (rw' C i = eiR S.length i) = true) := decide_eq_true hxe
        have HV := Lib.hid (st_same (p := pS) hxe)
        have HC1 : Hid (dcC pS S (trM m) (i + 1) = C) := by
          show refA pS S (stV pS S (rw' (dcC pS S (trM m) i) i) i) (dcC pS S (trM m) i) = C
          rw [← HCE.out, HV.out]; rfl
        have HL1 : Hid (dcL pS S (trM m) (i + 1) = L) := by
          show dcL pS S (trM m) i ++ stV pS S (rw' (dcC pS S (trM m) i) i) i = L
          rw [← HCE.out, ← HLE.out, HV.out, List.append_nil]
        clear hxe
        go_wp2_with (go_at_call 42; ((with_reducible refine (l01Same_b r7 (some ⟨B3, 0, none⟩) (rw' C i) (eiR S.length i) _ S.length c7 S.length wr.heap.size w11.heap.size wr.heap.size w12.heap.size w12 rfl (ei_len _ _) HR7c.out HET.out.row (by omega)).mono ?_); rintro e w13 ⟨rfl, b_⟩; rw [HDC.out]; have SS13 := Lib.hid (ss2 b_ hd12 SS12.out); have HB13 := Lib.hid (below_step HB12.out HB12.out.size b_); have hd13 := Nat.lt_of_lt_of_le hd12 b_.size; have BR13 := Lib.hid (below_step BR12.out BR12.out.size b_); have B12_13 := Lib.hid (b_); clear k0 k1; obtain ⟨k0, k1⟩ := SS13.out; clear b_))
        go_roundw
        case rel => exact ⟨i + 1, r, c, lo, tp, hiS, by go_num, rfl, by rw [HC1.out]; exact HM.out.below BR13.out htp, Nat.le_trans htp BR13.out.size, HSEP.out, by rw [HL1.out]; exact HO.out.below BR13.out, HBEL.out.trans (BR13.out.mono hwz)⟩
        case measure => simp [intOf]; omega
      · have HDC : Hid (decide (rw' C i = eiR S.length i) = false) := decide_eq_false hxe
        obtain ⟨N, hN⟩ : ∃ n, n = pairN pS S (dfM pS (eiR S.length i) (rw' C i)) (dfM pS (eiR S.length i) (rw' C i)) := ⟨_, rfl⟩
        have HNE := Lib.hid hN
        have HDV : Hid (isVec pS S.length (dfM pS (eiR S.length i) (rw' C i)) = true) := plus_vec (by omega) _ HXL.out
        have HMV : Hid (isVec pS S.length (smM7 pS (eiR S.length i) (rw' C i)) = true) := plus_vec (by omega) _ HXL.out
        by_cases hn0 : N = 0
        · have HV : Hid (stV pS S (rw' C i) i = [(smM7 pS (eiR S.length i) (rw' C i)), (eiR S.length i)]) := st_more hxe (by rw [← hN]; exact hn0)
          have hn1 : (N != 0) = false := by simpa using hn0
          have HC1 : Hid (dcC pS S (trM m) (i + 1) = refC pS S (eiR S.length i) (refC pS S (smM7 pS (eiR S.length i) (rw' C i)) C)) := by
            show refA pS S (stV pS S (rw' (dcC pS S (trM m) i) i) i) (dcC pS S (trM m) i) = _
            rw [← HCE.out, HV.out]; rfl
          have HL1 : Hid (dcL pS S (trM m) (i + 1) = L ++ [(smM7 pS (eiR S.length i) (rw' C i)), (eiR S.length i)]) := by
            show dcL pS S (trM m) i ++ stV pS S (rw' (dcC pS S (trM m) i) i) i = _
            rw [← HCE.out, ← HLE.out, HV.out]
          have HN0 := Lib.hid (HSO.out (smM7 pS (eiR S.length i) (rw' C i)) (by rw [HV.out]; exact List.mem_cons_self ..)).2
          have HE0 := Lib.hid (HSO.out (eiR S.length i) (by rw [HV.out]; exact List.mem_cons_of_mem _ (List.mem_cons_self ..))).2
          have HC3 : Hid (Cols pS S (refC pS S (smM7 pS (eiR S.length i) (rw' C i)) C)) := HCC.out.ref (isSp_iff.1 HI.out).prime HN0.out
          clear hxe hn0 hN
          go_upto_region 14 with (first | (go_at_call 42; ((with_reducible refine (l01Same_b r7 (some ⟨B3, 0, none⟩) (rw' C i) (eiR S.length i) _ S.length c7 S.length wr.heap.size w11.heap.size wr.heap.size w12.heap.size w12 rfl (ei_len _ _) HR7c.out HET.out.row (by omega)).mono ?_); rintro e w13 ⟨rfl, b_⟩; rw [HDC.out]; have SS13 := Lib.hid (ss2 b_ hd12 SS12.out); have HB13 := Lib.hid (below_step HB12.out HB12.out.size b_); have hd13 := Nat.lt_of_lt_of_le hd12 b_.size; have BR13 := Lib.hid (below_step BR12.out BR12.out.size b_); have B12_13 := Lib.hid (b_); clear k0 k1; obtain ⟨k0, k1⟩ := SS13.out; clear b_)) | (go_at_call 43; ((with_reducible refine (plus_tgn pS (pS - 1) r7 (some ⟨B3, 0, none⟩) (rw' C i) (eiR S.length i) (rw' C i).length S.length c7 S.length wr.heap.size w11.heap.size wr.heap.size w12.heap.size w13 rfl (ei_len _ _) (isSp_iff.1 HI.out).prime (HR7c.out.below B12_13.out HZ11.out) (HET.out.row.below B12_13.out (Nat.le_refl _)) (Nat.le_trans HZ11.out B12_13.out.size) B12_13.out.size hwl (by omega) HXN.out HEN.out q0_ q1_).mono ?_); rintro e w14 ⟨rd, cd, rfl, t_, b_⟩; have SS14 := Lib.hid (ss2 b_ hd13 SS13.out); have HB14 := Lib.hid (below_step HB13.out HB13.out.size b_); have hd14 := Nat.lt_of_lt_of_le hd13 b_.size; have BR14 := Lib.hid (below_step BR13.out BR13.out.size b_); have B12_14 := Lib.hid (below_step B12_13.out B12_13.out.size b_); have HTd : Hid (TagR wr.heap.size w14.heap.size w14 rd (dfM pS (eiR S.length i) (rw' C i))) := TagR.low (lo' := wr.heap.size) t_ BR13.out.size; have HLd : Hid (((dfM pS (eiR S.length i) (rw' C i))).length = (rw' C i).length) := plusR_ln _ _ _ _; clear t_; clear k0 k1; obtain ⟨k0, k1⟩ := SS14.out; clear b_)) | (go_at_call 44; ((with_reducible refine (l03Pair_below pS aS S cS loS tpS rd (dfM pS (eiR S.length i) (rw' C i)) (rw' C i).length cd wr.heap.size w14.heap.size rd (dfM pS (eiR S.length i) (rw' C i)) (rw' C i).length cd wr.heap.size w14.heap.size w14 HLd.out HLd.out (HS.out.below HB14.out tS) (Nat.le_trans tS HB14.out.size) HTd.out.row (Nat.le_refl _) HTd.out.row (Nat.le_refl _) HI.out HDV.out HDV.out).mono ?_); rintro e w15 ⟨rfl, b_⟩; rw [← HNE.out]; have SS15 := Lib.hid (ss2 b_ hd14 SS14.out); have HB15 := Lib.hid (below_step HB14.out HB14.out.size b_); have hd15 := Nat.lt_of_lt_of_le hd14 b_.size; have BR15 := Lib.hid (below_step BR14.out BR14.out.size b_); have B12_15 := Lib.hid (below_step B12_14.out B12_14.out.size b_); have HTd5 := Lib.hid (HTd.out.below b_ (Nat.le_refl _) (Nat.le_refl _) b_.size); clear k0 k1; obtain ⟨k0, k1⟩ := SS15.out; clear b_)) | (go_at_call 43; ((with_reducible refine (plus_tgn pS 1 r7 (some ⟨B3, 0, none⟩) (rw' C i) (eiR S.length i) (rw' C i).length S.length c7 S.length wr.heap.size w11.heap.size wr.heap.size w12.heap.size w15 rfl (ei_len _ _) (isSp_iff.1 HI.out).prime (HR7c.out.below B12_15.out HZ11.out) (HET.out.row.below B12_15.out (Nat.le_refl _)) (Nat.le_trans HZ11.out B12_15.out.size) B12_15.out.size hwl (by omega) HXN.out HEN.out Int.one_nonneg q2_).mono ?_); rintro e w16 ⟨rm, cm', rfl, t_, b_⟩; have SS16 := Lib.hid (ss2 b_ hd15 SS15.out); have HB16 := Lib.hid (below_step HB15.out HB15.out.size b_); have hd16 := Nat.lt_of_lt_of_le hd15 b_.size; have BR16 := Lib.hid (below_step BR15.out BR15.out.size b_); have B12_16 := Lib.hid (below_step B12_15.out B12_15.out.size b_); have HTm : Hid (TagR wr.heap.size w16.heap.size w16 rm (smM7 pS (eiR S.length i) (rw' C i))) := TagR.low (lo' := wr.heap.size) t_ BR15.out.size; have HLm : Hid (((smM7 pS (eiR S.length i) (rw' C i))).length = (rw' C i).length) := plusR_ln _ _ _ _; clear t_; clear k0 k1; obtain ⟨k0, k1⟩ := SS16.out; clear b_)))
          have hO2 := HO.out.below BR16.out
          obtain ⟨vals, hvo, hvr⟩ := hO2
          have HVW := Lib.hid hvo
          have HVR := Lib.hid hvr
          have hzA : w1.heap.size ≤ w16.heap.size := Nat.le_trans hwz BR16.out.size
          clear hvo hvr
          go_upto_region 15 with (at_builtin; (refine wpList_append_lies _ rfl _ _ 25 rfl w1.heap.size 22 j0 (.slice none 0 0) 1 24 Tryz.underlying25 kj kz0 kz1 kz2 rfl (by decide) u5 L.length vals rfl (HVW.out.alloc _) ⟨w16.heap.size, 0, none⟩ 2 2 [.slice rm (rw' C i).length cm', .slice (some ⟨B3, 0, none⟩) S.length S.length] rfl rfl (World.news_of_block (cs := #[.slice rm (rw' C i).length cm', .slice (some ⟨B3, 0, none⟩) S.length S.length]) (t := 22) (fr := (0, 0)) (heap_alloc_new w16 _)) (by simp [Value.oneCell']) (by omega) (by unfold maxLen; omega) (by omega) (by simp; omega) (w16.heap.size + 1) (by simp) ?_); intro gg cap wN hown1 hgrow hat hlt1)
          have HON : Hid (OutM w1.heap.size wN (.slice (some ⟨gg, 0, none⟩) (L.length + 2) cap) (L ++ [(smM7 pS (eiR S.length i) (rw' C i)), (eiR S.length i)])) := OutM.push2 (c := cm') (c' := S.length) HVW.out HVR.out (TagR.low HTm.out hwz) (TagR.low (HET.out.below B12_16.out (Nat.le_refl _) (Nat.le_refl _) B12_16.out.size) hwz) (by rw [HLm.out, ei_len]; exact hown1) hgrow
          have HBN : Hid (Below w1.heap.size w1 wN) := ((HBEL.out.trans (BR16.out.mono hwz)).alloc hzA _).grown hgrow (by simp; omega) (fun _ hk => (HVW.out.lt _ hk).1)
          have HMN : Hid (MatIn lo tp wN r (trM C)) := (HM.out.below BR16.out htp).same (app_same hgrow (Nat.le_trans htp BR16.out.size) HSEP.out)
          have HRN : Hid (RowIn wr.heap.size w16.heap.size wN.drew rm (smM7 pS (eiR S.length i) (rw' C i))) := by have h := HTm.out.row.same (app_same hgrow (Nat.le_refl _) (fun k hk => .inl (HOW.out k hk).2)); exact h
          have HREN : Hid (RowIn wr.heap.size w12.heap.size wN.drew (some ⟨B3, 0, none⟩) (eiR S.length i)) := by have h := (HET.out.row.below B12_16.out (Nat.le_refl _)).same (app_same hgrow B12_16.out.size (fun k hk => .inl (HOW.out k hk).2)); exact h
          have hzN : w16.heap.size ≤ wN.drew.heap.size := Nat.le_trans (size_alloc _ _) hgrow.size
          have hgN : gg < wN.drew.heap.size := hlt1
          have HBD : Hid (Below w.heap.size w wN.drew) := (HB1.out.trans (HBN.out.mono HB1.out.size)).drew
          have hdd : w.heap.size < wN.drew.heap.size := Nat.lt_of_lt_of_le hd1 HBN.out.size
          have hs1 : Hid (wN.drew.cell? ⟨w.heap.size, 0, none⟩ = some (.int .i64 pS) ∧ wN.drew.cell? ⟨w.heap.size, 1, none⟩ = some (.slice aS S.length cS)) := ss2 (HBN.out) hd1 SS1.out
          have htN : tp ≤ wN.drew.heap.size := Nat.le_trans htp (Nat.le_trans BR16.out.size hzN)
          have h12N : w12.heap.size ≤ wN.drew.heap.size := Nat.le_trans B12_16.out.size hzN
          have HM2 : Hid (MatIn lo tp wN.drew r (trM C)) := HMN.out
          have HRXd : Hid (Sq pS (rfX pS S (smM7 pS (eiR S.length i) (rw' C i))) m.length) := SQM _ (rfX_sq (u := (smM7 pS (eiR S.length i) (rw' C i))) HI.out)
          have HRXe : Hid (Sq pS (rfX pS S (eiR S.length i)) m.length) := SQM _ (rfX_sq (u := (eiR S.length i)) HI.out)
          have HMUL : Hid (mulM pS (rfX pS S (smM7 pS (eiR S.length i) (rw' C i))) (trM C) = trM (refC pS S (smM7 pS (eiR S.length i) (rw' C i)) C)) := mul_rf HI.out HCC.out.len HCC.out.vec
          have HMU2 : Hid (mulM pS (rfX pS S (eiR S.length i)) (trM (refC pS S (smM7 pS (eiR S.length i) (rw' C i)) C)) = trM (refC pS S (eiR S.length i) (refC pS S (smM7 pS (eiR S.length i) (rw' C i)) C))) := mul_rf HI.out HC3.out.len HC3.out.vec
          have HSQ3 : Hid (Sq pS (trM (refC pS S (smM7 pS (eiR S.length i) (rw' C i)) C)) m.length) := SQM _ (cols_sq HI.out HC3.out)
          clear k0 k1 hown1 hgrow hat hlt1
          go_region_held3 (fun w' => w'.cell? ⟨w.heap.size, 0, none⟩ = some (.int .i64 pS) ∧ w'.cell? ⟨w.heap.size, 1, none⟩ = some (.slice aS S.length cS)) (first | exact hs1.out | exact SSa.out | exact SSab.out | exact SSabc.out | exact SSabcd.out | go_keep) (first | (go_at_call 46; (with_reducible refine (refl_n pS aS S cS loS tpS (some ⟨B3, 0, none⟩) (eiR S.length i) S.length m.length S.length wr.heap.size w12.heap.size wN.drew (ei_len _ _) HMS2.out HI.out (HS.out.below HBD.out tS) (Nat.le_trans tS (HBD.out).size) (HREN.out.below (Below.refl wN.drew.heap.size _) h12N) (Nat.le_trans h12N ((Below.refl wN.drew.heap.size _)).size) HEV.out HE0.out).mono ?_); rintro e wa ⟨ra, ka, rfl, o_, b_⟩; have SSa := Lib.hid (ss2 b_ hdd hs1.out); have HBa := Lib.hid (below_step HBD.out (Nat.le_of_lt hdd) b_); have zz_ := b_.size; have HCa := Lib.hid b_; have hda := Nat.lt_of_lt_of_le hdd zz_; have Ma_a := Lib.hid (o_.mono (Nat.le_of_lt hdd) (Nat.le_refl _)); clear b_ o_) | (go_at_call 46; (with_reducible refine (refl_n pS aS S cS loS tpS rm (smM7 pS (eiR S.length i) (rw' C i)) (rw' C i).length m.length cm' wr.heap.size w16.heap.size wa HLm.out HMS2.out HI.out (HS.out.below HBa.out tS) (Nat.le_trans tS (HBa.out).size) (HRN.out.below HCa.out hzN) (Nat.le_trans hzN (HCa.out).size) HMV.out HN0.out).mono ?_); rintro e wab ⟨rb, kb, rfl, o_, b_⟩; have SSab := Lib.hid (ss2 b_ hda SSa.out); have HBab := Lib.hid (below_step HBa.out (Nat.le_of_lt hda) b_); have zz_ := b_.size; have HCab := Lib.hid (below_step HCa.out (HCa.out).size b_); have hdab := Nat.lt_of_lt_of_le hda zz_; have Ma_ab := Lib.hid ((Ma_a.out.below b_ (Nat.le_refl _)).mono (Nat.le_refl _) zz_); have Mb_ab := Lib.hid (o_.mono (Nat.le_of_lt hda) (Nat.le_refl _)); clear b_ o_) | (go_at_call 45; (with_reducible refine (l02Times_sq pS rb r (rfX pS S (smM7 pS (eiR S.length i) (rw' C i))) (trM C) m.length kb c w.heap.size wab.heap.size lo tp wab (isSp_iff.1 HI.out).prime Mb_ab.out (HM2.out.below HCab.out htN) (Nat.le_refl _) (Nat.le_trans htN (HCab.out).size) HRXd.out HSQ.out hm0).mono ?_); rintro e wabc ⟨rc, kc, rfl, o_, b_⟩; rw [HMUL.out] at o_; have SSabc := Lib.hid (ss2 b_ hdab SSab.out); have HBabc := Lib.hid (below_step HBab.out (Nat.le_of_lt hdab) b_); have zz_ := b_.size; have HCabc := Lib.hid (below_step HCab.out (HCab.out).size b_); have hdabc := Nat.lt_of_lt_of_le hdab zz_; have Ma_abc := Lib.hid ((Ma_ab.out.below b_ (Nat.le_refl _)).mono (Nat.le_refl _) zz_); have Mb_abc := Lib.hid ((Mb_ab.out.below b_ (Nat.le_refl _)).mono (Nat.le_refl _) zz_); have Mc_abc := Lib.hid (o_.mono (Nat.le_of_lt hdab) (Nat.le_refl _)); clear b_ o_) | (go_at_call 45; (with_reducible refine (l02Times_sq pS ra rc (rfX pS S (eiR S.length i)) (trM (refC pS S (smM7 pS (eiR S.length i) (rw' C i)) C)) m.length ka kc w.heap.size wabc.heap.size w.heap.size wabc.heap.size wabc (isSp_iff.1 HI.out).prime Ma_abc.out Mc_abc.out (Nat.le_refl _) (Nat.le_refl _) HRXe.out HSQ3.out hm0).mono ?_); rintro e wabcd ⟨rd, kd, rfl, o_, b_⟩; rw [HMU2.out] at o_; have SSabcd := Lib.hid (ss2 b_ hdabc SSabc.out); have HBabcd := Lib.hid (below_step HBabc.out (Nat.le_of_lt hdabc) b_); have zz_ := b_.size; have HCabcd := Lib.hid (below_step HCabc.out (HCabc.out).size b_); have hdabcd := Nat.lt_of_lt_of_le hdabc zz_; have Ma_abcd := Lib.hid ((Ma_abc.out.below b_ (Nat.le_refl _)).mono (Nat.le_refl _) zz_); have Mb_abcd := Lib.hid ((Mb_abc.out.below b_ (Nat.le_refl _)).mono (Nat.le_refl _) zz_); have Mc_abcd := Lib.hid ((Mc_abc.out.below b_ (Nat.le_refl _)).mono (Nat.le_refl _) zz_); have Md_abcd := Lib.hid (o_.mono (Nat.le_of_lt hdabc) (Nat.le_refl _)); have HRES := Lib.hid (o_.mono (HCabc.out).size (Nat.le_refl _)); clear b_ o_))
          all_goals
            go_wp2
            go_roundw
            case rel => exact ⟨i + 1, rd, kd, wN.drew.heap.size, wabcd.heap.size, hiS, by go_num, rfl, by rw [HC1.out]; exact HRES.out, Nat.le_refl _, fun k hk => .inl (by simp [Value.ownBlock] at hk; omega), by rw [HL1.out]; exact (HON.out.below (below_drew wN)).below HCabcd.out, (HBN.out.drew).trans (HCabcd.out.mono HBN.out.size)⟩
            case measure => simp [intOf]; omega
        · have HV : Hid (stV pS S (rw' C i) i = [(dfM pS (eiR S.length i) (rw' C i))]) := st_less hxe (by rw [← hN]; exact hn0)
          have hn1 : (N != 0) = true := by simpa using hn0
          have HC1 : Hid (dcC pS S (trM m) (i + 1) = refC pS S (dfM pS (eiR S.length i) (rw' C i)) C) := by
            show refA pS S (stV pS S (rw' (dcC pS S (trM m) i) i) i) (dcC pS S (trM m) i) = _
            rw [← HCE.out, HV.out]; rfl
          have HL1 : Hid (dcL pS S (trM m) (i + 1) = L ++ [(dfM pS (eiR S.length i) (rw' C i))]) := by
            show dcL pS S (trM m) i ++ stV pS S (rw' (dcC pS S (trM m) i) i) i = _
            rw [← HCE.out, ← HLE.out, HV.out]
          have HN0 := Lib.hid (HSO.out (dfM pS (eiR S.length i) (rw' C i)) (by rw [HV.out]; exact List.mem_cons_self ..)).2
          clear hxe hn0 hN
          go_upto_region 11 with (first | (go_at_call 42; ((with_reducible refine (l01Same_b r7 (some ⟨B3, 0, none⟩) (rw' C i) (eiR S.length i) _ S.length c7 S.length wr.heap.size w11.heap.size wr.heap.size w12.heap.size w12 rfl (ei_len _ _) HR7c.out HET.out.row (by omega)).mono ?_); rintro e w13 ⟨rfl, b_⟩; rw [HDC.out]; have SS13 := Lib.hid (ss2 b_ hd12 SS12.out); have HB13 := Lib.hid (below_step HB12.out HB12.out.size b_); have hd13 := Nat.lt_of_lt_of_le hd12 b_.size; have BR13 := Lib.hid (below_step BR12.out BR12.out.size b_); have B12_13 := Lib.hid (b_); clear k0 k1; obtain ⟨k0, k1⟩ := SS13.out; clear b_)) | (go_at_call 43; ((with_reducible refine (plus_tgn pS (pS - 1) r7 (some ⟨B3, 0, none⟩) (rw' C i) (eiR S.length i) (rw' C i).length S.length c7 S.length wr.heap.size w11.heap.size wr.heap.size w12.heap.size w13 rfl (ei_len _ _) (isSp_iff.1 HI.out).prime (HR7c.out.below B12_13.out HZ11.out) (HET.out.row.below B12_13.out (Nat.le_refl _)) (Nat.le_trans HZ11.out B12_13.out.size) B12_13.out.size hwl (by omega) HXN.out HEN.out q0_ q1_).mono ?_); rintro e w14 ⟨rd, cd, rfl, t_, b_⟩; have SS14 := Lib.hid (ss2 b_ hd13 SS13.out); have HB14 := Lib.hid (below_step HB13.out HB13.out.size b_); have hd14 := Nat.lt_of_lt_of_le hd13 b_.size; have BR14 := Lib.hid (below_step BR13.out BR13.out.size b_); have B12_14 := Lib.hid (below_step B12_13.out B12_13.out.size b_); have HTd : Hid (TagR wr.heap.size w14.heap.size w14 rd (dfM pS (eiR S.length i) (rw' C i))) := TagR.low (lo' := wr.heap.size) t_ BR13.out.size; have HLd : Hid (((dfM pS (eiR S.length i) (rw' C i))).length = (rw' C i).length) := plusR_ln _ _ _ _; clear t_; clear k0 k1; obtain ⟨k0, k1⟩ := SS14.out; clear b_)) | (go_at_call 44; ((with_reducible refine (l03Pair_below pS aS S cS loS tpS rd (dfM pS (eiR S.length i) (rw' C i)) (rw' C i).length cd wr.heap.size w14.heap.size rd (dfM pS (eiR S.length i) (rw' C i)) (rw' C i).length cd wr.heap.size w14.heap.size w14 HLd.out HLd.out (HS.out.below HB14.out tS) (Nat.le_trans tS HB14.out.size) HTd.out.row (Nat.le_refl _) HTd.out.row (Nat.le_refl _) HI.out HDV.out HDV.out).mono ?_); rintro e w15 ⟨rfl, b_⟩; rw [← HNE.out]; have SS15 := Lib.hid (ss2 b_ hd14 SS14.out); have HB15 := Lib.hid (below_step HB14.out HB14.out.size b_); have hd15 := Nat.lt_of_lt_of_le hd14 b_.size; have BR15 := Lib.hid (below_step BR14.out BR14.out.size b_); have B12_15 := Lib.hid (below_step B12_14.out B12_14.out.size b_); have HTd5 := Lib.hid (HTd.out.below b_ (Nat.le_refl _) (Nat.le_refl _) b_.size); clear k0 k1; obtain ⟨k0, k1⟩ := SS15.out; clear b_)))
          have hO2 := HO.out.below BR15.out
          obtain ⟨vals, hvo, hvr⟩ := hO2
          have HVW := Lib.hid hvo
          have HVR := Lib.hid hvr
          have hzA : w1.heap.size ≤ w15.heap.size := Nat.le_trans hwz BR15.out.size
          clear hvo hvr
          go_upto_region 12 with (at_builtin; (refine wpList_append_lies _ rfl _ _ 25 rfl w1.heap.size 22 j0 (.slice none 0 0) 1 24 Tryz.underlying25 kj kz0 kz1 kz2 rfl (by decide) u5 L.length vals rfl (HVW.out.alloc _) ⟨w15.heap.size, 0, none⟩ 1 1 [.slice rd (rw' C i).length cd] rfl rfl (World.news_of_block (cs := #[.slice rd (rw' C i).length cd]) (t := 22) (fr := (0, 0)) (heap_alloc_new w15 _)) (by simp [Value.oneCell']) (by omega) (by unfold maxLen; omega) (by omega) (by simp; omega) (w15.heap.size + 1) (by simp) ?_); intro gg cap wN hown1 hgrow hat hlt1)
          have HON : Hid (OutM w1.heap.size wN (.slice (some ⟨gg, 0, none⟩) (L.length + 1) cap) (L ++ [(dfM pS (eiR S.length i) (rw' C i))])) := OutM.push (w := w15.alloc (.cells #[.slice rd (rw' C i).length cd] 22)) (c := cd) (HVW.out.alloc _) (fun j hj => by obtain ⟨r0, c0, g1, g2⟩ := HVR.out j hj; exact ⟨r0, c0, g1, g2.below (below_alloc _ _) (Nat.le_refl _) (Nat.le_refl _) (size_alloc _ _)⟩) ((TagR.low HTd5.out hwz).below (below_alloc _ _) (Nat.le_refl _) (Nat.le_refl _) (size_alloc _ _)) (by rw [HLd.out]; exact hown1) hgrow
          have HBN : Hid (Below w1.heap.size w1 wN) := ((HBEL.out.trans (BR15.out.mono hwz)).alloc hzA _).grown hgrow (by simp; omega) (fun _ hk => (HVW.out.lt _ hk).1)
          have HMN : Hid (MatIn lo tp wN r (trM C)) := (HM.out.below BR15.out htp).same (app_same hgrow (Nat.le_trans htp BR15.out.size) HSEP.out)
          have HRN : Hid (RowIn wr.heap.size w15.heap.size wN.drew rd (dfM pS (eiR S.length i) (rw' C i))) := by have h := HTd5.out.row.same (app_same hgrow (Nat.le_refl _) (fun k hk => .inl (HOW.out k hk).2)); exact h
          have hzN : w15.heap.size ≤ wN.drew.heap.size := Nat.le_trans (size_alloc _ _) hgrow.size
          have hgN : gg < wN.drew.heap.size := hlt1
          have HBD : Hid (Below w.heap.size w wN.drew) := (HB1.out.trans (HBN.out.mono HB1.out.size)).drew
          have hdd : w.heap.size < wN.drew.heap.size := Nat.lt_of_lt_of_le hd1 HBN.out.size
          have hs1 : Hid (wN.drew.cell? ⟨w.heap.size, 0, none⟩ = some (.int .i64 pS) ∧ wN.drew.cell? ⟨w.heap.size, 1, none⟩ = some (.slice aS S.length cS)) := ss2 (HBN.out) hd1 SS1.out
          have htN : tp ≤ wN.drew.heap.size := Nat.le_trans htp (Nat.le_trans BR15.out.size hzN)
          have h12N : w12.heap.size ≤ wN.drew.heap.size := Nat.le_trans B12_15.out.size hzN
          have HM2 : Hid (MatIn lo tp wN.drew r (trM C)) := HMN.out
          have HRXd : Hid (Sq pS (rfX pS S (dfM pS (eiR S.length i) (rw' C i))) m.length) := SQM _ (rfX_sq (u := (dfM pS (eiR S.length i) (rw' C i))) HI.out)
          have HMUL : Hid (mulM pS (rfX pS S (dfM pS (eiR S.length i) (rw' C i))) (trM C) = trM (refC pS S (dfM pS (eiR S.length i) (rw' C i)) C)) := mul_rf HI.out HCC.out.len HCC.out.vec
          clear k0 k1 hown1 hgrow hat hlt1
          go_region_held3 (fun w' => w'.cell? ⟨w.heap.size, 0, none⟩ = some (.int .i64 pS) ∧ w'.cell? ⟨w.heap.size, 1, none⟩ = some (.slice aS S.length cS)) (first | exact hs1.out | exact SSa.out | exact SSab.out | go_keep) (first | (go_at_call 46; (with_reducible refine (refl_n pS aS S cS loS tpS rd (dfM pS (eiR S.length i) (rw' C i)) (rw' C i).length m.length cd wr.heap.size w15.heap.size wN.drew HLd.out HMS2.out HI.out (HS.out.below HBD.out tS) (Nat.le_trans tS (HBD.out).size) (HRN.out.below (Below.refl wN.drew.heap.size _) hzN) (Nat.le_trans hzN ((Below.refl wN.drew.heap.size _)).size) HDV.out HN0.out).mono ?_); rintro e wa ⟨ra, ka, rfl, o_, b_⟩; have SSa := Lib.hid (ss2 b_ hdd hs1.out); have HBa := Lib.hid (below_step HBD.out (Nat.le_of_lt hdd) b_); have zz_ := b_.size; have HCa := Lib.hid b_; have hda := Nat.lt_of_lt_of_le hdd zz_; have Ma_a := Lib.hid (o_.mono (Nat.le_of_lt hdd) (Nat.le_refl _)); clear b_ o_) | (go_at_call 45; (with_reducible refine (l02Times_sq pS ra r (rfX pS S (dfM pS (eiR S.length i) (rw' C i))) (trM C) m.length ka c w.heap.size wa.heap.size lo tp wa (isSp_iff.1 HI.out).prime Ma_a.out (HM2.out.below HCa.out htN) (Nat.le_refl _) (Nat.le_trans htN (HCa.out).size) HRXd.out HSQ.out hm0).mono ?_); rintro e wab ⟨rb, kb, rfl, o_, b_⟩; rw [HMUL.out] at o_; have SSab := Lib.hid (ss2 b_ hda SSa.out); have HBab := Lib.hid (below_step HBa.out (Nat.le_of_lt hda) b_); have zz_ := b_.size; have HCab := Lib.hid (below_step HCa.out (HCa.out).size b_); have hdab := Nat.lt_of_lt_of_le hda zz_; have Ma_ab := Lib.hid ((Ma_a.out.below b_ (Nat.le_refl _)).mono (Nat.le_refl _) zz_); have Mb_ab := Lib.hid (o_.mono (Nat.le_of_lt hda) (Nat.le_refl _)); have HRES := Lib.hid (o_.mono (HCa.out).size (Nat.le_refl _)); clear b_ o_))
          all_goals
            go_wp2
            go_roundw
            case rel => exact ⟨i + 1, rb, kb, wN.drew.heap.size, wab.heap.size, hiS, by go_num, rfl, by rw [HC1.out]; exact HRES.out, Nat.le_refl _, fun k hk => .inl (by simp [Value.ownBlock] at hk; omega), by rw [HL1.out]; exact (HON.out.below (below_drew wN)).below HCab.out, (HBN.out.drew).trans (HCab.out.mono HBN.out.size)⟩
            case measure => simp [intOf]; omega
    · have hi2 : ¬ (i : Int) < (S.length : Int) := by omega
      have hin : i = S.length := by omega
      have ho2 := HO0.out
      rw [hin] at ho2
      obtain ⟨a, c', hu, hmat⟩ := ho2.mat
      subst hu
      have HMT := Lib.hid hmat
      clear ho2 hmat hin
      go_wp2
      go_ret
      exact ⟨a, c', rfl, HMT.out.mono HB1.out.size (Nat.le_refl _), HB10.out⟩

end Go.Proofs.YtlfjhffigkhmcaaGreat
