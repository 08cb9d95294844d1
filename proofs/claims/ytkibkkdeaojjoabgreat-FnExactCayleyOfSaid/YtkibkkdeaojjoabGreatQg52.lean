/-
  Bivectors of matrices: contracts of the program and of the model.
  Conditions: the lists are nil or rows of known cells, of at most 1048576 numbers.
-/
import Derived.Test.YtkibkkdeaojjoabGreatQg51
import Derived.Test.YtkibkkdeaojjoabGreatQg45
import Derived.Test.YtkibkkdeaojjoabGreatQg8
import Derived.Deep.RegionHeld3
import Derived.Deep.DeepCutAuto
namespace Go.Proofs.YtkibkkdeaojjoabGreat
open Go.RowKit
set_option linter.unusedVariables false

theorem or_64B {a b : Nat} (ha : a < 64) (hb : b < 64) : bits .or .i64 (a : Int) (b : Int) = ((a ||| b : Nat) : Int) := by
  have h : ∀ a : Nat, a < 64 → ∀ b : Nat, b < 64 → bits .or .i64 (a : Int) (b : Int) = ((a ||| b : Nat) : Int) := by decide +kernel
  exact h a ha b hb
def BvO (p : Int) (aS : Option Addr) (S : List Int) (cS : Nat) (m : List (List Int)) (w : World) (e : Ending) (w' : World) : Prop := ∃ c, e = .returned (.tuple #[.agg #[.int .i64 p, .slice aS S.length cS, .slice (some ⟨c, 0, none⟩) (bl S) (bl S)], .bool (skB p S m)]) ∧ OwnR w.heap.size w'.heap.size w' (some ⟨c, 0, none⟩) (bbR p S m) ∧ Below w.heap.size w w'
theorem bb_mv {p : Int} {S : List Int} (hp : 0 < p) (m : List (List Int)) : isMv p S (bbR p S m) = true := by
  refine isVec_iff.2 ⟨bbR_len p S m, List.all_eq_true.2 fun z hz => ?_⟩
  obtain ⟨j, hj, rfl⟩ := List.getElem_of_mem hz
  have hj2 := hj
  rw [bbR_len] at hj2
  have e : (bbR p S m)[j] = (bbR p S m).getD j 0 := by simp [List.getD, hj]
  rw [e]
  unfold bbR
  rw [mkR_at _ hj2]
  unfold bbF
  split
  · exact inr_iff.2 ⟨Int.emod_nonneg _ (by omega), Int.emod_lt_of_pos _ hp⟩
  · exact inr_iff.2 ⟨Int.le_refl _, hp⟩
theorem dis_sq {p : Int} {S : List Int} : ∀ n, disN p S n ≠ 0 → ∀ i, i < n → S.getD i 0 ≠ 0
  | 0, _, i, hi => absurd hi (Nat.not_lt_zero i)
  | n + 1, h, i, hi => by
    intro e
    by_cases q : i = n
    · subst q
      exact h (by rw [disN, e]; simp)
    · refine dis_sq n (fun k => h (by rw [disN, k]; simp)) i (by omega) e
theorem Good.sq {p : Int} {S : List Int} {m : List (List Int)} (h : Good p S m) {i : Nat} (hi : i < S.length) : 1 ≤ S.getD i 0 ∧ S.getD i 0 < p := by
  have h1 := bi_sq h.sp hi
  have h2 := dis_sq S.length h.reg i hi
  omega
theorem eq_skB {p : Int} {S : List Int} {m : List (List Int)} (h : Good p S m) : eqB (smM S.length (bmM p S (bbR p S m))) (smM S.length m) = skB p S m := by
  have h6 := (isSp_iff.1 h.sp).hi
  have hb := bb_back h.sp h.reg h.len (fun i hi => h.rl hi) (fun i j hi hj => h.at hi hj) (fun i hi => h.sq hi)
  rw [Bool.eq_iff_iff, eqB_iff, ← hb]
  constructor
  · intro e
    refine (sm_back h6 (bm_len _ _ _) (fun i hi => by rw [bm_len] at hi; exact bm_rl hi)).symm.trans (Eq.trans ?_ (sm_back h6 h.len (fun i hi => h.rl hi)))
    exact mk_congr fun i hi j hj => e (i * 6 + j) (by omega)
  · intro e c _
    rw [e]

theorem OwnR.below' {lo hi B : Nat} {w w' : World} {a : Option Addr} {z : List Int} (h : OwnR lo hi w a z) (b : Below B w w') (l : hi ≤ B) : OwnR lo hi w' a z := by
  rcases h with h | ⟨g, o, ha, h0, h1, hc⟩
  · exact .inl h
  · exact .inr ⟨g, o, ha, h0, h1, fun j hj => ⟨(b.cell (p := ⟨g, o + j, none⟩) (by show g < B; omega)).trans (hc j hj).1, (b.frozen (p := ⟨g, o + j, none⟩) (by show g < B; omega)).trans (hc j hj).2⟩⟩
theorem W3.block {g : Nat} {v0 v1 v2 : Value} {w w' : World} (h : W3 g v0 v1 v2 w) (e : w'.heap[g]? = w.heap[g]?) : W3 g v0 v1 v2 w' :=
  ⟨⟨(World.cell?_of_block (w := w) (a := ⟨g, 0, none⟩) e).trans h.1.1, (World.cell?_of_block (w := w) (a := ⟨g, 1, none⟩) e).trans h.1.2.1, (World.cell?_of_block (w := w) (a := ⟨g, 2, none⟩) e).trans h.1.2.2⟩, (World.frozen?_of_block (w := w) (a := ⟨g, 0, none⟩) e).trans h.2.1, (World.frozen?_of_block (w := w) (a := ⟨g, 1, none⟩) e).trans h.2.2.1, (World.frozen?_of_block (w := w) (a := ⟨g, 2, none⟩) e).trans h.2.2.2⟩
theorem OwnR.far3 {lo hi c o r : Nat} {v0 v1 v2 : Value} {w w' : World} {z : List Int} (h : OwnR lo hi w (some ⟨c, o, none⟩) z) (hne : c ≠ r) (e : w' = wput3 r v0 v1 v2 w) (l : hi ≤ w'.heap.size := by simp [World.setCell, *]) : OwnR lo w'.heap.size w' (some ⟨c, o, none⟩) z := by
  subst e
  rcases h with h | ⟨g, q, ha, h0, h1, hc⟩
  · exact .inl h
  · injection ha with ha
    injection ha with ha1 ha2
    subst ha1 ha2
    refine .inr ⟨c, o, rfl, h0, Nat.lt_of_lt_of_le h1 l, fun j hj => ?_⟩
    have far : ∀ (W : World) (k : Nat) (v : Value), (W.setCell ⟨r, k, none⟩ v).cell? ⟨c, o + j, none⟩ = W.cell? ⟨c, o + j, none⟩ := fun W k v => World.cell?_setCell_other W ⟨r, k, none⟩ ⟨c, o + j, none⟩ _ (fun e => hne (by injection e with e1; exact e1.symm))
    refine ⟨(far _ _ _).trans ((far _ _ _).trans ((far _ _ _).trans (hc j hj).1)), ?_⟩
    have := (hc j hj).2
    unfold wput3
    simp [go_sem, this]
theorem matrix_n (pS : Int) (aS : Option Addr) (S : List Int) (n cS loS tpS : Nat) (ax : Option Addr) (x : List Int) (k cx lox tpx : Nat) (w : World) (hn : n = S.length) (hs : isSp pS S = true) (hS : RowIn loS tpS w aS S) (tS : tpS ≤ w.heap.size) (hx : RowIn lox tpx w ax x) (tx : tpx ≤ w.heap.size) (mx : isMv pS S x = true) (hk : x.length = k) :
    Calls Tryz.prog 89 #[.agg #[.int .i64 pS, .slice aS n cS, .slice ax k cx]] w (SmE n (smM n (bmM pS S x)) w) := by
  subst hn hk
  exact matrix_any pS aS S cS loS tpS ax x cx lox tpx w hs hS tS hx tx mx

set_option maxRecDepth 100000 in
set_option maxHeartbeats 12800000 in
theorem bivectorOf_any (pS : Int) (aS : Option Addr) (S : List Int) (cS loS tpS : Nat) (am : Option Addr) (m : List (List Int)) (cm lom tpm : Nat) (w : World) (hS : RowIn loS tpS w aS S) (tS : tpS ≤ w.heap.size) (hm : MatIn lom tpm w am m) (tm : tpm ≤ w.heap.size) (hg : Good pS S m) :
    Calls Tryz.prog 66 #[.agg #[.int .i64 pS, .slice aS S.length cS], .slice am S.length cm] w (BvO pS aS S cS m w) := by
  have HS := Lib.hid hS
  have Hm := Lib.hid hm
  have HG := Lib.hid hg
  have hpb := prm_bd hg.lst.prime
  have h6 := (isSp_iff.1 hg.sp).hi
  have h1 := (isSp_iff.1 hg.sp).lo
  have hbl := bl_le h6
  have HML := Lib.hid hg.len
  have HEQ := Lib.hid (eq_skB hg)
  have hmk := fun W => run_make_row' (P := Tryz.prog) 22 2 (.int .i64 0) 8 Tryz.underlying22 info64 rfl .i64 .i64 (bl S) (by omega) (by omega) W
  have k0 := nw0 w (.int .i64 pS) (.slice aS S.length cS) 29
  have k1 := nw1 w (.int .i64 pS) (.slice aS S.length cS) 29
  have HB0 := Lib.hid (below_alloc w (.cells #[.int .i64 pS, .slice aS S.length cS] 29))
  clear hS hm hg
  go_enter Tryz.func66, Tryz.ntmps66
  go_upto_region 1 with fail
  obtain ⟨w0, hw0'⟩ : ∃ z, z = w.alloc (.cells #[.int .i64 pS, .slice aS S.length cS] 29) := ⟨_, rfl⟩
  rw [← hw0'] at HB0 k0 k1 ⊢
  have hw0 : w.heap.size < w0.heap.size := by rw [hw0']; simp
  have hwz : w.heap.size + 1 = w0.heap.size := by rw [hw0']; simp
  try rw [hwz]
  clear hw0'
  obtain ⟨w1, hw1⟩ : ∃ z, z = w0.alloc (.cells #[.int .i64 0, .slice none 0 0, .slice none 0 0] 51) := ⟨_, rfl⟩
  obtain ⟨r, hr⟩ : ∃ b, b = w0.heap.size := ⟨_, rfl⟩
  have hs0 : w1.cell? ⟨w.heap.size, 0, none⟩ = some (.int .i64 pS) ∧ w1.cell? ⟨w.heap.size, 1, none⟩ = some (.slice aS S.length cS) := by rw [hw1]; exact ss2 (below_alloc w0 _) hw0 ⟨k0, k1⟩
  have hzz : W3 r (.int .i64 0) (.slice none 0 0) (.slice none 0 0) w1 := by rw [hw1, hr]; exact W3.new _ _ _ _ _
  have HB1 : Hid (Below w.heap.size w w1) := by show Below _ _ _; rw [hw1]; exact HB0.out.alloc HB0.out.size _
  have hr1 : r < w1.heap.size := by rw [hw1, hr]; simp
  have hwr : w.heap.size < r := by omega
  have hd1 : w.heap.size < w1.heap.size := Nat.lt_trans hwr hr1
  rw [← hw1]
  rw [← hr]
  clear hw1 hwz hr k0 k1
  have k0 := hs0.1
  have k1 := hs0.2
  have K1 := Lib.hid hs0
  have ZZ := Lib.hid hzz
  clear hs0 hzz
  go_upto_region 2 with (go_at_call 54; ((with_reducible refine (blades_any pS aS S cS _ h6).mono ?_); rintro e w2 ⟨rfl, b_⟩; have B2 := Lib.hid b_; have z2 := b_.size; clear b_ k0 k1))
  obtain ⟨w3, hw3⟩ : ∃ z, z = w2.alloc (.cells (madeCells #[.int .i64 0] (bl S)) 2) := ⟨_, rfl⟩
  obtain ⟨c, hc⟩ : ∃ b, b = w2.heap.size := ⟨_, rfl⟩
  have RC3 : Hid (RowOwn w3 c 0 (bl S) (bbS pS S m 0 1)) := by show RowOwn _ _ _ _ _; rw [hw3, hc]; exact (RowOwn.start w2 (bl S) _).congr fun j hj => (bbS_none pS S m h6 j hj).symm
  have B13 : Below w1.heap.size w1 w3 := by rw [hw3]; exact B2.out.alloc z2 _
  have HZ3 : Hid (w3.cell? ⟨w.heap.size, 0, none⟩ = some (.int .i64 pS) ∧ w3.cell? ⟨w.heap.size, 1, none⟩ = some (.slice aS S.length cS)) := ss2 B13 hd1 K1.out
  have ZZ3 := Lib.hid (ZZ.out.below B13 hr1)
  have HB3 : Hid (Below w.heap.size w w3) := below_step HB1.out HB1.out.size B13
  have hc3 : c < w3.heap.size := by rw [hw3, hc]; simp
  have hrc : r < c := by rw [hc]; omega
  have hwc : w.heap.size < c := Nat.lt_trans hwr hrc
  rw [← hw3, ← hc]
  clear hw3 hc B13 hmk
  have hd3 : w.heap.size < w3.heap.size := Nat.lt_trans hwc hc3
  have hr3 : r < w3.heap.size := Nat.lt_trans hrc hc3
  obtain ⟨n, hn⟩ : ∃ n, n = S.length := ⟨_, rfl⟩
  have HN := Lib.hid hn
  have n6 : n ≤ 6 := by omega
  rw [← hn]
  clear hn
  go_wp2
  go_loopw [18] (fun t wr => ∃ i : Nat, i ≤ n ∧ t = .int .i64 i ∧ RowOwn wr c 0 (bl S) (bbS pS S m i (i + 1)) ∧ Gb c w3.heap.size w3 wr ∧ Below w.heap.size w wr ∧ w3.heap.size ≤ wr.heap.size) (fun t _ => n - (intOf t).toNat)
  case atStart => exact ⟨0, Nat.zero_le _, rfl, RC3.out, Gb.refl _ _ _, HB3.out, Nat.le_refl _⟩
  case round =>
    obtain ⟨i, hi, rfl, hrc_, hgb, hbel, hsz⟩ := hrel
    have HRC := Lib.hid hrc_
    have HGB := Lib.hid hgb
    have HBEL := Lib.hid hbel
    by_cases hlt : i < n
    · have hi1 : (i : Int) < (n : Int) := Int.ofNat_lt.2 hlt
      obtain ⟨b9, o9, rv, cv, ha9, _, hb9, hr90, hrow0⟩ := Hm.out.row (show i < m.length by rw [HML.out, ← HN.out]; exact hlt)
      subst ha9
      have hr9 := (hbel.cell (p := ⟨b9, o9 + i, none⟩) (Nat.lt_of_lt_of_le hb9 tm)).trans hr90
      rw [HG.out.rl (by rw [HML.out, ← HN.out]; exact hlt), ← HN.out] at hr9
      have HROW := Lib.hid hrow0
      clear hrc_ hgb hbel hr90 hrow0
      go_wp2
      go_loopw [9] (fun t wq => ∃ k : Nat, i + 1 ≤ k ∧ k ≤ n ∧ t = .int .i64 k ∧ RowOwn wq c 0 (bl S) (bbS pS S m i k) ∧ Gb c w3.heap.size w3 wq ∧ Below w.heap.size w wq ∧ w3.heap.size ≤ wq.heap.size) (fun t _ => n - (intOf t).toNat)
      case atStart => exact ⟨i + 1, Nat.le_refl _, hlt, by go_num, HRC.out, HGB.out, HBEL.out, hsz⟩
      case round =>
        rename World => wq
        obtain ⟨k, hki, hkn, rfl, hrq, hgq, hbq, hsq⟩ := hrel
        have HRQ := Lib.hid hrq
        have HGQ := Lib.hid hgq
        have HBQ := Lib.hid hbq
        by_cases hlk : k < n
        · have hk1 : (k : Int) < (n : Int) := Int.ofNat_lt.2 hlk
          have z0 := (World.cell?_of_block (w := w3) (a := ⟨w.heap.size, 0, none⟩) (hgq w.heap.size hd3 (Nat.ne_of_lt hwc))).trans HZ3.out.1
          have z1 := (World.cell?_of_block (w := w3) (a := ⟨w.heap.size, 1, none⟩) (hgq w.heap.size hd3 (Nat.ne_of_lt hwc))).trans HZ3.out.2
          rw [← HN.out] at z1
          obtain ⟨b2, o2, ha2, _, _, hv⟩ := (HROW.out.below hbq tm).num (j := k) (by rw [HG.out.rl (by rw [HML.out, ← HN.out]; exact hlt), ← HN.out]; exact hlk)
          obtain ⟨b5, o5, ha5, _, _, hs⟩ := (HS.out.below hbq tS).num (j := k) (by rw [← HN.out]; exact hlk)
          subst ha2
          subst ha5
          have hv' : wq.cell? ⟨b2, o2 + k, none⟩ = some (.int .i64 (at' m i k)) := hv
          have x1 := HG.out.at (i := i) (j := k) (by rw [HML.out, ← HN.out]; exact hlt) (by rw [← HN.out]; exact hlk)
          have x2 := bi_sq HG.out.sp (i := k) (by rw [← HN.out]; exact hlk)
          obtain ⟨V, hV⟩ : ∃ z, z = at' m i k := ⟨_, rfl⟩
          obtain ⟨Q, hQ⟩ : ∃ z, z = S.getD k 0 := ⟨_, rfl⟩
          rw [← hV] at hv' x1
          rw [← hQ] at hs x2
          have HVE := Lib.hid hV
          have HQE := Lib.hid hQ
          have e0 : wq.heap.size ≠ w.heap.size := World.new_ne wq ⟨w.heap.size, 0, none⟩ z0
          have e2 : wq.heap.size ≠ b2 := World.new_ne wq ⟨b2, o2 + k, none⟩ hv'
          have e5 : wq.heap.size ≠ b5 := World.new_ne wq ⟨b5, o5 + k, none⟩ hs
          have l0 : w.heap.size < wq.heap.size := Nat.lt_of_lt_of_le hd3 hsq
          have l2 : b2 < wq.heap.size := World.block_lt_of_cell? wq ⟨b2, o2 + k, none⟩ hv'
          have l5 : b5 < wq.heap.size := World.block_lt_of_cell? wq ⟨b5, o5 + k, none⟩ hs
          have f0 : wq.heap.size + 1 ≠ w.heap.size := by omega
          have f2 : wq.heap.size + 1 ≠ b2 := by omega
          have f5 : wq.heap.size + 1 ≠ b5 := by omega
          have hs9 : Hid (wq.drew.cell? ⟨w.heap.size, 0, none⟩ = some (.int .i64 pS) ∧ wq.drew.cell? ⟨w.heap.size, 1, none⟩ = some (.slice (some ⟨b5, o5, none⟩) n cS) ∧ wq.drew.cell? ⟨b2, o2 + k, none⟩ = some (.int .i64 V) ∧ wq.drew.cell? ⟨b5, o5 + k, none⟩ = some (.int .i64 Q)) := ⟨z0, z1, hv', hs⟩
          clear hV hQ hrq hgq hbq hv
          go_upto_region 8 with fail
          go_region_held3 (fun w' => w'.cell? ⟨w.heap.size, 0, none⟩ = some (.int .i64 pS) ∧ w'.cell? ⟨w.heap.size, 1, none⟩ = some (.slice (some ⟨b5, o5, none⟩) n cS) ∧ w'.cell? ⟨b2, o2 + k, none⟩ = some (.int .i64 V) ∧ w'.cell? ⟨b5, o5 + k, none⟩ = some (.int .i64 Q)) (first | exact hs9.out | go_keep) (fail)
          · obtain ⟨w5, hw5⟩ : ∃ z, z = ((wq.alloc (.cells #[.int .i64 pS, .int .i64 V] 90)).alloc (.cells #[.int .i64 pS, .int .i64 Q] 90)).drew := ⟨_, rfl⟩
            obtain ⟨vb, hvb⟩ : ∃ b, b = wq.heap.size := ⟨_, rfl⟩
            obtain ⟨qb, hqb⟩ : ∃ b, b = (wq.heap.size + 1) := ⟨_, rfl⟩
            have HC5 : Hid (w5.drew.cell? ⟨vb, 0, none⟩ = some (.int .i64 pS) ∧ w5.drew.cell? ⟨vb, 1, none⟩ = some (.int .i64 V) ∧ w5.drew.cell? ⟨qb, 0, none⟩ = some (.int .i64 pS) ∧ w5.drew.cell? ⟨qb, 1, none⟩ = some (.int .i64 Q)) := by show _ ∧ _ ∧ _ ∧ _; rw [hw5, hvb, hqb]; refine ⟨?_, ?_, ?_, ?_⟩ <;> simp [go_sem, World.cell?_alloc_some, World.cell?_alloc_new]
            have B5 : Below wq.heap.size wq w5.drew := by rw [hw5]; exact ((below_alloc wq _).alloc (Nat.le_of_lt (lt_alloc wq _)) _).drew.drew
            have z5 : w5.drew.heap.size = wq.heap.size + 2 := by show w5.heap.size = _; rw [hw5]; simp
            have lv5 : vb < w5.drew.heap.size := by rw [z5, hvb]; omega
            have lq5 : qb < w5.drew.heap.size := by rw [z5, hqb]; omega
            rw [← hw5]
            try rw [← hqb]
            try rw [← hvb]
            have hccq : c < wq.heap.size := Nat.lt_of_lt_of_le hc3 hsq
            have hvc : vb ≠ c := by omega
            have hqc : qb ≠ c := by omega
            have HR5 := Lib.hid (HRQ.out.stay (B5.block c hccq))
            have HB5 := Lib.hid (HBQ.out.trans (B5.mono (Nat.le_of_lt l0)))
            have G5 : Hid (Gb c w3.heap.size w3 w5.drew) := HGQ.out.trans (Gb.below (B5.mono hsq))
            have hs5 : w3.heap.size ≤ w5.drew.heap.size := by omega
            clear hw5 hvb hqb B5 z0 z1 hv' hs hs9 e0 e2 e5 l2 l5 f0 f2 f5
            have hb2 := bits2_at (i := i) (k := k) (by omega) (by omega)
            have hM : 2 ^ i ||| 2 ^ k < bl S := by rw [hb2.2.2.2.2.1]; exact pair_bl (by omega) (by rw [← HN.out]; exact hlk)
            have HMP : Hid (2 ^ i ||| 2 ^ k = 2 ^ i + 2 ^ k) := hb2.2.2.2.2.1
            obtain ⟨q1, hq1⟩ : ∃ q, q = 2 ^ i := ⟨_, rfl⟩
            obtain ⟨q2, hq2⟩ : ∃ q, q = 2 ^ k := ⟨_, rfl⟩
            have HQ1 := Lib.hid hq1
            have HQ2 := Lib.hid hq2
            have s1 : IntKind.i64.wrap ((2 : Int) ^ i) = (q1 : Int) := by rw [hq1]; exact kwrap_powB (by omega)
            have s2 : IntKind.i64.wrap ((2 : Int) ^ k) = (q2 : Int) := by rw [hq2]; exact kwrap_powB (by omega)
            rw [← hq1, ← hq2] at hM
            have hq164 : q1 < 64 := by rw [hq1]; exact (show 2 ^ i < 2 ^ 6 from Nat.pow_lt_pow_right (by decide) (by omega))
            have hq264 : q2 < 64 := by rw [hq2]; exact (show 2 ^ k < 2 ^ 6 from Nat.pow_lt_pow_right (by decide) (by omega))
            have s3 : bits .or .i64 (q1 : Int) (q2 : Int) = ((q1 ||| q2 : Nat) : Int) := or_64B hq164 hq264
            obtain ⟨M, hMM⟩ : ∃ M, M = q1 ||| q2 := ⟨_, rfl⟩
            rw [← hMM] at hM s3
            have HME : Hid (M = 2 ^ i + 2 ^ k) := by show _ = _; rw [hMM, hq1, hq2]; exact HMP.out
            have hMi : (M : Int) < (bl S : Int) := by omega
            have hM0 : (0 : Int) ≤ (M : Int) := Int.natCast_nonneg _
            have hi63 : (i : Int) < 64 := by omega
            have hk63 : (k : Int) < 64 := by omega
            have c5 := HR5.out.cell M hM
            have f5 := HR5.out.free M hM
            rw [Nat.zero_add] at c5 f5
            have hcw5 : c < w5.drew.heap.size := by omega
            clear hq1 hq2 hMM hb2
            obtain ⟨K, hK⟩ : ∃ z, z = V * inv pS Q % pS := ⟨_, rfl⟩
            have HKE := Lib.hid hK
            clear hK
            obtain ⟨u0, u1, u2, u3⟩ := HC5.out
            have fv := field_value
            go_upto_region 9 with fail
            go_region_held3 (fun w' => w'.cell? ⟨vb, 0, none⟩ = some (.int .i64 pS) ∧ w'.cell? ⟨vb, 1, none⟩ = some (.int .i64 V) ∧ w'.cell? ⟨qb, 0, none⟩ = some (.int .i64 pS) ∧ w'.cell? ⟨qb, 1, none⟩ = some (.int .i64 Q)) (first | exact HC5.out | exact HC6.out | exact ⟨(World.cell?_setCell_other w6 ⟨c, M, none⟩ ⟨vb, 0, none⟩ _ (fun e => hvc (by injection e with e1; exact e1.symm))).trans HC6.out.1, (World.cell?_setCell_other w6 ⟨c, M, none⟩ ⟨vb, 1, none⟩ _ (fun e => hvc (by injection e with e1; exact e1.symm))).trans HC6.out.2.1, (World.cell?_setCell_other w6 ⟨c, M, none⟩ ⟨qb, 0, none⟩ _ (fun e => hqc (by injection e with e1; exact e1.symm))).trans HC6.out.2.2.1, (World.cell?_setCell_other w6 ⟨c, M, none⟩ ⟨qb, 1, none⟩ _ (fun e => hqc (by injection e with e1; exact e1.symm))).trans HC6.out.2.2.2⟩ | go_keep) (first | (go_at_call 88; ((with_reducible refine (over_any pS V Q w5.drew HG.out.lst.prime x1.1 x1.2 x2.1 x2.2).mono ?_); rintro e w6 ⟨rfl, b_⟩; rw [← HKE.out]; have B6 := Lib.hid b_; have HC6 : Hid (w6.cell? ⟨vb, 0, none⟩ = some (.int .i64 pS) ∧ w6.cell? ⟨vb, 1, none⟩ = some (.int .i64 V) ∧ w6.cell? ⟨qb, 0, none⟩ = some (.int .i64 pS) ∧ w6.cell? ⟨qb, 1, none⟩ = some (.int .i64 Q)) := ⟨(b_.cell (p := ⟨vb, 0, none⟩) lv5).trans u0, (b_.cell (p := ⟨vb, 1, none⟩) lv5).trans u1, (b_.cell (p := ⟨qb, 0, none⟩) lq5).trans u2, (b_.cell (p := ⟨qb, 1, none⟩) lq5).trans u3⟩; have c6 := (b_.cell (p := ⟨c, M, none⟩) hcw5).trans c5; have f6 := (b_.frozen (p := ⟨c, M, none⟩) hcw5).trans f5; clear b_)))
            all_goals
              have HR6 := Lib.hid (HR5.out.stay (B6.out.block c hcw5))
              have HPUT : Hid (RowOwn (w6.setCell ⟨c, M, none⟩ (.int .i64 K)) c 0 (bl S) (bbS pS S m i (k + 1))) := by
                have h := HR6.out.put hM K
                rw [Nat.zero_add] at h
                refine h.congr fun j hj => ?_
                have e := bbS_put pS S m (i := i) (k := k) (by omega) (by rw [← HN.out]; exact hlk) h6 j hj
                rw [e, HME.out, HKE.out, HVE.out, HQE.out]
              have HGS : Hid (Gb c w3.heap.size w3 (w6.setCell ⟨c, M, none⟩ (.int .i64 K))) := by
                have h := Gb.wrote (B := w3.heap.size) ((Wrote.refl c 0 (bl S) w6).set hM (.int .i64 K))
                rw [Nat.zero_add] at h
                exact (G5.out.trans (Gb.below (B6.out.mono hs5))).trans h
              have HBS : Hid (Below w.heap.size w (w6.setCell ⟨c, M, none⟩ (.int .i64 K))) := (HB5.out.trans (B6.out.mono HB5.out.size)).setCell (Nat.le_of_lt hwc) _
              have z6 := B6.out.size
              clear u0 u1 u2 u3 c5 f5 c6 f6
              go_wp2
              go_roundw
              case rel => exact ⟨k + 1, by omega, by omega, by go_num, HPUT.out, HGS.out, HBS.out, by simp [World.setCell]; omega⟩
              case measure => simp [intOf]; omega
          · obtain ⟨w5, hw5⟩ : ∃ z, z = ((wq.alloc (.cells #[.int .i64 pS, .int .i64 Q] 90)).alloc (.cells #[.int .i64 pS, .int .i64 V] 90)).drew := ⟨_, rfl⟩
            obtain ⟨vb, hvb⟩ : ∃ b, b = (wq.heap.size + 1) := ⟨_, rfl⟩
            obtain ⟨qb, hqb⟩ : ∃ b, b = wq.heap.size := ⟨_, rfl⟩
            have HC5 : Hid (w5.drew.cell? ⟨vb, 0, none⟩ = some (.int .i64 pS) ∧ w5.drew.cell? ⟨vb, 1, none⟩ = some (.int .i64 V) ∧ w5.drew.cell? ⟨qb, 0, none⟩ = some (.int .i64 pS) ∧ w5.drew.cell? ⟨qb, 1, none⟩ = some (.int .i64 Q)) := by show _ ∧ _ ∧ _ ∧ _; rw [hw5, hvb, hqb]; refine ⟨?_, ?_, ?_, ?_⟩ <;> simp [go_sem, World.cell?_alloc_some, World.cell?_alloc_new]
            have B5 : Below wq.heap.size wq w5.drew := by rw [hw5]; exact ((below_alloc wq _).alloc (Nat.le_of_lt (lt_alloc wq _)) _).drew.drew
            have z5 : w5.drew.heap.size = wq.heap.size + 2 := by show w5.heap.size = _; rw [hw5]; simp
            have lv5 : vb < w5.drew.heap.size := by rw [z5, hvb]; omega
            have lq5 : qb < w5.drew.heap.size := by rw [z5, hqb]; omega
            rw [← hw5]
            try rw [← hvb]
            try rw [← hqb]
            have hccq : c < wq.heap.size := Nat.lt_of_lt_of_le hc3 hsq
            have hvc : vb ≠ c := by omega
            have hqc : qb ≠ c := by omega
            have HR5 := Lib.hid (HRQ.out.stay (B5.block c hccq))
            have HB5 := Lib.hid (HBQ.out.trans (B5.mono (Nat.le_of_lt l0)))
            have G5 : Hid (Gb c w3.heap.size w3 w5.drew) := HGQ.out.trans (Gb.below (B5.mono hsq))
            have hs5 : w3.heap.size ≤ w5.drew.heap.size := by omega
            clear hw5 hvb hqb B5 z0 z1 hv' hs hs9 e0 e2 e5 l2 l5 f0 f2 f5
            have hb2 := bits2_at (i := i) (k := k) (by omega) (by omega)
            have hM : 2 ^ i ||| 2 ^ k < bl S := by rw [hb2.2.2.2.2.1]; exact pair_bl (by omega) (by rw [← HN.out]; exact hlk)
            have HMP : Hid (2 ^ i ||| 2 ^ k = 2 ^ i + 2 ^ k) := hb2.2.2.2.2.1
            obtain ⟨q1, hq1⟩ : ∃ q, q = 2 ^ i := ⟨_, rfl⟩
            obtain ⟨q2, hq2⟩ : ∃ q, q = 2 ^ k := ⟨_, rfl⟩
            have HQ1 := Lib.hid hq1
            have HQ2 := Lib.hid hq2
            have s1 : IntKind.i64.wrap ((2 : Int) ^ i) = (q1 : Int) := by rw [hq1]; exact kwrap_powB (by omega)
            have s2 : IntKind.i64.wrap ((2 : Int) ^ k) = (q2 : Int) := by rw [hq2]; exact kwrap_powB (by omega)
            rw [← hq1, ← hq2] at hM
            have hq164 : q1 < 64 := by rw [hq1]; exact (show 2 ^ i < 2 ^ 6 from Nat.pow_lt_pow_right (by decide) (by omega))
            have hq264 : q2 < 64 := by rw [hq2]; exact (show 2 ^ k < 2 ^ 6 from Nat.pow_lt_pow_right (by decide) (by omega))
            have s3 : bits .or .i64 (q1 : Int) (q2 : Int) = ((q1 ||| q2 : Nat) : Int) := or_64B hq164 hq264
            obtain ⟨M, hMM⟩ : ∃ M, M = q1 ||| q2 := ⟨_, rfl⟩
            rw [← hMM] at hM s3
            have HME : Hid (M = 2 ^ i + 2 ^ k) := by show _ = _; rw [hMM, hq1, hq2]; exact HMP.out
            have hMi : (M : Int) < (bl S : Int) := by omega
            have hM0 : (0 : Int) ≤ (M : Int) := Int.natCast_nonneg _
            have hi63 : (i : Int) < 64 := by omega
            have hk63 : (k : Int) < 64 := by omega
            have c5 := HR5.out.cell M hM
            have f5 := HR5.out.free M hM
            rw [Nat.zero_add] at c5 f5
            have hcw5 : c < w5.drew.heap.size := by omega
            clear hq1 hq2 hMM hb2
            obtain ⟨K, hK⟩ : ∃ z, z = V * inv pS Q % pS := ⟨_, rfl⟩
            have HKE := Lib.hid hK
            clear hK
            obtain ⟨u0, u1, u2, u3⟩ := HC5.out
            have fv := field_value
            go_upto_region 9 with fail
            go_region_held3 (fun w' => w'.cell? ⟨vb, 0, none⟩ = some (.int .i64 pS) ∧ w'.cell? ⟨vb, 1, none⟩ = some (.int .i64 V) ∧ w'.cell? ⟨qb, 0, none⟩ = some (.int .i64 pS) ∧ w'.cell? ⟨qb, 1, none⟩ = some (.int .i64 Q)) (first | exact HC5.out | exact HC6.out | exact ⟨(World.cell?_setCell_other w6 ⟨c, M, none⟩ ⟨vb, 0, none⟩ _ (fun e => hvc (by injection e with e1; exact e1.symm))).trans HC6.out.1, (World.cell?_setCell_other w6 ⟨c, M, none⟩ ⟨vb, 1, none⟩ _ (fun e => hvc (by injection e with e1; exact e1.symm))).trans HC6.out.2.1, (World.cell?_setCell_other w6 ⟨c, M, none⟩ ⟨qb, 0, none⟩ _ (fun e => hqc (by injection e with e1; exact e1.symm))).trans HC6.out.2.2.1, (World.cell?_setCell_other w6 ⟨c, M, none⟩ ⟨qb, 1, none⟩ _ (fun e => hqc (by injection e with e1; exact e1.symm))).trans HC6.out.2.2.2⟩ | go_keep) (first | (go_at_call 88; ((with_reducible refine (over_any pS V Q w5.drew HG.out.lst.prime x1.1 x1.2 x2.1 x2.2).mono ?_); rintro e w6 ⟨rfl, b_⟩; rw [← HKE.out]; have B6 := Lib.hid b_; have HC6 : Hid (w6.cell? ⟨vb, 0, none⟩ = some (.int .i64 pS) ∧ w6.cell? ⟨vb, 1, none⟩ = some (.int .i64 V) ∧ w6.cell? ⟨qb, 0, none⟩ = some (.int .i64 pS) ∧ w6.cell? ⟨qb, 1, none⟩ = some (.int .i64 Q)) := ⟨(b_.cell (p := ⟨vb, 0, none⟩) lv5).trans u0, (b_.cell (p := ⟨vb, 1, none⟩) lv5).trans u1, (b_.cell (p := ⟨qb, 0, none⟩) lq5).trans u2, (b_.cell (p := ⟨qb, 1, none⟩) lq5).trans u3⟩; have c6 := (b_.cell (p := ⟨c, M, none⟩) hcw5).trans c5; have f6 := (b_.frozen (p := ⟨c, M, none⟩) hcw5).trans f5; clear b_)))
            all_goals
              have HR6 := Lib.hid (HR5.out.stay (B6.out.block c hcw5))
              have HPUT : Hid (RowOwn (w6.setCell ⟨c, M, none⟩ (.int .i64 K)) c 0 (bl S) (bbS pS S m i (k + 1))) := by
                have h := HR6.out.put hM K
                rw [Nat.zero_add] at h
                refine h.congr fun j hj => ?_
                have e := bbS_put pS S m (i := i) (k := k) (by omega) (by rw [← HN.out]; exact hlk) h6 j hj
                rw [e, HME.out, HKE.out, HVE.out, HQE.out]
              have HGS : Hid (Gb c w3.heap.size w3 (w6.setCell ⟨c, M, none⟩ (.int .i64 K))) := by
                have h := Gb.wrote (B := w3.heap.size) ((Wrote.refl c 0 (bl S) w6).set hM (.int .i64 K))
                rw [Nat.zero_add] at h
                exact (G5.out.trans (Gb.below (B6.out.mono hs5))).trans h
              have HBS : Hid (Below w.heap.size w (w6.setCell ⟨c, M, none⟩ (.int .i64 K))) := (HB5.out.trans (B6.out.mono HB5.out.size)).setCell (Nat.le_of_lt hwc) _
              have z6 := B6.out.size
              clear u0 u1 u2 u3 c5 f5 c6 f6
              go_wp2
              go_roundw
              case rel => exact ⟨k + 1, by omega, by omega, by go_num, HPUT.out, HGS.out, HBS.out, by simp [World.setCell]; omega⟩
              case measure => simp [intOf]; omega
        · have hkn' : k = n := by omega
          subst hkn'
          clear hrq hgq hbq
          have hk9 : ¬ (k : Int) < (k : Int) := Int.lt_irrefl _
          go_wp2
          go_roundw
          case rel => exact ⟨i + 1, by omega, by go_num, HRQ.out.congr fun j hj => by
            have h := bbS_row pS S m h6 i j hj
            rwa [← HN.out] at h, HGQ.out, HBQ.out, hsq⟩
          case measure => simp [intOf]; omega
    · have hin : i = n := by omega
      subst hin
      have HRF : Hid (RowOwn wr c 0 (bl S) (bbF pS S m)) := hrc_.congr fun j hj => by
        have h := bbS_whole pS S m h6 (i + 1) j hj
        rwa [← HN.out] at h
      have z0 := (World.cell?_of_block (w := w3) (a := ⟨w.heap.size, 0, none⟩) (hgb w.heap.size hd3 (Nat.ne_of_lt hwc))).trans HZ3.out.1
      have z1 := (World.cell?_of_block (w := w3) (a := ⟨w.heap.size, 1, none⟩) (hgb w.heap.size hd3 (Nat.ne_of_lt hwc))).trans HZ3.out.2
      rw [← HN.out] at z1
      have hwsz : w.heap.size < wr.heap.size := Nat.lt_of_lt_of_le hd3 hsz
      have hcsz : c < wr.heap.size := Nat.lt_of_lt_of_le hc3 hsz
      have hrsz : r < wr.heap.size := Nat.lt_of_lt_of_le hr3 hsz
      have ZZr : Hid (W3 r (.int .i64 0) (.slice none 0 0) (.slice none 0 0) wr) := ZZ3.out.block (hgb r hr3 (Nat.ne_of_lt hrc))
      clear hrc_ hgb hbel
      go_upto_region 12 with fail
      obtain ⟨w7, hw7⟩ : ∃ z, z = wr.alloc (.cells #[.int .i64 pS, .slice aS i cS, .slice (some ⟨c, 0, none⟩) (bl S) (bl S)] 51) := ⟨_, rfl⟩
      obtain ⟨d, hd⟩ : ∃ b, b = wr.heap.size := ⟨_, rfl⟩
      have D7 : Hid (W3 d (.int .i64 pS) (.slice aS i cS) (.slice (some ⟨c, 0, none⟩) (bl S) (bl S)) w7.drew) := by show W3 _ _ _ _ w7; rw [hw7, hd]; exact W3.new _ _ _ _ _
      have B7 : Below wr.heap.size wr w7.drew := by rw [hw7]; exact (below_alloc wr _).drew
      have RC7 : Hid (RowIn w.heap.size w7.drew.heap.size w7.drew (some ⟨c, 0, none⟩) (bbR pS S m)) := (OwnR.row ((HRF.out.stay (B7.block c hcsz)).own (Nat.le_of_lt hwc) (Nat.lt_of_lt_of_le hcsz B7.size)))
      have OC7 : Hid (OwnR w.heap.size w7.drew.heap.size w7.drew (some ⟨c, 0, none⟩) (bbR pS S m)) := (HRF.out.stay (B7.block c hcsz)).own (Nat.le_of_lt hwc) (Nat.lt_of_lt_of_le hcsz B7.size)
      have ZZ7 := Lib.hid (ZZr.out.below B7 hrsz)
      have HB7 : Hid (Below w.heap.size w w7.drew) := HBEL.out.trans (B7.mono (Nat.le_of_lt hwsz))
      have hd7 : d < w7.drew.heap.size := by show d < w7.heap.size; rw [hw7, hd]; simp
      have hr7 : r < w7.drew.heap.size := Nat.lt_of_lt_of_le hrsz B7.size
      have hdr : d ≠ r := by omega
      rw [← hw7]
      try rw [← hd]
      clear hw7 hd B7 z0 z1
      obtain ⟨⟨d0, d1, d2⟩, _, _, _⟩ := D7.out
      have HSK : Hid (Good pS S m) := HG.out
      have HMV : Hid (isMv pS S (bbR pS S m) = true) := bb_mv (by omega) m
      have E7 : ∀ W, (Op.equalIn 10000 107 (.agg (smL i (smM i (bmM pS S (bbR pS S m)))).toArray) (.agg (smL i (smM i m)).toArray)).run Tryz.prog W = .ok (skB pS S m) W := fun W => by
        have h := HEQ.out
        rw [← HN.out] at h
        rw [← h]; exact eqSm _ _ _ W
      go_region_held3 (fun w' => w'.cell? ⟨d, 0, none⟩ = some (.int .i64 pS) ∧ w'.cell? ⟨d, 1, none⟩ = some (.slice aS i cS) ∧ w'.cell? ⟨d, 2, none⟩ = some (.slice (some ⟨c, 0, none⟩) (bl S) (bl S))) (first | exact ⟨d0, d1, d2⟩ | exact DDa.out.1 | exact DDb.out.1 | exact DDab.out.1 | exact DDba.out.1 | exact (((DDab.out.far hdr 0 _).far hdr 1 _).far hdr 2 _).1 | exact (((DDba.out.far hdr 0 _).far hdr 1 _).far hdr 2 _).1 | go_keep) (first | (go_at_call 89; ((with_reducible refine (matrix_n pS aS S i cS loS tpS (some ⟨c, 0, none⟩) (bbR pS S m) (bl S) (bl S) w.heap.size w7.drew.heap.size w7.drew HN.out HSK.out.sp (HS.out.below HB7.out tS) (Nat.le_trans tS HB7.out.size) RC7.out (Nat.le_refl _) HMV.out (bbR_len _ _ _)).mono ?_); rintro e wa ⟨rfl, b_⟩; have DDa := Lib.hid (W3.below D7.out b_ hd7); have ZZa := Lib.hid (ZZ7.out.below b_ hr7); have HBa := Lib.hid (below_step HB7.out HB7.out.size b_); have zz_ := b_.size; have hda := Nat.lt_of_lt_of_le hd7 zz_; have hra := Nat.lt_of_lt_of_le hr7 zz_; have OCa := Lib.hid ((OwnR.below' OC7.out b_ (Nat.le_refl _)).mono' (Nat.le_refl _) zz_); have RCa := Lib.hid (OCa.out.row); clear b_)) | (go_at_call 90; ((with_reducible refine (spaceMatrixOf_any i am m cm lom tpm w7.drew (Hm.out.below HB7.out tm) (Nat.le_trans tm HB7.out.size) n6 (by rw [HN.out]; exact HML.out) (fun j hj => by rw [HN.out]; exact HSK.out.rl hj)).mono ?_); rintro e wb ⟨rfl, b_⟩; have DDb := Lib.hid (W3.below D7.out b_ hd7); have ZZb := Lib.hid (ZZ7.out.below b_ hr7); have HBb := Lib.hid (below_step HB7.out HB7.out.size b_); have zz_ := b_.size; have hdb := Nat.lt_of_lt_of_le hd7 zz_; have hrb := Nat.lt_of_lt_of_le hr7 zz_; have OCb := Lib.hid ((OwnR.below' OC7.out b_ (Nat.le_refl _)).mono' (Nat.le_refl _) zz_); have RCb := Lib.hid (OCb.out.row); clear b_)) | (go_at_call 90; ((with_reducible refine (spaceMatrixOf_any i am m cm lom tpm wa (Hm.out.below HBa.out tm) (Nat.le_trans tm HBa.out.size) n6 (by rw [HN.out]; exact HML.out) (fun j hj => by rw [HN.out]; exact HSK.out.rl hj)).mono ?_); rintro e wab ⟨rfl, b_⟩; have DDab := Lib.hid (W3.below DDa.out b_ hda); have ZZab := Lib.hid (ZZa.out.below b_ hra); have HBab := Lib.hid (below_step HBa.out HBa.out.size b_); have zz_ := b_.size; have hdab := Nat.lt_of_lt_of_le hda zz_; have hrab := Nat.lt_of_lt_of_le hra zz_; have OCab := Lib.hid ((OwnR.below' OCa.out b_ (Nat.le_refl _)).mono' (Nat.le_refl _) zz_); have RCab := Lib.hid (OCab.out.row); clear b_; obtain ⟨⟨r0_, r1_, r2_⟩, r3_, r4_, r5_⟩ := ZZab.out)) | (go_at_call 89; ((with_reducible refine (matrix_n pS aS S i cS loS tpS (some ⟨c, 0, none⟩) (bbR pS S m) (bl S) (bl S) w.heap.size wb.heap.size wb HN.out HSK.out.sp (HS.out.below HBb.out tS) (Nat.le_trans tS HBb.out.size) RCb.out (Nat.le_refl _) HMV.out (bbR_len _ _ _)).mono ?_); rintro e wba ⟨rfl, b_⟩; have DDba := Lib.hid (W3.below DDb.out b_ hdb); have ZZba := Lib.hid (ZZb.out.below b_ hrb); have HBba := Lib.hid (below_step HBb.out HBb.out.size b_); have zz_ := b_.size; have hdba := Nat.lt_of_lt_of_le hdb zz_; have hrba := Nat.lt_of_lt_of_le hrb zz_; have OCba := Lib.hid ((OwnR.below' OCb.out b_ (Nat.le_refl _)).mono' (Nat.le_refl _) zz_); have RCba := Lib.hid (OCba.out.row); clear b_; obtain ⟨⟨r0_, r1_, r2_⟩, r3_, r4_, r5_⟩ := ZZba.out)))
      all_goals
        go_wp2
        refine bodyPost_ret (v := .tuple #[.agg #[.int .i64 pS, .slice aS i cS, .slice (some ⟨c, 0, none⟩) (bl S) (bl S)], .bool (skB pS S m)]) (by simp [results, Tryz.results66, go_sem, r0_, r1_, r2_]) rfl ⟨c, by rw [HN.out], ?_, ?_⟩
        · exact OwnR.far3 (by first | exact OCab.out | exact OCba.out) (Nat.ne_of_gt hrc) rfl
        · exact below_wput3 (by first | exact HBab.out | exact HBba.out) (Nat.le_of_lt hwr)
end Go.Proofs.YtkibkkdeaojjoabGreat
