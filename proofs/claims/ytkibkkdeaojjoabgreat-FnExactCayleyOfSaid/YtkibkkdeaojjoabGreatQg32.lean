/-
  Cayley transforms (program): contracts of the program and of the model.
  Conditions: the lists are nil or rows of known cells, of at most 1048576 numbers.
-/
import Derived.Test.YtkibkkdeaojjoabGreatQg31
import Derived.Test.YtkibkkdeaojjoabGreatQg30
import Derived.Test.YtkibkkdeaojjoabGreatQg12
import Derived.Test.YtkibkkdeaojjoabGreatQg9
import Derived.Test.YtkibkkdeaojjoabGreatQg6
namespace Go.Proofs.YtkibkkdeaojjoabGreat
open Go.RowKit
set_option linter.unusedVariables false

theorem mk_lstC {p : Int} {n c : Nat} {f : Nat → Nat → Int} (hp : prm p = true) (n0 : 0 < n) (n1 : n ≤ 16) (c0 : 0 < c) (c1 : c ≤ 16) (h : ∀ i j, i < n → j < c → 0 ≤ f i j ∧ f i j < p) (k : Nat) (hk : k ≤ n) : Lst k p (mk n c f) where
  prime := hp
  lo := by rw [mk_len]; exact hk
  hi := by rw [mk_len]; exact n1
  len i hi := by rw [mk_len] at hi; rw [mk_rowLen _ hi, mk_rowLen _ n0]
  c0 i hi := by rw [mk_len] at hi; rw [mk_rowLen _ hi]; exact c0
  c1 i hi := by rw [mk_len] at hi; rw [mk_rowLen _ hi]; exact c1
  all i hi := by
    rw [mk_len] at hi
    rw [List.all_eq_true]
    intro y hy
    obtain ⟨j, hj, rfl⟩ := List.getElem_of_mem hy
    have hj2 := hj
    rw [mk_rowLen _ hi] at hj2
    have e : (rw' (mk n c f) i)[j] = f i j := by
      rw [← getD_at hj]; exact mk_at _ hi hj2
    rw [e]
    exact inr_iff.2 (h i j hi hj2)
/-- A matrix with k times another added, behind i rows. -/
def cyF (p : Int) (m : List (List Int)) (k : Int) (i a b : Nat) : Int := if a < i then ((if a = b then 1 else 0) + k * at' m a b) % p else if a = b then 1 else 0
def cyM (p : Int) (m : List (List Int)) (k : Int) : List (List Int) := mk m.length m.length (cyF p m k m.length)
noncomputable def cyC (p : Int) (m : List (List Int)) : Int := ivmC p (cyM p m 1)
noncomputable def cyV (p : Int) (m : List (List Int)) : List (List Int) := if cyC p m = 0 then mulM p (invM p (cyM p m 1)) (cyM p m (p - 1)) else []
theorem cyM_len (p : Int) (m : List (List Int)) (k : Int) : (cyM p m k).length = m.length := mk_len _ _ _
theorem cyM_rl {p : Int} {m : List (List Int)} {k : Int} {i : Nat} (h : i < m.length) : (rw' (cyM p m k) i).length = m.length := mk_rowLen _ h
theorem cyF_rng {p : Int} {m : List (List Int)} (h3 : 3 ≤ p) (k : Int) (i a b : Nat) : 0 ≤ cyF p m k i a b ∧ cyF p m k i a b < p := by
  unfold cyF
  split
  · exact ⟨Int.emod_nonneg _ (by omega), Int.emod_lt_of_pos _ (by omega)⟩
  · split <;> omega
theorem cyM_lst {p : Int} {m : List (List Int)} (h : Lst 1 p m) (k : Int) : Lst 1 p (cyM p m k) := by
  have hpb := prm_bd h.prime
  have h0 := h.lo
  have h16 := h.hi
  exact mk_lstC h.prime (by omega) (by omega) (by omega) (by omega) (fun i j _ _ => cyF_rng (by omega) _ _ _ _) 1 (by omega)
theorem cyM_sq {p : Int} {m : List (List Int)} (h : Lst 1 p m) (k : Int) : (cyM p m k).length = (rw' (cyM p m k) 0).length := by rw [cyM_len, cyM_rl h.lo]
theorem cyM_tot {p : Int} {m : List (List Int)} (h : Lst 1 p m) (k : Int) : (cyM p m k).length + tot (cyM p m k) (cyM p m k).length ≤ 1048576 := by
  have h16 := h.hi
  rw [tot_const (c := m.length) (fun i hi => by rw [cyM_len] at hi; exact cyM_rl hi) (Nat.le_refl _), cyM_len]
  have : m.length * m.length ≤ 16 * 16 := Nat.mul_le_mul h16 h16
  omega
theorem cy_rect {p : Int} {m : List (List Int)} (h : Lst 1 p m) {n : Nat} (hn : (rw' m 0).length = n) : Rect p m n where
  rows := by have := h.hi; omega
  cols := by have := h.c1 0 h.lo; rw [hn] at this; omega
  len i hi := by rw [h.len i hi]; exact hn
  num i hi := fun j hj => h.at hi (by rw [h.len i hi] at hj; exact hj)
theorem cyF_step (p : Int) (m : List (List Int)) (k : Int) (i a b : Nat) : (if a = i then (cyF p m k i i b + k * (rw' m i).getD b 0) % p else cyF p m k i a b) = cyF p m k (i + 1) a b := by
  by_cases e : a = i
  · subst e
    rw [if_pos rfl]
    unfold cyF
    rw [if_neg (Nat.lt_irrefl _), if_pos (Nat.lt_succ_self _)]; rfl
  · rw [if_neg e]
    unfold cyF
    by_cases h : a < i
    · have h2 : a < i + 1 := by omega
      rw [if_pos h, if_pos h2]
    · have h2 : ¬ a < i + 1 := by omega
      rw [if_neg h, if_neg h2]
theorem wbC {b o n k : Nat} {w w' : World} (h : Wrote b o n w w') (hk : k ≤ b) : Below k w w' := ⟨h.os, h.tape, h.output, Nat.le_of_eq h.size.symm, fun i hi => h.block i (by omega)⟩
def UnC (n : Nat) (w : World) (e : Ending) (w' : World) : Prop := ∃ (q : Place) (c : Nat), e = .returned (.slice (some ⟨q.b, q.o, none⟩) n c) ∧ OwnAt w.heap.size w'.heap.size w' q n (fun _ => n) (fun a b => if a = b then 1 else 0) ∧ Below w.heap.size w w'
theorem unitC (n : Nat) (w : World) (hn : n ≤ 1024) (h0 : 1 ≤ n) : Calls Tryz.prog 53 #[.int .i64 n] w (UnC n w) := by
  refine (unitMatrix_any n w hn h0).mono ?_
  rintro e w' ⟨r, c, rfl, o_, b_⟩
  have hl : (oneM n).length = n := mk_len _ _ _
  rcases o_ with h | ⟨q, rfl, h⟩
  · rw [h] at hl; simp at hl; omega
  · rw [hl] at h
    refine ⟨q, c, by rw [hl], ?_, b_⟩
    have hr : ∀ i, i < n → (rw' (oneM n) i).length = n := fun i hi => mk_rowLen _ hi
    have ha : ∀ i, i < n → ∀ j, j < n → at' (oneM n) i j = if i = j then 1 else 0 := fun i hi j hj => mk_at _ hi hj
    exact { rng := h.rng, top := fun i hi => by have := h.top i hi; rwa [hr i hi] at this, row := fun i hi => by have := h.row i hi; rwa [hr i hi] at this, rrng := fun i hi hj => h.rrng i hi (by rw [hr i hi]; exact hj), cell := fun i hi j hj => by have := h.cell i hi j (by rw [hr i hi]; exact hj); rwa [ha i hi j hj] at this, free := fun i hi j hj => h.free i hi j (by rw [hr i hi]; exact hj), apart := fun i hi k hk e j hj l hl => h.apart i hi k hk e j (by rw [hr i hi]; exact hj) l (by rw [hr k hk]; exact hl), tops := fun i hi j hj k hk => h.tops i hi j (by rw [hr i hi]; exact hj) k hk }
theorem addC (p k : Int) (b o n c : Nat) (f : Nat → Int) (a : Option Addr) (z : List Int) (cz lo tp : Nat) (w : World) (hn : z.length = n) (hp : prm p = true) (h : RowOwn w b o n f) (hz : RowIn lo tp w a z) (hb : tp ≤ b) (hs : n ≤ 1024) (hf : ∀ j, j < n → 0 ≤ f j ∧ f j < p) (hzn : Nums p z) (k0 : 0 ≤ k) (k1 : k ≤ p) :
    Calls Tryz.prog 67 #[.int .i64 p, .slice (some ⟨b, o, none⟩) n c, .int .i64 k, .slice a n cz] w fun e w' => e = .returned (.tuple #[]) ∧ RowOwn w' b o n (fun j => (f j + k * z.getD j 0) % p) ∧ Wrote b o n w w' := by
  subst hn
  exact addMultiple_any p k b o z.length c f a z cz lo tp w hp h hz (.inr hb) (Nat.le_refl _) (by omega) hf hzn k0 k1
theorem OwnAt.rowC {lo hi : Nat} {w : World} {q : Place} {n : Nat} {Z : Nat → Nat → Int} (h : OwnAt lo hi w q n (fun _ => n) Z) {i : Nat} (hi' : i < n) : RowOwn w (q.B i) (q.O i) n (Z i) := ⟨h.cell i hi', h.free i hi'⟩
theorem invC (p : Int) (am : Option Addr) (m : List (List Int)) (n cm lom tpm : Nat) (w : World) (hn : m.length = n) (hm : MatIn lom tpm w am m) (tm : tpm ≤ w.heap.size) (sm' : m.length + tot m m.length ≤ 1048576) :
    Calls Tryz.prog 68 #[.int .i64 p, .slice am n cm] w (ImplM (ivmV p m) (ivmC p m) w) := by
  subst hn; exact impl_InverseMatrix p am m cm lom tpm w hm tm sm'
theorem timC (p : Int) (a b : Option Addr) (m m' : List (List Int)) (n ca cb lo tp lo' tp' : Nat) (w : World) (hn : m.length = n) (hn' : m'.length = n) (hc : (rw' m 0).length = n) (hc' : (rw' m' 0).length = n) (h1 : Lst 1 p m) (h2 : Lst 1 p m') (hm : MatIn lo tp w a m) (hm' : MatIn lo' tp' w b m') (ht : tp ≤ w.heap.size) (ht' : tp' ≤ w.heap.size) :
    Calls Tryz.prog 69 #[.int .i64 p, .slice a n ca, .slice b n cb] w (OwnNew (mulM p m m') w) := by
  have h0 := h2.lo
  have h := timesMatrix_any p a b m m' ca cb lo tp lo' tp' w h1.prime hm hm' ht ht' (by rw [hn']; exact cy_rect h1 hc) (by rw [hc']; exact cy_rect h2 hc') h0
  rw [hn, hn'] at h; exact h
theorem invM_lst {p : Int} {A : List (List Int)} (h : Lst 1 p A) (hq : A.length = (rw' A 0).length) : Lst 1 p (invM p A) := by
  have hB := inB_is h hq
  obtain ⟨P, hP⟩ := hB.1.red
  have h0 := h.lo
  have h16 := h.hi
  exact mk_lstC h.prime (by omega) (by omega) (by omega) (by omega) (fun i j hi hj => hP.rng i (by rw [hB.2]; exact hi) (A.length + j) (by omega)) 1 (by omega)

set_option maxRecDepth 100000 in
set_option maxHeartbeats 6400000 in
theorem cayley_any (p : Int) (am : Option Addr) (m : List (List Int)) (cm lom tpm : Nat) (w : World) (hm : MatIn lom tpm w am m) (tm : tpm ≤ w.heap.size) (hL : Lst 1 p m) (hq : m.length = (rw' m 0).length) :
    Calls Tryz.prog 38 #[.int .i64 p, .slice am m.length cm] w (ImplM (cyV p m) (cyC p m) w) := by
  have hpb := prm_bd hL.prime
  have Hm := Lib.hid hm
  have HL := Lib.hid hL
  have h1 : 1 ≤ m.length := hL.lo
  have h16 := hL.hi
  obtain ⟨n, hn⟩ : ∃ n, n = m.length := ⟨_, rfl⟩
  have HN := Lib.hid hn
  have HR : Hid (∀ i, i < n → (rw' m i).length = n) := fun i hi => by rw [hL.len i (by omega), ← hq, hn]
  have HNM : Hid (∀ i, i < n → Nums p (rw' m i)) := fun i hi => fun j hj => hL.at (by omega) (by rw [hL.len i (by omega)] at hj; exact hj)
  have hP1 : IntKind.i64.wrap (p - 1) = p - 1 := IntWalk.i64_in _ (by omega)
  have HP1 := Lib.hid hP1
  have w16 : n ≤ 16 := by omega
  have n1_ : 1 ≤ n := by omega
  rw [← hn]
  clear hm hL hn hq hP1
  go_enter Tryz.func38, Tryz.ntmps38
  go_upto_region 2 with (first | (go_at_call 53; ((with_reducible refine (unitC n w (by omega) (by omega)).mono ?_); rintro e w1 ⟨q1, c1, rfl, o_, b_⟩; have O1 := Lib.hid o_; have B1 := Lib.hid b_; have z1 := b_.size; clear o_ b_)) | (go_at_call 53; ((with_reducible refine (unitC n w1 (by omega) (by omega)).mono ?_); rintro e w2 ⟨q2, c2, rfl, o_, b_⟩; have O2 := Lib.hid o_; have O12 := Lib.hid (O1.out.same (same_below b_ (Nat.le_refl _))); have B2 := Lib.hid (below_step B1.out z1 b_); have z2 := b_.size; clear o_ b_)))
  go_wp2
  go_loopw [20] (fun t wr => ∃ i : Nat, i ≤ n ∧ t = .int .i64 i ∧ OwnAt w.heap.size w1.heap.size wr q1 n (fun _ => n) (cyF p m 1 i) ∧ OwnAt w1.heap.size w2.heap.size wr q2 n (fun _ => n) (cyF p m (p - 1) i) ∧ Below w.heap.size w wr ∧ wr.heap.size = w2.heap.size) (fun t _ => n - (intOf t).toNat)
  case atStart => exact ⟨0, Nat.zero_le _, rfl, O12.out.congr (fun a _ b _ => by unfold cyF; rw [if_neg (Nat.not_lt_zero _)]), O2.out.congr (fun a _ b _ => by unfold cyF; rw [if_neg (Nat.not_lt_zero _)]), B2.out, rfl⟩
  case round =>
    obtain ⟨i, hi, rfl, ho1, ho2, hbel, hsz⟩ := hrel
    have HO1 := Lib.hid ho1
    have HO2 := Lib.hid ho2
    have HB := Lib.hid hbel
    by_cases hlt : i < n
    · have hi1 : (i : Int) < (n : Int) := Int.ofNat_lt.2 hlt
      obtain ⟨b9, o9, rv, cv, ha9, _, hb9, hr9, hrow⟩ := (Hm.out.below hbel tm).row (show i < m.length by rw [← HN.out]; exact hlt)
      subst ha9
      rw [HR.out i hlt] at hr9
      have HROW := Lib.hid hrow
      have t1 := ho1.top i hlt
      rw [(ho1.row i hlt).resolve_left (by omega)] at t1
      have t2 := ho2.top i hlt
      rw [(ho2.row i hlt).resolve_left (by omega)] at t2
      have HT2 := Lib.hid t2
      have g1 := ho1.rrng i hlt (by show 0 < n; omega)
      have g2 := ho2.rrng i hlt (by show 0 < n; omega)
      have ge2 := ho2.rng (by omega)
      have ge1 := ho1.rng (by omega)
      clear ho1 ho2 hbel hrow t2
      go_upto_region 6 with (go_at_call 67; ((with_reducible refine (addC p 1 (q1.B i) (q1.O i) n (q1.C i) (cyF p m 1 i i) rv (rw' m i) cv lom tpm wr (HR.out i hlt) HL.out.prime (HO1.out.rowC hlt) HROW.out (by omega) (by omega) (fun j hj => cyF_rng hpb.1 _ _ _ _) (HNM.out i hlt) (by omega) (by omega)).mono ?_); rintro e w5 ⟨rfl, o_, q_⟩; have HO25 := Lib.hid (HO2.out.same (q_.same (.inl g1.2))); have t2 := HO25.out.top i hlt; rw [(HO25.out.row i hlt).resolve_left (by omega)] at t2; have HB5 := Lib.hid (HB.out.trans (wbC q_ g1.1)); have HROW5 := Lib.hid (HROW.out.below (wbC q_ g1.1) (Nat.le_trans tm (Nat.le_refl _))); have HW5 := Lib.hid q_; have HR5 := Lib.hid o_; clear o_ q_ t1))
      have HP1' := HP1.out
      go_wp2_with (go_at_call 67; ((with_reducible refine (addC p (p - 1) (q2.B i) (q2.O i) n (q2.C i) (cyF p m (p - 1) i i) rv (rw' m i) cv lom tpm w5 (HR.out i hlt) HL.out.prime (HO25.out.rowC hlt) HROW5.out (by omega) (by omega) (fun j hj => cyF_rng hpb.1 _ _ _ _) (HNM.out i hlt) (by omega) (by omega)).mono ?_); rintro e w6 ⟨rfl, o_, q_⟩; have HW6 := Lib.hid q_; have HR6 := Lib.hid o_; clear o_ q_ HP1' t2))
      go_roundw
      case rel => exact ⟨i + 1, by omega, by go_num, ((HO1.out.wrote hlt HW5.out _ HR5.out.cell).same (HW6.out.same (.inr g2.1))).congr (fun a _ b _ => cyF_step p m 1 i a b), (HO25.out.wrote hlt HW6.out _ HR6.out.cell).congr (fun a _ b _ => cyF_step p m (p - 1) i a b), HB5.out.trans (wbC HW6.out (by omega)), by rw [HW6.out.size, HW5.out.size]; exact hsz⟩
      case measure => simp [intOf]; omega
    · have hin : i = n := by omega
      subst hin
      have HM1 : Hid (OwnM w.heap.size w1.heap.size wr (some ⟨q1.b, q1.o, none⟩) (cyM p m 1)) := by show OwnM _ _ _ _ _; unfold cyM; rw [← HN.out]; exact ho1.ownM
      have HM2 : Hid (OwnM w1.heap.size w2.heap.size wr (some ⟨q2.b, q2.o, none⟩) (cyM p m (p - 1))) := by show OwnM _ _ _ _ _; unfold cyM; rw [← HN.out]; exact ho2.ownM
      have hL1 : Hid ((cyM p m 1).length = i) := by show _ = _; rw [cyM_len]; exact HN.out.symm
      have hL2 : Hid ((cyM p m (p - 1)).length = i) := by show _ = _; rw [cyM_len]; exact HN.out.symm
      have hz1 : w1.heap.size ≤ wr.heap.size := by omega
      have hz0 : w.heap.size ≤ wr.heap.size := by omega
      clear ho1 ho2 hbel
      by_cases h0 : cyC p m = 0
      · have HC : Hid (ivmC p (cyM p m 1) = 0) := h0
        have HV : Hid (ivmV p (cyM p m 1) = invM p (cyM p m 1)) := if_pos h0
        have HVL : Hid ((invM p (cyM p m 1)).length = i) := (invM_len _ _).trans hL1.out
        have HCV : Hid (cyV p m = mulM p (invM p (cyM p m 1)) (cyM p m (p - 1)) ∧ cyC p m = 0) := ⟨if_pos h0, h0⟩
        clear h0
        go_wp2_with (first | (go_at_call 68; ((with_reducible refine (invC p _ (cyM p m 1) i c1 w.heap.size w1.heap.size wr hL1.out HM1.out.mat hz1 (cyM_tot HL.out 1)).mono ?_); rintro e w7 ⟨r7, c7, rfl, o_, b_⟩; rw [HC.out, HV.out, HVL.out]; rw [HV.out] at o_; have O7 := Lib.hid o_; have HM27 := Lib.hid (HM2.out.same (same_below b_ (by omega))); have HB7 := Lib.hid (below_step HB.out hz0 b_); have z7 := b_.size; clear o_ b_)) | (go_at_call 69; ((with_reducible refine (timC p r7 _ (invM p (cyM p m 1)) (cyM p m (p - 1)) i c7 c2 wr.heap.size w7.heap.size w1.heap.size w2.heap.size w7 HVL.out hL2.out (by rw [invM_rl (by rw [hL1.out]; omega)]; exact hL1.out) (by rw [cyM_rl (by rw [← HN.out]; omega)]; exact HN.out.symm) (invM_lst (cyM_lst HL.out 1) (cyM_sq HL.out 1)) (cyM_lst HL.out (p - 1)) O7.out.mat HM27.out.mat (Nat.le_refl _) (by omega)).mono ?_); rintro e w8 ⟨r8, c8, rfl, o_, b_⟩; have O8 := Lib.hid (o_.mono (Nat.le_trans hz0 z7) (Nat.le_refl _)); have HB8 := Lib.hid (below_step HB7.out (Nat.le_trans hz0 z7) b_); clear o_ b_)))
        go_ret2
        rw [HCV.out.1, HCV.out.2]
        exact ⟨r8, c8, rfl, O8.out, HB8.out⟩
      · have HCV : Hid (cyV p m = []) := if_neg h0
        obtain ⟨C, hC⟩ : ∃ c, c = cyC p m := ⟨_, rfl⟩
        have hc1 : (C != 0) = true := by rw [hC]; simpa using h0
        have HCE : Hid (C = ivmC p (cyM p m 1)) := hC
        have HCF := Lib.hid hC
        clear h0 hC
        go_wp2_with (go_at_call 68; ((with_reducible refine (invC p _ (cyM p m 1) i c1 w.heap.size w1.heap.size wr hL1.out HM1.out.mat hz1 (cyM_tot HL.out 1)).mono ?_); rintro e w7 ⟨r7, c7, rfl, o_, b_⟩; rw [← HCE.out]; have HB7 := Lib.hid (below_step HB.out hz0 b_); clear o_ b_))
        go_ret2
        rw [HCV.out, ← HCF.out]
        exact ⟨none, 0, rfl, .inl rfl, HB7.out⟩
end Go.Proofs.YtkibkkdeaojjoabGreat
