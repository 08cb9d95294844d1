/-
  A solution that is read off the reduced rows solves. No Go in sight.
  No conditions.
  Inverses of multivectors: what solves one equation is the inverse on both sides. No Go in sight.
  No conditions.
  What the model's turned matrices are: a contract.
  Conditions: the matrix is a row of rows of known cells, all of one length.
  A matrix that is filled row by row, each row in blocks of its own.
  No conditions.
  The matrix of the products with a multivector, in the program and in the model: contracts.
  Conditions: a space of at most 4 squares and a multivector of it: rows of known cells.
-/
import Derived.Test.YtckpcfhmppdghaaQu17
import Derived.Test.YtckpcfhmppdghaaQu14
import Derived.Test.YtckpcfhmppdghaaQu7
import Derived.Deep.AppendLies
import Derived.Test.YtckpcfhmppdghaaQu8
import Derived.Deep.RegionHeld3
import Derived.Deep.DeepCutAuto
namespace Go.Proofs.Ytckpcfhmppdghaa
open Go.RowKit
set_option linter.unusedVariables false

/-- One number of a list that is set at different places. -/
theorem pick_bd {p : Int} {n c j : Nat} {P : Nat → Nat} {f : Nat → Int} (hp : 0 < p) (mono : ∀ i i', i < i' → i' < n → P i < P i') (hf : ∀ i, i < n → 0 ≤ f i ∧ f i < p) : 0 ≤ sm n (fun i => if j = P i then f i else 0) ∧ sm n (fun i => if j = P i then f i else 0) < p := by
  by_cases e : ∃ i, i < n ∧ P i = j
  · obtain ⟨i, hi, rfl⟩ := e
    have h : ∀ i', i' < n → (if P i = P i' then f i' else 0) = if i' = i then f i else 0 := fun i' hi' => by
      by_cases e2 : i' = i
      · subst e2; rw [if_pos rfl, if_pos rfl]
      · have : P i ≠ P i' := by
          rcases Nat.lt_or_gt_of_ne e2 with l | l
          · have := mono i' i l hi; omega
          · have := mono i i' l hi'; omega
        rw [if_neg this, if_neg e2]
    rw [sm_congr h, sm_single, if_pos hi]
    exact hf i hi
  · rw [sm_congr (g := fun _ => 0) (fun i hi => if_neg (fun h => e ⟨i, hi, h.symm⟩)), sm_zero]
    omega
/-- What is told to be a solution is one. -/
theorem sol_solves {p : Int} {c : Nat} {A : List (List Int)} {v : List Int} (hp : 1 < p) (hA : ∀ i, i < A.length → (rw' A i).length = c) (h0 : 0 < A.length) (hl : v.length = A.length)
    (hb : IsBas p (c + 1) (bes A (col v)) (solB p A v)) (hok : solOk p A v = true) : (∀ j, j < c → 0 ≤ (solL p A v).getD j 0 ∧ (solL p A v).getD j 0 < p) ∧ (solL p A v).length = c ∧ ∀ i, i < A.length → sm c (fun j => at' A i j * (solL p A v).getD j 0) % p = v.getD i 0 % p := by
  have hR := hb.pivs
  have hc0 : (rw' A 0).length = c := hA 0 h0
  have hno : ∀ i, i < (solB p A v).length → pvs (solB p A v) i ≠ c := fun i hi => by
    unfold solOk at hok
    rw [hc0] at hok
    exact isPv_no (by simpa using hok) hi
  have hL : solL p A v = mkR c (fun j => sm (solB p A v).length fun i' => if j = pvs (solB p A v) i' then at' (solB p A v) i' c else 0) := by
    unfold solL solvec; rw [if_pos hok, hc0]
  have hpc : ∀ i, i < (solB p A v).length → pvs (solB p A v) i < c := fun i hi => by have := hR.pv i hi; have := hno i hi; omega
  refine ⟨fun j hj => ?_, by rw [hL, mkR_len], ?_⟩
  · rw [hL, mkR_at _ hj]
    exact pick_bd (c := c) (by omega) hR.mono (fun i hi => hR.rng i hi c (by omega))
  · have hz : nul p (solB p A v).length (c + 1) (at' (solB p A v)) (fun j => if j < c then (solL p A v).getD j 0 else -1) := fun k hk => by
      show (sm c _ + _) % p = 0
      have e1 : sm c (fun j => at' (solB p A v) k j * (if j < c then (solL p A v).getD j 0 else -1)) = at' (solB p A v) k c := by
        have e2 : ∀ j, j < c → at' (solB p A v) k j * (if j < c then (solL p A v).getD j 0 else -1) = sm (solB p A v).length (fun i' => if j = pvs (solB p A v) i' then at' (solB p A v) i' c * at' (solB p A v) k (pvs (solB p A v) i') else 0) := fun j hj => by
          rw [if_pos hj, hL, mkR_at _ hj, ← sm_mul]
          apply sm_congr
          intro i' _
          rw [ite_mul']
          by_cases e : j = pvs (solB p A v) i'
          · rw [if_pos e, if_pos e, e, Int.mul_comm]
          · rw [if_neg e, if_neg e]
        rw [sm_congr e2, sm_swap, ← hR.pick hk (fun i' => at' (solB p A v) i' c)]
        apply sm_congr
        intro i' hi'
        rw [sm_single, if_pos (hpc i' hi')]
      rw [e1]
      show (at' (solB p A v) k c + at' (solB p A v) k c * (if c < c then _ else -1)) % p = 0
      rw [if_neg (Nat.lt_irrefl _)]
      have : at' (solB p A v) k c + at' (solB p A v) k c * -1 = 0 := by omega
      rw [this]; rfl
    intro i hi
    have hb1 := (hb.nul _).2 hz i (by rw [bes_len]; exact hi)
    have e3 : sm (c + 1) (fun j => at' (bes A (col v)) i j * (if j < c then (solL p A v).getD j 0 else -1)) = sm c (fun j => at' A i j * (solL p A v).getD j 0) + v.getD i 0 * -1 := by
      show sm c _ + _ = _
      congr 1
      · apply sm_congr
        intro j hj
        rw [bes_at hi (hA i hi), if_pos hj, if_pos hj]
      · show at' (bes A (col v)) i c * (if c < c then _ else -1) = _
        rw [if_neg (Nat.lt_irrefl _), bes_at hi (hA i hi), if_neg (Nat.lt_irrefl _), Nat.sub_self]
        unfold at'; rw [col_row (by omega)]; rfl
    rw [e3] at hb1
    have h4 : (sm c (fun j => at' A i j * (solL p A v).getD j 0) - v.getD i 0) % p = 0 := by
      have e5 : sm c (fun j => at' A i j * (solL p A v).getD j 0) - v.getD i 0 = sm c (fun j => at' A i j * (solL p A v).getD j 0) + v.getD i 0 * -1 := by omega
      rw [e5]; exact hb1
    exact Int.emod_eq_emod_iff_emod_sub_eq_zero.2 h4

end Go.Proofs.Ytckpcfhmppdghaa

namespace Go.Proofs.Ytckpcfhmppdghaa
open Go.RowKit
set_option linter.unusedVariables false

/-- The matrix of the products with x. -/
def leftM (p : Int) (S x : List Int) : List (List Int) := mk (bl S) (bl S) fun i j => prodF p S x (bladeM S j) i
/-- Its product with a list is the geometric product. -/
theorem left_prod {p : Int} {S x y : List Int} {i : Nat} (hi : i < bl S) : sm (bl S) (fun j => prodF p S x (bladeM S j) i * y.getD j 0) % p = prodF p S x y i := by
  have hi' : i < 2 ^ S.length := hi
  have e1 : ∀ j, j < bl S → prodF p S x (bladeM S j) i = (x.getD (i ^^^ j) 0 * fz S (i ^^^ j) j S.length) % p := fun j hj => by
    unfold prodF gpz
    have h : ∀ a, a < 2 ^ S.length → x.getD a 0 * fz S a (a ^^^ i) S.length * (bladeM S j).getD (a ^^^ i) 0 = if a = i ^^^ j then x.getD (i ^^^ j) 0 * fz S (i ^^^ j) j S.length else 0 := fun a ha => by
      unfold bladeM
      rw [mkR_at _ (show a ^^^ i < bl S from Nat.xor_lt_two_pow ha hi')]
      by_cases e : a = i ^^^ j
      · have e2 : a ^^^ i = j := by rw [e, Nat.xor_comm i j, Nat.xor_assoc, Nat.xor_self, Nat.xor_zero]
        rw [if_pos e, if_pos e2, e2, ← e, Int.mul_one]
      · have e2 : ¬ a ^^^ i = j := fun h => e (by rw [← h, Nat.xor_comm a i, xor_back])
        rw [if_neg e, if_neg e2, Int.mul_zero]
    rw [sm_congr h, sm_single, if_pos (Nat.xor_lt_two_pow hi' hj)]
  have e2 : sm (bl S) (fun j => prodF p S x (bladeM S j) i * y.getD j 0) % p = sm (bl S) (fun j => x.getD (j ^^^ i) 0 * fz S (j ^^^ i) j S.length * y.getD j 0) % p := by
    apply sm_congr_p
    intro j hj
    rw [e1 j hj, em_l, Nat.xor_comm i j]
  rw [e2]
  unfold prodF gpz
  congr 1
  rw [← sm_xor S.length i hi' (fun a => x.getD a 0 * fz S a (a ^^^ i) S.length * y.getD (a ^^^ i) 0)]
  apply sm_congr
  intro j _
  show _ = x.getD (j ^^^ i) 0 * fz S (j ^^^ i) (j ^^^ i ^^^ i) S.length * y.getD (j ^^^ i ^^^ i) 0
  rw [Nat.xor_assoc, Nat.xor_self, Nat.xor_zero]

end Go.Proofs.Ytckpcfhmppdghaa

namespace Go.Proofs.Ytckpcfhmppdghaa
open Go.RowKit
set_option linter.unusedVariables false

set_option maxRecDepth 100000 in
set_option maxHeartbeats 3200000 in
theorem l02Turn_any (a : Option Addr) (m : List (List Int)) (ca lo tp : Nat) (w : World) (hm : MatIn lo tp w a m) (ht : tp ≤ w.heap.size) (h0 : 0 < m.length) (hc : ∀ i, i < m.length → (rw' m i).length = (rw' m 0).length) (hn : m.length ≤ 1024) (hn2 : (rw' m 0).length ≤ 1024) :
    Calls Try.prog 65 #[.slice a m.length ca] w (NewM (trM m) w) := by
  obtain ⟨i0, hi, hz0, hz1, hz2⟩ := info_parts info64
  obtain ⟨j0, kj, kz0, kz1, kz2⟩ := info_parts info_slice
  have HM := Lib.hid hm
  have HC := Lib.hid hc
  obtain ⟨b, o, r0, c0, ha, _, hb, hr0, _⟩ := HM.out.row h0
  subst ha
  rw [Nat.add_zero] at hr0
  have HR0 := Lib.hid hr0
  obtain ⟨c, hcc⟩ : ∃ c, c = (rw' m 0).length := ⟨_, rfl⟩
  rw [← hcc] at hn2 hr0
  have HCC := Lib.hid hcc
  have hb' : b < w.heap.size := Nat.lt_of_lt_of_le hb ht
  clear hm hc hcc
  go_enter Try.func65, Try.ntmps65
  go_wp2
  go_loopw [3, 4] (fun v t wr => ∃ k : Nat, k ≤ c ∧ t = .int .i64 k ∧ OutM w.heap.size wr v (mk k m.length fun k i => at' m i k) ∧ Below w.heap.size w wr) (fun _ t _ => c - (intOf t).toNat)
  case atStart => exact ⟨0, Nat.zero_le _, rfl, OutM.start w _ _ (Nat.le_refl _) rfl, by ((repeat' (first | with_reducible exact Below.refl _ _ | (with_reducible refine Below.setCell ?_ ?_ _) | (with_reducible refine Below.alloc ?_ ?_ _) | (with_reducible refine Below.drew ?_))); all_goals (first | (simp; done) | omega | (simp; omega)))⟩
  case round =>
    obtain ⟨k, hk, rfl, ho, hbel⟩ := hrel
    have HO := Lib.hid ho
    have HBEL := Lib.hid hbel
    have hwz := hbel.size
    have hr0 := (hbel.cell (p := ⟨b, o, none⟩) hb').trans hr0
    rename World => wo
    clear ho
    by_cases hlt : k < c
    · have hk1 : (k : Int) < (c : Int) := by omega
      clear hbel
      go_wp2
      go_loopw [5, 6] (fun v t wr => ∃ i : Nat, i ≤ m.length ∧ t = .int .i64 i ∧ OutR wo.heap.size wr v (mkR i fun i => at' m i k) ∧ Below wo.heap.size wo wr) (fun _ t _ => m.length - (intOf t).toNat)
      case atStart => exact ⟨0, Nat.zero_le _, rfl, OutR.start wo _ _ (Nat.le_refl _) rfl, by ((repeat' (first | with_reducible exact Below.refl _ _ | (with_reducible refine Below.setCell ?_ ?_ _) | (with_reducible refine Below.alloc ?_ ?_ _) | (with_reducible refine Below.drew ?_))); all_goals (first | (simp; done) | omega | (simp; omega)))⟩
      case round =>
        obtain ⟨i, hi', rfl, hoi, hbi⟩ := hrel
        have HOI := Lib.hid hoi
        have HBI := Lib.hid hbi
        have hwi := hbi.size
        clear hoi hr0
        by_cases hlti : i < m.length
        · have hbw := HBEL.out.trans (HBI.out.mono hwz)
          obtain ⟨b1, o1, r, c1, ha1, _, hb1, hr1, hrow⟩ := (HM.out.below hbw ht).row hlti
          cases ha1
          have hcl := HC.out i hlti
          rw [← HCC.out] at hcl
          obtain ⟨b2, o2, ha2, _, hb2, hc2⟩ := hrow.num (j := k) (by omega)
          subst ha2
          rw [hcl] at hr1
          have HS : Hid (mkR (i + 1) (fun i => at' m i k) = mkR i (fun i => at' m i k) ++ [(rw' m i).getD k 0]) := mkR_succ _ _
          obtain ⟨x, hx⟩ : ∃ x, x = (rw' m i).getD k 0 := ⟨_, rfl⟩
          rw [← hx] at hc2 HS
          obtain ⟨X, hX⟩ : ∃ X, X = (mkR i (fun i => at' m i k)).map (Value.int .i64) := ⟨_, rfl⟩
          have HX := Lib.hid hX
          have HO2 : Hid (wr.ownsRow wo.heap.size 2 1 u5 i X) := by
            have := HOI.out; unfold OutR at this; rw [mkR_len, ← hX] at this; exact this
          clear hX hx hcl hrow hbw hbi
          go_wp2_with (at_builtin; refine wpList_append_lies _ rfl _ _ 22 rfl wo.heap.size 2 i0 (.int .i64 0) 1 8 Try.underlying22 hi hz0 hz1 hz2 rfl (by decide) u5 i X rfl (HO2.out.alloc _) ⟨wr.heap.size, 0, none⟩ 1 1 [.int .i64 x] rfl rfl (World.news_of_block (cs := #[.int .i64 x]) (t := 2) (fr := (0, 0)) (heap_alloc_new wr _)) (by simp [Value.oneCell']) (by omega) (by unfold maxLen; omega) (by omega) (by simp; omega) (wr.heap.size + 1) (by simp) ?_; intro gg cap w1 hown1 hgrow hat hlt1)
          go_wp2
          go_roundw
          case rel => exact ⟨i + 1, by omega, by go_num, OutR.step HO2.out HX.out HS.out hown1, (HBI.out.alloc hwi _).grown hgrow (by simp; omega) (fun _ hk => (HO2.out.lt _ hk).1)⟩
          case measure => simp [intOf]; omega
        · have hn : i = m.length := by omega
          subst hn
          obtain ⟨r, cp, hv, htag⟩ := HOI.out.tag
          rw [mkR_len] at hv
          subst hv
          obtain ⟨vals, hvo, hvr⟩ := HO.out.below HBI.out
          rw [mk_len] at hvo hvr
          have HV := Lib.hid hvo
          have HVR := Lib.hid hvr
          have HT := Lib.hid htag
          clear hvo hvr htag hbi
          go_wp2_with (at_builtin; refine wpList_append_lies _ rfl _ _ 26 rfl w.heap.size 22 j0 (.slice none 0 0) 1 24 Try.underlying26 kj kz0 kz1 kz2 rfl (by decide) u3 k vals rfl (HV.out.alloc _) ⟨wr.heap.size, 0, none⟩ 1 1 [.slice r m.length cp] rfl rfl (World.news_of_block (cs := #[.slice r m.length cp]) (t := 22) (fr := (0, 0)) (heap_alloc_new wr _)) (by simp [Value.oneCell']) (by omega) (by unfold maxLen; omega) (by omega) (by simp; omega) (wr.heap.size + 1) (by simp) ?_; intro gg cap w1 hown1 hgrow hat hlt1)
          go_wp2
          go_roundw
          case rel => exact ⟨k + 1, by omega, by go_num, OutM.next HV.out HVR.out HT.out rfl hwz hown1 hgrow, ((HBEL.out.trans (HBI.out.mono hwz)).alloc (by omega) _).grown hgrow (by simp; omega) (fun _ hk => (HV.out.lt _ hk).1)⟩
          case measure => simp [intOf]; omega
    · have hn : k = c := by omega
      subst hn
      have HE : Hid (trM m = mk k m.length fun k i => at' m i k) := by show trM m = _; unfold trM; rw [← HCC.out]
      clear hbel
      go_wp2
      go_ret
      rw [HE.out]
      exact HO.out.new HBEL.out

end Go.Proofs.Ytckpcfhmppdghaa

namespace Go.Proofs.Ytckpcfhmppdghaa
open Go.RowKit Go.ChangeShapes Go.WideShapes
set_option linter.unusedVariables false

/-- i rows are there: row j in blocks from lo j up to tp j, behind block b and behind those of the rows before it. -/
structure HalfG (w : World) (b i : Nat) (m : List (List Int)) (A : Nat → Option Addr) (C lo tp : Nat → Nat) : Prop where
  lt : b < w.heap.size
  done : ∀ j, j < i → w.cell? ⟨b, j, none⟩ = some (.slice (A j) (rw' m j).length (C j))
  rest : ∀ j, i ≤ j → j < m.length → w.cell? ⟨b, j, none⟩ = some (.slice none 0 0)
  free : ∀ j, w.frozen? ⟨b, j, none⟩ = false
  rows : ∀ j, j < i → OwnR (lo j) (tp j) w (A j) (rw' m j) ∧ b < lo j ∧ tp j ≤ w.heap.size
  apart : ∀ j j', j < j' → j' < i → tp j ≤ lo j'
theorem HalfG.start (w : World) (m : List (List Int)) (t : TypeId) (A : Nat → Option Addr) (C lo tp : Nat → Nat) : HalfG (w.alloc (.cells (madeCells #[.slice none 0 0] m.length) t)) w.heap.size 0 m A C lo tp where
  lt := by simp
  done j hj := by omega
  rest j _ hj := by
    have h := World.cell?_alloc_new (w := w) (madeCells #[.slice none 0 0] m.length) t j
    rw [h]
    simp [madeCells, hj, Nat.mod_one]
  free j := by simp [go_sem]
  rows j hj := by omega
  apart j j' _ hj := by omega
/-- One row more. -/
theorem HalfG.next {w w1 : World} {b i : Nat} {m : List (List Int)} {A : Nat → Option Addr} {C lo tp : Nat → Nat} {r : Option Addr} {c T : Nat} (h : HalfG w b i m A C lo tp) (hi : i < m.length)
    (hk : ∀ k, k < w.heap.size → k ≠ b → w1.heap[k]? = w.heap[k]?) (hs : w.heap.size ≤ w1.heap.size) (hT : T ≤ w1.heap.size)
    (hci : w1.cell? ⟨b, i, none⟩ = some (.slice r (rw' m i).length c)) (hc : ∀ j, j ≠ i → w1.cell? ⟨b, j, none⟩ = w.cell? ⟨b, j, none⟩) (hf : ∀ j, w1.frozen? ⟨b, j, none⟩ = false)
    (hr : OwnR w.heap.size T w1 r (rw' m i)) :
    HalfG w1 b (i + 1) m (fun j => if j = i then r else A j) (fun j => if j = i then c else C j) (fun j => if j = i then w.heap.size else lo j) (fun j => if j = i then T else tp j) where
  lt := Nat.lt_of_lt_of_le h.lt hs
  done j hj := by
    by_cases e : j = i
    · subst e; simp only [if_pos]; exact hci
    · simp only [if_neg e]; exact (hc j e).trans (h.done j (by omega))
  rest j hj hl := (hc j (by omega)).trans (h.rest j (by omega) hl)
  free := hf
  rows j hj := by
    by_cases e : j = i
    · subst e; simp only [if_pos]; exact ⟨hr, h.lt, hT⟩
    · simp only [if_neg e]
      obtain ⟨h1, h2, h3⟩ := h.rows j (by omega)
      exact ⟨h1.same (fun k k0 k1 => hk k (by omega) (by omega)), h2, by omega⟩
  apart j j' hj hj' := by
    have e : ¬ j = i := by omega
    simp only [if_neg e]
    by_cases e' : j' = i
    · simp only [if_pos e']; exact (h.rows j (by omega)).2.2
    · simp only [if_neg e']; exact h.apart j j' hj (by omega)
def blk (a : Option Addr) : Nat := match a with | some a => a.block | none => 0
def ofs (a : Option Addr) : Nat := match a with | some a => a.off | none => 0
theorem OwnR.at {lo tp : Nat} {w : World} {a : Option Addr} {zs : List Int} (h : OwnR lo tp w a zs) {j : Nat} (hj : j < zs.length) : a = some ⟨blk a, ofs a, none⟩ ∧ lo ≤ blk a ∧ blk a < tp ∧ w.cell? ⟨blk a, ofs a + j, none⟩ = some (.int .i64 (zs.getD j 0)) ∧ w.frozen? ⟨blk a, ofs a + j, none⟩ = false := by
  rcases h with h | ⟨b, o, rfl, h0, h1, hc⟩
  · rw [h] at hj; simp at hj
  · exact ⟨rfl, h0, h1, (hc j hj).1, (hc j hj).2⟩
theorem HalfG.own {w : World} {b : Nat} {m : List (List Int)} {A : Nat → Option Addr} {C lo tp : Nat → Nat} (h : HalfG w b m.length m A C lo tp) : OwnM b w.heap.size w (some ⟨b, 0, none⟩) m :=
  .inr ⟨⟨b, 0, A, fun j => blk (A j), fun j => ofs (A j), C⟩, rfl, {
    rng := fun _ => ⟨Nat.le_refl _, h.lt⟩
    top := fun i hi => by show w.cell? ⟨b, 0 + i, none⟩ = _; rw [Nat.zero_add]; exact h.done i hi
    row := fun i hi => by
      by_cases h0 : (rw' m i).length = 0
      · exact .inl h0
      · exact .inr ((h.rows i hi).1.at (j := 0) (by omega)).1
    rrng := fun i hi hl => by
      obtain ⟨h1, h2, h3⟩ := h.rows i hi
      have := h1.at (j := 0) hl
      exact ⟨by show b ≤ blk (A i); omega, by show blk (A i) < _; omega⟩
    cell := fun i hi j hj => ((h.rows i hi).1.at hj).2.2.2.1
    free := fun i hi j hj => ((h.rows i hi).1.at hj).2.2.2.2
    apart := fun i hi i' hi' hne j hj j' hj' e => by
      have h1 := (h.rows i hi).1.at hj
      have h2 := (h.rows i' hi').1.at hj'
      have e1 : blk (A i) = blk (A i') := e.1
      rcases Nat.lt_or_ge i i' with l | l
      · have := h.apart i i' l hi'; omega
      · have := h.apart i' i (by omega) hi; omega
    tops := fun i hi j hj i' hi' e => by
      obtain ⟨h1, h2, h3⟩ := h.rows i hi
      have := h1.at hj
      have e1 : blk (A i) = b := e.1
      omega }⟩

theorem RowOwn.block {w w' : World} {b o n : Nat} {f : Nat → Int} (h : RowOwn w b o n f) (e : w'.heap[b]? = w.heap[b]?) : RowOwn w' b o n f :=
  ⟨fun j hj => (World.cell?_of_block (w := w) (a := ⟨b, o + j, none⟩) e).trans (h.cell j hj), fun j hj => (World.frozen?_of_block (w := w) (a := ⟨b, o + j, none⟩) e).trans (h.free j hj)⟩
theorem RowOwn.far {w : World} {b o n : Nat} {f : Nat → Int} (h : RowOwn w b o n f) (c i : Nat) (v : Value) (hne : b ≠ c) : RowOwn (w.setCell ⟨c, i, none⟩ v) b o n f :=
  h.block (Below.heap_setCell _ _ _ _ hne)
end Go.Proofs.Ytckpcfhmppdghaa

namespace Go.Proofs.Ytckpcfhmppdghaa
open Go.RowKit
set_option linter.unusedVariables false

/-- The products with the blades, as rows. -/
def colsM (p : Int) (S x : List Int) : List (List Int) := mk (bl S) (bl S) fun j c => prodF p S x (bladeM S j) c
theorem cols_tr (p : Int) (S x : List Int) : trM (colsM p S x) = leftM p S x := by
  unfold trM leftM
  have h0 : (rw' (colsM p S x) 0).length = bl S := mk_rowLen _ (bl_pos S)
  rw [h0, show (colsM p S x).length = bl S from mk_len _ _ _]
  exact mk_congr fun i hi j hj => mk_at _ hj hi
theorem cols_row {p : Int} {S x : List Int} {i : Nat} (h : i < bl S) : rw' (colsM p S x) i = prodM p S x (bladeM S i) := mk_row _ h
theorem blade_len (S : List Int) (k : Nat) : (bladeM S k).length = bl S := mkR_len _ _
theorem blade_mv {p : Int} {S : List Int} (hs : isSp p S = true) (k : Nat) : isMv p S (bladeM S k) = true :=
  isMv_of (mkR_len _ _) (fun j hj => by
    have hp := prm_bd (isSp_iff.1 hs).prime
    unfold bladeM at hj ⊢
    rw [mkR_len] at hj
    rw [mkR_at _ hj]
    split <;> omega)
def NewRowTB (p : Int) (S x : List Int) (i : Nat) (w : World) (e : Ending) (w' : World) : Prop :=
  ∃ b, e = .returned (.slice (some ⟨b, 0, none⟩) (bl S) (bl S)) ∧ TagR w.heap.size w'.heap.size w' (some ⟨b, 0, none⟩) (prodM p S x (bladeM S i)) ∧ Below w.heap.size w w'
theorem times_blade (p : Int) (aS : Option Addr) (S : List Int) (cS loS tpS : Nat) (ax : Option Addr) (x : List Int) (cx lox tpx b i : Nat) (w : World) (hs : isSp p S = true) (hS : RowIn loS tpS w aS S) (tS : tpS ≤ w.heap.size) (hx : RowIn lox tpx w ax x) (tx : tpx ≤ w.heap.size) (mx : isMv p S x = true) (hb : RowOwn w b 0 (bl S) (fun j => if j = i then 1 else 0)) (ub : b < w.heap.size) :
    Calls Try.prog 73 #[.agg #[.int .i64 p, .slice aS S.length cS], .slice ax x.length cx, .slice (some ⟨b, 0, none⟩) (bl S) (bl S)] w (NewRowTB p S x i w) := by
  have h := l04Times_tag p aS S cS loS tpS ax x cx lox tpx (some ⟨b, 0, none⟩) (bladeM S i) (bl S) 0 w.heap.size w (isSp_iff.1 hs).prime (isSp_iff.1 hs).hi hS tS (sp_nums hs) hx tx (Mv.len mx) (Mv.nums mx) (hb.own (Nat.zero_le _) ub).row (Nat.le_refl _) (blade_len S i) (Mv.nums (blade_mv hs i))
  rw [blade_len] at h
  refine h.mono ?_
  rintro e w' ⟨b', rfl, hl, hu, hr, hbl, cur, ht⟩
  refine ⟨b', rfl, .inr ⟨b', 0, cur, rfl, hl, hu, ht, fun j hj => ?_⟩, hbl⟩
  rw [prodM_len] at hj
  rw [prodM_at p S x _ hj]
  exact hr.cell j hj
theorem product_blade (p : Int) (aS : Option Addr) (S : List Int) (cS loS tpS : Nat) (ax : Option Addr) (x : List Int) (cx lox tpx b i : Nat) (w : World) (hs : isSp p S = true) (hS : RowIn loS tpS w aS S) (tS : tpS ≤ w.heap.size) (hx : RowIn lox tpx w ax x) (tx : tpx ≤ w.heap.size) (mx : isMv p S x = true) (hb : RowOwn w b 0 (bl S) (fun j => if j = i then 1 else 0)) (ub : b < w.heap.size) :
    Calls Try.prog 68 #[.agg #[.int .i64 p, .slice aS S.length cS], .slice ax x.length cx, .slice (some ⟨b, 0, none⟩) (bl S) (bl S)] w (OwnE (prodM p S x (bladeM S i)) w) := by
  have h := product_own p aS S cS loS tpS ax x cx lox tpx (some ⟨b, 0, none⟩) (bladeM S i) (bl S) 0 w.heap.size w hs hS tS hx tx mx (hb.own (Nat.zero_le _) ub).row (Nat.le_refl _) (blade_mv hs i)
  rw [blade_len] at h
  exact h

set_option maxRecDepth 100000 in
set_option maxHeartbeats 3200000 in
theorem l04Left_any (p : Int) (aS : Option Addr) (S : List Int) (cS loS tpS : Nat) (ax : Option Addr) (x : List Int) (cx lox tpx : Nat) (w : World) (hs : isSp p S = true) (hS : RowIn loS tpS w aS S) (tS : tpS ≤ w.heap.size) (hx : RowIn lox tpx w ax x) (tx : tpx ≤ w.heap.size) (mx : isMv p S x = true) :
    Calls Try.prog 60 #[.agg #[.int .i64 p, .slice aS S.length cS], .slice ax x.length cx] w (NewM (leftM p S x) w) := by
  obtain ⟨j0, kj, kz0, kz1, kz2⟩ := info_parts info_slice
  have HS := Lib.hid hS
  have HX := Lib.hid hx
  have HI := Lib.hid hs
  have HMX := Lib.hid mx
  have h6 := (isSp_iff.1 hs).hi
  have hbl := bl_le h6
  have hb0 := bl_pos S
  have HB0 := Lib.hid (below_alloc w (.cells #[.int .i64 p, .slice aS S.length cS] 29))
  have k0 := nw0 w (.int .i64 p) (.slice aS S.length cS) 29
  have k1 := nw1 w (.int .i64 p) (.slice aS S.length cS) 29
  clear hS hx hs mx
  go_enter Try.func60, Try.ntmps60
  go_upto_region 1 with fail
  obtain ⟨wB, hw1⟩ : ∃ z, z = w.alloc (.cells #[.int .i64 p, .slice aS S.length cS] 29) := ⟨_, rfl⟩
  rw [← hw1] at HB0 k0 k1 ⊢
  have hw0 : w.heap.size < wB.heap.size := by rw [hw1]; simp
  clear hw1
  have K0 := Lib.hid k0
  have K1 := Lib.hid k1
  clear k0 k1
  go_wp2
  go_loopw [5, 6, 7] (fun v t _ wr => ∃ i : Nat, i ≤ bl S ∧ t = .int .i64 i ∧ OutM wB.heap.size wr v (mk i (bl S) fun j c => prodF p S x (bladeM S j) c) ∧ Below wB.heap.size wB wr) (fun _ t _ _ => bl S - (intOf t).toNat)
  case atStart => exact ⟨0, Nat.zero_le _, rfl, OutM.start wB _ _ (Nat.le_refl _) rfl, below_alloc wB _⟩
  case round =>
    obtain ⟨i, hi, rfl, ho, hbel⟩ := hrel
    obtain ⟨V5, hV5⟩ : ∃ z, z = u5 := ⟨_, rfl⟩
    rw [← hV5] at ho ⊢
    clear hV5
    have HO := Lib.hid ho
    have HB := Lib.hid hbel
    have hwz := hbel.size
    have hk0 := (hbel.cell (p := ⟨w.heap.size, 0, none⟩) hw0).trans K0.out
    have hk1 := (hbel.cell (p := ⟨w.heap.size, 1, none⟩) hw0).trans K1.out
    have hlw : w.heap.size < wr.heap.size := by omega
    clear ho hbel
    by_cases hlt : i < bl S
    · have hi1 : (i : Int) < (bl S : Int) := Int.ofNat_lt.2 hlt
      obtain ⟨vals, hvo, hvr⟩ := HO.out
      rw [mk_len] at hvo hvr
      have HVO := Lib.hid hvo
      have HVR := Lib.hid hvr
      clear hvo hvr
      go_upto_region 7 with (first | (go_at_call 72; (with_reducible refine (l04Size_any p aS S cS wr h6).mono ?_); rintro e w3 ⟨rfl, b3⟩; have B3 := Lib.hid b3; have z3 := b3.size; have hk03 := (b3.cell (p := ⟨w.heap.size, 0, none⟩) hlw).trans hk0; have hk13 := (b3.cell (p := ⟨w.heap.size, 1, none⟩) hlw).trans hk1; clear b3) | (go_at_call 59; (with_reducible refine (l04Zero_any p aS S cS w3 h6).mono ?_); rintro e w4 ⟨b4, rfl, l4, u4, o4, q4⟩; have O4 := Lib.hid o4; have B4 := Lib.hid q4; have z4 := q4.size; have c4 := o4.cell i hlt; have f4 := o4.free i hlt; rw [Nat.zero_add] at c4 f4; have hk04 := (q4.cell (p := ⟨w.heap.size, 0, none⟩) (Nat.lt_of_lt_of_le hlw z3)).trans hk03; have hk14 := (q4.cell (p := ⟨w.heap.size, 1, none⟩) (Nat.lt_of_lt_of_le hlw z3)).trans hk13; clear o4 q4))
      obtain ⟨w5, hw5⟩ : ∃ z, z = w4.setCell ⟨b4, i, none⟩ (.int .i64 1) := ⟨_, rfl⟩
      have HR5 : Hid (RowOwn w5 b4 0 (bl S) (fun j => if j = i then 1 else 0)) := by show RowOwn _ _ _ _ _; rw [hw5]; exact row_put0 O4.out hlt (fun j _ => rfl)
      have HQ5 : Hid (Below wr.heap.size wr w5) := by show Below _ _ _; rw [hw5]; exact (B3.out.trans (B4.out.mono z3)).trans ((wrote_put0 (Wrote.refl b4 0 (bl S) w4) hlt _).belowB (by omega))
      have u5 : b4 < w5.heap.size := by rw [hw5]; simp [World.setCell]; exact u4
      rw [← hw5]
      clear hw5 c4 f4 hk04 hk14 hk03 hk13
      have HB5 : Hid (Below wB.heap.size wB w5) := HB.out.trans (HQ5.out.mono hwz)
      have HW5 : Hid (Below w.heap.size w w5) := HB0.out.trans (HB5.out.mono (by omega))
      have z5 := HW5.out.size
      have z5r := HQ5.out.size
      have hk05 := (HB5.out.cell (p := ⟨w.heap.size, 0, none⟩) hw0).trans K0.out
      have hk15 := (HB5.out.cell (p := ⟨w.heap.size, 1, none⟩) hw0).trans K1.out
      have HS5 := Lib.hid (HS.out.below HW5.out tS)
      have HX5 := Lib.hid (HX.out.below HW5.out tx)
      have tS5 : tpS ≤ w5.heap.size := by omega
      have tx5 : tpx ≤ w5.heap.size := by omega
      go_wp2_with (first | (go_at_call 73; (with_reducible refine (times_blade p aS S cS loS tpS ax x cx lox tpx b4 i w5 HI.out HS5.out tS5 HX5.out tx5 HMX.out HR5.out u5).mono ?_); rintro e w6 ⟨b6, rfl, t6, q6⟩; have T6 := Lib.hid t6; have B6 := Lib.hid q6; have z6 := q6.size; have HQ6 := Lib.hid (HQ5.out.trans (q6.mono z5r)); have HVW := Lib.hid (HVO.out.kept (below_grown HQ6.out) (by cases hv : Value.ownBlock V5 <;> simp)); clear t6 q6) | (at_builtin; refine wpList_append_lies _ rfl _ _ 26 rfl wB.heap.size 22 j0 (.slice none 0 0) 1 24 Try.underlying26 kj kz0 kz1 kz2 rfl (by decide) V5 i vals rfl (HVW.out.alloc _) ⟨w6.heap.size, 0, none⟩ 1 1 [.slice (some ⟨b6, 0, none⟩) (bl S) (bl S)] rfl rfl (World.news_of_block (cs := #[.slice (some ⟨b6, 0, none⟩) (bl S) (bl S)]) (t := 22) (fr := (0, 0)) (heap_alloc_new w6 _)) (by simp [Value.oneCell']) (by omega) (by unfold maxLen; omega) (by omega) (by simp; omega) (w6.heap.size + 1) (by simp) ?_; intro gg cap w1 hown1 hgrow hat hlt1))
      have HVRW : Hid (∀ i', i' < i → ∃ r c', vals[i']? = some (.slice r (rw' (mk i (bl S) fun j c => prodF p S x (bladeM S j) c) i').length c') ∧ TagR wB.heap.size w6.heap.size w6 r (rw' (mk i (bl S) fun j c => prodF p S x (bladeM S j) c) i')) := fun i' h' => by
        obtain ⟨r', c', g1, g2⟩ := HVR.out i' h'
        exact ⟨r', c', g1, g2.below HQ6.out (Nat.le_refl _) (Nat.le_refl _) HQ6.out.size⟩
      have HT6 : Hid (TagR w5.heap.size w6.heap.size w6 (some ⟨b6, 0, none⟩) (prodM p S x (bladeM S i))) := T6.out
      go_roundw
      case rel => exact ⟨i + 1, by omega, by go_num, OutM.next HVW.out HVRW.out HT6.out rfl (Nat.le_trans hwz z5r) hown1 hgrow, ((HB.out.trans (HQ6.out.mono hwz)).alloc (by omega) _).grown hgrow (by simp; omega) (fun _ hk => (HVW.out.lt _ hk).1)⟩
      case measure => simp [intOf]; omega
    · have hin : i = bl S := by omega
      subst hin
      obtain ⟨r, c, hv, hmat⟩ := HO.out.mat
      subst hv
      have HMT := Lib.hid hmat
      clear hmat
      have h0l : 0 < (mk (bl S) (bl S) fun j c => prodF p S x (bladeM S j) c).length := by rw [mk_len]; exact hb0
      have HLE : Hid (∀ i, i < (mk (bl S) (bl S) fun j c => prodF p S x (bladeM S j) c).length → (rw' (mk (bl S) (bl S) fun j c => prodF p S x (bladeM S j) c) i).length = (rw' (mk (bl S) (bl S) fun j c => prodF p S x (bladeM S j) c) 0).length) := fun i hi => by
        rw [mk_len] at hi
        rw [mk_rowLen _ hi, mk_rowLen _ hb0]
      have hn1 : (mk (bl S) (bl S) fun j c => prodF p S x (bladeM S j) c).length ≤ 1024 := by rw [mk_len]; omega
      have hn2 : (rw' (mk (bl S) (bl S) fun j c => prodF p S x (bladeM S j) c) 0).length ≤ 1024 := by rw [mk_rowLen _ hb0]; omega
      have HTR : Hid (trM (mk (bl S) (bl S) fun j c => prodF p S x (bladeM S j) c) = leftM p S x) := cols_tr p S x
      go_wp2_with (first | (go_at_call 72; (with_reducible refine (l04Size_any p aS S cS wr h6).mono ?_); rintro e w3 ⟨rfl, b3⟩; have B3 := Lib.hid b3; have z3 := b3.size; clear b3) | (go_at_call 65; (with_reducible refine (l02Turn_any r _ c wB.heap.size wr.heap.size w3 (HMT.out.below B3.out (Nat.le_refl _)) z3 h0l HLE.out hn1 hn2).mono ?_); rintro e w4 ⟨r4, c4, rfl, m4, b4⟩; have M4 := Lib.hid m4; have B4 := Lib.hid b4; clear m4 b4))
      go_ret
      have h := M4.out
      rw [HTR.out] at h
      exact ⟨r4, c4, by rw [HTR.out]; rfl, h.mono (by omega) (Nat.le_refl _), (HB0.out.trans (HB.out.mono (by omega))).trans ((B3.out.trans (B4.out.mono z3)).mono (by omega))⟩

end Go.Proofs.Ytckpcfhmppdghaa
