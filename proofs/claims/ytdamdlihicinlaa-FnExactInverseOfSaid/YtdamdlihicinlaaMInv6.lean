/-
  Where a number stands in a list, and whether it does: l01Index, l01Has, l02First in the model, slices.Index and slices.Contains in the program.
  Conditions: the list is nil or a row of known cells, of at most 1048576 numbers.
  The model's kernel: the walk.
  Conditions: the matrix is a row of rows of known cells with numbers of the prime.
  The model's solutions of linear equations: the walk.
  Conditions: the matrix is a row of rows of known cells with numbers of the prime, the right side too.
  Lists joined, in the program: slices.Grow of nothing, slices.Concat.
  Conditions: the lists are rows of known cells, not empty, not too long.
  The program's rows with others beside them: the walk.
  Conditions: both are rows of rows of known cells, as many.
-/
import Derived.Test.YtdamdlihicinlaaMInv2
import Derived.Test.YtdamdlihicinlaaCheck
import Derived.Test.YtdamdlihicinlaaMInv5
import Derived.Test.YtdamdlihicinlaaOwn
import Derived.Test.YtdamdlihicinlaaMInv4
import Derived.Lib.AppendZerosOnto
import Derived.Lib.Walk
namespace Go.Proofs.Ytdamdlihicinlaa
open Go.RowKit
set_option linter.unusedVariables false

/-- The first place of a number. -/
def isAt (z : List Int) (x : Int) (k : Nat) : Prop := k < z.length ∧ (∀ j, j < k → z.getD j 0 ≠ x) ∧ z.getD k 0 = x
theorem isAt_cases (z : List Int) (x : Int) : (∃ k, isAt z x k ∧ z.any (· == x) = true) ∨ ((∀ j, j < z.length → z.getD j 0 ≠ x) ∧ z.any (· == x) = false) := by
  by_cases h : z.findIdx (· == x) < z.length
  · left
    have h1 := List.findIdx_getElem (xs := z) (p := (· == x)) (w := h)
    refine ⟨z.findIdx (· == x), ⟨h, fun j hj e => ?_, ?_⟩, ?_⟩
    · have h2 := List.not_of_lt_findIdx hj
      have hj' : j < z.length := by omega
      simp [List.getD, hj'] at e
      simp [e] at h2
    · simpa [List.getD, h] using h1
    · exact List.any_eq_true.2 ⟨_, List.getElem_mem h, h1⟩
  · right
    have h2 : ∀ y ∈ z, (y == x) = false := fun y hy => by
      have h3 : z.findIdx (· == x) = z.length := Nat.le_antisymm List.findIdx_le_length (by omega)
      simpa using List.findIdx_eq_length.1 h3 y hy
    refine ⟨fun j hj e => ?_, ?_⟩
    · have := h2 (z.getD j 0) (by simp [List.getD, hj])
      rw [e] at this; simp at this
    · simpa using h2

set_option maxHeartbeats 800000 in
theorem l02First_any (a : Option Addr) (z : List Int) (n k ca lo tp : Nat) (w : World) (hz : RowIn lo tp w a z) (hn : z.length = n) (hl : n ≤ 1048576) (hk : fstN z = k) (hk2 : k < n) :
    Calls Try.prog 129 #[.slice a n ca] w fun e w' => e = .returned (.int .i64 k) ∧ w = w' := by
  subst hn
  have HZ := Lib.hid hz
  have HK := Lib.hid hk
  have HL : Hid (∀ j, j < k → z.getD j 0 = 0) := fun j hj => by
    rw [← hk] at hj
    have h2 := List.not_of_lt_findIdx hj
    have hj' : j < z.length := by omega
    simp [List.getD, hj']
    simpa using h2
  have HG : Hid (z.getD k 0 ≠ 0) := by
    show _
    have := fstN_lt (z := z) (by omega)
    rwa [hk] at this
  clear hz hk
  go_enter Try.func129, Try.ntmps129
  go_wp2
  go_loop [3] (fun t => ∃ i : Nat, i ≤ k ∧ t = .int .i64 i) (fun t => z.length - (intOf t).toNat)
  case atStart => exact ⟨0, Nat.zero_le _, rfl⟩
  case round =>
    obtain ⟨i, hi, rfl⟩ := hrel
    have hi1 : (i : Int) < (z.length : Int) := by omega
    obtain ⟨b1, o1, ha1, _, _, hc1⟩ := HZ.out.num (by omega : i < z.length)
    subst ha1
    by_cases e : i = k
    · subst e
      have h3 := HG.out
      obtain ⟨y, hy⟩ : ∃ y, y = z.getD i 0 := ⟨_, rfl⟩
      rw [← hy] at hc1 h3
      have e1 : (y != 0) = true := by simpa using h3
      have e2 : (y == 0) = false := by simpa using h3
      clear hy h3
      go_wp2
      go_ret
      exact ⟨rfl, rfl⟩
    · rw [HL.out i (by omega)] at hc1
      go_wp2
      go_round
      case rel => exact ⟨i + 1, by omega, by go_num⟩
      case measure => simp [intOf]; omega

theorem any_pivs (P : Nat → Nat) (n k : Nat) : ((List.range n).map fun i => (P i : Int)).any (· == (k : Int)) = isPv P n k := by
  unfold isPv
  rw [List.any_map]
  congr 1
  funext i
  show ((P i : Int) == (k : Int)) = (P i == k)
  by_cases e : P i = k
  · subst e; rw [beq_self_eq_true, beq_self_eq_true]
  · have h : ¬ (P i : Int) = (k : Int) := by omega
    rw [beq_eq_false_iff_ne.2 e, beq_eq_false_iff_ne.2 h]

end Go.Proofs.Ytdamdlihicinlaa

namespace Go.Proofs.Ytdamdlihicinlaa
open Go.RowKit
set_option linter.unusedVariables false

theorem balloc (w : World) (o : Obj) : Below w.heap.size w (w.alloc o) := (Below.refl _ _).alloc (Nat.le_refl _) o
theorem bdrew (w : World) : Below w.heap.size w w.drew := (Below.refl _ _).drew
theorem lst0 {p : Int} {m : List (List Int)} (h : Lst 1 p m) : isL 0 p m = true := isL_iff.2 { h with lo := Nat.zero_le _ }
/-- The places of the pivots, as numbers. -/
def pvL (P : Nat → Nat) (n : Nat) : List Int := (List.range n).map fun i => (P i : Int)
theorem pvL_len (P : Nat → Nat) (n : Nat) : (pvL P n).length = n := by simp [pvL]
theorem pvL_at {P : Nat → Nat} {n i : Nat} (h : i < n) : (pvL P n).getD i 0 = P i := by simp [pvL, List.getD, h]
theorem pvL_succ (P : Nat → Nat) (n : Nat) : pvL P (n + 1) = pvL P n ++ [(P n : Int)] := by simp [pvL, List.range_succ]
theorem pvL_any (P : Nat → Nat) (n k : Nat) : (pvL P n).any (· == (k : Int)) = isPv P n k := any_pivs P n k
/-- The vectors that the free columns make, and their reduced basis. -/
noncomputable def kerP (p : Int) (A : List (List Int)) : List (List Int) := kerN p (bas p A) (pvs (bas p A)) (rw' A 0).length (bas p A).length (rw' A 0).length
noncomputable def kerB (p : Int) (A : List (List Int)) : List (List Int) := bas p (kerP p A)
theorem kerP_lst {p : Int} {A : List (List Int)} (h : Lst 1 p A) : isL 0 p (kerP p A) = true :=
  isL_iff.2 (kerN_lst h.prime (h.c0 0 h.lo) (h.c1 0 h.lo) (Nat.le_refl _))

/-- A list of numbers stays where a list of lists is appended to. -/
theorem TagR.push {B lo tp n : Nat} {w w1 : World} {v : Value} {vals : List Value} {r : Option Addr} {z : List Int} (ho : w.ownsRow B 22 1 v n vals) (hg : w.grownBy w1 v.ownBlock) (ht : tp ≤ w.heap.size) (hz : TagR lo tp w r z) : TagR lo tp w1 r z := by
  refine hz.block (Nat.le_refl _) (Nat.le_refl _) (fun b cur _ h1 hc => hg.block b (Nat.lt_of_lt_of_le h1 ht) (fun e => ?_))
  rcases ho.2 with ⟨rfl, _⟩ | ⟨g, cap, cur', rfl, _, hgg, _⟩
  · simp [Value.ownBlock] at e
  · simp [Value.ownBlock] at e
    subst e
    rw [hgg] at hc
    simp at hc
/-- A list of lists stays where a list of numbers is appended to. -/
theorem OutM.beside {B n : Nat} {w w1 : World} {v v' : Value} {xs : List Value} (h : OutM B w v []) (ho : w.ownsRow B 2 1 v' n xs) (hg : w.grownBy w1 v'.ownBlock) : OutM B w1 v [] := by
  obtain ⟨vals, h1, _⟩ := h
  exact ⟨vals, h1.kept hg (own_apart h1 ho (by decide)), fun i hi => by simp at hi⟩
/-- A number is put into a list in place. -/
theorem TagR.set {lo tp : Nat} {w : World} {b o j : Nat} {z : List Int} (h : TagR lo tp w (some ⟨b, o, none⟩) z) (hj : j < z.length) (x : Int) : TagR lo tp (w.setCell ⟨b, o + j, none⟩ (.int .i64 x)) (some ⟨b, o, none⟩) (z.set j x) := by
  rcases h with h | ⟨b', o', cur, e, h0, h1, hc, hv⟩
  · rw [h] at hj; simp at hj
  · cases e
    refine .inr ⟨b, o, cur.setIfInBounds (o + j) (.int .i64 x), rfl, h0, h1, by simp [World.setCell, Array.getElem?_modify, hc], fun i hi => ?_⟩
    rw [List.length_set] at hi
    by_cases e : i = j
    · subst e
      rw [World.cell?_setCell_same w _ _ (hv i hi)]
      simp [List.getD, hi]
    · rw [World.cell?_setCell_other _ _ _ _ (fun e2 => e (by injection e2 with _ e3; omega)), hv i hi]
      simp only [List.getD_eq_getElem?_getD]
      rw [List.getElem?_set_ne (fun h => e h.symm)]
theorem mkR_set {c k : Nat} {x : Int} (f g : Nat → Int) (h : ∀ j, j < c → g j = if j = k then x else f j) : (mkR c f).set k x = mkR c g := by
  apply row_ext (by simp [mkR_len])
  intro j hj
  rw [List.length_set, mkR_len] at hj
  rw [mkR_at _ hj, h j hj]
  simp only [List.getD_eq_getElem?_getD]
  by_cases e : j = k
  · subst e
    rw [List.getElem?_set_self (by rw [mkR_len]; exact hj), if_pos rfl]; rfl
  · rw [List.getElem?_set_ne (fun h => e h.symm), if_neg e, ← List.getD_eq_getElem?_getD, mkR_at _ hj]
theorem kvec_start {p : Int} (hp : 1 < p) (B : List (List Int)) (P : Nat → Nat) (c k : Nat) : (mkR c fun _ => 0).set k 1 = kvec p B P c 0 k :=
  mkR_set _ _ (fun j _ => by
    rw [kv_zero]
    split
    · exact Int.emod_eq_of_lt (by omega) hp
    · rfl)
theorem kvec_next {p : Int} {c : Nat} {B : List (List Int)} {P : Nat → Nat} {n i k : Nat} (h : Rref p n c (at' B) P) (hi : i < n) (hk : P i ≠ k) : (kvec p B P c i k).set (P i) ((p - at' B i k) % p) = kvec p B P c (i + 1) k :=
  mkR_set _ _ (fun j hj => kvec_step h hi hk hj)

theorem OutM.start2 (w : World) (B : Nat) (t t' : TypeId) (hB : B ≤ w.heap.size) (ht : t' = 22) : OutM B ((w.alloc (.cells #[] t)).alloc (.cells #[] t')) (.slice (some ⟨w.heap.size + 1, 0, none⟩) 0 0) [] := by
  have h := OutM.start (w.alloc (.cells #[] t)) B t' (by simp; omega) ht
  have e : (w.alloc (.cells #[] t)).heap.size = w.heap.size + 1 := by simp
  rw [e] at h; exact h
theorem OutM.pushW {B n : Nat} {w w2 w1 : World} {o : Obj} {v v' : Value} {m : List (List Int)} {z : List Int} {vals : List Value} {r : Option Addr} {cz cp : Nat} (hl : m.length = n) (hzl : z.length = cz)
    (ho : w.ownsRow B 22 1 v n vals) (hr : ∀ i, i < n → ∃ r c', vals[i]? = some (.slice r (rw' m i).length c') ∧ TagR B w.heap.size w r (rw' m i))
    (hz : TagR w.heap.size w2.heap.size w2 r z) (hB : B ≤ w.heap.size) (h2 : Below w.heap.size w w2) (h1 : w1.ownsRow B 22 1 v' (n + 1) (vals ++ [.slice r cz cp])) (hg : (w2.alloc o).grownBy w1 v.ownBlock) : OutM B w1 v' (m ++ [z]) := by
  subst hl hzl
  have hb : Below w2.heap.size w2 (w2.alloc o) := (Below.refl _ _).alloc (Nat.le_refl _) o
  refine OutM.push (m := m) (w := w2.alloc o) (vals := vals) ((ho.kept (below_grown h2) (by cases hv : v.ownBlock <;> simp)).alloc o) (fun i hi => ?_) (hz.below hb (Nat.le_refl _) hB hb.size) (c := cp) h1 hg
  obtain ⟨r', c', g1, g2⟩ := hr i hi
  exact ⟨r', c', g1, (g2.below h2 (Nat.le_refl _) (Nat.le_refl _) h2.size).below hb (Nat.le_refl _) (Nat.le_refl _) hb.size⟩
theorem kvec_unit {p : Int} (hp : 1 < p) (B : List (List Int)) (P : Nat → Nat) (c k : Nat) : (mkR c fun j => if k = j then 1 else 0) = kvec p B P c 0 k := mkR_congr (fun j _ => by
  rw [kv_zero]
  by_cases e : j = k
  · rw [if_pos e, if_pos e.symm]; exact (Int.emod_eq_of_lt (by omega) hp).symm
  · rw [if_neg e, if_neg (fun h => e h.symm)]; rfl)
theorem kvec_len (p : Int) (B : List (List Int)) (P : Nat → Nat) (c i k : Nat) : (kvec p B P c i k).length = c := mkR_len _ _
theorem neg_mod (p x : Int) : (p - x) % p = -x % p := by simp

end Go.Proofs.Ytdamdlihicinlaa

namespace Go.Proofs.Ytdamdlihicinlaa
open Go.RowKit Go.ChangeShapes Go.WideShapes
set_option linter.unusedVariables false

theorem basisX (p : Int) (a : Option Addr) (A : List (List Int)) (ca lo tp c : Nat) (w : World) (hm : MatIn lo tp w a A) (ht : tp ≤ w.heap.size) (hA : RowsX p c A) :
    Calls Try.prog 162 #[.int .i64 p, .slice a A.length ca] w (NewBas p A w) := by
  have hp := (prm_bd hA.prime).1
  have h0 := hA.len0
  have c0 := hA.c0
  refine (l02Basis_any p a A ca lo tp c w hA.prime hm ht hA.lo hA.hi (by omega) hA.c1 hA.len hA.rng).mono ?_
  rintro e w' ⟨r, k, m, rfl, hM, hB, hb⟩
  rw [← h0] at hB
  have e1 := bas_eq (by omega) hB
  subst e1
  exact ⟨r, k, rfl, hM, hb, hB⟩
def NewRO (z : List Int) (w : World) (e : Ending) (w' : World) : Prop := ∃ g k, e = .returned (.slice (some ⟨g, 0, none⟩) z.length k) ∧ OutR w.heap.size w' (.slice (some ⟨g, 0, none⟩) z.length k) z ∧ Below w.heap.size w w'
set_option maxHeartbeats 800000 in
theorem l01Own_out (a : Option Addr) (zs : List Int) (ca lo tp : Nat) (w : World) (ha : RowIn lo tp w a zs) (ht : tp ≤ w.heap.size) (h0 : 0 < zs.length) (hs : zs.length ≤ 1048576) :
    Calls Try.prog 90 #[.slice a zs.length ca] w (NewRO zs w) := by
  obtain ⟨i0, hi, hz0, hz1, hz2⟩ := info_parts info64
  rcases ha with h | ⟨b, o, rfl, _, hb, hc⟩
  · rw [h] at h0; simp at h0
  · have hbw : b < w.heap.size := Nat.lt_of_lt_of_le hb ht
    have HN := Lib.hid (news_of hc (.cells #[] 2) hbw)
    clear hc
    go_enter Try.func90, Try.ntmps90
    go_wp2_with (at_builtin; refine wpList_append_lies _ rfl _ _ 22 rfl w.heap.size 2 i0 (.int .i64 0) 1 8 Try.underlying22 hi hz0 hz1 hz2 rfl (by decide) _ 0 [] rfl (World.ownsRow_made w #[] 0 (Nat.le_refl _) (Nat.zero_le _) rfl) ⟨b, o, none⟩ zs.length ca (zs.map (Value.int .i64)) rfl (by simp) HN.out (ones_of zs) h0 (by unfold maxLen; omega) (by omega) (by simp) (w.heap.size + 1) (by simp) ?_; intro gg cap w1 hown1 hgrow hat hlt1)
    rw [Nat.zero_add] at hown1
    have HO : Hid (OutR w.heap.size w1 (.slice (some ⟨gg, 0, none⟩) zs.length cap) zs) := OutR.of hown1 rfl
    have HB : Hid (Below w.heap.size w w1) := ((Below.refl _ _).alloc (Nat.le_refl _) _).grown hgrow (by simp) (fun k hk => by cases hk; exact Nat.le_refl _)
    clear hown1 hgrow
    go_wp2
    go_ret
    exact ⟨_, _, rfl, HO.out, HB.out⟩
def NewRN (n : Nat) (z : List Int) (w : World) (e : Ending) (w' : World) : Prop := ∃ g k, e = .returned (.slice (some ⟨g, 0, none⟩) n k) ∧ w'.ownsRow w.heap.size 2 1 (.slice (some ⟨g, 0, none⟩) n k) n (z.map (Value.int .i64)) ∧ Below w.heap.size w w'
theorem l01Own_n (a : Option Addr) (zs : List Int) (n ca lo tp : Nat) (w : World) (ha : RowIn lo tp w a zs) (ht : tp ≤ w.heap.size) (hn : zs.length = n) (h0 : 0 < n) (hs : n ≤ 1048576) :
    Calls Try.prog 90 #[.slice a n ca] w (NewRN n zs w) := by
  subst hn
  exact (l01Own_out a zs ca lo tp w ha ht h0 hs).mono (fun e w' h => h)
theorem ownsRow_base {w : World} {B B' s n : Nat} {E : TypeId} {v : Value} {xs : List Value} (h : w.ownsRow B E s v n xs) (hB : B' ≤ B) : w.ownsRow B' E s v n xs :=
  ⟨h.1, h.2.imp id (fun ⟨g, cap, cur, e, hb, r⟩ => ⟨g, cap, cur, e, Nat.le_trans hB hb, r⟩)⟩
theorem solvec_next {p : Int} {c n i : Nat} {B : List (List Int)} {P : Nat → Nat} (h : Rref p n (c + 1) (at' B) P) (hi : i < n) : (solvec B P c i).set (P i) (at' B i c) = solvec B P c (i + 1) :=
  mkR_set _ _ (fun j hj => by
    show sm i (fun i' => if j = P i' then at' B i' c else 0) + (if j = P i then at' B i c else 0) = if j = P i then at' B i c else sm i (fun i' => if j = P i' then at' B i' c else 0)
    by_cases e : j = P i
    · rw [if_pos e, if_pos e]
      have : sm i (fun i' => if j = P i' then at' B i' c else 0) = sm i (fun _ => 0) := sm_congr (fun i' hi' => by
        have := h.mono i' i hi' hi
        rw [if_neg (by omega)])
      rw [this, sm_zero, Int.zero_add]
    · rw [if_neg e, if_neg e, Int.add_zero])
theorem made_tag (w : World) (n : Nat) (t : TypeId) (ht : t = 2) : TagR w.heap.size (w.alloc (.cells (madeCells #[.int .i64 0] n) t)).heap.size (w.alloc (.cells (madeCells #[.int .i64 0] n) t)) (some ⟨w.heap.size, 0, none⟩) (mkR n fun _ => 0) := by
  subst ht
  refine .inr ⟨w.heap.size, 0, madeCells #[.int .i64 0] n, rfl, Nat.le_refl _, by simp, heap_alloc_new w _, fun j hj => ?_⟩
  rw [mkR_len] at hj
  rw [Nat.zero_add, made_cell w _ n _ hj, mkR_at _ hj]

def SolRet (p : Int) (A : List (List Int)) (v : List Int) (w : World) (e : Ending) (w' : World) : Prop :=
  ∃ r k, e = .returned (.tuple #[.slice r (solL p A v).length k, .bool (solOk p A v)]) ∧ RowIn w.heap.size w'.heap.size w' r (solL p A v) ∧ Below w.heap.size w w'

set_option maxRecDepth 100000 in
set_option maxHeartbeats 6400000 in
theorem l02Solve_any (p : Int) (a : Option Addr) (A : List (List Int)) (ca lo tp : Nat) (av : Option Addr) (v : List Int) (cv lov tpv : Nat) (w : World) (hm : MatIn lo tp w a A) (ht : tp ≤ w.heap.size) (hv : RowIn lov tpv w av v) (tv : tpv ≤ w.heap.size)
    (hA : Lst 1 p A) (hvl : v.length = A.length) (hvn : v.all (inr p) = true) :
    Calls Try.prog 141 #[.int .i64 p, .slice a A.length ca, .slice av v.length cv] w (SolRet p A v w) := by
  obtain ⟨i0, hi, hz0, hz1, hz2⟩ := info_parts info64
  obtain ⟨j0, kj, kz0, kz1, kz2⟩ := info_parts info_slice
  have hpb := prm_bd hA.prime
  have HP := Lib.hid hA.prime
  have HM := Lib.hid hm
  have HV := Lib.hid hv
  have HX := Lib.hid (col_rows hA hvl hvn)
  have hA0 : 0 < A.length := hA.lo
  have hA16 := hA.hi
  have HLA := Lib.hid hA.len
  obtain ⟨b, o, r0, c0, ha, _, hb, hr0, _⟩ := HM.out.row (i := 0) hA.lo
  subst ha
  rw [Nat.add_zero] at hr0
  have hb' : b < w.heap.size := Nat.lt_of_lt_of_le hb ht
  have c1 := hA.c0 0 hA.lo
  have c16 := hA.c1 0 hA.lo
  have HOK : Hid (solOk p A v = !isPv (pvs (bas p (bes A (col v)))) (bas p (bes A (col v))).length (rw' A 0).length) := rfl
  have HSL : Hid (solL p A v = if solOk p A v = true then solvec (bas p (bes A (col v))) (pvs (bas p (bes A (col v)))) (rw' A 0).length (bas p (bes A (col v))).length else []) := rfl
  obtain ⟨c, hcc⟩ : ∃ c, c = (rw' A 0).length := ⟨_, rfl⟩
  rw [← hcc] at hr0 c1 c16 HX HLA HOK HSL
  obtain ⟨W, hW⟩ : ∃ W, W = bes A (col v) := ⟨_, rfl⟩
  have HWL : Hid (W.length = A.length) := by show _ = _; rw [hW]; exact bes_len _ _
  have HWR : Hid (∀ i, i < A.length → rw' W i = rw' A i ++ [v.getD i 0]) := fun i h => by rw [hW, bes_row h, col_row (by omega)]
  rw [← hW] at HX HOK HSL
  have HVL := Lib.hid hvl
  obtain ⟨B, hB⟩ : ∃ B, B = bas p W := ⟨_, rfl⟩
  rw [← hB] at HOK HSL
  have HBE := Lib.hid hB
  obtain ⟨n, hn⟩ : ∃ n, n = B.length := ⟨_, rfl⟩
  rw [← hn] at HOK HSL
  have HN := Lib.hid hn
  obtain ⟨P, hP⟩ : ∃ P, P = pvs B := ⟨_, rfl⟩
  rw [← hP] at HOK HSL
  have HPE := Lib.hid hP
  have HPF : Hid (∀ i, i < n → fstN (rw' B i) = P i) := fun i _ => by rw [hP]; rfl
  clear hm hv hA hcc hW hvl hvn hB hn hP
  go_enter Try.func141, Try.ntmps141
  go_wp2
  go_loopw [8, 9] (fun z t wr => ∃ i : Nat, i ≤ A.length ∧ t = .int .i64 i ∧ OutM w.heap.size wr z (W.take i) ∧ Below w.heap.size w wr) (fun _ t _ => A.length - (intOf t).toNat)
  case atStart => exact ⟨0, Nat.zero_le _, rfl, OutM.start w _ _ (Nat.le_refl _) rfl, by ((repeat' (first | with_reducible exact Below.refl _ _ | (with_reducible refine Below.setCell ?_ ?_ _) | (with_reducible refine Below.alloc ?_ ?_ _) | (with_reducible refine Below.drew ?_))); all_goals (first | (simp; done) | omega | (simp; omega)))⟩
  case round =>
    obtain ⟨i, hi', rfl, ho, hbel⟩ := hrel
    have HO := Lib.hid ho
    have HB := Lib.hid hbel
    have hwz := hbel.size
    clear ho
    by_cases hlt : i < A.length
    · obtain ⟨b1, o1, r, k1, ha1, _, hb1, hr1, hrow⟩ := (HM.out.below hbel ht).row hlt
      cases ha1
      obtain ⟨b2, o2, ha2, _, hb2, hc2⟩ := (HV.out.below hbel tv).num (j := i) (by rw [HVL.out]; exact hlt)
      subst ha2
      have hl := HLA.out i hlt
      rw [hl] at hr1
      have HROWd := Lib.hid (hrow.below (bdrew wr) (Nat.le_trans ht hwz))
      have HTD : Hid (tp ≤ wr.drew.heap.size) := Nat.le_trans ht hwz
      have HWI := Lib.hid (HWR.out i hlt)
      have hrow0 := hrow
      obtain ⟨x, hx⟩ : ∃ x, x = v.getD i 0 := ⟨_, rfl⟩
      obtain ⟨z, hz⟩ : ∃ z, z = rw' A i := ⟨_, rfl⟩
      rw [← hx] at hc2 HWI
      rw [← hz] at HROWd HWI hl hrow0
      have HLZ := Lib.hid hl
      obtain ⟨X, hX⟩ : ∃ X, X = z.map (Value.int .i64) := ⟨_, rfl⟩
      have HXX := Lib.hid hX
      obtain ⟨vals, hvo, hvr⟩ := HO.out
      rw [List.length_take, Nat.min_eq_left (by rw [HWL.out]; exact hi')] at hvo hvr
      have HV1 := Lib.hid hvo
      have HVR := Lib.hid hvr
      have hb1w : b < w.heap.size := Nat.lt_of_lt_of_le hb1 ht
      have hb2w : b2 < w.heap.size := Nat.lt_of_lt_of_le hb2 tv
      have hi1 : (i : Int) < (A.length : Int) := by omega
      have hi2 : (i : Int) < (v.length : Int) := by rw [HVL.out]; omega
      have hc0 : 0 < c := c1
      have HROWb := Lib.hid (hrow0.below ((balloc wr (.cells #[.int .i64 x] 2)).drew) (Nat.le_trans ht hwz))
      have HTDb : Hid (tp ≤ (wr.alloc (.cells #[.int .i64 x] 2)).drew.heap.size) := Nat.le_trans (Nat.le_trans ht hwz) (balloc wr (.cells #[.int .i64 x] 2)).size
      have hcb : c ≤ 1048576 := by omega
      clear hx hz hX hvo hvr hrow hrow0 hbel
      go_wp2
      go_region_held3 (fun w' => w'.cell? ⟨b, o + i, none⟩ = some (.slice r c k1) ∧ w'.cell? ⟨b2, o2 + i, none⟩ = some (.int .i64 x)) (first | go_keep | exact SS2.out | exact SS3.out | exact SS4.out) (first | (go_at_call 90; (with_reducible refine (l01Own_n r z c k1 lo tp wr.drew HROWd.out HTD.out HLZ.out hc0 hcb).mono ?_); rintro e w2 ⟨g2, k2, rfl, ho2, hb2d⟩; rw [← HXX.out] at ho2; have hb2' : Below wr.heap.size wr w2 := (bdrew wr).trans hb2d; have HO2 : Hid (w2.ownsRow wr.heap.size 2 1 (.slice (some ⟨g2, 0, none⟩) c k2) c X) := ho2; have HB2 := Lib.hid hb2'; have SS2 := Lib.hid (And.intro ((hb2'.cell (p := ⟨b, o + i, none⟩) (Nat.lt_of_lt_of_le hb1w hwz)).trans hr1) ((hb2'.cell (p := ⟨b2, o2 + i, none⟩) (Nat.lt_of_lt_of_le hb2w hwz)).trans hc2)); have hz2' : wr.heap.size ≤ w2.heap.size := hb2'.size; clear ho2 hb2' hb2d) | (go_at_call 90; (with_reducible refine (l01Own_n r z c k1 lo tp (wr.alloc (.cells #[.int .i64 x] 2)).drew HROWb.out HTDb.out HLZ.out hc0 hcb).mono ?_); rintro e w2 ⟨g2, k2, rfl, ho2, hb2d⟩; rw [← HXX.out] at ho2; have hb2' : Below wr.heap.size wr w2 := ((balloc wr (.cells #[.int .i64 x] 2)).drew).trans (hb2d.mono (balloc wr (.cells #[.int .i64 x] 2)).size); have HO2 : Hid (w2.ownsRow wr.heap.size 2 1 (.slice (some ⟨g2, 0, none⟩) c k2) c X) := ownsRow_base ho2 (balloc wr (.cells #[.int .i64 x] 2)).size; have HB2 := Lib.hid hb2'; have XN := Lib.hid ((hb2d.block wr.heap.size (show wr.heap.size < (wr.alloc (.cells #[.int .i64 x] 2)).heap.size by simp)).trans (heap_alloc_new wr (.cells #[.int .i64 x] 2))); have SS2 := Lib.hid (And.intro ((hb2'.cell (p := ⟨b, o + i, none⟩) (Nat.lt_of_lt_of_le hb1w hwz)).trans hr1) ((hb2'.cell (p := ⟨b2, o2 + i, none⟩) (Nat.lt_of_lt_of_le hb2w hwz)).trans hc2)); have hz2' : wr.heap.size ≤ w2.heap.size := hb2'.size; clear ho2 hb2' hb2d) | go_loud (refine step_append_lies _ (by rfl) _ _ _ (by rfl) wr.heap.size 2 i0 _ 1 8 Try.underlying22 hi hz0 hz1 hz2 rfl (by omega) (.slice (some ⟨g2, 0, none⟩) c k2) c X (by rfl) (HO2.out.alloc _) ⟨w2.heap.size, 0, none⟩ 1 1 [.int .i64 x] (by rfl) (by rfl) (World.news_of_block (cs := #[.int .i64 x]) (t := 2) (fr := (0, 0)) (heap_alloc_new w2 _)) (by simp [Value.oneCell']) (by omega) (by unfold maxLen; omega) (by omega) (by simp; omega) (w2.heap.size + 1) (by simp) ?_; intro g3 cap3 w3 hown3 hgrow3 hat3 hlt3; have HO3 := Lib.hid hown3; have HB3 : Hid (Below wr.heap.size wr w3) := (HB2.out.alloc hz2' _).grown hgrow3 (by simp; omega) (fun _ hk => (HO2.out.lt _ hk).1); have hz3' := HB3.out.size; have SS3 := Lib.hid (And.intro ((HB3.out.cell (p := ⟨b, o + i, none⟩) (Nat.lt_of_lt_of_le hb1w hwz)).trans hr1) ((HB3.out.cell (p := ⟨b2, o2 + i, none⟩) (Nat.lt_of_lt_of_le hb2w hwz)).trans hc2)); have HV3 := Lib.hid (HV1.out.kept (below_grown HB3.out) (by cases hv : Value.ownBlock u8 <;> simp)); clear hown3 hgrow3) | go_loud (refine step_append_lies _ (by rfl) _ _ _ (by rfl) wr.heap.size 2 i0 _ 1 8 Try.underlying22 hi hz0 hz1 hz2 rfl (by omega) (.slice (some ⟨g2, 0, none⟩) c k2) c X (by rfl) HO2.out ⟨wr.heap.size, 0, none⟩ 1 1 [.int .i64 x] (by rfl) (by rfl) (World.news_of_block (cs := #[.int .i64 x]) (t := 2) (fr := (0, 0)) XN.out) (by simp [Value.oneCell']) (by omega) (by unfold maxLen; omega) (by omega) (by omega) w2.heap.size (by omega) ?_; intro g3 cap3 w3 hown3 hgrow3 hat3 hlt3; have HO3 := Lib.hid hown3; have HB3 : Hid (Below wr.heap.size wr w3) := HB2.out.grown hgrow3 hz2' (fun _ hk => (HO2.out.lt _ hk).1); have hz3' := HB3.out.size; have SS3 := Lib.hid (And.intro ((HB3.out.cell (p := ⟨b, o + i, none⟩) (Nat.lt_of_lt_of_le hb1w hwz)).trans hr1) ((HB3.out.cell (p := ⟨b2, o2 + i, none⟩) (Nat.lt_of_lt_of_le hb2w hwz)).trans hc2)); have HV3 := Lib.hid (HV1.out.kept (below_grown HB3.out) (by cases hv : Value.ownBlock u8 <;> simp)); clear hown3 hgrow3) | go_loud (refine step_append_lies _ (by rfl) _ _ _ (by rfl) w.heap.size 22 j0 _ 1 24 Try.underlying63 kj kz0 kz1 kz2 rfl (by omega) u8 i vals (by rfl) (HV3.out.alloc _) ⟨w3.heap.size, 0, none⟩ 1 1 [.slice (some ⟨g3, 0, none⟩) (c + 1) cap3] (by rfl) (by rfl) (World.news_of_block (cs := #[.slice (some ⟨g3, 0, none⟩) (c + 1) cap3]) (t := 22) (fr := (0, 0)) (heap_alloc_new w3 _)) (by simp [Value.oneCell']) (by omega) (by unfold maxLen; omega) (by omega) (by simp; omega) (w3.heap.size + 1) (by simp) ?_; intro g4 cap4 w4 hown4 hgrow4 hat4 hlt4; have HO4 := Lib.hid hown4; have HG4 := Lib.hid hgrow4; have HB4 : Hid (Below w.heap.size wr w4) := ((HB3.out.mono hwz).alloc (Nat.le_trans hwz hz3') _).grown hgrow4 (by simp; omega) (fun _ hk => (HV1.out.lt _ hk).1); have SS4 := Lib.hid (And.intro ((HB4.out.cell (p := ⟨b, o + i, none⟩) hb1w).trans hr1) ((HB4.out.cell (p := ⟨b2, o2 + i, none⟩) hb2w).trans hc2)); clear hown4 hgrow4))
      all_goals
        go_wp2
        go_roundw
        case rel =>
          have ho3 : OutR wr.heap.size w3 (.slice (some ⟨g3, 0, none⟩) (c + 1) cap3) (rw' W i) := by
            unfold OutR
            rw [HWI.out, List.length_append, HLZ.out, List.map_append, ← HXX.out]
            exact HO3.out
          obtain ⟨a3, c3, e3, ht3⟩ := ho3.tag
          injection e3 with e31 e32 e33
          subst e31
          have hlt2 : i < W.length := by rw [HWL.out]; exact hlt
          exact ⟨i + 1, by omega, by go_num, by rw [take_snoc' hlt2]; exact OutM.pushW (by rw [List.length_take]; omega) (by rw [HWI.out, List.length_append, HLZ.out]; rfl) HV1.out HVR.out ht3 hwz HB3.out HO4.out HG4.out, HB.out.trans HB4.out⟩
        case measure => simp [intOf]; omega
    · have hn : i = A.length := by omega
      subst hn
      have h8 := HO.out
      rw [List.take_of_length_le (by rw [HWL.out]; exact Nat.le_refl _)] at h8
      obtain ⟨a8, c8, e8, hm8⟩ := h8.mat
      subst e8
      have HM8 := Lib.hid hm8
      have hq := (hbel.cell (p := ⟨b, o, none⟩) hb').trans hr0
      have hmk := fun W => run_make_row' (P := Try.prog) 22 2 (.int .i64 0) 8 Try.underlying22 info64 rfl .i64 .i64 c (by omega) (by omega) W
      have hbw : b < wr.heap.size := Nat.lt_of_lt_of_le hb' hwz
      clear h8 hm8 hbel
      go_wp2_with (go_at_call 162; (with_reducible refine (basisX p a8 W c8 w.heap.size wr.heap.size (c + 1) wr HM8.out (Nat.le_refl _) HX.out).mono ?_); rintro e w5 ⟨r5, k5, rfl, ho5, hb5, hi5⟩; rw [← HBE.out, ← HN.out]; rw [← HBE.out, HX.out.len0] at hi5; rw [← HBE.out] at ho5; have HIB := Lib.hid hi5; have HO5 := Lib.hid ho5; have HB5 := Lib.hid hb5; have hq5 := (hb5.cell (p := ⟨b, o, none⟩) hbw).trans hq; have zw5 := hb5.size; clear ho5 hb5 hi5)
      have hRR : Rref p n (c + 1) (at' B) P := by rw [HPE.out, HN.out]; exact HIB.out.pivs
      have HRR := Lib.hid hRR
      have hnc : n ≤ c + 1 := hRR.rows_le
      have HLB : Hid (∀ i, i < n → (rw' B i).length = c + 1) := fun i hi => HIB.out.len i (by rw [← HN.out]; exact hi)
      have HW5 : Hid (Below w.heap.size w w5) := HB.out.trans (HB5.out.mono hwz)
      clear hRR hmk hq hq5
      rename World => w5'
      go_loopw [12] (fun t wr => ∃ j : Nat, j ≤ n ∧ t = .int .i64 j ∧ (∀ i', i' < j → P i' ≠ c) ∧ TagR w5'.heap.size wr.heap.size wr (some ⟨w5'.heap.size, 0, none⟩) (solvec B P c j) ∧ Below w5'.heap.size w5' wr) (fun t _ => n - (intOf t).toNat)
      case atStart => exact ⟨0, Nat.zero_le _, rfl, fun i' h => absurd h (Nat.not_lt_zero _), by rw [solvec_zero]; exact made_tag w5' c _ rfl, balloc w5' _⟩
      case round =>
        obtain ⟨j, hj, rfl, hne, htv, hbv⟩ := hrel
        have HNE := Lib.hid hne
        have HTV := Lib.hid htv
        have HBV := Lib.hid hbv
        have hwv := hbv.size
        clear hne htv hbv
        by_cases hltj : j < n
        · have hj1 : (j : Int) < (n : Int) := by omega
          obtain ⟨bq, oq, rq, cq, haq, _, _, hrq, hrowq⟩ := (HO5.out.below HBV.out (Nat.le_refl _)).row (show j < B.length by rw [← HN.out]; exact hltj)
          subst haq
          have hcl := HLB.out j hltj
          rw [hcl] at hrq
          have HROWQ := Lib.hid hrowq
          have hpf := HPF.out j hltj
          have hpc := HRR.out.pv j hltj
          by_cases hpe : P j = c
          · have HF : Hid (solOk p A v = false) := by
              show _ = _
              rw [HOK.out, isPv_iff.2 ⟨j, hltj, hpe⟩]; rfl
            have HL0 : Hid (solL p A v = []) := by show _ = _; rw [HSL.out, if_neg (by rw [HF.out]; decide)]
            have e1 : ((P j : Int) == (c : Int)) = true := by rw [hpe]; simp
            have HPE2 := Lib.hid hpe
            clear hrowq hpe
            go_wp2_with (go_at_call 129; (with_reducible refine (l02First_any rq (rw' B j) (c + 1) (P j) cq _ _ _ HROWQ.out hcl (by omega) hpf hpc).mono ?_); rintro e w' ⟨rfl, rfl⟩)
            go_ret2
            exact ⟨none, 0, by rw [HF.out, HL0.out]; rfl, by rw [HL0.out]; exact .inl rfl, HW5.out.trans (HBV.out.mono (Nat.le_trans hwz zw5))⟩
          · have e1 : ((P j : Int) == (c : Int)) = false := by simp; omega
            have hpl : P j < c := by omega
            have hpl1 : (P j : Int) < (c : Int) := by omega
            obtain ⟨bx, ox, hax, _, _, hcx0⟩ := hrowq.num (j := c) (by omega)
            subst hax
            obtain ⟨x, hx⟩ : ∃ x, x = at' B j c := ⟨_, rfl⟩
            have hcx : wr.cell? ⟨bx, ox + c, none⟩ = some (.int .i64 x) := by rw [hx]; exact hcx0
            have HST : Hid ((solvec B P c j).set (P j) x = solvec B P c (j + 1)) := by show _ = _; rw [hx]; exact solvec_next HRR.out hltj
            obtain ⟨bv, ov, hav, _, _, hcv⟩ := HTV.out.row.num (j := P j) (by rw [solvec_len]; exact hpl)
            cases hav
            rw [Nat.zero_add] at hcv
            obtain ⟨y, hy⟩ : ∃ y, y = (solvec B P c j).getD (P j) 0 := ⟨_, rfl⟩
            rw [← hy] at hcv
            have hfv : wr.frozen? ⟨w5'.heap.size, P j, none⟩ = false := by
              rcases HTV.out with h | ⟨b', o', cur, e, _, _, ht, _⟩
              · have := solvec_len B P c j; rw [h] at this; simp at this; omega
              · cases e; exact free_of ht _
            have HPN := Lib.hid hpe
            clear hx hy hcx0 hrowq hpe
            go_wp2_with (go_at_call 129; (with_reducible refine (l02First_any _ (rw' B j) (c + 1) (P j) cq _ _ _ HROWQ.out hcl (by omega) hpf hpc).mono ?_); rintro e w' ⟨rfl, rfl⟩)
            go_roundw
            case rel =>
              refine ⟨j + 1, by omega, by go_num, fun i' h => ?_, ?_, Below.setCell HBV.out (Nat.le_refl w5'.heap.size) _⟩
              · by_cases e : i' = j
                · subst e; exact HPN.out
                · exact HNE.out i' (by omega)
              · have h := HTV.out.set (j := P j) (by rw [solvec_len]; exact hpl) x
                rw [HST.out, Nat.zero_add] at h
                exact h.block (Nat.le_refl _) (by simp [World.setCell]) (fun _ _ _ _ _ => rfl)
            case measure => simp [intOf]; omega
        · have hjn : j = n := by omega
          subst hjn
          have HF : Hid (solOk p A v = true) := by
            show _ = _
            rw [HOK.out]
            cases hpv : isPv P j c with
            | false => rfl
            | true => obtain ⟨i', h1, h2⟩ := isPv_iff.1 hpv; exact absurd h2 (HNE.out i' h1)
          have HL0 : Hid (solL p A v = solvec B P c j) := by show _ = _; rw [HSL.out, if_pos HF.out]
          go_wp2
          go_ret2
          exact ⟨some ⟨w5'.heap.size, 0, none⟩, c, by rw [HF.out, HL0.out, solvec_len]; rfl, by rw [HL0.out]; exact HTV.out.row.mono (Nat.le_trans hwz zw5) (Nat.le_refl _), HW5.out.trans (HBV.out.mono (Nat.le_trans hwz zw5))⟩

end Go.Proofs.Ytdamdlihicinlaa

namespace Go.Proofs.Ytdamdlihicinlaa
open Go.RowKit Go.ChangeShapes Go.WideShapes
set_option linter.unusedVariables false

def NewR0 (w : World) (e : Ending) (w' : World) : Prop := ∃ v, e = .returned v ∧ OutR w.heap.size w' v [] ∧ Below w.heap.size w w'
set_option maxRecDepth 100000 in
set_option maxHeartbeats 1600000 in
theorem growNil (n : Nat) (w : World) (h0 : 0 < n) (hn : n ≤ 100000) :
    Calls Try.prog 187 #[.slice none 0 0, .int .i64 n] w (NewR0 w) := by
  obtain ⟨i0, hi, hz0, hz1, hz2⟩ := info_parts info64
  have h1 : ¬ ((n : Int) < 0) := by omega
  have h4 : (0 : Int) < (n : Int) := by omega
  have hold : (Builtin.firstCells i0.size 0 (.slice none 0 0)).run Try.prog w.drew = .ok (([] : List Value).toArray) w.drew := run_firstCells_none w.drew i0.size 0 0 0
  have hrz : ∀ ty, (Builtin.append_ #[22, 3] ty #[.slice none 0 0, .int .i64 (n : Int)]).run Try.prog w =
      .ok (.slice (some ⟨w.heap.size, 0, none⟩) n (grownCap w n 0 2)) (w.drew.alloc (.cells (([] : List Value).toArray ++ Builtin.zeroCells (Value.int .i64 0).cells n ++ Builtin.zeroCells (Value.int .i64 0).cells (grownCap w n 0 2 - n)) 2)) := fun ty => by
    have h := Lib.run_append_grow_zeros w 22 3 ty 2 i0 (.int .i64 0) .i64 .i64 Try.underlying22 Try.underlying3 hi hz0 none 0 0 [] hold n h0 (by omega) (by omega) (by omega) (by rw [hz2]; omega) (by rw [hz2]; exact growslice_fits (by omega) (by omega))
    simpa using h
  have hGn : n ≤ grownCap w n 0 2 := grownCap_ge w _ _ _
  have hGm : grownCap w n 0 2 ≤ maxLen := grownCap_le_maxLen w n 0 2 (by unfold maxLen; omega)
  obtain ⟨G, hG⟩ : ∃ G, G = grownCap w n 0 2 := ⟨_, rfl⟩
  rw [← hG] at hrz hGn hGm
  have hGm2 := hGm
  unfold maxLen at hGm2
  obtain ⟨cs, hcs⟩ : ∃ cs, cs = (([] : List Value).toArray ++ Builtin.zeroCells (Value.int .i64 0).cells n ++ Builtin.zeroCells (Value.int .i64 0).cells (G - n)) := ⟨_, rfl⟩
  have hsz : cs.size = G * 1 := by
    rw [hcs]
    simp [Builtin.zeroCells, Value.cells]
    omega
  rw [← hcs] at hrz
  have HM := Lib.hid (World.ownsRow_made (base := w.heap.size) (e := 2) (size := 1) w.drew cs G (Nat.le_refl _) hGm hsz)
  clear hold hG hcs hsz
  go_enter Try.func187, Try.ntmps187
  go_wp2_with (at_builtin; refine Lib.wpList_append_run _ rfl _ _ _ _ rfl _ _ rfl rfl _ _ (hrz _) ?_)
  all_goals
    go_ret
    exact ⟨_, rfl, HM.out, (Below.refl w.heap.size w).drew.alloc (Nat.le_refl w.heap.size) _⟩

/-- The first i rows, one behind the other. -/
def catN (m : List (List Int)) : Nat → List Int
  | 0 => []
  | i + 1 => catN m i ++ rw' m i
theorem catN_len (m : List (List Int)) (i : Nat) : (catN m i).length = tot m i := by
  induction i with
  | zero => rfl
  | succ i ih => simp only [catN, tot, List.length_append]; rw [ih]
theorem news0 {w : World} {b o : Nat} {zs : List Int} (hc : ∀ j, j < zs.length → w.cell? ⟨b, o + j, none⟩ = some (.int .i64 (zs.getD j 0))) :
    ∀ j u, (zs.map (Value.int .i64))[j]? = some u → w.cell? ((⟨b, o, none⟩ : Addr).add j) = some u := by
  intro j u hj
  have hlt : j < zs.length := by
    have := (List.getElem?_eq_some_iff.1 hj).1
    simpa using this
  rw [Addr.add_lit]
  have e : (zs.map (Value.int .i64))[j]? = some (.int .i64 (zs.getD j 0)) := by simp [hlt, List.getD]
  rw [e] at hj
  rw [hc j hlt]
  exact hj

set_option maxRecDepth 100000 in
set_option maxHeartbeats 3200000 in
theorem concat_any (a : Option Addr) (m : List (List Int)) (ca lo tp : Nat) (w : World) (hm : MatIn lo tp w a m) (ht : tp ≤ w.heap.size) (h0 : 0 < m.length) (hn : m.length ≤ 64) (hr : ∀ i, i < m.length → 0 < (rw' m i).length ∧ (rw' m i).length ≤ 1024) (hT : tot m m.length ≤ 100000) :
    Calls Try.prog 164 #[.slice a m.length ca] w (NewR (catN m m.length) w) := by
  obtain ⟨i0, hi, hz0, hz1, hz2⟩ := info_parts info64
  have HM := Lib.hid hm
  have HR := Lib.hid hr
  have hT0 : 0 < tot m m.length := Nat.lt_of_lt_of_le (hr 0 h0).1 (tot_row h0)
  obtain ⟨T, hTT⟩ : ∃ T, T = tot m m.length := ⟨_, rfl⟩
  rw [← hTT] at hT hT0
  have HT := Lib.hid hTT
  clear hm hr hTT
  go_enter Try.func164, Try.ntmps164
  go_wp2
  go_loop [3, 11] (fun v t => ∃ i : Nat, i ≤ m.length ∧ t = .int .i64 i ∧ v = .int .i64 (tot m i : Nat)) (fun _ t => m.length - (intOf t).toNat)
  case atStart => exact ⟨0, Nat.zero_le _, rfl, rfl⟩
  case round =>
    obtain ⟨i, hi', rfl, rfl⟩ := hrel
    by_cases hlt : i < m.length
    · obtain ⟨b, o, r, c, ha, _, _, hrr, _⟩ := HM.out.row hlt
      subst ha
      have h1 : tot m i + (rw' m i).length ≤ T := by rw [HT.out]; exact tot_mono (m := m) (i := i + 1) (by omega)
      have hi1 : (i : Int) < (m.length : Int) := by omega
      have HS : Hid (tot m i + (rw' m i).length = tot m (i + 1)) := rfl
      obtain ⟨t, htt⟩ : ∃ t, t = tot m i := ⟨_, rfl⟩
      rw [← htt] at h1 HS
      rw [← htt]
      have e1 : IntKind.i64.wrap ((t : Int) + ((rw' m i).length : Int)) = ((t + (rw' m i).length : Nat) : Int) := by rw [IntWalk.i64_in _ (by omega)]; omega
      have e2 : ¬ ((t + (rw' m i).length : Nat) : Int) < 0 := by omega
      clear htt
      go_wp2
      go_round
      case rel => exact ⟨i + 1, by omega, by go_num, by rw [← HS.out]; first | rfl | go_num⟩
      case measure => simp [intOf]; omega
    · have hin : i = m.length := by omega
      subst hin
      rw [← HT.out]
      go_wp2_with (go_at_call 187; (with_reducible refine (growNil T _ hT0 hT).mono ?_); rintro e w2 ⟨v2, rfl, ho2, hb2⟩; have HO2 := Lib.hid ho2; have HB2 := Lib.hid hb2; clear ho2 hb2)
      go_loopw [6, 27] (fun v t wr => ∃ i : Nat, i ≤ m.length ∧ t = .int .i64 i ∧ OutR w.heap.size wr v (catN m i) ∧ Below w.heap.size w wr) (fun _ t _ => m.length - (intOf t).toNat)
      case atStart => exact ⟨0, Nat.zero_le _, rfl, HO2.out, HB2.out⟩
      case round =>
        obtain ⟨i, hi', rfl, ho, hbel⟩ := hrel
        have HO := Lib.hid ho
        have HB := Lib.hid hbel
        have hwz := hbel.size
        clear ho
        by_cases hlt : i < m.length
        · obtain ⟨b, o, r, c, ha, _, hb, hrr, hrow⟩ := (HM.out.below hbel ht).row hlt
          subst ha
          have hl := HR.out i hlt
          obtain ⟨l0, l1⟩ := hl
          have h1 : tot m i + (rw' m i).length ≤ T := by rw [HT.out]; exact tot_mono (m := m) (i := i + 1) (by omega)
          obtain ⟨bz, oz, har, _, hbz, hcz⟩ : ∃ bz oz, r = some ⟨bz, oz, none⟩ ∧ lo ≤ bz ∧ bz < tp ∧ ∀ j, j < (rw' m i).length → wr.cell? ⟨bz, oz + j, none⟩ = some (.int .i64 ((rw' m i).getD j 0)) := by
            rcases hrow with h | ⟨bz, oz, e, q0, q1, q2⟩
            · rw [h] at l0; simp at l0
            · exact ⟨bz, oz, e, q0, q1, q2⟩
          subst har
          have HN := Lib.hid (news0 hcz)
          have hcl := catN_len m i
          obtain ⟨z, hz⟩ : ∃ z, z = rw' m i := ⟨_, rfl⟩
          obtain ⟨y, hy⟩ : ∃ y, y = catN m i := ⟨_, rfl⟩
          have HSS : Hid (catN m (i + 1) = y ++ z) := by show _ = _; rw [hy, hz]; rfl
          obtain ⟨X, hX⟩ : ∃ X, X = y.map (Value.int .i64) := ⟨_, rfl⟩
          obtain ⟨n, hnn⟩ : ∃ n, n = y.length := ⟨_, rfl⟩
          have hnT : n + z.length ≤ T := by rw [hnn, hy, hcl, hz]; exact h1
          have HO2 : Hid (wr.ownsRow w.heap.size 2 1 u6 n X) := by
            have := HO.out; unfold OutR at this; rw [← hy, ← hX, ← hnn] at this; exact this
          rw [← hz] at HN l0 l1 hrr
          have HX := Lib.hid hX
          have HNN := Lib.hid hnn
          have hi1 : (i : Int) < (m.length : Int) := by omega
          clear hcl hz hy hX hnn hcz hrow hbel
          go_wp2_with (at_builtin; refine wpList_append_lies _ rfl _ _ 22 rfl w.heap.size 2 i0 (.int .i64 0) 1 8 Try.underlying22 hi hz0 hz1 hz2 rfl (by decide) u6 n X rfl HO2.out ⟨bz, oz, none⟩ z.length c (z.map (Value.int .i64)) rfl (by simp) HN.out (ones_of z) l0 (by unfold maxLen; omega) (by omega) (by omega) (wr.heap.size) (by omega) ?_; intro gg cap w1 hown1 hgrow hat hlt1)
          go_wp2
          go_roundw
          case rel =>
            exact ⟨i + 1, by omega, by go_num, by unfold OutR; rw [HSS.out, List.length_append, List.map_append, ← HX.out, ← HNN.out]; exact hown1, HB.out.grown hgrow hwz (fun _ hk => (HO2.out.lt _ hk).1)⟩
          case measure => simp [intOf]; omega
        · have hin : i = m.length := by omega
          subst hin
          clear hbel
          go_wp2
          go_ret
          exact HO.out.new HB.out

end Go.Proofs.Ytdamdlihicinlaa

namespace Go.Proofs.Ytdamdlihicinlaa
open Go.RowKit Go.ChangeShapes Go.WideShapes
set_option linter.unusedVariables false

theorem matTwo {W : World} {lo tp lo' tp' cv cu b : Nat} {a a' : Option Addr} {v u : List Int} (hb' : b = W.heap.size) (hv : RowIn lo tp W a v) (tv : tp ≤ W.heap.size) (hu : RowIn lo' tp' W a' u) (tu : tp' ≤ W.heap.size) (T : TypeId) :
    MatIn 0 (W.alloc (.cells #[.slice a v.length cv, .slice a' u.length cu] T)).heap.size (W.alloc (.cells #[.slice a v.length cv, .slice a' u.length cu] T)) (some ⟨b, 0, none⟩) [v, u] := by
  subst hb'
  refine .inr ⟨W.heap.size, 0, rfl, Nat.zero_le _, by simp, fun i hi => ?_⟩
  have hb := balloc W (.cells #[.slice a v.length cv, .slice a' u.length cu] T)
  match i, hi with
  | 0, _ => exact ⟨a, cv, by simp [go_sem, rw'], (hv.below hb tv).mono (Nat.zero_le _) (Nat.le_trans tv hb.size)⟩
  | 1, _ => exact ⟨a', cu, by simp [go_sem, rw'], (hu.below hb tu).mono (Nat.zero_le _) (Nat.le_trans tu hb.size)⟩
theorem cat_two (v u : List Int) : catN [v, u] 2 = v ++ u := by simp [catN, rw']
theorem tot_two' (v u : List Int) : tot [v, u] 2 = v.length + u.length := by simp [tot, rw']
def NewRL (n : Nat) (z : List Int) (w : World) (e : Ending) (w' : World) : Prop := ∃ r k, e = .returned (.slice r n k) ∧ TagR w.heap.size w'.heap.size w' r z ∧ Below w.heap.size w w'
theorem concat_two (av au : Option Addr) (v u : List Int) (nv nu cv cu lov tpv lou tpu b cap : Nat) (W : World) (T : TypeId) (hb : b = W.heap.size) (hnv : v.length = nv) (hnu : u.length = nu)
    (hv : RowIn lov tpv W av v) (tv : tpv ≤ W.heap.size) (hu : RowIn lou tpu W au u) (tu : tpu ≤ W.heap.size) (v0 : 0 < nv) (v1 : nv ≤ 1024) (u0 : 0 < nu) (u1 : nu ≤ 1024) :
    Calls Try.prog 164 #[.slice (some ⟨b, 0, none⟩) 2 cap] (W.alloc (.cells #[.slice av nv cv, .slice au nu cu] T)) (NewRL (nv + nu) (v ++ u) (W.alloc (.cells #[.slice av nv cv, .slice au nu cu] T))) := by
  subst hnv hnu
  have h := concat_any (some ⟨b, 0, none⟩) [v, u] cap 0 _ _ (matTwo (cv := cv) (cu := cu) hb hv tv hu tu T) (Nat.le_refl _) (by show 0 < 2; omega) (by show 2 ≤ 64; omega) (fun i hi => by
    match i, hi with
    | 0, _ => exact ⟨v0, v1⟩
    | 1, _ => exact ⟨u0, u1⟩) (by show tot [v, u] 2 ≤ 100000; rw [tot_two']; omega)
  refine h.mono ?_
  rintro e w' ⟨r, k, rfl, ht, hb'⟩
  have e2 : catN [v, u] [v, u].length = v ++ u := cat_two v u
  rw [e2] at ht
  exact ⟨r, k, by rw [e2, List.length_append], ht, hb'⟩

/-- A list of lists that is being filled. -/
structure RdM (w : World) (b i n : Nat) (Z : Nat → List Int) : Prop where
  lt : b < w.heap.size
  done : ∀ j, j < i → ∃ r c, w.cell? ⟨b, j, none⟩ = some (.slice r (Z j).length c) ∧ RowIn (b + 1) w.heap.size w r (Z j)
  rest : ∀ j, i ≤ j → j < n → w.cell? ⟨b, j, none⟩ = some (.slice none 0 0)
  free : ∀ j, w.frozen? ⟨b, j, none⟩ = false
theorem RdM.start (w : World) (n : Nat) (t : TypeId) (Z : Nat → List Int) : RdM (w.alloc (.cells (madeCells #[.slice none 0 0] n) t)) w.heap.size 0 n Z where
  lt := by simp
  done j hj := by omega
  rest j _ hj := made_cell w _ n t hj
  free j := by simp [go_sem]
theorem RdM.next {w w1 : World} {b i n : Nat} {Z : Nat → List Int} {r : Option Addr} {c : Nat} (h : RdM w b i n Z) (hi : i < n) (hb : Below w.heap.size w w1) (hr : RowIn w.heap.size w1.heap.size w1 r (Z i)) :
    RdM (w1.setCell ⟨b, i, none⟩ (.slice r (Z i).length c)) b (i + 1) n Z := by
  have hlt := h.lt
  have hsz : (w1.setCell ⟨b, i, none⟩ (.slice r (Z i).length c)).heap.size = w1.heap.size := by simp [World.setCell]
  have hz := hb.size
  have keep : ∀ lo z r', b < lo → RowIn lo w1.heap.size w1 r' z → RowIn lo w1.heap.size (w1.setCell ⟨b, i, none⟩ (.slice r (Z i).length c)) r' z := fun lo z r' hlo hr' => by
    rcases hr' with h0 | ⟨b', o', e, g0, g1, g2⟩
    · exact .inl h0
    · exact .inr ⟨b', o', e, g0, g1, fun j hj => (World.cell?_setCell_other _ _ _ _ (fun e2 => by injection e2 with e3; omega)).trans (g2 j hj)⟩
  refine ⟨by rw [hsz]; omega, fun j hj => ?_, fun j h1 h2 => ?_, fun j => ?_⟩
  · rw [hsz]
    by_cases e : j = i
    · subst e
      exact ⟨r, c, World.cell?_setCell_same w1 _ _ ((hb.cell (p := ⟨b, j, none⟩) hlt).trans (h.rest j (Nat.le_refl _) hi)), keep (b + 1) (Z j) r (Nat.lt_succ_self b) (hr.mono hlt (Nat.le_refl _))⟩
    · obtain ⟨r', c', g1, g2⟩ := h.done j (by omega)
      exact ⟨r', c', (World.cell?_setCell_other _ _ _ _ (fun e2 => e (by injection e2 with _ e3; exact e3.symm))).trans ((hb.cell (p := ⟨b, j, none⟩) hlt).trans g1), keep (b + 1) (Z j) r' (Nat.lt_succ_self b) ((g2.below hb (Nat.le_refl _)).mono (Nat.le_refl _) hz)⟩
  · exact (World.cell?_setCell_other _ _ _ _ (fun e2 => by injection e2 with _ e3; omega)).trans ((hb.cell (p := ⟨b, j, none⟩) hlt).trans (h.rest j (by omega) h2))
  · have := (hb.frozen (p := ⟨b, j, none⟩) hlt).trans (h.free j)
    simpa [go_sem] using this
theorem RdM.mat {w : World} {b n : Nat} {m : List (List Int)} (h : RdM w b n n (rw' m)) (hn : m.length = n) : MatIn b w.heap.size w (some ⟨b, 0, none⟩) m :=
  .inr ⟨b, 0, rfl, Nat.le_refl _, h.lt, fun i hi => by
    obtain ⟨r, c, g1, g2⟩ := h.done i (by omega)
    exact ⟨r, c, by rw [Nat.zero_add]; exact g1, g2.mono (Nat.le_succ b) (Nat.le_refl _)⟩⟩

def NewMN (n : Nat) (m : List (List Int)) (w : World) (e : Ending) (w' : World) : Prop := ∃ r k, e = .returned (.slice r n k) ∧ MatIn w.heap.size w'.heap.size w' r m ∧ Below w.heap.size w w'
set_option maxRecDepth 100000 in
set_option maxHeartbeats 3200000 in
theorem besideEach_any (a a' : Option Addr) (A O : List (List Int)) (ca ca' lo tp lo' tp' c d no : Nat) (w : World) (hm : MatIn lo tp w a A) (ht : tp ≤ w.heap.size) (hm' : MatIn lo' tp' w a' O) (ht' : tp' ≤ w.heap.size) (hno : no = O.length) (hn : A.length ≤ O.length) (h1 : O.length ≤ 1024)
    (hc : ∀ i, i < A.length → (rw' A i).length = c) (hd : ∀ i, i < A.length → (rw' O i).length = d) (c0 : 0 < c) (c1 : c ≤ 1024) (d0 : 0 < d) (d1 : d ≤ 1024) :
    Calls Try.prog 121 #[.slice a A.length ca, .slice a' no ca'] w (NewMN A.length (bes A O) w) := by
  have HM := Lib.hid hm
  have HM' := Lib.hid hm'
  have HC := Lib.hid hc
  have HD := Lib.hid hd
  have HNO := Lib.hid hno
  have hno1 : O.length ≤ no ∧ no ≤ O.length := by omega
  have hmk := fun W => run_make_row' (P := Try.prog) 63 22 (.slice none 0 0) 24 Try.underlying63 info_slice rfl .i64 .i64 A.length (by omega) (by omega) W
  obtain ⟨n, hnn⟩ : ∃ n, n = A.length := ⟨_, rfl⟩
  have HN := Lib.hid hnn
  have HBR : Hid (∀ i, i < n → rw' (bes A O) i = rw' A i ++ rw' O i) := fun i h => bes_row (by omega)
  rw [← hnn] at hmk hn
  rw [← hnn]
  have hnA : n ≤ A.length ∧ A.length ≤ n := by omega
  clear hm hm' hc hd hno hnn
  go_enter Try.func121, Try.ntmps121
  go_wp2
  go_loopw [13] (fun t wr => ∃ i : Nat, i ≤ n ∧ t = .int .i64 i ∧ RdM wr w.heap.size i n (rw' (bes A O)) ∧ Below w.heap.size w wr) (fun t _ => n - (intOf t).toNat)
  case atStart => exact ⟨0, Nat.zero_le _, rfl, RdM.start w n _ _, balloc w _⟩
  case round =>
    obtain ⟨i, hi, rfl, hrd, hbel⟩ := hrel
    have HRD := Lib.hid hrd
    have HB := Lib.hid hbel
    have hwz := hbel.size
    by_cases hlt : i < n
    · obtain ⟨b1, o1, r1, k1, ha1, _, hb1, hr1, hrow1⟩ := (HM.out.below hbel ht).row (show i < A.length by omega)
      subst ha1
      obtain ⟨b2, o2, r2, k2, ha2, _, hb2, hr2, hrow2⟩ := (HM'.out.below hbel ht').row (show i < O.length by omega)
      subst ha2
      have hl1 := HC.out i (by omega)
      have hl2 := HD.out i (by omega)
      rw [hl1] at hr1
      rw [hl2] at hr2
      have HR1 := Lib.hid hrow1
      have HR2 := Lib.hid hrow2
      have HT1 : Hid (tp ≤ wr.heap.size) := Nat.le_trans ht hwz
      have HT2 : Hid (tp' ≤ wr.heap.size) := Nat.le_trans ht' hwz
      have g0 := hrd.rest i (Nat.le_refl _) hlt
      have f0 := hrd.free i
      have hlw := hrd.lt
      have hi1 : (i : Int) < (n : Int) := by omega
      have hi2 : (i : Int) < (no : Int) := by omega
      have HL1 := Lib.hid hl1
      have HL2 := Lib.hid hl2
      clear hrow1 hrow2 hbel hrd hl1 hl2
      go_wp2_with (go_at_call 164; (with_reducible refine (concat_two r1 r2 (rw' A i) (rw' O i) c d k1 k2 lo tp lo' tp' wr.heap.size _ wr _ rfl HL1.out HL2.out HR1.out HT1.out HR2.out HT2.out c0 c1 d0 d1).mono ?_); rintro e w2 ⟨r3, k3, rfl, ho3, hb3⟩; have HO3 := Lib.hid ho3; have HB3 := Lib.hid (below_step (balloc wr _) (balloc wr _).size hb3); have HZ3 := Lib.hid (balloc wr (.cells #[.slice r1 c k1, .slice r2 d k2] 22)).size; have g3 := (HB3.out.cell (p := ⟨w.heap.size, i, none⟩) hlw).trans g0; have f3 := (HB3.out.frozen (p := ⟨w.heap.size, i, none⟩) hlw).trans f0; clear ho3 hb3)
      go_roundw
      case rel =>
        have hl : (rw' (bes A O) i).length = c + d := by rw [HBR.out i hlt, List.length_append, HL1.out, HL2.out]
        refine ⟨i + 1, by omega, by go_num, ?_, (HB.out.trans (HB3.out.mono hwz)).setCell (Nat.le_refl w.heap.size) _⟩
        have h := HRD.out.next (c := k3) (r := r3) hlt HB3.out (by rw [HBR.out i hlt]; exact HO3.out.row.mono HZ3.out (Nat.le_refl _))
        rw [hl] at h
        exact h
      case measure => simp [intOf]; omega
    · have hin : i = n := by omega
      subst hin
      clear hbel hrd
      go_wp2
      go_ret
      exact ⟨_, i, rfl, HRD.out.mat (by rw [bes_len]; exact HN.out.symm), HB.out⟩

end Go.Proofs.Ytdamdlihicinlaa
