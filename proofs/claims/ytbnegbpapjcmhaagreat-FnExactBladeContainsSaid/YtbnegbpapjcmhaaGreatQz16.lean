/-
  The program's insertion in the middle of a full list: contracts.
  Conditions: the list is one's own, the value lies in a list of one cell.
  A matrix that is filled row by row, each row in blocks of its own.
  No conditions.
  The program's echelon in memory: a block with the lists of rows and of pivots and the determinant; each row in a block of its own. What calls and stores do to it.
  No conditions.
-/
import Derived.Test.YtbnegbpapjcmhaaGreatQz15
import Derived.Test.YtbnegbpapjcmhaaGreatQz13
import Derived.Shelf.Spec.SlicesInsertGrow
import Derived.Test.YtbnegbpapjcmhaaGreatQz5
namespace Go.Proofs.YtbnegbpapjcmhaaGreat
open Go.RowKit Go.ChangeShapes Go.WideShapes
set_option linter.unusedVariables false
theorem grow_list {C V : List Value} {x : Value} {i n : Nat} (h : C.take i = V.take i) (hi : i < n) (hV : V.length = n) (hC : n + 1 ≤ C.length) :
    (((C.take i ++ [x] ++ C.drop (i + ([x] : List Value).length)).toArray.toList.take (i + 1)) ++ V.drop i ++ (C.take i ++ [x] ++ C.drop (i + ([x] : List Value).length)).toArray.toList.drop (i + 1 + (V.drop i).length)).toArray.toList.take (n + 1) = V.take i ++ x :: V.drop i := by
  show (List.take (i + 1) (C.take i ++ [x] ++ C.drop (i + 1)) ++ V.drop i ++ List.drop (i + 1 + (V.drop i).length) (C.take i ++ [x] ++ C.drop (i + 1))).take (n + 1) = _
  have hl : (C.take i ++ [x]).length = i + 1 := by simp; omega
  have t1 : List.take (i + 1) (C.take i ++ [x] ++ C.drop (i + 1)) = C.take i ++ [x] := List.take_left' hl
  have hl2 : (C.take i ++ [x] ++ V.drop i).length = n + 1 := by rw [List.length_append, hl, List.length_drop]; omega
  rw [t1, List.take_left' hl2, h]
  simp

set_option maxRecDepth 100000 in
set_option maxHeartbeats 1600000 in
theorem insertM_grow (B n g i b1 c1 : Nat) (x : Value) (vals : List Value) (w : World) (ho : w.ownsRow B 22 1 (.slice (some ⟨g, 0, none⟩) n n) n vals) (hBw : B ≤ w.heap.size) (hi : i < n) (hn : n ≤ 1024) (hb1 : w.heap[b1]? = some (.cells #[x] 22 (0, 0))) (h1 : x.oneCell' = true) (hall : ∀ u : Value, u ∈ vals → u.oneCell' = true) :
    Calls Tryz.prog 154 #[.slice (some ⟨g, 0, none⟩) n n, .int .i64 i, .slice (some ⟨b1, 0, none⟩) 1 c1] w (InsP 22 B (.slice (some ⟨g, 0, none⟩) n n) n (vals.take i ++ x :: vals.drop i) w) := by
  obtain ⟨j0, kj, kz0, kz1, kz2⟩ := info_parts info_slice
  obtain ⟨cur, hg, hcs, hv⟩ : ∃ cur, w.heap[g]? = some (.cells cur 22 (0, 0)) ∧ cur.size = n ∧ cur.toList.take n = vals := by
    rcases ho.2 with ⟨h, _⟩ | ⟨g', cap', cur, h, q1, q2, q3, q4, q5, q6⟩
    · simp at h
    · cases h; exact ⟨cur, q2, by omega, by rw [Nat.mul_one] at q6; exact q6⟩
  have hsz := (Array.getElem?_eq_some_iff.1 hg).1
  have hb1z := (Array.getElem?_eq_some_iff.1 hb1).1
  have hvl : vals.length = n := by have := ho.1; omega
  have hdl : (vals.drop i).length = n - i := by rw [List.length_drop]; omega
  have hcell : ∀ j v, vals[j]? = some v → w.cell? ⟨g, 0 + j, none⟩ = some v := fun j v hj => by
    have h := ho.cells (g := g) rfl j v hj
    rwa [Addr.add_lit] at h
  have hik : i + (n + 1 - i) = n + 1 := by omega
  have HA0 := Lib.run_append_grow_zeros (P := Tryz.prog) w 26 3 26 22 j0 (.slice none 0 0) .i64 .i64 Tryz.underlying26 Tryz.underlying3 kj kz0 (some ⟨g, 0, none⟩) i n (vals.take i)
    (run_firstCells_some w.drew j0.size i ⟨g, 0, none⟩ i n (vals.take i) (by rw [kz1, List.length_take]; omega) (fun j v hj => by
      have hj2 : vals[j]? = some v := by
        rw [List.getElem?_take] at hj
        split at hj
        · exact hj
        · simp at hj
      have h := hcell j v hj2
      rw [Addr.add_lit]; exact h)) (n + 1 - i) (by omega) (by omega) (by omega) (by omega) (by rw [kz2]; omega) (by
        have := nextslicecap_le (need := i + (n + 1 - i)) (old := n) (by omega)
        rw [kz2]; omega)
  rw [hik] at HA0
  obtain ⟨gc, hgc⟩ : ∃ gc, gc = grownCap w (n + 1) n 22 := ⟨_, rfl⟩
  have hge : n + 1 ≤ gc := by rw [hgc]; exact grownCap_ge _ _ _ _
  have hle : gc ≤ maxLen := by rw [hgc]; exact grownCap_le_maxLen _ _ _ _ (by unfold maxLen; omega)
  rw [← hgc] at HA0
  obtain ⟨d0, hd0⟩ : ∃ d0, d0 = ((vals.take i).toArray ++ Builtin.zeroCells (Value.cells (.slice none 0 0)) (n + 1 - i) ++ Builtin.zeroCells (Value.cells (.slice none 0 0)) (gc - (n + 1))) := ⟨_, rfl⟩
  rw [← hd0] at HA0
  have hd0s : d0.size = gc := by rw [hd0]; simp [Builtin.zeroCells, Value.cells]; omega
  have hd0t : d0.toList.take i = vals.take i := by
    rw [hd0]; simp only [Array.toList_append, List.append_assoc]
    rw [List.take_left' (by simp; omega)]
  have hkk : ((n + 1 - i : Nat) : Int) = (n : Int) + 1 - (i : Int) := by omega
  rw [hkk] at HA0
  obtain ⟨w1, hw1⟩ : ∃ w1, w1 = w.drew.alloc (.cells d0 22) := ⟨_, rfl⟩
  have hnew : w1.heap[w.heap.size]? = some (.cells d0 22 (0, 0)) := by rw [hw1]; exact heap_alloc_new w.drew _
  have hbw : Below w.heap.size w w1 := by rw [hw1]; exact ((Below.refl w.heap.size w).drew).alloc (Nat.le_refl _) _
  have hold : ∀ k, k < w.heap.size → w1.heap[k]? = w.heap[k]? := fun k hk => hbw.block k hk
  have hz1 := hbw.size
  rw [← hw1] at HA0
  have HA := Lib.hid HA0
  obtain ⟨d1, hd1⟩ : ∃ d1, d1 = (d0.toList.take i ++ [x] ++ d0.toList.drop (i + ([x] : List Value).length)).toArray := ⟨_, rfl⟩
  obtain ⟨d2, hd2⟩ : ∃ d2, d2 = (d1.toList.take (i + 1) ++ vals.drop i ++ d1.toList.drop (i + 1 + (vals.drop i).length)).toArray := ⟨_, rfl⟩
  have hd1s : d1.size = gc := by rw [hd1]; simp; omega
  have hd2s : d2.size = gc := by rw [hd2]; simp; omega
  have R1 := run_copy_row Tryz.prog w1 26 26 3 22 w.heap.size i (n + 1 - i) (gc - i) ⟨b1, 0, none⟩ 1 c1 d0 22 [x] Tryz.underlying26 (by simp [kj, kz1]) hnew
    (by show 1 = Nat.min 1 (n + 1 - i); exact (Nat.min_eq_left (by omega)).symm) (fun j v hj => by
      match j, hj with
      | 0, hj =>
        simp at hj; subst hj
        show w1.cell? ⟨b1, 0, none⟩ = some x
        have hb1d : w1.heap[b1]? = some (.cells #[x] 22 (0, 0)) := (hold b1 hb1z).trans hb1
        simp [World.cell?, hb1d]) (by simp; omega) (fun u hu => by simp at hu; subst hu; exact h1)
  rw [← hd1] at R1
  have R2 := run_copy_row Tryz.prog (w1.setRow w.heap.size d1).drew 26 26 3 22 w.heap.size (i + 1) (n - i) (gc - (i + 1)) ⟨g, i, none⟩ (n - i) (n - i) d1 22 (vals.drop i) Tryz.underlying26 (by simp [kj, kz1]) (setRow_heap w1 w.heap.size d0 d1 22 (0, 0) hnew)
    (by rw [hdl]; exact (Nat.min_self _).symm) (fun j v hj => by
      rw [List.getElem?_drop] at hj
      have h := hcell (i + j) v hj
      rw [Nat.zero_add] at h
      rw [Addr.add_lit]
      show (w1.setRow w.heap.size d1).cell? ⟨g, i + j, none⟩ = some v
      rw [cell_setRow_other _ _ _ _ (by show g ≠ w.heap.size; omega), ← h]
      simp only [World.cell?, hold g hsz]) (by omega) (fun u hu => hall u (List.mem_of_mem_drop hu))
  rw [← hd2] at R2
  have HR1 := Lib.hid R1
  have HR2 := Lib.hid R2
  have HF : Hid (InsP 22 B (.slice (some ⟨g, 0, none⟩) n n) n (vals.take i ++ x :: vals.drop i) w (.returned (.slice (some ⟨w.heap.size, 0, none⟩) (n + 1) gc)) ((w1.setRow w.heap.size d1).drew.setRow w.heap.size d2)) := by
    refine ⟨w.heap.size, gc, rfl, ⟨by simp; omega, .inr ⟨w.heap.size, gc, d2, rfl, hBw, setRow_heap (w1.setRow w.heap.size d1).drew w.heap.size d1 d2 22 (0, 0) (setRow_heap w1 w.heap.size d0 d1 22 (0, 0) hnew), hge, hle, by omega, ?_⟩⟩, ?_, .inr rfl⟩
    · rw [Nat.mul_one, hd2, hd1]
      exact grow_list hd0t hi hvl (by simp; omega)
    · refine ⟨by rw [hw1]; rfl, by rw [hw1]; rfl, by rw [hw1]; rfl, ?_, fun k hk hk2 => ?_⟩
      · rw [setRow_size]
        show w.heap.size ≤ (w1.setRow w.heap.size d1).heap.size
        rw [setRow_size]; omega
      · have hkg : k ≠ w.heap.size := by omega
        rw [setRow_other _ _ _ _ hkg]
        show (w1.setRow w.heap.size d1).heap[k]? = _
        rw [setRow_other _ _ _ _ hkg]; exact hold k hk
  have hi1 : ¬ (i : Int) = (n : Int) := by omega
  have hi2 : ((i : Int) == (n : Int)) = false := by simp; omega
  have hi3 : (n : Int) < (n : Int) + 1 := by omega
  have eW : IntKind.i64.wrap ((i : Int) + 1) = (i : Int) + 1 := IntWalk.i64_in _ (by omega)
  have eN : ((i : Int) + 1).toNat = i + 1 := by omega
  have eB : 0 ≤ (i : Int) + 1 := by omega
  have eC : (i : Int) + 1 ≤ (n : Int) + 1 := by omega
  have eF : (i : Int) ≤ (n : Int) + 1 := by omega
  have eG : (i : Int) ≤ (n : Int) := by omega
  have eD : ¬ gc = i + 1 := by omega
  have eE : ¬ gc = i := by omega
  have eH : ¬ n = i := by omega
  have eI : n + 1 - (i + 1) = n - i := by omega
  clear R1 R2 HA0 hd1 hd2 hd1s hd2s hd0 hd0s hd0t hcell hvl hdl hv hg hb1 ho hcs hnew hold hbw hw1 hz1 hkk hik hgc hsz hb1z
  go_enter Tryz.func154, Tryz.ntmps154
  go_wp2_with (at_builtin; refine Lib.wpList_append_run _ rfl _ _ _ _ rfl _ _ rfl rfl _ _ HA.out ?_; have R1 := HR1.out)
  go_region_law (refine step_copy_runI (by rfl) _ _ _ _ (by rfl) (.slice (some ⟨w.heap.size, i + 1, none⟩) (n - i) (gc - (i + 1))) (.slice (some ⟨g, i, none⟩) (n - i) (n - i)) (by simp [Act.eval, Act.put]) (by simp [Act.eval, Act.put]) HR2.out ?_)
  go_wp2
  go_ret
  exact HF.out

theorem insertM_any (B n i b1 c1 : Nat) (v x : Value) (vals : List Value) (w : World) (ho : w.ownsRow B 22 1 v n vals) (hB : B ≤ w.heap.size) (hi : i ≤ n) (hn : n ≤ 1024) (hb1 : w.heap[b1]? = some (.cells #[x] 22 (0, 0))) (hne : v.ownBlock ≠ some b1) (h1 : x.oneCell' = true) (hall : ∀ u : Value, u ∈ vals → u.oneCell' = true) :
    Calls Tryz.prog 154 #[v, .int .i64 i, .slice (some ⟨b1, 0, none⟩) 1 c1] w (InsP 22 B v n (ins _ vals i x) w) := by
  have hvl : vals.length = n := by have := ho.1; omega
  by_cases e : i = n
  · subst e
    have hx : w.cell? ⟨b1, 0, none⟩ = some x := by simp [World.cell?, hb1]
    have e2 : ins _ vals i x = vals ++ [x] := by unfold ins; rw [List.take_of_length_le (by omega), List.drop_of_length_le (by omega)]
    rw [e2]
    exact insertM_end B i b1 c1 v x vals w ho hB hn hx h1
  · have ho' := ho.2
    rcases ho' with ⟨_, h0⟩ | ⟨g, cap, cur, rfl, _, _, hnc, _, _, _⟩
    · omega
    · have hbg : b1 ≠ g := fun k => hne (by rw [k]; rfl)
      by_cases hc : n + 1 ≤ cap
      · exact insertM_room B n g cap i b1 c1 x vals w ho (by omega) hc hn hb1 hbg h1 hall
      · have hcn : cap = n := by omega
        subst hcn
        exact insertM_grow B cap g i b1 c1 x vals w ho hB (by omega) hn hb1 h1 hall

set_option maxRecDepth 100000 in
set_option maxHeartbeats 1600000 in
theorem insertI_grow (B n g i b1 c1 : Nat) (x : Value) (vals : List Value) (w : World) (ho : w.ownsRow B 3 1 (.slice (some ⟨g, 0, none⟩) n n) n vals) (hBw : B ≤ w.heap.size) (hi : i < n) (hn : n ≤ 1024) (hb1 : w.heap[b1]? = some (.cells #[x] 3 (0, 0))) (h1 : x.oneCell' = true) (hall : ∀ u : Value, u ∈ vals → u.oneCell' = true) :
    Calls Tryz.prog 155 #[.slice (some ⟨g, 0, none⟩) n n, .int .i64 i, .slice (some ⟨b1, 0, none⟩) 1 c1] w (InsP 3 B (.slice (some ⟨g, 0, none⟩) n n) n (vals.take i ++ x :: vals.drop i) w) := by
  obtain ⟨j0, kj, kz0, kz1, kz2⟩ := info_parts info_place
  obtain ⟨cur, hg, hcs, hv⟩ : ∃ cur, w.heap[g]? = some (.cells cur 3 (0, 0)) ∧ cur.size = n ∧ cur.toList.take n = vals := by
    rcases ho.2 with ⟨h, _⟩ | ⟨g', cap', cur, h, q1, q2, q3, q4, q5, q6⟩
    · simp at h
    · cases h; exact ⟨cur, q2, by omega, by rw [Nat.mul_one] at q6; exact q6⟩
  have hsz := (Array.getElem?_eq_some_iff.1 hg).1
  have hb1z := (Array.getElem?_eq_some_iff.1 hb1).1
  have hvl : vals.length = n := by have := ho.1; omega
  have hdl : (vals.drop i).length = n - i := by rw [List.length_drop]; omega
  have hcell : ∀ j v, vals[j]? = some v → w.cell? ⟨g, 0 + j, none⟩ = some v := fun j v hj => by
    have h := ho.cells (g := g) rfl j v hj
    rwa [Addr.add_lit] at h
  have hik : i + (n + 1 - i) = n + 1 := by omega
  have HA0 := Lib.run_append_grow_zeros (P := Tryz.prog) w 90 3 90 3 j0 (.int .i64 0) .i64 .i64 Tryz.underlying90 Tryz.underlying3 kj kz0 (some ⟨g, 0, none⟩) i n (vals.take i)
    (run_firstCells_some w.drew j0.size i ⟨g, 0, none⟩ i n (vals.take i) (by rw [kz1, List.length_take]; omega) (fun j v hj => by
      have hj2 : vals[j]? = some v := by
        rw [List.getElem?_take] at hj
        split at hj
        · exact hj
        · simp at hj
      have h := hcell j v hj2
      rw [Addr.add_lit]; exact h)) (n + 1 - i) (by omega) (by omega) (by omega) (by omega) (by rw [kz2]; omega) (by
        have := nextslicecap_le (need := i + (n + 1 - i)) (old := n) (by omega)
        rw [kz2]; omega)
  rw [hik] at HA0
  obtain ⟨gc, hgc⟩ : ∃ gc, gc = grownCap w (n + 1) n 3 := ⟨_, rfl⟩
  have hge : n + 1 ≤ gc := by rw [hgc]; exact grownCap_ge _ _ _ _
  have hle : gc ≤ maxLen := by rw [hgc]; exact grownCap_le_maxLen _ _ _ _ (by unfold maxLen; omega)
  rw [← hgc] at HA0
  obtain ⟨d0, hd0⟩ : ∃ d0, d0 = ((vals.take i).toArray ++ Builtin.zeroCells (Value.cells (.int .i64 0)) (n + 1 - i) ++ Builtin.zeroCells (Value.cells (.int .i64 0)) (gc - (n + 1))) := ⟨_, rfl⟩
  rw [← hd0] at HA0
  have hd0s : d0.size = gc := by rw [hd0]; simp [Builtin.zeroCells, Value.cells]; omega
  have hd0t : d0.toList.take i = vals.take i := by
    rw [hd0]; simp only [Array.toList_append, List.append_assoc]
    rw [List.take_left' (by simp; omega)]
  have hkk : ((n + 1 - i : Nat) : Int) = (n : Int) + 1 - (i : Int) := by omega
  rw [hkk] at HA0
  obtain ⟨w1, hw1⟩ : ∃ w1, w1 = w.drew.alloc (.cells d0 3) := ⟨_, rfl⟩
  have hnew : w1.heap[w.heap.size]? = some (.cells d0 3 (0, 0)) := by rw [hw1]; exact heap_alloc_new w.drew _
  have hbw : Below w.heap.size w w1 := by rw [hw1]; exact ((Below.refl w.heap.size w).drew).alloc (Nat.le_refl _) _
  have hold : ∀ k, k < w.heap.size → w1.heap[k]? = w.heap[k]? := fun k hk => hbw.block k hk
  have hz1 := hbw.size
  rw [← hw1] at HA0
  have HA := Lib.hid HA0
  obtain ⟨d1, hd1⟩ : ∃ d1, d1 = (d0.toList.take i ++ [x] ++ d0.toList.drop (i + ([x] : List Value).length)).toArray := ⟨_, rfl⟩
  obtain ⟨d2, hd2⟩ : ∃ d2, d2 = (d1.toList.take (i + 1) ++ vals.drop i ++ d1.toList.drop (i + 1 + (vals.drop i).length)).toArray := ⟨_, rfl⟩
  have hd1s : d1.size = gc := by rw [hd1]; simp; omega
  have hd2s : d2.size = gc := by rw [hd2]; simp; omega
  have R1 := run_copy_row Tryz.prog w1 90 90 3 3 w.heap.size i (n + 1 - i) (gc - i) ⟨b1, 0, none⟩ 1 c1 d0 3 [x] Tryz.underlying90 (by simp [kj, kz1]) hnew
    (by show 1 = Nat.min 1 (n + 1 - i); exact (Nat.min_eq_left (by omega)).symm) (fun j v hj => by
      match j, hj with
      | 0, hj =>
        simp at hj; subst hj
        show w1.cell? ⟨b1, 0, none⟩ = some x
        have hb1d : w1.heap[b1]? = some (.cells #[x] 3 (0, 0)) := (hold b1 hb1z).trans hb1
        simp [World.cell?, hb1d]) (by simp; omega) (fun u hu => by simp at hu; subst hu; exact h1)
  rw [← hd1] at R1
  have R2 := run_copy_row Tryz.prog (w1.setRow w.heap.size d1).drew 90 90 3 3 w.heap.size (i + 1) (n - i) (gc - (i + 1)) ⟨g, i, none⟩ (n - i) (n - i) d1 3 (vals.drop i) Tryz.underlying90 (by simp [kj, kz1]) (setRow_heap w1 w.heap.size d0 d1 3 (0, 0) hnew)
    (by rw [hdl]; exact (Nat.min_self _).symm) (fun j v hj => by
      rw [List.getElem?_drop] at hj
      have h := hcell (i + j) v hj
      rw [Nat.zero_add] at h
      rw [Addr.add_lit]
      show (w1.setRow w.heap.size d1).cell? ⟨g, i + j, none⟩ = some v
      rw [cell_setRow_other _ _ _ _ (by show g ≠ w.heap.size; omega), ← h]
      simp only [World.cell?, hold g hsz]) (by omega) (fun u hu => hall u (List.mem_of_mem_drop hu))
  rw [← hd2] at R2
  have HR1 := Lib.hid R1
  have HR2 := Lib.hid R2
  have HF : Hid (InsP 3 B (.slice (some ⟨g, 0, none⟩) n n) n (vals.take i ++ x :: vals.drop i) w (.returned (.slice (some ⟨w.heap.size, 0, none⟩) (n + 1) gc)) ((w1.setRow w.heap.size d1).drew.setRow w.heap.size d2)) := by
    refine ⟨w.heap.size, gc, rfl, ⟨by simp; omega, .inr ⟨w.heap.size, gc, d2, rfl, hBw, setRow_heap (w1.setRow w.heap.size d1).drew w.heap.size d1 d2 3 (0, 0) (setRow_heap w1 w.heap.size d0 d1 3 (0, 0) hnew), hge, hle, by omega, ?_⟩⟩, ?_, .inr rfl⟩
    · rw [Nat.mul_one, hd2, hd1]
      exact grow_list hd0t hi hvl (by simp; omega)
    · refine ⟨by rw [hw1]; rfl, by rw [hw1]; rfl, by rw [hw1]; rfl, ?_, fun k hk hk2 => ?_⟩
      · rw [setRow_size]
        show w.heap.size ≤ (w1.setRow w.heap.size d1).heap.size
        rw [setRow_size]; omega
      · have hkg : k ≠ w.heap.size := by omega
        rw [setRow_other _ _ _ _ hkg]
        show (w1.setRow w.heap.size d1).heap[k]? = _
        rw [setRow_other _ _ _ _ hkg]; exact hold k hk
  have hi1 : ¬ (i : Int) = (n : Int) := by omega
  have hi2 : ((i : Int) == (n : Int)) = false := by simp; omega
  have hi3 : (n : Int) < (n : Int) + 1 := by omega
  have eW : IntKind.i64.wrap ((i : Int) + 1) = (i : Int) + 1 := IntWalk.i64_in _ (by omega)
  have eN : ((i : Int) + 1).toNat = i + 1 := by omega
  have eB : 0 ≤ (i : Int) + 1 := by omega
  have eC : (i : Int) + 1 ≤ (n : Int) + 1 := by omega
  have eF : (i : Int) ≤ (n : Int) + 1 := by omega
  have eG : (i : Int) ≤ (n : Int) := by omega
  have eD : ¬ gc = i + 1 := by omega
  have eE : ¬ gc = i := by omega
  have eH : ¬ n = i := by omega
  have eI : n + 1 - (i + 1) = n - i := by omega
  clear R1 R2 HA0 hd1 hd2 hd1s hd2s hd0 hd0s hd0t hcell hvl hdl hv hg hb1 ho hcs hnew hold hbw hw1 hz1 hkk hik hgc hsz hb1z
  go_enter Tryz.func155, Tryz.ntmps155
  go_wp2_with (at_builtin; refine Lib.wpList_append_run _ rfl _ _ _ _ rfl _ _ rfl rfl _ _ HA.out ?_; have R1 := HR1.out)
  go_region_law (refine step_copy_runI (by rfl) _ _ _ _ (by rfl) (.slice (some ⟨w.heap.size, i + 1, none⟩) (n - i) (gc - (i + 1))) (.slice (some ⟨g, i, none⟩) (n - i) (n - i)) (by simp [Act.eval, Act.put]) (by simp [Act.eval, Act.put]) HR2.out ?_)
  go_wp2
  go_ret
  exact HF.out

theorem insertI_any (B n i b1 c1 : Nat) (v x : Value) (vals : List Value) (w : World) (ho : w.ownsRow B 3 1 v n vals) (hB : B ≤ w.heap.size) (hi : i ≤ n) (hn : n ≤ 1024) (hb1 : w.heap[b1]? = some (.cells #[x] 3 (0, 0))) (hne : v.ownBlock ≠ some b1) (h1 : x.oneCell' = true) (hall : ∀ u : Value, u ∈ vals → u.oneCell' = true) :
    Calls Tryz.prog 155 #[v, .int .i64 i, .slice (some ⟨b1, 0, none⟩) 1 c1] w (InsP 3 B v n (ins _ vals i x) w) := by
  have hvl : vals.length = n := by have := ho.1; omega
  by_cases e : i = n
  · subst e
    have hx : w.cell? ⟨b1, 0, none⟩ = some x := by simp [World.cell?, hb1]
    have e2 : ins _ vals i x = vals ++ [x] := by unfold ins; rw [List.take_of_length_le (by omega), List.drop_of_length_le (by omega)]
    rw [e2]
    exact insertI_end B i b1 c1 v x vals w ho hB hn hx h1
  · have ho' := ho.2
    rcases ho' with ⟨_, h0⟩ | ⟨g, cap, cur, rfl, _, _, hnc, _, _, _⟩
    · omega
    · have hbg : b1 ≠ g := fun k => hne (by rw [k]; rfl)
      by_cases hc : n + 1 ≤ cap
      · exact insertI_room B n g cap i b1 c1 x vals w ho (by omega) hc hn hb1 hbg h1 hall
      · have hcn : cap = n := by omega
        subst hcn
        exact insertI_grow B cap g i b1 c1 x vals w ho hB (by omega) hn hb1 h1 hall

end Go.Proofs.YtbnegbpapjcmhaaGreat

namespace Go.Proofs.YtbnegbpapjcmhaaGreat
open Go.RowKit Go.ChangeShapes Go.WideShapes
set_option linter.unusedVariables false

/-- i rows are there: row j in blocks from lo j up to tp j, behind block b and behind those of the rows before it. -/
structure HalfG (w : World) (b i : Nat) (m : List (List Int)) (A : Nat → Option Addr) (C lo tp : Nat → Nat) : Prop where
  lt : b < w.heap.size
  done : ∀ j, j < i → w.cell? ⟨b, j, none⟩ = some (.slice (A j) (rw' m j).length (C j))
  rest : ∀ j, i ≤ j → j < m.length → w.cell? ⟨b, j, none⟩ = some (.slice none 0 0)
  free : ∀ j, w.frozen? ⟨b, j, none⟩ = false
  rows : ∀ j, j < i → OwnR (lo j) (tp j) w (A j) (rw' m j) ∧ b < lo j ∧ tp j ≤ w.heap.size
  apart : ∀ j j', j < j' → j' < i → tp j ≤ lo j'
theorem HalfG.start (w : World) (m : List (List Int)) (t : TypeId) (A : Nat → Option Addr) (C lo tp : Nat → Nat) : HalfG (w.alloc (.cells (madeCells #[.slice none 0 0] m.length) t)) w.heap.size 0 m A C lo tp where
  lt := by simp
  done j hj := by omega
  rest j _ hj := by
    have h := World.cell?_alloc_new (w := w) (madeCells #[.slice none 0 0] m.length) t j
    rw [h]
    simp [madeCells, hj, Nat.mod_one]
  free j := by simp [go_sem]
  rows j hj := by omega
  apart j j' _ hj := by omega
/-- One row more. -/
theorem HalfG.next {w w1 : World} {b i : Nat} {m : List (List Int)} {A : Nat → Option Addr} {C lo tp : Nat → Nat} {r : Option Addr} {c T : Nat} (h : HalfG w b i m A C lo tp) (hi : i < m.length)
    (hk : ∀ k, k < w.heap.size → k ≠ b → w1.heap[k]? = w.heap[k]?) (hs : w.heap.size ≤ w1.heap.size) (hT : T ≤ w1.heap.size)
    (hci : w1.cell? ⟨b, i, none⟩ = some (.slice r (rw' m i).length c)) (hc : ∀ j, j ≠ i → w1.cell? ⟨b, j, none⟩ = w.cell? ⟨b, j, none⟩) (hf : ∀ j, w1.frozen? ⟨b, j, none⟩ = false)
    (hr : OwnR w.heap.size T w1 r (rw' m i)) :
    HalfG w1 b (i + 1) m (fun j => if j = i then r else A j) (fun j => if j = i then c else C j) (fun j => if j = i then w.heap.size else lo j) (fun j => if j = i then T else tp j) where
  lt := Nat.lt_of_lt_of_le h.lt hs
  done j hj := by
    by_cases e : j = i
    · subst e; simp only [if_pos]; exact hci
    · simp only [if_neg e]; exact (hc j e).trans (h.done j (by omega))
  rest j hj hl := (hc j (by omega)).trans (h.rest j (by omega) hl)
  free := hf
  rows j hj := by
    by_cases e : j = i
    · subst e; simp only [if_pos]; exact ⟨hr, h.lt, hT⟩
    · simp only [if_neg e]
      obtain ⟨h1, h2, h3⟩ := h.rows j (by omega)
      exact ⟨h1.same (fun k k0 k1 => hk k (by omega) (by omega)), h2, by omega⟩
  apart j j' hj hj' := by
    have e : ¬ j = i := by omega
    simp only [if_neg e]
    by_cases e' : j' = i
    · simp only [if_pos e']; exact (h.rows j (by omega)).2.2
    · simp only [if_neg e']; exact h.apart j j' hj (by omega)
def blk (a : Option Addr) : Nat := match a with | some a => a.block | none => 0
def ofs (a : Option Addr) : Nat := match a with | some a => a.off | none => 0
theorem OwnR.at {lo tp : Nat} {w : World} {a : Option Addr} {zs : List Int} (h : OwnR lo tp w a zs) {j : Nat} (hj : j < zs.length) : a = some ⟨blk a, ofs a, none⟩ ∧ lo ≤ blk a ∧ blk a < tp ∧ w.cell? ⟨blk a, ofs a + j, none⟩ = some (.int .i64 (zs.getD j 0)) ∧ w.frozen? ⟨blk a, ofs a + j, none⟩ = false := by
  rcases h with h | ⟨b, o, rfl, h0, h1, hc⟩
  · rw [h] at hj; simp at hj
  · exact ⟨rfl, h0, h1, (hc j hj).1, (hc j hj).2⟩
theorem HalfG.own {w : World} {b : Nat} {m : List (List Int)} {A : Nat → Option Addr} {C lo tp : Nat → Nat} (h : HalfG w b m.length m A C lo tp) : OwnM b w.heap.size w (some ⟨b, 0, none⟩) m :=
  .inr ⟨⟨b, 0, A, fun j => blk (A j), fun j => ofs (A j), C⟩, rfl, {
    rng := fun _ => ⟨Nat.le_refl _, h.lt⟩
    top := fun i hi => by show w.cell? ⟨b, 0 + i, none⟩ = _; rw [Nat.zero_add]; exact h.done i hi
    row := fun i hi => by
      by_cases h0 : (rw' m i).length = 0
      · exact .inl h0
      · exact .inr ((h.rows i hi).1.at (j := 0) (by omega)).1
    rrng := fun i hi hl => by
      obtain ⟨h1, h2, h3⟩ := h.rows i hi
      have := h1.at (j := 0) hl
      exact ⟨by show b ≤ blk (A i); omega, by show blk (A i) < _; omega⟩
    cell := fun i hi j hj => ((h.rows i hi).1.at hj).2.2.2.1
    free := fun i hi j hj => ((h.rows i hi).1.at hj).2.2.2.2
    apart := fun i hi i' hi' hne j hj j' hj' e => by
      have h1 := (h.rows i hi).1.at hj
      have h2 := (h.rows i' hi').1.at hj'
      have e1 : blk (A i) = blk (A i') := e.1
      rcases Nat.lt_or_ge i i' with l | l
      · have := h.apart i i' l hi'; omega
      · have := h.apart i' i (by omega) hi; omega
    tops := fun i hi j hj i' hi' e => by
      obtain ⟨h1, h2, h3⟩ := h.rows i hi
      have := h1.at hj
      have e1 : blk (A i) = b := e.1
      omega }⟩

theorem RowOwn.block {w w' : World} {b o n : Nat} {f : Nat → Int} (h : RowOwn w b o n f) (e : w'.heap[b]? = w.heap[b]?) : RowOwn w' b o n f :=
  ⟨fun j hj => (World.cell?_of_block (w := w) (a := ⟨b, o + j, none⟩) e).trans (h.cell j hj), fun j hj => (World.frozen?_of_block (w := w) (a := ⟨b, o + j, none⟩) e).trans (h.free j hj)⟩
theorem RowOwn.far {w : World} {b o n : Nat} {f : Nat → Int} (h : RowOwn w b o n f) (c i : Nat) (v : Value) (hne : b ≠ c) : RowOwn (w.setCell ⟨c, i, none⟩ v) b o n f :=
  h.block (Below.heap_setCell _ _ _ _ hne)
end Go.Proofs.YtbnegbpapjcmhaaGreat

namespace Go.Proofs.YtbnegbpapjcmhaaGreat
open Go.RowKit Go.ChangeShapes Go.WideShapes
set_option linter.unusedVariables false

def insF {α : Type} (f : Nat → α) (t : Nat) (x : α) : Nat → α := fun i => if i = t then x else f (old t i)
theorem ins_range {n t : Nat} (f : Nat → Value) (x : Value) (ht : t ≤ n) : ins _ ((List.range n).map f) t x = (List.range (n + 1)).map (insF f t x) := by
  have hl : ((List.range n).map f).length = n := by simp
  apply List.ext_getElem?
  intro i
  have h1 : (ins _ ((List.range n).map f) t x).length = n + 1 := by rw [ins_len x (by omega), hl]
  by_cases hi : i < n + 1
  · have e1 : (ins _ ((List.range n).map f) t x)[i]? = some ((ins _ ((List.range n).map f) t x).getD i x) := by
      rw [List.getD_eq_getElem?_getD, List.getElem?_eq_getElem (by omega)]; rfl
    have e2 : ((List.range (n + 1)).map (insF f t x))[i]? = some (insF f t x i) := by simp [hi]
    rw [e1, e2]
    congr 1
    unfold insF old
    rcases Nat.lt_trichotomy i t with l | l | l
    · rw [ins_lt x x (by omega) l, if_neg (by omega), if_pos l]; simp [show i < n by omega]
    · subst l; rw [ins_eq x x (by omega), if_pos rfl]
    · rw [ins_gt x x (by omega) l, if_neg (by omega), if_neg (by omega)]; simp [show i - 1 < n by omega]
  · rw [List.getElem?_eq_none (by omega), List.getElem?_eq_none (by simp; omega)]

def rowsV (c : Nat) (RB RO RC : Nat → Nat) (n : Nat) : List Value := (List.range n).map fun i => .slice (some ⟨RB i, RO i, none⟩) c (RC i)
def pivsV (P : Nat → Nat) (n : Nat) : List Value := (List.range n).map fun i => .int .i64 (P i : Int)
theorem rowsV_ins {c n t b o k : Nat} {RB RO RC : Nat → Nat} (ht : t ≤ n) : ins _ (rowsV c RB RO RC n) t (.slice (some ⟨b, o, none⟩) c k) = rowsV c (insF RB t b) (insF RO t o) (insF RC t k) (n + 1) := by
  unfold rowsV
  rw [ins_range _ _ ht]
  apply List.map_congr_left
  intro i _
  unfold insF
  split <;> rfl
theorem pivsV_ins {n t q : Nat} {P : Nat → Nat} (ht : t ≤ n) : ins _ (pivsV P n) t (.int .i64 (q : Int)) = pivsV (insF P t q) (n + 1) := by
  unfold pivsV
  rw [ins_range _ _ ht]
  apply List.map_congr_left
  intro i _
  unfold insF
  split <;> rfl
theorem rowsV_one {c n : Nat} {RB RO RC : Nat → Nat} : ∀ u : Value, u ∈ rowsV c RB RO RC n → u.oneCell' = true := by
  intro u hu; obtain ⟨i, _, rfl⟩ := List.mem_map.1 hu; rfl
theorem pivsV_one {n : Nat} {P : Nat → Nat} : ∀ u : Value, u ∈ pivsV P n → u.oneCell' = true := by
  intro u hu; obtain ⟨i, _, rfl⟩ := List.mem_map.1 hu; rfl
theorem own_apart {w : World} {B B' n n' : Nat} {E E' : TypeId} {v v' : Value} {xs xs' : List Value} (h : w.ownsRow B E 1 v n xs) (h' : w.ownsRow B' E' 1 v' n' xs') (hE : E ≠ E') : v.ownBlock = none ∨ v.ownBlock ≠ v'.ownBlock := by
  rcases h.2 with ⟨rfl, _⟩ | ⟨g, cap, cur, rfl, _, hg, _⟩
  · exact .inl rfl
  · refine .inr (fun e => ?_)
    rcases h'.2 with ⟨rfl, _⟩ | ⟨g', cap', cur', rfl, _, hg', _⟩
    · simp [Value.ownBlock] at e
    · simp [Value.ownBlock] at e
      subst e
      rw [hg] at hg'
      simp at hg'
      exact hE hg'.2

/-- In memory: nr rows of c numbers Z, np pivots P, the determinant d. -/
structure EchM (w : World) (kb c nr np : Nat) (Z : Nat → Nat → Int) (P : Nat → Nat) (vr vp : Value) (d : Int) (RB RO RC : Nat → Nat) : Prop where
  lt : kb < w.heap.size
  c0 : w.cell? ⟨kb, 0, none⟩ = some vr
  c1 : w.cell? ⟨kb, 1, none⟩ = some vp
  c2 : w.cell? ⟨kb, 2, none⟩ = some (.int .i64 d)
  fz : ∀ j, w.frozen? ⟨kb, j, none⟩ = false
  ro : w.ownsRow (kb + 1) 22 1 vr nr (rowsV c RB RO RC nr)
  po : w.ownsRow (kb + 1) 3 1 vp np (pivsV P np)
  rng : ∀ i, i < nr → kb < RB i ∧ RB i < w.heap.size
  row : ∀ i, i < nr → RowOwn w (RB i) (RO i) c (Z i)
  apart : ∀ i, i < nr → ∀ i', i' < nr → i ≠ i' → RB i ≠ RB i'
  rc : ∀ i, i < nr → c ≤ RC i
  ra : ∀ i, i < nr → vr.ownBlock ≠ some (RB i)
  pa : ∀ i, i < nr → vp.ownBlock ≠ some (RB i)

theorem EchM.congr {w : World} {kb c nr np : Nat} {Z Z' : Nat → Nat → Int} {P : Nat → Nat} {vr vp : Value} {d : Int} {RB RO RC : Nat → Nat} (h : EchM w kb c nr np Z P vr vp d RB RO RC) (e : ∀ i, i < nr → ∀ j, j < c → Z i j = Z' i j) :
    EchM w kb c nr np Z' P vr vp d RB RO RC :=
  { h with row := fun i hi => ⟨fun j hj => by rw [← e i hi j hj]; exact (h.row i hi).cell j hj, (h.row i hi).free⟩ }
/-- All blocks that it uses are as they were. -/
theorem EchM.keep {w w' : World} {kb c nr np : Nat} {Z : Nat → Nat → Int} {P : Nat → Nat} {vr vp : Value} {d : Int} {RB RO RC : Nat → Nat} (h : EchM w kb c nr np Z P vr vp d RB RO RC) (hb : Below w.heap.size w w') :
    EchM w' kb c nr np Z P vr vp d RB RO RC where
  lt := Nat.lt_of_lt_of_le h.lt hb.size
  c0 := (hb.cell (p := ⟨kb, 0, none⟩) h.lt).trans h.c0
  c1 := (hb.cell (p := ⟨kb, 1, none⟩) h.lt).trans h.c1
  c2 := (hb.cell (p := ⟨kb, 2, none⟩) h.lt).trans h.c2
  fz j := (hb.frozen (p := ⟨kb, j, none⟩) h.lt).trans (h.fz j)
  ro := h.ro.kept (below_grown hb) (by cases hv : vr.ownBlock <;> simp)
  po := h.po.kept (below_grown hb) (by cases hv : vp.ownBlock <;> simp)
  rng i hi := ⟨(h.rng i hi).1, Nat.lt_of_lt_of_le (h.rng i hi).2 hb.size⟩
  row i hi := (h.row i hi).block (hb.block _ (h.rng i hi).2)
  apart := h.apart
  rc := h.rc
  ra := h.ra
  pa := h.pa
theorem EchM.drew {w : World} {kb c nr np : Nat} {Z : Nat → Nat → Int} {P : Nat → Nat} {vr vp : Value} {d : Int} {RB RO RC : Nat → Nat} (h : EchM w kb c nr np Z P vr vp d RB RO RC) : EchM w.drew kb c nr np Z P vr vp d RB RO RC :=
  h.keep ((Below.refl _ _).drew)
theorem wrote_grown {w w' : World} {b o n : Nat} (h : Wrote b o n w w') : w.grownBy w' (some b) := ⟨h.os, h.tape, h.output, Nat.le_of_eq h.size.symm, fun k _ hk => h.block k (fun e => hk (by rw [e]))⟩
/-- One row is rewritten in place. -/
theorem EchM.wrote {w w' : World} {kb c nr np i : Nat} {Z : Nat → Nat → Int} {f : Nat → Int} {P : Nat → Nat} {vr vp : Value} {d : Int} {RB RO RC : Nat → Nat} (h : EchM w kb c nr np Z P vr vp d RB RO RC) (hi : i < nr)
    (hr : RowOwn w' (RB i) (RO i) c f) (hw : Wrote (RB i) (RO i) c w w') : EchM w' kb c nr np (fun i' => if i' = i then f else Z i') P vr vp d RB RO RC := by
  have hk := h.rng i hi
  have hne : kb ≠ RB i := by omega
  have hbk := hw.block kb hne
  exact {
    lt := by rw [hw.size]; exact h.lt
    c0 := (World.cell?_of_block (w := w) (a := ⟨kb, 0, none⟩) hbk).trans h.c0
    c1 := (World.cell?_of_block (w := w) (a := ⟨kb, 1, none⟩) hbk).trans h.c1
    c2 := (World.cell?_of_block (w := w) (a := ⟨kb, 2, none⟩) hbk).trans h.c2
    fz := fun j => (World.frozen?_of_block (w := w) (a := ⟨kb, j, none⟩) hbk).trans (h.fz j)
    ro := h.ro.kept (wrote_grown hw) (.inr (h.ra i hi))
    po := h.po.kept (wrote_grown hw) (.inr (h.pa i hi))
    rng := fun i' hi' => by rw [hw.size]; exact h.rng i' hi'
    row := fun i' hi' => by
      by_cases e : i' = i
      · subst e; simp only [if_pos]; exact hr
      · simp only [if_neg e]; exact (h.row i' hi').block (hw.block _ (h.apart i' hi' i hi e))
    apart := h.apart
    rc := h.rc
    ra := h.ra
    pa := h.pa }
/-- A block that is none of its own is rewritten. -/
theorem EchM.other {w w' : World} {kb c nr np b o n : Nat} {Z : Nat → Nat → Int} {P : Nat → Nat} {vr vp : Value} {d : Int} {RB RO RC : Nat → Nat} (h : EchM w kb c nr np Z P vr vp d RB RO RC)
    (h0 : kb ≠ b) (h1 : vr.ownBlock ≠ some b) (h2 : vp.ownBlock ≠ some b) (h3 : ∀ i, i < nr → RB i ≠ b) (hw : Wrote b o n w w') : EchM w' kb c nr np Z P vr vp d RB RO RC := by
  have hbk := hw.block kb h0
  exact {
    lt := by rw [hw.size]; exact h.lt
    c0 := (World.cell?_of_block (w := w) (a := ⟨kb, 0, none⟩) hbk).trans h.c0
    c1 := (World.cell?_of_block (w := w) (a := ⟨kb, 1, none⟩) hbk).trans h.c1
    c2 := (World.cell?_of_block (w := w) (a := ⟨kb, 2, none⟩) hbk).trans h.c2
    fz := fun j => (World.frozen?_of_block (w := w) (a := ⟨kb, j, none⟩) hbk).trans (h.fz j)
    ro := h.ro.kept (wrote_grown hw) (.inr h1)
    po := h.po.kept (wrote_grown hw) (.inr h2)
    rng := fun i' hi' => by rw [hw.size]; exact h.rng i' hi'
    row := fun i' hi' => (h.row i' hi').block (hw.block _ (h3 i' hi'))
    apart := h.apart
    rc := h.rc
    ra := h.ra
    pa := h.pa }
theorem setk_grown (w : World) (kb j : Nat) (v : Value) : w.grownBy (w.setCell ⟨kb, j, none⟩ v) (some kb) :=
  ⟨rfl, rfl, rfl, by simp [World.setCell], fun k _ hk => Below.heap_setCell _ _ _ _ (fun e => hk (by rw [show k = kb from e]))⟩
theorem not_kb {w : World} {kb n : Nat} {E : TypeId} {v : Value} {xs : List Value} (h : w.ownsRow (kb + 1) E 1 v n xs) : v.ownBlock ≠ some kb := fun e => by have := (h.lt kb e).1; omega
theorem EchM.setD {w : World} {kb c nr np : Nat} {Z : Nat → Nat → Int} {P : Nat → Nat} {vr vp : Value} {d : Int} {RB RO RC : Nat → Nat} (h : EchM w kb c nr np Z P vr vp d RB RO RC) (d' : Int) :
    EchM (w.setCell ⟨kb, 2, none⟩ (.int .i64 d')) kb c nr np Z P vr vp d' RB RO RC where
  lt := by have := h.lt; simpa [World.setCell] using this
  c0 := (World.cell?_setCell_other _ _ _ _ (by simp)).trans h.c0
  c1 := (World.cell?_setCell_other _ _ _ _ (by simp)).trans h.c1
  c2 := World.cell?_setCell_same w _ _ h.c2
  fz j := by simp [go_sem, h.fz j]
  ro := h.ro.kept (setk_grown _ _ _ _) (.inr (not_kb h.ro))
  po := h.po.kept (setk_grown _ _ _ _) (.inr (not_kb h.po))
  rng i hi := by have := h.rng i hi; simpa [World.setCell] using this
  row i hi := (h.row i hi).far kb 2 _ (by have := h.rng i hi; omega)
  apart := h.apart
  rc := h.rc
  ra := h.ra
  pa := h.pa
/-- A row is put in at t, and the list stored. -/
theorem EchM.insR {w w1 : World} {kb c nr np t b o k g cap : Nat} {Z : Nat → Nat → Int} {f : Nat → Int} {P : Nat → Nat} {vr vp : Value} {d : Int} {RB RO RC : Nat → Nat} (h : EchM w kb c nr np Z P vr vp d RB RO RC) (ht : t ≤ nr)
    (hr : RowOwn w b o c f) (hb0 : kb < b) (hb1 : b < w.heap.size) (hbr : ∀ i, i < nr → RB i ≠ b) (hvr : vr.ownBlock ≠ some b) (hvp : vp.ownBlock ≠ some b)
    (ho : w1.ownsRow (kb + 1) 22 1 (.slice (some ⟨g, 0, none⟩) (nr + 1) cap) (nr + 1) (ins _ (rowsV c RB RO RC nr) t (.slice (some ⟨b, o, none⟩) c k))) (hg : w.grownBy w1 vr.ownBlock) (hat : vr.ownBlock = some g ∨ g = w.heap.size) (hck : c ≤ k) :
    EchM (w1.setCell ⟨kb, 0, none⟩ (.slice (some ⟨g, 0, none⟩) (nr + 1) cap)) kb c (nr + 1) np (insF Z t f) P (.slice (some ⟨g, 0, none⟩) (nr + 1) cap) vp d (insF RB t b) (insF RO t o) (insF RC t k) := by
  have hlt := h.lt
  have hkb : w1.heap[kb]? = w.heap[kb]? := hg.block kb hlt (fun e => not_kb h.ro e.symm)
  have hsz := hg.size
  have hs1 : (w1.setCell ⟨kb, 0, none⟩ (.slice (some ⟨g, 0, none⟩) (nr + 1) cap)).heap.size = w1.heap.size := by simp [World.setCell]
  have hgk : kb < g := by
    have := (ho.lt g rfl).1; omega
  have rowk : ∀ (x y : Nat) (z : Nat → Int), RowOwn w x y c z → x < w.heap.size → kb < x → vr.ownBlock ≠ some x → RowOwn (w1.setCell ⟨kb, 0, none⟩ (.slice (some ⟨g, 0, none⟩) (nr + 1) cap)) x y c z := fun x y z hx h1 h2 h3 =>
    (hx.block (hg.block x h1 (fun e => h3 e.symm))).far kb 0 _ (by omega)
  have old_rng : ∀ i, i < nr + 1 → i ≠ t → old t i < nr := fun i hi hne => old_lt hi hne ht
  exact {
    lt := by rw [hs1]; omega
    c0 := World.cell?_setCell_same w1 _ _ ((World.cell?_of_block (w := w) (a := ⟨kb, 0, none⟩) hkb).trans h.c0)
    c1 := (World.cell?_setCell_other _ _ _ _ (by simp)).trans ((World.cell?_of_block (w := w) (a := ⟨kb, 1, none⟩) hkb).trans h.c1)
    c2 := (World.cell?_setCell_other _ _ _ _ (by simp)).trans ((World.cell?_of_block (w := w) (a := ⟨kb, 2, none⟩) hkb).trans h.c2)
    fz := fun j => by have := (World.frozen?_of_block (w := w) (a := ⟨kb, j, none⟩) hkb).trans (h.fz j); simp [go_sem, this]
    ro := by rw [rowsV_ins ht] at ho; exact ho.kept (setk_grown _ _ _ _) (.inr (not_kb ho))
    po := (h.po.kept hg (own_apart h.po h.ro (by decide))).kept (setk_grown _ _ _ _) (.inr (not_kb h.po))
    rng := fun i hi => by
      rw [hs1]; unfold insF
      by_cases e : i = t
      · rw [if_pos e]; omega
      · rw [if_neg e]; have := h.rng _ (old_rng i hi e); omega
    row := fun i hi => by
      unfold insF
      by_cases e : i = t
      · rw [if_pos e, if_pos e, if_pos e]; exact rowk b o f hr hb1 hb0 hvr
      · rw [if_neg e, if_neg e, if_neg e]
        have hx := old_rng i hi e
        exact rowk _ _ _ (h.row _ hx) (h.rng _ hx).2 (h.rng _ hx).1 (h.ra _ hx)
    apart := fun i hi i' hi' hne => by
      unfold insF
      by_cases e : i = t
      · have e' : i' ≠ t := by omega
        rw [if_pos e, if_neg e']; exact fun q => hbr _ (old_rng i' hi' e') q.symm
      · rw [if_neg e]
        by_cases e' : i' = t
        · rw [if_pos e']; exact hbr _ (old_rng i hi e)
        · rw [if_neg e']; exact h.apart _ (old_rng i hi e) _ (old_rng i' hi' e') (old_inj e e' hne)
    rc := fun i hi => by
      unfold insF
      by_cases e : i = t
      · rw [if_pos e]; exact hck
      · rw [if_neg e]; exact h.rc _ (old_rng i hi e)
    ra := fun i hi q => by
      have q2 : g = insF RB t b i := by simpa [Value.ownBlock] using q
      unfold insF at q2
      rcases hat with ha | ha
      · by_cases e : i = t
        · rw [if_pos e] at q2; exact hvr (by rw [ha, q2])
        · rw [if_neg e] at q2; exact h.ra _ (old_rng i hi e) (by rw [ha, q2])
      · by_cases e : i = t
        · rw [if_pos e] at q2; omega
        · rw [if_neg e] at q2; have := h.rng _ (old_rng i hi e); omega
    pa := fun i hi => by
      unfold insF
      by_cases e : i = t
      · rw [if_pos e]; exact hvp
      · rw [if_neg e]; exact h.pa _ (old_rng i hi e) }
/-- A pivot is put in at t, and the list stored. -/
theorem EchM.insP {w w1 : World} {kb c nr np t q g cap : Nat} {Z : Nat → Nat → Int} {P : Nat → Nat} {vr vp : Value} {d : Int} {RB RO RC : Nat → Nat} (h : EchM w kb c nr np Z P vr vp d RB RO RC) (ht : t ≤ np)
    (ho : w1.ownsRow (kb + 1) 3 1 (.slice (some ⟨g, 0, none⟩) (np + 1) cap) (np + 1) (ins _ (pivsV P np) t (.int .i64 (q : Int)))) (hg : w.grownBy w1 vp.ownBlock) (hat : vp.ownBlock = some g ∨ g = w.heap.size) :
    EchM (w1.setCell ⟨kb, 1, none⟩ (.slice (some ⟨g, 0, none⟩) (np + 1) cap)) kb c nr (np + 1) Z (insF P t q) vr (.slice (some ⟨g, 0, none⟩) (np + 1) cap) d RB RO RC := by
  have hlt := h.lt
  have hkb : w1.heap[kb]? = w.heap[kb]? := hg.block kb hlt (fun e => not_kb h.po e.symm)
  have hsz := hg.size
  have hs1 : (w1.setCell ⟨kb, 1, none⟩ (.slice (some ⟨g, 0, none⟩) (np + 1) cap)).heap.size = w1.heap.size := by simp [World.setCell]
  exact {
    lt := by rw [hs1]; omega
    c0 := (World.cell?_setCell_other _ _ _ _ (by simp)).trans ((World.cell?_of_block (w := w) (a := ⟨kb, 0, none⟩) hkb).trans h.c0)
    c1 := World.cell?_setCell_same w1 _ _ ((World.cell?_of_block (w := w) (a := ⟨kb, 1, none⟩) hkb).trans h.c1)
    c2 := (World.cell?_setCell_other _ _ _ _ (by simp)).trans ((World.cell?_of_block (w := w) (a := ⟨kb, 2, none⟩) hkb).trans h.c2)
    fz := fun j => by have := (World.frozen?_of_block (w := w) (a := ⟨kb, j, none⟩) hkb).trans (h.fz j); simp [go_sem, this]
    ro := (h.ro.kept hg (own_apart h.ro h.po (by decide))).kept (setk_grown _ _ _ _) (.inr (not_kb h.ro))
    po := by rw [pivsV_ins ht] at ho; exact ho.kept (setk_grown _ _ _ _) (.inr (not_kb ho))
    rng := fun i hi => by rw [hs1]; have := h.rng i hi; omega
    row := fun i hi => ((h.row i hi).block (hg.block _ (h.rng i hi).2 (fun e => h.pa i hi e.symm))).far kb 1 _ (by have := h.rng i hi; omega)
    apart := h.apart
    rc := h.rc
    ra := h.ra
    pa := fun i hi q => by
      have q2 : g = RB i := by simpa [Value.ownBlock] using q
      rcases hat with ha | ha
      · exact h.pa i hi (by rw [ha, q2])
      · have := h.rng i hi; omega }
/-- The rows, for those who read them. -/
theorem EchM.read {w : World} {kb c nr np i : Nat} {Z : Nat → Nat → Int} {P : Nat → Nat} {vr vp : Value} {d : Int} {RB RO RC : Nat → Nat} (h : EchM w kb c nr np Z P vr vp d RB RO RC) (hi : i < nr) :
    ∃ g cap, vr = .slice (some ⟨g, 0, none⟩) nr cap ∧ w.cell? ⟨g, i, none⟩ = some (.slice (some ⟨RB i, RO i, none⟩) c (RC i)) ∧ kb < g ∧ g < w.heap.size := by
  rcases h.ro.2 with ⟨_, h0⟩ | ⟨g, cap, cur, e, hb, hg, _⟩
  · omega
  · subst e
    have := h.ro.cells (g := g) rfl i (.slice (some ⟨RB i, RO i, none⟩) c (RC i)) (by simp [rowsV, hi])
    rw [Addr.add_lit, Nat.zero_add] at this
    exact ⟨g, cap, rfl, this, by omega, (Array.getElem?_eq_some_iff.1 hg).1⟩
theorem EchM.piv {w : World} {kb c nr np i : Nat} {Z : Nat → Nat → Int} {P : Nat → Nat} {vr vp : Value} {d : Int} {RB RO RC : Nat → Nat} (h : EchM w kb c nr np Z P vr vp d RB RO RC) (hi : i < np) :
    ∃ g cap, vp = .slice (some ⟨g, 0, none⟩) np cap ∧ w.cell? ⟨g, i, none⟩ = some (.int .i64 (P i : Int)) ∧ kb < g ∧ g < w.heap.size := by
  rcases h.po.2 with ⟨_, h0⟩ | ⟨g, cap, cur, e, hb, hg, _⟩
  · omega
  · subst e
    have := h.po.cells (g := g) rfl i (.int .i64 (P i : Int)) (by simp [pivsV, hi])
    rw [Addr.add_lit, Nat.zero_add] at this
    exact ⟨g, cap, rfl, this, by omega, (Array.getElem?_eq_some_iff.1 hg).1⟩
theorem EchM.rowIn {w : World} {kb c nr np i : Nat} {Z : Nat → Nat → Int} {P : Nat → Nat} {vr vp : Value} {d : Int} {RB RO RC : Nat → Nat} (h : EchM w kb c nr np Z P vr vp d RB RO RC) (hi : i < nr) (z : List Int) (hz : z.length = c) (e : ∀ j, j < c → z.getD j 0 = Z i j) :
    RowIn (RB i) (RB i + 1) w (some ⟨RB i, RO i, none⟩) z :=
  .inr ⟨RB i, RO i, rfl, Nat.le_refl _, Nat.lt_succ_self _, fun j hj => by rw [e j (by omega)]; exact (h.row i hi).cell j (by omega)⟩

end Go.Proofs.YtbnegbpapjcmhaaGreat
