/-
  The program's insertion in the middle of a full list: contracts.
  Conditions: the list is one's own, the value lies in a list of one cell.
  The program's echelon in memory: a block with the lists of rows and of pivots and the determinant; each row in a block of its own. What calls and stores do to it.
  No conditions.
  Elimination row by row as a relation: what steps have led from the rows taken to the reduced rows, their pivots and the determinant. No Go in sight.
  No conditions.
  The program's elimination, one row more: the walk of the function that takes it.
  Conditions: the echelon is one's own; the row is a row of known cells with numbers of the prime.
-/
import Derived.Test.YtdamdlihicinlaaMInv4
import Derived.Shelf.Spec.SlicesInsertGrow
import Derived.Test.YtdamdlihicinlaaMInv2
import Derived.Test.YtdamdlihicinlaaInvT
import Derived.StillTailTactics
namespace Go.Proofs.Ytdamdlihicinlaa
open Go.RowKit Go.ChangeShapes Go.WideShapes
set_option linter.unusedVariables false
theorem grow_list {C V : List Value} {x : Value} {i n : Nat} (h : C.take i = V.take i) (hi : i < n) (hV : V.length = n) (hC : n + 1 ≤ C.length) :
    (((C.take i ++ [x] ++ C.drop (i + ([x] : List Value).length)).toArray.toList.take (i + 1)) ++ V.drop i ++ (C.take i ++ [x] ++ C.drop (i + ([x] : List Value).length)).toArray.toList.drop (i + 1 + (V.drop i).length)).toArray.toList.take (n + 1) = V.take i ++ x :: V.drop i := by
  show (List.take (i + 1) (C.take i ++ [x] ++ C.drop (i + 1)) ++ V.drop i ++ List.drop (i + 1 + (V.drop i).length) (C.take i ++ [x] ++ C.drop (i + 1))).take (n + 1) = _
  have hl : (C.take i ++ [x]).length = i + 1 := by simp; omega
  have t1 : List.take (i + 1) (C.take i ++ [x] ++ C.drop (i + 1)) = C.take i ++ [x] := List.take_left' hl
  have hl2 : (C.take i ++ [x] ++ V.drop i).length = n + 1 := by rw [List.length_append, hl, List.length_drop]; omega
  rw [t1, List.take_left' hl2, h]
  simp

set_option maxRecDepth 100000 in
set_option maxHeartbeats 1600000 in
theorem insertM_grow (B n g i b1 c1 : Nat) (x : Value) (vals : List Value) (w : World) (ho : w.ownsRow B 22 1 (.slice (some ⟨g, 0, none⟩) n n) n vals) (hBw : B ≤ w.heap.size) (hi : i < n) (hn : n ≤ 1024) (hb1 : w.heap[b1]? = some (.cells #[x] 22 (0, 0))) (h1 : x.oneCell' = true) (hall : ∀ u : Value, u ∈ vals → u.oneCell' = true) :
    Calls Try.prog 185 #[.slice (some ⟨g, 0, none⟩) n n, .int .i64 i, .slice (some ⟨b1, 0, none⟩) 1 c1] w (InsP 22 B (.slice (some ⟨g, 0, none⟩) n n) n (vals.take i ++ x :: vals.drop i) w) := by
  obtain ⟨j0, kj, kz0, kz1, kz2⟩ := info_parts info_slice
  obtain ⟨cur, hg, hcs, hv⟩ : ∃ cur, w.heap[g]? = some (.cells cur 22 (0, 0)) ∧ cur.size = n ∧ cur.toList.take n = vals := by
    rcases ho.2 with ⟨h, _⟩ | ⟨g', cap', cur, h, q1, q2, q3, q4, q5, q6⟩
    · simp at h
    · cases h; exact ⟨cur, q2, by omega, by rw [Nat.mul_one] at q6; exact q6⟩
  have hsz := (Array.getElem?_eq_some_iff.1 hg).1
  have hb1z := (Array.getElem?_eq_some_iff.1 hb1).1
  have hvl : vals.length = n := by have := ho.1; omega
  have hdl : (vals.drop i).length = n - i := by rw [List.length_drop]; omega
  have hcell : ∀ j v, vals[j]? = some v → w.cell? ⟨g, 0 + j, none⟩ = some v := fun j v hj => by
    have h := ho.cells (g := g) rfl j v hj
    rwa [Addr.add_lit] at h
  have hik : i + (n + 1 - i) = n + 1 := by omega
  have HA0 := Lib.run_append_grow_zeros (P := Try.prog) w 63 3 63 22 j0 (.slice none 0 0) .i64 .i64 Try.underlying63 Try.underlying3 kj kz0 (some ⟨g, 0, none⟩) i n (vals.take i)
    (run_firstCells_some w.drew j0.size i ⟨g, 0, none⟩ i n (vals.take i) (by rw [kz1, List.length_take]; omega) (fun j v hj => by
      have hj2 : vals[j]? = some v := by
        rw [List.getElem?_take] at hj
        split at hj
        · exact hj
        · simp at hj
      have h := hcell j v hj2
      rw [Addr.add_lit]; exact h)) (n + 1 - i) (by omega) (by omega) (by omega) (by omega) (by rw [kz2]; omega) (by
        have := nextslicecap_le (need := i + (n + 1 - i)) (old := n) (by omega)
        rw [kz2]; omega)
  rw [hik] at HA0
  obtain ⟨gc, hgc⟩ : ∃ gc, gc = grownCap w (n + 1) n 22 := ⟨_, rfl⟩
  have hge : n + 1 ≤ gc := by rw [hgc]; exact grownCap_ge _ _ _ _
  have hle : gc ≤ maxLen := by rw [hgc]; exact grownCap_le_maxLen _ _ _ _ (by unfold maxLen; omega)
  rw [← hgc] at HA0
  obtain ⟨d0, hd0⟩ : ∃ d0, d0 = ((vals.take i).toArray ++ Builtin.zeroCells (Value.cells (.slice none 0 0)) (n + 1 - i) ++ Builtin.zeroCells (Value.cells (.slice none 0 0)) (gc - (n + 1))) := ⟨_, rfl⟩
  rw [← hd0] at HA0
  have hd0s : d0.size = gc := by rw [hd0]; simp [Builtin.zeroCells, Value.cells]; omega
  have hd0t : d0.toList.take i = vals.take i := by
    rw [hd0]; simp only [Array.toList_append, List.append_assoc]
    rw [List.take_left' (by simp; omega)]
  have hkk : ((n + 1 - i : Nat) : Int) = (n : Int) + 1 - (i : Int) := by omega
  rw [hkk] at HA0
  obtain ⟨w1, hw1⟩ : ∃ w1, w1 = w.drew.alloc (.cells d0 22) := ⟨_, rfl⟩
  have hnew : w1.heap[w.heap.size]? = some (.cells d0 22 (0, 0)) := by rw [hw1]; exact heap_alloc_new w.drew _
  have hbw : Below w.heap.size w w1 := by rw [hw1]; exact ((Below.refl w.heap.size w).drew).alloc (Nat.le_refl _) _
  have hold : ∀ k, k < w.heap.size → w1.heap[k]? = w.heap[k]? := fun k hk => hbw.block k hk
  have hz1 := hbw.size
  rw [← hw1] at HA0
  have HA := Lib.hid HA0
  obtain ⟨d1, hd1⟩ : ∃ d1, d1 = (d0.toList.take i ++ [x] ++ d0.toList.drop (i + ([x] : List Value).length)).toArray := ⟨_, rfl⟩
  obtain ⟨d2, hd2⟩ : ∃ d2, d2 = (d1.toList.take (i + 1) ++ vals.drop i ++ d1.toList.drop (i + 1 + (vals.drop i).length)).toArray := ⟨_, rfl⟩
  have hd1s : d1.size = gc := by rw [hd1]; simp; omega
  have hd2s : d2.size = gc := by rw [hd2]; simp; omega
  have R1 := run_copy_row Try.prog w1 63 63 3 22 w.heap.size i (n + 1 - i) (gc - i) ⟨b1, 0, none⟩ 1 c1 d0 22 [x] Try.underlying63 (by simp [kj, kz1]) hnew
    (by show 1 = Nat.min 1 (n + 1 - i); exact (Nat.min_eq_left (by omega)).symm) (fun j v hj => by
      match j, hj with
      | 0, hj =>
        simp at hj; subst hj
        show w1.cell? ⟨b1, 0, none⟩ = some x
        have hb1d : w1.heap[b1]? = some (.cells #[x] 22 (0, 0)) := (hold b1 hb1z).trans hb1
        simp [World.cell?, hb1d]) (by simp; omega) (fun u hu => by simp at hu; subst hu; exact h1)
  rw [← hd1] at R1
  have R2 := run_copy_row Try.prog (w1.setRow w.heap.size d1).drew 63 63 3 22 w.heap.size (i + 1) (n - i) (gc - (i + 1)) ⟨g, i, none⟩ (n - i) (n - i) d1 22 (vals.drop i) Try.underlying63 (by simp [kj, kz1]) (setRow_heap w1 w.heap.size d0 d1 22 (0, 0) hnew)
    (by rw [hdl]; exact (Nat.min_self _).symm) (fun j v hj => by
      rw [List.getElem?_drop] at hj
      have h := hcell (i + j) v hj
      rw [Nat.zero_add] at h
      rw [Addr.add_lit]
      show (w1.setRow w.heap.size d1).cell? ⟨g, i + j, none⟩ = some v
      rw [cell_setRow_other _ _ _ _ (by show g ≠ w.heap.size; omega), ← h]
      simp only [World.cell?, hold g hsz]) (by omega) (fun u hu => hall u (List.mem_of_mem_drop hu))
  rw [← hd2] at R2
  have HR1 := Lib.hid R1
  have HR2 := Lib.hid R2
  have HF : Hid (InsP 22 B (.slice (some ⟨g, 0, none⟩) n n) n (vals.take i ++ x :: vals.drop i) w (.returned (.slice (some ⟨w.heap.size, 0, none⟩) (n + 1) gc)) ((w1.setRow w.heap.size d1).drew.setRow w.heap.size d2)) := by
    refine ⟨w.heap.size, gc, rfl, ⟨by simp; omega, .inr ⟨w.heap.size, gc, d2, rfl, hBw, setRow_heap (w1.setRow w.heap.size d1).drew w.heap.size d1 d2 22 (0, 0) (setRow_heap w1 w.heap.size d0 d1 22 (0, 0) hnew), hge, hle, by omega, ?_⟩⟩, ?_, .inr rfl⟩
    · rw [Nat.mul_one, hd2, hd1]
      exact grow_list hd0t hi hvl (by simp; omega)
    · refine ⟨by rw [hw1]; rfl, by rw [hw1]; rfl, by rw [hw1]; rfl, ?_, fun k hk hk2 => ?_⟩
      · rw [setRow_size]
        show w.heap.size ≤ (w1.setRow w.heap.size d1).heap.size
        rw [setRow_size]; omega
      · have hkg : k ≠ w.heap.size := by omega
        rw [setRow_other _ _ _ _ hkg]
        show (w1.setRow w.heap.size d1).heap[k]? = _
        rw [setRow_other _ _ _ _ hkg]; exact hold k hk
  have hi1 : ¬ (i : Int) = (n : Int) := by omega
  have hi2 : ((i : Int) == (n : Int)) = false := by simp; omega
  have hi3 : (n : Int) < (n : Int) + 1 := by omega
  have eW : IntKind.i64.wrap ((i : Int) + 1) = (i : Int) + 1 := IntWalk.i64_in _ (by omega)
  have eN : ((i : Int) + 1).toNat = i + 1 := by omega
  have eB : 0 ≤ (i : Int) + 1 := by omega
  have eC : (i : Int) + 1 ≤ (n : Int) + 1 := by omega
  have eF : (i : Int) ≤ (n : Int) + 1 := by omega
  have eG : (i : Int) ≤ (n : Int) := by omega
  have eD : ¬ gc = i + 1 := by omega
  have eE : ¬ gc = i := by omega
  have eH : ¬ n = i := by omega
  have eI : n + 1 - (i + 1) = n - i := by omega
  clear R1 R2 HA0 hd1 hd2 hd1s hd2s hd0 hd0s hd0t hcell hvl hdl hv hg hb1 ho hcs hnew hold hbw hw1 hz1 hkk hik hgc hsz hb1z
  go_enter Try.func185, Try.ntmps185
  go_wp2_with (at_builtin; refine Lib.wpList_append_run _ rfl _ _ _ _ rfl _ _ rfl rfl _ _ HA.out ?_; have R1 := HR1.out)
  go_region_law (refine step_copy_runI (by rfl) _ _ _ _ (by rfl) (.slice (some ⟨w.heap.size, i + 1, none⟩) (n - i) (gc - (i + 1))) (.slice (some ⟨g, i, none⟩) (n - i) (n - i)) (by simp [Act.eval, Act.put]) (by simp [Act.eval, Act.put]) HR2.out ?_)
  go_wp2
  go_ret
  exact HF.out

theorem insertM_any (B n i b1 c1 : Nat) (v x : Value) (vals : List Value) (w : World) (ho : w.ownsRow B 22 1 v n vals) (hB : B ≤ w.heap.size) (hi : i ≤ n) (hn : n ≤ 1024) (hb1 : w.heap[b1]? = some (.cells #[x] 22 (0, 0))) (hne : v.ownBlock ≠ some b1) (h1 : x.oneCell' = true) (hall : ∀ u : Value, u ∈ vals → u.oneCell' = true) :
    Calls Try.prog 185 #[v, .int .i64 i, .slice (some ⟨b1, 0, none⟩) 1 c1] w (InsP 22 B v n (ins _ vals i x) w) := by
  have hvl : vals.length = n := by have := ho.1; omega
  by_cases e : i = n
  · subst e
    have hx : w.cell? ⟨b1, 0, none⟩ = some x := by simp [World.cell?, hb1]
    have e2 : ins _ vals i x = vals ++ [x] := by unfold ins; rw [List.take_of_length_le (by omega), List.drop_of_length_le (by omega)]
    rw [e2]
    exact insertM_end B i b1 c1 v x vals w ho hB hn hx h1
  · have ho' := ho.2
    rcases ho' with ⟨_, h0⟩ | ⟨g, cap, cur, rfl, _, _, hnc, _, _, _⟩
    · omega
    · have hbg : b1 ≠ g := fun k => hne (by rw [k]; rfl)
      by_cases hc : n + 1 ≤ cap
      · exact insertM_room B n g cap i b1 c1 x vals w ho (by omega) hc hn hb1 hbg h1 hall
      · have hcn : cap = n := by omega
        subst hcn
        exact insertM_grow B cap g i b1 c1 x vals w ho hB (by omega) hn hb1 h1 hall

set_option maxRecDepth 100000 in
set_option maxHeartbeats 1600000 in
theorem insertI_grow (B n g i b1 c1 : Nat) (x : Value) (vals : List Value) (w : World) (ho : w.ownsRow B 3 1 (.slice (some ⟨g, 0, none⟩) n n) n vals) (hBw : B ≤ w.heap.size) (hi : i < n) (hn : n ≤ 1024) (hb1 : w.heap[b1]? = some (.cells #[x] 3 (0, 0))) (h1 : x.oneCell' = true) (hall : ∀ u : Value, u ∈ vals → u.oneCell' = true) :
    Calls Try.prog 186 #[.slice (some ⟨g, 0, none⟩) n n, .int .i64 i, .slice (some ⟨b1, 0, none⟩) 1 c1] w (InsP 3 B (.slice (some ⟨g, 0, none⟩) n n) n (vals.take i ++ x :: vals.drop i) w) := by
  obtain ⟨j0, kj, kz0, kz1, kz2⟩ := info_parts info_place
  obtain ⟨cur, hg, hcs, hv⟩ : ∃ cur, w.heap[g]? = some (.cells cur 3 (0, 0)) ∧ cur.size = n ∧ cur.toList.take n = vals := by
    rcases ho.2 with ⟨h, _⟩ | ⟨g', cap', cur, h, q1, q2, q3, q4, q5, q6⟩
    · simp at h
    · cases h; exact ⟨cur, q2, by omega, by rw [Nat.mul_one] at q6; exact q6⟩
  have hsz := (Array.getElem?_eq_some_iff.1 hg).1
  have hb1z := (Array.getElem?_eq_some_iff.1 hb1).1
  have hvl : vals.length = n := by have := ho.1; omega
  have hdl : (vals.drop i).length = n - i := by rw [List.length_drop]; omega
  have hcell : ∀ j v, vals[j]? = some v → w.cell? ⟨g, 0 + j, none⟩ = some v := fun j v hj => by
    have h := ho.cells (g := g) rfl j v hj
    rwa [Addr.add_lit] at h
  have hik : i + (n + 1 - i) = n + 1 := by omega
  have HA0 := Lib.run_append_grow_zeros (P := Try.prog) w 106 3 106 3 j0 (.int .i64 0) .i64 .i64 Try.underlying106 Try.underlying3 kj kz0 (some ⟨g, 0, none⟩) i n (vals.take i)
    (run_firstCells_some w.drew j0.size i ⟨g, 0, none⟩ i n (vals.take i) (by rw [kz1, List.length_take]; omega) (fun j v hj => by
      have hj2 : vals[j]? = some v := by
        rw [List.getElem?_take] at hj
        split at hj
        · exact hj
        · simp at hj
      have h := hcell j v hj2
      rw [Addr.add_lit]; exact h)) (n + 1 - i) (by omega) (by omega) (by omega) (by omega) (by rw [kz2]; omega) (by
        have := nextslicecap_le (need := i + (n + 1 - i)) (old := n) (by omega)
        rw [kz2]; omega)
  rw [hik] at HA0
  obtain ⟨gc, hgc⟩ : ∃ gc, gc = grownCap w (n + 1) n 3 := ⟨_, rfl⟩
  have hge : n + 1 ≤ gc := by rw [hgc]; exact grownCap_ge _ _ _ _
  have hle : gc ≤ maxLen := by rw [hgc]; exact grownCap_le_maxLen _ _ _ _ (by unfold maxLen; omega)
  rw [← hgc] at HA0
  obtain ⟨d0, hd0⟩ : ∃ d0, d0 = ((vals.take i).toArray ++ Builtin.zeroCells (Value.cells (.int .i64 0)) (n + 1 - i) ++ Builtin.zeroCells (Value.cells (.int .i64 0)) (gc - (n + 1))) := ⟨_, rfl⟩
  rw [← hd0] at HA0
  have hd0s : d0.size = gc := by rw [hd0]; simp [Builtin.zeroCells, Value.cells]; omega
  have hd0t : d0.toList.take i = vals.take i := by
    rw [hd0]; simp only [Array.toList_append, List.append_assoc]
    rw [List.take_left' (by simp; omega)]
  have hkk : ((n + 1 - i : Nat) : Int) = (n : Int) + 1 - (i : Int) := by omega
  rw [hkk] at HA0
  obtain ⟨w1, hw1⟩ : ∃ w1, w1 = w.drew.alloc (.cells d0 3) := ⟨_, rfl⟩
  have hnew : w1.heap[w.heap.size]? = some (.cells d0 3 (0, 0)) := by rw [hw1]; exact heap_alloc_new w.drew _
  have hbw : Below w.heap.size w w1 := by rw [hw1]; exact ((Below.refl w.heap.size w).drew).alloc (Nat.le_refl _) _
  have hold : ∀ k, k < w.heap.size → w1.heap[k]? = w.heap[k]? := fun k hk => hbw.block k hk
  have hz1 := hbw.size
  rw [← hw1] at HA0
  have HA := Lib.hid HA0
  obtain ⟨d1, hd1⟩ : ∃ d1, d1 = (d0.toList.take i ++ [x] ++ d0.toList.drop (i + ([x] : List Value).length)).toArray := ⟨_, rfl⟩
  obtain ⟨d2, hd2⟩ : ∃ d2, d2 = (d1.toList.take (i + 1) ++ vals.drop i ++ d1.toList.drop (i + 1 + (vals.drop i).length)).toArray := ⟨_, rfl⟩
  have hd1s : d1.size = gc := by rw [hd1]; simp; omega
  have hd2s : d2.size = gc := by rw [hd2]; simp; omega
  have R1 := run_copy_row Try.prog w1 106 106 3 3 w.heap.size i (n + 1 - i) (gc - i) ⟨b1, 0, none⟩ 1 c1 d0 3 [x] Try.underlying106 (by simp [kj, kz1]) hnew
    (by show 1 = Nat.min 1 (n + 1 - i); exact (Nat.min_eq_left (by omega)).symm) (fun j v hj => by
      match j, hj with
      | 0, hj =>
        simp at hj; subst hj
        show w1.cell? ⟨b1, 0, none⟩ = some x
        have hb1d : w1.heap[b1]? = some (.cells #[x] 3 (0, 0)) := (hold b1 hb1z).trans hb1
        simp [World.cell?, hb1d]) (by simp; omega) (fun u hu => by simp at hu; subst hu; exact h1)
  rw [← hd1] at R1
  have R2 := run_copy_row Try.prog (w1.setRow w.heap.size d1).drew 106 106 3 3 w.heap.size (i + 1) (n - i) (gc - (i + 1)) ⟨g, i, none⟩ (n - i) (n - i) d1 3 (vals.drop i) Try.underlying106 (by simp [kj, kz1]) (setRow_heap w1 w.heap.size d0 d1 3 (0, 0) hnew)
    (by rw [hdl]; exact (Nat.min_self _).symm) (fun j v hj => by
      rw [List.getElem?_drop] at hj
      have h := hcell (i + j) v hj
      rw [Nat.zero_add] at h
      rw [Addr.add_lit]
      show (w1.setRow w.heap.size d1).cell? ⟨g, i + j, none⟩ = some v
      rw [cell_setRow_other _ _ _ _ (by show g ≠ w.heap.size; omega), ← h]
      simp only [World.cell?, hold g hsz]) (by omega) (fun u hu => hall u (List.mem_of_mem_drop hu))
  rw [← hd2] at R2
  have HR1 := Lib.hid R1
  have HR2 := Lib.hid R2
  have HF : Hid (InsP 3 B (.slice (some ⟨g, 0, none⟩) n n) n (vals.take i ++ x :: vals.drop i) w (.returned (.slice (some ⟨w.heap.size, 0, none⟩) (n + 1) gc)) ((w1.setRow w.heap.size d1).drew.setRow w.heap.size d2)) := by
    refine ⟨w.heap.size, gc, rfl, ⟨by simp; omega, .inr ⟨w.heap.size, gc, d2, rfl, hBw, setRow_heap (w1.setRow w.heap.size d1).drew w.heap.size d1 d2 3 (0, 0) (setRow_heap w1 w.heap.size d0 d1 3 (0, 0) hnew), hge, hle, by omega, ?_⟩⟩, ?_, .inr rfl⟩
    · rw [Nat.mul_one, hd2, hd1]
      exact grow_list hd0t hi hvl (by simp; omega)
    · refine ⟨by rw [hw1]; rfl, by rw [hw1]; rfl, by rw [hw1]; rfl, ?_, fun k hk hk2 => ?_⟩
      · rw [setRow_size]
        show w.heap.size ≤ (w1.setRow w.heap.size d1).heap.size
        rw [setRow_size]; omega
      · have hkg : k ≠ w.heap.size := by omega
        rw [setRow_other _ _ _ _ hkg]
        show (w1.setRow w.heap.size d1).heap[k]? = _
        rw [setRow_other _ _ _ _ hkg]; exact hold k hk
  have hi1 : ¬ (i : Int) = (n : Int) := by omega
  have hi2 : ((i : Int) == (n : Int)) = false := by simp; omega
  have hi3 : (n : Int) < (n : Int) + 1 := by omega
  have eW : IntKind.i64.wrap ((i : Int) + 1) = (i : Int) + 1 := IntWalk.i64_in _ (by omega)
  have eN : ((i : Int) + 1).toNat = i + 1 := by omega
  have eB : 0 ≤ (i : Int) + 1 := by omega
  have eC : (i : Int) + 1 ≤ (n : Int) + 1 := by omega
  have eF : (i : Int) ≤ (n : Int) + 1 := by omega
  have eG : (i : Int) ≤ (n : Int) := by omega
  have eD : ¬ gc = i + 1 := by omega
  have eE : ¬ gc = i := by omega
  have eH : ¬ n = i := by omega
  have eI : n + 1 - (i + 1) = n - i := by omega
  clear R1 R2 HA0 hd1 hd2 hd1s hd2s hd0 hd0s hd0t hcell hvl hdl hv hg hb1 ho hcs hnew hold hbw hw1 hz1 hkk hik hgc hsz hb1z
  go_enter Try.func186, Try.ntmps186
  go_wp2_with (at_builtin; refine Lib.wpList_append_run _ rfl _ _ _ _ rfl _ _ rfl rfl _ _ HA.out ?_; have R1 := HR1.out)
  go_region_law (refine step_copy_runI (by rfl) _ _ _ _ (by rfl) (.slice (some ⟨w.heap.size, i + 1, none⟩) (n - i) (gc - (i + 1))) (.slice (some ⟨g, i, none⟩) (n - i) (n - i)) (by simp [Act.eval, Act.put]) (by simp [Act.eval, Act.put]) HR2.out ?_)
  go_wp2
  go_ret
  exact HF.out

theorem insertI_any (B n i b1 c1 : Nat) (v x : Value) (vals : List Value) (w : World) (ho : w.ownsRow B 3 1 v n vals) (hB : B ≤ w.heap.size) (hi : i ≤ n) (hn : n ≤ 1024) (hb1 : w.heap[b1]? = some (.cells #[x] 3 (0, 0))) (hne : v.ownBlock ≠ some b1) (h1 : x.oneCell' = true) (hall : ∀ u : Value, u ∈ vals → u.oneCell' = true) :
    Calls Try.prog 186 #[v, .int .i64 i, .slice (some ⟨b1, 0, none⟩) 1 c1] w (InsP 3 B v n (ins _ vals i x) w) := by
  have hvl : vals.length = n := by have := ho.1; omega
  by_cases e : i = n
  · subst e
    have hx : w.cell? ⟨b1, 0, none⟩ = some x := by simp [World.cell?, hb1]
    have e2 : ins _ vals i x = vals ++ [x] := by unfold ins; rw [List.take_of_length_le (by omega), List.drop_of_length_le (by omega)]
    rw [e2]
    exact insertI_end B i b1 c1 v x vals w ho hB hn hx h1
  · have ho' := ho.2
    rcases ho' with ⟨_, h0⟩ | ⟨g, cap, cur, rfl, _, _, hnc, _, _, _⟩
    · omega
    · have hbg : b1 ≠ g := fun k => hne (by rw [k]; rfl)
      by_cases hc : n + 1 ≤ cap
      · exact insertI_room B n g cap i b1 c1 x vals w ho (by omega) hc hn hb1 hbg h1 hall
      · have hcn : cap = n := by omega
        subst hcn
        exact insertI_grow B cap g i b1 c1 x vals w ho hB (by omega) hn hb1 h1 hall

end Go.Proofs.Ytdamdlihicinlaa

namespace Go.Proofs.Ytdamdlihicinlaa
open Go.RowKit Go.ChangeShapes Go.WideShapes
set_option linter.unusedVariables false

def insF {α : Type} (f : Nat → α) (t : Nat) (x : α) : Nat → α := fun i => if i = t then x else f (old t i)
theorem ins_range {n t : Nat} (f : Nat → Value) (x : Value) (ht : t ≤ n) : ins _ ((List.range n).map f) t x = (List.range (n + 1)).map (insF f t x) := by
  have hl : ((List.range n).map f).length = n := by simp
  apply List.ext_getElem?
  intro i
  have h1 : (ins _ ((List.range n).map f) t x).length = n + 1 := by rw [ins_len x (by omega), hl]
  by_cases hi : i < n + 1
  · have e1 : (ins _ ((List.range n).map f) t x)[i]? = some ((ins _ ((List.range n).map f) t x).getD i x) := by
      rw [List.getD_eq_getElem?_getD, List.getElem?_eq_getElem (by omega)]; rfl
    have e2 : ((List.range (n + 1)).map (insF f t x))[i]? = some (insF f t x i) := by simp [hi]
    rw [e1, e2]
    congr 1
    unfold insF old
    rcases Nat.lt_trichotomy i t with l | l | l
    · rw [ins_lt x x (by omega) l, if_neg (by omega), if_pos l]; simp [show i < n by omega]
    · subst l; rw [ins_eq x x (by omega), if_pos rfl]
    · rw [ins_gt x x (by omega) l, if_neg (by omega), if_neg (by omega)]; simp [show i - 1 < n by omega]
  · rw [List.getElem?_eq_none (by omega), List.getElem?_eq_none (by simp; omega)]

def rowsV (c : Nat) (RB RO RC : Nat → Nat) (n : Nat) : List Value := (List.range n).map fun i => .slice (some ⟨RB i, RO i, none⟩) c (RC i)
def pivsV (P : Nat → Nat) (n : Nat) : List Value := (List.range n).map fun i => .int .i64 (P i : Int)
theorem rowsV_ins {c n t b o k : Nat} {RB RO RC : Nat → Nat} (ht : t ≤ n) : ins _ (rowsV c RB RO RC n) t (.slice (some ⟨b, o, none⟩) c k) = rowsV c (insF RB t b) (insF RO t o) (insF RC t k) (n + 1) := by
  unfold rowsV
  rw [ins_range _ _ ht]
  apply List.map_congr_left
  intro i _
  unfold insF
  split <;> rfl
theorem pivsV_ins {n t q : Nat} {P : Nat → Nat} (ht : t ≤ n) : ins _ (pivsV P n) t (.int .i64 (q : Int)) = pivsV (insF P t q) (n + 1) := by
  unfold pivsV
  rw [ins_range _ _ ht]
  apply List.map_congr_left
  intro i _
  unfold insF
  split <;> rfl
theorem rowsV_one {c n : Nat} {RB RO RC : Nat → Nat} : ∀ u : Value, u ∈ rowsV c RB RO RC n → u.oneCell' = true := by
  intro u hu; obtain ⟨i, _, rfl⟩ := List.mem_map.1 hu; rfl
theorem pivsV_one {n : Nat} {P : Nat → Nat} : ∀ u : Value, u ∈ pivsV P n → u.oneCell' = true := by
  intro u hu; obtain ⟨i, _, rfl⟩ := List.mem_map.1 hu; rfl
theorem own_apart {w : World} {B B' n n' : Nat} {E E' : TypeId} {v v' : Value} {xs xs' : List Value} (h : w.ownsRow B E 1 v n xs) (h' : w.ownsRow B' E' 1 v' n' xs') (hE : E ≠ E') : v.ownBlock = none ∨ v.ownBlock ≠ v'.ownBlock := by
  rcases h.2 with ⟨rfl, _⟩ | ⟨g, cap, cur, rfl, _, hg, _⟩
  · exact .inl rfl
  · refine .inr (fun e => ?_)
    rcases h'.2 with ⟨rfl, _⟩ | ⟨g', cap', cur', rfl, _, hg', _⟩
    · simp [Value.ownBlock] at e
    · simp [Value.ownBlock] at e
      subst e
      rw [hg] at hg'
      simp at hg'
      exact hE hg'.2

/-- In memory: nr rows of c numbers Z, np pivots P, the determinant d. -/
structure EchM (w : World) (kb c nr np : Nat) (Z : Nat → Nat → Int) (P : Nat → Nat) (vr vp : Value) (d : Int) (RB RO RC : Nat → Nat) : Prop where
  lt : kb < w.heap.size
  c0 : w.cell? ⟨kb, 0, none⟩ = some vr
  c1 : w.cell? ⟨kb, 1, none⟩ = some vp
  c2 : w.cell? ⟨kb, 2, none⟩ = some (.int .i64 d)
  fz : ∀ j, w.frozen? ⟨kb, j, none⟩ = false
  ro : w.ownsRow (kb + 1) 22 1 vr nr (rowsV c RB RO RC nr)
  po : w.ownsRow (kb + 1) 3 1 vp np (pivsV P np)
  rng : ∀ i, i < nr → kb < RB i ∧ RB i < w.heap.size
  row : ∀ i, i < nr → RowOwn w (RB i) (RO i) c (Z i)
  apart : ∀ i, i < nr → ∀ i', i' < nr → i ≠ i' → RB i ≠ RB i'
  rc : ∀ i, i < nr → c ≤ RC i
  ra : ∀ i, i < nr → vr.ownBlock ≠ some (RB i)
  pa : ∀ i, i < nr → vp.ownBlock ≠ some (RB i)

theorem EchM.congr {w : World} {kb c nr np : Nat} {Z Z' : Nat → Nat → Int} {P : Nat → Nat} {vr vp : Value} {d : Int} {RB RO RC : Nat → Nat} (h : EchM w kb c nr np Z P vr vp d RB RO RC) (e : ∀ i, i < nr → ∀ j, j < c → Z i j = Z' i j) :
    EchM w kb c nr np Z' P vr vp d RB RO RC :=
  { h with row := fun i hi => ⟨fun j hj => by rw [← e i hi j hj]; exact (h.row i hi).cell j hj, (h.row i hi).free⟩ }
/-- All blocks that it uses are as they were. -/
theorem EchM.keep {w w' : World} {kb c nr np : Nat} {Z : Nat → Nat → Int} {P : Nat → Nat} {vr vp : Value} {d : Int} {RB RO RC : Nat → Nat} (h : EchM w kb c nr np Z P vr vp d RB RO RC) (hb : Below w.heap.size w w') :
    EchM w' kb c nr np Z P vr vp d RB RO RC where
  lt := Nat.lt_of_lt_of_le h.lt hb.size
  c0 := (hb.cell (p := ⟨kb, 0, none⟩) h.lt).trans h.c0
  c1 := (hb.cell (p := ⟨kb, 1, none⟩) h.lt).trans h.c1
  c2 := (hb.cell (p := ⟨kb, 2, none⟩) h.lt).trans h.c2
  fz j := (hb.frozen (p := ⟨kb, j, none⟩) h.lt).trans (h.fz j)
  ro := h.ro.kept (below_grown hb) (by cases hv : vr.ownBlock <;> simp)
  po := h.po.kept (below_grown hb) (by cases hv : vp.ownBlock <;> simp)
  rng i hi := ⟨(h.rng i hi).1, Nat.lt_of_lt_of_le (h.rng i hi).2 hb.size⟩
  row i hi := (h.row i hi).block (hb.block _ (h.rng i hi).2)
  apart := h.apart
  rc := h.rc
  ra := h.ra
  pa := h.pa
theorem EchM.drew {w : World} {kb c nr np : Nat} {Z : Nat → Nat → Int} {P : Nat → Nat} {vr vp : Value} {d : Int} {RB RO RC : Nat → Nat} (h : EchM w kb c nr np Z P vr vp d RB RO RC) : EchM w.drew kb c nr np Z P vr vp d RB RO RC :=
  h.keep ((Below.refl _ _).drew)
theorem wrote_grown {w w' : World} {b o n : Nat} (h : Wrote b o n w w') : w.grownBy w' (some b) := ⟨h.os, h.tape, h.output, Nat.le_of_eq h.size.symm, fun k _ hk => h.block k (fun e => hk (by rw [e]))⟩
/-- One row is rewritten in place. -/
theorem EchM.wrote {w w' : World} {kb c nr np i : Nat} {Z : Nat → Nat → Int} {f : Nat → Int} {P : Nat → Nat} {vr vp : Value} {d : Int} {RB RO RC : Nat → Nat} (h : EchM w kb c nr np Z P vr vp d RB RO RC) (hi : i < nr)
    (hr : RowOwn w' (RB i) (RO i) c f) (hw : Wrote (RB i) (RO i) c w w') : EchM w' kb c nr np (fun i' => if i' = i then f else Z i') P vr vp d RB RO RC := by
  have hk := h.rng i hi
  have hne : kb ≠ RB i := by omega
  have hbk := hw.block kb hne
  exact {
    lt := by rw [hw.size]; exact h.lt
    c0 := (World.cell?_of_block (w := w) (a := ⟨kb, 0, none⟩) hbk).trans h.c0
    c1 := (World.cell?_of_block (w := w) (a := ⟨kb, 1, none⟩) hbk).trans h.c1
    c2 := (World.cell?_of_block (w := w) (a := ⟨kb, 2, none⟩) hbk).trans h.c2
    fz := fun j => (World.frozen?_of_block (w := w) (a := ⟨kb, j, none⟩) hbk).trans (h.fz j)
    ro := h.ro.kept (wrote_grown hw) (.inr (h.ra i hi))
    po := h.po.kept (wrote_grown hw) (.inr (h.pa i hi))
    rng := fun i' hi' => by rw [hw.size]; exact h.rng i' hi'
    row := fun i' hi' => by
      by_cases e : i' = i
      · subst e; simp only [if_pos]; exact hr
      · simp only [if_neg e]; exact (h.row i' hi').block (hw.block _ (h.apart i' hi' i hi e))
    apart := h.apart
    rc := h.rc
    ra := h.ra
    pa := h.pa }
/-- A block that is none of its own is rewritten. -/
theorem EchM.other {w w' : World} {kb c nr np b o n : Nat} {Z : Nat → Nat → Int} {P : Nat → Nat} {vr vp : Value} {d : Int} {RB RO RC : Nat → Nat} (h : EchM w kb c nr np Z P vr vp d RB RO RC)
    (h0 : kb ≠ b) (h1 : vr.ownBlock ≠ some b) (h2 : vp.ownBlock ≠ some b) (h3 : ∀ i, i < nr → RB i ≠ b) (hw : Wrote b o n w w') : EchM w' kb c nr np Z P vr vp d RB RO RC := by
  have hbk := hw.block kb h0
  exact {
    lt := by rw [hw.size]; exact h.lt
    c0 := (World.cell?_of_block (w := w) (a := ⟨kb, 0, none⟩) hbk).trans h.c0
    c1 := (World.cell?_of_block (w := w) (a := ⟨kb, 1, none⟩) hbk).trans h.c1
    c2 := (World.cell?_of_block (w := w) (a := ⟨kb, 2, none⟩) hbk).trans h.c2
    fz := fun j => (World.frozen?_of_block (w := w) (a := ⟨kb, j, none⟩) hbk).trans (h.fz j)
    ro := h.ro.kept (wrote_grown hw) (.inr h1)
    po := h.po.kept (wrote_grown hw) (.inr h2)
    rng := fun i' hi' => by rw [hw.size]; exact h.rng i' hi'
    row := fun i' hi' => (h.row i' hi').block (hw.block _ (h3 i' hi'))
    apart := h.apart
    rc := h.rc
    ra := h.ra
    pa := h.pa }
theorem setk_grown (w : World) (kb j : Nat) (v : Value) : w.grownBy (w.setCell ⟨kb, j, none⟩ v) (some kb) :=
  ⟨rfl, rfl, rfl, by simp [World.setCell], fun k _ hk => Below.heap_setCell _ _ _ _ (fun e => hk (by rw [show k = kb from e]))⟩
theorem not_kb {w : World} {kb n : Nat} {E : TypeId} {v : Value} {xs : List Value} (h : w.ownsRow (kb + 1) E 1 v n xs) : v.ownBlock ≠ some kb := fun e => by have := (h.lt kb e).1; omega
theorem EchM.setD {w : World} {kb c nr np : Nat} {Z : Nat → Nat → Int} {P : Nat → Nat} {vr vp : Value} {d : Int} {RB RO RC : Nat → Nat} (h : EchM w kb c nr np Z P vr vp d RB RO RC) (d' : Int) :
    EchM (w.setCell ⟨kb, 2, none⟩ (.int .i64 d')) kb c nr np Z P vr vp d' RB RO RC where
  lt := by have := h.lt; simpa [World.setCell] using this
  c0 := (World.cell?_setCell_other _ _ _ _ (by simp)).trans h.c0
  c1 := (World.cell?_setCell_other _ _ _ _ (by simp)).trans h.c1
  c2 := World.cell?_setCell_same w _ _ h.c2
  fz j := by simp [go_sem, h.fz j]
  ro := h.ro.kept (setk_grown _ _ _ _) (.inr (not_kb h.ro))
  po := h.po.kept (setk_grown _ _ _ _) (.inr (not_kb h.po))
  rng i hi := by have := h.rng i hi; simpa [World.setCell] using this
  row i hi := (h.row i hi).far kb 2 _ (by have := h.rng i hi; omega)
  apart := h.apart
  rc := h.rc
  ra := h.ra
  pa := h.pa
/-- A row is put in at t, and the list stored. -/
theorem EchM.insR {w w1 : World} {kb c nr np t b o k g cap : Nat} {Z : Nat → Nat → Int} {f : Nat → Int} {P : Nat → Nat} {vr vp : Value} {d : Int} {RB RO RC : Nat → Nat} (h : EchM w kb c nr np Z P vr vp d RB RO RC) (ht : t ≤ nr)
    (hr : RowOwn w b o c f) (hb0 : kb < b) (hb1 : b < w.heap.size) (hbr : ∀ i, i < nr → RB i ≠ b) (hvr : vr.ownBlock ≠ some b) (hvp : vp.ownBlock ≠ some b)
    (ho : w1.ownsRow (kb + 1) 22 1 (.slice (some ⟨g, 0, none⟩) (nr + 1) cap) (nr + 1) (ins _ (rowsV c RB RO RC nr) t (.slice (some ⟨b, o, none⟩) c k))) (hg : w.grownBy w1 vr.ownBlock) (hat : vr.ownBlock = some g ∨ g = w.heap.size) (hck : c ≤ k) :
    EchM (w1.setCell ⟨kb, 0, none⟩ (.slice (some ⟨g, 0, none⟩) (nr + 1) cap)) kb c (nr + 1) np (insF Z t f) P (.slice (some ⟨g, 0, none⟩) (nr + 1) cap) vp d (insF RB t b) (insF RO t o) (insF RC t k) := by
  have hlt := h.lt
  have hkb : w1.heap[kb]? = w.heap[kb]? := hg.block kb hlt (fun e => not_kb h.ro e.symm)
  have hsz := hg.size
  have hs1 : (w1.setCell ⟨kb, 0, none⟩ (.slice (some ⟨g, 0, none⟩) (nr + 1) cap)).heap.size = w1.heap.size := by simp [World.setCell]
  have hgk : kb < g := by
    have := (ho.lt g rfl).1; omega
  have rowk : ∀ (x y : Nat) (z : Nat → Int), RowOwn w x y c z → x < w.heap.size → kb < x → vr.ownBlock ≠ some x → RowOwn (w1.setCell ⟨kb, 0, none⟩ (.slice (some ⟨g, 0, none⟩) (nr + 1) cap)) x y c z := fun x y z hx h1 h2 h3 =>
    (hx.block (hg.block x h1 (fun e => h3 e.symm))).far kb 0 _ (by omega)
  have old_rng : ∀ i, i < nr + 1 → i ≠ t → old t i < nr := fun i hi hne => old_lt hi hne ht
  exact {
    lt := by rw [hs1]; omega
    c0 := World.cell?_setCell_same w1 _ _ ((World.cell?_of_block (w := w) (a := ⟨kb, 0, none⟩) hkb).trans h.c0)
    c1 := (World.cell?_setCell_other _ _ _ _ (by simp)).trans ((World.cell?_of_block (w := w) (a := ⟨kb, 1, none⟩) hkb).trans h.c1)
    c2 := (World.cell?_setCell_other _ _ _ _ (by simp)).trans ((World.cell?_of_block (w := w) (a := ⟨kb, 2, none⟩) hkb).trans h.c2)
    fz := fun j => by have := (World.frozen?_of_block (w := w) (a := ⟨kb, j, none⟩) hkb).trans (h.fz j); simp [go_sem, this]
    ro := by rw [rowsV_ins ht] at ho; exact ho.kept (setk_grown _ _ _ _) (.inr (not_kb ho))
    po := (h.po.kept hg (own_apart h.po h.ro (by decide))).kept (setk_grown _ _ _ _) (.inr (not_kb h.po))
    rng := fun i hi => by
      rw [hs1]; unfold insF
      by_cases e : i = t
      · rw [if_pos e]; omega
      · rw [if_neg e]; have := h.rng _ (old_rng i hi e); omega
    row := fun i hi => by
      unfold insF
      by_cases e : i = t
      · rw [if_pos e, if_pos e, if_pos e]; exact rowk b o f hr hb1 hb0 hvr
      · rw [if_neg e, if_neg e, if_neg e]
        have hx := old_rng i hi e
        exact rowk _ _ _ (h.row _ hx) (h.rng _ hx).2 (h.rng _ hx).1 (h.ra _ hx)
    apart := fun i hi i' hi' hne => by
      unfold insF
      by_cases e : i = t
      · have e' : i' ≠ t := by omega
        rw [if_pos e, if_neg e']; exact fun q => hbr _ (old_rng i' hi' e') q.symm
      · rw [if_neg e]
        by_cases e' : i' = t
        · rw [if_pos e']; exact hbr _ (old_rng i hi e)
        · rw [if_neg e']; exact h.apart _ (old_rng i hi e) _ (old_rng i' hi' e') (old_inj e e' hne)
    rc := fun i hi => by
      unfold insF
      by_cases e : i = t
      · rw [if_pos e]; exact hck
      · rw [if_neg e]; exact h.rc _ (old_rng i hi e)
    ra := fun i hi q => by
      have q2 : g = insF RB t b i := by simpa [Value.ownBlock] using q
      unfold insF at q2
      rcases hat with ha | ha
      · by_cases e : i = t
        · rw [if_pos e] at q2; exact hvr (by rw [ha, q2])
        · rw [if_neg e] at q2; exact h.ra _ (old_rng i hi e) (by rw [ha, q2])
      · by_cases e : i = t
        · rw [if_pos e] at q2; omega
        · rw [if_neg e] at q2; have := h.rng _ (old_rng i hi e); omega
    pa := fun i hi => by
      unfold insF
      by_cases e : i = t
      · rw [if_pos e]; exact hvp
      · rw [if_neg e]; exact h.pa _ (old_rng i hi e) }
/-- A pivot is put in at t, and the list stored. -/
theorem EchM.insP {w w1 : World} {kb c nr np t q g cap : Nat} {Z : Nat → Nat → Int} {P : Nat → Nat} {vr vp : Value} {d : Int} {RB RO RC : Nat → Nat} (h : EchM w kb c nr np Z P vr vp d RB RO RC) (ht : t ≤ np)
    (ho : w1.ownsRow (kb + 1) 3 1 (.slice (some ⟨g, 0, none⟩) (np + 1) cap) (np + 1) (ins _ (pivsV P np) t (.int .i64 (q : Int)))) (hg : w.grownBy w1 vp.ownBlock) (hat : vp.ownBlock = some g ∨ g = w.heap.size) :
    EchM (w1.setCell ⟨kb, 1, none⟩ (.slice (some ⟨g, 0, none⟩) (np + 1) cap)) kb c nr (np + 1) Z (insF P t q) vr (.slice (some ⟨g, 0, none⟩) (np + 1) cap) d RB RO RC := by
  have hlt := h.lt
  have hkb : w1.heap[kb]? = w.heap[kb]? := hg.block kb hlt (fun e => not_kb h.po e.symm)
  have hsz := hg.size
  have hs1 : (w1.setCell ⟨kb, 1, none⟩ (.slice (some ⟨g, 0, none⟩) (np + 1) cap)).heap.size = w1.heap.size := by simp [World.setCell]
  exact {
    lt := by rw [hs1]; omega
    c0 := (World.cell?_setCell_other _ _ _ _ (by simp)).trans ((World.cell?_of_block (w := w) (a := ⟨kb, 0, none⟩) hkb).trans h.c0)
    c1 := World.cell?_setCell_same w1 _ _ ((World.cell?_of_block (w := w) (a := ⟨kb, 1, none⟩) hkb).trans h.c1)
    c2 := (World.cell?_setCell_other _ _ _ _ (by simp)).trans ((World.cell?_of_block (w := w) (a := ⟨kb, 2, none⟩) hkb).trans h.c2)
    fz := fun j => by have := (World.frozen?_of_block (w := w) (a := ⟨kb, j, none⟩) hkb).trans (h.fz j); simp [go_sem, this]
    ro := (h.ro.kept hg (own_apart h.ro h.po (by decide))).kept (setk_grown _ _ _ _) (.inr (not_kb h.ro))
    po := by rw [pivsV_ins ht] at ho; exact ho.kept (setk_grown _ _ _ _) (.inr (not_kb ho))
    rng := fun i hi => by rw [hs1]; have := h.rng i hi; omega
    row := fun i hi => ((h.row i hi).block (hg.block _ (h.rng i hi).2 (fun e => h.pa i hi e.symm))).far kb 1 _ (by have := h.rng i hi; omega)
    apart := h.apart
    rc := h.rc
    ra := h.ra
    pa := fun i hi q => by
      have q2 : g = RB i := by simpa [Value.ownBlock] using q
      rcases hat with ha | ha
      · exact h.pa i hi (by rw [ha, q2])
      · have := h.rng i hi; omega }
/-- The rows, for those who read them. -/
theorem EchM.read {w : World} {kb c nr np i : Nat} {Z : Nat → Nat → Int} {P : Nat → Nat} {vr vp : Value} {d : Int} {RB RO RC : Nat → Nat} (h : EchM w kb c nr np Z P vr vp d RB RO RC) (hi : i < nr) :
    ∃ g cap, vr = .slice (some ⟨g, 0, none⟩) nr cap ∧ w.cell? ⟨g, i, none⟩ = some (.slice (some ⟨RB i, RO i, none⟩) c (RC i)) ∧ kb < g ∧ g < w.heap.size := by
  rcases h.ro.2 with ⟨_, h0⟩ | ⟨g, cap, cur, e, hb, hg, _⟩
  · omega
  · subst e
    have := h.ro.cells (g := g) rfl i (.slice (some ⟨RB i, RO i, none⟩) c (RC i)) (by simp [rowsV, hi])
    rw [Addr.add_lit, Nat.zero_add] at this
    exact ⟨g, cap, rfl, this, by omega, (Array.getElem?_eq_some_iff.1 hg).1⟩
theorem EchM.piv {w : World} {kb c nr np i : Nat} {Z : Nat → Nat → Int} {P : Nat → Nat} {vr vp : Value} {d : Int} {RB RO RC : Nat → Nat} (h : EchM w kb c nr np Z P vr vp d RB RO RC) (hi : i < np) :
    ∃ g cap, vp = .slice (some ⟨g, 0, none⟩) np cap ∧ w.cell? ⟨g, i, none⟩ = some (.int .i64 (P i : Int)) ∧ kb < g ∧ g < w.heap.size := by
  rcases h.po.2 with ⟨_, h0⟩ | ⟨g, cap, cur, e, hb, hg, _⟩
  · omega
  · subst e
    have := h.po.cells (g := g) rfl i (.int .i64 (P i : Int)) (by simp [pivsV, hi])
    rw [Addr.add_lit, Nat.zero_add] at this
    exact ⟨g, cap, rfl, this, by omega, (Array.getElem?_eq_some_iff.1 hg).1⟩
theorem EchM.rowIn {w : World} {kb c nr np i : Nat} {Z : Nat → Nat → Int} {P : Nat → Nat} {vr vp : Value} {d : Int} {RB RO RC : Nat → Nat} (h : EchM w kb c nr np Z P vr vp d RB RO RC) (hi : i < nr) (z : List Int) (hz : z.length = c) (e : ∀ j, j < c → z.getD j 0 = Z i j) :
    RowIn (RB i) (RB i + 1) w (some ⟨RB i, RO i, none⟩) z :=
  .inr ⟨RB i, RO i, rfl, Nat.le_refl _, Nat.lt_succ_self _, fun j hj => by rw [e j (by omega)]; exact (h.row i hi).cell j (by omega)⟩

end Go.Proofs.Ytdamdlihicinlaa

namespace Go.Proofs.Ytdamdlihicinlaa
set_option linter.unusedVariables false

/-- A row reduced by the first k of reduced rows: with the sum that was added. -/
structure Red2 (p : Int) (c : Nat) (m : List (List Int)) (P : Nat → Nat) (r r' : List Int) (k : Nat) : Prop extends Redu p c m P r r' k where
  lin : ∃ K : Nat → Int, ∀ j, j < c → num r' j % p = (num r j + sm m.length (fun i => K i * at' m i j)) % p
theorem sm_upd (n k : Nat) (K : Nat → Int) (x : Int) (f : Nat → Int) (hk : k < n) : sm n (fun i => (if i = k then K i + x else K i) * f i) = sm n (fun i => K i * f i) + x * f k := by
  have e : sm n (fun i => (if i = k then K i + x else K i) * f i) = sm n (fun i => K i * f i + (if i = k then x * f k else 0)) := sm_congr (fun i _ => by
    by_cases e : i = k
    · subst e; rw [if_pos rfl, if_pos rfl, Int.add_mul]
    · rw [if_neg e, if_neg e, Int.add_zero])
  rw [e, sm_add, sm_single, if_pos hk]
theorem Red2.start {p : Int} {c : Nat} {m : List (List Int)} {P : Nat → Nat} {r : List Int} (hl : r.length = c) (hr : ∀ j, j < c → 0 ≤ num r j ∧ num r j < p) : Red2 p c m P r r 0 where
  toRedu := Redu.start hl hr
  lin := by
    refine ⟨fun _ => 0, fun j _ => ?_⟩
    have : sm m.length (fun i => (0 : Int) * at' m i j) = sm m.length (fun _ => 0) := sm_congr (fun i _ => Int.zero_mul _)
    rw [this, sm_zero, Int.add_zero]
theorem Red2.next {p : Int} {c : Nat} {m : List (List Int)} {P : Nat → Nat} {r r' r'' : List Int} {k : Nat} (hp : prm p = true) (h : Red2 p c m P r r' k) (hR : Rref p m.length c (at' m) P) (hk : k < m.length)
    (hl : r''.length = c) (hn : ∀ j, j < c → num r'' j = (num r' j + (p - num r' (P k)) % p * at' m k j) % p) : Red2 p c m P r r'' (k + 1) where
  toRedu := h.toRedu.next hp hR hk hl hn
  lin := by
    obtain ⟨K, hK⟩ := h.lin
    refine ⟨fun i => if i = k then K i + (p - num r' (P k)) % p else K i, fun j hj => ?_⟩
    rw [sm_upd _ _ _ _ _ hk, hn j hj, Int.emod_emod, Int.add_emod, hK j hj, ← Int.add_emod, Int.add_assoc]

/-- What a row that is taken and left does to the rows that are kept. -/
structure Took (p : Int) (c : Nat) (m : List (List Int)) (P : Nat → Nat) (r r' s : List Int) (m' : List (List Int)) (q t : Nat) : Prop where
  rl : r.length = c
  red : Red2 p c m P r r' m.length
  qc : q < c
  q0 : num r' q ≠ 0
  ql : ∀ j, j < q → num r' j = 0
  ss : ∀ j, j < c → num s j = num r' j * inv p (num r' q) % p
  sl : s.length = c
  ml : m'.length = m.length
  mc : ∀ i, i < m.length → (rw' m' i).length = c
  mr : ∀ i, i < m.length → ∀ j, j < c → at' m' i j = (at' m i j + (p - at' m i q) % p * num s j) % p
  tn : t ≤ m.length
  tl : ∀ i, i < t → P i < q
  tr : ∀ i, t ≤ i → i < m.length → q < P i
/-- The sign of an insertion at t of n. -/
def sgn (p : Int) (n t : Nat) (x : Int) : Int := if (n - t) % 2 = 0 then x else -x % p
inductive Elm (p : Int) (c : Nat) : List (List Int) → List (List Int) → (Nat → Nat) → Int → Prop
  | start (P : Nat → Nat) : Elm p c [] [] P 1
  | same {A m : List (List Int)} {P : Nat → Nat} {d : Int} {r r' : List Int} : Elm p c A m P d → r.length = c → Red2 p c m P r r' m.length → (∀ j, j < c → num r' j = 0) → Elm p c (A ++ [r]) m P d
  | more {A m m' : List (List Int)} {P : Nat → Nat} {d : Int} {r r' s : List Int} {q t : Nat} : Elm p c A m P d → Took p c m P r r' s m' q t →
      Elm p c (A ++ [r]) (ins _ m' t s) (fun i => if i = t then q else P (old t i)) (d * sgn p m.length t (num r' q) % p)

theorem Elm.kept {p : Int} {c : Nat} {A m : List (List Int)} {P : Nat → Nat} {d : Int} (hp : prm p = true) (h : Elm p c A m P d) : Kept p c A m P := by
  induction h with
  | start P => exact Kept.start p c P
  | same _ _ hr h0 ih => exact ih.same hr.van h0
  | more _ k ih => exact ih.more hp k.red.van k.red.zer k.red.rng k.qc k.q0 k.ql k.ss k.sl k.ml k.mc k.mr k.tn k.tl k.tr
theorem Elm.det {p : Int} {c : Nat} {A m : List (List Int)} {P : Nat → Nat} {d : Int} (hp : prm p = true) (h : Elm p c A m P d) : 0 ≤ d ∧ d < p := by
  have := prm_bd hp
  induction h with
  | start P => omega
  | same _ _ _ _ ih => exact ih
  | more _ _ _ => exact mod_bd hp _

end Go.Proofs.Ytdamdlihicinlaa

namespace Go.Proofs.Ytdamdlihicinlaa
open Go.RowKit Go.ChangeShapes Go.WideShapes
set_option linter.unusedVariables false

/-- A new list with its room. -/
def NewLC (n : Nat) (z : List Int) (w : World) (e : Ending) (w' : World) : Prop :=
  z.length = n ∧ ∃ r c, e = .returned (.slice r n c) ∧ TagR w.heap.size w'.heap.size w' r z ∧ Below w.heap.size w w' ∧ n ≤ c
set_option maxRecDepth 100000 in
set_option maxHeartbeats 800000 in
theorem cloneN (a : Option Addr) (zs : List Int) (n ca lo tp : Nat) (w : World) (ha : RowIn lo tp w a zs) (ht : tp ≤ w.heap.size) (hn : zs.length = n) (h0 : 0 < n) (hs : n ≤ 1024) :
    Calls Try.prog 128 #[.slice a n ca] w (NewLC n zs w) := by
  subst hn
  obtain ⟨i0, hi, hz0, hz1, hz2⟩ := info_parts info64
  rcases ha with h | ⟨b, o, rfl, _, hb, hc⟩
  · rw [h] at h0; simp at h0
  · have hbw : b < w.heap.size := Nat.lt_of_lt_of_le hb ht
    have HN := Lib.hid (news_of hc (.cells #[] 2) hbw)
    have q : ∀ W : World, (binOp .eql 22 (.slice (some ⟨b, o, none⟩) zs.length ca) (.slice none 0 0)).run Try.prog W = .ok (.bool false) W := fun W => Lib.run_eql_slice_nil W _ _ _ _ _ _ _ Try.underlying22
    clear hc
    go_enter Try.func128, Try.ntmps128
    go_wp2_with (at_builtin; refine wpList_append_lies _ rfl _ _ 22 rfl w.heap.size 2 i0 (.int .i64 0) 1 8 Try.underlying22 hi hz0 hz1 hz2 rfl (by decide) _ 0 [] rfl (World.ownsRow_made w #[] 0 (Nat.le_refl _) (Nat.zero_le _) rfl) ⟨b, o, none⟩ zs.length ca (zs.map (Value.int .i64)) rfl (by simp) HN.out (ones_of zs) h0 (by unfold maxLen; omega) (by omega) (by simp) (w.heap.size + 1) (by simp) ?_; intro gg cap w1 hown1 hgrow hat hlt1)
    rw [Nat.zero_add] at hown1
    have HO : Hid (OutR w.heap.size w1 (.slice (some ⟨gg, 0, none⟩) zs.length cap) zs) := OutR.of hown1 rfl
    have HB : Hid (Below w.heap.size w w1) := ((Below.refl _ _).alloc (Nat.le_refl _) _).grown hgrow (by simp) (fun k hk => by cases hk; exact Nat.le_refl _)
    have HCP : Hid (zs.length ≤ cap) := by
      rcases HO.out.2 with ⟨e, _⟩ | ⟨g, cp, cur, e, _, _, hnc, _⟩
      · cases e
      · injection e with _ _ e3; show zs.length ≤ cap; omega
    clear hown1 hgrow
    go_wp2
    go_ret
    obtain ⟨a', c', e', ht'⟩ := HO.out.tag
    injection e' with e1 e2 e3
    subst e1
    exact ⟨rfl, _, cap, rfl, ht', HB.out, HCP.out⟩

theorem oppQ (p a : Int) (w : World) (hp : prm p = true) (a0 : 0 ≤ a) (a1 : a < p) :
    Calls Try.prog 179 #[.int .i64 p, .int .i64 a] w fun e w' => e = .returned (.int .i64 (-a % p)) ∧ w' = w :=
  (opposite_any p a w hp a0 a1).mono (by rintro e w' ⟨rfl, rfl⟩; exact ⟨rfl, rfl⟩)
theorem addN (p k : Int) (b o n c : Nat) (f : Nat → Int) (a : Option Addr) (z : List Int) (nz cz lo tp : Nat) (w : World) (hp : prm p = true) (h : RowOwn w b o n f) (hz : RowIn lo tp w a z) (hb : b < lo ∨ tp ≤ b) (hl : z.length = nz) (hn : nz = n) (hs : n ≤ 1024) (hf : ∀ j, j < n → 0 ≤ f j ∧ f j < p) (hzn : ∀ j, j < n → 0 ≤ num z j ∧ num z j < p) (k0 : 0 ≤ k) (k1 : k ≤ p) :
    Calls Try.prog 139 #[.int .i64 p, .slice (some ⟨b, o, none⟩) n c, .int .i64 k, .slice a nz cz] w fun e w' => e = .returned (.tuple #[]) ∧ RowOwn w' b o n (fun j => (f j + k * num z j) % p) ∧ Wrote b o n w w' := by
  subst hl
  exact addMultiple_any p k b o n c f a z cz lo tp w hp h hz hb (by omega) (by omega) hf (fun j hj => hzn j (by omega)) k0 k1
theorem EchM.pivA {w : World} {kb c nr np i : Nat} {Z : Nat → Nat → Int} {P : Nat → Nat} {ar ap : Option Addr} {cr cp : Nat} {d : Int} {RB RO RC : Nat → Nat} (h : EchM w kb c nr np Z P (.slice ar nr cr) (.slice ap np cp) d RB RO RC) (hi : i < np) :
    ∃ g, ap = some ⟨g, 0, none⟩ ∧ w.cell? ⟨g, i, none⟩ = some (.int .i64 (P i : Int)) ∧ kb < g ∧ g < w.heap.size := by
  obtain ⟨g, cap, e, h1, h2, h3⟩ := h.piv hi
  cases e
  exact ⟨g, rfl, h1, h2, h3⟩
theorem EchM.readA {w : World} {kb c nr np i : Nat} {Z : Nat → Nat → Int} {P : Nat → Nat} {ar ap : Option Addr} {cr cp : Nat} {d : Int} {RB RO RC : Nat → Nat} (h : EchM w kb c nr np Z P (.slice ar nr cr) (.slice ap np cp) d RB RO RC) (hi : i < nr) :
    ∃ g, ar = some ⟨g, 0, none⟩ ∧ w.cell? ⟨g, i, none⟩ = some (.slice (some ⟨RB i, RO i, none⟩) c (RC i)) ∧ kb < g ∧ g < w.heap.size := by
  obtain ⟨g, cap, e, h1, h2, h3⟩ := h.read hi
  cases e
  exact ⟨g, rfl, h1, h2, h3⟩
theorem RowOwn.congr {w : World} {b o n : Nat} {f g : Nat → Int} (h : RowOwn w b o n f) (e : ∀ j, j < n → f j = g j) : RowOwn w b o n g := ⟨fun j hj => by rw [← e j hj]; exact h.cell j hj, h.free⟩
theorem Wrote.belowk {b o n k : Nat} {w w' : World} (h : Wrote b o n w w') (hk : k ≤ b) : Below k w w' := ⟨h.os, h.tape, h.output, Nat.le_of_eq h.size.symm, fun i hi => h.block i (by omega)⟩
theorem num_mkR {c : Nat} {f : Nat → Int} {j : Nat} (h : j < c) : num (mkR c f) j = f j := mkR_at f h

theorem RowOwn.rowIn {w : World} {b o c : Nat} {z : List Int} (h : RowOwn w b o c (num z)) (hz : z.length = c) : RowIn b (b + 1) w (some ⟨b, o, none⟩) z :=
  .inr ⟨b, o, rfl, Nat.le_refl _, Nat.lt_succ_self _, fun j hj => h.cell j (by omega)⟩
theorem EchM.far {w : World} {kb c nr np : Nat} {Z : Nat → Nat → Int} {P : Nat → Nat} {vr vp : Value} {d : Int} {RB RO RC : Nat → Nat} (h : EchM w kb c nr np Z P vr vp d RB RO RC) (x j : Nat) (v : Value)
    (h0 : kb ≠ x) (h1 : vr.ownBlock ≠ some x) (h2 : vp.ownBlock ≠ some x) (h3 : ∀ i, i < nr → RB i ≠ x) : EchM (w.setCell ⟨x, j, none⟩ v) kb c nr np Z P vr vp d RB RO RC :=
  h.other (b := x) (o := j) (n := 1) h0 h1 h2 h3 ((Wrote.refl x j 1 w).set (by omega : 0 < 1) v)
/-- The result's block, and none else, is written. -/
theorem below_res {k x : Nat} {w w' : World} (h : Below k w w') (hk : k ≤ x) (u v y : Value) : Below k w (((w'.setCell ⟨x, 0, none⟩ u).setCell ⟨x, 1, none⟩ v).setCell ⟨x, 2, none⟩ y) :=
  Below.setCell (Below.setCell (Below.setCell h (show k ≤ (⟨x, 0, none⟩ : Addr).block from hk) u) (show k ≤ (⟨x, 1, none⟩ : Addr).block from hk) v) (show k ≤ (⟨x, 2, none⟩ : Addr).block from hk) y

theorem NumAt.block {w w' : World} {b : Nat} {p v : Int} (h : NumAt w b p v) (e : w'.heap[b]? = w.heap[b]?) : NumAt w' b p v :=
  ⟨(World.cell?_of_block (w := w) (a := ⟨b, 0, none⟩) e).trans h.c0, (World.cell?_of_block (w := w) (a := ⟨b, 1, none⟩) e).trans h.c1, (World.frozen?_of_block (w := w) (a := ⟨b, 0, none⟩) e).trans h.f0, (World.frozen?_of_block (w := w) (a := ⟨b, 1, none⟩) e).trans h.f1⟩
/-- The first i rows are reduced by the new one. -/
def zstep (p : Int) (m : List (List Int)) (s : List Int) (q i : Nat) : Nat → Nat → Int := fun i' => if i' < i then (fun j => (at' m i' j + (-(at' m i' q) % p) * num s j) % p) else at' m i'
theorem zstep_at (p : Int) (m : List (List Int)) (s : List Int) (q i : Nat) : zstep p m s q i i = at' m i := if_neg (Nat.lt_irrefl _)
theorem zstep_next (p : Int) (m : List (List Int)) (s : List Int) (q i : Nat) (x : Int) (hx : x = at' m i q) (i' : Nat) : (if i' = i then (fun j => (at' m i j + (-x % p) * num s j) % p) else zstep p m s q i i') = zstep p m s q (i + 1) i' := by
  subst hx
  unfold zstep
  by_cases e : i' = i
  · subst e; rw [if_pos rfl, if_pos (by omega)]
  · rw [if_neg e]
    by_cases l : i' < i
    · rw [if_pos l, if_pos (by omega)]
    · rw [if_neg l, if_neg (by omega)]

/-- Blocks rb and vb are as they were. -/
def Kp (rb vb : Nat) (w0 w : World) : Prop := ∀ k, (k = rb ∨ k = vb) → w.heap[k]? = w0.heap[k]?
theorem Kp.step {rb vb : Nat} {w0 w w' : World} (h : Kp rb vb w0 w) (e : ∀ k, (k = rb ∨ k = vb) → w'.heap[k]? = w.heap[k]?) : Kp rb vb w0 w' := fun k hk => (e k hk).trans (h k hk)
/-- Block vb is none of the echelon's. -/
def Apt (vb n : Nat) (vr vp : Value) (RB : Nat → Nat) : Prop := vr.ownBlock ≠ some vb ∧ vp.ownBlock ≠ some vb ∧ ∀ i, i < n → RB i ≠ vb
/-- Stores into another block. -/
theorem res_other {x k : Nat} (w : World) (u v y : Value) (h : k ≠ x) : (((w.setCell ⟨x, 0, none⟩ u).setCell ⟨x, 1, none⟩ v).setCell ⟨x, 2, none⟩ y).heap[k]? = w.heap[k]? :=
  ((Below.heap_setCell _ _ _ _ (show k ≠ (⟨x, 2, none⟩ : Addr).block from h)).trans (Below.heap_setCell _ _ _ _ (show k ≠ (⟨x, 1, none⟩ : Addr).block from h))).trans (Below.heap_setCell _ _ _ _ (show k ≠ (⟨x, 0, none⟩ : Addr).block from h))
/-- The echelon behind a row more. -/
def Taken (p : Int) (kb c vb : Nat) (A : List (List Int)) (r : List Int) (w : World) (e : Ending) (w' : World) : Prop :=
  ∃ (m : List (List Int)) (P : Nat → Nat) (d : Int) (ar ap : Option Addr) (cr cp : Nat) (RB RO RC : Nat → Nat),
    e = .returned (.agg #[.slice ar m.length cr, .slice ap m.length cp, .int .i64 d]) ∧ EchM w' kb c m.length m.length (at' m) P (.slice ar m.length cr) (.slice ap m.length cp) d RB RO RC ∧ Elm p c (A ++ [r]) m P d ∧ Below kb w w' ∧
    w'.heap[vb]? = w.heap[vb]? ∧ Apt vb m.length (.slice ar m.length cr) (.slice ap m.length cp) RB

theorem taken_of {p : Int} {kb c q t vb : Nat} {A m : List (List Int)} {P : Nat → Nat} {d d' : Int} {ar' ap' : Option Addr} {cr' cp' : Nat} {RB RO RC : Nat → Nat} {r r' sr : List Int} {w W : World}
    (hE : EchM W kb c (m.length + 1) (m.length + 1) (insF (zstep p m sr q m.length) t (num sr)) (insF P t q) (.slice ar' (m.length + 1) cr') (.slice ap' (m.length + 1) cp') d' RB RO RC)
    (hM : Elm p c A m P d) (hT : Took p c m P r r' sr (mk m.length c (zstep p m sr q m.length)) q t) (hd : d' = d * sgn p m.length t (num r' q) % p) (hb : Below kb w W) (hv : W.heap[vb]? = w.heap[vb]?) (ha : Apt vb (m.length + 1) (.slice ar' (m.length + 1) cr') (.slice ap' (m.length + 1) cp') RB) :
    Taken p kb c vb A r w (.returned (.agg #[.slice ar' (m.length + 1) cr', .slice ap' (m.length + 1) cp', .int .i64 d'])) W := by
  have hm' : (mk m.length c (zstep p m sr q m.length)).length = m.length := mk_len _ _ _
  have htn := hT.tn
  have hl : (ins _ (mk m.length c (zstep p m sr q m.length)) t sr).length = m.length + 1 := by rw [ins_len sr (by omega), hm']
  have hM2 := Elm.more hM hT
  rw [← hd] at hM2
  refine ⟨_, _, d', ar', ap', cr', cp', RB, RO, RC, by rw [hl], ?_, hM2, hb, hv, by rw [hl]; exact ha⟩
  rw [hl]
  refine hE.congr (fun i hi j hj => ?_)
  unfold insF
  by_cases e : i = t
  · rw [if_pos e, e, at_ins_new sr (by omega)]
  · rw [if_neg e, at_ins sr (by omega) e, mk_at _ (old_lt hi e htn) hj]
/-- The determinant is stored and a list of one cell is made. -/
theorem EchM.pre {WA : World} {kb c n z : Nat} {Z : Nat → Nat → Int} {P : Nat → Nat} {vr vp : Value} {d : Int} {RB RO RC : Nat → Nat} (h : EchM WA kb c n n Z P vr vp d RB RO RC) (hz : WA.heap.size = z) (d' : Int) (v : Value) (T : TypeId) :
    EchM ((WA.setCell ⟨kb, 2, none⟩ (.int .i64 d')).alloc (.cells #[v] T)) kb c n n Z P vr vp d' RB RO RC ∧ ((WA.setCell ⟨kb, 2, none⟩ (.int .i64 d')).alloc (.cells #[v] T)).heap[z]? = some (.cells #[v] T (0, 0)) ∧
      ((WA.setCell ⟨kb, 2, none⟩ (.int .i64 d')).alloc (.cells #[v] T)).heap.size = z + 1 ∧ Below kb WA ((WA.setCell ⟨kb, 2, none⟩ (.int .i64 d')).alloc (.cells #[v] T)) ∧
      ∀ k, k < z → k ≠ kb → ((WA.setCell ⟨kb, 2, none⟩ (.int .i64 d')).alloc (.cells #[v] T)).heap[k]? = WA.heap[k]? := by
  have hs : (WA.setCell ⟨kb, 2, none⟩ (.int .i64 d')).heap.size = z := by rw [← hz]; simp [World.setCell]
  have hl := h.lt
  refine ⟨(h.setD d').keep ((Below.refl _ _).alloc (Nat.le_refl _) _), ?_, by simp [hs], ?_, fun k hk hne => ?_⟩
  · have := heap_alloc_new (WA.setCell ⟨kb, 2, none⟩ (.int .i64 d')) (.cells #[v] T)
    rw [hs] at this; exact this
  · exact (Below.setCell (Below.refl kb WA) (show kb ≤ (⟨kb, 2, none⟩ : Addr).block from Nat.le_refl _) _).alloc (by omega) _
  · rw [Below.heap_alloc _ _ _ (by omega)]; exact Below.heap_setCell _ _ _ _ hne

theorem wrap_small {n : Int} (h0 : 0 ≤ n) (h1 : n ≤ 13 * 13) : IntKind.i64.wrap n = n := IntWalk.i64_in _ (by omega)
theorem EchM.at7 {w w1 : World} {kb c nr np : Nat} {Z : Nat → Nat → Int} {P : Nat → Nat} {vr vp : Value} {d : Int} {RB RO RC : Nat → Nat} {row : Option Nat} (h : EchM w kb c nr np Z P vr vp d RB RO RC) (hg : w.grownBy w1 row) (hne : row ≠ some kb) :
    w1.cell? ⟨kb, 0, none⟩ = some vr ∧ w1.cell? ⟨kb, 1, none⟩ = some vp ∧ w1.cell? ⟨kb, 2, none⟩ = some (.int .i64 d) ∧ w1.frozen? ⟨kb, 0, none⟩ = false ∧ w1.frozen? ⟨kb, 1, none⟩ = false := by
  have e := hg.block kb h.lt (fun q => hne q.symm)
  exact ⟨(World.cell?_of_block (w := w) (a := ⟨kb, 0, none⟩) e).trans h.c0, (World.cell?_of_block (w := w) (a := ⟨kb, 1, none⟩) e).trans h.c1, (World.cell?_of_block (w := w) (a := ⟨kb, 2, none⟩) e).trans h.c2,
    (World.frozen?_of_block (w := w) (a := ⟨kb, 0, none⟩) e).trans (h.fz 0), (World.frozen?_of_block (w := w) (a := ⟨kb, 1, none⟩) e).trans (h.fz 1)⟩
theorem new_set (w : World) (kb j : Nat) (v : Value) (x : Value) (T : TypeId) : ((w.setCell ⟨kb, j, none⟩ v).alloc (.cells #[x] T)).heap[w.heap.size]? = some (.cells #[x] T (0, 0)) := by
  have h := heap_alloc_new (w.setCell ⟨kb, j, none⟩ v) (.cells #[x] T)
  have hs : (w.setCell ⟨kb, j, none⟩ v).heap.size = w.heap.size := by simp [World.setCell]
  rw [hs] at h; exact h
theorem old_set (w : World) (kb j k : Nat) (v : Value) (o : Obj) (hk : k < w.heap.size) (hne : k ≠ kb) : ((w.setCell ⟨kb, j, none⟩ v).alloc o).heap[k]? = w.heap[k]? := by
  have hs : (w.setCell ⟨kb, j, none⟩ v).heap.size = w.heap.size := by simp [World.setCell]
  rw [Below.heap_alloc _ _ _ (by omega)]; exact Below.heap_setCell _ _ _ _ hne
theorem res_cells {w : World} {b : Nat} {x y z : Value} {T : TypeId} (h : w.heap[b]? = some (.cells #[x, y, z] T (0, 0))) :
    w.cell? ⟨b, 0, none⟩ = some x ∧ w.cell? ⟨b, 1, none⟩ = some y ∧ w.cell? ⟨b, 2, none⟩ = some z ∧ w.frozen? ⟨b, 0, none⟩ = false ∧ w.frozen? ⟨b, 1, none⟩ = false ∧ w.frozen? ⟨b, 2, none⟩ = false :=
  ⟨by simp [World.cell?, h], by simp [World.cell?, h], by simp [World.cell?, h], free_of h 0, free_of h 1, free_of h 2⟩
theorem grown_belowk {w w1 : World} {row : Option Nat} {k : Nat} (hg : w.grownBy w1 row) (hk : ∀ g, row = some g → k ≤ g) (hs : k ≤ w.heap.size) : Below k w w1 := (Below.refl k w).grown hg hs hk

/-- Reduced by the first i rows. -/
def St1 (p : Int) (kb c : Nat) (m : List (List Int)) (P : Nat → Nat) (vr vp : Value) (d : Int) (RB RO RC : Nat → Nat) (r : List Int) (b o i : Nat) (w : World) : Prop :=
  EchM w kb c m.length m.length (at' m) P vr vp d RB RO RC ∧ ∃ r', Red2 p c m P r r' i ∧ RowOwn w b o c (num r')

set_option maxRecDepth 100000 in
set_option maxHeartbeats 6400000 in
theorem take_any (p : Int) (kb pb c : Nat) (A m : List (List Int)) (P : Nat → Nat) (d : Int) (ar ap : Option Addr) (cr cp : Nat) (RB RO RC : Nat → Nat) (a : Option Addr) (r : List Int) (ca lo tp : Nat) (w : World)
    (hp : prm p = true) (he : EchM w kb c m.length m.length (at' m) P (.slice ar m.length cr) (.slice ap m.length cp) d RB RO RC) (hm : Elm p c A m P d) (hpb : w.cell? ⟨pb, 0, none⟩ = some (.int .i64 p)) (hlt : pb < kb) (vb : Nat) (hvk : kb < vb) (hvw : vb < w.heap.size) (hvb : Apt vb m.length (.slice ar m.length cr) (.slice ap m.length cp) RB)
    (hr : RowIn lo tp w a r) (ht : tp ≤ w.heap.size) (hl : r.length = c) (c0 : 0 < c) (c1 : c ≤ 1024) (hrr : ∀ j, j < c → 0 ≤ num r j ∧ num r j < p) :
    Calls Try.prog 178 #[.slice a c ca, .pointer (some ⟨kb, 0, none⟩), .pointer (some ⟨pb, 0, none⟩)] w (Taken p kb c vb A r w) := by
  have hpd := prm_bd hp
  have HP := Lib.hid hp
  have HE := Lib.hid he
  have HM := Lib.hid hm
  have HR := Lib.hid hr
  have HL := Lib.hid hl
  have HRR := Lib.hid hrr
  have HPB := Lib.hid hpb
  have HVB := Lib.hid hvb
  have hkw := he.lt
  have HK := Lib.hid (hm.kept hp).red
  have hmc : m.length ≤ c := HK.out.rows_le
  clear he hm hr hl hp hrr hpb hvb
  go_enter Try.func178, Try.ntmps178
  go_wp2_with (go_at_call 128; (with_reducible refine (cloneN _ r c _ lo tp _ (HR.out.below ((Below.refl _ _).alloc (Nat.le_refl _) _) ht) (by simp; omega) HL.out c0 c1).mono ?_); rintro e w1 ⟨hn1, r1, kc, rfl, ho1, hb1, hkc⟩; obtain ⟨b, o, rfl, hb0, hbt, hro⟩ := RowOwn.of ho1.own (by omega); have HO1 := Lib.hid hro; have HB1 := Lib.hid hb1; have HE1 := Lib.hid (HE.out.keep (below_step ((Below.refl _ _).alloc (Nat.le_refl _) _) (by simp) hb1)); obtain ⟨c10, c11, c12⟩ : w1.cell? ⟨kb, 0, none⟩ = some _ ∧ w1.cell? ⟨kb, 1, none⟩ = some _ ∧ w1.cell? ⟨kb, 2, none⟩ = some _ := ⟨HE1.out.c0, HE1.out.c1, HE1.out.c2⟩; clear ho1 hb1 hro hn1)
  have HO2 : Hid (RowOwn w1 b o c (num r)) := by have h := HO1.out; rw [HL.out] at h; exact h
  have HBK : Hid (Kp w.heap.size vb (w.alloc (.cells #[.slice none 0 0, .slice none 0 0, .int .i64 0] 108)) w1) := fun k hk => HB1.out.block k (by simp; omega)
  have HPB1 : Hid (w1.cell? ⟨pb, 0, none⟩ = some (.int .i64 p)) := ((below_step ((Below.refl _ _).alloc (Nat.le_refl _) _) (by simp) HB1.out).cell (p := ⟨pb, 0, none⟩) (by show pb < w.heap.size; omega)).trans HPB.out
  have HB10 : Hid (Below kb w w1) := (below_step ((Below.refl _ _).alloc (Nat.le_refl _) _) (by simp) HB1.out).mono (Nat.le_of_lt hkw)
  have hbw : w.heap.size < b := by simp at hb0; omega
  have HVR : Hid (Value.ownBlock (.slice ar m.length cr) ≠ some b) := fun e => by have := (HE.out.ro.lt b e).2; omega
  have HVP : Hid (Value.ownBlock (.slice ap m.length cp) ≠ some b) := fun e => by have := (HE.out.po.lt b e).2; omega
  have HRB : Hid (∀ i, i < m.length → RB i < w.heap.size) := fun i hi => (HE.out.rng i hi).2
  have HVR0 : Hid (Value.ownBlock (.slice ar m.length cr) ≠ some w.heap.size) := fun e => by have := (HE.out.ro.lt _ e).2; omega
  have HVP0 : Hid (Value.ownBlock (.slice ap m.length cp) ≠ some w.heap.size) := fun e => by have := (HE.out.po.lt _ e).2; omega
  clear c10 c11 c12 HO1 HB1 hb0
  go_loopw [18] (fun t wr => ∃ i : Nat, i ≤ m.length ∧ t = .int .i64 i ∧ St1 p kb c m P (.slice ar m.length cr) (.slice ap m.length cp) d RB RO RC r b o i wr ∧ Kp w.heap.size vb (w.alloc (.cells #[.slice none 0 0, .slice none 0 0, .int .i64 0] 108)) wr ∧ Below kb w1 wr) (fun t _ => m.length - (intOf t).toNat)
  case atStart => exact ⟨0, Nat.zero_le _, rfl, ⟨HE1.out, r, Red2.start HL.out HRR.out, HO2.out⟩, HBK.out, Below.refl _ _⟩
  case round =>
    obtain ⟨i, hi, rfl, ⟨hE, r', hRd, hRo⟩, hBl, hbel⟩ := hrel
    have HEi := Lib.hid hE
    have HRd := Lib.hid hRd
    have HRo := Lib.hid hRo
    have HBl := Lib.hid hBl
    have HBe := Lib.hid hbel
    have hsz := hbel.size
    clear hE hRd hRo hBl hbel
    by_cases hin : i < m.length
    · obtain ⟨g, hg, hpv, _, _⟩ := HEi.out.pivA hin
      subst hg
      obtain ⟨g2, hg2, hrw, _, _⟩ := HEi.out.readA hin
      subst hg2
      have hk0 := HEi.out.c0
      have hpb := (HBe.out.cell (p := ⟨pb, 0, none⟩) hlt).trans HPB1.out
      have hq := HK.out.pv i hin
      have hcl := HRo.out.cell (P i) hq
      obtain ⟨x0, x1⟩ := HRd.out.rng (P i) hq
      obtain ⟨q, hqe⟩ : ∃ q, q = P i := ⟨_, rfl⟩
      obtain ⟨x, hxe⟩ : ∃ x, x = num r' (P i) := ⟨_, rfl⟩
      rw [← hxe] at hcl x0 x1
      rw [← hqe] at hcl hpv hq
      have HQE := Lib.hid hqe
      have HXE := Lib.hid hxe
      have hi1 : (i : Int) < (m.length : Int) := by omega
      have hq1 : (q : Int) < (c : Int) := by omega
      have hrg := HEi.out.rng i hin
      have m0 := Int.emod_nonneg (-x) (by omega : p ≠ 0)
      have m1 := Int.emod_lt_of_pos (-x) (by omega : 0 < p)
      have HROd : Hid (RowOwn wr.drew b o c (num r')) := HRo.out.drew
      have HZL : Hid ((rw' m i).length = c) := (HM.out.kept HP.out).len i hin
      have HRI : Hid (RowIn (RB i) (RB i + 1) wr.drew (some ⟨RB i, RO i, none⟩) (rw' m i)) := (HEi.out.rowIn hin (rw' m i) HZL.out (fun j _ => rfl)).same (fun _ _ _ => rfl)
      have HZN : Hid (∀ j, j < c → 0 ≤ num (rw' m i) j ∧ num (rw' m i) j < p) := fun j hj => HK.out.rng i hin j hj
      clear hqe hxe
      go_wp2
      go_still_tail 13, (by kernel_rfl)
      still_call (oppQ p x _ HP.out x0 x1)
      repeat still_step
      try refine wpStill_nil ?_
      change wpList _ _ _ _ _ wr.drew
      obtain ⟨wd, hwd⟩ : ∃ y, y = wr.drew := ⟨_, rfl⟩
      rw [← hwd] at HROd HRI
      rw [← hwd]
      have HWD := Lib.hid hwd
      clear hwd
      go_wp2_with (go_at_call 139; (with_reducible refine (addN p (-x % p) b o c _ (num r') _ (rw' m i) c _ (RB i) (RB i + 1) _ HP.out HROd.out HRI.out (.inr (by have := HRB.out i hin; omega)) HZL.out rfl c1 HRd.out.rng HZN.out m0 (by omega)).mono ?_); rintro e w5 ⟨rfl, ho5, hw5⟩; have HO5 := Lib.hid ho5; have HW5 := Lib.hid hw5; clear ho5 hw5)
      go_roundw
      case rel =>
        have hwr : Wrote b o c wr w5 := by have := HW5.out; rw [HWD.out] at this; exact ⟨this.os, this.tape, this.output, this.size, this.block, this.cell, this.frozen⟩
        refine ⟨i + 1, by omega, by go_num, ⟨HEi.out.other (by omega) HVR.out HVP.out (fun i' hi' => by have := HRB.out i' hi'; omega) hwr, mkR c (fun j => (num r' j + -x % p * num (rw' m i) j) % p), HRd.out.next HP.out HK.out hin (mkR_len _ _) (fun j hj => ?_), HO5.out.congr (fun j hj => (num_mkR (f := fun j => (num r' j + -x % p * num (rw' m i) j) % p) hj).symm)⟩, HBl.out.step (fun k hk => hwr.block k (by omega)), HBe.out.trans (hwr.belowk (by omega))⟩
        rw [num_mkR hj, HXE.out]
        have e1 : (p - num r' (P i)) % p = -num r' (P i) % p := by simp
        rw [e1]; rfl
      case measure => simp [intOf]; omega
    · have hn : i = m.length := by omega
      subst hn
      have HRL := Lib.hid HRd.out.len
      have HRN := Lib.hid HRd.out.rng
      have HRI : Hid (RowIn b (b + 1) wr (some ⟨b, o, none⟩) r') := HRo.out.rowIn HRL.out
      have k0 := HEi.out.c0
      have k1 := HEi.out.c1
      have k2 := HEi.out.c2
      have bl := (HBl.out w.heap.size (.inl rfl)).trans (heap_alloc_new w _)
      have b0 : wr.cell? ⟨w.heap.size, 0, none⟩ = some (.slice none 0 0) := by simp [World.cell?, bl]
      have b1 : wr.cell? ⟨w.heap.size, 1, none⟩ = some (.slice none 0 0) := by simp [World.cell?, bl]
      have b2 : wr.cell? ⟨w.heap.size, 2, none⟩ = some (.int .i64 0) := by simp [World.cell?, bl]
      have f0 := free_of bl 0
      have f1 := free_of bl 1
      have f2 := free_of bl 2
      clear bl
      rcases fst_cases r' with ⟨q, hq⟩ | h0
      · have HQ := Lib.hid hq
        obtain ⟨x0, x1⟩ := HRN.out q (by rw [← HRL.out]; exact hq.1)
        have hqc : q < c := by rw [← HRL.out]; exact hq.1
        have hxn : num r' q ≠ 0 := hq.2.2
        obtain ⟨x, hxe⟩ : ∃ x, x = num r' q := ⟨_, rfl⟩
        have hcl := HRo.out.cell q hqc
        rw [← hxe] at hcl x0 x1 hxn
        have HXE := Lib.hid hxe
        have hpb := (HBe.out.cell (p := ⟨pb, 0, none⟩) hlt).trans HPB1.out
        have hx1 : 1 ≤ x := by omega
        have hq1 : (q : Int) < (c : Int) := by omega
        have hbz : b < wr.heap.size := Nat.lt_of_lt_of_le hbt hsz
        have ha1 : ∀ X, (wr.alloc X).cell? ⟨b, o + q, none⟩ = some (.int .i64 x) := fun X => (World.cell?_alloc_old _ _ _ (by show b ≠ wr.heap.size; omega)).trans hcl
        have ha2 : ∀ X, (wr.alloc X).cell? ⟨pb, 0, none⟩ = some (.int .i64 p) := fun X => (World.cell?_alloc_old _ _ _ (by show pb ≠ wr.heap.size; omega)).trans hpb
        clear hq hxe hxn
        go_wp2_with (go_at_call 180; (with_reducible refine (indexFunc_yes _ r' c q _ b (b + 1) _ HRI.out HRL.out c1 HQ.out).mono ?_); rintro e w' ⟨rfl, rfl⟩)
        go_region
        go_wp2
        obtain ⟨w2, hw2⟩ : ∃ y, y = (wr.alloc (.cells #[.int .i64 p, .int .i64 x] 144)).drew := ⟨_, rfl⟩
        have hb2 : Below wr.heap.size wr w2 := by rw [hw2]; exact ((Below.refl _ _).alloc (Nat.le_refl _) _).drew
        have hz2 : wr.heap.size < w2.heap.size := by rw [hw2]; show wr.heap.size < (wr.alloc _).heap.size; simp
        have hn2 : NumAt w2 wr.heap.size p x := by rw [hw2]; exact (numAt_new wr p x _).drew
        rw [← hw2]
        have s1 := (hb2.cell (p := ⟨pb, 0, none⟩) (by show pb < wr.heap.size; omega)).trans hpb
        have s2 := hn2.c0
        have s3 := hn2.c1
        have HN2 := Lib.hid hn2
        have HB2 := Lib.hid hb2
        have HE2 := Lib.hid (HEi.out.keep hb2)
        have HO2' : Hid (RowOwn w2.drew b o c (num r')) := (HRo.out.block (hb2.block b hbz)).drew
        have HBL2 := Lib.hid (HBl.out.step (fun k hk => hb2.block k (by omega)))
        obtain ⟨v0, v1⟩ := inv_bd HP.out x
        obtain ⟨y, hy⟩ : ∃ y, y = inv p x := ⟨_, rfl⟩
        rw [← hy] at v0 v1
        have HY := Lib.hid hy
        have fv := field_value
        clear hb2 hn2 hw2 ha1 ha2 hcl hpb k0 k1 k2 b0 b1 b2 f0 f1 f2 hy
        go_region_held3 (fun w' => w'.cell? ⟨pb, 0, none⟩ = some (.int .i64 p) ∧ w'.cell? ⟨wr.heap.size, 0, none⟩ = some (.int .i64 p) ∧ w'.cell? ⟨wr.heap.size, 1, none⟩ = some (.int .i64 x)) (first | go_keep | exact SS3.out | exact SS4.out) (first | (go_at_call 183; (with_reducible refine (inverse_any p x _ HP.out x0 x1).mono ?_); rintro e w3 ⟨rfl, hb3⟩; rw [← HY.out]; have HB3 := Lib.hid hb3; have SS3 := Lib.hid (And.intro ((hb3.cell (p := ⟨pb, 0, none⟩) (show pb < w2.heap.size by omega)).trans s1) (And.intro ((hb3.cell (p := ⟨wr.heap.size, 0, none⟩) hz2).trans s2) ((hb3.cell (p := ⟨wr.heap.size, 1, none⟩) hz2).trans s3))); have HO3 := Lib.hid (HO2'.out.block (hb3.block b (show b < w2.heap.size by omega))); clear hb3) | (go_at_call 182; (with_reducible refine (scale_any p y b o c _ (num r') _ HP.out HO3.out (by omega) HRN.out v0 (by omega)).mono ?_); rintro e w4 ⟨rfl, ho4, hw4⟩; have HO4 := Lib.hid ho4; have HW4 := Lib.hid hw4; have SS4 := Lib.hid (And.intro ((World.cell?_of_block (w := w3) (a := ⟨pb, 0, none⟩) (hw4.block pb (by omega))).trans SS3.out.1) (And.intro ((World.cell?_of_block (w := w3) (a := ⟨wr.heap.size, 0, none⟩) (hw4.block wr.heap.size (by omega))).trans SS3.out.2.1) ((World.cell?_of_block (w := w3) (a := ⟨wr.heap.size, 1, none⟩) (hw4.block wr.heap.size (by omega))).trans SS3.out.2.2))); clear ho4 hw4))
        obtain ⟨sr, hsr⟩ : ∃ z, z = mkR c (fun j => num r' j * y % p) := ⟨_, rfl⟩
        have HSR := Lib.hid hsr
        have HSL : Hid (sr.length = c) := by show _ = _; rw [hsr]; exact mkR_len _ _
        have HE3 := Lib.hid (HE2.out.drew.keep HB3.out)
        have HE4 := Lib.hid (HE3.out.other (by omega) HVR.out HVP.out (fun i' hi' => by have := HRB.out i' hi'; omega) HW4.out)
        have HS4 : Hid (RowOwn w4 b o c (num sr)) := HO4.out.congr (fun j hj => by rw [HSR.out, num_mkR hj])
        have HSN : Hid (∀ j, j < c → 0 ≤ num sr j ∧ num sr j < p) := fun j hj => by rw [HSR.out, num_mkR hj]; exact mod_bd HP.out _
        have hz3 : w2.heap.size ≤ w3.heap.size := HB3.out.size
        have hz4 : w3.heap.size ≤ w4.heap.size := Nat.le_of_eq HW4.out.size.symm
        have HN4 : Hid (NumAt w4 wr.heap.size p x) := (HN2.out.drew.keep HB3.out hz2).block (HW4.out.block _ (by omega))
        have HBL4 : Hid (Kp w.heap.size vb (w.alloc (.cells #[.slice none 0 0, .slice none 0 0, .int .i64 0] 108)) w4) := (HBL2.out.step (fun k hk => HB3.out.block k (show k < w2.heap.size by omega))).step (fun k hk => HW4.out.block k (by omega))
        have HBe4 : Hid (Below kb w1 w4) := ((HBe.out.trans (HB2.out.mono (by omega))).trans ((((Below.refl w2.heap.size w2).drew).trans HB3.out).mono (by omega))).trans (HW4.out.belowk (by omega))
        have k0 := HE4.out.c0
        clear s1 s2 s3 hsr
        go_wp2
        go_loopw [58] (fun t wv => ∃ i : Nat, i ≤ m.length ∧ t = .int .i64 i ∧ EchM wv kb c m.length m.length (zstep p m sr q i) P (.slice ar m.length cr) (.slice ap m.length cp) d RB RO RC ∧ RowOwn wv b o c (num sr) ∧ NumAt wv wr.heap.size p x ∧ Kp w.heap.size vb (w.alloc (.cells #[.slice none 0 0, .slice none 0 0, .int .i64 0] 108)) wv ∧ Below kb w4 wv) (fun t _ => m.length - (intOf t).toNat)
        case atStart => exact ⟨0, Nat.zero_le _, rfl, HE4.out, HS4.out, HN4.out, HBL4.out, Below.refl _ _⟩
        case round =>
          obtain ⟨i, hi, rfl, hE, hS, hN, hBl, hbel⟩ := hrel
          have HEv := Lib.hid hE
          have HSv := Lib.hid hS
          have HNv := Lib.hid hN
          have HBlv := Lib.hid hBl
          have HBev := Lib.hid hbel
          have hszv := hbel.size
          rename World => wv
          clear hE hS hN hBl hbel k0
          by_cases hin : i < m.length
          · obtain ⟨g2, hg2, hrw, _, _⟩ := HEv.out.readA hin
            subst hg2
            have k0 := HEv.out.c0
            have hpb := (HBev.out.cell (p := ⟨pb, 0, none⟩) hlt).trans SS4.out.1
            have hcl := (HEv.out.row i hin).cell q hqc
            rw [zstep_at] at hcl
            obtain ⟨z0, z1⟩ := HK.out.rng i hin q hqc
            obtain ⟨z, hze⟩ : ∃ z, z = at' m i q := ⟨_, rfl⟩
            rw [← hze] at hcl z0 z1
            have HZE := Lib.hid hze
            have hi1 : (i : Int) < (m.length : Int) := by omega
            have hrg := HEv.out.rng i hin
            have hrb := HRB.out i hin
            have hrv := HVB.out.2.2 i hin
            have m0 := Int.emod_nonneg (-z) (by omega : p ≠ 0)
            have m1 := Int.emod_lt_of_pos (-z) (by omega : 0 < p)
            have HROd : Hid (RowOwn wv.drew (RB i) (RO i) c (at' m i)) := by have h := HEv.out.row i hin; rw [zstep_at] at h; exact h.drew
            have HRId : Hid (RowIn b (b + 1) wv.drew (some ⟨b, o, none⟩) sr) := (HSv.out.rowIn HSL.out).same (fun _ _ _ => rfl)
            have HZN : Hid (∀ j, j < c → 0 ≤ at' m i j ∧ at' m i j < p) := fun j hj => HK.out.rng i hin j hj
            clear hze
            go_wp2
            go_still_tail 9, (by kernel_rfl)
            still_call (oppQ p z _ HP.out z0 z1)
            repeat still_step
            try refine wpStill_nil ?_
            change wpList _ _ _ _ _ wv.drew
            obtain ⟨wd, hwd⟩ : ∃ y, y = wv.drew := ⟨_, rfl⟩
            rw [← hwd] at HROd HRId
            rw [← hwd]
            have HWD := Lib.hid hwd
            clear hwd
            go_wp2_with (go_at_call 139; (with_reducible refine (addN p (-z % p) (RB i) (RO i) c _ (at' m i) _ sr c _ b (b + 1) _ HP.out HROd.out HRId.out (.inl (by omega)) HSL.out rfl c1 HZN.out HSN.out m0 (by omega)).mono ?_); rintro e w5 ⟨rfl, ho5, hw5⟩; have HO5 := Lib.hid ho5; have HW5 := Lib.hid hw5; clear ho5 hw5)
            go_roundw
            case rel =>
              have hwr : Wrote (RB i) (RO i) c wv w5 := by have := HW5.out; rw [HWD.out] at this; exact ⟨this.os, this.tape, this.output, this.size, this.block, this.cell, this.frozen⟩
              exact ⟨i + 1, by omega, by go_num, (HEv.out.wrote hin HO5.out hwr).congr (fun i' _ j _ => congrFun (zstep_next p m sr q i z HZE.out i') j), HSv.out.block (hwr.block _ (by omega)), HNv.out.block (hwr.block _ (by omega)), HBlv.out.step (fun k hk => hwr.block k (by omega)), HBev.out.trans (hwr.belowk (by omega))⟩
            case measure => simp [intOf]; omega
          · have hn : i = m.length := by omega
            subst hn
            have k0 := HEv.out.c0
            have k1 := HEv.out.c1
            have HPI : Hid (IntsIn (kb + 1) wv.heap.size wv ap m.length P) := by
              by_cases h0 : 0 < m.length
              · obtain ⟨g, hg, _, hg1, hg2⟩ := HEv.out.pivA h0
                refine .inr ⟨g, 0, hg, by omega, hg2, fun j hj => ?_⟩
                obtain ⟨g', hg', hc, _, _⟩ := HEv.out.pivA hj
                have : g' = g := by rw [hg] at hg'; injection hg' with h; injection h with h1; exact h1.symm
                subst this
                rw [Nat.zero_add]; exact hc
              · exact .inl (by omega)
            have HPN : Hid (∀ i, i < m.length → P i ≠ q) := fun i hi e => by
              have := HRd.out.zer i hi
              rw [e, ← HXE.out] at this; omega
            have HVz : Hid (∀ z, w.heap.size ≤ z → Value.ownBlock (.slice ar m.length cr) ≠ some z ∧ Value.ownBlock (.slice ap m.length cp) ≠ some z) := fun z hz => ⟨fun e => by have := (HE.out.ro.lt _ e).2; omega, fun e => by have := (HE.out.po.lt _ e).2; omega⟩
            obtain ⟨d0, d1⟩ := HM.out.det HP.out
            have hkf : kb ≠ wr.heap.size := by omega
            go_wp2_with (first | (go_at_call 184; (with_reducible refine (search_any ap m.length _ (kb + 1) wv.heap.size q P _ HPI.out (by omega) (by omega) (fun i hi => by have := HK.out.pv i hi; omega) HK.out.mono HPN.out).mono ?_); rintro e w6 ⟨t, rfl, hq6, ht0, ht1, ht2⟩; have HQ6 := Lib.hid hq6; have HT1 := Lib.hid ht1; have HT2 := Lib.hid ht2; have hz6 : wv.heap.size ≤ w6.heap.size := Nat.le_of_eq hq6.size.symm; have HE6 := Lib.hid (HEv.out.keep (hq6.below _)); have HN6 := Lib.hid (HNv.out.keep (hq6.below _) (by omega)); have HS6 := Lib.hid (HSv.out.block ((hq6.below wv.heap.size).block b (by omega))); have HBL6 := Lib.hid (HBlv.out.step (fun k hk => (hq6.below wv.heap.size).block k (by omega))); have HB6 := Lib.hid (((((HB10.out.trans HBe4.out)).trans HBev.out)).trans (hq6.below kb)); have p6 := (((HBev.out.trans (hq6.below kb))).cell (p := ⟨pb, 0, none⟩) hlt).trans SS4.out.1; have k60 := HE6.out.c0; have k61 := HE6.out.c1; have k62 := HE6.out.c2; have k6f := HE6.out.fz 2; have n61 := HN6.out.c1; have n6f := HN6.out.f1; clear ht1 ht2 k0 k1; by_cases hpar : (m.length - t) % 2 = 0; (have hbp : (((m.length : Int) - (t : Int)) % 2 != 0) = false := (by simp; omega); have HSG : Hid (sgn p m.length t x = x) := (by show _ = _; unfold sgn; rw [if_pos hpar]); have HA := Lib.hid HE6.out; have hzA : w6.heap.size = w6.heap.size := rfl; have HSA := Lib.hid HS6.out; have HLA := Lib.hid HBL6.out; have HBA := Lib.hid HB6.out; have m0 : 0 ≤ d * x := Int.mul_nonneg d0 (by omega); have m1 : d * x ≤ 13 * 13 := Int.le_trans (Int.mul_le_mul_of_nonneg_right (by omega : d ≤ 13) (by omega)) (Int.mul_le_mul_of_nonneg_left (by omega) (by omega)); have HC := Lib.hid (HA.out.pre hzA (d * x % p) (.slice (some ⟨b, o, none⟩) c kc) 22); have HSC := Lib.hid (HSA.out.block (HC.out.2.2.2.2 b (by omega) (by omega))); have HLC := Lib.hid (HLA.out.step (fun k hk => HC.out.2.2.2.2 k (by omega) (by omega))); have HBC := Lib.hid (HBA.out.trans HC.out.2.2.2.1); have hzC : ((w6.setCell ⟨kb, 2, none⟩ (.int .i64 (d * x % p))).alloc (.cells #[.slice (some ⟨b, o, none⟩) c kc] 22)).heap.size ≤ w6.heap.size + 1 ∧ w6.heap.size + 1 ≤ ((w6.setCell ⟨kb, 2, none⟩ (.int .i64 (d * x % p))).alloc (.cells #[.slice (some ⟨b, o, none⟩) c kc] 22)).heap.size := ⟨Nat.le_of_eq HC.out.2.2.1, Nat.le_of_eq HC.out.2.2.1.symm⟩; have e1 : IntKind.i64.wrap (d * x) = d * x := wrap_small m0 m1; have e3 : (d * x).tmod p = d * x % p := Int.tmod_eq_emod_of_nonneg m0; clear hpar hq6 hzA); rotate_left; (have hbp : (((m.length : Int) - (t : Int)) % 2 != 0) = true := (by simp; omega); have HSG : Hid (sgn p m.length t x = (-x % p)) := (by show _ = _; unfold sgn; rw [if_neg hpar]); have y0 := Int.emod_nonneg (-x) (by omega : p ≠ 0); have y1 := Int.emod_lt_of_pos (-x) (by omega : 0 < p); have HA := Lib.hid (HE6.out.far wr.heap.size 1 (.int .i64 (-x % p)) hkf (HVz.out _ (by omega)).1 (HVz.out _ (by omega)).2 (fun i hi => by have := HRB.out i hi; omega)); have hzA : (w6.setCell ⟨wr.heap.size, 1, none⟩ (.int .i64 (-x % p))).heap.size = w6.heap.size := (by simp [World.setCell]); have HSA := Lib.hid (HS6.out.far wr.heap.size 1 (.int .i64 (-x % p)) (by omega)); have HLA := Lib.hid (HBL6.out.step (fun k hk => Below.heap_setCell w6 ⟨wr.heap.size, 1, none⟩ (.int .i64 (-x % p)) k (show k ≠ wr.heap.size by omega))); have HBA := Lib.hid (Below.setCell HB6.out (show kb ≤ (⟨wr.heap.size, 1, none⟩ : Addr).block by show kb ≤ wr.heap.size; omega) (.int .i64 (-x % p))); have ka0 := HA.out.c0; have ka1 := HA.out.c1; have ka2 := HA.out.c2; have kaf := HA.out.fz 2; have kan : (w6.setCell ⟨wr.heap.size, 1, none⟩ (.int .i64 (-x % p))).cell? ⟨wr.heap.size, 1, none⟩ = some (.int .i64 (-x % p)) := World.cell?_setCell_same w6 _ _ HN6.out.c1; have kap : (w6.setCell ⟨wr.heap.size, 1, none⟩ (.int .i64 (-x % p))).cell? ⟨pb, 0, none⟩ = some (.int .i64 p) := (World.cell?_setCell_other _ _ _ _ (fun e => by injection e with e1; omega)).trans p6; have m0 : 0 ≤ d * (-x % p) := Int.mul_nonneg d0 (by omega); have m1 : d * (-x % p) ≤ 13 * 13 := Int.le_trans (Int.mul_le_mul_of_nonneg_right (by omega : d ≤ 13) (by omega)) (Int.mul_le_mul_of_nonneg_left (by omega) (by omega)); have HC := Lib.hid (HA.out.pre hzA (d * (-x % p) % p) (.slice (some ⟨b, o, none⟩) c kc) 22); have HSC := Lib.hid (HSA.out.block (HC.out.2.2.2.2 b (by omega) (by omega))); have HLC := Lib.hid (HLA.out.step (fun k hk => HC.out.2.2.2.2 k (by omega) (by omega))); have HBC := Lib.hid (HBA.out.trans HC.out.2.2.2.1); have hzC : (((w6.setCell ⟨wr.heap.size, 1, none⟩ (.int .i64 (-x % p))).setCell ⟨kb, 2, none⟩ (.int .i64 (d * (-x % p) % p))).alloc (.cells #[.slice (some ⟨b, o, none⟩) c kc] 22)).heap.size ≤ w6.heap.size + 1 ∧ w6.heap.size + 1 ≤ (((w6.setCell ⟨wr.heap.size, 1, none⟩ (.int .i64 (-x % p))).setCell ⟨kb, 2, none⟩ (.int .i64 (d * (-x % p) % p))).alloc (.cells #[.slice (some ⟨b, o, none⟩) c kc] 22)).heap.size := ⟨Nat.le_of_eq HC.out.2.2.1, Nat.le_of_eq HC.out.2.2.1.symm⟩; have e1 : IntKind.i64.wrap (d * (-x % p)) = d * (-x % p) := wrap_small m0 m1; have e3 : (d * (-x % p)).tmod p = d * (-x % p) % p := Int.tmod_eq_emod_of_nonneg m0; clear hpar hq6 hzA); rotate_left) | (go_at_call 179; (with_reducible refine (opposite_any p x _ HP.out x0 x1).mono ?_); rintro e w' ⟨rfl, rfl⟩) | (go_at_call 185; (with_reducible refine (insertM_any (kb + 1) m.length t w6.heap.size _ (.slice ar m.length cr) (.slice (some ⟨b, o, none⟩) c kc) (rowsV c RB RO RC m.length) _ HC.out.1.ro (by omega) ht0 (by omega) HC.out.2.1 (HVz.out _ (by omega)).1 rfl rowsV_one).mono ?_); rintro e w7 ⟨g7, q7, rfl, ho7, hg7, ha7⟩; clear e1 e3; have HG7 := Lib.hid ha7; have hg70 : g7 ≠ w.heap.size := fun e => ha7.elim (fun h => HVR0.out (e ▸ h)) (fun h => (by omega)); have hz7 := hg7.size; have HD := Lib.hid (HC.out.1.insR ht0 HSC.out (by omega) (by omega) (fun i hi => by have := HRB.out i hi; omega) HVR.out HVP.out ho7 hg7 ha7 hkc); obtain ⟨k70, k71, k72, k7f, k7g⟩ := HC.out.1.at7 hg7 (not_kb HC.out.1.ro); have HL7 := Lib.hid (HLC.out.step (fun k hk => hg7.block k (by omega) (fun q => hk.elim (fun e => HVR0.out (e ▸ q.symm)) (fun e => HVB.out.1 (e ▸ q.symm))))); have HB7 := Lib.hid (HBC.out.trans (grown_belowk hg7 (fun g hg => by have := (HC.out.1.ro.lt g hg).1; omega) (by omega))); clear ho7 hg7 ha7) | (go_at_call 186; have HG := Lib.hid (HD.out.keep ((Below.refl _ _).alloc (Nat.le_refl _) (.cells #[.int .i64 (q : Int)] 3))); (with_reducible refine (insertI_any (kb + 1) m.length t w7.heap.size _ (.slice ap m.length cp) (.int .i64 q) (pivsV P m.length) _ HG.out.po (Nat.succ_le_of_lt HG.out.lt) ht0 (by omega) (new_set w7 kb 0 _ _ _) (HVz.out _ (by omega)).2 rfl pivsV_one).mono ?_); rintro e w8 ⟨g8, q8, rfl, ho8, hg8, ha8⟩; have hzE := (Array.getElem?_eq_some_iff.1 (new_set w7 kb 0 (.slice (some ⟨g7, 0, none⟩) (m.length + 1) q7) (.int .i64 (q : Int)) 3)).1; have hg80 : g8 ≠ w.heap.size := fun e => ha8.elim (fun h => HVP0.out (e ▸ h)) (fun h => (by omega)); have HH := Lib.hid (HG.out.insP ht0 ho8 hg8 ha8); obtain ⟨k80, k81, k82, k8f, k8g⟩ := HG.out.at7 hg8 (not_kb HG.out.po); have HB8 := Lib.hid (((HB7.out.setCell (show kb ≤ (⟨kb, 0, none⟩ : Addr).block from Nat.le_refl _) _).alloc (Nat.le_of_lt HD.out.lt) _).trans (grown_belowk hg8 (fun g hg => by have := (HG.out.po.lt g hg).1; omega) (Nat.le_of_lt HG.out.lt))); have HL8 := Lib.hid ((HL7.out.step (fun k hk => old_set w7 kb 0 k (.slice (some ⟨g7, 0, none⟩) (m.length + 1) q7) (.cells #[.int .i64 (q : Int)] 3) (by omega) (by omega))).step (fun k hk => hg8.block k (by omega) (fun q => hk.elim (fun e => HVP0.out (e ▸ q.symm)) (fun e => HVB.out.2.1 (e ▸ q.symm))))); obtain ⟨b0, b1, b2, f0, f1, f2⟩ := res_cells ((HL8.out w.heap.size (.inl rfl)).trans (heap_alloc_new w _)); have hg7v : g7 ≠ vb := fun e => HG7.out.elim (fun h => HVB.out.1 (e ▸ h)) (fun h => (by omega)); have hg8v : g8 ≠ vb := fun e => ha8.elim (fun h => HVB.out.2.1 (e ▸ h)) (fun h => (by omega)); clear ho8 hg8 ha8))
            all_goals
              have HTK : Hid (Took p c m P r r' sr (mk m.length c (zstep p m sr q m.length)) q t) := {
                rl := HL.out
                red := HRd.out
                qc := hqc
                q0 := by rw [← HXE.out]; omega
                ql := HQ.out.2.1
                ss := fun j hj => by rw [HSR.out, num_mkR hj, HY.out, HXE.out]
                sl := HSL.out
                ml := mk_len _ _ _
                mc := fun i hi => mk_rowLen _ hi
                mr := fun i hi j hj => by
                  rw [mk_at _ hi hj]
                  have e : (p - at' m i q) % p = -at' m i q % p := by simp
                  unfold zstep
                  rw [if_pos hi, e]
                tn := ht0
                tl := HT1.out
                tr := HT2.out }
              have HX1 : Hid (Value.ownBlock (.slice (some ⟨g7, 0, none⟩) (m.length + 1) q7) ≠ some w.heap.size) := fun e => hg70 (by simpa [Value.ownBlock] using e)
              have HX2 : Hid (Value.ownBlock (.slice (some ⟨g8, 0, none⟩) (m.length + 1) q8) ≠ some w.heap.size) := fun e => hg80 (by simpa [Value.ownBlock] using e)
              have HX3 : Hid (∀ i, i < m.length + 1 → insF RB t b i ≠ w.heap.size) := fun i hi => by
                unfold insF
                by_cases e : i = t
                · rw [if_pos e]; omega
                · rw [if_neg e]; have := HRB.out _ (old_lt hi e ht0); omega
              have HBF := Lib.hid (Below.setCell HB8.out (show kb ≤ (⟨kb, 1, none⟩ : Addr).block from Nat.le_refl _) (.slice (some ⟨g8, 0, none⟩) (m.length + 1) q8))
              have hkw2 : kb ≠ w.heap.size := by omega
              have HKV : Hid (∀ u v y : Value, ((((w8.setCell ⟨kb, 1, none⟩ (.slice (some ⟨g8, 0, none⟩) (m.length + 1) q8)).setCell ⟨w.heap.size, 0, none⟩ u).setCell ⟨w.heap.size, 1, none⟩ v).setCell ⟨w.heap.size, 2, none⟩ y).heap[vb]? = w.heap[vb]?) := fun u v y =>
                (res_other _ _ _ _ (by omega)).trans ((Below.heap_setCell _ _ _ _ (show vb ≠ kb by omega)).trans ((HL8.out vb (.inr rfl)).trans (Below.heap_alloc _ _ _ hvw)))
              have HAV : Hid (Apt vb (m.length + 1) (.slice (some ⟨g7, 0, none⟩) (m.length + 1) q7) (.slice (some ⟨g8, 0, none⟩) (m.length + 1) q8) (insF RB t b)) := ⟨fun e => hg7v (by simpa [Value.ownBlock] using e), fun e => hg8v (by simpa [Value.ownBlock] using e), fun i hi => by
                unfold insF
                by_cases e : i = t
                · rw [if_pos e]; omega
                · rw [if_neg e]; exact HVB.out.2.2 _ (old_lt hi e ht0)⟩
            · exact bodyPost_ret (v := .agg #[.slice (some ⟨g7, 0, none⟩) (m.length + 1) q7, .slice (some ⟨g8, 0, none⟩) (m.length + 1) q8, .int .i64 (d * x % p)]) (by simp [results, Try.results178, go_sem, b0, b1, b2]) rfl
                (taken_of (((HH.out.far _ _ _ hkw2 HX1.out HX2.out HX3.out).far _ _ _ hkw2 HX1.out HX2.out HX3.out).far _ _ _ hkw2 HX1.out HX2.out HX3.out) HM.out HTK.out (by rw [← HXE.out, HSG.out]) (below_res HBF.out (by omega) _ _ _) (HKV.out _ _ _) HAV.out)
            · exact bodyPost_ret (v := .agg #[.slice (some ⟨g7, 0, none⟩) (m.length + 1) q7, .slice (some ⟨g8, 0, none⟩) (m.length + 1) q8, .int .i64 (d * (-x % p) % p)]) (by simp [results, Try.results178, go_sem, b0, b1, b2]) rfl
                (taken_of (((HH.out.far _ _ _ hkw2 HX1.out HX2.out HX3.out).far _ _ _ hkw2 HX1.out HX2.out HX3.out).far _ _ _ hkw2 HX1.out HX2.out HX3.out) HM.out HTK.out (by rw [← HXE.out, HSG.out]) (below_res HBF.out (by omega) _ _ _) (HKV.out _ _ _) HAV.out)
      · have H0 := Lib.hid h0
        have HF : Hid (Taken p kb c vb A r w (.returned (.agg #[.slice ar m.length cr, .slice ap m.length cp, .int .i64 d])) (((wr.setCell ⟨w.heap.size, 0, none⟩ (.slice ar m.length cr)).setCell ⟨w.heap.size, 1, none⟩ (.slice ap m.length cp)).setCell ⟨w.heap.size, 2, none⟩ (.int .i64 d))) := by
          refine ⟨m, P, d, ar, ap, cr, cp, RB, RO, RC, rfl, ?_, Elm.same HM.out HL.out HRd.out (fun j hj => h0 j (by rw [HRL.out]; exact hj)), below_res (HB10.out.trans HBe.out) (by omega) _ _ _, (res_other _ _ _ _ (by omega)).trans ((HBl.out vb (.inr rfl)).trans (Below.heap_alloc _ _ _ hvw)), HVB.out⟩
          have h3 : ∀ i, i < m.length → RB i ≠ w.heap.size := fun i hi => Nat.ne_of_lt (HRB.out i hi)
          exact ((HEi.out.far _ _ _ (by omega) HVR0.out HVP0.out h3).far _ _ _ (by omega) HVR0.out HVP0.out h3).far _ _ _ (by omega) HVR0.out HVP0.out h3
        clear h0
        go_wp2_with (go_at_call 180; (with_reducible refine (indexFunc_no _ r' c _ b (b + 1) _ HRI.out HRL.out c1 H0.out).mono ?_); rintro e w' ⟨rfl, rfl⟩)
        exact bodyPost_ret (v := .agg #[.slice ar m.length cr, .slice ap m.length cp, .int .i64 d]) (by simp [results, Try.results178, go_sem, b0, b1, b2]) rfl HF.out

end Go.Proofs.Ytdamdlihicinlaa
