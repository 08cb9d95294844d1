/-
  The program's insertion in the middle of a full list: contracts.
  Conditions: the list is one's own, the value lies in a list of one cell.
-/
import Derived.Test.YtkibkkdeaojjoabGreatQg19
import Derived.Test.YtkibkkdeaojjoabGreatQg13
import Derived.Shelf.Spec.SlicesInsertGrow
namespace Go.Proofs.YtkibkkdeaojjoabGreat
open Go.RowKit Go.ChangeShapes Go.WideShapes
set_option linter.unusedVariables false
theorem grow_list {C V : List Value} {x : Value} {i n : Nat} (h : C.take i = V.take i) (hi : i < n) (hV : V.length = n) (hC : n + 1 ≤ C.length) :
    (((C.take i ++ [x] ++ C.drop (i + ([x] : List Value).length)).toArray.toList.take (i + 1)) ++ V.drop i ++ (C.take i ++ [x] ++ C.drop (i + ([x] : List Value).length)).toArray.toList.drop (i + 1 + (V.drop i).length)).toArray.toList.take (n + 1) = V.take i ++ x :: V.drop i := by
  show (List.take (i + 1) (C.take i ++ [x] ++ C.drop (i + 1)) ++ V.drop i ++ List.drop (i + 1 + (V.drop i).length) (C.take i ++ [x] ++ C.drop (i + 1))).take (n + 1) = _
  have hl : (C.take i ++ [x]).length = i + 1 := by simp; omega
  have t1 : List.take (i + 1) (C.take i ++ [x] ++ C.drop (i + 1)) = C.take i ++ [x] := List.take_left' hl
  have hl2 : (C.take i ++ [x] ++ V.drop i).length = n + 1 := by rw [List.length_append, hl, List.length_drop]; omega
  rw [t1, List.take_left' hl2, h]
  simp

set_option maxRecDepth 100000 in
set_option maxHeartbeats 1600000 in
theorem insertM_grow (B n g i b1 c1 : Nat) (x : Value) (vals : List Value) (w : World) (ho : w.ownsRow B 22 1 (.slice (some ⟨g, 0, none⟩) n n) n vals) (hBw : B ≤ w.heap.size) (hi : i < n) (hn : n ≤ 1024) (hb1 : w.heap[b1]? = some (.cells #[x] 22 (0, 0))) (h1 : x.oneCell' = true) (hall : ∀ u : Value, u ∈ vals → u.oneCell' = true) :
    Calls Tryz.prog 120 #[.slice (some ⟨g, 0, none⟩) n n, .int .i64 i, .slice (some ⟨b1, 0, none⟩) 1 c1] w (InsP 22 B (.slice (some ⟨g, 0, none⟩) n n) n (vals.take i ++ x :: vals.drop i) w) := by
  obtain ⟨j0, kj, kz0, kz1, kz2⟩ := info_parts info_slice
  obtain ⟨cur, hg, hcs, hv⟩ : ∃ cur, w.heap[g]? = some (.cells cur 22 (0, 0)) ∧ cur.size = n ∧ cur.toList.take n = vals := by
    rcases ho.2 with ⟨h, _⟩ | ⟨g', cap', cur, h, q1, q2, q3, q4, q5, q6⟩
    · simp at h
    · cases h; exact ⟨cur, q2, by omega, by rw [Nat.mul_one] at q6; exact q6⟩
  have hsz := (Array.getElem?_eq_some_iff.1 hg).1
  have hb1z := (Array.getElem?_eq_some_iff.1 hb1).1
  have hvl : vals.length = n := by have := ho.1; omega
  have hdl : (vals.drop i).length = n - i := by rw [List.length_drop]; omega
  have hcell : ∀ j v, vals[j]? = some v → w.cell? ⟨g, 0 + j, none⟩ = some v := fun j v hj => by
    have h := ho.cells (g := g) rfl j v hj
    rwa [Addr.add_lit] at h
  have hik : i + (n + 1 - i) = n + 1 := by omega
  have HA0 := Lib.run_append_grow_zeros (P := Tryz.prog) w 26 3 26 22 j0 (.slice none 0 0) .i64 .i64 Tryz.underlying26 Tryz.underlying3 kj kz0 (some ⟨g, 0, none⟩) i n (vals.take i)
    (run_firstCells_some w.drew j0.size i ⟨g, 0, none⟩ i n (vals.take i) (by rw [kz1, List.length_take]; omega) (fun j v hj => by
      have hj2 : vals[j]? = some v := by
        rw [List.getElem?_take] at hj
        split at hj
        · exact hj
        · simp at hj
      have h := hcell j v hj2
      rw [Addr.add_lit]; exact h)) (n + 1 - i) (by omega) (by omega) (by omega) (by omega) (by rw [kz2]; omega) (by
        have := nextslicecap_le (need := i + (n + 1 - i)) (old := n) (by omega)
        rw [kz2]; omega)
  rw [hik] at HA0
  obtain ⟨gc, hgc⟩ : ∃ gc, gc = grownCap w (n + 1) n 22 := ⟨_, rfl⟩
  have hge : n + 1 ≤ gc := by rw [hgc]; exact grownCap_ge _ _ _ _
  have hle : gc ≤ maxLen := by rw [hgc]; exact grownCap_le_maxLen _ _ _ _ (by unfold maxLen; omega)
  rw [← hgc] at HA0
  obtain ⟨d0, hd0⟩ : ∃ d0, d0 = ((vals.take i).toArray ++ Builtin.zeroCells (Value.cells (.slice none 0 0)) (n + 1 - i) ++ Builtin.zeroCells (Value.cells (.slice none 0 0)) (gc - (n + 1))) := ⟨_, rfl⟩
  rw [← hd0] at HA0
  have hd0s : d0.size = gc := by rw [hd0]; simp [Builtin.zeroCells, Value.cells]; omega
  have hd0t : d0.toList.take i = vals.take i := by
    rw [hd0]; simp only [Array.toList_append, List.append_assoc]
    rw [List.take_left' (by simp; omega)]
  have hkk : ((n + 1 - i : Nat) : Int) = (n : Int) + 1 - (i : Int) := by omega
  rw [hkk] at HA0
  obtain ⟨w1, hw1⟩ : ∃ w1, w1 = w.drew.alloc (.cells d0 22) := ⟨_, rfl⟩
  have hnew : w1.heap[w.heap.size]? = some (.cells d0 22 (0, 0)) := by rw [hw1]; exact heap_alloc_new w.drew _
  have hbw : Below w.heap.size w w1 := by rw [hw1]; exact ((Below.refl w.heap.size w).drew).alloc (Nat.le_refl _) _
  have hold : ∀ k, k < w.heap.size → w1.heap[k]? = w.heap[k]? := fun k hk => hbw.block k hk
  have hz1 := hbw.size
  rw [← hw1] at HA0
  have HA := Lib.hid HA0
  obtain ⟨d1, hd1⟩ : ∃ d1, d1 = (d0.toList.take i ++ [x] ++ d0.toList.drop (i + ([x] : List Value).length)).toArray := ⟨_, rfl⟩
  obtain ⟨d2, hd2⟩ : ∃ d2, d2 = (d1.toList.take (i + 1) ++ vals.drop i ++ d1.toList.drop (i + 1 + (vals.drop i).length)).toArray := ⟨_, rfl⟩
  have hd1s : d1.size = gc := by rw [hd1]; simp; omega
  have hd2s : d2.size = gc := by rw [hd2]; simp; omega
  have R1 := run_copy_row Tryz.prog w1 26 26 3 22 w.heap.size i (n + 1 - i) (gc - i) ⟨b1, 0, none⟩ 1 c1 d0 22 [x] Tryz.underlying26 (by simp [kj, kz1]) hnew
    (by show 1 = Nat.min 1 (n + 1 - i); exact (Nat.min_eq_left (by omega)).symm) (fun j v hj => by
      match j, hj with
      | 0, hj =>
        simp at hj; subst hj
        show w1.cell? ⟨b1, 0, none⟩ = some x
        have hb1d : w1.heap[b1]? = some (.cells #[x] 22 (0, 0)) := (hold b1 hb1z).trans hb1
        simp [World.cell?, hb1d]) (by simp; omega) (fun u hu => by simp at hu; subst hu; exact h1)
  rw [← hd1] at R1
  have R2 := run_copy_row Tryz.prog (w1.setRow w.heap.size d1).drew 26 26 3 22 w.heap.size (i + 1) (n - i) (gc - (i + 1)) ⟨g, i, none⟩ (n - i) (n - i) d1 22 (vals.drop i) Tryz.underlying26 (by simp [kj, kz1]) (setRow_heap w1 w.heap.size d0 d1 22 (0, 0) hnew)
    (by rw [hdl]; exact (Nat.min_self _).symm) (fun j v hj => by
      rw [List.getElem?_drop] at hj
      have h := hcell (i + j) v hj
      rw [Nat.zero_add] at h
      rw [Addr.add_lit]
      show (w1.setRow w.heap.size d1).cell? ⟨g, i + j, none⟩ = some v
      rw [cell_setRow_other _ _ _ _ (by show g ≠ w.heap.size; omega), ← h]
      simp only [World.cell?, hold g hsz]) (by omega) (fun u hu => hall u (List.mem_of_mem_drop hu))
  rw [← hd2] at R2
  have HR1 := Lib.hid R1
  have HR2 := Lib.hid R2
  have HF : Hid (InsP 22 B (.slice (some ⟨g, 0, none⟩) n n) n (vals.take i ++ x :: vals.drop i) w (.returned (.slice (some ⟨w.heap.size, 0, none⟩) (n + 1) gc)) ((w1.setRow w.heap.size d1).drew.setRow w.heap.size d2)) := by
    refine ⟨w.heap.size, gc, rfl, ⟨by simp; omega, .inr ⟨w.heap.size, gc, d2, rfl, hBw, setRow_heap (w1.setRow w.heap.size d1).drew w.heap.size d1 d2 22 (0, 0) (setRow_heap w1 w.heap.size d0 d1 22 (0, 0) hnew), hge, hle, by omega, ?_⟩⟩, ?_, .inr rfl⟩
    · rw [Nat.mul_one, hd2, hd1]
      exact grow_list hd0t hi hvl (by simp; omega)
    · refine ⟨by rw [hw1]; rfl, by rw [hw1]; rfl, by rw [hw1]; rfl, ?_, fun k hk hk2 => ?_⟩
      · rw [setRow_size]
        show w.heap.size ≤ (w1.setRow w.heap.size d1).heap.size
        rw [setRow_size]; omega
      · have hkg : k ≠ w.heap.size := by omega
        rw [setRow_other _ _ _ _ hkg]
        show (w1.setRow w.heap.size d1).heap[k]? = _
        rw [setRow_other _ _ _ _ hkg]; exact hold k hk
  have hi1 : ¬ (i : Int) = (n : Int) := by omega
  have hi2 : ((i : Int) == (n : Int)) = false := by simp; omega
  have hi3 : (n : Int) < (n : Int) + 1 := by omega
  have eW : IntKind.i64.wrap ((i : Int) + 1) = (i : Int) + 1 := IntWalk.i64_in _ (by omega)
  have eN : ((i : Int) + 1).toNat = i + 1 := by omega
  have eB : 0 ≤ (i : Int) + 1 := by omega
  have eC : (i : Int) + 1 ≤ (n : Int) + 1 := by omega
  have eF : (i : Int) ≤ (n : Int) + 1 := by omega
  have eG : (i : Int) ≤ (n : Int) := by omega
  have eD : ¬ gc = i + 1 := by omega
  have eE : ¬ gc = i := by omega
  have eH : ¬ n = i := by omega
  have eI : n + 1 - (i + 1) = n - i := by omega
  clear R1 R2 HA0 hd1 hd2 hd1s hd2s hd0 hd0s hd0t hcell hvl hdl hv hg hb1 ho hcs hnew hold hbw hw1 hz1 hkk hik hgc hsz hb1z
  go_enter Tryz.func120, Tryz.ntmps120
  go_wp2_with (at_builtin; refine Lib.wpList_append_run _ rfl _ _ _ _ rfl _ _ rfl rfl _ _ HA.out ?_; have R1 := HR1.out)
  go_region_law (refine step_copy_runI (by rfl) _ _ _ _ (by rfl) (.slice (some ⟨w.heap.size, i + 1, none⟩) (n - i) (gc - (i + 1))) (.slice (some ⟨g, i, none⟩) (n - i) (n - i)) (by simp [Act.eval, Act.put]) (by simp [Act.eval, Act.put]) HR2.out ?_)
  go_wp2
  go_ret
  exact HF.out

theorem insertM_any (B n i b1 c1 : Nat) (v x : Value) (vals : List Value) (w : World) (ho : w.ownsRow B 22 1 v n vals) (hB : B ≤ w.heap.size) (hi : i ≤ n) (hn : n ≤ 1024) (hb1 : w.heap[b1]? = some (.cells #[x] 22 (0, 0))) (hne : v.ownBlock ≠ some b1) (h1 : x.oneCell' = true) (hall : ∀ u : Value, u ∈ vals → u.oneCell' = true) :
    Calls Tryz.prog 120 #[v, .int .i64 i, .slice (some ⟨b1, 0, none⟩) 1 c1] w (InsP 22 B v n (ins _ vals i x) w) := by
  have hvl : vals.length = n := by have := ho.1; omega
  by_cases e : i = n
  · subst e
    have hx : w.cell? ⟨b1, 0, none⟩ = some x := by simp [World.cell?, hb1]
    have e2 : ins _ vals i x = vals ++ [x] := by unfold ins; rw [List.take_of_length_le (by omega), List.drop_of_length_le (by omega)]
    rw [e2]
    exact insertM_end B i b1 c1 v x vals w ho hB hn hx h1
  · have ho' := ho.2
    rcases ho' with ⟨_, h0⟩ | ⟨g, cap, cur, rfl, _, _, hnc, _, _, _⟩
    · omega
    · have hbg : b1 ≠ g := fun k => hne (by rw [k]; rfl)
      by_cases hc : n + 1 ≤ cap
      · exact insertM_room B n g cap i b1 c1 x vals w ho (by omega) hc hn hb1 hbg h1 hall
      · have hcn : cap = n := by omega
        subst hcn
        exact insertM_grow B cap g i b1 c1 x vals w ho hB (by omega) hn hb1 h1 hall

set_option maxRecDepth 100000 in
set_option maxHeartbeats 1600000 in
theorem insertI_grow (B n g i b1 c1 : Nat) (x : Value) (vals : List Value) (w : World) (ho : w.ownsRow B 3 1 (.slice (some ⟨g, 0, none⟩) n n) n vals) (hBw : B ≤ w.heap.size) (hi : i < n) (hn : n ≤ 1024) (hb1 : w.heap[b1]? = some (.cells #[x] 3 (0, 0))) (h1 : x.oneCell' = true) (hall : ∀ u : Value, u ∈ vals → u.oneCell' = true) :
    Calls Tryz.prog 121 #[.slice (some ⟨g, 0, none⟩) n n, .int .i64 i, .slice (some ⟨b1, 0, none⟩) 1 c1] w (InsP 3 B (.slice (some ⟨g, 0, none⟩) n n) n (vals.take i ++ x :: vals.drop i) w) := by
  obtain ⟨j0, kj, kz0, kz1, kz2⟩ := info_parts info_place
  obtain ⟨cur, hg, hcs, hv⟩ : ∃ cur, w.heap[g]? = some (.cells cur 3 (0, 0)) ∧ cur.size = n ∧ cur.toList.take n = vals := by
    rcases ho.2 with ⟨h, _⟩ | ⟨g', cap', cur, h, q1, q2, q3, q4, q5, q6⟩
    · simp at h
    · cases h; exact ⟨cur, q2, by omega, by rw [Nat.mul_one] at q6; exact q6⟩
  have hsz := (Array.getElem?_eq_some_iff.1 hg).1
  have hb1z := (Array.getElem?_eq_some_iff.1 hb1).1
  have hvl : vals.length = n := by have := ho.1; omega
  have hdl : (vals.drop i).length = n - i := by rw [List.length_drop]; omega
  have hcell : ∀ j v, vals[j]? = some v → w.cell? ⟨g, 0 + j, none⟩ = some v := fun j v hj => by
    have h := ho.cells (g := g) rfl j v hj
    rwa [Addr.add_lit] at h
  have hik : i + (n + 1 - i) = n + 1 := by omega
  have HA0 := Lib.run_append_grow_zeros (P := Tryz.prog) w 94 3 94 3 j0 (.int .i64 0) .i64 .i64 Tryz.underlying94 Tryz.underlying3 kj kz0 (some ⟨g, 0, none⟩) i n (vals.take i)
    (run_firstCells_some w.drew j0.size i ⟨g, 0, none⟩ i n (vals.take i) (by rw [kz1, List.length_take]; omega) (fun j v hj => by
      have hj2 : vals[j]? = some v := by
        rw [List.getElem?_take] at hj
        split at hj
        · exact hj
        · simp at hj
      have h := hcell j v hj2
      rw [Addr.add_lit]; exact h)) (n + 1 - i) (by omega) (by omega) (by omega) (by omega) (by rw [kz2]; omega) (by
        have := nextslicecap_le (need := i + (n + 1 - i)) (old := n) (by omega)
        rw [kz2]; omega)
  rw [hik] at HA0
  obtain ⟨gc, hgc⟩ : ∃ gc, gc = grownCap w (n + 1) n 3 := ⟨_, rfl⟩
  have hge : n + 1 ≤ gc := by rw [hgc]; exact grownCap_ge _ _ _ _
  have hle : gc ≤ maxLen := by rw [hgc]; exact grownCap_le_maxLen _ _ _ _ (by unfold maxLen; omega)
  rw [← hgc] at HA0
  obtain ⟨d0, hd0⟩ : ∃ d0, d0 = ((vals.take i).toArray ++ Builtin.zeroCells (Value.cells (.int .i64 0)) (n + 1 - i) ++ Builtin.zeroCells (Value.cells (.int .i64 0)) (gc - (n + 1))) := ⟨_, rfl⟩
  rw [← hd0] at HA0
  have hd0s : d0.size = gc := by rw [hd0]; simp [Builtin.zeroCells, Value.cells]; omega
  have hd0t : d0.toList.take i = vals.take i := by
    rw [hd0]; simp only [Array.toList_append, List.append_assoc]
    rw [List.take_left' (by simp; omega)]
  have hkk : ((n + 1 - i : Nat) : Int) = (n : Int) + 1 - (i : Int) := by omega
  rw [hkk] at HA0
  obtain ⟨w1, hw1⟩ : ∃ w1, w1 = w.drew.alloc (.cells d0 3) := ⟨_, rfl⟩
  have hnew : w1.heap[w.heap.size]? = some (.cells d0 3 (0, 0)) := by rw [hw1]; exact heap_alloc_new w.drew _
  have hbw : Below w.heap.size w w1 := by rw [hw1]; exact ((Below.refl w.heap.size w).drew).alloc (Nat.le_refl _) _
  have hold : ∀ k, k < w.heap.size → w1.heap[k]? = w.heap[k]? := fun k hk => hbw.block k hk
  have hz1 := hbw.size
  rw [← hw1] at HA0
  have HA := Lib.hid HA0
  obtain ⟨d1, hd1⟩ : ∃ d1, d1 = (d0.toList.take i ++ [x] ++ d0.toList.drop (i + ([x] : List Value).length)).toArray := ⟨_, rfl⟩
  obtain ⟨d2, hd2⟩ : ∃ d2, d2 = (d1.toList.take (i + 1) ++ vals.drop i ++ d1.toList.drop (i + 1 + (vals.drop i).length)).toArray := ⟨_, rfl⟩
  have hd1s : d1.size = gc := by rw [hd1]; simp; omega
  have hd2s : d2.size = gc := by rw [hd2]; simp; omega
  have R1 := run_copy_row Tryz.prog w1 94 94 3 3 w.heap.size i (n + 1 - i) (gc - i) ⟨b1, 0, none⟩ 1 c1 d0 3 [x] Tryz.underlying94 (by simp [kj, kz1]) hnew
    (by show 1 = Nat.min 1 (n + 1 - i); exact (Nat.min_eq_left (by omega)).symm) (fun j v hj => by
      match j, hj with
      | 0, hj =>
        simp at hj; subst hj
        show w1.cell? ⟨b1, 0, none⟩ = some x
        have hb1d : w1.heap[b1]? = some (.cells #[x] 3 (0, 0)) := (hold b1 hb1z).trans hb1
        simp [World.cell?, hb1d]) (by simp; omega) (fun u hu => by simp at hu; subst hu; exact h1)
  rw [← hd1] at R1
  have R2 := run_copy_row Tryz.prog (w1.setRow w.heap.size d1).drew 94 94 3 3 w.heap.size (i + 1) (n - i) (gc - (i + 1)) ⟨g, i, none⟩ (n - i) (n - i) d1 3 (vals.drop i) Tryz.underlying94 (by simp [kj, kz1]) (setRow_heap w1 w.heap.size d0 d1 3 (0, 0) hnew)
    (by rw [hdl]; exact (Nat.min_self _).symm) (fun j v hj => by
      rw [List.getElem?_drop] at hj
      have h := hcell (i + j) v hj
      rw [Nat.zero_add] at h
      rw [Addr.add_lit]
      show (w1.setRow w.heap.size d1).cell? ⟨g, i + j, none⟩ = some v
      rw [cell_setRow_other _ _ _ _ (by show g ≠ w.heap.size; omega), ← h]
      simp only [World.cell?, hold g hsz]) (by omega) (fun u hu => hall u (List.mem_of_mem_drop hu))
  rw [← hd2] at R2
  have HR1 := Lib.hid R1
  have HR2 := Lib.hid R2
  have HF : Hid (InsP 3 B (.slice (some ⟨g, 0, none⟩) n n) n (vals.take i ++ x :: vals.drop i) w (.returned (.slice (some ⟨w.heap.size, 0, none⟩) (n + 1) gc)) ((w1.setRow w.heap.size d1).drew.setRow w.heap.size d2)) := by
    refine ⟨w.heap.size, gc, rfl, ⟨by simp; omega, .inr ⟨w.heap.size, gc, d2, rfl, hBw, setRow_heap (w1.setRow w.heap.size d1).drew w.heap.size d1 d2 3 (0, 0) (setRow_heap w1 w.heap.size d0 d1 3 (0, 0) hnew), hge, hle, by omega, ?_⟩⟩, ?_, .inr rfl⟩
    · rw [Nat.mul_one, hd2, hd1]
      exact grow_list hd0t hi hvl (by simp; omega)
    · refine ⟨by rw [hw1]; rfl, by rw [hw1]; rfl, by rw [hw1]; rfl, ?_, fun k hk hk2 => ?_⟩
      · rw [setRow_size]
        show w.heap.size ≤ (w1.setRow w.heap.size d1).heap.size
        rw [setRow_size]; omega
      · have hkg : k ≠ w.heap.size := by omega
        rw [setRow_other _ _ _ _ hkg]
        show (w1.setRow w.heap.size d1).heap[k]? = _
        rw [setRow_other _ _ _ _ hkg]; exact hold k hk
  have hi1 : ¬ (i : Int) = (n : Int) := by omega
  have hi2 : ((i : Int) == (n : Int)) = false := by simp; omega
  have hi3 : (n : Int) < (n : Int) + 1 := by omega
  have eW : IntKind.i64.wrap ((i : Int) + 1) = (i : Int) + 1 := IntWalk.i64_in _ (by omega)
  have eN : ((i : Int) + 1).toNat = i + 1 := by omega
  have eB : 0 ≤ (i : Int) + 1 := by omega
  have eC : (i : Int) + 1 ≤ (n : Int) + 1 := by omega
  have eF : (i : Int) ≤ (n : Int) + 1 := by omega
  have eG : (i : Int) ≤ (n : Int) := by omega
  have eD : ¬ gc = i + 1 := by omega
  have eE : ¬ gc = i := by omega
  have eH : ¬ n = i := by omega
  have eI : n + 1 - (i + 1) = n - i := by omega
  clear R1 R2 HA0 hd1 hd2 hd1s hd2s hd0 hd0s hd0t hcell hvl hdl hv hg hb1 ho hcs hnew hold hbw hw1 hz1 hkk hik hgc hsz hb1z
  go_enter Tryz.func121, Tryz.ntmps121
  go_wp2_with (at_builtin; refine Lib.wpList_append_run _ rfl _ _ _ _ rfl _ _ rfl rfl _ _ HA.out ?_; have R1 := HR1.out)
  go_region_law (refine step_copy_runI (by rfl) _ _ _ _ (by rfl) (.slice (some ⟨w.heap.size, i + 1, none⟩) (n - i) (gc - (i + 1))) (.slice (some ⟨g, i, none⟩) (n - i) (n - i)) (by simp [Act.eval, Act.put]) (by simp [Act.eval, Act.put]) HR2.out ?_)
  go_wp2
  go_ret
  exact HF.out

theorem insertI_any (B n i b1 c1 : Nat) (v x : Value) (vals : List Value) (w : World) (ho : w.ownsRow B 3 1 v n vals) (hB : B ≤ w.heap.size) (hi : i ≤ n) (hn : n ≤ 1024) (hb1 : w.heap[b1]? = some (.cells #[x] 3 (0, 0))) (hne : v.ownBlock ≠ some b1) (h1 : x.oneCell' = true) (hall : ∀ u : Value, u ∈ vals → u.oneCell' = true) :
    Calls Tryz.prog 121 #[v, .int .i64 i, .slice (some ⟨b1, 0, none⟩) 1 c1] w (InsP 3 B v n (ins _ vals i x) w) := by
  have hvl : vals.length = n := by have := ho.1; omega
  by_cases e : i = n
  · subst e
    have hx : w.cell? ⟨b1, 0, none⟩ = some x := by simp [World.cell?, hb1]
    have e2 : ins _ vals i x = vals ++ [x] := by unfold ins; rw [List.take_of_length_le (by omega), List.drop_of_length_le (by omega)]
    rw [e2]
    exact insertI_end B i b1 c1 v x vals w ho hB hn hx h1
  · have ho' := ho.2
    rcases ho' with ⟨_, h0⟩ | ⟨g, cap, cur, rfl, _, _, hnc, _, _, _⟩
    · omega
    · have hbg : b1 ≠ g := fun k => hne (by rw [k]; rfl)
      by_cases hc : n + 1 ≤ cap
      · exact insertI_room B n g cap i b1 c1 x vals w ho (by omega) hc hn hb1 hbg h1 hall
      · have hcn : cap = n := by omega
        subst hcn
        exact insertI_grow B cap g i b1 c1 x vals w ho hB (by omega) hn hb1 h1 hall

end Go.Proofs.YtkibkkdeaojjoabGreat
