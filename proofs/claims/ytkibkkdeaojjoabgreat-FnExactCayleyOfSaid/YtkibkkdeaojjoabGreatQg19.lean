/-
  The program's insertions of one value into a list of rows and into a list of places: contracts.
  Conditions: the list is one's own, the value lies in a list of one cell.
-/
import Derived.Test.YtkibkkdeaojjoabGreatQg18
import Derived.Deep.AppendLies
import Derived.Shelf.Spec.SlicesInsert
namespace Go.Proofs.YtkibkkdeaojjoabGreat
open Go.RowKit Go.ChangeShapes Go.WideShapes
set_option linter.unusedVariables false

theorem info_place : (Tryz.prog.info? 3).map (fun i => (i.zero, i.size, i.bytes)) = some (some (.int .i64 0), 1, 8) := by kernel_rfl

/-- The list with the value in it is one's own; only its block and new ones have changed. -/
def InsP (E : TypeId) (B : Nat) (v : Value) (n : Nat) (Y : List Value) (w : World) (e : Ending) (w' : World) : Prop :=
  ∃ g cap, e = .returned (.slice (some ⟨g, 0, none⟩) (n + 1) cap) ∧ w'.ownsRow B E 1 (.slice (some ⟨g, 0, none⟩) (n + 1) cap) (n + 1) Y ∧ w.grownBy w' v.ownBlock ∧ (v.ownBlock = some g ∨ g = w.heap.size)
theorem room_list {C V : List Value} {x : Value} {i n : Nat} (h : C.take n = V) (hi : i < n) (hn : n < C.length) :
    ((C.take (i + 1) ++ V.drop i ++ C.drop (i + 1 + (V.drop i).length)).toArray.toList.take i ++ [x] ++ (C.take (i + 1) ++ V.drop i ++ C.drop (i + 1 + (V.drop i).length)).toArray.toList.drop (i + ([x] : List Value).length)).toArray.toList.take (n + 1) = V.take i ++ x :: V.drop i := by
  show (List.take i (C.take (i + 1) ++ V.drop i ++ C.drop (i + 1 + (V.drop i).length)) ++ [x] ++ List.drop (i + 1) (C.take (i + 1) ++ V.drop i ++ C.drop (i + 1 + (V.drop i).length))).take (n + 1) = _
  have hl : (C.take (i + 1)).length = i + 1 := by rw [List.length_take]; omega
  have hV : V.length = n := by rw [← h, List.length_take]; omega
  have e1 : C.take i = V.take i := by rw [← h, List.take_take, Nat.min_eq_left (by omega)]
  have t1 : List.take i (C.take (i + 1) ++ V.drop i ++ C.drop (i + 1 + (V.drop i).length)) = V.take i := by
    rw [List.append_assoc, List.take_append_of_le_length (by omega), List.take_take, Nat.min_eq_left (by omega), e1]
  have t2 : List.drop (i + 1) (C.take (i + 1) ++ V.drop i ++ C.drop (i + 1 + (V.drop i).length)) = V.drop i ++ C.drop (i + 1 + (V.drop i).length) := by
    rw [List.append_assoc, List.drop_left' hl]
  rw [t1, t2, ← List.append_assoc, List.take_left' (by simp; omega)]
  simp
theorem one_at {w : World} {b1 : Nat} {x : Value} (hx : w.cell? ⟨b1, 0, none⟩ = some x) : ∀ j u, ([x] : List Value)[j]? = some u → w.cell? ((⟨b1, 0, none⟩ : Addr).add j) = some u := by
  intro j u hj
  match j, hj with
  | 0, hj => simp at hj; subst hj; exact hx

set_option maxRecDepth 100000 in
set_option maxHeartbeats 1600000 in
theorem insertM_end (B n b1 c1 : Nat) (v x : Value) (vals : List Value) (w : World) (ho : w.ownsRow B 22 1 v n vals) (hB : B ≤ w.heap.size) (hn : n ≤ 1024) (hx : w.cell? ⟨b1, 0, none⟩ = some x) (h1 : x.oneCell' = true) :
    Calls Tryz.prog 120 #[v, .int .i64 n, .slice (some ⟨b1, 0, none⟩) 1 c1] w (InsP 22 B v n (vals ++ [x]) w) := by
  obtain ⟨j0, kj, kz0, kz1, kz2⟩ := info_parts info_slice
  have HN := Lib.hid (one_at hx)
  have HX : Hid (∀ u : Value, u ∈ [x] → u.oneCell' = true) := fun u hu => by simp at hu; subst hu; exact h1
  have ho' := ho.2
  have HO := Lib.hid ho
  clear ho hx h1
  rcases ho' with ⟨rfl, rfl⟩ | ⟨g, cap, cur, rfl, hb, hg, hnc, hcm, hcs, htake⟩
  · go_enter Tryz.func120, Tryz.ntmps120
    go_wp2_with (at_builtin; refine wpList_append_lies _ rfl _ _ 26 rfl B 22 j0 (.slice none 0 0) 1 24 Tryz.underlying26 kj kz0 kz1 kz2 rfl (by decide) (.slice none 0 0) 0 vals rfl HO.out ⟨b1, 0, none⟩ 1 c1 [x] rfl rfl HN.out HX.out (by omega) (by unfold maxLen; omega) (by omega) hB w.heap.size rfl ?_; intro gg cap' w1 hown1 hgrow hat hlt1)
    all_goals (go_ret; exact ⟨gg, cap', rfl, hown1, hgrow, hat⟩)
  · clear hg htake hcs
    go_enter Tryz.func120, Tryz.ntmps120
    go_wp2_with (at_builtin; refine wpList_append_lies _ rfl _ _ 26 rfl B 22 j0 (.slice none 0 0) 1 24 Tryz.underlying26 kj kz0 kz1 kz2 rfl (by decide) (.slice (some ⟨g, 0, none⟩) n cap) n vals rfl HO.out ⟨b1, 0, none⟩ 1 c1 [x] rfl rfl HN.out HX.out (by omega) (by unfold maxLen; omega) (by omega) hB w.heap.size rfl ?_; intro gg cap' w1 hown1 hgrow hat hlt1)
    all_goals (go_ret; exact ⟨gg, cap', rfl, hown1, hgrow, hat⟩)

/-! ### The other roads -/
set_option maxRecDepth 100000 in
theorem overlapsM_run (w : World) (a b : Addr) (la ca lb cb : Nat) (hne : a.block ≠ b.block) (tA tB : TypeId) (kA kB : Nat) (hA : w.shape? a.block = some (tA, kA)) (hB : w.shape? b.block = some (tB, kB)) (hk : kB ≠ 0) (f0 : w.frozen? a = false) (f1 : w.frozen? ⟨a.block, kA, none⟩ = false) :
    Sem.run Tryz.prog (callFunc 129 #[.slice (some a) la ca, .slice (some b) lb cb]) w = .ok (.value (.bool false)) w := by
  have h := Lib.run_overlaps_apart (P := Tryz.prog) w 26 4 22 Tryz.underlying26 1 (fun w => by kernel_rfl) a b la ca lb cb hne tA tB kA kB hA hB hk f0 f1
  have e1 : Extern.findNext Tryz.f129 = none := by kernel_rfl
  have e2 : Extern.find Tryz.f129 = some (Extern.SlicesOverlaps.overlaps #[26, 26] #[4]) := by kernel_rfl
  have e3 : Tryz.f129.body = none := by kernel_rfl
  have e4' : (Tryz.f129.name == "runtime.NumGoroutine") = false := by kernel_rfl
  have e4 : ¬ Tryz.f129.name = "runtime.NumGoroutine" := by simpa using e4'
  simp [callFunc, go_sem, Tryz.func129, e1, e2, e3, e4, h]

set_option maxRecDepth 100000 in
set_option maxHeartbeats 1600000 in
theorem insertM_room (B n g cap i b1 c1 : Nat) (x : Value) (vals : List Value) (w : World) (ho : w.ownsRow B 22 1 (.slice (some ⟨g, 0, none⟩) n cap) n vals) (hi : i < n) (hc : n + 1 ≤ cap) (hn : n ≤ 1024) (hb1 : w.heap[b1]? = some (.cells #[x] 22 (0, 0))) (hne : b1 ≠ g) (h1 : x.oneCell' = true) (hall : ∀ u : Value, u ∈ vals → u.oneCell' = true) :
    Calls Tryz.prog 120 #[.slice (some ⟨g, 0, none⟩) n cap, .int .i64 i, .slice (some ⟨b1, 0, none⟩) 1 c1] w (InsP 22 B (.slice (some ⟨g, 0, none⟩) n cap) n (vals.take i ++ x :: vals.drop i) w) := by
  obtain ⟨j0, kj, kz0, kz1, kz2⟩ := info_parts info_slice
  obtain ⟨cur, hBg, hg, hcm, hcs, hv⟩ : ∃ cur, B ≤ g ∧ w.heap[g]? = some (.cells cur 22 (0, 0)) ∧ cap ≤ maxLen ∧ cur.size = cap ∧ cur.toList.take n = vals := by
    rcases ho.2 with ⟨h, _⟩ | ⟨g', cap', cur, h, q1, q2, q3, q4, q5, q6⟩
    · simp at h
    · cases h; exact ⟨cur, q1, q2, q4, by omega, by rw [Nat.mul_one] at q6; exact q6⟩
  obtain ⟨d1, hd1⟩ : ∃ d1, d1 = (cur.toList.take (i + 1) ++ vals.drop i ++ cur.toList.drop (i + 1 + (vals.drop i).length)).toArray := ⟨_, rfl⟩
  obtain ⟨d2, hd2⟩ : ∃ d2, d2 = (d1.toList.take i ++ [x] ++ d1.toList.drop (i + ([x] : List Value).length)).toArray := ⟨_, rfl⟩
  have hvl : vals.length = n := by rw [← hv, List.length_take]; simp; omega
  have hdl : (vals.drop i).length = n - i := by rw [List.length_drop]; omega
  have hd1s : d1.size = cap := by rw [hd1]; simp; omega
  have hd2s : d2.size = cap := by rw [hd2]; simp; omega
  have hcell : ∀ j v, vals[j]? = some v → w.cell? ⟨g, 0 + j, none⟩ = some v := fun j v hj => by
    have h := ho.cells (g := g) rfl j v hj
    rwa [Addr.add_lit] at h
  have hsz := (Array.getElem?_eq_some_iff.1 hg).1
  have R1 := run_copy_row Tryz.prog w.drew 26 26 3 22 g (i + 1) (n - i) (cap - (i + 1)) ⟨g, i, none⟩ (n + 1 - i) (cap - i) cur 22 (vals.drop i) Tryz.underlying26 (by simp [kj, kz1]) hg
    (by rw [hdl]; exact (Nat.min_eq_right (by omega)).symm) (fun j v hj => by
      rw [List.getElem?_drop] at hj
      have := hcell (i + j) v hj
      rw [Nat.zero_add] at this
      rw [Addr.add_lit]; exact this) (by omega) (fun u hu => hall u (List.mem_of_mem_drop hu))
  rw [← hd1] at R1
  have R2 := run_copy_row Tryz.prog (w.drew.setRow g d1) 26 26 3 22 g i (n + 1 - i) (cap - i) ⟨b1, 0, none⟩ 1 c1 d1 22 [x] Tryz.underlying26 (by simp [kj, kz1]) (setRow_heap w.drew g cur d1 22 (0, 0) hg)
    (by show 1 = Nat.min 1 (n + 1 - i); exact (Nat.min_eq_left (by omega)).symm) (fun j v hj => by
      match j, hj with
      | 0, hj =>
        simp at hj; subst hj
        show (w.drew.setRow g d1).cell? ⟨b1, 0, none⟩ = some x
        rw [cell_setRow_other _ _ _ _ hne]
        have hb1d : w.drew.heap[b1]? = some (.cells #[x] 22 (0, 0)) := hb1
        simp [World.cell?, hb1d]) (by simp; omega) (fun u hu => by simp at hu; subst hu; exact h1)
  rw [← hd2] at R2
  have HR1 := Lib.hid R1
  have HR2 := Lib.hid R2
  have HF : Hid (InsP 22 B (.slice (some ⟨g, 0, none⟩) n cap) n (vals.take i ++ x :: vals.drop i) w (.returned (.slice (some ⟨g, 0, none⟩) (n + 1) cap)) ((w.drew.setRow g d1).setRow g d2)) := by
    refine ⟨g, cap, rfl, ⟨by simp; omega, .inr ⟨g, cap, d2, rfl, hBg, setRow_heap (w.drew.setRow g d1) g d1 d2 22 (0, 0) (setRow_heap w.drew g cur d1 22 (0, 0) hg), hc, hcm, by omega, ?_⟩⟩, ?_, .inl rfl⟩
    · rw [Nat.mul_one, hd2, hd1]
      exact room_list hv hi (by simp; omega)
    · refine ⟨rfl, rfl, rfl, by rw [setRow_size, setRow_size]; exact Nat.le_refl _, fun k hk hk2 => ?_⟩
      have hkg : k ≠ g := fun e => hk2 (by rw [e]; rfl)
      rw [setRow_other _ _ _ _ hkg, setRow_other _ _ _ _ hkg]; rfl
  have OV := overlapsM_run w ⟨b1, 0, none⟩ ⟨g, i + 1, none⟩ 1 c1 (n - i) (cap - (i + 1)) hne 22 22 1 cap (by simp [World.shape?, hb1]) (by simp [World.shape?, hg, hcs]) (by omega) (free_of hb1 0) (free_of hb1 1)
  have hi1 : ¬ (i : Int) = (n : Int) := by omega
  have hi2 : ((i : Int) == (n : Int)) = false := by simp; omega
  have hi3 : ¬ (cap : Int) < (n : Int) + 1 := by omega
  have eW : IntKind.i64.wrap ((i : Int) + 1) = (i : Int) + 1 := IntWalk.i64_in _ (by omega)
  have eN : ((i : Int) + 1).toNat = i + 1 := by omega
  have eB : 0 ≤ (i : Int) + 1 := by omega
  have eC : (i : Int) + 1 ≤ (n : Int) + 1 := by omega
  have eD : ¬ cap = i + 1 := by omega
  have eE : ¬ cap = i := by omega
  have eF : (i : Int) ≤ (n : Int) + 1 := by omega
  clear R1 R2 hd1 hd2 hd1s hd2s hcell hvl hdl hv hg hb1 ho hcs
  go_enter Tryz.func120, Tryz.ntmps120
  go_wp2
  go_region_law (refine step_copy_runI (by rfl) _ _ _ _ (by rfl) (.slice (some ⟨g, i + 1, none⟩) (n - i) (cap - (i + 1))) (.slice (some ⟨g, i, none⟩) (n + 1 - i) (cap - i)) (by simp [Act.eval, Act.put]) (by simp [Act.eval, Act.put]) HR1.out ?_)
  have R2 := HR2.out
  clear OV
  go_wp2
  go_ret
  exact HF.out

set_option maxRecDepth 100000 in
set_option maxHeartbeats 1600000 in
theorem insertI_end (B n b1 c1 : Nat) (v x : Value) (vals : List Value) (w : World) (ho : w.ownsRow B 3 1 v n vals) (hB : B ≤ w.heap.size) (hn : n ≤ 1024) (hx : w.cell? ⟨b1, 0, none⟩ = some x) (h1 : x.oneCell' = true) :
    Calls Tryz.prog 121 #[v, .int .i64 n, .slice (some ⟨b1, 0, none⟩) 1 c1] w (InsP 3 B v n (vals ++ [x]) w) := by
  obtain ⟨j0, kj, kz0, kz1, kz2⟩ := info_parts info_place
  have HN := Lib.hid (one_at hx)
  have HX : Hid (∀ u : Value, u ∈ [x] → u.oneCell' = true) := fun u hu => by simp at hu; subst hu; exact h1
  have ho' := ho.2
  have HO := Lib.hid ho
  clear ho hx h1
  rcases ho' with ⟨rfl, rfl⟩ | ⟨g, cap, cur, rfl, hb, hg, hnc, hcm, hcs, htake⟩
  · go_enter Tryz.func121, Tryz.ntmps121
    go_wp2_with (at_builtin; refine wpList_append_lies _ rfl _ _ 94 rfl B 3 j0 (.int .i64 0) 1 8 Tryz.underlying94 kj kz0 kz1 kz2 rfl (by decide) (.slice none 0 0) 0 vals rfl HO.out ⟨b1, 0, none⟩ 1 c1 [x] rfl rfl HN.out HX.out (by omega) (by unfold maxLen; omega) (by omega) hB w.heap.size rfl ?_; intro gg cap' w1 hown1 hgrow hat hlt1)
    all_goals (go_ret; exact ⟨gg, cap', rfl, hown1, hgrow, hat⟩)
  · clear hg htake hcs
    go_enter Tryz.func121, Tryz.ntmps121
    go_wp2_with (at_builtin; refine wpList_append_lies _ rfl _ _ 94 rfl B 3 j0 (.int .i64 0) 1 8 Tryz.underlying94 kj kz0 kz1 kz2 rfl (by decide) (.slice (some ⟨g, 0, none⟩) n cap) n vals rfl HO.out ⟨b1, 0, none⟩ 1 c1 [x] rfl rfl HN.out HX.out (by omega) (by unfold maxLen; omega) (by omega) hB w.heap.size rfl ?_; intro gg cap' w1 hown1 hgrow hat hlt1)
    all_goals (go_ret; exact ⟨gg, cap', rfl, hown1, hgrow, hat⟩)

/-! ### The other roads -/
set_option maxRecDepth 100000 in
theorem overlapsI_run (w : World) (a b : Addr) (la ca lb cb : Nat) (hne : a.block ≠ b.block) (tA tB : TypeId) (kA kB : Nat) (hA : w.shape? a.block = some (tA, kA)) (hB : w.shape? b.block = some (tB, kB)) (hk : kB ≠ 0) (f0 : w.frozen? a = false) (f1 : w.frozen? ⟨a.block, kA, none⟩ = false) :
    Sem.run Tryz.prog (callFunc 131 #[.slice (some a) la ca, .slice (some b) lb cb]) w = .ok (.value (.bool false)) w := by
  have h := Lib.run_overlaps_apart (P := Tryz.prog) w 94 4 3 Tryz.underlying94 1 (fun w => by kernel_rfl) a b la ca lb cb hne tA tB kA kB hA hB hk f0 f1
  have e1 : Extern.findNext Tryz.f131 = none := by kernel_rfl
  have e2 : Extern.find Tryz.f131 = some (Extern.SlicesOverlaps.overlaps #[94, 94] #[4]) := by kernel_rfl
  have e3 : Tryz.f131.body = none := by kernel_rfl
  have e4' : (Tryz.f131.name == "runtime.NumGoroutine") = false := by kernel_rfl
  have e4 : ¬ Tryz.f131.name = "runtime.NumGoroutine" := by simpa using e4'
  simp [callFunc, go_sem, Tryz.func131, e1, e2, e3, e4, h]

set_option maxRecDepth 100000 in
set_option maxHeartbeats 1600000 in
theorem insertI_room (B n g cap i b1 c1 : Nat) (x : Value) (vals : List Value) (w : World) (ho : w.ownsRow B 3 1 (.slice (some ⟨g, 0, none⟩) n cap) n vals) (hi : i < n) (hc : n + 1 ≤ cap) (hn : n ≤ 1024) (hb1 : w.heap[b1]? = some (.cells #[x] 3 (0, 0))) (hne : b1 ≠ g) (h1 : x.oneCell' = true) (hall : ∀ u : Value, u ∈ vals → u.oneCell' = true) :
    Calls Tryz.prog 121 #[.slice (some ⟨g, 0, none⟩) n cap, .int .i64 i, .slice (some ⟨b1, 0, none⟩) 1 c1] w (InsP 3 B (.slice (some ⟨g, 0, none⟩) n cap) n (vals.take i ++ x :: vals.drop i) w) := by
  obtain ⟨j0, kj, kz0, kz1, kz2⟩ := info_parts info_place
  obtain ⟨cur, hBg, hg, hcm, hcs, hv⟩ : ∃ cur, B ≤ g ∧ w.heap[g]? = some (.cells cur 3 (0, 0)) ∧ cap ≤ maxLen ∧ cur.size = cap ∧ cur.toList.take n = vals := by
    rcases ho.2 with ⟨h, _⟩ | ⟨g', cap', cur, h, q1, q2, q3, q4, q5, q6⟩
    · simp at h
    · cases h; exact ⟨cur, q1, q2, q4, by omega, by rw [Nat.mul_one] at q6; exact q6⟩
  obtain ⟨d1, hd1⟩ : ∃ d1, d1 = (cur.toList.take (i + 1) ++ vals.drop i ++ cur.toList.drop (i + 1 + (vals.drop i).length)).toArray := ⟨_, rfl⟩
  obtain ⟨d2, hd2⟩ : ∃ d2, d2 = (d1.toList.take i ++ [x] ++ d1.toList.drop (i + ([x] : List Value).length)).toArray := ⟨_, rfl⟩
  have hvl : vals.length = n := by rw [← hv, List.length_take]; simp; omega
  have hdl : (vals.drop i).length = n - i := by rw [List.length_drop]; omega
  have hd1s : d1.size = cap := by rw [hd1]; simp; omega
  have hd2s : d2.size = cap := by rw [hd2]; simp; omega
  have hcell : ∀ j v, vals[j]? = some v → w.cell? ⟨g, 0 + j, none⟩ = some v := fun j v hj => by
    have h := ho.cells (g := g) rfl j v hj
    rwa [Addr.add_lit] at h
  have hsz := (Array.getElem?_eq_some_iff.1 hg).1
  have R1 := run_copy_row Tryz.prog w.drew 94 94 3 3 g (i + 1) (n - i) (cap - (i + 1)) ⟨g, i, none⟩ (n + 1 - i) (cap - i) cur 3 (vals.drop i) Tryz.underlying94 (by simp [kj, kz1]) hg
    (by rw [hdl]; exact (Nat.min_eq_right (by omega)).symm) (fun j v hj => by
      rw [List.getElem?_drop] at hj
      have := hcell (i + j) v hj
      rw [Nat.zero_add] at this
      rw [Addr.add_lit]; exact this) (by omega) (fun u hu => hall u (List.mem_of_mem_drop hu))
  rw [← hd1] at R1
  have R2 := run_copy_row Tryz.prog (w.drew.setRow g d1) 94 94 3 3 g i (n + 1 - i) (cap - i) ⟨b1, 0, none⟩ 1 c1 d1 3 [x] Tryz.underlying94 (by simp [kj, kz1]) (setRow_heap w.drew g cur d1 3 (0, 0) hg)
    (by show 1 = Nat.min 1 (n + 1 - i); exact (Nat.min_eq_left (by omega)).symm) (fun j v hj => by
      match j, hj with
      | 0, hj =>
        simp at hj; subst hj
        show (w.drew.setRow g d1).cell? ⟨b1, 0, none⟩ = some x
        rw [cell_setRow_other _ _ _ _ hne]
        have hb1d : w.drew.heap[b1]? = some (.cells #[x] 3 (0, 0)) := hb1
        simp [World.cell?, hb1d]) (by simp; omega) (fun u hu => by simp at hu; subst hu; exact h1)
  rw [← hd2] at R2
  have HR1 := Lib.hid R1
  have HR2 := Lib.hid R2
  have HF : Hid (InsP 3 B (.slice (some ⟨g, 0, none⟩) n cap) n (vals.take i ++ x :: vals.drop i) w (.returned (.slice (some ⟨g, 0, none⟩) (n + 1) cap)) ((w.drew.setRow g d1).setRow g d2)) := by
    refine ⟨g, cap, rfl, ⟨by simp; omega, .inr ⟨g, cap, d2, rfl, hBg, setRow_heap (w.drew.setRow g d1) g d1 d2 3 (0, 0) (setRow_heap w.drew g cur d1 3 (0, 0) hg), hc, hcm, by omega, ?_⟩⟩, ?_, .inl rfl⟩
    · rw [Nat.mul_one, hd2, hd1]
      exact room_list hv hi (by simp; omega)
    · refine ⟨rfl, rfl, rfl, by rw [setRow_size, setRow_size]; exact Nat.le_refl _, fun k hk hk2 => ?_⟩
      have hkg : k ≠ g := fun e => hk2 (by rw [e]; rfl)
      rw [setRow_other _ _ _ _ hkg, setRow_other _ _ _ _ hkg]; rfl
  have OV := overlapsI_run w ⟨b1, 0, none⟩ ⟨g, i + 1, none⟩ 1 c1 (n - i) (cap - (i + 1)) hne 3 3 1 cap (by simp [World.shape?, hb1]) (by simp [World.shape?, hg, hcs]) (by omega) (free_of hb1 0) (free_of hb1 1)
  have hi1 : ¬ (i : Int) = (n : Int) := by omega
  have hi2 : ((i : Int) == (n : Int)) = false := by simp; omega
  have hi3 : ¬ (cap : Int) < (n : Int) + 1 := by omega
  have eW : IntKind.i64.wrap ((i : Int) + 1) = (i : Int) + 1 := IntWalk.i64_in _ (by omega)
  have eN : ((i : Int) + 1).toNat = i + 1 := by omega
  have eB : 0 ≤ (i : Int) + 1 := by omega
  have eC : (i : Int) + 1 ≤ (n : Int) + 1 := by omega
  have eD : ¬ cap = i + 1 := by omega
  have eE : ¬ cap = i := by omega
  have eF : (i : Int) ≤ (n : Int) + 1 := by omega
  clear R1 R2 hd1 hd2 hd1s hd2s hcell hvl hdl hv hg hb1 ho hcs
  go_enter Tryz.func121, Tryz.ntmps121
  go_wp2
  go_region_law (refine step_copy_runI (by rfl) _ _ _ _ (by rfl) (.slice (some ⟨g, i + 1, none⟩) (n - i) (cap - (i + 1))) (.slice (some ⟨g, i, none⟩) (n + 1 - i) (cap - i)) (by simp [Act.eval, Act.put]) (by simp [Act.eval, Act.put]) HR1.out ?_)
  have R2 := HR2.out
  clear OV
  go_wp2
  go_ret
  exact HF.out

end Go.Proofs.YtkibkkdeaojjoabGreat
