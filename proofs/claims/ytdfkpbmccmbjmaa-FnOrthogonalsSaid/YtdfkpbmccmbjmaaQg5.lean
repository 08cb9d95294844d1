/-
  The program's insertions of one value into a list of rows and into a list of places: contracts.
  Conditions: the list is one's own, the value lies in a list of one cell.
  Elimination row by row: what taking one row more does to reduced rows. No Go in sight.
  No conditions.
-/
import Derived.Test.YtdfkpbmccmbjmaaQg4
import Derived.Deep.AppendLies
import Derived.Shelf.Spec.SlicesInsert
import Derived.Test.YtdfkpbmccmbjmaaQg3
namespace Go.Proofs.Ytdfkpbmccmbjmaa
open Go.RowKit Go.ChangeShapes Go.WideShapes
set_option linter.unusedVariables false

theorem info_place : (Try.prog.info? 3).map (fun i => (i.zero, i.size, i.bytes)) = some (some (.int .i64 0), 1, 8) := by kernel_rfl

/-- The list with the value in it is one's own; only its block and new ones have changed. -/
def InsP (E : TypeId) (B : Nat) (v : Value) (n : Nat) (Y : List Value) (w : World) (e : Ending) (w' : World) : Prop :=
  ∃ g cap, e = .returned (.slice (some ⟨g, 0, none⟩) (n + 1) cap) ∧ w'.ownsRow B E 1 (.slice (some ⟨g, 0, none⟩) (n + 1) cap) (n + 1) Y ∧ w.grownBy w' v.ownBlock ∧ (v.ownBlock = some g ∨ g = w.heap.size)
theorem room_list {C V : List Value} {x : Value} {i n : Nat} (h : C.take n = V) (hi : i < n) (hn : n < C.length) :
    ((C.take (i + 1) ++ V.drop i ++ C.drop (i + 1 + (V.drop i).length)).toArray.toList.take i ++ [x] ++ (C.take (i + 1) ++ V.drop i ++ C.drop (i + 1 + (V.drop i).length)).toArray.toList.drop (i + ([x] : List Value).length)).toArray.toList.take (n + 1) = V.take i ++ x :: V.drop i := by
  show (List.take i (C.take (i + 1) ++ V.drop i ++ C.drop (i + 1 + (V.drop i).length)) ++ [x] ++ List.drop (i + 1) (C.take (i + 1) ++ V.drop i ++ C.drop (i + 1 + (V.drop i).length))).take (n + 1) = _
  have hl : (C.take (i + 1)).length = i + 1 := by rw [List.length_take]; omega
  have hV : V.length = n := by rw [← h, List.length_take]; omega
  have e1 : C.take i = V.take i := by rw [← h, List.take_take, Nat.min_eq_left (by omega)]
  have t1 : List.take i (C.take (i + 1) ++ V.drop i ++ C.drop (i + 1 + (V.drop i).length)) = V.take i := by
    rw [List.append_assoc, List.take_append_of_le_length (by omega), List.take_take, Nat.min_eq_left (by omega), e1]
  have t2 : List.drop (i + 1) (C.take (i + 1) ++ V.drop i ++ C.drop (i + 1 + (V.drop i).length)) = V.drop i ++ C.drop (i + 1 + (V.drop i).length) := by
    rw [List.append_assoc, List.drop_left' hl]
  rw [t1, t2, ← List.append_assoc, List.take_left' (by simp; omega)]
  simp
theorem one_at {w : World} {b1 : Nat} {x : Value} (hx : w.cell? ⟨b1, 0, none⟩ = some x) : ∀ j u, ([x] : List Value)[j]? = some u → w.cell? ((⟨b1, 0, none⟩ : Addr).add j) = some u := by
  intro j u hj
  match j, hj with
  | 0, hj => simp at hj; subst hj; exact hx

set_option maxRecDepth 100000 in
set_option maxHeartbeats 1600000 in
theorem insertM_end (B n b1 c1 : Nat) (v x : Value) (vals : List Value) (w : World) (ho : w.ownsRow B 24 1 v n vals) (hB : B ≤ w.heap.size) (hn : n ≤ 1024) (hx : w.cell? ⟨b1, 0, none⟩ = some x) (h1 : x.oneCell' = true) :
    Calls Try.prog 67 #[v, .int .i64 n, .slice (some ⟨b1, 0, none⟩) 1 c1] w (InsP 24 B v n (vals ++ [x]) w) := by
  obtain ⟨j0, kj, kz0, kz1, kz2⟩ := info_parts info_slice
  have HN := Lib.hid (one_at hx)
  have HX : Hid (∀ u : Value, u ∈ [x] → u.oneCell' = true) := fun u hu => by simp at hu; subst hu; exact h1
  have ho' := ho.2
  have HO := Lib.hid ho
  clear ho hx h1
  rcases ho' with ⟨rfl, rfl⟩ | ⟨g, cap, cur, rfl, hb, hg, hnc, hcm, hcs, htake⟩
  · go_enter Try.func67, Try.ntmps67
    go_wp2_with (at_builtin; refine wpList_append_lies _ rfl _ _ 27 rfl B 24 j0 (.slice none 0 0) 1 24 Try.underlying27 kj kz0 kz1 kz2 rfl (by decide) (.slice none 0 0) 0 vals rfl HO.out ⟨b1, 0, none⟩ 1 c1 [x] rfl rfl HN.out HX.out (by omega) (by unfold maxLen; omega) (by omega) hB w.heap.size rfl ?_; intro gg cap' w1 hown1 hgrow hat hlt1)
    all_goals (go_ret; exact ⟨gg, cap', rfl, hown1, hgrow, hat⟩)
  · clear hg htake hcs
    go_enter Try.func67, Try.ntmps67
    go_wp2_with (at_builtin; refine wpList_append_lies _ rfl _ _ 27 rfl B 24 j0 (.slice none 0 0) 1 24 Try.underlying27 kj kz0 kz1 kz2 rfl (by decide) (.slice (some ⟨g, 0, none⟩) n cap) n vals rfl HO.out ⟨b1, 0, none⟩ 1 c1 [x] rfl rfl HN.out HX.out (by omega) (by unfold maxLen; omega) (by omega) hB w.heap.size rfl ?_; intro gg cap' w1 hown1 hgrow hat hlt1)
    all_goals (go_ret; exact ⟨gg, cap', rfl, hown1, hgrow, hat⟩)

/-! ### The other roads -/
set_option maxRecDepth 100000 in
theorem overlapsM_run (w : World) (a b : Addr) (la ca lb cb : Nat) (hne : a.block ≠ b.block) (tA tB : TypeId) (kA kB : Nat) (hA : w.shape? a.block = some (tA, kA)) (hB : w.shape? b.block = some (tB, kB)) (hk : kB ≠ 0) (f0 : w.frozen? a = false) (f1 : w.frozen? ⟨a.block, kA, none⟩ = false) :
    Sem.run Try.prog (callFunc 79 #[.slice (some a) la ca, .slice (some b) lb cb]) w = .ok (.value (.bool false)) w := by
  have h := Lib.run_overlaps_apart (P := Try.prog) w 27 4 24 Try.underlying27 1 (fun w => by kernel_rfl) a b la ca lb cb hne tA tB kA kB hA hB hk f0 f1
  have e1 : Extern.findNext Try.f79 = none := by kernel_rfl
  have e2 : Extern.find Try.f79 = some (Extern.SlicesOverlaps.overlaps #[27, 27] #[4]) := by kernel_rfl
  have e3 : Try.f79.body = none := by kernel_rfl
  have e4' : (Try.f79.name == "runtime.NumGoroutine") = false := by kernel_rfl
  have e4 : ¬ Try.f79.name = "runtime.NumGoroutine" := by simpa using e4'
  simp [callFunc, go_sem, Try.func79, e1, e2, e3, e4, h]

set_option maxRecDepth 100000 in
set_option maxHeartbeats 1600000 in
theorem insertM_room (B n g cap i b1 c1 : Nat) (x : Value) (vals : List Value) (w : World) (ho : w.ownsRow B 24 1 (.slice (some ⟨g, 0, none⟩) n cap) n vals) (hi : i < n) (hc : n + 1 ≤ cap) (hn : n ≤ 1024) (hb1 : w.heap[b1]? = some (.cells #[x] 24 (0, 0))) (hne : b1 ≠ g) (h1 : x.oneCell' = true) (hall : ∀ u : Value, u ∈ vals → u.oneCell' = true) :
    Calls Try.prog 67 #[.slice (some ⟨g, 0, none⟩) n cap, .int .i64 i, .slice (some ⟨b1, 0, none⟩) 1 c1] w (InsP 24 B (.slice (some ⟨g, 0, none⟩) n cap) n (vals.take i ++ x :: vals.drop i) w) := by
  obtain ⟨j0, kj, kz0, kz1, kz2⟩ := info_parts info_slice
  obtain ⟨cur, hBg, hg, hcm, hcs, hv⟩ : ∃ cur, B ≤ g ∧ w.heap[g]? = some (.cells cur 24 (0, 0)) ∧ cap ≤ maxLen ∧ cur.size = cap ∧ cur.toList.take n = vals := by
    rcases ho.2 with ⟨h, _⟩ | ⟨g', cap', cur, h, q1, q2, q3, q4, q5, q6⟩
    · simp at h
    · cases h; exact ⟨cur, q1, q2, q4, by omega, by rw [Nat.mul_one] at q6; exact q6⟩
  obtain ⟨d1, hd1⟩ : ∃ d1, d1 = (cur.toList.take (i + 1) ++ vals.drop i ++ cur.toList.drop (i + 1 + (vals.drop i).length)).toArray := ⟨_, rfl⟩
  obtain ⟨d2, hd2⟩ : ∃ d2, d2 = (d1.toList.take i ++ [x] ++ d1.toList.drop (i + ([x] : List Value).length)).toArray := ⟨_, rfl⟩
  have hvl : vals.length = n := by rw [← hv, List.length_take]; simp; omega
  have hdl : (vals.drop i).length = n - i := by rw [List.length_drop]; omega
  have hd1s : d1.size = cap := by rw [hd1]; simp; omega
  have hd2s : d2.size = cap := by rw [hd2]; simp; omega
  have hcell : ∀ j v, vals[j]? = some v → w.cell? ⟨g, 0 + j, none⟩ = some v := fun j v hj => by
    have h := ho.cells (g := g) rfl j v hj
    rwa [Addr.add_lit] at h
  have hsz := (Array.getElem?_eq_some_iff.1 hg).1
  have R1 := run_copy_row Try.prog w.drew 27 27 3 24 g (i + 1) (n - i) (cap - (i + 1)) ⟨g, i, none⟩ (n + 1 - i) (cap - i) cur 24 (vals.drop i) Try.underlying27 (by simp [kj, kz1]) hg
    (by rw [hdl]; exact (Nat.min_eq_right (by omega)).symm) (fun j v hj => by
      rw [List.getElem?_drop] at hj
      have := hcell (i + j) v hj
      rw [Nat.zero_add] at this
      rw [Addr.add_lit]; exact this) (by omega) (fun u hu => hall u (List.mem_of_mem_drop hu))
  rw [← hd1] at R1
  have R2 := run_copy_row Try.prog (w.drew.setRow g d1) 27 27 3 24 g i (n + 1 - i) (cap - i) ⟨b1, 0, none⟩ 1 c1 d1 24 [x] Try.underlying27 (by simp [kj, kz1]) (setRow_heap w.drew g cur d1 24 (0, 0) hg)
    (by show 1 = Nat.min 1 (n + 1 - i); exact (Nat.min_eq_left (by omega)).symm) (fun j v hj => by
      match j, hj with
      | 0, hj =>
        simp at hj; subst hj
        show (w.drew.setRow g d1).cell? ⟨b1, 0, none⟩ = some x
        rw [cell_setRow_other _ _ _ _ hne]
        have hb1d : w.drew.heap[b1]? = some (.cells #[x] 24 (0, 0)) := hb1
        simp [World.cell?, hb1d]) (by simp; omega) (fun u hu => by simp at hu; subst hu; exact h1)
  rw [← hd2] at R2
  have HR1 := Lib.hid R1
  have HR2 := Lib.hid R2
  have HF : Hid (InsP 24 B (.slice (some ⟨g, 0, none⟩) n cap) n (vals.take i ++ x :: vals.drop i) w (.returned (.slice (some ⟨g, 0, none⟩) (n + 1) cap)) ((w.drew.setRow g d1).setRow g d2)) := by
    refine ⟨g, cap, rfl, ⟨by simp; omega, .inr ⟨g, cap, d2, rfl, hBg, setRow_heap (w.drew.setRow g d1) g d1 d2 24 (0, 0) (setRow_heap w.drew g cur d1 24 (0, 0) hg), hc, hcm, by omega, ?_⟩⟩, ?_, .inl rfl⟩
    · rw [Nat.mul_one, hd2, hd1]
      exact room_list hv hi (by simp; omega)
    · refine ⟨rfl, rfl, rfl, by rw [setRow_size, setRow_size]; exact Nat.le_refl _, fun k hk hk2 => ?_⟩
      have hkg : k ≠ g := fun e => hk2 (by rw [e]; rfl)
      rw [setRow_other _ _ _ _ hkg, setRow_other _ _ _ _ hkg]; rfl
  have OV := overlapsM_run w ⟨b1, 0, none⟩ ⟨g, i + 1, none⟩ 1 c1 (n - i) (cap - (i + 1)) hne 24 24 1 cap (by simp [World.shape?, hb1]) (by simp [World.shape?, hg, hcs]) (by omega) (free_of hb1 0) (free_of hb1 1)
  have hi1 : ¬ (i : Int) = (n : Int) := by omega
  have hi2 : ((i : Int) == (n : Int)) = false := by simp; omega
  have hi3 : ¬ (cap : Int) < (n : Int) + 1 := by omega
  have eW : IntKind.i64.wrap ((i : Int) + 1) = (i : Int) + 1 := IntWalk.i64_in _ (by omega)
  have eN : ((i : Int) + 1).toNat = i + 1 := by omega
  have eB : 0 ≤ (i : Int) + 1 := by omega
  have eC : (i : Int) + 1 ≤ (n : Int) + 1 := by omega
  have eD : ¬ cap = i + 1 := by omega
  have eE : ¬ cap = i := by omega
  have eF : (i : Int) ≤ (n : Int) + 1 := by omega
  clear R1 R2 hd1 hd2 hd1s hd2s hcell hvl hdl hv hg hb1 ho hcs
  go_enter Try.func67, Try.ntmps67
  go_wp2
  go_region_law (refine step_copy_runI (by rfl) _ _ _ _ (by rfl) (.slice (some ⟨g, i + 1, none⟩) (n - i) (cap - (i + 1))) (.slice (some ⟨g, i, none⟩) (n + 1 - i) (cap - i)) (by simp [Act.eval, Act.put]) (by simp [Act.eval, Act.put]) HR1.out ?_)
  have R2 := HR2.out
  clear OV
  go_wp2
  go_ret
  exact HF.out

set_option maxRecDepth 100000 in
set_option maxHeartbeats 1600000 in
theorem insertI_end (B n b1 c1 : Nat) (v x : Value) (vals : List Value) (w : World) (ho : w.ownsRow B 3 1 v n vals) (hB : B ≤ w.heap.size) (hn : n ≤ 1024) (hx : w.cell? ⟨b1, 0, none⟩ = some x) (h1 : x.oneCell' = true) :
    Calls Try.prog 68 #[v, .int .i64 n, .slice (some ⟨b1, 0, none⟩) 1 c1] w (InsP 3 B v n (vals ++ [x]) w) := by
  obtain ⟨j0, kj, kz0, kz1, kz2⟩ := info_parts info_place
  have HN := Lib.hid (one_at hx)
  have HX : Hid (∀ u : Value, u ∈ [x] → u.oneCell' = true) := fun u hu => by simp at hu; subst hu; exact h1
  have ho' := ho.2
  have HO := Lib.hid ho
  clear ho hx h1
  rcases ho' with ⟨rfl, rfl⟩ | ⟨g, cap, cur, rfl, hb, hg, hnc, hcm, hcs, htake⟩
  · go_enter Try.func68, Try.ntmps68
    go_wp2_with (at_builtin; refine wpList_append_lies _ rfl _ _ 59 rfl B 3 j0 (.int .i64 0) 1 8 Try.underlying59 kj kz0 kz1 kz2 rfl (by decide) (.slice none 0 0) 0 vals rfl HO.out ⟨b1, 0, none⟩ 1 c1 [x] rfl rfl HN.out HX.out (by omega) (by unfold maxLen; omega) (by omega) hB w.heap.size rfl ?_; intro gg cap' w1 hown1 hgrow hat hlt1)
    all_goals (go_ret; exact ⟨gg, cap', rfl, hown1, hgrow, hat⟩)
  · clear hg htake hcs
    go_enter Try.func68, Try.ntmps68
    go_wp2_with (at_builtin; refine wpList_append_lies _ rfl _ _ 59 rfl B 3 j0 (.int .i64 0) 1 8 Try.underlying59 kj kz0 kz1 kz2 rfl (by decide) (.slice (some ⟨g, 0, none⟩) n cap) n vals rfl HO.out ⟨b1, 0, none⟩ 1 c1 [x] rfl rfl HN.out HX.out (by omega) (by unfold maxLen; omega) (by omega) hB w.heap.size rfl ?_; intro gg cap' w1 hown1 hgrow hat hlt1)
    all_goals (go_ret; exact ⟨gg, cap', rfl, hown1, hgrow, hat⟩)

/-! ### The other roads -/
set_option maxRecDepth 100000 in
theorem overlapsI_run (w : World) (a b : Addr) (la ca lb cb : Nat) (hne : a.block ≠ b.block) (tA tB : TypeId) (kA kB : Nat) (hA : w.shape? a.block = some (tA, kA)) (hB : w.shape? b.block = some (tB, kB)) (hk : kB ≠ 0) (f0 : w.frozen? a = false) (f1 : w.frozen? ⟨a.block, kA, none⟩ = false) :
    Sem.run Try.prog (callFunc 81 #[.slice (some a) la ca, .slice (some b) lb cb]) w = .ok (.value (.bool false)) w := by
  have h := Lib.run_overlaps_apart (P := Try.prog) w 59 4 3 Try.underlying59 1 (fun w => by kernel_rfl) a b la ca lb cb hne tA tB kA kB hA hB hk f0 f1
  have e1 : Extern.findNext Try.f81 = none := by kernel_rfl
  have e2 : Extern.find Try.f81 = some (Extern.SlicesOverlaps.overlaps #[59, 59] #[4]) := by kernel_rfl
  have e3 : Try.f81.body = none := by kernel_rfl
  have e4' : (Try.f81.name == "runtime.NumGoroutine") = false := by kernel_rfl
  have e4 : ¬ Try.f81.name = "runtime.NumGoroutine" := by simpa using e4'
  simp [callFunc, go_sem, Try.func81, e1, e2, e3, e4, h]

set_option maxRecDepth 100000 in
set_option maxHeartbeats 1600000 in
theorem insertI_room (B n g cap i b1 c1 : Nat) (x : Value) (vals : List Value) (w : World) (ho : w.ownsRow B 3 1 (.slice (some ⟨g, 0, none⟩) n cap) n vals) (hi : i < n) (hc : n + 1 ≤ cap) (hn : n ≤ 1024) (hb1 : w.heap[b1]? = some (.cells #[x] 3 (0, 0))) (hne : b1 ≠ g) (h1 : x.oneCell' = true) (hall : ∀ u : Value, u ∈ vals → u.oneCell' = true) :
    Calls Try.prog 68 #[.slice (some ⟨g, 0, none⟩) n cap, .int .i64 i, .slice (some ⟨b1, 0, none⟩) 1 c1] w (InsP 3 B (.slice (some ⟨g, 0, none⟩) n cap) n (vals.take i ++ x :: vals.drop i) w) := by
  obtain ⟨j0, kj, kz0, kz1, kz2⟩ := info_parts info_place
  obtain ⟨cur, hBg, hg, hcm, hcs, hv⟩ : ∃ cur, B ≤ g ∧ w.heap[g]? = some (.cells cur 3 (0, 0)) ∧ cap ≤ maxLen ∧ cur.size = cap ∧ cur.toList.take n = vals := by
    rcases ho.2 with ⟨h, _⟩ | ⟨g', cap', cur, h, q1, q2, q3, q4, q5, q6⟩
    · simp at h
    · cases h; exact ⟨cur, q1, q2, q4, by omega, by rw [Nat.mul_one] at q6; exact q6⟩
  obtain ⟨d1, hd1⟩ : ∃ d1, d1 = (cur.toList.take (i + 1) ++ vals.drop i ++ cur.toList.drop (i + 1 + (vals.drop i).length)).toArray := ⟨_, rfl⟩
  obtain ⟨d2, hd2⟩ : ∃ d2, d2 = (d1.toList.take i ++ [x] ++ d1.toList.drop (i + ([x] : List Value).length)).toArray := ⟨_, rfl⟩
  have hvl : vals.length = n := by rw [← hv, List.length_take]; simp; omega
  have hdl : (vals.drop i).length = n - i := by rw [List.length_drop]; omega
  have hd1s : d1.size = cap := by rw [hd1]; simp; omega
  have hd2s : d2.size = cap := by rw [hd2]; simp; omega
  have hcell : ∀ j v, vals[j]? = some v → w.cell? ⟨g, 0 + j, none⟩ = some v := fun j v hj => by
    have h := ho.cells (g := g) rfl j v hj
    rwa [Addr.add_lit] at h
  have hsz := (Array.getElem?_eq_some_iff.1 hg).1
  have R1 := run_copy_row Try.prog w.drew 59 59 3 3 g (i + 1) (n - i) (cap - (i + 1)) ⟨g, i, none⟩ (n + 1 - i) (cap - i) cur 3 (vals.drop i) Try.underlying59 (by simp [kj, kz1]) hg
    (by rw [hdl]; exact (Nat.min_eq_right (by omega)).symm) (fun j v hj => by
      rw [List.getElem?_drop] at hj
      have := hcell (i + j) v hj
      rw [Nat.zero_add] at this
      rw [Addr.add_lit]; exact this) (by omega) (fun u hu => hall u (List.mem_of_mem_drop hu))
  rw [← hd1] at R1
  have R2 := run_copy_row Try.prog (w.drew.setRow g d1) 59 59 3 3 g i (n + 1 - i) (cap - i) ⟨b1, 0, none⟩ 1 c1 d1 3 [x] Try.underlying59 (by simp [kj, kz1]) (setRow_heap w.drew g cur d1 3 (0, 0) hg)
    (by show 1 = Nat.min 1 (n + 1 - i); exact (Nat.min_eq_left (by omega)).symm) (fun j v hj => by
      match j, hj with
      | 0, hj =>
        simp at hj; subst hj
        show (w.drew.setRow g d1).cell? ⟨b1, 0, none⟩ = some x
        rw [cell_setRow_other _ _ _ _ hne]
        have hb1d : w.drew.heap[b1]? = some (.cells #[x] 3 (0, 0)) := hb1
        simp [World.cell?, hb1d]) (by simp; omega) (fun u hu => by simp at hu; subst hu; exact h1)
  rw [← hd2] at R2
  have HR1 := Lib.hid R1
  have HR2 := Lib.hid R2
  have HF : Hid (InsP 3 B (.slice (some ⟨g, 0, none⟩) n cap) n (vals.take i ++ x :: vals.drop i) w (.returned (.slice (some ⟨g, 0, none⟩) (n + 1) cap)) ((w.drew.setRow g d1).setRow g d2)) := by
    refine ⟨g, cap, rfl, ⟨by simp; omega, .inr ⟨g, cap, d2, rfl, hBg, setRow_heap (w.drew.setRow g d1) g d1 d2 3 (0, 0) (setRow_heap w.drew g cur d1 3 (0, 0) hg), hc, hcm, by omega, ?_⟩⟩, ?_, .inl rfl⟩
    · rw [Nat.mul_one, hd2, hd1]
      exact room_list hv hi (by simp; omega)
    · refine ⟨rfl, rfl, rfl, by rw [setRow_size, setRow_size]; exact Nat.le_refl _, fun k hk hk2 => ?_⟩
      have hkg : k ≠ g := fun e => hk2 (by rw [e]; rfl)
      rw [setRow_other _ _ _ _ hkg, setRow_other _ _ _ _ hkg]; rfl
  have OV := overlapsI_run w ⟨b1, 0, none⟩ ⟨g, i + 1, none⟩ 1 c1 (n - i) (cap - (i + 1)) hne 3 3 1 cap (by simp [World.shape?, hb1]) (by simp [World.shape?, hg, hcs]) (by omega) (free_of hb1 0) (free_of hb1 1)
  have hi1 : ¬ (i : Int) = (n : Int) := by omega
  have hi2 : ((i : Int) == (n : Int)) = false := by simp; omega
  have hi3 : ¬ (cap : Int) < (n : Int) + 1 := by omega
  have eW : IntKind.i64.wrap ((i : Int) + 1) = (i : Int) + 1 := IntWalk.i64_in _ (by omega)
  have eN : ((i : Int) + 1).toNat = i + 1 := by omega
  have eB : 0 ≤ (i : Int) + 1 := by omega
  have eC : (i : Int) + 1 ≤ (n : Int) + 1 := by omega
  have eD : ¬ cap = i + 1 := by omega
  have eE : ¬ cap = i := by omega
  have eF : (i : Int) ≤ (n : Int) + 1 := by omega
  clear R1 R2 hd1 hd2 hd1s hd2s hcell hvl hdl hv hg hb1 ho hcs
  go_enter Try.func68, Try.ntmps68
  go_wp2
  go_region_law (refine step_copy_runI (by rfl) _ _ _ _ (by rfl) (.slice (some ⟨g, i + 1, none⟩) (n - i) (cap - (i + 1))) (.slice (some ⟨g, i, none⟩) (n + 1 - i) (cap - i)) (by simp [Act.eval, Act.put]) (by simp [Act.eval, Act.put]) HR1.out ?_)
  have R2 := HR2.out
  clear OV
  go_wp2
  go_ret
  exact HF.out

end Go.Proofs.Ytdfkpbmccmbjmaa

namespace Go.Proofs.Ytdfkpbmccmbjmaa
set_option linter.unusedVariables false

/-- Reduced rows m, with pivots P, of the rows A. -/
structure Kept (p : Int) (c : Nat) (A m : List (List Int)) (P : Nat → Nat) : Prop where
  len : ∀ i, i < m.length → (rw' m i).length = c
  red : Rref p m.length c (at' m) P
  nul : ∀ x, Go.Proofs.Ytdfkpbmccmbjmaa.nul p A.length c (at' A) x ↔ Go.Proofs.Ytdfkpbmccmbjmaa.nul p m.length c (at' m) x
theorem Kept.bas {p : Int} {c : Nat} {A m : List (List Int)} {P : Nat → Nat} (h : Kept p c A m P) : IsBas p c A m := ⟨h.len, ⟨P, h.red⟩, h.nul⟩
theorem Kept.start (p : Int) (c : Nat) (P : Nat → Nat) : Kept p c [] [] P where
  len i hi := by simp at hi
  red := ⟨fun i hi => by simp at hi, fun i i' _ hi => by simp at hi, fun i hi => by simp at hi, fun i hi => by simp at hi, fun i hi => by simp at hi, fun i hi => by simp at hi⟩
  nul x := by simp [Go.Proofs.Ytdfkpbmccmbjmaa.nul]
/-- The numbers of a list. -/
def num (z : List Int) (j : Nat) : Int := z.getD j 0
theorem at_append_old {m : List (List Int)} {z : List Int} {i : Nat} (h : i < m.length) : at' (m ++ [z]) i = at' m i := by
  funext j
  unfold at' rw'
  simp only [List.getD_eq_getElem?_getD]
  rw [List.getElem?_append_left h]
theorem at_append_new (m : List (List Int)) (z : List Int) : at' (m ++ [z]) m.length = num z := by
  funext j
  unfold at' rw' num
  simp
theorem nul_append {p : Int} {c : Nat} {A : List (List Int)} {r : List Int} {x : Nat → Int} : nul p (A ++ [r]).length c (at' (A ++ [r])) x ↔ nul p A.length c (at' A) x ∧ van p c (num r) x := by
  simp only [List.length_append, List.length_cons, List.length_nil]
  constructor
  · intro h
    refine ⟨fun i hi => ?_, ?_⟩
    · have := h i (by omega); rw [at_append_old hi] at this; exact this
    · have := h A.length (by omega); rw [at_append_new] at this; exact this
  · rintro ⟨h1, h2⟩ i hi
    by_cases e : i < A.length
    · rw [at_append_old e]; exact h1 i e
    · have : i = A.length := by omega
      subst this
      rw [at_append_new]; exact h2
/-- The row that was taken is a sum of multiples of those before it. -/
theorem Kept.same {p : Int} {c : Nat} {A m : List (List Int)} {P : Nat → Nat} {r r' : List Int} (h : Kept p c A m P) (hr : ∀ x, Go.Proofs.Ytdfkpbmccmbjmaa.nul p m.length c (at' m) x → (van p c (num r') x ↔ van p c (num r) x)) (h0 : ∀ j, j < c → num r' j = 0) : Kept p c (A ++ [r]) m P :=
  ⟨h.len, h.red, fun x => by
    rw [nul_append, h.nul x]
    constructor
    · exact fun g => g.1
    · intro g
      refine ⟨g, (hr x g).1 ?_⟩
      unfold van
      have e : sm c (fun j => num r' j * x j) = sm c (fun _ => 0) := sm_congr (fun j hj => by rw [h0 j hj, Int.zero_mul])
      rw [e, sm_zero]; rfl⟩
def ins (α : Type) (l : List α) (t : Nat) (x : α) : List α := l.take t ++ x :: l.drop t
theorem ins_len {α : Type} {l : List α} {t : Nat} (x : α) (h : t ≤ l.length) : (ins α l t x).length = l.length + 1 := by
  simp [ins]; omega
theorem ins_lt {α : Type} {l : List α} {t i : Nat} (x d : α) (h : t ≤ l.length) (hi : i < t) : (ins α l t x).getD i d = l.getD i d := by
  simp only [ins, List.getD_eq_getElem?_getD]
  rw [List.getElem?_append_left (by rw [List.length_take]; omega), List.getElem?_take, if_pos hi]
theorem ins_eq {α : Type} {l : List α} {t : Nat} (x d : α) (h : t ≤ l.length) : (ins α l t x).getD t d = x := by
  simp only [ins, List.getD_eq_getElem?_getD]
  rw [List.getElem?_append_right (by rw [List.length_take]; omega), List.length_take, Nat.min_eq_left h]
  simp
theorem ins_gt {α : Type} {l : List α} {t i : Nat} (x d : α) (h : t ≤ l.length) (hi : t < i) : (ins α l t x).getD i d = l.getD (i - 1) d := by
  simp only [ins, List.getD_eq_getElem?_getD]
  rw [List.getElem?_append_right (by rw [List.length_take]; omega), List.length_take, Nat.min_eq_left h]
  obtain ⟨k, rfl⟩ : ∃ k, i = t + 1 + k := ⟨i - t - 1, by omega⟩
  have e1 : t + 1 + k - t = k + 1 := by omega
  have e2 : t + 1 + k - 1 = t + k := by omega
  rw [e1, e2, List.getElem?_cons_succ, List.getElem?_drop]
/-- Where an index of the longer list comes from. -/
def old (t i : Nat) : Nat := if i < t then i else i - 1
theorem old_lt {n t i : Nat} (h : i < n + 1) (hne : i ≠ t) (ht : t ≤ n) : old t i < n := by unfold old; split <;> omega
theorem old_inj {t i i' : Nat} (h : i ≠ t) (h' : i' ≠ t) (hne : i ≠ i') : old t i ≠ old t i' := by unfold old; split <;> split <;> omega
theorem at_ins {m : List (List Int)} {t i : Nat} (z : List Int) (ht : t ≤ m.length) (hne : i ≠ t) : at' (ins _ m t z) i = at' m (old t i) := by
  funext j
  unfold at' rw' old
  rcases Nat.lt_trichotomy i t with l | l | l
  · rw [if_pos l, ins_lt z [] ht l]
  · exact absurd l hne
  · rw [if_neg (by omega), ins_gt z [] ht l]
theorem at_ins_new {m : List (List Int)} {t : Nat} (z : List Int) (ht : t ≤ m.length) : at' (ins _ m t z) t = num z := by
  funext j
  unfold at' rw' num
  rw [ins_eq z [] ht]
theorem rw_ins {m : List (List Int)} {t i : Nat} (z : List Int) (ht : t ≤ m.length) (hne : i ≠ t) : rw' (ins _ m t z) i = rw' m (old t i) := by
  unfold rw' old
  rcases Nat.lt_trichotomy i t with l | l | l
  · rw [if_pos l, ins_lt z [] ht l]
  · exact absurd l hne
  · rw [if_neg (by omega), ins_gt z [] ht l]
theorem rw_ins_new {m : List (List Int)} {t : Nat} (z : List Int) (ht : t ≤ m.length) : rw' (ins _ m t z) t = z := by unfold rw'; rw [ins_eq z [] ht]

/-- One row more, with its pivot q, put at place t. -/
theorem Kept.more {p : Int} {c : Nat} {A m m' : List (List Int)} {P : Nat → Nat} {r r' s : List Int} {q t : Nat} (hp : prm p = true) (h : Kept p c A m P)
    (hr : ∀ x, Go.Proofs.Ytdfkpbmccmbjmaa.nul p m.length c (at' m) x → (van p c (num r') x ↔ van p c (num r) x)) (hP : ∀ i, i < m.length → num r' (P i) = 0) (hrr : ∀ j, j < c → 0 ≤ num r' j ∧ num r' j < p)
    (hq : q < c) (hq0 : num r' q ≠ 0) (hql : ∀ j, j < q → num r' j = 0)
    (hs : ∀ j, j < c → num s j = num r' j * inv p (num r' q) % p) (hsl : s.length = c)
    (hm : m'.length = m.length) (hml : ∀ i, i < m.length → (rw' m' i).length = c) (hmr : ∀ i, i < m.length → ∀ j, j < c → at' m' i j = (at' m i j + (p - at' m i q) % p * num s j) % p)
    (ht : t ≤ m.length) (htl : ∀ i, i < t → P i < q) (htr : ∀ i, t ≤ i → i < m.length → q < P i) :
    Kept p c (A ++ [r]) (ins _ m' t s) (fun i => if i = t then q else P (old t i)) := by
  have hpb := prm_bd hp
  have hrq := hrr q hq
  have ht' : t ≤ m'.length := by omega
  have hlen : (ins _ m' t s).length = m.length + 1 := by rw [ins_len s ht', hm]
  have hsq : num s q = 1 := by rw [hs q hq]; exact inv_mul hp (by omega) hrq.2
  have hs0 : ∀ j, j < q → num s j = 0 := fun j hj => by rw [hs j (by omega), hql j hj]; simp
  have hsP : ∀ i, i < m.length → num s (P i) = 0 := fun i hi => by rw [hs _ (h.red.pv i hi), hP i hi]; simp
  have hmq : ∀ i, i < m.length → at' m' i q = 0 := fun i hi => by
    rw [hmr i hi q hq, hsq, Int.mul_one]
    have r1 := h.red.rng i hi q hq
    by_cases e : at' m i q = 0
    · rw [e]; simp
    · rw [Int.emod_eq_of_lt (a := p - at' m i q) (by omega) (by omega)]
      have : at' m i q + (p - at' m i q) = p := by omega
      rw [this]; simp
  have hkeep : ∀ i, i < m.length → ∀ j, j < c → num s j = 0 → at' m' i j = at' m i j := fun i hi j hj h0 => by
    rw [hmr i hi j hj, h0, Int.mul_zero, Int.add_zero]
    have r1 := h.red.rng i hi j hj
    exact Int.emod_eq_of_lt r1.1 r1.2
  have htq : ∀ i, i < m.length → (i < t ↔ P i < q) := fun i hi => ⟨htl i, fun g => by
    rcases Nat.lt_or_ge i t with l | l
    · exact l
    · have := htr i l hi; omega⟩
  have fstm : ∀ i, i < m.length → ∀ j, j < P i → at' m' i j = 0 := fun i hi j hj => by
    have hjc : j < c := Nat.lt_trans hj (h.red.pv i hi)
    rw [hmr i hi j hjc, h.red.fst i hi j hj, Int.zero_add]
    by_cases e : P i < q
    · rw [hs0 j (by omega)]; simp
    · have hPq : q < P i := by
        rcases Nat.lt_or_ge i t with l | l
        · exact absurd (htl i l) e
        · exact htr i l hi
      rw [h.red.fst i hi q hPq]; simp
  refine ⟨fun i hi => ?_, ?_, fun x => ?_⟩
  · rw [hlen] at hi
    by_cases e : i = t
    · subst e; rw [rw_ins_new s ht']; exact hsl
    · rw [rw_ins s ht' e]; exact hml _ (old_lt hi e ht)
  · rw [hlen]
    refine ⟨fun i hi => ?_, fun i i' hii hi' => ?_, fun i hi => ?_, fun i hi i' hi' hne => ?_, fun i hi j hj => ?_, fun i hi j hj => ?_⟩
    · show (if i = t then q else P (old t i)) < c
      by_cases e : i = t
      · rw [if_pos e]; exact hq
      · rw [if_neg e]; exact h.red.pv _ (old_lt hi e ht)
    · show (if i = t then q else P (old t i)) < if i' = t then q else P (old t i')
      by_cases e : i = t
      · rw [if_pos e, if_neg (by omega)]
        exact htr _ (by unfold old; rw [if_neg (by omega)]; omega) (old_lt hi' (by omega) ht)
      · rw [if_neg e]
        by_cases e' : i' = t
        · rw [if_pos e']
          exact htl _ (by unfold old; rw [if_pos (by omega)]; omega)
        · rw [if_neg e']
          exact h.red.mono _ _ (by unfold old; split <;> split <;> omega) (old_lt hi' e' ht)
    · show at' (ins _ m' t s) i (if i = t then q else P (old t i)) = 1
      by_cases e : i = t
      · rw [if_pos e, e, at_ins_new s ht']; exact hsq
      · have ho := old_lt hi e ht
        rw [if_neg e, at_ins s ht' e, hkeep _ ho _ (h.red.pv _ ho) (hsP _ ho)]
        exact h.red.one _ ho
    · show at' (ins _ m' t s) i' (if i = t then q else P (old t i)) = 0
      by_cases e : i = t
      · have e' : i' ≠ t := by omega
        rw [if_pos e, at_ins s ht' e']
        exact hmq _ (old_lt hi' e' ht)
      · have ho := old_lt hi e ht
        rw [if_neg e]
        by_cases e' : i' = t
        · rw [e', at_ins_new s ht']; exact hsP _ ho
        · have ho' := old_lt hi' e' ht
          rw [at_ins s ht' e', hkeep _ ho' _ (h.red.pv _ ho) (hsP _ ho)]
          exact h.red.zer _ ho _ ho' (old_inj e e' hne)
    · have hj' : j < (if i = t then q else P (old t i)) := hj
      by_cases e : i = t
      · rw [if_pos e] at hj'; rw [e, at_ins_new s ht']; exact hs0 j hj'
      · rw [if_neg e] at hj'; rw [at_ins s ht' e]; exact fstm _ (old_lt hi e ht) j hj'
    · by_cases e : i = t
      · rw [e, at_ins_new s ht', hs j hj]; exact mod_bd hp _
      · rw [at_ins s ht' e, hmr _ (old_lt hi e ht) j hj]; exact mod_bd hp _
  · rw [nul_append, h.nul x, hlen]
    have vs : van p c (num s) x ↔ van p c (num r') x := van_scale (g := num r' q) hs (by rw [Int.mul_comm, inv_mul hp (by omega) hrq.2, Int.emod_eq_of_lt (by omega) (by omega)])
    have vm : van p c (num s) x → ∀ i, i < m.length → (van p c (at' m' i) x ↔ van p c (at' m i) x) := fun hv i hi => van_add (hmr i hi) hv
    constructor
    · rintro ⟨g1, g2⟩ i hi
      have hv : van p c (num s) x := vs.2 ((hr x g1).2 g2)
      by_cases e : i = t
      · rw [e, at_ins_new s ht']; exact hv
      · have ho := old_lt hi e ht
        rw [at_ins s ht' e]; exact (vm hv _ ho).2 (g1 _ ho)
    · intro g
      have hv : van p c (num s) x := by have := g t (by omega); rw [at_ins_new s ht'] at this; exact this
      have g1 : Go.Proofs.Ytdfkpbmccmbjmaa.nul p m.length c (at' m) x := fun i hi => by
        by_cases e : i < t
        · have := g i (by omega)
          rw [at_ins s ht' (by omega)] at this
          have e2 : old t i = i := by unfold old; rw [if_pos e]
          rw [e2] at this
          exact (vm hv i hi).1 this
        · have := g (i + 1) (by omega)
          rw [at_ins s ht' (by omega)] at this
          have e2 : old t (i + 1) = i := by unfold old; rw [if_neg (by omega)]; omega
          rw [e2] at this
          exact (vm hv i hi).1 this
      exact ⟨g1, (hr x g1).1 (vs.1 hv)⟩

/-- A row is reduced by the first k of reduced rows. -/
structure Redu (p : Int) (c : Nat) (m : List (List Int)) (P : Nat → Nat) (r r' : List Int) (k : Nat) : Prop where
  len : r'.length = c
  rng : ∀ j, j < c → 0 ≤ num r' j ∧ num r' j < p
  zer : ∀ i, i < k → num r' (P i) = 0
  van : ∀ x, Go.Proofs.Ytdfkpbmccmbjmaa.nul p m.length c (at' m) x → (Go.Proofs.Ytdfkpbmccmbjmaa.van p c (num r') x ↔ Go.Proofs.Ytdfkpbmccmbjmaa.van p c (num r) x)
theorem Redu.start {p : Int} {c : Nat} {m : List (List Int)} {P : Nat → Nat} {r : List Int} (hl : r.length = c) (hr : ∀ j, j < c → 0 ≤ num r j ∧ num r j < p) : Redu p c m P r r 0 :=
  ⟨hl, hr, fun i hi => by omega, fun x _ => Iff.rfl⟩
theorem Redu.next {p : Int} {c : Nat} {m : List (List Int)} {P : Nat → Nat} {r r' r'' : List Int} {k : Nat} (hp : prm p = true) (h : Redu p c m P r r' k) (hR : Rref p m.length c (at' m) P) (hk : k < m.length)
    (hl : r''.length = c) (hn : ∀ j, j < c → num r'' j = (num r' j + (p - num r' (P k)) % p * at' m k j) % p) : Redu p c m P r r'' (k + 1) := by
  have hpb := prm_bd hp
  refine ⟨hl, fun j hj => by rw [hn j hj]; exact mod_bd hp _, fun i hi => ?_, fun x hx => ?_⟩
  · have hik : i < m.length := by omega
    rw [hn _ (hR.pv i hik)]
    by_cases e : i = k
    · subst e
      rw [hR.one i hk, Int.mul_one]
      have r1 := h.rng _ (hR.pv i hk)
      by_cases e0 : num r' (P i) = 0
      · rw [e0]; simp
      · rw [Int.emod_eq_of_lt (a := p - num r' (P i)) (by omega) (by omega)]
        have : num r' (P i) + (p - num r' (P i)) = p := by omega
        rw [this]; simp
    · rw [hR.zer i hik k hk e, h.zer i (by omega)]; simp
  · exact (van_add hn (hx k hk)).trans (h.van x hx)

end Go.Proofs.Ytdfkpbmccmbjmaa
