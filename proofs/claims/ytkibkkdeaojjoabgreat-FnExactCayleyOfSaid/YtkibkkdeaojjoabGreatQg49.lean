/-
  Structs of 37 cells: contracts of the program and of the model.
  Conditions: the lists are nil or rows of known cells, of at most 1048576 numbers.
-/
import Derived.Test.YtkibkkdeaojjoabGreatQg43
import Derived.Deep.MidRow
import Derived.Laws.StructEq
import Derived.ChangeKeysEq
import Derived.Laws.IdiomCopy
namespace Go.Proofs.YtkibkkdeaojjoabGreat
open Go.RowKit
set_option linter.unusedVariables false

/-- The cells of a space's matrix. -/
def smL (n : Nat) (f : Nat → Int) : List Value := Value.int .i64 (n : Int) :: (List.range 36).map fun c => Value.int .i64 (f c)
theorem smL_len (n : Nat) (f : Nat → Int) : (smL n f).length = 37 := by simp [smL]
theorem smL_head (n : Nat) (f : Nat → Int) : (smL n f)[0]? = some (Value.int .i64 (n : Int)) := rfl
theorem smL_at (n : Nat) (f : Nat → Int) {j : Nat} (h : j < 36) : (smL n f)[j + 1]? = some (Value.int .i64 (f j)) := by
  simp [smL, h]
theorem smL_one (n : Nat) (f : Nat → Int) : ∀ v ∈ smL n f, v.oneCell' = true := by
  intro v hv
  simp only [smL, List.mem_cons, List.mem_map] at hv
  rcases hv with rfl | ⟨j, _, rfl⟩ <;> rfl
theorem smL_zero : (smL 0 fun _ => 0).toArray = #[.int .i64 0, .int .i64 0, .int .i64 0, .int .i64 0, .int .i64 0, .int .i64 0, .int .i64 0, .int .i64 0, .int .i64 0, .int .i64 0, .int .i64 0, .int .i64 0, .int .i64 0, .int .i64 0, .int .i64 0, .int .i64 0, .int .i64 0, .int .i64 0, .int .i64 0, .int .i64 0, .int .i64 0, .int .i64 0, .int .i64 0, .int .i64 0, .int .i64 0, .int .i64 0, .int .i64 0, .int .i64 0, .int .i64 0, .int .i64 0, .int .i64 0, .int .i64 0, .int .i64 0, .int .i64 0, .int .i64 0, .int .i64 0, .int .i64 0] := by rfl
theorem info_sm : (Tryz.prog.info? 107).map (fun i => (i.zero, i.size)) = some (some (.agg #[.int .i64 0, .int .i64 0, .int .i64 0, .int .i64 0, .int .i64 0, .int .i64 0, .int .i64 0, .int .i64 0, .int .i64 0, .int .i64 0, .int .i64 0, .int .i64 0, .int .i64 0, .int .i64 0, .int .i64 0, .int .i64 0, .int .i64 0, .int .i64 0, .int .i64 0, .int .i64 0, .int .i64 0, .int .i64 0, .int .i64 0, .int .i64 0, .int .i64 0, .int .i64 0, .int .i64 0, .int .i64 0, .int .i64 0, .int .i64 0, .int .i64 0, .int .i64 0, .int .i64 0, .int .i64 0, .int .i64 0, .int .i64 0, .int .i64 0]), 37) := by kernel_rfl
theorem size_sm (n : Nat) (f : Nat → Int) : (Tryz.prog.info? 107).map (·.size) = some (smL n f).length := by
  rw [smL_len]
  obtain ⟨i, hi, h⟩ := Option.map_eq_some_iff.1 info_sm
  rw [hi]
  simp only [Prod.mk.injEq] at h
  simp [h.2]
theorem size_smA (n : Nat) (f : Nat → Int) : (Tryz.prog.info? 107).map (·.size) = some (smL n f).toArray.size := by
  rw [List.size_toArray]; exact size_sm n f
structure SmB (g n : Nat) (f : Nat → Int) (W : World) : Prop where
  head : W.cell? ⟨g, 0, none⟩ = some (.int .i64 (n : Int))
  fr : W.frozen? ⟨g, 0, none⟩ = false
  row : RowOwn W g 1 36 f
theorem SmB.range {g n : Nat} {f : Nat → Int} {W : World} (h : SmB g n f W) : W.rangeAt g 0 (smL n f) := fun j v hv => by
  rw [Nat.zero_add]
  cases j with
  | zero => rw [smL_head] at hv; rw [h.head, ← hv]
  | succ j =>
    have hj : j < 36 := by
      have := (List.getElem?_eq_some_iff.1 hv).1
      rw [smL_len] at this; omega
    rw [smL_at n f hj] at hv
    rw [← hv, Nat.add_comm j 1]
    exact h.row.cell j hj
theorem SmB.there {g n : Nat} {f : Nat → Int} {W : World} (h : SmB g n f W) : W.there g 0 37 := fun j hj => by
  rw [Nat.zero_add]
  cases j with
  | zero => exact ⟨by rw [h.head]; rfl, h.fr⟩
  | succ j =>
    rw [Nat.add_comm j 1]
    exact ⟨by rw [h.row.cell j (by omega)]; rfl, h.row.free j (by omega)⟩
theorem SmB.of {g n : Nat} {f : Nat → Int} {W : World} (h : W.rangeAt g 0 (smL n f)) (t : W.there g 0 37) : SmB g n f W where
  head := by have := h 0 _ (smL_head n f); rwa [Nat.add_zero] at this
  fr := by have := (t 0 (by omega)).2; rwa [Nat.add_zero] at this
  row := ⟨fun j hj => by have := h (j + 1) _ (smL_at n f hj); rwa [show 0 + (j + 1) = 1 + j by omega] at this, fun j hj => by have := (t (j + 1) (by omega)).2; rwa [show 0 + (j + 1) = 1 + j by omega] at this⟩
theorem SmB.new (w : World) (n : Nat) (f : Nat → Int) (T : TypeId) : SmB w.heap.size n f (w.alloc (.cells (smL n f).toArray T)) := by
  refine .of (fun j v hv => ?_) fun j hj => ⟨?_, by simp [go_sem]⟩
  · rw [Nat.zero_add, World.cell?_alloc_new]; simpa using hv
  · rw [Nat.zero_add, World.cell?_alloc_new]
    have : j < (smL n f).length := by rw [smL_len]; exact hj
    simp [this]
theorem SmB.stored {g n m : Nat} {f k : Nat → Int} {W : World} (h : SmB g n f W) : SmB g m k (W.setCells g 0 (smL m k)) :=
  .of (World.rangeAt_setCells_same _ _ _ _ (by rw [smL_len]; exact h.there)) (World.there_setCells h.there _ _ _)
theorem SmB.below {g n B : Nat} {f : Nat → Int} {w w' : World} (h : SmB g n f w) (b : Below B w w') (l : g < B) : SmB g n f w' :=
  ⟨(b.cell (p := ⟨g, 0, none⟩) l).trans h.head, (b.frozen (p := ⟨g, 0, none⟩) l).trans h.fr, ⟨fun j hj => (b.cell (p := ⟨g, 1 + j, none⟩) l).trans (h.row.cell j hj), fun j hj => (b.frozen (p := ⟨g, 1 + j, none⟩) l).trans (h.row.free j hj)⟩⟩
theorem SmB.congr {g n : Nat} {f k : Nat → Int} {w : World} (h : SmB g n f w) (e : ∀ c, c < 36 → f c = k c) : SmB g n k w :=
  ⟨h.head, h.fr, ⟨fun j hj => by rw [← e j hj]; exact h.row.cell j hj, h.row.free⟩⟩
/-- One number is written. -/
theorem SmB.put {g n c : Nat} {f k : Nat → Int} {v : Int} {w : World} (h : SmB g n f w) (hc : c < 36) (hk : ∀ j, j < 36 → k j = if j = c then v else f j) : SmB g n k (w.setCell ⟨g, 1 + c, none⟩ (.int .i64 v)) where
  head := (World.cell?_setCell_other w ⟨g, 1 + c, none⟩ ⟨g, 0, none⟩ _ (by simp)).trans h.head
  fr := by have := h.fr; simp [go_sem, this]
  row := ⟨fun j hj => by
      rw [hk j hj]
      by_cases e : j = c
      · subst e; rw [if_pos rfl]; exact World.cell?_setCell_same w _ _ (h.row.cell j hj)
      · rw [if_neg e]; exact (World.cell?_setCell_other w ⟨g, 1 + c, none⟩ ⟨g, 1 + j, none⟩ _ (fun e2 => e (by injection e2 with _ e3; omega))).trans (h.row.cell j hj), fun j hj => by have := h.row.free j hj; simp [go_sem, this]⟩
theorem SmB.far {g n b o : Nat} {f : Nat → Int} {w : World} (h : SmB g n f w) (v : Value) (hne : g ≠ b) : SmB g n f (w.setCell ⟨b, o, none⟩ v) :=
  ⟨(World.cell?_setCell_other w ⟨b, o, none⟩ ⟨g, 0, none⟩ _ (fun e => hne (by injection e with e1; exact e1.symm))).trans h.head, by have := h.fr; simp [go_sem, this], ⟨fun j hj => (World.cell?_setCell_other w ⟨b, o, none⟩ ⟨g, 1 + j, none⟩ _ (fun e => hne (by injection e with e1; exact e1.symm))).trans (h.row.cell j hj), fun j hj => by have := h.row.free j hj; simp [go_sem, this]⟩⟩
theorem below_setCells {B g : Nat} {w w' : World} (h : Below B w w') (hg : B ≤ g) : ∀ (vs : List Value) (o : Nat), Below B w (w'.setCells g o vs) := by
  intro vs
  induction vs generalizing w' with
  | nil => intro o; exact h
  | cons v r ih => intro o; rw [World.setCells]; exact ih (h.setCell hg v) (o + 1)
section
variable {P : Program} {ops : Array Oper} {rest : List Oper} {op : Oper} {a : Act} {w : World} {Q : Exit → Act → World → Prop}
theorem wpList_alloc_agg (hgd : op.guard = none) (t : TypeId) (ho : op.op = .alloc t) (i : TypeInfo) (hi : P.info? t = some i) (cs : Array Value) (hz : i.zero = some (.agg cs))
    (h : wpList P ops Q rest (a.put op.dst (.pointer (some ⟨w.heap.size, 0, none⟩))) (w.alloc (.cells cs t))) : wpList P ops Q (op :: rest) a w := by
  refine wpList_plain hgd fun K hK => ?_
  unfold Oper.wp
  simp [execOp, ho, Instr.alloc, zeroValue, typeInfo, hi, hz, newVar, newRow, Value.cells, Result.andThen]
  exact hK _ _ h
end
section
variable {ops : Array Oper} {rest : List Oper} {op : Oper} {a : Act} {w : World} {Q : Exit → Act → World → Prop}
theorem wpList_alloc_sm (hgd : op.guard = none) (ho : op.op = .alloc 107)
    (h : wpList Tryz.prog ops Q rest (a.put op.dst (.pointer (some ⟨w.heap.size, 0, none⟩))) (w.alloc (.cells (smL 0 fun _ => 0).toArray 107))) : wpList Tryz.prog ops Q (op :: rest) a w := by
  obtain ⟨i, hi, hh⟩ := Option.map_eq_some_iff.1 info_sm
  simp only [Prod.mk.injEq] at hh
  exact wpList_alloc_agg hgd _ ho i hi _ (by rw [hh.1, smL_zero]) h
theorem run_build_sm (n : Nat) (W : World) : (Instr.build 107 #[(0, .int .i64 (n : Int))]).run Tryz.prog W = .ok (.agg (smL n fun _ => 0).toArray) W := by
  have hi := info_sm
  obtain ⟨i, hi, hh⟩ := Option.map_eq_some_iff.1 hi
  simp only [Prod.mk.injEq] at hh
  have e : (smL n fun _ => 0).toArray = #[.int .i64 0, .int .i64 0, .int .i64 0, .int .i64 0, .int .i64 0, .int .i64 0, .int .i64 0, .int .i64 0, .int .i64 0, .int .i64 0, .int .i64 0, .int .i64 0, .int .i64 0, .int .i64 0, .int .i64 0, .int .i64 0, .int .i64 0, .int .i64 0, .int .i64 0, .int .i64 0, .int .i64 0, .int .i64 0, .int .i64 0, .int .i64 0, .int .i64 0, .int .i64 0, .int .i64 0, .int .i64 0, .int .i64 0, .int .i64 0, .int .i64 0, .int .i64 0, .int .i64 0, .int .i64 0, .int .i64 0, .int .i64 0, .int .i64 0].setIfInBounds 0 (.int .i64 (n : Int)) := by rfl
  rw [e]
  simp [go_sem]
theorem wpList_build_sm (n : Nat) (x : Operand) (hgd : op.guard = none) (ho : op.op = .build 107 #[(0, x)]) (hx : a.eval x = .int .i64 (n : Int))
    (h : wpList Tryz.prog ops Q rest (a.put op.dst (.agg (smL n fun _ => 0).toArray)) w) : wpList Tryz.prog ops Q (op :: rest) a w := by
  refine wpList_plain hgd fun K hK => ?_
  unfold Oper.wp
  have hr := run_build_sm n w
  simp [execOp, ho, hx, hr, Result.andThen]
  exact hK _ _ h
theorem wpList_load_sm (g n : Nat) (f : Nat → Int) (x : Operand) (hgd : op.guard = none) (ho : op.op = .load 107 x) (hx : a.eval x = .pointer (some ⟨g, 0, none⟩)) (hb : SmB g n f w)
    (h : wpList Tryz.prog ops Q rest (a.put op.dst (.agg (smL n f).toArray)) w) : wpList Tryz.prog ops Q (op :: rest) a w :=
  wpList_load_mid hgd _ x ho g 0 hx (smL n f) _ hb.range Tryz.underlying107 rfl (size_sm n f) h
theorem wpList_store_sm (g n m : Nat) (f k : Nat → Int) (x y : Operand) (hgd : op.guard = none) (ho : op.op = .store 107 x y) (hx : a.eval x = .pointer (some ⟨g, 0, none⟩)) (hy : a.eval y = .agg (smL m k).toArray) (hb : SmB g n f w)
    (h : wpList Tryz.prog ops Q rest (a.put op.dst undef) (w.setCells g 0 (smL m k))) : wpList Tryz.prog ops Q (op :: rest) a w := by
  refine wpList_store_mid hgd _ x y ho g 0 (smL m k).toArray hx hy (by rw [List.size_toArray, smL_len]; exact hb.there) (size_smA m k) (all_oneCell_toArray (smL_one m k)) ?_
  exact h
end
/-- The result of a function that hands such a struct back out of its cell. -/
theorem results_sm {fn : Func} {q : Tmp} (hf : fn.results = #[.cell q 107]) (tmps : Array Value) (w : World) (g n : Nat) (f : Nat → Int) (hp : tmps.getD q undef = .pointer (some ⟨g, 0, none⟩)) (hb : SmB g n f w) :
    (results fn tmps).run Tryz.prog w = .ok (.agg (smL n f).toArray) w := by
  have hp' : tmps[q]?.getD undef = .pointer (some ⟨g, 0, none⟩) := by simpa using hp
  simp [results, hf, hp', asAddr, run_loadVar_mid w g 0 _ (smL n f) _ hb.range Tryz.underlying107 rfl (size_sm n f)]

end Go.Proofs.YtkibkkdeaojjoabGreat
