/-
  Matrices of bivectors, the form of Killing: contracts of the program and of the model.
  Conditions: the lists are nil or rows of known cells, of at most 1048576 numbers.
  Matrices of spaces, compared and copied: contracts of the program and of the model.
  Conditions: the lists are nil or rows of known cells, of at most 1048576 numbers.
-/
import Derived.Test.YtkibkkdeaojjoabGreatQg50
import Derived.Test.YtkibkkdeaojjoabGreatQg9
import Derived.Test.YtkibkkdeaojjoabGreatQg29
import Derived.Test.YtkibkkdeaojjoabGreatQg30
import Derived.Laws.CopyOwn
import Derived.Laws.IdiomCopy
import Derived.Deep.RegionHeld3
import Derived.Deep.DeepCutAuto
namespace Go.Proofs.YtkibkkdeaojjoabGreat
open Go.RowKit
set_option linter.unusedVariables false

section
variable {P : Program} {ops : Array Oper} {rest : List Oper} {op : Oper} {a : Act} {w : World} {Q : Exit → Act → World → Prop}
theorem wpList_copy_cells (hgd : op.guard = none) (d s : Operand) (dT sT : TypeId)
    (ho : op.op = .call { callee := .builtin .copy, args := #[d, s], argTypes := #[dT, sT] }) (elem : TypeId) (hu : P.underlying dT = some (.slice elem)) (hsz : (P.info? elem).map (·.size) = some 1)
    (b o dLen dCap : Nat) (ad : Addr) (sLen sCap : Nat) (hd : a.eval d = .slice (some ⟨b, o, none⟩) dLen dCap) (hs : a.eval s = .slice (some ad) sLen sCap)
    (cs : List Value) (hn : cs.length = Nat.min sLen dLen) (hsrc : ∀ j v, cs[j]? = some v → w.cell? (ad.add j) = some v) (hc : ∀ j, j < cs.length → (w.cell? ⟨b, o + j, none⟩).isSome = true) (hf : ∀ j, j < cs.length → w.frozen? ⟨b, o + j, none⟩ = false) (h1 : ∀ v ∈ cs, v.oneCell' = true)
    (h : wpList P ops Q rest (a.put op.dst (goInt cs.length)) (w.setCells b o cs)) : wpList P ops Q (op :: rest) a w := by
  refine wpList_plain hgd fun K hK => ?_
  have hrun := run_copy_cells (P := P) w dT sT op.type elem b o dLen dCap ad sLen sCap cs hu hsz hn hsrc hc hf h1
  unfold Oper.wp
  simp [execOp, ho, resolve, invoke, builtin, hd, hs, hrun, Result.andThen]
  exact hK _ _ h
end
theorem wrote_setCells (b o : Nat) (vs : List Value) (w : World) : Wrote b o vs.length w (w.setCells b o vs) := by
  generalize hn0 : vs.length = n0
  have key : ∀ (vs : List Value) (k : Nat) (w1 : World), k + vs.length ≤ n0 → Wrote b o n0 w w1 → Wrote b o n0 w (w1.setCells b (o + k) vs) := by
    intro vs
    induction vs with
    | nil => intro k w1 _ h; exact h
    | cons v r ih =>
      intro k w1 hk h
      rw [World.setCells]
      rw [List.length_cons] at hk
      exact ih (k + 1) _ (by omega) (h.set (by omega) v)
  have h := key vs 0 w (by omega) (Wrote.refl b o n0 w)
  rwa [Nat.add_zero] at h
theorem sm_back {n : Nat} {m : List (List Int)} (h6 : n ≤ 6) (hl : m.length = n) (hr : ∀ i, i < m.length → (rw' m i).length = n) : mk n n (fun i j => smM n m (i * 6 + j)) = m := by
  refine Eq.trans ?_ (eq_mk hr).symm
  rw [hl]
  refine mk_congr fun i hi j hj => ?_
  unfold smM
  have h1 : (i * 6 + j) / 6 = i := by omega
  have h2 : (i * 6 + j) % 6 = j := by omega
  rw [h1, h2, if_pos ⟨hi, hj⟩]
end Go.Proofs.YtkibkkdeaojjoabGreat

namespace Go.Proofs.YtkibkkdeaojjoabGreat
open Go.RowKit
set_option linter.unusedVariables false

theorem part64 (xs : Array Value) (off : Nat) (v : Value) (h : xs[off]? = some v) (W : World) : (part 2 xs off).run Tryz.prog W = .ok v W := by
  obtain ⟨i0, hi, hz0, hz1, hz2⟩ := info_parts info64
  simp [part, h, go_sem]
theorem items64 (d : Nat) (xs ys : Array Value) (f k : Nat → Int) (W : World) : ∀ (is : List Nat), (∀ i ∈ is, xs[i]? = some (.int .i64 (f i)) ∧ ys[i]? = some (.int .i64 (k i))) →
    (Op.eqItems (d + 1) 2 1 xs ys is).run Tryz.prog W = .ok (is.all fun i => f i == k i) W
  | [], _ => by simp [Op.eqItems]
  | i :: is, h => by
    have h0 := h i (List.mem_cons_self ..)
    have ih := items64 d xs ys f k W is fun j hj => h j (List.mem_cons_of_mem _ hj)
    have p1 := part64 xs (i * 1) _ (by rw [Nat.mul_one]; exact h0.1) W
    have p2 := part64 ys (i * 1) _ (by rw [Nat.mul_one]; exact h0.2) W
    have e1 : (Op.equalIn (d + 1) 2 (.int .i64 (f i)) (.int .i64 (k i))).run Tryz.prog W = .ok (f i == k i) W := by simp [Op.equalIn, go_sem]
    rw [Op.eqItems]
    simp only [Sem.run_bind, p1, p2, e1, Result.andThen_ok]
    cases hb : (f i == k i) with
    | true => simp [ih, hb]
    | false => simp [hb]
theorem row6 (d : Nat) (xs ys : Array Value) (f k : Nat → Int) (W : World) (h : ∀ i, i < 6 → xs[i]? = some (.int .i64 (f i)) ∧ ys[i]? = some (.int .i64 (k i))) :
    (Op.equalIn (d + 2) 104 (.agg xs) (.agg ys)).run Tryz.prog W = .ok ((List.range 6).all fun i => f i == k i) W := by
  obtain ⟨i0, hi, hz0, hz1, hz2⟩ := info_parts info64
  have hc : (Tryz.prog).cellsOf 2 = 1 := by unfold Program.cellsOf; rw [hi]; exact hz1
  rw [run_equalIn_array W (d + 1) _ _ Tryz.underlying104 hi, hc]
  exact items64 d xs ys f k W _ fun i hi => h i (List.mem_range.1 hi)
theorem info_a6 : (Tryz.prog.info? 104).map (fun i => i.size) = some 6 := by kernel_rfl
theorem info_a66 : (Tryz.prog.info? 105).map (fun i => i.size) = some 36 := by kernel_rfl
theorem part_a6 (xs : Array Value) (off : Nat) (W : World) : (part 104 xs off).run Tryz.prog W = .ok (.agg (xs.extract off (off + 6))) W := by
  obtain ⟨i, hi, hh⟩ := Option.map_eq_some_iff.1 info_a6
  have hh' : i.size = 6 := hh
  simp [part, isAgg, sizeOf, typeInfo, hi, hh', run_underlying Tryz.underlying104, go_sem]
theorem part_a66 (xs : Array Value) (off : Nat) (W : World) : (part 105 xs off).run Tryz.prog W = .ok (.agg (xs.extract off (off + 36))) W := by
  obtain ⟨i, hi, hh⟩ := Option.map_eq_some_iff.1 info_a66
  have hh' : i.size = 36 := hh
  simp [part, isAgg, sizeOf, typeInfo, hi, hh', run_underlying Tryz.underlying105, go_sem]
theorem items6 (d : Nat) (xs ys : Array Value) (f k : Nat → Int) (W : World) (h : ∀ c, c < 36 → xs[c]? = some (.int .i64 (f c)) ∧ ys[c]? = some (.int .i64 (k c))) : ∀ (is : List Nat), (∀ i ∈ is, i < 6) →
    (Op.eqItems (d + 2) 104 6 xs ys is).run Tryz.prog W = .ok (is.all fun r => (List.range 6).all fun i => f (r * 6 + i) == k (r * 6 + i)) W
  | [], _ => by simp [Op.eqItems]
  | r :: is, hl => by
    have h0 := hl r (List.mem_cons_self ..)
    have ih := items6 d xs ys f k W h is fun j hj => hl j (List.mem_cons_of_mem _ hj)
    have e1 := row6 d (xs.extract (r * 6) (r * 6 + 6)) (ys.extract (r * 6) (r * 6 + 6)) (fun i => f (r * 6 + i)) (fun i => k (r * 6 + i)) W fun i hi => by
      have hc := h (r * 6 + i) (by omega)
      have l1 := (Array.getElem?_eq_some_iff.1 hc.1).1
      have l2 := (Array.getElem?_eq_some_iff.1 hc.2).1
      have l3 := (Array.getElem?_eq_some_iff.1 (h 35 (by omega)).1).1
      have l4 := (Array.getElem?_eq_some_iff.1 (h 35 (by omega)).2).1
      rw [Array.getElem?_extract, Array.getElem?_extract, if_pos (by omega), if_pos (by omega)]
      exact hc
    rw [Op.eqItems]
    simp only [Sem.run_bind, part_a6, e1, Result.andThen_ok]
    cases hb : ((List.range 6).all fun i => f (r * 6 + i) == k (r * 6 + i)) with
    | true => simp only [Bool.not_true, Bool.false_eq_true, if_false]; rw [ih, List.all_cons, hb, Bool.true_and]
    | false => rw [List.all_cons, hb]; simp
theorem arr66 (d : Nat) (xs ys : Array Value) (f k : Nat → Int) (W : World) (h : ∀ c, c < 36 → xs[c]? = some (.int .i64 (f c)) ∧ ys[c]? = some (.int .i64 (k c))) :
    (Op.equalIn (d + 3) 105 (.agg xs) (.agg ys)).run Tryz.prog W = .ok ((List.range 6).all fun r => (List.range 6).all fun i => f (r * 6 + i) == k (r * 6 + i)) W := by
  obtain ⟨i, hi, hh⟩ := Option.map_eq_some_iff.1 info_a6
  have hh' : i.size = 6 := hh
  have hc : (Tryz.prog).cellsOf 104 = 6 := by unfold Program.cellsOf; rw [hi]; exact hh
  rw [run_equalIn_array W (d + 2) _ _ Tryz.underlying105 hi, hc]
  exact items6 d xs ys f k W h _ fun i hi => List.mem_range.1 hi
def eqB (f k : Nat → Int) : Bool := (List.range 6).all fun r => (List.range 6).all fun i => f (r * 6 + i) == k (r * 6 + i)
theorem eqB_iff {f k : Nat → Int} : eqB f k = true ↔ ∀ c, c < 36 → f c = k c := by
  unfold eqB
  rw [List.all_eq_true]
  constructor
  · intro h c hc
    have := h (c / 6) (List.mem_range.2 (by omega))
    rw [List.all_eq_true] at this
    have := this (c % 6) (List.mem_range.2 (by omega))
    rw [show c / 6 * 6 + c % 6 = c by omega] at this
    simpa using this
  · intro h r hr
    rw [List.all_eq_true]
    intro i hi
    have := h (r * 6 + i) (by have := List.mem_range.1 hr; have := List.mem_range.1 hi; omega)
    simpa using this
theorem smL_ext (n : Nat) (f : Nat → Int) {c : Nat} (h : c < 36) : ((smL n f).toArray.extract 1 37)[c]? = some (.int .i64 (f c)) := by
  have l1 : (smL n f).toArray.size = 37 := by rw [List.size_toArray, smL_len]
  rw [Array.getElem?_extract, if_pos (by omega), Nat.add_comm 1 c, List.getElem?_toArray]
  exact smL_at n f h
theorem eqint1 (d : Nat) (a : Int) (W : World) : (Op.equalIn (d + 1) 3 (.int .i64 a) (.int .i64 a)).run Tryz.prog W = .ok true W := by simp [Op.equalIn, go_sem]
set_option maxRecDepth 100000 in
theorem eqSm (n : Nat) (f k : Nat → Int) (W : World) : (Op.equalIn 10000 107 (.agg (smL n f).toArray) (.agg (smL n k).toArray)).run Tryz.prog W = .ok (eqB f k) W := by
  have hc : ∀ c, c < 36 → ((smL n f).toArray.extract 1 37)[c]? = some (.int .i64 (f c)) ∧ ((smL n k).toArray.extract 1 37)[c]? = some (.int .i64 (k c)) := fun c h => ⟨smL_ext n f h, smL_ext n k h⟩
  have e2 := arr66 9996 _ _ f k W hc
  have e1 : (Op.equalIn 9999 3 (.int .i64 (n : Int)) (.int .i64 (n : Int))).run Tryz.prog W = .ok true W := eqint1 9998 _ W
  have hp : (Tryz.prog).stoodInHeld 107 = false := by first | rfl | kernel_rfl | simp [go_sem]
  have hf : (Tryz.prog).fieldsOf 107 = #[{ name := "size", type := 3, offset := 0, embedded := false, tag := "", pkgPath := "loop.example/g01124/impl", byteOffset := 0 }, { name := "numbers", type := 105, offset := 1, embedded := false, tag := "", pkgPath := "loop.example/g01124/impl", byteOffset := 8 }] := by unfold Program.fieldsOf; rw [Tryz.underlying107]
  rw [run_equalIn_struct W 9999 107 _ _ (by rw [hf]; exact Tryz.underlying107) hp, hf]
  unfold eqB
  have p1 : (part 3 (smL n f).toArray 0).run Tryz.prog W = .ok (.int .i64 (n : Int)) W := by
    have : (smL n f).toArray[0]? = some (.int .i64 (n : Int)) := rfl
    simp [part, this, go_sem]
  have p2 : (part 3 (smL n k).toArray 0).run Tryz.prog W = .ok (.int .i64 (n : Int)) W := by
    have : (smL n k).toArray[0]? = some (.int .i64 (n : Int)) := rfl
    simp [part, this, go_sem]
  have p3 := part_a66 (smL n f).toArray 1 W
  have p4 := part_a66 (smL n k).toArray 1 W
  simp only [Op.eqFields, Sem.run_bind, Sem.run_ite, p1, p2, p3, p4, e1, e2, Result.andThen_ok]
  generalize ((List.range 6).all fun r => (List.range 6).all fun i => f (r * 6 + i) == k (r * 6 + i)) = b
  cases b <;> simp

theorem wrote_setCells_in {b o n : Nat} : ∀ (vs : List Value) (k : Nat) {w w1 : World}, k + vs.length ≤ n → Wrote b o n w w1 → Wrote b o n w (w1.setCells b (o + k) vs)
  | [], _, _, _, _, h => h
  | v :: r, k, w, w1, hk, h => by
    rw [World.setCells]
    rw [List.length_cons] at hk
    exact wrote_setCells_in r (k + 1) (by omega) (h.set (by omega) v)
/-- A matrix in a struct's rows, behind i copies. -/
def smR (n : Nat) (m : List (List Int)) (i c : Nat) : Int := if c / 6 < i ∧ c % 6 < n then at' m (c / 6) (c % 6) else 0
theorem smR_none (n : Nat) (m : List (List Int)) (c : Nat) : smR n m 0 c = 0 := if_neg (by omega)
theorem SmB.copied {g n i : Nat} {m : List (List Int)} {w : World} (h : SmB g n (smR n m i) w) (hi : i < n) (h6 : n ≤ 6) (cs : List Value) (hcl : cs.length = n) (hcv : ∀ j v, cs[j]? = some v → j < n ∧ v = Value.int .i64 (at' m i j)) : SmB g n (smR n m (i + 1)) (w.setCells g (1 + i * 6) cs) := by
  have hw := wrote_setCells g (1 + i * 6) cs w
  rw [hcl] at hw
  have hd : ∀ j, j < cs.length → (w.cell? ⟨g, 1 + i * 6 + j, none⟩).isSome = true := fun j hj => by
    rw [hcl] at hj
    rw [Nat.add_assoc, h.row.cell (i * 6 + j) (by omega)]; rfl
  refine ⟨(hw.cell 0 (fun j _ => by omega)).trans h.head, (hw.frozen 0).trans h.fr, ⟨fun c hc => ?_, fun c hc => (hw.frozen _).trans (h.row.free c hc)⟩⟩
  by_cases e : c / 6 = i ∧ c % 6 < n
  · have hc2 : c % 6 < cs.length := by rw [hcl]; exact e.2
    have h1 := World.cell?_setCells_in g cs (1 + i * 6) w hd (c % 6) hc2
    rw [show 1 + i * 6 + c % 6 = 1 + c by omega] at h1
    rw [h1]
    have h2 := (hcv (c % 6) _ (List.getElem?_eq_getElem hc2)).2
    rw [h2]
    unfold smR
    rw [if_pos (by omega), e.1]
  · refine (hw.cell (1 + c) (fun j hj e2 => ?_)).trans ((h.row.cell c hc).trans ?_)
    · exact e ⟨by omega, by omega⟩
    · unfold smR
      by_cases q : c / 6 < i ∧ c % 6 < n
      · rw [if_pos q, if_pos (by omega)]
      · rw [if_neg q, if_neg (by omega)]

set_option maxRecDepth 100000 in
set_option maxHeartbeats 6400000 in
theorem spaceMatrixOf_any (n : Nat) (am : Option Addr) (m : List (List Int)) (cm lom tpm : Nat) (w : World) (hm : MatIn lom tpm w am m) (tm : tpm ≤ w.heap.size) (h6 : n ≤ 6) (hl : m.length = n) (hr : ∀ i, i < m.length → (rw' m i).length = n) :
    Calls Tryz.prog 90 #[.slice am n cm] w (SmE n (smM n m) w) := by
  obtain ⟨i0, hi, hz0, hz1, hz2⟩ := info_parts info64
  have Hm := Lib.hid hm
  have HL := Lib.hid hl
  have HR : Hid (∀ i, i < n → (rw' m i).length = n) := fun i hi => hr i (by omega)
  clear hm hl hr
  go_enter Tryz.func90, Tryz.ntmps90
  go_upto_region 1 with (refine wpList_alloc_sm (by rfl) (by rfl) ?_)
  obtain ⟨w1, hw1⟩ : ∃ z, z = w.alloc (.cells (smL 0 fun _ => 0).toArray 107) := ⟨_, rfl⟩
  have RB1 : Hid (SmB w.heap.size 0 (fun _ => 0) w1) := by show SmB _ _ _ _; rw [hw1]; exact SmB.new _ _ _ _
  have HB1 : Hid (Below w.heap.size w w1) := by show Below _ _ _; rw [hw1]; exact below_alloc w _
  have hsz1 : Hid (w1.heap.size = w.heap.size + 1) := by show _ = _; rw [hw1]; simp
  rw [← hw1]
  clear hw1
  go_upto_region 2 with (first | (refine wpList_build_sm n _ (by rfl) (by rfl) (by first | rfl | (simp [Act.eval]; done) | simp [Act.eval, Act.put]) ?_) | (refine wpList_alloc_sm (by rfl) (by rfl) ?_) | (refine wpList_store_sm w1.heap.size 0 n (fun _ => 0) (fun _ => 0) _ _ (by rfl) (by rfl) (by first | rfl | (simp [Act.eval]; done) | simp [Act.eval, Act.put]) (by first | rfl | (simp [Act.eval]; done) | simp [Act.eval, Act.put]) (SmB.new _ _ _ _) ?_))
  obtain ⟨g, hg⟩ : ∃ b, b = w1.heap.size := ⟨_, rfl⟩
  obtain ⟨w2, hw2⟩ : ∃ z, z = (w1.alloc (.cells (smL 0 fun _ => 0).toArray 107)).setCells g 0 (smL n fun _ => 0) := ⟨_, rfl⟩
  have B12 : Below w1.heap.size w1 w2 := by rw [hw2, hg]; exact below_setCells (below_alloc w1 _) (Nat.le_refl _) _ _
  have GB2 : Hid (SmB g n (fun _ => 0) w2) := by show SmB _ _ _ _; rw [hw2, hg]; exact (SmB.new w1 0 (fun _ => 0) _).stored
  have RB2 : Hid (SmB w.heap.size 0 (fun _ => 0) w2) := RB1.out.below B12 (by rw [hsz1.out]; omega)
  have HB2 : Hid (Below w.heap.size w w2) := below_step HB1.out HB1.out.size B12
  have hgg : Hid (g = w.heap.size + 1) := by show _ = _; rw [hg, hsz1.out]
  rw [hg] at hw2
  rw [← hw2]
  try rw [← hg]
  clear hw2 hg B12
  have hwg : w.heap.size ≤ g := by rw [hgg.out]; omega
  have hgr : g ≠ w.heap.size := by rw [hgg.out]; omega
  go_wp2
  go_loopw [11] (fun t wr => ∃ i : Nat, i ≤ n ∧ t = .int .i64 i ∧ SmB g n (smR n m i) wr ∧ Wrote g 1 36 w2 wr) (fun t _ => n - (intOf t).toNat)
  case atStart => exact ⟨0, Nat.zero_le _, rfl, GB2.out.congr fun c _ => (smR_none _ _ c).symm, Wrote.refl _ _ _ _⟩
  case round =>
    obtain ⟨i, hi', rfl, hgb_, hwr⟩ := hrel
    have HG := Lib.hid hgb_
    have HWR := Lib.hid hwr
    have HBR := Lib.hid (HB2.out.trans (hwr.belowB hwg))
    by_cases hlt : i < n
    · have hi1 : (i : Int) < (n : Int) := Int.ofNat_lt.2 hlt
      have hi6 : (i : Int) < 6 := by omega
      have h0i : (0 : Int) ≤ (i : Int) := Int.natCast_nonneg _
      obtain ⟨b, o, r1, c1, ha1, _, _, hr1, hrow1⟩ := (Hm.out.below HBR.out tm).row (show i < m.length by rw [HL.out]; exact hlt)
      subst ha1
      rw [HR.out i hlt] at hr1
      obtain ⟨cs, hcs⟩ : ∃ z, z = (List.range n).map fun j => Value.int .i64 (at' m i j) := ⟨_, rfl⟩
      have HCL : Hid (cs.length = n) := by show _ = _; rw [hcs]; simp
      have HCV : Hid (∀ j v, cs[j]? = some v → j < n ∧ v = Value.int .i64 (at' m i j)) := fun j v hv => by
        have hj := (List.getElem?_eq_some_iff.1 hv).1
        rw [HCL.out] at hj
        refine ⟨hj, ?_⟩
        rw [hcs] at hv
        simp [hj] at hv
        exact hv.symm
      have HCO : Hid (∀ v ∈ cs, v.oneCell' = true) := fun v hv => by
        rw [hcs] at hv
        obtain ⟨j, _, rfl⟩ := List.mem_map.1 hv
        rfl
      clear hcs
      obtain ⟨b2, o2, hb2⟩ : ∃ b2 o2, r1 = some ⟨b2, o2, none⟩ := by
        obtain ⟨b2, o2, h2, _⟩ := hrow1.num (j := 0) (by rw [HR.out i hlt]; omega)
        exact ⟨b2, o2, h2⟩
      subst hb2
      have HSR : Hid (∀ j v, cs[j]? = some v → wr.cell? ((⟨b2, o2, none⟩ : Addr).add j) = some v) := fun j v hv => by
        obtain ⟨hj, e⟩ := HCV.out j v hv
        obtain ⟨b3, o3, h3, _, _, h4⟩ := hrow1.num (j := j) (by rw [HR.out i hlt]; exact hj)
        injection h3 with h3
        injection h3 with h31 h32
        subst h31 h32
        rw [Addr.add_mid, e]
        exact h4
      have HDC : Hid (∀ j, j < cs.length → (wr.cell? ⟨g, 1 + i * 6 + j, none⟩).isSome = true) := fun j hj => by
        rw [HCL.out] at hj
        rw [Nat.add_assoc, HG.out.row.cell (i * 6 + j) (by omega)]; rfl
      have HDF : Hid (∀ j, j < cs.length → wr.frozen? ⟨g, 1 + i * 6 + j, none⟩ = false) := fun j hj => by
        rw [HCL.out] at hj
        rw [Nat.add_assoc]; exact HG.out.row.free (i * 6 + j) (by omega)
      have HCM : Hid (cs.length = Nat.min n 6) := by show _ = _; rw [HCL.out]; exact (Nat.min_eq_left h6).symm
      clear hgb_ hwr hrow1
      go_wp2_with (refine wpList_copy_cells (by rfl) _ _ _ _ (by rfl) 2 Tryz.underlying22 (by rw [hi]; simp [hz1]) g (1 + i * 6) 6 6 ⟨b2, o2, none⟩ n c1 (by first | rfl | (simp [Act.eval]; done) | simp [Act.eval, Act.put]) (by first | rfl | (simp [Act.eval]; done) | simp [Act.eval, Act.put]) cs HCM.out HSR.out HDC.out HDF.out HCO.out ?_)
      go_roundw
      case rel => exact ⟨i + 1, by omega, by go_num, HG.out.copied hlt h6 cs HCL.out HCV.out, wrote_setCells_in cs (i * 6) (by rw [HCL.out]; omega) HWR.out⟩
      case measure => simp [intOf]; omega
    · have hin : i = n := by omega
      subst hin
      have RBr := Lib.hid (RB2.out.block (hwr.block _ hgr.symm))
      clear hgb_ hwr
      go_wp2_with (first | (refine wpList_load_sm g i (smR i m i) _ (by rfl) (by rfl) (by first | rfl | (simp [Act.eval]; done) | simp [Act.eval, Act.put]) HG.out ?_) | (refine wpList_store_sm w.heap.size 0 i (fun _ => 0) (smR i m i) _ _ (by rfl) (by rfl) (by first | rfl | (simp [Act.eval]; done) | simp [Act.eval, Act.put]) (by first | rfl | (simp [Act.eval]; done) | simp [Act.eval, Act.put]) RBr.out ?_))
      refine bodyPost_ret (v := .agg (smL i (smM i m)).toArray) ?_ rfl ⟨rfl, ?_⟩
      · refine results_sm rfl _ _ w.heap.size i _ (by first | rfl | simp [Act.put]) ?_
        exact SmB.stored RBr.out
      · exact below_setCells HBR.out (Nat.le_refl _) _ _

end Go.Proofs.YtkibkkdeaojjoabGreat
