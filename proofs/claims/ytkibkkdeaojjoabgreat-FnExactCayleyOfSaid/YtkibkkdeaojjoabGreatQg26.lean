/-
  The program's elimination, one row more: the walk of the function that takes it.
  Conditions: the echelon is one's own; the row is a row of known cells with numbers of the prime.
-/
import Derived.Test.YtkibkkdeaojjoabGreatQg22
import Derived.Test.YtkibkkdeaojjoabGreatQg14
import Derived.Test.YtkibkkdeaojjoabGreatQg13
import Derived.Test.YtkibkkdeaojjoabGreatQg8
import Derived.StillTailTactics
namespace Go.Proofs.YtkibkkdeaojjoabGreat
open Go.RowKit Go.ChangeShapes Go.WideShapes
set_option linter.unusedVariables false

/-- A new list with its room. -/
def NewLC (n : Nat) (z : List Int) (w : World) (e : Ending) (w' : World) : Prop :=
  z.length = n ∧ ∃ r c, e = .returned (.slice r n c) ∧ TagR w.heap.size w'.heap.size w' r z ∧ Below w.heap.size w w' ∧ n ≤ c
set_option maxRecDepth 100000 in
set_option maxHeartbeats 800000 in
theorem cloneN (a : Option Addr) (zs : List Int) (n ca lo tp : Nat) (w : World) (ha : RowIn lo tp w a zs) (ht : tp ≤ w.heap.size) (hn : zs.length = n) (h0 : 0 < n) (hs : n ≤ 1024) :
    Calls Tryz.prog 116 #[.slice a n ca] w (NewLC n zs w) := by
  subst hn
  obtain ⟨i0, hi, hz0, hz1, hz2⟩ := info_parts info64
  rcases ha with h | ⟨b, o, rfl, _, hb, hc⟩
  · rw [h] at h0; simp at h0
  · have hbw : b < w.heap.size := Nat.lt_of_lt_of_le hb ht
    have HN := Lib.hid (news_of hc (.cells #[] 2) hbw)
    have q : ∀ W : World, (binOp .eql 22 (.slice (some ⟨b, o, none⟩) zs.length ca) (.slice none 0 0)).run Tryz.prog W = .ok (.bool false) W := fun W => Lib.run_eql_slice_nil W _ _ _ _ _ _ _ Tryz.underlying22
    clear hc
    go_enter Tryz.func116, Tryz.ntmps116
    go_wp2_with (at_builtin; refine wpList_append_lies _ rfl _ _ 22 rfl w.heap.size 2 i0 (.int .i64 0) 1 8 Tryz.underlying22 hi hz0 hz1 hz2 rfl (by decide) _ 0 [] rfl (World.ownsRow_made w #[] 0 (Nat.le_refl _) (Nat.zero_le _) rfl) ⟨b, o, none⟩ zs.length ca (zs.map (Value.int .i64)) rfl (by simp) HN.out (ones_of zs) h0 (by unfold maxLen; omega) (by omega) (by simp) (w.heap.size + 1) (by simp) ?_; intro gg cap w1 hown1 hgrow hat hlt1)
    rw [Nat.zero_add] at hown1
    have HO : Hid (OutR w.heap.size w1 (.slice (some ⟨gg, 0, none⟩) zs.length cap) zs) := OutR.of hown1 rfl
    have HB : Hid (Below w.heap.size w w1) := ((Below.refl _ _).alloc (Nat.le_refl _) _).grown hgrow (by simp) (fun k hk => by cases hk; exact Nat.le_refl _)
    have HCP : Hid (zs.length ≤ cap) := by
      rcases HO.out.2 with ⟨e, _⟩ | ⟨g, cp, cur, e, _, _, hnc, _⟩
      · cases e
      · injection e with _ _ e3; show zs.length ≤ cap; omega
    clear hown1 hgrow
    go_wp2
    go_ret
    obtain ⟨a', c', e', ht'⟩ := HO.out.tag
    injection e' with e1 e2 e3
    subst e1
    exact ⟨rfl, _, cap, rfl, ht', HB.out, HCP.out⟩

theorem oppQ (p a : Int) (w : World) (hp : prm p = true) (a0 : 0 ≤ a) (a1 : a < p) :
    Calls Tryz.prog 82 #[.int .i64 p, .int .i64 a] w fun e w' => e = .returned (.int .i64 (-a % p)) ∧ w' = w :=
  (opposite_any p a w hp a0 a1).mono (by rintro e w' ⟨rfl, rfl⟩; exact ⟨rfl, rfl⟩)
theorem addN (p k : Int) (b o n c : Nat) (f : Nat → Int) (a : Option Addr) (z : List Int) (nz cz lo tp : Nat) (w : World) (hp : prm p = true) (h : RowOwn w b o n f) (hz : RowIn lo tp w a z) (hb : b < lo ∨ tp ≤ b) (hl : z.length = nz) (hn : nz = n) (hs : n ≤ 1024) (hf : ∀ j, j < n → 0 ≤ f j ∧ f j < p) (hzn : ∀ j, j < n → 0 ≤ num z j ∧ num z j < p) (k0 : 0 ≤ k) (k1 : k ≤ p) :
    Calls Tryz.prog 67 #[.int .i64 p, .slice (some ⟨b, o, none⟩) n c, .int .i64 k, .slice a nz cz] w fun e w' => e = .returned (.tuple #[]) ∧ RowOwn w' b o n (fun j => (f j + k * num z j) % p) ∧ Wrote b o n w w' := by
  subst hl
  exact addMultiple_any p k b o n c f a z cz lo tp w hp h hz hb (by omega) (by omega) hf (fun j hj => hzn j (by omega)) k0 k1
theorem EchM.pivA {w : World} {kb c nr np i : Nat} {Z : Nat → Nat → Int} {P : Nat → Nat} {ar ap : Option Addr} {cr cp : Nat} {d : Int} {RB RO RC : Nat → Nat} (h : EchM w kb c nr np Z P (.slice ar nr cr) (.slice ap np cp) d RB RO RC) (hi : i < np) :
    ∃ g, ap = some ⟨g, 0, none⟩ ∧ w.cell? ⟨g, i, none⟩ = some (.int .i64 (P i : Int)) ∧ kb < g ∧ g < w.heap.size := by
  obtain ⟨g, cap, e, h1, h2, h3⟩ := h.piv hi
  cases e
  exact ⟨g, rfl, h1, h2, h3⟩
theorem EchM.readA {w : World} {kb c nr np i : Nat} {Z : Nat → Nat → Int} {P : Nat → Nat} {ar ap : Option Addr} {cr cp : Nat} {d : Int} {RB RO RC : Nat → Nat} (h : EchM w kb c nr np Z P (.slice ar nr cr) (.slice ap np cp) d RB RO RC) (hi : i < nr) :
    ∃ g, ar = some ⟨g, 0, none⟩ ∧ w.cell? ⟨g, i, none⟩ = some (.slice (some ⟨RB i, RO i, none⟩) c (RC i)) ∧ kb < g ∧ g < w.heap.size := by
  obtain ⟨g, cap, e, h1, h2, h3⟩ := h.read hi
  cases e
  exact ⟨g, rfl, h1, h2, h3⟩
theorem RowOwn.congr {w : World} {b o n : Nat} {f g : Nat → Int} (h : RowOwn w b o n f) (e : ∀ j, j < n → f j = g j) : RowOwn w b o n g := ⟨fun j hj => by rw [← e j hj]; exact h.cell j hj, h.free⟩
theorem Wrote.belowk {b o n k : Nat} {w w' : World} (h : Wrote b o n w w') (hk : k ≤ b) : Below k w w' := ⟨h.os, h.tape, h.output, Nat.le_of_eq h.size.symm, fun i hi => h.block i (by omega)⟩
theorem num_mkR {c : Nat} {f : Nat → Int} {j : Nat} (h : j < c) : num (mkR c f) j = f j := mkR_at f h

theorem RowOwn.rowIn {w : World} {b o c : Nat} {z : List Int} (h : RowOwn w b o c (num z)) (hz : z.length = c) : RowIn b (b + 1) w (some ⟨b, o, none⟩) z :=
  .inr ⟨b, o, rfl, Nat.le_refl _, Nat.lt_succ_self _, fun j hj => h.cell j (by omega)⟩
theorem EchM.far {w : World} {kb c nr np : Nat} {Z : Nat → Nat → Int} {P : Nat → Nat} {vr vp : Value} {d : Int} {RB RO RC : Nat → Nat} (h : EchM w kb c nr np Z P vr vp d RB RO RC) (x j : Nat) (v : Value)
    (h0 : kb ≠ x) (h1 : vr.ownBlock ≠ some x) (h2 : vp.ownBlock ≠ some x) (h3 : ∀ i, i < nr → RB i ≠ x) : EchM (w.setCell ⟨x, j, none⟩ v) kb c nr np Z P vr vp d RB RO RC :=
  h.other (b := x) (o := j) (n := 1) h0 h1 h2 h3 ((Wrote.refl x j 1 w).set (by omega : 0 < 1) v)
/-- The result's block, and none else, is written. -/
theorem below_res {k x : Nat} {w w' : World} (h : Below k w w') (hk : k ≤ x) (u v y : Value) : Below k w (((w'.setCell ⟨x, 0, none⟩ u).setCell ⟨x, 1, none⟩ v).setCell ⟨x, 2, none⟩ y) :=
  Below.setCell (Below.setCell (Below.setCell h (show k ≤ (⟨x, 0, none⟩ : Addr).block from hk) u) (show k ≤ (⟨x, 1, none⟩ : Addr).block from hk) v) (show k ≤ (⟨x, 2, none⟩ : Addr).block from hk) y

theorem NumAt.block {w w' : World} {b : Nat} {p v : Int} (h : NumAt w b p v) (e : w'.heap[b]? = w.heap[b]?) : NumAt w' b p v :=
  ⟨(World.cell?_of_block (w := w) (a := ⟨b, 0, none⟩) e).trans h.c0, (World.cell?_of_block (w := w) (a := ⟨b, 1, none⟩) e).trans h.c1, (World.frozen?_of_block (w := w) (a := ⟨b, 0, none⟩) e).trans h.f0, (World.frozen?_of_block (w := w) (a := ⟨b, 1, none⟩) e).trans h.f1⟩
/-- The first i rows are reduced by the new one. -/
def zstep (p : Int) (m : List (List Int)) (s : List Int) (q i : Nat) : Nat → Nat → Int := fun i' => if i' < i then (fun j => (at' m i' j + (-(at' m i' q) % p) * num s j) % p) else at' m i'
theorem zstep_at (p : Int) (m : List (List Int)) (s : List Int) (q i : Nat) : zstep p m s q i i = at' m i := if_neg (Nat.lt_irrefl _)
theorem zstep_next (p : Int) (m : List (List Int)) (s : List Int) (q i : Nat) (x : Int) (hx : x = at' m i q) (i' : Nat) : (if i' = i then (fun j => (at' m i j + (-x % p) * num s j) % p) else zstep p m s q i i') = zstep p m s q (i + 1) i' := by
  subst hx
  unfold zstep
  by_cases e : i' = i
  · subst e; rw [if_pos rfl, if_pos (by omega)]
  · rw [if_neg e]
    by_cases l : i' < i
    · rw [if_pos l, if_pos (by omega)]
    · rw [if_neg l, if_neg (by omega)]

/-- Blocks rb and vb are as they were. -/
def Kp (rb vb : Nat) (w0 w : World) : Prop := ∀ k, (k = rb ∨ k = vb) → w.heap[k]? = w0.heap[k]?
theorem Kp.step {rb vb : Nat} {w0 w w' : World} (h : Kp rb vb w0 w) (e : ∀ k, (k = rb ∨ k = vb) → w'.heap[k]? = w.heap[k]?) : Kp rb vb w0 w' := fun k hk => (e k hk).trans (h k hk)
/-- Block vb is none of the echelon's. -/
def Apt (vb n : Nat) (vr vp : Value) (RB : Nat → Nat) : Prop := vr.ownBlock ≠ some vb ∧ vp.ownBlock ≠ some vb ∧ ∀ i, i < n → RB i ≠ vb
/-- Stores into another block. -/
theorem res_other {x k : Nat} (w : World) (u v y : Value) (h : k ≠ x) : (((w.setCell ⟨x, 0, none⟩ u).setCell ⟨x, 1, none⟩ v).setCell ⟨x, 2, none⟩ y).heap[k]? = w.heap[k]? :=
  ((Below.heap_setCell _ _ _ _ (show k ≠ (⟨x, 2, none⟩ : Addr).block from h)).trans (Below.heap_setCell _ _ _ _ (show k ≠ (⟨x, 1, none⟩ : Addr).block from h))).trans (Below.heap_setCell _ _ _ _ (show k ≠ (⟨x, 0, none⟩ : Addr).block from h))
/-- The echelon behind a row more. -/
def Taken (p : Int) (kb c vb : Nat) (A : List (List Int)) (r : List Int) (w : World) (e : Ending) (w' : World) : Prop :=
  ∃ (m : List (List Int)) (P : Nat → Nat) (d : Int) (ar ap : Option Addr) (cr cp : Nat) (RB RO RC : Nat → Nat),
    e = .returned (.agg #[.slice ar m.length cr, .slice ap m.length cp, .int .i64 d]) ∧ EchM w' kb c m.length m.length (at' m) P (.slice ar m.length cr) (.slice ap m.length cp) d RB RO RC ∧ Elm p c (A ++ [r]) m P d ∧ Below kb w w' ∧
    w'.heap[vb]? = w.heap[vb]? ∧ Apt vb m.length (.slice ar m.length cr) (.slice ap m.length cp) RB

theorem taken_of {p : Int} {kb c q t vb : Nat} {A m : List (List Int)} {P : Nat → Nat} {d d' : Int} {ar' ap' : Option Addr} {cr' cp' : Nat} {RB RO RC : Nat → Nat} {r r' sr : List Int} {w W : World}
    (hE : EchM W kb c (m.length + 1) (m.length + 1) (insF (zstep p m sr q m.length) t (num sr)) (insF P t q) (.slice ar' (m.length + 1) cr') (.slice ap' (m.length + 1) cp') d' RB RO RC)
    (hM : Elm p c A m P d) (hT : Took p c m P r r' sr (mk m.length c (zstep p m sr q m.length)) q t) (hd : d' = d * esgn p m.length t (num r' q) % p) (hb : Below kb w W) (hv : W.heap[vb]? = w.heap[vb]?) (ha : Apt vb (m.length + 1) (.slice ar' (m.length + 1) cr') (.slice ap' (m.length + 1) cp') RB) :
    Taken p kb c vb A r w (.returned (.agg #[.slice ar' (m.length + 1) cr', .slice ap' (m.length + 1) cp', .int .i64 d'])) W := by
  have hm' : (mk m.length c (zstep p m sr q m.length)).length = m.length := mk_len _ _ _
  have htn := hT.tn
  have hl : (ins _ (mk m.length c (zstep p m sr q m.length)) t sr).length = m.length + 1 := by rw [ins_len sr (by omega), hm']
  have hM2 := Elm.more hM hT
  rw [← hd] at hM2
  refine ⟨_, _, d', ar', ap', cr', cp', RB, RO, RC, by rw [hl], ?_, hM2, hb, hv, by rw [hl]; exact ha⟩
  rw [hl]
  refine hE.congr (fun i hi j hj => ?_)
  unfold insF
  by_cases e : i = t
  · rw [if_pos e, e, at_ins_new sr (by omega)]
  · rw [if_neg e, at_ins sr (by omega) e, mk_at _ (old_lt hi e htn) hj]
/-- The determinant is stored and a list of one cell is made. -/
theorem EchM.pre {WA : World} {kb c n z : Nat} {Z : Nat → Nat → Int} {P : Nat → Nat} {vr vp : Value} {d : Int} {RB RO RC : Nat → Nat} (h : EchM WA kb c n n Z P vr vp d RB RO RC) (hz : WA.heap.size = z) (d' : Int) (v : Value) (T : TypeId) :
    EchM ((WA.setCell ⟨kb, 2, none⟩ (.int .i64 d')).alloc (.cells #[v] T)) kb c n n Z P vr vp d' RB RO RC ∧ ((WA.setCell ⟨kb, 2, none⟩ (.int .i64 d')).alloc (.cells #[v] T)).heap[z]? = some (.cells #[v] T (0, 0)) ∧
      ((WA.setCell ⟨kb, 2, none⟩ (.int .i64 d')).alloc (.cells #[v] T)).heap.size = z + 1 ∧ Below kb WA ((WA.setCell ⟨kb, 2, none⟩ (.int .i64 d')).alloc (.cells #[v] T)) ∧
      ∀ k, k < z → k ≠ kb → ((WA.setCell ⟨kb, 2, none⟩ (.int .i64 d')).alloc (.cells #[v] T)).heap[k]? = WA.heap[k]? := by
  have hs : (WA.setCell ⟨kb, 2, none⟩ (.int .i64 d')).heap.size = z := by rw [← hz]; simp [World.setCell]
  have hl := h.lt
  refine ⟨(h.setD d').keep ((Below.refl _ _).alloc (Nat.le_refl _) _), ?_, by simp [hs], ?_, fun k hk hne => ?_⟩
  · have := heap_alloc_new (WA.setCell ⟨kb, 2, none⟩ (.int .i64 d')) (.cells #[v] T)
    rw [hs] at this; exact this
  · exact (Below.setCell (Below.refl kb WA) (show kb ≤ (⟨kb, 2, none⟩ : Addr).block from Nat.le_refl _) _).alloc (by omega) _
  · rw [Below.heap_alloc _ _ _ (by omega)]; exact Below.heap_setCell _ _ _ _ hne

theorem wrap_small {n : Int} (h0 : 0 ≤ n) (h1 : n ≤ 13 * 13) : IntKind.i64.wrap n = n := IntWalk.i64_in _ (by omega)
theorem EchM.at7 {w w1 : World} {kb c nr np : Nat} {Z : Nat → Nat → Int} {P : Nat → Nat} {vr vp : Value} {d : Int} {RB RO RC : Nat → Nat} {row : Option Nat} (h : EchM w kb c nr np Z P vr vp d RB RO RC) (hg : w.grownBy w1 row) (hne : row ≠ some kb) :
    w1.cell? ⟨kb, 0, none⟩ = some vr ∧ w1.cell? ⟨kb, 1, none⟩ = some vp ∧ w1.cell? ⟨kb, 2, none⟩ = some (.int .i64 d) ∧ w1.frozen? ⟨kb, 0, none⟩ = false ∧ w1.frozen? ⟨kb, 1, none⟩ = false := by
  have e := hg.block kb h.lt (fun q => hne q.symm)
  exact ⟨(World.cell?_of_block (w := w) (a := ⟨kb, 0, none⟩) e).trans h.c0, (World.cell?_of_block (w := w) (a := ⟨kb, 1, none⟩) e).trans h.c1, (World.cell?_of_block (w := w) (a := ⟨kb, 2, none⟩) e).trans h.c2,
    (World.frozen?_of_block (w := w) (a := ⟨kb, 0, none⟩) e).trans (h.fz 0), (World.frozen?_of_block (w := w) (a := ⟨kb, 1, none⟩) e).trans (h.fz 1)⟩
theorem new_set (w : World) (kb j : Nat) (v : Value) (x : Value) (T : TypeId) : ((w.setCell ⟨kb, j, none⟩ v).alloc (.cells #[x] T)).heap[w.heap.size]? = some (.cells #[x] T (0, 0)) := by
  have h := heap_alloc_new (w.setCell ⟨kb, j, none⟩ v) (.cells #[x] T)
  have hs : (w.setCell ⟨kb, j, none⟩ v).heap.size = w.heap.size := by simp [World.setCell]
  rw [hs] at h; exact h
theorem old_set (w : World) (kb j k : Nat) (v : Value) (o : Obj) (hk : k < w.heap.size) (hne : k ≠ kb) : ((w.setCell ⟨kb, j, none⟩ v).alloc o).heap[k]? = w.heap[k]? := by
  have hs : (w.setCell ⟨kb, j, none⟩ v).heap.size = w.heap.size := by simp [World.setCell]
  rw [Below.heap_alloc _ _ _ (by omega)]; exact Below.heap_setCell _ _ _ _ hne
theorem res_cells {w : World} {b : Nat} {x y z : Value} {T : TypeId} (h : w.heap[b]? = some (.cells #[x, y, z] T (0, 0))) :
    w.cell? ⟨b, 0, none⟩ = some x ∧ w.cell? ⟨b, 1, none⟩ = some y ∧ w.cell? ⟨b, 2, none⟩ = some z ∧ w.frozen? ⟨b, 0, none⟩ = false ∧ w.frozen? ⟨b, 1, none⟩ = false ∧ w.frozen? ⟨b, 2, none⟩ = false :=
  ⟨by simp [World.cell?, h], by simp [World.cell?, h], by simp [World.cell?, h], free_of h 0, free_of h 1, free_of h 2⟩
theorem grown_belowk {w w1 : World} {row : Option Nat} {k : Nat} (hg : w.grownBy w1 row) (hk : ∀ g, row = some g → k ≤ g) (hs : k ≤ w.heap.size) : Below k w w1 := (Below.refl k w).grown hg hs hk

/-- Reduced by the first i rows. -/
def St1 (p : Int) (kb c : Nat) (m : List (List Int)) (P : Nat → Nat) (vr vp : Value) (d : Int) (RB RO RC : Nat → Nat) (r : List Int) (b o i : Nat) (w : World) : Prop :=
  EchM w kb c m.length m.length (at' m) P vr vp d RB RO RC ∧ ∃ r', Red2 p c m P r r' i ∧ RowOwn w b o c (num r')

set_option maxRecDepth 100000 in
set_option maxHeartbeats 6400000 in
theorem take_any (p : Int) (kb pb c : Nat) (A m : List (List Int)) (P : Nat → Nat) (d : Int) (ar ap : Option Addr) (cr cp : Nat) (RB RO RC : Nat → Nat) (a : Option Addr) (r : List Int) (ca lo tp : Nat) (w : World)
    (hp : prm p = true) (he : EchM w kb c m.length m.length (at' m) P (.slice ar m.length cr) (.slice ap m.length cp) d RB RO RC) (hm : Elm p c A m P d) (hpb : w.cell? ⟨pb, 0, none⟩ = some (.int .i64 p)) (hlt : pb < kb) (vb : Nat) (hvk : kb < vb) (hvw : vb < w.heap.size) (hvb : Apt vb m.length (.slice ar m.length cr) (.slice ap m.length cp) RB)
    (hr : RowIn lo tp w a r) (ht : tp ≤ w.heap.size) (hl : r.length = c) (c0 : 0 < c) (c1 : c ≤ 1024) (hrr : ∀ j, j < c → 0 ≤ num r j ∧ num r j < p) :
    Calls Tryz.prog 115 #[.slice a c ca, .pointer (some ⟨kb, 0, none⟩), .pointer (some ⟨pb, 0, none⟩)] w (Taken p kb c vb A r w) := by
  have hpd := prm_bd hp
  have HP := Lib.hid hp
  have HE := Lib.hid he
  have HM := Lib.hid hm
  have HR := Lib.hid hr
  have HL := Lib.hid hl
  have HRR := Lib.hid hrr
  have HPB := Lib.hid hpb
  have HVB := Lib.hid hvb
  have hkw := he.lt
  have HK := Lib.hid (hm.kept hp).red
  have hmc : m.length ≤ c := HK.out.rows_le
  clear he hm hr hl hp hrr hpb hvb
  go_enter Tryz.func115, Tryz.ntmps115
  go_wp2_with (go_at_call 116; (with_reducible refine (cloneN _ r c _ lo tp _ (HR.out.below ((Below.refl _ _).alloc (Nat.le_refl _) _) ht) (by simp; omega) HL.out c0 c1).mono ?_); rintro e w1 ⟨hn1, r1, kc, rfl, ho1, hb1, hkc⟩; obtain ⟨b, o, rfl, hb0, hbt, hro⟩ := RowOwn.of ho1.own (by omega); have HO1 := Lib.hid hro; have HB1 := Lib.hid hb1; have HE1 := Lib.hid (HE.out.keep (below_step ((Below.refl _ _).alloc (Nat.le_refl _) _) (by simp) hb1)); obtain ⟨c10, c11, c12⟩ : w1.cell? ⟨kb, 0, none⟩ = some _ ∧ w1.cell? ⟨kb, 1, none⟩ = some _ ∧ w1.cell? ⟨kb, 2, none⟩ = some _ := ⟨HE1.out.c0, HE1.out.c1, HE1.out.c2⟩; clear ho1 hb1 hro hn1)
  have HO2 : Hid (RowOwn w1 b o c (num r)) := by have h := HO1.out; rw [HL.out] at h; exact h
  have HBK : Hid (Kp w.heap.size vb (w.alloc (.cells #[.slice none 0 0, .slice none 0 0, .int .i64 0] 96)) w1) := fun k hk => HB1.out.block k (by simp; omega)
  have HPB1 : Hid (w1.cell? ⟨pb, 0, none⟩ = some (.int .i64 p)) := ((below_step ((Below.refl _ _).alloc (Nat.le_refl _) _) (by simp) HB1.out).cell (p := ⟨pb, 0, none⟩) (by show pb < w.heap.size; omega)).trans HPB.out
  have HB10 : Hid (Below kb w w1) := (below_step ((Below.refl _ _).alloc (Nat.le_refl _) _) (by simp) HB1.out).mono (Nat.le_of_lt hkw)
  have hbw : w.heap.size < b := by simp at hb0; omega
  have HVR : Hid (Value.ownBlock (.slice ar m.length cr) ≠ some b) := fun e => by have := (HE.out.ro.lt b e).2; omega
  have HVP : Hid (Value.ownBlock (.slice ap m.length cp) ≠ some b) := fun e => by have := (HE.out.po.lt b e).2; omega
  have HRB : Hid (∀ i, i < m.length → RB i < w.heap.size) := fun i hi => (HE.out.rng i hi).2
  have HVR0 : Hid (Value.ownBlock (.slice ar m.length cr) ≠ some w.heap.size) := fun e => by have := (HE.out.ro.lt _ e).2; omega
  have HVP0 : Hid (Value.ownBlock (.slice ap m.length cp) ≠ some w.heap.size) := fun e => by have := (HE.out.po.lt _ e).2; omega
  clear c10 c11 c12 HO1 HB1 hb0
  go_loopw [18] (fun t wr => ∃ i : Nat, i ≤ m.length ∧ t = .int .i64 i ∧ St1 p kb c m P (.slice ar m.length cr) (.slice ap m.length cp) d RB RO RC r b o i wr ∧ Kp w.heap.size vb (w.alloc (.cells #[.slice none 0 0, .slice none 0 0, .int .i64 0] 96)) wr ∧ Below kb w1 wr) (fun t _ => m.length - (intOf t).toNat)
  case atStart => exact ⟨0, Nat.zero_le _, rfl, ⟨HE1.out, r, Red2.start HL.out HRR.out, HO2.out⟩, HBK.out, Below.refl _ _⟩
  case round =>
    obtain ⟨i, hi, rfl, ⟨hE, r', hRd, hRo⟩, hBl, hbel⟩ := hrel
    have HEi := Lib.hid hE
    have HRd := Lib.hid hRd
    have HRo := Lib.hid hRo
    have HBl := Lib.hid hBl
    have HBe := Lib.hid hbel
    have hsz := hbel.size
    clear hE hRd hRo hBl hbel
    by_cases hin : i < m.length
    · obtain ⟨g, hg, hpv, _, _⟩ := HEi.out.pivA hin
      subst hg
      obtain ⟨g2, hg2, hrw, _, _⟩ := HEi.out.readA hin
      subst hg2
      have hk0 := HEi.out.c0
      have hpb := (HBe.out.cell (p := ⟨pb, 0, none⟩) hlt).trans HPB1.out
      have hq := HK.out.pv i hin
      have hcl := HRo.out.cell (P i) hq
      obtain ⟨x0, x1⟩ := HRd.out.rng (P i) hq
      obtain ⟨q, hqe⟩ : ∃ q, q = P i := ⟨_, rfl⟩
      obtain ⟨x, hxe⟩ : ∃ x, x = num r' (P i) := ⟨_, rfl⟩
      rw [← hxe] at hcl x0 x1
      rw [← hqe] at hcl hpv hq
      have HQE := Lib.hid hqe
      have HXE := Lib.hid hxe
      have hi1 : (i : Int) < (m.length : Int) := by omega
      have hq1 : (q : Int) < (c : Int) := by omega
      have hrg := HEi.out.rng i hin
      have m0 := Int.emod_nonneg (-x) (by omega : p ≠ 0)
      have m1 := Int.emod_lt_of_pos (-x) (by omega : 0 < p)
      have HROd : Hid (RowOwn wr.drew b o c (num r')) := HRo.out.drew
      have HZL : Hid ((rw' m i).length = c) := (HM.out.kept HP.out).len i hin
      have HRI : Hid (RowIn (RB i) (RB i + 1) wr.drew (some ⟨RB i, RO i, none⟩) (rw' m i)) := (HEi.out.rowIn hin (rw' m i) HZL.out (fun j _ => rfl)).same (fun _ _ _ => rfl)
      have HZN : Hid (∀ j, j < c → 0 ≤ num (rw' m i) j ∧ num (rw' m i) j < p) := fun j hj => HK.out.rng i hin j hj
      clear hqe hxe
      go_wp2
      go_still_tail 13, (by kernel_rfl)
      still_call (oppQ p x _ HP.out x0 x1)
      repeat still_step
      try refine wpStill_nil ?_
      change wpList _ _ _ _ _ wr.drew
      obtain ⟨wd, hwd⟩ : ∃ y, y = wr.drew := ⟨_, rfl⟩
      rw [← hwd] at HROd HRI
      rw [← hwd]
      have HWD := Lib.hid hwd
      clear hwd
      go_wp2_with (go_at_call 67; (with_reducible refine (addN p (-x % p) b o c _ (num r') _ (rw' m i) c _ (RB i) (RB i + 1) _ HP.out HROd.out HRI.out (.inr (by have := HRB.out i hin; omega)) HZL.out rfl c1 HRd.out.rng HZN.out m0 (by omega)).mono ?_); rintro e w5 ⟨rfl, ho5, hw5⟩; have HO5 := Lib.hid ho5; have HW5 := Lib.hid hw5; clear ho5 hw5)
      go_roundw
      case rel =>
        have hwr : Wrote b o c wr w5 := by have := HW5.out; rw [HWD.out] at this; exact ⟨this.os, this.tape, this.output, this.size, this.block, this.cell, this.frozen⟩
        refine ⟨i + 1, by omega, by go_num, ⟨HEi.out.other (by omega) HVR.out HVP.out (fun i' hi' => by have := HRB.out i' hi'; omega) hwr, mkR c (fun j => (num r' j + -x % p * num (rw' m i) j) % p), HRd.out.next HP.out HK.out hin (mkR_len _ _) (fun j hj => ?_), HO5.out.congr (fun j hj => (num_mkR (f := fun j => (num r' j + -x % p * num (rw' m i) j) % p) hj).symm)⟩, HBl.out.step (fun k hk => hwr.block k (by omega)), HBe.out.trans (hwr.belowk (by omega))⟩
        rw [num_mkR hj, HXE.out]
        have e1 : (p - num r' (P i)) % p = -num r' (P i) % p := by simp
        rw [e1]; rfl
      case measure => simp [intOf]; omega
    · have hn : i = m.length := by omega
      subst hn
      have HRL := Lib.hid HRd.out.len
      have HRN := Lib.hid HRd.out.rng
      have HRI : Hid (RowIn b (b + 1) wr (some ⟨b, o, none⟩) r') := HRo.out.rowIn HRL.out
      have k0 := HEi.out.c0
      have k1 := HEi.out.c1
      have k2 := HEi.out.c2
      have bl := (HBl.out w.heap.size (.inl rfl)).trans (heap_alloc_new w _)
      have b0 : wr.cell? ⟨w.heap.size, 0, none⟩ = some (.slice none 0 0) := by simp [World.cell?, bl]
      have b1 : wr.cell? ⟨w.heap.size, 1, none⟩ = some (.slice none 0 0) := by simp [World.cell?, bl]
      have b2 : wr.cell? ⟨w.heap.size, 2, none⟩ = some (.int .i64 0) := by simp [World.cell?, bl]
      have f0 := free_of bl 0
      have f1 := free_of bl 1
      have f2 := free_of bl 2
      clear bl
      rcases fst_cases r' with ⟨q, hq⟩ | h0
      · have HQ := Lib.hid hq
        obtain ⟨x0, x1⟩ := HRN.out q (by rw [← HRL.out]; exact hq.1)
        have hqc : q < c := by rw [← HRL.out]; exact hq.1
        have hxn : num r' q ≠ 0 := hq.2.2
        obtain ⟨x, hxe⟩ : ∃ x, x = num r' q := ⟨_, rfl⟩
        have hcl := HRo.out.cell q hqc
        rw [← hxe] at hcl x0 x1 hxn
        have HXE := Lib.hid hxe
        have hpb := (HBe.out.cell (p := ⟨pb, 0, none⟩) hlt).trans HPB1.out
        have hx1 : 1 ≤ x := by omega
        have hq1 : (q : Int) < (c : Int) := by omega
        have hbz : b < wr.heap.size := Nat.lt_of_lt_of_le hbt hsz
        have ha1 : ∀ X, (wr.alloc X).cell? ⟨b, o + q, none⟩ = some (.int .i64 x) := fun X => (World.cell?_alloc_old _ _ _ (by show b ≠ wr.heap.size; omega)).trans hcl
        have ha2 : ∀ X, (wr.alloc X).cell? ⟨pb, 0, none⟩ = some (.int .i64 p) := fun X => (World.cell?_alloc_old _ _ _ (by show pb ≠ wr.heap.size; omega)).trans hpb
        clear hq hxe hxn
        go_wp2_with (go_at_call 117; (with_reducible refine (indexFunc_yes _ r' c q _ b (b + 1) _ HRI.out HRL.out c1 HQ.out).mono ?_); rintro e w' ⟨rfl, rfl⟩)
        go_region
        go_wp2
        obtain ⟨w2, hw2⟩ : ∃ y, y = (wr.alloc (.cells #[.int .i64 p, .int .i64 x] 90)).drew := ⟨_, rfl⟩
        have hb2 : Below wr.heap.size wr w2 := by rw [hw2]; exact ((Below.refl _ _).alloc (Nat.le_refl _) _).drew
        have hz2 : wr.heap.size < w2.heap.size := by rw [hw2]; show wr.heap.size < (wr.alloc _).heap.size; simp
        have hn2 : NumAt w2 wr.heap.size p x := by rw [hw2]; exact (numAt_new wr p x _).drew
        rw [← hw2]
        have s1 := (hb2.cell (p := ⟨pb, 0, none⟩) (by show pb < wr.heap.size; omega)).trans hpb
        have s2 := hn2.c0
        have s3 := hn2.c1
        have HN2 := Lib.hid hn2
        have HB2 := Lib.hid hb2
        have HE2 := Lib.hid (HEi.out.keep hb2)
        have HO2' : Hid (RowOwn w2.drew b o c (num r')) := (HRo.out.block (hb2.block b hbz)).drew
        have HBL2 := Lib.hid (HBl.out.step (fun k hk => hb2.block k (by omega)))
        obtain ⟨v0, v1⟩ := inv_bd HP.out x
        obtain ⟨y, hy⟩ : ∃ y, y = inv p x := ⟨_, rfl⟩
        rw [← hy] at v0 v1
        have HY := Lib.hid hy
        have fv := field_value
        clear hb2 hn2 hw2 ha1 ha2 hcl hpb k0 k1 k2 b0 b1 b2 f0 f1 f2 hy
        go_region_held3 (fun w' => w'.cell? ⟨pb, 0, none⟩ = some (.int .i64 p) ∧ w'.cell? ⟨wr.heap.size, 0, none⟩ = some (.int .i64 p) ∧ w'.cell? ⟨wr.heap.size, 1, none⟩ = some (.int .i64 x)) (first | go_keep | exact SS3.out | exact SS4.out) (first | (go_at_call 78; (with_reducible refine (inverse_any p x _ HP.out x0 x1).mono ?_); rintro e w3 ⟨rfl, hb3⟩; rw [← HY.out]; have HB3 := Lib.hid hb3; have SS3 := Lib.hid (And.intro ((hb3.cell (p := ⟨pb, 0, none⟩) (show pb < w2.heap.size by omega)).trans s1) (And.intro ((hb3.cell (p := ⟨wr.heap.size, 0, none⟩) hz2).trans s2) ((hb3.cell (p := ⟨wr.heap.size, 1, none⟩) hz2).trans s3))); have HO3 := Lib.hid (HO2'.out.block (hb3.block b (show b < w2.heap.size by omega))); clear hb3) | (go_at_call 77; (with_reducible refine (scale_any p y b o c _ (num r') _ HP.out HO3.out (by omega) HRN.out v0 (by omega)).mono ?_); rintro e w4 ⟨rfl, ho4, hw4⟩; have HO4 := Lib.hid ho4; have HW4 := Lib.hid hw4; have SS4 := Lib.hid (And.intro ((World.cell?_of_block (w := w3) (a := ⟨pb, 0, none⟩) (hw4.block pb (by omega))).trans SS3.out.1) (And.intro ((World.cell?_of_block (w := w3) (a := ⟨wr.heap.size, 0, none⟩) (hw4.block wr.heap.size (by omega))).trans SS3.out.2.1) ((World.cell?_of_block (w := w3) (a := ⟨wr.heap.size, 1, none⟩) (hw4.block wr.heap.size (by omega))).trans SS3.out.2.2))); clear ho4 hw4))
        obtain ⟨sr, hsr⟩ : ∃ z, z = mkR c (fun j => num r' j * y % p) := ⟨_, rfl⟩
        have HSR := Lib.hid hsr
        have HSL : Hid (sr.length = c) := by show _ = _; rw [hsr]; exact mkR_len _ _
        have HE3 := Lib.hid (HE2.out.drew.keep HB3.out)
        have HE4 := Lib.hid (HE3.out.other (by omega) HVR.out HVP.out (fun i' hi' => by have := HRB.out i' hi'; omega) HW4.out)
        have HS4 : Hid (RowOwn w4 b o c (num sr)) := HO4.out.congr (fun j hj => by rw [HSR.out, num_mkR hj])
        have HSN : Hid (∀ j, j < c → 0 ≤ num sr j ∧ num sr j < p) := fun j hj => by rw [HSR.out, num_mkR hj]; exact mod_bd HP.out _
        have hz3 : w2.heap.size ≤ w3.heap.size := HB3.out.size
        have hz4 : w3.heap.size ≤ w4.heap.size := Nat.le_of_eq HW4.out.size.symm
        have HN4 : Hid (NumAt w4 wr.heap.size p x) := (HN2.out.drew.keep HB3.out hz2).block (HW4.out.block _ (by omega))
        have HBL4 : Hid (Kp w.heap.size vb (w.alloc (.cells #[.slice none 0 0, .slice none 0 0, .int .i64 0] 96)) w4) := (HBL2.out.step (fun k hk => HB3.out.block k (show k < w2.heap.size by omega))).step (fun k hk => HW4.out.block k (by omega))
        have HBe4 : Hid (Below kb w1 w4) := ((HBe.out.trans (HB2.out.mono (by omega))).trans ((((Below.refl w2.heap.size w2).drew).trans HB3.out).mono (by omega))).trans (HW4.out.belowk (by omega))
        have k0 := HE4.out.c0
        clear s1 s2 s3 hsr
        go_wp2
        go_loopw [58] (fun t wv => ∃ i : Nat, i ≤ m.length ∧ t = .int .i64 i ∧ EchM wv kb c m.length m.length (zstep p m sr q i) P (.slice ar m.length cr) (.slice ap m.length cp) d RB RO RC ∧ RowOwn wv b o c (num sr) ∧ NumAt wv wr.heap.size p x ∧ Kp w.heap.size vb (w.alloc (.cells #[.slice none 0 0, .slice none 0 0, .int .i64 0] 96)) wv ∧ Below kb w4 wv) (fun t _ => m.length - (intOf t).toNat)
        case atStart => exact ⟨0, Nat.zero_le _, rfl, HE4.out, HS4.out, HN4.out, HBL4.out, Below.refl _ _⟩
        case round =>
          obtain ⟨i, hi, rfl, hE, hS, hN, hBl, hbel⟩ := hrel
          have HEv := Lib.hid hE
          have HSv := Lib.hid hS
          have HNv := Lib.hid hN
          have HBlv := Lib.hid hBl
          have HBev := Lib.hid hbel
          have hszv := hbel.size
          rename World => wv
          clear hE hS hN hBl hbel k0
          by_cases hin : i < m.length
          · obtain ⟨g2, hg2, hrw, _, _⟩ := HEv.out.readA hin
            subst hg2
            have k0 := HEv.out.c0
            have hpb := (HBev.out.cell (p := ⟨pb, 0, none⟩) hlt).trans SS4.out.1
            have hcl := (HEv.out.row i hin).cell q hqc
            rw [zstep_at] at hcl
            obtain ⟨z0, z1⟩ := HK.out.rng i hin q hqc
            obtain ⟨z, hze⟩ : ∃ z, z = at' m i q := ⟨_, rfl⟩
            rw [← hze] at hcl z0 z1
            have HZE := Lib.hid hze
            have hi1 : (i : Int) < (m.length : Int) := by omega
            have hrg := HEv.out.rng i hin
            have hrb := HRB.out i hin
            have hrv := HVB.out.2.2 i hin
            have m0 := Int.emod_nonneg (-z) (by omega : p ≠ 0)
            have m1 := Int.emod_lt_of_pos (-z) (by omega : 0 < p)
            have HROd : Hid (RowOwn wv.drew (RB i) (RO i) c (at' m i)) := by have h := HEv.out.row i hin; rw [zstep_at] at h; exact h.drew
            have HRId : Hid (RowIn b (b + 1) wv.drew (some ⟨b, o, none⟩) sr) := (HSv.out.rowIn HSL.out).same (fun _ _ _ => rfl)
            have HZN : Hid (∀ j, j < c → 0 ≤ at' m i j ∧ at' m i j < p) := fun j hj => HK.out.rng i hin j hj
            clear hze
            go_wp2
            go_still_tail 9, (by kernel_rfl)
            still_call (oppQ p z _ HP.out z0 z1)
            repeat still_step
            try refine wpStill_nil ?_
            change wpList _ _ _ _ _ wv.drew
            obtain ⟨wd, hwd⟩ : ∃ y, y = wv.drew := ⟨_, rfl⟩
            rw [← hwd] at HROd HRId
            rw [← hwd]
            have HWD := Lib.hid hwd
            clear hwd
            go_wp2_with (go_at_call 67; (with_reducible refine (addN p (-z % p) (RB i) (RO i) c _ (at' m i) _ sr c _ b (b + 1) _ HP.out HROd.out HRId.out (.inl (by omega)) HSL.out rfl c1 HZN.out HSN.out m0 (by omega)).mono ?_); rintro e w5 ⟨rfl, ho5, hw5⟩; have HO5 := Lib.hid ho5; have HW5 := Lib.hid hw5; clear ho5 hw5)
            go_roundw
            case rel =>
              have hwr : Wrote (RB i) (RO i) c wv w5 := by have := HW5.out; rw [HWD.out] at this; exact ⟨this.os, this.tape, this.output, this.size, this.block, this.cell, this.frozen⟩
              exact ⟨i + 1, by omega, by go_num, (HEv.out.wrote hin HO5.out hwr).congr (fun i' _ j _ => congrFun (zstep_next p m sr q i z HZE.out i') j), HSv.out.block (hwr.block _ (by omega)), HNv.out.block (hwr.block _ (by omega)), HBlv.out.step (fun k hk => hwr.block k (by omega)), HBev.out.trans (hwr.belowk (by omega))⟩
            case measure => simp [intOf]; omega
          · have hn : i = m.length := by omega
            subst hn
            have k0 := HEv.out.c0
            have k1 := HEv.out.c1
            have HPI : Hid (IntsIn (kb + 1) wv.heap.size wv ap m.length P) := by
              by_cases h0 : 0 < m.length
              · obtain ⟨g, hg, _, hg1, hg2⟩ := HEv.out.pivA h0
                refine .inr ⟨g, 0, hg, by omega, hg2, fun j hj => ?_⟩
                obtain ⟨g', hg', hc, _, _⟩ := HEv.out.pivA hj
                have : g' = g := by rw [hg] at hg'; injection hg' with h; injection h with h1; exact h1.symm
                subst this
                rw [Nat.zero_add]; exact hc
              · exact .inl (by omega)
            have HPN : Hid (∀ i, i < m.length → P i ≠ q) := fun i hi e => by
              have := HRd.out.zer i hi
              rw [e, ← HXE.out] at this; omega
            have HVz : Hid (∀ z, w.heap.size ≤ z → Value.ownBlock (.slice ar m.length cr) ≠ some z ∧ Value.ownBlock (.slice ap m.length cp) ≠ some z) := fun z hz => ⟨fun e => by have := (HE.out.ro.lt _ e).2; omega, fun e => by have := (HE.out.po.lt _ e).2; omega⟩
            obtain ⟨d0, d1⟩ := HM.out.det HP.out
            have hkf : kb ≠ wr.heap.size := by omega
            go_wp2_with (first | (go_at_call 119; (with_reducible refine (search_any ap m.length _ (kb + 1) wv.heap.size q P _ HPI.out (by omega) (by omega) (fun i hi => by have := HK.out.pv i hi; omega) HK.out.mono HPN.out).mono ?_); rintro e w6 ⟨t, rfl, hq6, ht0, ht1, ht2⟩; have HQ6 := Lib.hid hq6; have HT1 := Lib.hid ht1; have HT2 := Lib.hid ht2; have hz6 : wv.heap.size ≤ w6.heap.size := Nat.le_of_eq hq6.size.symm; have HE6 := Lib.hid (HEv.out.keep (hq6.below _)); have HN6 := Lib.hid (HNv.out.keep (hq6.below _) (by omega)); have HS6 := Lib.hid (HSv.out.block ((hq6.below wv.heap.size).block b (by omega))); have HBL6 := Lib.hid (HBlv.out.step (fun k hk => (hq6.below wv.heap.size).block k (by omega))); have HB6 := Lib.hid (((((HB10.out.trans HBe4.out)).trans HBev.out)).trans (hq6.below kb)); have p6 := (((HBev.out.trans (hq6.below kb))).cell (p := ⟨pb, 0, none⟩) hlt).trans SS4.out.1; have k60 := HE6.out.c0; have k61 := HE6.out.c1; have k62 := HE6.out.c2; have k6f := HE6.out.fz 2; have n61 := HN6.out.c1; have n6f := HN6.out.f1; clear ht1 ht2 k0 k1; by_cases hpar : (m.length - t) % 2 = 0; (have hbp : (((m.length : Int) - (t : Int)) % 2 != 0) = false := (by simp; omega); have HSG : Hid (esgn p m.length t x = x) := (by show _ = _; unfold esgn; rw [if_pos hpar]); have HA := Lib.hid HE6.out; have hzA : w6.heap.size = w6.heap.size := rfl; have HSA := Lib.hid HS6.out; have HLA := Lib.hid HBL6.out; have HBA := Lib.hid HB6.out; have m0 : 0 ≤ d * x := Int.mul_nonneg d0 (by omega); have m1 : d * x ≤ 13 * 13 := Int.le_trans (Int.mul_le_mul_of_nonneg_right (by omega : d ≤ 13) (by omega)) (Int.mul_le_mul_of_nonneg_left (by omega) (by omega)); have HC := Lib.hid (HA.out.pre hzA (d * x % p) (.slice (some ⟨b, o, none⟩) c kc) 22); have HSC := Lib.hid (HSA.out.block (HC.out.2.2.2.2 b (by omega) (by omega))); have HLC := Lib.hid (HLA.out.step (fun k hk => HC.out.2.2.2.2 k (by omega) (by omega))); have HBC := Lib.hid (HBA.out.trans HC.out.2.2.2.1); have hzC : ((w6.setCell ⟨kb, 2, none⟩ (.int .i64 (d * x % p))).alloc (.cells #[.slice (some ⟨b, o, none⟩) c kc] 22)).heap.size ≤ w6.heap.size + 1 ∧ w6.heap.size + 1 ≤ ((w6.setCell ⟨kb, 2, none⟩ (.int .i64 (d * x % p))).alloc (.cells #[.slice (some ⟨b, o, none⟩) c kc] 22)).heap.size := ⟨Nat.le_of_eq HC.out.2.2.1, Nat.le_of_eq HC.out.2.2.1.symm⟩; have e1 : IntKind.i64.wrap (d * x) = d * x := wrap_small m0 m1; have e3 : (d * x).tmod p = d * x % p := Int.tmod_eq_emod_of_nonneg m0; clear hpar hq6 hzA); rotate_left; (have hbp : (((m.length : Int) - (t : Int)) % 2 != 0) = true := (by simp; omega); have HSG : Hid (esgn p m.length t x = (-x % p)) := (by show _ = _; unfold esgn; rw [if_neg hpar]); have y0 := Int.emod_nonneg (-x) (by omega : p ≠ 0); have y1 := Int.emod_lt_of_pos (-x) (by omega : 0 < p); have HA := Lib.hid (HE6.out.far wr.heap.size 1 (.int .i64 (-x % p)) hkf (HVz.out _ (by omega)).1 (HVz.out _ (by omega)).2 (fun i hi => by have := HRB.out i hi; omega)); have hzA : (w6.setCell ⟨wr.heap.size, 1, none⟩ (.int .i64 (-x % p))).heap.size = w6.heap.size := (by simp [World.setCell]); have HSA := Lib.hid (HS6.out.far wr.heap.size 1 (.int .i64 (-x % p)) (by omega)); have HLA := Lib.hid (HBL6.out.step (fun k hk => Below.heap_setCell w6 ⟨wr.heap.size, 1, none⟩ (.int .i64 (-x % p)) k (show k ≠ wr.heap.size by omega))); have HBA := Lib.hid (Below.setCell HB6.out (show kb ≤ (⟨wr.heap.size, 1, none⟩ : Addr).block by show kb ≤ wr.heap.size; omega) (.int .i64 (-x % p))); have ka0 := HA.out.c0; have ka1 := HA.out.c1; have ka2 := HA.out.c2; have kaf := HA.out.fz 2; have kan : (w6.setCell ⟨wr.heap.size, 1, none⟩ (.int .i64 (-x % p))).cell? ⟨wr.heap.size, 1, none⟩ = some (.int .i64 (-x % p)) := World.cell?_setCell_same w6 _ _ HN6.out.c1; have kap : (w6.setCell ⟨wr.heap.size, 1, none⟩ (.int .i64 (-x % p))).cell? ⟨pb, 0, none⟩ = some (.int .i64 p) := (World.cell?_setCell_other _ _ _ _ (fun e => by injection e with e1; omega)).trans p6; have m0 : 0 ≤ d * (-x % p) := Int.mul_nonneg d0 (by omega); have m1 : d * (-x % p) ≤ 13 * 13 := Int.le_trans (Int.mul_le_mul_of_nonneg_right (by omega : d ≤ 13) (by omega)) (Int.mul_le_mul_of_nonneg_left (by omega) (by omega)); have HC := Lib.hid (HA.out.pre hzA (d * (-x % p) % p) (.slice (some ⟨b, o, none⟩) c kc) 22); have HSC := Lib.hid (HSA.out.block (HC.out.2.2.2.2 b (by omega) (by omega))); have HLC := Lib.hid (HLA.out.step (fun k hk => HC.out.2.2.2.2 k (by omega) (by omega))); have HBC := Lib.hid (HBA.out.trans HC.out.2.2.2.1); have hzC : (((w6.setCell ⟨wr.heap.size, 1, none⟩ (.int .i64 (-x % p))).setCell ⟨kb, 2, none⟩ (.int .i64 (d * (-x % p) % p))).alloc (.cells #[.slice (some ⟨b, o, none⟩) c kc] 22)).heap.size ≤ w6.heap.size + 1 ∧ w6.heap.size + 1 ≤ (((w6.setCell ⟨wr.heap.size, 1, none⟩ (.int .i64 (-x % p))).setCell ⟨kb, 2, none⟩ (.int .i64 (d * (-x % p) % p))).alloc (.cells #[.slice (some ⟨b, o, none⟩) c kc] 22)).heap.size := ⟨Nat.le_of_eq HC.out.2.2.1, Nat.le_of_eq HC.out.2.2.1.symm⟩; have e1 : IntKind.i64.wrap (d * (-x % p)) = d * (-x % p) := wrap_small m0 m1; have e3 : (d * (-x % p)).tmod p = d * (-x % p) % p := Int.tmod_eq_emod_of_nonneg m0; clear hpar hq6 hzA); rotate_left) | (go_at_call 82; (with_reducible refine (opposite_any p x _ HP.out x0 x1).mono ?_); rintro e w' ⟨rfl, rfl⟩) | (go_at_call 120; (with_reducible refine (insertM_any (kb + 1) m.length t w6.heap.size _ (.slice ar m.length cr) (.slice (some ⟨b, o, none⟩) c kc) (rowsV c RB RO RC m.length) _ HC.out.1.ro (by omega) ht0 (by omega) HC.out.2.1 (HVz.out _ (by omega)).1 rfl rowsV_one).mono ?_); rintro e w7 ⟨g7, q7, rfl, ho7, hg7, ha7⟩; clear e1 e3; have HG7 := Lib.hid ha7; have hg70 : g7 ≠ w.heap.size := fun e => ha7.elim (fun h => HVR0.out (e ▸ h)) (fun h => (by omega)); have hz7 := hg7.size; have HD := Lib.hid (HC.out.1.insR ht0 HSC.out (by omega) (by omega) (fun i hi => by have := HRB.out i hi; omega) HVR.out HVP.out ho7 hg7 ha7 hkc); obtain ⟨k70, k71, k72, k7f, k7g⟩ := HC.out.1.at7 hg7 (not_kb HC.out.1.ro); have HL7 := Lib.hid (HLC.out.step (fun k hk => hg7.block k (by omega) (fun q => hk.elim (fun e => HVR0.out (e ▸ q.symm)) (fun e => HVB.out.1 (e ▸ q.symm))))); have HB7 := Lib.hid (HBC.out.trans (grown_belowk hg7 (fun g hg => by have := (HC.out.1.ro.lt g hg).1; omega) (by omega))); clear ho7 hg7 ha7) | (go_at_call 121; have HG := Lib.hid (HD.out.keep ((Below.refl _ _).alloc (Nat.le_refl _) (.cells #[.int .i64 (q : Int)] 3))); (with_reducible refine (insertI_any (kb + 1) m.length t w7.heap.size _ (.slice ap m.length cp) (.int .i64 q) (pivsV P m.length) _ HG.out.po (Nat.succ_le_of_lt HG.out.lt) ht0 (by omega) (new_set w7 kb 0 _ _ _) (HVz.out _ (by omega)).2 rfl pivsV_one).mono ?_); rintro e w8 ⟨g8, q8, rfl, ho8, hg8, ha8⟩; have hzE := (Array.getElem?_eq_some_iff.1 (new_set w7 kb 0 (.slice (some ⟨g7, 0, none⟩) (m.length + 1) q7) (.int .i64 (q : Int)) 3)).1; have hg80 : g8 ≠ w.heap.size := fun e => ha8.elim (fun h => HVP0.out (e ▸ h)) (fun h => (by omega)); have HH := Lib.hid (HG.out.insP ht0 ho8 hg8 ha8); obtain ⟨k80, k81, k82, k8f, k8g⟩ := HG.out.at7 hg8 (not_kb HG.out.po); have HB8 := Lib.hid (((HB7.out.setCell (show kb ≤ (⟨kb, 0, none⟩ : Addr).block from Nat.le_refl _) _).alloc (Nat.le_of_lt HD.out.lt) _).trans (grown_belowk hg8 (fun g hg => by have := (HG.out.po.lt g hg).1; omega) (Nat.le_of_lt HG.out.lt))); have HL8 := Lib.hid ((HL7.out.step (fun k hk => old_set w7 kb 0 k (.slice (some ⟨g7, 0, none⟩) (m.length + 1) q7) (.cells #[.int .i64 (q : Int)] 3) (by omega) (by omega))).step (fun k hk => hg8.block k (by omega) (fun q => hk.elim (fun e => HVP0.out (e ▸ q.symm)) (fun e => HVB.out.2.1 (e ▸ q.symm))))); obtain ⟨b0, b1, b2, f0, f1, f2⟩ := res_cells ((HL8.out w.heap.size (.inl rfl)).trans (heap_alloc_new w _)); have hg7v : g7 ≠ vb := fun e => HG7.out.elim (fun h => HVB.out.1 (e ▸ h)) (fun h => (by omega)); have hg8v : g8 ≠ vb := fun e => ha8.elim (fun h => HVB.out.2.1 (e ▸ h)) (fun h => (by omega)); clear ho8 hg8 ha8))
            all_goals
              have HTK : Hid (Took p c m P r r' sr (mk m.length c (zstep p m sr q m.length)) q t) := {
                rl := HL.out
                red := HRd.out
                qc := hqc
                q0 := by rw [← HXE.out]; omega
                ql := HQ.out.2.1
                ss := fun j hj => by rw [HSR.out, num_mkR hj, HY.out, HXE.out]
                sl := HSL.out
                ml := mk_len _ _ _
                mc := fun i hi => mk_rowLen _ hi
                mr := fun i hi j hj => by
                  rw [mk_at _ hi hj]
                  have e : (p - at' m i q) % p = -at' m i q % p := by simp
                  unfold zstep
                  rw [if_pos hi, e]
                tn := ht0
                tl := HT1.out
                tr := HT2.out }
              have HX1 : Hid (Value.ownBlock (.slice (some ⟨g7, 0, none⟩) (m.length + 1) q7) ≠ some w.heap.size) := fun e => hg70 (by simpa [Value.ownBlock] using e)
              have HX2 : Hid (Value.ownBlock (.slice (some ⟨g8, 0, none⟩) (m.length + 1) q8) ≠ some w.heap.size) := fun e => hg80 (by simpa [Value.ownBlock] using e)
              have HX3 : Hid (∀ i, i < m.length + 1 → insF RB t b i ≠ w.heap.size) := fun i hi => by
                unfold insF
                by_cases e : i = t
                · rw [if_pos e]; omega
                · rw [if_neg e]; have := HRB.out _ (old_lt hi e ht0); omega
              have HBF := Lib.hid (Below.setCell HB8.out (show kb ≤ (⟨kb, 1, none⟩ : Addr).block from Nat.le_refl _) (.slice (some ⟨g8, 0, none⟩) (m.length + 1) q8))
              have hkw2 : kb ≠ w.heap.size := by omega
              have HKV : Hid (∀ u v y : Value, ((((w8.setCell ⟨kb, 1, none⟩ (.slice (some ⟨g8, 0, none⟩) (m.length + 1) q8)).setCell ⟨w.heap.size, 0, none⟩ u).setCell ⟨w.heap.size, 1, none⟩ v).setCell ⟨w.heap.size, 2, none⟩ y).heap[vb]? = w.heap[vb]?) := fun u v y =>
                (res_other _ _ _ _ (by omega)).trans ((Below.heap_setCell _ _ _ _ (show vb ≠ kb by omega)).trans ((HL8.out vb (.inr rfl)).trans (Below.heap_alloc _ _ _ hvw)))
              have HAV : Hid (Apt vb (m.length + 1) (.slice (some ⟨g7, 0, none⟩) (m.length + 1) q7) (.slice (some ⟨g8, 0, none⟩) (m.length + 1) q8) (insF RB t b)) := ⟨fun e => hg7v (by simpa [Value.ownBlock] using e), fun e => hg8v (by simpa [Value.ownBlock] using e), fun i hi => by
                unfold insF
                by_cases e : i = t
                · rw [if_pos e]; omega
                · rw [if_neg e]; exact HVB.out.2.2 _ (old_lt hi e ht0)⟩
            · exact bodyPost_ret (v := .agg #[.slice (some ⟨g7, 0, none⟩) (m.length + 1) q7, .slice (some ⟨g8, 0, none⟩) (m.length + 1) q8, .int .i64 (d * x % p)]) (by simp [results, Tryz.results115, go_sem, b0, b1, b2]) rfl
                (taken_of (((HH.out.far _ _ _ hkw2 HX1.out HX2.out HX3.out).far _ _ _ hkw2 HX1.out HX2.out HX3.out).far _ _ _ hkw2 HX1.out HX2.out HX3.out) HM.out HTK.out (by rw [← HXE.out, HSG.out]) (below_res HBF.out (by omega) _ _ _) (HKV.out _ _ _) HAV.out)
            · exact bodyPost_ret (v := .agg #[.slice (some ⟨g7, 0, none⟩) (m.length + 1) q7, .slice (some ⟨g8, 0, none⟩) (m.length + 1) q8, .int .i64 (d * (-x % p) % p)]) (by simp [results, Tryz.results115, go_sem, b0, b1, b2]) rfl
                (taken_of (((HH.out.far _ _ _ hkw2 HX1.out HX2.out HX3.out).far _ _ _ hkw2 HX1.out HX2.out HX3.out).far _ _ _ hkw2 HX1.out HX2.out HX3.out) HM.out HTK.out (by rw [← HXE.out, HSG.out]) (below_res HBF.out (by omega) _ _ _) (HKV.out _ _ _) HAV.out)
      · have H0 := Lib.hid h0
        have HF : Hid (Taken p kb c vb A r w (.returned (.agg #[.slice ar m.length cr, .slice ap m.length cp, .int .i64 d])) (((wr.setCell ⟨w.heap.size, 0, none⟩ (.slice ar m.length cr)).setCell ⟨w.heap.size, 1, none⟩ (.slice ap m.length cp)).setCell ⟨w.heap.size, 2, none⟩ (.int .i64 d))) := by
          refine ⟨m, P, d, ar, ap, cr, cp, RB, RO, RC, rfl, ?_, Elm.same HM.out HL.out HRd.out (fun j hj => h0 j (by rw [HRL.out]; exact hj)), below_res (HB10.out.trans HBe.out) (by omega) _ _ _, (res_other _ _ _ _ (by omega)).trans ((HBl.out vb (.inr rfl)).trans (Below.heap_alloc _ _ _ hvw)), HVB.out⟩
          have h3 : ∀ i, i < m.length → RB i ≠ w.heap.size := fun i hi => Nat.ne_of_lt (HRB.out i hi)
          exact ((HEi.out.far _ _ _ (by omega) HVR0.out HVP0.out h3).far _ _ _ (by omega) HVR0.out HVP0.out h3).far _ _ _ (by omega) HVR0.out HVP0.out h3
        clear h0
        go_wp2_with (go_at_call 117; (with_reducible refine (indexFunc_no _ r' c _ b (b + 1) _ HRI.out HRL.out c1 H0.out).mono ?_); rintro e w' ⟨rfl, rfl⟩)
        exact bodyPost_ret (v := .agg #[.slice ar m.length cr, .slice ap m.length cp, .int .i64 d]) (by simp [results, Tryz.results115, go_sem, b0, b1, b2]) rfl HF.out

end Go.Proofs.YtkibkkdeaojjoabGreat
