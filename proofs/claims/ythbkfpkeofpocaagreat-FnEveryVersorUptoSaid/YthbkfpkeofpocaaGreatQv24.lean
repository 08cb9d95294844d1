/-
  Reflections (program): contracts of the program and of the model.
  Conditions: the lists are nil or rows of known cells, of at most 1048576 numbers.
-/
import Derived.Test.YthbkfpkeofpocaaGreatQv22
import Derived.Test.YthbkfpkeofpocaaGreatQv23
import Derived.Test.YthbkfpkeofpocaaGreatQv5
import Derived.Deep.RegionHeld3
import Derived.Deep.DeepCutAuto
namespace Go.Proofs.YthbkfpkeofpocaaGreat
open Go.RowKit
set_option linter.unusedVariables false

/-- What holds behind the boxes of a reflection and of its space. -/
structure DR7 (w : World) (gs : Nat) (p : Int) (aS : Option Addr) (n cS : Nat) (au : Option Addr) (l cu : Nat) (W : World) : Prop where
  box : BoxV w.heap.size gs p aS n cS au l cu W
  bel : Below w.heap.size w W
  hd : w.heap.size < W.heap.size ∧ gs < W.heap.size
structure DRN (w : World) (gs : Nat) (p : Int) (aS : Option Addr) (n cS : Nat) (au : Option Addr) (l cu : Nat) (bf : Nat) (W : World) : Prop extends DR7 w gs p aS n cS au l cu W where
  c0 : W.cell? ⟨bf, 0, none⟩ = some (.int .i64 0)
  c1 : W.cell? ⟨bf, 1, none⟩ = some (.int .i64 0)
  y0 : W.frozen? ⟨bf, 0, none⟩ = false
  y1 : W.frozen? ⟨bf, 1, none⟩ = false
  lb : bf < W.heap.size
  lw : w.heap.size < bf ∧ gs < bf
theorem DR7.call {w W W' : World} {gs : Nat} {p : Int} {aS : Option Addr} {n cS : Nat} {au : Option Addr} {l cu : Nat} (h : DR7 w gs p aS n cS au l cu W) (b : Below W.heap.size W W') : DR7 w gs p aS n cS au l cu W' :=
  ⟨h.box.below b h.hd, below_step h.bel (Nat.le_of_lt h.hd.1) b, Nat.lt_of_lt_of_le h.hd.1 b.size, Nat.lt_of_lt_of_le h.hd.2 b.size⟩
theorem DR7.alloc {w W : World} {gs : Nat} {p : Int} {aS : Option Addr} {n cS : Nat} {au : Option Addr} {l cu : Nat} (h : DR7 w gs p aS n cS au l cu W) (o : Obj) : DR7 w gs p aS n cS au l cu (W.alloc o) := h.call (below_alloc W o)
theorem DR7.allocn {w W : World} {gs : Nat} {p : Int} {aS : Option Addr} {n cS : Nat} {au : Option Addr} {l cu : Nat} (h : DR7 w gs p aS n cS au l cu W) (T : TypeId) : DRN w gs p aS n cS au l cu W.heap.size (W.alloc (.cells #[.int .i64 0, .int .i64 0] T)) :=
  { h.alloc (.cells #[.int .i64 0, .int .i64 0] T) with c0 := by simp [go_sem], c1 := by simp [go_sem], y0 := by simp [go_sem], y1 := by simp [go_sem], lb := lt_alloc W _, lw := h.hd }
theorem DRN.call {w W W' : World} {gs bf : Nat} {p : Int} {aS : Option Addr} {n cS : Nat} {au : Option Addr} {l cu : Nat} (h : DRN w gs p aS n cS au l cu bf W) (b : Below W.heap.size W W') : DRN w gs p aS n cS au l cu bf W' :=
  { h.toDR7.call b with c0 := (b.cell (p := ⟨bf, 0, none⟩) h.lb).trans h.c0, c1 := (b.cell (p := ⟨bf, 1, none⟩) h.lb).trans h.c1, y0 := (b.frozen (p := ⟨bf, 0, none⟩) h.lb).trans h.y0, y1 := (b.frozen (p := ⟨bf, 1, none⟩) h.lb).trans h.y1, lb := Nat.lt_of_lt_of_le h.lb b.size, lw := h.lw }
theorem BoxV.put {g gs b o : Nat} {p : Int} {aS ax : Option Addr} {n cS l cx : Nat} {w : World} {v : Value} (h : BoxV g gs p aS n cS ax l cx w) (h1 : g ≠ b) (h2 : gs ≠ b) : BoxV g gs p aS n cS ax l cx (w.setCell ⟨b, o, none⟩ v) := by
  have e : ∀ j, (w.setCell ⟨b, o, none⟩ v).cell? ⟨g, j, none⟩ = w.cell? ⟨g, j, none⟩ := fun j => World.cell?_setCell_other w ⟨b, o, none⟩ ⟨g, j, none⟩ v (fun e => h1 (by injection e with e1; exact e1.symm))
  have e2 : ∀ j, (w.setCell ⟨b, o, none⟩ v).cell? ⟨gs, j, none⟩ = w.cell? ⟨gs, j, none⟩ := fun j => World.cell?_setCell_other w ⟨b, o, none⟩ ⟨gs, j, none⟩ v (fun e => h2 (by injection e with e1; exact e1.symm))
  exact ⟨(e 0).trans h.1, (e 1).trans h.2.1, (e 2).trans h.2.2.1, (e2 0).trans h.2.2.2.1, (e2 1).trans h.2.2.2.2⟩
theorem DRN.put {w W : World} {gs bf : Nat} {p : Int} {aS : Option Addr} {n cS : Nat} {au : Option Addr} {l cu : Nat} (h : DRN w gs p aS n cS au l cu bf W) (u v : Value) : DR7 w gs p aS n cS au l cu ((W.setCell ⟨bf, 0, none⟩ u).setCell ⟨bf, 1, none⟩ v) :=
  ⟨(h.box.put (Nat.ne_of_lt h.lw.1) (Nat.ne_of_lt h.lw.2)).put (Nat.ne_of_lt h.lw.1) (Nat.ne_of_lt h.lw.2), (h.bel.setCell (Nat.le_of_lt h.lw.1) _).setCell (Nat.le_of_lt h.lw.1) _, by simpa [World.setCell] using h.hd⟩
/-- Behind the factor: its block holds p and K. -/
structure DRE (w : World) (gs : Nat) (p : Int) (aS : Option Addr) (n cS : Nat) (au : Option Addr) (l cu : Nat) (bf : Nat) (K : Int) (W : World) : Prop extends DR7 w gs p aS n cS au l cu W where
  c0 : W.cell? ⟨bf, 0, none⟩ = some (.int .i64 p)
  c1 : W.cell? ⟨bf, 1, none⟩ = some (.int .i64 K)
  lb : bf < W.heap.size
theorem DRN.done {w W : World} {gs bf : Nat} {p K : Int} {aS : Option Addr} {n cS : Nat} {au : Option Addr} {l cu : Nat} (h : DRN w gs p aS n cS au l cu bf W) : DRE w gs p aS n cS au l cu bf K ((W.setCell ⟨bf, 0, none⟩ (.int .i64 p)).setCell ⟨bf, 1, none⟩ (.int .i64 K)) :=
  { h.put (.int .i64 p) (.int .i64 K) with
    c0 := (World.cell?_setCell_other _ _ _ _ (by simp)).trans (World.cell?_setCell_same W _ _ h.c0)
    c1 := World.cell?_setCell_same _ _ _ ((World.cell?_setCell_other _ _ _ _ (by simp)).trans h.c1)
    lb := by simpa [World.setCell] using h.lb }
theorem DR7.done {w W : World} {gs : Nat} {p K : Int} {aS : Option Addr} {n cS : Nat} {au : Option Addr} {l cu : Nat} (h : DR7 w gs p aS n cS au l cu W) (T : TypeId) : DRE w gs p aS n cS au l cu W.heap.size K (W.alloc (.cells #[.int .i64 p, .int .i64 K] T)) :=
  { h.alloc (.cells #[.int .i64 p, .int .i64 K] T) with c0 := by simp [go_sem], c1 := by simp [go_sem], lb := lt_alloc W _ }
theorem DRE.call {w W W' : World} {gs bf : Nat} {p K : Int} {aS : Option Addr} {n cS : Nat} {au : Option Addr} {l cu : Nat} (h : DRE w gs p aS n cS au l cu bf K W) (b : Below W.heap.size W W') : DRE w gs p aS n cS au l cu bf K W' :=
  { h.toDR7.call b with c0 := (b.cell (p := ⟨bf, 0, none⟩) h.lb).trans h.c0, c1 := (b.cell (p := ⟨bf, 1, none⟩) h.lb).trans h.c1, lb := Nat.lt_of_lt_of_le h.lb b.size }
/-- What the reflection in u makes of v. -/
def rflM (p : Int) (S u v : List Int) : List Int := plusR p v u (rfK p (pairN p S u v) (pairN p S u u))
theorem pairN_bd7 {p : Int} {S u v : List Int} (hp : 0 < p) : 0 ≤ pairN p S u v ∧ pairN p S u v < p := ⟨Int.emod_nonneg _ (by omega), Int.emod_lt_of_pos _ hp⟩

theorem pairD (w : World) (gs : Nat) (pS : Int) (aS : Option Addr) (S : List Int) (cS : Nat) (au : Option Addr) (u : List Int) (cu : Nat) (loS tpS : Nat) (av : Option Addr) (v : List Int) (cv lov tpv lou tpu : Nat) (hs : isSp pS S = true) (hS : RowIn loS tpS w aS S) (tS : tpS ≤ w.heap.size) (hu : RowIn lou tpu w au u) (tu : tpu ≤ w.heap.size) (mu : isVec pS S.length u = true) (hv : RowIn lov tpv w av v) (tv : tpv ≤ w.heap.size) (mv : isVec pS S.length v = true) (W : World) (d : DR7 w gs pS aS S.length cS au u.length cu W) :
    Calls Tryz.prog 39 #[.agg #[.int .i64 pS, .slice aS S.length cS], .slice au u.length cu, .slice av v.length cv] W fun e w' => e = .returned (.int .i64 (pairN pS S u v)) ∧ Below W.heap.size W w' :=
  pair_any pS aS S cS loS tpS au u cu lou tpu av v cv lov tpv W (hS.below d.bel tS) (Nat.le_trans tS d.bel.size) (hu.below d.bel tu) (Nat.le_trans tu d.bel.size) (hv.below d.bel tv) (Nat.le_trans tv d.bel.size) hs mu mv
theorem normD (w : World) (gs : Nat) (pS : Int) (aS : Option Addr) (S : List Int) (cS : Nat) (au : Option Addr) (u : List Int) (cu : Nat) (loS tpS lou tpu : Nat) (hs : isSp pS S = true) (hS : RowIn loS tpS w aS S) (tS : tpS ≤ w.heap.size) (hu : RowIn lou tpu w au u) (tu : tpu ≤ w.heap.size) (mu : isVec pS S.length u = true) (W : World) (d : DR7 w gs pS aS S.length cS au u.length cu W) :
    Calls Tryz.prog 15 #[.agg #[.int .i64 pS, .slice aS S.length cS], .slice au u.length cu] W fun e w' => e = .returned (.int .i64 (pairN pS S u u)) ∧ Below W.heap.size W w' :=
  norm_any pS aS S cS loS tpS au u cu lou tpu W (hS.below d.bel tS) (Nat.le_trans tS d.bel.size) (hu.below d.bel tu) (Nat.le_trans tu d.bel.size) hs mu
theorem remD (p n : Int) (W : World) (hp : prm p = true) (n0 : -100 ≤ n) (n1 : n ≤ 100) :
    Calls Tryz.prog 67 #[.int .i64 p, .int .i64 n] W fun e w' => e = .returned (.agg #[.int .i64 p, .int .i64 (n % p)]) ∧ Below W.heap.size W w' := remainderOf_any p n W hp (by omega) (by omega)

set_option maxRecDepth 100000 in
set_option maxHeartbeats 6400000 in
theorem reflect_own (pS : Int) (aS : Option Addr) (S : List Int) (cS loS tpS : Nat) (au : Option Addr) (u : List Int) (cu lou tpu : Nat) (av : Option Addr) (v : List Int) (cv lov tpv : Nat) (w : World) (hs : isSp pS S = true) (hS : RowIn loS tpS w aS S) (tS : tpS ≤ w.heap.size) (hu : RowIn lou tpu w au u) (tu : tpu ≤ w.heap.size) (mu : isVec pS S.length u = true) (hv : RowIn lov tpv w av v) (tv : tpv ≤ w.heap.size) (mv : isVec pS S.length v = true) :
    Calls Tryz.prog 81 #[.agg #[.int .i64 pS, .slice aS S.length cS, .slice au u.length cu], .slice av v.length cv] w (OwnE (rflM pS S u v) w) := by
  have HI := Lib.hid hs
  have HS := Lib.hid hS
  have Hu := Lib.hid hu
  have HVU := Lib.hid mu
  have Hv := Lib.hid hv
  have HVV := Lib.hid mv
  have h6 := (isSp_iff.1 hs).hi
  have hl1 := (isSp_iff.1 hs).lo
  have hpb := prm_bd (isSp_iff.1 hs).prime
  have hvl : v.length = S.length := (isVec_iff.1 mv).len
  have hul : u.length = S.length := (isVec_iff.1 mu).len
  have HVL := Lib.hid hvl
  have HUL := Lib.hid hul
  have HB0 := Lib.hid (below_alloc w (.cells #[.int .i64 pS, .slice aS S.length cS, .slice au u.length cu] 107))
  have k0 := BoxM.new w pS aS S.length cS au u.length cu 107
  obtain ⟨A, hA⟩ : ∃ a, a = pairN pS S u v := ⟨_, rfl⟩
  obtain ⟨N, hN⟩ : ∃ a, a = pairN pS S u u := ⟨_, rfl⟩
  have hAb : 0 ≤ A ∧ A < pS := by rw [hA]; exact pairN_bd7 (by omega)
  have hNb : 0 ≤ N ∧ N < pS := by rw [hN]; exact pairN_bd7 (by omega)
  have HAE := Lib.hid hA
  have HNE := Lib.hid hN
  have HNB := Lib.hid hNb
  have HA2 : Hid (-100 ≤ -2 * A ∧ -2 * A ≤ 100) := by show _ ∧ _; omega
  have HAM : Hid (0 ≤ (-2 * A) % pS ∧ (-2 * A) % pS < pS) := ⟨Int.emod_nonneg _ (by omega), Int.emod_lt_of_pos _ (by omega)⟩
  have e1 : wrap64 (-2 * A) = -2 * A := by unfold wrap64; omega
  have e2 : IntKind.i64.wrap (-2 * A) = -2 * A := IntWalk.i64_in _ (by omega)
  clear hs hS hu mu hv mv hA hN hAb hNb hvl hul
  go_enter Tryz.func81, Tryz.ntmps81
  go_upto_region 2 with fail
  obtain ⟨w0, hw0'⟩ : ∃ z, z = w.alloc (.cells #[.int .i64 pS, .slice aS S.length cS, .slice au u.length cu] 107) := ⟨_, rfl⟩
  rw [← hw0'] at HB0 k0 ⊢
  have hw0 : w.heap.size < w0.heap.size := by rw [hw0']; simp
  have hwz : w.heap.size + 1 = w0.heap.size := by rw [hw0']; simp
  try rw [hwz]
  clear hw0'
  obtain ⟨w1, hw1⟩ : ∃ z, z = w0.alloc (.cells #[.int .i64 pS, .slice aS S.length cS] 24) := ⟨_, rfl⟩
  obtain ⟨gs, hgs⟩ : ∃ b, b = w0.heap.size := ⟨_, rfl⟩
  have hs0 : BoxV w.heap.size gs pS aS S.length cS au u.length cu w1 := by
    have h := k0.below (below_alloc w0 (.cells #[.int .i64 pS, .slice aS S.length cS] 24)) hw0
    rw [← hw1] at h
    exact ⟨h.1, h.2.1, h.2.2, by rw [hw1, hgs]; simp [go_sem], by rw [hw1, hgs]; simp [go_sem]⟩
  have HB1 : Hid (Below w.heap.size w w1) := by show Below _ _ _; rw [hw1]; exact HB0.out.alloc HB0.out.size _
  have hg1 : gs < w1.heap.size := by rw [hw1, hgs]; simp
  have hwg : w.heap.size < gs := by omega
  rw [← hw1]
  rw [← hgs]
  clear hw1 hwz hgs k0
  have hs1 : Hid (BoxV w.heap.size gs pS aS S.length cS au u.length cu w1.drew) := hs0
  have HBD : Hid (Below w.heap.size w w1.drew) := HB1.out.drew
  have hd0 : w.heap.size < w1.drew.heap.size ∧ gs < w1.drew.heap.size := ⟨Nat.lt_trans hwg hg1, hg1⟩
  clear hs0
  have DN0 : Hid (DR7 w gs pS aS S.length cS au u.length cu w1.drew) := ⟨hs1.out, HBD.out, hd0⟩
  have DM0_ : Hid (DRN w gs pS aS S.length cS au u.length cu w1.heap.size (w1.alloc (.cells #[.int .i64 0, .int .i64 0] 48)).drew) := (DR7.allocn (W := w1) ⟨hs1.out, HB1.out, hd0⟩ _).call (below_drew _)
  clear hs1 HBD hd0 hg1 hwg HB1 HB0
  go_cut [6] (fun s6 wx => ∃ bf : Nat, s6 = .pointer (some ⟨bf, 0, none⟩) ∧ Hid (DRE w gs pS aS S.length cS au u.length cu bf ((-2 * A) % pS * inv pS N % pS) wx))
  case first =>
    refine wp_region_noPanic ?_
    refine wp_region_held_drew (S := fun w' => w'.cell? ⟨w.heap.size, 0, none⟩ = some (.int .i64 pS) ∧ w'.cell? ⟨w.heap.size, 1, none⟩ = some (.slice aS S.length cS) ∧ w'.cell? ⟨w.heap.size, 2, none⟩ = some (.slice au u.length cu) ∧ w'.cell? ⟨gs, 0, none⟩ = some (.int .i64 pS) ∧ w'.cell? ⟨gs, 1, none⟩ = some (.slice aS S.length cS)) (by kernel_rfl) (DN0.out.box) (fun hHeld => ?_)
    (refine wpAnyH_take (i := 0) (oi := _) (v := ?_) rfl (by kernel_rfl) (by kernel_rfl) (by kernel_rfl) (fun _ _ _ h => h) (Or.inl ⟨by rfl, ?_⟩) (by assumption) ?_; rotate_left; (focus (intro w' hSw; (try dsimp only at hSw); first | (go_simp; done) | (go_simp; with_reducible rfl)))); ((try simp only [Act.put]); (try simp only [List.setIfInBounds_toArray]); (try simp only [List.set_cons_succ]); (try simp only [List.set_cons_zero]))
    (refine wpAnyH_take (i := 1) (oi := _) (v := ?_) rfl (by kernel_rfl) (by kernel_rfl) (by kernel_rfl) (fun _ _ _ h => h) (Or.inl ⟨by rfl, ?_⟩) (by assumption) ?_; rotate_left; (focus (intro w' hSw; (try dsimp only at hSw); first | (go_simp; done) | (go_simp; with_reducible rfl)))); ((try simp only [Act.put]); (try simp only [List.setIfInBounds_toArray]); (try simp only [List.set_cons_succ]); (try simp only [List.set_cons_zero]))
    (refine wpAnyH_take (i := 2) (oi := _) (v := ?_) rfl (by kernel_rfl) (by kernel_rfl) (by kernel_rfl) (fun _ _ _ h => h) (Or.inl ⟨by rfl, ?_⟩) (by assumption) ?_; rotate_left; (focus (intro w' hSw; (try dsimp only at hSw); first | (go_simp; done) | (go_simp; with_reducible rfl)))); ((try simp only [Act.put]); (try simp only [List.setIfInBounds_toArray]); (try simp only [List.set_cons_succ]); (try simp only [List.set_cons_zero]))
    (refine wpAnyH_take (i := 3) (oi := _) (v := ?_) rfl (by kernel_rfl) (by kernel_rfl) (by kernel_rfl) (fun _ _ _ h => h) (Or.inl ⟨by rfl, ?_⟩) (by assumption) ?_; rotate_left; (focus (intro w' hSw; (try dsimp only at hSw); first | (go_simp; done) | (go_simp; with_reducible rfl)))); ((try simp only [Act.put]); (try simp only [List.setIfInBounds_toArray]); (try simp only [List.set_cons_succ]); (try simp only [List.set_cons_zero]))
    (refine wpAnyH_take (i := 4) (oi := _) (v := ?_) rfl (by kernel_rfl) (by kernel_rfl) (by kernel_rfl) (fun _ _ _ h => h) (Or.inl ⟨by rfl, ?_⟩) (by assumption) ?_; rotate_left; (focus (intro w' hSw; (try dsimp only at hSw); first | (go_simp; done) | (go_simp; with_reducible rfl)))); ((try simp only [Act.put]); (try simp only [List.setIfInBounds_toArray]); (try simp only [List.set_cons_succ]); (try simp only [List.set_cons_zero]))
    (refine wpAnyH_take (i := 5) (oi := _) (v := ?_) rfl (by kernel_rfl) (by kernel_rfl) (by kernel_rfl) (fun _ _ _ h => h) (Or.inl ⟨by rfl, ?_⟩) (by assumption) ?_; rotate_left; (focus (intro w' hSw; (try dsimp only at hSw); first | (go_simp; done) | (go_simp; with_reducible rfl)))); ((try simp only [Act.put]); (try simp only [List.setIfInBounds_toArray]); (try simp only [List.set_cons_succ]); (try simp only [List.set_cons_zero]))
    (refine wpAnyH_take (i := 9) (oi := _) (v := ?_) rfl (by kernel_rfl) (by kernel_rfl) (by kernel_rfl) (fun _ _ _ h => h) (Or.inl ⟨by rfl, ?_⟩) (by assumption) ?_; rotate_left; (focus (intro w' hSw; (try dsimp only at hSw); first | (go_simp; done) | (go_simp; with_reducible rfl)))); ((try simp only [Act.put]); (try simp only [List.setIfInBounds_toArray]); (try simp only [List.set_cons_succ]); (try simp only [List.set_cons_zero]))
    (refine wpAnyH_take (i := 10) (oi := _) (v := ?_) rfl (by kernel_rfl) (by kernel_rfl) (by kernel_rfl) (fun _ _ _ h => h) (Or.inl ⟨by rfl, ?_⟩) (by assumption) ?_; rotate_left; (focus (intro w' hSw; (try dsimp only at hSw); first | (go_simp; done) | (go_simp; with_reducible rfl)))); ((try simp only [Act.put]); (try simp only [List.setIfInBounds_toArray]); (try simp only [List.set_cons_succ]); (try simp only [List.set_cons_zero]))
    (refine wpAnyH_take (i := 11) (oi := _) (v := ?_) rfl (by kernel_rfl) (by kernel_rfl) (by kernel_rfl) (fun _ _ _ h => h) (Or.inl ⟨by rfl, ?_⟩) (by assumption) ?_; rotate_left; (focus (intro w' hSw; (try dsimp only at hSw); first | (go_simp; done) | (go_simp; with_reducible rfl)))); ((try simp only [Act.put]); (try simp only [List.setIfInBounds_toArray]); (try simp only [List.set_cons_succ]); (try simp only [List.set_cons_zero]))
    (refine wpAnyH_take (i := 12) (oi := _) (v := ?_) rfl (by kernel_rfl) (by kernel_rfl) (by kernel_rfl) (fun _ _ _ h => h) (Or.inl ⟨by rfl, ?_⟩) (by assumption) ?_; rotate_left; (focus (intro w' hSw; (try dsimp only at hSw); first | (go_simp; done) | (go_simp; with_reducible rfl)))); ((try simp only [Act.put]); (try simp only [List.setIfInBounds_toArray]); (try simp only [List.set_cons_succ]); (try simp only [List.set_cons_zero]))
    (refine wpAnyH_take (i := 13) (oi := _) (v := ?_) rfl (by kernel_rfl) (by kernel_rfl) (by kernel_rfl) (fun _ _ _ h => h) (Or.inl ⟨by rfl, ?_⟩) (by assumption) ?_; rotate_left; (focus (intro w' hSw; (try dsimp only at hSw); first | (go_simp; done) | (go_simp; with_reducible rfl)))); ((try simp only [Act.put]); (try simp only [List.setIfInBounds_toArray]); (try simp only [List.set_cons_succ]); (try simp only [List.set_cons_zero]))
    refine wpAnyH_ready (rs := [6, 17]) (by kernel_rfl) (by simp) ?_
    refine AllReadyH.cons (o := _) rfl (fun K hK => ?_) (AllReadyH.cons (o := _) rfl (fun K hK => ?_) AllReadyH.nil)
    · go_simp; go_at_call 39; ((with_reducible refine (pairD w gs pS aS S cS au u cu loS tpS av v cv lov tpv lou tpu HI.out HS.out tS Hu.out tu HVU.out Hv.out tv HVV.out _ DN0.out).mono ?_); rintro e wa ⟨rfl, b_⟩; rw [← HAE.out]; have DNa := Lib.hid (DN0.out.call b_); clear b_); (try go_wp2_with fail)
      refine hK.out _ _ (DNa.out.box) (fun hHeld => ?_)
      clear hK K
      ((try simp only [Act.put]); (try simp only [List.setIfInBounds_toArray]); (try simp only [List.set_cons_succ]); (try simp only [List.set_cons_zero]))
      (refine wpAnyH_take (i := 7) (oi := _) (v := ?_) rfl (by kernel_rfl) (by kernel_rfl) (by kernel_rfl) (fun _ _ _ h => h) (Or.inl ⟨by rfl, ?_⟩) (by assumption) ?_; rotate_left; (focus (intro w' hSw; (try dsimp only at hSw); first | (go_simp; done) | (go_simp; with_reducible rfl)))); ((try simp only [Act.put]); (try simp only [List.setIfInBounds_toArray]); (try simp only [List.set_cons_succ]); (try simp only [List.set_cons_zero]))
      refine wpAnyH_ready (rs := [8, 17]) (by kernel_rfl) (by simp) ?_
      refine AllReadyH.cons (o := _) rfl (fun K hK => ?_) (AllReadyH.cons (o := _) rfl (fun K hK => ?_) AllReadyH.nil)
      · go_simp; go_at_call 67; ((with_reducible refine (remD pS (-2 * A) _ (isSp_iff.1 HI.out).prime HA2.out.1 HA2.out.2).mono ?_); rintro e wb ⟨rfl, b_⟩; have DNb := Lib.hid (DNa.out.call b_); clear b_); (try go_wp2_with fail)
        refine hK.out _ _ (DNb.out.box) (fun hHeld => ?_)
        clear hK K
        ((try simp only [Act.put]); (try simp only [List.setIfInBounds_toArray]); (try simp only [List.set_cons_succ]); (try simp only [List.set_cons_zero]))
        refine wpAnyH_ready (rs := [14, 17]) (by kernel_rfl) (by simp) ?_
        refine AllReadyH.cons (o := _) rfl (fun K hK => ?_) (AllReadyH.cons (o := _) rfl (fun K hK => ?_) AllReadyH.nil)
        · go_simp; go_at_call 15; ((with_reducible refine (normD w gs pS aS S cS au u cu loS tpS lou tpu HI.out HS.out tS Hu.out tu HVU.out _ DNb.out).mono ?_); rintro e wc ⟨rfl, b_⟩; rw [← HNE.out]; have DNc := Lib.hid (DNb.out.call b_); clear b_); (try go_wp2_with fail)
          refine hK.out _ _ (DNc.out.box) (fun hHeld => ?_)
          clear hK K
          ((try simp only [Act.put]); (try simp only [List.setIfInBounds_toArray]); (try simp only [List.set_cons_succ]); (try simp only [List.set_cons_zero]))
          (refine wpAnyH_take (i := 15) (oi := _) (v := ?_) rfl (by kernel_rfl) (by kernel_rfl) (by kernel_rfl) (fun _ _ _ h => h) (Or.inl ⟨by rfl, ?_⟩) (by assumption) ?_; rotate_left; (focus (intro w' hSw; (try dsimp only at hSw); first | (go_simp; done) | (go_simp; with_reducible rfl)))); ((try simp only [Act.put]); (try simp only [List.setIfInBounds_toArray]); (try simp only [List.set_cons_succ]); (try simp only [List.set_cons_zero]))
          refine wpAnyH_ready (rs := [16, 17]) (by kernel_rfl) (by simp) ?_
          refine AllReadyH.cons (o := _) rfl (fun K hK => ?_) (AllReadyH.cons (o := _) rfl (fun K hK => ?_) AllReadyH.nil)
          · go_simp; go_at_call 33; ((with_reducible refine (over_any pS ((-2 * A) % pS) N _ (isSp_iff.1 HI.out).prime HAM.out.1 HAM.out.2 HNB.out.1 HNB.out.2).mono ?_); rintro e wd ⟨rfl, b_⟩; have DNd := Lib.hid (DNc.out.call b_); clear b_); (try go_wp2_with fail)
            refine hK.out _ _ (DNd.out.box) (fun hHeld => ?_)
            clear hK K
            ((try simp only [Act.put]); (try simp only [List.setIfInBounds_toArray]); (try simp only [List.set_cons_succ]); (try simp only [List.set_cons_zero]))
            refine wpAnyH_ready (rs := [17]) (by kernel_rfl) (by simp) ?_
            refine AllReadyH.cons (o := _) rfl (fun K hK => ?_) AllReadyH.nil
            go_simp; have DMd := Lib.hid (DNd.out.allocn 48)
            refine hK.out _ _ (DMd.out.box) (fun hHeld => ?_)
            clear hK K
            ((try simp only [Act.put]); (try simp only [List.setIfInBounds_toArray]); (try simp only [List.set_cons_succ]); (try simp only [List.set_cons_zero]))
            refine wpAnyH_ready (rs := [18]) (by kernel_rfl) (by simp) ?_
            refine AllReadyH.cons (o := _) rfl (fun K hK => ?_) AllReadyH.nil
            (have z0_ := DMd.out.c0; have z1_ := DMd.out.c1; have y0_ := DMd.out.y0; have y1_ := DMd.out.y1); go_simp
            refine hK.out _ _ ((DNd.out.alloc _).box) (fun hHeld => ?_)
            clear hK K
            ((try simp only [Act.put]); (try simp only [List.setIfInBounds_toArray]); (try simp only [List.set_cons_succ]); (try simp only [List.set_cons_zero]))
            refine wpAnyH_done (by kernel_rfl) ?_ _
            refine NoPanic.normal ?_
            go_wp2_with fail
            go_meet
            first | exact ⟨_, rfl, Lib.hid DMd.out.done⟩ | exact ⟨_, rfl, Lib.hid (DNd.out.done _)⟩
          · go_simp; have DMc := Lib.hid (DNc.out.allocn 48)
            refine hK.out _ _ (DMc.out.box) (fun hHeld => ?_)
            clear hK K
            ((try simp only [Act.put]); (try simp only [List.setIfInBounds_toArray]); (try simp only [List.set_cons_succ]); (try simp only [List.set_cons_zero]))
            refine wpAnyH_ready (rs := [16]) (by kernel_rfl) (by simp) ?_
            refine AllReadyH.cons (o := _) rfl (fun K hK => ?_) AllReadyH.nil
            go_simp; go_at_call 33; ((with_reducible refine (over_any pS ((-2 * A) % pS) N _ (isSp_iff.1 HI.out).prime HAM.out.1 HAM.out.2 HNB.out.1 HNB.out.2).mono ?_); rintro e wd ⟨rfl, b_⟩; have DMd := Lib.hid (DMc.out.call b_); clear b_); (try go_wp2_with fail)
            refine hK.out _ _ (DMd.out.box) (fun hHeld => ?_)
            clear hK K
            ((try simp only [Act.put]); (try simp only [List.setIfInBounds_toArray]); (try simp only [List.set_cons_succ]); (try simp only [List.set_cons_zero]))
            refine wpAnyH_ready (rs := [18]) (by kernel_rfl) (by simp) ?_
            refine AllReadyH.cons (o := _) rfl (fun K hK => ?_) AllReadyH.nil
            (have z0_ := DMd.out.c0; have z1_ := DMd.out.c1; have y0_ := DMd.out.y0; have y1_ := DMd.out.y1); go_simp
            refine hK.out _ _ ((DMd.out.put _ _).box) (fun hHeld => ?_)
            clear hK K
            ((try simp only [Act.put]); (try simp only [List.setIfInBounds_toArray]); (try simp only [List.set_cons_succ]); (try simp only [List.set_cons_zero]))
            refine wpAnyH_done (by kernel_rfl) ?_ _
            refine NoPanic.normal ?_
            go_wp2_with fail
            go_meet
            first | exact ⟨_, rfl, Lib.hid DMd.out.done⟩ | exact ⟨_, rfl, Lib.hid (DNd.out.done _)⟩
        · go_simp; have DMb := Lib.hid (DNb.out.allocn 48)
          refine hK.out _ _ (DMb.out.box) (fun hHeld => ?_)
          clear hK K
          ((try simp only [Act.put]); (try simp only [List.setIfInBounds_toArray]); (try simp only [List.set_cons_succ]); (try simp only [List.set_cons_zero]))
          refine wpAnyH_ready (rs := [14]) (by kernel_rfl) (by simp) ?_
          refine AllReadyH.cons (o := _) rfl (fun K hK => ?_) AllReadyH.nil
          go_simp; go_at_call 15; ((with_reducible refine (normD w gs pS aS S cS au u cu loS tpS lou tpu HI.out HS.out tS Hu.out tu HVU.out _ DMb.out.toDR7).mono ?_); rintro e wc ⟨rfl, b_⟩; rw [← HNE.out]; have DMc := Lib.hid (DMb.out.call b_); clear b_); (try go_wp2_with fail)
          refine hK.out _ _ (DMc.out.box) (fun hHeld => ?_)
          clear hK K
          ((try simp only [Act.put]); (try simp only [List.setIfInBounds_toArray]); (try simp only [List.set_cons_succ]); (try simp only [List.set_cons_zero]))
          (refine wpAnyH_take (i := 15) (oi := _) (v := ?_) rfl (by kernel_rfl) (by kernel_rfl) (by kernel_rfl) (fun _ _ _ h => h) (Or.inl ⟨by rfl, ?_⟩) (by assumption) ?_; rotate_left; (focus (intro w' hSw; (try dsimp only at hSw); first | (go_simp; done) | (go_simp; with_reducible rfl)))); ((try simp only [Act.put]); (try simp only [List.setIfInBounds_toArray]); (try simp only [List.set_cons_succ]); (try simp only [List.set_cons_zero]))
          refine wpAnyH_ready (rs := [16]) (by kernel_rfl) (by simp) ?_
          refine AllReadyH.cons (o := _) rfl (fun K hK => ?_) AllReadyH.nil
          go_simp; go_at_call 33; ((with_reducible refine (over_any pS ((-2 * A) % pS) N _ (isSp_iff.1 HI.out).prime HAM.out.1 HAM.out.2 HNB.out.1 HNB.out.2).mono ?_); rintro e wd ⟨rfl, b_⟩; have DMd := Lib.hid (DMc.out.call b_); clear b_); (try go_wp2_with fail)
          refine hK.out _ _ (DMd.out.box) (fun hHeld => ?_)
          clear hK K
          ((try simp only [Act.put]); (try simp only [List.setIfInBounds_toArray]); (try simp only [List.set_cons_succ]); (try simp only [List.set_cons_zero]))
          refine wpAnyH_ready (rs := [18]) (by kernel_rfl) (by simp) ?_
          refine AllReadyH.cons (o := _) rfl (fun K hK => ?_) AllReadyH.nil
          (have z0_ := DMd.out.c0; have z1_ := DMd.out.c1; have y0_ := DMd.out.y0; have y1_ := DMd.out.y1); go_simp
          refine hK.out _ _ ((DMd.out.put _ _).box) (fun hHeld => ?_)
          clear hK K
          ((try simp only [Act.put]); (try simp only [List.setIfInBounds_toArray]); (try simp only [List.set_cons_succ]); (try simp only [List.set_cons_zero]))
          refine wpAnyH_done (by kernel_rfl) ?_ _
          refine NoPanic.normal ?_
          go_wp2_with fail
          go_meet
          first | exact ⟨_, rfl, Lib.hid DMd.out.done⟩ | exact ⟨_, rfl, Lib.hid (DNd.out.done _)⟩
      · go_simp; have DMa := Lib.hid (DNa.out.allocn 48)
        refine hK.out _ _ (DMa.out.box) (fun hHeld => ?_)
        clear hK K
        ((try simp only [Act.put]); (try simp only [List.setIfInBounds_toArray]); (try simp only [List.set_cons_succ]); (try simp only [List.set_cons_zero]))
        refine wpAnyH_ready (rs := [8]) (by kernel_rfl) (by simp) ?_
        refine AllReadyH.cons (o := _) rfl (fun K hK => ?_) AllReadyH.nil
        go_simp; go_at_call 67; ((with_reducible refine (remD pS (-2 * A) _ (isSp_iff.1 HI.out).prime HA2.out.1 HA2.out.2).mono ?_); rintro e wb ⟨rfl, b_⟩; have DMb := Lib.hid (DMa.out.call b_); clear b_); (try go_wp2_with fail)
        refine hK.out _ _ (DMb.out.box) (fun hHeld => ?_)
        clear hK K
        ((try simp only [Act.put]); (try simp only [List.setIfInBounds_toArray]); (try simp only [List.set_cons_succ]); (try simp only [List.set_cons_zero]))
        refine wpAnyH_ready (rs := [14]) (by kernel_rfl) (by simp) ?_
        refine AllReadyH.cons (o := _) rfl (fun K hK => ?_) AllReadyH.nil
        go_simp; go_at_call 15; ((with_reducible refine (normD w gs pS aS S cS au u cu loS tpS lou tpu HI.out HS.out tS Hu.out tu HVU.out _ DMb.out.toDR7).mono ?_); rintro e wc ⟨rfl, b_⟩; rw [← HNE.out]; have DMc := Lib.hid (DMb.out.call b_); clear b_); (try go_wp2_with fail)
        refine hK.out _ _ (DMc.out.box) (fun hHeld => ?_)
        clear hK K
        ((try simp only [Act.put]); (try simp only [List.setIfInBounds_toArray]); (try simp only [List.set_cons_succ]); (try simp only [List.set_cons_zero]))
        (refine wpAnyH_take (i := 15) (oi := _) (v := ?_) rfl (by kernel_rfl) (by kernel_rfl) (by kernel_rfl) (fun _ _ _ h => h) (Or.inl ⟨by rfl, ?_⟩) (by assumption) ?_; rotate_left; (focus (intro w' hSw; (try dsimp only at hSw); first | (go_simp; done) | (go_simp; with_reducible rfl)))); ((try simp only [Act.put]); (try simp only [List.setIfInBounds_toArray]); (try simp only [List.set_cons_succ]); (try simp only [List.set_cons_zero]))
        refine wpAnyH_ready (rs := [16]) (by kernel_rfl) (by simp) ?_
        refine AllReadyH.cons (o := _) rfl (fun K hK => ?_) AllReadyH.nil
        go_simp; go_at_call 33; ((with_reducible refine (over_any pS ((-2 * A) % pS) N _ (isSp_iff.1 HI.out).prime HAM.out.1 HAM.out.2 HNB.out.1 HNB.out.2).mono ?_); rintro e wd ⟨rfl, b_⟩; have DMd := Lib.hid (DMc.out.call b_); clear b_); (try go_wp2_with fail)
        refine hK.out _ _ (DMd.out.box) (fun hHeld => ?_)
        clear hK K
        ((try simp only [Act.put]); (try simp only [List.setIfInBounds_toArray]); (try simp only [List.set_cons_succ]); (try simp only [List.set_cons_zero]))
        refine wpAnyH_ready (rs := [18]) (by kernel_rfl) (by simp) ?_
        refine AllReadyH.cons (o := _) rfl (fun K hK => ?_) AllReadyH.nil
        (have z0_ := DMd.out.c0; have z1_ := DMd.out.c1; have y0_ := DMd.out.y0; have y1_ := DMd.out.y1); go_simp
        refine hK.out _ _ ((DMd.out.put _ _).box) (fun hHeld => ?_)
        clear hK K
        ((try simp only [Act.put]); (try simp only [List.setIfInBounds_toArray]); (try simp only [List.set_cons_succ]); (try simp only [List.set_cons_zero]))
        refine wpAnyH_done (by kernel_rfl) ?_ _
        refine NoPanic.normal ?_
        go_wp2_with fail
        go_meet
        first | exact ⟨_, rfl, Lib.hid DMd.out.done⟩ | exact ⟨_, rfl, Lib.hid (DNd.out.done _)⟩
    · go_simp; have DM0 := Lib.hid (DM0_.out)
      refine hK.out _ _ (DM0.out.box) (fun hHeld => ?_)
      clear hK K
      ((try simp only [Act.put]); (try simp only [List.setIfInBounds_toArray]); (try simp only [List.set_cons_succ]); (try simp only [List.set_cons_zero]))
      refine wpAnyH_ready (rs := [6]) (by kernel_rfl) (by simp) ?_
      refine AllReadyH.cons (o := _) rfl (fun K hK => ?_) AllReadyH.nil
      go_simp; go_at_call 39; ((with_reducible refine (pairD w gs pS aS S cS au u cu loS tpS av v cv lov tpv lou tpu HI.out HS.out tS Hu.out tu HVU.out Hv.out tv HVV.out _ DM0.out.toDR7).mono ?_); rintro e wa ⟨rfl, b_⟩; rw [← HAE.out]; have DMa := Lib.hid (DM0.out.call b_); clear b_); (try go_wp2_with fail)
      refine hK.out _ _ (DMa.out.box) (fun hHeld => ?_)
      clear hK K
      ((try simp only [Act.put]); (try simp only [List.setIfInBounds_toArray]); (try simp only [List.set_cons_succ]); (try simp only [List.set_cons_zero]))
      (refine wpAnyH_take (i := 7) (oi := _) (v := ?_) rfl (by kernel_rfl) (by kernel_rfl) (by kernel_rfl) (fun _ _ _ h => h) (Or.inl ⟨by rfl, ?_⟩) (by assumption) ?_; rotate_left; (focus (intro w' hSw; (try dsimp only at hSw); first | (go_simp; done) | (go_simp; with_reducible rfl)))); ((try simp only [Act.put]); (try simp only [List.setIfInBounds_toArray]); (try simp only [List.set_cons_succ]); (try simp only [List.set_cons_zero]))
      refine wpAnyH_ready (rs := [8]) (by kernel_rfl) (by simp) ?_
      refine AllReadyH.cons (o := _) rfl (fun K hK => ?_) AllReadyH.nil
      go_simp; go_at_call 67; ((with_reducible refine (remD pS (-2 * A) _ (isSp_iff.1 HI.out).prime HA2.out.1 HA2.out.2).mono ?_); rintro e wb ⟨rfl, b_⟩; have DMb := Lib.hid (DMa.out.call b_); clear b_); (try go_wp2_with fail)
      refine hK.out _ _ (DMb.out.box) (fun hHeld => ?_)
      clear hK K
      ((try simp only [Act.put]); (try simp only [List.setIfInBounds_toArray]); (try simp only [List.set_cons_succ]); (try simp only [List.set_cons_zero]))
      refine wpAnyH_ready (rs := [14]) (by kernel_rfl) (by simp) ?_
      refine AllReadyH.cons (o := _) rfl (fun K hK => ?_) AllReadyH.nil
      go_simp; go_at_call 15; ((with_reducible refine (normD w gs pS aS S cS au u cu loS tpS lou tpu HI.out HS.out tS Hu.out tu HVU.out _ DMb.out.toDR7).mono ?_); rintro e wc ⟨rfl, b_⟩; rw [← HNE.out]; have DMc := Lib.hid (DMb.out.call b_); clear b_); (try go_wp2_with fail)
      refine hK.out _ _ (DMc.out.box) (fun hHeld => ?_)
      clear hK K
      ((try simp only [Act.put]); (try simp only [List.setIfInBounds_toArray]); (try simp only [List.set_cons_succ]); (try simp only [List.set_cons_zero]))
      (refine wpAnyH_take (i := 15) (oi := _) (v := ?_) rfl (by kernel_rfl) (by kernel_rfl) (by kernel_rfl) (fun _ _ _ h => h) (Or.inl ⟨by rfl, ?_⟩) (by assumption) ?_; rotate_left; (focus (intro w' hSw; (try dsimp only at hSw); first | (go_simp; done) | (go_simp; with_reducible rfl)))); ((try simp only [Act.put]); (try simp only [List.setIfInBounds_toArray]); (try simp only [List.set_cons_succ]); (try simp only [List.set_cons_zero]))
      refine wpAnyH_ready (rs := [16]) (by kernel_rfl) (by simp) ?_
      refine AllReadyH.cons (o := _) rfl (fun K hK => ?_) AllReadyH.nil
      go_simp; go_at_call 33; ((with_reducible refine (over_any pS ((-2 * A) % pS) N _ (isSp_iff.1 HI.out).prime HAM.out.1 HAM.out.2 HNB.out.1 HNB.out.2).mono ?_); rintro e wd ⟨rfl, b_⟩; have DMd := Lib.hid (DMc.out.call b_); clear b_); (try go_wp2_with fail)
      refine hK.out _ _ (DMd.out.box) (fun hHeld => ?_)
      clear hK K
      ((try simp only [Act.put]); (try simp only [List.setIfInBounds_toArray]); (try simp only [List.set_cons_succ]); (try simp only [List.set_cons_zero]))
      refine wpAnyH_ready (rs := [18]) (by kernel_rfl) (by simp) ?_
      refine AllReadyH.cons (o := _) rfl (fun K hK => ?_) AllReadyH.nil
      (have z0_ := DMd.out.c0; have z1_ := DMd.out.c1; have y0_ := DMd.out.y0; have y1_ := DMd.out.y1); go_simp
      refine hK.out _ _ ((DMd.out.put _ _).box) (fun hHeld => ?_)
      clear hK K
      ((try simp only [Act.put]); (try simp only [List.setIfInBounds_toArray]); (try simp only [List.set_cons_succ]); (try simp only [List.set_cons_zero]))
      refine wpAnyH_done (by kernel_rfl) ?_ _
      refine NoPanic.normal ?_
      go_wp2_with fail
      go_meet
      first | exact ⟨_, rfl, Lib.hid DMd.out.done⟩ | exact ⟨_, rfl, Lib.hid (DNd.out.done _)⟩
  case rest =>
    obtain ⟨bf, rfl, HE⟩ := hcut
    obtain ⟨⟨q0, q1, q2, q3, q4⟩, HBC, hdc⟩ := HE.out.toDR7
    have f0 := HE.out.c0
    have f1 := HE.out.c1
    have HBC_ := Lib.hid HBC
    have zc := HBC.size
    have hv0 : 0 < v.length := by rw [HVL.out]; exact hl1
    go_upto_region 4 with (go_at_call 35; ((with_reducible refine (cloneR av v cv lov tpv wc (Hv.out.below HBC_.out tv) (Nat.le_trans tv zc) hv0 (by rw [HVL.out]; omega)).mono ?_); rintro e w3 ⟨r, kc, rfl, o_, b_⟩; obtain ⟨q, og, rfl, hq0, hq1, hro⟩ := RowOwn.of o_.own hv0; have HRO := Lib.hid hro; have HE3 := Lib.hid (HE.out.call b_); clear o_ b_ hro q0 q1 q2 q3 q4 f0 f1 HBC))
    obtain ⟨⟨q0, q1, q2, q3, q4⟩, HBC, hdc3⟩ := HE3.out.toDR7
    have f0 := HE3.out.c0
    have f1 := HE3.out.c1
    have HB3 := Lib.hid HBC
    have hqw : w.heap.size ≤ q := Nat.le_trans zc hq0
    have HKB : Hid (0 ≤ (-2 * A) % pS * inv pS N % pS ∧ (-2 * A) % pS * inv pS N % pS < pS) := rf_bd (p := pS) (by omega) A N
    have hk1 : (-2 * A) % pS * inv pS N % pS ≤ pS := Int.le_of_lt HKB.out.2
    have HNV : Hid (∀ j, j < v.length → 0 ≤ (fun j => v.getD j 0) j ∧ (fun j => v.getD j 0) j < pS) := fun j hj => (isVec_iff.1 HVV.out).num (by rw [← HVL.out]; exact hj)
    have HNU : Hid (Nums pS u) := fun j hj => (isVec_iff.1 HVU.out).num (by rw [← HUL.out]; exact hj)
    go_wp2_with (go_at_call 92; ((with_reducible refine (addMultiple_any pS ((-2 * A) % pS * inv pS N % pS) q og v.length kc (fun j => v.getD j 0) au u cu lou tpu w3 (isSp_iff.1 HI.out).prime HRO.out (Hu.out.below HB3.out tu) (.inr (Nat.le_trans tu (Nat.le_trans zc hq0))) (by rw [HVL.out, HUL.out]; exact Nat.le_refl _) (by rw [HUL.out]; omega) HNV.out HNU.out HKB.out.1 hk1).mono ?_); rintro e w4 ⟨rfl, ho9, hw9⟩; have HO9 := Lib.hid ho9; have HW9 := Lib.hid hw9; clear ho9 hw9 q0 q1 q2 q3 q4 f0 f1 HBC))
    go_ret
    exact ⟨some ⟨q, og, none⟩, kc, by unfold rflM plusR; rw [mkR_len]; rfl, by unfold rflM plusR rfK; rw [← HAE.out, ← HNE.out]; exact HO9.out.own hqw (by rw [HW9.out.size]; exact hq1), HB3.out.trans (HW9.out.belowB hqw)⟩

end Go.Proofs.YthbkfpkeofpocaaGreat
