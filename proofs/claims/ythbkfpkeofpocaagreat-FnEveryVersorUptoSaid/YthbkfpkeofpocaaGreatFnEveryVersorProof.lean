/-
  Every product of vectors whose norms are not 0 has an orthogonal matrix, whose versor is a multiple of the product.
  No conditions: every input of the law's parameter types that can be read as data.
-/
import Derived.Test.YthbkfpkeofpocaaGreatRows
import Derived.Test.YthbkfpkeofpocaaGreatLEvZ
import Derived.WalkKit
import Derived.ProofKit
import Derived.OpenShut
import Derived.ShutString
import Derived.ChangeOld
import Derived.Below
import Derived.Deep.Matrix
import Derived.JoinedCond
import Derived.Lib.SmallJoins
namespace Go.Proofs.YthbkfpkeofpocaaGreat.fnEveryVersor
open Go.ChangeShapes Go.WideShapes Go.ChangeAt Go.RowKit Go.Joins
set_option linter.unusedVariables false

theorem own : ownKnob Tryz.prog.godebug = none := by kernel_rfl
theorem laidOut : laidOutB Tryz.prog = true := by kernel_rfl

theorem one_le {H : Type} (d : DataW H) : 1 ≤ Rows.uptoBulk d := by
  cases d with
  | lit l => cases l <;> simp [Rows.uptoBulk]
  | nil => simp [Rows.uptoBulk]
  | ptr d => simp [Rows.uptoBulk]
  | slice elems spare => simp [Rows.uptoBulk]
  | agg parts => simp [Rows.uptoBulk]
  | iface t d => simp [Rows.uptoBulk]
  | map entries => simp [Rows.uptoBulk]
  | held h => simp [Rows.uptoBulk]
theorem bulk_app {H : Type} (l r : List (DataW H)) : Rows.uptoBulkAll (l ++ r) = Rows.uptoBulkAll l + Rows.uptoBulkAll r := by
  induction l with
  | nil => simp [Rows.uptoBulkAll]
  | cons x l ih => simp only [List.cons_append, Rows.uptoBulkAll, ih]; omega
theorem bulk_len {H : Type} (l : List (DataW H)) : l.length ≤ Rows.uptoBulkAll l := by
  induction l with
  | nil => simp [Rows.uptoBulkAll]
  | cons x r ih => have := one_le x; simp only [Rows.uptoBulkAll, List.length_cons]; omega
theorem bulk_ints {H : Type} (k : IntKind) (zs : List Int) (len : Nat) (h : len ≤ zs.length) : len + 1 ≤ Rows.uptoBulk (DataW.slice (H := H) (lits k (zs.take len)) (lits k (zs.drop len))) := by
  have h1 := bulk_len (lits (H := H) k (zs.take len))
  have e : (lits (H := H) k (zs.take len)).length = len := by unfold lits; simp; omega
  simp only [Rows.uptoBulk]
  omega
theorem bulk_row {H : Type} (k : IntKind) (A : Option Addr) (L C : Nat) (Z : List Int) (h1 : L ≤ C) (h2 : Z.length = C) (h3 : A = none → C = 0) : L + 1 ≤ Rows.uptoBulk (Go.Deep.intRow (H := H) k A L Z) := by
  cases A with
  | none =>
    have := h3 rfl
    have e : L = 0 := by omega
    subst e
    exact one_le _
  | some a => exact bulk_ints k Z L (by omega)
theorem bulk_rows {H : Type} (k : IntKind) (A : Nat → Option Addr) (L C : Nat → Nat) (Z : Nat → List Int) (m : List (List Int)) : ∀ n, (∀ r, r < n → L r ≤ C r ∧ (Z r).length = C r ∧ (A r = none → C r = 0) ∧ (rw' m r).length = L r) → n + tot m n ≤ Rows.uptoBulkAll ((List.range n).map fun r => Go.Deep.intRow (H := H) k (A r) (L r) (Z r))
  | 0, _ => by simp [tot]
  | n + 1, h => by
    have h1 := bulk_rows (H := H) k A L C Z m n (fun r hr => h r (by omega))
    obtain ⟨a, b, c, d⟩ := h n (by omega)
    have h2 := bulk_row (H := H) k (A n) (L n) (C n) (Z n) a b c
    rw [List.range_succ, List.map_append, bulk_app]
    simp only [List.map_cons, List.map_nil, Rows.uptoBulkAll]
    show n + 1 + (tot m n + (rw' m n).length) ≤ _
    omega

/-- The walk: the Go text returns true and writes nothing that was there. -/
theorem walk (m0 : Int) (a0 : Option Addr) (len0 cap0 : Nat) (a1 : Option Addr) (len1 cap1 : Nat) (w : World) (w0 : IsLstU w a0 len0) (w1 : IsMatU w a1 len1) :
    Calls Tryz.prog 3 #[.agg #[.int .i64 m0, .slice a0 len0 cap0], .slice a1 len1 cap1] w fun e w' => e = .returned (.bool true) ∧ Below w.heap.size w w' := by
  exact law_EveryVersor_all m0 a0 len0 cap0 a1 len1 cap1 w w0 w1

set_option maxRecDepth 100000 in
/-- The row's step. -/
theorem lifted (os : Os) (started : os.Started) (H : Type) (enc : TypeId × Value → H) (F : Stop.Interp) :
    ReturnsInHanded {} Tryz.checked os 3 .any ((Rows.OpenSpec.upto Rows.fnEveryVersorSpec).pre6 enc Tryz.prog Tryz.f3 Rows.fnEveryVersorUptoRow.domain false) (((Rows.OpenSpec.upto Rows.fnEveryVersorSpec).at F).post enc Tryz.prog Tryz.f3 false true false false) := by
  refine returnsInHanded_of_cond (C := Tryz.checked) (s := Rows.OpenSpec.upto Rows.fnEveryVersorSpec) (k := Rows.uptoSmall) rfl own started (by kernel_rfl) Tryz.func3
    (OpenSpec.witness (enc := enc) (C := Tryz.checked) (s := Rows.OpenSpec.upto Rows.fnEveryVersorSpec) (k := Rows.uptoSmall) rfl false ⟨#[], #[.agg #[.int .i64 0, .slice none 0 0], .slice none 0 0], []⟩ 8 (by kernel_rfl) (by kernel_rfl) (by kernel_rfl)
      (x := ([.agg [.lit (.int .i64 0), .nil], .nil], [], [])) (by kernel_rfl) rfl (by kernel_rfl)) ?_
  intro W base args ds gs before hval0 hW hcnd hk _
  have hval : ∀ (j : Nat) t v, Tryz.f3.params[j]? = some t → args[j]? = some v → Value.okWide Tryz.prog W .any base t v := hval0
  have hW' := hW
  obtain ⟨p, q, hA0, hV, rfl, hfz, hnd⟩ := hW
  have hA : DataW.TrodAll enc Tryz.prog W 0 (fun _ => true) true Tryz.f3.params.toList args.toList ds p := hA0
  rw [Tryz.params3] at hA hval
  obtain ⟨v0, vs0, d0, ds0, p0, q0, hargs, rfl, rfl, h0, r0⟩ := trodAll_cons hA
  obtain ⟨v1, vs1, d1, ds1, p1, q1, rfl, rfl, rfl, h1, r1⟩ := trodAll_cons r0
  obtain ⟨rfl, rfl, rfl⟩ := trodAll_nil r1
  obtain rfl : args = #[v0, v1] := by cases args; simp_all
  obtain ⟨rfl, rfl⟩ := trodVars_none hV
  have hbulk : Rows.uptoBulkAll _ ≤ 1048576 := of_decide_eq_true hk
  simp only [List.append_nil] at hbulk
  have k0 := h0
  have lt0 : ∀ x ∈ p0, x.block < W.heap.size := by obtain ⟨m, hm⟩ := k0; exact DataW.trod_lt m _ _ _ hm
  obtain ⟨c0_0, c1_0, y0_0, y1_0, n_0, rfl, hd_0, -, hy0_0, hy1_0⟩ := open_agg2 Tryz.underlying24 (by kernel_rfl) (by kernel_rfl) (hval 0 24 v0 rfl rfl) h0
  obtain ⟨m0, e0_0, -, -⟩ := DataW.trod_int Tryz.underlying2 hy0_0
  obtain ⟨a0, len0, cap0, e1_0⟩ := slice_form Tryz.underlying22 hy1_0
  simp at e0_0 e1_0
  subst e0_0 e1_0
  have w0 : IsLstU W a0 len0 := by
    rcases open_ints Tryz.underlying22 Tryz.underlying2 (by kernel_rfl) hy1_0 with ⟨hcs, _⟩ | ⟨x, l, c, zs, hcs, _, hl, hm, hz, hx, hcell, hwz⟩
    · simp at hcs
      obtain ⟨rfl, rfl, rfl⟩ := hcs
      exact isLstU (isLst_nil W) (by omega)
    · simp at hcs
      obtain ⟨rfl, rfl, rfl⟩ := hcs
      have hz' : zs.length = cap0 := by simpa using hz
      refine isLstU (isLst_of hl hm hz' hcell) ?_
      have hb := hbulk
      rw [hd_0, hx] at hb
      simp only [Rows.uptoBulkAll, Rows.uptoBulk] at hb
      have h1 := bulk_len (lits (H := H) .i64 (zs.take len0))
      have e : (lits (H := H) .i64 (zs.take len0)).length = len0 := by unfold lits; simp; omega
      omega
  obtain ⟨a1, len1, cap1, rfl⟩ := okWide_slice Tryz.underlying25 (hval 1 25 v1 rfl rfl)
  have k1 := h1
  have lt1 : ∀ x ∈ p1, x.block < W.heap.size := by obtain ⟨m, hm⟩ := k1; exact DataW.trod_lt m _ _ _ hm
  have w1 : IsMatU W a1 len1 := by
    obtain ⟨fuel, hf⟩ := h1
    rcases Go.Deep.open_int_rows Tryz.underlying25 Tryz.underlying22 Tryz.underlying2 (by kernel_rfl) (by kernel_rfl) hf with ⟨hcs, _⟩ | ⟨x, l, c, Ar, Lr, Cr, Zr, hcs, _, hl, hm, hx, hrows⟩
    · simp [Value.cells] at hcs
      obtain ⟨rfl, rfl, rfl⟩ := hcs
      exact isMatU_nil W
    · simp [Value.cells] at hcs
      obtain ⟨rfl, rfl, rfl⟩ := hcs
      refine isMatU_of hl hm hrows fun m hmr => ?_
      have hb := hbulk
      have hx1 : d1 = _ := congrArg Prod.fst hx
      rw [hx1] at hb
      simp only [Rows.uptoBulkAll, Rows.uptoBulk] at hb
      have h1 := bulk_rows (H := H) .i64 Ar Lr Cr Zr m len1 (fun r hr => ⟨(hrows r (by omega)).2.1, (hrows r (by omega)).2.2.2.1, (hrows r (by omega)).2.2.2.2.2.1, hmr r hr⟩)
      omega
  clear hA0 hval0
  refine (walk m0 a0 len0 cap0 a1 len1 cap1 W w0 w1).mono fun e W' ⟨he, bel⟩ => ?_
  subst he
  exact ⟨_, rfl, _, _, _, [], _, [], hW', trodAll_mk1 (shut_bool Tryz.underlying4 _), (trodAll_cons_mk (Below.trod laidOut (by kernel_rfl) (of_decide_eq_true (by kernel_rfl)) k0 bel lt0) (trodAll_cons_mk (Below.trod laidOut (by kernel_rfl) (of_decide_eq_true (by kernel_rfl)) k1 bel lt1) trodAll_mk0)), rfl, bel.frame _, fun h => by cases h⟩

/-- The statement. -/
theorem proved : Rows.FnEveryVersorUptoSaid :=
  OpenClaim.holds_of_cond 3 Tryz.f3 rfl rfl rfl rfl rfl rfl rfl ⟨rfl, rfl, rfl, rfl, rfl⟩ rfl rfl rfl rfl rfl (by kernel_rfl) Tryz.func3 (by kernel_rfl)
    (of_decide_eq_true (by kernel_rfl)) (by unfold Func.isWrapper; first | (rw [if_pos (by decide +kernel)]; kernel_rfl) | (rw [if_neg (by decide +kernel)]; exact ⟨rfl, rfl⟩))
    (fun os started H enc _ F => lifted os started H enc F)
#print axioms proved
end Go.Proofs.YthbkfpkeofpocaaGreat.fnEveryVersor
