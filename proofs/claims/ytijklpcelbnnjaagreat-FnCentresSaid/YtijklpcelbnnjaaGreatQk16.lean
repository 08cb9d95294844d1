/-
  Draws of multivectors, and of what is none: contract.
  Conditions: the source stands in a block of known cells, apart from the space's.
  Products of multivectors: an inverse behind is one ahead. No Go in sight.
  No conditions.
  Reduced rows modulo a prime: what vanishes on them, and that this tells them wholly. No Go in sight.
  No conditions.
-/
import Derived.Test.YtijklpcelbnnjaaGreatQk15
import Derived.Test.YtijklpcelbnnjaaGreatQk7
import Derived.ArgAppend
import Derived.Test.YtijklpcelbnnjaaGreatQk2
namespace Go.Proofs.YtijklpcelbnnjaaGreat
open Go.RowKit
set_option linter.unusedVariables false

theorem row_new2 (w : World) (x y : Int) (t : TypeId) : RowIn w.heap.size (w.alloc (.cells #[.int .i64 x, .int .i64 y] t)).heap.size (w.alloc (.cells #[.int .i64 x, .int .i64 y] t)) (some ⟨w.heap.size, 0, none⟩) [x, y] :=
  .inr ⟨w.heap.size, 0, rfl, Nat.le_refl _, by simp, fun j hj => by
    match j, hj with
    | 0, _ => simp [go_sem]
    | 1, _ => simp [go_sem]⟩
theorem olds_cells {w : World} {q o : Nat} {X : List Int} (h : RowOwn w q o X.length (fun j => X.getD j 0)) : ∀ b, (some (⟨q, o, none⟩ : Addr)) = some b → ∀ j u, (X.map (Value.int .i64))[j]? = some u → w.cell? (b.add j) = some u := fun b e j u hu => by
  cases e
  rw [List.getElem?_map] at hu
  cases hx : X[j]? with
  | none => rw [hx] at hu; cases hu
  | some x =>
    rw [hx] at hu
    cases hu
    have hj : j < X.length := (List.getElem?_eq_some_iff.1 hx).1
    have := h.cell j hj
    simp only [List.getD, hx, Option.getD_some] at this
    by_cases hj0 : j = 0
    · subst hj0; simpa [Addr.add] using this
    · simpa [Addr.add, hj0] using this

set_option maxRecDepth 100000 in
set_option maxHeartbeats 3200000 in
theorem spoilM_any (p : Int) (aS : Option Addr) (S : List Int) (cS loS tpS b : Nat) (a : Option Addr) (len cap : Nat) (zs : List Int) (w : World) (hs : Src w b a len cap zs) (sS : S.length ≤ 1048576) (hS : RowIn loS tpS w aS S) (tS : tpS ≤ w.heap.size) (hd : b < loS ∨ tpS ≤ b) :
    Calls Tryz.prog 66 #[.pointer (some ⟨b, 0, none⟩), .agg #[.int .i64 p, .slice aS S.length cS]] w (DrawnR (fun X => X.length ≤ 65) b a len cap zs w) := by
  obtain ⟨i0, hi, hz0, hz1, hz2⟩ := info_parts info64
  have hlt := hs.lt
  have D0 : Hid (DrF p aS S cS loS tpS b a len cap zs w (w.alloc (.cells #[.int .i64 p, .slice aS S.length cS] 26))) := DrF.start hs hS tS hd _
  clear hs hS
  go_enter Tryz.func66, Tryz.ntmps66
  go_upto_region 1 with fail
  obtain ⟨wa, hwa⟩ : ∃ z, z = w.alloc (.cells #[.int .i64 p, .slice aS S.length cS] 26) := ⟨_, rfl⟩
  rw [← hwa] at D0 ⊢
  clear hwa
  have c0 := D0.out.c0
  have c1 := D0.out.c1
  have hRa := D0.out.lt
  cases hI : isSp p S with
  | false =>
    have HI := Lib.hid hI
    go_wp2_with (go_at_call 70; (with_reducible refine (l03Is_any p aS S cS loS tpS wa D0.out.row (Nat.le_trans tS (Nat.le_of_lt D0.out.lt)) sS).mono ?_); rintro e w1 ⟨rfl, bel1⟩; have D1 := Lib.hid (D0.out.below bel1); rw [HI.out]; clear bel1)
    go_ret
    exact ⟨some ⟨w1.heap.size, 0, none⟩, 2, [1, 0], rfl, by decide, (row_new2 w1 1 0 _).mono (Nat.le_of_lt D1.out.lt) (Nat.le_refl _), D1.out.on.alloc _, D1.out.src.alloc _⟩
  | true =>
    have HI := Lib.hid hI
    go_upto_region 3 with (go_at_call 70; (with_reducible refine (l03Is_any p aS S cS loS tpS wa D0.out.row (Nat.le_trans tS (Nat.le_of_lt D0.out.lt)) sS).mono ?_); rintro e w1 ⟨rfl, bel1⟩; have D1 := Lib.hid (D0.out.below bel1); rw [HI.out]; clear bel1)
    clear c0 c1
    have h6 : S.length ≤ 6 := (isSp_iff.1 HI.out).hi
    have hbl := bl_le h6
    have hb0 := bl_pos S
    have c0 := D1.out.c0
    have c1 := D1.out.c1
    have hR1 := D1.out.lt
    have hb1 : b < w1.heap.size := by omega
    go_upto_region 5 with (first
      | (go_at_call 96; (with_reducible refine (drawM_any p aS S cS loS tpS b a len cap zs w1 D1.out.src HI.out D1.out.row (Nat.le_trans tS (Nat.le_of_lt D1.out.lt)) hd).mono ?_); rintro e w2 ⟨r, c, X, rfl, hXl, own2, cap2, on2, s2⟩; have D2 := Lib.hid (D1.out.only on2 s2); have HL := Lib.hid hXl; have HO2 := Lib.hid own2; have HC2 := Lib.hid cap2; clear own2 cap2 on2 s2 hXl)
      | (go_at_call 37; (with_reducible refine (next_any 30 b a len cap zs w2 D2.out.src).mono ?_); rintro e w3 ⟨x, rfl, hx, on3, s3⟩; have D3 := Lib.hid (D2.out.only on3 s3); have HO3 := Lib.hid ((ownR_only HO2.out on3 (.inl hb1) (Nat.le_refl _)).mono' (Nat.le_refl _) on3.size); have HC3 : Hid (c = X.length ∨ OutR w1.heap.size w3 (.slice r X.length c) X) := HC2.out.imp id (fun h => h.only on3 hb1); clear on3 s3 hx))
    clear c0 c1
    have hX0 : 0 < X.length := by rw [HL.out]; exact hb0
    have hX6 : X.length ≤ 64 := by rw [HL.out]; exact hbl
    obtain ⟨q, o, hr, hq0, hq1, hro⟩ := RowOwn.of HO3.out hX0
    subst hr
    have HRO := Lib.hid hro
    clear hro
    by_cases h0 : x = 0
    · subst h0
      rcases HC3.out with hc | hc
      · subst hc
        have HRA := Lib.hid (rowOwn_stay HRO.out (heap_other w3 (.cells #[.int .i64 0] 2) hq1))
        go_wp2_with (at_builtin; refine wpList_append_grows _ rfl _ _ 24 rfl 2 i0 (.int .i64 0) 1 8 Tryz.underlying24 hi hz0 hz1 hz2 rfl (by decide) (some ⟨q, o, none⟩) X.length X.length (X.map (Value.int .i64)) rfl (by intro h; cases h) (by simp) (olds_cells HRA.out) ⟨w3.heap.size, 0, none⟩ 1 1 [.int .i64 0] rfl rfl (World.news_of_block (cs := #[.int .i64 0]) (t := 2) (fr := (0, 0)) (heap_alloc_new w3 _)) (by simp [Value.oneCell']) (by omega) (by unfold maxLen; omega) (by omega) ?_; intro v9 w9 hown hgrow)
        obtain ⟨r9, c9, e9, t9⟩ := (OutR.push hown).tag
        subst e9
        go_ret
        exact ⟨r9, c9, X ++ [0], by simp, by show (X ++ [0]).length ≤ 65; rw [List.length_append]; simp; omega, t9.row.mono (by have := D3.out.lt; simp; omega) (Nat.le_refl _), (D3.out.on.alloc _).grown hgrow (by intro k h; cases h), (D3.out.src.alloc _).grown hgrow (by intro k h; cases h)⟩
      · have H6 : Hid (w3.ownsRow w1.heap.size 2 1 (.slice (some ⟨q, o, none⟩) X.length c) X.length (X.map (Value.int .i64))) := hc
        go_wp2_with ((at_builtin; refine wpList_append_lies _ rfl _ _ 24 rfl w1.heap.size 2 i0 (.int .i64 0) 1 8 Tryz.underlying24 hi hz0 hz1 hz2 rfl (by decide) (.slice (some ⟨q, o, none⟩) X.length c) X.length (X.map (Value.int .i64)) rfl (H6.out.alloc _) ⟨w3.heap.size, 0, none⟩ 1 1 [.int .i64 0] rfl rfl (World.news_of_block (cs := #[.int .i64 0]) (t := 2) (fr := (0, 0)) (heap_alloc_new w3 _)) (by simp [Value.oneCell']) (by omega) (by unfold maxLen; omega) (by omega) (by simp; omega) (w3.heap.size + 1) (by simp) ?_; intro gg cap w1 hown1 hgrow hat hlt1))
        go_ret
        exact ⟨some ⟨gg, 0, none⟩, cap, X ++ [0], by simp, by show (X ++ [0]).length ≤ 65; rw [List.length_append]; simp; omega, by
          obtain ⟨r9, c9, e9, t9⟩ := (OutR.push hown1).tag
          injection e9 with e91 e92 e93
          rw [e91]
          exact t9.row.mono (Nat.le_of_lt hR1) (Nat.le_refl _), (D3.out.on.alloc _).grown hgrow (fun k e => by have := (H6.out.lt _ e).1; omega), (D3.out.src.alloc _).grown hgrow (fun k e => by have := (H6.out.lt _ e).1; omega)⟩
    have e0 : (x == 0) = false := by simpa using h0
    by_cases h1 : x = 1
    · subst h1
      have DA : Hid (DrF p aS S cS loS tpS b a len cap zs w w3.drew) := D3.out.below (below_drew w3)
      have DB : Hid (DrF p aS S cS loS tpS b a len cap zs w (w3.alloc (.cells #[.int .i64 (-1), .int .i64 p] 2)).drew) := (D3.out.below (below_alloc w3 (.cells #[.int .i64 (-1), .int .i64 p] 2))).below (below_drew _)
      have RA : Hid (RowOwn w3.drew q o X.length (fun j => X.getD j 0)) := HRO.out.drew
      have RB : Hid (RowOwn (w3.alloc (.cells #[.int .i64 (-1), .int .i64 p] 2)).drew q o X.length (fun j => X.getD j 0)) := rowOwn_stay (rowOwn_stay HRO.out (heap_other w3 (.cells #[.int .i64 (-1), .int .i64 p] 2) hq1)) rfl
      have PB : Hid (RowAt (w3.alloc (.cells #[.int .i64 (-1), .int .i64 p] 2)).drew w3.heap.size [-1, p]) := rowOf w3 [-1, p] _
      have hqA : q < w3.drew.heap.size := hq1
      have hqB : q < (w3.alloc (.cells #[.int .i64 (-1), .int .i64 p] 2)).drew.heap.size := Nat.lt_of_lt_of_le hq1 (size_alloc w3 (.cells #[.int .i64 (-1), .int .i64 p] 2))
      have hcB : w3.heap.size < (w3.alloc (.cells #[.int .i64 (-1), .int .i64 p] 2)).drew.heap.size := lt_alloc w3 (.cells #[.int .i64 (-1), .int .i64 p] 2)
      have hqb : q ≠ b := by omega
      have hqR : w.heap.size < q := by omega
      have h3b : w3.heap.size ≠ b := by omega
      go_upto_region 8 with fail
      go_region_held3 (fun w' => w'.cell? ⟨w.heap.size, 0, none⟩ = some (.int .i64 p) ∧ w'.cell? ⟨w.heap.size, 1, none⟩ = some (.slice aS S.length cS)) (first | exact DA.out.ss | exact DB.out.ss | exact D9.out.ss | exact (D9.out.below (below_alloc _ _)).ss | exact D10.out.ss | exact (D10.out.below (below_alloc _ _)).ss | exact D11.out.ss | exact s12.out | go_keep) (first
        | (go_at_call 47; (with_reducible refine (l04Size_any p aS S cS w3.drew h6).mono ?_); rintro e w9 ⟨rfl, bel9⟩; have D9 := Lib.hid (DA.out.below bel9); have R9 := Lib.hid (rowOwn_stay RA.out (bel9.block q hqA)); have hq9 := Nat.lt_of_lt_of_le hqA bel9.size; have zc9 := bel9.size; clear bel9)
        | (go_at_call 47; (with_reducible refine (l04Size_any p aS S cS (w3.alloc (.cells #[.int .i64 (-1), .int .i64 p] 2)).drew h6).mono ?_); rintro e w9 ⟨rfl, bel9⟩; have D9 := Lib.hid (DB.out.below bel9); have R9 := Lib.hid (rowOwn_stay RB.out (bel9.block q hqB)); have hq9 := Nat.lt_of_lt_of_le hqB bel9.size; have zc9 := bel9.size; have P9 : Hid (RowAt w9 w3.heap.size [-1, p]) := (fun j hj => (bel9.cell (p := ⟨w3.heap.size, j, none⟩) hcB).trans (PB.out j hj)); have hc9 := Nat.lt_of_lt_of_le hcB bel9.size; clear bel9)
        | (go_at_call 37; (with_reducible refine (next_any (bl S) b a len cap zs w9 D9.out.src).mono ?_); rintro e w10 ⟨y, rfl, hy, on10, z10⟩; have P10 : Hid (RowAt w10 w3.heap.size [-1, p]) := (fun j hj => (on10.cell (p := ⟨w3.heap.size, j, none⟩) hc9 h3b).trans (P9.out j hj)); have hc10 := Nat.lt_of_lt_of_le hc9 on10.size; obtain ⟨hy0, hy1⟩ := hy (by omega); obtain ⟨j, rfl⟩ := Int.eq_ofNat_of_zero_le hy0; have hj : j < X.length := (by rw [HL.out]; omega); have HJ := Lib.hid hj; have hjI : (j : Int) < (X.length : Int) := (by omega); have D10 := Lib.hid (D9.out.only on10 z10); have R10 := Lib.hid (rowOwn_stay R9.out (on10.block q hq9 hqb)); have hq10 := Nat.lt_of_lt_of_le hq9 on10.size; have zc10 := on10.size; clear on10 z10 hy)
        | (go_at_call 37; (with_reducible refine (next_any (bl S) b a len cap zs w9 D9.out.src).mono ?_); rintro e w10 ⟨y, rfl, hy, on10, z10⟩; obtain ⟨hy0, hy1⟩ := hy (by omega); obtain ⟨j, rfl⟩ := Int.eq_ofNat_of_zero_le hy0; have hj : j < X.length := (by rw [HL.out]; omega); have HJ := Lib.hid hj; have hjI : (j : Int) < (X.length : Int) := (by omega); have D10 := Lib.hid (D9.out.only on10 z10); have R10 := Lib.hid (rowOwn_stay R9.out (on10.block q hq9 hqb)); have hq10 := Nat.lt_of_lt_of_le hq9 on10.size; have zc10 := on10.size; clear on10 z10 hy)
        | (go_at_call 37; (with_reducible refine (next_any (bl S) b a len cap zs (w9.alloc (.cells #[.int .i64 (-1), .int .i64 p] 2)) (D9.out.src.alloc _)).mono ?_); rintro e w10 ⟨y, rfl, hy, on10, z10⟩; have hc9 := lt_alloc w9 (.cells #[.int .i64 (-1), .int .i64 p] 2); have h9b : w9.heap.size ≠ b := (by omega); have P10 : Hid (RowAt w10 w9.heap.size [-1, p]) := (fun j hj => (on10.cell (p := ⟨w9.heap.size, j, none⟩) hc9 h9b).trans (rowOf w9 [-1, p] _ j hj)); have hc10 := Nat.lt_of_lt_of_le hc9 on10.size; obtain ⟨hy0, hy1⟩ := hy (by omega); obtain ⟨j, rfl⟩ := Int.eq_ofNat_of_zero_le hy0; have hj : j < X.length := (by rw [HL.out]; omega); have HJ := Lib.hid hj; have hjI : (j : Int) < (X.length : Int) := (by omega); have D10 := Lib.hid ((D9.out.below (below_alloc w9 (.cells #[.int .i64 (-1), .int .i64 p] 2))).only on10 z10); have R10 := Lib.hid (rowOwn_stay (rowOwn_stay R9.out (heap_other w9 (.cells #[.int .i64 (-1), .int .i64 p] 2) hq9)) (on10.block q (Nat.lt_of_lt_of_le hq9 (size_alloc w9 (.cells #[.int .i64 (-1), .int .i64 p] 2))) hqb)); have hq10 := Nat.lt_of_lt_of_le (Nat.lt_of_lt_of_le hq9 (size_alloc w9 (.cells #[.int .i64 (-1), .int .i64 p] 2))) on10.size; have zc10 := on10.size; clear on10 z10 hy)
        | (go_at_call 64; refine (pick_any w3.heap.size 2 [-1, p] b a len cap zs w10 D10.out.src P10.out rfl (by omega) (by omega) hc10 h3b).mono ?_; rintro e w11 ⟨z, rfl, _, on11, z11⟩; have D11 := Lib.hid (D10.out.only on11 z11); have R11 := Lib.hid (rowOwn_stay R10.out (on11.block q hq10 hqb)); have hq11 := Nat.lt_of_lt_of_le hq10 on11.size; have D12 := Lib.hid (D11.out.put (k := q) hqR (o + j) (.int .i64 z)); have s12 := Lib.hid D12.out.ss; have cy := R11.out.cell j HJ.out; have fy := R11.out.free j HJ.out; clear on11 z11)
        | (go_at_call 64; refine (pick_any w9.heap.size 2 [-1, p] b a len cap zs w10 D10.out.src P10.out rfl (by omega) (by omega) hc10 h9b).mono ?_; rintro e w11 ⟨z, rfl, _, on11, z11⟩; have D11 := Lib.hid (D10.out.only on11 z11); have R11 := Lib.hid (rowOwn_stay R10.out (on11.block q hq10 hqb)); have hq11 := Nat.lt_of_lt_of_le hq10 on11.size; have D12 := Lib.hid (D11.out.put (k := q) hqR (o + j) (.int .i64 z)); have s12 := Lib.hid D12.out.ss; have cy := R11.out.cell j HJ.out; have fy := R11.out.free j HJ.out; clear on11 z11)
        | (go_at_call 64; refine (pick_any w10.heap.size 2 [-1, p] b a len cap zs (w10.alloc (.cells #[.int .i64 (-1), .int .i64 p] 2)) (D10.out.src.alloc _) (rowOf w10 [-1, p] _) rfl (by omega) (by omega) (lt_alloc w10 (.cells #[.int .i64 (-1), .int .i64 p] 2)) (by omega)).mono ?_; rintro e w11 ⟨z, rfl, _, on11, z11⟩; have D11 := Lib.hid ((D10.out.below (below_alloc w10 (.cells #[.int .i64 (-1), .int .i64 p] 2))).only on11 z11); have R11 := Lib.hid (rowOwn_stay (rowOwn_stay R10.out (heap_other w10 (.cells #[.int .i64 (-1), .int .i64 p] 2) hq10)) (on11.block q (Nat.lt_of_lt_of_le hq10 (size_alloc w10 (.cells #[.int .i64 (-1), .int .i64 p] 2))) hqb)); have hq11 := Nat.lt_of_lt_of_le (Nat.lt_of_lt_of_le hq10 (size_alloc w10 (.cells #[.int .i64 (-1), .int .i64 p] 2))) on11.size; have D12 := Lib.hid (D11.out.put (k := q) hqR (o + j) (.int .i64 z)); have s12 := Lib.hid D12.out.ss; have cy := R11.out.cell j HJ.out; have fy := R11.out.free j HJ.out; clear on11 z11))
      all_goals
        go_wp2
        go_ret
        exact ⟨some ⟨q, o, none⟩, c, mkR X.length (fun i => if i = j then z else X.getD i 0), by simp only [mkR_len]; rfl, by show (mkR X.length _).length ≤ 65; rw [mkR_len]; omega, ((rowOwn_put R11.out HJ.out z).own (by omega) (by simp [World.setCell]; omega)).row, D12.out.on, D12.out.src⟩
    have e1 : (x == 1) = false := by simpa using h1
    go_wp2
    go_ret
    exact ⟨some ⟨q, o, none⟩, c, X, rfl, by omega, HO3.out.row.mono (Nat.le_of_lt hR1) (Nat.le_refl _), D3.out.on, D3.out.src⟩

end Go.Proofs.YtijklpcelbnnjaaGreat

namespace Go.Proofs.YtijklpcelbnnjaaGreat
open Go.RowKit
set_option linter.unusedVariables false

theorem one_r {p : Int} {S z : List Int} (h : isMv p S z = true) : prodM p S z (mOne S) = z := prodM_one_r p S z (Mv.len h) (Mv.num h)
theorem one_l {p : Int} {S z : List Int} (h : isMv p S z = true) : prodM p S (mOne S) z = z := prodM_one_l p S z (Mv.len h) (Mv.num h)
end Go.Proofs.YtijklpcelbnnjaaGreat

namespace Go.Proofs.YtijklpcelbnnjaaGreat
set_option linter.unusedVariables false

/-- All n rows with c numbers vanish at x. -/
def nul (p : Int) (n c : Nat) (R : Nat → Nat → Int) (x : Nat → Int) : Prop := ∀ i, i < n → sm c (fun j => R i j * x j) % p = 0

/-- Reduced rows, with their pivots. -/
structure Rref (p : Int) (n c : Nat) (R : Nat → Nat → Int) (P : Nat → Nat) : Prop where
  pv : ∀ i, i < n → P i < c
  mono : ∀ i i', i < i' → i' < n → P i < P i'
  one : ∀ i, i < n → R i (P i) = 1
  zer : ∀ i, i < n → ∀ i', i' < n → i ≠ i' → R i' (P i) = 0
  fst : ∀ i, i < n → ∀ j, j < P i → R i j = 0
  rng : ∀ i, i < n → ∀ j, j < c → 0 ≤ R i j ∧ R i j < p

/-- The vector that belongs to column k. -/
def kv (n : Nat) (R : Nat → Nat → Int) (P : Nat → Nat) (k j : Nat) : Int := (if j = k then 1 else 0) + sm n (fun i => if j = P i then - R i k else 0)

theorem sm_neg (n : Nat) (f : Nat → Int) : sm n (fun j => - f j) = - sm n f := by
  induction n with
  | zero => rfl
  | succ n ih => simp only [sm]; rw [ih]; omega
theorem ite_mul' (q : Prop) [Decidable q] (a x : Int) : a * (if q then x else 0) = if q then a * x else 0 := by split <;> simp

/-- A row of any rows times that vector. -/
theorem kv_row {p : Int} {n c : Nat} {R : Nat → Nat → Int} {P : Nat → Nat} (h : Rref p n c R P) (S : Nat → Int) {k : Nat} (hk : k < c) :
    sm c (fun j => S j * kv n R P k j) = S k - sm n (fun i => R i k * S (P i)) := by
  have e1 : sm c (fun j => S j * kv n R P k j) = sm c (fun j => (if j = k then S k else 0) + sm n (fun i => if j = P i then - (R i k * S (P i)) else 0)) := by
    apply sm_congr
    intro j hj
    unfold kv
    rw [Int.mul_add, ite_mul', Int.mul_one, ← sm_mul]
    congr 1
    · by_cases e : j = k
      · subst e; simp
      · simp [e]
    · apply sm_congr
      intro i hi
      rw [ite_mul']
      by_cases e : j = P i
      · subst e; simp only [if_pos]; rw [Int.mul_neg, Int.mul_comm]
      · simp [e]
  rw [e1, sm_add, sm_single, if_pos hk, sm_swap]
  have e2 : sm n (fun i => sm c (fun j => if j = P i then - (R i k * S (P i)) else 0)) = sm n (fun i => - (R i k * S (P i))) := by
    apply sm_congr
    intro i hi
    rw [sm_single, if_pos (h.pv i hi)]
  rw [e2, sm_neg]
  omega

theorem Rref.pick {p : Int} {n c : Nat} {R : Nat → Nat → Int} {P : Nat → Nat} (h : Rref p n c R P) {i : Nat} (hi : i < n) (f : Nat → Int) : sm n (fun i' => f i' * R i (P i')) = f i := by
  have e : sm n (fun i' => f i' * R i (P i')) = sm n (fun i' => if i' = i then f i else 0) := by
    apply sm_congr
    intro i' hi'
    by_cases e : i' = i
    · subst e; rw [h.one i' hi', if_pos rfl, Int.mul_one]
    · rw [h.zer i' hi' i hi e, if_neg e, Int.mul_zero]
  rw [e, sm_single, if_pos hi]

theorem kv_nul {p : Int} {n c : Nat} {R : Nat → Nat → Int} {P : Nat → Nat} (h : Rref p n c R P) {k : Nat} (hk : k < c) : nul p n c R (kv n R P k) := by
  intro i hi
  rw [kv_row h (R i) hk, h.pick hi (fun i' => R i' k)]
  simp

theorem kv_top {p : Int} {n c : Nat} {R : Nat → Nat → Int} {P : Nat → Nat} (h : Rref p n c R P) {k : Nat} (hnp : ∀ i, i < n → P i ≠ k) : kv n R P k k = 1 := by
  unfold kv
  have e : sm n (fun i => if k = P i then - R i k else 0) = sm n (fun _ => 0) := by
    apply sm_congr; intro i hi; rw [if_neg (fun e => hnp i hi e.symm)]
  rw [e, sm_zero]; simp
theorem kv_over {p : Int} {n c : Nat} {R : Nat → Nat → Int} {P : Nat → Nat} (h : Rref p n c R P) {k j : Nat} (hkj : k < j) : kv n R P k j = 0 := by
  unfold kv
  have e : sm n (fun i => if j = P i then - R i k else 0) = sm n (fun _ => 0) := by
    apply sm_congr; intro i hi
    by_cases e : j = P i
    · rw [if_pos e, h.fst i hi k (by omega)]; rfl
    · rw [if_neg e]
  rw [e, sm_zero, if_neg (by omega)]; rfl

/-- A column is a pivot exactly if nothing that vanishes ends there with 1. -/
theorem Rref.pivot {p : Int} {n c : Nat} {R : Nat → Nat → Int} {P : Nat → Nat} (h : Rref p n c R P) (hp : 1 < p) {k : Nat} (hk : k < c) :
    (∃ i, i < n ∧ P i = k) ↔ ¬ ∃ x : Nat → Int, nul p n c R x ∧ x k = 1 ∧ ∀ j, k < j → x j = 0 := by
  constructor
  · rintro ⟨i, hi, rfl⟩ ⟨x, hx, h1, h2⟩
    have e : sm c (fun j => R i j * x j) = sm c (fun j => if j = P i then 1 else 0) := by
      apply sm_congr
      intro j hj
      rcases Nat.lt_trichotomy j (P i) with l | l | l
      · rw [h.fst i hi j l, if_neg (by omega)]; simp
      · subst l; rw [h.one i hi, h1, if_pos rfl]; rfl
      · rw [h2 j l, if_neg (by omega)]; simp
    have := hx i hi
    rw [e, sm_single, if_pos hk, Int.emod_eq_of_lt (by omega) hp] at this
    omega
  · intro hno
    rcases Classical.em (∃ i, i < n ∧ P i = k) with h1 | h1
    · exact h1
    · exact absurd ⟨kv n R P k, kv_nul h hk, kv_top h (fun i hi e => h1 ⟨i, hi, e⟩), fun j hj => kv_over h hj⟩ hno

theorem enum_eq {n n' : Nat} {P P' : Nat → Nat} (m : ∀ i i', i < i' → i' < n → P i < P i') (m' : ∀ i i', i < i' → i' < n' → P' i < P' i')
    (h : ∀ i, i < n → ∃ k, k < n' ∧ P' k = P i) (h' : ∀ i, i < n' → ∃ k, k < n ∧ P k = P' i) : ∀ i, i < n → i < n' ∧ P i = P' i := by
  intro i
  induction i using Nat.strongRecOn with
  | ind i ih =>
    intro hi
    obtain ⟨k, hk, e⟩ := h i hi
    rcases Nat.lt_trichotomy k i with l | l | l
    · have := ih k l (by omega)
      have := m k i l hi
      omega
    · subst l; exact ⟨hk, e.symm⟩
    · obtain ⟨q, hq, e2⟩ := h' i (by omega)
      have l1 := m' i k l hk
      have l2 : q < i := by
        rcases Nat.lt_trichotomy q i with r | r | r
        · exact r
        · subst r; omega
        · have := m i q r hq; omega
      have l3 := ih q l2 (by omega)
      have l4 := m' q i l2 (by omega)
      omega

/-- Reduced rows are told by what vanishes on them. -/
theorem Rref.unique {p : Int} {n n' c : Nat} {R R' : Nat → Nat → Int} {P P' : Nat → Nat} (hp : 1 < p) (h : Rref p n c R P) (h' : Rref p n' c R' P') (hn : ∀ x, nul p n c R x ↔ nul p n' c R' x) :
    n = n' ∧ (∀ i, i < n → P i = P' i) ∧ ∀ i, i < n → ∀ j, j < c → R i j = R' i j := by
  have piv : ∀ k, k < c → ((∃ i, i < n ∧ P i = k) ↔ ∃ i, i < n' ∧ P' i = k) := by
    intro k hk
    rw [h.pivot hp hk, h'.pivot hp hk]
    constructor
    · intro g ⟨x, hx, r⟩; exact g ⟨x, (hn x).2 hx, r⟩
    · intro g ⟨x, hx, r⟩; exact g ⟨x, (hn x).1 hx, r⟩
  have a := enum_eq h.mono h'.mono (fun i hi => by obtain ⟨k, hk, e⟩ := (piv (P i) (h.pv i hi)).1 ⟨i, hi, rfl⟩; exact ⟨k, hk, e⟩) (fun i hi => by obtain ⟨k, hk, e⟩ := (piv (P' i) (h'.pv i hi)).2 ⟨i, hi, rfl⟩; exact ⟨k, hk, e⟩)
  have b := enum_eq h'.mono h.mono (fun i hi => by obtain ⟨k, hk, e⟩ := (piv (P' i) (h'.pv i hi)).2 ⟨i, hi, rfl⟩; exact ⟨k, hk, e⟩) (fun i hi => by obtain ⟨k, hk, e⟩ := (piv (P i) (h.pv i hi)).1 ⟨i, hi, rfl⟩; exact ⟨k, hk, e⟩)
  have hnn : n = n' := by
    rcases Nat.lt_trichotomy n n' with l | l | l
    · have := (b n l).1; omega
    · exact l
    · have := (a n' l).1; omega
  subst hnn
  refine ⟨rfl, fun i hi => (a i hi).2, fun i hi k hk => ?_⟩
  have hz := (hn _).1 (kv_nul h hk) i hi
  rw [kv_row h (R' i) hk] at hz
  have e : sm n (fun i' => R i' k * R' i (P i')) = sm n (fun i' => R i' k * R' i (P' i')) := by
    apply sm_congr; intro i' hi'; rw [(a i' hi').2]
  rw [e, h'.pick hi (fun i' => R i' k)] at hz
  have r1 := h.rng i hi k hk
  have r2 := h'.rng i hi k hk
  have := Int.emod_emod_of_dvd (R' i k) (Int.dvd_refl p)
  have h3 : R' i k % p = R i k % p := Int.emod_eq_emod_iff_emod_sub_eq_zero.2 hz
  rw [Int.emod_eq_of_lt r1.1 r1.2, Int.emod_eq_of_lt r2.1 r2.2] at h3
  exact h3.symm

end Go.Proofs.YtijklpcelbnnjaaGreat
