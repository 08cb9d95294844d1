/-
  Contracts and facts that the walk of the law rests on.
  Conditions: those that each theorem names.
-/
import Derived.Test.YtgfanoejohpmkaaGreatQp48
import Derived.Test.YtgfanoejohpmkaaGreatQp6
import Derived.ArgAppend
import Derived.Test.YtgfanoejohpmkaaGreatQp5
import Derived.Deep.RegionHeld3
import Derived.Deep.DeepCutAuto
import Derived.Test.YtgfanoejohpmkaaGreatQp36
namespace Go.Proofs.YtgfanoejohpmkaaGreat
open Go.RowKit
set_option linter.unusedVariables false
theorem row_new2 (w : World) (x y : Int) (t : TypeId) : RowIn w.heap.size (w.alloc (.cells #[.int .i64 x, .int .i64 y] t)).heap.size (w.alloc (.cells #[.int .i64 x, .int .i64 y] t)) (some ⟨w.heap.size, 0, none⟩) [x, y] :=
 .inr ⟨w.heap.size, 0, rfl, Nat.le_refl _, by simp, fun j hj => by
  match j, hj with
  | 0, _ => simp [go_sem]
  | 1, _ => simp [go_sem]⟩
theorem olds_cells {w : World} {q o : Nat} {X : List Int} (h : RowOwn w q o X.length (fun j => X.getD j 0)) : ∀ b, (some (⟨q, o, none⟩ : Addr)) = some b → ∀ j u, (X.map (Value.int .i64))[j]? = some u → w.cell? (b.add j) = some u := fun b e j u hu => by
 cases e
 rw [List.getElem?_map] at hu
 cases hx : X[j]? with
 | none => rw [hx] at hu; cases hu
 | some x =>
  rw [hx] at hu
  cases hu
  have hj : j < X.length := (List.getElem?_eq_some_iff.1 hx).1
  have := h.cell j hj
  simp only [List.getD, hx, Option.getD_some] at this
  by_cases hj0 : j = 0
  · subst hj0; simpa [Addr.add] using this
  · simpa [Addr.add, hj0] using this
set_option maxRecDepth 100000 in
set_option maxHeartbeats 3200000 in
theorem spoilM_any (p : Int) (aS : Option Addr) (S : List Int) (cS loS tpS b : Nat) (a : Option Addr) (len cap : Nat) (zs : List Int) (w : World) (hs : Src w b a len cap zs) (sS : S.length ≤ 1048576) (hS : RowIn loS tpS w aS S) (tS : tpS ≤ w.heap.size) (hd : b < loS ∨ tpS ≤ b) :
 Calls Tryz.prog 109 #[.pointer (some ⟨b, 0, none⟩), .agg #[.int .i64 p, .slice aS S.length cS]] w (DrawnR (fun X => X.length ≤ 65) b a len cap zs w) := by
 obtain ⟨i0, hi, hz0, hz1, hz2⟩ := info_parts info64
 have hlt := hs.lt
 have D0 : Hid (DrF p aS S cS loS tpS b a len cap zs w (w.alloc (.cells #[.int .i64 p, .slice aS S.length cS] 26))) := DrF.start hs hS tS hd _
 clear hs hS
 go_enter Tryz.func109, Tryz.ntmps109
 go_upto_region 1 with fail
 obtain ⟨wa, hwa⟩ : ∃ z, z = w.alloc (.cells #[.int .i64 p, .slice aS S.length cS] 26) := ⟨_, rfl⟩
 rw [← hwa] at D0 ⊢
 clear hwa
 have c0 := D0.out.c0
 have c1 := D0.out.c1
 have hRa := D0.out.lt
 cases hI : isSp p S with
 | false =>
  have HI := Lib.hid hI
  go_wp2_with (go_at_call 83; (with_reducible refine (l03Is_any p aS S cS loS tpS wa D0.out.row (Nat.le_trans tS (Nat.le_of_lt D0.out.lt)) sS).mono ?_); rintro e w1 ⟨rfl, bel1⟩; have D1 := Lib.hid (D0.out.below bel1); rw [HI.out]; clear bel1)
  go_ret
  exact ⟨some ⟨w1.heap.size, 0, none⟩, 2, [1, 0], rfl, by decide, (row_new2 w1 1 0 _).mono (Nat.le_of_lt D1.out.lt) (Nat.le_refl _), D1.out.on.alloc _, D1.out.src.alloc _⟩
 | true =>
  have HI := Lib.hid hI
  go_upto_region 3 with (go_at_call 83; (with_reducible refine (l03Is_any p aS S cS loS tpS wa D0.out.row (Nat.le_trans tS (Nat.le_of_lt D0.out.lt)) sS).mono ?_); rintro e w1 ⟨rfl, bel1⟩; have D1 := Lib.hid (D0.out.below bel1); rw [HI.out]; clear bel1)
  clear c0 c1
  have h6 : S.length ≤ 6 := (isSp_iff.1 HI.out).hi
  have hbl := bl_le h6
  have hb0 := bl_pos S
  have c0 := D1.out.c0
  have c1 := D1.out.c1
  have hR1 := D1.out.lt
  have hb1 : b < w1.heap.size := by omega
  go_upto_region 5 with (first
   | (go_at_call 196; (with_reducible refine (drawM_any p aS S cS loS tpS b a len cap zs w1 D1.out.src HI.out D1.out.row (Nat.le_trans tS (Nat.le_of_lt D1.out.lt)) hd).mono ?_); rintro e w2 ⟨r, c, X, rfl, hXl, own2, cap2, on2, s2⟩; have D2 := Lib.hid (D1.out.only on2 s2); have HL := Lib.hid hXl; have HO2 := Lib.hid own2; have HC2 := Lib.hid cap2; clear own2 cap2 on2 s2 hXl)
   | (go_at_call 84; (with_reducible refine (next_any 30 b a len cap zs w2 D2.out.src).mono ?_); rintro e w3 ⟨x, rfl, hx, on3, s3⟩; have D3 := Lib.hid (D2.out.only on3 s3); have HO3 := Lib.hid ((ownR_only HO2.out on3 (.inl hb1) (Nat.le_refl _)).mono' (Nat.le_refl _) on3.size); have HC3 : Hid (c = X.length ∨ OutR w1.heap.size w3 (.slice r X.length c) X) := HC2.out.imp id (fun h => h.only on3 hb1); clear on3 s3 hx))
  clear c0 c1
  have hX0 : 0 < X.length := by rw [HL.out]; exact hb0
  have hX6 : X.length ≤ 64 := by rw [HL.out]; exact hbl
  obtain ⟨q, o, hr, hq0, hq1, hro⟩ := RowOwn.of HO3.out hX0
  subst hr
  have HRO := Lib.hid hro
  clear hro
  by_cases h0 : x = 0
  · subst h0
    rcases HC3.out with hc | hc
    · subst hc
      have HRA := Lib.hid (rowOwn_stay HRO.out (heap_other w3 (.cells #[.int .i64 0] 2) hq1))
      go_wp2_with (at_builtin; refine wpList_append_grows _ rfl _ _ 24 rfl 2 i0 (.int .i64 0) 1 8 Tryz.underlying24 hi hz0 hz1 hz2 rfl (by decide) (some ⟨q, o, none⟩) X.length X.length (X.map (Value.int .i64)) rfl (by intro h; cases h) (by simp) (olds_cells HRA.out) ⟨w3.heap.size, 0, none⟩ 1 1 [.int .i64 0] rfl rfl (World.news_of_block (cs := #[.int .i64 0]) (t := 2) (fr := (0, 0)) (heap_alloc_new w3 _)) (by simp [Value.oneCell']) (by omega) (by unfold maxLen; omega) (by omega) ?_; intro v9 w9 hown hgrow)
      obtain ⟨r9, c9, e9, t9⟩ := (OutR.push hown).tag
      subst e9
      go_ret
      exact ⟨r9, c9, X ++ [0], by simp, by show (X ++ [0]).length ≤ 65; rw [List.length_append]; simp; omega, t9.row.mono (by have := D3.out.lt; simp; omega) (Nat.le_refl _), (D3.out.on.alloc _).grown hgrow (by intro k h; cases h), (D3.out.src.alloc _).grown hgrow (by intro k h; cases h)⟩
    · have H6 : Hid (w3.ownsRow w1.heap.size 2 1 (.slice (some ⟨q, o, none⟩) X.length c) X.length (X.map (Value.int .i64))) := hc
      go_wp2_with ((at_builtin; refine wpList_append_lies _ rfl _ _ 24 rfl w1.heap.size 2 i0 (.int .i64 0) 1 8 Tryz.underlying24 hi hz0 hz1 hz2 rfl (by decide) (.slice (some ⟨q, o, none⟩) X.length c) X.length (X.map (Value.int .i64)) rfl (H6.out.alloc _) ⟨w3.heap.size, 0, none⟩ 1 1 [.int .i64 0] rfl rfl (World.news_of_block (cs := #[.int .i64 0]) (t := 2) (fr := (0, 0)) (heap_alloc_new w3 _)) (by simp [Value.oneCell']) (by omega) (by unfold maxLen; omega) (by omega) (by simp; omega) (w3.heap.size + 1) (by simp) ?_; intro gg cap w1 hown1 hgrow hat hlt1))
      go_ret
      exact ⟨some ⟨gg, 0, none⟩, cap, X ++ [0], by simp, by show (X ++ [0]).length ≤ 65; rw [List.length_append]; simp; omega, by
       obtain ⟨r9, c9, e9, t9⟩ := (OutR.push hown1).tag
       injection e9 with e91 e92 e93
       rw [e91]
       exact t9.row.mono (Nat.le_of_lt hR1) (Nat.le_refl _), (D3.out.on.alloc _).grown hgrow (fun k e => by have := (H6.out.lt _ e).1; omega), (D3.out.src.alloc _).grown hgrow (fun k e => by have := (H6.out.lt _ e).1; omega)⟩
  have e0 : (x == 0) = false := by simpa using h0
  by_cases h1 : x = 1
  · subst h1
    have DA : Hid (DrF p aS S cS loS tpS b a len cap zs w w3.drew) := D3.out.below (below_drew w3)
    have DB : Hid (DrF p aS S cS loS tpS b a len cap zs w (w3.alloc (.cells #[.int .i64 (-1), .int .i64 p] 2)).drew) := (D3.out.below (below_alloc w3 (.cells #[.int .i64 (-1), .int .i64 p] 2))).below (below_drew _)
    have RA : Hid (RowOwn w3.drew q o X.length (fun j => X.getD j 0)) := HRO.out.drew
    have RB : Hid (RowOwn (w3.alloc (.cells #[.int .i64 (-1), .int .i64 p] 2)).drew q o X.length (fun j => X.getD j 0)) := rowOwn_stay (rowOwn_stay HRO.out (heap_other w3 (.cells #[.int .i64 (-1), .int .i64 p] 2) hq1)) rfl
    have PB : Hid (RowAt (w3.alloc (.cells #[.int .i64 (-1), .int .i64 p] 2)).drew w3.heap.size [-1, p]) := rowOf w3 [-1, p] _
    have hqA : q < w3.drew.heap.size := hq1
    have hqB : q < (w3.alloc (.cells #[.int .i64 (-1), .int .i64 p] 2)).drew.heap.size := Nat.lt_of_lt_of_le hq1 (size_alloc w3 (.cells #[.int .i64 (-1), .int .i64 p] 2))
    have hcB : w3.heap.size < (w3.alloc (.cells #[.int .i64 (-1), .int .i64 p] 2)).drew.heap.size := lt_alloc w3 (.cells #[.int .i64 (-1), .int .i64 p] 2)
    have hqb : q ≠ b := by omega
    have hqR : w.heap.size < q := by omega
    have h3b : w3.heap.size ≠ b := by omega
    go_upto_region 8 with fail
    go_region_held3 (fun w' => w'.cell? ⟨w.heap.size, 0, none⟩ = some (.int .i64 p) ∧ w'.cell? ⟨w.heap.size, 1, none⟩ = some (.slice aS S.length cS)) (first | exact DA.out.ss | exact DB.out.ss | exact D9.out.ss | exact (D9.out.below (below_alloc _ _)).ss | exact D10.out.ss | exact (D10.out.below (below_alloc _ _)).ss | exact D11.out.ss | exact s12.out | go_keep) (first
     | (go_at_call 197; (with_reducible refine (l04Size_any p aS S cS w3.drew h6).mono ?_); rintro e w9 ⟨rfl, bel9⟩; have D9 := Lib.hid (DA.out.below bel9); have R9 := Lib.hid (rowOwn_stay RA.out (bel9.block q hqA)); have hq9 := Nat.lt_of_lt_of_le hqA bel9.size; have zc9 := bel9.size; clear bel9)
     | (go_at_call 197; (with_reducible refine (l04Size_any p aS S cS (w3.alloc (.cells #[.int .i64 (-1), .int .i64 p] 2)).drew h6).mono ?_); rintro e w9 ⟨rfl, bel9⟩; have D9 := Lib.hid (DB.out.below bel9); have R9 := Lib.hid (rowOwn_stay RB.out (bel9.block q hqB)); have hq9 := Nat.lt_of_lt_of_le hqB bel9.size; have zc9 := bel9.size; have P9 : Hid (RowAt w9 w3.heap.size [-1, p]) := (fun j hj => (bel9.cell (p := ⟨w3.heap.size, j, none⟩) hcB).trans (PB.out j hj)); have hc9 := Nat.lt_of_lt_of_le hcB bel9.size; clear bel9)
     | (go_at_call 84; (with_reducible refine (next_any (bl S) b a len cap zs w9 D9.out.src).mono ?_); rintro e w10 ⟨y, rfl, hy, on10, z10⟩; have P10 : Hid (RowAt w10 w3.heap.size [-1, p]) := (fun j hj => (on10.cell (p := ⟨w3.heap.size, j, none⟩) hc9 h3b).trans (P9.out j hj)); have hc10 := Nat.lt_of_lt_of_le hc9 on10.size; obtain ⟨hy0, hy1⟩ := hy (by omega); obtain ⟨j, rfl⟩ := Int.eq_ofNat_of_zero_le hy0; have hj : j < X.length := (by rw [HL.out]; omega); have HJ := Lib.hid hj; have hjI : (j : Int) < (X.length : Int) := (by omega); have D10 := Lib.hid (D9.out.only on10 z10); have R10 := Lib.hid (rowOwn_stay R9.out (on10.block q hq9 hqb)); have hq10 := Nat.lt_of_lt_of_le hq9 on10.size; have zc10 := on10.size; clear on10 z10 hy)
     | (go_at_call 84; (with_reducible refine (next_any (bl S) b a len cap zs w9 D9.out.src).mono ?_); rintro e w10 ⟨y, rfl, hy, on10, z10⟩; obtain ⟨hy0, hy1⟩ := hy (by omega); obtain ⟨j, rfl⟩ := Int.eq_ofNat_of_zero_le hy0; have hj : j < X.length := (by rw [HL.out]; omega); have HJ := Lib.hid hj; have hjI : (j : Int) < (X.length : Int) := (by omega); have D10 := Lib.hid (D9.out.only on10 z10); have R10 := Lib.hid (rowOwn_stay R9.out (on10.block q hq9 hqb)); have hq10 := Nat.lt_of_lt_of_le hq9 on10.size; have zc10 := on10.size; clear on10 z10 hy)
     | (go_at_call 84; (with_reducible refine (next_any (bl S) b a len cap zs (w9.alloc (.cells #[.int .i64 (-1), .int .i64 p] 2)) (D9.out.src.alloc _)).mono ?_); rintro e w10 ⟨y, rfl, hy, on10, z10⟩; have hc9 := lt_alloc w9 (.cells #[.int .i64 (-1), .int .i64 p] 2); have h9b : w9.heap.size ≠ b := (by omega); have P10 : Hid (RowAt w10 w9.heap.size [-1, p]) := (fun j hj => (on10.cell (p := ⟨w9.heap.size, j, none⟩) hc9 h9b).trans (rowOf w9 [-1, p] _ j hj)); have hc10 := Nat.lt_of_lt_of_le hc9 on10.size; obtain ⟨hy0, hy1⟩ := hy (by omega); obtain ⟨j, rfl⟩ := Int.eq_ofNat_of_zero_le hy0; have hj : j < X.length := (by rw [HL.out]; omega); have HJ := Lib.hid hj; have hjI : (j : Int) < (X.length : Int) := (by omega); have D10 := Lib.hid ((D9.out.below (below_alloc w9 (.cells #[.int .i64 (-1), .int .i64 p] 2))).only on10 z10); have R10 := Lib.hid (rowOwn_stay (rowOwn_stay R9.out (heap_other w9 (.cells #[.int .i64 (-1), .int .i64 p] 2) hq9)) (on10.block q (Nat.lt_of_lt_of_le hq9 (size_alloc w9 (.cells #[.int .i64 (-1), .int .i64 p] 2))) hqb)); have hq10 := Nat.lt_of_lt_of_le (Nat.lt_of_lt_of_le hq9 (size_alloc w9 (.cells #[.int .i64 (-1), .int .i64 p] 2))) on10.size; have zc10 := on10.size; clear on10 z10 hy)
     | (go_at_call 174; refine (pick_any w3.heap.size 2 [-1, p] b a len cap zs w10 D10.out.src P10.out rfl (by omega) (by omega) hc10 h3b).mono ?_; rintro e w11 ⟨z, rfl, _, on11, z11⟩; have D11 := Lib.hid (D10.out.only on11 z11); have R11 := Lib.hid (rowOwn_stay R10.out (on11.block q hq10 hqb)); have hq11 := Nat.lt_of_lt_of_le hq10 on11.size; have D12 := Lib.hid (D11.out.put (k := q) hqR (o + j) (.int .i64 z)); have s12 := Lib.hid D12.out.ss; have cy := R11.out.cell j HJ.out; have fy := R11.out.free j HJ.out; clear on11 z11)
     | (go_at_call 174; refine (pick_any w9.heap.size 2 [-1, p] b a len cap zs w10 D10.out.src P10.out rfl (by omega) (by omega) hc10 h9b).mono ?_; rintro e w11 ⟨z, rfl, _, on11, z11⟩; have D11 := Lib.hid (D10.out.only on11 z11); have R11 := Lib.hid (rowOwn_stay R10.out (on11.block q hq10 hqb)); have hq11 := Nat.lt_of_lt_of_le hq10 on11.size; have D12 := Lib.hid (D11.out.put (k := q) hqR (o + j) (.int .i64 z)); have s12 := Lib.hid D12.out.ss; have cy := R11.out.cell j HJ.out; have fy := R11.out.free j HJ.out; clear on11 z11)
     | (go_at_call 174; refine (pick_any w10.heap.size 2 [-1, p] b a len cap zs (w10.alloc (.cells #[.int .i64 (-1), .int .i64 p] 2)) (D10.out.src.alloc _) (rowOf w10 [-1, p] _) rfl (by omega) (by omega) (lt_alloc w10 (.cells #[.int .i64 (-1), .int .i64 p] 2)) (by omega)).mono ?_; rintro e w11 ⟨z, rfl, _, on11, z11⟩; have D11 := Lib.hid ((D10.out.below (below_alloc w10 (.cells #[.int .i64 (-1), .int .i64 p] 2))).only on11 z11); have R11 := Lib.hid (rowOwn_stay (rowOwn_stay R10.out (heap_other w10 (.cells #[.int .i64 (-1), .int .i64 p] 2) hq10)) (on11.block q (Nat.lt_of_lt_of_le hq10 (size_alloc w10 (.cells #[.int .i64 (-1), .int .i64 p] 2))) hqb)); have hq11 := Nat.lt_of_lt_of_le (Nat.lt_of_lt_of_le hq10 (size_alloc w10 (.cells #[.int .i64 (-1), .int .i64 p] 2))) on11.size; have D12 := Lib.hid (D11.out.put (k := q) hqR (o + j) (.int .i64 z)); have s12 := Lib.hid D12.out.ss; have cy := R11.out.cell j HJ.out; have fy := R11.out.free j HJ.out; clear on11 z11))
    all_goals
     go_wp2
     go_ret
     exact ⟨some ⟨q, o, none⟩, c, mkR X.length (fun i => if i = j then z else X.getD i 0), by simp only [mkR_len]; rfl, by show (mkR X.length _).length ≤ 65; rw [mkR_len]; omega, ((rowOwn_put R11.out HJ.out z).own (by omega) (by simp [World.setCell]; omega)).row, D12.out.on, D12.out.src⟩
  have e1 : (x == 1) = false := by simpa using h1
  go_wp2
  go_ret
  exact ⟨some ⟨q, o, none⟩, c, X, rfl, by omega, HO3.out.row.mono (Nat.le_of_lt hR1) (Nat.le_refl _), D3.out.on, D3.out.src⟩
def DrawnQ (w : World) (e : Ending) (w' : World) : Prop :=
 ∃ p r X c r1 Y c1 r2 Z c2, e = .returned (.tuple #[.agg #[.int .i64 p, .slice r X.length c], .slice r1 Y.length c1, .slice r2 Z.length c2]) ∧ X.length ≤ 7 ∧ Y.length ≤ 65 ∧ Z.length ≤ 65 ∧ RowIn w.heap.size w'.heap.size w' r X ∧ RowIn w.heap.size w'.heap.size w' r1 Y ∧ RowIn w.heap.size w'.heap.size w' r2 Z ∧ Below w.heap.size w w'
structure DL (b : Nat) (a : Option Addr) (len cap : Nat) (zs : List Int) (g : Nat) (p : Int) (r : Option Addr) (X : List Int) (c lo tp : Nat) (w : World) (W : World) : Prop where
 src : Src W b a len cap zs
 c0 : W.cell? ⟨g, 0, none⟩ = some (.int .i64 p)
 c1 : W.cell? ⟨g, 1, none⟩ = some (.slice r X.length c)
 row : RowIn lo tp W r X
 on : Only b w W
 hg : w.heap.size ≤ g
 hgW : g < W.heap.size
 hb : b < w.heap.size
 ht : tp ≤ w.heap.size
 hS : b < lo ∨ tp ≤ b
theorem DL.tW {b : Nat} {a : Option Addr} {len cap : Nat} {zs : List Int} {g : Nat} {p : Int} {r : Option Addr} {X : List Int} {c lo tp : Nat} {w : World} {W : World} (h : DL b a len cap zs g p r X c lo tp w W) : tp ≤ W.heap.size := Nat.le_trans h.ht h.on.size
theorem DL.only {b : Nat} {a : Option Addr} {len cap : Nat} {zs : List Int} {g : Nat} {p : Int} {r : Option Addr} {X : List Int} {c lo tp : Nat} {w : World} {W W' : World} (h : DL b a len cap zs g p r X c lo tp w W) (ho : Only b W W') (hs : Src W' b a len cap zs) : DL b a len cap zs g p r X c lo tp w W' :=
 { h with src := hs, c0 := (ho.cell (p := ⟨g, 0, none⟩) h.hgW (Nat.ne_of_gt (Nat.lt_of_lt_of_le h.hb h.hg))).trans h.c0, c1 := (ho.cell (p := ⟨g, 1, none⟩) h.hgW (Nat.ne_of_gt (Nat.lt_of_lt_of_le h.hb h.hg))).trans h.c1, row := h.row.only ho h.hS h.tW, on := h.on.trans ho, hgW := Nat.lt_of_lt_of_le h.hgW ho.size }
theorem DL.below {b : Nat} {a : Option Addr} {len cap : Nat} {zs : List Int} {g : Nat} {p : Int} {r : Option Addr} {X : List Int} {c lo tp : Nat} {w : World} {W W' : World} (h : DL b a len cap zs g p r X c lo tp w W) (hb : Below W.heap.size W W') : DL b a len cap zs g p r X c lo tp w W' := h.only (Only.of_below hb) (h.src.step hb)
theorem listB_of7 {p : Int} {S : List Int} {m : List (List Int)} (h : m.length ≤ 16 ∧ ∀ i, i < m.length → isVec p S.length (rw' m i) = true) : listB p S m = true := by
 unfold listB
 rw [Bool.and_eq_true, decide_eq_true_eq]
 refine ⟨List.all_eq_true.2 fun v hv => ?_, h.1⟩
 obtain ⟨i, hi, rfl⟩ := List.getElem_of_mem hv
 have := h.2 i hi
 unfold rw' at this
 simpa [List.getD, List.getElem?_eq_getElem hi] using this
theorem wvB_len (p : Int) (S : List Int) (m : List (List Int)) : (wvB p S m).length = bl S := wvM_len _ _ _ _
theorem scB_size {p : Int} {S : List Int} (hs : isSp p S = true) (m : List (List Int)) (z : Int) : (sclR p (wvB p S m) z).length ≤ 65 := by
 unfold sclR
 rw [mkR_len, wvB_len]
 have := bl_le (isSp_iff.1 hs).hi
 omega
theorem vec_push {p : Int} {n : Nat} {X : List Int} {m : List (List Int)} (h : ∀ i, i < m.length → isVec p n (rw' m i) = true) (h1 : isVec p n X = true) : ∀ i, i < (m ++ [X]).length → isVec p n (rw' (m ++ [X]) i) = true := fun i hi => by
 rw [List.length_append] at hi
 have hi' : i < m.length + 1 := hi
 by_cases e : i < m.length
 · rw [rw_append e]; exact h i e
 · rw [show i = m.length by omega, rw_append_last]; exact h1
set_option maxRecDepth 100000 in
set_option maxHeartbeats 6400000 in
theorem draw6_any (p : Int) (r : Option Addr) (X : List Int) (c lo tp b : Nat) (a : Option Addr) (len cap : Nat) (zs : List Int) (w : World) (hs : Src w b a len cap zs) (sS : X.length ≤ 1048576) (hS : RowIn lo tp w r X) (tS : tp ≤ w.heap.size) (hd : b < lo ∨ tp ≤ b) :
 Calls Tryz.prog 210 #[.pointer (some ⟨b, 0, none⟩), .agg #[.int .i64 p, .slice r X.length c]] w (DrawnR (fun Y => Y.length ≤ 65) b a len cap zs w) := by
 obtain ⟨j0, kj, kz0, kz1, kz2⟩ := info_parts info_slice
 have hlt := hs.lt
 have HSR := Lib.hid hs
 have HS := Lib.hid hS
 clear hS hs
 go_enter Tryz.func210, Tryz.ntmps210
 go_upto_region 1 with fail
 obtain ⟨w1, hw1⟩ : ∃ z, z = w.alloc (.cells #[.int .i64 p, .slice r X.length c] 26) := ⟨_, rfl⟩
 obtain ⟨g, hg⟩ : ∃ g, g = w.heap.size := ⟨_, rfl⟩
 have D1 : Hid (DL b a len cap zs g p r X c lo tp w w1) := by
  show DL b a len cap zs g p r X c lo tp w w1
  have hb2 : Below w.heap.size w w1 := by rw [hw1]; exact below_alloc w _
  exact { src := HSR.out.step hb2, c0 := by rw [hw1, hg]; exact nw0 w _ _ _, c1 := by rw [hw1, hg]; exact nw1 w _ _ _, row := HS.out.below hb2 tS, on := Only.of_below hb2, hg := by rw [hg]; exact Nat.le_refl _, hgW := by rw [hw1, hg]; exact lt_alloc w _, hb := hlt, ht := tS, hS := hd }
 rw [← hw1, ← hg]
 have k0 := D1.out.c0
 have k1 := D1.out.c1
 clear hw1 hg
 cases hi : isSp p X with
 | false =>
  have HI := Lib.hid hi
  clear hi
  go_wp2_with (first | (go_at_call 83; ((with_reducible refine (l03Is_any p r X c lo tp w1 D1.out.row D1.out.tW sS).mono ?_); rintro e w2 ⟨rfl, b_⟩; rw [HI.out]; have D2 := Lib.hid (D1.out.below b_); clear b_ k0 k1; have k0 := D2.out.c0; have k1 := D2.out.c1)) | (go_at_call 109; ((with_reducible refine (spoilM_any p r X c lo tp b a len cap zs w2 D2.out.src sS D2.out.row D2.out.tW hd).mono ?_); rintro e w9 ⟨rY, cY, Y, rfl, hY, o_, on_, s_⟩; have LY := Lib.hid hY; have RY := Lib.hid (o_.mono (D2.out.on.size) (Nat.le_refl _)); have D9 := Lib.hid (D2.out.only on_ s_); clear on_ s_ o_ hY k0 k1)))
  go_ret
  exact ⟨rY, cY, Y, rfl, LY.out, RY.out, D9.out.on, D9.out.src⟩
 | true =>
  have HI := Lib.hid hi
  clear hi
  have hpb := prm_bd (isSp_iff.1 HI.out).prime
  have h6 := (isSp_iff.1 HI.out).hi
  have hbl := bl_le h6
  have hp1 : 1 ≤ p := by omega
  have e1 : IntKind.i64.wrap (p - 1) = p - 1 := IntWalk.i64_in _ (by omega)
  have e2 : wrap64 (p - 1) = p - 1 := by unfold wrap64; omega
  have e3 : IntKind.i64.wrap ((X.length : Int) + 1) = (X.length : Int) + 1 := IntWalk.i64_in _ (by omega)
  have e4 : wrap64 ((X.length : Int) + 1) = (X.length : Int) + 1 := by unfold wrap64; omega
  go_upto_region 4 with (first | (go_at_call 83; ((with_reducible refine (l03Is_any p r X c lo tp w1 D1.out.row D1.out.tW sS).mono ?_); rintro e w2 ⟨rfl, b_⟩; rw [HI.out]; have D2 := Lib.hid (D1.out.below b_); clear b_ k0 k1; have k0 := D2.out.c0; have k1 := D2.out.c1)) | (go_at_call 84; ((with_reducible refine (next_any 8 b a len cap zs w2 D2.out.src).mono ?_); rintro e w3 ⟨x8, rfl, _, on_, s_⟩; have D3 := Lib.hid (D2.out.only on_ s_); clear on_ s_ k0 k1; have k0 := D3.out.c0; have k1 := D3.out.c1)) | (go_at_call 109; ((with_reducible refine (spoilM_any p r X c lo tp b a len cap zs w3 D3.out.src sS D3.out.row D3.out.tW hd).mono ?_); rintro e w9 ⟨rY, cY, Y, rfl, hY, o_, on_, s_⟩; have LY := Lib.hid hY; have RY := Lib.hid (o_.mono (D3.out.on.size) (Nat.le_refl _)); have D9 := Lib.hid (D3.out.only on_ s_); clear on_ s_ o_ hY k0 k1)))
  · go_wp2_with (first | (go_at_call 109; ((with_reducible refine (spoilM_any p r X c lo tp b a len cap zs w3 D3.out.src sS D3.out.row D3.out.tW hd).mono ?_); rintro e w9 ⟨rY, cY, Y, rfl, hY, o_, on_, s_⟩; have LY := Lib.hid hY; have RY := Lib.hid (o_.mono (D3.out.on.size) (Nat.le_refl _)); have D9 := Lib.hid (D3.out.only on_ s_); clear on_ s_ o_ hY k0 k1)))
    go_ret
    exact ⟨rY, cY, Y, rfl, LY.out, RY.out, D9.out.on, D9.out.src⟩
  · obtain ⟨w4, hw4⟩ : ∃ z, z = w3.alloc (.cells #[] 24) := ⟨_, rfl⟩
    obtain ⟨B, hB⟩ : ∃ z, z = w3.heap.size := ⟨_, rfl⟩
    have D4 : Hid (DU b a len cap zs g p r X c lo tp w B [] (.slice (some ⟨B, 0, none⟩) 0 0) w4) := by
     show DU _ _ _ _ _ _ _ _ _ _ _ _ _ _ _ _ _
     have hb2 : Below w3.heap.size w3 w4 := by rw [hw4]; exact below_alloc w3 _
     have h3 := D3.out.below hb2
     exact { src := h3.src, c0 := h3.c0, c1 := h3.c1, row := h3.row, out := by rw [hw4, hB]; exact OutM.start w3 _ _ (Nat.le_refl _) rfl, on := h3.on, size := by rw [hB]; exact hb2.size, hb := h3.hb, hg := h3.hg, hgB := by rw [hB]; exact D3.out.hgW, ht := h3.ht, hS := h3.hS }
    rw [← hw4, ← hB]
    clear hw4 hB k0 k1
    have k0 := D4.out.c0
    have k1 := D4.out.c1
    go_upto_region 5 with (go_at_call 84; ((with_reducible refine (next_any ((X.length : Int) + 1) b a len cap zs w4 D4.out.src).mono ?_); rintro e w5 ⟨x, rfl, hx, on_, s_⟩; obtain ⟨x0, x1⟩ := hx (by clear e1 e2 e3 e4; omega); obtain ⟨xn, rfl⟩ := Int.eq_ofNat_of_zero_le x0; have D5 := Lib.hid (D4.out.only on_ s_); clear on_ s_ hx k0 k1))
    have hxn : xn ≤ 6 := by clear e1 e2 e3 e4; omega
    clear D4
    go_loopw [5, 6] (fun u t wr => ∃ (j : Nat) (m : List (List Int)), t = .int .i64 j ∧ m.length + j ≤ xn ∧ (∀ i, i < m.length → isVec p X.length (rw' m i) = true) ∧ DU b a len cap zs g p r X c lo tp w B m u wr) (fun _ t _ => (intOf t).toNat)
    case atStart => exact ⟨xn, [], rfl, by simp, fun i hi => absurd hi (Nat.not_lt_zero i), D5.out⟩
    case round =>
     obtain ⟨j, m, rfl, hj, hall, hd9⟩ := hrel
     have HD := Lib.hid hd9
     have HALL := Lib.hid hall
     clear hd9 hall D5
     have k0 := HD.out.c0
     have k1 := HD.out.c1
     by_cases hj0 : 0 < j
     · have hj1 : (0 : Int) < (j : Int) := by omega
       go_wp2_with (first | (go_at_call 180; ((with_reducible refine (listN_any p X.length b a len cap zs wr HD.out.src sS hp1).mono ?_); rintro e w7 ⟨v, Y, rfl, hY, o_, on_, s_⟩; obtain ⟨r7, c7, rfl, t7⟩ := o_.tag; have HY : Hid (isVec p X.length Y = true) := list_vec hY; have HT7 := Lib.hid (TagR.block t7 HD.out.size (Nat.le_refl _) (fun _ _ _ _ _ => rfl)); have D7 := Lib.hid (HD.out.only on_ s_); obtain ⟨vals, hvo, hvr⟩ := D7.out.out; have HVW := Lib.hid hvo; have hBz := D7.out.size; have HVR := Lib.hid hvr; clear o_ on_ s_ t7 hY hvo hvr k0 k1)) | ((at_builtin; (refine wpList_append_lies _ rfl _ _ 27 rfl B 24 j0 (.slice none 0 0) 1 24 Tryz.underlying27 kj kz0 kz1 kz2 rfl (by decide) u5 m.length vals rfl (HVW.out.alloc _) ⟨w7.heap.size, 0, none⟩ 1 1 [.slice r7 Y.length c7] rfl rfl (World.news_of_block (cs := #[.slice r7 Y.length c7]) (t := 24) (fr := (0, 0)) (heap_alloc_new w7 _)) (by simp [Value.oneCell']) (by omega) (by unfold maxLen; omega) (by omega) (by simp; omega) (w7.heap.size + 1) (by simp) ?_); intro gg cap w1 hown1 hgrow hat hlt1)))
       go_wp2
       go_roundw
       case rel => exact ⟨j - 1, m ++ [Y], by go_num, by rw [List.length_append]; show m.length + 1 + (j - 1) ≤ xn; omega, vec_push HALL.out HY.out, D7.out.push HVW.out HVR.out HT7.out hown1 hgrow⟩
       case measure => simp [intOf]; omega
     · have hj1 : ¬ (0 : Int) < (j : Int) := by omega
       have hm6 : m.length ≤ 6 := by omega
       obtain ⟨rl, cl, rfl, hml⟩ := HD.out.out.mat
       have HMB : Hid (MatIn B wr.drew.heap.size wr.drew rl m) := hml.below (below_drew wr) (Nat.le_refl _)
       have HLB : Hid (listB p X m = true) := listB_of7 ⟨by omega, HALL.out⟩
       have D8 : Hid (DL b a len cap zs g p r X c lo tp w wr.drew) := by
        show DL b a len cap zs g p r X c lo tp w wr.drew
        have h := HD.out.below (below_drew wr)
        exact { src := h.src, c0 := h.c0, c1 := h.c1, row := h.row, on := h.on, hg := h.hg, hgW := Nat.lt_of_lt_of_le h.hgB h.size, hb := h.hb, ht := h.ht, hS := h.hS }
       have SS8 : Hid (wr.drew.cell? ⟨g, 0, none⟩ = some (.int .i64 p) ∧ wr.drew.cell? ⟨g, 1, none⟩ = some (.slice r X.length c)) := ⟨D8.out.c0, D8.out.c1⟩
       clear hml hj hj0 hxn
       go_wp2
       go_region_held3 (fun w' => w'.cell? ⟨g, 0, none⟩ = some (.int .i64 p) ∧ w'.cell? ⟨g, 1, none⟩ = some (.slice r X.length c)) (first | exact SS8.out | exact SSb.out | exact SSd.out | exact SSe.out | go_keep) (first | (go_at_call 155; ((with_reducible refine (l06Blade_own p r X c lo tp rl m cl B wr.drew.heap.size wr.drew HI.out D8.out.row D8.out.tW HMB.out (Nat.le_refl _) HLB.out).mono ?_); rintro e wb ⟨rv, cv, rfl, o_, b_⟩; have RB := Lib.hid o_.row; have Db := Lib.hid (D8.out.below b_); have SSb := Lib.hid (And.intro Db.out.c0 Db.out.c1); clear o_ b_)) | (go_at_call 84; ((with_reducible refine (next_any (p - 1) b a len cap zs wb Db.out.src).mono ?_); rintro e wd ⟨xd, rfl, hx, on_, s_⟩; obtain ⟨x0, x1⟩ := hx (by omega); have Dd := Lib.hid (Db.out.only on_ s_); have RD := Lib.hid ((RB.out.only on_ (.inl (Nat.lt_of_lt_of_le D8.out.hb D8.out.on.size)) (Nat.le_refl _))); have hRD : wb.heap.size ≤ wd.heap.size := on_.size; have e3 : wrap64 (1 + xd) = 1 + xd := (by unfold wrap64; omega); have e4 : IntKind.i64.wrap (1 + xd) = 1 + xd := IntWalk.i64_in _ (by omega); have SSd := Lib.hid (And.intro Dd.out.c0 Dd.out.c1); clear on_ s_ hx)) | (go_at_call 195; ((with_reducible refine (l02Scale_any p (1 + xd) rv (wvB p X m) cv wr.drew.heap.size wb.heap.size wd (isSp_iff.1 HI.out).prime RD.out hRD (by rw [wvB_len]; omega) (Mv.num (wv_mv HI.out _ _)) (by omega) (by omega)).mono ?_); rintro e we ⟨re, ce, rfl, o_, b_⟩; have De := Lib.hid (Dd.out.below b_); have RE := Lib.hid (o_.row.mono (Dd.out.on.size) (Nat.le_refl _)); have SSe := Lib.hid (And.intro De.out.c0 De.out.c1); clear o_ b_)))
       go_wp2
       go_ret
       exact ⟨re, ce, _, rfl, scB_size HI.out _ _, RE.out, De.out.on, De.out.src⟩
set_option maxRecDepth 100000 in
set_option maxHeartbeats 6400000 in
theorem one6_any (a : Option Addr) (len cap : Nat) (zs : List Int) (w : World) (hb : Code8 w a len zs) (hl : len ≤ 4096) :
 Calls Tryz.prog 126 #[.slice a len cap] w (DrawnQ w) := by
 have HB := Lib.hid hb
 clear hb
 go_enter Tryz.func126, Tryz.ntmps126
 go_upto_region 1 with fail
 obtain ⟨wa, hwa⟩ : ∃ z, z = w.alloc (.cells #[.int .i64 0, .slice none 0 0] 26) := ⟨_, rfl⟩
 have HR1 : Hid (L2 wa w.heap.size (.int .i64 0) (.slice none 0 0)) := by show L2 _ _ _ _; rw [hwa]; exact L2.new _ _ _ _
 have HC1 : Hid (Code8 wa a len zs) := by show Code8 _ _ _ _; rw [hwa]; exact HB.out.below (below_alloc w _)
 have HB1 : Hid (Below w.heap.size w wa) := by show Below _ _ _; rw [hwa]; exact below_alloc w _
 have hRa : w.heap.size < wa.heap.size := by rw [hwa]; simp
 rw [← hwa]
 clear hwa
 go_upto_region 3 with (first
  | (go_at_call 81; (with_reducible refine (from_any a len cap zs wa HC1.out hl).mono ?_); rintro e w1 ⟨rfl, b1, s1⟩; have HS1 := Lib.hid s1; have HB2 := Lib.hid (below_step HB1.out (Nat.le_of_lt hRa) b1); have HR2 := Lib.hid (HR1.out.below b1 hRa); have hR1 := Nat.lt_of_lt_of_le hRa b1.size; clear b1 s1)
  | (go_at_call 175; (with_reducible refine (spoil_space wa.heap.size a len cap zs w1 HS1.out).mono ?_); rintro e w2 ⟨p, r, X, c, rfl, hX, o2, on2, s2⟩; have HX := Lib.hid hX; have HS2 := Lib.hid s2; have HX2 := Lib.hid o2; have HB3 := Lib.hid (HB2.out.trans (on2.below (Nat.le_of_lt hRa) (Nat.le_of_lt hR1))); have HR3 := Lib.hid (HR2.out.only on2 hR1 (Nat.ne_of_lt hRa)); have hR2 := Nat.lt_of_lt_of_le hR1 on2.size; have hb1 := HS1.out.lt; have zy2 := on2.size; clear on2 s2 o2 hX))
 obtain ⟨wg, hwg⟩ : ∃ z, z = w2.alloc (.cells #[.int .i64 p, .slice r X.length c] 26) := ⟨_, rfl⟩
 obtain ⟨g, hg⟩ : ∃ z, z = w2.heap.size := ⟨_, rfl⟩
 obtain ⟨b, hbb⟩ : ∃ z, z = wa.heap.size := ⟨_, rfl⟩
 obtain ⟨lo, hlo⟩ : ∃ z, z = w1.heap.size := ⟨_, rfl⟩
 have D0 : Hid (DB b a len cap zs g p r X c lo w wg) := by
  show DB b a len cap zs g p r X c lo w wg
  have hbg : Below w2.heap.size w2 wg := by rw [hwg]; exact below_alloc w2 _
  exact { src := by rw [hbb]; exact HS2.out.step hbg, R := HR3.out.below hbg hR2, G := by rw [hwg, hg]; exact L2.new _ _ _ _, row := by rw [hlo, hg]; exact HX2.out.below hbg (Nat.le_refl _), on := HB3.out.trans (hbg.mono (Nat.le_of_lt hR2)), hR := by rw [hbb]; exact hRa, hb := by rw [hbb, hlo]; exact hb1, hlo := by rw [hlo, hg]; exact zy2, hg := by rw [hwg, hg]; simp }
 have hXs : X.length ≤ 7 := HX.out
 rw [← hwg, ← hg, ← hbb]
 clear hwg hg hbb hlo HR3 HS2 HB3 HX2 hb1 zy2 HR1 HR2 HC1 HB1 HB2 HS1 hRa hR1 hR2 HX
 have k0 := D0.out.G.1
 have k1 := D0.out.G.2.1
 go_upto_region 3 with fail
 have D1 : Hid (DB b a len cap zs g p r X c lo w wg.drew) := D0.out.below (below_drew wg)
 have SS1 : Hid (wg.drew.cell? ⟨g, 0, none⟩ = some (.int .i64 p) ∧ wg.drew.cell? ⟨g, 1, none⟩ = some (.slice r X.length c)) := ⟨D1.out.G.1, D1.out.G.2.1⟩
 go_region_held3 (fun w' => w'.cell? ⟨g, 0, none⟩ = some (.int .i64 p) ∧ w'.cell? ⟨g, 1, none⟩ = some (.slice r X.length c)) (first | exact SS1.out | exact SS2.out | exact SS3.out | exact SS9.out | go_keep) (first | (go_at_call 210; ((with_reducible refine (draw6_any p r X c lo g b a len cap zs wg.drew D1.out.src (by omega) D1.out.row (Nat.le_of_lt D1.out.hg) (.inl D1.out.hb)).mono ?_); rintro e w92 ⟨rU, cU, U, rfl, hU, o_, on_, s_⟩; have D2 := Lib.hid (D1.out.only on_ s_); have LU := Lib.hid hU; have RU_2 := Lib.hid (o_.mono (Nat.le_of_lt D1.out.hg) (Nat.le_refl _)); clear o_ hU; clear on_ s_; (try clear k0 k1); have k0 := D2.out.G.1; have k1 := D2.out.G.2.1; have SS2 := Lib.hid (And.intro D2.out.G.1 D2.out.G.2.1))) | (go_at_call 179; ((with_reducible refine (drawVector_any b a len cap zs p r X c w92 D2.out.src (by omega)).mono ?_); rintro e w93 ⟨rZ, cZ, Z, rfl, hZ, o_, on_, s_⟩; have D3 := Lib.hid (D2.out.only on_ s_); have RU_3 := Lib.hid (rowB_only RU_2.out on_ D2.out.bg); have LZ := Lib.hid hZ; have RZ_3 := Lib.hid (o_.mono (Nat.le_of_lt D2.out.hg) (Nat.le_refl _)); clear o_ hZ; clear on_ s_; (try clear k0 k1); have k0 := D3.out.G.1; have k1 := D3.out.G.2.1; have SS3 := Lib.hid (And.intro D3.out.G.1 D3.out.G.2.1); have r0 := D3.out.R.1; have r1' := D3.out.R.2.1; have r2' := D3.out.R.2.2.1; have r3 := D3.out.R.2.2.2; have HGF := Lib.hid ((D3.out.G.far (k := w.heap.size) (i := 0) (.int .i64 p) (Nat.ne_of_gt (Nat.lt_trans D3.out.hR D3.out.bg))).far (k := w.heap.size) (i := 1) (.slice r X.length c) (Nat.ne_of_gt (Nat.lt_trans D3.out.hR D3.out.bg))); have SS9 := Lib.hid (And.intro HGF.out.1 HGF.out.2.1))))
 all_goals
  go_wp2
  refine bodyPost_ret (v := .tuple #[.agg #[.int .i64 p, .slice r X.length c], .slice rU U.length cU, .slice rZ Z.length cZ]) (by simp [results, Tryz.results126, go_sem, r0, r1']) rfl ⟨p, r, X, c, rU, U, cU, rZ, Z, cZ, rfl, hXs, LU.out, by have := LZ.out; omega, row_fin D3.out.row (Nat.le_of_lt D3.out.hg) (Nat.lt_trans D3.out.hR D3.out.hb) _ _, row_fin RU_3.out (Nat.le_refl _) (Nat.lt_trans D3.out.hR D3.out.bg) _ _, row_fin RZ_3.out (Nat.le_refl _) (Nat.lt_trans D3.out.hR D3.out.bg) _ _, D3.out.fin _ _⟩
set_option maxRecDepth 100000 in
set_option maxHeartbeats 3200000 in
theorem drawPj_any (a : Option Addr) (len cap : Nat) (zs : List Int) (w : World) (hb : Code8 w a len zs) (hl : len ≤ 4096) :
 Calls Tryz.prog 35 #[.slice a len cap] w (DrawnQ w) := by
 have HB := Lib.hid hb
 clear hb
 go_enter Tryz.func35, Tryz.ntmps35
 go_upto_region 1 with fail
 obtain ⟨wa, hwa⟩ : ∃ z, z = w.alloc (.cells #[.int .i64 0, .slice none 0 0] 26) := ⟨_, rfl⟩
 have HR1 : Hid (L2 wa w.heap.size (.int .i64 0) (.slice none 0 0)) := by show L2 _ _ _ _; rw [hwa]; exact L2.new _ _ _ _
 have HC1 : Hid (Code8 wa a len zs) := by show Code8 _ _ _ _; rw [hwa]; exact HB.out.below (below_alloc w _)
 have HB1 : Hid (Below w.heap.size w wa) := by show Below _ _ _; rw [hwa]; exact below_alloc w _
 have hRa : w.heap.size < wa.heap.size := by rw [hwa]; simp
 rw [← hwa]
 clear hwa
 go_upto_region 2 with (go_at_call 126; (with_reducible refine (one6_any a len cap zs wa HC1.out hl).mono ?_); rintro e w2 ⟨p, r, X, c, r1, Y, c1, r2, Z, c2, rfl, hX, hY, hZ, oX, oY, oZ, b2⟩; have HR2 := Lib.hid (HR1.out.below b2 hRa); have HB2 := Lib.hid (below_step HB1.out (Nat.le_of_lt hRa) b2); have HN := Lib.hid (And.intro hX (And.intro hY hZ)); have HX2 := Lib.hid oX; have HY2 := Lib.hid oY; have HZ2 := Lib.hid oZ; have hR2 := Nat.lt_of_lt_of_le hRa b2.size; clear b2 hX hY hZ oX oY oZ)
 obtain ⟨wg, hwg⟩ : ∃ z, z = w2.alloc (.cells #[.int .i64 p, .slice r X.length c] 26) := ⟨_, rfl⟩
 obtain ⟨g, hg⟩ : ∃ z, z = w2.heap.size := ⟨_, rfl⟩
 have HG : Hid (L2 wg g (.int .i64 p) (.slice r X.length c)) := by show L2 _ _ _ _; rw [hwg, hg]; exact L2.new _ _ _ _
 have HR4 : Hid (L2 wg w.heap.size (.int .i64 0) (.slice none 0 0)) := by show L2 _ _ _ _; rw [hwg]; exact HR2.out.alloc _ hR2
 have HB4 : Hid (Below w.heap.size w wg) := by show Below _ _ _; rw [hwg]; exact HB2.out.alloc (Nat.le_of_lt hR2) _
 have HX4 : Hid (RowIn wa.heap.size g wg r X) := by show RowIn _ _ _ _ _; rw [hwg, hg]; exact HX2.out.below (below_alloc w2 _) (Nat.le_refl _)
 have HY4 : Hid (RowIn wa.heap.size g wg r1 Y) := by show RowIn _ _ _ _ _; rw [hwg, hg]; exact HY2.out.below (below_alloc w2 _) (Nat.le_refl _)
 have HZ4 : Hid (RowIn wa.heap.size g wg r2 Z) := by show RowIn _ _ _ _ _; rw [hwg, hg]; exact HZ2.out.below (below_alloc w2 _) (Nat.le_refl _)
 have hgg : g < wg.heap.size := by rw [hwg, hg]; simp
 have hRg : w.heap.size < g := by rw [hg]; exact hR2
 rw [← hwg, ← hg]
 clear hwg hg HR2 HB2 HX2 HY2 HZ2 HR1 HC1 HB1 hR2
 have r0 := HR4.out.1
 have r1' := HR4.out.2.1
 have r2' := HR4.out.2.2.1
 have r3 := HR4.out.2.2.2
 have g0 := HG.out.1
 have g1 := HG.out.2.1
 go_wp2
 refine bodyPost_ret (v := .tuple #[.agg #[.int .i64 p, .slice r X.length c], .slice r1 Y.length c1, .slice r2 Z.length c2]) (by simp [results, Tryz.results35, go_sem, r0, r1']) rfl ⟨p, r, X, c, r1, Y, c1, r2, Z, c2, rfl, HN.out.1, HN.out.2.1, HN.out.2.2, ?_, ?_, ?_, (HB4.out.setCell (Nat.le_refl _) _).setCell (Nat.le_refl _) _⟩
 · exact ((HX4.out.far _ (.inl hRa)).far _ (.inl hRa)).mono (Nat.le_of_lt hRa) (by simp [World.setCell]; omega)
 · exact ((HY4.out.far _ (.inl hRa)).far _ (.inl hRa)).mono (Nat.le_of_lt hRa) (by simp [World.setCell]; omega)
 · exact ((HZ4.out.far _ (.inl hRa)).far _ (.inl hRa)).mono (Nat.le_of_lt hRa) (by simp [World.setCell]; omega)
end Go.Proofs.YtgfanoejohpmkaaGreat