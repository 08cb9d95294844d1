/-
  Draws of spaces: contracts.
  Conditions: the source stands in a block of known cells.
-/
import Derived.Test.YtijklpcelbnnjaaGreatQk4
namespace Go.Proofs.YtijklpcelbnnjaaGreat
open Go.RowKit
set_option linter.unusedVariables false

/-- Two cells of a struct that may be written. -/
def L2 (w : World) (g : Nat) (u v : Value) : Prop := w.cell? ⟨g, 0, none⟩ = some u ∧ w.cell? ⟨g, 1, none⟩ = some v ∧ w.frozen? ⟨g, 0, none⟩ = false ∧ w.frozen? ⟨g, 1, none⟩ = false
theorem L2.only {w w' : World} {k g : Nat} {u v : Value} (h : L2 w g u v) (ho : Only k w w') (l : g < w.heap.size) (hne : g ≠ k) : L2 w' g u v :=
  ⟨(ho.cell (p := ⟨g, 0, none⟩) l hne).trans h.1, (ho.cell (p := ⟨g, 1, none⟩) l hne).trans h.2.1, (ho.frozen (p := ⟨g, 0, none⟩) l hne).trans h.2.2.1, (ho.frozen (p := ⟨g, 1, none⟩) l hne).trans h.2.2.2⟩
theorem L2.below {w w' : World} {g : Nat} {u v : Value} (h : L2 w g u v) (ho : Below w.heap.size w w') (l : g < w.heap.size) : L2 w' g u v :=
  ⟨(ho.cell (p := ⟨g, 0, none⟩) l).trans h.1, (ho.cell (p := ⟨g, 1, none⟩) l).trans h.2.1, (ho.frozen (p := ⟨g, 0, none⟩) l).trans h.2.2.1, (ho.frozen (p := ⟨g, 1, none⟩) l).trans h.2.2.2⟩
theorem L2.alloc {w : World} {g : Nat} {u v : Value} (h : L2 w g u v) (o : Obj) (l : g < w.heap.size) : L2 (w.alloc o) g u v := h.below (below_alloc w o) l
theorem L2.grown {w w' : World} {row : Option Nat} {g : Nat} {u v : Value} (h : L2 w g u v) (hg : w.grownBy w' row) (l : g < w.heap.size) (hr : ∀ k, row = some k → g < k) : L2 w' g u v := by
  obtain ⟨k, hk, ho⟩ := only_of hg (B := g + 1) (fun k e => hr k e) l
  exact h.only ho l (by omega)
theorem L2.new (w : World) (u v : Value) (T : TypeId) : L2 (w.alloc (.cells #[u, v] T)) w.heap.size u v := by
  refine ⟨?_, ?_, ?_, ?_⟩ <;> simp [go_sem]
theorem L2.put0 {w : World} {g : Nat} {u v : Value} (h : L2 w g u v) (x : Value) : L2 (w.setCell ⟨g, 0, none⟩ x) g x v :=
  ⟨World.cell?_setCell_same w _ _ h.1, (World.cell?_setCell_other _ _ _ _ (by simp)).trans h.2.1, by simp [go_sem, h.2.2.1], by simp [go_sem, h.2.2.2]⟩
theorem L2.put1 {w : World} {g : Nat} {u v : Value} (h : L2 w g u v) (x : Value) : L2 (w.setCell ⟨g, 1, none⟩ x) g u x :=
  ⟨(World.cell?_setCell_other _ _ _ _ (by simp)).trans h.1, World.cell?_setCell_same w _ _ h.2.1, by simp [go_sem, h.2.2.1], by simp [go_sem, h.2.2.2]⟩
theorem L2.far {w : World} {g k i : Nat} {u v : Value} (h : L2 w g u v) (x : Value) (hne : g ≠ k) : L2 (w.setCell ⟨k, i, none⟩ x) g u v :=
  ⟨(World.cell?_setCell_other _ ⟨k, i, none⟩ ⟨g, 0, none⟩ _ (fun e => by injection e with e1; omega)).trans h.1, (World.cell?_setCell_other _ ⟨k, i, none⟩ ⟨g, 1, none⟩ _ (fun e => by injection e with e1; omega)).trans h.2.1, by simp [go_sem, h.2.2.1], by simp [go_sem, h.2.2.2]⟩
theorem OutR.base {B B' : Nat} {w : World} {v : Value} {zs : List Int} (h : OutR B w v zs) (hB : B' ≤ B) : OutR B' w v zs :=
  ⟨h.1, h.2.imp id (fun ⟨g, cap, cur, e, hb, r⟩ => ⟨g, cap, cur, e, Nat.le_trans hB hb, r⟩)⟩
theorem OutR.nil (w : World) (B : Nat) : OutR B w (.slice none 0 0) [] := ⟨rfl, .inl ⟨rfl, rfl⟩⟩
theorem OutR.put {B k i : Nat} {w : World} {v : Value} {zs : List Int} (h : OutR B w v zs) (x : Value) (hk : k < B) : OutR B (w.setCell ⟨k, i, none⟩ x) v zs :=
  h.only (Only.set k i w x) hk
theorem OutR.alloc {B : Nat} {w : World} {v : Value} {zs : List Int} (h : OutR B w v zs) (o : Obj) : OutR B (w.alloc o) v zs := h.below (below_alloc w o)
theorem OutR.drew {B : Nat} {w : World} {v : Value} {zs : List Int} (h : OutR B w v zs) : OutR B w.drew v zs := h.below (below_drew w)

/-- A space that has been drawn. -/
def DrawnS (Q : List Int → Prop) (b : Nat) (a : Option Addr) (len cap : Nat) (zs : List Int) (w : World) (e : Ending) (w' : World) : Prop :=
  ∃ p r X c, e = .returned (.agg #[.int .i64 p, .slice r X.length c]) ∧ Q X ∧ OutR w.heap.size w' (.slice r X.length c) X ∧ Only b w w' ∧ Src w' b a len cap zs

set_option maxRecDepth 100000 in
set_option maxHeartbeats 3200000 in
theorem any_any (most : Int) (b : Nat) (a : Option Addr) (len cap : Nat) (zs : List Int) (w : World) (hs : Src w b a len cap zs) (m0 : 1 ≤ most) (m1 : most ≤ 6) :
    Calls Tryz.prog 63 #[.pointer (some ⟨b, 0, none⟩), .int .i64 most] w (DrawnS (fun X => 1 ≤ X.length ∧ X.length ≤ 6) b a len cap zs w) := by
  obtain ⟨i0, hi, hz0, hz1, hz2⟩ := info_parts info64
  have hlt := hs.lt
  have HS := Lib.hid hs
  clear hs
  go_enter Tryz.func63, Tryz.ntmps63
  go_upto_region 3 with (go_at_call 94; (with_reducible refine (drawPrime_any b a len cap zs _ (HS.out.alloc _)).mono ?_); rintro e wa ⟨p, rfl, _, on1, s1⟩; have HS1 := Lib.hid s1; have HON1 := Lib.hid (((Only.refl b w).alloc (.cells #[.int .i64 0, .slice none 0 0] 26)).trans on1); have HR1 := Lib.hid ((L2.new w (.int .i64 0) (.slice none 0 0) 26).only on1 (lt_alloc w _) (Nat.ne_of_gt hlt)); have zy1 := on1.size; clear on1 s1)
  have hRw : w.heap.size < wa.heap.size := by simp at zy1; omega
  obtain ⟨wb, hwb⟩ : ∃ z, z = wa.alloc (.cells #[.int .i64 p, .slice none 0 0] 26) := ⟨_, rfl⟩
  obtain ⟨g, hg⟩ : ∃ z, z = wa.heap.size := ⟨_, rfl⟩
  have HG2 : Hid (L2 wb g (.int .i64 p) (.slice none 0 0)) := by show L2 _ _ _ _; rw [hwb, hg]; exact L2.new _ _ _ _
  have HR2 : Hid (L2 wb w.heap.size (.int .i64 0) (.slice none 0 0)) := by show L2 _ _ _ _; rw [hwb]; exact HR1.out.alloc _ hRw
  have HS2 : Hid (Src wb b a len cap zs) := by show Src _ _ _ _ _ _; rw [hwb]; exact HS1.out.alloc _
  have HON2 : Hid (Only b w wb) := by show Only _ _ _; rw [hwb]; exact HON1.out.alloc _
  have hgb : g < wb.heap.size := by rw [hwb, hg]; simp
  have hRg : w.heap.size < g := by rw [hg]; exact hRw
  rw [← hwb, ← hg]
  clear hwb hg HR1 HS1 HON1 zy1 hRw
  have hbg : b < g := Nat.lt_trans hlt hRg
  go_upto_region 4 with (go_at_call 37; (with_reducible refine (next_any most b a len cap zs _ HS2.out).mono ?_); rintro e wc ⟨x, rfl, hx, on3, s3⟩; obtain ⟨hx0, hx1⟩ := hx m0; obtain ⟨xn, rfl⟩ := Int.eq_ofNat_of_zero_le hx0; have e1 : IntKind.i64.wrap (1 + (xn : Int)) = ((xn + 1 : Nat) : Int) := (by rw [IntWalk.i64_in _ (by omega)]; omega); have HS3 := Lib.hid s3; have HON3 := Lib.hid (HON2.out.trans on3); have HG3 := Lib.hid (HG2.out.only on3 hgb (Nat.ne_of_gt hbg)); have HR3 := Lib.hid (HR2.out.only on3 (Nat.lt_trans hRg hgb) (Nat.ne_of_gt hlt)); have hgc := Nat.lt_of_lt_of_le hgb on3.size; clear on3 s3 hx)
  have hxn : xn ≤ 5 := by omega
  have hgB := hgc
  clear HS2 HON2 HG2 HR2 hgb
  go_loopw [7] (fun t wr => ∃ (j : Nat) (r : Option Addr) (c : Nat) (X : List Int), t = .int .i64 j ∧ X.length + j = xn + 1 ∧ L2 wr g (.int .i64 p) (.slice r X.length c) ∧ OutR wc.heap.size wr (.slice r X.length c) X ∧ L2 wr w.heap.size (.int .i64 0) (.slice none 0 0) ∧ Src wr b a len cap zs ∧ Only b w wr ∧ wc.heap.size ≤ wr.heap.size) (fun t _ => (intOf t).toNat)
  case atStart => exact ⟨xn + 1, none, 0, [], by first | rfl | rw [e1], by simp, HG3.out, OutR.nil _ _, HR3.out, HS3.out, HON3.out, Nat.le_refl _⟩
  case round =>
    obtain ⟨j, r, c, X, rfl, hXj, hg2, ho, hr2, hsr, hon, hsz⟩ := hrel
    have HGR := Lib.hid hg2
    have HO := Lib.hid ho
    have HRR := Lib.hid hr2
    have HSR := Lib.hid hsr
    have HON := Lib.hid hon
    clear hg2 ho hr2 hsr hon e1
    by_cases hj : 0 < j
    · have hj1 : (0 : Int) < (j : Int) := by omega
      have hgr : g < wr.heap.size := by omega
      go_wp2_with (first
        | (go_at_call 37; (with_reducible refine (next_any (wrap64 (p - 1)) b a len cap zs wr HSR.out).mono ?_); rintro e w4 ⟨y, rfl, _, on4, s4⟩; have HS4 := Lib.hid s4; have HON4 := Lib.hid (HON.out.trans on4); have HG4 := Lib.hid (HGR.out.only on4 hgr (Nat.ne_of_gt hbg)); have HR4 := Lib.hid (HRR.out.only on4 (Nat.lt_trans hRg hgr) (Nat.ne_of_gt hlt)); have HO4 := Lib.hid (HO.out.only on4 (Nat.lt_trans hbg hgB)); have hg4 := Nat.lt_of_lt_of_le hgr on4.size; have zy4 := Nat.le_trans hsz on4.size; clear on4 s4)
        | (go_at_call 64; refine (pick_any w4.heap.size 4 [1, wrap64 (p - 1), wrap64 (1 + y), 1] b a len cap zs _ (HS4.out.alloc _) (rowOf w4 [1, wrap64 (p - 1), wrap64 (1 + y), 1] _) rfl (by omega) (by omega) (by simp) (by omega)).mono ?_; rintro e w5 ⟨z, rfl, _, on5, s5⟩; have HS5 := Lib.hid s5; have HON5 := Lib.hid ((HON4.out.alloc _).trans on5); have hg4a := Nat.lt_of_lt_of_le hg4 (size_alloc w4 (.cells (List.map (Value.int .i64) [1, wrap64 (p - 1), wrap64 (1 + y), 1]).toArray 2)); have HG5 := Lib.hid ((HG4.out.alloc _ hg4).only on5 hg4a (Nat.ne_of_gt hbg)); have HR5 := Lib.hid ((HR4.out.alloc _ (Nat.lt_trans hRg hg4)).only on5 (Nat.lt_trans hRg hg4a) (Nat.ne_of_gt hlt)); have HO5 := Lib.hid ((HO4.out.alloc _).only on5 (Nat.lt_trans hbg hgB)); have hg5 := Nat.lt_of_lt_of_le hg4a on5.size; have zy5 := Nat.le_trans (Nat.le_trans zy4 (size_alloc w4 _)) on5.size; clear on5 s5)
        | (go_at_call 37; (with_reducible refine (next_any 10 b a len cap zs w5 HS5.out).mono ?_); rintro e w6 ⟨q, rfl, _, on6, s6⟩; have HS6 := Lib.hid s6; have HON6 := Lib.hid (HON5.out.trans on6); have HG6 := Lib.hid (HG5.out.only on6 hg5 (Nat.ne_of_gt hbg)); have HR6 := Lib.hid (HR5.out.only on6 (Nat.lt_trans hRg hg5) (Nat.ne_of_gt hlt)); have HO6 := Lib.hid (HO5.out.only on6 (Nat.lt_trans hbg hgB)); have H6 : Hid (w6.ownsRow wc.heap.size 2 1 (.slice r X.length c) X.length (X.map (Value.int .i64))) := HO6; have hg6 := Nat.lt_of_lt_of_le hg5 on6.size; have zy6 := Nat.le_trans zy5 on6.size; have gc1 := HG6.out.2.1; clear on6 s6)
        | ((at_builtin; refine wpList_append_lies _ rfl _ _ 24 rfl wc.heap.size 2 i0 (.int .i64 0) 1 8 Tryz.underlying24 hi hz0 hz1 hz2 rfl (by decide) (.slice r X.length c) X.length (X.map (Value.int .i64)) rfl (H6.out.alloc _) ⟨w6.heap.size, 0, none⟩ 1 1 [.int .i64 z] rfl rfl (World.news_of_block (cs := #[.int .i64 z]) (t := 2) (fr := (0, 0)) (heap_alloc_new w6 _)) (by simp [Value.oneCell']) (by omega) (by unfold maxLen; omega) (by omega) (by simp; omega) (w6.heap.size + 1) (by simp) ?_; intro gg cap w1 hown1 hgrow hat hlt1); have HG7 := Lib.hid ((HG6.out.alloc _ hg6).grown hgrow (Nat.lt_of_lt_of_le hg6 (size_alloc w6 _)) (fun k e => Nat.lt_of_lt_of_le hgB (H6.out.lt _ e).1)); have d1 := HG7.out.2.1; have d2 := HG7.out.2.2.2)
        | ((at_builtin; refine wpList_append_lies _ rfl _ _ 24 rfl wc.heap.size 2 i0 (.int .i64 0) 1 8 Tryz.underlying24 hi hz0 hz1 hz2 rfl (by decide) (.slice r X.length c) X.length (X.map (Value.int .i64)) rfl (H6.out.alloc _) ⟨w6.heap.size, 0, none⟩ 1 1 [.int .i64 0] rfl rfl (World.news_of_block (cs := #[.int .i64 0]) (t := 2) (fr := (0, 0)) (heap_alloc_new w6 _)) (by simp [Value.oneCell']) (by omega) (by unfold maxLen; omega) (by omega) (by simp; omega) (w6.heap.size + 1) (by simp) ?_; intro gg cap w1 hown1 hgrow hat hlt1); have HG7 := Lib.hid ((HG6.out.alloc _ hg6).grown hgrow (Nat.lt_of_lt_of_le hg6 (size_alloc w6 _)) (fun k e => Nat.lt_of_lt_of_le hgB (H6.out.lt _ e).1)); have d1 := HG7.out.2.1; have d2 := HG7.out.2.2.2))
      all_goals
        go_wp2
        go_roundw
        case rel => first | exact ⟨j - 1, some ⟨gg, 0, none⟩, cap, X ++ [0], by go_num, by rw [List.length_append]; show X.length + 1 + (j - 1) = xn + 1; omega, by have e : (X ++ [0]).length = X.length + 1 := (by simp); rw [e]; exact HG7.out.put1 _, by have e : (X ++ [0]).length = X.length + 1 := (by simp); rw [e]; exact (OutR.push hown1).put _ hgB, ((HR6.out.alloc _ (Nat.lt_trans hRg hg6)).grown hgrow (Nat.lt_of_lt_of_le (Nat.lt_trans hRg hg6) (size_alloc w6 _)) (fun k e => Nat.lt_of_lt_of_le (Nat.lt_trans hRg hgB) (H6.out.lt _ e).1)).far _ (Nat.ne_of_lt hRg), ((HS6.out.alloc _).grown hgrow (fun k e => Nat.lt_of_lt_of_le (Nat.lt_trans hbg hgB) (H6.out.lt _ e).1)).far (Only.set _ _ _ _) hbg, (((HON6.out.alloc _).grown hgrow (fun k e => Nat.le_trans (Nat.le_of_lt (Nat.lt_trans hRg hgB)) (H6.out.lt _ e).1))).setCell (.inr (Nat.le_of_lt hRg)) _, by have h1 := hgrow.size; have h2 := size_alloc w6 (.cells #[.int .i64 0] 2); simp [World.setCell]; omega⟩ | exact ⟨j - 1, some ⟨gg, 0, none⟩, cap, X ++ [z], by go_num, by rw [List.length_append]; show X.length + 1 + (j - 1) = xn + 1; omega, by have e : (X ++ [z]).length = X.length + 1 := (by simp); rw [e]; exact HG7.out.put1 _, by have e : (X ++ [z]).length = X.length + 1 := (by simp); rw [e]; exact (OutR.push hown1).put _ hgB, ((HR6.out.alloc _ (Nat.lt_trans hRg hg6)).grown hgrow (Nat.lt_of_lt_of_le (Nat.lt_trans hRg hg6) (size_alloc w6 _)) (fun k e => Nat.lt_of_lt_of_le (Nat.lt_trans hRg hgB) (H6.out.lt _ e).1)).far _ (Nat.ne_of_lt hRg), ((HS6.out.alloc _).grown hgrow (fun k e => Nat.lt_of_lt_of_le (Nat.lt_trans hbg hgB) (H6.out.lt _ e).1)).far (Only.set _ _ _ _) hbg, (((HON6.out.alloc _).grown hgrow (fun k e => Nat.le_trans (Nat.le_of_lt (Nat.lt_trans hRg hgB)) (H6.out.lt _ e).1))).setCell (.inr (Nat.le_of_lt hRg)) _, by have h1 := hgrow.size; have h2 := size_alloc w6 (.cells #[.int .i64 z] 2); simp [World.setCell]; omega⟩
        case measure => simp [intOf]; omega
    · have hj0 : j = 0 := by omega
      subst hj0
      have hj1 : ¬ (0 : Int) < ((0 : Nat) : Int) := by omega
      have g0 := HGR.out.1
      have g1 := HGR.out.2.1
      have r0 := HRR.out.1
      have r1 := HRR.out.2.1
      have r2 := HRR.out.2.2.1
      have r3 := HRR.out.2.2.2
      go_wp2
      refine bodyPost_ret (v := .agg #[.int .i64 p, .slice r X.length c]) (by simp [results, Tryz.results63, go_sem, r0, r1]) rfl ⟨p, r, X, c, rfl, by omega, ((HO.out.put _ (Nat.lt_trans hRg hgB)).put _ (Nat.lt_trans hRg hgB)).base (by omega), (HON.out.setCell (.inr (Nat.le_refl _)) _).setCell (.inr (Nat.le_refl _)) _, (HSR.out.far (Only.set _ _ _ _) hlt).far (Only.set _ _ _ _) hlt⟩

end Go.Proofs.YtijklpcelbnnjaaGreat
