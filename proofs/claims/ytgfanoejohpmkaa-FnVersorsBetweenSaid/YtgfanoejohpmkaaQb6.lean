/-
  Draws of vectors: contracts.
  Conditions: the source stands in a block of known cells.
-/
import Derived.Test.YtgfanoejohpmkaaQb5
import Derived.Deep.DeepCutAuto
import Derived.Deep.RegionHeld3
namespace Go.Proofs.Ytgfanoejohpmkaa
open Go.RowKit
set_option linter.unusedVariables false

theorem rowOwn_in {lo tp : Nat} {w : World} {b o n : Nat} {f : Nat → Int} (h : RowOwn w b o n f) (h0 : lo ≤ b) (h1 : b < tp) : RowIn lo tp w (some ⟨b, o, none⟩) (mkR n f) :=
  .inr ⟨b, o, rfl, h0, h1, fun j hj => by
    rw [mkR_len] at hj
    rw [mkR_at _ hj]
    exact h.cell j hj⟩
theorem rowOwn_stay {w w' : World} {b o n : Nat} {f : Nat → Int} (h : RowOwn w b o n f) (e : w'.heap[b]? = w.heap[b]?) : RowOwn w' b o n f :=
  ⟨fun j hj => (World.cell?_of_block (w := w) (a := ⟨b, o + j, none⟩) e).trans (h.cell j hj), fun j hj => (World.frozen?_of_block (w := w) (a := ⟨b, o + j, none⟩) e).trans (h.free j hj)⟩
theorem rowOwn_put {w : World} {b o n : Nat} {f : Nat → Int} (h : RowOwn w b o n f) {j : Nat} (hj : j < n) (v : Int) : RowOwn (w.setCell ⟨b, o + j, none⟩ (.int .i64 v)) b o n (fun i => if i = j then v else f i) where
  cell i hi := by
    by_cases e : i = j
    · subst e; rw [if_pos rfl]; exact World.cell?_setCell_same w _ _ (h.cell i hi)
    · rw [if_neg e]; exact (World.cell?_setCell_other _ _ _ _ (by first | (simp; done) | (simp; omega))).trans (h.cell i hi)
  free i hi := by simp [go_sem, h.free i hi]
theorem rowOwn_put0 {w : World} {b o n : Nat} {f : Nat → Int} (h : RowOwn w b o n f) (hn : 0 < n) (v : Int) : RowOwn (w.setCell ⟨b, o, none⟩ (.int .i64 v)) b o n (fun i => if i = 0 then v else f i) := rowOwn_put h (j := 0) hn v
theorem heap_other (w : World) (o : Obj) {k : Nat} (h : k < w.heap.size) : (w.alloc o).heap[k]? = w.heap[k]? := (below_alloc w o).block k h

set_option maxRecDepth 100000 in
set_option maxHeartbeats 3200000 in
theorem vec_any (p : Int) (n : Nat) (b : Nat) (a : Option Addr) (len cap : Nat) (zs : List Int) (w : World) (hs : Src w b a len cap zs) (hn : n ≤ 1048500) :
    Calls Try.prog 41 #[.pointer (some ⟨b, 0, none⟩), .int .i64 p, .int .i64 n] w (DrawnR (fun X => X.length ≤ n + 1) b a len cap zs w) := by
  obtain ⟨i0, hi, hz0, hz1, hz2⟩ := info_parts info64
  have hlt := hs.lt
  have hn' : n ≤ 1048576 := by omega
  have HS := Lib.hid hs
  clear hs
  by_cases hp : p < 1
  · by_cases hn0 : 0 < n
    · have hn1 : (0 : Int) < (n : Int) := by omega
      go_enter Try.func41, Try.ntmps41
      go_upto_region 5 with (first | (go_at_call 45; (with_reducible refine (list_any 3 n b a len cap zs _ HS.out hn').mono ?_); rintro e wl ⟨v1, X, rfl, hX, o1, on1, s1⟩; obtain ⟨r1, c1, rfl, ht1⟩ := o1.tag; obtain ⟨q1, g1, hr1, hq0, hq1, hro⟩ := RowOwn.of ht1.own (show 0 < X.length by rw [hX]; exact hn0); subst hr1; rw [hX] at hro; have HRO := Lib.hid hro; have hqb : q1 ≠ b := Nat.ne_of_gt (Nat.lt_of_lt_of_le hlt hq0); clear hro; have HX := Lib.hid hX; have HO1 := Lib.hid o1; have HT1 := Lib.hid ht1; have HON1 := Lib.hid on1; have HS1 := Lib.hid s1; have zy1 := on1.size; rw [hX]; clear o1 on1 s1 ht1 hX) | (go_at_call 19; (with_reducible refine (next_any 24 b a len cap zs _ HS1.out).mono ?_); rintro e w2 ⟨x, rfl, _, on2, s2⟩; have zy2 := on2.size; have HON2 := Lib.hid (HON1.out.trans on2); have HS2 := Lib.hid s2; have HO2 := Lib.hid (HO1.out.only on2 hlt); have H2 : Hid (w2.ownsRow w.heap.size 2 1 (.slice (some ⟨q1, g1, none⟩) n c1) n (X.map (Value.int .i64))) := (by have h := HO2.out; unfold OutR at h; rw [HX.out] at h; exact h); have HR2 := Lib.hid (rowOwn_stay HRO.out (on2.block q1 hq1 hqb)); have hq2 := Nat.lt_of_lt_of_le hq1 zy2; have HT2 := Lib.hid (HT1.out.row.same (fun i i0 i1 => on2.block i (Nat.lt_of_lt_of_le i1 (Nat.le_refl _)) (Nat.ne_of_gt (Nat.lt_of_lt_of_le hlt i0)))); clear on2 s2))
      by_cases hx0 : x = 0
      · subst hx0
        go_wp2_with (at_builtin; refine wpList_append_lies _ rfl _ _ 24 rfl w.heap.size 2 i0 (.int .i64 0) 1 8 Try.underlying24 hi hz0 hz1 hz2 rfl (by decide) (.slice (some ⟨q1, g1, none⟩) n c1) n (X.map (Value.int .i64)) rfl (H2.out.alloc _) ⟨w2.heap.size, 0, none⟩ 1 1 [.int .i64 0] rfl rfl (World.news_of_block (cs := #[.int .i64 0]) (t := 2) (fr := (0, 0)) (heap_alloc_new w2 _)) (by simp [Value.oneCell']) (by omega) (by unfold maxLen; omega) (by omega) (by simp; omega) (w2.heap.size + 1) (by simp) ?_; intro gg cap w1 hown1 hgrow hat hlt1)
        go_ret
        obtain ⟨r9, c9, e9, t9⟩ := (OutR.push (X := X) (x := 0) (by rw [HX.out]; exact hown1)).tag
        exact ⟨r9, c9, X ++ [0], by rw [← e9]; rfl, by show (X ++ [0]).length ≤ n + 1; rw [List.length_append, HX.out]; exact Nat.le_refl _, t9.row, (HON2.out.alloc _).grown hgrow (fun k e => (H2.out.lt _ e).1), (HS2.out.alloc _).grown hgrow (fun k e => by have := (H2.out.lt _ e).1; omega)⟩
      · have e0 : (x == 0) = false := by simpa using hx0
        by_cases hx1 : x = 1
        · subst hx1
          go_wp2_with (go_at_call 39; (refine (pick_any w2.heap.size 2 [-1, 3] b a len cap zs _ (HS2.out.alloc _) (rowOf w2 [-1, 3] _) rfl (by omega) (by omega) (by simp) (by omega)).mono ?_; rintro e w3 ⟨y, rfl, _, on3, s3⟩; have HS3 := Lib.hid s3; have HON3 := Lib.hid ((HON2.out.alloc _).trans on3); have HR3 := Lib.hid (rowOwn_stay (rowOwn_stay HR2.out (heap_other w2 _ hq2)) (on3.block q1 (by simp; omega) hqb)); have cy := HR3.out.cell 0 hn0; have fy := HR3.out.free 0 hn0; rw [Nat.add_zero] at cy fy; have zy3 := on3.size; clear on3 s3))
          go_ret
          exact ⟨some ⟨q1, g1, none⟩, c1, mkR n (fun i => if i = 0 then y else X.getD i 0), by rw [mkR_len]; rfl, by show (mkR n _).length ≤ n + 1; rw [mkR_len]; omega, rowOwn_in (rowOwn_put0 HR3.out hn0 y) hq0 (by simp [World.setCell]; simp at zy3; omega), HON3.out.setCell (.inr hq0) _, HS3.out.far ((Only.refl q1 w3).setCell (.inl rfl) _) (Nat.lt_of_lt_of_le hlt hq0)⟩
        · have e1 : (x == 1) = false := by simpa using hx1
          go_wp2
          go_ret
          exact ⟨some ⟨q1, g1, none⟩, c1, X, by rw [HX.out]; rfl, by show X.length ≤ n + 1; rw [HX.out]; omega, HT2.out.mono (Nat.le_refl _) zy2, HON2.out, HS2.out⟩
    · have hn1 : ¬ (0 : Int) < (n : Int) := by omega
      go_enter Try.func41, Try.ntmps41
      go_upto_region 5 with (first | (go_at_call 45; (with_reducible refine (list_any 3 n b a len cap zs _ HS.out hn').mono ?_); rintro e wl ⟨v1, X, rfl, hX, o1, on1, s1⟩; obtain ⟨r1, c1, rfl, ht1⟩ := o1.tag; have HX := Lib.hid hX; have HO1 := Lib.hid o1; have HT1 := Lib.hid ht1; have HON1 := Lib.hid on1; have HS1 := Lib.hid s1; have zy1 := on1.size; rw [hX]; clear o1 on1 s1 ht1 hX) | (go_at_call 19; (with_reducible refine (next_any 24 b a len cap zs _ HS1.out).mono ?_); rintro e w2 ⟨x, rfl, _, on2, s2⟩; have zy2 := on2.size; have HON2 := Lib.hid (HON1.out.trans on2); have HS2 := Lib.hid s2; have HO2 := Lib.hid (HO1.out.only on2 hlt); have H2 : Hid (w2.ownsRow w.heap.size 2 1 (.slice r1 n c1) n (X.map (Value.int .i64))) := (by have h := HO2.out; unfold OutR at h; rw [HX.out] at h; exact h); have HT2 := Lib.hid (HT1.out.row.same (fun i i0 i1 => on2.block i (Nat.lt_of_lt_of_le i1 (Nat.le_refl _)) (Nat.ne_of_gt (Nat.lt_of_lt_of_le hlt i0)))); clear on2 s2))
      by_cases hx0 : x = 0
      · subst hx0
        go_wp2_with (at_builtin; refine wpList_append_lies _ rfl _ _ 24 rfl w.heap.size 2 i0 (.int .i64 0) 1 8 Try.underlying24 hi hz0 hz1 hz2 rfl (by decide) (.slice r1 n c1) n (X.map (Value.int .i64)) rfl (H2.out.alloc _) ⟨w2.heap.size, 0, none⟩ 1 1 [.int .i64 0] rfl rfl (World.news_of_block (cs := #[.int .i64 0]) (t := 2) (fr := (0, 0)) (heap_alloc_new w2 _)) (by simp [Value.oneCell']) (by omega) (by unfold maxLen; omega) (by omega) (by simp; omega) (w2.heap.size + 1) (by simp) ?_; intro gg cap w1 hown1 hgrow hat hlt1)
        go_ret
        obtain ⟨r9, c9, e9, t9⟩ := (OutR.push (X := X) (x := 0) (by rw [HX.out]; exact hown1)).tag
        exact ⟨r9, c9, X ++ [0], by rw [← e9]; rfl, by show (X ++ [0]).length ≤ n + 1; rw [List.length_append, HX.out]; exact Nat.le_refl _, t9.row, (HON2.out.alloc _).grown hgrow (fun k e => (H2.out.lt _ e).1), (HS2.out.alloc _).grown hgrow (fun k e => by have := (H2.out.lt _ e).1; omega)⟩
      · have e0 : (x == 0) = false := by simpa using hx0
        by_cases hx1 : x = 1
        · subst hx1
          go_wp2
          go_ret
          exact ⟨r1, c1, X, by rw [HX.out]; rfl, by show X.length ≤ n + 1; rw [HX.out]; omega, HT2.out.mono (Nat.le_refl _) zy2, HON2.out, HS2.out⟩
        · have e1 : (x == 1) = false := by simpa using hx1
          go_wp2
          go_ret
          exact ⟨r1, c1, X, by rw [HX.out]; rfl, by show X.length ≤ n + 1; rw [HX.out]; omega, HT2.out.mono (Nat.le_refl _) zy2, HON2.out, HS2.out⟩
  · by_cases hn0 : 0 < n
    · have hn1 : (0 : Int) < (n : Int) := by omega
      go_enter Try.func41, Try.ntmps41
      go_upto_region 5 with (first | (go_at_call 45; (with_reducible refine (list_any p n b a len cap zs _ HS.out hn').mono ?_); rintro e wl ⟨v1, X, rfl, hX, o1, on1, s1⟩; obtain ⟨r1, c1, rfl, ht1⟩ := o1.tag; obtain ⟨q1, g1, hr1, hq0, hq1, hro⟩ := RowOwn.of ht1.own (show 0 < X.length by rw [hX]; exact hn0); subst hr1; rw [hX] at hro; have HRO := Lib.hid hro; have hqb : q1 ≠ b := Nat.ne_of_gt (Nat.lt_of_lt_of_le hlt hq0); clear hro; have HX := Lib.hid hX; have HO1 := Lib.hid o1; have HT1 := Lib.hid ht1; have HON1 := Lib.hid on1; have HS1 := Lib.hid s1; have zy1 := on1.size; rw [hX]; clear o1 on1 s1 ht1 hX) | (go_at_call 19; (with_reducible refine (next_any 24 b a len cap zs _ HS1.out).mono ?_); rintro e w2 ⟨x, rfl, _, on2, s2⟩; have zy2 := on2.size; have HON2 := Lib.hid (HON1.out.trans on2); have HS2 := Lib.hid s2; have HO2 := Lib.hid (HO1.out.only on2 hlt); have H2 : Hid (w2.ownsRow w.heap.size 2 1 (.slice (some ⟨q1, g1, none⟩) n c1) n (X.map (Value.int .i64))) := (by have h := HO2.out; unfold OutR at h; rw [HX.out] at h; exact h); have HR2 := Lib.hid (rowOwn_stay HRO.out (on2.block q1 hq1 hqb)); have hq2 := Nat.lt_of_lt_of_le hq1 zy2; have HT2 := Lib.hid (HT1.out.row.same (fun i i0 i1 => on2.block i (Nat.lt_of_lt_of_le i1 (Nat.le_refl _)) (Nat.ne_of_gt (Nat.lt_of_lt_of_le hlt i0)))); clear on2 s2))
      by_cases hx0 : x = 0
      · subst hx0
        go_wp2_with (at_builtin; refine wpList_append_lies _ rfl _ _ 24 rfl w.heap.size 2 i0 (.int .i64 0) 1 8 Try.underlying24 hi hz0 hz1 hz2 rfl (by decide) (.slice (some ⟨q1, g1, none⟩) n c1) n (X.map (Value.int .i64)) rfl (H2.out.alloc _) ⟨w2.heap.size, 0, none⟩ 1 1 [.int .i64 0] rfl rfl (World.news_of_block (cs := #[.int .i64 0]) (t := 2) (fr := (0, 0)) (heap_alloc_new w2 _)) (by simp [Value.oneCell']) (by omega) (by unfold maxLen; omega) (by omega) (by simp; omega) (w2.heap.size + 1) (by simp) ?_; intro gg cap w1 hown1 hgrow hat hlt1)
        go_ret
        obtain ⟨r9, c9, e9, t9⟩ := (OutR.push (X := X) (x := 0) (by rw [HX.out]; exact hown1)).tag
        exact ⟨r9, c9, X ++ [0], by rw [← e9]; rfl, by show (X ++ [0]).length ≤ n + 1; rw [List.length_append, HX.out]; exact Nat.le_refl _, t9.row, (HON2.out.alloc _).grown hgrow (fun k e => (H2.out.lt _ e).1), (HS2.out.alloc _).grown hgrow (fun k e => by have := (H2.out.lt _ e).1; omega)⟩
      · have e0 : (x == 0) = false := by simpa using hx0
        by_cases hx1 : x = 1
        · subst hx1
          go_wp2_with (go_at_call 39; (refine (pick_any w2.heap.size 2 [-1, p] b a len cap zs _ (HS2.out.alloc _) (rowOf w2 [-1, p] _) rfl (by omega) (by omega) (by simp) (by omega)).mono ?_; rintro e w3 ⟨y, rfl, _, on3, s3⟩; have HS3 := Lib.hid s3; have HON3 := Lib.hid ((HON2.out.alloc _).trans on3); have HR3 := Lib.hid (rowOwn_stay (rowOwn_stay HR2.out (heap_other w2 _ hq2)) (on3.block q1 (by simp; omega) hqb)); have cy := HR3.out.cell 0 hn0; have fy := HR3.out.free 0 hn0; rw [Nat.add_zero] at cy fy; have zy3 := on3.size; clear on3 s3))
          go_ret
          exact ⟨some ⟨q1, g1, none⟩, c1, mkR n (fun i => if i = 0 then y else X.getD i 0), by rw [mkR_len]; rfl, by show (mkR n _).length ≤ n + 1; rw [mkR_len]; omega, rowOwn_in (rowOwn_put0 HR3.out hn0 y) hq0 (by simp [World.setCell]; simp at zy3; omega), HON3.out.setCell (.inr hq0) _, HS3.out.far ((Only.refl q1 w3).setCell (.inl rfl) _) (Nat.lt_of_lt_of_le hlt hq0)⟩
        · have e1 : (x == 1) = false := by simpa using hx1
          go_wp2
          go_ret
          exact ⟨some ⟨q1, g1, none⟩, c1, X, by rw [HX.out]; rfl, by show X.length ≤ n + 1; rw [HX.out]; omega, HT2.out.mono (Nat.le_refl _) zy2, HON2.out, HS2.out⟩
    · have hn1 : ¬ (0 : Int) < (n : Int) := by omega
      go_enter Try.func41, Try.ntmps41
      go_upto_region 5 with (first | (go_at_call 45; (with_reducible refine (list_any p n b a len cap zs _ HS.out hn').mono ?_); rintro e wl ⟨v1, X, rfl, hX, o1, on1, s1⟩; obtain ⟨r1, c1, rfl, ht1⟩ := o1.tag; have HX := Lib.hid hX; have HO1 := Lib.hid o1; have HT1 := Lib.hid ht1; have HON1 := Lib.hid on1; have HS1 := Lib.hid s1; have zy1 := on1.size; rw [hX]; clear o1 on1 s1 ht1 hX) | (go_at_call 19; (with_reducible refine (next_any 24 b a len cap zs _ HS1.out).mono ?_); rintro e w2 ⟨x, rfl, _, on2, s2⟩; have zy2 := on2.size; have HON2 := Lib.hid (HON1.out.trans on2); have HS2 := Lib.hid s2; have HO2 := Lib.hid (HO1.out.only on2 hlt); have H2 : Hid (w2.ownsRow w.heap.size 2 1 (.slice r1 n c1) n (X.map (Value.int .i64))) := (by have h := HO2.out; unfold OutR at h; rw [HX.out] at h; exact h); have HT2 := Lib.hid (HT1.out.row.same (fun i i0 i1 => on2.block i (Nat.lt_of_lt_of_le i1 (Nat.le_refl _)) (Nat.ne_of_gt (Nat.lt_of_lt_of_le hlt i0)))); clear on2 s2))
      by_cases hx0 : x = 0
      · subst hx0
        go_wp2_with (at_builtin; refine wpList_append_lies _ rfl _ _ 24 rfl w.heap.size 2 i0 (.int .i64 0) 1 8 Try.underlying24 hi hz0 hz1 hz2 rfl (by decide) (.slice r1 n c1) n (X.map (Value.int .i64)) rfl (H2.out.alloc _) ⟨w2.heap.size, 0, none⟩ 1 1 [.int .i64 0] rfl rfl (World.news_of_block (cs := #[.int .i64 0]) (t := 2) (fr := (0, 0)) (heap_alloc_new w2 _)) (by simp [Value.oneCell']) (by omega) (by unfold maxLen; omega) (by omega) (by simp; omega) (w2.heap.size + 1) (by simp) ?_; intro gg cap w1 hown1 hgrow hat hlt1)
        go_ret
        obtain ⟨r9, c9, e9, t9⟩ := (OutR.push (X := X) (x := 0) (by rw [HX.out]; exact hown1)).tag
        exact ⟨r9, c9, X ++ [0], by rw [← e9]; rfl, by show (X ++ [0]).length ≤ n + 1; rw [List.length_append, HX.out]; exact Nat.le_refl _, t9.row, (HON2.out.alloc _).grown hgrow (fun k e => (H2.out.lt _ e).1), (HS2.out.alloc _).grown hgrow (fun k e => by have := (H2.out.lt _ e).1; omega)⟩
      · have e0 : (x == 0) = false := by simpa using hx0
        by_cases hx1 : x = 1
        · subst hx1
          go_wp2
          go_ret
          exact ⟨r1, c1, X, by rw [HX.out]; rfl, by show X.length ≤ n + 1; rw [HX.out]; omega, HT2.out.mono (Nat.le_refl _) zy2, HON2.out, HS2.out⟩
        · have e1 : (x == 1) = false := by simpa using hx1
          go_wp2
          go_ret
          exact ⟨r1, c1, X, by rw [HX.out]; rfl, by show X.length ≤ n + 1; rw [HX.out]; omega, HT2.out.mono (Nat.le_refl _) zy2, HON2.out, HS2.out⟩

set_option maxHeartbeats 1600000 in
theorem drawVector_any (b : Nat) (a : Option Addr) (len cap : Nat) (zs : List Int) (p : Int) (aS : Option Addr) (S : List Int) (cS : Nat) (w : World) (hs : Src w b a len cap zs) (hn : S.length ≤ 1048500) :
    Calls Try.prog 15 #[.pointer (some ⟨b, 0, none⟩), .agg #[.int .i64 p, .slice aS S.length cS]] w (DrawnR (fun X => X.length ≤ S.length + 1) b a len cap zs w) := by
  have HS := Lib.hid hs
  clear hs
  go_enter Try.func15, Try.ntmps15
  go_wp2_with (go_at_call 41; (with_reducible refine (vec_any p S.length b a len cap zs _ (HS.out.alloc _) hn).mono ?_); rintro e w2 ⟨r2, c2, X, rfl, hX, o2, on2, s2⟩; have HO2 := Lib.hid o2; have HON2 := Lib.hid on2; have HS2 := Lib.hid s2; have HX := Lib.hid hX; clear o2 on2 s2 hX)
  go_ret
  exact ⟨r2, c2, X, rfl, HX.out, HO2.out.mono (size_alloc w _) (Nat.le_refl _), ((Only.refl b w).alloc _).trans HON2.out, HS2.out⟩

end Go.Proofs.Ytgfanoejohpmkaa
