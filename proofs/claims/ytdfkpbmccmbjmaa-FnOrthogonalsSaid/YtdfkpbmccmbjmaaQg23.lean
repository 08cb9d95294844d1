/-
  Draws of lists of vectors: contract.
  Conditions: the code is nil or a row of known bytes, of at most 4096.
  The draw of a space and a list of vectors: contract.
  Conditions: the code is nil or a row of known bytes, of at most 4096.
-/
import Derived.Test.YtdfkpbmccmbjmaaQg22
import Derived.Test.YtdfkpbmccmbjmaaQg21
import Derived.Test.YtdfkpbmccmbjmaaQg14
import Derived.Test.YtdfkpbmccmbjmaaQg19
import Derived.Deep.RegionHeld3
import Derived.Deep.DeepCutAuto
namespace Go.Proofs.Ytdfkpbmccmbjmaa
open Go.RowKit
set_option linter.unusedVariables false

/-- A list that has been drawn, in a block of numbers. -/
def DrawnRT (Q : List Int → Prop) (b : Nat) (a : Option Addr) (len cap : Nat) (zs : List Int) (w : World) (e : Ending) (w' : World) : Prop :=
  ∃ r c X, e = .returned (.slice r X.length c) ∧ Q X ∧ TagR w.heap.size w'.heap.size w' r X ∧ Only b w w' ∧ Src w' b a len cap zs
def IsT (w : World) (b : Nat) : Prop := ∃ cur, w.heap[b]? = some (.cells cur 2 (0, 0))
theorem IsT.same {w w' : World} {b : Nat} (h : IsT w b) (e : w'.heap[b]? = w.heap[b]?) : IsT w' b := by
  obtain ⟨cur, h⟩ := h; exact ⟨cur, e.trans h⟩
theorem IsT.set {w : World} {b o : Nat} (h : IsT w b) (x : Value) : IsT (w.setCell ⟨b, o, none⟩ x) b := by
  obtain ⟨cur, h⟩ := h; exact ⟨cur.setIfInBounds o x, by simp [World.setCell, Array.getElem?_modify, h]⟩
theorem isT_of {lo tp b o : Nat} {w : World} {X : List Int} (h : TagR lo tp w (some ⟨b, o, none⟩) X) (h0 : 0 < X.length) : IsT w b := by
  rcases h with h | ⟨b', o', cur, ha, _, _, ht, _⟩
  · rw [h] at h0; exact absurd h0 (by simp)
  · injection ha with ha; injection ha with h1 h2; subst h1; exact ⟨cur, ht⟩
theorem tag_put0 {lo tp : Nat} {w : World} {b o n : Nat} {f : Nat → Int} (h : RowOwn w b o n f) (ht : IsT w b) (hn : 0 < n) (v : Int) (h0 : lo ≤ b) (h1 : b < tp) : TagR lo tp (w.setCell ⟨b, o, none⟩ (.int .i64 v)) (some ⟨b, o, none⟩) (mkR n (fun i => if i = 0 then v else f i)) := by
  obtain ⟨cur, hc⟩ := ht.set (o := o) (.int .i64 v)
  refine .inr ⟨b, o, cur, rfl, h0, h1, hc, fun j hj => ?_⟩
  rw [mkR_len] at hj
  rw [mkR_at _ hj]
  exact (rowOwn_put0 h hn v).cell j hj

set_option maxRecDepth 100000 in
set_option maxHeartbeats 3200000 in
theorem vecT_any (p : Int) (n : Nat) (b : Nat) (a : Option Addr) (len cap : Nat) (zs : List Int) (w : World) (hs : Src w b a len cap zs) (hn : n ≤ 1048500) :
    Calls Try.prog 51 #[.pointer (some ⟨b, 0, none⟩), .int .i64 p, .int .i64 n] w (DrawnRT (fun X => X.length ≤ n + 1) b a len cap zs w) := by
  obtain ⟨i0, hi, hz0, hz1, hz2⟩ := info_parts info64
  have hlt := hs.lt
  have hn' : n ≤ 1048576 := by omega
  have HS := Lib.hid hs
  clear hs
  by_cases hp : p < 1
  · by_cases hn0 : 0 < n
    · have hn1 : (0 : Int) < (n : Int) := by omega
      go_enter Try.func51, Try.ntmps51
      go_upto_region 5 with (first | (go_at_call 70; (with_reducible refine (list_any 3 n b a len cap zs _ HS.out hn').mono ?_); rintro e wl ⟨v1, X, rfl, hX, o1, on1, s1⟩; obtain ⟨r1, c1, rfl, ht1⟩ := o1.tag; obtain ⟨q1, g1, hr1, hq0, hq1, hro⟩ := RowOwn.of ht1.own (show 0 < X.length by rw [hX]; exact hn0); subst hr1; rw [hX] at hro; have HRO := Lib.hid hro; have hqb : q1 ≠ b := Nat.ne_of_gt (Nat.lt_of_lt_of_le hlt hq0); clear hro; have HX := Lib.hid hX; have HO1 := Lib.hid o1; have HT1 := Lib.hid ht1; have HON1 := Lib.hid on1; have HS1 := Lib.hid s1; have zy1 := on1.size; rw [hX]; clear o1 on1 s1 ht1 hX) | (go_at_call 32; (with_reducible refine (next_any 24 b a len cap zs _ HS1.out).mono ?_); rintro e w2 ⟨x, rfl, _, on2, s2⟩; have zy2 := on2.size; have HON2 := Lib.hid (HON1.out.trans on2); have HS2 := Lib.hid s2; have HO2 := Lib.hid (HO1.out.only on2 hlt); have H2 : Hid (w2.ownsRow w.heap.size 2 1 (.slice (some ⟨q1, g1, none⟩) n c1) n (X.map (Value.int .i64))) := (by have h := HO2.out; unfold OutR at h; rw [HX.out] at h; exact h); have HR2 := Lib.hid (rowOwn_stay HRO.out (on2.block q1 hq1 hqb)); have hq2 := Nat.lt_of_lt_of_le hq1 zy2; have HT2 : Hid (TagR w.heap.size w2.heap.size w2 (some ⟨q1, g1, none⟩) X) := TagR.block HT1.out (Nat.le_refl _) zy2 (fun i _ i0 i1 _ => on2.block i i1 (Nat.ne_of_gt (Nat.lt_of_lt_of_le hlt i0))); clear on2 s2))
      by_cases hx0 : x = 0
      · subst hx0
        go_wp2_with (at_builtin; refine wpList_append_lies _ rfl _ _ 24 rfl w.heap.size 2 i0 (.int .i64 0) 1 8 Try.underlying24 hi hz0 hz1 hz2 rfl (by decide) (.slice (some ⟨q1, g1, none⟩) n c1) n (X.map (Value.int .i64)) rfl (H2.out.alloc _) ⟨w2.heap.size, 0, none⟩ 1 1 [.int .i64 0] rfl rfl (World.news_of_block (cs := #[.int .i64 0]) (t := 2) (fr := (0, 0)) (heap_alloc_new w2 _)) (by simp [Value.oneCell']) (by omega) (by unfold maxLen; omega) (by omega) (by simp; omega) (w2.heap.size + 1) (by simp) ?_; intro gg cap w1 hown1 hgrow hat hlt1)
        go_ret
        obtain ⟨r9, c9, e9, t9⟩ := (OutR.push (X := X) (x := 0) (by rw [HX.out]; exact hown1)).tag
        exact ⟨r9, c9, X ++ [0], by rw [← e9]; rfl, by show (X ++ [0]).length ≤ n + 1; rw [List.length_append, HX.out]; exact Nat.le_refl _, t9, (HON2.out.alloc _).grown hgrow (fun k e => (H2.out.lt _ e).1), (HS2.out.alloc _).grown hgrow (fun k e => by have := (H2.out.lt _ e).1; omega)⟩
      · have e0 : (x == 0) = false := by simpa using hx0
        by_cases hx1 : x = 1
        · subst hx1
          go_wp2_with (go_at_call 33; (refine (pick_any w2.heap.size 2 [-1, 3] b a len cap zs _ (HS2.out.alloc _) (rowOf w2 [-1, 3] _) rfl (by omega) (by omega) (by simp) (by omega)).mono ?_; rintro e w3 ⟨y, rfl, _, on3, s3⟩; have HS3 := Lib.hid s3; have HON3 := Lib.hid ((HON2.out.alloc _).trans on3); have HTY3 := Lib.hid ((isT_of HT2.out (show 0 < X.length by rw [HX.out]; exact hn0)).same ((on3.block q1 (by simp; omega) hqb).trans (heap_other w2 _ hq2))); have HR3 := Lib.hid (rowOwn_stay (rowOwn_stay HR2.out (heap_other w2 _ hq2)) (on3.block q1 (by simp; omega) hqb)); have cy := HR3.out.cell 0 hn0; have fy := HR3.out.free 0 hn0; rw [Nat.add_zero] at cy fy; have zy3 := on3.size; clear on3 s3))
          go_ret
          exact ⟨some ⟨q1, g1, none⟩, c1, mkR n (fun i => if i = 0 then y else X.getD i 0), by rw [mkR_len]; rfl, by show (mkR n _).length ≤ n + 1; rw [mkR_len]; omega, tag_put0 HR3.out HTY3.out hn0 y hq0 (by simp [World.setCell]; simp at zy3; omega), HON3.out.setCell (.inr hq0) _, HS3.out.far ((Only.refl q1 w3).setCell (.inl rfl) _) (Nat.lt_of_lt_of_le hlt hq0)⟩
        · have e1 : (x == 1) = false := by simpa using hx1
          go_wp2
          go_ret
          exact ⟨some ⟨q1, g1, none⟩, c1, X, by rw [HX.out]; rfl, by show X.length ≤ n + 1; rw [HX.out]; omega, HT2.out, HON2.out, HS2.out⟩
    · have hn1 : ¬ (0 : Int) < (n : Int) := by omega
      go_enter Try.func51, Try.ntmps51
      go_upto_region 5 with (first | (go_at_call 70; (with_reducible refine (list_any 3 n b a len cap zs _ HS.out hn').mono ?_); rintro e wl ⟨v1, X, rfl, hX, o1, on1, s1⟩; obtain ⟨r1, c1, rfl, ht1⟩ := o1.tag; have HX := Lib.hid hX; have HO1 := Lib.hid o1; have HT1 := Lib.hid ht1; have HON1 := Lib.hid on1; have HS1 := Lib.hid s1; have zy1 := on1.size; rw [hX]; clear o1 on1 s1 ht1 hX) | (go_at_call 32; (with_reducible refine (next_any 24 b a len cap zs _ HS1.out).mono ?_); rintro e w2 ⟨x, rfl, _, on2, s2⟩; have zy2 := on2.size; have HON2 := Lib.hid (HON1.out.trans on2); have HS2 := Lib.hid s2; have HO2 := Lib.hid (HO1.out.only on2 hlt); have H2 : Hid (w2.ownsRow w.heap.size 2 1 (.slice r1 n c1) n (X.map (Value.int .i64))) := (by have h := HO2.out; unfold OutR at h; rw [HX.out] at h; exact h); have HT2 : Hid (TagR w.heap.size w2.heap.size w2 r1 X) := TagR.block HT1.out (Nat.le_refl _) zy2 (fun i _ i0 i1 _ => on2.block i i1 (Nat.ne_of_gt (Nat.lt_of_lt_of_le hlt i0))); clear on2 s2))
      by_cases hx0 : x = 0
      · subst hx0
        go_wp2_with (at_builtin; refine wpList_append_lies _ rfl _ _ 24 rfl w.heap.size 2 i0 (.int .i64 0) 1 8 Try.underlying24 hi hz0 hz1 hz2 rfl (by decide) (.slice r1 n c1) n (X.map (Value.int .i64)) rfl (H2.out.alloc _) ⟨w2.heap.size, 0, none⟩ 1 1 [.int .i64 0] rfl rfl (World.news_of_block (cs := #[.int .i64 0]) (t := 2) (fr := (0, 0)) (heap_alloc_new w2 _)) (by simp [Value.oneCell']) (by omega) (by unfold maxLen; omega) (by omega) (by simp; omega) (w2.heap.size + 1) (by simp) ?_; intro gg cap w1 hown1 hgrow hat hlt1)
        go_ret
        obtain ⟨r9, c9, e9, t9⟩ := (OutR.push (X := X) (x := 0) (by rw [HX.out]; exact hown1)).tag
        exact ⟨r9, c9, X ++ [0], by rw [← e9]; rfl, by show (X ++ [0]).length ≤ n + 1; rw [List.length_append, HX.out]; exact Nat.le_refl _, t9, (HON2.out.alloc _).grown hgrow (fun k e => (H2.out.lt _ e).1), (HS2.out.alloc _).grown hgrow (fun k e => by have := (H2.out.lt _ e).1; omega)⟩
      · have e0 : (x == 0) = false := by simpa using hx0
        by_cases hx1 : x = 1
        · subst hx1
          go_wp2
          go_ret
          exact ⟨r1, c1, X, by rw [HX.out]; rfl, by show X.length ≤ n + 1; rw [HX.out]; omega, HT2.out, HON2.out, HS2.out⟩
        · have e1 : (x == 1) = false := by simpa using hx1
          go_wp2
          go_ret
          exact ⟨r1, c1, X, by rw [HX.out]; rfl, by show X.length ≤ n + 1; rw [HX.out]; omega, HT2.out, HON2.out, HS2.out⟩
  · by_cases hn0 : 0 < n
    · have hn1 : (0 : Int) < (n : Int) := by omega
      go_enter Try.func51, Try.ntmps51
      go_upto_region 5 with (first | (go_at_call 70; (with_reducible refine (list_any p n b a len cap zs _ HS.out hn').mono ?_); rintro e wl ⟨v1, X, rfl, hX, o1, on1, s1⟩; obtain ⟨r1, c1, rfl, ht1⟩ := o1.tag; obtain ⟨q1, g1, hr1, hq0, hq1, hro⟩ := RowOwn.of ht1.own (show 0 < X.length by rw [hX]; exact hn0); subst hr1; rw [hX] at hro; have HRO := Lib.hid hro; have hqb : q1 ≠ b := Nat.ne_of_gt (Nat.lt_of_lt_of_le hlt hq0); clear hro; have HX := Lib.hid hX; have HO1 := Lib.hid o1; have HT1 := Lib.hid ht1; have HON1 := Lib.hid on1; have HS1 := Lib.hid s1; have zy1 := on1.size; rw [hX]; clear o1 on1 s1 ht1 hX) | (go_at_call 32; (with_reducible refine (next_any 24 b a len cap zs _ HS1.out).mono ?_); rintro e w2 ⟨x, rfl, _, on2, s2⟩; have zy2 := on2.size; have HON2 := Lib.hid (HON1.out.trans on2); have HS2 := Lib.hid s2; have HO2 := Lib.hid (HO1.out.only on2 hlt); have H2 : Hid (w2.ownsRow w.heap.size 2 1 (.slice (some ⟨q1, g1, none⟩) n c1) n (X.map (Value.int .i64))) := (by have h := HO2.out; unfold OutR at h; rw [HX.out] at h; exact h); have HR2 := Lib.hid (rowOwn_stay HRO.out (on2.block q1 hq1 hqb)); have hq2 := Nat.lt_of_lt_of_le hq1 zy2; have HT2 : Hid (TagR w.heap.size w2.heap.size w2 (some ⟨q1, g1, none⟩) X) := TagR.block HT1.out (Nat.le_refl _) zy2 (fun i _ i0 i1 _ => on2.block i i1 (Nat.ne_of_gt (Nat.lt_of_lt_of_le hlt i0))); clear on2 s2))
      by_cases hx0 : x = 0
      · subst hx0
        go_wp2_with (at_builtin; refine wpList_append_lies _ rfl _ _ 24 rfl w.heap.size 2 i0 (.int .i64 0) 1 8 Try.underlying24 hi hz0 hz1 hz2 rfl (by decide) (.slice (some ⟨q1, g1, none⟩) n c1) n (X.map (Value.int .i64)) rfl (H2.out.alloc _) ⟨w2.heap.size, 0, none⟩ 1 1 [.int .i64 0] rfl rfl (World.news_of_block (cs := #[.int .i64 0]) (t := 2) (fr := (0, 0)) (heap_alloc_new w2 _)) (by simp [Value.oneCell']) (by omega) (by unfold maxLen; omega) (by omega) (by simp; omega) (w2.heap.size + 1) (by simp) ?_; intro gg cap w1 hown1 hgrow hat hlt1)
        go_ret
        obtain ⟨r9, c9, e9, t9⟩ := (OutR.push (X := X) (x := 0) (by rw [HX.out]; exact hown1)).tag
        exact ⟨r9, c9, X ++ [0], by rw [← e9]; rfl, by show (X ++ [0]).length ≤ n + 1; rw [List.length_append, HX.out]; exact Nat.le_refl _, t9, (HON2.out.alloc _).grown hgrow (fun k e => (H2.out.lt _ e).1), (HS2.out.alloc _).grown hgrow (fun k e => by have := (H2.out.lt _ e).1; omega)⟩
      · have e0 : (x == 0) = false := by simpa using hx0
        by_cases hx1 : x = 1
        · subst hx1
          go_wp2_with (go_at_call 33; (refine (pick_any w2.heap.size 2 [-1, p] b a len cap zs _ (HS2.out.alloc _) (rowOf w2 [-1, p] _) rfl (by omega) (by omega) (by simp) (by omega)).mono ?_; rintro e w3 ⟨y, rfl, _, on3, s3⟩; have HS3 := Lib.hid s3; have HON3 := Lib.hid ((HON2.out.alloc _).trans on3); have HTY3 := Lib.hid ((isT_of HT2.out (show 0 < X.length by rw [HX.out]; exact hn0)).same ((on3.block q1 (by simp; omega) hqb).trans (heap_other w2 _ hq2))); have HR3 := Lib.hid (rowOwn_stay (rowOwn_stay HR2.out (heap_other w2 _ hq2)) (on3.block q1 (by simp; omega) hqb)); have cy := HR3.out.cell 0 hn0; have fy := HR3.out.free 0 hn0; rw [Nat.add_zero] at cy fy; have zy3 := on3.size; clear on3 s3))
          go_ret
          exact ⟨some ⟨q1, g1, none⟩, c1, mkR n (fun i => if i = 0 then y else X.getD i 0), by rw [mkR_len]; rfl, by show (mkR n _).length ≤ n + 1; rw [mkR_len]; omega, tag_put0 HR3.out HTY3.out hn0 y hq0 (by simp [World.setCell]; simp at zy3; omega), HON3.out.setCell (.inr hq0) _, HS3.out.far ((Only.refl q1 w3).setCell (.inl rfl) _) (Nat.lt_of_lt_of_le hlt hq0)⟩
        · have e1 : (x == 1) = false := by simpa using hx1
          go_wp2
          go_ret
          exact ⟨some ⟨q1, g1, none⟩, c1, X, by rw [HX.out]; rfl, by show X.length ≤ n + 1; rw [HX.out]; omega, HT2.out, HON2.out, HS2.out⟩
    · have hn1 : ¬ (0 : Int) < (n : Int) := by omega
      go_enter Try.func51, Try.ntmps51
      go_upto_region 5 with (first | (go_at_call 70; (with_reducible refine (list_any p n b a len cap zs _ HS.out hn').mono ?_); rintro e wl ⟨v1, X, rfl, hX, o1, on1, s1⟩; obtain ⟨r1, c1, rfl, ht1⟩ := o1.tag; have HX := Lib.hid hX; have HO1 := Lib.hid o1; have HT1 := Lib.hid ht1; have HON1 := Lib.hid on1; have HS1 := Lib.hid s1; have zy1 := on1.size; rw [hX]; clear o1 on1 s1 ht1 hX) | (go_at_call 32; (with_reducible refine (next_any 24 b a len cap zs _ HS1.out).mono ?_); rintro e w2 ⟨x, rfl, _, on2, s2⟩; have zy2 := on2.size; have HON2 := Lib.hid (HON1.out.trans on2); have HS2 := Lib.hid s2; have HO2 := Lib.hid (HO1.out.only on2 hlt); have H2 : Hid (w2.ownsRow w.heap.size 2 1 (.slice r1 n c1) n (X.map (Value.int .i64))) := (by have h := HO2.out; unfold OutR at h; rw [HX.out] at h; exact h); have HT2 : Hid (TagR w.heap.size w2.heap.size w2 r1 X) := TagR.block HT1.out (Nat.le_refl _) zy2 (fun i _ i0 i1 _ => on2.block i i1 (Nat.ne_of_gt (Nat.lt_of_lt_of_le hlt i0))); clear on2 s2))
      by_cases hx0 : x = 0
      · subst hx0
        go_wp2_with (at_builtin; refine wpList_append_lies _ rfl _ _ 24 rfl w.heap.size 2 i0 (.int .i64 0) 1 8 Try.underlying24 hi hz0 hz1 hz2 rfl (by decide) (.slice r1 n c1) n (X.map (Value.int .i64)) rfl (H2.out.alloc _) ⟨w2.heap.size, 0, none⟩ 1 1 [.int .i64 0] rfl rfl (World.news_of_block (cs := #[.int .i64 0]) (t := 2) (fr := (0, 0)) (heap_alloc_new w2 _)) (by simp [Value.oneCell']) (by omega) (by unfold maxLen; omega) (by omega) (by simp; omega) (w2.heap.size + 1) (by simp) ?_; intro gg cap w1 hown1 hgrow hat hlt1)
        go_ret
        obtain ⟨r9, c9, e9, t9⟩ := (OutR.push (X := X) (x := 0) (by rw [HX.out]; exact hown1)).tag
        exact ⟨r9, c9, X ++ [0], by rw [← e9]; rfl, by show (X ++ [0]).length ≤ n + 1; rw [List.length_append, HX.out]; exact Nat.le_refl _, t9, (HON2.out.alloc _).grown hgrow (fun k e => (H2.out.lt _ e).1), (HS2.out.alloc _).grown hgrow (fun k e => by have := (H2.out.lt _ e).1; omega)⟩
      · have e0 : (x == 0) = false := by simpa using hx0
        by_cases hx1 : x = 1
        · subst hx1
          go_wp2
          go_ret
          exact ⟨r1, c1, X, by rw [HX.out]; rfl, by show X.length ≤ n + 1; rw [HX.out]; omega, HT2.out, HON2.out, HS2.out⟩
        · have e1 : (x == 1) = false := by simpa using hx1
          go_wp2
          go_ret
          exact ⟨r1, c1, X, by rw [HX.out]; rfl, by show X.length ≤ n + 1; rw [HX.out]; omega, HT2.out, HON2.out, HS2.out⟩

set_option maxHeartbeats 1600000 in
theorem drawVectorT_any (b : Nat) (a : Option Addr) (len cap : Nat) (zs : List Int) (p : Int) (aS : Option Addr) (S : List Int) (cS : Nat) (w : World) (hs : Src w b a len cap zs) (hn : S.length ≤ 1048500) :
    Calls Try.prog 34 #[.pointer (some ⟨b, 0, none⟩), .agg #[.int .i64 p, .slice aS S.length cS]] w (DrawnRT (fun X => X.length ≤ S.length + 1) b a len cap zs w) := by
  have HS := Lib.hid hs
  clear hs
  go_enter Try.func34, Try.ntmps34
  go_wp2_with (go_at_call 51; (with_reducible refine (vecT_any p S.length b a len cap zs _ (HS.out.alloc _) hn).mono ?_); rintro e w2 ⟨r2, c2, X, rfl, hX, o2, on2, s2⟩; have HO2 := Lib.hid o2; have HON2 := Lib.hid on2; have HS2 := Lib.hid s2; have HX := Lib.hid hX; clear o2 on2 s2 hX)
  go_ret
  exact ⟨r2, c2, X, rfl, HX.out, TagR.block HO2.out (size_alloc w _) (Nat.le_refl _) (fun _ _ _ _ _ => rfl), ((Only.refl b w).alloc _).trans HON2.out, HS2.out⟩

/-- A drawn list of lists. -/
def DrawnLL (S : List Int) (b : Nat) (a : Option Addr) (len cap : Nat) (zs : List Int) (w : World) (e : Ending) (w' : World) : Prop :=
  ∃ r c m, e = .returned (.slice r m.length c) ∧ m.length ≤ 17 ∧ (∀ i, i < m.length → (rw' m i).length ≤ S.length + 1) ∧ MatIn w.heap.size w'.heap.size w' r m ∧ Only b w w' ∧ Src w' b a len cap zs
theorem len_push {n : Nat} {X : List Int} {m : List (List Int)} (h : ∀ i, i < m.length → (rw' m i).length ≤ n) (h1 : X.length ≤ n) : ∀ i, i < (m ++ [X]).length → (rw' (m ++ [X]) i).length ≤ n := fun i hi => by
  rw [List.length_append] at hi
  have hi' : i < m.length + 1 := hi
  by_cases e : i < m.length
  · rw [rw_append e]; exact h i e
  · rw [show i = m.length by omega, rw_append_last]; exact h1
theorem zeros_tag (w : World) (n B : Nat) (hB : B ≤ w.heap.size) : TagR B (w.alloc (.cells (madeCells #[.int .i64 0] n) 2)).heap.size (w.alloc (.cells (madeCells #[.int .i64 0] n) 2)) (some ⟨w.heap.size, 0, none⟩) (mkR n fun _ => 0) := by
  refine .inr ⟨w.heap.size, 0, madeCells #[.int .i64 0] n, rfl, hB, by simp, heap_alloc_new w _, fun j hj => ?_⟩
  rw [mkR_len] at hj
  rw [mkR_at _ hj]
  simp [go_sem, madeCells, hj, Nat.mod_one]
theorem heap_new2 (w : World) (o o2 : Obj) : ((w.alloc o).alloc o2).heap[w.heap.size + 1]? = some o2 := by
  have h := heap_alloc_new (w.alloc o) o2
  rw [show (w.alloc o).heap.size = w.heap.size + 1 by simp] at h
  exact h
def lenV : Value → Nat
  | .slice _ n _ => n
  | _ => 0

/-- A space, or what is none, and a list of lists, in new memory. -/
def DrawnPL (w : World) (e : Ending) (w' : World) : Prop :=
  ∃ p r X c rm m cm, e = .returned (.tuple #[.agg #[.int .i64 p, .slice r X.length c], .slice rm m.length cm]) ∧ X.length ≤ 7 ∧ m.length ≤ 17 ∧ (∀ i, i < m.length → (rw' m i).length ≤ 8) ∧ RowIn w.heap.size w'.heap.size w' r X ∧ MatIn w.heap.size w'.heap.size w' rm m ∧ Below w.heap.size w w'

end Go.Proofs.Ytdfkpbmccmbjmaa

namespace Go.Proofs.Ytdfkpbmccmbjmaa
open Go.RowKit
set_option linter.unusedVariables false

set_option maxRecDepth 100000 in
set_option maxHeartbeats 6400000 in
theorem drawList3_any (b : Nat) (a : Option Addr) (len cap : Nat) (zs : List Int) (pS : Int) (aS : Option Addr) (S : List Int) (cS loS tpS : Nat) (w : World) (hs : Src w b a len cap zs) (h7 : S.length ≤ 7) (hS : RowIn loS tpS w aS S) (tS : tpS ≤ w.heap.size) (hbS : b < loS ∨ tpS ≤ b) :
    Calls Try.prog 15 #[.pointer (some ⟨b, 0, none⟩), .agg #[.int .i64 pS, .slice aS S.length cS], .int .i64 3] w (DrawnLL S b a len cap zs w) := by
  obtain ⟨j0, kj, kz0, kz1, kz2⟩ := info_parts info_slice
  have hlt := hs.lt
  have hn6 : S.length ≤ 1048500 := by omega
  have HS := Lib.hid hS
  have HSR := Lib.hid hs
  have hmk := fun W => run_make_row' (P := Try.prog) 24 2 (.int .i64 0) 8 Try.underlying24 info64 rfl .i64 .i64 S.length (by omega) (by omega) W
  clear hS hs
  go_enter Try.func15, Try.ntmps15
  go_upto_region 1 with fail
  obtain ⟨w1, hw1⟩ : ∃ z, z = w.alloc (.cells #[.int .i64 pS, .slice aS S.length cS] 26) := ⟨_, rfl⟩
  have k0 : w1.cell? ⟨w.heap.size, 0, none⟩ = some (.int .i64 pS) := by rw [hw1]; exact nw0 w _ _ _
  have k1 : w1.cell? ⟨w.heap.size, 1, none⟩ = some (.slice aS S.length cS) := by rw [hw1]; exact nw1 w _ _ _
  have HB1 : Hid (Below w.heap.size w w1) := by show Below _ _ _; rw [hw1]; exact below_alloc w _
  have hd1 : w.heap.size < w1.heap.size := by rw [hw1]; simp
  rw [← hw1]
  clear hw1
  go_upto_region 2 with fail
  obtain ⟨w2, hw2⟩ : ∃ z, z = w1.alloc (.cells #[] 24) := ⟨_, rfl⟩
  obtain ⟨B, hB⟩ : ∃ z, z = w1.heap.size := ⟨_, rfl⟩
  have D2 : Hid (DU b a len cap zs w.heap.size pS aS S cS loS tpS w B [] (.slice (some ⟨B, 0, none⟩) 0 0) w2) := by
    show DU _ _ _ _ _ _ _ _ _ _ _ _ _ _ _ _ _
    have hb2 : Below w1.heap.size w1 w2 := by rw [hw2]; exact below_alloc w1 _
    have hb3 : Below w.heap.size w w2 := below_step HB1.out HB1.out.size hb2
    exact { src := HSR.out.step hb3, c0 := (hb2.cell (p := ⟨w.heap.size, 0, none⟩) hd1).trans k0, c1 := (hb2.cell (p := ⟨w.heap.size, 1, none⟩) hd1).trans k1, row := HS.out.below hb3 tS,
            out := by rw [hw2, hB]; exact OutM.start w1 _ _ (Nat.le_refl _) rfl, on := Only.of_below hb3, size := by rw [hB]; exact hb2.size, hb := hlt, hg := Nat.le_refl _, hgB := by rw [hB]; exact hd1, ht := tS, hS := hbS }
  rw [← hw2, ← hB]
  clear hw2 hB k0 k1 HB1 hd1
  go_upto_region 3 with (go_at_call 32; ((with_reducible refine (next_any 4 b a len cap zs w2 D2.out.src).mono ?_); rintro e w3 ⟨x, rfl, hx, on3, s3⟩; obtain ⟨x0, x1⟩ := hx (by omega); obtain ⟨xn, rfl⟩ := Int.eq_ofNat_of_zero_le x0; have D3 := Lib.hid (D2.out.only on3 s3); clear on3 s3 hx))
  have hxn : xn ≤ 4 := by omega
  clear D2
  go_loopw [7, 8] (fun u t wr => ∃ (j : Nat) (m : List (List Int)), t = .int .i64 j ∧ m.length + j ≤ xn ∧ (∀ i, i < m.length → (rw' m i).length ≤ S.length + 1) ∧ DU b a len cap zs w.heap.size pS aS S cS loS tpS w B m u wr) (fun _ t _ => (intOf t).toNat)
  case atStart => exact ⟨xn, [], rfl, by simp, fun i hi => absurd hi (Nat.not_lt_zero i), D3.out⟩
  case round =>
    obtain ⟨j, m, rfl, hj, hall, hd⟩ := hrel
    have HD := Lib.hid hd
    have HALL := Lib.hid hall
    clear hd hall D3
    have k0 := HD.out.c0
    have k1 := HD.out.c1
    by_cases hj0 : 0 < j
    · have hj1 : (0 : Int) < (j : Int) := by omega
      go_wp2_with (first | (go_at_call 34; ((with_reducible refine (drawVectorT_any b a len cap zs pS aS S cS wr HD.out.src hn6).mono ?_); rintro e w4 ⟨r4, c4, X, rfl, hX, o4, on4, s4⟩; have HX := Lib.hid hX; have HT := Lib.hid (TagR.block o4 HD.out.size (Nat.le_refl _) (fun _ _ _ _ _ => rfl)); have D4 := Lib.hid (HD.out.only on4 s4); obtain ⟨vals, hvo, hvr⟩ := D4.out.out; have HVW := Lib.hid hvo; have hBz := D4.out.size; have HVR := Lib.hid hvr; clear o4 on4 s4 hX hvo hvr k0 k1)) | ((at_builtin; (refine wpList_append_lies _ rfl _ _ 27 rfl B 24 j0 (.slice none 0 0) 1 24 Try.underlying27 kj kz0 kz1 kz2 rfl (by decide) u7 m.length vals rfl (HVW.out.alloc _) ⟨w4.heap.size, 0, none⟩ 1 1 [.slice r4 X.length c4] rfl rfl (World.news_of_block (cs := #[.slice r4 X.length c4]) (t := 24) (fr := (0, 0)) (heap_alloc_new w4 _)) (by simp [Value.oneCell']) (by omega) (by unfold maxLen; omega) (by omega) (by simp; omega) (w4.heap.size + 1) (by simp) ?_); intro gg cap w1 hown1 hgrow hat hlt1)))
      go_wp2
      go_roundw
      case rel => exact ⟨j - 1, m ++ [X], by go_num, by rw [List.length_append]; show m.length + 1 + (j - 1) ≤ xn; omega, len_push HALL.out HX.out, D4.out.push HVW.out HVR.out HT.out hown1 hgrow⟩
      case measure => simp [intOf]; omega
    · have hj1 : ¬ (0 : Int) < (j : Int) := by omega
      have hm4 : m.length ≤ 17 := by omega
      clear hj hj0 hxn
      go_wp2_with (go_at_call 32; ((with_reducible refine (next_any 40 b a len cap zs wr HD.out.src).mono ?_); rintro e w5 ⟨x5, rfl, _, on5, s5⟩; have D5 := Lib.hid (HD.out.only on5 s5); clear on5 s5))
      · rename_i hx5
        clear hx5
        go_loopw [7] (fun u wr => ∃ (m : List (List Int)), m.length ≤ 17 ∧ (∀ i, i < m.length → (rw' m i).length ≤ S.length + 1) ∧ DU b a len cap zs w.heap.size pS aS S cS loS tpS w B m u wr) (fun u _ => 17 - lenV u)
        case atStart => exact ⟨m, hm4, HALL.out, D5.out⟩
        case round =>
          clear HALL hm4 D5 k0 k1 HD
          obtain ⟨m, hm, hall, hd⟩ := hrel
          obtain ⟨am, cm, hu, _⟩ := hd.out.mat
          subst hu
          have HD := Lib.hid hd
          have HALL := Lib.hid hall
          clear hall hd
          have k0 := HD.out.c0
          have k1 := HD.out.c1
          by_cases hlt7 : m.length < 17
          · have hi1 : (m.length : Int) < 17 := by omega
            obtain ⟨vals, hvo, hvr⟩ := HD.out.out
            have HVW := Lib.hid hvo
            have HVR := Lib.hid hvr
            have hBz := HD.out.size
            have hBz2 : B ≤ (wr.alloc (.cells (madeCells #[.int .i64 0] S.length) 2)).heap.size := Nat.le_trans hBz (size_alloc _ _)
            have D8 := Lib.hid (HD.out.below (below_alloc wr (.cells (madeCells #[.int .i64 0] S.length) 2)))
            have HVW8 := Lib.hid (HVW.out.alloc (.cells (madeCells #[.int .i64 0] S.length) 2))
            clear hvo hvr
            go_wp2_with ((at_builtin; (refine wpList_append_lies _ rfl _ _ 27 rfl B 24 j0 (.slice none 0 0) 1 24 Try.underlying27 kj kz0 kz1 kz2 rfl (by decide) (.slice am m.length cm) m.length vals rfl (HVW8.out.alloc _) ⟨wr.heap.size + 1, 0, none⟩ 1 1 [.slice (some ⟨wr.heap.size, 0, none⟩) S.length S.length] rfl rfl (World.news_of_block (cs := #[.slice (some ⟨wr.heap.size, 0, none⟩) S.length S.length]) (t := 24) (fr := (0, 0)) (heap_new2 wr (.cells (madeCells #[.int .i64 0] S.length) 2) _)) (by simp [Value.oneCell']) (by omega) (by unfold maxLen; omega) (by omega) (by simp; omega) (wr.heap.size + 2) (by simp) ?_); intro gg cap w1 hown1 hgrow hat hlt1))
            go_wp2
            go_roundw
            case rel => exact ⟨m ++ [mkR S.length fun _ => 0], by rw [List.length_append]; show m.length + 1 ≤ 17; omega, len_push HALL.out (by rw [mkR_len]; omega), D8.out.push HVW8.out (fun i hi => by obtain ⟨r', c', e1, e2⟩ := HVR.out i hi; exact ⟨r', c', e1, e2.below (below_alloc wr _) (Nat.le_refl _) (Nat.le_refl _) (size_alloc _ _)⟩) (zeros_tag wr S.length B hBz) (by rw [mkR_len]; exact hown1) hgrow⟩
            case measure => simp [lenV]; omega
          · have hi1 : ¬ (m.length : Int) < 17 := by omega
            go_wp2
            go_ret
            obtain ⟨r, c, e9, hm9⟩ := HD.out.out.mat
            injection e9 with e91 _ e93
            subst e91
            subst e93
            exact ⟨am, cm, m, rfl, hm, HALL.out, hm9.mono (by have := HD.out.hg; have := HD.out.hgB; omega) (Nat.le_refl _), HD.out.on, HD.out.src⟩
      · go_ret
        obtain ⟨r, c, e9, hm9⟩ := D5.out.out.mat
        subst e9
        exact ⟨r, c, m, rfl, hm4, HALL.out, hm9.mono (by have := D5.out.hg; have := D5.out.hgB; omega) (Nat.le_refl _), D5.out.on, D5.out.src⟩

set_option maxRecDepth 100000 in
set_option maxHeartbeats 6400000 in
theorem drawOG_any (a : Option Addr) (len cap : Nat) (zs : List Int) (w : World) (hb : Code8 w a len zs) (hl : len ≤ 4096) :
    Calls Try.prog 5 #[.slice a len cap] w (DrawnPL w) := by
  have HB := Lib.hid hb
  clear hb
  go_enter Try.func5, Try.ntmps5
  go_upto_region 1 with fail
  obtain ⟨wa, hwa⟩ : ∃ z, z = w.alloc (.cells #[.int .i64 0, .slice none 0 0] 26) := ⟨_, rfl⟩
  have HR1 : Hid (L2 wa w.heap.size (.int .i64 0) (.slice none 0 0)) := by show L2 _ _ _ _; rw [hwa]; exact L2.new _ _ _ _
  have HC1 : Hid (Code8 wa a len zs) := by show Code8 _ _ _ _; rw [hwa]; exact HB.out.below (below_alloc w _)
  have HB1 : Hid (Below w.heap.size w wa) := by show Below _ _ _; rw [hwa]; exact below_alloc w _
  have hRa : w.heap.size < wa.heap.size := by rw [hwa]; simp
  rw [← hwa]
  clear hwa
  go_upto_region 3 with (first
    | (go_at_call 13; (with_reducible refine (from_any a len cap zs wa HC1.out hl).mono ?_); rintro e w1 ⟨rfl, b1, s1⟩; have HS1 := Lib.hid s1; have HB2 := Lib.hid (below_step HB1.out (Nat.le_of_lt hRa) b1); have HR2 := Lib.hid (HR1.out.below b1 hRa); have hR1 := Nat.lt_of_lt_of_le hRa b1.size; clear b1 s1)
    | (go_at_call 14; (with_reducible refine (spoil_space wa.heap.size a len cap zs w1 HS1.out).mono ?_); rintro e w2 ⟨p, r, X, c, rfl, hX, o2, on2, s2⟩; have HX := Lib.hid hX; have HS2 := Lib.hid s2; have HX2 := Lib.hid o2; have HB3 := Lib.hid (HB2.out.trans (on2.below (Nat.le_of_lt hRa) (Nat.le_of_lt hR1))); have HR3 := Lib.hid (HR2.out.only on2 hR1 (Nat.ne_of_lt hRa)); have hR2 := Nat.lt_of_lt_of_le hR1 on2.size; have hb1 := HS1.out.lt; have zy2 := on2.size; clear on2 s2 o2 hX))
  obtain ⟨wg, hwg⟩ : ∃ z, z = w2.alloc (.cells #[.int .i64 p, .slice r X.length c] 26) := ⟨_, rfl⟩
  obtain ⟨g, hg⟩ : ∃ z, z = w2.heap.size := ⟨_, rfl⟩
  obtain ⟨b, hbb⟩ : ∃ z, z = wa.heap.size := ⟨_, rfl⟩
  obtain ⟨lo, hlo⟩ : ∃ z, z = w1.heap.size := ⟨_, rfl⟩
  have D0 : Hid (DB b a len cap zs g p r X c lo w wg) := by
    show DB b a len cap zs g p r X c lo w wg
    have hbg : Below w2.heap.size w2 wg := by rw [hwg]; exact below_alloc w2 _
    exact { src := by rw [hbb]; exact HS2.out.step hbg, R := HR3.out.below hbg hR2, G := by rw [hwg, hg]; exact L2.new _ _ _ _, row := by rw [hlo, hg]; exact HX2.out.below hbg (Nat.le_refl _), on := HB3.out.trans (hbg.mono (Nat.le_of_lt hR2)), hR := by rw [hbb]; exact hRa, hb := by rw [hbb, hlo]; exact hb1, hlo := by rw [hlo, hg]; exact zy2, hg := by rw [hwg, hg]; simp }
  have hXs : X.length ≤ 7 := HX.out
  rw [← hwg, ← hg, ← hbb]
  clear hwg hg hbb hlo HR3 HS2 HB3 HX2 hb1 zy2 HR1 HR2 HC1 HB1 HB2 HS1 hRa hR1 hR2 HX
  have k0 := D0.out.G.1
  have k1 := D0.out.G.2.1
  go_wp2
  have D1 : Hid (DB b a len cap zs g p r X c lo w wg.drew) := D0.out.below (below_drew wg)
  have SS1 : Hid (wg.drew.cell? ⟨g, 0, none⟩ = some (.int .i64 p) ∧ wg.drew.cell? ⟨g, 1, none⟩ = some (.slice r X.length c)) := ⟨D1.out.G.1, D1.out.G.2.1⟩
  go_region_held3 (fun w' => w'.cell? ⟨g, 0, none⟩ = some (.int .i64 p) ∧ w'.cell? ⟨g, 1, none⟩ = some (.slice r X.length c)) (first | exact SS1.out | exact SS2.out | exact SS9.out | go_keep) (first | (go_at_call 15; ((with_reducible refine (drawList3_any b a len cap zs p r X c lo g wg.drew D1.out.src hXs D1.out.row (Nat.le_of_lt D1.out.hg) (.inl D1.out.hb)).mono ?_); rintro e w92 ⟨rl, cl, m, rfl, hm17, hall, o_, on_, s_⟩; have D2 := Lib.hid (D1.out.only on_ s_); have HALL := Lib.hid hall; have ML_2 := Lib.hid (o_.mono (Nat.le_of_lt D1.out.hg) (Nat.le_refl _)); clear o_ hall; clear on_ s_; (try clear k0 k1); have k0 := D2.out.G.1; have k1 := D2.out.G.2.1; have SS2 := Lib.hid (And.intro D2.out.G.1 D2.out.G.2.1); have r0 := D2.out.R.1; have r1' := D2.out.R.2.1; have r2' := D2.out.R.2.2.1; have r3 := D2.out.R.2.2.2; have HGF := Lib.hid ((D2.out.G.far (k := w.heap.size) (i := 0) (.int .i64 p) (Nat.ne_of_gt (Nat.lt_trans D2.out.hR D2.out.bg))).far (k := w.heap.size) (i := 1) (.slice r X.length c) (Nat.ne_of_gt (Nat.lt_trans D2.out.hR D2.out.bg))); have SS9 := Lib.hid (And.intro HGF.out.1 HGF.out.2.1))))
  all_goals
    go_wp2
    refine bodyPost_ret (v := .tuple #[.agg #[.int .i64 p, .slice r X.length c], .slice rl m.length cl]) (by simp [results, Try.results5, go_sem, r0, r1']) rfl ⟨p, r, X, c, rl, m, cl, rfl, hXs, hm17, fun i hi => by have := HALL.out i hi; omega, row_fin D2.out.row (Nat.le_of_lt D2.out.hg) (Nat.lt_trans D2.out.hR D2.out.hb) _ _, mat_fin ML_2.out (Nat.le_refl _) (Nat.lt_trans D2.out.hR D2.out.bg) _ _, D2.out.fin _ _⟩

end Go.Proofs.Ytdfkpbmccmbjmaa
