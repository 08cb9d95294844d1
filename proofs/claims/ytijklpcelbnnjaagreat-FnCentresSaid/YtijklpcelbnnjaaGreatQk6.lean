/-
  Draws of spaces, and of what is none: contracts.
  Conditions: the source stands in a block of known cells.
  What the laws' draws are: a number in its range.
  Conditions: the source is one, of at most 4096 bytes.
  The dice of the laws, made of a code.
  Conditions: the code is a row of at most 4096 known bytes.
  The draw of a space and two lists: contract.
  Conditions: the code is nil or a row of known bytes, of at most 4096.
  What the program's operations on numbers return: contracts of remainderOf, plus, minus, times.
  Conditions: the prime is one, and the numbers are remainders by it.
  Bounds of whole numbers of 64 bits, and what the model's remainder is.
  Conditions: the prime is one.
  What the model draws for pairs of numbers, and the law's own remainder.
  Conditions: the code is a row of at most 4096 known bytes; the prime of a remainder is one.
-/
import Derived.Test.YtijklpcelbnnjaaGreatQk5
import Derived.Test.YtijklpcelbnnjaaGreatRows
import Derived.Test.YtijklpcelbnnjaaGreatQk1
import Derived.LoopTactic
import Derived.Lib.Hide
import Derived.BigQuiet
import Derived.Deep.QuietTactic
import Derived.Laws.Bits64
import Derived.Laws.BitsAllLaws
import Derived.Outline
namespace Go.Proofs.YtijklpcelbnnjaaGreat
open Go.RowKit
set_option linter.unusedVariables false

/-- A space that has been drawn, to be read. -/
def DrawnT (Q : List Int → Prop) (b : Nat) (a : Option Addr) (len cap : Nat) (zs : List Int) (w : World) (e : Ending) (w' : World) : Prop :=
  ∃ p r X c, e = .returned (.agg #[.int .i64 p, .slice r X.length c]) ∧ Q X ∧ RowIn w.heap.size w'.heap.size w' r X ∧ Only b w w' ∧ Src w' b a len cap zs
theorem OutR.rowIn {B : Nat} {w : World} {r : Option Addr} {n c : Nat} {zs : List Int} (h : OutR B w (.slice r n c) zs) : RowIn B w.heap.size w r zs := by
  obtain ⟨a, d, e, ht⟩ := h.tag
  injection e with e1 e2 e3
  subst e1
  exact ht.row
theorem RowIn.far {lo tp k i : Nat} {w : World} {r : Option Addr} {zs : List Int} (h : RowIn lo tp w r zs) (x : Value) (hk : k < lo ∨ tp ≤ k) : RowIn lo tp (w.setCell ⟨k, i, none⟩ x) r zs :=
  h.same (fun j j0 j1 => Below.heap_setCell _ _ _ _ (by show j ≠ k; omega))
theorem RowIn.only {lo tp k : Nat} {w w' : World} {r : Option Addr} {zs : List Int} (h : RowIn lo tp w r zs) (ho : Only k w w') (hk : k < lo ∨ tp ≤ k) (ht : tp ≤ w.heap.size) : RowIn lo tp w' r zs :=
  h.same (fun j j0 j1 => ho.block j (Nat.lt_of_lt_of_le j1 ht) (by omega))
theorem OutR.put' {B k i : Nat} {w : World} {v : Value} {zs : List Int} (h : OutR B w v zs) (x : Value) (hne : ∀ q, v.ownBlock = some q → q ≠ k) : OutR B (w.setCell ⟨k, i, none⟩ x) v zs :=
  World.ownsRow.kept h (row := some k) ⟨(Only.set k i w x).os, (Only.set k i w x).tape, (Only.set k i w x).output, (Only.set k i w x).size, fun j hj hn => (Only.set k i w x).block j hj (fun e => hn (by rw [e]))⟩ (by
    cases hv : v.ownBlock with
    | none => exact .inl rfl
    | some q => exact .inr (fun e => hne q hv (by injection e)))
theorem ownR_same {lo hi : Nat} {w w' : World} {a : Option Addr} {zs : List Int} (h : OwnR lo hi w a zs) (k : ∀ i, lo ≤ i → i < hi → w'.heap[i]? = w.heap[i]?) : OwnR lo hi w' a zs := by
  rcases h with h | ⟨b, o, ha, h0, h1, hc⟩
  · exact .inl h
  · exact .inr ⟨b, o, ha, h0, h1, fun j hj => ⟨(World.cell?_of_block (w := w) (a := ⟨b, o + j, none⟩) (k b h0 h1)).trans (hc j hj).1, (World.frozen?_of_block (w := w) (a := ⟨b, o + j, none⟩) (k b h0 h1)).trans (hc j hj).2⟩⟩
theorem ownR_below {B lo hi : Nat} {w w' : World} {a : Option Addr} {zs : List Int} (h : OwnR lo hi w a zs) (k : Below B w w') (hB : hi ≤ B) : OwnR lo hi w' a zs := ownR_same h fun i _ h1 => k.block i (Nat.lt_of_lt_of_le h1 hB)
theorem ownR_only {lo hi k : Nat} {w w' : World} {a : Option Addr} {zs : List Int} (h : OwnR lo hi w a zs) (ho : Only k w w') (hk : k < lo ∨ hi ≤ k) (ht : hi ≤ w.heap.size) : OwnR lo hi w' a zs := ownR_same h fun i i0 i1 => ho.block i (Nat.lt_of_lt_of_le i1 ht) (by omega)
theorem l2_app {w w' : World} {o : Obj} {g : Nat} {u v : Value} {x : Value} (h : L2 w g u v) (hg : (w.alloc o).grownBy w' x.ownBlock) (l : g < w.heap.size) (hx : ∀ q, x.ownBlock = some q → q ≠ g) : L2 w' g u v := by
  have h2 := h.alloc o l
  have l2 := Nat.lt_of_lt_of_le l (size_alloc w o)
  cases hv : x.ownBlock with
  | none => rw [hv] at hg; exact h2.below ⟨hg.os, hg.tape, hg.output, hg.size, fun k hk => hg.block k hk (by simp)⟩ l2
  | some q => rw [hv] at hg; exact h2.only (k := q) ⟨hg.os, hg.tape, hg.output, hg.size, fun k hk hne => hg.block k hk (by simp; exact fun e => hne e)⟩ l2 (Ne.symm (hx q hv))
theorem new_block {w : World} {x : Value} {g gg n cap : Nat} (hx : ∀ q, x.ownBlock = some q → q ≠ g) (h : x.ownBlock = some gg ∨ gg = w.heap.size + 1) (l : g < w.heap.size) : ∀ q, (Value.slice (some ⟨gg, 0, none⟩) n cap).ownBlock = some q → q ≠ g := fun q e => by
  injection e with e
  subst e
  show gg ≠ g
  rcases h with h | h
  · exact hx gg h
  · omega
theorem five_in {y : Int} (h : y ∈ [2, 3, 3, 4, 6]) : 1 ≤ y ∧ y ≤ 6 := by
  simp at h; omega

set_option maxRecDepth 100000 in
set_option maxHeartbeats 3200000 in
theorem draw_any (b : Nat) (a : Option Addr) (len cap : Nat) (zs : List Int) (w : World) (hs : Src w b a len cap zs) :
    Calls Tryz.prog 95 #[.pointer (some ⟨b, 0, none⟩)] w (DrawnS (fun X => 1 ≤ X.length ∧ X.length ≤ 6) b a len cap zs w) := by
  have hlt := hs.lt
  have HS := Lib.hid hs
  clear hs
  go_enter Tryz.func95, Tryz.ntmps95
  go_upto_region 1 with fail
  obtain ⟨wa, hwa⟩ : ∃ z, z = w.alloc (.cells #[.int .i64 0, .slice none 0 0] 26) := ⟨_, rfl⟩
  have HR1 : Hid (L2 wa w.heap.size (.int .i64 0) (.slice none 0 0)) := by show L2 _ _ _ _; rw [hwa]; exact L2.new _ _ _ _
  have HS1 : Hid (Src wa b a len cap zs) := by show Src _ _ _ _ _ _; rw [hwa]; exact HS.out.alloc _
  have HON1 : Hid (Only b w wa) := by show Only _ _ _; rw [hwa]; exact (Only.refl b w).alloc _
  have hRa : w.heap.size < wa.heap.size := by rw [hwa]; simp
  rw [← hwa]
  clear hwa
  go_wp2_with (first
    | (go_at_call 64; refine (pick_in wa.heap.size 5 [2, 3, 3, 4, 6] b a len cap zs _ (HS1.out.alloc _) (rowOf wa [2, 3, 3, 4, 6] _) rfl (by omega) (by omega) (by simp) (by omega)).mono ?_; rintro e w2 ⟨y, rfl, hy, on2, s2⟩; have hyy := five_in hy; have HS2 := Lib.hid s2; have HON2 := Lib.hid ((HON1.out.alloc _).trans on2); have hRb := Nat.lt_of_lt_of_le hRa (size_alloc wa (.cells (List.map (Value.int .i64) [2, 3, 3, 4, 6]).toArray 2)); have HR2 := Lib.hid ((HR1.out.alloc _ hRa).only on2 hRb (Nat.ne_of_gt hlt)); have hR2 := Nat.lt_of_lt_of_le hRb on2.size; clear on2 s2 hy)
    | (go_at_call 63; (with_reducible refine (any_any y b a len cap zs _ HS2.out hyy.1 hyy.2).mono ?_); rintro e w3 ⟨p, r, X, c, rfl, hX, o3, on3, s3⟩; have HX := Lib.hid hX; have HS3 := Lib.hid s3; have HON3 := Lib.hid (HON2.out.trans on3); have HR3 := Lib.hid (HR2.out.only on3 hR2 (Nat.ne_of_gt hlt)); have HO3 := Lib.hid o3; have r0 := HR3.out.1; have r1 := HR3.out.2.1; have r2 := HR3.out.2.2.1; have r3 := HR3.out.2.2.2; clear on3 s3 hX o3))
  refine bodyPost_ret (v := .agg #[.int .i64 p, .slice r X.length c]) (by simp [results, Tryz.results95, go_sem, r0, r1]) rfl ⟨p, r, X, c, rfl, HX.out, ((HO3.out.put _ hR2).put _ hR2).base (Nat.le_of_lt hR2), (HON3.out.setCell (.inr (Nat.le_refl _)) _).setCell (.inr (Nat.le_refl _)) _, (HS3.out.far (Only.set _ _ _ _) hlt).far (Only.set _ _ _ _) hlt⟩

set_option maxRecDepth 100000 in
set_option maxHeartbeats 3200000 in
theorem spoil_space (b : Nat) (a : Option Addr) (len cap : Nat) (zs : List Int) (w : World) (hs : Src w b a len cap zs) :
    Calls Tryz.prog 65 #[.pointer (some ⟨b, 0, none⟩)] w (DrawnT (fun X => X.length ≤ 7) b a len cap zs w) := by
  obtain ⟨i0, hi, hz0, hz1, hz2⟩ := info_parts info64
  have hlt := hs.lt
  have HS := Lib.hid hs
  clear hs
  go_enter Tryz.func65, Tryz.ntmps65
  go_upto_region 1 with fail
  obtain ⟨wa, hwa⟩ : ∃ z, z = w.alloc (.cells #[.int .i64 0, .slice none 0 0] 26) := ⟨_, rfl⟩
  have HR1 : Hid (L2 wa w.heap.size (.int .i64 0) (.slice none 0 0)) := by show L2 _ _ _ _; rw [hwa]; exact L2.new _ _ _ _
  have HS1 : Hid (Src wa b a len cap zs) := by show Src _ _ _ _ _ _; rw [hwa]; exact HS.out.alloc _
  have HON1 : Hid (Only b w wa) := by show Only _ _ _; rw [hwa]; exact (Only.refl b w).alloc _
  have hRa : w.heap.size < wa.heap.size := by rw [hwa]; simp
  rw [← hwa]
  clear hwa
  go_upto_region 2 with (go_at_call 95; (with_reducible refine (draw_any b a len cap zs _ HS1.out).mono ?_); rintro e w2 ⟨p, r, X, c, rfl, hX, o2, on2, s2⟩; have HX := Lib.hid hX; have HS2 := Lib.hid s2; have HON2 := Lib.hid (HON1.out.trans on2); have HR2 := Lib.hid (HR1.out.only on2 hRa (Nat.ne_of_gt hlt)); have HO2 := Lib.hid o2; have hR2 := Nat.lt_of_lt_of_le hRa on2.size; have zy2 := on2.size; clear on2 s2 hX o2)
  obtain ⟨B, hB⟩ : ∃ z, z = wa.heap.size := ⟨_, rfl⟩
  rw [← hB] at HO2 hRa zy2
  clear hB HR1 HS1 HON1
  obtain ⟨wb, hwb⟩ : ∃ z, z = w2.alloc (.cells #[.int .i64 p, .slice r X.length c] 26) := ⟨_, rfl⟩
  obtain ⟨g, hg⟩ : ∃ z, z = w2.heap.size := ⟨_, rfl⟩
  have HG3 : Hid (L2 wb g (.int .i64 p) (.slice r X.length c)) := by show L2 _ _ _ _; rw [hwb, hg]; exact L2.new _ _ _ _
  have HR3 : Hid (L2 wb w.heap.size (.int .i64 0) (.slice none 0 0)) := by show L2 _ _ _ _; rw [hwb]; exact HR2.out.alloc _ hR2
  have HS3 : Hid (Src wb b a len cap zs) := by show Src _ _ _ _ _ _; rw [hwb]; exact HS2.out.alloc _
  have HON3 : Hid (Only b w wb) := by show Only _ _ _; rw [hwb]; exact HON2.out.alloc _
  have HO3 : Hid (OutR B wb (.slice r X.length c) X) := by show OutR _ _ _ _; rw [hwb]; exact HO2.out.alloc _
  have hgb : g < wb.heap.size := by rw [hwb, hg]; simp
  have HW3 : Hid (RowIn B g wb r X) := by show RowIn _ _ _ _ _; rw [hwb, hg]; exact HO2.out.rowIn.below (below_alloc w2 _) (Nat.le_refl _)
  have HOwn3 : Hid (OwnR B g wb r X) := by
    obtain ⟨a9, d9, e9, t9⟩ := HO2.out.tag
    injection e9 with e91 e92 e93
    subst e91
    show OwnR _ _ _ _ _
    rw [hwb, hg]
    exact ownR_below t9.own (below_alloc w2 _) (Nat.le_refl _)
  have HOB : Hid (∀ q, (Value.slice r X.length c).ownBlock = some q → q ≠ g) := fun q e => Nat.ne_of_lt (by rw [hg]; exact (World.ownsRow.lt HO2.out q e).2)
  have hBg : B ≤ g := by rw [hg]; exact zy2
  rw [← hwb, ← hg]
  clear hwb hg HR2 HS2 HON2 HO2 zy2 hR2
  have hRg : w.heap.size < g := Nat.lt_of_lt_of_le hRa hBg
  have hbg : b < g := Nat.lt_trans hlt hRg
  have hbB : b < B := Nat.lt_trans hlt hRa
  go_upto_region 3 with (go_at_call 37; (with_reducible refine (next_any 40 b a len cap zs _ HS3.out).mono ?_); rintro e wc ⟨x, rfl, _, on4, s4⟩; have HS4 := Lib.hid s4; have HON4 := Lib.hid (HON3.out.trans on4); have HG4 := Lib.hid (HG3.out.only on4 hgb (Nat.ne_of_gt hbg)); have HR4 := Lib.hid (HR3.out.only on4 (Nat.lt_trans hRg hgb) (Nat.ne_of_gt hlt)); have HO4 := Lib.hid (HO3.out.only on4 hbB); have HW4 := Lib.hid (HW3.out.only on4 (.inl hbB) (Nat.le_of_lt hgb)); have HOwn := Lib.hid (ownR_only HOwn3.out on4 (.inl hbB) (Nat.le_of_lt hgb)); have hgc := Nat.lt_of_lt_of_le hgb on4.size; clear on4 s4)
  clear HS3 HON3 HG3 HR3 HO3 HW3 HOwn3 hgb
  have HX7 : Hid (X.length ≤ 7) := by show _ ≤ _; have := HX.out; omega
  have HX1 : Hid (0 < X.length) := by show _ < _; have := HX.out; omega
  have r0 := HR4.out.1
  have r1 := HR4.out.2.1
  have r2 := HR4.out.2.2.1
  have r3 := HR4.out.2.2.2
  have g0 := HG4.out.1
  have g1 := HG4.out.2.1
  have g2 := HG4.out.2.2.1
  have g3 := HG4.out.2.2.2
  have hRc : w.heap.size < wc.heap.size := Nat.lt_trans hRg hgc
  by_cases h0 : x = 0
  · subst h0
    clear r0 r1 r2 r3 g0 g1 g2 g3
    go_wp2_with (go_at_call 64; refine (pick_any wc.heap.size 4 [4, 1, 17, 0] b a len cap zs _ (HS4.out.alloc _) (rowOf wc [4, 1, 17, 0] _) rfl (by omega) (by omega) (by simp) (by omega)).mono ?_; rintro e w5 ⟨y, rfl, _, on5, s5⟩; have HS5 := Lib.hid s5; have HON5 := Lib.hid ((HON4.out.alloc _).trans on5); have hga := Nat.lt_of_lt_of_le hgc (size_alloc wc (.cells (List.map (Value.int .i64) [4, 1, 17, 0]).toArray 2)); have HG5 := Lib.hid ((HG4.out.alloc _ hgc).only on5 hga (Nat.ne_of_gt hbg)); have HR5 := Lib.hid ((HR4.out.alloc _ (Nat.lt_trans hRg hgc)).only on5 (Nat.lt_trans hRg hga) (Nat.ne_of_gt hlt)); have HO5 := Lib.hid ((HO4.out.alloc _).only on5 hbB); have HW5 := Lib.hid ((HW4.out.below (below_alloc wc _) (Nat.le_of_lt hgc)).only on5 (.inl hbB) (Nat.le_of_lt hga)); have hg5 := Nat.lt_of_lt_of_le hga on5.size; have r0 := HR5.out.1; have r1 := HR5.out.2.1; have r2 := HR5.out.2.2.1; have r3 := HR5.out.2.2.2; have g0 := HG5.out.1; have g1 := HG5.out.2.1; have g2 := HG5.out.2.2.1; have g3 := HG5.out.2.2.2; clear on5 s5)
    refine bodyPost_ret (v := .agg #[.int .i64 y, .slice r X.length c]) (by simp [results, Tryz.results65, go_sem, r0, r1]) rfl ⟨y, r, X, c, rfl, HX7.out, (((HW5.out.far _ (.inr (Nat.le_refl _))).far _ (.inl hRa)).far _ (.inl hRa)).mono (Nat.le_of_lt hRa) (by simp [World.setCell]; omega), ((HON5.out.setCell (.inr (Nat.le_of_lt hRg)) _).setCell (.inr (Nat.le_refl _)) _).setCell (.inr (Nat.le_refl _)) _, ((HS5.out.far (Only.set _ _ _ _) hbg).far (Only.set _ _ _ _) hlt).far (Only.set _ _ _ _) hlt⟩
  have e0 : (x == 0) = false := by simpa using h0
  by_cases h1 : x = 1
  · subst h1
    obtain ⟨q1, o1, hr1, hq0, hq1, hro⟩ := RowOwn.of (HOwn.out) HX1.out
    subst hr1
    have HRO := Lib.hid hro
    have hqb : q1 ≠ b := Nat.ne_of_gt (Nat.lt_of_lt_of_le hbB hq0)
    have hqg : q1 ≠ g := Nat.ne_of_lt hq1
    have hqR : w.heap.size ≠ q1 := Nat.ne_of_lt (Nat.lt_of_lt_of_le hRa hq0)
    have hqc : q1 < wc.heap.size := Nat.lt_trans hq1 hgc
    have hX0 : (0 : Int) < (X.length : Int) := by have := HX1.out; omega
    have hs1 : Hid (wc.drew.cell? ⟨g, 0, none⟩ = some (.int .i64 p) ∧ wc.drew.cell? ⟨g, 1, none⟩ = some (.slice (some ⟨q1, o1, none⟩) X.length c)) := ⟨g0, g1⟩
    have HSD : Hid (Src wc.drew b a len cap zs) := HS4.out.step (below_drew wc)
    have hcd : wc.drew.heap.size = wc.heap.size := rfl
    have HSA : Hid (Src (wc.alloc (.cells #[.int .i64 (-1), .int .i64 p] 2)).drew b a len cap zs) := (HS4.out.alloc _).step (below_drew _)
    have hga0 : g < (wc.alloc (.cells #[.int .i64 (-1), .int .i64 p] 2)).drew.heap.size := Nat.lt_of_lt_of_le hgc (size_alloc wc (.cells #[.int .i64 (-1), .int .i64 p] 2))
    have hqa0 : q1 < (wc.alloc (.cells #[.int .i64 (-1), .int .i64 p] 2)).drew.heap.size := Nat.lt_of_lt_of_le hqc (size_alloc wc (.cells #[.int .i64 (-1), .int .i64 p] 2))
    have hRa0 : w.heap.size < (wc.alloc (.cells #[.int .i64 (-1), .int .i64 p] 2)).drew.heap.size := Nat.lt_of_lt_of_le hRc (size_alloc wc (.cells #[.int .i64 (-1), .int .i64 p] 2))
    have HGA : Hid (L2 (wc.alloc (.cells #[.int .i64 (-1), .int .i64 p] 2)).drew g (.int .i64 p) (.slice (some ⟨q1, o1, none⟩) X.length c)) := (HG4.out.alloc _ hgc).below (below_drew _) hga0
    have HRA : Hid (L2 (wc.alloc (.cells #[.int .i64 (-1), .int .i64 p] 2)).drew w.heap.size (.int .i64 0) (.slice none 0 0)) := (HR4.out.alloc _ hRc).below (below_drew _) hRa0
    have HROA : Hid (RowOwn (wc.alloc (.cells #[.int .i64 (-1), .int .i64 p] 2)).drew q1 o1 X.length (fun j => X.getD j 0)) := rowOwn_stay (rowOwn_stay HRO.out (heap_other wc (.cells #[.int .i64 (-1), .int .i64 p] 2) hqc)) rfl
    have HONA : Hid (Only b w (wc.alloc (.cells #[.int .i64 (-1), .int .i64 p] 2)).drew) := (HON4.out.alloc _).drew
    have HROW : Hid (RowAt (wc.alloc (.cells #[.int .i64 (-1), .int .i64 p] 2)).drew wc.heap.size [-1, p]) := rowOf wc [-1, p] _
    have SSA := Lib.hid (And.intro HGA.out.1 HGA.out.2.1)
    have hca : wc.heap.size < (wc.alloc (.cells #[.int .i64 (-1), .int .i64 p] 2)).drew.heap.size := lt_alloc wc (.cells #[.int .i64 (-1), .int .i64 p] 2)
    have hcb : wc.heap.size ≠ b := by omega
    have hXn := HX1.out
    clear hro r0 r1 r2 r3 g0 g1 g2 g3
    go_upto_region 6 with fail
    go_region_held3 (fun w' => w'.cell? ⟨g, 0, none⟩ = some (.int .i64 p) ∧ w'.cell? ⟨g, 1, none⟩ = some (.slice (some ⟨q1, o1, none⟩) X.length c)) (first | exact SSA.out | exact hs1.out | exact SS5.out | exact SS6.out | go_keep) (first | (go_at_call 64; (refine (pick_any wc.heap.size 2 [-1, p] b a len cap zs (wc.alloc (.cells #[.int .i64 (-1), .int .i64 p] 2)).drew HSA.out HROW.out rfl (by omega) (by omega) hca hcb).mono ?_; rintro e w5 ⟨y, rfl, _, on5, s5⟩; have HS5 := Lib.hid s5; have HON5 := Lib.hid (HONA.out.trans on5); have HG5 := Lib.hid (HGA.out.only on5 hga0 (Nat.ne_of_gt hbg)); have HR5 := Lib.hid (HRA.out.only on5 hRa0 (Nat.ne_of_gt hlt)); have HRO5 := Lib.hid (rowOwn_stay HROA.out (on5.block q1 hqa0 hqb)); have cy := HRO5.out.cell 0 HX1.out; have fy := HRO5.out.free 0 HX1.out; rw [Nat.add_zero] at cy fy; have HG6 := Lib.hid (HG5.out.far (k := q1) (i := o1) (.int .i64 y) (Ne.symm hqg)); have SS5 := Lib.hid (And.intro HG5.out.1 HG5.out.2.1); have SS6 := Lib.hid (And.intro HG6.out.1 HG6.out.2.1); have HR6 := Lib.hid (HR5.out.far (k := q1) (i := o1) (.int .i64 y) hqR); have g0 := HG6.out.1; have g1 := HG6.out.2.1; have r0 := HR6.out.1; have r1 := HR6.out.2.1; have r2 := HR6.out.2.2.1; have r3 := HR6.out.2.2.2; have zq := Nat.lt_of_lt_of_le hqa0 on5.size; clear on5 s5)))
    all_goals
      go_wp2
      refine bodyPost_ret (v := .agg #[.int .i64 p, .slice (some ⟨q1, o1, none⟩) X.length c]) (by simp [results, Tryz.results65, go_sem, r0, r1]) rfl ⟨p, some ⟨q1, o1, none⟩, mkR X.length (fun i => if i = 0 then y else X.getD i 0), c, by rw [mkR_len], by show (mkR X.length _).length ≤ 7; rw [mkR_len]; exact HX7.out, (((rowOwn_in (lo := B) (tp := w5.heap.size) (rowOwn_put0 HRO5.out HX1.out y) hq0 zq).far _ (.inl hRa)).far _ (.inl hRa)).mono (Nat.le_of_lt hRa) (by simp [World.setCell]), ((HON5.out.setCell (.inr (Nat.le_trans (Nat.le_of_lt hRa) hq0)) _).setCell (.inr (Nat.le_refl _)) _).setCell (.inr (Nat.le_refl _)) _, ((HS5.out.far (Only.set _ _ _ _) (Nat.lt_of_lt_of_le hbB hq0)).far (Only.set _ _ _ _) hlt).far (Only.set _ _ _ _) hlt⟩
  have e1 : (x == 1) = false := by simpa using h1
  by_cases h2 : x = 2
  · subst h2
    have hn1 : ¬ g = wc.heap.size := by omega
    have hn2 : ¬ w.heap.size = wc.heap.size := by omega
    go_wp2
    have HRF := (((HR4.out.far (k := g) (i := 1) (.slice (some ⟨wc.heap.size, 0, none⟩) 0 0) (Nat.ne_of_lt hRg)).put0 (.int .i64 p)).put1 (.slice (some ⟨wc.heap.size, 0, none⟩) 0 0)).alloc (.cells #[] 2) (by simp [World.setCell]; exact hRc)
    have q0 := HRF.1
    have q1 := HRF.2.1
    clear HRF
    refine bodyPost_ret (v := .agg #[.int .i64 p, .slice (some ⟨wc.heap.size, 0, none⟩) 0 0]) (by simp [results, Tryz.results65, go_sem, q0, q1]) rfl ⟨p, some ⟨wc.heap.size, 0, none⟩, [], 0, rfl, Nat.zero_le _, .inl rfl, (((HON4.out.setCell (.inr (Nat.le_of_lt hRg)) _).setCell (.inr (Nat.le_refl _)) _).setCell (.inr (Nat.le_refl _)) _).alloc _, (((HS4.out.far (Only.set _ _ _ _) hbg).far (Only.set _ _ _ _) hlt).far (Only.set _ _ _ _) hlt).alloc _⟩
  have e2 : (x == 2) = false := by simpa using h2
  by_cases h3 : x = 3
  · subst h3
    clear r0 r1 r2 r3 g0 g1 g2 g3
    go_upto_region 10 with fail
    go_loopw [] (fun wr => ∃ (r : Option Addr) (c : Nat) (X : List Int), X.length ≤ 7 ∧ L2 wr g (.int .i64 p) (.slice r X.length c) ∧ OutR B wr (.slice r X.length c) X ∧ (∀ q, (Value.slice r X.length c).ownBlock = some q → q ≠ g) ∧ L2 wr w.heap.size (.int .i64 0) (.slice none 0 0) ∧ Src wr b a len cap zs ∧ Only b w wr ∧ wc.heap.size ≤ wr.heap.size) (fun wr => match wr.cell? ⟨g, 1, none⟩ with | some (.slice _ n _) => 7 - n | _ => 0)
    case atStart => exact ⟨r, c, X, HX7.out, HG4.out, HO4.out, HOB.out, HR4.out, HS4.out, HON4.out, Nat.le_refl _⟩
    case round =>
      obtain ⟨r, c, X, hX, hg2, ho, hob, hr2, hsr, hon, hsz⟩ := hrel
      rename World => wr
      have HGR := Lib.hid hg2
      have HO := Lib.hid ho
      have HB5 := Lib.hid hob
      have HRR := Lib.hid hr2
      have HSR := Lib.hid hsr
      have HON := Lib.hid hon
      have gc1 := hg2.2.1
      have hgr : g < wr.heap.size := by omega
      have H6 : Hid (wr.ownsRow B 2 1 (.slice r X.length c) X.length (X.map (Value.int .i64))) := HO
      clear hg2 ho hob hr2 hsr hon
      by_cases h7 : X.length < 7
      · have h71 : (X.length : Int) < 7 := by omega
        go_wp2_with ((at_builtin; refine wpList_append_lies _ rfl _ _ 24 rfl B 2 i0 (.int .i64 0) 1 8 Tryz.underlying24 hi hz0 hz1 hz2 rfl (by decide) (.slice r X.length c) X.length (X.map (Value.int .i64)) rfl (H6.out.alloc _) ⟨wr.heap.size, 0, none⟩ 1 1 [.int .i64 1] rfl rfl (World.news_of_block (cs := #[.int .i64 1]) (t := 2) (fr := (0, 0)) (heap_alloc_new wr _)) (by simp [Value.oneCell']) (by omega) (by unfold maxLen; omega) (by omega) (by simp; omega) (wr.heap.size + 1) (by simp) ?_; intro gg cap w1 hown1 hgrow hat hlt1); have HG7 := Lib.hid (l2_app HGR.out hgrow hgr HB5.out); have d1 := HG7.out.2.1; have d2 := HG7.out.2.2.2)
        go_roundw
        case rel => exact ⟨some ⟨gg, 0, none⟩, cap, X ++ [1], by rw [List.length_append]; exact h7, by have e : (X ++ [(1 : Int)]).length = X.length + 1 := (by simp); rw [e]; exact HG7.out.put1 _, by have e : (X ++ [(1 : Int)]).length = X.length + 1 := (by simp); rw [e]; exact (OutR.push hown1).put' _ (new_block HB5.out hat hgr), by have e : (X ++ [(1 : Int)]).length = X.length + 1 := (by simp); rw [e]; exact new_block HB5.out hat hgr, ((HRR.out.alloc _ (Nat.lt_trans hRg hgr)).grown hgrow (Nat.lt_of_lt_of_le (Nat.lt_trans hRg hgr) (size_alloc wr _)) (fun k e => Nat.lt_of_lt_of_le hRa (H6.out.lt _ e).1)).far _ (Nat.ne_of_lt hRg), ((HSR.out.alloc _).grown hgrow (fun k e => Nat.lt_of_lt_of_le hbB (H6.out.lt _ e).1)).far (Only.set _ _ _ _) hbg, (((HON.out.alloc _).grown hgrow (fun k e => Nat.le_trans (Nat.le_of_lt hRa) (H6.out.lt _ e).1))).setCell (.inr (Nat.le_of_lt hRg)) _, by have h1 := hgrow.size; have h2 := size_alloc wr (.cells #[.int .i64 1] 2); simp [World.setCell]; omega⟩
        case measure => simp [gc1, go_sem, d1]; omega
      · have h71 : ¬ (X.length : Int) < 7 := by omega
        have r0 := HRR.out.1
        have r1 := HRR.out.2.1
        have r2 := HRR.out.2.2.1
        have r3 := HRR.out.2.2.2
        have g0 := HGR.out.1
        go_wp2
        refine bodyPost_ret (v := .agg #[.int .i64 p, .slice r X.length c]) (by simp [results, Tryz.results65, go_sem, r0, r1]) rfl ⟨p, r, X, c, rfl, hX, (((HO.out.put _ hRa).put _ hRa).rowIn).mono (Nat.le_of_lt hRa) (Nat.le_refl _), (HON.out.setCell (.inr (Nat.le_refl _)) _).setCell (.inr (Nat.le_refl _)) _, (HSR.out.far (Only.set _ _ _ _) hlt).far (Only.set _ _ _ _) hlt⟩
  have e3 : (x == 3) = false := by simpa using h3
  go_wp2
  refine bodyPost_ret (v := .agg #[.int .i64 p, .slice r X.length c]) (by simp [results, Tryz.results65, go_sem, r0, r1]) rfl ⟨p, r, X, c, rfl, HX7.out, ((HW4.out.far _ (.inl hRa)).far _ (.inl hRa)).mono (Nat.le_of_lt hRa) (by simp [World.setCell]; omega), (HON4.out.setCell (.inr (Nat.le_refl _)) _).setCell (.inr (Nat.le_refl _)) _, (HS4.out.far (Only.set _ _ _ _) hlt).far (Only.set _ _ _ _) hlt⟩

end Go.Proofs.YtijklpcelbnnjaaGreat

namespace Go.Proofs.YtijklpcelbnnjaaGreat
open Go.RowKit
set_option linter.unusedVariables false

theorem dice_bd (z : Int) : 0 ≤ wrap64 (bits .and .u64 (IntKind.u64.wrap z / 8589934592) 16777215) ∧ wrap64 (bits .and .u64 (IntKind.u64.wrap z / 8589934592) 16777215) ≤ 16777215 := by
  rw [IntKind.wrap_u64]
  have h1 := Int.emod_nonneg z (by decide : (18446744073709551616 : Int) ≠ 0)
  have h2 := Int.emod_lt_of_pos z (by decide : (0 : Int) < 18446744073709551616)
  rw [u64_and _ _ (by omega) (by omega) (by omega) (by omega)]
  have h3 := Nat.and_le_right (n := (z % 18446744073709551616 / 8589934592).toNat) (m := (16777215 : Int).toNat)
  unfold wrap64
  omega

set_option maxHeartbeats 800000 in
theorem below_any (n : Int) (b : Nat) (a : Option Addr) (len cap : Nat) (zs : List Int) (w : World) (hs : Src w b a len cap zs) :
    Calls Tryz.prog 28 #[.pointer (some ⟨b, 0, none⟩), .int .i64 n] w (Drawn (fun x => 1 ≤ n → 0 ≤ x ∧ x < n) b a len cap zs w) := by
  by_cases n1 : 1 ≤ n
  · obtain ⟨k, h, s⟩ := hs
    have S := Lib.hid s
    obtain ⟨lt, c0, c1, c2, f1, f2, le, sm, by_⟩ := s
    obtain ⟨H, hH⟩ : ∃ H, IntKind.u64.wrap (IntKind.u64.wrap (h * 6364136223846793005) + 1442695040888963407) = H := ⟨_, rfl⟩
    obtain ⟨x, hX⟩ : ∃ x, wrap64 (bits .and .u64 (H / 8589934592) 16777215) = x := ⟨_, rfl⟩
    obtain ⟨x0, x1⟩ : 0 ≤ x ∧ x ≤ 16777215 := by rw [← hX, ← hH]; exact dice_bd _
    by_cases hk : k < len
    · rcases by_ with h0 | ⟨xb, xo, rfl, hb, hsz, hc⟩
      · omega
      · obtain ⟨⟨z0, z1⟩, hcell⟩ := hc k hk
        obtain ⟨z, hz⟩ : ∃ z, z = zs.getD k 0 := ⟨_, rfl⟩
        rw [← hz] at hcell z0 z1
        have hne : ¬ b = xb := by omega
        have hm0 := Int.emod_nonneg (x + z) (by omega : n ≠ 0)
        have hm1 := Int.emod_lt_of_pos (x + z) (by omega : 0 < n)
        clear hc hz
        go_enter Tryz.func28, Tryz.ntmps28
        go_wp2
        go_quiet (fail)
        go_wp2
        go_quiet (fail)
        go_wp2
        go_ret
        exact ⟨(x + z) % n, rfl, fun _ => ⟨hm0, hm1⟩, ((Only.set b 2 w _).drewN _).setCell (.inl rfl) _, k + 1, H, ((S.out.setH H).drewN _).setAt _ (k + 1) (by simp) (by omega)⟩
    · have hm0 := Int.emod_nonneg x (by omega : n ≠ 0)
      have hm1 := Int.emod_lt_of_pos x (by omega : 0 < n)
      clear by_
      go_enter Tryz.func28, Tryz.ntmps28
      go_wp2
      go_quiet (fail)
      go_wp2
      go_ret
      exact ⟨x % n, rfl, fun _ => ⟨hm0, hm1⟩, (Only.set b 2 w _).drewN _, k, H, (S.out.setH H).drewN _⟩
  · go_enter Tryz.func28, Tryz.ntmps28
    go_wp2
    go_ret
    exact ⟨0, rfl, fun h => by omega, Only.refl _ _, hs⟩

end Go.Proofs.YtijklpcelbnnjaaGreat

namespace Go.Proofs.YtijklpcelbnnjaaGreat
open Go.RowKit
set_option linter.unusedVariables false

theorem Code8.below {w w' : World} {a : Option Addr} {len : Nat} {zs : List Int} (h : Code8 w a len zs) (k : Below w.heap.size w w') : Code8 w' a len zs := by
  rcases h with h | ⟨xb, xo, ha, hb, hs, hc⟩
  · exact .inl h
  · have := k.size
    exact .inr ⟨xb, xo, ha, by omega, by omega, fun i hi => ⟨(hc i hi).1, (k.cell (p := ⟨xb, xo + i, none⟩) hs).trans (hc i hi).2⟩⟩

end Go.Proofs.YtijklpcelbnnjaaGreat

namespace Go.Proofs.YtijklpcelbnnjaaGreat
open Go.RowKit
set_option linter.unusedVariables false

theorem tmod_neg {n p : Int} (hn : n < 0) (hp : 0 < p) : n.tmod p = -((-n) % p) := by
  have h : n = -(-n) := by omega
  rw [h, Int.neg_tmod, Int.tmod_eq_emod_of_nonneg (by omega)]
  simp
theorem tmod_facts {n p : Int} (hn : n < 0) (hp : 0 < p) : -p < n.tmod p ∧ n.tmod p ≤ 0 ∧ (n.tmod p < 0 → n.tmod p + p = n % p) ∧ (n.tmod p = 0 → n % p = 0) := by
  rw [tmod_neg hn hp]
  have h1 := Int.emod_nonneg (-n) (by omega : p ≠ 0)
  have h2 := Int.emod_lt_of_pos (-n) hp
  have h3 := Int.emod_nonneg n (by omega : p ≠ 0)
  have h4 := Int.emod_lt_of_pos n hp
  have h5 := Int.mul_ediv_add_emod (-n) p
  have h6 := Int.mul_ediv_add_emod n p
  have key : ∀ q : Int, (0 < (-n) % p + n % p - 0 → True) := fun _ _ => trivial
  have h7 : ((-n) % p + n % p) % p = 0 := by rw [← Int.add_emod, Int.add_left_neg]; simp
  refine ⟨by omega, by omega, fun h => ?_, fun h => ?_⟩
  · have h8 : (-n) % p + n % p = p := by
      by_cases hlt : (-n) % p + n % p < p
      · rw [Int.emod_eq_of_lt (by omega) hlt] at h7; omega
      · have h9 : ((-n) % p + n % p - p) % p = 0 := by rw [Int.sub_emod, h7]; simp
        rw [Int.emod_eq_of_lt (by omega) (by omega)] at h9; omega
    omega
  · have h8 : (-n) % p = 0 := by omega
    rw [h8, Int.zero_add, Int.emod_eq_of_lt h3 h4] at h7
    exact h7

set_option maxHeartbeats 400000 in
theorem remainderOf_any (p n : Int) (w : World) (hp : prm p = true) (n0 : -9223372036854775808 ≤ n) (n1 : n ≤ 9223372036854775807) :
    Calls Tryz.prog 125 #[.int .i64 p, .int .i64 n] w fun e w' => e = .returned (.agg #[.int .i64 p, .int .i64 (n % p)]) ∧ Below w.heap.size w w' := by
  have hb := prm_bd hp
  have hm := mod_bd hp n
  clear hp
  by_cases hn : 0 ≤ n
  · go_enter Tryz.func125, Tryz.ntmps125
    go_wp2
    exact bodyPost_ret (v := .agg #[.int .i64 p, .int .i64 (n % p)]) (by simp [results, Tryz.results125, go_sem]) rfl ⟨rfl, (Below.refl _ _).alloc (Nat.le_refl _) _⟩
  · obtain ⟨t1, t2, t3, t4⟩ := tmod_facts (n := n) (p := p) (by omega) (by omega)
    by_cases ht : n.tmod p < 0
    · have H := Lib.hid (t3 ht)
      clear t3 t4
      go_enter Tryz.func125, Tryz.ntmps125
      go_wp2
      rw [H.out]
      exact bodyPost_ret (v := .agg #[.int .i64 p, .int .i64 (n % p)]) (by simp [results, Tryz.results125, go_sem]) rfl ⟨rfl, (Below.refl _ _).alloc (Nat.le_refl _) _⟩
    · have H0 : Hid (n.tmod p = n % p) := by show n.tmod p = n % p; have : n.tmod p = 0 := by omega
                                             rw [t4 this, this]
      clear t3 t4
      go_enter Tryz.func125, Tryz.ntmps125
      go_wp2
      rw [H0.out]
      exact bodyPost_ret (v := .agg #[.int .i64 p, .int .i64 (n % p)]) (by simp [results, Tryz.results125, go_sem]) rfl ⟨rfl, (Below.refl _ _).alloc (Nat.le_refl _) _⟩

set_option maxHeartbeats 400000 in
theorem times_any (p a b : Int) (w : World) (hp : prm p = true) (a0 : 0 ≤ a) (a1 : a < p) (b0 : 0 ≤ b) (b1 : b < p) :
    Calls Tryz.prog 113 #[.agg #[.int .i64 p, .int .i64 a], .agg #[.int .i64 p, .int .i64 b]] w fun e w' => e = .returned (.agg #[.int .i64 p, .int .i64 (a * b % p)]) ∧ Below w.heap.size w w' := by
  have hb := prm_bd hp
  obtain ⟨m0, m1⟩ := mul_bd hp a0 a1 b0 b1
  have HP := Lib.hid hp
  clear hp
  go_enter Tryz.func113, Tryz.ntmps113
  go_wp2_with (go_at_call 125; refine (remainderOf_any _ _ _ HP.out (by omega) (by omega)).mono ?_; rintro e w1 ⟨rfl, hb1⟩; obtain ⟨hc, hf⟩ := bcell hb1)
  refine bodyPost_ret (v := .agg #[.int .i64 p, .int .i64 (a * b % p)]) (by simp [results, Tryz.results113, go_sem, hc]) rfl ⟨rfl, ?_⟩
  (have hs_hb1 := hb1.size; (repeat' (first | with_reducible exact Below.refl _ _ | (with_reducible refine Below.setCell ?_ ?_ _) | (with_reducible refine Below.alloc ?_ ?_ _) | (with_reducible refine Below.drew ?_) | (with_reducible refine below_step ?_ ?_ hb1))); all_goals (first | (simp; done) | omega | (simp; omega) | (simp at hs_hb1 ⊢; omega)))

end Go.Proofs.YtijklpcelbnnjaaGreat

namespace Go.Proofs.YtijklpcelbnnjaaGreat
open Go.RowKit
set_option linter.unusedVariables false

theorem big_yes (a : Option Addr) (len cap : Nat) (w : World) (h : 4096 < len) (hm : len ≤ 9223372036854775807) :
    Calls Tryz.prog 4 #[.slice a len cap] w fun e w' => e = .returned (.bool true) ∧ w = w' := by
  have hd : decide ((4096 : Int) < (len : Int)) = true := by simp; omega
  go_enter Tryz.func4, Tryz.ntmps4
  go_wp2
  go_ret
  exact ⟨rfl, rfl⟩
theorem big_no (a : Option Addr) (len cap : Nat) (w : World) (h : len ≤ 4096) :
    Calls Tryz.prog 4 #[.slice a len cap] w fun e w' => e = .returned (.bool false) ∧ w = w' := by
  have hd : decide ((4096 : Int) < (len : Int)) = false := by simp; omega
  go_enter Tryz.func4, Tryz.ntmps4
  go_wp2
  go_ret
  exact ⟨rfl, rfl⟩

end Go.Proofs.YtijklpcelbnnjaaGreat
