/-
  The draw of a list of vectors with norms other than 0: contract.
  Conditions: the source stands in a block of known cells; the space is one.
  The draw of two vectors with the same norm: contract.
  Conditions: the code is nil or a row of known bytes, of at most 4096.
-/
import Derived.Test.YtgfanoejohpmkaaGreatQs45
import Derived.Test.YtgfanoejohpmkaaGreatQs37
import Derived.Test.YtgfanoejohpmkaaGreatQs6
import Derived.Test.YtgfanoejohpmkaaGreatQs41
import Derived.Test.YtgfanoejohpmkaaGreatQs43
import Derived.Test.YtgfanoejohpmkaaGreatQs8
import Derived.Test.YtgfanoejohpmkaaGreatQs7
import Derived.Test.YtgfanoejohpmkaaGreatQs24
import Derived.Deep.RegionHeld3
import Derived.Deep.DeepCutAuto
namespace Go.Proofs.YtgfanoejohpmkaaGreat
open Go.RowKit
set_option linter.unusedVariables false

theorem ownsRow_only {B b n : Nat} {E : TypeId} {w w' : World} {v : Value} {vals : List Value} (h : w.ownsRow B E 1 v n vals) (ho : Only b w w') (hb : b < B) : w'.ownsRow B E 1 v n vals :=
  World.ownsRow.kept h (row := some b) ⟨ho.os, ho.tape, ho.output, ho.size, fun j hj hn => ho.block j hj (fun e => hn (by rw [e]))⟩ (by
    cases hv : v.ownBlock with
    | none => exact .inl rfl
    | some q => exact .inr (fun e => by injection e with e; have := (h.lt q hv).1; omega))
theorem TagR.only {lo tp tp' b : Nat} {w w' : World} {r : Option Addr} {z : List Int} (h : TagR lo tp w r z) (ho : Only b w w') (hb : b < lo) (ht : tp ≤ w.heap.size) (h2 : tp ≤ tp') : TagR lo tp' w' r z :=
  h.block (Nat.le_refl _) h2 fun k _ h0 h1 _ => ho.block k (by omega) (by omega)
theorem OutM.only {B b : Nat} {w w' : World} {v : Value} {m : List (List Int)} (h : OutM B w v m) (ho : Only b w w') (hb : b < B) : OutM B w' v m := by
  obtain ⟨vals, h1, h2⟩ := h
  refine ⟨vals, ownsRow_only h1 ho hb, fun i hi => ?_⟩
  obtain ⟨r, c, e, t⟩ := h2 i hi
  exact ⟨r, c, e, t.only ho hb (Nat.le_refl _) ho.size⟩
/-- What the walk carries. -/
structure DU (b : Nat) (a : Option Addr) (len cap : Nat) (zs : List Int) (g : Nat) (pS : Int) (aS : Option Addr) (S : List Int) (cS loS tpS : Nat) (w : World) (B : Nat) (m : List (List Int)) (u : Value) (W : World) : Prop where
  src : Src W b a len cap zs
  c0 : W.cell? ⟨g, 0, none⟩ = some (.int .i64 pS)
  c1 : W.cell? ⟨g, 1, none⟩ = some (.slice aS S.length cS)
  row : RowIn loS tpS W aS S
  out : OutM B W u m
  on : Only b w W
  size : B ≤ W.heap.size
  hb : b < w.heap.size
  hg : w.heap.size ≤ g
  hgB : g < B
  ht : tpS ≤ w.heap.size
  hS : b < loS ∨ tpS ≤ b
theorem DU.only {b : Nat} {a : Option Addr} {len cap : Nat} {zs : List Int} {g : Nat} {pS : Int} {aS : Option Addr} {S : List Int} {cS loS tpS : Nat} {w : World} {B : Nat} {m : List (List Int)} {u : Value} {W W' : World} (h : DU b a len cap zs g pS aS S cS loS tpS w B m u W) (ho : Only b W W') (hs : Src W' b a len cap zs) : DU b a len cap zs g pS aS S cS loS tpS w B m u W' :=
  { h with src := hs, c0 := (ho.cell (p := ⟨g, 0, none⟩) (by have := h.hgB; have := h.size; show g < _; omega) (by have := h.hb; have := h.hg; show g ≠ b; omega)).trans h.c0, c1 := (ho.cell (p := ⟨g, 1, none⟩) (by have := h.hgB; have := h.size; show g < _; omega) (by have := h.hb; have := h.hg; show g ≠ b; omega)).trans h.c1,
           row := h.row.only ho h.hS (by have := h.ht; have := h.on.size; omega), out := h.out.only ho (by have := h.hb; have := h.hg; have := h.hgB; omega), on := h.on.trans ho, size := Nat.le_trans h.size ho.size }
theorem DU.below {b : Nat} {a : Option Addr} {len cap : Nat} {zs : List Int} {g : Nat} {pS : Int} {aS : Option Addr} {S : List Int} {cS loS tpS : Nat} {w : World} {B : Nat} {m : List (List Int)} {u : Value} {W W' : World} (h : DU b a len cap zs g pS aS S cS loS tpS w B m u W) (hb : Below W.heap.size W W') : DU b a len cap zs g pS aS S cS loS tpS w B m u W' :=
  h.only (Only.of_below hb) (h.src.step hb)
theorem DU.push {b : Nat} {a : Option Addr} {len cap : Nat} {zs : List Int} {g : Nat} {pS : Int} {aS : Option Addr} {S : List Int} {cS loS tpS : Nat} {w : World} {B : Nat} {m : List (List Int)} {u : Value} {W W1 : World} {o : Obj} {vals : List Value} {r : Option Addr} {X : List Int} {c : Nat} {v' : Value} (h : DU b a len cap zs g pS aS S cS loS tpS w B m u W)
    (ho : W.ownsRow B 24 1 u m.length vals) (hr : ∀ i, i < m.length → ∃ r c, vals[i]? = some (.slice r (rw' m i).length c) ∧ TagR B W.heap.size W r (rw' m i)) (hz : TagR B W.heap.size W r X)
    (h1 : W1.ownsRow B 24 1 v' (m.length + 1) (vals ++ [.slice r X.length c])) (hg : (W.alloc o).grownBy W1 u.ownBlock) : DU b a len cap zs g pS aS S cS loS tpS w B (m ++ [X]) v' W1 := by
  have ha := below_alloc W o
  have hsz := size_alloc W o
  have hBW := Nat.le_trans h.size hsz
  have hbB : b < B := by have := h.hb; have := h.hg; have := h.hgB; omega
  obtain ⟨k, hk, hon⟩ := only_of hg (B := B) (fun k e => (ho.lt k e).1) hBW
  have hgk : g ≠ k := by have := h.hgB; omega
  have hgW : g < (W.alloc o).heap.size := by have := h.hgB; omega
  exact { h with
    src := (h.src.alloc o).grown hg (fun k e => by have := (ho.lt k e).1; omega)
    c0 := (hon.cell (p := ⟨g, 0, none⟩) hgW hgk).trans ((ha.cell (p := ⟨g, 0, none⟩) (by have := h.hgB; have := h.size; show g < _; omega)).trans h.c0)
    c1 := (hon.cell (p := ⟨g, 1, none⟩) hgW hgk).trans ((ha.cell (p := ⟨g, 1, none⟩) (by have := h.hgB; have := h.size; show g < _; omega)).trans h.c1)
    row := (h.row.below ha (by have := h.ht; have := h.on.size; omega)).only hon (.inr (by have := h.ht; have := h.hg; have := h.hgB; omega)) (by have := h.ht; have := h.on.size; omega)
    out := OutM.push (w := W.alloc o) (vals := vals) (ho.alloc o) (fun i hi => by
      obtain ⟨r', c', e1, e2⟩ := hr i hi
      exact ⟨r', c', e1, e2.below ha (Nat.le_refl _) (Nat.le_refl _) hsz⟩) (hz.below ha (Nat.le_refl _) (Nat.le_refl _) hsz) h1 hg
    on := (h.on.alloc o).grown hg (fun k e => by have := (ho.lt k e).1; have := h.hg; have := h.hgB; omega)
    size := Nat.le_trans hBW hg.size }
/-- A drawn list of vectors. -/
def DrawnL (pS : Int) (S : List Int) (b : Nat) (a : Option Addr) (len cap : Nat) (zs : List Int) (w : World) (e : Ending) (w' : World) : Prop :=
  ∃ r c m, e = .returned (.slice r m.length c) ∧ m.length ≤ 16 ∧ (∀ i, i < m.length → isVec pS S.length (rw' m i) = true ∧ pairN pS S (rw' m i) (rw' m i) ≠ 0) ∧ MatIn w.heap.size w'.heap.size w' r m ∧ Only b w w' ∧ Src w' b a len cap zs

theorem list_vec {p : Int} {n : Nat} {X : List Int} (h : X.length = n ∧ ∀ j, j < X.length → 0 ≤ X.getD j 0 ∧ X.getD j 0 < p) : isVec p n X = true := by
  refine isVec_iff.2 ⟨h.1, ?_⟩
  rw [List.all_eq_true]
  intro y hy
  obtain ⟨j, hj, rfl⟩ := List.getElem_of_mem hy
  rw [← getD_at hj]
  exact inr_iff.2 (h.2 j hj)
theorem all_push {p : Int} {S X : List Int} {m : List (List Int)} (h : ∀ i, i < m.length → isVec p S.length (rw' m i) = true ∧ pairN p S (rw' m i) (rw' m i) ≠ 0) (h1 : isVec p S.length X = true) (h2 : pairN p S X X ≠ 0) : ∀ i, i < (m ++ [X]).length → isVec p S.length (rw' (m ++ [X]) i) = true ∧ pairN p S (rw' (m ++ [X]) i) (rw' (m ++ [X]) i) ≠ 0 := fun i hi => by
  rw [List.length_append] at hi
  have hi' : i < m.length + 1 := hi
  by_cases e : i < m.length
  · rw [rw_append e]; exact h i e
  · rw [show i = m.length by omega, rw_append_last]; exact ⟨h1, h2⟩

set_option maxRecDepth 100000 in
set_option maxHeartbeats 6400000 in
theorem units_any (b : Nat) (a : Option Addr) (len cap : Nat) (zs : List Int) (pS : Int) (aS : Option Addr) (S : List Int) (cS loS tpS : Nat) (most : Nat) (w : World) (hs : Src w b a len cap zs) (hi : isSp pS S = true) (hS : RowIn loS tpS w aS S) (tS : tpS ≤ w.heap.size) (hbS : b < loS ∨ tpS ≤ b) (hm : most ≤ 10) :
    Calls Tryz.prog 86 #[.pointer (some ⟨b, 0, none⟩), .agg #[.int .i64 pS, .slice aS S.length cS], .int .i64 (most : Int)] w (DrawnL pS S b a len cap zs w) := by
  obtain ⟨j0, kj, kz0, kz1, kz2⟩ := info_parts info_slice
  have hlt := hs.lt
  have HI := Lib.hid hi
  have hpb := prm_bd (isSp_iff.1 hi).prime
  have h6 := (isSp_iff.1 hi).hi
  have hp1 : 1 ≤ pS := by omega
  have hn6 : S.length ≤ 1048576 := by omega
  have e1 : IntKind.i64.wrap ((most : Int) + 1) = (most : Int) + 1 := IntWalk.i64_in _ (by omega)
  have e2 : wrap64 ((most : Int) + 1) = (most : Int) + 1 := by unfold wrap64; omega
  have HS := Lib.hid hS
  have HSR := Lib.hid hs
  clear hi hS hs
  go_enter Tryz.func86, Tryz.ntmps86
  go_upto_region 1 with fail
  obtain ⟨w1, hw1⟩ : ∃ z, z = w.alloc (.cells #[.int .i64 pS, .slice aS S.length cS] 26) := ⟨_, rfl⟩
  have k0 : w1.cell? ⟨w.heap.size, 0, none⟩ = some (.int .i64 pS) := by rw [hw1]; exact nw0 w _ _ _
  have k1 : w1.cell? ⟨w.heap.size, 1, none⟩ = some (.slice aS S.length cS) := by rw [hw1]; exact nw1 w _ _ _
  have HB1 : Hid (Below w.heap.size w w1) := by show Below _ _ _; rw [hw1]; exact below_alloc w _
  have hd1 : w.heap.size < w1.heap.size := by rw [hw1]; simp
  rw [← hw1]
  clear hw1
  go_upto_region 2 with fail
  obtain ⟨w2, hw2⟩ : ∃ z, z = w1.alloc (.cells #[] 24) := ⟨_, rfl⟩
  obtain ⟨B, hB⟩ : ∃ z, z = w1.heap.size := ⟨_, rfl⟩
  have D2 : Hid (DU b a len cap zs w.heap.size pS aS S cS loS tpS w B [] (.slice (some ⟨B, 0, none⟩) 0 0) w2) := by
    show DU _ _ _ _ _ _ _ _ _ _ _ _ _ _ _ _ _
    have hb2 : Below w1.heap.size w1 w2 := by rw [hw2]; exact below_alloc w1 _
    have hb3 : Below w.heap.size w w2 := below_step HB1.out HB1.out.size hb2
    exact { src := HSR.out.step hb3, c0 := (hb2.cell (p := ⟨w.heap.size, 0, none⟩) hd1).trans k0, c1 := (hb2.cell (p := ⟨w.heap.size, 1, none⟩) hd1).trans k1, row := HS.out.below hb3 tS,
            out := by rw [hw2, hB]; exact OutM.start w1 _ _ (Nat.le_refl _) rfl, on := Only.of_below hb3, size := by rw [hB]; exact hb2.size, hb := hlt, hg := Nat.le_refl _, hgB := by rw [hB]; exact hd1, ht := tS, hS := hbS }
  rw [← hw2, ← hB]
  clear hw2 hB k0 k1 HB1 hd1
  go_upto_region 3 with (go_at_call 84; ((with_reducible refine (next_any ((most : Int) + 1) b a len cap zs w2 D2.out.src).mono ?_); rintro e w3 ⟨x, rfl, hx, on3, s3⟩; obtain ⟨x0, x1⟩ := hx (by omega); obtain ⟨xn, rfl⟩ := Int.eq_ofNat_of_zero_le x0; have D3 := Lib.hid (D2.out.only on3 s3); clear on3 s3 hx))
  have hxn : xn ≤ 10 := by omega
  clear D2
  go_loopw [7, 8] (fun u t wr => ∃ (j : Nat) (m : List (List Int)), t = .int .i64 j ∧ m.length + j ≤ xn ∧ (∀ i, i < m.length → isVec pS S.length (rw' m i) = true ∧ pairN pS S (rw' m i) (rw' m i) ≠ 0) ∧ DU b a len cap zs w.heap.size pS aS S cS loS tpS w B m u wr) (fun _ t _ => (intOf t).toNat)
  case atStart => exact ⟨xn, [], rfl, by simp, fun i hi => absurd hi (Nat.not_lt_zero i), D3.out⟩
  case round =>
    obtain ⟨j, m, rfl, hj, hall, hd⟩ := hrel
    have HD := Lib.hid hd
    have HALL := Lib.hid hall
    clear hd hall D3
    have k0 := HD.out.c0
    have k1 := HD.out.c1
    by_cases hj0 : 0 < j
    · have hj1 : (0 : Int) < (j : Int) := by omega
      go_upto_region 7 with (go_at_call 180; ((with_reducible refine (listN_any pS S.length b a len cap zs wr HD.out.src hn6 hp1).mono ?_); rintro e w4 ⟨v, X, rfl, hX, o4, on4, s4⟩; obtain ⟨r, c, rfl, t4⟩ := o4.tag; have HX := Lib.hid hX; have HT := Lib.hid (TagR.block t4 HD.out.size (Nat.le_refl _) (fun _ _ _ _ _ => rfl)); have D4 := Lib.hid (HD.out.only on4 s4); clear o4 on4 s4 t4 hX k0 k1; have k0 := D4.out.c0; have k1 := D4.out.c1))
      have HXV : Hid (isVec pS S.length X = true) := list_vec HX.out
      clear HX HD
      go_loopw [9, 10] (fun v t wi => ∃ (i : Nat) (r : Option Addr) (c : Nat) (X : List Int), t = .int .i64 i ∧ i ≤ 20 ∧ v = .slice r X.length c ∧ isVec pS S.length X = true ∧ TagR B wi.heap.size wi r X ∧ DU b a len cap zs w.heap.size pS aS S cS loS tpS w B m u7 wi) (fun _ t _ => 20 - (intOf t).toNat)
      case atStart => exact ⟨0, r, c, X, rfl, by omega, rfl, HXV.out, HT.out, D4.out⟩
      case round =>
        clear HT HXV D4
        obtain ⟨i, r, c, X, rfl, hi, rfl, hX, ht, hd⟩ := hrel
        have HX := Lib.hid hX
        have HT := Lib.hid ht
        have HD := Lib.hid hd
        clear hX ht hd k0 k1
        have k0 := HD.out.c0
        have k1 := HD.out.c1
        obtain ⟨N, hN⟩ : ∃ N, N = pairN pS S X X := ⟨_, rfl⟩
        have HNE := Lib.hid hN
        by_cases hn0 : N = 0
        · have e3 : (N == 0) = true := by simpa using hn0
          have e4 : (N != 0) = false := by simp [hn0]
          clear hN hn0
          by_cases hi2 : i < 20
          · have hi3 : (i : Int) < 20 := by omega
            go_wp2_with (first | (go_at_call 95; ((with_reducible refine (l03Pair_any pS aS S cS loS tpS r X c B wr.heap.size r X c B wr.heap.size wr HD.out.row (Nat.le_trans tS HD.out.on.size) HT.out.row (Nat.le_refl _) HT.out.row (Nat.le_refl _) HI.out HX.out HX.out).mono ?_); rintro e w5 ⟨rfl, b_⟩; rw [← HNE.out]; have D5 := Lib.hid (HD.out.below b_); have HT5 := Lib.hid (TagR.below HT.out b_ (Nat.le_refl _) (Nat.le_refl _) b_.size); clear b_ k0 k1; have k0 := D5.out.c0; have k1 := D5.out.c1)) | (go_at_call 180; ((with_reducible refine (listN_any pS S.length b a len cap zs w5 D5.out.src hn6 hp1).mono ?_); rintro e w7 ⟨v, X7, rfl, hX7, o7, on7, s7⟩; obtain ⟨r7, c7, rfl, t7⟩ := o7.tag; have HX7 : Hid (isVec pS S.length X7 = true) := list_vec hX7; have HT7 := Lib.hid (TagR.block t7 D5.out.size (Nat.le_refl _) (fun _ _ _ _ _ => rfl)); have D7 := Lib.hid (D5.out.only on7 s7); clear o7 on7 s7 t7 hX7 k0 k1)))
            go_roundw
            case rel => exact ⟨i + 1, r7, c7, X7, by go_num, by omega, rfl, HX7.out, HT7.out, D7.out⟩
            case measure => simp [intOf]; omega
          · have hi3 : ¬ (i : Int) < 20 := by omega
            go_wp2_with ((go_at_call 95; ((with_reducible refine (l03Pair_any pS aS S cS loS tpS r X c B wr.heap.size r X c B wr.heap.size wr HD.out.row (Nat.le_trans tS HD.out.on.size) HT.out.row (Nat.le_refl _) HT.out.row (Nat.le_refl _) HI.out HX.out HX.out).mono ?_); rintro e w5 ⟨rfl, b_⟩; rw [← HNE.out]; have D5 := Lib.hid (HD.out.below b_); have HT5 := Lib.hid (TagR.below HT.out b_ (Nat.le_refl _) (Nat.le_refl _) b_.size); clear b_ k0 k1; have k0 := D5.out.c0; have k1 := D5.out.c1)))
            go_roundw
            case rel => exact ⟨j - 1, m, by go_num, by omega, HALL.out, D5.out⟩
            case measure => simp [intOf]; omega
        · have e3 : (N == 0) = false := by simpa using hn0
          have e4 : (N != 0) = true := by simpa using hn0
          have HN0 : Hid (pairN pS S X X ≠ 0) := by show _ ≠ _; rw [← hN]; exact hn0
          clear hN hn0
          by_cases hi2 : i < 20
          · have hi3 : (i : Int) < 20 := by omega
            go_upto_region 11 with (first | (go_at_call 95; ((with_reducible refine (l03Pair_any pS aS S cS loS tpS r X c B wr.heap.size r X c B wr.heap.size wr HD.out.row (Nat.le_trans tS HD.out.on.size) HT.out.row (Nat.le_refl _) HT.out.row (Nat.le_refl _) HI.out HX.out HX.out).mono ?_); rintro e w5 ⟨rfl, b_⟩; rw [← HNE.out]; have D5 := Lib.hid (HD.out.below b_); have HT5 := Lib.hid (TagR.below HT.out b_ (Nat.le_refl _) (Nat.le_refl _) b_.size); clear b_ k0 k1; have k0 := D5.out.c0; have k1 := D5.out.c1)) | (go_at_call 95; ((with_reducible refine (l03Pair_any pS aS S cS loS tpS r X c B w5.heap.size r X c B w5.heap.size w5 D5.out.row (Nat.le_trans tS D5.out.on.size) HT5.out.row (Nat.le_refl _) HT5.out.row (Nat.le_refl _) HI.out HX.out HX.out).mono ?_); rintro e w6 ⟨rfl, b_⟩; rw [← HNE.out]; have D6 := Lib.hid (D5.out.below b_); have HT6 := Lib.hid (TagR.below HT5.out b_ (Nat.le_refl _) (Nat.le_refl _) b_.size); clear b_ k0 k1; have k0 := D6.out.c0; have k1 := D6.out.c1)))
            obtain ⟨vals, hvo, hvr⟩ := D6.out.out
            have HVW := Lib.hid hvo; have hBz := D6.out.size
            have HVR := Lib.hid hvr
            clear hvo hvr
            go_wp2_with ((at_builtin; (refine wpList_append_lies _ rfl _ _ 27 rfl B 24 j0 (.slice none 0 0) 1 24 Tryz.underlying27 kj kz0 kz1 kz2 rfl (by decide) u7 m.length vals rfl (HVW.out.alloc _) ⟨w6.heap.size, 0, none⟩ 1 1 [.slice r X.length c] rfl rfl (World.news_of_block (cs := #[.slice r X.length c]) (t := 24) (fr := (0, 0)) (heap_alloc_new w6 _)) (by simp [Value.oneCell']) (by omega) (by unfold maxLen; omega) (by omega) (by simp; omega) (w6.heap.size + 1) (by simp) ?_); intro gg cap w1 hown1 hgrow hat hlt1))
            go_wp2
            go_roundw
            case rel => exact ⟨j - 1, m ++ [X], by go_num, by rw [List.length_append]; show m.length + 1 + (j - 1) ≤ xn; omega, all_push HALL.out HX.out HN0.out, D6.out.push HVW.out HVR.out HT6.out hown1 hgrow⟩
            case measure => simp [intOf]; omega
          · have hi3 : ¬ (i : Int) < 20 := by omega
            go_upto_region 11 with ((go_at_call 95; ((with_reducible refine (l03Pair_any pS aS S cS loS tpS r X c B wr.heap.size r X c B wr.heap.size wr HD.out.row (Nat.le_trans tS HD.out.on.size) HT.out.row (Nat.le_refl _) HT.out.row (Nat.le_refl _) HI.out HX.out HX.out).mono ?_); rintro e w5 ⟨rfl, b_⟩; rw [← HNE.out]; have D5 := Lib.hid (HD.out.below b_); have HT5 := Lib.hid (TagR.below HT.out b_ (Nat.le_refl _) (Nat.le_refl _) b_.size); clear b_ k0 k1; have k0 := D5.out.c0; have k1 := D5.out.c1)))
            obtain ⟨vals, hvo, hvr⟩ := D5.out.out
            have HVW := Lib.hid hvo; have hBz := D5.out.size
            have HVR := Lib.hid hvr
            clear hvo hvr
            go_wp2_with ((at_builtin; (refine wpList_append_lies _ rfl _ _ 27 rfl B 24 j0 (.slice none 0 0) 1 24 Tryz.underlying27 kj kz0 kz1 kz2 rfl (by decide) u7 m.length vals rfl (HVW.out.alloc _) ⟨w5.heap.size, 0, none⟩ 1 1 [.slice r X.length c] rfl rfl (World.news_of_block (cs := #[.slice r X.length c]) (t := 24) (fr := (0, 0)) (heap_alloc_new w5 _)) (by simp [Value.oneCell']) (by omega) (by unfold maxLen; omega) (by omega) (by simp; omega) (w5.heap.size + 1) (by simp) ?_); intro gg cap w1 hown1 hgrow hat hlt1))
            go_wp2
            go_roundw
            case rel => exact ⟨j - 1, m ++ [X], by go_num, by rw [List.length_append]; show m.length + 1 + (j - 1) ≤ xn; omega, all_push HALL.out HX.out HN0.out, D5.out.push HVW.out HVR.out HT5.out hown1 hgrow⟩
            case measure => simp [intOf]; omega
    · have hj1 : ¬ (0 : Int) < (j : Int) := by omega
      go_wp2
      go_ret
      obtain ⟨r, c, rfl, hm9⟩ := HD.out.out.mat
      exact ⟨r, c, m, rfl, by omega, HALL.out, hm9.mono (by have := HD.out.hg; have := HD.out.hgB; omega) (Nat.le_refl _), HD.out.on, HD.out.src⟩

end Go.Proofs.YtgfanoejohpmkaaGreat

namespace Go.Proofs.YtgfanoejohpmkaaGreat
open Go.RowKit
set_option linter.unusedVariables false

/-- What a draw carries: the source, the box of the first result, the box of the space, its squares. -/
structure DB (b : Nat) (a : Option Addr) (len cap : Nat) (zs : List Int) (g : Nat) (p : Int) (r : Option Addr) (X : List Int) (c lo : Nat) (w : World) (W : World) : Prop where
  src : Src W b a len cap zs
  R : L2 W w.heap.size (.int .i64 0) (.slice none 0 0)
  G : L2 W g (.int .i64 p) (.slice r X.length c)
  row : RowIn lo g W r X
  on : Below w.heap.size w W
  hR : w.heap.size < b
  hb : b < lo
  hlo : lo ≤ g
  hg : g < W.heap.size
theorem DB.bg {b : Nat} {a : Option Addr} {len cap : Nat} {zs : List Int} {g : Nat} {p : Int} {r : Option Addr} {X : List Int} {c lo : Nat} {w : World} {W : World} (h : DB b a len cap zs g p r X c lo w W) : b < g := Nat.lt_of_lt_of_le h.hb h.hlo
theorem DB.rW {b : Nat} {a : Option Addr} {len cap : Nat} {zs : List Int} {g : Nat} {p : Int} {r : Option Addr} {X : List Int} {c lo : Nat} {w : World} {W : World} (h : DB b a len cap zs g p r X c lo w W) : w.heap.size < W.heap.size := Nat.lt_trans (Nat.lt_trans h.hR h.bg) h.hg
theorem DB.only {b : Nat} {a : Option Addr} {len cap : Nat} {zs : List Int} {g : Nat} {p : Int} {r : Option Addr} {X : List Int} {c lo : Nat} {w : World} {W W' : World} (h : DB b a len cap zs g p r X c lo w W) (ho : Only b W W') (hs : Src W' b a len cap zs) : DB b a len cap zs g p r X c lo w W' :=
  { h with src := hs, R := h.R.only ho h.rW (Nat.ne_of_lt h.hR), G := h.G.only ho h.hg (Nat.ne_of_gt h.bg), row := h.row.only ho (.inl h.hb) (Nat.le_of_lt h.hg), on := h.on.trans (ho.below (Nat.le_of_lt h.hR) (Nat.le_of_lt h.rW)), hg := Nat.lt_of_lt_of_le h.hg ho.size }
theorem DB.below {b : Nat} {a : Option Addr} {len cap : Nat} {zs : List Int} {g : Nat} {p : Int} {r : Option Addr} {X : List Int} {c lo : Nat} {w : World} {W W' : World} (h : DB b a len cap zs g p r X c lo w W) (hb : Below W.heap.size W W') : DB b a len cap zs g p r X c lo w W' := h.only (Only.of_below hb) (h.src.step hb)
theorem rowB_only {B b : Nat} {W W' : World} {r : Option Addr} {Y : List Int} (h : RowIn B W.heap.size W r Y) (ho : Only b W W') (hb : b < B) : RowIn B W'.heap.size W' r Y :=
  (h.only ho (.inl hb) (Nat.le_refl _)).mono (Nat.le_refl _) ho.size
theorem MatIn.only {lo tp k : Nat} {w w' : World} {r : Option Addr} {m : List (List Int)} (h : MatIn lo tp w r m) (ho : Only k w w') (hk : k < lo ∨ tp ≤ k) (ht : tp ≤ w.heap.size) : MatIn lo tp w' r m :=
  h.same (fun j j0 j1 => ho.block j (Nat.lt_of_lt_of_le j1 ht) (by omega))
/-- The result, written into its box. -/
theorem DB.fin {b : Nat} {a : Option Addr} {len cap : Nat} {zs : List Int} {g : Nat} {p : Int} {r : Option Addr} {X : List Int} {c lo : Nat} {w : World} {W : World} (h : DB b a len cap zs g p r X c lo w W) (x y : Value) : Below w.heap.size w ((W.setCell ⟨w.heap.size, 0, none⟩ x).setCell ⟨w.heap.size, 1, none⟩ y) := (h.on.setCell (Nat.le_refl _) _).setCell (Nat.le_refl _) _
theorem row_fin {w W : World} {r : Option Addr} {Y : List Int} {B tp : Nat} (h : RowIn B tp W r Y) (ht : tp ≤ W.heap.size) (hB : w.heap.size < B) (x y : Value) : RowIn w.heap.size ((W.setCell ⟨w.heap.size, 0, none⟩ x).setCell ⟨w.heap.size, 1, none⟩ y).heap.size ((W.setCell ⟨w.heap.size, 0, none⟩ x).setCell ⟨w.heap.size, 1, none⟩ y) r Y :=
  ((h.far _ (.inl hB)).far _ (.inl hB)).mono (Nat.le_of_lt hB) (by simp [World.setCell]; exact ht)
theorem mat_far {lo tp k i : Nat} {w : World} {r : Option Addr} {m : List (List Int)} (h : MatIn lo tp w r m) (x : Value) (hk : k < lo ∨ tp ≤ k) : MatIn lo tp (w.setCell ⟨k, i, none⟩ x) r m :=
  h.same (fun j j0 j1 => Below.heap_setCell _ _ _ _ (by show j ≠ k; omega))
theorem mat_fin {w W : World} {r : Option Addr} {m : List (List Int)} {B tp : Nat} (h : MatIn B tp W r m) (ht : tp ≤ W.heap.size) (hB : w.heap.size < B) (x y : Value) : MatIn w.heap.size ((W.setCell ⟨w.heap.size, 0, none⟩ x).setCell ⟨w.heap.size, 1, none⟩ y).heap.size ((W.setCell ⟨w.heap.size, 0, none⟩ x).setCell ⟨w.heap.size, 1, none⟩ y) r m :=
  ((mat_far h _ (.inl hB)).mono (Nat.le_refl _) (Nat.le_refl _) |> fun h => (mat_far h _ (.inl hB)).mono (Nat.le_of_lt hB) (by simp [World.setCell]; exact ht))

theorem units_at (b : Nat) (a : Option Addr) (len cap : Nat) (zs : List Int) (pS : Int) (aS : Option Addr) (S : List Int) (cS loS tpS : Nat) (most : Nat) (K : Int) (hK : K = (most : Int)) (w : World) (hs : Src w b a len cap zs) (hi : isSp pS S = true) (hS : RowIn loS tpS w aS S) (tS : tpS ≤ w.heap.size) (hbS : b < loS ∨ tpS ≤ b) (hm : most ≤ 10) :
    Calls Tryz.prog 86 #[.pointer (some ⟨b, 0, none⟩), .agg #[.int .i64 pS, .slice aS S.length cS], .int .i64 K] w (DrawnL pS S b a len cap zs w) := by
  subst hK; exact units_any b a len cap zs pS aS S cS loS tpS most w hs hi hS tS hbS hm

end Go.Proofs.YtgfanoejohpmkaaGreat
