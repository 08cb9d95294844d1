/-
  Draws of multivectors of a space: contract.
  Conditions: the source stands in a block of known cells, apart from the space's.
  Draws of multivectors, and of what is none: contract.
  Conditions: the source stands in a block of known cells, apart from the space's.
  The draws of a space and two multivectors: contracts.
  Conditions: the code is nil or a row of known bytes, of at most 4096.
-/
import Derived.Test.YtcamegdjdjacpaaQr11
import Derived.Test.YtcamegdjdjacpaaQr5
import Derived.Test.YtcamegdjdjacpaaQr7
import Derived.Test.YtcamegdjdjacpaaQr10
import Derived.Test.YtcamegdjdjacpaaQr3
import Derived.Deep.RegionHeld3
import Derived.Deep.DeepCutAuto
import Derived.Test.YtcamegdjdjacpaaQr4
import Derived.ArgAppend
namespace Go.Proofs.Ytcamegdjdjacpaa
open Go.RowKit
set_option linter.unusedVariables false

/-- What holds behind the boxing of the space, at every later world of a draw. -/
structure DrF (p : Int) (aS : Option Addr) (S : List Int) (cS loS tpS b : Nat) (a : Option Addr) (len cap : Nat) (zs : List Int) (w W : World) : Prop where
  c0 : W.cell? ⟨w.heap.size, 0, none⟩ = some (.int .i64 p)
  c1 : W.cell? ⟨w.heap.size, 1, none⟩ = some (.slice aS S.length cS)
  src : Src W b a len cap zs
  on : Only b w W
  row : RowIn loS tpS W aS S
  lt : w.heap.size < W.heap.size
  hb : b < w.heap.size
  ht : tpS ≤ w.heap.size
  hd : b < loS ∨ tpS ≤ b
theorem DrF.only {p : Int} {aS : Option Addr} {S : List Int} {cS loS tpS b : Nat} {a : Option Addr} {len cap : Nat} {zs : List Int} {w W W' : World} (h : DrF p aS S cS loS tpS b a len cap zs w W) (k : Only b W W') (s : Src W' b a len cap zs) : DrF p aS S cS loS tpS b a len cap zs w W' :=
  ⟨(k.cell (p := ⟨w.heap.size, 0, none⟩) h.lt (Nat.ne_of_gt h.hb)).trans h.c0, (k.cell (p := ⟨w.heap.size, 1, none⟩) h.lt (Nat.ne_of_gt h.hb)).trans h.c1, s, h.on.trans k, h.row.only k h.hd (Nat.le_trans h.ht (Nat.le_of_lt h.lt)), Nat.lt_of_lt_of_le h.lt k.size, h.hb, h.ht, h.hd⟩
theorem DrF.below {p : Int} {aS : Option Addr} {S : List Int} {cS loS tpS b : Nat} {a : Option Addr} {len cap : Nat} {zs : List Int} {w W W' : World} (h : DrF p aS S cS loS tpS b a len cap zs w W) (k : Below W.heap.size W W') : DrF p aS S cS loS tpS b a len cap zs w W' := h.only (Only.of_below k) (h.src.step k)
theorem DrF.start {p : Int} {aS : Option Addr} {S : List Int} {cS loS tpS b : Nat} {a : Option Addr} {len cap : Nat} {zs : List Int} {w : World} (hs : Src w b a len cap zs) (hS : RowIn loS tpS w aS S) (tS : tpS ≤ w.heap.size) (hd : b < loS ∨ tpS ≤ b) (t : TypeId) : DrF p aS S cS loS tpS b a len cap zs w (w.alloc (.cells #[.int .i64 p, .slice aS S.length cS] t)) :=
  ⟨by simp [go_sem], by simp [go_sem], hs.alloc _, (Only.refl b w).alloc _, hS.below (below_alloc w _) tS, by simp, hs.lt, tS, hd⟩
theorem DrF.put {p : Int} {aS : Option Addr} {S : List Int} {cS loS tpS b : Nat} {a : Option Addr} {len cap : Nat} {zs : List Int} {w W : World} (h : DrF p aS S cS loS tpS b a len cap zs w W) {k : Nat} (hk : w.heap.size < k) (i : Nat) (x : Value) : DrF p aS S cS loS tpS b a len cap zs w (W.setCell ⟨k, i, none⟩ x) :=
  ⟨((Only.set k i W x).cell (p := ⟨w.heap.size, 0, none⟩) h.lt (Nat.ne_of_lt hk)).trans h.c0, ((Only.set k i W x).cell (p := ⟨w.heap.size, 1, none⟩) h.lt (Nat.ne_of_lt hk)).trans h.c1, h.src.far (Only.set k i W x) (Nat.lt_trans h.hb hk), h.on.setCell (.inr (Nat.le_of_lt hk)) x, h.row.far x (.inr (Nat.le_trans h.ht (Nat.le_of_lt hk))), by have := h.lt; simp [World.setCell]; exact this, h.hb, h.ht, h.hd⟩
theorem DrF.ss {p : Int} {aS : Option Addr} {S : List Int} {cS loS tpS b : Nat} {a : Option Addr} {len cap : Nat} {zs : List Int} {w W : World} (h : DrF p aS S cS loS tpS b a len cap zs w W) : W.cell? ⟨w.heap.size, 0, none⟩ = some (.int .i64 p) ∧ W.cell? ⟨w.heap.size, 1, none⟩ = some (.slice aS S.length cS) := ⟨h.c0, h.c1⟩
theorem vecNN {p : Int} (hp : 0 < p) {n : Nat} {v : List Int} (hn : ∀ j, j < v.length → 0 ≤ v.getD j 0 ∧ v.getD j 0 < p) : Nums p (mkR n (vecF v v.length)) := vecN hp hn
theorem times_len (p : Int) (aS : Option Addr) (S : List Int) (cS loS tpS : Nat) (ax : Option Addr) (x : List Int) (cx lox tpx : Nat) (ay : Option Addr) (y : List Int) (cy loy tpy : Nat) (w : World) (hp : prm p = true) (h6 : S.length ≤ 6) (hS : RowIn loS tpS w aS S) (tS : tpS ≤ w.heap.size) (nS : Nums p S) (hx : RowIn lox tpx w ax x) (tx : tpx ≤ w.heap.size) (lx : x.length = bl S) (nx : Nums p x) (hy : RowIn loy tpy w ay y) (ty : tpy ≤ w.heap.size) (ly : y.length = bl S) (ny : Nums p y) :
    Calls Try.prog 84 #[.agg #[.int .i64 p, .slice aS S.length cS], .slice ax (bl S) cx, .slice ay (bl S) cy] w (NewRowT (bl S) (prodF p S x y) w) := by
  have h := l04Times_tag p aS S cS loS tpS ax x cx lox tpx ay y cy loy tpy w hp h6 hS tS nS hx tx lx nx hy ty ly ny
  rw [lx, ly] at h
  exact h

set_option maxRecDepth 100000 in
set_option maxHeartbeats 3200000 in
theorem drawM_any (p : Int) (aS : Option Addr) (S : List Int) (cS loS tpS b : Nat) (a : Option Addr) (len cap : Nat) (zs : List Int) (w : World) (hs : Src w b a len cap zs) (hsp : isSp p S = true) (hS : RowIn loS tpS w aS S) (tS : tpS ≤ w.heap.size) (hd : b < loS ∨ tpS ≤ b) :
    Calls Try.prog 200 #[.pointer (some ⟨b, 0, none⟩), .agg #[.int .i64 p, .slice aS S.length cS]] w (DrawnM (bl S) b a len cap zs w) := by
  have h6 : S.length ≤ 6 := (isSp_iff.1 hsp).hi
  have hpr := (isSp_iff.1 hsp).prime
  have hpb := prm_bd hpr
  have hp1 : 1 ≤ p := by omega
  have hp0 : 0 < p := by omega
  have hbl := bl_le h6
  have hb0 := bl_pos S
  have hlt := hs.lt
  have NS : Hid (Nums p S) := sp_nums hsp
  have PR := Lib.hid hpr
  have D0 : Hid (DrF p aS S cS loS tpS b a len cap zs w (w.alloc (.cells #[.int .i64 p, .slice aS S.length cS] 26))) := DrF.start hs hS tS hd _
  have ONE : Hid (Nums p (mkR (bl S) oneF)) := Mv.nums (one_mv hsp)
  clear hs hS hpb
  go_enter Try.func200, Try.ntmps200
  go_upto_region 1 with fail
  obtain ⟨wa, hwa⟩ : ∃ z, z = w.alloc (.cells #[.int .i64 p, .slice aS S.length cS] 26) := ⟨_, rfl⟩
  rw [← hwa] at D0 ⊢
  clear hwa
  have c0 := D0.out.c0
  have c1 := D0.out.c1
  have hRa := D0.out.lt
  go_upto_region 4 with (first
    | (go_at_call 208; (with_reducible refine (l04Zero_any p aS S cS wa h6).mono ?_); rintro e w1 ⟨b1, rfl, hl1, hu1, ho1, hb1⟩; have D1 := Lib.hid (D0.out.below hb1); have HO1 := Lib.hid ho1; clear hb1 ho1)
    | (go_at_call 167; (with_reducible refine (next_any 5 b a len cap zs w1 D1.out.src).mono ?_); rintro e w2 ⟨x, rfl, hx, on2, s2⟩; have HX5 := Lib.hid (hx (by omega)); have D2 := Lib.hid (D1.out.only on2 s2); have HO2 := Lib.hid (HO1.out.stay (on2.block b1 hu1 (by omega))); have hu2 := Nat.lt_of_lt_of_le hu1 on2.size; clear on2 s2 hx))
  clear c0 c1 D0 D1 HO1 hu1
  have hR1 : w.heap.size < b1 := by omega
  clear hl1
  have hRc := D2.out.lt
  have D3 : Hid (DrF p aS S cS loS tpS b a len cap zs w w2.drew) := D2.out.below (below_drew w2)
  have s3 := Lib.hid D3.out.ss
  have hR3 : w.heap.size < w2.drew.heap.size := hRc
  by_cases h0 : x = 0
  · subst h0
    go_upto_region 5 with fail
    go_region_held3 (fun w' => w'.cell? ⟨w.heap.size, 0, none⟩ = some (.int .i64 p) ∧ w'.cell? ⟨w.heap.size, 1, none⟩ = some (.slice aS S.length cS)) (first | exact s3.out | exact s4.out | exact s5.out | go_keep) (first
      | (go_at_call 203; (with_reducible refine (listN_any p S.length b a len cap zs w2.drew D3.out.src (by omega) hp1).mono ?_); rintro e w4 ⟨v, X, rfl, hX, o4, on4, z4⟩; obtain ⟨r, c, rfl, t4⟩ := o4.tag; have D4 := Lib.hid (D3.out.only on4 z4); have HT4 := Lib.hid t4; have HU4 := Lib.hid o4; have HL4 := Lib.hid hX.1; have HN4 := Lib.hid hX.2; have s4 := Lib.hid D4.out.ss; have zy4 := on4.size; clear t4 o4 hX on4 z4)
      | (go_at_call 219; (with_reducible refine (l04Vector_any p aS S cS r X c w2.drew.heap.size w4.heap.size w4 h6 HL4.out HT4.out.row (Nat.le_refl _)).mono ?_); rintro e w5 ⟨b5, rfl, hl5, hu5, ho5, bel5⟩; have D5 := Lib.hid (D4.out.below bel5); have HO5 := Lib.hid ho5; have s5 := Lib.hid D5.out.ss; have zy5 := bel5.size; clear ho5 bel5))
    all_goals
      go_wp2
      go_ret
      exact ⟨some ⟨b5, 0, none⟩, bl S, mkR (bl S) (vecF X X.length), by simp only [mkR_len]; rfl, mkR_len _ _, HO5.out.own (by omega) hu5, .inl (by rw [mkR_len]), D5.out.on, D5.out.src⟩
  have e0 : (x == 0) = false := by simpa using h0
  by_cases h1 : x = 1
  · subst h1
    have c0 := D2.out.c0
    have c1 := D2.out.c1
    go_upto_region 9 with (first
      | (go_at_call 220; (with_reducible refine (lone_any p aS S cS w2 h6).mono ?_); rintro e w6 ⟨b6, rfl, hl6, hu6, ho6, bel6⟩; have D6 := Lib.hid (D2.out.below bel6); have HO6 := Lib.hid (ho6.own (Nat.le_trans (Nat.le_of_lt hRc) hl6) hu6); clear ho6 bel6)
      | (go_at_call 167; (with_reducible refine (next_any 4 b a len cap zs w6 D6.out.src).mono ?_); rintro e w7 ⟨y, rfl, hy, on7, z7⟩; have HY7 := Lib.hid (hy (by omega)); have D7 := Lib.hid (D6.out.only on7 z7); have HO7 := Lib.hid ((ownR_only HO6.out on7 (.inl hlt) (Nat.le_refl _)).mono' (Nat.le_refl _) on7.size); clear on7 z7 hy))
    clear c0 c1
    go_loopw [5, 6] (fun v t wr => ∃ (X : List Int) (bx k : Nat), k ≤ 3 ∧ v = .slice (some ⟨bx, 0, none⟩) (bl S) (bl S) ∧ t = .int .i64 k ∧ X.length = bl S ∧ Nums p X ∧ OwnR w.heap.size wr.heap.size wr (some ⟨bx, 0, none⟩) X ∧ DrF p aS S cS loS tpS b a len cap zs w wr) (fun _ t _ => (intOf t).toNat)
    case atStart => exact ⟨mkR (bl S) oneF, b6, y.toNat, by have := HY7.out; omega, rfl, by have := HY7.out; congr 1; omega, mkR_len _ _, ONE.out, HO7.out, D7.out⟩
    case round =>
      obtain ⟨X0, bx, k, hk, rfl, rfl, hXl, hXn, ho, hD⟩ := hrel
      rename World => wr
      have HXL := Lib.hid hXl
      have HXN := Lib.hid hXn
      have HO := Lib.hid ho
      have HD := Lib.hid hD
      clear hXl hXn ho hD
      by_cases hk0 : 0 < k
      · have hk1 : (0 : Int) < (k : Int) := by omega
        have D8 : Hid (DrF p aS S cS loS tpS b a len cap zs w wr.drew) := HD.out.below (below_drew wr)
        have HO8 : Hid (OwnR w.heap.size wr.drew.heap.size wr.drew (some ⟨bx, 0, none⟩) X0) := ownR_below HO.out (below_drew wr) (Nat.le_refl _)
        have s8 := Lib.hid D8.out.ss
        have hR8 := D8.out.lt
        go_upto_region 11 with fail
        go_region_held3 (fun w' => w'.cell? ⟨w.heap.size, 0, none⟩ = some (.int .i64 p) ∧ w'.cell? ⟨w.heap.size, 1, none⟩ = some (.slice aS S.length cS)) (first | exact s8.out | exact s9.out | exact s10.out | exact s11.out | go_keep) (first
          | (go_at_call 203; (with_reducible refine (listN_any p S.length b a len cap zs wr.drew D8.out.src (by omega) hp1).mono ?_); rintro e w9 ⟨v, X, rfl, hX, o9, on9, z9⟩; obtain ⟨r, c, rfl, t9⟩ := o9.tag; have D9 := Lib.hid (D8.out.only on9 z9); have HT9 := Lib.hid t9; have HU9 := Lib.hid o9; have HL9 := Lib.hid hX.1; have HN9 := Lib.hid hX.2; have s9 := Lib.hid D9.out.ss; have zy9 := on9.size; clear t9 o9 hX z9; have HO9 := Lib.hid ((ownR_only HO8.out on9 (.inl hlt) (Nat.le_refl _)).mono' (Nat.le_refl _) zy9); clear on9)
          | (go_at_call 219; (with_reducible refine (l04Vector_any p aS S cS r X c wr.drew.heap.size w9.heap.size w9 h6 HL9.out HT9.out.row (Nat.le_refl _)).mono ?_); rintro e w10 ⟨b10, rfl, hl10, hu10, ho10, bel10⟩; have D10 := Lib.hid (D9.out.below bel10); have HO10 := Lib.hid ho10; have s10 := Lib.hid D10.out.ss; have zy10 := bel10.size; have HOX10 := Lib.hid ((ownR_below HO9.out bel10 (Nat.le_refl _)).mono' (Nat.le_refl _) zy10); clear ho10 bel10)
          | (go_at_call 84; (with_reducible refine (times_len p aS S cS loS tpS (some ⟨bx, 0, none⟩) X0 (bl S) w.heap.size w10.heap.size (some ⟨b10, 0, none⟩) (mkR (bl S) (vecF X X.length)) (bl S) w9.heap.size w10.heap.size w10 PR.out h6 D10.out.row (Nat.le_trans tS (Nat.le_of_lt D10.out.lt)) NS.out HOX10.out.row (Nat.le_refl _) HXL.out HXN.out (HO10.out.own hl10 hu10).row (Nat.le_refl _) (mkR_len _ _) (vecNN hp0 HN9.out)).mono ?_); rintro e w11 ⟨b11, rfl, hl11, hu11, ho11, bel11, tag11⟩; have D11 := Lib.hid (D10.out.below bel11); have HO11 := Lib.hid ho11; have s11 := Lib.hid D11.out.ss; have hR10 := D10.out.lt; clear ho11 bel11 tag11))
        all_goals
          go_wp2
          go_roundw
          case rel => exact ⟨mkR (bl S) (prodF p S X0 (mkR (bl S) (vecF X X.length))), b11, k - 1, by omega, rfl, by congr 1; omega, mkR_len _ _, prodM_num hp0 S X0 _, HO11.out.own (by omega) hu11, D11.out⟩
          case measure => simp [intOf]; omega
      · have hk1 : ¬ (0 : Int) < (k : Int) := by omega
        go_wp2
        go_ret
        exact ⟨some ⟨bx, 0, none⟩, bl S, X0, by rw [HXL.out]; rfl, HXL.out, HO.out, .inl HXL.out.symm, HD.out.on, HD.out.src⟩
  have e1 : (x == 1) = false := by simpa using h1
  by_cases h2 : x = 2
  · subst h2
    have c0 := D2.out.c0
    have c1 := D2.out.c1
    go_upto_region 14 with (go_at_call 167; (with_reducible refine (next_any _ b a len cap zs w2 D2.out.src).mono ?_); rintro e w6 ⟨y, rfl, hy, on6, z6⟩; have D6 := Lib.hid (D2.out.only on6 z6); clear on6 z6 hy)
    clear c0 c1
    have D7 : Hid (DrF p aS S cS loS tpS b a len cap zs w w6.drew) := D6.out.below (below_drew w6)
    have s7 := Lib.hid D7.out.ss
    have hR7 := D7.out.lt
    go_region_held3 (fun w' => w'.cell? ⟨w.heap.size, 0, none⟩ = some (.int .i64 p) ∧ w'.cell? ⟨w.heap.size, 1, none⟩ = some (.slice aS S.length cS)) (first | exact s7.out | exact s8.out | exact s9.out | exact s10.out | go_keep) (first
      | (go_at_call 163; (with_reducible refine (l04Size_any p aS S cS w6.drew h6).mono ?_); rintro e w8 ⟨rfl, bel8⟩; have D8 := Lib.hid (D7.out.below bel8); have s8 := Lib.hid D8.out.ss; have hR8 := D8.out.lt; clear bel8)
      | (go_at_call 203; (with_reducible refine (listN_any p (bl S) b a len cap zs w8 D8.out.src (by omega) hp1).mono ?_); rintro e w9 ⟨v, X, rfl, hX, o9, on9, z9⟩; obtain ⟨r, c, rfl, t9⟩ := o9.tag; have D9 := Lib.hid (D8.out.only on9 z9); have HT9 := Lib.hid t9; have HU9 := Lib.hid o9; have HL9 := Lib.hid hX.1; have HN9 := Lib.hid hX.2; have s9 := Lib.hid D9.out.ss; have zy9 := on9.size; clear t9 o9 hX on9 z9)
      | (go_at_call 174; (with_reducible refine (l04Part_any r X c w8.heap.size w9.heap.size y w9 HT9.out.row (Nat.le_refl _) (by rw [HL9.out]; exact hbl)).mono ?_); rintro e w10 ⟨b10, rfl, hl10, hu10, ho10, bel10⟩; have D10 := Lib.hid (D9.out.below bel10); have HO10 := Lib.hid ho10; have s10 := Lib.hid D10.out.ss; clear ho10 bel10))
    all_goals
      go_wp2
      go_ret
      exact ⟨some ⟨b10, 0, none⟩, X.length, mkR X.length (pg X y), by simp only [mkR_len]; rfl, by rw [mkR_len]; exact HL9.out, HO10.out.own (by omega) hu10, .inl (by rw [mkR_len]), D10.out.on, D10.out.src⟩
  have e2 : (x == 2) = false := by simpa using h2
  by_cases h3 : x = 3
  · subst h3
    go_upto_region 17 with (go_at_call 167; (with_reducible refine (next_any 4 b a len cap zs w2 D2.out.src).mono ?_); rintro e w6 ⟨y, rfl, hy, on6, z6⟩; have HY6 := Lib.hid (hy (by omega)); have D6 := Lib.hid (D2.out.only on6 z6); have HO6 := Lib.hid (HO2.out.stay (on6.block b1 hu2 (by omega))); have hu6 := Nat.lt_of_lt_of_le hu2 on6.size; clear on6 z6 hy)
    go_loopw [8] (fun t wr => ∃ (f : Nat → Int) (k : Nat), k ≤ 3 ∧ t = .int .i64 k ∧ RowOwn wr b1 0 (bl S) f ∧ b1 < wr.heap.size ∧ DrF p aS S cS loS tpS b a len cap zs w wr) (fun t _ => (intOf t).toNat)
    case atStart => exact ⟨fun _ => 0, y.toNat, by have := HY6.out; omega, by have := HY6.out; congr 1; omega, HO6.out, hu6, D6.out⟩
    case round =>
      obtain ⟨f, k, hk, rfl, ho, hu, hD⟩ := hrel
      rename World => wr
      have HO := Lib.hid ho
      have HD := Lib.hid hD
      clear ho hD
      by_cases hk0 : 0 < k
      · have hk1 : (0 : Int) < (k : Int) := by omega
        have D8 : Hid (DrF p aS S cS loS tpS b a len cap zs w wr.drew) := HD.out.below (below_drew wr)
        have HO8 : Hid (RowOwn wr.drew b1 0 (bl S) f) := HO.out.drew
        have s8 := Lib.hid D8.out.ss
        have hu8 : b1 < wr.drew.heap.size := hu
        go_upto_region 19 with fail
        go_region_held3 (fun w' => w'.cell? ⟨w.heap.size, 0, none⟩ = some (.int .i64 p) ∧ w'.cell? ⟨w.heap.size, 1, none⟩ = some (.slice aS S.length cS)) (first | exact s8.out | exact s9.out | exact s10.out | exact s11.out | exact s12.out | go_keep) (first
          | (go_at_call 163; (with_reducible refine (l04Size_any p aS S cS wr.drew h6).mono ?_); rintro e w9 ⟨rfl, bel9⟩; have D9 := Lib.hid (D8.out.below bel9); have s9 := Lib.hid D9.out.ss; have HO9 := Lib.hid (HO8.out.stay (bel9.block b1 hu8)); have hu9 := Nat.lt_of_lt_of_le hu8 bel9.size; clear bel9)
          | (go_at_call 167; (with_reducible refine (next_any (bl S) b a len cap zs w9 D9.out.src).mono ?_); rintro e w10 ⟨y10, rfl, hy, on10, z10⟩; obtain ⟨hy0, hy1⟩ := hy (by omega); obtain ⟨j, rfl⟩ := Int.eq_ofNat_of_zero_le hy0; have hj : j < bl S := (by omega); have HJ := Lib.hid hj; have D10 := Lib.hid (D9.out.only on10 z10); have HO10 := Lib.hid (HO9.out.stay (on10.block b1 hu9 (by omega))); have hu10 := Nat.lt_of_lt_of_le hu9 on10.size; have s10 := Lib.hid D10.out.ss; clear on10 z10 hy)
          | (go_at_call 167; (with_reducible refine (next_any p b a len cap zs w10 D10.out.src).mono ?_); rintro e w11 ⟨z, rfl, hz, on11, z11⟩; have D11 := Lib.hid (D10.out.only on11 z11); have HO11 := Lib.hid (HO10.out.stay (on11.block b1 hu10 (by omega))); have hu11 := Nat.lt_of_lt_of_le hu10 on11.size; have s11 := Lib.hid D11.out.ss; have D12 := Lib.hid (D11.out.put (k := b1) hR1 j (.int .i64 z)); have s12 := Lib.hid D12.out.ss; have cy := HO11.out.cell j HJ.out; have fy := HO11.out.free j HJ.out; rw [Nat.zero_add] at cy fy; clear on11 z11 hz))
        all_goals
          go_wp2
          go_roundw
          case rel => exact ⟨fun i => if i = j then z else f i, k - 1, by omega, by congr 1; omega, row_put0 HO11.out HJ.out (fun i _ => rfl), by simp [World.setCell]; omega, D12.out⟩
          case measure => simp [intOf]; omega
      · have hk1 : ¬ (0 : Int) < (k : Int) := by omega
        go_wp2
        go_ret
        exact ⟨some ⟨b1, 0, none⟩, bl S, mkR (bl S) f, by simp only [mkR_len]; rfl, mkR_len _ _, HO.out.own (Nat.le_of_lt hR1) hu, .inl (by rw [mkR_len]), HD.out.on, HD.out.src⟩
  have e3 : (x == 3) = false := by simpa using h3
  have h4 : x = 4 := by have := HX5.out; omega
  subst h4
  go_upto_region 3 with fail
  go_region_held3 (fun w' => w'.cell? ⟨w.heap.size, 0, none⟩ = some (.int .i64 p) ∧ w'.cell? ⟨w.heap.size, 1, none⟩ = some (.slice aS S.length cS)) (first | exact s3.out | exact s5.out | exact s6.out | go_keep) (first
    | (go_at_call 163; (with_reducible refine (l04Size_any p aS S cS w2.drew h6).mono ?_); rintro e w5 ⟨rfl, bel5⟩; have D5 := Lib.hid (D3.out.below bel5); have s5 := Lib.hid D5.out.ss; have hR5 := D5.out.lt; clear bel5)
    | (go_at_call 203; (with_reducible refine (listN_any p (bl S) b a len cap zs w5 D5.out.src (by omega) hp1).mono ?_); rintro e w6 ⟨v, X, rfl, hX, o6, on6, z6⟩; obtain ⟨r, c, rfl, t6⟩ := o6.tag; have D6 := Lib.hid (D5.out.only on6 z6); have HT6 := Lib.hid t6; have HU6 := Lib.hid o6; have HL6 := Lib.hid hX.1; have HN6 := Lib.hid hX.2; have s6 := Lib.hid D6.out.ss; have zy6 := on6.size; clear t6 o6 hX on6 z6))
  all_goals
    go_wp2
    go_ret
    exact ⟨r, c, X, rfl, HL6.out, OwnR.mono' HT6.out.own (by omega) (Nat.le_refl _), .inr (HU6.out.base (by omega)), D6.out.on, D6.out.src⟩

end Go.Proofs.Ytcamegdjdjacpaa

namespace Go.Proofs.Ytcamegdjdjacpaa
open Go.RowKit
set_option linter.unusedVariables false

theorem row_new2 (w : World) (x y : Int) (t : TypeId) : RowIn w.heap.size (w.alloc (.cells #[.int .i64 x, .int .i64 y] t)).heap.size (w.alloc (.cells #[.int .i64 x, .int .i64 y] t)) (some ⟨w.heap.size, 0, none⟩) [x, y] :=
  .inr ⟨w.heap.size, 0, rfl, Nat.le_refl _, by simp, fun j hj => by
    match j, hj with
    | 0, _ => simp [go_sem]
    | 1, _ => simp [go_sem]⟩
theorem olds_cells {w : World} {q o : Nat} {X : List Int} (h : RowOwn w q o X.length (fun j => X.getD j 0)) : ∀ b, (some (⟨q, o, none⟩ : Addr)) = some b → ∀ j u, (X.map (Value.int .i64))[j]? = some u → w.cell? (b.add j) = some u := fun b e j u hu => by
  cases e
  rw [List.getElem?_map] at hu
  cases hx : X[j]? with
  | none => rw [hx] at hu; cases hu
  | some x =>
    rw [hx] at hu
    cases hu
    have hj : j < X.length := (List.getElem?_eq_some_iff.1 hx).1
    have := h.cell j hj
    simp only [List.getD, hx, Option.getD_some] at this
    by_cases hj0 : j = 0
    · subst hj0; simpa [Addr.add] using this
    · simpa [Addr.add, hj0] using this

set_option maxRecDepth 100000 in
set_option maxHeartbeats 3200000 in
theorem spoilM_any (p : Int) (aS : Option Addr) (S : List Int) (cS loS tpS b : Nat) (a : Option Addr) (len cap : Nat) (zs : List Int) (w : World) (hs : Src w b a len cap zs) (sS : S.length ≤ 1048576) (hS : RowIn loS tpS w aS S) (tS : tpS ≤ w.heap.size) (hd : b < loS ∨ tpS ≤ b) :
    Calls Try.prog 158 #[.pointer (some ⟨b, 0, none⟩), .agg #[.int .i64 p, .slice aS S.length cS]] w (DrawnR (fun X => X.length ≤ 65) b a len cap zs w) := by
  obtain ⟨i0, hi, hz0, hz1, hz2⟩ := info_parts info64
  have hlt := hs.lt
  have D0 : Hid (DrF p aS S cS loS tpS b a len cap zs w (w.alloc (.cells #[.int .i64 p, .slice aS S.length cS] 26))) := DrF.start hs hS tS hd _
  clear hs hS
  go_enter Try.func158, Try.ntmps158
  go_upto_region 1 with fail
  obtain ⟨wa, hwa⟩ : ∃ z, z = w.alloc (.cells #[.int .i64 p, .slice aS S.length cS] 26) := ⟨_, rfl⟩
  rw [← hwa] at D0 ⊢
  clear hwa
  have c0 := D0.out.c0
  have c1 := D0.out.c1
  have hRa := D0.out.lt
  cases hI : isSp p S with
  | false =>
    have HI := Lib.hid hI
    go_wp2_with (go_at_call 92; (with_reducible refine (l03Is_any p aS S cS loS tpS wa D0.out.row (Nat.le_trans tS (Nat.le_of_lt D0.out.lt)) sS).mono ?_); rintro e w1 ⟨rfl, bel1⟩; have D1 := Lib.hid (D0.out.below bel1); rw [HI.out]; clear bel1)
    go_ret
    exact ⟨some ⟨w1.heap.size, 0, none⟩, 2, [1, 0], rfl, by decide, (row_new2 w1 1 0 _).mono (Nat.le_of_lt D1.out.lt) (Nat.le_refl _), D1.out.on.alloc _, D1.out.src.alloc _⟩
  | true =>
    have HI := Lib.hid hI
    go_upto_region 3 with (go_at_call 92; (with_reducible refine (l03Is_any p aS S cS loS tpS wa D0.out.row (Nat.le_trans tS (Nat.le_of_lt D0.out.lt)) sS).mono ?_); rintro e w1 ⟨rfl, bel1⟩; have D1 := Lib.hid (D0.out.below bel1); rw [HI.out]; clear bel1)
    clear c0 c1
    have h6 : S.length ≤ 6 := (isSp_iff.1 HI.out).hi
    have hbl := bl_le h6
    have hb0 := bl_pos S
    have c0 := D1.out.c0
    have c1 := D1.out.c1
    have hR1 := D1.out.lt
    have hb1 : b < w1.heap.size := by omega
    go_upto_region 5 with (first
      | (go_at_call 200; (with_reducible refine (drawM_any p aS S cS loS tpS b a len cap zs w1 D1.out.src HI.out D1.out.row (Nat.le_trans tS (Nat.le_of_lt D1.out.lt)) hd).mono ?_); rintro e w2 ⟨r, c, X, rfl, hXl, own2, cap2, on2, s2⟩; have D2 := Lib.hid (D1.out.only on2 s2); have HL := Lib.hid hXl; have HO2 := Lib.hid own2; have HC2 := Lib.hid cap2; clear own2 cap2 on2 s2 hXl)
      | (go_at_call 167; (with_reducible refine (next_any 30 b a len cap zs w2 D2.out.src).mono ?_); rintro e w3 ⟨x, rfl, hx, on3, s3⟩; have D3 := Lib.hid (D2.out.only on3 s3); have HO3 := Lib.hid ((ownR_only HO2.out on3 (.inl hb1) (Nat.le_refl _)).mono' (Nat.le_refl _) on3.size); have HC3 : Hid (c = X.length ∨ OutR w1.heap.size w3 (.slice r X.length c) X) := HC2.out.imp id (fun h => h.only on3 hb1); clear on3 s3 hx))
    clear c0 c1
    have hX0 : 0 < X.length := by rw [HL.out]; exact hb0
    have hX6 : X.length ≤ 64 := by rw [HL.out]; exact hbl
    obtain ⟨q, o, hr, hq0, hq1, hro⟩ := RowOwn.of HO3.out hX0
    subst hr
    have HRO := Lib.hid hro
    clear hro
    by_cases h0 : x = 0
    · subst h0
      rcases HC3.out with hc | hc
      · subst hc
        have HRA := Lib.hid (rowOwn_stay HRO.out (heap_other w3 (.cells #[.int .i64 0] 2) hq1))
        go_wp2_with (at_builtin; refine wpList_append_grows _ rfl _ _ 24 rfl 2 i0 (.int .i64 0) 1 8 Try.underlying24 hi hz0 hz1 hz2 rfl (by decide) (some ⟨q, o, none⟩) X.length X.length (X.map (Value.int .i64)) rfl (by intro h; cases h) (by simp) (olds_cells HRA.out) ⟨w3.heap.size, 0, none⟩ 1 1 [.int .i64 0] rfl rfl (World.news_of_block (cs := #[.int .i64 0]) (t := 2) (fr := (0, 0)) (heap_alloc_new w3 _)) (by simp [Value.oneCell']) (by omega) (by unfold maxLen; omega) (by omega) ?_; intro v9 w9 hown hgrow)
        obtain ⟨r9, c9, e9, t9⟩ := (OutR.push hown).tag
        subst e9
        go_ret
        exact ⟨r9, c9, X ++ [0], by simp, by show (X ++ [0]).length ≤ 65; rw [List.length_append]; simp; omega, t9.row.mono (by have := D3.out.lt; simp; omega) (Nat.le_refl _), (D3.out.on.alloc _).grown hgrow (by intro k h; cases h), (D3.out.src.alloc _).grown hgrow (by intro k h; cases h)⟩
      · have H6 : Hid (w3.ownsRow w1.heap.size 2 1 (.slice (some ⟨q, o, none⟩) X.length c) X.length (X.map (Value.int .i64))) := hc
        go_wp2_with ((at_builtin; refine wpList_append_lies _ rfl _ _ 24 rfl w1.heap.size 2 i0 (.int .i64 0) 1 8 Try.underlying24 hi hz0 hz1 hz2 rfl (by decide) (.slice (some ⟨q, o, none⟩) X.length c) X.length (X.map (Value.int .i64)) rfl (H6.out.alloc _) ⟨w3.heap.size, 0, none⟩ 1 1 [.int .i64 0] rfl rfl (World.news_of_block (cs := #[.int .i64 0]) (t := 2) (fr := (0, 0)) (heap_alloc_new w3 _)) (by simp [Value.oneCell']) (by omega) (by unfold maxLen; omega) (by omega) (by simp; omega) (w3.heap.size + 1) (by simp) ?_; intro gg cap w1 hown1 hgrow hat hlt1))
        go_ret
        exact ⟨some ⟨gg, 0, none⟩, cap, X ++ [0], by simp, by show (X ++ [0]).length ≤ 65; rw [List.length_append]; simp; omega, by
          obtain ⟨r9, c9, e9, t9⟩ := (OutR.push hown1).tag
          injection e9 with e91 e92 e93
          rw [e91]
          exact t9.row.mono (Nat.le_of_lt hR1) (Nat.le_refl _), (D3.out.on.alloc _).grown hgrow (fun k e => by have := (H6.out.lt _ e).1; omega), (D3.out.src.alloc _).grown hgrow (fun k e => by have := (H6.out.lt _ e).1; omega)⟩
    have e0 : (x == 0) = false := by simpa using h0
    by_cases h1 : x = 1
    · subst h1
      have DA : Hid (DrF p aS S cS loS tpS b a len cap zs w w3.drew) := D3.out.below (below_drew w3)
      have DB : Hid (DrF p aS S cS loS tpS b a len cap zs w (w3.alloc (.cells #[.int .i64 (-1), .int .i64 p] 2)).drew) := (D3.out.below (below_alloc w3 (.cells #[.int .i64 (-1), .int .i64 p] 2))).below (below_drew _)
      have RA : Hid (RowOwn w3.drew q o X.length (fun j => X.getD j 0)) := HRO.out.drew
      have RB : Hid (RowOwn (w3.alloc (.cells #[.int .i64 (-1), .int .i64 p] 2)).drew q o X.length (fun j => X.getD j 0)) := rowOwn_stay (rowOwn_stay HRO.out (heap_other w3 (.cells #[.int .i64 (-1), .int .i64 p] 2) hq1)) rfl
      have PB : Hid (RowAt (w3.alloc (.cells #[.int .i64 (-1), .int .i64 p] 2)).drew w3.heap.size [-1, p]) := rowOf w3 [-1, p] _
      have hqA : q < w3.drew.heap.size := hq1
      have hqB : q < (w3.alloc (.cells #[.int .i64 (-1), .int .i64 p] 2)).drew.heap.size := Nat.lt_of_lt_of_le hq1 (size_alloc w3 (.cells #[.int .i64 (-1), .int .i64 p] 2))
      have hcB : w3.heap.size < (w3.alloc (.cells #[.int .i64 (-1), .int .i64 p] 2)).drew.heap.size := lt_alloc w3 (.cells #[.int .i64 (-1), .int .i64 p] 2)
      have hqb : q ≠ b := by omega
      have hqR : w.heap.size < q := by omega
      have h3b : w3.heap.size ≠ b := by omega
      go_upto_region 8 with fail
      go_region_held3 (fun w' => w'.cell? ⟨w.heap.size, 0, none⟩ = some (.int .i64 p) ∧ w'.cell? ⟨w.heap.size, 1, none⟩ = some (.slice aS S.length cS)) (first | exact DA.out.ss | exact DB.out.ss | exact D9.out.ss | exact (D9.out.below (below_alloc _ _)).ss | exact D10.out.ss | exact (D10.out.below (below_alloc _ _)).ss | exact D11.out.ss | exact s12.out | go_keep) (first
        | (go_at_call 163; (with_reducible refine (l04Size_any p aS S cS w3.drew h6).mono ?_); rintro e w9 ⟨rfl, bel9⟩; have D9 := Lib.hid (DA.out.below bel9); have R9 := Lib.hid (rowOwn_stay RA.out (bel9.block q hqA)); have hq9 := Nat.lt_of_lt_of_le hqA bel9.size; have zc9 := bel9.size; clear bel9)
        | (go_at_call 163; (with_reducible refine (l04Size_any p aS S cS (w3.alloc (.cells #[.int .i64 (-1), .int .i64 p] 2)).drew h6).mono ?_); rintro e w9 ⟨rfl, bel9⟩; have D9 := Lib.hid (DB.out.below bel9); have R9 := Lib.hid (rowOwn_stay RB.out (bel9.block q hqB)); have hq9 := Nat.lt_of_lt_of_le hqB bel9.size; have zc9 := bel9.size; have P9 : Hid (RowAt w9 w3.heap.size [-1, p]) := (fun j hj => (bel9.cell (p := ⟨w3.heap.size, j, none⟩) hcB).trans (PB.out j hj)); have hc9 := Nat.lt_of_lt_of_le hcB bel9.size; clear bel9)
        | (go_at_call 167; (with_reducible refine (next_any (bl S) b a len cap zs w9 D9.out.src).mono ?_); rintro e w10 ⟨y, rfl, hy, on10, z10⟩; have P10 : Hid (RowAt w10 w3.heap.size [-1, p]) := (fun j hj => (on10.cell (p := ⟨w3.heap.size, j, none⟩) hc9 h3b).trans (P9.out j hj)); have hc10 := Nat.lt_of_lt_of_le hc9 on10.size; obtain ⟨hy0, hy1⟩ := hy (by omega); obtain ⟨j, rfl⟩ := Int.eq_ofNat_of_zero_le hy0; have hj : j < X.length := (by rw [HL.out]; omega); have HJ := Lib.hid hj; have hjI : (j : Int) < (X.length : Int) := (by omega); have D10 := Lib.hid (D9.out.only on10 z10); have R10 := Lib.hid (rowOwn_stay R9.out (on10.block q hq9 hqb)); have hq10 := Nat.lt_of_lt_of_le hq9 on10.size; have zc10 := on10.size; clear on10 z10 hy)
        | (go_at_call 167; (with_reducible refine (next_any (bl S) b a len cap zs w9 D9.out.src).mono ?_); rintro e w10 ⟨y, rfl, hy, on10, z10⟩; obtain ⟨hy0, hy1⟩ := hy (by omega); obtain ⟨j, rfl⟩ := Int.eq_ofNat_of_zero_le hy0; have hj : j < X.length := (by rw [HL.out]; omega); have HJ := Lib.hid hj; have hjI : (j : Int) < (X.length : Int) := (by omega); have D10 := Lib.hid (D9.out.only on10 z10); have R10 := Lib.hid (rowOwn_stay R9.out (on10.block q hq9 hqb)); have hq10 := Nat.lt_of_lt_of_le hq9 on10.size; have zc10 := on10.size; clear on10 z10 hy)
        | (go_at_call 167; (with_reducible refine (next_any (bl S) b a len cap zs (w9.alloc (.cells #[.int .i64 (-1), .int .i64 p] 2)) (D9.out.src.alloc _)).mono ?_); rintro e w10 ⟨y, rfl, hy, on10, z10⟩; have hc9 := lt_alloc w9 (.cells #[.int .i64 (-1), .int .i64 p] 2); have h9b : w9.heap.size ≠ b := (by omega); have P10 : Hid (RowAt w10 w9.heap.size [-1, p]) := (fun j hj => (on10.cell (p := ⟨w9.heap.size, j, none⟩) hc9 h9b).trans (rowOf w9 [-1, p] _ j hj)); have hc10 := Nat.lt_of_lt_of_le hc9 on10.size; obtain ⟨hy0, hy1⟩ := hy (by omega); obtain ⟨j, rfl⟩ := Int.eq_ofNat_of_zero_le hy0; have hj : j < X.length := (by rw [HL.out]; omega); have HJ := Lib.hid hj; have hjI : (j : Int) < (X.length : Int) := (by omega); have D10 := Lib.hid ((D9.out.below (below_alloc w9 (.cells #[.int .i64 (-1), .int .i64 p] 2))).only on10 z10); have R10 := Lib.hid (rowOwn_stay (rowOwn_stay R9.out (heap_other w9 (.cells #[.int .i64 (-1), .int .i64 p] 2) hq9)) (on10.block q (Nat.lt_of_lt_of_le hq9 (size_alloc w9 (.cells #[.int .i64 (-1), .int .i64 p] 2))) hqb)); have hq10 := Nat.lt_of_lt_of_le (Nat.lt_of_lt_of_le hq9 (size_alloc w9 (.cells #[.int .i64 (-1), .int .i64 p] 2))) on10.size; have zc10 := on10.size; clear on10 z10 hy)
        | (go_at_call 168; refine (pick_any w3.heap.size 2 [-1, p] b a len cap zs w10 D10.out.src P10.out rfl (by omega) (by omega) hc10 h3b).mono ?_; rintro e w11 ⟨z, rfl, _, on11, z11⟩; have D11 := Lib.hid (D10.out.only on11 z11); have R11 := Lib.hid (rowOwn_stay R10.out (on11.block q hq10 hqb)); have hq11 := Nat.lt_of_lt_of_le hq10 on11.size; have D12 := Lib.hid (D11.out.put (k := q) hqR (o + j) (.int .i64 z)); have s12 := Lib.hid D12.out.ss; have cy := R11.out.cell j HJ.out; have fy := R11.out.free j HJ.out; clear on11 z11)
        | (go_at_call 168; refine (pick_any w9.heap.size 2 [-1, p] b a len cap zs w10 D10.out.src P10.out rfl (by omega) (by omega) hc10 h9b).mono ?_; rintro e w11 ⟨z, rfl, _, on11, z11⟩; have D11 := Lib.hid (D10.out.only on11 z11); have R11 := Lib.hid (rowOwn_stay R10.out (on11.block q hq10 hqb)); have hq11 := Nat.lt_of_lt_of_le hq10 on11.size; have D12 := Lib.hid (D11.out.put (k := q) hqR (o + j) (.int .i64 z)); have s12 := Lib.hid D12.out.ss; have cy := R11.out.cell j HJ.out; have fy := R11.out.free j HJ.out; clear on11 z11)
        | (go_at_call 168; refine (pick_any w10.heap.size 2 [-1, p] b a len cap zs (w10.alloc (.cells #[.int .i64 (-1), .int .i64 p] 2)) (D10.out.src.alloc _) (rowOf w10 [-1, p] _) rfl (by omega) (by omega) (lt_alloc w10 (.cells #[.int .i64 (-1), .int .i64 p] 2)) (by omega)).mono ?_; rintro e w11 ⟨z, rfl, _, on11, z11⟩; have D11 := Lib.hid ((D10.out.below (below_alloc w10 (.cells #[.int .i64 (-1), .int .i64 p] 2))).only on11 z11); have R11 := Lib.hid (rowOwn_stay (rowOwn_stay R10.out (heap_other w10 (.cells #[.int .i64 (-1), .int .i64 p] 2) hq10)) (on11.block q (Nat.lt_of_lt_of_le hq10 (size_alloc w10 (.cells #[.int .i64 (-1), .int .i64 p] 2))) hqb)); have hq11 := Nat.lt_of_lt_of_le (Nat.lt_of_lt_of_le hq10 (size_alloc w10 (.cells #[.int .i64 (-1), .int .i64 p] 2))) on11.size; have D12 := Lib.hid (D11.out.put (k := q) hqR (o + j) (.int .i64 z)); have s12 := Lib.hid D12.out.ss; have cy := R11.out.cell j HJ.out; have fy := R11.out.free j HJ.out; clear on11 z11))
      all_goals
        go_wp2
        go_ret
        exact ⟨some ⟨q, o, none⟩, c, mkR X.length (fun i => if i = j then z else X.getD i 0), by simp only [mkR_len]; rfl, by show (mkR X.length _).length ≤ 65; rw [mkR_len]; omega, ((rowOwn_put R11.out HJ.out z).own (by omega) (by simp [World.setCell]; omega)).row, D12.out.on, D12.out.src⟩
    have e1 : (x == 1) = false := by simpa using h1
    go_wp2
    go_ret
    exact ⟨some ⟨q, o, none⟩, c, X, rfl, by omega, HO3.out.row.mono (Nat.le_of_lt hR1) (Nat.le_refl _), D3.out.on, D3.out.src⟩

end Go.Proofs.Ytcamegdjdjacpaa

namespace Go.Proofs.Ytcamegdjdjacpaa
open Go.RowKit
set_option linter.unusedVariables false

/-- A space, or what is none, and two lists, in new memory. -/
def DrawnQ (w : World) (e : Ending) (w' : World) : Prop :=
  ∃ p r X c r1 Y c1 r2 Z c2, e = .returned (.tuple #[.agg #[.int .i64 p, .slice r X.length c], .slice r1 Y.length c1, .slice r2 Z.length c2]) ∧ X.length ≤ 7 ∧ Y.length ≤ 65 ∧ Z.length ≤ 65 ∧ RowIn w.heap.size w'.heap.size w' r X ∧ RowIn w.heap.size w'.heap.size w' r1 Y ∧ RowIn w.heap.size w'.heap.size w' r2 Z ∧ Below w.heap.size w w'

set_option maxRecDepth 100000 in
set_option maxHeartbeats 3200000 in
theorem two_any (a : Option Addr) (len cap : Nat) (zs : List Int) (w : World) (hb : Code8 w a len zs) (hl : len ≤ 4096) :
    Calls Try.prog 80 #[.slice a len cap] w (DrawnQ w) := by
  have HB := Lib.hid hb
  clear hb
  go_enter Try.func80, Try.ntmps80
  go_upto_region 1 with fail
  obtain ⟨wa, hwa⟩ : ∃ z, z = w.alloc (.cells #[.int .i64 0, .slice none 0 0] 26) := ⟨_, rfl⟩
  have HR1 : Hid (L2 wa w.heap.size (.int .i64 0) (.slice none 0 0)) := by show L2 _ _ _ _; rw [hwa]; exact L2.new _ _ _ _
  have HC1 : Hid (Code8 wa a len zs) := by show Code8 _ _ _ _; rw [hwa]; exact HB.out.below (below_alloc w _)
  have HB1 : Hid (Below w.heap.size w wa) := by show Below _ _ _; rw [hwa]; exact below_alloc w _
  have hRa : w.heap.size < wa.heap.size := by rw [hwa]; simp
  rw [← hwa]
  clear hwa
  go_upto_region 3 with (first
    | (go_at_call 89; (with_reducible refine (from_any a len cap zs wa HC1.out hl).mono ?_); rintro e w1 ⟨rfl, b1, s1⟩; have HS1 := Lib.hid s1; have HB2 := Lib.hid (below_step HB1.out (Nat.le_of_lt hRa) b1); have HR2 := Lib.hid (HR1.out.below b1 hRa); have hR1 := Nat.lt_of_lt_of_le hRa b1.size; clear b1 s1)
    | (go_at_call 90; (with_reducible refine (spoil_space wa.heap.size a len cap zs w1 HS1.out).mono ?_); rintro e w2 ⟨p, r, X, c, rfl, hX, o2, on2, s2⟩; have HX := Lib.hid hX; have HS2 := Lib.hid s2; have HX2 := Lib.hid o2; have HB3 := Lib.hid (HB2.out.trans (on2.below (Nat.le_of_lt hRa) (Nat.le_of_lt hR1))); have HR3 := Lib.hid (HR2.out.only on2 hR1 (Nat.ne_of_lt hRa)); have hR2 := Nat.lt_of_lt_of_le hR1 on2.size; have hb1 := HS1.out.lt; have zy2 := on2.size; clear on2 s2 o2 hX))
  obtain ⟨wg, hwg⟩ : ∃ z, z = w2.alloc (.cells #[.int .i64 p, .slice r X.length c] 26) := ⟨_, rfl⟩
  obtain ⟨g, hg⟩ : ∃ z, z = w2.heap.size := ⟨_, rfl⟩
  obtain ⟨b, hbb⟩ : ∃ z, z = wa.heap.size := ⟨_, rfl⟩
  have HG : Hid (L2 wg g (.int .i64 p) (.slice r X.length c)) := by show L2 _ _ _ _; rw [hwg, hg]; exact L2.new _ _ _ _
  have HR4 : Hid (L2 wg w.heap.size (.int .i64 0) (.slice none 0 0)) := by show L2 _ _ _ _; rw [hwg]; exact HR3.out.alloc _ hR2
  have HS4 : Hid (Src wg b a len cap zs) := by show Src _ _ _ _ _ _; rw [hwg, hbb]; exact HS2.out.alloc _
  have HB4 : Hid (Below w.heap.size w wg) := by show Below _ _ _; rw [hwg]; exact HB3.out.alloc (Nat.le_of_lt hR2) _
  have HX4 : Hid (RowIn w1.heap.size g wg r X) := by show RowIn _ _ _ _ _; rw [hwg, hg]; exact HX2.out.below (below_alloc w2 _) (Nat.le_refl _)
  have hgg : g < wg.heap.size := by rw [hwg, hg]; simp
  have hbg : b < g := by rw [hbb, hg]; omega
  have hRb : w.heap.size < b := by rw [hbb]; exact hRa
  have hb1' : b < w1.heap.size := by rw [hbb]; exact hb1
  have h1g : w1.heap.size ≤ g := by rw [hg]; exact zy2
  have hXs : Hid (X.length ≤ 1048576) := by show _ ≤ _; have := HX.out; omega
  rw [← hwg, ← hg, ← hbb]
  clear hwg hg hbb HR3 HS2 HB3 HX2 hb1 zy2 HR1 HR2 HC1 HB1 HB2 HS1 hRa hR1 hR2
  have hs1 : Hid (wg.drew.cell? ⟨g, 0, none⟩ = some (.int .i64 p) ∧ wg.drew.cell? ⟨g, 1, none⟩ = some (.slice r X.length c)) := ⟨HG.out.1, HG.out.2.1⟩
  have HSD : Hid (Src wg.drew b a len cap zs) := HS4.out.step (below_drew wg)
  have HGD : Hid (L2 wg.drew g (.int .i64 p) (.slice r X.length c)) := HG.out.below (below_drew wg) hgg
  have HRD : Hid (L2 wg.drew w.heap.size (.int .i64 0) (.slice none 0 0)) := HR4.out.below (below_drew wg) (by omega)
  have HBD : Hid (Below w.heap.size w wg.drew) := HB4.out.drew
  have hgd : g < wg.drew.heap.size := hgg
  have HXD : Hid (RowIn w1.heap.size g wg.drew r X) := HX4.out.below (below_drew wg) (Nat.le_of_lt hgg)
  have hRd : w.heap.size < wg.drew.heap.size := by omega
  go_region_held3 (fun w' => w'.cell? ⟨g, 0, none⟩ = some (.int .i64 p) ∧ w'.cell? ⟨g, 1, none⟩ = some (.slice r X.length c)) (first | exact hs1.out | exact SS5.out | exact SS6.out | exact SS7.out | go_keep) (first
    | (go_at_call 158; (with_reducible refine (spoilM_any p r X c w1.heap.size g b a len cap zs wg.drew HSD.out hXs.out HXD.out (Nat.le_of_lt hgd) (.inl hb1')).mono ?_); rintro e w5 ⟨r1, c1, Y, rfl, hY, o5, on5, s5⟩; have HY := Lib.hid hY; have HS5 := Lib.hid s5; have HG5 := Lib.hid (HGD.out.only on5 hgd (Nat.ne_of_gt hbg)); have HR5 := Lib.hid (HRD.out.only on5 hRd (Nat.ne_of_lt hRb)); have HB5 := Lib.hid (HBD.out.trans (on5.below (Nat.le_of_lt hRb) (Nat.le_of_lt hRd))); have HX5 := Lib.hid (HXD.out.only on5 (.inl hb1') (Nat.le_of_lt hgd)); have HY5 := Lib.hid o5; have zy5 := on5.size; have SS5 := Lib.hid (And.intro HG5.out.1 HG5.out.2.1); have hg5 := Nat.lt_of_lt_of_le hgd zy5; have hR5 := Nat.lt_of_lt_of_le hRd zy5; clear o5 on5 s5 hY)
    | (go_at_call 158; (with_reducible refine (spoilM_any p r X c w1.heap.size g b a len cap zs w5 HS5.out hXs.out HX5.out (Nat.le_of_lt hg5) (.inl hb1')).mono ?_); rintro e w6 ⟨r2, c2, Z, rfl, hZ, o6, on6, s6⟩; have HZ := Lib.hid hZ; have HG6 := Lib.hid (HG5.out.only on6 hg5 (Nat.ne_of_gt hbg)); have HR6 := Lib.hid (HR5.out.only on6 hR5 (Nat.ne_of_lt hRb)); have HB6 := Lib.hid (HB5.out.trans (on6.below (Nat.le_of_lt hRb) (Nat.le_of_lt hR5))); have HX6 := Lib.hid (HX5.out.only on6 (.inl hb1') (Nat.le_of_lt hg5)); have HY6 := Lib.hid (HY5.out.only on6 (.inl (Nat.lt_trans hbg hgd)) (Nat.le_refl _)); have HZ6 := Lib.hid o6; have zy6 := on6.size; have SS6 := Lib.hid (And.intro HG6.out.1 HG6.out.2.1); have r0 := HR6.out.1; have r1' := HR6.out.2.1; have r2' := HR6.out.2.2.1; have r3 := HR6.out.2.2.2; have HGF := Lib.hid ((HG6.out.far (k := w.heap.size) (i := 0) (.int .i64 p) (Nat.ne_of_gt (Nat.lt_trans hRb hbg))).far (k := w.heap.size) (i := 1) (.slice r X.length c) (Nat.ne_of_gt (Nat.lt_trans hRb hbg))); have SS7 := Lib.hid (And.intro HGF.out.1 HGF.out.2.1); have hg6 := Nat.lt_of_lt_of_le hg5 zy6; clear o6 on6 s6 hZ))
  all_goals
    go_wp2
    refine bodyPost_ret (v := .tuple #[.agg #[.int .i64 p, .slice r X.length c], .slice r1 Y.length c1, .slice r2 Z.length c2]) (by simp [results, Try.results80, go_sem, r0, r1']) rfl ⟨p, r, X, c, r1, Y, c1, r2, Z, c2, rfl, HX.out, HY.out, HZ.out, ?_, ?_, ?_, (HB6.out.setCell (Nat.le_refl _) _).setCell (Nat.le_refl _) _⟩
    · exact ((HX6.out.far _ (.inl (by omega))).far _ (.inl (by omega))).mono (by omega) (by simp [World.setCell]; omega)
    · exact ((HY6.out.far _ (.inl (by omega))).far _ (.inl (by omega))).mono (by omega) (by simp [World.setCell]; omega)
    · exact ((HZ6.out.far _ (.inl (by omega))).far _ (.inl (by omega))).mono (by omega) (by simp [World.setCell])

end Go.Proofs.Ytcamegdjdjacpaa
