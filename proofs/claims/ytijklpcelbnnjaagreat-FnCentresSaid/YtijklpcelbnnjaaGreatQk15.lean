/-
  PowerOf: contracts of the program and of the model.
  Conditions: the lists are nil or rows of known cells, of at most 1048576 numbers.
  Draws of multivectors: contracts.
  Conditions: the source stands in a block of known cells; the space is one.
  Draws of multivectors of a space: contract.
  Conditions: the source stands in a block of known cells, apart from the space's.
-/
import Derived.Test.YtijklpcelbnnjaaGreatQk14
import Derived.Test.YtijklpcelbnnjaaGreatQk7
import Derived.Deep.RegionHeld3
import Derived.Deep.DeepCutAuto
import Derived.Test.YtijklpcelbnnjaaGreatQk10
import Derived.Test.YtijklpcelbnnjaaGreatQk9
import Derived.Test.YtijklpcelbnnjaaGreatQk13
import Derived.Test.YtijklpcelbnnjaaGreatQk6
namespace Go.Proofs.YtijklpcelbnnjaaGreat
open Go.RowKit
set_option linter.unusedVariables false

def mOne (S : List Int) : List Int := mkR (bl S) oneF
theorem isMv_of {p : Int} {S z : List Int} (hl : z.length = bl S) (hn : ∀ j, j < z.length → 0 ≤ z.getD j 0 ∧ z.getD j 0 < p) : isMv p S z = true := by
  unfold isMv isVec
  rw [hl, Bool.and_eq_true]
  refine ⟨by simp, ?_⟩
  rw [List.all_eq_true]
  intro y hy
  obtain ⟨j, hj, rfl⟩ := List.getElem_of_mem hy
  have h := hn j hj
  rw [getD_at hj] at h
  exact inr_iff.2 h
theorem one_mv {p : Int} {S : List Int} (hs : isSp p S = true) : isMv p S (mOne S) = true :=
  isMv_of (mkR_len _ _) (fun j hj => by
    have hp := prm_bd (isSp_iff.1 hs).prime
    unfold mOne at hj ⊢
    rw [mkR_len] at hj
    rw [mkR_at _ hj]
    unfold oneF
    split <;> omega)
set_option maxHeartbeats 800000 in
theorem l04One_any (p : Int) (a : Option Addr) (S : List Int) (c : Nat) (w : World) (h : S.length ≤ 6) :
    Calls Tryz.prog 101 #[.agg #[.int .i64 p, .slice a S.length c]] w (OwnE (mOne S) w) := by
  have hb0 := bl_pos S
  go_enter Tryz.func101, Tryz.ntmps101
  go_wp2_with (go_at_call 23; (with_reducible refine (l04Zero_any p a S c _ h).mono ?_); rintro e w1 ⟨b1, rfl, hl1, hu1, ho1, hb1⟩; have HO1 := Lib.hid ho1; have HB1 := Lib.hid (below_step (below_alloc w _) (by simp) hb1); have hz1 := hb1.size; have c0 := ho1.cell 0 hb0; have f0 := ho1.free 0 hb0; rw [Nat.zero_add] at c0 f0; clear hb1 ho1)
  have hwb : w.heap.size ≤ b1 := by simp at hl1; omega
  go_ret
  exact ⟨_, bl S, by unfold mOne; rw [mkR_len]; rfl, (row_put0 (g := oneF) (v := 1) HO1.out hb0 (fun j _ => by unfold oneF; rfl)).own hwb (by simp [World.setCell]; exact hu1), HB1.out.trans ((wrote_put0 (Wrote.refl b1 0 (bl S) w1) hb0 _).belowB hwb)⟩
end Go.Proofs.YtijklpcelbnnjaaGreat

namespace Go.Proofs.YtijklpcelbnnjaaGreat
open Go.RowKit
set_option linter.unusedVariables false

set_option maxHeartbeats 1600000 in
theorem listN_any (p : Int) (n : Nat) (b : Nat) (a : Option Addr) (len cap : Nat) (zs : List Int) (w : World) (hs : Src w b a len cap zs) (hn : n ≤ 1048576) (hp : 1 ≤ p) :
    Calls Tryz.prog 69 #[.pointer (some ⟨b, 0, none⟩), .int .i64 p, .int .i64 n] w (DrawnO (fun X => X.length = n ∧ ∀ j, j < X.length → 0 ≤ X.getD j 0 ∧ X.getD j 0 < p) b a len cap zs w) := by
  obtain ⟨i0, hi, hz0, hz1, hz2⟩ := info_parts info64
  have hlt := hs.lt
  have HS := Lib.hid hs
  clear hs
  go_enter Tryz.func69, Tryz.ntmps69
  go_wp2
  go_loopw [7, 2] (fun v t wr => ∃ (X : List Int), X.length ≤ n ∧ (∀ j, j < X.length → 0 ≤ X.getD j 0 ∧ X.getD j 0 < p) ∧ t = .int .i64 ((n : Int) - X.length) ∧ OutR w.heap.size wr v X ∧ Src wr b a len cap zs ∧ Only b w wr) (fun _ t _ => (intOf t).toNat)
  case atStart => exact ⟨[], Nat.zero_le _, fun j hj => by simp at hj, by simp, OutR.start w _ _ (Nat.le_refl _) rfl, HS.out.alloc _, (Only.refl b w).alloc _⟩
  case round =>
    obtain ⟨X, hX, hXn, rfl, ho, hsr, hon⟩ := hrel
    have HXN := Lib.hid hXn
    clear hXn
    have HO := Lib.hid ho
    have HSR := Lib.hid hsr
    have HON := Lib.hid hon
    have hwz := hon.size
    clear ho hsr hon
    by_cases hlx : X.length < n
    · have hp0 : (0 : Int) < (n : Int) - X.length := by omega
      obtain ⟨j, hj⟩ : ∃ j, j = X.length := ⟨_, rfl⟩
      obtain ⟨Y, hY⟩ : ∃ Y, Y = X.map (Value.int .i64) := ⟨_, rfl⟩
      have HJ := Lib.hid hj
      have HY := Lib.hid hY
      rw [← hj] at hp0 hlx ⊢
      clear hj hY
      go_wp2_with (first | (go_at_call 37; (with_reducible refine (next_any p b a len cap zs _ HSR.out).mono ?_); rintro e w3 ⟨x, rfl, hx, ho3, hs3⟩; have HXX := Lib.hid (hx hp); have hz3 := ho3.size; have H3 : Hid (w3.ownsRow w.heap.size 2 1 u7 j Y) := (by have h := HO.out.only ho3 hlt; unfold OutR at h; rw [← HY.out, ← HJ.out] at h; exact h); have HS3 := Lib.hid hs3; have HO3 := Lib.hid (HON.out.trans ho3); clear ho3 hs3 hx) | (at_builtin; refine wpList_append_lies _ rfl _ _ 24 rfl w.heap.size 2 i0 (.int .i64 0) 1 8 Tryz.underlying24 hi hz0 hz1 hz2 rfl (by decide) u7 j Y rfl (H3.out.alloc _) ⟨w3.heap.size, 0, none⟩ 1 1 [.int .i64 x] rfl rfl (World.news_of_block (cs := #[.int .i64 x]) (t := 2) (fr := (0, 0)) (heap_alloc_new w3 _)) (by simp [Value.oneCell']) (by omega) (by unfold maxLen; omega) (by omega) (by simp; omega) (w3.heap.size + 1) (by simp) ?_; intro gg cap w1 hown1 hgrow hat hlt1))
      go_roundw
      case rel => exact ⟨X ++ [x], by rw [List.length_append, ← HJ.out]; exact hlx, nums_push HXN.out HXX.out, by rw [List.length_append, ← HJ.out]; go_num, OutR.push (by rw [← HY.out, ← HJ.out]; exact hown1), (HS3.out.alloc _).grown hgrow (fun k e => by have := (H3.out.lt _ e).1; omega), (HO3.out.alloc _).grown hgrow (fun k e => (H3.out.lt _ e).1)⟩
      case measure => simp [intOf]; omega
    · have hp0 : ¬ (0 : Int) < (n : Int) - X.length := by omega
      go_wp2
      go_ret
      exact ⟨_, X, rfl, ⟨by omega, HXN.out⟩, HO.out, HON.out, HSR.out⟩

/-- A multivector that has been drawn: its own memory, full or growing on. -/
def DrawnM (n : Nat) (b : Nat) (a : Option Addr) (len cap : Nat) (zs : List Int) (w : World) (e : Ending) (w' : World) : Prop :=
  ∃ r c X, e = .returned (.slice r X.length c) ∧ X.length = n ∧ OwnR w.heap.size w'.heap.size w' r X ∧ (c = X.length ∨ OutR w.heap.size w' (.slice r X.length c) X) ∧ Only b w w' ∧ Src w' b a len cap zs
theorem lone_any (p : Int) (a : Option Addr) (S : List Int) (c : Nat) (w : World) (h : S.length ≤ 6) :
    Calls Tryz.prog 101 #[.agg #[.int .i64 p, .slice a S.length c]] w (NewRow (bl S) oneF w) := by
  have hb0 := bl_pos S
  go_enter Tryz.func101, Tryz.ntmps101
  go_wp2_with (go_at_call 23; (with_reducible refine (l04Zero_any p a S c _ h).mono ?_); rintro e w1 ⟨b1, rfl, hl1, hu1, ho1, hb1⟩; have HO1 := Lib.hid ho1; have HB1 := Lib.hid (below_step (below_alloc w _) (by simp) hb1); have hz1 := hb1.size; have c0 := ho1.cell 0 hb0; have f0 := ho1.free 0 hb0; rw [Nat.zero_add] at c0 f0; clear hb1 ho1)
  have hwb : w.heap.size ≤ b1 := by simp at hl1; omega
  go_ret
  exact ⟨b1, rfl, hwb, by simp [World.setCell]; exact hu1, row_put0 (g := oneF) (v := 1) HO1.out hb0 (fun j _ => by unfold oneF; rfl), HB1.out.trans ((wrote_put0 (Wrote.refl b1 0 (bl S) w1) hb0 _).belowB hwb)⟩
theorem vecN {p : Int} (hp : 0 < p) {n : Nat} {v : List Int} (hn : ∀ j, j < v.length → 0 ≤ v.getD j 0 ∧ v.getD j 0 < p) : ∀ j, j < (mkR n (vecF v v.length)).length → 0 ≤ (mkR n (vecF v v.length)).getD j 0 ∧ (mkR n (vecF v v.length)).getD j 0 < p := fun j hj => by
  rw [mkR_len] at hj
  rw [mkR_at _ hj]
  have key : ∀ k, k ≤ v.length → 0 ≤ vecF v k j ∧ vecF v k j < p := fun k => by
    induction k with
    | zero => intro _; show 0 ≤ (0 : Int) ∧ (0 : Int) < p; omega
    | succ k ih =>
      intro h
      show 0 ≤ (if j = 2 ^ k then v.getD k 0 else vecF v k j) ∧ (if j = 2 ^ k then v.getD k 0 else vecF v k j) < p
      split
      · exact hn k (by omega)
      · exact ih (by omega)
  exact key v.length (Nat.le_refl _)
end Go.Proofs.YtijklpcelbnnjaaGreat

namespace Go.Proofs.YtijklpcelbnnjaaGreat
open Go.RowKit
set_option linter.unusedVariables false

/-- What holds behind the boxing of the space, at every later world of a draw. -/
structure DrF (p : Int) (aS : Option Addr) (S : List Int) (cS loS tpS b : Nat) (a : Option Addr) (len cap : Nat) (zs : List Int) (w W : World) : Prop where
  c0 : W.cell? ⟨w.heap.size, 0, none⟩ = some (.int .i64 p)
  c1 : W.cell? ⟨w.heap.size, 1, none⟩ = some (.slice aS S.length cS)
  src : Src W b a len cap zs
  on : Only b w W
  row : RowIn loS tpS W aS S
  lt : w.heap.size < W.heap.size
  hb : b < w.heap.size
  ht : tpS ≤ w.heap.size
  hd : b < loS ∨ tpS ≤ b
theorem DrF.only {p : Int} {aS : Option Addr} {S : List Int} {cS loS tpS b : Nat} {a : Option Addr} {len cap : Nat} {zs : List Int} {w W W' : World} (h : DrF p aS S cS loS tpS b a len cap zs w W) (k : Only b W W') (s : Src W' b a len cap zs) : DrF p aS S cS loS tpS b a len cap zs w W' :=
  ⟨(k.cell (p := ⟨w.heap.size, 0, none⟩) h.lt (Nat.ne_of_gt h.hb)).trans h.c0, (k.cell (p := ⟨w.heap.size, 1, none⟩) h.lt (Nat.ne_of_gt h.hb)).trans h.c1, s, h.on.trans k, h.row.only k h.hd (Nat.le_trans h.ht (Nat.le_of_lt h.lt)), Nat.lt_of_lt_of_le h.lt k.size, h.hb, h.ht, h.hd⟩
theorem DrF.below {p : Int} {aS : Option Addr} {S : List Int} {cS loS tpS b : Nat} {a : Option Addr} {len cap : Nat} {zs : List Int} {w W W' : World} (h : DrF p aS S cS loS tpS b a len cap zs w W) (k : Below W.heap.size W W') : DrF p aS S cS loS tpS b a len cap zs w W' := h.only (Only.of_below k) (h.src.step k)
theorem DrF.start {p : Int} {aS : Option Addr} {S : List Int} {cS loS tpS b : Nat} {a : Option Addr} {len cap : Nat} {zs : List Int} {w : World} (hs : Src w b a len cap zs) (hS : RowIn loS tpS w aS S) (tS : tpS ≤ w.heap.size) (hd : b < loS ∨ tpS ≤ b) (t : TypeId) : DrF p aS S cS loS tpS b a len cap zs w (w.alloc (.cells #[.int .i64 p, .slice aS S.length cS] t)) :=
  ⟨by simp [go_sem], by simp [go_sem], hs.alloc _, (Only.refl b w).alloc _, hS.below (below_alloc w _) tS, by simp, hs.lt, tS, hd⟩
theorem DrF.put {p : Int} {aS : Option Addr} {S : List Int} {cS loS tpS b : Nat} {a : Option Addr} {len cap : Nat} {zs : List Int} {w W : World} (h : DrF p aS S cS loS tpS b a len cap zs w W) {k : Nat} (hk : w.heap.size < k) (i : Nat) (x : Value) : DrF p aS S cS loS tpS b a len cap zs w (W.setCell ⟨k, i, none⟩ x) :=
  ⟨((Only.set k i W x).cell (p := ⟨w.heap.size, 0, none⟩) h.lt (Nat.ne_of_lt hk)).trans h.c0, ((Only.set k i W x).cell (p := ⟨w.heap.size, 1, none⟩) h.lt (Nat.ne_of_lt hk)).trans h.c1, h.src.far (Only.set k i W x) (Nat.lt_trans h.hb hk), h.on.setCell (.inr (Nat.le_of_lt hk)) x, h.row.far x (.inr (Nat.le_trans h.ht (Nat.le_of_lt hk))), by have := h.lt; simp [World.setCell]; exact this, h.hb, h.ht, h.hd⟩
theorem DrF.ss {p : Int} {aS : Option Addr} {S : List Int} {cS loS tpS b : Nat} {a : Option Addr} {len cap : Nat} {zs : List Int} {w W : World} (h : DrF p aS S cS loS tpS b a len cap zs w W) : W.cell? ⟨w.heap.size, 0, none⟩ = some (.int .i64 p) ∧ W.cell? ⟨w.heap.size, 1, none⟩ = some (.slice aS S.length cS) := ⟨h.c0, h.c1⟩
theorem vecNN {p : Int} (hp : 0 < p) {n : Nat} {v : List Int} (hn : ∀ j, j < v.length → 0 ≤ v.getD j 0 ∧ v.getD j 0 < p) : Nums p (mkR n (vecF v v.length)) := vecN hp hn
theorem times_len (p : Int) (aS : Option Addr) (S : List Int) (cS loS tpS : Nat) (ax : Option Addr) (x : List Int) (cx lox tpx : Nat) (ay : Option Addr) (y : List Int) (cy loy tpy : Nat) (w : World) (hp : prm p = true) (h6 : S.length ≤ 6) (hS : RowIn loS tpS w aS S) (tS : tpS ≤ w.heap.size) (nS : Nums p S) (hx : RowIn lox tpx w ax x) (tx : tpx ≤ w.heap.size) (lx : x.length = bl S) (nx : Nums p x) (hy : RowIn loy tpy w ay y) (ty : tpy ≤ w.heap.size) (ly : y.length = bl S) (ny : Nums p y) :
    Calls Tryz.prog 48 #[.agg #[.int .i64 p, .slice aS S.length cS], .slice ax (bl S) cx, .slice ay (bl S) cy] w (NewRowT (bl S) (prodF p S x y) w) := by
  have h := l04Times_tag p aS S cS loS tpS ax x cx lox tpx ay y cy loy tpy w hp h6 hS tS nS hx tx lx nx hy ty ly ny
  rw [lx, ly] at h
  exact h

set_option maxRecDepth 100000 in
set_option maxHeartbeats 3200000 in
theorem drawM_any (p : Int) (aS : Option Addr) (S : List Int) (cS loS tpS b : Nat) (a : Option Addr) (len cap : Nat) (zs : List Int) (w : World) (hs : Src w b a len cap zs) (hsp : isSp p S = true) (hS : RowIn loS tpS w aS S) (tS : tpS ≤ w.heap.size) (hd : b < loS ∨ tpS ≤ b) :
    Calls Tryz.prog 96 #[.pointer (some ⟨b, 0, none⟩), .agg #[.int .i64 p, .slice aS S.length cS]] w (DrawnM (bl S) b a len cap zs w) := by
  have h6 : S.length ≤ 6 := (isSp_iff.1 hsp).hi
  have hpr := (isSp_iff.1 hsp).prime
  have hpb := prm_bd hpr
  have hp1 : 1 ≤ p := by omega
  have hp0 : 0 < p := by omega
  have hbl := bl_le h6
  have hb0 := bl_pos S
  have hlt := hs.lt
  have NS : Hid (Nums p S) := sp_nums hsp
  have PR := Lib.hid hpr
  have D0 : Hid (DrF p aS S cS loS tpS b a len cap zs w (w.alloc (.cells #[.int .i64 p, .slice aS S.length cS] 26))) := DrF.start hs hS tS hd _
  have ONE : Hid (Nums p (mkR (bl S) oneF)) := Mv.nums (one_mv hsp)
  clear hs hS hpb
  go_enter Tryz.func96, Tryz.ntmps96
  go_upto_region 1 with fail
  obtain ⟨wa, hwa⟩ : ∃ z, z = w.alloc (.cells #[.int .i64 p, .slice aS S.length cS] 26) := ⟨_, rfl⟩
  rw [← hwa] at D0 ⊢
  clear hwa
  have c0 := D0.out.c0
  have c1 := D0.out.c1
  have hRa := D0.out.lt
  go_upto_region 4 with (first
    | (go_at_call 23; (with_reducible refine (l04Zero_any p aS S cS wa h6).mono ?_); rintro e w1 ⟨b1, rfl, hl1, hu1, ho1, hb1⟩; have D1 := Lib.hid (D0.out.below hb1); have HO1 := Lib.hid ho1; clear hb1 ho1)
    | (go_at_call 37; (with_reducible refine (next_any 5 b a len cap zs w1 D1.out.src).mono ?_); rintro e w2 ⟨x, rfl, hx, on2, s2⟩; have HX5 := Lib.hid (hx (by omega)); have D2 := Lib.hid (D1.out.only on2 s2); have HO2 := Lib.hid (HO1.out.stay (on2.block b1 hu1 (by omega))); have hu2 := Nat.lt_of_lt_of_le hu1 on2.size; clear on2 s2 hx))
  clear c0 c1 D0 D1 HO1 hu1
  have hR1 : w.heap.size < b1 := by omega
  clear hl1
  have hRc := D2.out.lt
  have D3 : Hid (DrF p aS S cS loS tpS b a len cap zs w w2.drew) := D2.out.below (below_drew w2)
  have s3 := Lib.hid D3.out.ss
  have hR3 : w.heap.size < w2.drew.heap.size := hRc
  by_cases h0 : x = 0
  · subst h0
    go_upto_region 5 with fail
    go_region_held3 (fun w' => w'.cell? ⟨w.heap.size, 0, none⟩ = some (.int .i64 p) ∧ w'.cell? ⟨w.heap.size, 1, none⟩ = some (.slice aS S.length cS)) (first | exact s3.out | exact s4.out | exact s5.out | go_keep) (first
      | (go_at_call 69; (with_reducible refine (listN_any p S.length b a len cap zs w2.drew D3.out.src (by omega) hp1).mono ?_); rintro e w4 ⟨v, X, rfl, hX, o4, on4, z4⟩; obtain ⟨r, c, rfl, t4⟩ := o4.tag; have D4 := Lib.hid (D3.out.only on4 z4); have HT4 := Lib.hid t4; have HU4 := Lib.hid o4; have HL4 := Lib.hid hX.1; have HN4 := Lib.hid hX.2; have s4 := Lib.hid D4.out.ss; have zy4 := on4.size; clear t4 o4 hX on4 z4)
      | (go_at_call 68; (with_reducible refine (l04Vector_any p aS S cS r X c w2.drew.heap.size w4.heap.size w4 h6 HL4.out HT4.out.row (Nat.le_refl _)).mono ?_); rintro e w5 ⟨b5, rfl, hl5, hu5, ho5, bel5⟩; have D5 := Lib.hid (D4.out.below bel5); have HO5 := Lib.hid ho5; have s5 := Lib.hid D5.out.ss; have zy5 := bel5.size; clear ho5 bel5))
    all_goals
      go_wp2
      go_ret
      exact ⟨some ⟨b5, 0, none⟩, bl S, mkR (bl S) (vecF X X.length), by simp only [mkR_len]; rfl, mkR_len _ _, HO5.out.own (by omega) hu5, .inl (by rw [mkR_len]), D5.out.on, D5.out.src⟩
  have e0 : (x == 0) = false := by simpa using h0
  by_cases h1 : x = 1
  · subst h1
    have c0 := D2.out.c0
    have c1 := D2.out.c1
    go_upto_region 9 with (first
      | (go_at_call 101; (with_reducible refine (lone_any p aS S cS w2 h6).mono ?_); rintro e w6 ⟨b6, rfl, hl6, hu6, ho6, bel6⟩; have D6 := Lib.hid (D2.out.below bel6); have HO6 := Lib.hid (ho6.own (Nat.le_trans (Nat.le_of_lt hRc) hl6) hu6); clear ho6 bel6)
      | (go_at_call 37; (with_reducible refine (next_any 4 b a len cap zs w6 D6.out.src).mono ?_); rintro e w7 ⟨y, rfl, hy, on7, z7⟩; have HY7 := Lib.hid (hy (by omega)); have D7 := Lib.hid (D6.out.only on7 z7); have HO7 := Lib.hid ((ownR_only HO6.out on7 (.inl hlt) (Nat.le_refl _)).mono' (Nat.le_refl _) on7.size); clear on7 z7 hy))
    clear c0 c1
    go_loopw [5, 6] (fun v t wr => ∃ (X : List Int) (bx k : Nat), k ≤ 3 ∧ v = .slice (some ⟨bx, 0, none⟩) (bl S) (bl S) ∧ t = .int .i64 k ∧ X.length = bl S ∧ Nums p X ∧ OwnR w.heap.size wr.heap.size wr (some ⟨bx, 0, none⟩) X ∧ DrF p aS S cS loS tpS b a len cap zs w wr) (fun _ t _ => (intOf t).toNat)
    case atStart => exact ⟨mkR (bl S) oneF, b6, y.toNat, by have := HY7.out; omega, rfl, by have := HY7.out; congr 1; omega, mkR_len _ _, ONE.out, HO7.out, D7.out⟩
    case round =>
      obtain ⟨X0, bx, k, hk, rfl, rfl, hXl, hXn, ho, hD⟩ := hrel
      rename World => wr
      have HXL := Lib.hid hXl
      have HXN := Lib.hid hXn
      have HO := Lib.hid ho
      have HD := Lib.hid hD
      clear hXl hXn ho hD
      by_cases hk0 : 0 < k
      · have hk1 : (0 : Int) < (k : Int) := by omega
        have D8 : Hid (DrF p aS S cS loS tpS b a len cap zs w wr.drew) := HD.out.below (below_drew wr)
        have HO8 : Hid (OwnR w.heap.size wr.drew.heap.size wr.drew (some ⟨bx, 0, none⟩) X0) := ownR_below HO.out (below_drew wr) (Nat.le_refl _)
        have s8 := Lib.hid D8.out.ss
        have hR8 := D8.out.lt
        go_upto_region 11 with fail
        go_region_held3 (fun w' => w'.cell? ⟨w.heap.size, 0, none⟩ = some (.int .i64 p) ∧ w'.cell? ⟨w.heap.size, 1, none⟩ = some (.slice aS S.length cS)) (first | exact s8.out | exact s9.out | exact s10.out | exact s11.out | go_keep) (first
          | (go_at_call 69; (with_reducible refine (listN_any p S.length b a len cap zs wr.drew D8.out.src (by omega) hp1).mono ?_); rintro e w9 ⟨v, X, rfl, hX, o9, on9, z9⟩; obtain ⟨r, c, rfl, t9⟩ := o9.tag; have D9 := Lib.hid (D8.out.only on9 z9); have HT9 := Lib.hid t9; have HU9 := Lib.hid o9; have HL9 := Lib.hid hX.1; have HN9 := Lib.hid hX.2; have s9 := Lib.hid D9.out.ss; have zy9 := on9.size; clear t9 o9 hX z9; have HO9 := Lib.hid ((ownR_only HO8.out on9 (.inl hlt) (Nat.le_refl _)).mono' (Nat.le_refl _) zy9); clear on9)
          | (go_at_call 68; (with_reducible refine (l04Vector_any p aS S cS r X c wr.drew.heap.size w9.heap.size w9 h6 HL9.out HT9.out.row (Nat.le_refl _)).mono ?_); rintro e w10 ⟨b10, rfl, hl10, hu10, ho10, bel10⟩; have D10 := Lib.hid (D9.out.below bel10); have HO10 := Lib.hid ho10; have s10 := Lib.hid D10.out.ss; have zy10 := bel10.size; have HOX10 := Lib.hid ((ownR_below HO9.out bel10 (Nat.le_refl _)).mono' (Nat.le_refl _) zy10); clear ho10 bel10)
          | (go_at_call 48; (with_reducible refine (times_len p aS S cS loS tpS (some ⟨bx, 0, none⟩) X0 (bl S) w.heap.size w10.heap.size (some ⟨b10, 0, none⟩) (mkR (bl S) (vecF X X.length)) (bl S) w9.heap.size w10.heap.size w10 PR.out h6 D10.out.row (Nat.le_trans tS (Nat.le_of_lt D10.out.lt)) NS.out HOX10.out.row (Nat.le_refl _) HXL.out HXN.out (HO10.out.own hl10 hu10).row (Nat.le_refl _) (mkR_len _ _) (vecNN hp0 HN9.out)).mono ?_); rintro e w11 ⟨b11, rfl, hl11, hu11, ho11, bel11, tag11⟩; have D11 := Lib.hid (D10.out.below bel11); have HO11 := Lib.hid ho11; have s11 := Lib.hid D11.out.ss; have hR10 := D10.out.lt; clear ho11 bel11 tag11))
        all_goals
          go_wp2
          go_roundw
          case rel => exact ⟨mkR (bl S) (prodF p S X0 (mkR (bl S) (vecF X X.length))), b11, k - 1, by omega, rfl, by congr 1; omega, mkR_len _ _, prodM_num hp0 S X0 _, HO11.out.own (by omega) hu11, D11.out⟩
          case measure => simp [intOf]; omega
      · have hk1 : ¬ (0 : Int) < (k : Int) := by omega
        go_wp2
        go_ret
        exact ⟨some ⟨bx, 0, none⟩, bl S, X0, by rw [HXL.out]; rfl, HXL.out, HO.out, .inl HXL.out.symm, HD.out.on, HD.out.src⟩
  have e1 : (x == 1) = false := by simpa using h1
  by_cases h2 : x = 2
  · subst h2
    have c0 := D2.out.c0
    have c1 := D2.out.c1
    go_upto_region 14 with (go_at_call 37; (with_reducible refine (next_any _ b a len cap zs w2 D2.out.src).mono ?_); rintro e w6 ⟨y, rfl, hy, on6, z6⟩; have D6 := Lib.hid (D2.out.only on6 z6); clear on6 z6 hy)
    clear c0 c1
    have D7 : Hid (DrF p aS S cS loS tpS b a len cap zs w w6.drew) := D6.out.below (below_drew w6)
    have s7 := Lib.hid D7.out.ss
    have hR7 := D7.out.lt
    go_region_held3 (fun w' => w'.cell? ⟨w.heap.size, 0, none⟩ = some (.int .i64 p) ∧ w'.cell? ⟨w.heap.size, 1, none⟩ = some (.slice aS S.length cS)) (first | exact s7.out | exact s8.out | exact s9.out | exact s10.out | go_keep) (first
      | (go_at_call 47; (with_reducible refine (l04Size_any p aS S cS w6.drew h6).mono ?_); rintro e w8 ⟨rfl, bel8⟩; have D8 := Lib.hid (D7.out.below bel8); have s8 := Lib.hid D8.out.ss; have hR8 := D8.out.lt; clear bel8)
      | (go_at_call 69; (with_reducible refine (listN_any p (bl S) b a len cap zs w8 D8.out.src (by omega) hp1).mono ?_); rintro e w9 ⟨v, X, rfl, hX, o9, on9, z9⟩; obtain ⟨r, c, rfl, t9⟩ := o9.tag; have D9 := Lib.hid (D8.out.only on9 z9); have HT9 := Lib.hid t9; have HU9 := Lib.hid o9; have HL9 := Lib.hid hX.1; have HN9 := Lib.hid hX.2; have s9 := Lib.hid D9.out.ss; have zy9 := on9.size; clear t9 o9 hX on9 z9)
      | (go_at_call 100; (with_reducible refine (l04Part_any r X c w8.heap.size w9.heap.size y w9 HT9.out.row (Nat.le_refl _) (by rw [HL9.out]; exact hbl)).mono ?_); rintro e w10 ⟨b10, rfl, hl10, hu10, ho10, bel10⟩; have D10 := Lib.hid (D9.out.below bel10); have HO10 := Lib.hid ho10; have s10 := Lib.hid D10.out.ss; clear ho10 bel10))
    all_goals
      go_wp2
      go_ret
      exact ⟨some ⟨b10, 0, none⟩, X.length, mkR X.length (pg X y), by simp only [mkR_len]; rfl, by rw [mkR_len]; exact HL9.out, HO10.out.own (by omega) hu10, .inl (by rw [mkR_len]), D10.out.on, D10.out.src⟩
  have e2 : (x == 2) = false := by simpa using h2
  by_cases h3 : x = 3
  · subst h3
    go_upto_region 17 with (go_at_call 37; (with_reducible refine (next_any 4 b a len cap zs w2 D2.out.src).mono ?_); rintro e w6 ⟨y, rfl, hy, on6, z6⟩; have HY6 := Lib.hid (hy (by omega)); have D6 := Lib.hid (D2.out.only on6 z6); have HO6 := Lib.hid (HO2.out.stay (on6.block b1 hu2 (by omega))); have hu6 := Nat.lt_of_lt_of_le hu2 on6.size; clear on6 z6 hy)
    go_loopw [8] (fun t wr => ∃ (f : Nat → Int) (k : Nat), k ≤ 3 ∧ t = .int .i64 k ∧ RowOwn wr b1 0 (bl S) f ∧ b1 < wr.heap.size ∧ DrF p aS S cS loS tpS b a len cap zs w wr) (fun t _ => (intOf t).toNat)
    case atStart => exact ⟨fun _ => 0, y.toNat, by have := HY6.out; omega, by have := HY6.out; congr 1; omega, HO6.out, hu6, D6.out⟩
    case round =>
      obtain ⟨f, k, hk, rfl, ho, hu, hD⟩ := hrel
      rename World => wr
      have HO := Lib.hid ho
      have HD := Lib.hid hD
      clear ho hD
      by_cases hk0 : 0 < k
      · have hk1 : (0 : Int) < (k : Int) := by omega
        have D8 : Hid (DrF p aS S cS loS tpS b a len cap zs w wr.drew) := HD.out.below (below_drew wr)
        have HO8 : Hid (RowOwn wr.drew b1 0 (bl S) f) := HO.out.drew
        have s8 := Lib.hid D8.out.ss
        have hu8 : b1 < wr.drew.heap.size := hu
        go_upto_region 19 with fail
        go_region_held3 (fun w' => w'.cell? ⟨w.heap.size, 0, none⟩ = some (.int .i64 p) ∧ w'.cell? ⟨w.heap.size, 1, none⟩ = some (.slice aS S.length cS)) (first | exact s8.out | exact s9.out | exact s10.out | exact s11.out | exact s12.out | go_keep) (first
          | (go_at_call 47; (with_reducible refine (l04Size_any p aS S cS wr.drew h6).mono ?_); rintro e w9 ⟨rfl, bel9⟩; have D9 := Lib.hid (D8.out.below bel9); have s9 := Lib.hid D9.out.ss; have HO9 := Lib.hid (HO8.out.stay (bel9.block b1 hu8)); have hu9 := Nat.lt_of_lt_of_le hu8 bel9.size; clear bel9)
          | (go_at_call 37; (with_reducible refine (next_any (bl S) b a len cap zs w9 D9.out.src).mono ?_); rintro e w10 ⟨y10, rfl, hy, on10, z10⟩; obtain ⟨hy0, hy1⟩ := hy (by omega); obtain ⟨j, rfl⟩ := Int.eq_ofNat_of_zero_le hy0; have hj : j < bl S := (by omega); have HJ := Lib.hid hj; have D10 := Lib.hid (D9.out.only on10 z10); have HO10 := Lib.hid (HO9.out.stay (on10.block b1 hu9 (by omega))); have hu10 := Nat.lt_of_lt_of_le hu9 on10.size; have s10 := Lib.hid D10.out.ss; clear on10 z10 hy)
          | (go_at_call 37; (with_reducible refine (next_any p b a len cap zs w10 D10.out.src).mono ?_); rintro e w11 ⟨z, rfl, hz, on11, z11⟩; have D11 := Lib.hid (D10.out.only on11 z11); have HO11 := Lib.hid (HO10.out.stay (on11.block b1 hu10 (by omega))); have hu11 := Nat.lt_of_lt_of_le hu10 on11.size; have s11 := Lib.hid D11.out.ss; have D12 := Lib.hid (D11.out.put (k := b1) hR1 j (.int .i64 z)); have s12 := Lib.hid D12.out.ss; have cy := HO11.out.cell j HJ.out; have fy := HO11.out.free j HJ.out; rw [Nat.zero_add] at cy fy; clear on11 z11 hz))
        all_goals
          go_wp2
          go_roundw
          case rel => exact ⟨fun i => if i = j then z else f i, k - 1, by omega, by congr 1; omega, row_put0 HO11.out HJ.out (fun i _ => rfl), by simp [World.setCell]; omega, D12.out⟩
          case measure => simp [intOf]; omega
      · have hk1 : ¬ (0 : Int) < (k : Int) := by omega
        go_wp2
        go_ret
        exact ⟨some ⟨b1, 0, none⟩, bl S, mkR (bl S) f, by simp only [mkR_len]; rfl, mkR_len _ _, HO.out.own (Nat.le_of_lt hR1) hu, .inl (by rw [mkR_len]), HD.out.on, HD.out.src⟩
  have e3 : (x == 3) = false := by simpa using h3
  have h4 : x = 4 := by have := HX5.out; omega
  subst h4
  go_upto_region 3 with fail
  go_region_held3 (fun w' => w'.cell? ⟨w.heap.size, 0, none⟩ = some (.int .i64 p) ∧ w'.cell? ⟨w.heap.size, 1, none⟩ = some (.slice aS S.length cS)) (first | exact s3.out | exact s5.out | exact s6.out | go_keep) (first
    | (go_at_call 47; (with_reducible refine (l04Size_any p aS S cS w2.drew h6).mono ?_); rintro e w5 ⟨rfl, bel5⟩; have D5 := Lib.hid (D3.out.below bel5); have s5 := Lib.hid D5.out.ss; have hR5 := D5.out.lt; clear bel5)
    | (go_at_call 69; (with_reducible refine (listN_any p (bl S) b a len cap zs w5 D5.out.src (by omega) hp1).mono ?_); rintro e w6 ⟨v, X, rfl, hX, o6, on6, z6⟩; obtain ⟨r, c, rfl, t6⟩ := o6.tag; have D6 := Lib.hid (D5.out.only on6 z6); have HT6 := Lib.hid t6; have HU6 := Lib.hid o6; have HL6 := Lib.hid hX.1; have HN6 := Lib.hid hX.2; have s6 := Lib.hid D6.out.ss; have zy6 := on6.size; clear t6 o6 hX on6 z6))
  all_goals
    go_wp2
    go_ret
    exact ⟨r, c, X, rfl, HL6.out, OwnR.mono' HT6.out.own (by omega) (Nat.le_refl _), .inr (HU6.out.base (by omega)), D6.out.on, D6.out.src⟩

end Go.Proofs.YtijklpcelbnnjaaGreat
