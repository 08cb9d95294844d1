/-
  Contracts and facts that the walk of the law rests on.
  Conditions: those that each theorem names.
-/
import Derived.Test.YtgfanoejohpmkaaGreatQp13
import Derived.Test.YtgfanoejohpmkaaGreatQp14
import Derived.Deep.RegionHeld3
import Derived.Deep.DeepCutAuto
import Derived.Test.YtgfanoejohpmkaaGreatQp11
import Derived.Test.YtgfanoejohpmkaaGreatQp6
import Derived.Test.YtgfanoejohpmkaaGreatQp1
import Derived.Test.YtgfanoejohpmkaaGreatQp7
import Derived.Test.YtgfanoejohpmkaaGreatQp5
import Derived.Test.YtgfanoejohpmkaaGreatQp2
namespace Go.Proofs.YtgfanoejohpmkaaGreat
open Go.RowKit
set_option linter.unusedVariables false
theorem sp_nums {p : Int} {S : List Int} (h : isSp p S = true) : Nums p S := Nums.of (isSp_iff.1 h).all
theorem NewRow.ownE {n : Nat} {f : Nat → Int} {w : World} {e : Ending} {w' : World} (h : NewRow n f w e w') : OwnE (mkR n f) w e w' := by
 obtain ⟨b, rfl, hl, hu, hr, hb⟩ := h
 exact ⟨_, n, by rw [mkR_len], hr.own hl hu, hb⟩
theorem product_own (p : Int) (aS : Option Addr) (S : List Int) (cS loS tpS : Nat) (ax : Option Addr) (x : List Int) (cx lox tpx : Nat) (ay : Option Addr) (y : List Int) (cy loy tpy : Nat) (w : World) (hs : isSp p S = true) (hS : RowIn loS tpS w aS S) (tS : tpS ≤ w.heap.size) (hx : RowIn lox tpx w ax x) (tx : tpx ≤ w.heap.size) (mx : isMv p S x = true) (hy : RowIn loy tpy w ay y) (ty : tpy ≤ w.heap.size) (my : isMv p S y = true) :
 Calls Tryz.prog 184 #[.agg #[.int .i64 p, .slice aS S.length cS], .slice ax x.length cx, .slice ay y.length cy] w (OwnE (prodM p S x y) w) :=
 (product_any p aS S cS loS tpS ax x cx lox tpx ay y cy loy tpy w (isSp_iff.1 hs).prime (isSp_iff.1 hs).hi hS tS (sp_nums hs) hx tx (Mv.len mx) (Mv.nums mx) hy ty (Mv.len my) (Mv.nums my)).mono fun _ _ h => h.ownE
theorem times_own (p : Int) (aS : Option Addr) (S : List Int) (cS loS tpS : Nat) (ax : Option Addr) (x : List Int) (cx lox tpx : Nat) (ay : Option Addr) (y : List Int) (cy loy tpy : Nat) (w : World) (hs : isSp p S = true) (hS : RowIn loS tpS w aS S) (tS : tpS ≤ w.heap.size) (hx : RowIn lox tpx w ax x) (tx : tpx ≤ w.heap.size) (mx : isMv p S x = true) (hy : RowIn loy tpy w ay y) (ty : tpy ≤ w.heap.size) (my : isMv p S y = true) :
 Calls Tryz.prog 116 #[.agg #[.int .i64 p, .slice aS S.length cS], .slice ax x.length cx, .slice ay y.length cy] w (OwnE (prodM p S x y) w) :=
 (l04Times_any p aS S cS loS tpS ax x cx lox tpx ay y cy loy tpy w (isSp_iff.1 hs).prime (isSp_iff.1 hs).hi hS tS (sp_nums hs) hx tx (Mv.len mx) (Mv.nums mx) hy ty (Mv.len my) (Mv.nums my)).mono fun _ _ h => h.ownE
theorem prod_mv {p : Int} {S : List Int} (hs : isSp p S = true) (x y : List Int) : isMv p S (prodM p S x y) = true := by
 have hp := prm_bd (isSp_iff.1 hs).prime
 have hn := prodM_num (p := p) (by omega) S x y
 unfold isMv isVec
 rw [prodM_len, Bool.and_eq_true]
 refine ⟨by simp, ?_⟩
 rw [List.all_eq_true]
 intro z hz
 obtain ⟨j, hj, rfl⟩ := List.getElem_of_mem hz
 have h := hn j hj
 rw [getD_at hj] at h
 exact inr_iff.2 h
set_option maxHeartbeats 1600000 in
set_option maxRecDepth 100000 in
theorem minus5_any (p k : Int) (a b : Option Addr) (za zb : List Int) (ca cb lo tp lo' tp' : Nat) (w : World) (hp : prm p = true) (ha : RowIn lo tp w a za) (hb : RowIn lo' tp' w b zb) (ht : tp ≤ w.heap.size) (ht' : tp' ≤ w.heap.size)
 (hl : za.length = zb.length) (hs : za.length ≤ 1048576) (hna : ∀ j, j < za.length → 0 ≤ za.getD j 0 ∧ za.getD j 0 < p) (hnb : ∀ j, j < zb.length → 0 ≤ zb.getD j 0 ∧ zb.getD j 0 < p) (hk : k = -1) :
 Calls Tryz.prog 43 #[.int .i64 p, .slice a za.length ca, .slice b zb.length cb, .int .i64 k] w (NewR (plusR p za zb k) w) := by
 obtain ⟨i0, hi, hz0, hz1, hz2⟩ := info_parts info64
 have hpb := prm_bd hp
 have HA := Lib.hid ha
 have HB := Lib.hid hb
 have HNA := Lib.hid hna
 have HNB := Lib.hid hnb
 have HP := Lib.hid hp
 have e0 : ((za.length : Int) != (zb.length : Int)) = false := by simp; omega
 have hl2 : za.length ≤ zb.length := by omega
 have HK := Lib.hid hk
 clear hk
 clear hl
 clear ha hb hna hnb hp
 go_enter Tryz.func43, Tryz.ntmps43
 go_wp2
 go_loopw [9, 10] (fun v t wr => ∃ i : Nat, i ≤ za.length ∧ t = .int .i64 i ∧ OutR w.heap.size wr v (mkR i fun j => (za.getD j 0 + k * zb.getD j 0) % p) ∧ Below w.heap.size w wr) (fun _ t _ => za.length - (intOf t).toNat)
 case atStart => exact ⟨0, Nat.zero_le _, rfl, OutR.start w _ _ (Nat.le_refl _) rfl, by ((repeat' (first | with_reducible exact Below.refl _ _ | (with_reducible refine Below.setCell ?_ ?_ _) | (with_reducible refine Below.alloc ?_ ?_ _) | (with_reducible refine Below.drew ?_))); all_goals (first | (simp; done) | omega | (simp; omega)))⟩
 case round =>
  obtain ⟨i, hi', rfl, ho, hbel⟩ := hrel
  have HO := Lib.hid ho
  have hwz := hbel.size
  clear ho
  by_cases hlt : i < za.length
  · obtain ⟨b1, o1, ha1, _, hb1, hc1⟩ := HA.out.num hlt
    obtain ⟨b2, o2, ha2, _, hb2, hc2⟩ := HB.out.num (by omega : i < zb.length)
    subst ha1
    subst ha2
    have hc1 := (hbel.cell (p := ⟨b1, o1 + i, none⟩) (Nat.lt_of_lt_of_le hb1 ht)).trans hc1
    have hc2 := (hbel.cell (p := ⟨b2, o2 + i, none⟩) (Nat.lt_of_lt_of_le hb2 ht')).trans hc2
    obtain ⟨x0, x1⟩ := HNA.out i hlt
    obtain ⟨y0, y1⟩ := HNB.out i (by omega)
    have HS : Hid (mkR (i + 1) (fun j => (za.getD j 0 + k * zb.getD j 0) % p) = mkR i (fun j => (za.getD j 0 + k * zb.getD j 0) % p) ++ [(za.getD i 0 + k * zb.getD i 0) % p]) := mkR_succ _ _
    obtain ⟨x, hx⟩ : ∃ x, x = za.getD i 0 := ⟨_, rfl⟩
    obtain ⟨y, hy⟩ : ∃ y, y = zb.getD i 0 := ⟨_, rfl⟩
    rw [← hx] at hc1 x0 x1 HS
    rw [← hy] at hc2 y0 y1 HS
    clear hx hy
    have m0 : -13 ≤ k * y := by rw [HK.out]; omega
    have m1 : k * y ≤ 0 := by rw [HK.out]; omega
    have hi1 : (i : Int) < (za.length : Int) := by omega
    have hi2 : (i : Int) < (zb.length : Int) := by omega
    have e1 : IntKind.i64.wrap (k * y) = k * y := IntWalk.i64_in _ (by omega)
    have e2 : IntKind.i64.wrap (x + k * y) = x + k * y := IntWalk.i64_in _ (by omega)
    obtain ⟨X, hX⟩ : ∃ X, X = (mkR i (fun j => (za.getD j 0 + k * zb.getD j 0) % p)).map (Value.int .i64) := ⟨_, rfl⟩
    have HX := Lib.hid hX
    have HO2 : Hid (wr.ownsRow w.heap.size 2 1 u9 i X) := by
     have := HO.out; unfold OutR at this; rw [mkR_len, ← hX] at this; exact this
    have n1 : u9.ownBlock ≠ some b1 := fun e => by have := (HO2.out.lt _ e).1; omega
    have n2 : u9.ownBlock ≠ some b2 := fun e => by have := (HO2.out.lt _ e).1; omega
    have lb1 : b1 < wr.heap.size := by omega
    have lb2 : b2 < wr.heap.size := by omega
    have hp0 : ¬ p = 0 := by omega
    have hp1 : (p == 0) = false := by simpa using hp0
    clear hX
    go_wp2
    go_region_held3 (fun w' => w'.cell? ⟨b1, o1 + i, none⟩ = some (.int .i64 x) ∧ w'.cell? ⟨b2, o2 + i, none⟩ = some (.int .i64 y)) (first | go_keep | (go_split_ands; refine ⟨?_, ?_⟩; (rw [hgrow.cell_far _ (by simp; omega) (Ne.symm n1)]; assumption); (rw [hgrow.cell_far _ (by simp; omega) (Ne.symm n2)]; assumption))) (first | (go_at_call 25; (with_reducible refine (mod5_any p (x + k * y) _ HP.out (by omega) (by omega)).mono ?_); rintro e w' ⟨rfl, rfl⟩) | (refine step_append_lies _ (by rfl) _ _ _ (by rfl) w.heap.size 2 i0 _ 1 8 Tryz.underlying24 hi hz0 hz1 hz2 rfl (by omega) u9 i X (by rfl) ((HO2.out.alloc _).drew) ⟨wr.heap.size, 0, none⟩ 1 1 [.int .i64 ((x + k * y) % p)] (by rfl) (by rfl) (World.news_of_block (cs := #[.int .i64 ((x + k * y) % p)]) (t := 2) (fr := (0, 0)) (heap_alloc_new wr _)) (by simp [Value.oneCell']) (by omega) (by unfold maxLen; omega) (by omega) (by simp; omega) (wr.heap.size + 1) (by simp) ?_; intro gg cap w1 hown1 hgrow hat hlt1))
    clear e1 e2
    go_wp2
    go_roundw
    case rel => exact ⟨i + 1, by omega, by go_num, OutR.step HO2.out HX.out HS.out hown1, ((hbel.alloc hwz _).drew).grown hgrow (by simp; omega) (fun _ hk => (HO2.out.lt _ hk).1)⟩
    case measure => simp [intOf]; omega
  · have hn : i = za.length := by omega
    subst hn
    go_wp2
    go_ret
    exact HO.out.new hbel
def mOne (S : List Int) : List Int := mkR (bl S) oneF
theorem isMv_of {p : Int} {S z : List Int} (hl : z.length = bl S) (hn : ∀ j, j < z.length → 0 ≤ z.getD j 0 ∧ z.getD j 0 < p) : isMv p S z = true := by
 unfold isMv isVec
 rw [hl, Bool.and_eq_true]
 refine ⟨by simp, ?_⟩
 rw [List.all_eq_true]
 intro y hy
 obtain ⟨j, hj, rfl⟩ := List.getElem_of_mem hy
 have h := hn j hj
 rw [getD_at hj] at h
 exact inr_iff.2 h
theorem one_mv {p : Int} {S : List Int} (hs : isSp p S = true) : isMv p S (mOne S) = true :=
 isMv_of (mkR_len _ _) (fun j hj => by
  have hp := prm_bd (isSp_iff.1 hs).prime
  unfold mOne at hj ⊢
  rw [mkR_len] at hj
  rw [mkR_at _ hj]
  unfold oneF
  split <;> omega)
set_option maxHeartbeats 800000 in
theorem l04One_any (p : Int) (a : Option Addr) (S : List Int) (c : Nat) (w : World) (h : S.length ≤ 6) :
 Calls Tryz.prog 188 #[.agg #[.int .i64 p, .slice a S.length c]] w (OwnE (mOne S) w) := by
 have hb0 := bl_pos S
 go_enter Tryz.func188, Tryz.ntmps188
 go_wp2_with (go_at_call 221; (with_reducible refine (l04Zero_any p a S c _ h).mono ?_); rintro e w1 ⟨b1, rfl, hl1, hu1, ho1, hb1⟩; have HO1 := Lib.hid ho1; have HB1 := Lib.hid (below_step (below_alloc w _) (by simp) hb1); have hz1 := hb1.size; have c0 := ho1.cell 0 hb0; have f0 := ho1.free 0 hb0; rw [Nat.zero_add] at c0 f0; clear hb1 ho1)
 have hwb : w.heap.size ≤ b1 := by simp at hl1; omega
 go_ret
 exact ⟨_, bl S, by unfold mOne; rw [mkR_len]; rfl, (row_put0 (g := oneF) (v := 1) HO1.out hb0 (fun j _ => by unfold oneF; rfl)).own hwb (by simp [World.setCell]; exact hu1), HB1.out.trans ((wrote_put0 (Wrote.refl b1 0 (bl S) w1) hb0 _).belowB hwb)⟩
theorem blade0_any (p : Int) (a : Option Addr) (S : List Int) (c : Nat) (w : World) (h : S.length ≤ 6) :
 Calls Tryz.prog 183 #[.agg #[.int .i64 p, .slice a S.length c], .int .i64 0] w (OwnE (mOne S) w) :=
 (blade_any p a S c 0 w h (bl_pos S)).mono fun _ _ h => h.ownE
theorem field_value (x y : Value) (w : World) : (Instr.field 84 (.agg #[x, y]) 1).run Tryz.prog w = .ok y w := by kernel_rfl
structure NumAt (w : World) (b : Nat) (p v : Int) : Prop where
 c0 : w.cell? ⟨b, 0, none⟩ = some (.int .i64 p)
 c1 : w.cell? ⟨b, 1, none⟩ = some (.int .i64 v)
 f0 : w.frozen? ⟨b, 0, none⟩ = false
 f1 : w.frozen? ⟨b, 1, none⟩ = false
theorem NumAt.keep {w w1 : World} {b : Nat} {p v : Int} (h : NumAt w b p v) (hb : Below w.heap.size w w1) (lt : b < w.heap.size) : NumAt w1 b p v :=
 ⟨(hb.cell (p := ⟨b, 0, none⟩) lt).trans h.c0, (hb.cell (p := ⟨b, 1, none⟩) lt).trans h.c1, (hb.frozen (p := ⟨b, 0, none⟩) lt).trans h.f0, (hb.frozen (p := ⟨b, 1, none⟩) lt).trans h.f1⟩
theorem NumAt.alloc {w : World} {b : Nat} {p v : Int} (h : NumAt w b p v) (lt : b < w.heap.size) (o : Obj) : NumAt (w.alloc o) b p v :=
 h.keep ((Below.refl _ _).alloc (Nat.le_refl _) o) lt
theorem numAt_new (w : World) (p v : Int) (t : TypeId) : NumAt (w.alloc (.cells #[.int .i64 p, .int .i64 v] t)) w.heap.size p v :=
 ⟨by simp [go_sem], by simp [go_sem], by simp [go_sem], by simp [go_sem]⟩
theorem NumAt.drew {w : World} {b : Nat} {p v : Int} (h : NumAt w b p v) : NumAt w.drew b p v := ⟨h.c0, h.c1, h.f0, h.f1⟩
theorem numAt_new2 (w : World) (o o' : Obj) (p v : Int) (t : TypeId) : NumAt (((w.alloc o).alloc o').alloc (.cells #[.int .i64 p, .int .i64 v] t)) (w.heap.size + 1 + 1) p v := by
 simpa using numAt_new ((w.alloc o).alloc o') p v t
theorem NumAt.set {w : World} {b : Nat} {p v : Int} (h : NumAt w b p v) (q u : Int) : NumAt ((w.setCell ⟨b, 0, none⟩ (.int .i64 q)).setCell ⟨b, 1, none⟩ (.int .i64 u)) b q u :=
 ⟨by simp [go_sem, h.c0], by simp [go_sem, h.c1], by simp [go_sem, h.f0], by simp [go_sem, h.f1]⟩
theorem NumAt.far {w : World} {b c : Nat} {p v : Int} (h : NumAt w b p v) (hne : b ≠ c) (o : Nat) (x : Value) : NumAt (w.setCell ⟨c, o, none⟩ x) b p v :=
 ⟨(World.cell?_setCell_other _ _ _ _ (fun e => hne (by injection e with e1; exact e1.symm))).trans h.c0, (World.cell?_setCell_other _ _ _ _ (fun e => hne (by injection e with e1; exact e1.symm))).trans h.c1, by simp [go_sem, h.f0], by simp [go_sem, h.f1]⟩
def disN (p : Int) (S : List Int) : Nat → Int
 | 0 => 1
 | i + 1 => disN p S i * S.getD i 0 % p
def discN (p : Int) (S : List Int) : Int := disN p S S.length
theorem disN_bd {p : Int} (hp : prm p = true) (S : List Int) (i : Nat) : 0 ≤ disN p S i ∧ disN p S i < p := by
 have := prm_bd hp
 cases i with
 | zero => show 0 ≤ (1 : Int) ∧ (1 : Int) < p; omega
 | succ i => exact mod_bd hp _
def nul (p : Int) (n c : Nat) (R : Nat → Nat → Int) (x : Nat → Int) : Prop := ∀ i, i < n → sm c (fun j => R i j * x j) % p = 0
structure Rref (p : Int) (n c : Nat) (R : Nat → Nat → Int) (P : Nat → Nat) : Prop where
 pv : ∀ i, i < n → P i < c
 mono : ∀ i i', i < i' → i' < n → P i < P i'
 one : ∀ i, i < n → R i (P i) = 1
 zer : ∀ i, i < n → ∀ i', i' < n → i ≠ i' → R i' (P i) = 0
 fst : ∀ i, i < n → ∀ j, j < P i → R i j = 0
 rng : ∀ i, i < n → ∀ j, j < c → 0 ≤ R i j ∧ R i j < p
def kv (n : Nat) (R : Nat → Nat → Int) (P : Nat → Nat) (k j : Nat) : Int := (if j = k then 1 else 0) + sm n (fun i => if j = P i then - R i k else 0)
theorem sm_neg (n : Nat) (f : Nat → Int) : sm n (fun j => - f j) = - sm n f := by
 induction n with
 | zero => rfl
 | succ n ih => simp only [sm]; rw [ih]; omega
theorem ite_mul' (q : Prop) [Decidable q] (a x : Int) : a * (if q then x else 0) = if q then a * x else 0 := by split <;> simp
theorem kv_row {p : Int} {n c : Nat} {R : Nat → Nat → Int} {P : Nat → Nat} (h : Rref p n c R P) (S : Nat → Int) {k : Nat} (hk : k < c) :
 sm c (fun j => S j * kv n R P k j) = S k - sm n (fun i => R i k * S (P i)) := by
 have e1 : sm c (fun j => S j * kv n R P k j) = sm c (fun j => (if j = k then S k else 0) + sm n (fun i => if j = P i then - (R i k * S (P i)) else 0)) := by
  apply sm_congr
  intro j hj
  unfold kv
  rw [Int.mul_add, ite_mul', Int.mul_one, ← sm_mul]
  congr 1
  · by_cases e : j = k
    · subst e; simp
    · simp [e]
  · apply sm_congr
    intro i hi
    rw [ite_mul']
    by_cases e : j = P i
    · subst e; simp only [if_pos]; rw [Int.mul_neg, Int.mul_comm]
    · simp [e]
 rw [e1, sm_add, sm_single, if_pos hk, sm_swap]
 have e2 : sm n (fun i => sm c (fun j => if j = P i then - (R i k * S (P i)) else 0)) = sm n (fun i => - (R i k * S (P i))) := by
  apply sm_congr
  intro i hi
  rw [sm_single, if_pos (h.pv i hi)]
 rw [e2, sm_neg]
 omega
theorem Rref.pick {p : Int} {n c : Nat} {R : Nat → Nat → Int} {P : Nat → Nat} (h : Rref p n c R P) {i : Nat} (hi : i < n) (f : Nat → Int) : sm n (fun i' => f i' * R i (P i')) = f i := by
 have e : sm n (fun i' => f i' * R i (P i')) = sm n (fun i' => if i' = i then f i else 0) := by
  apply sm_congr
  intro i' hi'
  by_cases e : i' = i
  · subst e; rw [h.one i' hi', if_pos rfl, Int.mul_one]
  · rw [h.zer i' hi' i hi e, if_neg e, Int.mul_zero]
 rw [e, sm_single, if_pos hi]
theorem kv_nul {p : Int} {n c : Nat} {R : Nat → Nat → Int} {P : Nat → Nat} (h : Rref p n c R P) {k : Nat} (hk : k < c) : nul p n c R (kv n R P k) := by
 intro i hi
 rw [kv_row h (R i) hk, h.pick hi (fun i' => R i' k)]
 simp
theorem kv_top {p : Int} {n c : Nat} {R : Nat → Nat → Int} {P : Nat → Nat} (h : Rref p n c R P) {k : Nat} (hnp : ∀ i, i < n → P i ≠ k) : kv n R P k k = 1 := by
 unfold kv
 have e : sm n (fun i => if k = P i then - R i k else 0) = sm n (fun _ => 0) := by
  apply sm_congr; intro i hi; rw [if_neg (fun e => hnp i hi e.symm)]
 rw [e, sm_zero]; simp
theorem kv_over {p : Int} {n c : Nat} {R : Nat → Nat → Int} {P : Nat → Nat} (h : Rref p n c R P) {k j : Nat} (hkj : k < j) : kv n R P k j = 0 := by
 unfold kv
 have e : sm n (fun i => if j = P i then - R i k else 0) = sm n (fun _ => 0) := by
  apply sm_congr; intro i hi
  by_cases e : j = P i
  · rw [if_pos e, h.fst i hi k (by omega)]; rfl
  · rw [if_neg e]
 rw [e, sm_zero, if_neg (by omega)]; rfl
theorem Rref.pivot {p : Int} {n c : Nat} {R : Nat → Nat → Int} {P : Nat → Nat} (h : Rref p n c R P) (hp : 1 < p) {k : Nat} (hk : k < c) :
 (∃ i, i < n ∧ P i = k) ↔ ¬ ∃ x : Nat → Int, nul p n c R x ∧ x k = 1 ∧ ∀ j, k < j → x j = 0 := by
 constructor
 · rintro ⟨i, hi, rfl⟩ ⟨x, hx, h1, h2⟩
   have e : sm c (fun j => R i j * x j) = sm c (fun j => if j = P i then 1 else 0) := by
    apply sm_congr
    intro j hj
    rcases Nat.lt_trichotomy j (P i) with l | l | l
    · rw [h.fst i hi j l, if_neg (by omega)]; simp
    · subst l; rw [h.one i hi, h1, if_pos rfl]; rfl
    · rw [h2 j l, if_neg (by omega)]; simp
   have := hx i hi
   rw [e, sm_single, if_pos hk, Int.emod_eq_of_lt (by omega) hp] at this
   omega
 · intro hno
   rcases Classical.em (∃ i, i < n ∧ P i = k) with h1 | h1
   · exact h1
   · exact absurd ⟨kv n R P k, kv_nul h hk, kv_top h (fun i hi e => h1 ⟨i, hi, e⟩), fun j hj => kv_over h hj⟩ hno
theorem enum_eq {n n' : Nat} {P P' : Nat → Nat} (m : ∀ i i', i < i' → i' < n → P i < P i') (m' : ∀ i i', i < i' → i' < n' → P' i < P' i')
 (h : ∀ i, i < n → ∃ k, k < n' ∧ P' k = P i) (h' : ∀ i, i < n' → ∃ k, k < n ∧ P k = P' i) : ∀ i, i < n → i < n' ∧ P i = P' i := by
 intro i
 induction i using Nat.strongRecOn with
 | ind i ih =>
  intro hi
  obtain ⟨k, hk, e⟩ := h i hi
  rcases Nat.lt_trichotomy k i with l | l | l
  · have := ih k l (by omega)
    have := m k i l hi
    omega
  · subst l; exact ⟨hk, e.symm⟩
  · obtain ⟨q, hq, e2⟩ := h' i (by omega)
    have l1 := m' i k l hk
    have l2 : q < i := by
     rcases Nat.lt_trichotomy q i with r | r | r
     · exact r
     · subst r; omega
     · have := m i q r hq; omega
    have l3 := ih q l2 (by omega)
    have l4 := m' q i l2 (by omega)
    omega
theorem Rref.unique {p : Int} {n n' c : Nat} {R R' : Nat → Nat → Int} {P P' : Nat → Nat} (hp : 1 < p) (h : Rref p n c R P) (h' : Rref p n' c R' P') (hn : ∀ x, nul p n c R x ↔ nul p n' c R' x) :
 n = n' ∧ (∀ i, i < n → P i = P' i) ∧ ∀ i, i < n → ∀ j, j < c → R i j = R' i j := by
 have piv : ∀ k, k < c → ((∃ i, i < n ∧ P i = k) ↔ ∃ i, i < n' ∧ P' i = k) := by
  intro k hk
  rw [h.pivot hp hk, h'.pivot hp hk]
  constructor
  · intro g ⟨x, hx, r⟩; exact g ⟨x, (hn x).2 hx, r⟩
  · intro g ⟨x, hx, r⟩; exact g ⟨x, (hn x).1 hx, r⟩
 have a := enum_eq h.mono h'.mono (fun i hi => by obtain ⟨k, hk, e⟩ := (piv (P i) (h.pv i hi)).1 ⟨i, hi, rfl⟩; exact ⟨k, hk, e⟩) (fun i hi => by obtain ⟨k, hk, e⟩ := (piv (P' i) (h'.pv i hi)).2 ⟨i, hi, rfl⟩; exact ⟨k, hk, e⟩)
 have b := enum_eq h'.mono h.mono (fun i hi => by obtain ⟨k, hk, e⟩ := (piv (P' i) (h'.pv i hi)).2 ⟨i, hi, rfl⟩; exact ⟨k, hk, e⟩) (fun i hi => by obtain ⟨k, hk, e⟩ := (piv (P i) (h.pv i hi)).1 ⟨i, hi, rfl⟩; exact ⟨k, hk, e⟩)
 have hnn : n = n' := by
  rcases Nat.lt_trichotomy n n' with l | l | l
  · have := (b n l).1; omega
  · exact l
  · have := (a n' l).1; omega
 subst hnn
 refine ⟨rfl, fun i hi => (a i hi).2, fun i hi k hk => ?_⟩
 have hz := (hn _).1 (kv_nul h hk) i hi
 rw [kv_row h (R' i) hk] at hz
 have e : sm n (fun i' => R i' k * R' i (P i')) = sm n (fun i' => R i' k * R' i (P' i')) := by
  apply sm_congr; intro i' hi'; rw [(a i' hi').2]
 rw [e, h'.pick hi (fun i' => R i' k)] at hz
 have r1 := h.rng i hi k hk
 have r2 := h'.rng i hi k hk
 have := Int.emod_emod_of_dvd (R' i k) (Int.dvd_refl p)
 have h3 : R' i k % p = R i k % p := Int.emod_eq_emod_iff_emod_sub_eq_zero.2 hz
 rw [Int.emod_eq_of_lt r1.1 r1.2, Int.emod_eq_of_lt r2.1 r2.2] at h3
 exact h3.symm
/-! ### One row at x -/
def van (p : Int) (c : Nat) (r x : Nat → Int) : Prop := sm c (fun j => r j * x j) % p = 0
theorem sm_emod_congr {p : Int} {c : Nat} {f g : Nat → Int} (h : ∀ j, j < c → f j % p = g j % p) : sm c f % p = sm c g % p := by
 induction c with
 | zero => rfl
 | succ c ih => simp only [sm]; rw [Int.add_emod, ih (fun j hj => h j (by omega)), h c (by omega), ← Int.add_emod]
theorem van_emod {p : Int} {c : Nat} {r r' x : Nat → Int} (h : ∀ j, j < c → r j % p = r' j % p) : van p c r x ↔ van p c r' x := by
 unfold van
 rw [sm_emod_congr (f := fun j => r j * x j) (g := fun j => r' j * x j) (fun j hj => by rw [Int.mul_emod, h j hj, ← Int.mul_emod])]
theorem van_add {p : Int} {c : Nat} {r s r' x : Nat → Int} {k : Int} (h : ∀ j, j < c → r' j = (r j + k * s j) % p) (hs : van p c s x) : van p c r' x ↔ van p c r x := by
 have e : van p c r' x ↔ van p c (fun j => r j + k * s j) x := van_emod (fun j hj => by rw [h j hj, Int.emod_emod])
 rw [e]
 unfold van at hs ⊢
 have e2 : sm c (fun j => (r j + k * s j) * x j) = sm c (fun j => r j * x j) + k * sm c (fun j => s j * x j) := by
  rw [← sm_mul, ← sm_add]
  apply sm_congr
  intro j _
  rw [Int.add_mul, Int.mul_assoc]
 rw [e2, Int.add_emod, Int.mul_emod, hs]
 simp
theorem van_scale {p : Int} {c : Nat} {r r' x : Nat → Int} {f g : Int} (h : ∀ j, j < c → r' j = r j * f % p) (hfg : f * g % p = 1 % p) : van p c r' x ↔ van p c r x := by
 have e : van p c r' x ↔ van p c (fun j => r j * f) x := van_emod (fun j hj => by rw [h j hj, Int.emod_emod])
 rw [e]
 unfold van
 have e2 : sm c (fun j => r j * f * x j) = f * sm c (fun j => r j * x j) := by
  rw [← sm_mul]
  apply sm_congr
  intro j _
  rw [Int.mul_comm (r j) f, Int.mul_assoc]
 rw [e2]
 constructor
 · intro h0
   have h1 : (g * (f * sm c (fun j => r j * x j))) % p = 0 := by rw [Int.mul_emod, h0]; simp
   rw [← Int.mul_assoc, Int.mul_comm g f, Int.mul_emod, hfg, ← Int.mul_emod, Int.one_mul] at h1
   exact h1
 · intro h0
   rw [Int.mul_emod, h0]; simp
theorem inv_mul {p a : Int} (hp : prm p = true) (h0 : 1 ≤ a) (h1 : a < p) : a * inv p a % p = 1 :=
 (inv_iff hp h0 h1 (inv_pos hp h0 h1) (Int.le_refl _)).2 rfl
/-! ### What a reduced basis is -/
structure IsBas (p : Int) (c : Nat) (A m : List (List Int)) : Prop where
 len : ∀ i, i < m.length → (rw' m i).length = c
 red : ∃ P, Rref p m.length c (at' m) P
 nul : ∀ x, nul p A.length c (at' A) x ↔ Go.Proofs.YtgfanoejohpmkaaGreat.nul p m.length c (at' m) x
theorem IsBas.unique {p : Int} {c : Nat} {A m m' : List (List Int)} (hp : 1 < p) (h : IsBas p c A m) (h' : IsBas p c A m') : m = m' := by
 obtain ⟨P, hP⟩ := h.red
 obtain ⟨P', hP'⟩ := h'.red
 obtain ⟨e1, _, e3⟩ := hP.unique hp hP' (fun x => (h.nul x).symm.trans (h'.nul x))
 refine mat_ext e1 (fun i hi => row_ext (by rw [h.len i hi, h'.len i (by omega)]) (fun j hj => ?_))
 exact e3 i hi j (by rw [h.len i hi] at hj; exact hj)
/-! ### The model's elimination: column by column -/
structure ColAt (p : Int) (c : Nat) (A m : List (List Int)) (d k : Nat) (P : Nat → Nat) : Prop where
 n : m.length = A.length
 dn : d ≤ m.length
 len : ∀ i, i < m.length → (rw' m i).length = c
 rng : ∀ i, i < m.length → ∀ j, j < c → 0 ≤ at' m i j ∧ at' m i j < p
 pv : ∀ i, i < d → P i < k
 mono : ∀ i i', i < i' → i' < d → P i < P i'
 one : ∀ i, i < d → at' m i (P i) = 1
 zer : ∀ i, i < d → ∀ i', i' < m.length → i ≠ i' → at' m i' (P i) = 0
 fst : ∀ i, i < d → ∀ j, j < P i → at' m i j = 0
 low : ∀ i, d ≤ i → i < m.length → ∀ j, j < k → at' m i j = 0
 nul : ∀ x, Go.Proofs.YtgfanoejohpmkaaGreat.nul p A.length c (at' A) x ↔ Go.Proofs.YtgfanoejohpmkaaGreat.nul p m.length c (at' m) x
theorem ColAt.start {p : Int} {c : Nat} {A : List (List Int)} (hl : ∀ i, i < A.length → (rw' A i).length = c) (hr : ∀ i, i < A.length → ∀ j, j < c → 0 ≤ at' A i j ∧ at' A i j < p) : ColAt p c A A 0 0 (fun _ => 0) where
 n := rfl
 dn := Nat.zero_le _
 len := hl
 rng := hr
 pv i hi := by omega
 mono i i' _ hi := by omega
 one i hi := by omega
 zer i hi := by omega
 fst i hi := by omega
 low i _ _ j hj := by omega
 nul x := Iff.rfl
theorem ColAt.skip {p : Int} {c : Nat} {A m : List (List Int)} {d k : Nat} {P : Nat → Nat} (h : ColAt p c A m d k P) (hz : ∀ i, d ≤ i → i < m.length → at' m i k = 0) : ColAt p c A m d (k + 1) P :=
 { h with
  pv := fun i hi => Nat.lt_succ_of_lt (h.pv i hi)
  low := fun i h1 h2 j hj => by
   by_cases e : j = k
   · subst e; exact hz i h1 h2
   · exact h.low i h1 h2 j (by omega) }
theorem ColAt.done {p : Int} {c : Nat} {A m : List (List Int)} {d : Nat} {P : Nat → Nat} (h : ColAt p c A m d c P) : IsBas p c A (m.take d) := by
 have hl : (m.take d).length = d := by rw [List.length_take]; have := h.dn; omega
 have hrow : ∀ i, i < d → rw' (m.take d) i = rw' m i := fun i hi => by
  simp only [rw', List.getD_eq_getElem?_getD, List.getElem?_take]; rw [if_pos hi]
 have hat : ∀ i, i < d → at' (m.take d) i = at' m i := fun i hi => by funext j; unfold at'; rw [hrow i hi]
 have hdn := h.dn
 refine ⟨fun i hi => by rw [hl] at hi; rw [hrow i hi]; exact h.len i (by omega), ⟨P, ?_⟩, fun x => ?_⟩
 · rw [hl]
   exact ⟨h.pv, h.mono, fun i hi => by rw [hat i hi]; exact h.one i hi, fun i hi i' hi' hne => by rw [hat i' hi']; exact h.zer i hi i' (by omega) hne, fun i hi j hj => by rw [hat i hi]; exact h.fst i hi j hj, fun i hi j hj => by rw [hat i hi]; exact h.rng i (by omega) j hj⟩
 · rw [h.nul x, hl]
   constructor
   · intro g i hi
     have := g i (by omega)
     rw [hat i hi]; exact this
   · intro g i hi
     by_cases e : i < d
     · have := g i e
       rw [hat i e] at this; exact this
     · have e0 : sm c (fun j => at' m i j * x j) = sm c (fun _ => 0) := sm_congr (fun j hj => by rw [h.low i (by omega) hi j hj, Int.zero_mul])
       rw [e0, sm_zero]; rfl
theorem ColAt.pick {p : Int} {c : Nat} {A m m' : List (List Int)} {d k f : Nat} {P : Nat → Nat} (hp : prm p = true) (h : ColAt p c A m d k P) (hk : k < c) (hdf : d ≤ f) (hf : f < m.length) (ha : 1 ≤ at' m f k)
 (hn : m'.length = m.length) (hl : ∀ i, i < m'.length → (rw' m' i).length = c)
 (hd : ∀ j, j < c → at' m' d j = at' m f j * inv p (at' m f k) % p)
 (ho : ∀ i, i < m.length → i ≠ d → ∀ j, j < c → at' m' i j = (at' m (if i = f then d else i) j + (p - at' m (if i = f then d else i) k) % p * at' m' d j) % p) :
 ColAt p c A m' (d + 1) (k + 1) (fun i => if i = d then k else P i) := by
 have hpb := prm_bd hp
 have hak := h.rng f hf k hk
 have hdk : at' m' d k = 1 := by rw [hd k hk]; exact inv_mul hp ha hak.2
 have hd0 : ∀ j, j < k → at' m' d j = 0 := fun j hj => by rw [hd j (by omega), h.low f hdf hf j hj]; simp
 have hsig : ∀ i, i < m.length → i ≠ d → (if i = f then d else i) < m.length := fun i hi hne => by split <;> omega
 have hok : ∀ i, i < m.length → i ≠ d → at' m' i k = 0 := fun i hi hne => by
  rw [ho i hi hne k hk, hdk, Int.mul_one]
  have r := h.rng _ (hsig i hi hne) k hk
  by_cases e : at' m (if i = f then d else i) k = 0
  · rw [e]; simp
  · rw [Int.emod_eq_of_lt (a := p - at' m (if i = f then d else i) k) (by omega) (by omega)]
    have : at' m (if i = f then d else i) k + (p - at' m (if i = f then d else i) k) = p := by omega
    rw [this]; simp
 have hkeep : ∀ i, i < m.length → i ≠ d → ∀ j, j < k → at' m' i j = at' m (if i = f then d else i) j := fun i hi hne j hj => by
  rw [ho i hi hne j (by omega), hd0 j hj, Int.mul_zero, Int.add_zero]
  have r := h.rng _ (hsig i hi hne) j (by omega)
  exact Int.emod_eq_of_lt r.1 r.2
 refine ⟨by rw [hn, h.n], by omega, hl, fun i hi j hj => ?_, fun i hi => ?_, fun i i' hii hi' => ?_, fun i hi => ?_, fun i hi i' hi' hne => ?_, fun i hi j hj => ?_, fun i hi0 hi j hj => ?_, fun x => ?_⟩
 · rw [hn] at hi
   by_cases e : i = d
   · subst e; rw [hd j hj]; exact mod_bd hp _
   · rw [ho i hi e j hj]; exact mod_bd hp _
 · show (if i = d then k else P i) < k + 1
   by_cases e : i = d
   · rw [if_pos e]; omega
   · rw [if_neg e]; have := h.pv i (by omega); omega
 · show (if i = d then k else P i) < if i' = d then k else P i'
   have e : ¬ i = d := by omega
   rw [if_neg e]
   by_cases e' : i' = d
   · rw [if_pos e']; exact h.pv i (by omega)
   · rw [if_neg e']; exact h.mono i i' hii (by omega)
 · show at' m' i (if i = d then k else P i) = 1
   by_cases e : i = d
   · rw [if_pos e, e]; exact hdk
   · have hid : i < d := by omega
     rw [if_neg e, hkeep i (by have := h.dn; omega) e _ (h.pv i hid), if_neg (by omega)]
     exact h.one i hid
 · show at' m' i' (if i = d then k else P i) = 0
   rw [hn] at hi'
   by_cases e : i = d
   · rw [if_pos e]; exact hok i' hi' (by omega)
   · have hid : i < d := by omega
     rw [if_neg e]
     by_cases e' : i' = d
     · rw [e']; exact hd0 _ (h.pv i hid)
     · rw [hkeep i' hi' e' _ (h.pv i hid)]
       refine h.zer i hid _ (hsig i' hi' e') ?_
       split <;> omega
 · show at' m' i j = 0
   have hj' : j < (if i = d then k else P i) := hj
   by_cases e : i = d
   · rw [if_pos e] at hj'; rw [e]; exact hd0 j hj'
   · have hid : i < d := by omega
     rw [if_neg e] at hj'
     rw [hkeep i (by have := h.dn; omega) e j (by have := h.pv i hid; omega), if_neg (by omega)]
     exact h.fst i hid j hj'
 · rw [hn] at hi
   have e : ¬ i = d := by omega
   by_cases ek : j = k
   · rw [ek]; exact hok i hi e
   · rw [hkeep i hi e j (by omega)]
     refine h.low _ ?_ (hsig i hi e) j (by omega)
     split <;> omega
 · rw [h.nul x]
   have vd : van p c (at' m' d) x ↔ van p c (at' m f) x := van_scale (g := at' m f k) hd (by rw [Int.mul_comm, inv_mul hp ha hak.2, Int.emod_eq_of_lt (by omega) (by omega)])
   have vo : van p c (at' m f) x → ∀ i, i < m.length → i ≠ d → (van p c (at' m' i) x ↔ van p c (at' m (if i = f then d else i)) x) := fun hv i hi hne => van_add (ho i hi hne) (vd.2 hv)
   constructor
   · intro g i hi
     rw [hn] at hi
     by_cases e : i = d
     · subst e; exact vd.2 (g f hf)
     · exact (vo (g f hf) i hi e).2 (g _ (hsig i hi e))
   · intro g i hi
     have hvf : van p c (at' m f) x := vd.1 (g d (by rw [hn]; omega))
     by_cases e : i = f
     · subst e; exact hvf
     · by_cases e' : i = d
       · have hfd : f ≠ d := by omega
         have := (vo hvf f hf hfd).1 (g f (by rw [hn]; exact hf))
         rw [if_pos rfl] at this
         rw [e']; exact this
       · have := (vo hvf i hi e').1 (g i (by rw [hn]; exact hi))
         rw [if_neg e] at this
         exact this
def fstN (z : List Int) : Nat := z.findIdx (fun x => x != 0)
theorem fstN_eq {z : List Int} {q : Nat} (hq : q < z.length) (h1 : z.getD q 0 ≠ 0) (h0 : ∀ j, j < q → z.getD j 0 = 0) : fstN z = q := by
 unfold fstN
 rw [List.findIdx_eq hq]
 refine ⟨by simpa [List.getD, hq] using h1, fun j hj => ?_⟩
 have := h0 j hj
 have hj' : j < z.length := by omega
 simp [List.getD, hj'] at this
 simp [this]
theorem fstN_lt {z : List Int} (h : fstN z < z.length) : z.getD (fstN z) 0 ≠ 0 := by
 have h1 := List.findIdx_getElem (xs := z) (p := fun x => x != 0) (w := h)
 have h2 : z.getD (fstN z) 0 = z[z.findIdx (fun x => x != 0)]'h := by unfold fstN at h ⊢; simp [List.getD, h]
 rw [h2]
 exact (bne_iff_ne).1 h1
def pvs (B : List (List Int)) (i : Nat) : Nat := fstN (rw' B i)
theorem Rref.pvs {p : Int} {c : Nat} {B : List (List Int)} {P : Nat → Nat} (h : Rref p B.length c (at' B) P) (hl : ∀ i, i < B.length → (rw' B i).length = c) {i : Nat} (hi : i < B.length) : Go.Proofs.YtgfanoejohpmkaaGreat.pvs B i = P i := by
 unfold Go.Proofs.YtgfanoejohpmkaaGreat.pvs
 refine fstN_eq (by rw [hl i hi]; exact h.pv i hi) ?_ (fun j hj => h.fst i hi j hj)
 have := h.one i hi
 unfold at' at this
 rw [this]; decide
theorem Rref.congrP {p : Int} {n c : Nat} {R : Nat → Nat → Int} {P P' : Nat → Nat} (h : Rref p n c R P) (e : ∀ i, i < n → P' i = P i) : Rref p n c R P' where
 pv i hi := by rw [e i hi]; exact h.pv i hi
 mono i i' hi hi' := by rw [e i (by omega), e i' hi']; exact h.mono i i' hi hi'
 one i hi := by rw [e i hi]; exact h.one i hi
 zer i hi i' hi' hne := by rw [e i hi]; exact h.zer i hi i' hi' hne
 fst i hi j hj := by rw [e i hi] at hj; exact h.fst i hi j hj
 rng := h.rng
theorem IsBas.pivs {p : Int} {c : Nat} {A B : List (List Int)} (h : IsBas p c A B) : Rref p B.length c (at' B) (pvs B) := by
 obtain ⟨P, hP⟩ := h.red
 exact hP.congrP (fun i hi => hP.pvs h.len hi)
def isPv (P : Nat → Nat) (n k : Nat) : Bool := (List.range n).any fun i => P i == k
theorem isPv_iff {P : Nat → Nat} {n k : Nat} : isPv P n k = true ↔ ∃ i, i < n ∧ P i = k := by
 unfold isPv
 rw [List.any_eq_true]
 constructor
 · rintro ⟨i, hi, h⟩; exact ⟨i, List.mem_range.1 hi, by simpa using h⟩
 · rintro ⟨i, hi, h⟩; exact ⟨i, List.mem_range.2 hi, by simpa using h⟩
theorem isPv_no {P : Nat → Nat} {n k : Nat} (h : isPv P n k = false) {i : Nat} (hi : i < n) : P i ≠ k := fun e => by
 rw [isPv_iff.2 ⟨i, hi, e⟩] at h; cases h
def kvec (p : Int) (B : List (List Int)) (P : Nat → Nat) (c i k : Nat) : List Int := mkR c fun j => kv i (at' B) P k j % p
theorem kv_zero (R : Nat → Nat → Int) (P : Nat → Nat) (k j : Nat) : kv 0 R P k j = if j = k then 1 else 0 := by simp [kv, sm]
theorem kv_succ (i : Nat) (R : Nat → Nat → Int) (P : Nat → Nat) (k j : Nat) : kv (i + 1) R P k j = kv i R P k j + (if j = P i then - R i k else 0) := by
 simp only [kv, sm]; omega
theorem kv_before {p : Int} {n c : Nat} {R : Nat → Nat → Int} {P : Nat → Nat} (h : Rref p n c R P) {i k : Nat} (hi : i < n) (hk : P i ≠ k) : kv i R P k (P i) = 0 := by
 have e : sm i (fun i' => if P i = P i' then - R i' k else 0) = sm i (fun _ => 0) := sm_congr (fun i' hi' => by
  have := h.mono i' i hi' hi
  rw [if_neg (by omega)])
 unfold kv
 rw [e, sm_zero, if_neg hk]; rfl
theorem kvec_step {p : Int} {c : Nat} {B : List (List Int)} {P : Nat → Nat} {n i k : Nat} (h : Rref p n c (at' B) P) (hi : i < n) (hk : P i ≠ k) {j : Nat} (hj : j < c) :
 kv (i + 1) (at' B) P k j % p = if j = P i then (p - at' B i k) % p else kv i (at' B) P k j % p := by
 rw [kv_succ]
 by_cases e : j = P i
 · subst e
   rw [if_pos rfl, if_pos rfl, kv_before h hi hk, Int.zero_add, Int.sub_eq_add_neg, Int.add_emod p, Int.emod_self, Int.zero_add, Int.emod_emod]
 · rw [if_neg e, if_neg e, Int.add_zero]
def kerN (p : Int) (B : List (List Int)) (P : Nat → Nat) (c n : Nat) : Nat → List (List Int)
 | 0 => []
 | k + 1 => if isPv P n k = true then kerN p B P c n k else kerN p B P c n k ++ [kvec p B P c n k]
theorem kerN_pv {p : Int} {B : List (List Int)} {P : Nat → Nat} {c n k : Nat} (h : isPv P n k = true) : kerN p B P c n (k + 1) = kerN p B P c n k := if_pos h
theorem kerN_no {p : Int} {B : List (List Int)} {P : Nat → Nat} {c n k : Nat} (h : isPv P n k = false) : kerN p B P c n (k + 1) = kerN p B P c n k ++ [kvec p B P c n k] := if_neg (by simp [h])
theorem kerN_len (p : Int) (B : List (List Int)) (P : Nat → Nat) (c n k : Nat) : (kerN p B P c n k).length ≤ k := by
 induction k with
 | zero => simp [kerN]
 | succ k ih =>
  cases h : isPv P n k with
  | true => rw [kerN_pv h]; omega
  | false => rw [kerN_no h]; simp; omega
theorem kerN_mem {p : Int} {B : List (List Int)} {P : Nat → Nat} {c n k : Nat} {z : List Int} (h : z ∈ kerN p B P c n k) : ∃ k', k' < k ∧ z = kvec p B P c n k' := by
 induction k with
 | zero => simp [kerN] at h
 | succ k ih =>
  cases e : isPv P n k with
  | true => rw [kerN_pv e] at h; obtain ⟨k', h1, h2⟩ := ih h; exact ⟨k', by omega, h2⟩
  | false =>
   rw [kerN_no e] at h
   rcases List.mem_append.1 h with h | h
   · obtain ⟨k', h1, h2⟩ := ih h; exact ⟨k', by omega, h2⟩
   · exact ⟨k, by omega, by simpa using h⟩
theorem kerN_lst {p : Int} {B : List (List Int)} {P : Nat → Nat} {c n k : Nat} (hp : prm p = true) (hc : 1 ≤ c) (hc2 : c ≤ 16) (hk : k ≤ c) : Lst 0 p (kerN p B P c n k) := by
 have hpb := prm_bd hp
 have hl := kerN_len p B P c n k
 have key : ∀ i, i < (kerN p B P c n k).length → ∃ k', rw' (kerN p B P c n k) i = kvec p B P c n k' := fun i hi => by
  obtain ⟨k', _, h⟩ := kerN_mem (mem_row hi)
  exact ⟨k', h⟩
 have hlen : ∀ i, i < (kerN p B P c n k).length → (rw' (kerN p B P c n k) i).length = c := fun i hi => by
  obtain ⟨k', h⟩ := key i hi
  rw [h]; exact mkR_len _ _
 refine ⟨hp, Nat.zero_le _, by omega, fun i hi => ?_, fun i hi => ?_, fun i hi => ?_, fun i hi => ?_⟩
 · rw [hlen i hi, hlen 0 (by omega)]
 · rw [hlen i hi]; exact hc
 · rw [hlen i hi]; exact hc2
 · obtain ⟨k', h⟩ := key i hi
   rw [h, List.all_eq_true]
   intro x hx
   unfold kvec mkR at hx
   obtain ⟨j, _, rfl⟩ := List.mem_map.1 hx
   have h0 := Int.emod_nonneg (kv n (at' B) P k' j) (by omega : p ≠ 0)
   have h1 := Int.emod_lt_of_pos (kv n (at' B) P k' j) (by omega : 0 < p)
   simp [inr, h0, h1]
end Go.Proofs.YtgfanoejohpmkaaGreat