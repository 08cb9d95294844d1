/-
  Powers of matrices, in the program and in the model.
  Conditions: the matrix is nil or a row of rows of known cells.
  Whether what is around vectors is vectors (program): contracts of the program and of the model.
  Conditions: the lists are nil or rows of known cells, of at most 1048576 numbers.
-/
import Derived.Test.YthbkfpkeofpocaaGreatQv17
import Derived.Test.YthbkfpkeofpocaaGreatQv5
import Derived.Deep.RegionHeld3
import Derived.Deep.DeepCutAuto
namespace Go.Proofs.YthbkfpkeofpocaaGreat
open Go.RowKit
set_option linter.unusedVariables false

set_option maxHeartbeats 1600000 in
theorem unitMatrix_any (n : Nat) (w : World) (hn : n ≤ 1024) (h0 : 1 ≤ n) :
    Calls Tryz.prog 53 #[.int .i64 n] w (OwnNew (oneM n) w) := by
  go_enter Tryz.func53, Tryz.ntmps53
  go_wp2_with (go_at_call 74; (with_reducible refine (newMatrix_any n n _ (by omega) (by omega) (by omega)).mono ?_); rintro e w1 ⟨q, rfl, ho1, hb1⟩; have HO1 := Lib.hid ho1; have HB1 := Lib.hid hb1; clear ho1 hb1)
  go_loopw [10] (fun t wr => ∃ i : Nat, i ≤ n ∧ t = .int .i64 i ∧ OwnAt w.heap.size w1.heap.size wr q n (fun _ => n) (fun k j => if k < i ∧ k = j then 1 else 0) ∧ Below w.heap.size w wr ∧ wr.heap.size = w1.heap.size) (fun t _ => n - (intOf t).toNat)
  case atStart => exact ⟨0, Nat.zero_le _, rfl, HO1.out.congr (fun i _ j _ => by simp), HB1.out, rfl⟩
  case round =>
    obtain ⟨i, hi, rfl, ho, hbel, hsz⟩ := hrel
    have HO := Lib.hid ho
    have HBEL := Lib.hid hbel
    have HSZ := Lib.hid hsz
    clear hsz hbel
    by_cases hlt : i < n
    · have ht3 := ho.top i hlt
      have hR := (ho.row i hlt).resolve_left (by omega)
      rw [hR] at ht3
      have hf3 := ho.free i hlt i hlt
      have hrg := ho.rrng i hlt (by omega)
      obtain ⟨y, hy⟩ : ∃ y, wr.cell? ⟨q.B i, q.O i + i, none⟩ = some (.int .i64 y) := ⟨_, ho.cell i hlt i hlt⟩
      have hi1 : (i : Int) < (n : Int) := by omega
      clear ho hR
      go_wp2
      go_roundw
      case rel => exact ⟨i + 1, by omega, by go_num, (HO.out.set hlt hlt 1).congr (fun k hk j _ => by
        by_cases e1 : k = i ∧ j = i
        · obtain ⟨rfl, rfl⟩ := e1
          rw [if_pos ⟨rfl, rfl⟩, if_pos ⟨by omega, rfl⟩]
        · rw [if_neg e1]
          by_cases e2 : k < i ∧ k = j
          · rw [if_pos e2, if_pos ⟨by omega, e2.2⟩]
          · rw [if_neg e2, if_neg (by omega)]), HBEL.out.setCell hrg.1 _, by simpa [World.setCell] using HSZ.out⟩
      case measure => simp [intOf]; omega
    · have hn : i = n := by omega
      subst hn
      have HF := Lib.hid (HO.out.congr (Z' := fun k j => if k = j then 1 else 0) (fun k hk j _ => by
        by_cases e : k = j
        · rw [if_pos ⟨hk, e⟩, if_pos e]
        · rw [if_neg (fun h => e h.2), if_neg e]))
      clear ho
      go_wp2
      go_ret
      exact ⟨_, i, by unfold oneM; rw [mk_len]; rfl, (HF.out.mono (Nat.le_refl _) (by rw [HSZ.out]; exact Nat.le_refl _)).ownM, HBEL.out⟩

/-! ### Powers -/
def pwF (p : Int) : Nat → Nat → List (List Int) → List (List Int) → List (List Int)
  | 0, _, out, _ => out
  | f + 1, k, out, step => if k = 0 then out else pwF p f (k / 2) (if k % 2 = 1 then mulM p out step else out) (mulM p step step)
def powM (p : Int) (m : List (List Int)) (k : Nat) : List (List Int) := pwF p 11 k (oneM m.length) m
/-- A square matrix with n rows of numbers. -/
def Sq (p : Int) (m : List (List Int)) (n : Nat) : Prop := Rect p m n ∧ m.length = n
theorem Sq.one {p : Int} (hp : prm p = true) {n : Nat} (hn : n ≤ 1024) : Sq p (oneM n) n := by
  have := prm_bd hp
  refine ⟨⟨by unfold oneM; rw [mk_len]; exact hn, hn, fun i hi => ?_, fun i hi j hj => ?_⟩, by unfold oneM; rw [mk_len]⟩
  · unfold oneM at hi ⊢; rw [mk_len] at hi; exact mk_rowLen _ hi
  · unfold oneM at hi hj ⊢
    rw [mk_len] at hi
    rw [mk_rowLen _ hi] at hj
    have e : (rw' (mk n n fun i j => if i = j then 1 else 0) i).getD j 0 = if i = j then 1 else 0 := mk_at _ hi hj
    rw [e]; split <;> omega
theorem Sq.size {p : Int} {m : List (List Int)} {n : Nat} (h : Sq p m n) (hn : n ≤ 16) : m.length + tot m m.length ≤ 1048576 := by
  rw [tot_const h.1.len (Nat.le_refl _), h.2]
  have : n * n ≤ 16 * 16 := Nat.mul_le_mul hn hn
  omega
theorem Sq.of {p : Int} {m : List (List Int)} (h : Lst 1 p m) (k : m.length = (rw' m 0).length) : Sq p m m.length := ⟨by rw [k]; have := rect_of h; exact this, rfl⟩
/-- Where a loop of powers stands: f rounds may come. -/
def PwAt (p : Int) (m : List (List Int)) (k0 k f : Nat) (out step : List (List Int)) : Prop :=
  k < 2 ^ f ∧ f ≤ 11 ∧ pwF p f k out step = powM p m k0 ∧ Sq p out m.length ∧ Sq p step m.length
theorem PwAt.start {p : Int} {m : List (List Int)} {k : Nat} (h : Lst 1 p m) (hq : m.length = (rw' m 0).length) (hk : k ≤ 1000) : PwAt p m k k 11 (oneM m.length) m :=
  ⟨by omega, Nat.le_refl _, rfl, Sq.one h.prime (by have := h.hi; omega), Sq.of h hq⟩
theorem Sq.r2 {p : Int} {a b : List (List Int)} {n : Nat} (ha : Sq p a n) (hb : Sq p b n) : Rect p a b.length := by rw [hb.2]; exact ha.1
theorem Sq.r0 {p : Int} {b : List (List Int)} {n : Nat} (hb : Sq p b n) (h0 : 0 < n) : Rect p b (rw' b 0).length ∧ 0 < b.length := by
  rw [hb.1.len 0 (by rw [hb.2]; exact h0), hb.2]; exact ⟨hb.1, h0⟩
end Go.Proofs.YthbkfpkeofpocaaGreat

namespace Go.Proofs.YthbkfpkeofpocaaGreat
open Go.RowKit
set_option linter.unusedVariables false

set_option maxRecDepth 100000 in
set_option maxHeartbeats 3200000 in
theorem vectorNumbers_any (pS : Int) (aS : Option Addr) (S : List Int) (cS loS tpS : Nat) (az : Option Addr) (z : List Int) (cz loz tpz : Nat) (w : World) (hs : isSp pS S = true) (hS : RowIn loS tpS w aS S) (tS : tpS ≤ w.heap.size) (hz : RowIn loz tpz w az z) (tz : tpz ≤ w.heap.size) (lz : z.length = bl S) :
    Calls Tryz.prog 89 #[.agg #[.int .i64 pS, .slice aS S.length cS], .slice az z.length cz] w (NewRow S.length (vnF z) w) := by
  have HS := Lib.hid hS
  have HZ := Lib.hid hz
  have HLZ := Lib.hid lz
  have h6 := (isSp_iff.1 hs).hi
  have hl1 := (isSp_iff.1 hs).lo
  have HMK := Lib.hid (fun W => run_make_row' (P := Tryz.prog) 22 2 (.int .i64 0) 8 Tryz.underlying22 info64 rfl .i64 .i64 S.length (by omega) (by omega) W)
  have HB0 := Lib.hid (below_alloc w (.cells #[.int .i64 pS, .slice aS S.length cS] 24))
  have k0 := nw0 w (.int .i64 pS) (.slice aS S.length cS) 24
  have k1 := nw1 w (.int .i64 pS) (.slice aS S.length cS) 24
  clear hs hS hz lz
  go_enter Tryz.func89, Tryz.ntmps89
  go_upto_region 1 with fail
  obtain ⟨w1, hw1⟩ : ∃ z, z = w.alloc (.cells #[.int .i64 pS, .slice aS S.length cS] 24) := ⟨_, rfl⟩
  rw [← hw1] at HB0 k0 k1 ⊢
  have hw0 : w.heap.size < w1.heap.size := by rw [hw1]; simp
  clear hw1
  have hmk := HMK.out w1
  go_upto_region 2 with fail
  obtain ⟨W1, hW1⟩ : ∃ W1, W1 = w1.alloc (.cells (madeCells #[.int .i64 0] S.length) 2) := ⟨_, rfl⟩
  obtain ⟨g, hg⟩ : ∃ b, b = w1.heap.size := ⟨_, rfl⟩
  have HO1 : Hid (RowOwn W1 g 0 S.length (fun _ => 0)) := by show RowOwn _ _ _ _ _; rw [hW1, hg]; exact RowOwn.start w1 S.length _
  have HBW : Hid (Below w.heap.size w W1) := by show Below _ _ _; rw [hW1]; exact HB0.out.alloc HB0.out.size _
  have hu1 : g < W1.heap.size := by rw [hW1, hg]; simp
  have hwg : w.heap.size < g := by omega
  rw [← hW1, ← hg]
  clear hmk hW1 hg k0 k1
  go_wp2
  go_loopw [13] (fun t wr => ∃ i : Nat, i ≤ S.length ∧ t = .int .i64 i ∧ RowOwn wr g 0 S.length (fun j => if j < i then vnF z j else 0) ∧ Wrote g 0 S.length W1 wr) (fun t _ => S.length - (intOf t).toNat)
  case atStart => exact ⟨0, Nat.zero_le _, rfl, HO1.out.congr (fun j _ => (if_neg (Nat.not_lt_zero j)).symm), Wrote.refl _ _ _ _⟩
  case round =>
    obtain ⟨i, hi, rfl, hr, hw⟩ := hrel
    have HR := Lib.hid hr
    have HW := Lib.hid hw
    by_cases hlt : i < S.length
    · have hi6 : i < 6 := by omega
      obtain ⟨q, hq⟩ : ∃ q, q = 2 ^ i := ⟨_, rfl⟩
      have HQ := Lib.hid hq
      have hqn : q < z.length := by rw [hq, HLZ.out]; exact Nat.pow_lt_pow_right (by decide) hlt
      obtain ⟨b2, o2, ha2, l2, t2, hc2⟩ := ((HZ.out.below HBW.out tz).same (hw.same (Or.inr (Nat.le_trans tz (Nat.le_of_lt hwg))))).num hqn
      subst ha2
      have c0 := hr.cell i hlt
      have f0 := hr.free i hlt
      rw [Nat.zero_add] at c0 f0
      rw [if_neg (Nat.lt_irrefl i)] at c0
      have hi1 : (i : Int) < (S.length : Int) := by omega
      have e1 : wrap64 ((2 : Int) ^ i) = (q : Int) := by rw [hq]; exact wrap_pow hi6
      have e2 : IntKind.i64.wrap ((2 : Int) ^ i) = (q : Int) := by rw [hq]; exact vwrap_pow hi6
      have hq1 : (q : Int) < (z.length : Int) := Int.ofNat_lt.2 hqn
      clear hr hw hq
      go_wp2
      go_roundw
      case rel => exact ⟨i + 1, by omega, by go_num, row_put0 HR.out hlt (fun j _ => by
        by_cases e : j = i
        · subst e; rw [if_pos rfl, if_pos (Nat.lt_succ_self _)]; show _ = z.getD (2 ^ j) 0; rw [← HQ.out]; exact (getD_at hqn).symm
        · rw [if_neg e]
          by_cases e3 : j < i
          · rw [if_pos e3, if_pos (by omega)]
          · rw [if_neg e3, if_neg (by omega)]), wrote_put0 HW.out hlt _⟩
      case measure => simp [intOf]; omega
    · have hn : i = S.length := by omega
      subst hn
      have HN : Hid (RowOwn wr g 0 S.length (vnF z)) := hr.congr (fun j hj => if_pos hj)
      have hzw : wr.heap.size = W1.heap.size := hw.size
      clear hr hw
      go_wp2
      go_ret
      exact ⟨g, rfl, Nat.le_of_lt hwg, by rw [hzw]; exact hu1, HN.out, HBW.out.trans (HW.out.belowB (Nat.le_of_lt hwg))⟩

theorem vector_vn (pS : Int) (aS : Option Addr) (S : List Int) (cS : Nat) (z : List Int) (b lo tp : Nat) (w : World) (h6 : S.length ≤ 6) (h : RowIn lo tp w (some ⟨b, 0, none⟩) (mkR S.length (vnF z))) (th : tp ≤ w.heap.size) :
    Calls Tryz.prog 46 #[.agg #[.int .i64 pS, .slice aS S.length cS], .slice (some ⟨b, 0, none⟩) S.length S.length] w (NewRow (bl S) (vecF (vnM S.length z) S.length) w) := by
  have q := vector_any pS aS S cS (some ⟨b, 0, none⟩) (vnM S.length z) S.length lo tp w h6 (vnM_len _ _) h th
  rw [vnM_len] at q
  exact q
theorem equal_vn (p : Int) (S x : List Int) (i : Nat) (a : Option Addr) (ca b lo tp lo' tp' n : Nat) (w : World) (hs : isSp p S = true) (hn : n = bl S) (ha : RowIn lo tp w a (arM p S x (eiR S.length i))) (hb : RowIn lo' tp' w (some ⟨b, 0, none⟩) (mkR (bl S) (vecF (vnM S.length (arM p S x (eiR S.length i))) S.length))) :
    Calls Tryz.prog 78 #[.slice a n ca, .slice (some ⟨b, 0, none⟩) (bl S) (bl S)] w fun e w' => e = .returned (.bool (ldB p S x i)) ∧ Below w.heap.size w w' := by
  subst hn
  have hl : (arM p S x (eiR S.length i)).length = bl S := prodM_len _ _ _ _
  have q := equal_any a (some ⟨b, 0, none⟩) (arM p S x (eiR S.length i)) (mkR (bl S) (vecF (vnM S.length (arM p S x (eiR S.length i))) S.length)) ca (bl S) lo tp lo' tp' w ha hb (by rw [hl]; have := bl_le (isSp_iff.1 hs).hi; omega)
  rw [hl, mkR_len] at q
  refine q.mono fun e w' h => ⟨?_, h.2.below _⟩
  rw [h.1]
  unfold ldB
  rw [← vec_part (isSp_iff.1 hs).hi hl]
  unfold vecM
  rw [vnM_len]

theorem around_ei (pS : Int) (aS : Option Addr) (S : List Int) (cS loS tpS : Nat) (ax : Option Addr) (x : List Int) (cx lox tpx : Nat) (av : Option Addr) (i cv lov tpv : Nat) (w : World) (hs : isSp pS S = true) (hS : RowIn loS tpS w aS S) (tS : tpS ≤ w.heap.size) (hx : RowIn lox tpx w ax x) (tx : tpx ≤ w.heap.size) (mx : isMv pS S x = true) (hv : RowIn lov tpv w av (eiR S.length i)) (tv : tpv ≤ w.heap.size) :
    Calls Tryz.prog 88 #[.agg #[.int .i64 pS, .slice aS S.length cS, .slice ax x.length cx], .slice av S.length cv] w (OwnE (arM pS S x (eiR S.length i)) w) := by
  have q := around_own pS aS S cS loS tpS ax x cx lox tpx av (eiR S.length i) cv lov tpv w hs hS tS hx tx mx hv tv (ei_vec (by have := prm_bd (isSp_iff.1 hs).prime; omega) _ _)
  rw [show (eiR S.length i).length = S.length from mkR_len _ _] at q
  exact q
theorem vectorNumbers_n (pS : Int) (aS : Option Addr) (S : List Int) (cS loS tpS : Nat) (az : Option Addr) (z : List Int) (cz loz tpz : Nat) (w : World) (hs : isSp pS S = true) (hS : RowIn loS tpS w aS S) (tS : tpS ≤ w.heap.size) (hz : RowIn loz tpz w az z) (tz : tpz ≤ w.heap.size) (lz : z.length = bl S) :
    Calls Tryz.prog 89 #[.agg #[.int .i64 pS, .slice aS S.length cS], .slice az (bl S) cz] w (NewRow S.length (vnF z) w) := by
  have q := vectorNumbers_any pS aS S cS loS tpS az z cz loz tpz w hs hS tS hz tz lz
  rw [lz] at q
  exact q

set_option maxRecDepth 100000 in
set_option maxHeartbeats 6400000 in
theorem leadsToVectors_any (pS : Int) (aS : Option Addr) (S : List Int) (cS loS tpS : Nat) (ax : Option Addr) (x : List Int) (cx lox tpx : Nat) (w : World) (hs : isSp pS S = true) (hS : RowIn loS tpS w aS S) (tS : tpS ≤ w.heap.size) (hx : RowIn lox tpx w ax x) (tx : tpx ≤ w.heap.size) (mx : isMv pS S x = true) :
    Calls Tryz.prog 73 #[.agg #[.int .i64 pS, .slice aS S.length cS, .slice ax x.length cx]] w (fun e w' => e = .returned (.bool ((List.range S.length).all (ldB pS S x))) ∧ Below w.heap.size w w') := by
  have HI := Lib.hid hs
  have HS := Lib.hid hS
  have Hx := Lib.hid hx
  have HMx := Lib.hid mx
  have h6 := (isSp_iff.1 hs).hi
  have hpb := prm_bd (isSp_iff.1 hs).prime
  have hbl := bl_le h6
  have hb0 := bl_pos S
  have HB0 := Lib.hid (below_alloc w (.cells #[.int .i64 pS, .slice aS S.length cS, .slice ax x.length cx] 46))
  have k0 := BoxM.new w pS aS S.length cS ax x.length cx 46
  have hl1 := (isSp_iff.1 hs).lo
  have hp1 : 1 < pS := by omega
  clear hs hS hx mx
  go_enter Tryz.func73, Tryz.ntmps73
  go_upto_region 2 with fail
  obtain ⟨w0, hw0'⟩ : ∃ z, z = w.alloc (.cells #[.int .i64 pS, .slice aS S.length cS, .slice ax x.length cx] 46) := ⟨_, rfl⟩
  rw [← hw0'] at HB0 k0 ⊢
  have hw0 : w.heap.size < w0.heap.size := by rw [hw0']; simp
  have hwz : w.heap.size + 1 = w0.heap.size := by rw [hw0']; simp
  try rw [hwz]
  clear hw0'
  obtain ⟨wB, hwB⟩ : ∃ z, z = w0.alloc (.cells #[.int .i64 pS, .slice aS S.length cS] 24) := ⟨_, rfl⟩
  obtain ⟨gs, hgs⟩ : ∃ b, b = w0.heap.size := ⟨_, rfl⟩
  have hs0 : BoxV w.heap.size gs pS aS S.length cS ax x.length cx wB := by
    have h := k0.below (below_alloc w0 (.cells #[.int .i64 pS, .slice aS S.length cS] 24)) hw0
    rw [← hwB] at h
    exact ⟨h.1, h.2.1, h.2.2, by rw [hwB, hgs]; simp [go_sem], by rw [hwB, hgs]; simp [go_sem]⟩
  have HB1 : Hid (Below w.heap.size w wB) := by show Below _ _ _; rw [hwB]; exact HB0.out.alloc HB0.out.size _
  have hg1 : gs < wB.heap.size := by rw [hwB, hgs]; simp
  have hwg : w.heap.size < gs := by omega
  rw [← hwB]
  rw [← hgs]
  clear hwB hwz hgs k0
  have hs1 : Hid (BoxV w.heap.size gs pS aS S.length cS ax x.length cx wB) := hs0
  have HBD : Hid (Below w.heap.size w wB) := HB1.out
  have hd0 : w.heap.size < wB.heap.size ∧ gs < wB.heap.size := ⟨Nat.lt_trans hwg hg1, hg1⟩
  clear hs0
  obtain ⟨c0, c1, c2, c3, c4⟩ := hs1.out
  have HBB := HBD
  have zB := HBB.out.size
  go_wp2_with (go_at_call 53; ((with_reducible refine (unitMatrix_any S.length wB (by omega) (by omega)).mono ?_); rintro e w2 ⟨r2, k2, rfl, o_, b_⟩; have M2 := Lib.hid o_.mat; have HB2 := Lib.hid (below_step HBB.out zB b_); have S2 := Lib.hid (hs1.out.below b_ hd0); have z2 := b_.size; clear o_ b_ c0 c1 c2 c3 c4))
  have hol : (oneM S.length).length = S.length := mk_len _ _ _
  rw [hol]
  clear hol
  have hd2 : w.heap.size < w2.heap.size ∧ gs < w2.heap.size := ⟨Nat.lt_of_lt_of_le hd0.1 z2, Nat.lt_of_lt_of_le hd0.2 z2⟩
  clear z2 zB hd0
  go_loopw [14] (fun t wr => ∃ i : Nat, i ≤ S.length ∧ t = .int .i64 i ∧ (∀ j, j < i → ldB pS S x j = true) ∧ Below w2.heap.size w2 wr) (fun t _ => S.length - (intOf t).toNat)
  case atStart => exact ⟨0, Nat.zero_le _, rfl, fun j hj => by omega, Below.refl _ _⟩
  case round =>
    obtain ⟨i, hi, rfl, hall, hbel⟩ := hrel
    have HALL := Lib.hid hall
    have HBEL := Lib.hid hbel
    have hwz := hbel.size
    have HBR : Hid (Below w.heap.size w wr) := below_step HB2.out HB2.out.size hbel
    have SR : Hid (BoxV w.heap.size gs pS aS S.length cS ax x.length cx wr) := S2.out.below hbel hd2
    have hdr : w.heap.size < wr.heap.size ∧ gs < wr.heap.size := ⟨Nat.lt_of_lt_of_le hd2.1 hwz, Nat.lt_of_lt_of_le hd2.2 hwz⟩
    by_cases hlt : i < S.length
    · obtain ⟨b9, o9, rv, cv, ha9, _, hb9, hr9, hrow⟩ := (M2.out.below hbel (Nat.le_refl _)).row (show i < (oneM S.length).length by rw [show (oneM S.length).length = S.length from mk_len _ _ _]; exact hlt)
      subst ha9
      have hi1 : (i : Int) < (S.length : Int) := by omega
      have hei : rw' (oneM S.length) i = eiR S.length i := mk_row _ hlt
      rw [hei] at hr9 hrow
      have HROW := Lib.hid hrow
      have HVV := Lib.hid (ei_vec hp1 S.length i)
      have HVL : Hid ((eiR S.length i).length = S.length) := mkR_len _ _
      rw [HVL.out] at hr9
      have hel : (arM pS S x (eiR S.length i)).length = bl S := prodM_len _ _ _ _
      obtain ⟨c0, c1, c2, c3, c4⟩ := SR.out
      clear hall hbel hrow hei
      go_wp2_with (go_at_call 88; ((with_reducible refine (around_ei pS aS S cS loS tpS ax x cx lox tpx rv i cv _ w2.heap.size wr HI.out (HS.out.below HBR.out tS) (Nat.le_trans tS HBR.out.size) (Hx.out.below HBR.out tx) (Nat.le_trans tx HBR.out.size) HMx.out HROW.out hwz).mono ?_); rintro e w4 ⟨r4, k4, rfl, o_, b_⟩; rw [hel]; have R4 := Lib.hid ((OwnR.mono' o_ (Nat.le_of_lt hdr.1) (Nat.le_refl _)).row); have HB4 := Lib.hid (below_step HBR.out (Nat.le_of_lt hdr.1) b_); have S4 := Lib.hid (SR.out.below b_ hdr); have HBE4 := Lib.hid (below_step HBEL.out hwz b_); have z4 := b_.size; clear o_ b_ c0 c1 c2 c3 c4 hr9))
      clear hel
      have hs4 : Hid (BoxV w.heap.size gs pS aS S.length cS ax x.length cx w4.drew) := S4.out
      have HBE : Hid (Below w.heap.size w w4.drew) := HB4.out.drew
      have HBE5 : Hid (Below w2.heap.size w2 w4.drew) := HBE4.out.drew
      have RZ : Hid (RowIn w.heap.size w4.drew.heap.size w4.drew r4 (arM pS S x (eiR S.length i))) := R4.out
      have hd4_ : w.heap.size < w4.drew.heap.size ∧ gs < w4.drew.heap.size := ⟨Nat.lt_of_lt_of_le hdr.1 z4, Nat.lt_of_lt_of_le hdr.2 z4⟩
      have hd5_ : w2.heap.size ≤ w4.drew.heap.size := Nat.le_trans hwz z4
      clear R4 HB4 S4 HBE4 z4
      obtain ⟨B, hBe⟩ : ∃ b, b = ldB pS S x i := ⟨_, rfl⟩
      have HBQ := Lib.hid hBe
      clear hBe
      go_wp2
      go_region_held3 (fun w' => w'.cell? ⟨w.heap.size, 0, none⟩ = some (.int .i64 pS) ∧ w'.cell? ⟨w.heap.size, 1, none⟩ = some (.slice aS S.length cS) ∧ w'.cell? ⟨w.heap.size, 2, none⟩ = some (.slice ax x.length cx) ∧ w'.cell? ⟨gs, 0, none⟩ = some (.int .i64 pS) ∧ w'.cell? ⟨gs, 1, none⟩ = some (.slice aS S.length cS)) (first | exact hs4.out | exact SSa.out | exact SSab.out | exact SSabc.out | go_keep) (first | (go_at_call 89; (with_reducible refine (vectorNumbers_n pS aS S cS loS tpS r4 (arM pS S x (eiR S.length i)) k4 w.heap.size w4.drew.heap.size w4.drew HI.out (HS.out.below HBE.out tS) (Nat.le_trans tS (HBE.out).size) RZ.out (Nat.le_refl _) (arM_len _ _ _ _)).mono ?_); rintro e wa ⟨ba, rfl, l_, u_, o_, b_⟩; have SSa := Lib.hid ((hs4.out).below b_ hd4_); have HBa := Lib.hid (below_step HBE.out (Nat.le_of_lt hd4_.1) b_); have zz_ := b_.size; have HCa := Lib.hid b_; have hda := And.intro (Nat.lt_of_lt_of_le hd4_.1 zz_) (Nat.lt_of_lt_of_le hd4_.2 zz_); have la := Nat.lt_of_lt_of_le hd4_.1 l_; have ua_a := u_; have Na_a := Lib.hid o_; have Ra_a := Lib.hid ((o_.own (Nat.le_of_lt la) u_).row); clear b_ o_) | (go_at_call 46; (with_reducible refine (vector_vn pS aS S cS (arM pS S x (eiR S.length i)) ba w.heap.size wa.heap.size wa h6 Ra_a.out (Nat.le_refl _)).mono ?_); rintro e wab ⟨bb, rfl, l_, u_, o_, b_⟩; have SSab := Lib.hid ((SSa.out).below b_ hda); have HBab := Lib.hid (below_step HBa.out (Nat.le_of_lt hda.1) b_); have zz_ := b_.size; have HCab := Lib.hid (below_step HCa.out (HCa.out).size b_); have hdab := And.intro (Nat.lt_of_lt_of_le hda.1 zz_) (Nat.lt_of_lt_of_le hda.2 zz_); have Ra_ab := Lib.hid ((Ra_a.out.below b_ (Nat.le_refl _)).mono (Nat.le_refl _) zz_); have Na_ab := Lib.hid (Na_a.out.stay (b_.block ba ua_a)); have ua_ab := Nat.lt_of_lt_of_le ua_a zz_; have lb := Nat.lt_of_lt_of_le hda.1 l_; have ub_ab := u_; have Nb_ab := Lib.hid o_; have Rb_ab := Lib.hid ((o_.own (Nat.le_of_lt lb) u_).row); clear b_ o_) | (go_at_call 78; (with_reducible refine (equal_vn pS S x i r4 k4 bb w.heap.size w4.drew.heap.size w.heap.size wab.heap.size (bl S) wab HI.out rfl (RZ.out.below HCab.out (Nat.le_refl _)) Rb_ab.out).mono ?_); rintro e wabc ⟨rfl, b_⟩; rw [← HBQ.out]; have SSabc := Lib.hid ((SSab.out).below b_ hdab); have HBabc := Lib.hid (below_step HBab.out (Nat.le_of_lt hdab.1) b_); have zz_ := b_.size; have HCabc := Lib.hid (below_step HCab.out (HCab.out).size b_); have hdabc := And.intro (Nat.lt_of_lt_of_le hdab.1 zz_) (Nat.lt_of_lt_of_le hdab.2 zz_); have Ra_abc := Lib.hid ((Ra_ab.out.below b_ (Nat.le_refl _)).mono (Nat.le_refl _) zz_); have Na_abc := Lib.hid (Na_ab.out.stay (b_.block ba ua_ab)); have ua_abc := Nat.lt_of_lt_of_le ua_ab zz_; have Rb_abc := Lib.hid ((Rb_ab.out.below b_ (Nat.le_refl _)).mono (Nat.le_refl _) zz_); have Nb_abc := Lib.hid (Nb_ab.out.stay (b_.block bb ub_ab)); have ub_abc := Nat.lt_of_lt_of_le ub_ab zz_; clear b_))
      cases hBv : B with
      | true =>
        have HB1 : Hid (ldB pS S x i = true) := by show _ = _; rw [← HBQ.out, hBv]
        clear hBv
        go_wp2
        go_roundw
        case rel => exact ⟨i + 1, by omega, by go_num, fun j hj => by
          by_cases e : j = i
          · subst e; exact HB1.out
          · exact HALL.out j (by omega), below_step HBE5.out hd5_ HCabc.out⟩
        case measure => simp [intOf]; omega
      | false =>
        have HB1 : Hid (ldB pS S x i = false) := by show _ = _; rw [← HBQ.out, hBv]
        have HV : Hid ((List.range S.length).all (ldB pS S x) = false) := by
          show _ = _
          rw [List.all_eq_false]
          exact ⟨i, List.mem_range.2 hlt, by rw [HB1.out]; decide⟩
        clear hBv
        go_wp2
        go_ret
        exact ⟨by rw [HV.out]; rfl, HBabc.out⟩
    · have hin : i = S.length := by omega
      subst hin
      have HV : Hid ((List.range S.length).all (ldB pS S x) = true) := List.all_eq_true.2 fun j hj => hall j (List.mem_range.1 hj)
      obtain ⟨c0, c1, c2, c3, c4⟩ := SR.out
      clear hall hbel
      go_wp2
      go_ret
      exact ⟨by rw [HV.out]; rfl, HBR.out⟩

end Go.Proofs.YthbkfpkeofpocaaGreat
