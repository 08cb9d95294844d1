/-
  The walk of the law on products of vectors: FnPairs.
  Conditions: the code is nil or a row of known bytes.
-/
import Derived.Test.YtcamegdjdjacpaaDl5
import Derived.Test.YtcamegdjdjacpaaPaM
import Derived.Deep.RegionHeld3
import Derived.Deep.DeepCutAuto
namespace Go.Proofs.Ytcamegdjdjacpaa
open Go.RowKit
set_option linter.unusedVariables false

theorem below_alloc3 (w : World) (o1 o2 o3 : Obj) : Below w.heap.size w (((w.alloc o1).alloc o2).alloc o3) := (((below_alloc w o1).alloc (size_alloc w o1) o2).alloc (Nat.le_trans (size_alloc w o1) (size_alloc _ o2)) o3)
theorem all_two (f : List Int → Bool) (x y : List Int) : [x, y].all f = (f x && f y) := by simp
theorem numsV {p : Int} {n : Nat} {v : List Int} (h : isVec p n v = true) : ∀ j, j < v.length → 0 ≤ v.getD j 0 ∧ v.getD j 0 < p := fun j hj => (isVec_iff.1 h).num (by rw [← (isVec_iff.1 h).len]; exact hj)
theorem mul13 {p k o : Int} (h13 : p ≤ 13) (k0 : 0 ≤ k) (k1 : k < p) (o0 : 0 ≤ o) (o1 : o < p) : 0 ≤ k * o ∧ k * o ≤ 169 :=
  ⟨Int.mul_nonneg k0 o0, Int.le_trans (Int.mul_le_mul_of_nonneg_right (by omega : k ≤ 13) o0) (by omega)⟩
theorem built22 (W : World) (a n m b : Int) (T1 T2 : TypeId) :
    MatIn 0 (((W.alloc (.cells #[.int .i64 a, .int .i64 n] T1)).alloc (.cells #[.int .i64 m, .int .i64 b] T1)).alloc (.cells #[.slice (some ⟨W.heap.size, 0, none⟩) 2 2, .slice (some ⟨W.heap.size + 1, 0, none⟩) 2 2] T2)).heap.size (((W.alloc (.cells #[.int .i64 a, .int .i64 n] T1)).alloc (.cells #[.int .i64 m, .int .i64 b] T1)).alloc (.cells #[.slice (some ⟨W.heap.size, 0, none⟩) 2 2, .slice (some ⟨W.heap.size + 1, 0, none⟩) 2 2] T2)) (some ⟨W.heap.size + 2, 0, none⟩) [[a, n], [m, b]] := by
  refine .inr ⟨W.heap.size + 2, 0, rfl, Nat.zero_le _, by simp, fun i hi => ?_⟩
  match i, hi with
  | 0, _ =>
    refine ⟨some ⟨W.heap.size, 0, none⟩, 2, by simp [go_sem, rw'], .inr ⟨W.heap.size, 0, rfl, Nat.zero_le _, by simp; omega, fun j hj => ?_⟩⟩
    match j, hj with
    | 0, _ => simp [go_sem, rw']
    | 1, _ => simp [go_sem, rw']
  | 1, _ =>
    refine ⟨some ⟨W.heap.size + 1, 0, none⟩, 2, by simp [go_sem, rw'], .inr ⟨W.heap.size + 1, 0, rfl, Nat.zero_le _, by simp, fun j hj => ?_⟩⟩
    match j, hj with
    | 0, _ => simp [go_sem, rw']
    | 1, _ => simp [go_sem, rw']
theorem pairs_in {W : World} {lo tp lo' tp' cv cu b : Nat} {a a' : Option Addr} {v u : List Int} (hb' : b = W.heap.size) (hv : RowIn lo tp W a v) (tv : tp ≤ W.heap.size) (hu : RowIn lo' tp' W a' u) (tu : tp' ≤ W.heap.size) (T : TypeId) :
    MatIn 0 (W.alloc (.cells #[.slice a v.length cv, .slice a' u.length cu] T)).heap.size (W.alloc (.cells #[.slice a v.length cv, .slice a' u.length cu] T)) (some ⟨b, 0, none⟩) [v, u] := by
  subst hb'
  refine .inr ⟨W.heap.size, 0, rfl, Nat.zero_le _, lt_alloc W _, fun i hi => ?_⟩
  have hb := below_alloc W (.cells #[.slice a v.length cv, .slice a' u.length cu] T)
  match i, hi with
  | 0, _ => exact ⟨a, cv, by simp [go_sem, rw'], (hv.below hb tv).mono (Nat.zero_le _) (Nat.le_trans tv (size_alloc W _))⟩
  | 1, _ => exact ⟨a', cu, by simp [go_sem, rw'], (hu.below hb tu).mono (Nat.zero_le _) (Nat.le_trans tu (size_alloc W _))⟩
theorem gram22 (p : Int) (S v w : List Int) : gramM p S [v, w] = [[pairN p S v v, pairN p S v w], [pairN p S v w, pairN p S w w]] := by
  have h : pairN p S w v = pairN p S v w := pairN_comm p S w v
  unfold gramM mk gramF
  simp [mkR, List.range_succ, rw', h]

set_option maxRecDepth 100000 in
set_option maxHeartbeats 16000000 in
theorem law_pairs_small (a0 : Option Addr) (len cap : Nat) (zs : List Int) (w0 : World) (hb : Code8 w0 a0 len zs) (hl : len ≤ 4096) :
    Calls Try.prog 8 #[.slice a0 len cap] w0 fun e w' => e = .returned (.bool true) ∧ Below w0.heap.size w0 w' := by
  have HC8 := Lib.hid hb
  clear hb
  go_enter Try.func8, Try.ntmps8
  go_upto_region 4 with (first | (go_at_call 12; refine (big_no a0 len cap _ hl).mono ?_; rintro e w' ⟨rfl, rfl⟩) | (go_at_call 28; (with_reducible refine (drawPair_any a0 len cap zs _ HC8.out hl).mono ?_); rintro e w ⟨pS, aS, S, cS, ax, x, cx, ay, y, cy, rfl, hX, hY, hZ, hS, hx, hy, hb0⟩; have HS := Lib.hid hS; have Hx := Lib.hid hx; have Hy := Lib.hid hy; have HB00 := Lib.hid hb0; have HL := Lib.hid (And.intro hX (And.intro hY hZ)); clear hS hx hy hb0 hX hY hZ))
  have tS : w.heap.size ≤ w.heap.size := Nat.le_refl _
  have sS : S.length ≤ 1048576 := by have := HL.out.1; omega
  have sx : x.length ≤ 1048576 := by have := HL.out.2.1; omega
  have sy : y.length ≤ 1048576 := by have := HL.out.2.2; omega
  obtain ⟨w1, hw1⟩ : ∃ z, z = w.alloc (.cells #[.int .i64 pS, .slice aS S.length cS] 26) := ⟨_, rfl⟩
  have SS1 : Hid (w1.cell? ⟨w.heap.size, 0, none⟩ = some (.int .i64 pS) ∧ w1.cell? ⟨w.heap.size, 1, none⟩ = some (.slice aS S.length cS)) := by show _ ∧ _; rw [hw1]; exact ⟨nw0 w _ _ _, nw1 w _ _ _⟩
  have HB1 : Hid (Below w.heap.size w w1) := by show Below _ _ _; rw [hw1]; exact below_alloc w _
  have hd1 : w.heap.size < w1.heap.size := by rw [hw1]; simp
  have kk0 := SS1.out.1
  have kk1 := SS1.out.2
  rw [← hw1]
  clear hw1
  rcases codeVs_cases pS S [x, y] with ⟨hi, hc⟩ | ⟨hi, ha, hc⟩ | ⟨hi, ha, hc⟩
  · have HI := Lib.hid hi
    have HC := Lib.hid hc
    clear hi hc
    go_upto_region 6 with (first | (go_at_call 30; (with_reducible refine (impl_PairOf pS aS S cS w0.heap.size w.heap.size ax x cx w0.heap.size w.heap.size ay y cy w0.heap.size w.heap.size w1 (HS.out.below HB1.out tS) (Nat.le_trans tS (HB1.out).size) sS (Hx.out.below HB1.out tS) (Nat.le_trans tS (HB1.out).size) sx (Hy.out.below HB1.out tS) (Nat.le_trans tS (HB1.out).size) sy).mono ?_); rintro e w2 ⟨rfl, b_⟩; have SS2 := Lib.hid (And.intro ((b_.cell (p := ⟨w.heap.size, 0, none⟩) hd1).trans SS1.out.1) ((b_.cell (p := ⟨w.heap.size, 1, none⟩) hd1).trans SS1.out.2)); have HB2 := Lib.hid (below_step HB1.out (Nat.le_of_lt hd1) b_); have zz_ := b_.size; have hd2 := Nat.lt_of_lt_of_le hd1 zz_; rw [HC.out]; have kc2_0 := SS2.out.1; have kc2_1 := SS2.out.2; clear b_) | (go_at_call 29; (with_reducible refine (spec_PairOf pS aS S cS w0.heap.size w.heap.size ax x cx w0.heap.size w.heap.size ay y cy w0.heap.size w.heap.size w2 (HS.out.below HB2.out tS) (Nat.le_trans tS (HB2.out).size) sS (Hx.out.below HB2.out tS) (Nat.le_trans tS (HB2.out).size) sx (Hy.out.below HB2.out tS) (Nat.le_trans tS (HB2.out).size) sy).mono ?_); rintro e w3 ⟨rfl, b_⟩; have SS3 := Lib.hid (And.intro ((b_.cell (p := ⟨w.heap.size, 0, none⟩) hd2).trans SS2.out.1) ((b_.cell (p := ⟨w.heap.size, 1, none⟩) hd2).trans SS2.out.2)); have HB3 := Lib.hid (below_step HB2.out (Nat.le_of_lt hd2) b_); have zz_ := b_.size; have hd3 := Nat.lt_of_lt_of_le hd2 zz_; rw [HC.out]; have kc3_0 := SS3.out.1; have kc3_1 := SS3.out.2; clear b_))
    have SS4 : Hid (w3.drew.cell? ⟨w.heap.size, 0, none⟩ = some (.int .i64 pS) ∧ w3.drew.cell? ⟨w.heap.size, 1, none⟩ = some (.slice aS S.length cS)) := SS3.out
    have HB4 : Hid (Below w.heap.size w w3.drew) := (HB3.out).drew
    have hd4 : w.heap.size < w3.drew.heap.size := hd3
    go_region_held3 (fun w' => w'.cell? ⟨w.heap.size, 0, none⟩ = some (.int .i64 pS) ∧ w'.cell? ⟨w.heap.size, 1, none⟩ = some (.slice aS S.length cS)) (first | exact SS4.out | exact SS5.out | exact SS6.out | go_keep) (first | (go_at_call 61; (with_reducible refine (impl_IsSpace pS aS S cS w0.heap.size w.heap.size w3.drew (HS.out.below HB4.out tS) (Nat.le_trans tS (HB4.out).size) sS).mono ?_); rintro e w5 ⟨rfl, b_⟩; have SS5 := Lib.hid (And.intro ((b_.cell (p := ⟨w.heap.size, 0, none⟩) hd4).trans SS4.out.1) ((b_.cell (p := ⟨w.heap.size, 1, none⟩) hd4).trans SS4.out.2)); have HB5 := Lib.hid (below_step HB4.out (Nat.le_of_lt hd4) b_); have zz_ := b_.size; have hd5 := Nat.lt_of_lt_of_le hd4 zz_; rw [HI.out]; have kc5_0 := SS5.out.1; have kc5_1 := SS5.out.2; clear b_) | (go_at_call 62; (with_reducible refine (spec_IsSpace pS aS S cS w0.heap.size w.heap.size w5 (HS.out.below HB5.out tS) (Nat.le_trans tS (HB5.out).size) sS).mono ?_); rintro e w6 ⟨rfl, b_⟩; have SS6 := Lib.hid (And.intro ((b_.cell (p := ⟨w.heap.size, 0, none⟩) hd5).trans SS5.out.1) ((b_.cell (p := ⟨w.heap.size, 1, none⟩) hd5).trans SS5.out.2)); have HB6 := Lib.hid (below_step HB5.out (Nat.le_of_lt hd5) b_); have zz_ := b_.size; have hd6 := Nat.lt_of_lt_of_le hd5 zz_; rw [HI.out]; have kc6_0 := SS6.out.1; have kc6_1 := SS6.out.2; clear b_))
    go_wp2
    go_ret
    exact ⟨rfl, HB00.out.trans (HB6.out.mono HB00.out.size)⟩
  · have HI := Lib.hid hi
    have HC := Lib.hid hc
    rw [all_two, Bool.and_eq_true] at ha
    have HVX := Lib.hid ha.1
    have HVY := Lib.hid ha.2
    have HP := Lib.hid (isSp_iff.1 hi).prime
    have hpb := prm_bd (isSp_iff.1 hi).prime
    obtain ⟨n, hn⟩ : ∃ n, n = pairN pS S x y := ⟨_, rfl⟩
    have HN : Hid (pairV pS S x y = n) := by show _ = _; rw [hn]; exact (code_vec2 hi ha.1 ha.2).2
    have HNN := Lib.hid hn
    have hnb : 0 ≤ n ∧ n < pS := by rw [hn]; exact pairN_bd (by omega) _ _ _
    clear hi hc ha hn
    go_upto_region 6 with (first | (go_at_call 30; (with_reducible refine (impl_PairOf pS aS S cS w0.heap.size w.heap.size ax x cx w0.heap.size w.heap.size ay y cy w0.heap.size w.heap.size w1 (HS.out.below HB1.out tS) (Nat.le_trans tS (HB1.out).size) sS (Hx.out.below HB1.out tS) (Nat.le_trans tS (HB1.out).size) sx (Hy.out.below HB1.out tS) (Nat.le_trans tS (HB1.out).size) sy).mono ?_); rintro e w2 ⟨rfl, b_⟩; have SS2 := Lib.hid (And.intro ((b_.cell (p := ⟨w.heap.size, 0, none⟩) hd1).trans SS1.out.1) ((b_.cell (p := ⟨w.heap.size, 1, none⟩) hd1).trans SS1.out.2)); have HB2 := Lib.hid (below_step HB1.out (Nat.le_of_lt hd1) b_); have zz_ := b_.size; have hd2 := Nat.lt_of_lt_of_le hd1 zz_; rw [HC.out, HN.out]; have kc2_0 := SS2.out.1; have kc2_1 := SS2.out.2; clear b_) | (go_at_call 29; (with_reducible refine (spec_PairOf pS aS S cS w0.heap.size w.heap.size ax x cx w0.heap.size w.heap.size ay y cy w0.heap.size w.heap.size w2 (HS.out.below HB2.out tS) (Nat.le_trans tS (HB2.out).size) sS (Hx.out.below HB2.out tS) (Nat.le_trans tS (HB2.out).size) sx (Hy.out.below HB2.out tS) (Nat.le_trans tS (HB2.out).size) sy).mono ?_); rintro e w3 ⟨rfl, b_⟩; have SS3 := Lib.hid (And.intro ((b_.cell (p := ⟨w.heap.size, 0, none⟩) hd2).trans SS2.out.1) ((b_.cell (p := ⟨w.heap.size, 1, none⟩) hd2).trans SS2.out.2)); have HB3 := Lib.hid (below_step HB2.out (Nat.le_of_lt hd2) b_); have zz_ := b_.size; have hd3 := Nat.lt_of_lt_of_le hd2 zz_; rw [HC.out, HN.out]; have kc3_0 := SS3.out.1; have kc3_1 := SS3.out.2; clear b_))
    have SS4 : Hid (w3.drew.cell? ⟨w.heap.size, 0, none⟩ = some (.int .i64 pS) ∧ w3.drew.cell? ⟨w.heap.size, 1, none⟩ = some (.slice aS S.length cS)) := SS3.out
    have HB4 : Hid (Below w.heap.size w w3.drew) := (HB3.out).drew
    have hd4 : w.heap.size < w3.drew.heap.size := hd3
    go_region_held3 (fun w' => w'.cell? ⟨w.heap.size, 0, none⟩ = some (.int .i64 pS) ∧ w'.cell? ⟨w.heap.size, 1, none⟩ = some (.slice aS S.length cS)) (first | exact SS4.out | exact SS5.out | exact SS6.out | go_keep) (first | (go_at_call 61; (with_reducible refine (impl_IsSpace pS aS S cS w0.heap.size w.heap.size w3.drew (HS.out.below HB4.out tS) (Nat.le_trans tS (HB4.out).size) sS).mono ?_); rintro e w5 ⟨rfl, b_⟩; have SS5 := Lib.hid (And.intro ((b_.cell (p := ⟨w.heap.size, 0, none⟩) hd4).trans SS4.out.1) ((b_.cell (p := ⟨w.heap.size, 1, none⟩) hd4).trans SS4.out.2)); have HB5 := Lib.hid (below_step HB4.out (Nat.le_of_lt hd4) b_); have zz_ := b_.size; have hd5 := Nat.lt_of_lt_of_le hd4 zz_; rw [HI.out]; have kc5_0 := SS5.out.1; have kc5_1 := SS5.out.2; clear b_) | (go_at_call 62; (with_reducible refine (spec_IsSpace pS aS S cS w0.heap.size w.heap.size w5 (HS.out.below HB5.out tS) (Nat.le_trans tS (HB5.out).size) sS).mono ?_); rintro e w6 ⟨rfl, b_⟩; have SS6 := Lib.hid (And.intro ((b_.cell (p := ⟨w.heap.size, 0, none⟩) hd5).trans SS5.out.1) ((b_.cell (p := ⟨w.heap.size, 1, none⟩) hd5).trans SS5.out.2)); have HB6 := Lib.hid (below_step HB5.out (Nat.le_of_lt hd5) b_); have zz_ := b_.size; have hd6 := Nat.lt_of_lt_of_le hd5 zz_; rw [HI.out]; have kc6_0 := SS6.out.1; have kc6_1 := SS6.out.2; clear b_))
    go_upto_region 12 with (first | (go_at_call 19; (with_reducible refine (roll834_any a0 len cap zs w6 (HC8.out.below (HB00.out.trans (HB6.out.mono HB00.out.size)))  hl).mono ?_); rintro e w7 ⟨rfl, b_, s_⟩; have SS7 := Lib.hid (And.intro ((b_.cell (p := ⟨w.heap.size, 0, none⟩) hd6).trans SS6.out.1) ((b_.cell (p := ⟨w.heap.size, 1, none⟩) hd6).trans SS6.out.2)); have HB7 := Lib.hid (below_step HB6.out (Nat.le_of_lt hd6) b_); have zz_ := b_.size; have hd7 := Nat.lt_of_lt_of_le hd6 zz_; have kc7_0 := SS7.out.1; have kc7_1 := SS7.out.2; have HD := Lib.hid s_; clear s_; clear b_))
    obtain ⟨bd, hbdd⟩ : ∃ z, z = w6.heap.size := ⟨_, rfl⟩
    have hbd : w.heap.size ≤ bd := by rw [hbdd]; exact Nat.le_of_lt hd6
    have hwbd : w.heap.size ≠ bd := by rw [hbdd]; exact Nat.ne_of_lt hd6
    rw [← hbdd] at HD ⊢
    clear hbdd
    have hp1 : 1 ≤ pS := by omega
    have hbdl := HD.out.lt
    go_upto_region 13 with (first | (go_at_call 20; (with_reducible refine (list5_any pS x.length bd a0 len cap zs w7 HD.out sx hp1).mono ?_); rintro e w8 ⟨au, cu, u, rfl, ⟨hul, hun⟩, o_, on_, s_⟩; have SS8 := Lib.hid (And.intro ((on_.cell (p := ⟨w.heap.size, 0, none⟩) hd7 hwbd).trans SS7.out.1) ((on_.cell (p := ⟨w.heap.size, 1, none⟩) hd7 hwbd).trans SS7.out.2)); have HB8 := Lib.hid ((HB7.out).trans (on_.below hbd (Nat.le_of_lt hd7))); have zz_ := on_.size; have hd8 := Nat.lt_of_lt_of_le hd7 zz_; have HD8 := Lib.hid s_; have kc8_0 := SS8.out.1; have kc8_1 := SS8.out.2; have HU_8 := Lib.hid o_; have HUL := Lib.hid hul; have HUN := Lib.hid hun; clear o_ hul hun; clear on_ s_) | (go_at_call 25; (with_reducible refine (below_any pS bd a0 len cap zs w8 HD8.out).mono ?_); rintro e w9 ⟨k, rfl, hk, on_, s_⟩; have SS9 := Lib.hid (And.intro ((on_.cell (p := ⟨w.heap.size, 0, none⟩) hd8 hwbd).trans SS8.out.1) ((on_.cell (p := ⟨w.heap.size, 1, none⟩) hd8 hwbd).trans SS8.out.2)); have HB9 := Lib.hid ((HB8.out).trans (on_.below hbd (Nat.le_of_lt hd8))); have zz_ := on_.size; have hd9 := Nat.lt_of_lt_of_le hd8 zz_; have HU_9 := Lib.hid ((HU_8.out.only on_ (.inl hbdl) (Nat.le_refl _)).mono (Nat.le_refl _) zz_); have HD9 := Lib.hid s_; have kc9_0 := SS9.out.1; have kc9_1 := SS9.out.2; obtain ⟨k0, k1⟩ := hk hp1; clear hk; clear on_ s_))
    have hlx : x.length = S.length := (isVec_iff.1 HVX.out).len
    have HLX := Lib.hid hlx
    have HVU : Hid (isVec pS S.length u = true) := vec_of (HUL.out.trans hlx) HUN.out
    have HCYX := Lib.hid (code_vec2 HI.out HVY.out HVX.out)
    have HNYX : Hid (pairV pS S y x = n) := by show _ = _; rw [HCYX.out.2, HNN.out]; exact pairN_comm _ _ _ _
    have HCUY := Lib.hid (code_vec2 HI.out HVU.out HVY.out)
    obtain ⟨o, ho⟩ : ∃ z, z = pairN pS S u y := ⟨_, rfl⟩
    have hob : 0 ≤ o ∧ o < pS := by rw [ho]; exact pairN_bd (by omega) _ _ _
    have HNUY : Hid (pairV pS S u y = o) := by show _ = _; rw [ho]; exact HCUY.out.2
    obtain ⟨m, hm⟩ : ∃ z, z = plusR pS x u k := ⟨_, rfl⟩
    have HMV : Hid (isVec pS S.length m = true) := by show _ = _; rw [hm]; exact vec_plus (by omega) u k hlx
    have HML : Hid (plusR pS x u k = m) := hm.symm
    have HCMY := Lib.hid (code_vec2 HI.out HMV.out HVY.out)
    have HNMY : Hid (pairV pS S m y = (n + k * o) % pS) := by show _ = _; rw [HCMY.out.2, hm, pairN_lin hlx, HNN.out, ho]
    have HCXX := Lib.hid (code_vec2 HI.out HVX.out HVX.out)
    have HCYY := Lib.hid (code_vec2 HI.out HVY.out HVY.out)
    obtain ⟨a, ha⟩ : ∃ z, z = pairN pS S x x := ⟨_, rfl⟩
    obtain ⟨b, hb⟩ : ∃ z, z = pairN pS S y y := ⟨_, rfl⟩
    have hab : 0 ≤ a ∧ a < pS := by rw [ha]; exact pairN_bd (by omega) _ _ _
    have hbb : 0 ≤ b ∧ b < pS := by rw [hb]; exact pairN_bd (by omega) _ _ _
    have HNXX : Hid (pairV pS S x x = a) := by show _ = _; rw [ha]; exact HCXX.out.2
    have HNYY : Hid (pairV pS S y y = b) := by show _ = _; rw [hb]; exact HCYY.out.2
    obtain ⟨q, hq⟩ : ∃ z, z = plusR pS x y 1 := ⟨_, rfl⟩
    have HQV : Hid (isVec pS S.length q = true) := by show _ = _; rw [hq]; exact vec_plus (by omega) y 1 hlx
    have HQL : Hid (plusR pS x y 1 = q) := hq.symm
    have HCQQ := Lib.hid (code_vec2 HI.out HQV.out HQV.out)
    have HNQQ : Hid (pairV pS S q q = (a + b + 2 * n) % pS) := by show _ = _; rw [HCQQ.out.2, hq, pairN_sum hlx, HNN.out, ha, hb]
    have HCG : Hid (codeL pS S [x, y] = 0) := codeL_ok HI.out (by unfold listB; simp [HVX.out, HVY.out])
    have HGR : Hid (gramV pS S [x, y] = [[a, n], [n, b]]) := by show _ = _; unfold gramV; rw [if_pos HCG.out, gram22, ← HNN.out, ← ha, ← hb]
    have hky : x.length = y.length := by rw [hlx, (isVec_iff.1 HVY.out).len]
    have HKY := Lib.hid hky
    have hmu : x.length = u.length := HUL.out.symm
    have HMU := Lib.hid hmu
    have smm : m.length ≤ 1048576 := by rw [hm, plusR_ln]; exact sx
    have sqq : q.length ≤ 1048576 := by rw [hq, plusR_ln]; exact sx
    have suu : u.length ≤ 1048576 := by rw [HUL.out]; exact sx
    obtain ⟨ko0, ko1⟩ := mul13 hpb.2 k0 k1 hob.1 hob.2
    clear hlx hm ho ha hb hq hky hmu
    go_upto_region 14 with (first | (go_at_call 30; (with_reducible refine (impl_PairOf pS aS S cS w0.heap.size w.heap.size ay y cy w0.heap.size w.heap.size ax x cx w0.heap.size w.heap.size w9 (HS.out.below HB9.out tS) (Nat.le_trans tS (HB9.out).size) sS (Hy.out.below HB9.out tS) (Nat.le_trans tS (HB9.out).size) sy (Hx.out.below HB9.out tS) (Nat.le_trans tS (HB9.out).size) sx).mono ?_); rintro e w10 ⟨rfl, b_⟩; have SS10 := Lib.hid (And.intro ((b_.cell (p := ⟨w.heap.size, 0, none⟩) hd9).trans SS9.out.1) ((b_.cell (p := ⟨w.heap.size, 1, none⟩) hd9).trans SS9.out.2)); have HB10 := Lib.hid (below_step HB9.out (Nat.le_of_lt hd9) b_); have zz_ := b_.size; have hd10 := Nat.lt_of_lt_of_le hd9 zz_; have HU_10 := Lib.hid ((HU_9.out.below b_ (Nat.le_refl _)).mono (Nat.le_refl _) zz_); have HD10 := Lib.hid (HD9.out.step b_); rw [HCYX.out.1, HNYX.out]; have kc10_0 := SS10.out.1; have kc10_1 := SS10.out.2; clear b_))
    have SS11 : Hid (w10.drew.cell? ⟨w.heap.size, 0, none⟩ = some (.int .i64 pS) ∧ w10.drew.cell? ⟨w.heap.size, 1, none⟩ = some (.slice aS S.length cS)) := SS10.out
    have HB11 : Hid (Below w.heap.size w w10.drew) := (HB10.out).drew
    have hd11 : w.heap.size < w10.drew.heap.size := hd10
    have HU_11 := Lib.hid ((HU_10.out.below (below_drew w10) (Nat.le_refl _)).mono (Nat.le_refl _) (size_drew w10))
    have HD11 := Lib.hid (HD10.out.step (below_drew w10))
    go_region_held3 (fun w' => w'.cell? ⟨w.heap.size, 0, none⟩ = some (.int .i64 pS) ∧ w'.cell? ⟨w.heap.size, 1, none⟩ = some (.slice aS S.length cS)) (first | exact SS11.out | exact SS12.out | exact SS13.out | go_keep) (first | (go_at_call 27; (with_reducible refine (plus5_any pS k ax au x u cx cu w0.heap.size w.heap.size w7.heap.size w10.drew.heap.size w10.drew HP.out (Hx.out.below HB11.out tS) HU_11.out (Nat.le_trans tS (HB11.out).size) (Nat.le_refl _) HMU.out sx (numsV HVX.out) HUN.out k0 (Int.le_of_lt k1)).mono ?_); rintro e w12 ⟨am, cm, rfl, o_, b_⟩; have SS12 := Lib.hid (And.intro ((b_.cell (p := ⟨w.heap.size, 0, none⟩) hd11).trans SS11.out.1) ((b_.cell (p := ⟨w.heap.size, 1, none⟩) hd11).trans SS11.out.2)); have HB12 := Lib.hid (below_step HB11.out (Nat.le_of_lt hd11) b_); have zz_ := b_.size; have hd12 := Nat.lt_of_lt_of_le hd11 zz_; have HU_12 := Lib.hid ((HU_11.out.below b_ (Nat.le_refl _)).mono (Nat.le_refl _) zz_); have HD12 := Lib.hid (HD11.out.step b_); have HM_12 := Lib.hid (o_.row); rw [HML.out] at HM_12 ⊢; clear o_; have kc12_0 := SS12.out.1; have kc12_1 := SS12.out.2; clear b_) | (go_at_call 30; (with_reducible refine (impl_PairOf pS aS S cS w0.heap.size w.heap.size am m cm w10.drew.heap.size w12.heap.size ay y cy w0.heap.size w.heap.size w12 (HS.out.below HB12.out tS) (Nat.le_trans tS (HB12.out).size) sS HM_12.out (Nat.le_refl _) smm (Hy.out.below HB12.out tS) (Nat.le_trans tS (HB12.out).size) sy).mono ?_); rintro e w13 ⟨rfl, b_⟩; have SS13 := Lib.hid (And.intro ((b_.cell (p := ⟨w.heap.size, 0, none⟩) hd12).trans SS12.out.1) ((b_.cell (p := ⟨w.heap.size, 1, none⟩) hd12).trans SS12.out.2)); have HB13 := Lib.hid (below_step HB12.out (Nat.le_of_lt hd12) b_); have zz_ := b_.size; have hd13 := Nat.lt_of_lt_of_le hd12 zz_; have HU_13 := Lib.hid ((HU_12.out.below b_ (Nat.le_refl _)).mono (Nat.le_refl _) zz_); have HM_13 := Lib.hid ((HM_12.out.below b_ (Nat.le_refl _)).mono (Nat.le_refl _) zz_); have HD13 := Lib.hid (HD12.out.step b_); rw [HCMY.out.1, HNMY.out]; have kc13_0 := SS13.out.1; have kc13_1 := SS13.out.2; clear b_))
    go_upto_region 18 with (first | (go_at_call 30; (with_reducible refine (impl_PairOf pS aS S cS w0.heap.size w.heap.size au u cu w7.heap.size w13.heap.size ay y cy w0.heap.size w.heap.size w13 (HS.out.below HB13.out tS) (Nat.le_trans tS (HB13.out).size) sS HU_13.out (Nat.le_refl _) suu (Hy.out.below HB13.out tS) (Nat.le_trans tS (HB13.out).size) sy).mono ?_); rintro e w14 ⟨rfl, b_⟩; have SS14 := Lib.hid (And.intro ((b_.cell (p := ⟨w.heap.size, 0, none⟩) hd13).trans SS13.out.1) ((b_.cell (p := ⟨w.heap.size, 1, none⟩) hd13).trans SS13.out.2)); have HB14 := Lib.hid (below_step HB13.out (Nat.le_of_lt hd13) b_); have zz_ := b_.size; have hd14 := Nat.lt_of_lt_of_le hd13 zz_; have HU_14 := Lib.hid ((HU_13.out.below b_ (Nat.le_refl _)).mono (Nat.le_refl _) zz_); have HD14 := Lib.hid (HD13.out.step b_); rw [HCUY.out.1, HNUY.out]; have kc14_0 := SS14.out.1; have kc14_1 := SS14.out.2; clear b_) | (go_at_call 34; (with_reducible refine (impl_NormOf pS aS S cS w0.heap.size w.heap.size ax x cx w0.heap.size w.heap.size w14 (HS.out.below HB14.out tS) (Nat.le_trans tS (HB14.out).size) sS (Hx.out.below HB14.out tS) (Nat.le_trans tS (HB14.out).size) sx).mono ?_); rintro e w15 ⟨rfl, b_⟩; have SS15 := Lib.hid (And.intro ((b_.cell (p := ⟨w.heap.size, 0, none⟩) hd14).trans SS14.out.1) ((b_.cell (p := ⟨w.heap.size, 1, none⟩) hd14).trans SS14.out.2)); have HB15 := Lib.hid (below_step HB14.out (Nat.le_of_lt hd14) b_); have zz_ := b_.size; have hd15 := Nat.lt_of_lt_of_le hd14 zz_; have HU_15 := Lib.hid ((HU_14.out.below b_ (Nat.le_refl _)).mono (Nat.le_refl _) zz_); have HD15 := Lib.hid (HD14.out.step b_); rw [HCXX.out.1, HNXX.out]; have kc15_0 := SS15.out.1; have kc15_1 := SS15.out.2; clear b_) | (go_at_call 34; (with_reducible refine (impl_NormOf pS aS S cS w0.heap.size w.heap.size ay y cy w0.heap.size w.heap.size w15 (HS.out.below HB15.out tS) (Nat.le_trans tS (HB15.out).size) sS (Hy.out.below HB15.out tS) (Nat.le_trans tS (HB15.out).size) sy).mono ?_); rintro e w16 ⟨rfl, b_⟩; have SS16 := Lib.hid (And.intro ((b_.cell (p := ⟨w.heap.size, 0, none⟩) hd15).trans SS15.out.1) ((b_.cell (p := ⟨w.heap.size, 1, none⟩) hd15).trans SS15.out.2)); have HB16 := Lib.hid (below_step HB15.out (Nat.le_of_lt hd15) b_); have zz_ := b_.size; have hd16 := Nat.lt_of_lt_of_le hd15 zz_; have HU_16 := Lib.hid ((HU_15.out.below b_ (Nat.le_refl _)).mono (Nat.le_refl _) zz_); have HD16 := Lib.hid (HD15.out.step b_); rw [HCYY.out.1, HNYY.out]; have kc16_0 := SS16.out.1; have kc16_1 := SS16.out.2; clear b_))
    have SS17 : Hid (w16.drew.cell? ⟨w.heap.size, 0, none⟩ = some (.int .i64 pS) ∧ w16.drew.cell? ⟨w.heap.size, 1, none⟩ = some (.slice aS S.length cS)) := SS16.out
    have HB17 : Hid (Below w.heap.size w w16.drew) := (HB16.out).drew
    have hd17 : w.heap.size < w16.drew.heap.size := hd16
    have HD17 := Lib.hid (HD16.out.step (below_drew w16))
    go_region_held3 (fun w' => w'.cell? ⟨w.heap.size, 0, none⟩ = some (.int .i64 pS) ∧ w'.cell? ⟨w.heap.size, 1, none⟩ = some (.slice aS S.length cS)) (first | exact SS17.out | exact SS18.out | exact SS19.out | go_keep) (first | (go_at_call 27; (with_reducible refine (plus5_any pS 1 ax ay x y cx cy w0.heap.size w.heap.size w0.heap.size w.heap.size w16.drew HP.out (Hx.out.below HB17.out tS) (Hy.out.below HB17.out tS) (Nat.le_trans tS (HB17.out).size) (Nat.le_trans tS (HB17.out).size) HKY.out sx (numsV HVX.out) (numsV HVY.out) (by omega) (by omega)).mono ?_); rintro e w18 ⟨aq, cq, rfl, o_, b_⟩; have SS18 := Lib.hid (And.intro ((b_.cell (p := ⟨w.heap.size, 0, none⟩) hd17).trans SS17.out.1) ((b_.cell (p := ⟨w.heap.size, 1, none⟩) hd17).trans SS17.out.2)); have HB18 := Lib.hid (below_step HB17.out (Nat.le_of_lt hd17) b_); have zz_ := b_.size; have hd18 := Nat.lt_of_lt_of_le hd17 zz_; have HD18 := Lib.hid (HD17.out.step b_); have HQ_18 := Lib.hid (o_.row); rw [HQL.out] at HQ_18 ⊢; clear o_; have kc18_0 := SS18.out.1; have kc18_1 := SS18.out.2; clear b_) | (go_at_call 34; (with_reducible refine (impl_NormOf pS aS S cS w0.heap.size w.heap.size aq q cq w16.drew.heap.size w18.heap.size w18 (HS.out.below HB18.out tS) (Nat.le_trans tS (HB18.out).size) sS HQ_18.out (Nat.le_refl _) sqq).mono ?_); rintro e w19 ⟨rfl, b_⟩; have SS19 := Lib.hid (And.intro ((b_.cell (p := ⟨w.heap.size, 0, none⟩) hd18).trans SS18.out.1) ((b_.cell (p := ⟨w.heap.size, 1, none⟩) hd18).trans SS18.out.2)); have HB19 := Lib.hid (below_step HB18.out (Nat.le_of_lt hd18) b_); have zz_ := b_.size; have hd19 := Nat.lt_of_lt_of_le hd18 zz_; have HQ_19 := Lib.hid ((HQ_18.out.below b_ (Nat.le_refl _)).mono (Nat.le_refl _) zz_); have HD19 := Lib.hid (HD18.out.step b_); rw [HCQQ.out.1, HNQQ.out]; have kc19_0 := SS19.out.1; have kc19_1 := SS19.out.2; clear b_))
    have sxy : [x, y].length + tot [x, y] [x, y].length ≤ 1048576 := by have := HL.out.2.1; have := HL.out.2.2; simp [tot, rw']; omega
    have e1 : IntKind.i64.wrap (k * o) = k * o := IntWalk.i64_in _ (by omega)
    have e2 : IntKind.i64.wrap (n + k * o) = n + k * o := IntWalk.i64_in _ (by omega)
    have e3 : IntKind.i64.wrap (a + b) = a + b := IntWalk.i64_in _ (by omega)
    have e4 : IntKind.i64.wrap (2 * n) = 2 * n := IntWalk.i64_in _ (by omega)
    have e5 : IntKind.i64.wrap (a + b + 2 * n) = a + b + 2 * n := IntWalk.i64_in _ (by omega)
    go_wp2_with (first | (go_at_call 63; refine (impl_GramOf pS aS S cS w0.heap.size w.heap.size (some ⟨w19.heap.size, 0, none⟩) [x, y] 2 0 _ (w19.alloc (.cells #[.slice ax x.length cx, .slice ay y.length cy] 24)) (HS.out.below (HB19.out.alloc (Nat.le_of_lt hd19) (.cells #[.slice ax x.length cx, .slice ay y.length cy] 24)) tS) (Nat.le_trans tS (HB19.out.alloc (Nat.le_of_lt hd19) (.cells #[.slice ax x.length cx, .slice ay y.length cy] 24)).size) sS (pairs_in rfl (Hx.out.below HB19.out tS) (Nat.le_trans tS (HB19.out).size) (Hy.out.below HB19.out tS) (Nat.le_trans tS (HB19.out).size) _) (Nat.le_refl _) sxy).mono ?_; rintro e wz ⟨rg, cg, rfl, og_, b_⟩; rw [HCG.out, HGR.out] at *; have HOG := Lib.hid og_.mat; have HBZ := Lib.hid (below_step (HB19.out.alloc (Nat.le_of_lt hd19) (.cells #[.slice ax x.length cx, .slice ay y.length cy] 24)) (HB19.out.alloc (Nat.le_of_lt hd19) (.cells #[.slice ax x.length cx, .slice ay y.length cy] 24)).size b_); clear og_ b_) | (go_at_call 32; (with_reducible refine (mod5_any pS (n + k * o) _ HP.out (by omega) (by omega)).mono ?_); rintro e w' ⟨rfl, rfl⟩) | (go_at_call 32; (with_reducible refine (mod5_any pS (a + b + 2 * n) _ HP.out (by omega) (by omega)).mono ?_); rintro e w' ⟨rfl, rfl⟩) | (go_at_call 64; refine (likeRows_same rg (some ⟨wz.heap.size + 2, 0, none⟩) [[a, n], [n, b]] cg 2 0 _ 0 _ _ (HOG.out.below (below_alloc3 wz _ _ _) (Nat.le_refl _) |>.mono (Nat.zero_le _) (Nat.le_refl _)) (built22 wz a n n b _ _) (by simp [tot, rw'])).mono ?_; rintro e wy ⟨rfl, hq_⟩; have HQZ := Lib.hid hq_; clear hq_))
    go_ret
    exact ⟨rfl, HB00.out.trans (((HBZ.out.trans ((below_alloc3 wz _ _ _).mono HBZ.out.size)).trans (HQZ.out.below _)).mono HB00.out.size)⟩
  · have HI := Lib.hid hi
    have HC := Lib.hid hc
    clear hi hc ha
    go_upto_region 6 with (first | (go_at_call 30; (with_reducible refine (impl_PairOf pS aS S cS w0.heap.size w.heap.size ax x cx w0.heap.size w.heap.size ay y cy w0.heap.size w.heap.size w1 (HS.out.below HB1.out tS) (Nat.le_trans tS (HB1.out).size) sS (Hx.out.below HB1.out tS) (Nat.le_trans tS (HB1.out).size) sx (Hy.out.below HB1.out tS) (Nat.le_trans tS (HB1.out).size) sy).mono ?_); rintro e w2 ⟨rfl, b_⟩; have SS2 := Lib.hid (And.intro ((b_.cell (p := ⟨w.heap.size, 0, none⟩) hd1).trans SS1.out.1) ((b_.cell (p := ⟨w.heap.size, 1, none⟩) hd1).trans SS1.out.2)); have HB2 := Lib.hid (below_step HB1.out (Nat.le_of_lt hd1) b_); have zz_ := b_.size; have hd2 := Nat.lt_of_lt_of_le hd1 zz_; rw [HC.out]; have kc2_0 := SS2.out.1; have kc2_1 := SS2.out.2; clear b_) | (go_at_call 29; (with_reducible refine (spec_PairOf pS aS S cS w0.heap.size w.heap.size ax x cx w0.heap.size w.heap.size ay y cy w0.heap.size w.heap.size w2 (HS.out.below HB2.out tS) (Nat.le_trans tS (HB2.out).size) sS (Hx.out.below HB2.out tS) (Nat.le_trans tS (HB2.out).size) sx (Hy.out.below HB2.out tS) (Nat.le_trans tS (HB2.out).size) sy).mono ?_); rintro e w3 ⟨rfl, b_⟩; have SS3 := Lib.hid (And.intro ((b_.cell (p := ⟨w.heap.size, 0, none⟩) hd2).trans SS2.out.1) ((b_.cell (p := ⟨w.heap.size, 1, none⟩) hd2).trans SS2.out.2)); have HB3 := Lib.hid (below_step HB2.out (Nat.le_of_lt hd2) b_); have zz_ := b_.size; have hd3 := Nat.lt_of_lt_of_le hd2 zz_; rw [HC.out]; have kc3_0 := SS3.out.1; have kc3_1 := SS3.out.2; clear b_))
    have SS4 : Hid (w3.drew.cell? ⟨w.heap.size, 0, none⟩ = some (.int .i64 pS) ∧ w3.drew.cell? ⟨w.heap.size, 1, none⟩ = some (.slice aS S.length cS)) := SS3.out
    have HB4 : Hid (Below w.heap.size w w3.drew) := (HB3.out).drew
    have hd4 : w.heap.size < w3.drew.heap.size := hd3
    go_region_held3 (fun w' => w'.cell? ⟨w.heap.size, 0, none⟩ = some (.int .i64 pS) ∧ w'.cell? ⟨w.heap.size, 1, none⟩ = some (.slice aS S.length cS)) (first | exact SS4.out | exact SS5.out | exact SS6.out | go_keep) (first | (go_at_call 61; (with_reducible refine (impl_IsSpace pS aS S cS w0.heap.size w.heap.size w3.drew (HS.out.below HB4.out tS) (Nat.le_trans tS (HB4.out).size) sS).mono ?_); rintro e w5 ⟨rfl, b_⟩; have SS5 := Lib.hid (And.intro ((b_.cell (p := ⟨w.heap.size, 0, none⟩) hd4).trans SS4.out.1) ((b_.cell (p := ⟨w.heap.size, 1, none⟩) hd4).trans SS4.out.2)); have HB5 := Lib.hid (below_step HB4.out (Nat.le_of_lt hd4) b_); have zz_ := b_.size; have hd5 := Nat.lt_of_lt_of_le hd4 zz_; rw [HI.out]; have kc5_0 := SS5.out.1; have kc5_1 := SS5.out.2; clear b_) | (go_at_call 62; (with_reducible refine (spec_IsSpace pS aS S cS w0.heap.size w.heap.size w5 (HS.out.below HB5.out tS) (Nat.le_trans tS (HB5.out).size) sS).mono ?_); rintro e w6 ⟨rfl, b_⟩; have SS6 := Lib.hid (And.intro ((b_.cell (p := ⟨w.heap.size, 0, none⟩) hd5).trans SS5.out.1) ((b_.cell (p := ⟨w.heap.size, 1, none⟩) hd5).trans SS5.out.2)); have HB6 := Lib.hid (below_step HB5.out (Nat.le_of_lt hd5) b_); have zz_ := b_.size; have hd6 := Nat.lt_of_lt_of_le hd5 zz_; rw [HI.out]; have kc6_0 := SS6.out.1; have kc6_1 := SS6.out.2; clear b_))
    go_wp2
    go_ret
    exact ⟨rfl, HB00.out.trans (HB6.out.mono HB00.out.size)⟩

set_option maxRecDepth 100000 in
theorem law_pairs (a : Option Addr) (len cap : Nat) (zs : List Int) (w : World) (hb : Code8 w a len zs) (hm : len ≤ 9223372036854775807) :
    Calls Try.prog 8 #[.slice a len cap] w fun e w' => e = .returned (.bool true) ∧ Below w.heap.size w w' := by
  by_cases hl : len ≤ 4096
  · exact law_pairs_small a len cap zs w hb hl
  · clear hb
    go_enter Try.func8, Try.ntmps8
    go_wp2_with (go_at_call 12; refine (big_yes a len cap _ (by omega) hm).mono ?_; rintro e w' ⟨rfl, rfl⟩)
    go_ret
    exact ⟨rfl, Below.refl _ _⟩

end Go.Proofs.Ytcamegdjdjacpaa
