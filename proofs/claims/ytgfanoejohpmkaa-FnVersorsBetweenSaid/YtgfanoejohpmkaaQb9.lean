/-
  The draw of a space whose squares are seldom 0: contract.
  Conditions: the source stands in a block of known cells.
  What the program's operations on numbers return: contracts of remainderOf, plus, minus, times.
  Conditions: the prime is one, and the numbers are remainders by it.
  Bounds of whole numbers of 64 bits, and what the model's remainder is.
  Conditions: the prime is one.
  What the model draws for pairs of numbers, and the law's own remainder.
  Conditions: the code is a row of at most 4096 known bytes; the prime of a remainder is one.
  What the model's sums, multiples, copies, turned matrices and unit matrices are: contracts.
  Conditions: the lists and matrices are rows of known cells with numbers of the prime; their sizes fit.
  Helpers of the laws with draws: contracts.
  Conditions: lists are nil or rows of known cells.
-/
import Derived.Test.YtgfanoejohpmkaaQb8
import Derived.Test.YtgfanoejohpmkaaQb1
import Derived.Outline
import Derived.Test.YtgfanoejohpmkaaQb3
import Derived.Deep.RegionHeld3
import Derived.BigQuiet
import Derived.Deep.AppendLies
import Derived.Test.YtgfanoejohpmkaaQb2
namespace Go.Proofs.Ytgfanoejohpmkaa
open Go.RowKit
set_option linter.unusedVariables false

theorem five_in7 {y : Int} (h : y ∈ [2, 3, 3, 4, 5]) : 1 ≤ y ∧ y ≤ 6 := by
  simp at h; omega

set_option maxRecDepth 100000 in
set_option maxHeartbeats 6400000 in
theorem space7_any (b : Nat) (a : Option Addr) (len cap : Nat) (zs : List Int) (w : World) (hs : Src w b a len cap zs) :
    Calls Try.prog 14 #[.pointer (some ⟨b, 0, none⟩)] w (DrawnT (fun X => X.length ≤ 7) b a len cap zs w) := by
  have hlt := hs.lt
  have HS := Lib.hid hs
  clear hs
  go_enter Try.func14, Try.ntmps14
  go_upto_region 1 with fail
  obtain ⟨wa, hwa⟩ : ∃ z, z = w.alloc (.cells #[.int .i64 0, .slice none 0 0] 26) := ⟨_, rfl⟩
  have HR1 : Hid (L2 wa w.heap.size (.int .i64 0) (.slice none 0 0)) := by show L2 _ _ _ _; rw [hwa]; exact L2.new _ _ _ _
  have HS1 : Hid (Src wa b a len cap zs) := by show Src _ _ _ _ _ _; rw [hwa]; exact HS.out.alloc _
  have HON1 : Hid (Only b w wa) := by show Only _ _ _; rw [hwa]; exact (Only.refl b w).alloc _
  have hRa : w.heap.size < wa.heap.size := by rw [hwa]; simp
  rw [← hwa]
  clear hwa
  go_upto_region 2 with (first
    | (go_at_call 39; (refine (pick_in wa.heap.size 5 [2, 3, 3, 4, 5] b a len cap zs _ (HS1.out.alloc _) (rowOf wa [2, 3, 3, 4, 5] _) rfl (by omega) (by omega) (by simp) (by omega)).mono ?_; rintro e w2 ⟨y, rfl, hy, on2, s2⟩; have hyy := five_in7 hy; have HS2 := Lib.hid s2; have HON2 := Lib.hid ((HON1.out.alloc _).trans on2); have hRb := Nat.lt_of_lt_of_le hRa (size_alloc wa (.cells (List.map (Value.int .i64) [2, 3, 3, 4, 5]).toArray 2)); have HR2 := Lib.hid ((HR1.out.alloc _ hRa).only on2 hRb (Nat.ne_of_gt hlt)); have hR2 := Nat.lt_of_lt_of_le hRb on2.size; clear on2 s2 hy))
    | (go_at_call 38; ((with_reducible refine (any_any y b a len cap zs _ HS2.out hyy.1 hyy.2).mono ?_); rintro e w3 ⟨p, r, X, c, rfl, hX, o3, on3, s3⟩; have HX := Lib.hid hX; have HS3 := Lib.hid s3; have HON3 := Lib.hid (HON2.out.trans on3); have HR3 := Lib.hid (HR2.out.only on3 hR2 (Nat.ne_of_gt hlt)); have HO3 := Lib.hid o3; have hR3 := Nat.lt_of_lt_of_le hR2 on3.size; have zy3 := on3.size; clear on3 s3 hX o3)))
  obtain ⟨B, hB⟩ : ∃ z, z = w2.heap.size := ⟨_, rfl⟩
  rw [← hB] at HO3 hR2 zy3
  clear hB HR1 HS1 HON1 HR2 HS2 HON2 hRb hyy
  obtain ⟨n, hn⟩ : ∃ z, z = X.length := ⟨_, rfl⟩
  have hn1 : 1 ≤ n ∧ n ≤ 6 := by rw [hn]; exact HX.out
  obtain ⟨wb, hwb⟩ : ∃ z, z = w3.alloc (.cells #[.int .i64 p, .slice r X.length c] 26) := ⟨_, rfl⟩
  obtain ⟨g, hg⟩ : ∃ z, z = w3.heap.size := ⟨_, rfl⟩
  have HG4 : Hid (L2 wb g (.int .i64 p) (.slice r n c)) := by show L2 _ _ _ _; rw [hwb, hg, hn]; exact L2.new _ _ _ _
  have HR4 : Hid (L2 wb w.heap.size (.int .i64 0) (.slice none 0 0)) := by show L2 _ _ _ _; rw [hwb]; exact HR3.out.alloc _ hR3
  have HS4 : Hid (Src wb b a len cap zs) := by show Src _ _ _ _ _ _; rw [hwb]; exact HS3.out.alloc _
  have HON4 : Hid (Only b w wb) := by show Only _ _ _; rw [hwb]; exact HON3.out.alloc _
  have hgb : g < wb.heap.size := by rw [hwb, hg]; simp
  obtain ⟨q1, o1, hr1, hq0, hq1, hro⟩ : ∃ q o, r = some ⟨q, o, none⟩ ∧ B ≤ q ∧ q < g ∧ RowOwn wb q o n (fun j => X.getD j 0) := by
    obtain ⟨a9, d9, e9, t9⟩ := HO3.out.tag
    injection e9 with e91 e92 e93
    subst e91
    have h9 : OwnR B g wb r X := by rw [hwb, hg]; exact ownR_below t9.own (below_alloc w3 _) (Nat.le_refl _)
    obtain ⟨q, o, h1, h2, h3, h4⟩ := RowOwn.of h9 (show 0 < X.length by omega)
    exact ⟨q, o, h1, h2, h3, by rw [hn]; exact h4⟩
  have HRO4 := Lib.hid hro
  subst hr1
  have hBg : B ≤ g := by rw [hg]; exact zy3
  rw [← hn] at hwb
  try rw [← hn]
  rw [← hwb, ← hg]
  clear hwb hg HR3 HS3 HON3 HO3 zy3 hR3 hro HX hn
  have hRg : w.heap.size < g := Nat.lt_of_lt_of_le hR2 hBg
  have hbg : b < g := Nat.lt_trans hlt hRg
  have hqb : q1 ≠ b := Nat.ne_of_gt (Nat.lt_of_lt_of_le (Nat.lt_trans hlt hR2) hq0)
  have hbq : b < q1 := Nat.lt_of_lt_of_le (Nat.lt_trans hlt hR2) hq0
  have hqg : g ≠ q1 := Nat.ne_of_gt hq1
  have hqR : w.heap.size ≠ q1 := Nat.ne_of_lt (Nat.lt_of_lt_of_le hR2 hq0)
  have hRq : w.heap.size ≤ q1 := Nat.le_of_lt (Nat.lt_of_lt_of_le hR2 hq0)
  go_wp2
  go_loopw [4] (fun t wr => ∃ (k : Nat) (f : Nat → Int), k ≤ n ∧ t = .int .i64 k ∧ L2 wr g (.int .i64 p) (.slice (some ⟨q1, o1, none⟩) n c) ∧ RowOwn wr q1 o1 n f ∧ L2 wr w.heap.size (.int .i64 0) (.slice none 0 0) ∧ Src wr b a len cap zs ∧ Only b w wr ∧ wb.heap.size ≤ wr.heap.size) (fun t _ => n - (intOf t).toNat)
  case atStart => exact ⟨0, _, Nat.zero_le _, rfl, HG4.out, HRO4.out, HR4.out, HS4.out, HON4.out, Nat.le_refl _⟩
  case round =>
    obtain ⟨k, f, hk, rfl, hg2, hro, hr2, hsr, hon, hsz⟩ := hrel
    have HGR := Lib.hid hg2
    have HRO := Lib.hid hro
    have HRR := Lib.hid hr2
    have HSR := Lib.hid hsr
    have HON := Lib.hid hon
    have gc1 := HGR.out.2.1
    have gc0 := HGR.out.1
    have rc0 := HRR.out.1
    have rc1 := HRR.out.2.1
    have rc2 := HRR.out.2.2.1
    have rc3 := HRR.out.2.2.2
    have hgr : g < wr.heap.size := Nat.lt_of_lt_of_le hgb hsz
    clear hg2 hro hr2 hsr hon
    by_cases hlt2 : k < n
    · have hi1 : (k : Int) < (n : Int) := by omega
      go_wp2_with (first | (go_at_call 19; ((with_reducible refine (next_any 12 b a len cap zs wr HSR.out).mono ?_); rintro e w4 ⟨x, rfl, _, on4, s4⟩; have HS4_ := Lib.hid s4; have HON4_ := Lib.hid (HON.out.trans on4); have HG4_ := Lib.hid (HGR.out.only on4 hgr (Nat.ne_of_gt hbg)); have HR4_ := Lib.hid (HRR.out.only on4 (Nat.lt_trans hRg hgr) (Nat.ne_of_gt hlt)); have HRO4_ := Lib.hid (rowOwn_stay HRO.out (on4.block q1 (Nat.lt_trans hq1 hgr) hqb)); have zs4 := Nat.le_trans hsz on4.size; have hg4_ := Nat.lt_of_lt_of_le hgr on4.size; have hc4 := HRO4_.out.cell k hlt2; have hf4 := HRO4_.out.free k hlt2; clear gc1 gc0 rc0 rc1 rc2 rc3; have gc0 := HG4_.out.1; have gc1 := HG4_.out.2.1; clear on4 s4)) | (go_at_call 19; ((with_reducible refine (next_any 30 b a len cap zs w4 HS4_.out).mono ?_); rintro e w5 ⟨x5, rfl, _, on5, s5⟩; have HS5_ := Lib.hid s5; have HON5_ := Lib.hid (HON4_.out.trans on5); have HG5_ := Lib.hid (HG4_.out.only on5 hg4_ (Nat.ne_of_gt hbg)); have HR5_ := Lib.hid (HR4_.out.only on5 (Nat.lt_trans hRg hg4_) (Nat.ne_of_gt hlt)); have HRO5_ := Lib.hid (rowOwn_stay HRO4_.out (on5.block q1 (Nat.lt_trans hq1 hg4_) hqb)); have hg5_ := Nat.lt_of_lt_of_le hg4_ on5.size; (try clear gc1 gc0); (try clear rc0 rc1 rc2 rc3); have gc0 := HG5_.out.1; have gc1 := HG5_.out.2.1; have rc0 := HR5_.out.1; have rc1 := HR5_.out.2.1; have rc2 := HR5_.out.2.2.1; have rc3 := HR5_.out.2.2.2; clear on5 s5)) | (go_at_call 40; ((with_reducible refine (spoil_space b a len cap zs w5 HS5_.out).mono ?_); rintro e w6 ⟨p6, r6, X6, c6, rfl, hX6, o6, on6, s6⟩; have HX6 := Lib.hid hX6; have HO6 := Lib.hid o6; have HS6_ := Lib.hid s6; have HON6_ := Lib.hid (HON5_.out.trans on6); have HR6_ := Lib.hid (HR5_.out.only on6 (Nat.lt_trans hRg hg5_) (Nat.ne_of_gt hlt)); clear rc0 rc1 rc2 rc3; have rc0 := HR6_.out.1; have rc1 := HR6_.out.2.1; have rc2 := HR6_.out.2.2.1; have rc3 := HR6_.out.2.2.2; clear on6 s6 hX6 o6)))
      · go_roundw
        case rel => exact ⟨k + 1, _, by omega, by go_num, HG4_.out.far _ hqg, rowOwn_put HRO4_.out hlt2 1, HR4_.out.far _ hqR, HS4_.out.far (Only.set _ _ _ _) hbq, HON4_.out.setCell (.inr hRq) _, by simp [World.setCell]; exact zs4⟩
        case measure => simp [intOf]; omega
      · go_roundw
        case rel => exact ⟨k + 1, f, by omega, by go_num, HG4_.out, HRO4_.out, HR4_.out, HS4_.out, HON4_.out, zs4⟩
        case measure => simp [intOf]; omega
      · (refine bodyPost_ret (v := .agg #[.int .i64 p6, .slice r6 X6.length c6]) (by simp [results, Try.results14, go_sem, rc0, rc1]) rfl ⟨p6, r6, X6, c6, rfl, HX6.out, ((HO6.out.far _ (.inl (Nat.lt_trans hRg hg5_))).far _ (.inl (Nat.lt_trans hRg hg5_))).mono (Nat.le_of_lt (Nat.lt_trans hRg hg5_)) (by simp [World.setCell]), (HON6_.out.setCell (.inr (Nat.le_refl _)) _).setCell (.inr (Nat.le_refl _)) _, (HS6_.out.far (Only.set _ _ _ _) hlt).far (Only.set _ _ _ _) hlt⟩)
      · (refine bodyPost_ret (v := .agg #[.int .i64 p, .slice (some ⟨q1, o1, none⟩) n c]) (by simp [results, Try.results14, go_sem, rc0, rc1]) rfl ⟨p, some ⟨q1, o1, none⟩, mkR n f, c, by rw [mkR_len], by show (mkR n f).length ≤ 7; rw [mkR_len]; omega, (((rowOwn_in (lo := B) (tp := w5.heap.size) HRO5_.out hq0 (Nat.lt_trans hq1 hg5_)).far _ (.inl hR2)).far _ (.inl hR2)).mono (Nat.le_of_lt hR2) (by simp [World.setCell]), (HON5_.out.setCell (.inr (Nat.le_refl _)) _).setCell (.inr (Nat.le_refl _)) _, (HS5_.out.far (Only.set _ _ _ _) hlt).far (Only.set _ _ _ _) hlt⟩)
    · have hi1 : ¬ (k : Int) < (n : Int) := by omega
      go_wp2_with (first | (go_at_call 19; ((with_reducible refine (next_any 30 b a len cap zs wr HSR.out).mono ?_); rintro e w5 ⟨x5, rfl, _, on5, s5⟩; have HS5_ := Lib.hid s5; have HON5_ := Lib.hid (HON.out.trans on5); have HG5_ := Lib.hid (HGR.out.only on5 hgr (Nat.ne_of_gt hbg)); have HR5_ := Lib.hid (HRR.out.only on5 (Nat.lt_trans hRg hgr) (Nat.ne_of_gt hlt)); have HRO5_ := Lib.hid (rowOwn_stay HRO.out (on5.block q1 (Nat.lt_trans hq1 hgr) hqb)); have hg5_ := Nat.lt_of_lt_of_le hgr on5.size; (try clear gc1 gc0); (try clear rc0 rc1 rc2 rc3); have gc0 := HG5_.out.1; have gc1 := HG5_.out.2.1; have rc0 := HR5_.out.1; have rc1 := HR5_.out.2.1; have rc2 := HR5_.out.2.2.1; have rc3 := HR5_.out.2.2.2; clear on5 s5)) | (go_at_call 40; ((with_reducible refine (spoil_space b a len cap zs w5 HS5_.out).mono ?_); rintro e w6 ⟨p6, r6, X6, c6, rfl, hX6, o6, on6, s6⟩; have HX6 := Lib.hid hX6; have HO6 := Lib.hid o6; have HS6_ := Lib.hid s6; have HON6_ := Lib.hid (HON5_.out.trans on6); have HR6_ := Lib.hid (HR5_.out.only on6 (Nat.lt_trans hRg hg5_) (Nat.ne_of_gt hlt)); clear rc0 rc1 rc2 rc3; have rc0 := HR6_.out.1; have rc1 := HR6_.out.2.1; have rc2 := HR6_.out.2.2.1; have rc3 := HR6_.out.2.2.2; clear on6 s6 hX6 o6)))
      · (refine bodyPost_ret (v := .agg #[.int .i64 p6, .slice r6 X6.length c6]) (by simp [results, Try.results14, go_sem, rc0, rc1]) rfl ⟨p6, r6, X6, c6, rfl, HX6.out, ((HO6.out.far _ (.inl (Nat.lt_trans hRg hg5_))).far _ (.inl (Nat.lt_trans hRg hg5_))).mono (Nat.le_of_lt (Nat.lt_trans hRg hg5_)) (by simp [World.setCell]), (HON6_.out.setCell (.inr (Nat.le_refl _)) _).setCell (.inr (Nat.le_refl _)) _, (HS6_.out.far (Only.set _ _ _ _) hlt).far (Only.set _ _ _ _) hlt⟩)
      · (refine bodyPost_ret (v := .agg #[.int .i64 p, .slice (some ⟨q1, o1, none⟩) n c]) (by simp [results, Try.results14, go_sem, rc0, rc1]) rfl ⟨p, some ⟨q1, o1, none⟩, mkR n f, c, by rw [mkR_len], by show (mkR n f).length ≤ 7; rw [mkR_len]; omega, (((rowOwn_in (lo := B) (tp := w5.heap.size) HRO5_.out hq0 (Nat.lt_trans hq1 hg5_)).far _ (.inl hR2)).far _ (.inl hR2)).mono (Nat.le_of_lt hR2) (by simp [World.setCell]), (HON5_.out.setCell (.inr (Nat.le_refl _)) _).setCell (.inr (Nat.le_refl _)) _, (HS5_.out.far (Only.set _ _ _ _) hlt).far (Only.set _ _ _ _) hlt⟩)

end Go.Proofs.Ytgfanoejohpmkaa

namespace Go.Proofs.Ytgfanoejohpmkaa
open Go.RowKit
set_option linter.unusedVariables false

theorem tmod_neg {n p : Int} (hn : n < 0) (hp : 0 < p) : n.tmod p = -((-n) % p) := by
  have h : n = -(-n) := by omega
  rw [h, Int.neg_tmod, Int.tmod_eq_emod_of_nonneg (by omega)]
  simp
theorem tmod_facts {n p : Int} (hn : n < 0) (hp : 0 < p) : -p < n.tmod p ∧ n.tmod p ≤ 0 ∧ (n.tmod p < 0 → n.tmod p + p = n % p) ∧ (n.tmod p = 0 → n % p = 0) := by
  rw [tmod_neg hn hp]
  have h1 := Int.emod_nonneg (-n) (by omega : p ≠ 0)
  have h2 := Int.emod_lt_of_pos (-n) hp
  have h3 := Int.emod_nonneg n (by omega : p ≠ 0)
  have h4 := Int.emod_lt_of_pos n hp
  have h5 := Int.mul_ediv_add_emod (-n) p
  have h6 := Int.mul_ediv_add_emod n p
  have key : ∀ q : Int, (0 < (-n) % p + n % p - 0 → True) := fun _ _ => trivial
  have h7 : ((-n) % p + n % p) % p = 0 := by rw [← Int.add_emod, Int.add_left_neg]; simp
  refine ⟨by omega, by omega, fun h => ?_, fun h => ?_⟩
  · have h8 : (-n) % p + n % p = p := by
      by_cases hlt : (-n) % p + n % p < p
      · rw [Int.emod_eq_of_lt (by omega) hlt] at h7; omega
      · have h9 : ((-n) % p + n % p - p) % p = 0 := by rw [Int.sub_emod, h7]; simp
        rw [Int.emod_eq_of_lt (by omega) (by omega)] at h9; omega
    omega
  · have h8 : (-n) % p = 0 := by omega
    rw [h8, Int.zero_add, Int.emod_eq_of_lt h3 h4] at h7
    exact h7

set_option maxHeartbeats 400000 in
theorem remainderOf_any (p n : Int) (w : World) (hp : prm p = true) (n0 : -9223372036854775808 ≤ n) (n1 : n ≤ 9223372036854775807) :
    Calls Try.prog 84 #[.int .i64 p, .int .i64 n] w fun e w' => e = .returned (.agg #[.int .i64 p, .int .i64 (n % p)]) ∧ Below w.heap.size w w' := by
  have hb := prm_bd hp
  have hm := mod_bd hp n
  clear hp
  by_cases hn : 0 ≤ n
  · go_enter Try.func84, Try.ntmps84
    go_wp2
    exact bodyPost_ret (v := .agg #[.int .i64 p, .int .i64 (n % p)]) (by simp [results, Try.results84, go_sem]) rfl ⟨rfl, (Below.refl _ _).alloc (Nat.le_refl _) _⟩
  · obtain ⟨t1, t2, t3, t4⟩ := tmod_facts (n := n) (p := p) (by omega) (by omega)
    by_cases ht : n.tmod p < 0
    · have H := Lib.hid (t3 ht)
      clear t3 t4
      go_enter Try.func84, Try.ntmps84
      go_wp2
      rw [H.out]
      exact bodyPost_ret (v := .agg #[.int .i64 p, .int .i64 (n % p)]) (by simp [results, Try.results84, go_sem]) rfl ⟨rfl, (Below.refl _ _).alloc (Nat.le_refl _) _⟩
    · have H0 : Hid (n.tmod p = n % p) := by show n.tmod p = n % p; have : n.tmod p = 0 := by omega
                                             rw [t4 this, this]
      clear t3 t4
      go_enter Try.func84, Try.ntmps84
      go_wp2
      rw [H0.out]
      exact bodyPost_ret (v := .agg #[.int .i64 p, .int .i64 (n % p)]) (by simp [results, Try.results84, go_sem]) rfl ⟨rfl, (Below.refl _ _).alloc (Nat.le_refl _) _⟩

set_option maxHeartbeats 400000 in
theorem times_any (p a b : Int) (w : World) (hp : prm p = true) (a0 : 0 ≤ a) (a1 : a < p) (b0 : 0 ≤ b) (b1 : b < p) :
    Calls Try.prog 69 #[.agg #[.int .i64 p, .int .i64 a], .agg #[.int .i64 p, .int .i64 b]] w fun e w' => e = .returned (.agg #[.int .i64 p, .int .i64 (a * b % p)]) ∧ Below w.heap.size w w' := by
  have hb := prm_bd hp
  obtain ⟨m0, m1⟩ := mul_bd hp a0 a1 b0 b1
  have HP := Lib.hid hp
  clear hp
  go_enter Try.func69, Try.ntmps69
  go_wp2_with (go_at_call 84; refine (remainderOf_any _ _ _ HP.out (by omega) (by omega)).mono ?_; rintro e w1 ⟨rfl, hb1⟩; obtain ⟨hc, hf⟩ := bcell hb1)
  refine bodyPost_ret (v := .agg #[.int .i64 p, .int .i64 (a * b % p)]) (by simp [results, Try.results69, go_sem, hc]) rfl ⟨rfl, ?_⟩
  (have hs_hb1 := hb1.size; (repeat' (first | with_reducible exact Below.refl _ _ | (with_reducible refine Below.setCell ?_ ?_ _) | (with_reducible refine Below.alloc ?_ ?_ _) | (with_reducible refine Below.drew ?_) | (with_reducible refine below_step ?_ ?_ hb1))); all_goals (first | (simp; done) | omega | (simp; omega) | (simp at hs_hb1 ⊢; omega)))

end Go.Proofs.Ytgfanoejohpmkaa

namespace Go.Proofs.Ytgfanoejohpmkaa
open Go.RowKit
set_option linter.unusedVariables false

theorem big_yes (a : Option Addr) (len cap : Nat) (w : World) (h : 4096 < len) (hm : len ≤ 9223372036854775807) :
    Calls Try.prog 4 #[.slice a len cap] w fun e w' => e = .returned (.bool true) ∧ w = w' := by
  have hd : decide ((4096 : Int) < (len : Int)) = true := by simp; omega
  go_enter Try.func4, Try.ntmps4
  go_wp2
  go_ret
  exact ⟨rfl, rfl⟩
theorem big_no (a : Option Addr) (len cap : Nat) (w : World) (h : len ≤ 4096) :
    Calls Try.prog 4 #[.slice a len cap] w fun e w' => e = .returned (.bool false) ∧ w = w' := by
  have hd : decide ((4096 : Int) < (len : Int)) = false := by simp; omega
  go_enter Try.func4, Try.ntmps4
  go_wp2
  go_ret
  exact ⟨rfl, rfl⟩

end Go.Proofs.Ytgfanoejohpmkaa

namespace Go.Proofs.Ytgfanoejohpmkaa
open Go.RowKit
set_option linter.unusedVariables false

def plusR (p : Int) (a b : List Int) (k : Int) : List Int := mkR a.length fun j => (a.getD j 0 + k * b.getD j 0) % p

set_option maxHeartbeats 1600000 in
set_option maxRecDepth 100000 in
theorem l02Plus_any (p k : Int) (a b : Option Addr) (za zb : List Int) (ca cb lo tp lo' tp' : Nat) (w : World) (hp : prm p = true) (ha : RowIn lo tp w a za) (hb : RowIn lo' tp' w b zb) (ht : tp ≤ w.heap.size) (ht' : tp' ≤ w.heap.size)
    (hl : za.length ≤ zb.length) (hs : za.length ≤ 1048576) (hna : ∀ j, j < za.length → 0 ≤ za.getD j 0 ∧ za.getD j 0 < p) (hnb : ∀ j, j < zb.length → 0 ≤ zb.getD j 0 ∧ zb.getD j 0 < p) (k0 : 0 ≤ k) (k1 : k ≤ p) :
    Calls Try.prog 28 #[.int .i64 p, .slice a za.length ca, .slice b zb.length cb, .int .i64 k] w (NewR (plusR p za zb k) w) := by
  obtain ⟨i0, hi, hz0, hz1, hz2⟩ := info_parts info64
  have hpb := prm_bd hp
  have HA := Lib.hid ha
  have HB := Lib.hid hb
  have HNA := Lib.hid hna
  have HNB := Lib.hid hnb
  clear ha hb hna hnb hp
  go_enter Try.func28, Try.ntmps28
  go_wp2
  go_loopw [9, 10] (fun v t wr => ∃ i : Nat, i ≤ za.length ∧ t = .int .i64 i ∧ OutR w.heap.size wr v (mkR i fun j => (za.getD j 0 + k * zb.getD j 0) % p) ∧ Below w.heap.size w wr) (fun _ t _ => za.length - (intOf t).toNat)
  case atStart => exact ⟨0, Nat.zero_le _, rfl, OutR.start w _ _ (Nat.le_refl _) rfl, by ((repeat' (first | with_reducible exact Below.refl _ _ | (with_reducible refine Below.setCell ?_ ?_ _) | (with_reducible refine Below.alloc ?_ ?_ _) | (with_reducible refine Below.drew ?_))); all_goals (first | (simp; done) | omega | (simp; omega)))⟩
  case round =>
    obtain ⟨i, hi', rfl, ho, hbel⟩ := hrel
    have HO := Lib.hid ho
    have hwz := hbel.size
    clear ho
    by_cases hlt : i < za.length
    · obtain ⟨b1, o1, ha1, _, hb1, hc1⟩ := HA.out.num hlt
      obtain ⟨b2, o2, ha2, _, hb2, hc2⟩ := HB.out.num (by omega : i < zb.length)
      subst ha1
      subst ha2
      have hc1 := (hbel.cell (p := ⟨b1, o1 + i, none⟩) (Nat.lt_of_lt_of_le hb1 ht)).trans hc1
      have hc2 := (hbel.cell (p := ⟨b2, o2 + i, none⟩) (Nat.lt_of_lt_of_le hb2 ht')).trans hc2
      obtain ⟨x0, x1⟩ := HNA.out i hlt
      obtain ⟨y0, y1⟩ := HNB.out i (by omega)
      have HS : Hid (mkR (i + 1) (fun j => (za.getD j 0 + k * zb.getD j 0) % p) = mkR i (fun j => (za.getD j 0 + k * zb.getD j 0) % p) ++ [(za.getD i 0 + k * zb.getD i 0) % p]) := mkR_succ _ _
      obtain ⟨x, hx⟩ : ∃ x, x = za.getD i 0 := ⟨_, rfl⟩
      obtain ⟨y, hy⟩ : ∃ y, y = zb.getD i 0 := ⟨_, rfl⟩
      rw [← hx] at hc1 x0 x1 HS
      rw [← hy] at hc2 y0 y1 HS
      clear hx hy
      have m0 : 0 ≤ k * y := Int.mul_nonneg k0 y0
      have m1 : k * y ≤ 13 * 13 := Int.le_trans (Int.mul_le_mul_of_nonneg_right (by omega : k ≤ 13) y0) (Int.mul_le_mul_of_nonneg_left (by omega) (by omega))
      have hi1 : (i : Int) < (za.length : Int) := by omega
      have hi2 : (i : Int) < (zb.length : Int) := by omega
      have e1 : IntKind.i64.wrap (k * y) = k * y := IntWalk.i64_in _ (by omega)
      have e2 : IntKind.i64.wrap (x + k * y) = x + k * y := IntWalk.i64_in _ (by omega)
      have e3 : (x + k * y).tmod p = (x + k * y) % p := Int.tmod_eq_emod_of_nonneg (by omega)
      obtain ⟨X, hX⟩ : ∃ X, X = (mkR i (fun j => (za.getD j 0 + k * zb.getD j 0) % p)).map (Value.int .i64) := ⟨_, rfl⟩
      have HX := Lib.hid hX
      have HO2 : Hid (wr.ownsRow w.heap.size 2 1 u9 i X) := by
        have := HO.out; unfold OutR at this; rw [mkR_len, ← hX] at this; exact this
      have n1 : u9.ownBlock ≠ some b1 := fun e => by have := (HO2.out.lt _ e).1; omega
      have n2 : u9.ownBlock ≠ some b2 := fun e => by have := (HO2.out.lt _ e).1; omega
      have lb1 : b1 < wr.heap.size := by omega
      have lb2 : b2 < wr.heap.size := by omega
      have hp0 : ¬ p = 0 := by omega
      have hp1 : (p == 0) = false := by simpa using hp0
      clear hX
      go_wp2
      go_region_held3 (fun w' => w'.cell? ⟨b1, o1 + i, none⟩ = some (.int .i64 x) ∧ w'.cell? ⟨b2, o2 + i, none⟩ = some (.int .i64 y)) (first | go_keep | (go_split_ands; refine ⟨?_, ?_⟩; (rw [hgrow.cell_far _ (by simp; omega) (Ne.symm n1)]; assumption); (rw [hgrow.cell_far _ (by simp; omega) (Ne.symm n2)]; assumption))) ((refine step_append_lies _ (by rfl) _ _ _ (by rfl) w.heap.size 2 i0 _ 1 8 Try.underlying24 hi hz0 hz1 hz2 rfl (by omega) u9 i X (by rfl) ((HO2.out.alloc _).drew) ⟨wr.heap.size, 0, none⟩ 1 1 [.int .i64 ((x + k * y) % p)] (by rfl) (by rfl) (World.news_of_block (cs := #[.int .i64 ((x + k * y) % p)]) (t := 2) (fr := (0, 0)) (heap_alloc_new wr _)) (by simp [Value.oneCell']) (by omega) (by unfold maxLen; omega) (by omega) (by simp; omega) (wr.heap.size + 1) (by simp) ?_; intro gg cap w1 hown1 hgrow hat hlt1))
      clear e1 e2 e3
      go_wp2
      go_roundw
      case rel => exact ⟨i + 1, by omega, by go_num, OutR.step HO2.out HX.out HS.out hown1, ((hbel.alloc hwz _).drew).grown hgrow (by simp; omega) (fun _ hk => (HO2.out.lt _ hk).1)⟩
      case measure => simp [intOf]; omega
    · have hn : i = za.length := by omega
      subst hn
      go_wp2
      go_ret
      exact HO.out.new hbel

end Go.Proofs.Ytgfanoejohpmkaa

namespace Go.Proofs.Ytgfanoejohpmkaa
open Go.RowKit
set_option linter.unusedVariables false

set_option maxHeartbeats 800000 in
theorem likeInts_same (a c : Option Addr) (zs : List Int) (k1 k2 lo hi lo' hi' : Nat) (w : World) (hb : RowIn lo hi w a zs) (hc : RowIn lo' hi' w c zs) (hl : zs.length ≤ 1048576) :
    Calls Try.prog 8 #[.slice a zs.length k1, .slice c zs.length k2] w fun e w' => e = .returned (.bool true) ∧ Quiet w w' := by
  have HB := Lib.hid hb
  have HC := Lib.hid hc
  clear hb hc
  go_enter Try.func8, Try.ntmps8
  go_wp2
  go_loopw [5] (fun t wr => ∃ i : Nat, i ≤ zs.length ∧ t = .int .i64 i ∧ (∃ n, wr = w.drewN n)) (fun t _ => zs.length - (intOf t).toNat)
  case atStart => exact ⟨0, Nat.zero_le _, rfl, 0, rfl⟩
  case round =>
    obtain ⟨i, hi, rfl, n, rfl⟩ := hrel
    by_cases hlt : i < zs.length
    · obtain ⟨b1, o1, ha1, _, _, hb1⟩ := HB.out.num hlt
      obtain ⟨b2, o2, ha2, _, _, hb2⟩ := HC.out.num hlt
      subst ha1
      subst ha2
      obtain ⟨x, hx⟩ : ∃ x, x = zs.getD i 0 := ⟨_, rfl⟩
      rw [← hx] at hb1 hb2
      clear hx
      go_wp2
      go_quiet (fail)
      go_wp2
      go_roundw
      case rel => exact ⟨i + 1, by omega, by go_num, _, rfl⟩
      case measure => simp [intOf]; omega
    · go_wp2
      go_ret
      exact ⟨rfl, n, rfl⟩

theorem nums_push {p x : Int} {X : List Int} (h : ∀ j, j < X.length → 0 ≤ X.getD j 0 ∧ X.getD j 0 < p) (hx : 0 ≤ x ∧ x < p) : ∀ j, j < (X ++ [x]).length → 0 ≤ (X ++ [x]).getD j 0 ∧ (X ++ [x]).getD j 0 < p := fun j hj => by
  rw [List.length_append] at hj
  have hj' : j < X.length + 1 := hj
  by_cases e : j < X.length
  · have : (X ++ [x]).getD j 0 = X.getD j 0 := by simp [List.getD, List.getElem?_append_left e]
    rw [this]; exact h j e
  · have e2 : j = X.length := by omega
    have : (X ++ [x]).getD j 0 = x := by subst e2; simp [List.getD]
    rw [this]; exact hx

/-- What the frame knows of a slice of bytes. -/
theorem code8_from {w : World} {a : Option Addr} {len cap : Nat} {zs : List Int}
    (h : (a = none ∧ len = 0 ∧ cap = 0 ∧ zs = []) ∨ ∃ x, a = some x ∧ len ≤ cap ∧ cap ≤ maxLen ∧ zs.length = cap ∧ (∀ i, i < zs.length → w.cell? (x.add i) = some (.int .u8 (zs.getD i 0))) ∧ ∀ n ∈ zs, (Lit.int .u8 n).wf = true) :
    Code8 w a len zs ∧ len ≤ 9223372036854775807 := by
  rcases h with ⟨rfl, rfl, rfl, rfl⟩ | ⟨x, rfl, h1, h2, h3, h4, h5⟩
  · exact ⟨.inl rfl, by omega⟩
  · unfold maxLen at h2
    refine ⟨?_, by omega⟩
    by_cases h0 : len = 0
    · exact .inl h0
    · obtain ⟨xb, off, rfl, hc⟩ := ints_at h4 (by omega)
      have hlt : xb < w.heap.size := World.block_lt_of_cell? w ⟨xb, off + 0, none⟩ (hc 0 (by omega))
      refine .inr ⟨xb, off, rfl, hlt, hlt, fun i hi => ⟨?_, hc i (by omega)⟩⟩
      have hm : zs.getD i 0 ∈ zs := by rw [getD_at (by omega : i < zs.length)]; exact List.getElem_mem _
      have hw := h5 _ hm
      generalize zs.getD i 0 = n at hw
      simp [Lit.wf, IntKind.min, IntKind.max, IntKind.signed, IntKind.bits] at hw
      omega

end Go.Proofs.Ytgfanoejohpmkaa
