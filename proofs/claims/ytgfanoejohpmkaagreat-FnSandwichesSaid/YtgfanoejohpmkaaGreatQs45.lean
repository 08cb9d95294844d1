/-
  The draw of a space whose squares are seldom 0: contract.
  Conditions: the source stands in a block of known cells.
  Draws of multivectors: contracts.
  Conditions: the source stands in a block of known cells; the space is one.
-/
import Derived.Test.YtgfanoejohpmkaaGreatQs6
import Derived.Test.YtgfanoejohpmkaaGreatQs7
import Derived.Test.YtgfanoejohpmkaaGreatQs21
import Derived.Deep.RegionHeld3
import Derived.Deep.DeepCutAuto
namespace Go.Proofs.YtgfanoejohpmkaaGreat
open Go.RowKit
set_option linter.unusedVariables false

theorem five_in7 {y : Int} (h : y ∈ [2, 3, 3, 4, 5]) : 1 ≤ y ∧ y ≤ 6 := by
  simp at h; omega

set_option maxRecDepth 100000 in
set_option maxHeartbeats 6400000 in
theorem space7_any (b : Nat) (a : Option Addr) (len cap : Nat) (zs : List Int) (w : World) (hs : Src w b a len cap zs) :
    Calls Tryz.prog 82 #[.pointer (some ⟨b, 0, none⟩)] w (DrawnT (fun X => X.length ≤ 7) b a len cap zs w) := by
  have hlt := hs.lt
  have HS := Lib.hid hs
  clear hs
  go_enter Tryz.func82, Tryz.ntmps82
  go_upto_region 1 with fail
  obtain ⟨wa, hwa⟩ : ∃ z, z = w.alloc (.cells #[.int .i64 0, .slice none 0 0] 26) := ⟨_, rfl⟩
  have HR1 : Hid (L2 wa w.heap.size (.int .i64 0) (.slice none 0 0)) := by show L2 _ _ _ _; rw [hwa]; exact L2.new _ _ _ _
  have HS1 : Hid (Src wa b a len cap zs) := by show Src _ _ _ _ _ _; rw [hwa]; exact HS.out.alloc _
  have HON1 : Hid (Only b w wa) := by show Only _ _ _; rw [hwa]; exact (Only.refl b w).alloc _
  have hRa : w.heap.size < wa.heap.size := by rw [hwa]; simp
  rw [← hwa]
  clear hwa
  go_upto_region 2 with (first
    | (go_at_call 174; (refine (pick_in wa.heap.size 5 [2, 3, 3, 4, 5] b a len cap zs _ (HS1.out.alloc _) (rowOf wa [2, 3, 3, 4, 5] _) rfl (by omega) (by omega) (by simp) (by omega)).mono ?_; rintro e w2 ⟨y, rfl, hy, on2, s2⟩; have hyy := five_in7 hy; have HS2 := Lib.hid s2; have HON2 := Lib.hid ((HON1.out.alloc _).trans on2); have hRb := Nat.lt_of_lt_of_le hRa (size_alloc wa (.cells (List.map (Value.int .i64) [2, 3, 3, 4, 5]).toArray 2)); have HR2 := Lib.hid ((HR1.out.alloc _ hRa).only on2 hRb (Nat.ne_of_gt hlt)); have hR2 := Nat.lt_of_lt_of_le hRb on2.size; clear on2 s2 hy))
    | (go_at_call 173; ((with_reducible refine (any_any y b a len cap zs _ HS2.out hyy.1 hyy.2).mono ?_); rintro e w3 ⟨p, r, X, c, rfl, hX, o3, on3, s3⟩; have HX := Lib.hid hX; have HS3 := Lib.hid s3; have HON3 := Lib.hid (HON2.out.trans on3); have HR3 := Lib.hid (HR2.out.only on3 hR2 (Nat.ne_of_gt hlt)); have HO3 := Lib.hid o3; have hR3 := Nat.lt_of_lt_of_le hR2 on3.size; have zy3 := on3.size; clear on3 s3 hX o3)))
  obtain ⟨B, hB⟩ : ∃ z, z = w2.heap.size := ⟨_, rfl⟩
  rw [← hB] at HO3 hR2 zy3
  clear hB HR1 HS1 HON1 HR2 HS2 HON2 hRb hyy
  obtain ⟨n, hn⟩ : ∃ z, z = X.length := ⟨_, rfl⟩
  have hn1 : 1 ≤ n ∧ n ≤ 6 := by rw [hn]; exact HX.out
  obtain ⟨wb, hwb⟩ : ∃ z, z = w3.alloc (.cells #[.int .i64 p, .slice r X.length c] 26) := ⟨_, rfl⟩
  obtain ⟨g, hg⟩ : ∃ z, z = w3.heap.size := ⟨_, rfl⟩
  have HG4 : Hid (L2 wb g (.int .i64 p) (.slice r n c)) := by show L2 _ _ _ _; rw [hwb, hg, hn]; exact L2.new _ _ _ _
  have HR4 : Hid (L2 wb w.heap.size (.int .i64 0) (.slice none 0 0)) := by show L2 _ _ _ _; rw [hwb]; exact HR3.out.alloc _ hR3
  have HS4 : Hid (Src wb b a len cap zs) := by show Src _ _ _ _ _ _; rw [hwb]; exact HS3.out.alloc _
  have HON4 : Hid (Only b w wb) := by show Only _ _ _; rw [hwb]; exact HON3.out.alloc _
  have hgb : g < wb.heap.size := by rw [hwb, hg]; simp
  obtain ⟨q1, o1, hr1, hq0, hq1, hro⟩ : ∃ q o, r = some ⟨q, o, none⟩ ∧ B ≤ q ∧ q < g ∧ RowOwn wb q o n (fun j => X.getD j 0) := by
    obtain ⟨a9, d9, e9, t9⟩ := HO3.out.tag
    injection e9 with e91 e92 e93
    subst e91
    have h9 : OwnR B g wb r X := by rw [hwb, hg]; exact ownR_below t9.own (below_alloc w3 _) (Nat.le_refl _)
    obtain ⟨q, o, h1, h2, h3, h4⟩ := RowOwn.of h9 (show 0 < X.length by omega)
    exact ⟨q, o, h1, h2, h3, by rw [hn]; exact h4⟩
  have HRO4 := Lib.hid hro
  subst hr1
  have hBg : B ≤ g := by rw [hg]; exact zy3
  rw [← hn] at hwb
  try rw [← hn]
  rw [← hwb, ← hg]
  clear hwb hg HR3 HS3 HON3 HO3 zy3 hR3 hro HX hn
  have hRg : w.heap.size < g := Nat.lt_of_lt_of_le hR2 hBg
  have hbg : b < g := Nat.lt_trans hlt hRg
  have hqb : q1 ≠ b := Nat.ne_of_gt (Nat.lt_of_lt_of_le (Nat.lt_trans hlt hR2) hq0)
  have hbq : b < q1 := Nat.lt_of_lt_of_le (Nat.lt_trans hlt hR2) hq0
  have hqg : g ≠ q1 := Nat.ne_of_gt hq1
  have hqR : w.heap.size ≠ q1 := Nat.ne_of_lt (Nat.lt_of_lt_of_le hR2 hq0)
  have hRq : w.heap.size ≤ q1 := Nat.le_of_lt (Nat.lt_of_lt_of_le hR2 hq0)
  go_wp2
  go_loopw [4] (fun t wr => ∃ (k : Nat) (f : Nat → Int), k ≤ n ∧ t = .int .i64 k ∧ L2 wr g (.int .i64 p) (.slice (some ⟨q1, o1, none⟩) n c) ∧ RowOwn wr q1 o1 n f ∧ L2 wr w.heap.size (.int .i64 0) (.slice none 0 0) ∧ Src wr b a len cap zs ∧ Only b w wr ∧ wb.heap.size ≤ wr.heap.size) (fun t _ => n - (intOf t).toNat)
  case atStart => exact ⟨0, _, Nat.zero_le _, rfl, HG4.out, HRO4.out, HR4.out, HS4.out, HON4.out, Nat.le_refl _⟩
  case round =>
    obtain ⟨k, f, hk, rfl, hg2, hro, hr2, hsr, hon, hsz⟩ := hrel
    have HGR := Lib.hid hg2
    have HRO := Lib.hid hro
    have HRR := Lib.hid hr2
    have HSR := Lib.hid hsr
    have HON := Lib.hid hon
    have gc1 := HGR.out.2.1
    have gc0 := HGR.out.1
    have rc0 := HRR.out.1
    have rc1 := HRR.out.2.1
    have rc2 := HRR.out.2.2.1
    have rc3 := HRR.out.2.2.2
    have hgr : g < wr.heap.size := Nat.lt_of_lt_of_le hgb hsz
    clear hg2 hro hr2 hsr hon
    by_cases hlt2 : k < n
    · have hi1 : (k : Int) < (n : Int) := by omega
      go_wp2_with (first | (go_at_call 84; ((with_reducible refine (next_any 12 b a len cap zs wr HSR.out).mono ?_); rintro e w4 ⟨x, rfl, _, on4, s4⟩; have HS4_ := Lib.hid s4; have HON4_ := Lib.hid (HON.out.trans on4); have HG4_ := Lib.hid (HGR.out.only on4 hgr (Nat.ne_of_gt hbg)); have HR4_ := Lib.hid (HRR.out.only on4 (Nat.lt_trans hRg hgr) (Nat.ne_of_gt hlt)); have HRO4_ := Lib.hid (rowOwn_stay HRO.out (on4.block q1 (Nat.lt_trans hq1 hgr) hqb)); have zs4 := Nat.le_trans hsz on4.size; have hg4_ := Nat.lt_of_lt_of_le hgr on4.size; have hc4 := HRO4_.out.cell k hlt2; have hf4 := HRO4_.out.free k hlt2; clear gc1 gc0 rc0 rc1 rc2 rc3; have gc0 := HG4_.out.1; have gc1 := HG4_.out.2.1; clear on4 s4)) | (go_at_call 84; ((with_reducible refine (next_any 30 b a len cap zs w4 HS4_.out).mono ?_); rintro e w5 ⟨x5, rfl, _, on5, s5⟩; have HS5_ := Lib.hid s5; have HON5_ := Lib.hid (HON4_.out.trans on5); have HG5_ := Lib.hid (HG4_.out.only on5 hg4_ (Nat.ne_of_gt hbg)); have HR5_ := Lib.hid (HR4_.out.only on5 (Nat.lt_trans hRg hg4_) (Nat.ne_of_gt hlt)); have HRO5_ := Lib.hid (rowOwn_stay HRO4_.out (on5.block q1 (Nat.lt_trans hq1 hg4_) hqb)); have hg5_ := Nat.lt_of_lt_of_le hg4_ on5.size; (try clear gc1 gc0); (try clear rc0 rc1 rc2 rc3); have gc0 := HG5_.out.1; have gc1 := HG5_.out.2.1; have rc0 := HR5_.out.1; have rc1 := HR5_.out.2.1; have rc2 := HR5_.out.2.2.1; have rc3 := HR5_.out.2.2.2; clear on5 s5)) | (go_at_call 175; ((with_reducible refine (spoil_space b a len cap zs w5 HS5_.out).mono ?_); rintro e w6 ⟨p6, r6, X6, c6, rfl, hX6, o6, on6, s6⟩; have HX6 := Lib.hid hX6; have HO6 := Lib.hid o6; have HS6_ := Lib.hid s6; have HON6_ := Lib.hid (HON5_.out.trans on6); have HR6_ := Lib.hid (HR5_.out.only on6 (Nat.lt_trans hRg hg5_) (Nat.ne_of_gt hlt)); clear rc0 rc1 rc2 rc3; have rc0 := HR6_.out.1; have rc1 := HR6_.out.2.1; have rc2 := HR6_.out.2.2.1; have rc3 := HR6_.out.2.2.2; clear on6 s6 hX6 o6)))
      · go_roundw
        case rel => exact ⟨k + 1, _, by omega, by go_num, HG4_.out.far _ hqg, rowOwn_put HRO4_.out hlt2 1, HR4_.out.far _ hqR, HS4_.out.far (Only.set _ _ _ _) hbq, HON4_.out.setCell (.inr hRq) _, by simp [World.setCell]; exact zs4⟩
        case measure => simp [intOf]; omega
      · go_roundw
        case rel => exact ⟨k + 1, f, by omega, by go_num, HG4_.out, HRO4_.out, HR4_.out, HS4_.out, HON4_.out, zs4⟩
        case measure => simp [intOf]; omega
      · (refine bodyPost_ret (v := .agg #[.int .i64 p6, .slice r6 X6.length c6]) (by simp [results, Tryz.results82, go_sem, rc0, rc1]) rfl ⟨p6, r6, X6, c6, rfl, HX6.out, ((HO6.out.far _ (.inl (Nat.lt_trans hRg hg5_))).far _ (.inl (Nat.lt_trans hRg hg5_))).mono (Nat.le_of_lt (Nat.lt_trans hRg hg5_)) (by simp [World.setCell]), (HON6_.out.setCell (.inr (Nat.le_refl _)) _).setCell (.inr (Nat.le_refl _)) _, (HS6_.out.far (Only.set _ _ _ _) hlt).far (Only.set _ _ _ _) hlt⟩)
      · (refine bodyPost_ret (v := .agg #[.int .i64 p, .slice (some ⟨q1, o1, none⟩) n c]) (by simp [results, Tryz.results82, go_sem, rc0, rc1]) rfl ⟨p, some ⟨q1, o1, none⟩, mkR n f, c, by rw [mkR_len], by show (mkR n f).length ≤ 7; rw [mkR_len]; omega, (((rowOwn_in (lo := B) (tp := w5.heap.size) HRO5_.out hq0 (Nat.lt_trans hq1 hg5_)).far _ (.inl hR2)).far _ (.inl hR2)).mono (Nat.le_of_lt hR2) (by simp [World.setCell]), (HON5_.out.setCell (.inr (Nat.le_refl _)) _).setCell (.inr (Nat.le_refl _)) _, (HS5_.out.far (Only.set _ _ _ _) hlt).far (Only.set _ _ _ _) hlt⟩)
    · have hi1 : ¬ (k : Int) < (n : Int) := by omega
      go_wp2_with (first | (go_at_call 84; ((with_reducible refine (next_any 30 b a len cap zs wr HSR.out).mono ?_); rintro e w5 ⟨x5, rfl, _, on5, s5⟩; have HS5_ := Lib.hid s5; have HON5_ := Lib.hid (HON.out.trans on5); have HG5_ := Lib.hid (HGR.out.only on5 hgr (Nat.ne_of_gt hbg)); have HR5_ := Lib.hid (HRR.out.only on5 (Nat.lt_trans hRg hgr) (Nat.ne_of_gt hlt)); have HRO5_ := Lib.hid (rowOwn_stay HRO.out (on5.block q1 (Nat.lt_trans hq1 hgr) hqb)); have hg5_ := Nat.lt_of_lt_of_le hgr on5.size; (try clear gc1 gc0); (try clear rc0 rc1 rc2 rc3); have gc0 := HG5_.out.1; have gc1 := HG5_.out.2.1; have rc0 := HR5_.out.1; have rc1 := HR5_.out.2.1; have rc2 := HR5_.out.2.2.1; have rc3 := HR5_.out.2.2.2; clear on5 s5)) | (go_at_call 175; ((with_reducible refine (spoil_space b a len cap zs w5 HS5_.out).mono ?_); rintro e w6 ⟨p6, r6, X6, c6, rfl, hX6, o6, on6, s6⟩; have HX6 := Lib.hid hX6; have HO6 := Lib.hid o6; have HS6_ := Lib.hid s6; have HON6_ := Lib.hid (HON5_.out.trans on6); have HR6_ := Lib.hid (HR5_.out.only on6 (Nat.lt_trans hRg hg5_) (Nat.ne_of_gt hlt)); clear rc0 rc1 rc2 rc3; have rc0 := HR6_.out.1; have rc1 := HR6_.out.2.1; have rc2 := HR6_.out.2.2.1; have rc3 := HR6_.out.2.2.2; clear on6 s6 hX6 o6)))
      · (refine bodyPost_ret (v := .agg #[.int .i64 p6, .slice r6 X6.length c6]) (by simp [results, Tryz.results82, go_sem, rc0, rc1]) rfl ⟨p6, r6, X6, c6, rfl, HX6.out, ((HO6.out.far _ (.inl (Nat.lt_trans hRg hg5_))).far _ (.inl (Nat.lt_trans hRg hg5_))).mono (Nat.le_of_lt (Nat.lt_trans hRg hg5_)) (by simp [World.setCell]), (HON6_.out.setCell (.inr (Nat.le_refl _)) _).setCell (.inr (Nat.le_refl _)) _, (HS6_.out.far (Only.set _ _ _ _) hlt).far (Only.set _ _ _ _) hlt⟩)
      · (refine bodyPost_ret (v := .agg #[.int .i64 p, .slice (some ⟨q1, o1, none⟩) n c]) (by simp [results, Tryz.results82, go_sem, rc0, rc1]) rfl ⟨p, some ⟨q1, o1, none⟩, mkR n f, c, by rw [mkR_len], by show (mkR n f).length ≤ 7; rw [mkR_len]; omega, (((rowOwn_in (lo := B) (tp := w5.heap.size) HRO5_.out hq0 (Nat.lt_trans hq1 hg5_)).far _ (.inl hR2)).far _ (.inl hR2)).mono (Nat.le_of_lt hR2) (by simp [World.setCell]), (HON5_.out.setCell (.inr (Nat.le_refl _)) _).setCell (.inr (Nat.le_refl _)) _, (HS5_.out.far (Only.set _ _ _ _) hlt).far (Only.set _ _ _ _) hlt⟩)

end Go.Proofs.YtgfanoejohpmkaaGreat

namespace Go.Proofs.YtgfanoejohpmkaaGreat
open Go.RowKit
set_option linter.unusedVariables false

set_option maxHeartbeats 1600000 in
theorem listN_any (p : Int) (n : Nat) (b : Nat) (a : Option Addr) (len cap : Nat) (zs : List Int) (w : World) (hs : Src w b a len cap zs) (hn : n ≤ 1048576) (hp : 1 ≤ p) :
    Calls Tryz.prog 180 #[.pointer (some ⟨b, 0, none⟩), .int .i64 p, .int .i64 n] w (DrawnO (fun X => X.length = n ∧ ∀ j, j < X.length → 0 ≤ X.getD j 0 ∧ X.getD j 0 < p) b a len cap zs w) := by
  obtain ⟨i0, hi, hz0, hz1, hz2⟩ := info_parts info64
  have hlt := hs.lt
  have HS := Lib.hid hs
  clear hs
  go_enter Tryz.func180, Tryz.ntmps180
  go_wp2
  go_loopw [7, 2] (fun v t wr => ∃ (X : List Int), X.length ≤ n ∧ (∀ j, j < X.length → 0 ≤ X.getD j 0 ∧ X.getD j 0 < p) ∧ t = .int .i64 ((n : Int) - X.length) ∧ OutR w.heap.size wr v X ∧ Src wr b a len cap zs ∧ Only b w wr) (fun _ t _ => (intOf t).toNat)
  case atStart => exact ⟨[], Nat.zero_le _, fun j hj => by simp at hj, by simp, OutR.start w _ _ (Nat.le_refl _) rfl, HS.out.alloc _, (Only.refl b w).alloc _⟩
  case round =>
    obtain ⟨X, hX, hXn, rfl, ho, hsr, hon⟩ := hrel
    have HXN := Lib.hid hXn
    clear hXn
    have HO := Lib.hid ho
    have HSR := Lib.hid hsr
    have HON := Lib.hid hon
    have hwz := hon.size
    clear ho hsr hon
    by_cases hlx : X.length < n
    · have hp0 : (0 : Int) < (n : Int) - X.length := by omega
      obtain ⟨j, hj⟩ : ∃ j, j = X.length := ⟨_, rfl⟩
      obtain ⟨Y, hY⟩ : ∃ Y, Y = X.map (Value.int .i64) := ⟨_, rfl⟩
      have HJ := Lib.hid hj
      have HY := Lib.hid hY
      rw [← hj] at hp0 hlx ⊢
      clear hj hY
      go_wp2_with (first | (go_at_call 84; (with_reducible refine (next_any p b a len cap zs _ HSR.out).mono ?_); rintro e w3 ⟨x, rfl, hx, ho3, hs3⟩; have HXX := Lib.hid (hx hp); have hz3 := ho3.size; have H3 : Hid (w3.ownsRow w.heap.size 2 1 u7 j Y) := (by have h := HO.out.only ho3 hlt; unfold OutR at h; rw [← HY.out, ← HJ.out] at h; exact h); have HS3 := Lib.hid hs3; have HO3 := Lib.hid (HON.out.trans ho3); clear ho3 hs3 hx) | (at_builtin; refine wpList_append_lies _ rfl _ _ 24 rfl w.heap.size 2 i0 (.int .i64 0) 1 8 Tryz.underlying24 hi hz0 hz1 hz2 rfl (by decide) u7 j Y rfl (H3.out.alloc _) ⟨w3.heap.size, 0, none⟩ 1 1 [.int .i64 x] rfl rfl (World.news_of_block (cs := #[.int .i64 x]) (t := 2) (fr := (0, 0)) (heap_alloc_new w3 _)) (by simp [Value.oneCell']) (by omega) (by unfold maxLen; omega) (by omega) (by simp; omega) (w3.heap.size + 1) (by simp) ?_; intro gg cap w1 hown1 hgrow hat hlt1))
      go_roundw
      case rel => exact ⟨X ++ [x], by rw [List.length_append, ← HJ.out]; exact hlx, nums_push HXN.out HXX.out, by rw [List.length_append, ← HJ.out]; go_num, OutR.push (by rw [← HY.out, ← HJ.out]; exact hown1), (HS3.out.alloc _).grown hgrow (fun k e => by have := (H3.out.lt _ e).1; omega), (HO3.out.alloc _).grown hgrow (fun k e => (H3.out.lt _ e).1)⟩
      case measure => simp [intOf]; omega
    · have hp0 : ¬ (0 : Int) < (n : Int) - X.length := by omega
      go_wp2
      go_ret
      exact ⟨_, X, rfl, ⟨by omega, HXN.out⟩, HO.out, HON.out, HSR.out⟩

/-- A multivector that has been drawn: its own memory, full or growing on. -/
def DrawnM (n : Nat) (b : Nat) (a : Option Addr) (len cap : Nat) (zs : List Int) (w : World) (e : Ending) (w' : World) : Prop :=
  ∃ r c X, e = .returned (.slice r X.length c) ∧ X.length = n ∧ OwnR w.heap.size w'.heap.size w' r X ∧ (c = X.length ∨ OutR w.heap.size w' (.slice r X.length c) X) ∧ Only b w w' ∧ Src w' b a len cap zs
theorem lone_any (p : Int) (a : Option Addr) (S : List Int) (c : Nat) (w : World) (h : S.length ≤ 6) :
    Calls Tryz.prog 188 #[.agg #[.int .i64 p, .slice a S.length c]] w (NewRow (bl S) oneF w) := by
  have hb0 := bl_pos S
  go_enter Tryz.func188, Tryz.ntmps188
  go_wp2_with (go_at_call 221; (with_reducible refine (l04Zero_any p a S c _ h).mono ?_); rintro e w1 ⟨b1, rfl, hl1, hu1, ho1, hb1⟩; have HO1 := Lib.hid ho1; have HB1 := Lib.hid (below_step (below_alloc w _) (by simp) hb1); have hz1 := hb1.size; have c0 := ho1.cell 0 hb0; have f0 := ho1.free 0 hb0; rw [Nat.zero_add] at c0 f0; clear hb1 ho1)
  have hwb : w.heap.size ≤ b1 := by simp at hl1; omega
  go_ret
  exact ⟨b1, rfl, hwb, by simp [World.setCell]; exact hu1, row_put0 (g := oneF) (v := 1) HO1.out hb0 (fun j _ => by unfold oneF; rfl), HB1.out.trans ((wrote_put0 (Wrote.refl b1 0 (bl S) w1) hb0 _).belowB hwb)⟩
theorem vecN {p : Int} (hp : 0 < p) {n : Nat} {v : List Int} (hn : ∀ j, j < v.length → 0 ≤ v.getD j 0 ∧ v.getD j 0 < p) : ∀ j, j < (mkR n (vecF v v.length)).length → 0 ≤ (mkR n (vecF v v.length)).getD j 0 ∧ (mkR n (vecF v v.length)).getD j 0 < p := fun j hj => by
  rw [mkR_len] at hj
  rw [mkR_at _ hj]
  have key : ∀ k, k ≤ v.length → 0 ≤ vecF v k j ∧ vecF v k j < p := fun k => by
    induction k with
    | zero => intro _; show 0 ≤ (0 : Int) ∧ (0 : Int) < p; omega
    | succ k ih =>
      intro h
      show 0 ≤ (if j = 2 ^ k then v.getD k 0 else vecF v k j) ∧ (if j = 2 ^ k then v.getD k 0 else vecF v k j) < p
      split
      · exact hn k (by omega)
      · exact ih (by omega)
  exact key v.length (Nat.le_refl _)
end Go.Proofs.YtgfanoejohpmkaaGreat
