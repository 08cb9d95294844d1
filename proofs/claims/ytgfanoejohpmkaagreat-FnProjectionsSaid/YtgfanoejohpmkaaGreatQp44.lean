/-
  Contracts and facts that the walk of the law rests on.
  Conditions: those that each theorem names.
-/
import Derived.Test.YtgfanoejohpmkaaGreatQp22
import Derived.Test.YtgfanoejohpmkaaGreatQp21
namespace Go.Proofs.YtgfanoejohpmkaaGreat
open Go.RowKit
set_option linter.unusedVariables false
def lst2 (n : Nat) (z : List Int) : List Int := mkR n fun i => z.getD (2 ^ i) 0
theorem kwrap_pow4 {i : Nat} (h : i < 6) : IntKind.i64.wrap ((2 : Int) ^ i) = ((2 ^ i : Nat) : Int) := by
 have : i = 0 ∨ i = 1 ∨ i = 2 ∨ i = 3 ∨ i = 4 ∨ i = 5 := by omega
 rcases this with rfl | rfl | rfl | rfl | rfl | rfl <;> exact IntWalk.i64_in _ (by decide)
set_option maxRecDepth 100000 in
set_option maxHeartbeats 3200000 in
theorem l04List_any (pS : Int) (aS : Option Addr) (S : List Int) (cS : Nat) (az : Option Addr) (z : List Int) (cz loz tpz : Nat) (w : World) (h6 : S.length ≤ 6) (hz : RowIn loz tpz w az z) (tz : tpz ≤ w.heap.size) (lz : z.length = bl S) :
 Calls Tryz.prog 212 #[.agg #[.int .i64 pS, .slice aS S.length cS], .slice az z.length cz] w (SRow (lst2 S.length z) w) := by
 obtain ⟨i0, hi, hz0, hz1, hz2⟩ := info_parts info64
 have HZ := Lib.hid hz
 have HLZ := Lib.hid lz
 have HB0 := Lib.hid (below_alloc w (.cells #[.int .i64 pS, .slice aS S.length cS] 26))
 have k0 := nw0 w (.int .i64 pS) (.slice aS S.length cS) 26
 have k1 := nw1 w (.int .i64 pS) (.slice aS S.length cS) 26
 clear hz lz
 go_enter Tryz.func212, Tryz.ntmps212
 go_upto_region 1 with fail
 obtain ⟨wB, hw1⟩ : ∃ z, z = w.alloc (.cells #[.int .i64 pS, .slice aS S.length cS] 26) := ⟨_, rfl⟩
 rw [← hw1] at HB0 k0 k1 ⊢
 have hw0 : w.heap.size < wB.heap.size := by rw [hw1]; simp
 clear hw1
 have K0 := Lib.hid k0
 have K1 := Lib.hid k1
 clear k0 k1
 go_wp2
 go_loopw [5, 6] (fun u t wr => ∃ i : Nat, i ≤ S.length ∧ t = .int .i64 i ∧ OutR wB.heap.size wr u (lst2 i z) ∧ Below wB.heap.size wB wr) (fun _ t _ => S.length - (intOf t).toNat)
 case atStart => exact ⟨0, Nat.zero_le _, rfl, OutR.start wB _ _ (Nat.le_refl _) rfl, below_alloc wB _⟩
 case round =>
  obtain ⟨i, hi', rfl, ho, hbel⟩ := hrel
  have HO := Lib.hid ho
  have HB := Lib.hid hbel
  have hwz := hbel.size
  have hk0 := (hbel.cell (p := ⟨w.heap.size, 0, none⟩) hw0).trans K0.out
  have hk1 := (hbel.cell (p := ⟨w.heap.size, 1, none⟩) hw0).trans K1.out
  by_cases hlt : i < S.length
  · have hi1 : (i : Int) < (S.length : Int) := Int.ofNat_lt.2 hlt
    obtain ⟨q, hq⟩ : ∃ q, q = 2 ^ i := ⟨_, rfl⟩
    have hqn : q < z.length := by rw [hq, HLZ.out]; exact Nat.pow_lt_pow_right (by decide) hlt
    obtain ⟨bz, oz, haz, _, _, hcz⟩ := ((HZ.out.below HB0.out tz).below hbel (Nat.le_trans tz HB0.out.size)).num hqn
    subst haz
    have e1 : wrap64 ((2 : Int) ^ i) = (q : Int) := by rw [hq]; exact wrap_pow (by omega)
    have e2 : IntKind.i64.wrap ((2 : Int) ^ i) = (q : Int) := by rw [hq]; exact kwrap_pow4 (by omega)
    have hq1 : (q : Int) < (z.length : Int) := Int.ofNat_lt.2 hqn
    obtain ⟨Y, hY⟩ : ∃ y, y = z.getD q 0 := ⟨_, rfl⟩
    have HS1 : Hid (lst2 (i + 1) z = lst2 i z ++ [Y]) := by show _ = _; rw [hY, hq]; exact mkR_succ _ _
    rw [← hY] at hcz
    obtain ⟨X, hX⟩ : ∃ X, X = (lst2 i z).map (Value.int .i64) := ⟨_, rfl⟩
    have HX := Lib.hid hX
    have HO' : Hid (wr.ownsRow wB.heap.size 2 1 u5 i X) := by
     have := HO.out; unfold OutR at this; rw [show (lst2 i z).length = i from mkR_len _ _, ← hX] at this; exact this
    clear hX hq hY ho hbel
    go_wp2_with (at_builtin; refine wpList_append_lies _ rfl _ _ 24 rfl wB.heap.size 2 i0 (.int .i64 0) 1 8 Tryz.underlying24 hi hz0 hz1 hz2 rfl (by decide) u5 i X rfl (HO'.out.alloc _) ⟨wr.heap.size, 0, none⟩ 1 1 [.int .i64 Y] rfl rfl (World.news_of_block (cs := #[.int .i64 Y]) (t := 2) (fr := (0, 0)) (heap_alloc_new wr _)) (by simp [Value.oneCell']) (by omega) (by unfold maxLen; omega) (by omega) (by simp; omega) (wr.heap.size + 1) (by simp) ?_; intro gg cap w1 hown1 hgrow hat hlt1)
    go_roundw
    case rel => exact ⟨i + 1, by omega, by go_num, OutR.step HO'.out HX.out HS1.out hown1, (HB.out.alloc hwz _).grown hgrow (by simp; omega) (fun _ hk => (HO'.out.lt _ hk).1)⟩
    case measure => simp [intOf]; omega
  · have hin : i = S.length := by omega
    subst hin
    clear ho hbel
    go_wp2
    go_ret
    obtain ⟨r, c, hv, ht⟩ := HO.out.tag
    rw [hv]
    exact ⟨r, c, rfl, ht.row.mono HB0.out.size (Nat.le_refl _), HB0.out.trans (HB.out.mono HB0.out.size)⟩
end Go.Proofs.YtgfanoejohpmkaaGreat