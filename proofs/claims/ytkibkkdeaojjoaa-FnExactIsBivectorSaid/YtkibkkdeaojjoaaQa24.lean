/-
  Half brackets of bivectors (program): contracts of the program and of the model.
  Conditions: the lists are nil or rows of known cells, of at most 1048576 numbers.
  The model's list of the numbers of the basis vectors.
  Conditions: rows of known cells.
-/
import Derived.Test.YtkibkkdeaojjoaaQa22
import Derived.Test.YtkibkkdeaojjoaaQa20
import Derived.Test.YtkibkkdeaojjoaaQa23
import Derived.Test.YtkibkkdeaojjoaaQa16
import Derived.Test.YtkibkkdeaojjoaaQa8
import Derived.Deep.RegionHeld3
import Derived.Deep.DeepCutAuto
import Derived.Deep.DeepAppendRoom
namespace Go.Proofs.Ytkibkkdeaojjoaa
open Go.RowKit
set_option linter.unusedVariables false

theorem bracket_num {p : Int} (hp : 0 < p) (S x y : List Int) : ∀ j, j < bl S → 0 ≤ (brM p S x y).getD j 0 ∧ (brM p S x y).getD j 0 < p := fun j hj => by
  rw [← brM_eq, mkR_at _ hj]
  exact ⟨Int.emod_nonneg _ (by omega), Int.emod_lt_of_pos _ hp⟩
theorem hbM_at (p : Int) (S x y : List Int) {j : Nat} (hj : j < bl S) : (hbM p S x y).getD j 0 = (brM p S x y).getD j 0 * inv p 2 % p := by
  unfold hbM hfR sclV
  rw [brM_len, mkR_at _ hj]
def HbN (p : Int) (S x y : List Int) (w : World) (e : Ending) (w' : World) : Prop :=
  ∃ g o c, e = .returned (.slice (some ⟨g, o, none⟩) (bl S) c) ∧ w.heap.size ≤ g ∧ g < w'.heap.size ∧ RowOwn w' g o (bl S) (fun j => (hbM p S x y).getD j 0) ∧ Below w.heap.size w w'
def BoxB (z d : Nat) (p : Int) (aS : Option Addr) (n cS : Nat) (ax : Option Addr) (l cx : Nat) (W : World) : Prop :=
  (W.cell? ⟨z, 0, none⟩ = some (.int .i64 p) ∧ W.cell? ⟨z, 1, none⟩ = some (.slice aS n cS) ∧ W.cell? ⟨z, 2, none⟩ = some (.slice ax l cx)) ∧ W.cell? ⟨d, 0, none⟩ = some (.int .i64 p) ∧ W.cell? ⟨d, 1, none⟩ = some (.slice aS n cS)
theorem BoxB.below {z d : Nat} {p : Int} {aS ax : Option Addr} {n cS l cx B : Nat} {w w' : World} (h : BoxB z d p aS n cS ax l cx w) (b : Below B w w') (hz : z < B) (hd : d < B) : BoxB z d p aS n cS ax l cx w' :=
  ⟨⟨(b.cell (p := ⟨z, 0, none⟩) hz).trans h.1.1, (b.cell (p := ⟨z, 1, none⟩) hz).trans h.1.2.1, (b.cell (p := ⟨z, 2, none⟩) hz).trans h.1.2.2⟩, (b.cell (p := ⟨d, 0, none⟩) hd).trans h.2.1, (b.cell (p := ⟨d, 1, none⟩) hd).trans h.2.2⟩
theorem BoxB.wrote {z d b o m : Nat} {p : Int} {aS ax : Option Addr} {n cS l cx : Nat} {w w' : World} (h : BoxB z d p aS n cS ax l cx w) (q : Wrote b o m w w') (hz : b ≠ z) (hd : b ≠ d) : BoxB z d p aS n cS ax l cx w' :=
  ⟨⟨(World.cell?_of_block (w := w) (a := ⟨z, 0, none⟩) (q.block z hz.symm)).trans h.1.1, (World.cell?_of_block (w := w) (a := ⟨z, 1, none⟩) (q.block z hz.symm)).trans h.1.2.1, (World.cell?_of_block (w := w) (a := ⟨z, 2, none⟩) (q.block z hz.symm)).trans h.1.2.2⟩, (World.cell?_of_block (w := w) (a := ⟨d, 0, none⟩) (q.block d hd.symm)).trans h.2.1, (World.cell?_of_block (w := w) (a := ⟨d, 1, none⟩) (q.block d hd.symm)).trans h.2.2⟩
theorem BoxB.two (w : World) (p : Int) (aS ax : Option Addr) (n cS l cx : Nat) (T T' : TypeId) : BoxB w.heap.size (w.alloc (.cells #[.int .i64 p, .slice aS n cS, .slice ax l cx] T)).heap.size p aS n cS ax l cx ((w.alloc (.cells #[.int .i64 p, .slice aS n cS, .slice ax l cx] T)).alloc (.cells #[.int .i64 p, .slice aS n cS] T')) := by
  have h := below_alloc (w.alloc (.cells #[.int .i64 p, .slice aS n cS, .slice ax l cx] T)) (.cells #[.int .i64 p, .slice aS n cS] T')
  exact ⟨⟨(h.cell (p := ⟨w.heap.size, 0, none⟩) (lt_alloc w _)).trans (by simp [go_sem]), (h.cell (p := ⟨w.heap.size, 1, none⟩) (lt_alloc w _)).trans (by simp [go_sem]), (h.cell (p := ⟨w.heap.size, 2, none⟩) (lt_alloc w _)).trans (by simp [go_sem])⟩, nw0 _ _ _ _, nw1 _ _ _ _⟩

set_option maxRecDepth 100000 in
set_option maxHeartbeats 6400000 in
theorem halfBracket_own (pS : Int) (aS : Option Addr) (S : List Int) (cS loS tpS : Nat) (ax : Option Addr) (x : List Int) (cx lox tpx : Nat) (ay : Option Addr) (y : List Int) (cy loy tpy : Nat) (w : World) (hs : isSp pS S = true) (hS : RowIn loS tpS w aS S) (tS : tpS ≤ w.heap.size) (hx : RowIn lox tpx w ax x) (tx : tpx ≤ w.heap.size) (mx : isMv pS S x = true) (hy : RowIn loy tpy w ay y) (ty : tpy ≤ w.heap.size) (my : isMv pS S y = true) :
    Calls Try.prog 60 #[.agg #[.int .i64 pS, .slice aS S.length cS, .slice ax x.length cx], .slice ay y.length cy] w (HbN pS S x y w) := by
  have HI := Lib.hid hs
  have HS := Lib.hid hS
  have Hx := Lib.hid hx
  have HMX := Lib.hid mx
  have HP := Lib.hid (isSp_iff.1 hs).prime
  have h6 := (isSp_iff.1 hs).hi
  have hpb := prm_bd (isSp_iff.1 hs).prime
  have hbl := bl_le h6
  have hb0 := bl_pos S
  have Hy := Lib.hid hy
  have HMY := Lib.hid my
  have hfv := field_value
  clear hs hS hx mx hy my
  go_enter Try.func60, Try.ntmps60
  go_upto_region 1 with fail
  obtain ⟨w1, hw1⟩ : ∃ z, z = w.alloc (.cells #[.int .i64 pS, .slice aS S.length cS, .slice ax x.length cx] 58) := ⟨_, rfl⟩
  have hz1 : w1.heap.size = w.heap.size + 1 := by rw [hw1]; simp
  have HZ1 := Lib.hid hz1
  have kz0 : w1.cell? ⟨w.heap.size, 0, none⟩ = some (.int .i64 pS) := by rw [hw1]; simp [go_sem]
  have kz1 : w1.cell? ⟨w.heap.size, 1, none⟩ = some (.slice aS S.length cS) := by rw [hw1]; simp [go_sem]
  have kz2 : w1.cell? ⟨w.heap.size, 2, none⟩ = some (.slice ax x.length cx) := by rw [hw1]; simp [go_sem]
  have HBX := BoxB.two w pS aS ax S.length cS x.length cx 58 28
  have HBW := (below_alloc w (.cells #[.int .i64 pS, .slice aS S.length cS, .slice ax x.length cx] 58))
  rw [← hw1] at HBX HBW ⊢
  try rw [← hz1]
  clear hw1 hz1
  go_upto_region 2 with fail
  obtain ⟨w2, hw2⟩ : ∃ z, z = w1.alloc (.cells #[.int .i64 pS, .slice aS S.length cS] 28) := ⟨_, rfl⟩
  obtain ⟨d, hd⟩ : ∃ b, b = w1.heap.size := ⟨_, rfl⟩
  have HB2 : Hid (Below w.heap.size w w2) := by show Below _ _ _; rw [hw2]; exact HBW.alloc HBW.size _
  have hd2 : d < w2.heap.size := by rw [hw2, hd]; simp
  have hwd : w.heap.size < d := by rw [hd, HZ1.out]; exact Nat.lt_succ_self _
  rw [← hw2, ← hd] at HBX
  rw [← hw2, ← hd]
  have HX2 := Lib.hid HBX
  have hw2' : w.heap.size < w2.heap.size := Nat.lt_trans hwd hd2
  clear hw2 hd HBX HBW kz0 kz1 kz2
  obtain ⟨⟨k0, k1, k2⟩, d0, d1⟩ := HX2.out
  go_upto_region 3 with (go_at_call 92; ((with_reducible refine (bracket_any pS aS S cS loS tpS ax x cx lox tpx ay y cy loy tpy w2 HI.out (HS.out.below HB2.out tS) (Nat.le_trans tS HB2.out.size) (Hx.out.below HB2.out tx) (Nat.le_trans tx HB2.out.size) HMX.out (Hy.out.below HB2.out ty) (Nat.le_trans ty HB2.out.size) HMY.out).mono ?_); rintro e w3 ⟨r3, c3, rfl, o_, b_⟩; rw [brM_len]; have HO3 := Lib.hid o_; have HX3 := Lib.hid (HX2.out.below b_ hw2' hd2); have HB3 := Lib.hid (below_step HB2.out HB2.out.size b_); have hd3 := Nat.lt_of_lt_of_le hd2 b_.size; have z23 := b_.size; clear o_ b_ k0 k1 k2 d0 d1))
  obtain ⟨g, o, hr3, lg, ug, hc3⟩ := HO3.out.resolve_left (fun h => by have h2 := brM_len pS S x y; rw [h] at h2; simp at h2; omega)
  subst hr3
  have NN : Hid (RowOwn w3.drew g o (bl S) (fun j => (brM pS S x y).getD j 0)) := ⟨fun j hj => (hc3 j (by rw [brM_len]; exact hj)).1, fun j hj => (hc3 j (by rw [brM_len]; exact hj)).2⟩
  clear hc3
  have hs3 : Hid (BoxB w.heap.size d pS aS S.length cS ax x.length cx w3.drew) := HX3.out
  have HBE : Hid (Below w.heap.size w w3.drew) := HB3.out.drew
  have hwd3 : w.heap.size < w3.drew.heap.size := Nat.lt_of_lt_of_le hw2' z23
  have hdd3 : d < w3.drew.heap.size := hd3
  have ug' : g < w3.drew.heap.size := ug
  have hgw : w.heap.size ≤ g := Nat.le_trans (Nat.le_of_lt hw2') lg
  have hgz : g ≠ w.heap.size := by omega
  have hgd : g ≠ d := by omega
  have hbn : bl S ≤ 100000 := by omega
  have HTB : Hid (∀ j, j < bl S → 0 ≤ (brM pS S x y).getD j 0 ∧ (brM pS S x y).getD j 0 < pS) := bracket_num (by omega) S x y
  have HIV : Hid (0 ≤ inv pS 2 ∧ inv pS 2 < pS) := inv_bd HP.out 2
  have hinv : inv pS 2 ≤ pS := Int.le_of_lt HIV.out.2
  go_region_held3 (fun w' => w'.cell? ⟨d, 0, none⟩ = some (.int .i64 pS) ∧ w'.cell? ⟨d, 1, none⟩ = some (.slice aS S.length cS)) (first | exact hs3.out.2 | exact SSp.out.2 | exact SSpq.out.2 | go_keep) (first | (go_at_call 94; (with_reducible refine (inverse_any pS 2 w3.drew HP.out (by omega) (by omega)).mono ?_); rintro e wp ⟨rfl, b_⟩; have SSp := Lib.hid (hs3.out.below b_ hwd3 hdd3); have HBp := Lib.hid (below_step HBE.out (Nat.le_of_lt hwd3) b_); have zz_ := b_.size; have HCp := Lib.hid b_; clear b_) | (go_at_call 93; (with_reducible refine (scale_any pS (inv pS 2) g o (bl S) c3 (fun j => (brM pS S x y).getD j 0) wp HP.out (NN.out.stay (HCp.out.block g ug')) hbn HTB.out HIV.out.1 hinv).mono ?_); rintro e wpq ⟨rfl, o_, q_⟩; have HBpq := Lib.hid ((HBp.out).trans (q_.belowB hgw)); have zq_ : wp.heap.size ≤ wpq.heap.size := Nat.le_of_eq q_.size.symm; have SSpq : Hid (BoxB w.heap.size d pS aS S.length cS ax x.length cx wpq) := Lib.hid (SSp.out.wrote q_ hgz hgd); have Ng_pq := Lib.hid o_; clear o_ q_))
  all_goals
    go_wp2
    go_ret
    have hz := HCp.out.size
    exact ⟨g, o, c3, rfl, hgw, Nat.lt_of_lt_of_le ug (Nat.le_trans hz zq_), ⟨fun j hj => by rw [hbM_at pS S x y hj]; exact Ng_pq.out.cell j hj, Ng_pq.out.free⟩, HBpq.out⟩

end Go.Proofs.Ytkibkkdeaojjoaa

namespace Go.Proofs.Ytkibkkdeaojjoaa
open Go.RowKit
set_option linter.unusedVariables false

/-- The numbers of a list at the powers of two. -/
def lst2 (n : Nat) (z : List Int) : List Int := mkR n fun i => z.getD (2 ^ i) 0
theorem kwrap_pow4 {i : Nat} (h : i < 6) : IntKind.i64.wrap ((2 : Int) ^ i) = ((2 ^ i : Nat) : Int) := by
  have : i = 0 ∨ i = 1 ∨ i = 2 ∨ i = 3 ∨ i = 4 ∨ i = 5 := by omega
  rcases this with rfl | rfl | rfl | rfl | rfl | rfl <;> exact IntWalk.i64_in _ (by decide)
set_option maxRecDepth 100000 in
set_option maxHeartbeats 3200000 in
theorem l04List_any (pS : Int) (aS : Option Addr) (S : List Int) (cS : Nat) (az : Option Addr) (z : List Int) (cz loz tpz : Nat) (w : World) (h6 : S.length ≤ 6) (hz : RowIn loz tpz w az z) (tz : tpz ≤ w.heap.size) (lz : z.length = bl S) :
    Calls Try.prog 88 #[.agg #[.int .i64 pS, .slice aS S.length cS], .slice az z.length cz] w (SRow (lst2 S.length z) w) := by
  obtain ⟨i0, hi, hz0, hz1, hz2⟩ := info_parts info64
  have HZ := Lib.hid hz
  have HLZ := Lib.hid lz
  have HB0 := Lib.hid (below_alloc w (.cells #[.int .i64 pS, .slice aS S.length cS] 28))
  have k0 := nw0 w (.int .i64 pS) (.slice aS S.length cS) 28
  have k1 := nw1 w (.int .i64 pS) (.slice aS S.length cS) 28
  clear hz lz
  go_enter Try.func88, Try.ntmps88
  go_upto_region 1 with fail
  obtain ⟨wB, hw1⟩ : ∃ z, z = w.alloc (.cells #[.int .i64 pS, .slice aS S.length cS] 28) := ⟨_, rfl⟩
  rw [← hw1] at HB0 k0 k1 ⊢
  have hw0 : w.heap.size < wB.heap.size := by rw [hw1]; simp
  clear hw1
  have K0 := Lib.hid k0
  have K1 := Lib.hid k1
  clear k0 k1
  go_wp2
  go_loopw [5, 6] (fun u t wr => ∃ i : Nat, i ≤ S.length ∧ t = .int .i64 i ∧ OutR wB.heap.size wr u (lst2 i z) ∧ Below wB.heap.size wB wr) (fun _ t _ => S.length - (intOf t).toNat)
  case atStart => exact ⟨0, Nat.zero_le _, rfl, OutR.start wB _ _ (Nat.le_refl _) rfl, below_alloc wB _⟩
  case round =>
    obtain ⟨i, hi', rfl, ho, hbel⟩ := hrel
    have HO := Lib.hid ho
    have HB := Lib.hid hbel
    have hwz := hbel.size
    have hk0 := (hbel.cell (p := ⟨w.heap.size, 0, none⟩) hw0).trans K0.out
    have hk1 := (hbel.cell (p := ⟨w.heap.size, 1, none⟩) hw0).trans K1.out
    by_cases hlt : i < S.length
    · have hi1 : (i : Int) < (S.length : Int) := Int.ofNat_lt.2 hlt
      obtain ⟨q, hq⟩ : ∃ q, q = 2 ^ i := ⟨_, rfl⟩
      have hqn : q < z.length := by rw [hq, HLZ.out]; exact Nat.pow_lt_pow_right (by decide) hlt
      obtain ⟨bz, oz, haz, _, _, hcz⟩ := ((HZ.out.below HB0.out tz).below hbel (Nat.le_trans tz HB0.out.size)).num hqn
      subst haz
      have e1 : wrap64 ((2 : Int) ^ i) = (q : Int) := by rw [hq]; exact wrap_pow (by omega)
      have e2 : IntKind.i64.wrap ((2 : Int) ^ i) = (q : Int) := by rw [hq]; exact kwrap_pow4 (by omega)
      have hq1 : (q : Int) < (z.length : Int) := Int.ofNat_lt.2 hqn
      obtain ⟨Y, hY⟩ : ∃ y, y = z.getD q 0 := ⟨_, rfl⟩
      have HS1 : Hid (lst2 (i + 1) z = lst2 i z ++ [Y]) := by show _ = _; rw [hY, hq]; exact mkR_succ _ _
      rw [← hY] at hcz
      obtain ⟨X, hX⟩ : ∃ X, X = (lst2 i z).map (Value.int .i64) := ⟨_, rfl⟩
      have HX := Lib.hid hX
      have HO' : Hid (wr.ownsRow wB.heap.size 2 1 u5 i X) := by
        have := HO.out; unfold OutR at this; rw [show (lst2 i z).length = i from mkR_len _ _, ← hX] at this; exact this
      clear hX hq hY ho hbel
      go_wp2_with (at_builtin; refine wpList_append_lies _ rfl _ _ 22 rfl wB.heap.size 2 i0 (.int .i64 0) 1 8 Try.underlying22 hi hz0 hz1 hz2 rfl (by decide) u5 i X rfl (HO'.out.alloc _) ⟨wr.heap.size, 0, none⟩ 1 1 [.int .i64 Y] rfl rfl (World.news_of_block (cs := #[.int .i64 Y]) (t := 2) (fr := (0, 0)) (heap_alloc_new wr _)) (by simp [Value.oneCell']) (by omega) (by unfold maxLen; omega) (by omega) (by simp; omega) (wr.heap.size + 1) (by simp) ?_; intro gg cap w1 hown1 hgrow hat hlt1)
      go_roundw
      case rel => exact ⟨i + 1, by omega, by go_num, OutR.step HO'.out HX.out HS1.out hown1, (HB.out.alloc hwz _).grown hgrow (by simp; omega) (fun _ hk => (HO'.out.lt _ hk).1)⟩
      case measure => simp [intOf]; omega
    · have hin : i = S.length := by omega
      subst hin
      clear ho hbel
      go_wp2
      go_ret
      obtain ⟨r, c, hv, ht⟩ := HO.out.tag
      rw [hv]
      exact ⟨r, c, rfl, ht.row.mono HB0.out.size (Nat.le_refl _), HB0.out.trans (HB.out.mono HB0.out.size)⟩

end Go.Proofs.Ytkibkkdeaojjoaa
