/-
  Matrices of bivectors (program): contracts of the program and of the model.
  Conditions: the lists are nil or rows of known cells, of at most 1048576 numbers.
-/
import Derived.Test.YtkibkkdeaojjoabGreatQg49
import Derived.Test.YtkibkkdeaojjoabGreatQg44
import Derived.Deep.RegionHeld3
import Derived.Deep.DeepCutAuto
namespace Go.Proofs.YtkibkkdeaojjoabGreat
open Go.RowKit
set_option linter.unusedVariables false

theorem blade_mvB {p : Int} {S : List Int} (hs : isSp p S = true) (k : Nat) : isMv p S (bladeM S k) = true :=
  isMv_of (mkR_len _ _) (fun j hj => by
    have hp := prm_bd (isSp_iff.1 hs).prime
    unfold bladeM at hj ⊢
    rw [mkR_len] at hj
    rw [mkR_at _ hj]
    split <;> omega)
/-- A matrix in a struct's rows of six. -/
def smM (n : Nat) (m : List (List Int)) (c : Nat) : Int := if c / 6 < n ∧ c % 6 < n then at' m (c / 6) (c % 6) else 0
def smX (n : Nat) (F : Nat → Nat → Int) (i r c : Nat) : Int := if c / 6 < n ∧ c % 6 < n ∧ (c % 6 < i ∨ (c % 6 = i ∧ c / 6 < r)) then F (c / 6) (c % 6) else 0
theorem smX_none (n : Nat) (F : Nat → Nat → Int) (c : Nat) : smX n F 0 0 c = 0 := if_neg (by omega)
theorem smX_row (n : Nat) (F : Nat → Nat → Int) (i c : Nat) : smX n F i n c = smX n F (i + 1) 0 c := by
  unfold smX
  by_cases h : c / 6 < n ∧ c % 6 < n ∧ (c % 6 < i ∨ (c % 6 = i ∧ c / 6 < n))
  · rw [if_pos h, if_pos (by omega)]
  · rw [if_neg h, if_neg (by omega)]
theorem smX_put (n : Nat) (F : Nat → Nat → Int) {i r : Nat} (hi : i < n) (hr : r < n) (h6 : n ≤ 6) (c : Nat) (hc : c < 36) : smX n F i (r + 1) c = if c = r * 6 + i then F r i else smX n F i r c := by
  unfold smX
  by_cases e : c = r * 6 + i
  · subst e
    have h1 : (r * 6 + i) / 6 = r := by omega
    have h2 : (r * 6 + i) % 6 = i := by omega
    rw [if_pos rfl, h1, h2, if_pos (by omega)]
  · rw [if_neg e]
    by_cases h : c / 6 < n ∧ c % 6 < n ∧ (c % 6 < i ∨ (c % 6 = i ∧ c / 6 < r))
    · rw [if_pos h, if_pos (by omega)]
    · rw [if_neg h, if_neg (by omega)]
theorem smX_whole (p : Int) (S x : List Int) (c : Nat) : smX S.length (bmF p S x) S.length 0 c = smM S.length (bmM p S x) c := by
  unfold smX smM
  by_cases h : c / 6 < S.length ∧ c % 6 < S.length
  · rw [if_pos (by omega), if_pos h, bm_at h.1 h.2]
  · rw [if_neg (by omega), if_neg h]
theorem SmB.block {g n : Nat} {f : Nat → Int} {w w' : World} (h : SmB g n f w) (e : w'.heap[g]? = w.heap[g]?) : SmB g n f w' :=
  ⟨(World.cell?_of_block (w := w) (a := ⟨g, 0, none⟩) e).trans h.head, (World.frozen?_of_block (w := w) (a := ⟨g, 0, none⟩) e).trans h.fr, ⟨fun j hj => (World.cell?_of_block (w := w) (a := ⟨g, 1 + j, none⟩) e).trans (h.row.cell j hj), fun j hj => (World.frozen?_of_block (w := w) (a := ⟨g, 1 + j, none⟩) e).trans (h.row.free j hj)⟩⟩
theorem sz_setCells (g : Nat) : ∀ (vs : List Value) (o : Nat) (w : World), (w.setCells g o vs).heap.size = w.heap.size
  | [], _, _ => rfl
  | v :: r, o, w => by rw [World.setCells, sz_setCells g r]; simp [World.setCell]
/-- Only block g of the first B ones has changed. -/
def Gb (g B : Nat) (w w' : World) : Prop := ∀ k, k < B → k ≠ g → w'.heap[k]? = w.heap[k]?
theorem Gb.refl (g B : Nat) (w : World) : Gb g B w w := fun _ _ _ => rfl
theorem Gb.trans {g B : Nat} {a b c : World} (h : Gb g B a b) (k : Gb g B b c) : Gb g B a c := fun i hi hg => (k i hi hg).trans (h i hi hg)
theorem Gb.below {g B : Nat} {w w' : World} (h : Below B w w') : Gb g B w w' := fun k hk _ => h.block k hk
theorem Gb.mono {g B B' : Nat} {w w' : World} (h : Gb g B w w') (l : B' ≤ B) : Gb g B' w w' := fun k hk hg => h k (by omega) hg
theorem Gb.wrote {g B o n : Nat} {w w' : World} (h : Wrote g o n w w') : Gb g B w w' := fun k _ hg => h.block k hg
theorem Gb.same {g B lo hi : Nat} {w w' : World} (h : Gb g B w w') (l : g < lo ∨ hi ≤ g) (u : hi ≤ B) : Same lo hi w w' := fun k k0 k1 => h k (by omega) (by omega)
theorem Gb.box {g B z d : Nat} {p : Int} {aS ax : Option Addr} {n cS l cx : Nat} {w w' : World} (h : Gb g B w w') (k : BoxB z d p aS n cS ax l cx w) (lz : z < B) (ld : d < B) (nz : z ≠ g) (nd : d ≠ g) : BoxB z d p aS n cS ax l cx w' :=
  ⟨⟨(World.cell?_of_block (w := w) (a := ⟨z, 0, none⟩) (h z lz nz)).trans k.1.1, (World.cell?_of_block (w := w) (a := ⟨z, 1, none⟩) (h z lz nz)).trans k.1.2.1, (World.cell?_of_block (w := w) (a := ⟨z, 2, none⟩) (h z lz nz)).trans k.1.2.2⟩, (World.cell?_of_block (w := w) (a := ⟨d, 0, none⟩) (h d ld nd)).trans k.2.1, (World.cell?_of_block (w := w) (a := ⟨d, 1, none⟩) (h d ld nd)).trans k.2.2⟩
theorem below_dB {w w' : World} (h : Below w.drew.heap.size w.drew w') : Below w.heap.size w w' := Below.trans (below_drew w) h
theorem bs_mv {p : Int} {S : List Int} (hs : isSp p S = true) {i : Nat} (h : i < (bsM S).length) : isMv p S (rw' (bsM S) i) = true := by
  rw [bs_len] at h; rw [bs_row h]; exact blade_mvB hs _
theorem im_row {p : Int} {S x : List Int} {i : Nat} (h : i < S.length) : rw' (imM p S x (bsM S)) i = hbM p S x (bladeM S (2 ^ i)) := by
  rw [imM_row (by rw [bs_len]; exact h), bs_row h]
def SmE (n : Nat) (f : Nat → Int) (w : World) (e : Ending) (w' : World) : Prop := e = .returned (.agg (smL n f).toArray) ∧ Below w.heap.size w w'

set_option maxRecDepth 100000 in
set_option maxHeartbeats 12800000 in
theorem matrix_any (pS : Int) (aS : Option Addr) (S : List Int) (cS loS tpS : Nat) (ax : Option Addr) (x : List Int) (cx lox tpx : Nat) (w : World) (hs : isSp pS S = true) (hS : RowIn loS tpS w aS S) (tS : tpS ≤ w.heap.size) (hx : RowIn lox tpx w ax x) (tx : tpx ≤ w.heap.size) (mx : isMv pS S x = true) :
    Calls Tryz.prog 89 #[.agg #[.int .i64 pS, .slice aS S.length cS, .slice ax x.length cx]] w (SmE S.length (smM S.length (bmM pS S x)) w) := by
  have HI := Lib.hid hs
  have HS := Lib.hid hS
  have Hx := Lib.hid hx
  have HMX := Lib.hid mx
  have h6 := (isSp_iff.1 hs).hi
  have hn1 := (isSp_iff.1 hs).lo
  have hbl := bl_le h6
  have hb0 := bl_pos S
  clear hs hS hx mx
  go_enter Tryz.func89, Tryz.ntmps89
  go_upto_region 1 with (refine wpList_alloc_sm (by rfl) (by rfl) ?_)
  obtain ⟨w0, hw0⟩ : ∃ z, z = w.alloc (.cells #[.int .i64 pS, .slice aS S.length cS, .slice ax x.length cx] 51) := ⟨_, rfl⟩
  obtain ⟨r, hr⟩ : ∃ b, b = w0.heap.size := ⟨_, rfl⟩
  obtain ⟨w1, hw1⟩ : ∃ z, z = w0.alloc (.cells (smL 0 fun _ => 0).toArray 107) := ⟨_, rfl⟩
  have hrz : r = w.heap.size + 1 := by rw [hr, hw0]; simp
  have B0 := below_alloc w (.cells #[.int .i64 pS, .slice aS S.length cS, .slice ax x.length cx] 51)
  rw [← hw0] at B0
  have kz0 : w1.cell? ⟨w.heap.size, 0, none⟩ = some (.int .i64 pS) := by rw [hw1, hw0]; exact ((below_alloc (w.alloc (.cells #[.int .i64 pS, .slice aS S.length cS, .slice ax x.length cx] 51)) _).cell (p := ⟨w.heap.size, 0, none⟩) (lt_alloc w _)).trans (by simp [go_sem])
  have kz1 : w1.cell? ⟨w.heap.size, 1, none⟩ = some (.slice aS S.length cS) := by rw [hw1, hw0]; exact ((below_alloc (w.alloc (.cells #[.int .i64 pS, .slice aS S.length cS, .slice ax x.length cx] 51)) _).cell (p := ⟨w.heap.size, 1, none⟩) (lt_alloc w _)).trans (by simp [go_sem])
  have kz2 : w1.cell? ⟨w.heap.size, 2, none⟩ = some (.slice ax x.length cx) := by rw [hw1, hw0]; exact ((below_alloc (w.alloc (.cells #[.int .i64 pS, .slice aS S.length cS, .slice ax x.length cx] 51)) _).cell (p := ⟨w.heap.size, 2, none⟩) (lt_alloc w _)).trans (by simp [go_sem])
  have RB1 : Hid (SmB r 0 (fun _ => 0) w1) := by show SmB _ _ _ _; rw [hw1, hr]; exact SmB.new _ _ _ _
  have HB1 : Hid (Below w.heap.size w w1) := by show Below _ _ _; rw [hw1]; exact B0.alloc B0.size _
  have hz1 : w1.heap.size = w.heap.size + 2 := by rw [hw1, hw0]; simp
  have HZ1 := Lib.hid hz1
  have hr1 : r < w1.heap.size := by omega
  try rw [← hw0]
  rw [← hw1]
  try rw [← hr]
  try rw [← hrz]
  have HRZ := Lib.hid hrz
  clear hw0 hr hw1 B0 hrz hz1
  go_upto_region 2 with fail
  obtain ⟨w2, hw2⟩ : ∃ z, z = w1.alloc (.cells #[.int .i64 pS, .slice aS S.length cS] 29) := ⟨_, rfl⟩
  obtain ⟨d, hd⟩ : ∃ b, b = w1.heap.size := ⟨_, rfl⟩
  have HX2 : Hid (BoxB w.heap.size d pS aS S.length cS ax x.length cx w2) := by
    show BoxB _ _ _ _ _ _ _ _ _ _
    rw [hw2, hd]
    have hlt : w.heap.size < w1.heap.size := by rw [HZ1.out]; omega
    exact ⟨⟨((below_alloc w1 _).cell (p := ⟨w.heap.size, 0, none⟩) hlt).trans kz0, ((below_alloc w1 _).cell (p := ⟨w.heap.size, 1, none⟩) hlt).trans kz1, ((below_alloc w1 _).cell (p := ⟨w.heap.size, 2, none⟩) hlt).trans kz2⟩, nw0 _ _ _ _, nw1 _ _ _ _⟩
  have RB2 : Hid (SmB r 0 (fun _ => 0) w2) := by show SmB _ _ _ _; rw [hw2]; exact RB1.out.below (below_alloc w1 _) hr1
  have HB2 : Hid (Below w.heap.size w w2) := by show Below _ _ _; rw [hw2]; exact HB1.out.alloc HB1.out.size _
  have hd2 : d < w2.heap.size := by rw [hw2, hd]; simp
  have hzd : w.heap.size < d := by rw [hd, HZ1.out]; omega
  have hrd : r < d := by rw [hd]; exact hr1
  rw [← hw2, ← hd]
  clear hw2 hd kz0 kz1 kz2 hr1
  obtain ⟨⟨k0, k1, k2⟩, d0, d1⟩ := HX2.out
  go_upto_region 3 with (first | (refine wpList_build_sm S.length _ (by rfl) (by rfl) (by first | rfl | (simp [Act.eval]; done) | simp [Act.eval, Act.put]) ?_) | (refine wpList_alloc_sm (by rfl) (by rfl) ?_) | (refine wpList_store_sm w2.heap.size 0 S.length (fun _ => 0) (fun _ => 0) _ _ (by rfl) (by rfl) (by first | rfl | (simp [Act.eval]; done) | simp [Act.eval, Act.put]) (by first | rfl | (simp [Act.eval]; done) | simp [Act.eval, Act.put]) (SmB.new _ _ _ _) ?_))
  obtain ⟨g, hg⟩ : ∃ b, b = w2.heap.size := ⟨_, rfl⟩
  obtain ⟨w3, hw3⟩ : ∃ z, z = (w2.alloc (.cells (smL 0 fun _ => 0).toArray 107)).setCells g 0 (smL S.length fun _ => 0) := ⟨_, rfl⟩
  have B23 : Below w2.heap.size w2 w3 := by rw [hw3, hg]; exact below_setCells (below_alloc w2 _) (Nat.le_refl _) _ _
  have z3 : w3.heap.size = g + 1 := by rw [hw3, hg]; rw [sz_setCells]; simp
  have hx3_ : BoxB w.heap.size d pS aS S.length cS ax x.length cx w3 := HX2.out.below B23 (Nat.lt_trans hzd hd2) hd2
  have HX3 : Hid (BoxB w.heap.size d pS aS S.length cS ax x.length cx w3.drew) := hx3_
  clear hx3_
  have RB3 := Lib.hid (RB2.out.below B23 (Nat.lt_trans hrd hd2))
  have GB3 : Hid (SmB g S.length (fun _ => 0) w3) := by show SmB _ _ _ _; rw [hw3, hg]; exact (SmB.new w2 0 (fun _ => 0) _).stored
  have HB3 : Hid (Below w.heap.size w w3.drew) := (below_step HB2.out HB2.out.size B23).drew
  have hg3 : g < w3.drew.heap.size := by show g < w3.heap.size; omega
  have hgd : d < g := by rw [hg]; exact hd2
  have hz3 : w.heap.size < w3.drew.heap.size := Nat.lt_trans (Nat.lt_trans hzd hgd) hg3
  have hd3 : d < w3.drew.heap.size := Nat.lt_trans hgd hg3
  have HZ3 := Lib.hid z3
  rw [hg] at hw3
  rw [← hw3]
  try rw [← hg]
  clear hw3 hg B23 z3 k0 k1 k2 d0 d1
  have HBS : Hid (∀ i, i < (bsM S).length → isMv pS S (rw' (bsM S) i) = true) := fun i hi => bs_mv HI.out hi
  have hsm : (bsM S).length ≤ 64 := by rw [bs_len]; omega
  go_region_held3 (fun w' => w'.cell? ⟨w.heap.size, 0, none⟩ = some (.int .i64 pS) ∧ w'.cell? ⟨w.heap.size, 1, none⟩ = some (.slice aS S.length cS) ∧ w'.cell? ⟨w.heap.size, 2, none⟩ = some (.slice ax x.length cx) ∧ w'.cell? ⟨d, 0, none⟩ = some (.int .i64 pS) ∧ w'.cell? ⟨d, 1, none⟩ = some (.slice aS S.length cS)) (first | exact ⟨HX3.out.1.1, HX3.out.1.2.1, HX3.out.1.2.2, HX3.out.2.1, HX3.out.2.2⟩ | exact ⟨SSa.out.1.1, SSa.out.1.2.1, SSa.out.1.2.2, SSa.out.2.1, SSa.out.2.2⟩ | exact ⟨SSb.out.1.1, SSb.out.1.2.1, SSb.out.1.2.2, SSb.out.2.1, SSb.out.2.2⟩ | go_keep) (first | (go_at_call 107; ((with_reducible refine (basisVectorsB pS aS S cS w3.drew h6).mono ?_); rintro e wa ⟨ra, ca, rfl, o_, b_⟩; rw [bs_len]; have SSa := Lib.hid (HX3.out.below b_ hz3 hd3); have Ma := Lib.hid o_; have HBa := Lib.hid (below_step HB3.out HB3.out.size b_); have Ba := Lib.hid b_; have za := b_.size; have hza := Nat.lt_of_lt_of_le hz3 za; have hda := Nat.lt_of_lt_of_le hd3 za; clear b_ o_)) | (go_at_call 51; ((with_reducible refine (imagesOf_half pS aS S cS loS tpS ax x cx lox tpx ra (bsM S) S.length ca w3.drew.heap.size wa.heap.size wa HI.out (HS.out.below HBa.out tS) (Nat.le_trans tS HBa.out.size) (Hx.out.below HBa.out tx) (Nat.le_trans tx HBa.out.size) HMX.out Ma.out (Nat.le_refl _) (bs_len S) hsm HBS.out).mono ?_); rintro e wb ⟨rb, cb, rfl, o_, b_⟩; rw [imM_len, bs_len]; have SSb := Lib.hid (SSa.out.below b_ hza hda); have Mb := Lib.hid o_; have HBb := Lib.hid (below_step HBa.out HBa.out.size b_); have Bb := Lib.hid (below_step Ba.out Ba.out.size b_); have zb := b_.size; clear b_ o_)))
  all_goals
    have GBb : Hid (SmB g S.length (smX S.length (bmF pS S x) 0 0) wb) := (GB3.out.below (below_dB Bb.out) hg3).congr fun c _ => (smX_none _ _ c).symm
    have RBb : Hid (SmB r 0 (fun _ => 0) wb) := RB3.out.below (below_dB Bb.out) (Nat.lt_trans (Nat.lt_trans hrd hgd) hg3)
    have hgb : g < wa.heap.size := Nat.lt_of_lt_of_le hg3 za
    have hgb2 : g < wb.heap.size := Nat.lt_of_lt_of_le hgb zb
    have hwg : w.heap.size ≤ g := by omega
    have nzg : w.heap.size ≠ g := by omega
    have ndg : d ≠ g := by omega
    have nrg : r ≠ g := by omega
    have lzb : w.heap.size < wb.heap.size := by omega
    have ldb : d < wb.heap.size := by omega
    have lrb : r < wb.heap.size := by omega
    go_wp2
    go_loopw [22] (fun t wr => ∃ i : Nat, i ≤ S.length ∧ t = .int .i64 i ∧ SmB g S.length (smX S.length (bmF pS S x) i 0) wr ∧ Gb g wb.heap.size wb wr ∧ Below w.heap.size w wr ∧ wb.heap.size ≤ wr.heap.size) (fun t _ => S.length - (intOf t).toNat)
    case atStart => exact ⟨0, Nat.zero_le _, rfl, GBb.out, Gb.refl _ _ _, HBb.out, Nat.le_refl _⟩
    case round =>
      obtain ⟨i, hi, rfl, hgb_, hgg, hbel, hsz⟩ := hrel
      have HG := Lib.hid hgb_
      have HGG := Lib.hid hgg
      have HBEL := Lib.hid hbel
      have HBOX := Lib.hid (hgg.box SSb.out lzb ldb nzg ndg)
      obtain ⟨⟨k0, k1, k2⟩, d0, d1⟩ := HBOX.out
      by_cases hlt : i < S.length
      · have hi1 : (i : Int) < (S.length : Int) := Int.ofNat_lt.2 hlt
        obtain ⟨b9, o9, rv, cv, ha9, _, hb9, hr9, hrow⟩ := (Mb.out.same (hgg.same (.inl hgb) (Nat.le_refl _))).row (show i < (imM pS S x (bsM S)).length by rw [imM_len, bs_len]; exact hlt)
        rw [im_row hlt] at hr9 hrow
        rw [hbM_len] at hr9
        subst ha9
        have HROW := Lib.hid hrow
        clear hgb_ hgg hbel hrow
        go_upto_region 6 with fail
        go_upto_region 7 with (go_at_call 108; ((with_reducible refine (vectorNumbers_n pS aS S cS loS tpS rv (hbM pS S x (bladeM S (2 ^ i))) cv wa.heap.size wb.heap.size wr HI.out (HS.out.below HBEL.out tS) (Nat.le_trans tS HBEL.out.size) HROW.out hsz (hbM_len _ _ _ _)).mono ?_); rintro e w7 ⟨b7, rfl, l7, u7, o7, b_⟩; have O7 := Lib.hid o7; have B7 := Lib.hid b_; have z7 := b_.size; clear o7 b_ k0 k1 k2 d0 d1 hr9))
        have G7 := Lib.hid (HG.out.below B7.out (Nat.lt_of_lt_of_le hgb2 hsz))
        have hi6 : (i : Int) < 6 := by omega
        have h0i : (0 : Int) ≤ (i : Int) := Int.natCast_nonneg _
        have hbg7 : g ≠ b7 := by omega
        go_wp2
        go_loopw [31] (fun t wq => ∃ j : Nat, j ≤ S.length ∧ t = .int .i64 j ∧ SmB g S.length (smX S.length (bmF pS S x) i j) wq ∧ Wrote g 1 36 w7 wq) (fun t _ => S.length - (intOf t).toNat)
        case atStart => exact ⟨0, Nat.zero_le _, rfl, G7.out, Wrote.refl _ _ _ _⟩
        case round =>
          rename World => wq
          obtain ⟨j, hj, rfl, hgq, hwq⟩ := hrel
          have HGQ := Lib.hid hgq
          have HWQ := Lib.hid hwq
          by_cases hlj : j < S.length
          · have hj1 : (j : Int) < (S.length : Int) := Int.ofNat_lt.2 hlj
            have hj6 : (j : Int) < 6 := by omega
            have h0j : (0 : Int) ≤ (j : Int) := Int.natCast_nonneg _
            have hc36 : j * 6 + i < 36 := by omega
            have v7 : wq.cell? ⟨b7, j, none⟩ = some (.int .i64 (vnF (hbM pS S x (bladeM S (2 ^ i))) j)) := by
              have h := (World.cell?_of_block (w := w7) (a := ⟨b7, 0 + j, none⟩) (hwq.block b7 hbg7.symm)).trans (O7.out.cell j hlj)
              rwa [Nat.zero_add] at h
            have g0 := hgq.row.cell (j * 6 + i) hc36
            have f0 := hgq.row.free (j * 6 + i) hc36
            have g1 : wq.cell? ⟨g, 1 + j * 6 + i, none⟩ = some (.int .i64 (smX S.length (bmF pS S x) i j (j * 6 + i))) := by rw [Nat.add_assoc]; exact g0
            have f1 : wq.frozen? ⟨g, 1 + j * 6 + i, none⟩ = false := by rw [Nat.add_assoc]; exact f0
            have HPUT := Lib.hid (hgq.put (v := vnF (hbM pS S x (bladeM S (2 ^ i))) j) (k := smX S.length (bmF pS S x) i (j + 1)) hc36 (fun c hc => smX_put S.length (bmF pS S x) hlt hlj h6 c hc))
            have HWS := Lib.hid (hwq.set hc36 (.int .i64 (vnF (hbM pS S x (bladeM S (2 ^ i))) j)))
            clear hgq hwq g0 f0
            go_wp2
            go_roundw
            case rel => exact ⟨j + 1, by omega, by go_num, by rw [Nat.add_assoc]; exact HPUT.out, by rw [Nat.add_assoc]; exact HWS.out⟩
            case measure => simp [intOf]; omega
          · have hjn : j = S.length := by omega
            subst hjn
            clear hgq hwq
            go_wp2
            go_roundw
            case rel => exact ⟨i + 1, by omega, by go_num, HGQ.out.congr fun c _ => smX_row _ _ _ _, HGG.out.trans ((Gb.below (B7.out.mono hsz)).trans (Gb.wrote HWQ.out)), (HBEL.out.trans (B7.out.mono HBEL.out.size)).trans ((HWQ.out.belowB hwg)), by rw [HWQ.out.size]; omega⟩
            case measure => simp [intOf]; omega
      · have hin : i = S.length := by omega
        subst hin
        have RBr := Lib.hid (RBb.out.block (hgg r lrb nrg))
        have hgr : g ≠ r := nrg.symm
        clear hgb_ hgg hbel k0 k1 k2 d0 d1
        go_wp2_with (first | (refine wpList_load_sm g S.length (smX S.length (bmF pS S x) S.length 0) _ (by rfl) (by rfl) (by first | rfl | (simp [Act.eval]; done) | simp [Act.eval, Act.put]) HG.out ?_) | (refine wpList_store_sm r 0 S.length (fun _ => 0) (smX S.length (bmF pS S x) S.length 0) _ _ (by rfl) (by rfl) (by first | rfl | (simp [Act.eval]; done) | simp [Act.eval, Act.put]) (by first | rfl | (simp [Act.eval]; done) | simp [Act.eval, Act.put]) RBr.out ?_))
        refine bodyPost_ret (v := .agg (smL S.length (smM S.length (bmM pS S x))).toArray) ?_ rfl ⟨rfl, ?_⟩
        · refine results_sm rfl _ _ r S.length _ (by first | rfl | simp [Act.put]) ?_
          exact (SmB.stored RBr.out).congr fun c _ => smX_whole pS S x c
        · exact below_setCells HBEL.out (by rw [HRZ.out]; omega) _ _

end Go.Proofs.YtkibkkdeaojjoabGreat
