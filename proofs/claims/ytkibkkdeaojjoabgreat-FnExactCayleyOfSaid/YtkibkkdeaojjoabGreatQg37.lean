/-
  The program's geometric product: contract.
  Conditions: a space and multivectors of it: rows of known cells with numbers of the prime.
-/
import Derived.Test.YtkibkkdeaojjoabGreatQg36
import Derived.Test.YtkibkkdeaojjoabGreatQg35
namespace Go.Proofs.YtkibkkdeaojjoabGreat
open Go.RowKit Go.Maps
set_option linter.unusedVariables false

theorem sm_put {n k : Nat} (hk : k < n) (v : Int) {f : Nat → Int} (h0 : f k = 0) : sm n (fun j => if j = k then v else f j) = sm n f + v := by
  have e : sm n (fun j => if j = k then v else f j) = sm n (fun j => f j + if j = k then v else 0) := sm_congr fun j _ => by
    by_cases h : j = k
    · subst h; rw [if_pos rfl, if_pos rfl, h0, Int.zero_add]
    · rw [if_neg h, if_neg h, Int.add_zero]
  rw [e, sm_add, sm_single, if_pos hk]
/-- The number at c, when the terms that have come are added. -/
def gq (p : Int) (S x y : List Int) (left : Lit → Bool) (c : Nat) : Int := sm (bl S) (fl x left (tm p S x y c))
theorem tm_none {p : Int} {S x y : List Int} {c a : Nat} (h : x.getD a 0 = 0) : tm p S x y c a = 0 := by unfold tm; rw [h, Int.zero_mul, Int.zero_mul]
theorem gq_start {D : DataW Unit} {p : Int} {S x y : List Int} (h : Tm D x (bl S)) (c : Nat) : gq p S x y (Maps.has D) c = 0 := by
  unfold gq; rw [sm_congr (fun j hj => fl_start h (tm p S x y c) hj), sm_zero]
theorem gq_end {p : Int} {S x y : List Int} {left : Lit → Bool} (h : ∀ kl, left kl = false) (c : Nat) : gq p S x y left c = sm (bl S) (tm p S x y c) := by
  unfold gq
  apply sm_congr
  intro j _
  rw [fl_end h]
  by_cases e : x.getD j 0 ≠ 0
  · rw [if_pos e]
  · rw [if_neg e, tm_none (by simpa using e)]
theorem gq_step {p : Int} {S x y : List Int} {left : Lit → Bool} {k : Nat} (hk : k < bl S) (hne : x.getD k 0 ≠ 0) (ht : td left k = true) (c : Nat) : gq p S x y (fun z => left z && !z.sameKey (.int .i64 (k : Int))) c = gq p S x y left c + tm p S x y c k := by
  unfold gq
  rw [← sm_put hk (tm p S x y c k) (f := fl x left (tm p S x y c)) (by unfold fl; rw [if_neg (fun e => by rw [ht] at e; cases e.2)])]
  exact sm_congr fun j _ => (fl_step hne j).symm
theorem tm_bd {p : Int} (h3 : 3 ≤ p) (h13 : p ≤ 13) {S x y : List Int} (nx : Nums p x) (ny : Nums p y) (lx : x.length = bl S) (ly : y.length = bl S) {c a : Nat} (hc : c < bl S) (ha : a < bl S) : 0 ≤ tm p S x y c a ∧ tm p S x y c a ≤ 1728 := by
  obtain ⟨x0, x1⟩ := nx a (by omega)
  obtain ⟨y0, y1⟩ := ny (a ^^^ c) (by rw [ly]; exact Nat.xor_lt_two_pow ha hc)
  obtain ⟨f0, f1⟩ := fm_bd (by omega : 0 < p) S a (a ^^^ c) S.length
  obtain ⟨m0, m1⟩ := mul_bd' h13 x0 x1 f0 f1
  unfold tm
  exact ⟨Int.mul_nonneg m0 y0, Int.le_trans (Int.mul_le_mul_of_nonneg_right m1 y0) (by omega)⟩
theorem gq_bd {p : Int} (h3 : 3 ≤ p) (h13 : p ≤ 13) {S x y : List Int} (h6 : S.length ≤ 6) (nx : Nums p x) (ny : Nums p y) (lx : x.length = bl S) (ly : y.length = bl S) (left : Lit → Bool) {c : Nat} (hc : c < bl S) : 0 ≤ gq p S x y left c ∧ gq p S x y left c ≤ 110592 := by
  have h := sm_bd (n := bl S) (f := fl x left (tm p S x y c)) (b := 1728) (fun j hj => by
    unfold fl
    split
    · exact tm_bd h3 h13 nx ny lx ly hc hj
    · omega)
  have := bl_le h6
  unfold gq; omega
/-- .. and those of the first k numbers of the term j. -/
def gk (p : Int) (S x y : List Int) (left : Lit → Bool) (j k c : Nat) : Int := gq p S x y left c + if j ^^^ c < k then tm p S x y c j else 0
theorem gk_start (p : Int) (S x y : List Int) (left : Lit → Bool) (j c : Nat) : gk p S x y left j 0 c = gq p S x y left c := by unfold gk; rw [if_neg (Nat.not_lt_zero _), Int.add_zero]
theorem gk_end {p : Int} {S x y : List Int} {left : Lit → Bool} {j c : Nat} (hj : j < bl S) (hc : c < bl S) (hne : x.getD j 0 ≠ 0) (ht : td left j = true) : gk p S x y left j (bl S) c = gq p S x y (fun z => left z && !z.sameKey (.int .i64 (j : Int))) c := by
  rw [gq_step hj hne ht]; unfold gk; rw [if_pos (show j ^^^ c < bl S from Nat.xor_lt_two_pow hj hc)]
theorem gk_here (p : Int) (S x y : List Int) (left : Lit → Bool) (j k : Nat) : gk p S x y left j k (j ^^^ k) = gq p S x y left (j ^^^ k) := by unfold gk; rw [xor_back, if_neg (Nat.lt_irrefl _), Int.add_zero]
theorem gk_put (p : Int) (S x y : List Int) (left : Lit → Bool) (j k : Nat) {v : Int} (hv : v = gk p S x y left j k (j ^^^ k) + x.getD j 0 * fm p S j k S.length * y.getD k 0) (c : Nat) : (if c = j ^^^ k then v else gk p S x y left j k c) = gk p S x y left j (k + 1) c := by
  by_cases e : c = j ^^^ k
  · rw [if_pos e, hv, e, gk_here]
    unfold gk tm
    rw [xor_back, if_pos (Nat.lt_succ_self k)]
  · rw [if_neg e]
    have e3 : ¬ j ^^^ c = k := fun h => e (by rw [← h, xor_back])
    unfold gk
    by_cases e2 : j ^^^ c < k
    · rw [if_pos e2, if_pos (by omega)]
    · rw [if_neg e2, if_neg (by omega)]

theorem ranges_wrote {w w' : World} {P : Program} {k : TypeId} {R : Value → Option (DataW Unit × List MemPlace)} {b r n : Nat} {D : DataW Unit} {left : Lit → Bool} {cnt c o m : Nat} (h : w.ranges P k R b r n D left cnt) (hw : Wrote c o m w w') (hb : b ≠ c) (hr : r ≠ c) : w'.ranges P k R b r n D left cnt := by
  obtain ⟨es, clock, since, seen, c0, k1, h2, h3, h4, k5, h6⟩ := h
  exact ⟨es, clock, since, seen, c0, (hw.block b hb).trans k1, h2, h3, h4, (hw.block r hr).trans k5, h6⟩

set_option maxRecDepth 100000 in
set_option maxHeartbeats 3200000 in
theorem product_any (p : Int) (aS : Option Addr) (S : List Int) (cS loS tpS : Nat) (ax : Option Addr) (x : List Int) (cx lox tpx : Nat) (ay : Option Addr) (y : List Int) (cy loy tpy : Nat) (w : World) (hp : prm p = true) (h6 : S.length ≤ 6) (hS : RowIn loS tpS w aS S) (tS : tpS ≤ w.heap.size) (nS : Nums p S) (hx : RowIn lox tpx w ax x) (tx : tpx ≤ w.heap.size) (lx : x.length = bl S) (nx : Nums p x) (hy : RowIn loy tpy w ay y) (ty : tpy ≤ w.heap.size) (ly : y.length = bl S) (ny : Nums p y) :
    Calls Tryz.prog 98 #[.agg #[.int .i64 p, .slice aS S.length cS], .slice ax x.length cx, .slice ay y.length cy] w (NewRow (bl S) (prodF p S x y) w) := by
  have hpb := prm_bd hp
  have hbl := bl_le h6
  have HGB : Hid (∀ left c, c < bl S → 0 ≤ gq p S x y left c ∧ gq p S x y left c ≤ 110592) := fun left c hc => gq_bd hpb.1 hpb.2 h6 nx ny lx ly left hc
  have HNB : Hid (∀ j, j < x.length → -100 ≤ x.getD j 0 ∧ x.getD j 0 ≤ 100) := fun j hj => by have := nx j hj; omega
  obtain ⟨n, hn⟩ : ∃ n, n = bl S := ⟨_, rfl⟩
  have hmk := fun W => run_make_row' (P := Tryz.prog) 22 2 (.int .i64 0) 8 Tryz.underlying22 info64 rfl .i64 .i64 n (by omega) (by omega) W
  have HS := Lib.hid hS
  have HX := Lib.hid hx
  have HY := Lib.hid hy
  have HNX := Lib.hid nx
  have HNY := Lib.hid ny
  have HNS := Lib.hid nS
  have HP := Lib.hid hp
  have HN := Lib.hid hn
  have HXN : Hid (x.length = n) := by show _ = _; rw [lx, hn]
  have HYN : Hid (y.length = n) := by show _ = _; rw [ly, hn]
  have HB0 := Lib.hid (below_alloc w (.cells #[.int .i64 p, .slice aS S.length cS] 29))
  have k0 := nw0 w (.int .i64 p) (.slice aS S.length cS) 29
  have k1 := nw1 w (.int .i64 p) (.slice aS S.length cS) 29
  have hnb : n ≤ 64 := by omega
  rw [lx, ly, ← hn]
  clear hS hx hy nx ny nS hp lx ly hn
  go_enter Tryz.func98, Tryz.ntmps98
  go_upto_region 1 with fail
  obtain ⟨w1, hw1⟩ : ∃ z, z = w.alloc (.cells #[.int .i64 p, .slice aS S.length cS] 29) := ⟨_, rfl⟩
  rw [← hw1] at HB0 k0 k1 ⊢
  have hw0 : w.heap.size < w1.heap.size := by rw [hw1]; simp
  clear hw1
  go_upto_region 2 with (go_at_call 54; (with_reducible refine (blades_any p aS S cS _ h6).mono ?_); rintro e w2 ⟨rfl, b2⟩; rw [← HN.out]; have B2 := Lib.hid b2; have z2 := b2.size; clear b2)
  obtain ⟨g, hg⟩ : ∃ b, b = w2.heap.size := ⟨_, rfl⟩
  obtain ⟨w3, hw3⟩ : ∃ z, z = w2.alloc (.cells (madeCells #[.int .i64 0] n) 2) := ⟨_, rfl⟩
  have HR3 : Hid (RowOwn w3 g 0 n (fun _ => 0)) := by show RowOwn _ _ _ _ _; rw [hw3, hg]; exact RowOwn.start w2 n _
  have HB2 : Hid (Below w.heap.size w w2) := HB0.out.trans (B2.out.mono (by omega))
  have HB3 : Hid (Below w.heap.size w w3) := by show Below _ _ _; rw [hw3]; exact HB2.out.alloc HB2.out.size _
  have hz3 : w2.heap.size < w3.heap.size := by rw [hw3]; simp
  have K0 : Hid (w3.cell? ⟨w.heap.size, 0, none⟩ = some (.int .i64 p)) := by show _ = _; rw [hw3]; exact (World.cell?_alloc_old _ _ _ (show w.heap.size ≠ w2.heap.size by omega)).trans ((B2.out.cell (p := ⟨w.heap.size, 0, none⟩) hw0).trans k0)
  have K1 : Hid (w3.cell? ⟨w.heap.size, 1, none⟩ = some (.slice aS S.length cS)) := by show _ = _; rw [hw3]; exact (World.cell?_alloc_old _ _ _ (show w.heap.size ≠ w2.heap.size by omega)).trans ((B2.out.cell (p := ⟨w.heap.size, 1, none⟩) hw0).trans k1)
  have hwg : w.heap.size < g := by omega
  have hgl : g < w3.heap.size := by omega
  rw [← hw3, ← hg]
  clear hw3 hmk hg z2 k0 k1
  have HX3 := Lib.hid (HX.out.below HB3.out tx)
  have tx3 : tpx ≤ w3.heap.size := by omega
  have sx : x.length ≤ 64 := by rw [HXN.out]; exact hnb
  rw [show (Value.slice ax n cx) = Value.slice ax x.length cx by rw [HXN.out]]
  go_wp2_with (first | (go_at_call 97; (with_reducible refine (termsOf_any ax x cx lox tpx w3 HX3.out tx3 sx HNB.out).mono ?_); rintro e w5 ⟨bT, D, rfl, lT, uT, oT, tT, b5⟩; have HOT := Lib.hid oT; have HTM := Lib.hid tT; have HB5 := Lib.hid b5; have z5 := b5.size; clear oT tT b5) | (at_range; refine wpList_range_own _ rfl _ 115 rfl 3 2 lawK Tryz.underlying115 (plainElem (H := Unit) Tryz.prog 2) bT x.length D rfl HOT.out ?_; intro w6 hrg0 hg0 hs0))
  go_frame
  have HB6 : Hid (Below w3.heap.size w3 w6) := HB5.out.grown hg0 z5 (fun j hj => by cases hj)
  have HTN : Hid (Tm D x (bl S)) := by have h := HTM.out; rwa [HXN.out, HN.out] at h
  have HR6 : Hid (RowOwn w6 g 0 n (gq p S x y (Maps.has D))) := (HR3.out.stay (HB6.out.block g hgl)).congr (fun j hj => (gq_start HTN.out j).symm)
  have HBW : Hid (Below w.heap.size w w6) := HB3.out.trans (HB6.out.mono (by omega))
  have K06 : Hid (w6.cell? ⟨w.heap.size, 0, none⟩ = some (.int .i64 p)) := (HB6.out.cell (p := ⟨w.heap.size, 0, none⟩) (show w.heap.size < w3.heap.size by omega)).trans K0.out
  have K16 : Hid (w6.cell? ⟨w.heap.size, 1, none⟩ = some (.slice aS S.length cS)) := (HB6.out.cell (p := ⟨w.heap.size, 1, none⟩) (show w.heap.size < w3.heap.size by omega)).trans K1.out
  go_loopw [19] (fun _ wr => ∃ (left : Lit → Bool) (cnt : Nat), wr.ranges Tryz.prog 3 (plainElem (H := Unit) Tryz.prog 2) bT w5.heap.size x.length D left cnt ∧ Sub left D ∧ RowOwn wr g 0 n (gq p S x y left) ∧ wr.cell? ⟨w.heap.size, 0, none⟩ = some (.int .i64 p) ∧ wr.cell? ⟨w.heap.size, 1, none⟩ = some (.slice aS S.length cS) ∧ Below w.heap.size w wr ∧ w6.heap.size ≤ wr.heap.size) (fun _ wr => wr.rangeLeft bT w5.heap.size)
  case atStart => exact ⟨_, _, hrg0, sub_refl D, HR6.out, K06.out, K16.out, HBW.out, Nat.le_refl _⟩
  case round =>
    obtain ⟨left, cnt, hrg, hsub, hro, hk0, hk1, hnx, hsz⟩ := hrel
    have HRO := Lib.hid hro
    have HNXB := Lib.hid hnx
    have HSUB := Lib.hid hsub
    have HKR0 := Lib.hid hk0
    have HKR1 := Lib.hid hk1
    have hw6 := hs0
    clear hro hnx hsub hk0 hk1
    go_wp2_with (first | (at_next; refine wpList_next_ranges_ii _ rfl _ rfl 3 2 .i64 .i64 lawK Tryz.underlying3 Tryz.underlying2 bT w5.heap.size x.length D left cnt rfl hrg ?_ ?_) | go_in)
    · intro hc0 hl0
      have HE : Hid (RowOwn wr g 0 n (fun c => if c < 0 then prodF p S x y c else sm (bl S) (tm p S x y c))) := HRO.out.congr (fun j hj => by rw [gq_end hl0, if_neg (Nat.not_lt_zero _)])
      have HSB : Hid (∀ c, c < n → 0 ≤ sm (bl S) (tm p S x y c) ∧ sm (bl S) (tm p S x y c) ≤ 110592) := fun c hc => by
        have h := HGB.out left c (by rw [← HN.out]; exact hc)
        rwa [gq_end hl0] at h
      obtain ⟨we, hwe⟩ : ∃ z, z = wr := ⟨_, rfl⟩
      have HKE : Hid (we.cell? ⟨w.heap.size, 0, none⟩ = some (.int .i64 p)) := by show _ = _; rw [hwe]; exact HKR0.out
      have HEE : Hid (RowOwn we g 0 n (fun c => if c < 0 then prodF p S x y c else sm (bl S) (tm p S x y c))) := by show RowOwn _ _ _ _ _; rw [hwe]; exact HE.out
      have HBE : Hid (Below w.heap.size w we) := by show Below _ _ _; rw [hwe]; exact HNXB.out
      have hge : g < we.heap.size := by rw [hwe]; have := HB6.out.size; omega
      rw [← hwe]
      clear hwe
      go_wp2
      go_loopw [52] (fun t wi => ∃ i : Nat, i ≤ n ∧ t = .int .i64 i ∧ RowOwn wi g 0 n (fun c => if c < i then prodF p S x y c else sm (bl S) (tm p S x y c)) ∧ Wrote g 0 n we wi) (fun t _ => n - (intOf t).toNat)
      case atStart => exact ⟨0, Nat.zero_le _, rfl, HEE.out, Wrote.refl _ _ _ _⟩
      case round =>
        obtain ⟨i, hi, rfl, hr, hw⟩ := hrel
        rename World => wi
        have HRI := Lib.hid hr
        have HWI := Lib.hid hw
        by_cases hlti : i < n
        · have c0 := hr.cell i hlti
          have f0 := hr.free i hlti
          rw [if_neg (Nat.lt_irrefl _)] at c0
          rw [Nat.zero_add] at c0 f0
          have kp := (World.cell?_of_block (w := we) (a := ⟨w.heap.size, 0, none⟩) (hw.block w.heap.size (by omega))).trans HKE.out
          obtain ⟨z0, z1⟩ := HSB.out i hlti
          obtain ⟨z, hz⟩ : ∃ z, z = sm (bl S) (tm p S x y i) := ⟨_, rfl⟩
          have HPF : Hid (z % p = prodF p S x y i) := by show _ = _; rw [hz]; exact tm_sum p S x y i
          rw [← hz] at c0 z0 z1
          have e1 : z.tmod p = z % p := Int.tmod_eq_emod_of_nonneg z0
          have hp0 : ¬ p = 0 := by omega
          have hp1 : (p == 0) = false := by simpa using hp0
          have hi1 : (i : Int) < (n : Int) := by omega
          clear hr hw hz
          go_wp2
          go_region
          all_goals
            go_wp2
            go_roundw
            case rel => exact ⟨i + 1, by omega, by go_num, (row_put0 HRI.out hlti (fun c _ => by
              by_cases e : c = i
              · subst e; rw [if_pos rfl, if_pos (by omega), HPF.out]
              · rw [if_neg e]
                by_cases e2 : c < i
                · rw [if_pos e2, if_pos (by omega)]
                · rw [if_neg e2, if_neg (by omega)])).drew, (wrote_put0 HWI.out hlti _).drew⟩
            case measure => simp [intOf]; omega
        · have hin : i = n := by omega
          subst hin
          clear hr hw
          go_wp2
          go_ret
          exact ⟨g, rfl, by omega, by rw [HWI.out.size]; exact hge, HRI.out.congr (fun c hc => if_pos hc), HBE.out.trans (HWI.out.belowB (by omega))⟩
    · intro kx c w7 cnt1 hwx hwc hlx' hat hrg1 hlt hg1 hs1 hen
      obtain ⟨j, hj, rfl, hcx, hne0, htd⟩ := HTM.out.come HSUB.out hlx' hat
      have hgw : g < wr.heap.size := by have := HB6.out.size; omega
      have HR1 : Hid (RowOwn w7 g 0 n (gq p S x y left)) := HRO.out.stay (hg1.block _ (by omega) (by simp; omega))
      have HB7 : Hid (Below w.heap.size w w7) := HNXB.out.grown hg1 (by omega) (fun i hi => by cases hi; omega)
      have hz7 := hg1.size
      have k70 : w7.cell? ⟨w.heap.size, 0, none⟩ = some (.int .i64 p) := (World.cell?_of_block (w := wr) (a := ⟨w.heap.size, 0, none⟩) (hg1.block w.heap.size (by omega) (by simp; omega))).trans HKR0.out
      have k71 : w7.cell? ⟨w.heap.size, 1, none⟩ = some (.slice aS S.length cS) := (World.cell?_of_block (w := wr) (a := ⟨w.heap.size, 1, none⟩) (hg1.block w.heap.size (by omega) (by simp; omega))).trans HKR1.out
      have HCX := Lib.hid hcx
      have HNE := Lib.hid hne0
      have HRG1 := Lib.hid hrg1
      have HTD := Lib.hid htd
      have HLT := Lib.hid hlt
      have hjn : j < n := by rw [← HXN.out]; exact hj
      have hcb : 0 ≤ c ∧ c < p := by rw [hcx]; exact HNX.out j hj
      have hj64 : j < 64 := by omega
      have HS7 := Lib.hid (HS.out.below HB7.out tS)
      have tS7 : tpS ≤ w7.heap.size := by omega
      have K70 := Lib.hid k70
      have K71 := Lib.hid k71
      clear hcx hne0 htd hlt
      go_wp2_with (first | (go_at_call 114; (with_reducible refine (factorsBehind_any p aS S cS loS tpS j w7 HP.out h6 HS7.out tS7 HNS.out hj64).mono ?_); rintro e w8 ⟨b8, rfl, l8, u8, o8, q8⟩; rw [← HN.out] at o8; rw [← HN.out]; have O8 := Lib.hid o8; have B8 := Lib.hid q8; have z8 := q8.size; clear o8 q8) | go_in)
      have HR8 : Hid (RowOwn w8 g 0 n (gk p S x y left j 0)) := (HR1.out.stay (B8.out.block g (by omega))).congr (fun c _ => (gk_start p S x y left j c).symm)
      have HB8 : Hid (Below w.heap.size w w8) := HB7.out.trans (B8.out.mono (by omega))
      have K80 : Hid (w8.cell? ⟨w.heap.size, 0, none⟩ = some (.int .i64 p)) := (B8.out.cell (p := ⟨w.heap.size, 0, none⟩) (show w.heap.size < w7.heap.size by omega)).trans K70.out
      have K81 : Hid (w8.cell? ⟨w.heap.size, 1, none⟩ = some (.slice aS S.length cS)) := (B8.out.cell (p := ⟨w.heap.size, 1, none⟩) (show w.heap.size < w7.heap.size by omega)).trans K71.out
      have HY8 := Lib.hid (HY.out.below HB8.out ty)
      have hgb8 : g ≠ b8 := by omega
      clear k70 k71
      go_loopw [28] (fun t wi => ∃ k : Nat, k ≤ n ∧ t = .int .i64 k ∧ RowOwn wi g 0 n (gk p S x y left j k) ∧ Wrote g 0 n w8 wi) (fun t _ => n - (intOf t).toNat)
      case atStart => exact ⟨0, Nat.zero_le _, rfl, HR8.out, Wrote.refl _ _ _ _⟩
      case round =>
        obtain ⟨k, hk, rfl, hr, hw⟩ := hrel
        rename World => wi
        have HRI := Lib.hid hr
        have HWI := Lib.hid hw
        by_cases hltk : k < n
        · obtain ⟨by', oy, hay, _, uy, hcy⟩ := (HY8.out.same (hw.same (show g < loy ∨ tpy ≤ g by omega))).num (show k < y.length by rw [HYN.out]; exact hltk)
          subst hay
          obtain ⟨y0, y1⟩ := HNY.out k (by rw [HYN.out]; exact hltk)
          have cf8 := O8.out.cell k hltk
          rw [Nat.zero_add] at cf8
          have cf := (World.cell?_of_block (w := w8) (a := ⟨b8, k, none⟩) (hw.block b8 (Ne.symm hgb8))).trans cf8
          obtain ⟨f0, f1⟩ := fm_bd (show 0 < p by omega) S j k S.length
          obtain ⟨q, hq⟩ : ∃ q, q = j ^^^ k := ⟨_, rfl⟩
          have hqn : q < n := by rw [hq, HN.out]; exact Nat.xor_lt_two_pow (by rw [← show bl S = 2 ^ S.length from rfl, ← HN.out]; exact hjn) (by rw [← show bl S = 2 ^ S.length from rfl, ← HN.out]; exact hltk)
          have hqn1 : (q : Int) < (n : Int) := by omega
          have e0 : bits .xor .i64 (j : Int) (k : Int) = (q : Int) := by rw [xor_64 hj64 (by omega), hq]
          have c0 := hr.cell q hqn
          have f9 := hr.free q hqn
          rw [Nat.zero_add] at c0 f9
          have hob : 0 ≤ gk p S x y left j k q ∧ gk p S x y left j k q ≤ 110592 := by
            rw [hq, gk_here]
            exact HGB.out left (j ^^^ k) (by rw [← hq, ← HN.out]; exact hqn)
          obtain ⟨f, hf⟩ : ∃ f, f = fm p S j k S.length := ⟨_, rfl⟩
          obtain ⟨yk, hyk⟩ : ∃ z, z = y.getD k 0 := ⟨_, rfl⟩
          obtain ⟨o, ho⟩ : ∃ o, o = gk p S x y left j k q := ⟨_, rfl⟩
          have HV : Hid (∀ d, (if d = q then o + c * f * yk else gk p S x y left j k d) = gk p S x y left j (k + 1) d) := fun d => by
            have h := gk_put p S x y left j k (v := o + c * f * yk) (by rw [ho, hf, hq, hyk, HCX.out]) d
            rw [← hq] at h; exact h
          rw [← hf] at cf f0 f1
          rw [← hyk] at hcy y0 y1
          rw [← ho] at hob c0
          obtain ⟨m0, m1⟩ := mul_bd' hpb.2 hcb.1 hcb.2 f0 f1
          have e1 : IntKind.i64.wrap (c * f) = c * f := IntWalk.i64_in _ (by omega)
          have n0 : 0 ≤ c * f * yk := Int.mul_nonneg m0 y0
          have n1 : c * f * yk ≤ 1728 := Int.le_trans (Int.mul_le_mul_of_nonneg_right m1 y0) (by omega)
          have e2 : IntKind.i64.wrap (c * f * yk) = c * f * yk := IntWalk.i64_in _ (by omega)
          have e3 : IntKind.i64.wrap (o + c * f * yk) = o + c * f * yk := IntWalk.i64_in _ (by omega)
          have hk1 : (k : Int) < (n : Int) := by omega
          clear hr hw hf hyk ho hq cf8
          go_wp2
          go_region
          all_goals
            clear e0 e1 e2 e3
            go_wp2
            go_roundw
            case rel => exact ⟨k + 1, by omega, by go_num, (row_put0 HRI.out hqn (fun d _ => HV.out d)).drew, (wrote_put0 HWI.out hqn _).drew⟩
            case measure => simp [intOf]; omega
        · have hkn : k = n := by omega
          subst hkn
          have hwz := hw.size
          have HRGW := Lib.hid (ranges_wrote (ranges_below HRG1.out B8.out (by omega) (by omega)) hw (by omega) (by omega))
          have kw0 := (World.cell?_of_block (w := w8) (a := ⟨w.heap.size, 0, none⟩) (hw.block w.heap.size (by omega))).trans K80.out
          have kw1 := (World.cell?_of_block (w := w8) (a := ⟨w.heap.size, 1, none⟩) (hw.block w.heap.size (by omega))).trans K81.out
          have KW0 := Lib.hid kw0
          have KW1 := Lib.hid kw1
          clear hr hw kw0 kw1
          go_wp2
          go_roundw
          case rel => exact ⟨_, cnt1, HRGW.out, sub_strike HSUB.out _, HRI.out.congr (fun d hd => by rw [HN.out] at hd ⊢; exact gk_end (by rw [← HN.out]; exact hjn) hd HNE.out HTD.out), KW0.out, KW1.out, HB8.out.trans (HWI.out.belowB (by omega)), by omega⟩
          case measure => rw [HRGW.out.left_eq, hrg.left_eq]; exact HLT.out

end Go.Proofs.YtkibkkdeaojjoabGreat
