/-
  Inverse matrices, the model's side: contracts of the program and of the model.
  Conditions: the lists are nil or rows of known cells, of at most 1048576 numbers.
-/
import Derived.Test.YtkibkkdeaojjoabGreatQg16
import Derived.Test.YtkibkkdeaojjoabGreatQg17
import Derived.Test.YtkibkkdeaojjoabGreatQg13
import Derived.Test.YtkibkkdeaojjoabGreatQg23
import Derived.Test.YtkibkkdeaojjoabGreatQg25
import Derived.Test.YtkibkkdeaojjoabGreatQg27
import Derived.Test.YtkibkkdeaojjoabGreatQg10
import Derived.Test.YtkibkkdeaojjoabGreatQg5
import Derived.Deep.RegionHeld3
import Derived.Deep.AppendLies
import Derived.Deep.DeepCutAuto
namespace Go.Proofs.YtkibkkdeaojjoabGreat
open Go.RowKit Go.ChangeShapes Go.WideShapes
set_option linter.unusedVariables false

/-- The rows of a square matrix beside those of the unit matrix, their basis, and what stands on the right. -/
def inW (A : List (List Int)) : List (List Int) := bes A (oneM A.length)
noncomputable def inB (p : Int) (A : List (List Int)) : List (List Int) := bas p (inW A)
noncomputable def invM (p : Int) (A : List (List Int)) : List (List Int) := mk A.length A.length fun i j => at' (inB p A) i (A.length + j)
noncomputable def ivmC (p : Int) (A : List (List Int)) : Int := if sqC p A = 0 then (if detP p A = 0 then 5 else 0) else sqC p A
noncomputable def ivmV (p : Int) (A : List (List Int)) : List (List Int) := if ivmC p A = 0 then invM p A else []
theorem inW_rows {p : Int} {A : List (List Int)} (h : Lst 1 p A) (hq : A.length = (rw' A 0).length) : RowsX p (A.length + A.length) (inW A) := one_rows h hq
theorem inB_is {p : Int} {A : List (List Int)} (h : Lst 1 p A) (hq : A.length = (rw' A 0).length) : IsBas p (A.length + A.length) (inW A) (inB p A) ∧ (inB p A).length = A.length := by
  have hX := inW_rows h hq
  have hpb := prm_bd hX.prime
  obtain ⟨m, P, d, he⟩ := elm_ex hX.prime hX.len hX.rng (inW A).length (Nat.le_refl _)
  rw [List.take_length] at he
  have hK := (he.kept hX.prime).bas
  have e := bas_eq (p := p) (by omega) (by rw [hX.len0]; exact hK)
  have hlen : (inW A).length = A.length := bes_len _ _
  have hb := elm_beside hX.prime he (by rw [hlen]; exact Nat.le_refl _) (bes_right rfl (fun i hi => by rw [h.len i hi, ← hq]))
  unfold inB
  rw [← e]
  exact ⟨hK, by rw [hb.1, hlen]⟩
theorem invM_len (p : Int) (A : List (List Int)) : (invM p A).length = A.length := mk_len _ _ _
theorem invM_row {p : Int} {A : List (List Int)} {i : Nat} (h : i < A.length) : rw' (invM p A) i = mkR A.length fun j => at' (inB p A) i (A.length + j) := mk_row _ h
theorem invM_rl {p : Int} {A : List (List Int)} {i : Nat} (h : i < A.length) : (rw' (invM p A) i).length = A.length := mk_rowLen _ h
theorem ivmC_cases (p : Int) (A : List (List Int)) : (sqC p A ≠ 0 ∧ ivmC p A = sqC p A) ∨ (sqC p A = 0 ∧ detP p A = 0 ∧ ivmC p A = 5) ∨ (sqC p A = 0 ∧ detP p A ≠ 0 ∧ ivmC p A = 0) := by
  unfold ivmC
  by_cases h : sqC p A = 0
  · by_cases hd : detP p A = 0
    · exact .inr (.inl ⟨h, hd, by rw [if_pos h, if_pos hd]⟩)
    · exact .inr (.inr ⟨h, hd, by rw [if_pos h, if_neg hd]⟩)
  · exact .inl ⟨h, if_neg h⟩
theorem sq_lst {p : Int} {A : List (List Int)} (h : sqC p A = 0) : Lst 1 p A ∧ A.length = (rw' A 0).length := by
  rcases sq_cases p A with ⟨_, h2, h3⟩ | h1
  · exact ⟨h2, h3⟩
  · exact absurd h h1
theorem news_row {w w' : World} {b o lo hi B : Nat} {z : List Int} (h : RowIn lo hi w (some ⟨b, o, none⟩) z) (hb : Below B w w') (hB : hi ≤ B) : ∀ j u, (z.map (Value.int .i64))[j]? = some u → w'.cell? ((⟨b, o, none⟩ : Addr).add j) = some u := fun j u hu => by
  have hadd : (⟨b, o, none⟩ : Addr).add j = ⟨b, o + j, none⟩ := by unfold Addr.add; split <;> simp_all
  have hj : j < z.length := by have := (List.getElem?_eq_some_iff.1 hu).1; rwa [List.length_map] at this
  rw [hadd]
  obtain ⟨b2, o2, e, _, _, hc⟩ := (h.below hb hB).num hj
  injection e with e1
  injection e1 with e2 e3
  subst e2 e3
  rw [hc, ← hu]
  simp [List.getD, hj]

theorem bstepI {B : Nat} {w w1 w2 : World} (h : Below B w w1) (hB : B ≤ w1.heap.size) (k : Below w1.heap.size w1 w2) : Below B w w2 := h.trans (k.mono hB)
/-- Only block z of the first B ones has changed. -/
def GbI (z B : Nat) (w w' : World) : Prop := ∀ k, k < B → k ≠ z → w'.heap[k]? = w.heap[k]?
theorem gb_grown {z B : Nat} {wr w3 w4 : World} {o : Obj} {v : Value} (h3 : Below wr.heap.size wr w3) (hB : B ≤ wr.heap.size) (hg : (w3.alloc o).grownBy w4 v.ownBlock) (hq : ∀ q, v.ownBlock = some q → q = z ∨ B ≤ q) : GbI z B wr w4 := fun k hk hz => by
  have hs := h3.size
  have hkw : k < w3.heap.size := by omega
  have e1 := hg.block k (by simp; omega) (fun e => by
    rcases hq k e.symm with h | h
    · exact hz h
    · omega)
  exact e1.trans (((balloc w3 o).block k hkw).trans (h3.block k (by omega)))
theorem own_next {z B g H : Nat} {v : Value} {n c : Nat} (hq : ∀ q, v.ownBlock = some q → q = z ∨ B ≤ q) (hat : v.ownBlock = some g ∨ g = H) (hH : B ≤ H) : ∀ q, (Value.slice (some ⟨g, 0, none⟩) n c).ownBlock = some q → q = z ∨ B ≤ q := fun q h => by
  have e : g = q := by simpa [Value.ownBlock] using h
  subst e
  rcases hat with h1 | h1
  · exact hq g h1
  · exact .inr (by omega)
theorem l02Unit_nV (n : Nat) (U : List (List Int)) (w : World) (hU : oneM n = U) (hn : n ≤ 1024) :
    Calls Tryz.prog 61 #[.int .i64 n] w (fun e w' => ∃ r c, e = .returned (.slice r n c) ∧ MatIn w.heap.size w'.heap.size w' r U ∧ Below w.heap.size w w') := by
  subst hU
  have h := l02Unit_any n w hn
  exact h.mono fun e w' ⟨r, c, h1, h2, h3⟩ => ⟨r, c, by rw [h1]; rw [show (oneM n).length = n from mk_len _ _ _], h2, h3⟩
theorem l01Own_nq (a : Option Addr) (zs : List Int) (m n ca lo tp : Nat) (w : World) (ha : RowIn lo tp w a zs) (ht : tp ≤ w.heap.size) (hn : zs.length = n) (hm : m = n) (h0 : 0 < n) (hs : n ≤ 1048576) :
    Calls Tryz.prog 46 #[.slice a m ca] w (NewRN n zs w) := by
  subst hm; exact l01Own_n a zs m ca lo tp w ha ht hn h0 hs
/-- The basis' rows with room. -/
theorem basRoomI (p : Int) (a : Option Addr) (W B : List (List Int)) (n ca lo tp : Nat) (w : World) (hn : W.length = n) (hm : MatIn lo tp w a W) (ht : tp ≤ w.heap.size) (hX : RowsX p (n + n) W) (hB : IsBas p (n + n) W B) :
    Calls Tryz.prog 30 #[.int .i64 p, .slice a n ca] w (fun e w' => ∃ g k, e = .returned (.slice (some ⟨g, 0, none⟩) B.length k) ∧ w.heap.size ≤ g ∧ g < w'.heap.size ∧ (∀ i, i < B.length → ∃ rb ro kc, w'.cell? ⟨g, i, none⟩ = some (.slice (some ⟨rb, ro, none⟩) (n + n) kc) ∧ n + n ≤ kc ∧ w.heap.size ≤ rb ∧ rb < w'.heap.size ∧ ∀ j, j < n + n → w'.cell? ⟨rb, ro + j, none⟩ = some (.int .i64 (at' B i j))) ∧ Below w.heap.size w w') := by
  subst hn
  have hpb := prm_bd hX.prime
  refine (l02Basis_room p a W ca lo tp (W.length + W.length) w hX.prime hm ht hX.lo hX.hi hX.c0 hX.c1 hX.len hX.rng).mono ?_
  rintro e w' ⟨g, k, m, rfl, lg, ug, hr, hI, hb⟩
  have e1 := hI.unique (by omega) hB
  subst e1
  refine ⟨g, k, rfl, lg, ug, fun i hi => ?_, hb⟩
  obtain ⟨r, kc, h1, h2, h3⟩ := hr i hi
  rw [hI.len i hi] at h1 h2
  obtain ⟨rb, ro, e2, l1, l2, h4⟩ := h3.row.resolve_left (fun h => by have h5 := hI.len i hi; rw [h] at h5; have := hX.c0; simp at h5; omega)
  subst e2
  exact ⟨rb, ro, kc, h1, h2, l1, l2, fun j hj => h4 j (by rw [hI.len i hi]; exact hj)⟩

set_option maxRecDepth 100000 in
set_option maxHeartbeats 12800000 in
theorem l02Inverse_any (p : Int) (a : Option Addr) (A : List (List Int)) (ca lo tp : Nat) (w : World) (hm : MatIn lo tp w a A) (ht : tp ≤ w.heap.size) (hA : Lst 1 p A) (hq : A.length = (rw' A 0).length) :
    Calls Tryz.prog 64 #[.int .i64 p, .slice a A.length ca] w (NewM (invM p A) w) := by
  obtain ⟨i0, hi, hz0, hz1, hz2⟩ := info_parts info64
  obtain ⟨j0, kj, kz0, kz1, kz2⟩ := info_parts info_slice
  have hpb := prm_bd hA.prime
  have HP := Lib.hid hA.prime
  have HM := Lib.hid hm
  have HX := Lib.hid (inW_rows hA hq)
  have hIB := inB_is hA hq
  have HIL := Lib.hid hIB.2
  have HIB := Lib.hid hIB.1
  have hA0 : 0 < A.length := hA.lo
  have hA16 := hA.hi
  have HLA : Hid (∀ i, i < A.length → (rw' A i).length = A.length) := fun i hi => by rw [hA.len i hi, ← hq]
  obtain ⟨n, hn⟩ : ∃ n, n = A.length := ⟨_, rfl⟩
  obtain ⟨W, hW⟩ : ∃ W, W = inW A := ⟨_, rfl⟩
  obtain ⟨U, hU⟩ : ∃ U, U = oneM A.length := ⟨_, rfl⟩
  obtain ⟨B, hB⟩ : ∃ B, B = inB p A := ⟨_, rfl⟩
  obtain ⟨Z, hZ⟩ : ∃ Z, Z = invM p A := ⟨_, rfl⟩
  have HWL : Hid (W.length = n) := by show _ = _; rw [hW, hn]; exact bes_len _ _
  have HUL : Hid (U.length = n) := by show _ = _; rw [hU, hn]; exact mk_len _ _ _
  have HUR : Hid (∀ i, i < n → (rw' U i).length = n) := fun i hi => by rw [hU, hn]; exact mk_rowLen _ (by rw [← hn]; exact hi)
  have HWR : Hid (∀ i, i < n → rw' W i = rw' A i ++ rw' U i) := fun i h => by rw [hW, hU]; exact bes_row (by rw [← hn]; exact h)
  have HZL : Hid (Z.length = n) := by show _ = _; rw [hZ, hn]; exact invM_len _ _
  have HZR : Hid (∀ i, i < n → rw' Z i = mkR n fun j => at' B i (n + j)) := fun i h => by rw [hZ, hn, hB]; exact invM_row (by rw [← hn]; exact h)
  rw [← hB] at HIB HIL
  rw [← hn] at HIB HIL HLA hA0 hA16 HX
  rw [← hW] at HX HIB
  rw [← hZ, ← hn]
  have HAN := Lib.hid hn
  have HUE : Hid (oneM n = U) := by show _ = _; rw [hU, hn]
  have hnA : n ≤ A.length ∧ A.length ≤ n := by omega
  clear hm hA hq hn hW hU hB hZ hIB
  go_enter Tryz.func64, Tryz.ntmps64
  go_upto_region 2 with (go_at_call 61; ((with_reducible refine (l02Unit_nV n U _ HUE.out (by omega)).mono ?_); rintro e w1 ⟨r1, k1, rfl, o_, b_⟩; have OU := Lib.hid o_; have BU := Lib.hid b_; clear o_ b_))
  have HU1 : Hid (MatIn (w.heap.size + 1) w1.heap.size w1 r1 U) := Lib.hid (OU.out.mono (by simp) (Nat.le_refl _))
  have HB1 : Hid (Below w.heap.size w w1) := below_step (balloc w _) (by simp) BU.out
  have hze : w.heap.size + 1 ≤ w1.heap.size := by have := BU.out.size; simpa using this
  have HOS : Hid (OutM w.heap.size w1 (.slice (some ⟨w.heap.size, 0, none⟩) 0 0) []) := (OutM.start w w.heap.size _ (Nat.le_refl _) rfl).below BU.out
  go_wp2
  go_loopw [5, 7] (fun z t wr => ∃ i : Nat, i ≤ n ∧ t = .int .i64 i ∧ OutM w.heap.size wr z (W.take i) ∧ Below w.heap.size w wr ∧ GbI w.heap.size w1.heap.size w1 wr ∧ w1.heap.size ≤ wr.heap.size ∧ Hid (∀ q, z.ownBlock = some q → q = w.heap.size ∨ w1.heap.size ≤ q)) (fun _ t _ => n - (intOf t).toNat)
  case atStart => exact ⟨0, Nat.zero_le _, rfl, HOS.out, HB1.out, fun _ _ _ => rfl, Nat.le_refl _, fun q hq => .inl (by simp [Value.ownBlock] at hq; exact hq.symm)⟩
  case round =>
    obtain ⟨i, hi', rfl, ho, hbel, hgb1, hwz1, HOW⟩ := hrel
    have HO := Lib.hid ho
    have HB := Lib.hid hbel
    have HGB := Lib.hid hgb1
    have hwz := hbel.size
    clear ho
    by_cases hlt : i < n
    · obtain ⟨b, o, r, q1, ha1, _, hb1, hr1, hrow⟩ := (HM.out.below hbel ht).row (show i < A.length by omega)
      subst ha1
      obtain ⟨b2, o2, ru, q2, ha2, hlo2, hb2, hr2, hrow2⟩ := (HU1.out.same (fun k k0 k1 => hgb1 k k1 (by omega))).row (show i < U.length by rw [HUL.out]; exact hlt)
      subst ha2
      have hl := HLA.out i hlt
      rw [hl] at hr1
      rw [HUR.out i hlt] at hr2
      have HWI := Lib.hid (HWR.out i hlt)
      obtain ⟨z, hz⟩ : ∃ z, z = rw' A i := ⟨_, rfl⟩
      obtain ⟨y, hy⟩ : ∃ y, y = rw' U i := ⟨_, rfl⟩
      have HLY : Hid (y.length = n) := by show _ = _; rw [hy]; exact HUR.out i hlt
      rw [← hz, ← hy] at HWI
      rw [← hz] at hl hrow
      rw [← hy] at hrow2
      have HLZ := Lib.hid hl
      obtain ⟨bu, ou, hru, _, _, _⟩ := hrow2.num (j := 0) (by rw [HLY.out]; exact hA0)
      subst hru
      have HROWd : Hid (RowIn lo tp wr.drew r z) := hrow.below (bdrew wr) (Nat.le_trans ht hwz)
      have HROW2 := Lib.hid hrow2
      have HTD : Hid (tp ≤ wr.drew.heap.size) := Nat.le_trans ht hwz
      obtain ⟨X, hX⟩ : ∃ X, X = z.map (Value.int .i64) := ⟨_, rfl⟩
      have HXX := Lib.hid hX
      obtain ⟨Y, hY⟩ : ∃ Y, Y = y.map (Value.int .i64) := ⟨_, rfl⟩
      have HYY := Lib.hid hY
      have HYL : Hid (Y.length = n * 1) := by show _ = _; rw [hY, List.length_map, HLY.out, Nat.mul_one]
      have HY1 : Hid (∀ u ∈ Y, u.oneCell' = true) := fun u hu => by rw [hY] at hu; obtain ⟨k, _, rfl⟩ := List.mem_map.1 hu; rfl
      obtain ⟨vals, hvo, hvr⟩ := HO.out
      rw [List.length_take, Nat.min_eq_left (by rw [HWL.out]; exact hi')] at hvo hvr
      have HV1 := Lib.hid hvo
      have HVR := Lib.hid hvr
      have hb1w : b < w.heap.size := Nat.lt_of_lt_of_le hb1 ht
      have hb2w : b2 < w1.heap.size := hb2
      have hi1 : (i : Int) < (n : Int) := by omega
      have hs1 : Hid (wr.drew.cell? ⟨b, o + i, none⟩ = some (.slice r n q1) ∧ wr.drew.cell? ⟨b2, o2 + i, none⟩ = some (.slice (some ⟨bu, ou, none⟩) n q2)) := ⟨hr1, hr2⟩
      have hnn : n ≤ 1048576 := by omega
      clear hz hy hX hY hvo hvr hrow hrow2 hbel hgb1 hl hr1 hr2
      go_wp2
      go_region_held3 (fun w' => w'.cell? ⟨b, o + i, none⟩ = some (.slice r n q1) ∧ w'.cell? ⟨b2, o2 + i, none⟩ = some (.slice (some ⟨bu, ou, none⟩) n q2)) (first | exact hs1.out | exact SS2.out | exact SS3.out | exact SS4.out | go_keep) (first | (go_at_call 46; ((with_reducible refine (l01Own_n r z n q1 lo tp wr.drew HROWd.out HTD.out HLZ.out hA0 hnn).mono ?_); rintro e w2 ⟨g2, k2, rfl, ho2, hb2d⟩; rw [← HXX.out] at ho2; have hb2' : Below wr.heap.size wr w2 := (bdrew wr).trans hb2d; have HO2 : Hid (w2.ownsRow wr.heap.size 2 1 (.slice (some ⟨g2, 0, none⟩) n k2) n X) := ho2; have HB2 := Lib.hid hb2'; have SS2 := Lib.hid (And.intro ((hb2'.cell (p := ⟨b, o + i, none⟩) (Nat.lt_of_lt_of_le hb1w hwz)).trans hs1.out.1) ((hb2'.cell (p := ⟨b2, o2 + i, none⟩) (Nat.lt_of_lt_of_le hb2w hwz1)).trans hs1.out.2)); have hz2' : wr.heap.size ≤ w2.heap.size := hb2'.size; have HNW : Hid (∀ j u, Y[j]? = some u → w2.cell? ((⟨bu, ou, none⟩ : Addr).add j) = some u) := Lib.hid (by rw [HYY.out]; exact news_row HROW2.out hb2' hwz1); clear ho2 hb2' hb2d)) | (refine step_append_lies _ (by rfl) _ _ _ (by rfl) wr.heap.size 2 i0 _ 1 8 Tryz.underlying22 hi hz0 hz1 hz2 rfl (by omega) (.slice (some ⟨g2, 0, none⟩) n k2) n X (by rfl) HO2.out ⟨bu, ou, none⟩ n q2 Y (by rfl) HYL.out HNW.out HY1.out hA0 (by unfold maxLen; omega) (by omega) hz2' w2.heap.size rfl ?_; intro g3 cap3 w3 hown3 hgrow3 hat3 hlt3; have HO3 := Lib.hid hown3; have HB3 : Hid (Below wr.heap.size wr w3) := HB2.out.grown hgrow3 hz2' (fun _ hk => (HO2.out.lt _ hk).1); have hz3' := HB3.out.size; have SS3 := Lib.hid (And.intro ((HB3.out.cell (p := ⟨b, o + i, none⟩) (Nat.lt_of_lt_of_le hb1w hwz)).trans hs1.out.1) ((HB3.out.cell (p := ⟨b2, o2 + i, none⟩) (Nat.lt_of_lt_of_le hb2w hwz1)).trans hs1.out.2)); have HV3 := Lib.hid (HV1.out.kept (below_grown HB3.out) (by cases hv : Value.ownBlock u5 <;> simp)); clear hown3 hgrow3) | (refine step_append_lies _ (by rfl) _ _ _ (by rfl) w.heap.size 22 j0 _ 1 24 Tryz.underlying26 kj kz0 kz1 kz2 rfl (by omega) u5 i vals (by rfl) (HV3.out.alloc _) ⟨w3.heap.size, 0, none⟩ 1 1 [.slice (some ⟨g3, 0, none⟩) (n + n) cap3] (by rfl) (by rfl) (World.news_of_block (cs := #[.slice (some ⟨g3, 0, none⟩) (n + n) cap3]) (t := 22) (fr := (0, 0)) (heap_alloc_new w3 _)) (by simp [Value.oneCell']) (by omega) (by unfold maxLen; omega) (by omega) (by simp; omega) (w3.heap.size + 1) (by simp) ?_; intro g4 cap4 w4 hown4 hgrow4 hat4 hlt4; have HO4 := Lib.hid hown4; have HG4 := Lib.hid hgrow4; have HB4 : Hid (Below w.heap.size wr w4) := ((HB3.out.mono hwz).alloc (Nat.le_trans hwz hz3') _).grown hgrow4 (by simp; omega) (fun _ hk => (HV1.out.lt _ hk).1); have GB4 : Hid (GbI w.heap.size w1.heap.size wr w4) := Lib.hid (gb_grown HB3.out hwz1 hgrow4 HOW.out); have HOW4 : Hid (∀ q, (Value.slice (some ⟨g4, 0, none⟩) (i + 1) cap4).ownBlock = some q → q = w.heap.size ∨ w1.heap.size ≤ q) := Lib.hid (own_next HOW.out hat4 (by omega)); have hz4 := hgrow4.size; have SS4 := Lib.hid (And.intro ((HB4.out.cell (p := ⟨b, o + i, none⟩) hb1w).trans hs1.out.1) ((World.cell?_of_block (w := wr) (a := ⟨b2, o2 + i, none⟩) (GB4.out b2 hb2w (by omega))).trans hs1.out.2)); clear hown4 hgrow4))
      all_goals
        go_wp2
        go_roundw
        case rel =>
          have ho3 : OutR wr.heap.size w3 (.slice (some ⟨g3, 0, none⟩) (n + n) cap3) (rw' W i) := by
            unfold OutR
            rw [HWI.out, List.length_append, HLZ.out, HLY.out, List.map_append, ← HXX.out, ← HYY.out]
            exact HO3.out
          obtain ⟨a3, c3, e3, ht3⟩ := ho3.tag
          injection e3 with e31 e32 e33
          subst e31
          have hlt2 : i < W.length := by rw [HWL.out]; exact hlt
          exact ⟨i + 1, by omega, by go_num, by rw [take_snoc' hlt2]; exact OutM.pushW (by rw [List.length_take]; omega) (by rw [HWI.out, List.length_append, HLZ.out, HLY.out]) HV1.out HVR.out ht3 hwz HB3.out HO4.out HG4.out, HB.out.trans HB4.out, fun k hk hz => (GB4.out k hk hz).trans (HGB.out k hk hz), by simp at hz4; omega, HOW4.out⟩
        case measure => simp [intOf]; omega
    · have hin : i = n := by omega
      subst hin
      have h8 := HO.out
      rw [List.take_of_length_le (by rw [HWL.out]; exact Nat.le_refl _)] at h8
      obtain ⟨a8, c8, e8, hm8⟩ := h8.mat
      rw [HWL.out] at e8
      subst e8
      have HM8 := Lib.hid hm8
      have hnl : i ≤ W.length ∧ W.length ≤ i := by have := HWL.out; omega
      clear h8 hm8 hbel hgb1
      go_upto_region 7 with (go_at_call 30; ((with_reducible refine (basRoomI p a8 W B i c8 w.heap.size wr.heap.size wr HWL.out HM8.out (Nat.le_refl _) HX.out HIB.out).mono ?_); rintro e w5 ⟨g5, k5, rfl, lg5, ug5, hr5, b_⟩; have HR5 := Lib.hid hr5; have HB5 := Lib.hid (bstepI HB.out HB.out.size b_); have hz5 := HB5.out.size; rw [HIL.out]; clear b_ hr5))
      go_wp2
      go_loopw [8, 9] (fun v t wr => ∃ j : Nat, j ≤ i ∧ t = .int .i64 j ∧ OutM w5.heap.size wr v (Z.take j) ∧ Below w5.heap.size w5 wr) (fun _ t _ => i - (intOf t).toNat)
      case atStart => exact ⟨0, Nat.zero_le _, rfl, OutM.start w5 _ _ (Nat.le_refl _) rfl, balloc w5 _⟩
      case round =>
        obtain ⟨j, hj, rfl, ho, hbel⟩ := hrel
        have HOQ := Lib.hid ho
        have HBQ := Lib.hid hbel
        have hwq := hbel.size
        rename World => wq
        by_cases hltj : j < i
        · have hj1 : (j : Int) < (i : Int) := Int.ofNat_lt.2 hltj
          obtain ⟨rb, ro, kc, hcell, hcap, hnum⟩ := HR5.out j (by rw [HIL.out]; exact hltj)
          have hc5 := (hbel.cell (p := ⟨g5, j, none⟩) ug5).trans hcell
          obtain ⟨L, hL⟩ : ∃ L, L = i + i := ⟨_, rfl⟩
          have hL1 : (i : Int) ≤ (L : Int) := by omega
          have hL2 : (L : Int) ≤ (kc : Int) := by omega
          have hL3 : L ≤ kc := by omega
          have hL4 : i ≤ L := by omega
          have hL5 : ¬ kc = i := by omega
          have hL6 : ¬ i = kc := by omega
          have hL7 : L - i = i := by omega
          have hL8 : ((L : Int) - (i : Int)) = (i : Int) := by omega
          rw [← hL] at hc5
          have HZR2 := Lib.hid (HZR.out j hltj)
          have hrz : RowIn w.heap.size w5.heap.size w5 (some ⟨rb, ro + i, none⟩) (rw' Z j) := by
            rw [HZR2.out]
            exact .inr ⟨rb, ro + i, rfl, Nat.le_trans HB.out.size hnum.1, hnum.2.1, fun k hk => by rw [mkR_len] at hk; rw [mkR_at _ hk, Nat.add_assoc]; exact hnum.2.2 (i + k) (by omega)⟩
          have HRZ := Lib.hid (hrz.below hbel (Nat.le_refl _))
          have HZL2 : Hid ((rw' Z j).length = i) := by show _ = _; rw [HZR2.out, mkR_len]
          obtain ⟨vals, hvo, hvr⟩ := ho
          have HTL : Hid ((Z.take j).length = j) := by show _ = _; rw [List.length_take, HZL.out]; omega
          rw [HTL.out] at hvo hvr
          have HV1 := Lib.hid hvo
          have HVR := Lib.hid hvr
          have hi2 : i ≤ 1048576 := by omega
          have h0i : 0 < i := hA0
          clear hbel hvo hvr hrz hcell hnum hL
          go_wp2_with (first | (go_at_call 46; ((with_reducible refine (l01Own_nq (some ⟨rb, ro + i, none⟩) (rw' Z j) _ i _ w.heap.size w5.heap.size wq HRZ.out hwq HZL2.out (by first | rfl | omega | simp; omega) h0i hi2).mono ?_); rintro e w6 ⟨g6, k6, rfl, ho6, b_⟩; have HO6 := Lib.hid ho6; have HB6 := Lib.hid b_; have hz6 := b_.size; have HVW := Lib.hid (HV1.out.kept (below_grown b_) (by cases hv : Value.ownBlock u8 <;> simp)); clear ho6 b_)) | ((at_builtin; (refine wpList_append_lies _ rfl _ _ 26 rfl w5.heap.size 22 j0 (.slice none 0 0) 1 24 Tryz.underlying26 kj kz0 kz1 kz2 rfl (by decide) u8 j vals rfl (HVW.out.alloc _) ⟨w6.heap.size, 0, none⟩ 1 1 [.slice (some ⟨g6, 0, none⟩) i k6] rfl rfl (World.news_of_block (cs := #[.slice (some ⟨g6, 0, none⟩) i k6]) (t := 22) (fr := (0, 0)) (heap_alloc_new w6 _)) (by simp [Value.oneCell']) (by omega) (by unfold maxLen; omega) (by omega) (by simp; omega) (w6.heap.size + 1) (by simp) ?_); intro gg cap w1 hown1 hgrow hat hlt1)))
          go_wp2
          go_roundw
          case rel =>
            have ho3 : OutR wq.heap.size w6 (.slice (some ⟨g6, 0, none⟩) i k6) (rw' Z j) := by
              unfold OutR
              rw [HZL2.out]
              exact HO6.out
            obtain ⟨a3, c3, e3, ht3⟩ := ho3.tag
            injection e3 with e31 e32 e33
            subst e31
            have hlt2 : j < Z.length := by rw [HZL.out]; exact hltj
            exact ⟨j + 1, by omega, by go_num, by rw [take_snoc' hlt2]; exact OutM.pushW HTL.out HZL2.out HV1.out HVR.out ht3 hwq HB6.out hown1 hgrow, ((HBQ.out.trans (HB6.out.mono hwq)).alloc (Nat.le_trans hwq hz6) _).grown hgrow (by simp; omega) (fun _ hk => (HV1.out.lt _ hk).1)⟩
          case measure => simp [intOf]; omega
        · have hjn : j = i := by omega
          subst hjn
          have ho2 := HOQ.out
          rw [List.take_of_length_le (by rw [HZL.out]; exact Nat.le_refl _)] at ho2
          obtain ⟨r9, c9, hv9, hmat⟩ := ho2.mat
          rw [HZL.out] at hv9
          subst hv9
          have HMT := Lib.hid hmat
          clear ho hbel ho2 hmat
          go_wp2
          go_ret
          exact ⟨r9, c9, by rw [HZL.out]; rfl, HMT.out.mono hz5 (Nat.le_refl _), HB5.out.trans (HBQ.out.mono hz5)⟩

end Go.Proofs.YtkibkkdeaojjoabGreat
