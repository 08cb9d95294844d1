/-
  Cayley transforms (model): contracts of the program and of the model.
  Conditions: the lists are nil or rows of known cells, of at most 1048576 numbers.
-/
import Derived.Test.YtkibkkdeaojjoabGreatQg46
import Derived.Test.YtkibkkdeaojjoabGreatQg47
import Derived.Test.YtkibkkdeaojjoabGreatQg28
import Derived.Test.YtkibkkdeaojjoabGreatQg30
import Derived.Test.YtkibkkdeaojjoabGreatQg25
namespace Go.Proofs.YtkibkkdeaojjoabGreat
open Go.RowKit
set_option linter.unusedVariables false

theorem plusC (p k : Int) (a b : Option Addr) (za zb : List Int) (n ca cb lo tp lo' tp' : Nat) (w : World) (hn : za.length = n) (hn' : zb.length = n) (hp : prm p = true) (ha : RowIn lo tp w a za) (hb : RowIn lo' tp' w b zb) (ht : tp ≤ w.heap.size) (ht' : tp' ≤ w.heap.size) (hs : n ≤ 1048576) (hna : ∀ j, j < n → 0 ≤ za.getD j 0 ∧ za.getD j 0 < p) (hnb : ∀ j, j < n → 0 ≤ zb.getD j 0 ∧ zb.getD j 0 < p) (k0 : 0 ≤ k) (k1 : k ≤ p) :
    Calls Tryz.prog 42 #[.int .i64 p, .slice a n ca, .slice b n cb, .int .i64 k] w (fun e w' => ∃ r c, e = .returned (.slice r n c) ∧ TagR w.heap.size w'.heap.size w' r (plusR p za zb k) ∧ Below w.heap.size w w') := by
  subst hn
  have h := l02Plus_any p k a b za zb ca cb lo tp lo' tp' w hp ha hb ht ht' (by omega) hs hna (by rw [hn']; exact hnb) k0 k1
  rw [hn'] at h
  refine h.mono ?_
  rintro e w' ⟨r, c, rfl, t, b⟩
  exact ⟨r, c, by rw [show (plusR p za zb k).length = za.length from mkR_len _ _], t, b⟩
theorem OutM.kept2 {B n : Nat} {w w1 : World} {u v : Value} {m : List (List Int)} {vals : List Value} (h : OutM B w u m) (ho : w.ownsRow B 22 1 v n vals) (hg : w.grownBy w1 v.ownBlock) (hd : ∀ q, u.ownBlock = some q → v.ownBlock = some q → False) : OutM B w1 u m := by
  obtain ⟨vs, h1, h2⟩ := h
  refine ⟨vs, h1.kept hg ?_, fun i hi => ?_⟩
  · cases e : u.ownBlock with
    | none => exact .inl rfl
    | some q => exact .inr (fun k => hd q e k.symm)
  · obtain ⟨r, c, e, t⟩ := h2 i hi
    exact ⟨r, c, e, (TagR.push ho hg (Nat.le_refl _) t).block (Nat.le_refl _) hg.size (fun _ _ _ _ _ => rfl)⟩
theorem same_grown {lo hi : Nat} {wr w3 w4 : World} {o : Obj} {v : Value} (h3 : Below wr.heap.size wr w3) (hB : hi ≤ wr.heap.size) (hg : (w3.alloc o).grownBy w4 v.ownBlock) (hq : ∀ q, v.ownBlock = some q → q < lo ∨ hi ≤ q) : Same lo hi wr w4 := fun k k0 k1 => by
  have hs := h3.size
  have hkw : k < w3.heap.size := by omega
  have e1 := hg.block k (by simp; omega) (fun e => by
    rcases hq k e.symm with h | h <;> omega)
  exact e1.trans (((balloc w3 o).block k hkw).trans (h3.block k (by omega)))
theorem own_next2 {lo hi g H : Nat} {v : Value} {n c : Nat} (hq : ∀ q, v.ownBlock = some q → q < lo ∨ hi ≤ q) (hat : v.ownBlock = some g ∨ g = H) (hH : hi ≤ H) : ∀ q, (Value.slice (some ⟨g, 0, none⟩) n c).ownBlock = some q → q < lo ∨ hi ≤ q := fun q h => by
  have e : g = q := by simpa [Value.ownBlock] using h
  subst e
  rcases hat with h1 | h1
  · exact hq g h1
  · exact .inr (by omega)
theorem apart_next {g H : Nat} {u v : Value} {n c : Nat} (hd : ∀ q, u.ownBlock = some q → v.ownBlock = some q → False) (hv : ∀ q, v.ownBlock = some q → q < H) (hat : u.ownBlock = some g ∨ g = H) : ∀ q, (Value.slice (some ⟨g, 0, none⟩) n c).ownBlock = some q → v.ownBlock = some q → False := fun q h k => by
  have e : g = q := by simpa [Value.ownBlock] using h
  subst e
  rcases hat with h1 | h1
  · exact hd g h1 k
  · have := hv g k; omega
theorem cy_row {p : Int} {m : List (List Int)} {k : Int} {i : Nat} (h : i < m.length) (hr : (rw' m i).length = m.length) : rw' (cyM p m k) i = plusR p (rw' (oneM m.length) i) (rw' m i) k := by
  have hl : (rw' (oneM m.length) i).length = m.length := mk_rowLen _ h
  unfold cyM plusR
  rw [mk_row _ h, hl]
  refine mkR_congr fun j hj => ?_
  unfold cyF
  rw [if_pos h, show (rw' (oneM m.length) i).getD j 0 = if i = j then 1 else 0 from mk_at _ h hj]; rfl
theorem cyC_two {p : Int} {m : List (List Int)} (h : Lst 1 p m) : (detP p (cyM p m 1) = 0 ∧ cyC p m = 5) ∨ (detP p (cyM p m 1) ≠ 0 ∧ cyC p m = 0) := by
  have hs : sqC p (cyM p m 1) = 0 := by
    unfold sqC
    rw [if_pos (show isM p (cyM p m 1) = true from isL_iff.2 (cyM_lst h 1)), if_pos (cyM_sq h 1)]
  rcases ivmC_cases p (cyM p m 1) with ⟨h1, _⟩ | ⟨_, h2, h3⟩ | ⟨_, h2, h3⟩
  · exact absurd hs h1
  · exact .inl ⟨h2, h3⟩
  · exact .inr ⟨h2, h3⟩
theorem detC (p : Int) (a : Option Addr) (A : List (List Int)) (n ca lo tp : Nat) (w : World) (hn : A.length = n) (hA : Lst 1 p A) (hq : A.length = (rw' A 0).length) (hm : MatIn lo tp w a A) (ht : tp ≤ w.heap.size) :
    Calls Tryz.prog 62 #[.int .i64 p, .slice a n ca] w (DetR p A w) := by
  subst hn
  have h0 := hA.lo
  have h16 := hA.hi
  exact l02Det_any p a A ca lo tp w hA.prime hm ht (by omega) (by omega) (fun i hi => by rw [hA.len i hi, ← hq]) (fun i hi j hj => hA.at hi (by rw [← hq]; exact hj))
theorem invS (p : Int) (a : Option Addr) (A : List (List Int)) (n ca lo tp : Nat) (w : World) (hn : A.length = n) (hA : Lst 1 p A) (hq : A.length = (rw' A 0).length) (hm : MatIn lo tp w a A) (ht : tp ≤ w.heap.size) :
    Calls Tryz.prog 64 #[.int .i64 p, .slice a n ca] w (fun e w' => ∃ r c, e = .returned (.slice r n c) ∧ MatIn w.heap.size w'.heap.size w' r (invM p A) ∧ Below w.heap.size w w') := by
  subst hn
  refine (l02Inverse_any p a A ca lo tp w hm ht hA hq).mono ?_
  rintro e w' ⟨r, c, rfl, h, b⟩
  exact ⟨r, c, by rw [invM_len], h, b⟩
theorem timS (p : Int) (a b : Option Addr) (m m' : List (List Int)) (n ca cb lo tp lo' tp' : Nat) (w : World) (hn : m.length = n) (hn' : m'.length = n) (hc : (rw' m 0).length = n) (hc' : (rw' m' 0).length = n) (h1 : Lst 1 p m) (h2 : Lst 1 p m') (hm : MatIn lo tp w a m) (hm' : MatIn lo' tp' w b m') (ht : tp ≤ w.heap.size) (ht' : tp' ≤ w.heap.size) :
    Calls Tryz.prog 63 #[.int .i64 p, .slice a n ca, .slice b n cb] w (NewM (mulM p m m') w) := by
  have h0 := h2.lo
  have h := l02Times_any p a b m m' ca cb lo tp lo' tp' w h1.prime hm hm' ht ht' (by rw [hn']; exact cy_rect h1 hc) (by rw [hc']; exact cy_rect h2 hc') h0
  rw [hn, hn'] at h; exact h
def CyR (p : Int) (m : List (List Int)) (w : World) (e : Ending) (w' : World) : Prop := ∃ r c, e = .returned (.tuple #[.slice r (cyV p m).length c, .bool (cyC p m == 0)]) ∧ MatIn w.heap.size w'.heap.size w' r (cyV p m) ∧ Below w.heap.size w w'

set_option maxRecDepth 100000 in
set_option maxHeartbeats 12800000 in
theorem l10Cayley_any (p : Int) (a : Option Addr) (m : List (List Int)) (ca lo tp : Nat) (w : World) (hm : MatIn lo tp w a m) (ht : tp ≤ w.heap.size) (hL : Lst 1 p m) (hq : m.length = (rw' m 0).length) :
    Calls Tryz.prog 36 #[.int .i64 p, .slice a m.length ca] w (CyR p m w) := by
  obtain ⟨j0, kj, kz0, kz1, kz2⟩ := info_parts info_slice
  have hpb := prm_bd hL.prime
  have HP := Lib.hid hL.prime
  have HM := Lib.hid hm
  have HL := Lib.hid hL
  have h1 : 1 ≤ m.length := hL.lo
  have h16 := hL.hi
  obtain ⟨n, hn⟩ : ∃ n, n = m.length := ⟨_, rfl⟩
  have HN := Lib.hid hn
  have HR : Hid (∀ i, i < n → (rw' m i).length = n) := fun i hi => by rw [hL.len i (by omega), ← hq, hn]
  obtain ⟨U, hU⟩ : ∃ U, U = oneM n := ⟨_, rfl⟩
  obtain ⟨W1, hW1⟩ : ∃ W, W = cyM p m 1 := ⟨_, rfl⟩
  obtain ⟨W2, hW2⟩ : ∃ W, W = cyM p m (p - 1) := ⟨_, rfl⟩
  have HUL : Hid (U.length = n) := by show _ = _; rw [hU]; exact mk_len _ _ _
  have HUR : Hid (∀ i, i < n → (rw' U i).length = n) := fun i hi => by rw [hU]; exact mk_rowLen _ hi
  have HUN : Hid (∀ i, i < n → ∀ j, j < n → 0 ≤ (rw' U i).getD j 0 ∧ (rw' U i).getD j 0 < p) := fun i hi j hj => by
    rw [hU, show (rw' (oneM n) i).getD j 0 = if i = j then 1 else 0 from mk_at _ hi hj]; split <;> omega
  have HMN : Hid (∀ i, i < n → ∀ j, j < n → 0 ≤ (rw' m i).getD j 0 ∧ (rw' m i).getD j 0 < p) := fun i hi j hj => hL.at (by omega) (by rw [← hq]; omega)
  have HL1 : Hid (W1.length = n) := by show _ = _; rw [hW1, cyM_len, hn]
  have HL2 : Hid (W2.length = n) := by show _ = _; rw [hW2, cyM_len, hn]
  have HW1 : Hid (∀ i, i < n → rw' W1 i = plusR p (rw' U i) (rw' m i) 1) := fun i hi => by rw [hW1, hU, hn]; exact cy_row (by omega) (by rw [hL.len i (by omega), ← hq])
  have HW2 : Hid (∀ i, i < n → rw' W2 i = plusR p (rw' U i) (rw' m i) (p - 1)) := fun i hi => by rw [hW2, hU, hn]; exact cy_row (by omega) (by rw [hL.len i (by omega), ← hq])
  have HE1 := Lib.hid hW1
  have HE2 := Lib.hid hW2
  have HUE : Hid (oneM n = U) := hU.symm
  have HP1 : Hid (IntKind.i64.wrap (p - 1) = p - 1) := IntWalk.i64_in _ (by omega)
  have n1_ : 1 ≤ n := by omega
  have n16 : n ≤ 16 := by omega
  have hnn : n ≤ 1048576 := by omega
  rw [← hn]
  clear hm hL hn hq hU hW1 hW2
  go_enter Tryz.func36, Tryz.ntmps36
  go_upto_region 3 with (go_at_call 61; ((with_reducible refine (l02Unit_nV n U _ HUE.out (by omega)).mono ?_); rintro e w1 ⟨r1, k1, rfl, o_, b_⟩; have OU := Lib.hid o_; have BU := Lib.hid b_; clear o_ b_))
  have HU1 : Hid (MatIn (w.heap.size + 2) w1.heap.size w1 r1 U) := Lib.hid (OU.out.mono (by simp) (Nat.le_refl _))
  have HB1 : Hid (Below w.heap.size w w1) := Lib.hid (bstepI ((balloc w _).alloc (by simp) _) (by simp; omega) BU.out)
  have hze : w.heap.size + 2 ≤ w1.heap.size := by have := BU.out.size; simp at this; omega
  have HOS1 : Hid (OutM w.heap.size w1 (.slice (some ⟨w.heap.size, 0, none⟩) 0 0) []) := Lib.hid (((OutM.start w w.heap.size _ (Nat.le_refl _) rfl).below (balloc _ _)).below BU.out)
  have HOS2 : Hid (OutM w.heap.size w1 (.slice (some ⟨w.heap.size + 1, 0, none⟩) 0 0) []) := by
    have h := OutM.start (w.alloc (.cells #[] 22)) w.heap.size _ (by simp) rfl
    rw [show (w.alloc (.cells #[] 22)).heap.size = w.heap.size + 1 by simp] at h
    exact h.below BU.out
  have HOWN : Hid ((∀ q, (Value.slice (some ⟨w.heap.size, 0, none⟩) 0 0).ownBlock = some q → q < w.heap.size + 2 ∨ w1.heap.size ≤ q) ∧ (∀ q, (Value.slice (some ⟨w.heap.size + 1, 0, none⟩) 0 0).ownBlock = some q → q < w.heap.size + 2 ∨ w1.heap.size ≤ q) ∧ (∀ q, (Value.slice (some ⟨w.heap.size, 0, none⟩) 0 0).ownBlock = some q → (Value.slice (some ⟨w.heap.size + 1, 0, none⟩) 0 0).ownBlock = some q → False)) := by
    refine ⟨fun q h => ?_, fun q h => ?_, fun q h k => ?_⟩
    · simp [Value.ownBlock] at h; omega
    · simp [Value.ownBlock] at h; omega
    · simp [Value.ownBlock] at h k; omega
  go_wp2
  go_loopw [6, 7, 9] (fun u v t wr => ∃ i : Nat, i ≤ n ∧ t = .int .i64 i ∧ OutM w.heap.size wr u (W1.take i) ∧ OutM w.heap.size wr v (W2.take i) ∧ Below w.heap.size w wr ∧ Same (w.heap.size + 2) w1.heap.size w1 wr ∧ w1.heap.size ≤ wr.heap.size ∧ Hid ((∀ q, u.ownBlock = some q → q < w.heap.size + 2 ∨ w1.heap.size ≤ q) ∧ (∀ q, v.ownBlock = some q → q < w.heap.size + 2 ∨ w1.heap.size ≤ q) ∧ (∀ q, u.ownBlock = some q → v.ownBlock = some q → False))) (fun _ _ t _ => n - (intOf t).toNat)
  case atStart => exact ⟨0, Nat.zero_le _, rfl, HOS1.out, HOS2.out, HB1.out, fun _ _ _ => rfl, Nat.le_refl _, HOWN⟩
  case round =>
    obtain ⟨i, hi', rfl, hou, hov, hbel, hsm, hwz1, HOX⟩ := hrel
    have HOU := Lib.hid hou
    have HOV := Lib.hid hov
    have HB := Lib.hid hbel
    have HSM := Lib.hid hsm
    have hwz := hbel.size
    clear hou hov
    by_cases hlt : i < n
    · obtain ⟨b, o, r, q1, ha1, _, hb1, hr1, hrow⟩ := (HM.out.below hbel ht).row (show i < m.length by rw [← HN.out]; exact hlt)
      subst ha1
      obtain ⟨b2, o2, ru, q2, ha2, hlo2, hb2, hr2, hrow2⟩ := (HU1.out.same hsm).row (show i < U.length by rw [HUL.out]; exact hlt)
      subst ha2
      have HYN0 := HUN.out i hlt
      have HZN0 := HMN.out i hlt
      have hw1r := HW1.out i hlt
      have hw2r := HW2.out i hlt
      have hly := HUR.out i hlt
      have hlz := HR.out i hlt
      rw [hlz] at hr1
      rw [hly] at hr2
      obtain ⟨y, hy⟩ : ∃ y, y = rw' U i := ⟨_, rfl⟩
      obtain ⟨z, hz⟩ : ∃ z, z = rw' m i := ⟨_, rfl⟩
      rw [← hy] at HYN0 hly hrow2
      rw [← hz] at HZN0 hlz hrow
      rw [← hy, ← hz] at hw1r hw2r
      have HYN := Lib.hid HYN0
      have HZN := Lib.hid HZN0
      have HLY := Lib.hid hly
      have HLZ := Lib.hid hlz
      have HW1R := Lib.hid hw1r
      have HW2R := Lib.hid hw2r
      obtain ⟨bu, ou, hru, _, _, _⟩ := hrow2.num (j := 0) (by rw [hly]; omega)
      subst hru
      have RYa := Lib.hid hrow2
      have RZa := Lib.hid hrow
      have hb1w : b < w.heap.size := Nat.lt_of_lt_of_le hb1 ht
      have hi1 : (i : Int) < (n : Int) := by omega
      have hlt1 : i < W1.length := by rw [HL1.out]; exact hlt
      have hlt2 : i < W2.length := by rw [HL2.out]; exact hlt
      obtain ⟨vals, hvo, hvr⟩ := HOU.out
      rw [List.length_take, Nat.min_eq_left (by omega)] at hvo hvr
      obtain ⟨valv, hvo2, _⟩ := HOV.out
      rw [List.length_take, Nat.min_eq_left (by omega)] at hvo2
      have HVa := Lib.hid hvo
      have HVRa := Lib.hid hvr
      have HVv := Lib.hid hvo2
      have SSa : Hid (wr.cell? ⟨b, o + i, none⟩ = some (.slice r n q1) ∧ wr.cell? ⟨b2, o2 + i, none⟩ = some (.slice (some ⟨bu, ou, none⟩) n q2)) := ⟨hr1, hr2⟩
      have HSZa : Hid (tp ≤ wr.heap.size ∧ w1.heap.size ≤ wr.heap.size) := ⟨Nat.le_trans ht hwz, hwz1⟩
      have HWZa : Hid (w.heap.size ≤ wr.heap.size) := hwz
      have HOWa := Lib.hid HOX.out.1
      clear hy hz hvo hvr hvo2 hrow hrow2 hbel hsm hr1 hr2 hly hlz HYN0 HZN0 hw1r hw2r
      have hsa : Hid (wr.drew.cell? ⟨b, o + i, none⟩ = some (.slice r n q1) ∧ wr.drew.cell? ⟨b2, o2 + i, none⟩ = some (.slice (some ⟨bu, ou, none⟩) n q2)) := SSa.out
      have HRYa : Hid (RowIn (w.heap.size + 2) w1.heap.size wr.drew (some ⟨bu, ou, none⟩) y) := RYa.out.below (bdrew wr) HSZa.out.2
      have HRZa : Hid (RowIn lo tp wr.drew r z) := RZa.out.below (bdrew wr) HSZa.out.1
      obtain ⟨r1_, r2_⟩ := hsa.out
      have hTP : Hid (tp ≤ wr.drew.heap.size ∧ w1.heap.size ≤ wr.drew.heap.size) := HSZa.out
      have hP1 := HP1.out
      go_wp2
      go_region_held3 (fun w' => w'.cell? ⟨b, o + i, none⟩ = some (.slice r n q1) ∧ w'.cell? ⟨b2, o2 + i, none⟩ = some (.slice (some ⟨bu, ou, none⟩) n q2)) (first | exact hsa.out | exact SSa2.out | exact SSa4.out | go_keep) (first | (go_at_call 42; ((with_reducible refine (plusC p (1) (some ⟨bu, ou, none⟩) r y z n q2 q1 (w.heap.size + 2) w1.heap.size lo tp wr.drew HLY.out HLZ.out HP.out HRYa.out HRZa.out hTP.out.2 hTP.out.1 hnn HYN.out HZN.out (by omega) (by omega)).mono ?_); rintro e wa2 ⟨ra2, ka2, rfl, t_, b_⟩; have hb_ : Below wr.heap.size wr wa2 := (bdrew wr).trans b_; have HTa2 : Hid (TagR wr.heap.size wa2.heap.size wa2 ra2 (plusR p y z (1))) := t_; have HBa2 := Lib.hid hb_; have SSa2 := Lib.hid (And.intro ((hb_.cell (p := ⟨b, o + i, none⟩) (Nat.lt_of_lt_of_le hb1 HSZa.out.1)).trans hsa.out.1) ((hb_.cell (p := ⟨b2, o2 + i, none⟩) (Nat.lt_of_lt_of_le hb2 HSZa.out.2)).trans hsa.out.2)); have hza2' : wr.heap.size ≤ wa2.heap.size := hb_.size; have HVa2 := Lib.hid (HVa.out.kept (below_grown hb_) (by cases hv : Value.ownBlock u6 <;> simp)); clear t_ b_ hb_)) | (refine step_append_lies _ (by rfl) _ _ _ (by rfl) w.heap.size 22 j0 _ 1 24 Tryz.underlying26 kj kz0 kz1 kz2 rfl (by omega) u6 i vals (by rfl) (HVa2.out.alloc _) ⟨wa2.heap.size, 0, none⟩ 1 1 [.slice ra2 n ka2] (by rfl) (by rfl) (World.news_of_block (cs := #[.slice ra2 n ka2]) (t := 22) (fr := (0, 0)) (heap_alloc_new wa2 _)) (by simp [Value.oneCell']) (by omega) (by unfold maxLen; omega) (by omega) (by simp; have := HWZa.out; omega) (wa2.heap.size + 1) (by simp) ?_; intro ga4 capa4 wa4 hown_ hgrow_ hat_ hlt_; have HOa4 := Lib.hid hown_; have HGa4 := Lib.hid hgrow_; have HATa4 := Lib.hid hat_; have HSMa4 := Lib.hid (same_grown HBa2.out HSZa.out.2 hgrow_ HOWa.out); have HBWa4 : Hid (Below w.heap.size wr wa4) := ((HBa2.out.mono HWZa.out).alloc (Nat.le_trans HWZa.out hza2') _).grown hgrow_ (by simp; have := HWZa.out; omega) (fun _ hk => (HVa.out.lt _ hk).1); have hza4 := hgrow_.size; have SSa4 := Lib.hid (And.intro ((HBWa4.out.cell (p := ⟨b, o + i, none⟩) hb1w).trans hsa.out.1) ((World.cell?_of_block (w := wr) (a := ⟨b2, o2 + i, none⟩) (HSMa4.out b2 hlo2 hb2)).trans hsa.out.2)); clear hown_ hgrow_ hat_ hlt_))
      all_goals
        have OUb : Hid (OutM w.heap.size wa4 (.slice (some ⟨ga4, 0, none⟩) (i + 1) capa4) (W1.take (i + 1))) := by
          show OutM _ _ _ _
          rw [take_snoc' hlt1, HW1R.out]
          exact OutM.pushW (by rw [List.length_take]; omega) (by rw [show (plusR p y z 1).length = y.length from mkR_len _ _, HLY.out]) HVa.out HVRa.out HTa2.out HWZa.out HBa2.out HOa4.out HGa4.out
        have OVb : Hid (OutM w.heap.size wa4 u7 (W2.take i)) := Lib.hid (OutM.kept2 ((HOV.out.below HBa2.out).below (balloc wa2 _)) (HVa2.out.alloc _) HGa4.out (fun q h k => HOX.out.2.2 q k h))
        have HD4 : Hid (∀ q, (Value.slice (some ⟨ga4, 0, none⟩) (i + 1) capa4).ownBlock = some q → u7.ownBlock = some q → False) := Lib.hid (apart_next HOX.out.2.2 (fun q h => by have h1 := (HVv.out.lt q h).2; have h2 := HBa2.out.size; omega) HATa4.out)
        have HO4 : Hid (∀ q, (Value.slice (some ⟨ga4, 0, none⟩) (i + 1) capa4).ownBlock = some q → q < w.heap.size + 2 ∨ w1.heap.size ≤ q) := Lib.hid (own_next2 HOWa.out HATa4.out (by have h2 := HBa2.out.size; have h3 := HSZa.out.2; omega))
        have HWZb : Hid (w.heap.size ≤ wa4.heap.size) := Nat.le_trans HWZa.out HBWa4.out.size
        have HSZb : Hid (tp ≤ wa4.heap.size ∧ w1.heap.size ≤ wa4.heap.size) := ⟨Nat.le_trans ht HWZb.out, Nat.le_trans HSZa.out.2 HBWa4.out.size⟩
        have SSb := SSa4
        have RYb : Hid (RowIn (w.heap.size + 2) w1.heap.size wa4 (some ⟨bu, ou, none⟩) y) := Lib.hid (RYa.out.same HSMa4.out)
        have RZb : Hid (RowIn lo tp wa4 r z) := Lib.hid (RZa.out.below HBWa4.out ht)
        have HOWb := Lib.hid HOX.out.2.1
        obtain ⟨valw, hvo3, hvr3⟩ := OVb.out
        rw [List.length_take, Nat.min_eq_left (by omega)] at hvo3 hvr3
        have HVb := Lib.hid hvo3
        have HVRb := Lib.hid hvr3
        clear hvo3 hvr3 r1_ r2_
        have hsb : Hid (wa4.drew.cell? ⟨b, o + i, none⟩ = some (.slice r n q1) ∧ wa4.drew.cell? ⟨b2, o2 + i, none⟩ = some (.slice (some ⟨bu, ou, none⟩) n q2)) := SSb.out
        have HRYb : Hid (RowIn (w.heap.size + 2) w1.heap.size wa4.drew (some ⟨bu, ou, none⟩) y) := RYb.out.below (bdrew wa4) HSZb.out.2
        have HRZb : Hid (RowIn lo tp wa4.drew r z) := RZb.out.below (bdrew wa4) HSZb.out.1
        obtain ⟨r1_, r2_⟩ := hsb.out
        have hTP : Hid (tp ≤ wa4.drew.heap.size ∧ w1.heap.size ≤ wa4.drew.heap.size) := HSZb.out
        have hP1 := HP1.out
        go_wp2
        go_region_held3 (fun w' => w'.cell? ⟨b, o + i, none⟩ = some (.slice r n q1) ∧ w'.cell? ⟨b2, o2 + i, none⟩ = some (.slice (some ⟨bu, ou, none⟩) n q2)) (first | exact hsb.out | exact SSb2.out | exact SSb4.out | go_keep) (first | (go_at_call 42; ((with_reducible refine (plusC p (p - 1) (some ⟨bu, ou, none⟩) r y z n q2 q1 (w.heap.size + 2) w1.heap.size lo tp wa4.drew HLY.out HLZ.out HP.out HRYb.out HRZb.out hTP.out.2 hTP.out.1 hnn HYN.out HZN.out (by omega) (by omega)).mono ?_); rintro e wb2 ⟨rb2, kb2, rfl, t_, b_⟩; have hb_ : Below wa4.heap.size wa4 wb2 := (bdrew wa4).trans b_; have HTb2 : Hid (TagR wa4.heap.size wb2.heap.size wb2 rb2 (plusR p y z (p - 1))) := t_; have HBb2 := Lib.hid hb_; have SSb2 := Lib.hid (And.intro ((hb_.cell (p := ⟨b, o + i, none⟩) (Nat.lt_of_lt_of_le hb1 HSZb.out.1)).trans hsb.out.1) ((hb_.cell (p := ⟨b2, o2 + i, none⟩) (Nat.lt_of_lt_of_le hb2 HSZb.out.2)).trans hsb.out.2)); have hzb2' : wa4.heap.size ≤ wb2.heap.size := hb_.size; have HVb2 := Lib.hid (HVb.out.kept (below_grown hb_) (by cases hv : Value.ownBlock u7 <;> simp)); clear t_ b_ hb_)) | (refine step_append_lies _ (by rfl) _ _ _ (by rfl) w.heap.size 22 j0 _ 1 24 Tryz.underlying26 kj kz0 kz1 kz2 rfl (by omega) u7 i valw (by rfl) (HVb2.out.alloc _) ⟨wb2.heap.size, 0, none⟩ 1 1 [.slice rb2 n kb2] (by rfl) (by rfl) (World.news_of_block (cs := #[.slice rb2 n kb2]) (t := 22) (fr := (0, 0)) (heap_alloc_new wb2 _)) (by simp [Value.oneCell']) (by omega) (by unfold maxLen; omega) (by omega) (by simp; have := HWZb.out; omega) (wb2.heap.size + 1) (by simp) ?_; intro gb4 capb4 wb4 hown_ hgrow_ hat_ hlt_; have HOb4 := Lib.hid hown_; have HGb4 := Lib.hid hgrow_; have HATb4 := Lib.hid hat_; have HSMb4 := Lib.hid (same_grown HBb2.out HSZb.out.2 hgrow_ HOWb.out); have HBWb4 : Hid (Below w.heap.size wa4 wb4) := ((HBb2.out.mono HWZb.out).alloc (Nat.le_trans HWZb.out hzb2') _).grown hgrow_ (by simp; have := HWZb.out; omega) (fun _ hk => (HVb.out.lt _ hk).1); have hzb4 := hgrow_.size; have SSb4 := Lib.hid (And.intro ((HBWb4.out.cell (p := ⟨b, o + i, none⟩) hb1w).trans hsb.out.1) ((World.cell?_of_block (w := wa4) (a := ⟨b2, o2 + i, none⟩) (HSMb4.out b2 hlo2 hb2)).trans hsb.out.2)); clear hown_ hgrow_ hat_ hlt_))
        all_goals
          have OVc : Hid (OutM w.heap.size wb4 (.slice (some ⟨gb4, 0, none⟩) (i + 1) capb4) (W2.take (i + 1))) := by
            show OutM _ _ _ _
            rw [take_snoc' hlt2, HW2R.out]
            exact OutM.pushW (by rw [List.length_take]; omega) (by rw [show (plusR p y z (p - 1)).length = y.length from mkR_len _ _, HLY.out]) HVb.out HVRb.out HTb2.out HWZb.out HBb2.out HOb4.out HGb4.out
          have OUc : Hid (OutM w.heap.size wb4 (.slice (some ⟨ga4, 0, none⟩) (i + 1) capa4) (W1.take (i + 1))) := Lib.hid (OutM.kept2 ((OUb.out.below HBb2.out).below (balloc wb2 _)) (HVb2.out.alloc _) HGb4.out HD4.out)
          have HOc : Hid (∀ q, (Value.slice (some ⟨gb4, 0, none⟩) (i + 1) capb4).ownBlock = some q → q < w.heap.size + 2 ∨ w1.heap.size ≤ q) := Lib.hid (own_next2 HOWb.out HATb4.out (by have h2 := HBb2.out.size; have h3 := HSZb.out.2; omega))
          have HDc : Hid (∀ q, (Value.slice (some ⟨ga4, 0, none⟩) (i + 1) capa4).ownBlock = some q → (Value.slice (some ⟨gb4, 0, none⟩) (i + 1) capb4).ownBlock = some q → False) := Lib.hid (fun q h k => apart_next (fun q h k => HD4.out q k h) (fun q h => by have h1 := (HOa4.out.lt q h).2; have h2 := HBb2.out.size; omega) HATb4.out q k h)
          have hszc := Nat.le_trans HSZb.out.2 HBWb4.out.size
          clear r1_ r2_
          go_wp2
          go_roundw
          case rel => exact ⟨i + 1, by omega, by go_num, OUc.out, OVc.out, (HB.out.trans HBWa4.out).trans HBWb4.out, Same.trans (Same.trans HSM.out HSMa4.out) HSMb4.out, hszc, ⟨HO4.out, HOc.out, HDc.out⟩⟩
          case measure => simp [intOf]; omega
    · have hin : i = n := by omega
      subst hin
      have h8 := HOU.out
      have h9 := HOV.out
      rw [List.take_of_length_le (by rw [HL1.out]; exact Nat.le_refl _)] at h8
      rw [List.take_of_length_le (by rw [HL2.out]; exact Nat.le_refl _)] at h9
      obtain ⟨a8, c8, e8, hm8⟩ := h8.mat
      obtain ⟨a9, c9, e9, hm9⟩ := h9.mat
      rw [HL1.out] at e8
      rw [HL2.out] at e9
      subst e8 e9
      have HM8 := Lib.hid hm8
      have HM9 := Lib.hid hm9
      have HLW1 : Hid (Lst 1 p W1) := by show Lst _ _ _; rw [HE1.out]; exact cyM_lst HL.out 1
      have HLW2 : Hid (Lst 1 p W2) := by show Lst _ _ _; rw [HE2.out]; exact cyM_lst HL.out (p - 1)
      have HQ1 : Hid (W1.length = (rw' W1 0).length) := by show _ = _; rw [HE1.out]; exact cyM_sq HL.out 1
      have HQ2 : Hid (W2.length = (rw' W2 0).length) := by show _ = _; rw [HE2.out]; exact cyM_sq HL.out (p - 1)
      have hcy := cyC_two HL.out
      rw [← HE1.out] at hcy
      clear h8 h9 hm8 hm9 hbel hsm HOX
      rcases hcy with ⟨hd, hc⟩ | ⟨hd, hc⟩
      · have HV : Hid (cyV p m = [] ∧ (cyC p m == 0) = false) := ⟨if_neg (by rw [hc]; decide), by rw [hc]; rfl⟩
        have HD0 := Lib.hid hd
        clear hd hc
        go_wp2_with (go_at_call 62; ((with_reducible refine (detC p a8 W1 i c8 w.heap.size wr.heap.size wr HL1.out HLW1.out HQ1.out HM8.out (Nat.le_refl _)).mono ?_); rintro e w5 ⟨rfl, b_⟩; rw [HD0.out]; have HB5 := Lib.hid (bstepI HB.out hwz b_); clear b_))
        go_ret2
        exact ⟨none, 0, by rw [HV.out.1, HV.out.2]; rfl, by rw [HV.out.1]; exact .inl rfl, HB5.out⟩
      · have HV : Hid (cyV p m = mulM p (invM p W1) W2 ∧ (cyC p m == 0) = true) := ⟨by unfold cyV; rw [if_pos hc, HE1.out, HE2.out], by rw [hc]; rfl⟩
        obtain ⟨D, hD⟩ : ∃ d, d = detP p W1 := ⟨_, rfl⟩
        rw [← hD] at hd
        have hd1 : (D == 0) = false := by simpa using hd
        have HDE := Lib.hid hD
        have HIL : Hid ((invM p W1).length = i) := (invM_len _ _).trans HL1.out
        have HZL : Hid ((mulM p (invM p W1) W2).length = i) := by show _ = _; unfold mulM; rw [mk_len]; exact HIL.out
        clear hd hc hD
        go_wp2_with (first | (go_at_call 62; ((with_reducible refine (detC p a8 W1 i c8 w.heap.size wr.heap.size wr HL1.out HLW1.out HQ1.out HM8.out (Nat.le_refl _)).mono ?_); rintro e w5 ⟨rfl, b_⟩; rw [← HDE.out]; have HB5 := Lib.hid (bstepI HB.out hwz b_); have M85 := Lib.hid (HM8.out.below b_ (Nat.le_refl _)); have M95 := Lib.hid (HM9.out.below b_ (Nat.le_refl _)); have z5 := b_.size; clear b_)) | (go_at_call 64; ((with_reducible refine (invS p a8 W1 i c8 w.heap.size wr.heap.size w5 HL1.out HLW1.out HQ1.out M85.out z5).mono ?_); rintro e w6 ⟨r6, c6, rfl, o_, b_⟩; have O6 := Lib.hid o_; have HB6 := Lib.hid (bstepI HB5.out (Nat.le_trans hwz z5) b_); have M96 := Lib.hid (M95.out.below b_ z5); have z6 := Nat.le_trans z5 b_.size; clear b_ o_)) | (go_at_call 63; ((with_reducible refine (timS p r6 a9 (invM p W1) W2 i c6 c9 w5.heap.size w6.heap.size w.heap.size wr.heap.size w6 HIL.out HL2.out (by rw [invM_rl (by rw [HL1.out]; omega)]; exact HL1.out) (HQ2.out.symm.trans HL2.out) (invM_lst HLW1.out HQ1.out) HLW2.out O6.out M96.out (Nat.le_refl _) z6).mono ?_); rintro e w7 ⟨r7, c7, rfl, o_, b_⟩; rw [HZL.out]; have O7 := Lib.hid (o_.mono (Nat.le_trans hwz z6) (Nat.le_refl _)); have HB7 := Lib.hid (bstepI HB6.out (Nat.le_trans hwz z6) b_); clear b_ o_)))
        go_ret2
        exact ⟨r7, c7, by rw [HV.out.1, HV.out.2, HZL.out]; rfl, by rw [HV.out.1]; exact O7.out, HB7.out⟩

end Go.Proofs.YtkibkkdeaojjoabGreat
