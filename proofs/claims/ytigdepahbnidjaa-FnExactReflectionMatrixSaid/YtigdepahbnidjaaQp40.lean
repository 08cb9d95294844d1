/-
  The model's sandwiches and reflections, with the type of their block: contracts of the program and of the model.
  Conditions: the lists are nil or rows of known cells, of at most 1048576 numbers.
-/
import Derived.Test.YtigdepahbnidjaaQp39
import Derived.Test.YtigdepahbnidjaaQp31
import Derived.Test.YtigdepahbnidjaaQp30
import Derived.Test.YtigdepahbnidjaaQp22
import Derived.Deep.RegionHeld3
import Derived.Deep.DeepCutAuto
namespace Go.Proofs.Ytigdepahbnidjaa
open Go.RowKit
set_option linter.unusedVariables false

theorem TagR.low {lo lo' tp : Nat} {w : World} {a : Option Addr} {z : List Int} (h : TagR lo tp w a z) (hl : lo' ≤ lo) : TagR lo' tp w a z := h.block hl (Nat.le_refl _) (fun _ _ _ _ _ => rfl)
theorem l02Turn_m (a : Option Addr) (m : List (List Int)) (n ca lo tp : Nat) (w : World) (hnm : m.length = n) (hm : MatIn lo tp w a m) (ht : tp ≤ w.heap.size) (h0 : 0 < m.length) (hc : ∀ i, i < m.length → (rw' m i).length = (rw' m 0).length) (hn : m.length ≤ 1024) (hn2 : (rw' m 0).length ≤ 1024) :
    Calls Try.prog 92 #[.slice a n ca] w (NewM (trM m) w) := by
  subst hnm; exact l02Turn_any a m ca lo tp w hm ht h0 hc hn hn2
theorem plus_tg (p k : Int) (a b : Option Addr) (za zb : List Int) (ca cb lo tp lo' tp' : Nat) (w : World) (hp : prm p = true) (ha : RowIn lo tp w a za) (hb : RowIn lo' tp' w b zb) (ht : tp ≤ w.heap.size) (ht' : tp' ≤ w.heap.size) (hl : za.length ≤ zb.length) (hs : za.length ≤ 1048576) (hna : ∀ j, j < za.length → 0 ≤ za.getD j 0 ∧ za.getD j 0 < p) (hnb : ∀ j, j < zb.length → 0 ≤ zb.getD j 0 ∧ zb.getD j 0 < p) (k0 : 0 ≤ k) (k1 : k ≤ p) :
    Calls Try.prog 100 #[.int .i64 p, .slice a za.length ca, .slice b zb.length cb, .int .i64 k] w (fun e w' => ∃ r c, e = .returned (.slice r za.length c) ∧ TagR w.heap.size w'.heap.size w' r (plusR p za zb k) ∧ Below w.heap.size w w') :=
  (l02Plus_any p k a b za zb ca cb lo tp lo' tp' w hp ha hb ht ht' hl hs hna hnb k0 k1).mono fun _ _ ⟨r, c, e, o, b⟩ => ⟨r, c, by rw [e, plus_len], o, b⟩

set_option maxRecDepth 100000 in
set_option maxHeartbeats 3200000 in
theorem l04List_tag (pS : Int) (aS : Option Addr) (S : List Int) (cS : Nat) (az : Option Addr) (z : List Int) (cz loz tpz : Nat) (w : World) (h6 : S.length ≤ 6) (hz : RowIn loz tpz w az z) (tz : tpz ≤ w.heap.size) (lz : z.length = bl S) :
    Calls Try.prog 136 #[.agg #[.int .i64 pS, .slice aS S.length cS], .slice az z.length cz] w (NewR (lst2 S.length z) w) := by
  obtain ⟨i0, hi, hz0, hz1, hz2⟩ := info_parts info64
  have HZ := Lib.hid hz
  have HLZ := Lib.hid lz
  have HB0 := Lib.hid (below_alloc w (.cells #[.int .i64 pS, .slice aS S.length cS] 30))
  have k0 := nw0 w (.int .i64 pS) (.slice aS S.length cS) 30
  have k1 := nw1 w (.int .i64 pS) (.slice aS S.length cS) 30
  clear hz lz
  go_enter Try.func136, Try.ntmps136
  go_upto_region 1 with fail
  obtain ⟨wB, hw1⟩ : ∃ z, z = w.alloc (.cells #[.int .i64 pS, .slice aS S.length cS] 30) := ⟨_, rfl⟩
  rw [← hw1] at HB0 k0 k1 ⊢
  have hw0 : w.heap.size < wB.heap.size := by rw [hw1]; simp
  clear hw1
  have K0 := Lib.hid k0
  have K1 := Lib.hid k1
  clear k0 k1
  go_wp2
  go_loopw [5, 6] (fun u t wr => ∃ i : Nat, i ≤ S.length ∧ t = .int .i64 i ∧ OutR wB.heap.size wr u (lst2 i z) ∧ Below wB.heap.size wB wr) (fun _ t _ => S.length - (intOf t).toNat)
  case atStart => exact ⟨0, Nat.zero_le _, rfl, OutR.start wB _ _ (Nat.le_refl _) rfl, below_alloc wB _⟩
  case round =>
    obtain ⟨i, hi', rfl, ho, hbel⟩ := hrel
    have HO := Lib.hid ho
    have HB := Lib.hid hbel
    have hwz := hbel.size
    have hk0 := (hbel.cell (p := ⟨w.heap.size, 0, none⟩) hw0).trans K0.out
    have hk1 := (hbel.cell (p := ⟨w.heap.size, 1, none⟩) hw0).trans K1.out
    by_cases hlt : i < S.length
    · have hi1 : (i : Int) < (S.length : Int) := Int.ofNat_lt.2 hlt
      obtain ⟨q, hq⟩ : ∃ q, q = 2 ^ i := ⟨_, rfl⟩
      have hqn : q < z.length := by rw [hq, HLZ.out]; exact Nat.pow_lt_pow_right (by decide) hlt
      obtain ⟨bz, oz, haz, _, _, hcz⟩ := ((HZ.out.below HB0.out tz).below hbel (Nat.le_trans tz HB0.out.size)).num hqn
      subst haz
      have e1 : wrap64 ((2 : Int) ^ i) = (q : Int) := by rw [hq]; exact wrap_pow (by omega)
      have e2 : IntKind.i64.wrap ((2 : Int) ^ i) = (q : Int) := by rw [hq]; exact kwrap_pow4 (by omega)
      have hq1 : (q : Int) < (z.length : Int) := Int.ofNat_lt.2 hqn
      obtain ⟨Y, hY⟩ : ∃ y, y = z.getD q 0 := ⟨_, rfl⟩
      have HS1 : Hid (lst2 (i + 1) z = lst2 i z ++ [Y]) := by show _ = _; rw [hY, hq]; exact mkR_succ _ _
      rw [← hY] at hcz
      obtain ⟨X, hX⟩ : ∃ X, X = (lst2 i z).map (Value.int .i64) := ⟨_, rfl⟩
      have HX := Lib.hid hX
      have HO' : Hid (wr.ownsRow wB.heap.size 2 1 u5 i X) := by
        have := HO.out; unfold OutR at this; rw [show (lst2 i z).length = i from mkR_len _ _, ← hX] at this; exact this
      clear hX hq hY ho hbel
      go_wp2_with (at_builtin; refine wpList_append_lies _ rfl _ _ 22 rfl wB.heap.size 2 i0 (.int .i64 0) 1 8 Try.underlying22 hi hz0 hz1 hz2 rfl (by decide) u5 i X rfl (HO'.out.alloc _) ⟨wr.heap.size, 0, none⟩ 1 1 [.int .i64 Y] rfl rfl (World.news_of_block (cs := #[.int .i64 Y]) (t := 2) (fr := (0, 0)) (heap_alloc_new wr _)) (by simp [Value.oneCell']) (by omega) (by unfold maxLen; omega) (by omega) (by simp; omega) (wr.heap.size + 1) (by simp) ?_; intro gg cap w1 hown1 hgrow hat hlt1)
      go_roundw
      case rel => exact ⟨i + 1, by omega, by go_num, OutR.step HO'.out HX.out HS1.out hown1, (HB.out.alloc hwz _).grown hgrow (by simp; omega) (fun _ hk => (HO'.out.lt _ hk).1)⟩
      case measure => simp [intOf]; omega
    · have hin : i = S.length := by omega
      subst hin
      clear ho hbel
      go_wp2
      go_ret
      obtain ⟨r, c, hv, ht⟩ := HO.out.tag
      rw [hv]
      exact ⟨r, c, rfl, TagR.low ht HB0.out.size, HB0.out.trans (HB.out.mono HB0.out.size)⟩

set_option maxRecDepth 100000 in
set_option maxHeartbeats 6400000 in
theorem l07Sandwich_tag (pS : Int) (aS : Option Addr) (S : List Int) (cS loS tpS : Nat) (ax : Option Addr) (x : List Int) (cx lox tpx : Nat) (av : Option Addr) (v : List Int) (cv lov tpv : Nat) (w : World) (hs : isSp pS S = true) (hS : RowIn loS tpS w aS S) (tS : tpS ≤ w.heap.size) (hx : RowIn lox tpx w ax x) (tx : tpx ≤ w.heap.size) (mx : isMv pS S x = true) (hv : RowIn lov tpv w av v) (tv : tpv ≤ w.heap.size) (mv : isVec pS S.length v = true) (h0 : nrF pS S x ≠ 0) :
    Calls Try.prog 91 #[.agg #[.int .i64 pS, .slice aS S.length cS], .slice ax x.length cx, .slice av v.length cv] w (NewR (sdM pS S x v) w) := by
  have HI := Lib.hid hs
  have HS := Lib.hid hS
  have Hx := Lib.hid hx
  have HMx := Lib.hid mx
  have Hv := Lib.hid hv
  have h6 := (isSp_iff.1 hs).hi
  have hl1 := (isSp_iff.1 hs).lo
  have hpb := prm_bd (isSp_iff.1 hs).prime
  have hbl := bl_le h6
  have hb0 := bl_pos S
  have hx64 : x.length ≤ 64 := by rw [Mv.len mx]; exact hbl
  have HB0 := Lib.hid (below_alloc w (.cells #[.int .i64 pS, .slice aS S.length cS] 30))
  have k0 := nw0 w (.int .i64 pS) (.slice aS S.length cS) 30
  have k1 := nw1 w (.int .i64 pS) (.slice aS S.length cS) 30
  have HF0 := Lib.hid h0
  have HVV := Lib.hid mv
  have HLV := Lib.hid (isVec_iff.1 mv).len
  have HSD := Lib.hid (sd_model hs mx v)
  clear mv h0
  clear hs hS hx mx hv
  go_enter Try.func91, Try.ntmps91
  go_upto_region 1 with fail
  obtain ⟨w1, hw1⟩ : ∃ z, z = w.alloc (.cells #[.int .i64 pS, .slice aS S.length cS] 30) := ⟨_, rfl⟩
  rw [← hw1] at HB0 k0 k1 ⊢
  have hw0 : w.heap.size < w1.heap.size := by rw [hw1]; simp
  clear hw1
  have hs1 : Hid (w1.drew.cell? ⟨w.heap.size, 0, none⟩ = some (.int .i64 pS) ∧ w1.drew.cell? ⟨w.heap.size, 1, none⟩ = some (.slice aS S.length cS)) := ⟨k0, k1⟩
  have HBD : Hid (Below w.heap.size w w1.drew) := HB0.out.drew
  have hd0 : w.heap.size < w1.drew.heap.size := hw0
  go_region_held3 (fun w' => w'.cell? ⟨w.heap.size, 0, none⟩ = some (.int .i64 pS) ∧ w'.cell? ⟨w.heap.size, 1, none⟩ = some (.slice aS S.length cS)) (first | exact hs1.out | exact SSa.out | exact SSab.out | exact SSabc.out | exact SSabcd.out | exact SSabcde.out | exact SSabcdef.out | go_keep) (first | (go_at_call 133; (with_reducible refine (l04Inv7 pS aS S cS ax x cx lox tpx w1.drew HI.out (Hx.out.below HBD.out tx) (Nat.le_trans tx (HBD.out).size) HMx.out).mono ?_); rintro e wa ⟨ra, ka, rfl, o_, b_⟩; have SSa := Lib.hid (ss2 b_ hd0 hs1.out); have HBa := Lib.hid (below_step HBD.out (Nat.le_of_lt hd0) b_); have zz_ := b_.size; have hda := Nat.lt_of_lt_of_le hd0 zz_; have Ra_a := Lib.hid (o_.mono (Nat.le_of_lt hd0) (Nat.le_refl _)); clear b_ o_) | (go_at_call 134; (with_reducible refine (l04Vector_any pS aS S cS av v cv lov tpv wa h6 HLV.out (Hv.out.below HBa.out tv) (Nat.le_trans tv (HBa.out).size)).mono ?_); rintro e wab ⟨bb, rfl, l_, u_, o_, b_⟩; have SSab := Lib.hid (ss2 b_ hda SSa.out); have HBab := Lib.hid (below_step HBa.out (Nat.le_of_lt hda) b_); have zz_ := b_.size; have hdab := Nat.lt_of_lt_of_le hda zz_; have Ra_ab := Lib.hid ((Ra_a.out.below b_ (Nat.le_refl _)).mono (Nat.le_refl _) zz_); have lb := Nat.lt_of_lt_of_le hda l_; have ub_ab := u_; have Nb_ab := Lib.hid o_; have Rb_ab := Lib.hid ((o_.own (Nat.le_of_lt lb) u_).row); clear b_ o_) | (go_at_call 129; (with_reducible refine (l04Times_v pS aS S cS loS tpS ra (ivM pS x) x.length ka w.heap.size wab.heap.size bb w.heap.size wab.heap.size v wab (ivM_len _ _) HI.out (HS.out.below HBab.out tS) (Nat.le_trans tS (HBab.out).size) Ra_ab.out (Nat.le_refl _) (iv_mv HI.out HMx.out) Rb_ab.out (Nat.le_refl _) HVV.out).mono ?_); rintro e wabc ⟨rc, kc, rfl, o_, b_⟩; have SSabc := Lib.hid (ss2 b_ hdab SSab.out); have HBabc := Lib.hid (below_step HBab.out (Nat.le_of_lt hdab) b_); have zz_ := b_.size; have hdabc := Nat.lt_of_lt_of_le hdab zz_; have Ra_abc := Lib.hid ((Ra_ab.out.below b_ (Nat.le_refl _)).mono (Nat.le_refl _) zz_); have Rb_abc := Lib.hid ((Rb_ab.out.below b_ (Nat.le_refl _)).mono (Nat.le_refl _) zz_); have Nb_abc := Lib.hid (Nb_ab.out.stay (b_.block bb ub_ab)); have ub_abc := Nat.lt_of_lt_of_le ub_ab zz_; have Oc_abc := Lib.hid (OwnR.mono' o_ (Nat.le_of_lt hdab) (Nat.le_refl _)); have Rc_abc := Lib.hid (Oc_abc.out.row); clear b_ o_) | (go_at_call 137; (with_reducible refine (l07Inverse_any pS aS S cS loS tpS ax x cx lox tpx wabc HI.out (HS.out.below HBabc.out tS) (Nat.le_trans tS (HBabc.out).size) (Hx.out.below HBabc.out tx) (Nat.le_trans tx (HBabc.out).size) HMx.out HF0.out).mono ?_); rintro e wabcd ⟨rd, kd, rfl, o_, b_⟩; have SSabcd := Lib.hid (ss2 b_ hdabc SSabc.out); have HBabcd := Lib.hid (below_step HBabc.out (Nat.le_of_lt hdabc) b_); have zz_ := b_.size; have hdabcd := Nat.lt_of_lt_of_le hdabc zz_; have Ra_abcd := Lib.hid ((Ra_abc.out.below b_ (Nat.le_refl _)).mono (Nat.le_refl _) zz_); have Rb_abcd := Lib.hid ((Rb_abc.out.below b_ (Nat.le_refl _)).mono (Nat.le_refl _) zz_); have Nb_abcd := Lib.hid (Nb_abc.out.stay (b_.block bb ub_abc)); have ub_abcd := Nat.lt_of_lt_of_le ub_abc zz_; have Rc_abcd := Lib.hid ((Rc_abc.out.below b_ (Nat.le_refl _)).mono (Nat.le_refl _) zz_); have Rd_abcd := Lib.hid (o_.mono (Nat.le_of_lt hdabc) (Nat.le_refl _)); clear b_ o_) | (go_at_call 129; (with_reducible refine (l04Times_m pS aS S cS loS tpS rc (prodM pS S (ivM pS x) (vecM S v)) (prodM pS S (ivM pS x) (vecM S v)).length kc w.heap.size wabcd.heap.size rd (viM pS S x) x.length kd w.heap.size wabcd.heap.size wabcd rfl (viM_len _ _) HI.out (HS.out.below HBabcd.out tS) (Nat.le_trans tS (HBabcd.out).size) Rc_abcd.out (Nat.le_refl _) (prod_mv HI.out _ _) Rd_abcd.out (Nat.le_refl _) (vi_mv HI.out HMx.out)).mono ?_); rintro e wabcde ⟨re, ke, rfl, o_, b_⟩; have SSabcde := Lib.hid (ss2 b_ hdabcd SSabcd.out); have HBabcde := Lib.hid (below_step HBabcd.out (Nat.le_of_lt hdabcd) b_); have zz_ := b_.size; have hdabcde := Nat.lt_of_lt_of_le hdabcd zz_; have Ra_abcde := Lib.hid ((Ra_abcd.out.below b_ (Nat.le_refl _)).mono (Nat.le_refl _) zz_); have Rb_abcde := Lib.hid ((Rb_abcd.out.below b_ (Nat.le_refl _)).mono (Nat.le_refl _) zz_); have Nb_abcde := Lib.hid (Nb_abcd.out.stay (b_.block bb ub_abcd)); have ub_abcde := Nat.lt_of_lt_of_le ub_abcd zz_; have Rc_abcde := Lib.hid ((Rc_abcd.out.below b_ (Nat.le_refl _)).mono (Nat.le_refl _) zz_); have Rd_abcde := Lib.hid ((Rd_abcd.out.below b_ (Nat.le_refl _)).mono (Nat.le_refl _) zz_); have Oe_abcde := Lib.hid (OwnR.mono' o_ (Nat.le_of_lt hdabcd) (Nat.le_refl _)); have Re_abcde := Lib.hid (Oe_abcde.out.row); clear b_ o_) | (go_at_call 136; (with_reducible refine (l04List_tag pS aS S cS re (prodM pS S (prodM pS S (ivM pS x) (vecM S v)) (viM pS S x)) ke w.heap.size wabcde.heap.size wabcde h6 Re_abcde.out (Nat.le_refl _) (prodM_len _ _ _ _)).mono ?_); rintro e wabcdef ⟨rf, kf, rfl, o_, b_⟩; have SSabcdef := Lib.hid (ss2 b_ hdabcde SSabcde.out); have HBabcdef := Lib.hid (below_step HBabcde.out (Nat.le_of_lt hdabcde) b_); have zz_ := b_.size; have hdabcdef := Nat.lt_of_lt_of_le hdabcde zz_; have Ra_abcdef := Lib.hid ((Ra_abcde.out.below b_ (Nat.le_refl _)).mono (Nat.le_refl _) zz_); have Rb_abcdef := Lib.hid ((Rb_abcde.out.below b_ (Nat.le_refl _)).mono (Nat.le_refl _) zz_); have Nb_abcdef := Lib.hid (Nb_abcde.out.stay (b_.block bb ub_abcde)); have ub_abcdef := Nat.lt_of_lt_of_le ub_abcde zz_; have Rc_abcdef := Lib.hid ((Rc_abcde.out.below b_ (Nat.le_refl _)).mono (Nat.le_refl _) zz_); have Rd_abcdef := Lib.hid ((Rd_abcde.out.below b_ (Nat.le_refl _)).mono (Nat.le_refl _) zz_); have Re_abcdef := Lib.hid ((Re_abcde.out.below b_ (Nat.le_refl _)).mono (Nat.le_refl _) zz_); have Rf_abcdef := Lib.hid (TagR.low o_ (Nat.le_of_lt hdabcde)); clear b_ o_))
  go_wp2
  go_ret
  rw [← HSD.out]
  exact ⟨rf, kf, rfl, Rf_abcdef.out, HBabcdef.out⟩

set_option maxRecDepth 100000 in
set_option maxHeartbeats 6400000 in
theorem l07Reflect_tag (pS : Int) (aS : Option Addr) (S : List Int) (cS loS tpS : Nat) (au : Option Addr) (u : List Int) (cu lou tpu : Nat) (av : Option Addr) (v : List Int) (cv lov tpv : Nat) (w : World) (hs : isSp pS S = true) (hS : RowIn loS tpS w aS S) (tS : tpS ≤ w.heap.size) (hu : RowIn lou tpu w au u) (tu : tpu ≤ w.heap.size) (mu : isVec pS S.length u = true) (hv : RowIn lov tpv w av v) (tv : tpv ≤ w.heap.size) (mv : isVec pS S.length v = true) (h0 : pairN pS S u u ≠ 0) :
    Calls Try.prog 96 #[.agg #[.int .i64 pS, .slice aS S.length cS], .slice au u.length cu, .slice av v.length cv] w (NewR (rflM pS S u v) w) := by
  have HI := Lib.hid hs
  have HS := Lib.hid hS
  have Hu := Lib.hid hu
  have HVu := Lib.hid mu
  have Hv := Lib.hid hv
  have HVv := Lib.hid mv
  have hpb := prm_bd (isSp_iff.1 hs).prime
  have h6 := (isSp_iff.1 hs).hi
  have hvl : v.length = S.length := (isVec_iff.1 mv).len
  have hul : u.length = S.length := (isVec_iff.1 mu).len
  have hlen : v.length ≤ u.length := by omega
  have hv6 : v.length ≤ 6 := by omega
  have HNV : Hid (∀ j, j < v.length → 0 ≤ v.getD j 0 ∧ v.getD j 0 < pS) := fun j hj => (isVec_iff.1 mv).num (by omega)
  have HNU : Hid (∀ j, j < u.length → 0 ≤ u.getD j 0 ∧ u.getD j 0 < pS) := fun j hj => (isVec_iff.1 mu).num (by omega)
  obtain ⟨A, hA⟩ : ∃ a, a = pairN pS S u v := ⟨_, rfl⟩
  obtain ⟨N, hN⟩ : ∃ a, a = pairN pS S u u := ⟨_, rfl⟩
  have hAb : 0 ≤ A ∧ A < pS := by rw [hA]; exact pairN_bd7 (by omega)
  have hNb : 0 ≤ N ∧ N < pS := by rw [hN]; exact pairN_bd7 (by omega)
  have hN1 : 1 ≤ N := by rw [← hN] at h0; omega
  have hN2 : N < pS := hNb.2
  obtain ⟨I, hI⟩ : ∃ a, a = inv pS N := ⟨_, rfl⟩
  have hIb : 0 ≤ I ∧ I < pS := by rw [hI]; exact inv_bd (isSp_iff.1 hs).prime N
  have HAE := Lib.hid hA
  have HNE := Lib.hid hN
  have HIE := Lib.hid hI
  have hM : 0 ≤ 2 * A % pS ∧ 2 * A % pS < pS := ⟨Int.emod_nonneg _ (by omega), Int.emod_lt_of_pos _ (by omega)⟩
  obtain ⟨M, hMe⟩ : ∃ a, a = 2 * A % pS := ⟨_, rfl⟩
  rw [← hMe] at hM
  have hMI : 0 ≤ M * I ∧ M * I ≤ 169 := by
    have h1 : M * I ≤ 13 * 13 := Int.mul_le_mul (by omega) (by omega) hIb.1 (by omega)
    exact ⟨Int.mul_nonneg hM.1 hIb.1, h1⟩
  have hF : 0 ≤ M * I % pS ∧ M * I % pS < pS := ⟨Int.emod_nonneg _ (by omega), Int.emod_lt_of_pos _ (by omega)⟩
  obtain ⟨Q, hQ⟩ : ∃ a, a = M * I % pS := ⟨_, rfl⟩
  rw [← hQ] at hF
  have e1 : wrap64 (2 * A) = 2 * A := by unfold wrap64; omega
  have e1' : IntKind.i64.wrap (2 * A) = 2 * A := IntWalk.i64_in _ (by omega)
  have e2 : (2 * A).tmod pS = M := by rw [hMe]; exact Int.tmod_eq_emod_of_nonneg (by omega)
  have e2' : 2 * A % pS = M := hMe.symm
  have e3 : wrap64 (M * I) = M * I := by unfold wrap64; omega
  have e3' : IntKind.i64.wrap (M * I) = M * I := IntWalk.i64_in _ (by omega)
  have e4 : (M * I).tmod pS = Q := by rw [hQ]; exact Int.tmod_eq_emod_of_nonneg (by omega)
  have e4' : M * I % pS = Q := hQ.symm
  have e5 : wrap64 (pS - Q) = pS - Q := by unfold wrap64; omega
  have e5' : IntKind.i64.wrap (pS - Q) = pS - Q := IntWalk.i64_in _ (by omega)
  have e6 : (pS - Q).tmod pS = (pS - Q) % pS := Int.tmod_eq_emod_of_nonneg (by omega)
  have hp0 : ¬ pS = 0 := by omega
  have hp0' : (pS == 0) = false := by simpa using hp0
  obtain ⟨QQ, hQQ⟩ : ∃ a, a = (pS - Q) % pS := ⟨_, rfl⟩
  have e7 : (pS - Q) % pS = QQ := hQQ.symm
  have hq0 : 0 ≤ QQ := by rw [hQQ]; exact Int.emod_nonneg _ (by omega)
  have hq1 : QQ ≤ pS := by rw [hQQ]; exact Int.le_of_lt (Int.emod_lt_of_pos _ (by omega))
  have HRF : Hid (rflM pS S u v = plusR pS v u QQ) := by
    show _ = _
    unfold rflM
    rw [hQQ, hQ, hMe, hI, ← hA, ← hN, rf_model (by omega)]
  have HB0 := Lib.hid (below_alloc w (.cells #[.int .i64 pS, .slice aS S.length cS] 30))
  have k0 := nw0 w (.int .i64 pS) (.slice aS S.length cS) 30
  have k1 := nw1 w (.int .i64 pS) (.slice aS S.length cS) 30
  rw [← hQQ] at e6
  clear hs hS hu mu hv mv hA hN hI hMe hQ hQQ hvl hul h0
  go_enter Try.func96, Try.ntmps96
  go_upto_region 1 with fail
  obtain ⟨w1, hw1⟩ : ∃ z, z = w.alloc (.cells #[.int .i64 pS, .slice aS S.length cS] 30) := ⟨_, rfl⟩
  rw [← hw1] at HB0 k0 k1 ⊢
  have hw0 : w.heap.size < w1.heap.size := by rw [hw1]; simp
  clear hw1
  have hs1 : Hid (w1.drew.cell? ⟨w.heap.size, 0, none⟩ = some (.int .i64 pS) ∧ w1.drew.cell? ⟨w.heap.size, 1, none⟩ = some (.slice aS S.length cS)) := ⟨k0, k1⟩
  have HBD : Hid (Below w.heap.size w w1.drew) := HB0.out.drew
  have hd0 : w.heap.size < w1.drew.heap.size := hw0
  go_region_held3 (fun w' => w'.cell? ⟨w.heap.size, 0, none⟩ = some (.int .i64 pS) ∧ w'.cell? ⟨w.heap.size, 1, none⟩ = some (.slice aS S.length cS)) (first | exact hs1.out | exact SSa.out | exact SSab.out | exact SSabc.out | go_keep) (first | (go_at_call 57; (with_reducible refine (l03Pair_any pS aS S cS loS tpS au u cu lou tpu av v cv lov tpv w1.drew (HS.out.below HBD.out tS) (Nat.le_trans tS (HBD.out).size) (Hu.out.below HBD.out tu) (Nat.le_trans tu (HBD.out).size) (Hv.out.below HBD.out tv) (Nat.le_trans tv (HBD.out).size) HI.out HVu.out HVv.out).mono ?_); rintro e wa ⟨rfl, b_⟩; rw [← HAE.out]; have SSa := Lib.hid (ss2 b_ hd0 hs1.out); have HBa := Lib.hid (below_step HBD.out (Nat.le_of_lt hd0) b_); have zz_ := b_.size; have hda := Nat.lt_of_lt_of_le hd0 zz_; clear b_) | (go_at_call 57; (with_reducible refine (l03Pair_any pS aS S cS loS tpS au u cu lou tpu au u cu lou tpu wa (HS.out.below HBa.out tS) (Nat.le_trans tS (HBa.out).size) (Hu.out.below HBa.out tu) (Nat.le_trans tu (HBa.out).size) (Hu.out.below HBa.out tu) (Nat.le_trans tu (HBa.out).size) HI.out HVu.out HVu.out).mono ?_); rintro e wab ⟨rfl, b_⟩; rw [← HNE.out]; have SSab := Lib.hid (ss2 b_ hda SSa.out); have HBab := Lib.hid (below_step HBa.out (Nat.le_of_lt hda) b_); have zz_ := b_.size; have hdab := Nat.lt_of_lt_of_le hda zz_; clear b_) | (go_at_call 104; (with_reducible refine (l01Inv_low7 pS N wab (isSp_iff.1 HI.out).prime hN1 hN2).mono ?_); rintro e wabc ⟨rfl, b_⟩; rw [← HIE.out]; have SSabc := Lib.hid (ss2 b_ hdab SSab.out); have HBabc := Lib.hid (below_step HBab.out (Nat.le_of_lt hdab) b_); have zz_ := b_.size; have hdabc := Nat.lt_of_lt_of_le hdab zz_; clear b_))
  go_wp2
  have hs2 : Hid (wabc.drew.cell? ⟨w.heap.size, 0, none⟩ = some (.int .i64 pS) ∧ wabc.drew.cell? ⟨w.heap.size, 1, none⟩ = some (.slice aS S.length cS)) := SSabc.out
  have HBE : Hid (Below w.heap.size w wabc.drew) := HBabc.out.drew
  have hd2 : w.heap.size < wabc.drew.heap.size := hdabc
  go_region_held3 (fun w' => w'.cell? ⟨w.heap.size, 0, none⟩ = some (.int .i64 pS) ∧ w'.cell? ⟨w.heap.size, 1, none⟩ = some (.slice aS S.length cS)) (first | exact hs2.out | exact SSd.out | go_keep) (first | (go_at_call 100; (with_reducible refine (plus_tg pS QQ av au v u cv cu lov tpv lou tpu wabc.drew (isSp_iff.1 HI.out).prime (Hv.out.below HBE.out tv) (Hu.out.below HBE.out tu) (Nat.le_trans tv (HBE.out).size) (Nat.le_trans tu (HBE.out).size) hlen (by omega) HNV.out HNU.out hq0 hq1).mono ?_); rintro e wd ⟨rd, kd, rfl, o_, b_⟩; have SSd := Lib.hid (ss2 b_ hd2 hs2.out); have HBd := Lib.hid (below_step HBE.out (Nat.le_of_lt hd2) b_); have zz_ := b_.size; have hdd := Nat.lt_of_lt_of_le hd2 zz_; have Rd_d := Lib.hid (TagR.low o_ (Nat.le_of_lt hd2)); clear b_ o_))
  go_wp2
  go_ret
  rw [HRF.out]
  exact ⟨rd, kd, by rw [plus_len]; rfl, Rd_d.out, HBd.out⟩

end Go.Proofs.Ytigdepahbnidjaa
