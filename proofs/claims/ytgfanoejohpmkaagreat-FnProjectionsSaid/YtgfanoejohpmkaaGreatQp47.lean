/-
  Contracts and facts that the walk of the law rests on.
  Conditions: those that each theorem names.
-/
import Derived.Test.YtgfanoejohpmkaaGreatQp46
import Derived.Test.YtgfanoejohpmkaaGreatQp39
import Derived.Test.YtgfanoejohpmkaaGreatQp11
import Derived.Test.YtgfanoejohpmkaaGreatQp45
import Derived.Test.YtgfanoejohpmkaaGreatQp38
import Derived.Test.YtgfanoejohpmkaaGreatQp25
import Derived.Test.YtgfanoejohpmkaaGreatQp5
namespace Go.Proofs.YtgfanoejohpmkaaGreat
open Go.RowKit
set_option linter.unusedVariables false
theorem bl_hom {p : Int} {S x : List Int} (hs : isSp p S = true) (hx : isMv p S x = true) (hb : isBl p S x = true) {c : Nat} (hc : c < bl S) (hne : x.getD c 0 ≠ 0) : gr c = (subM p S x).length := by
 have h6 := (isSp_iff.1 hs).hi
 have hl := Mv.len hx
 unfold isBl at hb
 rw [decide_eq_true_eq, grades_one h6 hl] at hb
 exact hb.2 _ (hasGr_iff.2 ⟨c, by rw [hl]; exact hc, rfl, hne⟩)
theorem lc_hom {p : Int} {S v y : List Int} (h6 : S.length ≤ 6) (hv : v.length = S.length) {d k : Nat} (h : ∀ c, c < bl S → y.getD c 0 ≠ 0 → gr c + d = k) {c : Nat} (hc : c < bl S) (hne : (kM p S 1 (vecM S v) y).getD c 0 ≠ 0) : gr c + (d + 1) = k := by
 have hbl := bl_le h6
 refine Classical.byContradiction fun hg => hne ?_
 rw [kM_at _ _ _ _ _ hc, vec_lc p h6 y hv hc]
 unfold ioT
 rw [sm_congr (g := fun _ => 0) fun q hq => ?_, sm_zero, Int.zero_emod]
 unfold io
 split
 · rename_i hb
   have hx : c ^^^ 2 ^ q < bl S := Nat.xor_lt_two_pow hc (Nat.pow_lt_pow_right (by decide) hq)
   by_cases e : y.getD (c ^^^ 2 ^ q) 0 = 0
   · show _ * (_ * y.getD (c ^^^ 2 ^ q) 0) = 0
     rw [e, Int.mul_zero, Int.mul_zero]
   · have h1 := h _ hx e
     have h2 := di_gr c (by omega) q (by omega) hb
     omega
 · exact Int.mul_zero _
theorem ann_lw {p : Int} {S u x : List Int} (h6 : S.length ≤ 6) (hu : u.length = S.length) (ha : Ann p S u x) {j : Nat} (hj : j < bl S) : lw (fun i => u.getD i 0) (fun j => x.getD j 0) j % p = 0 := by
 have h := ha j hj
 rw [kM_at _ _ _ _ _ hj, vec_wg p h6 _ hu hj] at h
 exact h
theorem anti {p : Int} {S v b x : List Int} (h6 : S.length ≤ 6) (hv : v.length = S.length) (hb : b.length = S.length) (ha : Ann p S b x) {c : Nat} (hc : c < bl S) : (kM p S 0 (vecM S b) (kM p S 1 (vecM S v) x)).getD c 0 = pairN p S v b * x.getD c 0 % p := by
 have hbl := bl_le h6
 have h1 := leibT (fun q => v.getD q 0 * S.getD q 0) (fun i => b.getD i 0) (fun j => x.getD j 0) (show c < 64 by omega) S.length h6
 have h2 : ioT (fun q => v.getD q 0 * S.getD q 0) S.length (lw (fun i => b.getD i 0) fun j => x.getD j 0) c % p = 0 := by
  rw [ioT_mod _ (y' := fun _ => 0) (fun j hj => by rw [ann_lw h6 hb ha hj, Int.zero_emod]) hc, ioT_zero, Int.zero_emod]
 have h3 : (sm S.length fun q => v.getD q 0 * S.getD q 0 * b.getD q 0) = psum S v b S.length := by
  unfold psum
  exact sm_congr fun q _ => by ac_rfl
 rw [kM_at _ _ _ _ _ hc, vec_wg p h6 _ hb hc, lw_mod h6 _ (y' := ioT (fun q => v.getD q 0 * S.getD q 0) S.length fun j => x.getD j 0) (fun j hj => by rw [kM_at _ _ _ _ _ hj, vec_lc p h6 x hv hj, Int.emod_emod]) hc]
 unfold pairN
 rw [em_l, ← h3, ← h1, Int.add_emod, h2, Int.zero_add, Int.emod_emod]
theorem lw_at0 (v y : Nat → Int) : lw v y 0 = 0 := by
 unfold lw
 rw [sm_congr (g := fun _ => 0) fun i _ => if_neg (by rw [Nat.zero_div]; decide), sm_zero]
theorem io_at0 (q : Nat) (y : Nat → Int) : io q y 0 = y (2 ^ q) := by
 unfold io sl
 rw [if_pos (by rw [Nat.zero_div]), Nat.zero_mod, Nat.zero_xor]
 rw [show eps (gr 0) = 1 from by decide, Int.one_mul]
theorem scal_vec {p : Int} {S b y : List Int} (h6 : S.length ≤ 6) (hb : b.length = S.length) : prodF p S (vecM S b) y 0 = (sm S.length fun q => b.getD q 0 * S.getD q 0 * y.getD (2 ^ q) 0) % p := by
 rw [← prodM_at _ _ _ _ (bl_pos S), prod_split fun a ha h => by unfold vecM at h; rw [mkR_at _ ha] at h; exact vecF_pow _ h]
 unfold plusR
 rw [mkR_at _ (by rw [kM_len]; exact bl_pos S), kM_at _ _ _ _ _ (bl_pos S), kM_at _ _ _ _ _ (bl_pos S), vec_lc p h6 y hb (bl_pos S), vec_wg p h6 y hb (bl_pos S), lw_at0, Int.zero_emod, Int.mul_zero, Int.add_zero, Int.emod_emod]
 unfold ioT
 congr 1
 exact sm_congr fun q _ => by rw [io_at0]
theorem ins_pair {p : Int} {S x v b : List Int} (hs : isSp p S = true) (hx : isMv p S x = true) (hbl : isBl p S x = true) (hv : isVec p S.length v = true) (hb : isVec p S.length b = true) (ha : Ann p S b x) : (sm S.length fun q => b.getD q 0 * S.getD q 0 * (insM p S x v).getD (2 ^ q) 0) % p = pairN p S v b * sqX p S x % p := by
 have h6 := (isSp_iff.1 hs).hi
 have hvl := (isVec_iff.1 hv).len
 have hbl' := (isVec_iff.1 hb).len
 rw [← scal_vec h6 hbl', ← prodM_at _ _ _ _ (bl_pos S)]
 unfold insM
 rw [← prodM_assoc, prodM_at _ _ _ _ (bl_pos S), prod_split fun a ha h => by unfold vecM at h; rw [mkR_at _ ha] at h; exact vecF_pow _ h]
 unfold sqX prodF gpz
 rw [em_r, ← sm_mul]
 refine sm_congr_p fun a ha' => ?_
 have haS : a < bl S := ha'
 rw [Nat.xor_zero]
 show (plusR p (kM p S 1 (vecM S b) (lcM p S (vecM S v) x)) (kM p S 0 (vecM S b) (lcM p S (vecM S v) x)) 1).getD a 0 * fz S a a S.length * x.getD a 0 % p = pairN p S v b * (x.getD a 0 * fz S a a S.length * x.getD a 0) % p
 by_cases e : x.getD a 0 = 0
 · rw [e, Int.mul_zero, Int.mul_zero, Int.mul_zero]
 · have hg := bl_hom hs hx hbl haS e
   have hL : (kM p S 1 (vecM S b) (lcM p S (vecM S v) x)).getD a 0 = 0 := by
    refine Classical.byContradiction fun hne => ?_
    have h1 := lc_hom (d := 1) (k := (subM p S x).length) h6 hbl' (fun c hc hn => lc_hom (d := 0) h6 hvl (fun c hc hn => bl_hom hs hx hbl hc hn) hc hn) haS hne
    omega
   have hW : (kM p S 0 (vecM S b) (lcM p S (vecM S v) x)).getD a 0 = pairN p S v b * x.getD a 0 % p := anti h6 hvl hbl' ha haS
   unfold plusR
   rw [mkR_at _ (by rw [kM_len]; exact haS), hL, hW, Int.one_mul, Int.zero_add, Int.emod_emod, Int.mul_assoc, em_l]
   congr 1
   ac_rfl
theorem prj_at (p : Int) (S x v : List Int) {i : Nat} (hi : i < v.length) : (prjM p S x v).getD i 0 = prjF p S x v i := mkR_at _ hi
theorem prj_vec {p : Int} {S x v : List Int} (hp : 0 < p) (hv : v.length = S.length) : isVec p S.length (prjM p S x v) = true := by
 refine isVec_iff.2 ⟨by rw [prjM_len, hv], ?_⟩
 rw [List.all_eq_true]
 intro y hy
 obtain ⟨j, hj, rfl⟩ := List.getElem_of_mem hy
 rw [← getD_at hj]
 rw [prjM_len] at hj
 rw [prj_at _ _ _ _ hj]
 exact inr_iff.2 (prjF_bd hp _ _ _ _)
theorem sm_scale {p k : Int} {n : Nat} (f g : Nat → Int) : (sm n fun i => f i * (g i * k % p)) % p = (sm n fun i => f i * g i) * k % p := by
 rw [Int.mul_comm, ← sm_mul]
 refine sm_congr_p fun i _ => ?_
 rw [em_r]
 congr 1
 ac_rfl
theorem prj_pair {p : Int} {S x v b : List Int} (hs : isSp p S = true) (hx : isMv p S x = true) (hbl : isBl p S x = true) (hq : sqX p S x ≠ 0) (hv : isVec p S.length v = true) (hb : isVec p S.length b = true) (ha : Ann p S b x) : pairN p S (prjM p S x v) b = pairN p S v b := by
 have hp := (isSp_iff.1 hs).prime
 have hb2 := prm_bd hp
 have hvl := (isVec_iff.1 hv).len
 have hQ := sqX_bd (p := p) (by omega) S x
 have hN := pairN_bd (p := p) (by omega) S v b
 have h1 := ins_pair hs hx hbl hv hb ha
 have e : psum S (prjM p S x v) b S.length = sm S.length fun q => (b.getD q 0 * S.getD q 0) * ((insM p S x v).getD (2 ^ q) 0 * inv p (sqX p S x) % p) := by
  unfold psum
  refine sm_congr fun q hq' => ?_
  rw [prj_at _ _ _ _ (by rw [hvl]; exact hq')]
  unfold prjF
  ac_rfl
 show psum S (prjM p S x v) b S.length % p = _
 rw [e, sm_scale, Int.mul_emod, h1, ← Int.mul_emod, Int.mul_assoc, ← em_r, inv_mul hp (by omega) hQ.2, Int.mul_one, Int.emod_eq_of_lt hN.1 hN.2]
def thF (x : List Int) (c i : Nat) : Int := if c / 2 ^ i % 2 = 1 then sl i (c ^^^ 2 ^ i) * x.getD (c ^^^ 2 ^ i) 0 else 0
theorem lw_th {n : Nat} (hn : n ≤ 6) (u : List Int) (x : List Int) {c : Nat} (hc : c < 2 ^ n) : lw (fun i => u.getD i 0) (fun j => x.getD j 0) c = sm n fun i => thF x c i * u.getD i 0 := by
 rw [lw_short hn _ _ hc]
 refine sm_congr fun i _ => ?_
 unfold thF
 split
 · ac_rfl
 · rw [Int.zero_mul]
theorem ann_form {p : Int} {S u x : List Int} (h6 : S.length ≤ 6) (hu : u.length = S.length) : Ann p S u x ↔ ∀ c, c < bl S → (sm S.length fun i => thF x c i * u.getD i 0) % p = 0 := by
 have e : ∀ c, c < bl S → (kM p S 0 (vecM S u) x).getD c 0 = (sm S.length fun i => thF x c i * u.getD i 0) % p := fun c hc => by
  rw [kM_at _ _ _ _ _ hc, vec_wg p h6 _ hu hc, lw_th h6 _ _ hc]
 exact ⟨fun h c hc => by rw [← e c hc]; exact h c hc, fun h c hc => by rw [e c hc]; exact h c hc⟩
theorem bit_two : ∀ a, a < 64 → ∀ i, i < 6 → a / 2 ^ i % 2 = 1 → gr (a ^^^ 2 ^ i) + 1 = gr a := by decide +kernel
theorem sign_up : ∀ a, a < 64 → ∀ i, i < 6 → a / 2 ^ i % 2 = 0 → eps (gr (a / 2 ^ (i + 1))) = sl i a * eps (gr a) := by decide +kernel
theorem fz_next {S : List Int} {a i : Nat} (h6 : S.length ≤ 6) (ha : a < 64) (hi : i < S.length) (hb : a / 2 ^ i % 2 = 0) : fz S a (a ^^^ 2 ^ i) S.length = sl i a * (eps (gr a) * fz S a a S.length) := by
 have h1 := fz_coc S a (2 ^ i) a S.length
 have h2 := fz_coc S (2 ^ i) a a S.length
 have h3 := fz_sl S ha hi h6 hb
 have h4 : fz S a (2 ^ i) S.length = sl i a * eps (gr a) := by rw [fz_pow S hb, if_pos hi, sign_up a ha i (by omega) hb]
 have h5 := sl_sq i a
 rw [Nat.xor_self, fz_one, Int.one_mul, h3, Nat.xor_comm (2 ^ i) a] at h2
 rw [h3, h4, Nat.xor_comm (2 ^ i) a] at h1
 have h6' : fz S (a ^^^ 2 ^ i) a S.length = sl i a * fz S a a S.length := by
  rw [← h2, ← Int.mul_assoc, h5, Int.one_mul]
 rw [h6'] at h1
 have h7 : fz S a (a ^^^ 2 ^ i) S.length = fz S a (a ^^^ 2 ^ i) S.length * sl i a * sl i a := by rw [Int.mul_assoc, h5, Int.mul_one]
 rw [h7, ← h1]
 rw [show sl i a * eps (gr a) * (sl i a * fz S a a S.length) * sl i a = (sl i a * sl i a) * (sl i a * (eps (gr a) * fz S a a S.length)) by ac_rfl, h5, Int.one_mul]
theorem prj_in {p : Int} {S x v : List Int} (hs : isSp p S = true) (hx : isMv p S x = true) (hbl : isBl p S x = true) (hv : isVec p S.length v = true) : Ann p S (prjM p S x v) x := by
 have h6 := (isSp_iff.1 hs).hi
 have hb6 := bl_le h6
 have hvl := (isVec_iff.1 hv).len
 refine (ann_form h6 (by rw [prjM_len, hvl])).2 fun c hc => ?_
 have e : (sm S.length fun i => thF x c i * (prjM p S x v).getD i 0) = sm S.length fun i => thF x c i * ((insM p S x v).getD (2 ^ i) 0 * inv p (sqX p S x) % p) := sm_congr fun i hi => by
  rw [prj_at _ _ _ _ (by rw [hvl]; exact hi)]; rfl
 rw [e, sm_scale, Int.mul_emod]
 have core : (sm S.length fun i => thF x c i * (insM p S x v).getD (2 ^ i) 0) % p = 0 := by
  have h0 : ∀ a, a < bl S → ioT (thF x c) S.length (fun j => x.getD j 0) a % p = 0 := fun a ha => ioT_bl hs hx hbl (thF x c) (fun j hj => (ann_form h6 (isVec_iff.1 (sub_vec hs j hj)).len).1 (sub_ann hs j hj) c hc) ha
  obtain ⟨A, hA⟩ : ∃ A, A = lcM p S (vecM S v) x := ⟨_, rfl⟩
  have hAg : ∀ a, a < bl S → A.getD a 0 ≠ 0 → gr a + 1 = (subM p S x).length := fun a ha hne => by
   rw [hA] at hne
   exact lc_hom (d := 0) h6 hvl (fun c hc hn => bl_hom hs hx hbl hc hn) ha hne
  have e1 : (sm S.length fun i => thF x c i * (insM p S x v).getD (2 ^ i) 0) % p = (sm S.length fun i => sm (bl S) fun a => thF x c i * (A.getD a 0 * fz S a (a ^^^ 2 ^ i) S.length * x.getD (a ^^^ 2 ^ i) 0)) % p := by
   refine sm_congr_p fun i hi => ?_
   unfold insM
   rw [← hA, prodM_at _ _ _ _ (show 2 ^ i < bl S from Nat.pow_lt_pow_right (by decide) hi), sm_mul]
   unfold prodF gpz
   rw [em_r]
   rfl
  rw [e1, sm_swap]
  have e2 : ∀ a, a < bl S → (sm S.length fun i => thF x c i * (A.getD a 0 * fz S a (a ^^^ 2 ^ i) S.length * x.getD (a ^^^ 2 ^ i) 0)) % p = 0 := fun a ha => by
   by_cases hz : A.getD a 0 = 0
   · rw [sm_congr (g := fun _ => 0) fun i _ => by rw [hz, Int.zero_mul, Int.zero_mul, Int.mul_zero], sm_zero, Int.zero_emod]
   · have hg := hAg a ha hz
     have e3 : (sm S.length fun i => thF x c i * (A.getD a 0 * fz S a (a ^^^ 2 ^ i) S.length * x.getD (a ^^^ 2 ^ i) 0)) = (A.getD a 0 * (eps (gr a) * fz S a a S.length)) * ioT (thF x c) S.length (fun j => x.getD j 0) a := by
      unfold ioT
      rw [← sm_mul]
      refine sm_congr fun i hi => ?_
      unfold io
      have hx2 : a ^^^ 2 ^ i < bl S := Nat.xor_lt_two_pow ha (Nat.pow_lt_pow_right (by decide) hi)
      by_cases hb : a / 2 ^ i % 2 = 0
      · rw [if_pos hb, fz_next h6 (by omega) hi hb]
        show thF x c i * (A.getD a 0 * (sl i a * (eps (gr a) * fz S a a S.length)) * x.getD (a ^^^ 2 ^ i) 0) = A.getD a 0 * (eps (gr a) * fz S a a S.length) * (thF x c i * (sl i a * x.getD (a ^^^ 2 ^ i) 0))
        ac_rfl
      · have h1 := bit_two a (by omega) i (by omega) (by omega)
        have hx0 : x.getD (a ^^^ 2 ^ i) 0 = 0 := by
         refine Classical.byContradiction fun hne => ?_
         have := bl_hom hs hx hbl hx2 hne
         omega
        rw [if_neg hb, hx0]; simp only [Int.mul_zero]
     rw [e3, Int.mul_emod, h0 a ha, Int.mul_zero, Int.zero_emod]
  have e4 : (sm (bl S) fun a => sm S.length fun i => thF x c i * (A.getD a 0 * fz S a (a ^^^ 2 ^ i) S.length * x.getD (a ^^^ 2 ^ i) 0)) % p = (sm (bl S) fun _ => 0) % p := sm_congr_p fun a ha => by rw [e2 a ha, Int.zero_emod]
  rw [e4, sm_zero, Int.zero_emod]
 rw [core, Int.zero_mul, Int.zero_emod]
theorem rev_two : ∀ c, c < 64 → gr c = 2 → c_reversal (gr c) % 2 = 1 := by decide +kernel
theorem rev_hom {p : Int} {S x : List Int} {k : Nat} (hx : isMv p S x = true) (hp : 1 < p) (h : ∀ c, c < bl S → x.getD c 0 ≠ 0 → gr c = k) : ∃ e, e * e % p = 1 ∧ revM p x = sclV p x e := by
 by_cases hk : c_reversal k % 2 = 1
 · refine ⟨p - 1, by rw [show (p - 1) * (p - 1) = 1 + p * (p - 2) by have h1 := Int.mul_sub p p 2; have h2 := Int.sub_mul p 1 (p - 1); have h3 := Int.mul_sub p p 1; omega, Int.add_mul_emod_self_left, Int.emod_eq_of_lt (by omega) hp], ?_⟩
   refine row_ext (by rw [revM_len, sclV_len]) fun c hc => ?_
   rw [revM_len] at hc
   unfold revM sclV
   rw [mkR_at _ hc, mkR_at _ hc]
   unfold sgF
   by_cases h0 : x.getD c 0 = 0
   · rw [h0, Int.zero_mul, Int.zero_emod, Int.sub_zero, Int.emod_self, ite_self]
   · rw [h c (by rw [← Mv.len hx]; exact hc) h0, if_pos hk, show x.getD c 0 * (p - 1) = (p - x.getD c 0) + p * (x.getD c 0 - 1) by rw [Int.mul_sub, Int.mul_sub, Int.mul_comm p]; omega, Int.add_mul_emod_self_left]
 · refine ⟨1, by rw [Int.one_mul, Int.emod_eq_of_lt (by omega) hp], ?_⟩
   refine row_ext (by rw [revM_len, sclV_len]) fun c hc => ?_
   rw [revM_len] at hc
   have hn := Mv.num hx c hc
   unfold revM sclV
   rw [mkR_at _ hc, mkR_at _ hc, Int.mul_one, Int.emod_eq_of_lt hn.1 hn.2]
   unfold sgF
   by_cases h0 : x.getD c 0 = 0
   · rw [h0, Int.sub_zero, Int.emod_self, ite_self]
   · rw [h c (by rw [← Mv.len hx]; exact hc) h0, if_neg hk]
theorem sq_two {p : Int} {S x : List Int} {k : Nat} (hs : isSp p S = true) (hx : isMv p S x = true) (h : ∀ c, c < bl S → x.getD c 0 ≠ 0 → gr c = k) {c : Nat} (hc : c < bl S) (hg : gr c = 2) : (prodM p S x x).getD c 0 = 0 := by
 have h6 := (isSp_iff.1 hs).hi
 have hb6 := bl_le h6
 have hp := (isSp_iff.1 hs).prime
 have hpb := prm_bd hp
 obtain ⟨e, he, hr⟩ := rev_hom hx (by omega) h
 have hm := prod_mv hs x x
 have h1 : prodM p S (revM p x) (revM p x) = revM p (prodM p S x x) := rev_prod (by omega) h6 (Mv.len hx) (Mv.len hx) (Mv.num hx) (Mv.num hx)
 have h2 : revM p (prodM p S x x) = prodM p S x x := by
  rw [← h1, hr, prod_scl _ _ _ _ _ (Mv.len hx), prod_scl_l _ _ _ _ _ (Mv.len hx), scl_scl, he, scl_one (Mv.num hm)]
 have h3 : (revM p (prodM p S x x)).getD c 0 = (p - (prodM p S x x).getD c 0) % p := by
  unfold revM
  rw [mkR_at _ (by rw [prodM_len]; exact hc)]
  unfold sgF
  rw [if_pos (rev_two c (by omega) hg)]
 rw [h2] at h3
 have hn := Mv.num hm c (by rw [prodM_len]; exact hc)
 exact half_zero (prm_odd hp) hn.1 hn.2 h3.symm
theorem two_bits : ∀ i, i < 6 → ∀ q, q < 6 → q ≠ i → gr (2 ^ i ^^^ 2 ^ q) = 2 := by decide +kernel
theorem sl_zero (i : Nat) : sl i 0 = 1 := by
 unfold sl
 rw [Nat.zero_mod]; decide
theorem nd {p : Int} {S x t : List Int} (hs : isSp p S = true) (hx : isMv p S x = true) (hbl : isBl p S x = true) (hq : sqX p S x ≠ 0) (ht : isVec p S.length t = true) (ha : Ann p S t x) (ho : ∀ j, j < (subM p S x).length → pairN p S t (rw' (subM p S x) j) = 0) : ∀ i, i < S.length → t.getD i 0 = 0 := fun i hi => by
 have h6 := (isSp_iff.1 hs).hi
 have hb6 := bl_le h6
 have hp := (isSp_iff.1 hs).prime
 have hpb := prm_bd hp
 have htl := (isVec_iff.1 ht).len
 have hQ := sqX_bd (p := p) (by omega) S x
 have hi2 : 2 ^ i < bl S := Nat.pow_lt_pow_right (by decide) hi
 have h1 : ∀ c, c < bl S → kF p S 1 (vecM S t) x c = 0 := fun c hc => by
  rw [vec_lc p h6 x htl hc]
  refine ioT_bl hs hx hbl _ (fun j hj => ?_) hc
  have h0 := ho j hj
  unfold pairN psum at h0
  refine Eq.trans ?_ h0
  congr 1
  exact sm_congr fun q _ => by ac_rfl
 have h2 : ∀ c, c < bl S → (prodM p S (vecM S t) x).getD c 0 = 0 := fun c hc => by
  rw [prod_split fun a ha h => by unfold vecM at h; rw [mkR_at _ ha] at h; exact vecF_pow _ h]
  unfold plusR
  rw [mkR_at _ (by rw [kM_len]; exact hc), ha c hc, kM_at _ _ _ _ _ hc, h1 c hc, Int.mul_zero, Int.add_zero, Int.zero_emod]
 have h3 : (prodM p S (prodM p S (vecM S t) x) x).getD (2 ^ i) 0 = 0 := by
  rw [prodM_at _ _ _ _ hi2]
  unfold prodF gpz
  rw [sm_congr (g := fun _ => 0) fun a ha => by
   show (prodM p S (vecM S t) x).getD a 0 * _ * _ = 0
   rw [h2 a ha, Int.zero_mul, Int.zero_mul], sm_zero, Int.zero_emod]
 rw [prodM_assoc, prod_split fun a ha h => by unfold vecM at h; rw [mkR_at _ ha] at h; exact vecF_pow _ h] at h3
 unfold plusR at h3
 rw [mkR_at _ (by rw [kM_len]; exact hi2), kM_at _ _ _ _ _ hi2, kM_at _ _ _ _ _ hi2, vec_lc p h6 _ htl hi2, vec_wg p h6 _ htl hi2] at h3
 have h4 : ioT (fun q => t.getD q 0 * S.getD q 0) S.length (fun j => (prodM p S x x).getD j 0) (2 ^ i) = 0 := by
  unfold ioT
  rw [sm_congr (g := fun _ => 0) fun q hq' => ?_, sm_zero]
  unfold io
  split
  · rename_i hb
    have hne : q ≠ i := fun e => by rw [e, pow_bit, if_pos rfl] at hb; cases hb
    show _ * (_ * (prodM p S x x).getD (2 ^ i ^^^ 2 ^ q) 0) = 0
    rw [sq_two hs hx (fun c hc hn => bl_hom hs hx hbl hc hn) (Nat.xor_lt_two_pow hi2 (Nat.pow_lt_pow_right (by decide) hq')) (two_bits i (by omega) q (by omega) hne), Int.mul_zero, Int.mul_zero]
  · exact Int.mul_zero _
 have h5 : lw (fun i => t.getD i 0) (fun j => (prodM p S x x).getD j 0) (2 ^ i) = t.getD i 0 * sqX p S x := by
  rw [lw_short h6 _ _ hi2, sm_congr (g := fun j => if j = i then t.getD i 0 * sqX p S x else 0) fun j _ => ?_, sm_single, if_pos hi]
  rw [pow_bit]
  by_cases e : i = j
  · subst e
    rw [if_pos rfl, if_pos rfl, if_pos rfl, Nat.xor_self, sl_zero, Int.mul_one, prodM_at _ _ _ _ (bl_pos S)]; rfl
  · rw [if_neg e, if_neg (by decide), if_neg (fun h => e h.symm)]
 rw [h4, h5, Int.zero_emod, Int.zero_add, Int.one_mul, Int.emod_emod] at h3
 have hn := (isVec_iff.1 ht).num hi
 refine Classical.byContradiction fun hne => no_null hp hn.1 hn.2 hQ.1 hQ.2 hne hq h3
theorem codeI_zero {p : Int} {S x v : List Int} (h : codeI p S x v = 0) : isSp p S = true ∧ isMv p S x = true ∧ isBl p S x = true ∧ isVec p S.length v = true ∧ sqX p S x ≠ 0 ∧ codeB p S [x] = 0 := by
 unfold codeI at h
 split at h
 · rename_i h0
   obtain ⟨h1, h2⟩ := codeBV_zero h0
   obtain ⟨hs, hx, hb⟩ := codeB_one h2
   split at h
   · cases h
   · rename_i hq; exact ⟨hs, hx, hb, codeVs_vec h1, hq, h2⟩
 · rename_i h0; exact absurd h h0
theorem codeBV_ok {p : Int} {S x v : List Int} (hs : isSp p S = true) (hB : codeB p S [x] = 0) (hv : isVec p S.length v = true) : codeBV p S x v = 0 := by
 unfold codeBV
 rw [if_pos (codeVs_ok hs (by rw [mv_all1]; exact hv)), hB]
theorem codeI_ok {p : Int} {S x v : List Int} (hs : isSp p S = true) (hB : codeB p S [x] = 0) (hq : sqX p S x ≠ 0) (hv : isVec p S.length v = true) : codeI p S x v = 0 := by
 unfold codeI
 rw [if_pos (codeBV_ok hs hB hv), if_neg hq]
def imM (p : Int) (S x v : List Int) : List Int := plusR p (sclR p (prjM p S x v) 2) v (p - 1)
def rsM (p : Int) (S x v : List Int) : List Int := plusR p v (prjM p S x v) (p - 1)
theorem splP_ok {p : Int} {S x v : List Int} (h : codeI p S x v = 0) : splPV p S x v = prjM p S x v := by unfold splPV; rw [if_pos h]; rfl
theorem splR_ok {p : Int} {S x v : List Int} (h : codeI p S x v = 0) : splRV p S x v = rsM p S x v := by unfold splRV rsM; rw [if_pos h, rej_eq]
theorem splF_ok {p : Int} {S x v : List Int} (h : codeI p S x v = 0) : splFV p S x v = imM p S x v := by unfold splFV imM; rw [if_pos h, ref_eq]
theorem two_len (p : Int) (S x v : List Int) : (sclR p (prjM p S x v) 2).length = v.length := by unfold sclR; rw [mkR_len, prjM_len]
theorem im_len (p : Int) (S x v : List Int) : (imM p S x v).length = v.length := by unfold imM plusR; rw [mkR_len, two_len]
theorem two_at {p : Int} {S x v : List Int} {i : Nat} (hi : i < v.length) : (sclR p (prjM p S x v) 2).getD i 0 = (prjM p S x v).getD i 0 * 2 % p := by
 unfold sclR
 exact mkR_at _ (by rw [prjM_len]; exact hi)
theorem im_at {p : Int} {S x v : List Int} {i : Nat} (hi : i < v.length) : (imM p S x v).getD i 0 = ((prjM p S x v).getD i 0 * 2 % p + (p - 1) * v.getD i 0) % p := by
 unfold imM plusR
 rw [mkR_at _ (by rw [two_len]; exact hi), two_at hi]
theorem rs_at {p : Int} {S x v : List Int} {i : Nat} (hi : i < v.length) : (rsM p S x v).getD i 0 = (v.getD i 0 + (p - 1) * (prjM p S x v).getD i 0) % p := by
 unfold rsM plusR
 exact mkR_at _ hi
theorem im_vec {p : Int} {S x v : List Int} (hp : 0 < p) (hv : isVec p S.length v = true) : isVec p S.length (imM p S x v) = true := plus_vec7 hp _ (by rw [two_len]; exact (isVec_iff.1 hv).len)
theorem rs_vec {p : Int} {S x v : List Int} (hp : 0 < p) (hv : isVec p S.length v = true) : isVec p S.length (rsM p S x v) = true := plus_vec7 hp _ (isVec_iff.1 hv).len
theorem two_pair {p : Int} {S w u : List Int} (hw : w.length = S.length) : pairN p S (sclR p w 2) u = pairN p S w u * 2 % p := by
 rw [pairN_comm, show sclR p w 2 = sclV p w 2 from rfl, pair_scl hw, pairN_comm]
theorem im_pair {p : Int} {S x v u : List Int} (hv : v.length = S.length) : pairN p S (imM p S x v) u = (pairN p S (prjM p S x v) u * 2 % p + (p - 1) * pairN p S v u) % p := by
 unfold imM
 rw [pairN_lin (by rw [two_len, hv]), two_pair (by rw [prjM_len, hv])]
theorem nm_im {p a n : Int} (hp : prm p = true) (h0 : 0 ≤ a) (h1 : a < p) (k0 : 0 ≤ n) (k1 : n < p) : ((a * 2 % p + (p - 1) * a) % p * 2 % p + (p - 1) * ((a * 2 % p + (p - 1) * n) % p)) % p = n := by
 have := every2_at (Q := fun p a n => decide (((a * 2 % p + (p - 1) * a) % p * 2 % p + (p - 1) * ((a * 2 % p + (p - 1) * n) % p)) % p = n)) (by decide +kernel) hp h0 h1 k0 k1
 simpa using this
theorem nm_diff {p a : Int} (hp : prm p = true) (h0 : 0 ≤ a) (h1 : a < p) : (a + (p - 1) * ((a * 2 % p + (p - 1) * a) % p)) % p = 0 := by
 have := every_at (Q := fun p a => decide ((a + (p - 1) * ((a * 2 % p + (p - 1) * a) % p)) % p = 0)) (by decide +kernel) hp h0 h1
 simpa using this
theorem nm_same {p a b : Int} (hp : prm p = true) (h0 : 0 ≤ a) (h1 : a < p) (k0 : 0 ≤ b) (k1 : b < p) (h : (a + (p - 1) * b) % p = 0) : a = b := by
 have := every2_at (Q := fun p a b => decide ((a + (p - 1) * b) % p = 0 → a = b)) (by decide +kernel) hp h0 h1 k0 k1
 simp only [decide_eq_true_eq] at this
 exact this h
theorem nm_back {p w v : Int} (hp : prm p = true) (h0 : 0 ≤ w) (h1 : w < p) (k0 : 0 ≤ v) (k1 : v < p) : (w * 2 % p + (p - 1) * ((w * 2 % p + (p - 1) * v) % p)) % p = v := by
 have := every2_at (Q := fun p w v => decide ((w * 2 % p + (p - 1) * ((w * 2 % p + (p - 1) * v) % p)) % p = v)) (by decide +kernel) hp h0 h1 k0 k1
 simpa using this
theorem nm_sum {p w v : Int} (hp : prm p = true) (h0 : 0 ≤ w) (h1 : w < p) (k0 : 0 ≤ v) (k1 : v < p) : (w + 1 * ((v + (p - 1) * w) % p)) % p = v := by
 have := every2_at (Q := fun p w v => decide ((w + 1 * ((v + (p - 1) * w) % p)) % p = v)) (by decide +kernel) hp h0 h1 k0 k1
 simpa using this
theorem nm_less {p w v : Int} (hp : prm p = true) (h0 : 0 ≤ w) (h1 : w < p) (k0 : 0 ≤ v) (k1 : v < p) : (w + -1 * ((v + (p - 1) * w) % p)) % p = (w * 2 % p + (p - 1) * v) % p := by
 have := every2_at (Q := fun p w v => decide ((w + -1 * ((v + (p - 1) * w) % p)) % p = (w * 2 % p + (p - 1) * v) % p)) (by decide +kernel) hp h0 h1 k0 k1
 simpa using this
structure Pj (p : Int) (S x v : List Int) : Prop where
 hs : isSp p S = true
 hx : isMv p S x = true
 hb : isBl p S x = true
 hv : isVec p S.length v = true
 hq : sqX p S x ≠ 0
theorem Pj.prime {p : Int} {S x v : List Int} (h : Pj p S x v) : prm p = true := (isSp_iff.1 h.hs).prime
theorem Pj.pos {p : Int} {S x v : List Int} (h : Pj p S x v) : 0 < p := by have := prm_bd h.prime; omega
theorem Pj.pv {p : Int} {S x v : List Int} (h : Pj p S x v) : isVec p S.length (prjM p S x v) = true := prj_vec h.pos (isVec_iff.1 h.hv).len
theorem Pj.inn {p : Int} {S x v : List Int} (h : Pj p S x v) : Ann p S (prjM p S x v) x := prj_in h.hs h.hx h.hb h.hv
theorem Pj.pair {p : Int} {S x v u : List Int} (h : Pj p S x v) (hu : isVec p S.length u = true) (ha : Ann p S u x) : pairN p S (prjM p S x v) u = pairN p S v u := prj_pair h.hs h.hx h.hb h.hq h.hv hu ha
theorem Pj.im {p : Int} {S x v : List Int} (h : Pj p S x v) : Pj p S x (imM p S x v) := { h with hv := im_vec h.pos h.hv }
theorem pj_of {p : Int} {S x v : List Int} (h : codeI p S x v = 0) : Pj p S x v := by
 obtain ⟨a, b, c, d, e, _⟩ := codeI_zero h
 exact ⟨a, b, c, d, e⟩
theorem Pj.norm {p : Int} {S x v : List Int} (h : Pj p S x v) : pairN p S (imM p S x v) (imM p S x v) = pairN p S v v := by
 have hl := (isVec_iff.1 h.hv).len
 have e1 : pairN p S (prjM p S x v) (prjM p S x v) = pairN p S v (prjM p S x v) := h.pair h.pv h.inn
 have ha := pairN_bd h.pos S v (prjM p S x v)
 have hn := pairN_bd h.pos S v v
 rw [im_pair hl, pairN_comm p S (prjM p S x v), im_pair hl, pairN_comm p S v (imM p S x v), im_pair hl, e1, pairN_comm p S (prjM p S x v) v]
 exact nm_im h.prime ha.1 ha.2 hn.1 hn.2
theorem ann_plus {p k : Int} {S u u' x : List Int} (h6 : S.length ≤ 6) (hu : u.length = S.length) (hu' : u'.length = S.length) (h : Ann p S u x) (h' : Ann p S u' x) : Ann p S (plusR p u u' k) x := by
 refine (ann_form h6 (by unfold plusR; rw [mkR_len, hu])).2 fun c hc => ?_
 have h1 := (ann_form h6 hu).1 h c hc
 have h2 := (ann_form h6 hu').1 h' c hc
 have e : (sm S.length fun i => thF x c i * (plusR p u u' k).getD i 0) % p = (sm S.length fun i => thF x c i * u.getD i 0 + k * (thF x c i * u'.getD i 0)) % p := sm_congr_p fun i hi => by
  unfold plusR
  rw [mkR_at _ (by rw [hu]; exact hi), em_r, Int.mul_add, Int.mul_left_comm]
 rw [e, sm_add, sm_mul, Int.add_emod, h1, Int.mul_emod, h2, Int.mul_zero, Int.zero_emod, Int.add_zero, Int.zero_emod]
theorem Pj.same {p : Int} {S x v : List Int} (h : Pj p S x v) : prjM p S x (imM p S x v) = prjM p S x v := by
 have h6 := (isSp_iff.1 h.hs).hi
 have hl := (isVec_iff.1 h.hv).len
 have hw := h.pv
 have hw' := h.im.pv
 have hwl := (isVec_iff.1 hw).len
 have hwl' := (isVec_iff.1 hw').len
 have ht : isVec p S.length (plusR p (prjM p S x v) (prjM p S x (imM p S x v)) (p - 1)) = true := plus_vec7 h.pos _ hwl
 have key := nd h.hs h.hx h.hb h.hq ht (ann_plus h6 hwl hwl' h.inn h.im.inn) fun j hj => by
  have hbv := sub_vec (x := x) h.hs j hj
  have hba := sub_ann (x := x) h.hs j hj
  have hB := pairN_bd h.pos S v (rw' (subM p S x) j)
  rw [pairN_lin hwl, h.pair hbv hba, h.im.pair hbv hba, im_pair hl, h.pair hbv hba]
  exact nm_diff h.prime hB.1 hB.2
 refine row_ext (by rw [hwl, hwl']) fun i hi => ?_
 have hi' : i < S.length := by rw [← hwl']; exact hi
 have h0 := key i hi'
 unfold plusR at h0
 rw [mkR_at _ (by rw [hwl]; exact hi')] at h0
 have b1 := (isVec_iff.1 hw).num hi'
 have b2 := (isVec_iff.1 hw').num hi'
 exact (nm_same h.prime b1.1 b1.2 b2.1 b2.2 h0).symm
theorem Pj.twice {p : Int} {S x v : List Int} (h : Pj p S x v) : imM p S x (imM p S x v) = v := by
 have hl := (isVec_iff.1 h.hv).len
 refine row_ext (by rw [im_len, im_len]) fun i hi => ?_
 rw [im_len, im_len] at hi
 have b1 := (isVec_iff.1 h.pv).num (show i < S.length by rw [← hl]; exact hi)
 have b2 := (isVec_iff.1 h.hv).num (show i < S.length by rw [← hl]; exact hi)
 rw [im_at (by rw [im_len]; exact hi), h.same, im_at hi]
 exact nm_back h.prime b1.1 b1.2 b2.1 b2.2
theorem Pj.sum {p : Int} {S x v : List Int} (h : Pj p S x v) : plusR p (prjM p S x v) (rsM p S x v) 1 = v := by
 have hl := (isVec_iff.1 h.hv).len
 refine row_ext (by unfold plusR; rw [mkR_len, prjM_len]) fun i hi => ?_
 unfold plusR at hi
 rw [mkR_len, prjM_len] at hi
 have b1 := (isVec_iff.1 h.pv).num (show i < S.length by rw [← hl]; exact hi)
 have b2 := (isVec_iff.1 h.hv).num (show i < S.length by rw [← hl]; exact hi)
 unfold plusR
 rw [mkR_at _ (by rw [prjM_len]; exact hi), rs_at hi]
 exact nm_sum h.prime b1.1 b1.2 b2.1 b2.2
theorem Pj.less {p : Int} {S x v : List Int} (h : Pj p S x v) : minusR p (prjM p S x v) (rsM p S x v) = imM p S x v := by
 have hl := (isVec_iff.1 h.hv).len
 refine row_ext (by unfold minusR; rw [mkR_len, prjM_len, im_len]) fun i hi => ?_
 unfold minusR at hi
 rw [mkR_len, prjM_len] at hi
 have b1 := (isVec_iff.1 h.pv).num (show i < S.length by rw [← hl]; exact hi)
 have b2 := (isVec_iff.1 h.hv).num (show i < S.length by rw [← hl]; exact hi)
 unfold minusR
 rw [mkR_at _ (by rw [prjM_len]; exact hi), rs_at hi, im_at hi]
 exact nm_less h.prime b1.1 b1.2 b2.1 b2.2
theorem Pj.has {p : Int} {S x v : List Int} (h : Pj p S x v) (hB : codeB p S [x] = 0) : hasV p S x (prjM p S x v) = true := by
 unfold hasV
 rw [if_pos (codeBV_ok h.hs hB h.pv), allZ_iff]
 intro j hj
 exact h.inn j (by rw [← kM_len p S 0 (vecM S (prjM p S x v)) x]; exact hj)
theorem Pj.orth {p : Int} {S x v : List Int} (h : Pj p S x v) {j : Nat} (hj : j < (subM p S x).length) : pairN p S (rw' (subM p S x) j) (rsM p S x v) = 0 := by
 have hl := (isVec_iff.1 h.hv).len
 unfold rsM
 rw [pairN_comm, pairN_lin hl, h.pair (sub_vec h.hs j hj) (sub_ann h.hs j hj)]
 rw [show pairN p S v (rw' (subM p S x) j) + (p - 1) * pairN p S v (rw' (subM p S x) j) = p * pairN p S v (rw' (subM p S x) j) by rw [Int.sub_mul]; omega, Int.mul_emod_right]
theorem nm_inv {p N B : Int} (hp : prm p = true) (h0 : 0 ≤ N) (h1 : N < p) (k0 : 0 ≤ B) (k1 : B < p) (hB : B ≠ 0) : (N + (p - 1) * (B * (N * inv p B % p) % p)) % p = 0 ∧ (rfK p N B + 2 * (N * inv p B % p)) % p = 0 := by
 have := every2_at (Q := fun p N B => decide (B ≠ 0 → (N + (p - 1) * (B * (N * inv p B % p) % p)) % p = 0 ∧ (rfK p N B + 2 * (N * inv p B % p)) % p = 0)) (by decide +kernel) hp h0 h1 k0 k1
 simp only [decide_eq_true_eq] at this
 exact this hB
theorem nm_zero {p K c b v : Int} (h : (K + 2 * c) % p = 0) : ((v + K * b) % p + 1 * ((b * c % p * 2 % p + (p - 1) * v) % p)) % p = 0 := by
 rw [Int.one_mul, ← Int.add_emod, em_l]
 obtain ⟨t, ht⟩ := Int.dvd_of_emod_eq_zero h
 have e : v + K * b + (b * c * 2 % p + (p - 1) * v) = b * c * 2 % p + (K * b + p * v) := by rw [Int.sub_mul]; omega
 rw [e, Int.emod_add_emod]
 have e2 : b * c * 2 + (K * b + p * v) = (K + 2 * c) * b + p * v := by rw [Int.add_mul, show 2 * c * b = b * c * 2 by ac_rfl]; omega
 rw [e2, ht, Int.mul_assoc, ← Int.mul_add, Int.mul_emod_right]
theorem Pj.one {p : Int} {S x v : List Int} (h : Pj p S x v) (h1 : (subM p S x).length = 1) : pairN p S (rw' (subM p S x) 0) (rw' (subM p S x) 0) ≠ 0 ∧ ∀ i, i < v.length → ((rflM p S (rw' (subM p S x) 0) v).getD i 0 + 1 * (imM p S x v).getD i 0) % p = 0 := by
 have h6 := (isSp_iff.1 h.hs).hi
 have hl := (isVec_iff.1 h.hv).len
 obtain ⟨b, hb⟩ : ∃ b, b = rw' (subM p S x) 0 := ⟨_, rfl⟩
 have hbv : isVec p S.length b = true := by rw [hb]; exact sub_vec h.hs 0 (by omega)
 have hba : Ann p S b x := by rw [hb]; exact sub_ann h.hs 0 (by omega)
 have hbl := (isVec_iff.1 hbv).len
 have hall : ∀ j, j < (subM p S x).length → rw' (subM p S x) j = b := fun j hj => by rw [show j = 0 by omega, hb]
 rw [← hb]
 have hB := pairN_bd h.pos S b b
 have hN := pairN_bd h.pos S b v
 have hne : pairN p S b b ≠ 0 := fun e => by
  have hz := nd h.hs h.hx h.hb h.hq hbv hba fun j hj => by rw [hall j hj]; exact e
  have hR := sub_red (x := x) h.hs
  have h2 := hR.one 0 (by omega)
  have h3 := hz _ (hR.pv 0 (by omega))
  rw [hb] at h3
  have h4 : (rw' (subM p S x) 0).getD (pvs (subM p S x) 0) 0 = 1 := h2
  omega
 refine ⟨hne, ?_⟩
 obtain ⟨k1, k2⟩ := nm_inv h.prime hN.1 hN.2 hB.1 hB.2 hne
 obtain ⟨c, hc⟩ : ∃ c, c = pairN p S b v * inv p (pairN p S b b) % p := ⟨_, rfl⟩
 rw [← hc] at k1 k2
 have hwl := (isVec_iff.1 h.pv).len
 have hsl : (sclV p b c).length = S.length := by rw [sclV_len, hbl]
 have hsa : Ann p S (sclV p b c) x := by
  refine (ann_form h6 hsl).2 fun d hd => ?_
  have h2 := (ann_form h6 hbl).1 hba d hd
  have e : (sm S.length fun i => thF x d i * (sclV p b c).getD i 0) % p = (sm S.length fun i => c * (thF x d i * b.getD i 0)) % p := sm_congr_p fun i hi => by
   unfold sclV
   rw [mkR_at _ (by rw [hbl]; exact hi), em_r]
   congr 1
   ac_rfl
  rw [e, sm_mul, Int.mul_emod, h2, Int.mul_zero, Int.zero_emod]
 have ht : isVec p S.length (plusR p (prjM p S x v) (sclV p b c) (p - 1)) = true := plus_vec7 h.pos _ hwl
 have key := nd h.hs h.hx h.hb h.hq ht (ann_plus h6 hwl hsl h.inn hsa) fun j hj => by
  rw [hall j hj, pairN_lin hwl, h.pair hbv hba, pairN_comm p S (sclV p b c) b, pair_scl hbl, pairN_comm p S v b]
  exact k1
 have hsv : isVec p S.length (sclV p b c) = true := scl_vec h.pos c hbl
 intro i hi
 have hi' : i < S.length := by rw [← hl]; exact hi
 have h0 := key i hi'
 unfold plusR at h0
 rw [mkR_at _ (by rw [hwl]; exact hi')] at h0
 have b1 := (isVec_iff.1 h.pv).num hi'
 have b2 := (isVec_iff.1 hsv).num hi'
 have e := nm_same h.prime b1.1 b1.2 b2.1 b2.2 h0
 rw [im_at hi, e]
 unfold rflM plusR sclV
 rw [mkR_at _ hi, mkR_at _ (by rw [hbl]; exact hi')]
 exact nm_zero k2
end Go.Proofs.YtgfanoejohpmkaaGreat