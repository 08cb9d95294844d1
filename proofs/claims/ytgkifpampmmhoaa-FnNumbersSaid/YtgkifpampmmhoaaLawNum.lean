/-
  The walk of the law on numbers: FnNumbers.
  Conditions: the code is nil or a row of known bytes.
-/
import Derived.Test.YtgkifpampmmhoaaPair
import Derived.Test.YtgkifpampmmhoaaRoll
import Derived.Test.YtgkifpampmmhoaaPureB
import Derived.Test.YtgkifpampmmhoaaDiv
import Derived.Test.YtgkifpampmmhoaaOps
import Derived.Test.YtgkifpampmmhoaaOrdI
import Derived.Test.YtgkifpampmmhoaaLawSq
namespace Go.Proofs.Ytgkifpampmmhoaa
open Go.RowKit
set_option linter.unusedVariables false

theorem drawDivide_any (a : Option Addr) (len cap : Nat) (zs : List Int) (w : World) (hb : Code8 w a len zs) (hl : len ≤ 4096) :
    Calls Try.prog 15 #[.slice a len cap] w (ThreeInts w) := by
  have HB := Lib.hid hb
  clear hb
  go_enter Try.func15, Try.ntmps15
  go_wp2_with (go_at_call 42; refine (pair_any a len cap zs _ HB.out hl).mono ?_; rintro e w1 ⟨p, x, y, rfl, hb1⟩)
  go_ret3
  exact ⟨p, x, y, rfl, hb1⟩

theorem code_in {p a b : Int} (hp : prm p = true) (a0 : 0 ≤ a) (a1 : a < p) (b0 : 0 ≤ b) (b1 : b < p) : codeOf p [a, b] = 0 := by
  rcases code_two p a b with ⟨h, _⟩ | ⟨_, h⟩ | ⟨_, _, h⟩
  · exact h
  · rw [hp] at h; cases h
  · exact absurd ⟨⟨a0, a1⟩, b0, b1⟩ h
theorem code_in1 {p a : Int} (hp : prm p = true) (a0 : 0 ≤ a) (a1 : a < p) : codeOf p [a] = 0 := by
  rcases code_one p a with ⟨h, _⟩ | ⟨_, h⟩ | ⟨_, _, h⟩
  · exact h
  · rw [hp] at h; cases h
  · exact absurd ⟨a0, a1⟩ h
theorem powV_pz {p b m : Int} (h : codeOf p [b] = 0) (b0 : 1 ≤ b) (m0 : -1000 ≤ m) (m1 : m ≤ 1000) : powV p b m = pz p b m ∧ powC p b m = 0 := by
  by_cases hm : m < 0
  · have := pow_neg h (by omega : b ≠ 0) hm m0
    exact ⟨by rw [this.1]; simp [pz, hm], this.2⟩
  · have := pow_pos h (by omega : 0 ≤ m) m1
    exact ⟨by rw [this.1]; simp [pz, hm], this.2⟩

set_option maxRecDepth 100000 in
set_option maxHeartbeats 8000000 in
theorem law_numbers_small (a : Option Addr) (len cap : Nat) (zs : List Int) (w : World) (hb : Code8 w a len zs) (hl : len ≤ 4096) :
    Calls Try.prog 3 #[.slice a len cap] w fun e w' => e = .returned (.bool true) ∧ Below w.heap.size w w' := by
  have HB := Lib.hid hb
  clear hb
  go_enter Try.func3, Try.ntmps3
  go_wp2_with (first | (go_at_call 14; refine (big_no a len cap _ hl).mono ?_; rintro e w' ⟨rfl, rfl⟩) | (go_at_call 15; refine (drawDivide_any a len cap zs _ HB.out hl).mono ?_; rintro e w1 ⟨p, x, y, rfl, hb1⟩))
  by_cases hok : codeOf p [x, y] = 0 ∧ y ≠ 0
  · obtain ⟨hc, hy⟩ := hok
    obtain ⟨hp, x0, x1, y0, y1⟩ : prm p = true ∧ 0 ≤ x ∧ x < p ∧ 1 ≤ y ∧ y < p := by
      rcases code_two p x y with ⟨_, hp, ⟨x0, x1⟩, y0, y1⟩ | ⟨h, _⟩ | ⟨h, _⟩
      · exact ⟨hp, x0, x1, by omega, y1⟩
      · rw [hc] at h; cases h
      · rw [hc] at h; cases h
    have HP := Lib.hid hp
    have hpb := prm_bd hp
    obtain ⟨q, hq⟩ : ∃ q, q = x * inv p y % p := ⟨_, rfl⟩
    obtain ⟨q0, q1⟩ : 0 ≤ q ∧ q < p := by rw [hq]; exact mod_bd hp _
    have HD : Hid (divV p x y = q ∧ divC p x y = 0) := by rw [hq]; exact div_ok hc hy
    have HMB : Hid (opV (· * ·) p q y = x ∧ codeOf p [q, y] = 0) := by
      have h := code_in hp q0 q1 (by omega : 0 ≤ y) y1
      exact ⟨by rw [opV_ok h, hq]; exact back_mul hp x0 x1 y0 y1, h⟩
    obtain ⟨s, hs⟩ : ∃ s, s = (x + y) % p := ⟨_, rfl⟩
    obtain ⟨s0, s1⟩ : 0 ≤ s ∧ s < p := by rw [hs]; exact mod_bd hp _
    have HAD : Hid (opV (· + ·) p x y = s ∧ codeOf p [x, y] = 0) := ⟨by rw [opV_ok hc, hs], hc⟩
    have HSU : Hid (opV (· - ·) p s y = x ∧ codeOf p [s, y] = 0) := by
      have h := code_in hp s0 s1 (by omega : 0 ≤ y) y1
      exact ⟨by rw [opV_ok h, hs]; exact back_sub x0 x1, h⟩
    have HY1 := Lib.hid (code_in1 hp (by omega : 0 ≤ y) y1)
    have HSv := Lib.hid hs
    clear hc hp hq hs hy
    go_wp2_with (first | (go_at_call 16; refine (divideNumbers_impl p x y _).mono ?_; rintro e w2 ⟨rfl, hb2⟩; rw [HD.out.1, HD.out.2]) | (go_at_call 17; refine (divideNumbers_spec p x y _).mono ?_; rintro e w3 ⟨rfl, hb3⟩; rw [HD.out.1, HD.out.2]) | (go_at_call 18; refine (isPrime_any p _).mono ?_; rintro e w' ⟨rfl, rfl⟩) | (go_at_call 19; refine (isPrime_spec p _).mono ?_; rintro e w' ⟨rfl, rfl⟩) | (go_at_call 20; refine (roll_any a len cap zs _ (HB.out.below ((hb1.trans (hb2.mono hb1.size)).trans (hb3.mono (Nat.le_trans hb1.size hb2.size)))) hl).mono ?_; rintro e w4 ⟨rfl, hb4, hs4⟩; have HS4 := Lib.hid hs4; clear hs4) | (go_at_call 21; (with_reducible refine (below_any p w3.heap.size a len cap zs _ HS4.out).mono ?_); rintro e w5 ⟨c, rfl, hc5, ho5, hs5⟩; have HS5 := Lib.hid hs5; have HC5 := Lib.hid hc5; clear hs5 hc5) | (go_at_call 21; (with_reducible refine (below_any 40 w3.heap.size a len cap zs _ HS5.out).mono ?_); rintro e w6 ⟨m, rfl, hm6, ho6, hs6⟩; have HS6 := Lib.hid hs6; clear hs6; obtain ⟨m0, m1⟩ := hm6 (by omega); clear hm6) | (go_at_call 21; (with_reducible refine (below_any 40 w3.heap.size a len cap zs _ HS6.out).mono ?_); rintro e w7 ⟨n, rfl, hn7, ho7, hs7⟩; obtain ⟨n0, n1⟩ := hn7 (by omega); clear hn7 hs7))
    have hbel : Below w.heap.size w w7 := by
      have z1 := hb1.size
      have z2 := hb2.size
      have z3 := hb3.size
      have z4 := hb4.size
      exact hb1.trans ((hb2.mono z1).trans ((hb3.mono (by omega)).trans ((hb4.mono (by omega)).trans (((ho5.trans ho6).trans ho7).below (by omega) (by omega)))))
    have HBEL := Lib.hid hbel
    obtain ⟨c0, c1⟩ := HC5.out (by omega)
    clear hb1 hb2 hb3 hb4 ho5 ho6 ho7 hbel
    obtain ⟨l, hl'⟩ : ∃ l, l = s * c % p := ⟨_, rfl⟩
    have HML : Hid (opV (· * ·) p s c = l ∧ codeOf p [s, c] = 0) := by
      have h := code_in HP.out s0 s1 c0 c1
      exact ⟨by rw [opV_ok h, hl'], h⟩
    have HNU : Hid (numV p (x * c + y * c - 7 * p) = l ∧ primeCode p = 0) := ⟨by rw [numV_yes HP.out, hl', HSv.out, left_is], primeCode_yes HP.out⟩
    obtain ⟨pm, hpm⟩ : ∃ v, v = pz p y (m - 20) := ⟨_, rfl⟩
    obtain ⟨pn, hpn⟩ : ∃ v, v = pz p y (n - 20) := ⟨_, rfl⟩
    obtain ⟨pzz, hpzz⟩ : ∃ v, v = pz p y (m - 20 + (n - 20)) := ⟨_, rfl⟩
    obtain ⟨pm0, pm1⟩ : 0 ≤ pm ∧ pm < p := by rw [hpm]; exact pz_bd HP.out
    obtain ⟨pn0, pn1⟩ : 0 ≤ pn ∧ pn < p := by rw [hpn]; exact pz_bd HP.out
    have HPM : Hid (powV p y (m - 20) = pm ∧ powC p y (m - 20) = 0) := by rw [hpm]; exact powV_pz HY1.out y0 (by omega) (by omega)
    have HPN : Hid (powV p y (n - 20) = pn ∧ powC p y (n - 20) = 0) := by rw [hpn]; exact powV_pz HY1.out y0 (by omega) (by omega)
    have HPZ : Hid (powV p y (m - 20 + (n - 20)) = pzz ∧ powC p y (m - 20 + (n - 20)) = 0) := by rw [hpzz]; exact powV_pz HY1.out y0 (by omega) (by omega)
    have HMZ : Hid (pm * pn % p = pzz) := by rw [hpm, hpn, hpzz]; exact pz_mul HP.out y0 y1 (by omega) (by omega) (by omega) (by omega)
    obtain ⟨k, hk⟩ : ∃ k : Nat, k = ord p y := ⟨_, rfl⟩
    obtain ⟨k0, k1⟩ : 1 ≤ k ∧ (k : Int) ≤ p - 1 := by rw [hk]; exact ord_bd HP.out y0 y1
    have hkd : (p - 1) % (k : Int) = 0 := by rw [hk]; exact ord_div HP.out y0 y1
    have HOR : Hid (orV p y = (k : Int) ∧ orC p y = 0) := by rw [hk]; exact or_yes HY1.out (by omega)
    obtain ⟨g, hg⟩ : ∃ g, g = prim p := ⟨_, rfl⟩
    obtain ⟨g0, g1⟩ : 1 ≤ g ∧ g < p := by rw [hg]; exact prim_bd HP.out
    have HPR : Hid (prV p = g ∧ prC p = 0) := by rw [hg]; exact pr_yes HP.out
    have HFU : Hid (orV p g = p - 1 ∧ orC p g = 0) := by
      have h := or_yes (p := p) (a := g) (code_in1 HP.out (by omega) g1) (by omega)
      exact ⟨by rw [h.1]; exact (prim_iff HP.out g0 (by rw [hg]; omega)).2 hg, h.2⟩
    have HK := Lib.hid hk
    obtain ⟨e0, e1⟩ := mul_bd HP.out x0 x1 c0 c1
    obtain ⟨e2, e3⟩ := mul_bd HP.out (by omega : 0 ≤ y) y1 c0 c1
    obtain ⟨e4, e5⟩ := mul_bd HP.out pm0 pm1 pn0 pn1
    clear hl' hpm hpn hpzz hk hg
    go_wp2_with (first | (go_at_call 22; (with_reducible refine (multiplyNumbers_impl p q y _).mono ?_); rintro e v1 ⟨rfl, hv1⟩; rw [HMB.out.1, HMB.out.2]) | (go_at_call 23; (with_reducible refine (addNumbers_impl p x y _).mono ?_); rintro e v2 ⟨rfl, hv2⟩; rw [HAD.out.1, HAD.out.2]) | (go_at_call 24; (with_reducible refine (subtractNumbers_impl p s y _).mono ?_); rintro e v3 ⟨rfl, hv3⟩; rw [HSU.out.1, HSU.out.2]) | (go_at_call 22; (with_reducible refine (multiplyNumbers_impl p s c _).mono ?_); rintro e v4 ⟨rfl, hv4⟩; rw [HML.out.1, HML.out.2]) | (go_at_call 25; (with_reducible refine (powerNumber_impl p y (m - 20) _).mono ?_); rintro e v5 ⟨rfl, hv5⟩; rw [HPM.out.1, HPM.out.2]) | (go_at_call 25; (with_reducible refine (powerNumber_impl p y (n - 20) _).mono ?_); rintro e v6 ⟨rfl, hv6⟩; rw [HPN.out.1, HPN.out.2]) | (go_at_call 25; (with_reducible refine (powerNumber_impl p y (m - 20 + (n - 20)) _).mono ?_); rintro e v7 ⟨rfl, hv7⟩; rw [HPZ.out.1, HPZ.out.2]) | (go_at_call 26; (with_reducible refine (numberOf_impl p (x * c + y * c - 7 * p) _ (by omega) (by omega)).mono ?_); rintro e v8 ⟨rfl, hv8⟩; rw [HNU.out.1, HNU.out.2]) | (go_at_call 27; (with_reducible refine (orderOfNumber_impl p y _).mono ?_); rintro e v9 ⟨rfl, hv9⟩; rw [HOR.out.1, HOR.out.2]) | (go_at_call 28; (with_reducible refine (primitiveNumber_impl p _).mono ?_); rintro e v10 ⟨rfl, hv10⟩; rw [HPR.out.1, HPR.out.2]) | (go_at_call 27; (with_reducible refine (orderOfNumber_impl p g _).mono ?_); rintro e v11 ⟨rfl, hv11⟩; rw [HFU.out.1, HFU.out.2]) | (go_at_call 29; (with_reducible refine (mod5_any p (pm * pn) _ HP.out (by omega) (by omega)).mono ?_); rintro e v12 ⟨rfl, rfl⟩; rw [HMZ.out]))
    go_loop [36, 37] (fun t u => ∃ i : Nat, 1 ≤ i ∧ i ≤ k ∧ t = .int .i64 (pw p y i) ∧ u = .int .i64 i) (fun _ u => k - (intOf u).toNat)
    case atStart => exact ⟨1, by omega, by omega, by rw [pw_one (by omega) y1], rfl⟩
    case round =>
      obtain ⟨i, i0, i1, rfl, rfl⟩ := hrel
      obtain ⟨q2, q3⟩ := pw_bd (a := y) HP.out i
      obtain ⟨m2, m3⟩ := mul_bd HP.out q2 q3 (by omega : 0 ≤ y) y1
      have hi := ord_iff HP.out y0 y1 i0 (by rw [← HK.out]; exact i1)
      rw [← HK.out] at hi
      by_cases hlt : i < k
      · have ht : ¬ pw p y i = 1 := fun h => by have := hi.1 h; omega
        clear hi
        go_wp2
        go_round
        case rel => exact ⟨i + 1, by omega, by omega, rfl, by go_num⟩
        case measure => simp [intOf]; omega
      · have ht : pw p y i = 1 := hi.2 (by omega)
        clear hi
        go_wp2
        go_ret
        have hbx := HBEL.out
        exact ⟨rfl, by (have hs_hv11 := hv11.size; have hs_hv10 := hv10.size; have hs_hv9 := hv9.size; have hs_hv8 := hv8.size; have hs_hv7 := hv7.size; have hs_hv6 := hv6.size; have hs_hv5 := hv5.size; have hs_hv4 := hv4.size; have hs_hv3 := hv3.size; have hs_hv2 := hv2.size; have hs_hv1 := hv1.size; have hs_hbx := hbx.size; (repeat' (first | with_reducible exact Below.refl _ _ | (with_reducible refine Below.setCell ?_ ?_ _) | (with_reducible refine Below.alloc ?_ ?_ _) | (with_reducible refine Below.drew ?_) | (with_reducible refine below_step ?_ ?_ hv11) | (with_reducible refine below_step ?_ ?_ hv10) | (with_reducible refine below_step ?_ ?_ hv9) | (with_reducible refine below_step ?_ ?_ hv8) | (with_reducible refine below_step ?_ ?_ hv7) | (with_reducible refine below_step ?_ ?_ hv6) | (with_reducible refine below_step ?_ ?_ hv5) | (with_reducible refine below_step ?_ ?_ hv4) | (with_reducible refine below_step ?_ ?_ hv3) | (with_reducible refine below_step ?_ ?_ hv2) | (with_reducible refine below_step ?_ ?_ hv1) | (with_reducible refine below_step ?_ ?_ hbx))); all_goals (first | (simp; done) | omega | (simp; omega) | (simp at hs_hv11 hs_hv10 hs_hv9 hs_hv8 hs_hv7 hs_hv6 hs_hv5 hs_hv4 hs_hv3 hs_hv2 hs_hv1 hs_hbx ⊢; omega)))⟩
  · have hcc : ∃ cc : Int, (cc = 1 ∨ cc = 2 ∨ cc = 5) ∧ divV p x y = 0 ∧ divC p x y = cc := by
      rcases code_two p x y with ⟨h, _⟩ | ⟨h, _⟩ | ⟨h, _⟩
      · have hy : y = 0 := by
          by_cases hy : y = 0
          · exact hy
          · exact absurd ⟨h, hy⟩ hok
        subst hy
        exact ⟨5, by omega, div_zero h⟩
      · exact ⟨1, by omega, div_no h (by decide)⟩
      · exact ⟨2, by omega, div_no h (by decide)⟩
    obtain ⟨cc, hcc, hd⟩ := hcc
    have HD := Lib.hid hd
    clear hd hok
    rcases hcc with rfl | rfl | rfl
    all_goals
      go_wp2_with (first | (go_at_call 16; refine (divideNumbers_impl p x y _).mono ?_; rintro e w2 ⟨rfl, hb2⟩; rw [HD.out.1, HD.out.2]) | (go_at_call 17; refine (divideNumbers_spec p x y _).mono ?_; rintro e w3 ⟨rfl, hb3⟩; rw [HD.out.1, HD.out.2]) | (go_at_call 18; refine (isPrime_any p _).mono ?_; rintro e w' ⟨rfl, rfl⟩) | (go_at_call 19; refine (isPrime_spec p _).mono ?_; rintro e w' ⟨rfl, rfl⟩))
      go_ret
      exact ⟨rfl, by (have hs_hb3 := hb3.size; have hs_hb2 := hb2.size; have hs_hb1 := hb1.size; (repeat' (first | with_reducible exact Below.refl _ _ | (with_reducible refine Below.setCell ?_ ?_ _) | (with_reducible refine Below.alloc ?_ ?_ _) | (with_reducible refine Below.drew ?_) | (with_reducible refine below_step ?_ ?_ hb3) | (with_reducible refine below_step ?_ ?_ hb2) | (with_reducible refine below_step ?_ ?_ hb1))); all_goals (first | (simp; done) | omega | (simp; omega) | (simp at hs_hb3 hs_hb2 hs_hb1 ⊢; omega)))⟩

set_option maxRecDepth 100000 in
theorem law_numbers (a : Option Addr) (len cap : Nat) (zs : List Int) (w : World) (hb : Code8 w a len zs) (hm : len ≤ 9223372036854775807) :
    Calls Try.prog 3 #[.slice a len cap] w fun e w' => e = .returned (.bool true) ∧ Below w.heap.size w w' := by
  by_cases hl : len ≤ 4096
  · exact law_numbers_small a len cap zs w hb hl
  · clear hb
    go_enter Try.func3, Try.ntmps3
    go_wp2_with (go_at_call 14; refine (big_yes a len cap _ (by omega) hm).mono ?_; rintro e w' ⟨rfl, rfl⟩)
    go_ret
    exact ⟨rfl, Below.refl _ _⟩

end Go.Proofs.Ytgkifpampmmhoaa
