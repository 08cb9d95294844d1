/-
  What DotOf returns, in the program and in the model, and the walk of its law.
  Conditions: the lists are rows of known cells, of at most 1048576 numbers; of the law: none but that the lists are nil or rows of known cells.
-/
import Derived.Test.YtgkifpampmmhoabDot
namespace Go.Proofs.Ytgkifpampmmhoab
open Go.RowKit
set_option linter.unusedVariables false

set_option maxHeartbeats 1600000 in
theorem dotOf_spec (p : Int) (b c : Nat) (zs ws : List Int) (w : World) (hb : RowAt w b zs) (hc : RowAt w c ws) (h1 : zs.length ≤ 1048576) (h2 : ws.length ≤ 1048576) :
    Calls Try.prog 13 #[.int .i64 p, .slice (some ⟨b, 0, none⟩) zs.length zs.length, .slice (some ⟨c, 0, none⟩) ws.length ws.length] w fun e w' => e = .returned (.tuple #[.int .i64 (dotV p zs ws), .int .i64 (dotC p zs ws)]) ∧ Below w.heap.size w w' := by
  have HB := Lib.hid hb
  have HC := Lib.hid hc
  clear hb hc
  by_cases hp : prm p = true
  · have HP := Lib.hid hp
    clear hp
    by_cases hl : zs.length = ws.length
    · have hl1 : zs.length ≤ ws.length ∧ ws.length ≤ zs.length := by omega
      have HL := Lib.hid hl
      clear hl
      by_cases h64 : zs.length ≤ 64
      · by_cases hz : zs.all (inr p) = true
        · have HZ := Lib.hid hz
          clear hz
          by_cases hw : ws.all (inr p) = true
          · have HW := Lib.hid hw
            clear hw
            have HS := Lib.hid (dot_yes HP.out (by simp [dotOk, HL.out, HZ.out, HW.out]; rw [← HL.out]; exact h64 : dotOk p zs ws = true))
            go_enter Try.func13, Try.ntmps13
            go_wp2_with (first | (go_at_call 26; refine (l01Prime_any p _).mono ?_; rintro e w1 ⟨rfl, rfl⟩; rw [HP.out]) | (go_at_call 28; (with_reducible refine (l01Numbers_any p b zs _ _ HP.out HB.out (by omega)).mono ?_); rintro e w1 ⟨rfl, rfl⟩; rw [HZ.out]) | (go_at_call 28; (with_reducible refine (l01Numbers_any p c ws _ _ HP.out HC.out (by omega)).mono ?_); rintro e w1 ⟨rfl, rfl⟩; rw [HW.out]) | (go_at_call 29; refine (l01Dot_any p b c zs ws _ HP.out HB.out HC.out HL.out h64 HZ.out HW.out).mono ?_; rintro e w2 ⟨rfl, hb2⟩))
            go_ret2
            exact ⟨by rw [HS.out.1, HS.out.2]; rfl, hb2⟩
          · have HW := Lib.hid (show ws.all (inr p) = false by simpa using hw)
            clear hw
            have HS := Lib.hid (dot_bad HP.out (by simp [dotOk, HW.out] : dotOk p zs ws = false))
            go_enter Try.func13, Try.ntmps13
            go_wp2_with (first | (go_at_call 26; refine (l01Prime_any p _).mono ?_; rintro e w1 ⟨rfl, rfl⟩; rw [HP.out]) | (go_at_call 28; (with_reducible refine (l01Numbers_any p b zs _ _ HP.out HB.out (by omega)).mono ?_); rintro e w1 ⟨rfl, rfl⟩; rw [HZ.out]) | (go_at_call 28; (with_reducible refine (l01Numbers_any p c ws _ _ HP.out HC.out (by omega)).mono ?_); rintro e w1 ⟨rfl, rfl⟩; rw [HW.out]))
            go_ret2
            exact ⟨by rw [HS.out.1, HS.out.2]; rfl, Below.refl _ _⟩
        · have HZ := Lib.hid (show zs.all (inr p) = false by simpa using hz)
          clear hz
          have HS := Lib.hid (dot_bad HP.out (by simp [dotOk, HZ.out] : dotOk p zs ws = false))
          go_enter Try.func13, Try.ntmps13
          go_wp2_with (first | (go_at_call 26; refine (l01Prime_any p _).mono ?_; rintro e w1 ⟨rfl, rfl⟩; rw [HP.out]) | (go_at_call 28; (with_reducible refine (l01Numbers_any p b zs _ _ HP.out HB.out (by omega)).mono ?_); rintro e w1 ⟨rfl, rfl⟩; rw [HZ.out]))
          go_ret2
          exact ⟨by rw [HS.out.1, HS.out.2]; rfl, Below.refl _ _⟩
      · have HS := Lib.hid (dot_bad HP.out (by simp [dotOk]; intro _ h; omega : dotOk p zs ws = false))
        go_enter Try.func13, Try.ntmps13
        go_wp2_with (go_at_call 26; refine (l01Prime_any p _).mono ?_; rintro e w1 ⟨rfl, rfl⟩; rw [HP.out])
        go_ret2
        exact ⟨by rw [HS.out.1, HS.out.2]; rfl, Below.refl _ _⟩
    · have HS := Lib.hid (dot_bad HP.out (by simp [dotOk, hl] : dotOk p zs ws = false))
      go_enter Try.func13, Try.ntmps13
      go_wp2_with (go_at_call 26; refine (l01Prime_any p _).mono ?_; rintro e w1 ⟨rfl, rfl⟩; rw [HP.out])
      go_ret2
      exact ⟨by rw [HS.out.1, HS.out.2]; rfl, Below.refl _ _⟩
  · have hp' : prm p = false := by simpa using hp
    have HP := Lib.hid hp'
    have HS := Lib.hid (dot_no (zs := zs) (ws := ws) hp')
    clear hp hp'
    go_enter Try.func13, Try.ntmps13
    go_wp2_with (go_at_call 26; refine (l01Prime_any p _).mono ?_; rintro e w1 ⟨rfl, rfl⟩; rw [HP.out])
    go_ret2
    exact ⟨by rw [HS.out.1, HS.out.2]; rfl, Below.refl _ _⟩

theorem check_new (p x y : Int) (w : World) (t : TypeId) :
    Calls Try.prog 20 #[.int .i64 p, .slice (some ⟨w.heap.size, 0, none⟩) 2 2] (w.alloc (.cells #[.int .i64 x, .int .i64 y] t)).drew fun e w' => e = .returned (.int .i64 (codeOf p [x, y])) ∧ (w.alloc (.cells #[.int .i64 x, .int .i64 y] t)).drew = w' :=
  check_two p x y w.heap.size _ (by exact new_two0 w _ _ t) (by exact new_two1 w _ _ t)

set_option maxRecDepth 100000 in
set_option maxHeartbeats 8000000 in
theorem dotOf_loop (p : Int) (b c : Nat) (zs ws : List Int) (w : World) (hp : prm p = true) (hb : RowAt w b zs) (hc : RowAt w c ws) (hbl : b < w.heap.size) (hcl : c < w.heap.size) (hl : zs.length = ws.length) (h64 : zs.length ≤ 64) :
    Calls Try.prog 15 #[.int .i64 p, .slice (some ⟨b, 0, none⟩) zs.length zs.length, .slice (some ⟨c, 0, none⟩) ws.length ws.length] w fun e w' => e = .returned (.tuple #[.int .i64 (dotV p zs ws), .int .i64 (dotC p zs ws)]) ∧ Below w.heap.size w w' := by
  have HB := Lib.hid hb
  have HC := Lib.hid hc
  have HP := Lib.hid hp
  have hpb := prm_bd hp
  have hl1 : zs.length ≤ ws.length ∧ ws.length ≤ zs.length := by omega
  have HL := Lib.hid hl
  clear hb hc hp hl
  go_enter Try.func15, Try.ntmps15
  go_wp2_with (go_at_call 27; refine (isPrime_any p _).mono ?_; rintro e w1 ⟨rfl, rfl⟩; rw [HP.out])
  go_loopw [28] (fun t wr => ∃ i : Nat, i ≤ zs.length ∧ t = .int .i64 i ∧ NumAt wr w.heap.size p (dot p zs ws i) ∧ Hid ((zs.take i).all (inr p) = true ∧ (ws.take i).all (inr p) = true) ∧ Below w.heap.size w wr ∧ w.heap.size < wr.heap.size) (fun t _ => zs.length - (intOf t).toNat)
  case atStart => exact ⟨0, Nat.zero_le _, rfl, numAt_new w p 0 _, ⟨rfl, rfl⟩, by ((repeat' (first | with_reducible exact Below.refl _ _ | (with_reducible refine Below.setCell ?_ ?_ _) | (with_reducible refine Below.alloc ?_ ?_ _) | (with_reducible refine Below.drew ?_))); all_goals (first | (simp; done) | omega | (simp; omega))), by simp⟩
  case round =>
    obtain ⟨i, hi, rfl, nn, HT, hbel, zT⟩ := hrel
    have N := Lib.hid nn
    obtain ⟨g0, g1, f0, f1⟩ := nn
    have zb : b < wr.heap.size := by have := hbel.size; omega
    have zc : c < wr.heap.size := by have := hbel.size; omega
    by_cases hlt : i < zs.length
    · have hlw : i < ws.length := by omega
      have hb1 := (hbel.cell (p := ⟨b, i, none⟩) hbl).trans (HB.out i hlt)
      have hc1 := (hbel.cell (p := ⟨c, i, none⟩) hcl).trans (HC.out i hlw)
      have hstep : dot p zs ws (i + 1) = (dot p zs ws i + zs.getD i 0 * ws.getD i 0) % p := rfl
      obtain ⟨d0, d1⟩ := dot_bd HP.out zs ws i
      obtain ⟨x, hx⟩ : ∃ x, x = zs.getD i 0 := ⟨_, rfl⟩
      obtain ⟨y, hy⟩ : ∃ y, y = ws.getD i 0 := ⟨_, rfl⟩
      rw [← hx] at hb1 hstep
      rw [← hy] at hc1 hstep
      have HX := Lib.hid hx
      have HY := Lib.hid hy
      obtain ⟨d, hd⟩ : ∃ d, d = dot p zs ws i := ⟨_, rfl⟩
      rw [← hd] at hstep d0 d1 g1
      have hN := N.out
      rw [← hd] at hN
      have NA : Hid (∀ o, NumAt (wr.alloc o) w.heap.size p d) := fun o => hN.alloc zT o
      have HS := Lib.hid hstep
      have hi1 : (i : Int) < (zs.length : Int) := by omega
      have hi2 : (i : Int) < (ws.length : Int) := by omega
      clear hx hy hd hstep hN
      by_cases hin : (0 ≤ x ∧ x < p) ∧ 0 ≤ y ∧ y < p
      · obtain ⟨⟨x0, x1⟩, y0, y1⟩ := hin
        obtain ⟨q0, q1⟩ := mod_bd HP.out (x * y)
        have HT2 : Hid ((zs.take (i + 1)).all (inr p) = true ∧ (ws.take (i + 1)).all (inr p) = true) :=
          ⟨by rw [all_take_succ hlt HX.out, HT.out.1, inr_iff.2 ⟨x0, x1⟩]; rfl, by rw [all_take_succ hlw HY.out, HT.out.2, inr_iff.2 ⟨y0, y1⟩]; rfl⟩
        have HC0 : Hid (codeOf p [x, y] = 0) := code_ok HP.out (by simp [inr, x0, x1, y0, y1])
        go_wp2
        go_region_held3 (fun w' => w'.cell? ⟨b, i, none⟩ = some (.int .i64 x) ∧ w'.cell? ⟨c, i, none⟩ = some (.int .i64 y)) (go_keep) (first | (go_at_call 20; refine (check_new p x y _ _).mono ?_; rintro e w1 ⟨rfl, rfl⟩; rw [HC0.out]))
        go_wp2
        go_region_with (first | (go_at_call 23; (refine (times_any p x y _ HP.out x0 x1 y0 y1).mono ?_; rintro e w1 ⟨rfl, hk1⟩; have hs1 := hk1.size; simp at hs1; have n8 := ((NA.out (Obj.cells #[.int .i64 x, .int .i64 y] 2)).drew.drew).keep hk1 (by simp; omega); obtain ⟨t0, t1, u0, u1⟩ := ((NA.out (Obj.cells #[.int .i64 x, .int .i64 y] 2)).drew.drew).keep hk1 (by simp; omega))) | (go_at_call 30; refine (plus_any p d (x * y % p) _ HP.out d0 d1 q0 q1).mono ?_; rintro e w2 ⟨rfl, hb2⟩; have hs2 := hb2.size; obtain ⟨s0, s1, r0, r1⟩ := n8.keep hb2 (by omega)))
        all_goals
          go_wp2
          go_roundw
          case rel => exact ⟨i + 1, by omega, by go_num, by rw [HS.out]; exact NumAt.set ⟨s0, s1, r0, r1⟩ p _, HT2, by (have hs_hb2 := hb2.size; have hs_hk1 := hk1.size; have hs_hbel := hbel.size; (repeat' (first | with_reducible exact Below.refl _ _ | (with_reducible refine Below.setCell ?_ ?_ _) | (with_reducible refine Below.alloc ?_ ?_ _) | (with_reducible refine Below.drew ?_) | (with_reducible refine below_step ?_ ?_ hb2) | (with_reducible refine below_step ?_ ?_ hk1) | (with_reducible refine below_step ?_ ?_ hbel))); all_goals (first | (simp; done) | omega | (simp; omega) | (simp at hs_hb2 hs_hk1 hs_hbel ⊢; omega))), by simp; omega⟩
          case measure => simp [intOf]; omega
      · have hbad : inr p x = false ∨ inr p y = false := by
          by_cases h : 0 ≤ x ∧ x < p
          · exact .inr (inr_not.2 (fun k => hin ⟨h, k⟩))
          · exact .inl (inr_not.2 h)
        have HC2 : Hid (codeOf p [x, y] = 2) := code_bad HP.out (by rcases hbad with h | h <;> simp [h])
        have HS2 := Lib.hid (dot_bad (zs := zs) (ws := ws) HP.out (by
          rcases hbad with h | h
          · simp [dotOk, all_false_of hlt HX.out h]
          · simp [dotOk, all_false_of hlw HY.out h] : dotOk p zs ws = false))
        clear hin hbad
        go_wp2
        go_region_held3 (fun w' => w'.cell? ⟨b, i, none⟩ = some (.int .i64 x) ∧ w'.cell? ⟨c, i, none⟩ = some (.int .i64 y)) (go_keep) (first | (go_at_call 20; refine (check_new p x y _ _).mono ?_; rintro e w1 ⟨rfl, rfl⟩; rw [HC2.out]))
        go_wp2
        go_ret2
        exact ⟨by rw [HS2.out.1, HS2.out.2]; rfl, by (have hs_hbel := hbel.size; (repeat' (first | with_reducible exact Below.refl _ _ | (with_reducible refine Below.setCell ?_ ?_ _) | (with_reducible refine Below.alloc ?_ ?_ _) | (with_reducible refine Below.drew ?_) | (with_reducible refine below_step ?_ ?_ hbel))); all_goals (first | (simp; done) | omega | (simp; omega) | (simp at hs_hbel ⊢; omega)))⟩
    · have HQ : Hid (i = zs.length) := by show i = zs.length; omega
      have HS := Lib.hid (dot_yes HP.out (by
        have h1 := HT.out.1
        have h2 := HT.out.2
        rw [List.take_of_length_le (by omega)] at h1 h2
        simp [dotOk, HL.out, h1, h2]; omega : dotOk p zs ws = true))
      go_wp2
      go_ret2
      exact ⟨by rw [HS.out.1, HS.out.2, ← HQ.out]; rfl, hbel⟩

end Go.Proofs.Ytgkifpampmmhoab
