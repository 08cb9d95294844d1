/-
  Powers of matrices, in the program and in the model.
  Conditions: the matrix is nil or a row of rows of known cells.
-/
import Derived.Test.YtckndpoklimnbaaFTrc
import Derived.Test.YtckndpoklimnbaaOwn
import Derived.Test.YtckndpoklimnbaaSpT
namespace Go.Proofs.Ytckndpoklimnbaa
open Go.RowKit
set_option linter.unusedVariables false

set_option maxHeartbeats 1600000 in
theorem unitMatrix_any (n : Nat) (w : World) (hn : n ≤ 1024) (h0 : 1 ≤ n) :
    Calls Try.prog 82 #[.int .i64 n] w (OwnNew (oneM n) w) := by
  go_enter Try.func82, Try.ntmps82
  go_wp2_with (go_at_call 98; (with_reducible refine (newMatrix_any n n _ (by omega) (by omega) (by omega)).mono ?_); rintro e w1 ⟨q, rfl, ho1, hb1⟩; have HO1 := Lib.hid ho1; have HB1 := Lib.hid hb1; clear ho1 hb1)
  go_loopw [10] (fun t wr => ∃ i : Nat, i ≤ n ∧ t = .int .i64 i ∧ OwnAt w.heap.size w1.heap.size wr q n (fun _ => n) (fun k j => if k < i ∧ k = j then 1 else 0) ∧ Below w.heap.size w wr ∧ wr.heap.size = w1.heap.size) (fun t _ => n - (intOf t).toNat)
  case atStart => exact ⟨0, Nat.zero_le _, rfl, HO1.out.congr (fun i _ j _ => by simp), HB1.out, rfl⟩
  case round =>
    obtain ⟨i, hi, rfl, ho, hbel, hsz⟩ := hrel
    have HO := Lib.hid ho
    have HBEL := Lib.hid hbel
    have HSZ := Lib.hid hsz
    clear hsz hbel
    by_cases hlt : i < n
    · have ht3 := ho.top i hlt
      have hR := (ho.row i hlt).resolve_left (by omega)
      rw [hR] at ht3
      have hf3 := ho.free i hlt i hlt
      have hrg := ho.rrng i hlt (by omega)
      obtain ⟨y, hy⟩ : ∃ y, wr.cell? ⟨q.B i, q.O i + i, none⟩ = some (.int .i64 y) := ⟨_, ho.cell i hlt i hlt⟩
      have hi1 : (i : Int) < (n : Int) := by omega
      clear ho hR
      go_wp2
      go_roundw
      case rel => exact ⟨i + 1, by omega, by go_num, (HO.out.set hlt hlt 1).congr (fun k hk j _ => by
        by_cases e1 : k = i ∧ j = i
        · obtain ⟨rfl, rfl⟩ := e1
          rw [if_pos ⟨rfl, rfl⟩, if_pos ⟨by omega, rfl⟩]
        · rw [if_neg e1]
          by_cases e2 : k < i ∧ k = j
          · rw [if_pos e2, if_pos ⟨by omega, e2.2⟩]
          · rw [if_neg e2, if_neg (by omega)]), HBEL.out.setCell hrg.1 _, by simpa [World.setCell] using HSZ.out⟩
      case measure => simp [intOf]; omega
    · have hn : i = n := by omega
      subst hn
      have HF := Lib.hid (HO.out.congr (Z' := fun k j => if k = j then 1 else 0) (fun k hk j _ => by
        by_cases e : k = j
        · rw [if_pos ⟨hk, e⟩, if_pos e]
        · rw [if_neg (fun h => e h.2), if_neg e]))
      clear ho
      go_wp2
      go_ret
      exact ⟨_, i, by unfold oneM; rw [mk_len]; rfl, (HF.out.mono (Nat.le_refl _) (by rw [HSZ.out]; exact Nat.le_refl _)).ownM, HBEL.out⟩

/-! ### Powers -/
def pwF (p : Int) : Nat → Nat → List (List Int) → List (List Int) → List (List Int)
  | 0, _, out, _ => out
  | f + 1, k, out, step => if k = 0 then out else pwF p f (k / 2) (if k % 2 = 1 then mulM p out step else out) (mulM p step step)
def powM (p : Int) (m : List (List Int)) (k : Nat) : List (List Int) := pwF p 11 k (oneM m.length) m
def pwV (p : Int) (m : List (List Int)) (k : Int) : List (List Int) := if sqC p m = 0 ∧ 0 ≤ k ∧ k ≤ 1000 then powM p m k.toNat else []
def pwC (p : Int) (m : List (List Int)) (k : Int) : Int := if sqC p m = 0 then (if 0 ≤ k ∧ k ≤ 1000 then 0 else 2) else sqC p m
/-- A square matrix with n rows of numbers. -/
def Sq (p : Int) (m : List (List Int)) (n : Nat) : Prop := Rect p m n ∧ m.length = n
theorem Sq.one {p : Int} (hp : prm p = true) {n : Nat} (hn : n ≤ 1024) : Sq p (oneM n) n := by
  have := prm_bd hp
  refine ⟨⟨by unfold oneM; rw [mk_len]; exact hn, hn, fun i hi => ?_, fun i hi j hj => ?_⟩, by unfold oneM; rw [mk_len]⟩
  · unfold oneM at hi ⊢; rw [mk_len] at hi; exact mk_rowLen _ hi
  · unfold oneM at hi hj ⊢
    rw [mk_len] at hi
    rw [mk_rowLen _ hi] at hj
    have e : (rw' (mk n n fun i j => if i = j then 1 else 0) i).getD j 0 = if i = j then 1 else 0 := mk_at _ hi hj
    rw [e]; split <;> omega
theorem Sq.mul {p : Int} (hp : prm p = true) {a b : List (List Int)} {n : Nat} (ha : Sq p a n) (hb : Sq p b n) (h0 : 0 < n) : Sq p (mulM p a b) n := by
  have hb0 : (rw' b 0).length = n := hb.1.len 0 (by rw [hb.2]; exact h0)
  refine ⟨⟨by unfold mulM; rw [mk_len, ha.2]; have := hb.1.cols; omega, hb.1.cols, fun i hi => ?_, fun i hi j hj => ?_⟩, by unfold mulM; rw [mk_len, ha.2]⟩
  · unfold mulM at hi ⊢; rw [mk_len] at hi; rw [mk_rowLen _ hi, hb0]
  · unfold mulM at hi hj ⊢
    rw [mk_len] at hi
    rw [mk_rowLen _ hi] at hj
    have e : (rw' (mk a.length (rw' b 0).length fun i k => sm b.length (fun j => at' a i j * at' b j k) % p) i).getD j 0 = sm b.length (fun j' => at' a i j' * at' b j' j) % p := mk_at _ hi hj
    rw [e]; exact mod_bd hp _
theorem Sq.pow {p : Int} (hp : prm p = true) {n : Nat} (h0 : 0 < n) : ∀ (f k : Nat) (out step : List (List Int)), Sq p out n → Sq p step n → Sq p (pwF p f k out step) n := by
  intro f
  induction f with
  | zero => intro k out step h _; exact h
  | succ f ih =>
    intro k out step h1 h2
    unfold pwF
    split
    · exact h1
    · refine ih _ _ _ ?_ (h2.mul hp h2 h0)
      split
      · exact h1.mul hp h2 h0
      · exact h1
theorem Sq.size {p : Int} {m : List (List Int)} {n : Nat} (h : Sq p m n) (hn : n ≤ 16) : m.length + tot m m.length ≤ 1048576 := by
  rw [tot_const h.1.len (Nat.le_refl _), h.2]
  have : n * n ≤ 16 * 16 := Nat.mul_le_mul hn hn
  omega
theorem Sq.of {p : Int} {m : List (List Int)} (h : Lst 1 p m) (k : m.length = (rw' m 0).length) : Sq p m m.length := ⟨by rw [k]; have := rect_of h; exact this, rfl⟩
theorem pwV_size (p : Int) (m : List (List Int)) (k : Int) : (pwV p m k).length + tot (pwV p m k) (pwV p m k).length ≤ 1048576 := by
  unfold pwV
  split
  · rename_i h
    rcases sq_cases p m with ⟨_, h2, h3⟩ | h1
    · have hn := h2.hi
      exact (Sq.pow h2.prime h2.lo 11 _ _ _ (Sq.one h2.prime (by omega)) (Sq.of h2 h3)).size hn
    · exact absurd h.1 h1
  · simp [tot]
theorem pwF_zero (p : Int) (f : Nat) (out step : List (List Int)) : pwF p f 0 out step = out := by
  cases f with
  | zero => rfl
  | succ f => unfold pwF; rw [if_pos rfl]
/-- Where a loop of powers stands: f rounds may come. -/
def PwAt (p : Int) (m : List (List Int)) (k0 k f : Nat) (out step : List (List Int)) : Prop :=
  k < 2 ^ f ∧ f ≤ 11 ∧ pwF p f k out step = powM p m k0 ∧ Sq p out m.length ∧ Sq p step m.length
theorem PwAt.start {p : Int} {m : List (List Int)} {k : Nat} (h : Lst 1 p m) (hq : m.length = (rw' m 0).length) (hk : k ≤ 1000) : PwAt p m k k 11 (oneM m.length) m :=
  ⟨by omega, Nat.le_refl _, rfl, Sq.one h.prime (by have := h.hi; omega), Sq.of h hq⟩
theorem PwAt.odd {p : Int} (hp : prm p = true) {m out step : List (List Int)} {k0 k f : Nat} (hm : 0 < m.length) (h : PwAt p m k0 k f out step) (hk : 0 < k) (ho : k % 2 = 1) : ∃ g, g < f ∧ PwAt p m k0 (k / 2) g (mulM p out step) (mulM p step step) := by
  obtain ⟨h1, h2, h3, h4, h5⟩ := h
  cases f with
  | zero => simp at h1; omega
  | succ f =>
    refine ⟨f, Nat.lt_succ_self _, by rw [Nat.pow_succ] at h1; omega, by omega, ?_, h4.mul hp h5 hm, h5.mul hp h5 hm⟩
    unfold pwF at h3
    rw [if_neg (by omega), if_pos ho] at h3
    exact h3
theorem PwAt.even {p : Int} (hp : prm p = true) {m out step : List (List Int)} {k0 k f : Nat} (hm : 0 < m.length) (h : PwAt p m k0 k f out step) (hk : 0 < k) (ho : ¬ k % 2 = 1) : ∃ g, g < f ∧ PwAt p m k0 (k / 2) g out (mulM p step step) := by
  obtain ⟨h1, h2, h3, h4, h5⟩ := h
  cases f with
  | zero => simp at h1; omega
  | succ f =>
    refine ⟨f, Nat.lt_succ_self _, by rw [Nat.pow_succ] at h1; omega, by omega, ?_, h4, h5.mul hp h5 hm⟩
    unfold pwF at h3
    rw [if_neg (by omega), if_neg ho] at h3
    exact h3

theorem Sq.r2 {p : Int} {a b : List (List Int)} {n : Nat} (ha : Sq p a n) (hb : Sq p b n) : Rect p a b.length := by rw [hb.2]; exact ha.1
theorem Sq.r0 {p : Int} {b : List (List Int)} {n : Nat} (hb : Sq p b n) (h0 : 0 < n) : Rect p b (rw' b 0).length ∧ 0 < b.length := by
  rw [hb.1.len 0 (by rw [hb.2]; exact h0), hb.2]; exact ⟨hb.1, h0⟩
theorem cast_half (k : Nat) : ((k : Int) / 2) = ((k / 2 : Nat) : Int) := by omega

set_option maxRecDepth 100000 in
set_option maxHeartbeats 3200000 in
theorem impl_PowerMatrix (p : Int) (am : Option Addr) (m : List (List Int)) (cm lom tpm : Nat) (k : Int) (w : World) (hm : MatIn lom tpm w am m) (tm : tpm ≤ w.heap.size) (sm' : m.length + tot m m.length ≤ 1048576) :
    Calls Try.prog 39 #[.int .i64 p, .slice am m.length cm, .int .i64 k] w (ImplM (pwV p m k) (pwC p m k) w) := by
  have Hm := Lib.hid hm
  have Sm := Lib.hid sm'
  clear hm sm'
  rcases sq_cases p m with ⟨h1, h2, h3⟩ | h1
  · have HC := Lib.hid h1
    have L1 := Lib.hid h2
    have HE := Lib.hid h3
    have hpb := prm_bd h2.prime
    have hn := h2.hi
    have hn0 := h2.lo
    by_cases hk : 0 ≤ k ∧ k ≤ 1000
    · have HV : Hid (pwV p m k = powM p m k.toNat ∧ pwC p m k = 0) := by show _ ∧ _; unfold pwV pwC; simp [h1, hk]
      obtain ⟨k, rfl⟩ : ∃ n : Nat, k = n := ⟨k.toNat, by omega⟩
      have hk2 : k ≤ 1000 := by omega
      have hP := PwAt.start (k := k) h2 h3 hk2
      have HP := Lib.hid hP
      clear h1 h2 h3 hk hP
      go_enter Try.func39, Try.ntmps39
      go_wp2_with (first | (go_at_call 79; (with_reducible refine (checkSquare_any p _ m _ lom tpm w Hm.out tm Sm.out).mono ?_); rintro e w1 ⟨rfl, hb⟩; rw [HC.out]; have HB := Lib.hid hb; have hz1 := hb.size; clear hb) | (go_at_call 82; (with_reducible refine (unitMatrix_any m.length _ (by omega) (by omega)).mono ?_); rintro e w2 ⟨r2, c2, rfl, ho2, hb2⟩; have HO2 := Lib.hid (ho2.mono hz1 (Nat.le_refl _)); have HB2 := Lib.hid (HB.out.trans (hb2.mono hz1)); have hz2 := hb2.size; clear ho2 hb2))
      go_loopw [2, 9, 10] (fun s2 s9 s10 wr => ∃ (k' f : Nat) (out step : List (List Int)) (r r' : Option Addr) (c c' : Nat), s2 = .int .i64 k' ∧ s9 = .slice r out.length c ∧ s10 = .slice r' step.length c' ∧ PwAt p m k k' f out step ∧ OwnM w.heap.size wr.heap.size wr r out ∧ (∃ lo tp, tp ≤ wr.heap.size ∧ MatIn lo tp wr r' step) ∧ Below w.heap.size w wr) (fun s2 _ _ _ => (intOf s2).toNat)
      case atStart => exact ⟨k, 11, oneM m.length, m, r2, am, c2, cm, rfl, rfl, rfl, HP.out, HO2.out, ⟨lom, tpm, by omega, Hm.out.below HB2.out tm⟩, HB2.out⟩
      case round =>
        obtain ⟨k', f, out, step, r, r', c, c', rfl, rfl, rfl, hP, ho, ⟨lo2, tp2, h2t, hs⟩, hbel⟩ := hrel
        have HPw := Lib.hid hP
        have HS1 := Lib.hid hP.2.2.2.1
        have HS2 := Lib.hid hP.2.2.2.2
        have HOut := Lib.hid ho
        have HStep := Lib.hid hs
        have HBEL := Lib.hid hbel
        have hwz := hbel.size
        have hk1000 : k' ≤ 4096 := by have h1 := hP.1; have h2 := Nat.pow_le_pow_right (by omega : 0 < 2) hP.2.1; omega
        clear hP ho hs hbel
        by_cases hpos : 0 < k'
        · by_cases hodd : k' % 2 = 1
          · have e1 : (((k' : Int) % 2) == 1) = true := by simp; omega
            obtain ⟨g, hg, hP2⟩ := HPw.out.odd L1.out.prime hn0 hpos hodd
            have HP2 := Lib.hid hP2
            clear hodd hP2
            go_wp2_with (first | (go_at_call 73; (with_reducible refine (timesMatrix_any p _ _ out step _ _ _ _ lo2 tp2 wr L1.out.prime HOut.out.mat HStep.out (Nat.le_refl _) h2t (HS1.out.r2 HS2.out) (HS2.out.r0 (by omega)).1 (HS2.out.r0 (by omega)).2).mono ?_); rintro e w4 ⟨r4, c4, rfl, ho4, hb4⟩; have HO4 := Lib.hid (ho4.mono hwz (Nat.le_refl _)); have HB4 := Lib.hid hb4; have HStep4 := Lib.hid (HStep.out.below hb4 h2t); have hz4 := hb4.size; clear ho4 hb4) | (go_at_call 73; (with_reducible refine (timesMatrix_any p _ _ step step _ _ lo2 tp2 lo2 tp2 w4 L1.out.prime HStep4.out HStep4.out (by omega) (by omega) (HS2.out.r2 HS2.out) (HS2.out.r0 (by omega)).1 (HS2.out.r0 (by omega)).2).mono ?_); rintro e w5 ⟨r5, c5, rfl, ho5, hb5⟩; have HO5 := Lib.hid ho5; have HB5 := Lib.hid hb5; have hz5 := hb5.size; clear ho5 hb5))
            go_roundw
            case rel => exact ⟨k' / 2, g, _, _, r4, r5, c4, c5, congrArg (Value.int .i64) (cast_half k'), rfl, rfl, HP2.out, (HO4.out.below HB5.out (Nat.le_refl _)).mono (Nat.le_refl _) hz5, ⟨_, _, Nat.le_refl _, HO5.out.mat⟩, (HBEL.out.trans (HB4.out.mono hwz)).trans (HB5.out.mono (by omega))⟩
            case measure => simp [intOf]; omega
          · have e1 : (((k' : Int) % 2) == 1) = false := by simp; omega
            obtain ⟨g, hg, hP2⟩ := HPw.out.even L1.out.prime hn0 hpos hodd
            have HP2 := Lib.hid hP2
            clear hodd hP2
            go_wp2_with (go_at_call 73; (with_reducible refine (timesMatrix_any p _ _ step step _ _ lo2 tp2 lo2 tp2 wr L1.out.prime HStep.out HStep.out (by omega) (by omega) (HS2.out.r2 HS2.out) (HS2.out.r0 (by omega)).1 (HS2.out.r0 (by omega)).2).mono ?_); rintro e w5 ⟨r5, c5, rfl, ho5, hb5⟩; have HO5 := Lib.hid ho5; have HB5 := Lib.hid hb5; have hz5 := hb5.size; clear ho5 hb5)
            go_roundw
            case rel => exact ⟨k' / 2, g, _, _, r, r5, c, c5, congrArg (Value.int .i64) (cast_half k'), rfl, rfl, HP2.out, (HOut.out.below HB5.out (Nat.le_refl _)).mono (Nat.le_refl _) hz5, ⟨_, _, Nat.le_refl _, HO5.out.mat⟩, HBEL.out.trans (HB5.out.mono hwz)⟩
            case measure => simp [intOf]; omega
        · obtain rfl : 0 = k' := by omega
          have HF : Hid (out = powM p m k) := by show _ = _; have := HPw.out.2.2.1; rwa [pwF_zero] at this
          clear hpos
          go_wp2
          go_ret2
          rw [HV.out.1, HV.out.2, Int.toNat_natCast, ← HF.out]
          exact ⟨r, c, rfl, HOut.out, HBEL.out⟩
    · have HV : Hid (pwV p m k = [] ∧ pwC p m k = 2) := by show _ ∧ _; unfold pwV pwC; simp [h1, hk]
      clear h1 h2 h3
      by_cases hk0 : k < 0
      · clear hk
        go_enter Try.func39, Try.ntmps39
        go_wp2_with (go_at_call 79; (with_reducible refine (checkSquare_any p _ m _ lom tpm w Hm.out tm Sm.out).mono ?_); rintro e w1 ⟨rfl, hb⟩; rw [HC.out]; have HB := Lib.hid hb; have hz1 := hb.size; clear hb)
        go_ret2
        rw [HV.out.1, HV.out.2]
        exact ⟨none, 0, rfl, .inl rfl, HB.out⟩
      · have hk1 : 1000 < k := by omega
        clear hk
        go_enter Try.func39, Try.ntmps39
        go_wp2_with (go_at_call 79; (with_reducible refine (checkSquare_any p _ m _ lom tpm w Hm.out tm Sm.out).mono ?_); rintro e w1 ⟨rfl, hb⟩; rw [HC.out]; have HB := Lib.hid hb; have hz1 := hb.size; clear hb)
        go_ret2
        rw [HV.out.1, HV.out.2]
        exact ⟨none, 0, rfl, .inl rfl, HB.out⟩
  · have e1 : (sqC p m == 0) = false := by simpa using h1
    have e2 : (sqC p m != 0) = true := by simpa using h1
    have HV : Hid (pwV p m k = [] ∧ pwC p m k = sqC p m) := by show _ ∧ _; unfold pwV pwC; simp [h1]
    obtain ⟨q, hq0⟩ : ∃ q, q = sqC p m := ⟨_, rfl⟩
    have HQ0 := Lib.hid hq0
    rw [← hq0] at e1 e2
    clear h1 hq0
    go_enter Try.func39, Try.ntmps39
    go_wp2_with (go_at_call 79; (with_reducible refine (checkSquare_any p _ m _ lom tpm w Hm.out tm Sm.out).mono ?_); rintro e w1 ⟨rfl, hb⟩; rw [← HQ0.out]; have HB := Lib.hid hb; have hz1 := hb.size; clear hb)
    go_ret2
    rw [HV.out.1, HV.out.2, ← HQ0.out]
    exact ⟨none, 0, rfl, .inl rfl, HB.out⟩

end Go.Proofs.Ytckndpoklimnbaa
