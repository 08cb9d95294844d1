/-
  Powers of matrices, in the program and in the model.
  Conditions: the matrix is nil or a row of rows of known cells.
-/
import Derived.Test.YtkibkkdeaojjoabQf30
import Derived.Test.YtkibkkdeaojjoabQf10
namespace Go.Proofs.Ytkibkkdeaojjoab
open Go.RowKit
set_option linter.unusedVariables false

set_option maxHeartbeats 1600000 in
theorem unitMatrix_any (n : Nat) (w : World) (hn : n ≤ 1024) (h0 : 1 ≤ n) :
    Calls Try.prog 52 #[.int .i64 n] w (OwnNew (oneM n) w) := by
  go_enter Try.func52, Try.ntmps52
  go_wp2_with (go_at_call 89; (with_reducible refine (newMatrix_any n n _ (by omega) (by omega) (by omega)).mono ?_); rintro e w1 ⟨q, rfl, ho1, hb1⟩; have HO1 := Lib.hid ho1; have HB1 := Lib.hid hb1; clear ho1 hb1)
  go_loopw [10] (fun t wr => ∃ i : Nat, i ≤ n ∧ t = .int .i64 i ∧ OwnAt w.heap.size w1.heap.size wr q n (fun _ => n) (fun k j => if k < i ∧ k = j then 1 else 0) ∧ Below w.heap.size w wr ∧ wr.heap.size = w1.heap.size) (fun t _ => n - (intOf t).toNat)
  case atStart => exact ⟨0, Nat.zero_le _, rfl, HO1.out.congr (fun i _ j _ => by simp), HB1.out, rfl⟩
  case round =>
    obtain ⟨i, hi, rfl, ho, hbel, hsz⟩ := hrel
    have HO := Lib.hid ho
    have HBEL := Lib.hid hbel
    have HSZ := Lib.hid hsz
    clear hsz hbel
    by_cases hlt : i < n
    · have ht3 := ho.top i hlt
      have hR := (ho.row i hlt).resolve_left (by omega)
      rw [hR] at ht3
      have hf3 := ho.free i hlt i hlt
      have hrg := ho.rrng i hlt (by omega)
      obtain ⟨y, hy⟩ : ∃ y, wr.cell? ⟨q.B i, q.O i + i, none⟩ = some (.int .i64 y) := ⟨_, ho.cell i hlt i hlt⟩
      have hi1 : (i : Int) < (n : Int) := by omega
      clear ho hR
      go_wp2
      go_roundw
      case rel => exact ⟨i + 1, by omega, by go_num, (HO.out.set hlt hlt 1).congr (fun k hk j _ => by
        by_cases e1 : k = i ∧ j = i
        · obtain ⟨rfl, rfl⟩ := e1
          rw [if_pos ⟨rfl, rfl⟩, if_pos ⟨by omega, rfl⟩]
        · rw [if_neg e1]
          by_cases e2 : k < i ∧ k = j
          · rw [if_pos e2, if_pos ⟨by omega, e2.2⟩]
          · rw [if_neg e2, if_neg (by omega)]), HBEL.out.setCell hrg.1 _, by simpa [World.setCell] using HSZ.out⟩
      case measure => simp [intOf]; omega
    · have hn : i = n := by omega
      subst hn
      have HF := Lib.hid (HO.out.congr (Z' := fun k j => if k = j then 1 else 0) (fun k hk j _ => by
        by_cases e : k = j
        · rw [if_pos ⟨hk, e⟩, if_pos e]
        · rw [if_neg (fun h => e h.2), if_neg e]))
      clear ho
      go_wp2
      go_ret
      exact ⟨_, i, by unfold oneM; rw [mk_len]; rfl, (HF.out.mono (Nat.le_refl _) (by rw [HSZ.out]; exact Nat.le_refl _)).ownM, HBEL.out⟩

/-! ### Powers -/
def pwF (p : Int) : Nat → Nat → List (List Int) → List (List Int) → List (List Int)
  | 0, _, out, _ => out
  | f + 1, k, out, step => if k = 0 then out else pwF p f (k / 2) (if k % 2 = 1 then mulM p out step else out) (mulM p step step)
def powM (p : Int) (m : List (List Int)) (k : Nat) : List (List Int) := pwF p 11 k (oneM m.length) m
/-- A square matrix with n rows of numbers. -/
def Sq (p : Int) (m : List (List Int)) (n : Nat) : Prop := Rect p m n ∧ m.length = n
theorem Sq.one {p : Int} (hp : prm p = true) {n : Nat} (hn : n ≤ 1024) : Sq p (oneM n) n := by
  have := prm_bd hp
  refine ⟨⟨by unfold oneM; rw [mk_len]; exact hn, hn, fun i hi => ?_, fun i hi j hj => ?_⟩, by unfold oneM; rw [mk_len]⟩
  · unfold oneM at hi ⊢; rw [mk_len] at hi; exact mk_rowLen _ hi
  · unfold oneM at hi hj ⊢
    rw [mk_len] at hi
    rw [mk_rowLen _ hi] at hj
    have e : (rw' (mk n n fun i j => if i = j then 1 else 0) i).getD j 0 = if i = j then 1 else 0 := mk_at _ hi hj
    rw [e]; split <;> omega
theorem Sq.size {p : Int} {m : List (List Int)} {n : Nat} (h : Sq p m n) (hn : n ≤ 16) : m.length + tot m m.length ≤ 1048576 := by
  rw [tot_const h.1.len (Nat.le_refl _), h.2]
  have : n * n ≤ 16 * 16 := Nat.mul_le_mul hn hn
  omega
theorem Sq.of {p : Int} {m : List (List Int)} (h : Lst 1 p m) (k : m.length = (rw' m 0).length) : Sq p m m.length := ⟨by rw [k]; have := rect_of h; exact this, rfl⟩
/-- Where a loop of powers stands: f rounds may come. -/
def PwAt (p : Int) (m : List (List Int)) (k0 k f : Nat) (out step : List (List Int)) : Prop :=
  k < 2 ^ f ∧ f ≤ 11 ∧ pwF p f k out step = powM p m k0 ∧ Sq p out m.length ∧ Sq p step m.length
theorem PwAt.start {p : Int} {m : List (List Int)} {k : Nat} (h : Lst 1 p m) (hq : m.length = (rw' m 0).length) (hk : k ≤ 1000) : PwAt p m k k 11 (oneM m.length) m :=
  ⟨by omega, Nat.le_refl _, rfl, Sq.one h.prime (by have := h.hi; omega), Sq.of h hq⟩
theorem Sq.r2 {p : Int} {a b : List (List Int)} {n : Nat} (ha : Sq p a n) (hb : Sq p b n) : Rect p a b.length := by rw [hb.2]; exact ha.1
theorem Sq.r0 {p : Int} {b : List (List Int)} {n : Nat} (hb : Sq p b n) (h0 : 0 < n) : Rect p b (rw' b 0).length ∧ 0 < b.length := by
  rw [hb.1.len 0 (by rw [hb.2]; exact h0), hb.2]; exact ⟨hb.1, h0⟩
end Go.Proofs.Ytkibkkdeaojjoab
