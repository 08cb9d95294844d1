/-
  Sums of products of lists, and products of matrices with vectors, in the program and in the model: contracts.
  Conditions: the lists and matrices are rows of known cells with numbers of the prime; their sizes fit.
  Matrices with rows of one length, and their products with vectors in the program: contracts.
  Conditions: the matrices are rows of rows of known cells with numbers of the prime; their sizes fit.
  Copies of lists and matrices in the model, copies of lists in the program, and unit matrices in both: contracts.
  Conditions: the lists are rows of known cells, not empty.
  Multiples added to lists and lists multiplied, in place, in the program: contracts.
  Conditions: the arguments are nil or rows of known cells, of at most 1048576 numbers.
-/
import Derived.Test.YtkibkkdeaojjoaaQb8
import Derived.Deep.AppendLies
import Derived.BigQuiet
import Derived.Lib.SliceRun
import Derived.RegionTactic
import Derived.ChangeAlike
namespace Go.Proofs.Ytkibkkdeaojjoaa
open Go.RowKit
set_option linter.unusedVariables false

def sdot (za zb : List Int) (i : Nat) : Int := sm i fun j => za.getD j 0 * zb.getD j 0
def Nums (p : Int) (z : List Int) : Prop := ∀ j, j < z.length → 0 ≤ z.getD j 0 ∧ z.getD j 0 < p
theorem Nums.of {p : Int} {z : List Int} (h : z.all (inr p) = true) : Nums p z := by
  intro j hj
  rw [List.all_eq_true] at h
  exact inr_iff.1 (h _ (by rw [getD_at hj]; exact List.getElem_mem hj))
theorem mul_bd' {p x y : Int} (hp : p ≤ 13) (x0 : 0 ≤ x) (x1 : x < p) (y0 : 0 ≤ y) (y1 : y < p) : 0 ≤ x * y ∧ x * y ≤ 144 :=
  ⟨Int.mul_nonneg x0 y0, Int.le_trans (Int.mul_le_mul_of_nonneg_right (by omega : x ≤ 12) y0) (Int.mul_le_mul_of_nonneg_left (by omega : y ≤ 12) (by omega))⟩
theorem sdot_bd {p : Int} {za zb : List Int} (hp : p ≤ 13) (ha : Nums p za) (hb : Nums p zb) {i : Nat} (h1 : i ≤ za.length) (h2 : i ≤ zb.length) : 0 ≤ sdot za zb i ∧ sdot za zb i ≤ i * 144 :=
  sm_bd fun j hj => mul_bd' hp (ha j (by omega)).1 (ha j (by omega)).2 (hb j (by omega)).1 (hb j (by omega)).2
theorem add_mod' (a b p : Int) : (a % p + b) % p = (a + b) % p := by rw [Int.add_emod, Int.emod_emod, ← Int.add_emod]

set_option maxHeartbeats 1600000 in
theorem dotI (p : Int) (a b : Option Addr) (za zb : List Int) (ca cb lo tp lo' tp' : Nat) (w : World) (hp : prm p = true) (ha : RowIn lo tp w a za) (hb : RowIn lo' tp' w b zb) (hl : za.length ≤ zb.length) (hs : za.length ≤ 100000) (hna : Nums p za) (hnb : Nums p zb) :
    Calls Try.prog 113 #[.int .i64 p, .slice a za.length ca, .slice b zb.length cb] w fun e w' => e = .returned (.int .i64 (sdot za zb za.length % p)) ∧ Quiet w w' := by
  have hpb := prm_bd hp
  have HA := Lib.hid ha
  have HB := Lib.hid hb
  have HNA := Lib.hid hna
  have HNB := Lib.hid hnb
  clear ha hb hna hnb hp
  go_enter Try.func113, Try.ntmps113
  go_wp2
  go_loopw [7, 11] (fun s t wr => ∃ i : Nat, i ≤ za.length ∧ s = .int .i64 (sdot za zb i) ∧ t = .int .i64 i ∧ Quiet w wr) (fun _ t _ => za.length - (intOf t).toNat)
  case atStart => exact ⟨0, Nat.zero_le _, by simp [sdot, sm], rfl, Quiet.refl _⟩
  case round =>
    obtain ⟨i, hi', rfl, rfl, hq⟩ := hrel
    have HQ := Lib.hid hq
    by_cases hlt : i < za.length
    · obtain ⟨b1, o1, ha1, _, _, hc1⟩ := (HA.out.same (hq.same _ _)).num hlt
      obtain ⟨b2, o2, ha2, _, _, hc2⟩ := (HB.out.same (hq.same _ _)).num (by omega : i < zb.length)
      subst ha1
      subst ha2
      obtain ⟨x0, x1⟩ := HNA.out i hlt
      obtain ⟨y0, y1⟩ := HNB.out i (by omega)
      have hst : sdot za zb i + za.getD i 0 * zb.getD i 0 = sdot za zb (i + 1) := rfl
      obtain ⟨d0, d1⟩ := sdot_bd hpb.2 HNA.out HNB.out (i := i) (by omega) (by omega)
      obtain ⟨x, hx⟩ : ∃ x, x = za.getD i 0 := ⟨_, rfl⟩
      obtain ⟨y, hy⟩ : ∃ y, y = zb.getD i 0 := ⟨_, rfl⟩
      obtain ⟨d, hd⟩ : ∃ d, d = sdot za zb i := ⟨_, rfl⟩
      rw [← hx] at hc1 x0 x1 hst
      rw [← hy] at hc2 y0 y1 hst
      rw [← hd] at d0 d1 hst
      rw [← hd]
      have HS := Lib.hid hst
      clear hx hy hd hst hq
      obtain ⟨m0, m1⟩ := mul_bd' hpb.2 x0 x1 y0 y1
      have hi2 : (i : Int) < (zb.length : Int) := by omega
      have hi1 : (i : Int) < (za.length : Int) := by omega
      have e1 : IntKind.i64.wrap (x * y) = x * y := IntWalk.i64_in _ (by omega)
      have e2 : IntKind.i64.wrap (d + x * y) = d + x * y := IntWalk.i64_in _ (by omega)
      go_wp2
      go_quiet (fail)
      clear e1 e2
      go_wp2
      go_roundw
      case rel => exact ⟨i + 1, by omega, by rw [HS.out], by go_num, HQ.out.next _⟩
      case measure => simp [intOf]; omega
    · have hn : i = za.length := by omega
      subst hn
      obtain ⟨d0, d1⟩ := sdot_bd hpb.2 HNA.out HNB.out (i := za.length) (by omega) (by omega)
      obtain ⟨d, hd⟩ : ∃ d, d = sdot za zb za.length := ⟨_, rfl⟩
      rw [← hd] at d0 d1
      have HD := Lib.hid hd
      rw [← hd]
      clear hq hd
      go_wp2
      go_ret
      exact ⟨by rw [← HD.out]; rfl, HQ.out⟩

/-- A vector of products of rows. -/
def appV (p : Int) (a : List (List Int)) (v : List Int) : List Int := mkR a.length fun i => sdot (rw' a i) v (rw' a i).length % p

end Go.Proofs.Ytkibkkdeaojjoaa

namespace Go.Proofs.Ytkibkkdeaojjoaa
open Go.RowKit Go.ChangeShapes Go.WideShapes
set_option linter.unusedVariables false

/-- Rows of c numbers of the prime, at most 1024 of at most 1024. -/
structure Rect (p : Int) (m : List (List Int)) (c : Nat) : Prop where
  rows : m.length ≤ 1024
  cols : c ≤ 1024
  len : ∀ i, i < m.length → (rw' m i).length = c
  num : ∀ i, i < m.length → Nums p (rw' m i)
theorem Rect.at {p : Int} {m : List (List Int)} {c : Nat} (h : Rect p m c) {i j : Nat} (hi : i < m.length) (hj : j < c) : 0 ≤ at' m i j ∧ at' m i j < p := h.num i hi j (by rw [h.len i hi]; exact hj)
theorem Rect.tr {p : Int} {m : List (List Int)} {c : Nat} (h : Rect p m c) (hc : c = (rw' m 0).length) : Rect p (trM m) m.length where
  rows := by unfold trM; rw [mk_len, ← hc]; exact h.cols
  cols := h.rows
  len i hi := by unfold trM at hi ⊢; rw [mk_len] at hi; exact mk_rowLen _ hi
  num i hi j hj := by
    unfold trM at hi hj ⊢
    rw [mk_len] at hi
    rw [mk_rowLen _ hi] at hj
    have : (rw' (Go.Proofs.Ytkibkkdeaojjoaa.mk (rw' m 0).length m.length fun k i => at' m i k) i).getD j 0 = at' m j i := mk_at _ hi hj
    rw [this]; exact h.at hj (by rw [hc]; exact hi)

theorem mul_row {p : Int} {a b : List (List Int)} {i : Nat} (hi : i < a.length) (hb : Rect p b (rw' b 0).length) : rw' (mulM p a b) i = appV p (trM b) (rw' a i) := by
  unfold mulM appV
  rw [mk_row _ hi]
  have e : (trM b).length = (rw' b 0).length := by unfold trM; rw [mk_len]
  rw [e]
  apply mkR_congr
  intro k hk
  have e2 : (rw' (trM b) k).length = b.length := by unfold trM; rw [mk_rowLen _ hk]
  rw [e2]
  congr 1
  unfold sdot
  apply sm_congr
  intro j hj
  have e3 : (rw' (trM b) k).getD j 0 = at' b j k := by unfold trM; exact mk_at _ hk hj
  rw [e3, Int.mul_comm]; rfl

set_option maxHeartbeats 1600000 in
theorem timesVector_any (p : Int) (a b : Option Addr) (m : List (List Int)) (v : List Int) (ca cb lo tp lo' tp' : Nat) (w : World) (hp : prm p = true) (hm : MatIn lo tp w a m) (hv : RowIn lo' tp' w b v) (ht : tp ≤ w.heap.size) (ht' : tp' ≤ w.heap.size)
    (hr : Rect p m v.length) (hnb : Nums p v) :
    Calls Try.prog 97 #[.int .i64 p, .slice a m.length ca, .slice b v.length cb] w (Copied (appV p m v) w) := by
  have HP := Lib.hid hp
  have HM := Lib.hid hm
  have HV := Lib.hid hv
  have HR := Lib.hid hr
  have HNB := Lib.hid hnb
  have hn := hr.rows
  have hvl := hr.cols
  have hZ : (appV p m v).length = m.length := mkR_len _ _
  have HZ := Lib.hid hZ
  obtain ⟨Z, hZe⟩ : ∃ Z, Z = appV p m v := ⟨_, rfl⟩
  rw [← hZe] at hZ
  rw [← hZe]
  have HZE := Lib.hid hZe
  have HZL := Lib.hid hZ
  have hmk := fun W => run_make_row' (P := Try.prog) 22 2 (.int .i64 0) 8 Try.underlying22 info64 rfl .i64 .i64 m.length (by omega) (by omega) W
  clear hm hv hnb hp hr hZ hZe
  go_enter Try.func97, Try.ntmps97
  go_wp2
  clear hmk
  go_loopw [15] (fun t wr => ∃ i : Nat, i ≤ m.length ∧ t = .int .i64 i ∧ Half wr w.heap.size i Z ∧ Below w.heap.size w wr) (fun t _ => m.length - (intOf t).toNat)
  case atStart => exact ⟨0, Nat.zero_le _, rfl, by have := Half.start w Z 2; rw [HZL.out] at this; exact this, by ((repeat' (first | with_reducible exact Below.refl _ _ | (with_reducible refine Below.setCell ?_ ?_ _) | (with_reducible refine Below.alloc ?_ ?_ _) | (with_reducible refine Below.drew ?_))); all_goals (first | (simp; done) | omega | (simp; omega)))⟩
  case round =>
    obtain ⟨i, hi, rfl, hh, hbel⟩ := hrel
    have HH := Lib.hid hh
    have HBEL := Lib.hid hbel
    by_cases hlt : i < m.length
    · obtain ⟨b1, o1, r, c1, ha1, _, hb1, hr1, hrow⟩ := (HM.out.below hbel ht).row hlt
      subst ha1
      have HROW := Lib.hid hrow
      have HVW := Lib.hid (HV.out.below hbel ht')
      have hlen := HR.out.len i hlt
      have HLen := Lib.hid hlen
      have hx0 : Z.getD i 0 = sdot (rw' m i) v (rw' m i).length % p := by rw [HZE.out]; exact mkR_at _ hlt
      have HX := Lib.hid hx0
      obtain ⟨x, hx⟩ : ∃ x, x = sdot (rw' m i) v (rw' m i).length % p := ⟨_, rfl⟩
      have HX' := Lib.hid hx
      have hsz := hh.lt
      have g0 := hh.rest i (Nat.le_refl _) (by rw [HZL.out]; exact hlt)
      have f0 := hh.free i
      clear hx hx0 hrow hbel hh hlen
      go_wp2_with (go_at_call 113; (with_reducible refine (dotI _ _ _ _ _ _ _ lo tp lo' tp' _ HP.out HROW.out HVW.out (by rw [HLen.out]; exact Nat.le_refl _) (by rw [HLen.out]; omega) (HR.out.num i hlt) HNB.out).mono ?_); rintro e w2 ⟨rfl, hq2⟩; have HQ2 := Lib.hid hq2; have g2 := (hq2.cell _).trans g0; have f2 := (((hq2.same 0 (w.heap.size + 1)).frozen (p := ⟨w.heap.size, i, none⟩) (Nat.zero_le _) (Nat.lt_succ_self _))).trans f0; rw [← HX'.out]; clear hq2)
      go_roundw
      case rel => exact ⟨i + 1, by omega, by go_num, by
        have := (HH.out.quiet HQ2.out).next (by rw [HZL.out]; exact hlt)
        rw [HX.out, ← HX'.out] at this; exact this, (HBEL.out.trans (HQ2.out.below _)).setCell (Nat.le_refl _) _⟩
      case measure => simp [intOf]; omega
    · have hn : i = m.length := by omega
      subst hn
      clear hbel hh
      go_wp2
      go_ret
      exact ⟨by rw [HZL.out]; rfl, HBEL.out, HH.out.lt, .inr ⟨_, 0, rfl, Nat.le_refl _, HH.out.lt, fun j hj => ⟨by rw [Nat.zero_add]; exact HH.out.done j (by rw [HZL.out] at hj; omega), by rw [Nat.zero_add]; exact HH.out.free j⟩⟩⟩

end Go.Proofs.Ytkibkkdeaojjoaa

namespace Go.Proofs.Ytkibkkdeaojjoaa
open Go.RowKit Go.ChangeShapes Go.WideShapes
set_option linter.unusedVariables false

theorem OutR.of {B n : Nat} {w : World} {v : Value} {zs : List Int} (h : w.ownsRow B 2 1 v n ([] ++ zs.map (Value.int .i64))) (hn : n = zs.length) : OutR B w v zs := by
  subst hn; simpa [OutR] using h

theorem take_snoc' {m : List (List Int)} {i : Nat} (h : i < m.length) : m.take (i + 1) = m.take i ++ [rw' m i] := by
  rw [List.take_succ_eq_append_getElem h]
  congr 2
  simp [rw', h]
theorem OutM.nextT {B n : Nat} {w w2 w1 : World} {o : Obj} {v v' : Value} {m : List (List Int)} {vals : List Value} {r : Option Addr} {cp : Nat} (hn : n < m.length)
    (ho : w.ownsRow B 22 1 v n vals) (hr : ∀ i, i < n → ∃ r c', vals[i]? = some (.slice r (rw' (m.take n) i).length c') ∧ TagR B w.heap.size w r (rw' (m.take n) i))
    (hz : TagR w.heap.size w2.heap.size w2 r (rw' m n)) (hB : B ≤ w.heap.size) (h2 : Below w.heap.size w w2) (h1 : w1.ownsRow B 22 1 v' (n + 1) (vals ++ [.slice r (rw' m n).length cp])) (hg : (w2.alloc o).grownBy w1 v.ownBlock) : OutM B w1 v' (m.take (n + 1)) := by
  have hb : Below w2.heap.size w2 (w2.alloc o) := (Below.refl _ _).alloc (Nat.le_refl _) o
  have hl : (m.take n).length = n := by rw [List.length_take]; omega
  rw [take_snoc' hn]
  refine OutM.push (m := m.take n) (w := w2.alloc o) (vals := vals) (by rw [hl]; exact (ho.kept (below_grown h2) (by cases hv : v.ownBlock <;> simp)).alloc o) (fun i hi => ?_) (hz.below hb (Nat.le_refl _) hB hb.size) (c := cp) (by rw [hl]; exact h1) hg
  rw [hl] at hi
  obtain ⟨r', c', g1, g2⟩ := hr i hi
  exact ⟨r', c', g1, (g2.below h2 (Nat.le_refl _) (Nat.le_refl _) h2.size).below hb (Nat.le_refl _) (Nat.le_refl _) hb.size⟩

end Go.Proofs.Ytkibkkdeaojjoaa

namespace Go.Proofs.Ytkibkkdeaojjoaa
open Go.RowKit
set_option linter.unusedVariables false

/-- A list of one's own, rewritten in place: what stands where. -/
structure RowOwn (w : World) (b o : Nat) (n : Nat) (f : Nat → Int) : Prop where
  cell : ∀ j, j < n → w.cell? ⟨b, o + j, none⟩ = some (.int .i64 (f j))
  free : ∀ j, j < n → w.frozen? ⟨b, o + j, none⟩ = false
theorem RowOwn.of {lo tp : Nat} {w : World} {a : Option Addr} {zs : List Int} (h : OwnR lo tp w a zs) (h0 : 0 < zs.length) : ∃ b o, a = some ⟨b, o, none⟩ ∧ lo ≤ b ∧ b < tp ∧ RowOwn w b o zs.length (fun j => zs.getD j 0) := by
  rcases h with h | ⟨b, o, ha, k0, k1, hc⟩
  · rw [h] at h0; simp at h0
  · exact ⟨b, o, ha, k0, k1, fun j hj => (hc j hj).1, fun j hj => (hc j hj).2⟩
theorem RowOwn.back {lo tp : Nat} {w : World} {b o : Nat} {zs : List Int} (h : RowOwn w b o zs.length (fun j => zs.getD j 0)) (h0 : lo ≤ b) (h1 : b < tp) : OwnR lo tp w (some ⟨b, o, none⟩) zs :=
  .inr ⟨b, o, rfl, h0, h1, fun j hj => ⟨h.cell j hj, h.free j hj⟩⟩
theorem RowOwn.step {w : World} {b o n i : Nat} {f g : Nat → Int} (h : RowOwn w b o n (fun j => if j < i then g j else f j)) (hi : i < n) (v : Value) (hv : v = .int .i64 (g i)) : RowOwn (w.setCell ⟨b, o + i, none⟩ v) b o n (fun j => if j < i + 1 then g j else f j) where
  cell j hj := by
    subst hv
    by_cases e : j = i
    · subst e; rw [if_pos (by omega)]; exact World.cell?_setCell_same w _ _ (h.cell j hj)
    · by_cases e2 : j < i
      · rw [if_pos (by omega)]; have h2 := h.cell j hj; rw [if_pos e2] at h2; exact (World.cell?_setCell_other _ _ _ _ (by first | (simp; done) | (simp; omega))).trans h2
      · rw [if_neg (by omega)]; have h2 := h.cell j hj; rw [if_neg e2] at h2; exact (World.cell?_setCell_other _ _ _ _ (by first | (simp; done) | (simp; omega))).trans h2
  free j hj := by simp [go_sem, h.free j hj]
theorem Wrote.same {b o n lo tp : Nat} {w w' : World} (h : Wrote b o n w w') (hb : b < lo ∨ tp ≤ b) : Same lo tp w w' := fun i i0 i1 => h.block i (by omega)
theorem RowOwn.drew {w : World} {b o n : Nat} {f : Nat → Int} (h : RowOwn w b o n f) : RowOwn w.drew b o n f := ⟨h.cell, h.free⟩

set_option maxRecDepth 100000 in
set_option maxHeartbeats 3200000 in
theorem scale_any (p k : Int) (b o n c : Nat) (f : Nat → Int) (w : World) (hp : prm p = true) (h : RowOwn w b o n f) (hn : n ≤ 100000) (hf : ∀ j, j < n → 0 ≤ f j ∧ f j < p) (k0 : 0 ≤ k) (k1 : k ≤ p) :
    Calls Try.prog 93 #[.int .i64 p, .slice (some ⟨b, o, none⟩) n c, .int .i64 k] w fun e w' => e = .returned (.tuple #[]) ∧ RowOwn w' b o n (fun j => f j * k % p) ∧ Wrote b o n w w' := by
  have hpb := prm_bd hp
  have H := Lib.hid h
  have HF := Lib.hid hf
  clear h hf hp
  go_enter Try.func93, Try.ntmps93
  go_wp2
  go_loopw [9] (fun t wr => ∃ i : Nat, i ≤ n ∧ t = .int .i64 i ∧ RowOwn wr b o n (fun j => if j < i then f j * k % p else f j) ∧ Wrote b o n w wr) (fun t _ => n - (intOf t).toNat)
  case atStart => exact ⟨0, Nat.zero_le _, rfl, ⟨fun j hj => by simpa using H.out.cell j hj, H.out.free⟩, Wrote.refl _ _ _ _⟩
  case round =>
    obtain ⟨i, hi, rfl, hr, hw⟩ := hrel
    have HR := Lib.hid hr
    have HW := Lib.hid hw
    by_cases hlt : i < n
    · have c0 := hr.cell i hlt
      rw [if_neg (Nat.lt_irrefl _)] at c0
      have f0 := hr.free i hlt
      obtain ⟨x0, x1⟩ := HF.out i hlt
      obtain ⟨x, hx⟩ : ∃ x, x = f i := ⟨_, rfl⟩
      rw [← hx] at c0 x0 x1
      have HX := Lib.hid hx
      have m0 : 0 ≤ x * k := Int.mul_nonneg x0 k0
      have m1 : x * k ≤ 13 * 13 := Int.le_trans (Int.mul_le_mul_of_nonneg_right (by omega : x ≤ 13) k0) (Int.mul_le_mul_of_nonneg_left (by omega) (by omega))
      have hi1 : (i : Int) < (n : Int) := by omega
      have e1 : IntKind.i64.wrap (x * k) = x * k := IntWalk.i64_in _ (by omega)
      have e3 : (x * k).tmod p = x * k % p := Int.tmod_eq_emod_of_nonneg (by omega)
      have hp0 : ¬ p = 0 := by omega
      have hp1 : (p == 0) = false := by simpa using hp0
      clear hr hw hx
      go_wp2
      clear e1 e3
      go_wp2
      go_roundw
      case rel => exact ⟨i + 1, by omega, by go_num, HR.out.step hlt _ (by rw [HX.out]), HW.out.set hlt _⟩
      case measure => simp [intOf]; omega
    · have hn : i = n := by omega
      subst hn
      have HE : Hid (RowOwn wr b o i (fun j => f j * k % p)) := ⟨fun j hj => by have := HR.out.cell j hj; rwa [if_pos hj] at this, HR.out.free⟩
      clear hr hw
      go_wp2
      go_end0
      exact ⟨rfl, HE.out, HW.out⟩

set_option maxRecDepth 100000 in
set_option maxHeartbeats 3200000 in
theorem addMultiple_any (p k : Int) (b o n c : Nat) (f : Nat → Int) (a : Option Addr) (z : List Int) (cz lo tp : Nat) (w : World) (hp : prm p = true) (h : RowOwn w b o n f) (hz : RowIn lo tp w a z) (hb : b < lo ∨ tp ≤ b) (hl : n ≤ z.length) (hn : z.length ≤ 100000) (hf : ∀ j, j < n → 0 ≤ f j ∧ f j < p) (hzn : Nums p z) (k0 : 0 ≤ k) (k1 : k ≤ p) :
    Calls Try.prog 110 #[.int .i64 p, .slice (some ⟨b, o, none⟩) n c, .int .i64 k, .slice a z.length cz] w fun e w' => e = .returned (.tuple #[]) ∧ RowOwn w' b o n (fun j => (f j + k * z.getD j 0) % p) ∧ Wrote b o n w w' := by
  have hpb := prm_bd hp
  have H := Lib.hid h
  have HF := Lib.hid hf
  have HZ := Lib.hid hz
  have HZN := Lib.hid hzn
  clear h hf hp hz hzn
  go_enter Try.func110, Try.ntmps110
  go_wp2
  go_loopw [11] (fun t wr => ∃ i : Nat, i ≤ n ∧ t = .int .i64 i ∧ RowOwn wr b o n (fun j => if j < i then (f j + k * z.getD j 0) % p else f j) ∧ Wrote b o n w wr) (fun t _ => n - (intOf t).toNat)
  case atStart => exact ⟨0, Nat.zero_le _, rfl, ⟨fun j hj => by simpa using H.out.cell j hj, H.out.free⟩, Wrote.refl _ _ _ _⟩
  case round =>
    obtain ⟨i, hi, rfl, hr, hw⟩ := hrel
    have HR := Lib.hid hr
    have HW := Lib.hid hw
    by_cases hlt : i < n
    · have c0 := hr.cell i hlt
      rw [if_neg (Nat.lt_irrefl _)] at c0
      have f0 := hr.free i hlt
      obtain ⟨b2, o2, ha2, l2, t2, hc2⟩ := (HZ.out.same (hw.same hb)).num (by omega : i < z.length)
      subst ha2
      obtain ⟨x0, x1⟩ := HF.out i hlt
      obtain ⟨y0, y1⟩ := HZN.out i (by omega)
      obtain ⟨x, hx⟩ : ∃ x, x = f i := ⟨_, rfl⟩
      obtain ⟨y, hy⟩ : ∃ y, y = z.getD i 0 := ⟨_, rfl⟩
      rw [← hx] at c0 x0 x1
      rw [← hy] at hc2 y0 y1
      have HX := Lib.hid hx
      have HY := Lib.hid hy
      have m0 : 0 ≤ k * y := Int.mul_nonneg k0 y0
      have m1 : k * y ≤ 13 * 13 := Int.le_trans (Int.mul_le_mul_of_nonneg_right (by omega : k ≤ 13) y0) (Int.mul_le_mul_of_nonneg_left (by omega) (by omega))
      have hi1 : (i : Int) < (n : Int) := by omega
      have hi2 : (i : Int) < (z.length : Int) := by omega
      have e1 : IntKind.i64.wrap (k * y) = k * y := IntWalk.i64_in _ (by omega)
      have e2 : IntKind.i64.wrap (x + k * y) = x + k * y := IntWalk.i64_in _ (by omega)
      have e3 : (x + k * y).tmod p = (x + k * y) % p := Int.tmod_eq_emod_of_nonneg (by omega)
      have hp0 : ¬ p = 0 := by omega
      have hp1 : (p == 0) = false := by simpa using hp0
      clear hr hw hx hy
      go_wp2
      go_region
      all_goals
        clear e1 e2 e3
        go_wp2
        go_roundw
        case rel => exact ⟨i + 1, by omega, by go_num, (HR.out.step hlt _ (by rw [HX.out, HY.out])).drew, (HW.out.set hlt _).drew⟩
        case measure => simp [intOf]; omega
    · have hn : i = n := by omega
      subst hn
      have HE : Hid (RowOwn wr b o i (fun j => (f j + k * z.getD j 0) % p)) := ⟨fun j hj => by have := HR.out.cell j hj; rwa [if_pos hj] at this, HR.out.free⟩
      clear hr hw
      go_wp2
      go_end0
      exact ⟨rfl, HE.out, HW.out⟩

end Go.Proofs.Ytkibkkdeaojjoaa
