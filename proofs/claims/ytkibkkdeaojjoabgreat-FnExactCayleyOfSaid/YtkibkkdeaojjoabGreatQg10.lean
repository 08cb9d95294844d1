/-
  Sums of products of lists, and products of matrices with vectors, in the program and in the model: contracts.
  Conditions: the lists and matrices are rows of known cells with numbers of the prime; their sizes fit.
  Matrices with rows of one length, and their products with vectors in the program: contracts.
  Conditions: the matrices are rows of rows of known cells with numbers of the prime; their sizes fit.
  Copies of lists and matrices in the model, copies of lists in the program, and unit matrices in both: contracts.
  Conditions: the lists are rows of known cells, not empty.
-/
import Derived.Test.YtkibkkdeaojjoabGreatQg9
import Derived.Deep.AppendLies
import Derived.BigQuiet
import Derived.Lib.SliceRun
namespace Go.Proofs.YtkibkkdeaojjoabGreat
open Go.RowKit
set_option linter.unusedVariables false

def sdot (za zb : List Int) (i : Nat) : Int := sm i fun j => za.getD j 0 * zb.getD j 0
def Nums (p : Int) (z : List Int) : Prop := ∀ j, j < z.length → 0 ≤ z.getD j 0 ∧ z.getD j 0 < p
theorem Nums.of {p : Int} {z : List Int} (h : z.all (inr p) = true) : Nums p z := by
  intro j hj
  rw [List.all_eq_true] at h
  exact inr_iff.1 (h _ (by rw [getD_at hj]; exact List.getElem_mem hj))
theorem mul_bd' {p x y : Int} (hp : p ≤ 13) (x0 : 0 ≤ x) (x1 : x < p) (y0 : 0 ≤ y) (y1 : y < p) : 0 ≤ x * y ∧ x * y ≤ 144 :=
  ⟨Int.mul_nonneg x0 y0, Int.le_trans (Int.mul_le_mul_of_nonneg_right (by omega : x ≤ 12) y0) (Int.mul_le_mul_of_nonneg_left (by omega : y ≤ 12) (by omega))⟩
theorem sdot_bd {p : Int} {za zb : List Int} (hp : p ≤ 13) (ha : Nums p za) (hb : Nums p zb) {i : Nat} (h1 : i ≤ za.length) (h2 : i ≤ zb.length) : 0 ≤ sdot za zb i ∧ sdot za zb i ≤ i * 144 :=
  sm_bd fun j hj => mul_bd' hp (ha j (by omega)).1 (ha j (by omega)).2 (hb j (by omega)).1 (hb j (by omega)).2
theorem add_mod' (a b p : Int) : (a % p + b) % p = (a + b) % p := by rw [Int.add_emod, Int.emod_emod, ← Int.add_emod]

set_option maxHeartbeats 1600000 in
theorem dotI (p : Int) (a b : Option Addr) (za zb : List Int) (ca cb lo tp lo' tp' : Nat) (w : World) (hp : prm p = true) (ha : RowIn lo tp w a za) (hb : RowIn lo' tp' w b zb) (hl : za.length ≤ zb.length) (hs : za.length ≤ 100000) (hna : Nums p za) (hnb : Nums p zb) :
    Calls Tryz.prog 111 #[.int .i64 p, .slice a za.length ca, .slice b zb.length cb] w fun e w' => e = .returned (.int .i64 (sdot za zb za.length % p)) ∧ Quiet w w' := by
  have hpb := prm_bd hp
  have HA := Lib.hid ha
  have HB := Lib.hid hb
  have HNA := Lib.hid hna
  have HNB := Lib.hid hnb
  clear ha hb hna hnb hp
  go_enter Tryz.func111, Tryz.ntmps111
  go_wp2
  go_loopw [7, 11] (fun s t wr => ∃ i : Nat, i ≤ za.length ∧ s = .int .i64 (sdot za zb i) ∧ t = .int .i64 i ∧ Quiet w wr) (fun _ t _ => za.length - (intOf t).toNat)
  case atStart => exact ⟨0, Nat.zero_le _, by simp [sdot, sm], rfl, Quiet.refl _⟩
  case round =>
    obtain ⟨i, hi', rfl, rfl, hq⟩ := hrel
    have HQ := Lib.hid hq
    by_cases hlt : i < za.length
    · obtain ⟨b1, o1, ha1, _, _, hc1⟩ := (HA.out.same (hq.same _ _)).num hlt
      obtain ⟨b2, o2, ha2, _, _, hc2⟩ := (HB.out.same (hq.same _ _)).num (by omega : i < zb.length)
      subst ha1
      subst ha2
      obtain ⟨x0, x1⟩ := HNA.out i hlt
      obtain ⟨y0, y1⟩ := HNB.out i (by omega)
      have hst : sdot za zb i + za.getD i 0 * zb.getD i 0 = sdot za zb (i + 1) := rfl
      obtain ⟨d0, d1⟩ := sdot_bd hpb.2 HNA.out HNB.out (i := i) (by omega) (by omega)
      obtain ⟨x, hx⟩ : ∃ x, x = za.getD i 0 := ⟨_, rfl⟩
      obtain ⟨y, hy⟩ : ∃ y, y = zb.getD i 0 := ⟨_, rfl⟩
      obtain ⟨d, hd⟩ : ∃ d, d = sdot za zb i := ⟨_, rfl⟩
      rw [← hx] at hc1 x0 x1 hst
      rw [← hy] at hc2 y0 y1 hst
      rw [← hd] at d0 d1 hst
      rw [← hd]
      have HS := Lib.hid hst
      clear hx hy hd hst hq
      obtain ⟨m0, m1⟩ := mul_bd' hpb.2 x0 x1 y0 y1
      have hi2 : (i : Int) < (zb.length : Int) := by omega
      have hi1 : (i : Int) < (za.length : Int) := by omega
      have e1 : IntKind.i64.wrap (x * y) = x * y := IntWalk.i64_in _ (by omega)
      have e2 : IntKind.i64.wrap (d + x * y) = d + x * y := IntWalk.i64_in _ (by omega)
      go_wp2
      go_quiet (fail)
      clear e1 e2
      go_wp2
      go_roundw
      case rel => exact ⟨i + 1, by omega, by rw [HS.out], by go_num, HQ.out.next _⟩
      case measure => simp [intOf]; omega
    · have hn : i = za.length := by omega
      subst hn
      obtain ⟨d0, d1⟩ := sdot_bd hpb.2 HNA.out HNB.out (i := za.length) (by omega) (by omega)
      obtain ⟨d, hd⟩ : ∃ d, d = sdot za zb za.length := ⟨_, rfl⟩
      rw [← hd] at d0 d1
      have HD := Lib.hid hd
      rw [← hd]
      clear hq hd
      go_wp2
      go_ret
      exact ⟨by rw [← HD.out]; rfl, HQ.out⟩

/-- A vector of products of rows. -/
def appV (p : Int) (a : List (List Int)) (v : List Int) : List Int := mkR a.length fun i => sdot (rw' a i) v (rw' a i).length % p

end Go.Proofs.YtkibkkdeaojjoabGreat

namespace Go.Proofs.YtkibkkdeaojjoabGreat
open Go.RowKit Go.ChangeShapes Go.WideShapes
set_option linter.unusedVariables false

/-- Rows of c numbers of the prime, at most 1024 of at most 1024. -/
structure Rect (p : Int) (m : List (List Int)) (c : Nat) : Prop where
  rows : m.length ≤ 1024
  cols : c ≤ 1024
  len : ∀ i, i < m.length → (rw' m i).length = c
  num : ∀ i, i < m.length → Nums p (rw' m i)
theorem Rect.at {p : Int} {m : List (List Int)} {c : Nat} (h : Rect p m c) {i j : Nat} (hi : i < m.length) (hj : j < c) : 0 ≤ at' m i j ∧ at' m i j < p := h.num i hi j (by rw [h.len i hi]; exact hj)
theorem Rect.tr {p : Int} {m : List (List Int)} {c : Nat} (h : Rect p m c) (hc : c = (rw' m 0).length) : Rect p (trM m) m.length where
  rows := by unfold trM; rw [mk_len, ← hc]; exact h.cols
  cols := h.rows
  len i hi := by unfold trM at hi ⊢; rw [mk_len] at hi; exact mk_rowLen _ hi
  num i hi j hj := by
    unfold trM at hi hj ⊢
    rw [mk_len] at hi
    rw [mk_rowLen _ hi] at hj
    have : (rw' (Go.Proofs.YtkibkkdeaojjoabGreat.mk (rw' m 0).length m.length fun k i => at' m i k) i).getD j 0 = at' m j i := mk_at _ hi hj
    rw [this]; exact h.at hj (by rw [hc]; exact hi)

theorem mul_row {p : Int} {a b : List (List Int)} {i : Nat} (hi : i < a.length) (hb : Rect p b (rw' b 0).length) : rw' (mulM p a b) i = appV p (trM b) (rw' a i) := by
  unfold mulM appV
  rw [mk_row _ hi]
  have e : (trM b).length = (rw' b 0).length := by unfold trM; rw [mk_len]
  rw [e]
  apply mkR_congr
  intro k hk
  have e2 : (rw' (trM b) k).length = b.length := by unfold trM; rw [mk_rowLen _ hk]
  rw [e2]
  congr 1
  unfold sdot
  apply sm_congr
  intro j hj
  have e3 : (rw' (trM b) k).getD j 0 = at' b j k := by unfold trM; exact mk_at _ hk hj
  rw [e3, Int.mul_comm]; rfl

set_option maxHeartbeats 1600000 in
theorem timesVector_any (p : Int) (a b : Option Addr) (m : List (List Int)) (v : List Int) (ca cb lo tp lo' tp' : Nat) (w : World) (hp : prm p = true) (hm : MatIn lo tp w a m) (hv : RowIn lo' tp' w b v) (ht : tp ≤ w.heap.size) (ht' : tp' ≤ w.heap.size)
    (hr : Rect p m v.length) (hnb : Nums p v) :
    Calls Tryz.prog 93 #[.int .i64 p, .slice a m.length ca, .slice b v.length cb] w (Copied (appV p m v) w) := by
  have HP := Lib.hid hp
  have HM := Lib.hid hm
  have HV := Lib.hid hv
  have HR := Lib.hid hr
  have HNB := Lib.hid hnb
  have hn := hr.rows
  have hvl := hr.cols
  have hZ : (appV p m v).length = m.length := mkR_len _ _
  have HZ := Lib.hid hZ
  obtain ⟨Z, hZe⟩ : ∃ Z, Z = appV p m v := ⟨_, rfl⟩
  rw [← hZe] at hZ
  rw [← hZe]
  have HZE := Lib.hid hZe
  have HZL := Lib.hid hZ
  have hmk := fun W => run_make_row' (P := Tryz.prog) 22 2 (.int .i64 0) 8 Tryz.underlying22 info64 rfl .i64 .i64 m.length (by omega) (by omega) W
  clear hm hv hnb hp hr hZ hZe
  go_enter Tryz.func93, Tryz.ntmps93
  go_wp2
  clear hmk
  go_loopw [15] (fun t wr => ∃ i : Nat, i ≤ m.length ∧ t = .int .i64 i ∧ Half wr w.heap.size i Z ∧ Below w.heap.size w wr) (fun t _ => m.length - (intOf t).toNat)
  case atStart => exact ⟨0, Nat.zero_le _, rfl, by have := Half.start w Z 2; rw [HZL.out] at this; exact this, by ((repeat' (first | with_reducible exact Below.refl _ _ | (with_reducible refine Below.setCell ?_ ?_ _) | (with_reducible refine Below.alloc ?_ ?_ _) | (with_reducible refine Below.drew ?_))); all_goals (first | (simp; done) | omega | (simp; omega)))⟩
  case round =>
    obtain ⟨i, hi, rfl, hh, hbel⟩ := hrel
    have HH := Lib.hid hh
    have HBEL := Lib.hid hbel
    by_cases hlt : i < m.length
    · obtain ⟨b1, o1, r, c1, ha1, _, hb1, hr1, hrow⟩ := (HM.out.below hbel ht).row hlt
      subst ha1
      have HROW := Lib.hid hrow
      have HVW := Lib.hid (HV.out.below hbel ht')
      have hlen := HR.out.len i hlt
      have HLen := Lib.hid hlen
      have hx0 : Z.getD i 0 = sdot (rw' m i) v (rw' m i).length % p := by rw [HZE.out]; exact mkR_at _ hlt
      have HX := Lib.hid hx0
      obtain ⟨x, hx⟩ : ∃ x, x = sdot (rw' m i) v (rw' m i).length % p := ⟨_, rfl⟩
      have HX' := Lib.hid hx
      have hsz := hh.lt
      have g0 := hh.rest i (Nat.le_refl _) (by rw [HZL.out]; exact hlt)
      have f0 := hh.free i
      clear hx hx0 hrow hbel hh hlen
      go_wp2_with (go_at_call 111; (with_reducible refine (dotI _ _ _ _ _ _ _ lo tp lo' tp' _ HP.out HROW.out HVW.out (by rw [HLen.out]; exact Nat.le_refl _) (by rw [HLen.out]; omega) (HR.out.num i hlt) HNB.out).mono ?_); rintro e w2 ⟨rfl, hq2⟩; have HQ2 := Lib.hid hq2; have g2 := (hq2.cell _).trans g0; have f2 := (((hq2.same 0 (w.heap.size + 1)).frozen (p := ⟨w.heap.size, i, none⟩) (Nat.zero_le _) (Nat.lt_succ_self _))).trans f0; rw [← HX'.out]; clear hq2)
      go_roundw
      case rel => exact ⟨i + 1, by omega, by go_num, by
        have := (HH.out.quiet HQ2.out).next (by rw [HZL.out]; exact hlt)
        rw [HX.out, ← HX'.out] at this; exact this, (HBEL.out.trans (HQ2.out.below _)).setCell (Nat.le_refl _) _⟩
      case measure => simp [intOf]; omega
    · have hn : i = m.length := by omega
      subst hn
      clear hbel hh
      go_wp2
      go_ret
      exact ⟨by rw [HZL.out]; rfl, HBEL.out, HH.out.lt, .inr ⟨_, 0, rfl, Nat.le_refl _, HH.out.lt, fun j hj => ⟨by rw [Nat.zero_add]; exact HH.out.done j (by rw [HZL.out] at hj; omega), by rw [Nat.zero_add]; exact HH.out.free j⟩⟩⟩

end Go.Proofs.YtkibkkdeaojjoabGreat

namespace Go.Proofs.YtkibkkdeaojjoabGreat
open Go.RowKit Go.ChangeShapes Go.WideShapes
set_option linter.unusedVariables false

theorem news_of {w : World} {b o : Nat} {zs : List Int} (hc : ∀ j, j < zs.length → w.cell? ⟨b, o + j, none⟩ = some (.int .i64 (zs.getD j 0))) (x : Obj) (hb : b < w.heap.size) :
    ∀ j u, (zs.map (Value.int .i64))[j]? = some u → (w.alloc x).cell? ((⟨b, o, none⟩ : Addr).add j) = some u := by
  intro j u hj
  have hlt : j < zs.length := by
    have := (List.getElem?_eq_some_iff.1 hj).1
    simpa using this
  rw [Addr.add_lit]
  have e : (zs.map (Value.int .i64))[j]? = some (.int .i64 (zs.getD j 0)) := by simp [hlt, List.getD]
  rw [e] at hj
  rw [World.cell?_alloc_old _ _ _ (by show b ≠ w.heap.size; omega), hc j hlt]
  exact hj
theorem ones_of (zs : List Int) : ∀ u ∈ zs.map (Value.int .i64), u.oneCell' = true := by
  intro u hu; obtain ⟨x, _, rfl⟩ := List.mem_map.1 hu; rfl
theorem OutR.of {B n : Nat} {w : World} {v : Value} {zs : List Int} (h : w.ownsRow B 2 1 v n ([] ++ zs.map (Value.int .i64))) (hn : n = zs.length) : OutR B w v zs := by
  subst hn; simpa [OutR] using h

set_option maxHeartbeats 800000 in
theorem l01Own_any (a : Option Addr) (zs : List Int) (ca lo tp : Nat) (w : World) (ha : RowIn lo tp w a zs) (ht : tp ≤ w.heap.size) (h0 : 0 < zs.length) (hs : zs.length ≤ 1048576) :
    Calls Tryz.prog 46 #[.slice a zs.length ca] w (NewR zs w) := by
  obtain ⟨i0, hi, hz0, hz1, hz2⟩ := info_parts info64
  rcases ha with h | ⟨b, o, rfl, _, hb, hc⟩
  · rw [h] at h0; simp at h0
  · have hbw : b < w.heap.size := Nat.lt_of_lt_of_le hb ht
    have HN := Lib.hid (news_of hc (.cells #[] 2) hbw)
    clear hc
    go_enter Tryz.func46, Tryz.ntmps46
    go_wp2_with (at_builtin; refine wpList_append_lies _ rfl _ _ 22 rfl w.heap.size 2 i0 (.int .i64 0) 1 8 Tryz.underlying22 hi hz0 hz1 hz2 rfl (by decide) _ 0 [] rfl (World.ownsRow_made w #[] 0 (Nat.le_refl _) (Nat.zero_le _) rfl) ⟨b, o, none⟩ zs.length ca (zs.map (Value.int .i64)) rfl (by simp) HN.out (ones_of zs) h0 (by unfold maxLen; omega) (by omega) (by simp) (w.heap.size + 1) (by simp) ?_; intro gg cap w1 hown1 hgrow hat hlt1)
    rw [Nat.zero_add] at hown1
    have HO : Hid (OutR w.heap.size w1 (.slice (some ⟨gg, 0, none⟩) zs.length cap) zs) := OutR.of hown1 rfl
    have HB : Hid (Below w.heap.size w w1) := ((Below.refl _ _).alloc (Nat.le_refl _) _).grown hgrow (by simp) (fun k hk => by cases hk; exact Nat.le_refl _)
    clear hown1 hgrow
    go_wp2
    go_ret
    exact HO.out.new HB.out

theorem rw_take {m : List (List Int)} {i j : Nat} (h : j < i) : rw' (m.take i) j = rw' m j := by
  simp only [rw', List.getD_eq_getElem?_getD, List.getElem?_take]
  rw [if_pos h]
theorem take_snoc' {m : List (List Int)} {i : Nat} (h : i < m.length) : m.take (i + 1) = m.take i ++ [rw' m i] := by
  rw [List.take_succ_eq_append_getElem h]
  congr 2
  simp [rw', h]
theorem OutM.nextT {B n : Nat} {w w2 w1 : World} {o : Obj} {v v' : Value} {m : List (List Int)} {vals : List Value} {r : Option Addr} {cp : Nat} (hn : n < m.length)
    (ho : w.ownsRow B 22 1 v n vals) (hr : ∀ i, i < n → ∃ r c', vals[i]? = some (.slice r (rw' (m.take n) i).length c') ∧ TagR B w.heap.size w r (rw' (m.take n) i))
    (hz : TagR w.heap.size w2.heap.size w2 r (rw' m n)) (hB : B ≤ w.heap.size) (h2 : Below w.heap.size w w2) (h1 : w1.ownsRow B 22 1 v' (n + 1) (vals ++ [.slice r (rw' m n).length cp])) (hg : (w2.alloc o).grownBy w1 v.ownBlock) : OutM B w1 v' (m.take (n + 1)) := by
  have hb : Below w2.heap.size w2 (w2.alloc o) := (Below.refl _ _).alloc (Nat.le_refl _) o
  have hl : (m.take n).length = n := by rw [List.length_take]; omega
  rw [take_snoc' hn]
  refine OutM.push (m := m.take n) (w := w2.alloc o) (vals := vals) (by rw [hl]; exact (ho.kept (below_grown h2) (by cases hv : v.ownBlock <;> simp)).alloc o) (fun i hi => ?_) (hz.below hb (Nat.le_refl _) hB hb.size) (c := cp) (by rw [hl]; exact h1) hg
  rw [hl] at hi
  obtain ⟨r', c', g1, g2⟩ := hr i hi
  exact ⟨r', c', g1, (g2.below h2 (Nat.le_refl _) (Nat.le_refl _) h2.size).below hb (Nat.le_refl _) (Nat.le_refl _) hb.size⟩

/-- A matrix appended row by row in new memory is handed back. -/
def NewO (m : List (List Int)) (w : World) (e : Ending) (w' : World) : Prop :=
  ∃ v, e = .returned v ∧ OutM w.heap.size w' v m ∧ Below w.heap.size w w'

set_option maxRecDepth 100000 in
set_option maxHeartbeats 1600000 in
theorem l01Own2_out (a : Option Addr) (m : List (List Int)) (ca lo tp : Nat) (w : World) (hm : MatIn lo tp w a m) (ht : tp ≤ w.heap.size) (hn : m.length ≤ 1024) (hc : ∀ i, i < m.length → 0 < (rw' m i).length ∧ (rw' m i).length ≤ 1024) :
    Calls Tryz.prog 29 #[.slice a m.length ca] w (NewO m w) := by
  obtain ⟨j0, kj, kz0, kz1, kz2⟩ := info_parts info_slice
  have HM := Lib.hid hm
  have HC := Lib.hid hc
  clear hm hc
  go_enter Tryz.func29, Tryz.ntmps29
  go_wp2
  go_loopw [3, 4] (fun v t wr => ∃ i : Nat, i ≤ m.length ∧ t = .int .i64 i ∧ OutM w.heap.size wr v (m.take i) ∧ Below w.heap.size w wr) (fun _ t _ => m.length - (intOf t).toNat)
  case atStart => exact ⟨0, Nat.zero_le _, rfl, OutM.start w _ _ (Nat.le_refl _) rfl, by ((repeat' (first | with_reducible exact Below.refl _ _ | (with_reducible refine Below.setCell ?_ ?_ _) | (with_reducible refine Below.alloc ?_ ?_ _) | (with_reducible refine Below.drew ?_))); all_goals (first | (simp; done) | omega | (simp; omega)))⟩
  case round =>
    obtain ⟨i, hi', rfl, ho, hbel⟩ := hrel
    have HO := Lib.hid ho
    have HBEL := Lib.hid hbel
    have hwz := hbel.size
    clear ho
    by_cases hlt : i < m.length
    · obtain ⟨b1, o1, r, c1, ha1, _, hb1, hr1, hrow⟩ := (HM.out.below hbel ht).row hlt
      subst ha1
      have HROW := Lib.hid hrow
      clear hrow hbel
      obtain ⟨vals, hvo, hvr⟩ := HO.out
      rw [List.length_take, Nat.min_eq_left hi'] at hvo hvr
      have HV := Lib.hid hvo
      have HVR := Lib.hid hvr
      clear hvo hvr
      go_wp2_with (first | (go_at_call 46; (with_reducible refine (l01Own_any _ _ _ lo tp _ HROW.out (by omega) (HC.out i hlt).1 (by have := (HC.out i hlt).2; omega)).mono ?_); rintro e w2 ⟨r2, k2, rfl, ho2, hb2⟩; have HO2 := Lib.hid ho2; have HB2 := Lib.hid hb2; have hz2 := hb2.size; have HV2 := Lib.hid (HV.out.kept (below_grown hb2) (by cases hv : Value.ownBlock u3 <;> simp)); clear ho2 hb2) | (at_builtin; refine wpList_append_lies _ rfl _ _ 26 rfl w.heap.size 22 j0 (.slice none 0 0) 1 24 Tryz.underlying26 kj kz0 kz1 kz2 rfl (by decide) u3 i vals rfl (HV2.out.alloc _) ⟨w2.heap.size, 0, none⟩ 1 1 [.slice r2 (rw' m i).length k2] rfl rfl (World.news_of_block (cs := #[.slice r2 (rw' m i).length k2]) (t := 22) (fr := (0, 0)) (heap_alloc_new w2 _)) (by simp [Value.oneCell']) (by omega) (by unfold maxLen; omega) (by omega) (by simp; omega) (w2.heap.size + 1) (by simp) ?_; intro gg cap w1 hown1 hgrow hat hlt1))
      go_wp2
      go_roundw
      case rel => exact ⟨i + 1, by omega, by go_num, OutM.nextT hlt HV.out HVR.out HO2.out hwz HB2.out hown1 hgrow, ((HBEL.out.trans (HB2.out.mono hwz)).alloc (by omega) _).grown hgrow (by simp; omega) (fun _ hk => (HV.out.lt _ hk).1)⟩
      case measure => simp [intOf]; omega
    · have hn : i = m.length := by omega
      subst hn
      have HT : Hid (m.take m.length = m) := by show m.take m.length = m; exact List.take_length
      have HF := HO.out
      rw [HT.out] at HF
      have HF := Lib.hid HF
      clear hbel
      go_wp2
      go_ret
      exact ⟨_, rfl, HF.out, HBEL.out⟩

theorem unit_tag (w : World) {n i : Nat} (hi : i < n) : TagR w.heap.size (w.alloc (.cells ((madeCells #[.int .i64 0] n).setIfInBounds i (.int .i64 1)) 2)).heap.size
    (w.alloc (.cells ((madeCells #[.int .i64 0] n).setIfInBounds i (.int .i64 1)) 2)) (some ⟨w.heap.size, 0, none⟩) (mkR n fun j => if i = j then 1 else 0) := by
  have hsz : ((madeCells #[.int .i64 0] n).setIfInBounds i (.int .i64 1) : Array Value).size = n := by simp [size_madeCells]
  have hr := World.rowIs_alloc w ((madeCells #[.int .i64 0] n).setIfInBounds i (.int .i64 1)) 2 (fun j => if j = i then .int .i64 1 else .int .i64 0) (fun j hj => by
    rw [hsz] at hj
    rw [Array.getElem?_setIfInBounds]
    by_cases e : j = i
    · subst e; simp [size_madeCells, hj]
    · rw [if_neg (fun h => e h.symm), if_neg e]; simp [madeCells, hj, Nat.mod_one])
  rw [hsz] at hr
  obtain ⟨cur, hb, _⟩ := id hr
  refine .inr ⟨_, 0, cur, rfl, Nat.le_refl _, hr.lt, hb, fun j hj => ?_⟩
  rw [mkR_len] at hj
  rw [Nat.zero_add, hr.cell hj, mkR_at _ hj]
  by_cases e : j = i
  · subst e; simp
  · rw [if_neg e, if_neg (fun h => e h.symm)]
theorem alloc2_new (w : World) (o o' : Obj) : ((w.alloc o).alloc o').heap[w.heap.size + 1]? = some o' := by
  have h := heap_alloc_new (w.alloc o) o'
  simpa using h

set_option maxRecDepth 100000 in
set_option maxHeartbeats 1600000 in
theorem l02Unit_any (n : Nat) (w : World) (hn : n ≤ 1024) :
    Calls Tryz.prog 61 #[.int .i64 n] w (NewM (oneM n) w) := by
  obtain ⟨j0, kj, kz0, kz1, kz2⟩ := info_parts info_slice
  have hmk := fun W => run_make_row' (P := Tryz.prog) 22 2 (.int .i64 0) 8 Tryz.underlying22 info64 rfl .i64 .i64 n (by omega) (by omega) W
  have HMK := Lib.hid hmk
  clear hmk
  go_enter Tryz.func61, Tryz.ntmps61
  go_wp2
  go_loopw [3, 4] (fun v t wr => ∃ i : Nat, i ≤ n ∧ t = .int .i64 i ∧ OutM w.heap.size wr v (mk i n fun i j => if i = j then 1 else 0) ∧ Below w.heap.size w wr) (fun _ t _ => n - (intOf t).toNat)
  case atStart => exact ⟨0, Nat.zero_le _, rfl, OutM.start w _ _ (Nat.le_refl _) rfl, by ((repeat' (first | with_reducible exact Below.refl _ _ | (with_reducible refine Below.setCell ?_ ?_ _) | (with_reducible refine Below.alloc ?_ ?_ _) | (with_reducible refine Below.drew ?_))); all_goals (first | (simp; done) | omega | (simp; omega)))⟩
  case round =>
    obtain ⟨i, hi', rfl, ho, hbel⟩ := hrel
    have HO := Lib.hid ho
    have HBEL := Lib.hid hbel
    have hwz := hbel.size
    clear ho hbel
    by_cases hlt : i < n
    · obtain ⟨vals, hvo, hvr⟩ := HO.out
      rw [mk_len] at hvo hvr
      have HV := Lib.hid hvo
      have HVR := Lib.hid hvr
      have hmk := HMK.out
      have g0 := made_cell wr (.int .i64 0) n 2 hlt
      have f0 : (wr.alloc (.cells (madeCells #[.int .i64 0] n) 2)).frozen? ⟨wr.heap.size, i, none⟩ = false := by simp [go_sem]
      have HT := Lib.hid (unit_tag wr hlt)
      clear hvo hvr
      go_wp2_with (at_builtin; refine wpList_append_lies _ rfl _ _ 26 rfl w.heap.size 22 j0 (.slice none 0 0) 1 24 Tryz.underlying26 kj kz0 kz1 kz2 rfl (by decide) u3 i vals rfl ((HV.out.alloc _).alloc _) ⟨wr.heap.size + 1, 0, none⟩ 1 1 [.slice (some ⟨wr.heap.size, 0, none⟩) n n] rfl rfl (World.news_of_block (cs := #[.slice (some ⟨wr.heap.size, 0, none⟩) n n]) (t := 22) (fr := (0, 0)) (alloc2_new wr _ _)) (by simp [Value.oneCell']) (by omega) (by unfold maxLen; omega) (by omega) (by simp; omega) (wr.heap.size + 2) (by simp) ?_; intro gg cap w1 hown1 hgrow hat hlt1)
      go_wp2
      go_roundw
      case rel => exact ⟨i + 1, by omega, by go_num, OutM.next (HV.out.alloc _) (fun j hj => by
          obtain ⟨r', c', g1, g2⟩ := HVR.out j hj
          exact ⟨r', c', g1, g2.below ((Below.refl _ _).alloc (Nat.le_refl _) _) (Nat.le_refl _) (Nat.le_refl _) (by simp)⟩) HT.out rfl hwz hown1 hgrow, ((HBEL.out.alloc hwz _).alloc (by simp; omega) _).grown hgrow (by simp; omega) (fun _ hk => (HV.out.lt _ hk).1)⟩
      case measure => simp [intOf]; omega
    · have hn : i = n := by omega
      subst hn
      go_wp2
      go_ret
      exact HO.out.new HBEL.out

end Go.Proofs.YtkibkkdeaojjoabGreat
