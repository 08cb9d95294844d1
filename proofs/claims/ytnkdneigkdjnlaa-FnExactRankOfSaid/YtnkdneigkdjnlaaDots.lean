/-
  Sums of products of lists, and products of matrices with vectors, in the program and in the model: contracts.
  Conditions: the lists and matrices are rows of known cells with numbers of the prime; their sizes fit.
-/
import Derived.Test.YtnkdneigkdjnlaaImC
import Derived.Deep.AppendLies
import Derived.BigQuiet
namespace Go.Proofs.Ytnkdneigkdjnlaa
open Go.RowKit
set_option linter.unusedVariables false

def sdot (za zb : List Int) (i : Nat) : Int := sm i fun j => za.getD j 0 * zb.getD j 0
def Nums (p : Int) (z : List Int) : Prop := ∀ j, j < z.length → 0 ≤ z.getD j 0 ∧ z.getD j 0 < p
theorem Nums.of {p : Int} {z : List Int} (h : z.all (inr p) = true) : Nums p z := by
  intro j hj
  rw [List.all_eq_true] at h
  exact inr_iff.1 (h _ (by rw [getD_at hj]; exact List.getElem_mem hj))
theorem mul_bd' {p x y : Int} (hp : p ≤ 13) (x0 : 0 ≤ x) (x1 : x < p) (y0 : 0 ≤ y) (y1 : y < p) : 0 ≤ x * y ∧ x * y ≤ 144 :=
  ⟨Int.mul_nonneg x0 y0, Int.le_trans (Int.mul_le_mul_of_nonneg_right (by omega : x ≤ 12) y0) (Int.mul_le_mul_of_nonneg_left (by omega : y ≤ 12) (by omega))⟩
theorem sdot_bd {p : Int} {za zb : List Int} (hp : p ≤ 13) (ha : Nums p za) (hb : Nums p zb) {i : Nat} (h1 : i ≤ za.length) (h2 : i ≤ zb.length) : 0 ≤ sdot za zb i ∧ sdot za zb i ≤ i * 144 :=
  sm_bd fun j hj => mul_bd' hp (ha j (by omega)).1 (ha j (by omega)).2 (hb j (by omega)).1 (hb j (by omega)).2
theorem add_mod' (a b p : Int) : (a % p + b) % p = (a + b) % p := by rw [Int.add_emod, Int.emod_emod, ← Int.add_emod]

set_option maxHeartbeats 1600000 in
theorem dotS (p : Int) (a b : Option Addr) (za zb : List Int) (ca cb lo tp lo' tp' : Nat) (w : World) (hp : prm p = true) (ha : RowIn lo tp w a za) (hb : RowIn lo' tp' w b zb) (hl : za.length ≤ zb.length) (hs : za.length ≤ 100000) (hna : Nums p za) (hnb : Nums p zb) :
    Calls Try.prog 121 #[.int .i64 p, .slice a za.length ca, .slice b zb.length cb] w fun e w' => e = .returned (.int .i64 (sdot za zb za.length % p)) ∧ Quiet w w' := by
  have hpb := prm_bd hp
  have HA := Lib.hid ha
  have HB := Lib.hid hb
  have HNA := Lib.hid hna
  have HNB := Lib.hid hnb
  clear ha hb hna hnb hp
  go_enter Try.func121, Try.ntmps121
  go_wp2
  go_loopw [7, 8] (fun s t wr => ∃ i : Nat, i ≤ za.length ∧ s = .int .i64 (sdot za zb i % p) ∧ t = .int .i64 i ∧ Quiet w wr) (fun _ t _ => za.length - (intOf t).toNat)
  case atStart => exact ⟨0, Nat.zero_le _, by simp [sdot, sm], rfl, Quiet.refl _⟩
  case round =>
    obtain ⟨i, hi', rfl, rfl, hq⟩ := hrel
    have HQ := Lib.hid hq
    by_cases hlt : i < za.length
    · obtain ⟨b1, o1, ha1, _, _, hc1⟩ := (HA.out.same (hq.same _ _)).num hlt
      obtain ⟨b2, o2, ha2, _, _, hc2⟩ := (HB.out.same (hq.same _ _)).num (by omega : i < zb.length)
      subst ha1
      subst ha2
      obtain ⟨x0, x1⟩ := HNA.out i hlt
      obtain ⟨y0, y1⟩ := HNB.out i (by omega)
      have hst : (sdot za zb i % p + za.getD i 0 * zb.getD i 0) % p = sdot za zb (i + 1) % p := by rw [add_mod']; rfl
      have d0 := Int.emod_nonneg (sdot za zb i) (by omega : p ≠ 0)
      have d1 := Int.emod_lt_of_pos (sdot za zb i) (by omega : 0 < p)
      obtain ⟨x, hx⟩ : ∃ x, x = za.getD i 0 := ⟨_, rfl⟩
      obtain ⟨y, hy⟩ : ∃ y, y = zb.getD i 0 := ⟨_, rfl⟩
      obtain ⟨d, hd⟩ : ∃ d, d = sdot za zb i % p := ⟨_, rfl⟩
      rw [← hx] at hc1 x0 x1 hst
      rw [← hy] at hc2 y0 y1 hst
      rw [← hd] at d0 d1 hst
      rw [← hd]
      have HS := Lib.hid hst
      clear hx hy hd hst hq
      obtain ⟨m0, m1⟩ := mul_bd' hpb.2 x0 x1 y0 y1
      have hi2 : (i : Int) < (zb.length : Int) := by omega
      have hi1 : (i : Int) < (za.length : Int) := by omega
      have e1 : IntKind.i64.wrap (x * y) = x * y := IntWalk.i64_in _ (by omega)
      have e2 : IntKind.i64.wrap (d + x * y) = d + x * y := IntWalk.i64_in _ (by omega)
      have e3 : (d + x * y).tmod p = (d + x * y) % p := Int.tmod_eq_emod_of_nonneg (by omega)
      have hp0 : ¬ p = 0 := by omega
      have hp1 : (p == 0) = false := by simpa using hp0
      go_wp2
      go_quiet (fail)
      clear e1 e2 e3
      go_wp2
      go_roundw
      case rel => exact ⟨i + 1, by omega, by rw [HS.out], by go_num, HQ.out.next _⟩
      case measure => simp [intOf]; omega
    · have hn : i = za.length := by omega
      subst hn
      clear hq
      go_wp2
      go_ret
      exact ⟨rfl, HQ.out⟩

set_option maxHeartbeats 1600000 in
theorem dotI (p : Int) (a b : Option Addr) (za zb : List Int) (ca cb lo tp lo' tp' : Nat) (w : World) (hp : prm p = true) (ha : RowIn lo tp w a za) (hb : RowIn lo' tp' w b zb) (hl : za.length ≤ zb.length) (hs : za.length ≤ 100000) (hna : Nums p za) (hnb : Nums p zb) :
    Calls Try.prog 118 #[.int .i64 p, .slice a za.length ca, .slice b zb.length cb] w fun e w' => e = .returned (.int .i64 (sdot za zb za.length % p)) ∧ Quiet w w' := by
  have hpb := prm_bd hp
  have HA := Lib.hid ha
  have HB := Lib.hid hb
  have HNA := Lib.hid hna
  have HNB := Lib.hid hnb
  clear ha hb hna hnb hp
  go_enter Try.func118, Try.ntmps118
  go_wp2
  go_loopw [7, 11] (fun s t wr => ∃ i : Nat, i ≤ za.length ∧ s = .int .i64 (sdot za zb i) ∧ t = .int .i64 i ∧ Quiet w wr) (fun _ t _ => za.length - (intOf t).toNat)
  case atStart => exact ⟨0, Nat.zero_le _, by simp [sdot, sm], rfl, Quiet.refl _⟩
  case round =>
    obtain ⟨i, hi', rfl, rfl, hq⟩ := hrel
    have HQ := Lib.hid hq
    by_cases hlt : i < za.length
    · obtain ⟨b1, o1, ha1, _, _, hc1⟩ := (HA.out.same (hq.same _ _)).num hlt
      obtain ⟨b2, o2, ha2, _, _, hc2⟩ := (HB.out.same (hq.same _ _)).num (by omega : i < zb.length)
      subst ha1
      subst ha2
      obtain ⟨x0, x1⟩ := HNA.out i hlt
      obtain ⟨y0, y1⟩ := HNB.out i (by omega)
      have hst : sdot za zb i + za.getD i 0 * zb.getD i 0 = sdot za zb (i + 1) := rfl
      obtain ⟨d0, d1⟩ := sdot_bd hpb.2 HNA.out HNB.out (i := i) (by omega) (by omega)
      obtain ⟨x, hx⟩ : ∃ x, x = za.getD i 0 := ⟨_, rfl⟩
      obtain ⟨y, hy⟩ : ∃ y, y = zb.getD i 0 := ⟨_, rfl⟩
      obtain ⟨d, hd⟩ : ∃ d, d = sdot za zb i := ⟨_, rfl⟩
      rw [← hx] at hc1 x0 x1 hst
      rw [← hy] at hc2 y0 y1 hst
      rw [← hd] at d0 d1 hst
      rw [← hd]
      have HS := Lib.hid hst
      clear hx hy hd hst hq
      obtain ⟨m0, m1⟩ := mul_bd' hpb.2 x0 x1 y0 y1
      have hi2 : (i : Int) < (zb.length : Int) := by omega
      have hi1 : (i : Int) < (za.length : Int) := by omega
      have e1 : IntKind.i64.wrap (x * y) = x * y := IntWalk.i64_in _ (by omega)
      have e2 : IntKind.i64.wrap (d + x * y) = d + x * y := IntWalk.i64_in _ (by omega)
      go_wp2
      go_quiet (fail)
      clear e1 e2
      go_wp2
      go_roundw
      case rel => exact ⟨i + 1, by omega, by rw [HS.out], by go_num, HQ.out.next _⟩
      case measure => simp [intOf]; omega
    · have hn : i = za.length := by omega
      subst hn
      obtain ⟨d0, d1⟩ := sdot_bd hpb.2 HNA.out HNB.out (i := za.length) (by omega) (by omega)
      obtain ⟨d, hd⟩ : ∃ d, d = sdot za zb za.length := ⟨_, rfl⟩
      rw [← hd] at d0 d1
      have HD := Lib.hid hd
      rw [← hd]
      clear hq hd
      go_wp2
      go_ret
      exact ⟨by rw [← HD.out]; rfl, HQ.out⟩

/-- A vector of products of rows. -/
def appV (p : Int) (a : List (List Int)) (v : List Int) : List Int := mkR a.length fun i => sdot (rw' a i) v (rw' a i).length % p

set_option maxRecDepth 100000 in
set_option maxHeartbeats 3200000 in
theorem l02Apply_any (p : Int) (a b : Option Addr) (m : List (List Int)) (v : List Int) (ca cb lo tp lo' tp' : Nat) (w : World) (hp : prm p = true) (hm : MatIn lo tp w a m) (hv : RowIn lo' tp' w b v) (ht : tp ≤ w.heap.size) (ht' : tp' ≤ w.heap.size)
    (hn : m.length ≤ 1024) (hl : ∀ i, i < m.length → (rw' m i).length ≤ v.length) (hs : v.length ≤ 100000) (hna : ∀ i, i < m.length → Nums p (rw' m i)) (hnb : Nums p v) :
    Calls Try.prog 91 #[.int .i64 p, .slice a m.length ca, .slice b v.length cb] w (NewR (appV p m v) w) := by
  obtain ⟨i0, hi, hz0, hz1, hz2⟩ := info_parts info64
  have HP := Lib.hid hp
  have HM := Lib.hid hm
  have HV := Lib.hid hv
  have HL := Lib.hid hl
  have HNA := Lib.hid hna
  have HNB := Lib.hid hnb
  clear hm hv hna hnb hp hl
  go_enter Try.func91, Try.ntmps91
  go_wp2
  go_loopw [7, 8] (fun v' t wr => ∃ i : Nat, i ≤ m.length ∧ t = .int .i64 i ∧ OutR w.heap.size wr v' (mkR i fun i => sdot (rw' m i) v (rw' m i).length % p) ∧ Below w.heap.size w wr) (fun _ t _ => m.length - (intOf t).toNat)
  case atStart => exact ⟨0, Nat.zero_le _, rfl, OutR.start w _ _ (Nat.le_refl _) rfl, by ((repeat' (first | with_reducible exact Below.refl _ _ | (with_reducible refine Below.setCell ?_ ?_ _) | (with_reducible refine Below.alloc ?_ ?_ _) | (with_reducible refine Below.drew ?_))); all_goals (first | (simp; done) | omega | (simp; omega)))⟩
  case round =>
    obtain ⟨i, hi', rfl, ho, hbel⟩ := hrel
    have HO := Lib.hid ho
    have HBEL := Lib.hid hbel
    have hwz := hbel.size
    clear ho
    by_cases hlt : i < m.length
    · obtain ⟨b1, o1, r, c1, ha1, _, hb1, hr1, hrow⟩ := (HM.out.below hbel ht).row hlt
      subst ha1
      have HROW := Lib.hid hrow
      have HVW := Lib.hid (HV.out.below hbel ht')
      have HS : Hid (mkR (i + 1) (fun i => sdot (rw' m i) v (rw' m i).length % p) = mkR i (fun i => sdot (rw' m i) v (rw' m i).length % p) ++ [sdot (rw' m i) v (rw' m i).length % p]) := mkR_succ _ _
      obtain ⟨x, hx⟩ : ∃ x, x = sdot (rw' m i) v (rw' m i).length % p := ⟨_, rfl⟩
      rw [← hx] at HS
      have HX' := Lib.hid hx
      obtain ⟨X, hX⟩ : ∃ X, X = (mkR i (fun i => sdot (rw' m i) v (rw' m i).length % p)).map (Value.int .i64) := ⟨_, rfl⟩
      have HX := Lib.hid hX
      have HO2 : Hid (wr.ownsRow w.heap.size 2 1 u7 i X) := by
        have := HO.out; unfold OutR at this; rw [mkR_len, ← hX] at this; exact this
      have hll := HL.out i hlt
      clear hX hx hrow hbel
      go_wp2_with (first | (go_at_call 121; (with_reducible refine (dotS _ _ _ _ _ _ _ lo tp lo' tp' _ HP.out HROW.out HVW.out (by omega) (by omega) (HNA.out i hlt) HNB.out).mono ?_); rintro e w2 ⟨rfl, hq2⟩; have HQ2 := Lib.hid hq2; have HO3 := Lib.hid (HO2.out.kept (below_grown (hq2.below _)) (by cases hv : Value.ownBlock u7 <;> simp)); have hz2' := Nat.le_trans hwz (Nat.le_of_eq hq2.size.symm); rw [← HX'.out]; clear hq2) | (at_builtin; refine wpList_append_lies _ rfl _ _ 31 rfl w.heap.size 2 i0 (.int .i64 0) 1 8 Try.underlying31 hi hz0 hz1 hz2 rfl (by decide) u7 i X rfl (HO3.out.alloc _) ⟨w2.heap.size, 0, none⟩ 1 1 [.int .i64 x] rfl rfl (World.news_of_block (cs := #[.int .i64 x]) (t := 2) (fr := (0, 0)) (heap_alloc_new w2 _)) (by simp [Value.oneCell']) (by omega) (by unfold maxLen; omega) (by omega) (by simp; omega) (w2.heap.size + 1) (by simp) ?_; intro gg cap w1 hown1 hgrow hat hlt1))
      go_wp2
      go_roundw
      case rel => exact ⟨i + 1, by omega, by go_num, OutR.step HO3.out HX.out HS.out hown1, ((HBEL.out.trans (HQ2.out.below _)).alloc (by omega) _).grown hgrow (by simp; omega) (fun _ hk => (HO3.out.lt _ hk).1)⟩
      case measure => simp [intOf]; omega
    · have hn : i = m.length := by omega
      subst hn
      clear hbel
      go_wp2
      go_ret
      exact HO.out.new HBEL.out

end Go.Proofs.Ytnkdneigkdjnlaa
