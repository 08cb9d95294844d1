/-
  Copies, sums and reduced bases of the model, each row handed back with room.
  Conditions: rows of known cells; the numbers are those of the prime.
-/
import Derived.Test.YtkibkkdeaojjoabGreatQg11
import Derived.Deep.RegionHeld3
namespace Go.Proofs.YtkibkkdeaojjoabGreat
open Go.RowKit
set_option linter.unusedVariables false

/-- A list in new memory with room is handed back. -/
def NewC (z : List Int) (w : World) (e : Ending) (w' : World) : Prop :=
  ∃ r c, e = .returned (.slice r z.length c) ∧ z.length ≤ c ∧ TagR w.heap.size w'.heap.size w' r z ∧ Below w.heap.size w w'
theorem OutR.newC {w w' : World} {v : Value} {zs : List Int} (h : OutR w.heap.size w' v zs) (hb : Below w.heap.size w w') : NewC zs w (.returned v) w' := by
  obtain ⟨a, c, e, ht⟩ := h.tag
  obtain ⟨_, h2⟩ := h
  rcases h2 with ⟨e2, hn⟩ | ⟨g, cap, cur, e2, _, _, hnc, _⟩
  · rw [e] at e2; injection e2 with e3 e4 e5
    exact ⟨a, c, by rw [e], by omega, ht, hb⟩
  · rw [e] at e2; injection e2 with e3 e4 e5
    exact ⟨a, c, by rw [e], by omega, ht, hb⟩
def NewLCr (n : Nat) (z : List Int) (w : World) (e : Ending) (w' : World) : Prop :=
  z.length = n ∧ ∃ r c, e = .returned (.slice r n c) ∧ n ≤ c ∧ TagR w.heap.size w'.heap.size w' r z ∧ Below w.heap.size w w'
theorem NewC.l {n : Nat} {z : List Int} {w w' : World} {e : Ending} (h : NewC z w e w') (hn : z.length = n) : NewLCr n z w e w' := by
  subst hn; exact ⟨rfl, h⟩

set_option maxHeartbeats 1600000 in
set_option maxRecDepth 100000 in
theorem l02Plus_room (p k : Int) (a b : Option Addr) (za zb : List Int) (ca cb lo tp lo' tp' : Nat) (w : World) (hp : prm p = true) (ha : RowIn lo tp w a za) (hb : RowIn lo' tp' w b zb) (ht : tp ≤ w.heap.size) (ht' : tp' ≤ w.heap.size)
    (hl : za.length ≤ zb.length) (hs : za.length ≤ 1048576) (hna : ∀ j, j < za.length → 0 ≤ za.getD j 0 ∧ za.getD j 0 < p) (hnb : ∀ j, j < zb.length → 0 ≤ zb.getD j 0 ∧ zb.getD j 0 < p) (k0 : 0 ≤ k) (k1 : k ≤ p) :
    Calls Tryz.prog 42 #[.int .i64 p, .slice a za.length ca, .slice b zb.length cb, .int .i64 k] w (NewC (plusR p za zb k) w) := by
  obtain ⟨i0, hi, hz0, hz1, hz2⟩ := info_parts info64
  have hpb := prm_bd hp
  have HA := Lib.hid ha
  have HB := Lib.hid hb
  have HNA := Lib.hid hna
  have HNB := Lib.hid hnb
  clear ha hb hna hnb hp
  go_enter Tryz.func42, Tryz.ntmps42
  go_wp2
  go_loopw [9, 10] (fun v t wr => ∃ i : Nat, i ≤ za.length ∧ t = .int .i64 i ∧ OutR w.heap.size wr v (mkR i fun j => (za.getD j 0 + k * zb.getD j 0) % p) ∧ Below w.heap.size w wr) (fun _ t _ => za.length - (intOf t).toNat)
  case atStart => exact ⟨0, Nat.zero_le _, rfl, OutR.start w _ _ (Nat.le_refl _) rfl, by ((repeat' (first | with_reducible exact Below.refl _ _ | (with_reducible refine Below.setCell ?_ ?_ _) | (with_reducible refine Below.alloc ?_ ?_ _) | (with_reducible refine Below.drew ?_))); all_goals (first | (simp; done) | omega | (simp; omega)))⟩
  case round =>
    obtain ⟨i, hi', rfl, ho, hbel⟩ := hrel
    have HO := Lib.hid ho
    have hwz := hbel.size
    clear ho
    by_cases hlt : i < za.length
    · obtain ⟨b1, o1, ha1, _, hb1, hc1⟩ := HA.out.num hlt
      obtain ⟨b2, o2, ha2, _, hb2, hc2⟩ := HB.out.num (by omega : i < zb.length)
      subst ha1
      subst ha2
      have hc1 := (hbel.cell (p := ⟨b1, o1 + i, none⟩) (Nat.lt_of_lt_of_le hb1 ht)).trans hc1
      have hc2 := (hbel.cell (p := ⟨b2, o2 + i, none⟩) (Nat.lt_of_lt_of_le hb2 ht')).trans hc2
      obtain ⟨x0, x1⟩ := HNA.out i hlt
      obtain ⟨y0, y1⟩ := HNB.out i (by omega)
      have HS : Hid (mkR (i + 1) (fun j => (za.getD j 0 + k * zb.getD j 0) % p) = mkR i (fun j => (za.getD j 0 + k * zb.getD j 0) % p) ++ [(za.getD i 0 + k * zb.getD i 0) % p]) := mkR_succ _ _
      obtain ⟨x, hx⟩ : ∃ x, x = za.getD i 0 := ⟨_, rfl⟩
      obtain ⟨y, hy⟩ : ∃ y, y = zb.getD i 0 := ⟨_, rfl⟩
      rw [← hx] at hc1 x0 x1 HS
      rw [← hy] at hc2 y0 y1 HS
      clear hx hy
      have m0 : 0 ≤ k * y := Int.mul_nonneg k0 y0
      have m1 : k * y ≤ 13 * 13 := Int.le_trans (Int.mul_le_mul_of_nonneg_right (by omega : k ≤ 13) y0) (Int.mul_le_mul_of_nonneg_left (by omega) (by omega))
      have hi1 : (i : Int) < (za.length : Int) := by omega
      have hi2 : (i : Int) < (zb.length : Int) := by omega
      have e1 : IntKind.i64.wrap (k * y) = k * y := IntWalk.i64_in _ (by omega)
      have e2 : IntKind.i64.wrap (x + k * y) = x + k * y := IntWalk.i64_in _ (by omega)
      have e3 : (x + k * y).tmod p = (x + k * y) % p := Int.tmod_eq_emod_of_nonneg (by omega)
      obtain ⟨X, hX⟩ : ∃ X, X = (mkR i (fun j => (za.getD j 0 + k * zb.getD j 0) % p)).map (Value.int .i64) := ⟨_, rfl⟩
      have HX := Lib.hid hX
      have HO2 : Hid (wr.ownsRow w.heap.size 2 1 u9 i X) := by
        have := HO.out; unfold OutR at this; rw [mkR_len, ← hX] at this; exact this
      have n1 : u9.ownBlock ≠ some b1 := fun e => by have := (HO2.out.lt _ e).1; omega
      have n2 : u9.ownBlock ≠ some b2 := fun e => by have := (HO2.out.lt _ e).1; omega
      have lb1 : b1 < wr.heap.size := by omega
      have lb2 : b2 < wr.heap.size := by omega
      have hp0 : ¬ p = 0 := by omega
      have hp1 : (p == 0) = false := by simpa using hp0
      clear hX
      go_wp2
      go_region_held3 (fun w' => w'.cell? ⟨b1, o1 + i, none⟩ = some (.int .i64 x) ∧ w'.cell? ⟨b2, o2 + i, none⟩ = some (.int .i64 y)) (first | go_keep | (go_split_ands; refine ⟨?_, ?_⟩; (rw [hgrow.cell_far _ (by simp; omega) (Ne.symm n1)]; assumption); (rw [hgrow.cell_far _ (by simp; omega) (Ne.symm n2)]; assumption))) ((refine step_append_lies _ (by rfl) _ _ _ (by rfl) w.heap.size 2 i0 _ 1 8 Tryz.underlying22 hi hz0 hz1 hz2 rfl (by omega) u9 i X (by rfl) ((HO2.out.alloc _).drew) ⟨wr.heap.size, 0, none⟩ 1 1 [.int .i64 ((x + k * y) % p)] (by rfl) (by rfl) (World.news_of_block (cs := #[.int .i64 ((x + k * y) % p)]) (t := 2) (fr := (0, 0)) (heap_alloc_new wr _)) (by simp [Value.oneCell']) (by omega) (by unfold maxLen; omega) (by omega) (by simp; omega) (wr.heap.size + 1) (by simp) ?_; intro gg cap w1 hown1 hgrow hat hlt1))
      clear e1 e2 e3
      go_wp2
      go_roundw
      case rel => exact ⟨i + 1, by omega, by go_num, OutR.step HO2.out HX.out HS.out hown1, ((hbel.alloc hwz _).drew).grown hgrow (by simp; omega) (fun _ hk => (HO2.out.lt _ hk).1)⟩
      case measure => simp [intOf]; omega
    · have hn : i = za.length := by omega
      subst hn
      go_wp2
      go_ret
      exact HO.out.newC hbel

set_option maxHeartbeats 1600000 in
set_option maxRecDepth 100000 in
theorem l02Scale_room (p k : Int) (a : Option Addr) (za : List Int) (ca lo tp : Nat) (w : World) (hp : prm p = true) (ha : RowIn lo tp w a za) (ht : tp ≤ w.heap.size)
    (hs : za.length ≤ 1048576) (hna : ∀ j, j < za.length → 0 ≤ za.getD j 0 ∧ za.getD j 0 < p) (k0 : 0 ≤ k) (k1 : k ≤ p) :
    Calls Tryz.prog 47 #[.int .i64 p, .slice a za.length ca, .int .i64 k] w (NewC (sclR p za k) w) := by
  obtain ⟨i0, hi, hz0, hz1, hz2⟩ := info_parts info64
  have hpb := prm_bd hp
  have HA := Lib.hid ha
  have HNA := Lib.hid hna
  clear ha hna hp
  go_enter Tryz.func47, Tryz.ntmps47
  go_wp2
  go_loopw [7, 8] (fun v t wr => ∃ i : Nat, i ≤ za.length ∧ t = .int .i64 i ∧ OutR w.heap.size wr v (mkR i fun j => za.getD j 0 * k % p) ∧ Below w.heap.size w wr) (fun _ t _ => za.length - (intOf t).toNat)
  case atStart => exact ⟨0, Nat.zero_le _, rfl, OutR.start w _ _ (Nat.le_refl _) rfl, by ((repeat' (first | with_reducible exact Below.refl _ _ | (with_reducible refine Below.setCell ?_ ?_ _) | (with_reducible refine Below.alloc ?_ ?_ _) | (with_reducible refine Below.drew ?_))); all_goals (first | (simp; done) | omega | (simp; omega)))⟩
  case round =>
    obtain ⟨i, hi', rfl, ho, hbel⟩ := hrel
    have HO := Lib.hid ho
    have hwz := hbel.size
    clear ho
    by_cases hlt : i < za.length
    · obtain ⟨b1, o1, ha1, _, hb1, hc1⟩ := HA.out.num hlt
      subst ha1
      have hc1 := (hbel.cell (p := ⟨b1, o1 + i, none⟩) (Nat.lt_of_lt_of_le hb1 ht)).trans hc1
      obtain ⟨x0, x1⟩ := HNA.out i hlt
      have HS : Hid (mkR (i + 1) (fun j => za.getD j 0 * k % p) = mkR i (fun j => za.getD j 0 * k % p) ++ [za.getD i 0 * k % p]) := mkR_succ _ _
      obtain ⟨x, hx⟩ : ∃ x, x = za.getD i 0 := ⟨_, rfl⟩
      rw [← hx] at hc1 x0 x1 HS
      clear hx
      have m0 : 0 ≤ x * k := Int.mul_nonneg x0 k0
      have m1 : x * k ≤ 13 * 13 := Int.le_trans (Int.mul_le_mul_of_nonneg_right (by omega : x ≤ 13) k0) (Int.mul_le_mul_of_nonneg_left (by omega) (by omega))
      have hi1 : (i : Int) < (za.length : Int) := by omega
      have e1 : IntKind.i64.wrap (x * k) = x * k := IntWalk.i64_in _ (by omega)
      have e3 : (x * k).tmod p = x * k % p := Int.tmod_eq_emod_of_nonneg (by omega)
      obtain ⟨X, hX⟩ : ∃ X, X = (mkR i (fun j => za.getD j 0 * k % p)).map (Value.int .i64) := ⟨_, rfl⟩
      have HX := Lib.hid hX
      have HO2 : Hid (wr.ownsRow w.heap.size 2 1 u7 i X) := by
        have := HO.out; unfold OutR at this; rw [mkR_len, ← hX] at this; exact this
      have n1 : u7.ownBlock ≠ some b1 := fun e => by have := (HO2.out.lt _ e).1; omega
      have lb1 : b1 < wr.heap.size := by omega
      have hp0 : ¬ p = 0 := by omega
      have hp1 : (p == 0) = false := by simpa using hp0
      clear hX
      go_wp2_with (at_builtin; refine wpList_append_lies _ rfl _ _ 22 rfl w.heap.size 2 i0 (.int .i64 0) 1 8 Tryz.underlying22 hi hz0 hz1 hz2 rfl (by decide) u7 i X rfl (HO2.out.alloc _) ⟨wr.heap.size, 0, none⟩ 1 1 [.int .i64 (Int.emod (x * k) p)] rfl rfl (World.news_of_block (cs := #[.int .i64 (Int.emod (x * k) p)]) (t := 2) (fr := (0, 0)) (heap_alloc_new wr _)) (by simp [Value.oneCell']) (by omega) (by unfold maxLen; omega) (by omega) (by simp; omega) (wr.heap.size + 1) (by simp) ?_; intro gg cap w1 hown1 hgrow hat hlt1)
      clear e1 e3
      go_wp2
      go_roundw
      case rel => exact ⟨i + 1, by omega, by go_num, OutR.step HO2.out HX.out HS.out hown1, (hbel.alloc hwz _).grown hgrow (by simp; omega) (fun _ hk => (HO2.out.lt _ hk).1)⟩
      case measure => simp [intOf]; omega
    · have hn : i = za.length := by omega
      subst hn
      go_wp2
      go_ret
      exact HO.out.newC hbel

set_option maxHeartbeats 800000 in
theorem l01Own_room (a : Option Addr) (zs : List Int) (ca lo tp : Nat) (w : World) (ha : RowIn lo tp w a zs) (ht : tp ≤ w.heap.size) (h0 : 0 < zs.length) (hs : zs.length ≤ 1048576) :
    Calls Tryz.prog 46 #[.slice a zs.length ca] w (NewC zs w) := by
  obtain ⟨i0, hi, hz0, hz1, hz2⟩ := info_parts info64
  rcases ha with h | ⟨b, o, rfl, _, hb, hc⟩
  · rw [h] at h0; simp at h0
  · have hbw : b < w.heap.size := Nat.lt_of_lt_of_le hb ht
    have HN := Lib.hid (news_of hc (.cells #[] 2) hbw)
    clear hc
    go_enter Tryz.func46, Tryz.ntmps46
    go_wp2_with (at_builtin; refine wpList_append_lies _ rfl _ _ 22 rfl w.heap.size 2 i0 (.int .i64 0) 1 8 Tryz.underlying22 hi hz0 hz1 hz2 rfl (by decide) _ 0 [] rfl (World.ownsRow_made w #[] 0 (Nat.le_refl _) (Nat.zero_le _) rfl) ⟨b, o, none⟩ zs.length ca (zs.map (Value.int .i64)) rfl (by simp) HN.out (ones_of zs) h0 (by unfold maxLen; omega) (by omega) (by simp) (w.heap.size + 1) (by simp) ?_; intro gg cap w1 hown1 hgrow hat hlt1)
    rw [Nat.zero_add] at hown1
    have HO : Hid (OutR w.heap.size w1 (.slice (some ⟨gg, 0, none⟩) zs.length cap) zs) := OutR.of hown1 rfl
    have HB : Hid (Below w.heap.size w w1) := ((Below.refl _ _).alloc (Nat.le_refl _) _).grown hgrow (by simp) (fun k hk => by cases hk; exact Nat.le_refl _)
    clear hown1 hgrow
    go_wp2
    go_ret
    exact HO.out.newC HB.out

theorem l02Scale_nc (p k : Int) (a : Option Addr) (za : List Int) (n ca lo tp : Nat) (w : World) (hp : prm p = true) (ha : RowIn lo tp w a za) (ht : tp ≤ w.heap.size)
    (hn : za.length = n) (hs : n ≤ 1048576) (hna : ∀ j, j < n → 0 ≤ za.getD j 0 ∧ za.getD j 0 < p) (k0 : 0 ≤ k) (k1 : k ≤ p) :
    Calls Tryz.prog 47 #[.int .i64 p, .slice a n ca, .int .i64 k] w (NewLCr n (sclR p za k) w) := by
  subst hn
  exact (l02Scale_room p k a za ca lo tp w hp ha ht hs hna k0 k1).mono (fun e w' h => h.l (by unfold sclR; rw [mkR_len]))

theorem l02Plus_nc (p k : Int) (a b : Option Addr) (za zb : List Int) (n ca cb lo tp lo' tp' : Nat) (w : World) (hp : prm p = true) (ha : RowIn lo tp w a za) (hb : RowIn lo' tp' w b zb) (ht : tp ≤ w.heap.size) (ht' : tp' ≤ w.heap.size)
    (hn : za.length = n) (hn' : zb.length = n) (hs : n ≤ 1048576) (hna : ∀ j, j < n → 0 ≤ za.getD j 0 ∧ za.getD j 0 < p) (hnb : ∀ j, j < n → 0 ≤ zb.getD j 0 ∧ zb.getD j 0 < p) (k0 : 0 ≤ k) (k1 : k ≤ p) :
    Calls Tryz.prog 42 #[.int .i64 p, .slice a n ca, .slice b n cb, .int .i64 k] w (NewLCr n (plusR p za zb k) w) := by
  subst hn
  have h := l02Plus_room p k a b za zb ca cb lo tp lo' tp' w hp ha hb ht ht' (by omega) hs hna (fun j hj => hnb j (by omega)) k0 k1
  rw [hn'] at h
  exact h.mono (fun e w' h => h.l (by unfold plusR; rw [mkR_len]))

/-- A matrix that is being built. -/
def OutC (B : Nat) (w : World) (v : Value) (m : List (List Int)) : Prop :=
  ∃ vals : List Value, w.ownsRow B 22 1 v m.length vals ∧ ∀ i, i < m.length → ∃ r c, vals[i]? = some (.slice r (rw' m i).length c) ∧ (rw' m i).length ≤ c ∧ TagR B w.heap.size w r (rw' m i)

theorem OutC.start (w : World) (B : Nat) (t : TypeId) (hB : B ≤ w.heap.size) (ht : t = 22) : OutC B (w.alloc (.cells #[] t)) (.slice (some ⟨w.heap.size, 0, none⟩) 0 0) [] := by
  subst ht
  exact ⟨[], World.ownsRow_made w #[] 0 hB (Nat.zero_le _) rfl, fun i hi => by simp at hi⟩

/-- A row is appended: 'w1' is the world behind the append. -/
theorem OutC.push {B : Nat} {w w1 : World} {v v' : Value} {m : List (List Int)} {vals : List Value} {r : Option Addr} {z : List Int} {c : Nat}
    (ho : w.ownsRow B 22 1 v m.length vals) (hr : ∀ i, i < m.length → ∃ r c, vals[i]? = some (.slice r (rw' m i).length c) ∧ (rw' m i).length ≤ c ∧ TagR B w.heap.size w r (rw' m i))
    (hrm : z.length ≤ c) (hz : TagR B w.heap.size w r z) (h1 : w1.ownsRow B 22 1 v' (m.length + 1) (vals ++ [.slice r z.length c])) (hg : w.grownBy w1 v.ownBlock) : OutC B w1 v' (m ++ [z]) := by
  have hvl : vals.length = m.length := by have := ho.1; omega
  have keep : ∀ b cur, B ≤ b → b < w.heap.size → w.heap[b]? = some (.cells cur 2 (0, 0)) → w1.heap[b]? = w.heap[b]? := by
    intro b cur _ hlt ht
    refine hg.block b hlt (fun e => ?_)
    rcases ho.2 with ⟨rfl, _⟩ | ⟨g, cap, cur', rfl, _, hgg, _⟩
    · simp [Value.ownBlock] at e
    · simp [Value.ownBlock] at e
      subst e
      rw [hgg] at ht
      simp at ht
  refine ⟨vals ++ [.slice r z.length c], by rw [List.length_append]; exact h1, fun i hi => ?_⟩
  simp only [List.length_append, List.length_cons, List.length_nil] at hi
  by_cases e : i < m.length
  · obtain ⟨r', c', g1, gr, g2⟩ := hr i e
    rw [rw_append e]
    exact ⟨r', c', by rw [List.getElem?_append_left (by omega)]; exact g1, gr, g2.block (Nat.le_refl _) hg.size (fun b cur h0 h1 h2 => keep b cur h0 h1 h2)⟩
  · have : i = m.length := by omega
    subst this
    rw [rw_append_last]
    exact ⟨r, c, by rw [← hvl]; simp, hrm, hz.block (Nat.le_refl _) hg.size (fun b cur h0 h1 h2 => keep b cur h0 h1 h2)⟩

theorem OutC.nextT {B n : Nat} {w w2 w1 : World} {o : Obj} {v v' : Value} {m : List (List Int)} {vals : List Value} {r : Option Addr} {cp : Nat} (hn : n < m.length)
    (ho : w.ownsRow B 22 1 v n vals) (hr : ∀ i, i < n → ∃ r c', vals[i]? = some (.slice r (rw' (m.take n) i).length c') ∧ (rw' (m.take n) i).length ≤ c' ∧ TagR B w.heap.size w r (rw' (m.take n) i))
    (hrm : (rw' m n).length ≤ cp) (hz : TagR w.heap.size w2.heap.size w2 r (rw' m n)) (hB : B ≤ w.heap.size) (h2 : Below w.heap.size w w2) (h1 : w1.ownsRow B 22 1 v' (n + 1) (vals ++ [.slice r (rw' m n).length cp])) (hg : (w2.alloc o).grownBy w1 v.ownBlock) : OutC B w1 v' (m.take (n + 1)) := by
  have hb : Below w2.heap.size w2 (w2.alloc o) := (Below.refl _ _).alloc (Nat.le_refl _) o
  have hl : (m.take n).length = n := by rw [List.length_take]; omega
  rw [take_snoc' hn]
  refine OutC.push (m := m.take n) (w := w2.alloc o) (vals := vals) (by rw [hl]; exact (ho.kept (below_grown h2) (by cases hv : v.ownBlock <;> simp)).alloc o) (fun i hi => ?_) hrm (hz.below hb (Nat.le_refl _) hB hb.size) (c := cp) (by rw [hl]; exact h1) hg
  rw [hl] at hi
  obtain ⟨r', c', g1, gr, g2⟩ := hr i hi
  exact ⟨r', c', g1, gr, (g2.below h2 (Nat.le_refl _) (Nat.le_refl _) h2.size).below hb (Nat.le_refl _) (Nat.le_refl _) hb.size⟩

/-- A matrix appended row by row in new memory is handed back. -/
def NewOC (m : List (List Int)) (w : World) (e : Ending) (w' : World) : Prop :=
  ∃ v, e = .returned v ∧ OutC w.heap.size w' v m ∧ Below w.heap.size w w'

set_option maxRecDepth 100000 in
set_option maxHeartbeats 1600000 in
theorem l01Own2_room (a : Option Addr) (m : List (List Int)) (ca lo tp : Nat) (w : World) (hm : MatIn lo tp w a m) (ht : tp ≤ w.heap.size) (hn : m.length ≤ 1024) (hc : ∀ i, i < m.length → 0 < (rw' m i).length ∧ (rw' m i).length ≤ 1024) :
    Calls Tryz.prog 29 #[.slice a m.length ca] w (NewOC m w) := by
  obtain ⟨j0, kj, kz0, kz1, kz2⟩ := info_parts info_slice
  have HM := Lib.hid hm
  have HC := Lib.hid hc
  clear hm hc
  go_enter Tryz.func29, Tryz.ntmps29
  go_wp2
  go_loopw [3, 4] (fun v t wr => ∃ i : Nat, i ≤ m.length ∧ t = .int .i64 i ∧ OutC w.heap.size wr v (m.take i) ∧ Below w.heap.size w wr) (fun _ t _ => m.length - (intOf t).toNat)
  case atStart => exact ⟨0, Nat.zero_le _, rfl, OutC.start w _ _ (Nat.le_refl _) rfl, by ((repeat' (first | with_reducible exact Below.refl _ _ | (with_reducible refine Below.setCell ?_ ?_ _) | (with_reducible refine Below.alloc ?_ ?_ _) | (with_reducible refine Below.drew ?_))); all_goals (first | (simp; done) | omega | (simp; omega)))⟩
  case round =>
    obtain ⟨i, hi', rfl, ho, hbel⟩ := hrel
    have HO := Lib.hid ho
    have HBEL := Lib.hid hbel
    have hwz := hbel.size
    clear ho
    by_cases hlt : i < m.length
    · obtain ⟨b1, o1, r, c1, ha1, _, hb1, hr1, hrow⟩ := (HM.out.below hbel ht).row hlt
      subst ha1
      have HROW := Lib.hid hrow
      clear hrow hbel
      obtain ⟨vals, hvo, hvr⟩ := HO.out
      rw [List.length_take, Nat.min_eq_left hi'] at hvo hvr
      have HV := Lib.hid hvo
      have HVR := Lib.hid hvr
      clear hvo hvr
      go_wp2_with (first | (go_at_call 46; (with_reducible refine (l01Own_room _ _ _ lo tp _ HROW.out (by omega) (HC.out i hlt).1 (by have := (HC.out i hlt).2; omega)).mono ?_); rintro e w2 ⟨r2, k2, rfl, hrm2, ho2, hb2⟩; have HO2 := Lib.hid ho2; have HB2 := Lib.hid hb2; have hz2 := hb2.size; have HV2 := Lib.hid (HV.out.kept (below_grown hb2) (by cases hv : Value.ownBlock u3 <;> simp)); clear ho2 hb2) | (at_builtin; refine wpList_append_lies _ rfl _ _ 26 rfl w.heap.size 22 j0 (.slice none 0 0) 1 24 Tryz.underlying26 kj kz0 kz1 kz2 rfl (by decide) u3 i vals rfl (HV2.out.alloc _) ⟨w2.heap.size, 0, none⟩ 1 1 [.slice r2 (rw' m i).length k2] rfl rfl (World.news_of_block (cs := #[.slice r2 (rw' m i).length k2]) (t := 22) (fr := (0, 0)) (heap_alloc_new w2 _)) (by simp [Value.oneCell']) (by omega) (by unfold maxLen; omega) (by omega) (by simp; omega) (w2.heap.size + 1) (by simp) ?_; intro gg cap w1 hown1 hgrow hat hlt1))
      go_wp2
      go_roundw
      case rel => exact ⟨i + 1, by omega, by go_num, OutC.nextT hlt HV.out HVR.out hrm2 HO2.out hwz HB2.out hown1 hgrow, ((HBEL.out.trans (HB2.out.mono hwz)).alloc (by omega) _).grown hgrow (by simp; omega) (fun _ hk => (HV.out.lt _ hk).1)⟩
      case measure => simp [intOf]; omega
    · have hn : i = m.length := by omega
      subst hn
      have HT : Hid (m.take m.length = m) := by show m.take m.length = m; exact List.take_length
      have HF := HO.out
      rw [HT.out] at HF
      have HF := Lib.hid HF
      clear hbel
      go_wp2
      go_ret
      exact ⟨_, rfl, HF.out, HBEL.out⟩

/-- The outer list lies at the head of block b, the rows in blocks of numbers from lo on. -/
structure TopC (lo : Nat) (w : World) (b : Nat) (m : List (List Int)) : Prop where
  lob : lo ≤ b
  tag : ∃ cur, w.heap[b]? = some (.cells cur 22 (0, 0))
  row : ∀ i, i < m.length → ∃ r c, w.cell? ⟨b, i, none⟩ = some (.slice r (rw' m i).length c) ∧ (rw' m i).length ≤ c ∧ TagR lo w.heap.size w r (rw' m i)
theorem TopC.lt {lo : Nat} {w : World} {b : Nat} {m : List (List Int)} (h : TopC lo w b m) : b < w.heap.size := by
  obtain ⟨cur, hb⟩ := h.tag
  exact (Array.getElem?_eq_some_iff.1 hb).1
theorem TopC.free {lo : Nat} {w : World} {b : Nat} {m : List (List Int)} (h : TopC lo w b m) (j : Nat) : w.frozen? ⟨b, j, none⟩ = false := by
  obtain ⟨cur, hb⟩ := h.tag
  exact free_of hb j
theorem TopC.below {lo : Nat} {w w' : World} {b : Nat} {m : List (List Int)} (h : TopC lo w b m) (hb : Below w.heap.size w w') : TopC lo w' b m where
  lob := h.lob
  tag := by obtain ⟨cur, hc⟩ := h.tag; exact ⟨cur, (hb.block b h.lt).trans hc⟩
  row i hi := by
    obtain ⟨r, c, h1, hc, h2⟩ := h.row i hi
    exact ⟨r, c, (hb.cell (p := ⟨b, i, none⟩) h.lt).trans h1, hc, h2.below hb (Nat.le_refl _) (Nat.le_refl _) hb.size⟩
theorem TopC.mono {lo lo' : Nat} {w : World} {b : Nat} {m : List (List Int)} (h : TopC lo w b m) (hl : lo' ≤ lo) : TopC lo' w b m where
  lob := Nat.le_trans hl h.lob
  tag := h.tag
  row i hi := by
    obtain ⟨r, c, h1, hc, h2⟩ := h.row i hi
    exact ⟨r, c, h1, hc, h2.block hl (Nat.le_refl _) (fun _ _ _ _ _ => rfl)⟩
theorem TopC.mat {lo : Nat} {w : World} {b : Nat} {m : List (List Int)} (h : TopC lo w b m) : MatIn lo w.heap.size w (some ⟨b, 0, none⟩) m :=
  .inr ⟨b, 0, rfl, h.lob, h.lt, fun i hi => by
    obtain ⟨r, c, h1, hc, h2⟩ := h.row i hi
    exact ⟨r, c, by rw [Nat.zero_add]; exact h1, h2.row⟩⟩
/-- Another row is put in the place of row i. -/
theorem TopC.set {lo : Nat} {w : World} {b i : Nat} {m : List (List Int)} {r : Option Addr} {z : List Int} {c : Nat} (h : TopC lo w b m) (hi : i < m.length) (hrm : z.length ≤ c) (hz : TagR lo w.heap.size w r z) :
    TopC lo (w.setCell ⟨b, i, none⟩ (.slice r z.length c)) b (m.set i z) := by
  obtain ⟨cur, hcur⟩ := h.tag
  have hsz : (w.setCell ⟨b, i, none⟩ (.slice r z.length c)).heap.size = w.heap.size := by simp [World.setCell]
  have keep : ∀ k cur', w.heap[k]? = some (Obj.cells cur' 2 (0, 0)) → (w.setCell ⟨b, i, none⟩ (.slice r z.length c)).heap[k]? = w.heap[k]? := fun k cur' hk =>
    Below.heap_setCell _ _ _ _ (fun e => by have e1 : k = b := e; subst e1; rw [hcur] at hk; simp at hk)
  obtain ⟨r0, c0, g0, _⟩ := h.row i hi
  refine ⟨h.lob, ⟨cur.setIfInBounds i (.slice r z.length c), by simp [World.setCell, Array.getElem?_modify, hcur]⟩, fun j hj => ?_⟩
  rw [List.length_set] at hj
  rw [rw_set z hi, hsz]
  by_cases e : j = i
  · subst e
    rw [if_pos rfl]
    exact ⟨r, c, World.cell?_setCell_same w _ _ g0, hrm, hz.block (Nat.le_refl _) (Nat.le_refl _) (fun k cur' _ _ hk => keep k cur' hk)⟩
  · rw [if_neg e]
    obtain ⟨r1, c1, g1, gc, g2⟩ := h.row j hj
    exact ⟨r1, c1, (World.cell?_setCell_other _ _ _ _ (fun e2 => e (by injection e2 with _ e3; exact e3.symm))).trans g1, gc, g2.block (Nat.le_refl _) (Nat.le_refl _) (fun k cur' _ _ hk => keep k cur' hk)⟩
theorem OutC.top {B : Nat} {w : World} {v : Value} {m : List (List Int)} (h : OutC B w v m) (h0 : 0 < m.length) : ∃ b c, v = .slice (some ⟨b, 0, none⟩) m.length c ∧ m.length ≤ c ∧ c ≤ maxLen ∧ TopC B w b m := by
  obtain ⟨vals, ho, hr⟩ := h
  rcases ho.2 with ⟨rfl, hn⟩ | ⟨g, cap, cur, rfl, hb, hg, hnc, hcm, hcs, htake⟩
  · omega
  · refine ⟨g, cap, rfl, hnc, hcm, hb, ⟨cur, hg⟩, fun i hi => ?_⟩
    obtain ⟨r, c, h1, hc, h2⟩ := hr i hi
    refine ⟨r, c, ?_, hc, h2⟩
    have := ho.cells (g := g) rfl i _ h1
    rwa [Addr.add_lit, Nat.zero_add] at this
theorem TagR.setTopC {lo lo' tp : Nat} {w : World} {b i : Nat} {m : List (List Int)} {r : Option Addr} {z : List Int} {v : Value} (h : TopC lo w b m) (hz : TagR lo' tp w r z) : TagR lo' tp (w.setCell ⟨b, i, none⟩ v) r z := by
  obtain ⟨cur, hcur⟩ := h.tag
  exact hz.block (Nat.le_refl _) (Nat.le_refl _) (fun k cur' _ _ hk => Below.heap_setCell _ _ _ _ (fun e => by have e1 : k = b := e; subst e1; rw [hcur] at hk; simp at hk))
theorem TopC.setn {lo n : Nat} {w : World} {b i : Nat} {m : List (List Int)} {r : Option Addr} {z : List Int} {c : Nat} (h : TopC lo w b m) (hi : i < m.length) (hn : z.length = n) (hrm : n ≤ c) (hz : TagR lo w.heap.size w r z) :
    TopC lo (w.setCell ⟨b, i, none⟩ (.slice r n c)) b (m.set i z) := by
  subst hn; exact h.set hi hrm hz
theorem TagR.keepTopC {lo : Nat} {w : World} {b i : Nat} {m : List (List Int)} {r : Option Addr} {z : List Int} {v : Value} (h : TopC lo w b m) (hz : TagR lo w.heap.size w r z) : TagR lo (w.setCell ⟨b, i, none⟩ v).heap.size (w.setCell ⟨b, i, none⟩ v) r z := by
  have hsz : (w.setCell ⟨b, i, none⟩ v).heap.size = w.heap.size := by simp [World.setCell]
  rw [hsz]
  exact hz.setTopC h

/-- A reduced basis in new memory, each row with room, is handed back. -/
def NewBC (p : Int) (c : Nat) (A : List (List Int)) (w : World) (e : Ending) (w' : World) : Prop :=
  ∃ g k m, e = .returned (.slice (some ⟨g, 0, none⟩) m.length k) ∧ w.heap.size ≤ g ∧ g < w'.heap.size ∧ (∀ i, i < m.length → ∃ r k', w'.cell? ⟨g, i, none⟩ = some (.slice r (rw' m i).length k') ∧ (rw' m i).length ≤ k' ∧ TagR w.heap.size w'.heap.size w' r (rw' m i)) ∧ IsBas p c A m ∧ Below w.heap.size w w'
theorem newBC_of {p : Int} {c d n gb cap : Nat} {A m : List (List Int)} {w w' : World} (h : IsBas p c A (m.take d)) (ht : TopC w.heap.size w' gb m) (hb : Below w.heap.size w w') (hd : d ≤ m.length) (hn : m.length = n) :
    NewBC p c A w (.returned (.slice (some ⟨gb, 0, none⟩) d cap)) w' := by
  have hl : (m.take d).length = d := by rw [List.length_take]; omega
  refine ⟨gb, cap, m.take d, by rw [hl], ht.lob, ht.lt, fun i hi => ?_, h, hb⟩
  rw [hl] at hi
  obtain ⟨r, c', h1, hc, h2⟩ := ht.row i (by omega)
  rw [rw_take hi]
  exact ⟨r, c', h1, hc, h2⟩

set_option maxRecDepth 100000 in
set_option maxHeartbeats 6400000 in
theorem l02Basis_room (p : Int) (a : Option Addr) (A : List (List Int)) (ca lo tp c : Nat) (w : World) (hp : prm p = true) (hm : MatIn lo tp w a A) (ht : tp ≤ w.heap.size) (h0 : 0 < A.length) (hn : A.length ≤ 1024) (c0 : 0 < c) (c1 : c ≤ 1024)
    (hl : ∀ i, i < A.length → (rw' A i).length = c) (hr : ∀ i, i < A.length → ∀ j, j < c → 0 ≤ at' A i j ∧ at' A i j < p) :
    Calls Tryz.prog 30 #[.int .i64 p, .slice a A.length ca] w (NewBC p c A w) := by
  have hpb := prm_bd hp
  have HP := Lib.hid hp
  have HM := Lib.hid hm
  have HC2 : Hid (∀ i, i < A.length → 0 < (rw' A i).length ∧ (rw' A i).length ≤ 1024) := fun i hi => by rw [hl i hi]; exact ⟨c0, c1⟩
  have HST := Lib.hid (ColAt.start hl hr)
  clear hm hp hl hr
  go_enter Tryz.func30, Tryz.ntmps30
  go_wp2_with (go_at_call 29; (with_reducible refine (l01Own2_room _ A _ lo tp _ HM.out ht hn HC2.out).mono ?_); rintro e w1 ⟨v, rfl, ho, hb1⟩; obtain ⟨gb, cap, rfl, hnc, hcm, htop⟩ := ho.top h0; have HT1 := Lib.hid htop; have HB1 := Lib.hid hb1; have hgb := htop.lob; clear ho htop hb1)
  go_loopw [6, 7] (fun s t wr => ∃ (d k : Nat) (m : List (List Int)) (P : Nat → Nat), s = .int .i64 d ∧ t = .int .i64 k ∧ k ≤ c ∧ ColAt p c A m d k P ∧ TopC w.heap.size wr gb m ∧ Below w.heap.size w wr) (fun _ t _ => c - (intOf t).toNat)
  case atStart => exact ⟨0, 0, A, _, rfl, rfl, Nat.zero_le _, HST.out, HT1.out, HB1.out⟩
  case round =>
    obtain ⟨d, k, m, P, rfl, rfl, hk, hC, hT, hB⟩ := hrel
    have HC := Lib.hid hC
    have HT := Lib.hid hT
    have HB := Lib.hid hB
    have hwz := hB.size
    have hmn := hC.n
    have hdn := hC.dn
    obtain ⟨r0, c0', g0, _⟩ := hT.row 0 (by omega)
    have hl0 := hC.len 0 (by omega)
    rw [hl0] at g0
    rename World => wo
    clear hC hT hB hl0
    by_cases hlt : k < c
    · have hk1 : (k : Int) < (c : Int) := by omega
      go_wp2
      go_loopw [8] (fun t wr => ∃ f : Nat, d ≤ f ∧ f ≤ A.length ∧ t = .int .i64 f ∧ Zer m k d f ∧ Quiet wo wr) (fun t _ => A.length - (intOf t).toNat)
      case atStart => exact ⟨d, Nat.le_refl _, by omega, rfl, fun i h1 h2 => by omega, Quiet.refl _⟩
      case round =>
        obtain ⟨f, hdf, hf, rfl, hz, hq⟩ := hrel
        have HZ := Lib.hid hz
        have HQ := Lib.hid hq
        clear hz
        have HTr := Lib.hid (HT.out.below (hq.below _))
        rename World => wf
        by_cases hltf : f < A.length
        · obtain ⟨rf, cf, g1, _, htf⟩ := HTr.out.row f (by omega)
          have hlf := HC.out.len f (by omega)
          rw [hlf] at g1
          have hrow := htf.row
          obtain ⟨bf, of', haf, _, _, hcf0⟩ := hrow.num (j := k) (by omega)
          subst haf
          have HTF := Lib.hid htf
          obtain ⟨x0, x1⟩ := HC.out.rng f (by omega) k hlt
          obtain ⟨x, hx⟩ : ∃ x, x = at' m f k := ⟨_, rfl⟩
          have hcf : wf.cell? ⟨bf, of' + k, none⟩ = some (.int .i64 x) := by rw [hx]; exact hcf0
          rw [← hx] at x0 x1
          have HX := Lib.hid hx
          have hf1 : (f : Int) < (A.length : Int) := by omega
          clear hx hrow htf hlf hq hcf0
          by_cases hxz : x = 0
          · subst hxz
            go_wp2
            go_roundw
            case rel => exact ⟨f + 1, by omega, by omega, by go_num, fun i h1 h2 => by
                by_cases e : i = f
                · subst e; exact HX.out.symm
                · exact HZ.out i h1 (by omega), HQ.out⟩
            case measure => simp [intOf]; omega
          · have hx1 : (x == 0) = false := by simpa using hxz
            obtain ⟨rd, cd, g2, hrmd, htd⟩ := HTr.out.row d (by omega)
            have hld := HC.out.len d (by omega)
            have hlf := HC.out.len f (by omega)
            rw [hld] at g2
            have ff := HTr.out.free f
            have fd := HTr.out.free d
            have hd1 : (d : Int) < (A.length : Int) := by omega
            have HT2 := Lib.hid (HTr.out.setn (c := cd) (i := f) (by omega) hld (by rw [← hld]; exact hrmd) htd)
            have HF2 := Lib.hid (HTF.out.setTopC (i := f) (v := .slice rd c cd) HTr.out)
            have HB2 : Hid (Below w.heap.size w (wf.setCell ⟨gb, f, none⟩ (.slice rd c cd))) := by
              have hb0 := HB.out.trans (HQ.out.below _)
              have hs0 := hb0.size
              show Below w.heap.size w _
              (have hs_hb0 := hb0.size; (repeat' (first | with_reducible exact Below.refl _ _ | (with_reducible refine Below.setCell ?_ ?_ _) | (with_reducible refine Below.alloc ?_ ?_ _) | (with_reducible refine Below.drew ?_) | (with_reducible refine below_step ?_ ?_ hb0))); all_goals (first | (simp; done) | omega | (simp; omega) | (simp at hs_hb0 ⊢; omega)))
            obtain ⟨v0, v1⟩ := inv_bd HP.out x
            have hz2 : (wf.setCell ⟨gb, f, none⟩ (.slice rd c cd)).heap.size = wf.heap.size := by simp [World.setCell]
            have HZ2 := Lib.hid hz2
            have hcf2 : (wf.setCell ⟨gb, f, none⟩ (.slice rd c cd)).cell? ⟨bf, of' + k, none⟩ = some (.int .i64 x) := by
              rcases HF2.out with h | ⟨b, o, cur, e, _, _, _, hc⟩
              · rw [h] at hlf; simp at hlf; omega
              · cases e
                have := hc k (by omega)
                rw [HX.out]; exact this
            have HLF := Lib.hid hlf
            have hx1' : 1 ≤ x := by omega
            have HNF : Hid (∀ j, j < c → 0 ≤ (rw' m f).getD j 0 ∧ (rw' m f).getD j 0 < p) := fun j hj => HC.out.rng f (by omega) j hj
            have hw2 : wf.heap.size ≤ (wf.setCell ⟨gb, f, none⟩ (.slice rd c cd)).heap.size := by rw [HZ2.out]; exact Nat.le_refl _
            have HW2 := Lib.hid hw2
            have hlb : w.heap.size ≤ (wf.setCell ⟨gb, f, none⟩ (.slice rd c cd)).heap.size := HB2.out.size
            clear htd hld hlf hz2 hw2
            go_wp2_with (first | (go_at_call 48; (with_reducible refine (l01Inv_any p x _ HP.out hx1' x1).mono ?_); rintro e w' ⟨rfl, rfl⟩) | (go_at_call 47; (with_reducible refine (l02Scale_nc p (inv p x) _ (rw' m f) c _ w.heap.size wf.heap.size _ HP.out HF2.out.row HW2.out HLF.out (by omega) HNF.out v0 (by omega)).mono ?_); rintro e w3 ⟨hl3, r3, k3, rfl, hrm3, ht3, hb3⟩; have HL3 := Lib.hid hl3; have HT3 := Lib.hid ht3; have HB3 := Lib.hid hb3; have HM3 := Lib.hid (HT2.out.below hb3); obtain ⟨rq, cq, gq, _⟩ := HM3.out.row d (by rw [List.length_set]; omega); have fq := HM3.out.free d; clear hl3 ht3 hb3))
            have HI0 : Hid (TopC w.heap.size (w3.setCell ⟨gb, d, none⟩ (.slice r3 c k3)) gb (rowsAt p m d f k 0) ∧ TagR w.heap.size (w3.setCell ⟨gb, d, none⟩ (.slice r3 c k3)).heap.size (w3.setCell ⟨gb, d, none⟩ (.slice r3 c k3)) r3 (scaled p m f k) ∧ Below w.heap.size w (w3.setCell ⟨gb, d, none⟩ (.slice r3 c k3))) := by
              have hz3 : (w3.setCell ⟨gb, d, none⟩ (.slice r3 c k3)).heap.size = w3.heap.size := by simp [World.setCell]
              have hE : sclR p (rw' m f) (inv p x) = scaled p m f k := by rw [HX.out]; rfl
              have hT3 := HT3.out
              have hL3 := HL3.out
              rw [hE] at hT3 hL3
              have hT3' : TagR w.heap.size w3.heap.size w3 r3 (scaled p m f k) := hT3.block hlb (Nat.le_refl _) (fun _ _ _ _ _ => rfl)
              refine ⟨?_, ?_, ?_⟩
              · rw [← rowsAt_start (by omega) (by omega)]
                exact HM3.out.setn (by rw [List.length_set]; omega) hL3 hrm3 hT3'
              · rw [hz3]; exact hT3'.setTopC HM3.out
              · have hb0 := HB2.out.trans (HB3.out.mono hlb)
                have hs0 := hb0.size
                (have hs_hb0 := hb0.size; (repeat' (first | with_reducible exact Below.refl _ _ | (with_reducible refine Below.setCell ?_ ?_ _) | (with_reducible refine Below.alloc ?_ ?_ _) | (with_reducible refine Below.drew ?_) | (with_reducible refine below_step ?_ ?_ hb0))); all_goals (first | (simp; done) | omega | (simp; omega) | (simp at hs_hb0 ⊢; omega)))
            have HLS : Hid ((scaled p m f k).length = c) := by have h := HL3.out; show (scaled p m f k).length = c; unfold scaled; rw [← HX.out]; exact h
            obtain ⟨w4, hw4⟩ : ∃ w4, w4 = w3.setCell ⟨gb, d, none⟩ (.slice r3 c k3) := ⟨_, rfl⟩
            rw [← hw4] at HI0
            rw [← hw4]
            have HW4 := Lib.hid hw4
            clear hw4 hcf hcf2 g0 g1 g2 gq ff fd fq
            go_loopw [10] (fun t wr => ∃ i : Nat, i ≤ A.length ∧ t = .int .i64 i ∧ TopC w.heap.size wr gb (rowsAt p m d f k i) ∧ TagR w.heap.size wr.heap.size wr r3 (scaled p m f k) ∧ Below w.heap.size w wr) (fun t _ => A.length - (intOf t).toNat)
            case atStart => exact ⟨0, Nat.zero_le _, rfl, HI0.out.1, HI0.out.2.1, HI0.out.2.2⟩
            case round =>
              obtain ⟨i, hi, rfl, hTi, hRi, hBi⟩ := hrel
              have HTI := Lib.hid hTi
              have HRI := Lib.hid hRi
              have HBI := Lib.hid hBi
              have hwz4 := hBi.size
              rename World => wi
              by_cases hlti : i < A.length
              · have hi1 : (i : Int) < (A.length : Int) := by omega
                clear hTi hRi hBi
                by_cases hid : i = d
                · subst hid
                  go_wp2
                  go_roundw
                  case rel => exact ⟨i + 1, by omega, by go_num, by rw [← rowsAt_skip]; exact HTI.out, HRI.out, HBI.out⟩
                  case measure => simp [intOf]; omega
                · have hid1 : ((i : Int) == (d : Int)) = false := by simp; omega
                  have hid2 : ¬ (i : Int) = (d : Int) := by omega
                  obtain ⟨s, hs⟩ : ∃ s, s = sig d f i := ⟨_, rfl⟩
                  have hsm : s < m.length := by rw [hs]; unfold sig; split <;> omega
                  have HRW : Hid (rw' (rowsAt p m d f k i) i = rw' m s) := by
                    show rw' (rowsAt p m d f k i) i = rw' m s
                    rw [rowsAt_row (by omega), if_neg (Nat.lt_irrefl _), hs]; unfold midRow; rw [if_neg hid]
                  have HDR : Hid (doneRow p m d f k i = plusR p (rw' m s) (scaled p m f k) ((p - at' m s k) % p)) := by
                    show doneRow p m d f k i = _
                    rw [hs]; unfold doneRow; rw [if_neg hid]
                  have HLS2 : Hid ((rw' m s).length = c) := HC.out.len s hsm
                  obtain ⟨ri, ci, gi, _, hti⟩ := HTI.out.row i (by rw [rowsAt_len]; omega)
                  rw [HRW.out] at gi hti
                  rw [HLS2.out] at gi
                  have HTG := Lib.hid hti
                  obtain ⟨bi, oi, hai, _, hbi, hci0⟩ := hti.row.num (j := k) (by rw [HLS2.out]; omega)
                  subst hai
                  obtain ⟨y0, y1⟩ := HC.out.rng s hsm k hlt
                  have HNS : Hid (∀ j, j < c → 0 ≤ (rw' m s).getD j 0 ∧ (rw' m s).getD j 0 < p) := fun j hj => HC.out.rng s hsm j hj
                  have HNB : Hid (∀ j, j < c → 0 ≤ (scaled p m f k).getD j 0 ∧ (scaled p m f k).getD j 0 < p) := fun j hj => by
                    have hl := HLF.out
                    unfold scaled sclR
                    rw [mkR_at _ (by omega)]
                    exact ⟨Int.emod_nonneg _ (by omega), Int.emod_lt_of_pos _ (by omega)⟩
                  obtain ⟨y, hy⟩ : ∃ y, y = at' m s k := ⟨_, rfl⟩
                  have hci : wi.cell? ⟨bi, oi + k, none⟩ = some (.int .i64 y) := by rw [hy]; exact hci0
                  rw [← hy] at y0 y1 HDR
                  have e2 : IntKind.i64.wrap (p - y) = p - y := IntWalk.i64_in _ (by omega)
                  have hyy : (p - y) % p = -y % p := by simp
                  have HDR := Lib.hid (hyy ▸ HDR.out)
                  have e3 : (p - y).tmod p = -y % p := (Int.tmod_eq_emod_of_nonneg (by omega)).trans hyy
                  have q0 := Int.emod_nonneg (-y) (by omega : p ≠ 0)
                  have q1 := Int.emod_lt_of_pos (-y) (by omega : 0 < p)
                  have hp0 : ¬ p = 0 := by omega
                  have hp1 : (p == 0) = false := by simpa using hp0
                  have fi := HTI.out.free i
                  have HTd : Hid (TagR w.heap.size wi.drew.heap.size wi.drew (some ⟨bi, oi, none⟩) (rw' m s)) := HTG.out.block (Nat.le_refl _) (Nat.le_refl _) (fun _ _ _ _ _ => rfl)
                  have HRd : Hid (TagR w.heap.size wi.drew.heap.size wi.drew r3 (scaled p m f k)) := HRI.out.block (Nat.le_refl _) (Nat.le_refl _) (fun _ _ _ _ _ => rfl)
                  have hwd : wi.heap.size ≤ wi.drew.heap.size := Nat.le_refl _
                  clear hs hy hti hci0 hyy
                  go_wp2
                  go_region_with (first | (go_at_call 42; (with_reducible refine (l02Plus_nc p (-y % p) _ _ (rw' m s) (scaled p m f k) c _ _ w.heap.size wi.drew.heap.size w.heap.size wi.drew.heap.size _ HP.out HTd.out.row HRd.out.row (Nat.le_refl _) (Nat.le_refl _) HLS2.out HLS.out (by omega) HNS.out HNB.out q0 (by omega)).mono ?_); rintro e w5 ⟨hl5, r5, k5, rfl, hrm5, ht5, hb5⟩; have HL5 := Lib.hid hl5; have HT5 := Lib.hid ht5; have HB5 := Lib.hid hb5; have HM5 := Lib.hid ((HTI.out.below (Below.refl wi.heap.size wi).drew).below hb5); obtain ⟨rq, cq, gq, _⟩ := HM5.out.row i (by rw [rowsAt_len]; omega); have fq := HM5.out.free i; clear hl5 ht5 hb5))
                  all_goals go_wp2
                  all_goals go_roundw
                  all_goals (first | (case rel =>
                    exact ⟨i + 1, by omega, by go_num, by rw [← rowsAt_next (by omega) hid, HDR.out]; exact HM5.out.setn (by rw [rowsAt_len]; omega) HL5.out hrm5 (HT5.out.block hwz4 (Nat.le_refl _) (fun _ _ _ _ _ => rfl)),
                      TagR.keepTopC HM5.out (HRd.out.below HB5.out (Nat.le_refl _) (Nat.le_refl _) HB5.out.size), below_top hgb (HBI.out.trans ((((Below.refl wi.heap.size wi).drew).trans HB5.out).mono hwz4))⟩) | (simp [intOf]; omega))
              · have hin : i = A.length := by omega
                subst hin
                clear hTi hRi hBi
                go_wp2
                go_roundw
                case rel => exact ⟨d + 1, k + 1, _, _, by go_num, by go_num, by omega, by rw [← hmn] at HTI; exact HC.out.rows HP.out hlt hdf (by omega) (by rw [← HX.out]; exact hx1'), by rw [hmn]; exact HTI.out, HBI.out⟩
                case measure => simp [intOf]; omega
        · have hfn : f = A.length := by omega
          subst hfn
          clear hq
          go_wp2
          go_roundw
          case rel => exact ⟨d, k + 1, m, P, rfl, by go_num, by omega, HC.out.skip (fun i h1 h2 => HZ.out i h1 (by omega)), HTr.out, HB.out.trans (HQ.out.below _)⟩
          case measure => simp [intOf]; omega
    · have hkc : k = c := by omega
      subst hkc
      have HD := Lib.hid HC.out.done
      go_wp2
      go_ret
      exact newBC_of HD.out HT.out HB.out hdn hmn

end Go.Proofs.YtkibkkdeaojjoabGreat
