/-
  Lists joined, in the program: slices.Grow of nothing, slices.Concat.
  Conditions: the lists are rows of known cells, not empty, not too long.
-/
import Derived.Test.YtndneccgomfkdaaGreatQi36
import Derived.Lib.AppendZerosOnto
import Derived.Lib.Walk
namespace Go.Proofs.YtndneccgomfkdaaGreat
open Go.RowKit Go.ChangeShapes Go.WideShapes
set_option linter.unusedVariables false

def NewR0 (w : World) (e : Ending) (w' : World) : Prop := ∃ v, e = .returned v ∧ OutR w.heap.size w' v [] ∧ Below w.heap.size w w'
set_option maxRecDepth 100000 in
set_option maxHeartbeats 1600000 in
theorem growNil (n : Nat) (w : World) (h0 : 0 < n) (hn : n ≤ 100000) :
    Calls Tryz.prog 162 #[.slice none 0 0, .int .i64 n] w (NewR0 w) := by
  obtain ⟨i0, hi, hz0, hz1, hz2⟩ := info_parts info64
  have h1 : ¬ ((n : Int) < 0) := by omega
  have h4 : (0 : Int) < (n : Int) := by omega
  have hold : (Builtin.firstCells i0.size 0 (.slice none 0 0)).run Tryz.prog w.drew = .ok (([] : List Value).toArray) w.drew := run_firstCells_none w.drew i0.size 0 0 0
  have hrz : ∀ ty, (Builtin.append_ #[24, 3] ty #[.slice none 0 0, .int .i64 (n : Int)]).run Tryz.prog w =
      .ok (.slice (some ⟨w.heap.size, 0, none⟩) n (grownCap w n 0 2)) (w.drew.alloc (.cells (([] : List Value).toArray ++ Builtin.zeroCells (Value.int .i64 0).cells n ++ Builtin.zeroCells (Value.int .i64 0).cells (grownCap w n 0 2 - n)) 2)) := fun ty => by
    have h := Lib.run_append_grow_zeros w 24 3 ty 2 i0 (.int .i64 0) .i64 .i64 Tryz.underlying24 Tryz.underlying3 hi hz0 none 0 0 [] hold n h0 (by omega) (by omega) (by omega) (by rw [hz2]; omega) (by rw [hz2]; exact growslice_fits (by omega) (by omega))
    simpa using h
  have hGn : n ≤ grownCap w n 0 2 := grownCap_ge w _ _ _
  have hGm : grownCap w n 0 2 ≤ maxLen := grownCap_le_maxLen w n 0 2 (by unfold maxLen; omega)
  obtain ⟨G, hG⟩ : ∃ G, G = grownCap w n 0 2 := ⟨_, rfl⟩
  rw [← hG] at hrz hGn hGm
  have hGm2 := hGm
  unfold maxLen at hGm2
  obtain ⟨cs, hcs⟩ : ∃ cs, cs = (([] : List Value).toArray ++ Builtin.zeroCells (Value.int .i64 0).cells n ++ Builtin.zeroCells (Value.int .i64 0).cells (G - n)) := ⟨_, rfl⟩
  have hsz : cs.size = G * 1 := by
    rw [hcs]
    simp [Builtin.zeroCells, Value.cells]
    omega
  rw [← hcs] at hrz
  have HM := Lib.hid (World.ownsRow_made (base := w.heap.size) (e := 2) (size := 1) w.drew cs G (Nat.le_refl _) hGm hsz)
  clear hold hG hcs hsz
  go_enter Tryz.func162, Tryz.ntmps162
  go_wp2_with (at_builtin; refine Lib.wpList_append_run _ rfl _ _ _ _ rfl _ _ rfl rfl _ _ (hrz _) ?_)
  all_goals
    go_ret
    exact ⟨_, rfl, HM.out, (Below.refl w.heap.size w).drew.alloc (Nat.le_refl w.heap.size) _⟩

/-- The first i rows, one behind the other. -/
def catN (m : List (List Int)) : Nat → List Int
  | 0 => []
  | i + 1 => catN m i ++ rw' m i
theorem catN_len (m : List (List Int)) (i : Nat) : (catN m i).length = tot m i := by
  induction i with
  | zero => rfl
  | succ i ih => simp only [catN, tot, List.length_append]; rw [ih]
theorem news0 {w : World} {b o : Nat} {zs : List Int} (hc : ∀ j, j < zs.length → w.cell? ⟨b, o + j, none⟩ = some (.int .i64 (zs.getD j 0))) :
    ∀ j u, (zs.map (Value.int .i64))[j]? = some u → w.cell? ((⟨b, o, none⟩ : Addr).add j) = some u := by
  intro j u hj
  have hlt : j < zs.length := by
    have := (List.getElem?_eq_some_iff.1 hj).1
    simpa using this
  rw [Addr.add_lit]
  have e : (zs.map (Value.int .i64))[j]? = some (.int .i64 (zs.getD j 0)) := by simp [hlt, List.getD]
  rw [e] at hj
  rw [hc j hlt]
  exact hj

set_option maxRecDepth 100000 in
set_option maxHeartbeats 3200000 in
theorem concat_any (a : Option Addr) (m : List (List Int)) (ca lo tp : Nat) (w : World) (hm : MatIn lo tp w a m) (ht : tp ≤ w.heap.size) (h0 : 0 < m.length) (hn : m.length ≤ 64) (hr : ∀ i, i < m.length → 0 < (rw' m i).length ∧ (rw' m i).length ≤ 1024) (hT : tot m m.length ≤ 100000) :
    Calls Tryz.prog 121 #[.slice a m.length ca] w (NewR (catN m m.length) w) := by
  obtain ⟨i0, hi, hz0, hz1, hz2⟩ := info_parts info64
  have HM := Lib.hid hm
  have HR := Lib.hid hr
  have hT0 : 0 < tot m m.length := Nat.lt_of_lt_of_le (hr 0 h0).1 (tot_row h0)
  obtain ⟨T, hTT⟩ : ∃ T, T = tot m m.length := ⟨_, rfl⟩
  rw [← hTT] at hT hT0
  have HT := Lib.hid hTT
  clear hm hr hTT
  go_enter Tryz.func121, Tryz.ntmps121
  go_wp2
  go_loop [3, 11] (fun v t => ∃ i : Nat, i ≤ m.length ∧ t = .int .i64 i ∧ v = .int .i64 (tot m i : Nat)) (fun _ t => m.length - (intOf t).toNat)
  case atStart => exact ⟨0, Nat.zero_le _, rfl, rfl⟩
  case round =>
    obtain ⟨i, hi', rfl, rfl⟩ := hrel
    by_cases hlt : i < m.length
    · obtain ⟨b, o, r, c, ha, _, _, hrr, _⟩ := HM.out.row hlt
      subst ha
      have h1 : tot m i + (rw' m i).length ≤ T := by rw [HT.out]; exact tot_mono (m := m) (i := i + 1) (by omega)
      have hi1 : (i : Int) < (m.length : Int) := by omega
      have HS : Hid (tot m i + (rw' m i).length = tot m (i + 1)) := rfl
      obtain ⟨t, htt⟩ : ∃ t, t = tot m i := ⟨_, rfl⟩
      rw [← htt] at h1 HS
      rw [← htt]
      have e1 : IntKind.i64.wrap ((t : Int) + ((rw' m i).length : Int)) = ((t + (rw' m i).length : Nat) : Int) := by rw [IntWalk.i64_in _ (by omega)]; omega
      have e2 : ¬ ((t + (rw' m i).length : Nat) : Int) < 0 := by omega
      clear htt
      go_wp2
      go_round
      case rel => exact ⟨i + 1, by omega, by go_num, by rw [← HS.out]; first | rfl | go_num⟩
      case measure => simp [intOf]; omega
    · have hin : i = m.length := by omega
      subst hin
      rw [← HT.out]
      go_wp2_with (go_at_call 162; (with_reducible refine (growNil T _ hT0 hT).mono ?_); rintro e w2 ⟨v2, rfl, ho2, hb2⟩; have HO2 := Lib.hid ho2; have HB2 := Lib.hid hb2; clear ho2 hb2)
      go_loopw [6, 27] (fun v t wr => ∃ i : Nat, i ≤ m.length ∧ t = .int .i64 i ∧ OutR w.heap.size wr v (catN m i) ∧ Below w.heap.size w wr) (fun _ t _ => m.length - (intOf t).toNat)
      case atStart => exact ⟨0, Nat.zero_le _, rfl, HO2.out, HB2.out⟩
      case round =>
        obtain ⟨i, hi', rfl, ho, hbel⟩ := hrel
        have HO := Lib.hid ho
        have HB := Lib.hid hbel
        have hwz := hbel.size
        clear ho
        by_cases hlt : i < m.length
        · obtain ⟨b, o, r, c, ha, _, hb, hrr, hrow⟩ := (HM.out.below hbel ht).row hlt
          subst ha
          have hl := HR.out i hlt
          obtain ⟨l0, l1⟩ := hl
          have h1 : tot m i + (rw' m i).length ≤ T := by rw [HT.out]; exact tot_mono (m := m) (i := i + 1) (by omega)
          obtain ⟨bz, oz, har, _, hbz, hcz⟩ : ∃ bz oz, r = some ⟨bz, oz, none⟩ ∧ lo ≤ bz ∧ bz < tp ∧ ∀ j, j < (rw' m i).length → wr.cell? ⟨bz, oz + j, none⟩ = some (.int .i64 ((rw' m i).getD j 0)) := by
            rcases hrow with h | ⟨bz, oz, e, q0, q1, q2⟩
            · rw [h] at l0; simp at l0
            · exact ⟨bz, oz, e, q0, q1, q2⟩
          subst har
          have HN := Lib.hid (news0 hcz)
          have hcl := catN_len m i
          obtain ⟨z, hz⟩ : ∃ z, z = rw' m i := ⟨_, rfl⟩
          obtain ⟨y, hy⟩ : ∃ y, y = catN m i := ⟨_, rfl⟩
          have HSS : Hid (catN m (i + 1) = y ++ z) := by show _ = _; rw [hy, hz]; rfl
          obtain ⟨X, hX⟩ : ∃ X, X = y.map (Value.int .i64) := ⟨_, rfl⟩
          obtain ⟨n, hnn⟩ : ∃ n, n = y.length := ⟨_, rfl⟩
          have hnT : n + z.length ≤ T := by rw [hnn, hy, hcl, hz]; exact h1
          have HO2 : Hid (wr.ownsRow w.heap.size 2 1 u6 n X) := by
            have := HO.out; unfold OutR at this; rw [← hy, ← hX, ← hnn] at this; exact this
          rw [← hz] at HN l0 l1 hrr
          have HX := Lib.hid hX
          have HNN := Lib.hid hnn
          have hi1 : (i : Int) < (m.length : Int) := by omega
          clear hcl hz hy hX hnn hcz hrow hbel
          go_wp2_with (at_builtin; refine wpList_append_lies _ rfl _ _ 24 rfl w.heap.size 2 i0 (.int .i64 0) 1 8 Tryz.underlying24 hi hz0 hz1 hz2 rfl (by decide) u6 n X rfl HO2.out ⟨bz, oz, none⟩ z.length c (z.map (Value.int .i64)) rfl (by simp) HN.out (ones_of z) l0 (by unfold maxLen; omega) (by omega) (by omega) (wr.heap.size) (by omega) ?_; intro gg cap w1 hown1 hgrow hat hlt1)
          go_wp2
          go_roundw
          case rel =>
            exact ⟨i + 1, by omega, by go_num, by unfold OutR; rw [HSS.out, List.length_append, List.map_append, ← HX.out, ← HNN.out]; exact hown1, HB.out.grown hgrow hwz (fun _ hk => (HO2.out.lt _ hk).1)⟩
          case measure => simp [intOf]; omega
        · have hin : i = m.length := by omega
          subst hin
          clear hbel
          go_wp2
          go_ret
          exact HO.out.new HB.out

end Go.Proofs.YtndneccgomfkdaaGreat
