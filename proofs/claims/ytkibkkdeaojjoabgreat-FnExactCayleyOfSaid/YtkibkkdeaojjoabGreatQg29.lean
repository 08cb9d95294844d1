/-
  Lists joined, in the program: slices.Grow of nothing, slices.Concat.
  Conditions: the lists are rows of known cells, not empty, not too long.
  The program's rows with others beside them: the walk.
  Conditions: both are rows of rows of known cells, as many.
  What the program's elimination hands back, to be read: rows, pivots.
  Conditions: the list of vectors is a row of rows of known cells.
  What the model's turned matrices are: a contract.
  Conditions: the matrix is a row of rows of known cells, all of one length.
-/
import Derived.Test.YtkibkkdeaojjoabGreatQg10
import Derived.Test.YtkibkkdeaojjoabGreatQg19
import Derived.Lib.AppendZerosOnto
import Derived.Lib.Walk
import Derived.Test.YtkibkkdeaojjoabGreatQg13
import Derived.Test.YtkibkkdeaojjoabGreatQg23
import Derived.Test.YtkibkkdeaojjoabGreatQg27
import Derived.Test.YtkibkkdeaojjoabGreatQg7
import Derived.Deep.AppendLies
namespace Go.Proofs.YtkibkkdeaojjoabGreat
open Go.RowKit Go.ChangeShapes Go.WideShapes
set_option linter.unusedVariables false

def NewR0 (w : World) (e : Ending) (w' : World) : Prop := ∃ v, e = .returned v ∧ OutR w.heap.size w' v [] ∧ Below w.heap.size w w'
set_option maxRecDepth 100000 in
set_option maxHeartbeats 1600000 in
theorem growNil (n : Nat) (w : World) (h0 : 0 < n) (hn : n ≤ 100000) :
    Calls Tryz.prog 125 #[.slice none 0 0, .int .i64 n] w (NewR0 w) := by
  obtain ⟨i0, hi, hz0, hz1, hz2⟩ := info_parts info64
  have h1 : ¬ ((n : Int) < 0) := by omega
  have h4 : (0 : Int) < (n : Int) := by omega
  have hold : (Builtin.firstCells i0.size 0 (.slice none 0 0)).run Tryz.prog w.drew = .ok (([] : List Value).toArray) w.drew := run_firstCells_none w.drew i0.size 0 0 0
  have hrz : ∀ ty, (Builtin.append_ #[22, 3] ty #[.slice none 0 0, .int .i64 (n : Int)]).run Tryz.prog w =
      .ok (.slice (some ⟨w.heap.size, 0, none⟩) n (grownCap w n 0 2)) (w.drew.alloc (.cells (([] : List Value).toArray ++ Builtin.zeroCells (Value.int .i64 0).cells n ++ Builtin.zeroCells (Value.int .i64 0).cells (grownCap w n 0 2 - n)) 2)) := fun ty => by
    have h := Lib.run_append_grow_zeros w 22 3 ty 2 i0 (.int .i64 0) .i64 .i64 Tryz.underlying22 Tryz.underlying3 hi hz0 none 0 0 [] hold n h0 (by omega) (by omega) (by omega) (by rw [hz2]; omega) (by rw [hz2]; exact growslice_fits (by omega) (by omega))
    simpa using h
  have hGn : n ≤ grownCap w n 0 2 := grownCap_ge w _ _ _
  have hGm : grownCap w n 0 2 ≤ maxLen := grownCap_le_maxLen w n 0 2 (by unfold maxLen; omega)
  obtain ⟨G, hG⟩ : ∃ G, G = grownCap w n 0 2 := ⟨_, rfl⟩
  rw [← hG] at hrz hGn hGm
  have hGm2 := hGm
  unfold maxLen at hGm2
  obtain ⟨cs, hcs⟩ : ∃ cs, cs = (([] : List Value).toArray ++ Builtin.zeroCells (Value.int .i64 0).cells n ++ Builtin.zeroCells (Value.int .i64 0).cells (G - n)) := ⟨_, rfl⟩
  have hsz : cs.size = G * 1 := by
    rw [hcs]
    simp [Builtin.zeroCells, Value.cells]
    omega
  rw [← hcs] at hrz
  have HM := Lib.hid (World.ownsRow_made (base := w.heap.size) (e := 2) (size := 1) w.drew cs G (Nat.le_refl _) hGm hsz)
  clear hold hG hcs hsz
  go_enter Tryz.func125, Tryz.ntmps125
  go_wp2_with (at_builtin; refine Lib.wpList_append_run _ rfl _ _ _ _ rfl _ _ rfl rfl _ _ (hrz _) ?_)
  all_goals
    go_ret
    exact ⟨_, rfl, HM.out, (Below.refl w.heap.size w).drew.alloc (Nat.le_refl w.heap.size) _⟩

/-- The first i rows, one behind the other. -/
def catN (m : List (List Int)) : Nat → List Int
  | 0 => []
  | i + 1 => catN m i ++ rw' m i
theorem catN_len (m : List (List Int)) (i : Nat) : (catN m i).length = tot m i := by
  induction i with
  | zero => rfl
  | succ i ih => simp only [catN, tot, List.length_append]; rw [ih]
theorem news0 {w : World} {b o : Nat} {zs : List Int} (hc : ∀ j, j < zs.length → w.cell? ⟨b, o + j, none⟩ = some (.int .i64 (zs.getD j 0))) :
    ∀ j u, (zs.map (Value.int .i64))[j]? = some u → w.cell? ((⟨b, o, none⟩ : Addr).add j) = some u := by
  intro j u hj
  have hlt : j < zs.length := by
    have := (List.getElem?_eq_some_iff.1 hj).1
    simpa using this
  rw [Addr.add_lit]
  have e : (zs.map (Value.int .i64))[j]? = some (.int .i64 (zs.getD j 0)) := by simp [hlt, List.getD]
  rw [e] at hj
  rw [hc j hlt]
  exact hj

set_option maxRecDepth 100000 in
set_option maxHeartbeats 3200000 in
theorem concat_any (a : Option Addr) (m : List (List Int)) (ca lo tp : Nat) (w : World) (hm : MatIn lo tp w a m) (ht : tp ≤ w.heap.size) (h0 : 0 < m.length) (hn : m.length ≤ 64) (hr : ∀ i, i < m.length → 0 < (rw' m i).length ∧ (rw' m i).length ≤ 1024) (hT : tot m m.length ≤ 100000) :
    Calls Tryz.prog 110 #[.slice a m.length ca] w (NewR (catN m m.length) w) := by
  obtain ⟨i0, hi, hz0, hz1, hz2⟩ := info_parts info64
  have HM := Lib.hid hm
  have HR := Lib.hid hr
  have hT0 : 0 < tot m m.length := Nat.lt_of_lt_of_le (hr 0 h0).1 (tot_row h0)
  obtain ⟨T, hTT⟩ : ∃ T, T = tot m m.length := ⟨_, rfl⟩
  rw [← hTT] at hT hT0
  have HT := Lib.hid hTT
  clear hm hr hTT
  go_enter Tryz.func110, Tryz.ntmps110
  go_wp2
  go_loop [3, 11] (fun v t => ∃ i : Nat, i ≤ m.length ∧ t = .int .i64 i ∧ v = .int .i64 (tot m i : Nat)) (fun _ t => m.length - (intOf t).toNat)
  case atStart => exact ⟨0, Nat.zero_le _, rfl, rfl⟩
  case round =>
    obtain ⟨i, hi', rfl, rfl⟩ := hrel
    by_cases hlt : i < m.length
    · obtain ⟨b, o, r, c, ha, _, _, hrr, _⟩ := HM.out.row hlt
      subst ha
      have h1 : tot m i + (rw' m i).length ≤ T := by rw [HT.out]; exact tot_mono (m := m) (i := i + 1) (by omega)
      have hi1 : (i : Int) < (m.length : Int) := by omega
      have HS : Hid (tot m i + (rw' m i).length = tot m (i + 1)) := rfl
      obtain ⟨t, htt⟩ : ∃ t, t = tot m i := ⟨_, rfl⟩
      rw [← htt] at h1 HS
      rw [← htt]
      have e1 : IntKind.i64.wrap ((t : Int) + ((rw' m i).length : Int)) = ((t + (rw' m i).length : Nat) : Int) := by rw [IntWalk.i64_in _ (by omega)]; omega
      have e2 : ¬ ((t + (rw' m i).length : Nat) : Int) < 0 := by omega
      clear htt
      go_wp2
      go_round
      case rel => exact ⟨i + 1, by omega, by go_num, by rw [← HS.out]; first | rfl | go_num⟩
      case measure => simp [intOf]; omega
    · have hin : i = m.length := by omega
      subst hin
      rw [← HT.out]
      go_wp2_with (go_at_call 125; (with_reducible refine (growNil T _ hT0 hT).mono ?_); rintro e w2 ⟨v2, rfl, ho2, hb2⟩; have HO2 := Lib.hid ho2; have HB2 := Lib.hid hb2; clear ho2 hb2)
      go_loopw [6, 27] (fun v t wr => ∃ i : Nat, i ≤ m.length ∧ t = .int .i64 i ∧ OutR w.heap.size wr v (catN m i) ∧ Below w.heap.size w wr) (fun _ t _ => m.length - (intOf t).toNat)
      case atStart => exact ⟨0, Nat.zero_le _, rfl, HO2.out, HB2.out⟩
      case round =>
        obtain ⟨i, hi', rfl, ho, hbel⟩ := hrel
        have HO := Lib.hid ho
        have HB := Lib.hid hbel
        have hwz := hbel.size
        clear ho
        by_cases hlt : i < m.length
        · obtain ⟨b, o, r, c, ha, _, hb, hrr, hrow⟩ := (HM.out.below hbel ht).row hlt
          subst ha
          have hl := HR.out i hlt
          obtain ⟨l0, l1⟩ := hl
          have h1 : tot m i + (rw' m i).length ≤ T := by rw [HT.out]; exact tot_mono (m := m) (i := i + 1) (by omega)
          obtain ⟨bz, oz, har, _, hbz, hcz⟩ : ∃ bz oz, r = some ⟨bz, oz, none⟩ ∧ lo ≤ bz ∧ bz < tp ∧ ∀ j, j < (rw' m i).length → wr.cell? ⟨bz, oz + j, none⟩ = some (.int .i64 ((rw' m i).getD j 0)) := by
            rcases hrow with h | ⟨bz, oz, e, q0, q1, q2⟩
            · rw [h] at l0; simp at l0
            · exact ⟨bz, oz, e, q0, q1, q2⟩
          subst har
          have HN := Lib.hid (news0 hcz)
          have hcl := catN_len m i
          obtain ⟨z, hz⟩ : ∃ z, z = rw' m i := ⟨_, rfl⟩
          obtain ⟨y, hy⟩ : ∃ y, y = catN m i := ⟨_, rfl⟩
          have HSS : Hid (catN m (i + 1) = y ++ z) := by show _ = _; rw [hy, hz]; rfl
          obtain ⟨X, hX⟩ : ∃ X, X = y.map (Value.int .i64) := ⟨_, rfl⟩
          obtain ⟨n, hnn⟩ : ∃ n, n = y.length := ⟨_, rfl⟩
          have hnT : n + z.length ≤ T := by rw [hnn, hy, hcl, hz]; exact h1
          have HO2 : Hid (wr.ownsRow w.heap.size 2 1 u6 n X) := by
            have := HO.out; unfold OutR at this; rw [← hy, ← hX, ← hnn] at this; exact this
          rw [← hz] at HN l0 l1 hrr
          have HX := Lib.hid hX
          have HNN := Lib.hid hnn
          have hi1 : (i : Int) < (m.length : Int) := by omega
          clear hcl hz hy hX hnn hcz hrow hbel
          go_wp2_with (at_builtin; refine wpList_append_lies _ rfl _ _ 22 rfl w.heap.size 2 i0 (.int .i64 0) 1 8 Tryz.underlying22 hi hz0 hz1 hz2 rfl (by decide) u6 n X rfl HO2.out ⟨bz, oz, none⟩ z.length c (z.map (Value.int .i64)) rfl (by simp) HN.out (ones_of z) l0 (by unfold maxLen; omega) (by omega) (by omega) (wr.heap.size) (by omega) ?_; intro gg cap w1 hown1 hgrow hat hlt1)
          go_wp2
          go_roundw
          case rel =>
            exact ⟨i + 1, by omega, by go_num, by unfold OutR; rw [HSS.out, List.length_append, List.map_append, ← HX.out, ← HNN.out]; exact hown1, HB.out.grown hgrow hwz (fun _ hk => (HO2.out.lt _ hk).1)⟩
          case measure => simp [intOf]; omega
        · have hin : i = m.length := by omega
          subst hin
          clear hbel
          go_wp2
          go_ret
          exact HO.out.new HB.out

end Go.Proofs.YtkibkkdeaojjoabGreat

namespace Go.Proofs.YtkibkkdeaojjoabGreat
open Go.RowKit Go.ChangeShapes Go.WideShapes
set_option linter.unusedVariables false

theorem matTwo {W : World} {lo tp lo' tp' cv cu b : Nat} {a a' : Option Addr} {v u : List Int} (hb' : b = W.heap.size) (hv : RowIn lo tp W a v) (tv : tp ≤ W.heap.size) (hu : RowIn lo' tp' W a' u) (tu : tp' ≤ W.heap.size) (T : TypeId) :
    MatIn 0 (W.alloc (.cells #[.slice a v.length cv, .slice a' u.length cu] T)).heap.size (W.alloc (.cells #[.slice a v.length cv, .slice a' u.length cu] T)) (some ⟨b, 0, none⟩) [v, u] := by
  subst hb'
  refine .inr ⟨W.heap.size, 0, rfl, Nat.zero_le _, by simp, fun i hi => ?_⟩
  have hb := balloc W (.cells #[.slice a v.length cv, .slice a' u.length cu] T)
  match i, hi with
  | 0, _ => exact ⟨a, cv, by simp [go_sem, rw'], (hv.below hb tv).mono (Nat.zero_le _) (Nat.le_trans tv hb.size)⟩
  | 1, _ => exact ⟨a', cu, by simp [go_sem, rw'], (hu.below hb tu).mono (Nat.zero_le _) (Nat.le_trans tu hb.size)⟩
theorem cat_two (v u : List Int) : catN [v, u] 2 = v ++ u := by simp [catN, rw']
theorem tot_two' (v u : List Int) : tot [v, u] 2 = v.length + u.length := by simp [tot, rw']
def NewRL (n : Nat) (z : List Int) (w : World) (e : Ending) (w' : World) : Prop := ∃ r k, e = .returned (.slice r n k) ∧ TagR w.heap.size w'.heap.size w' r z ∧ Below w.heap.size w w'
theorem concat_two (av au : Option Addr) (v u : List Int) (nv nu cv cu lov tpv lou tpu b cap : Nat) (W : World) (T : TypeId) (hb : b = W.heap.size) (hnv : v.length = nv) (hnu : u.length = nu)
    (hv : RowIn lov tpv W av v) (tv : tpv ≤ W.heap.size) (hu : RowIn lou tpu W au u) (tu : tpu ≤ W.heap.size) (v0 : 0 < nv) (v1 : nv ≤ 1024) (u0 : 0 < nu) (u1 : nu ≤ 1024) :
    Calls Tryz.prog 110 #[.slice (some ⟨b, 0, none⟩) 2 cap] (W.alloc (.cells #[.slice av nv cv, .slice au nu cu] T)) (NewRL (nv + nu) (v ++ u) (W.alloc (.cells #[.slice av nv cv, .slice au nu cu] T))) := by
  subst hnv hnu
  have h := concat_any (some ⟨b, 0, none⟩) [v, u] cap 0 _ _ (matTwo (cv := cv) (cu := cu) hb hv tv hu tu T) (Nat.le_refl _) (by show 0 < 2; omega) (by show 2 ≤ 64; omega) (fun i hi => by
    match i, hi with
    | 0, _ => exact ⟨v0, v1⟩
    | 1, _ => exact ⟨u0, u1⟩) (by show tot [v, u] 2 ≤ 100000; rw [tot_two']; omega)
  refine h.mono ?_
  rintro e w' ⟨r, k, rfl, ht, hb'⟩
  have e2 : catN [v, u] [v, u].length = v ++ u := cat_two v u
  rw [e2] at ht
  exact ⟨r, k, by rw [e2, List.length_append], ht, hb'⟩

/-- A list of lists that is being filled. -/
structure RdM (w : World) (b i n : Nat) (Z : Nat → List Int) : Prop where
  lt : b < w.heap.size
  done : ∀ j, j < i → ∃ r c, w.cell? ⟨b, j, none⟩ = some (.slice r (Z j).length c) ∧ RowIn (b + 1) w.heap.size w r (Z j)
  rest : ∀ j, i ≤ j → j < n → w.cell? ⟨b, j, none⟩ = some (.slice none 0 0)
  free : ∀ j, w.frozen? ⟨b, j, none⟩ = false
theorem RdM.start (w : World) (n : Nat) (t : TypeId) (Z : Nat → List Int) : RdM (w.alloc (.cells (madeCells #[.slice none 0 0] n) t)) w.heap.size 0 n Z where
  lt := by simp
  done j hj := by omega
  rest j _ hj := made_cell w _ n t hj
  free j := by simp [go_sem]
theorem RdM.next {w w1 : World} {b i n : Nat} {Z : Nat → List Int} {r : Option Addr} {c : Nat} (h : RdM w b i n Z) (hi : i < n) (hb : Below w.heap.size w w1) (hr : RowIn w.heap.size w1.heap.size w1 r (Z i)) :
    RdM (w1.setCell ⟨b, i, none⟩ (.slice r (Z i).length c)) b (i + 1) n Z := by
  have hlt := h.lt
  have hsz : (w1.setCell ⟨b, i, none⟩ (.slice r (Z i).length c)).heap.size = w1.heap.size := by simp [World.setCell]
  have hz := hb.size
  have keep : ∀ lo z r', b < lo → RowIn lo w1.heap.size w1 r' z → RowIn lo w1.heap.size (w1.setCell ⟨b, i, none⟩ (.slice r (Z i).length c)) r' z := fun lo z r' hlo hr' => by
    rcases hr' with h0 | ⟨b', o', e, g0, g1, g2⟩
    · exact .inl h0
    · exact .inr ⟨b', o', e, g0, g1, fun j hj => (World.cell?_setCell_other _ _ _ _ (fun e2 => by injection e2 with e3; omega)).trans (g2 j hj)⟩
  refine ⟨by rw [hsz]; omega, fun j hj => ?_, fun j h1 h2 => ?_, fun j => ?_⟩
  · rw [hsz]
    by_cases e : j = i
    · subst e
      exact ⟨r, c, World.cell?_setCell_same w1 _ _ ((hb.cell (p := ⟨b, j, none⟩) hlt).trans (h.rest j (Nat.le_refl _) hi)), keep (b + 1) (Z j) r (Nat.lt_succ_self b) (hr.mono hlt (Nat.le_refl _))⟩
    · obtain ⟨r', c', g1, g2⟩ := h.done j (by omega)
      exact ⟨r', c', (World.cell?_setCell_other _ _ _ _ (fun e2 => e (by injection e2 with _ e3; exact e3.symm))).trans ((hb.cell (p := ⟨b, j, none⟩) hlt).trans g1), keep (b + 1) (Z j) r' (Nat.lt_succ_self b) ((g2.below hb (Nat.le_refl _)).mono (Nat.le_refl _) hz)⟩
  · exact (World.cell?_setCell_other _ _ _ _ (fun e2 => by injection e2 with _ e3; omega)).trans ((hb.cell (p := ⟨b, j, none⟩) hlt).trans (h.rest j (by omega) h2))
  · have := (hb.frozen (p := ⟨b, j, none⟩) hlt).trans (h.free j)
    simpa [go_sem] using this
theorem RdM.mat {w : World} {b n : Nat} {m : List (List Int)} (h : RdM w b n n (rw' m)) (hn : m.length = n) : MatIn b w.heap.size w (some ⟨b, 0, none⟩) m :=
  .inr ⟨b, 0, rfl, Nat.le_refl _, h.lt, fun i hi => by
    obtain ⟨r, c, g1, g2⟩ := h.done i (by omega)
    exact ⟨r, c, by rw [Nat.zero_add]; exact g1, g2.mono (Nat.le_succ b) (Nat.le_refl _)⟩⟩

def NewMN (n : Nat) (m : List (List Int)) (w : World) (e : Ending) (w' : World) : Prop := ∃ r k, e = .returned (.slice r n k) ∧ MatIn w.heap.size w'.heap.size w' r m ∧ Below w.heap.size w w'
set_option maxRecDepth 100000 in
set_option maxHeartbeats 3200000 in
theorem besideEach_any (a a' : Option Addr) (A O : List (List Int)) (ca ca' lo tp lo' tp' c d no : Nat) (w : World) (hm : MatIn lo tp w a A) (ht : tp ≤ w.heap.size) (hm' : MatIn lo' tp' w a' O) (ht' : tp' ≤ w.heap.size) (hno : no = O.length) (hn : A.length ≤ O.length) (h1 : O.length ≤ 1024)
    (hc : ∀ i, i < A.length → (rw' A i).length = c) (hd : ∀ i, i < A.length → (rw' O i).length = d) (c0 : 0 < c) (c1 : c ≤ 1024) (d0 : 0 < d) (d1 : d ≤ 1024) :
    Calls Tryz.prog 92 #[.slice a A.length ca, .slice a' no ca'] w (NewMN A.length (bes A O) w) := by
  have HM := Lib.hid hm
  have HM' := Lib.hid hm'
  have HC := Lib.hid hc
  have HD := Lib.hid hd
  have HNO := Lib.hid hno
  have hno1 : O.length ≤ no ∧ no ≤ O.length := by omega
  have hmk := fun W => run_make_row' (P := Tryz.prog) 26 22 (.slice none 0 0) 24 Tryz.underlying26 info_slice rfl .i64 .i64 A.length (by omega) (by omega) W
  obtain ⟨n, hnn⟩ : ∃ n, n = A.length := ⟨_, rfl⟩
  have HN := Lib.hid hnn
  have HBR : Hid (∀ i, i < n → rw' (bes A O) i = rw' A i ++ rw' O i) := fun i h => bes_row (by omega)
  rw [← hnn] at hmk hn
  rw [← hnn]
  have hnA : n ≤ A.length ∧ A.length ≤ n := by omega
  clear hm hm' hc hd hno hnn
  go_enter Tryz.func92, Tryz.ntmps92
  go_wp2
  go_loopw [13] (fun t wr => ∃ i : Nat, i ≤ n ∧ t = .int .i64 i ∧ RdM wr w.heap.size i n (rw' (bes A O)) ∧ Below w.heap.size w wr) (fun t _ => n - (intOf t).toNat)
  case atStart => exact ⟨0, Nat.zero_le _, rfl, RdM.start w n _ _, balloc w _⟩
  case round =>
    obtain ⟨i, hi, rfl, hrd, hbel⟩ := hrel
    have HRD := Lib.hid hrd
    have HB := Lib.hid hbel
    have hwz := hbel.size
    by_cases hlt : i < n
    · obtain ⟨b1, o1, r1, k1, ha1, _, hb1, hr1, hrow1⟩ := (HM.out.below hbel ht).row (show i < A.length by omega)
      subst ha1
      obtain ⟨b2, o2, r2, k2, ha2, _, hb2, hr2, hrow2⟩ := (HM'.out.below hbel ht').row (show i < O.length by omega)
      subst ha2
      have hl1 := HC.out i (by omega)
      have hl2 := HD.out i (by omega)
      rw [hl1] at hr1
      rw [hl2] at hr2
      have HR1 := Lib.hid hrow1
      have HR2 := Lib.hid hrow2
      have HT1 : Hid (tp ≤ wr.heap.size) := Nat.le_trans ht hwz
      have HT2 : Hid (tp' ≤ wr.heap.size) := Nat.le_trans ht' hwz
      have g0 := hrd.rest i (Nat.le_refl _) hlt
      have f0 := hrd.free i
      have hlw := hrd.lt
      have hi1 : (i : Int) < (n : Int) := by omega
      have hi2 : (i : Int) < (no : Int) := by omega
      have HL1 := Lib.hid hl1
      have HL2 := Lib.hid hl2
      clear hrow1 hrow2 hbel hrd hl1 hl2
      go_wp2_with (go_at_call 110; (with_reducible refine (concat_two r1 r2 (rw' A i) (rw' O i) c d k1 k2 lo tp lo' tp' wr.heap.size _ wr _ rfl HL1.out HL2.out HR1.out HT1.out HR2.out HT2.out c0 c1 d0 d1).mono ?_); rintro e w2 ⟨r3, k3, rfl, ho3, hb3⟩; have HO3 := Lib.hid ho3; have HB3 := Lib.hid (below_step (balloc wr _) (balloc wr _).size hb3); have HZ3 := Lib.hid (balloc wr (.cells #[.slice r1 c k1, .slice r2 d k2] 22)).size; have g3 := (HB3.out.cell (p := ⟨w.heap.size, i, none⟩) hlw).trans g0; have f3 := (HB3.out.frozen (p := ⟨w.heap.size, i, none⟩) hlw).trans f0; clear ho3 hb3)
      go_roundw
      case rel =>
        have hl : (rw' (bes A O) i).length = c + d := by rw [HBR.out i hlt, List.length_append, HL1.out, HL2.out]
        refine ⟨i + 1, by omega, by go_num, ?_, (HB.out.trans (HB3.out.mono hwz)).setCell (Nat.le_refl w.heap.size) _⟩
        have h := HRD.out.next (c := k3) (r := r3) hlt HB3.out (by rw [HBR.out i hlt]; exact HO3.out.row.mono HZ3.out (Nat.le_refl _))
        rw [hl] at h
        exact h
      case measure => simp [intOf]; omega
    · have hin : i = n := by omega
      subst hin
      clear hbel hrd
      go_wp2
      go_ret
      exact ⟨_, i, rfl, HRD.out.mat (by rw [bes_len]; exact HN.out.symm), HB.out⟩

end Go.Proofs.YtkibkkdeaojjoabGreat
