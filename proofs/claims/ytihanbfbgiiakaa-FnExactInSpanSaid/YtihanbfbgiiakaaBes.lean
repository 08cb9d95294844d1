/-
  The program's rows with others beside them: the walk.
  Conditions: both are rows of rows of known cells, as many.
-/
import Derived.Test.YtihanbfbgiiakaaCat
import Derived.Test.YtihanbfbgiiakaaSolP
import Derived.Test.YtihanbfbgiiakaaKerS
namespace Go.Proofs.Ytihanbfbgiiakaa
open Go.RowKit Go.ChangeShapes Go.WideShapes
set_option linter.unusedVariables false

theorem matTwo {W : World} {lo tp lo' tp' cv cu b : Nat} {a a' : Option Addr} {v u : List Int} (hb' : b = W.heap.size) (hv : RowIn lo tp W a v) (tv : tp ≤ W.heap.size) (hu : RowIn lo' tp' W a' u) (tu : tp' ≤ W.heap.size) (T : TypeId) :
    MatIn 0 (W.alloc (.cells #[.slice a v.length cv, .slice a' u.length cu] T)).heap.size (W.alloc (.cells #[.slice a v.length cv, .slice a' u.length cu] T)) (some ⟨b, 0, none⟩) [v, u] := by
  subst hb'
  refine .inr ⟨W.heap.size, 0, rfl, Nat.zero_le _, by simp, fun i hi => ?_⟩
  have hb := balloc W (.cells #[.slice a v.length cv, .slice a' u.length cu] T)
  match i, hi with
  | 0, _ => exact ⟨a, cv, by simp [go_sem, rw'], (hv.below hb tv).mono (Nat.zero_le _) (Nat.le_trans tv hb.size)⟩
  | 1, _ => exact ⟨a', cu, by simp [go_sem, rw'], (hu.below hb tu).mono (Nat.zero_le _) (Nat.le_trans tu hb.size)⟩
theorem cat_two (v u : List Int) : catN [v, u] 2 = v ++ u := by simp [catN, rw']
theorem tot_two' (v u : List Int) : tot [v, u] 2 = v.length + u.length := by simp [tot, rw']
def NewRL (n : Nat) (z : List Int) (w : World) (e : Ending) (w' : World) : Prop := ∃ r k, e = .returned (.slice r n k) ∧ TagR w.heap.size w'.heap.size w' r z ∧ Below w.heap.size w w'
theorem concat_two (av au : Option Addr) (v u : List Int) (nv nu cv cu lov tpv lou tpu b cap : Nat) (W : World) (T : TypeId) (hb : b = W.heap.size) (hnv : v.length = nv) (hnu : u.length = nu)
    (hv : RowIn lov tpv W av v) (tv : tpv ≤ W.heap.size) (hu : RowIn lou tpu W au u) (tu : tpu ≤ W.heap.size) (v0 : 0 < nv) (v1 : nv ≤ 1024) (u0 : 0 < nu) (u1 : nu ≤ 1024) :
    Calls Try.prog 104 #[.slice (some ⟨b, 0, none⟩) 2 cap] (W.alloc (.cells #[.slice av nv cv, .slice au nu cu] T)) (NewRL (nv + nu) (v ++ u) (W.alloc (.cells #[.slice av nv cv, .slice au nu cu] T))) := by
  subst hnv hnu
  have h := concat_any (some ⟨b, 0, none⟩) [v, u] cap 0 _ _ (matTwo (cv := cv) (cu := cu) hb hv tv hu tu T) (Nat.le_refl _) (by show 0 < 2; omega) (by show 2 ≤ 64; omega) (fun i hi => by
    match i, hi with
    | 0, _ => exact ⟨v0, v1⟩
    | 1, _ => exact ⟨u0, u1⟩) (by show tot [v, u] 2 ≤ 100000; rw [tot_two']; omega)
  refine h.mono ?_
  rintro e w' ⟨r, k, rfl, ht, hb'⟩
  have e2 : catN [v, u] [v, u].length = v ++ u := cat_two v u
  rw [e2] at ht
  exact ⟨r, k, by rw [e2, List.length_append], ht, hb'⟩

/-- A list of lists that is being filled. -/
structure RdM (w : World) (b i n : Nat) (Z : Nat → List Int) : Prop where
  lt : b < w.heap.size
  done : ∀ j, j < i → ∃ r c, w.cell? ⟨b, j, none⟩ = some (.slice r (Z j).length c) ∧ RowIn (b + 1) w.heap.size w r (Z j)
  rest : ∀ j, i ≤ j → j < n → w.cell? ⟨b, j, none⟩ = some (.slice none 0 0)
  free : ∀ j, w.frozen? ⟨b, j, none⟩ = false
theorem RdM.start (w : World) (n : Nat) (t : TypeId) (Z : Nat → List Int) : RdM (w.alloc (.cells (madeCells #[.slice none 0 0] n) t)) w.heap.size 0 n Z where
  lt := by simp
  done j hj := by omega
  rest j _ hj := made_cell w _ n t hj
  free j := by simp [go_sem]
theorem RdM.next {w w1 : World} {b i n : Nat} {Z : Nat → List Int} {r : Option Addr} {c : Nat} (h : RdM w b i n Z) (hi : i < n) (hb : Below w.heap.size w w1) (hr : RowIn w.heap.size w1.heap.size w1 r (Z i)) :
    RdM (w1.setCell ⟨b, i, none⟩ (.slice r (Z i).length c)) b (i + 1) n Z := by
  have hlt := h.lt
  have hsz : (w1.setCell ⟨b, i, none⟩ (.slice r (Z i).length c)).heap.size = w1.heap.size := by simp [World.setCell]
  have hz := hb.size
  have keep : ∀ lo z r', b < lo → RowIn lo w1.heap.size w1 r' z → RowIn lo w1.heap.size (w1.setCell ⟨b, i, none⟩ (.slice r (Z i).length c)) r' z := fun lo z r' hlo hr' => by
    rcases hr' with h0 | ⟨b', o', e, g0, g1, g2⟩
    · exact .inl h0
    · exact .inr ⟨b', o', e, g0, g1, fun j hj => (World.cell?_setCell_other _ _ _ _ (fun e2 => by injection e2 with e3; omega)).trans (g2 j hj)⟩
  refine ⟨by rw [hsz]; omega, fun j hj => ?_, fun j h1 h2 => ?_, fun j => ?_⟩
  · rw [hsz]
    by_cases e : j = i
    · subst e
      exact ⟨r, c, World.cell?_setCell_same w1 _ _ ((hb.cell (p := ⟨b, j, none⟩) hlt).trans (h.rest j (Nat.le_refl _) hi)), keep (b + 1) (Z j) r (Nat.lt_succ_self b) (hr.mono hlt (Nat.le_refl _))⟩
    · obtain ⟨r', c', g1, g2⟩ := h.done j (by omega)
      exact ⟨r', c', (World.cell?_setCell_other _ _ _ _ (fun e2 => e (by injection e2 with _ e3; exact e3.symm))).trans ((hb.cell (p := ⟨b, j, none⟩) hlt).trans g1), keep (b + 1) (Z j) r' (Nat.lt_succ_self b) ((g2.below hb (Nat.le_refl _)).mono (Nat.le_refl _) hz)⟩
  · exact (World.cell?_setCell_other _ _ _ _ (fun e2 => by injection e2 with _ e3; omega)).trans ((hb.cell (p := ⟨b, j, none⟩) hlt).trans (h.rest j (by omega) h2))
  · have := (hb.frozen (p := ⟨b, j, none⟩) hlt).trans (h.free j)
    simpa [go_sem] using this
theorem RdM.mat {w : World} {b n : Nat} {m : List (List Int)} (h : RdM w b n n (rw' m)) (hn : m.length = n) : MatIn b w.heap.size w (some ⟨b, 0, none⟩) m :=
  .inr ⟨b, 0, rfl, Nat.le_refl _, h.lt, fun i hi => by
    obtain ⟨r, c, g1, g2⟩ := h.done i (by omega)
    exact ⟨r, c, by rw [Nat.zero_add]; exact g1, g2.mono (Nat.le_succ b) (Nat.le_refl _)⟩⟩

def NewMN (n : Nat) (m : List (List Int)) (w : World) (e : Ending) (w' : World) : Prop := ∃ r k, e = .returned (.slice r n k) ∧ MatIn w.heap.size w'.heap.size w' r m ∧ Below w.heap.size w w'
set_option maxRecDepth 100000 in
set_option maxHeartbeats 3200000 in
theorem besideEach_any (a a' : Option Addr) (A O : List (List Int)) (ca ca' lo tp lo' tp' c d no : Nat) (w : World) (hm : MatIn lo tp w a A) (ht : tp ≤ w.heap.size) (hm' : MatIn lo' tp' w a' O) (ht' : tp' ≤ w.heap.size) (hno : no = O.length) (hn : A.length ≤ O.length) (h1 : O.length ≤ 1024)
    (hc : ∀ i, i < A.length → (rw' A i).length = c) (hd : ∀ i, i < A.length → (rw' O i).length = d) (c0 : 0 < c) (c1 : c ≤ 1024) (d0 : 0 < d) (d1 : d ≤ 1024) :
    Calls Try.prog 64 #[.slice a A.length ca, .slice a' no ca'] w (NewMN A.length (bes A O) w) := by
  have HM := Lib.hid hm
  have HM' := Lib.hid hm'
  have HC := Lib.hid hc
  have HD := Lib.hid hd
  have HNO := Lib.hid hno
  have hno1 : O.length ≤ no ∧ no ≤ O.length := by omega
  have hmk := fun W => run_make_row' (P := Try.prog) 22 31 (.slice none 0 0) 24 Try.underlying22 info_slice rfl .i64 .i64 A.length (by omega) (by omega) W
  obtain ⟨n, hnn⟩ : ∃ n, n = A.length := ⟨_, rfl⟩
  have HN := Lib.hid hnn
  have HBR : Hid (∀ i, i < n → rw' (bes A O) i = rw' A i ++ rw' O i) := fun i h => bes_row (by omega)
  rw [← hnn] at hmk hn
  rw [← hnn]
  have hnA : n ≤ A.length ∧ A.length ≤ n := by omega
  clear hm hm' hc hd hno hnn
  go_enter Try.func64, Try.ntmps64
  go_wp2
  go_loopw [13] (fun t wr => ∃ i : Nat, i ≤ n ∧ t = .int .i64 i ∧ RdM wr w.heap.size i n (rw' (bes A O)) ∧ Below w.heap.size w wr) (fun t _ => n - (intOf t).toNat)
  case atStart => exact ⟨0, Nat.zero_le _, rfl, RdM.start w n _ _, balloc w _⟩
  case round =>
    obtain ⟨i, hi, rfl, hrd, hbel⟩ := hrel
    have HRD := Lib.hid hrd
    have HB := Lib.hid hbel
    have hwz := hbel.size
    by_cases hlt : i < n
    · obtain ⟨b1, o1, r1, k1, ha1, _, hb1, hr1, hrow1⟩ := (HM.out.below hbel ht).row (show i < A.length by omega)
      subst ha1
      obtain ⟨b2, o2, r2, k2, ha2, _, hb2, hr2, hrow2⟩ := (HM'.out.below hbel ht').row (show i < O.length by omega)
      subst ha2
      have hl1 := HC.out i (by omega)
      have hl2 := HD.out i (by omega)
      rw [hl1] at hr1
      rw [hl2] at hr2
      have HR1 := Lib.hid hrow1
      have HR2 := Lib.hid hrow2
      have HT1 : Hid (tp ≤ wr.heap.size) := Nat.le_trans ht hwz
      have HT2 : Hid (tp' ≤ wr.heap.size) := Nat.le_trans ht' hwz
      have g0 := hrd.rest i (Nat.le_refl _) hlt
      have f0 := hrd.free i
      have hlw := hrd.lt
      have hi1 : (i : Int) < (n : Int) := by omega
      have hi2 : (i : Int) < (no : Int) := by omega
      have HL1 := Lib.hid hl1
      have HL2 := Lib.hid hl2
      clear hrow1 hrow2 hbel hrd hl1 hl2
      go_wp2_with (go_at_call 104; (with_reducible refine (concat_two r1 r2 (rw' A i) (rw' O i) c d k1 k2 lo tp lo' tp' wr.heap.size _ wr _ rfl HL1.out HL2.out HR1.out HT1.out HR2.out HT2.out c0 c1 d0 d1).mono ?_); rintro e w2 ⟨r3, k3, rfl, ho3, hb3⟩; have HO3 := Lib.hid ho3; have HB3 := Lib.hid (below_step (balloc wr _) (balloc wr _).size hb3); have HZ3 := Lib.hid (balloc wr (.cells #[.slice r1 c k1, .slice r2 d k2] 31)).size; have g3 := (HB3.out.cell (p := ⟨w.heap.size, i, none⟩) hlw).trans g0; have f3 := (HB3.out.frozen (p := ⟨w.heap.size, i, none⟩) hlw).trans f0; clear ho3 hb3)
      go_roundw
      case rel =>
        have hl : (rw' (bes A O) i).length = c + d := by rw [HBR.out i hlt, List.length_append, HL1.out, HL2.out]
        refine ⟨i + 1, by omega, by go_num, ?_, (HB.out.trans (HB3.out.mono hwz)).setCell (Nat.le_refl w.heap.size) _⟩
        have h := HRD.out.next (c := k3) (r := r3) hlt HB3.out (by rw [HBR.out i hlt]; exact HO3.out.row.mono HZ3.out (Nat.le_refl _))
        rw [hl] at h
        exact h
      case measure => simp [intOf]; omega
    · have hin : i = n := by omega
      subst hin
      clear hbel hrd
      go_wp2
      go_ret
      exact ⟨_, i, rfl, HRD.out.mat (by rw [bes_len]; exact HN.out.symm), HB.out⟩

end Go.Proofs.Ytihanbfbgiiakaa
