/-
  BracketOf: contracts of the program and of the model.
  Conditions: the lists are nil or rows of known cells, of at most 1048576 numbers.
  Basis vectors, IsCentral: contracts of the program and of the model.
  Conditions: the lists are nil or rows of known cells, of at most 1048576 numbers.
-/
import Derived.Test.YtckpcfhmppdghaaQu14
import Derived.Deep.RegionHeld3
import Derived.Deep.DeepCutAuto
import Derived.Test.YtckpcfhmppdghaaQu30
import Derived.Test.YtckpcfhmppdghaaQu29
import Derived.Test.YtckpcfhmppdghaaQu9
import Derived.Test.YtckpcfhmppdghaaQu4
import Derived.Test.YtckpcfhmppdghaaQu27
namespace Go.Proofs.Ytckpcfhmppdghaa
open Go.RowKit
set_option linter.unusedVariables false

theorem kwrap_pow9 {i : Nat} (h : i < 6) : IntKind.i64.wrap ((2 : Int) ^ i) = ((2 ^ i : Nat) : Int) := by
  have : i = 0 ∨ i = 1 ∨ i = 2 ∨ i = 3 ∨ i = 4 ∨ i = 5 := by omega
  rcases this with rfl | rfl | rfl | rfl | rfl | rfl <;> rfl
/-- The basis vectors as multivectors. -/
def bvM (S : List Int) : List (List Int) := mk S.length (bl S) fun i c => if c = 2 ^ i then 1 else 0
theorem bv_row {S : List Int} {i : Nat} (h : i < S.length) : rw' (bvM S) i = bladeM S (2 ^ i) := mk_row _ h
theorem bv_len (S : List Int) : (bvM S).length = S.length := mk_len _ _ _
set_option maxHeartbeats 800000 in
theorem blade_tag (p : Int) (a : Option Addr) (S : List Int) (c k : Nat) (w : World) (h : S.length ≤ 6) (hk : k < bl S) :
    Calls Try.prog 69 #[.agg #[.int .i64 p, .slice a S.length c], .int .i64 k] w (fun e w' => ∃ b, e = .returned (.slice (some ⟨b, 0, none⟩) (bl S) (bl S)) ∧ TagR w.heap.size w'.heap.size w' (some ⟨b, 0, none⟩) (bladeM S k) ∧ Below w.heap.size w w') := by
  have hbl := bl_le h
  have hmk := fun W => run_make_row' (P := Try.prog) 22 2 (.int .i64 0) 8 Try.underlying22 info64 rfl .i64 .i64 (bl S) (by omega) (by omega) W
  go_enter Try.func69, Try.ntmps69
  go_wp2_with (go_at_call 41; ((with_reducible refine (blades_any p a S c _ h).mono ?_); rintro e w1 ⟨rfl, hb1⟩; have HB1 := Lib.hid hb1; have hz1 := hb1.size; have g0 := made_cell w1 (.int .i64 0) (bl S) 2 hk; have f0 : (w1.alloc (.cells (madeCells #[.int .i64 0] (bl S)) 2)).frozen? ⟨w1.heap.size, k, none⟩ = false := (by simp [go_sem]); clear hb1))
  go_ret
  have hb := below_step (below_alloc w _) (by simp) HB1.out
  have hr := one_rowA w1 (n := bl S) (k := k) 2 1
  exact ⟨w1.heap.size, rfl, .inr ⟨w1.heap.size, 0, _, rfl, hb.size, by simp, heap_alloc_new w1 _, fun j hj => by
    unfold bladeM at hj ⊢
    rw [mkR_len] at hj
    rw [mkR_at _ hj]
    exact hr.cell j hj⟩, hb.alloc (hb.size) _⟩
set_option maxRecDepth 100000 in
set_option maxHeartbeats 3200000 in
theorem basisVectors_any (pS : Int) (aS : Option Addr) (S : List Int) (cS : Nat) (w : World) (h6 : S.length ≤ 6) :
    Calls Try.prog 82 #[.agg #[.int .i64 pS, .slice aS S.length cS]] w (NewM (bvM S) w) := by
  obtain ⟨j0, kj, kz0, kz1, kz2⟩ := info_parts info_slice
  have hbl := bl_le h6
  have k0 := nw0 w (.int .i64 pS) (.slice aS S.length cS) 29
  have k1 := nw1 w (.int .i64 pS) (.slice aS S.length cS) 29
  have HB0 := Lib.hid (below_alloc w (.cells #[.int .i64 pS, .slice aS S.length cS] 29))
  go_enter Try.func82, Try.ntmps82
  go_upto_region 1 with fail
  obtain ⟨wB, hw1⟩ : ∃ z, z = w.alloc (.cells #[.int .i64 pS, .slice aS S.length cS] 29) := ⟨_, rfl⟩
  rw [← hw1] at HB0 k0 k1 ⊢
  have hw0 : w.heap.size < wB.heap.size := by rw [hw1]; simp
  clear hw1
  have K0 := Lib.hid k0
  have K1 := Lib.hid k1
  go_wp2
  go_loopw [3, 8] (fun v t wr => ∃ i : Nat, i ≤ S.length ∧ t = .int .i64 i ∧ OutM wB.heap.size wr v (mk i (bl S) fun j c => if c = 2 ^ j then 1 else 0) ∧ Below wB.heap.size wB wr) (fun _ t _ => S.length - (intOf t).toNat)
  case atStart => exact ⟨0, Nat.zero_le _, rfl, ⟨[], ⟨rfl, .inl ⟨rfl, rfl⟩⟩, fun i hi => absurd hi (Nat.not_lt_zero i)⟩, Below.refl _ _⟩
  case round =>
    obtain ⟨i, hi, rfl, ho, hbel⟩ := hrel
    obtain ⟨V5, hV5⟩ : ∃ z, z = u3 := ⟨_, rfl⟩
    rw [← hV5] at ho ⊢
    clear hV5
    have HO := Lib.hid ho
    have HB := Lib.hid hbel
    have hwz := hbel.size
    have hk0 := (hbel.cell (p := ⟨w.heap.size, 0, none⟩) hw0).trans K0.out
    have hk1 := (hbel.cell (p := ⟨w.heap.size, 1, none⟩) hw0).trans K1.out
    have hlw : w.heap.size < wr.heap.size := by omega
    clear ho hbel k0 k1
    by_cases hlt : i < S.length
    · have hi1 : (i : Int) < (S.length : Int) := Int.ofNat_lt.2 hlt
      obtain ⟨vals, hvo, hvr⟩ := HO.out
      rw [mk_len] at hvo hvr
      have HVO := Lib.hid hvo
      have HVR := Lib.hid hvr
      obtain ⟨q, hq⟩ : ∃ q, q = 2 ^ i := ⟨_, rfl⟩
      have HQ := Lib.hid hq
      have hqn : q < bl S := by rw [hq]; unfold bl; exact pow_lt hlt
      have e1 : wrap64 ((2 : Int) ^ i) = (q : Int) := by rw [hq]; exact wrap_pow (by omega)
      have e2 : IntKind.i64.wrap ((2 : Int) ^ i) = (q : Int) := by rw [hq]; exact kwrap_pow9 (by omega)
      have hs1 : Hid (wr.drew.cell? ⟨w.heap.size, 0, none⟩ = some (.int .i64 pS) ∧ wr.drew.cell? ⟨w.heap.size, 1, none⟩ = some (.slice aS S.length cS)) := ⟨hk0, hk1⟩
      have HQD : Hid (Below wr.heap.size wr wr.drew) := below_drew wr
      have hdr : w.heap.size < wr.drew.heap.size := hlw
      clear hvo hvr hk0 hk1 hq
      go_wp2
      go_region_held3 (fun w' => w'.cell? ⟨w.heap.size, 0, none⟩ = some (.int .i64 pS) ∧ w'.cell? ⟨w.heap.size, 1, none⟩ = some (.slice aS S.length cS)) (first | exact hs1.out | exact SSb.out | exact SS4.out | go_keep) (first | (go_at_call 69; ((with_reducible refine (blade_tag pS aS S cS q wr.drew h6 hqn).mono ?_); rintro e wb ⟨bb, rfl, t_, b_⟩; have SSb := Lib.hid (ss2 b_ hdr hs1.out); have HQb := Lib.hid (HQD.out.trans b_); have hzb := HQb.out.size; have Tb : Hid (TagR wr.heap.size wb.heap.size wb (some ⟨bb, 0, none⟩) (bladeM S q)) := t_; have HVW := Lib.hid (HVO.out.kept (below_grown HQb.out) (by cases hv : Value.ownBlock V5 <;> simp)); clear b_ t_)) | ((refine step_append_lies _ (by rfl) _ _ _ (by rfl) wB.heap.size 22 j0 _ 1 24 Try.underlying26 kj kz0 kz1 kz2 rfl (by omega) V5 i vals (by rfl) (HVW.out.alloc _) ⟨wb.heap.size, 0, none⟩ 1 1 [.slice (some ⟨bb, 0, none⟩) (bl S) (bl S)] (by rfl) (by rfl) (World.news_of_block (cs := #[.slice (some ⟨bb, 0, none⟩) (bl S) (bl S)]) (t := 22) (fr := (0, 0)) (heap_alloc_new wb _)) (by simp [Value.oneCell']) (by omega) (by unfold maxLen; omega) (by omega) (by simp; omega) (wb.heap.size + 1) (by simp) ?_; intro g4 cap4 w4 hown4 hgrow4 hat4 hlt4; have HO4 := Lib.hid hown4; have HG4 := Lib.hid hgrow4; have HB4 : Hid (Below wB.heap.size wB w4) := ((HB.out.trans (HQb.out.mono hwz)).alloc (Nat.le_trans hwz hzb) _).grown hgrow4 (by simp; omega) (fun _ hk => (HVO.out.lt _ hk).1); have SS4 := Lib.hid (ss2 (HB4.out) hw0 ⟨K0.out, K1.out⟩); clear hown4 hgrow4)))
      have HVRW : Hid (∀ i', i' < i → ∃ r c', vals[i']? = some (.slice r (rw' (mk i (bl S) fun j c => if c = 2 ^ j then (1 : Int) else 0) i').length c') ∧ TagR wB.heap.size wb.heap.size wb r (rw' (mk i (bl S) fun j c => if c = 2 ^ j then (1 : Int) else 0) i')) := fun i' h' => by
        obtain ⟨r', c', g1, g2⟩ := HVR.out i' h'
        exact ⟨r', c', g1, g2.below HQb.out (Nat.le_refl _) (Nat.le_refl _) HQb.out.size⟩
      go_wp2
      go_roundw
      case rel => exact ⟨i + 1, by omega, by go_num, OutM.next HVW.out HVRW.out Tb.out (by rw [HQ.out]; rfl) hwz HO4.out HG4.out, HB4.out⟩
      case measure => simp [intOf]; omega
    · have hin : i = S.length := by omega
      subst hin
      obtain ⟨r, c, hv, hmat⟩ := HO.out.mat
      subst hv
      have HMT := Lib.hid hmat
      clear hmat
      go_wp2
      go_ret
      exact ⟨r, c, rfl, HMT.out.mono (by omega) (Nat.le_refl _), HB0.out.trans (HB.out.mono (by omega))⟩

end Go.Proofs.Ytckpcfhmppdghaa
