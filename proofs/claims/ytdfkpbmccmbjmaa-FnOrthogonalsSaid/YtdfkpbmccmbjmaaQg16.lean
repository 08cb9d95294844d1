/-
  The model's vectors orthogonal to others: the walk.
  Conditions: the lists are nil or rows of known cells.
  The program's equations: the walk.
  Conditions: the lists are nil or rows of known cells.
  The program's new matrices of zeros, to be appended to.
  Conditions: at least one column, at most 1024 rows and columns.
-/
import Derived.Test.YtdfkpbmccmbjmaaQg14
import Derived.Test.YtdfkpbmccmbjmaaQg15
import Derived.Test.YtdfkpbmccmbjmaaQg4
import Derived.Test.YtdfkpbmccmbjmaaQg12
import Derived.Test.YtdfkpbmccmbjmaaQg3
namespace Go.Proofs.Ytdfkpbmccmbjmaa
open Go.RowKit Go.ChangeShapes Go.WideShapes
set_option linter.unusedVariables false

noncomputable def ortB (p : Int) (S : List Int) (m : List (List Int)) : List (List Int) := if m.length = 0 then oneM S.length else kerB p (ortM p S m)

theorem OutM.startA (w : World) (B a : Nat) (t : TypeId) (ha : w.heap.size = a) (hB : B ≤ w.heap.size) (ht : t = 24) : OutM B (w.alloc (.cells #[] t)) (.slice (some ⟨a, 0, none⟩) 0 0) [] := by
  subst ha; exact OutM.start w B t hB ht
set_option maxRecDepth 100000 in
set_option maxHeartbeats 6400000 in
theorem l03Orthogonal_any (p : Int) (aS : Option Addr) (S : List Int) (cS loS tpS : Nat) (am : Option Addr) (m : List (List Int)) (cm lom tpm : Nat) (w : World)
    (hS : RowIn loS tpS w aS S) (tS : tpS ≤ w.heap.size) (hm : MatIn lom tpm w am m) (tm : tpm ≤ w.heap.size) (hs : isSp p S = true) (hl : listB p S m = true) :
    Calls Try.prog 22 #[.agg #[.int .i64 p, .slice aS S.length cS], .slice am m.length cm] w (NewM (ortB p S m) w) := by
  obtain ⟨i0, hi, hz0, hz1, hz2⟩ := info_parts info64
  obtain ⟨j0, kj, kz0, kz1, kz2⟩ := info_parts info_slice
  have K := isSp_iff.1 hs
  have hpb := prm_bd K.prime
  have HP := Lib.hid K.prime
  have hS6 := K.hi
  have hS1 := K.lo
  have HS := Lib.hid hS
  have Hm := Lib.hid hm
  have HK := Lib.hid K
  have hm16 := (listB_iff hl).1
  have HVE := Lib.hid (listB_iff hl).2
  have HOL : Hid (0 < m.length → Lst 1 p (ortM p S m)) := fun h => ort_lst K.prime hS1 hS6 h hm16
  obtain ⟨n, hn⟩ : ∃ n, n = S.length := ⟨_, rfl⟩
  rw [← hn] at hS6 hS1
  have HN := Lib.hid hn
  have hn1 : S.length ≤ n ∧ n ≤ S.length := by omega
  rw [← hn]
  have HB1 := Lib.hid (balloc w (.cells #[.int .i64 p, .slice aS n cS] 26))
  have k0n := nw0 w (.int .i64 p) (.slice aS n cS) 26
  have k1n := nw1 w (.int .i64 p) (.slice aS n cS) 26
  have l0 : w.heap.size < (w.alloc (.cells #[.int .i64 p, .slice aS n cS] 26)).heap.size := by simp
  have HZ1 : Hid ((w.alloc (.cells #[.int .i64 p, .slice aS n cS] 26)).heap.size = w.heap.size + 1) := by show _ = _; simp
  clear hS hm hs hl K hn
  by_cases h0 : m.length = 0
  · have HO : Hid (ortB p S m = oneM n) := by show _ = _; unfold ortB; rw [if_pos h0, HN.out]
    have HOE : Hid ((oneM n).length = n) := mk_len _ _ _
    have e0 : ((m.length : Int) == 0) = true := beq_iff_eq.2 (by omega)
    clear h0
    rw [HO.out]
    go_enter Try.func22, Try.ntmps22
    go_wp2_with (go_at_call 41; (with_reducible refine (l02Unit_any n _ (by omega)).mono ?_); rintro e w2 ⟨r2, k2, rfl, ho2, hb2⟩; have HO2 := Lib.hid ho2; have HB2 := Lib.hid (HB1.out.trans (hb2.mono HB1.out.size)); clear ho2 hb2)
    go_ret
    exact ⟨r2, k2, rfl, HO2.out.mono HB1.out.size (Nat.le_refl _), HB2.out⟩
  · have HO : Hid (ortB p S m = kerB p (ortM p S m)) := by show _ = _; unfold ortB; rw [if_neg h0]
    have hm0 : 0 < m.length := by omega
    have e0 : ((m.length : Int) == 0) = false := beq_eq_false_iff_ne.2 (by omega)
    have HEM : Hid (mk m.length n (ortF p S m) = ortM p S m) := by show _ = _; rw [HN.out]; rfl
    have HLO := Lib.hid (HOL.out hm0)
    clear h0
    rw [HO.out]
    go_enter Try.func22, Try.ntmps22
    go_wp2
    obtain ⟨w1, hw1⟩ : ∃ z, z = w.alloc (.cells #[.int .i64 p, .slice aS n cS] 26) := ⟨_, rfl⟩
    rw [← hw1] at HB1 k0n k1n l0 HZ1
    rw [← hw1]
    have K0 := Lib.hid k0n
    have K1 := Lib.hid k1n
    have hzw := HB1.out.size
    clear hw1 k0n k1n
    go_loopw [5, 6] (fun v t wr => ∃ i : Nat, i ≤ m.length ∧ t = .int .i64 i ∧ OutM w1.heap.size wr v (mk i n (ortF p S m)) ∧ Below w1.heap.size w1 wr) (fun _ t _ => m.length - (intOf t).toNat)
    case atStart => exact ⟨0, Nat.zero_le _, rfl, OutM.startA w1 _ _ _ HZ1.out (Nat.le_refl _) rfl, balloc w1 _⟩
    case round =>
      obtain ⟨i, hi', rfl, ho, hbel⟩ := hrel
      have HOO := Lib.hid ho
      have HBEL := Lib.hid hbel
      have hwz := hbel.size
      have k0w := (hbel.cell (p := ⟨w.heap.size, 0, none⟩) l0).trans K0.out
      rename World => wo
      clear ho hbel
      by_cases hlt : i < m.length
      · have hk1 : (i : Int) < (m.length : Int) := by omega
        have hvec := isVec_iff.1 (HVE.out i hlt)
        have HVEC := Lib.hid hvec
        clear k0w hvec
        go_wp2
        go_loopw [7, 8] (fun v t wr => ∃ j : Nat, j ≤ n ∧ t = .int .i64 j ∧ OutR wo.heap.size wr v (mkR j (ortF p S m i)) ∧ Below wo.heap.size wo wr) (fun _ t _ => n - (intOf t).toNat)
        case atStart => exact ⟨0, Nat.zero_le _, rfl, OutR.start wo _ _ (Nat.le_refl _) rfl, balloc wo _⟩
        case round =>
          obtain ⟨j, hj', rfl, hoj, hbj⟩ := hrel
          have HOJ := Lib.hid hoj
          have HBJ := Lib.hid hbj
          have hwj := hbj.size
          have HBK : Hid (Below w1.heap.size w1 wr) := HBEL.out.trans (hbj.mono hwz)
          have HBX : Hid (Below w.heap.size w wr) := HB1.out.trans (HBK.out.mono hzw)
          have k0 := (HBK.out.cell (p := ⟨w.heap.size, 0, none⟩) l0).trans K0.out
          have k1 := (HBK.out.cell (p := ⟨w.heap.size, 1, none⟩) l0).trans K1.out
          clear hoj
          by_cases hltj : j < n
          · have hj1 : (j : Int) < (n : Int) := by omega
            obtain ⟨b1, o1, r1, c1, ha1, _, hb1, hr1, hrow1⟩ := (Hm.out.below HBX.out tm).row hlt
            cases ha1
            have hvl := HVEC.out.len
            rw [HVEC.out.len, ← HN.out] at hr1
            obtain ⟨b2, o2, ha2, _, hb2, hc2⟩ := hrow1.num (j := j) (by rw [hvl]; omega)
            subst ha2
            obtain ⟨b3, o3, ha3, _, hb3, hc3⟩ := (HS.out.below HBX.out tS).num (by omega : j < S.length)
            cases ha3
            obtain ⟨x0, x1⟩ := HVEC.out.num (by omega : j < S.length)
            obtain ⟨y0, y1⟩ := HK.out.num (by omega : j < S.length)
            have HSU : Hid (mkR (j + 1) (ortF p S m i) = mkR j (ortF p S m i) ++ [(rw' m i).getD j 0 * S.getD j 0 % p]) := mkR_succ _ _
            obtain ⟨x, hx⟩ : ∃ x, x = (rw' m i).getD j 0 := ⟨_, rfl⟩
            obtain ⟨y, hy⟩ : ∃ y, y = S.getD j 0 := ⟨_, rfl⟩
            rw [← hx] at hc2 x0 x1 HSU
            rw [← hy] at hc3 y0 y1 HSU
            obtain ⟨m0, m1, _, _⟩ := prod3 hpb.2 x0 x1 y0 y1 y0 y1
            have e1 : IntKind.i64.wrap (x * y) = x * y := IntWalk.i64_in _ (by omega)
            have e2 : (x * y).tmod p = x * y % p := Int.tmod_eq_emod_of_nonneg m0
            have hp0 : ¬ p = 0 := by omega
            have hp1 : (p == 0) = false := by simpa using hp0
            obtain ⟨X, hX⟩ : ∃ X, X = (mkR j (ortF p S m i)).map (Value.int .i64) := ⟨_, rfl⟩
            have HX := Lib.hid hX
            have HO2 : Hid (wr.ownsRow wo.heap.size 2 1 u7 j X) := by
              have := HOJ.out; unfold OutR at this; rw [mkR_len, ← hX] at this; exact this
            have hsz := HBX.out.size
            have n0 : u7.ownBlock ≠ some w.heap.size := fun e => by have := (HO2.out.lt _ e).1; omega
            have nb : ∀ b, b < w.heap.size → u7.ownBlock ≠ some b := fun b hb e => by have := (HO2.out.lt _ e).1; omega
            have n1 := nb _ (Nat.lt_of_lt_of_le hb1 tm)
            have n2 := nb _ (Nat.lt_of_lt_of_le hb2 tm)
            have n3 := nb _ (Nat.lt_of_lt_of_le hb3 tS)
            have q0 : w.heap.size < wr.heap.size := by omega
            have q1 := Nat.lt_of_lt_of_le (Nat.lt_of_lt_of_le hb1 tm) hsz
            have q2 := Nat.lt_of_lt_of_le (Nat.lt_of_lt_of_le hb2 tm) hsz
            have q3 := Nat.lt_of_lt_of_le (Nat.lt_of_lt_of_le hb3 tS) hsz
            clear hX hx hy hrow1 hbj nb hvl
            go_wp2
            go_region_held3 (fun w' => w'.cell? ⟨w.heap.size, 0, none⟩ = some (.int .i64 p) ∧ w'.cell? ⟨w.heap.size, 1, none⟩ = some (.slice (some ⟨b3, o3, none⟩) n cS) ∧ w'.cell? ⟨b1, o1 + i, none⟩ = some (.slice (some ⟨b2, o2, none⟩) n c1) ∧ w'.cell? ⟨b2, o2 + j, none⟩ = some (.int .i64 x) ∧ w'.cell? ⟨b3, o3 + j, none⟩ = some (.int .i64 y)) (first | go_keep | (go_split_ands; refine ⟨?_, ?_, ?_, ?_, ?_⟩; (rw [hgrow.cell_far _ (by simp; omega) (Ne.symm n0)]; assumption); (rw [hgrow.cell_far _ (by simp; omega) (Ne.symm n0)]; assumption); (rw [hgrow.cell_far _ (by simp; omega) (Ne.symm n1)]; assumption); (rw [hgrow.cell_far _ (by simp; omega) (Ne.symm n2)]; assumption); (rw [hgrow.cell_far _ (by simp; omega) (Ne.symm n3)]; assumption))) ((refine step_append_lies _ (by rfl) _ _ _ (by rfl) wo.heap.size 2 i0 _ 1 8 Try.underlying24 hi hz0 hz1 hz2 rfl (by omega) u7 j X (by rfl) ((HO2.out.alloc _).drew) ⟨wr.heap.size, 0, none⟩ 1 1 [.int .i64 (x * y % p)] (by rfl) (by rfl) (World.news_of_block (cs := #[.int .i64 (x * y % p)]) (t := 2) (fr := (0, 0)) (heap_alloc_new wr _)) (by simp [Value.oneCell']) (by omega) (by unfold maxLen; omega) (by omega) (by simp; omega) (wr.heap.size + 1) (by simp) ?_; intro gg cap w4 hown1 hgrow hat hlt1))
            clear e1 e2
            go_wp2
            go_roundw
            case rel => exact ⟨j + 1, by omega, by go_num, OutR.step HO2.out HX.out HSU.out hown1, ((HBJ.out.alloc hwj _).drew).grown hgrow (by simp; omega) (fun _ hk => (HO2.out.lt _ hk).1)⟩
            case measure => simp [intOf]; omega
          · have hjn : j = n := by omega
            subst hjn
            obtain ⟨a8, c8, e8, ht8⟩ := HOJ.out.tag
            rw [mkR_len] at e8
            subst e8
            have HT8 := Lib.hid ht8
            obtain ⟨vals, hvo, hvr⟩ := HOO.out
            rw [mk_len] at hvo hvr
            have HV1 := Lib.hid hvo
            have HVR := Lib.hid hvr
            have HVW := Lib.hid (hvo.kept (below_grown HBJ.out) (by cases hv : Value.ownBlock u5 <;> simp))
            have HVRW : Hid (∀ i', i' < i → ∃ r c', vals[i']? = some (.slice r (rw' (mk i j (ortF p S m)) i').length c') ∧ TagR w1.heap.size wr.heap.size wr r (rw' (mk i j (ortF p S m)) i')) := fun i' h' => by
              obtain ⟨r', c', g1, g2⟩ := HVR.out i' h'
              exact ⟨r', c', g1, g2.below HBJ.out (Nat.le_refl _) (Nat.le_refl _) hwj⟩
            clear ht8 hvo hvr hbj
            go_wp2_with (at_builtin; refine wpList_append_lies _ rfl _ _ 27 rfl w1.heap.size 24 j0 (.slice none 0 0) 1 24 Try.underlying27 kj kz0 kz1 kz2 rfl (by decide) u5 i vals rfl (HVW.out.alloc _) ⟨wr.heap.size, 0, none⟩ 1 1 [.slice a8 j c8] rfl rfl (World.news_of_block (cs := #[.slice a8 j c8]) (t := 24) (fr := (0, 0)) (heap_alloc_new wr _)) (by simp [Value.oneCell']) (by omega) (by unfold maxLen; omega) (by omega) (by simp; omega) (wr.heap.size + 1) (by simp) ?_; intro gg cap w1 hown1 hgrow hat hlt1)
            go_wp2
            go_roundw
            case rel => exact ⟨i + 1, by omega, by go_num, OutM.next HVW.out HVRW.out HT8.out rfl hwz hown1 hgrow, ((HBEL.out.trans (HBJ.out.mono hwz)).alloc (by omega) _).grown hgrow (by simp; omega) (fun _ hk => (HV1.out.lt _ hk).1)⟩
            case measure => simp [intOf]; omega
      · have hin : i = m.length := by omega
        subst hin
        have ho2 := HOO.out
        rw [HEM.out] at ho2
        obtain ⟨r, c, hv, hmat⟩ := ho2.mat
        subst hv
        have HMT := Lib.hid hmat
        clear hmat ho2
        go_wp2_with (go_at_call 42; (with_reducible refine (l02Kernel_any p r (ortM p S m) c _ _ wo HMT.out (Nat.le_refl _) HLO.out).mono ?_); rintro e w3 ⟨r3, k3, rfl, ho3, hb3⟩; have HO3 := Lib.hid ho3; have HB3 := Lib.hid hb3; clear ho3 hb3)
        go_ret
        exact ⟨r3, k3, rfl, HO3.out.mono (Nat.le_trans hzw hwz) (Nat.le_refl _), (HB1.out.trans (HBEL.out.mono hzw)).trans (HB3.out.mono (Nat.le_trans hzw hwz))⟩

end Go.Proofs.Ytdfkpbmccmbjmaa

namespace Go.Proofs.Ytdfkpbmccmbjmaa
open Go.RowKit Go.ChangeShapes Go.WideShapes
set_option linter.unusedVariables false

theorem made_tagE (w : World) (n : Nat) (t : TypeId) (ht : t = 2) : TagR w.heap.size (w.alloc (.cells (madeCells #[.int .i64 0] n) t)).heap.size (w.alloc (.cells (madeCells #[.int .i64 0] n) t)) (some ⟨w.heap.size, 0, none⟩) (mkR n fun _ => 0) := by
  subst ht
  refine .inr ⟨w.heap.size, 0, madeCells #[.int .i64 0] n, rfl, Nat.le_refl _, by simp, heap_alloc_new w _, fun j hj => ?_⟩
  rw [mkR_len] at hj
  rw [Nat.zero_add, made_cell w _ n _ hj, mkR_at _ hj]

def eqnL (p : Int) (S v : List Int) : List Int := mkR S.length fun k => v.getD k 0 * S.getD k 0 % p
def NewE (n : Nat) (z : List Int) (w : World) (e : Ending) (w' : World) : Prop := ∃ g, e = .returned (.slice (some ⟨g, 0, none⟩) n n) ∧ TagR w.heap.size w'.heap.size w' (some ⟨g, 0, none⟩) z ∧ Below w.heap.size w w'
set_option maxRecDepth 100000 in
set_option maxHeartbeats 6400000 in
theorem equationOf_any (p : Int) (aS : Option Addr) (S : List Int) (cS loS tpS : Nat) (av : Option Addr) (v : List Int) (n cv lov tpv : Nat) (w : World) (hn : S.length = n)
    (hS : RowIn loS tpS w aS S) (tS : tpS ≤ w.heap.size) (hv : RowIn lov tpv w av v) (tv : tpv ≤ w.heap.size) (hs : isSp p S = true) (h1 : isVec p S.length v = true) :
    Calls Try.prog 18 #[.agg #[.int .i64 p, .slice aS n cS], .slice av n cv] w (NewE n (eqnL p S v) w) := by
  have K := isSp_iff.1 hs
  have V := isVec_iff.1 h1
  have hpb := prm_bd K.prime
  have HP := Lib.hid K.prime
  have hS6 := K.hi
  have hS1 := K.lo
  have HS := Lib.hid hS
  have Hv := Lib.hid hv
  have HK := Lib.hid K
  have HVV := Lib.hid V
  have HEL : Hid (eqnL p S v = mkR n fun k => v.getD k 0 * S.getD k 0 % p) := by show _ = _; rw [← hn]; rfl
  have HVL : Hid (v.length = n) := V.len.trans hn
  have HN := Lib.hid hn
  rw [hn] at hS6 hS1
  have hn1 : S.length ≤ n ∧ n ≤ S.length := by omega
  have hmk := fun W => run_make_row' (P := Try.prog) 24 2 (.int .i64 0) 8 Try.underlying24 info64 rfl .i64 .i64 n (by omega) (by omega) W
  have HB1 := Lib.hid (balloc w (.cells #[.int .i64 p, .slice aS n cS] 26))
  have k0n := nw0 w (.int .i64 p) (.slice aS n cS) 26
  have k1n := nw1 w (.int .i64 p) (.slice aS n cS) 26
  have k1u := ((balloc (w.alloc (.cells #[.int .i64 p, .slice aS n cS] 26)) (.cells (madeCells #[.int .i64 0] n) 2)).cell (p := ⟨w.heap.size, 1, none⟩) (show w.heap.size < (w.alloc (.cells #[.int .i64 p, .slice aS n cS] 26)).heap.size by simp)).trans k1n
  have l0 : w.heap.size < (w.alloc (.cells #[.int .i64 p, .slice aS n cS] 26)).heap.size := by simp
  have HZ1 : Hid ((w.alloc (.cells #[.int .i64 p, .slice aS n cS] 26)).heap.size = w.heap.size + 1) := by show _ = _; simp
  rw [HEL.out]
  clear hS hv hs h1 K V hn
  go_enter Try.func18, Try.ntmps18
  go_wp2
  clear hmk k1u
  obtain ⟨w1, hw1⟩ : ∃ z, z = w.alloc (.cells #[.int .i64 p, .slice aS n cS] 26) := ⟨_, rfl⟩
  rw [← hw1] at HB1 k0n k1n l0 HZ1
  rw [← hw1]
  have K0 := Lib.hid k0n
  have hzw := HB1.out.size
  clear hw1 k0n k1n
  go_loopw [14] (fun t wr => ∃ i : Nat, i ≤ n ∧ t = .int .i64 i ∧ TagR w1.heap.size wr.heap.size wr (some ⟨w.heap.size + 1, 0, none⟩) (mkR n fun k => if k < i then v.getD k 0 * S.getD k 0 % p else 0) ∧ Below w1.heap.size w1 wr) (fun t _ => n - (intOf t).toNat)
  case atStart => exact ⟨0, Nat.zero_le _, rfl, by have h := made_tagE w1 n _ rfl; rw [show (mkR n fun _ => (0 : Int)) = mkR n (fun k => if k < 0 then v.getD k 0 * S.getD k 0 % p else 0) from mkR_congr (fun j _ => by simp)] at h; rw [← HZ1.out]; exact h, balloc w1 _⟩
  case round =>
    obtain ⟨i, hi, rfl, ht, hb⟩ := hrel
    have HT := Lib.hid ht
    have HB := Lib.hid hb
    have HBX : Hid (Below w.heap.size w wr) := HB1.out.trans (hb.mono hzw)
    have k0 := (hb.cell (p := ⟨w.heap.size, 0, none⟩) l0).trans K0.out
    clear ht
    by_cases hlt : i < n
    · have hi1 : (i : Int) < (n : Int) := by omega
      obtain ⟨b2, o2, ha2, _, hb2, hc2⟩ := (Hv.out.below HBX.out tv).num (j := i) (by rw [HVL.out]; exact hlt)
      subst ha2
      obtain ⟨b3, o3, ha3, _, hb3, hc3⟩ := (HS.out.below HBX.out tS).num (by omega : i < S.length)
      subst ha3
      obtain ⟨x0, x1⟩ := HVV.out.num (by omega : i < S.length)
      obtain ⟨y0, y1⟩ := HK.out.num (by omega : i < S.length)
      have HSET : Hid ((mkR n fun k => if k < i then v.getD k 0 * S.getD k 0 % p else 0).set i (v.getD i 0 * S.getD i 0 % p) = mkR n fun k => if k < i + 1 then v.getD k 0 * S.getD k 0 % p else 0) := mkR_set _ _ (fun j _ => by
        by_cases e : j = i
        · subst e; rw [if_pos (by omega), if_pos rfl]
        · rw [if_neg e]
          by_cases e2 : j < i
          · rw [if_pos e2, if_pos (by omega)]
          · rw [if_neg e2, if_neg (by omega)])
      obtain ⟨bg, og, hag, _, _, hcg⟩ := HT.out.row.num (j := i) (by rw [mkR_len]; exact hlt)
      cases hag
      rw [Nat.zero_add] at hcg
      obtain ⟨u, hu⟩ : ∃ u, u = (mkR n fun k => if k < i then v.getD k 0 * S.getD k 0 % p else 0).getD i 0 := ⟨_, rfl⟩
      rw [← hu] at hcg
      have hfg : wr.frozen? ⟨w.heap.size + 1, i, none⟩ = false := by
        rcases HT.out with h | ⟨b', o', cur, e, _, _, ht, _⟩
        · have := mkR_len n (fun k => if k < i then v.getD k 0 * S.getD k 0 % p else 0); rw [h] at this; simp at this; omega
        · cases e; exact free_of ht _
      obtain ⟨x, hx⟩ : ∃ x, x = v.getD i 0 := ⟨_, rfl⟩
      obtain ⟨y, hy⟩ : ∃ y, y = S.getD i 0 := ⟨_, rfl⟩
      rw [← hx] at hc2 x0 x1
      rw [← hy] at hc3 y0 y1
      have HXY : Hid (v.getD i 0 * S.getD i 0 % p = x * y % p) := by show _ = _; rw [hx, hy]
      obtain ⟨m0, m1, _, _⟩ := prod3 hpb.2 x0 x1 y0 y1 y0 y1
      have e1 : IntKind.i64.wrap (x * y) = x * y := IntWalk.i64_in _ (by omega)
      have e2 : (x * y).tmod p = x * y % p := Int.tmod_eq_emod_of_nonneg m0
      have hp0 : ¬ p = 0 := by omega
      have hp1 : (p == 0) = false := by simpa using hp0
      clear hu hx hy hb
      go_wp2
      go_region
      go_wp2
      go_roundw
      case rel =>
        have h := HT.out.set (j := i) (by rw [mkR_len]; exact hlt) (x * y % p)
        rw [← HXY.out, HSET.out, HXY.out, Nat.zero_add] at h
        exact ⟨i + 1, by omega, by go_num, h.block (Nat.le_refl _) (by simp [World.setCell]) (fun _ _ _ _ _ => rfl), (Below.setCell HB.out (Nat.le_of_eq HZ1.out) _).drew⟩
      case measure => simp [intOf]; omega
    · have hin : i = n := by omega
      subst hin
      have HE : Hid ((mkR i fun k => if k < i then v.getD k 0 * S.getD k 0 % p else 0) = mkR i fun k => v.getD k 0 * S.getD k 0 % p) := mkR_congr (fun j h => if_pos h)
      clear hb
      go_wp2
      go_ret
      exact ⟨_, rfl, by have h := HT.out; rw [HE.out] at h; exact h.block hzw (Nat.le_refl _) (fun _ _ _ _ _ => rfl), HBX.out⟩

end Go.Proofs.Ytdfkpbmccmbjmaa

namespace Go.Proofs.Ytdfkpbmccmbjmaa
open Go.RowKit
set_option linter.unusedVariables false

/-- What the two blocks hold. -/
def Tgs (w : World) (bm br n : Nat) : Prop := (∃ cur, w.heap[bm]? = some (.cells cur 24 (0, 0)) ∧ cur.size = n) ∧ ∃ cur, w.heap[br]? = some (.cells cur 2 (0, 0))
theorem Tgs.set {w : World} {bm br n : Nat} (h : Tgs w bm br n) (hne : bm ≠ br) (i : Nat) (v : Value) : Tgs (w.setCell ⟨bm, i, none⟩ v).drew bm br n := by
  obtain ⟨⟨cur, h1, h2⟩, ⟨cur', h3⟩⟩ := h
  refine ⟨⟨cur.setIfInBounds i v, ?_, by simp [h2]⟩, ⟨cur', ?_⟩⟩
  · show (w.setCell ⟨bm, i, none⟩ v).heap[bm]? = _
    simp [World.setCell, Array.getElem?_modify, h1]
  · show (w.setCell ⟨bm, i, none⟩ v).heap[br]? = _
    rw [Below.heap_setCell _ _ _ _ (fun e => hne e.symm)]; exact h3
theorem tgs1 (w : World) (n k : Nat) (t t' : TypeId) (ht : t = 24) (ht' : t' = 2) : Tgs ((w.alloc (.cells (madeCells #[.slice none 0 0] n) t)).alloc (.cells (madeCells #[.int .i64 0] k) t')).drew w.heap.size (w.heap.size + 1) n := by
  subst ht ht'
  refine ⟨⟨madeCells #[.slice none 0 0] n, ?_, by simp [size_madeCells]⟩, ⟨madeCells #[.int .i64 0] k, ?_⟩⟩
  · show ((w.alloc _).alloc _).heap[w.heap.size]? = _
    rw [Below.heap_alloc _ _ _ (by simp)]; exact heap_alloc_new w _
  · have h := heap_alloc_new (w.alloc (.cells (madeCells #[.slice none 0 0] n) 24)) (.cells (madeCells #[.int .i64 0] k) 2)
    have e : ∀ o : Obj, (w.alloc o).heap.size = w.heap.size + 1 := fun o => by simp
    rw [e] at h; exact h
theorem tgs2 (w : World) (n k : Nat) (t t' : TypeId) (ht : t = 24) (ht' : t' = 2) : Tgs ((w.alloc (.cells (madeCells #[.int .i64 0] k) t')).alloc (.cells (madeCells #[.slice none 0 0] n) t)).drew (w.heap.size + 1) w.heap.size n := by
  subst ht ht'
  refine ⟨⟨madeCells #[.slice none 0 0] n, ?_, by simp [size_madeCells]⟩, ⟨madeCells #[.int .i64 0] k, ?_⟩⟩
  · have h := heap_alloc_new (w.alloc (.cells (madeCells #[.int .i64 0] k) 2)) (.cells (madeCells #[.slice none 0 0] n) 24)
    have e : ∀ o : Obj, (w.alloc o).heap.size = w.heap.size + 1 := fun o => by simp
    rw [e] at h; exact h
  · show ((w.alloc _).alloc _).heap[w.heap.size]? = _
    rw [Below.heap_alloc _ _ _ (by simp)]; exact heap_alloc_new w _
theorem cut_out {w wr : World} {bm br n c : Nat} (h : CutAt w wr bm br n c n) (ht : Tgs wr bm br n) (hn : n ≤ 1024) : OutM w.heap.size wr (.slice (some ⟨bm, 0, none⟩) n n) (mk n c fun _ _ => 0) := by
  obtain ⟨⟨cur, h1, h2⟩, ⟨cur', h3⟩⟩ := ht
  refine ⟨cur.toList, ?_, fun i hi => ?_⟩
  · rw [mk_len]
    refine ⟨by simp [h2], .inr ⟨bm, n, cur, rfl, h.lm.1, h1, Nat.le_refl _, by unfold maxLen; omega, by omega, ?_⟩⟩
    rw [List.take_of_length_le (by simp [h2])]
  · rw [mk_len] at hi
    refine ⟨some ⟨br, i * c, none⟩, c, ?_, .inr ⟨br, i * c, cur', rfl, h.lr.1, h.lr.2, h3, fun j hj => ?_⟩⟩
    · have := h.done i hi
      rw [mk_rowLen _ hi]
      simpa [World.cell?, h1] using this
    · rw [mk_rowLen _ hi] at hj
      rw [mk_row _ hi, mkR_at _ hj]
      refine h.zero _ ?_
      have h4 : (i + 1) * c ≤ n * c := Nat.mul_le_mul_right _ hi
      rw [Nat.succ_mul] at h4
      omega
def NewZO (n c : Nat) (w : World) (e : Ending) (w' : World) : Prop := ∃ g, e = .returned (.slice (some ⟨g, 0, none⟩) n n) ∧ OutM w.heap.size w' (.slice (some ⟨g, 0, none⟩) n n) (mk n c fun _ _ => 0) ∧ Below w.heap.size w w'

set_option maxRecDepth 100000 in
set_option maxHeartbeats 3200000 in
theorem newMatrix_out (n c : Nat) (w : World) (hn : n ≤ 1024) (hc : c ≤ 1024) (hc0 : 1 ≤ c) :
    Calls Try.prog 17 #[.int .i64 n, .int .i64 c] w (NewZO n c w) := by
  have hn' := Lib.hid hn
  obtain ⟨t, htt⟩ : ∃ t, t = n * c := ⟨_, rfl⟩
  have htb : t ≤ 1048576 := by rw [htt]; exact Nat.mul_le_mul hn hc
  have hmul : IntKind.i64.wrap ((n : Int) * (c : Int)) = (t : Int) := by
    have : (n : Int) * (c : Int) = (t : Int) := by rw [htt]; simp
    rw [this]; exact IntWalk.i64_in _ (by omega)
  have HT := Lib.hid htt
  clear htt
  have hmk := fun W => run_make_row' (P := Try.prog) 27 24 (.slice none 0 0) 24 Try.underlying27 info_slice rfl .i64 .i64 n (by omega) (by omega) W
  have hmk2 := fun W => run_make_row' (P := Try.prog) 24 2 (.int .i64 0) 8 Try.underlying24 info64 rfl .i64 .i64 t (by omega) (by omega) W
  go_enter Try.func17, Try.ntmps17
  go_wp2
  go_region
  · go_wp2
    go_loopw [6, 16] (fun v t wr => ∃ i o L : Nat, i ≤ n ∧ t = .int .i64 i ∧ v = .slice (some ⟨(w.heap.size + 1), o, none⟩) L L ∧ L = (n - i) * c ∧ (i < n → o = i * c) ∧ CutAt w wr w.heap.size (w.heap.size + 1) n c i ∧ Tgs wr w.heap.size (w.heap.size + 1) n) (fun _ t _ => n - (intOf t).toNat)
    case atStart => exact ⟨0, 0, t, Nat.zero_le _, rfl, rfl, by rw [HT.out]; rfl, fun _ => by simp, (CutAt.start1 w n c t _ _ HT.out).drew, tgs1 w n t _ _ rfl rfl⟩
    case round =>
      obtain ⟨i, o, L, hi, rfl, rfl, hL, ho, hcut, htg⟩ := hrel
      have HTg := Lib.hid htg
      clear htg
      have HCut := Lib.hid hcut
      have HL := Lib.hid hL
      have HOo := Lib.hid ho
      by_cases hlt : i < n
      · have g0 := hcut.rest i (Nat.le_refl _) hlt
        have f0 := hcut.fm i
        have hLc : c ≤ L := by rw [hL]; exact Nat.le_mul_of_pos_left _ (by omega)
        have hLe : L - c = (n - (i + 1)) * c := by
          rw [hL]
          have : n - i = (n - (i + 1)) + 1 := by omega
          rw [this, Nat.succ_mul]; omega
        have HLe := Lib.hid hLe
        have hLt : L ≤ t := by rw [hL, HT.out]; exact Nat.mul_le_mul_right _ (by omega)
        have hi1 : (i : Int) < (n : Int) := by omega
        have hc1 : (c : Int) ≤ (L : Int) := by omega
        by_cases hend : c = L
        · have hin : i + 1 = n := by
            have h2 : (n - (i + 1)) * c = 0 := by omega
            rcases Nat.mul_eq_zero.1 h2 with h3 | h3 <;> omega
          have HIn := Lib.hid hin
          subst hend
          clear hL ho hcut hLe hin
          go_wp2
          go_region
          go_wp2
          go_roundw
          case rel => exact ⟨i + 1, o, 0, by omega, by go_num, by first | rfl | simp, by rw [HIn.out]; simp, fun h => absurd HIn.out (by omega), (HCut.out.next hlt (HOo.out hlt)).drew, HTg.out.set HCut.out.ne _ _⟩
          case measure => simp [intOf]; omega
        · have hlt2 : c < L := by omega
          clear hL ho hcut hLe hend
          go_wp2
          go_region
          go_wp2
          go_roundw
          case rel => exact ⟨i + 1, o + c, L - c, by omega, by go_num, by first | rfl | simp, HLe.out, fun h => by rw [HOo.out hlt, Nat.succ_mul], (HCut.out.next hlt (HOo.out hlt)).drew, HTg.out.set HCut.out.ne _ _⟩
          case measure => simp [intOf]; omega
      · have hn : i = n := by omega
        subst hn
        clear hL ho hcut
        go_wp2
        go_ret
        exact ⟨_, rfl, cut_out HCut.out HTg.out hn'.out, HCut.out.bel⟩
  · go_wp2
    go_loopw [6, 16] (fun v t wr => ∃ i o L : Nat, i ≤ n ∧ t = .int .i64 i ∧ v = .slice (some ⟨w.heap.size, o, none⟩) L L ∧ L = (n - i) * c ∧ (i < n → o = i * c) ∧ CutAt w wr (w.heap.size + 1) w.heap.size n c i ∧ Tgs wr (w.heap.size + 1) w.heap.size n) (fun _ t _ => n - (intOf t).toNat)
    case atStart => exact ⟨0, 0, t, Nat.zero_le _, rfl, rfl, by rw [HT.out]; rfl, fun _ => by simp, (CutAt.start2 w n c t _ _ HT.out).drew, tgs2 w n t _ _ rfl rfl⟩
    case round =>
      obtain ⟨i, o, L, hi, rfl, rfl, hL, ho, hcut, htg⟩ := hrel
      have HTg := Lib.hid htg
      clear htg
      have HCut := Lib.hid hcut
      have HL := Lib.hid hL
      have HOo := Lib.hid ho
      by_cases hlt : i < n
      · have g0 := hcut.rest i (Nat.le_refl _) hlt
        have f0 := hcut.fm i
        have hLc : c ≤ L := by rw [hL]; exact Nat.le_mul_of_pos_left _ (by omega)
        have hLe : L - c = (n - (i + 1)) * c := by
          rw [hL]
          have : n - i = (n - (i + 1)) + 1 := by omega
          rw [this, Nat.succ_mul]; omega
        have HLe := Lib.hid hLe
        have hLt : L ≤ t := by rw [hL, HT.out]; exact Nat.mul_le_mul_right _ (by omega)
        have hi1 : (i : Int) < (n : Int) := by omega
        have hc1 : (c : Int) ≤ (L : Int) := by omega
        by_cases hend : c = L
        · have hin : i + 1 = n := by
            have h2 : (n - (i + 1)) * c = 0 := by omega
            rcases Nat.mul_eq_zero.1 h2 with h3 | h3 <;> omega
          have HIn := Lib.hid hin
          subst hend
          clear hL ho hcut hLe hin
          go_wp2
          go_region
          go_wp2
          go_roundw
          case rel => exact ⟨i + 1, o, 0, by omega, by go_num, by first | rfl | simp, by rw [HIn.out]; simp, fun h => absurd HIn.out (by omega), (HCut.out.next hlt (HOo.out hlt)).drew, HTg.out.set HCut.out.ne _ _⟩
          case measure => simp [intOf]; omega
        · have hlt2 : c < L := by omega
          clear hL ho hcut hLe hend
          go_wp2
          go_region
          go_wp2
          go_roundw
          case rel => exact ⟨i + 1, o + c, L - c, by omega, by go_num, by first | rfl | simp, HLe.out, fun h => by rw [HOo.out hlt, Nat.succ_mul], (HCut.out.next hlt (HOo.out hlt)).drew, HTg.out.set HCut.out.ne _ _⟩
          case measure => simp [intOf]; omega
      · have hn : i = n := by omega
        subst hn
        clear hL ho hcut
        go_wp2
        go_ret
        exact ⟨_, rfl, cut_out HCut.out HTg.out hn'.out, HCut.out.bel⟩


theorem newMatrix_one (c : Nat) (w : World) (hc : c ≤ 1024) (hc0 : 1 ≤ c) : Calls Try.prog 17 #[.int .i64 1, .int .i64 c] w (NewZO 1 c w) := newMatrix_out 1 c w (by omega) hc hc0

end Go.Proofs.Ytdfkpbmccmbjmaa
