/-
  The program's squares that are not 0: contracts of regularPart and of its callees; discriminants of lists that may be empty.
  Conditions: the squares are nil or a row of known cells.
-/
import Derived.Test.YtihanbfbgiiakaaIsoP
import Derived.Test.YtihanbfbgiiakaaIdx
import Derived.Test.YtihanbfbgiiakaaEl
import Derived.Lib.SliceRun
import Derived.Lib.EndianMore
import Derived.Deep.RegionHeld3
namespace Go.Proofs.Ytihanbfbgiiakaa
open Go.RowKit
set_option linter.unusedVariables false

/-- At most six numbers of the prime. -/
structure Some6 (p : Int) (S : List Int) : Prop where
  prime : prm p = true
  hi : S.length ≤ 6
  num : ∀ {j : Nat}, j < S.length → 0 ≤ S.getD j 0 ∧ S.getD j 0 < p
theorem some_nz {p : Int} {S : List Int} (h : Spa p S) : Some6 p (nz S) := ⟨h.prime, Nat.le_trans (nz_le S) h.hi, fun hj => nz_num h hj⟩
set_option maxRecDepth 100000 in
set_option maxHeartbeats 3200000 in
theorem discriminant_part (p : Int) (aS : Option Addr) (S : List Int) (cS loS tpS : Nat) (w : World)
    (hS : RowIn loS tpS w aS S) (tS : tpS ≤ w.heap.size) (hs : Some6 p S) :
    Calls Try.prog 78 #[.agg #[.int .i64 p, .slice aS S.length cS]] w fun e w' => e = .returned (.agg #[.int .i64 p, .int .i64 (discN p S)]) ∧ Below w.heap.size w w' := by
  have K := hs
  have hpb := prm_bd K.prime
  have hS6 := K.hi
  have HS := Lib.hid hS
  have HK := Lib.hid K
  obtain ⟨n, hn⟩ : ∃ n, n = S.length := ⟨_, rfl⟩
  rw [← hn] at hS6
  have HN := Lib.hid hn
  have hn1 : S.length ≤ n ∧ n ≤ S.length := by omega
  rw [← hn]
  clear hS hs K hn
  go_enter Try.func78, Try.ntmps78
  go_wp2
  go_loopw [12] (fun t wr => ∃ i : Nat, i ≤ n ∧ t = .int .i64 i ∧ NumAt wr (w.heap.size + 1 + 1) p (disN p S i) ∧ NumAt wr (w.heap.size + 1) 0 0 ∧ wr.cell? ⟨w.heap.size, 0, none⟩ = some (.int .i64 p) ∧ wr.cell? ⟨w.heap.size, 1, none⟩ = some (.slice aS n cS) ∧ Below w.heap.size w wr ∧ w.heap.size + 3 ≤ wr.heap.size) (fun t _ => n - (intOf t).toNat)
  case atStart => exact ⟨0, Nat.zero_le _, rfl, numAt_new2 w _ _ p 1 _, (numAt_new1 w _ 0 0 _).alloc (by simp) _, by simp [go_sem], by simp [go_sem], by ((repeat' (first | with_reducible exact Below.refl _ _ | (with_reducible refine Below.setCell ?_ ?_ _) | (with_reducible refine Below.alloc ?_ ?_ _) | (with_reducible refine Below.drew ?_))); all_goals (first | (simp; done) | omega | (simp; omega))), by simp⟩
  case round =>
    obtain ⟨i, hi, rfl, n2, n1, hc0, hc1, hbel, hz⟩ := hrel
    have N2 := Lib.hid n2
    have N1 := Lib.hid n1
    have HB := Lib.hid hbel
    by_cases hlt : i < n
    · obtain ⟨bs, os, ha1, _, _, cs⟩ := (HS.out.below hbel tS).num (by omega : i < S.length)
      subst ha1
      obtain ⟨z0, z1⟩ := HK.out.num (by omega : i < S.length)
      obtain ⟨q0, q1⟩ := disN_bd HK.out.prime S i
      have HST : Hid (∀ s z : Int, s = disN p S i → z = S.getD i 0 → s * z % p = disN p S (i + 1)) := by
        intro s z e1 e2
        subst e1 e2
        rfl
      obtain ⟨s, hs⟩ : ∃ s, s = disN p S i := ⟨_, rfl⟩
      obtain ⟨z, hz'⟩ : ∃ z, z = S.getD i 0 := ⟨_, rfl⟩
      have HE := Lib.hid (HST.out s z hs hz')
      have N2 : Hid (NumAt wr (w.heap.size + 1 + 1) p s) := by show NumAt _ _ _ _; rw [hs]; exact N2.out
      rw [← hs] at q0 q1 n2
      rw [← hz'] at cs z0 z1
      clear hs hz' HST hbel n1
      obtain ⟨g0, g1, k0, k1⟩ := n2
      have hi1 : (i : Int) < (n : Int) := by omega
      go_wp2_with (go_at_call 111; refine (times_any p s z _ HK.out.prime q0 q1 z0 z1).mono ?_; rintro e w1 ⟨rfl, hb1⟩; obtain ⟨s0, s1, t0, t1⟩ := N2.out.keep hb1 (by omega))
      go_roundw
      case rel =>
        have hs1 := hb1.size
        refine ⟨i + 1, by omega, by go_num, by rw [← HE.out]; exact (show NumAt w1 _ p s from ⟨s0, s1, t0, t1⟩).set p (s * z % p), ((N1.out.keep hb1 (by omega)).far (by omega) 0 _).far (by omega) 1 _, ?_, ?_, (Below.setCell (Below.setCell (HB.out.trans (hb1.mono (show w.heap.size ≤ wr.heap.size by omega))) (show w.heap.size ≤ w.heap.size + 1 + 1 by omega) _) (show w.heap.size ≤ w.heap.size + 1 + 1 by omega) _), by simp [World.setCell]; omega⟩
        · exact (World.cell?_setCell_other _ _ _ _ (by simp)).trans ((World.cell?_setCell_other _ _ _ _ (by simp)).trans ((hb1.cell (p := ⟨w.heap.size, 0, none⟩) (show w.heap.size < wr.heap.size by omega)).trans hc0))
        · exact (World.cell?_setCell_other _ _ _ _ (by simp)).trans ((World.cell?_setCell_other _ _ _ _ (by simp)).trans ((hb1.cell (p := ⟨w.heap.size, 1, none⟩) (show w.heap.size < wr.heap.size by omega)).trans hc1))
      case measure => simp [intOf]; omega
    · have hin : i = n := by omega
      subst hin
      have HE : Hid (disN p S i = discN p S) := by show _ = _; unfold discN; rw [HN.out]
      rw [HE.out] at n2
      obtain ⟨g0, g1, k0, k1⟩ := n2
      obtain ⟨s0, s1, t0, t1⟩ := n1
      go_wp2
      refine bodyPost_ret (v := .agg #[.int .i64 p, .int .i64 (discN p S)]) (by simp [results, Try.results78, go_sem, s0, s1]) rfl ⟨rfl, ?_⟩
      exact Below.setCell (Below.setCell HB.out (show w.heap.size ≤ w.heap.size + 1 by omega) _) (show w.heap.size ≤ w.heap.size + 1 by omega) _


theorem isZero_any (x : Int) (w : World) :
    Calls Try.prog 133 #[.int .i64 x] w fun e w' => e = .returned (.bool (x == 0)) ∧ w = w' := by
  go_enter Try.func133, Try.ntmps133
  go_wp2
  go_ret
  exact ⟨rfl, rfl⟩

set_option maxHeartbeats 800000 in
theorem findZ_yes (a : Option Addr) (z : List Int) (n k ca lo tp : Nat) (w : World) (hz : RowIn lo tp w a z) (hn : z.length = n) (hl : n ≤ 1024) (hk : isAt z 0 k) :
    Calls Try.prog 121 #[.slice a n ca, .func (.func 133) #[] #[]] w fun e w' => e = .returned (.int .i64 k) ∧ w = w' := by
  subst hn
  have HZ := Lib.hid hz
  have HK := Lib.hid hk
  clear hz hk
  go_enter Try.func121, Try.ntmps121
  go_wp2
  go_loop [8] (fun t => ∃ i : Nat, i ≤ k ∧ t = .int .i64 i) (fun t => z.length - (intOf t).toNat)
  case atStart => exact ⟨0, Nat.zero_le _, rfl⟩
  case round =>
    obtain ⟨i, hi, rfl⟩ := hrel
    have hkl := HK.out.1
    have hi1 : (i : Int) < (z.length : Int) := by omega
    obtain ⟨b1, o1, ha1, _, _, hc1⟩ := HZ.out.num (by omega : i < z.length)
    subst ha1
    by_cases e : i = k
    · subst e
      rw [HK.out.2.2] at hc1
      go_wp2_with (go_at_call 133; refine (isZero_any 0 _).mono ?_; rintro e w1 ⟨rfl, rfl⟩)
      go_ret
      exact ⟨rfl, rfl⟩
    · have h2 := HK.out.2.1 i (by omega)
      obtain ⟨x, hx⟩ : ∃ x, x = z.getD i 0 := ⟨_, rfl⟩
      rw [← hx] at hc1 h2
      have HX : Hid ((x == 0) = false) := by show _ = _; simpa using h2
      clear hx h2
      go_wp2_with (go_at_call 133; refine (isZero_any x _).mono ?_; rintro e w1 ⟨rfl, rfl⟩; rw [HX.out])
      go_round
      case rel => exact ⟨i + 1, by omega, by go_num⟩
      case measure => simp [intOf]; omega

set_option maxHeartbeats 800000 in
theorem findZ_no (a : Option Addr) (z : List Int) (n ca lo tp : Nat) (w : World) (hz : RowIn lo tp w a z) (hn : z.length = n) (hl : n ≤ 1024) (hk : ∀ j, j < z.length → z.getD j 0 ≠ 0) :
    Calls Try.prog 121 #[.slice a n ca, .func (.func 133) #[] #[]] w fun e w' => e = .returned (.int .i64 (-1)) ∧ w = w' := by
  subst hn
  have HZ := Lib.hid hz
  have HK := Lib.hid hk
  clear hz hk
  go_enter Try.func121, Try.ntmps121
  go_wp2
  go_loop [8] (fun t => ∃ i : Nat, i ≤ z.length ∧ t = .int .i64 i) (fun t => z.length - (intOf t).toNat)
  case atStart => exact ⟨0, Nat.zero_le _, rfl⟩
  case round =>
    obtain ⟨i, hi, rfl⟩ := hrel
    by_cases hlt : i < z.length
    · have hi1 : (i : Int) < (z.length : Int) := by omega
      obtain ⟨b1, o1, ha1, _, _, hc1⟩ := HZ.out.num hlt
      subst ha1
      have h2 := HK.out i hlt
      obtain ⟨x, hx⟩ : ∃ x, x = z.getD i 0 := ⟨_, rfl⟩
      rw [← hx] at hc1 h2
      have HX : Hid ((x == 0) = false) := by show _ = _; simpa using h2
      clear hx h2
      go_wp2_with (go_at_call 133; refine (isZero_any x _).mono ?_; rintro e w1 ⟨rfl, rfl⟩; rw [HX.out])
      go_round
      case rel => exact ⟨i + 1, by omega, by go_num⟩
      case measure => simp [intOf]; omega
    · have hn : i = z.length := by omega
      subst hn
      go_wp2
      go_ret
      exact ⟨rfl, rfl⟩

/-- The row while it is swept: its first numbers are those that stay, from j on it is as it was. -/
structure Swept (w wr : World) (b o n : Nat) (z : List Int) (i j : Nat) : Prop where
  own : ∃ f : Nat → Int, RowOwn wr b o n f ∧ (∀ k, k < i → f k = (nz (z.take j)).getD k 0) ∧ ∀ k, j ≤ k → k < n → f k = z.getD k 0
  len : (nz (z.take j)).length = i
  lt : i < j
  wrote : Wrote b o n w wr
theorem Swept.skip {w wr : World} {b o n : Nat} {z : List Int} {i j : Nat} (h : Swept w wr b o n z i j) (hj : j < z.length) (e : z.getD j 0 = 0) : Swept w wr b o n z i (j + 1) := by
  obtain ⟨f, h1, h2, h3⟩ := h.own
  refine ⟨⟨f, h1, fun k hk => by rw [nz_yes hj e]; exact h2 k hk, fun k hk => h3 k (by omega)⟩, by rw [nz_yes hj e]; exact h.len, by have := h.lt; omega, h.wrote⟩
theorem Swept.keep {w wr : World} {b o n : Nat} {z : List Int} {i j : Nat} (h : Swept w wr b o n z i j) (hj : j < z.length) (hn : z.length = n) (x : Int) (ex : x = z.getD j 0) (e : x ≠ 0) : Swept w (wr.setCell ⟨b, o + i, none⟩ (.int .i64 x)) b o n z (i + 1) (j + 1) := by
  subst ex
  obtain ⟨f, h1, h2, h3⟩ := h.own
  have hl := h.len
  have hlt := h.lt
  have hin : i < n := by omega
  refine ⟨⟨fun k => if k = i then z.getD j 0 else f k, ⟨fun k hk => ?_, fun k hk => by simp [go_sem, h1.free k hk]⟩, fun k hk => ?_, fun k hk hk2 => ?_⟩, ?_, by omega, h.wrote.set hin _⟩
  · by_cases e2 : k = i
    · subst e2
      show _ = some (Value.int .i64 (if k = k then z.getD j 0 else f k))
      rw [if_pos rfl]; exact World.cell?_setCell_same wr _ _ (h1.cell k hk)
    · show _ = some (Value.int .i64 (if k = i then z.getD j 0 else f k))
      rw [if_neg e2]; exact (World.cell?_setCell_other _ _ _ _ (by first | (simp; done) | (simp; omega))).trans (h1.cell k hk)
  · show (if k = i then z.getD j 0 else f k) = _
    rw [nz_no hj e]
    by_cases e2 : k = i
    · subst e2
      rw [if_pos rfl, ← hl]
      simp [List.getD]
    · rw [if_neg e2, h2 k (by omega)]
      simp only [List.getD_eq_getElem?_getD]; rw [List.getElem?_append_left (by omega)]
  · show (if k = i then z.getD j 0 else f k) = _
    rw [if_neg (by omega)]; exact h3 k (by omega) hk2
  · rw [nz_no hj e, List.length_append, hl]; rfl
theorem Swept.start {w : World} {b o n k : Nat} {z : List Int} (h : RowOwn w b o n (num z)) (hn : z.length = n) (hk : isAt z 0 k) : Swept w w b o n z k (k + 1) := by
  obtain ⟨k1, k2, k3⟩ := hk
  have e : nz (z.take (k + 1)) = z.take k := by rw [nz_yes k1 k3, nz_upto (by omega) k2]
  refine ⟨⟨num z, h, fun j hj => ?_, fun j _ _ => rfl⟩, by rw [e, List.length_take]; omega, by omega, Wrote.refl _ _ _ _⟩
  rw [e]
  show z.getD j 0 = _
  simp only [List.getD_eq_getElem?_getD]; rw [List.getElem?_take_of_lt hj]
theorem wrote_clear {b o n i : Nat} {w wr : World} (h : Wrote b o n w wr) (hi : i ≤ n) (vs : List Value) (hv : vs.length = n - i) : Wrote b o n w (wr.setCells b (o + i) vs) := by
  have key : ∀ (vs : List Value) (s : Nat) (W : World), s + vs.length ≤ n → Wrote b o n w W → Wrote b o n w (W.setCells b (o + s) vs) := by
    intro vs
    induction vs with
    | nil => intro s W _ h; exact h
    | cons v vs ih =>
      intro s W hs h
      simp only [List.length_cons] at hs
      have := ih (s + 1) (W.setCell ⟨b, o + s, none⟩ v) (by omega) (h.set (by omega) v)
      rwa [← Nat.add_assoc] at this
  exact key vs i wr (by omega) h
theorem Swept.done {w wr : World} {b o n : Nat} {z : List Int} {i : Nat} (h : Swept w wr b o n z i n) (hn : z.length = n) : RowIn b (b + 1) (wr.setCells b (o + i) (List.replicate (n - i) (.int .i64 0))) (some ⟨b, o, none⟩) (nz z) ∧ Wrote b o n w (wr.setCells b (o + i) (List.replicate (n - i) (.int .i64 0))) := by
  obtain ⟨f, h1, h2, _⟩ := h.own
  have hl := h.len
  have hlt := h.lt
  rw [← hn, List.take_length] at hl h2
  refine ⟨.inr ⟨b, o, rfl, Nat.le_refl _, Nat.lt_succ_self _, fun j hj => ?_⟩, wrote_clear h.wrote (by omega) _ (by simp)⟩
  rw [World.cell?_setCells_out b _ _ _ _ (fun _ _ => .inl (by simp; omega)), h1.cell j (by omega), h2 j (by omega)]

def DelE (b o n c : Nat) (z : List Int) (w : World) (e : Ending) (w' : World) : Prop :=
  e = .returned (.slice (some ⟨b, o, none⟩) (nz z).length c) ∧ RowIn b (b + 1) w' (some ⟨b, o, none⟩) (nz z) ∧ Wrote b o n w w'
set_option maxRecDepth 100000 in
set_option maxHeartbeats 3200000 in
theorem deleteFunc_any (b o n c : Nat) (z : List Int) (w : World) (hn : z.length = n) (h : RowOwn w b o n (num z)) (h1 : n ≤ 1024) (hc : n ≤ c) :
    Calls Try.prog 134 #[.slice (some ⟨b, o, none⟩) n c, .func (.func 133) #[] #[]] w (DelE b o n c z w) := by
  have HR := Lib.hid (h.rowIn hn)
  have H := Lib.hid h
  have HN := Lib.hid hn
  rcases isAt_cases z 0 with ⟨k, hk, -⟩ | ⟨hk, -⟩
  · have HK := Lib.hid hk
    have hkn : k < n := by have := hk.1; omega
    have hne : ((k : Int) == -1) = false := beq_eq_false_iff_ne.2 (by omega)
    clear h hn hk
    go_enter Try.func134, Try.ntmps134
    go_wp2_with (go_at_call 121; (with_reducible refine (findZ_yes (some ⟨b, o, none⟩) z n k c b (b + 1) _ HR.out HN.out h1 HK.out).mono ?_); rintro e w1 ⟨rfl, rfl⟩)
    clear hne
    go_loopw [5, 6] (fun s t wr => ∃ i j : Nat, j ≤ n ∧ s = .int .i64 i ∧ t = .int .i64 j ∧ Hid (Swept w wr b o n z i j)) (fun _ t _ => n - (intOf t).toNat)
    case atStart => exact ⟨k, k + 1, by omega, rfl, by go_num, Swept.start H.out HN.out HK.out⟩
    case round =>
      obtain ⟨i, j, hj, rfl, rfl, HS⟩ := hrel
      have hij := HS.out.lt
      obtain ⟨f, h2, _, h4⟩ := HS.out.own
      have ci := h2.cell i (by omega)
      have fi := h2.free i (by omega)
      by_cases hlt : j < n
      · have hj1 : (j : Int) < (n : Int) := by omega
        have hi1 : (i : Int) < (n : Int) := by omega
        have cj := h2.cell j hlt
        rw [h4 j (Nat.le_refl _) hlt] at cj
        obtain ⟨y, hy⟩ : ∃ y, y = f i := ⟨_, rfl⟩
        rw [← hy] at ci
        obtain ⟨x, hx⟩ : ∃ x, x = z.getD j 0 := ⟨_, rfl⟩
        rw [← hx] at cj
        have HX := Lib.hid hx
        by_cases e : x = 0
        · have HXB : Hid ((x == 0) = true) := by show _ = _; simpa using e
          have HE := Lib.hid e
          clear h2 h4 hy hx e
          go_wp2_with (go_at_call 133; refine (isZero_any x _).mono ?_; rintro e w1 ⟨rfl, rfl⟩; rw [HXB.out])
          go_roundw
          case rel => exact ⟨i, j + 1, by omega, rfl, by go_num, HS.out.skip (by rw [HN.out]; exact hlt) (HX.out.symm.trans HE.out)⟩
          case measure => simp [intOf]; omega
        · have HXB : Hid ((x == 0) = false) := by show _ = _; simpa using e
          have HE := Lib.hid e
          clear h2 h4 hy hx e
          go_wp2_with (go_at_call 133; refine (isZero_any x _).mono ?_; rintro e w1 ⟨rfl, rfl⟩; rw [HXB.out])
          go_roundw
          case rel => exact ⟨i + 1, j + 1, by omega, by go_num, by go_num, HS.out.keep (by rw [HN.out]; exact hlt) HN.out x HX.out HE.out⟩
          case measure => simp [intOf]; omega
      · have hjn : j = n := by omega
        subst hjn
        have hcl : ∀ ty, (Builtin.clear_ #[31] ty #[.slice (some ⟨b, o + i, none⟩) (j - i) (c - i)]).run Try.prog wr = .ok (.tuple #[]) (wr.setCells b (o + i) (List.replicate (j - i) (.int .i64 0))) :=
          fun ty => Lib.run_clear_slice wr _ _ ty _ Try.underlying31 (fun W => by first | rfl | kernel_rfl | simp [go_sem]) rfl rfl b (o + i) _ _ (by omega) (fun t ht => by rw [show o + i + t = o + (i + t) by omega, h2.cell (i + t) (by omega)]; rfl) (fun t ht => by rw [show o + i + t = o + (i + t) by omega]; exact h2.free (i + t) (by omega))
        have hi1 : (i : Int) < (j : Int) := by omega
        have hi2 : (i : Int) ≤ (c : Int) := by omega
        have hjc : (j : Int) ≤ (c : Int) := by omega
        have hci : c ≠ i := by omega
        clear h2 h4 ci fi
        go_wp2
        go_ret
        have hd := HS.out.done HN.out
        have hl := HS.out.len
        rw [← HN.out, List.take_length] at hl
        exact ⟨by rw [hl]; rfl, hd.1, hd.2⟩
  · have HV : Hid (nz z = z) := nz_none hk
    have HK := Lib.hid hk
    clear h hn hk
    go_enter Try.func134, Try.ntmps134
    go_wp2_with (go_at_call 121; (with_reducible refine (findZ_no (some ⟨b, o, none⟩) z n c b (b + 1) _ HR.out HN.out h1 HK.out).mono ?_); rintro e w1 ⟨rfl, rfl⟩)
    go_ret
    exact ⟨by rw [HV.out, HN.out]; rfl, by rw [HV.out]; exact HR.out, Wrote.refl _ _ _ _⟩

def PartE (p : Int) (z : List Int) (w : World) (e : Ending) (w' : World) : Prop :=
  ∃ g o c, e = .returned (.agg #[.int .i64 p, .slice (some ⟨g, o, none⟩) z.length c]) ∧ RowIn w.heap.size w'.heap.size w' (some ⟨g, o, none⟩) z ∧ Below w.heap.size w w'
set_option maxRecDepth 100000 in
set_option maxHeartbeats 3200000 in
theorem regularPart_any (p : Int) (aS : Option Addr) (S : List Int) (cS lo tp : Nat) (w : World) (hS : RowIn lo tp w aS S) (tS : tp ≤ w.heap.size) (hs : isSp p S = true) :
    Calls Try.prog 117 #[.agg #[.int .i64 p, .slice aS S.length cS]] w (PartE p (nz S) w) := by
  have K := isSp_iff.1 hs
  have hl := K.hi
  have hl0 : 0 < S.length := K.lo
  have HS := Lib.hid hS
  obtain ⟨n, hn⟩ : ∃ n, n = S.length := ⟨_, rfl⟩
  have HN := Lib.hid hn
  rw [← hn] at hl hl0
  rw [← hn]
  have HB1 := Lib.hid ((below_alloc w (.cells #[.int .i64 p, .slice aS n cS] 44)).trans ((below_alloc (w.alloc (.cells #[.int .i64 p, .slice aS n cS] 44)) (.cells #[.int .i64 0, .slice none 0 0] 44)).mono (below_alloc w (.cells #[.int .i64 p, .slice aS n cS] 44)).size))
  have k0n := ((below_alloc (w.alloc (.cells #[.int .i64 p, .slice aS n cS] 44)) (.cells #[.int .i64 0, .slice none 0 0] 44)).cell (p := ⟨w.heap.size, 0, none⟩) (show w.heap.size < (w.alloc (.cells #[.int .i64 p, .slice aS n cS] 44)).heap.size by simp)).trans (nw0 w (.int .i64 p) (.slice aS n cS) 44)
  have k1n := ((below_alloc (w.alloc (.cells #[.int .i64 p, .slice aS n cS] 44)) (.cells #[.int .i64 0, .slice none 0 0] 44)).cell (p := ⟨w.heap.size, 1, none⟩) (show w.heap.size < (w.alloc (.cells #[.int .i64 p, .slice aS n cS] 44)).heap.size by simp)).trans (nw1 w (.int .i64 p) (.slice aS n cS) 44)
  have r0n : ((w.alloc (.cells #[.int .i64 p, .slice aS n cS] 44)).alloc (.cells #[.int .i64 0, .slice none 0 0] 44)).cell? ⟨w.heap.size + 1, 0, none⟩ = some (.int .i64 0) := by simp [go_sem]
  have r1n : ((w.alloc (.cells #[.int .i64 p, .slice aS n cS] 44)).alloc (.cells #[.int .i64 0, .slice none 0 0] 44)).cell? ⟨w.heap.size + 1, 1, none⟩ = some (.slice none 0 0) := by simp [go_sem]
  have f0n : ((w.alloc (.cells #[.int .i64 p, .slice aS n cS] 44)).alloc (.cells #[.int .i64 0, .slice none 0 0] 44)).frozen? ⟨w.heap.size + 1, 0, none⟩ = false := by simp [go_sem]
  have f1n : ((w.alloc (.cells #[.int .i64 p, .slice aS n cS] 44)).alloc (.cells #[.int .i64 0, .slice none 0 0] 44)).frozen? ⟨w.heap.size + 1, 1, none⟩ = false := by simp [go_sem]
  have HZ1 : Hid (((w.alloc (.cells #[.int .i64 p, .slice aS n cS] 44)).alloc (.cells #[.int .i64 0, .slice none 0 0] 44)).heap.size = w.heap.size + 1 + 1) := by show _ = _; simp
  clear hS hs K hn
  go_enter Try.func117, Try.ntmps117
  go_wp2
  obtain ⟨w1, hw1⟩ : ∃ z, z = (w.alloc (.cells #[.int .i64 p, .slice aS n cS] 44)).alloc (.cells #[.int .i64 0, .slice none 0 0] 44) := ⟨_, rfl⟩
  rw [← hw1] at HB1 k0n k1n r0n r1n f0n f1n HZ1
  rw [← hw1]
  have hz1 : w.heap.size + 1 < w1.heap.size := by rw [HZ1.out]; omega
  have HSd := Lib.hid (HS.out.below (HB1.out.trans ((below_drew w1).mono HB1.out.size)) tS)
  have HTd : Hid (tp ≤ w1.drew.heap.size) := Nat.le_trans tS HB1.out.size
  clear hw1
  go_region_held3 (fun w' => w'.cell? ⟨w.heap.size, 0, none⟩ = some (.int .i64 p) ∧ w'.cell? ⟨w.heap.size, 1, none⟩ = some (.slice aS n cS)) (first | go_keep | exact SS2.out | exact SS3.out) (first | (go_at_call 119; go_loud ((with_reducible refine (cloneN aS S n cS lo tp w1.drew HSd.out HTd.out HN.out.symm hl0 (by omega)).mono ?_); rintro e w2 ⟨-, r2, c2, rfl, ht2, hb2, hnc⟩; have HB2 : Hid (Below w1.heap.size w1 w2) := (below_drew w1).trans hb2; obtain ⟨b2, o2, e2, hb20, hb21, hro⟩ := RowOwn.of ht2.own (show 0 < S.length by rw [← HN.out]; exact hl0); subst e2; have HRO : Hid (RowOwn w2 b2 o2 n (num S)) := (by have h := hro; rw [← HN.out] at h; exact h); have hzz : w1.heap.size ≤ b2 := hb20; have SS2 := Lib.hid (And.intro ((HB2.out.cell (p := ⟨w.heap.size, 0, none⟩) (show w.heap.size < w1.heap.size by omega)).trans k0n) ((HB2.out.cell (p := ⟨w.heap.size, 1, none⟩) (show w.heap.size < w1.heap.size by omega)).trans k1n)); clear ht2 hb2 hro hb20)) | (go_at_call 134; (with_reducible refine (deleteFunc_any b2 o2 n c2 S w2 HN.out.symm HRO.out (by omega) hnc).mono ?_); rintro e w3 ⟨rfl, hr3, hw3⟩; have HR3 := Lib.hid hr3; have HB3 : Hid (Below w1.heap.size w1 w3) := HB2.out.trans (hw3.belowk hzz); have hz3 : b2 < w3.heap.size := (by rw [hw3.size]; exact hb21); have SS3 := Lib.hid (And.intro ((HB3.out.cell (p := ⟨w.heap.size, 0, none⟩) (show w.heap.size < w1.heap.size by omega)).trans k0n) ((HB3.out.cell (p := ⟨w.heap.size, 1, none⟩) (show w.heap.size < w1.heap.size by omega)).trans k1n)); have yc0 := (HB3.out.cell (p := ⟨w.heap.size + 1, 0, none⟩) hz1).trans r0n; have yc1 := (HB3.out.cell (p := ⟨w.heap.size + 1, 1, none⟩) hz1).trans r1n; have yf0 := (HB3.out.frozen (p := ⟨w.heap.size + 1, 0, none⟩) hz1).trans f0n; have yf1 := (HB3.out.frozen (p := ⟨w.heap.size + 1, 1, none⟩) hz1).trans f1n; clear hr3 hw3))
  go_wp2
  refine bodyPost_ret (v := .agg #[.int .i64 p, .slice (some ⟨b2, o2, none⟩) (nz S).length c2]) (by simp [results, Try.results117, go_sem, yc0, yc1]) rfl ⟨b2, o2, c2, rfl, ?_, ?_⟩
  · refine (HR3.out.same (fun i i0 i1 => ?_)).mono (by omega) (by simp [World.setCell]; omega)
    have hne : i ≠ w.heap.size + 1 := by omega
    exact (Below.heap_setCell _ _ _ _ hne).trans (Below.heap_setCell _ _ _ _ hne)
  · exact Below.setCell (Below.setCell (HB1.out.trans (HB3.out.mono HB1.out.size)) (show w.heap.size ≤ w.heap.size + 1 by omega) _) (show w.heap.size ≤ w.heap.size + 1 by omega) _

end Go.Proofs.Ytihanbfbgiiakaa
