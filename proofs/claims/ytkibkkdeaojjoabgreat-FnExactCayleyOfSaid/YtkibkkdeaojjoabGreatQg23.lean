/-
  Where a number stands in a list, and whether it does: l01Index, l01Has, l02First in the model, slices.Index and slices.Contains in the program.
  Conditions: the list is nil or a row of known cells, of at most 1048576 numbers.
  The model's kernel: the walk.
  Conditions: the matrix is a row of rows of known cells with numbers of the prime.
  The model's solutions of linear equations: the walk.
  Conditions: the matrix is a row of rows of known cells with numbers of the prime, the right side too.
  Square matrices, in the model.
  Conditions: the arguments are nil or rows of known cells, of at most 1048576 numbers.
-/
import Derived.Test.YtkibkkdeaojjoabGreatQg6
import Derived.Test.YtkibkkdeaojjoabGreatQg1
import Derived.Test.YtkibkkdeaojjoabGreatQg13
import Derived.Test.YtkibkkdeaojjoabGreatQg22
import Derived.Test.YtkibkkdeaojjoabGreatQg12
namespace Go.Proofs.YtkibkkdeaojjoabGreat
open Go.RowKit
set_option linter.unusedVariables false

/-- The first place of a number. -/
def isAt (z : List Int) (x : Int) (k : Nat) : Prop := k < z.length ∧ (∀ j, j < k → z.getD j 0 ≠ x) ∧ z.getD k 0 = x
theorem isAt_cases (z : List Int) (x : Int) : (∃ k, isAt z x k ∧ z.any (· == x) = true) ∨ ((∀ j, j < z.length → z.getD j 0 ≠ x) ∧ z.any (· == x) = false) := by
  by_cases h : z.findIdx (· == x) < z.length
  · left
    have h1 := List.findIdx_getElem (xs := z) (p := (· == x)) (w := h)
    refine ⟨z.findIdx (· == x), ⟨h, fun j hj e => ?_, ?_⟩, ?_⟩
    · have h2 := List.not_of_lt_findIdx hj
      have hj' : j < z.length := by omega
      simp [List.getD, hj'] at e
      simp [e] at h2
    · simpa [List.getD, h] using h1
    · exact List.any_eq_true.2 ⟨_, List.getElem_mem h, h1⟩
  · right
    have h2 : ∀ y ∈ z, (y == x) = false := fun y hy => by
      have h3 : z.findIdx (· == x) = z.length := Nat.le_antisymm List.findIdx_le_length (by omega)
      simpa using List.findIdx_eq_length.1 h3 y hy
    refine ⟨fun j hj e => ?_, ?_⟩
    · have := h2 (z.getD j 0) (by simp [List.getD, hj])
      rw [e] at this; simp at this
    · simpa using h2

set_option maxHeartbeats 800000 in
theorem index64_yes (a : Option Addr) (z : List Int) (x : Int) (n k ca lo tp : Nat) (w : World) (hz : RowIn lo tp w a z) (hn : z.length = n) (hl : n ≤ 1048576) (hk : isAt z x k) :
    Calls Tryz.prog 126 #[.slice a n ca, .int .i64 x] w fun e w' => e = .returned (.int .i64 k) ∧ w = w' := by
  subst hn
  have HZ := Lib.hid hz
  have HK := Lib.hid hk
  clear hz hk
  go_enter Tryz.func126, Tryz.ntmps126
  go_wp2
  go_loop [8] (fun t => ∃ i : Nat, i ≤ k ∧ t = .int .i64 i) (fun t => z.length - (intOf t).toNat)
  case atStart => exact ⟨0, Nat.zero_le _, rfl⟩
  case round =>
    obtain ⟨i, hi, rfl⟩ := hrel
    have hkl := HK.out.1
    have hi1 : (i : Int) < (z.length : Int) := by omega
    obtain ⟨b1, o1, ha1, _, _, hc1⟩ := HZ.out.num (by omega : i < z.length)
    subst ha1
    by_cases e : i = k
    · subst e
      rw [HK.out.2.2] at hc1
      go_wp2
      go_ret
      exact ⟨rfl, rfl⟩
    · have h2 := HK.out.2.1 i (by omega)
      obtain ⟨y, hy⟩ : ∃ y, y = z.getD i 0 := ⟨_, rfl⟩
      rw [← hy] at hc1 h2
      have e1 : (y == x) = false := by simpa using h2
      have e2 : (x == y) = false := by simpa using fun e : x = y => h2 e.symm
      clear hy h2
      go_wp2
      go_round
      case rel => exact ⟨i + 1, by omega, by go_num⟩
      case measure => simp [intOf]; omega

set_option maxHeartbeats 800000 in
theorem index64_no (a : Option Addr) (z : List Int) (x : Int) (n ca lo tp : Nat) (w : World) (hz : RowIn lo tp w a z) (hn : z.length = n) (hl : n ≤ 1048576) (hk : ∀ j, j < z.length → z.getD j 0 ≠ x) :
    Calls Tryz.prog 126 #[.slice a n ca, .int .i64 x] w fun e w' => e = .returned (.int .i64 (-1)) ∧ w = w' := by
  subst hn
  have HZ := Lib.hid hz
  have HK := Lib.hid hk
  clear hz hk
  go_enter Tryz.func126, Tryz.ntmps126
  go_wp2
  go_loop [8] (fun t => ∃ i : Nat, i ≤ z.length ∧ t = .int .i64 i) (fun t => z.length - (intOf t).toNat)
  case atStart => exact ⟨0, Nat.zero_le _, rfl⟩
  case round =>
    obtain ⟨i, hi, rfl⟩ := hrel
    by_cases hlt : i < z.length
    · have hi1 : (i : Int) < (z.length : Int) := by omega
      obtain ⟨b1, o1, ha1, _, _, hc1⟩ := HZ.out.num hlt
      subst ha1
      have h2 := HK.out i hlt
      obtain ⟨y, hy⟩ : ∃ y, y = z.getD i 0 := ⟨_, rfl⟩
      rw [← hy] at hc1 h2
      have e1 : (y == x) = false := by simpa using h2
      have e2 : (x == y) = false := by simpa using fun e : x = y => h2 e.symm
      clear hy h2
      go_wp2
      go_round
      case rel => exact ⟨i + 1, by omega, by go_num⟩
      case measure => simp [intOf]; omega
    · have hn : i = z.length := by omega
      subst hn
      go_wp2
      go_ret
      exact ⟨rfl, rfl⟩

set_option maxHeartbeats 800000 in
theorem contains64_any (a : Option Addr) (z : List Int) (x : Int) (n ca lo tp : Nat) (w : World) (hz : RowIn lo tp w a z) (hn : z.length = n) (hl : n ≤ 1048576) :
    Calls Tryz.prog 113 #[.slice a n ca, .int .i64 x] w fun e w' => e = .returned (.bool (z.any (· == x))) ∧ w = w' := by
  have HZ := Lib.hid hz
  clear hz
  rcases isAt_cases z x with ⟨k, hk, he⟩ | ⟨hk, he⟩
  · have HK := Lib.hid hk
    have hk2 : k ≤ 1048576 := by have := hk.1; omega
    rw [he]
    clear hk he
    go_enter Tryz.func113, Tryz.ntmps113
    go_wp2_with (go_at_call 126; (with_reducible refine (index64_yes _ z x _ k _ lo tp _ HZ.out hn hl HK.out).mono ?_); rintro e w1 ⟨rfl, rfl⟩)
    go_ret
    exact ⟨rfl, rfl⟩
  · have HK := Lib.hid hk
    rw [he]
    clear hk he
    go_enter Tryz.func113, Tryz.ntmps113
    go_wp2_with (go_at_call 126; (with_reducible refine (index64_no _ z x _ _ lo tp _ HZ.out hn hl HK.out).mono ?_); rintro e w1 ⟨rfl, rfl⟩)
    go_ret
    exact ⟨rfl, rfl⟩

end Go.Proofs.YtkibkkdeaojjoabGreat

namespace Go.Proofs.YtkibkkdeaojjoabGreat
open Go.RowKit
set_option linter.unusedVariables false

theorem balloc (w : World) (o : Obj) : Below w.heap.size w (w.alloc o) := (Below.refl _ _).alloc (Nat.le_refl _) o
theorem bdrew (w : World) : Below w.heap.size w w.drew := (Below.refl _ _).drew
/-- A list of numbers stays where a list of lists is appended to. -/
theorem TagR.push {B lo tp n : Nat} {w w1 : World} {v : Value} {vals : List Value} {r : Option Addr} {z : List Int} (ho : w.ownsRow B 22 1 v n vals) (hg : w.grownBy w1 v.ownBlock) (ht : tp ≤ w.heap.size) (hz : TagR lo tp w r z) : TagR lo tp w1 r z := by
  refine hz.block (Nat.le_refl _) (Nat.le_refl _) (fun b cur _ h1 hc => hg.block b (Nat.lt_of_lt_of_le h1 ht) (fun e => ?_))
  rcases ho.2 with ⟨rfl, _⟩ | ⟨g, cap, cur', rfl, _, hgg, _⟩
  · simp [Value.ownBlock] at e
  · simp [Value.ownBlock] at e
    subst e
    rw [hgg] at hc
    simp at hc
/-- A list of lists stays where a list of numbers is appended to. -/
theorem OutM.beside {B n : Nat} {w w1 : World} {v v' : Value} {xs : List Value} (h : OutM B w v []) (ho : w.ownsRow B 2 1 v' n xs) (hg : w.grownBy w1 v'.ownBlock) : OutM B w1 v [] := by
  obtain ⟨vals, h1, _⟩ := h
  exact ⟨vals, h1.kept hg (own_apart h1 ho (by decide)), fun i hi => by simp at hi⟩
/-- A number is put into a list in place. -/
theorem TagR.set {lo tp : Nat} {w : World} {b o j : Nat} {z : List Int} (h : TagR lo tp w (some ⟨b, o, none⟩) z) (hj : j < z.length) (x : Int) : TagR lo tp (w.setCell ⟨b, o + j, none⟩ (.int .i64 x)) (some ⟨b, o, none⟩) (z.set j x) := by
  rcases h with h | ⟨b', o', cur, e, h0, h1, hc, hv⟩
  · rw [h] at hj; simp at hj
  · cases e
    refine .inr ⟨b, o, cur.setIfInBounds (o + j) (.int .i64 x), rfl, h0, h1, by simp [World.setCell, Array.getElem?_modify, hc], fun i hi => ?_⟩
    rw [List.length_set] at hi
    by_cases e : i = j
    · subst e
      rw [World.cell?_setCell_same w _ _ (hv i hi)]
      simp [List.getD, hi]
    · rw [World.cell?_setCell_other _ _ _ _ (fun e2 => e (by injection e2 with _ e3; omega)), hv i hi]
      simp only [List.getD_eq_getElem?_getD]
      rw [List.getElem?_set_ne (fun h => e h.symm)]
theorem OutM.start2 (w : World) (B : Nat) (t t' : TypeId) (hB : B ≤ w.heap.size) (ht : t' = 22) : OutM B ((w.alloc (.cells #[] t)).alloc (.cells #[] t')) (.slice (some ⟨w.heap.size + 1, 0, none⟩) 0 0) [] := by
  have h := OutM.start (w.alloc (.cells #[] t)) B t' (by simp; omega) ht
  have e : (w.alloc (.cells #[] t)).heap.size = w.heap.size + 1 := by simp
  rw [e] at h; exact h
theorem OutM.pushW {B n : Nat} {w w2 w1 : World} {o : Obj} {v v' : Value} {m : List (List Int)} {z : List Int} {vals : List Value} {r : Option Addr} {cz cp : Nat} (hl : m.length = n) (hzl : z.length = cz)
    (ho : w.ownsRow B 22 1 v n vals) (hr : ∀ i, i < n → ∃ r c', vals[i]? = some (.slice r (rw' m i).length c') ∧ TagR B w.heap.size w r (rw' m i))
    (hz : TagR w.heap.size w2.heap.size w2 r z) (hB : B ≤ w.heap.size) (h2 : Below w.heap.size w w2) (h1 : w1.ownsRow B 22 1 v' (n + 1) (vals ++ [.slice r cz cp])) (hg : (w2.alloc o).grownBy w1 v.ownBlock) : OutM B w1 v' (m ++ [z]) := by
  subst hl hzl
  have hb : Below w2.heap.size w2 (w2.alloc o) := (Below.refl _ _).alloc (Nat.le_refl _) o
  refine OutM.push (m := m) (w := w2.alloc o) (vals := vals) ((ho.kept (below_grown h2) (by cases hv : v.ownBlock <;> simp)).alloc o) (fun i hi => ?_) (hz.below hb (Nat.le_refl _) hB hb.size) (c := cp) h1 hg
  obtain ⟨r', c', g1, g2⟩ := hr i hi
  exact ⟨r', c', g1, (g2.below h2 (Nat.le_refl _) (Nat.le_refl _) h2.size).below hb (Nat.le_refl _) (Nat.le_refl _) hb.size⟩
end Go.Proofs.YtkibkkdeaojjoabGreat

namespace Go.Proofs.YtkibkkdeaojjoabGreat
open Go.RowKit Go.ChangeShapes Go.WideShapes
set_option linter.unusedVariables false

def NewRO (z : List Int) (w : World) (e : Ending) (w' : World) : Prop := ∃ g k, e = .returned (.slice (some ⟨g, 0, none⟩) z.length k) ∧ OutR w.heap.size w' (.slice (some ⟨g, 0, none⟩) z.length k) z ∧ Below w.heap.size w w'
set_option maxHeartbeats 800000 in
theorem l01Own_out (a : Option Addr) (zs : List Int) (ca lo tp : Nat) (w : World) (ha : RowIn lo tp w a zs) (ht : tp ≤ w.heap.size) (h0 : 0 < zs.length) (hs : zs.length ≤ 1048576) :
    Calls Tryz.prog 46 #[.slice a zs.length ca] w (NewRO zs w) := by
  obtain ⟨i0, hi, hz0, hz1, hz2⟩ := info_parts info64
  rcases ha with h | ⟨b, o, rfl, _, hb, hc⟩
  · rw [h] at h0; simp at h0
  · have hbw : b < w.heap.size := Nat.lt_of_lt_of_le hb ht
    have HN := Lib.hid (news_of hc (.cells #[] 2) hbw)
    clear hc
    go_enter Tryz.func46, Tryz.ntmps46
    go_wp2_with (at_builtin; refine wpList_append_lies _ rfl _ _ 22 rfl w.heap.size 2 i0 (.int .i64 0) 1 8 Tryz.underlying22 hi hz0 hz1 hz2 rfl (by decide) _ 0 [] rfl (World.ownsRow_made w #[] 0 (Nat.le_refl _) (Nat.zero_le _) rfl) ⟨b, o, none⟩ zs.length ca (zs.map (Value.int .i64)) rfl (by simp) HN.out (ones_of zs) h0 (by unfold maxLen; omega) (by omega) (by simp) (w.heap.size + 1) (by simp) ?_; intro gg cap w1 hown1 hgrow hat hlt1)
    rw [Nat.zero_add] at hown1
    have HO : Hid (OutR w.heap.size w1 (.slice (some ⟨gg, 0, none⟩) zs.length cap) zs) := OutR.of hown1 rfl
    have HB : Hid (Below w.heap.size w w1) := ((Below.refl _ _).alloc (Nat.le_refl _) _).grown hgrow (by simp) (fun k hk => by cases hk; exact Nat.le_refl _)
    clear hown1 hgrow
    go_wp2
    go_ret
    exact ⟨_, _, rfl, HO.out, HB.out⟩
def NewRN (n : Nat) (z : List Int) (w : World) (e : Ending) (w' : World) : Prop := ∃ g k, e = .returned (.slice (some ⟨g, 0, none⟩) n k) ∧ w'.ownsRow w.heap.size 2 1 (.slice (some ⟨g, 0, none⟩) n k) n (z.map (Value.int .i64)) ∧ Below w.heap.size w w'
theorem l01Own_n (a : Option Addr) (zs : List Int) (n ca lo tp : Nat) (w : World) (ha : RowIn lo tp w a zs) (ht : tp ≤ w.heap.size) (hn : zs.length = n) (h0 : 0 < n) (hs : n ≤ 1048576) :
    Calls Tryz.prog 46 #[.slice a n ca] w (NewRN n zs w) := by
  subst hn
  exact (l01Own_out a zs ca lo tp w ha ht h0 hs).mono (fun e w' h => h)
end Go.Proofs.YtkibkkdeaojjoabGreat

namespace Go.Proofs.YtkibkkdeaojjoabGreat
open Go.RowKit
set_option linter.unusedVariables false

theorem sq_yes {p : Int} {m : List (List Int)} (h : isM p m = true) (k : m.length = (rw' m 0).length) : sqC p m = 0 := by unfold sqC; rw [if_pos h, if_pos k]
theorem sq_no {p : Int} {m : List (List Int)} (h : isM p m = true) (k : ¬ m.length = (rw' m 0).length) : sqC p m = 2 := by unfold sqC; rw [if_pos h, if_neg k]
theorem sq_not {p : Int} {m : List (List Int)} (h : isM p m = false) : sqC p m = 1 := by unfold sqC; rw [if_neg (by simp [h])]
theorem sq_cases (p : Int) (m : List (List Int)) : (sqC p m = 0 ∧ Lst 1 p m ∧ m.length = (rw' m 0).length) ∨ sqC p m ≠ 0 := by
  by_cases h : isM p m = true
  · by_cases k : m.length = (rw' m 0).length
    · exact .inl ⟨sq_yes h k, isL_iff.1 h, k⟩
    · right; rw [sq_no h k]; simp
  · right; rw [sq_not (by simpa using h)]; simp

end Go.Proofs.YtkibkkdeaojjoabGreat
