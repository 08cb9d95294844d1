/-
  The model's kernel: the walk.
  Conditions: the matrix is a row of rows of known cells with numbers of the prime.
  The model's solutions of linear equations: the walk.
  Conditions: the matrix is a row of rows of known cells with numbers of the prime, the right side too.
  Square matrices, in the model.
  Conditions: the arguments are nil or rows of known cells, of at most 1048576 numbers.
  The model's determinant, step by step. No Go in sight.
  No conditions.
-/
import Derived.Test.YtkibkkdeaojjoabQd12
import Derived.Test.YtkibkkdeaojjoabQd22
import Derived.Test.YtkibkkdeaojjoabQd11
import Derived.Test.YtkibkkdeaojjoabQd15
import Derived.Test.YtkibkkdeaojjoabQd10
namespace Go.Proofs.Ytkibkkdeaojjoab
open Go.RowKit
set_option linter.unusedVariables false

theorem balloc (w : World) (o : Obj) : Below w.heap.size w (w.alloc o) := (Below.refl _ _).alloc (Nat.le_refl _) o
theorem bdrew (w : World) : Below w.heap.size w w.drew := (Below.refl _ _).drew
/-- A list of numbers stays where a list of lists is appended to. -/
theorem TagR.push {B lo tp n : Nat} {w w1 : World} {v : Value} {vals : List Value} {r : Option Addr} {z : List Int} (ho : w.ownsRow B 22 1 v n vals) (hg : w.grownBy w1 v.ownBlock) (ht : tp ≤ w.heap.size) (hz : TagR lo tp w r z) : TagR lo tp w1 r z := by
  refine hz.block (Nat.le_refl _) (Nat.le_refl _) (fun b cur _ h1 hc => hg.block b (Nat.lt_of_lt_of_le h1 ht) (fun e => ?_))
  rcases ho.2 with ⟨rfl, _⟩ | ⟨g, cap, cur', rfl, _, hgg, _⟩
  · simp [Value.ownBlock] at e
  · simp [Value.ownBlock] at e
    subst e
    rw [hgg] at hc
    simp at hc
/-- A list of lists stays where a list of numbers is appended to. -/
theorem OutM.beside {B n : Nat} {w w1 : World} {v v' : Value} {xs : List Value} (h : OutM B w v []) (ho : w.ownsRow B 2 1 v' n xs) (hg : w.grownBy w1 v'.ownBlock) : OutM B w1 v [] := by
  obtain ⟨vals, h1, _⟩ := h
  exact ⟨vals, h1.kept hg (own_apart h1 ho (by decide)), fun i hi => by simp at hi⟩
/-- A number is put into a list in place. -/
theorem TagR.set {lo tp : Nat} {w : World} {b o j : Nat} {z : List Int} (h : TagR lo tp w (some ⟨b, o, none⟩) z) (hj : j < z.length) (x : Int) : TagR lo tp (w.setCell ⟨b, o + j, none⟩ (.int .i64 x)) (some ⟨b, o, none⟩) (z.set j x) := by
  rcases h with h | ⟨b', o', cur, e, h0, h1, hc, hv⟩
  · rw [h] at hj; simp at hj
  · cases e
    refine .inr ⟨b, o, cur.setIfInBounds (o + j) (.int .i64 x), rfl, h0, h1, by simp [World.setCell, Array.getElem?_modify, hc], fun i hi => ?_⟩
    rw [List.length_set] at hi
    by_cases e : i = j
    · subst e
      rw [World.cell?_setCell_same w _ _ (hv i hi)]
      simp [List.getD, hi]
    · rw [World.cell?_setCell_other _ _ _ _ (fun e2 => e (by injection e2 with _ e3; omega)), hv i hi]
      simp only [List.getD_eq_getElem?_getD]
      rw [List.getElem?_set_ne (fun h => e h.symm)]
theorem OutM.start2 (w : World) (B : Nat) (t t' : TypeId) (hB : B ≤ w.heap.size) (ht : t' = 22) : OutM B ((w.alloc (.cells #[] t)).alloc (.cells #[] t')) (.slice (some ⟨w.heap.size + 1, 0, none⟩) 0 0) [] := by
  have h := OutM.start (w.alloc (.cells #[] t)) B t' (by simp; omega) ht
  have e : (w.alloc (.cells #[] t)).heap.size = w.heap.size + 1 := by simp
  rw [e] at h; exact h
theorem OutM.pushW {B n : Nat} {w w2 w1 : World} {o : Obj} {v v' : Value} {m : List (List Int)} {z : List Int} {vals : List Value} {r : Option Addr} {cz cp : Nat} (hl : m.length = n) (hzl : z.length = cz)
    (ho : w.ownsRow B 22 1 v n vals) (hr : ∀ i, i < n → ∃ r c', vals[i]? = some (.slice r (rw' m i).length c') ∧ TagR B w.heap.size w r (rw' m i))
    (hz : TagR w.heap.size w2.heap.size w2 r z) (hB : B ≤ w.heap.size) (h2 : Below w.heap.size w w2) (h1 : w1.ownsRow B 22 1 v' (n + 1) (vals ++ [.slice r cz cp])) (hg : (w2.alloc o).grownBy w1 v.ownBlock) : OutM B w1 v' (m ++ [z]) := by
  subst hl hzl
  have hb : Below w2.heap.size w2 (w2.alloc o) := (Below.refl _ _).alloc (Nat.le_refl _) o
  refine OutM.push (m := m) (w := w2.alloc o) (vals := vals) ((ho.kept (below_grown h2) (by cases hv : v.ownBlock <;> simp)).alloc o) (fun i hi => ?_) (hz.below hb (Nat.le_refl _) hB hb.size) (c := cp) h1 hg
  obtain ⟨r', c', g1, g2⟩ := hr i hi
  exact ⟨r', c', g1, (g2.below h2 (Nat.le_refl _) (Nat.le_refl _) h2.size).below hb (Nat.le_refl _) (Nat.le_refl _) hb.size⟩
end Go.Proofs.Ytkibkkdeaojjoab

namespace Go.Proofs.Ytkibkkdeaojjoab
open Go.RowKit Go.ChangeShapes Go.WideShapes
set_option linter.unusedVariables false

def NewRO (z : List Int) (w : World) (e : Ending) (w' : World) : Prop := ∃ g k, e = .returned (.slice (some ⟨g, 0, none⟩) z.length k) ∧ OutR w.heap.size w' (.slice (some ⟨g, 0, none⟩) z.length k) z ∧ Below w.heap.size w w'
set_option maxHeartbeats 800000 in
theorem l01Own_out (a : Option Addr) (zs : List Int) (ca lo tp : Nat) (w : World) (ha : RowIn lo tp w a zs) (ht : tp ≤ w.heap.size) (h0 : 0 < zs.length) (hs : zs.length ≤ 1048576) :
    Calls Try.prog 84 #[.slice a zs.length ca] w (NewRO zs w) := by
  obtain ⟨i0, hi, hz0, hz1, hz2⟩ := info_parts info64
  rcases ha with h | ⟨b, o, rfl, _, hb, hc⟩
  · rw [h] at h0; simp at h0
  · have hbw : b < w.heap.size := Nat.lt_of_lt_of_le hb ht
    have HN := Lib.hid (news_of hc (.cells #[] 2) hbw)
    clear hc
    go_enter Try.func84, Try.ntmps84
    go_wp2_with (at_builtin; refine wpList_append_lies _ rfl _ _ 22 rfl w.heap.size 2 i0 (.int .i64 0) 1 8 Try.underlying22 hi hz0 hz1 hz2 rfl (by decide) _ 0 [] rfl (World.ownsRow_made w #[] 0 (Nat.le_refl _) (Nat.zero_le _) rfl) ⟨b, o, none⟩ zs.length ca (zs.map (Value.int .i64)) rfl (by simp) HN.out (ones_of zs) h0 (by unfold maxLen; omega) (by omega) (by simp) (w.heap.size + 1) (by simp) ?_; intro gg cap w1 hown1 hgrow hat hlt1)
    rw [Nat.zero_add] at hown1
    have HO : Hid (OutR w.heap.size w1 (.slice (some ⟨gg, 0, none⟩) zs.length cap) zs) := OutR.of hown1 rfl
    have HB : Hid (Below w.heap.size w w1) := ((Below.refl _ _).alloc (Nat.le_refl _) _).grown hgrow (by simp) (fun k hk => by cases hk; exact Nat.le_refl _)
    clear hown1 hgrow
    go_wp2
    go_ret
    exact ⟨_, _, rfl, HO.out, HB.out⟩
def NewRN (n : Nat) (z : List Int) (w : World) (e : Ending) (w' : World) : Prop := ∃ g k, e = .returned (.slice (some ⟨g, 0, none⟩) n k) ∧ w'.ownsRow w.heap.size 2 1 (.slice (some ⟨g, 0, none⟩) n k) n (z.map (Value.int .i64)) ∧ Below w.heap.size w w'
theorem l01Own_n (a : Option Addr) (zs : List Int) (n ca lo tp : Nat) (w : World) (ha : RowIn lo tp w a zs) (ht : tp ≤ w.heap.size) (hn : zs.length = n) (h0 : 0 < n) (hs : n ≤ 1048576) :
    Calls Try.prog 84 #[.slice a n ca] w (NewRN n zs w) := by
  subst hn
  exact (l01Own_out a zs ca lo tp w ha ht h0 hs).mono (fun e w' h => h)
end Go.Proofs.Ytkibkkdeaojjoab

namespace Go.Proofs.Ytkibkkdeaojjoab
open Go.RowKit
set_option linter.unusedVariables false

theorem sq_yes {p : Int} {m : List (List Int)} (h : isM p m = true) (k : m.length = (rw' m 0).length) : sqC p m = 0 := by unfold sqC; rw [if_pos h, if_pos k]
theorem sq_no {p : Int} {m : List (List Int)} (h : isM p m = true) (k : ¬ m.length = (rw' m 0).length) : sqC p m = 2 := by unfold sqC; rw [if_pos h, if_neg k]
theorem sq_not {p : Int} {m : List (List Int)} (h : isM p m = false) : sqC p m = 1 := by unfold sqC; rw [if_neg (by simp [h])]
theorem sq_cases (p : Int) (m : List (List Int)) : (sqC p m = 0 ∧ Lst 1 p m ∧ m.length = (rw' m 0).length) ∨ sqC p m ≠ 0 := by
  by_cases h : isM p m = true
  · by_cases k : m.length = (rw' m 0).length
    · exact .inl ⟨sq_yes h k, isL_iff.1 h, k⟩
    · right; rw [sq_no h k]; simp
  · right; rw [sq_not (by simpa using h)]; simp

def SqRet (p : Int) (m : List (List Int)) (w : World) (e : Ending) (w' : World) : Prop := e = .returned (.int .i64 (sqC p m)) ∧ Quiet w w'
set_option maxRecDepth 100000 in
set_option maxHeartbeats 1600000 in
theorem spec_l02Square (p : Int) (am : Option Addr) (m : List (List Int)) (cm lom tpm : Nat) (w : World) (hm : MatIn lom tpm w am m) (tm : tpm ≤ w.heap.size) (sm : m.length + tot m m.length ≤ 1048576) :
    Calls Try.prog 46 #[.int .i64 p, .slice am m.length cm] w (SqRet p m w) := by
  have Hm := Lib.hid hm
  have Sm := Lib.hid sm
  clear hm sm
  by_cases h1 : isM p m = true
  · by_cases hq : m.length = (rw' m 0).length
    · have I1 := Lib.hid h1
      have hm0 : 0 < m.length := (isL_iff.1 h1).lo
      obtain ⟨b0, o0, r0, k0, ha0, _, hb0, hr0, _⟩ := Hm.out.row (i := 0) (isL_iff.1 h1).lo
      subst ha0
      rw [Nat.add_zero] at hr0
      have hb0' : b0 < w.heap.size := Nat.lt_of_lt_of_le hb0 tm
      have HV := Lib.hid (sq_yes h1 hq)
      have hl0 := (len_of Sm.out).1
      rw [← hq] at hr0
      clear h1 hq
      go_enter Try.func46, Try.ntmps46
      go_wp2_with (first | (go_at_call 62; (with_reducible refine (l02Is_any p _ m _ lom tpm w Hm.out (len_of Sm.out).1 (len_of Sm.out).2).mono ?_); rintro e w1 ⟨rfl, hq⟩; rw [I1.out]; have HQ := Lib.hid hq; clear hq; have hr0' := (HQ.out.cell _).trans hr0; clear hr0))
      go_ret
      exact ⟨by rw [HV.out]; rfl, HQ.out⟩
    · have I1 := Lib.hid h1
      have hm0 : 0 < m.length := (isL_iff.1 h1).lo
      obtain ⟨b0, o0, r0, k0, ha0, _, hb0, hr0, _⟩ := Hm.out.row (i := 0) (isL_iff.1 h1).lo
      subst ha0
      rw [Nat.add_zero] at hr0
      have hb0' : b0 < w.heap.size := Nat.lt_of_lt_of_le hb0 tm
      have HV := Lib.hid (sq_no h1 hq)
      obtain ⟨e1, e2⟩ := neq_spell hq
      have hl0 := (len_of Sm.out).2 0 hm0
      have hl1 := (len_of Sm.out).1
      clear h1 hq
      go_enter Try.func46, Try.ntmps46
      go_wp2_with (first | (go_at_call 62; (with_reducible refine (l02Is_any p _ m _ lom tpm w Hm.out (len_of Sm.out).1 (len_of Sm.out).2).mono ?_); rintro e w1 ⟨rfl, hq⟩; rw [I1.out]; have HQ := Lib.hid hq; clear hq; have hr0' := (HQ.out.cell _).trans hr0; clear hr0))
      go_ret
      exact ⟨by rw [HV.out]; rfl, HQ.out⟩
  · have I1 : Hid (isM p m = false) := by show isM p m = false; simpa using h1
    have HV := Lib.hid (sq_not (by simpa using h1 : isM p m = false))
    clear h1
    go_enter Try.func46, Try.ntmps46
    go_wp2_with (first | (go_at_call 62; (with_reducible refine (l02Is_any p _ m _ lom tpm w Hm.out (len_of Sm.out).1 (len_of Sm.out).2).mono ?_); rintro e w1 ⟨rfl, hq⟩; rw [I1.out]; have HQ := Lib.hid hq; clear hq))
    go_ret
    exact ⟨by rw [HV.out]; rfl, HQ.out⟩

end Go.Proofs.Ytkibkkdeaojjoab

namespace Go.Proofs.Ytkibkkdeaojjoab
set_option linter.unusedVariables false

theorem dt_addall {n l r : Nat} (hl : l < n) (hr : r ≤ n) (f : Nat → Nat → Int) (x : Nat → Int) : dt n (fun i => if i < r ∧ i ≠ l then fun j => f i j + x i * f l j else f i) = dt n f := by
  induction r with
  | zero => exact dt_congr (fun i _ j _ => by rw [if_neg (by omega)])
  | succ r ih =>
    rw [← ih (by omega)]
    by_cases e : r = l
    · apply dt_congr
      intro i _ j _
      by_cases h : i < r ∧ i ≠ l
      · rw [if_pos (by omega)]
        show f i j + x i * f l j = (if i < r ∧ i ≠ l then fun j => f i j + x i * f l j else f i) j
        rw [if_pos h]
      · rw [if_neg (by omega)]
        show f i j = (if i < r ∧ i ≠ l then fun j => f i j + x i * f l j else f i) j
        rw [if_neg h]
    · have h := dt_addrow (k := r) (l := l) (by omega) hl e (fun i => if i < r ∧ i ≠ l then fun j => f i j + x i * f l j else f i) (x r)
      rw [← h]
      apply dt_congr
      intro i _ j _
      unfold upd
      by_cases e' : i = r
      · subst e'; rw [if_pos (by omega), if_pos rfl, if_neg (by omega), if_neg (by omega)]
      · rw [if_neg e']
        by_cases h' : i < r ∧ i ≠ l
        · rw [if_pos (by omega)]
          show f i j + x i * f l j = (if i < r ∧ i ≠ l then fun j => f i j + x i * f l j else f i) j
          rw [if_pos h']
        · rw [if_neg (by omega)]
          show f i j = (if i < r ∧ i ≠ l then fun j => f i j + x i * f l j else f i) j
          rw [if_neg h']

/-- Where the model's determinant stands: k columns are done. -/
structure DetAt (p : Int) (n : Nat) (A m : List (List Int)) (k : Nat) (out : Int) : Prop where
  ml : m.length = n
  kn : k ≤ n
  len : ∀ i, i < n → (rw' m i).length = n
  rng : ∀ i, i < n → ∀ j, j < n → 0 ≤ at' m i j ∧ at' m i j < p
  ob : 0 ≤ out ∧ out < p
  val : detP p A = out * dt (n - k) (fun r c => at' m (k + r) (k + c)) % p
theorem DetAt.start {p : Int} {A : List (List Int)} (hp : prm p = true) (hl : ∀ i, i < A.length → (rw' A i).length = A.length) (hr : ∀ i, i < A.length → ∀ j, j < A.length → 0 ≤ at' A i j ∧ at' A i j < p) : DetAt p A.length A A 0 1 where
  ml := rfl
  kn := Nat.zero_le _
  len := hl
  rng := hr
  ob := by have := prm_bd hp; omega
  val := by
    rw [Int.one_mul]
    unfold detP
    congr 1
    exact dt_congr (fun i _ j _ => by rw [Nat.zero_add, Nat.zero_add])
theorem DetAt.done {p : Int} {n : Nat} {A m : List (List Int)} {out : Int} (h : DetAt p n A m n out) : detP p A = out := by
  rw [h.val, Nat.sub_self]
  show out * 1 % p = out
  rw [Int.mul_one]
  exact Int.emod_eq_of_lt h.ob.1 h.ob.2
theorem DetAt.none {p : Int} {n : Nat} {A m : List (List Int)} {k : Nat} {out : Int} (h : DetAt p n A m k out) (hk : k < n) (hz : ∀ i, k ≤ i → i < n → at' m i k = 0) : detP p A = 0 := by
  obtain ⟨q, hq⟩ : ∃ q, n - k = q + 1 := ⟨n - k - 1, by omega⟩
  rw [h.val, hq, dt_col0 (fun i hi => hz (k + i) (by omega) (by omega)), Int.mul_zero]
  rfl
def swapL (m : List (List Int)) (k f : Nat) : List (List Int) := (m.set f (rw' m k)).set k (rw' m f)
theorem swapL_len (m : List (List Int)) (k f : Nat) : (swapL m k f).length = m.length := by simp [swapL]
theorem swapL_row {m : List (List Int)} {k f : Nat} (hk : k < m.length) (hf : f < m.length) (i : Nat) : rw' (swapL m k f) i = if i = k then rw' m f else if i = f then rw' m k else rw' m i := by
  unfold swapL
  rw [rw_set _ (by simpa using hk), rw_set _ hf]
theorem DetAt.swap {p : Int} {n : Nat} {A m : List (List Int)} {k f : Nat} {out : Int} (hp : prm p = true) (h : DetAt p n A m k out) (hk : k < f) (hf : f < n) : DetAt p n A (swapL m k f) k (-out % p) := by
  have hn := h.ml
  have hat : ∀ i, at' (swapL m k f) i = if i = k then at' m f else if i = f then at' m k else at' m i := fun i => by
    funext j
    unfold at'
    rw [swapL_row (by omega) (by omega)]
    by_cases e : i = k
    · rw [if_pos e, if_pos e]
    · rw [if_neg e, if_neg e]
      by_cases e' : i = f
      · rw [if_pos e', if_pos e']
      · rw [if_neg e', if_neg e']
  refine ⟨by rw [swapL_len, hn], h.kn, fun i hi => ?_, fun i hi j hj => ?_, mod_bd hp _, ?_⟩
  · rw [swapL_row (by omega) (by omega)]
    split
    · exact h.len f hf
    · split
      · exact h.len k (by omega)
      · exact h.len i hi
  · rw [hat]
    split
    · exact h.rng f hf j hj
    · split
      · exact h.rng k (by omega) j hj
      · exact h.rng i hi j hj
  · have e := dt_swap (n := n - k) (k := 0) (l := f - k) (by omega) (by omega) (fun r c => at' m (k + r) (k + c))
    have e2 : dt (n - k) (fun r c => at' (swapL m k f) (k + r) (k + c)) = - dt (n - k) (fun r c => at' m (k + r) (k + c)) := by
      rw [← e]
      apply dt_congr
      intro i hi j hj
      rw [hat]
      unfold upd
      by_cases e0 : i = 0
      · subst e0
        rw [if_pos (by omega), if_neg (by omega), if_pos rfl]
        have : k + (f - k) = f := by omega
        rw [this]
      · rw [if_neg (by omega)]
        by_cases e1 : i = f - k
        · rw [if_pos (by omega), if_pos e1]; rfl
        · rw [if_neg (by omega), if_neg e1, if_neg e0]
    rw [h.val, e2, emod_mul, Int.neg_mul_neg]
theorem elim_zero {p a v x : Int} (h : v * x % p = 1 % p) : (a + (p - a) * v % p * x) % p = 0 := by
  have e : (p - a) * v % p * x % p = (p - a) % p := by
    rw [emod_mul, Int.mul_assoc, ← mul_emod_r, h, mul_emod_r, Int.mul_one]
  rw [Int.add_emod, e, ← Int.add_emod]
  have : a + (p - a) = p := by omega
  rw [this, Int.emod_self]
theorem DetAt.step {p : Int} {n : Nat} {A m m2 : List (List Int)} {k : Nat} {out : Int} (hp : prm p = true) (h : DetAt p n A m k out) (hk : k < n) (hx : 1 ≤ at' m k k) (hn2 : m2.length = n) (hl2 : ∀ i, i < n → (rw' m2 i).length = n)
    (h2 : ∀ i, i < n → ∀ j, j < n → at' m2 i j = if k < i then (at' m i j + (p - at' m i k) * inv p (at' m k k) % p * at' m k j) % p else at' m i j) : DetAt p n A m2 (k + 1) (out * at' m k k % p) := by
  have hxr := h.rng k hk k hk
  have hinv := inv_mul hp hx hxr.2
  have hpb := prm_bd hp
  obtain ⟨q, hq⟩ : ∃ q, n - k = q + 1 := ⟨n - k - 1, by omega⟩
  have hq1 : n - (k + 1) = q := by omega
  refine ⟨hn2, hk, hl2, fun i hi j hj => ?_, mod_bd hp _, ?_⟩
  · rw [h2 i hi j hj]
    split
    · exact mod_bd hp _
    · exact h.rng i hi j hj
  · rw [h.val, hq, hq1]
    have e1 := dt_addall (n := q + 1) (l := 0) (r := q + 1) (by omega) (Nat.le_refl _) (fun r c => at' m (k + r) (k + c)) (fun r => (p - at' m (k + r) k) * inv p (at' m k k) % p)
    have e2 : dt (q + 1) (fun r c => at' m (k + r) (k + c)) % p = dt (q + 1) (fun r c => at' m2 (k + r) (k + c)) % p := by
      rw [← e1]
      apply dt_mod
      intro i hi j hj
      rw [h2 (k + i) (by omega) (k + j) (by omega)]
      by_cases e : i = 0
      · subst e
        rw [if_neg (by omega), if_neg (by omega)]
      · rw [if_pos (by omega), if_pos (by omega), Int.emod_emod, Nat.add_zero]
    have e3 : dt (q + 1) (fun r c => at' m2 (k + r) (k + c)) = at' m k k * dt q (fun r c => at' m2 (k + 1 + r) (k + 1 + c)) := by
      rw [dt_col (fun i h1 hi => by
        show at' m2 (k + i) (k + 0) = 0
        rw [h2 _ (by omega) _ (by omega), if_pos (by omega)]
        exact elim_zero (by rw [Nat.add_zero, Int.mul_comm, hinv, Int.emod_eq_of_lt (by omega) (by omega)]))]
      have e4 : at' m2 (k + 0) (k + 0) = at' m k k := by rw [h2 _ (by omega) _ (by omega), if_neg (by omega)]; rfl
      rw [e4]
      congr 1
      apply dt_congr
      intro i _ j _
      have a1 : k + (i + 1) = k + 1 + i := by omega
      have a2 : k + (j + 1) = k + 1 + j := by omega
      show at' m2 (k + (i + 1)) (k + (j + 1)) = _
      rw [a1, a2]
    rw [Int.mul_emod, e2, ← Int.mul_emod, e3, emod_mul, Int.mul_assoc]

/-- The rows below row k, up to i, are reduced. -/
def rowD (p : Int) (m : List (List Int)) (k i j : Nat) : List Int := if k < j ∧ j < i then plusR p (rw' m j) (rw' m k) ((p - at' m j k) * inv p (at' m k k) % p) else rw' m j
def rowsD (p : Int) (m : List (List Int)) (k i : Nat) : List (List Int) := (List.range m.length).map (rowD p m k i)
theorem rowsD_len (p : Int) (m : List (List Int)) (k i : Nat) : (rowsD p m k i).length = m.length := by simp [rowsD]
theorem rowsD_row {p : Int} {m : List (List Int)} {k i j : Nat} (h : j < m.length) : rw' (rowsD p m k i) j = rowD p m k i j := by simp [rowsD, rw', List.getD, h]
theorem rowsD_start (p : Int) (m : List (List Int)) (k : Nat) : rowsD p m k (k + 1) = m := by
  refine mat_ext (rowsD_len _ _ _ _) (fun j hj => ?_)
  rw [rowsD_len] at hj
  rw [rowsD_row hj]; unfold rowD; rw [if_neg (by omega)]
theorem rowsD_next {p : Int} {m : List (List Int)} {k i : Nat} (hi : i < m.length) (hk : k < i) : (rowsD p m k i).set i (plusR p (rw' m i) (rw' m k) ((p - at' m i k) * inv p (at' m k k) % p)) = rowsD p m k (i + 1) := by
  refine mat_ext (by simp [rowsD_len]) (fun j hj => ?_)
  simp only [List.length_set, rowsD_len] at hj
  rw [rw_set _ (by rw [rowsD_len]; exact hi), rowsD_row hj, rowsD_row hj]
  unfold rowD
  by_cases e : j = i
  · subst e; rw [if_pos rfl, if_pos (by omega)]
  · rw [if_neg e]
    by_cases h : k < j ∧ j < i
    · rw [if_pos h, if_pos (by omega)]
    · rw [if_neg h, if_neg (by omega)]
theorem DetAt.rows {p : Int} {n : Nat} {A m : List (List Int)} {k : Nat} {out : Int} (hp : prm p = true) (h : DetAt p n A m k out) (hk : k < n) (hx : 1 ≤ at' m k k) : DetAt p n A (rowsD p m k n) (k + 1) (out * at' m k k % p) := by
  have hn := h.ml
  have hrow : ∀ i, i < n → rw' (rowsD p m k n) i = rowD p m k n i := fun i hi => rowsD_row (by omega)
  refine h.step hp hk hx (by rw [rowsD_len, hn]) (fun i hi => ?_) (fun i hi j hj => ?_)
  · rw [hrow i hi]
    unfold rowD
    split
    · unfold plusR; rw [mkR_len]; exact h.len i hi
    · exact h.len i hi
  · show (rw' (rowsD p m k n) i).getD j 0 = _
    rw [hrow i hi]
    unfold rowD
    by_cases e : k < i
    · rw [if_pos ⟨e, hi⟩, if_pos e]
      unfold plusR
      rw [mkR_at _ (by rw [h.len i hi]; exact hj)]
      rfl
    · rw [if_neg (by omega), if_neg e]; rfl

end Go.Proofs.Ytkibkkdeaojjoab
