/-
  Draws of spaces, and of what is none: contracts.
  Conditions: the source stands in a block of known cells.
  What the laws' draws are: a number in its range.
  Conditions: the source is one, of at most 4096 bytes.
  The dice of the laws, made of a code.
  Conditions: the code is a row of at most 4096 known bytes.
  The draw of a space and two lists: contract.
  Conditions: the code is nil or a row of known bytes, of at most 4096.
  What the program's operations on numbers return: contracts of remainderOf, plus, minus, times.
  Conditions: the prime is one, and the numbers are remainders by it.
  Bounds of whole numbers of 64 bits, and what the model's remainder is.
  Conditions: the prime is one.
  What the model draws for pairs of numbers, and the law's own remainder.
  Conditions: the code is a row of at most 4096 known bytes; the prime of a remainder is one.
  What the model's sums, multiples, copies, turned matrices and unit matrices are: contracts.
  Conditions: the lists and matrices are rows of known cells with numbers of the prime; their sizes fit.
  Helpers of the laws with draws: contracts.
  Conditions: lists are nil or rows of known cells.
-/
import Derived.Test.YtgfohjfemkmldaaQd8
import Derived.Test.YtgfohjfemkmldaaRows
import Derived.Test.YtgfohjfemkmldaaQd1
import Derived.LoopTactic
import Derived.Lib.Hide
import Derived.BigQuiet
import Derived.Deep.QuietTactic
import Derived.Laws.Bits64
import Derived.Laws.BitsAllLaws
import Derived.Test.YtgfohjfemkmldaaQd2
import Derived.Outline
import Derived.Test.YtgfohjfemkmldaaQd5
import Derived.Deep.RegionHeld3
import Derived.Deep.AppendLies
import Derived.Test.YtgfohjfemkmldaaQd4
namespace Go.Proofs.Ytgfohjfemkmldaa
open Go.RowKit
set_option linter.unusedVariables false

theorem OutR.rowIn {B : Nat} {w : World} {r : Option Addr} {n c : Nat} {zs : List Int} (h : OutR B w (.slice r n c) zs) : RowIn B w.heap.size w r zs := by
  obtain ⟨a, d, e, ht⟩ := h.tag
  injection e with e1 e2 e3
  subst e1
  exact ht.row
theorem RowIn.far {lo tp k i : Nat} {w : World} {r : Option Addr} {zs : List Int} (h : RowIn lo tp w r zs) (x : Value) (hk : k < lo ∨ tp ≤ k) : RowIn lo tp (w.setCell ⟨k, i, none⟩ x) r zs :=
  h.same (fun j j0 j1 => Below.heap_setCell _ _ _ _ (by show j ≠ k; omega))
theorem RowIn.only {lo tp k : Nat} {w w' : World} {r : Option Addr} {zs : List Int} (h : RowIn lo tp w r zs) (ho : Only k w w') (hk : k < lo ∨ tp ≤ k) (ht : tp ≤ w.heap.size) : RowIn lo tp w' r zs :=
  h.same (fun j j0 j1 => ho.block j (Nat.lt_of_lt_of_le j1 ht) (by omega))
theorem OutR.put' {B k i : Nat} {w : World} {v : Value} {zs : List Int} (h : OutR B w v zs) (x : Value) (hne : ∀ q, v.ownBlock = some q → q ≠ k) : OutR B (w.setCell ⟨k, i, none⟩ x) v zs :=
  World.ownsRow.kept h (row := some k) ⟨(Only.set k i w x).os, (Only.set k i w x).tape, (Only.set k i w x).output, (Only.set k i w x).size, fun j hj hn => (Only.set k i w x).block j hj (fun e => hn (by rw [e]))⟩ (by
    cases hv : v.ownBlock with
    | none => exact .inl rfl
    | some q => exact .inr (fun e => hne q hv (by injection e)))
theorem ownR_same {lo hi : Nat} {w w' : World} {a : Option Addr} {zs : List Int} (h : OwnR lo hi w a zs) (k : ∀ i, lo ≤ i → i < hi → w'.heap[i]? = w.heap[i]?) : OwnR lo hi w' a zs := by
  rcases h with h | ⟨b, o, ha, h0, h1, hc⟩
  · exact .inl h
  · exact .inr ⟨b, o, ha, h0, h1, fun j hj => ⟨(World.cell?_of_block (w := w) (a := ⟨b, o + j, none⟩) (k b h0 h1)).trans (hc j hj).1, (World.frozen?_of_block (w := w) (a := ⟨b, o + j, none⟩) (k b h0 h1)).trans (hc j hj).2⟩⟩
theorem ownR_below {B lo hi : Nat} {w w' : World} {a : Option Addr} {zs : List Int} (h : OwnR lo hi w a zs) (k : Below B w w') (hB : hi ≤ B) : OwnR lo hi w' a zs := ownR_same h fun i _ h1 => k.block i (Nat.lt_of_lt_of_le h1 hB)
theorem ownR_only {lo hi k : Nat} {w w' : World} {a : Option Addr} {zs : List Int} (h : OwnR lo hi w a zs) (ho : Only k w w') (hk : k < lo ∨ hi ≤ k) (ht : hi ≤ w.heap.size) : OwnR lo hi w' a zs := ownR_same h fun i i0 i1 => ho.block i (Nat.lt_of_lt_of_le i1 ht) (by omega)
theorem l2_app {w w' : World} {o : Obj} {g : Nat} {u v : Value} {x : Value} (h : L2 w g u v) (hg : (w.alloc o).grownBy w' x.ownBlock) (l : g < w.heap.size) (hx : ∀ q, x.ownBlock = some q → q ≠ g) : L2 w' g u v := by
  have h2 := h.alloc o l
  have l2 := Nat.lt_of_lt_of_le l (size_alloc w o)
  cases hv : x.ownBlock with
  | none => rw [hv] at hg; exact h2.below ⟨hg.os, hg.tape, hg.output, hg.size, fun k hk => hg.block k hk (by simp)⟩ l2
  | some q => rw [hv] at hg; exact h2.only (k := q) ⟨hg.os, hg.tape, hg.output, hg.size, fun k hk hne => hg.block k hk (by simp; exact fun e => hne e)⟩ l2 (Ne.symm (hx q hv))
theorem new_block {w : World} {x : Value} {g gg n cap : Nat} (hx : ∀ q, x.ownBlock = some q → q ≠ g) (h : x.ownBlock = some gg ∨ gg = w.heap.size + 1) (l : g < w.heap.size) : ∀ q, (Value.slice (some ⟨gg, 0, none⟩) n cap).ownBlock = some q → q ≠ g := fun q e => by
  injection e with e
  subst e
  show gg ≠ g
  rcases h with h | h
  · exact hx gg h
  · omega
theorem five_in {y : Int} (h : y ∈ [2, 3, 3, 4, 6]) : 1 ≤ y ∧ y ≤ 6 := by
  simp at h; omega

set_option maxRecDepth 100000 in
set_option maxHeartbeats 3200000 in
theorem draw_any (b : Nat) (a : Option Addr) (len cap : Nat) (zs : List Int) (w : World) (hs : Src w b a len cap zs) :
    Calls Try.prog 62 #[.pointer (some ⟨b, 0, none⟩)] w (DrawnS (fun X => 1 ≤ X.length ∧ X.length ≤ 6) b a len cap zs w) := by
  have hlt := hs.lt
  have HS := Lib.hid hs
  clear hs
  go_enter Try.func62, Try.ntmps62
  go_upto_region 1 with fail
  obtain ⟨wa, hwa⟩ : ∃ z, z = w.alloc (.cells #[.int .i64 0, .slice none 0 0] 26) := ⟨_, rfl⟩
  have HR1 : Hid (L2 wa w.heap.size (.int .i64 0) (.slice none 0 0)) := by show L2 _ _ _ _; rw [hwa]; exact L2.new _ _ _ _
  have HS1 : Hid (Src wa b a len cap zs) := by show Src _ _ _ _ _ _; rw [hwa]; exact HS.out.alloc _
  have HON1 : Hid (Only b w wa) := by show Only _ _ _; rw [hwa]; exact (Only.refl b w).alloc _
  have hRa : w.heap.size < wa.heap.size := by rw [hwa]; simp
  rw [← hwa]
  clear hwa
  go_wp2_with (first
    | (go_at_call 63; refine (pick_in wa.heap.size 5 [2, 3, 3, 4, 6] b a len cap zs _ (HS1.out.alloc _) (rowOf wa [2, 3, 3, 4, 6] _) rfl (by omega) (by omega) (by simp) (by omega)).mono ?_; rintro e w2 ⟨y, rfl, hy, on2, s2⟩; have hyy := five_in hy; have HS2 := Lib.hid s2; have HON2 := Lib.hid ((HON1.out.alloc _).trans on2); have hRb := Nat.lt_of_lt_of_le hRa (size_alloc wa (.cells (List.map (Value.int .i64) [2, 3, 3, 4, 6]).toArray 2)); have HR2 := Lib.hid ((HR1.out.alloc _ hRa).only on2 hRb (Nat.ne_of_gt hlt)); have hR2 := Nat.lt_of_lt_of_le hRb on2.size; clear on2 s2 hy)
    | (go_at_call 77; (with_reducible refine (any_any y b a len cap zs _ HS2.out hyy.1 hyy.2).mono ?_); rintro e w3 ⟨p, r, X, c, rfl, hX, o3, on3, s3⟩; have HX := Lib.hid hX; have HS3 := Lib.hid s3; have HON3 := Lib.hid (HON2.out.trans on3); have HR3 := Lib.hid (HR2.out.only on3 hR2 (Nat.ne_of_gt hlt)); have HO3 := Lib.hid o3; have r0 := HR3.out.1; have r1 := HR3.out.2.1; have r2 := HR3.out.2.2.1; have r3 := HR3.out.2.2.2; clear on3 s3 hX o3))
  refine bodyPost_ret (v := .agg #[.int .i64 p, .slice r X.length c]) (by simp [results, Try.results62, go_sem, r0, r1]) rfl ⟨p, r, X, c, rfl, HX.out, ((HO3.out.put _ hR2).put _ hR2).base (Nat.le_of_lt hR2), (HON3.out.setCell (.inr (Nat.le_refl _)) _).setCell (.inr (Nat.le_refl _)) _, (HS3.out.far (Only.set _ _ _ _) hlt).far (Only.set _ _ _ _) hlt⟩

end Go.Proofs.Ytgfohjfemkmldaa

namespace Go.Proofs.Ytgfohjfemkmldaa
open Go.RowKit
set_option linter.unusedVariables false

theorem Code8.below {w w' : World} {a : Option Addr} {len : Nat} {zs : List Int} (h : Code8 w a len zs) (k : Below w.heap.size w w') : Code8 w' a len zs := by
  rcases h with h | ⟨xb, xo, ha, hb, hs, hc⟩
  · exact .inl h
  · have := k.size
    exact .inr ⟨xb, xo, ha, by omega, by omega, fun i hi => ⟨(hc i hi).1, (k.cell (p := ⟨xb, xo + i, none⟩) hs).trans (hc i hi).2⟩⟩

end Go.Proofs.Ytgfohjfemkmldaa

namespace Go.Proofs.Ytgfohjfemkmldaa
open Go.RowKit
set_option linter.unusedVariables false

theorem tmod_neg {n p : Int} (hn : n < 0) (hp : 0 < p) : n.tmod p = -((-n) % p) := by
  have h : n = -(-n) := by omega
  rw [h, Int.neg_tmod, Int.tmod_eq_emod_of_nonneg (by omega)]
  simp
theorem tmod_facts {n p : Int} (hn : n < 0) (hp : 0 < p) : -p < n.tmod p ∧ n.tmod p ≤ 0 ∧ (n.tmod p < 0 → n.tmod p + p = n % p) ∧ (n.tmod p = 0 → n % p = 0) := by
  rw [tmod_neg hn hp]
  have h1 := Int.emod_nonneg (-n) (by omega : p ≠ 0)
  have h2 := Int.emod_lt_of_pos (-n) hp
  have h3 := Int.emod_nonneg n (by omega : p ≠ 0)
  have h4 := Int.emod_lt_of_pos n hp
  have h5 := Int.mul_ediv_add_emod (-n) p
  have h6 := Int.mul_ediv_add_emod n p
  have key : ∀ q : Int, (0 < (-n) % p + n % p - 0 → True) := fun _ _ => trivial
  have h7 : ((-n) % p + n % p) % p = 0 := by rw [← Int.add_emod, Int.add_left_neg]; simp
  refine ⟨by omega, by omega, fun h => ?_, fun h => ?_⟩
  · have h8 : (-n) % p + n % p = p := by
      by_cases hlt : (-n) % p + n % p < p
      · rw [Int.emod_eq_of_lt (by omega) hlt] at h7; omega
      · have h9 : ((-n) % p + n % p - p) % p = 0 := by rw [Int.sub_emod, h7]; simp
        rw [Int.emod_eq_of_lt (by omega) (by omega)] at h9; omega
    omega
  · have h8 : (-n) % p = 0 := by omega
    rw [h8, Int.zero_add, Int.emod_eq_of_lt h3 h4] at h7
    exact h7

set_option maxHeartbeats 400000 in
theorem remainderOf_any (p n : Int) (w : World) (hp : prm p = true) (n0 : -9223372036854775808 ≤ n) (n1 : n ≤ 9223372036854775807) :
    Calls Try.prog 74 #[.int .i64 p, .int .i64 n] w fun e w' => e = .returned (.agg #[.int .i64 p, .int .i64 (n % p)]) ∧ Below w.heap.size w w' := by
  have hb := prm_bd hp
  have hm := mod_bd hp n
  clear hp
  by_cases hn : 0 ≤ n
  · go_enter Try.func74, Try.ntmps74
    go_wp2
    exact bodyPost_ret (v := .agg #[.int .i64 p, .int .i64 (n % p)]) (by simp [results, Try.results74, go_sem]) rfl ⟨rfl, (Below.refl _ _).alloc (Nat.le_refl _) _⟩
  · obtain ⟨t1, t2, t3, t4⟩ := tmod_facts (n := n) (p := p) (by omega) (by omega)
    by_cases ht : n.tmod p < 0
    · have H := Lib.hid (t3 ht)
      clear t3 t4
      go_enter Try.func74, Try.ntmps74
      go_wp2
      rw [H.out]
      exact bodyPost_ret (v := .agg #[.int .i64 p, .int .i64 (n % p)]) (by simp [results, Try.results74, go_sem]) rfl ⟨rfl, (Below.refl _ _).alloc (Nat.le_refl _) _⟩
    · have H0 : Hid (n.tmod p = n % p) := by show n.tmod p = n % p; have : n.tmod p = 0 := by omega
                                             rw [t4 this, this]
      clear t3 t4
      go_enter Try.func74, Try.ntmps74
      go_wp2
      rw [H0.out]
      exact bodyPost_ret (v := .agg #[.int .i64 p, .int .i64 (n % p)]) (by simp [results, Try.results74, go_sem]) rfl ⟨rfl, (Below.refl _ _).alloc (Nat.le_refl _) _⟩

set_option maxHeartbeats 400000 in
theorem times_any (p a b : Int) (w : World) (hp : prm p = true) (a0 : 0 ≤ a) (a1 : a < p) (b0 : 0 ≤ b) (b1 : b < p) :
    Calls Try.prog 56 #[.agg #[.int .i64 p, .int .i64 a], .agg #[.int .i64 p, .int .i64 b]] w fun e w' => e = .returned (.agg #[.int .i64 p, .int .i64 (a * b % p)]) ∧ Below w.heap.size w w' := by
  have hb := prm_bd hp
  obtain ⟨m0, m1⟩ := mul_bd hp a0 a1 b0 b1
  have HP := Lib.hid hp
  clear hp
  go_enter Try.func56, Try.ntmps56
  go_wp2_with (go_at_call 74; refine (remainderOf_any _ _ _ HP.out (by omega) (by omega)).mono ?_; rintro e w1 ⟨rfl, hb1⟩; obtain ⟨hc, hf⟩ := bcell hb1)
  refine bodyPost_ret (v := .agg #[.int .i64 p, .int .i64 (a * b % p)]) (by simp [results, Try.results56, go_sem, hc]) rfl ⟨rfl, ?_⟩
  (have hs_hb1 := hb1.size; (repeat' (first | with_reducible exact Below.refl _ _ | (with_reducible refine Below.setCell ?_ ?_ _) | (with_reducible refine Below.alloc ?_ ?_ _) | (with_reducible refine Below.drew ?_) | (with_reducible refine below_step ?_ ?_ hb1))); all_goals (first | (simp; done) | omega | (simp; omega) | (simp at hs_hb1 ⊢; omega)))

end Go.Proofs.Ytgfohjfemkmldaa

namespace Go.Proofs.Ytgfohjfemkmldaa
open Go.RowKit
set_option linter.unusedVariables false

theorem mod_twice {n p : Int} (hn : 0 ≤ n) (hp : 0 < p) : (n % p + p) % p = n % p := by
  rw [Int.add_emod_right, Int.emod_emod]
theorem mod_twice_neg {n p : Int} (hn : n < 0) (hp : 0 < p) : (n.tmod p + p) % p = n % p := by
  obtain ⟨t1, t2, t3, t4⟩ := tmod_facts hn hp
  by_cases h : n.tmod p < 0
  · rw [t3 h, Int.emod_emod]
  · have : n.tmod p = 0 := by omega
    rw [this, t4 this]; simp

end Go.Proofs.Ytgfohjfemkmldaa

namespace Go.Proofs.Ytgfohjfemkmldaa
open Go.RowKit
set_option linter.unusedVariables false

theorem mod5_any (p n : Int) (w : World) (hp : prm p = true) (n0 : -9223372036854775808 ≤ n) (n1 : n ≤ 9223372036854775807) :
    Calls Try.prog 15 #[.int .i64 p, .int .i64 n] w fun e w' => e = .returned (.int .i64 (n % p)) ∧ w = w' := by
  have hb := prm_bd hp
  obtain ⟨hm0, hm1⟩ := mod_bd hp n
  clear hp
  by_cases hn : 0 ≤ n
  · have H := Lib.hid (mod_twice (n := n) (p := p) hn (by omega))
    go_enter Try.func15, Try.ntmps15
    go_wp2
    go_ret
    exact ⟨by first | rfl | (show Ending.returned (.int .i64 ((n % p + p) % p)) = _; rw [H.out]), rfl⟩
  · obtain ⟨t1, t2, _, _⟩ := tmod_facts (n := n) (p := p) (by omega) (by omega)
    have H := mod_twice_neg (n := n) (p := p) (by omega) (by omega)
    rw [Int.add_emod_right] at H
    have H1 := Lib.hid H
    clear H
    go_enter Try.func15, Try.ntmps15
    go_wp2
    go_ret
    exact ⟨by show Ending.returned (.int .i64 (n.tmod p % p)) = _; rw [H1.out], rfl⟩


theorem big_yes (a : Option Addr) (len cap : Nat) (w : World) (h : 4096 < len) (hm : len ≤ 9223372036854775807) :
    Calls Try.prog 4 #[.slice a len cap] w fun e w' => e = .returned (.bool true) ∧ w = w' := by
  have hd : decide ((4096 : Int) < (len : Int)) = true := by simp; omega
  go_enter Try.func4, Try.ntmps4
  go_wp2
  go_ret
  exact ⟨rfl, rfl⟩
theorem big_no (a : Option Addr) (len cap : Nat) (w : World) (h : len ≤ 4096) :
    Calls Try.prog 4 #[.slice a len cap] w fun e w' => e = .returned (.bool false) ∧ w = w' := by
  have hd : decide ((4096 : Int) < (len : Int)) = false := by simp; omega
  go_enter Try.func4, Try.ntmps4
  go_wp2
  go_ret
  exact ⟨rfl, rfl⟩

end Go.Proofs.Ytgfohjfemkmldaa

namespace Go.Proofs.Ytgfohjfemkmldaa
open Go.RowKit
set_option linter.unusedVariables false

def sclR (p : Int) (a : List Int) (k : Int) : List Int := mkR a.length fun j => a.getD j 0 * k % p

end Go.Proofs.Ytgfohjfemkmldaa

namespace Go.Proofs.Ytgfohjfemkmldaa
open Go.RowKit
set_option linter.unusedVariables false

set_option maxHeartbeats 800000 in
theorem likeInts_same (a c : Option Addr) (zs : List Int) (k1 k2 lo hi lo' hi' : Nat) (w : World) (hb : RowIn lo hi w a zs) (hc : RowIn lo' hi' w c zs) (hl : zs.length ≤ 1048576) :
    Calls Try.prog 8 #[.slice a zs.length k1, .slice c zs.length k2] w fun e w' => e = .returned (.bool true) ∧ Quiet w w' := by
  have HB := Lib.hid hb
  have HC := Lib.hid hc
  clear hb hc
  go_enter Try.func8, Try.ntmps8
  go_wp2
  go_loopw [5] (fun t wr => ∃ i : Nat, i ≤ zs.length ∧ t = .int .i64 i ∧ (∃ n, wr = w.drewN n)) (fun t _ => zs.length - (intOf t).toNat)
  case atStart => exact ⟨0, Nat.zero_le _, rfl, 0, rfl⟩
  case round =>
    obtain ⟨i, hi, rfl, n, rfl⟩ := hrel
    by_cases hlt : i < zs.length
    · obtain ⟨b1, o1, ha1, _, _, hb1⟩ := HB.out.num hlt
      obtain ⟨b2, o2, ha2, _, _, hb2⟩ := HC.out.num hlt
      subst ha1
      subst ha2
      obtain ⟨x, hx⟩ : ∃ x, x = zs.getD i 0 := ⟨_, rfl⟩
      rw [← hx] at hb1 hb2
      clear hx
      go_wp2
      go_quiet (fail)
      go_wp2
      go_roundw
      case rel => exact ⟨i + 1, by omega, by go_num, _, rfl⟩
      case measure => simp [intOf]; omega
    · go_wp2
      go_ret
      exact ⟨rfl, n, rfl⟩

theorem nums_push {p x : Int} {X : List Int} (h : ∀ j, j < X.length → 0 ≤ X.getD j 0 ∧ X.getD j 0 < p) (hx : 0 ≤ x ∧ x < p) : ∀ j, j < (X ++ [x]).length → 0 ≤ (X ++ [x]).getD j 0 ∧ (X ++ [x]).getD j 0 < p := fun j hj => by
  rw [List.length_append] at hj
  have hj' : j < X.length + 1 := hj
  by_cases e : j < X.length
  · have : (X ++ [x]).getD j 0 = X.getD j 0 := by simp [List.getD, List.getElem?_append_left e]
    rw [this]; exact h j e
  · have e2 : j = X.length := by omega
    have : (X ++ [x]).getD j 0 = x := by subst e2; simp [List.getD]
    rw [this]; exact hx

/-- What the frame knows of a slice of bytes. -/
theorem code8_from {w : World} {a : Option Addr} {len cap : Nat} {zs : List Int}
    (h : (a = none ∧ len = 0 ∧ cap = 0 ∧ zs = []) ∨ ∃ x, a = some x ∧ len ≤ cap ∧ cap ≤ maxLen ∧ zs.length = cap ∧ (∀ i, i < zs.length → w.cell? (x.add i) = some (.int .u8 (zs.getD i 0))) ∧ ∀ n ∈ zs, (Lit.int .u8 n).wf = true) :
    Code8 w a len zs ∧ len ≤ 9223372036854775807 := by
  rcases h with ⟨rfl, rfl, rfl, rfl⟩ | ⟨x, rfl, h1, h2, h3, h4, h5⟩
  · exact ⟨.inl rfl, by omega⟩
  · unfold maxLen at h2
    refine ⟨?_, by omega⟩
    by_cases h0 : len = 0
    · exact .inl h0
    · obtain ⟨xb, off, rfl, hc⟩ := ints_at h4 (by omega)
      have hlt : xb < w.heap.size := World.block_lt_of_cell? w ⟨xb, off + 0, none⟩ (hc 0 (by omega))
      refine .inr ⟨xb, off, rfl, hlt, hlt, fun i hi => ⟨?_, hc i (by omega)⟩⟩
      have hm : zs.getD i 0 ∈ zs := by rw [getD_at (by omega : i < zs.length)]; exact List.getElem_mem _
      have hw := h5 _ hm
      generalize zs.getD i 0 = n at hw
      simp [Lit.wf, IntKind.min, IntKind.max, IntKind.signed, IntKind.bits] at hw
      omega

end Go.Proofs.Ytgfohjfemkmldaa
