/-
  Draws of lists and vectors: contracts.
  Conditions: the source stands in a block of known cells.
-/
import Derived.Test.YtcamegdjdjacpaaFrom
import Derived.Test.YtcamegdjdjacpaaApp
import Derived.Test.YtcamegdjdjacpaaInp
import Derived.Test.YtcamegdjdjacpaaSpc
namespace Go.Proofs.Ytcamegdjdjacpaa
open Go.RowKit
set_option linter.unusedVariables false

theorem Src.lt {w : World} {b : Nat} {a : Option Addr} {len cap : Nat} {zs : List Int} (h : Src w b a len cap zs) : b < w.heap.size := by
  obtain ⟨k, x, s⟩ := h
  exact s.lt
/-- Changes at a later block leave the source as it is. -/
theorem Src.far {w w' : World} {b k : Nat} {a : Option Addr} {len cap : Nat} {zs : List Int} (h : Src w b a len cap zs) (ho : Only k w w') (hk : b < k) : Src w' b a len cap zs := by
  obtain ⟨n, x, lt, c0, c1, c2, f1, f2, le, sm, by_⟩ := h
  have hne : b ≠ k := by omega
  refine ⟨n, x, Nat.lt_of_lt_of_le lt ho.size, (ho.cell (p := ⟨b, 0, none⟩) lt hne).trans c0, (ho.cell (p := ⟨b, 1, none⟩) lt hne).trans c1, (ho.cell (p := ⟨b, 2, none⟩) lt hne).trans c2, (ho.frozen (p := ⟨b, 1, none⟩) lt hne).trans f1, (ho.frozen (p := ⟨b, 2, none⟩) lt hne).trans f2, le, sm, ?_⟩
  rcases by_ with h | ⟨xb, xo, ha, hb, hs, hc⟩
  · exact .inl h
  · exact .inr ⟨xb, xo, ha, hb, Nat.lt_of_lt_of_le hs ho.size, fun i hi => ⟨(hc i hi).1, (ho.cell (p := ⟨xb, xo + i, none⟩) hs (by show xb ≠ k; omega)).trans (hc i hi).2⟩⟩
theorem only_of {w w' : World} {row : Option Nat} (h : w.grownBy w' row) {B : Nat} (hr : ∀ k, row = some k → B ≤ k) (hB : B ≤ w.heap.size) : ∃ k, B ≤ k ∧ Only k w w' := by
  cases row with
  | none => exact ⟨w.heap.size, hB, h.os, h.tape, h.output, h.size, fun k hk _ => h.block k hk (by simp)⟩
  | some g => exact ⟨g, hr g rfl, h.os, h.tape, h.output, h.size, fun k hk hne => h.block k hk (by simp; exact fun e => hne e)⟩
theorem Src.grown {w w' : World} {b : Nat} {a : Option Addr} {len cap : Nat} {zs : List Int} {row : Option Nat} (h : Src w b a len cap zs) (hg : w.grownBy w' row) (hr : ∀ k, row = some k → b < k) : Src w' b a len cap zs := by
  obtain ⟨k, hk, ho⟩ := only_of hg (B := b + 1) (fun k e => hr k e) h.lt
  exact h.far ho hk
theorem Only.grown {b : Nat} {u v w : World} {row : Option Nat} (h : Only b u v) (hg : v.grownBy w row) (hr : ∀ k, row = some k → u.heap.size ≤ k) : Only b u w :=
  ⟨hg.os.trans h.os, hg.tape.trans h.tape, hg.output.trans h.output, Nat.le_trans h.size hg.size, fun k hk hne => (hg.block k (Nat.lt_of_lt_of_le hk h.size) (by
    cases row with
    | none => simp
    | some g => simp; intro e; have := hr g rfl; omega)).trans (h.block k hk hne)⟩
theorem OutR.only {B k : Nat} {w w' : World} {v : Value} {zs : List Int} (h : OutR B w v zs) (ho : Only k w w') (hk : k < B) : OutR B w' v zs :=
  World.ownsRow.kept h ⟨ho.os, ho.tape, ho.output, ho.size, fun j hj hne => ho.block j hj (fun e => hne (by rw [e]))⟩ (by
    cases hv : v.ownBlock with
    | none => exact .inl rfl
    | some g => exact .inr (by intro e; injection e with e; have := (World.ownsRow.lt h g hv).1; omega))
theorem OutR.push {B : Nat} {w : World} {v : Value} {X : List Int} {x : Int} (h : w.ownsRow B 2 1 v (X.length + 1) (X.map (Value.int .i64) ++ [.int .i64 x])) : OutR B w v (X ++ [x]) := by
  unfold OutR
  rw [List.length_append, List.map_append]
  exact h

/-- One of the numbers of a list, as it lies in memory. -/
theorem pick_in (c m : Nat) (ls : List Int) (b : Nat) (a : Option Addr) (len cap : Nat) (zs : List Int) (w : World) (hs : Src w b a len cap zs) (hrow : RowAt w c ls) (hl : ls.length = m) (m1 : 1 ≤ m) (m2 : m ≤ 1000) (hc : c < w.heap.size) (hne : c ≠ b) :
    Calls Try.prog 168 #[.pointer (some ⟨b, 0, none⟩), .slice (some ⟨c, 0, none⟩) m m] w (Drawn (fun x => x ∈ ls) b a len cap zs w) := by
  have HS := Lib.hid hs
  have HR := Lib.hid hrow
  have HL := Lib.hid hl
  clear hs hrow hl
  go_enter Try.func168, Try.ntmps168
  go_wp2_with (go_at_call 167; refine (next_any (m : Int) b a len cap zs _ HS.out).mono ?_; rintro e w1 ⟨x, rfl, hx, ho, hs1⟩; obtain ⟨hx0, hx1⟩ := hx (by omega); obtain ⟨j, rfl⟩ := Int.eq_ofNat_of_zero_le hx0; have hcell := (ho.cell (p := ⟨c, j, none⟩) hc hne).trans (HR.out j (by rw [HL.out]; omega)); have HJ : Hid (ls.getD j 0 ∈ ls) := (by show _ ∈ _; have hj : j < ls.length := (by rw [HL.out]; omega); rw [getD_at hj]; exact List.getElem_mem hj); clear hx)
  go_ret
  exact ⟨_, rfl, HJ.out, ho, hs1⟩

/-- A list that has been drawn: new, growing on. -/
def DrawnO (Q : List Int → Prop) (b : Nat) (a : Option Addr) (len cap : Nat) (zs : List Int) (w : World) (e : Ending) (w' : World) : Prop :=
  ∃ v X, e = .returned v ∧ Q X ∧ OutR w.heap.size w' v X ∧ Only b w w' ∧ Src w' b a len cap zs
/-- .. to be read. -/
def DrawnR (Q : List Int → Prop) (b : Nat) (a : Option Addr) (len cap : Nat) (zs : List Int) (w : World) (e : Ending) (w' : World) : Prop :=
  ∃ r c X, e = .returned (.slice r X.length c) ∧ Q X ∧ RowIn w.heap.size w'.heap.size w' r X ∧ Only b w w' ∧ Src w' b a len cap zs

set_option maxHeartbeats 1600000 in
theorem list_any (p : Int) (n : Nat) (b : Nat) (a : Option Addr) (len cap : Nat) (zs : List Int) (w : World) (hs : Src w b a len cap zs) (hn : n ≤ 1048576) :
    Calls Try.prog 203 #[.pointer (some ⟨b, 0, none⟩), .int .i64 p, .int .i64 n] w (DrawnO (fun X => X.length = n) b a len cap zs w) := by
  obtain ⟨i0, hi, hz0, hz1, hz2⟩ := info_parts info64
  have hlt := hs.lt
  have HS := Lib.hid hs
  clear hs
  go_enter Try.func203, Try.ntmps203
  go_wp2
  go_loopw [7, 2] (fun v t wr => ∃ (X : List Int), X.length ≤ n ∧ t = .int .i64 ((n : Int) - X.length) ∧ OutR w.heap.size wr v X ∧ Src wr b a len cap zs ∧ Only b w wr) (fun _ t _ => (intOf t).toNat)
  case atStart => exact ⟨[], Nat.zero_le _, by simp, OutR.start w _ _ (Nat.le_refl _) rfl, HS.out.alloc _, (Only.refl b w).alloc _⟩
  case round =>
    obtain ⟨X, hX, rfl, ho, hsr, hon⟩ := hrel
    have HO := Lib.hid ho
    have HSR := Lib.hid hsr
    have HON := Lib.hid hon
    have hwz := hon.size
    clear ho hsr hon
    by_cases hlx : X.length < n
    · have hp0 : (0 : Int) < (n : Int) - X.length := by omega
      obtain ⟨j, hj⟩ : ∃ j, j = X.length := ⟨_, rfl⟩
      obtain ⟨Y, hY⟩ : ∃ Y, Y = X.map (Value.int .i64) := ⟨_, rfl⟩
      have HJ := Lib.hid hj
      have HY := Lib.hid hY
      rw [← hj] at hp0 hlx ⊢
      clear hj hY
      go_wp2_with (first | (go_at_call 167; (with_reducible refine (next_any p b a len cap zs _ HSR.out).mono ?_); rintro e w3 ⟨x, rfl, _, ho3, hs3⟩; have hz3 := ho3.size; have H3 : Hid (w3.ownsRow w.heap.size 2 1 u7 j Y) := (by have h := HO.out.only ho3 hlt; unfold OutR at h; rw [← HY.out, ← HJ.out] at h; exact h); have HS3 := Lib.hid hs3; have HO3 := Lib.hid (HON.out.trans ho3); clear ho3 hs3) | (at_builtin; refine wpList_append_lies _ rfl _ _ 24 rfl w.heap.size 2 i0 (.int .i64 0) 1 8 Try.underlying24 hi hz0 hz1 hz2 rfl (by decide) u7 j Y rfl (H3.out.alloc _) ⟨w3.heap.size, 0, none⟩ 1 1 [.int .i64 x] rfl rfl (World.news_of_block (cs := #[.int .i64 x]) (t := 2) (fr := (0, 0)) (heap_alloc_new w3 _)) (by simp [Value.oneCell']) (by omega) (by unfold maxLen; omega) (by omega) (by simp; omega) (w3.heap.size + 1) (by simp) ?_; intro gg cap w1 hown1 hgrow hat hlt1))
      go_roundw
      case rel => exact ⟨X ++ [x], by rw [List.length_append, ← HJ.out]; exact hlx, by rw [List.length_append, ← HJ.out]; go_num, OutR.push (by rw [← HY.out, ← HJ.out]; exact hown1), (HS3.out.alloc _).grown hgrow (fun k e => by have := (H3.out.lt _ e).1; omega), (HO3.out.alloc _).grown hgrow (fun k e => (H3.out.lt _ e).1)⟩
      case measure => simp [intOf]; omega
    · have hp0 : ¬ (0 : Int) < (n : Int) - X.length := by omega
      go_wp2
      go_ret
      exact ⟨_, X, rfl, by omega, HO.out, HON.out, HSR.out⟩

end Go.Proofs.Ytcamegdjdjacpaa
