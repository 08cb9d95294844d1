/-
  What the model's source picks: one of a list.
  Conditions: the source is one, of at most 4096 bytes; the list is a row of known cells in another block.
-/
import Derived.Test.YtcamegdjdjacpaaNext
import Derived.Test.YtcamegdjdjacpaaCodes
namespace Go.Proofs.Ytcamegdjdjacpaa
open Go.RowKit
set_option linter.unusedVariables false

theorem Drawn.any {P : Int → Prop} {b : Nat} {a : Option Addr} {len cap : Nat} {zs : List Int} {w w1 w' : World} {e : Ending} (ho : Only b w w1) (h : Drawn P b a len cap zs w1 e w') : Drawn (fun _ => True) b a len cap zs w e w' := by
  obtain ⟨x, he, _, hn, hs⟩ := h
  exact ⟨x, he, trivial, ho.trans hn, hs⟩

theorem pick_any (c m : Nat) (ls : List Int) (b : Nat) (a : Option Addr) (len cap : Nat) (zs : List Int) (w : World) (hs : Src w b a len cap zs) (hrow : RowAt w c ls) (hl : ls.length = m) (m1 : 1 ≤ m) (m2 : m ≤ 1000) (hc : c < w.heap.size) (hne : c ≠ b) :
    Calls Try.prog 168 #[.pointer (some ⟨b, 0, none⟩), .slice (some ⟨c, 0, none⟩) m m] w (Drawn (fun _ => True) b a len cap zs w) := by
  have HS := Lib.hid hs
  have HR := Lib.hid hrow
  have HL := Lib.hid hl
  clear hs hrow hl
  go_enter Try.func168, Try.ntmps168
  go_wp2_with (go_at_call 167; refine (next_any (m : Int) b a len cap zs _ HS.out).mono ?_; rintro e w1 ⟨x, rfl, hx, ho, hs1⟩; obtain ⟨hx0, hx1⟩ := hx (by omega); obtain ⟨j, rfl⟩ := Int.eq_ofNat_of_zero_le hx0; have hcell := (ho.cell (p := ⟨c, j, none⟩) hc hne).trans (HR.out j (by rw [HL.out]; omega)); clear hx)
  go_ret
  exact ⟨_, rfl, trivial, ho, hs1⟩

end Go.Proofs.Ytcamegdjdjacpaa
