/-
  Vectors led by motions (program): contracts of the program and of the model.
  Conditions: the lists are nil or rows of known cells, of at most 1048576 numbers.
-/
import Derived.Test.YtgfanoejohpmkaaGreatQs33
import Derived.Deep.RegionHeld3
import Derived.Deep.DeepCutAuto
namespace Go.Proofs.YtgfanoejohpmkaaGreat
open Go.RowKit
set_option linter.unusedVariables false

theorem lead_v (k : Nat) (p q f : Int) (a0 a1 : Option Addr) (n0 c0 n1 c1 : Nat) (w : World) : (method (k + 1) 86 (.agg #[.int .i64 p, .slice a0 n0 c0, .slice a1 n1 c1, .int .i64 q, .int .i64 f]) "loop.example/g01124/impl.lead").run Tryz.prog w = .ok (298, (.agg #[.int .i64 p, .slice a0 n0 c0, .slice a1 n1 c1, .int .i64 q, .int .i64 f])) w := by kernel_rfl
theorem lead_v_nil (k : Nat) (p q f : Int) (a0 a1 : Option Addr) (n0 c0 n1 c1 : Nat) (w : World) : (nilAhead (k + 1) 86 (.agg #[.int .i64 p, .slice a0 n0 c0, .slice a1 n1 c1, .int .i64 q, .int .i64 f]) "loop.example/g01124/impl.lead").run Tryz.prog w = .ok (some false) w := by kernel_rfl
theorem lead_r (k : Nat) (p : Int) (a0 a1 : Option Addr) (n0 c0 n1 c1 : Nat) (w : World) : (method (k + 1) 102 (.agg #[.int .i64 p, .slice a0 n0 c0, .slice a1 n1 c1]) "loop.example/g01124/impl.lead").run Tryz.prog w = .ok (299, (.agg #[.int .i64 p, .slice a0 n0 c0, .slice a1 n1 c1])) w := by kernel_rfl
theorem lead_r_nil (k : Nat) (p : Int) (a0 a1 : Option Addr) (n0 c0 n1 c1 : Nat) (w : World) : (nilAhead (k + 1) 102 (.agg #[.int .i64 p, .slice a0 n0 c0, .slice a1 n1 c1]) "loop.example/g01124/impl.lead").run Tryz.prog w = .ok (some false) w := by kernel_rfl

set_option maxRecDepth 100000 in
set_option maxHeartbeats 3200000 in
theorem leadVector_v (pS : Int) (aS : Option Addr) (S : List Int) (cS loS tpS : Nat) (ax : Option Addr) (x : List Int) (cx lox tpx : Nat) (F : Int) (av : Option Addr) (v : List Int) (cv lov tpv : Nat) (w : World) (hs : isSp pS S = true) (hS : RowIn loS tpS w aS S) (tS : tpS ≤ w.heap.size) (hx : RowIn lox tpx w ax x) (tx : tpx ≤ w.heap.size) (mx : isMv pS S x = true) (hF : F = nrF pS S x) (hv : RowIn lov tpv w av v) (tv : tpv ≤ w.heap.size) (mv : isVec pS S.length v = true) :
    Calls Tryz.prog 105 #[.iface 86 (.agg #[.int .i64 pS, .slice aS S.length cS, .slice ax x.length cx, .int .i64 pS, .int .i64 F]), .slice av v.length cv, .int .i64 0] w (fun e w' => ∃ r c, e = .returned (.tuple #[.slice r (sdM pS S x v).length c, .int .i64 0]) ∧ OwnR w.heap.size w'.heap.size w' r (sdM pS S x v) ∧ Below w.heap.size w w') := by
  have HL := Lib.hid (lead_own pS aS S cS loS tpS ax x cx lox tpx F av v cv lov tpv w hs hS tS hx tx mx hF hv tv mv)
  have hm := lead_v
  have hn := lead_v_nil
  clear hs hS hx mx hF hv mv
  go_enter Tryz.func105, Tryz.ntmps105
  go_wp2_with (go_at_call 298; ((with_reducible refine (HL.out).mono ?_); rintro e w2 ⟨r, c, rfl, o_, b_⟩; have O2 := Lib.hid o_; have B2 := Lib.hid b_; clear o_ b_))
  go_ret2
  exact ⟨r, c, rfl, O2.out, B2.out⟩

set_option maxHeartbeats 1600000 in
theorem leadVector_c (u : Value) (av : Option Addr) (n cv : Nat) (C : Int) (w : World) (hC : (C != 0) = true) :
    Calls Tryz.prog 105 #[u, .slice av n cv, .int .i64 C] w (fun e w' => e = .returned (.tuple #[.slice none 0 0, .int .i64 C]) ∧ w = w') := by
  go_enter Tryz.func105, Tryz.ntmps105
  go_wp2
  go_ret2
  exact ⟨rfl, rfl⟩

end Go.Proofs.YtgfanoejohpmkaaGreat
