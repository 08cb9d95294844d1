/-
  The centre and the structure of a regular space: what the law asks. No Go in sight.
  No conditions.
-/
import Derived.Test.YtijklpcelbnnjaaGreatQk37
import Derived.Test.YtijklpcelbnnjaaGreatQk40
import Derived.Test.YtijklpcelbnnjaaGreatQk34
namespace Go.Proofs.YtijklpcelbnnjaaGreat
open Go.RowKit
set_option linter.unusedVariables false

theorem st_sizes {p : Int} {S : List Int} (h1 : 1 ≤ S.length) (h4 : S.length ≤ 4) : stB p S * stD p S = (if S.length % 2 = 1 then 2 else 1) ∧ stB p S * stR S * stR S * stD p S = (bl S : Int) := by
  have h : S.length = 1 ∨ S.length = 2 ∨ S.length = 3 ∨ S.length = 4 := by omega
  unfold stB stD stR bl
  rcases h with h | h | h | h <;> rw [h] <;> by_cases k : rt p (sqT p S) < 0 <;> simp [k]
theorem cen_yes9 {p : Int} {S : List Int} (hs : isSp p S = true) (h4 : S.length ≤ 4) {l : Nat} (hl : l < (kerB p (ceM p S)).length) : cenB p S (rw' (kerB p (ceM p S)) l) = true :=
  cen_yes fun i hi => decide_eq_true ((cen_rows hs h4 hl).2 i hi)
theorem cen_all9 {p : Int} {S : List Int} (hs : isSp p S = true) (h4 : S.length ≤ 4) {l : Nat} (hl : l < (kerB p (ceM p S)).length) (y : List Int) : prodM p S (rw' (kerB p (ceM p S)) l) y = prodM p S y (rw' (kerB p (ceM p S)) l) :=
  cn_every hs h4 (cen_rows hs h4 hl).1 (cen_rows hs h4 hl).2 y
theorem cb_val {p : Int} {S : List Int} (h : stC p S [] = 0) : cbV p S = kerB p (ceM p S) := if_pos h
theorem srC_two {p : Int} {S : List Int} (h : stC p S [] = 0) : (srC p S = 5 ∧ discN p S = 0) ∨ (srC p S = 0 ∧ discN p S ≠ 0) := by
  unfold srC
  rw [if_pos h]
  by_cases k : discN p S = 0
  · exact .inl ⟨if_pos k, k⟩
  · exact .inr ⟨if_neg k, k⟩
/-- What the law says of the numbers of the structure. -/
theorem st_nums {p : Int} {S : List Int} (h : stC p S [] = 0) (hr : srC p S = 0) : sbV p S * sdV p S = ((cbV p S).length : Int) ∧ sbV p S * srV p S * srV p S * sdV p S = (bl S : Int) := by
  have hz := stC_zero h
  have hd : discN p S ≠ 0 := by
    rcases srC_two h with ⟨k, _⟩ | ⟨_, k⟩
    · rw [hr] at k; cases k
    · exact k
  have e := st_sizes (p := p) (isSp_iff.1 hz.1).lo hz.2.2
  unfold sbV sdV srV
  rw [if_pos hr, if_pos hr, if_pos hr, cb_val h, cen_dim hz.1 hz.2.2 hd]
  refine ⟨e.1.trans ?_, e.2⟩
  split <;> rfl
theorem st_range {p : Int} {S : List Int} : 0 ≤ sbV p S ∧ sbV p S ≤ 2 ∧ 0 ≤ srV p S ∧ srV p S ≤ 4 ∧ 0 ≤ sdV p S ∧ sdV p S ≤ 2 := by
  have hb : 0 ≤ stB p S ∧ stB p S ≤ 2 := by unfold stB; split; · omega
                                            · split <;> omega
  have hr : 0 ≤ stR S ∧ stR S ≤ 4 := by unfold stR; split; · omega
                                        · split <;> omega
  have hd : 0 ≤ stD p S ∧ stD p S ≤ 2 := by unfold stD; split; · omega
                                            · split <;> omega
  unfold sbV srV sdV
  by_cases h : srC p S = 0
  · rw [if_pos h, if_pos h, if_pos h]; exact ⟨hb.1, hb.2, hr.1, hr.2, hd.1, hd.2⟩
  · rw [if_neg h, if_neg h, if_neg h]; omega

end Go.Proofs.YtijklpcelbnnjaaGreat
