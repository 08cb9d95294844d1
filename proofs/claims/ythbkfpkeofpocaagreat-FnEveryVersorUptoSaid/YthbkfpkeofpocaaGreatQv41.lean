/-
  The matrix of a product of vectors is orthogonal. No Go in sight.
  No conditions.
  Lists of rows of one's own, told by their blocks: contracts of the program and of the model.
  Conditions: the lists are nil or rows of known cells, of at most 1048576 numbers.
-/
import Derived.Test.YthbkfpkeofpocaaGreatQv40
import Derived.Test.YthbkfpkeofpocaaGreatQv30
import Derived.Test.YthbkfpkeofpocaaGreatQv38
import Derived.Test.YthbkfpkeofpocaaGreatQv31
import Derived.Test.YthbkfpkeofpocaaGreatQv34
namespace Go.Proofs.YthbkfpkeofpocaaGreat
set_option linter.unusedVariables false

theorem sm_dvd9 {p : Int} {n : Nat} {f : Nat → Int} (h : ∀ j, j < n → f j % p = 0) : sm n f % p = 0 := by
  have e := sm_cong_p (p := p) (n := n) (f := f) (g := fun _ => 0) (fun j hj => by rw [h j hj]; simp)
  rw [e, sm_zero]; simp
/-- Columns with the products of the basis vectors make an orthogonal matrix. -/
theorem orth_cols {p : Int} {S : List Int} {C : List (List Int)} (hs : isSp p S = true) (hd : discN p S ≠ 0) (hl : C.length = S.length) (hv : ∀ i, i < S.length → isVec p S.length (rw' C i) = true) (hw : ∀ i, i < S.length → ∀ j, j < S.length → pairN p S (rw' C i) (rw' C j) = wantF S i j) : orB p S (trM C) = true := by
  have hp := (isSp_iff.1 hs).prime
  have hpb := prm_bd hp
  have h1 := (isSp_iff.1 hs).lo
  have h6 := (isSp_iff.1 hs).hi
  have hcl : ∀ i, i < S.length → (rw' C i).length = S.length := fun i hi => (isVec_iff.1 (hv i hi)).len
  have c0 := hcl 0 (by omega)
  have t1 : (trM C).length = S.length := by rw [tr_ln, c0]
  have hrow : ∀ i, i < S.length → rw' (trM C) i = mkR S.length fun j => at' C j i := fun i hi => by rw [tr_rw (by rw [c0]; exact hi), hl]
  have hrl : ∀ i, i < S.length → (rw' (trM C) i).length = S.length := fun i hi => by rw [hrow i hi, mkR_len]
  have tt : trM (trM C) = C := tr_tr (by omega) (by omega) (fun i hi => by rw [hcl i (by omega), c0])
  have hat : ∀ i, i < S.length → ∀ j, j < S.length → at' (trM C) i j = at' C j i := fun i hi j hj => tr_at c0 hi (by omega)
  have hnum : ∀ i, i < S.length → ∀ j, j < S.length → 0 ≤ at' (trM C) i j ∧ at' (trM C) i j < p := fun i hi j hj => by
    rw [hat i hi j hj]; exact (isVec_iff.1 (hv j hj)).num hi
  have hrv : ∀ i, i < S.length → isVec p S.length (rw' (trM C) i) = true := fun i hi => vec_of (hrl i hi) fun j hj => hnum i hi j (by rw [hrl i hi] at hj; exact hj)
  have hM : isM p (trM C) = true := isL_iff.2 ⟨hp, by omega, by omega, fun i hi => by rw [hrl i (by omega), hrl 0 (by omega)], fun i hi => by rw [hrl i (by omega)]; omega, fun i hi => by rw [hrl i (by omega)]; omega, fun i hi => (isVec_iff.1 (hrv i (by omega))).2⟩
  have hdet : detP p (trM C) ≠ 0 := by
    refine (det_triv hp t1 (fun i hi => hrl i (by omega)) (fun i hi j hj => hnum i (by omega) j hj)).2 fun x hx k hk => ?_
    have a1 : ∀ i, i < S.length → sm S.length (fun j => at' C j i * x j) % p = 0 := fun i hi => by
      have := hx i hi
      unfold van at this
      rwa [sm_congr (fun j hj => by rw [hat i hi j hj])] at this
    have a2 : sm S.length (fun j => psum S (rw' C k) (rw' C j) S.length * x j) = sm S.length (fun i => (rw' C k).getD i 0 * S.getD i 0 * sm S.length (fun j => at' C j i * x j)) := by
      have b1 : sm S.length (fun j => psum S (rw' C k) (rw' C j) S.length * x j) = sm S.length (fun j => sm S.length (fun i => (rw' C k).getD i 0 * S.getD i 0 * (at' C j i * x j))) := sm_congr fun j _ => by
        unfold psum
        rw [Int.mul_comm, ← sm_mul]
        exact sm_congr fun i _ => by show x j * ((rw' C k).getD i 0 * at' C j i * S.getD i 0) = _; ac_rfl
      rw [b1, sm_swap]
      exact sm_congr fun i _ => by rw [sm_mul]
    have a3 : sm S.length (fun j => psum S (rw' C k) (rw' C j) S.length * x j) % p = 0 := by
      rw [a2]
      exact sm_dvd9 fun i hi => by rw [Int.mul_emod, a1 i hi]; simp
    have a4 : sm S.length (fun j => psum S (rw' C k) (rw' C j) S.length * x j) % p = sm S.length (fun j => if j = k then S.getD k 0 * x k else 0) % p := sm_cong_p fun j hj => by
      have e := hw k hk j hj
      unfold pairN at e
      rw [Int.mul_emod, e]
      unfold wantF
      by_cases q : k = j
      · subst q; rw [if_pos rfl, if_pos rfl]
        rw [em_r]
      · rw [if_neg q, if_neg (fun z => q z.symm), Int.zero_mul, Int.zero_emod]
    rw [a3, sm_single, if_pos hk] at a4
    refine Classical.byContradiction fun hne => ?_
    have hsb := (isSp_iff.1 hs).num hk
    have := no_null hp hsb.1 hsb.2 (Int.emod_nonneg (x k) (by omega)) (Int.emod_lt_of_pos (x k) (by omega)) (reg_nz hs hd hk) hne
    apply this
    rw [Int.mul_emod, Int.emod_emod, ← Int.mul_emod]
    exact a4.symm
  unfold orB ismB
  simp only [Bool.and_eq_true, decide_eq_true_eq]
  exact ⟨⟨ismF_iff.2 ⟨rfl, rfl, t1, hM, hrl 0 (by omega)⟩, hdet⟩, colB_iff.2 fun i hi k hk => by rw [tt]; exact hw i hi k (by omega)⟩
theorem rfA_pair {p : Int} {S : List Int} (hp : prm p = true) (m : List (List Int)) : ∀ k, (∀ j, j < k → pairN p S (rw' m j) (rw' m j) ≠ 0) → ∀ v w, isVec p S.length v = true → isVec p S.length w = true → pairN p S (rfA p S m k v) (rfA p S m k w) = pairN p S v w
  | 0, _, v, w, _, _ => rfl
  | k + 1, hn, v, w, hv, hw => by
    have hb := prm_bd hp
    show pairN p S (rfA p S m k (rflM p S (rw' m k) v)) (rfA p S m k (rflM p S (rw' m k) w)) = _
    rw [rfA_pair hp m k (fun j hj => hn j (by omega)) _ _ (rfl_vec7 (by omega) hv) (rfl_vec7 (by omega) hw), rfl_pair2 hp hv hw (hn k (by omega))]
/-- The matrix of a product of vectors: it is told, it is orthogonal, and the versor of its decomposition is a multiple of the product. -/
theorem vr_orth {p : Int} {S : List Int} (hs : isSp p S = true) (hd : discN p S ≠ 0) {L : List (List Int)} {k : Nat} (hm : ∀ j, j < k → isVec p S.length (rw' L j) = true) (hn : ∀ j, j < k → pairN p S (rw' L j) (rw' L j) ≠ 0) :
    vrC p S (vrM p S L k) = 0 ∧ orB p S (mvV p S (vrM p S L k)) = true ∧ ∃ c, 0 ≤ c ∧ c < p ∧ c ≠ 0 ∧ vrM p S L k = sclV p (vrM p S (decL p S (mvV p S (vrM p S L k))) (decL p S (mvV p S (vrM p S L k))).length) c := by
  have hp := (isSp_iff.1 hs).prime
  have hpb := prm_bd hp
  have hv : isVr p S (vrM p S L k) = true := isVr_vr hs hm hn
  have hmv := vr_mv hs L k
  have e : vrC p S (vrM p S L k) = 0 := by
    rcases vrC_cases p S (vrM p S L k) with ⟨h1, _⟩ | ⟨_, h1, _⟩ | ⟨_, _, h⟩
    · exfalso; apply h1
      rcases regC_cases p S [vrM p S L k] with ⟨q, _⟩ | ⟨_, q, _⟩ | ⟨_, _, _, q, _⟩ | ⟨_, _, _, _, q⟩
      · rw [hs] at q; cases q
      · exfalso
        have := codeMv_zero.2 ⟨hs, show [vrM p S L k].all (isMv p S) = true by simp [hmv]⟩
        rw [this] at q; cases q
      · exact absurd q hd
      · exact q
    · rw [hv] at h1; cases h1
    · exact h
  have hM : mvV p S (vrM p S L k) = trM (ledM S.length (sdM p S (vrM p S L k)) S.length) := by unfold mvV; rw [if_pos e]
  have hcol : ∀ i, i < S.length → rw' (ledM S.length (sdM p S (vrM p S L k)) S.length) i = rfA p S L k (eiR S.length i) := fun i hi => by rw [led_all _ hi, sd_vr hs hm hn (ei_vec (by omega) _ _)]
  have ho : orB p S (mvV p S (vrM p S L k)) = true := by
    rw [hM]
    refine orth_cols hs hd (led_len _ _ _) (fun i hi => by rw [hcol i hi]; exact rfA_vec (by omega) _ _ _ (ei_vec (by omega) _ _)) (fun i hi j hj => ?_)
    rw [hcol i hi, hcol j hj, rfA_pair hp L k hn _ _ (ei_vec (by omega) _ _) (ei_vec (by omega) _ _)]
    have h := one_pair hs hi hj
    rwa [ei_row hi, ei_row hj] at h
  refine ⟨e, ho, ?_⟩
  have hok := (dec_ok hs hd ho).1
  refine vr_mult hs hd hm hn (fun j hj => (hok _ (mem_of hj)).1) (fun j hj => (hok _ (mem_of hj)).2) fun i hi => ?_
  have h2 := dec_sd hs hd ho hi
  rw [h2, hM]
  have hC0 : (rw' (ledM S.length (sdM p S (vrM p S L k)) S.length) 0).length = S.length := by
    have h1 := (isSp_iff.1 hs).lo
    rw [hcol 0 (by omega)]
    exact (isVec_iff.1 (rfA_vec (by omega) _ _ _ (ei_vec (by omega) _ _))).len
  rw [tr_tr (by rw [led_len]; omega) (by rw [hC0]; omega) (fun j hj => by
    rw [led_len] at hj
    rw [hC0, hcol j hj]
    exact (isVec_iff.1 (rfA_vec (by omega) _ _ _ (ei_vec (by omega) _ _))).len), led_all _ hi]

end Go.Proofs.YthbkfpkeofpocaaGreat

namespace Go.Proofs.YthbkfpkeofpocaaGreat
open Go.RowKit
set_option linter.unusedVariables false

theorem gb_refl (w : World) (g : Option Nat) : w.grownBy w g := ⟨rfl, rfl, rfl, Nat.le_refl _, fun _ _ _ => rfl⟩
theorem gb_below {w W W' : World} {g : Option Nat} (h : w.grownBy W g) (b : Below W.heap.size W W') : w.grownBy W' g :=
  ⟨b.os.trans h.os, b.tape.trans h.tape, b.output.trans h.output, Nat.le_trans h.size b.size, fun k hk hne => (b.block k (Nat.lt_of_lt_of_le hk h.size)).trans (h.block k hk hne)⟩
theorem gb_set {w W : World} {b j : Nat} {v : Value} (h : w.grownBy W (some b)) : w.grownBy (W.setCell ⟨b, j, none⟩ v) (some b) := by
  have s := setk_grown W b j v
  exact ⟨s.os.trans h.os, s.tape.trans h.tape, s.output.trans h.output, Nat.le_trans h.size s.size, fun k hk hne => (s.block k (Nat.lt_of_lt_of_le hk h.size) hne).trans (h.block k hk hne)⟩
theorem gb_own {w W W' : World} {g g' : Option Nat} (h : w.grownBy W g) (s : W.grownBy W' g') (hg : ∀ k, g' = some k → w.heap.size ≤ k) : w.grownBy W' g :=
  ⟨s.os.trans h.os, s.tape.trans h.tape, s.output.trans h.output, Nat.le_trans h.size s.size, fun k hk hne => (s.block k (Nat.lt_of_lt_of_le hk h.size) (fun e => by have := hg k e.symm; omega)).trans (h.block k hk hne)⟩
theorem gb_cell {w W : World} {g : Option Nat} (h : w.grownBy W g) {p : Addr} (hl : p.block < w.heap.size) (hg : some p.block ≠ g) : W.cell? p = w.cell? p := World.cell?_of_block (h.block _ hl hg)
theorem gb_frozen {w W : World} {g : Option Nat} (h : w.grownBy W g) {p : Addr} (hl : p.block < w.heap.size) (hg : some p.block ≠ g) : W.frozen? p = w.frozen? p := World.frozen?_of_block (h.block _ hl hg)
theorem gb_of {w W : World} (b : Below w.heap.size w W) (g : Option Nat) : w.grownBy W g := gb_below (gb_refl w g) b
/-- The headers of rows in block b from o on, free; each row in another block, of which Q holds. -/
structure TopQ (lo : Nat) (w : World) (b o : Nat) (m : List (List Int)) (Q : Nat → Prop) : Prop where
  hib : b < w.heap.size
  free : ∀ j, w.frozen? ⟨b, j, none⟩ = false
  row : ∀ i, i < m.length → ∃ c b' o', w.cell? ⟨b, o + i, none⟩ = some (.slice (some ⟨b', o', none⟩) (rw' m i).length c) ∧ lo ≤ b' ∧ b' < w.heap.size ∧ b' ≠ b ∧ Q b' ∧ ∀ j, j < (rw' m i).length → w.cell? ⟨b', o' + j, none⟩ = some (.int .i64 ((rw' m i).getD j 0))
theorem TopQ.kept {lo b o : Nat} {w w' : World} {m : List (List Int)} {Q : Nat → Prop} {g : Option Nat} (h : TopQ lo w b o m Q) (hg : w.grownBy w' g) (hb : some b ≠ g) (hq : ∀ k, Q k → some k ≠ g) : TopQ lo w' b o m Q where
  hib := Nat.lt_of_lt_of_le h.hib hg.size
  free j := (gb_frozen hg (p := ⟨b, j, none⟩) h.hib hb).trans (h.free j)
  row i hi := by
    obtain ⟨c, b', o', h1, h2, h3, h4, h5, h6⟩ := h.row i hi
    exact ⟨c, b', o', (gb_cell hg (p := ⟨b, o + i, none⟩) h.hib hb).trans h1, h2, Nat.lt_of_lt_of_le h3 hg.size, h4, h5, fun j hj => (gb_cell hg (p := ⟨b', o' + j, none⟩) h3 (hq _ h5)).trans (h6 j hj)⟩
theorem TopQ.below {lo b o : Nat} {w w' : World} {m : List (List Int)} {Q : Nat → Prop} (h : TopQ lo w b o m Q) (hb : Below w.heap.size w w') : TopQ lo w' b o m Q :=
  h.kept (gb_of hb none) (by simp) (fun _ _ => by simp)
theorem TopQ.imp {lo b o : Nat} {w : World} {m : List (List Int)} {Q Q' : Nat → Prop} (h : TopQ lo w b o m Q) (k : ∀ k, k < w.heap.size → Q k → Q' k) : TopQ lo w b o m Q' where
  hib := h.hib
  free := h.free
  row i hi := by
    obtain ⟨c, b', o', h1, h2, h3, h4, h5, h6⟩ := h.row i hi
    exact ⟨c, b', o', h1, h2, h3, h4, k _ h3 h5, h6⟩
theorem TopQ.get {lo b o i : Nat} {w : World} {m : List (List Int)} {Q : Nat → Prop} (h : TopQ lo w b o m Q) (hi : i < m.length) : ∃ r c, w.cell? ⟨b, o + i, none⟩ = some (.slice r (rw' m i).length c) ∧ RowIn lo w.heap.size w r (rw' m i) := by
  obtain ⟨c, b', o', h1, h2, h3, h4, h5, h6⟩ := h.row i hi
  exact ⟨_, c, h1, .inr ⟨b', o', rfl, h2, h3, h6⟩⟩
theorem TopQ.set {lo b o i : Nat} {w : World} {m : List (List Int)} {Q : Nat → Prop} {b1 o1 c1 : Nat} {z : List Int} (h : TopQ lo w b o m Q) (hi : i < m.length) (h0 : lo ≤ b1) (h1 : b1 < w.heap.size) (h2 : b1 ≠ b) (hq : Q b1) (hz : ∀ j, j < z.length → w.cell? ⟨b1, o1 + j, none⟩ = some (.int .i64 (z.getD j 0))) :
    TopQ lo (w.setCell ⟨b, o + i, none⟩ (.slice (some ⟨b1, o1, none⟩) z.length c1)) b o (m.set i z) Q := by
  have hsz : (w.setCell ⟨b, o + i, none⟩ (.slice (some ⟨b1, o1, none⟩) z.length c1)).heap.size = w.heap.size := by simp [World.setCell]
  have oth : ∀ k j, k ≠ b → (w.setCell ⟨b, o + i, none⟩ (.slice (some ⟨b1, o1, none⟩) z.length c1)).cell? ⟨k, j, none⟩ = w.cell? ⟨k, j, none⟩ := fun k j hk => World.cell?_setCell_other _ _ _ _ (fun e => hk (by injection e with e1; exact e1.symm))
  obtain ⟨c0, b0, o0, g0, _⟩ := h.row i hi
  refine ⟨by rw [hsz]; exact h.hib, fun j => by simp [go_sem, h.free], fun j hj => ?_⟩
  rw [List.length_set] at hj
  rw [rw_setX z hi, hsz]
  by_cases e : j = i
  · subst e
    rw [if_pos rfl]
    exact ⟨c1, b1, o1, World.cell?_setCell_same w _ _ g0, h0, h1, h2, hq, fun j' hj' => (oth b1 _ h2).trans (hz j' hj')⟩
  · rw [if_neg e]
    obtain ⟨c, b', o', g1, g2, g3, g4, g5, g6⟩ := h.row j hj
    exact ⟨c, b', o', (World.cell?_setCell_other _ _ _ _ (fun e2 => e (by injection e2 with _ e3; omega))).trans g1, g2, g3, g4, g5, fun j' hj' => (oth b' _ g4).trans (g6 j' hj')⟩
theorem TopQ.of {lo b o : Nat} {w : World} {m : List (List Int)} (h : TopX lo w b o m) (hn : ∀ i, i < m.length → 0 < (rw' m i).length) : TopQ lo w b o m (fun k => k < w.heap.size) where
  hib := h.hib
  free := h.free
  row i hi := by
    obtain ⟨r, c, h1, h2⟩ := h.row i hi
    rcases h2 with h2 | ⟨b', o', rfl, g0, g1, g2, g3⟩
    · have := hn i hi; rw [h2] at this; cases this
    · exact ⟨c, b', o', h1, g0, g1, g2, g1, g3⟩
/-- A list built by append, of rows of its own: row i lies in block RB i from RO i on; the blocks are all different, none is the list's. -/
structure OutW (lo : Nat) (w : World) (v : Value) (m : List (List Int)) (RB RO : Nat → Nat) : Prop where
  own : ∃ vals : List Value, w.ownsRow lo 22 1 v m.length vals ∧ ∀ i, i < m.length → ∃ c, vals[i]? = some (.slice (some ⟨RB i, RO i, none⟩) (rw' m i).length c)
  row : ∀ i, i < m.length → RowOwn w (RB i) (RO i) (rw' m i).length (fun j => (rw' m i).getD j 0)
  rng : ∀ i, i < m.length → lo ≤ RB i ∧ RB i < w.heap.size
  out : ∀ i, i < m.length → v.ownBlock ≠ some (RB i)
  apart : ∀ i, i < m.length → ∀ i', i' < m.length → i ≠ i' → RB i ≠ RB i'
theorem OutW.nil (lo : Nat) (w : World) (RB RO : Nat → Nat) : OutW lo w (.slice none 0 0) [] RB RO :=
  ⟨⟨[], World.ownsRow_nil w lo _ 1, fun i hi => absurd hi (Nat.not_lt_zero i)⟩, fun i hi => absurd hi (Nat.not_lt_zero i), fun i hi => absurd hi (Nat.not_lt_zero i), fun i hi => absurd hi (Nat.not_lt_zero i), fun i hi => absurd hi (Nat.not_lt_zero i)⟩
theorem OutW.kept {lo : Nat} {w w' : World} {v : Value} {m : List (List Int)} {RB RO : Nat → Nat} {g : Option Nat} (h : OutW lo w v m RB RO) (hg : w.grownBy w' g) (h1 : v.ownBlock = none ∨ v.ownBlock ≠ g) (h2 : ∀ i, i < m.length → some (RB i) ≠ g) : OutW lo w' v m RB RO where
  own := by obtain ⟨vals, ho, hr⟩ := h.own; exact ⟨vals, ho.kept hg h1, hr⟩
  row i hi := (h.row i hi).stay (hg.block _ (h.rng i hi).2 (h2 i hi))
  rng i hi := ⟨(h.rng i hi).1, Nat.lt_of_lt_of_le (h.rng i hi).2 hg.size⟩
  out := h.out
  apart := h.apart
theorem OutW.below {lo : Nat} {w w' : World} {v : Value} {m : List (List Int)} {RB RO : Nat → Nat} (h : OutW lo w v m RB RO) (hb : Below w.heap.size w w') : OutW lo w' v m RB RO :=
  h.kept (gb_of hb none) (by cases hv : v.ownBlock <;> simp) (fun _ _ => by simp)
theorem OutW.lt {lo : Nat} {w : World} {v : Value} {m : List (List Int)} {RB RO : Nat → Nat} (h : OutW lo w v m RB RO) {k : Nat} (hk : v.ownBlock = some k) : lo ≤ k ∧ k < w.heap.size := by
  obtain ⟨vals, ho, _⟩ := h.own; exact ho.lt k hk
theorem OutW.push {lo : Nat} {w w1 : World} {o : Obj} {v : Value} {m : List (List Int)} {RB RO : Nat → Nat} {vals : List Value} {b q c g cap : Nat} {z : List Int} (h : OutW lo w v m RB RO)
    (hvr : ∀ i, i < m.length → ∃ c, vals[i]? = some (.slice (some ⟨RB i, RO i, none⟩) (rw' m i).length c)) (hvl : vals.length = m.length)
    (hz : RowOwn w b q z.length (fun j => z.getD j 0)) (h0 : lo ≤ b) (h1 : b < w.heap.size) (hv : v.ownBlock ≠ some b) (hb : ∀ i, i < m.length → RB i ≠ b)
    (hown : w1.ownsRow lo 22 1 (.slice (some ⟨g, 0, none⟩) (m.length + 1) cap) (m.length + 1) (vals ++ [.slice (some ⟨b, q, none⟩) z.length c])) (hg : (w.alloc o).grownBy w1 v.ownBlock) (hat : v.ownBlock = some g ∨ g = w.heap.size + 1) :
    OutW lo w1 (.slice (some ⟨g, 0, none⟩) (m.length + 1) cap) (m ++ [z]) (fun i => if i = m.length then b else RB i) (fun i => if i = m.length then q else RO i) := by
  have hs : w.heap.size ≤ w1.heap.size := Nat.le_trans (size_alloc w o) hg.size
  have keep : ∀ k, k < w.heap.size → v.ownBlock ≠ some k → w1.heap[k]? = w.heap[k]? := fun k hk hne => (hg.block k (Nat.lt_of_lt_of_le hk (size_alloc w o)) (fun e => hne e.symm)).trans ((below_alloc w o).block k hk)
  have ne : ∀ k, k < w.heap.size → v.ownBlock ≠ some k → (Value.slice (some ⟨g, 0, none⟩) (m.length + 1) cap).ownBlock ≠ some k := fun k hk hne e => by
    simp [Value.ownBlock] at e
    rcases hat with h | h
    · exact hne (by rw [h, e])
    · omega
  refine ⟨⟨_, by rw [List.length_append]; exact hown, fun i hi => ?_⟩, fun i hi => ?_, fun i hi => ?_, fun i hi => ?_, fun i hi i' hi' hne => ?_⟩
  · rw [List.length_append] at hi
    by_cases e : i = m.length
    · subst e
      simp only [if_pos]
      rw [rw_append_last]
      exact ⟨c, by rw [← hvl]; simp⟩
    · have hi2 : i < m.length := by simp at hi; omega
      simp only [if_neg e]
      rw [rw_append hi2]
      obtain ⟨c', h'⟩ := hvr i hi2
      exact ⟨c', by rw [List.getElem?_append_left (by omega)]; exact h'⟩
  · rw [List.length_append] at hi
    by_cases e : i = m.length
    · subst e
      simp only [if_pos]
      rw [rw_append_last]
      exact hz.stay (keep b h1 hv)
    · have hi2 : i < m.length := by simp at hi; omega
      simp only [if_neg e]
      rw [rw_append hi2]
      exact (h.row i hi2).stay (keep _ (h.rng i hi2).2 (h.out i hi2))
  · rw [List.length_append] at hi
    by_cases e : i = m.length
    · subst e; simp only [if_pos]; exact ⟨h0, Nat.lt_of_lt_of_le h1 hs⟩
    · have hi2 : i < m.length := by simp at hi; omega
      simp only [if_neg e]; exact ⟨(h.rng i hi2).1, Nat.lt_of_lt_of_le (h.rng i hi2).2 hs⟩
  · rw [List.length_append] at hi
    by_cases e : i = m.length
    · subst e; simp only [if_pos]; exact ne b h1 hv
    · have hi2 : i < m.length := by simp at hi; omega
      simp only [if_neg e]; exact ne _ (h.rng i hi2).2 (h.out i hi2)
  · rw [List.length_append] at hi hi'
    by_cases e : i = m.length
    · have e' : i' ≠ m.length := by omega
      have hi2 : i' < m.length := by simp at hi'; omega
      simp only [if_pos e, if_neg e']
      exact fun k => hb i' hi2 k.symm
    · have hi2 : i < m.length := by simp at hi; omega
      by_cases e' : i' = m.length
      · simp only [if_pos e', if_neg e]; exact hb i hi2
      · have hi3 : i' < m.length := by simp at hi'; omega
        simp only [if_neg e, if_neg e']; exact h.apart i hi2 i' hi3 hne
def capOf (vals : List Value) (i : Nat) : Nat := match vals[i]? with | some (.slice _ _ c) => c | _ => 0
theorem OutW.ownM {lo : Nat} {w : World} {v : Value} {m : List (List Int)} {RB RO : Nat → Nat} (h : OutW lo w v m RB RO) : ∃ a c, v = .slice a m.length c ∧ OwnM lo w.heap.size w a m := by
  obtain ⟨vals, ho, hr⟩ := h.own
  rcases ho.2 with ⟨rfl, hn⟩ | ⟨g, cap, cur, rfl, hb, hg, hnc, hcm, hcs, htake⟩
  · exact ⟨none, 0, by rw [hn], .inl (List.eq_nil_of_length_eq_zero hn)⟩
  · have hlt : g < w.heap.size := (Array.getElem?_eq_some_iff.1 hg).1
    refine ⟨_, cap, rfl, .inr ⟨⟨g, 0, fun i => some ⟨RB i, RO i, none⟩, RB, RO, capOf vals⟩, rfl, ?_⟩⟩
    exact {
      rng := fun _ => ⟨hb, hlt⟩
      top := fun i hi => by
        obtain ⟨c, h1⟩ := hr i hi
        have e : capOf vals i = c := by unfold capOf; rw [h1]
        have := ho.cells (g := g) rfl i _ h1
        show w.cell? ⟨g, 0 + i, none⟩ = some (.slice (some ⟨RB i, RO i, none⟩) (rw' m i).length (capOf vals i))
        rw [e]
        rwa [Addr.add_lit] at this
      row := fun i hi => .inr rfl
      rrng := fun i hi _ => h.rng i hi
      cell := fun i hi j hj => (h.row i hi).cell j hj
      free := fun i hi j hj => (h.row i hi).free j hj
      apart := fun i hi i' hi' hne j hj j' hj' e => h.apart i hi i' hi' hne e.1
      tops := fun i hi j hj i' hi' e => h.out i hi (by rw [show RB i = g from e.1]; rfl) }
/-- The vectors of a step, in new memory. -/
structure StW (z : Nat) (w : World) (L : List (List Int)) (hb : Nat) (SB SO : Nat → Nat) : Prop where
  hdr : ∀ s, s < L.length → ∃ c, w.cell? ⟨hb, s, none⟩ = some (.slice (some ⟨SB s, SO s, none⟩) (rw' L s).length c)
  row : ∀ s, s < L.length → RowOwn w (SB s) (SO s) (rw' L s).length (fun j => (rw' L s).getD j 0)
  rng : ∀ s, s < L.length → z ≤ SB s ∧ SB s < w.heap.size
  hh : 0 < L.length → z ≤ hb ∧ hb < w.heap.size
  apart : ∀ s, s < L.length → ∀ s', s' < L.length → s ≠ s' → SB s ≠ SB s'
theorem StW.kept {z hb : Nat} {w w' : World} {L : List (List Int)} {SB SO : Nat → Nat} {g : Option Nat} (h : StW z w L hb SB SO) (hg : w.grownBy w' g) (h1 : 0 < L.length → some hb ≠ g) (h2 : ∀ s, s < L.length → some (SB s) ≠ g) : StW z w' L hb SB SO where
  hdr s hs := by obtain ⟨c, h3⟩ := h.hdr s hs; exact ⟨c, (gb_cell hg (p := ⟨hb, s, none⟩) (h.hh (by omega)).2 (h1 (by omega))).trans h3⟩
  row s hs := (h.row s hs).stay (hg.block _ (h.rng s hs).2 (h2 s hs))
  rng s hs := ⟨(h.rng s hs).1, Nat.lt_of_lt_of_le (h.rng s hs).2 hg.size⟩
  hh h0 := ⟨(h.hh h0).1, Nat.lt_of_lt_of_le (h.hh h0).2 hg.size⟩
  apart := h.apart
theorem StW.below {z hb : Nat} {w w' : World} {L : List (List Int)} {SB SO : Nat → Nat} (h : StW z w L hb SB SO) (b : Below w.heap.size w w') : StW z w' L hb SB SO :=
  h.kept (gb_of b none) (fun _ => by simp) (fun _ _ => by simp)
theorem StW.nil (z : Nat) (w : World) (hb : Nat) (SB SO : Nat → Nat) : StW z w [] hb SB SO :=
  ⟨fun i hi => absurd hi (Nat.not_lt_zero i), fun i hi => absurd hi (Nat.not_lt_zero i), fun i hi => absurd hi (Nat.not_lt_zero i), fun h => absurd h (Nat.not_lt_zero 0), fun i hi => absurd hi (Nat.not_lt_zero i)⟩
theorem RowOwn.toRow {w : World} {b o n : Nat} {f : Nat → Int} {z : List Int} (h : RowOwn w b o n f) (e : z = mkR n f) : RowOwn w b o z.length (fun j => z.getD j 0) := by
  subst e
  refine ⟨fun j hj => ?_, fun j hj => ?_⟩
  · rw [mkR_len] at hj; show _ = some (Value.int .i64 ((mkR n f).getD j 0)); rw [mkR_at _ hj]; exact h.cell j hj
  · rw [mkR_len] at hj; exact h.free j hj
theorem StW.one {z : Nat} {w : World} {T : TypeId} {b o c : Nat} {x : List Int} (h : RowOwn w b o x.length (fun j => x.getD j 0)) (h0 : z ≤ b) (h1 : b < w.heap.size) (hz : z ≤ w.heap.size) : StW z (w.alloc (.cells #[.slice (some ⟨b, o, none⟩) x.length c] T)) [x] w.heap.size (fun _ => b) (fun _ => o) where
  hdr s hs := by
    have : s = 0 := by simp at hs; omega
    subst this
    exact ⟨c, by simp [go_sem, rw']⟩
  row s hs := by
    have : s = 0 := by simp at hs; omega
    subst this
    exact h.stay ((below_alloc w _).block b h1)
  rng s hs := ⟨h0, Nat.lt_of_lt_of_le h1 (size_alloc w _)⟩
  hh _ := ⟨hz, lt_alloc w _⟩
  apart s hs s' hs' hne := by simp at hs hs'; omega
theorem StW.two {z : Nat} {w : World} {T : TypeId} {b o c b' o' c' : Nat} {x y : List Int} (h : RowOwn w b o x.length (fun j => x.getD j 0)) (k : RowOwn w b' o' y.length (fun j => y.getD j 0)) (h0 : z ≤ b) (h1 : b < w.heap.size) (k0 : z ≤ b') (k1 : b' < w.heap.size) (hz : z ≤ w.heap.size) (hne : b ≠ b') : StW z (w.alloc (.cells #[.slice (some ⟨b, o, none⟩) x.length c, .slice (some ⟨b', o', none⟩) y.length c'] T)) [x, y] w.heap.size (fun s => if s = 0 then b else b') (fun s => if s = 0 then o else o') where
  hdr s hs := by
    match s, hs with
    | 0, _ => exact ⟨c, nw0 w _ _ T⟩
    | 1, _ => exact ⟨c', nw1 w _ _ T⟩
  row s hs := by
    match s, hs with
    | 0, _ => exact h.stay ((below_alloc w _).block b h1)
    | 1, _ => exact k.stay ((below_alloc w _).block b' k1)
  rng s hs := by
    match s, hs with
    | 0, _ => exact ⟨h0, Nat.lt_of_lt_of_le h1 (size_alloc w _)⟩
    | 1, _ => exact ⟨k0, Nat.lt_of_lt_of_le k1 (size_alloc w _)⟩
  hh _ := ⟨hz, lt_alloc w _⟩
  apart s hs s' hs' h' := by
    match s, hs, s', hs', h' with
    | 0, _, 0, _, h' => exact absurd rfl h'
    | 0, _, 1, _, _ => exact hne
    | 1, _, 0, _, _ => exact fun e => hne e.symm
    | 1, _, 1, _, h' => exact absurd rfl h'
end Go.Proofs.YthbkfpkeofpocaaGreat
