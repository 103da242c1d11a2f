/-
  Valid machines: mathematics.
-/
import Derived.Test.YtlhpipcmebmpdabMc1
import Derived.Test.YtlhpipcmebmpdabVo
namespace Go.Proofs.Ytlhpipcmebmpdab.mc
open Go.RowKit Go.Sort Go.Proofs.Ytlhpipcmebmpdab.sl Go.Proofs.Ytlhpipcmebmpdab.br
set_option linter.unusedVariables false
set_option linter.unusedSimpArgs false

def inB (lo hi x : Int) : Bool := decide (lo ≤ x ∧ x ≤ hi)
def longB (r : List Int) : Bool := decide ((4 : Int) < (r.length : Int))
def stkB (W : Int) (rows : List (List Int)) : Bool := ((rows.length : Int) == W) && !(rows.any longB)
def carW (W : Int) (c : ca.V) : Bool := !(inB (-3) (W + 3) c.a1) || (!c.a0 && !(c.a1 == 0))
def carB (W : Int) (cs : List ca.V) : Bool := ((cs.length : Int) == 4) && !(cs.any (carW W))
/-- Different numbers below n. -/
def diffB (n : Int) (xs : List Int) : Bool := xs.all (inB 0 (n - 1)) && decide xs.Nodup
structure PreD (n : Int) (xs : List Int) (k : Nat) : Prop where
  rg : ∀ j, j < k → inB 0 (n - 1) (xs.getD j 0) = true
  nd : (xs.take k).Nodup
theorem getD_get {xs : List Int} {k : Nat} (h : k < xs.length) : xs.getD k 0 = xs[k] := by simp [List.getD, List.getElem?_eq_getElem h]
theorem take_snoc {xs : List Int} {k : Nat} (h : k < xs.length) : xs.take (k + 1) = xs.take k ++ [xs.getD k 0] := by
  rw [List.take_succ_eq_append_getElem h, getD_get h]
theorem preD_zero (n : Int) (xs : List Int) : PreD n xs 0 := ⟨fun j hj => by omega, by simp⟩
theorem nodup_snoc {l : List Int} {x : Int} (h : l.Nodup) (hx : x ∉ l) : (l ++ [x]).Nodup := by
  rw [List.nodup_append]
  refine ⟨h, by simp, fun a ha b hb => ?_⟩
  simp only [List.mem_singleton] at hb
  subst hb
  rintro rfl
  exact hx ha
theorem preD_step {n : Int} {xs : List Int} {k : Nat} (p : PreD n xs k) (hk : k < xs.length) (h1 : inB 0 (n - 1) (xs.getD k 0) = true) (h2 : xs.getD k 0 ∉ xs.take k) : PreD n xs (k + 1) := by
  refine ⟨fun j hj => ?_, ?_⟩
  · rcases Nat.lt_or_ge j k with h | h
    · exact p.rg j h
    · obtain rfl : j = k := by omega
      exact h1
  · rw [take_snoc hk]
    exact nodup_snoc p.nd h2
theorem diff_bad1 {n : Int} {xs : List Int} {k : Nat} (hk : k < xs.length) (h : inB 0 (n - 1) (xs.getD k 0) = false) : diffB n xs = false := by
  have : xs.all (inB 0 (n - 1)) = false := by
    rw [List.all_eq_false]
    refine ⟨xs.getD k 0, ?_, by rw [h]; simp⟩
    rw [getD_get hk]; exact List.getElem_mem hk
  simp [diffB, this]
theorem diff_bad2 {n : Int} {xs : List Int} {k : Nat} (hk : k < xs.length) (h : xs.getD k 0 ∈ xs.take k) : diffB n xs = false := by
  have : ¬ xs.Nodup := by
    intro hn
    have e : xs = xs.take (k + 1) ++ xs.drop (k + 1) := (List.take_append_drop _ _).symm
    rw [e, take_snoc hk] at hn
    have h1 := (List.nodup_append.1 hn).1
    have h2 := (List.nodup_append.1 h1).2.2 (xs.getD k 0) h (xs.getD k 0) (by simp)
    exact h2 rfl
  simp [diffB, this]
theorem diff_good {n : Int} {xs : List Int} (p : PreD n xs xs.length) : diffB n xs = true := by
  have h1 : xs.all (inB 0 (n - 1)) = true := by
    rw [List.all_eq_true]
    intro x hx
    obtain ⟨j, hj, rfl⟩ := List.getElem_of_mem hx
    have := p.rg j hj
    rwa [getD_get hj] at this
  have h2 : xs.Nodup := by have := p.nd; rwa [List.take_length] at this
  simp [diffB, h1, h2]
theorem diff_parts {n : Int} {xs : List Int} (h : diffB n xs = true) : (∀ j, j < xs.length → inB 0 (n - 1) (xs.getD j 0) = true) ∧ xs.Nodup := by
  simp only [diffB, Bool.and_eq_true, List.all_eq_true, decide_eq_true_eq] at h
  exact ⟨fun j hj => h.1 _ (by rw [getD_get hj]; exact List.getElem_mem hj), h.2⟩
def kindB (k : Int) (n : Int) : Bool := if k = 1 then decide (n ≤ 4) else if k = 2 then n == 0 else if k = 5 then inB 1 4 n else false
def infB (W : Int) (x : nf.V) : Bool := kindB x.a0 x.ps.length && (vo.carB x.a1 && (inB 1 2 x.a2 && (inB 0 (W - 1) x.a3 && vo.dirB x.a4)))
def infX (W : Int) (i : Nat) (x : nf.V) : Bool := infB W x && diffB (i : Int) x.ps
def infsB (W : Int) (ls : List nf.V) : Bool := decide ((ls.length : Int) ≤ 300) && (List.range ls.length).all fun i => infX W i (ls.getD i nf.iz)
theorem infs_long {W : Int} {ls : List nf.V} (h : (300 : Int) < (ls.length : Int)) : infsB W ls = false := by
  have : ¬ (ls.length : Int) ≤ 300 := by omega
  simp [infsB, this]
theorem infs_bad {W : Int} {ls : List nf.V} {k : Nat} (hk : k < ls.length) (h : infX W k (ls.getD k nf.iz) = false) : infsB W ls = false := by
  have : ((List.range ls.length).all fun i => infX W i (ls.getD i nf.iz)) = false := by
    rw [List.all_eq_false]
    exact ⟨k, by simpa using hk, by rw [h]; simp⟩
  rw [infsB, this, Bool.and_false]
theorem infs_good {W : Int} {ls : List nf.V} (h1 : ¬ (300 : Int) < (ls.length : Int)) (h : ∀ k, k < ls.length → infX W k (ls.getD k nf.iz) = true) : infsB W ls = true := by
  have h2 : ((List.range ls.length).all fun i => infX W i (ls.getD i nf.iz)) = true := by
    rw [List.all_eq_true]
    intro k hk
    exact h k (by simpa using hk)
  have h3 : (ls.length : Int) ≤ 300 := by omega
  rw [infsB, h2, Bool.and_true]; exact decide_eq_true h3
theorem infs_parts {W : Int} {ls : List nf.V} (h : infsB W ls = true) : ls.length ≤ 300 ∧ ∀ k, k < ls.length → infX W k (ls.getD k nf.iz) = true := by
  simp only [infsB, Bool.and_eq_true, List.all_eq_true, decide_eq_true_eq] at h
  exact ⟨by omega, fun k hk => h.2 k (by simpa using hk)⟩
/-- Rising numbers. -/
def incB (dr : List Int) : Bool := (List.range (dr.length - 1)).all fun j => decide (dr.getD j 0 < dr.getD (j + 1) 0)
theorem inc_bad {dr : List Int} {k : Nat} (hk : k + 1 < dr.length) (h : ¬ dr.getD k 0 < dr.getD (k + 1) 0) : incB dr = false := by
  unfold incB
  rw [List.all_eq_false]
  exact ⟨k, by rw [List.mem_range]; omega, by rw [decide_eq_false h]; simp⟩
theorem inc_good {dr : List Int} (h : ∀ k, k + 1 < dr.length → dr.getD k 0 < dr.getD (k + 1) 0) : incB dr = true := by
  unfold incB
  rw [List.all_eq_true]
  intro k hk
  simp only [List.mem_range] at hk
  simpa using h k (by omega)
def placeB (m : Mch) : Bool := incB m.dr && diffB (m.ls.length : Int) ((m.fr ++ m.bk).flatten ++ m.dr)
/-- The machine is valid. -/
def okM (W R : Int) (m : Mch) : Bool := inB 1 24 W && (inB (-3) 3 R && (stkB W m.fr && (stkB W m.bk && (carB W m.cs && (infsB W m.ls && placeB m)))))
theorem stk_parts {W : Int} {rows : List (List Int)} (h : stkB W rows = true) : (rows.length : Int) = W ∧ ∀ j, j < rows.length → (rows.getD j []).length ≤ 4 := by
  simp only [stkB, Bool.and_eq_true, beq_iff_eq, Bool.not_eq_true', List.any_eq_false] at h
  refine ⟨h.1, fun j hj => ?_⟩
  have e : rows.getD j [] = rows[j] := by simp [List.getD, List.getElem?_eq_getElem hj]
  have h2 := h.2 _ (List.getElem_mem hj)
  rw [e]
  simp only [longB, decide_eq_true_eq] at h2
  omega
theorem flat_le (rows : List (List Int)) (n : Nat) (h : ∀ r ∈ rows, r.length ≤ n) : rows.flatten.length ≤ rows.length * n := by
  induction rows with
  | nil => simp
  | cons r t ih =>
    have h1 := h r (by simp)
    have h2 := ih (fun x hx => h x (by simp [hx]))
    simp only [List.flatten_cons, List.length_append, List.length_cons]
    rw [Nat.add_mul]; omega
theorem stk_flat {W : Int} {rows : List (List Int)} (h : stkB W rows = true) : rows.flatten.length ≤ rows.length * 4 := by
  refine flat_le rows 4 fun r hr => ?_
  obtain ⟨j, hj, rfl⟩ := List.getElem_of_mem hr
  have := (stk_parts h).2 j hj
  rwa [show rows.getD j [] = rows[j] from by simp [List.getD, List.getElem?_eq_getElem hj]] at this
structure OkM (W R : Int) (m : Mch) : Prop where
  w : 1 ≤ W ∧ W ≤ 24
  r : -3 ≤ R ∧ R ≤ 3
  fr : stkB W m.fr = true
  bk : stkB W m.bk = true
  cs : carB W m.cs = true
  ls : infsB W m.ls = true
  pl : placeB m = true
theorem okM_parts {W R : Int} {m : Mch} (h : okM W R m = true) : OkM W R m := by
  simp only [okM, Bool.and_eq_true] at h
  obtain ⟨h0, h1, h2, h3, h4, h5, h6⟩ := h
  exact ⟨of_decide_eq_true h0, of_decide_eq_true h1, h2, h3, h4, h5, h6⟩
end Go.Proofs.Ytlhpipcmebmpdab.mc
