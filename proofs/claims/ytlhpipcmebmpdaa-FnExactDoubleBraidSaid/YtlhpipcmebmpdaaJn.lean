/-
  JoinBraids: the program's contract.
-/
import Derived.Test.YtlhpipcmebmpdaaWi
namespace Go.Proofs.Ytlhpipcmebmpdaa.br
open Go.RowKit Go.Proofs.Ytlhpipcmebmpdaa.sl Go.Proofs.Ytlhpipcmebmpdaa.pm Go.Proofs.Ytlhpipcmebmpdaa.bw Go.Proofs.Ytlhpipcmebmpdaa.fn
set_option linter.unusedVariables false

def jnOk (a b : Int) (xs ys : List Int) : Bool := okB a xs && okB b ys && decide (a = b) && decide (xs.length + ys.length ≤ 40)
def jnS (a b : Int) (xs ys : List Int) : Int := if jnOk a b xs ys = true then a else 0
def jnW (a b : Int) (xs ys : List Int) : List Int := if jnOk a b xs ys = true then xs ++ ys else []
def jnC (a b : Int) (xs ys : List Int) : Int := if okB a xs = false then 1 else if okB b ys = false then 1 else if ¬ a = b then 6 else if xs.length + ys.length ≤ 40 then 0 else 5
theorem jnW_len (a b : Int) (xs ys : List Int) : (jnW a b xs ys).length ≤ 1000 := by
  unfold jnW
  split
  · rename_i h
    simp only [jnOk, Bool.and_eq_true, decide_eq_true_eq] at h
    rw [List.length_append]; omega
  · simp
theorem jn_no {a b : Int} {xs ys : List Int} (h : jnOk a b xs ys = false) : jnS a b xs ys = 0 ∧ jnW a b xs ys = [] := by
  exact ⟨by rw [jnS, h]; rfl, by rw [jnW, h]; rfl⟩
theorem jn_join {a : Int} {xs ys : List Int} (h : okB a xs = true) (h2 : okB a ys = true) : joinS a [xs, ys] = jnS a a xs ys ∧ joinW a [xs, ys] = jnW a a xs ys ∧ joinC a [xs, ys] = jnC a a xs ys := by
  have hs := (ok_parts h).2.1
  have e : joinOk a [xs, ys] = jnOk a a xs ys := by
    simp only [joinOk, jnOk, h, h2, Bool.true_and, List.flatten_cons, List.flatten_nil, List.append_nil, List.length_append]
    rw [decide_eq_true hs]; simp
  refine ⟨by rw [joinS, jnS, e], by rw [joinW, jnW, e]; simp, ?_⟩
  rw [joinC, jnC, e, h, h2]
  simp only [jnOk, h, h2, Bool.true_and]
  simp
theorem wds_two (w : World) (B g : Nat) (a1 a2 : Option Addr) (c1 c2 : Nat) (xs ys : List Int) (h1 : w.cell? ⟨g, 0, none⟩ = some (.slice a1 xs.length c1)) (h2 : w.cell? ⟨g, 1, none⟩ = some (.slice a2 ys.length c2)) (i1 : Ints w B (.slice a1 xs.length c1) xs) (i2 : Ints w B (.slice a2 ys.length c2) ys) (n1 : NilOk (.slice a1 xs.length c1)) (n2 : NilOk (.slice a2 ys.length c2)) : Wds w B g [xs, ys] := by
  intro j hj
  match j, hj with
  | 0, _ => exact ⟨a1, c1, h1, i1, n1⟩
  | 1, _ => exact ⟨a2, c2, h2, i2, n2⟩
  | j + 2, hj => simp at hj; omega

/-- The code of a pair. -/
def jnP (a b : Int) (xs ys : List Int) : Int := if okB a xs = false then 1 else if okB b ys = false then 1 else if ¬ a = b then 6 else 0
theorem jnP_cases (a b : Int) (xs ys : List Int) : jnP a b xs ys = 1 ∨ jnP a b xs ys = 6 ∨ jnP a b xs ys = 0 := by
  unfold jnP; split
  · exact .inl rfl
  · split
    · exact .inl rfl
    · split
      · exact .inr (.inl rfl)
      · exact .inr (.inr rfl)
theorem jnP_err {a b : Int} {xs ys : List Int} (h : jnP a b xs ys ≠ 0) : jnOk a b xs ys = false ∧ jnC a b xs ys = jnP a b xs ys := by
  unfold jnP at h ⊢
  unfold jnC jnOk
  cases h1 : okB a xs
  · simp
  · cases h2 : okB b ys
    · simp
    · rw [h1, h2] at h
      have hab : ¬ a = b := fun e => h (by simp [e])
      simp [hab]
theorem jnP_ok {a b : Int} {xs ys : List Int} (h : jnP a b xs ys = 0) : okB a xs = true ∧ okB b ys = true ∧ a = b := by
  unfold jnP at h
  cases h1 : okB a xs
  · rw [h1] at h; simp at h
  · cases h2 : okB b ys
    · rw [h1, h2] at h; simp at h
    · rw [h1, h2] at h
      refine ⟨rfl, rfl, ?_⟩
      by_cases hab : a = b
      · exact hab
      · simp [hab] at h

end Go.Proofs.Ytlhpipcmebmpdaa.br
