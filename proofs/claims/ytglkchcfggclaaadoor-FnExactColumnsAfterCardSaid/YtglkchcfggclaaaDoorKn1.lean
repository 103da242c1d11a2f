/-
  stacksMade: the stacks of all columns that a row makes.
-/
import Derived.Test.YtglkchcfggclaaaDoorKn0
import Derived.Test.YtglkchcfggclaaaDoorSt0
import Derived.Test.YtglkchcfggclaaaDoorWd
namespace Go.Proofs.YtglkchcfggclaaaDoor.kn
open Go.RowKit Go.Proofs.YtglkchcfggclaaaDoor.sl Go.Proofs.YtglkchcfggclaaaDoor.br Go.Proofs.YtglkchcfggclaaaDoor.st Go.Proofs.YtglkchcfggclaaaDoor.fn
set_option linter.unusedVariables false

/-- The lists of the first i pairs, one behind the other. -/
def catTo (L : List Kn) (i : Nat) : List Int := (L.take i).flatMap Kn.ms
theorem catTo_zero (L : List Kn) : catTo L 0 = [] := rfl
theorem catTo_succ (L : List Kn) (i : Nat) (k : Kn) (h : L[i]? = some k) : catTo L (i + 1) = catTo L i ++ k.ms := by
  have hl : i < L.length := (List.getElem?_eq_some_iff.1 h).1
  rw [catTo, catTo, List.take_add_one, h]
  simp
theorem catTo_aft {ss ks : List Int} {n : Nat} {L : List Kn} (h : KL ss ks n L) : ∀ i, i ≤ n → catTo L i = aftTo ss ks i
  | 0, _ => rfl
  | i + 1, hi => by
    have hl : i < L.length := by rw [h.len]; omega
    have e : L[i]? = some L[i] := List.getElem?_eq_getElem hl
    rw [catTo_succ L i _ e, aftTo_succ, catTo_aft h i (by omega), (h.at_ i _ e).2]

set_option maxRecDepth 20000 in
set_option maxHeartbeats 1000000 in
theorem implMade (L : List Kn) (v : Value) (lo B : Nat) (w : World) (h : KR w lo B v L) (hn : L.length ≤ 16) (hm : ∀ k ∈ L, k.ms.length ≤ 8) (hone : ∀ k ∈ L, ∃ a n c b m d, k.tv = .slice a n c ∧ k.mv = .slice b m d) :
    Calls Tryd.prog 53 #[v] w fun e w' => ∃ v', e = .returned v' ∧ Own w' w.heap.size w'.heap.size v' (catTo L L.length) ∧ Below w.heap.size w w' := by
  obtain ⟨ao, cap, hv⟩ := h.val
  by_cases h0 : L.length = 0
  · have HF : Hid (catTo L L.length = []) := hid (by rw [h0]; rfl)
    rw [h0] at hv
    subst hv
    have HO := hid ((Own.built w #[] rfl))
    clear h hm hone
    go_enter Tryd.func53, Tryd.ntmps53
    go_wp2
    refine wp_loop_rounds 1 ?_
    rw [rounds_succ]
    go_wp2
    go_ret
    exact ⟨_, rfl, by rw [HF.out]; exact HO.out, (Below.refl _ _).alloc (Nat.le_refl _) _⟩
  · obtain ⟨g, c, hv2, hg⟩ := h.addr (by omega)
    subst hv2
    clear hv
    have HH := hid h
    have HM := hid hm
    have HOn := hid hone
    have HT := hid (fun i => show (catTo L i).length ≤ 8 * i from by
      induction i with
      | zero => simp [catTo]
      | succ i ih =>
        cases e : L[i]? with
        | none =>
          have hl : L.length ≤ i := by simpa using e
          have : catTo L (i + 1) = catTo L i := by rw [catTo, catTo, List.take_of_length_le (by omega), List.take_of_length_le hl]
          rw [this]; omega
        | some k =>
          rw [catTo_succ L i k e, List.length_append]
          have := hm k (List.mem_of_getElem? e)
          omega)
    clear h hm hone
    obtain ⟨n, hnn⟩ : ∃ n, n = L.length := ⟨_, rfl⟩
    rw [← hnn] at hn HH h0 ⊢
    have HN := hid hnn
    clear hnn
    have HO0 : Hid (Own (w.alloc (.cells #[] 2)) w.heap.size (w.alloc (.cells #[] 2)).heap.size (.slice (some ⟨w.heap.size, 0, none⟩) 0 0) (catTo L 0)) := hid (Own.built w #[] rfl)
    have HB0 := hid ((Below.refl w.heap.size w).alloc (Nat.le_refl _) (.cells #[] 2))
    go_enter Tryd.func53, Tryd.ntmps53
    go_wp2
    go_loopw [3, 9] (fun u i wr => ∃ k : Nat, k ≤ n ∧ i = .int .i64 k ∧ Own wr w.heap.size wr.heap.size u (catTo L k) ∧ Below w.heap.size w wr) (fun _ i _ => n - (intOf i).toNat)
    case atStart => exact ⟨0, Nat.zero_le _, rfl, HO0.out, HB0.out⟩
    case round =>
      obtain ⟨k, hk, rfl, hown, hbel⟩ := hrel
      have HO := hid hown
      have HB := hid hbel
      clear hown hbel HO0 HB0
      by_cases hlt : k < n
      · obtain ⟨x, hx⟩ : ∃ x, L[k]? = some x := ⟨L[k]'(by rw [← HN.out]; exact hlt), List.getElem?_eq_getElem _⟩
        have hmem := List.mem_of_getElem? hx
        obtain ⟨a1, n1, c1, a2, n2, c2, ht, hmv⟩ := HOn.out x hmem
        obtain ⟨Lo, Hi, o1, o2, o3⟩ := HH.out.ms x hmem
        have hcell := HH.out.at k x hx
        have hS := hid (catTo_succ L k x hx)
        have hlen := HM.out x hmem
        have hTk := HT.out k
        rw [ht, hmv] at hcell
        rw [hmv] at o1
        have HI := hid (o1.ints.chg (Chg.ofBelow (lo := 0) HB.out) (.inr (Nat.zero_le _)))
        have HNil := hid (nilok_own o1)
        have d0 := (HB.out.cell (p := ⟨g, k * 2, none⟩) (by show g < _; omega)).trans hcell.1
        have d1 := (HB.out.cell (p := ⟨g, k * 2 + 1, none⟩) (by show g < _; omega)).trans hcell.2
        generalize x.ms = ys at *
        clear hcell hmem hx ht hmv o1 o2 o3
        have HIa := hid (fun o => ints_al HI.out o)
        have HOa := hid (HO.out.chg (Chg.ofBelow (lo := 0) ((Below.refl wr.heap.size wr).alloc (Nat.le_refl _) (.cells #[.slice a1 n1 c1, .slice a2 n2 c2] 74))) (.inr (.inr (Nat.zero_le _))))
        have HBa := hid (HB.out.alloc HB.out.size (.cells #[.slice a1 n1 c1, .slice a2 n2 c2] 74))
        have hzr := HB.out.size
        go_wp2_with (at_builtin; refine wp_appendAll rfl _ _ rfl w.heap.size _ _ (catTo L k) HOa.out rfl (.slice a2 n2 c2) ys _ (HIa.out _) HNil.out rfl (by simp; omega) (by have := HT.out k; omega) ?_; intro v' w3 o3 c3; have HO3 := hid o3; have HB3 := hid (HBa.out.trans (c3.below (Nat.le_refl _) (by simp; omega))); clear o3 c3)
        go_roundw
        case rel => exact ⟨k + 1, by omega, by go_num, by rw [hS.out]; exact HO3.out, HB3.out⟩
        case measure => simp [intOf]; omega
      · obtain rfl : k = n := by omega
        go_wp2
        go_ret
        exact ⟨_, rfl, HO.out, HB.out⟩
end Go.Proofs.YtglkchcfggclaaaDoor.kn
