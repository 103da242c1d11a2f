/-
  The mirror image of a chart: its loops, its stacks, and that it is valid.
-/
import Derived.Test.YtbbnheiibkcgiabDoorMs0
import Derived.Test.YtbbnheiibkcgiabDoorCx0
namespace Go.Proofs.YtbbnheiibkcgiabDoor.cx
open Go.Proofs.YtbbnheiibkcgiabDoor.bw Go.Proofs.YtbbnheiibkcgiabDoor.st Go.Proofs.YtbbnheiibkcgiabDoor.ro
set_option linter.unusedVariables false

def mirV (r : V) : V := ⟨-r.a0, r.a1, mir r.ps⟩
theorem dl_mir {ss ks : List Int} (hF : kn.Fit ss ks) (i : Nat) (h : i < ks.length) : dl ss.reverse (mir ks) i = dl ss ks (ks.length - 1 - i) := by
  rw [dl, dl, mdn_mir hF.kn hF.tot i h, tkn_mir hF.kn hF.tot i h, sumL_rev, sumL_rev]
theorem lp_mir {d : Int} (hd : d = 1 ∨ d = -1) {ss ks : List Int} (hF : kn.Fit ss ks) : ∀ q, q ≤ ks.length → lpTo (-d) ss.reverse (mir ks) q = lpTo d ss ks q
  | 0, _ => by rw [lpTo, lpTo, sumL_rev]
  | q + 1, h => by
    rw [lpTo, lpTo, lp_mir hd hF q (by omega), mir_len]
    have hi : ix (-d) ks.length q < ks.length := by unfold ix; split <;> omega
    rw [dl_mir hF _ hi]
    have e : ks.length - 1 - ix (-d) ks.length q = ix d ks.length q := by
      rcases hd with rfl | rfl
      · simp [ix]; omega
      · simp [ix]
    rw [e]
theorem lw_mir {d : Int} (hd : d = 1 ∨ d = -1) {ss ks : List Int} (hF : kn.Fit ss ks) : lw (-d) ss.reverse (mir ks) = lw d ss ks := by
  have key : ∀ q, q ≤ ks.length → lowTo (-d) ss.reverse (mir ks) q = lowTo d ss ks q := by
    intro q
    induction q with
    | zero => intro _; rfl
    | succ q ih =>
      intro h
      rw [lowTo_succ, lowTo_succ, ih (by omega), lp_mir hd hF (q + 1) h]
  rw [lw, lw, mir_len]
  exact key _ (Nat.le_refl _)
theorem dir_neg (d : Int) : vo.dirB (-d) = vo.dirB d := by
  unfold vo.dirB
  rw [Bool.eq_iff_iff]
  simp
  omega
theorem row_mir (d c : Int) (ks : List Int) : vr5.rowB (-d) c (mir ks) = vr5.rowB d c ks := by rw [vr5.rowB, vr5.rowB, dir_neg, lst_mir]
theorem dir_of {d c : Int} {ks : List Int} (h : vr5.rowB d c ks = true) : d = 1 ∨ d = -1 := by
  simp only [vr5.rowB, vo.dirB, Bool.and_eq_true] at h
  have := h.1
  simp at this
  omega
theorem rowOk_mir (now : List Int) (r : V) : rowOk now.reverse (mirV r) = rowOk now r := by
  rw [rowOk, rowOk]
  show (vr5.rowB (-r.a0) r.a1 (mir r.ps) && (decide (saC now.reverse (mir r.ps) = 0) && lw (-r.a0) now.reverse (mir r.ps))) = _
  rw [row_mir, saC_mir]
  cases h1 : vr5.rowB r.a0 r.a1 r.ps
  · rfl
  by_cases h2 : saC now r.ps = 0
  · rw [lw_mir (dir_of h1) (good_of h2).toFit]
  · simp [h2]
theorem mir_iz : mirV iz = iz := rfl
theorem mirV_at (rows : List V) (i : Nat) : (rows.map mirV).getD i iz = mirV (rows.getD i iz) := by
  simp only [List.getD, List.getElem?_map]
  cases rows[i]? with
  | none => exact mir_iz.symm
  | some r => rfl
theorem now_mir (c : Int) (rows : List V) : ∀ i, nowAt c (rows.map mirV) i = (nowAt c rows i).reverse
  | 0 => by rw [nowAt, nowAt, List.reverse_replicate]
  | i + 1 => by
    rw [nowAt, nowAt, now_mir c rows i, mirV_at]
    exact saW_mir _ _
theorem ok_mir (c : Int) (rows : List V) (i : Nat) : okTo c (rows.map mirV) i = okTo c rows i := by
  rw [okTo, okTo]
  refine congrArg (fun f => (List.range i).all f) (funext fun j => ?_)
  rw [now_mir, mirV_at, rowOk_mir]
theorem ch_mir (c : Int) (rows : List V) : chB c (rows.map mirV) = chB c rows := by rw [chB, chB, List.length_map, ok_mir]
theorem chW_mir (c : Int) (rows : List V) : chW c (rows.map mirV) = (chW c rows).map List.reverse := by
  rw [chW, chW, ch_mir, List.length_map]
  cases chB c rows
  · rfl
  · show chL c (rows.map mirV) rows.length = (chL c rows rows.length).map List.reverse
    rw [chL, chL, List.map_map]
    refine List.map_congr_left fun j _ => ?_
    exact now_mir c rows (j + 1)
end Go.Proofs.YtbbnheiibkcgiabDoor.cx
