/-
  A stack that takes a word without letters.
-/
import Derived.Test.YtfechjhngcmdpabAa
import Derived.Laws.AppendOwnNone
namespace Go.Proofs.Ytfechjhngcmdpab.fr
open Go.RowKit Go.Proofs.Ytfechjhngcmdpab.sl Go.Proofs.Ytfechjhngcmdpab.pm Go.Proofs.Ytfechjhngcmdpab.bw Go.Proofs.Ytfechjhngcmdpab.br Go.Proofs.Ytfechjhngcmdpab.fv Go.Proofs.Ytfechjhngcmdpab.fn
set_option linter.unusedVariables false

/-- append(stack, nil...): one operation of a region. -/
theorem step_app0 {ops : Array Oper} {o : Oper} {a : Act} {K : Act → World → Prop} {Q : Exit → Act → World → Prop} {E : Prop} {w : World} (hgd : o.guard = none) (s x : Operand) (T U : TypeId) (hT : Try.prog.underlying T = some (.slice 2)) (hU : Try.prog.underlying U = some (.slice 2))
    (hop : o.op = .call { callee := .builtin .append, args := #[s, x], argTypes := #[T, U] })
    (n₀ : Nat) (v : Value) (xs : List Int) (ho : Row w n₀ v xs) (hs : a.eval s = v) (hx : a.eval x = .slice none 0 0)
    (hK : K (a.put o.dst v) w) : if Region.wanted o (yielded ops a.tmps) = true then Oper.wp Try.prog o a w K Q else E := by
  have hw : Region.wanted o (yielded ops a.tmps) = true := by simp [Region.wanted, hgd]
  rw [if_pos hw]
  obtain ⟨i0, hi', hz0, hz1, hz2⟩ := info_parts info64
  have hr := run_append_owned_none (P := Try.prog) (w := w) n₀ T o.type 2 i0 1 hT hi' v xs.length (xs.map (Value.int .i64)) ho
  unfold Oper.wp execOp
  simp only [hop, resolve, invoke, builtin, Sem.run_bind, Sem.run_pure, Result.andThen_ok, List.map_toArray, List.map_cons, List.map_nil, hs, hx, append_two T U hT hU, hr]
  exact hK

set_option maxHeartbeats 2000000 in
theorem push0 (xs : List Int) (v : Value) (b n₀ : Nat) (w : World) (hv : Boxed w b 56 v) (hrow : Row w n₀ v xs) (hn₀ : n₀ ≤ w.heap.size) (hb : n₀ ≤ b) (hn : xs.length ≤ 1000000) :
    Calls Try.prog 37 #[.pointer (some ⟨b, 0, none⟩), .slice none 0 0] w fun e w' =>
      (∃ r, e = .returned r) ∧ ∃ v' c, Canc xs [] c ∧ Boxed w' b 56 v' ∧ Row w' n₀ v' (pushL xs [] c) ∧ KeepsOthers w w' ∧ Below n₀ w w' := by
  have HCt := hid (count xs [] v (.slice none 0 0) w.heap.size w.heap.size w (row_own hrow).ints (.inl ⟨rfl, none, 0, rfl⟩) (Nat.le_refl _) (Nat.le_refl _) hn (by simp) (fun j hj => by simp at hj))
  have hc0 := hv.cell
  have hf0 := hv.frozen
  have hvv := row_val hrow
  have HAp := hid (fun (W : World) (h1 : Boxed W b 56 v) (h2 : Row W n₀ v xs) (h3 : n₀ ≤ W.heap.size) => appended h1 h2 h3 hb h2 (⟨rfl, rfl, rfl, Nat.le_refl _, fun _ _ _ => rfl⟩ : W.grownBy W v.ownBlock))
  have HV := hid hv
  have HR := hid hrow
  have HLn := hid (rfl : xs.length = xs.length)
  have h22 : Try.prog.underlying 23 = some (.slice 2) := Try.underlying23
  have hw0 : IntKind.i64.wrap 0 = 0 := by decide
  rcases hvv with ⟨rfl, hx0⟩ | ⟨g, cap, rfl, hcap, hcm⟩
  · clear hrow hv
    subst hx0
    go_enter Try.func37, Try.ntmps37
    go_wp2_with fail
    refine HCt.out.mono ?_
    rintro e w1 ⟨c, rfl, hcc, q, rfl⟩
    have hc00 : c = 0 := by have := hcc.ly; simpa using this
    subst hc00
    have HCc := hid hcc
    clear hcc
    have HRd : Hid (Row (w.drewN (q + 1)) n₀ (.slice none 0 0) []) := hid HR.out
    have HX := hid (HAp.out (w.drewN (q + 1)) HV.out HR.out hn₀)
    go_wp2_with fail
    go_region_law (refine step_app0 rfl _ _ _ _ infoFS h22 rfl n₀ (.slice none 0 0) [] HRd.out rfl rfl ?_)
    all_goals (try go_wp2)
    all_goals
      go_end0
      refine ⟨⟨_, rfl⟩, .slice none 0 0, 0, HCc.out, HX.out.2.1, by simpa [pushL] using HX.out.2.2.1, ?_, ?_⟩
      · exact ⟨HX.out.2.2.2.1.size, HX.out.2.2.2.1.same⟩
      · exact ⟨HX.out.2.2.2.2.os, HX.out.2.2.2.2.tape, HX.out.2.2.2.2.output, HX.out.2.2.2.2.size, HX.out.2.2.2.2.block⟩
  · obtain ⟨n, hnn⟩ : ∃ n, n = xs.length := ⟨_, rfl⟩
    have hpl : pushL xs [] 0 = xs := by simp [pushL]
    rw [← hnn] at hcap hn
    have HPl := hid hpl
    clear hrow hv hpl
    rw [← hnn] at HCt hc0 HAp HV HR
    clear HLn hnn
    go_enter Try.func37, Try.ntmps37
    go_wp2_with fail
    refine HCt.out.mono ?_
    rintro e w1 ⟨c, rfl, hcc, q, rfl⟩
    have hc00 : c = 0 := by have := hcc.ly; simpa using this
    subst hc00
    have HCc := hid hcc
    clear hcc
    have HRd : Hid (Row (w.drewN (q + 1)) n₀ (.slice (some ⟨g, 0, none⟩) n cap) xs) := hid HR.out
    have HX := hid (HAp.out (w.drewN (q + 1)) HV.out HR.out hn₀)
    have hwk : IntKind.i64.wrap ((n : Int) - 0) = (n : Int) := by rw [IntWalk.i64_in _ (by omega)]; omega
    have hwk2 : IntKind.i64.wrap (n : Int) = (n : Int) := IntWalk.i64_in _ (by omega)
    have hkI : (n : Int) ≤ (cap : Int) := by omega
    have hk0 : (0 : Int) ≤ (n : Int) := by omega
    go_wp2_with fail
    go_region_law (refine step_app0 rfl _ _ _ _ infoFS h22 rfl n₀ (.slice (some ⟨g, 0, none⟩) n cap) xs HRd.out rfl rfl ?_)
    all_goals (try go_wp2)
    all_goals
      go_end0
      refine ⟨⟨_, rfl⟩, .slice (some ⟨g, 0, none⟩) n cap, 0, HCc.out, HX.out.2.1, by rw [HPl.out]; exact HX.out.2.2.1, ?_, ?_⟩
      · exact ⟨HX.out.2.2.2.1.size, HX.out.2.2.2.1.same⟩
      · exact ⟨HX.out.2.2.2.2.os, HX.out.2.2.2.2.tape, HX.out.2.2.2.2.output, HX.out.2.2.2.2.size, HX.out.2.2.2.2.block⟩
end Go.Proofs.Ytfechjhngcmdpab.fr
