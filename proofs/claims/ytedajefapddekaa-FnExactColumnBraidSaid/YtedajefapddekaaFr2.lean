/-
  A reduced word that grows: contract of push.
-/
import Derived.Test.YtedajefapddekaaFr1
import Derived.Test.YtedajefapddekaaWd
import Derived.RangeFuncBox
import Derived.RegionTactic
import Derived.Deep.RegionLaw
namespace Go.Proofs.Ytedajefapddekaa.fr
open Go.RowKit Go.Proofs.Ytedajefapddekaa.sl Go.Proofs.Ytedajefapddekaa.pm Go.Proofs.Ytedajefapddekaa.bw Go.Proofs.Ytedajefapddekaa.br Go.Proofs.Ytedajefapddekaa.fv Go.Proofs.Ytedajefapddekaa.fn
set_option linter.unusedVariables false

theorem infoFS : Try.prog.underlying 150 = some (.slice 2) := by kernel_rfl
/-- The row that a stack owns. -/
def Row (W : World) (n₀ : Nat) (v : Value) (xs : List Int) : Prop := W.ownsRow n₀ 2 1 v xs.length (xs.map (Value.int .i64))

/-- The second argument's type is only asked whether it is a number's. -/
theorem append_two (T U : TypeId) (hT : Try.prog.underlying T = some (.slice 2)) (hU : Try.prog.underlying U = some (.slice 2)) (ty : TypeId) (v u : Value) (w : World) :
    (Builtin.append_ #[T, U] ty #[v, u]).run Try.prog w = (Builtin.append_ #[T, T] ty #[v, u]).run Try.prog w := by
  cases v <;> simp [Builtin.append_, run_underlying hT, run_underlying hU]

/-- append(stack, word...): one operation of a region. -/
theorem step_app {ops : Array Oper} {o : Oper} {a : Act} {K : Act → World → Prop} {Q : Exit → Act → World → Prop} {E : Prop} {w : World} (hgd : o.guard = none) (s x : Operand) (T U : TypeId) (hT : Try.prog.underlying T = some (.slice 2)) (hU : Try.prog.underlying U = some (.slice 2))
    (hop : o.op = .call { callee := .builtin .append, args := #[s, x], argTypes := #[T, U] })
    (n₀ : Nat) (v : Value) (xs : List Int) (ho : Row w n₀ v xs) (hs : a.eval s = v) (ad : Addr) (m cap : Nat) (ys : List Int) (hm : m = ys.length) (hx : a.eval x = .slice (some ad) m cap) (hc : ∀ j, j < ys.length → w.cell? (ad.add j) = some (.int .i64 (ys.getD j 0))) (hlo : n₀ ≤ w.heap.size) (hn : xs.length + ys.length ≤ 1099511627776)
    (hK : ∀ v' w', Row w' n₀ v' (xs ++ ys) → w.grownBy w' v.ownBlock → K (a.put o.dst v') w') : if Region.wanted o (yielded ops a.tmps) = true then Oper.wp Try.prog o a w K Q else E := by
  have hw : Region.wanted o (yielded ops a.tmps) = true := by simp [Region.wanted, hgd]
  rw [if_pos hw]
  subst hm
  obtain ⟨i0, hi', hz0, hz1, hz2⟩ := info_parts info64
  obtain ⟨v', w', hr, h2, h3, h4⟩ := run_append_own (P := Try.prog) w n₀ T o.type 2 i0 (.int .i64 0) 1 8 hT hi' hz0 hz1 hz2 rfl (by decide) v xs.length (xs.map (Value.int .i64)) ho ad ys.length cap (ys.map (Value.int .i64)) (by simp)
    (fun j q hj => by
      have hj' : j < ys.length := by
        have := (List.getElem?_eq_some_iff.1 hj).1
        simpa using this
      rw [hc j hj']
      simp only [List.getElem?_map, List.getElem?_eq_getElem hj', Option.map_some, Option.some.injEq] at hj
      rw [← hj]
      simp [List.getD, List.getElem?_eq_getElem hj'])
    (ints_oneCell _ _) (by unfold maxLen; omega) (by omega) hlo
  unfold Oper.wp execOp
  simp only [hop, resolve, invoke, builtin, Sem.run_bind, Sem.run_pure, Result.andThen_ok, List.map_toArray, List.map_cons, List.map_nil, hs, hx, append_two T U hT hU, hr]
  exact hK v' w' (by unfold Row; rw [List.length_append, List.map_append]; exact h2) h3

/-- A stack that is cut down. -/
theorem row_cut {w : World} {n₀ n cap m : Nat} {ao : Option Addr} {xs : List Int} (o : Row w n₀ (.slice ao n cap) xs) (hm : m ≤ xs.length) : Row w n₀ (.slice ao m cap) (xs.take m) := by
  have hl : (xs.take m).length = m := by simp; omega
  unfold Row
  rw [hl]
  refine ⟨by simp; omega, ?_⟩
  rcases o.2 with ⟨h1, h2⟩ | ⟨g, c, cur, h1, h2, h3, h4, h5, h6, h7⟩
  · cases h1
    obtain rfl : m = 0 := by omega
    exact .inl ⟨rfl, rfl⟩
  · cases h1
    refine .inr ⟨g, cap, cur, rfl, h2, h3, by omega, h5, h6, ?_⟩
    have e : cur.toList.take (m * 1) = (cur.toList.take (xs.length * 1)).take m := by rw [List.take_take]; congr 1; omega
    rw [e, h7, List.map_take]
theorem row_val {w : World} {n₀ : Nat} {v : Value} {xs : List Int} (o : Row w n₀ v xs) : (v = .slice none 0 0 ∧ xs = []) ∨ ∃ g cap, v = .slice (some ⟨g, 0, none⟩) xs.length cap ∧ xs.length ≤ cap ∧ cap ≤ 9223372036854775807 := by
  rcases o.2 with ⟨h1, h2⟩ | ⟨g, c, cur, h1, h2, h3, h4, h5, h6, h7⟩
  · exact .inl ⟨h1, List.length_eq_zero_iff.1 h2⟩
  · exact .inr ⟨g, c, h1, h4, by unfold maxLen at h5; omega⟩
theorem row_own {w : World} {n₀ : Nat} {v : Value} {xs : List Int} (o : Row w n₀ v xs) : sl.Own w n₀ w.heap.size v xs := sl.Own.mk' o

/-- Behind the append, and behind the store. -/
theorem appended {W w1 : World} {n₀ B : Nat} {v v' : Value} {xs zs : List Int} (hv : Boxed W B 150 v) (hrow : Row W n₀ v xs) (hn₀ : n₀ ≤ W.heap.size) (hB : n₀ ≤ B) (hown' : Row w1 n₀ v' zs) (hgrow : W.grownBy w1 v.ownBlock) :
    Boxed w1 B 150 v ∧ Boxed (w1.setCell ⟨B, 0, none⟩ v') B 150 v' ∧ Row (w1.setCell ⟨B, 0, none⟩ v') n₀ v' zs ∧ KeepsOthers W (w1.setCell ⟨B, 0, none⟩ v') ∧ Below n₀ W (w1.setCell ⟨B, 0, none⟩ v') := by
  have hte : (150 : TypeId) ≠ 2 := by decide
  have hv1 : Boxed w1 B 150 v := hv.kept hgrow (hv.not_row hte hrow)
  refine ⟨hv1, hv1.set v', World.ownsRow.kept hown' (grownBy_setCell' w1 B v') (.inr (hv1.not_row hte hown').symm), ?_, ?_⟩
  · refine (KeepsOthers.of_grownBy hgrow fun j o ej hj => ?_).trans (KeepsOthers.setCell _ _ _)
    rcases hrow.2 with ⟨rfl, _⟩ | ⟨g, cap, cur, rfl, _, hgb, _⟩
    · simp [Value.ownBlock] at ej
    · obtain rfl : g = j := by simpa [Value.ownBlock] using ej
      rw [hgb] at hj; cases hj; rfl
  · refine ((Below.refl n₀ W).grown hgrow hn₀ fun j ej => ?_).setCell (p := ⟨B, 0, none⟩) hB v'
    rcases hrow.2 with ⟨rfl, _⟩ | ⟨g, cap, cur, rfl, hb, _, _⟩
    · simp [Value.ownBlock] at ej
    · obtain rfl : g = j := by simpa [Value.ownBlock] using ej
      exact hb

/-- The append of push, and what its store then owes. -/
theorem step_push {ops : Array Oper} {o : Oper} {a : Act} {K : Act → World → Prop} {Q : Exit → Act → World → Prop} {E : Prop} {w : World} (hgd : o.guard = none) (s x : Operand) (T U : TypeId) (hT : Try.prog.underlying T = some (.slice 2)) (hU : Try.prog.underlying U = some (.slice 2))
    (hop : o.op = .call { callee := .builtin .append, args := #[s, x], argTypes := #[T, U] })
    (n₀ B : Nat) (v0 v : Value) (xs0 xs : List Int) (hv : Boxed w B 150 v0) (hr0 : Row w n₀ v0 xs0) (hB : n₀ ≤ B) (hob : v.ownBlock = v0.ownBlock) (ho : Row w n₀ v xs) (hs : a.eval s = v) (ad : Addr) (m cap : Nat) (ys : List Int) (hm : m = ys.length) (hx : a.eval x = .slice (some ad) m cap) (hc : ∀ j, j < ys.length → w.cell? (ad.add j) = some (.int .i64 (ys.getD j 0))) (hlo : n₀ ≤ w.heap.size) (hn : xs.length + ys.length ≤ 1099511627776)
    (hK : ∀ ao l c w', w'.cell? ⟨B, 0, none⟩ = some v0 → w'.frozen? ⟨B, 0, none⟩ = false →
      Hid (Boxed (w'.setCell ⟨B, 0, none⟩ (.slice ao l c)) B 150 (.slice ao l c) ∧ Row (w'.setCell ⟨B, 0, none⟩ (.slice ao l c)) n₀ (.slice ao l c) (xs ++ ys) ∧ KeepsOthers w (w'.setCell ⟨B, 0, none⟩ (.slice ao l c)) ∧ Below n₀ w (w'.setCell ⟨B, 0, none⟩ (.slice ao l c))) → K (a.put o.dst (.slice ao l c)) w') : if Region.wanted o (yielded ops a.tmps) = true then Oper.wp Try.prog o a w K Q else E := by
  refine step_app hgd s x T U hT hU hop n₀ v xs ho hs ad m cap ys hm hx hc hlo hn ?_
  intro v4 w4 hrow4 hgrow4
  rw [hob] at hgrow4
  obtain ⟨ao4, cap4, hv4⟩ := br.own_val (row_own hrow4)
  obtain ⟨bx4, bx5, rw5, ko5, be5⟩ := appended hv hr0 hlo hB hrow4 hgrow4
  have hb := bx4.cell
  have hf := bx4.frozen
  generalize (xs ++ ys).length = l4 at hv4
  subst hv4
  exact hK ao4 l4 cap4 w4 hb hf (hid ⟨bx5, rw5, ko5, be5⟩)

/-- What a reduced word makes of a stack. -/
def pushL (xs ys : List Int) (c : Nat) : List Int := xs.take (xs.length - c) ++ ys.drop c

set_option maxHeartbeats 2000000 in
theorem push (xs ys : List Int) (v : Value) (b n₀ C bb off dap : Nat) (w : World) (hv : Boxed w b 150 v) (hrow : Row w n₀ v xs) (hn₀ : n₀ ≤ w.heap.size) (hb : n₀ ≤ b)
    (hu : Ints w C (.slice (some ⟨bb, off, none⟩) ys.length dap) ys) (hC : C ≤ w.heap.size) (hd : ys.length ≤ dap ∧ dap ≤ 9223372036854775807) (hn : xs.length ≤ 1000000) (hm : ys.length ≤ 1000000) (hs : Small ys) :
    Calls Try.prog 130 #[.pointer (some ⟨b, 0, none⟩), .slice (some ⟨bb, off, none⟩) ys.length dap] w fun e w' =>
      (∃ r, e = .returned r) ∧ ∃ v' c, Canc xs ys c ∧ Boxed w' b 150 v' ∧ Row w' n₀ v' (pushL xs ys c) ∧ KeepsOthers w w' ∧ Below n₀ w w' := by
  have HS := hid hs
  have HU := hid hu
  have HV := hid hv
  have HR := hid hrow
  have HCt : Hid (Calls Try.prog 141 #[v, .slice (some ⟨bb, off, none⟩) ys.length dap, .func (.func 115) #[] #[]] w fun e w' => ∃ c : Nat, e = .returned (.int .i64 (c : Int)) ∧ Canc xs ys c ∧ ∃ q, w' = w.drewN q) :=
    hid (count xs ys v _ w.heap.size C w (row_own hrow).ints hu (Nat.le_refl _) hC hn hm hs)
  have hc0 := hv.cell
  have hvv := row_val hrow
  have HYc : Hid (∀ c j, c + j < ys.length → w.cell? ⟨bb, off + c + j, none⟩ = some (.int .i64 ((ys.drop c).getD j 0))) := hid (fun c j hj => by
    rcases hu with ⟨h, _⟩ | ⟨_, b', o', c', he, _, hcc⟩
    · rw [h] at hj; simp at hj
    · simp only [Value.slice.injEq, Option.some.injEq, Addr.mk.injEq] at he
      obtain ⟨⟨rfl, rfl, _⟩, _, _⟩ := he
      rw [show off + c + j = off + (c + j) by omega, hcc (c + j) hj]
      simp [List.getD, List.getElem?_drop])
  clear hs hu hv hrow
  obtain ⟨n, hnn⟩ : ∃ n, n = xs.length := ⟨_, rfl⟩
  obtain ⟨m, hmm⟩ : ∃ m, m = ys.length := ⟨_, rfl⟩
  rw [← hmm] at HCt hd hm HYc ⊢
  rw [← hnn] at hvv hn
  have HN := hid hnn
  have HM := hid hmm
  clear hnn hmm
  have h22 : Try.prog.underlying 30 = some (.slice 2) := Try.underlying30
  rcases hvv with ⟨rfl, hx0⟩ | ⟨g, cap, rfl, hcap, hcm⟩
  · have hn0 : n = 0 := by rw [HN.out, hx0]; rfl
    subst hx0
    subst hn0
    go_enter Try.func130, Try.ntmps130
    go_wp2_with fail
    refine HCt.out.mono ?_
    rintro e w1 ⟨c, rfl, hcc, q, rfl⟩
    have hc00 : c = 0 := by have := hcc.lx; simp at this; omega
    subst hc00
    have HCc := hid hcc
    clear hcc
    have HYd : Hid (∀ j, j < ys.length → (w.drewN (q + 1)).cell? ((⟨bb, off, none⟩ : Addr).add j) = some (.int .i64 (ys.getD j 0))) := hid (fun j hj => by
      have := HYc.out 0 j (by rw [HM.out]; omega)
      rw [Addr.add_lit]
      simpa using this)
    have HRd : Hid (Row (w.drewN (q + 1)) n₀ (.slice none 0 0) []) := hid HR.out
    have HVd : Hid (Boxed (w.drewN (q + 1)) b 150 (.slice none 0 0)) := hid HV.out
    have hmI : (m : Int) ≤ (dap : Int) := by omega
    have hm0 : (0 : Int) ≤ (m : Int) := by omega
    have hw0 : IntKind.i64.wrap 0 = 0 := by decide
    go_wp2_with fail
    go_region_law (refine step_push rfl _ _ _ _ infoFS h22 rfl n₀ b (.slice none 0 0) _ [] [] HVd.out HRd.out hb rfl HRd.out rfl _ _ _ ys HM.out rfl HYd.out hn₀ (by simp; rw [← HM.out]; omega) ?_; intro ao4 l4 cap4 w4 hc4 hf4 HX5)
    all_goals (try go_wp2)
    all_goals
      go_end0
      refine ⟨⟨_, rfl⟩, .slice ao4 l4 cap4, 0, HCc.out, HX5.out.1, by simpa [pushL] using HX5.out.2.1, ?_, ?_⟩
      · exact ⟨HX5.out.2.2.1.size, HX5.out.2.2.1.same⟩
      · exact ⟨HX5.out.2.2.2.os, HX5.out.2.2.2.tape, HX5.out.2.2.2.output, HX5.out.2.2.2.size, HX5.out.2.2.2.block⟩
  · go_enter Try.func130, Try.ntmps130
    go_wp2_with fail
    refine HCt.out.mono ?_
    rintro e w1 ⟨c, rfl, hcc, q, rfl⟩
    have hcn : c ≤ n := by rw [HN.out]; exact hcc.lx
    have hcl : c ≤ m := by rw [HM.out]; exact hcc.ly
    have HCc := hid hcc
    clear hcc
    obtain ⟨of2, hof⟩ : ∃ of2 : Nat, of2 = if dap = c then off else off + c := ⟨_, rfl⟩
    have hofa : (if dap = c then (some ⟨bb, off, none⟩ : Option Addr) else some ⟨bb, off + c, none⟩) = some ⟨bb, of2, none⟩ := by rw [hof]; split <;> rfl
    have HYd : Hid (∀ j, j < (ys.drop c).length → (w.drewN (q + 1)).cell? ((⟨bb, of2, none⟩ : Addr).add j) = some (.int .i64 ((ys.drop c).getD j 0))) := hid (fun j hj => by
      rw [List.length_drop, ← HM.out] at hj
      have := HYc.out c j (by omega)
      rw [Addr.add_lit, hof, if_neg (by omega)]
      simpa using this)
    clear hof
    obtain ⟨k, hk⟩ : ∃ k, k = n - c := ⟨_, rfl⟩
    have HRd : Hid (Row (w.drewN (q + 1)) n₀ (.slice (some ⟨g, 0, none⟩) k cap) (xs.take k)) := hid (row_cut (show Row (w.drewN (q + 1)) n₀ (.slice (some ⟨g, 0, none⟩) n cap) xs from HR.out) (by rw [← HN.out]; omega))
    have HR0 : Hid (Row (w.drewN (q + 1)) n₀ (.slice (some ⟨g, 0, none⟩) n cap) xs) := hid HR.out
    have HVd : Hid (Boxed (w.drewN (q + 1)) b 150 (.slice (some ⟨g, 0, none⟩) n cap)) := hid HV.out
    have hkI : (k : Int) ≤ (cap : Int) := by omega
    have hk0 : (0 : Int) ≤ (k : Int) := by omega
    have hwk : IntKind.i64.wrap ((n : Int) - (c : Int)) = (k : Int) := by rw [IntWalk.i64_in _ (by omega)]; omega
    have hmI : (m : Int) ≤ (dap : Int) := by omega
    have hcI : (c : Int) ≤ (m : Int) := by omega
    have hc0' : (0 : Int) ≤ (c : Int) := by omega
    have hkx : k ≤ cap := by omega
    have HKk := hid hk
    have hlenK : (xs.take k).length + (ys.drop c).length ≤ 1099511627776 := by rw [List.length_take, List.length_drop, ← HM.out]; omega
    have HLK := hid hlenK
    have HMd : Hid (m - c = (ys.drop c).length) := hid (by rw [List.length_drop, ← HM.out])
    clear hk hlenK
    go_wp2_with fail
    go_region_law (refine step_push rfl _ _ _ _ infoFS h22 rfl n₀ b (.slice (some ⟨g, 0, none⟩) n cap) (.slice (some ⟨g, 0, none⟩) k cap) xs (xs.take k) HVd.out HR0.out hb rfl HRd.out rfl _ _ _ (ys.drop c) HMd.out rfl HYd.out hn₀ HLK.out ?_; intro ao4 l4 cap4 w4 hc4 hf4 HX5)
    all_goals (try go_wp2)
    all_goals
      go_end0
      refine ⟨⟨_, rfl⟩, .slice ao4 l4 cap4, c, HCc.out, HX5.out.1, by rw [pushL, ← HN.out, ← HKk.out]; exact HX5.out.2.1, ?_, ?_⟩
      · exact ⟨HX5.out.2.2.1.size, HX5.out.2.2.1.same⟩
      · exact ⟨HX5.out.2.2.2.os, HX5.out.2.2.2.tape, HX5.out.2.2.2.output, HX5.out.2.2.2.size, HX5.out.2.2.2.block⟩
end Go.Proofs.Ytedajefapddekaa.fr
