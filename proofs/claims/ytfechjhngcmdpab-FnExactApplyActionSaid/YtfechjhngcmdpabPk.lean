/-
  push, where the stack's box lies below what a round keeps.
-/
import Derived.Test.YtfechjhngcmdpabImi
namespace Go.Proofs.Ytfechjhngcmdpab.fr
open Go.RowKit Go.Proofs.Ytfechjhngcmdpab.sl Go.Proofs.Ytfechjhngcmdpab.pm Go.Proofs.Ytfechjhngcmdpab.bw Go.Proofs.Ytfechjhngcmdpab.br Go.Proofs.Ytfechjhngcmdpab.fv Go.Proofs.Ytfechjhngcmdpab.fn
set_option linter.unusedVariables false

/-- No block below n but P changes. -/
structure KB (n P : Nat) (w w' : World) : Prop where
  os : w'.os = w.os
  tape : w'.tape = w.tape
  output : w'.output = w.output
  size : w.heap.size ≤ w'.heap.size
  block : ∀ k, k < n → k ≠ P → w'.heap[k]? = w.heap[k]?
theorem KB.refl (n P : Nat) (w : World) : KB n P w w := ⟨rfl, rfl, rfl, Nat.le_refl _, fun _ _ _ => rfl⟩
theorem KB.trans {n P : Nat} {a b c : World} (h : KB n P a b) (k : KB n P b c) : KB n P a c := ⟨k.os.trans h.os, k.tape.trans h.tape, k.output.trans h.output, Nat.le_trans h.size k.size, fun i hi hp => (k.block i hi hp).trans (h.block i hi hp)⟩
theorem KB.cell {n P : Nat} {w w' : World} (h : KB n P w w') {p : Addr} (hp : p.block < n) (hn : p.block ≠ P) : w'.cell? p = w.cell? p := World.cell?_of_block (h.block _ hp hn)
theorem KB.frozen {n P : Nat} {w w' : World} (h : KB n P w w') {p : Addr} (hp : p.block < n) (hn : p.block ≠ P) : w'.frozen? p = w.frozen? p := World.frozen?_of_block (h.block _ hp hn)
theorem KB.ofBelow {n P : Nat} {w w' : World} (h : Below n w w') : KB n P w w' := ⟨h.os, h.tape, h.output, h.size, fun k hk _ => h.block k hk⟩
theorem KB.below {n P m : Nat} {w w' : World} (h : KB n P w w') (h1 : m ≤ n) (h2 : m ≤ P) : Below m w w' := ⟨h.os, h.tape, h.output, h.size, fun k hk => h.block k (by omega) (by omega)⟩
theorem kb_put {n P : Nat} {w : World} (hn : n ≤ w.heap.size) (W : World) (l : Nat) (o o' : Obj) (hl : w.heap.size ≤ l) (h : W.heap[l]? = some o) (h1 : o.isCells = false) (h2 : o.isWalk = false) : KB n P W (W.putObj l o') :=
  KB.ofBelow (belowK_b hn W l o o' hl h h1 h2)
theorem KB.alloc {n P : Nat} {w w' : World} (h : KB n P w w') (hn : n ≤ w'.heap.size) (o : Obj) : KB n P w (w'.alloc o) :=
  h.trans (KB.ofBelow ((Below.refl n w').alloc hn o))
theorem KB.grown {P : Nat} {w w' : World} (h : KB w.heap.size P w w') : w.grownBy w' (some P) := ⟨h.os, h.tape, h.output, h.size, fun k hk hne => h.block k hk (fun e => hne (by rw [e]))⟩

/-- Behind the append, and behind the store. -/
theorem appendedK {W w1 : World} {n₀ B : Nat} {v v' : Value} {xs zs : List Int} (hv : Boxed W B 56 v) (hrow : Row W n₀ v xs) (hn₀ : n₀ ≤ W.heap.size) (hB : True) (hown' : Row w1 n₀ v' zs) (hgrow : W.grownBy w1 v.ownBlock) :
    Boxed w1 B 56 v ∧ Boxed (w1.setCell ⟨B, 0, none⟩ v') B 56 v' ∧ Row (w1.setCell ⟨B, 0, none⟩ v') n₀ v' zs ∧ KeepsOthers W (w1.setCell ⟨B, 0, none⟩ v') ∧ KB n₀ B W (w1.setCell ⟨B, 0, none⟩ v') := by
  have hte : (56 : TypeId) ≠ 2 := by decide
  have hv1 : Boxed w1 B 56 v := hv.kept hgrow (hv.not_row hte hrow)
  refine ⟨hv1, hv1.set v', World.ownsRow.kept hown' (grownBy_setCell' w1 B v') (.inr (hv1.not_row hte hown').symm), ?_, ?_⟩
  · refine (KeepsOthers.of_grownBy hgrow fun j o ej hj => ?_).trans (KeepsOthers.setCell _ _ _)
    rcases hrow.2 with ⟨rfl, _⟩ | ⟨g, cap, cur, rfl, _, hgb, _⟩
    · simp [Value.ownBlock] at ej
    · obtain rfl : g = j := by simpa [Value.ownBlock] using ej
      rw [hgb] at hj; cases hj; rfl
  · refine ⟨hgrow.os, hgrow.tape, hgrow.output, by simpa using hgrow.size, fun k hk hne => ?_⟩
    have h1 : (w1.setCell ⟨B, 0, none⟩ v').heap[k]? = w1.heap[k]? := by
      have h : ¬ B = k := fun e => hne e.symm
      simp [World.setCell, Array.getElem?_modify, h]
    rw [h1]
    exact hgrow.block k (by omega) (fun e => by have := (hrow.lt k e.symm).1; omega)

/-- The append of push, and what its store then owes. -/
theorem step_pushK {ops : Array Oper} {o : Oper} {a : Act} {K : Act → World → Prop} {Q : Exit → Act → World → Prop} {E : Prop} {w : World} (hgd : o.guard = none) (s x : Operand) (T U : TypeId) (hT : Try.prog.underlying T = some (.slice 2)) (hU : Try.prog.underlying U = some (.slice 2))
    (hop : o.op = .call { callee := .builtin .append, args := #[s, x], argTypes := #[T, U] })
    (n₀ B : Nat) (v0 v : Value) (xs0 xs : List Int) (hv : Boxed w B 56 v0) (hr0 : Row w n₀ v0 xs0) (hB : True) (hob : v.ownBlock = v0.ownBlock) (ho : Row w n₀ v xs) (hs : a.eval s = v) (ad : Addr) (m cap : Nat) (ys : List Int) (hm : m = ys.length) (hx : a.eval x = .slice (some ad) m cap) (hc : ∀ j, j < ys.length → w.cell? (ad.add j) = some (.int .i64 (ys.getD j 0))) (hlo : n₀ ≤ w.heap.size) (hn : xs.length + ys.length ≤ 1099511627776)
    (hK : ∀ ao l c w', w'.cell? ⟨B, 0, none⟩ = some v0 → w'.frozen? ⟨B, 0, none⟩ = false →
      Hid (Boxed (w'.setCell ⟨B, 0, none⟩ (.slice ao l c)) B 56 (.slice ao l c) ∧ Row (w'.setCell ⟨B, 0, none⟩ (.slice ao l c)) n₀ (.slice ao l c) (xs ++ ys) ∧ KeepsOthers w (w'.setCell ⟨B, 0, none⟩ (.slice ao l c)) ∧ KB n₀ B w (w'.setCell ⟨B, 0, none⟩ (.slice ao l c))) → K (a.put o.dst (.slice ao l c)) w') : if Region.wanted o (yielded ops a.tmps) = true then Oper.wp Try.prog o a w K Q else E := by
  refine step_app hgd s x T U hT hU hop n₀ v xs ho hs ad m cap ys hm hx hc hlo hn ?_
  intro v4 w4 hrow4 hgrow4
  rw [hob] at hgrow4
  obtain ⟨ao4, cap4, hv4⟩ := br.own_val (row_own hrow4)
  obtain ⟨bx4, bx5, rw5, ko5, be5⟩ := appendedK hv hr0 hlo hB hrow4 hgrow4
  have hb := bx4.cell
  have hf := bx4.frozen
  generalize (xs ++ ys).length = l4 at hv4
  subst hv4
  exact hK ao4 l4 cap4 w4 hb hf (hid ⟨bx5, rw5, ko5, be5⟩)

set_option maxHeartbeats 2000000 in
theorem pushK (xs ys : List Int) (v : Value) (b n₀ C bb off dap : Nat) (w : World) (hv : Boxed w b 56 v) (hrow : Row w n₀ v xs) (hn₀ : n₀ ≤ w.heap.size) (hb : True)
    (hu : Ints w C (.slice (some ⟨bb, off, none⟩) ys.length dap) ys) (hC : C ≤ w.heap.size) (hd : ys.length ≤ dap ∧ dap ≤ 9223372036854775807) (hn : xs.length ≤ 1000000) (hm : ys.length ≤ 1000000) (hs : Small ys) :
    Calls Try.prog 37 #[.pointer (some ⟨b, 0, none⟩), .slice (some ⟨bb, off, none⟩) ys.length dap] w fun e w' =>
      (∃ r, e = .returned r) ∧ ∃ v' c, Canc xs ys c ∧ Boxed w' b 56 v' ∧ Row w' n₀ v' (pushL xs ys c) ∧ KeepsOthers w w' ∧ KB n₀ b w w' := by
  have HS := hid hs
  have HU := hid hu
  have HV := hid hv
  have HR := hid hrow
  have HCt : Hid (Calls Try.prog 67 #[v, .slice (some ⟨bb, off, none⟩) ys.length dap, .func (.func 68) #[] #[]] w fun e w' => ∃ c : Nat, e = .returned (.int .i64 (c : Int)) ∧ Canc xs ys c ∧ ∃ q, w' = w.drewN q) :=
    hid (count xs ys v _ w.heap.size C w (row_own hrow).ints hu (Nat.le_refl _) hC hn hm hs)
  have hc0 := hv.cell
  have hvv := row_val hrow
  have HYc : Hid (∀ c j, c + j < ys.length → w.cell? ⟨bb, off + c + j, none⟩ = some (.int .i64 ((ys.drop c).getD j 0))) := hid (fun c j hj => by
    rcases hu with ⟨h, _⟩ | ⟨_, b', o', c', he, _, hcc⟩
    · rw [h] at hj; simp at hj
    · simp only [Value.slice.injEq, Option.some.injEq, Addr.mk.injEq] at he
      obtain ⟨⟨rfl, rfl, _⟩, _, _⟩ := he
      rw [show off + c + j = off + (c + j) by omega, hcc (c + j) hj]
      simp [List.getD, List.getElem?_drop])
  clear hs hu hv hrow
  obtain ⟨n, hnn⟩ : ∃ n, n = xs.length := ⟨_, rfl⟩
  obtain ⟨m, hmm⟩ : ∃ m, m = ys.length := ⟨_, rfl⟩
  rw [← hmm] at HCt hd hm HYc ⊢
  rw [← hnn] at hvv hn
  have HN := hid hnn
  have HM := hid hmm
  clear hnn hmm
  have h22 : Try.prog.underlying 23 = some (.slice 2) := Try.underlying23
  rcases hvv with ⟨rfl, hx0⟩ | ⟨g, cap, rfl, hcap, hcm⟩
  · have hn0 : n = 0 := by rw [HN.out, hx0]; rfl
    subst hx0
    subst hn0
    go_enter Try.func37, Try.ntmps37
    go_wp2_with fail
    refine HCt.out.mono ?_
    rintro e w1 ⟨c, rfl, hcc, q, rfl⟩
    have hc00 : c = 0 := by have := hcc.lx; simp at this; omega
    subst hc00
    have HCc := hid hcc
    clear hcc
    have HYd : Hid (∀ j, j < ys.length → (w.drewN (q + 1)).cell? ((⟨bb, off, none⟩ : Addr).add j) = some (.int .i64 (ys.getD j 0))) := hid (fun j hj => by
      have := HYc.out 0 j (by rw [HM.out]; omega)
      rw [Addr.add_lit]
      simpa using this)
    have HRd : Hid (Row (w.drewN (q + 1)) n₀ (.slice none 0 0) []) := hid HR.out
    have HVd : Hid (Boxed (w.drewN (q + 1)) b 56 (.slice none 0 0)) := hid HV.out
    have hmI : (m : Int) ≤ (dap : Int) := by omega
    have hm0 : (0 : Int) ≤ (m : Int) := by omega
    have hw0 : IntKind.i64.wrap 0 = 0 := by decide
    go_wp2_with fail
    go_region_law (refine step_pushK rfl _ _ _ _ infoFS h22 rfl n₀ b (.slice none 0 0) _ [] [] HVd.out HRd.out hb rfl HRd.out rfl _ _ _ ys HM.out rfl HYd.out hn₀ (by simp; rw [← HM.out]; omega) ?_; intro ao4 l4 cap4 w4 hc4 hf4 HX5)
    all_goals (try go_wp2)
    all_goals
      go_end0
      refine ⟨⟨_, rfl⟩, .slice ao4 l4 cap4, 0, HCc.out, HX5.out.1, by simpa [pushL] using HX5.out.2.1, ?_, ?_⟩
      · exact ⟨HX5.out.2.2.1.size, HX5.out.2.2.1.same⟩
      · exact ⟨HX5.out.2.2.2.os, HX5.out.2.2.2.tape, HX5.out.2.2.2.output, HX5.out.2.2.2.size, HX5.out.2.2.2.block⟩
  · go_enter Try.func37, Try.ntmps37
    go_wp2_with fail
    refine HCt.out.mono ?_
    rintro e w1 ⟨c, rfl, hcc, q, rfl⟩
    have hcn : c ≤ n := by rw [HN.out]; exact hcc.lx
    have hcl : c ≤ m := by rw [HM.out]; exact hcc.ly
    have HCc := hid hcc
    clear hcc
    obtain ⟨of2, hof⟩ : ∃ of2 : Nat, of2 = if dap = c then off else off + c := ⟨_, rfl⟩
    have hofa : (if dap = c then (some ⟨bb, off, none⟩ : Option Addr) else some ⟨bb, off + c, none⟩) = some ⟨bb, of2, none⟩ := by rw [hof]; split <;> rfl
    have HYd : Hid (∀ j, j < (ys.drop c).length → (w.drewN (q + 1)).cell? ((⟨bb, of2, none⟩ : Addr).add j) = some (.int .i64 ((ys.drop c).getD j 0))) := hid (fun j hj => by
      rw [List.length_drop, ← HM.out] at hj
      have := HYc.out c j (by omega)
      rw [Addr.add_lit, hof, if_neg (by omega)]
      simpa using this)
    clear hof
    obtain ⟨k, hk⟩ : ∃ k, k = n - c := ⟨_, rfl⟩
    have HRd : Hid (Row (w.drewN (q + 1)) n₀ (.slice (some ⟨g, 0, none⟩) k cap) (xs.take k)) := hid (row_cut (show Row (w.drewN (q + 1)) n₀ (.slice (some ⟨g, 0, none⟩) n cap) xs from HR.out) (by rw [← HN.out]; omega))
    have HR0 : Hid (Row (w.drewN (q + 1)) n₀ (.slice (some ⟨g, 0, none⟩) n cap) xs) := hid HR.out
    have HVd : Hid (Boxed (w.drewN (q + 1)) b 56 (.slice (some ⟨g, 0, none⟩) n cap)) := hid HV.out
    have hkI : (k : Int) ≤ (cap : Int) := by omega
    have hk0 : (0 : Int) ≤ (k : Int) := by omega
    have hwk : IntKind.i64.wrap ((n : Int) - (c : Int)) = (k : Int) := by rw [IntWalk.i64_in _ (by omega)]; omega
    have hmI : (m : Int) ≤ (dap : Int) := by omega
    have hcI : (c : Int) ≤ (m : Int) := by omega
    have hc0' : (0 : Int) ≤ (c : Int) := by omega
    have hkx : k ≤ cap := by omega
    have HKk := hid hk
    have hlenK : (xs.take k).length + (ys.drop c).length ≤ 1099511627776 := by rw [List.length_take, List.length_drop, ← HM.out]; omega
    have HLK := hid hlenK
    have HMd : Hid (m - c = (ys.drop c).length) := hid (by rw [List.length_drop, ← HM.out])
    clear hk hlenK
    go_wp2_with fail
    go_region_law (refine step_pushK rfl _ _ _ _ infoFS h22 rfl n₀ b (.slice (some ⟨g, 0, none⟩) n cap) (.slice (some ⟨g, 0, none⟩) k cap) xs (xs.take k) HVd.out HR0.out hb rfl HRd.out rfl _ _ _ (ys.drop c) HMd.out rfl HYd.out hn₀ HLK.out ?_; intro ao4 l4 cap4 w4 hc4 hf4 HX5)
    all_goals (try go_wp2)
    all_goals
      go_end0
      refine ⟨⟨_, rfl⟩, .slice ao4 l4 cap4, c, HCc.out, HX5.out.1, by rw [pushL, ← HN.out, ← HKk.out]; exact HX5.out.2.1, ?_, ?_⟩
      · exact ⟨HX5.out.2.2.1.size, HX5.out.2.2.1.same⟩
      · exact ⟨HX5.out.2.2.2.os, HX5.out.2.2.2.tape, HX5.out.2.2.2.output, HX5.out.2.2.2.size, HX5.out.2.2.2.block⟩
set_option maxHeartbeats 2000000 in
theorem push0K (xs : List Int) (v : Value) (b n₀ : Nat) (w : World) (hv : Boxed w b 56 v) (hrow : Row w n₀ v xs) (hn₀ : n₀ ≤ w.heap.size) (hn : xs.length ≤ 1000000) :
    Calls Try.prog 37 #[.pointer (some ⟨b, 0, none⟩), .slice none 0 0] w fun e w' =>
      (∃ r, e = .returned r) ∧ ∃ v' c, Canc xs [] c ∧ Boxed w' b 56 v' ∧ Row w' n₀ v' (pushL xs [] c) ∧ KeepsOthers w w' ∧ KB n₀ b w w' := by
  have HCt := hid (count xs [] v (.slice none 0 0) w.heap.size w.heap.size w (row_own hrow).ints (.inl ⟨rfl, none, 0, rfl⟩) (Nat.le_refl _) (Nat.le_refl _) hn (by simp) (fun j hj => by simp at hj))
  have hc0 := hv.cell
  have hf0 := hv.frozen
  have hvv := row_val hrow
  have HAp := hid (fun (W : World) (h1 : Boxed W b 56 v) (h2 : Row W n₀ v xs) (h3 : n₀ ≤ W.heap.size) => appendedK h1 h2 h3 trivial h2 (⟨rfl, rfl, rfl, Nat.le_refl _, fun _ _ _ => rfl⟩ : W.grownBy W v.ownBlock))
  have HV := hid hv
  have HR := hid hrow
  have HLn := hid (rfl : xs.length = xs.length)
  have h22 : Try.prog.underlying 23 = some (.slice 2) := Try.underlying23
  have hw0 : IntKind.i64.wrap 0 = 0 := by decide
  rcases hvv with ⟨rfl, hx0⟩ | ⟨g, cap, rfl, hcap, hcm⟩
  · clear hrow hv
    subst hx0
    go_enter Try.func37, Try.ntmps37
    go_wp2_with fail
    refine HCt.out.mono ?_
    rintro e w1 ⟨c, rfl, hcc, q, rfl⟩
    have hc00 : c = 0 := by have := hcc.ly; simpa using this
    subst hc00
    have HCc := hid hcc
    clear hcc
    have HRd : Hid (Row (w.drewN (q + 1)) n₀ (.slice none 0 0) []) := hid HR.out
    have HX := hid (HAp.out (w.drewN (q + 1)) HV.out HR.out hn₀)
    go_wp2_with fail
    go_region_law (refine step_app0 rfl _ _ _ _ infoFS h22 rfl n₀ (.slice none 0 0) [] HRd.out rfl rfl ?_)
    all_goals (try go_wp2)
    all_goals
      go_end0
      refine ⟨⟨_, rfl⟩, .slice none 0 0, 0, HCc.out, HX.out.2.1, by simpa [pushL] using HX.out.2.2.1, ?_, ?_⟩
      · exact ⟨HX.out.2.2.2.1.size, HX.out.2.2.2.1.same⟩
      · exact ⟨HX.out.2.2.2.2.os, HX.out.2.2.2.2.tape, HX.out.2.2.2.2.output, HX.out.2.2.2.2.size, HX.out.2.2.2.2.block⟩
  · obtain ⟨n, hnn⟩ : ∃ n, n = xs.length := ⟨_, rfl⟩
    have hpl : pushL xs [] 0 = xs := by simp [pushL]
    rw [← hnn] at hcap hn
    have HPl := hid hpl
    clear hrow hv hpl
    rw [← hnn] at HCt hc0 HAp HV HR
    clear HLn hnn
    go_enter Try.func37, Try.ntmps37
    go_wp2_with fail
    refine HCt.out.mono ?_
    rintro e w1 ⟨c, rfl, hcc, q, rfl⟩
    have hc00 : c = 0 := by have := hcc.ly; simpa using this
    subst hc00
    have HCc := hid hcc
    clear hcc
    have HRd : Hid (Row (w.drewN (q + 1)) n₀ (.slice (some ⟨g, 0, none⟩) n cap) xs) := hid HR.out
    have HX := hid (HAp.out (w.drewN (q + 1)) HV.out HR.out hn₀)
    have hwk : IntKind.i64.wrap ((n : Int) - 0) = (n : Int) := by rw [IntWalk.i64_in _ (by omega)]; omega
    have hwk2 : IntKind.i64.wrap (n : Int) = (n : Int) := IntWalk.i64_in _ (by omega)
    have hkI : (n : Int) ≤ (cap : Int) := by omega
    have hk0 : (0 : Int) ≤ (n : Int) := by omega
    go_wp2_with fail
    go_region_law (refine step_app0 rfl _ _ _ _ infoFS h22 rfl n₀ (.slice (some ⟨g, 0, none⟩) n cap) xs HRd.out rfl rfl ?_)
    all_goals (try go_wp2)
    all_goals
      go_end0
      refine ⟨⟨_, rfl⟩, .slice (some ⟨g, 0, none⟩) n cap, 0, HCc.out, HX.out.2.1, by rw [HPl.out]; exact HX.out.2.2.1, ?_, ?_⟩
      · exact ⟨HX.out.2.2.2.1.size, HX.out.2.2.2.1.same⟩
      · exact ⟨HX.out.2.2.2.2.os, HX.out.2.2.2.2.tape, HX.out.2.2.2.2.output, HX.out.2.2.2.2.size, HX.out.2.2.2.2.block⟩
end Go.Proofs.Ytfechjhngcmdpab.fr
