/-
  A stack that takes letters from a word of a new block: the model's push.
-/
import Derived.Test.YtfechjhngcmdpabIm
import Derived.Maps.AppendAt
namespace Go.Proofs.Ytfechjhngcmdpab.fr
open Go.RowKit Go.Proofs.Ytfechjhngcmdpab.sl Go.Proofs.Ytfechjhngcmdpab.pm Go.Proofs.Ytfechjhngcmdpab.bw Go.Proofs.Ytfechjhngcmdpab.br Go.Proofs.Ytfechjhngcmdpab.fv Go.Proofs.Ytfechjhngcmdpab.fn
set_option linter.unusedVariables false

theorem wp_appendX {ops : Array Oper} {rest : List Oper} {o : Oper} {a : Act} {Q : Exit → Act → World → Prop} {w : World} (hgd : o.guard = none) (s x : Operand)
    (hop : o.op = .call { callee := .builtin .append, args := #[s, x], argTypes := #[23, 23] })
    (lo hi : Nat) (v : Value) (xs : List Int) (x0 : Int) (ho : sl.Own w lo hi v xs) (hs : a.eval s = v) (hx : a.eval x = .slice (some ⟨w.heap.size, 0, none⟩) 1 1) (hlo : lo ≤ w.heap.size) (hn : xs.length ≤ 1099511627776)
    (hK : ∀ v' w', sl.Own w' lo w'.heap.size v' (xs ++ [x0]) → Chg lo hi w w' → w.heap.size < w'.heap.size → (∀ b, b < w.heap.size → v.ownBlock ≠ some b → w'.heap[b]? = w.heap[b]? ∧ v'.ownBlock ≠ some b) → wpList Try.prog ops Q rest (a.put o.dst v') w') : wpList Try.prog ops Q (o :: rest) a (w.alloc (.cells #[.int .i64 x0] 2)) := by
  obtain ⟨i0, hi', hz0, hz1, hz2⟩ := info_parts info64
  refine wpList_append_own_at _ hgd s x 23 hop lo 2 i0 (.int .i64 0) 1 8 Try.underlying23 hi' hz0 hz1 hz2 rfl (by decide) v xs.length (xs.map (Value.int .i64)) hs (ho.1.alloc _) ⟨w.heap.size, 0, none⟩ 1 1 [.int .i64 x0] hx rfl ?_ ?_ ?_ ?_ ?_ ?_
  · intro j u hj
    match j, hj with
    | 0, hj =>
      simp only [List.getElem?_cons_zero, Option.some.injEq] at hj
      subst hj
      rw [Addr.add_lit, World.cell?_alloc_at _ _ _ _ rfl]; rfl
  · intro u hu; simp at hu; subst hu; rfl
  · unfold maxLen; omega
  · omega
  · simp; omega
  · intro v' w' h1 h2 _ h5
    have hsz : w.heap.size + 1 ≤ w'.heap.size := by have := h2.size; simpa using this
    refine hK v' w' (sl.Own.mk' (by simpa using h1)) ⟨h2.os, h2.tape, h2.output, by omega, fun k hk hk' => ?_⟩ (by omega) (fun b hb hne => ⟨?_, ?_⟩)
    · rw [h2.block k (by simp; omega) (by intro e; have h3 := ho.2.1 k e.symm; have h4 := (ho.1.lt k e.symm).1; exact hk' ⟨h4, h3⟩)]
      exact Below.heap_alloc _ _ _ hk
    · rw [h2.block b (by simp; omega) (by intro e; exact hne e.symm)]
      exact Below.heap_alloc _ _ _ hb
    · rcases h5 with h5 | h5
      · rw [h5]; exact hne
      · rw [h5]
        intro e
        simp only [World.size_alloc, Option.some.injEq] at e
        omega

theorem ob_len (ao : Option Addr) (n m c d : Nat) : (Value.slice ao n c).ownBlock = (Value.slice ao m d).ownBlock := by cases ao <;> rfl

set_option maxHeartbeats 800000 in
theorem specPushX (st xs : List Int) (u0 v : Value) (lo B : Nat) (w : World) (ho : sl.Own w lo w.heap.size u0 st) (hlo : lo ≤ w.heap.size) (ha : Ints w B v xs) (hB : B ≤ w.heap.size) (hne : ∀ b off n cap, v = .slice (some ⟨b, off, none⟩) n cap → u0.ownBlock ≠ some b) (hn : xs.length ≤ 1000000) (hst : st.length ≤ 1000000) (hb : ∀ j, j < xs.length → -100 ≤ xs.getD j 0 ∧ xs.getD j 0 ≤ 100) :
    Calls Try.prog 58 #[u0, v] w fun e w' => ∃ v', e = .returned v' ∧ sl.Own w' lo w'.heap.size v' (xs.foldl bw.push st) ∧ Below lo w w' := by
  have HO0 := hid ho
  obtain ⟨a0, c0, hu0⟩ := br.own_val ho
  obtain ⟨l0, hl0⟩ : ∃ l, l = st.length := ⟨_, rfl⟩
  rw [← hl0] at hu0
  have HL0 := hid hl0
  subst hu0
  clear ho hl0
  rcases ha with ⟨rfl, ao, cap, rfl⟩ | ⟨hp, b, off, cap, rfl, hbb, hc⟩
  · go_enter Try.func58, Try.ntmps58
    go_wp2
    refine wp_loop_rounds 1 ?_
    rw [rounds_succ]
    go_wp2
    go_ret
    exact ⟨_, rfl, HO0.out, Below.refl _ _⟩
  · have hne0 := hne _ _ _ _ rfl
    clear hne
    obtain ⟨n, hnn⟩ : ∃ n, n = xs.length := ⟨_, rfl⟩
    rw [← hnn] at hp hc hn hb ⊢
    have HN := hid hnn
    have HC := hid hc
    have HBd := hid hb
    clear hnn hc hb
    go_enter Try.func58, Try.ntmps58
    go_wp2
    go_loopw [0, 5] (fun u i wr => ∃ k : Nat, k ≤ n ∧ i = .int .i64 k ∧ sl.Own wr lo wr.heap.size u (pTo st xs k) ∧ Below lo w wr ∧ u.ownBlock ≠ some b ∧ wr.heap[b]? = w.heap[b]?)
      (fun _ i _ => n - (intOf i).toNat)
    case atStart => exact ⟨0, Nat.zero_le _, rfl, HO0.out, Below.refl _ _, hne0, rfl⟩
    case round =>
      obtain ⟨k, hk, rfl, hown, hbel, hbn, hbh⟩ := hrel
      have HBh := hid hbh
      have HBn := hid hbn
      have HO := hid hown
      have HB := hid hbel
      have hsz := hbel.size
      obtain ⟨ao2, cap2, rfl⟩ := br.own_val hown
      by_cases hlt : k < n
      · have hbx := HBd.out k hlt
        have h1 : wr.cell? ⟨b, off + k, none⟩ = some (.int .i64 (xs.getD k 0)) := (World.cell?_of_block (w := w) (w' := wr) (a := ⟨b, off + k, none⟩) HBh.out).trans (HC.out k hlt)
        have HS := hid (pTo_succ st xs k (by rw [← HN.out]; exact hlt))
        have hle := pTo_len st xs k (by rw [← HN.out]; omega)
        generalize xs.getD k 0 = x at *
        by_cases h0 : pTo st xs k = []
        · rw [h0] at HO HS
          rw [h0, List.length_nil]
          have HP : Hid (pTo st xs (k + 1) = [] ++ [x]) := hid (by rw [HS.out]; rfl)
          clear hown hbel h0 HS hle
          go_wp2
          go_quiet (fail)
          have HO' : Hid (sl.Own (wr.drewN nq) lo (wr.drewN nq).heap.size (.slice ao2 0 cap2) []) := hid (HO.out.drewN nq)
          have HB' : Hid (Below lo w (wr.drewN nq)) := hid (bdrewN HB.out nq)
          have hbq : b < (wr.drewN nq).heap.size := by have := HB.out.size; show b < wr.heap.size; omega
          have HBq : Hid ((Value.slice ao2 0 cap2).ownBlock ≠ some b) := hid (by rw [ob_len ao2 0 (pTo st xs k).length cap2 cap2]; exact HBn.out)
          have HBhq : Hid ((wr.drewN nq).heap[b]? = w.heap[b]?) := hid HBh.out
          have h1' : (wr.drewN nq).cell? ⟨b, off + k, none⟩ = some (.int .i64 x) := h1
          have hsz' : lo ≤ (wr.drewN nq).heap.size := Nat.le_trans hlo hsz
          generalize wr.drewN nq = wq at *
          clear h1 hsz HO HB
          go_wp2_with (at_builtin; refine wp_appendX rfl _ _ rfl lo wq.heap.size _ [] x HO'.out rfl rfl hsz' (by simp) ?_; intro v' w1 hown1 hchg1 hsz1 hk1)
          have HO1 := hid hown1
          have HB1 := hid (HB'.out.trans (hchg1.below (Nat.le_refl _) hsz'))
          have HK1 := hid (hk1 b hbq HBq.out)
          clear hown1 hchg1 hk1
          go_wp2
          go_roundw
          case rel => exact ⟨k + 1, by omega, by go_num, by rw [HP.out]; exact HO1.out, HB1.out, HK1.out.2, HK1.out.1.trans HBhq.out⟩
          case measure => simp [intOf]; omega
        · obtain ⟨m, hm⟩ : ∃ m, (pTo st xs k).length = m + 1 := ⟨(pTo st xs k).length - 1, by have := List.length_pos_iff.2 h0; omega⟩
          obtain ⟨g, hg⟩ : ∃ g, ao2 = some ⟨g, 0, none⟩ := by
            rcases hown.1.2 with ⟨h, h1⟩ | ⟨g, c, cur, h, _⟩
            · omega
            · cases h; exact ⟨g, rfl⟩
          subst hg
          have h2 := (hown.at' m (by omega)).1
          have hcc := (own_caps hown).1
          have hcm := (own_caps hown).2
          have HL := hid hm
          rw [hm] at HO hle hcc ⊢
          clear hown hbel h0 hm
          by_cases he : (pTo st xs k).getD m 0 = -x
          · have HP : Hid (pTo st xs (k + 1) = (pTo st xs k).take m) := hid (by rw [HS.out]; exact push_pop _ x m HL.out he)
            rw [he] at h2
            clear he
            go_wp2
            go_quiet (fail)
            have HB' : Hid (Below lo w (wr.drewN nq)) := hid (bdrewN HB.out nq)
            have hbq : b < (wr.drewN nq).heap.size := by have := HB.out.size; show b < wr.heap.size; omega
            have HBq := HBn
            have HBhq : Hid ((wr.drewN nq).heap[b]? = w.heap[b]?) := hid HBh.out
            have hc := own_cut (HO.out.drewN nq) (m := m) (by rw [HL.out]; omega)
            have HO' := hid (hc.hi (hi' := (wr.drewN nq).heap.size) (Nat.le_refl _) (Nat.le_refl _))
            clear hc
            generalize wr.drewN nq = wq at *
            go_wp2
            go_roundw
            case rel => exact ⟨k + 1, by omega, by go_num, by rw [HP.out]; exact HO'.out, HB'.out, HBq.out, HBhq.out⟩
            case measure => simp [intOf]; omega
          · have HP : Hid (pTo st xs (k + 1) = pTo st xs k ++ [x]) := hid (by rw [HS.out]; exact push_app _ x m HL.out he)
            have hd : ((pTo st xs k).getD m 0 == -x) = false := by simpa using he
            clear he
            generalize (pTo st xs k).getD m 0 = y at *
            go_wp2
            go_quiet (fail)
            have HO' := hid (HO.out.drewN nq)
            have HB' : Hid (Below lo w (wr.drewN nq)) := hid (bdrewN HB.out nq)
            have hbq : b < (wr.drewN nq).heap.size := by have := HB.out.size; show b < wr.heap.size; omega
            have HBq := HBn
            have HBhq : Hid ((wr.drewN nq).heap[b]? = w.heap[b]?) := hid HBh.out
            have h1' : (wr.drewN nq).cell? ⟨b, off + k, none⟩ = some (.int .i64 x) := h1
            have hsz' : lo ≤ (wr.drewN nq).heap.size := Nat.le_trans hlo hsz
            have HO'' : Hid (sl.Own (wr.drewN nq) lo (wr.drewN nq).heap.size (.slice (some ⟨g, 0, none⟩) (m + 1) cap2) (pTo st xs k)) := HO'
            generalize wr.drewN nq = wq at *
            clear h1 h2 hsz HO HB HO'
            go_wp2_with (at_builtin; refine wp_appendX rfl _ _ rfl lo wq.heap.size _ (pTo st xs k) x HO''.out rfl rfl hsz' (by rw [HL.out]; omega) ?_; intro v' w1 hown1 hchg1 hsz1 hk1)
            have HO1 := hid hown1
            have HB1 := hid (HB'.out.trans (hchg1.below (Nat.le_refl _) hsz'))
            have HK1 := hid (hk1 b hbq HBq.out)
            clear hown1 hchg1 hk1
            go_wp2
            go_roundw
            case rel => exact ⟨k + 1, by omega, by go_num, by rw [HP.out]; exact HO1.out, HB1.out, HK1.out.2, HK1.out.1.trans HBhq.out⟩
            case measure => simp [intOf]; omega
      · obtain rfl : k = n := by omega
        have HS : Hid (pTo st xs k = xs.foldl bw.push st) := hid (by rw [HN.out]; exact pTo_all st xs)
        clear hown hbel
        generalize (pTo st xs k).length = m at *
        go_wp2
        go_ret
        exact ⟨_, rfl, by rw [← HS.out]; exact HO.out, HB.out⟩



/-! ### FreeJoin -/
end Go.Proofs.Ytfechjhngcmdpab.fr
