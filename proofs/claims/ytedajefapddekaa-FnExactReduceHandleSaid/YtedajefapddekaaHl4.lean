/-
  linked, and the letters of a linked word.
-/
import Derived.Test.YtedajefapddekaaHl3
namespace Go.Proofs.Ytedajefapddekaa.hl
open Go.RowKit Go.Proofs.Ytedajefapddekaa.sl Go.Proofs.Ytedajefapddekaa.br Go.Proofs.Ytedajefapddekaa.bw
set_option linter.unusedVariables false

theorem LW.blk {w : World} {lo W : Nat} {Q : Nat → Nat} {xs : List Int} (h : LW w lo W Q xs) (i : Nat) (hi : i ≤ xs.length + 1) : Blk w (Q i) := h.lst.bl' i hi

theorem lettersW (lo W : Nat) (Q : Nat → Nat) (xs : List Int) (w : World) (h : LW w lo W Q xs) (hn : xs.length ≤ 1000000) :
    Calls Try.prog 88 #[ptr W] w fun e w' => ∃ v', e = .returned v' ∧ Own w' w.heap.size w'.heap.size v' xs ∧ Below w.heap.size w w' := by
  obtain ⟨i0, hi, hz0, hz1, hz2⟩ := info_parts info64
  have HH := hid h
  have c0 := h.c0
  have c1 := h.c1
  have hW := h.ownW.2
  have hQ := (h.lst.own 0 (Nat.zero_le _)).2
  have d0 := h.lst.nx 0 (Nat.zero_le _)
  clear h
  unfold ptr at c0 d0
  obtain ⟨n, hnn⟩ : ∃ n, n = xs.length := ⟨_, rfl⟩
  rw [← hnn] at hn c1
  have HN := hid hnn
  clear hnn
  unfold ptr
  obtain ⟨p, hp⟩ : ∃ p, p = Q 0 := ⟨_, rfl⟩
  rw [← hp] at c0 d0 hQ
  have HP := hid hp
  clear hp
  obtain ⟨p1, hp1⟩ : ∃ p1, p1 = Q (0 + 1) := ⟨_, rfl⟩
  rw [← hp1] at d0
  have HP1 := hid hp1
  clear hp1
  go_enter Try.func88, Try.ntmps88
  go_wp2_with (at_make; refine wpList_make_own _ rfl _ _ 30 rfl w.heap.size 2 i0 (.int .i64 0) 1 Try.underlying30 hi hz0 hz1 .i64 .i64 _ n rfl rfl rfl (by rw [hz2]; omega) (by unfold maxLen; omega) (Nat.le_refl _) ?_; intro w1 hown1 hgrow1; have HO1 := hid hown1; have HB1 := hid ((Below.refl w.heap.size w).grown hgrow1 (Nat.le_refl _) (fun k hk => by cases hk)); have e0 := (HB1.out.cell (p := ⟨W, 0, none⟩) hW).trans c0; have e1 := (HB1.out.cell (p := ⟨p, 2, none⟩) hQ).trans d0; clear hown1 hgrow1)
  go_loopw [3, 4] (fun u x wr => ∃ k a : Nat, k ≤ n ∧ x = .pointer (some ⟨a, 0, none⟩) ∧ a = Q (k + 1) ∧ (∃ ao cap, u = .slice ao k cap) ∧ Own wr w.heap.size wr.heap.size u (xs.take k) ∧ Below w.heap.size w wr) (fun u _ _ => n - (match u with | .slice _ l _ => l | _ => 0))
  case atStart => exact ⟨0, p1, Nat.zero_le _, rfl, HP1.out, ⟨_, _, rfl⟩, Own.mk' (by simpa using HO1.out), HB1.out⟩
  case round =>
    obtain ⟨k, a, hk, rfl, ha, ⟨ao, cap, rfl⟩, hown, hbel⟩ := hrel
    have HO := hid hown
    have HB := hid hbel
    have hsz := hbel.size
    clear hown hbel
    have H2 := hid (HH.out.keep HB.out)
    have f0 := (HB.out.cell (p := ⟨W, 0, none⟩) hW).trans c0
    have HC := hid (neqP wr a p (by rw [ha]; exact H2.out.blk (k + 1) (by rw [← HN.out]; omega)) (by rw [HP.out]; exact H2.out.blk 0 (Nat.zero_le _)) wr rfl)
    by_cases hlt : k < n
    · have hne : ¬ a = p := fun e => H2.out.lst.far0 (k + 1) (by omega) (by rw [← HN.out]; omega) (by rw [← ha, e, HP.out])
      have hcm : (binOp .neq 99 (.pointer (some ⟨a, 0, none⟩)) (.pointer (some ⟨p, 0, none⟩))).run Try.prog wr = .ok (.bool true) wr := by
        rw [HC.out, decide_eq_false hne]; rfl
      have g0 := H2.out.lst.lt k (by rw [← HN.out]; omega)
      have g1 := H2.out.lst.nx (k + 1) (by rw [← HN.out]; omega)
      have oa := (H2.out.lst.own (k + 1) (by rw [← HN.out]; omega)).2
      have oa2 := (HH.out.lst.own (k + 1) (by rw [← HN.out]; omega)).2
      rw [← ha] at g0 g1 oa oa2
      unfold ptr at g1
      have HT := hid (take_snoc xs k (by rw [← HN.out]; exact hlt))
      generalize hx : xs.getD k 0 = x at *
      have hle : (xs.take k).length ≤ 1099511627776 := by have := List.length_take_le k xs; omega
      obtain ⟨b, hb⟩ : ∃ b, b = Q (k + 1 + 1) := ⟨_, rfl⟩
      rw [← hb] at g1
      have HBb := hid hb
      have HA := hid ha
      clear hb ha hx
      go_wp2_with (at_builtin; refine wp_append rfl _ _ rfl w.heap.size wr.heap.size _ (xs.take k) x HO.out rfl rfl hsz hle ?_; intro v' w2 hown2 hchg2 hsz2; have HO2 := hid hown2; have HB2 := hid (HB.out.trans (hchg2.below (Nat.le_refl _) hsz)); obtain ⟨ao2, cap2, hv2⟩ := own_val HO2.out; clear hown2 hchg2; have hl2 : (xs.take k ++ [x]).length = k + 1 := (by rw [← HT.out, List.length_take]; have := HN.out; omega); rw [hl2] at hv2; clear hl2; subst hv2; have H3 := hid (HH.out.keep HB2.out); have g3 := H3.out.lst.nx (k + 1) (by rw [← HN.out]; omega); rw [← HA.out, ← HBb.out] at g3; unfold ptr at g3; clear g0 g1)
      go_roundw
      case rel => exact ⟨k + 1, b, by omega, rfl, HBb.out, ⟨_, _, by rfl⟩, by rw [HT.out]; exact HO2.out, HB2.out⟩
      case measure => simp; omega
    · obtain rfl : k = n := by omega
      have hap : a = p := by rw [ha, HP.out, HN.out, H2.out.lst.back]
      have HA := hid ha
      clear ha
      subst hap
      have hcm : (binOp .neq 99 (.pointer (some ⟨a, 0, none⟩)) (.pointer (some ⟨a, 0, none⟩))).run Try.prog wr = .ok (.bool false) wr := by
        rw [HC.out]; simp
      have HT : Hid (xs.take k = xs) := hid (List.take_of_length_le (by rw [HN.out]; exact Nat.le_refl _))
      rw [HT.out] at HO
      go_wp2
      go_ret
      exact ⟨_, rfl, HO.out, HB.out⟩

theorem Q0_lst (w : World) (lo : Nat) (hlo : lo ≤ w.heap.size) (w' : World) (h1 : w'.cell? ⟨w.heap.size, 1, none⟩ = some (ptr w.heap.size)) (h2 : w'.cell? ⟨w.heap.size, 2, none⟩ = some (ptr w.heap.size)) (hb : Blk w' w.heap.size) : Lst w' lo (fun _ => w.heap.size) [] :=
  ⟨rfl, fun i j hi hj _ => by simp at hi hj; omega, fun i _ => ⟨hlo, hb.lt⟩, fun i _ => h2, fun i _ => h1, fun i hi => by simp at hi, fun i _ => hb⟩

set_option maxRecDepth 100000 in
theorem linkW (xs : List Int) (v : Value) (B : Nat) (w : World) (ha : Ints w B v xs) (hB : B ≤ w.heap.size) (hn : xs.length ≤ 1000000) :
    Calls Try.prog 80 #[v] w fun e w' => ∃ W Q, e = .returned (ptr W) ∧ LW w' w.heap.size W Q xs ∧ Below w.heap.size w w' := by
  have HA := hid ha
  obtain ⟨ao, cap, hv⟩ := ints_val ha
  obtain ⟨n, hnn⟩ : ∃ n, n = xs.length := ⟨_, rfl⟩
  rw [← hnn] at hv hn
  subst hv
  have HN := hid hnn
  clear ha hnn
  go_enter Try.func80, Try.ntmps80
  go_wp2
  have HL : Hid (LW ((w.alloc (.cells #[.int .i64 0, .pointer (some ⟨w.heap.size, 0, none⟩), .pointer (some ⟨w.heap.size, 0, none⟩)] 103)).alloc (.cells #[.pointer (some ⟨w.heap.size, 0, none⟩), .int .i64 0] 105)) w.heap.size (w.heap.size + 1) (fun _ => w.heap.size) []) := by
    have hs : (w.alloc (.cells #[.int .i64 0, .pointer (some ⟨w.heap.size, 0, none⟩), .pointer (some ⟨w.heap.size, 0, none⟩)] 103)).heap.size = w.heap.size + 1 := by simp
    refine ⟨Q0_lst w _ (Nat.le_refl _) _ ?_ ?_ ((Blk.new w _ _).alloc _), ?_, ?_, fun o => ?_, ⟨by omega, by simp⟩, fun i _ => by omega⟩
    · rw [World.cell?_alloc_lt (h := by simp), World.cell?_alloc_at _ _ _ _ rfl]; rfl
    · rw [World.cell?_alloc_lt (h := by simp), World.cell?_alloc_at _ _ _ _ rfl]; rfl
    · rw [World.cell?_alloc_at _ _ _ _ hs.symm]; rfl
    · rw [World.cell?_alloc_at _ _ _ _ hs.symm]; rfl
    · rw [World.frozen?_alloc_at _ _ _ _ hs.symm]
  have HB1 := hid (((Below.refl w.heap.size w).alloc (Nat.le_refl _) (.cells #[.int .i64 0, .pointer (some ⟨w.heap.size, 0, none⟩), .pointer (some ⟨w.heap.size, 0, none⟩)] 103)).alloc (by simp) (.cells #[.pointer (some ⟨w.heap.size, 0, none⟩), .int .i64 0] 105))
  generalize ((w.alloc (.cells #[.int .i64 0, .pointer (some ⟨w.heap.size, 0, none⟩), .pointer (some ⟨w.heap.size, 0, none⟩)] 103)).alloc (.cells #[.pointer (some ⟨w.heap.size, 0, none⟩), .int .i64 0] 105)) = w1 at *
  go_loopw [22] (fun i wr => ∃ k : Nat, k ≤ n ∧ i = .int .i64 k ∧ ∃ Q, Q 0 = w.heap.size ∧ LW wr w.heap.size (w.heap.size + 1) Q (xs.take k) ∧ Below w.heap.size w wr) (fun i _ => n - (intOf i).toNat)
  case atStart => exact ⟨0, Nat.zero_le _, rfl, _, rfl, by simpa using HL.out, HB1.out⟩
  case round =>
    obtain ⟨k, hk, rfl, Q, hq0, hlw, hbel⟩ := hrel
    have HQ := hid hq0
    have HW := hid hlw
    have HB := hid hbel
    have hsz := hbel.size
    clear hq0 hlw hbel
    by_cases hlt : k < n
    · rcases HA.out with ⟨hx, _⟩ | ⟨hp, b, off, cap', hv, hb, hc⟩
      · rw [HN.out, hx] at hlt; simp at hlt
      · simp only [Value.slice.injEq] at hv
        obtain ⟨rfl, hlen, rfl⟩ := hv
        clear hlen
        have h1 : wr.cell? ⟨b, off + k, none⟩ = some (.int .i64 (xs.getD k 0)) := (HB.out.cell (p := ⟨b, off + k, none⟩) (by show b < _; omega)).trans (hc k (by rw [← HN.out]; exact hlt))
        have hl : (xs.take k).length = k := by rw [List.length_take]; have := HN.out; omega
        have HT := hid (take_snoc xs k (by rw [← HN.out]; exact hlt))
        clear hc hp
        generalize xs.getD k 0 = x at *
        have HI := hid (insB w.heap.size (w.heap.size + 1) Q (xs.take k) k (by omega) x wr HW.out hsz (by omega))
        have hqk : Q (k + 1) = w.heap.size := by have := HW.out.lst.back; rw [hl, HQ.out] at this; exact this
        rw [hqk] at HI
        unfold ptr at HI
        have HL2 : Hid (insL (xs.take k) k x = xs.take (k + 1)) := hid (by rw [HT.out]; unfold insL; rw [List.take_take, Nat.min_self, List.drop_eq_nil_of_le (by omega)])
        have HQ2 : Hid (insQ Q k wr.heap.size 0 = w.heap.size) := hid (by unfold insQ; rw [if_pos (Nat.zero_le _)]; exact HQ.out)
        clear hqk hl
        go_wp2_with fail
        refine HI.out.mono ?_
        rintro e w2 ⟨rfl, l2, b2, _⟩
        have HL3 := hid l2
        have HB3 := hid (HB.out.trans b2)
        clear l2 b2
        go_wp2
        go_roundw
        case rel => exact ⟨k + 1, by omega, by go_num, _, HQ2.out, by rw [← HL2.out]; exact HL3.out, HB3.out⟩
        case measure => simp [intOf]; omega
    · obtain rfl : k = n := by omega
      have HT : Hid (xs.take k = xs) := hid (List.take_of_length_le (by rw [HN.out]; exact Nat.le_refl _))
      rw [HT.out] at HW
      go_wp2
      go_ret
      exact ⟨w.heap.size + 1, Q, rfl, HW.out, HB.out⟩
end Go.Proofs.Ytedajefapddekaa.hl
