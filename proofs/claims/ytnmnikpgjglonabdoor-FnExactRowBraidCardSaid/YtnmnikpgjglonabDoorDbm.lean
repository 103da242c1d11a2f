/-
  In one file: Jn, Jo, Db1, Db2, Db3, Db4, Db5, Db6.
-/
import Derived.Test.YtnmnikpgjglonabDoorWi
import Derived.Deep.RegionLaw
import Derived.Laws.AppendOwnNone
import Derived.Test.YtnmnikpgjglonabDoorDb0
import Derived.Laws.EntriesVeiled
/- JoinBraids: the program's contract. -/
namespace Go.Proofs.YtnmnikpgjglonabDoor.br
open Go.RowKit Go.Proofs.YtnmnikpgjglonabDoor.sl Go.Proofs.YtnmnikpgjglonabDoor.pm Go.Proofs.YtnmnikpgjglonabDoor.bw Go.Proofs.YtnmnikpgjglonabDoor.fn
set_option linter.unusedVariables false

def jnOk (a b : Int) (xs ys : List Int) : Bool := okB a xs && okB b ys && decide (a = b) && decide (xs.length + ys.length ≤ 40)
def jnS (a b : Int) (xs ys : List Int) : Int := if jnOk a b xs ys = true then a else 0
def jnW (a b : Int) (xs ys : List Int) : List Int := if jnOk a b xs ys = true then xs ++ ys else []
def jnC (a b : Int) (xs ys : List Int) : Int := if okB a xs = false then 1 else if okB b ys = false then 1 else if ¬ a = b then 6 else if xs.length + ys.length ≤ 40 then 0 else 5
theorem jnW_len (a b : Int) (xs ys : List Int) : (jnW a b xs ys).length ≤ 1000 := by
  unfold jnW
  split
  · rename_i h
    simp only [jnOk, Bool.and_eq_true, decide_eq_true_eq] at h
    rw [List.length_append]; omega
  · simp
theorem jn_no {a b : Int} {xs ys : List Int} (h : jnOk a b xs ys = false) : jnS a b xs ys = 0 ∧ jnW a b xs ys = [] := by
  exact ⟨by rw [jnS, h]; rfl, by rw [jnW, h]; rfl⟩
theorem jn_join {a : Int} {xs ys : List Int} (h : okB a xs = true) (h2 : okB a ys = true) : joinS a [xs, ys] = jnS a a xs ys ∧ joinW a [xs, ys] = jnW a a xs ys ∧ joinC a [xs, ys] = jnC a a xs ys := by
  have hs := (ok_parts h).2.1
  have e : joinOk a [xs, ys] = jnOk a a xs ys := by
    simp only [joinOk, jnOk, h, h2, Bool.true_and, List.flatten_cons, List.flatten_nil, List.append_nil, List.length_append]
    rw [decide_eq_true hs]; simp
  refine ⟨by rw [joinS, jnS, e], by rw [joinW, jnW, e]; simp, ?_⟩
  rw [joinC, jnC, e, h, h2]
  simp only [jnOk, h, h2, Bool.true_and]
  simp
theorem wds_two (w : World) (B g : Nat) (a1 a2 : Option Addr) (c1 c2 : Nat) (xs ys : List Int) (h1 : w.cell? ⟨g, 0, none⟩ = some (.slice a1 xs.length c1)) (h2 : w.cell? ⟨g, 1, none⟩ = some (.slice a2 ys.length c2)) (i1 : Ints w B (.slice a1 xs.length c1) xs) (i2 : Ints w B (.slice a2 ys.length c2) ys) (n1 : NilOk (.slice a1 xs.length c1)) (n2 : NilOk (.slice a2 ys.length c2)) : Wds w B g [xs, ys] := by
  intro j hj
  match j, hj with
  | 0, _ => exact ⟨a1, c1, h1, i1, n1⟩
  | 1, _ => exact ⟨a2, c2, h2, i2, n2⟩
  | j + 2, hj => simp at hj; omega

/-- The code of a pair. -/
def jnP (a b : Int) (xs ys : List Int) : Int := if okB a xs = false then 1 else if okB b ys = false then 1 else if ¬ a = b then 6 else 0
theorem jnP_cases (a b : Int) (xs ys : List Int) : jnP a b xs ys = 1 ∨ jnP a b xs ys = 6 ∨ jnP a b xs ys = 0 := by
  unfold jnP; split
  · exact .inl rfl
  · split
    · exact .inl rfl
    · split
      · exact .inr (.inl rfl)
      · exact .inr (.inr rfl)
theorem jnP_err {a b : Int} {xs ys : List Int} (h : jnP a b xs ys ≠ 0) : jnOk a b xs ys = false ∧ jnC a b xs ys = jnP a b xs ys := by
  unfold jnP at h ⊢
  unfold jnC jnOk
  cases h1 : okB a xs
  · simp
  · cases h2 : okB b ys
    · simp
    · rw [h1, h2] at h
      have hab : ¬ a = b := fun e => h (by simp [e])
      simp [hab]
theorem jnP_ok {a b : Int} {xs ys : List Int} (h : jnP a b xs ys = 0) : okB a xs = true ∧ okB b ys = true ∧ a = b := by
  unfold jnP at h
  cases h1 : okB a xs
  · rw [h1] at h; simp at h
  · cases h2 : okB b ys
    · rw [h1, h2] at h; simp at h
    · rw [h1, h2] at h
      refine ⟨rfl, rfl, ?_⟩
      by_cases hab : a = b
      · exact hab
      · simp [hab] at h

end Go.Proofs.YtnmnikpgjglonabDoor.br

/- JoinBraids: a word copied by the model; an append as one step of a region that draws its order. -/
namespace Go.Proofs.YtnmnikpgjglonabDoor.br
open Go.RowKit Go.Proofs.YtnmnikpgjglonabDoor.sl Go.Proofs.YtnmnikpgjglonabDoor.pm Go.Proofs.YtnmnikpgjglonabDoor.bw Go.Proofs.YtnmnikpgjglonabDoor.fn
set_option linter.unusedVariables false

theorem ownL (xs : List Int) (v : Value) (B : Nat) (w : World) (ha : Ints w B v xs) (hnil : NilOk v) (hn : xs.length ≤ 1099511627776) :
    Calls Tryd.prog 91 #[v] w fun e w' => ∃ v', e = .returned v' ∧ sl.Own w' w.heap.size w'.heap.size v' xs ∧ Below w.heap.size w w' := by
  go_enter Tryd.func91, Tryd.ntmps91
  go_wp2_with (at_builtin; refine wp_appendAll rfl _ _ rfl w.heap.size _ _ [] (Own.built w #[] rfl) rfl v xs B (ints_al ha _) hnil rfl (by simp) (by simp; omega) ?_; intro v' w1 o1 c1)
  go_ret
  refine ⟨v', rfl, by simpa using o1, ?_⟩
  exact ((Below.refl w.heap.size w).alloc (Nat.le_refl _) (.cells #[] 2)).trans (c1.below (B := w.heap.size) (by omega) (by simp))

theorem step_appendAll {ops : Array Oper} {o : Oper} {a : Act} {K : Act → World → Prop} {Q : Exit → Act → World → Prop} {E : Prop} {w : World} (hgd : o.guard = none) (s x : Operand)
    (hop : o.op = .call { callee := .builtin .append, args := #[s, x], argTypes := #[29, 29] })
    (lo hi : Nat) (v : Value) (xs : List Int) (ho : sl.Own w lo hi v xs) (hs : a.eval s = v) (u : Value) (ys : List Int) (C : Nat) (hu : Ints w C u ys) (hnil : NilOk u) (hx : a.eval x = u) (hlo : lo ≤ w.heap.size) (hn : xs.length + ys.length ≤ 1099511627776)
    (hK : ∀ v' w', sl.Own w' lo w'.heap.size v' (xs ++ ys) → Chg lo hi w w' → K (a.put o.dst v') w') : if Region.wanted o (yielded ops a.tmps) = true then Oper.wp Tryd.prog o a w K Q else E := by
  have hw : Region.wanted o (yielded ops a.tmps) = true := by simp [Region.wanted, hgd]
  rw [if_pos hw]
  obtain ⟨i0, hi', hz0, hz1, hz2⟩ := info_parts info64
  have main : ∀ (ad : Addr) (cap : Nat), u = .slice (some ad) ys.length cap → (∀ j, j < ys.length → w.cell? (ad.add j) = some (.int .i64 (ys.getD j 0))) → Oper.wp Tryd.prog o a w K Q := by
    intro ad cap hu' hc
    refine wp_append_own (P := Tryd.prog) w s x 29 hop lo 2 i0 (.int .i64 0) 1 8 Tryd.underlying29 hi' hz0 hz1 hz2 rfl (by decide) v xs.length (xs.map (Value.int .i64)) hs ho.1 ad ys.length cap (ys.map (Value.int .i64)) (hx.trans hu') (by simp) ?_ (ints_oneCell _ _) ?_ ?_ hlo ?_
    · intro j q hj
      have hj' : j < ys.length := by
        have := (List.getElem?_eq_some_iff.1 hj).1
        simpa using this
      rw [hc j hj']
      simp only [List.getElem?_map, List.getElem?_eq_getElem hj', Option.map_some, Option.some.injEq] at hj
      rw [← hj]
      simp [List.getD, List.getElem?_eq_getElem hj']
    · unfold maxLen; omega
    · omega
    · intro v' w' h1 h2 _
      refine hK v' w' (Own.mk' (by rw [List.length_append, List.map_append]; exact h1)) ⟨h2.os, h2.tape, h2.output, h2.size, fun k hk hk' => ?_⟩
      exact h2.block k hk (by intro e; have h3 := ho.2.1 k e.symm; have h4 := (ho.1.lt k e.symm).1; exact hk' ⟨h4, h3⟩)
  rcases hu with ⟨rfl, ao, cap, rfl⟩ | ⟨hp, b, off, cap, hv, hb, hc⟩
  · cases ao with
    | none =>
      obtain ⟨_, rfl⟩ := hnil _ _ rfl
      have hrun := run_append_owned_none (P := Tryd.prog) (w := w) lo 29 o.type 2 i0 1 Tryd.underlying29 hi' v xs.length (xs.map (Value.int .i64)) ho.1
      have hk := hK v w (by rw [List.append_nil]; exact ho.hi ho.2.2 (Nat.le_refl _)) (Chg.refl _ _ _)
      unfold Oper.wp
      simp [execOp, hop, resolve, invoke, builtin, hs, hx, hrun, Result.andThen]
      exact hk
    | some ad => exact main ad cap rfl (fun j hj => by simp at hj)
  · exact main ⟨b, off, none⟩ cap hv (fun j hj => by rw [Addr.add_lit]; exact hc j hj)
end Go.Proofs.YtnmnikpgjglonabDoor.br

/- DoubleBraid: the words of the blocks, by the program. -/
namespace Go.Proofs.YtnmnikpgjglonabDoor.db
open Go.RowKit Go.Proofs.YtnmnikpgjglonabDoor.sl Go.Proofs.YtnmnikpgjglonabDoor.pm Go.Proofs.YtnmnikpgjglonabDoor.fn Go.Proofs.YtnmnikpgjglonabDoor.br Go.Proofs.YtnmnikpgjglonabDoor.bw Go.Proofs.YtnmnikpgjglonabDoor.wk
set_option linter.unusedVariables false

theorem ints_take {w : World} {lo hi g n cap i : Nat} {L : List Int} (o : sl.Own w lo hi (.slice (some ⟨g, 0, none⟩) n cap) L) (h : i ≤ L.length) : Ints w hi (.slice (some ⟨g, 0, none⟩) i cap) (L.take i) := by
  by_cases h0 : i = 0
  · subst h0; exact .inl ⟨by simp, _, _, rfl⟩
  · refine .inr ⟨by simp; omega, g, 0, cap, by simp; omega, o.2.1 g rfl, fun j hj => ?_⟩
    simp at hj
    rw [Nat.zero_add, (o.at' j (by omega)).1]
    have h1 : j < i := by omega
    simp [List.getD, h1]
/-- Sizes of blocks. -/
def Sm (xs : List Int) : Prop := ∀ j, 0 ≤ xs.getD j 0 ∧ xs.getD j 0 ≤ 4
theorem sm_sum (xs : List Int) (h : Sm xs) (k : Nat) (hk : xs.length ≤ 100) : 0 ≤ sumL (xs.take k) ∧ sumL (xs.take k) ≤ 400 := by
  have H : ∀ n, n ≤ xs.length → 0 ≤ sumL (xs.take n) ∧ sumL (xs.take n) ≤ 4 * (n : Int) := by
    intro n
    induction n with
    | zero => intro _; simp [sumL]
    | succ n ih =>
      intro hn
      have h1 := ih (by omega)
      have h2 := h n
      have e : sumL (xs.take (n + 1)) = sumL (xs.take n) + xs.getD n 0 := by
        rw [List.take_succ_eq_append_getElem (show n < xs.length by omega)]
        unfold sumL
        rw [List.foldl_append]
        simp [List.getD, List.getElem?_eq_getElem (show n < xs.length by omega)]
      rw [e]
      omega
  by_cases hl : k ≤ xs.length
  · have := H k hl; omega
  · have := H xs.length (Nat.le_refl _)
    rw [List.take_of_length_le (show xs.length ≤ k by omega)]
    rw [List.take_length] at this
    omega
theorem sg_one (x : Int) : sg x = 1 ∨ sg x = -1 := by unfold sg; split <;> simp

set_option maxRecDepth 100000 in
set_option maxHeartbeats 4000000 in
theorem crossC (now : List Int) (x : Int) (q bp n cap lo hi : Nat) (ao : Option Addr) (w : World) (hx : -100 ≤ x ∧ x ≤ 100) (hq : ab x = (q : Int) + 1) (c0 : w.cell? ⟨bp, 0, none⟩ = some (.slice ao n cap)) (o : sl.Own w lo hi (.slice ao n cap) now) (hbp : bp < lo ∨ hi ≤ bp) (hqn : q + 1 < now.length) (hn : now.length ≤ 100) (hs : Sm now) :
    Calls Tryd.prog 151 #[.int .i64 x, .pointer (some ⟨bp, 0, none⟩)] w fun e w' => ∃ v', e = .returned v' ∧ sl.Own w' w.heap.size w'.heap.size v' (swO (sg x) (sumL (now.take q)) (now.getD q 0).toNat (now.getD (q + 1) 0).toNat) ∧ sl.Own w' lo hi (.slice ao n cap) (swapAt now q) ∧ Chg lo hi w w' := by
  obtain ⟨g, cap', hv, hg1, hg2⟩ := own_slice o (by omega)
  simp only [Value.slice.injEq] at hv
  obtain ⟨rfl, rfl, rfl⟩ := hv
  obtain ⟨hc1, hc2⟩ := own_caps o
  have h1 := (o.at' q (by omega)).1
  have h2 := (o.at' (q + 1) hqn).1
  have a1 := hs q
  have a2 := hs (q + 1)
  have a3 := sm_sum now hs q hn
  have HGen := hid (fun W => gen_at x q hx hq W)
  have HSg := hid (fun W => implSign x W)
  have HSgn := hid (sg_one x)
  have HTk := hid (ints_take o (show q ≤ now.length by omega))
  have HSum := hid (fun W (hI : Ints W hi (.slice (some ⟨g, 0, none⟩) q cap) (now.take q)) => implSum (now.take q) 4 _ hi W hI (by simp; omega) (by omega) (fun j hj => by
    have hj' : j < q := by simp at hj; omega
    have := hs j
    have e : (now.take q).getD j 0 = now.getD j 0 := by simp [List.getD, hj']
    rw [e]; omega))
  have HEx := hid (fun W (oW : sl.Own W lo hi (.slice (some ⟨g, 0, none⟩) now.length cap) now) => implExchange now _ lo hi q W oW (by omega) hqn)
  have hblt := World.block_lt_of_cell? w _ c0
  obtain ⟨s, hsm⟩ : ∃ s, s = sumL (now.take q) := ⟨_, rfl⟩
  obtain ⟨a, ha⟩ : ∃ a : Nat, now.getD q 0 = (a : Int) := Int.eq_ofNat_of_zero_le a1.1
  obtain ⟨b, hb⟩ : ∃ b : Nat, now.getD (q + 1) 0 = (b : Int) := Int.eq_ofNat_of_zero_le a2.1
  rw [ha] at h1 a1 ⊢
  rw [hb] at h2 a2 ⊢
  rw [← hsm] at a3 HSum ⊢
  rw [Int.toNat_natCast, Int.toNat_natCast]
  have HCr := hid (fun W => implCross (sg x) s a b W HSgn.out (by omega) (by omega) (by omega))
  have HN := hid hn
  generalize sg x = sx at *
  obtain ⟨m, hm⟩ : ∃ m, m = now.length := ⟨_, rfl⟩
  rw [← hm] at c0 o HEx hqn hn hc1 ⊢
  have HO := hid o
  have hqm : (q : Int) + 1 < (m : Int) := by omega
  have hqw : IntKind.i64.wrap ((q : Int) + 1) = (q : Int) + 1 := IntWalk.i64_in _ (by omega)
  clear o hsm ha hb hs hm
  go_enter Tryd.func151, Tryd.ntmps151
  have HSq : Hid (∀ W, Ints W hi (.slice (some ⟨g, 0, none⟩) q cap) (now.take q) → Calls Tryd.prog 107 #[.slice (some ⟨g, 0, none⟩) q cap] W fun e w' => e = .returned (.int .i64 s) ∧ w' = W) := hid (fun W hI => (HSum.out W hI).mono fun _ _ h => ⟨h.1, h.2.symm⟩)
  go_wp2_with (go_at_call 152; refine (HGen.out _).mono ?_; rintro e w9 ⟨rfl, rfl⟩)
  go_quiet ((go_at_call 107; exact Calls.quiet_of_same (HSq.out _ HTk.out)))
  go_wp2_with (first | (go_at_call 153; refine (HEx.out _ (HO.out.drewN nq)).mono ?_; rintro e w3 ⟨rfl, o3, ch3⟩; have HO3 := hid o3; have HC3 : Hid (Chg lo hi w w3) := hid ⟨ch3.os, ch3.tape, ch3.output, ch3.size, ch3.block⟩; have hz3 := HC3.out.size; have c3 : w3.cell? ⟨bp, 0, none⟩ = some (.slice (some ⟨g, 0, none⟩) m cap) := (World.cell?_of_block (w := w) (w' := w3) (a := ⟨bp, 0, none⟩) (HC3.out.block bp hblt (by omega))).trans c0; clear o3 ch3) | (go_at_call 154; refine (HSg.out _).mono ?_; rintro e w9 ⟨rfl, hw9⟩; subst hw9) | (go_at_call 117; refine (HCr.out _).mono ?_; rintro e w4 ⟨v4, rfl, o4, b4⟩; have HO4 := hid o4; have HB4 := hid b4; clear o4 b4))
  go_ret
  refine ⟨_, rfl, HO4.out.lo hz3, HO3.out.chg (Chg.ofBelow (lo := 0) HB4.out) (.inr (.inr (Nat.zero_le _))), HC3.out.trans ?_⟩
  have h := HB4.out
  exact ⟨h.os, h.tape, h.output, h.size, fun k hk _ => h.block k hk⟩
end Go.Proofs.YtnmnikpgjglonabDoor.db

/- DoubleBraid: blockWords of the program. -/
namespace Go.Proofs.YtnmnikpgjglonabDoor.db
open Go.RowKit Go.Proofs.YtnmnikpgjglonabDoor.sl Go.Proofs.YtnmnikpgjglonabDoor.pm Go.Proofs.YtnmnikpgjglonabDoor.fn Go.Proofs.YtnmnikpgjglonabDoor.br Go.Proofs.YtnmnikpgjglonabDoor.bw Go.Proofs.YtnmnikpgjglonabDoor.wk
set_option linter.unusedVariables false

theorem sr_chg {W W' : World} {lo l h : Nat} {v : Value} {vals : List Value} {L : List (List Int)} (s : SR W lo v vals L) (c : Chg l h W W') (hh : h ≤ lo) : SR W' lo v vals L := by
  obtain ⟨Lo, Hi, he⟩ := s.els
  refine ⟨s.len, ⟨s.row.1, ?_⟩, Lo, Hi, fun j hj => ?_⟩
  · rcases s.row.2 with h1 | ⟨g, cap, cur, hv, hb, hg, hr⟩
    · exact .inl h1
    · have hlt := (s.row.lt g (by rw [hv]; rfl)).2
      exact .inr ⟨g, cap, cur, hv, hb, by rw [c.block g hlt (by omega)]; exact hg, hr⟩
  · obtain ⟨a1, a2, a3⟩ := he j hj
    exact ⟨a1.chg c (by omega), a2, a3⟩
/-- One row more; the world has changed below. -/
theorem sr_app {Wr W1 W2 W' : World} {lo l h : Nat} {v v' y : Value} {vals : List Value} {L : List (List Int)} {r : List Int} (s : SR Wr lo v vals L) (c : Chg l h Wr W1) (hh : h ≤ lo) (oy : sl.Own W1 Wr.heap.size W1.heap.size y r) (b2 : Below W1.heap.size W1 W2) (hlo : lo ≤ Wr.heap.size)
    (hr : W'.ownsRow lo 29 1 v' (L.length + 1) (vals ++ [y])) (hg : W2.grownBy W' v.ownBlock) (h5 : v'.ownBlock = v.ownBlock ∨ v'.ownBlock = some W2.heap.size) : SR W' lo v' (vals ++ [y]) (L ++ [r]) := by
  have hs1 := c.size
  have hs2 := b2.size
  have oy2 : sl.Own W2 Wr.heap.size W1.heap.size y r := oy.chg (Chg.ofBelow (lo := 0) b2) (.inr (.inr (Nat.zero_le _)))
  obtain ⟨Lo, Hi, he⟩ := s.els
  have hlt : ∀ k, v.ownBlock = some k → k < Wr.heap.size := fun k hk => (s.row.lt k hk).2
  refine ⟨by simp [s.len], by simpa using hr, fun j => if j < L.length then Lo j else Wr.heap.size, fun j => if j < L.length then Hi j else W1.heap.size, fun j hj => ?_⟩
  simp only [List.length_append, List.length_cons, List.length_nil, Nat.zero_add] at hj
  by_cases hl : j < L.length
  · have hl' : j < vals.length := by rw [s.len]; exact hl
    have e1 : (vals ++ [y]).getD j (.bool false) = vals.getD j (.bool false) := by simp [List.getD, List.getElem?_append_left hl']
    have e2 : (L ++ [r]).getD j [] = L.getD j [] := by simp [List.getD, List.getElem?_append_left hl]
    obtain ⟨a1, a2, a3, a4⟩ := he j hl
    have hh1 := a1.2.2
    have o2 : sl.Own W2 (Lo j) (Hi j) (vals.getD j (.bool false)) (L.getD j []) := (a1.chg c (by omega)).chg (Chg.ofBelow (lo := 0) b2) (.inr (.inr (Nat.zero_le _)))
    rw [e1, e2]
    simp only [if_pos hl]
    refine ⟨own_by o2 hg a3, a2, fun g e => ?_, fun i hi => ?_⟩
    · rcases h5 with h5 | h5
      · exact a3 g (by rw [← h5]; exact e)
      · rw [h5] at e
        simp only [Option.some.injEq] at e
        omega
    · rw [if_pos (show i < L.length by omega)]
      rw [if_pos (show i < L.length by omega)]
      exact a4 i hi
  · obtain rfl : j = L.length := by omega
    have e1 : (vals ++ [y]).getD L.length (.bool false) = y := by rw [← s.len]; simp [List.getD]
    have e2 : (L ++ [r]).getD L.length [] = r := by simp [List.getD]
    rw [e1, e2]
    simp only [if_neg (Nat.lt_irrefl _)]
    refine ⟨own_by oy2 hg fun k hk => .inl (hlt k hk), hlo, fun g e => ?_, fun i hi => ?_⟩
    · rcases h5 with h5 | h5
      · exact .inl (hlt g (by rw [← h5]; exact e))
      · rw [h5] at e
        simp only [Option.some.injEq] at e
        omega
    · simp only [if_pos hi]
      have := (he i hi).1.2.2
      omega
theorem wp_appRC {ops : Array Oper} {rest : List Oper} {o : Oper} {a : Act} {Q : Exit → Act → World → Prop} {Wr W1 : World} (hgd : o.guard = none) (s x : Operand)
    (hop : o.op = .call { callee := .builtin .append, args := #[s, x], argTypes := #[107, 107] })
    (lo l hh : Nat) (v y : Value) (vals : List Value) (L : List (List Int)) (r : List Int) (h : SR Wr lo v vals L) (c : Chg l hh Wr W1) (hhl : hh ≤ lo) (oy : sl.Own W1 Wr.heap.size W1.heap.size y r) (hy1 : y.oneCell' = true) (hs : a.eval s = v) (hx : a.eval x = .slice (some ⟨W1.heap.size, 0, none⟩) 1 1) (hlo : lo ≤ Wr.heap.size) (hn : L.length ≤ 1048576)
    (hK : ∀ v' w', SR w' lo v' (vals ++ [y]) (L ++ [r]) → Below lo W1 w' → wpList Tryd.prog ops Q rest (a.put o.dst v') w') : wpList Tryd.prog ops Q (o :: rest) a (W1.alloc (.cells #[y] 29)) := by
  obtain ⟨i0, hi', hz0, hz1, hz2⟩ := info_parts ss.infoS
  have b2 : Below W1.heap.size W1 (W1.alloc (.cells #[y] 29)) := (Below.refl _ _).alloc (Nat.le_refl _) _
  have hs1 := c.size
  have ho := ((sr_chg h c hhl).below b2).row
  obtain ⟨v', w', hr, h2, h3, h4, h5⟩ := run_append_own_at (P := Tryd.prog) (W1.alloc (.cells #[y] 29)) lo 107 o.type 29 i0 (.slice none 0 0) 1 24 Tryd.underlying107 hi' hz0 hz1 hz2 rfl (by decide) v L.length vals ho ⟨W1.heap.size, 0, none⟩ 1 1 [y] (by simp)
    (fun j u hj => by
      match j, hj with
      | 0, hj =>
        simp only [List.getElem?_cons_zero, Option.some.injEq] at hj
        subst hj
        rw [Addr.add_lit, World.cell?_alloc_at _ _ _ _ rfl]; rfl)
    (fun u hu => by simp at hu; subst hu; exact hy1) (by unfold maxLen; omega) (by omega) (by simp; omega)
  refine wpList_plain hgd fun K hKK => ?_
  unfold Oper.wp execOp
  simp only [hop, resolve, invoke, builtin, Sem.run_bind, Sem.run_pure, Result.andThen_ok, List.map_toArray, List.map_cons, List.map_nil, hs, hx, hr]
  refine hKK _ _ (hK v' w' (sr_app h c hhl oy b2 hlo h2 h3 h5) ⟨h3.os, h3.tape, h3.output, Nat.le_trans b2.size h3.size, fun k hk => ?_⟩)
  rw [h3.block k (by have := b2.size; omega) (by intro e; have := (h.row.lt k e.symm).1; omega)]
  exact b2.block k (by omega)
theorem sr_pos {w : World} {lo : Nat} {v : Value} {vals : List Value} {L : List (List Int)} (h : SR w lo v vals L) (hL : 0 < L.length) : ∃ g c, v = .slice (some ⟨g, 0, none⟩) L.length c ∧ g < w.heap.size := by
  rcases h.row.2 with ⟨_, h0⟩ | ⟨g, c, cur, h1, h2, h3, _⟩
  · omega
  · exact ⟨g, c, h1, (Array.getElem?_eq_some_iff.1 h3).1⟩
theorem sr_wds {w : World} {lo g c : Nat} {vals : List Value} {L : List (List Int)} (h : SR w lo (.slice (some ⟨g, 0, none⟩) L.length c) vals L) : Wds w w.heap.size g L := by
  intro j hj
  obtain ⟨Lo, Hi, he⟩ := h.els
  have o := (he j hj).1
  obtain ⟨ao, cap, hv⟩ := br.own_val o
  have h1 := h.row.cells (g := g) rfl j (vals.getD j (.bool false)) (by
    have hj' : j < vals.length := by rw [h.len]; exact hj
    simp [List.getD, List.getElem?_eq_getElem hj'])
  rw [Addr.add_lit] at h1
  simp only [Nat.zero_add] at h1
  rw [hv] at h1 o
  exact ⟨ao, cap, by simpa using h1, o.ints.mono o.2.2, nilok_own o⟩
def rowsL (sizes word : List Int) (k : Nat) : List (List Int) := (List.range k).map fun j => dbL sizes word j
theorem rows_succ (sizes word : List Int) (k : Nat) : rowsL sizes word (k + 1) = rowsL sizes word k ++ [dbL sizes word k] := by simp [rowsL, List.range_succ]
theorem rows_len (sizes word : List Int) (k : Nat) : (rowsL sizes word k).length = k := by simp [rowsL]
theorem rows_flat (sizes word : List Int) (k : Nat) : (rowsL sizes word k).flatten = dbW sizes word k := rfl

/-- Where a letter stands: its place. -/
theorem ab_place {s : Nat} {x : Int} (h : x ≠ 0 ∧ 1 - (s : Int) ≤ x ∧ x ≤ (s : Int) - 1) : ∃ q : Nat, ab x = (q : Int) + 1 ∧ q + 1 < s ∧ (ab x - 1).toNat = q := by
  obtain ⟨h0, h1, h2⟩ := h
  have : 1 ≤ ab x ∧ ab x ≤ (s : Int) - 1 := by unfold ab; split <;> omega
  exact ⟨(ab x - 1).toNat, by omega, by omega, rfl⟩

set_option maxRecDepth 100000 in
set_option maxHeartbeats 4000000 in
theorem blockWordsC (word sizes : List Int) (vl vs : Value) (Bl Bs : Nat) (w : World) (hl : Ints w Bl vl word) (hs : Ints w Bs vs sizes) (hBl : Bl ≤ w.heap.size) (hBs : Bs ≤ w.heap.size) (hnil : NilOk vs) (hok : ∀ j, j < word.length → word.getD j 0 ≠ 0 ∧ 1 - (sizes.length : Int) ≤ word.getD j 0 ∧ word.getD j 0 ≤ (sizes.length : Int) - 1) (hn : word.length ≤ 40) (hm : sizes.length ≤ 12) (hsm : Sm sizes) :
    Calls Tryd.prog 115 #[vl, vs] w fun e w' => ∃ g c, e = .returned (.slice (some ⟨g, 0, none⟩) word.length c) ∧ (∃ vals, SR w' w.heap.size (.slice (some ⟨g, 0, none⟩) word.length c) vals (rowsL sizes word word.length)) ∧ g < w'.heap.size ∧ Below w.heap.size w w' := by
  obtain ⟨i0, hi, hz0, hz1, hz2⟩ := info_parts ss.infoS
  have HCl := hid (clone sizes vs Bs w hs hnil (by omega))
  obtain ⟨aol, capl, hvl⟩ := ints_slice hl
  have HL := hid hl
  have HOk := hid hok
  have HSm := hid hsm
  have HRs := hid (fun k => rows_succ sizes word k)
  have HLn := hid (dbN_len sizes word)
  have HNs := hid (dbN_succ sizes word)
  have HNa := hid (fun k hk => (dbN_all (P := fun y => 0 ≤ y ∧ y ≤ 4) ⟨by omega, by omega⟩ sizes word hsm k hk : Sm (dbN sizes word k)))
  obtain ⟨n, hnn⟩ : ∃ n, n = word.length := ⟨_, rfl⟩
  have HN := hid hnn
  rw [← hnn] at hvl hn HLn HNs HNa HOk ⊢
  subst hvl
  clear hl hs hok hsm hnn
  go_enter Tryd.func115, Tryd.ntmps115
  go_wp2_with fail
  refine HCl.out.mono ?_
  rintro e W1 ⟨v1, rfl, o1, b1⟩
  obtain ⟨ao1, cap1, hv1⟩ := br.own_val o1
  have HO1 := hid o1
  have HB1 := hid b1
  have hz1' := b1.size
  obtain ⟨m, hmm⟩ : ∃ m, m = sizes.length := ⟨_, rfl⟩
  have HM := hid hmm
  rw [← hmm] at hv1 hm HLn HOk
  subst hv1
  clear o1 b1 hmm HCl
  have bX : Below W1.heap.size W1 (W1.alloc (.cells #[.slice ao1 m cap1] 29)) := (Below.refl _ _).alloc (Nat.le_refl _) _
  have HXc : Hid ((W1.alloc (.cells #[.slice ao1 m cap1] 29)).cell? ⟨W1.heap.size, 0, none⟩ = some (.slice ao1 m cap1)) := hid (World.cell?_alloc_at _ _ _ _ rfl)
  have HXo := hid (HO1.out.chg (Chg.ofBelow (lo := 0) bX) (.inr (.inr (Nat.zero_le _))))
  have HXb := hid (HB1.out.trans (bX.mono hz1'))
  have hXz : (W1.alloc (.cells #[.slice ao1 m cap1] 29)).heap.size = W1.heap.size + 1 := by simp
  clear bX
  go_wp2_with (at_make; refine wpList_make_own _ rfl _ _ 107 rfl (W1.heap.size + 1) 29 i0 (.slice none 0 0) 1 Tryd.underlying107 hi hz0 hz1 .i64 .i64 _ n rfl rfl (by omega) (by rw [hz2]; omega) (by unfold maxLen; omega) (by omega) ?_; intro W2 hown2 hgrow2; have HS2 := hid hown2; have HG2 := hid hgrow2; clear hown2 hgrow2)
  have b2 : Below (W1.alloc (.cells #[.slice ao1 m cap1] 29)).heap.size (W1.alloc (.cells #[.slice ao1 m cap1] 29)) W2 := (Below.refl _ _).grown HG2.out (Nat.le_refl _) (fun k hk => by cases hk)
  have HB2 := hid (HXb.out.trans (b2.mono (by omega)))
  have HO2 := hid (HXo.out.chg (Chg.ofBelow (lo := 0) b2) (.inr (.inr (Nat.zero_le _))))
  have HC2 := hid ((b2.cell (p := ⟨W1.heap.size, 0, none⟩) (by show W1.heap.size < _; omega)).trans HXc.out)
  have hz2' := b2.size
  have hg2 : W1.heap.size + 1 < W2.heap.size := by have := (HS2.out.lt _ rfl).2; rw [← hXz]; exact this
  have HR2 : Hid (SR W2 (W1.heap.size + 1) (.slice (some ⟨W1.heap.size + 1, 0, none⟩) 0 n) [] (rowsL sizes word 0)) := hid ⟨rfl, by have := HS2.out; rw [hXz] at this; simpa [rowsL] using this, fun _ => 0, fun _ => 0, fun j hj => by simp [rowsL] at hj⟩
  clear b2 HXb HXo HXc HG2 HS2
  go_loopw [7, 18] (fun v i wr => ∃ (k : Nat) (vals : List Value), k ≤ n ∧ i = .int .i64 (k : Int) ∧ SR wr (W1.heap.size + 1) v vals (rowsL sizes word k) ∧ (k = 0 → ∃ g c, v = .slice (some ⟨g, 0, none⟩) 0 c ∧ g < wr.heap.size) ∧ sl.Own wr w.heap.size W1.heap.size (.slice ao1 m cap1) (dbN sizes word k) ∧ wr.cell? ⟨W1.heap.size, 0, none⟩ = some (.slice ao1 m cap1) ∧ Below w.heap.size w wr ∧ W1.heap.size + 1 ≤ wr.heap.size) (fun _ i _ => n - (intOf i).toNat)
  case atStart =>
    exact ⟨0, [], Nat.zero_le _, rfl, HR2.out, fun _ => ⟨_, _, rfl, hg2⟩, by rw [dbN_zero]; exact HO2.out, HC2.out, HB2.out, by omega⟩
  case round =>
    obtain ⟨k, vals, hk, rfl, hsr, h0, hob, hcb, hbr, hsz⟩ := hrel
    have HSr := hid hsr
    have HBr := hid hbr
    have hzr := hbr.size
    have HCb := hid hcb
    have HOb := hid hob
    have H0 := hid h0
    clear hsr hob hbr hcb h0 HB2 HO2 HC2 HR2
    by_cases hlt : k < n
    · rcases HL.out with ⟨hnil, _⟩ | ⟨hp, b, off, cap, hv, hb, hc⟩
      · exfalso
        have := HN.out
        rw [hnil] at this
        simp at this
        omega
      · simp only [Value.slice.injEq] at hv
        obtain ⟨rfl, hnw, rfl⟩ := hv
        have hcx := (HBr.out.cell (p := ⟨b, off + k, none⟩) (by show b < _; omega)).trans (hc k (by rw [← HN.out]; exact hlt))
        have hx := HOk.out k hlt
        obtain ⟨q, hq1, hq2, hq3⟩ := ab_place hx
        have hlen := HLn.out k (by omega)
        have HDb : Hid (dbL sizes word k = swO (sg (word.getD k 0)) (sumL ((dbN sizes word k).take q)) ((dbN sizes word k).getD q 0).toNat ((dbN sizes word k).getD (q + 1) 0).toNat) := hid (by unfold dbL; rw [hq3])
        have HDn : Hid (dbN sizes word (k + 1) = swapAt (dbN sizes word k) q) := hid (by rw [HNs.out k hlt, hq3])
        generalize word.getD k 0 = x at *
        have HCr := hid (crossC (dbN sizes word k) x q W1.heap.size m cap1 w.heap.size W1.heap.size ao1 wr (by omega) hq1 HCb.out HOb.out (.inr (Nat.le_refl _)) (by omega) (by omega) (HNa.out k (by omega)))
        have HLr := hid (rows_len sizes word k)
        clear hc hp hb hx hq1 hq2 hq3 hlen hnw
        go_wp2_with (first | (go_at_call 151; refine HCr.out.mono ?_; rintro e w3 ⟨v3, rfl, o3, ob3, ch3⟩; rw [← HDb.out] at o3; rw [← HDn.out] at ob3; have HO3 := hid o3; have HOb3 := hid ob3; have HC3 := hid ch3; have hz3 := ch3.size; obtain ⟨ao3, cap3, hv3⟩ := br.own_val o3; generalize (dbL sizes word k).length = l3 at hv3; subst hv3; clear o3 ob3 ch3) | (at_builtin; refine wp_appRC rfl _ _ rfl (W1.heap.size + 1) w.heap.size W1.heap.size _ _ vals (rowsL sizes word k) (dbL sizes word k) HSr.out HC3.out (by omega) HO3.out rfl rfl rfl (by omega) (by rw [HLr.out]; omega) ?_; intro v5 w5 hs5 hb5; have HS5 := hid hs5; have HB5 := hid hb5; have hz5 := hb5.size; clear hs5 hb5))
        go_roundw
        case rel =>
          have h5 := HB5.out
          have hc5 : Chg (W1.heap.size + 1) w3.heap.size w3 w5 := ⟨h5.os, h5.tape, h5.output, h5.size, fun j hj hj' => h5.block j (by omega)⟩
          exact ⟨k + 1, _, by omega, by go_num, by rw [HRs.out k]; exact HS5.out, fun h => absurd h (by omega), HOb3.out.chg hc5 (.inl (by omega)), (HB5.out.cell (p := ⟨W1.heap.size, 0, none⟩) (by show W1.heap.size < _; omega)).trans ((World.cell?_of_block (w := wr) (w' := w3) (a := ⟨W1.heap.size, 0, none⟩) (HC3.out.block W1.heap.size (by omega) (by omega))).trans HCb.out), (HBr.out.trans (HC3.out.below (Nat.le_refl _) hzr)).trans (HB5.out.mono (by omega)), by omega⟩
        case measure => simp [intOf]; omega
    · obtain rfl : k = n := by omega
      have hform : ∃ g c, u7 = .slice (some ⟨g, 0, none⟩) k c ∧ g < wr.heap.size := by
        by_cases h : k = 0
        · obtain ⟨g, c, h1, h2⟩ := H0.out h
          exact ⟨g, c, by rw [h1, h], h2⟩
        · obtain ⟨g, c, h1, h2⟩ := sr_pos HSr.out (by rw [rows_len]; omega)
          rw [rows_len] at h1
          exact ⟨g, c, h1, h2⟩
      obtain ⟨g, c, rfl, hg⟩ := hform
      go_wp2
      go_ret
      exact ⟨g, c, rfl, ⟨vals, HSr.out.low (by omega)⟩, hg, HBr.out⟩
end Go.Proofs.YtnmnikpgjglonabDoor.db

/- DoubleBraid of the program. -/
namespace Go.Proofs.YtnmnikpgjglonabDoor.db
open Go.RowKit Go.Proofs.YtnmnikpgjglonabDoor.sl Go.Proofs.YtnmnikpgjglonabDoor.pm Go.Proofs.YtnmnikpgjglonabDoor.fn Go.Proofs.YtnmnikpgjglonabDoor.br Go.Proofs.YtnmnikpgjglonabDoor.bw Go.Proofs.YtnmnikpgjglonabDoor.wk
set_option linter.unusedVariables false

def dbP (s : Int) (xs ss : List Int) : Bool := okB s xs && decide ((ss.length : Int) = s)
def badB (x : Int) : Bool := !decide (0 ≤ x ∧ x ≤ 4)
def dbSt (s : Int) (xs ss : List Int) : Int := if dbP s xs ss = true then (if ss.any badB = true then 0 else joinS (sumL ss) (rowsL ss xs xs.length)) else 0
def dbWo (s : Int) (xs ss : List Int) : List Int := if dbP s xs ss = true then (if ss.any badB = true then [] else joinW (sumL ss) (rowsL ss xs xs.length)) else []
def dbCo (s : Int) (xs ss : List Int) : Int := if dbP s xs ss = true then (if ss.any badB = true then 2 else joinC (sumL ss) (rowsL ss xs xs.length)) else 1
theorem sm_of {ss : List Int} (h : ss.any badB = false) : Sm ss := by
  intro j
  by_cases hj : j < ss.length
  · have h2 := List.any_eq_false.1 h (ss.getD j 0) (by simp [List.getD, List.getElem?_eq_getElem hj])
    simpa [badB] using h2
  · simp [List.getD, List.getElem?_eq_none (show ss.length ≤ j by omega)]

theorem sumL_le (ns : List Nat) (M : Nat) (h : ∀ x ∈ ns, x ≤ M) : ns.sum ≤ ns.length * M := by
  induction ns with
  | nil => simp
  | cons x ns ih =>
    have h1 := h x (by simp)
    have h2 := ih (fun r hr => h r (by simp [hr]))
    rw [List.sum_cons, List.length_cons, Nat.succ_mul]
    omega
theorem rows_tot (ss xs : List Int) (hsm : Sm ss) (hx : xs.length ≤ 40) (hs : ss.length ≤ 12) : (rowsL ss xs xs.length).flatten.length ≤ 1048576 := by
  rw [List.length_flatten]
  have h := sumL_le ((rowsL ss xs xs.length).map List.length) 16 (by
    intro x hx2
    simp only [List.mem_map, rowsL, List.mem_range] at hx2
    obtain ⟨_, ⟨j, hj, rfl⟩, rfl⟩ := hx2
    have hn := dbN_all (P := fun y => 0 ≤ y ∧ y ≤ 4) ⟨by omega, by omega⟩ ss xs hsm j (by omega)
    unfold dbL
    rw [swO_len]
    have a1 := hn (ab (xs.getD j 0) - 1).toNat
    have a2 := hn ((ab (xs.getD j 0) - 1).toNat + 1)
    have b1 : ((dbN ss xs j).getD (ab (xs.getD j 0) - 1).toNat 0).toNat ≤ 4 := by omega
    have b2 : ((dbN ss xs j).getD ((ab (xs.getD j 0) - 1).toNat + 1) 0).toNat ≤ 4 := by omega
    exact Nat.mul_le_mul b2 b1)
  rw [List.length_map, rows_len] at h
  omega
theorem badC (x : Int) (W : World) : Calls Tryd.prog 113 #[.int .i64 x] W fun e w' => e = .returned (.bool (badB x)) ∧ Below W.heap.size W w' := by
  have HF : Hid (badB x = !decide (0 ≤ x ∧ x ≤ 4)) := hid rfl
  have HK := hid (within64 x 0 4 W)
  generalize badB x = q at *
  generalize decide (0 ≤ x ∧ x ≤ 4) = d at *
  go_enter Tryd.func113, Tryd.ntmps113
  go_wp2_with (go_at_call 55; refine HK.out.mono ?_; rintro e w' ⟨rfl, rfl⟩)
  go_ret
  exact ⟨by rw [HF.out]; rfl, Below.refl _ _⟩

set_option maxRecDepth 100000 in
set_option maxHeartbeats 4000000 in
theorem implDouble (s : Int) (xs ss : List Int) (v u : Value) (B C : Nat) (w : World) (ha : Ints w B v xs) (hB : B ≤ w.heap.size) (hb : Ints w C u ss) (hC : C ≤ w.heap.size) (nu : NilOk u) (hn : xs.length ≤ 1099511627776) (hm : ss.length ≤ 1099511627776) :
    Calls Tryd.prog 77 #[.agg #[.int .i64 s, v], u] w fun e w' => ∃ ao cap, e = .returned (.tuple #[.agg #[.int .i64 (dbSt s xs ss), .slice ao (dbWo s xs ss).length cap], .int .i64 (dbCo s xs ss)]) ∧ sl.Own w' w.heap.size w'.heap.size (.slice ao (dbWo s xs ss).length cap) (dbWo s xs ss) ∧ Below w.heap.size w w' := by
  obtain ⟨ao, cap, hv⟩ := ints_val ha
  obtain ⟨bo, dap, hu⟩ := ints_val hb
  subst hv
  subst hu
  have HX := hid ha
  have HY := hid hb
  have HNu := hid nu
  clear ha hb nu
  have HV := hid (implValidB s xs (.slice ao xs.length cap) B ((w.alloc (.cells #[.int .i64 s, .slice ao xs.length cap] 53)).alloc (.cells #[.int .i64 0, .slice none 0 0] 53)) (ints_al (ints_al HX.out _) _) (by simp; omega) hn)
  obtain ⟨q0, hq0⟩ : ∃ q, q = okB s xs := ⟨_, rfl⟩
  obtain ⟨q1, hq1⟩ : ∃ q, q = ss.any badB := ⟨_, rfl⟩
  obtain ⟨zS, hzS⟩ : ∃ z, z = dbSt s xs ss := ⟨_, rfl⟩
  obtain ⟨zC, hzC⟩ : ∃ z, z = dbCo s xs ss := ⟨_, rfl⟩
  obtain ⟨zW, hzW⟩ : ∃ z, z = dbWo s xs ss := ⟨_, rfl⟩
  rw [← hzS, ← hzC, ← hzW]
  unfold dbSt dbP at hzS
  unfold dbCo dbP at hzC
  unfold dbWo dbP at hzW
  rw [← hq0, ← hq1] at hzS hzC hzW
  rw [← hq0] at HV
  have HS := hid hzS
  have HC := hid hzC
  have HW := hid hzW
  have H0 := hid hq0
  have H1 := hid hq1
  obtain ⟨n, hnn⟩ : ∃ n, n = xs.length := ⟨_, rfl⟩
  obtain ⟨m, hmm⟩ : ∃ m, m = ss.length := ⟨_, rfl⟩
  have HN := hid hnn
  have HM := hid hmm
  rw [← hnn] at HX HV hn ⊢
  rw [← hmm] at HY HNu hm ⊢
  clear hzS hzC hzW hq0 hq1 hnn hmm
  go_enter Tryd.func77, Tryd.ntmps77
  go_wp2_with fail
  refine HV.out.mono ?_
  rintro e w1 ⟨rfl, b1⟩
  have HB1 := hid (box2 b1)
  have d0 := HB1.out.1 0
  have d1 := HB1.out.1 1
  have r0 := (HB1.out.2.1 0).1
  have r1 := (HB1.out.2.1 1).1
  have f0 := (HB1.out.2.1 0).2
  have f1 := (HB1.out.2.1 1).2
  have hz := HB1.out.2.2.2
  simp at d0 d1 r0 r1
  have HBw := hid HB1.out.2.2.1
  clear b1 HB1 HV
  cases q0 with
  | false =>
    obtain rfl : zS = 0 := by rw [HS.out]; simp
    obtain rfl : zC = 1 := by rw [HC.out]; simp
    obtain rfl : zW = [] := by rw [HW.out]; simp
    go_wp2
    refine bodyPost_ret (v := .tuple #[.agg #[.int .i64 0, .slice none 0 0], .int .i64 1]) (by simp [results, Tryd.results77, go_sem, r0, r1]) rfl ⟨none, 0, rfl, Own.nil _ _, ?_⟩
    exact (HBw.out.setCell (p := ⟨w.heap.size + 1, 0, none⟩) (Nat.le_succ _) _).setCell (p := ⟨w.heap.size + 1, 1, none⟩) (Nat.le_succ _) _
  | true =>
    obtain ⟨hs0, hs1, hx1, hx2⟩ := ok_parts H0.out.symm
    by_cases hms : (m : Int) = s
    · have hmd : decide ((m : Int) = s) = true := decide_eq_true hms
      have hmb : ((m : Int) == s) = true := by simp [hms]
      have hPd : decide ((ss.length : Int) = s) = true := by rw [← HM.out]; exact hmd
      have HI1 := hid (HY.out.chg (Chg.ofBelow (lo := 0) HBw.out) (.inr (Nat.zero_le _)))
      have HX1 := hid (HX.out.chg (Chg.ofBelow (lo := 0) HBw.out) (.inr (Nat.zero_le _)))
      have HCf := hid (contFunc0 badB 113 ss _ C w1 HI1.out (by omega) (by rw [← HM.out]; exact hm) (enters_of Tryd.func113 (by kernel_rfl) rfl) badC)
      rw [← H1.out] at HCf
      go_wp2_with fail
      refine HCf.out.mono ?_
      rintro e w2 ⟨rfl, b2⟩
      have HB2 := hid b2
      have hz2 := b2.size
      have e0 := (b2.cell (p := ⟨w.heap.size, 0, none⟩) (by show w.heap.size < _; omega)).trans d0
      have e1 := (b2.cell (p := ⟨w.heap.size, 1, none⟩) (by show w.heap.size < _; omega)).trans d1
      have s0 := (b2.cell (p := ⟨w.heap.size + 1, 0, none⟩) (by show w.heap.size + 1 < _; omega)).trans r0
      have s1 := (b2.cell (p := ⟨w.heap.size + 1, 1, none⟩) (by show w.heap.size + 1 < _; omega)).trans r1
      have g0 := (b2.frozen (p := ⟨w.heap.size + 1, 0, none⟩) (by show w.heap.size + 1 < _; omega)).trans f0
      have g1 := (b2.frozen (p := ⟨w.heap.size + 1, 1, none⟩) (by show w.heap.size + 1 < _; omega)).trans f1
      have HBx := hid (HBw.out.trans (b2.mono (by omega)))
      clear b2 d0 d1 r0 r1 f0 f1 HCf
      cases q1 with
      | true =>
        obtain rfl : zS = 0 := by rw [HS.out, hPd]; simp
        obtain rfl : zC = 2 := by rw [HC.out, hPd]; simp
        obtain rfl : zW = [] := by rw [HW.out, hPd]; simp
        go_wp2
        refine bodyPost_ret (v := .tuple #[.agg #[.int .i64 0, .slice none 0 0], .int .i64 2]) (by simp [results, Tryd.results77, go_sem, s0, s1]) rfl ⟨none, 0, rfl, Own.nil _ _, ?_⟩
        exact (HBx.out.setCell (p := ⟨w.heap.size + 1, 0, none⟩) (Nat.le_succ _) _).setCell (p := ⟨w.heap.size + 1, 1, none⟩) (Nat.le_succ _) _
      | false =>
        have hsm := sm_of H1.out.symm
        have HSm := hid (fun W (hI : Ints W C (.slice bo m dap) ss) => implSum ss 4 _ C W hI (by rw [← HM.out]; omega) (by omega) (fun j hj => by have := hsm j; omega))
        have HI2 := hid (HI1.out.chg (Chg.ofBelow (lo := 0) HB2.out) (.inr (Nat.zero_le _)))
        have HX2 := hid (HX1.out.chg (Chg.ofBelow (lo := 0) HB2.out) (.inr (Nat.zero_le _)))
        have HBl := hid (fun W (b : Below w2.heap.size w2 W) => blockWordsC xs ss (.slice ao n cap) (.slice bo m dap) B C W (HX2.out.chg (Chg.ofBelow (lo := 0) b) (.inr (Nat.zero_le _))) (HI2.out.chg (Chg.ofBelow (lo := 0) b) (.inr (Nat.zero_le _))) (by have := b.size; omega) (by have := b.size; omega) HNu.out (fun j hj => by rw [← HM.out, hms]; exact hx2 j hj) hx1 (by rw [← HM.out]; omega) hsm)
        have eS : joinS (sumL ss) (rowsL ss xs xs.length) = zS := by rw [HS.out, hPd]; simp
        have eC : joinC (sumL ss) (rowsL ss xs xs.length) = zC := by rw [HC.out, hPd]; simp
        have eW : joinW (sumL ss) (rowsL ss xs xs.length) = zW := by rw [HW.out, hPd]; simp
        have eL : (rowsL ss xs xs.length).length = n := by rw [rows_len]; exact HN.out.symm
        have HJo : Hid (∀ (W : World) (g c lo : Nat) (vals : List Value), SR W lo (.slice (some ⟨g, 0, none⟩) n c) vals (rowsL ss xs xs.length) → g < W.heap.size → ∀ X, Below W.heap.size W X → Calls Tryd.prog 114 #[.int .i64 (sumL ss), .slice (some ⟨g, 0, none⟩) n c] X fun e w' => ∃ ao cap, e = .returned (.tuple #[.agg #[.int .i64 zS, .slice ao zW.length cap], .int .i64 zC]) ∧ sl.Own w' X.heap.size w'.heap.size (.slice ao zW.length cap) zW ∧ Below X.heap.size X w') := hid (fun W g c lo vals hsr hg X b => by
          have hw : Wds W W.heap.size g (rowsL ss xs xs.length) := sr_wds (c := c) (lo := lo) (vals := vals) (by rw [eL]; exact hsr)
          have h := implJoined (sumL ss) (rowsL ss xs xs.length) g c W.heap.size X (hw.below b hg (Nat.le_refl _)) b.size (Nat.lt_of_lt_of_le hg b.size) (by rw [rows_len]; omega) (rows_tot ss xs hsm hx1 (by rw [← HM.out]; omega))
          rw [eS, eC, eW, eL] at h
          exact h)
        rw [← HN.out] at HBl HJo
        clear eS eC eW eL HS HC HW hsm HX2 HX1 HI1 HX HY
        generalize sumL ss = sm at *
        go_wp2_with fail
        go_region_held3 (fun w' => w'.cell? ⟨w.heap.size, 1, none⟩ = some (.slice ao n cap)) (go_keep) (first
          | (go_at_call 107
             refine (HSm.out _ ?_).mono ?_
             · (first | exact HI3.out | exact HI2.out)
             rintro e w9 ⟨rfl, hw9⟩
             subst hw9)
          | (go_at_call 115
             refine (HBl.out _ ?_).mono ?_
             · (first | exact Below.refl _ _ | exact (Below.refl _ _).drew | exact bdrewN (Below.refl _ _) _)
             rintro e w3 ⟨g, c, rfl, ⟨vals, hsr⟩, hg, b3⟩
             have hz3 : w2.heap.size ≤ w3.heap.size := b3.size
             have kA : w3.cell? ⟨w.heap.size, 1, none⟩ = some (.slice ao n cap) := (b3.cell (p := ⟨w.heap.size, 1, none⟩) (by show w.heap.size < w2.heap.size; omega)).trans e1
             have t0 := (b3.cell (p := ⟨w.heap.size + 1, 0, none⟩) (by show w.heap.size + 1 < w2.heap.size; omega)).trans s0
             have t1 := (b3.cell (p := ⟨w.heap.size + 1, 1, none⟩) (by show w.heap.size + 1 < w2.heap.size; omega)).trans s1
             have y0 := (b3.frozen (p := ⟨w.heap.size + 1, 0, none⟩) (by show w.heap.size + 1 < w2.heap.size; omega)).trans g0
             have y1 := (b3.frozen (p := ⟨w.heap.size + 1, 1, none⟩) (by show w.heap.size + 1 < w2.heap.size; omega)).trans g1
             have HI3 : Hid (Ints w3 C (.slice bo m dap) ss) := hid (HI2.out.chg (lo := 0) (hi := 0) ⟨b3.os, b3.tape, b3.output, b3.size, fun k hk _ => b3.block k hk⟩ (.inr (Nat.zero_le _)))
             have HJ := hid (HJo.out w3 g c _ vals hsr hg)
             have HB3 : Hid (Below w.heap.size w w3) := hid (HBx.out.drew.trans (b3.mono (by show w.heap.size ≤ w2.heap.size; omega)))
             clear hsr b3 HBl)
          | (go_at_call 114
             refine (HJ.out _ ?_).mono ?_
             · (first | exact Below.refl _ _ | exact (Below.refl _ _).drew | exact bdrewN (Below.refl _ _) _)
             rintro e w4 ⟨ao4, cap4, rfl, o4, b4⟩
             have kC := (b4.cell (p := ⟨w.heap.size, 1, none⟩) (by show w.heap.size < w3.heap.size; omega)).trans kA
             have u0 := (b4.cell (p := ⟨w.heap.size + 1, 0, none⟩) (by show w.heap.size + 1 < w3.heap.size; omega)).trans t0
             have u1 := (b4.cell (p := ⟨w.heap.size + 1, 1, none⟩) (by show w.heap.size + 1 < w3.heap.size; omega)).trans t1
             have x0 := (b4.frozen (p := ⟨w.heap.size + 1, 0, none⟩) (by show w.heap.size + 1 < w3.heap.size; omega)).trans y0
             have x1 := (b4.frozen (p := ⟨w.heap.size + 1, 1, none⟩) (by show w.heap.size + 1 < w3.heap.size; omega)).trans y1
             have HO4 := hid (o4.lo (lo' := w.heap.size + 2) (by show w.heap.size + 2 ≤ w3.heap.size; omega))
             have HB4 := hid (HB3.out.trans (b4.mono (by show w.heap.size ≤ w3.heap.size; omega)))
             clear o4 b4 HJ t0 t1 y0 y1 kA))
        all_goals (try go_wp2)
        all_goals
          refine bodyPost_ret (v := .tuple #[.agg #[.int .i64 zS, .slice ao4 zW.length cap4], .int .i64 zC]) (by simp [results, Tryd.results77, go_sem, u0, u1]) rfl ⟨ao4, cap4, rfl, ?_, ?_⟩
          · have h := own_other (own_other HO4.out (w.heap.size + 1) 0 (.int .i64 zS) (by omega)) (w.heap.size + 1) 1 (.slice ao4 zW.length cap4) (by omega)
            have h2 := h.lo (lo' := w.heap.size) (by omega)
            simpa using h2
          · exact (HB4.out.setCell (p := ⟨w.heap.size + 1, 0, none⟩) (Nat.le_succ _) _).setCell (p := ⟨w.heap.size + 1, 1, none⟩) (Nat.le_succ _) _
    · have hmd : decide ((m : Int) = s) = false := decide_eq_false hms
      have hmb : ((m : Int) == s) = false := by simp [hms]
      have hPd : decide ((ss.length : Int) = s) = false := by rw [← HM.out]; exact hmd
      obtain rfl : zS = 0 := by rw [HS.out, hPd]; simp
      obtain rfl : zC = 1 := by rw [HC.out, hPd]; simp
      obtain rfl : zW = [] := by rw [HW.out, hPd]; simp
      go_wp2
      refine bodyPost_ret (v := .tuple #[.agg #[.int .i64 0, .slice none 0 0], .int .i64 1]) (by simp [results, Tryd.results77, go_sem, r0, r1]) rfl ⟨none, 0, rfl, Own.nil _ _, ?_⟩
      exact (HBw.out.setCell (p := ⟨w.heap.size + 1, 0, none⟩) (Nat.le_succ _) _).setCell (p := ⟨w.heap.size + 1, 1, none⟩) (Nat.le_succ _) _
end Go.Proofs.YtnmnikpgjglonabDoor.db

/- DoubleBraid: the letters of the blocks, by the model. -/
namespace Go.Proofs.YtnmnikpgjglonabDoor.db
open Go.RowKit Go.Proofs.YtnmnikpgjglonabDoor.sl Go.Proofs.YtnmnikpgjglonabDoor.pm Go.Proofs.YtnmnikpgjglonabDoor.fn Go.Proofs.YtnmnikpgjglonabDoor.br Go.Proofs.YtnmnikpgjglonabDoor.bw Go.Proofs.YtnmnikpgjglonabDoor.wk
set_option linter.unusedVariables false

theorem dbL_len (ss xs : List Int) (hsm : Sm ss) (j : Nat) (hj : j ≤ xs.length) : (dbL ss xs j).length ≤ 16 := by
  have hn := dbN_all (P := fun y => 0 ≤ y ∧ y ≤ 4) ⟨by omega, by omega⟩ ss xs hsm j hj
  unfold dbL
  rw [swO_len]
  have a1 := hn (ab (xs.getD j 0) - 1).toNat
  have a2 := hn ((ab (xs.getD j 0) - 1).toNat + 1)
  have b1 : ((dbN ss xs j).getD (ab (xs.getD j 0) - 1).toNat 0).toNat ≤ 4 := by omega
  have b2 : ((dbN ss xs j).getD ((ab (xs.getD j 0) - 1).toNat + 1) 0).toNat ≤ 4 := by omega
  exact Nat.mul_le_mul b2 b1
theorem dbW_len (ss xs : List Int) (hsm : Sm ss) (k : Nat) (hk : k ≤ xs.length) : (dbW ss xs k).length ≤ 16 * k := by
  induction k with
  | zero => simp [dbW]
  | succ k ih =>
    have h1 := ih (by omega)
    have h2 := dbL_len ss xs hsm k (by omega)
    rw [dbW_succ, List.length_append]
    omega
theorem sum_take (xs : List Int) (n : Nat) (hn : n < xs.length) : sumL (xs.take (n + 1)) = sumL (xs.take n) + xs.getD n 0 := by
  rw [List.take_succ_eq_append_getElem hn]
  unfold sumL
  rw [List.foldl_append]
  simp [List.getD, List.getElem?_eq_getElem hn]

set_option maxRecDepth 100000 in
set_option maxHeartbeats 4000000 in
theorem specWords (word sizes : List Int) (vl vs : Value) (Bl Bs : Nat) (w : World) (hl : Ints w Bl vl word) (hs : Ints w Bs vs sizes) (hBl : Bl ≤ w.heap.size) (hBs : Bs ≤ w.heap.size) (hnil : NilOk vs) (hok : ∀ j, j < word.length → word.getD j 0 ≠ 0 ∧ 1 - (sizes.length : Int) ≤ word.getD j 0 ∧ word.getD j 0 ≤ (sizes.length : Int) - 1) (hn : word.length ≤ 40) (hm : sizes.length ≤ 12) (hsm : Sm sizes) :
    Calls Tryd.prog 103 #[vl, vs] w fun e w' => ∃ v', e = .returned v' ∧ sl.Own w' w.heap.size w'.heap.size v' (dbW sizes word word.length) ∧ Below w.heap.size w w' := by
  have HCl := hid (br.ownL sizes vs Bs w hs hnil (by omega))
  obtain ⟨aol, capl, hvl⟩ := ints_slice hl
  have HL := hid hl
  have HOk := hid hok
  have HSm := hid hsm
  have HWs := hid (fun k => dbW_succ sizes word k)
  have HWl := hid (fun k hk => dbW_len sizes word hsm k hk)
  have HLl := hid (fun k hk => dbL_len sizes word hsm k hk)
  have HLn := hid (dbN_len sizes word)
  have HNs := hid (dbN_succ sizes word)
  have HNa := hid (fun k hk => (dbN_all (P := fun y => 0 ≤ y ∧ y ≤ 4) ⟨by omega, by omega⟩ sizes word hsm k hk : Sm (dbN sizes word k)))
  obtain ⟨n, hnn⟩ : ∃ n, n = word.length := ⟨_, rfl⟩
  have HN := hid hnn
  rw [← hnn] at hvl hn HLn HNs HNa HOk HWl HLl ⊢
  subst hvl
  clear hl hs hok hsm hnn
  go_enter Tryd.func103, Tryd.ntmps103
  go_wp2_with fail
  refine HCl.out.mono ?_
  rintro e W1 ⟨v1, rfl, o1, b1⟩
  obtain ⟨ao1, cap1, hv1⟩ := br.own_val o1
  have HO1 := hid o1
  have HB1 := hid b1
  have hz1' := b1.size
  obtain ⟨m, hmm⟩ : ∃ m, m = sizes.length := ⟨_, rfl⟩
  have HM := hid hmm
  rw [← hmm] at hv1 hm HLn HOk
  subst hv1
  clear o1 b1 hmm HCl
  have bX : Below W1.heap.size W1 (W1.alloc (.cells #[] 2)) := (Below.refl _ _).alloc (Nat.le_refl _) _
  have HXe := hid (Own.built W1 #[] rfl)
  have HXo := hid (HO1.out.chg (Chg.ofBelow (lo := 0) bX) (.inr (.inr (Nat.zero_le _))))
  have HXb := hid (HB1.out.trans (bX.mono hz1'))
  clear bX
  go_wp2
  go_loopw [6, 7] (fun v i wr => ∃ k : Nat, k ≤ n ∧ i = .int .i64 (k : Int) ∧ sl.Own wr W1.heap.size wr.heap.size v (dbW sizes word k) ∧ sl.Own wr w.heap.size W1.heap.size (.slice ao1 m cap1) (dbN sizes word k) ∧ Below w.heap.size w wr) (fun _ i _ => n - (intOf i).toNat)
  case atStart => exact ⟨0, Nat.zero_le _, rfl, by rw [dbW_zero]; exact HXe.out, by rw [dbN_zero]; exact HXo.out, HXb.out⟩
  case round =>
    obtain ⟨k, hk, rfl, hov, hob, hbr⟩ := hrel
    have HOv := hid hov
    have HBr := hid hbr
    have hzr := hbr.size
    have hzo := hob.2.2
    have HOb := hid hob
    clear hov hob hbr HXe HXo HXb
    by_cases hlt : k < n
    · rcases HL.out with ⟨hnil, _⟩ | ⟨hp, b, off, cap, hv, hb, hc⟩
      · exfalso
        have := HN.out
        rw [hnil] at this
        simp at this
        omega
      · simp only [Value.slice.injEq] at hv
        obtain ⟨rfl, hnw, rfl⟩ := hv
        have hcx := (HBr.out.cell (p := ⟨b, off + k, none⟩) (by show b < _; omega)).trans (hc k (by rw [← HN.out]; exact hlt))
        have hx := HOk.out k hlt
        obtain ⟨q, hq1, hq2, hq3⟩ := ab_place hx
        have hlen := HLn.out k (by omega)
        have HDb : Hid (dbL sizes word k = swO (sg (word.getD k 0)) (sumL ((dbN sizes word k).take q)) ((dbN sizes word k).getD q 0).toNat ((dbN sizes word k).getD (q + 1) 0).toNat) := hid (by unfold dbL; rw [hq3])
        have HDn : Hid (dbN sizes word (k + 1) = swapAt (dbN sizes word k) q) := hid (by rw [HNs.out k hlt, hq3])
        have HDl := hid (HLl.out k (by omega))
        have HDw := hid (HWl.out k (by omega))
        have HDa := hid (HNa.out k (by omega))
        generalize word.getD k 0 = x at *
        obtain ⟨now, hnow⟩ : ∃ l, l = dbN sizes word k := ⟨_, rfl⟩
        rw [← hnow] at HOb hlen HDb HDn HDa
        obtain ⟨g, cap', hv, hg1, hg2⟩ := own_slice HOb.out (by omega)
        simp only [Value.slice.injEq] at hv
        obtain ⟨rfl, hmn, rfl⟩ := hv
        have HAbs := hid (fun W => abs_at x q (by omega) hq1 W)
        have HSum := hid (fun j (hj : j < now.length) => sum_take now j hj)
        have HSb := hid (fun j => sm_sum now HDa.out j (by omega))
        have h1 := HDa.out q
        have h2 := HDa.out (q + 1)
        have HAt := hid (fun (W : World) (o : sl.Own W w.heap.size W1.heap.size (.slice (some ⟨g, 0, none⟩) m cap1) now) j (hj : j < now.length) => o.at' j hj)
        obtain ⟨ca, hca⟩ : ∃ a : Nat, now.getD q 0 = (a : Int) := Int.eq_ofNat_of_zero_le h1.1
        obtain ⟨cb, hcb⟩ : ∃ a : Nat, now.getD (q + 1) 0 = (a : Int) := Int.eq_ofNat_of_zero_le h2.1
        have HCa := hid hca
        have HCb := hid hcb
        rw [hca] at h1 HDb
        rw [hcb] at h2 HDb
        rw [Int.toNat_natCast, Int.toNat_natCast] at HDb
        have HSw := hid (fun W => specSwap (sg x) (sumL (now.take q)) ca cb W (sg_one x) (by have := HSb.out q; omega) (by omega) (by omega))
        rw [← HDb.out] at HSw
        have hx' : x ≠ 0 ∧ -12 ≤ x ∧ x ≤ 12 := ⟨hx.1, by omega, by omega⟩
        have HSs := hid (show x < 0 → sg x = -1 from fun h => by rw [sg, if_pos h])
        have HSp := hid (show ¬ x < 0 → sg x = 1 from fun h => by rw [sg, if_neg h])
        have HLen := hid hlen
        have HMn := hid hmn
        clear hc hp hb hx hq3 hlen hnw hnow hca hcb hmn HDb
        generalize sg x = sx at *
        go_wp2_with (go_at_call 143; refine (HAbs.out _).mono ?_; rintro e w9 ⟨rfl, rfl⟩)
        obtain ⟨W5, rfl⟩ : ∃ W, W = wr := ⟨_, rfl⟩
        have hnl : now.length = m := HLen.out
        go_loopw [9, 10] (fun p i wv => ∃ j : Nat, j ≤ q ∧ p = .int .i64 (sumL (now.take j)) ∧ i = .int .i64 (j : Int) ∧ wv = W5) (fun _ i _ => q - (intOf i).toNat)
        case atStart => exact ⟨0, Nat.zero_le _, rfl, rfl, rfl⟩
        case round =>
          obtain ⟨j, hj, rfl, rfl, hwv⟩ := hrel
          subst hwv
          by_cases hjq : j < q
          · have hcj := (HAt.out _ HOb.out j (by omega)).1
            have e := HSum.out j (by omega)
            have hb1 := HSb.out j
            have hb2 := HDa.out j
            have HE := hid e
            clear e
            generalize now.getD j 0 = y at *
            generalize sumL (now.take j) = sj at *
            go_wp2
            go_roundw
            case rel => exact ⟨j + 1, by omega, by rw [HE.out], by go_num, trivial⟩
            case measure => simp [intOf]; omega
          · obtain rfl : j = q := by omega
            have n0 := (HAt.out _ HOb.out j (by omega)).1
            have n1 := (HAt.out _ HOb.out (j + 1) (by omega)).1
            rw [HCa.out] at n0
            rw [HCb.out] at n1
            have hw1 : IntKind.i64.wrap ((j : Int) + 1 - 1) = (j : Int) := by rw [IntKind.wrap_i64]; omega
            have hjm : (j : Int) < (m : Int) := by omega
            have hjm1 : (j : Int) + 1 < (m : Int) := by omega
            have hjp : (0 : Int) ≤ (j : Int) := by omega
            have hjp1 : (0 : Int) ≤ (j : Int) + 1 := by omega
            have hjt : ((j : Int) + 1).toNat = j + 1 := by omega
            have hw2 : IntKind.i64.wrap (j : Int) = (j : Int) := IntWalk.i64_in _ (by omega)
            have hw3 : IntKind.i64.wrap ((j : Int) + 1) = (j : Int) + 1 := IntWalk.i64_in _ (by omega)
            generalize sumL (now.take j) = sj at *
            by_cases hx0 : x < 0
            · obtain rfl : sx = -1 := HSs.out hx0
              have hdx : decide (x < 0) = true := decide_eq_true hx0
              go_wp2_with fail
              go_region_law (first
                | (refine step_appendAll rfl _ _ rfl W1.heap.size wr.heap.size _ (dbW sizes word k) HO3.out rfl _ (dbL sizes word k) w3.heap.size HY3.out.ints (nilok_own HY3.out) rfl (by omega) (by have := HDl.out; have := HDw.out; omega) ?_; intro v4 w4 o4 c4; have HO4 := hid o4; have HN4 := hid (HN3.out.chg c4 (.inl (Nat.le_refl _))); have a0 := (HAt.out _ HN4.out j (by omega)).1; have a1 := (HAt.out _ HN4.out (j + 1) (by omega)).1; have a2 := (HAt.out _ HN4.out j (by omega)).2; have a3 := (HAt.out _ HN4.out (j + 1) (by omega)).2; rw [HCa.out] at a0; rw [HCb.out] at a1; have HB4 := hid (HB3.out.trans (c4.below (B := w.heap.size) hz1' (by omega))); have hz4 := c4.size; clear o4 c4)
                | (go_wp2_with (go_at_call 144; refine (HSw.out _).mono ?_; rintro e w3 ⟨v3, rfl, o3, b3⟩; have HY3 : Hid (sl.Own w3 wr.heap.size w3.heap.size v3 (dbL sizes word k)) := hid o3; have hz3 : wr.heap.size ≤ w3.heap.size := b3.size; have hc3 : Chg 0 0 wr w3 := ⟨b3.os, b3.tape, b3.output, b3.size, fun z hz _ => b3.block z hz⟩; have HO3 := hid (HOv.out.chg hc3 (.inr (.inr (Nat.le_refl _)))); have HN3 := hid (HOb.out.chg hc3 (.inr (.inr (Nat.le_refl _)))); have HB3 : Hid (Below w.heap.size w w3) := hid (HBr.out.drew.trans (b3.mono (by show w.heap.size ≤ wr.heap.size; omega))); clear o3 b3 hc3)))
              all_goals (try go_wp2)
              all_goals go_roundw
              all_goals first
                | (simp [intOf]; omega; done)
                | (have hsw := (swapWorld HN4.out j).1
                   rw [HCb.out, HCa.out] at hsw
                   refine ⟨k + 1, ?_, ?_, ?_, ?_, ?_⟩
                   · omega
                   · go_num
                   · have ho := own_other (own_other HO4.out g j (.int .i64 (cb : Int)) (.inl hg2)) g (j + 1) (.int .i64 (ca : Int)) (.inl hg2)
                     rw [HWs.out k]
                     simpa using ho
                   · rw [HDn.out]; exact hsw
                   · exact (HB4.out.setCell (p := ⟨g, j, none⟩) hg1 _).setCell (p := ⟨g, j + 1, none⟩) hg1 _)
            · obtain rfl : sx = 1 := HSp.out (by omega)
              have hdx : decide (x < 0) = false := decide_eq_false hx0
              go_wp2_with fail
              go_region_law (first
                | (refine step_appendAll rfl _ _ rfl W1.heap.size wr.heap.size _ (dbW sizes word k) HO3.out rfl _ (dbL sizes word k) w3.heap.size HY3.out.ints (nilok_own HY3.out) rfl (by omega) (by have := HDl.out; have := HDw.out; omega) ?_; intro v4 w4 o4 c4; have HO4 := hid o4; have HN4 := hid (HN3.out.chg c4 (.inl (Nat.le_refl _))); have a0 := (HAt.out _ HN4.out j (by omega)).1; have a1 := (HAt.out _ HN4.out (j + 1) (by omega)).1; have a2 := (HAt.out _ HN4.out j (by omega)).2; have a3 := (HAt.out _ HN4.out (j + 1) (by omega)).2; rw [HCa.out] at a0; rw [HCb.out] at a1; have HB4 := hid (HB3.out.trans (c4.below (B := w.heap.size) hz1' (by omega))); have hz4 := c4.size; clear o4 c4)
                | (go_wp2_with (go_at_call 144; refine (HSw.out _).mono ?_; rintro e w3 ⟨v3, rfl, o3, b3⟩; have HY3 : Hid (sl.Own w3 wr.heap.size w3.heap.size v3 (dbL sizes word k)) := hid o3; have hz3 : wr.heap.size ≤ w3.heap.size := b3.size; have hc3 : Chg 0 0 wr w3 := ⟨b3.os, b3.tape, b3.output, b3.size, fun z hz _ => b3.block z hz⟩; have HO3 := hid (HOv.out.chg hc3 (.inr (.inr (Nat.le_refl _)))); have HN3 := hid (HOb.out.chg hc3 (.inr (.inr (Nat.le_refl _)))); have HB3 : Hid (Below w.heap.size w w3) := hid (HBr.out.drew.trans (b3.mono (by show w.heap.size ≤ wr.heap.size; omega))); clear o3 b3 hc3)))
              all_goals (try go_wp2)
              all_goals go_roundw
              all_goals first
                | (simp [intOf]; omega; done)
                | (have hsw := (swapWorld HN4.out j).1
                   rw [HCb.out, HCa.out] at hsw
                   refine ⟨k + 1, ?_, ?_, ?_, ?_, ?_⟩
                   · omega
                   · go_num
                   · have ho := own_other (own_other HO4.out g j (.int .i64 (cb : Int)) (.inl hg2)) g (j + 1) (.int .i64 (ca : Int)) (.inl hg2)
                     rw [HWs.out k]
                     simpa using ho
                   · rw [HDn.out]; exact hsw
                   · exact (HB4.out.setCell (p := ⟨g, j, none⟩) hg1 _).setCell (p := ⟨g, j + 1, none⟩) hg1 _)
    · obtain rfl : k = n := by omega
      go_wp2
      go_ret
      exact ⟨_, rfl, HOv.out.lo (by omega), HBr.out⟩
end Go.Proofs.YtnmnikpgjglonabDoor.db

/- DoubleBraid: its letters are letters of the wide braid. -/
namespace Go.Proofs.YtnmnikpgjglonabDoor.db
open Go.RowKit Go.Proofs.YtnmnikpgjglonabDoor.sl Go.Proofs.YtnmnikpgjglonabDoor.pm Go.Proofs.YtnmnikpgjglonabDoor.fn Go.Proofs.YtnmnikpgjglonabDoor.br Go.Proofs.YtnmnikpgjglonabDoor.bw Go.Proofs.YtnmnikpgjglonabDoor.wk
set_option linter.unusedVariables false

theorem sumL_cons (x : Int) (xs : List Int) : sumL (x :: xs) = x + sumL xs := by
  have H : ∀ (l : List Int) (a : Int), l.foldl (· + ·) a = a + l.foldl (· + ·) 0 := by
    intro l
    induction l with
    | nil => intro a; simp
    | cons y l ih => intro a; rw [List.foldl_cons, List.foldl_cons, ih (a + y), ih (0 + y)]; omega
  unfold sumL
  rw [List.foldl_cons, H xs (0 + x)]
  omega
theorem sumL_swap : ∀ (p : List Int) (k : Nat), k + 1 < p.length → sumL (swapAt p k) = sumL p := by
  intro p
  induction p with
  | nil => intro k h; simp at h
  | cons x p ih =>
    intro k h
    cases k with
    | zero =>
      cases p with
      | nil => simp at h
      | cons y p => simp only [swapAt, List.getD, List.getElem?_cons_zero, List.getElem?_cons_succ, Option.getD_some, List.set_cons_zero, List.set_cons_succ, Nat.zero_add]; rw [sumL_cons, sumL_cons, sumL_cons, sumL_cons]; omega
    | succ k =>
      have e : swapAt (x :: p) (k + 1) = x :: swapAt p k := by simp [swapAt, List.getD]
      rw [e, sumL_cons, sumL_cons, ih k (by simpa using h)]
theorem sumL_part (p : List Int) (hs : Sm p) : ∀ k, k ≤ p.length → sumL (p.take k) ≤ sumL p := by
  intro k hk
  have H : ∀ d, k + d ≤ p.length → sumL (p.take k) ≤ sumL (p.take (k + d)) := by
    intro d
    induction d with
    | zero => intro _; exact Int.le_refl _
    | succ d ih =>
      intro h
      have h1 := ih (by omega)
      have h2 := sum_take p (k + d) (by omega)
      have h3 := hs (k + d)
      rw [show k + (d + 1) = k + d + 1 by omega, h2]
      omega
  have := H (p.length - k) (by omega)
  rw [show k + (p.length - k) = p.length by omega, List.take_length] at this
  exact this
theorem dbN_sum (ss xs : List Int) (hok : ∀ j, j < xs.length → xs.getD j 0 ≠ 0 ∧ 1 - (ss.length : Int) ≤ xs.getD j 0 ∧ xs.getD j 0 ≤ (ss.length : Int) - 1) : ∀ k, k ≤ xs.length → sumL (dbN ss xs k) = sumL ss := by
  intro k
  induction k with
  | zero => intro _; rw [dbN_zero]
  | succ k ih =>
    intro h
    obtain ⟨q, h1, h2, h3⟩ := ab_place (hok k (by omega))
    rw [dbN_succ ss xs k (by omega), h3, sumL_swap _ _ (by rw [dbN_len ss xs k (by omega)]; exact h2), ih (by omega)]
theorem swO_mem {sg pl y : Int} {a b : Nat} (h : y ∈ swO sg pl a b) : ∃ t j : Nat, t < b ∧ j < a ∧ y = sg * (pl + (t : Int) + ((a : Int) - 1 - (j : Int)) + 1) := by
  simp only [swO, swI, List.mem_flatten, List.mem_map, List.mem_range] at h
  obtain ⟨l, ⟨t, ht, rfl⟩, hy⟩ := h
  simp only [List.mem_map, List.mem_range] at hy
  obtain ⟨j, hj, rfl⟩ := hy
  exact ⟨t, j, ht, hj, rfl⟩
theorem dbW_let (ss xs : List Int) (hsm : Sm ss) (hl : ss.length ≤ 12) (hok : ∀ j, j < xs.length → xs.getD j 0 ≠ 0 ∧ 1 - (ss.length : Int) ≤ xs.getD j 0 ∧ xs.getD j 0 ≤ (ss.length : Int) - 1) (y : Int) (hy : y ∈ dbW ss xs xs.length) : y ≠ 0 ∧ 1 - sumL ss ≤ y ∧ y ≤ sumL ss - 1 := by
  simp only [dbW, List.mem_flatten, List.mem_map, List.mem_range] at hy
  obtain ⟨l, ⟨k, hk, rfl⟩, hy⟩ := hy
  obtain ⟨q, h1, h2, h3⟩ := ab_place (hok k hk)
  have hn : Sm (dbN ss xs k) := dbN_all (P := fun y => 0 ≤ y ∧ y ≤ 4) ⟨by omega, by omega⟩ ss xs hsm k (by omega)
  have hs := dbN_sum ss xs hok k (by omega)
  have hlen := dbN_len ss xs k (by omega)
  unfold dbL at hy
  rw [h3] at hy
  obtain ⟨t, j, ht, hj, rfl⟩ := swO_mem hy
  generalize dbN ss xs k = now at *
  have a1 := hn q
  have a2 := hn (q + 1)
  have b1 := sum_take now q (by omega)
  have b2 := sum_take now (q + 1) (by omega)
  have b3 := sumL_part now hn (q + 1 + 1) (by omega)
  have b4 := (sm_sum now hn q (by omega)).1
  rw [b2, b1, hs] at b3
  rcases sg_one (xs.getD k 0) with h | h
  · rw [h]; omega
  · rw [h]; omega
end Go.Proofs.YtnmnikpgjglonabDoor.db

/- DoubleBraid of the model. -/
namespace Go.Proofs.YtnmnikpgjglonabDoor.db
open Go.RowKit Go.Proofs.YtnmnikpgjglonabDoor.sl Go.Proofs.YtnmnikpgjglonabDoor.pm Go.Proofs.YtnmnikpgjglonabDoor.fn Go.Proofs.YtnmnikpgjglonabDoor.br Go.Proofs.YtnmnikpgjglonabDoor.bw Go.Proofs.YtnmnikpgjglonabDoor.wk
set_option linter.unusedVariables false

theorem ok_join (ss xs : List Int) (hsm : Sm ss) (hl : ss.length ≤ 12) (hok : ∀ j, j < xs.length → xs.getD j 0 ≠ 0 ∧ 1 - (ss.length : Int) ≤ xs.getD j 0 ∧ xs.getD j 0 ≤ (ss.length : Int) - 1) : okB (sumL ss) (dbW ss xs xs.length) = joinOk (sumL ss) (rowsL ss xs xs.length) := by
  have h0 := (sm_sum ss hsm ss.length (by omega)).1
  rw [List.take_length] at h0
  have hall : (dbW ss xs xs.length).all (letB (sumL ss)) = true := by
    rw [List.all_eq_true]
    intro y hy
    simpa [letB] using dbW_let ss xs hsm hl hok y hy
  unfold okB joinOk
  rw [hall, rows_flat, Bool.and_true]
  congr 1
  simp [h0]
theorem dbWo_len (s : Int) (xs ss : List Int) : (dbWo s xs ss).length ≤ 20000 := by
  unfold dbWo joinW
  split
  · split
    · simp
    · split
      · rename_i h
        simp only [joinOk, Bool.and_eq_true, decide_eq_true_eq] at h
        omega
      · simp
  · simp

set_option maxRecDepth 100000 in
set_option maxHeartbeats 4000000 in
theorem specDouble (s : Int) (xs ss : List Int) (v u : Value) (B C : Nat) (w : World) (ha : Ints w B v xs) (hB : B ≤ w.heap.size) (hb : Ints w C u ss) (hC : C ≤ w.heap.size) (nu : NilOk u) (hn : xs.length ≤ 1099511627776) (hm : ss.length ≤ 1099511627776) :
    Calls Tryd.prog 71 #[.agg #[.int .i64 s, v], u] w fun e w' => ∃ ao cap, e = .returned (.tuple #[.agg #[.int .i64 (dbSt s xs ss), .slice ao (dbWo s xs ss).length cap], .int .i64 (dbCo s xs ss)]) ∧ sl.Own w' w.heap.size w'.heap.size (.slice ao (dbWo s xs ss).length cap) (dbWo s xs ss) ∧ Below w.heap.size w w' := by
  obtain ⟨ao, cap, hv⟩ := ints_val ha
  obtain ⟨bo, dap, hu⟩ := ints_val hb
  subst hv
  subst hu
  have HX := hid ha
  have HY := hid hb
  have HNu := hid nu
  clear ha hb nu
  have HB0 := hid (box2 (Below.refl _ ((w.alloc (.cells #[.int .i64 s, .slice ao xs.length cap] 53)).alloc (.cells #[.int .i64 0, .slice none 0 0] 53))))
  have HV := hid (specOkP s xs (.slice ao xs.length cap) B w.heap.size ((w.alloc (.cells #[.int .i64 s, .slice ao xs.length cap] 53)).alloc (.cells #[.int .i64 0, .slice none 0 0] 53)) (ints_al (ints_al HX.out _) _) hn (by rw [HB0.out.1 0]; rfl) (by rw [HB0.out.1 1]; rfl))
  obtain ⟨q0, hq0⟩ : ∃ q, q = okB s xs := ⟨_, rfl⟩
  obtain ⟨q1, hq1⟩ : ∃ q, q = ss.any badB := ⟨_, rfl⟩
  obtain ⟨zS, hzS⟩ : ∃ z, z = dbSt s xs ss := ⟨_, rfl⟩
  obtain ⟨zC, hzC⟩ : ∃ z, z = dbCo s xs ss := ⟨_, rfl⟩
  obtain ⟨zW, hzW⟩ : ∃ z, z = dbWo s xs ss := ⟨_, rfl⟩
  rw [← hzS, ← hzC, ← hzW]
  unfold dbSt dbP at hzS
  unfold dbCo dbP at hzC
  unfold dbWo dbP at hzW
  rw [← hq0, ← hq1] at hzS hzC hzW
  rw [← hq0] at HV
  have HS := hid hzS
  have HC := hid hzC
  have HW := hid hzW
  have H0 := hid hq0
  have H1 := hid hq1
  obtain ⟨n, hnn⟩ : ∃ n, n = xs.length := ⟨_, rfl⟩
  obtain ⟨m, hmm⟩ : ∃ m, m = ss.length := ⟨_, rfl⟩
  have HN := hid hnn
  have HM := hid hmm
  rw [← hnn] at HX HV hn HB0 ⊢
  rw [← hmm] at HY HNu hm ⊢
  clear hzS hzC hzW hq0 hq1 hnn hmm
  go_enter Tryd.func71, Tryd.ntmps71
  go_wp2_with fail
  refine HV.out.mono ?_
  rintro e w1 ⟨rfl, q, rfl⟩
  have HB1 := hid (box2 (bdrewN (Below.refl _ ((w.alloc (.cells #[.int .i64 s, .slice ao n cap] 53)).alloc (.cells #[.int .i64 0, .slice none 0 0] 53))) q))
  clear HB0 HV
  generalize ((w.alloc (.cells #[.int .i64 s, .slice ao n cap] 53)).alloc (.cells #[.int .i64 0, .slice none 0 0] 53)).drewN q = w1 at *
  have d0 := HB1.out.1 0
  have d1 := HB1.out.1 1
  have r0 := (HB1.out.2.1 0).1
  have r1 := (HB1.out.2.1 1).1
  have f0 := (HB1.out.2.1 0).2
  have f1 := (HB1.out.2.1 1).2
  have hz := HB1.out.2.2.2
  simp at d0 d1 r0 r1
  have HBw := hid HB1.out.2.2.1
  clear HB1
  cases q0 with
  | false =>
    obtain rfl : zS = 0 := by rw [HS.out]; simp
    obtain rfl : zC = 1 := by rw [HC.out]; simp
    obtain rfl : zW = [] := by rw [HW.out]; simp
    go_wp2
    refine bodyPost_ret (v := .tuple #[.agg #[.int .i64 0, .slice none 0 0], .int .i64 1]) (by simp [results, Tryd.results71, go_sem, r0, r1]) rfl ⟨none, 0, rfl, Own.nil _ _, ?_⟩
    exact (HBw.out.setCell (p := ⟨w.heap.size + 1, 0, none⟩) (Nat.le_succ _) _).setCell (p := ⟨w.heap.size + 1, 1, none⟩) (Nat.le_succ _) _
  | true =>
    obtain ⟨hs0, hs1, hx1, hx2⟩ := ok_parts H0.out.symm
    by_cases hms : (m : Int) = s
    · have hmd : decide ((m : Int) = s) = true := decide_eq_true hms
      have hmb : ((m : Int) == s) = true := by simp [hms]
      have hPd : decide ((ss.length : Int) = s) = true := by rw [← HM.out]; exact hmd
      have HI1 := hid (HY.out.chg (Chg.ofBelow (lo := 0) HBw.out) (.inr (Nat.zero_le _)))
      have HX1 := hid (HX.out.chg (Chg.ofBelow (lo := 0) HBw.out) (.inr (Nat.zero_le _)))
      have HSt := hid (fun k (hk : k < ss.length) => sum_take ss k hk)
      have HIn := hid (fun (y : Int) W => pm.specIn y 0 4 W)
      have HX2 := hid hx2
      clear hx2
      go_wp2
      go_loopw [6, 7] (fun nv i wv => ∃ k : Nat, k ≤ m ∧ nv = .int .i64 (sumL (ss.take k)) ∧ i = .int .i64 (k : Int) ∧ wv = w1 ∧ (0 ≤ sumL (ss.take k) ∧ sumL (ss.take k) ≤ 4 * (k : Int)) ∧ Hid (∀ j, j < k → badB (ss.getD j 0) = false)) (fun _ i _ => m - (intOf i).toNat)
      case atStart => exact ⟨0, Nat.zero_le _, rfl, rfl, rfl, by simp [sumL], hid (fun j hj => by omega)⟩
      case round =>
        obtain ⟨k, hk, rfl, rfl, hwv, hsum, HGd⟩ := hrel
        subst hwv
        by_cases hlt : k < m
        · rcases HI1.out with ⟨hnil, _⟩ | ⟨hp, b, off, cap2, hv, hb, hc⟩
          · exfalso
            have := HM.out
            rw [hnil] at this
            simp at this
            omega
          · simp only [Value.slice.injEq] at hv
            obtain ⟨rfl, hnw, rfl⟩ := hv
            have hcx := hc k (by rw [← HM.out]; exact hlt)
            have HE := hid (HSt.out k (by rw [← HM.out]; exact hlt))
            have HBd : Hid (badB (ss.getD k 0) = !decide (0 ≤ ss.getD k 0 ∧ ss.getD k 0 ≤ 4)) := hid rfl
            have HAny : Hid (badB (ss.getD k 0) = true → ss.any badB = true) := hid (fun h => by
              rw [List.any_eq_true]
              exact ⟨ss.getD k 0, by simp [List.getD, List.getElem?_eq_getElem (show k < ss.length by rw [← HM.out]; exact hlt)], h⟩)
            have HGd2 : Hid (badB (ss.getD k 0) = false → ∀ j, j < k + 1 → badB (ss.getD j 0) = false) := hid (fun h j hj => by
              by_cases e : j = k
              · rw [e]; exact h
              · exact HGd.out j (by omega))
            clear hc hp hb hnw
            generalize ss.getD k 0 = y at *
            generalize sumL (ss.take k) = sk at *
            by_cases hy : 0 ≤ y ∧ y ≤ 4
            · have hyd : decide (0 ≤ y ∧ y ≤ 4) = true := decide_eq_true hy
              have HIy := hid (HIn.out y)
              rw [hyd] at HIy HBd
              have hwy : IntKind.i64.wrap (sk + y) = sk + y := IntWalk.i64_in _ (by omega)
              go_wp2_with (go_at_call 50; refine (HIy.out _).mono ?_; rintro e w9 ⟨rfl, rfl⟩)
              go_roundw
              case rel => exact ⟨k + 1, by omega, by rw [HE.out], by go_num, trivial, by rw [HE.out]; omega, hid (HGd2.out HBd.out)⟩
              case measure => simp [intOf]; omega
            · have hyd : decide (0 ≤ y ∧ y ≤ 4) = false := decide_eq_false hy
              have HIy := hid (HIn.out y)
              rw [hyd] at HIy HBd
              have hq1 : q1 = true := by rw [H1.out]; exact HAny.out HBd.out
              subst hq1
              obtain rfl : zS = 0 := by rw [HS.out, hPd]; simp
              obtain rfl : zC = 2 := by rw [HC.out, hPd]; simp
              obtain rfl : zW = [] := by rw [HW.out, hPd]; simp
              go_wp2_with (go_at_call 50; refine (HIy.out _).mono ?_; rintro e w9 ⟨rfl, rfl⟩)
              refine bodyPost_ret (v := .tuple #[.agg #[.int .i64 0, .slice none 0 0], .int .i64 2]) (by simp [results, Tryd.results71, go_sem, r0, r1]) rfl ⟨none, 0, rfl, Own.nil _ _, ?_⟩
              exact (HBw.out.setCell (p := ⟨w.heap.size + 1, 0, none⟩) (Nat.le_succ _) _).setCell (p := ⟨w.heap.size + 1, 1, none⟩) (Nat.le_succ _) _
        · obtain rfl : k = m := by omega
          have hq1 : q1 = false := by
            rw [H1.out, List.any_eq_false]
            intro x hx
            obtain ⟨j, hj, rfl⟩ := List.getElem_of_mem hx
            have := HGd.out j (by rw [HM.out]; exact hj)
            simpa [List.getD, List.getElem?_eq_getElem hj] using this
          subst hq1
          have hsm := sm_of H1.out.symm
          obtain ⟨sk, hsk⟩ : ∃ z, z = sumL (ss.take k) := ⟨_, rfl⟩
          have hss : sk = sumL ss := by rw [hsk, HM.out, List.take_length]
          rw [← hsk] at hsum ⊢
          have hok : ∀ j, j < xs.length → xs.getD j 0 ≠ 0 ∧ 1 - (ss.length : Int) ≤ xs.getD j 0 ∧ xs.getD j 0 ≤ (ss.length : Int) - 1 := fun j hj => by rw [← HM.out, hms]; exact HX2.out j hj
          have hk12 : ss.length ≤ 12 := by rw [← HM.out]; omega
          have HWd := hid (specWords xs ss (.slice ao n cap) (.slice bo k dap) B C wr HX1.out HI1.out (by omega) (by omega) HNu.out hok hx1 hk12 hsm)
          have hjo := ok_join ss xs hsm hk12 hok
          obtain ⟨jo, hjo2⟩ : ∃ z, z = joinOk (sumL ss) (rowsL ss xs xs.length) := ⟨_, rfl⟩
          have eS : zS = if jo = true then sk else 0 := by rw [HS.out, hPd, hss, hjo2]; simp [joinS]
          have eC : zC = if jo = true then 0 else 5 := by rw [HC.out, hPd, hjo2]; simp [joinC]
          have eW : zW = if jo = true then dbW ss xs xs.length else [] := by rw [HW.out, hPd, hjo2]; simp [joinW, rows_flat]
          rw [← hjo2, ← hss] at hjo
          have HJo := hid hjo
          have hl1 := dbW_len ss xs hsm xs.length (Nat.le_refl _)
          clear hsk hss hok hk12 hjo hjo2 hsm HS HC HW HX1 HI1 HGd HX2 HSt HIn
          obtain ⟨D, hD⟩ : ∃ D, D = dbW ss xs xs.length := ⟨_, rfl⟩
          rw [← hD] at HWd HJo eW hl1
          clear hD
          go_wp2_with fail
          refine HWd.out.mono ?_
          rintro e w3 ⟨v3, rfl, o3, b3⟩
          obtain ⟨ao3, cap3, hv3⟩ := br.own_val o3
          subst hv3
          have HO3 := hid o3
          have hz3 := b3.size
          have bA : Below w3.heap.size w3 (w3.alloc (.cells #[.int .i64 sk, .slice ao3 D.length cap3] 53)) := (Below.refl _ _).alloc (Nat.le_refl _) _
          have HOk := hid (specOkP sk D (.slice ao3 D.length cap3) w3.heap.size w3.heap.size (w3.alloc (.cells #[.int .i64 sk, .slice ao3 D.length cap3] 53)) (ints_al (o3.ints.mono o3.2.2) _) (by omega) (World.cell?_alloc_at _ _ _ _ rfl) (World.cell?_alloc_at _ _ _ _ rfl))
          rw [HJo.out] at HOk
          have bB := b3.trans (bA.mono hz3)
          have s0 := (bB.cell (p := ⟨w.heap.size + 1, 0, none⟩) (by show w.heap.size + 1 < _; omega)).trans r0
          have s1 := (bB.cell (p := ⟨w.heap.size + 1, 1, none⟩) (by show w.heap.size + 1 < _; omega)).trans r1
          have g0 := (bB.frozen (p := ⟨w.heap.size + 1, 0, none⟩) (by show w.heap.size + 1 < _; omega)).trans f0
          have g1 := (bB.frozen (p := ⟨w.heap.size + 1, 1, none⟩) (by show w.heap.size + 1 < _; omega)).trans f1
          have HB4 := hid (HBw.out.trans (bB.mono (by omega)))
          have HO4 := hid (o3.chg (Chg.ofBelow (lo := 0) bA) (.inr (.inr (Nat.zero_le _))))
          clear o3 b3 bA bB
          go_wp2_with fail
          refine HOk.out.mono ?_
          rintro e w4 ⟨rfl, q4, rfl⟩
          have k0 : ((w3.alloc (.cells #[.int .i64 sk, .slice ao3 D.length cap3] 53)).drewN q4).cell? ⟨w3.heap.size, 0, none⟩ = some (.int .i64 sk) := World.cell?_alloc_at _ _ _ _ rfl
          have k1 : ((w3.alloc (.cells #[.int .i64 sk, .slice ao3 D.length cap3] 53)).drewN q4).cell? ⟨w3.heap.size, 1, none⟩ = some (.slice ao3 D.length cap3) := World.cell?_alloc_at _ _ _ _ rfl
          have u0 : ((w3.alloc (.cells #[.int .i64 sk, .slice ao3 D.length cap3] 53)).drewN q4).cell? ⟨w.heap.size + 1, 0, none⟩ = some (.int .i64 0) := s0
          have u1 : ((w3.alloc (.cells #[.int .i64 sk, .slice ao3 D.length cap3] 53)).drewN q4).cell? ⟨w.heap.size + 1, 1, none⟩ = some (.slice none 0 0) := s1
          have x0 : ((w3.alloc (.cells #[.int .i64 sk, .slice ao3 D.length cap3] 53)).drewN q4).frozen? ⟨w.heap.size + 1, 0, none⟩ = false := g0
          have x1 : ((w3.alloc (.cells #[.int .i64 sk, .slice ao3 D.length cap3] 53)).drewN q4).frozen? ⟨w.heap.size + 1, 1, none⟩ = false := g1
          have HO5 := hid (HO4.out.drewN q4)
          have HB5 := hid (bdrewN HB4.out q4)
          have hz5 : w3.heap.size + 1 ≤ ((w3.alloc (.cells #[.int .i64 sk, .slice ao3 D.length cap3] 53)).drewN q4).heap.size := by show w3.heap.size + 1 ≤ (w3.alloc _).heap.size; simp
          clear s0 s1 g0 g1 HO4 HB4 HO3 HOk HJo
          generalize (w3.alloc (.cells #[.int .i64 sk, .slice ao3 D.length cap3] 53)).drewN q4 = w5 at *
          cases jo with
          | true =>
            obtain rfl : zS = sk := eS
            obtain rfl : zC = 0 := eC
            obtain rfl : zW = D := eW
            go_wp2
            refine bodyPost_ret (v := .tuple #[.agg #[.int .i64 zS, .slice ao3 zW.length cap3], .int .i64 0]) (by simp [results, Tryd.results71, go_sem, u0, u1]) rfl ⟨ao3, cap3, rfl, ?_, ?_⟩
            · have h := own_other (own_other (HO5.out.hi (hi' := w5.heap.size) (by omega) (Nat.le_refl _)) (w.heap.size + 1) 0 (.int .i64 zS) (by omega)) (w.heap.size + 1) 1 (.slice ao3 zW.length cap3) (by omega)
              have h2 := h.lo (lo' := w.heap.size) (by omega)
              simpa using h2
            · exact (HB5.out.setCell (p := ⟨w.heap.size + 1, 0, none⟩) (Nat.le_succ _) _).setCell (p := ⟨w.heap.size + 1, 1, none⟩) (Nat.le_succ _) _
          | false =>
            obtain rfl : zS = 0 := eS
            obtain rfl : zC = 5 := eC
            obtain rfl : zW = [] := eW
            go_wp2
            refine bodyPost_ret (v := .tuple #[.agg #[.int .i64 0, .slice none 0 0], .int .i64 5]) (by simp [results, Tryd.results71, go_sem, u0, u1]) rfl ⟨none, 0, rfl, Own.nil _ _, ?_⟩
            exact (HB5.out.setCell (p := ⟨w.heap.size + 1, 0, none⟩) (Nat.le_succ _) _).setCell (p := ⟨w.heap.size + 1, 1, none⟩) (Nat.le_succ _) _
    · have hmd : decide ((m : Int) = s) = false := decide_eq_false hms
      have hmb : ((m : Int) == s) = false := by simp [hms]
      have hPd : decide ((ss.length : Int) = s) = false := by rw [← HM.out]; exact hmd
      obtain rfl : zS = 0 := by rw [HS.out, hPd]; simp
      obtain rfl : zC = 1 := by rw [HC.out, hPd]; simp
      obtain rfl : zW = [] := by rw [HW.out, hPd]; simp
      go_wp2
      refine bodyPost_ret (v := .tuple #[.agg #[.int .i64 0, .slice none 0 0], .int .i64 1]) (by simp [results, Tryd.results71, go_sem, r0, r1]) rfl ⟨none, 0, rfl, Own.nil _ _, ?_⟩
      exact (HBw.out.setCell (p := ⟨w.heap.size + 1, 0, none⟩) (Nat.le_succ _) _).setCell (p := ⟨w.heap.size + 1, 1, none⟩) (Nat.le_succ _) _
theorem specDoubleP (s : Int) (xs ss : List Int) (v u : Value) (B C : Nat) (w : World) (ha : Ints w B v xs) (hB : B ≤ w.heap.size) (hb : Ints w C u ss) (hC : C ≤ w.heap.size) (hn : xs.length ≤ 1099511627776) (hm : ss.length ≤ 1099511627776) (nv : NilOk v) (nu : NilOk u) :
    Calls Tryd.prog 71 #[.agg #[.int .i64 s, v], u] w fun e w' => ∃ ao cap, e = .returned (.tuple #[.agg #[.int .i64 (dbSt s xs ss), .slice ao (dbWo s xs ss).length cap], .int .i64 (dbCo s xs ss)]) ∧ sl.Own w' w.heap.size w'.heap.size (.slice ao (dbWo s xs ss).length cap) (dbWo s xs ss) ∧ Below w.heap.size w w' :=
  specDouble s xs ss v u B C w ha hB hb hC nu hn hm
theorem implDoubleP (s : Int) (xs ss : List Int) (v u : Value) (B C : Nat) (w : World) (ha : Ints w B v xs) (hB : B ≤ w.heap.size) (hb : Ints w C u ss) (hC : C ≤ w.heap.size) (hn : xs.length ≤ 1099511627776) (hm : ss.length ≤ 1099511627776) (nv : NilOk v) (nu : NilOk u) :
    Calls Tryd.prog 77 #[.agg #[.int .i64 s, v], u] w fun e w' => ∃ ao cap, e = .returned (.tuple #[.agg #[.int .i64 (dbSt s xs ss), .slice ao (dbWo s xs ss).length cap], .int .i64 (dbCo s xs ss)]) ∧ sl.Own w' w.heap.size w'.heap.size (.slice ao (dbWo s xs ss).length cap) (dbWo s xs ss) ∧ Below w.heap.size w w' :=
  implDouble s xs ss v u B C w ha hB hb hC nu hn hm
end Go.Proofs.YtnmnikpgjglonabDoor.db
