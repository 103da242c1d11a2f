/-
  In one file: Ka0, Ka1, Ka2, Ka3, Ka4, Ka5.
-/
import Derived.Test.YtbbnheiibkcgiabDoorKnm
import Derived.Test.YtbbnheiibkcgiabDoorEx
import Derived.BigQuiet
import Derived.Deep.RegionWith
import Derived.Test.YtbbnheiibkcgiabDoorIv
import Derived.BigRegion
import Derived.Lib.SliceRun
import Derived.Test.YtbbnheiibkcgiabDoorCx0
import Derived.Test.YtbbnheiibkcgiabDoorVr5
import Derived.Deep.RegionHeld3
import Derived.Test.YtbbnheiibkcgiabDoorRp
import Derived.Test.YtbbnheiibkcgiabDoorNeedle
import Derived.Test.YtbbnheiibkcgiabDoorCto
/- Pairs of lists that a call reads; knitted.added. -/
namespace Go.Proofs.YtbbnheiibkcgiabDoor.kn
open Go.RowKit Go.Proofs.YtbbnheiibkcgiabDoor.sl Go.Proofs.YtbbnheiibkcgiabDoor.br Go.Proofs.YtbbnheiibkcgiabDoor.bw
set_option linter.unusedVariables false

def kz : Kn := ⟨.slice none 0 0, .slice none 0 0, [], []⟩
/-- A pair's lists, and that they are written out. -/
structure KI (W : World) (B : Nat) (k : Kn) : Prop where
  t : Ints W B k.tv k.ts
  m : Ints W B k.mv k.ms
theorem KI.chg {W W' : World} {B lo hi : Nat} {k : Kn} (h : KI W B k) (c : Chg lo hi W W') (h1 : B ≤ lo ∨ hi ≤ lo) : KI W' B k := ⟨h.t.chg c h1, h.m.chg c h1⟩
theorem KI.below {W W' : World} {B : Nat} {k : Kn} (h : KI W B k) (b : Below W.heap.size W W') : KI W' B k := h.chg (Chg.ofBelow (lo := 0) b) (.inr (Nat.zero_le _))
theorem KI.mono {W : World} {B B' : Nat} {k : Kn} (h : KI W B k) (hB : B ≤ B') : KI W B' k := ⟨h.t.mono hB, h.m.mono hB⟩
/-- Pairs that a call reads. -/
def KS (W : World) (B : Nat) (v : Value) (L : List Kn) : Prop :=
  (L = [] ∧ ∃ ao c, v = .slice ao 0 c) ∨
  (0 < L.length ∧ ∃ g c, v = .slice (some ⟨g, 0, none⟩) L.length c ∧ g < W.heap.size ∧ ∀ j, j < L.length → W.cell? ⟨g, j * 2, none⟩ = some (L.getD j kz).tv ∧ W.cell? ⟨g, j * 2 + 1, none⟩ = some (L.getD j kz).mv ∧ KI W B (L.getD j kz))
theorem KS.val {W : World} {B : Nat} {v : Value} {L : List Kn} (h : KS W B v L) : ∃ ao c, v = .slice ao L.length c := by
  rcases h with ⟨rfl, ao, c, rfl⟩ | ⟨_, g, c, rfl, _⟩
  · exact ⟨ao, c, rfl⟩
  · exact ⟨_, c, rfl⟩
theorem KS.below {W W' : World} {B : Nat} {v : Value} {L : List Kn} (h : KS W B v L) (b : Below W.heap.size W W') : KS W' B v L := by
  rcases h with h | ⟨hp, g, c, hv, hg, hc⟩
  · exact .inl h
  · exact .inr ⟨hp, g, c, hv, Nat.lt_of_lt_of_le hg b.size, fun j hj => ⟨(b.cell (p := ⟨g, j * 2, none⟩) hg).trans (hc j hj).1, (b.cell (p := ⟨g, j * 2 + 1, none⟩) hg).trans (hc j hj).2.1, (hc j hj).2.2.below b⟩⟩
theorem KR.ks {W : World} {lo B : Nat} {v : Value} {L : List Kn} (h : KR W lo B v L) (hlo : lo ≤ W.heap.size) : KS W W.heap.size v L := by
  by_cases h0 : L = []
  · subst h0
    obtain ⟨ao, c, hv⟩ := h.val
    exact .inl ⟨rfl, ao, c, hv⟩
  · have hp : 0 < L.length := List.length_pos_iff.2 h0
    obtain ⟨g, c, hv, hg⟩ := h.addr hp
    subst hv
    refine .inr ⟨hp, g, c, rfl, hg, fun j hj => ?_⟩
    have e : L[j]? = some (L.getD j kz) := by simp [List.getD, List.getElem?_eq_getElem hj]
    have hc := h.at j _ e
    have hm := List.mem_of_getElem? e
    obtain ⟨Lo, Hi, o, _⟩ := h.ms _ hm
    exact ⟨hc.1, hc.2, (h.ts _ hm).mono (Nat.le_trans h.bl hlo), o.ints.mono o.2.2⟩
def dK (k : Kn) : Int := sumL k.ms - sumL k.ts
/-- Small lists of small numbers. -/
def SmL (xs : List Int) : Prop := xs.length ≤ 8 ∧ ∀ q, q < xs.length → 1 ≤ xs.getD q 0 ∧ xs.getD q 0 ≤ 4

set_option maxRecDepth 20000 in
theorem implAdded (k : Kn) (B : Nat) (w : World) (h : KI w B k) (ht : SmL k.ts) (hm : SmL k.ms) :
    Calls Tryd.prog 79 #[.agg #[k.tv, k.mv]] w fun e w' => e = .returned (.int .i64 (dK k)) ∧ Below w.heap.size w w' := by
  have hal := hid ((Below.refl w.heap.size w).alloc (Nat.le_refl _) (.cells #[k.tv, k.mv] 108))
  have HT := hid (fun d => implSum k.ts 4 k.tv B ((w.alloc (.cells #[k.tv, k.mv] 108)).drewN d) (ints_al h.t _) (by have := ht.1; omega) (by omega) (fun j hj => by have := ht.2 j hj; omega))
  have HM := hid (fun d => implSum k.ms 4 k.mv B ((w.alloc (.cells #[k.tv, k.mv] 108)).drewN d) (ints_al h.m _) (by have := hm.1; omega) (by omega) (fun j hj => by have := hm.2 j hj; omega))
  have hts := sumTo_le k.ts 4 (fun j hj => by have := ht.2 j hj; omega) k.ts.length (Nat.le_refl _)
  have hms := sumTo_le k.ms 4 (fun j hj => by have := hm.2 j hj; omega) k.ms.length (Nat.le_refl _)
  rw [sumTo_all] at hts hms
  have hl1 := ht.1
  have hl2 := hm.1
  obtain ⟨a, c, hv⟩ := ints_val h.t
  obtain ⟨a2, c2, hv2⟩ := ints_val h.m
  obtain ⟨tv, mv, ts, ms⟩ := k
  simp only [dK] at *
  clear h ht hm
  generalize sumL ts = x at *
  generalize sumL ms = y at *
  generalize ts.length = n1 at *
  generalize ms.length = n2 at *
  subst hv hv2
  go_enter Tryd.func79, Tryd.ntmps79
  go_wp2_with fail
  go_quiet ((first
    | (go_at_call_of 78 (Value.slice a2 n2 c2); exact Calls.quiet_of_same ((HM.out _).mono (fun _ _ ⟨e1, e2⟩ => ⟨e1, e2.symm⟩)))
    | (go_at_call_of 78 (Value.slice a n1 c); exact Calls.quiet_of_same ((HT.out _).mono (fun _ _ ⟨e1, e2⟩ => ⟨e1, e2.symm⟩)))))
  go_wp2
  go_ret
  exact ⟨rfl, sl.bdrewN hal.out _⟩
end Go.Proofs.YtbbnheiibkcgiabDoor.kn

/- Pairs of lists, copied and turned round (impl.backwards). -/
namespace Go.Proofs.YtbbnheiibkcgiabDoor.kn
open Go.RowKit Go.Proofs.YtbbnheiibkcgiabDoor.sl Go.Proofs.YtbbnheiibkcgiabDoor.br Go.Proofs.YtbbnheiibkcgiabDoor.bw
set_option linter.unusedVariables false

/-- Pairs in a row of the call's own, whose lists are read. -/
structure KB (W : World) (lo hi B : Nat) (v : Value) (L : List Kn) : Prop where
  row : W.ownsRow lo 108 2 v L.length (flatK L)
  lt : ∀ g, v.ownBlock = some g → g < hi
  hh : hi ≤ W.heap.size
  ki : ∀ j, j < L.length → KI W B (L.getD j kz)
theorem KB.val {W : World} {lo hi B : Nat} {v : Value} {L : List Kn} (h : KB W lo hi B v L) : ∃ ao cap, v = .slice ao L.length cap := by
  rcases h.row.2 with ⟨h1, h2⟩ | ⟨g, c, cur, h1, _⟩
  · exact ⟨none, 0, by rw [h1, h2]⟩
  · exact ⟨_, c, h1⟩
theorem row_at {W : World} {lo g n cap : Nat} {L : List Kn} (h : W.ownsRow lo 108 2 (.slice (some ⟨g, 0, none⟩) n cap) n (flatK L)) (hn : n = L.length) (j : Nat) (hj : j < L.length) :
    W.cell? ⟨g, j * 2, none⟩ = some (L.getD j kz).tv ∧ W.cell? ⟨g, j * 2 + 1, none⟩ = some (L.getD j kz).mv := by
  have e : L[j]? = some (L.getD j kz) := by simp [List.getD, List.getElem?_eq_getElem hj]
  have hf := flatK_at L j _ e
  exact ⟨(h.cellAt _ (by omega)).trans hf.1, (h.cellAt _ (by omega)).trans hf.2⟩
theorem KB.ks {W : World} {lo hi B : Nat} {v : Value} {L : List Kn} (h : KB W lo hi B v L) : KS W B v L := by
  rcases h.row.2 with ⟨h1, h2⟩ | ⟨g, c, cur, h1, _⟩
  · exact .inl ⟨List.length_eq_zero_iff.1 h2, none, 0, h1⟩
  · by_cases h0 : L = []
    · subst h0; exact .inl ⟨rfl, _, c, h1⟩
    · subst h1
      refine .inr ⟨List.length_pos_iff.2 h0, g, c, rfl, (h.row.lt g rfl).2, fun j hj => ?_⟩
      have ha := row_at h.row rfl j hj
      exact ⟨ha.1, ha.2, h.ki j hj⟩
theorem flatK_set : ∀ (L : List Kn) (i : Nat) (k : Kn), i < L.length → ((flatK L).set (i * 2) k.tv).set (i * 2 + 1) k.mv = flatK (L.set i k)
  | [], i, k, h => by simp at h
  | x :: L, 0, k, _ => rfl
  | x :: L, i + 1, k, h => by
    have ih := flatK_set L i k (by simpa using h)
    rw [show (i + 1) * 2 = i * 2 + 1 + 1 from by omega]
    show x.tv :: x.mv :: ((flatK L).set (i * 2) k.tv).set (i * 2 + 1) k.mv = x.tv :: x.mv :: flatK (L.set i k)
    rw [ih]
theorem flatK_get (L : List Kn) (q : Nat) (u : Value) (h : (flatK L)[q]? = some u) : q / 2 < L.length ∧ ((q = q / 2 * 2 ∧ u = (L.getD (q / 2) kz).tv) ∨ (q = q / 2 * 2 + 1 ∧ u = (L.getD (q / 2) kz).mv)) := by
  have hl : q < (flatK L).length := (List.getElem?_eq_some_iff.1 h).1
  rw [flatK_len] at hl
  have hj : q / 2 < L.length := by omega
  have e : L[q / 2]? = some (L.getD (q / 2) kz) := by simp [List.getD, List.getElem?_eq_getElem hj]
  have hf := flatK_at L (q / 2) _ e
  refine ⟨hj, ?_⟩
  rcases Nat.mod_two_eq_zero_or_one q with e2 | e2
  · have : q = q / 2 * 2 := by omega
    rw [← this, h, Option.some.injEq] at hf
    exact .inl ⟨this, hf.1⟩
  · have : q = q / 2 * 2 + 1 := by omega
    rw [← this, h, Option.some.injEq] at hf
    exact .inr ⟨this, hf.2⟩
theorem KI.one {W : World} {B : Nat} {k : Kn} (h : KI W B k) : k.tv.oneCell' = true ∧ k.mv.oneCell' = true := by
  obtain ⟨a, c, h1⟩ := ints_val h.t
  obtain ⟨a2, c2, h2⟩ := ints_val h.m
  rw [h1, h2]
  exact ⟨rfl, rfl⟩

/-- append(out, row...): out holds nothing. -/
theorem wp_appKs {ops : Array Oper} {rest : List Oper} {o : Oper} {a : Act} {Q : Exit → Act → World → Prop} {w : World} (hgd : o.guard = none) (s x : Operand)
    (hop : o.op = .call { callee := .builtin .append, args := #[s, x], argTypes := #[96, 96] })
    (lo B : Nat) (v : Value) (ao : Addr) (n cap : Nat) (L : List Kn) (ho : w.ownsRow lo 108 2 v 0 []) (hs : a.eval s = v) (hn : n = L.length) (hu : KS w B (.slice (some ao) n cap) L) (hx : a.eval x = .slice (some ao) n cap) (hlo : lo ≤ w.heap.size) (hB : B ≤ lo) (hm : L.length ≤ 16)
    (hK : ∀ v' w', KB w' lo w'.heap.size B v' L → Below lo w w' → wpList Tryd.prog ops Q rest (a.put o.dst v') w') : wpList Tryd.prog ops Q (o :: rest) a w := by
  obtain ⟨i0, hi', hz0, hz1, hz2⟩ := info_parts infoK
  have hcell : ∀ j, j < L.length → w.cell? (ao.add (j * 2)) = some (L.getD j kz).tv ∧ w.cell? (ao.add (j * 2 + 1)) = some (L.getD j kz).mv ∧ KI w B (L.getD j kz) := by
    intro j hj
    rcases hu with ⟨rfl, _⟩ | ⟨hp, g, c, hv, hg, hc⟩
    · simp at hj
    · simp only [Value.slice.injEq, Option.some.injEq] at hv
      rw [hv.1, Addr.add_lit, Addr.add_lit, Nat.zero_add, Nat.zero_add]
      exact hc j hj
  refine wpList_append_own _ hgd s x 96 hop lo 108 i0 _ 2 48 Tryd.underlying96 hi' hz0 hz1 hz2 rfl (by decide) v 0 [] hs ho ao n cap (flatK L) hx (by rw [flatK_len, hn]) ?_ ?_ ?_ ?_ hlo ?_
  · intro j u hj
    obtain ⟨h1, h2⟩ := flatK_get L j u hj
    rcases h2 with ⟨e, rfl⟩ | ⟨e, rfl⟩
    · rw [e]; rw [show j / 2 * 2 / 2 = j / 2 from by omega]; exact (hcell _ h1).1
    · rw [e]; rw [show (j / 2 * 2 + 1) / 2 = j / 2 from by omega]; exact (hcell _ h1).2.1
  · intro u hu'
    obtain ⟨j, hj⟩ := List.mem_iff_getElem?.1 hu'
    obtain ⟨h1, h2⟩ := flatK_get L j u hj
    rcases h2 with ⟨e, rfl⟩ | ⟨e, rfl⟩
    · exact (hcell _ h1).2.2.one.1
    · exact (hcell _ h1).2.2.one.2
  · unfold maxLen; omega
  · omega
  · intro v' w' h1 h2 _
    have hb : Below lo w w' := ⟨h2.os, h2.tape, h2.output, h2.size, fun k hk => h2.block k (by omega) (by intro e; have := (ho.lt k e.symm).1; omega)⟩
    refine hK v' w' ⟨by rw [← hn]; simpa using h1, fun g hg => (h1.lt g hg).2, Nat.le_refl _, fun j hj => ?_⟩ hb
    exact (hcell j hj).2.2.chg (lo := lo) (hi := w.heap.size) ⟨h2.os, h2.tape, h2.output, h2.size, fun k hk hne => h2.block k hk (by intro e; have := (ho.lt k e.symm); exact hne ⟨this.1, this.2⟩)⟩ (.inl hB)

set_option maxRecDepth 100000 in
theorem cloneK (L : List Kn) (v : Value) (B : Nat) (w : World) (h : KS w B v L) (hB : B ≤ w.heap.size) (hn : L.length ≤ 16) :
    Calls Tryd.prog 85 #[v] w fun e w' => ∃ v', e = .returned v' ∧ KB w' w.heap.size w'.heap.size B v' L ∧ Below w.heap.size w w' := by
  have hb := (Below.refl w.heap.size w).alloc (Nat.le_refl _) (.cells #[] 108)
  have HA := hid (h.below hb)
  have HO := hid (World.ownsRow_made (e := 108) (size := 2) w #[] 0 (Nat.le_refl _) (by unfold maxLen; omega) (by simp))
  obtain ⟨ao, cap, hv⟩ := h.val
  rcases ao with _ | ad
  · have h0 : L = [] := by
      rcases h with ⟨rfl, _⟩ | ⟨hp, g, c, hv', _⟩
      · rfl
      · rw [hv] at hv'
        cases hv'
    subst h0
    subst hv
    clear h HA
    have hnl := Lib.run_eql_slice_nil (P := Tryd.prog) w 96 108 none 0 cap 0 0 Tryd.underlying96
    go_enter Tryd.func85, Tryd.ntmps85
    go_wp2
    go_ret
    exact ⟨_, rfl, ⟨World.ownsRow_nil _ _ _ _, fun g hg => by simp [Value.ownBlock] at hg, Nat.le_refl _, fun j hj => by simp at hj⟩, Below.refl _ _⟩
  · obtain ⟨n, hnn⟩ : ∃ n, n = L.length := ⟨_, rfl⟩
    rw [← hnn] at hv
    subst hv
    clear h
    have HN := hid hnn
    clear hnn
    have hnl := Lib.run_eql_slice_nil (P := Tryd.prog) w 96 108 (some ad) n cap 0 0 Tryd.underlying96
    go_enter Tryd.func85, Tryd.ntmps85
    go_wp2_with (at_builtin; refine wp_appKs rfl _ _ rfl w.heap.size B _ ad n cap L HO.out rfl HN.out HA.out rfl (by simp) hB hn ?_; intro v1 w1 o1 c1; have O1 := hid o1; have B1 := hid (hb.trans c1); clear o1 c1)
    go_wp2
    go_ret
    exact ⟨_, rfl, O1.out, B1.out⟩

/-! ### slices.Reverse -/
def revK (L : List Kn) (i : Nat) : List Kn := (List.range L.length).map fun p => if p < i ∨ L.length - 1 - p < i then L.getD (L.length - 1 - p) kz else L.getD p kz
theorem revK_len (L : List Kn) (i : Nat) : (revK L i).length = L.length := by simp [revK]
theorem revK_at (L : List Kn) (i p : Nat) (h : p < L.length) : (revK L i).getD p kz = if p < i ∨ L.length - 1 - p < i then L.getD (L.length - 1 - p) kz else L.getD p kz := by
  simp [revK, List.getD, h]
theorem kl_eq {L M : List Kn} (h1 : L.length = M.length) (h2 : ∀ j, j < L.length → L.getD j kz = M.getD j kz) : L = M := by
  refine List.ext_getElem h1 fun j hj hj' => ?_
  have := h2 j hj
  simpa [List.getD, List.getElem?_eq_getElem hj, List.getElem?_eq_getElem hj'] using this
theorem revK_zero (L : List Kn) : revK L 0 = L := by
  refine kl_eq (revK_len L 0) fun j hj => ?_
  rw [revK_len] at hj
  rw [revK_at L 0 j hj, if_neg (by omega)]
theorem getK_rev (L : List Kn) (j : Nat) (h : j < L.length) : L.reverse.getD j kz = L.getD (L.length - 1 - j) kz := by
  have h2 : L.length - 1 - j < L.length := by omega
  simp [List.getD, List.getElem?_eq_getElem h2, h]
theorem revK_all (L : List Kn) (i : Nat) (h : L.length ≤ 2 * i + 1) : revK L i = L.reverse := by
  refine kl_eq (by rw [revK_len]; simp) fun j hj => ?_
  rw [revK_len] at hj
  rw [revK_at L i j hj, getK_rev L j hj]
  by_cases h1 : j < i ∨ L.length - 1 - j < i
  · rw [if_pos h1]
  · rw [if_neg h1]
    have : j = L.length - 1 - j := by omega
    rw [← this]
theorem getK_set (L : List Kn) (i j : Nat) (x : Kn) (h : j < L.length) : (L.set i x).getD j kz = if j = i then x else L.getD j kz := by
  by_cases e : j = i
  · subst e; simp [List.getD, h]
  · rw [if_neg e]; simp [List.getD, show ¬ i = j from fun h => e h.symm]
theorem revK_step (L : List Kn) (i j : Nat) (hij : i < j) (hj : i + j + 1 = L.length) : ((revK L i).set i (L.getD j kz)).set j (L.getD i kz) = revK L (i + 1) := by
  refine kl_eq (by simp [revK_len]) fun p hp => ?_
  simp only [List.length_set, revK_len] at hp
  rw [getK_set _ _ _ _ (by simp [revK_len]; exact hp), getK_set _ _ _ _ (by rw [revK_len]; exact hp), revK_at L i p hp, revK_at L (i + 1) p hp]
  by_cases h1 : p = j
  · subst h1
    rw [if_pos rfl, if_pos (by omega)]
    congr 1; omega
  · rw [if_neg h1]
    by_cases h2 : p = i
    · subst h2
      rw [if_pos rfl, if_pos (by omega)]
      congr 1; omega
    · rw [if_neg h2]
      by_cases h3 : p < i ∨ L.length - 1 - p < i
      · rw [if_pos h3, if_pos (by omega)]
      · rw [if_neg h3, if_neg (by omega)]
theorem revKW {w : World} {lo g n cap : Nat} {L : List Kn} (h : w.ownsRow lo 108 2 (.slice (some ⟨g, 0, none⟩) n cap) n (flatK L)) (i j : Nat) (hi : i < L.length) (hj : j < L.length) (a b : Kn) :
    ((((w.setCell ⟨g, i * 2, none⟩ a.tv).setCell ⟨g, i * 2 + 1, none⟩ a.mv).setCell ⟨g, j * 2, none⟩ b.tv).setCell ⟨g, j * 2 + 1, none⟩ b.mv).ownsRow lo 108 2 (.slice (some ⟨g, 0, none⟩) n cap) n (flatK ((L.set i a).set j b)) ∧
    Chg g (g + 1) w ((((w.setCell ⟨g, i * 2, none⟩ a.tv).setCell ⟨g, i * 2 + 1, none⟩ a.mv).setCell ⟨g, j * 2, none⟩ b.tv).setCell ⟨g, j * 2 + 1, none⟩ b.mv) := by
  have h1 := h.stored (i * 2) a.tv
  have h2 := h1.1.stored (i * 2 + 1) a.mv
  have h3 := h2.1.stored (j * 2) b.tv
  have h4 := h3.1.stored (j * 2 + 1) b.mv
  have hr := h4.1
  rw [flatK_set L i a hi, flatK_set (L.set i a) j b (by simpa using hj)] at hr
  refine ⟨hr, ⟨h4.2.os.trans (h3.2.os.trans (h2.2.os.trans h1.2.os)), h4.2.tape.trans (h3.2.tape.trans (h2.2.tape.trans h1.2.tape)), h4.2.output.trans (h3.2.output.trans (h2.2.output.trans h1.2.output)), by simp, fun k hk hne => ?_⟩⟩
  have hk' : some k ≠ some g := by intro e; simp only [Option.some.injEq] at e; omega
  rw [h4.2.block k (by simpa using hk) hk', h3.2.block k (by simpa using hk) hk', h2.2.block k (by simpa using hk) hk', h1.2.block k hk hk']
theorem row_drew {w : World} {lo n : Nat} {v : Value} {xs : List Value} (d : Nat) (h : w.ownsRow lo 108 2 v n xs) : (w.drewN d).ownsRow lo 108 2 v n xs := by
  induction d with
  | zero => exact h
  | succ d ih => exact World.ownsRow.drew ih

theorem chg_wide {w w' : World} {g lo hi : Nat} (h : Chg g (g + 1) w w') (h1 : lo ≤ g) (h2 : g < hi) : Chg lo hi w w' :=
  ⟨h.os, h.tape, h.output, h.size, fun k hk hne => h.block k hk (by omega)⟩

set_option maxRecDepth 20000 in
set_option maxHeartbeats 1600000 in
theorem reverseK (L : List Kn) (v : Value) (lo hi B : Nat) (w : World) (o : KB w lo hi B v L) (hn : L.length ≤ 16) (hB : B ≤ lo) :
    Calls Tryd.prog 86 #[v] w fun e w' => e = .returned (.tuple #[]) ∧ KB w' lo hi B v L.reverse ∧ Chg lo hi w w' := by
  by_cases hp : L = []
  · subst hp
    obtain ⟨ao, cap, rfl⟩ := o.val
    have HO := hid o
    clear o
    go_enter Tryd.func86, Tryd.ntmps86
    go_wp2
    refine wp_loop_rounds 1 ?_
    rw [rounds_succ]
    go_wp2
    go_end0
    exact ⟨rfl, HO.out, Chg.refl _ _ _⟩
  · have hp' : 0 < L.length := List.length_pos_iff.2 hp
    obtain ⟨g, cap, rfl⟩ : ∃ g cap, v = .slice (some ⟨g, 0, none⟩) L.length cap := by
      rcases o.row.2 with ⟨_, h0⟩ | ⟨g, cap, cur, rfl, _⟩
      · omega
      · exact ⟨_, _, rfl⟩
    have hgl := (o.row.lt g rfl).1
    have hgh := o.lt g rfl
    have HKI := hid o.ki
    have HH := hid o.hh
    have hrow := o.row
    obtain ⟨n, hnn⟩ : ∃ n, n = L.length := ⟨_, rfl⟩
    rw [← hnn] at hrow hn hp' ⊢
    have HN := hid hnn
    have HR0 := hid hrow
    clear hnn o hp hrow
    go_enter Tryd.func86, Tryd.ntmps86
    go_wp2
    go_loopw [2, 3] (fun iv jv wr => ∃ i j : Nat, i + j + 1 = n ∧ iv = .int .i64 i ∧ jv = .int .i64 j ∧ wr.ownsRow lo 108 2 (.slice (some ⟨g, 0, none⟩) n cap) n (flatK (revK L i)) ∧ Chg g (g + 1) w wr) (fun iv jv _ => (intOf jv - intOf iv + 2).toNat)
    case atStart => exact ⟨0, n - 1, by omega, rfl, by congr 1; omega, by rw [revK_zero]; exact HR0.out, Chg.refl _ _ _⟩
    case round =>
      obtain ⟨i, j, hij, rfl, rfl, ho, hc⟩ := hrel
      have HO := hid ho
      have HC := hid hc
      clear ho hc HR0
      by_cases hlt : i < j
      · have hl1 : n = (revK L i).length := by rw [revK_len]; exact HN.out
        have li : i < (revK L i).length := by omega
        have lj : j < (revK L i).length := by omega
        have hi0 := row_at HO.out hl1 i li
        have hj0 := row_at HO.out hl1 j lj
        have hfr := HO.out.frozenAt
        have fi0 := hfr (i * 2)
        have fi1 := hfr (i * 2 + 1)
        have fj0 := hfr (j * 2)
        have fj1 := hfr (j * 2 + 1)
        rw [revK_at L i i (by rw [← HN.out]; omega), if_neg (by rw [← HN.out]; omega)] at hi0
        rw [revK_at L i j (by rw [← HN.out]; omega), if_neg (by rw [← HN.out]; omega)] at hj0
        obtain ⟨hi1, hi2⟩ := hi0
        obtain ⟨hj1, hj2⟩ := hj0
        have HS := hid (revK_step L i j hlt (by rw [← HN.out]; exact hij))
        have HW := hid (revKW HO.out i j li lj (L.getD j kz) (L.getD i kz))
        rw [HS.out] at HW
        have HI1 := hid (HKI.out i (by rw [← HN.out]; omega))
        have HI2 := hid (HKI.out j (by rw [← HN.out]; omega))
        obtain ⟨a1, c1, e1⟩ := ints_val HI1.out.t
        obtain ⟨a2, c2, e2⟩ := ints_val HI1.out.m
        obtain ⟨a3, c3, e3⟩ := ints_val HI2.out.t
        obtain ⟨a4, c4, e4⟩ := ints_val HI2.out.m
        rw [e1] at hi1 HW
        rw [e2] at hi2 HW
        rw [e3] at hj1 HW
        rw [e4] at hj2 HW
        clear li lj HO e1 e2 e3 e4 HI1 HI2 hl1 hfr
        generalize (L.getD i kz).ts.length = n1 at *
        generalize (L.getD i kz).ms.length = n2 at *
        generalize (L.getD j kz).ts.length = n3 at *
        generalize (L.getD j kz).ms.length = n4 at *
        by_cases hj0 : j = 0
        · omega
        · obtain ⟨j', rfl⟩ : ∃ j', j = j' + 1 := ⟨j - 1, by omega⟩
          go_wp2
          go_region
          all_goals (try go_wp2)
          go_roundw
          case rel => exact ⟨i + 1, j', by omega, by go_num, by go_num, row_drew 1 HW.out.1, HC.out.trans (HW.out.2.drewN 1)⟩
          case measure => simp [intOf]; omega
      · have HS := hid (revK_all L i (by rw [← HN.out]; omega))
        rw [HS.out] at HO
        go_wp2
        go_end0
        have hrow2 := HO.out
        have hc2 := chg_wide HC.out hgl hgh
        exact ⟨rfl, ⟨by rw [List.length_reverse, ← HN.out]; exact hrow2, fun g' hg' => by cases hg'; exact hgh, Nat.le_trans HH.out HC.out.size, fun q hq => by
          rw [List.length_reverse] at hq
          rw [getK_rev L q hq]
          exact (HKI.out _ (by omega)).chg HC.out (.inl (by omega))⟩, hc2⟩
end Go.Proofs.YtbbnheiibkcgiabDoor.kn

/- impl.backwards; the most loops while a row is made (rowOn.mostLoops). -/
namespace Go.Proofs.YtbbnheiibkcgiabDoor.kn
open Go.RowKit Go.Proofs.YtbbnheiibkcgiabDoor.sl Go.Proofs.YtbbnheiibkcgiabDoor.br Go.Proofs.YtbbnheiibkcgiabDoor.bw Go.Proofs.YtbbnheiibkcgiabDoor.st Go.Proofs.YtbbnheiibkcgiabDoor.cx
set_option linter.unusedVariables false

set_option maxRecDepth 20000 in
theorem implBack (L : List Kn) (v : Value) (B : Nat) (w : World) (h : KS w B v L) (hB : B ≤ w.heap.size) (hn : L.length ≤ 16) :
    Calls Tryd.prog 77 #[v] w fun e w' => ∃ v', e = .returned v' ∧ KS w' B v' L.reverse ∧ Below w.heap.size w w' := by
  have HC := hid (cloneK L v B w h hB hn)
  have HR := hid (fun v' lo hi w' o hBl => reverseK L v' lo hi B w' o hn hBl)
  have HB := hid hB
  obtain ⟨ao, cap, hv⟩ := h.val
  clear h hB
  generalize L.length = n at *
  subst hv
  go_enter Tryd.func77, Tryd.ntmps77
  go_wp2_with fail
  refine HC.out.mono ?_
  rintro e w1 ⟨v1, rfl, k1, b1⟩
  have B1 := hid b1
  have HR1 := hid (HR.out v1 _ _ w1 k1 HB.out)
  clear b1 k1
  go_wp2_with fail
  refine HR1.out.mono ?_
  rintro e w2 ⟨rfl, k2, c2⟩
  have K2 := hid k2
  have B2 := hid (B1.out.trans (c2.below (Nat.le_refl _) B1.out.size))
  clear k2 c2
  go_wp2
  go_ret
  exact ⟨_, rfl, K2.out.ks, B2.out⟩

/-- The pair that is made in place q. -/
structure KQ (d : Int) (ss ks : List Int) (M : List Kn) : Prop where
  len : M.length = ks.length
  at_ : ∀ q, q < ks.length → (M.getD q kz).ts = tkn ss ks (ix d ks.length q) ∧ (M.getD q kz).ms = mdn ss ks (ix d ks.length q)
theorem kl_get {ss ks : List Int} {L : List Kn} (h : KL ss ks ks.length L) (j : Nat) (hj : j < ks.length) : (L.getD j kz).ts = tkn ss ks j ∧ (L.getD j kz).ms = mdn ss ks j := by
  have hl : j < L.length := by rw [h.len]; exact hj
  have e : L[j]? = some (L.getD j kz) := by simp [List.getD, List.getElem?_eq_getElem hl]
  exact h.at_ j _ e
theorem kq_fwd {d : Int} {ss ks : List Int} {L : List Kn} (h : KL ss ks ks.length L) (hd : d ≠ -1) : KQ d ss ks L := by
  refine ⟨h.len, fun q hq => ?_⟩
  rw [ix, if_neg hd]
  exact kl_get h q hq
theorem kq_bwd {d : Int} {ss ks : List Int} {L : List Kn} (h : KL ss ks ks.length L) (hd : d = -1) : KQ d ss ks L.reverse := by
  refine ⟨by rw [List.length_reverse]; exact h.len, fun q hq => ?_⟩
  rw [ix, if_pos hd, getK_rev L q (by rw [h.len]; exact hq), h.len]
  exact kl_get h _ (by omega)
theorem KQ.dK {d : Int} {ss ks : List Int} {M : List Kn} (h : KQ d ss ks M) (q : Nat) (hq : q < ks.length) : kn.dK (M.getD q kz) = cx.dl ss ks (ix d ks.length q) := by
  have := h.at_ q hq
  rw [kn.dK, cx.dl, this.1, this.2]
theorem ix_lt {d : Int} {n q : Nat} (h : q < n) : ix d n q < n := by unfold ix; split <;> omega
theorem KQ.sm {d : Int} {ss ks : List Int} {M : List Kn} (h : KQ d ss ks M) (hg : cx.Good ss ks) (q : Nat) (hq : q < ks.length) : SmL (M.getD q kz).ts ∧ SmL (M.getD q kz).ms := by
  have := h.at_ q hq
  have hi := ix_lt (d := d) hq
  rw [this.1, this.2]
  exact ⟨⟨hg.tlen _ hi, hg.tel _ hi⟩, hg.mlen _ hi, hg.el _ hi⟩
theorem mx_bd {d : Int} {ss ks : List Int} (hg : cx.Good ss ks) : ∀ q, q ≤ ks.length → -1000 ≤ mxTo d ss ks q ∧ mxTo d ss ks q ≤ 1000
  | 0, _ => by
    have := sum8 ss hg.s8 hg.st
    rw [mxTo]; omega
  | q + 1, h => by
    have h1 := mx_bd (d := d) hg q (by omega)
    have h2 := hg.lp d (q + 1) h
    have := hg.k16
    rw [mxTo]
    omega

set_option maxRecDepth 100000 in
set_option maxHeartbeats 4000000 in
theorem implMost (d c : Int) (ss ks : List Int) (L : List Kn) (v u sv : Value) (B C E : Nat) (w : World) (h : KS w B v L) (hB : B ≤ w.heap.size) (hk : KL ss ks ks.length L) (hs : Ints w C sv ss) (hu : Ints w E u ks) (hg : cx.Good ss ks) :
    Calls Tryd.prog 67 #[.agg #[.int .i64 d, .int .i64 c, u, sv], v] w fun e w' => e = .returned (.int .i64 (mxTo d ss ks ks.length)) ∧ Below w.heap.size w w' := by
  have hk16 := hg.k16
  have hb0 := (Below.refl w.heap.size w).alloc (Nat.le_refl _) (.cells #[.int .i64 d, .int .i64 c, u, sv] 81)
  have hs8 := hg.s8
  have hst := hg.st
  have HS := hid (fun W (b : Below w.heap.size w W) => implSum ss 4 sv C W (hs.chg (Chg.ofBelow (lo := 0) b) (.inr (Nat.zero_le _))) (by omega) (by omega) (fun j hj => by have := hst j hj; omega))
  have hsm := sum8 ss hs8 hst
  have HBk := hid (fun W (b : Below w.heap.size w W) => implBack L v B W (h.below b) (by have := b.size; omega) (by rw [hk.len]; omega))
  have HK := hid h
  have HL := hid hk
  have HG := hid hg
  have HL0 : Hid (lpTo d ss ks 0 = sumL ss) := hid rfl
  have HM0 : Hid (mxTo d ss ks 0 = sumL ss) := hid rfl
  have HB0 := hid hb0
  obtain ⟨a1, c1, hv1⟩ := ints_val hs
  obtain ⟨a2, c2, hv2⟩ := ints_val hu
  obtain ⟨a3, c3, hv3⟩ := h.val
  rw [hk.len] at hv3
  have HN := hid hk.len
  clear h hk hs hu hg hst hb0
  generalize hss : sumL ss = s0 at *
  generalize ss.length = n1 at *
  obtain ⟨n, hnn⟩ : ∃ n, n = ks.length := ⟨_, rfl⟩
  rw [← hnn] at hv2 hv3 hk16 HN ⊢
  have HNn := hid hnn
  clear hnn hss
  subst hv1 hv2 hv3
  by_cases hd : d = -1
  · subst hd
    go_enter Tryd.func67, Tryd.ntmps67
    go_wp2_with fail
    refine (HBk.out _ HB0.out).mono ?_
    rintro e WV ⟨v4, rfl, hks4, b4⟩
    have HKS := hid hks4
    have HQ := hid (kq_bwd (d := -1) HL.out rfl)
    have BV := hid (HB0.out.trans (b4.mono HB0.out.size))
    have hbox : WV.cell? ⟨w.heap.size, 3, none⟩ = some (.slice a1 n1 c1) := (b4.cell (p := ⟨w.heap.size, 3, none⟩) (by simp)).trans (by simp)
    obtain ⟨a4, c4, hv4⟩ := hks4.val
    rw [List.length_reverse, HN.out] at hv4
    subst hv4
    clear hks4 b4 HBk HK
    generalize hM : L.reverse = M at *
    clear hM
    go_wp2_with fail
    refine (HS.out _ BV.out).mono ?_
    rintro e wz ⟨rfl, rfl⟩
    go_wp2
    go_loopw [5, 6, 21] (fun l m i wr => ∃ q : Nat, q ≤ n ∧ i = .int .i64 q ∧ l = .int .i64 (lpTo (-1) ss ks q) ∧ m = .int .i64 (mxTo (-1) ss ks q) ∧ Below WV.heap.size WV wr) (fun _ _ i _ => n - (intOf i).toNat)
    case atStart => exact ⟨0, Nat.zero_le _, rfl, by rw [HL0.out], by rw [HM0.out], Below.refl _ _⟩
    case round =>
      obtain ⟨q, hq, rfl, rfl, rfl, hbel⟩ := hrel
      have HBl := hid hbel
      clear hbel
      by_cases hlt : q < n
      · have hks := HKS.out.below HBl.out
        have hlM : M.length = n := HQ.out.len.trans HNn.out.symm
        rcases hks with ⟨h0, _⟩ | ⟨hp, g, c5, hv5, hg5, hc5⟩
        · rw [h0] at hlM; simp at hlM; omega
        have hcell := hc5 q (by rw [hlM]; exact hlt)
        simp only [Value.slice.injEq] at hv5
        obtain ⟨rfl, hx5, rfl⟩ := hv5
        clear hx5
        obtain ⟨d1, d2, hki⟩ := hcell
        have hq' : q < ks.length := by rw [← HNn.out]; exact hlt
        have hsm2 := HQ.out.sm HG.out q hq'
        have hAd : ∀ W, Below wr.heap.size wr W → Calls Tryd.prog 79 #[.agg #[(M.getD q kz).tv, (M.getD q kz).mv]] W fun e w' => e = .returned (.int .i64 (dK (M.getD q kz))) ∧ Below W.heap.size W w' :=
          fun W b => implAdded (M.getD q kz) B W (hki.below b) hsm2.1 hsm2.2
        rw [HQ.out.dK q hq'] at hAd
        have hx := HG.out.lp (-1) q (by omega)
        have hz := HG.out.dl (ix (-1) ks.length q) (ix_lt hq')
        have hy := mx_bd (d := -1) HG.out q (by omega)
        have hL1 : lpTo (-1) ss ks (q + 1) = lpTo (-1) ss ks q + cx.dl ss ks (ix (-1) ks.length q) := rfl
        have hM1 : mxTo (-1) ss ks (q + 1) = max (mxTo (-1) ss ks q) (lpTo (-1) ss ks (q + 1)) := rfl
        rw [hL1] at hM1
        have HL1 := hid hL1
        have HM1 := hid hM1
        clear hL1 hM1
        obtain ⟨a5, c6, e1⟩ := ints_val hki.t
        obtain ⟨a6, c7, e2⟩ := ints_val hki.m
        rw [e1, e2] at hAd
        rw [e1] at d1
        rw [e2] at d2
        have HAd := hid hAd
        clear hAd hki hc5 hsm2 e1 e2 hlM
        generalize (M.getD q kz).ts.length = m1 at *
        generalize (M.getD q kz).ms.length = m2 at *
        generalize lpTo (-1) ss ks q = x at *
        generalize mxTo (-1) ss ks q = y at *
        generalize cx.dl ss ks (ix (-1) ks.length q) = z at *
        have HBa := hid ((Below.refl wr.heap.size wr).alloc (Nat.le_refl _) (.cells #[.slice a5 m1 c6, .slice a6 m2 c7] 108))
        go_wp2_with fail
        refine (HAd.out _ HBa.out).mono ?_
        rintro e w2 ⟨rfl, b2⟩
        have B2 := hid (HBl.out.trans ((HBa.out.trans (b2.mono HBa.out.size)).mono HBl.out.size))
        clear b2
        go_wp2
        go_roundw
        case rel => exact ⟨q + 1, by omega, by go_num, by rw [HL1.out], by rw [HM1.out]; try (congr 1; split <;> omega), B2.out⟩
        case measure => simp [intOf]; omega
      · obtain rfl : q = n := by omega
        go_wp2
        go_ret
        exact ⟨rfl, BV.out.trans (HBl.out.mono BV.out.size)⟩
  · have HQ := hid (kq_fwd (d := d) HL.out hd)
    have HKS := hid (HK.out.below HB0.out)
    clear HBk
    generalize L = M at *
    go_enter Tryd.func67, Tryd.ntmps67
    go_wp2_with fail
    refine (HS.out _ HB0.out).mono ?_
    rintro e wz ⟨rfl, rfl⟩
    go_wp2
    go_loopw [5, 6, 21] (fun l m i wr => ∃ q : Nat, q ≤ n ∧ i = .int .i64 q ∧ l = .int .i64 (lpTo d ss ks q) ∧ m = .int .i64 (mxTo d ss ks q) ∧ Below (w.alloc (.cells #[.int .i64 d, .int .i64 c, .slice a2 n c2, .slice a1 n1 c1] 81)).heap.size (w.alloc (.cells #[.int .i64 d, .int .i64 c, .slice a2 n c2, .slice a1 n1 c1] 81)) wr) (fun _ _ i _ => n - (intOf i).toNat)
    case atStart => exact ⟨0, Nat.zero_le _, rfl, by rw [HL0.out], by rw [HM0.out], Below.refl _ _⟩
    case round =>
      obtain ⟨q, hq, rfl, rfl, rfl, hbel⟩ := hrel
      have HBl := hid hbel
      clear hbel
      by_cases hlt : q < n
      · have hks := HKS.out.below HBl.out
        have hlM : M.length = n := HQ.out.len.trans HNn.out.symm
        rcases hks with ⟨h0, _⟩ | ⟨hp, g, c5, hv5, hg5, hc5⟩
        · rw [h0] at hlM; simp at hlM; omega
        have hcell := hc5 q (by rw [hlM]; exact hlt)
        simp only [Value.slice.injEq] at hv5
        obtain ⟨rfl, hx5, rfl⟩ := hv5
        clear hx5
        obtain ⟨d1, d2, hki⟩ := hcell
        have hq' : q < ks.length := by rw [← HNn.out]; exact hlt
        have hsm2 := HQ.out.sm HG.out q hq'
        have hAd : ∀ W, Below wr.heap.size wr W → Calls Tryd.prog 79 #[.agg #[(M.getD q kz).tv, (M.getD q kz).mv]] W fun e w' => e = .returned (.int .i64 (dK (M.getD q kz))) ∧ Below W.heap.size W w' :=
          fun W b => implAdded (M.getD q kz) B W (hki.below b) hsm2.1 hsm2.2
        rw [HQ.out.dK q hq'] at hAd
        have hx := HG.out.lp d q (by omega)
        have hz := HG.out.dl (ix d ks.length q) (ix_lt hq')
        have hy := mx_bd (d := d) HG.out q (by omega)
        have hL1 : lpTo d ss ks (q + 1) = lpTo d ss ks q + cx.dl ss ks (ix d ks.length q) := rfl
        have hM1 : mxTo d ss ks (q + 1) = max (mxTo d ss ks q) (lpTo d ss ks (q + 1)) := rfl
        rw [hL1] at hM1
        have HL1 := hid hL1
        have HM1 := hid hM1
        clear hL1 hM1
        obtain ⟨a5, c6, e1⟩ := ints_val hki.t
        obtain ⟨a6, c7, e2⟩ := ints_val hki.m
        rw [e1, e2] at hAd
        rw [e1] at d1
        rw [e2] at d2
        have HAd := hid hAd
        clear hAd hki hc5 hsm2 e1 e2 hlM
        generalize (M.getD q kz).ts.length = m1 at *
        generalize (M.getD q kz).ms.length = m2 at *
        generalize lpTo d ss ks q = x at *
        generalize mxTo d ss ks q = y at *
        generalize cx.dl ss ks (ix d ks.length q) = z at *
        have HBa := hid ((Below.refl wr.heap.size wr).alloc (Nat.le_refl _) (.cells #[.slice a5 m1 c6, .slice a6 m2 c7] 108))
        go_wp2_with fail
        refine (HAd.out _ HBa.out).mono ?_
        rintro e w2 ⟨rfl, b2⟩
        have B2 := hid (HBl.out.trans ((HBa.out.trans (b2.mono HBa.out.size)).mono HBl.out.size))
        clear b2
        go_wp2
        go_roundw
        case rel => exact ⟨q + 1, by omega, by go_num, by rw [HL1.out], by rw [HM1.out]; try (congr 1; split <;> omega), B2.out⟩
        case measure => simp [intOf]; omega
      · obtain rfl : q = n := by omega
        go_wp2
        go_ret
        exact ⟨rfl, HB0.out.trans (HBl.out.mono HB0.out.size)⟩
end Go.Proofs.YtbbnheiibkcgiabDoor.kn

/- rowOn.stacksAfter of the program: the stacks behind a row. -/
namespace Go.Proofs.YtbbnheiibkcgiabDoor.kn
open Go.RowKit Go.Proofs.YtbbnheiibkcgiabDoor.sl Go.Proofs.YtbbnheiibkcgiabDoor.br Go.Proofs.YtbbnheiibkcgiabDoor.bw Go.Proofs.YtbbnheiibkcgiabDoor.st Go.Proofs.YtbbnheiibkcgiabDoor.cx
set_option linter.unusedVariables false

theorem mx_lw {ss ks : List Int} (d : Int) (h : sumL ss ≤ 12) : decide (mxTo d ss ks ks.length ≤ 12) = lw d ss ks := mx_le d ss ks h _

set_option maxRecDepth 100000 in
set_option maxHeartbeats 4000000 in
theorem implRowOn (d c : Int) (ss ks : List Int) (u sv : Value) (B C : Nat) (w : World) (ha : Rest w B sv ss) (hB : B ≤ w.heap.size) (h12 : sumL ss ≤ 12) (hn : ss.length ≤ 8) (hu : Ints w C u ks) (hC : C ≤ w.heap.size) (hm : ks.length ≤ 1099511627776) (hT : stb.Tab w) :
    Calls Tryd.prog 50 #[.agg #[.int .i64 d, .int .i64 c, u, sv]] w fun e w' =>
      ∃ v', e = .returned (.tuple #[v', .bool (vr5.rowB d c ks && (decide (saC ss ks = 0) && lw d ss ks))]) ∧ (saC ss ks = 0 → vr5.rowB d c ks = true → sl.Own w' w.heap.size w'.heap.size v' (saW ss ks)) ∧ Below w.heap.size w w' := by
  have hb0 := (Below.refl w.heap.size w).alloc (Nat.le_refl _) (.cells #[.int .i64 d, .int .i64 c, u, sv] 81)
  have hT1 : stb.Tab (w.alloc (.cells #[.int .i64 d, .int .i64 c, u, sv] 81)) := stb.carry hT hb0
  have hI1 := ints_al ha.ints (.cells #[.int .i64 d, .int .i64 c, u, sv] 81)
  have hU1 := ints_al hu (.cells #[.int .i64 d, .int .i64 c, u, sv] 81)
  have HK := hid (implKnit ss ks sv u B C (w.alloc (.cells #[.int .i64 d, .int .i64 c, u, sv] 81)) hI1 (by simp; omega) (by omega) ⟨hI1, ha.cap⟩ hU1 (by simp; omega) hm hT1)
  have HV := hid (fun W (b : Below (w.alloc (.cells #[.int .i64 d, .int .i64 c, u, sv] 81)).heap.size (w.alloc (.cells #[.int .i64 d, .int .i64 c, u, sv] 81)) W) =>
    vr5.implIsValid d c ks u C W (hU1.chg (Chg.ofBelow (lo := 0) b) (.inr (Nat.zero_le _))) (by have := b.size; simp at this; omega) hm)
  have HI1 := hid hI1
  have HU1 := hid hU1
  have HB0 := hid hb0
  have hBB : B ≤ w.heap.size + 1 := by omega
  obtain ⟨ao, cap, hv, _⟩ := ha.cap
  obtain ⟨bo, cbp, huv⟩ := ints_val hu
  clear ha hu hT hT1 hI1 hU1 hb0
  have HG := hid (fun h => @cx.good_of ss ks h)
  have HLw := hid (mx_lw (ks := ks) d h12)
  generalize ss.length = n at *
  obtain ⟨m, hmm⟩ : ∃ m, m = ks.length := ⟨_, rfl⟩
  rw [← hmm] at huv
  have HMm := hid hmm
  subst hv huv
  clear hmm hm
  obtain ⟨q, hq⟩ : ∃ q, q = (vr5.rowB d c ks && (decide (saC ss ks = 0) && lw d ss ks)) := ⟨_, rfl⟩
  rw [← hq]
  have HQ := hid hq
  clear hq
  obtain ⟨cc, hcc⟩ : ∃ cc, cc = saC ss ks := ⟨_, rfl⟩
  have HCc := hid hcc
  rw [← hcc] at HK HQ HG ⊢
  clear hcc
  obtain ⟨b, hbb⟩ : ∃ b, b = vr5.rowB d c ks := ⟨_, rfl⟩
  rw [← hbb] at HV HQ ⊢
  clear hbb
  go_enter Tryd.func50, Tryd.ntmps50
  go_wp2_with fail
  refine HK.out.mono ?_
  rintro e w1 ⟨v1, rfl, hkp, b1⟩
  have HV1 := hid (HV.out w1 b1)
  have x0 : w1.cell? ⟨w.heap.size, 0, none⟩ = some (.int .i64 d) := (b1.cell (p := ⟨w.heap.size, 0, none⟩) (by simp)).trans (by simp)
  have x1 : w1.cell? ⟨w.heap.size, 1, none⟩ = some (.int .i64 c) := (b1.cell (p := ⟨w.heap.size, 1, none⟩) (by simp)).trans (by simp)
  have x2 : w1.cell? ⟨w.heap.size, 2, none⟩ = some (.slice bo m cbp) := (b1.cell (p := ⟨w.heap.size, 2, none⟩) (by simp)).trans (by simp)
  have x3 : w1.cell? ⟨w.heap.size, 3, none⟩ = some (.slice ao n cap) := (b1.cell (p := ⟨w.heap.size, 3, none⟩) (by simp)).trans (by simp)
  have hz1 : w.heap.size + 1 ≤ w1.heap.size := by have := b1.size; simpa using this
  have B1 := hid (HB0.out.trans (b1.mono HB0.out.size))
  have HI := hid (HI1.out.chg (Chg.ofBelow (lo := 0) b1) (.inr (Nat.zero_le _)))
  have HU := hid (HU1.out.chg (Chg.ofBelow (lo := 0) b1) (.inr (Nat.zero_le _)))
  clear b1 HK HV HI1 HU1
  rcases hkp with ⟨hc, rfl⟩ | ⟨hc, L, hkr, hkl, hone⟩
  · rw [← HCc.out] at hc
    have e1 : (cc == 0) = false := by simpa using hc
    have e2 : (cc != 0) = true := by simpa using hc
    have HR : Hid (q = false) := hid (by rw [HQ.out]; simp [hc])
    have HN0 := hid hc
    clear hc
    go_wp2
    go_ret2
    exact ⟨.slice none 0 0, by rw [HR.out]; rfl, fun h => absurd h HN0.out, B1.out⟩
  · rw [← HCc.out] at hc
    have HG1 := hid (HG.out hc)
    have HG2 := HG1
    rw [hc] at HQ ⊢
    clear HG
    go_wp2_with fail
    refine HV1.out.mono ?_
    rintro e w2 ⟨rfl, b2⟩
    have X0 := (b2.cell (p := ⟨w.heap.size, 0, none⟩) (by show w.heap.size < w1.heap.size; omega)).trans x0
    have X1 := (b2.cell (p := ⟨w.heap.size, 1, none⟩) (by show w.heap.size < w1.heap.size; omega)).trans x1
    have X2 := (b2.cell (p := ⟨w.heap.size, 2, none⟩) (by show w.heap.size < w1.heap.size; omega)).trans x2
    have X3 := (b2.cell (p := ⟨w.heap.size, 3, none⟩) (by show w.heap.size < w1.heap.size; omega)).trans x3
    have hkr2 := hkr.below b2
    have HI2 := hid (HI.out.chg (Chg.ofBelow (lo := 0) b2) (.inr (Nat.zero_le _)))
    have HU2 := hid (HU.out.chg (Chg.ofBelow (lo := 0) b2) (.inr (Nat.zero_le _)))
    have hz2 : w.heap.size + 1 ≤ w2.heap.size := Nat.le_trans hz1 b2.size
    have B2 := hid (B1.out.trans (b2.mono (by omega)))
    clear x0 x1 x2 x3 b2 hkr HI HU HV1
    cases b with
    | false =>
      have HR : Hid (q = false) := hid (by rw [HQ.out]; rfl)
      clear HQ hkr2 HI2 HU2 hkl hone HG1 HG2 HLw
      go_wp2
      go_ret2
      exact ⟨.slice none 0 0, by rw [HR.out]; rfl, fun _ h => (by cases h), B2.out⟩
    | true =>
      have h0 := sa0 (HCc.out.symm.trans hc)
      have hl := hkl.len
      have h16 := (lst_parts h0.2.1).1
      have hsW := saW_yes (HCc.out.symm.trans hc)
      have HMd : Hid (∀ W, Below w2.heap.size w2 W → Calls Tryd.prog 66 #[v1] W fun e w' => ∃ v', e = .returned v' ∧ sl.Own w' w2.heap.size w'.heap.size v' (saW ss ks) ∧ Below w2.heap.size w2 w' ∧ Below W.heap.size W w') := hid (fun W b => by
        have hi := implMade L v1 _ B W (hkr2.below b) (by rw [hl]; exact h16) (kl_ms hkl h0.2.1) hone
        rw [catTo_aft hkl L.length (by omega), hl, ← hsW] at hi
        refine hi.mono ?_
        rintro e w' ⟨v', rfl, o, b'⟩
        exact ⟨v', rfl, o.lo b.size, b.trans (b'.mono b.size), b'⟩)
      have HMo : Hid (∀ W, Below w2.heap.size w2 W → Calls Tryd.prog 67 #[.agg #[.int .i64 d, .int .i64 c, .slice bo m cbp, .slice ao n cap], v1] W fun e w' => e = .returned (.int .i64 (mxTo d ss ks ks.length)) ∧ Below w2.heap.size w2 w' ∧ Below W.heap.size W w') := hid (fun W b => by
        have hks := (hkr2.ks (by simp; omega)).below b
        have hi := implMost d c ss ks L v1 _ _ w2.heap.size B C W hks b.size hkl (HI2.out.chg (Chg.ofBelow (lo := 0) b) (.inr (Nat.zero_le _))) (HU2.out.chg (Chg.ofBelow (lo := 0) b) (.inr (Nat.zero_le _))) HG2.out
        refine hi.mono ?_
        rintro e w' ⟨rfl, b'⟩
        exact ⟨rfl, b.trans (b'.mono b.size), b'⟩)
      have HQ2 : Hid (decide (mxTo d ss ks ks.length ≤ 12) = q) := hid (by rw [HQ.out, HLw.out]; rfl)
      obtain ⟨ra, rc, hrv⟩ := hkr2.val
      clear HQ hkr2 HI2 HU2 hkl hone HG1 HG2 HLw h0 hl h16 hsW HMm
      generalize mxTo d ss ks ks.length = mx at *
      generalize L.length = ln at *
      subst hrv
      go_wp2_with fail
      go_region_held3 (fun w' => w'.cell? ⟨w.heap.size, 0, none⟩ = some (.int .i64 d) ∧ w'.cell? ⟨w.heap.size, 1, none⟩ = some (.int .i64 c) ∧ w'.cell? ⟨w.heap.size, 2, none⟩ = some (.slice bo m cbp) ∧ w'.cell? ⟨w.heap.size, 3, none⟩ = some (.slice ao n cap)) (go_keep) (first
        | (go_at_call 66
           refine (HMd.out _ ?_).mono ?_
           · (first | exact BM.out | exact Below.refl _ _ | exact (Below.refl _ _).drew | exact bdrewN (Below.refl _ _) _)
           rintro e w3 ⟨v3, rfl, o3, bs, b3⟩
           have BS := hid bs
           have O3 := hid o3
           have Y0 := (bs.cell (p := ⟨w.heap.size, 0, none⟩) (by show w.heap.size < w2.heap.size; omega)).trans X0
           have Y1 := (bs.cell (p := ⟨w.heap.size, 1, none⟩) (by show w.heap.size < w2.heap.size; omega)).trans X1
           have Y2 := (bs.cell (p := ⟨w.heap.size, 2, none⟩) (by show w.heap.size < w2.heap.size; omega)).trans X2
           have Y3 := (bs.cell (p := ⟨w.heap.size, 3, none⟩) (by show w.heap.size < w2.heap.size; omega)).trans X3
           clear o3 b3 bs HMd)
        | (go_at_call 67
           refine (HMo.out _ ?_).mono ?_
           · (first | exact BS.out | exact Below.refl _ _ | exact (Below.refl _ _).drew | exact bdrewN (Below.refl _ _) _)
           rintro e w4 ⟨rfl, bm, b4⟩
           have BM := hid bm
           have B4 := hid b4
           have Z0 := (bm.cell (p := ⟨w.heap.size, 0, none⟩) (by show w.heap.size < w2.heap.size; omega)).trans X0
           have Z1 := (bm.cell (p := ⟨w.heap.size, 1, none⟩) (by show w.heap.size < w2.heap.size; omega)).trans X1
           have Z2 := (bm.cell (p := ⟨w.heap.size, 2, none⟩) (by show w.heap.size < w2.heap.size; omega)).trans X2
           have Z3 := (bm.cell (p := ⟨w.heap.size, 3, none⟩) (by show w.heap.size < w2.heap.size; omega)).trans X3
           clear bm b4 HMo))
      all_goals (try go_wp2)
      go_ret2
      refine ⟨v3, by rw [← HQ2.out]; rfl, ?_, B2.out.trans (BM.out.mono (by omega))⟩
      have hO := (O3.out.chg (Chg.ofBelow (lo := 0) B4.out) (.inr (.inr (Nat.zero_le _)))).lo (lo' := w.heap.size) (by omega)
      have hO2 := hO.hi B4.out.size (Nat.le_refl _)
      first | exact hO2 | exact fun _ _ => hO2
end Go.Proofs.YtbbnheiibkcgiabDoor.kn

/- Chart.stacksOf of the program; ValidChart and StacksOf. -/
namespace Go.Proofs.YtbbnheiibkcgiabDoor.kn
open Go.RowKit Go.Proofs.YtbbnheiibkcgiabDoor.sl Go.Proofs.YtbbnheiibkcgiabDoor.br Go.Proofs.YtbbnheiibkcgiabDoor.bw Go.Proofs.YtbbnheiibkcgiabDoor.st Go.Proofs.YtbbnheiibkcgiabDoor.cx Go.Proofs.YtbbnheiibkcgiabDoor.ro
set_option linter.unusedVariables false

theorem withinI4 (c lo hi : Int) (w : World) : Calls Tryd.prog 48 #[.int .i64 c, .int .i64 lo, .int .i64 hi] w fun e w' => e = .returned (.bool (decide (lo ≤ c ∧ c ≤ hi))) ∧ w = w' := by
  by_cases h1 : lo ≤ c <;> by_cases h2 : c ≤ hi <;>
    (go_enter Tryd.func48, Tryd.ntmps48
     go_wp2
     go_ret
     exact ⟨by simp [h1, h2], rfl⟩)
theorem rest_own {W : World} {lo hi : Nat} {v : Value} {xs : List Int} (o : sl.Own W lo hi v xs) : Rest W hi v xs := by
  refine ⟨o.ints, ?_⟩
  rcases o.1.2 with ⟨h1, h2⟩ | ⟨g, c, cur, h1, _, _, h2, h3, _⟩
  · exact ⟨none, 0, by rw [h1, h2], by omega, by omega⟩
  · exact ⟨_, c, h1, h2, by unfold maxLen at h3; omega⟩
theorem Rest.mono {W : World} {B B' : Nat} {v : Value} {xs : List Int} (h : Rest W B v xs) (hB : B ≤ B') : Rest W B' v xs := ⟨h.ints.mono hB, h.cap⟩
theorem Rest.below {W W' : World} {B : Nat} {v : Value} {xs : List Int} (h : Rest W B v xs) (b : Below W.heap.size W W') : Rest W' B v xs := ⟨h.ints.chg (Chg.ofBelow (lo := 0) b) (.inr (Nat.zero_le _)), h.cap⟩
/-- The last list of a slice of lists. -/
theorem sr_last {W : World} {lo : Nat} {v y : Value} {vals : List Value} {L : List (List Int)} {r : List Int} (h : wk.SR W lo v (vals ++ [y]) (L ++ [r])) : Rest W W.heap.size y r := by
  obtain ⟨Lo, Hi, he⟩ := h.els
  have hl := h.len
  simp at hl
  have := (he L.length (by simp)).1
  rw [show (vals ++ [y]).getD L.length (.bool false) = y from by simp [List.getD, ← hl], show (L ++ [r]).getD L.length [] = r from by simp [List.getD]] at this
  exact (rest_own this).mono this.2.2

theorem rep_one (k : Nat) : bn.rep k [1] = List.replicate k (1 : Int) := by
  induction k with
  | zero => rfl
  | succ k ih =>
    have e : bn.rep (k + 1) [1] = 1 :: bn.rep k [1] := by simp [bn.rep, List.replicate_succ]
    rw [e, ih, List.replicate_succ]

set_option maxRecDepth 100000 in
set_option maxHeartbeats 2000000 in
theorem implSO (c : Int) (xs : List V) (f : Value) (B : Nat) (w : World) (ha : Infs w B f xs) (hB : B ≤ w.heap.size) (hq : Small xs) (hT : stb.Tab w) :
    Calls Tryd.prog 35 #[.agg #[.int .i64 c, f]] w fun e w' => ∃ v', e = .returned (.tuple #[v', .bool (chB c xs)]) ∧ ss.ROwn w' w.heap.size w'.heap.size v' (chW c xs) ∧ Below w.heap.size w w' := by
  have hb0 := (Below.refl w.heap.size w).alloc (Nat.le_refl _) (.cells #[.int .i64 c, f] 28)
  have HT := hid hT
  have HA := hid (ha.below hb0)
  have HB0 := hid hb0
  have HSm := hid hq
  obtain ⟨ao, cap, hv⟩ := infs_val ha
  clear hT hb0 ha
  have hn0 := hq.len
  clear hq
  obtain ⟨b, hbb⟩ : ∃ b, b = chB c xs := ⟨_, rfl⟩
  rw [← hbb]
  have HBb := hid hbb
  have HNo : Hid (b = false → chW c xs = []) := hid (fun h => by rw [chW, ← hbb, h]; rfl)
  have HYes : Hid (b = true → chW c xs = chL c xs xs.length) := hid (fun h => by rw [chW, ← hbb, h]; rfl)
  clear hbb
  obtain ⟨n, hnn⟩ : ∃ n, n = xs.length := ⟨_, rfl⟩
  rw [← hnn] at hv hn0
  have HN := hid hnn
  clear hnn
  subst hv
  obtain ⟨p, hp⟩ : ∃ p, p = decide (1 ≤ c ∧ c ≤ 8) := ⟨_, rfl⟩
  have HP := hid hp
  have HC1 := hid (fun W => nd.within64 c 1 8 W)
  rw [← hp] at HC1
  clear hp
  obtain ⟨t, ht⟩ : ∃ t, t = decide ((1 : Int) ≤ (n : Int) ∧ (n : Int) ≤ 8) := ⟨_, rfl⟩
  have HT2 := hid ht
  have HC2 := hid (fun W => withinI4 (n : Int) 1 8 W)
  rw [← ht] at HC2
  clear ht
  cases p with
  | false =>
    have HR : Hid (b = false) := hid (by rw [HBb.out, chB, ← HP.out]; rfl)
    have HW := hid (HNo.out HR.out)
    clear HNo HYes HBb HC2 HT2
    go_enter Tryd.func35, Tryd.ntmps35
    go_wp2_with (go_at_call 21; refine (HC1.out _).mono ?_; rintro e w' ⟨rfl, rfl⟩)
    go_ret2
    exact ⟨.slice none 0 0, by rw [HR.out]; rfl, by rw [HW.out]; exact ss.ROwn.lo (ss.ROwn.nil _ _) (Nat.le_refl _), HB0.out⟩
  | true =>
    cases t with
    | false =>
      have HR : Hid (b = false) := hid (by rw [HBb.out, chB, ← HP.out]; have h2 := HT2.out; rw [HN.out] at h2; rw [show decide (1 ≤ xs.length ∧ xs.length ≤ 8) = false from by simp at h2 ⊢; omega]; rfl)
      have HW := hid (HNo.out HR.out)
      clear HNo HYes HBb HT2
      go_enter Tryd.func35, Tryd.ntmps35
      go_wp2_with (first | (go_at_call 21; refine (HC1.out _).mono ?_; rintro e w' ⟨rfl, rfl⟩) | (go_at_call 48; refine (HC2.out _).mono ?_; rintro e w' ⟨rfl, rfl⟩))
      go_ret2
      exact ⟨.slice none 0 0, by rw [HR.out]; rfl, by rw [HW.out]; exact ss.ROwn.lo (ss.ROwn.nil _ _) (Nat.le_refl _), HB0.out⟩
    | true =>
      have hc8 : 1 ≤ c ∧ c ≤ 8 := by have := HP.out; simpa using this.symm
      have hn8 : 1 ≤ n ∧ n ≤ 8 := by have := HT2.out; simp at this; omega
      have HOk : Hid (b = okTo c xs xs.length) := hid (by rw [HBb.out, chB, ← HP.out, show decide (1 ≤ xs.length ∧ xs.length ≤ 8) = true from by rw [← HN.out]; simpa using hn8]; rfl)
      clear HBb HP HT2
      obtain ⟨k, rfl⟩ : ∃ k : Nat, c = (k : Int) := ⟨c.toNat, by omega⟩
      have HO1 := hid (sl.Own.mk' (xs := [1]) (World.ownsRow_lit (w.alloc (.cells #[.int .i64 (k : Int), .slice ao n cap] 28)) #[.int .i64 1] 1 (Nat.le_refl _) (by unfold maxLen; omega) rfl))
      have HB1 : Hid (Below w.heap.size w ((w.alloc (.cells #[.int .i64 (k : Int), .slice ao n cap] 28)).alloc (.cells #[.int .i64 1] 2))) := hid (HB0.out.alloc HB0.out.size _)
      have hsz : (w.alloc (.cells #[.int .i64 (k : Int), .slice ao n cap] 28)).heap.size = w.heap.size + 1 := by simp
      have hI1 := HO1.out.ints
      rw [hsz] at hI1
      have HRp := hid (bn.repeatW [1] k _ _ _ hI1 (Nat.le_refl _) (by simp) (by omega))
      clear hI1 hsz
      have HRk : Hid (bn.rep k [1] = nowAt (k : Int) xs 0) := hid (by rw [nowAt, Int.toNat_natCast]; exact rep_one k)
      have q0 : ((w.alloc (.cells #[.int .i64 (k : Int), .slice ao n cap] 28)).alloc (.cells #[.int .i64 1] 2)).cell? ⟨w.heap.size, 1, none⟩ = some (.slice ao n cap) := two_old _ _ _ _ _
      obtain ⟨i0, hi, hz0, hz1, hz2⟩ := info_parts ss.infoS
      have HA1 := hid (HA.out.below ((Below.refl _ _).alloc (Nat.le_refl _) (.cells #[.int .i64 1] 2)))
      go_enter Tryd.func35, Tryd.ntmps35
      go_wp2_with (first | (go_at_call 21; refine (HC1.out _).mono ?_; rintro e w' ⟨rfl, rfl⟩) | (go_at_call 48; refine (HC2.out _).mono ?_; rintro e w' ⟨rfl, rfl⟩) | (go_at_call 49; refine HRp.out.mono ?_; rintro e w2 ⟨v2, rfl, o2, b2⟩; have O2 := hid (rest_own o2); have B2 := hid (HB1.out.trans (b2.mono HB1.out.size)); have HA2 := hid (HA1.out.below b2); have p1 := (b2.cell (p := ⟨w.heap.size, 1, none⟩) (by simp; omega)).trans q0; clear o2 b2 q0 HA HA1) | (at_make; refine wpList_make_own _ rfl _ _ 59 rfl w2.heap.size 48 i0 (.slice none 0 0) 1 Tryd.underlying59 hi hz0 hz1 .i64 .i64 _ n rfl rfl (by omega) (by rw [hz2]; omega) (by unfold maxLen; omega) (Nat.le_refl _) ?_; intro W3 hown3 hgrow3; have HS3 : Hid (wk.SR W3 w2.heap.size (.slice (some ⟨w2.heap.size, 0, none⟩) 0 n) [] []) := hid ⟨rfl, hown3, fun _ => 0, fun _ => 0, fun j hj => by simp at hj⟩; have HB3 : Hid (Below w2.heap.size w2 W3) := hid ⟨hgrow3.os, hgrow3.tape, hgrow3.output, hgrow3.size, fun q hq => hgrow3.block q hq (by simp)⟩; have p3 := (HB3.out.cell (p := ⟨w.heap.size, 1, none⟩) (by have := B2.out.size; show w.heap.size < _; have := World.block_lt_of_cell? w2 _ p1; exact this)).trans p1; have O3 := hid (O2.out.below HB3.out); clear hown3 hgrow3 p1))
      have hzw := B2.out.size
      have HR0 : Hid (Rest W3 W3.heap.size v2 (nowAt (k : Int) xs 0)) := hid (by rw [← HRk.out]; exact O3.out.mono HB3.out.size)
      clear HC1 HC2 HRp HRk O2 O3 HO1 HB0 HB1 p3 hi hz0 hz1 hz2
      go_loopw [4, 5, 32] (fun sv lv iv wr => ∃ (i : Nat) (s l : Value) (vals : List Value), i ≤ n ∧ sv = s ∧ lv = l ∧ iv = .int .i64 i ∧ okTo (k : Int) xs i = true ∧ Rest wr wr.heap.size s (nowAt (k : Int) xs i) ∧ wk.SR wr w2.heap.size l vals (chL (k : Int) xs i) ∧ Below w2.heap.size w2 wr) (fun _ _ iv _ => n - (intOf iv).toNat)
      case atStart => exact ⟨0, _, _, _, Nat.zero_le _, rfl, rfl, rfl, rfl, HR0.out, HS3.out, HB3.out⟩
      case round =>
        obtain ⟨i, s, l, vals, hin, rfl, rfl, rfl, hok, hrs, hsr, hbel⟩ := hrel
        have HBr := hid hbel
        have HSr := hid hsr
        have HOkI := hid hok
        have hzr := hbel.size
        have HLl := hid (chL_len (k : Int) xs i)
        clear hbel hsr HR0 HS3 HB3
        by_cases hlt : i < n
        · have hxi : i < xs.length := by rw [← HN.out]; exact hlt
          have hInf := HA2.out.below HBr.out
          rcases hInf with ⟨h0, _⟩ | ⟨hp, b6, off, cap6, F, hv6, hb6, hc6⟩
          · exfalso; rw [h0] at hxi; simp at hxi
          rw [← HN.out] at hv6
          simp only [Value.slice.injEq, true_and] at hv6
          obtain ⟨rfl, rfl⟩ := hv6
          obtain ⟨hAt, hPs⟩ := hc6 i hxi
          obtain ⟨ao5, cap5, hfv⟩ := ints_val hPs
          rw [hfv] at hAt hPs
          have z0 := hAt.c0
          have z1 := hAt.c1
          have z2 := hAt.c2
          have hnow := now_inv hc8 i hok
          have h8 := (stks_parts hnow.1).1
          have hshort := HSm.out.short i hxi
          have hno : rowOk (nowAt (k : Int) xs i) (xs.getD i iz) = false → okTo (k : Int) xs xs.length = false := fun h => ok_bad h hxi
          have HNoR := hid hno
          have HOkS := hid (okTo_succ (k : Int) xs i)
          obtain ⟨so, sc, hsv, hs1, hs2⟩ := hrs.cap
          subst hsv
          have hbb : Below wr.heap.size wr (wr.alloc (.cells #[.int .i64 (xs.getD i iz).a0, .int .i64 (xs.getD i iz).a1, .slice ao5 (xs.getD i iz).ps.length cap5] 50)) := (Below.refl _ _).alloc (Nat.le_refl _) _
          have hRow := implRowOn (xs.getD i iz).a0 (xs.getD i iz).a1 (nowAt (k : Int) xs i) (xs.getD i iz).ps (.slice ao5 (xs.getD i iz).ps.length cap5) (.slice so (nowAt (k : Int) xs i).length sc) wr.heap.size B _ (hrs.below hbb) hbb.size hnow.2 h8 (hPs.chg (Chg.ofBelow (lo := 0) hbb) (.inr (Nat.zero_le _))) (by have := hbb.size; omega) (by omega) (stb.carry HT.out ((B2.out.trans (HBr.out.mono (by omega))).trans (hbb.mono (by omega))))
          obtain ⟨t, ht⟩ : ∃ t, t = rowOk (nowAt (k : Int) xs i) (xs.getD i iz) := ⟨_, rfl⟩
          have hRow2 : Calls Tryd.prog 50 #[.agg #[.int .i64 (xs.getD i iz).a0, .int .i64 (xs.getD i iz).a1, .slice ao5 (xs.getD i iz).ps.length cap5, .slice so (nowAt (k : Int) xs i).length sc]] (wr.alloc (.cells #[.int .i64 (xs.getD i iz).a0, .int .i64 (xs.getD i iz).a1, .slice ao5 (xs.getD i iz).ps.length cap5] 50)) fun e w' => ∃ v', e = .returned (.tuple #[v', .bool t]) ∧ (t = true → sl.Own w' wr.heap.size w'.heap.size v' (nowAt (k : Int) xs (i + 1))) ∧ Below wr.heap.size wr w' := hRow.mono (by
            rintro e w' ⟨v', rfl, hown, hb'⟩
            refine ⟨v', by rw [ht]; rfl, fun h => ?_, hbb.trans (hb'.mono hbb.size)⟩
            rw [ht, rowOk, Bool.and_eq_true, Bool.and_eq_true, decide_eq_true_eq] at h
            exact (hown h.2.1 h.1).lo hbb.size)
          have HRow := hid hRow2
          rw [← ht] at HNoR HOkS
          have HLs := hid (chL_succ (k : Int) xs i)
          clear ht hRow hRow2 hbb hPs hfv hAt hc6 hnow hrs hno hok
          generalize (xs.getD i iz).ps.length = l5 at *
          generalize (xs.getD i iz).a0 = r0 at *
          generalize (xs.getD i iz).a1 = r1 at *
          generalize (nowAt (k : Int) xs i).length = sn at *
          cases t with
          | false =>
            have HR : Hid (b = false) := hid (by rw [HOk.out, HNoR.out rfl])
            have HW := hid (HNo.out HR.out)
            clear HNo HYes HNoR HOkS HOkI
            go_wp2_with fail
            refine HRow.out.mono ?_
            rintro e w5 ⟨v5, rfl, hown, b5⟩
            have B5 := hid b5
            clear hown b5
            go_wp2
            go_ret2
            exact ⟨.slice none 0 0, by rw [HR.out]; rfl, by rw [HW.out]; exact ss.ROwn.lo (ss.ROwn.nil _ _) (by omega), (B2.out.trans (HBr.out.mono (by omega))).trans (B5.out.mono (by omega))⟩
          | true =>
            have HOk1 : Hid (okTo (k : Int) xs (i + 1) = true) := hid (by rw [HOkS.out, HOkI.out]; rfl)
            clear HNoR HOkS HOkI
            go_wp2_with fail
            refine HRow.out.mono ?_
            rintro e w5 ⟨v5, rfl, hown, b5⟩
            have B5 := hid b5
            have hown1 := hown (by trivial)
            obtain ⟨ao9, cap9, hv9⟩ := own_val hown1
            have HO5 := hid hown1
            clear hown hown1 b5 HRow
            generalize (nowAt (k : Int) xs (i + 1)).length = l9 at *
            subst hv9
            go_wp2_with (at_builtin; refine wk.wp_appR rfl _ _ rfl w2.heap.size _ _ vals (chL (k : Int) xs i) (nowAt (k : Int) xs (i + 1)) HSr.out B5.out HO5.out rfl rfl rfl hzr (by rw [HLl.out]; omega) ?_; intro v7 w7 hs7 hb7 hg7 h57; have HS7 := hid hs7; have HB7 := hid hb7; clear hs7 hb7 hg7 h57)
            go_roundw
            case rel => exact ⟨i + 1, _, _, _, by omega, rfl, rfl, by go_num, HOk1.out, sr_last HS7.out, by rw [HLs.out]; exact HS7.out, (HBr.out.trans (B5.out.mono hzr)).trans HB7.out⟩
            case measure => simp [intOf]; omega
        · obtain rfl : i = n := by omega
          have HR : Hid (b = true) := hid (by rw [HOk.out, ← HN.out, HOkI.out])
          have HW := hid (HYes.out HR.out)
          clear HNo HYes HOkI
          go_wp2
          go_ret2
          have hR := (HSr.out.low (show w.heap.size ≤ w2.heap.size by omega)).rown
          rw [HN.out] at hR
          exact ⟨_, by rw [HR.out]; rfl, by rw [HW.out]; exact hR, B2.out.trans (HBr.out.mono (by omega))⟩
end Go.Proofs.YtbbnheiibkcgiabDoor.kn

/- ValidChart, StacksOf and ColumnsAfter of the program. -/
namespace Go.Proofs.YtbbnheiibkcgiabDoor.kn
open Go.RowKit Go.Proofs.YtbbnheiibkcgiabDoor.sl Go.Proofs.YtbbnheiibkcgiabDoor.br Go.Proofs.YtbbnheiibkcgiabDoor.bw Go.Proofs.YtbbnheiibkcgiabDoor.st Go.Proofs.YtbbnheiibkcgiabDoor.cx Go.Proofs.YtbbnheiibkcgiabDoor.ro
set_option linter.unusedVariables false

def chC (c : Int) (xs : List V) : Int := if chB c xs then 0 else 1
theorem chW_no {c : Int} {xs : List V} (h : chB c xs = false) : chW c xs = [] := by rw [chW, h]; rfl
theorem chW_len (c : Int) (xs : List V) : (chW c xs).length ≤ 8 := by
  cases h : chB c xs
  · rw [chW_no h]; simp
  · rw [chW, if_pos h, chL_len]
    simp only [chB, Bool.and_eq_true, decide_eq_true_eq] at h
    exact h.2.1.2

set_option maxRecDepth 20000 in
theorem implVC (c : Int) (xs : List V) (f : Value) (B : Nat) (w : World) (ha : Infs w B f xs) (hB : B ≤ w.heap.size) (hq : Small xs) (hT : stb.Tab w) :
    Calls Tryd.prog 20 #[.agg #[.int .i64 c, f]] w fun e w' => e = .returned (.bool (chB c xs)) ∧ Below w.heap.size w w' := by
  have hb0 := (Below.refl w.heap.size w).alloc (Nat.le_refl _) (.cells #[.int .i64 c, f] 28)
  have HS := hid (implSO c xs f B _ (ha.below hb0) (Nat.le_trans hB hb0.size) hq (stb.carry hT hb0))
  have HB0 := hid hb0
  obtain ⟨ao, cap, hv⟩ := infs_val ha
  clear ha hb0 hT
  generalize xs.length = n at *
  subst hv
  generalize chB c xs = b at *
  go_enter Tryd.func20, Tryd.ntmps20
  go_wp2_with fail
  refine HS.out.mono ?_
  rintro e w1 ⟨v1, rfl, _, b1⟩
  have B1 := hid (HB0.out.trans (b1.mono HB0.out.size))
  clear b1
  go_wp2
  go_ret
  exact ⟨rfl, B1.out⟩

set_option maxRecDepth 20000 in
theorem implStk (c : Int) (xs : List V) (f : Value) (B : Nat) (w : World) (ha : Infs w B f xs) (hB : B ≤ w.heap.size) (hq : Small xs) (hT : stb.Tab w) :
    Calls Tryd.prog 51 #[.agg #[.int .i64 c, f]] w fun e w' => ∃ v', e = .returned (.tuple #[v', .int .i64 (chC c xs)]) ∧ ss.ROwn w' w.heap.size w'.heap.size v' (chW c xs) ∧ Below w.heap.size w w' := by
  have hb0 := (Below.refl w.heap.size w).alloc (Nat.le_refl _) (.cells #[.int .i64 c, f] 28)
  have HS := hid (implSO c xs f B _ (ha.below hb0) (Nat.le_trans hB hb0.size) hq (stb.carry hT hb0))
  have HB0 := hid hb0
  obtain ⟨ao, cap, hv⟩ := infs_val ha
  clear ha hb0 hT
  generalize xs.length = n at *
  subst hv
  have HNo := hid (fun h => @chW_no c xs h)
  obtain ⟨k, hk⟩ : ∃ k, k = chC c xs := ⟨_, rfl⟩
  rw [← hk]
  have HK := hid hk
  clear hk
  obtain ⟨b, hb⟩ : ∃ b, b = chB c xs := ⟨_, rfl⟩
  rw [← hb] at HS HNo
  have HBb := hid hb
  clear hb
  cases b with
  | false =>
    have HKv : Hid (k = 1) := hid (by rw [HK.out, chC, ← HBb.out]; rfl)
    go_enter Tryd.func51, Tryd.ntmps51
    go_wp2_with fail
    refine HS.out.mono ?_
    rintro e w1 ⟨v1, rfl, _, b1⟩
    have B1 := hid (HB0.out.trans (b1.mono HB0.out.size))
    clear b1
    go_wp2
    go_ret2
    exact ⟨.slice none 0 0, by rw [HKv.out]; rfl, by rw [HNo.out (by trivial)]; exact ss.ROwn.nil _ _, B1.out⟩
  | true =>
    have HKv : Hid (k = 0) := hid (by rw [HK.out, chC, ← HBb.out]; rfl)
    clear HNo
    go_enter Tryd.func51, Tryd.ntmps51
    go_wp2_with fail
    refine HS.out.mono ?_
    rintro e w1 ⟨v1, rfl, o1, b1⟩
    have B1 := hid (HB0.out.trans (b1.mono HB0.out.size))
    have O1 := hid (o1.lo HB0.out.size)
    clear b1 o1
    go_wp2
    go_ret2
    exact ⟨v1, by rw [HKv.out]; rfl, O1.out, B1.out⟩
end Go.Proofs.YtbbnheiibkcgiabDoor.kn
