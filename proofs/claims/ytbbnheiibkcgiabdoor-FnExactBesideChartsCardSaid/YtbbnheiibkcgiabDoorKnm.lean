/-
  In one file: Kn0, Kn1, Kn2, Kn3.
-/
import Derived.Test.YtbbnheiibkcgiabDoorSt2
import Derived.Test.YtbbnheiibkcgiabDoorSr
import Derived.Test.YtbbnheiibkcgiabDoorSt0
import Derived.Test.YtbbnheiibkcgiabDoorWd
import Derived.Test.YtbbnheiibkcgiabDoorSt5
import Derived.Test.YtbbnheiibkcgiabDoorH1
/- What each stitch of a row does: a slice of pairs of lists that a call builds by append. -/
namespace Go.Proofs.YtbbnheiibkcgiabDoor.kn
open Go.RowKit Go.Proofs.YtbbnheiibkcgiabDoor.sl Go.Proofs.YtbbnheiibkcgiabDoor.br Go.Proofs.YtbbnheiibkcgiabDoor.st
set_option linter.unusedVariables false

structure Kn where
  tv : Value
  mv : Value
  ts : List Int
  ms : List Int
def flatK (L : List Kn) : List Value := L.flatMap fun k => [k.tv, k.mv]
theorem flatK_snoc (L : List Kn) (k : Kn) : flatK (L ++ [k]) = flatK L ++ [k.tv, k.mv] := by simp [flatK]
theorem flatK_len (L : List Kn) : (flatK L).length = L.length * 2 := by
  induction L with
  | nil => rfl
  | cons k L ih => simp only [flatK, List.flatMap_cons, List.length_append, List.length_cons, List.length_nil] at ih ⊢; omega
theorem flatK_at : ∀ (L : List Kn) (j : Nat) (k : Kn), L[j]? = some k → (flatK L)[j * 2]? = some k.tv ∧ (flatK L)[j * 2 + 1]? = some k.mv
  | [], j, k, h => by simp at h
  | x :: L, 0, k, h => by
    simp only [List.getElem?_cons_zero, Option.some.injEq] at h
    subst h
    exact ⟨rfl, rfl⟩
  | x :: L, j + 1, k, h => by
    have := flatK_at L j k (by simpa using h)
    rw [show (j + 1) * 2 = j * 2 + 1 + 1 from by omega]
    exact this

structure KR (W : World) (lo B : Nat) (v : Value) (L : List Kn) : Prop where
  bl : B ≤ lo
  row : W.ownsRow lo 108 2 v L.length (flatK L)
  ts : ∀ k ∈ L, Ints W B k.tv k.ts
  ms : ∀ k ∈ L, ∃ Lo Hi : Nat, sl.Own W Lo Hi k.mv k.ms ∧ lo ≤ Lo ∧ ∀ g, v.ownBlock = some g → g < Lo ∨ Hi ≤ g
theorem KR.below {W W' : World} {lo B : Nat} {v : Value} {L : List Kn} (h : KR W lo B v L) (b : Below W.heap.size W W') : KR W' lo B v L := by
  refine ⟨h.bl, World.ownsRow.kept h.row (wk.grN b) (by cases v.ownBlock <;> simp), fun k hk => (h.ts k hk).chg (Chg.ofBelow (lo := 0) b) (.inr (Nat.zero_le _)), fun k hk => ?_⟩
  obtain ⟨Lo, Hi, a1, a2, a3⟩ := h.ms k hk
  exact ⟨Lo, Hi, a1.chg (Chg.ofBelow (lo := 0) b) (.inr (.inr (Nat.zero_le _))), a2, a3⟩
theorem KR.val {W : World} {lo B : Nat} {v : Value} {L : List Kn} (h : KR W lo B v L) : ∃ ao cap, v = .slice ao L.length cap := by
  rcases h.row.2 with ⟨h1, h2⟩ | ⟨g, c, cur, h1, _⟩
  · exact ⟨none, 0, by rw [h1, h2]⟩
  · exact ⟨_, c, h1⟩
/-- One pair, read. -/
theorem KR.at {W : World} {lo B : Nat} {g n cap : Nat} {L : List Kn} (h : KR W lo B (.slice (some ⟨g, 0, none⟩) n cap) L) (j : Nat) (k : Kn) (hj : L[j]? = some k) :
    W.cell? ⟨g, j * 2, none⟩ = some k.tv ∧ W.cell? ⟨g, j * 2 + 1, none⟩ = some k.mv := by
  have hf := flatK_at L j k hj
  have h1 := h.row.cells (show (Value.slice (some ⟨g, 0, none⟩) n cap).ownBlock = some g from rfl) (j * 2) k.tv hf.1
  have h2 := h.row.cells (show (Value.slice (some ⟨g, 0, none⟩) n cap).ownBlock = some g from rfl) (j * 2 + 1) k.mv hf.2
  rw [Addr.add_lit] at h1 h2
  exact ⟨by simpa using h1, by simpa using h2⟩
theorem KR.addr {W : World} {lo B : Nat} {v : Value} {L : List Kn} (h : KR W lo B v L) (hp : 0 < L.length) : ∃ g cap, v = .slice (some ⟨g, 0, none⟩) L.length cap ∧ g < W.heap.size := by
  rcases h.row.2 with ⟨h1, h2⟩ | ⟨g, c, cur, h1, _⟩
  · omega
  · exact ⟨g, c, h1, (h.row.lt g (by rw [h1]; rfl)).2⟩
theorem KR.made {W : World} {lo B : Nat} {v : Value} (h : W.ownsRow lo 108 2 v 0 []) (hB : B ≤ lo) : KR W lo B v [] :=
  ⟨hB, h, fun k hk => by simp at hk, fun k hk => by simp at hk⟩

theorem infoK : (Tryd.prog.info? 108).map (fun i => (i.zero, i.size, i.bytes)) = some (some (.agg #[.slice none 0 0, .slice none 0 0]), 2, 48) := by kernel_rfl

/-- append(row, pair). -/
theorem wp_appK {ops : Array Oper} {rest : List Oper} {o : Oper} {a : Act} {Q : Exit → Act → World → Prop} {W1 : World} (hgd : o.guard = none) (s x : Operand)
    (hop : o.op = .call { callee := .builtin .append, args := #[s, x], argTypes := #[96, 96] })
    (lo B : Nat) (v : Value) (L : List Kn) (k : Kn) (h : KR W1 lo B v L) (ht : Ints W1 B k.tv k.ts) (Lo Hi : Nat) (hm : sl.Own W1 Lo Hi k.mv k.ms) (hlo : lo ≤ Lo) (hv : ∀ g, v.ownBlock = some g → g < Lo ∨ Hi ≤ g)
    (hy1 : k.tv.oneCell' = true) (hy2 : k.mv.oneCell' = true) (hs : a.eval s = v) (hx : a.eval x = .slice (some ⟨W1.heap.size, 0, none⟩) 1 1) (hl1 : lo ≤ W1.heap.size) (hn : L.length ≤ 1048576)
    (hK : ∀ v' w', KR w' lo B v' (L ++ [k]) → Below lo W1 w' → wpList Tryd.prog ops Q rest (a.put o.dst v') w') : wpList Tryd.prog ops Q (o :: rest) a (W1.alloc (.cells #[k.tv, k.mv] 108)) := by
  obtain ⟨i0, hi', hz0, hz1, hz2⟩ := info_parts infoK
  have b2 : Below W1.heap.size W1 (W1.alloc (.cells #[k.tv, k.mv] 108)) := (Below.refl _ _).alloc (Nat.le_refl _) _
  have h2 := h.below b2
  obtain ⟨v', w', hr, e2, e3, e4, e5⟩ := run_append_own_at (P := Tryd.prog) (W1.alloc (.cells #[k.tv, k.mv] 108)) lo 96 o.type 108 i0 (.agg #[.slice none 0 0, .slice none 0 0]) 2 48 Tryd.underlying96 hi' hz0 hz1 hz2 rfl (by decide) v L.length (flatK L) h2.row ⟨W1.heap.size, 0, none⟩ 1 1 [k.tv, k.mv] (by simp)
    (fun j u hj => by
      match j, hj with
      | 0, hj =>
        simp only [List.getElem?_cons_zero, Option.some.injEq] at hj
        subst hj
        rw [Addr.add_lit, World.cell?_alloc_at _ _ _ _ rfl]; rfl
      | 1, hj =>
        simp only [List.getElem?_cons_succ, List.getElem?_cons_zero, Option.some.injEq] at hj
        subst hj
        rw [Addr.add_lit, World.cell?_alloc_at _ _ _ _ rfl]; rfl)
    (fun u hu => by
      simp at hu
      rcases hu with e | e
      · rw [e]; exact hy1
      · rw [e]; exact hy2) (by unfold maxLen; omega) (by omega) (by simp; omega)
  have hlt : ∀ g, v.ownBlock = some g → lo ≤ g ∧ g < W1.heap.size := fun g hg => h.row.lt g hg
  have hblk : ∀ q, q < W1.heap.size → some q ≠ v.ownBlock → w'.heap[q]? = W1.heap[q]? := fun q hq hne => (e3.block q (Nat.lt_of_lt_of_le hq b2.size) hne).trans (b2.block q hq)
  have hints : ∀ (u : Value) (xs : List Int), Ints W1 B u xs → Ints w' B u xs := fun u xs hi => by
    have hsz := e3.size
    refine hi.chg (lo := lo) (hi := W1.heap.size) ⟨e3.os.trans b2.os, e3.tape.trans b2.tape, e3.output.trans b2.output, Nat.le_trans b2.size hsz, fun q hq hne => hblk q hq (fun e => hne (hlt q e.symm))⟩ (.inl h.bl)
  have hown : ∀ (u : Value) (xs : List Int) (l r : Nat), sl.Own W1 l r u xs → (∀ g, v.ownBlock = some g → g < l ∨ r ≤ g) → sl.Own w' l r u xs := fun u xs l r ho hg =>
    wk.own_by (ho.chg (Chg.ofBelow (lo := 0) b2) (.inr (.inr (Nat.zero_le _)))) e3 hg
  have hnew : ∀ (l r : Nat), r ≤ W1.heap.size → (∀ g, v.ownBlock = some g → g < l ∨ r ≤ g) → ∀ g, v'.ownBlock = some g → g < l ∨ r ≤ g := fun l r hr hg g e => by
    rcases e5 with e5 | e5
    · exact hg g (by rw [← e5]; exact e)
    · rw [e5] at e
      simp only [Option.some.injEq] at e
      have := b2.size
      omega
  refine wpList_plain hgd fun K hKK => ?_
  unfold Oper.wp execOp
  simp only [hop, resolve, invoke, builtin, Sem.run_bind, Sem.run_pure, Result.andThen_ok, List.map_toArray, List.map_cons, List.map_nil, hs, hx, hr]
  refine hKK _ _ (hK v' w' ⟨h.bl, by rw [flatK_snoc, List.length_append]; exact e2, fun q hq => ?_, fun q hq => ?_⟩ ⟨e3.os.trans b2.os, e3.tape.trans b2.tape, e3.output.trans b2.output, Nat.le_trans b2.size e3.size, fun q hq => ?_⟩)
  · rcases List.mem_append.1 hq with hq | hq
    · exact hints _ _ (h.ts q hq)
    · simp at hq; subst hq; exact hints _ _ ht
  · rcases List.mem_append.1 hq with hq | hq
    · obtain ⟨l, r, a1, a2, a3⟩ := h.ms q hq
      exact ⟨l, r, hown _ _ _ _ a1 a3, a2, hnew l r a1.2.2 a3⟩
    · simp at hq
      subst hq
      exact ⟨Lo, Hi, hown _ _ _ _ hm hv, hlo, hnew Lo Hi hm.2.2 hv⟩
  · exact hblk q (by omega) (fun e => by have := (hlt q e.symm).1; omega)

/-- The pairs of the first i stitches. -/
structure KL (ss ks : List Int) (i : Nat) (L : List Kn) : Prop where
  len : L.length = i
  at_ : ∀ j k, L[j]? = some k → k.ts = tkn ss ks j ∧ k.ms = mdn ss ks j
theorem KL.zero (ss ks : List Int) : KL ss ks 0 [] := ⟨rfl, fun j k h => by simp at h⟩
theorem KL.succ {ss ks : List Int} {i : Nat} {L : List Kn} (h : KL ss ks i L) (tv mv : Value) : KL ss ks (i + 1) (L ++ [⟨tv, mv, tkn ss ks i, mdn ss ks i⟩]) := by
  refine ⟨by simp [h.len], fun j k hj => ?_⟩
  by_cases hl : j < L.length
  · rw [List.getElem?_append_left hl] at hj
    exact h.at_ j k hj
  · rw [List.getElem?_append_right (by omega)] at hj
    have : j - L.length = 0 := by
      rcases Nat.eq_zero_or_pos (j - L.length) with e | e
      · exact e
      · rw [List.getElem?_eq_none (by simp; omega)] at hj; cases hj
    rw [this] at hj
    simp only [List.getElem?_cons_zero, Option.some.injEq] at hj
    subst hj
    rw [show j = i from by have := h.len; omega]
    exact ⟨rfl, rfl⟩
end Go.Proofs.YtbbnheiibkcgiabDoor.kn

/- stacksMade: the stacks of all columns that a row makes. -/
namespace Go.Proofs.YtbbnheiibkcgiabDoor.kn
open Go.RowKit Go.Proofs.YtbbnheiibkcgiabDoor.sl Go.Proofs.YtbbnheiibkcgiabDoor.br Go.Proofs.YtbbnheiibkcgiabDoor.st Go.Proofs.YtbbnheiibkcgiabDoor.fn
set_option linter.unusedVariables false

/-- The lists of the first i pairs, one behind the other. -/
def catTo (L : List Kn) (i : Nat) : List Int := (L.take i).flatMap Kn.ms
theorem catTo_zero (L : List Kn) : catTo L 0 = [] := rfl
theorem catTo_succ (L : List Kn) (i : Nat) (k : Kn) (h : L[i]? = some k) : catTo L (i + 1) = catTo L i ++ k.ms := by
  have hl : i < L.length := (List.getElem?_eq_some_iff.1 h).1
  rw [catTo, catTo, List.take_add_one, h]
  simp
theorem catTo_aft {ss ks : List Int} {n : Nat} {L : List Kn} (h : KL ss ks n L) : ∀ i, i ≤ n → catTo L i = aftTo ss ks i
  | 0, _ => rfl
  | i + 1, hi => by
    have hl : i < L.length := by rw [h.len]; omega
    have e : L[i]? = some L[i] := List.getElem?_eq_getElem hl
    rw [catTo_succ L i _ e, aftTo_succ, catTo_aft h i (by omega), (h.at_ i _ e).2]

set_option maxRecDepth 20000 in
set_option maxHeartbeats 1000000 in
theorem implMade (L : List Kn) (v : Value) (lo B : Nat) (w : World) (h : KR w lo B v L) (hn : L.length ≤ 16) (hm : ∀ k ∈ L, k.ms.length ≤ 8) (hone : ∀ k ∈ L, ∃ a n c b m d, k.tv = .slice a n c ∧ k.mv = .slice b m d) :
    Calls Tryd.prog 66 #[v] w fun e w' => ∃ v', e = .returned v' ∧ sl.Own w' w.heap.size w'.heap.size v' (catTo L L.length) ∧ Below w.heap.size w w' := by
  obtain ⟨ao, cap, hv⟩ := h.val
  by_cases h0 : L.length = 0
  · have HF : Hid (catTo L L.length = []) := hid (by rw [h0]; rfl)
    rw [h0] at hv
    subst hv
    have HO := hid ((Own.built w #[] rfl))
    clear h hm hone
    go_enter Tryd.func66, Tryd.ntmps66
    go_wp2
    refine wp_loop_rounds 1 ?_
    rw [rounds_succ]
    go_wp2
    go_ret
    exact ⟨_, rfl, by rw [HF.out]; exact HO.out, (Below.refl _ _).alloc (Nat.le_refl _) _⟩
  · obtain ⟨g, c, hv2, hg⟩ := h.addr (by omega)
    subst hv2
    clear hv
    have HH := hid h
    have HM := hid hm
    have HOn := hid hone
    have HT := hid (fun i => show (catTo L i).length ≤ 8 * i from by
      induction i with
      | zero => simp [catTo]
      | succ i ih =>
        cases e : L[i]? with
        | none =>
          have hl : L.length ≤ i := by simpa using e
          have : catTo L (i + 1) = catTo L i := by rw [catTo, catTo, List.take_of_length_le (by omega), List.take_of_length_le hl]
          rw [this]; omega
        | some k =>
          rw [catTo_succ L i k e, List.length_append]
          have := hm k (List.mem_of_getElem? e)
          omega)
    clear h hm hone
    obtain ⟨n, hnn⟩ : ∃ n, n = L.length := ⟨_, rfl⟩
    rw [← hnn] at hn HH h0 ⊢
    have HN := hid hnn
    clear hnn
    have HO0 : Hid (Own (w.alloc (.cells #[] 2)) w.heap.size (w.alloc (.cells #[] 2)).heap.size (.slice (some ⟨w.heap.size, 0, none⟩) 0 0) (catTo L 0)) := hid (Own.built w #[] rfl)
    have HB0 := hid ((Below.refl w.heap.size w).alloc (Nat.le_refl _) (.cells #[] 2))
    go_enter Tryd.func66, Tryd.ntmps66
    go_wp2
    go_loopw [3, 9] (fun u i wr => ∃ k : Nat, k ≤ n ∧ i = .int .i64 k ∧ sl.Own wr w.heap.size wr.heap.size u (catTo L k) ∧ Below w.heap.size w wr) (fun _ i _ => n - (intOf i).toNat)
    case atStart => exact ⟨0, Nat.zero_le _, rfl, HO0.out, HB0.out⟩
    case round =>
      obtain ⟨k, hk, rfl, hown, hbel⟩ := hrel
      have HO := hid hown
      have HB := hid hbel
      clear hown hbel HO0 HB0
      by_cases hlt : k < n
      · obtain ⟨x, hx⟩ : ∃ x, L[k]? = some x := ⟨L[k]'(by rw [← HN.out]; exact hlt), List.getElem?_eq_getElem _⟩
        have hmem := List.mem_of_getElem? hx
        obtain ⟨a1, n1, c1, a2, n2, c2, ht, hmv⟩ := HOn.out x hmem
        obtain ⟨Lo, Hi, o1, o2, o3⟩ := HH.out.ms x hmem
        have hcell := HH.out.at k x hx
        have hS := hid (catTo_succ L k x hx)
        have hlen := HM.out x hmem
        have hTk := HT.out k
        rw [ht, hmv] at hcell
        rw [hmv] at o1
        have HI := hid (o1.ints.chg (Chg.ofBelow (lo := 0) HB.out) (.inr (Nat.zero_le _)))
        have HNil := hid (nilok_own o1)
        have d0 := (HB.out.cell (p := ⟨g, k * 2, none⟩) (by show g < _; omega)).trans hcell.1
        have d1 := (HB.out.cell (p := ⟨g, k * 2 + 1, none⟩) (by show g < _; omega)).trans hcell.2
        generalize x.ms = ys at *
        clear hcell hmem hx ht hmv o1 o2 o3
        have HIa := hid (fun o => ints_al HI.out o)
        have HOa := hid (HO.out.chg (Chg.ofBelow (lo := 0) ((Below.refl wr.heap.size wr).alloc (Nat.le_refl _) (.cells #[.slice a1 n1 c1, .slice a2 n2 c2] 108))) (.inr (.inr (Nat.zero_le _))))
        have HBa := hid (HB.out.alloc HB.out.size (.cells #[.slice a1 n1 c1, .slice a2 n2 c2] 108))
        have hzr := HB.out.size
        go_wp2_with (at_builtin; refine wp_appendAll rfl _ _ rfl w.heap.size _ _ (catTo L k) HOa.out rfl (.slice a2 n2 c2) ys _ (HIa.out _) HNil.out rfl (by simp; omega) (by have := HT.out k; omega) ?_; intro v' w3 o3 c3; have HO3 := hid o3; have HB3 := hid (HBa.out.trans (c3.below (Nat.le_refl _) (by simp; omega))); clear o3 c3)
        go_roundw
        case rel => exact ⟨k + 1, by omega, by go_num, by rw [hS.out]; exact HO3.out, HB3.out⟩
        case measure => simp [intOf]; omega
      · obtain rfl : k = n := by omega
        go_wp2
        go_ret
        exact ⟨_, rfl, HO.out, HB.out⟩
end Go.Proofs.YtbbnheiibkcgiabDoor.kn

/- knittedOn: what each stitch of a row does. -/
namespace Go.Proofs.YtbbnheiibkcgiabDoor.kn
open Go.RowKit Go.Proofs.YtbbnheiibkcgiabDoor.sl Go.Proofs.YtbbnheiibkcgiabDoor.st
set_option linter.unusedVariables false

theorem sa1 {ss ks : List Int} (h : stks ss = false) : saC ss ks = 1 := by simp [saC, h]
theorem sa2 {ss ks : List Int} (h : lst ks = false) : saC ss ks = 1 := by simp [saC, h]
theorem sa3 {ss ks : List Int} (h1 : stks ss = true) (h2 : lst ks = true) (h3 : tkS ks ≠ (ss.length : Int)) : saC ss ks = 10 := by simp [saC, h1, h2, h3]
theorem sa4 {ss ks : List Int} (h1 : stks ss = true) (h2 : lst ks = true) (h3 : tkS ks = (ss.length : Int)) (h4 : 8 < mdS ks) : saC ss ks = 5 := by simp [saC, h1, h2, h3, h4]
theorem sa5 {ss ks : List Int} (h1 : stks ss = true) (h2 : lst ks = true) (h3 : tkS ks = (ss.length : Int)) (h4 : ¬ 8 < mdS ks) (h5 : badTo ss ks ks.length = true) : saC ss ks = 5 := by simp [saC, h1, h2, h3, h4, h5]
theorem sa6 {ss ks : List Int} (h1 : stks ss = true) (h2 : lst ks = true) (h3 : tkS ks = (ss.length : Int)) (h4 : ¬ 8 < mdS ks) (h5 : badTo ss ks ks.length = false) : saC ss ks = 0 := by simp [saC, h1, h2, h3, h4, h5]

/-- What knittedOn returns beside its code. -/
def KP (ss ks : List Int) (B lo : Nat) (w' : World) (v : Value) : Prop :=
  (saC ss ks ≠ 0 ∧ v = .slice none 0 0) ∨ (saC ss ks = 0 ∧ ∃ L, KR w' lo B v L ∧ KL ss ks ks.length L ∧ ∀ k ∈ L, ∃ a n c b m d, k.tv = .slice a n c ∧ k.mv = .slice b m d)
theorem kp_err {ss ks : List Int} {B lo : Nat} {w' : World} {c : Int} (h : saC ss ks = c) (hc : c ≠ 0) : KP ss ks B lo w' (.slice none 0 0) := .inl ⟨by rw [h]; exact hc, rfl⟩

/-- The rest of the stacks, and its value. -/
structure Rest (W : World) (B : Nat) (s : Value) (xs : List Int) : Prop where
  ints : Ints W B s xs
  cap : ∃ ao c, s = .slice ao xs.length c ∧ xs.length ≤ c ∧ c ≤ 9223372036854775807

theorem ints_cut {w : World} {B : Nat} {ao : Option Addr} {n c : Nat} {xs : List Int} (h : Ints w B (.slice ao n c) xs) (t : Nat) (ht : t ≤ xs.length) : Ints w B (.slice ao t c) (xs.take t) := by
  by_cases h0 : t = 0
  · subst h0; exact .inl ⟨by simp, ao, c, rfl⟩
  · rcases h with ⟨rfl, _⟩ | ⟨hp, b, off, cap, hv, hb, hc⟩
    · simp at ht; omega
    · simp only [Value.slice.injEq] at hv
      obtain ⟨rfl, hl, rfl⟩ := hv
      have hlt : (xs.take t).length = t := by rw [List.length_take]; omega
      refine .inr ⟨by omega, b, off, c, by rw [hlt], hb, fun j hj => ?_⟩
      rw [hlt] at hj
      rw [hc j (by omega)]
      simp [List.getD, hj]
theorem ints_rest {w : World} {B : Nat} {ao ao' : Option Addr} {n n' c c' : Nat} {xs : List Int} (h : Ints w B (.slice ao n c) xs) (t : Nat) (hn : n' = xs.length - t) (ha : n' ≠ 0 → ∀ b o, ao = some ⟨b, o, none⟩ → ao' = some ⟨b, o + t, none⟩) : Ints w B (.slice ao' n' c') (xs.drop t) := by
  by_cases h0 : n' = 0
  · subst h0; exact .inl ⟨List.drop_eq_nil_of_le (by omega), ao', c', rfl⟩
  · rcases h with ⟨rfl, _⟩ | ⟨hp, b, off, cap, hv, hb, hc⟩
    · simp at hn; omega
    · simp only [Value.slice.injEq] at hv
      obtain ⟨rfl, hl, rfl⟩ := hv
      have hlt : (xs.drop t).length = n' := by rw [List.length_drop, hn]
      refine .inr ⟨by omega, b, off + t, c', by rw [hlt, ha h0 b off rfl], hb, fun j hj => ?_⟩
      rw [hlt] at hj
      rw [Nat.add_assoc, hc (t + j) (by omega)]
      simp [List.getD, List.getElem?_drop]

set_option maxRecDepth 100000 in
set_option maxHeartbeats 4000000 in
theorem implKnit (ss ks : List Int) (v u : Value) (B C : Nat) (w : World) (ha : Ints w B v ss) (hB : B ≤ w.heap.size) (hn : ss.length ≤ 1099511627776) (hcap : Rest w B v ss)
    (hb : Ints w C u ks) (hC : C ≤ w.heap.size) (hm : ks.length ≤ 1099511627776) (hT : stb.Tab w) :
    Calls Tryd.prog 64 #[v, u] w fun e w' => ∃ v', e = .returned (.tuple #[v', .int .i64 (saC ss ks)]) ∧ KP ss ks B w.heap.size w' v' ∧ Below w.heap.size w w' := by
  have HA := hid ha
  have HBi := hid hb
  have HCs := hid (fun W (h : Ints W B v ss) (hb : B ≤ W.heap.size) => implCols ss v B W h hb hn)
  have HSs := hid (fun W (h : Ints W C u ks) (hb : C ≤ W.heap.size) => implSts ks u C W h hb hm)
  have HTk := hid (fun W (h : Ints W C u ks) (hb : C ≤ W.heap.size) (t : stb.Tab W) => implTakenBy ks u C W h hb hm t)
  have HMd := hid (fun W (h : Ints W C u ks) (hb : C ≤ W.heap.size) (t : stb.Tab W) => implMadeBy ks u C W h hb hm t)
  have HRest := hid hcap
  have HTb := hid hT
  obtain ⟨ao, cap, hv⟩ := br.ints_val ha
  obtain ⟨bo, cbp, hu⟩ := br.ints_val hb
  clear ha hcap hT
  cases h1 : stks ss
  · have HE := hid (sa1 (ks := ks) h1)
    rw [h1] at HCs
    clear h1 hb HSs HTk HMd
    generalize ss.length = n at *
    generalize ks.length = m at *
    subst hv hu
    go_enter Tryd.func64, Tryd.ntmps64
    go_wp2_with fail
    refine (HCs.out _ HA.out hB).mono ?_
    rintro e w1 ⟨rfl, b1⟩
    have B1 := hid b1
    clear b1
    go_wp2
    go_ret2
    exact ⟨_, by rw [HE.out]; rfl, kp_err HE.out (by decide), B1.out⟩
  cases h2 : lst ks
  · have HE := hid (sa2 (ss := ss) h2)
    rw [h1] at HCs
    rw [h2] at HSs
    clear h1 h2 hb HTk HMd
    generalize ss.length = n at *
    generalize ks.length = m at *
    subst hv hu
    go_enter Tryd.func64, Tryd.ntmps64
    go_wp2_with fail
    refine (HCs.out _ HA.out hB).mono ?_
    rintro e w1 ⟨rfl, b1⟩
    have B1 := hid b1
    have HBi1 := hid (HBi.out.chg (Chg.ofBelow (lo := 0) b1) (.inr (Nat.zero_le _)))
    have hz1 := b1.size
    clear b1
    go_wp2_with fail
    refine (HSs.out _ HBi1.out (by omega)).mono ?_
    rintro e w2 ⟨rfl, b2⟩
    have B2 := hid (B1.out.trans (b2.mono hz1))
    clear b2
    go_wp2
    go_ret2
    exact ⟨_, by rw [HE.out]; rfl, kp_err HE.out (by decide), B2.out⟩
  by_cases h3 : tkS ks = (ss.length : Int)
  rotate_left
  · have HE := hid (sa3 h1 h2 h3)
    rw [h1] at HCs
    rw [h2] at HSs
    have e3 : (tkS ks == (ss.length : Int)) = false := by simpa using h3
    have e3' : (tkS ks != (ss.length : Int)) = true := by simpa using h3
    clear h1 h2 h3 hb HMd
    generalize tkS ks = z at *
    generalize ss.length = n at *
    generalize ks.length = m at *
    subst hv hu
    go_enter Tryd.func64, Tryd.ntmps64
    go_wp2_with fail
    refine (HCs.out _ HA.out hB).mono ?_
    rintro e w1 ⟨rfl, b1⟩
    have B1 := hid b1
    have HBi1 := hid (HBi.out.chg (Chg.ofBelow (lo := 0) b1) (.inr (Nat.zero_le _)))
    have hz1 := b1.size
    clear b1
    go_wp2_with fail
    refine (HSs.out _ HBi1.out (by omega)).mono ?_
    rintro e w2 ⟨rfl, b2⟩
    have B2 := hid (B1.out.trans (b2.mono hz1))
    have HBi2 := hid (HBi1.out.chg (Chg.ofBelow (lo := 0) b2) (.inr (Nat.zero_le _)))
    have hz2 := b2.size
    clear b2
    go_wp2_with fail
    refine (HTk.out _ HBi2.out (by omega) (stb.carry HTb.out B2.out)).mono ?_
    rintro e w3 ⟨rfl, b3⟩
    have B3 := hid (B2.out.trans (b3.mono (by omega)))
    clear b3
    go_wp2
    go_ret2
    exact ⟨_, by rw [HE.out]; rfl, kp_err HE.out (by decide), B3.out⟩
  have e3 : (tkS ks == (ss.length : Int)) = true := by simpa using h3
  have e3' : (tkS ks != (ss.length : Int)) = false := by simpa using h3
  by_cases h4 : 8 < mdS ks
  · have HE := hid (sa4 h1 h2 h3 h4)
    rw [h1] at HCs
    rw [h2] at HSs
    have e4 : decide ((8 : Int) < mdS ks) = true := by simpa using h4
    clear h1 h2 h3 h4 hb
    generalize tkS ks = z at *
    generalize mdS ks = y at *
    generalize ss.length = n at *
    generalize ks.length = m at *
    subst hv hu
    go_enter Tryd.func64, Tryd.ntmps64
    go_wp2_with fail
    refine (HCs.out _ HA.out hB).mono ?_
    rintro e w1 ⟨rfl, b1⟩
    have B1 := hid b1
    have HBi1 := hid (HBi.out.chg (Chg.ofBelow (lo := 0) b1) (.inr (Nat.zero_le _)))
    have hz1 := b1.size
    clear b1
    go_wp2_with fail
    refine (HSs.out _ HBi1.out (by omega)).mono ?_
    rintro e w2 ⟨rfl, b2⟩
    have B2 := hid (B1.out.trans (b2.mono hz1))
    have HBi2 := hid (HBi1.out.chg (Chg.ofBelow (lo := 0) b2) (.inr (Nat.zero_le _)))
    have hz2 := b2.size
    clear b2
    go_wp2_with fail
    refine (HTk.out _ HBi2.out (by omega) (stb.carry HTb.out B2.out)).mono ?_
    rintro e w3 ⟨rfl, b3⟩
    have B3 := hid (B2.out.trans (b3.mono (by omega)))
    have HBi3 := hid (HBi2.out.chg (Chg.ofBelow (lo := 0) b3) (.inr (Nat.zero_le _)))
    have hz3 := b3.size
    clear b3
    go_wp2_with fail
    refine (HMd.out _ HBi3.out (by omega) (stb.carry HTb.out B3.out)).mono ?_
    rintro e w4 ⟨rfl, b4⟩
    have B4 := hid (B3.out.trans (b4.mono (by omega)))
    clear b4
    go_wp2
    go_ret2
    exact ⟨_, by rw [HE.out]; rfl, kp_err HE.out (by decide), B4.out⟩
  have e4 : decide ((8 : Int) < mdS ks) = false := by simpa using h4
  have hkn := (lst_parts h2).2
  have hk16 := (lst_parts h2).1
  have hst := stks_parts h1
  have htot : bw.sumL (ks.map tk) = (ss.length : Int) := by rw [← h3, tkS, h2]; rfl
  have HKl := hid (fun k (h : k < ks.length) => off_succ hkn k h)
  have HTl := hid (fun k (h : k < ks.length) => tkn_len (ss := ss) hkn htot k h)
  have HTa := hid (fun k (h : k < ks.length) => tkn_at (ss := ss) hkn htot k h)
  have HOl := hid (fun k (h : k ≤ ks.length) => off_le (ss := ss) hkn htot k h)
  have HKn := hid hkn
  have HSt := hid hst
  have HE5 := hid (fun h => sa5 h1 h2 h3 h4 h)
  have HE6 := hid (fun h => sa6 h1 h2 h3 h4 h)
  rw [h1] at HCs
  rw [h2] at HSs
  obtain ⟨i0, hi, hz0, hz1, hz2⟩ := info_parts infoK
  clear h1 h2 h3 h4 hkn hst htot
  rcases hb with ⟨hks, bo2, cb2, hu2⟩ | ⟨hp, b, offb, cb2, hu2, hbb, hc⟩
  · subst hks
    clear hu
    have HF := hid (HE6.out rfl)
    clear HKl HTl HTa HOl HKn HSt HE5 HE6
    generalize tkS [] = z at *
    generalize mdS [] = y at *
    generalize ss.length = n at *
    subst hv hu2
    go_enter Tryd.func64, Tryd.ntmps64
    go_wp2_with fail
    refine (HCs.out _ HA.out hB).mono ?_
    rintro e w1 ⟨rfl, b1⟩
    have B1 := hid b1
    have HBi1 := hid (HBi.out.chg (Chg.ofBelow (lo := 0) b1) (.inr (Nat.zero_le _)))
    have hz1' := b1.size
    clear b1
    go_wp2_with fail
    refine (HSs.out _ HBi1.out (by omega)).mono ?_
    rintro e w2 ⟨rfl, b2⟩
    have B2 := hid (B1.out.trans (b2.mono hz1'))
    have HBi2 := hid (HBi1.out.chg (Chg.ofBelow (lo := 0) b2) (.inr (Nat.zero_le _)))
    have hz2' := b2.size
    clear b2
    go_wp2_with fail
    refine (HTk.out _ HBi2.out (by omega) (stb.carry HTb.out B2.out)).mono ?_
    rintro e w3 ⟨rfl, b3⟩
    have B3 := hid (B2.out.trans (b3.mono (by omega)))
    have HBi3 := hid (HBi2.out.chg (Chg.ofBelow (lo := 0) b3) (.inr (Nat.zero_le _)))
    have hz3' := b3.size
    clear b3
    go_wp2_with fail
    refine (HMd.out _ HBi3.out (by omega) (stb.carry HTb.out B3.out)).mono ?_
    rintro e w4 ⟨rfl, b4⟩
    have B4 := hid (B3.out.trans (b4.mono (by omega)))
    have hz4' := b4.size
    clear b4
    go_wp2_with (at_make; refine wpList_make_own _ rfl _ _ 96 rfl w.heap.size 108 i0 (.agg #[.slice none 0 0, .slice none 0 0]) 2 Tryd.underlying96 hi hz0 hz1 .i64 .i64 _ 0 rfl rfl (by first | rfl | simp) (by rw [hz2]; omega) (by unfold maxLen; omega) (by omega) ?_; intro w5 hown5 hgrow5; have HO5 := hid hown5; have B5 := hid (B4.out.grown hgrow5 (by omega) (fun k hk => by cases hk)); clear hown5 hgrow5)
    refine wp_loop_rounds 1 ?_
    rw [rounds_succ]
    go_wp2
    go_ret2
    exact ⟨_, by rw [HF.out]; rfl, .inr ⟨HF.out, [], KR.made HO5.out hB, KL.zero _ _, fun k hk => by simp at hk⟩, B5.out⟩
  have HCk := hid hc
  clear hu hc
  generalize tkS ks = z at *
  generalize mdS ks = y at *
  obtain ⟨m, hmm⟩ : ∃ m, m = ks.length := ⟨_, rfl⟩
  rw [← hmm] at hp hm hk16 HCk HKl HTl HTa HOl HKn HE5 HE6 hu2
  have HMm := hid hmm
  obtain ⟨n, hnn⟩ : ∃ n, n = ss.length := ⟨_, rfl⟩
  rw [← hnn] at hv hn HTl HOl HSt e3 e3'
  have HNn := hid hnn
  subst hv hu2
  clear hmm hnn
  go_enter Tryd.func64, Tryd.ntmps64
  go_wp2_with fail
  refine (HCs.out _ HA.out hB).mono ?_
  rintro e w1 ⟨rfl, b1⟩
  have B1 := hid b1
  have HBi1 := hid (HBi.out.chg (Chg.ofBelow (lo := 0) b1) (.inr (Nat.zero_le _)))
  have hz1' := b1.size
  clear b1
  go_wp2_with fail
  refine (HSs.out _ HBi1.out (by omega)).mono ?_
  rintro e w2 ⟨rfl, b2⟩
  have B2 := hid (B1.out.trans (b2.mono hz1'))
  have HBi2 := hid (HBi1.out.chg (Chg.ofBelow (lo := 0) b2) (.inr (Nat.zero_le _)))
  have hz2' := b2.size
  clear b2
  go_wp2_with fail
  refine (HTk.out _ HBi2.out (by omega) (stb.carry HTb.out B2.out)).mono ?_
  rintro e w3 ⟨rfl, b3⟩
  have B3 := hid (B2.out.trans (b3.mono (by omega)))
  have HBi3 := hid (HBi2.out.chg (Chg.ofBelow (lo := 0) b3) (.inr (Nat.zero_le _)))
  have hz3' := b3.size
  clear b3
  go_wp2_with fail
  refine (HMd.out _ HBi3.out (by omega) (stb.carry HTb.out B3.out)).mono ?_
  rintro e w4 ⟨rfl, b4⟩
  have B4 := hid (B3.out.trans (b4.mono (by omega)))
  have hz4' := b4.size
  clear b4
  go_wp2_with (at_make; refine wpList_make_own _ rfl _ _ 96 rfl w.heap.size 108 i0 (.agg #[.slice none 0 0, .slice none 0 0]) 2 Tryd.underlying96 hi hz0 hz1 .i64 .i64 _ m rfl rfl (by first | rfl | simp) (by rw [hz2]; omega) (by unfold maxLen; omega) (by omega) ?_; intro w5 hown5 hgrow5; have HO5 := hid hown5; have B5 := hid (B4.out.grown hgrow5 (by omega) (fun k hk => by cases hk)); clear hown5 hgrow5)
  have HR5 := hid (show Rest w5 B (.slice ao n cap) (ss.drop (off ks 0)) from by
    obtain ⟨x1, x2⟩ := HRest.out
    exact ⟨x1.chg (Chg.ofBelow (lo := 0) B5.out) (.inr (Nat.zero_le _)), x2⟩)
  clear HRest HCs HSs HTk HMd HBi1 HBi2 HBi3 B1 B2 B3 B4
  go_loopw [0, 6, 33] (fun s r i wr => ∃ k : Nat, k ≤ m ∧ i = .int .i64 k ∧ Rest wr B s (ss.drop (off ks k)) ∧ (∃ L, KR wr w.heap.size B r L ∧ KL ss ks k L ∧ ∀ q ∈ L, ∃ a n c b m d, q.tv = .slice a n c ∧ q.mv = .slice b m d) ∧ badTo ss ks k = false ∧ Below w.heap.size w wr) (fun _ _ i _ => m - (intOf i).toNat)
  case atStart => exact ⟨0, Nat.zero_le _, rfl, HR5.out, ⟨[], KR.made HO5.out hB, KL.zero _ _, fun k hk => by simp at hk⟩, rfl, B5.out⟩
  case round =>
    obtain ⟨k, hk, rfl, hrest, ⟨L, hkr, hkl, hone⟩, hbad, hbel⟩ := hrel
    have HKR := hid hkr
    have HKL := hid hkl
    have HOn := hid hone
    have HBad := hid hbad
    have HB := hid hbel
    have HRs := hid hrest
    clear hkr hkl hone hbad hbel hrest HO5 B5 HR5
    by_cases hlt : k < m
    · obtain ⟨j, hj, hj1⟩ := knd_nat (HKn.out k hlt)
      have hc1 := (HB.out.cell (p := ⟨b, offb + k, none⟩) (by show b < _; omega)).trans (HCk.out k hlt)
      rw [hj] at hc1
      obtain ⟨hi1, sao, sc, rfl, hlc, hcm⟩ := HRs.out
      have hTl := HTl.out k hlt
      rw [hj, tk_at hj1] at hTl
      have hsy := fun W (t : stb.Tab W) => t.sy j (by omega)
      have htb := tk_bound (HKn.out k hlt)
      rw [hj, tk_at hj1] at htb
      obtain ⟨tn, htn⟩ : ∃ tn : Nat, tkT.getD j 0 = (tn : Int) := ⟨(tkT.getD j 0).toNat, by omega⟩
      have hln : (ss.drop (off ks k)).length = n - off ks k := by rw [List.length_drop, HNn.out]
      have HCT := hid (implTaken (j : Int) wr (stb.carry HTb.out HB.out))
      rw [tk_at hj1, htn] at HCT
      rw [htn] at hTl
      simp only [Int.toNat_natCast] at hTl
      have htc : tn ≤ sc := by rw [hln] at hlc; omega
      have hit := ints_cut hi1 tn (by rw [hln]; omega)
      have htk : (ss.drop (off ks k)).take tn = tkn ss ks k := by rw [tkn, hj, tk_at hj1, htn, Int.toNat_natCast]
      rw [htk] at hit
      have hbnd : ∀ q, q < (tkn ss ks k).length → 1 ≤ (tkn ss ks k).getD q 0 ∧ (tkn ss ks k).getD q 0 ≤ 4 := fun q hq => by
        rw [HTa.out k hlt q (by rw [hj, tk_at hj1, htn, Int.toNat_natCast]; omega)]
        exact HSt.out.2 _ (by omega)
      have HFr := hid (fun W (h : Ints W B (.slice sao tn sc) (tkn ss ks k)) (hb : B ≤ W.heap.size) => implFrom j hj1 (tkn ss ks k) (.slice sao tn sc) B W h hb (by have := HSt.out.1; omega) hbnd)
      have HIt := hid hit
      have HKl1 := hid (HKl.out k hlt)
      rw [hj, tk_at hj1, htn, Int.toNat_natCast] at HKl1
      have HMd : Hid (mkC (j : Int) (tkn ss ks k) = mdn ss ks k) := hid (by rw [mdn, hj])
      have HBS : Hid (badTo ss ks (k + 1) = badC (j : Int) (tkn ss ks k)) := hid (by rw [badTo_succ, HBad.out, hj]; simp)
      rw [HMd.out] at HFr
      clear hit hbnd htk hj hsy htb
      rw [hln]
      obtain ⟨rl, hrl⟩ : ∃ rl, rl = n - off ks k := ⟨_, rfl⟩
      rw [← hrl] at hln ⊢
      have HLn := hid hln
      have HI1 := hid hi1
      have hrt : tn ≤ rl := by omega
      clear hi1 hln
      have hT0 : ∀ W, stb.Tab W → W.cell? ⟨0, j * 4, none⟩ = some (.int .i32 (syT.getD j 0)) ∧ W.cell? ⟨0, j * 4 + 1, none⟩ = some (.int .i64 (tkT.getD j 0)) ∧ W.cell? ⟨0, j * 4 + 2, none⟩ = some (.int .i64 (mdT.getD j 0)) ∧ W.cell? ⟨0, j * 4 + 3, none⟩ = some (.int .i64 (miT.getD j 0)) := fun W t => ⟨t.sy j (by omega), t.tk j (by omega), t.md j (by omega), t.mi j (by omega)⟩
      have HTT := hid hT0
      clear hT0
      rw [htn] at HFr HTT
      generalize syT.getD j 0 = t0 at *
      generalize mdT.getD j 0 = t2 at *
      generalize miT.getD j 0 = t3 at *
      clear htn
      generalize badC (j : Int) (tkn ss ks k) = bd at *
      go_wp2_with fail
      refine HCT.out.mono ?_
      rintro e W1 ⟨rfl, c1⟩
      have HC1 := hid c1
      have HB1 := hid (HB.out.trans (c1.mono HB.out.size))
      have HIt1 := hid (HIt.out.chg (Chg.ofBelow (lo := 0) c1) (.inr (Nat.zero_le _)))
      have HK1 := hid (HKR.out.below c1)
      have HI11 := hid (HI1.out.chg (Chg.ofBelow (lo := 0) c1) (.inr (Nat.zero_le _)))
      have hzb := HB1.out.size
      obtain ⟨s0, s1, s2, s3⟩ := HTT.out W1 (stb.carry HTb.out HB1.out)
      clear c1 HC1 HIt HKR HI1 HB
      go_wp2_with fail
      refine (HFr.out W1 HIt1.out (by omega)).mono ?_
      rintro e W2 ⟨v', rfl, o2, c2⟩
      have HB2 := hid (HB1.out.trans (c2.mono hzb))
      have HIt2 := hid (HIt1.out.chg (Chg.ofBelow (lo := 0) c2) (.inr (Nat.zero_le _)))
      have HK2 := hid (HK1.out.below c2)
      have HI12 := hid (HI11.out.chg (Chg.ofBelow (lo := 0) c2) (.inr (Nat.zero_le _)))
      have hz12 := c2.size
      obtain ⟨mao, mc, hmv⟩ := br.own_val o2
      obtain ⟨ml, hml⟩ : ∃ ml, ml = (mdn ss ks k).length := ⟨_, rfl⟩
      rw [← hml] at hmv
      subst hmv
      have HO2 := hid o2
      have HKb := hid (fun g hg => (HK1.out.row.lt g hg).2)
      clear c2 o2 HIt1 HK1 HI11 HB1 s0 s1 s2 s3 HTT HFr HCT hml
      cases bd with
      | true =>
        have HE := hid (HE5.out (badTo_mono (HBS.out) (by omega)))
        go_wp2
        go_ret2
        exact ⟨_, by rw [HE.out]; rfl, kp_err HE.out (by decide), HB2.out⟩
      | false =>
        have hl2 := HKL.out.len
        go_wp2_with (at_builtin; refine wp_appK rfl _ _ rfl w.heap.size B _ L ⟨.slice sao tn sc, .slice mao ml mc, tkn ss ks k, mdn ss ks k⟩ HK2.out HIt2.out W1.heap.size W2.heap.size HO2.out (by omega) (fun g hg => .inl (HKb.out g hg)) rfl rfl rfl rfl (by omega) (by omega) ?_; intro v3 W3 hkr3 b3; have HK3 := hid hkr3; have HB3 := hid (HB2.out.trans b3); have HI13 := hid (HI12.out.chg (lo := w.heap.size) (hi := W3.heap.size) ⟨b3.os, b3.tape, b3.output, b3.size, fun q hq hq' => b3.block q (by have := b3.size; omega)⟩ (.inl hB)); clear hkr3 b3)
        go_roundw
        case rel =>
          have hlc2 := hlc
          rw [HLn.out] at hlc2
          have hl3 : (ss.drop (off ks (k + 1))).length = n - off ks k - tn := by rw [List.length_drop, HNn.out, HKl1.out]; omega
          refine ⟨k + 1, by omega, by go_num, ⟨?_, ?_⟩, ⟨_, HK3.out, HKL.out.succ (.slice sao tn sc) (.slice mao ml mc), fun q hq => ?_⟩, HBS.out, HB3.out⟩
          · rw [HKl1.out, ← List.drop_drop]
            refine ints_rest HI13.out tn (by rw [HLn.out]; omega) fun hne b' o' he => ?_
            rw [if_neg (by omega), he]
            simp [Addr.add]
          · rw [hl3]
            exact ⟨_, _, rfl, by omega, by omega⟩
          · rcases List.mem_append.1 hq with hq | hq
            · exact HOn.out q hq
            · simp at hq
              subst hq
              exact ⟨_, _, _, _, _, _, rfl, rfl⟩
        case measure => simp [intOf]; omega
    · obtain rfl : k = m := by omega
      have HE := hid (HE6.out HBad.out)
      go_wp2
      go_ret2
      exact ⟨_, by rw [HE.out]; rfl, .inr ⟨HE.out, L, HKR.out, by rw [← HMm.out]; exact HKL.out, HOn.out⟩, HB.out⟩
end Go.Proofs.YtbbnheiibkcgiabDoor.kn

/- StacksAfter of the program. -/
namespace Go.Proofs.YtbbnheiibkcgiabDoor.kn
open Go.RowKit Go.Proofs.YtbbnheiibkcgiabDoor.sl Go.Proofs.YtbbnheiibkcgiabDoor.st
set_option linter.unusedVariables false

theorem sa0 {ss ks : List Int} (h : saC ss ks = 0) : stks ss = true ∧ lst ks = true ∧ tkS ks = (ss.length : Int) ∧ ¬ 8 < mdS ks ∧ badTo ss ks ks.length = false := by
  cases h1 : stks ss
  · rw [sa1 h1] at h; omega
  cases h2 : lst ks
  · rw [sa2 h2] at h; omega
  by_cases h3 : tkS ks = (ss.length : Int)
  · by_cases h4 : 8 < mdS ks
    · rw [sa4 h1 h2 h3 h4] at h; omega
    · cases h5 : badTo ss ks ks.length
      · exact ⟨rfl, rfl, h3, h4, rfl⟩
      · rw [sa5 h1 h2 h3 h4 h5] at h; omega
  · rw [sa3 h1 h2 h3] at h; omega
theorem kl_ms {ss ks : List Int} {L : List Kn} (h : KL ss ks ks.length L) (hk : lst ks = true) : ∀ k ∈ L, k.ms.length ≤ 8 := by
  intro k hm
  obtain ⟨j, hj⟩ := List.getElem?_of_mem hm
  have hl : j < ks.length := by rw [← h.len]; exact (List.getElem?_eq_some_iff.1 hj).1
  have h2 := (lst_parts hk).2 j hl
  have h3 := mkC_len h2 (tkn ss ks j)
  have h4 := md_bound h2
  rw [(h.at_ j k hj).2, mdn]
  omega
theorem saW_no {ss ks : List Int} (h : saC ss ks ≠ 0) : saW ss ks = [] := by simp [saW, h]
theorem saW_yes {ss ks : List Int} (h : saC ss ks = 0) : saW ss ks = aftTo ss ks ks.length := by simp [saW, h]
theorem saW_len (ss ks : List Int) : (saW ss ks).length ≤ 8 := by
  by_cases h : saC ss ks = 0
  · obtain ⟨_, h2, _, h4, _⟩ := sa0 h
    rw [saW_yes h]
    have := aftTo_len (ss := ss) (lst_parts h2).2 ks.length (Nat.le_refl _)
    rw [sF_all] at this
    have h5 : mdS ks = bw.sumL (ks.map md) := by rw [mdS, h2]; rfl
    omega
  · rw [saW_no h]; simp

end Go.Proofs.YtbbnheiibkcgiabDoor.kn
