/-
  In one file: Bn0, Bn1, Rp, Bn2, Mn.
-/
import Derived.Test.YtfechjhngcmdpabVnm
import Derived.Test.YtfechjhngcmdpabH6
import Derived.Test.YtfechjhngcmdpabH2
import Derived.Test.YtfechjhngcmdpabRr
import Derived.Test.YtfechjhngcmdpabIv
import Derived.Test.YtfechjhngcmdpabShelfBm
import Derived.Laws.CopyOwn
import Derived.Deep.RegionHeld3
import Derived.RegionTactic
import Derived.Test.YtfechjhngcmdpabCc
import Derived.Test.YtfechjhngcmdpabNb
/- BraidOfNormal: mathematics. -/
namespace Go.Proofs.Ytfechjhngcmdpab.bn
open Go.RowKit Go.Proofs.Ytfechjhngcmdpab.sl Go.Proofs.Ytfechjhngcmdpab.pm Go.Proofs.Ytfechjhngcmdpab.fn Go.Proofs.Ytfechjhngcmdpab.br Go.Proofs.Ytfechjhngcmdpab.ss Go.Proofs.Ytfechjhngcmdpab.nb Go.Proofs.Ytfechjhngcmdpab.ai Go.Proofs.Ytfechjhngcmdpab.vn
set_option linter.unusedVariables false

def hW (s : Int) : List Int := upW (redW (halfL s.toNat))
def rep (k : Nat) (xs : List Int) : List Int := (List.replicate k xs).flatten
def iW (xs : List Int) : List Int := xs.reverse.map fun x => -x
def fW (rows : List (List Int)) (k : Nat) : List Int := ((rows.take k).map fun r => upW (redW r)).flatten
def preW (s p : Int) : List Int := rep p.toNat (hW s) ++ rep (-p).toNat (iW (hW s))
def bnL (s p : Int) (rows : List (List Int)) : List Int := preW s p ++ fW rows rows.length
def bnB (s p : Int) (rows : List (List Int)) : Bool := nvB s p rows && decide ((bnL s p rows).length ≤ 40)
def bnS (s p : Int) (rows : List (List Int)) : Int := if bnB s p rows = true then s else 0
def bnW (s p : Int) (rows : List (List Int)) : List Int := if bnB s p rows = true then bnL s p rows else []
def bnC (s p : Int) (rows : List (List Int)) : Int := if nvB s p rows = false then 1 else if bnB s p rows = true then 0 else 5

theorem rep_zero (xs : List Int) : rep 0 xs = [] := rfl
theorem rep_succ (k : Nat) (xs : List Int) : rep (k + 1) xs = rep k xs ++ xs := by
  rw [rep, List.replicate_succ', List.flatten_append]; simp [rep]
theorem rep_len (k : Nat) (xs : List Int) : (rep k xs).length = k * xs.length := by
  induction k with
  | zero => simp [rep]
  | succ k ih => rw [rep_succ, List.length_append, ih, Nat.succ_mul]
theorem fW_zero (rows : List (List Int)) : fW rows 0 = [] := rfl
theorem fW_succ (rows : List (List Int)) (k : Nat) (h : k < rows.length) : fW rows (k + 1) = fW rows k ++ upW (redW (rows.getD k [])) := by
  rw [fW, List.take_succ_eq_append_getElem h, List.map_append, List.flatten_append]
  simp [fW, List.getD, List.getElem?_eq_getElem h]
theorem iW_len (xs : List Int) : (iW xs).length = xs.length := by simp [iW]
theorem bn_bad {s p : Int} {rows : List (List Int)} (h : nvB s p rows = false) : bnS s p rows = 0 ∧ bnW s p rows = [] ∧ bnC s p rows = 1 := by simp [bnS, bnW, bnC, bnB, h]
theorem bn_full {s p : Int} {rows : List (List Int)} (h : nvB s p rows = true) (h2 : ¬ (bnL s p rows).length ≤ 40) : bnS s p rows = 0 ∧ bnW s p rows = [] ∧ bnC s p rows = 5 := by simp [bnS, bnW, bnC, bnB, h, h2]
theorem bn_ok {s p : Int} {rows : List (List Int)} (h : nvB s p rows = true) (h2 : (bnL s p rows).length ≤ 40) : bnS s p rows = s ∧ bnW s p rows = bnL s p rows ∧ bnC s p rows = 0 := by simp [bnS, bnW, bnC, bnB, h, h2]
theorem bnW_len (s p : Int) (rows : List (List Int)) : (bnW s p rows).length ≤ 40 := by
  unfold bnW bnB
  split
  · rename_i h; simp only [Bool.and_eq_true, decide_eq_true_eq] at h; exact h.2
  · simp
theorem nv_parts {s p : Int} {rows : List (List Int)} (h : nvB s p rows = true) : (0 ≤ s ∧ s ≤ 12) ∧ (-100 ≤ p ∧ p ≤ 100) ∧ rows.length ≤ 100 ∧ ∀ k, k < rows.length → 2 ≤ s ∧ ((rows.getD k []).length : Int) = s ∧ permB (rows.getD k []) = true := by
  rw [nvB, Bool.and_eq_true] at h
  obtain ⟨h1, h2⟩ := h
  simp only [headB, Bool.and_eq_true, decide_eq_true_eq] at h1
  obtain ⟨ha, hb, hc⟩ := h1
  refine ⟨ha, hb, hc, fun k hk => ?_⟩
  by_cases hs : s < 2
  · rw [if_pos hs] at h2
    simp only [Bool.and_eq_true, decide_eq_true_eq] at h2
    omega
  · rw [if_neg hs] at h2
    have h3 := List.all_eq_true.1 h2 k (List.mem_range.2 hk)
    simp only [stepB, rowB, Bool.and_eq_true, decide_eq_true_eq] at h3
    exact ⟨by omega, h3.1.1, h3.1.2.1⟩
theorem half_all : ((List.range 13).all fun n => permB (halfL n)) = true := by decide
theorem half_perm (n : Nat) (h : n ≤ 12) : permB (halfL n) = true := List.all_eq_true.1 half_all n (List.mem_range.2 (by omega))
theorem word_len {r : List Int} (h : permB r = true) : (upW (redW r)).length ≤ 144 := by
  have := redP_len r
  rw [redP, if_pos h] at this
  rw [upW_len]; exact this
theorem word_small {r : List Int} (h : permB r = true) (hl : r.length ≤ 12) : ∀ j, j < (upW (redW r)).length → -100 ≤ (upW (redW r)).getD j 0 ∧ (upW (redW r)).getD j 0 ≤ 100 := by
  intro j hj
  have hm : (upW (redW r)).getD j 0 ∈ upW (redW r) := by
    rw [show (upW (redW r)).getD j 0 = (upW (redW r))[j] from by simp [List.getD, List.getElem?_eq_getElem hj]]
    exact List.getElem_mem hj
  obtain ⟨x, hx, e⟩ := List.mem_map.1 hm
  have := redF_small (inv r) r x hx
  omega
theorem pre_len (s p : Int) (hs : 0 ≤ s ∧ s ≤ 12) (hp : -100 ≤ p ∧ p ≤ 100) (k : Nat) (hk : k ≤ (-p).toNat) : (rep p.toNat (hW s) ++ rep k (iW (hW s))).length ≤ 28800 := by
  have h1 : (hW s).length ≤ 144 := word_len (half_perm _ (by omega))
  rw [List.length_append, rep_len, rep_len, iW_len]
  have a1 : p.toNat * (hW s).length ≤ 100 * 144 := Nat.mul_le_mul (by omega) h1
  have a2 : k * (hW s).length ≤ 100 * 144 := Nat.mul_le_mul (by omega) h1
  omega
theorem hW_len (s : Int) (h : 0 ≤ s ∧ s ≤ 12) : (hW s).length ≤ 144 := word_len (half_perm _ (by omega))
theorem hW_small (s : Int) (h : 0 ≤ s ∧ s ≤ 12) : ∀ j, j < (hW s).length → -100 ≤ (hW s).getD j 0 ∧ (hW s).getD j 0 ≤ 100 := word_small (half_perm _ (by omega)) (by rw [halfL_len]; omega)
theorem fW_len {s p : Int} {rows : List (List Int)} (h : nvB s p rows = true) (k : Nat) (hk : k ≤ rows.length) : (fW rows k).length ≤ k * 144 := by
  induction k with
  | zero => simp [fW]
  | succ k ih =>
    rw [fW_succ rows k hk, List.length_append]
    have := ih (by omega)
    have := word_len ((nv_parts h).2.2.2 k hk).2.2
    omega
/-- A slice of the call's own beside another. -/
def Apart (v u : Value) : Prop := ∀ k, v.ownBlock = some k → u.ownBlock ≠ some k
theorem nilok_pos {w : World} {B : Nat} {v : Value} {xs : List Int} (h : Ints w B v xs) (hp : 0 < xs.length) : NilOk v := by
  intro n cap e
  rcases h with ⟨rfl, _⟩ | ⟨_, b, off, c, hv, _⟩
  · simp at hp
  · rw [hv] at e; cases e

theorem apart_kept {w w' : World} {lo2 : Nat} {v v' u : Value} {ys : List Int} (hu : sl.Own w lo2 w.heap.size u ys) (ha : Apart v u) (hg : w.grownBy w' v.ownBlock) (h5 : v'.ownBlock = v.ownBlock ∨ v'.ownBlock = some w.heap.size) :
    sl.Own w' lo2 w'.heap.size u ys ∧ Apart v' u := by
  refine ⟨rr.own_kept hu hg (fun k e h => ha k e h), fun k e h => ?_⟩
  rcases h5 with h5 | h5
  · exact ha k (h5 ▸ e) h
  · have := hu.2.1 k h
    rw [h5] at e; cases e; omega
theorem below_grown {w w' : World} {lo : Nat} {v : Value} {xs : List Int} {W0 : World} (hv : sl.Own w lo w.heap.size v xs) (hb : Below lo W0 w) (hg : w.grownBy w' v.ownBlock) (hl : lo ≤ w.heap.size) : Below lo W0 w' :=
  hb.trans ⟨hg.os, hg.tape, hg.output, hg.size, fun k hk => hg.block k (by omega) (fun e => by have := (hv.1.lt k e.symm).1; omega)⟩

set_option maxHeartbeats 1000000 in
theorem wp_appendG {ops : Array Oper} {rest : List Oper} {o : Oper} {a : Act} {Q : Exit → Act → World → Prop} {w : World} (hgd : o.guard = none) (s x : Operand)
    (hop : o.op = .call { callee := .builtin .append, args := #[s, x], argTypes := #[23, 23] })
    (lo : Nat) (v : Value) (xs : List Int) (ho : sl.Own w lo w.heap.size v xs) (hs : a.eval s = v) (u : Value) (ys : List Int) (C : Nat) (hu : Ints w C u ys) (hnil : NilOk u) (hx : a.eval x = u) (hlo : lo ≤ w.heap.size) (hn : xs.length + ys.length ≤ 1099511627776)
    (hK : ∀ v' w', sl.Own w' lo w'.heap.size v' (xs ++ ys) → w.grownBy w' v.ownBlock → (v'.ownBlock = v.ownBlock ∨ v'.ownBlock = some w.heap.size) → wpList Try.prog ops Q rest (a.put o.dst v') w') : wpList Try.prog ops Q (o :: rest) a w := by
  obtain ⟨i0, hi', hz0, hz1, hz2⟩ := info_parts info64
  have main : ∀ (ad : Addr) (cap : Nat), u = .slice (some ad) ys.length cap → (∀ j, j < ys.length → w.cell? (ad.add j) = some (.int .i64 (ys.getD j 0))) → wpList Try.prog ops Q (o :: rest) a w := by
    intro ad cap hu' hc
    obtain ⟨v', w', hr, h2, h3, h4, h5⟩ := run_append_own_at (P := Try.prog) w lo 23 o.type 2 i0 (.int .i64 0) 1 8 Try.underlying23 hi' hz0 hz1 hz2 rfl (by decide) v xs.length (xs.map (Value.int .i64)) ho.1 ad ys.length cap (ys.map (Value.int .i64)) (by simp)
      (fun j q hj => by
        have hj' : j < ys.length := by
          have := (List.getElem?_eq_some_iff.1 hj).1
          simpa using this
        rw [hc j hj']
        simp only [List.getElem?_map, List.getElem?_eq_getElem hj', Option.map_some, Option.some.injEq] at hj
        rw [← hj]
        simp [List.getD, List.getElem?_eq_getElem hj'])
      (ints_oneCell _ _) (by unfold maxLen; omega) (by omega) hlo
    refine wpList_plain hgd fun K hKK => ?_
    unfold Oper.wp execOp
    simp only [hop, resolve, invoke, builtin, Sem.run_bind, Sem.run_pure, Result.andThen_ok, List.map_toArray, List.map_cons, List.map_nil, hs, hx.trans hu', hr]
    exact hKK _ _ (hK v' w' (sl.Own.mk' (by rw [List.length_append, List.map_append]; exact h2)) h3 h5)
  rcases hu with ⟨rfl, ao, cap, rfl⟩ | ⟨hp, b, off, cap, hv, hb, hc⟩
  · cases ao with
    | none =>
      obtain ⟨_, rfl⟩ := hnil _ _ rfl
      refine wpList_append_own_none hgd s x 23 hop lo 2 i0 1 Try.underlying23 hi' v xs.length (xs.map (Value.int .i64)) hs ho.1 hx ?_
      exact hK v w (by rw [List.append_nil]; exact ho) ⟨rfl, rfl, rfl, Nat.le_refl _, fun _ _ _ => rfl⟩ (.inl rfl)
    | some ad => exact main ad cap rfl (fun j hj => by simp at hj)
  · exact main ⟨b, off, none⟩ cap hv (fun j hj => by rw [Addr.add_lit]; exact hc j hj)
end Go.Proofs.Ytfechjhngcmdpab.bn

/- BraidOfNormal: the model. -/
namespace Go.Proofs.Ytfechjhngcmdpab.bn
open Go.RowKit Go.Proofs.Ytfechjhngcmdpab.sl Go.Proofs.Ytfechjhngcmdpab.pm Go.Proofs.Ytfechjhngcmdpab.fn Go.Proofs.Ytfechjhngcmdpab.br Go.Proofs.Ytfechjhngcmdpab.ss Go.Proofs.Ytfechjhngcmdpab.nb Go.Proofs.Ytfechjhngcmdpab.ai Go.Proofs.Ytfechjhngcmdpab.vn
set_option linter.unusedVariables false

/-- What lies at the start: the argument's box and the result's. -/
def W0 (w : World) (s p : Int) (f : Value) : World := (w.alloc (.cells #[.int .i64 s, .int .i64 p, f] 40)).alloc (.cells #[.int .i64 0, .slice none 0 0] 37)
structure C0 (w X : World) (s p : Int) (f : Value) : Prop where
  b : Below (w.heap.size + 2) (W0 w s p f) X
theorem C0.c {w X : World} {s p : Int} {f : Value} (h : C0 w X s p f) : X.cell? ⟨w.heap.size, 0, none⟩ = some (.int .i64 s) ∧ X.cell? ⟨w.heap.size, 1, none⟩ = some (.int .i64 p) ∧ X.cell? ⟨w.heap.size, 2, none⟩ = some f ∧
    X.cell? ⟨w.heap.size + 1, 0, none⟩ = some (.int .i64 0) ∧ X.cell? ⟨w.heap.size + 1, 1, none⟩ = some (.slice none 0 0) ∧ X.frozen? ⟨w.heap.size + 1, 0, none⟩ = false ∧ X.frozen? ⟨w.heap.size + 1, 1, none⟩ = false := by
  have hb := h.b
  have a1 : ∀ q, (W0 w s p f).cell? ⟨w.heap.size, q, none⟩ = (w.alloc (.cells #[.int .i64 s, .int .i64 p, f] 40)).cell? ⟨w.heap.size, q, none⟩ := fun q => ((Below.refl _ _).alloc (Nat.le_refl _) _).cell (p := ⟨w.heap.size, q, none⟩) (by simp)
  have a2 : ∀ q, X.cell? ⟨w.heap.size, q, none⟩ = (W0 w s p f).cell? ⟨w.heap.size, q, none⟩ := fun q => hb.cell (p := ⟨w.heap.size, q, none⟩) (by simp)
  have a3 : ∀ q, X.cell? ⟨w.heap.size + 1, q, none⟩ = (W0 w s p f).cell? ⟨w.heap.size + 1, q, none⟩ := fun q => hb.cell (p := ⟨w.heap.size + 1, q, none⟩) (by simp)
  have a4 : ∀ q, X.frozen? ⟨w.heap.size + 1, q, none⟩ = (W0 w s p f).frozen? ⟨w.heap.size + 1, q, none⟩ := fun q => hb.frozen (p := ⟨w.heap.size + 1, q, none⟩) (by simp)
  have e : w.heap.size + 1 = (w.alloc (.cells #[.int .i64 s, .int .i64 p, f] 40)).heap.size := by simp
  refine ⟨(a2 0).trans ((a1 0).trans (World.cell?_alloc_at _ _ _ _ rfl)), (a2 1).trans ((a1 1).trans (World.cell?_alloc_at _ _ _ _ rfl)), (a2 2).trans ((a1 2).trans (World.cell?_alloc_at _ _ _ _ rfl)), ?_, ?_, ?_, ?_⟩
  · rw [a3, e]; exact World.cell?_alloc_at _ _ _ _ rfl
  · rw [a3, e]; exact World.cell?_alloc_at _ _ _ _ rfl
  · rw [a4, e]; exact World.frozen?_alloc_at _ _ _ _ rfl
  · rw [a4, e]; exact World.frozen?_alloc_at _ _ _ _ rfl
theorem C0.below {w X : World} {s p : Int} {f : Value} (h : C0 w X s p f) : Below w.heap.size w X := (((Below.refl _ w).alloc (Nat.le_refl _) _).alloc (by simp) _).trans (h.b.mono (by omega))
theorem C0.size {w X : World} {s p : Int} {f : Value} (h : C0 w X s p f) : w.heap.size + 2 ≤ X.heap.size := by
  have := h.b.size; simpa [W0] using this
theorem C0.next {w X Y : World} {s p : Int} {f : Value} (h : C0 w X s p f) (b : Below X.heap.size X Y) : C0 w Y s p f := ⟨h.b.trans (b.mono h.size)⟩
theorem C0.grown {w X Y : World} {s p : Int} {f v : Value} {xs : List Int} (h : C0 w X s p f) (hv : sl.Own X (w.heap.size + 2) X.heap.size v xs) (hg : X.grownBy Y v.ownBlock) : C0 w Y s p f := ⟨below_grown hv h.b hg h.size⟩

theorem C0.fin {w X : World} {s p : Int} {f v : Value} {xs : List Int} (h : C0 w X s p f) (o : sl.Own X (w.heap.size + 2) X.heap.size v xs) (x0 x1 : Value) :
    sl.Own ((X.setCell ⟨w.heap.size + 1, 0, none⟩ x0).setCell ⟨w.heap.size + 1, 1, none⟩ x1) w.heap.size ((X.setCell ⟨w.heap.size + 1, 0, none⟩ x0).setCell ⟨w.heap.size + 1, 1, none⟩ x1).heap.size v xs ∧ Below w.heap.size w ((X.setCell ⟨w.heap.size + 1, 0, none⟩ x0).setCell ⟨w.heap.size + 1, 1, none⟩ x1) := by
  have hs : ∀ (Y : World) (i : Nat) (x : Value), Y.grownBy (Y.setCell ⟨w.heap.size + 1, i, none⟩ x) (some (w.heap.size + 1)) := fun Y i x => rr.grown_set Y _ i x
  have hn : ∀ (Y : World) (o : sl.Own Y (w.heap.size + 2) Y.heap.size v xs) (k : Nat), some (w.heap.size + 1) = some k → v.ownBlock ≠ some k := fun Y o k e e2 => by
    cases e
    have := (o.1.lt _ e2).1
    omega
  have o1 := rr.own_kept o (hs X 0 x0) (hn X o)
  have o2 := rr.own_kept o1 (hs _ 1 x1) (hn _ o1)
  exact ⟨o2.lo (by omega), (h.below.setCell (by simp) _).setCell (by simp) _⟩

set_option maxRecDepth 100000 in
set_option maxHeartbeats 4000000 in
theorem specBN (s p : Int) (rows : List (List Int)) (f : Value) (B : Nat) (w : World) (ha : RowsC w B f rows) (hB : B ≤ w.heap.size) (hq : Small rows) :
    Calls Try.prog 17 #[.agg #[.int .i64 s, .int .i64 p, f]] w fun e w' => ∃ ao cap, e = .returned (.tuple #[.agg #[.int .i64 (bnS s p rows), .slice ao (bnW s p rows).length cap], .int .i64 (bnC s p rows)]) ∧ sl.Own w' w.heap.size w'.heap.size (.slice ao (bnW s p rows).length cap) (bnW s p rows) ∧ Below w.heap.size w w' := by
  have hC0 : C0 w (W0 w s p f) s p f := ⟨Below.refl _ _⟩
  have hc := hC0.c
  have HO := hid (specOkN s p rows w.heap.size f B (W0 w s p f) (ha.chg (Chg.ofBelow (lo := 0) hC0.below) (.inr (Nat.zero_le _))) (by have := hC0.size; omega) (by have := hC0.size; omega) hc.1 hc.2.1 hc.2.2.1 hq)
  have HA := hid ha
  have HC0 := hid hC0
  obtain ⟨ao, cap, hv⟩ := rows_val ha.rows
  clear hc hC0
  by_cases hnv : nvB s p rows = false
  · have HE := hid (bn_bad hnv)
    rw [hnv] at HO
    rw [HE.out.1, HE.out.2.1, HE.out.2.2]
    clear ha hq HA hnv
    have hW0 : W0 w s p f = (w.alloc (.cells #[.int .i64 s, .int .i64 p, f] 40)).alloc (.cells #[.int .i64 0, .slice none 0 0] 37) := rfl
    generalize W0 w s p f = X0 at *
    subst hv
    go_enter Try.func17, Try.ntmps17
    go_wp2_with fail
    rw [← hW0]
    refine HO.out.mono ?_
    rintro e w1 ⟨rfl, b1⟩
    have HC1 := hid (HC0.out.next b1)
    obtain ⟨d0, d1, d2, r0, r1, q0, q1⟩ := HC1.out.c
    clear b1
    go_wp2
    have hf := HC1.out.fin (sl.Own.nil _ _) (.int .i64 0) (.slice none 0 0)
    exact bodyPost_ret (v := .tuple #[.agg #[.int .i64 0, .slice none 0 0], .int .i64 1]) (by simp [results, Try.results17, go_sem, r0, r1]) rfl ⟨none, 0, rfl, hf.1, hf.2⟩
  · have hnv' : nvB s p rows = true := by simpa using hnv
    obtain ⟨hs, hp, hr, hrow⟩ := nv_parts hnv'
    have HRow := hid hrow
    have HFl := hid (fun k hk => fW_len hnv' k hk)
    have HLen := hid (hW_len s hs)
    have HSm := hid (hW_small s hs)
    have HPre := hid (fun k hk => pre_len s p hs hp k hk)
    have HOk := hid (fun h2 => bn_ok hnv' h2)
    have HFull := hid (fun h2 => bn_full hnv' h2)
    rw [hnv'] at HO
    obtain ⟨m, rfl⟩ := Int.eq_ofNat_of_zero_le hs.1
    have hm : m ≤ 12 := by omega
    have HHW : Hid (upW (redW (halfL m)) = hW (m : Int)) := hid rfl
    clear ha hnv hnv' hrow hs
    have hW0 : W0 w (m : Int) p f = (w.alloc (.cells #[.int .i64 (m : Int), .int .i64 p, f] 40)).alloc (.cells #[.int .i64 0, .slice none 0 0] 37) := rfl
    generalize W0 w (m : Int) p f = X0 at *
    subst hv
    go_enter Try.func17, Try.ntmps17
    go_wp2_with fail
    rw [← hW0]
    refine HO.out.mono ?_
    rintro e w1 ⟨rfl, b1⟩
    have HC1 := hid (HC0.out.next b1)
    clear b1 hW0 HO
    have o0 := sl.Own.built w1 #[] rfl
    have HC2 := hid (HC1.out.next ((Below.refl _ w1).alloc (Nat.le_refl _) (.cells #[] 2)))
    have hz1 : w1.heap.size + 1 = (w1.alloc (.cells #[] 2)).heap.size := by simp
    have d0 := HC2.out.c.1
    have hg1 : w.heap.size + 2 ≤ w1.heap.size := HC1.out.size
    have HHalf := hid (specHalf m (w1.alloc (.cells #[] 2)) (by omega))
    generalize hX2 : w1.alloc (.cells #[] 2) = X2 at *
    go_wp2_with fail
    refine HHalf.out.mono ?_
    rintro e w2 ⟨v2, rfl, o2, b2⟩
    clear HHalf d0
    go_wp2_with fail
    refine (specWord4 (halfL m) v2 w2.heap.size w2 o2.ints (nilok_own o2) (Nat.le_refl _) (by rw [halfL_len]; omega)).mono ?_
    rintro e w3 ⟨v3, rfl, o3, b3⟩
    rw [HHW.out] at o3
    have hsz2 := b2.size
    have hsz3 := b3.size
    have HC3 := hid ((HC2.out.next b2).next b3)
    have hb13 : Below X2.heap.size X2 w3 := b2.trans (b3.mono hsz2)
    have HV0 : Hid (sl.Own w3 (w.heap.size + 2) w3.heap.size (.slice (some ⟨w1.heap.size, 0, none⟩) 0 0) []) := hid ((rr.own_kept o0 (rr.grown_below hb13 (Nat.le_refl _)) (fun k e => by cases e)).lo hg1)
    have HV3 : Hid (sl.Own w3 (w.heap.size + 2) w3.heap.size v3 (hW (m : Int))) := hid (o3.lo (by omega))
    have HAp : Hid (Apart (.slice (some ⟨w1.heap.size, 0, none⟩) 0 0) v3) := hid (fun k e e2 => by
      have h1 := (o3.1.lt k e2).1
      simp [Value.ownBlock] at e
      omega)
    clear o0 o2 o3 b2 b3 hb13 HHW HC1 HC2 hX2
    have HP := hid hp
    have HRl := hid hr
    have hpn : p.toNat ≤ 100 := by omega
    have hqn : (-p).toNat ≤ 100 := by omega
    clear hsz2 hsz3 hz1 hg1 hq
    go_wp2
    go_loopw [4, 6] (fun v i wr => ∃ k : Nat, k ≤ p.toNat ∧ i = .int .i64 k ∧ sl.Own wr (w.heap.size + 2) wr.heap.size v (rep k (hW (m : Int))) ∧ sl.Own wr (w.heap.size + 2) wr.heap.size v3 (hW (m : Int)) ∧ Apart v v3 ∧ C0 w wr (m : Int) p (.slice ao rows.length cap))
      (fun _ i _ => p.toNat - (intOf i).toNat)
    case atStart => exact ⟨0, Nat.zero_le _, rfl, HV0.out, HV3.out, HAp.out, HC3.out⟩
    case round =>
      obtain ⟨k, hk, rfl, ho, h3, hap, hc⟩ := hrel
      have c1 := hc.c.2.1
      have HO := hid ho
      have H3 := hid h3
      have HAA := hid hap
      have HC := hid hc
      have hsz := hc.size
      clear ho h3 hap hc HV0 HV3 HAp HC3
      by_cases hlt : (k : Int) < p
      · have HT : Hid ((rep k (hW (m : Int))).length + (hW (m : Int)).length ≤ 1099511627776) := hid (by
          have h1 := HLen.out
          rw [rep_len]
          have : k * (hW (m : Int)).length ≤ 100 * 144 := Nat.mul_le_mul (by omega) h1
          omega)
        go_wp2_with (at_builtin; refine wp_appendG rfl _ _ rfl (w.heap.size + 2) _ (rep k (hW (m : Int))) HO.out rfl _ (hW (m : Int)) wr.heap.size H3.out.ints (nilok_own H3.out) rfl hsz HT.out ?_; intro v' w4 o4 hg4 h54)
        have HO4 := hid o4
        have HAk := hid (apart_kept H3.out HAA.out hg4 h54)
        have HC4 := hid (HC.out.grown HO.out hg4)
        clear o4 hg4 h54
        go_wp2
        go_roundw
        case rel => exact ⟨k + 1, by omega, by go_num, by rw [rep_succ]; exact HO4.out, HAk.out.1, HAk.out.2, HC4.out⟩
        case measure => simp [intOf]; omega
      · obtain rfl : k = p.toNat := by omega
        go_wp2
        go_loopw [4, 7] (fun v i wr => ∃ k : Nat, k ≤ (-p).toNat ∧ i = .int .i64 (-(k : Int)) ∧ sl.Own wr (w.heap.size + 2) wr.heap.size v (rep p.toNat (hW (m : Int)) ++ rep k (iW (hW (m : Int)))) ∧ sl.Own wr (w.heap.size + 2) wr.heap.size v3 (hW (m : Int)) ∧ Apart v v3 ∧ C0 w wr (m : Int) p (.slice ao rows.length cap))
          (fun _ i _ => (-p).toNat - (-(intOf i)).toNat)
        case atStart => exact ⟨0, Nat.zero_le _, rfl, by rw [rep_zero, List.append_nil]; exact HO.out, H3.out, HAA.out, HC.out⟩
        case round =>
          obtain ⟨k, hk, rfl, ho, h3, hap, hc⟩ := hrel
          have c1 := hc.c.2.1
          have c2 := hc.c.2.2.1
          have HO := hid ho
          have H3 := hid h3
          have HAA := hid hap
          have HC := hid hc
          have hsz := hc.size
          clear ho h3 hap hc
          by_cases hlt : p < -(k : Int)
          · have HT : Hid ((rep p.toNat (hW (m : Int)) ++ rep k (iW (hW (m : Int)))).length + (iW (hW (m : Int))).length ≤ 1099511627776) := hid (by
              have h1 := HLen.out
              have h2 := HPre.out k hk
              rw [iW_len]
              omega)
            go_wp2_with fail
            refine (specInverse (hW (m : Int)) v3 wr.heap.size wr H3.out.ints (Nat.le_refl _) (by have := HLen.out; omega) HSm.out).mono ?_
            rintro e w4 ⟨v4, rfl, o4, b4⟩
            have hsz4 := b4.size
            have HO4 := hid (rr.own_kept HO.out (rr.grown_below b4 (Nat.le_refl _)) (fun k e => by cases e))
            have H34 := hid (rr.own_kept H3.out (rr.grown_below b4 (Nat.le_refl _)) (fun k e => by cases e))
            have HC4 := hid (HC.out.next b4)
            have HI4 : Hid (sl.Own w4 wr.heap.size w4.heap.size v4 (iW (hW (m : Int)))) := hid o4
            clear b4 o4
            go_wp2_with (at_builtin; refine wp_appendG rfl _ _ rfl (w.heap.size + 2) _ (rep p.toNat (hW (m : Int)) ++ rep k (iW (hW (m : Int)))) HO4.out rfl _ (iW (hW (m : Int))) w4.heap.size HI4.out.ints (nilok_own HI4.out) rfl (by omega) HT.out ?_; intro v' w5 o5 hg5 h55)
            have HO5 := hid o5
            have HAk := hid (apart_kept H34.out HAA.out hg5 h55)
            have HC5 := hid (HC4.out.grown HO4.out hg5)
            clear o5 hg5 h55
            go_wp2
            go_roundw
            case rel => exact ⟨k + 1, by omega, by go_num, by rw [rep_succ, ← List.append_assoc]; exact HO5.out, HAk.out.1, HAk.out.2, HC5.out⟩
            case measure => simp [intOf]; omega
          · obtain rfl : k = (-p).toNat := by omega
            have HO2 : Hid (sl.Own wr (w.heap.size + 2) wr.heap.size _ (preW (m : Int) p)) := hid HO.out
            clear HO HAA H3
            go_wp2
            go_loopw [4, 8] (fun v i wr => ∃ k : Nat, k ≤ rows.length ∧ i = .int .i64 k ∧ sl.Own wr (w.heap.size + 2) wr.heap.size v (preW (m : Int) p ++ fW rows k) ∧ C0 w wr (m : Int) p (.slice ao rows.length cap))
              (fun _ i _ => rows.length - (intOf i).toNat)
            case atStart => exact ⟨0, Nat.zero_le _, rfl, by rw [fW_zero, List.append_nil]; exact HO2.out, HC.out⟩
            case round =>
              obtain ⟨k, hk, rfl, ho, hc⟩ := hrel
              have c2 := hc.c.2.2.1
              have HO := hid ho
              have HC := hid hc
              have hsz := hc.size
              have HR := hid (HA.out.chg (Chg.ofBelow (lo := 0) hc.below) (.inr (Nat.zero_le _)))
              have HP0 : Hid ((preW (m : Int) p).length ≤ 28800) := hid (HPre.out _ (Nat.le_refl _))
              clear ho hc HO2
              by_cases hlt : k < rows.length
              · have hF := HFl.out k (by omega)
                have hR := HRow.out k hlt
                rcases HR.out with ⟨h0, _⟩ | ⟨hp1, b, off, cap', V, hv1, hb1, hcs⟩
                · rw [h0] at hlt; simp at hlt
                · simp only [Value.slice.injEq] at hv1
                  obtain ⟨rfl, _, rfl⟩ := hv1
                  obtain ⟨hck, hin, hcap⟩ := hcs k hlt
                  have HIn := hid hin
                  have HT : Hid ((preW (m : Int) p ++ fW rows k).length + (upW (redW (rows.getD k []))).length ≤ 1099511627776) := hid (by
                    have h1 := word_len hR.2.2
                    have h2 := HP0.out
                    rw [List.length_append]
                    omega)
                  have HNx : Hid (preW (m : Int) p ++ fW rows (k + 1) = (preW (m : Int) p ++ fW rows k) ++ upW (redW (rows.getD k []))) := hid (by rw [fW_succ rows k hlt, List.append_assoc])
                  have HWd := hid (specWord4 (rows.getD k []) (V k) B wr hin (nilok_pos hin (by omega)) (by omega) (by omega))
                  clear hcs hin hcap hF hR
                  generalize rows.getD k [] = r at *
                  generalize V k = y at *
                  go_wp2_with fail
                  refine HWd.out.mono ?_
                  rintro e w4 ⟨v4, rfl, o4, b4⟩
                  have hsz4 := b4.size
                  have HO4 := hid (rr.own_kept HO.out (rr.grown_below b4 (Nat.le_refl _)) (fun k e => by cases e))
                  have HC4 := hid (HC.out.next b4)
                  have HI4 := hid o4
                  clear b4 o4
                  go_wp2_with (at_builtin; refine wp_appendG rfl _ _ rfl (w.heap.size + 2) _ (preW (m : Int) p ++ fW rows k) HO4.out rfl _ (upW (redW r)) w4.heap.size HI4.out.ints (nilok_own HI4.out) rfl (by omega) HT.out ?_; intro v' w5 o5 hg5 h55)
                  have HO5 := hid o5
                  have HC5 := hid (HC4.out.grown HO4.out hg5)
                  clear o5 hg5 h55
                  go_wp2
                  go_roundw
                  case rel => exact ⟨k + 1, by omega, by go_num, by rw [HNx.out]; exact HO5.out, HC5.out⟩
                  case measure => simp [intOf]; omega
              · obtain rfl : k = rows.length := by omega
                have HO3 : Hid (sl.Own wr (w.heap.size + 2) wr.heap.size _ (bnL (m : Int) p rows)) := hid HO.out
                clear HO
                obtain ⟨ao', cap', rfl⟩ := br.own_val HO3.out
                obtain ⟨d0, d1, d2, r0, r1, q0, q1⟩ := HC.out.c
                clear c2 HR
                by_cases h40 : (bnL (m : Int) p rows).length ≤ 40
                · have HE := hid (HOk.out h40)
                  have hf := HC.out.fin HO3.out (.int .i64 (m : Int)) (.slice ao' (bnL (m : Int) p rows).length cap')
                  have HF := hid hf
                  clear hf HOk HFull HO3 HRow HFl
                  generalize bnL (m : Int) p rows = L at *
                  generalize hN : L.length = N at *
                  go_wp2
                  refine bodyPost_ret (v := .tuple #[.agg #[.int .i64 (m : Int), .slice ao' N cap'], .int .i64 0]) (by simp [results, Try.results17, go_sem, r0, r1]) rfl ?_
                  rw [HE.out.1, HE.out.2.1, HE.out.2.2, hN]
                  exact ⟨ao', cap', rfl, HF.out.1, HF.out.2⟩
                · have HE := hid (HFull.out h40)
                  have hf := HC.out.fin (sl.Own.nil _ _) (.int .i64 0) (.slice none 0 0)
                  have HF := hid hf
                  clear hf HOk HFull HO3 HRow HFl
                  generalize bnL (m : Int) p rows = L at *
                  generalize hN : L.length = N at *
                  go_wp2
                  refine bodyPost_ret (v := .tuple #[.agg #[.int .i64 0, .slice none 0 0], .int .i64 5]) (by simp [results, Try.results17, go_sem, r0, r1]) rfl ?_
                  rw [HE.out.1, HE.out.2.1, HE.out.2.2]
                  exact ⟨none, 0, rfl, HF.out.1, HF.out.2⟩
end Go.Proofs.Ytfechjhngcmdpab.bn

/- slices.Repeat of a list of numbers. -/
namespace Go.Proofs.Ytfechjhngcmdpab.bn
open Go.RowKit Go.Proofs.Ytfechjhngcmdpab.sl Go.Proofs.Ytfechjhngcmdpab.pm Go.Proofs.Ytfechjhngcmdpab.br
set_option linter.unusedVariables false

theorem splice_get {α : Type} (L : List α) (off : Nat) (cs : List α) (h : off + cs.length ≤ L.length) (j : Nat) : (splice L off cs)[j]? = if off ≤ j ∧ j < off + cs.length then cs[j - off]? else L[j]? := by
  unfold splice
  by_cases h1 : j < off
  · rw [List.getElem?_append_left (by simp; omega), if_neg (by omega), List.getElem?_take, if_pos h1]
  · rw [List.getElem?_append_right (by simp; omega)]
    rw [List.length_take, Nat.min_eq_left (by omega)]
    by_cases h2 : j - off < cs.length
    · rw [List.getElem?_append_left h2, if_pos (by omega)]
    · rw [List.getElem?_append_right (by omega), if_neg (by omega), List.getElem?_drop]
      congr 1; omega
def patL (xs : List Int) (M c : Nat) : List Int := (List.range M).map fun j => if j < c then xs.getD (j % xs.length) 0 else 0
theorem pat_len (xs : List Int) (M c : Nat) : (patL xs M c).length = M := by simp [patL]
theorem pat_get (xs : List Int) (M c j : Nat) : (patL xs M c)[j]? = if j < M then some (if j < c then xs.getD (j % xs.length) 0 else 0) else none := by
  unfold patL
  rw [List.getElem?_map]
  by_cases h : j < M
  · rw [List.getElem?_range h, if_pos h]; rfl
  · rw [if_neg h, List.getElem?_eq_none (by simpa using h)]; rfl
theorem rep_get (xs : List Int) (k j : Nat) (h : j < k * xs.length) : (rep k xs)[j]? = some (xs.getD (j % xs.length) 0) := by
  induction k with
  | zero => simp at h
  | succ k ih =>
    rw [rep_succ]
    by_cases h2 : j < k * xs.length
    · rw [List.getElem?_append_left (by rw [rep_len]; exact h2)]; exact ih h2
    · rw [List.getElem?_append_right (by rw [rep_len]; omega), rep_len]
      rw [Nat.succ_mul] at h
      have hj : j % xs.length = j - k * xs.length := by
        have e : j = (j - k * xs.length) + xs.length * k := by have hm : xs.length * k = k * xs.length := Nat.mul_comm _ _; omega
        conv => lhs; rw [e, Nat.add_mul_mod_self_left]
        exact Nat.mod_eq_of_lt (by omega)
      rw [hj, List.getElem?_eq_getElem (by omega)]
      simp [List.getD, List.getElem?_eq_getElem (show j - k * xs.length < xs.length by omega)]
theorem pat_all (xs : List Int) (k : Nat) : patL xs (k * xs.length) (k * xs.length) = rep k xs := by
  apply List.ext_getElem?
  intro j
  rw [pat_get]
  by_cases h : j < k * xs.length
  · rw [if_pos h, if_pos h, rep_get xs k j h]
  · rw [if_neg h, List.getElem?_eq_none (by rw [rep_len]; omega)]
/-- The first copy. -/
theorem pat_one (xs : List Int) (M : Nat) (h : xs.length ≤ M) : splice (List.replicate M (Value.int .i64 0)) 0 (xs.map (Value.int .i64)) = (patL xs M xs.length).map (Value.int .i64) := by
  apply List.ext_getElem?
  intro j
  rw [splice_get _ _ _ (by simpa using h)]
  simp only [List.getElem?_map, pat_get]
  by_cases h1 : j < xs.length
  · rw [if_pos (by simp; exact h1), if_pos (by omega), if_pos h1, Nat.mod_eq_of_lt h1]
    simp [List.getElem?_eq_getElem h1]
  · rw [if_neg (by simp; omega), if_neg h1]
    by_cases h2 : j < M
    · rw [if_pos h2, List.getElem?_replicate, if_pos h2]; rfl
    · rw [if_neg h2, List.getElem?_replicate, if_neg h2]; rfl
theorem pat_zero (xs : List Int) : splice (List.replicate 0 (Value.int .i64 0)) 0 [] = (patL xs 0 0).map (Value.int .i64) := rfl
/-- A copy of what is there behind it. -/
theorem pat_more (xs : List Int) (M c d : Nat) (hc : c ≤ M) (hd : d = Nat.min c (M - c)) (hdiv : xs.length ∣ c) : splice ((patL xs M c).map (Value.int .i64)) c (((patL xs M c).take d).map (Value.int .i64)) = (patL xs M (c + d)).map (Value.int .i64) := by
  have hdc : d ≤ c := by rw [hd]; exact Nat.min_le_left _ _
  have hdM : d ≤ M - c := by rw [hd]; exact Nat.min_le_right _ _
  have hl : (((patL xs M c).take d).map (Value.int .i64)).length = d := by simp [pat_len]; omega
  apply List.ext_getElem?
  intro j
  rw [splice_get _ _ _ (by rw [hl, List.length_map, pat_len]; omega), hl]
  simp only [List.getElem?_map, List.getElem?_take, pat_get]
  by_cases h1 : c ≤ j ∧ j < c + d
  · rw [if_pos h1, if_pos (by omega), if_pos (by omega), if_pos (by omega), if_pos (by omega), if_pos (by omega)]
    congr 3
    obtain ⟨q, rfl⟩ := hdiv
    have e : j = (j - xs.length * q) + xs.length * q := by omega
    conv => rhs; rw [e, Nat.add_mul_mod_self_left]
  · rw [if_neg h1]
    by_cases h2 : j < M
    · rw [if_pos h2, if_pos h2]
      by_cases h3 : j < c
      · rw [if_pos h3, if_pos (by omega)]
      · rw [if_neg h3, if_neg (by omega)]
    · rw [if_neg h2, if_neg h2]

theorem made_row {w w' : World} {M : Nat} {vs : List Value} (h : w'.ownsRow w.heap.size 2 1 (.slice (some ⟨w.heap.size, 0, none⟩) M M) M vs) : w'.heap[w.heap.size]? = some (.cells vs.toArray 2 (0, 0)) := by
  rcases h.2 with ⟨h1, _⟩ | ⟨g, c, cur, h1, h2, h3, h4, h5, h6, h7⟩
  · cases h1
  · simp only [Value.slice.injEq, Option.some.injEq, Addr.mk.injEq] at h1
    obtain ⟨⟨rfl, _⟩, _, rfl⟩ := h1
    have e : cur.toList = vs := by rw [← h7, List.take_of_length_le (by simp [h6])]
    rw [h3, ← e]
theorem made_row0 {w w' : World} {M : Nat} (h : w'.ownsRow w.heap.size 2 1 (.slice (some ⟨w.heap.size, 0, none⟩) M M) M (madeCells (Value.int .i64 0).cells (M * 1)).toList) : w'.heap[w.heap.size]? = some (.cells (List.replicate M (Value.int .i64 0)).toArray 2 (0, 0)) := by
  rw [zeros_list, List.map_replicate] at h
  exact made_row h
theorem pos_at2 {w w2 : World} {ao : Option Addr} {cs : List Value} (h : ∃ ad, ao = some ad ∧ ∀ (W : World), Below w.heap.size w W → ∀ j u, cs[j]? = some u → W.cell? (ad.add j) = some u) (hb : Below w.heap.size w w2) :
    some (⟨w.heap.size, 0, none⟩ : Addr) = some ⟨w.heap.size, 0, none⟩ ∧ ∃ ad, ao = some ad ∧ ∀ j u, cs[j]? = some u → w2.cell? (ad.add j) = some u := by
  obtain ⟨ad, h1, h2⟩ := h
  exact ⟨rfl, ad, h1, h2 w2 hb⟩
theorem below_made {w w' : World} (h : w.grownBy w' none) : Below w.heap.size w w' := ⟨h.os, h.tape, h.output, h.size, fun k hk => h.block k hk (by simp)⟩

set_option maxRecDepth 100000 in
set_option maxHeartbeats 4000000 in
theorem repeatW (xs : List Int) (k : Nat) (v : Value) (B : Nat) (w : World) (ha : Ints w B v xs) (hB : B ≤ w.heap.size) (hn : xs.length ≤ 1000) (hk : k ≤ 1000) :
    Calls Try.prog 46 #[v, .int .i64 (k : Int)] w fun e w' => ∃ v', e = .returned v' ∧ sl.Own w' w.heap.size w'.heap.size v' (rep k xs) ∧ Below w.heap.size w w' := by
  obtain ⟨ao, cap, hv⟩ := ints_val ha
  obtain ⟨M, hM⟩ : ∃ M, M = k * xs.length := ⟨_, rfl⟩
  have hM1 : M ≤ 1000000 := by rw [hM]; exact Nat.mul_le_mul hk hn
  have hmul : (xs.length * k) = M := by rw [hM, Nat.mul_comm]
  have HBm := hid (fun W => Try.bits_Mul xs.length k (by omega) (by omega) W)
  rw [hmul, Nat.div_eq_of_lt (show M < 18446744073709551616 by omega), Nat.mod_eq_of_lt (show M < 18446744073709551616 by omega)] at HBm
  have HI := hid ha
  have HMM := hid hM
  obtain ⟨n, hnn⟩ : ∃ n, n = xs.length := ⟨_, rfl⟩
  have hw1 : IntKind.u64.wrap (n : Int) = (n : Int) := by rw [IntKind.wrap_u64]; omega
  have hw2 : IntKind.u64.wrap (k : Int) = (k : Int) := by rw [IntKind.wrap_u64]; omega
  have hw3 : IntKind.i64.wrap (M : Int) = (M : Int) := by rw [IntKind.wrap_i64]; omega
  have hk0 : ¬ ((k : Int) < 0) := by omega
  have hM0 : ¬ ((M : Int) < 0) := by omega
  have hM2 : ¬ ((9223372036854775807 : Int) < (M : Int)) := by omega
  have HInfo : Hid ((Try.prog.info? 2).map (·.size) = some 1) := hid (by kernel_rfl)
  have hys : ∃ ys : List Int, ys.length = Nat.min n M ∧ (0 < ys.length → ys = xs) ∧ splice (List.replicate M (Value.int .i64 0)) 0 (ys.map (Value.int .i64)) = (patL xs M ys.length).map (Value.int .i64) ∧ n ∣ ys.length ∧ (0 < ys.length ∨ M = 0) ∧ ys.length ≤ M := by
    by_cases h0 : M = 0
    · exact ⟨[], by rw [h0]; simp, fun h => absurd h (by simp), by rw [h0]; exact pat_zero xs, by simp, .inr h0, by simp⟩
    · have h1 : n ≤ M := by
        rw [hM, ← hnn]
        have : 1 ≤ k := Nat.pos_of_ne_zero (fun e => h0 (by rw [hM, e]; simp))
        calc n = 1 * n := (Nat.one_mul n).symm
          _ ≤ k * n := Nat.mul_le_mul this (Nat.le_refl _)
      have h2 : 0 < n := Nat.pos_of_ne_zero (fun e => h0 (by rw [hM, ← hnn, e]; simp))
      exact ⟨xs, by rw [← hnn]; exact (Nat.min_eq_left h1).symm, fun _ => rfl, pat_one xs M (by omega), by rw [hnn]; exact Nat.dvd_refl _, .inl (by omega), by omega⟩
  obtain ⟨ys, hy1, hy2, hy3, hy4, hy5, hy6⟩ := hys
  have HY3 := hid hy3
  have HFin : Hid (patL xs M M = rep k xs) := hid (by rw [hM]; exact pat_all xs k)
  have HMore := hid (fun c d h1 h2 h3 => pat_more xs M c d h1 h2 h3)
  rw [← hnn] at hv HBm hn HMore
  have HPos : Hid (0 < (ys.map (Value.int .i64)).length → ∃ ad, ao = some ad ∧ ∀ (W : World), Below w.heap.size w W → ∀ j u, (ys.map (Value.int .i64))[j]? = some u → W.cell? (ad.add j) = some u) := hid (by
    intro h
    rw [List.length_map] at h
    obtain rfl := hy2 h
    rcases ha with ⟨h0, _⟩ | ⟨hp, b, off, cap', hv', hb, hc⟩
    · rw [h0] at h; simp at h
    · rw [hv] at hv'
      simp only [Value.slice.injEq] at hv'
      obtain ⟨rfl, _, _⟩ := hv'
      refine ⟨_, rfl, fun W hW j u hj => ?_⟩
      have hj' : j < ys.length := by
        have := (List.getElem?_eq_some_iff.1 hj).1
        simpa using this
      rw [Addr.add_lit, (hW.cell (p := ⟨b, off + j, none⟩) (by show b < _; omega)).trans (hc j hj')]
      simp only [List.getElem?_map, List.getElem?_eq_getElem hj', Option.map_some, Option.some.injEq] at hj
      rw [← hj]
      simp [List.getD, List.getElem?_eq_getElem hj'])
  have HOne : Hid (∀ u ∈ ys.map (Value.int .i64), u.oneCell' = true) := hid (by intro u hu; obtain ⟨x, _, rfl⟩ := List.mem_map.1 hu; rfl)
  have HLen : Hid ((ys.map (Value.int .i64)).length = Nat.min n M) := hid (by rw [List.length_map]; exact hy1)
  have HFit : Hid (0 + (ys.map (Value.int .i64)).length ≤ (List.replicate M (Value.int .i64 0)).length) := hid (by simp; omega)
  have HY1 := hid hy1
  have HN2 : Hid (n ∣ ys.length) := hid hy4
  clear hy1 hy2 hy3 hy4
  subst hv
  have HNn := hid hnn
  clear ha hM hmul hnn
  go_enter Try.func46, Try.ntmps46
  go_wp2_with fail
  refine (HBm.out _).mono ?_
  rintro e w1 ⟨rfl, rfl⟩
  obtain ⟨i0, hi, hz0, hz1, hz2⟩ := info_parts info64
  go_wp2_with (first
    | (at_make; refine wpList_make_full _ rfl (.tmp 29) (.tmp 29) 23 rfl w1.heap.size 2 i0 (.int .i64 0) 1 Try.underlying23 hi hz0 hz1 .i64 .i64 _ _ M rfl rfl (by rfl) (by rfl) (by rw [hz2]; omega) (by unfold maxLen; omega) (Nat.le_refl _) ?_; intro w2 hown1 hgrow1; have HOw := hid hown1; have HB2 := hid (below_made hgrow1); have HRow := hid (made_row0 hown1); have HP2 := hid (fun h => pos_at2 (HPos.out h) HB2.out); clear hown1 hgrow1)
    | (with_reducible refine wpList_copy_splice rfl (.tmp 31) (.tmp 32) 23 23 rfl 2 Try.underlying23 HInfo.out (some ⟨w1.heap.size, 0, none⟩) ao M M n cap rfl rfl w1.heap.size 0 (List.replicate M (Value.int .i64 0)) 2 HRow.out (ys.map (Value.int .i64)) HLen.out HP2.out HFit.out HOne.out w1.heap.size w1 HB2.out (Nat.le_refl _) ?_; intro w3 hg3 hb3; have HG3 := hid hg3; have HB3 := hid hb3; clear hg3 hb3))
  have HRow3 : Hid (w3.heap[w1.heap.size]? = some (.cells ((patL xs M ys.length).map (Value.int .i64)).toArray 2 (0, 0))) := hid (by rw [← HY3.out]; exact HG3.out)
  clear HG3 HRow HP2 HPos HLen HFit HOne HY3 HY1 HBm
  go_loopw [8] (fun i wr => ∃ c : Nat, c ≤ M ∧ n ∣ c ∧ (0 < c ∨ M = 0) ∧ i = .int .i64 c ∧ wr.heap[w1.heap.size]? = some (.cells ((patL xs M c).map (Value.int .i64)).toArray 2 (0, 0)) ∧ Below w1.heap.size w1 wr)
    (fun i _ => M - (intOf i).toNat)
  case atStart => exact ⟨_, hy6, HN2.out, hy5, rfl, HRow3.out, HB3.out⟩
  case round =>
    obtain ⟨c, hc, hdv, hp0, rfl, hrow, hb⟩ := hrel
    have HR := hid hrow
    have HB := hid hb
    have HD := hid hdv
    clear hrow hb hdv HN2 HRow3 HB3
    by_cases hlt : c < M
    · have hcp : 0 < c := by omega
      have hne : ¬ M = c := by omega
      obtain ⟨d, hd⟩ : ∃ d, d = Nat.min c (M - c) := ⟨_, rfl⟩
      have hdc : d ≤ c := by rw [hd]; exact Nat.min_le_left _ _
      have hdM : d ≤ M - c := by rw [hd]; exact Nat.min_le_right _ _
      have hdp : 0 < d := by rw [hd]; exact Nat.lt_min.2 ⟨hcp, by omega⟩
      obtain ⟨cs, hcs⟩ : ∃ cs, cs = ((patL xs M c).take d).map (Value.int .i64) := ⟨_, rfl⟩
      have hcl : cs.length = d := by rw [hcs]; simp [pat_len]; omega
      have HCl : Hid (cs.length = Nat.min c (M - c)) := hid (hcl.trans hd)
      have HNew : Hid (splice ((patL xs M c).map (Value.int .i64)) c cs = (patL xs M (c + d)).map (Value.int .i64)) := hid (by rw [hcs]; exact HMore.out c d hc hd HD.out)
      have HSrc : Hid (∀ (W : World), W.heap[w1.heap.size]? = some (.cells ((patL xs M c).map (Value.int .i64)).toArray 2 (0, 0)) → ∀ j u, cs[j]? = some u → W.cell? (Addr.add ⟨w1.heap.size, 0, none⟩ j) = some u) := hid (fun W hW j u hj => by
        rw [Addr.add_lit, hcs] at *
        have hj2 : ((patL xs M c).map (Value.int .i64))[j]? = some u := by
          rw [List.getElem?_map, List.getElem?_take] at hj
          by_cases hjd : j < d
          · rw [if_pos hjd] at hj; rw [List.getElem?_map]; exact hj
          · rw [if_neg hjd] at hj; simp at hj
        simp [World.cell?, hW]
        simpa using hj2)
      have HFt : Hid (c + cs.length ≤ ((patL xs M c).map (Value.int .i64)).length) := hid (by rw [List.length_map, pat_len, hcl]; omega)
      have HOn : Hid (∀ u ∈ cs, u.oneCell' = true) := hid (by rw [hcs]; intro u hu; obtain ⟨x, _, rfl⟩ := List.mem_map.1 hu; rfl)
      have HDv : Hid (n ∣ c + d) := hid (by
        by_cases h : c ≤ M - c
        · have : d = c := by rw [hd]; exact Nat.min_eq_left h
          rw [this]; exact Nat.dvd_add HD.out HD.out
        · have h2 : d = M - c := by rw [hd]; exact Nat.min_eq_right (by omega)
          have h3 : c + d = M := by omega
          rw [h3, HMM.out, ← HNn.out]; exact ⟨k, Nat.mul_comm _ _⟩)
      clear hcs hd
      go_wp2_with fail
      go_region_held3 (fun w' => True) (exact trivial)
        (first
          | (refine step_copy_splice rfl (.tmp 41) (.tmp 44) 23 23 rfl 2 Try.underlying23 HInfo.out _ _ _ _ _ _ rfl rfl w1.heap.size c ((patL xs M c).map (Value.int .i64)) 2 HR.out cs HCl.out (fun _ => ⟨rfl, _, rfl, HSrc.out _ HR.out⟩) HFt.out HOn.out w1.heap.size w1 (HB.out.drew) (Nat.le_refl _) ?_; intro w4 hg4 hb4; have HG4 := hid hg4; have HB4 := hid hb4; clear hg4 hb4))
      have hwr : IntKind.i64.wrap ((c : Int) + (d : Int)) = ((c + d : Nat) : Int) := by rw [IntKind.wrap_i64]; omega
      go_wp2
      go_roundw
      case rel => exact ⟨c + d, by omega, HDv.out, .inl (by omega), by go_num, by rw [← HNew.out]; exact HG4.out, HB4.out⟩
      case measure => simp [intOf]; omega
    · obtain rfl : c = M := by omega
      have HOwn : Hid (sl.Own wr w1.heap.size wr.heap.size (.slice (some ⟨w1.heap.size, 0, none⟩) c c) (rep k xs)) := hid (by
        have hl : (rep k xs).length = c := by rw [← HFin.out, pat_len]
        have h1 := HR.out
        rw [HFin.out] at h1
        refine sl.Own.mk' ⟨by simp, .inr ⟨w1.heap.size, c, _, by rw [hl], Nat.le_refl _, h1, by rw [hl]; exact Nat.le_refl _, by unfold maxLen; omega, by simp [hl], ?_⟩⟩
        rw [List.take_of_length_le (by simp)])
      go_wp2
      go_ret
      exact ⟨_, rfl, HOwn.out, HB.out⟩
end Go.Proofs.Ytfechjhngcmdpab.bn

/- BraidOfNormal: the program. -/
namespace Go.Proofs.Ytfechjhngcmdpab.bn
open Go.RowKit Go.Proofs.Ytfechjhngcmdpab.sl Go.Proofs.Ytfechjhngcmdpab.pm Go.Proofs.Ytfechjhngcmdpab.fn Go.Proofs.Ytfechjhngcmdpab.br Go.Proofs.Ytfechjhngcmdpab.ss Go.Proofs.Ytfechjhngcmdpab.nb Go.Proofs.Ytfechjhngcmdpab.ai Go.Proofs.Ytfechjhngcmdpab.vn
set_option linter.unusedVariables false

def wordsL (k : Nat) (tw : List Int) (rows : List (List Int)) (j : Nat) : List (List Int) := rep k tw :: (rows.take j).map fun r => upW (redW r)
theorem words_len (k : Nat) (tw : List Int) (rows : List (List Int)) (j : Nat) (h : j ≤ rows.length) : (wordsL k tw rows j).length = j + 1 := by simp [wordsL]; omega
theorem words_succ (k : Nat) (tw : List Int) (rows : List (List Int)) (j : Nat) (h : j < rows.length) : wordsL k tw rows (j + 1) = wordsL k tw rows j ++ [upW (redW (rows.getD j []))] := by
  simp only [wordsL]
  rw [List.take_succ_eq_append_getElem h, List.map_append]
  simp [List.getD, List.getElem?_eq_getElem h]
theorem words_flat (k : Nat) (tw : List Int) (rows : List (List Int)) : (wordsL k tw rows rows.length).flatten = rep k tw ++ fW rows rows.length := by simp [wordsL, fW]
theorem join_bn {s p : Int} {rows : List (List Int)} {L : List (List Int)} (h : nvB s p rows = true) (hs : s ≤ 12) (hL : L.flatten = bnL s p rows) : joinS s L = bnS s p rows ∧ joinW s L = bnW s p rows ∧ joinC s L = bnC s p rows := by
  have e : joinOk s L = bnB s p rows := by rw [joinOk, bnB, h, hL, decide_eq_true hs]
  have e2 : ¬ nvB s p rows = false := by rw [h]; simp
  refine ⟨by rw [joinS, bnS, e], by rw [joinW, bnW, e, hL], by rw [joinC, bnC, e, if_neg e2]⟩
theorem rr_one {w : World} {lo : Nat} {v : Value} {xs : List Int} (o : sl.Own w lo w.heap.size v xs) (hl : lo ≤ w.heap.size) : rr.RR (w.alloc (.cells #[v] 23)) lo (.slice (some ⟨w.heap.size, 0, none⟩) 1 1) [v] [xs] := by
  refine ⟨rfl, ⟨rfl, .inr ⟨w.heap.size, 1, #[v], rfl, hl, heap_alloc_new w _, Nat.le_refl _, by unfold maxLen; omega, rfl, rfl⟩⟩, fun j hj => ?_, fun g hg y hy => ?_⟩
  · obtain rfl : j = 0 := by simpa using hj
    exact rr.own_kept o (rr.grown_alloc w _) (fun k e => by cases e)
  · simp [Value.ownBlock] at hg
    subst hg
    obtain rfl : y = v := by simpa using hy
    intro e
    have := o.2.1 _ e
    omega
theorem rr_wds {w : World} {lo g c : Nat} {vals : List Value} {L : List (List Int)} (h : rr.RR w lo (.slice (some ⟨g, 0, none⟩) L.length c) vals L) : Wds w w.heap.size g L := by
  intro j hj
  have o := h.els j hj
  obtain ⟨ao, cap, hv⟩ := br.own_val o
  have hc := h.cell j hj
  rw [hv] at hc o
  exact ⟨ao, cap, hc, o.ints, nilok_own o⟩

theorem rr_pos {w : World} {lo : Nat} {v : Value} {vals : List Value} {L : List (List Int)} (h : rr.RR w lo v vals L) (hL : 0 < L.length) : ∃ g c, v = .slice (some ⟨g, 0, none⟩) L.length c ∧ g < w.heap.size := by
  rcases h.row.2 with ⟨_, h0⟩ | ⟨g, c, cur, h1, h2, h3, _⟩
  · omega
  · exact ⟨g, c, h1, (Array.getElem?_eq_some_iff.1 h3).1⟩
theorem sep_of {w w4 : World} {lo : Nat} {v v4 : Value} {vals : List Value} {L : List (List Int)} {xs : List Int} (h : rr.RR w lo v vals L) (o : sl.Own w4 w.heap.size w4.heap.size v4 xs) : ∀ g, v.ownBlock = some g → v4.ownBlock ≠ some g := fun g e e2 => by
  have h1 := (h.row.lt g e).2
  have h2 := (o.1.lt g e2).1
  omega
theorem C0.grownR {w X Y : World} {s p : Int} {f v : Value} {vals : List Value} {L : List (List Int)} (h : C0 w X s p f) (hv : rr.RR X (w.heap.size + 2) v vals L) (hg : X.grownBy Y v.ownBlock) : C0 w Y s p f :=
  ⟨h.b.trans ⟨hg.os, hg.tape, hg.output, hg.size, fun k hk => hg.block k (by have := h.size; omega) (fun e => by have := (hv.row.lt k e.symm).1; omega)⟩⟩
set_option maxHeartbeats 1000000 in
theorem wp_appR {ops : Array Oper} {rest : List Oper} {o : Oper} {a : Act} {Q : Exit → Act → World → Prop} {w : World} (hgd : o.guard = none) (s x : Operand)
    (hop : o.op = .call { callee := .builtin .append, args := #[s, x], argTypes := #[22, 22] })
    (lo : Nat) (v : Value) (n : Nat) (vals : List Value) (ho : w.ownsRow lo 23 1 v n vals) (hs : a.eval s = v) (ad : Addr) (c1 : Nat) (y : Value) (hx : a.eval x = .slice (some ad) 1 c1) (hc : w.cell? ad = some y) (hy1 : y.oneCell' = true) (hlo : lo ≤ w.heap.size) (hn : n ≤ 1048576)
    (hK : ∀ v' w', w'.ownsRow lo 23 1 v' (n + 1) (vals ++ [y]) → w.grownBy w' v.ownBlock → (v'.ownBlock = v.ownBlock ∨ v'.ownBlock = some w.heap.size) → wpList Try.prog ops Q rest (a.put o.dst v') w') : wpList Try.prog ops Q (o :: rest) a w := by
  obtain ⟨i0, hi', hz0, hz1, hz2⟩ := info_parts ss.infoS
  obtain ⟨v', w', hr, h2, h3, h4, h5⟩ := run_append_own_at (P := Try.prog) w lo 22 o.type 23 i0 (.slice none 0 0) 1 24 Try.underlying22 hi' hz0 hz1 hz2 rfl (by decide) v n vals ho ad 1 c1 [y] (by simp)
    (fun j u hj => by
      match j, hj with
      | 0, hj =>
        simp only [List.getElem?_cons_zero, Option.some.injEq] at hj
        subst hj
        have : ad.add 0 = ad := by cases ad; simp [Addr.add]
        rw [this]; exact hc)
    (fun u hu => by simp at hu; subst hu; exact hy1) (by unfold maxLen; omega) (by omega) hlo
  refine wpList_plain hgd fun K hKK => ?_
  unfold Oper.wp execOp
  simp only [hop, resolve, invoke, builtin, Sem.run_bind, Sem.run_pure, Result.andThen_ok, List.map_toArray, List.map_cons, List.map_nil, hs, hx, hr]
  exact hKK _ _ (hK v' w' h2 h3 h5)

set_option maxRecDepth 100000 in
set_option maxHeartbeats 8000000 in
theorem implBN (s p : Int) (rows : List (List Int)) (f : Value) (B : Nat) (w : World) (ha : RowsC w B f rows) (hB : B ≤ w.heap.size) (hq : Small rows) :
    Calls Try.prog 19 #[.agg #[.int .i64 s, .int .i64 p, f]] w fun e w' => ∃ ao cap, e = .returned (.tuple #[.agg #[.int .i64 (bnS s p rows), .slice ao (bnW s p rows).length cap], .int .i64 (bnC s p rows)]) ∧ sl.Own w' w.heap.size w'.heap.size (.slice ao (bnW s p rows).length cap) (bnW s p rows) ∧ Below w.heap.size w w' := by
  have hC0 : C0 w (W0 w s p f) s p f := ⟨Below.refl _ _⟩
  have hc := hC0.c
  have HO := hid (implVN s p rows f B (W0 w s p f) (ha.chg (Chg.ofBelow (lo := 0) hC0.below) (.inr (Nat.zero_le _))) (by have := hC0.size; omega) hq)
  have HA := hid ha
  have HC0 := hid hC0
  obtain ⟨ao, cap, hv⟩ := rows_val ha.rows
  obtain ⟨d0, d1, d2, r0, r1, q0, q1⟩ := hc
  clear hC0
  have hW0 : W0 w s p f = (w.alloc (.cells #[.int .i64 s, .int .i64 p, f] 40)).alloc (.cells #[.int .i64 0, .slice none 0 0] 37) := rfl
  by_cases hnv : nvB s p rows = false
  · have HE := hid (bn_bad hnv)
    rw [hnv] at HO
    rw [HE.out.1, HE.out.2.1, HE.out.2.2]
    clear ha hq HA hnv
    generalize W0 w s p f = X0 at *
    subst hv
    go_enter Try.func19, Try.ntmps19
    go_wp2_with fail
    rw [← hW0]
    go_wp2_with fail
    refine HO.out.mono ?_
    rintro e w1 ⟨rfl, b1⟩
    have HC1 := hid (HC0.out.next b1)
    clear d0 d1 d2 r0 r1 q0 q1
    obtain ⟨d0, d1, d2, r0, r1, q0, q1⟩ := HC1.out.c
    clear b1
    go_wp2
    have hf := HC1.out.fin (sl.Own.nil _ _) (.int .i64 0) (.slice none 0 0)
    exact bodyPost_ret (v := .tuple #[.agg #[.int .i64 0, .slice none 0 0], .int .i64 1]) (by simp [results, Try.results19, go_sem, r0, r1]) rfl ⟨none, 0, rfl, hf.1, hf.2⟩
  · have hnv' : nvB s p rows = true := by simpa using hnv
    obtain ⟨hs, hp, hr, hrow⟩ := nv_parts hnv'
    have HRow := hid hrow
    have HLen := hid (hW_len s hs)
    have HSm := hid (hW_small s hs)
    have HJn := hid (fun L hL => join_bn (L := L) hnv' hs.2 hL)
    have HFw := hid (fW_len hnv' rows.length (Nat.le_refl _))
    rw [hnv'] at HO
    obtain ⟨m, rfl⟩ := Int.eq_ofNat_of_zero_le hs.1
    have hm : m ≤ 12 := by omega
    have HHW : Hid (upW (redW (halfL m)) = hW (m : Int)) := hid rfl
    have HTw : Hid (twiL (m : Int) = halfL m) := hid (by rw [twiL, if_pos (by simp [idOk]; omega)]; rfl)
    have HHp := hid (half_perm m hm)
    clear ha hnv hnv' hrow hs hq
    generalize W0 w (m : Int) p f = X0 at *
    subst hv
    generalize bnS (m : Int) p rows = S1 at *
    generalize bnW (m : Int) p rows = W1 at *
    generalize bnC (m : Int) p rows = C1 at *
    go_enter Try.func19, Try.ntmps19
    go_wp2_with fail
    rw [← hW0]
    go_wp2_with fail
    refine HO.out.mono ?_
    rintro e w1 ⟨rfl, b1⟩
    have HC1 := hid (HC0.out.next b1)
    clear b1 hW0 HO d0 d1 d2 r0 r1 q0 q1
    obtain ⟨d0, d1, d2, r0, r1, q0, q1⟩ := HC1.out.c
    go_wp2_with fail
    refine (implTwist (m : Int) w1).mono ?_
    rintro e w2 ⟨v2, rfl, o2, b2⟩
    rw [HTw.out] at o2
    go_wp2_with fail
    refine (implPermLetters (halfL m) v2 w2.heap.size w2 o2.ints (Nat.le_refl _) (by rw [halfL_len]; omega) (nilok_own o2) HHp.out).mono ?_
    rintro e w3 ⟨v3, rfl, o3, b3⟩
    rw [HHW.out] at o3
    have hsz2 := b2.size
    have hsz3 := b3.size
    have hg1 : w.heap.size + 2 ≤ w1.heap.size := HC1.out.size
    have HC3 := hid ((HC1.out.next b2).next b3)
    have H3 : Hid (sl.Own w3 (w.heap.size + 2) w3.heap.size v3 (hW (m : Int))) := hid (o3.lo (by omega))
    clear o2 o3 b2 b3 d0 d1 d2 r0 r1 q0 q1 HC1
    obtain ⟨d0, d1, d2, r0, r1, q0, q1⟩ := HC3.out.c
    by_cases hneg : p < 0
    · obtain ⟨kk, rfl⟩ : ∃ kk : Nat, p = -(kk : Int) := ⟨(-p).toNat, by omega⟩
      obtain ⟨ao3, cap3, rfl⟩ := br.own_val H3.out
      go_wp2_with fail
      refine (implInverted (m : Int) (hW (m : Int)) _ w3.heap.size w3 H3.out.ints (Nat.le_refl _) (by have := HLen.out; omega) HSm.out).mono ?_
      rintro e wk ⟨ak, ck, rfl, ok, bk⟩
      have hszb := bk.size
      obtain ⟨TW, hTW⟩ : ∃ t, t = iW (hW (m : Int)) := ⟨_, rfl⟩
      have HPw : Hid (preW (m : Int) (-(kk : Int)) = rep kk TW) := hid (by rw [preW, hTW, show (-(kk : Int)).toNat = 0 by omega, rep_zero, List.nil_append, show (-(-(kk : Int))).toNat = kk by omega])
      have HTl : Hid (TW.length ≤ 144) := hid (by rw [hTW, iW_len]; exact HLen.out)
      have H4 : Hid (sl.Own wk (w.heap.size + 2) wk.heap.size (.slice ak (hW (m : Int)).length ck) TW) := hid (by rw [hTW]; exact ok.lo (by have := HC3.out.size; omega))
      have HCk := hid (HC3.out.next bk)
      clear H3 HC3 hTW HLen HSm ok bk d0 d1 d2 r0 r1 q0 q1
      obtain ⟨d0, d1, d2, r0, r1, q0, q1⟩ := HCk.out.c
      have hmx : max (-(kk : Int)) (kk : Int) = (kk : Int) := by omega
      have hfd := br.fieldWord (m : Int) ak (hW (m : Int)).length ck wk

      go_wp2_with fail
      refine (repeatW TW kk (.slice ak (hW (m : Int)).length ck) wk.heap.size wk H4.out.ints (Nat.le_refl _) (by have := HTl.out; omega) (by omega)).mono ?_
      rintro e w5 ⟨v5, rfl, o5, b5⟩
      obtain ⟨a5, c5, rfl⟩ := br.own_val o5
      have hsz5 := b5.size
      have hszk := HCk.out.size
      have HRR : Hid (rr.RR (w5.alloc (.cells #[Value.slice a5 (rep kk TW).length c5] 23)) (w.heap.size + 2) (.slice (some ⟨w5.heap.size, 0, none⟩) 1 1) [Value.slice a5 (rep kk TW).length c5] [rep kk TW]) := hid (rr_one (o5.lo (by omega)) (by omega))
      have HC5 := hid ((HCk.out.next b5).next ((Below.refl _ w5).alloc (Nat.le_refl _) (.cells #[Value.slice a5 (rep kk TW).length c5] 23)))
      clear d0 d1 d2 r0 r1 q0 q1
      obtain ⟨d0, d1, d2, r0, r1, q0, q1⟩ := HC5.out.c
      clear o5 b5 H4 HCk hmx
      go_wp2
      go_loopw [5, 37] (fun v i wr => ∃ (j : Nat) (vals : List Value), j ≤ rows.length ∧ i = .int .i64 j ∧ rr.RR wr (w.heap.size + 2) v vals (wordsL kk TW rows j) ∧ C0 w wr (m : Int) (-(kk : Int)) (.slice ao rows.length cap))
        (fun _ i _ => rows.length - (intOf i).toNat)
      case atStart => exact ⟨0, [Value.slice a5 (rep kk TW).length c5], Nat.zero_le _, rfl, HRR.out, HC5.out⟩
      case round =>
        obtain ⟨j, vals, hj, rfl, hrr, hc⟩ := hrel
        have HRr := hid hrr
        have HC := hid hc
        have hsz := hc.size
        have HR := hid (HA.out.chg (Chg.ofBelow (lo := 0) hc.below) (.inr (Nat.zero_le _)))
        clear hrr hc HRR HC5 d0 d1 d2 r0 r1 q0 q1
        by_cases hlt : j < rows.length
        · have hR := HRow.out j hlt
          rcases HR.out with ⟨h0, _⟩ | ⟨hp1, b, off, cap', V, hv1, hb1, hcs⟩
          · rw [h0] at hlt; simp at hlt
          · simp only [Value.slice.injEq] at hv1
            obtain ⟨rfl, _, rfl⟩ := hv1
            obtain ⟨hck, hin, hcap⟩ := hcs j hlt
            have HNx := hid (words_succ kk TW rows j hlt)
            have HWl := hid (words_len kk TW rows j hj)
            have HWd := hid (implPermLetters (rows.getD j []) (V j) B wr hin (by omega) (by omega) (nilok_pos hin (by omega)) hR.2.2)
            clear hcs hin hcap hR HR
            generalize rows.getD j [] = r at *
            generalize V j = y at *
            go_wp2_with fail
            refine HWd.out.mono ?_
            rintro e w4 ⟨v4, rfl, o4, b4⟩
            obtain ⟨a4, c4, rfl⟩ := br.own_val o4
            have hsz4 := b4.size
            have HA4 : Hid (Below w4.heap.size w4 (w4.alloc (.cells #[Value.slice a4 (upW (redW r)).length c4] 23))) := hid ((Below.refl _ w4).alloc (Nat.le_refl _) _)
            have HR4 := hid ((HRr.out.kept (rr.grown_below b4 (Nat.le_refl _)) (rr.safe_none _ _)).kept (rr.grown_alloc w4 (.cells #[Value.slice a4 (upW (redW r)).length c4] 23)) (rr.safe_none _ _))
            have HC4 := hid ((HC.out.next b4).next HA4.out)
            have HO4 := hid (rr.own_kept (o4.lo (lo' := w.heap.size + 2) (by omega)) (rr.grown_alloc w4 (.cells #[Value.slice a4 (upW (redW r)).length c4] 23)) (fun k e => by cases e))
            have HSep := hid (sep_of HRr.out o4)
            have HOc : Hid ((Value.slice a4 (upW (redW r)).length c4).oneCell' = true) := hid rfl
            have HCl : Hid ((w4.alloc (.cells #[Value.slice a4 (upW (redW r)).length c4] 23)).cell? ⟨w4.heap.size, 0, none⟩ = some (Value.slice a4 (upW (redW r)).length c4)) := hid (World.cell?_alloc_at _ _ _ _ rfl)
            clear b4 o4
            go_wp2_with (at_builtin; refine wp_appR rfl _ _ rfl (w.heap.size + 2) _ (wordsL kk TW rows j).length vals HR4.out.row rfl ⟨w4.heap.size, 0, none⟩ 1 (Value.slice a4 (upW (redW r)).length c4) rfl HCl.out HOc.out (by simp; omega) (by rw [HWl.out]; omega) ?_; intro v' w6 o6 hg6 h56)
            have HR6 := hid (HR4.out.app o6 hg6 h56 HO4.out HSep.out)
            have HC6 := hid (HC4.out.grownR HR4.out hg6)
            clear o6 hg6 h56
            go_wp2
            go_roundw
            case rel => exact ⟨j + 1, vals ++ [Value.slice a4 (upW (redW r)).length c4], by omega, by go_num, by rw [HNx.out]; exact HR6.out, HC6.out⟩
            case measure => simp [intOf]; omega
        · obtain rfl : j = rows.length := by omega
          obtain ⟨L, hLw⟩ : ∃ L, L = wordsL kk TW rows rows.length := ⟨_, rfl⟩
          have HFl : Hid (L.flatten = bnL (m : Int) (-(kk : Int)) rows) := hid (by rw [hLw, words_flat, bnL, HPw.out])
          have HLl : Hid (L.length = rows.length + 1) := hid (by rw [hLw, words_len kk TW rows _ (Nat.le_refl _)])
          have HTot : Hid (L.flatten.length ≤ 1048576) := hid (by
            rw [hLw, words_flat, List.length_append, rep_len]
            have a1 : kk * TW.length ≤ 100 * 144 := Nat.mul_le_mul (by omega) HTl.out
            have a2 := HFw.out
            omega)
          have HJ := hid (HJn.out L HFl.out)
          rw [← hLw] at HRr
          obtain ⟨g, c, hu, hgl⟩ := rr_pos HRr.out (by rw [HLl.out]; omega)
          subst hu
          have HWds := hid (rr_wds HRr.out)
          obtain ⟨d0, d1, d2, r0, r1, q0, q1⟩ := HC.out.c
          clear hLw HFl HR HRow HRr
          go_wp2_with fail
          refine (implJoined (m : Int) L g c wr.heap.size wr HWds.out (Nat.le_refl _) hgl (by rw [HLl.out]; omega) HTot.out).mono ?_
          rintro e w7 ⟨a7, c7, rfl, o7, b7⟩
          rw [HJ.out.1, HJ.out.2.1, HJ.out.2.2]
          rw [HJ.out.2.1] at o7
          have HC7 := hid (HC.out.next b7)
          have hf := HC7.out.fin (o7.lo (by omega)) (.int .i64 S1) (.slice a7 W1.length c7)
          have HF := hid hf
          clear d0 d1 d2 r0 r1 q0 q1 hf o7 b7 HJ HTot HWds
          obtain ⟨d0, d1, d2, r0, r1, q0, q1⟩ := HC7.out.c
          go_wp2
          exact bodyPost_ret (v := .tuple #[.agg #[.int .i64 S1, .slice a7 W1.length c7], .int .i64 C1]) (by simp [results, Try.results19, go_sem, r0, r1]) rfl ⟨a7, c7, rfl, HF.out.1, HF.out.2⟩

    · obtain ⟨kk, rfl⟩ := Int.eq_ofNat_of_zero_le (show 0 ≤ p by omega)
      obtain ⟨TW, hTW⟩ : ∃ t, t = hW (m : Int) := ⟨_, rfl⟩
      have HPw : Hid (preW (m : Int) (kk : Int) = rep kk TW) := hid (by rw [preW, hTW, show (-(kk : Int)).toNat = 0 by omega, rep_zero, List.append_nil]; simp)
      rw [← hTW] at H3 HLen
      have HTl := hid HLen.out
      have H4 := hid H3.out
      have HCk := hid HC3.out
      generalize v3 = v4 at *
      generalize w3 = wk at *
      clear H3 HC3 hTW HLen HSm
      have hmx : max (kk : Int) (-(kk : Int)) = (kk : Int) := by omega

      go_wp2_with fail
      refine (repeatW TW kk v4 wk.heap.size wk H4.out.ints (Nat.le_refl _) (by have := HTl.out; omega) (by omega)).mono ?_
      rintro e w5 ⟨v5, rfl, o5, b5⟩
      obtain ⟨a5, c5, rfl⟩ := br.own_val o5
      have hsz5 := b5.size
      have hszk := HCk.out.size
      have HRR : Hid (rr.RR (w5.alloc (.cells #[Value.slice a5 (rep kk TW).length c5] 23)) (w.heap.size + 2) (.slice (some ⟨w5.heap.size, 0, none⟩) 1 1) [Value.slice a5 (rep kk TW).length c5] [rep kk TW]) := hid (rr_one (o5.lo (by omega)) (by omega))
      have HC5 := hid ((HCk.out.next b5).next ((Below.refl _ w5).alloc (Nat.le_refl _) (.cells #[Value.slice a5 (rep kk TW).length c5] 23)))
      clear d0 d1 d2 r0 r1 q0 q1
      obtain ⟨d0, d1, d2, r0, r1, q0, q1⟩ := HC5.out.c
      clear o5 b5 H4 HCk hmx
      go_wp2
      go_loopw [5, 37] (fun v i wr => ∃ (j : Nat) (vals : List Value), j ≤ rows.length ∧ i = .int .i64 j ∧ rr.RR wr (w.heap.size + 2) v vals (wordsL kk TW rows j) ∧ C0 w wr (m : Int) (kk : Int) (.slice ao rows.length cap))
        (fun _ i _ => rows.length - (intOf i).toNat)
      case atStart => exact ⟨0, [Value.slice a5 (rep kk TW).length c5], Nat.zero_le _, rfl, HRR.out, HC5.out⟩
      case round =>
        obtain ⟨j, vals, hj, rfl, hrr, hc⟩ := hrel
        have HRr := hid hrr
        have HC := hid hc
        have hsz := hc.size
        have HR := hid (HA.out.chg (Chg.ofBelow (lo := 0) hc.below) (.inr (Nat.zero_le _)))
        clear hrr hc HRR HC5 d0 d1 d2 r0 r1 q0 q1
        by_cases hlt : j < rows.length
        · have hR := HRow.out j hlt
          rcases HR.out with ⟨h0, _⟩ | ⟨hp1, b, off, cap', V, hv1, hb1, hcs⟩
          · rw [h0] at hlt; simp at hlt
          · simp only [Value.slice.injEq] at hv1
            obtain ⟨rfl, _, rfl⟩ := hv1
            obtain ⟨hck, hin, hcap⟩ := hcs j hlt
            have HNx := hid (words_succ kk TW rows j hlt)
            have HWl := hid (words_len kk TW rows j hj)
            have HWd := hid (implPermLetters (rows.getD j []) (V j) B wr hin (by omega) (by omega) (nilok_pos hin (by omega)) hR.2.2)
            clear hcs hin hcap hR HR
            generalize rows.getD j [] = r at *
            generalize V j = y at *
            go_wp2_with fail
            refine HWd.out.mono ?_
            rintro e w4 ⟨v4, rfl, o4, b4⟩
            obtain ⟨a4, c4, rfl⟩ := br.own_val o4
            have hsz4 := b4.size
            have HA4 : Hid (Below w4.heap.size w4 (w4.alloc (.cells #[Value.slice a4 (upW (redW r)).length c4] 23))) := hid ((Below.refl _ w4).alloc (Nat.le_refl _) _)
            have HR4 := hid ((HRr.out.kept (rr.grown_below b4 (Nat.le_refl _)) (rr.safe_none _ _)).kept (rr.grown_alloc w4 (.cells #[Value.slice a4 (upW (redW r)).length c4] 23)) (rr.safe_none _ _))
            have HC4 := hid ((HC.out.next b4).next HA4.out)
            have HO4 := hid (rr.own_kept (o4.lo (lo' := w.heap.size + 2) (by omega)) (rr.grown_alloc w4 (.cells #[Value.slice a4 (upW (redW r)).length c4] 23)) (fun k e => by cases e))
            have HSep := hid (sep_of HRr.out o4)
            have HOc : Hid ((Value.slice a4 (upW (redW r)).length c4).oneCell' = true) := hid rfl
            have HCl : Hid ((w4.alloc (.cells #[Value.slice a4 (upW (redW r)).length c4] 23)).cell? ⟨w4.heap.size, 0, none⟩ = some (Value.slice a4 (upW (redW r)).length c4)) := hid (World.cell?_alloc_at _ _ _ _ rfl)
            clear b4 o4
            go_wp2_with (at_builtin; refine wp_appR rfl _ _ rfl (w.heap.size + 2) _ (wordsL kk TW rows j).length vals HR4.out.row rfl ⟨w4.heap.size, 0, none⟩ 1 (Value.slice a4 (upW (redW r)).length c4) rfl HCl.out HOc.out (by simp; omega) (by rw [HWl.out]; omega) ?_; intro v' w6 o6 hg6 h56)
            have HR6 := hid (HR4.out.app o6 hg6 h56 HO4.out HSep.out)
            have HC6 := hid (HC4.out.grownR HR4.out hg6)
            clear o6 hg6 h56
            go_wp2
            go_roundw
            case rel => exact ⟨j + 1, vals ++ [Value.slice a4 (upW (redW r)).length c4], by omega, by go_num, by rw [HNx.out]; exact HR6.out, HC6.out⟩
            case measure => simp [intOf]; omega
        · obtain rfl : j = rows.length := by omega
          obtain ⟨L, hLw⟩ : ∃ L, L = wordsL kk TW rows rows.length := ⟨_, rfl⟩
          have HFl : Hid (L.flatten = bnL (m : Int) (kk : Int) rows) := hid (by rw [hLw, words_flat, bnL, HPw.out])
          have HLl : Hid (L.length = rows.length + 1) := hid (by rw [hLw, words_len kk TW rows _ (Nat.le_refl _)])
          have HTot : Hid (L.flatten.length ≤ 1048576) := hid (by
            rw [hLw, words_flat, List.length_append, rep_len]
            have a1 : kk * TW.length ≤ 100 * 144 := Nat.mul_le_mul (by omega) HTl.out
            have a2 := HFw.out
            omega)
          have HJ := hid (HJn.out L HFl.out)
          rw [← hLw] at HRr
          obtain ⟨g, c, hu, hgl⟩ := rr_pos HRr.out (by rw [HLl.out]; omega)
          subst hu
          have HWds := hid (rr_wds HRr.out)
          obtain ⟨d0, d1, d2, r0, r1, q0, q1⟩ := HC.out.c
          clear hLw HFl HR HRow HRr
          go_wp2_with fail
          refine (implJoined (m : Int) L g c wr.heap.size wr HWds.out (Nat.le_refl _) hgl (by rw [HLl.out]; omega) HTot.out).mono ?_
          rintro e w7 ⟨a7, c7, rfl, o7, b7⟩
          rw [HJ.out.1, HJ.out.2.1, HJ.out.2.2]
          rw [HJ.out.2.1] at o7
          have HC7 := hid (HC.out.next b7)
          have hf := HC7.out.fin (o7.lo (by omega)) (.int .i64 S1) (.slice a7 W1.length c7)
          have HF := hid hf
          clear d0 d1 d2 r0 r1 q0 q1 hf o7 b7 HJ HTot HWds
          obtain ⟨d0, d1, d2, r0, r1, q0, q1⟩ := HC7.out.c
          go_wp2
          exact bodyPost_ret (v := .tuple #[.agg #[.int .i64 S1, .slice a7 W1.length c7], .int .i64 C1]) (by simp [results, Try.results19, go_sem, r0, r1]) rfl ⟨a7, c7, rfl, HF.out.1, HF.out.2⟩

end Go.Proofs.Ytfechjhngcmdpab.bn

/- markNormalBraid. -/
namespace Go.Proofs.Ytfechjhngcmdpab.bn
open Go.RowKit Go.Proofs.Ytfechjhngcmdpab.sl Go.Proofs.Ytfechjhngcmdpab.ss
set_option linter.unusedVariables false

theorem markN (s p : Int) (rows : List (List Int)) (f : Value) (lo hi : Nat) (k0 : Int) (w : World) (ho : ROwn w lo hi f rows) (hq : nb.Small rows) (ht : tot rows ≤ 1048576) (hk0 : 0 ≤ k0) (hk1 : k0 ≤ 1048576) :
    Calls Try.prog 22 #[.agg #[.int .i64 s, .int .i64 p, f], .int .i64 k0] w fun e w' => ∃ k1 : Int, e = .returned (.int .i64 k1) ∧ 0 ≤ k1 ∧ Chg lo hi w w' := by
  have hB := (Below.refl w.heap.size w).alloc (Nat.le_refl _) (.cells #[.int .i64 s, .int .i64 p, f] 40)
  have hC0 : Chg lo hi w (w.alloc (.cells #[.int .i64 s, .int .i64 p, f] 40)) := ⟨hB.os, hB.tape, hB.output, hB.size, fun k hk _ => hB.block k hk⟩
  have HM := hid (markSS rows f lo hi k0 _ (ho.chg (Chg.ofBelow (lo := 0) hB) (.inr (.inr (Nat.zero_le _)))) hq.len (by omega) hq.short hk0 (by omega))
  have HC0 := hid hC0
  obtain ⟨ao, cap, hv⟩ := rows_val ho.rows
  have hkp : 0 ≤ k0 + (tot rows : Int) := by omega
  clear hB hC0 ho hq ht
  generalize tot rows = t at *
  generalize rows.length = n at *
  subst hv
  go_enter Try.func22, Try.ntmps22
  go_wp2_with fail
  refine HM.out.mono ?_
  rintro e w1 ⟨rfl, o1, c1⟩
  have HC := hid (HC0.out.trans c1)
  clear o1 c1
  go_wp2
  go_ret
  exact ⟨_, rfl, hkp, HC.out⟩
end Go.Proofs.Ytfechjhngcmdpab.bn
