/-
  In one file: Rq0, Rq2, Rq3, Rq1, Rq4, Rqw.
-/
import Derived.Test.YtbbnheiibkcgiabDoorChm
import Derived.Test.YtbbnheiibkcgiabDoorRp
import Derived.Deep.CutRange
/- RepeatChart: mathematics; what is answered. -/
namespace Go.Proofs.YtbbnheiibkcgiabDoor.cy
open Go.RowKit Go.Proofs.YtbbnheiibkcgiabDoor.sl Go.Proofs.YtbbnheiibkcgiabDoor.br Go.Proofs.YtbbnheiibkcgiabDoor.ss Go.Proofs.YtbbnheiibkcgiabDoor.ro Go.Proofs.YtbbnheiibkcgiabDoor.cm Go.Proofs.YtbbnheiibkcgiabDoor.cx
set_option linter.unusedVariables false
set_option linter.unusedSimpArgs false
set_option maxRecDepth 100000

/-- k copies of the rows. -/
def repR (xs : List V) (k : Nat) : List V := (List.replicate k xs).flatten
theorem repR_one (xs : List V) : repR xs 1 = xs := by simp [repR]
theorem repR_succ (xs : List V) (k : Nat) : repR xs (k + 1) = repR xs k ++ xs := by
  unfold repR
  rw [List.replicate_succ', List.flatten_append]
  simp
theorem repR_len (xs : List V) (k : Nat) : (repR xs k).length = k * xs.length := by simp [repR]
/-- The code of RepeatChart. -/
def rpK (c : Int) (xs : List V) (t : Int) : Int :=
  if chB c xs then (if 1 ≤ t ∧ t ≤ 8 then (if 1 < t ∧ lastC c xs ≠ c then 10 else if chB c (repR xs t.toNat) then 0 else 5) else 2) else 1
def rpC (c : Int) (xs : List V) (t : Int) : Int := if rpK c xs t = 0 then c else 0
def rpR (c : Int) (xs : List V) (t : Int) : List V := if rpK c xs t = 0 then repR xs t.toNat else []
theorem small_rep {xs : List V} (hx : Small xs) (h8 : xs.length ≤ 8) : ∀ k, k ≤ 8 → Small (repR xs k)
  | 0, _ => ⟨by simp [repR], fun j hj => by simp [repR] at hj⟩
  | k + 1, hk => by
    have ih := small_rep hx h8 k (by omega)
    have hl : (repR xs k).length ≤ 64 := by
      rw [repR_len]
      have := Nat.mul_le_mul (show k ≤ 8 by omega) h8
      omega
    rw [repR_succ]
    refine ⟨by rw [List.length_append]; omega, fun j hj => ?_⟩
    by_cases h : j < (repR xs k).length
    · have : (repR xs k ++ xs).getD j iz = (repR xs k).getD j iz := by simp [List.getD, List.getElem?_append_left h]
      rw [this]; exact ih.short j h
    · have : (repR xs k ++ xs).getD j iz = xs.getD (j - (repR xs k).length) iz := by simp [List.getD, List.getElem?_append_right (show (repR xs k).length ≤ j by omega)]
      rw [this]; exact hx.short _ (by rw [List.length_append] at hj; omega)

/-- The two boxes of a call. -/
theorem box2 (w : World) (c : Int) (f : Value) : ∃ wb, wb = (w.alloc (.cells #[.int .i64 c, f] 28)).alloc (.cells #[.int .i64 0, .slice none 0 0] 28) ∧ wb.heap.size = w.heap.size + 2 ∧ Below w.heap.size w wb ∧ ∀ W, Below (w.heap.size + 2) wb W →
    W.cell? ⟨w.heap.size, 0, none⟩ = some (.int .i64 c) ∧ W.cell? ⟨w.heap.size, 1, none⟩ = some f ∧ W.cell? ⟨w.heap.size + 1, 0, none⟩ = some (.int .i64 0) ∧ W.cell? ⟨w.heap.size + 1, 1, none⟩ = some (.slice none 0 0) ∧ W.frozen? ⟨w.heap.size + 1, 0, none⟩ = false ∧ W.frozen? ⟨w.heap.size + 1, 1, none⟩ = false := by
  refine ⟨_, rfl, by simp, ((Below.refl _ w).alloc (Nat.le_refl _) _).alloc (by simp) _, fun W b => ?_⟩
  exact ⟨(b.cell (p := ⟨w.heap.size, 0, none⟩) (by simp)).trans (by go_simp), (b.cell (p := ⟨w.heap.size, 1, none⟩) (by simp)).trans (by go_simp), (b.cell (p := ⟨w.heap.size + 1, 0, none⟩) (by simp)).trans (by go_simp), (b.cell (p := ⟨w.heap.size + 1, 1, none⟩) (by simp)).trans (by go_simp), (b.frozen (p := ⟨w.heap.size + 1, 0, none⟩) (by simp)).trans (by go_simp), (b.frozen (p := ⟨w.heap.size + 1, 1, none⟩) (by simp)).trans (by go_simp)⟩

theorem rp_none {w w' : World} {c t : Int} {xs : List V} {k : Int} (h : rpK c xs t = k) (h0 : k ≠ 0) (b : Below w.heap.size w w') :
    ∃ ao cap, Ending.returned (.tuple #[.agg #[.int .i64 0, .slice none 0 0], .int .i64 k]) = .returned (.tuple #[.agg #[.int .i64 (rpC c xs t), .slice ao (rpR c xs t).length cap], .int .i64 (rpK c xs t)]) ∧ IOwn w' w.heap.size w'.heap.size (.slice ao (rpR c xs t).length cap) (rpR c xs t) ∧ Below w.heap.size w w' := by
  have e1 : rpC c xs t = 0 := by rw [rpC, h, if_neg h0]
  have e2 : rpR c xs t = [] := by rw [rpR, h, if_neg h0]
  rw [e1, e2, h]
  exact ⟨none, 0, rfl, ⟨Nat.le_refl _, .inl ⟨rfl, _, _, rfl⟩⟩, b⟩
theorem rp_some {w w' : World} {c t : Int} {xs : List V} (h : rpK c xs t = 0) {ao : Option Addr} {n cap : Nat} (hn : n = (repR xs t.toNat).length) (o : IOwn w' w.heap.size w'.heap.size (.slice ao n cap) (repR xs t.toNat)) (b : Below w.heap.size w w') :
    ∃ ao' cap', Ending.returned (.tuple #[.agg #[.int .i64 c, .slice ao n cap], .int .i64 0]) = .returned (.tuple #[.agg #[.int .i64 (rpC c xs t), .slice ao' (rpR c xs t).length cap'], .int .i64 (rpK c xs t)]) ∧ IOwn w' w.heap.size w'.heap.size (.slice ao' (rpR c xs t).length cap') (rpR c xs t) ∧ Below w.heap.size w w' := by
  have e1 : rpC c xs t = c := by rw [rpC, h, if_pos rfl]
  have e2 : rpR c xs t = repR xs t.toNat := by rw [rpR, h, if_pos rfl]
  rw [e1, e2, h]
  subst hn
  exact ⟨ao, cap, rfl, o, b⟩
end Go.Proofs.YtbbnheiibkcgiabDoor.cy

/- copy at elements of three cells; slices.Repeat of a list of rows. -/
namespace Go.Proofs.YtbbnheiibkcgiabDoor.cy
open Go.RowKit Go.Proofs.YtbbnheiibkcgiabDoor.sl Go.Proofs.YtbbnheiibkcgiabDoor.br Go.Proofs.YtbbnheiibkcgiabDoor.ss Go.Proofs.YtbbnheiibkcgiabDoor.ro Go.Proofs.YtbbnheiibkcgiabDoor.cm Go.Proofs.YtbbnheiibkcgiabDoor.cx
set_option linter.unusedVariables false
set_option linter.unusedSimpArgs false
set_option maxRecDepth 100000

theorem run_copy3 {P : Program} (w : World) (dT sT ty elem : TypeId) (g o dLen dCap : Nat) (a : Addr) (sLen sCap : Nat) (cur : Array Value) (t : TypeId) (cs : List Value)
    (hu : P.underlying dT = some (.slice elem)) (hs : (P.info? elem).map (·.size) = some 3)
    (hg : w.heap[g]? = some (.cells cur t (0, 0))) (m : Nat) (hm : Nat.min sLen dLen = m) (hn : cs.length = m * 3)
    (hsrc : ∀ j v, cs[j]? = some v → w.cell? (a.add j) = some v) (hfit : o + cs.length ≤ cur.size) (h1 : ∀ v ∈ cs, v.oneCell' = true) :
    (Builtin.copy_ #[dT, sT] ty #[.slice (some ⟨g, o, none⟩) dLen dCap, .slice (some a) sLen sCap]).run P w =
      .ok (goInt m) (w.setRow g (cur.toList.take o ++ cs ++ cur.toList.drop (o + cs.length)).toArray) := by
  have hl := run_loadCells_list (P := P) w a cs hsrc
  have hst := run_storeCells_at P g o t cs 0 cur w hg (by simpa using hfit) h1
  rw [hn] at hl
  cases hq : P.info? elem with
  | none => simp [hq] at hs
  | some i =>
    have hi : i.size = 3 := by simpa [hq] using hs
    simp [Builtin.copy_, run_underlying hu, Builtin.lenOf, Builtin.firstCells, sizeOf, typeInfo, hq, hi, hm, hl, hst]

theorem wpList_copy3 {P : Program} {w : World} {ops : Array Oper} {rest : List Oper} {o : Oper} {a : Act} {Q : Exit → Act → World → Prop} (hgd : o.guard = none) (d s : Operand) (dT sT : TypeId)
    (ho : o.op = .call { callee := .builtin .copy, args := #[d, s], argTypes := #[dT, sT] }) (elem : TypeId) (hu : P.underlying dT = some (.slice elem)) (hsz : (P.info? elem).map (·.size) = some 3)
    (g off dLen dCap : Nat) (ad : Addr) (sLen sCap : Nat) (hd : a.eval d = .slice (some ⟨g, off, none⟩) dLen dCap) (hs : a.eval s = .slice (some ad) sLen sCap)
    (cur : List Value) (t : TypeId) (hg : w.heap[g]? = some (.cells cur.toArray t (0, 0))) (cs : List Value) (m : Nat) (hm : Nat.min sLen dLen = m) (hn : cs.length = m * 3)
    (hsrc : ∀ j v, cs[j]? = some v → w.cell? (ad.add j) = some v) (hfit : off + cs.length ≤ cur.length) (h1 : ∀ v ∈ cs, v.oneCell' = true) (B : Nat) (w0 : World) (hb : Below B w0 w) (hBg : B ≤ g)
    (h : ∀ w', Hid (w'.heap[g]? = some (.cells (splice cur off cs).toArray t (0, 0))) → Below B w0 w' → wpList P ops Q rest (a.put o.dst (goInt m)) w') : wpList P ops Q (o :: rest) a w := by
  refine wpList_plain hgd fun K hK => ?_
  have hrun := run_copy3 (P := P) w dT sT o.type elem g off dLen dCap ad sLen sCap cur.toArray t cs hu hsz hg m hm hn hsrc (by simpa using hfit) h1
  unfold Oper.wp
  simp [execOp, ho, resolve, invoke, builtin, hd, hs, hrun, Result.andThen]
  exact hK _ _ (h _ (show _ = _ by simpa [splice] using setRow_heap w g _ _ t _ hg) (below_setRow hb hBg _))

theorem step_copy3 {P : Program} {ops : Array Oper} {o : Oper} {a : Act} {w : World} {K : Act → World → Prop} {Q : Exit → Act → World → Prop} {E : Prop} (hgd : o.guard = none) (d s : Operand) (dT sT : TypeId)
    (ho : o.op = .call { callee := .builtin .copy, args := #[d, s], argTypes := #[dT, sT] }) (elem : TypeId) (hu : P.underlying dT = some (.slice elem)) (hsz : (P.info? elem).map (·.size) = some 3)
    (g off dLen dCap : Nat) (ad : Addr) (sLen sCap : Nat) (hd : a.eval d = .slice (some ⟨g, off, none⟩) dLen dCap) (hs : a.eval s = .slice (some ad) sLen sCap)
    (cur : List Value) (t : TypeId) (hg : w.heap[g]? = some (.cells cur.toArray t (0, 0))) (cs : List Value) (m : Nat) (hm : Nat.min sLen dLen = m) (hn : cs.length = m * 3)
    (hsrc : ∀ j v, cs[j]? = some v → w.cell? (ad.add j) = some v) (hfit : off + cs.length ≤ cur.length) (h1 : ∀ v ∈ cs, v.oneCell' = true) (B : Nat) (w0 : World) (hb : Below B w0 w) (hBg : B ≤ g)
    (h : ∀ w', Hid (w'.heap[g]? = some (.cells (splice cur off cs).toArray t (0, 0))) → Below B w0 w' → K (a.put o.dst (goInt m)) w') : if Region.wanted o (yielded ops a.tmps) = true then Oper.wp P o a w K Q else E := by
  have hw : Region.wanted o (yielded ops a.tmps) = true := by simp [Region.wanted, hgd]
  rw [if_pos hw]
  have hrun := run_copy3 (P := P) w dT sT o.type elem g off dLen dCap ad sLen sCap cur.toArray t cs hu hsz hg m hm hn hsrc (by simpa using hfit) h1
  unfold Oper.wp
  simp [execOp, ho, resolve, invoke, builtin, hd, hs, hrun, Result.andThen]
  exact h _ (show _ = _ by simpa [splice] using setRow_heap w g _ _ t _ hg) (below_setRow hb hBg _)

theorem repl_get {α : Type} (xs : List α) (k j : Nat) (h : j < k * xs.length) : ((List.replicate k xs).flatten)[j]? = xs[j % xs.length]? := by
  induction k with
  | zero => simp at h
  | succ k ih =>
    have hl : ((List.replicate k xs).flatten).length = k * xs.length := by simp
    rw [List.replicate_succ', List.flatten_append]
    simp only [List.flatten_cons, List.flatten_nil, List.append_nil]
    by_cases h2 : j < k * xs.length
    · rw [List.getElem?_append_left (by rw [hl]; exact h2)]; exact ih h2
    · rw [List.getElem?_append_right (by rw [hl]; omega), hl]
      rw [Nat.succ_mul] at h
      have hj : j % xs.length = j - k * xs.length := by
        have e : j = (j - k * xs.length) + xs.length * k := by have hm : xs.length * k = k * xs.length := Nat.mul_comm _ _; omega
        conv => lhs; rw [e, Nat.add_mul_mod_self_left]
        exact Nat.mod_eq_of_lt (by omega)
      rw [hj]
/-- The cells while they are filled: c of them are. -/
def patV (vs Z : List Value) (c : Nat) : List Value := (List.range Z.length).map fun j => if j < c then vs.getD (j % vs.length) undef else Z.getD j undef
theorem patV_len (vs Z : List Value) (c : Nat) : (patV vs Z c).length = Z.length := by simp [patV]
theorem patV_get (vs Z : List Value) (c j : Nat) : (patV vs Z c)[j]? = if j < Z.length then some (if j < c then vs.getD (j % vs.length) undef else Z.getD j undef) else none := by
  unfold patV
  rw [List.getElem?_map]
  by_cases h : j < Z.length
  · rw [List.getElem?_range h, if_pos h]; rfl
  · rw [if_neg h, List.getElem?_eq_none (by simpa using h)]; rfl
theorem patV_one (vs Z : List Value) (h : vs.length ≤ Z.length) : splice Z 0 vs = patV vs Z vs.length := by
  apply List.ext_getElem?
  intro j
  rw [bn.splice_get _ _ _ (by simpa using h), patV_get]
  by_cases h1 : j < vs.length
  · rw [if_pos ⟨by omega, by omega⟩, if_pos (by omega), if_pos h1, Nat.mod_eq_of_lt h1, Nat.sub_zero]
    simp [List.getD, List.getElem?_eq_getElem h1]
  · rw [if_neg (by omega), if_neg h1]
    by_cases h2 : j < Z.length
    · rw [if_pos h2]; simp [List.getD, List.getElem?_eq_getElem h2]
    · rw [if_neg h2, List.getElem?_eq_none (by omega)]
theorem patV_more (vs Z : List Value) (c d : Nat) (hdc : d ≤ c) (hdM : c + d ≤ Z.length) (hdiv : vs.length ∣ c) : splice (patV vs Z c) c ((patV vs Z c).take d) = patV vs Z (c + d) := by
  have hl : ((patV vs Z c).take d).length = d := by simp [patV_len]; omega
  apply List.ext_getElem?
  intro j
  rw [bn.splice_get _ _ _ (by rw [hl, patV_len]; omega), hl]
  simp only [List.getElem?_take, patV_get]
  by_cases h1 : c ≤ j ∧ j < c + d
  · rw [if_pos h1, if_pos (by omega), if_pos (by omega), if_pos (by omega), if_pos (by omega), if_pos (by omega)]
    congr 2
    obtain ⟨q, rfl⟩ := hdiv
    have e : j = (j - vs.length * q) + vs.length * q := by omega
    conv => rhs; rw [e, Nat.add_mul_mod_self_left]
  · rw [if_neg h1]
    by_cases h2 : j < Z.length
    · rw [if_pos h2, if_pos h2]
      by_cases h3 : j < c
      · rw [if_pos h3, if_pos (by omega)]
      · rw [if_neg h3, if_neg (by omega)]
    · rw [if_neg h2, if_neg h2]
theorem patV_all (vs Z : List Value) (k : Nat) (h0 : 0 < vs.length) (hZ : Z.length = k * vs.length) : patV vs Z (k * vs.length) = (List.replicate k vs).flatten := by
  apply List.ext_getElem?
  intro j
  rw [patV_get, hZ]
  by_cases h : j < k * vs.length
  · rw [if_pos h, if_pos h, repl_get vs k j h]
    have := Nat.mod_lt j h0
    simp [List.getD, List.getElem?_eq_getElem this]
  · rw [if_neg h, List.getElem?_eq_none (by simp; omega)]
theorem flatW_rep (L : List Rw) (k : Nat) : flatW ((List.replicate k L).flatten) = (List.replicate k (flatW L)).flatten := by
  induction k with
  | zero => rfl
  | succ k ih => rw [List.replicate_succ, List.replicate_succ, List.flatten_cons, List.flatten_cons, flatW_app, ih]
theorem map_rep (L : List Rw) (k : Nat) : ((List.replicate k L).flatten).map Rw.r = repR (L.map Rw.r) k := by simp [repR, List.map_flatten]
theorem rep_at (L : List Rw) (k j : Nat) (h : j < k * L.length) : ((List.replicate k L).flatten).getD j dz = L.getD (j % L.length) dz := by
  simp [List.getD, repl_get L k j h]
theorem made_rowR {w w' : World} {M : Nat} {vs : List Value} (h : w'.ownsRow w.heap.size 50 3 (.slice (some ⟨w.heap.size, 0, none⟩) M M) M vs) : w'.heap[w.heap.size]? = some (.cells vs.toArray 50 (0, 0)) ∧ vs.length = M * 3 := by
  rcases h.2 with ⟨h1, _⟩ | ⟨g, c, cur, h1, h2, h3, h4, h5, h6, h7⟩
  · cases h1
  · simp only [Value.slice.injEq, Option.some.injEq, Addr.mk.injEq] at h1
    obtain ⟨⟨rfl, _⟩, _, rfl⟩ := h1
    have e : cur.toList = vs := by rw [← h7, List.take_of_length_le (by simp [h6])]
    refine ⟨by rw [h3, ← e], ?_⟩
    rw [← e]; simp [h6]
end Go.Proofs.YtbbnheiibkcgiabDoor.cy

/- slices.Repeat of a list of rows. -/
namespace Go.Proofs.YtbbnheiibkcgiabDoor.cy
open Go.RowKit Go.Proofs.YtbbnheiibkcgiabDoor.sl Go.Proofs.YtbbnheiibkcgiabDoor.br Go.Proofs.YtbbnheiibkcgiabDoor.ss Go.Proofs.YtbbnheiibkcgiabDoor.ro Go.Proofs.YtbbnheiibkcgiabDoor.cm Go.Proofs.YtbbnheiibkcgiabDoor.cx
set_option linter.unusedVariables false
set_option linter.unusedSimpArgs false
set_option maxRecDepth 100000

set_option maxHeartbeats 4000000 in
theorem repeatR (xs : List V) (k : Nat) (v : Value) (B : Nat) (w : World) (ha : InfsN w B v xs) (hB : B ≤ w.heap.size) (h0 : 0 < xs.length) (hn : xs.length ≤ 8) (hk0 : 1 ≤ k) (hk : k ≤ 8) :
    Calls Tryd.prog 24 #[v, .int .i64 (k : Int)] w fun e w' => ∃ v', e = .returned v' ∧ InfsN w' w'.heap.size v' (repR xs k) ∧ Below w.heap.size w w' := by
  obtain ⟨L, b, off, cap, hG⟩ := got ha h0
  have HG := hid hG
  have hv := hG.val
  have hbB := hG.blk
  have hlen := hG.len
  have HMap := hid hG.map
  have hvl := flatW_len L
  clear ha hG
  obtain ⟨M, hM⟩ : ∃ M, M = k * xs.length := ⟨_, rfl⟩
  have hM1 : M ≤ 64 := by rw [hM]; exact Nat.mul_le_mul hk hn
  have hmul : (xs.length * k) = M := by rw [hM, Nat.mul_comm]
  have HBm := hid (fun W => Tryd.bits_Mul xs.length k (by omega) (by omega) W)
  rw [hmul, Nat.div_eq_of_lt (show M < 18446744073709551616 by omega), Nat.mod_eq_of_lt (show M < 18446744073709551616 by omega)] at HBm
  obtain ⟨n, hnn⟩ : ∃ n, n = xs.length := ⟨_, rfl⟩
  rw [← hnn] at hv HBm hn h0 hlen hM hmul
  have HLn : Hid (L.length = n) := hid hlen
  have hnM : n ≤ M := by
    rw [hM]
    calc n = 1 * n := (Nat.one_mul n).symm
      _ ≤ k * n := Nat.mul_le_mul hk0 (Nat.le_refl _)
  obtain ⟨vs, hvs⟩ : ∃ vs, vs = flatW L := ⟨_, rfl⟩
  have HVs := hid hvs
  have hvl3 : vs.length = n * 3 := by rw [hvs, hvl, hlen]
  have HVl := hid hvl3
  have hw1 : IntKind.u64.wrap (n : Int) = (n : Int) := by rw [IntKind.wrap_u64]; omega
  have hw2 : IntKind.u64.wrap (k : Int) = (k : Int) := by rw [IntKind.wrap_u64]; omega
  have hw3 : IntKind.i64.wrap (M : Int) = (M : Int) := by rw [IntKind.wrap_i64]; omega
  have hk0' : ¬ ((k : Int) < 0) := by omega
  have hM0 : ¬ ((M : Int) < 0) := by omega
  have hM2 : ¬ ((9223372036854775807 : Int) < (M : Int)) := by omega
  have HInfo : Hid ((Tryd.prog.info? 50).map (·.size) = some 3) := hid (by kernel_rfl)
  have HSrc0 : Hid (∀ (W : World), Below w.heap.size w W → ∀ j u, vs[j]? = some u → W.cell? (Addr.add ⟨b, off, none⟩ j) = some u) := hid (fun W hW j u hj => by
    rw [hvs] at hj
    rw [Addr.add_lit, (hW.cell (p := ⟨b, off + j, none⟩) (by show b < _; omega))]
    exact HG.out.cell j u hj)
  have HOne : Hid (∀ u ∈ vs, u.oneCell' = true) := hid (by
    intro u hu
    rw [hvs] at hu
    simp only [flatW, List.mem_flatMap] at hu
    obtain ⟨x, hx, hu⟩ := hu
    simp only [List.mem_cons, List.not_mem_nil, or_false] at hu
    rcases hu with rfl | rfl | rfl
    · rfl
    · rfl
    · exact HG.out.one x hx)
  have hmin : Nat.min n M = n := Nat.min_eq_left hnM
  have HMin := hid hmin
  have HnM := hid hnM
  have HMM : Hid (M = k * n) := hid hM
  clear hM hmul hnn hvs hvl hlen hmin hvl3 hnM hM1
  subst hv
  go_enter Tryd.func24, Tryd.ntmps24
  go_wp2_with fail
  refine (HBm.out _).mono ?_
  rintro e w1 ⟨rfl, rfl⟩
  obtain ⟨i0, hi, hz0, hz1, hz2⟩ := info_parts infoRw
  have hM64 : M ≤ 64 := by rw [HMM.out]; exact Nat.mul_le_mul hk hn
  go_upto_region 7 with (at_make; refine wpList_make_full _ rfl (.tmp 29) (.tmp 29) 26 rfl w1.heap.size 50 i0 (.agg #[.int .i64 0, .int .i64 0, .slice none 0 0]) 3 Tryd.underlying26 hi hz0 hz1 .i64 .i64 _ _ M rfl rfl (by rfl) (by rfl) (by rw [hz2]; omega) (by unfold maxLen; omega) (Nat.le_refl _) ?_; intro w2 hown1 hgrow1; have HB2 := hid (bn.below_made hgrow1); have hrow := made_rowR hown1; clear hown1 hgrow1; generalize (madeCells (Value.agg #[.int .i64 0, .int .i64 0, .slice none 0 0]).cells (M * 3)).toList = Z at hrow; have HRow := hid hrow.1; have HZl := hid hrow.2; clear hrow)
  refine wp_region_lit ?_
  refine wpList_plain rfl fun K hK => ?_
  go_simp
  refine hK _ _ ?_
  clear hK K
  try simp only [Act.put, List.setIfInBounds_toArray, List.set_cons_zero, List.set_cons_succ]
  refine wpList_plain rfl fun K hK => ?_
  go_simp
  refine hK _ _ ?_
  clear hK K
  try simp only [Act.put, List.setIfInBounds_toArray, List.set_cons_zero, List.set_cons_succ]
  refine wpList_copy3 rfl (.tmp 31) (.tmp 32) 26 26 rfl 50 Tryd.underlying26 HInfo.out w1.heap.size 0 M M ⟨b, off, none⟩ n cap rfl rfl Z 50 HRow.out vs n HMin.out HVl.out (HSrc0.out _ HB2.out) (by rw [HVl.out, HZl.out]; have := HnM.out; omega) HOne.out w1.heap.size w1 HB2.out (Nat.le_refl _) ?_
  intro w3 hg3 hb3
  have HG3 := hid hg3
  have HB3 := hid hb3
  clear hg3 hb3
  have HRow3 : Hid (w3.heap[w1.heap.size]? = some (.cells (patV vs Z (n * 3)).toArray 50 (0, 0))) := hid (by rw [← HVl.out, ← patV_one vs Z (by rw [HVl.out, HZl.out]; have := HnM.out; omega)]; exact HG3.out)
  have HMore := hid (fun c d h1 h2 h3 => patV_more vs Z c d h1 h2 h3)
  have HAll := hid (patV_all vs Z k (by rw [HVl.out]; omega) (by rw [HZl.out, HVl.out, HMM.out, Nat.mul_assoc]))
  clear HG3 HRow
  go_wp2
  go_loopw [8] (fun i wr => ∃ c : Nat, c ≤ M ∧ n ∣ c ∧ 0 < c ∧ i = .int .i64 c ∧ wr.heap[w1.heap.size]? = some (.cells (patV vs Z (c * 3)).toArray 50 (0, 0)) ∧ Below w1.heap.size w1 wr)
    (fun i _ => M - (intOf i).toNat)
  case atStart => exact ⟨n, HnM.out, Nat.dvd_refl _, h0, rfl, HRow3.out, HB3.out⟩
  case round =>
    obtain ⟨c, hc, hdv, hp0, rfl, hrow, hb⟩ := hrel
    have HR := hid hrow
    have HB := hid hb
    have HD := hid hdv
    clear hrow hb hdv HRow3 HB3
    by_cases hlt : c < M
    · have hne : ¬ M = c := by omega
      obtain ⟨d, hd⟩ : ∃ d, Nat.min c (M - c) = d := ⟨_, rfl⟩
      have hdc : d ≤ c := by rw [← hd]; exact Nat.min_le_left _ _
      have hdM : d ≤ M - c := by rw [← hd]; exact Nat.min_le_right _ _
      have hdp : 0 < d := by rw [← hd]; exact Nat.lt_min.2 ⟨hp0, by omega⟩
      obtain ⟨cs, hcs⟩ : ∃ cs, cs = (patV vs Z (c * 3)).take (d * 3) := ⟨_, rfl⟩
      have hpl : (patV vs Z (c * 3)).length = M * 3 := by rw [patV_len, HZl.out]
      have hcl : cs.length = d * 3 := by rw [hcs]; simp [hpl]; omega
      have HCl : Hid (cs.length = d * 3) := hid hcl
      have HDd : Hid (Nat.min c (M - c) = d) := hid hd
      have HNew : Hid (splice (patV vs Z (c * 3)) (c * 3) cs = patV vs Z ((c + d) * 3)) := hid (by
        rw [hcs, Nat.add_mul]
        exact HMore.out (c * 3) (d * 3) (by omega) (by rw [HZl.out]; omega) (by rw [HVl.out]; exact Nat.mul_dvd_mul_right HD.out 3))
      have HSrc : Hid (∀ (W : World), W.heap[w1.heap.size]? = some (.cells (patV vs Z (c * 3)).toArray 50 (0, 0)) → ∀ j u, cs[j]? = some u → W.cell? (Addr.add ⟨w1.heap.size, 0, none⟩ j) = some u) := hid (fun W hW j u hj => by
        rw [Addr.add_lit, hcs] at *
        have hj2 : (patV vs Z (c * 3))[j]? = some u := by
          rw [List.getElem?_take] at hj
          by_cases hjd : j < d * 3
          · rw [if_pos hjd] at hj; exact hj
          · rw [if_neg hjd] at hj; simp at hj
        simp [World.cell?, hW]
        simpa using hj2)
      have HFt : Hid (c * 3 + cs.length ≤ (patV vs Z (c * 3)).length) := hid (by rw [hpl, hcl]; omega)
      have HOn : Hid (∀ u ∈ cs, u.oneCell' = true) := hid (by
        rw [hcs]
        intro u hu
        obtain ⟨j, hj⟩ := List.mem_iff_getElem?.1 hu
        rw [List.getElem?_take] at hj
        by_cases hjd : j < d * 3
        · rw [if_pos hjd, patV_get] at hj
          have hv0 : 0 < vs.length := by rw [HVl.out]; omega
          have hjm : j % vs.length < vs.length := Nat.mod_lt _ hv0
          rw [if_pos (by rw [HZl.out]; omega), if_pos (by omega)] at hj
          have hu2 : vs[j % vs.length] = u := by
            have := Option.some.inj hj
            rw [← this]; simp [List.getD, List.getElem?_eq_getElem hjm]
          rw [← hu2]
          exact HOne.out _ (List.getElem_mem hjm)
        · rw [if_neg hjd] at hj; cases hj)
      have HDv : Hid (n ∣ c + d) := hid (by
        by_cases h : c ≤ M - c
        · have : d = c := by rw [← hd]; exact Nat.min_eq_left h
          rw [this]; exact Nat.dvd_add HD.out HD.out
        · have h2 : d = M - c := by rw [← hd]; exact Nat.min_eq_right (by omega)
          have h3 : c + d = M := by omega
          rw [h3, HMM.out]; exact ⟨k, Nat.mul_comm _ _⟩)
      clear hcs hd hpl hcl
      go_wp2_with fail
      go_region_held3 (fun w' => True) (exact trivial)
        (first
          | (refine step_copy3 rfl (.tmp 41) (.tmp 44) 26 26 rfl 50 Tryd.underlying26 HInfo.out w1.heap.size (c * 3) _ _ ⟨w1.heap.size, 0, none⟩ _ _ rfl rfl (patV vs Z (c * 3)) 50 HR.out cs d HDd.out HCl.out (HSrc.out _ HR.out) HFt.out HOn.out w1.heap.size w1 (HB.out.drew) (Nat.le_refl _) ?_; intro w4 hg4 hb4; have HG4 := hid hg4; have HB4 := hid hb4; clear hg4 hb4))
      have hwr : IntKind.i64.wrap ((c : Int) + (d : Int)) = ((c + d : Nat) : Int) := by rw [IntKind.wrap_i64]; omega
      go_wp2
      go_roundw
      case rel => exact ⟨c + d, by omega, HDv.out, by omega, by go_num, by rw [← HNew.out]; exact HG4.out, HB4.out⟩
      case measure => simp [intOf]; omega
    · obtain rfl : c = M := by omega
      have HIn : Hid (InfsN wr wr.heap.size (.slice (some ⟨w1.heap.size, 0, none⟩) c c) (repR xs k)) := hid (by
        have hfl : patV vs Z (c * 3) = flatW ((List.replicate k L).flatten) := by
          rw [flatW_rep, ← HVs.out, ← HAll.out, HVl.out, HMM.out, Nat.mul_assoc]
        have hll : ((List.replicate k L).flatten).length = c := by
          have : ((List.replicate k L).flatten).length = k * L.length := by simp
          rw [this, HLn.out, ← HMM.out]
        have h1 := HR.out
        rw [hfl] at h1
        rw [← HMap.out, ← map_rep]
        have hrow : wr.ownsRow w1.heap.size 50 3 (.slice (some ⟨w1.heap.size, 0, none⟩) c c) ((List.replicate k L).flatten).length (flatW ((List.replicate k L).flatten)) := by
          refine ⟨by rw [flatW_len], .inr ⟨w1.heap.size, c, _, by rw [hll], Nat.le_refl _, h1, by rw [hll]; exact Nat.le_refl _, by unfold maxLen; omega, by simp [flatW_len, hll], ?_⟩⟩
          rw [List.take_of_length_le (by simp [flatW_len])]
        refine infs_row hrow fun j hj => ?_
        rw [rep_at L k j (by rw [hll] at hj; rw [HLn.out, ← HMM.out]; exact hj)]
        have hG2 := HG.out.below HB.out hB
        have hle : B ≤ wr.heap.size := Nat.le_trans hB HB.out.size
        have hjm : j % L.length < L.length := Nat.mod_lt _ (by rw [HLn.out]; omega)
        exact ⟨(hG2.ints _ hjm).1.mono hle, (hG2.ints _ hjm).2⟩)
      go_wp2
      go_ret
      exact ⟨_, rfl, HIn.out, HB.out⟩
end Go.Proofs.YtbbnheiibkcgiabDoor.cy

/- RepeatChart of the model. -/
namespace Go.Proofs.YtbbnheiibkcgiabDoor.cy
open Go.RowKit Go.Proofs.YtbbnheiibkcgiabDoor.sl Go.Proofs.YtbbnheiibkcgiabDoor.br Go.Proofs.YtbbnheiibkcgiabDoor.ss Go.Proofs.YtbbnheiibkcgiabDoor.ro Go.Proofs.YtbbnheiibkcgiabDoor.cm Go.Proofs.YtbbnheiibkcgiabDoor.cx
set_option linter.unusedVariables false
set_option linter.unusedSimpArgs false
set_option maxRecDepth 100000

set_option maxHeartbeats 8000000 in
theorem specRP (c : Int) (xs : List V) (f : Value) (t : Int) (B : Nat) (w : World) (ha : InfsN w B f xs) (hB : B ≤ w.heap.size) (hq : Small xs) :
    Calls Tryd.prog 6 #[.agg #[.int .i64 c, f], .int .i64 t] w fun e w' => ∃ ao cap, e = .returned (.tuple #[.agg #[.int .i64 (rpC c xs t), .slice ao (rpR c xs t).length cap], .int .i64 (rpK c xs t)]) ∧ IOwn w' w.heap.size w'.heap.size (.slice ao (rpR c xs t).length cap) (rpR c xs t) ∧ Below w.heap.size w w' := by
  obtain ⟨wb, hwb, hz3, hb0, hX⟩ := box2 w c f
  have HB0 := hid hb0
  have HX := hid hX
  have HA := hid (ha.below hb0)
  have HQ := hid hq
  have HWb := hid hwb
  have HV1 := hid (fun W (b : Below (w.heap.size + 2) wb W) => kn.specOk15 c xs f B w.heap.size W (by have := b.size; omega) (hX W b).1 (hX W b).2.1 (((HA.out.below (by rw [hz3]; exact b))).infs) (by have := b.size; have := hb0.size; omega) hq)
  have HE := hid (fun W (b : Below (w.heap.size + 2) wb W) hok => specEnd c xs f B w.heap.size W (by have := b.size; omega) (hX W b).1 (hX W b).2.1 (((HA.out.below (by rw [hz3]; exact b))).infs) (by have := b.size; have := hb0.size; omega) hq hok)
  have HO1 := hid (fun W (b : Below (w.heap.size + 2) wb W) => specOwn c xs f B w.heap.size W (by have := b.size; omega) (hX W b).1 (hX W b).2.1 (HA.out.below (by rw [hz3]; exact b)) (by have := b.size; have := hb0.size; omega) hq)
  have HK := hid (show rpK c xs t = if chB c xs then (if 1 ≤ t ∧ t ≤ 8 then (if 1 < t ∧ lastC c xs ≠ c then 10 else if chB c (repR xs t.toNat) then 0 else 5) else 2) else 1 from rfl)
  have HNone := hid (fun (w' : World) (k : Int) h h0 b => @rp_none w w' c t xs k h h0 b)
  have HL1 := hid (fun h => @ch_len c xs h)
  have HSm := hid (fun h8 k hk => small_rep hq h8 k hk)
  obtain ⟨ao, cap, hv⟩ := infs_val ha.infs
  clear ha hb0 hX hq
  obtain ⟨n, hnn⟩ : ∃ n, n = xs.length := ⟨_, rfl⟩
  rw [← hnn] at hv HL1 HSm
  have HN := hid hnn
  clear hnn
  subst hv
  obtain ⟨q1, hq1⟩ : ∃ q, q = chB c xs := ⟨_, rfl⟩
  rw [← hq1] at HV1 HK HE HL1
  have b00 : Below (w.heap.size + 2) wb wb := Below.refl _ _
  have HV10 := hid (HV1.out wb b00)
  rw [hwb] at HV10
  clear hq1 b00 hwb
  cases q1 with
  | false =>
    go_enter Tryd.func6, Tryd.ntmps6
    go_wp2_with fail
    refine HV10.out.mono ?_
    rintro e w1 ⟨rfl, b1⟩
    have bw1 : Below (w.heap.size + 2) wb w1 := by rw [← HWb.out, hz3] at b1; exact b1
    obtain ⟨_, _, r0, r1, z0, z1⟩ := HX.out w1 bw1
    have HBz := hid (HB0.out.trans (bw1.mono (by omega)))
    clear b1 bw1
    go_wp2
    refine bodyPost_ret (v := .tuple #[.agg #[.int .i64 0, .slice none 0 0], .int .i64 1]) (by simp [results, Tryd.results6, go_sem, r0, r1]) rfl ?_
    exact HNone.out _ 1 (by rw [HK.out]; rfl) (by decide) ((HBz.out.setCell (by show w.heap.size ≤ w.heap.size + 1; omega) _).setCell (by show w.heap.size ≤ w.heap.size + 1; omega) _)
  | true =>
    have hl1 := HL1.out (by trivial)
    have HE1 := hid (fun W b => HE.out W b (by trivial))
    have HKa : Hid (rpK c xs t = if 1 ≤ t ∧ t ≤ 8 then (if 1 < t ∧ lastC c xs ≠ c then 10 else if chB c (repR xs t.toNat) then 0 else 5) else 2) := hid (by rw [HK.out]; rfl)
    clear HE HL1 HK
    obtain ⟨q2, hq2⟩ : ∃ q, decide (1 ≤ t ∧ t ≤ 8) = q := ⟨_, rfl⟩
    have HIn := hid (fun W => show Calls Tryd.prog 16 #[.int .i64 t, .int .i64 1, .int .i64 8] W fun e w' => e = .returned (.bool q2) ∧ W = w' from by rw [← hq2]; exact pm.specIn t 1 8 W)
    cases q2 with
    | false =>
      have hno : ¬ (1 ≤ t ∧ t ≤ 8) := by simpa using hq2
      have HKb := hid (HKa.out.trans (if_neg hno))
      clear hq2 hno
      go_enter Tryd.func6, Tryd.ntmps6
      go_wp2_with fail
      refine HV10.out.mono ?_
      rintro e w1 ⟨rfl, b1⟩
      have bw1 : Below (w.heap.size + 2) wb w1 := by rw [← HWb.out, hz3] at b1; exact b1
      obtain ⟨_, _, r0, r1, z0, z1⟩ := HX.out w1 bw1
      have HBz := hid (HB0.out.trans (bw1.mono (by omega)))
      clear b1 bw1
      go_wp2_with fail
      refine (HIn.out _).mono ?_
      rintro e w2 ⟨rfl, rfl⟩
      go_wp2
      refine bodyPost_ret (v := .tuple #[.agg #[.int .i64 0, .slice none 0 0], .int .i64 2]) (by simp [results, Tryd.results6, go_sem, r0, r1]) rfl ?_
      exact HNone.out _ 2 HKb.out (by decide) ((HBz.out.setCell (by show w.heap.size ≤ w.heap.size + 1; omega) _).setCell (by show w.heap.size ≤ w.heap.size + 1; omega) _)
    | true =>
      have ht : 1 ≤ t ∧ t ≤ 8 := by simpa using hq2
      have HKb := hid (HKa.out.trans (if_pos ht))
      obtain ⟨m, hm⟩ : ∃ m : Nat, t = (m : Int) := ⟨t.toNat, by omega⟩
      have HMt := hid hm
      have htn : t.toNat = m := by omega
      have hm1 : 1 ≤ m ∧ m ≤ 8 := by omega
      rw [htn] at HKb
      have HTn := hid htn
      have HSm1 := hid (HSm.out hl1.2 m hm1.2)
      obtain ⟨l, hl⟩ : ∃ l, l = lastC c xs := ⟨_, rfl⟩
      rw [← hl] at HKb HE1
      obtain ⟨q4, hq4⟩ : ∃ q, q = decide (1 < t ∧ l ≠ c) := ⟨_, rfl⟩
      have HQ4 := hid hq4
      obtain ⟨q3, hq3⟩ : ∃ q, q = chB c (repR xs m) := ⟨_, rfl⟩
      have HV3 := hid (fun (z : Value) (W : World) (g : Nat) (hg : g < W.heap.size) (h0 : W.cell? ⟨g, 0, none⟩ = some (.int .i64 c)) (h1 : W.cell? ⟨g, 1, none⟩ = some z) (h : Infs W W.heap.size z (repR xs m)) => kn.specOk15 c (repR xs m) z W.heap.size g W hg h0 h1 h (Nat.le_refl _) HSm1.out)
      rw [← hq3] at HKb HV3
      have hx1 := hl1.1
      have hx8 := hl1.2
      clear hq2 hl hq4 hq3 hl1 hm htn HSm HKa
      go_enter Tryd.func6, Tryd.ntmps6
      go_wp2_with fail
      refine HV10.out.mono ?_
      rintro e w1 ⟨rfl, b1⟩
      have bw1 : Below (w.heap.size + 2) wb w1 := by rw [← HWb.out, hz3] at b1; exact b1
      have HBw1 := hid bw1
      clear b1 bw1
      go_wp2_with fail
      refine (HIn.out _).mono ?_
      rintro e w2 ⟨rfl, hw2⟩
      rw [← hw2]
      clear hw2
      go_upto_region 5 with fail
      go_cut [22] from 15 to 22 (fun s22 wx => s22 = .bool q4 ∧ Below (w.heap.size + 2) wb wx)
      case first =>
        have a2 := (HX.out w1 HBw1.out).1
        by_cases h1 : 1 < t
        · have hd1 : decide (1 < t) = true := decide_eq_true h1
          have hqq : q4 = (l != c) := by rw [HQ4.out]; by_cases e : l = c <;> simp [h1, e]
          have HQQ := hid hqq
          clear h1 hqq
          go_region_law (first
            | (go_simp
               go_at_call 17
               refine (HE1.out _ (HBw1.out.trans ((bdrewN (Below.refl _ _) _).mono (by rw [← hz3]; exact HBw1.out.size)))).mono ?_
               rintro e w3 ⟨rfl, b3⟩
               have bw3 : Below (w.heap.size + 2) wb w3 := (HBw1.out.trans ((bdrewN (Below.refl _ _) _).mono (by rw [← hz3]; exact HBw1.out.size))).trans (b3.mono (by have := HBw1.out.size; rw [hz3] at this; exact this))
               have a3 := (HX.out w3 bw3).1
               have HBw3 := hid bw3
               clear b3 bw3))
          all_goals
            go_wp2_with fail
            go_meet
            exact ⟨by rw [HQQ.out], HBw3.out⟩
        · have hd1 : decide (1 < t) = false := decide_eq_false h1
          have hqq : q4 = false := by rw [HQ4.out]; simp [h1]
          have HQQ := hid hqq
          clear h1 hqq
          go_region
          all_goals
            go_wp2_with fail
            go_meet
            exact ⟨by rw [HQQ.out], HBw1.out.drew⟩
      case rest =>
        obtain ⟨rfl, bwc⟩ := hcut
        have HBwc := hid bwc
        have hzc : w.heap.size + 2 ≤ wc.heap.size := by have := bwc.size; omega
        clear bwc
        cases q4 with
        | true =>
          have HKc : Hid (rpK c xs t = 10) := hid (by rw [HKb.out, if_pos (of_decide_eq_true HQ4.out.symm)])
          obtain ⟨_, _, r0, r1, z0, z1⟩ := HX.out wc HBwc.out
          have HBz := hid (HB0.out.trans (HBwc.out.mono (by omega)))
          go_wp2
          refine bodyPost_ret (v := .tuple #[.agg #[.int .i64 0, .slice none 0 0], .int .i64 10]) (by simp [results, Tryd.results6, go_sem, r0, r1]) rfl ?_
          exact HNone.out _ 10 HKc.out (by decide) ((HBz.out.setCell (by show w.heap.size ≤ w.heap.size + 1; omega) _).setCell (by show w.heap.size ≤ w.heap.size + 1; omega) _)
        | false =>
          have HKc : Hid (rpK c xs t = if q3 = true then 0 else 5) := hid (by rw [HKb.out, if_neg (of_decide_eq_false HQ4.out.symm)])
          have HO1' := hid (HO1.out wc HBwc.out)
          go_wp2_with fail
          refine HO1'.out.mono ?_
          rintro e w4 ⟨z, L, rfl, rw4, hm4, b4⟩
          obtain ⟨az, cz, hvz⟩ := rw4.val
          obtain ⟨ll, hll⟩ : ∃ l, l = L.length := ⟨_, rfl⟩
          rw [← hll] at hvz
          have HMX := hid (mw_box c rw4 b4)
          have HM4 := hid hm4
          clear rw4 hm4 b4 hll
          subst hvz
          obtain ⟨g, hg⟩ : ∃ g, g = w4.heap.size := ⟨_, rfl⟩
          rw [← hg] at HMX
          have HGg := hid hg
          go_wp2_with fail
          rw [← hg]
          clear hg
          go_loopw [1] (fun s1 wr => ∃ (k : Nat) (z : Value) (L : List Rw), 1 ≤ k ∧ k ≤ m ∧ s1 = .int .i64 ((m : Int) + 1 - k) ∧ MW wc wr c g z L ∧ L.map Rw.r = repR xs k) (fun s1 _ => (intOf s1).toNat)
          case atStart => exact ⟨1, _, L, Nat.le_refl _, hm1.1, by rw [HMt.out]; congr 1; omega, HMX.out, by rw [HM4.out, repR_one]⟩
          case round =>
            obtain ⟨k, z, L, hk1, hkm, rfl, hmw, hmap⟩ := hrel
            have HM := hid hmw
            have HMp := hid hmap
            have hLl : L.length = k * n := by
              have h := congrArg List.length hmap
              rw [List.length_map, repR_len, ← HN.out] at h
              exact h
            have hL64 : L.length ≤ 64 := by rw [hLl]; exact Nat.mul_le_mul (show k ≤ 8 by omega) (show n ≤ 8 by omega)
            obtain ⟨az, cz, hvz⟩ := hmw.sr.rw.val
            obtain ⟨ll, hll⟩ : ∃ l, l = L.length := ⟨_, rfl⟩
            rw [← hll] at hvz
            have HLl := hid hll
            have HL64 := hid hL64
            clear hmw hmap hll hLl hL64
            subst hvz
            by_cases hkt : k < m
            · have hd1 : decide (1 < (m : Int) + 1 - k) = true := decide_eq_true (by omega)
              have HO2' := hid (HO1.out wr (HBwc.out.trans (HM.out.bl.mono hzc)))
              have n1 := HM.out.c1
              go_wp2_with fail
              refine HO2'.out.mono ?_
              rintro e w5 ⟨z2, M, rfl, rw5, hm5, b5⟩
              have hMlen : M.length = n := by rw [HN.out, ← hm5, List.length_map]
              have hMp : 0 < M.length := by rw [hMlen]; omega
              have bAB : Below wr.heap.size wr (w5.alloc (.cells #[.int .i64 c, z2] 28)) := b5.alloc b5.size _
              have rwB : RW (w5.alloc (.cells #[.int .i64 c, z2] 28)) wr.heap.size z2 M := rw5.below ((Below.refl _ _).alloc (Nat.le_refl _) _)
              have HMB := hid (HM.out.below bAB)
              have HRB := hid rwB
              have HAB := hid bAB
              have HM5 := hid hm5
              obtain ⟨g2, c2, hv2, hcl⟩ := rw_addr rwB hMp
              obtain ⟨ml, hml⟩ : ∃ l, l = M.length := ⟨_, rfl⟩
              rw [← hml] at hv2
              have HMl := hid hml
              have HCl := hid hcl
              have hLM : L.length + M.length ≤ 1048576 := by have := HL64.out; rw [hMlen]; omega
              have hzB : wc.heap.size ≤ (w5.alloc (.cells #[.int .i64 c, z2] 28)).heap.size := HMB.out.bl.size
              have n1 := HMB.out.c1
              clear rw5 hm5 hml hcl rwB bAB HO2' hMlen hMp b5
              subst hv2
              go_upto_region 11 with fail
              refine wp_region_lit ?_
              refine wpList_plain rfl fun K hK => ?_
              go_simp
              refine hK _ _ ?_
              clear hK K
              try simp only [Act.put, List.setIfInBounds_toArray, List.set_cons_zero, List.set_cons_succ]
              refine wpList_plain rfl fun K hK => ?_
              go_simp
              refine hK _ _ ?_
              clear hK K
              try simp only [Act.put, List.setIfInBounds_toArray, List.set_cons_zero, List.set_cons_succ]
              refine wpList_plain rfl fun K hK => ?_
              go_simp
              refine hK _ _ ?_
              clear hK K
              try simp only [Act.put, List.setIfInBounds_toArray, List.set_cons_zero, List.set_cons_succ]
              refine wpList_plain rfl fun K hK => ?_
              go_simp
              refine hK _ _ ?_
              clear hK K
              try simp only [Act.put, List.setIfInBounds_toArray, List.set_cons_zero, List.set_cons_succ]
              refine wp_appC rfl _ _ rfl wc.heap.size (.slice az ll cz) L M HMB.out.sr.row rfl g2 0 c2 ml rfl HMl.out HCl.out (rw_one HRB.out) hzB hLM ?_
              intro v9 w9 hr9 hg9 h59
              obtain ⟨hm9, t1, t2, t0, hb9⟩ := HM.out.nexts HAB.out HRB.out hr9 hg9 h59
              obtain ⟨a9, c9, hv9⟩ := hm9.sr.rw.val
              obtain ⟨q9, hq9⟩ : ∃ q, q = (L ++ M).length := ⟨_, rfl⟩
              rw [← hq9] at hv9
              have HM9 := hid hm9
              have hwr : IntKind.i64.wrap ((m : Int) + 1 - k - 1) = (m : Int) + 1 - ((k + 1 : Nat) : Int) := by rw [show (m : Int) + 1 - k - 1 = (m : Int) + 1 - ((k + 1 : Nat) : Int) by omega]; exact IntWalk.i64_in _ (by omega)
              clear hr9 hg9 h59 hm9 hb9 hq9
              subst hv9
              go_wp2
              go_roundw
              case rel => exact ⟨k + 1, _, L ++ M, by omega, by omega, rfl, HM9.out, by rw [List.map_append, HMp.out, HM5.out, repR_succ]⟩
              case measure => simp [intOf]; omega
            · obtain rfl : k = m := by omega
              have hd1 : decide (1 < (k : Int) + 1 - k) = false := decide_eq_false (by omega)
              have hinf := HM.out.sr.rw.iown.infs
              rw [HMp.out] at hinf
              have HV3' := hid (HV3.out _ _ _ HM.out.g1 HM.out.c0 HM.out.c1 hinf)
              clear hinf
              go_wp2_with fail
              refine HV3'.out.mono ?_
              rintro e w10 ⟨rfl, b10⟩
              have HM10 := hid (HM.out.below b10)
              have bw10 : Below (w.heap.size + 2) wb w10 := HBwc.out.trans (HM10.out.bl.mono hzc)
              obtain ⟨_, _, r0, r1, z0, z1⟩ := HX.out w10 bw10
              have HBz := hid (HB0.out.trans (bw10.mono (by omega)))
              have m0 := HM10.out.c0
              have m1 := HM10.out.c1
              clear b10 bw10
              cases q3 with
              | false =>
                go_wp2
                refine bodyPost_ret (v := .tuple #[.agg #[.int .i64 0, .slice none 0 0], .int .i64 5]) (by simp [results, Tryd.results6, go_sem, r0, r1]) rfl ?_
                exact HNone.out _ 5 (by rw [HKc.out]; rfl) (by decide) ((HBz.out.setCell (by show w.heap.size ≤ w.heap.size + 1; omega) _).setCell (by show w.heap.size ≤ w.heap.size + 1; omega) _)
              | true =>
                go_wp2
                refine bodyPost_ret (v := .tuple #[.agg #[.int .i64 c, .slice az ll cz], .int .i64 0]) (by simp [results, Tryd.results6, go_sem, r0, r1]) rfl ?_
                refine rp_some (by rw [HKc.out]; rfl) (by rw [HTn.out, HLl.out, ← HMp.out]; simp) ?_ ((HBz.out.setCell (by show w.heap.size ≤ w.heap.size + 1; omega) _).setCell (by show w.heap.size ≤ w.heap.size + 1; omega) _)
                have h0 := HM10.out.sr.rw.iown
                rw [HMp.out] at h0
                have h2 := ct.iown_other (ct.iown_other h0 (w.heap.size + 1) 0 (.int .i64 c) (by omega)) (w.heap.size + 1) 1 (.slice az ll cz) (by omega)
                have h3 := h2.lo (lo' := w.heap.size) (by omega)
                rw [HTn.out]
                simpa using h3
end Go.Proofs.YtbbnheiibkcgiabDoor.cy

/- RepeatChart of the program. -/
namespace Go.Proofs.YtbbnheiibkcgiabDoor.cy
open Go.RowKit Go.Proofs.YtbbnheiibkcgiabDoor.sl Go.Proofs.YtbbnheiibkcgiabDoor.br Go.Proofs.YtbbnheiibkcgiabDoor.ss Go.Proofs.YtbbnheiibkcgiabDoor.ro Go.Proofs.YtbbnheiibkcgiabDoor.cm Go.Proofs.YtbbnheiibkcgiabDoor.cx
set_option linter.unusedVariables false
set_option linter.unusedSimpArgs false
set_option maxRecDepth 100000

theorem rp_co {c t : Int} {xs : List V} (h1 : chB c xs = true) (h2 : 1 ≤ t ∧ t ≤ 8) (h3 : ¬ (1 < t ∧ lastC c xs ≠ c)) : rpK c xs t = coK c (repR xs t.toNat) ∧ rpC c xs t = coC c (repR xs t.toNat) ∧ rpR c xs t = coR c (repR xs t.toNat) := by
  have hk : rpK c xs t = coK c (repR xs t.toNat) := by unfold rpK coK; rw [if_pos h1, if_pos h2, if_neg h3]
  refine ⟨hk, ?_, ?_⟩
  · unfold rpC coC
    rw [hk]
    unfold coK
    cases chB c (repR xs t.toNat) <;> rfl
  · unfold rpR coR
    rw [hk]
    unfold coK
    cases chB c (repR xs t.toNat) <;> rfl
theorem rp_tot (c : Int) (xs : List V) (t : Int) : Small (rpR c xs t) ∧ ss.tot (prs (rpR c xs t)) ≤ 1048576 := by
  by_cases h : rpK c xs t = 0
  · have e : rpR c xs t = coR c (repR xs t.toNat) := by
      have hb : chB c (repR xs t.toNat) = true := by
        unfold rpK at h
        split at h
        · split at h
          · split at h
            · cases h
            · split at h
              · assumption
              · cases h
          · cases h
        · cases h
      rw [rpR, if_pos h, coR, if_pos hb]
    rw [e]
    exact co_tot _ _
  · rw [rpR, if_neg h]
    exact ⟨⟨by simp, fun j hj => by simp at hj⟩, by simp [ss.tot, ss.pre, prs, ss.lens]⟩

set_option maxHeartbeats 8000000 in
theorem implRP (c : Int) (xs : List V) (f : Value) (t : Int) (B : Nat) (w : World) (ha : InfsN w B f xs) (hB : B ≤ w.heap.size) (hq : Small xs) (hT : stb.Tab w) :
    Calls Tryd.prog 8 #[.agg #[.int .i64 c, f], .int .i64 t] w fun e w' => ∃ ao cap, e = .returned (.tuple #[.agg #[.int .i64 (rpC c xs t), .slice ao (rpR c xs t).length cap], .int .i64 (rpK c xs t)]) ∧ IOwn w' w.heap.size w'.heap.size (.slice ao (rpR c xs t).length cap) (rpR c xs t) ∧ Below w.heap.size w w' := by
  obtain ⟨wb, hwb, hz3, hb0, hX⟩ := box2 w c f
  have HB0 := hid hb0
  have HX := hid hX
  have HA := hid (ha.below hb0)
  have HWb := hid hwb
  have HT := hid (fun W (b : Below (w.heap.size + 2) wb W) => stb.carry hT (hb0.trans (b.mono (by omega))))
  have HV1 := hid (fun W (b : Below (w.heap.size + 2) wb W) => kn.implVC c xs f B W (((HA.out.below (by rw [hz3]; exact b))).infs) (by have := b.size; have := hb0.size; omega) hq (HT.out W b))
  have HE := hid (fun W (b : Below (w.heap.size + 2) wb W) hok => implEnd c xs f B W (((HA.out.below (by rw [hz3]; exact b))).infs) (by have := b.size; have := hb0.size; omega) hq (HT.out W b) hok)
  have HRp := hid (fun W (b : Below (w.heap.size + 2) wb W) k h0 h8 hk1 hk8 => repeatR xs k f B W (HA.out.below (by rw [hz3]; exact b)) (by have := b.size; have := hb0.size; omega) h0 h8 hk1 hk8)
  have HCo := hid (fun (k : Nat) (z : Value) W (b : Below (w.heap.size + 2) wb W) (h : InfsN W W.heap.size z (repR xs k)) hs => implCO c (repR xs k) z W.heap.size W h (Nat.le_refl _) hs (HT.out W b))
  have HK := hid (show rpK c xs t = if chB c xs then (if 1 ≤ t ∧ t ≤ 8 then (if 1 < t ∧ lastC c xs ≠ c then 10 else if chB c (repR xs t.toNat) then 0 else 5) else 2) else 1 from rfl)
  have HNone := hid (fun (w' : World) (k : Int) h h0 b => @rp_none w w' c t xs k h h0 b)
  have HL1 := hid (fun h => @ch_len c xs h)
  have HSm := hid (fun h8 k hk => small_rep hq h8 k hk)
  have HRc := hid (fun h1 h2 h3 => @rp_co c t xs h1 h2 h3)
  obtain ⟨ao, cap, hv⟩ := infs_val ha.infs
  clear ha hb0 hX hq hT
  obtain ⟨n, hnn⟩ : ∃ n, n = xs.length := ⟨_, rfl⟩
  rw [← hnn] at hv HL1 HSm HRp
  have HN := hid hnn
  clear hnn
  subst hv
  obtain ⟨q1, hq1⟩ : ∃ q, q = chB c xs := ⟨_, rfl⟩
  rw [← hq1] at HV1 HK HE HL1 HRc
  have b00 : Below (w.heap.size + 2) wb wb := Below.refl _ _
  have HV10 := hid (HV1.out wb b00)
  rw [hwb] at HV10
  clear hq1 b00 hwb
  cases q1 with
  | false =>
    go_enter Tryd.func8, Tryd.ntmps8
    go_wp2_with fail
    refine HV10.out.mono ?_
    rintro e w1 ⟨rfl, b1⟩
    have bw1 : Below (w.heap.size + 2) wb w1 := by rw [← HWb.out, hz3] at b1; exact b1
    obtain ⟨_, _, r0, r1, z0, z1⟩ := HX.out w1 bw1
    have HBz := hid (HB0.out.trans (bw1.mono (by omega)))
    clear b1 bw1
    go_wp2
    refine bodyPost_ret (v := .tuple #[.agg #[.int .i64 0, .slice none 0 0], .int .i64 1]) (by simp [results, Tryd.results8, go_sem, r0, r1]) rfl ?_
    exact HNone.out _ 1 (by rw [HK.out]; rfl) (by decide) ((HBz.out.setCell (by show w.heap.size ≤ w.heap.size + 1; omega) _).setCell (by show w.heap.size ≤ w.heap.size + 1; omega) _)
  | true =>
    have hl1 := HL1.out (by trivial)
    have HE1 := hid (fun W b => HE.out W b (by trivial))
    have HRc1 := hid (fun h2 h3 => HRc.out (by trivial) h2 h3)
    have HKa : Hid (rpK c xs t = if 1 ≤ t ∧ t ≤ 8 then (if 1 < t ∧ lastC c xs ≠ c then 10 else if chB c (repR xs t.toNat) then 0 else 5) else 2) := hid (by rw [HK.out]; rfl)
    clear HE HL1 HK HRc
    obtain ⟨q2, hq2⟩ : ∃ q, decide (1 ≤ t ∧ t ≤ 8) = q := ⟨_, rfl⟩
    have HIn := hid (fun W => show Calls Tryd.prog 21 #[.int .i64 t, .int .i64 1, .int .i64 8] W fun e w' => e = .returned (.bool q2) ∧ W = w' from by rw [← hq2]; exact pm.within64 t 1 8 W)
    cases q2 with
    | false =>
      have hno : ¬ (1 ≤ t ∧ t ≤ 8) := by simpa using hq2
      have HKb := hid (HKa.out.trans (if_neg hno))
      clear hq2 hno
      go_enter Tryd.func8, Tryd.ntmps8
      go_wp2_with fail
      refine HV10.out.mono ?_
      rintro e w1 ⟨rfl, b1⟩
      have bw1 : Below (w.heap.size + 2) wb w1 := by rw [← HWb.out, hz3] at b1; exact b1
      obtain ⟨_, _, r0, r1, z0, z1⟩ := HX.out w1 bw1
      have HBz := hid (HB0.out.trans (bw1.mono (by omega)))
      clear b1 bw1
      go_wp2_with fail
      refine (HIn.out _).mono ?_
      rintro e w2 ⟨rfl, rfl⟩
      go_wp2
      refine bodyPost_ret (v := .tuple #[.agg #[.int .i64 0, .slice none 0 0], .int .i64 2]) (by simp [results, Tryd.results8, go_sem, r0, r1]) rfl ?_
      exact HNone.out _ 2 HKb.out (by decide) ((HBz.out.setCell (by show w.heap.size ≤ w.heap.size + 1; omega) _).setCell (by show w.heap.size ≤ w.heap.size + 1; omega) _)
    | true =>
      have ht : 1 ≤ t ∧ t ≤ 8 := by simpa using hq2
      have HKb := hid (HKa.out.trans (if_pos ht))
      have HRc2 := hid (fun h3 => HRc1.out ht h3)
      obtain ⟨m, hm⟩ : ∃ m : Nat, t = (m : Int) := ⟨t.toNat, by omega⟩
      have HM2 := hid hm
      have htn : t.toNat = m := by omega
      have hm1 : 1 ≤ m ∧ m ≤ 8 := by omega
      rw [htn] at HKb HRc2
      have HSm1 := hid (HSm.out hl1.2 m hm1.2)
      have HRp1 := hid (fun W b => HRp.out W b m hl1.1 hl1.2 hm1.1 hm1.2)
      have HCo1 := hid (fun z W b h => HCo.out m z W b h HSm1.out)
      obtain ⟨l, hl⟩ : ∃ l, l = lastC c xs := ⟨_, rfl⟩
      rw [← hl] at HKb HE1 HRc2
      obtain ⟨q4, hq4⟩ : ∃ q, q = decide (1 < t ∧ l ≠ c) := ⟨_, rfl⟩
      have HQ4 := hid hq4
      clear hq2 hl hq4 hl1 htn hm HSm HKa HRp HCo HRc1
      go_enter Tryd.func8, Tryd.ntmps8
      go_wp2_with fail
      refine HV10.out.mono ?_
      rintro e w1 ⟨rfl, b1⟩
      have bw1 : Below (w.heap.size + 2) wb w1 := by rw [← HWb.out, hz3] at b1; exact b1
      have HBw1 := hid bw1
      clear b1 bw1
      go_wp2_with fail
      refine (HIn.out _).mono ?_
      rintro e w2 ⟨rfl, hw2⟩
      rw [← hw2]
      clear hw2
      go_upto_region 5 with fail
      go_cut [22] from 14 to 22 (fun s22 wx => s22 = .bool q4 ∧ Below (w.heap.size + 2) wb wx)
      case first =>
        have a2 := (HX.out w1 HBw1.out).1
        have a1 := (HX.out w1 HBw1.out).2.1
        by_cases h1 : 1 < t
        · have hd1 : decide (1 < t) = true := decide_eq_true h1
          have hqq : q4 = (l != c) := by rw [HQ4.out]; by_cases e : l = c <;> simp [h1, e]
          have HQQ := hid hqq
          clear h1 hqq
          go_region_law (first
            | (go_simp
               go_at_call 22
               refine (HE1.out _ (HBw1.out.trans ((bdrewN (Below.refl _ _) _).mono (by rw [← hz3]; exact HBw1.out.size)))).mono ?_
               rintro e w3 ⟨rfl, b3⟩
               have bw3 : Below (w.heap.size + 2) wb w3 := (HBw1.out.trans ((bdrewN (Below.refl _ _) _).mono (by rw [← hz3]; exact HBw1.out.size))).trans (b3.mono (by have := HBw1.out.size; rw [hz3] at this; exact this))
               have a3 := (HX.out w3 bw3).1
               have HBw3 := hid bw3
               clear b3 bw3))
          all_goals
            go_wp2_with fail
            go_meet
            exact ⟨by rw [HQQ.out], HBw3.out⟩
        · have hd1 : decide (1 < t) = false := decide_eq_false h1
          have hqq : q4 = false := by rw [HQ4.out]; simp [h1]
          have HQQ := hid hqq
          clear h1 hqq
          go_region
          all_goals
            go_wp2_with fail
            go_meet
            exact ⟨by rw [HQQ.out], HBw1.out.drew⟩
      case rest =>
        obtain ⟨rfl, bwc⟩ := hcut
        have HBwc := hid bwc
        have hzc : w.heap.size + 2 ≤ wc.heap.size := by have := bwc.size; omega
        clear bwc
        cases q4 with
        | true =>
          have HKc : Hid (rpK c xs t = 10) := hid (by rw [HKb.out, if_pos (of_decide_eq_true HQ4.out.symm)])
          obtain ⟨_, _, r0, r1, z0, z1⟩ := HX.out wc HBwc.out
          have HBz := hid (HB0.out.trans (HBwc.out.mono (by omega)))
          go_wp2
          refine bodyPost_ret (v := .tuple #[.agg #[.int .i64 0, .slice none 0 0], .int .i64 10]) (by simp [results, Tryd.results8, go_sem, r0, r1]) rfl ?_
          exact HNone.out _ 10 HKc.out (by decide) ((HBz.out.setCell (by show w.heap.size ≤ w.heap.size + 1; omega) _).setCell (by show w.heap.size ≤ w.heap.size + 1; omega) _)
        | false =>
          obtain ⟨k1, k2, k3⟩ := HRc2.out (of_decide_eq_false HQ4.out.symm)
          have HK1 := hid k1
          have HK2 := hid k2
          have HK3 := hid k3
          clear HKb HRc2 HSm1 k1 k2 k3 HNone
          generalize coK c (repR xs m) = kk at *
          generalize coC c (repR xs m) = kc at *
          generalize coR c (repR xs m) = kr at *
          obtain ⟨c0, c1, _, _, _, _⟩ := HX.out wc HBwc.out
          have HD3 := hid (HBwc.out.drew)
          have HOt := hid (fun (W : World) (u : Value) (o q : Nat) => show (W.setCell ⟨w.heap.size + 1, o, none⟩ u).cell? ⟨w.heap.size, q, none⟩ = W.cell? ⟨w.heap.size, q, none⟩ from World.cell?_setCell_other _ _ _ _ (fun e => by injection e with e1; omega))
          have HRp2 := hid (fun W b => show Calls Tryd.prog 24 #[.slice ao n cap, .int .i64 t] W fun e w' => ∃ v', e = .returned v' ∧ InfsN w' w'.heap.size v' (repR xs m) ∧ Below W.heap.size W w' from by rw [HM2.out]; exact HRp1.out W b)
          go_wp2
          go_region_held3 (fun w' => w'.cell? ⟨w.heap.size, 0, none⟩ = some (.int .i64 c) ∧ w'.cell? ⟨w.heap.size, 1, none⟩ = some (.slice ao n cap))
            (first
              | (go_keep; done)
              | exact ⟨c0, c1⟩
              | exact ⟨c05, c15⟩
              | exact ⟨c06, c16⟩
              | (refine ⟨?_, ?_⟩ <;> first | assumption | (go_keep; done) | (simp only [HOt.out]; assumption)))
            (first
              | (go_at_call 24
                 refine (HRp2.out _ (by first | exact HD3.out | exact HBwc.out)).mono ?_
                 rintro e w5 ⟨v5, rfl, i5, b5⟩
                 have bw5 : Below (w.heap.size + 2) wb w5 := (by first | exact HD3.out.trans (b5.mono hzc) | exact HBwc.out.trans (b5.mono hzc))
                 obtain ⟨c05, c15, _, _, _, _⟩ := HX.out w5 bw5
                 have HI5 := hid i5
                 have HB5 := hid bw5
                 obtain ⟨a5, p5, hv5⟩ := infs_val i5.infs
                 generalize (repR xs m).length = n5 at hv5
                 clear i5 b5 bw5
                 subst hv5)
              | (go_at_call 23
                 refine (HCo1.out _ _ HB5.out HI5.out).mono ?_
                 rintro e w6 ⟨a9, c9, rfl, o6, b6⟩
                 have bw6 : Below (w.heap.size + 2) wb w6 := HB5.out.trans (b6.mono (by have := HB5.out.size; omega))
                 obtain ⟨c06, c16, r0, r1, z0, z1⟩ := HX.out w6 bw6
                 have HO6 := hid (o6.lo (lo' := w.heap.size + 2) (by have := HB5.out.size; omega))
                 have HB6 := hid bw6
                 obtain ⟨n9, hn9⟩ : ∃ q, q = kr.length := ⟨_, rfl⟩
                 have HN9 := hid hn9
                 rw [← hn9]
                 clear hn9 o6 b6 bw6))
          all_goals
            go_wp2
            refine bodyPost_ret (v := .tuple #[.agg #[.int .i64 kc, .slice a9 n9 c9], .int .i64 kk]) (by simp [results, Tryd.results8, go_sem, r0, r1]) rfl ⟨a9, c9, by rw [HK1.out, HK2.out, HK3.out, ← HN9.out], ?_, ?_⟩
            · rw [HK3.out, ← HN9.out]
              have h2 := ct.iown_other (ct.iown_other HO6.out (w.heap.size + 1) 0 (.int .i64 kc) (by omega)) (w.heap.size + 1) 1 (.slice a9 n9 c9) (by omega)
              have h3 := h2.lo (lo' := w.heap.size) (by omega)
              rw [HN9.out] at h3 ⊢
              simpa using h3
            · exact (((HB0.out.trans (HB6.out.mono (by omega))).setCell (by show w.heap.size ≤ w.heap.size + 1; omega) _).setCell (by show w.heap.size ≤ w.heap.size + 1; omega) _)
end Go.Proofs.YtbbnheiibkcgiabDoor.cy

/- RepeatChart of both sides in the order of arguments that the law's generator wants. -/
namespace Go.Proofs.YtbbnheiibkcgiabDoor.cy
open Go.RowKit Go.Proofs.YtbbnheiibkcgiabDoor.sl Go.Proofs.YtbbnheiibkcgiabDoor.br Go.Proofs.YtbbnheiibkcgiabDoor.ss Go.Proofs.YtbbnheiibkcgiabDoor.ro Go.Proofs.YtbbnheiibkcgiabDoor.cm Go.Proofs.YtbbnheiibkcgiabDoor.cx

theorem sRP (c : Int) (xs : List V) (t : Int) (f : Value) (B : Nat) (w : World) (ha : InfsN w B f xs) (hB : B ≤ w.heap.size) (hq : Small xs) :
    Calls Tryd.prog 6 #[.agg #[.int .i64 c, f], .int .i64 t] w fun e w' => ∃ ao cap, e = .returned (.tuple #[.agg #[.int .i64 (rpC c xs t), .slice ao (rpR c xs t).length cap], .int .i64 (rpK c xs t)]) ∧ IOwn w' w.heap.size w'.heap.size (.slice ao (rpR c xs t).length cap) (rpR c xs t) ∧ Below w.heap.size w w' :=
  specRP c xs f t B w ha hB hq
theorem iRP (c : Int) (xs : List V) (t : Int) (f : Value) (B : Nat) (w : World) (ha : InfsN w B f xs) (hB : B ≤ w.heap.size) (hq : Small xs) (hT : stb.Tab w) :
    Calls Tryd.prog 8 #[.agg #[.int .i64 c, f], .int .i64 t] w fun e w' => ∃ ao cap, e = .returned (.tuple #[.agg #[.int .i64 (rpC c xs t), .slice ao (rpR c xs t).length cap], .int .i64 (rpK c xs t)]) ∧ IOwn w' w.heap.size w'.heap.size (.slice ao (rpR c xs t).length cap) (rpR c xs t) ∧ Below w.heap.size w w' :=
  implRP c xs f t B w ha hB hq hT
end Go.Proofs.YtbbnheiibkcgiabDoor.cy
