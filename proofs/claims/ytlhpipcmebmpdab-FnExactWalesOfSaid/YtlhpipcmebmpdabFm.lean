/-
  In one file: Fb0, Fb2, Fb1.
-/
import Derived.Test.YtlhpipcmebmpdabSl
import Derived.Maps.OwnSet
import Derived.Maps.OwnRows
import Derived.Maps.AppendAt
import Derived.Test.YtlhpipcmebmpdabLm
import Derived.Maps.GroupsBeside
import Derived.Laws.OwnMore
import Derived.Deep.RegionHeld3
import Derived.Deep.RegionHeldLaw
import Derived.Deep.RegionLaw
import Derived.Deep.CutRange
/- Sets of loops: add, has, loopSetOf. -/
namespace Go.Proofs.Ytlhpipcmebmpdab.fb
open Go.RowKit Go.Maps Go.Proofs.Ytlhpipcmebmpdab.sl
set_option linter.unusedVariables false
set_option linter.unusedSimpArgs false

theorem lawK : Keyed Try.prog 2 := int_keyed Try.underlying2
def setS (xs : List Int) : DataW Unit := setOf (.agg []) (xs.map (Lit.int .i64))
theorem setS_snoc (xs : List Int) (x : Int) : setS (xs ++ [x]) = (setS xs).put (.int .i64 x) (.agg []) := by rw [setS, List.map_append]; exact setOf_snoc _ _ _
def SetM (w : World) (b : Nat) (xs : List Int) : Prop := w.ownsMap Try.prog 2 (unitElem (H := Unit)) b xs.length (setS xs)
theorem SetM.kept {w w' : World} {b : Nat} {xs : List Int} {row : Option Nat} (h : SetM w b xs) (hg : w.grownBy w' row) (hne : some b ≠ row) : SetM w' b xs := World.ownsMap.kept h hg hne
theorem grownN {w w' : World} (h : Below w.heap.size w w') : w.grownBy w' none := ⟨h.os, h.tape, h.output, h.size, fun k hk _ => h.block k hk⟩
theorem SetM.below {w w' : World} {b : Nat} {xs : List Int} (h : SetM w b xs) (k : Below w.heap.size w w') : SetM w' b xs := h.kept (grownN k) (by simp)
/-- Numbers that fit. -/
def Fits (xs : List Int) : Prop := ∀ j, j < xs.length → -9223372036854775808 ≤ xs.getD j 0 ∧ xs.getD j 0 ≤ 9223372036854775807
theorem any_int (x : Int) : ∀ l : List Int, l.any ((fun y : Lit => y.sameKey (.int .i64 x)) ∘ Lit.int .i64) = l.contains x
  | [] => rfl
  | y :: l => by
    rw [List.any_cons, any_int x l, List.contains_cons]
    congr 1
    simp only [Function.comp, Lit.sameKey]
    by_cases h : y = x
    · subst h; simp
    · have h2 : ¬ x = y := fun e => h e.symm
      simp [h, h2]
theorem keylit (l : List Int) : ∀ x ∈ l.map (Lit.int .i64), WideAt.IsKeyLit x := by
  intro x hx
  simp only [List.mem_map] at hx
  obtain ⟨a, _, rfl⟩ := hx
  simp [WideAt.IsKeyLit]
theorem has_setS (xs : List Int) (x : Int) : Maps.has (setS xs) (.int .i64 x) = xs.contains x := by
  rw [setS, has_setOf _ _ _ (keylit xs), List.any_map, any_int]

theorem addC (b : Nat) (x : Int) (xs : List Int) (w : World) (h : SetM w b xs) (hx : -9223372036854775808 ≤ x ∧ x ≤ 9223372036854775807) (hn : xs.length ≤ 1099511627776) :
    Calls Try.prog 76 #[.map (some b), .int .i64 x] w fun e w' => (∃ v, e = .returned v) ∧ SetM w' b (xs ++ [x]) ∧ w.grownBy w' (some b) := by
  have hkey : keyOf Try.prog 2 (.int .i64 x) = some (.int .i64 x) := keyOf_int_mk Try.underlying2 (WalkArith.wf_i64 (by omega))
  have HH := hid h
  clear h
  go_enter Try.func76, Try.ntmps76
  go_wp2_with (at_mapUpdate; refine wpList_mapUpdate_own _ rfl _ _ _ 72 rfl 2 105 lawK Try.underlying72 (unitElem (H := Unit)) b xs.length _ rfl HH.out (by unfold maxLen; omega) _ _ _ rfl rfl hkey _ [] unitElem_mk ?_; intro w1 hown1 hgrow1)
  go_end0
  refine ⟨⟨_, rfl⟩, ?_, hgrow1⟩
  unfold SetM
  rw [setS_snoc, List.length_append]
  exact hown1

theorem zeroU (w : World) : (zeroValue 105).run Try.prog w = .ok (.agg #[]) w := by kernel_rfl
theorem hasC (b : Nat) (x : Int) (xs : List Int) (w : World) (h : SetM w b xs) (hx : -9223372036854775808 ≤ x ∧ x ≤ 9223372036854775807) :
    Calls Try.prog 47 #[.map (some b), .int .i64 x] w fun e w' => e = .returned (.bool (xs.contains x)) ∧ Below w.heap.size w w' := by
  have hkey : keyOf Try.prog 2 (.int .i64 x) = some (.int .i64 x) := keyOf_int_mk Try.underlying2 (WalkArith.wf_i64 (by omega))
  have HH := hid h
  have HQ := hid (has_setS xs x)
  clear h
  generalize xs.contains x = q at *
  go_enter Try.func47, Try.ntmps47
  go_wp2_with (at_lookup; refine wpList_lookup_own_unit _ rfl _ _ 72 rfl 2 105 lawK Try.underlying72 (zeroU _) b xs.length _ rfl HH.out _ _ rfl hkey ?_; rw [HQ.out])
  go_ret
  exact ⟨rfl, (Below.refl _ _).alloc (Nat.le_refl _) _⟩

set_option maxHeartbeats 1600000 in
theorem setOfC (xs : List Int) (v : Value) (B : Nat) (w : World) (ha : Ints w B v xs) (hB : B ≤ w.heap.size) (hn : xs.length ≤ 1048576) (hf : Fits xs) :
    Calls Try.prog 74 #[v] w fun e w' => e = .returned (.map (some w.heap.size)) ∧ SetM w' w.heap.size xs ∧ Below w.heap.size w w' := by
  have hmm := @run_makeMap Try.prog
  have HF := hid hf
  clear hf
  rcases ha with ⟨rfl, ao, cap, rfl⟩ | ⟨hp, b, off, cap, rfl, hb, hc⟩
  · go_enter Try.func74, Try.ntmps74
    go_wp2
    refine wp_loop_rounds 1 ?_
    rw [rounds_succ]
    go_wp2
    go_ret
    exact ⟨rfl, World.ownsMap_made _ _ _ _, (Below.refl _ _).alloc (Nat.le_refl _) _⟩
  · have HC := hid hc
    obtain ⟨n, hnn⟩ : ∃ n, n = xs.length := ⟨_, rfl⟩
    have HN := hid hnn
    rw [← hnn] at hp hn ⊢
    clear hc hnn
    go_enter Try.func74, Try.ntmps74
    go_wp2
    go_loopw [9] (fun i wr => ∃ k : Nat, k ≤ n ∧ i = .int .i64 k ∧ SetM wr w.heap.size (xs.take k) ∧ Below w.heap.size w wr) (fun i _ => n - (intOf i).toNat)
    case atStart => exact ⟨0, Nat.zero_le _, rfl, World.ownsMap_made _ _ _ _, (Below.refl _ _).alloc (Nat.le_refl _) _⟩
    case round =>
      obtain ⟨k, hk, rfl, hs, hnx⟩ := hrel
      have HS := hid hs
      have HX := hid hnx
      clear hs hnx
      by_cases hlt : k < n
      · have hcx : wr.cell? ⟨b, off + k, none⟩ = some (.int .i64 (xs.getD k 0)) := (HX.out.cell (p := ⟨b, off + k, none⟩) (by show b < _; omega)).trans (HC.out k (by rw [← HN.out]; exact hlt))
        have hfx := HF.out k (by rw [← HN.out]; exact hlt)
        have HT : Hid (xs.take (k + 1) = xs.take k ++ [xs.getD k 0]) := hid (by
          have hl : k < xs.length := by rw [← HN.out]; exact hlt
          rw [List.take_succ_eq_append_getElem hl]; simp [List.getD, List.getElem?_eq_getElem hl])
        generalize xs.getD k 0 = x at *
        have HAd := hid (addC w.heap.size x (xs.take k) wr HS.out hfx (by simp; omega))
        clear hfx
        go_wp2_with (go_at_call 76; refine HAd.out.mono ?_; rintro e w1 ⟨⟨v, rfl⟩, hs1, hg1⟩)
        go_roundw
        case rel => exact ⟨k + 1, by omega, by go_num, by rw [HT.out]; exact hs1, HX.out.grown hg1 HX.out.size (fun j hj => by cases hj; exact Nat.le_refl _)⟩
        case measure => simp [intOf]; omega
      · obtain rfl : k = n := by omega
        go_wp2
        go_ret
        refine ⟨rfl, ?_, HX.out⟩
        have := HS.out
        rwa [HN.out, List.take_length] at this
end Go.Proofs.Ytlhpipcmebmpdab.fb

/- The map of children: what it reads as, its append. -/
namespace Go.Proofs.Ytlhpipcmebmpdab.mc
open Go.RowKit Go.Sort Go.Maps Go.Proofs.Ytlhpipcmebmpdab.sl Go.Proofs.Ytlhpipcmebmpdab.br Go.Proofs.Ytlhpipcmebmpdab.fn Go.Proofs.Ytlhpipcmebmpdab.ss Go.Proofs.Ytlhpipcmebmpdab.fb
set_option linter.unusedVariables false
set_option linter.unusedSimpArgs false

/-- No block below n but b changes. -/
structure KM (n b : Nat) (w w' : World) : Prop where
  os : w'.os = w.os
  tape : w'.tape = w.tape
  output : w'.output = w.output
  size : w.heap.size ≤ w'.heap.size
  block : ∀ k, k < n → k ≠ b → w'.heap[k]? = w.heap[k]?
theorem KM.refl (n b : Nat) (w : World) : KM n b w w := ⟨rfl, rfl, rfl, Nat.le_refl _, fun _ _ _ => rfl⟩
theorem KM.trans {n b : Nat} {x y z : World} (h : KM n b x y) (k : KM n b y z) : KM n b x z := ⟨k.os.trans h.os, k.tape.trans h.tape, k.output.trans h.output, Nat.le_trans h.size k.size, fun i hi hp => (k.block i hi hp).trans (h.block i hi hp)⟩
theorem KM.cell {n b : Nat} {w w' : World} (h : KM n b w w') {g i : Nat} (hg : g < n) (hne : g ≠ b) : w'.cell? ⟨g, i, none⟩ = w.cell? ⟨g, i, none⟩ := World.cell?_of_block (w := w) (w' := w') (a := ⟨g, i, none⟩) (h.block g hg hne)
theorem KM.ofBelow {n b : Nat} {w w' : World} (h : Below w.heap.size w w') (hn : n ≤ w.heap.size) : KM n b w w' := ⟨h.os, h.tape, h.output, h.size, fun k hk _ => h.block k (by omega)⟩
theorem KM.below {n b m : Nat} {w w' : World} (h : KM n b w w') (h1 : m ≤ n) (h2 : m ≤ b) : Below m w w' := ⟨h.os, h.tape, h.output, h.size, fun k hk => h.block k (by omega) (by omega)⟩
theorem KM.grown {n b : Nat} {w w' : World} {row : Option Nat} (h : w.grownBy w' row) (hn : n ≤ w.heap.size) (hr : ∀ j, row = some j → n ≤ j ∨ j = b) : KM n b w w' := ⟨h.os, h.tape, h.output, h.size, fun k hk hne => h.block k (by omega) (fun e => by rcases hr k e.symm with h1 | h1 <;> omega)⟩

def GrM (w : World) (base cb n : Nat) (D : DataW Unit) : Prop := w.ownsGroups Try.prog 2 base 2 .i64 cb n D
theorem gr_made {w : World} {b base : Nat} (h : w.heap[b]? = some (.map #[] 0)) (hb : b < base) : GrM w base b 0 (.map []) :=
  ⟨#[], 0, h, ⟨by simp, Go.MapKept.stamped_empty 0, by simp⟩, Nat.le_refl _, rfl, hb, by simp, by simp⟩
theorem gr_map {w : World} {base cb n : Nat} {D : DataW Unit} (h : GrM w base cb n D) : IsMap D := by
  obtain ⟨es, clock, _, _, _, rfl, _⟩ := h
  exact ⟨_, rfl⟩
theorem gr_below {w w' : World} {base cb n : Nat} {D : DataW Unit} (h : GrM w base cb n D) (k : Below w.heap.size w w') : GrM w' base cb n D :=
  World.ownsGroups.kept h (grownN k) (by simp) (fun es clock _ x _ => by cases x.val.ownBlock <;> simp)

/-- What the map reads as, key by key. -/
def datL (zs : List Int) : DataW Unit := if zs = [] then .nil else .slice (ChangeShapes.lits .i64 zs) []
def RD (D : DataW Unit) (Ch : Int → List Int) : Prop := ∀ x : Int, D.atKey (.int .i64 x) .nil = datL (Ch x)
def upd (Ch : Int → List Int) (x c : Int) : Int → List Int := fun y => if y = x then Ch x ++ [c] else Ch y
theorem lits_inj {xs ys : List Int} (h : (ChangeShapes.lits (H := Unit) .i64 xs) = ChangeShapes.lits .i64 ys) : xs = ys := by
  induction xs generalizing ys with
  | nil => cases ys with
    | nil => rfl
    | cons y ys => simp [ChangeShapes.lits] at h
  | cons x xs ih => cases ys with
    | nil => simp [ChangeShapes.lits] at h
    | cons y ys =>
      simp only [ChangeShapes.lits, List.map_cons, List.cons.injEq, DataW.lit.injEq, Lit.int.injEq, true_and] at h
      rw [h.1, ih (by simpa [ChangeShapes.lits] using h.2)]
theorem rd_zero : RD (.map []) (fun _ => []) := fun x => rfl
theorem rd_at {w : World} {base : Nat} {D : DataW Unit} {Ch : Int → List Int} {x : Int} {v : Value} {zs : List Int} (h : RD D Ch) (hat : D.atKey (.int .i64 x) .nil = rowDatum .i64 v zs) (ho : w.ownsInts base 2 .i64 v zs) : zs = Ch x := by
  have h1 := h x
  rw [hat] at h1
  rcases ho.datum (H := Unit) with ⟨h2, h3⟩ | h2
  · rw [h2] at h1
    unfold datL at h1
    split at h1
    · rename_i h4; rw [h3, h4]
    · cases h1
  · rw [h2] at h1
    unfold datL at h1
    split at h1
    · cases h1
    · injection h1 with h4 _
      exact lits_inj h4
theorem rd_put {w : World} {base : Nat} {D : DataW Unit} {Ch : Int → List Int} {x c : Int} {v' : Value} {zs : List Int} (h : RD D Ch) (hm : IsMap D) (hz : zs = Ch x) (ho : w.ownsInts base 2 .i64 v' (zs ++ [c])) : RD (D.put (.int .i64 x) (rowDatum .i64 v' (zs ++ [c]))) (upd Ch x c) := by
  intro y
  by_cases e : y = x
  · subst e
    rw [atKey_put_same hm (by simp [WideAt.IsKeyLit]), upd, if_pos rfl, ho.datum_pos (by simp), datL, if_neg (by simp), hz]
  · rw [atKey_put_other (by simpa using e), upd, if_neg e]
    exact h y

/-- The children among the first k loops; .. and among the first j parents of the loop k. -/
def chF (ls : List nf.V) (k : Nat) (x : Int) : List Int := ((List.range k).filter fun c => decide (x ∈ (ls.getD c nf.iz).ps)).map Int.ofNat
def chP (ls : List nf.V) (k j : Nat) (x : Int) : List Int := chF ls k x ++ (if x ∈ (ls.getD k nf.iz).ps.take j then [(k : Int)] else [])
theorem chP_zero (ls : List nf.V) (k : Nat) : chP ls k 0 = chF ls k := by funext x; simp [chP]
theorem chP_succ (ls : List nf.V) (k j : Nat) (hj : j < (ls.getD k nf.iz).ps.length) (hn : (ls.getD k nf.iz).ps.Nodup) : chP ls k (j + 1) = upd (chP ls k j) ((ls.getD k nf.iz).ps.getD j 0) (k : Int) := by
  funext x
  obtain ⟨ps, hps⟩ : ∃ ps, ps = (ls.getD k nf.iz).ps := ⟨_, rfl⟩
  simp only [chP, upd, ← hps] at *
  have ht : ps.take (j + 1) = ps.take j ++ [ps.getD j 0] := take_snoc hj
  have hnin : ps.getD j 0 ∉ ps.take j := by
    intro h
    have e : ps = ps.take (j + 1) ++ ps.drop (j + 1) := (List.take_append_drop _ _).symm
    rw [e, ht] at hn
    have h1 := (List.nodup_append.1 hn).1
    exact (List.nodup_append.1 h1).2.2 (ps.getD j 0) h (ps.getD j 0) (by simp) rfl
  rw [ht]
  by_cases e : x = ps.getD j 0
  · subst e
    rw [if_pos (by simp), if_pos rfl, if_neg hnin, List.append_nil]
  · rw [if_neg e]
    by_cases h2 : x ∈ ps.take j
    · rw [if_pos (by simp [h2]), if_pos h2]
    · rw [if_neg (by simp only [List.mem_append, List.mem_singleton]; rintro (h | h); exact h2 h; exact e h), if_neg h2]
theorem chP_end (ls : List nf.V) (k : Nat) : chP ls k (ls.getD k nf.iz).ps.length = chF ls (k + 1) := by
  funext x
  simp only [chP, chF, List.take_length, List.range_succ, List.filter_append, List.map_append, List.filter_cons, List.filter_nil]
  congr 1
  by_cases h : x ∈ (ls.getD k nf.iz).ps
  · have h' : x ∈ (ls[k]?.getD nf.iz).ps := h
    simp [h']
  · have h' : ¬ x ∈ (ls[k]?.getD nf.iz).ps := h
    simp [h']

/-- append(.., child) as one step of a region. -/
theorem step_appG {ops : Array Oper} {o : Oper} {a : Act} {K : Act → World → Prop} {Q : Exit → Act → World → Prop} {E : Prop} {w : World} (hgd : o.guard = none) (s x : Operand)
    (hop : o.op = .call { callee := .builtin .append, args := #[s, x], argTypes := #[25, 25] })
    (base : Nat) (v : Value) (zs : List Int) (c : Int) (ho : (w.alloc (.cells #[.int .i64 c] 2)).ownsRow base 2 1 v zs.length (zs.map (Value.int .i64))) (hs : a.eval s = v) (hx : a.eval x = .slice (some ⟨w.heap.size, 0, none⟩) 1 1) (hlo : base ≤ w.heap.size) (hn : zs.length ≤ 1048576)
    (hK : ∀ v' w1, w1.ownsRow base 2 1 v' (zs.length + 1) (zs.map (Value.int .i64) ++ [.int .i64 c]) → (w.alloc (.cells #[.int .i64 c] 2)).grownBy w1 v.ownBlock → (v'.ownBlock = v.ownBlock ∨ v'.ownBlock = some (w.alloc (.cells #[.int .i64 c] 2)).heap.size) → K (a.put o.dst v') w1) : if Region.wanted o (yielded ops a.tmps) = true then Oper.wp Try.prog o a (w.alloc (.cells #[.int .i64 c] 2)) K Q else E := by
  have hw : Region.wanted o (yielded ops a.tmps) = true := by simp [Region.wanted, hgd]
  rw [if_pos hw]
  obtain ⟨i0, hi', hz0, hz1, hz2⟩ := info_parts info64
  obtain ⟨v', w', hr, h2, h3, h4, h5⟩ := run_append_own_at (P := Try.prog) (w.alloc (.cells #[.int .i64 c] 2)) base 25 o.type 2 i0 (.int .i64 0) 1 8 Try.underlying25 hi' hz0 hz1 hz2 rfl (by decide) v zs.length (zs.map (Value.int .i64)) ho ⟨w.heap.size, 0, none⟩ 1 1 [.int .i64 c] rfl (cell_one_new _ _ _) (fun u hu => by simp at hu; subst hu; rfl) (by unfold maxLen; omega) (by omega) (by simp; omega)
  unfold Oper.wp execOp
  simp only [hop, resolve, invoke, builtin, Sem.run_bind, Sem.run_pure, Result.andThen_ok, List.map_toArray, List.map_cons, List.map_nil, hs, hx, hr]
  exact hK v' w' h2 h3 h5
end Go.Proofs.Ytlhpipcmebmpdab.mc

/- fabricOf of the program. -/
namespace Go.Proofs.Ytlhpipcmebmpdab.mc
open Go.RowKit Go.Sort Go.Maps Go.Proofs.Ytlhpipcmebmpdab.sl Go.Proofs.Ytlhpipcmebmpdab.br Go.Proofs.Ytlhpipcmebmpdab.fn Go.Proofs.Ytlhpipcmebmpdab.ss Go.Proofs.Ytlhpipcmebmpdab.fb
set_option linter.unusedVariables false
set_option linter.unusedSimpArgs false

/-- A list of a call's, below the heap's end. -/
def Iv (X : World) (v : Value) (xs : List Int) : Prop := ∃ B, B ≤ X.heap.size ∧ Ints X B v xs
theorem Iv.below {X Y : World} {v : Value} {xs : List Int} (h : Iv X v xs) (k : Below X.heap.size X Y) : Iv Y v xs := by
  obtain ⟨B, h1, h2⟩ := h
  exact ⟨B, Nat.le_trans h1 k.size, h2.chg (Chg.ofBelow (lo := 0) k) (.inr (Nat.zero_le _))⟩
theorem Iv.alloc {X : World} {v : Value} {xs : List Int} (h : Iv X v xs) (o : Obj) : Iv (X.alloc o) v xs := h.below ((Below.refl _ _).alloc (Nat.le_refl _) o)
theorem Iv.drew {X : World} {v : Value} {xs : List Int} (h : Iv X v xs) : Iv X.drew v xs := h.below (Below.refl _ _).drew
theorem sm_alloc {X : World} {b : Nat} {xs : List Int} (h : SetM X b xs) (o : Obj) : SetM (X.alloc o) b xs := h.below ((Below.refl _ _).alloc (Nat.le_refl _) o)
theorem sm_drew {X : World} {b : Nat} {xs : List Int} (h : SetM X b xs) : SetM X.drew b xs := h.below (Below.refl _ _).drew
/-- An empty map. -/
def EM (X : World) (b : Nat) : Prop := X.heap[b]? = some (.map #[] 0)
theorem EM.below {X Y : World} {b : Nat} (h : EM X b) (k : Below X.heap.size X Y) : EM Y b := (k.block b (Array.getElem?_eq_some_iff.1 h).1).trans h
theorem EM.alloc {X : World} {b : Nat} (h : EM X b) (o : Obj) : EM (X.alloc o) b := h.below ((Below.refl _ _).alloc (Nat.le_refl _) o)
theorem EM.drew {X : World} {b : Nat} (h : EM X b) : EM X.drew b := h
theorem em_self (X : World) : EM (X.alloc (.map #[] 0)) X.heap.size := World.alloc_heap_new X _
theorem em_new {X Y : World} (k : Below (X.alloc (.map #[] 0)).heap.size (X.alloc (.map #[] 0)) Y) : EM Y X.heap.size := (em_self X).below k
theorem em_newd {X Y : World} (k : Below (X.alloc (.map #[] 0)).drew.heap.size (X.alloc (.map #[] 0)).drew Y) : EM Y X.heap.size := (EM.drew (em_self X)).below k
theorem em_selfd (X : World) : EM (X.alloc (.map #[] 0)).drew X.heap.size := em_self X
/-- What the calls of fabricOf's third statement may rely on. -/
structure Zf (w : World) (pb ps : Nat) (a p : Int) (f0 f1 f2 f3 f4 : Value) (X : World) : Prop where
  c0 : X.cell? ⟨ps, 0, none⟩ = some (.int .i64 a)
  c1 : X.cell? ⟨ps, 1, none⟩ = some (.int .i64 p)
  c2 : X.cell? ⟨ps, 2, none⟩ = some f0
  c3 : X.cell? ⟨ps, 3, none⟩ = some f1
  y5 : X.cell? ⟨pb, 5, none⟩ = some f3
  y6 : X.cell? ⟨pb, 6, none⟩ = some f4
  lb : pb < X.heap.size
  ls : ps < X.heap.size
  bl : Below w.heap.size w X
theorem Zf.below {w X Y : World} {pb ps : Nat} {a p : Int} {f0 f1 f2 f3 f4 : Value} (h : Zf w pb ps a p f0 f1 f2 f3 f4 X) (k : Below X.heap.size X Y) : Zf w pb ps a p f0 f1 f2 f3 f4 Y := by
  have e : ∀ g i, g < X.heap.size → Y.cell? ⟨g, i, none⟩ = X.cell? ⟨g, i, none⟩ := fun g i hg => k.cell (p := ⟨g, i, none⟩) hg
  exact ⟨(e _ _ h.ls).trans h.c0, (e _ _ h.ls).trans h.c1, (e _ _ h.ls).trans h.c2, (e _ _ h.ls).trans h.c3, (e _ _ h.lb).trans h.y5, (e _ _ h.lb).trans h.y6, Nat.lt_of_lt_of_le h.lb k.size, Nat.lt_of_lt_of_le h.ls k.size, h.bl.trans (k.mono h.bl.size)⟩
theorem Zf.alloc {w X : World} {pb ps : Nat} {a p : Int} {f0 f1 f2 f3 f4 : Value} (h : Zf w pb ps a p f0 f1 f2 f3 f4 X) (o : Obj) : Zf w pb ps a p f0 f1 f2 f3 f4 (X.alloc o) := h.below ((Below.refl _ _).alloc (Nat.le_refl _) o)
theorem Zf.drew {w X : World} {pb ps : Nat} {a p : Int} {f0 f1 f2 f3 f4 : Value} (h : Zf w pb ps a p f0 f1 f2 f3 f4 X) : Zf w pb ps a p f0 f1 f2 f3 f4 X.drew := h.below (Below.refl _ _).drew
theorem SetM.alloc {X : World} {b : Nat} {xs : List Int} (h : SetM X b xs) (o : Obj) : SetM (X.alloc o) b xs := sm_alloc h o
theorem SetM.drew {X : World} {b : Nat} {xs : List Int} (h : SetM X b xs) : SetM X.drew b xs := sm_drew h

/-- The fabric's box, ahead of the children. -/
structure FabP (w : World) (m : Mch) (a p : Int) (f3 : Value) (pb fp cb bL bD : Nat) (X : World) : Prop where
  c0 : X.cell? ⟨fp, 0, none⟩ = some f3
  c1 : X.cell? ⟨fp, 1, none⟩ = some (.map (some cb))
  c2 : X.cell? ⟨fp, 2, none⟩ = some (.map (some bL))
  c3 : X.cell? ⟨fp, 3, none⟩ = some (.map (some bD))
  y5 : X.cell? ⟨pb, 5, none⟩ = some f3
  lf : fp < X.heap.size
  lc : cb < X.heap.size
  ne : cb ≠ fp ∧ cb ≠ pb
  em : EM X cb
  sl : SetM X bL (liveL a p m)
  sd : SetM X bD m.dr
  nl : cb ≠ bL ∧ cb ≠ bD ∧ w.heap.size ≤ cb ∧ w.heap.size ≤ fp
  bl : Below w.heap.size w X
theorem fab_new {w Y : World} {m : Mch} {a p : Int} {f0 f1 f2 f3 f4 : Value} {pb ps cb bL bD : Nat} (z : Zf w pb ps a p f0 f1 f2 f3 f4 Y) (em : EM Y cb) (sl : SetM Y bL (liveL a p m)) (sd : SetM Y bD m.dr) (h1 : cb ≠ bL) (h2 : cb ≠ bD) (h3 : w.heap.size ≤ cb) :
    FabP w m a p f3 pb Y.heap.size cb bL bD (Y.alloc (.cells #[f3, .map (some cb), .map (some bL), .map (some bD)] 76)) := by
  have hc : cb < Y.heap.size := (Array.getElem?_eq_some_iff.1 em).1
  have hne : cb ≠ pb := by
    intro e
    have h := z.y5
    rw [← e] at h
    simp [World.cell?, show Y.heap[cb]? = _ from em] at h
  exact ⟨World.cell?_alloc_at _ _ _ _ rfl, World.cell?_alloc_at _ _ _ _ rfl, World.cell?_alloc_at _ _ _ _ rfl, World.cell?_alloc_at _ _ _ _ rfl, (z.alloc _).y5, by simp, by simp; omega, ⟨by omega, hne⟩, em.alloc _, sl.alloc _, sd.alloc _, ⟨h1, h2, h3, z.bl.size⟩, (z.alloc _).bl⟩
theorem fab_newm {w Y : World} {m : Mch} {a p : Int} {f0 f1 f2 f3 f4 : Value} {pb ps bL bD : Nat} (z : Zf w pb ps a p f0 f1 f2 f3 f4 Y) (sl : SetM Y bL (liveL a p m)) (sd : SetM Y bD m.dr) :
    FabP w m a p f3 pb (Y.heap.size + 1) Y.heap.size bL bD ((Y.alloc (.map #[] 0)).alloc (.cells #[f3, .map (some Y.heap.size), .map (some bL), .map (some bD)] 76)) := by
  have h := fab_new (z.alloc (.map #[] 0)) (em_self Y) (sl.alloc _) (sd.alloc _) (Nat.ne_of_gt (World.ownsMap.lt sl)) (Nat.ne_of_gt (World.ownsMap.lt sd)) z.bl.size
  simpa using h
/-- The fabric. -/
structure FabC (w : World) (m : Mch) (a p : Int) (f3 : Value) (fp cb bL bD base n : Nat) (D : DataW Unit) (X : World) : Prop where
  c0 : X.cell? ⟨fp, 0, none⟩ = some f3
  c1 : X.cell? ⟨fp, 1, none⟩ = some (.map (some cb))
  c2 : X.cell? ⟨fp, 2, none⟩ = some (.map (some bL))
  c3 : X.cell? ⟨fp, 3, none⟩ = some (.map (some bD))
  sl : SetM X bL (liveL a p m)
  sd : SetM X bD m.dr
  gr : GrM X base cb n D
  rd : RD D (chF m.ls m.ls.length)
  nn : n ≤ 4 * m.ls.length
  wb : w.heap.size ≤ base
  bl : Below w.heap.size w X
theorem FabC.below {w X Y : World} {m : Mch} {a p : Int} {f3 : Value} {fp cb bL bD base n : Nat} {D : DataW Unit} (h : FabC w m a p f3 fp cb bL bD base n D X) (k : Below X.heap.size X Y) : FabC w m a p f3 fp cb bL bD base n D Y := by
  have e : ∀ i v, X.cell? ⟨fp, i, none⟩ = some v → Y.cell? ⟨fp, i, none⟩ = some v := fun i v hv => (k.cell (p := ⟨fp, i, none⟩) (World.block_lt_of_cell? X _ hv)).trans hv
  exact ⟨e _ _ h.c0, e _ _ h.c1, e _ _ h.c2, e _ _ h.c3, h.sl.below k, h.sd.below k, gr_below h.gr k, h.rd, h.nn, h.wb, h.bl.trans (k.mono h.bl.size)⟩
theorem ne_em {X : World} {b g i : Nat} {v : Value} (h : EM X b) (hc : X.cell? ⟨g, i, none⟩ = some v) : g ≠ b := by
  rintro rfl
  simp [World.cell?, show X.heap[g]? = _ from h] at hc
/-- The whole of it, behind the loops. -/
theorem fab_done {w W5 X : World} {m : Mch} {a p : Int} {f3 : Value} {pb fp cb bL bD n : Nat} {D : DataW Unit} (h : FabP w m a p f3 pb fp cb bL bD W5) (k : KM W5.heap.size cb W5 X) (g : GrM X W5.heap.size cb n D) (r : RD D (chF m.ls m.ls.length)) (hn : n ≤ 4 * m.ls.length) : FabC w m a p f3 fp cb bL bD W5.heap.size n D X := by
  have hne := h.ne
  have hnl := h.nl
  have e : ∀ i v, W5.cell? ⟨fp, i, none⟩ = some v → X.cell? ⟨fp, i, none⟩ = some v := fun i v hv => (k.cell h.lf (by omega)).trans hv
  have hg : W5.grownBy X (some cb) := ⟨k.os, k.tape, k.output, k.size, fun i hi hr => k.block i hi (fun e => hr (by rw [e]))⟩
  exact ⟨e _ _ h.c0, e _ _ h.c1, e _ _ h.c2, e _ _ h.c3, h.sl.kept hg (by simp; omega), h.sd.kept hg (by simp; omega), g, r, hn, h.bl.size, h.bl.trans (k.below h.bl.size (by omega))⟩
theorem zeroSl (w : World) : (zeroValue 25).run Try.prog w = .ok (.slice none 0 0) w := by kernel_rfl
theorem place_mem {a p : Int} {m : Mch} (h : OkM a p m) {x : Int} (hx : x ∈ (m.fr ++ m.bk).flatten ++ m.dr) : 0 ≤ x ∧ x < (m.ls.length : Int) := by
  have h1 := h.pl
  simp only [placeB, Bool.and_eq_true] at h1
  obtain ⟨j, hj, rfl⟩ := List.getElem_of_mem hx
  have := (diff_parts h1.2).1 j hj
  rw [getD_get hj] at this
  have h2 : 0 ≤ ((m.fr ++ m.bk).flatten ++ m.dr)[j] ∧ ((m.fr ++ m.bk).flatten ++ m.dr)[j] ≤ (m.ls.length : Int) - 1 := by simpa [inB] using this
  omega
theorem on_mem {m : Mch} {b t x : Int} (h : x ∈ onW m b t) : x ∈ (m.fr ++ m.bk).flatten ++ m.dr := by
  have key : ∀ (rows : List (List Int)) (j : Nat), x ∈ rows.getD j [] → x ∈ rows.flatten := by
    intro rows j hx
    by_cases hj : j < rows.length
    · rw [List.mem_flatten]
      refine ⟨rows[j], List.getElem_mem hj, ?_⟩
      simpa [List.getD, List.getElem?_eq_getElem hj] using hx
    · rw [show rows.getD j [] = [] from by simp [List.getD, List.getElem?_eq_none (Nat.le_of_not_lt hj)]] at hx
      cases hx
  rw [List.mem_append, List.flatten_append, List.mem_append]
  unfold onW at h
  split at h
  · exact .inl (.inl (key _ _ h))
  · exact .inl (.inr (key _ _ h))
theorem live_mem {a p : Int} {m : Mch} (h : OkM a p m) {x : Int} (hx : x ∈ liveL a p m) : 0 ≤ x ∧ x < (m.ls.length : Int) := by
  simp only [liveL, liveQ, List.mem_flatten, List.mem_map] at hx
  obtain ⟨l, ⟨q, _, rfl⟩, hx⟩ := hx
  exact place_mem h (on_mem hx)
theorem ls_len {a p : Int} {m : Mch} (h : OkM a p m) : m.ls.length ≤ 300 := (infs_parts h.ls).1
theorem fits_live {a p : Int} {m : Mch} (h : OkM a p m) : Fits (liveL a p m) := fun j hj => by
  have h1 := live_mem h (List.getElem_mem hj)
  have := ls_len h
  rw [getD_get hj]; omega
theorem fits_dr {a p : Int} {m : Mch} (h : OkM a p m) : Fits m.dr := fun j hj => by
  have h1 := place_mem h (x := m.dr[j]) (by simp)
  have := ls_len h
  rw [getD_get hj]; omega
/-- The parents of a loop of a valid machine. -/
theorem par_ok {a p : Int} {m : Mch} (h : OkM a p m) (k : Nat) (hk : k < m.ls.length) : (m.ls.getD k nf.iz).ps.length ≤ 4 ∧ (m.ls.getD k nf.iz).ps.Nodup ∧ ∀ j, j < (m.ls.getD k nf.iz).ps.length → 0 ≤ (m.ls.getD k nf.iz).ps.getD j 0 ∧ (m.ls.getD k nf.iz).ps.getD j 0 < (k : Int) := by
  have h1 := (infs_parts h.ls).2 k hk
  simp only [infX, infB, Bool.and_eq_true] at h1
  obtain ⟨⟨hk1, _⟩, hd⟩ := h1
  have h2 := diff_parts hd
  refine ⟨?_, h2.2, fun j hj => ?_⟩
  · unfold kindB at hk1
    split at hk1
    · simp only [decide_eq_true_eq] at hk1; omega
    · split at hk1
      · simp only [beq_iff_eq] at hk1; omega
      · split at hk1
        · simp only [inB, decide_eq_true_eq] at hk1; omega
        · cases hk1
  · have := h2.1 j hj
    simp only [inB, decide_eq_true_eq] at this
    omega
set_option maxRecDepth 100000 in
set_option maxHeartbeats 8000000 in
theorem fabricC (a p : Int) (m : Mch) (f0 f1 f2 f3 f4 : Value) (B : Nat) (w : World) (ha : MInC w B f0 f1 f2 f3 f4 m) (hB : B ≤ w.heap.size) (hq : Small m) (hok : okM a p m = true) :
    Calls Try.prog 45 #[.agg #[.int .i64 a, .int .i64 p, f0, f1, f2, f3, f4]] w fun e w' => ∃ fp cb bL bD base n : Nat, ∃ D : DataW Unit, e = .returned (.tuple #[.pointer (some ⟨fp, 0, none⟩), .int .i64 0]) ∧ FabC w m a p f3 fp cb bL bD base n D w' := by
  have HV := hid (fun W (h : Below w.heap.size w W) => implVM a p m f0 f1 f2 f3 f4 B W (ha.below h) (Nat.le_trans hB h.size) hq)
  have HOk := hid (okM_parts hok)
  rw [hok] at HV
  have HCv : Hid (∀ (pb ps : Nat) (X : World), Zf w pb ps a p f0 f1 f2 f3 f4 X → Calls Try.prog 75 #[.pointer (some ⟨ps, 0, none⟩)] X fun e X' => ∃ v, e = .returned v ∧ Iv X' v (liveL a p m) ∧ Below X.heap.size X X') := hid (fun pb ps X z => (liveC ps a p m f0 f1 f2 f3 f4 B X (ha.below z.bl) (Nat.le_trans hB z.bl.size) hq HOk.out z.c0 z.c1 z.c2 z.c3).mono (by rintro e X' ⟨v, rfl, o, b⟩; exact ⟨v, rfl, ⟨_, Nat.le_refl _, o.ints⟩, b⟩))
  have HCl : Hid (∀ (X : World) (v : Value), Iv X v (liveL a p m) → Calls Try.prog 74 #[v] X fun e X' => ∃ b, e = .returned (.map (some b)) ∧ SetM X' b (liveL a p m) ∧ (X.heap.size ≤ b ∧ b < X'.heap.size) ∧ Below X.heap.size X X') := hid (fun X v h => by
    obtain ⟨B', h1, h2⟩ := h
    exact (setOfC (liveL a p m) v B' X h2 h1 (by have := liveL_len HOk.out; omega) (fits_live HOk.out)).mono (by rintro e X' ⟨rfl, o, b⟩; exact ⟨_, rfl, o, ⟨Nat.le_refl _, World.ownsMap.lt o⟩, b⟩))
  have HCd : Hid (∀ (pb ps : Nat) (X : World), Zf w pb ps a p f0 f1 f2 f3 f4 X → Calls Try.prog 74 #[f4] X fun e X' => ∃ b, e = .returned (.map (some b)) ∧ SetM X' b m.dr ∧ (X.heap.size ≤ b ∧ b < X'.heap.size) ∧ Below X.heap.size X X') := hid (fun pb ps X z => (setOfC m.dr f4 B X (ha.below z.bl).rd.h4 (Nat.le_trans hB z.bl.size) hq.s4 (fits_dr HOk.out)).mono (by rintro e X' ⟨rfl, o, b⟩; exact ⟨_, rfl, o, ⟨Nat.le_refl _, World.ownsMap.lt o⟩, b⟩))
  obtain ⟨⟨a0, k0, rfl⟩, ⟨a1, k1, rfl⟩, ⟨a2, k2, rfl⟩, ⟨a3, k3, rfl⟩, ⟨a4, k4, rfl⟩⟩ := ha.vals
  have HInf := hid (fun (X : World) (h : Below w.heap.size w X) => (ha.below h).rd.h3)
  obtain ⟨n3, hn3⟩ : ∃ n, n = m.ls.length := ⟨_, rfl⟩
  have HN3 := hid hn3
  have hl3 : n3 ≤ 300 := by rw [hn3]; exact ls_len HOk.out
  rw [← hn3] at HV HCv HCd HInf ⊢
  clear ha hq hok hn3
  generalize m.fr.length = n0 at *
  generalize m.bk.length = n1 at *
  generalize m.cs.length = n2 at *
  generalize m.dr.length = n4 at *
  have HX := hid (bx_new w 34 a p (.slice a0 n0 k0) (.slice a1 n1 k1) (.slice a2 n2 k2) (.slice a3 n3 k3) (.slice a4 n4 k4))
  go_enter Try.func45, Try.ntmps45
  have hmm := @run_makeMap Try.prog
  go_wp2_with fail
  generalize (w.alloc (.cells #[.int .i64 a, .int .i64 p, .slice a0 n0 k0, .slice a1 n1 k1, .slice a2 n2 k2, .slice a3 n3 k3, .slice a4 n4 k4] 34)) = W1 at *
  refine (HV.out W1 HX.out.b0).mono ?_
  rintro e W2 ⟨rfl, b2⟩
  have HX2 := hid (HX.out.below b2)
  clear b2 HX HV
  have y0 := HX2.out.c0
  have y1 := HX2.out.c1
  have y2 := HX2.out.c2
  have y3 := HX2.out.c3
  have y4 := HX2.out.c4
  have y5 := HX2.out.c5
  have y6 := HX2.out.c6
  have b4 := (Below.refl W2.heap.size W2).alloc (Nat.le_refl _) (.cells #[.int .i64 a, .int .i64 p, .slice a0 n0 k0, .slice a1 n1 k1, .slice a2 n2 k2, .slice a3 n3 k3, .slice a4 n4 k4] 102)
  have HX4 := hid (HX2.out.below b4)
  have HS := hid (bx_new W2 102 a p (.slice a0 n0 k0) (.slice a1 n1 k1) (.slice a2 n2 k2) (.slice a3 n3 k3) (.slice a4 n4 k4))
  have hpb : w.heap.size < W2.heap.size := HX2.out.lt
  clear b4
  go_upto_region 4 with fail
  generalize W2.alloc (.cells #[.int .i64 a, .int .i64 p, .slice a0 n0 k0, .slice a1 n1 k1, .slice a2 n2 k2, .slice a3 n3 k3, .slice a4 n4 k4] 102) = W4 at *
  clear y0 y1 y2 y3 y4 y5 y6
  obtain ⟨ps, hps⟩ : ∃ ps, ps = W2.heap.size := ⟨_, rfl⟩
  have HZ : Hid (Zf w w.heap.size W2.heap.size a p (.slice a0 n0 k0) (.slice a1 n1 k1) (.slice a2 n2 k2) (.slice a3 n3 k3) (.slice a4 n4 k4) W4) := hid ⟨HS.out.c0, HS.out.c1, HS.out.c2, HS.out.c3, HX4.out.c5, HX4.out.c6, HX4.out.lt, HS.out.lt, HX4.out.b0⟩
  have yc5 := HZ.out.y5
  have yc6 := HZ.out.y6
  clear HX2 HX4 HS
  have hpw : w.heap.size < ps := by omega
  rw [← hps] at *
  have hls := HZ.out.ls
  have hlm := HZ.out.lb
  go_cut [5] from 14 to 23 (fun s5 wx => ∃ fp cb bL bD : Nat, s5 = .pointer (some ⟨fp, 0, none⟩) ∧ FabP w m a p (.slice a3 n3 k3) w.heap.size fp cb bL bD wx)
  case first =>
    go_region_held3 (fun w' => w'.cell? ⟨w.heap.size, 5, none⟩ = some (.slice a3 n3 k3) ∧ w'.cell? ⟨w.heap.size, 6, none⟩ = some (.slice a4 n4 k4)) (go_keep)
      (first
        | (go_at_call_of 74 (vL : Value); go_loud (refine (HCl.out _ _ (by (first | exact HV.out | exact HV.out.drew | exact HV.out.alloc _ | exact (HV.out.drew).alloc _ | exact (HV.out.alloc _).drew | exact (HV.out.alloc _).alloc _ | exact ((HV.out.drew).alloc _).alloc _))).mono ?_; rintro e Y3 ⟨bL, rfl, sL, hnL, bb⟩; have HSL := hid sL; clear sL; obtain ⟨hnL0, hnL1⟩ := hnL; (try simp at hnL0); have HZ := hid ((show Zf w w.heap.size ps a p (.slice a0 n0 k0) (.slice a1 n1 k1) (.slice a2 n2 k2) (.slice a3 n3 k3) (.slice a4 n4 k4) _ from by (first | exact HZ.out | exact HZ.out.drew | exact HZ.out.alloc _ | exact (HZ.out.drew).alloc _ | exact (HZ.out.alloc _).drew | exact (HZ.out.alloc _).alloc _ | exact ((HZ.out.drew).alloc _).alloc _)).below bb); (try have HV := hid ((show Iv _ vL (liveL a p m) from by (first | exact HV.out | exact HV.out.drew | exact HV.out.alloc _ | exact (HV.out.drew).alloc _ | exact (HV.out.alloc _).drew | exact (HV.out.alloc _).alloc _ | exact ((HV.out.drew).alloc _).alloc _)).below bb)); (try have HSLx := hid ((show SetM _ bL (liveL a p m) from by (first | exact HSL.out | exact HSL.out.drew | exact HSL.out.alloc _ | exact (HSL.out.drew).alloc _ | exact (HSL.out.alloc _).drew | exact (HSL.out.alloc _).alloc _ | exact ((HSL.out.drew).alloc _).alloc _)).below bb)); (try have HSD := hid ((show SetM _ bD m.dr from by (first | exact HSD.out | exact HSD.out.drew | exact HSD.out.alloc _ | exact (HSD.out.drew).alloc _ | exact (HSD.out.alloc _).drew | exact (HSD.out.alloc _).alloc _ | exact ((HSD.out.drew).alloc _).alloc _)).below bb)); (first | have HEM := hid (em_new bb) | have HEM := hid (em_newd bb) | have HEM := hid ((show EM _ _ from by (first | exact HEM.out | exact HEM.out.drew | exact HEM.out.alloc _ | exact (HEM.out.drew).alloc _ | exact (HEM.out.alloc _).drew | exact (HEM.out.alloc _).alloc _ | exact ((HEM.out.drew).alloc _).alloc _)).below bb) | skip); have hzz := bb.size; (try simp at hzz); obtain ⟨yc0, yc1, yc2, yc3, yc5, yc6, hlm, hls, hbl⟩ := HZ.out; clear bb hbl yc0 yc1 yc2 yc3))
        | (go_at_call_of 74 (Value.slice a4 n4 k4); go_loud (refine (HCd.out _ _ _ (by (first | exact HZ.out | exact HZ.out.drew | exact HZ.out.alloc _ | exact (HZ.out.drew).alloc _ | exact (HZ.out.alloc _).drew | exact (HZ.out.alloc _).alloc _ | exact ((HZ.out.drew).alloc _).alloc _))).mono ?_; rintro e Y2 ⟨bD, rfl, sD, hnD, bb⟩; have HSD := hid sD; clear sD; obtain ⟨hnD0, hnD1⟩ := hnD; (try simp at hnD0); have HZ := hid ((show Zf w w.heap.size ps a p (.slice a0 n0 k0) (.slice a1 n1 k1) (.slice a2 n2 k2) (.slice a3 n3 k3) (.slice a4 n4 k4) _ from by (first | exact HZ.out | exact HZ.out.drew | exact HZ.out.alloc _ | exact (HZ.out.drew).alloc _ | exact (HZ.out.alloc _).drew | exact (HZ.out.alloc _).alloc _ | exact ((HZ.out.drew).alloc _).alloc _)).below bb); (try have HV := hid ((show Iv _ vL (liveL a p m) from by (first | exact HV.out | exact HV.out.drew | exact HV.out.alloc _ | exact (HV.out.drew).alloc _ | exact (HV.out.alloc _).drew | exact (HV.out.alloc _).alloc _ | exact ((HV.out.drew).alloc _).alloc _)).below bb)); (try have HSL := hid ((show SetM _ bL (liveL a p m) from by (first | exact HSL.out | exact HSL.out.drew | exact HSL.out.alloc _ | exact (HSL.out.drew).alloc _ | exact (HSL.out.alloc _).drew | exact (HSL.out.alloc _).alloc _ | exact ((HSL.out.drew).alloc _).alloc _)).below bb)); (try have HSDx := hid ((show SetM _ bD m.dr from by (first | exact HSD.out | exact HSD.out.drew | exact HSD.out.alloc _ | exact (HSD.out.drew).alloc _ | exact (HSD.out.alloc _).drew | exact (HSD.out.alloc _).alloc _ | exact ((HSD.out.drew).alloc _).alloc _)).below bb)); (first | have HEM := hid (em_new bb) | have HEM := hid (em_newd bb) | have HEM := hid ((show EM _ _ from by (first | exact HEM.out | exact HEM.out.drew | exact HEM.out.alloc _ | exact (HEM.out.drew).alloc _ | exact (HEM.out.alloc _).drew | exact (HEM.out.alloc _).alloc _ | exact ((HEM.out.drew).alloc _).alloc _)).below bb) | skip); have hzz := bb.size; (try simp at hzz); obtain ⟨yc0, yc1, yc2, yc3, yc5, yc6, hlm, hls, hbl⟩ := HZ.out; clear bb hbl yc0 yc1 yc2 yc3))
        | (go_at_call 75; go_loud (refine (HCv.out _ _ _ (by (first | exact HZ.out | exact HZ.out.drew | exact HZ.out.alloc _ | exact (HZ.out.drew).alloc _ | exact (HZ.out.alloc _).drew | exact (HZ.out.alloc _).alloc _ | exact ((HZ.out.drew).alloc _).alloc _))).mono ?_; rintro e Y1 ⟨vL, rfl, oV, bb⟩; have HV := hid oV; clear oV; have HZ := hid ((show Zf w w.heap.size ps a p (.slice a0 n0 k0) (.slice a1 n1 k1) (.slice a2 n2 k2) (.slice a3 n3 k3) (.slice a4 n4 k4) _ from by (first | exact HZ.out | exact HZ.out.drew | exact HZ.out.alloc _ | exact (HZ.out.drew).alloc _ | exact (HZ.out.alloc _).drew | exact (HZ.out.alloc _).alloc _ | exact ((HZ.out.drew).alloc _).alloc _)).below bb); (try have HVx := hid ((show Iv _ vL (liveL a p m) from by (first | exact HV.out | exact HV.out.drew | exact HV.out.alloc _ | exact (HV.out.drew).alloc _ | exact (HV.out.alloc _).drew | exact (HV.out.alloc _).alloc _ | exact ((HV.out.drew).alloc _).alloc _)).below bb)); (try have HSL := hid ((show SetM _ bL (liveL a p m) from by (first | exact HSL.out | exact HSL.out.drew | exact HSL.out.alloc _ | exact (HSL.out.drew).alloc _ | exact (HSL.out.alloc _).drew | exact (HSL.out.alloc _).alloc _ | exact ((HSL.out.drew).alloc _).alloc _)).below bb)); (try have HSD := hid ((show SetM _ bD m.dr from by (first | exact HSD.out | exact HSD.out.drew | exact HSD.out.alloc _ | exact (HSD.out.drew).alloc _ | exact (HSD.out.alloc _).drew | exact (HSD.out.alloc _).alloc _ | exact ((HSD.out.drew).alloc _).alloc _)).below bb)); (first | have HEM := hid (em_new bb) | have HEM := hid (em_newd bb) | have HEM := hid ((show EM _ _ from by (first | exact HEM.out | exact HEM.out.drew | exact HEM.out.alloc _ | exact (HEM.out.drew).alloc _ | exact (HEM.out.alloc _).drew | exact (HEM.out.alloc _).alloc _ | exact ((HEM.out.drew).alloc _).alloc _)).below bb) | skip); have hzz := bb.size; (try simp at hzz); obtain ⟨yc0, yc1, yc2, yc3, yc5, yc6, hlm, hls, hbl⟩ := HZ.out; clear bb hbl yc0 yc1 yc2 yc3)))
    all_goals
      go_wp2_with fail
      go_meet
      first
        | exact ⟨_, _, _, _, rfl, fab_newm (by (first | exact HZ.out | exact HZ.out.drew | exact HZ.out.alloc _ | exact (HZ.out.drew).alloc _ | exact (HZ.out.alloc _).drew | exact (HZ.out.alloc _).alloc _ | exact ((HZ.out.drew).alloc _).alloc _)) (by (first | exact HSL.out | exact HSL.out.drew | exact HSL.out.alloc _ | exact (HSL.out.drew).alloc _ | exact (HSL.out.alloc _).drew | exact (HSL.out.alloc _).alloc _ | exact ((HSL.out.drew).alloc _).alloc _)) (by (first | exact HSD.out | exact HSD.out.drew | exact HSD.out.alloc _ | exact (HSD.out.drew).alloc _ | exact (HSD.out.alloc _).drew | exact (HSD.out.alloc _).alloc _ | exact ((HSD.out.drew).alloc _).alloc _))⟩
        | exact ⟨_, _, _, _, rfl, fab_new (by (first | exact HZ.out | exact HZ.out.drew | exact HZ.out.alloc _ | exact (HZ.out.drew).alloc _ | exact (HZ.out.alloc _).drew | exact (HZ.out.alloc _).alloc _ | exact ((HZ.out.drew).alloc _).alloc _)) (by (first | exact em_self _ | exact em_selfd _ | (first | exact HEM.out | exact HEM.out.drew | exact HEM.out.alloc _ | exact (HEM.out.drew).alloc _ | exact (HEM.out.alloc _).drew | exact (HEM.out.alloc _).alloc _ | exact ((HEM.out.drew).alloc _).alloc _))) (by (first | exact HSL.out | exact HSL.out.drew | exact HSL.out.alloc _ | exact (HSL.out.drew).alloc _ | exact (HSL.out.alloc _).drew | exact (HSL.out.alloc _).alloc _ | exact ((HSL.out.drew).alloc _).alloc _)) (by (first | exact HSD.out | exact HSD.out.drew | exact HSD.out.alloc _ | exact (HSD.out.drew).alloc _ | exact (HSD.out.alloc _).drew | exact (HSD.out.alloc _).alloc _ | exact ((HSD.out.drew).alloc _).alloc _)) (by first | omega | (simp; omega)) (by first | omega | (simp; omega)) (by first | omega | (simp; omega))⟩
  case rest =>
    obtain ⟨fp, cb, bL, bD, rfl, hF⟩ := hcut
    generalize wc = W5 at *
    have HF := hid hF
    have hfl := hF.lf
    have hcl := hF.lc
    have hnl := hF.nl
    have hne := hF.ne
    have HG0 := hid (gr_made hF.em hcl)
    have y5 := hF.y5
    have hbw := hF.bl.size
    have HI5 := hid (HInf.out W5 hF.bl)
    clear hF HZ HCv HCl HCd hmm HInf yc5 yc6
    rcases HI5.out with ⟨h0, ao3, cap3, he3⟩ | ⟨hp3, g3, off3, cap3, Fv, he3, hg3, hc3⟩
    · injection he3 with e1 e2 e3
      subst e2
      clear e1 e3
      go_wp2_with fail
      refine wp_loop_rounds 1 ?_
      rw [rounds_succ]
      go_wp2
      go_ret2
      exact ⟨_, _, _, _, _, _, _, rfl, fab_done HF.out (KM.refl _ _ _) HG0.out (by rw [← HN3.out]; exact rd_zero) (Nat.zero_le _)⟩
    · injection he3 with e1 e2 e3
      subst e1
      clear e2 e3
      rw [← HN3.out] at hp3 hc3
      have HC3 := hid hc3
      clear hc3 HI5
      go_wp2_with fail
      go_loopw [27] (fun i wr => ∃ (k n : Nat) (D : DataW Unit), k ≤ n3 ∧ i = .int .i64 k ∧ n ≤ 4 * k ∧ Hid (GrM wr W5.heap.size cb n D) ∧ Hid (RD D (chF m.ls k)) ∧ Hid (KM W5.heap.size cb W5 wr)) (fun i _ => n3 - (intOf i).toNat)
      case atStart => exact ⟨0, 0, .map [], Nat.zero_le _, rfl, Nat.zero_le _, HG0, hid rd_zero, hid (KM.refl _ _ _)⟩
      case round =>
        obtain ⟨k, n, D, hk, rfl, hn, HG, HR, HK⟩ := hrel
        clear HG0
        by_cases hlt : k < n3
        · obtain ⟨hAt, hPs⟩ := HC3.out k hlt
          have HPar := hid (par_ok HOk.out k (by rw [← HN3.out]; exact hlt))
          have hpl := HPar.out.1
          have hgne := ne_em HF.out.em hAt.c0
          have z0 := (HK.out.cell hAt.lt hgne).trans hAt.c0
          have z1 := (HK.out.cell hAt.lt hgne).trans hAt.c1
          have z2 := (HK.out.cell hAt.lt hgne).trans hAt.c2
          have z3 := (HK.out.cell hAt.lt hgne).trans hAt.c3
          have z4 := (HK.out.cell hAt.lt hgne).trans hAt.c4
          have z5 := (HK.out.cell hAt.lt hgne).trans hAt.c5
          have hsW := HK.out.size
          generalize (m.ls.getD k nf.iz).a0 = v0 at *
          generalize (m.ls.getD k nf.iz).a1 = v1 at *
          generalize (m.ls.getD k nf.iz).a2 = v2 at *
          generalize (m.ls.getD k nf.iz).a3 = v3 at *
          generalize (m.ls.getD k nf.iz).a4 = v4 at *
          generalize Fv k = fv at *
          have HR1 : Hid (RD D (chP m.ls k 0)) := hid (by rw [chP_zero]; exact HR.out)
          clear hAt HR
          have bA : Below wr.heap.size wr (wr.alloc (.cells #[.int .i64 v0, .int .i64 v1, .int .i64 v2, .int .i64 v3, .int .i64 v4, fv] 67)) := (Below.refl _ _).alloc (Nat.le_refl _) _
          have HK1 := hid (HK.out.trans (KM.ofBelow (n := W5.heap.size) (b := cb) bA hsW))
          have HG1 := hid (gr_below HG.out bA)
          clear bA
          rcases hPs with ⟨hz, ao, cap, rfl⟩ | ⟨hz, b5, off5, cap5, rfl, hb5, hc5⟩
          · go_wp2_with fail
            clear z0 z1 z2 z3 z4 z5
            refine wp_loop_rounds 1 ?_
            rw [rounds_succ]
            go_wp2
            go_roundw
            case rel => exact ⟨k + 1, n, D, by omega, by go_num, by omega, HG1, hid (by rw [← chP_end, hz]; exact HR1.out), HK1⟩
            case measure => simp [intOf]; omega
          · have HC5 := hid hc5
            obtain ⟨len5, hl5⟩ : ∃ l, l = (m.ls.getD k nf.iz).ps.length := ⟨_, rfl⟩
            have HL5 := hid hl5
            rw [← hl5] at hz hpl z5 HK1 HG1
            clear hc5 hl5
            go_wp2_with fail
            clear z0 z1 z2 z3 z4 z5
            go_loopw [35] (fun i wr2 => ∃ (j n2 : Nat) (D2 : DataW Unit), j ≤ len5 ∧ i = .int .i64 j ∧ n2 ≤ 4 * k + j ∧ Hid (GrM wr2 W5.heap.size cb n2 D2) ∧ Hid (RD D2 (chP m.ls k j)) ∧ Hid (KM W5.heap.size cb W5 wr2)) (fun i _ => len5 - (intOf i).toNat)
            case atStart => exact ⟨0, n, D, Nat.zero_le _, rfl, by omega, HG1, HR1, HK1⟩
            case round =>
              rename World => wr2
              obtain ⟨j, n2, D2, hj, rfl, hn2, HG2, HR2, HK2⟩ := hrel
              clear HG1 HR1 HK1
              by_cases hlj : j < len5
              · have hjp : j < (m.ls.getD k nf.iz).ps.length := by rw [← HL5.out]; exact hlj
                have hx := HPar.out.2.2 j hjp
                have zx := (HK2.out.cell (g := b5) (i := off5 + j) (by omega) (ne_em HF.out.em (HC5.out j hjp))).trans (HC5.out j hjp)
                have HS := hid (chP_succ m.ls k j hjp HPar.out.2.1)
                generalize (m.ls.getD k nf.iz).ps.getD j 0 = x at *
                have hsz2 : W5.heap.size ≤ wr2.drew.heap.size := HK2.out.size
                have HKd : Hid (KM W5.heap.size cb W5 wr2.drew) := hid (HK2.out.trans (KM.ofBelow ((Below.refl _ _).drew) HK2.out.size))
                have cf : wr2.drew.cell? ⟨fp, 1, none⟩ = some (.map (some cb)) := (HKd.out.cell hfl (by omega)).trans HF.out.c1
                have hkey : keyOf Try.prog 2 (.int .i64 x) = some (.int .i64 x) := keyOf_int_mk Try.underlying2 (WalkArith.wf_i64 (by omega))
                obtain ⟨v1, zs1, hrun1, hat1, ho1, hl1, hback1⟩ := World.ownsGroups.at (w := wr2.drew) (HG2.out : GrM wr2.drew W5.heap.size cb n2 D2) lawK Try.underlying74 (zeroSl _) (by unfold maxLen; omega) hkey
                obtain ⟨v2, zs2, hrun2, hat2, ho2, hl2, hback2⟩ := World.ownsGroups.at (w := wr2.drew.alloc (.cells #[.int .i64 (k : Int)] 2)) (gr_below (w := wr2.drew) HG2.out ((Below.refl _ _).alloc (Nat.le_refl _) _)) lawK Try.underlying74 (zeroSl _) (by unfold maxLen; omega) hkey
                have hrun3 : (Instr.lookup 74 (.map (some cb)) (.int .i64 x) false).run Try.prog (wr2.alloc (.cells #[.int .i64 (k : Int)] 2)).drew = .ok v2 (wr2.alloc (.cells #[.int .i64 (k : Int)] 2)).drew := hrun2
                have cf2 : (wr2.alloc (.cells #[.int .i64 (k : Int)] 2)).drew.cell? ⟨fp, 1, none⟩ = some (.map (some cb)) := (((Below.refl wr2.heap.size wr2.drew).alloc (Nat.le_refl _) (.cells #[.int .i64 (k : Int)] 2)).cell (p := ⟨fp, 1, none⟩) (World.block_lt_of_cell? _ _ cf)).trans cf
                clear hrun2
                have HO1 := hid ho1
                have HO2 := hid ho2
                have HAt1 := hid hat1
                have HAt2 := hid hat2
                have HBk1 := hid hback1
                have HBk2 := hid hback2
                clear ho1 ho2 hat1 hat2 hback1 hback2 hkey hjp
                go_wp2_with fail
                go_region_held_law (fun w' => w'.cell? ⟨fp, 1, none⟩ = some (.map (some cb))) (go_keep)
                  (first
                    | (refine step_appG (w := wr2.drew) rfl _ _ rfl W5.heap.size v1 zs1 (k : Int) (HO1.out.1.alloc _) rfl rfl hsz2 (by omega) ?_; intro v9 w3 hr3 hg3 hl3; have hi3 : w3.ownsInts W5.heap.size 2 .i64 v9 (zs1 ++ [(k : Int)]) := HO1.out.appended hr3 (WalkArith.wf_i64 (by omega)); obtain ⟨w4, hrunU, hG4, hg4⟩ := HBk1.out w3 v9 _ ((World.grownBy_alloc _ _ _).trans hg3) hi3 (by simp; omega) (hl3.imp id (fun h => ⟨_, h, by simp⟩)); have hk3 : KM W5.heap.size cb wr2.drew w3 := KM.grown ((World.grownBy_alloc wr2.drew (.cells #[.int .i64 (k : Int)] 2) _).trans hg3) hsz2 (fun j e => .inl (HO1.out.1.lt j e).1); have hk4 : KM W5.heap.size cb w3 w4 := KM.grown hg4 (Nat.le_trans hsz2 hk3.size) (fun j e => .inr (by cases e; rfl)); have HG4 := hid hG4; have HRD4 := hid (rd_put HR2.out (gr_map HG2.out) (rd_at HR2.out HAt1.out HO1.out) hi3); have HK4 := hid (HKd.out.trans (hk3.trans hk4)); have cf3 := (HKd.out.trans hk3).cell hfl (by omega) |>.trans HF.out.c1; have cf4 := HK4.out.cell hfl (by omega) |>.trans HF.out.c1; clear hi3 hr3 hg3 hl3 hG4 hg4 hk3 hk4)
                    | (refine step_appG (w := wr2.drew) rfl _ _ rfl W5.heap.size v2 zs2 (k : Int) HO2.out.1 rfl rfl hsz2 (by omega) ?_; intro v9 w3 hr3 hg3 hl3; have hi3 : w3.ownsInts W5.heap.size 2 .i64 v9 (zs2 ++ [(k : Int)]) := HO2.out.appended hr3 (WalkArith.wf_i64 (by omega)); obtain ⟨w4, hrunU, hG4, hg4⟩ := HBk2.out w3 v9 _ hg3 hi3 (by simp; omega) (hl3.imp id (fun h => ⟨_, h, Nat.le_refl _⟩)); have hk3 : KM W5.heap.size cb wr2.drew w3 := KM.grown ((World.grownBy_alloc wr2.drew (.cells #[.int .i64 (k : Int)] 2) _).trans hg3) hsz2 (fun j e => .inl (HO2.out.1.lt j e).1); have hk4 : KM W5.heap.size cb w3 w4 := KM.grown hg4 (Nat.le_trans hsz2 hk3.size) (fun j e => .inr (by cases e; rfl)); have HG4 := hid hG4; have HRD4 := hid (rd_put HR2.out (gr_map HG2.out) (rd_at HR2.out HAt2.out HO2.out) hi3); have HK4 := hid (HKd.out.trans (hk3.trans hk4)); have cf3 := (HKd.out.trans hk3).cell hfl (by omega) |>.trans HF.out.c1; have cf4 := HK4.out.cell hfl (by omega) |>.trans HF.out.c1; clear hi3 hr3 hg3 hl3 hG4 hg4 hk3 hk4))
                all_goals
                  go_wp2
                  go_roundw
                  case rel => exact ⟨j + 1, n2 + 1, _, by omega, by go_num, by omega, HG4, hid (by rw [HS.out]; exact HRD4.out), HK4⟩
                  case measure => simp [intOf]; omega
              · obtain rfl : j = len5 := by omega
                go_wp2
                go_roundw
                case rel => exact ⟨k + 1, n2, D2, by omega, by go_num, by omega, HG2, hid (by rw [← chP_end, ← HL5.out]; exact HR2.out), HK2⟩
                case measure => simp [intOf]; omega
        · obtain rfl : k = n3 := by omega
          go_wp2
          go_ret2
          exact ⟨_, _, _, _, _, _, _, rfl, fab_done HF.out HK.out HG.out (by rw [← HN3.out]; exact HR.out) (by rw [← HN3.out]; exact hn)⟩
end Go.Proofs.Ytlhpipcmebmpdab.mc
