/-
  slices.IndexFunc, clear, slices.DeleteFunc over Event.
-/
import Derived.Test.YtlhpipcmebmpdaaEv5
import Derived.Laws.IdiomCopy
import Derived.Lib.LazyBuf
namespace Go.Proofs.Ytlhpipcmebmpdaa.ev
open Go.RowKit Go.Sort Go.Proofs.Ytlhpipcmebmpdaa.sl
set_option linter.unusedVariables false
set_option linter.unusedSimpArgs false

def PredFor (p : V → Bool) (g : Nat) (cps : Array Value) : Prop := ∀ (x : V) (W : World), Calls Try.prog g (#[x.val] ++ cps) W fun e w' => e = .returned (.bool (p x)) ∧ Below W.heap.size W w'

/-- slices.IndexFunc: the first that passes, or -1. -/
def IdxPost (p : V → Bool) (xs : List V) (z : Int) : Prop := (z = -1 ∧ ∀ j, j < xs.length → p (xs.getD j oz) = false) ∨ ∃ k : Nat, k < xs.length ∧ z = k ∧ p (xs.getD k oz) = true ∧ ∀ j, j < k → p (xs.getD j oz) = false
set_option maxRecDepth 100000 in
theorem idxE (p : V → Bool) (g : Nat) (cps : Array Value) (hcps : cps = #[]) (xs : List V) (v : Value) (B : Nat) (w : World) (ha : Ops w B v xs) (hB : B ≤ w.heap.size) (hn : xs.length ≤ 1048576)
    (eg : ∀ args w, (callFunc g args).run Try.prog w = .ok (.enter g args) w) (hp : PredFor p g cps) :
    Calls Try.prog 138 #[v, .func (.func g) #[] cps] w fun e w' => ∃ z : Int, e = .returned (.int .i64 z) ∧ Hid (IdxPost p xs z) ∧ Below w.heap.size w w' := by
  subst hcps
  have HP := hid hp
  clear hp
  rcases ha with ⟨rfl, ao, cap, rfl, hao⟩ | ⟨hp, b, off, cap, rfl, hb, hc⟩
  · go_enter Try.func138, Try.ntmps138
    go_wp2
    refine wp_loop_rounds 1 ?_
    rw [rounds_succ]
    go_wp2
    go_ret
    exact ⟨-1, rfl, hid (.inl ⟨rfl, fun j hj => by simp at hj⟩), Below.refl _ _⟩
  · have HPost := hid (fun z h => (show IdxPost p xs z from h))
    obtain ⟨n, hnn⟩ : ∃ n, n = xs.length := ⟨_, rfl⟩
    have HI : Hid (∀ z, IdxPost p xs z = ((z = -1 ∧ ∀ j, j < n → p (xs.getD j oz) = false) ∨ ∃ k : Nat, k < n ∧ z = k ∧ p (xs.getD k oz) = true ∧ ∀ j, j < k → p (xs.getD j oz) = false)) := hid (fun z => by rw [hnn]; rfl)
    rw [← hnn] at hp hc hn ⊢
    have HC := hid hc
    clear hnn hc HPost
    go_enter Try.func138, Try.ntmps138
    go_wp2
    go_loopw [8] (fun i wr => ∃ k : Nat, k ≤ n ∧ i = .int .i64 k ∧ (∀ j, j < k → p (xs.getD j oz) = false) ∧ Below w.heap.size w wr) (fun i _ => n - (intOf i).toNat)
    case atStart => exact ⟨0, Nat.zero_le _, rfl, fun j hj => by omega, Below.refl _ _⟩
    case round =>
      obtain ⟨k, hk, rfl, hg, hbel⟩ := hrel
      have HG := hid hg
      have HB := hid hbel
      clear hg hbel
      by_cases hlt : k < n
      · have HA : At wr b (off + k * 6) (xs.getD k oz) := (HC.out k hlt).below HB.out
        have HPk := hid (HP.out (xs.getD k oz) wr)
        obtain ⟨q, hq⟩ : ∃ q, q = p (xs.getD k oz) := ⟨_, rfl⟩
        rw [← hq] at HPk
        have HQ := hid hq
        clear hq
        generalize xs.getD k oz = x at HA HPk
        obtain ⟨x0, x1, x2, x3, x4, x5⟩ := x
        have c0 := HA.c0
        have c1 := HA.c1
        have c2 := HA.c2
        have c3 := HA.c3
        have c4 := HA.c4
        have c5 := HA.c5
        simp only at c0 c1 c2 c3 c4 c5
        clear HA
        go_wp2_with fail
        refine HPk.out.mono ?_
        rintro e w1 ⟨rfl, b1⟩
        have HB1 := hid (HB.out.trans (b1.mono HB.out.size))
        clear b1 HPk c0 c1 c2 c3 c4 c5
        cases q
        · go_wp2
          go_roundw
          case rel => exact ⟨k + 1, by omega, by go_num, fun j hj => by
            rcases Nat.lt_or_ge j k with h | h
            · exact HG.out j h
            · obtain rfl : j = k := by omega
              exact HQ.out.symm, HB1.out⟩
          case measure => simp [intOf]; omega
        · go_wp2
          go_ret
          exact ⟨k, rfl, hid (by rw [HI.out]; exact .inr ⟨k, hlt, rfl, HQ.out.symm, HG.out⟩), HB1.out⟩
      · obtain rfl : k = n := by omega
        go_wp2
        go_ret
        exact ⟨-1, rfl, hid (by rw [HI.out]; exact .inl ⟨rfl, HG.out⟩), HB.out⟩

/-! ### what is kept -/
def keep (p : V → Bool) (xs : List V) (k : Nat) : List V := (xs.take k).filter fun x => !p x
theorem keep_len (p : V → Bool) (xs : List V) (k : Nat) (h : k ≤ xs.length) : (keep p xs k).length ≤ k := by
  unfold keep
  have := List.length_filter_le (fun x => !p x) (xs.take k)
  rw [List.length_take] at this
  omega
theorem keep_all (p : V → Bool) (xs : List V) : keep p xs xs.length = xs.filter fun x => !p x := by rw [keep, List.take_length]
theorem keep_next (p : V → Bool) (xs : List V) (k : Nat) (h : k < xs.length) : keep p xs (k + 1) = if p (xs.getD k oz) then keep p xs k else keep p xs k ++ [xs.getD k oz] := by
  unfold keep
  rw [List.take_succ_eq_append_getElem h, List.filter_append]
  have e : xs.getD k oz = xs[k] := by simp [List.getD, List.getElem?_eq_getElem h]
  rw [e]
  cases hp : p xs[k] <;> simp [hp]
theorem keep_none (p : V → Bool) (xs : List V) (k : Nat) (h : k ≤ xs.length) (hn : ∀ j, j < k → p (xs.getD j oz) = false) : keep p xs k = xs.take k := by
  unfold keep
  rw [List.filter_eq_self]
  intro x hx
  obtain ⟨j, hj, rfl⟩ := List.getElem_of_mem hx
  rw [List.length_take] at hj
  have := hn j (by omega)
  rw [show xs.getD j oz = xs[j] from by simp [List.getD, List.getElem?_eq_getElem (show j < xs.length from by omega)]] at this
  simp [this]

set_option maxRecDepth 100000 in
/-- clear of records. -/
theorem run_clearE (w : World) (ty : TypeId) (b o n c : Nat) (hn : 0 < n) (hc : ∀ j, j < n * 6 → (w.cell? ⟨b, o + j, none⟩).isSome = true) (hf : ∀ j, j < n * 6 → w.frozen? ⟨b, o + j, none⟩ = false) :
    (Builtin.clear_ #[55] ty #[.slice (some ⟨b, o, none⟩) n c]).run Try.prog w = .ok (.tuple #[]) (w.setCells b o (List.replicate (n * 6) (.int .i64 0))) := by
  obtain ⟨i0, hi, hz0, hz1, hz2⟩ := info_parts infoO
  have hv : ∀ w, (zeroValue 97).run Try.prog w = .ok (.agg #[.int .i64 0, .int .i64 0, .int .i64 0, .int .i64 0, .int .i64 0, .int .i64 0]) w := fun w => by
    first | rfl | kernel_rfl
  have hzc : (Builtin.zeroCells (Value.agg #[.int .i64 0, .int .i64 0, .int .i64 0, .int .i64 0, .int .i64 0, .int .i64 0]).cells n).toList = List.replicate (n * 6) (.int .i64 0) := by
    have e : (Value.agg #[.int .i64 0, .int .i64 0, .int .i64 0, .int .i64 0, .int .i64 0, .int .i64 0]).cells = #[Value.int .i64 0, .int .i64 0, .int .i64 0, .int .i64 0, .int .i64 0, .int .i64 0] := rfl
    rw [e]
    simp only [Builtin.zeroCells]
    apply List.ext_getElem
    · simp
    · intro i h1 h2
      have h3 : i % 6 < 6 := Nat.mod_lt _ (by omega)
      simp
      generalize i % 6 = m at h3
      match m, h3 with
      | 0, _ => rfl
      | 1, _ => rfl
      | 2, _ => rfl
      | 3, _ => rfl
      | 4, _ => rfl
      | 5, _ => rfl
  have hst := run_storeCells_cells (P := Try.prog) b o (List.replicate (n * 6) (.int .i64 0)) 0 w (by simpa using hc) (by simpa using hf) (by intro v hv'; rw [List.eq_of_mem_replicate hv']; rfl)
  simp only [Nat.add_zero] at hst
  obtain ⟨m, rfl⟩ : ∃ m, n = m + 1 := ⟨n - 1, by omega⟩
  simp [Builtin.clear_, run_underlying Try.underlying55, hv, hzc, hst]

theorem ROwn.cap {w : World} {lo hi : Nat} {v : Value} {xs : List V} (o : ROwn w lo hi v xs) : ∀ ao n c, v = .slice ao n c → n ≤ c ∧ c ≤ maxLen := by
  intro ao n c hv
  subst hv
  rcases o.1.2 with ⟨h1, h2⟩ | ⟨g, c2, cur, h1, h2, h3, h4, h5, _⟩
  · cases h1; exact ⟨Nat.le_refl _, Nat.zero_le _⟩
  · cases h1; exact ⟨by omega, by omega⟩
theorem At.clear {w : World} {g q o : Nat} {x : V} (h : At w g q x) (vs : List Value) (ho : q + 6 ≤ o) : At (w.setCells g o vs) g q x := by
  have e : ∀ i, i < 6 → (w.setCells g o vs).cell? ⟨g, q + i, none⟩ = w.cell? ⟨g, q + i, none⟩ := fun i hi => World.cell?_setCells_out g vs o w ⟨g, q + i, none⟩ (fun _ _ => .inl (by show q + i < o; omega))
  refine at_of_cells ?_ (fun i hi => by rw [e i hi]; exact h.cellOf i hi)
  have := h.cellOf 0 (by omega)
  rw [← e 0 (by omega)] at this
  exact World.block_lt_of_cell? _ _ this
theorem size_setCells_eq (b : Nat) : ∀ (vs : List Value) (o : Nat) (w : World), (w.setCells b o vs).heap.size = w.heap.size
  | [], _, _ => rfl
  | v :: r, o, w => by show ((w.setCell _ v).setCells b (o + 1) r).heap.size = _; rw [size_setCells_eq b r]; simp
theorem chg_clear {lo hi g : Nat} {w w' : World} (h : Chg lo hi w w') (h1 : lo ≤ g) (h2 : g < hi) : ∀ (vs : List Value) (o : Nat), Chg lo hi w (w'.setCells g o vs) := by
  intro vs
  induction vs generalizing w' with
  | nil => intro o; exact h
  | cons v r ih => intro o; exact ih (chg_set h v h1 h2) (o + 1)

end Go.Proofs.Ytlhpipcmebmpdaa.ev
