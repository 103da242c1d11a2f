/-
  FreeText: contracts of both sides.
-/
import Derived.Test.YtjnanldaihidlaaFv
import Derived.Laws.BytesArg
namespace Go.Proofs.Ytjnanldaihidlaa.ft
open Go.RowKit Go.Proofs.Ytjnanldaihidlaa.sl Go.Proofs.Ytjnanldaihidlaa.pm Go.Proofs.Ytjnanldaihidlaa.bw Go.Proofs.Ytjnanldaihidlaa.br Go.Proofs.Ytjnanldaihidlaa.fv
set_option linter.unusedVariables false

theorem info8 : (Try.prog.info? 5).map (fun i => (i.zero, i.size, i.bytes)) = some (some (.int .u8 0), 1, 1) := by kernel_rfl
/-- The byte of a letter. -/
def byt (x : Int) : Int := if x < 0 then 64 - x else 96 + x
theorem byt_neg {x : Int} (h : x < 0) : byt x = 64 - x := if_pos h
theorem byt_pos {x : Int} (h : ¬ x < 0) : byt x = 96 + x := if_neg h
def bytS (xs : List Int) : List Int := xs.map byt
theorem bytS_len (xs : List Int) : (bytS xs).length = xs.length := by simp [bytS]
theorem bytS_at (xs : List Int) (k : Nat) (h : k < xs.length) : (bytS xs).getD k 0 = byt (xs.getD k 0) := by
  simp [bytS, List.getD, List.getElem?_eq_getElem h]
theorem bytS_take (xs : List Int) (k : Nat) (h : k < xs.length) : (bytS xs).take (k + 1) = (bytS xs).take k ++ [byt (xs.getD k 0)] := by
  rw [← bytS_at xs k h, List.take_succ_eq_append_getElem (by rw [bytS_len]; exact h)]
  simp [List.getD, List.getElem?_eq_getElem (show k < (bytS xs).length by rw [bytS_len]; exact h)]
def one : ByteArray := ⟨#[49]⟩
def ftT (n : Int) (xs : List Int) : ByteArray := if frB n xs = true then (if xs = [] then one else strOfNums (bytS xs)) else ⟨#[]⟩
theorem ft_bad {n : Int} {xs : List Int} (h : frB n xs = false) : ftT n xs = ⟨#[]⟩ := by rw [ftT, h]; rfl
theorem ft_nil {n : Int} {xs : List Int} (h : frB n xs = true) (h0 : xs = []) : ftT n xs = ⟨#[49]⟩ := by rw [ftT, if_pos h, if_pos h0]; rfl
theorem ft_ok {n : Int} {xs : List Int} (h : frB n xs = true) (h0 : ¬ xs = []) : ftT n xs = strOfNums (bytS xs) := by rw [ftT, if_pos h, if_neg h0]
theorem fr_range {n : Int} {xs : List Int} (h : frB n xs = true) (j : Nat) (hj : j < xs.length) : xs.getD j 0 ≠ 0 ∧ -12 ≤ xs.getD j 0 ∧ xs.getD j 0 ≤ 12 := by
  obtain ⟨h0, h1, _, h2⟩ := fr_parts h
  have := g_parts (h2 j hj)
  omega

theorem letter (x : Int) (h : -12 ≤ x ∧ x ≤ 12) (w : World) : Calls Try.prog 82 #[.int .i64 x] w fun e w' => e = .returned (.int .u8 (byt x)) ∧ w = w' := by
  by_cases h0 : x < 0
  · have HF := hid (byt_neg h0)
    have hw1 : IntKind.i64.wrap (65 - x) = 65 - x := IntWalk.i64_in _ (by omega)
    have hw2 : IntKind.i64.wrap (65 - x - 1) = 65 - x - 1 := IntWalk.i64_in _ (by omega)
    have hw3 : IntKind.u8.wrap (65 - x - 1) = 65 - x - 1 := IntWalk.u8_in _ (by omega)
    go_enter Try.func82, Try.ntmps82
    go_wp2
    go_ret
    exact ⟨by rw [HF.out, show 64 - x = 65 - x - 1 by omega]; rfl, rfl⟩
  · have HF := hid (byt_pos h0)
    have hd0 : decide (x < 0) = false := decide_eq_false h0
    have hw1 : IntKind.i64.wrap (97 + x) = 97 + x := IntWalk.i64_in _ (by omega)
    have hw2 : IntKind.i64.wrap (97 + x - 1) = 97 + x - 1 := IntWalk.i64_in _ (by omega)
    have hw3 : IntKind.u8.wrap (97 + x - 1) = 97 + x - 1 := IntWalk.u8_in _ (by omega)
    go_enter Try.func82, Try.ntmps82
    go_wp2
    go_ret
    exact ⟨by rw [HF.out, show 96 + x = 97 + x - 1 by omega]; rfl, rfl⟩

/-- Bytes of the call's own. -/
def BOwn (w : World) (lo : Nat) (v : Value) (n : Nat) (bs : List Int) : Prop := w.ownsRow lo 5 1 v n (bs.map (Value.int .u8)) ∧ bs.length = n ∧ ∃ g cap, v = .slice (some ⟨g, 0, none⟩) n cap
theorem BOwn.built (w : World) : BOwn (w.alloc (.cells #[] 5)) w.heap.size (.slice (some ⟨w.heap.size, 0, none⟩) 0 0) 0 [] :=
  ⟨World.ownsRow_made w #[] 0 (Nat.le_refl _) (by unfold maxLen; omega) (by simp), rfl, _, _, rfl⟩
theorem BOwn.cell {w : World} {lo : Nat} {g cap n : Nat} {bs : List Int} (h : BOwn w lo (.slice (some ⟨g, 0, none⟩) n cap) n bs) (j : Nat) (hj : j < n) : w.cell? ⟨g, 0 + j, none⟩ = some (.int .u8 (bs.getD j 0)) := by
  have hl := h.2.1
  rw [Nat.zero_add, h.1.cellAt j (by omega)]
  simp [List.getD, List.getElem?_eq_getElem (show j < bs.length by omega)]

theorem wp_append8 {ops : Array Oper} {rest : List Oper} {o : Oper} {a : Act} {Q : Exit → Act → World → Prop} {w : World} (hgd : o.guard = none) (s x : Operand)
    (hop : o.op = .call { callee := .builtin .append, args := #[s, x], argTypes := #[22, 22] })
    (lo : Nat) (v : Value) (n : Nat) (bs : List Int) (x0 : Int) (ho : BOwn w lo v n bs) (hs : a.eval s = v) (hx : a.eval x = .slice (some ⟨w.heap.size, 0, none⟩) 1 1) (hlo : lo ≤ w.heap.size) (hn : n ≤ 1099511627776)
    (hK : ∀ v' w', BOwn w' lo v' (n + 1) (bs ++ [x0]) → Below lo w w' → wpList Try.prog ops Q rest (a.put o.dst v') w') : wpList Try.prog ops Q (o :: rest) a (w.alloc (.cells #[.int .u8 x0] 5)) := by
  obtain ⟨i0, hi', hz0, hz1, hz2⟩ := info_parts info8
  obtain ⟨hown, hln, g, cap, hv⟩ := ho
  refine wpList_append_own _ hgd s x 22 hop lo 5 i0 (.int .u8 0) 1 1 Try.underlying22 hi' hz0 hz1 hz2 rfl (by decide) v n (bs.map (Value.int .u8)) hs (hown.alloc _) ⟨w.heap.size, 0, none⟩ 1 1 [.int .u8 x0] hx rfl ?_ ?_ ?_ ?_ ?_ ?_
  · intro j u hj
    match j, hj with
    | 0, hj =>
      simp only [List.getElem?_cons_zero, Option.some.injEq] at hj
      subst hj
      rw [Addr.add_lit, World.cell?_alloc_at _ _ _ _ rfl]; rfl
  · intro u hu; simp at hu; subst hu; rfl
  · unfold maxLen; omega
  · omega
  · simp; omega
  · intro v' w' h1 h2 _
    have hsz : w.heap.size + 1 ≤ w'.heap.size := by have := h2.size; simpa using this
    have h1' : w'.ownsRow lo 5 1 v' (n + 1) ((bs ++ [x0]).map (Value.int .u8)) := by simpa using h1
    refine hK v' w' ⟨h1', by simp [hln], ?_⟩ ⟨h2.os, h2.tape, h2.output, by omega, fun k hk => ?_⟩
    · rcases h1'.2 with ⟨_, h0⟩ | ⟨g', cap', cur, hv', _⟩
      · omega
      · exact ⟨g', cap', hv'⟩
    · rw [h2.block k (by simp; omega) (by intro e; have h4 := (hown.lt k e.symm).1; omega)]
      exact Below.heap_alloc _ _ _ (by omega)

theorem zeros8 (n : Nat) : (madeCells (Value.int .u8 0).cells (n * 1)).toList = (List.replicate n (0 : Int)).map (Value.int .u8) := by
  apply List.ext_getElem?
  intro i
  by_cases hi : i < n
  · simp [madeCells, Value.cells, hi, Nat.mod_one]
  · simp [madeCells, Value.cells, hi]

set_option maxRecDepth 20000 in
set_option maxHeartbeats 1600000 in
theorem implFreeText (n : Int) (xs : List Int) (v : Value) (B : Nat) (w : World) (ha : Ints w B v xs) (hB : B ≤ w.heap.size) (hn : xs.length ≤ 1099511627776) :
    Calls Try.prog 18 #[.int .i64 n, v] w fun e w' => e = .returned (.string (ftT n xs)) ∧ Below w.heap.size w w' := by
  have HA := hid ha
  clear ha
  cases hq : frB n xs
  · have HF := hid (ft_bad hq)
    have HV := hid (implFree n xs v B w HA.out hB hn)
    rw [hq] at HV
    rw [HF.out]
    go_enter Try.func18, Try.ntmps18
    go_wp2_with (go_at_call 78; refine HV.out.mono ?_; rintro e w' ⟨rfl, hb1⟩; have HB1 := hid hb1; clear hb1)
    go_ret
    exact ⟨rfl, HB1.out⟩
  · have HV := hid (implFree n xs v B w HA.out hB hn)
    rw [hq] at HV
    have hl := (fr_parts hq).2.2.1
    by_cases h0 : xs = []
    · rw [ft_nil hq h0]
      obtain ⟨ao, cap, hv⟩ := ints_val HA.out
      subst h0
      subst hv
      go_enter Try.func18, Try.ntmps18
      go_wp2_with (go_at_call 78; refine HV.out.mono ?_; rintro e w' ⟨rfl, hb1⟩; have HB1 := hid hb1; clear hb1)
      go_ret
      exact ⟨rfl, HB1.out⟩
    · have HFT := hid (ft_ok hq h0)
      rw [HFT.out]
      rcases HA.out with ⟨h1, _⟩ | ⟨hp, b, off, cap, rfl, hb, hc⟩
      · exact absurd h1 h0
      have HG := hid (fr_range hq)
      have HC := hid hc
      have HPz := hid (part_zero (bytS xs))
      have HPa := hid (part_all (bytS xs))
      have HPl := hid (fun k (hk : k ≤ xs.length) => part_len (bytS xs) k (by rw [bytS_len]; exact hk))
      have HPs := hid (fun k (hk : k < xs.length) => by have := part_set (bytS xs) k (by rw [bytS_len]; exact hk); rwa [bytS_at xs k hk] at this)
      have HLn := hid (bytS_len xs)
      obtain ⟨i0, hi, hz0, hz1, hz2⟩ := info_parts info8
      clear hc HFT h0 HA
      obtain ⟨m, hmm⟩ : ∃ m, m = xs.length := ⟨_, rfl⟩
      rw [HLn.out] at HPz HPa HPl
      rw [← hmm] at hp hl hn HG HC HPz HPa HPl HPs HLn HV ⊢
      clear hmm hq
      have hm0 : ¬ m = 0 := by omega
      go_enter Try.func18, Try.ntmps18
      go_wp2_with (first | (go_at_call 78; refine HV.out.mono ?_; rintro e w0 ⟨rfl, hb1⟩; have HB0 := hid hb1; have hz00 := hb1.size; clear hb1) | (at_make; refine wpList_make_full _ rfl (.tmp 16) (.tmp 16) 22 rfl w0.heap.size 5 i0 (.int .u8 0) 1 Try.underlying22 hi hz0 hz1 .i64 .i64 _ _ m rfl rfl (by omega) (by omega) (by rw [hz2]; omega) (by unfold maxLen; omega) (Nat.le_refl _) ?_; intro w1 hown1 hgrow1))
      rw [zeros8, ← HPz.out] at hown1
      have hw0 : w0.heap.size < w1.heap.size := (hown1.lt _ rfl).2
      have HB1 : Hid (Below w.heap.size w w1) := hid (HB0.out.grown hgrow1 (by omega) (fun k hk => by cases hk))
      have HO1 := hid hown1
      clear hown1 hgrow1 HPz HV
      go_loopw [20] (fun i wr => ∃ k : Nat, k ≤ m ∧ i = .int .i64 k ∧ wr.ownsRow w0.heap.size 5 1 (.slice (some ⟨w0.heap.size, 0, none⟩) m m) m ((sl.part (bytS xs) k).map (Value.int .u8)) ∧ Below w.heap.size w wr) (fun i _ => m - (intOf i).toNat)
      case atStart => exact ⟨0, Nat.zero_le _, rfl, HO1.out, HB1.out⟩
      case round =>
        obtain ⟨k, hk, rfl, hown, hbel⟩ := hrel
        have HB := hid hbel
        have hz := hbel.size
        clear hbel
        by_cases hlt : k < m
        · have hx : wr.cell? ⟨b, off + k, none⟩ = some (.int .i64 (xs.getD k 0)) := (HB.out.cell (p := ⟨b, off + k, none⟩) (by show b < _; omega)).trans (HC.out k hlt)
          have hr := HG.out k hlt
          have hlen := HPl.out k hk
          have hcell : wr.cell? ⟨w0.heap.size, k, none⟩ = some (.int .u8 ((sl.part (bytS xs) k).getD k 0)) := by
            rw [hown.cellAt k (by omega)]
            simp [List.getD, List.getElem?_eq_getElem (show k < (sl.part (bytS xs) k).length by omega)]
          have hfr : wr.frozen? ⟨w0.heap.size, k, none⟩ = false := hown.frozenAt k
          have hst := (hown.stored k (.int .u8 (byt (xs.getD k 0)))).1
          rw [← List.map_set, HPs.out k hlt] at hst
          have HST := hid hst
          have HB2 := hid (HB.out.setCell (p := ⟨w0.heap.size, k, none⟩) (by simp; omega) (.int .u8 (byt (xs.getD k 0))))
          have HLt := hid (fun W : World => letter (xs.getD k 0) hr.2 W)
          clear hown hst HG HC HPs HPl HB
          generalize byt (xs.getD k 0) = y at *
          generalize xs.getD k 0 = x at *
          go_wp2_with (go_at_call 82; refine (HLt.out _).mono ?_; rintro e w' ⟨rfl, rfl⟩)
          go_roundw
          case rel => exact ⟨k + 1, by omega, by go_num, HST.out, HB2.out⟩
          case measure => simp [intOf]; omega
        · obtain rfl : k = m := by omega
          rw [HPa.out] at hown
          have hcv := run_convert_bytes_arg (P := Try.prog) wr 22 5 Try.underlying22 Try.underlying5 w0.heap.size 0 k k (bytS xs) HLn.out (fun i hi => BOwn.cell ⟨hown, HLn.out, _, _, rfl⟩ i hi) 9 Try.underlying9
          clear hown
          go_wp2
          go_ret
          exact ⟨rfl, HB.out⟩
end Go.Proofs.Ytjnanldaihidlaa.ft
