/-
  Permutations as arrays: contracts of keyOf, isIdentity, isHalfTwist; arrays of integers compared.
-/
import Derived.Test.YtfechjhngcmdpabH2
import Derived.Test.YtfechjhngcmdpabBr
import Derived.Laws.CopyOwn
import Derived.Laws.StructEq
import Derived.Laws.IdiomCopy
namespace Go.Proofs.Ytfechjhngcmdpab.ky
open Go.RowKit Go.Proofs.Ytfechjhngcmdpab.sl Go.Proofs.Ytfechjhngcmdpab.pm Go.Proofs.Ytfechjhngcmdpab.fn
set_option linter.unusedVariables false

theorem all_range_eqI : ∀ (xs ys : List Int), xs.length = ys.length → ((List.range xs.length).all fun i => xs.getD i 0 == ys.getD i 0) = (xs == ys)
  | [], [], _ => rfl
  | x :: xs, y :: ys, h => by
    have ih := all_range_eqI xs ys (by simpa using h)
    rw [List.length_cons, List.range_succ_eq_map, List.all_cons, List.all_map]
    simp only [List.getD_cons_zero, Function.comp_def, List.getD_cons_succ, ih]
    simp [List.cons_beq_cons]
  | [], _ :: _, h => by simp at h
  | _ :: _, [], h => by simp at h

theorem run_equalIn_ints {P : Program} (w : World) (d : Nat) (t e : TypeId) (n : Nat) (ht : P.underlying t = some (.array n e)) (he : P.underlying e = some (.int .i64)) (hsz : ∀ w, (sizeOf e).run P w = .ok 1 w)
    (xs ys : List Int) (hx : xs.length = n) (hy : ys.length = n) :
    (Op.equalIn (d + 2) t (.agg (xs.map (Value.int .i64)).toArray) (.agg (ys.map (Value.int .i64)).toArray)).run P w = .ok (xs == ys) w := by
  rw [← all_range_eqI xs ys (hx.trans hy.symm), hx, List.range_eq_range', Op.equalIn]
  simp only [Sem.run_bind, run_underlying ht, Result.andThen_ok, hsz, Std.Legacy.Range.forIn_eq_forIn_range', Std.Legacy.Range.size, Nat.sub_zero, Nat.add_sub_cancel, Nat.div_one]
  have hl : ∀ i ∈ List.range' 0 n 1, i < n := fun i hi => by simpa using (List.mem_range'_1.1 hi).2
  generalize List.range' 0 n 1 = l at hl ⊢
  induction l with
  | nil => simp
  | cons i l ih =>
    have hi : i < n := hl i (by simp)
    have px : (part e (xs.map (Value.int .i64)).toArray (i * 1)).run P w = .ok (.int .i64 (xs.getD i 0)) w := by
      simp [part, isAgg, run_underlying he, List.getD, List.getElem?_eq_getElem (show i < xs.length by omega)]
    have py : (part e (ys.map (Value.int .i64)).toArray (i * 1)).run P w = .ok (.int .i64 (ys.getD i 0)) w := by
      simp [part, isAgg, run_underlying he, List.getD, List.getElem?_eq_getElem (show i < ys.length by omega)]
    have pe : (Op.equalIn (d + 1) e (.int .i64 (xs.getD i 0)) (.int .i64 (ys.getD i 0))).run P w = .ok (xs.getD i 0 == ys.getD i 0) w := by
      rw [run_equalIn_int w d e .i64 .i64 _ _ he]
    simp only [List.forIn_cons, Sem.run_bind, px, py, pe, Result.andThen_ok, List.all_cons]
    cases hb : (xs.getD i 0 == ys.getD i 0)
    · simp
    · simp only [Bool.not_true, Bool.false_eq_true, if_false, Sem.run_pure, Result.andThen_ok, Bool.true_and]
      exact ih fun j hj => hl j (by simp [hj])

theorem sizeI (w : World) : (sizeOf 2).run Try.prog w = .ok 1 w := by
  obtain ⟨i0, hi, hz0, hz1, hz2⟩ := info_parts info64
  rw [run_sizeOf w hi]
  have : Try.prog.cellsOf 2 = 1 := by kernel_rfl
  rw [this]

def keyL (xs : List Int) : List Int := xs ++ List.replicate (12 - xs.length) 0
theorem keyL_len {xs : List Int} (h : xs.length ≤ 12) : (keyL xs).length = 12 := by simp [keyL]; omega
theorem keyL_inj {xs ys : List Int} (h : xs.length = ys.length) (he : keyL xs = keyL ys) : xs = ys := (List.append_inj he h).1
def keyA (xs : List Int) : Array Value := ((keyL xs).map (Value.int .i64)).toArray
theorem eqlK (xs ys : List Int) (hx : xs.length ≤ 12) (hy : ys.length = xs.length) (w : World) :
    (Op.equalIn 10000 104 (.agg (keyA xs)) (.agg (keyA ys))).run Try.prog w = .ok (decide (xs = ys)) w := by
  have h := run_equalIn_ints w 9998 104 2 12 Try.underlying104 Try.underlying2 sizeI (keyL xs) (keyL ys) (keyL_len hx) (keyL_len (by omega))
  have e : (keyL xs == keyL ys) = decide (xs = ys) := by
    by_cases hh : xs = ys
    · subst hh; simp
    · have : ¬ keyL xs = keyL ys := fun he => hh (keyL_inj hy.symm he)
      simp [hh, this]
  rw [e] at h
  exact h
theorem list12 (l : List Int) (h : l.length = 12) : ∃ a0 a1 a2 a3 a4 a5 a6 a7 a8 a9 b0 b1, l = [a0, a1, a2, a3, a4, a5, a6, a7, a8, a9, b0, b1] := by
  match l, h with
  | [a0, a1, a2, a3, a4, a5, a6, a7, a8, a9, b0, b1], _ => exact ⟨a0, a1, a2, a3, a4, a5, a6, a7, a8, a9, b0, b1, rfl⟩

theorem keyRes (W : World) (g : Nat) (x0 x1 x3 x4 x5 x6 x7 : Value) (a0 a1 a2 a3 a4 a5 a6 a7 a8 a9 b0 b1 : Int) (d0 : W.cell? ⟨g, 0, none⟩ = some (.int .i64 a0)) (d1 : W.cell? ⟨g, 1, none⟩ = some (.int .i64 a1)) (d2 : W.cell? ⟨g, 2, none⟩ = some (.int .i64 a2)) (d3 : W.cell? ⟨g, 3, none⟩ = some (.int .i64 a3)) (d4 : W.cell? ⟨g, 4, none⟩ = some (.int .i64 a4)) (d5 : W.cell? ⟨g, 5, none⟩ = some (.int .i64 a5)) (d6 : W.cell? ⟨g, 6, none⟩ = some (.int .i64 a6)) (d7 : W.cell? ⟨g, 7, none⟩ = some (.int .i64 a7)) (d8 : W.cell? ⟨g, 8, none⟩ = some (.int .i64 a8)) (d9 : W.cell? ⟨g, 9, none⟩ = some (.int .i64 a9)) (d10 : W.cell? ⟨g, 10, none⟩ = some (.int .i64 b0)) (d11 : W.cell? ⟨g, 11, none⟩ = some (.int .i64 b1)) :
    (results Try.f107 #[x0, x1, .pointer (some ⟨g, 0, none⟩), x3, x4, x5, x6, x7]).run Try.prog W = .ok (.agg #[.int .i64 a0, .int .i64 a1, .int .i64 a2, .int .i64 a3, .int .i64 a4, .int .i64 a5, .int .i64 a6, .int .i64 a7, .int .i64 a8, .int .i64 a9, .int .i64 b0, .int .i64 b1]) W := by
  simp [results, Try.results107, go_sem, d0, d1, d2, d3, d4, d5, d6, d7, d8, d9, d10, d11]
theorem same_at {w : World} {p : Addr} {u v : Value} (h : w.cell? p = some u) : (w.setCell p v).cell? p = some v := World.cell?_setCell_same _ _ _ h
theorem other_at {w : World} {g i j : Nat} {v : Value} (h : ¬ j = i) : (w.setCell ⟨g, i, none⟩ v).cell? ⟨g, j, none⟩ = w.cell? ⟨g, j, none⟩ := World.cell?_setCell_other _ _ _ _ (fun e => h (by injection e with _ e2 _; exact e2.symm))

set_option maxRecDepth 100000 in
set_option maxHeartbeats 20000000 in
theorem keyOf (xs : List Int) (v : Value) (B : Nat) (w : World) (ha : Ints w B v xs) (hB : B ≤ w.heap.size) (hn : xs.length ≤ 12) :
    Calls Try.prog 107 #[v] w fun e w' => e = .returned (.agg (keyA xs)) ∧ Below w.heap.size w w' := by
  obtain ⟨ao, cap, hv⟩ := br.ints_val ha
  have hpos : 0 < (xs.map (Value.int .i64)).length → (some ⟨w.heap.size + 1, 0, none⟩ : Option Addr) = some ⟨w.heap.size + 1, 0, none⟩ ∧ ∃ ad, ao = some ad ∧ ∀ j u, (xs.map (Value.int .i64))[j]? = some u → ((w.alloc (.cells #[.int .i64 0, .int .i64 0, .int .i64 0, .int .i64 0, .int .i64 0, .int .i64 0, .int .i64 0, .int .i64 0, .int .i64 0, .int .i64 0, .int .i64 0, .int .i64 0] 104)).alloc (.cells #[.int .i64 0, .int .i64 0, .int .i64 0, .int .i64 0, .int .i64 0, .int .i64 0, .int .i64 0, .int .i64 0, .int .i64 0, .int .i64 0, .int .i64 0, .int .i64 0] 104)).cell? (ad.add j) = some u := by
    intro hp
    refine ⟨rfl, ?_⟩
    rcases br.ints_al (br.ints_al ha (.cells #[.int .i64 0, .int .i64 0, .int .i64 0, .int .i64 0, .int .i64 0, .int .i64 0, .int .i64 0, .int .i64 0, .int .i64 0, .int .i64 0, .int .i64 0, .int .i64 0] 104)) (.cells #[.int .i64 0, .int .i64 0, .int .i64 0, .int .i64 0, .int .i64 0, .int .i64 0, .int .i64 0, .int .i64 0, .int .i64 0, .int .i64 0, .int .i64 0, .int .i64 0] 104) with ⟨h0, _⟩ | ⟨_, b, off, cp, he, hb, hc⟩
    · rw [h0] at hp; simp at hp
    · rw [hv] at he
      simp only [Value.slice.injEq] at he
      refine ⟨⟨b, off, none⟩, he.1, fun j u hu => ?_⟩
      have hj : j < xs.length := by
        rcases Nat.lt_or_ge j xs.length with h | h
        · exact h
        · rw [List.getElem?_eq_none (by simpa using h)] at hu; cases hu
      rw [Addr.add_lit, hc j hj]
      rw [List.getElem?_map, List.getElem?_eq_getElem hj] at hu
      simp only [Option.map_some, Option.some.injEq] at hu
      rw [← hu]; simp [List.getD, List.getElem?_eq_getElem hj]
  have hg : ((w.alloc (.cells #[.int .i64 0, .int .i64 0, .int .i64 0, .int .i64 0, .int .i64 0, .int .i64 0, .int .i64 0, .int .i64 0, .int .i64 0, .int .i64 0, .int .i64 0, .int .i64 0] 104)).alloc (.cells #[.int .i64 0, .int .i64 0, .int .i64 0, .int .i64 0, .int .i64 0, .int .i64 0, .int .i64 0, .int .i64 0, .int .i64 0, .int .i64 0, .int .i64 0, .int .i64 0] 104)).heap[w.heap.size + 1]? = some (.cells (List.replicate 12 (Value.int .i64 0)).toArray 104 (0, 0)) := by
    have h := heap_alloc_new (w.alloc (.cells #[.int .i64 0, .int .i64 0, .int .i64 0, .int .i64 0, .int .i64 0, .int .i64 0, .int .i64 0, .int .i64 0, .int .i64 0, .int .i64 0, .int .i64 0, .int .i64 0] 104)) (.cells #[.int .i64 0, .int .i64 0, .int .i64 0, .int .i64 0, .int .i64 0, .int .i64 0, .int .i64 0, .int .i64 0, .int .i64 0, .int .i64 0, .int .i64 0, .int .i64 0] 104)
    simpa using h
  have HP := hid hpos
  have HG := hid hg
  have hbb : Below (w.heap.size + 1) (w.alloc (.cells #[.int .i64 0, .int .i64 0, .int .i64 0, .int .i64 0, .int .i64 0, .int .i64 0, .int .i64 0, .int .i64 0, .int .i64 0, .int .i64 0, .int .i64 0, .int .i64 0] 104)) ((w.alloc (.cells #[.int .i64 0, .int .i64 0, .int .i64 0, .int .i64 0, .int .i64 0, .int .i64 0, .int .i64 0, .int .i64 0, .int .i64 0, .int .i64 0, .int .i64 0, .int .i64 0] 104)).alloc (.cells #[.int .i64 0, .int .i64 0, .int .i64 0, .int .i64 0, .int .i64 0, .int .i64 0, .int .i64 0, .int .i64 0, .int .i64 0, .int .i64 0, .int .i64 0, .int .i64 0] 104)) := (Below.refl _ _).alloc (by simp) _
  have HBb := hid hbb
  have HB0 := hid ((Below.refl w.heap.size w).alloc (Nat.le_refl _) (.cells #[.int .i64 0, .int .i64 0, .int .i64 0, .int .i64 0, .int .i64 0, .int .i64 0, .int .i64 0, .int .i64 0, .int .i64 0, .int .i64 0, .int .i64 0, .int .i64 0] 104))
  have HInfo : Hid ((Try.prog.info? 2).map (·.size) = some 1) := hid (by kernel_rfl)
  have HOne : Hid (∀ u ∈ xs.map (Value.int .i64), u.oneCell' = true) := hid (by intro u hu; obtain ⟨x, _, rfl⟩ := List.mem_map.1 hu; rfl)
  have HLen : Hid ((xs.map (Value.int .i64)).length = Nat.min xs.length 12) := hid (by rw [List.length_map]; exact (Nat.min_eq_left hn).symm)
  have HFit : Hid (0 + (xs.map (Value.int .i64)).length ≤ (List.replicate 12 (Value.int .i64 0)).length) := hid (by simp; omega)
  have HSp : Hid (splice (List.replicate 12 (Value.int .i64 0)) 0 (xs.map (Value.int .i64)) = (keyL xs).map (Value.int .i64)) := hid (by simp only [splice, keyL, List.take_zero, List.nil_append, List.map_append, List.map_replicate, List.drop_replicate, List.length_map, Nat.zero_add])
  obtain ⟨a0, a1, a2, a3, a4, a5, a6, a7, a8, a9, b0, b1, hk⟩ := list12 (keyL xs) (keyL_len hn)
  have HK := hid hk
  clear ha hpos hg hbb hk
  subst hv
  go_enter Try.func107, Try.ntmps107
  go_wp2_with (with_reducible refine wpList_copy_splice rfl (.tmp 4) (.tmp 5) 23 23 rfl 2 Try.underlying23 HInfo.out (some ⟨w.heap.size + 1, 0, none⟩) ao 12 12 xs.length cap rfl rfl (w.heap.size + 1) 0 (List.replicate 12 (Value.int .i64 0)) 104 HG.out (xs.map (Value.int .i64)) HLen.out HP.out HFit.out HOne.out (w.heap.size + 1) (w.alloc (.cells #[.int .i64 0, .int .i64 0, .int .i64 0, .int .i64 0, .int .i64 0, .int .i64 0, .int .i64 0, .int .i64 0, .int .i64 0, .int .i64 0, .int .i64 0, .int .i64 0] 104)) HBb.out (Nat.le_refl _) ?_)
  intro w2 hg2 hb2
  have hb2c : ∀ j, j < 12 → w2.cell? ⟨w.heap.size, j, none⟩ = some (.int .i64 0) := fun j hj => (hb2.cell (p := ⟨w.heap.size, j, none⟩) (by simp)).trans ((World.cell?_alloc_at _ _ _ _ rfl).trans (by match j, hj with | 0, _ => rfl | 1, _ => rfl | 2, _ => rfl | 3, _ => rfl | 4, _ => rfl | 5, _ => rfl | 6, _ => rfl | 7, _ => rfl | 8, _ => rfl | 9, _ => rfl | 10, _ => rfl | 11, _ => rfl))
  have hk : ∀ j, w2.cell? ⟨w.heap.size + 1, j, none⟩ = ((keyL xs).map (Value.int .i64))[j]? := fun j => by
    have h2 : w2.heap[w.heap.size + 1]? = some (.cells ((keyL xs).map (Value.int .i64)).toArray 104 (0, 0)) := by
      rw [← HSp.out]; exact hg2.out
    simp [World.cell?, h2]
  rw [HK.out] at hk
  have c0 : w2.cell? ⟨w.heap.size, 0, none⟩ = some (.int .i64 0) := (hb2.cell (p := ⟨w.heap.size, 0, none⟩) (by simp)).trans (World.cell?_alloc_at _ _ _ _ rfl)
  have f0 : w2.frozen? ⟨w.heap.size, 0, none⟩ = false := (hb2.frozen (p := ⟨w.heap.size, 0, none⟩) (by simp)).trans (World.frozen?_alloc_at _ _ _ _ rfl)
  have k0 := hk 0
  have c1 : w2.cell? ⟨w.heap.size, 1, none⟩ = some (.int .i64 0) := (hb2.cell (p := ⟨w.heap.size, 1, none⟩) (by simp)).trans (World.cell?_alloc_at _ _ _ _ rfl)
  have f1 : w2.frozen? ⟨w.heap.size, 1, none⟩ = false := (hb2.frozen (p := ⟨w.heap.size, 1, none⟩) (by simp)).trans (World.frozen?_alloc_at _ _ _ _ rfl)
  have k1 := hk 1
  have c2 : w2.cell? ⟨w.heap.size, 2, none⟩ = some (.int .i64 0) := (hb2.cell (p := ⟨w.heap.size, 2, none⟩) (by simp)).trans (World.cell?_alloc_at _ _ _ _ rfl)
  have f2 : w2.frozen? ⟨w.heap.size, 2, none⟩ = false := (hb2.frozen (p := ⟨w.heap.size, 2, none⟩) (by simp)).trans (World.frozen?_alloc_at _ _ _ _ rfl)
  have k2 := hk 2
  have c3 : w2.cell? ⟨w.heap.size, 3, none⟩ = some (.int .i64 0) := (hb2.cell (p := ⟨w.heap.size, 3, none⟩) (by simp)).trans (World.cell?_alloc_at _ _ _ _ rfl)
  have f3 : w2.frozen? ⟨w.heap.size, 3, none⟩ = false := (hb2.frozen (p := ⟨w.heap.size, 3, none⟩) (by simp)).trans (World.frozen?_alloc_at _ _ _ _ rfl)
  have k3 := hk 3
  have c4 : w2.cell? ⟨w.heap.size, 4, none⟩ = some (.int .i64 0) := (hb2.cell (p := ⟨w.heap.size, 4, none⟩) (by simp)).trans (World.cell?_alloc_at _ _ _ _ rfl)
  have f4 : w2.frozen? ⟨w.heap.size, 4, none⟩ = false := (hb2.frozen (p := ⟨w.heap.size, 4, none⟩) (by simp)).trans (World.frozen?_alloc_at _ _ _ _ rfl)
  have k4 := hk 4
  have c5 : w2.cell? ⟨w.heap.size, 5, none⟩ = some (.int .i64 0) := (hb2.cell (p := ⟨w.heap.size, 5, none⟩) (by simp)).trans (World.cell?_alloc_at _ _ _ _ rfl)
  have f5 : w2.frozen? ⟨w.heap.size, 5, none⟩ = false := (hb2.frozen (p := ⟨w.heap.size, 5, none⟩) (by simp)).trans (World.frozen?_alloc_at _ _ _ _ rfl)
  have k5 := hk 5
  have c6 : w2.cell? ⟨w.heap.size, 6, none⟩ = some (.int .i64 0) := (hb2.cell (p := ⟨w.heap.size, 6, none⟩) (by simp)).trans (World.cell?_alloc_at _ _ _ _ rfl)
  have f6 : w2.frozen? ⟨w.heap.size, 6, none⟩ = false := (hb2.frozen (p := ⟨w.heap.size, 6, none⟩) (by simp)).trans (World.frozen?_alloc_at _ _ _ _ rfl)
  have k6 := hk 6
  have c7 : w2.cell? ⟨w.heap.size, 7, none⟩ = some (.int .i64 0) := (hb2.cell (p := ⟨w.heap.size, 7, none⟩) (by simp)).trans (World.cell?_alloc_at _ _ _ _ rfl)
  have f7 : w2.frozen? ⟨w.heap.size, 7, none⟩ = false := (hb2.frozen (p := ⟨w.heap.size, 7, none⟩) (by simp)).trans (World.frozen?_alloc_at _ _ _ _ rfl)
  have k7 := hk 7
  have c8 : w2.cell? ⟨w.heap.size, 8, none⟩ = some (.int .i64 0) := (hb2.cell (p := ⟨w.heap.size, 8, none⟩) (by simp)).trans (World.cell?_alloc_at _ _ _ _ rfl)
  have f8 : w2.frozen? ⟨w.heap.size, 8, none⟩ = false := (hb2.frozen (p := ⟨w.heap.size, 8, none⟩) (by simp)).trans (World.frozen?_alloc_at _ _ _ _ rfl)
  have k8 := hk 8
  have c9 : w2.cell? ⟨w.heap.size, 9, none⟩ = some (.int .i64 0) := (hb2.cell (p := ⟨w.heap.size, 9, none⟩) (by simp)).trans (World.cell?_alloc_at _ _ _ _ rfl)
  have f9 : w2.frozen? ⟨w.heap.size, 9, none⟩ = false := (hb2.frozen (p := ⟨w.heap.size, 9, none⟩) (by simp)).trans (World.frozen?_alloc_at _ _ _ _ rfl)
  have k9 := hk 9
  have c10 : w2.cell? ⟨w.heap.size, 10, none⟩ = some (.int .i64 0) := (hb2.cell (p := ⟨w.heap.size, 10, none⟩) (by simp)).trans (World.cell?_alloc_at _ _ _ _ rfl)
  have f10 : w2.frozen? ⟨w.heap.size, 10, none⟩ = false := (hb2.frozen (p := ⟨w.heap.size, 10, none⟩) (by simp)).trans (World.frozen?_alloc_at _ _ _ _ rfl)
  have k10 := hk 10
  have c11 : w2.cell? ⟨w.heap.size, 11, none⟩ = some (.int .i64 0) := (hb2.cell (p := ⟨w.heap.size, 11, none⟩) (by simp)).trans (World.cell?_alloc_at _ _ _ _ rfl)
  have f11 : w2.frozen? ⟨w.heap.size, 11, none⟩ = false := (hb2.frozen (p := ⟨w.heap.size, 11, none⟩) (by simp)).trans (World.frozen?_alloc_at _ _ _ _ rfl)
  have k11 := hk 11
  simp only [List.map_cons, List.map_nil, List.getElem?_cons_zero, List.getElem?_cons_succ] at k0 k1 k2 k3 k4 k5 k6 k7 k8 k9 k10 k11
  have HB2 := hid (HB0.out.trans (hb2.mono (by omega)))
  have hz2 := hb2.size
  simp at hz2
  clear hk hg2 hb2
  have HSome : Hid (∀ j, j < ([.int .i64 a0, .int .i64 a1, .int .i64 a2, .int .i64 a3, .int .i64 a4, .int .i64 a5, .int .i64 a6, .int .i64 a7, .int .i64 a8, .int .i64 a9, .int .i64 b0, .int .i64 b1] : List Value).length → (w2.cell? ⟨w.heap.size, 0 + j, none⟩).isSome = true) := hid (fun j hj => by
    have hj2 : j < 12 := hj
    rw [Nat.zero_add, (hb2c j hj2)]; rfl)
  have HB2b := hid HB2.out
  clear hb2c
  have hd := World.cell?_setCells_in w.heap.size [.int .i64 a0, .int .i64 a1, .int .i64 a2, .int .i64 a3, .int .i64 a4, .int .i64 a5, .int .i64 a6, .int .i64 a7, .int .i64 a8, .int .i64 a9, .int .i64 b0, .int .i64 b1] 0 w2 HSome.out
  have HDd := hid hd
  clear hd
  go_wp2
  have hd := HDd.out
  refine bodyPost_ret (v := .agg #[.int .i64 a0, .int .i64 a1, .int .i64 a2, .int .i64 a3, .int .i64 a4, .int .i64 a5, .int .i64 a6, .int .i64 a7, .int .i64 a8, .int .i64 a9, .int .i64 b0, .int .i64 b1]) ?_ rfl ⟨by rw [keyA, HK.out]; rfl, ?_⟩
  · exact keyRes _ w.heap.size _ _ _ _ _ _ _ a0 a1 a2 a3 a4 a5 a6 a7 a8 a9 b0 b1 (hd 0 (by simp)) (hd 1 (by simp)) (hd 2 (by simp)) (hd 3 (by simp)) (hd 4 (by simp)) (hd 5 (by simp)) (hd 6 (by simp)) (hd 7 (by simp)) (hd 8 (by simp)) (hd 9 (by simp)) (hd 10 (by simp)) (hd 11 (by simp))
  · iterate 12 (refine Below.setCell ?_ (by simp) _)
    exact HB2b.out
end Go.Proofs.Ytfechjhngcmdpab.ky
