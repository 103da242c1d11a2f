/-
  Contracts of DescentsOf, of the program and of its model.
-/
import Derived.Test.YtfechjhngcmdpabComp
namespace Go.Proofs.Ytfechjhngcmdpab.fn
open Go.RowKit Go.Proofs.Ytfechjhngcmdpab.sl Go.Proofs.Ytfechjhngcmdpab.pm

/-- The descents among the first k neighbours. -/
def descTo (p : List Int) : Nat → List Int
  | 0 => []
  | k + 1 => if p.getD (k + 1) 0 < p.getD k 0 then descTo p k ++ [(k : Int)] else descTo p k
def descL (p : List Int) : List Int := descTo p (p.length - 1)
theorem descTo_len (p : List Int) (k : Nat) : (descTo p k).length ≤ k := by
  induction k with
  | zero => simp [descTo]
  | succ k ih =>
    unfold descTo
    split
    · simp; omega
    · omega
theorem desc_yes (p : List Int) (k : Nat) (h : p.getD (k + 1) 0 < p.getD k 0) : descTo p (k + 1) = descTo p k ++ [(k : Int)] := by rw [descTo, if_pos h]
theorem desc_no (p : List Int) (k : Nat) (h : ¬ p.getD (k + 1) 0 < p.getD k 0) : descTo p (k + 1) = descTo p k := by rw [descTo, if_neg h]

def descP (p : List Int) : List Int := if permB p = true then descL p else []
theorem descP_len (p : List Int) : (descP p).length ≤ 12 := by
  unfold descP
  split
  · rename_i h
    have h1 := perm_len h
    have h2 := descTo_len p (p.length - 1)
    unfold descL
    omega
  · simp

theorem implDesc (p : List Int) (v : Value) (B : Nat) (w : World) (ha : Ints w B v p) (hB : B ≤ w.heap.size) (hn : p.length ≤ 1099511627776) :
    Calls Try.prog 109 #[v] w fun e w' => ∃ v', e = .returned v' ∧ Own w' w.heap.size w'.heap.size v' (descL p) ∧ Below w.heap.size w w' := by
  rcases ha with ⟨rfl, ao, cap, rfl⟩ | ⟨hp, b, off, cap, rfl, hb', hc⟩
  · go_enter Try.func109, Try.ntmps109
    go_wp2
    refine wp_loop_rounds 1 ?_
    rw [rounds_succ]
    go_wp2
    go_ret
    exact ⟨_, rfl, Own.built w _ rfl, (Below.refl _ _).alloc (Nat.le_refl _) _⟩
  · have HC : Hid (∀ j, j < p.length → w.cell? ⟨b, off + j, none⟩ = some (.int .i64 (p.getD j 0))) := hid hc
    obtain ⟨n, hnn⟩ : ∃ n, n = p.length := ⟨_, rfl⟩
    rw [← hnn] at hp hn ⊢
    have HN := hid hnn
    clear hc hnn
    go_enter Try.func109, Try.ntmps109
    go_wp2
    go_loopw [3, 9] (fun v i wr => ∃ k : Nat, k ≤ n - 1 ∧ i = .int .i64 k ∧ Own wr w.heap.size wr.heap.size v (descTo p k) ∧ Below w.heap.size w wr)
      (fun _ i _ => n - 1 - (intOf i).toNat)
    case atStart => exact ⟨0, Nat.zero_le _, rfl, Own.built w _ rfl, (Below.refl _ _).alloc (Nat.le_refl _) _⟩
    case round =>
      obtain ⟨k, hk, rfl, hown, hbel⟩ := hrel
      have HO := hid hown
      have HB := hid hbel
      have hsz := hbel.size
      have hdl := descTo_len p k
      clear hown hbel
      by_cases hlt : k < n - 1
      · obtain ⟨x, hx⟩ : ∃ x, x = p.getD k 0 := ⟨_, rfl⟩
        obtain ⟨y, hy⟩ : ∃ y, y = p.getD (k + 1) 0 := ⟨_, rfl⟩
        have h1 : wr.cell? ⟨b, off + k, none⟩ = some (.int .i64 x) := by rw [hx]; exact (HB.out.cell (p := ⟨b, off + k, none⟩) (by show b < _; omega)).trans (HC.out k (by rw [← HN.out]; omega))
        have h2 : wr.cell? ⟨b, off + (k + 1), none⟩ = some (.int .i64 y) := by rw [hy]; exact (HB.out.cell (p := ⟨b, off + (k + 1), none⟩) (by show b < _; omega)).trans (HC.out (k + 1) (by rw [← HN.out]; omega))
        have HX := hid hx
        have HY := hid hy
        have hlt' : (k : Int) < (n : Int) - 1 := by omega
        clear hx hy
        by_cases hd : y < x
        · have HD : Hid (descTo p (k + 1) = descTo p k ++ [(k : Int)]) := hid (desc_yes p k (by rw [← HX.out, ← HY.out]; exact hd))
          go_wp2
          go_quiet (fail)
          have HO2 := hid (HO.out.drewN nq)
          have HB2 := hid (bdrewN HB.out nq)
          have hsz2 : w.heap.size ≤ (wr.drewN nq).heap.size := hsz
          have e2 : Hid ((wr.drewN nq).heap.size = wr.heap.size) := hid rfl
          clear h1 h2
          generalize wr.drewN nq = w2 at *
          go_wp2_with (at_builtin; refine wp_append rfl _ _ rfl w.heap.size wr.heap.size _ (descTo p k) k HO2.out rfl rfl hsz2 (by omega) ?_; intro v' w1 hown1 hchg1 hsz1)
          have HO1 := hid hown1
          have HB1 := hid (HB2.out.trans (hchg1.below (Nat.le_refl _) hsz2))
          clear hown1 hchg1
          go_wp2
          go_roundw
          case rel => exact ⟨k + 1, by omega, by go_num, by rw [HD.out]; exact HO1.out, HB1.out⟩
          case measure => simp [intOf]; omega
        · have HD : Hid (descTo p (k + 1) = descTo p k) := hid (desc_no p k (by rw [← HX.out, ← HY.out]; exact hd))
          go_wp2
          go_quiet (fail)
          go_wp2
          go_roundw
          case rel => exact ⟨k + 1, by omega, by go_num, by rw [HD.out]; exact HO.out.drewN _, bdrewN HB.out _⟩
          case measure => simp [intOf]; omega
      · have hk' : k = n - 1 := by omega
        subst hk'
        have hge : ¬ (((n - 1 : Nat) : Int)) < (n : Int) - 1 := by omega
        go_wp2
        go_ret
        exact ⟨_, rfl, by rw [descL, ← HN.out]; exact HO.out, HB.out⟩

end Go.Proofs.Ytfechjhngcmdpab.fn
