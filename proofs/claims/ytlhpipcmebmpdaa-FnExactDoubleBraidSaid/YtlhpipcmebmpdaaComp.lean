/-
  Contracts of IdentityPermutation, ComposePermutations and InvertPermutation, of the program and of its model.
-/
import Derived.Test.YtlhpipcmebmpdaaIds
namespace Go.Proofs.Ytlhpipcmebmpdaa.fn
open Go.RowKit Go.Proofs.Ytlhpipcmebmpdaa.sl Go.Proofs.Ytlhpipcmebmpdaa.pm

/-! ### IdentityPermutation -/
def idOk (n : Int) : Bool := decide (0 ≤ n ∧ n ≤ 12)
def idL (n : Int) : List Int := if idOk n = true then ids n.toNat else []
theorem idL_len (n : Int) : (idL n).length ≤ 12 := by
  unfold idL
  split
  · rename_i h; simp only [idOk, decide_eq_true_eq] at h; rw [ids_len]; omega
  · simp

/-! ### ComposePermutations -/
def cmpL (p q : List Int) : List Int := if bothB p q = true then compL p q else []
theorem both_parts {p q : List Int} (h : bothB p q = true) : permB p = true ∧ permB q = true ∧ p.length = q.length := by
  simp only [bothB, Bool.and_eq_true, decide_eq_true_eq] at h
  exact ⟨h.1.1, h.1.2, h.2⟩
theorem cmpL_len (p q : List Int) : (cmpL p q).length ≤ 12 := by
  unfold cmpL
  split
  · rename_i h; rw [compL_len]; exact perm_len (both_parts h).1
  · simp

theorem implComposed (p q : List Int) (v u : Value) (B C : Nat) (w : World) (ha : Ints w B v p) (hb : Ints w C u q) (hB : B ≤ w.heap.size) (hC : C ≤ w.heap.size) (hn : p.length ≤ 1099511627776) (hm : q.length ≤ 1099511627776) (hp : Places q.length p) :
    Calls Try.prog 120 #[v, u] w fun e w' => ∃ v', e = .returned v' ∧ Own w' w.heap.size w'.heap.size v' (compL p q) ∧ Below w.heap.size w w' := by
  obtain ⟨i0, hi, hz0, hz1, hz2⟩ := info_parts info64
  have HP := hid hp
  clear hp
  rcases ha with ⟨rfl, ao, cap, rfl⟩ | ⟨hp, b, off, cap, rfl, hb', hc⟩
  · obtain ⟨ao', cap', rfl⟩ := ints_slice hb
    clear hb
    go_enter Try.func120, Try.ntmps120
    go_wp2_with (at_make; refine wpList_make_full _ rfl (.tmp 9) (.tmp 9) 22 rfl w.heap.size 2 i0 (.int .i64 0) 1 Try.underlying22 hi hz0 hz1 .i64 .i64 _ _ 0 rfl rfl (by rfl) (by rfl) (by omega) (by unfold maxLen; omega) (Nat.le_refl _) ?_; intro w2 hown2 hgrow2)
    have HO2 := hid (made_own hown2)
    have HB2 : Hid (Below w.heap.size w w2) := hid ((Below.refl _ _).grown hgrow2 (Nat.le_refl _) (fun k hk => by cases hk))
    clear hown2 hgrow2
    refine wp_loop_rounds 1 ?_
    rw [rounds_succ]
    go_wp2
    go_ret
    exact ⟨_, rfl, HO2.out, HB2.out⟩
  · rcases hb with ⟨rfl, ao', cap', rfl⟩ | ⟨hp', b', off', cap', rfl, hb'', hc'⟩
    · obtain ⟨m, _, h0⟩ := HP.out 0 hp
      simp at h0
    · have HC : Hid (∀ j, j < p.length → w.cell? ⟨b, off + j, none⟩ = some (.int .i64 (p.getD j 0))) := hid hc
      have HC' : Hid (∀ j, j < q.length → w.cell? ⟨b', off' + j, none⟩ = some (.int .i64 (q.getD j 0))) := hid hc'
      obtain ⟨n, hnn⟩ : ∃ n, n = p.length := ⟨_, rfl⟩
      obtain ⟨m, hmm⟩ : ∃ m, m = q.length := ⟨_, rfl⟩
      rw [← hnn] at hp hn ⊢
      rw [← hmm] at hp' hm ⊢
      have HN := hid hnn
      have HM := hid hmm
      clear hc hc' hnn hmm
      go_enter Try.func120, Try.ntmps120
      go_wp2_with (at_make; refine wpList_make_full _ rfl (.tmp 9) (.tmp 9) 22 rfl w.heap.size 2 i0 (.int .i64 0) 1 Try.underlying22 hi hz0 hz1 .i64 .i64 _ _ n rfl rfl (by rfl) (by rfl) (by rw [hz2]; omega) (by unfold maxLen; omega) (Nat.le_refl _) ?_; intro w2 hown2 hgrow2)
      have HO2 := hid (made_own hown2)
      have HB2 : Hid (Below w.heap.size w w2) := hid ((Below.refl _ _).grown hgrow2 (Nat.le_refl _) (fun k hk => by cases hk))
      have hs2 := hgrow2.size
      clear hown2 hgrow2
      go_loopw [13] (fun i wr => ∃ k : Nat, k ≤ n ∧ i = .int .i64 k ∧ Own wr w.heap.size wr.heap.size (.slice (some ⟨w.heap.size, 0, none⟩) n n) (compP p q k) ∧ Below w.heap.size w wr)
        (fun i _ => n - (intOf i).toNat)
      case atStart => exact ⟨0, Nat.zero_le _, rfl, by rw [compP_zero, ← HN.out]; exact HO2.out, HB2.out⟩
      case round =>
        obtain ⟨k, hk, rfl, hown, hbel⟩ := hrel
        have HO := hid hown
        have HBr := hid hbel
        clear hown hbel
        by_cases hlt : k < n
        · obtain ⟨x, hx, hxm⟩ := HP.out k (by rw [← HN.out]; exact hlt)
          rw [← HM.out] at hxm
          have h1 : wr.cell? ⟨b, off + k, none⟩ = some (.int .i64 (x : Int)) := by rw [← hx]; exact (HBr.out.cell (p := ⟨b, off + k, none⟩) (by show b < _; omega)).trans (HC.out k (by rw [← HN.out]; exact hlt))
          obtain ⟨y, hy⟩ : ∃ y, y = q.getD x 0 := ⟨_, rfl⟩
          have h2 : wr.cell? ⟨b', off' + x, none⟩ = some (.int .i64 y) := by rw [hy]; exact (HBr.out.cell (p := ⟨b', off' + x, none⟩) (by show b' < _; omega)).trans (HC'.out x (by rw [← HM.out]; exact hxm))
          have hcell := (HO.out.at' k (by rw [compP_len p q k (by rw [← HN.out]; exact hk), ← HN.out]; exact hlt)).1
          have hfr := (HO.out.at' k (by rw [compP_len p q k (by rw [← HN.out]; exact hk), ← HN.out]; exact hlt)).2
          have HS := hid (HO.out.set k y).1
          have HX := hid hx
          have HY := hid hy
          clear hx hy
          go_wp2
          go_roundw
          case rel => exact ⟨k + 1, by omega, by go_num, by have := HS.out; rw [HY.out, compP_set p q k x (by rw [← HN.out]; exact hlt) HX.out, ← HY.out] at this; simpa using this, HBr.out.setCell (by simp) _⟩
          case measure => simp [intOf]; omega
        · obtain rfl : k = n := by omega
          go_wp2
          go_ret
          exact ⟨_, rfl, by have := HO.out; rw [HN.out, compP_all, ← HN.out] at this; exact this, HBr.out⟩

end Go.Proofs.Ytlhpipcmebmpdaa.fn
