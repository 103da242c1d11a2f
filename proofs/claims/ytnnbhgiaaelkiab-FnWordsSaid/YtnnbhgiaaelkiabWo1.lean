/-
  The law of words: contracts of its helpers a2Long and a2At.
-/
import Derived.Test.YtnnbhgiaaelkiabLt2
import Derived.Test.YtnnbhgiaaelkiabWp1
import Derived.Test.YtnnbhgiaaelkiabSrc3
import Derived.BigQuiet
namespace Go.Proofs.Ytnnbhgiaaelkiab.lt
open Go.RowKit Go.Proofs.Ytnnbhgiaaelkiab.sl Go.Proofs.Ytnnbhgiaaelkiab.pm Go.Proofs.Ytnnbhgiaaelkiab.fn Go.Proofs.Ytnnbhgiaaelkiab.sr

theorem long2 (n cap m cap' : Nat) (ao bo : Option Addr) (p q : Bool) (hp : decide ((3000 : Int) < (n : Int)) = p) (hq : decide ((3000 : Int) < (m : Int)) = q) (w : World) :
    Calls Try.prog 22 #[.slice ao n cap, .slice bo m cap'] w fun e w' => e = .returned (.bool (p || q)) ∧ w' = w := by
  cases p <;> cases q
  all_goals
    go_enter Try.func22, Try.ntmps22
    go_wp2
    go_ret
    exact ⟨rfl, rfl⟩

theorem rem_lt (x : Nat) (N : Int) (h : 1 ≤ N) : ∃ r : Nat, (r : Int) < N ∧ Int.tmod (x : Int) N = (r : Int) := by
  have h1 : 0 ≤ Int.tmod (x : Int) N := Int.tmod_nonneg _ (by omega)
  have h2 : Int.tmod (x : Int) N < N := Int.tmod_lt_of_pos _ (by omega)
  exact ⟨(Int.tmod (x : Int) N).toNat, by omega, by omega⟩

set_option maxRecDepth 100000 in
theorem atQ (v : Value) (B m k : Nat) (N : Int) (w : World) (h : Bytes w B v m) (hk : k < m) (h1 : 1 ≤ N) (h2 : N ≤ 12) :
    Calls Try.prog 26 #[v, .int .i64 (k : Int), .int .i64 N] w fun e w' => (∃ r : Nat, (r : Int) < N ∧ e = .returned (.int .i64 (r : Int))) ∧ w' = w := by
  rcases h with ⟨h0, _⟩ | ⟨_, b, off, cap, rfl, hb, hc⟩
  · omega
  · obtain ⟨x, hx, hcx⟩ := hc k hk
    obtain ⟨r, hr, hrr⟩ := rem_lt x N h1
    have e1 : decide ((m : Int) ≤ (k : Int)) = false := by simp; omega
    have e1' : decide (m ≤ k) = false := by simp; omega
    have e2 : decide (N < 1) = false := by simp; omega
    have e3 : ¬ N = 0 := by omega
    have e4 : ¬ N = -1 := by omega
    have e5 : IntKind.i64.wrap (x : Int) = (x : Int) := IntWalk.i64_in _ (by omega)
    have e6 : IntKind.i64.wrap (r : Int) = (r : Int) := IntWalk.i64_in _ (by omega)
    have hkI : (k : Int) < (m : Int) := by omega
    clear hc
    go_enter Try.func26, Try.ntmps26
    go_wp2
    go_ret
    exact ⟨⟨r, hr, rfl⟩, rfl⟩

end Go.Proofs.Ytnnbhgiaaelkiab.lt
