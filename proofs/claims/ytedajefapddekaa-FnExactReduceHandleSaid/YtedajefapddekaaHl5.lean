/-
  The handle that ends first, searched for in a linked word.
-/
import Derived.Test.YtedajefapddekaaHl4
import Derived.Test.YtedajefapddekaaMr
import Derived.WalkMore
import Derived.Deep.LoopGhost
namespace Go.Proofs.Ytedajefapddekaa.hl
open Go.RowKit Go.Proofs.Ytedajefapddekaa.sl Go.Proofs.Ytedajefapddekaa.br Go.Proofs.Ytedajefapddekaa.bw Go.Proofs.Ytedajefapddekaa.fn
set_option linter.unusedVariables false

def fhA (Q : Nat → Nat) (xs : List Int) : Value := match fst xs with | none => .pointer none | some pq => ptr (Q (pq.1 + 1))
def fhB (Q : Nat → Nat) (xs : List Int) : Value := match fst xs with | none => .pointer none | some pq => ptr (Q (pq.2 + 1))

theorem oppQ (x y : Int) (hx : -100 ≤ x ∧ x ≤ 100) (hy : -100 ≤ y ∧ y ≤ 100) (q : Bool) (hq : decide (x = -y) = q) (w : World) :
    Calls Try.prog 115 #[.int .i64 x, .int .i64 y] w fun e w' => e = .returned (.bool q) ∧ w' = w := by
  have e1 : IntKind.i64.wrap (-y) = -y := IntWalk.i64_in _ (by omega)
  have HQ := hid hq
  clear hq
  go_enter Try.func115, Try.ntmps115
  go_wp2
  go_ret
  exact ⟨by rw [← HQ.out]; congr 2, rfl⟩

theorem drewN_two (w : World) (a b : Nat) : (w.drewN a).drewN b = w.drewN (a + b) := by simp [World.drewN, Nat.add_assoc]
theorem ab_pos (x : Int) : 0 ≤ ab x := by unfold ab; split <;> omega
theorem end_dec (xs : List Int) (q k : Nat) (hk : k < q) (h : ∀ i, k < i → i < q → stp (ab (xs.getD q 0)) (xs.getD i 0) = false) (g : ab (xs.getD k 0) = ab (xs.getD q 0) - 1) : hEnd xs q = none :=
  end_other xs q k hk (by unfold stp; rw [g]; simp) h (fun e => by rw [e, ab_neg] at g; omega)

set_option maxRecDepth 100000 in
set_option maxHeartbeats 4000000 in
theorem fhW (lo W : Nat) (Q : Nat → Nat) (xs : List Int) (k0 : Nat) (hk0 : k0 ≤ xs.length) (hfree : ∀ i, i < k0 → hEnd xs i = none) (w : World) (h : LW w lo W Q xs) (hn : xs.length ≤ 1000000) (hL : Let 11 xs) :
    Calls Try.prog 81 #[ptr W, ptr (Q (k0 + 1))] w fun e w' => e = .returned (.tuple #[fhA Q xs, fhB Q xs]) ∧ ∃ q, w' = w.drewN q := by
  have HH := hid h
  have HL := hid hL
  have HF := hid hfree
  have c0 := h.c0
  clear h hL hfree
  unfold ptr at c0
  obtain ⟨n, hnn⟩ : ∃ n, n = xs.length := ⟨_, rfl⟩
  rw [← hnn] at hk0 hn
  have HN := hid hnn
  clear hnn
  obtain ⟨p, hp⟩ : ∃ p, p = Q 0 := ⟨_, rfl⟩
  rw [← hp] at c0
  have HP := hid hp
  clear hp
  obtain ⟨r, hr⟩ : ∃ r, r = Q (k0 + 1) := ⟨_, rfl⟩
  rw [← hr]
  have HR := hid hr
  clear hr
  unfold ptr
  go_enter Try.func81, Try.ntmps81
  go_wp2
  go_step3
  go_wp2
  go_step3
  go_wp2
  go_loopg [6] (n - k0) (fun g x wr => ∃ q a : Nat, q + g = n ∧ x = .pointer (some ⟨a, 0, none⟩) ∧ a = Q (q + 1) ∧ (∀ i, i < q → hEnd xs i = none) ∧ ∃ m, wr = w.drewN m)
  case atStart => exact ⟨k0, r, by omega, rfl, HR.out, HF.out, 0, rfl⟩
  case round =>
    obtain ⟨q, a, hq, rfl, ha, hfree, m0, hwr⟩ := hrel
    have HG := hid hfree
    have HWr := hid hwr
    have H2 : Hid (LW wr lo W Q xs) := hid (by rw [HWr.out]; exact HH.out.drewN m0)
    clear hfree hwr
    have f0 : wr.cell? ⟨W, 0, none⟩ = some (.pointer (some ⟨p, 0, none⟩)) := by rw [HWr.out]; exact c0
    have HC := hid (neqP wr a p (by rw [ha]; exact H2.out.blk (q + 1) (by rw [← HN.out]; omega)) (by rw [HP.out]; exact H2.out.blk 0 (Nat.zero_le _)) wr rfl)
    cases gk with
    | zero =>
      have hap : a = p := by rw [ha, HP.out, show q = n from by omega, HN.out, H2.out.lst.back]
      have HQn : Hid (q = n) := hid (by omega)
      clear ha hq
      subst hap
      have hcm : (binOp .neq 99 (.pointer (some ⟨a, 0, none⟩)) (.pointer (some ⟨a, 0, none⟩))).run Try.prog wr = .ok (.bool false) wr := by
        rw [HC.out]; simp
      have HE : Hid (fst xs = none) := hid (fst_none xs (fun i hi => HG.out i (by rw [HQn.out, HN.out]; exact hi)))
      go_wp2
      go_ret2
      exact ⟨by unfold fhA fhB; rw [HE.out]; rfl, m0, HWr.out⟩
    | succ g =>
      have hlt : q < n := by omega
      have hne : ¬ a = p := fun e => H2.out.lst.far0 (q + 1) (by omega) (by rw [← HN.out]; omega) (by rw [← ha, e, HP.out])
      have hcm : (binOp .neq 99 (.pointer (some ⟨a, 0, none⟩)) (.pointer (some ⟨p, 0, none⟩))).run Try.prog wr = .ok (.bool true) wr := by
        rw [HC.out, decide_eq_false hne]; rfl
      have g0 := H2.out.lst.lt q (by rw [← HN.out]; omega)
      have g1 := H2.out.lst.nx (q + 1) (by rw [← HN.out]; omega)
      have g2 := H2.out.lst.pv q (by rw [← HN.out]; omega)
      rw [← ha] at g0 g1 g2
      unfold ptr at g1 g2
      have hy := HL.out.at q (by rw [← HN.out]; omega)
      obtain ⟨y, hyy⟩ : ∃ y, y = xs.getD q 0 := ⟨_, rfl⟩
      rw [← hyy] at g0 hy
      have HY := hid hyy
      obtain ⟨b, hb⟩ : ∃ b, b = Q (q + 1 + 1) := ⟨_, rfl⟩
      obtain ⟨c, hc⟩ : ∃ c, c = Q q := ⟨_, rfl⟩
      rw [← hb] at g1
      rw [← hc] at g2
      have HA := hid ha
      have HBb := hid hb
      have HCc := hid hc
      have hyb := ab_bound y 11 hy
      obtain ⟨jj, hjj⟩ : ∃ jj, ab y = jj := ⟨_, rfl⟩
      rw [hjj] at hy
      have HGy := hid (quiet_gen y (by omega) jj hjj)
      have HJJ := hid hjj
      have e1 : IntKind.i64.wrap (jj - 1) = jj - 1 := IntWalk.i64_in _ (by omega)
      clear ha hb hc hyy hjj HC hne
      go_wp2_with fail
      refine (HGy.out _).mono ?_
      rintro e w2 ⟨rfl, rfl⟩
      go_wp2
      go_loopg [8] q (fun g2 x wv => ∃ a2 : Nat, g2 ≤ q ∧ x = .pointer (some ⟨a2, 0, none⟩) ∧ a2 = Q g2 ∧ (∀ i, g2 ≤ i → i < q → stp (ab y) (xs.getD i 0) = false) ∧ wv = w2)
      case atStart => exact ⟨c, Nat.le_refl _, rfl, HCc.out, fun i h1 h2 => by omega, rfl⟩
      case round =>
        obtain ⟨a2, hj, rfl, ha2, hst, rfl⟩ := hrel
        have HS := hid hst
        clear hst
        have HC := hid (neqP wr a2 p (by rw [ha2]; exact H2.out.blk gk (by rw [← HN.out]; omega)) (by rw [HP.out]; exact H2.out.blk 0 (Nat.zero_le _)) wr rfl)
        cases gk with
        | zero =>
          have hap : a2 = p := by rw [ha2, HP.out]
          clear ha2
          subst hap
          have hcm2 : (binOp .neq 99 (.pointer (some ⟨a2, 0, none⟩)) (.pointer (some ⟨a2, 0, none⟩))).run Try.prog wr = .ok (.bool false) wr := by
            rw [HC.out]; simp
          have HE : Hid (hEnd xs q = none) := hid (end_free xs q (fun i hi => by rw [← HY.out]; exact HS.out i (Nat.zero_le _) hi))
          go_wp2
          go_roundg g
          case measure => omega
          case rel => exact ⟨q + 1, b, by omega, rfl, HBb.out, fun i hi => by
            by_cases e : i = q
            · subst e; exact HE.out
            · exact HG.out i (by omega), m0, HWr.out⟩
        | succ j =>
          have hne2 : ¬ a2 = p := fun e => H2.out.lst.far0 (j + 1) (by omega) (by rw [← HN.out]; omega) (by rw [← ha2, e, HP.out])
          have hcm2 : (binOp .neq 99 (.pointer (some ⟨a2, 0, none⟩)) (.pointer (some ⟨p, 0, none⟩))).run Try.prog wr = .ok (.bool true) wr := by
            rw [HC.out, decide_eq_false hne2]; rfl
          have k0 := H2.out.lst.lt j (by rw [← HN.out]; omega)
          have k1 := H2.out.lst.pv j (by rw [← HN.out]; omega)
          rw [← ha2] at k0 k1
          unfold ptr at k1
          have hx := HL.out.at j (by rw [← HN.out]; omega)
          obtain ⟨x, hxx⟩ : ∃ x, x = xs.getD j 0 := ⟨_, rfl⟩
          rw [← hxx] at k0 hx
          have HX := hid hxx
          obtain ⟨d, hd⟩ : ∃ d, d = Q j := ⟨_, rfl⟩
          rw [← hd] at k1
          have HD := hid hd
          have hxb := ab_bound x 11 hx
          obtain ⟨gx, hgx⟩ : ∃ gx, ab x = gx := ⟨_, rfl⟩
          rw [hgx] at hx
          have HGx := hid (quiet_gen x (by omega) gx hgx)
          have HXX := hid hgx
          have HA2 := hid ha2
          clear hxx hd hgx ha2 HC hne2
          by_cases c1 : gx = jj - 1
          · have HE : Hid (hEnd xs q = none) := hid (end_dec xs q j (by omega) (fun i h1 h2 => by rw [← HY.out]; exact HS.out i (by omega) h2) (by rw [← HX.out, ← HY.out, HXX.out, HJJ.out]; exact c1))
            subst c1
            go_wp2_with fail
            refine (HGx.out _).mono ?_
            rintro e w3 ⟨rfl, rfl⟩
            go_wp2
            go_roundg g
            case measure => omega
            case rel => exact ⟨q + 1, b, by omega, rfl, HBb.out, fun i hi => by
              by_cases e : i = q
              · subst e; exact HE.out
              · exact HG.out i (by omega), m0, HWr.out⟩
          · by_cases c2 : gx = jj
            · subst c2
              have b1 : (gx == gx - 1) = false := by simpa using c1
              have HStt : Hid (stp (ab (xs.getD q 0)) (xs.getD j 0) = true) := hid (by unfold stp; rw [← HX.out, ← HY.out, HXX.out, HJJ.out]; simp)
              have HSf : Hid (∀ i, j < i → i < q → stp (ab (xs.getD q 0)) (xs.getD i 0) = false) := hid (fun i h1 h2 => by rw [← HY.out]; exact HS.out i (by omega) h2)
              cases ho : decide (x = -y)
              · have HO := hid (oppQ x y (by omega) (by omega) false ho)
                have HE : Hid (hEnd xs q = none) := hid (end_other xs q j (by omega) HStt.out HSf.out (by rw [← HX.out, ← HY.out]; simpa using ho))
                clear ho
                go_wp2_with fail
                refine (HGx.out _).mono ?_
                rintro e w3 ⟨rfl, rfl⟩
                go_wp2
                go_quiet ((go_at_call 115; exact Calls.quiet_of_same (HO.out _)))
                go_wp2
                go_roundg g
                case measure => omega
                case rel => exact ⟨q + 1, b, by omega, rfl, HBb.out, fun i hi => by
                  by_cases e : i = q
                  · subst e; exact HE.out
                  · exact HG.out i (by omega), by rw [HWr.out]; exact ⟨_, drewN_two _ _ _⟩⟩
              · have HO := hid (oppQ x y (by omega) (by omega) true ho)
                have HE : Hid (fst xs = some (j, q)) := hid (fst_some xs j q (by rw [← HN.out]; exact hlt) (end_yes xs q j (by omega) HStt.out HSf.out (by rw [← HX.out, ← HY.out]; simpa using ho)) HG.out)
                clear ho
                go_wp2_with fail
                refine (HGx.out _).mono ?_
                rintro e w3 ⟨rfl, rfl⟩
                go_wp2
                go_quiet ((go_at_call 115; exact Calls.quiet_of_same (HO.out _)))
                go_wp2
                rw [Exit.noGoto_ret]
                go_ret2
                refine ⟨?_, ?_⟩
                · unfold fhA fhB
                  rw [HE.out]
                  show _ = Ending.returned (Value.tuple #[ptr (Q (j + 1)), ptr (Q (q + 1))])
                  rw [← HA2.out, ← HA.out]
                  rfl
                · rw [HWr.out]
                  exact ⟨_, drewN_two _ _ _⟩
            · have HSt : Hid (stp (ab y) (xs.getD j 0) = false) := hid (by unfold stp; rw [← HX.out, HXX.out, HJJ.out]; simp [c1, c2])
              have b1 : (gx == jj - 1) = false := by simpa using c1
              have b2 : (gx == jj) = false := by simpa using c2
              go_wp2_with fail
              refine (HGx.out _).mono ?_
              rintro e w3 ⟨rfl, rfl⟩
              go_wp2
              go_roundg j
              case measure => omega
              case rel => exact ⟨d, by omega, rfl, HD.out, fun i h1 h2 => by
                by_cases e : i = j
                · subst e; exact HSt.out
                · exact HS.out i (by omega) h2, rfl⟩
end Go.Proofs.Ytedajefapddekaa.hl
