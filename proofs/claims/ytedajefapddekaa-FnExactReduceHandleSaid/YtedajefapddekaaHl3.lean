/-
  The methods of a linked word: at, indexOf, letters; linked.
-/
import Derived.Test.YtedajefapddekaaHl2
import Derived.Test.YtedajefapddekaaPAt
import Derived.Test.YtedajefapddekaaBr
import Derived.LaidEqlPtr
import Derived.Lib.Builder
namespace Go.Proofs.Ytedajefapddekaa.hl
open Go.RowKit Go.Proofs.Ytedajefapddekaa.sl Go.Proofs.Ytedajefapddekaa.br
set_option linter.unusedVariables false

theorem LW.drewN {w : World} {lo W : Nat} {Q : Nat → Nat} {xs : List Int} (h : LW w lo W Q xs) (n : Nat) : LW (w.drewN n) lo W Q xs :=
  ⟨⟨h.lst.back, h.lst.apart, h.lst.own, h.lst.nx, h.lst.pv, h.lst.lt, h.lst.bl⟩, h.c0, h.c1, h.fzW, h.ownW, h.far⟩

theorem infoL : (Try.prog.info? 103).map (fun i => i.size) = some 3 := by kernel_rfl
/-- Two nodes compared. -/
theorem neqP (w : World) (a b : Nat) (ha : Blk w a) (hb : Blk w b) : ∀ W : World, W.heap = w.heap → (binOp .neq 99 (.pointer (some ⟨a, 0, none⟩)) (.pointer (some ⟨b, 0, none⟩))).run Try.prog W = .ok (.bool (!decide (a = b))) W := by
  intro W hW
  obtain ⟨i, hi, hsz⟩ := Option.map_eq_some_iff.1 infoL
  have hsz' : i.size ≠ 0 := by rw [hsz]; decide
  by_cases e : a = b
  · subst e
    rw [Lib.run_neq_ptr_same (P := Try.prog) W _ Try.underlying99 hi]
    simp
  · obtain ⟨ca, ta, ha⟩ := ha
    obtain ⟨cb, tb, hb⟩ := hb
    rw [← hW] at ha hb
    have hne : (⟨a, 0, none⟩ : Addr) ≠ ⟨b, 0, none⟩ := fun x => e (by injection x)
    have h : ∀ d : Nat, (Op.equalIn (d + 1) 99 (.pointer (some ⟨a, 0, none⟩)) (.pointer (some ⟨b, 0, none⟩))).run Try.prog W = .ok false W := fun d => by
      simp [Op.equalIn, run_underlying Try.underlying99, sizeOf, typeInfo, hi, hsz', run_sameAddr_other W hne ha hb]
    simp only [binOp]
    simp [Op.equal, Op.maxDepth, h 9999, e]

theorem atW (lo W : Nat) (Q : Nat → Nat) (xs : List Int) (i : Nat) (hi : i < xs.length) (w : World) (h : LW w lo W Q xs) (hn : xs.length ≤ 1000000) :
    Calls Try.prog 87 #[ptr W, .int .i64 i] w fun e w' => e = .returned (ptr (Q (i + 1))) ∧ w' = w := by
  have HH := hid h
  have c0 := h.c0
  have c1 := h.lst.nx 0 (Nat.zero_le _)
  clear h
  unfold ptr at c0 c1
  obtain ⟨n, hnn⟩ : ∃ n, n = xs.length := ⟨_, rfl⟩
  rw [← hnn] at hi hn
  have HN := hid hnn
  clear hnn
  unfold ptr
  obtain ⟨p, hp⟩ : ∃ p, p = Q 0 := ⟨_, rfl⟩
  rw [← hp] at c0 c1
  clear hp
  obtain ⟨p1, hp1⟩ : ∃ p1, p1 = Q (0 + 1) := ⟨_, rfl⟩
  rw [← hp1] at c1
  have HP1 := hid hp1
  clear hp1
  obtain ⟨r, hr⟩ : ∃ r, r = Q (i + 1) := ⟨_, rfl⟩
  rw [← hr]
  have HR := hid hr
  clear hr
  go_enter Try.func87, Try.ntmps87
  go_wp2
  go_loopw [5, 14] (fun x c wr => ∃ k a : Nat, k ≤ i ∧ c = .int .i64 k ∧ x = .pointer (some ⟨a, 0, none⟩) ∧ a = Q (k + 1) ∧ wr = w) (fun _ c _ => i - (intOf c).toNat)
  case atStart => exact ⟨0, p1, Nat.zero_le _, rfl, rfl, HP1.out, rfl⟩
  case round =>
    obtain ⟨k, a, hk, rfl, rfl, ha, rfl⟩ := hrel
    by_cases hlt : k < i
    · have d1 := HH.out.lst.nx (k + 1) (by rw [← HN.out]; omega)
      unfold ptr at d1
      rw [← ha] at d1
      obtain ⟨b, hb⟩ : ∃ b, b = Q (k + 1 + 1) := ⟨_, rfl⟩
      rw [← hb] at d1
      have HB := hid hb
      clear ha hb
      go_wp2
      go_roundw
      case rel => exact ⟨k + 1, b, by omega, by go_num, rfl, HB.out, trivial⟩
      case measure => simp [intOf]; omega
    · obtain rfl : k = i := by omega
      have HA : Hid (a = r) := hid (ha.trans HR.out.symm)
      clear ha
      go_wp2
      go_ret
      exact ⟨by rw [HA.out]; rfl, rfl⟩

theorem idxW (lo W : Nat) (Q : Nat → Nat) (xs : List Int) (i : Nat) (hi : i < xs.length) (w : World) (h : LW w lo W Q xs) (hn : xs.length ≤ 1000000) :
    Calls Try.prog 82 #[ptr W, ptr (Q (i + 1))] w fun e w' => e = .returned (.int .i64 i) ∧ ∃ q, w' = w.drewN q := by
  have HH := hid h
  have c0 := h.c0
  clear h
  unfold ptr at c0
  obtain ⟨n, hnn⟩ : ∃ n, n = xs.length := ⟨_, rfl⟩
  rw [← hnn] at hi hn
  have HN := hid hnn
  clear hnn
  unfold ptr
  obtain ⟨p, hp⟩ : ∃ p, p = Q 0 := ⟨_, rfl⟩
  rw [← hp] at c0
  have HP := hid hp
  clear hp
  obtain ⟨r, hr⟩ : ∃ r, r = Q (i + 1) := ⟨_, rfl⟩
  rw [← hr]
  have HR := hid hr
  clear hr
  go_enter Try.func82, Try.ntmps82
  go_wp2
  go_loopw [1, 5] (fun x c wr => ∃ k a : Nat, k ≤ i ∧ c = .int .i64 ((i - k : Nat) : Int) ∧ x = .pointer (some ⟨a, 0, none⟩) ∧ a = Q (k + 1) ∧ ∃ q, wr = w.drewN q) (fun _ c _ => i - (intOf c).toNat)
  case atStart => exact ⟨i, r, Nat.le_refl _, by rw [Nat.sub_self]; rfl, rfl, HR.out, 0, rfl⟩
  case round =>
    obtain ⟨k, a, hk, rfl, rfl, ha, q, hwr⟩ := hrel
    have HWr := hid hwr
    clear hwr
    have d1 := HH.out.lst.pv k (by rw [← HN.out]; omega)
    unfold ptr at d1
    rw [← ha] at d1
    have HA := hid ha
    clear ha
    obtain ⟨b, hb⟩ : ∃ b, b = Q k := ⟨_, rfl⟩
    rw [← hb] at d1
    have e0 : wr.cell? ⟨W, 0, none⟩ = some (.pointer (some ⟨p, 0, none⟩)) := by rw [HWr.out]; exact c0
    have e1 : wr.cell? ⟨a, 1, none⟩ = some (.pointer (some ⟨b, 0, none⟩)) := by rw [HWr.out]; exact d1
    have HB := hid hb
    clear hb d1
    have HC := hid (neqP wr b p (by rw [HB.out]; have := HH.out.lst.bl k (by rw [← HN.out]; omega); rw [HWr.out]; exact this) (by rw [HP.out]; have := HH.out.lst.bl 0 (Nat.zero_le _); rw [HWr.out]; exact this))
    obtain ⟨m, hm⟩ : ∃ m, m = i - k := ⟨_, rfl⟩
    rw [← hm]
    have HM := hid hm
    clear hm
    by_cases hlt : 0 < k
    · have hne : ¬ b = p := fun e => HH.out.lst.far0 k hlt (by rw [← HN.out]; omega) (by rw [← HB.out, e, HP.out])
      have hm2 : m ≤ 1000000 := by have := HM.out; omega
      have hcm : (binOp .neq 99 (.pointer (some ⟨b, 0, none⟩)) (.pointer (some ⟨p, 0, none⟩))).run Try.prog wr.drew = .ok (.bool true) wr.drew := by
        rw [HC.out wr.drew rfl, decide_eq_false hne]; rfl
      go_wp2
      go_region
      go_wp2
      go_roundw
      case rel => exact ⟨k - 1, b, by omega, by have := HM.out; rw [show i - (k - 1) = m + 1 from by omega]; go_num, rfl, by rw [HB.out, show k - 1 + 1 = k from by omega], q + 1, by rw [HWr.out]; rfl⟩
      case measure => simp [intOf]; have := HM.out; omega
    · have hbp : b = p := by rw [HB.out, HP.out, show k = 0 from by omega]
      have hm2 : m = i := by have := HM.out; omega
      subst hm2
      subst hbp
      have hcm : (binOp .neq 99 (.pointer (some ⟨b, 0, none⟩)) (.pointer (some ⟨b, 0, none⟩))).run Try.prog wr.drew = .ok (.bool false) wr.drew := by
        rw [HC.out wr.drew rfl]; simp
      go_wp2
      go_region
      go_wp2
      go_ret
      exact ⟨rfl, q + 1, by rw [HWr.out]; rfl⟩
end Go.Proofs.Ytedajefapddekaa.hl
