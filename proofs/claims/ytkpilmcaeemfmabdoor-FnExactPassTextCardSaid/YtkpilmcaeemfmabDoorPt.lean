/-
  PassText of both sides.
-/
import Derived.Test.YtkpilmcaeemfmabDoorLaid
import Derived.Test.YtkpilmcaeemfmabDoorVps
import Derived.Laws.Concat
import Derived.Lib.QuietBelow
namespace Go.Proofs.YtkpilmcaeemfmabDoor.pt
open Go.RowKit Go.Sort Go.Proofs.YtkpilmcaeemfmabDoor.nd Go.Proofs.YtkpilmcaeemfmabDoor.sl Go.Proofs.YtkpilmcaeemfmabDoor.vo Go.Proofs.YtkpilmcaeemfmabDoor.vp
set_option linter.unusedVariables false
set_option linter.unusedSimpArgs false

def num (t : Int) : ByteArray := ⟨(Lib.itoa t).toArray⟩
theorem num_size (t : Int) (h0 : -9223372036854775808 ≤ t) (h1 : t ≤ 9223372036854775807) : (num t).size ≤ 21 := by
  have h : (Lib.itoa t).length ≤ 21 := by
    have hd : (Lib.decDigits t.natAbs).length ≤ 20 := by
      by_cases hz : t.natAbs = 0
      · rw [hz, Lib.decDigits, dif_pos (by decide)]; simp
      · have := dc.dig_len t.natAbs (by omega)
        rwa [dc.dig, if_neg hz] at this
    rw [Lib.itoa]
    split
    · rw [List.length_cons]; omega
    · have e : t.toNat = t.natAbs := by omega
      rw [e]; omega
  show (Lib.itoa t).toArray.size ≤ 21
  simpa using h
theorem addS (s t : ByteArray) (n m : Nat) (hs : s.size ≤ n) (ht : t.size ≤ m) (hnm : n + m ≤ 1000) :
    ∃ u : ByteArray, u = s ++ t ∧ u.size ≤ n + m ∧ ∀ w, (Op.stringOp .add s t).run Tryd.prog w = .ok (.string u) w :=
  ⟨s ++ t, rfl, by rw [ByteArray.size_append]; omega, fun w => run_string_add_sum w s t (by first | omega | (unfold maxLen; omega))⟩

def dirS (c : Int) : ByteArray := if c = 1 then ⟨#[62]⟩ else ⟨#[60]⟩
def pname (a c d : Int) : ByteArray := if a = 1 then ((⟨#[121, 97, 114, 110, 32]⟩ ++ dirS c) ++ ⟨#[32]⟩) ++ num d else if a = 2 then ⟨#[120, 102, 101, 114]⟩ else ⟨#[100, 114, 111, 112]⟩
def tailT (o : ByteArray) (g h l : Int) : ByteArray := (((((o ++ ⟨#[32, 114, 97, 99, 107, 32]⟩) ++ num g) ++ ⟨#[32, 111, 112, 115, 32]⟩) ++ num h) ++ ⟨#[32, 116, 111, 32]⟩) ++ num l
def ptext (a c d g h k : Int) : ByteArray := if passB a c d g h k then tailT (pname a c d) g h (h + k - 1) else ⟨#[]⟩
theorem dirS_size (c : Int) : (dirS c).size ≤ 1 := by unfold dirS; split <;> exact Nat.le_refl _
theorem pass_parts {a c d g h k : Int} (hb : passB a c d g h k = true) : (-3 ≤ g ∧ g ≤ 3) ∧ (0 ≤ h ∧ h ≤ 1499) ∧ (1 ≤ k ∧ k ≤ 1500 - h) ∧ (a = 1 ∧ (c = 1 ∨ c = -1) ∧ (1 ≤ d ∧ d ≤ 4) ∨ a = 2 ∨ a = 3) := by
  simp only [passB, Bool.and_eq_true, decide_eq_true_eq] at hb
  obtain ⟨⟨⟨h1, h2⟩, h3⟩, h4⟩ := hb
  refine ⟨h1, h2, h3, ?_⟩
  split at h4
  · rename_i ha
    simp [dirB, carB] at h4
    exact .inl ⟨ha, h4⟩
  · simp at h4
    right; omega

theorem specDirS (c : Int) (w : World) : Calls Tryd.prog 8 #[.int .i64 c] w fun e w' => e = .returned (.string (dirS c)) ∧ Below w.heap.size w w' := by
  by_cases h : c = 1
  · subst h
    go_enter Tryd.func8, Tryd.ntmps8
    go_wp2
    go_ret
    exact ⟨rfl, Below.refl _ _⟩
  · have hb : (c == 1) = false := by simpa using h
    have HD : Hid (dirS c = ⟨#[60]⟩) := hid (by rw [dirS, if_neg h])
    go_enter Tryd.func8, Tryd.ntmps8
    go_wp2
    go_ret
    exact ⟨by rw [HD.out]; rfl, Below.refl _ _⟩
theorem implArrow (c : Int) (hc : c = 1 ∨ c = -1) (w : World) : Calls Tryd.prog 21 #[.int .i64 c] w fun e w' => e = .returned (.int .i32 (if c = 1 then 62 else 60)) ∧ w = w' := by
  rcases hc with rfl | rfl <;>
  (go_enter Tryd.func21, Tryd.ntmps21
   go_wp2
   go_ret
   exact ⟨rfl, rfl⟩)
theorem implDirS (c : Int) (hc : c = 1 ∨ c = -1) (w : World) : Calls Tryd.prog 19 #[.int .i64 c] w fun e w' => e = .returned (.string (dirS c)) ∧ Below w.heap.size w w' := by
  have HA := hid (implArrow c hc)
  rcases hc with rfl | rfl
  · go_enter Tryd.func19, Tryd.ntmps19
    go_wp2_with (go_at_call 21; refine (HA.out _).mono ?_; rintro e w' ⟨rfl, rfl⟩)
    go_ret
    exact ⟨rfl, Below.refl _ _⟩
  · go_enter Tryd.func19, Tryd.ntmps19
    go_wp2_with (go_at_call 21; refine (HA.out _).mono ?_; rintro e w' ⟨rfl, rfl⟩)
    go_ret
    exact ⟨rfl, Below.refl _ _⟩

/-- The name's text, one addition after the other. -/
theorem nameAdds (c d : Int) (hd : 1 ≤ d ∧ d ≤ 4) : ∃ u1 u2 u3 : ByteArray, u3 = pname 1 c d ∧ u3.size ≤ 28 ∧ (∀ w, (Op.stringOp .add ⟨#[121, 97, 114, 110, 32]⟩ (dirS c)).run Tryd.prog w = .ok (.string u1) w) ∧ (∀ w, (Op.stringOp .add u1 ⟨#[32]⟩).run Tryd.prog w = .ok (.string u2) w) ∧ (∀ w, (Op.stringOp .add u2 (num d)).run Tryd.prog w = .ok (.string u3) w) := by
  obtain ⟨u1, e1, z1, r1⟩ := addS ⟨#[121, 97, 114, 110, 32]⟩ (dirS c) 5 1 (Nat.le_refl _) (dirS_size c) (by omega)
  obtain ⟨u2, e2, z2, r2⟩ := addS u1 ⟨#[32]⟩ 6 1 z1 (Nat.le_refl _) (by omega)
  obtain ⟨u3, e3, z3, r3⟩ := addS u2 (num d) 7 21 z2 (num_size d (by omega) (by omega)) (by omega)
  exact ⟨u1, u2, u3, by rw [e3, e2, e1, pname, if_pos rfl], z3, r1, r2, r3⟩
theorem tailAdds (o : ByteArray) (ho : o.size ≤ 28) (g h l : Int) (hg : -3 ≤ g ∧ g ≤ 3) (hh : 0 ≤ h ∧ h ≤ 1499) (hl : 0 ≤ l ∧ l ≤ 3000) : ∃ u1 u2 u3 u4 u5 u6 : ByteArray, u6 = tailT o g h l ∧ (∀ w, (Op.stringOp .add o ⟨#[32, 114, 97, 99, 107, 32]⟩).run Tryd.prog w = .ok (.string u1) w) ∧ (∀ w, (Op.stringOp .add u1 (num g)).run Tryd.prog w = .ok (.string u2) w) ∧
    (∀ w, (Op.stringOp .add u2 ⟨#[32, 111, 112, 115, 32]⟩).run Tryd.prog w = .ok (.string u3) w) ∧ (∀ w, (Op.stringOp .add u3 (num h)).run Tryd.prog w = .ok (.string u4) w) ∧ (∀ w, (Op.stringOp .add u4 ⟨#[32, 116, 111, 32]⟩).run Tryd.prog w = .ok (.string u5) w) ∧ (∀ w, (Op.stringOp .add u5 (num l)).run Tryd.prog w = .ok (.string u6) w) := by
  obtain ⟨u1, e1, z1, r1⟩ := addS o ⟨#[32, 114, 97, 99, 107, 32]⟩ 28 6 ho (Nat.le_refl _) (by omega)
  obtain ⟨u2, e2, z2, r2⟩ := addS u1 (num g) 34 21 z1 (num_size g (by omega) (by omega)) (by omega)
  obtain ⟨u3, e3, z3, r3⟩ := addS u2 ⟨#[32, 111, 112, 115, 32]⟩ 55 5 z2 (Nat.le_refl _) (by omega)
  obtain ⟨u4, e4, z4, r4⟩ := addS u3 (num h) 60 21 z3 (num_size h (by omega) (by omega)) (by omega)
  obtain ⟨u5, e5, z5, r5⟩ := addS u4 ⟨#[32, 116, 111, 32]⟩ 81 4 z4 (Nat.le_refl _) (by omega)
  obtain ⟨u6, e6, z6, r6⟩ := addS u5 (num l) 85 21 z5 (num_size l (by omega) (by omega)) (by omega)
  exact ⟨u1, u2, u3, u4, u5, u6, by rw [e6, e5, e4, e3, e2, e1, tailT], r1, r2, r3, r4, r5, r6⟩

theorem PAt.new (a c d g h k : Int) (w : World) : PAt (w.alloc (.cells #[.int .i64 a, .int .i64 c, .int .i64 d, .int .i64 g, .int .i64 h, .int .i64 k] 25)) w.heap.size a c d g h k :=
  ⟨World.cell?_alloc_at _ _ _ _ rfl, World.cell?_alloc_at _ _ _ _ rfl, World.cell?_alloc_at _ _ _ _ rfl, World.cell?_alloc_at _ _ _ _ rfl, World.cell?_alloc_at _ _ _ _ rfl, World.cell?_alloc_at _ _ _ _ rfl⟩
theorem PAt.below {w w' : World} {p : Nat} {a c d g h k : Int} (H : PAt w p a c d g h k) (b : Below w.heap.size w w') : PAt w' p a c d g h k := by
  have e : ∀ q v, w.cell? ⟨p, q, none⟩ = some v → w'.cell? ⟨p, q, none⟩ = some v := fun q v hv => (b.cell (p := ⟨p, q, none⟩) (World.block_lt_of_cell? w _ hv)).trans hv
  exact ⟨e _ _ H.c0, e _ _ H.c1, e _ _ H.c2, e _ _ H.c3, e _ _ H.c4, e _ _ H.c5⟩

set_option maxRecDepth 100000 in
set_option maxHeartbeats 1000000 in
theorem implName (a c d g h k : Int) (hp : a = 1 ∧ (c = 1 ∨ c = -1) ∧ (1 ≤ d ∧ d ≤ 4) ∨ a = 2 ∨ a = 3) (w : World) (hT : Lib.TabIs Tryd.prog w "internal/strconv.uint64pow10" .u64 Lib.pow10Tab) :
    Calls Tryd.prog 11 #[.agg #[.int .i64 a, .int .i64 c, .int .i64 d, .int .i64 g, .int .i64 h, .int .i64 k]] w fun e w' => e = .returned (.string (pname a c d)) ∧ Below w.heap.size w w' := by
  have bE := (Below.refl w.heap.size w).alloc (Nat.le_refl _) (.cells #[.int .i64 a, .int .i64 c, .int .i64 d, .int .i64 g, .int .i64 h, .int .i64 k] 25)
  have mixed : Tryd.prog.follows .mixedOrders = true := by kernel_rfl
  rcases hp with ⟨rfl, hc, hd⟩ | rfl | rfl
  · have H1 := PAt.new 1 c d g h k w
    have HT := hid (lt.carry hT bE)
    obtain ⟨u1, u2, u3, e3, z3, r1, r2, r3⟩ := nameAdds c d hd
    have HD := hid (fun W => implDirS c hc W)
    have HN := hid (fun W (t : Lib.TabIs Tryd.prog W "internal/strconv.uint64pow10" .u64 Lib.pow10Tab) => show Calls Tryd.prog 12 #[.int .i64 d] W fun e w' => e = .returned (.string (num d)) ∧ Below W.heap.size W w' from lt.implDecimal d W (by omega) (by omega) t)
    rw [← e3]
    clear e3 z3 hd hc hT
    generalize num d = nd at *
    generalize dirS c = sc at *
    have BE := hid bE
    clear bE
    go_enter Tryd.func11, Tryd.ntmps11
    go_wp2_with fail
    generalize w.alloc (.cells #[.int .i64 1, .int .i64 c, .int .i64 d, .int .i64 g, .int .i64 h, .int .i64 k] 25) = W0 at *
    have g1 := fun d os => cell_regrown H1.c1 d os
    have g2 := fun d os => cell_regrown H1.c2 d os
    clear H1
    refine wp_region_quiet_below mixed (by kernel_rfl) ?_
    repeat (go_big_quiet_step ((first | (go_at_call 19; exact Calls.regrown_of (HD.out _)) | (go_at_call 12; exact Calls.regrown_of (HN.out _ (lt.carry HT.out (below_regrown _ _ _)))))))
    refine wpQuiet_nil ?_
    intro _ hw'
    obtain ⟨⟨nq, osq⟩, hw''⟩ := hw'
    subst hw''
    go_wp2
    go_ret
    exact ⟨rfl, BE.out.trans ((below_regrown _ _ _).mono BE.out.size)⟩
  · go_enter Tryd.func11, Tryd.ntmps11
    go_wp2
    go_ret
    exact ⟨rfl, bE⟩
  · go_enter Tryd.func11, Tryd.ntmps11
    go_wp2
    go_ret
    exact ⟨rfl, bE⟩
theorem pname_size {a c d : Int} (hp : a = 1 ∧ (c = 1 ∨ c = -1) ∧ (1 ≤ d ∧ d ≤ 4) ∨ a = 2 ∨ a = 3) : (pname a c d).size ≤ 28 := by
  rcases hp with ⟨rfl, hc, hd⟩ | rfl | rfl
  · obtain ⟨u1, u2, u3, e3, z3, _⟩ := nameAdds c d hd
    rw [← e3]; exact z3
  · show 4 ≤ 28; decide
  · show 4 ≤ 28; decide

set_option maxRecDepth 100000 in
set_option maxHeartbeats 1000000 in
theorem implPT (a c d g h k : Int) (w : World) (hT : Lib.TabIs Tryd.prog w "internal/strconv.uint64pow10" .u64 Lib.pow10Tab) :
    Calls Tryd.prog 6 #[.agg #[.int .i64 a, .int .i64 c, .int .i64 d, .int .i64 g, .int .i64 h, .int .i64 k]] w fun e w' => e = .returned (.string (ptext a c d g h k)) ∧ Below w.heap.size w w' := by
  have bE := (Below.refl w.heap.size w).alloc (Nat.le_refl _) (.cells #[.int .i64 a, .int .i64 c, .int .i64 d, .int .i64 g, .int .i64 h, .int .i64 k] 25)
  have mixed : Tryd.prog.follows .mixedOrders = true := by kernel_rfl
  have H1 := PAt.new a c d g h k w
  have HV := hid (fun W => implOk a c d g h k W)
  have HT := hid (lt.carry hT bE)
  clear hT
  obtain ⟨q, hq⟩ : ∃ q, q = passB a c d g h k := ⟨_, rfl⟩
  rw [← hq] at HV
  cases q with
  | false =>
    have HX : Hid (ptext a c d g h k = ⟨#[]⟩) := hid (by rw [ptext, ← hq]; rfl)
    clear hq
    go_enter Tryd.func6, Tryd.ntmps6
    go_wp2_with fail
    generalize w.alloc (.cells #[.int .i64 a, .int .i64 c, .int .i64 d, .int .i64 g, .int .i64 h, .int .i64 k] 25) = W0 at *
    refine (HV.out _).mono ?_
    rintro e w1 ⟨rfl, b1⟩
    have HB := hid (bE.trans (b1.mono bE.size))
    clear b1 bE
    go_wp2
    go_ret
    exact ⟨by rw [HX.out]; first | done | rfl, HB.out⟩
  | true =>
    have HX : Hid (ptext a c d g h k = tailT (pname a c d) g h (h + k - 1)) := hid (by rw [ptext, ← hq]; rfl)
    obtain ⟨hg, hh, hk, hp⟩ := pass_parts hq.symm
    obtain ⟨u1, u2, u3, u4, u5, u6, e6, r1, r2, r3, r4, r5, r6⟩ := tailAdds (pname a c d) (pname_size hp) g h (h + k - 1) hg hh (by omega)
    have HNm := hid (fun W (t : Lib.TabIs Tryd.prog W "internal/strconv.uint64pow10" .u64 Lib.pow10Tab) => implName a c d g h k hp W t)
    have HNg := hid (fun W (t : Lib.TabIs Tryd.prog W "internal/strconv.uint64pow10" .u64 Lib.pow10Tab) => show Calls Tryd.prog 12 #[.int .i64 g] W fun e w' => e = .returned (.string (num g)) ∧ Below W.heap.size W w' from lt.implDecimal g W (by omega) (by omega) t)
    have HNh := hid (fun W (t : Lib.TabIs Tryd.prog W "internal/strconv.uint64pow10" .u64 Lib.pow10Tab) => show Calls Tryd.prog 12 #[.int .i64 h] W fun e w' => e = .returned (.string (num h)) ∧ Below W.heap.size W w' from lt.implDecimal h W (by omega) (by omega) t)
    have HNl := hid (fun W (t : Lib.TabIs Tryd.prog W "internal/strconv.uint64pow10" .u64 Lib.pow10Tab) => show Calls Tryd.prog 12 #[.int .i64 (h + k - 1)] W fun e w' => e = .returned (.string (num (h + k - 1))) ∧ Below W.heap.size W w' from lt.implDecimal (h + k - 1) W (by omega) (by omega) t)
    have w1' : IntKind.i64.wrap (h + k) = h + k := by rw [IntKind.wrap_i64]; omega
    have w2' : IntKind.i64.wrap (h + k - 1) = h + k - 1 := by rw [IntKind.wrap_i64]; omega
    rw [← e6] at HX
    clear hq e6 hp
    generalize pname a c d = nm at *
    generalize num g = ng at *
    generalize num h = nh at *
    generalize num (h + k - 1) = nl at *
    go_enter Tryd.func6, Tryd.ntmps6
    go_wp2_with fail
    generalize w.alloc (.cells #[.int .i64 a, .int .i64 c, .int .i64 d, .int .i64 g, .int .i64 h, .int .i64 k] 25) = W0 at *
    refine (HV.out _).mono ?_
    rintro e w1 ⟨rfl, b1⟩
    have H2 := PAt.below H1 b1
    have HT1 := hid (lt.carry HT.out b1)
    have HB := hid (bE.trans (b1.mono bE.size))
    clear b1 bE HV H1 HT
    go_wp2_with fail
    have g0 := fun d os => cell_regrown H2.c0 d os
    have g1 := fun d os => cell_regrown H2.c1 d os
    have g2 := fun d os => cell_regrown H2.c2 d os
    have g3 := fun d os => cell_regrown H2.c3 d os
    have g4 := fun d os => cell_regrown H2.c4 d os
    have g5 := fun d os => cell_regrown H2.c5 d os
    clear H2
    refine wp_region_quiet_below mixed (by kernel_rfl) ?_
    repeat (go_big_quiet_step ((first | (go_at_call 11; exact Calls.regrown_of (HNm.out _ (lt.carry HT1.out (below_regrown _ _ _)))) | (go_at_call_of 12 (Value.int .i64 g); exact Calls.regrown_of (HNg.out _ (lt.carry HT1.out (below_regrown _ _ _)))) | (go_at_call_of 12 (Value.int .i64 h); exact Calls.regrown_of (HNh.out _ (lt.carry HT1.out (below_regrown _ _ _)))) | (go_at_call 12; exact Calls.regrown_of (HNl.out _ (lt.carry HT1.out (below_regrown _ _ _)))))))
    refine wpQuiet_nil ?_
    intro _ hw'
    obtain ⟨⟨nq, osq⟩, hw''⟩ := hw'
    subst hw''
    go_wp2
    go_ret
    exact ⟨by rw [HX.out]; first | done | rfl, HB.out.trans ((below_regrown _ _ _).mono HB.out.size)⟩

set_option maxRecDepth 100000 in
set_option maxHeartbeats 2000000 in
theorem specPT (a c d g h k : Int) (w : World) :
    Calls Tryd.prog 4 #[.agg #[.int .i64 a, .int .i64 c, .int .i64 d, .int .i64 g, .int .i64 h, .int .i64 k]] w fun e w' => e = .returned (.string (ptext a c d g h k)) ∧ Below w.heap.size w w' := by
  have bE := (Below.refl w.heap.size w).alloc (Nat.le_refl _) (.cells #[.int .i64 a, .int .i64 c, .int .i64 d, .int .i64 g, .int .i64 h, .int .i64 k] 25)
  have mixed : Tryd.prog.follows .mixedOrders = true := by kernel_rfl
  have H1 := PAt.new a c d g h k w
  have HV := hid (specOk a c d g h k w.heap.size _ H1)
  obtain ⟨q, hq⟩ : ∃ q, q = passB a c d g h k := ⟨_, rfl⟩
  rw [← hq] at HV
  cases q with
  | false =>
    have HX : Hid (ptext a c d g h k = ⟨#[]⟩) := hid (by rw [ptext, ← hq]; rfl)
    clear hq
    go_enter Tryd.func4, Tryd.ntmps4
    go_wp2_with fail
    generalize w.alloc (.cells #[.int .i64 a, .int .i64 c, .int .i64 d, .int .i64 g, .int .i64 h, .int .i64 k] 25) = W0 at *
    refine HV.out.mono ?_
    rintro e w1 ⟨rfl, b1⟩
    have HB := hid (bE.trans (b1.mono bE.size))
    clear b1 bE
    go_wp2
    go_ret
    exact ⟨by rw [HX.out]; first | done | rfl, HB.out⟩
  | true =>
    have HX : Hid (ptext a c d g h k = tailT (pname a c d) g h (h + k - 1)) := hid (by rw [ptext, ← hq]; rfl)
    obtain ⟨hg, hh, hk, hp⟩ := pass_parts hq.symm
    obtain ⟨u1, u2, u3, u4, u5, u6, e6, r1, r2, r3, r4, r5, r6⟩ := tailAdds (pname a c d) (pname_size hp) g h (h + k - 1) hg hh (by omega)
    have HNg := hid (fun W => show Calls Tryd.prog 9 #[.int .i64 g] W fun e w' => e = .returned (.string (num g)) ∧ Below W.heap.size W w' from dc.dec g W (by omega) (by omega))
    have HNh := hid (fun W => show Calls Tryd.prog 9 #[.int .i64 h] W fun e w' => e = .returned (.string (num h)) ∧ Below W.heap.size W w' from dc.dec h W (by omega) (by omega))
    have HNl := hid (fun W => show Calls Tryd.prog 9 #[.int .i64 (h + k - 1)] W fun e w' => e = .returned (.string (num (h + k - 1))) ∧ Below W.heap.size W w' from dc.dec (h + k - 1) W (by omega) (by omega))
    have w1' : IntKind.i64.wrap (h + k) = h + k := by rw [IntKind.wrap_i64]; omega
    have w2' : IntKind.i64.wrap (h + k - 1) = h + k - 1 := by rw [IntKind.wrap_i64]; omega
    rw [← e6] at HX
    clear hq e6
    generalize num g = ng at *
    generalize num h = nh at *
    generalize num (h + k - 1) = nl at *
    rcases hp with ⟨rfl, hc, hd⟩ | rfl | rfl
    · obtain ⟨v1, v2, v3, f3, z3, s1, s2, s3⟩ := nameAdds c d hd
      rw [← f3] at r1
      have HND := hid (fun W => show Calls Tryd.prog 9 #[.int .i64 d] W fun e w' => e = .returned (.string (num d)) ∧ Below W.heap.size W w' from dc.dec d W (by omega) (by omega))
      have HD := hid (fun W => specDirS c W)
      generalize num d = nd at *
      generalize dirS c = sc at *
      clear f3 z3
      go_enter Tryd.func4, Tryd.ntmps4
      go_wp2_with fail
      generalize w.alloc (.cells #[.int .i64 1, .int .i64 c, .int .i64 d, .int .i64 g, .int .i64 h, .int .i64 k] 25) = W0 at *
      refine HV.out.mono ?_
      rintro e w1 ⟨rfl, b1⟩
      have H2 := PAt.below H1 b1
      have HB := hid (bE.trans (b1.mono bE.size))
      clear b1 bE HV H1
      have h20 := H2.c0
      go_wp2_with fail
      clear h20
      have g1 := fun d os => cell_regrown H2.c1 d os
      have g2 := fun d os => cell_regrown H2.c2 d os
      refine wp_region_quiet_below mixed (by kernel_rfl) ?_
      repeat (go_big_quiet_step ((first | (go_at_call 8; exact Calls.regrown_of (HD.out _)) | (go_at_call 9; exact Calls.regrown_of (HND.out _)))))
      refine wpQuiet_nil ?_
      intro _ hw'
      obtain ⟨⟨nq, osq⟩, hw''⟩ := hw'
      subst hw''
      clear g1 g2 s1 s2 s3
      have H3 := PAt.below H2 (below_regrown w1 nq osq)
      have HB2 := hid (HB.out.trans ((below_regrown w1 nq osq).mono HB.out.size))
      clear H2 HB
      generalize grow (redrawn w1 nq) osq = w2 at *
      go_wp2_with fail
      have g3 := fun d os => cell_regrown H3.c3 d os
      have g4 := fun d os => cell_regrown H3.c4 d os
      have g5 := fun d os => cell_regrown H3.c5 d os
      clear H3
      refine wp_region_quiet_below mixed (by kernel_rfl) ?_
      repeat (go_big_quiet_step ((first | (go_at_call_of 9 (Value.int .i64 g); exact Calls.regrown_of (HNg.out _)) | (go_at_call_of 9 (Value.int .i64 h); exact Calls.regrown_of (HNh.out _)) | (go_at_call 9; exact Calls.regrown_of (HNl.out _)))))
      refine wpQuiet_nil ?_
      intro _ hw'
      obtain ⟨⟨nq, osq⟩, hw''⟩ := hw'
      subst hw''
      go_wp2
      go_ret
      exact ⟨by rw [HX.out]; first | done | rfl, HB2.out.trans ((below_regrown _ _ _).mono HB2.out.size)⟩
    · have hnm : pname 2 c d = ⟨#[120, 102, 101, 114]⟩ := rfl
      rw [hnm] at r1
      clear hnm
      go_enter Tryd.func4, Tryd.ntmps4
      go_wp2_with fail
      generalize w.alloc (.cells #[.int .i64 2, .int .i64 c, .int .i64 d, .int .i64 g, .int .i64 h, .int .i64 k] 25) = W0 at *
      refine HV.out.mono ?_
      rintro e w1 ⟨rfl, b1⟩
      have H2 := PAt.below H1 b1
      have HB2 := hid (bE.trans (b1.mono bE.size))
      clear b1 bE HV H1
      have h20 := H2.c0
      go_wp2_with fail
      clear h20
      have g3 := fun d os => cell_regrown H2.c3 d os
      have g4 := fun d os => cell_regrown H2.c4 d os
      have g5 := fun d os => cell_regrown H2.c5 d os
      clear H2
      refine wp_region_quiet_below mixed (by kernel_rfl) ?_
      repeat (go_big_quiet_step ((first | (go_at_call_of 9 (Value.int .i64 g); exact Calls.regrown_of (HNg.out _)) | (go_at_call_of 9 (Value.int .i64 h); exact Calls.regrown_of (HNh.out _)) | (go_at_call 9; exact Calls.regrown_of (HNl.out _)))))
      refine wpQuiet_nil ?_
      intro _ hw'
      obtain ⟨⟨nq, osq⟩, hw''⟩ := hw'
      subst hw''
      go_wp2
      go_ret
      exact ⟨by rw [HX.out]; first | done | rfl, HB2.out.trans ((below_regrown _ _ _).mono HB2.out.size)⟩
    · have hnm : pname 3 c d = ⟨#[100, 114, 111, 112]⟩ := rfl
      rw [hnm] at r1
      clear hnm
      go_enter Tryd.func4, Tryd.ntmps4
      go_wp2_with fail
      generalize w.alloc (.cells #[.int .i64 3, .int .i64 c, .int .i64 d, .int .i64 g, .int .i64 h, .int .i64 k] 25) = W0 at *
      refine HV.out.mono ?_
      rintro e w1 ⟨rfl, b1⟩
      have H2 := PAt.below H1 b1
      have HB2 := hid (bE.trans (b1.mono bE.size))
      clear b1 bE HV H1
      have h20 := H2.c0
      go_wp2_with fail
      clear h20
      have g3 := fun d os => cell_regrown H2.c3 d os
      have g4 := fun d os => cell_regrown H2.c4 d os
      have g5 := fun d os => cell_regrown H2.c5 d os
      clear H2
      refine wp_region_quiet_below mixed (by kernel_rfl) ?_
      repeat (go_big_quiet_step ((first | (go_at_call_of 9 (Value.int .i64 g); exact Calls.regrown_of (HNg.out _)) | (go_at_call_of 9 (Value.int .i64 h); exact Calls.regrown_of (HNh.out _)) | (go_at_call 9; exact Calls.regrown_of (HNl.out _)))))
      refine wpQuiet_nil ?_
      intro _ hw'
      obtain ⟨⟨nq, osq⟩, hw''⟩ := hw'
      subst hw''
      go_wp2
      go_ret
      exact ⟨by rw [HX.out]; first | done | rfl, HB2.out.trans ((below_regrown _ _ _).mono HB2.out.size)⟩
end Go.Proofs.YtkpilmcaeemfmabDoor.pt
