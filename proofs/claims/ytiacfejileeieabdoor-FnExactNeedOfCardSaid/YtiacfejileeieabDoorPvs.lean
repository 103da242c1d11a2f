/-
  ValidPieces of the model.
-/
import Derived.Test.YtiacfejileeieabDoorPcm
import Derived.Test.YtiacfejileeieabDoorSt1
namespace Go.Proofs.YtiacfejileeieabDoor.pc
open Go.RowKit Go.Sort Go.Proofs.YtiacfejileeieabDoor.sl Go.Proofs.YtiacfejileeieabDoor.st
set_option linter.unusedVariables false
set_option linter.unusedSimpArgs false
set_option maxRecDepth 100000

theorem inL (c lo hi : Int) (q : Bool) (h : decide (lo ≤ c ∧ c ≤ hi) = q) (w : World) : Calls Tryd.prog 44 #[.int .i64 c, .int .i64 lo, .int .i64 hi] w fun e w' => e = .returned (.bool q) ∧ w = w' := by
  rw [← h]; exact pm.specIn c lo hi w
theorem beqD' (a b : Int) : (a == b) = decide (a = b) := by rw [Bool.eq_iff_iff]; simp
/-- The pieces from one place to another. -/
def seg (xs : List V) (fr to : Nat) : List V := (xs.take to).drop fr
theorem seg_len (xs : List V) (fr to : Nat) (h : to ≤ xs.length) : (seg xs fr to).length = to - fr := by rw [seg, List.length_drop, List.length_take, Nat.min_eq_left h]
theorem seg_at {xs : List V} {i to : Nat} (h : to ≤ xs.length) (hi : i < to) : seg xs i to = xs.getD i oz :: seg xs (i + 1) to := by
  have hl : i < (xs.take to).length := by rw [List.length_take]; omega
  rw [seg, List.drop_eq_getElem_cons hl, seg]
  congr 1
  simp [List.getD, List.getElem?_eq_getElem (show i < xs.length by omega)]
theorem seg_end (xs : List V) (to : Nat) : seg xs to to = [] := by rw [seg, List.drop_eq_nil_of_le (by rw [List.length_take]; omega)]
theorem seg_take (xs : List V) (i to m : Nat) (h : i + m ≤ to) : (seg xs i to).take m = seg xs i (i + m) := by
  rw [seg, seg, List.take_drop, List.take_take]
  congr 2; omega
theorem seg_drop (xs : List V) (i to m : Nat) : (seg xs i to).drop m = seg xs (i + m) to := by rw [seg, seg, List.drop_drop]
theorem opP_le : ∀ (n : Nat) (xs : List V), xs.length = n → opP xs ≤ n := by
  intro n
  induction n using Nat.strongRecOn with
  | _ n ih =>
    intro xs hn
    cases xs with
    | nil => rw [opP_nil]; omega
    | cons x r =>
      rw [List.length_cons] at hn
      have := ih (r.drop (ins x r)).length (by rw [List.length_drop]; omega) _ rfl
      rw [List.length_drop] at this
      rw [opP_cons]; split <;> omega
def rgC (d : Nat) (ys : List V) : Int := if arP d ys then (opP ys : Int) else 0
theorem rgC_no {d : Nat} {ys : List V} (h : arP d ys = false) : rgC d ys = 0 := by rw [rgC, h]; rfl

set_option maxHeartbeats 8000000 in
theorem specRange : ∀ (N : Nat) (xs : List V) (b off cap : Nat) (fr to d B : Nat) (w : World), to - fr = N → fr ≤ to → to ≤ xs.length → xs.length ≤ 1048576 → d ≤ 3 → (∀ j, j < xs.length → At w b (off + j * 3) (xs.getD j oz)) →
    Calls Tryd.prog 49 #[.slice (some ⟨b, off, none⟩) xs.length cap, .int .i64 (fr : Int), .int .i64 (to : Int), .int .i64 (d : Int)] w fun e w' => e = .returned (.tuple #[.int .i64 (rgC d (seg xs fr to)), .bool (arP d (seg xs fr to))]) ∧ Below w.heap.size w w' := by
  intro N
  induction N using Nat.strongRecOn with
  | _ N ih =>
  intro xs b off cap fr to d B w hN hft htl hlen hd hc
  have HIH := hid ih
  have HC := hid hc
  clear ih hc
  have HLen := hid hlen
  have HTl := hid htl
  obtain ⟨n, hnn⟩ : ∃ n, n = xs.length := ⟨_, rfl⟩
  have HN := hid hnn
  rw [← hnn] at hlen htl HC ⊢
  clear hnn
  have HGo : Hid (∀ (i m : Nat) (W : World), i + 1 + m ≤ to → fr ≤ i → d + 1 ≤ 3 → Below w.heap.size w W → Calls Tryd.prog 49 #[.slice (some ⟨b, off, none⟩) n cap, .int .i64 ((i : Int) + 1), .int .i64 ((i : Int) + 1 + (m : Int)), .int .i64 ((d : Int) + 1)] W fun e w' => e = .returned (.tuple #[.int .i64 (rgC (d + 1) ((seg xs (i + 1) to).take m)), .bool (arP (d + 1) ((seg xs (i + 1) to).take m))]) ∧ Below W.heap.size W w') := hid fun i m W h1 h2 h3 hb => by
    have := HIH.out (i + 1 + m - (i + 1)) (by omega) xs b off cap (i + 1) (i + 1 + m) (d + 1) B W rfl (by omega) (by have := HTl.out; omega) HLen.out h3 (fun j hj => (HC.out j (by rw [HN.out]; exact hj)).below hb)
    rw [seg_take xs (i + 1) to m h1, HN.out]
    exact this
  clear HIH hN
  go_enter Tryd.func49, Tryd.ntmps49
  go_wp2
  go_loopw [10, 11] (fun o i wr => ∃ (c k : Nat), fr ≤ k ∧ k ≤ to ∧ c ≤ k ∧ i = .int .i64 (k : Int) ∧ o = .int .i64 (c : Int) ∧ (arP d (seg xs fr to) = arP d (seg xs k to) ∧ opP (seg xs fr to) = c + opP (seg xs k to)) ∧ Below w.heap.size w wr) (fun _ i _ => to - (intOf i).toNat)
  case atStart => exact ⟨0, fr, Nat.le_refl _, hft, Nat.zero_le _, rfl, rfl, ⟨rfl, by omega⟩, Below.refl _ _⟩
  case round =>
    obtain ⟨c, i, hfi, hit, hci, rfl, rfl, hst, hbel⟩ := hrel
    have HB := hid hbel
    have HSt := hid hst
    clear hbel hst
    by_cases hlt : i < to
    · have hA := (HC.out i (by omega)).below HB.out
      have hsg := seg_at HTl.out hlt
      have HSl := hid (seg_len xs (i + 1) to HTl.out)
      have HSd := hid (seg_drop xs (i + 1) to)
      have HRec := hid (fun m W h1 h3 hb => HGo.out i m W h1 hfi h3 hb)
      generalize seg xs (i + 1) to = r at *
      generalize xs.getD i oz = x at *
      rw [hsg] at HSt
      have c0 := hA.c0
      have c1 := hA.c1
      have c2 := hA.c2
      have hiI : (i : Int) < (to : Int) := by omega
      have hiN : (i : Int) < (n : Int) := by omega
      have hi0 : (0 : Int) ≤ (i : Int) := by omega
      have hal := (Below.refl wr.heap.size wr).alloc (Nat.le_refl _) (.cells #[.int .i64 x.a0, .int .i64 x.a1, .int .i64 x.a2] 51)
      have HBa := hid (HB.out.trans (hal.mono HB.out.size))
      have HAr := hid (fun (q : Bool) (h : arP d (x :: r) = q) => HSt.out.1.trans h)
      clear hA hal hsg
      have HStitch := hid (fun h h1 h2 h3 => @ar_stitch d hd x r h h1 h2 h3)
      have HNoS := hid (fun h hb => @ar_no d x r h hb)
      have HGroup := hid (fun h0 h h1 h2 h3 => @ar_group d h0 x r h h1 h2 h3)
      have HNoG := hid (fun h hb => @ar_nogroup d hd x r h hb)
      obtain ⟨x0, x1, x2⟩ := x
      simp only at c0 c1 c2 HBa HStitch HNoS HGroup HNoG
      have hwi : IntKind.i64.wrap ((i : Int) + 1) = (i : Int) + 1 := IntWalk.i64_in _ (by omega)
      by_cases h12 : x0 = 12
      · subst h12
        have hw2 : IntKind.i64.wrap ((to : Int) - (i : Int)) = (to : Int) - (i : Int) := IntWalk.i64_in _ (by omega)
        have hw3 : IntKind.i64.wrap ((to : Int) - (i : Int) - 1) = (to : Int) - (i : Int) - 1 := IntWalk.i64_in _ (by omega)
        have HRl : Hid ((r.length : Int) = (to : Int) - (i : Int) - 1) := hid (by have := HSl.out; omega)
        by_cases hd3 : d < 3
        · have hd3' : ¬ (3 : Int) ≤ (d : Int) := by omega
          by_cases h1 : 0 ≤ x1 ∧ x1 ≤ 16
          · have HI1 := hid (fun W => inL x1 0 16 true (decide_eq_true h1) W)
            have HX1 := hid h1
            clear h1
            by_cases h2 : x1 = 0 ∧ 0 < d
            · have HNo : Hid (rgC d (seg xs fr to) = 0 ∧ arP d (seg xs fr to) = false) := hid (by
                have := HAr.out false (HNoG.out rfl (by rintro ⟨_, _, h, _⟩; exact h h2))
                exact ⟨rgC_no this, this⟩)
              obtain ⟨rfl, h2d⟩ := h2
              have h2d' : (0 : Int) < (d : Int) := by omega
              go_wp2_with (go_at_call 44; refine (HI1.out _).mono ?_; rintro e w1 ⟨rfl, rfl⟩)
              go_ret2
              exact ⟨by rw [HNo.out.1, HNo.out.2]; rfl, HBa.out⟩
            · by_cases h3 : 1 ≤ x2 ∧ x2 ≤ (r.length : Int)
              · have HI2 := hid (fun W => inL x2 1 ((to : Int) - (i : Int) - 1) true (by rw [← HRl.out]; exact decide_eq_true h3) W)
                obtain ⟨m, rfl⟩ := Int.eq_ofNat_of_zero_le (show 0 ≤ x2 by omega)
                have HG := hid (HGroup.out hd3 rfl HX1.out h2 h3)
                rw [Int.toNat_natCast] at HG
                have HRc := hid (fun W hb => HRec.out m W (by have := HRl.out; omega) (by omega) hb)
                have hw4 : IntKind.i64.wrap ((i : Int) + 1 + (m : Int)) = (i : Int) + 1 + (m : Int) := IntWalk.i64_in _ (by have := HRl.out; omega)
                have hw5 : IntKind.i64.wrap ((d : Int) + 1) = (d : Int) + 1 := IntWalk.i64_in _ (by have := HRl.out; omega)
                have hw6 : IntKind.i64.wrap ((i : Int) + (m : Int)) = (i : Int) + (m : Int) := IntWalk.i64_in _ (by have := HRl.out; omega)
                have hw7 : IntKind.i64.wrap ((i : Int) + (m : Int) + 1) = (i : Int) + (m : Int) + 1 := IntWalk.i64_in _ (by have := HRl.out; omega)
                have hw8 : IntKind.i64.wrap ((c : Int) + 1) = (c : Int) + 1 := IntWalk.i64_in _ (by have := HRl.out; omega)
                have hdr : r.drop m = seg xs (i + 1 + m) to := HSd.out m
                rw [hdr] at HG
                have HE := hid hdr
                clear hdr HSd HRec HGroup HNoG HStitch HNoS
                generalize rgC (d + 1) (r.take m) = rc at *
                generalize arP (d + 1) (r.take m) = q at *
                have hrl := HRl.out
                have hmr : (m : Int) ≤ (to : Int) - (i : Int) - 1 := by omega
                clear hrl
                have HX2 := hid h2
                have HX3 := hid h3
                clear h2 h3
                cases q with
                | false =>
                  have HNo : Hid (rgC d (seg xs fr to) = 0 ∧ arP d (seg xs fr to) = false) := hid (by
                    have := HAr.out false (by rw [HG.out.2.1]; rfl)
                    exact ⟨rgC_no this, this⟩)
                  by_cases hx1 : x1 = 0
                  · subst hx1
                    have hd0 : decide (0 < d) = false := decide_eq_false (fun h => HX2.out ⟨rfl, h⟩)
                    go_wp2_with fail
                    refine (HI1.out _).mono ?_
                    rintro e w1 ⟨rfl, rfl⟩
                    go_wp2_with fail
                    refine (HI2.out _).mono ?_
                    rintro e w1 ⟨rfl, rfl⟩
                    go_wp2_with (go_at_call 49; refine (HRc.out _ HBa.out).mono ?_; rintro e w2 ⟨rfl, b2⟩; have cp2 : w2.cell? ⟨wr.heap.size, 2, none⟩ = some (.int .i64 (m : Int)) := (b2.cell (p := ⟨wr.heap.size, 2, none⟩) (by simp)).trans (World.cell?_alloc_at _ _ _ _ rfl); have HB2 := hid (HBa.out.trans (b2.mono HBa.out.size)); clear b2)
                    go_ret2
                    exact ⟨by rw [HNo.out.1, HNo.out.2]; rfl, HB2.out⟩
                  · have hx1b : (x1 == 0) = false := by rw [beqD']; exact decide_eq_false hx1
                    go_wp2_with fail
                    refine (HI1.out _).mono ?_
                    rintro e w1 ⟨rfl, rfl⟩
                    go_wp2_with fail
                    refine (HI2.out _).mono ?_
                    rintro e w1 ⟨rfl, rfl⟩
                    go_wp2_with (go_at_call 49; refine (HRc.out _ HBa.out).mono ?_; rintro e w2 ⟨rfl, b2⟩; have cp2 : w2.cell? ⟨wr.heap.size, 2, none⟩ = some (.int .i64 (m : Int)) := (b2.cell (p := ⟨wr.heap.size, 2, none⟩) (by simp)).trans (World.cell?_alloc_at _ _ _ _ rfl); have HB2 := hid (HBa.out.trans (b2.mono HBa.out.size)); clear b2)
                    go_ret2
                    exact ⟨by rw [HNo.out.1, HNo.out.2]; rfl, HB2.out⟩
                | true =>
                  by_cases hx1 : x1 = 0
                  · subst hx1
                    have hd0 : decide (0 < d) = false := decide_eq_false (fun h => HX2.out ⟨rfl, h⟩)
                    have HS2 : Hid (arP d (seg xs fr to) = arP d (seg xs (i + 1 + m) to) ∧ opP (seg xs fr to) = (c + 1) + opP (seg xs (i + 1 + m) to)) := hid ⟨by rw [HSt.out.1, HG.out.2.1]; simp, by rw [HSt.out.2, HG.out.2.2]; simp; omega⟩
                    go_wp2_with fail
                    refine (HI1.out _).mono ?_
                    rintro e w1 ⟨rfl, rfl⟩
                    go_wp2_with fail
                    refine (HI2.out _).mono ?_
                    rintro e w1 ⟨rfl, rfl⟩
                    go_wp2_with (go_at_call 49; refine (HRc.out _ HBa.out).mono ?_; rintro e w2 ⟨rfl, b2⟩; have cp2 : w2.cell? ⟨wr.heap.size, 2, none⟩ = some (.int .i64 (m : Int)) := (b2.cell (p := ⟨wr.heap.size, 2, none⟩) (by simp)).trans (World.cell?_alloc_at _ _ _ _ rfl); have HB2 := hid (HBa.out.trans (b2.mono HBa.out.size)); clear b2)
                    go_roundw
                    case rel => exact ⟨c + 1, i + 1 + m, by omega, by omega, by omega, by congr 1; omega, rfl, HS2.out, HB2.out⟩
                    case measure => simp [intOf]; omega
                  · have hx1b : (x1 == 0) = false := by rw [beqD']; exact decide_eq_false hx1
                    have HS2 : Hid (arP d (seg xs fr to) = arP d (seg xs (i + 1 + m) to) ∧ opP (seg xs fr to) = c + opP (seg xs (i + 1 + m) to)) := hid ⟨by rw [HSt.out.1, HG.out.2.1]; simp, by rw [HSt.out.2, HG.out.2.2, if_neg hx1]; omega⟩
                    go_wp2_with fail
                    refine (HI1.out _).mono ?_
                    rintro e w1 ⟨rfl, rfl⟩
                    go_wp2_with fail
                    refine (HI2.out _).mono ?_
                    rintro e w1 ⟨rfl, rfl⟩
                    go_wp2_with (go_at_call 49; refine (HRc.out _ HBa.out).mono ?_; rintro e w2 ⟨rfl, b2⟩; have cp2 : w2.cell? ⟨wr.heap.size, 2, none⟩ = some (.int .i64 (m : Int)) := (b2.cell (p := ⟨wr.heap.size, 2, none⟩) (by simp)).trans (World.cell?_alloc_at _ _ _ _ rfl); have HB2 := hid (HBa.out.trans (b2.mono HBa.out.size)); clear b2)
                    go_roundw
                    case rel => exact ⟨c, i + 1 + m, by omega, by omega, by omega, by congr 1; omega, rfl, HS2.out, HB2.out⟩
                    case measure => simp [intOf]; omega
              · have HNo : Hid (rgC d (seg xs fr to) = 0 ∧ arP d (seg xs fr to) = false) := hid (by
                  have := HAr.out false (HNoG.out rfl (by rintro ⟨_, _, _, h⟩; exact h3 h))
                  exact ⟨rgC_no this, this⟩)
                have HI2 := hid (fun W => inL x2 1 ((to : Int) - (i : Int) - 1) false (by rw [← HRl.out]; exact decide_eq_false h3) W)
                have HX2 := hid h2
                clear h2 h3
                by_cases hx1 : x1 = 0
                · subst hx1
                  have hd0 : decide (0 < d) = false := decide_eq_false (fun h => HX2.out ⟨rfl, h⟩)
                  go_wp2_with fail
                  refine (HI1.out _).mono ?_
                  rintro e w1 ⟨rfl, rfl⟩
                  go_wp2_with fail
                  refine (HI2.out _).mono ?_
                  rintro e w1 ⟨rfl, rfl⟩
                  go_wp2
                  go_ret2
                  exact ⟨by rw [HNo.out.1, HNo.out.2]; rfl, HBa.out⟩
                · have hx1b : (x1 == 0) = false := by rw [beqD']; exact decide_eq_false hx1
                  go_wp2_with fail
                  refine (HI1.out _).mono ?_
                  rintro e w1 ⟨rfl, rfl⟩
                  go_wp2_with fail
                  refine (HI2.out _).mono ?_
                  rintro e w1 ⟨rfl, rfl⟩
                  go_wp2
                  go_ret2
                  exact ⟨by rw [HNo.out.1, HNo.out.2]; rfl, HBa.out⟩
          · have HNo : Hid (rgC d (seg xs fr to) = 0 ∧ arP d (seg xs fr to) = false) := hid (by
              have := HAr.out false (HNoG.out rfl (by rintro ⟨_, h, _, _⟩; exact h1 h))
              exact ⟨rgC_no this, this⟩)
            have HI1 := hid (fun W => inL x1 0 16 false (decide_eq_false h1) W)
            clear h1
            go_wp2_with (go_at_call 44; refine (HI1.out _).mono ?_; rintro e w1 ⟨rfl, rfl⟩)
            go_ret2
            exact ⟨by rw [HNo.out.1, HNo.out.2]; rfl, HBa.out⟩
        · have HNo : Hid (rgC d (seg xs fr to) = 0 ∧ arP d (seg xs fr to) = false) := hid (by
            have := HAr.out false (HNoG.out rfl (by rintro ⟨h, _, _, _⟩; exact hd3 h))
            exact ⟨rgC_no this, this⟩)
          have hd3' : (3 : Int) ≤ (d : Int) := by omega
          go_wp2
          go_ret2
          exact ⟨by rw [HNo.out.1, HNo.out.2]; rfl, HBa.out⟩
      · have h12b : (x0 == 12) = false := by rw [beqD']; exact decide_eq_false h12
        have HX := hid h12
        clear h12
        by_cases hk : knd x0 = true
        · have HK := hid (fun W => show Calls Tryd.prog 74 #[.int .i64 x0] W fun e w' => e = .returned (.bool true) ∧ W = w' from by rw [← hk]; exact st.specKind x0 W)
          by_cases h1 : 1 ≤ x1 ∧ x1 ≤ 16
          · have HI1 := hid (fun W => inL x1 1 16 true (decide_eq_true h1) W)
            by_cases h3 : x2 = 0
            · subst h3
              obtain ⟨e1, e2, e3⟩ := HStitch.out HX.out hk h1 rfl
              have HS2 : Hid (arP d (seg xs fr to) = arP d (seg xs (i + 1) to) ∧ opP (seg xs fr to) = c + opP (seg xs (i + 1) to)) := hid (by
                have h0 := HSd.out 0
                rw [List.drop_zero, Nat.add_zero] at h0
                rw [← h0, HSt.out.1, HSt.out.2, e2, e3]; exact ⟨rfl, rfl⟩)
              clear e1 e2 e3
              go_wp2_with (first | (go_at_call 74; refine (HK.out _).mono ?_; rintro e w1 ⟨rfl, rfl⟩) | (go_at_call 44; refine (HI1.out _).mono ?_; rintro e w1 ⟨rfl, rfl⟩))
              go_roundw
              case rel => exact ⟨c, i + 1, by omega, by omega, by omega, by go_num, rfl, HS2.out, HBa.out⟩
              case measure => simp [intOf]; omega
            · have HNo : Hid (rgC d (seg xs fr to) = 0 ∧ arP d (seg xs fr to) = false) := hid (by
                have := HAr.out false (HNoS.out HX.out (by rintro ⟨_, _, h⟩; exact h3 h))
                exact ⟨rgC_no this, this⟩)
              have h3b : (x2 == 0) = false := by rw [beqD']; exact decide_eq_false h3
              clear h3
              go_wp2_with (first | (go_at_call 74; refine (HK.out _).mono ?_; rintro e w1 ⟨rfl, rfl⟩) | (go_at_call 44; refine (HI1.out _).mono ?_; rintro e w1 ⟨rfl, rfl⟩))
              go_ret2
              exact ⟨by rw [HNo.out.1, HNo.out.2]; rfl, HBa.out⟩
          · have HNo : Hid (rgC d (seg xs fr to) = 0 ∧ arP d (seg xs fr to) = false) := hid (by
              have := HAr.out false (HNoS.out HX.out (by rintro ⟨_, h, _⟩; exact h1 h))
              exact ⟨rgC_no this, this⟩)
            have HI1 := hid (fun W => inL x1 1 16 false (decide_eq_false h1) W)
            clear h1
            go_wp2_with (first | (go_at_call 74; refine (HK.out _).mono ?_; rintro e w1 ⟨rfl, rfl⟩) | (go_at_call 44; refine (HI1.out _).mono ?_; rintro e w1 ⟨rfl, rfl⟩))
            go_ret2
            exact ⟨by rw [HNo.out.1, HNo.out.2]; rfl, HBa.out⟩
        · have HNo : Hid (rgC d (seg xs fr to) = 0 ∧ arP d (seg xs fr to) = false) := hid (by
            have := HAr.out false (HNoS.out HX.out (by rintro ⟨h, _, _⟩; exact hk h))
            exact ⟨rgC_no this, this⟩)
          have hkf : knd x0 = false := by simpa using hk
          have HK := hid (fun W => show Calls Tryd.prog 74 #[.int .i64 x0] W fun e w' => e = .returned (.bool false) ∧ W = w' from by rw [← hkf]; exact st.specKind x0 W)
          clear hk hkf
          go_wp2_with (go_at_call 74; refine (HK.out _).mono ?_; rintro e w1 ⟨rfl, rfl⟩)
          go_ret2
          exact ⟨by rw [HNo.out.1, HNo.out.2]; rfl, HBa.out⟩
    · obtain rfl : i = to := by omega
      have HR : Hid (rgC d (seg xs fr i) = (c : Int) ∧ arP d (seg xs fr i) = true) := hid (by
        have h1 := HSt.out.1
        have h2 := HSt.out.2
        rw [seg_end, arP_nil] at h1
        rw [seg_end, opP_nil] at h2
        exact ⟨by rw [rgC, h1, h2]; simp, h1⟩)
      go_wp2
      go_ret2
      exact ⟨by rw [HR.out.1, HR.out.2]; rfl, HB.out⟩

set_option maxHeartbeats 2000000 in
theorem specOkP (xs : List V) (v : Value) (B : Nat) (w : World) (ha : Ops w B v xs) (hq : Small xs) :
    Calls Tryd.prog 23 #[v] w fun e w' => e = .returned (.bool (okP xs)) ∧ Below w.heap.size w w' := by
  have hn := hq.len
  have HK := hid (okP_open xs)
  have HR : Hid (∃ (a : Option Addr) (cap : Nat), v = .slice a xs.length cap ∧ Calls Tryd.prog 49 #[v, .int .i64 0, .int .i64 (xs.length : Int), .int .i64 0] w fun e w' => e = .returned (.tuple #[.int .i64 (rgC 0 xs), .bool (arP 0 xs)]) ∧ Below w.heap.size w w') := hid (by
    rcases ha with ⟨rfl, ao, cap, rfl, _⟩ | ⟨hp, b, off, cap, rfl, hb, hc⟩
    · refine ⟨ao, cap, rfl, ?_⟩
      have e : rgC 0 [] = 0 := by rw [rgC, arP_nil, opP_nil]; rfl
      rw [e, arP_nil]
      go_enter Tryd.func49, Tryd.ntmps49
      go_wp2
      refine wp_loop_rounds 1 ?_
      rw [rounds_succ]
      go_wp2
      go_ret2
      exact ⟨rfl, Below.refl _ _⟩
    · refine ⟨_, cap, rfl, ?_⟩
      have := specRange (xs.length - 0) xs b off cap 0 xs.length 0 B w rfl (Nat.zero_le _) (Nat.le_refl _) hn (by omega) hc
      rw [seg, List.take_length, List.drop_zero] at this
      exact this)
  obtain ⟨a, cap, rfl, hr⟩ := HR.out
  have HRR := hid hr
  have hrg : arP 0 xs = true → rgC 0 xs = (opP xs : Int) := fun h => by rw [rgC, h]; rfl
  clear ha hq HR hr
  generalize okP xs = r at *
  generalize rgC 0 xs = z at *
  generalize arP 0 xs = q at *
  generalize opP xs = c at *
  generalize xs.length = n at *
  by_cases h24 : n ≤ 24
  · have h24' : ¬ (24 : Int) < (n : Int) := by omega
    have h24d : decide (n ≤ 24) = true := by simp; omega
    cases q with
    | false =>
      clear hrg
      go_enter Tryd.func23, Tryd.ntmps23
      go_wp2_with (go_at_call 49; refine (HRR.out).mono ?_; rintro e w1 ⟨rfl, b1⟩; have B1 := hid b1; clear b1)
      go_ret
      exact ⟨by rw [HK.out, h24d]; rfl, B1.out⟩
    | true =>
      have Hz := hid (hrg rfl)
      clear hrg
      go_enter Tryd.func23, Tryd.ntmps23
      go_wp2_with (go_at_call 49; refine (HRR.out).mono ?_; rintro e w1 ⟨rfl, b1⟩; have B1 := hid b1; clear b1)
      go_ret
      refine ⟨?_, B1.out⟩
      have e : decide (z ≤ 1) = decide (c ≤ 1) := by rw [Hz.out, Bool.eq_iff_iff]; simp; omega
      rw [HK.out, h24d]
      show Ending.returned (.bool (decide (z ≤ 1))) = Ending.returned (.bool (true && (true && decide (c ≤ 1))))
      rw [e]; rfl
  · have h24' : (24 : Int) < (n : Int) := by omega
    have h24d : decide (n ≤ 24) = false := by simp; omega
    go_enter Tryd.func23, Tryd.ntmps23
    go_wp2
    go_ret
    exact ⟨by rw [HK.out, h24d]; rfl, Below.refl _ _⟩

end Go.Proofs.YtiacfejileeieabDoor.pc
