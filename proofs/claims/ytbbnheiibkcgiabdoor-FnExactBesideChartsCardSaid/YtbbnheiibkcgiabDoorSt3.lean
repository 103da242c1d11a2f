/-
  TakenBy and MadeBy of both sides.
-/
import Derived.Test.YtbbnheiibkcgiabDoorSt2
namespace Go.Proofs.YtbbnheiibkcgiabDoor.st
open Go.RowKit Go.Proofs.YtbbnheiibkcgiabDoor.sl Go.Proofs.YtbbnheiibkcgiabDoor.pm Go.Proofs.YtbbnheiibkcgiabDoor.br Go.Proofs.YtbbnheiibkcgiabDoor.bw
set_option linter.unusedVariables false

theorem sF_tk {xs : List Int} (h : lst xs = true) (k : Nat) (hk : k ≤ xs.length) : 0 ≤ sF tk xs k ∧ sF tk xs k ≤ 64 := by
  have h1 := lst_parts h
  have h2 := sF_bound tk xs (fun j hj => tk_bound (h1.2 j hj)) k hk
  omega
theorem sF_md {xs : List Int} (h : lst xs = true) (k : Nat) (hk : k ≤ xs.length) : 0 ≤ sF md xs k ∧ sF md xs k ≤ 64 := by
  have h1 := lst_parts h
  have h2 := sF_bound md xs (fun j hj => by have := md_bound (h1.2 j hj); omega) k hk
  omega
theorem tkS_no {xs : List Int} (h : lst xs = false) : tkS xs = -1 := by simp [tkS, h]
theorem mdS_no {xs : List Int} (h : lst xs = false) : mdS xs = -1 := by simp [mdS, h]
theorem tkS_yes {xs : List Int} (h : lst xs = true) : tkS xs = sF tk xs xs.length := by simp only [tkS, h, if_true]; exact (sF_all tk xs).symm
theorem mdS_yes {xs : List Int} (h : lst xs = true) : mdS xs = sF md xs xs.length := by simp only [mdS, h, if_true]; exact (sF_all md xs).symm

theorem implColTaken (xs : List Int) (v : Value) (B : Nat) (w : World) (ha : Ints w B v xs) (hB : B ≤ w.heap.size) (hn : xs.length ≤ 1099511627776) (hT : stb.Tab w) :
    Calls Tryd.prog 83 #[v, .func (.func 73) #[] #[]] w fun e w' => e = .returned (.int .i64 (tkS xs)) ∧ Below w.heap.size w w' := by
  have HK := hid (fun W (h : Ints W B v xs) (hb : B ≤ W.heap.size) => implSts xs v B W h hb hn)
  have HTb := hid hT
  clear hT
  have HA := hid ha
  obtain ⟨ao, cap, hv⟩ := ints_val ha
  cases hl : lst xs
  · have HF : Hid (tkS xs = -1) := hid (tkS_no hl)
    rw [hl] at HK
    clear hl ha
    generalize xs.length = n at *
    subst hv
    go_enter Tryd.func83, Tryd.ntmps83
    go_wp2_with fail
    refine (HK.out _ HA.out hB).mono ?_
    rintro e w0 ⟨rfl, b0⟩
    have B0 := hid b0
    clear b0
    go_wp2
    go_ret
    exact ⟨by rw [HF.out]; rfl, B0.out⟩
  · have HF : Hid (tkS xs = sF tk xs xs.length) := hid (tkS_yes hl)
    rw [hl] at HK
    have HBd := hid (fun k hk => sF_tk hl k hk)
    clear hl
    rcases ha with ⟨rfl, ao2, cap2, hv2⟩ | ⟨hp, b, off, cap2, hv2, hbb, hc⟩
    · subst hv2
      clear hv
      go_enter Tryd.func83, Tryd.ntmps83
      go_wp2_with fail
      refine (HK.out _ HA.out hB).mono ?_
      rintro e w0 ⟨rfl, b0⟩
      have B0 := hid b0
      clear b0
      go_wp2
      refine wp_loop_rounds 1 ?_
      rw [rounds_succ]
      go_wp2
      go_ret
      exact ⟨by rw [HF.out]; rfl, B0.out⟩
    · subst hv2
      clear hv
      have HSu := hid (fun k hk => sF_succ tk xs k hk)
      obtain ⟨n, hnn⟩ : ∃ n, n = xs.length := ⟨_, rfl⟩
      rw [← hnn] at hp hc hn HBd HF HSu HK HA ⊢
      have HC := hid hc
      clear hnn hc
      go_enter Tryd.func83, Tryd.ntmps83
      go_wp2_with fail
      refine (HK.out _ HA.out hB).mono ?_
      rintro e w0 ⟨rfl, b0⟩
      have B0 := hid b0
      clear b0
      go_wp2
      go_loopw [5, 13] (fun t i wr => ∃ k : Nat, k ≤ n ∧ i = .int .i64 k ∧ t = .int .i64 (sF tk xs k) ∧ Below w.heap.size w wr) (fun _ i _ => n - (intOf i).toNat)
      case atStart => exact ⟨0, Nat.zero_le _, rfl, rfl, B0.out⟩
      case round =>
        obtain ⟨k, hk, rfl, rfl, hbel⟩ := hrel
        have HB := hid hbel
        clear hbel
        have hl := HBd.out k hk
        by_cases hlt : k < n
        · have h1 := (HB.out.cell (p := ⟨b, off + k, none⟩) (by show b < _; omega)).trans (HC.out k hlt)
          have HS := hid (HSu.out k hlt)
          have hx := tk_any (xs.getD k 0)
          generalize xs.getD k 0 = x at *
          generalize sF tk xs k = t at *
          have HCl := hid (show Calls Tryd.prog 73 #[.int .i64 x] wr fun e w2 => e = .returned (.int .i64 (tk x)) ∧ Below wr.heap.size wr w2 from implTaken _ _ (stb.carry HTb.out HB.out))
          generalize tk x = y at *
          go_wp2_with fail
          refine HCl.out.mono ?_
          rintro e w2 ⟨rfl, b2⟩
          have HB2 := hid (HB.out.trans (b2.mono HB.out.size))
          clear b2
          go_wp2
          go_roundw
          case rel => exact ⟨k + 1, by omega, by go_num, by rw [HS.out], HB2.out⟩
          case measure => simp [intOf]; omega
        · obtain rfl : k = n := by omega
          go_wp2
          go_ret
          exact ⟨by rw [HF.out]; rfl, HB.out⟩

theorem implTakenBy (xs : List Int) (v : Value) (B : Nat) (w : World) (ha : Ints w B v xs) (hB : B ≤ w.heap.size) (hn : xs.length ≤ 1099511627776) (hT : stb.Tab w) :
    Calls Tryd.prog 71 #[v] w fun e w' => e = .returned (.int .i64 (tkS xs)) ∧ Below w.heap.size w w' := by
  have HK := hid (implColTaken xs v B w ha hB hn hT)
  obtain ⟨ao, cap, hv⟩ := ints_val ha
  clear ha hT
  generalize tkS xs = r at *
  generalize xs.length = n at *
  subst hv
  go_enter Tryd.func71, Tryd.ntmps71
  go_wp2_with fail
  refine HK.out.mono ?_
  rintro e w1 ⟨rfl, b1⟩
  have B1 := hid b1
  clear b1
  go_wp2
  go_ret
  exact ⟨rfl, B1.out⟩

theorem specTakenBy (xs : List Int) (v : Value) (B : Nat) (w : World) (ha : Ints w B v xs) (hB : B ≤ w.heap.size) (hn : xs.length ≤ 1099511627776) :
    Calls Tryd.prog 59 #[v] w fun e w' => e = .returned (.int .i64 (tkS xs)) ∧ Below w.heap.size w w' := by
  have HK := hid (fun W (h : Ints W B v xs) (hb : B ≤ W.heap.size) => specSts xs v B W h hb hn)
  have HA := hid ha
  obtain ⟨ao, cap, hv⟩ := ints_val ha
  cases hl : lst xs
  · have HF : Hid (tkS xs = -1) := hid (tkS_no hl)
    rw [hl] at HK
    clear hl ha
    generalize xs.length = n at *
    subst hv
    go_enter Tryd.func59, Tryd.ntmps59
    go_wp2_with fail
    refine (HK.out _ HA.out hB).mono ?_
    rintro e w0 ⟨rfl, rfl⟩
    go_wp2
    go_ret
    exact ⟨by rw [HF.out]; rfl, Below.refl _ _⟩
  · have HF : Hid (tkS xs = sF tk xs xs.length) := hid (tkS_yes hl)
    rw [hl] at HK
    have HBd := hid (fun k hk => sF_tk hl k hk)
    clear hl
    rcases ha with ⟨rfl, ao2, cap2, hv2⟩ | ⟨hp, b, off, cap2, hv2, hbb, hc⟩
    · subst hv2
      clear hv
      go_enter Tryd.func59, Tryd.ntmps59
      go_wp2_with fail
      refine (HK.out _ HA.out hB).mono ?_
      rintro e w0 ⟨rfl, rfl⟩
      go_wp2
      refine wp_loop_rounds 1 ?_
      rw [rounds_succ]
      go_wp2
      go_ret
      exact ⟨by rw [HF.out]; rfl, Below.refl _ _⟩
    · subst hv2
      clear hv
      have HSu := hid (fun k hk => sF_succ tk xs k hk)
      obtain ⟨n, hnn⟩ : ∃ n, n = xs.length := ⟨_, rfl⟩
      rw [← hnn] at hp hc hn HBd HF HSu HK HA ⊢
      have HC := hid hc
      clear hnn hc
      go_enter Tryd.func59, Tryd.ntmps59
      go_wp2_with fail
      refine (HK.out _ HA.out hB).mono ?_
      rintro e w0 ⟨rfl, rfl⟩
      go_wp2
      go_loopw [3, 4] (fun t i wr => ∃ k : Nat, k ≤ n ∧ i = .int .i64 k ∧ t = .int .i64 (sF tk xs k) ∧ Below w.heap.size w wr) (fun _ i _ => n - (intOf i).toNat)
      case atStart => exact ⟨0, Nat.zero_le _, rfl, rfl, Below.refl _ _⟩
      case round =>
        obtain ⟨k, hk, rfl, rfl, hbel⟩ := hrel
        have HB := hid hbel
        clear hbel
        have hl := HBd.out k hk
        by_cases hlt : k < n
        · have h1 := (HB.out.cell (p := ⟨b, off + k, none⟩) (by show b < _; omega)).trans (HC.out k hlt)
          have HS := hid (HSu.out k hlt)
          have hx := tk_any (xs.getD k 0)
          generalize xs.getD k 0 = x at *
          generalize sF tk xs k = t at *
          have HCl := hid (show Calls Tryd.prog 62 #[.int .i64 x] wr fun e w2 => e = .returned (.int .i64 (tk x)) ∧ Below wr.heap.size wr w2 from specTaken _ _)
          generalize tk x = y at *
          go_wp2_with fail
          refine HCl.out.mono ?_
          rintro e w2 ⟨rfl, b2⟩
          have HB2 := hid (HB.out.trans (b2.mono HB.out.size))
          clear b2
          go_wp2
          go_roundw
          case rel => exact ⟨k + 1, by omega, by go_num, by rw [HS.out], HB2.out⟩
          case measure => simp [intOf]; omega
        · obtain rfl : k = n := by omega
          go_wp2
          go_ret
          exact ⟨by rw [HF.out]; rfl, HB.out⟩

theorem implColMade (xs : List Int) (v : Value) (B : Nat) (w : World) (ha : Ints w B v xs) (hB : B ≤ w.heap.size) (hn : xs.length ≤ 1099511627776) (hT : stb.Tab w) :
    Calls Tryd.prog 83 #[v, .func (.func 84) #[] #[]] w fun e w' => e = .returned (.int .i64 (mdS xs)) ∧ Below w.heap.size w w' := by
  have HK := hid (fun W (h : Ints W B v xs) (hb : B ≤ W.heap.size) => implSts xs v B W h hb hn)
  have HTb := hid hT
  clear hT
  have HA := hid ha
  obtain ⟨ao, cap, hv⟩ := ints_val ha
  cases hl : lst xs
  · have HF : Hid (mdS xs = -1) := hid (mdS_no hl)
    rw [hl] at HK
    clear hl ha
    generalize xs.length = n at *
    subst hv
    go_enter Tryd.func83, Tryd.ntmps83
    go_wp2_with fail
    refine (HK.out _ HA.out hB).mono ?_
    rintro e w0 ⟨rfl, b0⟩
    have B0 := hid b0
    clear b0
    go_wp2
    go_ret
    exact ⟨by rw [HF.out]; rfl, B0.out⟩
  · have HF : Hid (mdS xs = sF md xs xs.length) := hid (mdS_yes hl)
    rw [hl] at HK
    have HBd := hid (fun k hk => sF_md hl k hk)
    clear hl
    rcases ha with ⟨rfl, ao2, cap2, hv2⟩ | ⟨hp, b, off, cap2, hv2, hbb, hc⟩
    · subst hv2
      clear hv
      go_enter Tryd.func83, Tryd.ntmps83
      go_wp2_with fail
      refine (HK.out _ HA.out hB).mono ?_
      rintro e w0 ⟨rfl, b0⟩
      have B0 := hid b0
      clear b0
      go_wp2
      refine wp_loop_rounds 1 ?_
      rw [rounds_succ]
      go_wp2
      go_ret
      exact ⟨by rw [HF.out]; rfl, B0.out⟩
    · subst hv2
      clear hv
      have HSu := hid (fun k hk => sF_succ md xs k hk)
      obtain ⟨n, hnn⟩ : ∃ n, n = xs.length := ⟨_, rfl⟩
      rw [← hnn] at hp hc hn HBd HF HSu HK HA ⊢
      have HC := hid hc
      clear hnn hc
      go_enter Tryd.func83, Tryd.ntmps83
      go_wp2_with fail
      refine (HK.out _ HA.out hB).mono ?_
      rintro e w0 ⟨rfl, b0⟩
      have B0 := hid b0
      clear b0
      go_wp2
      go_loopw [5, 13] (fun t i wr => ∃ k : Nat, k ≤ n ∧ i = .int .i64 k ∧ t = .int .i64 (sF md xs k) ∧ Below w.heap.size w wr) (fun _ i _ => n - (intOf i).toNat)
      case atStart => exact ⟨0, Nat.zero_le _, rfl, rfl, B0.out⟩
      case round =>
        obtain ⟨k, hk, rfl, rfl, hbel⟩ := hrel
        have HB := hid hbel
        clear hbel
        have hl := HBd.out k hk
        by_cases hlt : k < n
        · have h1 := (HB.out.cell (p := ⟨b, off + k, none⟩) (by show b < _; omega)).trans (HC.out k hlt)
          have HS := hid (HSu.out k hlt)
          have hx := md_any (xs.getD k 0)
          generalize xs.getD k 0 = x at *
          generalize sF md xs k = t at *
          have HCl := hid (show Calls Tryd.prog 84 #[.int .i64 x] wr fun e w2 => e = .returned (.int .i64 (md x)) ∧ Below wr.heap.size wr w2 from implMade _ _ (stb.carry HTb.out HB.out))
          generalize md x = y at *
          go_wp2_with fail
          refine HCl.out.mono ?_
          rintro e w2 ⟨rfl, b2⟩
          have HB2 := hid (HB.out.trans (b2.mono HB.out.size))
          clear b2
          go_wp2
          go_roundw
          case rel => exact ⟨k + 1, by omega, by go_num, by rw [HS.out], HB2.out⟩
          case measure => simp [intOf]; omega
        · obtain rfl : k = n := by omega
          go_wp2
          go_ret
          exact ⟨by rw [HF.out]; rfl, HB.out⟩

theorem implMadeBy (xs : List Int) (v : Value) (B : Nat) (w : World) (ha : Ints w B v xs) (hB : B ≤ w.heap.size) (hn : xs.length ≤ 1099511627776) (hT : stb.Tab w) :
    Calls Tryd.prog 72 #[v] w fun e w' => e = .returned (.int .i64 (mdS xs)) ∧ Below w.heap.size w w' := by
  have HK := hid (implColMade xs v B w ha hB hn hT)
  obtain ⟨ao, cap, hv⟩ := ints_val ha
  clear ha hT
  generalize mdS xs = r at *
  generalize xs.length = n at *
  subst hv
  go_enter Tryd.func72, Tryd.ntmps72
  go_wp2_with fail
  refine HK.out.mono ?_
  rintro e w1 ⟨rfl, b1⟩
  have B1 := hid b1
  clear b1
  go_wp2
  go_ret
  exact ⟨rfl, B1.out⟩

end Go.Proofs.YtbbnheiibkcgiabDoor.st
