/-
  ReadStitches and KindOf of the program.
-/
import Derived.Test.YtglkchcfggclaabDoorKd1
namespace Go.Proofs.YtglkchcfggclaabDoor.kd
open Go.RowKit Go.Sort Go.Maps Go.Proofs.YtglkchcfggclaabDoor.sl Go.Proofs.YtglkchcfggclaabDoor.st
set_option linter.unusedVariables false
set_option linter.unusedSimpArgs false

/-- append(out, x): what it leaves of other memory. -/
theorem wp_append1I {ops : Array Oper} {rest : List Oper} {o : Oper} {a : Act} {Q : Exit → Act → World → Prop} {w : World} (hgd : o.guard = none) (s x : Operand)
    (hop : o.op = .call { callee := .builtin .append, args := #[s, x], argTypes := #[24, 24] })
    (lo hi : Nat) (v : Value) (xs : List Int) (x0 : Int) (ho : sl.Own w lo hi v xs) (hs : a.eval s = v) (hx : a.eval x = .slice (some ⟨w.heap.size, 0, none⟩) 1 1) (hlo : lo ≤ w.heap.size) (hn : xs.length ≤ 1048576)
    (hK : ∀ v' w', sl.Own w' lo w'.heap.size v' (xs ++ [x0]) → (w.alloc (.cells #[.int .i64 x0] 2)).grownBy w' v.ownBlock → (v'.ownBlock = v.ownBlock ∨ v'.ownBlock = some (w.heap.size + 1)) → wpList Tryd.prog ops Q rest (a.put o.dst v') w') : wpList Tryd.prog ops Q (o :: rest) a (w.alloc (.cells #[.int .i64 x0] 2)) := by
  obtain ⟨i0, hi', hz0, hz1, hz2⟩ := info_parts info64
  refine wpList_append_own_at _ hgd s x 24 hop lo 2 i0 (.int .i64 0) 1 8 Tryd.underlying24 hi' hz0 hz1 hz2 rfl (by decide) v xs.length (xs.map (Value.int .i64)) hs (ho.1.alloc _) ⟨w.heap.size, 0, none⟩ 1 1 [.int .i64 x0] hx rfl ?_ ?_ ?_ ?_ ?_ ?_
  · intro j u hj
    match j, hj with
    | 0, hj =>
      simp only [List.getElem?_cons_zero, Option.some.injEq] at hj
      subst hj
      rw [Addr.add_lit, World.cell?_alloc_at _ _ _ _ rfl]; rfl
  · intro u hu; simp at hu; subst hu; rfl
  · unfold maxLen; omega
  · omega
  · simp; omega
  · intro v' w' h1 h2 _ h5
    exact hK v' w' (sl.Own.mk' (by simpa using h1)) h2 (by simpa using h5)
theorem own_kept {w w' : World} {lo hi : Nat} {v : Value} {xs : List Int} {row : Option Nat} (o : sl.Own w lo hi v xs) (hg : w.grownBy w' row) (hne : v.ownBlock = none ∨ v.ownBlock ≠ row) : sl.Own w' lo hi v xs :=
  ⟨World.ownsRow.kept o.1 hg hne, o.2.1, Nat.le_trans o.2.2 hg.size⟩
theorem iter_grown (w : World) (k : Nat) (s : ByteArray) (pos : Nat) : w.grownBy (w.iterAt k s pos) (some k) :=
  ⟨rfl, rfl, rfl, by rw [Lib.iterAt_size]; exact Nat.le_refl _, fun j hj hne => Lib.iterAt_other w k j s pos (fun e => hne (by rw [e]))⟩
theorem byte_at (s : ByteArray) (i : Nat) (h : i < s.size) : byI s i = ((s[i]'h).toNat : Int) := by
  unfold byI
  rw [show s.get! i = s[i] from get_at s i h]

/-- What the loop carries. -/
structure RJ (s : ByteArray) (w W1 : World) (bm kI : Nat) (wr : World) (u : Value) (pos : Nat) : Prop where
  it : wr.heap[kI]? = some (.stringIter s pos)
  hpos : pos ≤ s.size
  all : ∀ j, j < pos → sk (byI s j) ≠ 0
  own : sl.Own wr W1.heap.size wr.heap.size u (rdTo s pos)
  ne : ∀ g, u.ownBlock = some g → g ≠ kI
  cs : CS wr bm 11
  bel : Below w.heap.size w wr
theorem ownlt {w : World} {lo hi : Nat} {v : Value} {xs : List Int} (o : sl.Own w lo hi v xs) : ∀ g, v.ownBlock = some g → lo ≤ g := fun g hg => (o.1.lt g hg).1

set_option maxRecDepth 100000 in
set_option maxHeartbeats 4000000 in
theorem implRS (s : ByteArray) (w : World) (hs : s.size ≤ 9223372036854775807) (hT : stb.Tab w) : Calls Tryd.prog 9 #[.string s] w fun e w' => ∃ v', e = .returned (.tuple #[v', .bool (rdB s)]) ∧ sl.Own w' w.heap.size w'.heap.size v' (rdW s) ∧ Below w.heap.size w w' := by
  by_cases hl : s.size ≤ 16
  rotate_left
  · have HF := hid (rd_long (s := s) (by omega))
    have HW := hid (rdW_no HF.out)
    have hd : decide ((16 : Int) < (s.size : Int)) = true := by simp; omega
    clear hl
    go_enter Tryd.func9, Tryd.ntmps9
    go_wp2
    go_ret2
    exact ⟨.slice none 0 0, by rw [HF.out]; rfl, by rw [HW.out]; exact Own.nil w w.heap.size, Below.refl _ _⟩
  have hd : decide ((16 : Int) < (s.size : Int)) = false := by simp; omega
  have HBad := hid (fun i h e => @rd_bad s i h e)
  have HGood := hid (fun e => @rd_good s hl e)
  have HW1 := hid (fun h => @rdW_no s h)
  have HW2 := hid (fun h => @rdW_yes s h)
  have HKn := hid (implKinds w hT)
  clear hT
  go_enter Tryd.func9, Tryd.ntmps9
  go_wp2_with fail
  refine HKn.out.mono ?_
  rintro e W1 ⟨rfl, hcs, b1⟩
  have hbm : w.heap.size < W1.heap.size := hcs.lt
  have HJ0 : Hid (RJ s w W1 w.heap.size (W1.heap.size + 1) ((W1.alloc (.cells #[] 2)).iter s 0) (.slice (some ⟨W1.heap.size, 0, none⟩) 0 0) 0) := hid (by
    have bA : Below W1.heap.size W1 (W1.alloc (.cells #[] 2)) := (Below.refl _ _).alloc (Nat.le_refl _) _
    have bB : Below (W1.alloc (.cells #[] 2)).heap.size (W1.alloc (.cells #[] 2)) ((W1.alloc (.cells #[] 2)).iter s 0) := (Below.refl _ _).alloc (Nat.le_refl _) _
    have bAB := bA.trans (bB.mono bA.size)
    refine ⟨?_, Nat.zero_le _, fun j hj => by omega, ?_, fun g hg => ?_, hcs.kept (wk.grN bAB) (by simp), b1.trans (bAB.mono b1.size)⟩
    · have := World.iter_heap (W1.alloc (.cells #[] 2)) s 0
      simpa using this
    · have h := (Own.built W1 #[] rfl).chg (Chg.ofBelow (lo := 0) bB) (.inr (.inr (Nat.zero_le _)))
      exact h.hi bB.size (Nat.le_refl _)
    · simp only [Value.ownBlock, Option.some.injEq] at hg
      omega)
  clear hcs b1 HKn
  go_wp2
  go_loopw [5] (fun u wr => ∃ pos : Nat, RJ s w W1 w.heap.size (W1.heap.size + 1) wr u pos) (fun _ wr => s.size - wr.iterPos (W1.heap.size + 1))
  case atStart => exact ⟨0, HJ0.out⟩
  case round =>
    obtain ⟨pos, hj⟩ := hrel
    have HJ := hid hj
    have hit := hj.it
    clear hj HJ0
    by_cases hp : pos < s.size
    · have hby := byte_at s pos hp
      by_cases h0 : sk (byI s pos) = 0
      · have HF := hid (HBad.out pos hp h0)
        have HW := hid (HW1.out HF.out)
        have hnx : ∀ ty, (Instr.next (.pointer (some ⟨W1.heap.size + 1, 0, none⟩)) true ty).run Tryd.prog wr = _ := fun ty => Lib.run_next_any_at wr (W1.heap.size + 1) s pos ty hit hp
        have hr0 : sk ((Utf8.decode s pos).1 : Int) = 0 := by
          by_cases ha : (s[pos]'hp).toNat < 128
          · rw [decode_ascii s pos hp ha]; rw [hby] at h0; exact h0
          · have := (decode_high s pos hp (by omega)).1
            exact sk_big (by omega)
        have hd1 := decode_le s pos
        have hg2 := iter_grown wr (W1.heap.size + 1) s (pos + (Utf8.decode s pos).2)
        have HB2 := hid (Lib.below_iterAt HJ.out.bel (k := W1.heap.size + 1) (by omega) s (pos + (Utf8.decode s pos).2))
        obtain ⟨D, hD, hH, hV⟩ := HJ.out.cs.kept hg2 (by simp; omega)
        have HD := hid hD
        have HH : Hid (Maps.has D (.int .i32 ((Utf8.decode s pos).1 : Int)) = false) := hid (by rw [hH, hr0]; rfl)
        have hkey := key_of ((Utf8.decode s pos).1 : Int) (by omega)
        clear hD hH hV hg2 hr0 h0 hby
        generalize wr.iterAt (W1.heap.size + 1) s (pos + (Utf8.decode s pos).2) = W2 at *
        generalize ((Utf8.decode s pos).1 : Int) = r at *
        go_wp2_with (at_lookup; refine wpList_lookup_own_ok_int _ rfl _ _ 33 rfl 21 2 .i64 lawK Tryd.underlying33 Tryd.underlying2 (zeroI _) w.heap.size _ D rfl HD.out _ _ rfl hkey ?_; intro c9 hat9 hwc9; rw [HH.out]; clear hat9 hwc9)
        go_ret2
        exact ⟨.slice none 0 0, by rw [HF.out]; rfl, by rw [HW.out]; exact Own.nil W2 w.heap.size, HB2.out⟩
      · have ha : (s[pos]'hp).toNat < 128 := by
          refine Classical.byContradiction fun hc => h0 (sk_big ?_)
          rw [hby]; omega
        have hnx : ∀ ty, (Instr.next (.pointer (some ⟨W1.heap.size + 1, 0, none⟩)) true ty).run Tryd.prog wr = _ := fun ty => Lib.run_next_ascii_at wr (W1.heap.size + 1) s pos ty hit hp ha
        rw [← hby] at hnx
        have hbb : 0 ≤ byI s pos ∧ byI s pos ≤ 127 := by rw [hby]; omega
        have hg2 := iter_grown wr (W1.heap.size + 1) s (pos + 1)
        have hit2 := Lib.iterAt_heap wr (W1.heap.size + 1) s pos (pos + 1) hit
        have HB2 := hid (Lib.below_iterAt HJ.out.bel (k := W1.heap.size + 1) (by omega) s (pos + 1))
        have hcs2 := HJ.out.cs.kept hg2 (by simp; omega)
        have ho2 := own_kept HJ.out.own hg2 (by
          cases e : u5.ownBlock with
          | none => exact .inl rfl
          | some g => exact .inr (by simp only [ne_eq, Option.some.injEq]; exact HJ.out.ne g e))
        have HCS := hid hcs2
        obtain ⟨D, hD, hH, hV⟩ := hcs2
        have hsr := sk_range (byI s pos)
        have HD := hid hD
        have HH : Hid (Maps.has D (.int .i32 (byI s pos)) = true) := hid (by rw [hH]; simp; omega)
        have HV := hid (hV (byI s pos) (by omega))
        have hkey := key_of (byI s pos) (by omega)
        have HTo := hid (rdTo_succ s pos)
        have HAll2 : Hid (∀ j, j < pos + 1 → sk (byI s j) ≠ 0) := hid (fun j hj => by
          rcases Nat.lt_or_ge j pos with h | h
          · exact HJ.out.all j h
          · obtain rfl : j = pos := by omega
            exact h0)
        have HNe := hid HJ.out.ne
        have HLt := hid (ownlt HJ.out.own)
        have HO2 := hid (show sl.Own (wr.iterAt (W1.heap.size + 1) s (pos + 1)) W1.heap.size (wr.iterAt (W1.heap.size + 1) s (pos + 1)).heap.size u5 (rdTo s pos) from by rw [Lib.iterAt_size]; exact ho2)
        have HIt := hid hit2
        have hzi : W1.heap.size + 1 < (wr.iterAt (W1.heap.size + 1) s (pos + 1)).heap.size := (Array.getElem?_eq_some_iff.1 hit2).1
        have hpos1 : wr.iterPos (W1.heap.size + 1) = pos := by simp only [World.iterPos, hit]
        clear hD hH hV hg2 hby ho2 hit2
        generalize wr.iterAt (W1.heap.size + 1) s (pos + 1) = W2 at *
        obtain ⟨kx, hkx⟩ : ∃ kx, kx = sk (byI s pos) := ⟨_, rfl⟩
        rw [← hkx] at h0 hsr HV HTo
        have HKx := hid hkx
        generalize byI s pos = bx at *
        clear hkx
        go_wp2_with (first
          | (at_lookup; refine wpList_lookup_own_ok_int _ rfl _ _ 33 rfl 21 2 .i64 lawK Tryd.underlying33 Tryd.underlying2 (zeroI _) w.heap.size _ D rfl HD.out _ _ rfl hkey ?_; intro c9 hat9 hwc9; have hc9 : c9 = kx := (by have h := HV.out; rw [hat9] at h; injection h with h1; injection h1); subst hc9; rw [HH.out]; clear hat9 hwc9)
          | (at_builtin; refine wp_append1I rfl _ _ rfl W1.heap.size W2.heap.size _ (rdTo s pos) _ HO2.out rfl rfl (by omega) (by rw [rdTo_len]; omega) ?_; intro v8 W8 o8 g8 n8; have HO8 := hid o8; have HG8 := hid g8; have HN8 := hid n8; clear o8 g8 n8))
        have h8 : ∃ o : Obj, (W2.alloc o).grownBy W8 u5.ownBlock := ⟨_, HG8.out⟩
        obtain ⟨o8, g8⟩ := h8
        have bA : Below W2.heap.size W2 (W2.alloc o8) := (Below.refl _ _).alloc (Nat.le_refl _) _
        have hblk : ∀ q, q < W2.heap.size → some q ≠ u5.ownBlock → W8.heap[q]? = W2.heap[q]? := fun q hq hne => (g8.block q (Nat.lt_of_lt_of_le hq bA.size) hne).trans (bA.block q hq)
        have hnk : some (W1.heap.size + 1) ≠ u5.ownBlock := fun e => HNe.out _ e.symm rfl
        have hnm : some w.heap.size ≠ u5.ownBlock := fun e => by have := HLt.out _ e.symm; omega
        have hit8 : W8.heap[W1.heap.size + 1]? = some (.stringIter s (pos + 1)) := (hblk _ (by omega) hnk).trans HIt.out
        have hcs8 : CS W8 w.heap.size 11 := (HCS.out.kept (wk.grN bA) (by simp)).kept g8 hnm
        have hb8 : Below w.heap.size w W8 := HB2.out.trans ⟨g8.os.trans bA.os, g8.tape.trans bA.tape, g8.output.trans bA.output, Nat.le_trans bA.size g8.size, fun q hq => hblk q (by omega) (fun e => by have := HLt.out _ e.symm; omega)⟩
        have hne8 : ∀ g, v8.ownBlock = some g → g ≠ W1.heap.size + 1 := fun g e => by
          rcases HN8.out with h | h
          · exact HNe.out g (by rw [← h]; exact e)
          · rw [h] at e
            simp only [Option.some.injEq] at e
            omega
        go_roundw
        case rel => exact ⟨pos + 1, ⟨hit8, by omega, HAll2.out, by rw [HTo.out]; exact HO8.out, hne8, hcs8, hb8⟩⟩
        case measure =>
          have e8 : W8.iterPos (W1.heap.size + 1) = pos + 1 := by simp only [World.iterPos, hit8]
          rw [e8, hpos1]
          omega
    · have hpe : pos = s.size := by have := HJ.out.hpos; omega
      have HF := hid (HGood.out (fun j hj => HJ.out.all j (by omega)))
      have HW := hid (HW2.out HF.out)
      have hnx : ∀ ty, (Instr.next (.pointer (some ⟨W1.heap.size + 1, 0, none⟩)) true ty).run Tryd.prog wr = _ := fun ty => Lib.run_next_end_at wr (W1.heap.size + 1) s pos ty hit hp
      have HPe := hid hpe
      clear hpe hp
      go_wp2
      go_ret2
      exact ⟨_, by rw [HF.out]; rfl, by rw [HW.out, ← HPe.out]; exact HJ.out.own.lo (by omega), HJ.out.bel⟩

theorem kd_len {s : ByteArray} (h : s.size = 1) (hr : rdB s = true) : rdW s = [kdS s] := by
  rw [rdW_yes hr, h, kdS, if_pos h]; rfl
theorem kd_bad {s : ByteArray} (hr : rdB s = false) : kdS s = 0 := by
  by_cases h : s.size = 1
  · rw [kdS, if_pos h]
    refine Classical.byContradiction fun hne => ?_
    rw [rd_good (by omega) (fun j hj => by obtain rfl : j = 0 := by omega
                                           exact hne)] at hr
    cases hr
  · rw [kdS, if_neg h]
theorem specKd (s : ByteArray) (w : World) (hs : s.size ≤ 9223372036854775807) : Calls Tryd.prog 6 #[.string s] w fun e w' => e = .returned (.int .i64 (kdS s)) ∧ Below w.heap.size w w' := specKindOf s w
set_option maxRecDepth 20000 in
theorem implKd (s : ByteArray) (w : World) (hs : s.size ≤ 9223372036854775807) (hT : stb.Tab w) : Calls Tryd.prog 7 #[.string s] w fun e w' => e = .returned (.int .i64 (kdS s)) ∧ Below w.heap.size w w' := by
  have HR := hid (implRS s w hs hT)
  clear hT
  cases hr : rdB s
  · have HF := hid (kd_bad hr)
    rw [hr] at HR
    clear hr
    go_enter Tryd.func7, Tryd.ntmps7
    go_wp2_with fail
    refine HR.out.mono ?_
    rintro e w1 ⟨v1, rfl, o1, b1⟩
    have B1 := hid b1
    clear b1 o1
    go_wp2
    go_ret
    exact ⟨by rw [HF.out]; rfl, B1.out⟩
  · have hlen : (rdW s).length = s.size := by rw [rdW_yes hr, rdTo_len]
    by_cases h1 : s.size = 1
    · have HL := hid (kd_len h1 hr)
      rw [hr] at HR
      rw [HL.out] at HR
      clear hr hlen h1
      generalize kdS s = x at *
      go_enter Tryd.func7, Tryd.ntmps7
      go_wp2_with fail
      refine HR.out.mono ?_
      rintro e w1 ⟨v1, rfl, o1, b1⟩
      have B1 := hid b1
      rcases o1.ints with ⟨h, _⟩ | ⟨hp, b, off, cap, rfl, hb, hc⟩
      · cases h
      · have h0 := hc 0 (by simp)
        simp only [List.getD_cons_zero, Nat.add_zero] at h0
        clear b1 o1 hc hp
        simp only [List.length_cons, List.length_nil, Nat.zero_add]
        go_wp2
        go_ret
        exact ⟨rfl, B1.out⟩
    · have HF : Hid (kdS s = 0) := hid (by rw [kdS, if_neg h1])
      rw [hr] at HR
      clear hr
      obtain ⟨n, hn⟩ : ∃ n, n = s.size := ⟨_, rfl⟩
      rw [← hn] at h1 hlen
      have n1 : ((n : Int) == 1) = false := by simp; omega
      have HLn := hid hlen
      clear hlen hn
      go_enter Tryd.func7, Tryd.ntmps7
      go_wp2_with fail
      refine HR.out.mono ?_
      rintro e w1 ⟨v1, rfl, o1, b1⟩
      have B1 := hid b1
      obtain ⟨a1, c1, hv1⟩ := br.own_val o1
      rw [HLn.out] at hv1
      subst hv1
      clear b1 o1
      go_wp2
      go_ret
      exact ⟨by rw [HF.out]; rfl, B1.out⟩
end Go.Proofs.YtglkchcfggclaabDoor.kd
