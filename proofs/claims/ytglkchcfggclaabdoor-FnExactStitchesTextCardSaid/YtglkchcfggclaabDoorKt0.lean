/-
  StitchesText of both sides.
-/
import Derived.Test.YtglkchcfggclaabDoorSt4
import Derived.Test.YtglkchcfggclaabDoorSt2
import Derived.Test.YtglkchcfggclaabDoorBld
import Derived.Test.YtglkchcfggclaabDoorShelfSb
namespace Go.Proofs.YtglkchcfggclaabDoor.kt
open Go.RowKit Go.Proofs.YtglkchcfggclaabDoor.sl Go.Proofs.YtglkchcfggclaabDoor.st
set_option linter.unusedVariables false

/-- The bytes of the first symbols. -/
def txL (xs : List Int) (i : Nat) : List UInt8 := (xs.take i).flatMap fun k => (sy k).data.toList
theorem txL_zero (xs : List Int) : txL xs 0 = [] := rfl
theorem txL_succ (xs : List Int) (i : Nat) (h : i < xs.length) : txL xs (i + 1) = txL xs i ++ (sy (xs.getD i 0)).data.toList := by
  rw [txL, txL, List.take_add_one, List.flatMap_append]
  simp [List.getElem?_eq_getElem h, List.getD]
theorem sy_len (k : Int) : (sy k).data.toList.length ≤ 1 := by
  unfold sy
  split <;> simp
theorem txL_len (xs : List Int) (i : Nat) : (txL xs i).length ≤ i := by
  induction i with
  | zero => simp [txL]
  | succ i ih =>
    by_cases h : i < xs.length
    · rw [txL_succ xs i h, List.length_append]
      have := sy_len (xs.getD i 0)
      omega
    · have : txL xs (i + 1) = txL xs i := by rw [txL, txL, List.take_of_length_le (by omega), List.take_of_length_le (by omega)]
      rw [this]; omega
def txB (xs : List Int) (i : Nat) : ByteArray := ⟨(txL xs i).toArray⟩
theorem txB_zero (xs : List Int) : txB xs 0 = ⟨#[]⟩ := rfl
theorem txB_succ (xs : List Int) (i : Nat) (h : i < xs.length) : txB xs (i + 1) = txB xs i ++ sy (xs.getD i 0) := by
  rw [txB, txL_succ xs i h, txB]
  generalize sy (xs.getD i 0) = s
  rcases s with ⟨⟨l⟩⟩
  apply ByteArray.ext
  simp
theorem txB_size (xs : List Int) (i : Nat) : (txB xs i).size ≤ i := by
  have := txL_len xs i
  show ((txL xs i).toArray).size ≤ i
  simpa using this
/-- The text of stitches. -/
def stx (xs : List Int) : ByteArray := if lst xs then txB xs xs.length else ⟨#[]⟩
theorem stx_no {xs : List Int} (h : lst xs = false) : stx xs = ⟨#[]⟩ := by simp [stx, h]
theorem stx_yes {xs : List Int} (h : lst xs = true) : stx xs = txB xs xs.length := by simp [stx, h]

set_option maxRecDepth 20000 in
theorem specText (xs : List Int) (v : Value) (B : Nat) (w : World) (ha : Ints w B v xs) (hB : B ≤ w.heap.size) (hn : xs.length ≤ 16) :
    Calls Tryd.prog 19 #[v] w fun e w' => e = .returned (.string (txB xs xs.length)) ∧ Below w.heap.size w w' := by
  rcases ha with ⟨rfl, ao, cap, rfl⟩ | ⟨hp, b, off, cap, rfl, hbb, hc⟩
  · go_enter Tryd.func19, Tryd.ntmps19
    go_wp2
    refine wp_loop_rounds 1 ?_
    rw [rounds_succ]
    go_wp2
    go_ret
    exact ⟨rfl, Below.refl _ _⟩
  · have HSu := hid (fun k (h : k < xs.length) => txB_succ xs k h)
    obtain ⟨n, hnn⟩ : ∃ n, n = xs.length := ⟨_, rfl⟩
    rw [← hnn] at hp hc hn HSu ⊢
    have HC := hid hc
    clear hnn hc
    go_enter Tryd.func19, Tryd.ntmps19
    go_wp2
    go_loopw [3, 4] (fun t i wr => ∃ k : Nat, k ≤ n ∧ i = .int .i64 k ∧ t = .string (txB xs k) ∧ Below w.heap.size w wr) (fun _ i _ => n - (intOf i).toNat)
    case atStart => exact ⟨0, Nat.zero_le _, rfl, rfl, Below.refl _ _⟩
    case round =>
      obtain ⟨k, hk, rfl, rfl, hbel⟩ := hrel
      have HB := hid hbel
      clear hbel
      have hts := txB_size xs k
      by_cases hlt : k < n
      · have h1 := (HB.out.cell (p := ⟨b, off + k, none⟩) (by show b < _; omega)).trans (HC.out k hlt)
        have HS := hid (HSu.out k hlt)
        have hsl := sy_len (xs.getD k 0)
        have HCl := hid (specSymbol (xs.getD k 0) wr)
        generalize xs.getD k 0 = x at *
        generalize txB xs k = t at *
        have hsz : (sy x).size ≤ 1 := by simpa using hsl
        generalize sy x = y at *
        clear hsl
        go_wp2_with fail
        refine HCl.out.mono ?_
        rintro e w2 ⟨rfl, b2⟩
        have HB2 := hid (HB.out.trans (b2.mono HB.out.size))
        clear b2
        go_wp2
        go_roundw
        case rel => exact ⟨k + 1, by omega, by go_num, by rw [HS.out], HB2.out⟩
        case measure => simp [intOf]; omega
      · obtain rfl : k = n := by omega
        go_wp2
        go_ret
        exact ⟨rfl, HB.out⟩
theorem specTx (xs : List Int) (v : Value) (B : Nat) (w : World) (ha : Ints w B v xs) (hB : B ≤ w.heap.size) (hn : xs.length ≤ 1099511627776) :
    Calls Tryd.prog 13 #[v] w fun e w' => e = .returned (.string (stx xs)) ∧ Below w.heap.size w w' := by
  have HK := hid (specSts xs v B w ha hB hn)
  have HA := hid ha
  obtain ⟨ao, cap, hv⟩ := br.ints_val ha
  cases hl : lst xs
  · have HF := hid (stx_no hl)
    rw [hl] at HK
    clear hl ha
    generalize xs.length = n at *
    subst hv
    go_enter Tryd.func13, Tryd.ntmps13
    go_wp2_with fail
    refine HK.out.mono ?_
    rintro e w1 ⟨rfl, rfl⟩
    go_wp2
    go_ret
    exact ⟨by rw [HF.out]; rfl, Below.refl _ _⟩
  · have HF := hid (stx_yes hl)
    have HT := hid (specText xs v B w ha hB (lst_parts hl).1)
    rw [hl] at HK
    clear hl ha
    generalize txB xs xs.length = t at *
    generalize xs.length = n at *
    subst hv
    go_enter Tryd.func13, Tryd.ntmps13
    go_wp2_with fail
    refine HK.out.mono ?_
    rintro e w1 ⟨rfl, rfl⟩
    go_wp2_with fail
    refine HT.out.mono ?_
    rintro e w1 ⟨rfl, b1⟩
    have B1 := hid b1
    clear b1
    go_wp2
    go_ret
    exact ⟨by rw [HF.out]; rfl, B1.out⟩

theorem implSymbolW (k : Int) (w : World) (hT : stb.Tab w) : Calls Tryd.prog 22 #[.int .i64 k] w fun e w' => e = .returned (.string (sy k)) ∧ w = w' := by
  have HK := hid (fun w1 => implStitch k w1)
  cases hk : knd k
  · have HF : Hid (sy k = ⟨#[]⟩) := hid (by simp [sy, hk])
    rw [hk] at HK
    clear hk
    go_enter Tryd.func22, Tryd.ntmps22
    go_wp2_with fail
    refine (HK.out _).mono ?_
    rintro e w1 ⟨rfl, rfl⟩
    go_wp2
    go_ret
    exact ⟨by rw [HF.out]; rfl, rfl⟩
  · obtain ⟨j, rfl, h1, h2⟩ := knd_nat hk
    have HF : Hid (sy (j : Int) = ⟨#[(syT.getD j 0).toNat.toUInt8]⟩) := hid (sy_at ⟨h1, h2⟩)
    rw [hk] at HK
    clear hk
    have hc := hT.sy j (by omega)
    have hl := hT.lt
    have HCv := hid (convSy j h2)
    generalize (⟨#[(syT.getD j 0).toNat.toUInt8]⟩ : ByteArray) = s at *
    generalize syT.getD j 0 = x at *
    clear hT
    go_enter Tryd.func22, Tryd.ntmps22
    go_wp2_with fail
    refine (HK.out _).mono ?_
    rintro e w1 ⟨rfl, rfl⟩
    go_wp2
    go_ret
    exact ⟨by rw [HF.out, ← HCv.out]; rfl, rfl⟩

set_option maxRecDepth 20000 in
set_option maxHeartbeats 1000000 in
theorem implTx (xs : List Int) (v : Value) (B : Nat) (w : World) (ha : Ints w B v xs) (hB : B ≤ w.heap.size) (hn : xs.length ≤ 1099511627776) (hT : stb.Tab w) :
    Calls Tryd.prog 15 #[v] w fun e w' => e = .returned (.string (stx xs)) ∧ Below w.heap.size w w' := by
  have HK := hid (implSts xs v B w ha hB hn)
  have HTb := hid hT
  have HA := hid ha
  obtain ⟨ao, cap, hv⟩ := br.ints_val ha
  cases hl : lst xs
  · have HF := hid (stx_no hl)
    rw [hl] at HK
    clear hl ha hT
    generalize xs.length = n at *
    subst hv
    go_enter Tryd.func15, Tryd.ntmps15
    go_wp2_with fail
    refine HK.out.mono ?_
    rintro e w1 ⟨rfl, b1⟩
    have B1 := hid b1
    clear b1
    go_wp2
    go_ret
    exact ⟨by rw [HF.out]; rfl, B1.out⟩
  · have HF := hid (stx_yes hl)
    have h16 := (lst_parts hl).1
    rw [hl] at HK
    clear hl hT
    have HSu := hid (fun k (h : k < xs.length) => txL_succ xs k h)
    rcases ha with ⟨rfl, ao2, cap2, hv2⟩ | ⟨hp, b, off, cap2, hv2, hbb, hc⟩
    · subst hv2
      clear hv HSu
      go_enter Tryd.func15, Tryd.ntmps15
      go_wp2_with fail
      refine HK.out.mono ?_
      rintro e w1 ⟨rfl, b1⟩
      have B1 := hid b1
      have HI := hid (Lib.fresh_isBuilder 39 5 w1)
      have HB1 := hid (B1.out.trans (((Below.refl w1.heap.size w1).alloc (Nat.le_refl _) (.cells #[.pointer none, .slice none 0 0] 39)).mono b1.size))
      clear b1
      go_wp2
      refine wp_loop_rounds 1 ?_
      rw [rounds_succ]
      go_wp2_with fail
      refine (Tryd.Builder_String_any w1.heap.size w1.heap.size [] _ HI.out (by simp)).mono ?_
      rintro e w2 ⟨rfl, b2⟩
      have B2 := hid (HB1.out.trans (b2.mono B1.out.size))
      clear b2
      go_wp2
      go_ret
      exact ⟨by rw [HF.out]; rfl, B2.out⟩
    · subst hv2
      clear hv
      obtain ⟨n, hnn⟩ : ∃ n, n = xs.length := ⟨_, rfl⟩
      rw [← hnn] at hp hc hn h16 HSu HF HK HA ⊢
      have HC := hid hc
      clear hnn hc
      go_enter Tryd.func15, Tryd.ntmps15
      go_wp2_with fail
      refine HK.out.mono ?_
      rintro e w1 ⟨rfl, b1⟩
      have B1 := hid b1
      have hz1 := b1.size
      have HI0 := hid (Lib.fresh_isBuilder 39 5 w1)
      have HB0 := hid ((Below.refl w1.heap.size w1).alloc (Nat.le_refl _) (.cells #[.pointer none, .slice none 0 0] 39))
      clear b1
      go_wp2
      go_loopw [11] (fun i wr => ∃ k : Nat, k ≤ n ∧ i = .int .i64 k ∧ Lib.IsBuilder 39 5 w1.heap.size w1.heap.size (Lib.byteCells (txL xs k)) wr ∧ Below w1.heap.size w1 wr) (fun i _ => n - (intOf i).toNat)
      case atStart => exact ⟨0, Nat.zero_le _, rfl, HI0.out, HB0.out⟩
      case round =>
        obtain ⟨k, hk, rfl, hI, hbel⟩ := hrel
        have HI := hid hI
        have HB := hid (B1.out.trans (hbel.mono hz1))
        have HBw := hid hbel
        have hzw := hbel.size
        clear hI hbel HI0 HB0
        have htl := txL_len xs k
        by_cases hlt : k < n
        · have h1 := (HB.out.cell (p := ⟨b, off + k, none⟩) (by show b < _; omega)).trans (HC.out k hlt)
          have HS := hid (HSu.out k hlt)
          have hsl := sy_len (xs.getD k 0)
          have HCl := hid (implSymbolW (xs.getD k 0) wr (stb.carry HTb.out HB.out))
          generalize xs.getD k 0 = x at *
          have HSy : Hid ((sy x).data.toList = (sy x).data.toList) := hid rfl
          generalize hyy : sy x = y at *
          have hsz : y.size ≤ 1 := by simpa using hsl
          clear hyy HSy
          go_wp2_with fail
          refine HCl.out.mono ?_
          rintro e w2 ⟨rfl, rfl⟩
          go_wp2_with fail
          refine (sb.write w1.heap.size w1.heap.size _ y wr HI.out (by rw [Lib.byteCells_length]; omega) hzw).mono ?_
          rintro e w3 ⟨rfl, i3, b3⟩
          have HI3 := hid (show Lib.IsBuilder 39 5 w1.heap.size w1.heap.size (Lib.byteCells (txL xs (k + 1))) w3 from by
            rw [HS.out, Lib.byteCells_append, ← Lib.strCells_eq]; exact i3)
          have HB3 := hid (HBw.out.trans b3)
          clear i3 b3
          go_wp2
          go_roundw
          case rel => exact ⟨k + 1, by omega, by go_num, HI3.out, HB3.out⟩
          case measure => simp [intOf]; omega
        · obtain rfl : k = n := by omega
          go_wp2_with fail
          refine (Tryd.Builder_String_any w1.heap.size w1.heap.size (txL xs k) wr HI.out hzw).mono ?_
          rintro e w2 ⟨rfl, b2⟩
          have B2 := hid (B1.out.trans ((HBw.out.trans b2).mono hz1))
          clear b2
          go_wp2
          go_ret
          exact ⟨by rw [HF.out]; rfl, B2.out⟩
end Go.Proofs.YtglkchcfggclaabDoor.kt
