/-
  SymbolOf of both sides.
-/
import Derived.Test.YtglkchcfggclaabDoorSt1
import Derived.WalkSpells
namespace Go.Proofs.YtglkchcfggclaabDoor.st
open Go.RowKit Go.Proofs.YtglkchcfggclaabDoor.sl Go.Proofs.YtglkchcfggclaabDoor.pm
set_option linter.unusedVariables false

/-- The symbol of a kind. -/
def sy (k : Int) : ByteArray := if knd k then ⟨#[(syT.getD k.toNat 0).toNat.toUInt8]⟩ else ⟨#[]⟩
theorem sy_at {j : Nat} (h : 1 ≤ j ∧ j ≤ 11) : sy (j : Int) = ⟨#[(syT.getD j 0).toNat.toUInt8]⟩ := by
  have : knd (j : Int) = true := by simp [knd]; omega
  simp only [sy, this, if_true, Int.toNat_natCast]

theorem convSy (j : Nat) (h : j ≤ 11) : Utf8.encode (syT.getD j 0) = ⟨#[(syT.getD j 0).toNat.toUInt8]⟩ :=
  all12 (fun j => Utf8.encode (syT.getD j 0) = ⟨#[(syT.getD j 0).toNat.toUInt8]⟩) (by
    intro j
    match j with
    | 0 | 1 | 2 | 3 | 4 | 5 | 6 | 7 | 8 | 9 | 10 | 11 => rfl) h
theorem implSymbol (k : Int) (w : World) (hT : stb.Tab w) : Calls Tryd.prog 22 #[.int .i64 k] w fun e w' => e = .returned (.string (sy k)) ∧ Below w.heap.size w w' := by
  have HK := hid (fun w1 => implStitch k w1)
  cases hk : knd k
  · have HF : Hid (sy k = ⟨#[]⟩) := hid (by simp [sy, hk])
    rw [hk] at HK
    clear hk
    go_enter Tryd.func22, Tryd.ntmps22
    go_wp2_with fail
    refine (HK.out _).mono ?_
    rintro e w1 ⟨rfl, rfl⟩
    go_wp2
    go_ret
    exact ⟨by rw [HF.out]; rfl, Below.refl _ _⟩
  · obtain ⟨j, rfl, h1, h2⟩ := knd_nat hk
    have HF : Hid (sy (j : Int) = ⟨#[(syT.getD j 0).toNat.toUInt8]⟩) := hid (sy_at ⟨h1, h2⟩)
    rw [hk] at HK
    clear hk
    have hc := hT.sy j (by omega)
    have hl := hT.lt
    have HCv := hid (convSy j h2)
    generalize (⟨#[(syT.getD j 0).toNat.toUInt8]⟩ : ByteArray) = s at *
    generalize syT.getD j 0 = x at *
    clear hT
    go_enter Tryd.func22, Tryd.ntmps22
    go_wp2_with fail
    refine (HK.out _).mono ?_
    rintro e w1 ⟨rfl, rfl⟩
    go_wp2
    go_ret
    exact ⟨by rw [HF.out, ← HCv.out]; rfl, Below.refl _ _⟩
theorem specSymbols (w : World) : Calls Tryd.prog 25 #[] w fun e w' => e = .returned (.string ⟨#[107, 112, 111, 100, 101, 116, 115, 120, 121, 88, 89]⟩) ∧ w = w' := by
  go_enter Tryd.func25, Tryd.ntmps25
  go_wp2
  go_ret
  exact ⟨rfl, rfl⟩
set_option maxRecDepth 20000 in
theorem specSymbol (k : Int) (w : World) : Calls Tryd.prog 16 #[.int .i64 k] w fun e w' => e = .returned (.string (sy k)) ∧ Below w.heap.size w w' := by
  have HK := hid (fun w1 => specKind k w1)
  cases hk : knd k
  · have HF : Hid (sy k = ⟨#[]⟩) := hid (by simp [sy, hk])
    rw [hk] at HK
    clear hk
    go_enter Tryd.func16, Tryd.ntmps16
    go_wp2_with fail
    refine (HK.out _).mono ?_
    rintro e w1 ⟨rfl, rfl⟩
    go_wp2
    go_ret
    exact ⟨by rw [HF.out]; rfl, Below.refl _ _⟩
  · obtain ⟨j, rfl, h1, h2⟩ := knd_nat hk
    have HF : Hid (sy (j : Int) = ⟨#[(syT.getD j 0).toNat.toUInt8]⟩) := hid (sy_at ⟨h1, h2⟩)
    rw [hk] at HK
    clear hk
    obtain ⟨i, rfl⟩ : ∃ i, j = i + 1 := ⟨j - 1, by omega⟩
    have hw : IntKind.i64.wrap (((i + 1 : Nat) : Int) - 1) = (i : Int) := by rw [IntKind.wrap_i64] <;> omega
    have HS := hid (fun w1 => specSymbols w1)
    have HE : Hid ((⟨#[107, 112, 111, 100, 101, 116, 115, 120, 121, 88, 89]⟩ : ByteArray).extract i (i + 1) = ⟨#[(syT.getD (i + 1) 0).toNat.toUInt8]⟩) := hid (by
      match i, (by omega : i ≤ 10) with
      | 0, _ | 1, _ | 2, _ | 3, _ | 4, _ | 5, _ | 6, _ | 7, _ | 8, _ | 9, _ | 10, _ => rfl)
    obtain ⟨t, ht⟩ : ∃ t : ByteArray, t = ⟨#[107, 112, 111, 100, 101, 116, 115, 120, 121, 88, 89]⟩ := ⟨_, rfl⟩
    have hsz : t.size = 11 := by rw [ht]; rfl
    rw [← ht] at HS HE
    generalize (⟨#[(syT.getD (i + 1) 0).toNat.toUInt8]⟩ : ByteArray) = s at *
    clear ht h1
    go_enter Tryd.func16, Tryd.ntmps16
    go_wp2_with fail
    refine (HK.out _).mono ?_
    rintro e w1 ⟨rfl, rfl⟩
    go_wp2_with fail
    refine (HS.out _).mono ?_
    rintro e w1 ⟨rfl, rfl⟩
    go_wp2
    go_ret
    exact ⟨by rw [HF.out, ← HE.out]; rfl, Below.refl _ _⟩
end Go.Proofs.YtglkchcfggclaabDoor.st
