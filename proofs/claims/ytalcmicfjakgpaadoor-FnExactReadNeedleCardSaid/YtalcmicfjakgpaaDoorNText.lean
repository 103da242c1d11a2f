/-
  Contracts of the text form of a needle on both sides.
-/
import Derived.Test.YtalcmicfjakgpaaDoorLaid
import Derived.Test.YtalcmicfjakgpaaDoorNeedle
import Derived.Laws.Concat
namespace Go.Proofs.YtalcmicfjakgpaaDoor.nt
open Go.RowKit
set_option linter.unusedVariables false

def one (c : UInt8) : ByteArray := ⟨#[c]⟩
def num (t : Int) : ByteArray := ⟨(Lib.itoa t).toArray⟩

theorem num_size (t : Int) (h0 : 0 ≤ t) (h1 : t ≤ 23) : (num t).size ≤ 2 := by
  have h : ∀ k : Fin 24, (Lib.itoa ((k.val : Nat) : Int)).length ≤ 2 := by decide +kernel
  obtain ⟨k, rfl⟩ := Int.eq_ofNat_of_zero_le h0
  have := h ⟨k, by omega⟩
  show (Lib.itoa (k : Int)).toArray.size ≤ 2
  simpa using this

theorem add1 (c : UInt8) (t : Int) (h0 : 0 ≤ t) (h1 : t ≤ 23) (w : World) : (Op.stringOp .add ⟨#[c]⟩ ⟨(Lib.itoa t).toArray⟩).run Tryd.prog w = .ok (.string (one c ++ num t)) w := by
  have := num_size t h0 h1
  have h2 : (one c).size = 1 := rfl
  exact run_string_add_sum w (one c) (num t) (by omega)

def tx (b t : Int) : ByteArray := if b = 1 then one 102 ++ num t else one 98 ++ num t
theorem tx_front (t : Int) : tx 1 t = one 102 ++ num t := by simp [tx]
theorem tx_back {b : Int} (t : Int) (h : ¬b = 1) : tx b t = one 98 ++ num t := by simp [tx, h]
def text (b t : Int) : ByteArray := if nd.validB b t then tx b t else ⟨#[]⟩
theorem text_ok {b t : Int} (h : nd.validB b t = true) : text b t = tx b t := by simp [text, h]
theorem text_no {b t : Int} (h : nd.validB b t = false) : text b t = ⟨#[]⟩ := by simp [text, h]

theorem specText (b t : Int) (w : World) (h0 : 0 ≤ t) (h1 : t ≤ 23) : Calls Tryd.prog 55 #[.agg #[.int .i64 b, .int .i64 t]] w fun e w' => e = .returned (.string (tx b t)) ∧ Below w.heap.size w w' := by
  have hf := add1 102 t h0 h1
  have hb := add1 98 t h0 h1
  by_cases hb1 : b = 1
  · subst hb1
    go_enter Tryd.func55, Tryd.ntmps55
    go_wp2_with fail
    refine (dc.dec _ _ (by omega) (by omega)).mono ?_
    rintro e w1 ⟨rfl, hw⟩
    have hf := hf w1
    go_wp2
    go_ret
    exact ⟨by rw [tx_front]; rfl, ((Below.refl _ _).alloc (Nat.le_refl _) _).trans (hw.mono (by simp))⟩
  · have hbd : (b == 1) = false := by simpa using hb1
    go_enter Tryd.func55, Tryd.ntmps55
    go_wp2_with fail
    refine (dc.dec _ _ (by omega) (by omega)).mono ?_
    rintro e w1 ⟨rfl, hw⟩
    have hb := hb w1
    go_wp2
    go_ret
    exact ⟨by rw [tx_back _ hb1]; rfl, ((Below.refl _ _).alloc (Nat.le_refl _) _).trans (hw.mono (by simp))⟩

theorem valid_range {b t : Int} (h : nd.validB b t = true) : 0 ≤ t ∧ t ≤ 23 := by
  simp [nd.validB] at h; omega

theorem bcell {W w1 : World} (hb : Below W.heap.size W w1) : (∀ b o, b < W.heap.size → w1.cell? ⟨b, o, none⟩ = W.cell? ⟨b, o, none⟩) ∧ (∀ b o, b < W.heap.size → w1.frozen? ⟨b, o, none⟩ = W.frozen? ⟨b, o, none⟩) :=
  ⟨fun b o h => hb.cell (p := ⟨b, o, none⟩) h, fun b o h => hb.frozen (p := ⟨b, o, none⟩) h⟩

theorem specNeedleText (b t : Int) (w : World) : Calls Tryd.prog 22 #[.agg #[.int .i64 b, .int .i64 t]] w fun e w' => e = .returned (.string (text b t)) ∧ Below w.heap.size w w' := by
  cases hv : nd.validB b t
  · go_enter Tryd.func22, Tryd.ntmps22
    go_wp2_with fail
    refine (nd.specNeedle _ _ _).mono ?_
    rw [hv]
    rintro e w1 ⟨rfl, hb1⟩
    go_wp2
    go_ret
    exact ⟨by rw [text_no hv]; rfl, ((Below.refl _ _).alloc (Nat.le_refl _) _).trans (hb1.mono (by simp))⟩
  · obtain ⟨h0, h1⟩ := valid_range hv
    go_enter Tryd.func22, Tryd.ntmps22
    go_wp2_with fail
    refine (nd.specNeedle _ _ _).mono ?_
    rw [hv]
    rintro e w1 ⟨rfl, hb1⟩
    obtain ⟨hc, hf⟩ := bcell hb1
    go_wp2_with fail
    refine (specText _ _ _ h0 h1).mono ?_
    rintro e w2 ⟨rfl, hb2⟩
    go_wp2
    go_ret
    exact ⟨by rw [text_ok hv]; rfl, ((Below.refl _ _).alloc (Nat.le_refl _) _).trans ((hb1.trans (hb2.mono hb1.size)).mono (by simp))⟩

theorem implNeedleText (b t : Int) (w : World) (hT : Lib.TabIs Tryd.prog w "internal/strconv.uint64pow10" .u64 Lib.pow10Tab) : Calls Tryd.prog 24 #[.agg #[.int .i64 b, .int .i64 t]] w fun e w' => e = .returned (.string (text b t)) ∧ Below w.heap.size w w' := by
  cases hv : nd.validB b t
  · go_enter Tryd.func24, Tryd.ntmps24
    go_wp2_with fail
    refine (nd.implValid _ _ _).mono ?_
    rw [hv]
    rintro e w1 ⟨rfl, hb1⟩
    go_wp2
    go_ret
    exact ⟨by rw [text_no hv]; rfl, ((Below.refl _ _).alloc (Nat.le_refl _) _).trans (hb1.mono (by simp))⟩
  · obtain ⟨h0, h1⟩ := valid_range hv
    have haf := add1 102 t h0 h1
    have hab := add1 98 t h0 h1
    by_cases hB : b = 1
    · subst hB
      go_enter Tryd.func24, Tryd.ntmps24
      go_wp2_with fail
      refine (nd.implValid _ _ _).mono ?_
      rw [hv]
      rintro e w1 ⟨rfl, hb1⟩
      have hb1' := ((Below.refl w.heap.size w).alloc (Nat.le_refl _) _).trans (hb1.mono (by simp))
      obtain ⟨hc, hf⟩ := bcell hb1
      go_wp2_with fail
      refine (lt.implDecimal _ _ (by omega) (by omega) (lt.carry hT hb1')).mono ?_
      rintro e w2 ⟨rfl, hb2⟩
      have haf := haf w2
      go_wp2
      go_ret
      exact ⟨by rw [text_ok hv, tx_front]; rfl, hb1'.trans (hb2.mono hb1'.size)⟩
    · have hbd : (b == 1) = false := by simpa using hB
      go_enter Tryd.func24, Tryd.ntmps24
      go_wp2_with fail
      refine (nd.implValid _ _ _).mono ?_
      rw [hv]
      rintro e w1 ⟨rfl, hb1⟩
      have hb1' := ((Below.refl w.heap.size w).alloc (Nat.le_refl _) _).trans (hb1.mono (by simp))
      obtain ⟨hc, hf⟩ := bcell hb1
      go_wp2_with fail
      refine (lt.implDecimal _ _ (by omega) (by omega) (lt.carry hT hb1')).mono ?_
      rintro e w2 ⟨rfl, hb2⟩
      have hab := hab w2
      go_wp2
      go_ret
      exact ⟨by rw [text_ok hv, tx_back _ hB]; rfl, hb1'.trans (hb2.mono hb1'.size)⟩
end Go.Proofs.YtalcmicfjakgpaaDoor.nt
