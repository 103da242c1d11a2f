/-
  SplitWords of both sides.
-/
import Derived.OwnWalk
import Derived.Test.YtbonccflocogbaaDoorSgs
import Derived.Test.YtbonccflocogbaaDoorSpl
import Derived.Test.YtbonccflocogbaaDoorShelfFf
namespace Go.Proofs.YtbonccflocogbaaDoor.sw
open Go.RowKit Go.Sort Go.Shelf Go.Proofs.YtbonccflocogbaaDoor.sl Go.Proofs.YtbonccflocogbaaDoor.sg Go.Proofs.YtbonccflocogbaaDoor.sp
set_option linter.unusedVariables false
set_option linter.unusedSimpArgs false
set_option maxRecDepth 100000

/-- The parts as far as place i. -/
def prtL (s : ByteArray) (i : Nat) : List ByteArray := (prt s i).map (piece s)
theorem prtL_zero (s : ByteArray) : prtL s 0 = [] := rfl
theorem prtL_blank (s : ByteArray) (i : Nat) (h : bl s i = true) : prtL s (i + 1) = prtL s i ++ [s.extract (frm s i) i] ∧ frm s (i + 1) = i + 1 := by
  constructor
  · unfold prtL; rw [prt, if_pos h, List.map_append]; rfl
  · rw [frm, if_pos h]
theorem prtL_word (s : ByteArray) (i : Nat) (h : bl s i = false) : prtL s (i + 1) = prtL s i ∧ frm s (i + 1) = frm s i := by
  constructor
  · unfold prtL; rw [prt, if_neg (by rw [h]; simp)]
  · rw [frm, if_neg (by rw [h]; simp)]
theorem prtL_len (s : ByteArray) (i : Nat) : (prtL s i).length ≤ i := by have := prt_len s i; simpa [prtL] using this
theorem bl_at (s : ByteArray) (i : Nat) (h : i < s.size) : bl s i = decide (s[i].toNat = 32) := by
  unfold bl
  congr 2
  simp [ByteArray.get!, h, getElem!_pos]
  rfl

theorem splitS (s : ByteArray) (w : World) (hs : s.size ≤ 1048576) :
    Calls Tryd.prog 9 #[.string s, .int .u8 32] w fun e w' => ∃ v', e = .returned v' ∧ SOwn w' w.heap.size w'.heap.size v' ((parts s).map (piece s)) ∧ Below w.heap.size w w' := by
  have HP0 := hid (prtL_blank s)
  have HP1 := hid (prtL_word s)
  have HF := hid (frm_le s)
  have HN := hid (prtL_len s)
  have HE : Hid (prtL s s.size ++ [s.extract (frm s s.size) s.size] = (parts s).map (piece s)) := hid (by unfold parts prtL; rw [List.map_append]; rfl)
  have HBl := hid (bl_at s)
  have HB0 := hid (SOwn.built w)
  have Hb0 := hid (Below.alloc (Below.refl w.heap.size w) (Nat.le_refl _) (.cells #[] 9))
  go_enter Tryd.func9, Tryd.ntmps9
  go_wp2
  go_loopw [5, 6, 7] (fun z f i wr => ∃ k : Nat, k ≤ s.size ∧ i = .int .i64 k ∧ f = .int .i64 (frm s k : Nat) ∧ SOwn wr w.heap.size wr.heap.size z (prtL s k) ∧ Below w.heap.size w wr) (fun _ _ i _ => s.size - (intOf i).toNat)
  case atStart => exact ⟨0, Nat.zero_le _, rfl, rfl, HB0.out, Hb0.out⟩
  case round =>
    obtain ⟨k, hk, rfl, rfl, ho, hb⟩ := hrel
    obtain ⟨ao, cap, rfl⟩ := ho.val
    have HO := hid ho
    have HB := hid hb
    have hlo := hb.size
    clear ho hb HB0 Hb0
    have hf := HF.out k
    have hnl := HN.out k
    by_cases hlt : k < s.size
    · have hc := HBl.out k hlt
      by_cases hx : (s[k].toNat : Int) = 32
      · have hbt : bl s k = true := by rw [hc]; simp; omega
        obtain ⟨e1, e2⟩ := HP0.out k hbt
        have E1 := hid e1
        have E2 := hid e2
        clear hc hbt e1 e2
        go_wp2_with (at_builtin; refine wp_appS rfl _ _ rfl w.heap.size _ _ _ _ HO.out rfl rfl hlo (by omega) ?_; intro v9 w9 ho9 hc9 hz9; have HO9 := hid ho9; have HB9 := hid (HB.out.trans (hc9.below (Nat.le_refl _) hlo)); clear ho9 hc9)
        go_roundw
        case rel => exact ⟨k + 1, by omega, by go_num, by rw [E2.out]; go_num, by rw [E1.out]; exact HO9.out, HB9.out⟩
        case measure => simp [intOf]; omega
      · have hbf : bl s k = false := by rw [hc]; simp; omega
        obtain ⟨e1, e2⟩ := HP1.out k hbf
        have E1 := hid e1
        have E2 := hid e2
        clear hc hbf e1 e2
        go_wp2
        go_roundw
        case rel => exact ⟨k + 1, by omega, by go_num, by rw [E2.out], by rw [E1.out]; exact HO.out, HB.out⟩
        case measure => simp [intOf]; omega
    · obtain rfl : k = s.size := by omega
      go_wp2_with (at_builtin; refine wp_appS rfl _ _ rfl w.heap.size _ _ _ _ HO.out rfl rfl hlo (by omega) ?_; intro v9 w9 ho9 hc9 hz9; have HO9 := hid ho9; have HB9 := hid (HB.out.trans (hc9.below (Nat.le_refl _) hlo)); clear ho9 hc9)
      go_ret
      exact ⟨_, rfl, by rw [← HE.out]; exact HO9.out, HB9.out⟩

/-- The words among the first k parts. -/
def fl (s : ByteArray) (k : Nat) : List ByteArray := (((parts s).take k).filter full).map (piece s)
def pcs (s : ByteArray) : List ByteArray := (parts s).map (piece s)
theorem fl_zero (s : ByteArray) : fl s 0 = [] := by simp [fl]
theorem fl_all (s : ByteArray) : fl s (pcs s).length = wordsL s := by simp [fl, pcs, wordsL]
theorem fl_len (s : ByteArray) (k : Nat) : (fl s k).length ≤ s.size + 1 := by
  have := parts_len s
  have h := List.length_filter_le full ((parts s).take k)
  simp [fl] at h ⊢; omega
theorem pcs_len (s : ByteArray) : 0 < (pcs s).length ∧ (pcs s).length ≤ s.size + 1 := by
  have := parts_len s
  constructor
  · simp [pcs, parts]
  · simpa [pcs] using this
theorem pcs_at (s : ByteArray) (k : Nat) (h : k < (pcs s).length) :
    (((pcs s).getD k ByteArray.empty).size = 0 ∧ fl s (k + 1) = fl s k) ∨ (((pcs s).getD k ByteArray.empty).size ≠ 0 ∧ fl s (k + 1) = fl s k ++ [(pcs s).getD k ByteArray.empty]) := by
  have hk : k < (parts s).length := by simpa [pcs] using h
  have e : (pcs s).getD k ByteArray.empty = piece s ((parts s)[k]) := by simp [pcs, List.getD, List.getElem?_eq_getElem hk]
  have hin := parts_in s _ (List.getElem_mem hk)
  have ht : (parts s).take (k + 1) = (parts s).take k ++ [(parts s)[k]] := by rw [List.take_succ_eq_append_getElem hk]
  generalize (parts s)[k] = x at *
  have hz : (piece s x).size = x.2 - x.1 := by simp [piece]; omega
  rw [e]
  by_cases hx : x.1 < x.2
  · right
    refine ⟨by omega, ?_⟩
    have hf : [x].filter full = [x] := by simp [full, hx]
    simp only [fl, ht, List.filter_append, hf, List.map_append]
    rfl
  · left
    refine ⟨by omega, ?_⟩
    have hf : [x].filter full = [] := by simp [full, hx]
    simp only [fl, ht, List.filter_append, hf, List.append_nil]
theorem size_zero {t : ByteArray} : (t.size = 0) = (t = ⟨#[]⟩) := by
  rw [eq_iff_iff]
  constructor
  · intro h
    rcases t with ⟨⟨l⟩⟩
    cases l with
    | nil => rfl
    | cons a r => simp [ByteArray.size] at h
  · rintro rfl; rfl


theorem isBlank (x : Nat) (w : World) : Calls Tryd.prog 28 #[.int .i32 (x : Int)] w fun e w' => e = .returned (.bool (x == 32)) ∧ w = w' := by
  have hx : (((x : Nat) : Int) == 32) = (x == 32) := by rw [Bool.eq_iff_iff]; simp; omega
  go_enter Tryd.func28, Tryd.ntmps28
  go_wp2
  go_ret
  exact ⟨by rw [← hx]; rfl, rfl⟩
theorem implSW (s : ByteArray) (w : World) (hs : s.size ≤ 1048576) :
    Calls Tryd.prog 14 #[.string s] w fun e w' => ∃ v', e = .returned v' ∧ SOwn w' w.heap.size w'.heap.size v' (wordsL s) ∧ Below w.heap.size w w' := by
  have HF := hid (Tryd.strings_FieldsFunc 28 #[] (enters_of Tryd.func28 (by kernel_rfl) rfl) (fun x => x == 32) s w (by omega) (fun W x hb => by
    unfold FnGives
    refine (isBlank x W).mono ?_
    rintro e w' ⟨rfl, rfl⟩
    exact ⟨rfl, 0, rfl⟩))
  have HE := hid (fields_words s)
  go_enter Tryd.func14, Tryd.ntmps14
  go_wp2_with fail
  refine HF.out.mono ?_
  rintro e w1 ⟨A, rfl, hA, hown, hb⟩
  have HO := hid hown
  have HB := hid hb
  clear hown hb
  go_wp2
  go_ret
  refine ⟨_, rfl, ?_, HB.out⟩
  have h := HO.out
  rw [HE.out] at h ⊢
  exact SOwn.mk' h
end Go.Proofs.YtbonccflocogbaaDoor.sw
