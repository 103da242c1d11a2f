/-
  A strings.Builder of the call's own: copyCheck and WriteString at this program.
-/
import Derived.Test.YtbonccflocogbaaDoorSl
import Derived.Shelf.Strings.Builder1
namespace Go.Proofs.YtbonccflocogbaaDoor.sb
open Go.RowKit Go.Proofs.YtbonccflocogbaaDoor.sl
set_option linter.unusedVariables false

theorem infoSb : ∃ j, Tryd.prog.info? 56 = some j ∧ j.size = 2 := by
  have h : (Tryd.prog.info? 56).map (·.size) = some 2 := by kernel_rfl
  obtain ⟨j, h1, h2⟩ := Option.map_eq_some_iff.1 h
  exact ⟨j, h1, h2⟩
set_option maxRecDepth 100000 in
theorem check (B b : Nat) (bs : List Value) (w : World) (h : Lib.IsBuilder 56 5 B b bs w) :
    Calls Tryd.prog 40 #[.pointer (some ⟨b, 0, none⟩)] w fun e w' => e = .returned (.tuple #[]) ∧ Lib.BuilderAt 56 5 B b (.pointer (some ⟨b, 0, none⟩)) bs w' ∧ Below B w w' := by
  obtain ⟨j, hj, hjs⟩ := infoSb
  rcases h with h | h
  · have c0 := h.cell0
    have hf := h.frozen0
    have hto : (convert 53 83 (.pointer (some ⟨b, 0, none⟩))).run Tryd.prog w = .ok (.pointer (some ⟨b, 0, none⟩)) w :=
      Lib.run_to_unsafe (w := w) ⟨b, 0, none⟩ Tryd.underlying53 Tryd.underlying83 hj (by rw [hjs]; decide) h.shape (Nat.zero_lt_succ 1)
    have hfrom : (convert 83 53 (.pointer (some ⟨b, 0, none⟩))).run Tryd.prog w = .ok (.pointer (some ⟨b, 0, none⟩)) w :=
      Lib.run_from_unsafe (w := w) ⟨b, 0, none⟩ Tryd.underlying83 Tryd.underlying53 hj h.shape (by kernel_rfl)
    have hesc : (callFunc 53 #[.pointer (some ⟨b, 0, none⟩)]).run Tryd.prog w = .ok (.value (.pointer (some ⟨b, 0, none⟩))) w := by
      rw [run_callFunc_extern Tryd.func53 (by kernel_rfl) (by kernel_rfl) (by kernel_rfl) (e := Extern.AbiNoEscape.same) (by kernel_rfl), Lib.run_noEscape]
      rfl
    have HU := hid (h.used (.pointer (some ⟨b, 0, none⟩)))
    have HB := hid ((Below.refl B w).setCell (p := ⟨b, 0, none⟩) h.1 (.pointer (some ⟨b, 0, none⟩)))
    clear h hj hjs
    go_enter Tryd.func40, Tryd.ntmps40
    go_wp2
    go_end0
    exact ⟨rfl, HU.out, HB.out⟩
  · have c0 := h.cell0
    have hne := Lib.run_neq_ptr_same (w := w) (⟨b, 0, none⟩ : Addr) Tryd.underlying53 hj
    have HU := hid h
    clear h hj hjs
    go_enter Tryd.func40, Tryd.ntmps40
    go_wp2
    go_end0
    exact ⟨rfl, HU.out, Below.refl _ _⟩

theorem infoU8 : (Tryd.prog.info? 5).map (fun i => (i.zero, i.size, i.bytes)) = some (some (.int .u8 0), 1, 1) := by kernel_rfl
set_option maxRecDepth 100000 in
set_option maxHeartbeats 1000000 in
theorem write (B b : Nat) (bs : List Value) (s : ByteArray) (w : World) (h : Lib.IsBuilder 56 5 B b bs w) (hl : bs.length + s.size ≤ 1000000) (hB : B ≤ w.heap.size) :
    Calls Tryd.prog 30 #[.pointer (some ⟨b, 0, none⟩), .string s] w fun e w' => e = .returned (.tuple #[.int .i64 s.size, .nilIface]) ∧ Lib.IsBuilder 56 5 B b (bs ++ Lib.strCells s) w' ∧ Below B w w' := by
  obtain ⟨i0, hi, hz0, hz1, hz2⟩ := info_parts infoU8
  have HC := hid (check B b bs w h)
  clear h
  go_enter Tryd.func30, Tryd.ntmps30
  go_wp2_with fail
  refine HC.out.mono ?_
  rintro e w1 ⟨rfl, hb1, b1⟩
  have HB1 := hid b1
  have hz := b1.size
  obtain ⟨hBb, v, hblk, hown, hvb⟩ := hb1
  have c1 : w1.cell? ⟨b, 1, none⟩ = some v := by rw [Lib.cell_of_heap hblk]; rfl
  have hlt : b < w1.heap.size := (Array.getElem?_eq_some_iff.1 hblk).1
  have HOwn := hid hown
  have HBlk := hid hblk
  have HVb := hid hvb
  clear b1 HC hown hblk hvb
  go_wp2_with (at_builtin; refine Lib.wpList_append_own_string _ rfl _ _ 54 9 rfl B 5 i0 Tryd.underlying54 Tryd.underlying9 hi hz0 hz1 hz2 v bs.length bs rfl HOwn.out s rfl (by unfold maxLen; omega) (by omega) (by omega) ?_)
  intro v' w2 hown2 hg2 _
  have HO2 := hid hown2
  have HG2 := hid hg2
  have hblk2 : w2.heap[b]? = some (.cells #[.pointer (some ⟨b, 0, none⟩), v] 56 (0, 0)) := (HG2.out.block b hlt (fun e => HVb.out e.symm)).trans HBlk.out
  have hf2 : w2.frozen? ⟨b, 1, none⟩ = false := Lib.frozen_of_heap hblk2 1
  have hc2 : w2.cell? ⟨b, 1, none⟩ = some v := Lib.cell_of_heap hblk2 1
  have HK2 := hid hblk2
  obtain ⟨ao, n', cap, rfl⟩ : ∃ ao n' cap, v' = .slice ao n' cap := by
    rcases hown2.2 with ⟨hv, _⟩ | ⟨g, cp, cur, hv, _⟩
    · exact ⟨_, _, _, hv⟩
    · exact ⟨_, _, _, hv⟩
  clear hown2 hg2 hblk2
  go_wp2
  go_ret2
  refine ⟨rfl, Or.inr ?_, ?_⟩
  · exact Lib.BuilderAt.put hBb HK2.out (by simpa [Lib.strCells_length] using HO2.out) (by decide)
  · exact ((HB1.out.grown HG2.out (by omega) (fun k hk => (HOwn.out.lt k hk).1)).setCell (p := ⟨b, 1, none⟩) hBb _)
end Go.Proofs.YtbonccflocogbaaDoor.sb
