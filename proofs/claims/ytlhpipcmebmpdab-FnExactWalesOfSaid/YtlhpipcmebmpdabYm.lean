/-
  In one file: Yn0, Yn1.
-/
import Derived.Test.YtlhpipcmebmpdabFm
/- The yarn of a carrier: program and model. -/
namespace Go.Proofs.Ytlhpipcmebmpdab.mc
open Go.RowKit Go.Sort Go.Maps Go.Proofs.Ytlhpipcmebmpdab.sl Go.Proofs.Ytlhpipcmebmpdab.br Go.Proofs.Ytlhpipcmebmpdab.fn Go.Proofs.Ytlhpipcmebmpdab.ss Go.Proofs.Ytlhpipcmebmpdab.fb
set_option linter.unusedVariables false
set_option linter.unusedSimpArgs false

/-- The loops of a carrier among the first k. -/
def yarnL (ls : List nf.V) (c : Int) (k : Nat) : List Int := ((List.range k).filter fun i => decide ((ls.getD i nf.iz).a1 = c)).map Int.ofNat
theorem yarn_yes (ls : List nf.V) (c : Int) (k : Nat) (h : (ls.getD k nf.iz).a1 = c) : yarnL ls c (k + 1) = yarnL ls c k ++ [(k : Int)] := by
  have h' : (ls[k]?.getD nf.iz).a1 = c := h
  simp [yarnL, List.range_succ, List.filter_append, h']
theorem yarn_no (ls : List nf.V) (c : Int) (k : Nat) (h : ¬ (ls.getD k nf.iz).a1 = c) : yarnL ls c (k + 1) = yarnL ls c k := by
  have h' : ¬ (ls[k]?.getD nf.iz).a1 = c := h
  simp [yarnL, List.range_succ, List.filter_append, h']
theorem yarn_len (ls : List nf.V) (c : Int) (k : Nat) : (yarnL ls c k).length ≤ k := by
  have := List.length_filter_le (fun i => decide ((ls.getD i nf.iz).a1 = c)) (List.range k)
  simpa [yarnL] using this


end Go.Proofs.Ytlhpipcmebmpdab.mc

/- YarnOf of program and model. -/
namespace Go.Proofs.Ytlhpipcmebmpdab.mc
open Go.RowKit Go.Sort Go.Maps Go.Proofs.Ytlhpipcmebmpdab.sl Go.Proofs.Ytlhpipcmebmpdab.br Go.Proofs.Ytlhpipcmebmpdab.fn Go.Proofs.Ytlhpipcmebmpdab.ss Go.Proofs.Ytlhpipcmebmpdab.fb
set_option linter.unusedVariables false
set_option linter.unusedSimpArgs false

set_option maxRecDepth 100000 in
set_option maxHeartbeats 4000000 in
theorem fabricBad (a p : Int) (m : Mch) (f0 f1 f2 f3 f4 : Value) (B : Nat) (w : World) (ha : MInC w B f0 f1 f2 f3 f4 m) (hB : B ≤ w.heap.size) (hq : Small m) (hok : okM a p m = false) :
    Calls Try.prog 45 #[.agg #[.int .i64 a, .int .i64 p, f0, f1, f2, f3, f4]] w fun e w' => e = .returned (.tuple #[.pointer none, .int .i64 1]) ∧ Below w.heap.size w w' := by
  have HV := hid (fun W (h : Below w.heap.size w W) => implVM a p m f0 f1 f2 f3 f4 B W (ha.below h) (Nat.le_trans hB h.size) hq)
  rw [hok] at HV
  obtain ⟨⟨a0, k0, rfl⟩, ⟨a1, k1, rfl⟩, ⟨a2, k2, rfl⟩, ⟨a3, k3, rfl⟩, ⟨a4, k4, rfl⟩⟩ := ha.vals
  clear ha hq hok
  generalize m.fr.length = n0 at *
  generalize m.bk.length = n1 at *
  generalize m.cs.length = n2 at *
  generalize m.ls.length = n3 at *
  generalize m.dr.length = n4 at *
  have HX := hid (bx_new w 34 a p (.slice a0 n0 k0) (.slice a1 n1 k1) (.slice a2 n2 k2) (.slice a3 n3 k3) (.slice a4 n4 k4))
  go_enter Try.func45, Try.ntmps45
  go_wp2_with fail
  generalize (w.alloc (.cells #[.int .i64 a, .int .i64 p, .slice a0 n0 k0, .slice a1 n1 k1, .slice a2 n2 k2, .slice a3 n3 k3, .slice a4 n4 k4] 34)) = W1 at *
  refine (HV.out W1 HX.out.b0).mono ?_
  rintro e W2 ⟨rfl, b2⟩
  have HB := hid (HX.out.b0.trans (b2.mono HX.out.b0.size))
  clear b2 HX HV
  go_wp2
  go_ret2
  exact ⟨rfl, HB.out⟩

def yoL (a p : Int) (m : Mch) (c : Int) : List Int := if okM a p m = true then (if vo.carB c = true then yarnL m.ls c m.ls.length else []) else []
def yoC (a p : Int) (m : Mch) (c : Int) : Int := if okM a p m = true then (if vo.carB c = true then 0 else 2) else 1
theorem yoL_len (a p : Int) (m : Mch) (c : Int) : (yoL a p m c).length ≤ 20000 := by
  unfold yoL
  split
  · rename_i h
    split
    · have h1 := yarn_len m.ls c m.ls.length
      have h2 := ls_len (okM_parts h)
      omega
    · simp
  · simp
theorem carImpl (c : Int) (w : World) : Calls Try.prog 112 #[.int .i64 c] w fun e w' => e = .returned (.bool (vo.carB c)) ∧ w = w' := vo.implCar c w
theorem carSpec (c : Int) (w : World) : Calls Try.prog 83 #[.int .i64 c] w fun e w' => e = .returned (.bool (vo.carB c)) ∧ w = w' := vo.specYarn c w


end Go.Proofs.Ytlhpipcmebmpdab.mc
