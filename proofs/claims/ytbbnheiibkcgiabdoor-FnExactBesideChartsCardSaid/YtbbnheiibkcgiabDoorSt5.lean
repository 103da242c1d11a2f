/-
  What one stitch makes of the stacks that it takes: impl.stitch.stacksFrom.
-/
import Derived.Test.YtbbnheiibkcgiabDoorSt3
import Derived.Test.YtbbnheiibkcgiabDoorEx
import Derived.Test.YtbbnheiibkcgiabDoorRp
namespace Go.Proofs.YtbbnheiibkcgiabDoor.st
open Go.RowKit Go.Proofs.YtbbnheiibkcgiabDoor.sl Go.Proofs.YtbbnheiibkcgiabDoor.pm Go.Proofs.YtbbnheiibkcgiabDoor.br Go.Proofs.YtbbnheiibkcgiabDoor.bw
set_option linter.unusedVariables false

theorem own_one (w : World) (x : Int) : sl.Own (w.alloc (.cells #[.int .i64 x] 2)) w.heap.size (w.alloc (.cells #[.int .i64 x] 2)).heap.size (.slice (some ⟨w.heap.size, 0, none⟩) 1 1) [x] :=
  sl.Own.mk' ⟨by simp, .inr ⟨w.heap.size, 1, #[.int .i64 x], rfl, Nat.le_refl _, Go.heap_alloc_new w _, Nat.le_refl _, by unfold maxLen; omega, by simp, by simp⟩⟩
theorem sumL_bnd (ts : List Int) (hn : ts.length ≤ 8) (hb : ∀ q, q < ts.length → 1 ≤ ts.getD q 0 ∧ ts.getD q 0 ≤ 4) : 0 ≤ sumL ts ∧ sumL ts ≤ 32 := by
  have h := sF_bound id ts (fun j hj => by have := hb j hj; exact ⟨by show 0 ≤ ts.getD j 0; omega, by show ts.getD j 0 ≤ 4; omega⟩) ts.length (Nat.le_refl _)
  rw [sF_all] at h
  simp only [List.map_id_fun, id_eq] at h
  omega
theorem ones_rep (k : Nat) : bn.rep k [1] = List.replicate k 1 := by
  induction k with
  | zero => rfl
  | succ k ih => rw [bn.rep_succ, ih, List.replicate_succ']

set_option maxRecDepth 20000 in
set_option maxHeartbeats 1600000 in
theorem implFromG (j : Nat) (hj : 1 ≤ j ∧ j ≤ 11) (h6 : j ≠ 6) (h7 : j ≠ 7) (h4 : j ≠ 4) (h5 : j ≠ 5) (ts : List Int) (v : Value) (B : Nat) (w : World) (ha : Ints w B v ts) (hB : B ≤ w.heap.size) (hn : ts.length ≤ 8) (hb : ∀ q, q < ts.length → 1 ≤ ts.getD q 0 ∧ ts.getD q 0 ≤ 4) :
    Calls Tryd.prog 74 #[.agg #[.int .i32 (syT.getD j 0), .int .i64 (tkT.getD j 0), .int .i64 (mdT.getD j 0), .int .i64 (miT.getD j 0)], v] w fun e w' => ∃ v', e = .returned (.tuple #[v', .bool (!badC (j : Int) ts)]) ∧ sl.Own w' w.heap.size w'.heap.size v' (mkC (j : Int) ts) ∧ Below w.heap.size w w' := by
  have hs := sumL_bnd ts hn hb
  have HSum := hid (fun W (h : Ints W B v ts) => implSum ts 4 v B W h (by omega) (by omega) (fun q hq => by have := hb q hq; omega))
  have HA := hid (fun (a b c d : Int) => ints_al ha (.cells #[.int .i32 a, .int .i64 b, .int .i64 c, .int .i64 d] 104))
  have hal := fun (a b c d : Int) => (Below.refl w.heap.size w).alloc (Nat.le_refl _) (.cells #[.int .i32 a, .int .i64 b, .int .i64 c, .int .i64 d] 104)
  have HAl := hid (fun (a b c d x : Int) => (hal a b c d).alloc (by simp) (.cells #[.int .i64 x] 2))
  obtain ⟨ao, cap, hv⟩ := ints_val ha
  clear ha hb hal
  have HSt := hid (fun (x : Int) (W : World) => implStack x W)
  have HM : Hid (mkC (j : Int) ts = List.replicate (mdT.getD j 0).toNat 1) := hid (by
    rw [mkC, if_neg (by omega), if_neg (by omega), md_at hj])
  have HBd : Hid ((!badC (j : Int) ts) = true) := hid (by
    rw [badC, if_neg (by omega), if_neg (by omega)]; rfl)
  have hne : syT.getD j 0 ≠ 116 ∧ syT.getD j 0 ≠ 115 ∧ syT.getD j 0 ≠ 100 ∧ syT.getD j 0 ≠ 101 :=
    all12 (fun j => j ≠ 6 → j ≠ 7 → j ≠ 4 → j ≠ 5 → syT.getD j 0 ≠ 116 ∧ syT.getD j 0 ≠ 115 ∧ syT.getD j 0 ≠ 100 ∧ syT.getD j 0 ≠ 101) (by decide) hj.2 h6 h7 h4 h5
  obtain ⟨m, hm, hm4⟩ : ∃ m : Nat, mdT.getD j 0 = (m : Int) ∧ m ≤ 4 := by
    have := md_bound (k := (j : Int)) (by simp [knd]; omega)
    rw [md_at hj] at this
    exact ⟨(mdT.getD j 0).toNat, by omega, by omega⟩
  have HM2 : Hid (mkC (j : Int) ts = bn.rep m [1]) := hid (by rw [HM.out, ones_rep, hm, Int.toNat_natCast])
  have HR := hid (fun W v2 (h : Ints W W.heap.size v2 [1]) => bn.repeatW [1] m v2 W.heap.size W h (Nat.le_refl _) (by simp) (by omega))
  clear HM HSt
  rw [hm]
  obtain ⟨n1, n2, n3, n4⟩ := hne
  generalize syT.getD j 0 = a at *
  generalize tkT.getD j 0 = b at *
  generalize miT.getD j 0 = d at *
  have e1 : (a == 116) = false := by simpa using n1
  have e2 : (a == 115) = false := by simpa using n2
  have e3 : (a == 100) = false := by simpa using n3
  have e4 : (a == 101) = false := by simpa using n4
  clear n1 n2 n3 n4 hm h4 h5 h6 h7 hj
  generalize sumL ts = z at *
  generalize ts.length = n at *
  subst hv
  go_enter Tryd.func74, Tryd.ntmps74
  go_wp2_with fail
  refine (HSum.out _ (HA.out a b m d)).mono ?_
  rintro e w1 ⟨rfl, rfl⟩
  have HRw := hid (HR.out ((w.alloc (.cells #[.int .i32 a, .int .i64 b, .int .i64 m, .int .i64 d] 104)).alloc (.cells #[.int .i64 1] 2)) (.slice (some ⟨w.heap.size + 1, 0, none⟩) 1 1) (by
    have h := (own_one (w.alloc (.cells #[.int .i32 a, .int .i64 b, .int .i64 m, .int .i64 d] 104)) 1).ints
    simpa using h))
  clear HR
  go_wp2_with fail
  refine HRw.out.mono ?_
  rintro e w2 ⟨v', rfl, o2, b2⟩
  have O2 := hid o2
  have B2 := hid ((HAl.out a b m d 1).trans (b2.mono (by simp; omega)))
  clear o2 b2
  go_wp2
  go_ret2
  exact ⟨v', by rw [HBd.out]; rfl, by rw [HM2.out]; exact O2.out.lo (lo' := w.heap.size) (by simp; omega), B2.out⟩

set_option maxRecDepth 20000 in
set_option maxHeartbeats 1600000 in
theorem implFrom (j : Nat) (hj : 1 ≤ j ∧ j ≤ 11) (ts : List Int) (v : Value) (B : Nat) (w : World) (ha : Ints w B v ts) (hB : B ≤ w.heap.size) (hn : ts.length ≤ 8) (hb : ∀ q, q < ts.length → 1 ≤ ts.getD q 0 ∧ ts.getD q 0 ≤ 4) :
    Calls Tryd.prog 74 #[.agg #[.int .i32 (syT.getD j 0), .int .i64 (tkT.getD j 0), .int .i64 (mdT.getD j 0), .int .i64 (miT.getD j 0)], v] w fun e w' => ∃ v', e = .returned (.tuple #[v', .bool (!badC (j : Int) ts)]) ∧ sl.Own w' w.heap.size w'.heap.size v' (mkC (j : Int) ts) ∧ Below w.heap.size w w' := by
  have hs := sumL_bnd ts hn hb
  have HSum := hid (fun W (h : Ints W B v ts) => implSum ts 4 v B W h (by omega) (by omega) (fun q hq => by have := hb q hq; omega))
  have HA := hid (fun (a b c d : Int) => ints_al ha (.cells #[.int .i32 a, .int .i64 b, .int .i64 c, .int .i64 d] 104))
  have hal := fun (a b c d : Int) => (Below.refl w.heap.size w).alloc (Nat.le_refl _) (.cells #[.int .i32 a, .int .i64 b, .int .i64 c, .int .i64 d] 104)
  have HAl := hid (fun (a b c d x : Int) => (hal a b c d).alloc (by simp) (.cells #[.int .i64 x] 2))
  obtain ⟨ao, cap, hv⟩ := ints_val ha
  have ha0 := ha
  have hb0 := hb
  clear ha hb hal
  have HSt := hid (fun (x : Int) (W : World) => implStack x W)
  by_cases h6 : j = 6
  · subst h6
    have HM : Hid (mkC (((6 : Nat) : Int)) ts = [sumL ts + 1]) := hid (by simp [mkC])
    have HBd : Hid ((!badC (((6 : Nat) : Int)) ts) = stk (sumL ts + 1)) := hid (by simp [badC])
    obtain ⟨q, hq⟩ : ∃ q, q = stk (sumL ts + 1) := ⟨_, rfl⟩
    have HQ := hid (fun W => hq ▸ HSt.out (sumL ts + 1) W)
    rw [← hq] at HBd
    clear hq HSt
    generalize sumL ts = z at *
    generalize ts.length = n at *
    subst hv
    go_enter Tryd.func74, Tryd.ntmps74
    go_wp2_with fail
    refine (HSum.out _ (HA.out 116 1 1 6)).mono ?_
    rintro e w1 ⟨rfl, rfl⟩
    go_wp2_with fail
    refine (HQ.out _).mono ?_
    rintro e w1 ⟨rfl, rfl⟩
    go_wp2
    go_ret2
    refine ⟨_, by rw [HBd.out]; rfl, ?_, ?_⟩
    · rw [HM.out]; simpa using (own_one (w.alloc (.cells #[.int .i32 116, .int .i64 1, .int .i64 1, .int .i64 6] 104)) (z + 1)).lo (lo' := w.heap.size) (by simp)
    · exact HAl.out 116 1 1 6 _
  by_cases h7 : j = 7
  · subst h7
    have HM : Hid (mkC (((7 : Nat) : Int)) ts = [sumL ts]) := hid (by simp [mkC])
    have HBd : Hid ((!badC (((7 : Nat) : Int)) ts) = true) := hid (by simp [badC])
    generalize sumL ts = z at *
    generalize ts.length = n at *
    subst hv
    go_enter Tryd.func74, Tryd.ntmps74
    go_wp2_with fail
    refine (HSum.out _ (HA.out 115 1 1 7)).mono ?_
    rintro e w1 ⟨rfl, rfl⟩
    go_wp2
    go_ret2
    refine ⟨_, by rw [HBd.out]; rfl, ?_, ?_⟩
    · rw [HM.out]; simpa using (own_one (w.alloc (.cells #[.int .i32 115, .int .i64 1, .int .i64 1, .int .i64 7] 104)) z).lo (lo' := w.heap.size) (by simp)
    · exact HAl.out 115 1 1 7 _
  by_cases h4 : j = 4
  · subst h4
    have HM : Hid (mkC (((4 : Nat) : Int)) ts = [1]) := hid (by simp [mkC]; rfl)
    have HBd : Hid ((!badC (((4 : Nat) : Int)) ts) = stk (sumL ts)) := hid (by simp [badC])
    obtain ⟨q, hq⟩ : ∃ q, q = stk (sumL ts) := ⟨_, rfl⟩
    have HQ := hid (fun W => hq ▸ HSt.out (sumL ts) W)
    rw [← hq] at HBd
    clear hq HSt
    generalize sumL ts = z at *
    generalize ts.length = n at *
    subst hv
    go_enter Tryd.func74, Tryd.ntmps74
    go_wp2_with fail
    refine (HSum.out _ (HA.out 100 2 1 5)).mono ?_
    rintro e w1 ⟨rfl, rfl⟩
    go_wp2_with fail
    refine (HQ.out _).mono ?_
    rintro e w1 ⟨rfl, rfl⟩
    go_wp2
    go_ret2
    refine ⟨_, by rw [HBd.out]; rfl, ?_, ?_⟩
    · rw [HM.out]; simpa using (own_one (w.alloc (.cells #[.int .i32 100, .int .i64 2, .int .i64 1, .int .i64 5] 104)) 1).lo (lo' := w.heap.size) (by simp)
    · exact HAl.out 100 2 1 5 _
  by_cases h5 : j = 5
  · subst h5
    have HM : Hid (mkC (((5 : Nat) : Int)) ts = [1]) := hid (by simp [mkC]; rfl)
    have HBd : Hid ((!badC (((5 : Nat) : Int)) ts) = stk (sumL ts)) := hid (by simp [badC])
    obtain ⟨q, hq⟩ : ∃ q, q = stk (sumL ts) := ⟨_, rfl⟩
    have HQ := hid (fun W => hq ▸ HSt.out (sumL ts) W)
    rw [← hq] at HBd
    clear hq HSt
    generalize sumL ts = z at *
    generalize ts.length = n at *
    subst hv
    go_enter Tryd.func74, Tryd.ntmps74
    go_wp2_with fail
    refine (HSum.out _ (HA.out 101 2 1 4)).mono ?_
    rintro e w1 ⟨rfl, rfl⟩
    go_wp2_with fail
    refine (HQ.out _).mono ?_
    rintro e w1 ⟨rfl, rfl⟩
    go_wp2
    go_ret2
    refine ⟨_, by rw [HBd.out]; rfl, ?_, ?_⟩
    · rw [HM.out]; simpa using (own_one (w.alloc (.cells #[.int .i32 101, .int .i64 2, .int .i64 1, .int .i64 4] 104)) 1).lo (lo' := w.heap.size) (by simp)
    · exact HAl.out 101 2 1 4 _
  exact implFromG j hj h6 h7 h4 h5 ts v B w ha0 hB hn hb0
end Go.Proofs.YtbbnheiibkcgiabDoor.st
