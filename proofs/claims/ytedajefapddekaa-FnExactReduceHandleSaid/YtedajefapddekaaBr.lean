/-
  Braids in memory: contracts of the laws' helpers toBraid, eqBraid, markBraid, heldBraid, szBraid.
-/
import Derived.Test.YtedajefapddekaaAp
import Derived.Test.YtedajefapddekaaPerm
import Derived.Test.YtedajefapddekaaBrm
namespace Go.Proofs.Ytedajefapddekaa.br
open Go.RowKit Go.Proofs.Ytedajefapddekaa.sl Go.Proofs.Ytedajefapddekaa.pm

theorem ints_val {w : World} {B : Nat} {v : Value} {xs : List Int} (h : Ints w B v xs) : ∃ ao cap, v = .slice ao xs.length cap := by
  rcases h with ⟨rfl, ao, cap, rfl⟩ | ⟨hp, b, off, cap, rfl, hb', hc⟩ <;> exact ⟨_, _, rfl⟩

theorem ints_al {w : World} {B : Nat} {v : Value} {xs : List Int} (h : Ints w B v xs) (o : Obj) : Ints (w.alloc o) B v xs :=
  h.chg (lo := 0) (hi := 0) ⟨rfl, rfl, rfl, by simp, fun k hk _ => Below.heap_alloc w o k hk⟩ (.inr (Nat.zero_le _))
theorem own_val {w : World} {lo hi : Nat} {v : Value} {xs : List Int} (o : Own w lo hi v xs) : ∃ ao cap, v = .slice ao xs.length cap := by
  rcases o.1.2 with ⟨h, h0⟩ | ⟨g, c, cur, h, _⟩
  · exact ⟨none, 0, by rw [h, h0]⟩
  · exact ⟨_, _, h⟩
theorem chg_set (w : World) (b o : Nat) (u : Value) : Chg b (b + 1) w (w.setCell ⟨b, o, none⟩ u) :=
  ⟨rfl, rfl, rfl, by simp, fun k hk hk' => heap_setCell_other _ _ _ _ (by intro e; simp at e; omega)⟩
theorem own_other {w : World} {lo hi : Nat} {v : Value} {xs : List Int} (h : Own w lo hi v xs) (b o : Nat) (u : Value) (hb : b < lo ∨ hi ≤ b) : Own (w.setCell ⟨b, o, none⟩ u) lo hi v xs :=
  h.chg (chg_set w b o u) (by omega)
theorem bcell {W w1 : World} (hb : Below W.heap.size W w1) : (∀ b o, b < W.heap.size → w1.cell? ⟨b, o, none⟩ = W.cell? ⟨b, o, none⟩) ∧ (∀ b o, b < W.heap.size → w1.frozen? ⟨b, o, none⟩ = W.frozen? ⟨b, o, none⟩) :=
  ⟨fun b o h => hb.cell (p := ⟨b, o, none⟩) h, fun b o h => hb.frozen (p := ⟨b, o, none⟩) h⟩

theorem toB (s : Int) (xs : List Int) (v : Value) (B : Nat) (w : World) (ha : Ints w B v xs) (hB : B ≤ w.heap.size) (hn : xs.length ≤ 1099511627776) :
    Calls Try.prog 29 #[.agg #[.int .i64 s, v]] w fun e w' => ∃ ao cap, e = .returned (.agg #[.int .i64 s, .slice ao xs.length cap]) ∧ Own w' w.heap.size w'.heap.size (.slice ao xs.length cap) xs ∧ Below w.heap.size w w' := by
  obtain ⟨ao, cap, hv⟩ := ints_val ha
  obtain ⟨n, hnn⟩ : ∃ n, n = xs.length := ⟨_, rfl⟩
  rw [← hnn] at hv
  subst hv
  have HN := hid hnn
  clear hnn
  have HA := hid ha
  clear ha
  go_enter Try.func29, Try.ntmps29
  go_wp2_with fail
  refine (toI xs _ B _ (ints_al (ints_al (ints_al HA.out _) _) _) (by simp; omega) hn).mono ?_
  rintro e w1 ⟨v', rfl, o1, b1⟩
  obtain ⟨hc, hf⟩ := bcell b1
  have hz := b1.size
  simp at hz
  obtain ⟨ao1, cap1, hv1⟩ := own_val o1
  rw [← HN.out] at hv1
  subst hv1
  have O1 := hid o1
  have B1 := hid b1
  clear o1 b1
  go_wp2
  refine bodyPost_ret (v := .agg #[.int .i64 s, .slice ao1 n cap1]) (by simp [results, Try.results29, go_sem, hc]) rfl ⟨ao1, cap1, by rw [HN.out], ?_, ?_⟩
  · rw [← HN.out]
    have h1 := O1.out.lo (lo' := w.heap.size + 3) (by simp)
    have h2 := own_other (own_other (own_other h1 (w.heap.size + 1 + 1) 1 (.slice ao1 n cap1) (by omega)) (w.heap.size + 1) 0 (.int .i64 s) (by omega)) (w.heap.size + 1) 1 (.slice ao1 n cap1) (by omega)
    have h3 := h2.lo (lo' := w.heap.size) (by omega)
    simpa using h3
  · have h1 := ((((Below.refl w.heap.size w).alloc (Nat.le_refl _) (.cells #[.int .i64 s, .slice ao n cap] 37)).alloc (by simp) (.cells #[.int .i64 0, .slice none 0 0] 39)).alloc (by simp; omega) (.cells #[.int .i64 s, .slice none 0 0] 39)).trans (B1.out.mono (by simp; omega))
    exact ((h1.setCell (by simp; omega) _).setCell (by simp) _).setCell (by simp) _

/-- Both braids are equal. -/
def sameBr (s t : Int) (xs ys : List Int) : Bool := decide (s = t) && sameB xs ys

theorem eqB (s t : Int) (xs ys : List Int) (v u : Value) (B C : Nat) (w : World) (ha : Ints w B v xs) (hb : Ints w C u ys) (hn : xs.length ≤ 1099511627776) (hm : ys.length ≤ 1099511627776) :
    Calls Try.prog 32 #[.agg #[.int .i64 s, v], .agg #[.int .i64 t, u]] w fun e w' => e = .returned (.bool (sameBr s t xs ys)) ∧ Below w.heap.size w w' := by
  obtain ⟨ao, cap, hv⟩ := ints_val ha
  obtain ⟨ao', cap', hu⟩ := ints_val hb
  obtain ⟨n, hnn⟩ : ∃ n, n = xs.length := ⟨_, rfl⟩
  obtain ⟨m, hmm⟩ : ∃ m, m = ys.length := ⟨_, rfl⟩
  rw [← hnn] at hv
  rw [← hmm] at hu
  subst hv hu
  have HA := hid ha
  have HB := hid hb
  clear ha hb hnn hmm
  by_cases h : s = t
  · subst h
    have HF : Hid (sameBr s s xs ys = sameB xs ys) := hid (by simp [sameBr])
    go_enter Try.func32, Try.ntmps32
    go_wp2_with fail
    refine (eqI xs ys _ _ B C _ (ints_al (ints_al HA.out _) _) (ints_al (ints_al HB.out _) _) hn hm).mono ?_
    rintro e w1 ⟨rfl, b1⟩
    have B1 := hid b1
    clear b1
    obtain ⟨q, hq⟩ : ∃ q, q = sameB xs ys := ⟨_, rfl⟩
    rw [← hq] at HF ⊢
    clear hq
    cases q <;>
      (go_wp2
       go_ret
       exact ⟨by rw [HF.out]; rfl, (((Below.refl w.heap.size w).alloc (Nat.le_refl _) _).alloc (by simp) _).trans (B1.out.mono (by simp; omega))⟩)
  · have HF : Hid (sameBr s t xs ys = false) := hid (by simp [sameBr, h])
    have hd1 : (s == t) = false := by simpa using h
    have hd2 : (s != t) = true := by simpa using h
    clear h
    go_enter Try.func32, Try.ntmps32
    go_wp2
    go_ret
    exact ⟨by rw [HF.out]; rfl, ((Below.refl w.heap.size w).alloc (Nat.le_refl _) _).alloc (by simp) _⟩

theorem eqBS (s : Int) (xs : List Int) (v u : Value) (B C : Nat) (w : World) (ha : Ints w B v xs) (hb : Ints w C u xs) (hn : xs.length ≤ 1099511627776) :
    Calls Try.prog 32 #[.agg #[.int .i64 s, v], .agg #[.int .i64 s, u]] w fun e w' => e = .returned (.bool true) ∧ Below w.heap.size w w' :=
  (eqB s s xs xs v u B C w ha hb hn hn).mono fun _ _ h => ⟨by rw [h.1]; simp [sameBr, sameB_self], h.2⟩

theorem chg_alloc (lo hi : Nat) (w : World) (o : Obj) : Chg lo hi w (w.alloc o) := ⟨rfl, rfl, rfl, by simp, fun k hk _ => Below.heap_alloc w o k hk⟩
theorem own_al {w : World} {lo hi : Nat} {v : Value} {xs : List Int} (h : Own w lo hi v xs) (o : Obj) : Own (w.alloc o) lo hi v xs :=
  h.chg (chg_alloc 0 0 w o) (by omega)

theorem markB (s : Int) (xs : List Int) (v : Value) (lo hi : Nat) (k0 : Int) (w : World) (ho : Own w lo hi v xs) (hn : xs.length ≤ 1099511627776) (hk0 : 0 ≤ k0) (hk1 : k0 ≤ 1099511627776) :
    Calls Try.prog 33 #[.agg #[.int .i64 s, v], .int .i64 k0] w fun e w' => e = .returned (.int .i64 (k0 + xs.length)) ∧ Own w' lo hi v (marks k0 xs.length) ∧ Chg lo hi w w' := by
  obtain ⟨ao, cap, hv⟩ := own_val ho
  obtain ⟨n, hnn⟩ : ∃ n, n = xs.length := ⟨_, rfl⟩
  have HN := hid hnn
  rw [← hnn] at hv
  subst hv
  have HO := hid ho
  clear ho hnn
  go_enter Try.func33, Try.ntmps33
  go_wp2_with fail
  refine (markI xs _ lo hi k0 _ (own_al HO.out _) hn hk0 hk1).mono ?_
  rintro e w1 ⟨rfl, o1, c1⟩
  have O1 := hid o1
  have C1 := hid c1
  clear o1 c1
  go_wp2
  go_ret
  exact ⟨rfl, O1.out, (chg_alloc lo hi w _).trans C1.out⟩

theorem heldB (s : Int) (n : Nat) (v : Value) (B : Nat) (k0 : Int) (w : World) (ha : Ints w B v (marks k0 n)) (hn : n ≤ 1099511627776) (hk0 : 0 ≤ k0) (hk1 : k0 ≤ 1099511627776) :
    Calls Try.prog 34 #[.agg #[.int .i64 s, v], .int .i64 k0] w fun e w' => e = .returned (.int .i64 (k0 + n)) ∧ Below w.heap.size w w' := by
  obtain ⟨ao, cap, hv⟩ := ints_val ha
  rw [marks_len] at hv
  subst hv
  have HA := hid ha
  clear ha
  go_enter Try.func34, Try.ntmps34
  go_wp2_with fail
  refine (heldI n _ B k0 _ (ints_al HA.out _) hn hk0 hk1).mono ?_
  rintro e w1 ⟨rfl, rfl⟩
  go_wp2
  go_ret
  exact ⟨rfl, (Below.refl w.heap.size w).alloc (Nat.le_refl _) _⟩

/-- What is left of a budget. -/
def szL (left : Int) (n : Nat) : Int := if left - (n : Int) < 0 then -1 else left - (n : Int)
theorem szI (ao : Option Addr) (n cap : Nat) (left : Int) (w : World) (hn : n ≤ 9223372036854775807) (h0 : 0 ≤ left) (h1 : left ≤ 1048576) :
    Calls Try.prog 64 #[.slice ao n cap, .int .i64 left] w fun e w' => e = .returned (.int .i64 (szL left n)) ∧ w = w' := by
  by_cases h : left - (n : Int) < 0
  · have HF : Hid (szL left n = -1) := hid (by rw [szL, if_pos h])
    go_enter Try.func64, Try.ntmps64
    go_wp2
    go_ret
    exact ⟨by rw [HF.out]; rfl, rfl⟩
  · have HF : Hid (szL left n = left - (n : Int)) := hid (by rw [szL, if_neg h])
    go_enter Try.func64, Try.ntmps64
    go_wp2
    go_ret
    exact ⟨by rw [HF.out]; rfl, rfl⟩
theorem szB (s : Int) (ao : Option Addr) (n cap : Nat) (left : Int) (w : World) (hn : n ≤ 9223372036854775807) (h0 : 0 ≤ left) (h1 : left ≤ 1048576) :
    Calls Try.prog 27 #[.agg #[.int .i64 s, .slice ao n cap], .int .i64 left] w fun e w' => e = .returned (.int .i64 (szL left n)) ∧ Below w.heap.size w w' := by
  have hb : szL left n = -1 ∨ 0 ≤ szL left n := by unfold szL; split <;> omega
  have hc : szL left n ≤ left := by unfold szL; split <;> omega
  have HS := hid (fun w => szI ao n cap left w hn h0 h1)
  generalize szL left n = q at *
  rcases hb with rfl | hb
  · go_enter Try.func27, Try.ntmps27
    go_wp2_with fail
    refine (HS.out _).mono ?_
    rintro e w1 ⟨rfl, rfl⟩
    go_wp2
    go_ret
    exact ⟨rfl, (Below.refl w.heap.size w).alloc (Nat.le_refl _) _⟩
  · go_enter Try.func27, Try.ntmps27
    go_wp2_with fail
    refine (HS.out _).mono ?_
    rintro e w1 ⟨rfl, rfl⟩
    go_wp2
    go_ret
    exact ⟨rfl, (Below.refl w.heap.size w).alloc (Nat.le_refl _) _⟩
end Go.Proofs.Ytedajefapddekaa.br
