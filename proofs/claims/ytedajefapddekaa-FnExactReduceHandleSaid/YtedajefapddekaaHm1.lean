/-
  The handle that ends first, in the model.
-/
import Derived.Test.YtedajefapddekaaHl5
namespace Go.Proofs.Ytedajefapddekaa.hl
open Go.RowKit Go.Proofs.Ytedajefapddekaa.sl Go.Proofs.Ytedajefapddekaa.br Go.Proofs.Ytedajefapddekaa.bw Go.Proofs.Ytedajefapddekaa.fn
set_option linter.unusedVariables false

def fsA (xs : List Int) : Int := match fst xs with | none => 0 | some pq => pq.1
def fsB (xs : List Int) : Int := match fst xs with | none => 0 | some pq => pq.2
def fsK (xs : List Int) : Bool := (fst xs).isSome
theorem fs_no {xs : List Int} (h : fst xs = none) : fsA xs = 0 ∧ fsB xs = 0 ∧ fsK xs = false := by unfold fsA fsB fsK; rw [h]; exact ⟨rfl, rfl, rfl⟩
theorem fs_yes {xs : List Int} {p q : Nat} (h : fst xs = some (p, q)) : fsA xs = p ∧ fsB xs = q ∧ fsK xs = true := by unfold fsA fsB fsK; rw [h]; exact ⟨rfl, rfl, rfl⟩

theorem hbox (w : World) : Below w.heap.size w (w.alloc (.cells #[.int .i64 0, .int .i64 0] 50)) ∧ (w.alloc (.cells #[.int .i64 0, .int .i64 0] 50)).cell? ⟨w.heap.size, 0, none⟩ = some (.int .i64 0) ∧ (w.alloc (.cells #[.int .i64 0, .int .i64 0] 50)).cell? ⟨w.heap.size, 1, none⟩ = some (.int .i64 0) ∧ (w.alloc (.cells #[.int .i64 0, .int .i64 0] 50)).frozen? ⟨w.heap.size, 0, none⟩ = false ∧ (w.alloc (.cells #[.int .i64 0, .int .i64 0] 50)).frozen? ⟨w.heap.size, 1, none⟩ = false :=
  ⟨(Below.refl _ _).alloc (Nat.le_refl _) _, World.cell?_alloc_at _ _ _ _ rfl, World.cell?_alloc_at _ _ _ _ rfl, World.frozen?_alloc_at _ _ _ _ rfl, World.frozen?_alloc_at _ _ _ _ rfl⟩

set_option maxRecDepth 100000 in
set_option maxHeartbeats 4000000 in
theorem specFirst (xs : List Int) (v : Value) (B : Nat) (w : World) (ha : Ints w B v xs) (hB : B ≤ w.heap.size) (hn : xs.length ≤ 1000000) (hL : Let 11 xs) :
    Calls Try.prog 79 #[v] w fun e w' => e = .returned (.tuple #[.agg #[.int .i64 (fsA xs), .int .i64 (fsB xs)], .bool (fsK xs)]) ∧ Below w.heap.size w w' := by
  have HL := hid hL
  have HA := hid ha
  obtain ⟨ao, cap, hv⟩ := ints_val ha
  obtain ⟨n, hnn⟩ : ∃ n, n = xs.length := ⟨_, rfl⟩
  rw [← hnn] at hv hn
  subst hv
  have HN := hid hnn
  obtain ⟨b1, z0, z1, y0, y1⟩ := hbox w
  have HB1 := hid b1
  have hsz : w.heap.size < (w.alloc (.cells #[.int .i64 0, .int .i64 0] 50)).heap.size := by simp
  clear ha hL hnn b1
  go_enter Try.func79, Try.ntmps79
  go_wp2
  generalize w.alloc (.cells #[.int .i64 0, .int .i64 0] 50) = w0 at *
  go_loopg [4] (n - 1) (fun g x wr => ∃ (q : Nat), (q + g = n ∨ n = 0 ∧ q = 1 ∧ g = 0) ∧ 1 ≤ q ∧ x = .int .i64 q ∧ (∀ i, i < q → hEnd xs i = none) ∧ ∃ m, wr = w0.drewN m)
  case atStart => exact ⟨1, by omega, Nat.le_refl _, rfl, fun i hi => by rw [show i = 0 from by omega]; exact end_free xs 0 (fun j hj => by omega), 0, rfl⟩
  case round =>
    obtain ⟨q, hq, hq1, rfl, hfree, m0, hwr⟩ := hrel
    have HG := hid hfree
    have HWr := hid hwr
    have c0 : wr.cell? ⟨w.heap.size, 0, none⟩ = some (.int .i64 0) := by rw [hwr]; exact z0
    have c1 : wr.cell? ⟨w.heap.size, 1, none⟩ = some (.int .i64 0) := by rw [hwr]; exact z1
    have d0 : wr.frozen? ⟨w.heap.size, 0, none⟩ = false := by rw [hwr]; exact y0
    have d1 : wr.frozen? ⟨w.heap.size, 1, none⟩ = false := by rw [hwr]; exact y1
    have HBr : Hid (Below w.heap.size w wr) := hid (by rw [hwr]; exact bdrewN HB1.out m0)
    clear hfree hwr
    cases gk with
    | zero =>
      have hnq : ¬ ((q : Int) < (n : Int)) := by omega
      have HE := hid (fs_no (fst_none xs (fun i hi => HG.out i (by rw [← HN.out] at hi; omega))))
      clear hq
      go_wp2
      refine bodyPost_ret (v := .tuple #[.agg #[.int .i64 0, .int .i64 0], .bool false]) (by simp [results, Try.results79, go_sem, c0, c1]) rfl ⟨by rw [HE.out.1, HE.out.2.1, HE.out.2.2], ?_⟩
      exact (HBr.out.setCell (p := (⟨w.heap.size, 0, none⟩ : Addr)) (Nat.le_refl _) _).setCell (p := (⟨w.heap.size, 1, none⟩ : Addr)) (Nat.le_refl _) _
    | succ g =>
      have hlt : q < n := by omega
      have HQ := hid hq
      clear hq
      rcases HA.out with ⟨hx, _⟩ | ⟨hp, b, off, cap', hv, hb, hc⟩
      · rw [HN.out, hx] at hlt; simp at hlt
      · simp only [Value.slice.injEq] at hv
        obtain ⟨rfl, hlen, rfl⟩ := hv
        clear hlen
        have h1 : wr.cell? ⟨b, off + q, none⟩ = some (.int .i64 (xs.getD q 0)) := (HBr.out.cell (p := ⟨b, off + q, none⟩) (by show b < _; omega)).trans (hc q (by rw [← HN.out]; exact hlt))
        have HCc := hid hc
        have hy := HL.out.at q (by rw [← HN.out]; exact hlt)
        obtain ⟨y, hyy⟩ : ∃ y, y = xs.getD q 0 := ⟨_, rfl⟩
        rw [← hyy] at h1 hy
        have HY := hid hyy
        have hyb := ab_bound y 11 hy
        obtain ⟨jj, hjj⟩ : ∃ jj, ab y = jj := ⟨_, rfl⟩
        rw [hjj] at hy
        have HGy := hid (quiet_abs y (by omega) jj hjj)
        have HJJ := hid hjj
        have e1 : IntKind.i64.wrap (jj - 1) = jj - 1 := IntWalk.i64_in _ (by omega)
        have e2 : IntKind.i64.wrap (-y) = -y := IntWalk.i64_in _ (by omega)
        clear hc hp hyy hjj
        go_wp2_with fail
        refine (HGy.out _).mono ?_
        rintro e w2 ⟨rfl, hw2⟩
        obtain rfl := hw2.symm
        go_wp2
        go_loopg [6] q (fun g2 x wv => g2 ≤ q ∧ x = .int .i64 ((g2 : Int) - 1) ∧ (∀ i, g2 ≤ i → i < q → stp (ab y) (xs.getD i 0) = false) ∧ wv = wr)
        case atStart => exact ⟨Nat.le_refl _, by go_num, fun i h1 h2 => by omega, rfl⟩
        case round =>
          obtain ⟨hj, rfl, hst, hwv⟩ := hrel
          obtain rfl := hwv.symm
          have HS := hid hst
          clear hst
          cases gk with
          | zero =>
            have HE : Hid (hEnd xs q = none) := hid (end_free xs q (fun i hi => by rw [← HY.out]; exact HS.out i (Nat.zero_le _) hi))
            go_wp2
            go_roundg g
            case measure => omega
            case rel => exact ⟨q + 1, by have := HQ.out; omega, by omega, by go_num, fun i hi => by
              by_cases e : i = q
              · subst e; exact HE.out
              · exact HG.out i (by omega), m0, HWr.out⟩
          | succ j =>
            have k0 : wr.cell? ⟨b, off + j, none⟩ = some (.int .i64 (xs.getD j 0)) := (HBr.out.cell (p := ⟨b, off + j, none⟩) (by show b < _; omega)).trans (HCc.out j (by rw [← HN.out]; omega))
            have hx := HL.out.at j (by rw [← HN.out]; omega)
            obtain ⟨x, hxx⟩ : ∃ x, x = xs.getD j 0 := ⟨_, rfl⟩
            rw [← hxx] at k0 hx
            have HX := hid hxx
            have hxb := ab_bound x 11 hx
            obtain ⟨gx, hgx⟩ : ∃ gx, ab x = gx := ⟨_, rfl⟩
            rw [hgx] at hx
            have HGx := hid (quiet_abs x (by omega) gx hgx)
            have HXX := hid hgx
            have ecast : ((j + 1 : Nat) : Int) - 1 = (j : Int) := by omega
            rw [ecast]
            clear hxx hgx ecast
            have HSf : Hid (∀ i, j < i → i < q → stp (ab (xs.getD q 0)) (xs.getD i 0) = false) := hid (fun i h1 h2 => by rw [← HY.out]; exact HS.out i (by omega) h2)
            by_cases c1 : gx = jj
            · have HStt : Hid (stp (ab (xs.getD q 0)) (xs.getD j 0) = true) := hid (by rw [← HX.out, ← HY.out]; unfold stp; rw [HXX.out, HJJ.out, c1]; simp)
              subst c1
              cases ho : decide (x = -y)
              · have hf : (x == -y) = false := by simpa using ho
                have HE : Hid (hEnd xs q = none) := hid (end_other xs q j (by omega) HStt.out HSf.out (by rw [← HX.out, ← HY.out]; simpa using ho))
                clear ho
                go_wp2_with fail
                refine (HGx.out _).mono ?_
                rintro e w3 ⟨rfl, hw3⟩
                obtain rfl := hw3.symm
                go_wp2
                go_region
                go_wp2
                go_roundg g
                case measure => omega
                case rel => exact ⟨q + 1, by have := HQ.out; omega, by omega, by go_num, fun i hi => by
                  by_cases e : i = q
                  · subst e; exact HE.out
                  · exact HG.out i (by omega), m0 + 1, by rw [HWr.out]; rfl⟩
              · have hf : (x == -y) = true := by simpa using ho
                have HE := hid (fs_yes (fst_some xs j q (by rw [← HN.out]; exact hlt) (end_yes xs q j (by omega) HStt.out HSf.out (by rw [← HX.out, ← HY.out]; simpa using ho)) HG.out))
                clear ho
                go_wp2_with fail
                refine (HGx.out _).mono ?_
                rintro e w3 ⟨rfl, hw3⟩
                obtain rfl := hw3.symm
                go_wp2
                go_region
                go_wp2
                refine bodyPost_ret (v := .tuple #[.agg #[.int .i64 j, .int .i64 q], .bool true]) (by simp [results, Try.results79, go_sem, c0, c1]) rfl ⟨by rw [HE.out.1, HE.out.2.1, HE.out.2.2], ?_⟩
                exact (HBr.out.drew.setCell (p := (⟨w.heap.size, 0, none⟩ : Addr)) (Nat.le_refl _) _).setCell (p := (⟨w.heap.size, 1, none⟩ : Addr)) (Nat.le_refl _) _
            by_cases c2 : gx = jj - 1
            · have hf : (x == -y) = false := by
                have : ¬ x = -y := fun e => by have := HXX.out; rw [e, ab_neg, HJJ.out] at this; omega
                simpa using this
              have HE : Hid (hEnd xs q = none) := hid (end_dec xs q j (by omega) HSf.out (by rw [← HX.out, ← HY.out, HXX.out, HJJ.out]; exact c2))
              subst c2
              have g1 : (jj - 1 != jj) = true := by simp; omega
              clear c1
              go_wp2_with fail
              refine (HGx.out _).mono ?_
              rintro e w3 ⟨rfl, hw3⟩
              obtain rfl := hw3.symm
              go_wp2
              go_region
              go_wp2
              go_roundg g
              case measure => omega
              case rel => exact ⟨q + 1, by have := HQ.out; omega, by omega, by go_num, fun i hi => by
                by_cases e : i = q
                · subst e; exact HE.out
                · exact HG.out i (by omega), m0 + 1, by rw [HWr.out]; rfl⟩
            · have c1' : ¬ stp (ab y) x = true := by unfold stp; rw [HXX.out, HJJ.out]; simp [c1, c2]
              have HSt : Hid (stp (ab y) (xs.getD j 0) = false) := hid (by rw [← HX.out]; simpa using c1')
              clear c1'
              have g1 : (gx != jj) = true := by simp [c1]
              have g2 : (gx != jj - 1) = true := by simp [c2]
              clear c1 c2
              go_wp2_with fail
              refine (HGx.out _).mono ?_
              rintro e w3 ⟨rfl, hw3⟩
              obtain rfl := hw3.symm
              go_wp2
              go_roundg j
              case measure => omega
              case rel => exact ⟨by omega, by go_num, fun i h1 h2 => by
                by_cases e : i = j
                · subst e; exact HSt.out
                · exact HS.out i (by omega) h2, rfl⟩
end Go.Proofs.Ytedajefapddekaa.hl
