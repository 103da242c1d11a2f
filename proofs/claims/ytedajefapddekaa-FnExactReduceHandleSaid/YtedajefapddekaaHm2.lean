/-
  Reducing a handle, in the model.
-/
import Derived.Test.YtedajefapddekaaHm1
import Derived.Test.YtedajefapddekaaHl8
namespace Go.Proofs.Ytedajefapddekaa.hl
open Go.RowKit Go.Proofs.Ytedajefapddekaa.sl Go.Proofs.Ytedajefapddekaa.br Go.Proofs.Ytedajefapddekaa.bw Go.Proofs.Ytedajefapddekaa.fn
set_option linter.unusedVariables false

theorem ownM (xs : List Int) (v : Value) (B : Nat) (w : World) (ha : Ints w B v xs) (hnil : NilOk v) (hn : xs.length ≤ 1099511627776) :
    Calls Try.prog 101 #[v] w fun e w' => ∃ v', e = .returned v' ∧ sl.Own w' w.heap.size w'.heap.size v' xs ∧ Below w.heap.size w w' := by
  go_enter Try.func101, Try.ntmps101
  go_wp2_with (at_builtin; refine wp_appendAll rfl _ _ rfl w.heap.size _ _ [] (Own.built w #[] rfl) rfl v xs B (ha.chg (Chg.ofBelow (lo := 0) ((Below.refl w.heap.size w).alloc (Nat.le_refl _) _)) (.inr (Nat.zero_le _))) hnil rfl (by simp) (by simp; omega) ?_; intro v' w1 o1 c1)
  go_ret
  refine ⟨v', rfl, by simpa using o1, ?_⟩
  exact ((Below.refl w.heap.size w).alloc (Nat.le_refl _) (.cells #[] 2)).trans (c1.below (B := w.heap.size) (by omega) (by simp))

theorem ints3 (w : World) (a b c : Int) : Ints (w.alloc (.cells #[.int .i64 a, .int .i64 b, .int .i64 c] 2)) (w.heap.size + 1) (.slice (some ⟨w.heap.size, 0, none⟩) 3 3) [a, b, c] := by
  refine .inr ⟨by simp, w.heap.size, 0, 3, rfl, by omega, fun j hj => ?_⟩
  rw [Nat.zero_add, World.cell?_alloc_at _ _ _ _ rfl]
  match j, hj with
  | 0, _ => rfl
  | 1, _ => rfl
  | 2, _ => rfl
theorem sg_div (y : Int) (h : 1 ≤ ab y) : Int.tdiv y (ab y) = sg y := by
  unfold ab sg at *
  split at h
  · rw [if_pos (by assumption), if_pos (by assumption), Int.tdiv_neg, Int.tdiv_self (by omega)]
  · rw [if_neg (by assumption), if_neg (by assumption)]; exact Int.tdiv_self (by omega)

set_option maxRecDepth 100000 in
set_option maxHeartbeats 4000000 in
theorem specRd (xs : List Int) (p q : Nat) (v : Value) (B : Nat) (w : World) (ha : Ints w B v xs) (hB : B ≤ w.heap.size) (hpq : p < q) (hq : q < xs.length) (hn : xs.length ≤ 10000) (hL : Let 11 xs) (hcp : ∀ ao n cap, v = .slice ao n cap → n ≤ cap ∧ cap ≤ 9223372036854775807) :
    Calls Try.prog 84 #[v, .agg #[.int .i64 p, .int .i64 q]] w fun e w' => ∃ v', e = .returned v' ∧ Own w' w.heap.size w'.heap.size v' (hred xs p q) ∧ Below w.heap.size w w' := by
  have hcapp := hcp
  clear hcp
  have HA := hid ha
  rcases ha with ⟨hx, _⟩ | ⟨hp0, b, off, cap, hv, hb, hc⟩
  · rw [hx] at hq; simp at hq
  obtain ⟨n, hnn⟩ : ∃ n, n = xs.length := ⟨_, rfl⟩
  rw [← hnn] at hv hq hn hp0
  subst hv
  have hcap := hcapp _ _ _ rfl
  clear hcapp
  have HN := hid hnn
  have HC := hid hc
  have HL := hid hL
  clear hL hnn hc
  have c0 : (w.alloc (.cells #[.int .i64 p, .int .i64 q] 50)).cell? ⟨w.heap.size, 0, none⟩ = some (.int .i64 p) := World.cell?_alloc_at _ _ _ _ rfl
  have c1 : (w.alloc (.cells #[.int .i64 p, .int .i64 q] 50)).cell? ⟨w.heap.size, 1, none⟩ = some (.int .i64 q) := World.cell?_alloc_at _ _ _ _ rfl
  have HB1 := hid ((Below.refl w.heap.size w).alloc (Nat.le_refl _) (.cells #[.int .i64 p, .int .i64 q] 50))
  have hz1 : (w.alloc (.cells #[.int .i64 p, .int .i64 q] 50)).heap.size = w.heap.size + 1 := by simp
  have HAt : Hid (Ints (w.alloc (.cells #[.int .i64 p, .int .i64 q] 50)) B (.slice (some ⟨b, off, none⟩) p cap) (xs.take p)) := hid (by
    by_cases h0 : p = 0
    · subst h0; exact .inl ⟨by simp, _, _, rfl⟩
    · have hl : (xs.take p).length = p := by rw [List.length_take, ← HN.out]; omega
      refine .inr ⟨by omega, b, off, cap, by rw [hl], hb, fun j hj => ?_⟩
      rw [hl] at hj
      rw [HB1.out.cell (p := ⟨b, off + j, none⟩) (by show b < _; omega), HC.out j (by rw [← HN.out]; omega)]
      simp [List.getD, List.getElem?_take_of_lt hj])
  have h1 : (w.alloc (.cells #[.int .i64 p, .int .i64 q] 50)).cell? ⟨b, off + p, none⟩ = some (.int .i64 (xs.getD p 0)) := (HB1.out.cell (p := ⟨b, off + p, none⟩) (by show b < _; omega)).trans (HC.out p (by rw [← HN.out]; omega))
  have HOw := hid (ownM (xs.take p) (.slice (some ⟨b, off, none⟩) p cap) B (w.alloc (.cells #[.int .i64 p, .int .i64 q] 50)) HAt.out (fun n cap h => by cases h) (by have := List.length_take_le p xs; omega))
  have hx := HL.out.at p (by rw [← HN.out]; omega)
  obtain ⟨y, hy⟩ : ∃ y, y = xs.getD p 0 := ⟨_, rfl⟩
  rw [← hy] at h1 hx
  have HY := hid hy
  have hyb := ab_bound y 11 hx
  have hdv := sg_div y hx.1
  obtain ⟨j, hj⟩ : ∃ j, ab y = j := ⟨_, rfl⟩
  obtain ⟨e, he⟩ : ∃ e, sg y = e := ⟨_, rfl⟩
  rw [hj, he] at hdv
  rw [hj] at hx
  have hsg : e = 1 ∨ e = -1 := by rw [← he]; exact sg_two y
  have HGy := hid (quiet_abs y (by omega) j hj)
  have HJ := hid hj
  have HE := hid he
  have HJb := hid hx
  have w1 : IntKind.i64.wrap (-e) = -e := IntWalk.i64_in _ (by omega)
  have w2 : IntKind.i64.wrap (j + 1) = j + 1 := IntWalk.i64_in _ (by omega)
  have w3 : IntKind.i64.wrap (-e * (j + 1)) = -e * (j + 1) := IntWalk.i64_in _ (by rcases hsg with rfl | rfl <;> omega)
  have w4 : IntKind.i64.wrap (e * (j + 1)) = e * (j + 1) := IntWalk.i64_in _ (by rcases hsg with rfl | rfl <;> omega)
  have w5 : IntKind.i64.wrap e = e := IntWalk.i64_in _ (by omega)
  have hj0 : ¬ j = 0 := by omega
  have hj1 : ¬ j + 1 = 0 := by omega
  have HPQ := hid hpq
  have HQ := hid hq
  have hpc : p ≤ cap := by omega
  have hpn : p < n := by omega
  clear hy hj he hsg hpq hq HAt hp0
  go_enter Try.func84, Try.ntmps84
  go_wp2_with fail
  generalize w.alloc (.cells #[.int .i64 p, .int .i64 q] 50) = w0 at *
  refine HOw.out.mono ?_
  rintro e1 w6 ⟨v6, rfl, o6, b6⟩
  have HO6 := hid (o6.lo (lo' := w.heap.size + 1) (by omega))
  have HB6 := hid (b6.mono (show w.heap.size + 1 ≤ w0.heap.size by omega))
  have d0 := (b6.cell (p := ⟨w.heap.size, 0, none⟩) (by show w.heap.size < _; omega)).trans c0
  have d1 := (b6.cell (p := ⟨w.heap.size, 1, none⟩) (by show w.heap.size < _; omega)).trans c1
  have HC1 := hid c1
  have k1 := (b6.cell (p := ⟨b, off + p, none⟩) (by show b < _; omega)).trans h1
  clear o6 b6 c0 c1 h1
  go_wp2_with fail
  refine (HGy.out _).mono ?_
  rintro e2 w7 ⟨rfl, hw7⟩
  obtain rfl := hw7.symm
  go_wp2
  go_loopg [5, 8] (q - (p + 1)) (fun g u x wr => ∃ i : Nat, i + g = q ∧ p < i ∧ x = .int .i64 i ∧ (∃ ao cap, u = .slice ao (hrTo xs p i).length cap) ∧ Own wr (w.heap.size + 1) wr.heap.size u (hrTo xs p i) ∧ Below (w.heap.size + 1) w0 wr)
  case atStart =>
    refine ⟨p + 1, by have := HPQ.out; omega, by omega, by go_num, ?_, ?_, HB6.out⟩
    · obtain ⟨ao, cp, hv⟩ := br.own_val HO6.out
      exact ⟨ao, cp, by rw [hrTo_zero]; exact hv⟩
    · rw [hrTo_zero]; exact HO6.out
  case round =>
    obtain ⟨i, hig, hpi, rfl, ⟨ao, cp, rfl⟩, hown, hbel0⟩ := hrel
    have HO := hid hown
    have HB0 := hid hbel0
    have hbel := HB1.out.trans (hbel0.mono (Nat.le_succ _))
    have HB := hid hbel
    have e1 := (hbel0.cell (p := ⟨w.heap.size, 1, none⟩) (Nat.lt_succ_self _)).trans HC1.out
    have hsz1 : w.heap.size + 1 ≤ wr.heap.size := by have := hbel0.size; omega
    clear hbel0
    have HI := hid (And.intro hig hpi)
    have hsz := hbel.size
    have hlen := hrTo_len xs p i hpi (by rw [← HN.out]; have := HQ.out; omega)
    have hiq : i ≤ q := by omega
    have hqn := HQ.out
    have HLn : Hid ((hrTo xs p i).length ≤ 30000) := hid (by omega)
    clear hown hbel hlen
    have hbs : b < w.heap.size := by omega
    cases gk with
    | zero =>
      obtain rfl : i = q := by omega
      obtain ⟨m, hm⟩ : ∃ m, m = (hrTo xs p i).length := ⟨_, rfl⟩
      rw [← hm] at HO
      rw [← hm]
      have HM := hid hm
      clear hm hig
      have w9 : IntKind.i64.wrap ((i : Int) + 1) = (i : Int) + 1 := IntWalk.i64_in _ (by omega)
      have hq1 : i + 1 ≤ n := by omega
      have hq2 : i + 1 ≤ cap := by omega
      have HTl : ∀ (ad : Option Addr) (l c : Nat), l = n - (i + 1) → (0 < n - (i + 1) → ad = some ⟨b, off + (i + 1), none⟩) → Hid (Ints wr B (.slice ad l c) (xs.drop (i + 1))) := fun ad l c hlc had => hid (by
        subst hlc
        have hdl : (xs.drop (i + 1)).length = n - (i + 1) := by rw [List.length_drop, ← HN.out]
        by_cases h0 : n - (i + 1) = 0
        · refine .inl ⟨List.length_eq_zero_iff.1 (by omega), ad, _, by rw [h0]⟩
        · refine .inr ⟨by omega, b, off + (i + 1), _, by rw [had (by omega), hdl], hb, fun j hj => ?_⟩
          rw [hdl] at hj
          rw [HB.out.cell (p := ⟨b, off + (i + 1) + j, none⟩) (by show b < _; omega), show off + (i + 1) + j = off + (i + 1 + j) from by omega, HC.out (i + 1 + j) (by rw [← HN.out]; omega)]
          simp [List.getD, List.getElem?_drop])
      have hln2 : (hrTo xs p i).length + (xs.drop (i + 1)).length ≤ 1099511627776 := by have := HLn.out; rw [List.length_drop, ← HN.out]; omega
      by_cases hcq : cap = i + 1
      · have hT := fun l c hlc => HTl (some ⟨b, off, none⟩) l c hlc (fun h => by omega)
        go_wp2_with (at_builtin; refine wp_appendAll rfl _ _ rfl (w.heap.size + 1) wr.heap.size _ (hrTo xs p i) HO.out rfl _ (xs.drop (i + 1)) B (hT _ _ (by first | rfl | omega)).out (fun n cap h => by cases h) rfl hsz1 hln2 ?_; intro v8 w8 o8 c8; have HO8 := hid o8; have HB8 := hid (HB.out.trans (c8.below (Nat.le_succ _) hsz)); clear o8 c8)
        go_ret
        exact ⟨v8, rfl, HO8.out.lo (Nat.le_succ _), HB8.out⟩
      · have hT := HTl (some ⟨b, off + (i + 1), none⟩) _ (cap - (i + 1)) rfl (fun h => rfl)
        go_wp2_with (at_builtin; refine wp_appendAll rfl _ _ rfl (w.heap.size + 1) wr.heap.size _ (hrTo xs p i) HO.out rfl _ (xs.drop (i + 1)) B hT.out (fun n cap h => by cases h) rfl hsz1 hln2 ?_; intro v8 w8 o8 c8; have HO8 := hid o8; have HB8 := hid (HB.out.trans (c8.below (Nat.le_succ _) hsz)); clear o8 c8)
        go_ret
        exact ⟨v8, rfl, HO8.out.lo (Nat.le_succ _), HB8.out⟩
    | succ g =>
      have hin : i < xs.length := by rw [← HN.out]; omega
      have z1 : wr.cell? ⟨b, off + i, none⟩ = some (.int .i64 (xs.getD i 0)) := (HB.out.cell (p := ⟨b, off + i, none⟩) hbs).trans (HC.out i hin)
      have hzl := HL.out.at i hin
      have HIS := hid (hrTo_succ xs p i hpi hin)
      obtain ⟨z, hz⟩ : ∃ z, z = xs.getD i 0 := ⟨_, rfl⟩
      rw [← hz] at z1 hzl HIS
      have hzb := ab_bound z 11 hzl
      have hdz := sg_div z hzl.1
      obtain ⟨gz, hgz⟩ : ∃ gz, ab z = gz := ⟨_, rfl⟩
      rw [hgz] at hzl hdz
      have HGz := hid (quiet_abs z (by omega) gz hgz)
      have HGZ := hid hgz
      have hin2 : i < n := by omega
      have hlt : i < q := by omega
      obtain ⟨M, hM⟩ : ∃ M, M = hrTo xs p i := ⟨_, rfl⟩
      have HMl : Hid (M.length ≤ 30000) := hid (by rw [hM]; exact HLn.out)
      rw [← hM] at HO HIS
      rw [← hM]
      have HIQ : Hid (i + (g + 1) = q) := hid hig
      clear hz hgz hin hM hig
      obtain ⟨m, hm⟩ : ∃ m, m = M.length := ⟨_, rfl⟩
      rw [← hm] at HO
      rw [← hm]
      have HM := hid hm
      clear hm
      by_cases hw : gz = j + 1
      · subst hw
        have hsz' : sg z = 1 ∨ sg z = -1 := sg_two z
        have HW : Hid (wide (ab (xs.getD p 0)) (sg (xs.getD p 0)) z = [-e * (j + 1), sg z * j, e * (j + 1)]) := hid (by rw [← HY.out, HJ.out, HE.out]; unfold wide; rw [if_pos HGZ.out])
        obtain ⟨d, hd⟩ : ∃ d, sg z = d := ⟨_, rfl⟩
        rw [hd] at hsz' hdz HW
        have w8 : IntKind.i64.wrap (d * j) = d * j := IntWalk.i64_in _ (by rcases hsz' with rfl | rfl <;> omega)
        have w9 : IntKind.i64.wrap d = d := IntWalk.i64_in _ (by omega)
        clear hd hsz'
        go_wp2_with fail
        refine (HGz.out _).mono ?_
        rintro e3 w10 ⟨rfl, hw10⟩
        obtain rfl := hw10.symm
        go_wp2_with (at_builtin; refine wp_appendAll rfl _ _ rfl (w.heap.size + 1) wr.heap.size _ M (br.own_al HO.out _) rfl _ [-e * (j + 1), d * j, e * (j + 1)] _ (ints3 wr _ _ _) (fun n cap h => by cases h) rfl (by simp; omega) (by have := HMl.out; simp; omega) ?_; intro v8 w8 o8 c8; have HO8 := hid o8; have HB8 := hid ((HB0.out.alloc hsz1 _).trans (c8.below (B := w.heap.size + 1) (Nat.le_refl _) (by simp; omega))); obtain ⟨ao8, cp8, rfl⟩ := br.own_val HO8.out; clear o8 c8)
        go_roundg g
        case measure => omega
        case rel => exact ⟨i + 1, by have := HIQ.out; omega, by omega, by go_num, ⟨ao8, cp8, by rw [HIS.out, HW.out, List.length_append]; rfl⟩, by rw [HIS.out, HW.out]; have h9 := HO8.out; rw [List.length_append] at h9; exact h9, HB8.out⟩
      · have b1 : (gz == j + 1) = false := by simpa using hw
        have b2 : (gz != j + 1) = true := by simpa using hw
        have HW : Hid (wide (ab (xs.getD p 0)) (sg (xs.getD p 0)) z = [z]) := hid (by rw [← HY.out, HJ.out, HE.out]; unfold wide; rw [HGZ.out, if_neg hw])
        clear hw
        go_wp2_with fail
        refine (HGz.out _).mono ?_
        rintro e3 w10 ⟨rfl, hw10⟩
        obtain rfl := hw10.symm
        go_wp2_with (at_builtin; refine wp_append rfl _ _ rfl (w.heap.size + 1) wr.heap.size _ M z HO.out rfl rfl hsz1 (by have := HMl.out; omega) ?_; intro v8 w8 o8 c8 s8; have HO8 := hid o8; have HB8 := hid (HB0.out.trans (c8.below (B := w.heap.size + 1) (Nat.le_refl _) hsz1)); obtain ⟨ao8, cp8, rfl⟩ := br.own_val HO8.out; clear o8 c8)
        go_roundg g
        case measure => omega
        case rel => exact ⟨i + 1, by have := HIQ.out; omega, by omega, by go_num, ⟨ao8, cp8, by rw [HIS.out, HW.out, List.length_append]; rfl⟩, by rw [HIS.out, HW.out]; have h9 := HO8.out; rw [List.length_append] at h9; exact h9, HB8.out⟩
end Go.Proofs.Ytedajefapddekaa.hl
