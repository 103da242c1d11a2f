/-
  The text of a colour chart: mathematics; ColoursText of the model.
-/
import Derived.Test.YtnmnikpgjglonaaVc1
import Derived.Test.YtnmnikpgjglonaaDec
import Derived.Laws.Concat
namespace Go.Proofs.Ytnmnikpgjglonaa.cu
open Go.RowKit Go.Proofs.Ytnmnikpgjglonaa.sl Go.Proofs.Ytnmnikpgjglonaa.br Go.Proofs.Ytnmnikpgjglonaa.ss Go.Proofs.Ytnmnikpgjglonaa.nb
set_option linter.unusedVariables false
set_option linter.unusedSimpArgs false
set_option maxRecDepth 100000

def bz (l : List UInt8) : ByteArray := ⟨l.toArray⟩
theorem bz_size (l : List UInt8) : (bz l).size = l.length := by show l.toArray.size = _; simp
theorem bz_app (a b : List UInt8) : bz a ++ bz b = bz (a ++ b) := by apply ByteArray.ext; simp [bz]
theorem catz (a b : List UInt8) (h : a.length + b.length ≤ 100000) (w : World) : (Op.stringOp .add (bz a) (bz b)).run Try.prog w = .ok (.string (bz (a ++ b))) w := by
  have := run_string_add_sum (P := Try.prog) w (bz a) (bz b) (by rw [bz_size, bz_size]; omega)
  rw [bz_app] at this
  exact this
def dg (x : Int) : UInt8 := UInt8.ofNat (48 + x.toNat)
theorem itoa_dg {x : Int} (h : 1 ≤ x ∧ x ≤ 4) : Lib.itoa x = [dg x] := by
  have : x = 1 ∨ x = 2 ∨ x = 3 ∨ x = 4 := by omega
  rcases this with rfl | rfl | rfl | rfl <;> (simp only [Lib.itoa, dg]; rw [if_neg (by omega), Lib.decDigits, dif_pos (by decide)])
def lnL (r : List Int) : List UInt8 := r.map dg ++ [10]
def txT (rows : List (List Int)) (k : Nat) : List UInt8 := (rows.take k).flatMap lnL
def txK (c : Int) (rows : List (List Int)) : ByteArray := if colB c rows = true then bz (txT rows rows.length) else ⟨#[]⟩
theorem txK_no {c : Int} {rows : List (List Int)} (h : colB c rows = false) : txK c rows = ⟨#[]⟩ := by rw [txK, h]; rfl
theorem txK_yes {c : Int} {rows : List (List Int)} (h : colB c rows = true) : txK c rows = bz (txT rows rows.length) := by rw [txK, h]; rfl
theorem txT_succ (rows : List (List Int)) (k : Nat) (h : k < rows.length) : txT rows (k + 1) = txT rows k ++ lnL (rows.getD k []) := by
  rw [txT, txT, List.take_add_one, List.flatMap_append]
  simp [List.getElem?_eq_getElem h, List.getD]
theorem txT_len {c : Int} {rows : List (List Int)} (h : ColK c rows) (k : Nat) (hk : k ≤ rows.length) : (txT rows k).length ≤ k * 9 := by
  induction k with
  | zero => simp [txT]
  | succ k ih =>
    rw [txT_succ rows k (by omega), List.length_append]
    have h1 := ih (by omega)
    have h2 := h.len k (by omega)
    have h3 := h.c8
    simp only [lnL, List.length_append, List.length_map, List.length_cons, List.length_nil]
    omega
theorem map_step (r : List Int) (q : Nat) (h : q < r.length) : (r.take (q + 1)).map dg = (r.take q).map dg ++ [dg (r.getD q 0)] := by
  rw [List.take_succ_eq_append_getElem h, List.map_append]
  simp [List.getD, List.getElem?_eq_getElem h]

set_option maxHeartbeats 4000000 in
theorem specTx19 (c : Int) (rows : List (List Int)) (f : Value) (B p : Nat) (w : World) (h0 : w.cell? ⟨p, 0, none⟩ = some (.int .i64 c)) (h1 : w.cell? ⟨p, 1, none⟩ = some f) (ha : ss.Rows w B f rows) (hk : ColK c rows) :
    Calls Try.prog 45 #[.pointer (some ⟨p, 0, none⟩)] w fun e w' => e = .returned (.string (bz (txT rows rows.length))) ∧ Below w.heap.size w w' := by
  have hn1 := hk.n1
  have hn8 := hk.n8
  have HLn : Hid (∀ j, j < rows.length → (rows.getD j []).length ≤ 8) := hid (fun j hj => by have h1 := hk.len j hj; have h2 := hk.c8; omega)
  have HCar := hid hk.car
  have HTx := hid (fun k (h : k ≤ rows.length) => txT_len hk k h)
  have HSu := hid (txT_succ rows)
  have H0 := hid h0
  have H1 := hid h1
  have HZ : Hid (bz (txT rows 0) = ⟨#[]⟩) := hid rfl
  rcases ha with ⟨h0, _⟩ | ⟨hp, b, off, cap', V, rfl, hb, hc⟩
  · rw [h0] at hn1; simp at hn1
  have HCc := hid hc
  obtain ⟨n, hnn⟩ : ∃ n, n = rows.length := ⟨_, rfl⟩
  rw [← hnn] at hn1 hn8 HCc HLn HTx HSu HCar H1 ⊢
  clear hnn h0 h1 hp hc hk
  go_enter Try.func45, Try.ntmps45
  go_wp2
  go_loopw [3, 4] (fun o i wr => ∃ k : Nat, k ≤ n ∧ i = .int .i64 k ∧ o = .string (bz (txT rows k)) ∧ Below w.heap.size w wr) (fun _ i _ => n - (intOf i).toNat)
  case atStart => exact ⟨0, Nat.zero_le _, rfl, by rw [HZ.out], Below.refl _ _⟩
  case round =>
    obtain ⟨k, hk, rfl, rfl, hbel⟩ := hrel
    have HB := hid hbel
    clear hbel
    have hplt := World.block_lt_of_cell? w _ H0.out
    have k0 := (HB.out.cell (p := ⟨p, 0, none⟩) hplt).trans H0.out
    have k1 := (HB.out.cell (p := ⟨p, 1, none⟩) hplt).trans H1.out
    by_cases hlt : k < n
    · obtain ⟨hcv, hci⟩ := HCc.out k hlt
      have hblt := World.block_lt_of_cell? w _ hcv
      have hcv2 := (HB.out.cell (p := ⟨b, off + k, none⟩) hblt).trans hcv
      have hsk := HLn.out k hlt
      have HCk := hid (fun q h => HCar.out k q hlt h)
      have htl := HTx.out k hk
      have HSk := hid (HSu.out k hlt)
      have hk00 : (0 : Int) ≤ (k : Int) := by omega
      have hk0n : (k : Int) < (n : Int) := by omega
      obtain ⟨ra, rc, hrv⟩ := ints_val hci
      have HCi := hid hci
      have HCv := hid hcv
      obtain ⟨T, hT⟩ : ∃ T, T = txT rows k := ⟨_, rfl⟩
      rw [← hT] at htl HSk ⊢
      generalize rows.getD k [] = xs at *
      generalize V k = V1 at *
      clear hci hcv hT
      obtain ⟨m, hm⟩ : ∃ m, m = xs.length := ⟨_, rfl⟩
      rw [← hm] at hsk hrv HCk
      have HM := hid hm
      clear hm
      subst hrv
      go_wp2
      go_loopw [3, 5] (fun o i wq => ∃ q : Nat, q ≤ m ∧ i = .int .i64 q ∧ o = .string (bz (T ++ (xs.take q).map dg)) ∧ Below w.heap.size w wq) (fun _ i _ => m - (intOf i).toNat)
      case atStart => exact ⟨0, Nat.zero_le _, rfl, by simp, HB.out⟩
      case round =>
        rename World => wq
        obtain ⟨q, hq, rfl, rfl, hbq⟩ := hrel
        have HBq := hid hbq
        clear hbq k0 k1 hcv2
        have k0 := (HBq.out.cell (p := ⟨p, 0, none⟩) hplt).trans H0.out
        have k1 := (HBq.out.cell (p := ⟨p, 1, none⟩) hplt).trans H1.out
        have hcv3 := (HBq.out.cell (p := ⟨b, off + k, none⟩) hblt).trans HCv.out
        by_cases hql : q < m
        · rcases HCi.out with ⟨h0, _⟩ | ⟨_, g, og, cg, hvg, hg, hcg⟩
          · have := HM.out; rw [h0] at this; simp at this; omega
          simp only [Value.slice.injEq] at hvg
          obtain ⟨rfl, h9, rfl⟩ := hvg
          clear h9
          have hcq := hcg q (by rw [← HM.out]; exact hql)
          have hx := (HBq.out.cell (p := ⟨g, og + q, none⟩) (World.block_lt_of_cell? w _ hcq)).trans hcq
          have hxr := HCk.out q hql
          have HSt := hid (map_step xs q (by rw [← HM.out]; exact hql))
          obtain ⟨xx, hxx⟩ : ∃ x, x = xs.getD q 0 := ⟨_, rfl⟩
          rw [← hxx] at hx hxr HSt
          have HDc := hid (fun W => dc.dec xx W (by omega) (by omega))
          rw [itoa_dg hxr, show (⟨[dg xx].toArray⟩ : ByteArray) = bz [dg xx] from rfl] at HDc
          have hadd := fun W => catz (T ++ (xs.take q).map dg) [dg xx] (by simp only [List.length_append, List.length_map, List.length_take, List.length_cons, List.length_nil]; omega) W
          rw [List.append_assoc, ← HSt.out] at hadd
          obtain ⟨U, hU⟩ : ∃ U, U = bz (T ++ (xs.take q).map dg) := ⟨_, rfl⟩
          rw [← hU] at hadd ⊢
          obtain ⟨D, hD⟩ : ∃ D, D = bz [dg xx] := ⟨_, rfl⟩
          rw [← hD] at hadd HDc
          clear hg hcg hcq hxx hU hD HSt
          go_wp2_with fail
          refine (HDc.out _).mono ?_
          rintro e w2 ⟨rfl, b2⟩
          have HB2 := hid (HBq.out.trans (b2.mono HBq.out.size))
          clear b2
          go_wp2
          go_roundw
          case rel => exact ⟨q + 1, by omega, by go_num, by first | rfl | rw [List.map_take], HB2.out⟩
          case measure => simp [intOf]; omega
        · obtain rfl : q = m := by omega
          have hnl := fun W => catz (T ++ (xs.take q).map dg) [10] (by simp only [List.length_append, List.length_map, List.length_take, List.length_cons, List.length_nil]; omega) W
          have hTe : T ++ (xs.take q).map dg ++ [10] = txT rows (k + 1) := by
            rw [HSk.out, HM.out, List.take_length, lnL, List.append_assoc]
          rw [hTe, show bz [10] = (⟨#[10]⟩ : ByteArray) from rfl] at hnl
          generalize bz (T ++ (xs.take q).map dg) = U at *
          clear hTe
          go_wp2
          go_roundw
          case rel => exact ⟨k + 1, by omega, by go_num, rfl, HBq.out⟩
          case measure => simp [intOf]; omega
    · obtain rfl : k = n := by omega
      go_wp2
      go_ret
      exact ⟨rfl, HB.out⟩
theorem specCT (c : Int) (xs : List (List Int)) (f : Value) (B : Nat) (w : World) (ha : ss.Rows w B f xs) (hB : B ≤ w.heap.size) (hq : nb.Small xs) :
    Calls Try.prog 17 #[.agg #[.int .i64 c, f]] w fun e w' => e = .returned (.string (txK c xs)) ∧ Below w.heap.size w w' := by
  have hb0 := (Below.refl w.heap.size w).alloc (Nat.le_refl _) (.cells #[.int .i64 c, f] 27)
  have HS := hid (specOk19 c xs f B w.heap.size (w.alloc (.cells #[.int .i64 c, f] 27)) (World.cell?_alloc_at _ _ _ _ rfl) (World.cell?_alloc_at _ _ _ _ rfl) (ha.below hb0) hq)
  have HB0 := hid hb0
  have HX := hid (fun (W : World) (b : Below (w.alloc (.cells #[.int .i64 c, f] 27)).heap.size (w.alloc (.cells #[.int .i64 c, f] 27)) W) hk => specTx19 c xs f B w.heap.size W ((b.cell (p := ⟨w.heap.size, 0, none⟩) (by simp)).trans (World.cell?_alloc_at _ _ _ _ rfl)) ((b.cell (p := ⟨w.heap.size, 1, none⟩) (by simp)).trans (World.cell?_alloc_at _ _ _ _ rfl)) ((ha.below hb0).below b) hk)
  obtain ⟨ao, cap, hv⟩ := rows_val ha
  cases hok : colB c xs with
  | false =>
    rw [txK_no hok]
    rw [hok] at HS
    clear ha hb0 hq HX hok
    generalize xs.length = n at *
    subst hv
    go_enter Try.func17, Try.ntmps17
    go_wp2_with fail
    refine HS.out.mono ?_
    rintro e w1 ⟨rfl, b1⟩
    have B1 := hid (HB0.out.trans (b1.mono HB0.out.size))
    clear b1
    go_wp2
    go_ret
    exact ⟨rfl, B1.out⟩
  | true =>
    rw [txK_yes hok]
    rw [hok] at HS
    have HK := hid (col_k hok)
    clear ha hb0 hq hok
    generalize bz (txT xs xs.length) = U at *
    generalize xs.length = n at *
    subst hv
    go_enter Try.func17, Try.ntmps17
    go_wp2_with fail
    refine HS.out.mono ?_
    rintro e w1 ⟨rfl, b1⟩
    have B1 := hid (HB0.out.trans (b1.mono HB0.out.size))
    have HC := hid (HX.out w1 b1 HK.out)
    clear b1
    go_wp2_with fail
    refine HC.out.mono ?_
    rintro e w2 ⟨rfl, b2⟩
    have B2 := hid (B1.out.trans (b2.mono B1.out.size))
    clear b2
    go_wp2
    go_ret
    exact ⟨rfl, B2.out⟩
end Go.Proofs.Ytnmnikpgjglonaa.cu
