/-
  Strands of events: mathematics; the model's l10Count, StrandsOf and ValidEvents.
-/
import Derived.Test.YtiacfejileeieaaEvu
namespace Go.Proofs.Ytiacfejileeieaa.ev
open Go.RowKit Go.Sort Go.Proofs.Ytiacfejileeieaa.sl Go.Proofs.Ytiacfejileeieaa.nd Go.Proofs.Ytiacfejileeieaa.vo
set_option linter.unusedVariables false
set_option linter.unusedSimpArgs false

def goodB (s : Int) (x : V) : Bool := evB s x && decide (nxt s x ≤ 12)
/-- The strands behind the first k events. -/
def st (xs : List V) : Nat → Option Int
  | 0 => some 0
  | k + 1 => (st xs k).bind fun s => if goodB s (xs.getD k oz) then some (nxt s (xs.getD k oz)) else none
theorem st_range {xs : List V} : ∀ {k : Nat} {s : Int}, st xs k = some s → 0 ≤ s ∧ s ≤ 12
  | 0, s, h => by simp [st] at h; omega
  | k + 1, s, h => by
    simp only [st, Option.bind_eq_some_iff] at h
    obtain ⟨t, h1, h2⟩ := h
    have := st_range h1
    split at h2
    · rename_i h3
      simp only [Option.some.injEq] at h2
      simp only [goodB, Bool.and_eq_true, decide_eq_true_eq] at h3
      have := nxt_bound h3.1 (by omega)
      omega
    · cases h2
theorem st_next {xs : List V} {k : Nat} {s : Int} (h : st xs k = some s) : st xs (k + 1) = if goodB s (xs.getD k oz) then some (nxt s (xs.getD k oz)) else none := by simp only [st, h, Option.bind_some]
theorem st_none {xs : List V} {k : Nat} (h : st xs k = none) : ∀ d, st xs (k + d) = none
  | 0 => h
  | d + 1 => by show st xs ((k + d) + 1) = none; simp only [st, st_none h d, Option.bind_none]
theorem st_bad {xs : List V} {k : Nat} {s : Int} (h : st xs k = some s) (hb : goodB s (xs.getD k oz) = false) (hk : k < xs.length) : st xs xs.length = none := by
  have h1 : st xs (k + 1) = none := by rw [st_next h, hb]; rfl
  have h2 := st_none h1 (xs.length - (k + 1))
  rwa [show k + 1 + (xs.length - (k + 1)) = xs.length from by omega] at h2
def okE (xs : List V) : Bool := (st xs xs.length).isSome && decide (xs.length ≤ 2000)
def strE (xs : List V) : Int := if okE xs then (st xs xs.length).getD 0 else 0
def codE (xs : List V) : Int := if okE xs then 0 else 1
theorem okE_bad {xs : List V} {k : Nat} {s : Int} (h : st xs k = some s) (hb : goodB s (xs.getD k oz) = false) (hk : k < xs.length) : okE xs = false := by simp [okE, st_bad h hb hk]
theorem okE_end {xs : List V} {s : Int} (h : st xs xs.length = some s) : okE xs = decide (xs.length ≤ 2000) := by simp [okE, h]
theorem strE_end {xs : List V} {s : Int} (h : st xs xs.length = some s) (hok : okE xs = true) : strE xs = s := by simp [strE, hok, h]
def CntPost (xs : List V) (w : World) (e : Ending) (w' : World) : Prop := ∃ z : Int, e = .returned (.tuple #[.int .i64 z, .bool (okE xs)]) ∧ (okE xs = true → z = strE xs) ∧ Below w.heap.size w w'

set_option maxRecDepth 100000 in
set_option maxHeartbeats 1000000 in
theorem specCnt (xs : List V) (v : Value) (B : Nat) (w : World) (ha : Ops w B v xs) (hB : B ≤ w.heap.size) (hq : Small xs) :
    Calls Try.prog 90 #[v] w (CntPost xs w) := by
  have hn := hq.len
  clear hq
  rcases ha with ⟨rfl, ao, cap, rfl, hao⟩ | ⟨hp, b, off, cap, rfl, hb, hc⟩
  · go_enter Try.func90, Try.ntmps90
    go_wp2
    refine wp_loop_rounds 1 ?_
    rw [rounds_succ]
    go_wp2
    try go_ret2
    exact ⟨0, rfl, fun _ => rfl, Below.refl _ _⟩
  · have HC := hid hc
    clear hc
    obtain ⟨P, hP⟩ : ∃ P, P = CntPost xs w := ⟨_, rfl⟩
    have hE := hid (fun (z : Int) (w' : World) (h : okE xs = true → z = strE xs) (hb : Below w.heap.size w w') => (show CntPost xs w (.returned (.tuple #[.int .i64 z, .bool (okE xs)])) w' from ⟨z, rfl, h, hb⟩))
    rw [← hP] at hE ⊢
    clear hP
    have HBad := hid (fun k s h1 h2 h3 => okE_bad (xs := xs) (k := k) (s := s) h1 h2 h3)
    have HEnd := hid (fun s h => okE_end (xs := xs) (s := s) h)
    have HEnd2 := hid (fun s h => strE_end (xs := xs) (s := s) h)
    obtain ⟨n, hnn⟩ : ∃ n, n = xs.length := ⟨_, rfl⟩
    rw [← hnn] at hp hn HC HBad HEnd HEnd2 ⊢
    clear hnn
    generalize okE xs = q at *
    go_enter Try.func90, Try.ntmps90
    go_wp2
    go_loopw [4, 5] (fun s i wr => ∃ (k : Nat) (s' : Int), k ≤ n ∧ i = .int .i64 k ∧ s = .int .i64 s' ∧ st xs k = some s' ∧ Below w.heap.size w wr) (fun _ i _ => n - (intOf i).toNat)
    case atStart => exact ⟨0, 0, Nat.zero_le _, rfl, rfl, rfl, Below.refl _ _⟩
    case round =>
      obtain ⟨k, s, hk, rfl, rfl, hst, hbel⟩ := hrel
      have HB := hid hbel
      have HST := hid hst
      have hsr := st_range hst
      clear hbel hst
      by_cases hlt : k < n
      · have HA := (HC.out k hlt).below HB.out
        have HV := hid (specV (xs.getD k oz) s b (off + k * 6) wr HA hsr.1 (by omega))
        have HBd := hid (HBad.out k s HST.out)
        have HNx : Hid (st xs (k + 1) = if goodB s (xs.getD k oz) then some (nxt s (xs.getD k oz)) else none) := hid (st_next HST.out)
        generalize xs.getD k oz = x at *
        clear HA
        go_wp2_with fail
        refine HV.out.mono ?_
        rintro e w1 ⟨z, rfl, hz, b1⟩
        have HB1 := hid (HB.out.trans (b1.mono HB.out.size))
        have HZ := hid hz
        clear b1 hz HV
        obtain ⟨y, hy⟩ : ∃ y, y = evB s x := ⟨_, rfl⟩
        rw [← hy] at HZ ⊢
        cases y with
        | false =>
          have HQ : Hid (q = false) := hid (HBd.out (by simp [goodB, ← hy]) hlt)
          clear hy
          go_wp2
          try go_ret2
          exact (by rw [HQ.out] at hE; exact hE.out _ _ (fun h => by cases h) HB1.out)
        | true =>
          obtain rfl := HZ.out rfl
          have hzb := nxt_bound hy.symm hsr.1
          have HG : Hid (goodB s x = decide (nxt s x ≤ 12)) := hid (by simp [goodB, ← hy])
          rw [HG.out] at HNx HBd
          clear HG hy HZ
          generalize nxt s x = z at *
          by_cases h12 : z ≤ 12
          · have hd : decide (12 < z) = false := decide_eq_false (by omega)
            have HNx2 : Hid (st xs (k + 1) = some z) := hid (by rw [HNx.out]; simp [h12])
            clear HNx
            go_wp2
            go_roundw
            case rel => exact ⟨k + 1, z, by omega, by go_num, rfl, HNx2.out, HB1.out⟩
            case measure => simp [intOf]; omega
          · have hd : decide (12 < z) = true := decide_eq_true (by omega)
            have HQ : Hid (q = false) := hid (HBd.out (by simp [h12]) hlt)
            clear HNx
            go_wp2
            try go_ret2
            exact (by rw [HQ.out] at hE; exact hE.out _ _ (fun h => by cases h) HB1.out)
      · obtain rfl : k = n := by omega
        have HQ := hid (HEnd.out s HST.out)
        have HQ2 := hid (HEnd2.out s HST.out)
        rw [HQ.out] at hE HQ2
        go_wp2
        try go_ret2
        by_cases hl : k ≤ 2000
        · have hl2 : decide ((k : Int) ≤ 2000) = true := by simp; omega
          have hl3 : decide (k ≤ 2000) = true := by simp; omega
          rw [hl3] at hE HQ2
          exact (by first | (rw [hl2]; exact hE.out _ _ (fun h => (HQ2.out h).symm) HB.out) | (simp only [hl3]; exact hE.out _ _ (fun h => (HQ2.out h).symm) HB.out))
        · have hl2 : decide ((k : Int) ≤ 2000) = false := by simp; omega
          have hl3 : decide (k ≤ 2000) = false := by simp; omega
          rw [hl3] at hE HQ2
          exact (by first | (rw [hl2]; exact hE.out _ _ (fun h => by cases h) HB.out) | (simp only [hl3]; exact hE.out _ _ (fun h => by cases h) HB.out))

theorem specCnt' (q : Bool) (xs : List V) (hqq : q = okE xs) (v : Value) (B : Nat) (w : World) (ha : Ops w B v xs) (hB : B ≤ w.heap.size) (hq : Small xs) :
    Calls Try.prog 90 #[v] w fun e w' => ∃ z : Int, e = .returned (.tuple #[.int .i64 z, .bool q]) ∧ (q = true → z = strE xs) ∧ Below w.heap.size w w' := by
  subst hqq
  exact specCnt xs v B w ha hB hq


theorem specVal (xs : List V) (v : Value) (B : Nat) (w : World) (ha : Ops w B v xs) (hB : B ≤ w.heap.size) (hq : Small xs) :
    Calls Try.prog 63 #[v] w fun e w' => e = .returned (.bool (okE xs)) ∧ Below w.heap.size w w' := by
  obtain ⟨q, hqq⟩ : ∃ q, q = okE xs := ⟨_, rfl⟩
  have HC := hid (specCnt' q xs hqq v B w ha hB hq)
  rw [← hqq]
  obtain ⟨ao, cap, rfl⟩ := ops_val ha
  clear ha hq hqq
  generalize xs.length = n at *
  go_enter Try.func63, Try.ntmps63
  go_wp2_with fail
  refine HC.out.mono ?_
  rintro e w1 ⟨z, rfl, hz, b1⟩
  have HB := hid b1
  clear b1 hz HC
  go_wp2
  go_ret
  exact ⟨rfl, HB.out⟩
end Go.Proofs.Ytiacfejileeieaa.ev
