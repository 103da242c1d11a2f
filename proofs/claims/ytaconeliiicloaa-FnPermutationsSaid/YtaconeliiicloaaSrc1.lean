/-
  The model's source of choices: contracts of next, pick, one and among. What they choose is left open; only its bounds are told.
-/
import Derived.Test.YtaconeliiicloaaComp
import Derived.Test.YtaconeliiicloaaWd
import Derived.BigQuiet
import Derived.Laws.BitsAllLaws
namespace Go.Proofs.Ytaconeliiicloaa.sr
open Go.RowKit Go.Proofs.Ytaconeliiicloaa.sl Go.Proofs.Ytaconeliiicloaa.pm Go.Proofs.Ytaconeliiicloaa.fn

/-- A slice of n bytes in a block below B. -/
def Bytes (w : World) (B : Nat) (v : Value) (n : Nat) : Prop :=
  (n = 0 ∧ ∃ ao cap, v = .slice ao 0 cap) ∨
  (0 < n ∧ ∃ b off cap, v = .slice (some ⟨b, off, none⟩) n cap ∧ b < B ∧ ∀ j, j < n → ∃ x : Nat, x < 256 ∧ w.cell? ⟨b, off + j, none⟩ = some (.int .u8 (x : Int)))
theorem bytes_val {w : World} {B : Nat} {v : Value} {n : Nat} (h : Bytes w B v n) : ∃ ao cap, v = .slice ao n cap := by
  rcases h with ⟨rfl, ao, cap, rfl⟩ | ⟨_, b, off, cap, rfl, _⟩ <;> exact ⟨_, _, rfl⟩
theorem Bytes.chg {w w' : World} {B n lo hi : Nat} {v : Value} (h : Bytes w B v n) (c : Chg lo hi w w') (h1 : B ≤ lo ∨ hi ≤ lo) : Bytes w' B v n := by
  rcases h with h | ⟨hp, b, off, cap, hv, hb, hc⟩
  · exact .inl h
  · refine .inr ⟨hp, b, off, cap, hv, hb, fun j hj => ?_⟩
    obtain ⟨x, hx, hcx⟩ := hc j hj
    have hlt := World.block_lt_of_cell? w _ hcx
    refine ⟨x, hx, ?_⟩
    rw [World.cell?_of_block (w := w) (w' := w') (a := ⟨b, off + j, none⟩) (c.block b hlt (by omega))]
    exact hcx

/-- The source in block g: the bytes, how many steps were made (at most m), the seed. -/
def Src (w : World) (g : Nat) (v : Value) (n m : Nat) : Prop :=
  g < w.heap.size ∧ Bytes w g v n ∧ w.cell? ⟨g, 0, none⟩ = some v ∧
  (∃ k : Nat, k ≤ m ∧ w.cell? ⟨g, 1, none⟩ = some (.int .i64 (k : Int))) ∧ (∃ s : Nat, s < 18446744073709551616 ∧ w.cell? ⟨g, 2, none⟩ = some (.int .u64 (s : Int))) ∧
  w.frozen? ⟨g, 1, none⟩ = false ∧ w.frozen? ⟨g, 2, none⟩ = false

theorem Src.drewN {w : World} {g n m : Nat} {v : Value} (h : Src w g v n m) (q : Nat) : Src (w.drewN q) g v n m :=
  ⟨h.1, h.2.1.chg (lo := g) (hi := g) ⟨rfl, rfl, rfl, Nat.le_refl _, fun _ _ _ => rfl⟩ (.inl (Nat.le_refl _)), h.2.2⟩
theorem Src.more {w : World} {g n m : Nat} {v : Value} (h : Src w g v n m) (q : Nat) : Src w g v n (m + q) := by
  obtain ⟨a, b, c, ⟨k, hk, d⟩, r⟩ := h
  exact ⟨a, b, c, ⟨k, by omega, d⟩, r⟩
theorem src_set {w : World} {g n m k s : Nat} {v : Value} (h : Src w g v n m) (hk : k ≤ m) (hs : s < 18446744073709551616) :
    Src ((w.setCell ⟨g, 1, none⟩ (.int .i64 ((k : Int) + 1))).setCell ⟨g, 2, none⟩ (.int .u64 (s : Int))) g v n (m + 1) ∧
    Chg g (g + 1) w ((w.setCell ⟨g, 1, none⟩ (.int .i64 ((k : Int) + 1))).setCell ⟨g, 2, none⟩ (.int .u64 (s : Int))) ∧
    ((w.setCell ⟨g, 1, none⟩ (.int .i64 ((k : Int) + 1))).setCell ⟨g, 2, none⟩ (.int .u64 (s : Int))).cell? ⟨g, 0, none⟩ = some v ∧
    ((w.setCell ⟨g, 1, none⟩ (.int .i64 ((k : Int) + 1))).setCell ⟨g, 2, none⟩ (.int .u64 (s : Int))).cell? ⟨g, 1, none⟩ = some (.int .i64 ((k : Int) + 1)) ∧
    ((w.setCell ⟨g, 1, none⟩ (.int .i64 ((k : Int) + 1))).setCell ⟨g, 2, none⟩ (.int .u64 (s : Int))).cell? ⟨g, 2, none⟩ = some (.int .u64 (s : Int)) := by
  obtain ⟨hg, hby, h0, ⟨k', _, h1⟩, ⟨s', _, h2⟩, f1, f2⟩ := h
  have c1 : Chg g (g + 1) w (w.setCell ⟨g, 1, none⟩ (.int .i64 ((k : Int) + 1))) :=
    ⟨rfl, rfl, rfl, by simp, fun b hb hb' => heap_setCell_other _ _ _ _ (by intro e; simp at e; omega)⟩
  have c2 : Chg g (g + 1) (w.setCell ⟨g, 1, none⟩ (.int .i64 ((k : Int) + 1))) ((w.setCell ⟨g, 1, none⟩ (.int .i64 ((k : Int) + 1))).setCell ⟨g, 2, none⟩ (.int .u64 (s : Int))) :=
    ⟨rfl, rfl, rfl, by simp, fun b hb hb' => heap_setCell_other _ _ _ _ (by intro e; simp at e; omega)⟩
  have a0 : (w.setCell ⟨g, 1, none⟩ (.int .i64 ((k : Int) + 1))).cell? ⟨g, 0, none⟩ = some v := (World.cell?_setCell_other _ _ _ _ (by simp)).trans h0
  have a1 : (w.setCell ⟨g, 1, none⟩ (.int .i64 ((k : Int) + 1))).cell? ⟨g, 1, none⟩ = some (.int .i64 ((k : Int) + 1)) := World.cell?_setCell_same _ _ _ h1
  have a2 : (w.setCell ⟨g, 1, none⟩ (.int .i64 ((k : Int) + 1))).cell? ⟨g, 2, none⟩ = some (.int .u64 (s' : Int)) := (World.cell?_setCell_other _ _ _ _ (by simp)).trans h2
  have b0 := (World.cell?_setCell_other (w.setCell ⟨g, 1, none⟩ (.int .i64 ((k : Int) + 1))) ⟨g, 2, none⟩ ⟨g, 0, none⟩ (.int .u64 (s : Int)) (by simp)).trans a0
  have b1 := (World.cell?_setCell_other (w.setCell ⟨g, 1, none⟩ (.int .i64 ((k : Int) + 1))) ⟨g, 2, none⟩ ⟨g, 1, none⟩ (.int .u64 (s : Int)) (by simp)).trans a1
  have b2 := World.cell?_setCell_same (w.setCell ⟨g, 1, none⟩ (.int .i64 ((k : Int) + 1))) ⟨g, 2, none⟩ (.int .u64 (s : Int)) a2
  refine ⟨⟨by simpa using hg, hby.chg (c1.trans c2) (.inl (Nat.le_refl _)), b0, ⟨k + 1, by omega, by rw [b1]; simp⟩, ⟨s, hs, b2⟩, ?_, ?_⟩, c1.trans c2, b0, b1, b2⟩
  · rw [World.frozen?_setCell, World.frozen?_setCell]; exact f1
  · rw [World.frozen?_setCell, World.frozen?_setCell]; exact f2

theorem wrap_nat (z : Int) : ∃ s : Nat, IntKind.u64.wrap z = (s : Int) ∧ s < 18446744073709551616 := by
  have h : IntKind.u64.wrap z = z % 18446744073709551616 := IntKind.wrap_u64 z
  refine ⟨(z % 18446744073709551616).toNat, ?_, ?_⟩ <;> omega

set_option maxRecDepth 100000 in
set_option maxHeartbeats 1000000 in
theorem next (g n m : Nat) (v : Value) (w : World) (h : Src w g v n m) (hn : n ≤ 1048576) (hm : m ≤ 1000000) :
    Calls Try.prog 131 #[.pointer (some ⟨g, 0, none⟩)] w fun e w' => ∃ x : Nat, x ≤ 255 ∧ e = .returned (.int .i64 (x : Int)) ∧ Src w' g v n (m + 1) ∧ Chg g (g + 1) w w' := by
  have HSr := hid h
  obtain ⟨hg, hby, h0, ⟨k, hk, h1⟩, ⟨s, hs, h2⟩, f1, f2⟩ := h
  obtain ⟨ao, cap, hv⟩ := bytes_val hby
  subst hv
  by_cases hkn : k < n
  · obtain ⟨x, hx, b, off, rfl, hbg, hcx⟩ : ∃ x : Nat, x < 256 ∧ ∃ b off, ao = some ⟨b, off, none⟩ ∧ b < g ∧ w.cell? ⟨b, off + k, none⟩ = some (.int .u8 (x : Int)) := by
      rcases hby with ⟨rfl, _⟩ | ⟨_, b, off, cap', hv, hb, hc⟩
      · omega
      · obtain ⟨x, hx, hcx⟩ := hc k hkn
        simp only [Value.slice.injEq] at hv
        exact ⟨x, hx, b, off, hv.1, hb, hcx⟩
    have hkI : (k : Int) < (n : Int) := by omega
    have hkd : decide ((k : Int) < (n : Int)) = true := decide_eq_true hkI
    have hkI2 : (k : Int) + 1 ≤ (n : Int) := by omega
    clear hby
    have HCh : Hid (Chg g (g + 1) w w) := hid (Chg.refl _ _ _)
    go_enter Try.func131, Try.ntmps131
    go_wp2
    go_quiet (fail)
    have h0 : (w.drewN nq).cell? ⟨g, 0, none⟩ = some (.slice (some ⟨b, off, none⟩) n cap) := h0
    have h1 : (w.drewN nq).cell? ⟨g, 1, none⟩ = some (.int .i64 (k : Int)) := h1
    have h2 : (w.drewN nq).cell? ⟨g, 2, none⟩ = some (.int .u64 (s : Int)) := h2
    have f1 : (w.drewN nq).frozen? ⟨g, 1, none⟩ = false := f1
    have f2 : (w.drewN nq).frozen? ⟨g, 2, none⟩ = false := f2
    have hcx : (w.drewN nq).cell? ⟨b, off + k, none⟩ = some (.int .u8 (x : Int)) := hcx
    have HSr := hid (HSr.out.drewN nq)
    have HCh := hid (HCh.out.drewN nq)
    generalize w.drewN nq = wq at *
    go_wp2
    go_quiet (fail)
    have h0 : (wq.drewN nq).cell? ⟨g, 0, none⟩ = some (.slice (some ⟨b, off, none⟩) n cap) := h0
    have h1 : (wq.drewN nq).cell? ⟨g, 1, none⟩ = some (.int .i64 (k : Int)) := h1
    have h2 : (wq.drewN nq).cell? ⟨g, 2, none⟩ = some (.int .u64 (s : Int)) := h2
    have f1 : (wq.drewN nq).frozen? ⟨g, 1, none⟩ = false := f1
    have f2 : (wq.drewN nq).frozen? ⟨g, 2, none⟩ = false := f2
    have HSr := hid (HSr.out.drewN nq)
    have HCh := hid (HCh.out.drewN nq)
    generalize wq.drewN nq = wq2 at *
    go_wp2
    generalize hz : IntKind.u64.wrap (IntKind.u64.wrap (IntKind.u64.wrap ((s : Int) * 6364136223846793005) + (x : Int)) + 1442695040888963407) = z at *
    obtain ⟨s', hw1, hs'⟩ : ∃ s' : Nat, z = (s' : Int) ∧ s' < 18446744073709551616 := by rw [← hz]; exact wrap_nat _
    subst hw1
    clear hz
    have HS2 := hid (src_set HSr.out hk hs')
    have y0 := HS2.out.2.2.1
    have y1 := HS2.out.2.2.2.1
    have y2 := HS2.out.2.2.2.2
    clear h0 h1 h2 f1 f2
    generalize (wq2.setCell ⟨g, 1, none⟩ (.int .i64 ((k : Int) + 1))).setCell ⟨g, 2, none⟩ (.int .u64 (s' : Int)) = w2 at *
    have HCh2 := hid (HCh.out.trans HS2.out.2.1)
    have HS3 := hid HS2.out.1
    clear HS2 HCh HSr
    go_quiet (fail)
    go_wp2
    go_ret
    exact ⟨x, by omega, rfl, HS3.out.drewN _, HCh2.out.drewN _⟩
  · have hkI : ¬ (k : Int) < (n : Int) := by omega
    have hkd : decide ((k : Int) < (n : Int)) = false := decide_eq_false hkI
    have hkI2 : ¬ (k : Int) + 1 ≤ (n : Int) := by omega
    have hkd2 : decide ((k : Int) + 1 ≤ (n : Int)) = false := decide_eq_false hkI2
    clear hby
    have HCh : Hid (Chg g (g + 1) w w) := hid (Chg.refl _ _ _)
    go_enter Try.func131, Try.ntmps131
    go_wp2
    go_quiet (fail)
    have h0 : (w.drewN nq).cell? ⟨g, 0, none⟩ = some (.slice ao n cap) := h0
    have h1 : (w.drewN nq).cell? ⟨g, 1, none⟩ = some (.int .i64 (k : Int)) := h1
    have h2 : (w.drewN nq).cell? ⟨g, 2, none⟩ = some (.int .u64 (s : Int)) := h2
    have f1 : (w.drewN nq).frozen? ⟨g, 1, none⟩ = false := f1
    have f2 : (w.drewN nq).frozen? ⟨g, 2, none⟩ = false := f2
    have HSr := hid (HSr.out.drewN nq)
    have HCh := hid (HCh.out.drewN nq)
    generalize w.drewN nq = wq at *
    go_wp2
    generalize hz : IntKind.u64.wrap (IntKind.u64.wrap (IntKind.u64.wrap ((s : Int) * 6364136223846793005)) + 1442695040888963407) = z at *
    obtain ⟨s', hw1, hs'⟩ : ∃ s' : Nat, z = (s' : Int) ∧ s' < 18446744073709551616 := by rw [← hz]; exact wrap_nat _
    subst hw1
    clear hz
    have HS2 := hid (src_set HSr.out hk hs')
    have y0 := HS2.out.2.2.1
    have y1 := HS2.out.2.2.2.1
    have y2 := HS2.out.2.2.2.2
    clear h0 h1 h2 f1 f2
    generalize (wq.setCell ⟨g, 1, none⟩ (.int .i64 ((k : Int) + 1))).setCell ⟨g, 2, none⟩ (.int .u64 (s' : Int)) = w2 at *
    have HCh2 := hid (HCh.out.trans HS2.out.2.1)
    have HS3 := hid HS2.out.1
    clear HS2 HCh HSr
    go_quiet (fail)
    have y2' : (w2.drewN nq).cell? ⟨g, 2, none⟩ = some (.int .u64 (s' : Int)) := y2
    have HS4 := hid (HS3.out.drewN nq)
    have HCh4 := hid (HCh2.out.drewN nq)
    clear y0 y1 y2 HS3 HCh2
    generalize w2.drewN nq = w3 at *
    have hsh : ((s' / 1099511627776 : Nat) : Int) = (s' : Int) / 1099511627776 := by omega
    have HA : Hid (bits .and .u64 ((s' : Int) / 1099511627776) 255 = ((s' / 1099511627776 % 256 : Nat) : Int)) := hid (by
      rw [← hsh]
      have := u64_and_nat (s' / 1099511627776) 255 (by omega) (by omega)
      rw [nat_mask8] at this
      exact this)
    go_wp2
    go_ret
    refine ⟨s' / 1099511627776 % 256, by omega, ?_, HS4.out, HCh4.out⟩
    have e3 : wrap64 (bits .and .u64 ((s' : Int) / 1099511627776) 255) = ((s' / 1099511627776 % 256 : Nat) : Int) := by
      rw [HA.out]
      first
        | exact IntWalk.i64_in _ (by omega)
        | (unfold wrap64; omega)
    exact congrArg (fun z : Int => Ending.returned (.int .i64 z)) e3

theorem pick (g n m : Nat) (v : Value) (N : Int) (w : World) (h : Src w g v n m) (hn : n ≤ 1048576) (hm : m ≤ 900000) (hN : -1000000 ≤ N ∧ N ≤ 1000000) :
    Calls Try.prog 103 #[.pointer (some ⟨g, 0, none⟩), .int .i64 N] w fun e w' => ∃ r : Nat, (r = 0 ∨ (r : Int) < N) ∧ e = .returned (.int .i64 (r : Int)) ∧ Src w' g v n (m + 2) ∧ Chg g (g + 1) w w' := by
  have HSr := hid h
  clear h
  by_cases h1 : N ≤ 1
  · have h1d : decide (N ≤ 1) = true := decide_eq_true h1
    go_enter Try.func103, Try.ntmps103
    go_wp2
    go_ret
    exact ⟨0, .inl rfl, rfl, HSr.out.more 2, Chg.refl _ _ _⟩
  · have h1d : decide (N ≤ 1) = false := decide_eq_false h1
    by_cases h2 : 200 < N
    · have h2d : decide (200 < N) = true := decide_eq_true h2
      go_enter Try.func103, Try.ntmps103
      go_wp2_with fail
      refine (next g n m v w HSr.out hn (by omega)).mono ?_
      rintro e w1 ⟨x, hx, rfl, s1, c1⟩
      have HS1 := hid s1
      have HC1 := hid c1
      clear s1 c1
      go_wp2_with fail
      refine (next g n (m + 1) v w1 HS1.out hn (by omega)).mono ?_
      rintro e w2 ⟨y, hy, rfl, s2, c2⟩
      have HS2 := hid s2
      have HC2 := hid (HC1.out.trans c2)
      clear s2 c2
      obtain ⟨r, hr⟩ := Int.eq_ofNat_of_zero_le (Int.emod_nonneg ((x : Int) * 256 + (y : Int)) (show N ≠ 0 by omega))
      have hlt := Int.emod_lt_of_pos ((x : Int) * 256 + (y : Int)) (show 0 < N by omega)
      rw [hr] at hlt
      have HR := hid hr
      clear hr
      go_wp2
      go_ret
      exact ⟨r, .inr hlt, congrArg (fun z : Int => Ending.returned (.int .i64 z)) HR.out, HS2.out, HC2.out⟩
    · have h2d : decide (200 < N) = false := decide_eq_false h2
      go_enter Try.func103, Try.ntmps103
      go_wp2_with fail
      refine (next g n m v w HSr.out hn (by omega)).mono ?_
      rintro e w1 ⟨x, hx, rfl, s1, c1⟩
      have HS1 := hid s1
      have HC1 := hid c1
      clear s1 c1
      obtain ⟨r, hr⟩ := Int.eq_ofNat_of_zero_le (Int.emod_nonneg (x : Int) (show N ≠ 0 by omega))
      have hlt := Int.emod_lt_of_pos (x : Int) (show 0 < N by omega)
      rw [hr] at hlt
      have HR := hid hr
      clear hr
      go_wp2
      go_ret
      exact ⟨r, .inr hlt, congrArg (fun z : Int => Ending.returned (.int .i64 z)) HR.out, HS1.out.more 1, HC1.out⟩

theorem one (g n m : Nat) (v : Value) (N : Int) (w : World) (h : Src w g v n m) (hn : n ≤ 1048576) (hm : m ≤ 900000) (hN : -1000000 ≤ N ∧ N ≤ 1000000) :
    Calls Try.prog 101 #[.pointer (some ⟨g, 0, none⟩), .int .i64 N] w fun e w' => (∃ q : Bool, e = .returned (.bool q)) ∧ Src w' g v n (m + 2) ∧ Chg g (g + 1) w w' := by
  have HSr := hid h
  clear h
  go_enter Try.func101, Try.ntmps101
  go_wp2_with fail
  refine (pick g n m v N w HSr.out hn hm hN).mono ?_
  rintro e w1 ⟨r, _, rfl, s1, c1⟩
  have HS1 := hid s1
  have HC1 := hid c1
  clear s1 c1
  go_wp2
  go_ret
  exact ⟨⟨_, rfl⟩, HS1.out, HC1.out⟩

theorem among (g n m lo hi : Nat) (v u : Value) (xs : List Int) (w : World) (h : Src w g v n m) (hn : n ≤ 1048576) (hm : m ≤ 900000) (o : Own w lo hi u xs) (hlo : g < lo) (hp : 0 < xs.length) (hl : xs.length ≤ 1000) :
    Calls Try.prog 102 #[.pointer (some ⟨g, 0, none⟩), u] w fun e w' => (∃ x ∈ xs, e = .returned (.int .i64 x)) ∧ Src w' g v n (m + 2) ∧ Chg g (g + 1) w w' := by
  have HSr := hid h
  have HO := hid o
  obtain ⟨b, cap, hv, hb1, hb2⟩ := own_slice o hp
  obtain ⟨L, hL⟩ : ∃ L, L = xs.length := ⟨_, rfl⟩
  rw [← hL] at hv hp hl
  have HL := hid hL
  subst hv
  clear h o hL
  go_enter Try.func102, Try.ntmps102
  go_wp2_with fail
  refine (pick g n m v (L : Int) w HSr.out hn hm (by omega)).mono ?_
  rintro e w1 ⟨r, hr, rfl, s1, c1⟩
  have HS1 := hid s1
  have HO1 := hid (HO.out.chg c1 (by omega))
  have HC1 := hid c1
  clear s1 c1 HO
  have hrL : r < L := by omega
  have hrI : (r : Int) < (L : Int) := by omega
  have hc := (HO1.out.at' r (by rw [← HL.out]; exact hrL)).1
  have HM : Hid (xs.getD r 0 ∈ xs) := hid (by
    have hr' : r < xs.length := by rw [← HL.out]; exact hrL
    rw [show xs.getD r 0 = xs[r] from by simp [List.getD, List.getElem?_eq_getElem hr']]
    exact List.getElem_mem _)
  generalize xs.getD r 0 = x at *
  clear hr
  go_wp2
  go_ret
  exact ⟨⟨x, HM.out, rfl⟩, HS1.out, HC1.out⟩

theorem sfrom (n : Nat) (v : Value) (w : World) (h : Bytes w w.heap.size v n) :
    Calls Try.prog 54 #[v] w fun e w' => e = .returned (.pointer (some ⟨w.heap.size, 0, none⟩)) ∧ Src w' w.heap.size v n 0 ∧ Below w.heap.size w w' ∧ w'.heap.size = w.heap.size + 1 := by
  obtain ⟨ao, cap, hv⟩ := bytes_val h
  subst hv
  have HB := hid h
  clear h
  go_enter Try.func54, Try.ntmps54
  go_wp2
  go_ret
  refine ⟨rfl, ⟨by simp, HB.out.chg (Chg.ofBelow (lo := w.heap.size) ((Below.refl w.heap.size w).alloc (Nat.le_refl _) _)) (.inl (Nat.le_refl _)), World.cell?_alloc_at _ _ _ _ rfl, ⟨0, Nat.le_refl _, World.cell?_alloc_at _ _ _ _ rfl⟩, ⟨0, by omega, World.cell?_alloc_at _ _ _ _ rfl⟩, World.frozen?_alloc_at _ _ _ _ rfl, World.frozen?_alloc_at _ _ _ _ rfl⟩, (Below.refl _ _).alloc (Nat.le_refl _) _, by simp⟩

end Go.Proofs.Ytaconeliiicloaa.sr
