/-
  The wale of a loop: program and model; WaleOf of both sides.
-/
import Derived.Test.YtlhpipcmebmpdabFw
namespace Go.Proofs.Ytlhpipcmebmpdab.mc
open Go.RowKit Go.Sort Go.Maps Go.Proofs.Ytlhpipcmebmpdab.sl Go.Proofs.Ytlhpipcmebmpdab.br Go.Proofs.Ytlhpipcmebmpdab.fn Go.Proofs.Ytlhpipcmebmpdab.ss Go.Proofs.Ytlhpipcmebmpdab.fb
set_option linter.unusedVariables false
set_option linter.unusedSimpArgs false

/-- The loops below a loop, by first parents; n: how far at most. -/
def waleT (ls : List nf.V) : Nat → Nat → List Int
  | 0, _ => []
  | n + 1, x => match (ls.getD x nf.iz).ps with
    | [] => []
    | q :: _ => q :: waleT ls n q.toNat
def waleL (ls : List nf.V) (x : Nat) : List Int := (x : Int) :: waleT ls (x + 1) x
theorem waleT_nil (ls : List nf.V) (n x : Nat) (h : (ls.getD x nf.iz).ps = []) : waleT ls n x = [] := by
  cases n with
  | zero => rfl
  | succ n => simp only [waleT, h]
theorem waleT_cons (ls : List nf.V) (n x : Nat) (h : 0 < (ls.getD x nf.iz).ps.length) : waleT ls (n + 1) x = (ls.getD x nf.iz).ps.getD 0 0 :: waleT ls n ((ls.getD x nf.iz).ps.getD 0 0).toNat := by
  simp only [waleT]
  cases hp : (ls.getD x nf.iz).ps with
  | nil => rw [hp] at h; simp at h
  | cons q r => simp
theorem waleT_len (ls : List nf.V) : ∀ n x, (waleT ls n x).length ≤ n := by
  intro n
  induction n with
  | zero => intro x; simp [waleT]
  | succ n ih =>
    intro x
    simp only [waleT]
    split
    · simp
    · simp only [List.length_cons]
      rename_i q _ _
      have := ih q.toNat
      omega
theorem own_one (w : World) (x : Int) : sl.Own (w.alloc (.cells #[.int .i64 x] 2)) w.heap.size (w.alloc (.cells #[.int .i64 x] 2)).heap.size (.slice (some ⟨w.heap.size, 0, none⟩) 1 1) [x] :=
  sl.Own.mk' (World.ownsRow_lit w #[.int .i64 x] 1 (Nat.le_refl _) (by unfold maxLen; omega) (by simp))
/-- What is asked of parents. -/
def ParB (ls : List nf.V) : Prop := ∀ k, k < ls.length → ∀ j, j < (ls.getD k nf.iz).ps.length → 0 ≤ (ls.getD k nf.iz).ps.getD j 0 ∧ (ls.getD k nf.iz).ps.getD j 0 < (k : Int)

set_option maxRecDepth 100000 in
set_option maxHeartbeats 4000000 in
theorem implWale (fp x : Nat) (ls : List nf.V) (f3 : Value) (B : Nat) (w : World) (c0 : w.cell? ⟨fp, 0, none⟩ = some f3) (ha : nf.Infs w B f3 ls) (hB : B ≤ w.heap.size) (hl : ls.length ≤ 300) (hx : x < ls.length) (hp : ParB ls) :
    Calls Try.prog 48 #[.pointer (some ⟨fp, 0, none⟩), .int .i64 x] w fun e w' => ∃ v, e = .returned v ∧ sl.Own w' w.heap.size w'.heap.size v (waleL ls x) ∧ Below w.heap.size w w' := by
  have hpb := World.block_lt_of_cell? w _ c0
  have hO0 := own_one w (x : Int)
  have hB0 : Below w.heap.size w (w.alloc (.cells #[.int .i64 (x : Int)] 2)) := (Below.refl _ w).alloc (Nat.le_refl _) _
  have HO0 := hid hO0
  have HB0 := hid hB0
  have HC0 := hid c0
  have HPar := hid hp
  have y0 := (hB0.cell (p := ⟨fp, 0, none⟩) hpb).trans c0
  clear hO0 c0 hp
  rcases ha with ⟨rfl, ao, cap, rfl⟩ | ⟨hp, g, off, cap, F, rfl, hg, hc⟩
  · simp at hx
  · obtain ⟨n, hn⟩ : ∃ n, n = ls.length := ⟨_, rfl⟩
    have HN := hid hn
    have HC := hid hc
    have hgl : g < w.heap.size := by omega
    have z5 := ((hc x hx).1.blk hB0.size (hB0.block g hgl)).c5
    rw [← hn] at hp hl hx y0 HC0
    clear hc hn hB0
    have hxI : (x : Int) < (n : Int) := by omega
    obtain ⟨N, hN⟩ : ∃ N, N = (waleL ls x).length := ⟨_, rfl⟩
    have HNN := hid hN
    have hNb : N ≤ 400 := by have := waleT_len ls (x + 1) x; rw [hN, waleL, List.length_cons]; omega
    have HF0 := hid (show F x = F x from rfl)
    obtain ⟨fx, hfx⟩ : ∃ f, f = F x := ⟨_, rfl⟩
    rw [← hfx] at z5
    have HFx := hid hfx
    clear hN hfx HF0
    go_enter Try.func48, Try.ntmps48
    go_wp2
    go_loopw [5, 6] (fun v s wr => ∃ (k f : Nat) (pre : List Int) (u : Value), k < n ∧ k < f ∧ v = u ∧ s = F k ∧ Hid (pre ++ waleT ls f k = waleL ls x) ∧ sl.Own wr w.heap.size wr.heap.size u pre ∧ Below w.heap.size w wr)
      (fun v _ _ => N - (match v with | .slice _ l _ => l | _ => 0))
    case atStart => exact ⟨x, x + 1, [(x : Int)], _, hx, by omega, rfl, HFx.out, hid rfl, HO0.out, HB0.out⟩
    case round =>
      obtain ⟨k, f, pre, u, hk, hf, rfl, rfl, HW, hor, hbr⟩ := hrel
      obtain ⟨aou, capu, hu⟩ := br.own_val hor
      have HBr := hid hbr
      have HOr := hid hor
      have hkl : k < ls.length := by rw [← HN.out]; exact hk
      obtain ⟨hAt, hPs⟩ := HC.out k hkl
      have hpn : pre.length ≤ N := by have := congrArg List.length HW.out; rw [List.length_append] at this; rw [HNN.out]; omega
      clear hor hbr HO0 HB0 hAt z5
      rcases hPs with ⟨hps, ao6, cap6, hf6⟩ | ⟨hps, b6, off6, cap6, hf6, hb6, hc6⟩
      · rw [hf6]
        have HE := hid (show pre = waleL ls x from by have := HW.out; rwa [waleT_nil ls f k hps, List.append_nil] at this)
        clear hf6 hu
        go_wp2
        go_ret
        exact ⟨_, rfl, by rw [← HE.out]; exact HOr.out, HBr.out⟩
      · rw [hf6]
        obtain ⟨f', rfl⟩ : ∃ f', f = f' + 1 := ⟨f - 1, by omega⟩
        have HE := hid (waleT_cons ls f' k hps)
        have hq := HPar.out k hkl 0 hps
        have hc60 := hc6 0 hps
        obtain ⟨l6, hl6⟩ : ∃ l, l = (ls.getD k nf.iz).ps.length := ⟨_, rfl⟩
        rw [← hl6] at hps ⊢
        generalize (ls.getD k nf.iz).ps.getD 0 0 = q at *
        obtain ⟨qn, rfl⟩ := Int.eq_ofNat_of_zero_le hq.1
        have hqn : qn < n := by omega
        have hqk : qn < k := by omega
        have hqI : (qn : Int) < (n : Int) := by omega
        have hl6I : (0 : Int) < (l6 : Int) := by omega
        obtain ⟨hAq, _⟩ := HC.out qn (by rw [← HN.out]; exact hqn)
        have HQ5 := hid hAq.c5
        have HQ6 := hid hc60
        have zx := (HBr.out.cell (p := ⟨b6, off6 + 0, none⟩) (by show b6 < _; omega)).trans hc60
        have zy : wr.cell? ⟨b6, off6, none⟩ = some (.int .i64 (qn : Int)) := zx
        have HW2 := hid (show (pre ++ [(qn : Int)]) ++ waleT ls f' qn = waleL ls x from by have := HW.out; rw [HE.out] at this; simpa using this)
        have hpn2 : pre.length + 1 ≤ N := by have := congrArg List.length HW2.out; rw [List.length_append, List.length_append, List.length_singleton] at this; rw [HNN.out]; omega
        obtain ⟨pl, hpl⟩ : ∃ l, l = pre.length := ⟨_, rfl⟩
        rw [← hpl] at hpn hpn2 hu
        have HPL := hid hpl
        clear hf6 hc6 hc60 hAq hl6 HE HW hpl zx hq
        subst hu
        go_wp2_with (at_builtin; refine wp_append rfl _ _ rfl w.heap.size wr.heap.size _ pre (qn : Int) HOr.out rfl rfl HBr.out.size (by rw [← HPL.out]; omega) ?_; intro v9 w1 hown1 hchg1 hsz1; have HB1 := hid (HBr.out.trans (hchg1.below (Nat.le_refl _) HBr.out.size)); have HO1 := hid hown1; obtain ⟨ao9, cap9, hv9⟩ := br.own_val hown1; rw [List.length_append, List.length_singleton, ← HPL.out] at hv9; subst hv9; have yf := (HB1.out.cell (p := ⟨fp, 0, none⟩) hpb).trans HC0.out; have zq : w1.cell? ⟨b6, off6, none⟩ = some (.int .i64 (qn : Int)) := (HB1.out.cell (p := ⟨b6, off6, none⟩) (by show b6 < _; omega)).trans HQ6.out; have z5 := (HB1.out.cell (p := ⟨g, off + qn * 6 + 5, none⟩) hgl).trans HQ5.out; clear hown1 hchg1)
        go_quiet (fail)
        go_wp2
        go_roundw
        case rel => exact ⟨qn, f', pre ++ [(qn : Int)], _, hqn, by omega, rfl, rfl, HW2, HO1.out, bdrewN HB1.out _⟩
        case measure => simp only []; omega

set_option maxRecDepth 100000 in
set_option maxHeartbeats 4000000 in
theorem specWale (pb x : Nat) (ls : List nf.V) (f3 : Value) (B : Nat) (w : World) (c5 : w.cell? ⟨pb, 5, none⟩ = some f3) (ha : nf.Infs w B f3 ls) (hB : B ≤ w.heap.size) (hl : ls.length ≤ 300) (hx : x < ls.length) (hp : ParB ls) :
    Calls Try.prog 44 #[.pointer (some ⟨pb, 0, none⟩), .int .i64 x] w fun e w' => ∃ v, e = .returned v ∧ sl.Own w' w.heap.size w'.heap.size v (waleL ls x) ∧ Below w.heap.size w w' := by
  have hpb := World.block_lt_of_cell? w _ c5
  have HO0 := hid (own_one w (x : Int))
  have HB0 : Hid (Below w.heap.size w (w.alloc (.cells #[.int .i64 (x : Int)] 2))) := hid ((Below.refl _ w).alloc (Nat.le_refl _) _)
  have HC5 := hid c5
  have HPar := hid hp
  clear c5 hp
  rcases ha with ⟨rfl, ao, cap, rfl⟩ | ⟨hp, g, off, cap, F, rfl, hg, hc⟩
  · simp at hx
  · obtain ⟨n, hn⟩ : ∃ n, n = ls.length := ⟨_, rfl⟩
    have HN := hid hn
    have HC := hid hc
    have hgl : g < w.heap.size := by omega
    rw [← hn] at hp hl hx HC5
    clear hc hn
    have hLb : Hid ((waleL ls x).length ≤ 400) := hid (by have := waleT_len ls (x + 1) x; rw [waleL, List.length_cons]; omega)
    go_enter Try.func44, Try.ntmps44
    go_wp2
    go_loopw [1, 5] (fun i v wr => ∃ (k f : Nat) (pre : List Int) (u : Value), k < n ∧ k < f ∧ v = u ∧ i = .int .i64 k ∧ Hid (pre ++ waleT ls f k = waleL ls x) ∧ sl.Own wr w.heap.size wr.heap.size u pre ∧ Below w.heap.size w wr)
      (fun i _ _ => (intOf i).toNat)
    case atStart => exact ⟨x, x + 1, [(x : Int)], _, hx, by omega, rfl, rfl, hid rfl, HO0.out, HB0.out⟩
    case round =>
      obtain ⟨k, f, pre, u, hk, hf, rfl, rfl, HW, hor, hbr⟩ := hrel
      have HBr := hid hbr
      have HOr := hid hor
      have y5 := (hbr.cell (p := ⟨pb, 5, none⟩) hpb).trans HC5.out
      have hkI : (k : Int) < (n : Int) := by omega
      have hkl : k < ls.length := by rw [← HN.out]; exact hk
      obtain ⟨hAt, hPs⟩ := HC.out k hkl
      have z5 := (HBr.out.cell (p := ⟨g, off + k * 6 + 5, none⟩) hgl).trans hAt.c5
      clear hor hbr HO0 HB0 hAt
      rcases hPs with ⟨hps, ao6, cap6, hf6⟩ | ⟨hps, b6, off6, cap6, hf6, hb6, hc6⟩
      · rw [hf6] at z5
        have HE := hid (show pre = waleL ls x from by have := HW.out; rwa [waleT_nil ls f k hps, List.append_nil] at this)
        clear hf6
        go_wp2
        go_ret
        exact ⟨_, rfl, by rw [← HE.out]; exact HOr.out, HBr.out⟩
      · rw [hf6] at z5
        obtain ⟨f', rfl⟩ : ∃ f', f = f' + 1 := ⟨f - 1, by omega⟩
        have HE := hid (waleT_cons ls f' k hps)
        have hq := HPar.out k hkl 0 hps
        have hc60 := hc6 0 hps
        obtain ⟨l6, hl6⟩ : ∃ l, l = (ls.getD k nf.iz).ps.length := ⟨_, rfl⟩
        rw [← hl6] at hps z5
        generalize (ls.getD k nf.iz).ps.getD 0 0 = q at *
        obtain ⟨qn, rfl⟩ := Int.eq_ofNat_of_zero_le hq.1
        have hqn : qn < n := by omega
        have hqk : qn < k := by omega
        have hl6I : (0 : Int) < (l6 : Int) := by omega
        have zx := (HBr.out.cell (p := ⟨b6, off6 + 0, none⟩) (by show b6 < _; omega)).trans hc60
        have zy : wr.cell? ⟨b6, off6, none⟩ = some (.int .i64 (qn : Int)) := zx
        have HW2 := hid (show (pre ++ [(qn : Int)]) ++ waleT ls f' qn = waleL ls x from by have := HW.out; rw [HE.out] at this; simpa using this)
        have HPL : Hid (pre.length ≤ 400) := hid (by have := congrArg List.length HW2.out; rw [List.length_append, List.length_append, List.length_singleton] at this; have := hLb.out; omega)
        clear hf6 hc6 hc60 hl6 HE HW zx hq
        go_wp2_with (at_builtin; refine wp_append rfl _ _ rfl w.heap.size wr.heap.size _ pre (qn : Int) HOr.out rfl rfl HBr.out.size (by have := HPL.out; omega) ?_; intro v9 w1 hown1 hchg1 hsz1; have HB1 := hid (HBr.out.trans (hchg1.below (Nat.le_refl _) HBr.out.size)); have HO1 := hid hown1; clear hown1 hchg1)
        go_roundw
        case rel => exact ⟨qn, f', pre ++ [(qn : Int)], _, hqn, by omega, rfl, rfl, HW2, HO1.out, HB1.out⟩
        case measure => simp [intOf]; omega
def wlL (a p : Int) (m : Mch) (x : Int) : List Int := if askC a p m x = 0 then waleL m.ls x.toNat else []
theorem wlL_len (a p : Int) (m : Mch) (x : Int) : (wlL a p m x).length ≤ 20000 := by
  unfold wlL
  split
  · rename_i h
    have h1 := waleT_len m.ls (x.toNat + 1) x.toNat
    have h2 := ls_len (okM_parts (ask_ok h).1)
    have h3 := (ask_ok h).2
    rw [waleL, List.length_cons]
    omega
  · simp


end Go.Proofs.Ytlhpipcmebmpdab.mc
