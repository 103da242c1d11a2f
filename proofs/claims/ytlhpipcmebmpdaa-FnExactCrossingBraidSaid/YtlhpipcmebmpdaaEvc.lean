/-
  CrossingBraid: mathematics, the program's side.
-/
import Derived.Test.YtlhpipcmebmpdaaEvb
import Derived.Test.YtlhpipcmebmpdaaEvj
import Derived.Test.YtlhpipcmebmpdaaEvr
import Derived.Test.YtlhpipcmebmpdaaCc
namespace Go.Proofs.Ytlhpipcmebmpdaa.ev
open Go.RowKit Go.Sort Go.Proofs.Ytlhpipcmebmpdaa.sl Go.Proofs.Ytlhpipcmebmpdaa.bw Go.Proofs.Ytlhpipcmebmpdaa.br Go.Proofs.Ytlhpipcmebmpdaa.fn
set_option linter.unusedVariables false
set_option linter.unusedSimpArgs false

def okC (s : Int) (x : V) : Bool := x.a0 == 1 && evB s x
def letV (x : V) : Int := x.a2 * (x.a1 + 1)
def rngS (s : Int) : Bool := decide (0 ≤ s ∧ s ≤ 12)
def crB (s : Int) (xs : List V) : Bool := xs.all (okC s)
def cbC (s : Int) (xs : List V) : Int := if rngS s = false then 2 else if crB s xs = false then 1 else if xs.length ≤ 40 then 0 else 5
def cbS (s : Int) (xs : List V) : Int := if cbC s xs = 0 then s else 0
def cbW (s : Int) (xs : List V) : List Int := if cbC s xs = 0 then xs.map letV else []
theorem cb_rng {s : Int} {xs : List V} (h : rngS s = false) : cbC s xs = 2 ∧ cbS s xs = 0 ∧ cbW s xs = [] := by simp [cbS, cbW, cbC, h]
theorem cb_bad {s : Int} {xs : List V} (h : rngS s = true) (h2 : crB s xs = false) : cbC s xs = 1 ∧ cbS s xs = 0 ∧ cbW s xs = [] := by simp [cbS, cbW, cbC, h, h2]
theorem cb_full {s : Int} {xs : List V} (h : rngS s = true) (h2 : crB s xs = true) (h3 : ¬ xs.length ≤ 40) : cbC s xs = 5 ∧ cbS s xs = 0 ∧ cbW s xs = [] := by simp [cbS, cbW, cbC, h, h2, h3]
theorem cb_ok {s : Int} {xs : List V} (h : rngS s = true) (h2 : crB s xs = true) (h3 : xs.length ≤ 40) : cbC s xs = 0 ∧ cbS s xs = s ∧ cbW s xs = xs.map letV := by simp [cbS, cbW, cbC, h, h2, h3]
theorem cbW_len (s : Int) (xs : List V) : (cbW s xs).length ≤ 20000 := by
  unfold cbW
  split
  · rename_i h
    have : xs.length ≤ 40 := by
      unfold cbC at h
      repeat' (split at h)
      all_goals first | omega | assumption
    simp; omega
  · simp
theorem all_bad (p : V → Bool) (xs : List V) (k : Nat) (hk : k < xs.length) (h : p (xs.getD k oz) = false) : xs.all p = false := by
  rw [List.all_eq_false]
  refine ⟨xs.getD k oz, ?_, by rw [h]; simp⟩
  rw [show xs.getD k oz = xs[k] from by simp [List.getD, List.getElem?_eq_getElem hk]]
  exact List.getElem_mem hk
theorem all_good (p : V → Bool) (xs : List V) (h : ∀ k, k < xs.length → p (xs.getD k oz) = true) : xs.all p = true := by
  rw [List.all_eq_true]
  intro x hx
  obtain ⟨j, hj, rfl⟩ := List.getElem_of_mem hx
  have := h j hj
  rwa [show xs.getD j oz = xs[j] from by simp [List.getD, List.getElem?_eq_getElem hj]] at this
theorem take_let (xs : List V) (k : Nat) (h : k < xs.length) : (xs.take (k + 1)).map letV = (xs.take k).map letV ++ [letV (xs.getD k oz)] := by
  rw [List.take_succ_eq_append_getElem h, List.map_append]
  simp [List.getD, List.getElem?_eq_getElem h]
/-- A crossing's numbers. -/
theorem okC_parts {s : Int} {x : V} (h : okC s x = true) : x.a0 = 1 ∧ (x.a2 = 1 ∨ x.a2 = -1) ∧ 0 ≤ x.a1 ∧ x.a1 ≤ s - 2 := by
  obtain ⟨x0, x1, x2, x3, x4, x5⟩ := x
  simp only [okC, Bool.and_eq_true, beq_iff_eq] at h
  obtain ⟨rfl, h2⟩ := h
  simp only [evB, ↓reduceIte, Bool.and_eq_true, Bool.or_eq_true, beq_iff_eq, decide_eq_true_eq] at h2
  simp only
  refine ⟨trivial, ?_, ?_, ?_⟩
  all_goals omega

theorem letterC (x : V) (h2 : x.a2 = 1 ∨ x.a2 = -1) (h1 : 0 ≤ x.a1 ∧ x.a1 ≤ 100) (w : World) : Calls Try.prog 141 #[x.val] w fun e w' => e = .returned (.int .i64 (letV x)) ∧ Below w.heap.size w w' := by
  obtain ⟨x0, x1, x2, x3, x4, x5⟩ := x
  simp only at h2 h1
  simp only [V.val]
  obtain ⟨h10, h11⟩ := h1
  rcases h2 with rfl | rfl
  · have HQ : Hid (letV ⟨x0, x1, 1, x3, x4, x5⟩ = x1 + 1) := hid (by simp [letV])
    rw [HQ.out]
    have hb := (Below.refl w.heap.size w).alloc (Nat.le_refl _) (.cells #[.int .i64 x0, .int .i64 x1, .int .i64 1, .int .i64 x3, .int .i64 x4, .int .i64 x5] 97)
    go_enter Try.func141, Try.ntmps141
    go_wp2
    go_ret
    exact ⟨by first | rfl | simp, hb⟩
  · have HQ : Hid (letV ⟨x0, x1, -1, x3, x4, x5⟩ = -(x1 + 1)) := hid (by simp [letV])
    rw [HQ.out]
    have hb := (Below.refl w.heap.size w).alloc (Nat.le_refl _) (.cells #[.int .i64 x0, .int .i64 x1, .int .i64 (-1), .int .i64 x3, .int .i64 x4, .int .i64 x5] 97)
    go_enter Try.func141, Try.ntmps141
    go_wp2
    go_ret
    exact ⟨by first | rfl | (congr 2; omega) | simp, hb⟩

def idxEP (p : V → Bool) (xs : List V) (z : Int) : Prop := xs.any p = decide (0 ≤ z)
theorem eany_yes (p : V → Bool) (xs : List V) (k : Nat) (hk : k < xs.length) (h : p (xs.getD k oz) = true) : xs.any p = true := by
  rw [List.any_eq_true]
  refine ⟨xs.getD k oz, ?_, h⟩
  rw [show xs.getD k oz = xs[k] from by simp [List.getD, List.getElem?_eq_getElem hk]]
  exact List.getElem_mem hk
theorem eany_no (p : V → Bool) (xs : List V) (h : ∀ k, k < xs.length → p (xs.getD k oz) = false) : xs.any p = false := by
  rw [List.any_eq_false]
  intro x hx
  obtain ⟨j, hj, rfl⟩ := List.getElem_of_mem hx
  have := h j hj
  rw [show xs.getD j oz = xs[j] from by simp [List.getD, List.getElem?_eq_getElem hj]] at this
  rw [this]; simp

set_option maxRecDepth 100000 in
theorem idxEv (p : V → Bool) (g : Nat) (cps : Array Value) (xs : List V) (v : Value) (B : Nat) (w : World) (ha : Ops w B v xs) (hB : B ≤ w.heap.size) (hn : xs.length ≤ 1048576)
    (eg : ∀ args w, (callFunc g args).run Try.prog w = .ok (.enter g args) w) (hp : ∀ (x : V) (W : World), Below w.heap.size w W → Calls Try.prog g (#[x.val] ++ cps) W fun e w' => e = .returned (.bool (p x)) ∧ Below W.heap.size W w') :
    Calls Try.prog 138 #[v, .func (.func g) #[] cps] w fun e w' => ∃ z : Int, e = .returned (.int .i64 z) ∧ Hid (xs.any p = decide (0 ≤ z)) ∧ Below w.heap.size w w' := by
  have HP := hid hp
  clear hp
  rcases ha with ⟨rfl, ao, cap, rfl, hao⟩ | ⟨hp, b, off, cap, rfl, hb, hc⟩
  · go_enter Try.func138, Try.ntmps138
    go_wp2
    refine wp_loop_rounds 1 ?_
    rw [rounds_succ]
    go_wp2
    go_ret
    exact ⟨-1, rfl, hid rfl, Below.refl _ _⟩
  · have HYes := hid (fun k h1 h2 => eany_yes p xs k h1 h2)
    have HNo := hid (eany_no p xs)
    obtain ⟨n, hnn⟩ : ∃ n, n = xs.length := ⟨_, rfl⟩
    rw [← hnn] at hp hc hn HYes HNo ⊢
    have HC := hid hc
    clear hnn hc
    go_enter Try.func138, Try.ntmps138
    go_wp2
    go_loopw [8] (fun i wr => ∃ k : Nat, k ≤ n ∧ i = .int .i64 k ∧ (∀ j, j < k → p (xs.getD j oz) = false) ∧ Below w.heap.size w wr) (fun i _ => n - (intOf i).toNat)
    case atStart => exact ⟨0, Nat.zero_le _, rfl, fun j hj => by omega, Below.refl _ _⟩
    case round =>
      obtain ⟨k, hk, rfl, hg, hbel⟩ := hrel
      have HG := hid hg
      have HB := hid hbel
      clear hg hbel
      by_cases hlt : k < n
      · have HA : At wr b (off + k * 6) (xs.getD k oz) := (HC.out k hlt).below HB.out
        have HPk := hid (HP.out (xs.getD k oz) wr HB.out)
        obtain ⟨q, hq⟩ : ∃ q, q = p (xs.getD k oz) := ⟨_, rfl⟩
        rw [← hq] at HPk
        have HQ := hid hq
        clear hq
        generalize xs.getD k oz = x at HA HPk
        obtain ⟨x0, x1, x2, x3, x4, x5⟩ := x
        have c0 := HA.c0
        have c1 := HA.c1
        have c2 := HA.c2
        have c3 := HA.c3
        have c4 := HA.c4
        have c5 := HA.c5
        simp only at c0 c1 c2 c3 c4 c5
        clear HA
        go_wp2_with fail
        refine HPk.out.mono ?_
        rintro e w1 ⟨rfl, b1⟩
        have HB1 := hid (HB.out.trans (b1.mono HB.out.size))
        clear b1 HPk c0 c1 c2 c3 c4 c5
        cases q
        · go_wp2
          go_roundw
          case rel => exact ⟨k + 1, by omega, by go_num, fun j hj => by
            rcases Nat.lt_or_ge j k with h | h
            · exact HG.out j h
            · obtain rfl : j = k := by omega
              exact HQ.out.symm, HB1.out⟩
          case measure => simp [intOf]; omega
        · have HF := hid (HYes.out k hlt HQ.out.symm)
          go_wp2
          go_ret
          exact ⟨k, rfl, hid (by rw [HF.out]; simp), HB1.out⟩
      · obtain rfl : k = n := by omega
        have HF := hid (HNo.out HG.out)
        go_wp2
        go_ret
        exact ⟨-1, rfl, hid (by rw [HF.out]; rfl), HB.out⟩

theorem contEv (p : V → Bool) (g : Nat) (cps : Array Value) (xs : List V) (v : Value) (B : Nat) (w : World) (ha : Ops w B v xs) (hB : B ≤ w.heap.size) (hn : xs.length ≤ 1048576)
    (eg : ∀ args w, (callFunc g args).run Try.prog w = .ok (.enter g args) w) (hp : ∀ (x : V) (W : World), Below w.heap.size w W → Calls Try.prog g (#[x.val] ++ cps) W fun e w' => e = .returned (.bool (p x)) ∧ Below W.heap.size W w') :
    Calls Try.prog 88 #[v, .func (.func g) #[] cps] w fun e w' => e = .returned (.bool (xs.any p)) ∧ Below w.heap.size w w' := by
  have H := hid (idxEv p g cps xs v B w ha hB hn eg hp)
  obtain ⟨ao, cap, rfl⟩ := ops_val ha
  clear ha hp
  generalize xs.length = n at *
  go_enter Try.func88, Try.ntmps88
  go_wp2_with fail
  refine H.out.mono ?_
  rintro e w1 ⟨z, rfl, HZ, b1⟩
  have HB := hid b1
  clear b1
  by_cases hz : 0 ≤ z
  · have HF : Hid (xs.any p = true) := hid (by rw [HZ.out]; simpa using hz)
    go_wp2
    go_ret
    exact ⟨by rw [HF.out]; rfl, HB.out⟩
  · have HF : Hid (xs.any p = false) := hid (by rw [HZ.out]; simpa using hz)
    have hz2 : decide (0 ≤ z) = false := decide_eq_false hz
    go_wp2
    go_ret
    exact ⟨by rw [HF.out]; rfl, HB.out⟩


theorem let_at (xs : List V) (k : Nat) (h : k < xs.length) : (xs.map letV).getD k 0 = letV (xs.getD k oz) := by
  simp [List.getD, List.getElem?_eq_getElem h]
theorem let_set (xs : List V) (k : Nat) (h : k < xs.length) : (sl.part (xs.map letV) k).set k (letV (xs.getD k oz)) = sl.part (xs.map letV) (k + 1) := by
  rw [← let_at xs k h]; exact sl.part_set _ k (by simpa using h)
theorem let_plen (xs : List V) (k : Nat) (h : k ≤ xs.length) : (sl.part (xs.map letV) k).length = xs.length := by rw [sl.part_len _ k (by simpa using h)]; simp

set_option maxRecDepth 100000 in
set_option maxHeartbeats 2000000 in
theorem lettersW (xs : List V) (v : Value) (B : Nat) (w : World) (ha : Ops w B v xs) (hB : B ≤ w.heap.size) (hq : Small xs) (hl : ∀ j, j < xs.length → ((xs.getD j oz).a2 = 1 ∨ (xs.getD j oz).a2 = -1) ∧ 0 ≤ (xs.getD j oz).a1 ∧ (xs.getD j oz).a1 ≤ 100) :
    Calls Try.prog 92 #[v] w fun e w' => ∃ v', e = .returned v' ∧ Own w' w.heap.size w'.heap.size v' (xs.map letV) ∧ Below w.heap.size w w' := by
  have hn := hq.len
  clear hq
  obtain ⟨i0, hi, hz0, hz1, hz2⟩ := info_parts info64
  rcases ha with ⟨rfl, ao, cap, rfl, hao⟩ | ⟨hp, b, off, cap, rfl, hbb, hc⟩
  · go_enter Try.func92, Try.ntmps92
    go_wp2_with (at_make; refine wpList_make_full _ rfl (.tmp 7) (.tmp 7) 22 rfl w.heap.size 2 i0 (.int .i64 0) 1 Try.underlying22 hi hz0 hz1 .i64 .i64 _ _ 0 rfl rfl (by rfl) (by rfl) (by omega) (by unfold maxLen; omega) (Nat.le_refl _) ?_; intro w1 hown1 hgrow1)
    have HO1 := hid (made_own hown1)
    have HB1 : Hid (Below w.heap.size w w1) := hid ((Below.refl _ _).grown hgrow1 (Nat.le_refl _) (fun k hk => by cases hk))
    clear hown1 hgrow1
    refine wp_loop_rounds 1 ?_
    rw [rounds_succ]
    go_wp2
    go_ret
    exact ⟨_, rfl, HO1.out, HB1.out⟩
  · have HC := hid (fun W (b1 : Below w.heap.size w W) j (hj : j < xs.length) => (hc j hj).below b1)
    have HL := hid hl
    have HSet := hid (fun k h => let_set xs k h)
    have HPl := hid (fun k h => let_plen xs k h)
    have HAll : Hid (sl.part (xs.map letV) xs.length = xs.map letV ∧ sl.part (xs.map letV) 0 = List.replicate xs.length 0) := hid ⟨by rw [show xs.length = (xs.map letV).length by simp]; exact sl.part_all _, by rw [sl.part_zero]; simp⟩
    obtain ⟨n, hnn⟩ : ∃ n, n = xs.length := ⟨_, rfl⟩
    rw [← hnn] at hp hn HC HL HSet HPl HAll ⊢
    clear hnn hc hl
    go_enter Try.func92, Try.ntmps92
    go_wp2_with (at_make; refine wpList_make_full _ rfl (.tmp 7) (.tmp 7) 22 rfl w.heap.size 2 i0 (.int .i64 0) 1 Try.underlying22 hi hz0 hz1 .i64 .i64 _ _ n rfl rfl (by rfl) (by rfl) (by rw [hz2]; omega) (by unfold maxLen; omega) (Nat.le_refl _) ?_; intro w1 hown1 hgrow1)
    have HO1 := hid (made_own hown1)
    have HB1 : Hid (Below w.heap.size w w1) := hid ((Below.refl _ _).grown hgrow1 (Nat.le_refl _) (fun k hk => by cases hk))
    clear hown1 hgrow1
    go_loopw [11] (fun i wr => ∃ k : Nat, k ≤ n ∧ i = .int .i64 k ∧ Own wr w.heap.size wr.heap.size (.slice (some ⟨w.heap.size, 0, none⟩) n n) (sl.part (xs.map letV) k) ∧ Below w.heap.size w wr)
      (fun i _ => n - (intOf i).toNat)
    case atStart => exact ⟨0, Nat.zero_le _, rfl, by rw [HAll.out.2]; exact HO1.out, HB1.out⟩
    case round =>
      obtain ⟨k, hk, rfl, hown, hbel⟩ := hrel
      have HO := hid hown
      have HB := hid hbel
      clear hown hbel HO1 HB1
      by_cases hlt : k < n
      · have HA1 := HC.out wr HB.out k hlt
        have HSt := hid (HSet.out k hlt)
        have hpl := HPl.out k hk
        obtain ⟨hl2, hl1⟩ := HL.out k hlt
        generalize hcl : sl.part (xs.map letV) k = l at HO HSt hpl
        clear hcl
        generalize xs.getD k oz = x at *
        have HLe := hid (fun W => letterC x hl2 hl1 W)
        have HN6 := hid (at_new x 97 wr)
        generalize letV x = y at *
        clear hl2 hl1
        obtain ⟨x0, x1, x2, x3, x4, x5⟩ := x
        simp only [V.val] at HLe
        simp only at HN6
        have hbE := (Below.refl wr.heap.size wr).alloc (Nat.le_refl _) (.cells #[.int .i64 x0, .int .i64 x1, .int .i64 x2, .int .i64 x3, .int .i64 x4, .int .i64 x5] 97)
        have HBE := hid (HB.out.trans (hbE.mono HB.out.size))
        have HOE := hid (HO.out.chg (Chg.ofBelow (lo := 0) hbE) (.inr (.inr (Nat.zero_le _))))
        have c0 := HA1.c0
        have c1 := HA1.c1
        have c2 := HA1.c2
        have c3 := HA1.c3
        have c4 := HA1.c4
        have c5 := HA1.c5
        simp only at c0 c1 c2 c3 c4 c5
        have hszE : wr.heap.size < (wr.alloc (.cells #[.int .i64 x0, .int .i64 x1, .int .i64 x2, .int .i64 x3, .int .i64 x4, .int .i64 x5] 97)).heap.size := by simp
        clear HA1 hbE
        go_wp2_with fail
        clear c0 c1 c2 c3 c4 c5
        generalize wr.alloc (.cells #[.int .i64 x0, .int .i64 x1, .int .i64 x2, .int .i64 x3, .int .i64 x4, .int .i64 x5] 97) = W0 at *
        refine (HLe.out _).mono ?_
        rintro e w6 ⟨rfl, b6⟩
        have HB6 := hid (HBE.out.trans (b6.mono HBE.out.size))
        have HO6 := hid ((HOE.out.chg (Chg.ofBelow (lo := 0) b6) (.inr (.inr (Nat.zero_le _)))).hi (hi' := w6.heap.size) (by have := b6.size; omega) (Nat.le_refl _))
        clear b6 HN6 HBE HOE HLe
        have hcell := (HO6.out.at' k (by rw [hpl]; exact hlt)).1
        have hfr := (HO6.out.at' k (by rw [hpl]; exact hlt)).2
        have HS := hid (HO6.out.set k y).1
        go_wp2
        go_roundw
        case rel => exact ⟨k + 1, by omega, by go_num, by have := HS.out; rw [HSt.out] at this; simpa using this, HB6.out.setCell (by simp) _⟩
        case measure => simp [intOf]; omega
      · obtain rfl : k = n := by omega
        go_wp2
        go_ret
        exact ⟨_, rfl, by have := HO.out; rw [HAll.out.1] at this; exact this, HB.out⟩

/-! ### the closure of CrossingBraid -/
def nokC (s : Int) (x : V) : Bool := !isX x || !evB s x
theorem nok_eq (s : Int) (xs : List V) : xs.any (nokC s) = !crB s xs := by
  simp only [crB, nokC, isX, List.any_eq_not_all_not, Bool.not_or, Bool.not_not]
  rfl
set_option maxRecDepth 100000 in
theorem cb1 (b : Nat) (s : Int) (x : V) (W : World) (h0 : W.cell? ⟨b, 0, none⟩ = some (.int .i64 s)) (hs : 0 ≤ s ∧ s ≤ 12) :
    Calls Try.prog 89 #[x.val, .pointer (some ⟨b, 0, none⟩)] W fun e w' => e = .returned (.bool (nokC s x)) ∧ Below W.heap.size W w' := by
  have HXc := hid (fun W => predX x W)
  have HV := hid (fun W => implV x s W hs.1 (by omega))
  have HN6 := hid (at_new x 97 W)
  have HK : Hid (nokC s x = (!isX x || !evB s x)) := hid rfl
  rw [HK.out]
  obtain ⟨x0, x1, x2, x3, x4, x5⟩ := x
  simp only [V.val, Array.append_empty] at HXc HV ⊢
  simp only at HN6
  generalize isX ⟨x0, x1, x2, x3, x4, x5⟩ = t at *
  generalize evB s ⟨x0, x1, x2, x3, x4, x5⟩ = u at *
  have hbE := (Below.refl W.heap.size W).alloc (Nat.le_refl _) (.cells #[.int .i64 x0, .int .i64 x1, .int .i64 x2, .int .i64 x3, .int .i64 x4, .int .i64 x5] 97)
  have HBE := hid hbE
  have e0 := HN6.out.c0
  have e1 := HN6.out.c1
  have e2 := HN6.out.c2
  have e3 := HN6.out.c3
  have e4 := HN6.out.c4
  have e5 := HN6.out.c5
  simp only [Nat.zero_add] at e0 e1 e2 e3 e4 e5
  have h0' := (hbE.cell (p := ⟨b, 0, none⟩) (World.block_lt_of_cell? W _ h0)).trans h0
  clear hbE HK
  go_enter Try.func89, Try.ntmps89
  go_wp2_with fail
  clear e0 e1 e2 e3 e4 e5
  generalize W.alloc (.cells #[.int .i64 x0, .int .i64 x1, .int .i64 x2, .int .i64 x3, .int .i64 x4, .int .i64 x5] 97) = W0 at *
  refine (HXc.out _).mono ?_
  rintro e w4 ⟨rfl, b4⟩
  have HN4 := hid (HN6.out.below b4)
  have HB4 := hid (HBE.out.trans (b4.mono HBE.out.size))
  have h4 := (b4.cell (p := ⟨b, 0, none⟩) (World.block_lt_of_cell? W0 _ h0')).trans h0'
  clear b4 HXc HN6 HBE h0' h0
  cases t with
  | false =>
    go_wp2
    go_ret
    exact ⟨rfl, HB4.out⟩
  | true =>
    have e0 := HN4.out.c0
    have e1 := HN4.out.c1
    have e2 := HN4.out.c2
    have e3 := HN4.out.c3
    have e4 := HN4.out.c4
    have e5 := HN4.out.c5
    simp only [Nat.zero_add] at e0 e1 e2 e3 e4 e5
    go_wp2_with fail
    refine (HV.out _).mono ?_
    rintro e w5 ⟨rfl, b5⟩
    have HB5 := hid (HB4.out.trans (b5.mono HB4.out.size))
    clear b5 HV
    cases u <;>
    ( go_wp2
      go_ret
      exact ⟨rfl, HB5.out⟩)

set_option maxRecDepth 100000 in
set_option maxHeartbeats 2000000 in
theorem implCB (s : Int) (xs : List V) (v : Value) (B : Nat) (w : World) (ha : Ops w B v xs) (hB : B ≤ w.heap.size) (hq : Small xs) :
    Calls Try.prog 44 #[.int .i64 s, v] w fun e w' => ∃ ao cap, e = .returned (.tuple #[.agg #[.int .i64 (cbS s xs), .slice ao (cbW s xs).length cap], .int .i64 (cbC s xs)]) ∧ Own w' w.heap.size w'.heap.size (.slice ao (cbW s xs).length cap) (cbW s xs) ∧ Below w.heap.size w w' := by
  have hn := hq.len
  have eg := enters_of Try.func89 (by kernel_rfl) rfl
  have hb00 := (Below.refl w.heap.size w).alloc (Nat.le_refl _) (.cells #[.int .i64 s] 2)
  have hb0 := hb00.alloc (by simp) (.cells #[.int .i64 0, .slice none 0 0] 26)
  obtain ⟨W0, hW0⟩ : ∃ W0, W0 = (w.alloc (.cells #[.int .i64 s] 2)).alloc (.cells #[.int .i64 0, .slice none 0 0] 26) := ⟨_, rfl⟩
  have hs0 : W0.heap.size = w.heap.size + 2 := by rw [hW0]; simp
  have k0 : W0.cell? ⟨w.heap.size, 0, none⟩ = some (.int .i64 s) := by rw [hW0, World.cell?_alloc_past _ _ _ (by simp)]; exact World.cell?_alloc_at _ _ _ _ rfl
  have k1 : W0.cell? ⟨w.heap.size + 1, 0, none⟩ = some (.int .i64 0) := by rw [hW0]; exact World.cell?_alloc_at _ _ _ _ (by simp)
  have k2 : W0.cell? ⟨w.heap.size + 1, 1, none⟩ = some (.slice none 0 0) := by rw [hW0]; exact World.cell?_alloc_at _ _ _ _ (by simp)
  have k3 : W0.frozen? ⟨w.heap.size + 1, 0, none⟩ = false := by rw [hW0]; exact World.frozen?_alloc_at _ _ _ _ (by simp)
  have k4 : W0.frozen? ⟨w.heap.size + 1, 1, none⟩ = false := by rw [hW0]; exact World.frozen?_alloc_at _ _ _ _ (by simp)
  rw [← hW0] at hb0
  have HR : Hid (∀ W, Below W0.heap.size W0 W → W.cell? ⟨w.heap.size, 0, none⟩ = some (.int .i64 s) ∧ W.cell? ⟨w.heap.size + 1, 0, none⟩ = some (.int .i64 0) ∧ W.cell? ⟨w.heap.size + 1, 1, none⟩ = some (.slice none 0 0) ∧ W.frozen? ⟨w.heap.size + 1, 0, none⟩ = false ∧ W.frozen? ⟨w.heap.size + 1, 1, none⟩ = false ∧ Below w.heap.size w W ∧ w.heap.size + 2 ≤ W.heap.size) := hid (fun W b => by
    have hs := b.size
    exact ⟨(b.cell (p := ⟨w.heap.size, 0, none⟩) (by show w.heap.size < _; omega)).trans k0, (b.cell (p := ⟨w.heap.size + 1, 0, none⟩) (by show w.heap.size + 1 < _; omega)).trans k1, (b.cell (p := ⟨w.heap.size + 1, 1, none⟩) (by show w.heap.size + 1 < _; omega)).trans k2, (b.frozen (p := ⟨w.heap.size + 1, 0, none⟩) (by show w.heap.size + 1 < _; omega)).trans k3, (b.frozen (p := ⟨w.heap.size + 1, 1, none⟩) (by show w.heap.size + 1 < _; omega)).trans k4, hb0.trans (b.mono hb0.size), by omega⟩)
  cases hr : rngS s with
  | false =>
    obtain ⟨h1, h2, h3⟩ := cb_rng (xs := xs) hr
    rw [h1, h2, h3]
    have hd : decide (0 ≤ s ∧ s ≤ 12) = false := hr
    have HB0 := hid hb0
    obtain ⟨ao, cap, rfl⟩ := ops_val ha
    clear ha h1 h2 h3 hb0 hb00 hr hq eg k3 k4 HR
    generalize xs.length = n at *
    subst hW0
    go_enter Try.func44, Try.ntmps44
    go_wp2_with (go_at_call 61; refine (nd.within64 _ _ _ _).mono ?_; rintro e w' ⟨rfl, rfl⟩)
    refine bodyPost_ret (v := .tuple #[.agg #[.int .i64 0, .slice none 0 0], .int .i64 2]) (by simp [results, Try.results44, go_sem]) rfl ⟨none, 0, rfl, Own.nil _ _, HB0.out⟩
  | true =>
    have hd : decide (0 ≤ s ∧ s ≤ 12) = true := hr
    have hs12 : 0 ≤ s ∧ s ≤ 12 := of_decide_eq_true hr
    have HA := hid (fun W (b : Below W0.heap.size W0 W) => ((ha.below (hb0.trans (Below.refl _ _))).below b : Ops W B v xs))
    have HCt : Hid (Calls Try.prog 88 #[v, .func (.func 89) #[] #[.pointer (some ⟨w.heap.size, 0, none⟩)]] W0 fun e w' => e = .returned (.bool (!crB s xs)) ∧ Below W0.heap.size W0 w') := hid (by
      have := contEv (nokC s) 89 #[.pointer (some ⟨w.heap.size, 0, none⟩)] xs v B W0 (HA.out W0 (Below.refl _ _)) (by omega) hn eg (fun x W hb => cb1 w.heap.size s x W ((hb.cell (p := ⟨w.heap.size, 0, none⟩) (by show w.heap.size < _; omega)).trans k0) hs12)
      rw [nok_eq] at this
      exact this)
    have HLt : Hid (crB s xs = true → ∀ W, Below W0.heap.size W0 W → Calls Try.prog 92 #[v] W fun e w' => ∃ v', e = .returned v' ∧ Own w' W.heap.size w'.heap.size v' (xs.map letV) ∧ Below W.heap.size W w') := hid (fun hcr W b =>
      lettersW xs v B W (HA.out W b) (by have := b.size; omega) hq (fun j hj => by
        have h1 : okC s (xs.getD j oz) = true := by
          rw [crB, List.all_eq_true] at hcr
          refine hcr _ ?_
          rw [show xs.getD j oz = xs[j] from by simp [List.getD, List.getElem?_eq_getElem hj]]
          exact List.getElem_mem hj
        obtain ⟨_, a2, a1, a1'⟩ := okC_parts h1
        exact ⟨a2, a1, by omega⟩))
    have HP : Hid (∀ (W : World) (v2 : Value), Own W (w.heap.size + 2) W.heap.size v2 (xs.map letV) → crB s xs = true → ∀ (ao2 : Option Addr) (c2 : Nat), v2 = .slice ao2 (xs.map letV).length c2 → ∀ X, Below (W.alloc (.cells #[v2] 22)).heap.size (W.alloc (.cells #[v2] 22)) X → Calls Try.prog 62 #[.int .i64 s, .slice (some ⟨W.heap.size, 0, none⟩) 1 1] X fun e w' => ∃ ao cap, e = .returned (.tuple #[.agg #[.int .i64 (cbS s xs), .slice ao (cbW s xs).length cap], .int .i64 (cbC s xs)]) ∧ Own w' (W.heap.size + 1) w'.heap.size (.slice ao (cbW s xs).length cap) (cbW s xs) ∧ Below W.heap.size W w') := hid (fun W v2 o2 hcr ao2 c2 hv2 X bX => by
      have hal := (Below.refl W.heap.size W).alloc (Nat.le_refl _) (.cells #[v2] 22)
      have hz : W.heap.size + 1 ≤ X.heap.size := by have := bX.size; simpa using this
      have hwd : Wds X W.heap.size W.heap.size [xs.map letV] := fun j hj => by
        obtain rfl : j = 0 := by simpa using hj
        rw [show ([xs.map letV].getD 0 []) = xs.map letV from rfl]
        exact ⟨ao2, c2, by rw [← hv2]; exact (bX.cell (p := ⟨W.heap.size, 0, none⟩) (by simp)).trans (World.cell?_alloc_at _ _ _ _ rfl), by rw [← hv2]; exact (ints_al o2.ints (.cells #[v2] 22)).chg (Chg.ofBelow (lo := 0) bX) (.inr (Nat.zero_le _)), by rw [← hv2]; exact nilok_own o2⟩
      have hj := implJoined s [xs.map letV] W.heap.size 1 W.heap.size X hwd (by first | omega | (simp; omega) | simp) (by first | omega | (simp; omega) | simp) (by first | omega | (simp; omega) | simp) (by first | omega | (simp; omega) | simp)
      have hok : joinOk s [xs.map letV] = decide (xs.length ≤ 40) := by simp [joinOk, hs12.2]
      refine (show Calls _ _ #[.int .i64 s, .slice (some ⟨W.heap.size, 0, none⟩) 1 1] _ _ from hj).mono ?_
      rintro e w' ⟨ao, cap, rfl, o, b⟩
      have e1 : joinS s [xs.map letV] = cbS s xs ∧ joinW s [xs.map letV] = cbW s xs ∧ joinC s [xs.map letV] = cbC s xs := by
        by_cases h40 : xs.length ≤ 40
        · obtain ⟨q1, q2, q3⟩ := cb_ok hr hcr h40
          rw [q1, q2, q3]; simp [joinS, joinW, joinC, hok, h40]
        · obtain ⟨q1, q2, q3⟩ := cb_full hr hcr h40
          rw [q1, q2, q3]; simp [joinS, joinW, joinC, hok, h40]
      rw [e1.1, e1.2.1, e1.2.2]
      rw [e1.2.1] at o
      exact ⟨ao, cap, rfl, o.lo hz, hal.trans ((bX.mono hal.size).trans (b.mono (by omega)))⟩)
    have HBd := hid (fun h1 => cb_bad (xs := xs) hr h1)
    obtain ⟨ao0, cap0, hv0⟩ := ops_val ha
    obtain ⟨n, hnn⟩ : ∃ n, n = xs.length := ⟨_, rfl⟩
    rw [← hnn] at hv0
    subst hv0
    clear hb0 hb00 hr ha eg hq hnn k3 k4 HA
    generalize xs.map letV = l at *
    obtain ⟨q1, hq1⟩ : ∃ q, q = cbC s xs := ⟨_, rfl⟩
    obtain ⟨q2, hq2⟩ : ∃ q, q = cbS s xs := ⟨_, rfl⟩
    obtain ⟨q3, hq3⟩ : ∃ q, q = cbW s xs := ⟨_, rfl⟩
    rw [← hq1, ← hq2, ← hq3] at HP HBd ⊢
    clear hq1 hq2 hq3
    obtain ⟨m3, hm3⟩ : ∃ m, m = q3.length := ⟨_, rfl⟩
    rw [← hm3] at HP ⊢
    have HM := hid hm3
    clear hm3
    generalize crB s xs = t at *
    have HK := hid k1
    have HK2 := hid k2
    have HKc := hid hW0
    clear k1 k2
    go_enter Try.func44, Try.ntmps44
    go_wp2_with (go_at_call 61; refine (nd.within64 _ _ _ _).mono ?_; rintro e w' ⟨rfl, rfl⟩)
    rw [← HKc.out]
    refine HCt.out.mono ?_
    rintro e w1 ⟨rfl, b1⟩
    obtain ⟨k0', r0, r1, g0, g1, hbw, hs1⟩ := HR.out w1 b1
    have HBw := hid hbw
    have HB1 := hid b1
    clear b1 hbw HCt
    cases t with
    | false =>
      obtain ⟨rfl, rfl, rfl⟩ := HBd.out rfl
      obtain rfl : m3 = 0 := HM.out
      go_wp2
      refine bodyPost_ret (v := .tuple #[.agg #[.int .i64 0, .slice none 0 0], .int .i64 1]) (by simp [results, Try.results44, go_sem, r0, r1]) rfl ⟨none, 0, rfl, Own.nil _ _, ?_⟩
      exact (HBw.out.setCell (p := ⟨w.heap.size + 1, 0, none⟩) (Nat.le_succ _) _).setCell (p := ⟨w.heap.size + 1, 1, none⟩) (Nat.le_succ _) _
    | true =>
      clear HBd
      go_wp2_with fail
      go_region_held3 (fun w' => w'.cell? ⟨w.heap.size, 0, none⟩ = some (.int .i64 s)) (go_keep) (first
        | (go_at_call 92
           refine (HLt.out (by trivial) w1.drew HB1.out.drew).mono ?_
           rintro e w2 ⟨v2, rfl, o2, b2⟩
           obtain ⟨ao2, c2, hv2⟩ := br.own_val o2
           subst hv2
           have hz2 : w1.heap.size ≤ w2.heap.size := b2.size
           have kA : w2.cell? ⟨w.heap.size, 0, none⟩ = some (.int .i64 s) := (b2.cell (p := ⟨w.heap.size, 0, none⟩) (by show w.heap.size < w1.heap.size; omega)).trans k0'
           have kB : (w2.alloc (.cells #[.slice ao2 l.length c2] 22)).cell? ⟨w.heap.size, 0, none⟩ = some (.int .i64 s) := (World.cell?_alloc_past _ _ _ (by show w.heap.size < _; omega)).trans kA
           have s0 := (b2.cell (p := ⟨w.heap.size + 1, 0, none⟩) (by show w.heap.size + 1 < w1.heap.size; omega)).trans r0
           have s1 := (b2.cell (p := ⟨w.heap.size + 1, 1, none⟩) (by show w.heap.size + 1 < w1.heap.size; omega)).trans r1
           have t0 := (b2.frozen (p := ⟨w.heap.size + 1, 0, none⟩) (by show w.heap.size + 1 < w1.heap.size; omega)).trans g0
           have t1 := (b2.frozen (p := ⟨w.heap.size + 1, 1, none⟩) (by show w.heap.size + 1 < w1.heap.size; omega)).trans g1
           have HJ := hid (HP.out w2 _ (o2.lo (by show w.heap.size + 2 ≤ w1.heap.size; omega)) (by trivial) ao2 c2 rfl)
           have HB2 : Hid (Below w.heap.size w w2) := hid (HBw.out.drew.trans (b2.mono (by show w.heap.size ≤ w1.heap.size; omega)))
           clear o2 b2 HLt)
        | (go_at_call 62
           refine (HJ.out _ ?_).mono ?_
           · (first | exact Below.refl _ _ | exact (Below.refl _ _).drew | exact bdrewN (Below.refl _ _) _)
           rintro e w3 ⟨ao3, cap3, rfl, o3, b3⟩
           have kC := (b3.cell (p := ⟨w.heap.size, 0, none⟩) (by show w.heap.size < _; omega)).trans kA
           have u0 := (b3.cell (p := ⟨w.heap.size + 1, 0, none⟩) (by show w.heap.size + 1 < _; omega)).trans s0
           have u1 := (b3.cell (p := ⟨w.heap.size + 1, 1, none⟩) (by show w.heap.size + 1 < _; omega)).trans s1
           have x0 := (b3.frozen (p := ⟨w.heap.size + 1, 0, none⟩) (by show w.heap.size + 1 < _; omega)).trans t0
           have x1 := (b3.frozen (p := ⟨w.heap.size + 1, 1, none⟩) (by show w.heap.size + 1 < _; omega)).trans t1
           have HO3 := hid (o3.lo (lo' := w.heap.size + 2) (by omega))
           have HB3 := hid (HB2.out.trans (b3.mono (by omega)))
           clear o3 b3 HJ s0 s1 t0 t1 kA kB))
      all_goals (try go_wp2)
      all_goals
        refine bodyPost_ret (v := .tuple #[.agg #[.int .i64 q2, .slice ao3 m3 cap3], .int .i64 q1]) (by simp [results, Try.results44, go_sem, u0, u1]) rfl ⟨ao3, cap3, rfl, ?_, ?_⟩
        · have h := own_other (own_other HO3.out (w.heap.size + 1) 0 (.int .i64 q2) (by omega)) (w.heap.size + 1) 1 (.slice ao3 m3 cap3) (by omega)
          have h2 := h.lo (lo' := w.heap.size) (by omega)
          simpa using h2
        · exact (HB3.out.setCell (p := ⟨w.heap.size + 1, 0, none⟩) (Nat.le_succ _) _).setCell (p := ⟨w.heap.size + 1, 1, none⟩) (Nat.le_succ _) _

end Go.Proofs.Ytlhpipcmebmpdaa.ev
