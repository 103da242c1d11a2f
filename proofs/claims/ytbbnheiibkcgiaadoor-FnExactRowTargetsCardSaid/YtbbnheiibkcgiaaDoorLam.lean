/-
  In one file: Srx, La0, La1, La2, La3, La4.
-/
import Derived.Test.YtbbnheiibkcgiaaDoorSr
import Derived.Test.YtbbnheiibkcgiaaDoorRl2
import Derived.Laws.EntriesVeiled
import Derived.Deep.RegionHeld3
import Derived.Deep.CutRange
/- Rows built by append where other own memory below changes, too (as in Db2, without DoubleBraid). -/
namespace Go.Proofs.YtbbnheiibkcgiaaDoor.srx
open Go.RowKit Go.Proofs.YtbbnheiibkcgiaaDoor.sl Go.Proofs.YtbbnheiibkcgiaaDoor.br Go.Proofs.YtbbnheiibkcgiaaDoor.wk
set_option linter.unusedVariables false

theorem sr_chg {W W' : World} {lo l h : Nat} {v : Value} {vals : List Value} {L : List (List Int)} (s : SR W lo v vals L) (c : Chg l h W W') (hh : h ≤ lo) : SR W' lo v vals L := by
  obtain ⟨Lo, Hi, he⟩ := s.els
  refine ⟨s.len, ⟨s.row.1, ?_⟩, Lo, Hi, fun j hj => ?_⟩
  · rcases s.row.2 with h1 | ⟨g, cap, cur, hv, hb, hg, hr⟩
    · exact .inl h1
    · have hlt := (s.row.lt g (by rw [hv]; rfl)).2
      exact .inr ⟨g, cap, cur, hv, hb, by rw [c.block g hlt (by omega)]; exact hg, hr⟩
  · obtain ⟨a1, a2, a3⟩ := he j hj
    exact ⟨a1.chg c (by omega), a2, a3⟩
/-- One row more; the world has changed below. -/
theorem sr_app {Wr W1 W2 W' : World} {lo l h : Nat} {v v' y : Value} {vals : List Value} {L : List (List Int)} {r : List Int} (s : SR Wr lo v vals L) (c : Chg l h Wr W1) (hh : h ≤ lo) (oy : sl.Own W1 Wr.heap.size W1.heap.size y r) (b2 : Below W1.heap.size W1 W2) (hlo : lo ≤ Wr.heap.size)
    (hr : W'.ownsRow lo 34 1 v' (L.length + 1) (vals ++ [y])) (hg : W2.grownBy W' v.ownBlock) (h5 : v'.ownBlock = v.ownBlock ∨ v'.ownBlock = some W2.heap.size) : SR W' lo v' (vals ++ [y]) (L ++ [r]) := by
  have hs1 := c.size
  have hs2 := b2.size
  have oy2 : sl.Own W2 Wr.heap.size W1.heap.size y r := oy.chg (Chg.ofBelow (lo := 0) b2) (.inr (.inr (Nat.zero_le _)))
  obtain ⟨Lo, Hi, he⟩ := s.els
  have hlt : ∀ k, v.ownBlock = some k → k < Wr.heap.size := fun k hk => (s.row.lt k hk).2
  refine ⟨by simp [s.len], by simpa using hr, fun j => if j < L.length then Lo j else Wr.heap.size, fun j => if j < L.length then Hi j else W1.heap.size, fun j hj => ?_⟩
  simp only [List.length_append, List.length_cons, List.length_nil, Nat.zero_add] at hj
  by_cases hl : j < L.length
  · have hl' : j < vals.length := by rw [s.len]; exact hl
    have e1 : (vals ++ [y]).getD j (.bool false) = vals.getD j (.bool false) := by simp [List.getD, List.getElem?_append_left hl']
    have e2 : (L ++ [r]).getD j [] = L.getD j [] := by simp [List.getD, List.getElem?_append_left hl]
    obtain ⟨a1, a2, a3, a4⟩ := he j hl
    have hh1 := a1.2.2
    have o2 : sl.Own W2 (Lo j) (Hi j) (vals.getD j (.bool false)) (L.getD j []) := (a1.chg c (by omega)).chg (Chg.ofBelow (lo := 0) b2) (.inr (.inr (Nat.zero_le _)))
    rw [e1, e2]
    simp only [if_pos hl]
    refine ⟨own_by o2 hg a3, a2, fun g e => ?_, fun i hi => ?_⟩
    · rcases h5 with h5 | h5
      · exact a3 g (by rw [← h5]; exact e)
      · rw [h5] at e
        simp only [Option.some.injEq] at e
        omega
    · rw [if_pos (show i < L.length by omega)]
      rw [if_pos (show i < L.length by omega)]
      exact a4 i hi
  · obtain rfl : j = L.length := by omega
    have e1 : (vals ++ [y]).getD L.length (.bool false) = y := by rw [← s.len]; simp [List.getD]
    have e2 : (L ++ [r]).getD L.length [] = r := by simp [List.getD]
    rw [e1, e2]
    simp only [if_neg (Nat.lt_irrefl _)]
    refine ⟨own_by oy2 hg fun k hk => .inl (hlt k hk), hlo, fun g e => ?_, fun i hi => ?_⟩
    · rcases h5 with h5 | h5
      · exact .inl (hlt g (by rw [← h5]; exact e))
      · rw [h5] at e
        simp only [Option.some.injEq] at e
        omega
    · simp only [if_pos hi]
      have := (he i hi).1.2.2
      omega
theorem wp_appRC {ops : Array Oper} {rest : List Oper} {o : Oper} {a : Act} {Q : Exit → Act → World → Prop} {Wr W1 : World} (hgd : o.guard = none) (s x : Operand)
    (hop : o.op = .call { callee := .builtin .append, args := #[s, x], argTypes := #[47, 47] })
    (lo l hh : Nat) (v y : Value) (vals : List Value) (L : List (List Int)) (r : List Int) (h : SR Wr lo v vals L) (c : Chg l hh Wr W1) (hhl : hh ≤ lo) (oy : sl.Own W1 Wr.heap.size W1.heap.size y r) (hy1 : y.oneCell' = true) (hs : a.eval s = v) (hx : a.eval x = .slice (some ⟨W1.heap.size, 0, none⟩) 1 1) (hlo : lo ≤ Wr.heap.size) (hn : L.length ≤ 1048576)
    (hK : ∀ v' w', SR w' lo v' (vals ++ [y]) (L ++ [r]) → Below lo W1 w' → wpList Tryd.prog ops Q rest (a.put o.dst v') w') : wpList Tryd.prog ops Q (o :: rest) a (W1.alloc (.cells #[y] 34)) := by
  obtain ⟨i0, hi', hz0, hz1, hz2⟩ := info_parts ss.infoS
  have b2 : Below W1.heap.size W1 (W1.alloc (.cells #[y] 34)) := (Below.refl _ _).alloc (Nat.le_refl _) _
  have hs1 := c.size
  have ho := ((sr_chg h c hhl).below b2).row
  obtain ⟨v', w', hr, h2, h3, h4, h5⟩ := run_append_own_at (P := Tryd.prog) (W1.alloc (.cells #[y] 34)) lo 47 o.type 34 i0 (.slice none 0 0) 1 24 Tryd.underlying47 hi' hz0 hz1 hz2 rfl (by decide) v L.length vals ho ⟨W1.heap.size, 0, none⟩ 1 1 [y] (by simp)
    (fun j u hj => by
      match j, hj with
      | 0, hj =>
        simp only [List.getElem?_cons_zero, Option.some.injEq] at hj
        subst hj
        rw [Addr.add_lit, World.cell?_alloc_at _ _ _ _ rfl]; rfl)
    (fun u hu => by simp at hu; subst hu; exact hy1) (by unfold maxLen; omega) (by omega) (by simp; omega)
  refine wpList_plain hgd fun K hKK => ?_
  unfold Oper.wp execOp
  simp only [hop, resolve, invoke, builtin, Sem.run_bind, Sem.run_pure, Result.andThen_ok, List.map_toArray, List.map_cons, List.map_nil, hs, hx, hr]
  refine hKK _ _ (hK v' w' (sr_app h c hhl oy b2 hlo h2 h3 h5) ⟨h3.os, h3.tape, h3.output, Nat.le_trans b2.size h3.size, fun k hk => ?_⟩)
  rw [h3.block k (by have := b2.size; omega) (by intro e; have := (h.row.lt k e.symm).1; omega)]
  exact b2.block k (by omega)
end Go.Proofs.YtbbnheiibkcgiaaDoor.srx

/- Columns that stitches take and make: mathematics; the model's lists of them. -/
namespace Go.Proofs.YtbbnheiibkcgiaaDoor.la
open Go.RowKit Go.Proofs.YtbbnheiibkcgiaaDoor.sl Go.Proofs.YtbbnheiibkcgiaaDoor.pm Go.Proofs.YtbbnheiibkcgiaaDoor.br Go.Proofs.YtbbnheiibkcgiaaDoor.bw Go.Proofs.YtbbnheiibkcgiaaDoor.st Go.Proofs.YtbbnheiibkcgiaaDoor.wk Go.Proofs.YtbbnheiibkcgiaaDoor.rl
set_option linter.unusedVariables false
set_option maxRecDepth 100000

/-- The columns of the first k stitches, numbered from left to right. -/
def numL (f : Int → Int) (xs : List Int) (k : Nat) : List (List Int) := (List.range k).map fun i => sl.marks (sF f xs i) (f (xs.getD i 0)).toNat
theorem numL_zero (f : Int → Int) (xs : List Int) : numL f xs 0 = [] := rfl
theorem numL_succ (f : Int → Int) (xs : List Int) (k : Nat) : numL f xs (k + 1) = numL f xs k ++ [sl.marks (sF f xs k) (f (xs.getD k 0)).toNat] := by simp [numL, List.range_succ]
theorem numL_len (f : Int → Int) (xs : List Int) (k : Nat) : (numL f xs k).length = k := by simp [numL]
theorem numL_at (f : Int → Int) (xs : List Int) (k j : Nat) (h : j < k) : (numL f xs k).getD j [] = sl.marks (sF f xs j) (f (xs.getD j 0)).toNat := by simp [numL, List.getD, h]
theorem marks_succ (t : Int) (j : Nat) : sl.marks t (j + 1) = sl.marks t j ++ [t + (j : Int)] := by simp [sl.marks, List.range_succ]
theorem la_pos {xs : List Int} (h : laQ xs = true) : 0 < xs.length := by
  rcases Nat.eq_zero_or_pos xs.length with h0 | h0
  · obtain rfl := List.length_eq_zero_iff.1 h0
    exact absurd h (by decide)
  · exact h0

theorem specCount (t : Int) (n : Nat) (ht : 0 ≤ t ∧ t ≤ 1000) (hn : n ≤ 1000) (w : World) :
    Calls Tryd.prog 59 #[.int .i64 t, .int .i64 n] w fun e w' => ∃ v', e = .returned v' ∧ sl.Own w' w.heap.size w'.heap.size v' (sl.marks t n) ∧ Below w.heap.size w w' := by
  have HS0 := hid (Own.built w #[] rfl)
  go_enter Tryd.func59, Tryd.ntmps59
  go_wp2
  go_loopw [5, 6] (fun s i wr => ∃ (k : Nat) (z : Value), k ≤ n ∧ s = z ∧ i = .int .i64 k ∧ sl.Own wr w.heap.size wr.heap.size z (sl.marks t k) ∧ Below w.heap.size w wr) (fun _ i _ => n - (intOf i).toNat)
  case atStart => exact ⟨0, _, Nat.zero_le _, rfl, rfl, HS0.out, (Below.refl w.heap.size w).alloc (Nat.le_refl _) _⟩
  case round =>
    obtain ⟨k, z, hk, rfl, rfl, hown, hbel⟩ := hrel
    have HO := hid hown
    have HB := hid hbel
    have hsz := hbel.size
    clear hown hbel
    by_cases hlt : k < n
    · have HX := hid (marks_succ t k)
      have hml := sl.marks_len t k
      generalize sl.marks t k = L at *
      have e1 : IntKind.i64.wrap (t + (k : Int)) = t + (k : Int) := IntWalk.i64_in _ (by omega)
      have hd : decide ((k : Int) < (n : Int)) = true := decide_eq_true (by omega)
      go_wp2_with (at_builtin; refine wp_append rfl _ _ rfl w.heap.size _ _ L (t + (k : Int)) HO.out rfl rfl hsz (by omega) ?_; intro v9 w9 hown1 hchg1 hsz1; have HO1 := hid hown1; have HB1 := hid (HB.out.trans (hchg1.below (Nat.le_refl _) hsz)); clear hown1 hchg1)
      go_roundw
      case rel => exact ⟨k + 1, _, by omega, rfl, by go_num, by rw [HX.out]; exact HO1.out, HB1.out⟩
      case measure => simp [intOf]; omega
    · obtain rfl : k = n := by omega
      go_wp2
      go_ret
      exact ⟨_, rfl, HO.out, HB.out⟩

set_option maxHeartbeats 4000000 in
theorem specSrc (xs : List Int) (v : Value) (B p : Nat) (w : World) (hp2 : w.cell? ⟨p, 2, none⟩ = some v) (hpl : p < w.heap.size) (ha : Ints w B v xs) (hB : B ≤ w.heap.size) (hp0 : 0 < xs.length) (hl : lst xs = true) :
    Calls Tryd.prog 44 #[.pointer (some ⟨p, 0, none⟩)] w fun e w' => ∃ v' vals, e = .returned v' ∧ SR w' w.heap.size v' vals (numL tk xs xs.length) ∧ Below w.heap.size w w' := by
  have hn16 := (lst_parts hl).1
  have HK := hid (fun j h => (lst_parts hl).2 j h)
  have HSs := hid (fun k h => sF_succ tk xs k h)
  have HSb := hid (fun k h => sF_bound tk xs (fun j hj => by have := tk_bound ((lst_parts hl).2 j hj); omega) k h)
  rcases ha with ⟨rfl, ao, cap, rfl⟩ | ⟨hp, b, off, cap, rfl, hbb, hc⟩
  · simp at hp0
  · obtain ⟨n, hnn⟩ : ∃ n, n = xs.length := ⟨_, rfl⟩
    rw [← hnn] at hp hc hn16 HK HSs HSb hp2 ⊢
    have HN := hid hnn
    have HC := hid hc
    clear hnn hc hl hp0
    have HS0 := hid (SR.made w w.heap.size (Nat.le_refl _))
    go_enter Tryd.func44, Tryd.ntmps44
    go_wp2
    go_loopw [3, 4, 5] (fun s t i wr => ∃ (k : Nat) (z : Value) (vals : List Value), k ≤ n ∧ s = z ∧ i = .int .i64 k ∧ t = .int .i64 (sF tk xs k) ∧ SR wr w.heap.size z vals (numL tk xs k) ∧ Below w.heap.size w wr) (fun _ _ i _ => n - (intOf i).toNat)
    case atStart => exact ⟨0, _, _, Nat.zero_le _, rfl, rfl, rfl, HS0.out, (Below.refl w.heap.size w).alloc (Nat.le_refl _) _⟩
    case round =>
      obtain ⟨k, z, vals, hk, rfl, rfl, rfl, hown, hbel⟩ := hrel
      have HO := hid hown
      have HB := hid hbel
      have hsz := hbel.size
      have r2 := (hbel.cell (p := ⟨p, 2, none⟩) hpl).trans hp2
      clear hown hbel
      by_cases hlt : k < n
      · have h1 : wr.cell? ⟨b, off + k, none⟩ = some (.int .i64 (xs.getD k 0)) := (HB.out.cell (p := ⟨b, off + k, none⟩) (by show b < _; omega)).trans (HC.out k hlt)
        have hkx := HK.out k hlt
        have HX := hid (numL_succ tk xs k)
        have HS1 := hid (HSs.out k hlt)
        have hsb := HSb.out k hk
        have HTa := hid (fun W => specTaken (xs.getD k 0) W)
        have htb := tk_bound hkx
        have hLl := numL_len tk xs k
        obtain ⟨m, hm⟩ : ∃ m : Nat, tk (xs.getD k 0) = (m : Int) := ⟨(tk (xs.getD k 0)).toNat, by omega⟩
        rw [hm] at HTa HS1 htb HX
        have hmm : ((m : Nat) : Int).toNat = m := by omega
        rw [hmm] at HX
        clear hm hmm hkx
        generalize sF tk xs k = t at *
        generalize numL tk xs k = L at *
        generalize xs.getD k 0 = x at *
        have HCt := hid (specCount t m ⟨by omega, by omega⟩ (by omega))
        have e1 : IntKind.i64.wrap (t + (m : Int)) = t + (m : Int) := IntWalk.i64_in _ (by omega)
        go_wp2_with fail
        refine (HTa.out _).mono ?_
        rintro e w2 ⟨rfl, b2⟩
        have HB2 := hid (HB.out.trans (b2.mono hsz))
        have HO2 := hid (HO.out.below b2)
        have hz2 := HB2.out.size
        clear b2
        go_wp2_with fail
        refine (HCt.out _).mono ?_
        rintro e w3 ⟨y, rfl, oy, b3⟩
        obtain ⟨ya, yc, hyv⟩ := br.own_val oy
        have HOy := hid oy
        have HB3 := hid b3
        obtain ⟨ml, hml⟩ : ∃ ml, ml = (sl.marks t m).length := ⟨_, rfl⟩
        rw [← hml] at hyv
        clear oy b3 hml
        subst hyv
        go_wp2_with (at_builtin; refine wp_appR rfl _ _ rfl w.heap.size _ _ _ L (sl.marks t m) HO2.out HB3.out HOy.out rfl rfl rfl hz2 (by omega) ?_; intro v4 w4 s4 b4 g4 _; have HS4 := hid s4; have HB4 := hid (HB2.out.trans ((HB3.out.mono hz2).trans b4)); clear s4 b4 g4)
        go_roundw
        case rel => exact ⟨k + 1, _, _, by omega, rfl, by go_num, by rw [HS1.out], by rw [HX.out]; exact HS4.out, HB4.out⟩
        case measure => simp [intOf]; omega
      · obtain rfl : k = n := by omega
        go_wp2
        go_ret
        exact ⟨_, _, rfl, HO.out, HB.out⟩

set_option maxHeartbeats 4000000 in
theorem specRes (xs : List Int) (v : Value) (B p : Nat) (w : World) (hp2 : w.cell? ⟨p, 2, none⟩ = some v) (hpl : p < w.heap.size) (ha : Ints w B v xs) (hB : B ≤ w.heap.size) (hp0 : 0 < xs.length) (hl : lst xs = true) :
    Calls Tryd.prog 45 #[.pointer (some ⟨p, 0, none⟩)] w fun e w' => ∃ v' vals, e = .returned v' ∧ SR w' w.heap.size v' vals (numL md xs xs.length) ∧ Below w.heap.size w w' := by
  have hn16 := (lst_parts hl).1
  have HK := hid (fun j h => (lst_parts hl).2 j h)
  have HSs := hid (fun k h => sF_succ md xs k h)
  have HSb := hid (fun k h => sF_bound md xs (fun j hj => by have := md_bound ((lst_parts hl).2 j hj); omega) k h)
  rcases ha with ⟨rfl, ao, cap, rfl⟩ | ⟨hp, b, off, cap, rfl, hbb, hc⟩
  · simp at hp0
  · obtain ⟨n, hnn⟩ : ∃ n, n = xs.length := ⟨_, rfl⟩
    rw [← hnn] at hp hc hn16 HK HSs HSb hp2 ⊢
    have HN := hid hnn
    have HC := hid hc
    clear hnn hc hl hp0
    have HS0 := hid (SR.made w w.heap.size (Nat.le_refl _))
    go_enter Tryd.func45, Tryd.ntmps45
    go_wp2
    go_loopw [3, 4, 5] (fun s t i wr => ∃ (k : Nat) (z : Value) (vals : List Value), k ≤ n ∧ s = z ∧ i = .int .i64 k ∧ t = .int .i64 (sF md xs k) ∧ SR wr w.heap.size z vals (numL md xs k) ∧ Below w.heap.size w wr) (fun _ _ i _ => n - (intOf i).toNat)
    case atStart => exact ⟨0, _, _, Nat.zero_le _, rfl, rfl, rfl, HS0.out, (Below.refl w.heap.size w).alloc (Nat.le_refl _) _⟩
    case round =>
      obtain ⟨k, z, vals, hk, rfl, rfl, rfl, hown, hbel⟩ := hrel
      have HO := hid hown
      have HB := hid hbel
      have hsz := hbel.size
      have r2 := (hbel.cell (p := ⟨p, 2, none⟩) hpl).trans hp2
      clear hown hbel
      by_cases hlt : k < n
      · have h1 : wr.cell? ⟨b, off + k, none⟩ = some (.int .i64 (xs.getD k 0)) := (HB.out.cell (p := ⟨b, off + k, none⟩) (by show b < _; omega)).trans (HC.out k hlt)
        have hkx := HK.out k hlt
        have HX := hid (numL_succ md xs k)
        have HS1 := hid (HSs.out k hlt)
        have hsb := HSb.out k hk
        have HTa := hid (fun W => specMade (xs.getD k 0) W)
        have htb := md_bound hkx
        have hLl := numL_len md xs k
        obtain ⟨m, hm⟩ : ∃ m : Nat, md (xs.getD k 0) = (m : Int) := ⟨(md (xs.getD k 0)).toNat, by omega⟩
        rw [hm] at HTa HS1 htb HX
        have hmm : ((m : Nat) : Int).toNat = m := by omega
        rw [hmm] at HX
        clear hm hmm hkx
        generalize sF md xs k = t at *
        generalize numL md xs k = L at *
        generalize xs.getD k 0 = x at *
        have HCt := hid (specCount t m ⟨by omega, by omega⟩ (by omega))
        have e1 : IntKind.i64.wrap (t + (m : Int)) = t + (m : Int) := IntWalk.i64_in _ (by omega)
        go_wp2_with fail
        refine (HTa.out _).mono ?_
        rintro e w2 ⟨rfl, b2⟩
        have HB2 := hid (HB.out.trans (b2.mono hsz))
        have HO2 := hid (HO.out.below b2)
        have hz2 := HB2.out.size
        clear b2
        go_wp2_with fail
        refine (HCt.out _).mono ?_
        rintro e w3 ⟨y, rfl, oy, b3⟩
        obtain ⟨ya, yc, hyv⟩ := br.own_val oy
        have HOy := hid oy
        have HB3 := hid b3
        obtain ⟨ml, hml⟩ : ∃ ml, ml = (sl.marks t m).length := ⟨_, rfl⟩
        rw [← hml] at hyv
        clear oy b3 hml
        subst hyv
        go_wp2_with (at_builtin; refine wp_appR rfl _ _ rfl w.heap.size _ _ _ L (sl.marks t m) HO2.out HB3.out HOy.out rfl rfl rfl hz2 (by omega) ?_; intro v4 w4 s4 b4 g4 _; have HS4 := hid s4; have HB4 := hid (HB2.out.trans ((HB3.out.mono hz2).trans b4)); clear s4 b4 g4)
        go_roundw
        case rel => exact ⟨k + 1, _, _, by omega, rfl, by go_num, by rw [HS1.out], by rw [HX.out]; exact HS4.out, HB4.out⟩
        case measure => simp [intOf]; omega
      · obtain rfl : k = n := by omega
        go_wp2
        go_ret
        exact ⟨_, _, rfl, HO.out, HB.out⟩
end Go.Proofs.YtbbnheiibkcgiaaDoor.la

/- RowSources and RowResults of the model; the program's numbered. -/
namespace Go.Proofs.YtbbnheiibkcgiaaDoor.la
open Go.RowKit Go.Proofs.YtbbnheiibkcgiaaDoor.sl Go.Proofs.YtbbnheiibkcgiaaDoor.pm Go.Proofs.YtbbnheiibkcgiaaDoor.br Go.Proofs.YtbbnheiibkcgiaaDoor.bw Go.Proofs.YtbbnheiibkcgiaaDoor.st Go.Proofs.YtbbnheiibkcgiaaDoor.wk Go.Proofs.YtbbnheiibkcgiaaDoor.rl
set_option linter.unusedVariables false
set_option maxRecDepth 100000

theorem la_row {d c : Int} {xs : List Int} (h : laC d c xs = 0) : vr5.rowB d c xs = true := by
  cases hr : vr5.rowB d c xs
  · rw [la_no hr] at h; omega
  · rfl
theorem la_q {d c : Int} {xs : List Int} (h : laC d c xs = 0) : laQ xs = true := by
  cases hq : laQ xs
  · rw [la_bad (la_row h) hq] at h; omega
  · rfl
def rsW (f : Int → Int) (d c : Int) (xs : List Int) : List (List Int) := if laC d c xs = 0 then numL f xs xs.length else []
theorem rown_nil (w : World) (lo : Nat) : ss.ROwn w lo w.heap.size (.slice none 0 0) [] := ⟨Nat.le_refl _, .inl ⟨rfl, _, _, rfl⟩⟩

set_option maxHeartbeats 2000000 in
theorem specRS (d c : Int) (xs : List Int) (v : Value) (B : Nat) (w : World) (ha : Ints w B v xs) (hB : B ≤ w.heap.size) (hq : l5.Small xs) :
    Calls Tryd.prog 22 #[.agg #[.int .i64 d, .int .i64 c, v]] w fun e w' => ∃ v', e = .returned (.tuple #[v', .int .i64 (laC d c xs)]) ∧ ss.ROwn w' w.heap.size w'.heap.size v' (rsW tk d c xs) ∧ Below w.heap.size w w' := by
  have hb0 := (Below.refl w.heap.size w).alloc (Nat.le_refl _) (.cells #[.int .i64 d, .int .i64 c, v] 40)
  have hal := hid hb0
  have HA := hid (ints_al ha (.cells #[.int .i64 d, .int .i64 c, v] 40))
  have HI := hid (specLay d c xs v B w.heap.size (w.alloc (.cells #[.int .i64 d, .int .i64 c, v] 40)) ⟨by simp, World.cell?_alloc_at _ _ _ _ rfl, World.cell?_alloc_at _ _ _ _ rfl, World.cell?_alloc_at _ _ _ _ rfl⟩ HA.out (by simp; omega) hq)
  obtain ⟨ao, cap, hv⟩ := ints_val ha
  have k2 : (w.alloc (.cells #[.int .i64 d, .int .i64 c, v] 40)).cell? ⟨w.heap.size, 2, none⟩ = some v := World.cell?_alloc_at _ _ _ _ rfl
  clear ha hb0
  by_cases h0 : laC d c xs = 0
  · have hrow := la_row h0
    have hpos := la_pos (la_q h0)
    have HL := hid (fun W (c2 : W.cell? ⟨w.heap.size, 2, none⟩ = some v) (hl : w.heap.size < W.heap.size) (h : Ints W B v xs) (hb : B ≤ W.heap.size) => specSrc xs v B w.heap.size W c2 hl h hb hpos (row_lst hrow))
    have HW : Hid (rsW tk d c xs = numL tk xs xs.length) := hid (by rw [rsW, if_pos h0])
    have HC := hid h0
    rw [h0] at HI
    rw [HW.out, HC.out]
    clear h0 hrow hpos hq HW HC
    generalize numL tk xs xs.length = L at *
    obtain ⟨n, hn⟩ : ∃ n, n = xs.length := ⟨_, rfl⟩
    rw [← hn] at hv
    clear hn
    subst hv
    go_enter Tryd.func22, Tryd.ntmps22
    go_wp2_with fail
    refine HI.out.mono ?_
    rintro e w1 ⟨rfl, b1⟩
    have B1 := hid (hal.out.trans (b1.mono hal.out.size))
    have j2 := (b1.cell (p := ⟨w.heap.size, 2, none⟩) (by simp)).trans k2
    have HA1 := hid (HA.out.chg (Chg.ofBelow (lo := 0) b1) (.inr (Nat.zero_le _)))
    have hs1 := B1.out.size
    have hlt1 : w.heap.size < w1.heap.size := by have := b1.size; simp at this; omega
    clear b1 k2
    go_wp2_with fail
    refine (HL.out _ j2 hlt1 HA1.out (by omega)).mono ?_
    rintro e w2 ⟨v2, vals2, rfl, o2, b2⟩
    have O2 := hid ((o2.low hs1).rown)
    have B2 := hid (B1.out.trans (b2.mono hs1))
    clear o2 b2
    go_wp2
    go_ret2
    exact ⟨_, rfl, O2.out, B2.out⟩
  · have HW : Hid (rsW tk d c xs = []) := hid (by rw [rsW, if_neg h0])
    have hd : (laC d c xs != 0) = true := by simpa using h0
    rw [HW.out]
    clear h0 hq HW
    generalize laC d c xs = cd at *
    obtain ⟨n, hn⟩ : ∃ n, n = xs.length := ⟨_, rfl⟩
    rw [← hn] at hv
    clear hn
    subst hv
    go_enter Tryd.func22, Tryd.ntmps22
    go_wp2_with fail
    refine HI.out.mono ?_
    rintro e w1 ⟨rfl, b1⟩
    have B1 := hid (hal.out.trans (b1.mono hal.out.size))
    clear b1
    go_wp2
    go_ret2
    exact ⟨_, rfl, rown_nil _ _, B1.out⟩

set_option maxHeartbeats 2000000 in
theorem specRR (d c : Int) (xs : List Int) (v : Value) (B : Nat) (w : World) (ha : Ints w B v xs) (hB : B ≤ w.heap.size) (hq : l5.Small xs) :
    Calls Tryd.prog 27 #[.agg #[.int .i64 d, .int .i64 c, v]] w fun e w' => ∃ v', e = .returned (.tuple #[v', .int .i64 (laC d c xs)]) ∧ ss.ROwn w' w.heap.size w'.heap.size v' (rsW md d c xs) ∧ Below w.heap.size w w' := by
  have hb0 := (Below.refl w.heap.size w).alloc (Nat.le_refl _) (.cells #[.int .i64 d, .int .i64 c, v] 40)
  have hal := hid hb0
  have HA := hid (ints_al ha (.cells #[.int .i64 d, .int .i64 c, v] 40))
  have HI := hid (specLay d c xs v B w.heap.size (w.alloc (.cells #[.int .i64 d, .int .i64 c, v] 40)) ⟨by simp, World.cell?_alloc_at _ _ _ _ rfl, World.cell?_alloc_at _ _ _ _ rfl, World.cell?_alloc_at _ _ _ _ rfl⟩ HA.out (by simp; omega) hq)
  obtain ⟨ao, cap, hv⟩ := ints_val ha
  have k2 : (w.alloc (.cells #[.int .i64 d, .int .i64 c, v] 40)).cell? ⟨w.heap.size, 2, none⟩ = some v := World.cell?_alloc_at _ _ _ _ rfl
  clear ha hb0
  by_cases h0 : laC d c xs = 0
  · have hrow := la_row h0
    have hpos := la_pos (la_q h0)
    have HL := hid (fun W (c2 : W.cell? ⟨w.heap.size, 2, none⟩ = some v) (hl : w.heap.size < W.heap.size) (h : Ints W B v xs) (hb : B ≤ W.heap.size) => specRes xs v B w.heap.size W c2 hl h hb hpos (row_lst hrow))
    have HW : Hid (rsW md d c xs = numL md xs xs.length) := hid (by rw [rsW, if_pos h0])
    have HC := hid h0
    rw [h0] at HI
    rw [HW.out, HC.out]
    clear h0 hrow hpos hq HW HC
    generalize numL md xs xs.length = L at *
    obtain ⟨n, hn⟩ : ∃ n, n = xs.length := ⟨_, rfl⟩
    rw [← hn] at hv
    clear hn
    subst hv
    go_enter Tryd.func27, Tryd.ntmps27
    go_wp2_with fail
    refine HI.out.mono ?_
    rintro e w1 ⟨rfl, b1⟩
    have B1 := hid (hal.out.trans (b1.mono hal.out.size))
    have j2 := (b1.cell (p := ⟨w.heap.size, 2, none⟩) (by simp)).trans k2
    have HA1 := hid (HA.out.chg (Chg.ofBelow (lo := 0) b1) (.inr (Nat.zero_le _)))
    have hs1 := B1.out.size
    have hlt1 : w.heap.size < w1.heap.size := by have := b1.size; simp at this; omega
    clear b1 k2
    go_wp2_with fail
    refine (HL.out _ j2 hlt1 HA1.out (by omega)).mono ?_
    rintro e w2 ⟨v2, vals2, rfl, o2, b2⟩
    have O2 := hid ((o2.low hs1).rown)
    have B2 := hid (B1.out.trans (b2.mono hs1))
    clear o2 b2
    go_wp2
    go_ret2
    exact ⟨_, rfl, O2.out, B2.out⟩
  · have HW : Hid (rsW md d c xs = []) := hid (by rw [rsW, if_neg h0])
    have hd : (laC d c xs != 0) = true := by simpa using h0
    rw [HW.out]
    clear h0 hq HW
    generalize laC d c xs = cd at *
    obtain ⟨n, hn⟩ : ∃ n, n = xs.length := ⟨_, rfl⟩
    rw [← hn] at hv
    clear hn
    subst hv
    go_enter Tryd.func27, Tryd.ntmps27
    go_wp2_with fail
    refine HI.out.mono ?_
    rintro e w1 ⟨rfl, b1⟩
    have B1 := hid (hal.out.trans (b1.mono hal.out.size))
    clear b1
    go_wp2
    go_ret2
    exact ⟨_, rfl, rown_nil _ _, B1.out⟩

/-! ### The program's numbered -/
theorem chg_own {W wr w9 : World} {l h hi : Nat} (c : Chg l h W wr) (d : Chg W.heap.size hi wr w9) : Chg l h W w9 :=
  ⟨d.os.trans c.os, d.tape.trans c.tape, d.output.trans c.output, Nat.le_trans c.size d.size, fun j hj hj' => (d.block j (Nat.lt_of_lt_of_le hj c.size) (by omega)).trans (c.block j hj hj')⟩
theorem chg_set {lo hi g i : Nat} {w w' : World} (h : Chg lo hi w w') (v : Value) (h1 : lo ≤ g) (h2 : g < hi) : Chg lo hi w (w'.setCell ⟨g, i, none⟩ v) := by
  have hb := (Below.refl g w').setCell (p := ⟨g, i, none⟩) (Nat.le_refl _) v
  refine ⟨hb.os.trans h.os, hb.tape.trans h.tape, hb.output.trans h.output, Nat.le_trans h.size hb.size, fun k hk hk' => ?_⟩
  rw [← h.block k hk hk']
  exact Below.heap_setCell w' ⟨g, i, none⟩ v k (by show k ≠ g; omega)
/-- The closure of numbered: a stitch's columns; the next number is in a cell of its own. -/
theorem numC (f : Int → Int) (fn cb nb : Nat) (x t : Int) (m : Nat) (W : World) (hx : f x = (m : Int)) (hm : m ≤ 4) (ht : 0 ≤ t ∧ t ≤ 1000) (hcb : cb < nb) (hnb : nb < W.heap.size)
    (c0 : W.cell? ⟨cb, 0, none⟩ = some (.func (.func fn) #[] #[])) (n0 : W.cell? ⟨nb, 0, none⟩ = some (.int .i64 t)) (nf : W.frozen? ⟨nb, 0, none⟩ = false)
    (hf : ∀ W', Chg nb (nb + 1) W W' → Calls Tryd.prog fn #[.int .i64 x] W' fun e w' => e = .returned (.int .i64 (f x)) ∧ Below W'.heap.size W' w') (eg : ∀ args w, (callFunc fn args).run Tryd.prog w = .ok (.enter fn args) w) :
    Calls Tryd.prog 71 #[.int .i64 x, .pointer (some ⟨cb, 0, none⟩), .pointer (some ⟨nb, 0, none⟩)] W fun e w' => ∃ v', e = .returned v' ∧ sl.Own w' W.heap.size w'.heap.size v' (sl.marks t m) ∧ Chg nb (nb + 1) W w' ∧ w'.cell? ⟨nb, 0, none⟩ = some (.int .i64 (t + (m : Int))) ∧ w'.frozen? ⟨nb, 0, none⟩ = false := by
  obtain ⟨i0, hi, hz0, hz1, hz2⟩ := info_parts info64
  have HF := hid hf
  have HCr := hid (Chg.refl nb (nb + 1) W)
  rw [hx] at HF
  clear hf hx
  go_enter Tryd.func71, Tryd.ntmps71
  go_wp2_with fail
  refine (HF.out _ HCr.out).mono ?_
  rintro e w1 ⟨rfl, b1⟩
  have HB1 := hid b1
  have hz1' := b1.size
  have c1 := (b1.cell (p := ⟨cb, 0, none⟩) (by show cb < _; omega)).trans c0
  have n1 := (b1.cell (p := ⟨nb, 0, none⟩) hnb).trans n0
  have nf1 := (b1.frozen (p := ⟨nb, 0, none⟩) hnb).trans nf
  clear b1 c0 n0 nf
  go_wp2_with (at_make; refine wpList_make_own _ rfl _ _ 34 rfl W.heap.size 2 i0 (.int .i64 0) 1 Tryd.underlying34 hi hz0 hz1 .i64 .i64 _ m rfl rfl (by omega) (by rw [hz2]; omega) (by unfold maxLen; omega) hz1' ?_; intro W3 hown3 hgrow3; have HS3 : Hid (sl.Own W3 W.heap.size W3.heap.size (.slice (some ⟨w1.heap.size, 0, none⟩) 0 m) []) := hid (sl.Own.mk' (xs := []) hown3); have b3 : Below w1.heap.size w1 W3 := ⟨hgrow3.os, hgrow3.tape, hgrow3.output, hgrow3.size, fun q hq => hgrow3.block q hq (by simp)⟩; have HB3 : Hid (Below W.heap.size W W3) := hid (HB1.out.trans (b3.mono hz1')); have c3 := (b3.cell (p := ⟨cb, 0, none⟩) (by show cb < _; omega)).trans c1; have n3 := (b3.cell (p := ⟨nb, 0, none⟩) (by show nb < _; omega)).trans n1; have nf3 := (b3.frozen (p := ⟨nb, 0, none⟩) (by show nb < _; omega)).trans nf1; have hz3 := HB3.out.size; clear hown3 hgrow3 b3 c1 n1 nf1)
  have HC3 := hid (Chg.ofBelow (lo := nb) HB3.out)
  have HC3' : Hid (Chg nb (nb + 1) W W3) := hid ((Chg.ofBelow (lo := nb) HB3.out).wide (Nat.le_refl _) (by omega))
  refine (HF.out _ HC3'.out).mono ?_
  rintro e w4 ⟨rfl, b4⟩
  have HS4 := hid ((HS3.out.chg (Chg.ofBelow (lo := 0) b4) (.inr (.inr (Nat.zero_le _)))).hi (hi' := w4.heap.size) b4.size (Nat.le_refl _))
  have HC4 : Hid (Chg nb (nb + 1) W w4) := hid (HC3'.out.trans ((Chg.ofBelow (lo := nb) b4).wide (Nat.le_refl _) (by omega)))
  have n4 := (b4.cell (p := ⟨nb, 0, none⟩) (by show nb < _; omega)).trans n3
  have nf4 := (b4.frozen (p := ⟨nb, 0, none⟩) (by show nb < _; omega)).trans nf3
  clear b4 HC3 HC3' HS3 HB3 c3 n3 nf3
  go_wp2
  go_loopw [5, 13] (fun s i wr => ∃ (k : Nat) (z : Value), k ≤ m ∧ s = z ∧ i = .int .i64 k ∧ sl.Own wr W.heap.size wr.heap.size z (sl.marks t k) ∧ Chg nb (nb + 1) W wr ∧ wr.cell? ⟨nb, 0, none⟩ = some (.int .i64 (t + (k : Int))) ∧ wr.frozen? ⟨nb, 0, none⟩ = false) (fun _ i _ => m - (intOf i).toNat)
  case atStart => exact ⟨0, _, Nat.zero_le _, rfl, rfl, HS4.out, HC4.out, by rw [n4]; simp, nf4⟩
  case round =>
    obtain ⟨k, z, hk, rfl, rfl, hown, hch, hn, hnf⟩ := hrel
    have HO := hid hown
    have HC := hid hch
    have hsz := hch.size
    clear hown hch n4 nf4 HS4 HC4
    by_cases hlt : k < m
    · have HX := hid (marks_succ t k)
      have hml := sl.marks_len t k
      generalize sl.marks t k = L at *
      have e1 : IntKind.i64.wrap (t + (k : Int) + 1) = t + (k : Int) + 1 := IntWalk.i64_in _ (by omega)
      have hd : decide ((k : Int) < (m : Int)) = true := decide_eq_true (by omega)
      have htk : t + (k : Int) + 1 = t + ((k + 1 : Nat) : Int) := by omega
      have HTK := hid htk
      clear htk
      generalize t + (k : Int) = q at *
      go_wp2_with (at_builtin; refine wp_append rfl _ _ rfl W.heap.size _ _ L q HO.out rfl rfl hsz (by omega) ?_; intro v9 w9 hown1 hchg1 hsz1; have HO1 := hid hown1; have HC1 := hid (chg_own HC.out hchg1); have n9 := (World.cell?_of_block (w := wr) (w' := w9) (a := ⟨nb, 0, none⟩) (hchg1.block nb (by omega) (by omega))).trans hn; have nf9 := (World.frozen?_of_block (w := wr) (w' := w9) (a := ⟨nb, 0, none⟩) (hchg1.block nb (by omega) (by omega))).trans hnf; clear hown1 hchg1)
      go_roundw
      case rel => exact ⟨k + 1, _, by omega, rfl, by go_num, by rw [HX.out]; exact (own_other HO1.out nb 0 _ (by omega)).hi (by simp) (Nat.le_refl _), chg_set HC1.out _ (Nat.le_refl _) (by omega), by rw [ss.same_at n9, HTK.out], by rw [World.frozen?_setCell]; exact nf9⟩
      case measure => simp [intOf]; omega
    · obtain rfl : k = m := by omega
      go_wp2
      go_ret
      exact ⟨_, rfl, HO.out, HC.out, hn, hnf⟩
end Go.Proofs.YtbbnheiibkcgiaaDoor.la

/- The program's numbered: mapAll at its closure. -/
namespace Go.Proofs.YtbbnheiibkcgiaaDoor.la
open Go.RowKit Go.Proofs.YtbbnheiibkcgiaaDoor.sl Go.Proofs.YtbbnheiibkcgiaaDoor.pm Go.Proofs.YtbbnheiibkcgiaaDoor.br Go.Proofs.YtbbnheiibkcgiaaDoor.bw Go.Proofs.YtbbnheiibkcgiaaDoor.st Go.Proofs.YtbbnheiibkcgiaaDoor.wk Go.Proofs.YtbbnheiibkcgiaaDoor.rl
set_option linter.unusedVariables false
set_option maxRecDepth 100000

theorem chg_low {w wr w9 : World} {l h : Nat} (c : Chg l h w wr) (d : Below w.heap.size wr w9) : Chg l h w w9 :=
  ⟨d.os.trans c.os, d.tape.trans c.tape, d.output.trans c.output, Nat.le_trans c.size d.size, fun j hj hj' => (d.block j hj).trans (c.block j hj hj')⟩

set_option maxHeartbeats 4000000 in
theorem mapNum (f : Int → Int) (fn cb nb : Nat) (xs : List Int) (v : Value) (B : Nat) (w : World) (ha : Ints w B v xs) (hB : B ≤ nb) (hn16 : xs.length ≤ 16) (hfx : ∀ k, k < xs.length → 0 ≤ f (xs.getD k 0) ∧ f (xs.getD k 0) ≤ 4) (hcb : cb < nb) (hnb : nb < w.heap.size)
    (c0 : w.cell? ⟨cb, 0, none⟩ = some (.func (.func fn) #[] #[])) (n0 : w.cell? ⟨nb, 0, none⟩ = some (.int .i64 0)) (nf : w.frozen? ⟨nb, 0, none⟩ = false)
    (hf : ∀ k W', k < xs.length → Chg nb (nb + 1) w W' → Calls Tryd.prog fn #[.int .i64 (xs.getD k 0)] W' fun e w' => e = .returned (.int .i64 (f (xs.getD k 0))) ∧ Below W'.heap.size W' w') (eg : ∀ args w, (callFunc fn args).run Tryd.prog w = .ok (.enter fn args) w) :
    Calls Tryd.prog 70 #[.func (.func 71) #[] #[.pointer (some ⟨cb, 0, none⟩), .pointer (some ⟨nb, 0, none⟩)], v] w fun e w' => ∃ v' vals, e = .returned v' ∧ SR w' w.heap.size v' vals (numL f xs xs.length) ∧ Chg nb (nb + 1) w w' := by
  obtain ⟨i0, hi, hz0, hz1, hz2⟩ := info_parts ss.infoS
  have HSb := hid (fun k h => sF_bound f xs hfx k h)
  have HSs := hid (fun k h => sF_succ f xs k h)
  have HFx := hid hfx
  have HF := hid hf
  have HA := hid ha
  obtain ⟨ao, cap, hv⟩ := ints_val ha
  obtain ⟨n, hnn⟩ : ∃ n, n = xs.length := ⟨_, rfl⟩
  rw [← hnn] at hv hn16 HSb HSs HFx HF ⊢
  have HN := hid hnn
  clear hnn hfx hf ha
  subst hv
  go_enter Tryd.func70, Tryd.ntmps70
  go_wp2_with (at_make; refine wpList_make_own _ rfl _ _ 47 rfl w.heap.size 34 i0 (.slice none 0 0) 1 Tryd.underlying47 hi hz0 hz1 .i64 .i64 _ n rfl rfl (by omega) (by rw [hz2]; omega) (by unfold maxLen; omega) (Nat.le_refl _) ?_; intro W3 hown3 hgrow3; have HS3 : Hid (SR W3 w.heap.size (.slice (some ⟨w.heap.size, 0, none⟩) 0 n) [] []) := hid ⟨rfl, hown3, fun _ => 0, fun _ => 0, fun j hj => by simp at hj⟩; have b3 : Below w.heap.size w W3 := ⟨hgrow3.os, hgrow3.tape, hgrow3.output, hgrow3.size, fun q hq => hgrow3.block q hq (by simp)⟩; have HC3 : Hid (Chg nb (nb + 1) w W3) := hid ((Chg.ofBelow (lo := nb) b3).wide (Nat.le_refl _) (by omega)); have n3 := (b3.cell (p := ⟨nb, 0, none⟩) hnb).trans n0; have nf3 := (b3.frozen (p := ⟨nb, 0, none⟩) hnb).trans nf; clear hown3 hgrow3 b3 n0 nf)
  go_loopw [5, 13] (fun s i wr => ∃ (k : Nat) (z : Value) (vals : List Value), k ≤ n ∧ s = z ∧ i = .int .i64 k ∧ SR wr w.heap.size z vals (numL f xs k) ∧ Chg nb (nb + 1) w wr ∧ wr.cell? ⟨nb, 0, none⟩ = some (.int .i64 (sF f xs k)) ∧ wr.frozen? ⟨nb, 0, none⟩ = false) (fun _ i _ => n - (intOf i).toNat)
  case atStart => exact ⟨0, _, _, Nat.zero_le _, rfl, rfl, HS3.out, HC3.out, n3, nf3⟩
  case round =>
    obtain ⟨k, z, vals, hk, rfl, rfl, hs, hch, hcn, hnf⟩ := hrel
    have HS := hid hs
    have HC := hid hch
    have hsz := hch.size
    clear hs hch HS3 HC3 n3 nf3
    by_cases hlt : k < n
    · rcases HA.out with ⟨hx, _⟩ | ⟨hp, b, off, cap', hv, hb, hc⟩
      · have := HN.out; rw [hx] at this; simp at this; omega
      · simp only [Value.slice.injEq] at hv
        obtain ⟨rfl, hlen, rfl⟩ := hv
        clear hlen hp
        have hc0 := hc k (by rw [← HN.out]; exact hlt)
        have hbw := World.block_lt_of_cell? w _ hc0
        have h1 : wr.cell? ⟨b, off + k, none⟩ = some (.int .i64 (xs.getD k 0)) := (World.cell?_of_block (w := w) (w' := wr) (a := ⟨b, off + k, none⟩) (HC.out.block b hbw (by omega))).trans hc0
        have hcr : wr.cell? ⟨cb, 0, none⟩ = some (.func (.func fn) #[] #[]) := (World.cell?_of_block (w := w) (w' := wr) (a := ⟨cb, 0, none⟩) (HC.out.block cb (by omega) (by omega))).trans c0
        have hfk := HFx.out k hlt
        have hsb := HSb.out k hk
        have HX := hid (numL_succ f xs k)
        have HS1 := hid (HSs.out k hlt)
        have hLl := numL_len f xs k
        have HFk := hid (fun W' c => HF.out k W' hlt c)
        obtain ⟨m, hm⟩ : ∃ m : Nat, f (xs.getD k 0) = (m : Int) := ⟨(f (xs.getD k 0)).toNat, by omega⟩
        have hmm : (f (xs.getD k 0)).toNat = m := by omega
        have HNc := hid (numC f fn cb nb (xs.getD k 0) (sF f xs k) m wr hm (by omega) ⟨by omega, by omega⟩ hcb (by omega) hcr hcn hnf (fun W' c => HFk.out W' (⟨c.os.trans HC.out.os, c.tape.trans HC.out.tape, c.output.trans HC.out.output, Nat.le_trans HC.out.size c.size, fun j hj hj' => (c.block j (by omega) hj').trans (HC.out.block j hj hj')⟩)) eg)
        rw [hmm] at HX
        rw [hm] at HS1
        clear hc hc0 hm hmm HFk hcr hcn hnf
        generalize sF f xs k = t at *
        generalize numL f xs k = L at *
        generalize xs.getD k 0 = x at *
        go_wp2_with fail
        refine HNc.out.mono ?_
        rintro e w1 ⟨y, rfl, oy, cy, ny, nfy⟩
        obtain ⟨ya, yc, hyv⟩ := br.own_val oy
        have HOy := hid oy
        have HCy := hid cy
        have hz1' := cy.size
        obtain ⟨ml, hml⟩ : ∃ ml, ml = (sl.marks t m).length := ⟨_, rfl⟩
        rw [← hml] at hyv
        clear oy cy hml HNc
        subst hyv
        go_wp2_with (at_builtin; refine srx.wp_appRC rfl _ _ rfl w.heap.size nb (nb + 1) _ _ vals L (sl.marks t m) HS.out HCy.out (by omega) HOy.out rfl rfl rfl hsz (by omega) ?_; intro v4 w4 s4 b4; have HS4 := hid s4; have HC4 := hid (chg_low (⟨HCy.out.os.trans HC.out.os, HCy.out.tape.trans HC.out.tape, HCy.out.output.trans HC.out.output, Nat.le_trans HC.out.size HCy.out.size, fun j hj hj' => (HCy.out.block j (by omega) hj').trans (HC.out.block j hj hj')⟩ : Chg nb (nb + 1) w w1) b4); have n4 := (b4.cell (p := ⟨nb, 0, none⟩) hnb).trans ny; have nf4 := (b4.frozen (p := ⟨nb, 0, none⟩) hnb).trans nfy; clear s4 b4 ny nfy)
        go_roundw
        case rel => exact ⟨k + 1, _, _, by omega, rfl, by go_num, by rw [HX.out]; exact HS4.out, HC4.out, by rw [HS1.out]; exact n4, nf4⟩
        case measure => simp [intOf]; omega
    · obtain rfl : k = n := by omega
      go_wp2
      go_ret
      exact ⟨_, _, rfl, HS.out, HC.out⟩

theorem numb (f : Int → Int) (fn : Nat) (xs : List Int) (v : Value) (B : Nat) (w : World) (ha : Ints w B v xs) (hB : B ≤ w.heap.size) (hn16 : xs.length ≤ 16) (hfx : ∀ k, k < xs.length → 0 ≤ f (xs.getD k 0) ∧ f (xs.getD k 0) ≤ 4)
    (hf : ∀ x W', Below w.heap.size w W' → Calls Tryd.prog fn #[.int .i64 x] W' fun e w' => e = .returned (.int .i64 (f x)) ∧ Below W'.heap.size W' w') (eg : ∀ args w, (callFunc fn args).run Tryd.prog w = .ok (.enter fn args) w) :
    Calls Tryd.prog 55 #[.func (.func fn) #[] #[], v] w fun e w' => ∃ v' vals, e = .returned v' ∧ SR w' w.heap.size v' vals (numL f xs xs.length) ∧ Below w.heap.size w w' := by
  have b1 := (Below.refl w.heap.size w).alloc (Nat.le_refl _) (.cells #[.func (.func fn) #[] #[]] 72)
  have b2 := b1.alloc (by simp) (.cells #[.int .i64 0] 2)
  have HA := hid (ha.chg (Chg.ofBelow (lo := 0) b2) (.inr (Nat.zero_le _)))
  have c0 : ((w.alloc (.cells #[.func (.func fn) #[] #[]] 72)).alloc (.cells #[.int .i64 0] 2)).cell? ⟨w.heap.size, 0, none⟩ = some (.func (.func fn) #[] #[]) := (World.cell?_alloc_past _ _ _ (by simp)).trans (World.cell?_alloc_at _ _ _ _ rfl)
  have n0 : ((w.alloc (.cells #[.func (.func fn) #[] #[]] 72)).alloc (.cells #[.int .i64 0] 2)).cell? ⟨w.heap.size + 1, 0, none⟩ = some (.int .i64 0) := World.cell?_alloc_at _ _ _ _ (by simp)
  have nf : ((w.alloc (.cells #[.func (.func fn) #[] #[]] 72)).alloc (.cells #[.int .i64 0] 2)).frozen? ⟨w.heap.size + 1, 0, none⟩ = false := (by simp : (w.alloc (.cells #[.func (.func fn) #[] #[]] 72)).heap.size = w.heap.size + 1) ▸ (World.frozen?_alloc_at (w := w.alloc (.cells #[.func (.func fn) #[] #[]] 72)) _ _ _ _ rfl)
  have hs2 : ((w.alloc (.cells #[.func (.func fn) #[] #[]] 72)).alloc (.cells #[.int .i64 0] 2)).heap.size = w.heap.size + 2 := by simp
  have HM := hid (mapNum f fn w.heap.size (w.heap.size + 1) xs v B _ HA.out (by omega) hn16 hfx (by omega) (by omega) c0 n0 nf (fun k W' hk c => hf (xs.getD k 0) W' (b2.trans (c.below (by omega) (by omega)))) eg)
  have HB2 := hid b2
  obtain ⟨ao, cap, hv⟩ := ints_val ha
  clear ha b1 b2 HA c0 n0 nf hf hfx
  generalize numL f xs xs.length = L at *
  obtain ⟨n, hn⟩ : ∃ n, n = xs.length := ⟨_, rfl⟩
  rw [← hn] at hv
  clear hn
  subst hv
  go_enter Tryd.func55, Tryd.ntmps55
  go_wp2_with fail
  refine HM.out.mono ?_
  rintro e w1 ⟨v1, vals1, rfl, s1, c1⟩
  have HS1 := hid (s1.low (lo' := w.heap.size) (by omega))
  have HC1 := hid (HB2.out.trans (c1.below (by omega) (by omega)))
  clear s1 c1
  go_wp2
  go_ret
  exact ⟨_, _, rfl, HS1.out, HC1.out⟩
end Go.Proofs.YtbbnheiibkcgiaaDoor.la

/- layOut of the program. -/
namespace Go.Proofs.YtbbnheiibkcgiaaDoor.la
open Go.RowKit Go.Proofs.YtbbnheiibkcgiaaDoor.sl Go.Proofs.YtbbnheiibkcgiaaDoor.pm Go.Proofs.YtbbnheiibkcgiaaDoor.br Go.Proofs.YtbbnheiibkcgiaaDoor.bw Go.Proofs.YtbbnheiibkcgiaaDoor.st Go.Proofs.YtbbnheiibkcgiaaDoor.wk Go.Proofs.YtbbnheiibkcgiaaDoor.rl
set_option linter.unusedVariables false
set_option maxRecDepth 100000

theorem numT (xs : List Int) (v : Value) (B : Nat) (w : World) (ha : Ints w B v xs) (hB : B ≤ w.heap.size) (hl : lst xs = true) (hT : stb.Tab w) :
    Calls Tryd.prog 55 #[.func (.func 56) #[] #[], v] w fun e w' => ∃ v' vals, e = .returned v' ∧ SR w' w.heap.size v' vals (numL tk xs xs.length) ∧ Below w.heap.size w w' :=
  numb tk 56 xs v B w ha hB (lst_parts hl).1 (fun k hk => tk_bound ((lst_parts hl).2 k hk)) (fun x W' b => implTaken x W' (stb.carry hT b)) (fun _ _ => rfl)
theorem numM (xs : List Int) (v : Value) (B : Nat) (w : World) (ha : Ints w B v xs) (hB : B ≤ w.heap.size) (hl : lst xs = true) (hT : stb.Tab w) :
    Calls Tryd.prog 55 #[.func (.func 57) #[] #[], v] w fun e w' => ∃ v' vals, e = .returned v' ∧ SR w' w.heap.size v' vals (numL md xs xs.length) ∧ Below w.heap.size w w' :=
  numb md 57 xs v B w ha hB (lst_parts hl).1 (fun k hk => by have := md_bound ((lst_parts hl).2 k hk); omega) (fun x W' b => implMade x W' (stb.carry hT b)) (fun _ _ => rfl)

def zLaid : Value := .agg #[.int .i64 0, .int .i64 0, .slice none 0 0, .slice none 0 0, .slice none 0 0]
set_option maxHeartbeats 4000000 in
theorem layNo (d c : Int) (xs : List Int) (v : Value) (B : Nat) (w : World) (ha : Ints w B v xs) (hB : B ≤ w.heap.size) (hq : l5.Small xs) (hT : stb.Tab w) (h0 : ¬ laC d c xs = 0) :
    Calls Tryd.prog 42 #[.agg #[.int .i64 d, .int .i64 c, v]] w fun e w' => e = .returned (.tuple #[zLaid, .int .i64 (laC d c xs)]) ∧ Below w.heap.size w w' := by
  have b0 := (Below.refl w.heap.size w).alloc (Nat.le_refl _) (.cells #[.int .i64 d, .int .i64 c, v] 40)
  have b1 := b0.alloc (by simp) (.cells #[.int .i64 0, .int .i64 0, .slice none 0 0, .slice none 0 0, .slice none 0 0] 69)
  have HI := hid (fun W (b : Below w.heap.size w W) => implLay d c xs v B W (ha.chg (Chg.ofBelow (lo := 0) b) (.inr (Nat.zero_le _))) (Nat.le_trans hB b.size) hq (stb.carry hT b))
  have HB := hid b1
  have hd : (laC d c xs != 0) = true := by simpa using h0
  have hs : ((w.alloc (.cells #[.int .i64 d, .int .i64 c, v] 40)).alloc (.cells #[.int .i64 0, .int .i64 0, .slice none 0 0, .slice none 0 0, .slice none 0 0] 69)).heap.size = w.heap.size + 2 := by simp
  obtain ⟨ao, cap, hv⟩ := ints_val ha
  clear ha b0 b1 h0 hT hq
  generalize laC d c xs = cd at *
  obtain ⟨n, hn⟩ : ∃ n, n = xs.length := ⟨_, rfl⟩
  rw [← hn] at hv
  clear hn
  subst hv
  go_enter Tryd.func42, Tryd.ntmps42
  go_wp2_with fail
  refine (HI.out _ HB.out).mono ?_
  rintro e w1 ⟨rfl, b1⟩
  have HB1 := hid (HB.out.trans (b1.mono HB.out.size))
  have x0 := (b1.cell (p := ⟨w.heap.size + 1, 0, none⟩) (by show w.heap.size + 1 < _; omega)).trans (show ((w.alloc (.cells #[.int .i64 d, .int .i64 c, .slice ao n cap] 40)).alloc (.cells #[.int .i64 0, .int .i64 0, .slice none 0 0, .slice none 0 0, .slice none 0 0] 69)).cell? ⟨w.heap.size + 1, 0, none⟩ = some (.int .i64 0) from World.cell?_alloc_at _ _ _ _ (by simp))
  have y0 := (b1.frozen (p := ⟨w.heap.size + 1, 0, none⟩) (by show w.heap.size + 1 < _; omega)).trans (show ((w.alloc (.cells #[.int .i64 d, .int .i64 c, .slice ao n cap] 40)).alloc (.cells #[.int .i64 0, .int .i64 0, .slice none 0 0, .slice none 0 0, .slice none 0 0] 69)).frozen? ⟨w.heap.size + 1, 0, none⟩ = false from World.frozen?_alloc_at _ _ _ _ (by simp))
  have x1 := (b1.cell (p := ⟨w.heap.size + 1, 1, none⟩) (by show w.heap.size + 1 < _; omega)).trans (show ((w.alloc (.cells #[.int .i64 d, .int .i64 c, .slice ao n cap] 40)).alloc (.cells #[.int .i64 0, .int .i64 0, .slice none 0 0, .slice none 0 0, .slice none 0 0] 69)).cell? ⟨w.heap.size + 1, 1, none⟩ = some (.int .i64 0) from World.cell?_alloc_at _ _ _ _ (by simp))
  have y1 := (b1.frozen (p := ⟨w.heap.size + 1, 1, none⟩) (by show w.heap.size + 1 < _; omega)).trans (show ((w.alloc (.cells #[.int .i64 d, .int .i64 c, .slice ao n cap] 40)).alloc (.cells #[.int .i64 0, .int .i64 0, .slice none 0 0, .slice none 0 0, .slice none 0 0] 69)).frozen? ⟨w.heap.size + 1, 1, none⟩ = false from World.frozen?_alloc_at _ _ _ _ (by simp))
  have x2 := (b1.cell (p := ⟨w.heap.size + 1, 2, none⟩) (by show w.heap.size + 1 < _; omega)).trans (show ((w.alloc (.cells #[.int .i64 d, .int .i64 c, .slice ao n cap] 40)).alloc (.cells #[.int .i64 0, .int .i64 0, .slice none 0 0, .slice none 0 0, .slice none 0 0] 69)).cell? ⟨w.heap.size + 1, 2, none⟩ = some (.slice none 0 0) from World.cell?_alloc_at _ _ _ _ (by simp))
  have y2 := (b1.frozen (p := ⟨w.heap.size + 1, 2, none⟩) (by show w.heap.size + 1 < _; omega)).trans (show ((w.alloc (.cells #[.int .i64 d, .int .i64 c, .slice ao n cap] 40)).alloc (.cells #[.int .i64 0, .int .i64 0, .slice none 0 0, .slice none 0 0, .slice none 0 0] 69)).frozen? ⟨w.heap.size + 1, 2, none⟩ = false from World.frozen?_alloc_at _ _ _ _ (by simp))
  have x3 := (b1.cell (p := ⟨w.heap.size + 1, 3, none⟩) (by show w.heap.size + 1 < _; omega)).trans (show ((w.alloc (.cells #[.int .i64 d, .int .i64 c, .slice ao n cap] 40)).alloc (.cells #[.int .i64 0, .int .i64 0, .slice none 0 0, .slice none 0 0, .slice none 0 0] 69)).cell? ⟨w.heap.size + 1, 3, none⟩ = some (.slice none 0 0) from World.cell?_alloc_at _ _ _ _ (by simp))
  have y3 := (b1.frozen (p := ⟨w.heap.size + 1, 3, none⟩) (by show w.heap.size + 1 < _; omega)).trans (show ((w.alloc (.cells #[.int .i64 d, .int .i64 c, .slice ao n cap] 40)).alloc (.cells #[.int .i64 0, .int .i64 0, .slice none 0 0, .slice none 0 0, .slice none 0 0] 69)).frozen? ⟨w.heap.size + 1, 3, none⟩ = false from World.frozen?_alloc_at _ _ _ _ (by simp))
  have x4 := (b1.cell (p := ⟨w.heap.size + 1, 4, none⟩) (by show w.heap.size + 1 < _; omega)).trans (show ((w.alloc (.cells #[.int .i64 d, .int .i64 c, .slice ao n cap] 40)).alloc (.cells #[.int .i64 0, .int .i64 0, .slice none 0 0, .slice none 0 0, .slice none 0 0] 69)).cell? ⟨w.heap.size + 1, 4, none⟩ = some (.slice none 0 0) from World.cell?_alloc_at _ _ _ _ (by simp))
  have y4 := (b1.frozen (p := ⟨w.heap.size + 1, 4, none⟩) (by show w.heap.size + 1 < _; omega)).trans (show ((w.alloc (.cells #[.int .i64 d, .int .i64 c, .slice ao n cap] 40)).alloc (.cells #[.int .i64 0, .int .i64 0, .slice none 0 0, .slice none 0 0, .slice none 0 0] 69)).frozen? ⟨w.heap.size + 1, 4, none⟩ = false from World.frozen?_alloc_at _ _ _ _ (by simp))
  clear b1 hs
  go_wp2
  refine bodyPost_ret (v := .tuple #[zLaid, .int .i64 cd]) (by simp [results, Tryd.results42, go_sem, x0, x1, x2, x3, x4, zLaid]) rfl ⟨rfl, ?_⟩
  repeat (first | exact HB1.out | refine Below.setCell ?_ (by simp) _)

set_option maxHeartbeats 4000000 in
theorem layYes (d c : Int) (xs : List Int) (v : Value) (B : Nat) (w : World) (ha : Ints w B v xs) (hB : B ≤ w.heap.size) (hq : l5.Small xs) (hT : stb.Tab w) (h0 : laC d c xs = 0) :
    Calls Tryd.prog 42 #[.agg #[.int .i64 d, .int .i64 c, v]] w fun e w' => ∃ v1 vals1 v2 vals2, e = .returned (.tuple #[.agg #[.int .i64 d, .int .i64 c, v, v1, v2], .int .i64 0]) ∧ SR w' w.heap.size v1 vals1 (numL tk xs xs.length) ∧ SR w' w.heap.size v2 vals2 (numL md xs xs.length) ∧ Below w.heap.size w w' := by
  have b0 := (Below.refl w.heap.size w).alloc (Nat.le_refl _) (.cells #[.int .i64 d, .int .i64 c, v] 40)
  have b1 := b0.alloc (by simp) (.cells #[.int .i64 0, .int .i64 0, .slice none 0 0, .slice none 0 0, .slice none 0 0] 69)
  have HI := hid (fun W (b : Below w.heap.size w W) => implLay d c xs v B W (ha.chg (Chg.ofBelow (lo := 0) b) (.inr (Nat.zero_le _))) (Nat.le_trans hB b.size) hq (stb.carry hT b))
  have HT := hid (fun W (b : Below w.heap.size w W) => numT xs v B W (ha.chg (Chg.ofBelow (lo := 0) b) (.inr (Nat.zero_le _))) (Nat.le_trans hB b.size) (row_lst (la_row h0)) (stb.carry hT b))
  have HM := hid (fun W (b : Below w.heap.size w W) => numM xs v B W (ha.chg (Chg.ofBelow (lo := 0) b) (.inr (Nat.zero_le _))) (Nat.le_trans hB b.size) (row_lst (la_row h0)) (stb.carry hT b))
  have HB := hid b1
  have hs : ((w.alloc (.cells #[.int .i64 d, .int .i64 c, v] 40)).alloc (.cells #[.int .i64 0, .int .i64 0, .slice none 0 0, .slice none 0 0, .slice none 0 0] 69)).heap.size = w.heap.size + 2 := by simp
  obtain ⟨ao, cap, hv⟩ := ints_val ha
  have hL1 := numL_len tk xs xs.length
  have hL2 := numL_len md xs xs.length
  rw [h0] at HI
  clear ha b0 b1 h0 hT hq
  generalize numL tk xs xs.length = L1 at *
  generalize numL md xs xs.length = L2 at *
  obtain ⟨n, hn⟩ : ∃ n, n = xs.length := ⟨_, rfl⟩
  rw [← hn] at hv hL1 hL2
  clear hn
  have HT := hid (fun W (b : Below w.heap.size w W) => (HT.out W b).mono fun e w' h => show ∃ a c vals, e = .returned (.slice a n c) ∧ SR w' W.heap.size (.slice a n c) vals L1 ∧ Below W.heap.size W w' from by obtain ⟨u, vals, rfl, s, b⟩ := h; obtain ⟨a, c, rfl⟩ := s.val; rw [hL1] at s ⊢; exact ⟨a, c, vals, rfl, s, b⟩)
  have HM := hid (fun W (b : Below w.heap.size w W) => (HM.out W b).mono fun e w' h => show ∃ a c vals, e = .returned (.slice a n c) ∧ SR w' W.heap.size (.slice a n c) vals L2 ∧ Below W.heap.size W w' from by obtain ⟨u, vals, rfl, s, b⟩ := h; obtain ⟨a, c, rfl⟩ := s.val; rw [hL2] at s ⊢; exact ⟨a, c, vals, rfl, s, b⟩)
  clear hL1 hL2
  subst hv
  go_enter Tryd.func42, Tryd.ntmps42
  go_wp2_with fail
  refine (HI.out _ HB.out).mono ?_
  rintro e w1 ⟨rfl, b1⟩
  have HB1 := hid (HB.out.trans (b1.mono HB.out.size))
  have hz1 : w.heap.size + 2 ≤ w1.heap.size := by have := b1.size; omega
  have x0 := (b1.cell (p := ⟨w.heap.size + 1, 0, none⟩) (by show w.heap.size + 1 < _; omega)).trans (show ((w.alloc (.cells #[.int .i64 d, .int .i64 c, .slice ao n cap] 40)).alloc (.cells #[.int .i64 0, .int .i64 0, .slice none 0 0, .slice none 0 0, .slice none 0 0] 69)).cell? ⟨w.heap.size + 1, 0, none⟩ = some (.int .i64 0) from World.cell?_alloc_at _ _ _ _ (by simp))
  have y0 := (b1.frozen (p := ⟨w.heap.size + 1, 0, none⟩) (by show w.heap.size + 1 < _; omega)).trans (show ((w.alloc (.cells #[.int .i64 d, .int .i64 c, .slice ao n cap] 40)).alloc (.cells #[.int .i64 0, .int .i64 0, .slice none 0 0, .slice none 0 0, .slice none 0 0] 69)).frozen? ⟨w.heap.size + 1, 0, none⟩ = false from World.frozen?_alloc_at _ _ _ _ (by simp))
  have x1 := (b1.cell (p := ⟨w.heap.size + 1, 1, none⟩) (by show w.heap.size + 1 < _; omega)).trans (show ((w.alloc (.cells #[.int .i64 d, .int .i64 c, .slice ao n cap] 40)).alloc (.cells #[.int .i64 0, .int .i64 0, .slice none 0 0, .slice none 0 0, .slice none 0 0] 69)).cell? ⟨w.heap.size + 1, 1, none⟩ = some (.int .i64 0) from World.cell?_alloc_at _ _ _ _ (by simp))
  have y1 := (b1.frozen (p := ⟨w.heap.size + 1, 1, none⟩) (by show w.heap.size + 1 < _; omega)).trans (show ((w.alloc (.cells #[.int .i64 d, .int .i64 c, .slice ao n cap] 40)).alloc (.cells #[.int .i64 0, .int .i64 0, .slice none 0 0, .slice none 0 0, .slice none 0 0] 69)).frozen? ⟨w.heap.size + 1, 1, none⟩ = false from World.frozen?_alloc_at _ _ _ _ (by simp))
  have x2 := (b1.cell (p := ⟨w.heap.size + 1, 2, none⟩) (by show w.heap.size + 1 < _; omega)).trans (show ((w.alloc (.cells #[.int .i64 d, .int .i64 c, .slice ao n cap] 40)).alloc (.cells #[.int .i64 0, .int .i64 0, .slice none 0 0, .slice none 0 0, .slice none 0 0] 69)).cell? ⟨w.heap.size + 1, 2, none⟩ = some (.slice none 0 0) from World.cell?_alloc_at _ _ _ _ (by simp))
  have y2 := (b1.frozen (p := ⟨w.heap.size + 1, 2, none⟩) (by show w.heap.size + 1 < _; omega)).trans (show ((w.alloc (.cells #[.int .i64 d, .int .i64 c, .slice ao n cap] 40)).alloc (.cells #[.int .i64 0, .int .i64 0, .slice none 0 0, .slice none 0 0, .slice none 0 0] 69)).frozen? ⟨w.heap.size + 1, 2, none⟩ = false from World.frozen?_alloc_at _ _ _ _ (by simp))
  have x3 := (b1.cell (p := ⟨w.heap.size + 1, 3, none⟩) (by show w.heap.size + 1 < _; omega)).trans (show ((w.alloc (.cells #[.int .i64 d, .int .i64 c, .slice ao n cap] 40)).alloc (.cells #[.int .i64 0, .int .i64 0, .slice none 0 0, .slice none 0 0, .slice none 0 0] 69)).cell? ⟨w.heap.size + 1, 3, none⟩ = some (.slice none 0 0) from World.cell?_alloc_at _ _ _ _ (by simp))
  have y3 := (b1.frozen (p := ⟨w.heap.size + 1, 3, none⟩) (by show w.heap.size + 1 < _; omega)).trans (show ((w.alloc (.cells #[.int .i64 d, .int .i64 c, .slice ao n cap] 40)).alloc (.cells #[.int .i64 0, .int .i64 0, .slice none 0 0, .slice none 0 0, .slice none 0 0] 69)).frozen? ⟨w.heap.size + 1, 3, none⟩ = false from World.frozen?_alloc_at _ _ _ _ (by simp))
  have x4 := (b1.cell (p := ⟨w.heap.size + 1, 4, none⟩) (by show w.heap.size + 1 < _; omega)).trans (show ((w.alloc (.cells #[.int .i64 d, .int .i64 c, .slice ao n cap] 40)).alloc (.cells #[.int .i64 0, .int .i64 0, .slice none 0 0, .slice none 0 0, .slice none 0 0] 69)).cell? ⟨w.heap.size + 1, 4, none⟩ = some (.slice none 0 0) from World.cell?_alloc_at _ _ _ _ (by simp))
  have y4 := (b1.frozen (p := ⟨w.heap.size + 1, 4, none⟩) (by show w.heap.size + 1 < _; omega)).trans (show ((w.alloc (.cells #[.int .i64 d, .int .i64 c, .slice ao n cap] 40)).alloc (.cells #[.int .i64 0, .int .i64 0, .slice none 0 0, .slice none 0 0, .slice none 0 0] 69)).frozen? ⟨w.heap.size + 1, 4, none⟩ = false from World.frozen?_alloc_at _ _ _ _ (by simp))
  have j0 := (b1.cell (p := ⟨w.heap.size, 0, none⟩) (by show w.heap.size < _; omega)).trans (show ((w.alloc (.cells #[.int .i64 d, .int .i64 c, .slice ao n cap] 40)).alloc (.cells #[.int .i64 0, .int .i64 0, .slice none 0 0, .slice none 0 0, .slice none 0 0] 69)).cell? ⟨w.heap.size, 0, none⟩ = some (.int .i64 d) from (World.cell?_alloc_past _ _ _ (by simp)).trans (World.cell?_alloc_at _ _ _ _ rfl))
  have j1 := (b1.cell (p := ⟨w.heap.size, 1, none⟩) (by show w.heap.size < _; omega)).trans (show ((w.alloc (.cells #[.int .i64 d, .int .i64 c, .slice ao n cap] 40)).alloc (.cells #[.int .i64 0, .int .i64 0, .slice none 0 0, .slice none 0 0, .slice none 0 0] 69)).cell? ⟨w.heap.size, 1, none⟩ = some (.int .i64 c) from (World.cell?_alloc_past _ _ _ (by simp)).trans (World.cell?_alloc_at _ _ _ _ rfl))
  have j2 := (b1.cell (p := ⟨w.heap.size, 2, none⟩) (by show w.heap.size < _; omega)).trans (show ((w.alloc (.cells #[.int .i64 d, .int .i64 c, .slice ao n cap] 40)).alloc (.cells #[.int .i64 0, .int .i64 0, .slice none 0 0, .slice none 0 0, .slice none 0 0] 69)).cell? ⟨w.heap.size, 2, none⟩ = some (.slice ao n cap) from (World.cell?_alloc_past _ _ _ (by simp)).trans (World.cell?_alloc_at _ _ _ _ rfl))
  clear b1 hs
  have HT := hid (fun W (b : Below w1.heap.size w1 W) => HT.out W (HB1.out.trans (b.mono HB1.out.size)))
  have HM := hid (fun W (b : Below w1.heap.size w1 W) => HM.out W (HB1.out.trans (b.mono HB1.out.size)))
  have bD := hid ((Below.refl w1.heap.size w1).drew)
  go_wp2_with fail
  go_region_held3 (fun w' => w'.cell? ⟨w.heap.size, 0, none⟩ = some (.int .i64 d) ∧ w'.cell? ⟨w.heap.size, 1, none⟩ = some (.int .i64 c) ∧ w'.cell? ⟨w.heap.size, 2, none⟩ = some (.slice ao n cap)) (go_keep)
    (first
    | (go_at_call 55
       have hchk := HFB
       with_reducible refine (HT.out _ HBw2.out).mono ?_
       rintro e w3 ⟨aA, cA, valsA, rfl, sA, b3⟩
       have HGA := hid (sA.low (lo' := w1.heap.size) HBw2.out.size)
       have HGB := hid (HFB.out.below b3)
       have HBw3 := hid (HBw2.out.trans (b3.mono HBw2.out.size))
       have l0 := (b3.cell (p := ⟨w.heap.size, 0, none⟩) (by show w.heap.size < w2.heap.size; omega)).trans m0
       have l1 := (b3.cell (p := ⟨w.heap.size, 1, none⟩) (by show w.heap.size < w2.heap.size; omega)).trans m1
       have l2 := (b3.cell (p := ⟨w.heap.size, 2, none⟩) (by show w.heap.size < w2.heap.size; omega)).trans m2
       have xw0 := (b3.cell (p := ⟨w.heap.size + 1, 0, none⟩) (by show w.heap.size + 1 < w2.heap.size; omega)).trans xx0
       have yw0 := (b3.frozen (p := ⟨w.heap.size + 1, 0, none⟩) (by show w.heap.size + 1 < w2.heap.size; omega)).trans yy0
       have xw1 := (b3.cell (p := ⟨w.heap.size + 1, 1, none⟩) (by show w.heap.size + 1 < w2.heap.size; omega)).trans xx1
       have yw1 := (b3.frozen (p := ⟨w.heap.size + 1, 1, none⟩) (by show w.heap.size + 1 < w2.heap.size; omega)).trans yy1
       have xw2 := (b3.cell (p := ⟨w.heap.size + 1, 2, none⟩) (by show w.heap.size + 1 < w2.heap.size; omega)).trans xx2
       have yw2 := (b3.frozen (p := ⟨w.heap.size + 1, 2, none⟩) (by show w.heap.size + 1 < w2.heap.size; omega)).trans yy2
       have xw3 := (b3.cell (p := ⟨w.heap.size + 1, 3, none⟩) (by show w.heap.size + 1 < w2.heap.size; omega)).trans xx3
       have yw3 := (b3.frozen (p := ⟨w.heap.size + 1, 3, none⟩) (by show w.heap.size + 1 < w2.heap.size; omega)).trans yy3
       have xw4 := (b3.cell (p := ⟨w.heap.size + 1, 4, none⟩) (by show w.heap.size + 1 < w2.heap.size; omega)).trans xx4
       have yw4 := (b3.frozen (p := ⟨w.heap.size + 1, 4, none⟩) (by show w.heap.size + 1 < w2.heap.size; omega)).trans yy4
       clear b3 sA hchk HFB m0 m1 m2 xx0 yy0 xx1 yy1 xx2 yy2 xx3 yy3 xx4 yy4)
    | (go_at_call 55
       have hchk := HFA
       with_reducible refine (HM.out _ HBw2.out).mono ?_
       rintro e w3 ⟨aB, cB, valsB, rfl, sB, b3⟩
       have HGB := hid (sB.low (lo' := w1.heap.size) HBw2.out.size)
       have HGA := hid (HFA.out.below b3)
       have HBw3 := hid (HBw2.out.trans (b3.mono HBw2.out.size))
       have l0 := (b3.cell (p := ⟨w.heap.size, 0, none⟩) (by show w.heap.size < w2.heap.size; omega)).trans m0
       have l1 := (b3.cell (p := ⟨w.heap.size, 1, none⟩) (by show w.heap.size < w2.heap.size; omega)).trans m1
       have l2 := (b3.cell (p := ⟨w.heap.size, 2, none⟩) (by show w.heap.size < w2.heap.size; omega)).trans m2
       have xw0 := (b3.cell (p := ⟨w.heap.size + 1, 0, none⟩) (by show w.heap.size + 1 < w2.heap.size; omega)).trans xx0
       have yw0 := (b3.frozen (p := ⟨w.heap.size + 1, 0, none⟩) (by show w.heap.size + 1 < w2.heap.size; omega)).trans yy0
       have xw1 := (b3.cell (p := ⟨w.heap.size + 1, 1, none⟩) (by show w.heap.size + 1 < w2.heap.size; omega)).trans xx1
       have yw1 := (b3.frozen (p := ⟨w.heap.size + 1, 1, none⟩) (by show w.heap.size + 1 < w2.heap.size; omega)).trans yy1
       have xw2 := (b3.cell (p := ⟨w.heap.size + 1, 2, none⟩) (by show w.heap.size + 1 < w2.heap.size; omega)).trans xx2
       have yw2 := (b3.frozen (p := ⟨w.heap.size + 1, 2, none⟩) (by show w.heap.size + 1 < w2.heap.size; omega)).trans yy2
       have xw3 := (b3.cell (p := ⟨w.heap.size + 1, 3, none⟩) (by show w.heap.size + 1 < w2.heap.size; omega)).trans xx3
       have yw3 := (b3.frozen (p := ⟨w.heap.size + 1, 3, none⟩) (by show w.heap.size + 1 < w2.heap.size; omega)).trans yy3
       have xw4 := (b3.cell (p := ⟨w.heap.size + 1, 4, none⟩) (by show w.heap.size + 1 < w2.heap.size; omega)).trans xx4
       have yw4 := (b3.frozen (p := ⟨w.heap.size + 1, 4, none⟩) (by show w.heap.size + 1 < w2.heap.size; omega)).trans yy4
       clear b3 sB hchk HFA m0 m1 m2 xx0 yy0 xx1 yy1 xx2 yy2 xx3 yy3 xx4 yy4)
    | (go_at_call 55
       with_reducible refine (HT.out _ bD.out).mono ?_
       rintro e w2 ⟨aA, cA, valsA, rfl, sA, b2⟩
       have HFA := hid (show SR w2 w1.heap.size _ _ _ from sA)
       have HBw2 := hid (bD.out.trans b2)
       have hz2 := HBw2.out.size
       have m0 := (b2.cell (p := ⟨w.heap.size, 0, none⟩) (by show w.heap.size < w1.heap.size; omega)).trans j0
       have m1 := (b2.cell (p := ⟨w.heap.size, 1, none⟩) (by show w.heap.size < w1.heap.size; omega)).trans j1
       have m2 := (b2.cell (p := ⟨w.heap.size, 2, none⟩) (by show w.heap.size < w1.heap.size; omega)).trans j2
       have xx0 := (b2.cell (p := ⟨w.heap.size + 1, 0, none⟩) (by show w.heap.size + 1 < w1.heap.size; omega)).trans x0
       have yy0 := (b2.frozen (p := ⟨w.heap.size + 1, 0, none⟩) (by show w.heap.size + 1 < w1.heap.size; omega)).trans y0
       have xx1 := (b2.cell (p := ⟨w.heap.size + 1, 1, none⟩) (by show w.heap.size + 1 < w1.heap.size; omega)).trans x1
       have yy1 := (b2.frozen (p := ⟨w.heap.size + 1, 1, none⟩) (by show w.heap.size + 1 < w1.heap.size; omega)).trans y1
       have xx2 := (b2.cell (p := ⟨w.heap.size + 1, 2, none⟩) (by show w.heap.size + 1 < w1.heap.size; omega)).trans x2
       have yy2 := (b2.frozen (p := ⟨w.heap.size + 1, 2, none⟩) (by show w.heap.size + 1 < w1.heap.size; omega)).trans y2
       have xx3 := (b2.cell (p := ⟨w.heap.size + 1, 3, none⟩) (by show w.heap.size + 1 < w1.heap.size; omega)).trans x3
       have yy3 := (b2.frozen (p := ⟨w.heap.size + 1, 3, none⟩) (by show w.heap.size + 1 < w1.heap.size; omega)).trans y3
       have xx4 := (b2.cell (p := ⟨w.heap.size + 1, 4, none⟩) (by show w.heap.size + 1 < w1.heap.size; omega)).trans x4
       have yy4 := (b2.frozen (p := ⟨w.heap.size + 1, 4, none⟩) (by show w.heap.size + 1 < w1.heap.size; omega)).trans y4
       clear b2 sA j0 j1 j2 x0 y0 x1 y1 x2 y2 x3 y3 x4 y4)
    | (go_at_call 55
       with_reducible refine (HM.out _ bD.out).mono ?_
       rintro e w2 ⟨aB, cB, valsB, rfl, sB, b2⟩
       have HFB := hid (show SR w2 w1.heap.size _ _ _ from sB)
       have HBw2 := hid (bD.out.trans b2)
       have hz2 := HBw2.out.size
       have m0 := (b2.cell (p := ⟨w.heap.size, 0, none⟩) (by show w.heap.size < w1.heap.size; omega)).trans j0
       have m1 := (b2.cell (p := ⟨w.heap.size, 1, none⟩) (by show w.heap.size < w1.heap.size; omega)).trans j1
       have m2 := (b2.cell (p := ⟨w.heap.size, 2, none⟩) (by show w.heap.size < w1.heap.size; omega)).trans j2
       have xx0 := (b2.cell (p := ⟨w.heap.size + 1, 0, none⟩) (by show w.heap.size + 1 < w1.heap.size; omega)).trans x0
       have yy0 := (b2.frozen (p := ⟨w.heap.size + 1, 0, none⟩) (by show w.heap.size + 1 < w1.heap.size; omega)).trans y0
       have xx1 := (b2.cell (p := ⟨w.heap.size + 1, 1, none⟩) (by show w.heap.size + 1 < w1.heap.size; omega)).trans x1
       have yy1 := (b2.frozen (p := ⟨w.heap.size + 1, 1, none⟩) (by show w.heap.size + 1 < w1.heap.size; omega)).trans y1
       have xx2 := (b2.cell (p := ⟨w.heap.size + 1, 2, none⟩) (by show w.heap.size + 1 < w1.heap.size; omega)).trans x2
       have yy2 := (b2.frozen (p := ⟨w.heap.size + 1, 2, none⟩) (by show w.heap.size + 1 < w1.heap.size; omega)).trans y2
       have xx3 := (b2.cell (p := ⟨w.heap.size + 1, 3, none⟩) (by show w.heap.size + 1 < w1.heap.size; omega)).trans x3
       have yy3 := (b2.frozen (p := ⟨w.heap.size + 1, 3, none⟩) (by show w.heap.size + 1 < w1.heap.size; omega)).trans y3
       have xx4 := (b2.cell (p := ⟨w.heap.size + 1, 4, none⟩) (by show w.heap.size + 1 < w1.heap.size; omega)).trans x4
       have yy4 := (b2.frozen (p := ⟨w.heap.size + 1, 4, none⟩) (by show w.heap.size + 1 < w1.heap.size; omega)).trans y4
       clear b2 sB j0 j1 j2 x0 y0 x1 y1 x2 y2 x3 y3 x4 y4))
  all_goals
    have hz3 := HBw3.out.size
    have HCs := hid (chg_set (i := 4) (chg_set (i := 3) (chg_set (i := 2) (chg_set (i := 1) (chg_set (i := 0) (Chg.refl (w.heap.size + 1) (w.heap.size + 2) w3) (.int .i64 d) (Nat.le_refl _) (by omega)) (.int .i64 c) (Nat.le_refl _) (by omega)) (.slice ao n cap) (Nat.le_refl _) (by omega)) (.slice aA n cA) (Nat.le_refl _) (by omega)) (.slice aB n cB) (Nat.le_refl _) (by omega))
    go_wp2
    refine bodyPost_ret (v := .tuple #[.agg #[.int .i64 d, .int .i64 c, .slice ao n cap, .slice aA n cA, .slice aB n cB], .int .i64 0]) (by simp [results, Tryd.results42, go_sem, xw0, xw1, xw2, xw3, xw4]) rfl ⟨_, _, _, _, rfl, (srx.sr_chg HGA.out HCs.out (by omega)).low (by omega), (srx.sr_chg HGB.out HCs.out (by omega)).low (by omega), ?_⟩
    have hbf := HB1.out.trans (HBw3.out.mono HB1.out.size)
    repeat (first | exact hbf | refine Below.setCell ?_ (by simp) _)
end Go.Proofs.YtbbnheiibkcgiaaDoor.la

/- RowSources and RowResults of the program. -/
namespace Go.Proofs.YtbbnheiibkcgiaaDoor.la
open Go.RowKit Go.Proofs.YtbbnheiibkcgiaaDoor.sl Go.Proofs.YtbbnheiibkcgiaaDoor.pm Go.Proofs.YtbbnheiibkcgiaaDoor.br Go.Proofs.YtbbnheiibkcgiaaDoor.bw Go.Proofs.YtbbnheiibkcgiaaDoor.st Go.Proofs.YtbbnheiibkcgiaaDoor.wk Go.Proofs.YtbbnheiibkcgiaaDoor.rl
set_option linter.unusedVariables false
set_option maxRecDepth 100000

set_option maxHeartbeats 4000000 in
theorem implRS (d c : Int) (xs : List Int) (v : Value) (B : Nat) (w : World) (ha : Ints w B v xs) (hB : B ≤ w.heap.size) (hq : l5.Small xs) (hT : stb.Tab w) :
    Calls Tryd.prog 23 #[.agg #[.int .i64 d, .int .i64 c, v]] w fun e w' => ∃ v', e = .returned (.tuple #[v', .int .i64 (laC d c xs)]) ∧ ss.ROwn w' w.heap.size w'.heap.size v' (rsW tk d c xs) ∧ Below w.heap.size w w' := by
  have b0 := (Below.refl w.heap.size w).alloc (Nat.le_refl _) (.cells #[.int .i64 d, .int .i64 c, v] 40)
  have HB := hid b0
  have hai := ha.chg (Chg.ofBelow (lo := 0) b0) (.inr (Nat.zero_le _))
  have hBi := Nat.le_trans hB b0.size
  have hTi := stb.carry hT b0
  obtain ⟨ao, cap, hv⟩ := ints_val ha
  by_cases h0 : laC d c xs = 0
  · have HL := hid (layYes d c xs v B _ hai hBi hq hTi h0)
    have HW : Hid (rsW tk d c xs = numL tk xs xs.length) := hid (by rw [rsW, if_pos h0])
    have HC := hid h0
    rw [HW.out, HC.out]
    clear hai hTi h0 HW HC ha hT b0 hq
    generalize numL tk xs xs.length = L1 at *
    generalize numL md xs xs.length = L2 at *
    obtain ⟨n, hn⟩ : ∃ n, n = xs.length := ⟨_, rfl⟩
    rw [← hn] at hv
    clear hn
    subst hv
    go_enter Tryd.func23, Tryd.ntmps23
    go_wp2_with fail
    refine HL.out.mono ?_
    rintro e w1 ⟨v1, vals1, v2, vals2, rfl, s1, s2, b1⟩
    obtain ⟨a1, c1, hv1⟩ := s1.val
    obtain ⟨a2, c2, hv2⟩ := s2.val
    have B1 := hid (HB.out.trans (b1.mono HB.out.size))
    have HS := hid s1
    obtain ⟨n1, hn1⟩ : ∃ n1, n1 = L1.length := ⟨_, rfl⟩
    obtain ⟨n2, hn2⟩ : ∃ n2, n2 = L2.length := ⟨_, rfl⟩
    rw [← hn1] at hv1
    rw [← hn2] at hv2
    clear s1 s2 b1 hn1 hn2
    subst hv1 hv2
    have HS2 := hid ((HS.out.low (lo' := w.heap.size) HB.out.size).below ((Below.refl w1.heap.size w1).alloc (Nat.le_refl _) (.cells #[.int .i64 d, .int .i64 c, .slice ao n cap, .slice a1 n1 c1, .slice a2 n2 c2] 69)))
    have HB2 := hid (B1.out.alloc B1.out.size (.cells #[.int .i64 d, .int .i64 c, .slice ao n cap, .slice a1 n1 c1, .slice a2 n2 c2] 69))
    go_wp2
    go_ret2
    exact ⟨_, rfl, HS2.out.rown, HB2.out⟩
  · have HL := hid (layNo d c xs v B _ hai hBi hq hTi h0)
    have HW : Hid (rsW tk d c xs = []) := hid (by rw [rsW, if_neg h0])
    rw [HW.out]
    clear hai hTi h0 HW ha hT b0 hq
    generalize laC d c xs = cd at *
    obtain ⟨n, hn⟩ : ∃ n, n = xs.length := ⟨_, rfl⟩
    rw [← hn] at hv
    clear hn
    subst hv
    simp only [zLaid] at HL
    go_enter Tryd.func23, Tryd.ntmps23
    go_wp2_with fail
    refine HL.out.mono ?_
    rintro e w1 ⟨rfl, b1⟩
    have B1 := hid (HB.out.trans (b1.mono HB.out.size))
    have HB2 := hid (B1.out.alloc B1.out.size (.cells #[.int .i64 0, .int .i64 0, .slice none 0 0, .slice none 0 0, .slice none 0 0] 69))
    clear b1
    go_wp2
    go_ret2
    exact ⟨.slice none 0 0, rfl, rown_nil _ _, HB2.out⟩

set_option maxHeartbeats 4000000 in
theorem implRR (d c : Int) (xs : List Int) (v : Value) (B : Nat) (w : World) (ha : Ints w B v xs) (hB : B ≤ w.heap.size) (hq : l5.Small xs) (hT : stb.Tab w) :
    Calls Tryd.prog 28 #[.agg #[.int .i64 d, .int .i64 c, v]] w fun e w' => ∃ v', e = .returned (.tuple #[v', .int .i64 (laC d c xs)]) ∧ ss.ROwn w' w.heap.size w'.heap.size v' (rsW md d c xs) ∧ Below w.heap.size w w' := by
  have b0 := (Below.refl w.heap.size w).alloc (Nat.le_refl _) (.cells #[.int .i64 d, .int .i64 c, v] 40)
  have HB := hid b0
  have hai := ha.chg (Chg.ofBelow (lo := 0) b0) (.inr (Nat.zero_le _))
  have hBi := Nat.le_trans hB b0.size
  have hTi := stb.carry hT b0
  obtain ⟨ao, cap, hv⟩ := ints_val ha
  by_cases h0 : laC d c xs = 0
  · have HL := hid (layYes d c xs v B _ hai hBi hq hTi h0)
    have HW : Hid (rsW md d c xs = numL md xs xs.length) := hid (by rw [rsW, if_pos h0])
    have HC := hid h0
    rw [HW.out, HC.out]
    clear hai hTi h0 HW HC ha hT b0 hq
    generalize numL tk xs xs.length = L1 at *
    generalize numL md xs xs.length = L2 at *
    obtain ⟨n, hn⟩ : ∃ n, n = xs.length := ⟨_, rfl⟩
    rw [← hn] at hv
    clear hn
    subst hv
    go_enter Tryd.func28, Tryd.ntmps28
    go_wp2_with fail
    refine HL.out.mono ?_
    rintro e w1 ⟨v1, vals1, v2, vals2, rfl, s1, s2, b1⟩
    obtain ⟨a1, c1, hv1⟩ := s1.val
    obtain ⟨a2, c2, hv2⟩ := s2.val
    have B1 := hid (HB.out.trans (b1.mono HB.out.size))
    have HS := hid s2
    obtain ⟨n1, hn1⟩ : ∃ n1, n1 = L1.length := ⟨_, rfl⟩
    obtain ⟨n2, hn2⟩ : ∃ n2, n2 = L2.length := ⟨_, rfl⟩
    rw [← hn1] at hv1
    rw [← hn2] at hv2
    clear s1 s2 b1 hn1 hn2
    subst hv1 hv2
    have HS2 := hid ((HS.out.low (lo' := w.heap.size) HB.out.size).below ((Below.refl w1.heap.size w1).alloc (Nat.le_refl _) (.cells #[.int .i64 d, .int .i64 c, .slice ao n cap, .slice a1 n1 c1, .slice a2 n2 c2] 69)))
    have HB2 := hid (B1.out.alloc B1.out.size (.cells #[.int .i64 d, .int .i64 c, .slice ao n cap, .slice a1 n1 c1, .slice a2 n2 c2] 69))
    go_wp2
    go_ret2
    exact ⟨_, rfl, HS2.out.rown, HB2.out⟩
  · have HL := hid (layNo d c xs v B _ hai hBi hq hTi h0)
    have HW : Hid (rsW md d c xs = []) := hid (by rw [rsW, if_neg h0])
    rw [HW.out]
    clear hai hTi h0 HW ha hT b0 hq
    generalize laC d c xs = cd at *
    obtain ⟨n, hn⟩ : ∃ n, n = xs.length := ⟨_, rfl⟩
    rw [← hn] at hv
    clear hn
    subst hv
    simp only [zLaid] at HL
    go_enter Tryd.func28, Tryd.ntmps28
    go_wp2_with fail
    refine HL.out.mono ?_
    rintro e w1 ⟨rfl, b1⟩
    have B1 := hid (HB.out.trans (b1.mono HB.out.size))
    have HB2 := hid (B1.out.alloc B1.out.size (.cells #[.int .i64 0, .int .i64 0, .slice none 0 0, .slice none 0 0, .slice none 0 0] 69))
    clear b1
    go_wp2
    go_ret2
    exact ⟨.slice none 0 0, rfl, rown_nil _ _, HB2.out⟩

theorem pre_le (L : List (List Int)) (m : Nat) (h : ss.Short L m) : ∀ k, k ≤ L.length → ss.pre L k ≤ k * m := by
  intro k
  induction k with
  | zero => intro _; simp [ss.pre_zero]
  | succ k ih =>
    intro hk
    have h1 := ih (by omega)
    have h2 := h k (by omega)
    rw [ss.pre_succ L k (by omega), Nat.add_mul]
    omega
theorem rsW_len (f : Int → Int) (hf : ∀ x, knd x = true → f x ≤ 4) (d c : Int) (xs : List Int) : (rsW f d c xs).length ≤ 1048576 ∧ ss.Short (rsW f d c xs) 1099511627776 ∧ ss.tot (rsW f d c xs) ≤ 1048576 := by
  unfold rsW
  split
  · rename_i h0
    have hl := row_lst (la_row h0)
    have h16 := (lst_parts hl).1
    have hsh : ss.Short (numL f xs xs.length) 4 := fun j hj => by
      rw [numL_len] at hj
      rw [numL_at f xs xs.length j hj, sl.marks_len]
      have := hf _ ((lst_parts hl).2 j hj)
      omega
    have hp := pre_le _ 4 hsh xs.length (by rw [numL_len]; omega)
    refine ⟨by rw [numL_len]; omega, fun j hj => Nat.le_trans (hsh j hj) (by omega), ?_⟩
    unfold ss.tot
    rw [numL_len]
    omega
  · exact ⟨by simp, fun j hj => by simp at hj, by simp [ss.tot, ss.pre_zero]⟩
theorem tkW_len (d c : Int) (xs : List Int) : (rsW tk d c xs).length ≤ 1048576 ∧ ss.Short (rsW tk d c xs) 1099511627776 ∧ ss.tot (rsW tk d c xs) ≤ 1048576 := rsW_len tk (fun x h => (tk_bound h).2) d c xs
theorem mdW_len (d c : Int) (xs : List Int) : (rsW md d c xs).length ≤ 1048576 ∧ ss.Short (rsW md d c xs) 1099511627776 ∧ ss.tot (rsW md d c xs) ≤ 1048576 := rsW_len md (fun x h => (md_bound h).2) d c xs
end Go.Proofs.YtbbnheiibkcgiaaDoor.la
