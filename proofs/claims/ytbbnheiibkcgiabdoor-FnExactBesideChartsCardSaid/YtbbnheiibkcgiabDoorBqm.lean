/-
  In one file: Cc, Bq0, Ls2, Bq1, Bq2, Bq3, Bq4, Cju, Bqw.
-/
import Derived.Test.YtbbnheiibkcgiabDoorWd
import Derived.Lib.AppendZeros
import Derived.Test.YtbbnheiibkcgiabDoorChm
import Derived.Deep.CutRange
import Derived.Deep.RegionHeld3
import Derived.Test.YtbbnheiibkcgiabDoorCto
import Derived.Test.YtbbnheiibkcgiabDoorMkh
/- Words that are joined: contracts of slices.Grow at the nil slice, slices.Concat and impl.joined. -/
namespace Go.Proofs.YtbbnheiibkcgiabDoor.br
open Go.RowKit Go.Proofs.YtbbnheiibkcgiabDoor.sl Go.Proofs.YtbbnheiibkcgiabDoor.pm Go.Proofs.YtbbnheiibkcgiabDoor.bw Go.Proofs.YtbbnheiibkcgiabDoor.fn

theorem infoInt : Tryd.prog.underlying 3 = some (.int .i64) := by kernel_rfl

theorem growNil (n : Nat) (w : World) (hn : n ≤ 1048576) :
    Calls Tryd.prog 56 #[.slice none 0 0, .int .i64 n] w fun e w' => ∃ ao cap, e = .returned (.slice ao 0 cap) ∧ sl.Own w' w.heap.size w'.heap.size (.slice ao 0 cap) [] ∧ Below w.heap.size w w' := by
  obtain ⟨i0, hi, hz0, hz1, hz2⟩ := info_parts info64
  by_cases h0 : n = 0
  · subst h0
    go_enter Tryd.func56, Tryd.ntmps56
    go_wp2
    go_ret
    exact ⟨none, 0, rfl, Own.nil _ _, Below.refl _ _⟩
  · have hz := fun ty => Lib.run_append_nil_zeros (P := Tryd.prog) w 48 3 ty 2 i0 (.int .i64 0) .i64 .i64 Tryd.underlying48 infoInt hi hz0 n (by omega) (by rw [hz1]; omega) (by omega) (by rw [hz2]; omega)
    have hG1 := grownCap_ge w n 0 2
    have hG2 := grownCap_le_maxLen w n 0 2 (by unfold maxLen; omega)
    have HOwn : Hid (∀ G : Nat, n ≤ G → G ≤ maxLen → Own (w.drew.alloc (.cells (Builtin.zeroCells (Value.int .i64 0).cells n ++ Builtin.zeroCells (Value.int .i64 0).cells (G - n)) 2)) w.heap.size (w.drew.alloc (.cells (Builtin.zeroCells (Value.int .i64 0).cells n ++ Builtin.zeroCells (Value.int .i64 0).cells (G - n)) 2)).heap.size (.slice (some ⟨w.heap.size, 0, none⟩) 0 G) []) := hid (fun G h1 h2 => by
      have h := World.ownsRow_made (base := w.heap.size) (e := 2) (size := 1) w.drew (Builtin.zeroCells (Value.int .i64 0).cells n ++ Builtin.zeroCells (Value.int .i64 0).cells (G - n)) G (Nat.le_refl _) h2 (by
        have e1 : (Value.int .i64 0).cells.size = 1 := rfl
        simp only [Array.size_append, size_zeroCells, e1]; omega)
      exact Own.mk' (xs := []) h)
    obtain ⟨G, hG⟩ : ∃ G, G = grownCap w n 0 2 := ⟨_, rfl⟩
    rw [← hG] at hz hG1 hG2
    have HO := hid (HOwn.out G hG1 hG2)
    unfold maxLen at hG2
    generalize hW : w.drew.alloc (.cells (Builtin.zeroCells (Value.int .i64 0).cells n ++ Builtin.zeroCells (Value.int .i64 0).cells (G - n)) 2) = w2 at *
    have HB : Hid (Below w.heap.size w w2) := hid (by rw [← hW]; exact ((Below.refl w.heap.size w).drew).alloc (Nat.le_refl _) _)
    clear hG hW HOwn hi hz0 hz1 hz2
    go_enter Tryd.func56, Tryd.ntmps56
    go_wp2_with (at_builtin; refine Lib.wpList_append_run _ rfl _ _ _ _ rfl _ _ rfl rfl _ _ (hz _) ?_)
    go_ret
    exact ⟨_, _, rfl, HO.out, HB.out⟩

/-- A slice of slices of numbers. -/
def Wds (w : World) (B : Nat) (g : Nat) (L : List (List Int)) : Prop :=
  ∀ j, j < L.length → ∃ ao cap, w.cell? ⟨g, j, none⟩ = some (.slice ao (L.getD j []).length cap) ∧ Ints w B (.slice ao (L.getD j []).length cap) (L.getD j []) ∧ NilOk (.slice ao (L.getD j []).length cap)
theorem Wds.below {w w' : World} {B g lo : Nat} {L : List (List Int)} (h : Wds w B g L) (hb : Below lo w w') (h1 : g < lo) (h2 : B ≤ lo) : Wds w' B g L := by
  intro j hj
  obtain ⟨ao, cap, hc, hi, hn⟩ := h j hj
  exact ⟨ao, cap, (hb.cell (p := ⟨g, j, none⟩) h1).trans hc, hi.chg (lo := lo) (hi := w.heap.size) ⟨hb.os, hb.tape, hb.output, hb.size, fun k hk hk' => hb.block k (by omega)⟩ (.inl h2), hn⟩
def tot (L : List (List Int)) (k : Nat) : Nat := ((L.take k).flatten).length
theorem flat_snoc (L : List (List Int)) (k : Nat) (h : k < L.length) : (L.take (k + 1)).flatten = (L.take k).flatten ++ L.getD k [] := by
  rw [List.take_succ_eq_append_getElem h, List.flatten_append]; simp [List.getD, List.getElem?_eq_getElem h]
theorem tot_succ (L : List (List Int)) (k : Nat) (h : k < L.length) : tot L (k + 1) = tot L k + (L.getD k []).length := by
  rw [tot, flat_snoc L k h, List.length_append]; rfl
theorem tot_le (L : List (List Int)) (k : Nat) : tot L k ≤ L.flatten.length := by
  have h : L.flatten = (L.take k).flatten ++ (L.drop k).flatten := by rw [← List.flatten_append, List.take_append_drop]
  rw [tot, h, List.length_append]; omega

set_option maxHeartbeats 800000 in
theorem concat (L : List (List Int)) (g c B : Nat) (w : World) (hw : Wds w B g L) (hB : B ≤ w.heap.size) (hg : g < w.heap.size) (hL : L.length ≤ 1000) (ht : L.flatten.length ≤ 1048576) :
    Calls Tryd.prog 42 #[.slice (some ⟨g, 0, none⟩) L.length c] w fun e w' => ∃ v', e = .returned v' ∧ sl.Own w' w.heap.size w'.heap.size v' L.flatten ∧ Below w.heap.size w w' := by
  obtain ⟨m, hmm⟩ : ∃ m, m = L.length := ⟨_, rfl⟩
  rw [← hmm] at hL ⊢
  have HM := hid hmm
  have HW := hid hw
  clear hmm hw
  go_enter Tryd.func42, Tryd.ntmps42
  go_wp2
  go_loop [3, 11] (fun t i => ∃ k : Nat, k ≤ m ∧ i = .int .i64 k ∧ t = .int .i64 (tot L k)) (fun _ i => m - (intOf i).toNat)
  case atStart => exact ⟨0, Nat.zero_le _, rfl, rfl⟩
  case round =>
    obtain ⟨k, hk, rfl, rfl⟩ := hrel
    have hle := tot_le L k
    by_cases hlt : k < m
    · obtain ⟨ao, cap, hc, _, _⟩ := HW.out k (by rw [← HM.out]; exact hlt)
      have hle2 := tot_le L (k + 1)
      have hs := tot_succ L k (by rw [← HM.out]; exact hlt)
      have HS := hid hs
      rw [hs] at hle2
      clear hs
      generalize (L.getD k []).length = q at *
      generalize tot L k = t at *
      go_wp2
      go_round
      case rel => exact ⟨k + 1, by omega, by go_num, by rw [HS.out]; go_num⟩
      case measure => simp [intOf]; omega
    · obtain rfl : k = m := by omega
      generalize tot L k = t at *
      go_wp2_with fail
      refine (growNil t w (by omega)).mono ?_
      rintro e w1 ⟨ao1, cap1, rfl, o1, b1⟩
      have HO1 := hid o1
      have HB1 := hid b1
      have hz1 := b1.size
      have HW1 := hid (HW.out.below b1 hg hB)
      clear o1 b1 HW
      go_wp2
      go_loopw [6, 27] (fun v i wr => ∃ j : Nat, j ≤ k ∧ i = .int .i64 j ∧ sl.Own wr w.heap.size wr.heap.size v ((L.take j).flatten) ∧ Below w.heap.size w wr ∧ Wds wr B g L) (fun _ i _ => k - (intOf i).toNat)
      case atStart => exact ⟨0, Nat.zero_le _, rfl, HO1.out, HB1.out, HW1.out⟩
      case round =>
        obtain ⟨j, hj, rfl, hown, hbel, hwds⟩ := hrel
        have HO := hid hown
        have HB := hid hbel
        have HWr := hid hwds
        have hsz := hbel.size
        clear hown hbel hwds HO1 HB1 HW1
        by_cases hjl : j < k
        · obtain ⟨ao, cap, hc, hints, hnil⟩ := HWr.out j (by rw [← HM.out]; exact hjl)
          have HI := hid hints
          have HNil := hid hnil
          have HS := hid (flat_snoc L j (by rw [← HM.out]; exact hjl))
          have hle1 := tot_le L j
          have hle2 := tot_le L (j + 1)
          rw [tot_succ L j (by rw [← HM.out]; exact hjl)] at hle2
          have HT : Hid (((L.take j).flatten).length + (L.getD j []).length ≤ 1099511627776) := hid (by unfold tot at hle2; omega)
          clear hints hnil hle1 hle2
          generalize L.getD j [] = ys at *
          go_wp2_with (at_builtin; refine wp_appendAll rfl _ _ rfl w.heap.size wr.heap.size _ ((L.take j).flatten) HO.out rfl _ ys B HI.out HNil.out rfl hsz HT.out ?_; intro v' w3 hown3 hchg3)
          have HO3 := hid hown3
          have HB3 := hid (HB.out.trans (hchg3.below (Nat.le_refl _) hsz))
          have HW3 := hid (HWr.out.below (hchg3.below (B := w.heap.size) (Nat.le_refl _) hsz) hg hB)
          clear hown3 hchg3
          go_wp2
          go_roundw
          case rel => exact ⟨j + 1, by omega, by go_num, by rw [HS.out]; exact HO3.out, HB3.out, HW3.out⟩
          case measure => simp [intOf]; omega
        · obtain rfl : j = k := by omega
          have HS : Hid ((L.take j).flatten = L.flatten) := hid (by rw [HM.out, List.take_length])
          go_wp2
          go_ret
          exact ⟨_, rfl, by rw [← HS.out]; exact HO.out, HB.out⟩

/-- What joined answers. -/
def joinOk (s : Int) (L : List (List Int)) : Bool := decide (s ≤ 12) && decide (L.flatten.length ≤ 40)
def joinS (s : Int) (L : List (List Int)) : Int := if joinOk s L = true then s else 0
def joinW (s : Int) (L : List (List Int)) : List Int := if joinOk s L = true then L.flatten else []
def joinC (s : Int) (L : List (List Int)) : Int := if joinOk s L = true then 0 else 5

end Go.Proofs.YtbbnheiibkcgiabDoor.br

/- BesideCharts: mathematics; what is answered; a row's stitches that grow in place. -/
namespace Go.Proofs.YtbbnheiibkcgiabDoor.cy
open Go.RowKit Go.Proofs.YtbbnheiibkcgiabDoor.sl Go.Proofs.YtbbnheiibkcgiabDoor.br Go.Proofs.YtbbnheiibkcgiabDoor.ss Go.Proofs.YtbbnheiibkcgiabDoor.ro Go.Proofs.YtbbnheiibkcgiabDoor.cm Go.Proofs.YtbbnheiibkcgiabDoor.cx
set_option linter.unusedVariables false
set_option linter.unusedSimpArgs false
set_option maxRecDepth 100000

/-- Two rows of the same yarn; beside one another. -/
def yq (x y : V) : Bool := (x.a0 == y.a0) && (x.a1 == y.a1)
def jn (x y : V) : V := ⟨x.a0, x.a1, x.ps ++ y.ps⟩
def allY (xs ys : List V) : Bool := (xs.length == ys.length) && (List.range xs.length).all fun j => yq (xs.getD j iz) (ys.getD j iz)
/-- The first k rows beside one another, the others as they are. -/
def joinTo (xs ys : List V) (k : Nat) : List V := (List.range xs.length).map fun j => if j < k then jn (xs.getD j iz) (ys.getD j iz) else xs.getD j iz
def joinL (xs ys : List V) : List V := joinTo xs ys xs.length
theorem joinTo_len (xs ys : List V) (k : Nat) : (joinTo xs ys k).length = xs.length := by simp [joinTo]
theorem joinTo_at (xs ys : List V) (k j : Nat) (h : j < xs.length) : (joinTo xs ys k).getD j iz = if j < k then jn (xs.getD j iz) (ys.getD j iz) else xs.getD j iz := by simp [joinTo, List.getD, h]
theorem ext_getD {a b : List V} (hl : a.length = b.length) (h : ∀ j, j < a.length → a.getD j iz = b.getD j iz) : a = b := by
  apply List.ext_getElem hl
  intro j h1 h2
  have := h j h1
  simpa [List.getD, List.getElem?_eq_getElem h1, List.getElem?_eq_getElem h2] using this
theorem joinTo_zero (xs ys : List V) : joinTo xs ys 0 = xs := ext_getD (joinTo_len _ _ _) (fun j hj => by rw [joinTo_len] at hj; rw [joinTo_at _ _ _ _ hj, if_neg (by omega)])
theorem joinTo_succ (xs ys : List V) (k : Nat) (hk : k < xs.length) : joinTo xs ys (k + 1) = (joinTo xs ys k).set k (jn (xs.getD k iz) (ys.getD k iz)) := by
  refine ext_getD (by simp [joinTo_len]) (fun j hj => ?_)
  rw [joinTo_len] at hj
  rw [joinTo_at _ _ _ _ hj]
  by_cases e : j = k
  · subst e
    rw [if_pos (by omega)]
    simp [List.getD, joinTo_len, hj]
  · have h1 : ((joinTo xs ys k).set k (jn (xs.getD k iz) (ys.getD k iz))).getD j iz = (joinTo xs ys k).getD j iz := by
      have : ¬ k = j := fun h => e h.symm
      simp [List.getD, this]
    rw [h1, joinTo_at _ _ _ _ hj]
    by_cases h : j < k
    · rw [if_pos h, if_pos (by omega)]
    · rw [if_neg h, if_neg (by omega)]
def bsK (c : Int) (xs : List V) (d : Int) (ys : List V) : Int :=
  if chB c xs && chB d ys then (if allY xs ys then (if chB (c + d) (joinL xs ys) then 0 else 5) else 6) else 1
def bsC (c : Int) (xs : List V) (d : Int) (ys : List V) : Int := if bsK c xs d ys = 0 then c + d else 0
def bsR (c : Int) (xs : List V) (d : Int) (ys : List V) : List V := if bsK c xs d ys = 0 then joinL xs ys else []
theorem allY_len {xs ys : List V} (h : xs.length ≠ ys.length) : allY xs ys = false := by
  have : (xs.length == ys.length) = false := by simpa using h
  rw [allY, this]; rfl
theorem allY_no {xs ys : List V} (k : Nat) (hk : k < xs.length) (h : yq (xs.getD k iz) (ys.getD k iz) = false) : allY xs ys = false := by
  cases ha : allY xs ys
  · rfl
  · simp only [allY, Bool.and_eq_true, List.all_eq_true] at ha
    rw [ha.2 k (by simpa using hk)] at h
    cases h
theorem allY_yes {xs ys : List V} (hl : xs.length = ys.length) (h : ∀ j, j < xs.length → yq (xs.getD j iz) (ys.getD j iz) = true) : allY xs ys = true := by
  have : (xs.length == ys.length) = true := by simpa using hl
  simp only [allY, this, Bool.true_and, List.all_eq_true, List.mem_range]
  exact h
theorem allY_parts {xs ys : List V} (h : allY xs ys = true) : xs.length = ys.length ∧ ∀ j, j < xs.length → yq (xs.getD j iz) (ys.getD j iz) = true := by
  simp only [allY, Bool.and_eq_true, List.all_eq_true, List.mem_range, beq_iff_eq] at h
  exact h
theorem small_join {xs ys : List V} (hx : Small xs) (hs : ∀ j, j < xs.length → (xs.getD j iz).ps.length ≤ 16 ∧ (ys.getD j iz).ps.length ≤ 16) (k : Nat) : Small (joinTo xs ys k) := by
  refine ⟨by rw [joinTo_len]; exact hx.len, fun j hj => ?_⟩
  rw [joinTo_len] at hj
  rw [joinTo_at _ _ _ _ hj]
  have := hs j hj
  split
  · simp only [jn, List.length_append]; omega
  · omega
theorem bs_none {w w' : World} {c d : Int} {xs ys : List V} {k : Int} (h : bsK c xs d ys = k) (h0 : k ≠ 0) (b : Below w.heap.size w w') :
    ∃ ao cap, Ending.returned (.tuple #[.agg #[.int .i64 0, .slice none 0 0], .int .i64 k]) = .returned (.tuple #[.agg #[.int .i64 (bsC c xs d ys), .slice ao (bsR c xs d ys).length cap], .int .i64 (bsK c xs d ys)]) ∧ IOwn w' w.heap.size w'.heap.size (.slice ao (bsR c xs d ys).length cap) (bsR c xs d ys) ∧ Below w.heap.size w w' := by
  have e1 : bsC c xs d ys = 0 := by rw [bsC, h, if_neg h0]
  have e2 : bsR c xs d ys = [] := by rw [bsR, h, if_neg h0]
  rw [e1, e2, h]
  exact ⟨none, 0, rfl, ⟨Nat.le_refl _, .inl ⟨rfl, _, _, rfl⟩⟩, b⟩
theorem bs_some {w w' : World} {c d : Int} {xs ys : List V} (h : bsK c xs d ys = 0) {ao : Option Addr} {n cap : Nat} (hn : n = (joinL xs ys).length) (o : IOwn w' w.heap.size w'.heap.size (.slice ao n cap) (joinL xs ys)) (b : Below w.heap.size w w') :
    ∃ ao' cap', Ending.returned (.tuple #[.agg #[.int .i64 (c + d), .slice ao n cap], .int .i64 0]) = .returned (.tuple #[.agg #[.int .i64 (bsC c xs d ys), .slice ao' (bsR c xs d ys).length cap'], .int .i64 (bsK c xs d ys)]) ∧ IOwn w' w.heap.size w'.heap.size (.slice ao' (bsR c xs d ys).length cap') (bsR c xs d ys) ∧ Below w.heap.size w w' := by
  have e1 : bsC c xs d ys = c + d := by rw [bsC, h, if_pos rfl]
  have e2 : bsR c xs d ys = joinL xs ys := by rw [bsR, h, if_pos rfl]
  rw [e1, e2, h]
  subst hn
  exact ⟨ao, cap, rfl, o, b⟩

theorem flatW_set (L : List Rw) (k : Nat) (hk : k < L.length) (f' : Value) (zs : List Int) : flatW (L.set k ⟨⟨(L.getD k dz).r.a0, (L.getD k dz).r.a1, zs⟩, f'⟩) = (flatW L).set (k * 3 + 2) f' := by
  induction L generalizing k with
  | nil => simp at hk
  | cons x L ih =>
    cases k with
    | zero => simp [flatW, List.getD]
    | succ k =>
      have h := ih k (by simpa using hk)
      have e : ((x :: L).getD (k + 1) dz) = L.getD k dz := by simp [List.getD]
      rw [e]
      simp only [List.set_cons_succ]
      show flatW ([x] ++ L.set k _) = (flatW ([x] ++ L)).set ((k + 1) * 3 + 2) f'
      rw [flatW_app, flatW_app, h]
      have hx : (flatW [x]).length = 3 := by simp [flatW]
      rw [List.set_append_right _ _ (by rw [hx]; omega), hx]
      congr 2
      omega
theorem set_at (L : List Rw) (k j : Nat) (R : Rw) (hk : k < L.length) : (L.set k R).getD j dz = if j = k then R else L.getD j dz := by
  by_cases e : j = k
  · subst e; simp [List.getD, hk]
  · have : ¬ k = j := fun h => e h.symm
    rw [if_neg e]; simp [List.getD, this]
theorem rebase {w : World} {lo lo' : Nat} {v : Value} {n : Nat} {vs : List Value} (h : w.ownsRow lo 2 1 v n vs) (hb : ∀ b, v.ownBlock = some b → lo' ≤ b) : w.ownsRow lo' 2 1 v n vs := by
  rcases h.2 with ⟨h1, h2⟩ | ⟨g, c, cur, h1, h2, h3⟩
  · exact ⟨h.1, .inl ⟨h1, h2⟩⟩
  · exact ⟨h.1, .inr ⟨g, c, cur, h1, hb g (by rw [h1]; rfl), h3⟩⟩

/-- The stitches of a row have grown, in place or in a new block; the row's cell is set. -/
theorem RG.put {W w9 : World} {lo gb g n cap : Nat} {L : List Rw} {k : Nat} {Lo Hi : Nat → Nat} (row : W.ownsRow lo 50 3 (.slice (some ⟨g, 0, none⟩) n cap) L.length (flatW L))
    (els : ∀ j, j < L.length → sl.Own W (Lo j) (Hi j) (L.getD j dz).f (L.getD j dz).r.ps ∧ lo ≤ Lo j ∧ (∀ q, (Value.slice (some ⟨g, 0, none⟩) n cap).ownBlock = some q → q < Lo j ∨ Hi j ≤ q) ∧ (∀ i, i < j → Hi i ≤ Lo j ∨ Hi j ≤ Lo i) ∧ (gb < Lo j ∨ Hi j ≤ gb))
    (hk : k < L.length) (hgb : gb < W.heap.size) (hlo : lo ≤ W.heap.size) {f' : Value} {zs : List Int} {l9 : Nat} (hr : w9.ownsRow l9 2 1 f' zs.length (zs.map (Value.int .i64))) (hg : W.grownBy w9 (L.getD k dz).f.ownBlock)
    (h5 : f'.ownBlock = (L.getD k dz).f.ownBlock ∨ f'.ownBlock = some W.heap.size) :
    RG (w9.setCell ⟨g, k * 3 + 2, none⟩ f') lo gb (.slice (some ⟨g, 0, none⟩) n cap) (L.set k ⟨⟨(L.getD k dz).r.a0, (L.getD k dz).r.a1, zs⟩, f'⟩) ∧ w9.heap[g]? = W.heap[g]? := by
  have hnL : n = L.length := by
    rcases row.2 with ⟨h0, _⟩ | ⟨g', cap', cur, h0, _⟩
    · cases h0
    · simp only [Value.slice.injEq] at h0; exact h0.2.1
  subst hnL
  have hgW : g < W.heap.size := (row.lt g rfl).2
  obtain ⟨ok, lok, gk, _, gbk⟩ := els k hk
  have hbk : ∀ b, (L.getD k dz).f.ownBlock = some b → Lo k ≤ b ∧ b < Hi k := fun b hb => ⟨(ok.1.lt b hb).1, ok.2.1 b hb⟩
  have hgg := gk g rfl
  have hs9 := hg.size
  have hne : ∀ b, (L.getD k dz).f.ownBlock = some b → g ≠ b := fun b hb e => by have := hbk b hb; omega
  have hg9 : w9.heap[g]? = W.heap[g]? := hg.block g hgW (fun e => hne g (by first | exact e | exact e.symm) rfl)
  have row9 : w9.ownsRow lo 50 3 (.slice (some ⟨g, 0, none⟩) L.length cap) L.length (flatW L) := World.ownsRow.kept row hg (by
    cases hb : (L.getD k dz).f.ownBlock with
    | none => exact .inr (by simp [Value.ownBlock])
    | some b => right; intro e; simp only [Value.ownBlock, Option.some.injEq] at e; exact hne b hb e)
  have row10 := (row9.stored (k * 3 + 2) f').1
  rw [← flatW_set L k hk f' zs] at row10
  have hch : ∀ j, j < L.length → j ≠ k → sl.Own w9 (Lo j) (Hi j) (L.getD j dz).f (L.getD j dz).r.ps := fun j hj hjk => by
    have oj := (els j hj).1
    have hd : Hi k ≤ Lo j ∨ Hi j ≤ Lo k := by
      rcases Nat.lt_trichotomy j k with h | h | h
      · rcases (els k hk).2.2.2.1 j h with h2 | h2 <;> omega
      · exact absurd h hjk
      · rcases (els j hj).2.2.2.1 k h with h2 | h2 <;> omega
    exact wk.own_by oj hg fun b hb => by have := hbk b hb; omega
  refine ⟨?_, hg9⟩
  rcases h5 with h5 | h5
  · refine ⟨by rw [List.length_set]; exact row10, Lo, Hi, fun j hj => ?_⟩
    rw [List.length_set] at hj
    rw [set_at L k j _ hk]
    obtain ⟨a1, a2, a3, a4, a5⟩ := els j hj
    refine ⟨?_, a2, a3, a4, a5⟩
    by_cases e : j = k
    · subst e
      rw [if_pos rfl]
      have o9 : sl.Own w9 (Lo j) (Hi j) f' zs := ⟨rebase hr (fun b hb => (hbk b (by rw [← h5]; exact hb)).1), fun b hb => (hbk b (by rw [← h5]; exact hb)).2, Nat.le_trans ok.2.2 hs9⟩
      exact own_other o9 g _ _ hgg
    · rw [if_neg e]
      exact own_other (hch j hj e) g _ _ (a3 g rfl)
  · have hnew := (hr.lt W.heap.size h5).2
    refine ⟨by rw [List.length_set]; exact row10, fun j => if j = k then W.heap.size else Lo j, fun j => if j = k then w9.heap.size else Hi j, fun j hj => ?_⟩
    rw [List.length_set] at hj
    rw [set_at L k j _ hk]
    obtain ⟨a1, a2, a3, a4, a5⟩ := els j hj
    by_cases e : j = k
    · have o9 : sl.Own w9 W.heap.size w9.heap.size f' zs := ⟨rebase hr (fun b hb => by rw [h5] at hb; simp only [Option.some.injEq] at hb; omega), fun b hb => by rw [h5] at hb; simp only [Option.some.injEq] at hb; omega, Nat.le_refl _⟩
      simp only [if_pos e]
      refine ⟨own_other o9 g _ _ (.inl hgW), hlo, fun q hq => .inl (by simp only [Value.ownBlock, Option.some.injEq] at hq; omega), fun i hi => ?_, .inl hgb⟩
      simp only [if_neg (show ¬ i = k by omega)]
      exact .inl (els i (by omega)).1.2.2
    · simp only [if_neg e]
      refine ⟨own_other (hch j hj e) g _ _ (a3 g rfl), a2, a3, fun i hi => ?_, a5⟩
      by_cases e2 : i = k
      · simp only [if_pos e2]
        exact .inr a1.2.2
      · simp only [if_neg e2]
        exact a4 i hi

/-- append(row, stitches...): one operation of a region. -/
theorem step_appI {ops : Array Oper} {o : Oper} {a : Act} {K : Act → World → Prop} {Q : Exit → Act → World → Prop} {E : Prop} {w : World} (hgd : o.guard = none) (s x : Operand)
    (hop : o.op = .call { callee := .builtin .append, args := #[s, x], argTypes := #[48, 48] })
    (lo hi : Nat) (v : Value) (xs : List Int) (ho : sl.Own w lo hi v xs) (hs : a.eval s = v) (u : Value) (ys : List Int) (C : Nat) (hu : Ints w C u ys) (hnil : fn.NilOk u) (hx : a.eval x = u) (hlo : lo ≤ w.heap.size) (hn : xs.length + ys.length ≤ 1048576)
    (hK : ∀ v' w', w'.ownsRow lo 2 1 v' (xs ++ ys).length ((xs ++ ys).map (Value.int .i64)) → w.grownBy w' v.ownBlock → (v'.ownBlock = v.ownBlock ∨ v'.ownBlock = some w.heap.size) → K (a.put o.dst v') w') : if Region.wanted o (yielded ops a.tmps) = true then Oper.wp Tryd.prog o a w K Q else E := by
  have hw : Region.wanted o (yielded ops a.tmps) = true := by simp [Region.wanted, hgd]
  rw [if_pos hw]
  obtain ⟨i0, hi', hz0, hz1, hz2⟩ := info_parts info64
  have main : ∀ (ad : Addr) (cap : Nat), u = .slice (some ad) ys.length cap → (∀ j, j < ys.length → w.cell? (ad.add j) = some (.int .i64 (ys.getD j 0))) → Oper.wp Tryd.prog o a w K Q := by
    intro ad cap hu' hc
    obtain ⟨v', w', hr, h2, h3, h4, h5⟩ := run_append_own_at (P := Tryd.prog) w lo 48 o.type 2 i0 (.int .i64 0) 1 8 Tryd.underlying48 hi' hz0 hz1 hz2 rfl (by decide) v xs.length (xs.map (Value.int .i64)) ho.1 ad ys.length cap (ys.map (Value.int .i64)) (by simp)
      (fun j q hj => by
        have hj' : j < ys.length := by have := (List.getElem?_eq_some_iff.1 hj).1; simpa using this
        rw [hc j hj']
        simp only [List.getElem?_map, List.getElem?_eq_getElem hj', Option.map_some, Option.some.injEq] at hj
        rw [← hj]; simp [List.getD, List.getElem?_eq_getElem hj'])
      (fun q hq => by obtain ⟨z, _, rfl⟩ := List.mem_map.1 hq; rfl) (by unfold maxLen; omega) (by omega) hlo
    unfold Oper.wp execOp
    simp only [hop, resolve, invoke, builtin, Sem.run_bind, Sem.run_pure, Result.andThen_ok, List.map_toArray, List.map_cons, List.map_nil, hs, hx, hu', hr]
    exact hK v' w' (by rw [List.length_append, List.map_append]; exact h2) h3 h5
  rcases hu with ⟨rfl, ao, cap, rfl⟩ | ⟨hp, b, off, cap, hv, hb, hc⟩
  · cases ao with
    | none =>
      obtain ⟨_, rfl⟩ := hnil _ _ rfl
      have hrun := run_append_owned_none (P := Tryd.prog) (w := w) lo 48 o.type 2 i0 1 Tryd.underlying48 hi' v xs.length (xs.map (Value.int .i64)) ho.1
      unfold Oper.wp
      simp [execOp, hop, resolve, invoke, builtin, hs, hx, hrun, Result.andThen]
      exact hK v w (by rw [List.append_nil]; exact ho.1) ⟨rfl, rfl, rfl, Nat.le_refl _, fun _ _ _ => rfl⟩ (.inl rfl)
    | some ad => exact main ad cap rfl (fun j hj => by simp at hj)
  · exact main ⟨b, off, none⟩ cap hv (fun j hj => by rw [Addr.add_lit]; exact hc j hj)
end Go.Proofs.YtbbnheiibkcgiabDoor.cy

/- A region whose last operation waits for all others, for some of them through one between. -/
namespace Go.Proofs.YtbbnheiibkcgiabDoor.ls
open Go
set_option linter.unusedVariables false

section
variable {P : Program} {ops : Array Oper} {Q : Exit → Act → World → Prop} {S : World → Prop}

def waits1 (ops : Array Oper) (p i : Nat) : Bool := ((ops[p]?).map fun o => o.after.any fun e => Region.binds .any e && e.on == i).getD false
/-- The last one waits for all others, or for one that waits for them. -/
def waitsAll2 (ops : Array Oper) (n : Nat) : Bool := (List.range n).all fun i => waits1 ops n i || (List.range n).any fun p => waits1 ops n p && waits1 ops p i
def Closed (ops : Array Oper) (listed : Array Bool) : Prop := ∀ p i, listed.getD p false = true → waits1 ops p i = true → listed.getD i false = true
theorem waits1_of {p i : Nat} (h : waits1 ops p i = true) : ∃ o, ops[p]? = some o ∧ ∃ e, e ∈ o.after ∧ Region.binds .any e = true ∧ e.on = i := by
  unfold waits1 at h
  cases ho : ops[p]? with
  | none => rw [ho] at h; simp at h
  | some o =>
    rw [ho] at h
    simp only [Option.map_some, Option.getD_some, Array.any_eq_true'] at h
    obtain ⟨e, he, h2⟩ := h
    simp only [Bool.and_eq_true, beq_iff_eq] at h2
    exact ⟨o, rfl, e, he, h2.1, h2.2⟩
theorem set_getD {l : Array Bool} {i j : Nat} (h : l.getD j false = true) : (l.setIfInBounds i true).getD j false = true := by
  by_cases e : j = i
  · subst e
    have hlt : j < l.size := by
      rcases Nat.lt_or_ge j l.size with h1 | h1
      · exact h1
      · simp [Array.getD, Nat.not_lt.2 h1] at h
    rw [Array.getD_eq_getD_getElem?, Array.getElem?_setIfInBounds_self_of_lt hlt]; rfl
  · rw [Array.getD_eq_getD_getElem?, Array.getElem?_setIfInBounds_ne (fun h => e h.symm), ← Array.getD_eq_getD_getElem?]; exact h
theorem Closed.set {listed : Array Bool} {i : Nat} (h : Closed ops listed) (hr : i ∈ Region.ready .any ops listed) : Closed ops (listed.setIfInBounds i true) := by
  intro p k hp hw
  obtain ⟨_, o', ho', hall⟩ := mem_ready.1 hr
  by_cases e : p = i
  · subst e
    obtain ⟨o, ho, e, he, hb, rfl⟩ := waits1_of hw
    rw [ho'] at ho
    cases ho
    exact set_getD (hall e he hb)
  · have hp2 : listed.getD p false = true := by
      rw [Array.getD_eq_getD_getElem?, Array.getElem?_setIfInBounds_ne (fun h => e h.symm), ← Array.getD_eq_getD_getElem?] at hp; exact hp
    exact set_getD (h p k hp2 hw)
theorem ready_last2 {n : Nat} {listed : Array Bool} (hs : ops.size = n + 1) (hl : listed.size = n + 1) (hw : waitsAll2 ops n = true) (hc : Closed ops listed) (hr : n ∈ Region.ready .any ops listed) : Region.ready .any ops (listed.setIfInBounds n true) = [] := by
  rw [List.eq_nil_iff_forall_not_mem]
  intro j hj
  obtain ⟨h0, o, ho, _⟩ := mem_ready.1 hj
  have hlt : j < ops.size := (Array.getElem?_eq_some_iff.1 ho).1
  obtain ⟨_, o', ho', hall⟩ := mem_ready.1 hr
  have dir : ∀ p, waits1 ops n p = true → listed.getD p false = true := fun p hp => by
    obtain ⟨o2, ho2, e, he, hb, rfl⟩ := waits1_of hp
    rw [ho'] at ho2
    cases ho2
    exact hall e he hb
  by_cases hjn : j = n
  · subst hjn
    rw [Array.getD_eq_getD_getElem?, Array.getElem?_setIfInBounds_self_of_lt (by omega)] at h0
    cases h0
  · have hjl : listed.getD j false = true := by
      unfold waitsAll2 at hw
      rw [List.all_eq_true] at hw
      have h1 := hw j (by simp; omega)
      simp only [Bool.or_eq_true, List.any_eq_true, Bool.and_eq_true] at h1
      rcases h1 with h1 | ⟨p, _, h2, h3⟩
      · exact dir j h1
      · exact hc p j (dir p h2) h3
    rw [Array.getD_eq_getD_getElem?, Array.getElem?_setIfInBounds_ne (by omega), ← Array.getD_eq_getD_getElem?, getD_lt (by omega) true false, hjl] at h0
    cases h0
theorem wpAny_last2 {n : Nat} (hs : ops.size = n + 1) (hw : waitsAll2 ops n = true) (hlow : lowB ops = true) :
    ∀ (fuel : Nat) (listed : Array Bool) (a : Act) (w : World), listed.size = n + 1 → listed.getD n true = false → Closed ops listed →
      wpAny P .any ops (lastQ P ops Q n) fuel (listed.setIfInBounds n true) a w → wpAny P .any ops Q (fuel + 1) listed a w := by
  intro fuel
  induction fuel with
  | zero =>
    intro listed a w hl hf hc H
    refine ⟨fun h => absurd h (ready_some hs hl hf hlow), fun i hi => ?_⟩
    by_cases hin : i = n
    · subst hin
      exact wpOp_mono (fun a' w' h => any_done (ready_last2 hs hl hw hc hi) h 0) H.2
    · have := ready_mono hi hin
      rw [H.1] at this
      cases this
  | succ fuel ih =>
    intro listed a w hl hf hc H
    refine ⟨fun h => absurd h (ready_some hs hl hf hlow), fun i hi => ?_⟩
    by_cases hin : i = n
    · subst hin
      exact wpOp_mono (fun a' w' h => any_done (ready_last2 hs hl hw hc hi) h _) (H.1 (ready_last2 hs hl hw hc hi))
    · have h1 := wpOp_lastQ (H.2 i (ready_mono hi hin))
      refine wpOp_mono (fun a' w' h => ih (listed.setIfInBounds i true) a' w' (by simpa using hl) ?_ (hc.set hi) ?_) h1
      · rw [Array.getD_eq_getD_getElem?, Array.getElem?_setIfInBounds_ne hin, ← Array.getD_eq_getD_getElem?]; exact hf
      · rw [Array.setIfInBounds_comm _ _ hin]; exact h
theorem wp_region_last2 {id : Nat} {a : Act} {w : World} (n : Nat) (hm : P.follows .mixedOrders = true) (hs : ops.size = n + 1) (hw : waitsAll2 ops n = true) (hlow : lowB ops = true) (hS : S w.drew)
    (h : S w.drew → wpAnyH P .any ops (lastQ P ops Q n) S n ((Array.replicate (n + 1) false).setIfInBounds n true) a w.drew) : (Code.region id ops true).wp P Q a w := by
  refine wp_region_any hm ?_
  rw [hs]
  exact wpAny_last2 hs hw hlow n _ a _ (by simp) (by simp [Array.getD]) (fun p i hp _ => by
    exfalso
    simp only [Array.getD] at hp
    split at hp
    · simp at hp
    · cases hp) (wpAny_of_held _ _ _ _ (h hS))
end
end Go.Proofs.YtbbnheiibkcgiabDoor.ls

/- BesideCharts of the model. -/
namespace Go.Proofs.YtbbnheiibkcgiabDoor.cy
open Go.RowKit Go.Proofs.YtbbnheiibkcgiabDoor.sl Go.Proofs.YtbbnheiibkcgiabDoor.br Go.Proofs.YtbbnheiibkcgiabDoor.ss Go.Proofs.YtbbnheiibkcgiabDoor.ro Go.Proofs.YtbbnheiibkcgiabDoor.cm Go.Proofs.YtbbnheiibkcgiabDoor.cx
set_option linter.unusedVariables false
set_option linter.unusedSimpArgs false
set_option maxRecDepth 100000

/-- The number of columns is set. -/
theorem MW.setC {w1 W : World} {c : Int} {g : Nat} {z : Value} {L : List Rw} (h : MW w1 W c g z L) (c' : Int) : MW w1 (W.setCell ⟨g, 0, none⟩ (.int .i64 c')) c' g z L :=
  ⟨h.g0, by have := h.g1; simp; omega, World.cell?_setCell_same _ _ _ h.c0, (World.cell?_setCell_other _ _ _ _ (by simp)).trans h.c1, by rw [World.frozen?_setCell]; exact h.fz, h.sr.set h.ap _ _, h.ap, h.bl.setCell h.g0 _⟩
/-- A row's stitches have grown. -/
theorem MW.put {w1 W w9 : World} {c : Int} {g b n cap : Nat} {L : List Rw} {k : Nat} {Lo Hi : Nat → Nat} (h : MW w1 W c g (.slice (some ⟨b, 0, none⟩) n cap) L)
    (els : ∀ j, j < L.length → sl.Own W (Lo j) (Hi j) (L.getD j dz).f (L.getD j dz).r.ps ∧ w1.heap.size ≤ Lo j ∧ (∀ q, (Value.slice (some ⟨b, 0, none⟩) n cap).ownBlock = some q → q < Lo j ∨ Hi j ≤ q) ∧ (∀ i, i < j → Hi i ≤ Lo j ∨ Hi j ≤ Lo i) ∧ (g < Lo j ∨ Hi j ≤ g))
    (hk : k < L.length) {f' : Value} {zs : List Int} {l9 : Nat} (hr : w9.ownsRow l9 2 1 f' zs.length (zs.map (Value.int .i64))) (hg : W.grownBy w9 (L.getD k dz).f.ownBlock)
    (h5 : f'.ownBlock = (L.getD k dz).f.ownBlock ∨ f'.ownBlock = some W.heap.size) :
    MW w1 (w9.setCell ⟨b, k * 3 + 2, none⟩ f') c g (.slice (some ⟨b, 0, none⟩) n cap) (L.set k ⟨⟨(L.getD k dz).r.a0, (L.getD k dz).r.a1, zs⟩, f'⟩) ∧ w9.heap[b]? = W.heap[b]? ∧ w9.heap[g]? = W.heap[g]? ∧ Below w1.heap.size w1 w9 := by
  have hlo := h.bl.size
  have hg1 := h.g1
  have hs9 := hg.size
  obtain ⟨hRG, hb9⟩ := RG.put h.sr.row els hk hg1 hlo hr hg h5
  obtain ⟨ok, lok, gk, _, gbk⟩ := els k hk
  have hbk : ∀ q, (L.getD k dz).f.ownBlock = some q → Lo k ≤ q ∧ q < Hi k := fun q hq => ⟨(ok.1.lt q hq).1, ok.2.1 q hq⟩
  have hne : ∀ q, (L.getD k dz).f.ownBlock = some q → g ≠ q := fun q hq e => by have := hbk q hq; omega
  have hgg : w9.heap[g]? = W.heap[g]? := hg.block g hg1 (fun e => hne g (by first | exact e | exact e.symm) rfl)
  have hbg : b ≠ g := h.ap b rfl
  have hblo := (h.sr.row.lt b rfl).1
  have HB : Below w1.heap.size w1 w9 := h.bl.grown hg hlo (fun j e => by have := hbk j e; omega)
  refine ⟨⟨h.g0, by simp; omega, ?_, ?_, ?_, hRG, h.ap, HB.setCell hblo _⟩, hb9, hgg, HB⟩
  · exact (World.cell?_setCell_other _ _ _ _ (fun e => by injection e with e1; omega)).trans ((World.cell?_of_block (a := ⟨g, 0, none⟩) hgg).trans h.c0)
  · exact (World.cell?_setCell_other _ _ _ _ (fun e => by injection e with e1; omega)).trans ((World.cell?_of_block (a := ⟨g, 1, none⟩) hgg).trans h.c1)
  · rw [World.frozen?_setCell]; exact (World.frozen?_of_block (a := ⟨g, 1, none⟩) hgg).trans h.fz

set_option maxHeartbeats 8000000 in
theorem specBS (c : Int) (xs : List V) (f : Value) (d : Int) (ys : List V) (u : Value) (B : Nat) (w : World) (ha : InfsN w B f xs) (hb : InfsN w B u ys) (hB : B ≤ w.heap.size) (hq : Small xs) (hq2 : Small ys) :
    Calls Tryd.prog 12 #[.agg #[.int .i64 c, f], .agg #[.int .i64 d, u]] w fun e w' => ∃ ao cap, e = .returned (.tuple #[.agg #[.int .i64 (bsC c xs d ys), .slice ao (bsR c xs d ys).length cap], .int .i64 (bsK c xs d ys)]) ∧ IOwn w' w.heap.size w'.heap.size (.slice ao (bsR c xs d ys).length cap) (bsR c xs d ys) ∧ Below w.heap.size w w' := by
  obtain ⟨wb, hwb, hz3, hb0, hX⟩ := box3 w c d f u
  have HB0 := hid hb0
  have HX := hid hX
  have HA := hid (ha.below hb0)
  have HU := hid (hb.below hb0)
  have HQ := hid hq
  have HQ2 := hid hq2
  have HWb := hid hwb
  have HV1 := hid (fun W (b : Below (w.heap.size + 3) wb W) => kn.specOk15 c xs f B w.heap.size W (by have := b.size; omega) (hX W b).1 (hX W b).2.1 (((HA.out.below (by rw [hz3]; exact b))).infs) (by have := b.size; have := hb0.size; omega) hq)
  have HV2 := hid (fun W (b : Below (w.heap.size + 3) wb W) => kn.specOk15 d ys u B (w.heap.size + 1) W (by have := b.size; omega) (hX W b).2.2.1 (hX W b).2.2.2.1 (((HU.out.below (by rw [hz3]; exact b))).infs) (by have := b.size; have := hb0.size; omega) hq2)
  have HO1 := hid (fun W (b : Below (w.heap.size + 3) wb W) => specOwn c xs f B w.heap.size W (by have := b.size; omega) (hX W b).1 (hX W b).2.1 (HA.out.below (by rw [hz3]; exact b)) (by have := b.size; have := hb0.size; omega) hq)
  have HK := hid (show bsK c xs d ys = if chB c xs && chB d ys then (if allY xs ys then (if chB (c + d) (joinL xs ys) then 0 else 5) else 6) else 1 from rfl)
  have HNone := hid (fun (w' : World) (k : Int) h h0 b => @bs_none w w' c d xs ys k h h0 b)
  have HL1 := hid (fun h => @ch_len c xs h)
  have HL2 := hid (fun h => @ch_len d ys h)
  obtain ⟨ao, cap, hv⟩ := infs_val ha.infs
  obtain ⟨ao2, cap2, hv2⟩ := infs_val hb.infs
  clear ha hb hb0 hX hq hq2
  obtain ⟨n, hnn⟩ : ∃ n, n = xs.length := ⟨_, rfl⟩
  obtain ⟨m, hmm⟩ : ∃ m, m = ys.length := ⟨_, rfl⟩
  rw [← hnn] at hv HL1
  rw [← hmm] at hv2 HL2
  have HN := hid hnn
  have HM := hid hmm
  clear hnn hmm
  subst hv hv2
  obtain ⟨q1, hq1⟩ : ∃ q, q = chB c xs := ⟨_, rfl⟩
  obtain ⟨q2, hq2⟩ : ∃ q, q = chB d ys := ⟨_, rfl⟩
  have HQ1 := hid hq1
  have HQq2 := hid hq2
  rw [← hq1] at HV1 HK HL1
  rw [← hq2] at HV2 HK HL2
  have b00 : Below (w.heap.size + 3) wb wb := Below.refl _ _
  have HV10 := hid (HV1.out wb b00)
  rw [hwb] at HV10
  clear hq1 hq2 b00 hwb
  cases q1 with
  | false =>
    go_enter Tryd.func12, Tryd.ntmps12
    go_wp2_with fail
    refine HV10.out.mono ?_
    rintro e w1 ⟨rfl, b1⟩
    have bw1 : Below (w.heap.size + 3) wb w1 := by rw [← HWb.out, hz3] at b1; exact b1
    obtain ⟨_, _, _, _, r0, r1, z0, z1⟩ := HX.out w1 bw1
    have HBz := hid (HB0.out.trans (bw1.mono (by omega)))
    clear b1 bw1
    go_wp2
    refine bodyPost_ret (v := .tuple #[.agg #[.int .i64 0, .slice none 0 0], .int .i64 1]) (by simp [results, Tryd.results12, go_sem, r0, r1]) rfl ?_
    exact HNone.out _ 1 (by rw [HK.out]; rfl) (by decide) ((HBz.out.setCell (by show w.heap.size ≤ w.heap.size + 2; omega) _).setCell (by show w.heap.size ≤ w.heap.size + 2; omega) _)
  | true =>
    have hl1 := HL1.out (by trivial)
    clear HL1
    cases q2 with
    | false =>
      go_enter Tryd.func12, Tryd.ntmps12
      go_wp2_with fail
      refine HV10.out.mono ?_
      rintro e w1 ⟨rfl, b1⟩
      have bw1 : Below (w.heap.size + 3) wb w1 := by rw [← HWb.out, hz3] at b1; exact b1
      have HBw1 := hid bw1
      have HV2' := hid (HV2.out w1 bw1)
      clear b1 bw1
      go_wp2_with fail
      refine HV2'.out.mono ?_
      rintro e w2 ⟨rfl, b2⟩
      have bw2 : Below (w.heap.size + 3) wb w2 := HBw1.out.trans (b2.mono (by rw [← hz3]; exact HBw1.out.size))
      obtain ⟨_, _, _, _, r0, r1, z0, z1⟩ := HX.out w2 bw2
      have HBz := hid (HB0.out.trans (bw2.mono (by omega)))
      clear b2 bw2
      go_wp2
      refine bodyPost_ret (v := .tuple #[.agg #[.int .i64 0, .slice none 0 0], .int .i64 1]) (by simp [results, Tryd.results12, go_sem, r0, r1]) rfl ?_
      exact HNone.out _ 1 (by rw [HK.out]; rfl) (by decide) ((HBz.out.setCell (by show w.heap.size ≤ w.heap.size + 2; omega) _).setCell (by show w.heap.size ≤ w.heap.size + 2; omega) _)
    | true =>
      have hl2 := HL2.out (by trivial)
      have HKK : Hid (bsK c xs d ys = if allY xs ys then (if chB (c + d) (joinL xs ys) then 0 else 5) else 6) := hid (by rw [HK.out]; rfl)
      have hcd : IntKind.i64.wrap (c + d) = c + d := by
        have h1 := HQ1.out
        have h2 := HQq2.out
        simp only [chB] at h1 h2
        have h3 := (Bool.and_eq_true _ _).mp h1.symm
        have h4 := (Bool.and_eq_true _ _).mp h2.symm
        have h5 := of_decide_eq_true h3.1
        have h6 := of_decide_eq_true h4.1
        exact IntWalk.i64_in _ (by omega)
      clear HK HL2
      go_enter Tryd.func12, Tryd.ntmps12
      go_wp2_with fail
      refine HV10.out.mono ?_
      rintro e w1 ⟨rfl, b1⟩
      have bw1 : Below (w.heap.size + 3) wb w1 := by rw [← HWb.out, hz3] at b1; exact b1
      have HBw1 := hid bw1
      have HV2' := hid (HV2.out w1 bw1)
      clear b1 bw1
      go_wp2_with fail
      refine HV2'.out.mono ?_
      rintro e w2 ⟨rfl, b2⟩
      have bw2 : Below (w.heap.size + 3) wb w2 := HBw1.out.trans (b2.mono (by rw [← hz3]; exact HBw1.out.size))
      have HBw2 := hid bw2
      have hz23 : w.heap.size + 3 ≤ w2.heap.size := by have := bw2.size; omega
      obtain ⟨a0, a1, a2, a3, r0, r1, z0, z1⟩ := HX.out w2 bw2
      have HBz := hid (HB0.out.trans (bw2.mono (by omega)))
      clear b2 bw2
      by_cases hnm : n = m
      · have hnmb : ((n : Int) != (m : Int)) = false := by simp [hnm]
        subst hnm
        have HO1' := hid (HO1.out w2 HBw2.out)
        go_wp2_with fail
        refine HO1'.out.mono ?_
        rintro e w4 ⟨z, L, rfl, rw4, hm4, b4⟩
        have HO := hid rw4
        obtain ⟨az, cz, hvz⟩ := rw4.val
        have hLl : L.length = n := by rw [HN.out, ← hm4, List.length_map]
        have hLp : 0 < L.length := by rw [hLl]; exact hl1.1
        obtain ⟨bb, cz2, hva, _⟩ := rw_addr rw4 hLp
        rw [hLl] at hva
        have HMX := hid (mw_box (c + d) rw4 b4)
        have HM4 := hid hm4
        have bw4 : Below (w.heap.size + 3) wb w4 := HBw2.out.trans (b4.mono hz23)
        have bA : Below (w.heap.size + 3) wb (w4.alloc (.cells #[.int .i64 c, z] 28)) := bw4.alloc (by have := b4.size; omega) _
        have hg2 : w2.heap.size ≤ w4.heap.size := b4.size
        have n0 : (w4.alloc (.cells #[.int .i64 c, z] 28)).cell? ⟨w4.heap.size, 0, none⟩ = some (.int .i64 c) := World.cell?_alloc_at _ _ _ _ rfl
        clear a0 a1 a2 a3 r0 r1 z0 z1 hvz hLp HO rw4 hm4 b4 bw4 hLl
        subst hva
        obtain ⟨a0, a1, a2, a3, _, _, _, _⟩ := HX.out _ bA
        clear bA
        go_wp2
        clear a0 a1 a2 a3 n0
        go_loopw [7] (fun i wr => ∃ (k : Nat) (L : List Rw), k ≤ n ∧ i = .int .i64 k ∧ MW w2 wr (c + d) w4.heap.size (.slice (some ⟨bb, 0, none⟩) n cz2) L ∧ L.map Rw.r = joinTo xs ys k ∧ ∀ j, j < k → yq (xs.getD j iz) (ys.getD j iz) = true) (fun i _ => n - (intOf i).toNat)
        case atStart => exact ⟨0, L, Nat.zero_le _, rfl, HMX.out, by rw [HM4.out, joinTo_zero], fun j hj => absurd hj (by omega)⟩
        case round =>
          obtain ⟨k, L, hk, rfl, hmw, hmap, hyq⟩ := hrel
          have HMW := hid hmw
          have HMp := hid hmap
          have HY := hid hyq
          have bwr : Below (w.heap.size + 3) wb wr := HBw2.out.trans (hmw.bl.mono hz23)
          have HBwr := hid bwr
          have hzr : w2.heap.size ≤ wr.heap.size := hmw.bl.size
          obtain ⟨a0, a1, a2, a3, r0, r1, z0, z1⟩ := HX.out wr bwr
          clear hmw hmap hyq bwr HMX
          by_cases hlt : k < n
          · have hd1 : decide ((k : Int) < (n : Int)) = true := decide_eq_true (by omega)
            have hA2 := HA.out.below (by rw [hz3]; exact HBwr.out)
            have hU2 := HU.out.below (by rw [hz3]; exact HBwr.out)
            rcases hA2 with ⟨h0, _⟩ | ⟨hp, b1, o1, cp1, F, hv1, hb1, hc1⟩
            · rw [h0] at HN; have := HN.out; simp at this; omega
            rcases hU2 with ⟨h0, _⟩ | ⟨hp2, b2, o2, cp2, G, hv2, hb2, hc2⟩
            · rw [h0] at HM; have := HM.out; simp at this; omega
            rw [← HN.out] at hv1 hc1
            rw [← HM.out] at hv2 hc2
            simp only [Value.slice.injEq] at hv1 hv2
            obtain ⟨rfl, _, rfl⟩ := hv1
            obtain ⟨rfl, _, rfl⟩ := hv2
            obtain ⟨hA, hI, hNl⟩ := hc1 k hlt
            obtain ⟨hA', hI', hNl'⟩ := hc2 k hlt
            have p0 := hA.c0
            have p1 := hA.c1
            have s0 := hA'.c0
            have s1 := hA'.c1
            have s2 := hA'.c2
            obtain ⟨x, hx⟩ : ∃ x, x = xs.getD k iz := ⟨_, rfl⟩
            obtain ⟨y, hy⟩ : ∃ y, y = ys.getD k iz := ⟨_, rfl⟩
            rw [← hx] at p0 p1 hI
            rw [← hy] at s0 s1 hI'
            have HXx := hid hx
            have HYy := hid hy
            have HI' := hid hI'
            have HNl' := hid hNl'
            obtain ⟨a9, c9, hv9⟩ := ints_val hI'
            have hk0 : (0 : Int) ≤ (k : Int) := by omega
            have hkn : (k : Int) < (n : Int) := by omega
            clear hA hA' hI hI' hNl hNl' hc1 hc2 hp hp2 hx hy
            generalize G k = gy at *
            by_cases e0 : x.a0 = y.a0
            · have e0b : (x.a0 != y.a0) = false := by simp [e0]
              by_cases e1 : x.a1 = y.a1
              · have e1b : (x.a1 != y.a1) = false := by simp [e1]
                have hyk : yq (xs.getD k iz) (ys.getD k iz) = true := by rw [← HXx.out, ← HYy.out, yq]; simp [e0, e1]
                have HYk := hid hyk
                clear hyk e0 e1
                go_upto_region 10 with fail
                go_region_held3 (fun w' => w'.cell? ⟨w.heap.size, 1, none⟩ = some (.slice (some ⟨b1, o1, none⟩) n cap) ∧ w'.cell? ⟨w.heap.size + 1, 1, none⟩ = some (.slice (some ⟨b2, o2, none⟩) n cap2) ∧ w'.cell? ⟨b1, o1 + k * 3, none⟩ = some (.int .i64 x.a0) ∧ w'.cell? ⟨b1, o1 + k * 3 + 1, none⟩ = some (.int .i64 x.a1) ∧ w'.cell? ⟨b2, o2 + k * 3, none⟩ = some (.int .i64 y.a0) ∧ w'.cell? ⟨b2, o2 + k * 3 + 1, none⟩ = some (.int .i64 y.a1)) (exact ⟨a1, a3, p0, p1, s0, s1⟩) (fail)
                go_wp2_with fail
                have HMD := hid (HMW.out.below (((Below.refl wr.heap.size wr).drew).drew))
                have hLn : L.length = n := by rw [← List.length_map (f := Rw.r), HMp.out, joinTo_len, HN.out]
                have hkL : k < L.length := by omega
                have hxs : k < xs.length := by rw [← HN.out]; exact hlt
                have hrk : (L.getD k dz).r = x := by
                  rw [← map_at L k hkL, HMp.out, joinTo_at _ _ _ _ hxs, if_neg (Nat.lt_irrefl k), HXx.out]
                obtain ⟨Lo, Hi, hels⟩ := HMD.out.sr.els
                obtain ⟨ok, lok, gk, _, gbk⟩ := hels k hkL
                rw [hrk] at ok
                have HOk := hid ok
                have HEls := hid hels
                have HRk := hid hrk
                have HkL := hid hkL
                have hrc := HMD.out.sr.row.cells (g := bb) rfl (k * 3 + 2) _ (flatW_at L k hkL).2.2
                rw [Addr.add_lit, Nat.zero_add] at hrc
                obtain ⟨f8, hf8⟩ : ∃ f8, f8 = (L.getD k dz).f := ⟨_, rfl⟩
                rw [← hf8] at ok hrc
                have HF8 := hid hf8
                have HO8 := hid (ok.lo lok)
                obtain ⟨a8, c8, hv8⟩ := own_val ok
                have hx16 : x.ps.length ≤ 16 := by rw [HXx.out]; exact ch_short HQ1.out.symm k hxs
                have hy16 : y.ps.length ≤ 16 := by rw [HYy.out]; exact ch_short HQq2.out.symm k (by rw [← HM.out]; exact hlt)
                have HFz := hid (show (wr.drew.drew).frozen? ⟨bb, k * 3 + 2, none⟩ = false from by have h := HMD.out.sr.row; rw [hLn] at h; exact h.frozenAt (k * 3 + 2))
                have HXl := hid (show x.ps.length + y.ps.length ≤ 1048576 by omega)
                obtain ⟨m8, hm8⟩ : ∃ m8, m8 = x.ps.length := ⟨_, rfl⟩
                obtain ⟨m9, hm9⟩ : ∃ m9, m9 = y.ps.length := ⟨_, rfl⟩
                rw [← hm8] at hv8
                rw [← hm9] at hv9
                clear hels ok lok gk gbk hrk hkL hxs hf8 hm8 hm9 hLn p0 p1 s0 s1
                subst hv8
                subst hv9
                have g1 := HMW.out.c1
                have hbB : b2 < w.heap.size := by omega
                refine ls.wp_region_last2 (S := (fun w' => w'.cell? ⟨w4.heap.size, 1, none⟩ = some (.slice (some ⟨bb, 0, none⟩) n cz2) ∧ w'.cell? ⟨w.heap.size + 1, 1, none⟩ = some (.slice (some ⟨b2, o2, none⟩) n cap2) ∧ w'.cell? ⟨bb, k * 3 + 2, none⟩ = some (.slice a8 m8 c8) ∧ w'.cell? ⟨b2, o2 + k * 3 + 2, none⟩ = some (.slice a9 m9 c9))) 18 (by kernel_rfl) (by kernel_rfl) (by kernel_rfl) (by kernel_rfl) ?_ (fun hHeld => ?_)
                · exact ⟨g1, a3, hrc, s2⟩
                refine wpAnyH_take (i := 0) (oi := { dst := some 66, op := Op.fieldAddr 28 (Operand.tmp 6) 1, type := 0, pos := "l15_charts.go:267", after := #[], guard := none }) (v := ?_) rfl (by kernel_rfl) (by kernel_rfl) (by kernel_rfl) (fun _ _ _ h => h) (Or.inl ⟨by rfl, ?_⟩) (by assumption) ?_
                rotate_left
                · (intro w hSw; (try dsimp only at hSw); go_simp; try with_reducible rfl)
                try simp only [Act.put, List.setIfInBounds_toArray, List.set_cons_zero, List.set_cons_succ]
                refine wpAnyH_take (i := 1) (oi := { dst := some 67, op := Op.load 26 (Operand.tmp 66), type := 26, pos := "l15_charts.go:267", after := #[{ on := 0, ground := Ground.data }], guard := none }) (v := ?_) rfl (by kernel_rfl) (by kernel_rfl) (by kernel_rfl) (fun _ _ _ h => h) (Or.inl ⟨by rfl, ?_⟩) (by assumption) ?_
                rotate_left
                · (intro w hSw; (try dsimp only at hSw); go_simp; try with_reducible rfl)
                try simp only [Act.put, List.setIfInBounds_toArray, List.set_cons_zero, List.set_cons_succ]
                refine wpAnyH_take (i := 2) (oi := { dst := some 68, op := Op.move (Operand.tmp 7), type := 3, pos := "l15_charts.go:267", after := #[], guard := none }) (v := ?_) rfl (by kernel_rfl) (by kernel_rfl) (by kernel_rfl) (fun _ _ _ h => h) (Or.inl ⟨by rfl, ?_⟩) (by assumption) ?_
                rotate_left
                · (intro w hSw; (try dsimp only at hSw); go_simp; try with_reducible rfl)
                try simp only [Act.put, List.setIfInBounds_toArray, List.set_cons_zero, List.set_cons_succ]
                refine wpAnyH_take (i := 3) (oi := { dst := some 69, op := Op.fieldAddr 28 (Operand.tmp 6) 1, type := 0, pos := "l15_charts.go:267", after := #[], guard := none }) (v := ?_) rfl (by kernel_rfl) (by kernel_rfl) (by kernel_rfl) (fun _ _ _ h => h) (Or.inl ⟨by rfl, ?_⟩) (by assumption) ?_
                rotate_left
                · (intro w hSw; (try dsimp only at hSw); go_simp; try with_reducible rfl)
                try simp only [Act.put, List.setIfInBounds_toArray, List.set_cons_zero, List.set_cons_succ]
                refine wpAnyH_take (i := 4) (oi := { dst := some 70, op := Op.load 26 (Operand.tmp 69), type := 26, pos := "l15_charts.go:267", after := #[{ on := 3, ground := Ground.data }], guard := none }) (v := ?_) rfl (by kernel_rfl) (by kernel_rfl) (by kernel_rfl) (fun _ _ _ h => h) (Or.inl ⟨by rfl, ?_⟩) (by assumption) ?_
                rotate_left
                · (intro w hSw; (try dsimp only at hSw); go_simp; try with_reducible rfl)
                try simp only [Act.put, List.setIfInBounds_toArray, List.set_cons_zero, List.set_cons_succ]
                refine wpAnyH_take (i := 5) (oi := { dst := some 71, op := Op.move (Operand.tmp 7), type := 3, pos := "l15_charts.go:267", after := #[], guard := none }) (v := ?_) rfl (by kernel_rfl) (by kernel_rfl) (by kernel_rfl) (fun _ _ _ h => h) (Or.inl ⟨by rfl, ?_⟩) (by assumption) ?_
                rotate_left
                · (intro w hSw; (try dsimp only at hSw); go_simp; try with_reducible rfl)
                try simp only [Act.put, List.setIfInBounds_toArray, List.set_cons_zero, List.set_cons_succ]
                refine wpAnyH_take (i := 6) (oi := { dst := some 72, op := Op.indexAddr 26 (Operand.tmp 70) (Operand.tmp 71), type := 0, pos := "l15_charts.go:267", after := #[{ on := 4, ground := Ground.data }, { on := 5, ground := Ground.data }], guard := none }) (v := ?_) rfl (by kernel_rfl) (by kernel_rfl) (by kernel_rfl) (fun _ _ _ h => h) (Or.inl ⟨by rfl, ?_⟩) (by assumption) ?_
                rotate_left
                · (intro w hSw; (try dsimp only at hSw); go_simp; try with_reducible rfl)
                try simp only [Act.put, List.setIfInBounds_toArray, List.set_cons_zero, List.set_cons_succ]
                refine wpAnyH_take (i := 7) (oi := { dst := some 73, op := Op.fieldAddr 50 (Operand.tmp 72) 2, type := 0, pos := "l15_charts.go:267", after := #[{ on := 6, ground := Ground.data }], guard := none }) (v := ?_) rfl (by kernel_rfl) (by kernel_rfl) (by kernel_rfl) (fun _ _ _ h => h) (Or.inl ⟨by rfl, ?_⟩) (by assumption) ?_
                rotate_left
                · (intro w hSw; (try dsimp only at hSw); go_simp; try with_reducible rfl)
                try simp only [Act.put, List.setIfInBounds_toArray, List.set_cons_zero, List.set_cons_succ]
                refine wpAnyH_take (i := 8) (oi := { dst := some 74, op := Op.load 48 (Operand.tmp 73), type := 48, pos := "l15_charts.go:267", after := #[{ on := 7, ground := Ground.data }], guard := none }) (v := ?_) rfl (by kernel_rfl) (by kernel_rfl) (by kernel_rfl) (fun _ _ _ h => h) (Or.inl ⟨by rfl, ?_⟩) (by assumption) ?_
                rotate_left
                · (intro w hSw; (try dsimp only at hSw); go_simp; try with_reducible rfl)
                try simp only [Act.put, List.setIfInBounds_toArray, List.set_cons_zero, List.set_cons_succ]
                refine wpAnyH_take (i := 9) (oi := { dst := some 75, op := Op.fieldAddr 28 (Operand.tmp 3) 1, type := 0, pos := "l15_charts.go:267", after := #[], guard := none }) (v := ?_) rfl (by kernel_rfl) (by kernel_rfl) (by kernel_rfl) (fun _ _ _ h => h) (Or.inl ⟨by rfl, ?_⟩) (by assumption) ?_
                rotate_left
                · (intro w hSw; (try dsimp only at hSw); go_simp; try with_reducible rfl)
                try simp only [Act.put, List.setIfInBounds_toArray, List.set_cons_zero, List.set_cons_succ]
                refine wpAnyH_take (i := 10) (oi := { dst := some 76, op := Op.load 26 (Operand.tmp 75), type := 26, pos := "l15_charts.go:267", after := #[{ on := 9, ground := Ground.data }], guard := none }) (v := ?_) rfl (by kernel_rfl) (by kernel_rfl) (by kernel_rfl) (fun _ _ _ h => h) (Or.inl ⟨by rfl, ?_⟩) (by assumption) ?_
                rotate_left
                · (intro w hSw; (try dsimp only at hSw); go_simp; try with_reducible rfl)
                try simp only [Act.put, List.setIfInBounds_toArray, List.set_cons_zero, List.set_cons_succ]
                refine wpAnyH_take (i := 11) (oi := { dst := some 77, op := Op.move (Operand.tmp 7), type := 3, pos := "l15_charts.go:267", after := #[], guard := none }) (v := ?_) rfl (by kernel_rfl) (by kernel_rfl) (by kernel_rfl) (fun _ _ _ h => h) (Or.inl ⟨by rfl, ?_⟩) (by assumption) ?_
                rotate_left
                · (intro w hSw; (try dsimp only at hSw); go_simp; try with_reducible rfl)
                try simp only [Act.put, List.setIfInBounds_toArray, List.set_cons_zero, List.set_cons_succ]
                refine wpAnyH_take (i := 12) (oi := { dst := some 78, op := Op.indexAddr 26 (Operand.tmp 76) (Operand.tmp 77), type := 0, pos := "l15_charts.go:267", after := #[{ on := 10, ground := Ground.data }, { on := 11, ground := Ground.data }], guard := none }) (v := ?_) rfl (by kernel_rfl) (by kernel_rfl) (by kernel_rfl) (fun _ _ _ h => h) (Or.inl ⟨by rfl, ?_⟩) (by assumption) ?_
                rotate_left
                · (intro w hSw; (try dsimp only at hSw); go_simp; try with_reducible rfl)
                try simp only [Act.put, List.setIfInBounds_toArray, List.set_cons_zero, List.set_cons_succ]
                refine wpAnyH_take (i := 13) (oi := { dst := some 79, op := Op.fieldAddr 50 (Operand.tmp 78) 2, type := 0, pos := "l15_charts.go:267", after := #[{ on := 12, ground := Ground.data }], guard := none }) (v := ?_) rfl (by kernel_rfl) (by kernel_rfl) (by kernel_rfl) (fun _ _ _ h => h) (Or.inl ⟨by rfl, ?_⟩) (by assumption) ?_
                rotate_left
                · (intro w hSw; (try dsimp only at hSw); go_simp; try with_reducible rfl)
                try simp only [Act.put, List.setIfInBounds_toArray, List.set_cons_zero, List.set_cons_succ]
                refine wpAnyH_take (i := 14) (oi := { dst := some 80, op := Op.load 48 (Operand.tmp 79), type := 48, pos := "l15_charts.go:267", after := #[{ on := 13, ground := Ground.data }], guard := none }) (v := ?_) rfl (by kernel_rfl) (by kernel_rfl) (by kernel_rfl) (fun _ _ _ h => h) (Or.inl ⟨by rfl, ?_⟩) (by assumption) ?_
                rotate_left
                · (intro w hSw; (try dsimp only at hSw); go_simp; try with_reducible rfl)
                try simp only [Act.put, List.setIfInBounds_toArray, List.set_cons_zero, List.set_cons_succ]
                refine wpAnyH_ready (rs := [15]) (by kernel_rfl) (by simp) ?_
                refine AllReadyH.cons (o := { dst := some 81, op := Op.call { callee := Callee.builtin Builtin.append, args := #[Operand.tmp 74, Operand.tmp 80], argTypes := #[48, 48] }, type := 48, pos := "l15_charts.go:267", after := #[{ on := 8, ground := Ground.data }, { on := 14, ground := Ground.data }], guard := none }) rfl (fun K hK => ?_) AllReadyH.nil
                refine step_appI rfl _ _ rfl w2.heap.size (Hi k) (.slice a8 m8 c8) x.ps HO8.out rfl (.slice a9 m9 c9) y.ps B ((HI'.out.chg (Chg.ofBelow (lo := 0) ((Below.refl wr.heap.size wr).drew)) (.inr (Nat.zero_le _))).chg (Chg.ofBelow (lo := 0) ((Below.refl wr.drew.heap.size wr.drew).drew)) (.inr (Nat.zero_le _))) HNl'.out rfl hzr HXl.out ?_
                intro v9 w9 hr9 hg9 h59
                obtain ⟨hm9, hbb9, hgg9, hB9⟩ := HMD.out.put HEls.out HkL.out hr9 (by rw [← HF8.out]; exact hg9) (by rw [← HF8.out]; exact h59)
                have own9 : sl.Own w9 w2.heap.size w9.heap.size v9 (x.ps ++ y.ps) := ⟨hr9, fun q hq => (hr9.lt q hq).2, Nat.le_refl _⟩
                obtain ⟨a7, c7, hv7⟩ := own_val own9
                obtain ⟨m7, hm7⟩ : ∃ m7, m7 = (x.ps ++ y.ps).length := ⟨_, rfl⟩
                rw [← hm7] at hv7
                have bw9 : Below (w.heap.size + 3) wb w9 := HBw2.out.trans (hB9.mono hz23)
                have t1 : w9.cell? ⟨w4.heap.size, 1, none⟩ = some (.slice (some ⟨bb, 0, none⟩) n cz2) := (World.cell?_of_block (a := ⟨w4.heap.size, 1, none⟩) hgg9).trans g1
                have t2 : w9.cell? ⟨w.heap.size + 1, 1, none⟩ = some (.slice (some ⟨b2, o2, none⟩) n cap2) := (HX.out w9 bw9).2.2.2.1
                have t3 : w9.cell? ⟨bb, k * 3 + 2, none⟩ = some (.slice a8 m8 c8) := (World.cell?_of_block (a := ⟨bb, k * 3 + 2, none⟩) hbb9).trans hrc
                have t4 : w9.cell? ⟨b2, o2 + k * 3 + 2, none⟩ = some (.slice a9 m9 c9) := by
                  have hb2w : b2 < w2.heap.size := by omega
                  have e1 := hB9.cell (p := ⟨b2, o2 + k * 3 + 2, none⟩) hb2w
                  have e2 := HMW.out.bl.cell (p := ⟨b2, o2 + k * 3 + 2, none⟩) hb2w
                  exact e1.trans (e2.symm.trans s2)
                have t5 : w9.frozen? ⟨bb, k * 3 + 2, none⟩ = false := (World.frozen?_of_block (a := ⟨bb, k * 3 + 2, none⟩) hbb9).trans HFz.out
                have HM9 := hid hm9
                clear hr9 hg9 h59 hm9 hbb9 hgg9 hB9 own9 hm7 bw9
                subst hv7
                refine hK.out _ _ ?_ (fun hHeld => ?_)
                · exact ⟨t1, t2, t3, t4⟩
                clear hK K
                try simp only [Act.put, List.setIfInBounds_toArray, List.set_cons_zero, List.set_cons_succ]
                refine wpAnyH_take (i := 16) (oi := { dst := some 82, op := Op.indexAddr 26 (Operand.tmp 67) (Operand.tmp 68), type := 0, pos := "l15_charts.go:267", after := #[{ on := 1, ground := Ground.data }, { on := 2, ground := Ground.data }, { on := 0, ground := Ground.phase }, { on := 1, ground := Ground.phase }, { on := 2, ground := Ground.phase }, { on := 3, ground := Ground.phase }, { on := 4, ground := Ground.phase }, { on := 5, ground := Ground.phase }, { on := 6, ground := Ground.phase }, { on := 7, ground := Ground.phase }, { on := 8, ground := Ground.phase }, { on := 9, ground := Ground.phase }, { on := 10, ground := Ground.phase }, { on := 11, ground := Ground.phase }, { on := 12, ground := Ground.phase }, { on := 13, ground := Ground.phase }, { on := 14, ground := Ground.phase }, { on := 15, ground := Ground.phase }], guard := none }) (v := ?_) rfl (by kernel_rfl) (by kernel_rfl) (by kernel_rfl) (fun _ _ _ h => h) (Or.inl ⟨by rfl, ?_⟩) (by assumption) ?_
                rotate_left
                · (intro w hSw; (try dsimp only at hSw); go_simp; try with_reducible rfl)
                try simp only [Act.put, List.setIfInBounds_toArray, List.set_cons_zero, List.set_cons_succ]
                refine wpAnyH_take (i := 17) (oi := { dst := some 83, op := Op.fieldAddr 50 (Operand.tmp 82) 2, type := 0, pos := "l15_charts.go:267", after := #[{ on := 16, ground := Ground.data }, { on := 0, ground := Ground.phase }, { on := 1, ground := Ground.phase }, { on := 2, ground := Ground.phase }, { on := 3, ground := Ground.phase }, { on := 4, ground := Ground.phase }, { on := 5, ground := Ground.phase }, { on := 6, ground := Ground.phase }, { on := 7, ground := Ground.phase }, { on := 8, ground := Ground.phase }, { on := 9, ground := Ground.phase }, { on := 10, ground := Ground.phase }, { on := 11, ground := Ground.phase }, { on := 12, ground := Ground.phase }, { on := 13, ground := Ground.phase }, { on := 14, ground := Ground.phase }, { on := 15, ground := Ground.phase }], guard := none }) (v := ?_) rfl (by kernel_rfl) (by kernel_rfl) (by kernel_rfl) (fun _ _ _ h => h) (Or.inl ⟨by rfl, ?_⟩) (by assumption) ?_
                rotate_left
                · (intro w hSw; (try dsimp only at hSw); go_simp; try with_reducible rfl)
                try simp only [Act.put, List.setIfInBounds_toArray, List.set_cons_zero, List.set_cons_succ]
                refine wpAnyH_done (by kernel_rfl) ?_ _
                refine ls.last_run (o := { dst := none, op := Op.store 48 (Operand.tmp 83) (Operand.tmp 81), type := 0, pos := "l15_charts.go:267", after := #[{ on := 17, ground := Ground.data }, { on := 15, ground := Ground.data }, { on := 15, ground := Ground.chain }, { on := 0, ground := Ground.phase }, { on := 1, ground := Ground.phase }, { on := 2, ground := Ground.phase }, { on := 3, ground := Ground.phase }, { on := 4, ground := Ground.phase }, { on := 5, ground := Ground.phase }, { on := 6, ground := Ground.phase }, { on := 7, ground := Ground.phase }, { on := 8, ground := Ground.phase }, { on := 9, ground := Ground.phase }, { on := 10, ground := Ground.phase }, { on := 11, ground := Ground.phase }, { on := 12, ground := Ground.phase }, { on := 13, ground := Ground.phase }, { on := 14, ground := Ground.phase }, { on := 15, ground := Ground.phase }], guard := none }) rfl rfl ?_
                go_simp
                all_goals
                  go_wp2
                  go_roundw
                  case rel => exact ⟨k + 1, _, by omega, by go_num, HM9.out, by rw [List.map_set, HMp.out, joinTo_succ xs ys k (by rw [← HN.out]; exact hlt), HRk.out, ← HXx.out, ← HYy.out]; rfl, fun j hj => by
                    rcases Nat.lt_or_ge j k with h | h
                    · exact HY.out j h
                    · obtain rfl : j = k := by omega
                      exact HYk.out⟩
                  case measure => simp [intOf]; omega
              · have e1b : (x.a1 != y.a1) = true := by simpa using e1
                have hyk : yq (xs.getD k iz) (ys.getD k iz) = false := by rw [← HXx.out, ← HYy.out, yq]; simp [e0, e1]
                have HKf : Hid (bsK c xs d ys = 6) := hid (by rw [HKK.out, allY_no k (by rw [← HN.out]; exact hlt) hyk]; rfl)
                have HBz := hid ((HB0.out.trans (HBwr.out.mono (by omega))).drew)
                clear hyk e0 e1
                go_upto_region 10 with fail
                go_region_held3 (fun w' => w'.cell? ⟨w.heap.size, 1, none⟩ = some (.slice (some ⟨b1, o1, none⟩) n cap) ∧ w'.cell? ⟨w.heap.size + 1, 1, none⟩ = some (.slice (some ⟨b2, o2, none⟩) n cap2) ∧ w'.cell? ⟨b1, o1 + k * 3, none⟩ = some (.int .i64 x.a0) ∧ w'.cell? ⟨b1, o1 + k * 3 + 1, none⟩ = some (.int .i64 x.a1) ∧ w'.cell? ⟨b2, o2 + k * 3, none⟩ = some (.int .i64 y.a0) ∧ w'.cell? ⟨b2, o2 + k * 3 + 1, none⟩ = some (.int .i64 y.a1)) (exact ⟨a1, a3, p0, p1, s0, s1⟩) (fail)
                go_wp2
                refine bodyPost_ret (v := .tuple #[.agg #[.int .i64 0, .slice none 0 0], .int .i64 6]) (by simp [results, Tryd.results12, go_sem, r0, r1]) rfl ?_
                exact HNone.out _ 6 HKf.out (by decide) ((HBz.out.setCell (by show w.heap.size ≤ w.heap.size + 2; omega) _).setCell (by show w.heap.size ≤ w.heap.size + 2; omega) _)
            · have e0b : (x.a0 != y.a0) = true := by simpa using e0
              have hyk : yq (xs.getD k iz) (ys.getD k iz) = false := by rw [← HXx.out, ← HYy.out, yq]; simp [e0]
              have HKf : Hid (bsK c xs d ys = 6) := hid (by rw [HKK.out, allY_no k (by rw [← HN.out]; exact hlt) hyk]; rfl)
              have HBz := hid ((HB0.out.trans (HBwr.out.mono (by omega))).drew)
              clear hyk e0
              go_upto_region 10 with fail
              go_region
              all_goals
                go_wp2
                refine bodyPost_ret (v := .tuple #[.agg #[.int .i64 0, .slice none 0 0], .int .i64 6]) (by simp [results, Tryd.results12, go_sem, r0, r1]) rfl ?_
                exact HNone.out _ 6 HKf.out (by decide) ((HBz.out.setCell (by show w.heap.size ≤ w.heap.size + 2; omega) _).setCell (by show w.heap.size ≤ w.heap.size + 2; omega) _)
          · obtain rfl : k = n := by omega
            have hd1 : decide ((k : Int) < (k : Int)) = false := decide_eq_false (by omega)
            have hJ : joinTo xs ys k = joinL xs ys := by rw [joinL, HN.out]
            have HMj := hid (HMp.out.trans hJ)
            have hall := allY_yes (xs := xs) (ys := ys) (by rw [← HN.out, ← HM.out]) (fun j hj => HY.out j (by rw [HN.out]; exact hj))
            obtain ⟨q3, hq3⟩ : ∃ q, q = chB (c + d) (joinL xs ys) := ⟨_, rfl⟩
            have HKt : Hid (bsK c xs d ys = if q3 = true then 0 else 5) := hid (by rw [HKK.out, if_pos hall, hq3])
            have hsm : Small (joinL xs ys) := small_join HQ.out (fun j hj => ⟨ch_short HQ1.out.symm j hj, ch_short HQq2.out.symm j (by rw [← HM.out, HN.out]; exact hj)⟩) _
            have hinf := HMW.out.sr.rw.iown.infs
            rw [HMj.out] at hinf
            have HV3' := hid (kn.specOk15 (c + d) (joinL xs ys) _ wr.heap.size w4.heap.size wr HMW.out.g1 HMW.out.c0 HMW.out.c1 hinf (Nat.le_refl _) hsm)
            rw [← hq3] at HV3'
            clear hinf hall hJ hq3 hsm r0 r1 z0 z1
            go_wp2_with fail
            refine HV3'.out.mono ?_
            rintro e w10 ⟨rfl, b10⟩
            have HM10 := hid (HMW.out.below b10)
            have bw10 : Below (w.heap.size + 3) wb w10 := HBw2.out.trans (HM10.out.bl.mono hz23)
            obtain ⟨_, _, _, _, r0, r1, z0, z1⟩ := HX.out w10 bw10
            have HBz := hid (HB0.out.trans (bw10.mono (by omega)))
            have m0 := HM10.out.c0
            have m1 := HM10.out.c1
            have hL8 : k = (joinL xs ys).length := by rw [joinL, joinTo_len, HN.out]
            have HL8 := hid hL8
            clear b10 bw10 hL8
            cases q3 with
            | false =>
              go_wp2
              refine bodyPost_ret (v := .tuple #[.agg #[.int .i64 0, .slice none 0 0], .int .i64 5]) (by simp [results, Tryd.results12, go_sem, r0, r1]) rfl ?_
              exact HNone.out _ 5 (by rw [HKt.out]; rfl) (by decide) ((HBz.out.setCell (by show w.heap.size ≤ w.heap.size + 2; omega) _).setCell (by show w.heap.size ≤ w.heap.size + 2; omega) _)
            | true =>
              go_wp2
              refine bodyPost_ret (v := .tuple #[.agg #[.int .i64 (c + d), .slice (some ⟨bb, 0, none⟩) k cz2], .int .i64 0]) (by simp [results, Tryd.results12, go_sem, r0, r1]) rfl ?_
              refine bs_some (by rw [HKt.out]; rfl) HL8.out ?_ ((HBz.out.setCell (by show w.heap.size ≤ w.heap.size + 2; omega) _).setCell (by show w.heap.size ≤ w.heap.size + 2; omega) _)
              have h0 := HM10.out.sr.rw.iown
              rw [HMj.out] at h0
              have h2 := ct.iown_other (ct.iown_other h0 (w.heap.size + 2) 0 (.int .i64 (c + d)) (by omega)) (w.heap.size + 2) 1 (.slice (some ⟨bb, 0, none⟩) k cz2) (by omega)
              have h3 := h2.lo (lo' := w.heap.size) (by omega)
              simpa using h3
      · have hnmb : ((n : Int) != (m : Int)) = true := by simp; omega
        have HKf : Hid (bsK c xs d ys = 6) := hid (by rw [HKK.out, allY_len (by rw [← HN.out, ← HM.out]; exact hnm)]; rfl)
        go_wp2
        refine bodyPost_ret (v := .tuple #[.agg #[.int .i64 0, .slice none 0 0], .int .i64 6]) (by simp [results, Tryd.results12, go_sem, r0, r1]) rfl ?_
        exact HNone.out _ 6 HKf.out (by decide) ((HBz.out.setCell (by show w.heap.size ≤ w.heap.size + 2; omega) _).setCell (by show w.heap.size ≤ w.heap.size + 2; omega) _)
end Go.Proofs.YtbbnheiibkcgiabDoor.cy

/- BesideCharts of the program: its parts. -/
namespace Go.Proofs.YtbbnheiibkcgiabDoor.cy
open Go.RowKit Go.Proofs.YtbbnheiibkcgiabDoor.sl Go.Proofs.YtbbnheiibkcgiabDoor.br Go.Proofs.YtbbnheiibkcgiabDoor.ss Go.Proofs.YtbbnheiibkcgiabDoor.ro Go.Proofs.YtbbnheiibkcgiabDoor.cm Go.Proofs.YtbbnheiibkcgiabDoor.cx
set_option linter.unusedVariables false
set_option linter.unusedSimpArgs false
set_option maxRecDepth 100000

theorem hasYarn (x0 x1 y0 y1 : Int) (ao bo : Option Addr) (n m c c' : Nat) (q : Bool) (hq : ((x0 == y0) && (x1 == y1)) = q) (w : World) :
    Calls Tryd.prog 29 #[.agg #[.int .i64 x0, .int .i64 x1, .slice ao n c], .agg #[.int .i64 y0, .int .i64 y1, .slice bo m c']] w fun e w' => e = .returned (.bool q) ∧ Below w.heap.size w w' := by
  have HB := hid (((Below.refl w.heap.size w).alloc (Nat.le_refl _) (.cells #[.int .i64 x0, .int .i64 x1, .slice ao n c] 50)).alloc (by simp) (.cells #[.int .i64 y0, .int .i64 y1, .slice bo m c'] 50))
  by_cases e0 : x0 = y0
  · have e0b : (x0 == y0) = true := by simpa using e0
    rw [e0b, Bool.true_and] at hq
    have HQ := hid hq
    clear e0 hq
    go_enter Tryd.func29, Tryd.ntmps29
    go_wp2
    go_ret
    exact ⟨by rw [← HQ.out]; rfl, HB.out⟩
  · have e0b : (x0 == y0) = false := by simpa using e0
    rw [e0b, Bool.false_and] at hq
    subst hq
    clear e0
    go_enter Tryd.func29, Tryd.ntmps29
    go_wp2
    go_ret
    exact ⟨rfl, HB.out⟩

set_option maxHeartbeats 4000000 in
theorem beside (x0 x1 y0 y1 : Int) (ps qs : List Int) (f u : Value) (B : Nat) (w : World) (ha : Ints w B f ps) (hnil : fn.NilOk f) (hb : Ints w B u qs) (hnil2 : fn.NilOk u) (hB : B ≤ w.heap.size) (hn : ps.length ≤ 1000) (hm : qs.length ≤ 1000) :
    Calls Tryd.prog 30 #[.agg #[.int .i64 x0, .int .i64 x1, f], .agg #[.int .i64 y0, .int .i64 y1, u]] w fun e w' => ∃ f', e = .returned (.agg #[.int .i64 x0, .int .i64 x1, f']) ∧ sl.Own w' w.heap.size w'.heap.size f' (ps ++ qs) ∧ Below w.heap.size w w' := by
  obtain ⟨wb, hwb⟩ : ∃ wb, wb = ((w.alloc (.cells #[.int .i64 x0, .int .i64 x1, f] 50)).alloc (.cells #[.int .i64 y0, .int .i64 y1, u] 50)).alloc (.cells #[.int .i64 0, .int .i64 0, .slice none 0 0] 50) := ⟨_, rfl⟩
  have hb0 : Below w.heap.size w wb := by rw [hwb]; exact (((Below.refl _ w).alloc (Nat.le_refl _) _).alloc (by simp) _).alloc (by simp; omega) _
  have hz0 : wb.heap.size = w.heap.size + 3 := by rw [hwb]; simp
  have HCc := hid (show Calls Tryd.prog 42 #[.slice (some ⟨w.heap.size + 3, 0, none⟩) 2 2] (wb.alloc (.cells #[f, u] 48)) fun e w' => ∃ v', e = .returned v' ∧ sl.Own w' (w.heap.size + 4) w'.heap.size v' (ps ++ qs) ∧ Below (w.heap.size + 4) (wb.alloc (.cells #[f, u] 48)) w' from by
    have bA := hb0.alloc hb0.size (.cells #[f, u] 48)
    have hza : (wb.alloc (.cells #[f, u] 48)).heap.size = w.heap.size + 4 := by simp [hz0]
    obtain ⟨ao, cap, hv⟩ := ints_val ha
    obtain ⟨bo, cap2, hv2⟩ := ints_val hb
    have h := br.concat [ps, qs] (w.heap.size + 3) 2 B (wb.alloc (.cells #[f, u] 48)) (fun j hj => by
      match j, hj with
      | 0, _ => exact ⟨ao, cap, by show _ = some (Value.slice ao ps.length cap); rw [← hv, ← hz0]; exact World.cell?_alloc_at _ _ _ _ rfl, by show Ints _ B (Value.slice ao ps.length cap) ps; rw [← hv]; exact ha.chg (Chg.ofBelow (lo := 0) bA) (.inr (Nat.zero_le _)), by show fn.NilOk (Value.slice ao ps.length cap); rw [← hv]; exact hnil⟩
      | 1, _ => exact ⟨bo, cap2, by show _ = some (Value.slice bo qs.length cap2); rw [← hv2, ← hz0]; exact World.cell?_alloc_at _ _ _ _ rfl, by show Ints _ B (Value.slice bo qs.length cap2) qs; rw [← hv2]; exact hb.chg (Chg.ofBelow (lo := 0) bA) (.inr (Nat.zero_le _)), by show fn.NilOk (Value.slice bo qs.length cap2); rw [← hv2]; exact hnil2⟩) (by rw [hza]; omega) (by rw [hza]; omega) (by simp) (by simp; omega)
    rw [hza] at h
    simpa using h)
  obtain ⟨ao, cap, hv⟩ := ints_val ha
  obtain ⟨bo, cap2, hv2⟩ := ints_val hb
  have HB0 := hid hb0
  clear ha hb hnil hnil2 hb0
  generalize ps.length = n at *
  generalize qs.length = m at *
  subst hv hv2
  go_enter Tryd.func30, Tryd.ntmps30
  go_wp2_with fail
  rw [hwb] at HCc
  refine HCc.out.mono ?_
  rintro e w1 ⟨v1, rfl, o1, b1⟩
  rw [← hwb] at b1
  have bb1 : Below (w.heap.size + 3) wb w1 := ((Below.refl wb.heap.size wb).alloc (Nat.le_refl _) _ |>.mono (by omega)).trans (b1.mono (by omega))
  have HB1 := hid (HB0.out.trans (bb1.mono (by omega)))
  have c0 : w1.cell? ⟨w.heap.size, 0, none⟩ = some (.int .i64 x0) := (bb1.cell (p := ⟨w.heap.size, 0, none⟩) (by simp)).trans (by rw [hwb]; go_simp)
  have c1 : w1.cell? ⟨w.heap.size, 1, none⟩ = some (.int .i64 x1) := (bb1.cell (p := ⟨w.heap.size, 1, none⟩) (by simp)).trans (by rw [hwb]; go_simp)
  have c2 : w1.cell? ⟨w.heap.size, 2, none⟩ = some (.slice ao n cap) := (bb1.cell (p := ⟨w.heap.size, 2, none⟩) (by simp)).trans (by rw [hwb]; go_simp)
  have c3 : w1.frozen? ⟨w.heap.size, 2, none⟩ = false := (bb1.frozen (p := ⟨w.heap.size, 2, none⟩) (by simp)).trans (by rw [hwb]; go_simp)
  have d0 : w1.cell? ⟨w.heap.size + 2, 0, none⟩ = some (.int .i64 0) := (bb1.cell (p := ⟨w.heap.size + 2, 0, none⟩) (by simp)).trans (by rw [hwb]; go_simp)
  have d1 : w1.cell? ⟨w.heap.size + 2, 1, none⟩ = some (.int .i64 0) := (bb1.cell (p := ⟨w.heap.size + 2, 1, none⟩) (by simp)).trans (by rw [hwb]; go_simp)
  have d2 : w1.cell? ⟨w.heap.size + 2, 2, none⟩ = some (.slice none 0 0) := (bb1.cell (p := ⟨w.heap.size + 2, 2, none⟩) (by simp)).trans (by rw [hwb]; go_simp)
  have e0 : w1.frozen? ⟨w.heap.size + 2, 0, none⟩ = false := (bb1.frozen (p := ⟨w.heap.size + 2, 0, none⟩) (by simp)).trans (by rw [hwb]; go_simp)
  have e1 : w1.frozen? ⟨w.heap.size + 2, 1, none⟩ = false := (bb1.frozen (p := ⟨w.heap.size + 2, 1, none⟩) (by simp)).trans (by rw [hwb]; go_simp)
  have e2 : w1.frozen? ⟨w.heap.size + 2, 2, none⟩ = false := (bb1.frozen (p := ⟨w.heap.size + 2, 2, none⟩) (by simp)).trans (by rw [hwb]; go_simp)
  have O1 := hid o1
  obtain ⟨ao1, cap1, hv1⟩ := own_val o1
  obtain ⟨l1, hl1⟩ : ∃ l1, l1 = (ps ++ qs).length := ⟨_, rfl⟩
  rw [← hl1] at hv1
  clear b1 o1 bb1 hwb hl1
  subst hv1
  go_wp2
  refine bodyPost_ret (v := .agg #[.int .i64 x0, .int .i64 x1, .slice ao1 l1 cap1]) (by simp [results, Tryd.results30, go_sem, d0, d1, d2]) rfl ⟨.slice ao1 l1 cap1, rfl, ?_, ?_⟩
  · have h2 := own_other (own_other (own_other (own_other O1.out w.heap.size 2 (.slice ao1 l1 cap1) (by omega)) (w.heap.size + 2) 0 (.int .i64 x0) (by omega)) (w.heap.size + 2) 1 (.int .i64 x1) (by omega)) (w.heap.size + 2) 2 (.slice ao1 l1 cap1) (by omega)
    have h3 := h2.lo (lo' := w.heap.size) (by omega)
    simpa using h3
  · exact (((HB1.out.setCell (Nat.le_refl _) _).setCell (by show w.heap.size ≤ w.heap.size + 2; omega) _).setCell (by show w.heap.size ≤ w.heap.size + 2; omega) _).setCell (by show w.heap.size ≤ w.heap.size + 2; omega) _
end Go.Proofs.YtbbnheiibkcgiabDoor.cy

/- BesideCharts of the program: slices.EqualFunc of two lists of rows. -/
namespace Go.Proofs.YtbbnheiibkcgiabDoor.cy
open Go.RowKit Go.Proofs.YtbbnheiibkcgiabDoor.sl Go.Proofs.YtbbnheiibkcgiabDoor.br Go.Proofs.YtbbnheiibkcgiabDoor.ss Go.Proofs.YtbbnheiibkcgiabDoor.ro Go.Proofs.YtbbnheiibkcgiabDoor.cm Go.Proofs.YtbbnheiibkcgiabDoor.cx
set_option linter.unusedVariables false
set_option linter.unusedSimpArgs false
set_option maxRecDepth 100000

set_option maxHeartbeats 4000000 in
theorem eqR (xs ys : List V) (f u : Value) (B : Nat) (w : World) (ha : InfsN w B f xs) (hb : InfsN w B u ys) (hB : B ≤ w.heap.size) (hx : 0 < xs.length) (hx8 : xs.length ≤ 8) (hy : 0 < ys.length) (hy8 : ys.length ≤ 8) :
    Calls Tryd.prog 28 #[f, u, .func (.func 29) #[] #[]] w fun e w' => e = .returned (.bool (allY xs ys)) ∧ Below w.heap.size w w' := by
  have HA := hid ha
  have HU := hid hb
  obtain ⟨ao, cap, hv⟩ := infs_val ha.infs
  obtain ⟨ao2, cap2, hv2⟩ := infs_val hb.infs
  clear ha hb
  obtain ⟨n, hnn⟩ : ∃ n, n = xs.length := ⟨_, rfl⟩
  obtain ⟨m, hmm⟩ : ∃ m, m = ys.length := ⟨_, rfl⟩
  rw [← hnn] at hv hx hx8
  rw [← hmm] at hv2 hy hy8
  have HN := hid hnn
  have HM := hid hmm
  clear hnn hmm
  subst hv hv2
  by_cases hnm : n = m
  · have hnmb : ((n : Int) != (m : Int)) = false := by simp [hnm]
    subst hnm
    go_enter Tryd.func28, Tryd.ntmps28
    go_wp2
    go_loopw [17] (fun i wr => ∃ k : Nat, k ≤ n ∧ i = .int .i64 k ∧ Below w.heap.size w wr ∧ ∀ j, j < k → yq (xs.getD j iz) (ys.getD j iz) = true) (fun i _ => n - (intOf i).toNat)
    case atStart => exact ⟨0, Nat.zero_le _, rfl, Below.refl _ _, fun j hj => absurd hj (by omega)⟩
    case round =>
      obtain ⟨k, hk, rfl, hbr, hyq⟩ := hrel
      have HBr := hid hbr
      have HY := hid hyq
      clear hbr hyq
      by_cases hlt : k < n
      · have hd1 : decide ((k : Int) < (n : Int)) = true := decide_eq_true (by omega)
        rcases HA.out.below HBr.out with ⟨h0, _⟩ | ⟨hp, b1, o1, cp1, F, hv1, hb1, hc1⟩
        · rw [h0] at HN; have := HN.out; simp at this; omega
        rcases HU.out.below HBr.out with ⟨h0, _⟩ | ⟨hp2, b2, o2, cp2, G, hv2, hb2, hc2⟩
        · rw [h0] at HM; have := HM.out; simp at this; omega
        rw [← HN.out] at hv1 hc1
        rw [← HM.out] at hv2 hc2
        simp only [Value.slice.injEq] at hv1 hv2
        obtain ⟨rfl, _, rfl⟩ := hv1
        obtain ⟨rfl, _, rfl⟩ := hv2
        obtain ⟨hA, hI, hNl⟩ := hc1 k hlt
        obtain ⟨hA', hI', hNl'⟩ := hc2 k hlt
        have p0 := hA.c0
        have p1 := hA.c1
        have p2 := hA.c2
        have bA := (Below.refl wr.heap.size wr).alloc (Nat.le_refl _) (.cells #[.int .i64 (xs.getD k iz).a0, .int .i64 (xs.getD k iz).a1, F k] 50)
        have hA2 := hA'.below bA
        have s0 := hA2.c0
        have s1 := hA2.c1
        have s2 := hA2.c2
        obtain ⟨x, hx'⟩ : ∃ x, x = xs.getD k iz := ⟨_, rfl⟩
        obtain ⟨y, hy'⟩ : ∃ y, y = ys.getD k iz := ⟨_, rfl⟩
        obtain ⟨a8, c8, hv8⟩ := ints_val hI
        obtain ⟨a9, c9, hv9⟩ := ints_val hI'
        rw [← hx'] at p0 p1 hv8
        rw [← hy'] at s0 s1 hv9
        rw [← hx'] at s0 s1 s2
        obtain ⟨q, hq⟩ : ∃ q, ((x.a0 == y.a0) && (x.a1 == y.a1)) = q := ⟨_, rfl⟩
        have hyk : yq (xs.getD k iz) (ys.getD k iz) = q := by rw [← hx', ← hy', yq, hq]
        have HYk := hid hyk
        generalize F k = fx at *
        generalize G k = gy at *
        generalize x.ps.length = m8 at hv8
        generalize y.ps.length = m9 at hv9
        have HHy := hid (fun W => hasYarn x.a0 x.a1 y.a0 y.a1 a8 a9 m8 m9 c8 c9 q hq W)
        have hk0 : (0 : Int) ≤ (k : Int) := by omega
        have hkn : (k : Int) < (n : Int) := by omega
        have hzr := HBr.out.size
        clear hA hA' hA2 hI hI' hNl hNl' hc1 hc2 hp hp2 hx' hy' bA hyk hq
        subst hv8
        subst hv9
        go_wp2_with fail
        refine (HHy.out _).mono ?_
        rintro e w2 ⟨rfl, b2'⟩
        have HB2 := hid (HBr.out.trans ((((Below.refl wr.heap.size wr).alloc (Nat.le_refl _) _ |>.mono hzr).trans (((Below.refl _ _).alloc (Nat.le_refl _) _).mono (by simp; omega))).trans (b2'.mono (by simp; omega))))
        clear b2'
        cases q
        · have HF := hid (allY_no k (by rw [← HN.out]; exact hlt) HYk.out)
          go_wp2
          go_ret
          exact ⟨by rw [HF.out]; rfl, HB2.out⟩
        · go_wp2
          go_roundw
          case rel => exact ⟨k + 1, by omega, by go_num, HB2.out, fun j hj => by
            rcases Nat.lt_or_ge j k with h | h
            · exact HY.out j h
            · obtain rfl : j = k := by omega
              exact HYk.out⟩
          case measure => simp [intOf]; omega
      · obtain rfl : k = n := by omega
        have hd1 : decide ((k : Int) < (k : Int)) = false := decide_eq_false (by omega)
        have HF := hid (allY_yes (xs := xs) (ys := ys) (by rw [← HN.out, ← HM.out]) (fun j hj => HY.out j (by rw [HN.out]; exact hj)))
        go_wp2
        go_ret
        exact ⟨by rw [HF.out]; rfl, HBr.out⟩
  · have hnmb : ((n : Int) != (m : Int)) = true := by simp; omega
    have HF := hid (allY_len (xs := xs) (ys := ys) (by rw [← HN.out, ← HM.out]; exact hnm))
    go_enter Tryd.func28, Tryd.ntmps28
    go_wp2
    go_ret
    exact ⟨by rw [HF.out]; rfl, Below.refl _ _⟩
end Go.Proofs.YtbbnheiibkcgiabDoor.cy

/- BesideCharts of the program. -/
namespace Go.Proofs.YtbbnheiibkcgiabDoor.cy
open Go.RowKit Go.Proofs.YtbbnheiibkcgiabDoor.sl Go.Proofs.YtbbnheiibkcgiabDoor.br Go.Proofs.YtbbnheiibkcgiabDoor.ss Go.Proofs.YtbbnheiibkcgiabDoor.ro Go.Proofs.YtbbnheiibkcgiabDoor.cm Go.Proofs.YtbbnheiibkcgiabDoor.cx
set_option linter.unusedVariables false
set_option linter.unusedSimpArgs false
set_option maxRecDepth 100000

theorem bs_co {c d : Int} {xs ys : List V} (h1 : chB c xs = true) (h2 : chB d ys = true) (ha : allY xs ys = true) : bsK c xs d ys = coK (c + d) (joinL xs ys) ∧ bsC c xs d ys = coC (c + d) (joinL xs ys) ∧ bsR c xs d ys = coR (c + d) (joinL xs ys) := by
  have hk : bsK c xs d ys = coK (c + d) (joinL xs ys) := by unfold bsK coK; simp [h1, h2, ha]
  refine ⟨hk, ?_, ?_⟩
  · unfold bsC coC
    rw [hk]
    unfold coK
    cases chB (c + d) (joinL xs ys) <;> rfl
  · unfold bsR coR
    rw [hk]
    unfold coK
    cases chB (c + d) (joinL xs ys) <;> rfl
theorem bs_tot (c : Int) (xs : List V) (d : Int) (ys : List V) : Small (bsR c xs d ys) ∧ ss.tot (prs (bsR c xs d ys)) ≤ 1048576 := by
  by_cases h : bsK c xs d ys = 0
  · have e : bsR c xs d ys = coR (c + d) (joinL xs ys) := by
      have hb : chB (c + d) (joinL xs ys) = true := by
        unfold bsK at h
        split at h
        · split at h
          · split at h
            · assumption
            · cases h
          · cases h
        · cases h
      rw [bsR, if_pos h, coR, if_pos hb]
    rw [e]
    exact co_tot _ _
  · rw [bsR, if_neg h]
    exact ⟨⟨by simp, fun j hj => by simp at hj⟩, by simp [ss.tot, ss.pre, prs, ss.lens]⟩
theorem join_take (xs ys : List V) (k : Nat) (hk : k < xs.length) : (joinL xs ys).take (k + 1) = (joinL xs ys).take k ++ [jn (xs.getD k iz) (ys.getD k iz)] := by
  rw [take_succV _ _ (by rw [joinL, joinTo_len]; exact hk)]
  congr 2
  rw [joinL, joinTo_at _ _ _ _ hk, if_pos hk]

set_option maxHeartbeats 8000000 in
theorem implBS (c : Int) (xs : List V) (f : Value) (d : Int) (ys : List V) (u : Value) (B : Nat) (w : World) (ha : InfsN w B f xs) (hb : InfsN w B u ys) (hB : B ≤ w.heap.size) (hq : Small xs) (hq2 : Small ys) (hT : stb.Tab w) :
    Calls Tryd.prog 13 #[.agg #[.int .i64 c, f], .agg #[.int .i64 d, u]] w fun e w' => ∃ ao cap, e = .returned (.tuple #[.agg #[.int .i64 (bsC c xs d ys), .slice ao (bsR c xs d ys).length cap], .int .i64 (bsK c xs d ys)]) ∧ IOwn w' w.heap.size w'.heap.size (.slice ao (bsR c xs d ys).length cap) (bsR c xs d ys) ∧ Below w.heap.size w w' := by
  obtain ⟨wb, hwb, hz3, hb0, hX⟩ := box3 w c d f u
  have HB0 := hid hb0
  have HX := hid hX
  have HA := hid (ha.below hb0)
  have HU := hid (hb.below hb0)
  have HQ := hid hq
  have HQ2 := hid hq2
  have HWb := hid hwb
  have HT := hid (fun W (b : Below (w.heap.size + 3) wb W) => stb.carry hT (hb0.trans (b.mono (by omega))))
  have HV1 := hid (fun W (b : Below (w.heap.size + 3) wb W) => kn.implVC c xs f B W (((HA.out.below (by rw [hz3]; exact b))).infs) (by have := b.size; have := hb0.size; omega) hq (HT.out W b))
  have HV2 := hid (fun W (b : Below (w.heap.size + 3) wb W) => kn.implVC d ys u B W (((HU.out.below (by rw [hz3]; exact b))).infs) (by have := b.size; have := hb0.size; omega) hq2 (HT.out W b))
  have HEq := hid (fun W (b : Below (w.heap.size + 3) wb W) hx hx8 hy hy8 => eqR xs ys f u B W (HA.out.below (by rw [hz3]; exact b)) (HU.out.below (by rw [hz3]; exact b)) (by have := b.size; have := hb0.size; omega) hx hx8 hy hy8)
  have HCo := hid (fun (z : Value) W (b : Below (w.heap.size + 3) wb W) (h : InfsN W W.heap.size z (joinL xs ys)) hs => implCO (c + d) (joinL xs ys) z W.heap.size W h (Nat.le_refl _) hs (HT.out W b))
  have HK := hid (show bsK c xs d ys = if chB c xs && chB d ys then (if allY xs ys then (if chB (c + d) (joinL xs ys) then 0 else 5) else 6) else 1 from rfl)
  have HNone := hid (fun (w' : World) (k : Int) h h0 b => @bs_none w w' c d xs ys k h h0 b)
  have HL1 := hid (fun h => @ch_len c xs h)
  have HL2 := hid (fun h => @ch_len d ys h)
  obtain ⟨ao, cap, hv⟩ := infs_val ha.infs
  obtain ⟨ao2, cap2, hv2⟩ := infs_val hb.infs
  clear ha hb hb0 hX hq hq2 hT
  obtain ⟨n, hnn⟩ : ∃ n, n = xs.length := ⟨_, rfl⟩
  obtain ⟨m, hmm⟩ : ∃ m, m = ys.length := ⟨_, rfl⟩
  rw [← hnn] at hv HL1 HEq
  rw [← hmm] at hv2 HL2 HEq
  have HN := hid hnn
  have HM := hid hmm
  clear hnn hmm
  subst hv hv2
  obtain ⟨q1, hq1⟩ : ∃ q, q = chB c xs := ⟨_, rfl⟩
  obtain ⟨q2, hq2⟩ : ∃ q, q = chB d ys := ⟨_, rfl⟩
  have HQ1 := hid hq1
  have HQq2 := hid hq2
  rw [← hq1] at HV1 HK HL1
  rw [← hq2] at HV2 HK HL2
  have b00 : Below (w.heap.size + 3) wb wb := Below.refl _ _
  have HV10 := hid (HV1.out wb b00)
  rw [hwb] at HV10
  clear hq1 hq2 b00 hwb
  cases q1 with
  | false =>
    go_enter Tryd.func13, Tryd.ntmps13
    go_wp2_with fail
    refine HV10.out.mono ?_
    rintro e w1 ⟨rfl, b1⟩
    have bw1 : Below (w.heap.size + 3) wb w1 := by rw [← HWb.out, hz3] at b1; exact b1
    obtain ⟨_, _, _, _, r0, r1, z0, z1⟩ := HX.out w1 bw1
    have HBz := hid (HB0.out.trans (bw1.mono (by omega)))
    clear b1 bw1
    go_wp2
    refine bodyPost_ret (v := .tuple #[.agg #[.int .i64 0, .slice none 0 0], .int .i64 1]) (by simp [results, Tryd.results13, go_sem, r0, r1]) rfl ?_
    exact HNone.out _ 1 (by rw [HK.out]; rfl) (by decide) ((HBz.out.setCell (by show w.heap.size ≤ w.heap.size + 2; omega) _).setCell (by show w.heap.size ≤ w.heap.size + 2; omega) _)
  | true =>
    have hl1 := HL1.out (by trivial)
    clear HL1
    cases q2 with
    | false =>
      go_enter Tryd.func13, Tryd.ntmps13
      go_wp2_with fail
      refine HV10.out.mono ?_
      rintro e w1 ⟨rfl, b1⟩
      have bw1 : Below (w.heap.size + 3) wb w1 := by rw [← HWb.out, hz3] at b1; exact b1
      have HBw1 := hid bw1
      have HV2' := hid (HV2.out w1 bw1)
      obtain ⟨c0, c1, d0, d1, _, _, _, _⟩ := HX.out w1 bw1
      clear b1 bw1
      go_wp2_with fail
      refine HV2'.out.mono ?_
      rintro e w2 ⟨rfl, b2⟩
      have bw2 : Below (w.heap.size + 3) wb w2 := HBw1.out.trans (b2.mono (by rw [← hz3]; exact HBw1.out.size))
      clear c0 c1 d0 d1
      obtain ⟨_, _, _, _, r0, r1, z0, z1⟩ := HX.out w2 bw2
      have HBz := hid (HB0.out.trans (bw2.mono (by omega)))
      clear b2 bw2
      go_wp2
      refine bodyPost_ret (v := .tuple #[.agg #[.int .i64 0, .slice none 0 0], .int .i64 1]) (by simp [results, Tryd.results13, go_sem, r0, r1]) rfl ?_
      exact HNone.out _ 1 (by rw [HK.out]; rfl) (by decide) ((HBz.out.setCell (by show w.heap.size ≤ w.heap.size + 2; omega) _).setCell (by show w.heap.size ≤ w.heap.size + 2; omega) _)
    | true =>
      have hl2 := HL2.out (by trivial)
      have HKK : Hid (bsK c xs d ys = if allY xs ys then (if chB (c + d) (joinL xs ys) then 0 else 5) else 6) := hid (by rw [HK.out]; rfl)
      have hcd : IntKind.i64.wrap (c + d) = c + d := by
        have h1 := HQ1.out
        have h2 := HQq2.out
        simp only [chB] at h1 h2
        have h3 := (Bool.and_eq_true _ _).mp h1.symm
        have h4 := (Bool.and_eq_true _ _).mp h2.symm
        have h5 := of_decide_eq_true h3.1
        have h6 := of_decide_eq_true h4.1
        exact IntWalk.i64_in _ (by omega)
      clear HK HL2
      go_enter Tryd.func13, Tryd.ntmps13
      go_wp2_with fail
      refine HV10.out.mono ?_
      rintro e w1 ⟨rfl, b1⟩
      have bw1 : Below (w.heap.size + 3) wb w1 := by rw [← HWb.out, hz3] at b1; exact b1
      have HBw1 := hid bw1
      have HV2' := hid (HV2.out w1 bw1)
      obtain ⟨c0, c1, d0, d1, _, _, _, _⟩ := HX.out w1 bw1
      clear b1 bw1
      go_wp2_with fail
      refine HV2'.out.mono ?_
      rintro e w2 ⟨rfl, b2⟩
      have bw2 : Below (w.heap.size + 3) wb w2 := HBw1.out.trans (b2.mono (by rw [← hz3]; exact HBw1.out.size))
      have HBw2 := hid bw2
      have hz23 : w.heap.size + 3 ≤ w2.heap.size := by have := bw2.size; omega
      clear c0 c1 d0 d1
      obtain ⟨a0, a1, a2, a3, r0, r1, z0, z1⟩ := HX.out w2 bw2
      have HBz := hid (HB0.out.trans (bw2.mono (by omega)))
      clear b2 bw2
      have HEq1 := hid (HEq.out w2 HBw2.out hl1.1 hl1.2 hl2.1 hl2.2)
      obtain ⟨q3, hq3⟩ : ∃ q, q = allY xs ys := ⟨_, rfl⟩
      rw [← hq3] at HEq1 HKK
      have HQ3 := hid hq3
      clear hq3 HEq
      go_wp2_with fail
      refine HEq1.out.mono ?_
      rintro e w3 ⟨rfl, b3⟩
      have bw3 : Below (w.heap.size + 3) wb w3 := HBw2.out.trans (b3.mono (by omega))
      have HBw3 := hid bw3
      have hz33 : w.heap.size + 3 ≤ w3.heap.size := by have := bw3.size; omega
      clear a0 a1 a2 a3 r0 r1 z0 z1 HBz b3
      obtain ⟨a0, a1, a2, a3, r0, r1, z0, z1⟩ := HX.out w3 bw3
      have HBz := hid (HB0.out.trans (bw3.mono (by omega)))
      clear bw3
      cases q3 with
      | false =>
        have HKf : Hid (bsK c xs d ys = 6) := hid (by rw [HKK.out]; rfl)
        go_wp2
        refine bodyPost_ret (v := .tuple #[.agg #[.int .i64 0, .slice none 0 0], .int .i64 6]) (by simp [results, Tryd.results13, go_sem, r0, r1]) rfl ?_
        exact HNone.out _ 6 HKf.out (by decide) ((HBz.out.setCell (by show w.heap.size ≤ w.heap.size + 2; omega) _).setCell (by show w.heap.size ≤ w.heap.size + 2; omega) _)
      | true =>
        obtain ⟨hlen, hyy⟩ := allY_parts HQ3.out.symm
        rw [← HN.out, ← HM.out] at hlen
        subst hlen
        obtain ⟨k1, k2, k3⟩ := bs_co HQ1.out.symm HQq2.out.symm HQ3.out.symm
        have HK1 := hid k1
        have HK2 := hid k2
        have HK3 := hid k3
        have hsm : Small (joinL xs ys) := small_join HQ.out (fun j hj => ⟨ch_short HQ1.out.symm j hj, ch_short HQq2.out.symm j (by rw [← HM.out, HN.out]; exact hj)⟩) _
        have HCo1 := hid (fun z W b h => HCo.out z W b h hsm)
        have HSx := hid (fun j hj => ch_short HQ1.out.symm j hj)
        have HSy := hid (fun j hj => ch_short HQq2.out.symm j hj)
        have HTk := hid (fun k hk => join_take xs ys k hk)
        have HJl : Hid ((joinL xs ys).length = n) := hid (by rw [joinL, joinTo_len, HN.out])
        have HJall := hid (List.take_length (l := joinL xs ys))
        clear HKK HCo hsm k1 k2 k3 HNone hyy HQ3
        generalize coK (c + d) (joinL xs ys) = kk at *
        generalize coC (c + d) (joinL xs ys) = kc at *
        generalize coR (c + d) (joinL xs ys) = kr at *
        obtain ⟨i0, hi, hy0, hy1, hy2⟩ := info_parts infoRw
        go_wp2_with (at_make; refine wpList_make_own _ rfl _ _ 26 rfl w3.heap.size 50 i0 (.agg #[.int .i64 0, .int .i64 0, .slice none 0 0]) 3 Tryd.underlying26 hi hy0 hy1 .i64 .i64 _ n rfl rfl (by omega) (by rw [hy2]; omega) (by unfold maxLen; omega) (Nat.le_refl _) ?_; intro W3 hown3 hgrow3; have HB3 := hid (show Below w3.heap.size w3 W3 from ⟨hgrow3.os, hgrow3.tape, hgrow3.output, hgrow3.size, fun q hq => hgrow3.block q hq (by simp)⟩); have HR3 := hid (RG.ofRow (gb := w.heap.size) hown3); have b0' := (HB3.out.cell (p := ⟨w.heap.size, 1, none⟩) (by show w.heap.size < _; omega)).trans a1; clear hown3 hgrow3)
        clear a0 a1 a2 a3 r0 r1 z0 z1 b0'
        go_loopw [6, 32] (fun s6 i wr => ∃ (k : Nat) (z : Value) (L : List Rw), k ≤ n ∧ s6 = z ∧ i = .int .i64 k ∧ RG wr w3.heap.size w.heap.size z L ∧ L.map Rw.r = (joinL xs ys).take k ∧ Below w3.heap.size w3 wr) (fun _ i _ => n - (intOf i).toNat)
        case atStart => exact ⟨0, _, [], Nat.zero_le _, rfl, rfl, HR3.out, rfl, HB3.out⟩
        case round =>
          obtain ⟨k, z, L, hk, rfl, rfl, hrg, hmap, hbr⟩ := hrel
          have HRG := hid hrg
          have HMp := hid hmap
          have bwr : Below (w.heap.size + 3) wb wr := HBw3.out.trans (hbr.mono hz33)
          have HBwr := hid bwr
          have HBr := hid hbr
          have hzr : w3.heap.size ≤ wr.heap.size := hbr.size
          obtain ⟨a0, a1, a2, a3, r0, r1, z0, z1⟩ := HX.out wr bwr
          obtain ⟨az, cz, hvz⟩ := hrg.rw.val
          obtain ⟨ll, hll⟩ : ∃ l, l = L.length := ⟨_, rfl⟩
          rw [← hll] at hvz
          have HLl := hid hll
          have hLl : L.length = k := by
            have h := congrArg List.length hmap
            rw [List.length_map, List.length_take, HJl.out] at h
            omega
          have HLk := hid hLl
          clear hrg hmap bwr hbr hll hLl HR3 HB3
          subst hvz
          by_cases hlt : k < n
          · have hd1 : decide ((k : Int) < (n : Int)) = true := decide_eq_true (by omega)
            have hA2 := HA.out.below (by rw [hz3]; exact HBwr.out)
            have hU2 := HU.out.below (by rw [hz3]; exact HBwr.out)
            rcases hA2 with ⟨h0, _⟩ | ⟨hp, b1, o1, cp1, F, hv1, hb1, hc1⟩
            · rw [h0] at HN; have := HN.out; simp at this; omega
            rcases hU2 with ⟨h0, _⟩ | ⟨hp2, b2, o2, cp2, G, hv2, hb2, hc2⟩
            · rw [h0] at HM; have := HM.out; simp at this; omega
            rw [← HN.out] at hv1 hc1
            rw [← HM.out] at hv2 hc2
            simp only [Value.slice.injEq] at hv1 hv2
            obtain ⟨rfl, _, rfl⟩ := hv1
            obtain ⟨rfl, _, rfl⟩ := hv2
            obtain ⟨hA, hI, hNl⟩ := hc1 k hlt
            obtain ⟨hA', hI', hNl'⟩ := hc2 k hlt
            have p0 := hA.c0
            have p1 := hA.c1
            have p2 := hA.c2
            have s0 := hA'.c0
            have s1 := hA'.c1
            have s2 := hA'.c2
            obtain ⟨x, hx⟩ : ∃ x, x = xs.getD k iz := ⟨_, rfl⟩
            obtain ⟨y, hy⟩ : ∃ y, y = ys.getD k iz := ⟨_, rfl⟩
            rw [← hx] at p0 p1 hI
            rw [← hy] at s0 s1 hI'
            have hxl : x.ps.length ≤ 1000 := by rw [hx]; have := HSx.out k (by rw [← HN.out]; exact hlt); omega
            have hyl : y.ps.length ≤ 1000 := by rw [hy]; have := HSy.out k (by rw [← HM.out]; exact hlt); omega
            have HT2 := hid (show (joinL xs ys).take (k + 1) = (joinL xs ys).take k ++ [jn x y] from by rw [hx, hy]; exact HTk.out k (by rw [← HN.out]; exact hlt))
            obtain ⟨a8, c8, hv8⟩ := ints_val hI
            obtain ⟨a9, c9, hv9⟩ := ints_val hI'
            have hk0 : (0 : Int) ≤ (k : Int) := by omega
            have hkn : (k : Int) < (n : Int) := by omega
            have HBs := hid (fun W (b : Below wr.heap.size wr W) => beside x.a0 x.a1 y.a0 y.a1 x.ps y.ps (F k) (G k) B W (hI.chg (Chg.ofBelow (lo := 0) b) (.inr (Nat.zero_le _))) hNl (hI'.chg (Chg.ofBelow (lo := 0) b) (.inr (Nat.zero_le _))) hNl' (by have := b.size; omega) hxl hyl)
            clear hA hA' hI hI' hNl hNl' hc1 hc2 hp hp2 hx hy hxl hyl r0 r1 z0 z1 a0 a2
            generalize F k = fx at *
            generalize G k = gy at *
            generalize hm8 : x.ps.length = m8 at hv8
            generalize hm9 : y.ps.length = m9 at hv9
            clear hm8 hm9
            subst hv8
            subst hv9
            have bA := (Below.refl wr.heap.size wr).alloc (Nat.le_refl _) (.cells #[.int .i64 x.a0, .int .i64 x.a1, .slice a8 m8 c8] 50)
            have HbA := hid bA
            have t0 : (wr.alloc (.cells #[.int .i64 x.a0, .int .i64 x.a1, .slice a8 m8 c8] 50)).cell? ⟨wr.heap.size, 0, none⟩ = some (.int .i64 x.a0) := World.cell?_alloc_at _ _ _ _ rfl
            have t1 : (wr.alloc (.cells #[.int .i64 x.a0, .int .i64 x.a1, .slice a8 m8 c8] 50)).cell? ⟨wr.heap.size, 1, none⟩ = some (.int .i64 x.a1) := World.cell?_alloc_at _ _ _ _ rfl
            have t2 : (wr.alloc (.cells #[.int .i64 x.a0, .int .i64 x.a1, .slice a8 m8 c8] 50)).cell? ⟨wr.heap.size, 2, none⟩ = some (.slice a8 m8 c8) := World.cell?_alloc_at _ _ _ _ rfl
            have a3' := (bA.cell (p := ⟨w.heap.size + 1, 1, none⟩) (by show w.heap.size + 1 < _; omega)).trans a3
            have hb2w : b2 < wr.heap.size := by omega
            have s0' := (bA.cell (p := ⟨b2, o2 + k * 3, none⟩) hb2w).trans s0
            have s1' := (bA.cell (p := ⟨b2, o2 + k * 3 + 1, none⟩) hb2w).trans s1
            have s2' := (bA.cell (p := ⟨b2, o2 + k * 3 + 2, none⟩) hb2w).trans s2
            have hzA : (wr.alloc (.cells #[.int .i64 x.a0, .int .i64 x.a1, .slice a8 m8 c8] 50)).heap.size = wr.heap.size + 1 := by simp
            have HRA := hid (HRG.out.below HbA.out)
            clear bA
            go_upto_region 9 with fail
            generalize (wr.alloc (.cells #[.int .i64 x.a0, .int .i64 x.a1, .slice a8 m8 c8] 50)) = wA at *
            have hzb : ∀ q, (Value.slice az ll cz).ownBlock = some q → w3.heap.size ≤ q ∧ q < wr.heap.size := fun q hq => HRG.out.row.lt q hq
            have HZb := hid hzb
            have HD1 := hid (HbA.out.drew)
            clear hzb
            go_region_held3 (fun w' => (w'.cell? ⟨wr.heap.size, 0, none⟩ = some (.int .i64 x.a0) ∧ w'.cell? ⟨wr.heap.size, 1, none⟩ = some (.int .i64 x.a1) ∧ w'.cell? ⟨wr.heap.size, 2, none⟩ = some (.slice a8 m8 c8)) ∧ w'.cell? ⟨w.heap.size + 1, 1, none⟩ = some (.slice (some ⟨b2, o2, none⟩) n cap2) ∧ w'.cell? ⟨b2, o2 + k * 3, none⟩ = some (.int .i64 y.a0) ∧ w'.cell? ⟨b2, o2 + k * 3 + 1, none⟩ = some (.int .i64 y.a1) ∧ w'.cell? ⟨b2, o2 + k * 3 + 2, none⟩ = some (.slice a9 m9 c9))
              (first
                | exact ⟨⟨t0, t1, t2⟩, a3', s0', s1', s2'⟩
                | exact ⟨⟨u0, u1, u2⟩, a32, s02, s12, s22⟩
                | exact ⟨⟨y0, y1, y2⟩, a33, s03, s13, s23⟩
                | exact ⟨⟨x0', x1', x2'⟩, a34, s04, s14, s24⟩
                | (go_keep; done))
              (first
                | (go_at_call 30
                   refine (HBs.out _ (by first | exact HD1.out | exact HbA.out)).mono ?_
                   rintro e w2' ⟨v2, rfl, o2', b2'⟩
                   have bb : Below wA.heap.size wA w2' := ((Below.refl wA.heap.size wA).drew).trans b2'
                   have HO2 := hid (show sl.Own w2' wA.heap.size w2'.heap.size v2 (x.ps ++ y.ps) from o2')
                   have HB2 := hid bb
                   have hs2 : wr.heap.size + 1 ≤ w2'.heap.size := by have := bb.size; omega
                   have u0 := (bb.cell (p := ⟨wr.heap.size, 0, none⟩) (by show wr.heap.size < _; omega)).trans t0
                   have u1 := (bb.cell (p := ⟨wr.heap.size, 1, none⟩) (by show wr.heap.size < _; omega)).trans t1
                   have u2 := (bb.cell (p := ⟨wr.heap.size, 2, none⟩) (by show wr.heap.size < _; omega)).trans t2
                   have a32 := (bb.cell (p := ⟨w.heap.size + 1, 1, none⟩) (by show w.heap.size + 1 < _; omega)).trans a3'
                   have s02 := (bb.cell (p := ⟨b2, o2 + k * 3, none⟩) (by show b2 < _; omega)).trans s0'
                   have s12 := (bb.cell (p := ⟨b2, o2 + k * 3 + 1, none⟩) (by show b2 < _; omega)).trans s1'
                   have s22 := (bb.cell (p := ⟨b2, o2 + k * 3 + 2, none⟩) (by show b2 < _; omega)).trans s2'
                   obtain ⟨a2', c2', hv2'⟩ := own_val o2'
                   obtain ⟨m2', hm2'⟩ : ∃ q, q = (x.ps ++ y.ps).length := ⟨_, rfl⟩
                   rw [← hm2'] at hv2'
                   clear hm2' o2' b2' bb
                   subst hv2'
                   have bA2 := (Below.refl w2'.heap.size w2').alloc (Nat.le_refl _) (.cells #[.int .i64 x.a0, .int .i64 x.a1, .slice a2' m2' c2'] 50)
                   have y0 := (bA2.cell (p := ⟨wr.heap.size, 0, none⟩) (by show wr.heap.size < _; omega)).trans u0
                   have y1 := (bA2.cell (p := ⟨wr.heap.size, 1, none⟩) (by show wr.heap.size < _; omega)).trans u1
                   have y2 := (bA2.cell (p := ⟨wr.heap.size, 2, none⟩) (by show wr.heap.size < _; omega)).trans u2
                   have a33 := (bA2.cell (p := ⟨w.heap.size + 1, 1, none⟩) (by show w.heap.size + 1 < _; omega)).trans a32
                   have s03 := (bA2.cell (p := ⟨b2, o2 + k * 3, none⟩) (by show b2 < _; omega)).trans s02
                   have s13 := (bA2.cell (p := ⟨b2, o2 + k * 3 + 1, none⟩) (by show b2 < _; omega)).trans s12
                   have s23 := (bA2.cell (p := ⟨b2, o2 + k * 3 + 2, none⟩) (by show b2 < _; omega)).trans s22
                   have HRw2 := hid (HRA.out.below HB2.out).row
                   have HRw3 := hid ((HRA.out.below HB2.out).below bA2).row
                   have hc20 : (w2'.alloc (.cells #[.int .i64 x.a0, .int .i64 x.a1, .slice a2' m2' c2'] 50)).cell? ⟨w2'.heap.size, 0, none⟩ = some (.int .i64 x.a0) := World.cell?_alloc_at _ _ _ _ rfl
                   have hc21 : (w2'.alloc (.cells #[.int .i64 x.a0, .int .i64 x.a1, .slice a2' m2' c2'] 50)).cell? ⟨w2'.heap.size, 1, none⟩ = some (.int .i64 x.a1) := World.cell?_alloc_at _ _ _ _ rfl
                   have hc22 : (w2'.alloc (.cells #[.int .i64 x.a0, .int .i64 x.a1, .slice a2' m2' c2'] 50)).cell? ⟨w2'.heap.size, 2, none⟩ = some (.slice a2' m2' c2') := World.cell?_alloc_at _ _ _ _ rfl
                   have hz2 : (w2'.alloc (.cells #[.int .i64 x.a0, .int .i64 x.a1, .slice a2' m2' c2'] 50)).heap.size = w2'.heap.size + 1 := by simp
                   have HbA2 := hid bA2
                   clear bA2)
                | (refine step_appW rfl _ _ rfl w3.heap.size (.slice az ll cz) ll (flatW L) (HLl.out ▸ HRw3.out) rfl w2'.heap.size 1 ⟨jn x y, .slice a2' m2' c2'⟩ rfl hc20 hc21 hc22 rfl (by rw [hz2]; omega) (by have h1 := HLl.out; have h2 := HLk.out; omega) ?_
                   intro v9 w9 hr9 hg9 h59
                   have hRG9 := RG.app (k := ⟨jn x y, .slice a2' m2' c2'⟩) HRA.out (by omega) HB2.out HO2.out HbA2.out (by omega) (by rw [← HLl.out]; exact hr9) hg9 h59
                   have HRG9 := hid hRG9
                   have hbl : w9.heap[wr.heap.size]? = (w2'.alloc (.cells #[.int .i64 x.a0, .int .i64 x.a1, .slice a2' m2' c2'] 50)).heap[wr.heap.size]? := hg9.block _ (by rw [hz2]; omega) (fun e => by have := HZb.out wr.heap.size (by first | exact e | exact e.symm); omega)
                   have x0' := (World.cell?_of_block (a := ⟨wr.heap.size, 0, none⟩) hbl).trans y0
                   have x1' := (World.cell?_of_block (a := ⟨wr.heap.size, 1, none⟩) hbl).trans y1
                   have x2' := (World.cell?_of_block (a := ⟨wr.heap.size, 2, none⟩) hbl).trans y2
                   have hB9 : Below w3.heap.size w3 w9 := ((((HBr.out.trans (HbA.out.mono hzr)).trans (HB2.out.mono (by omega))).trans (HbA2.out.mono (by omega)))).grown hg9 (by rw [hz2]; omega) (fun j e => (HZb.out j e).1)
                   have HB9 := hid hB9
                   have a34 : w9.cell? ⟨w.heap.size + 1, 1, none⟩ = some (.slice (some ⟨b2, o2, none⟩) n cap2) := (HX.out w9 (HBw3.out.trans (hB9.mono hz33))).2.2.2.1
                   have hb23 : b2 < w3.heap.size := by omega
                   have s04 : w9.cell? ⟨b2, o2 + k * 3, none⟩ = some (.int .i64 y.a0) := (hB9.cell (p := ⟨b2, o2 + k * 3, none⟩) hb23).trans ((HBr.out.cell (p := ⟨b2, o2 + k * 3, none⟩) hb23).symm.trans s0)
                   have s14 : w9.cell? ⟨b2, o2 + k * 3 + 1, none⟩ = some (.int .i64 y.a1) := (hB9.cell (p := ⟨b2, o2 + k * 3 + 1, none⟩) hb23).trans ((HBr.out.cell (p := ⟨b2, o2 + k * 3 + 1, none⟩) hb23).symm.trans s1)
                   have s24 : w9.cell? ⟨b2, o2 + k * 3 + 2, none⟩ = some (.slice a9 m9 c9) := (hB9.cell (p := ⟨b2, o2 + k * 3 + 2, none⟩) hb23).trans ((HBr.out.cell (p := ⟨b2, o2 + k * 3 + 2, none⟩) hb23).symm.trans s2)
                   clear hRG9 hbl hB9 hr9 hg9 h59)
                | fail)
            all_goals
              go_wp2
              go_roundw
              case rel => exact ⟨k + 1, _, _, by omega, rfl, by go_num, HRG9.out, by rw [List.map_append, HMp.out, HT2.out]; rfl, HB9.out⟩
              case measure => simp [intOf]; omega
          · obtain rfl : k = n := by omega
            have hd1 : decide ((k : Int) < (k : Int)) = false := decide_eq_false (by omega)
            have hEq : L.map Rw.r = joinL xs ys := by rw [HMp.out, ← HJl.out, HJall.out]
            have hInf := iownN HRG.out.rw.iown
            rw [hEq] at hInf
            have HCo2 := hid (HCo1.out _ wr HBwr.out hInf)
            clear hInf hEq r0 r1 z0 z1
            go_wp2_with fail
            refine HCo2.out.mono ?_
            rintro e w6 ⟨a9, c9, rfl, o6, b6⟩
            have bw6 : Below (w.heap.size + 3) wb w6 := HBwr.out.trans (b6.mono (by omega))
            obtain ⟨_, _, _, _, r0, r1, z0, z1⟩ := HX.out w6 bw6
            have HO6 := hid (o6.lo (lo' := w.heap.size + 3) (by omega))
            have HB6 := hid bw6
            obtain ⟨n9, hn9⟩ : ∃ q, q = kr.length := ⟨_, rfl⟩
            have HN9 := hid hn9
            rw [← hn9]
            clear hn9 o6 b6 bw6 a0 a1 a2 a3
            go_wp2
            refine bodyPost_ret (v := .tuple #[.agg #[.int .i64 kc, .slice a9 n9 c9], .int .i64 kk]) (by simp [results, Tryd.results13, go_sem, r0, r1]) rfl ⟨a9, c9, by rw [HK1.out, HK2.out, HK3.out, ← HN9.out], ?_, ?_⟩
            · rw [HK3.out, ← HN9.out]
              have h2 := ct.iown_other (ct.iown_other HO6.out (w.heap.size + 2) 0 (.int .i64 kc) (by omega)) (w.heap.size + 2) 1 (.slice a9 n9 c9) (by omega)
              have h3 := h2.lo (lo' := w.heap.size) (by omega)
              rw [HN9.out] at h3 ⊢
              simpa using h3
            · exact (((HB0.out.trans (HB6.out.mono (by omega))).setCell (by show w.heap.size ≤ w.heap.size + 2; omega) _).setCell (by show w.heap.size ≤ w.heap.size + 2; omega) _)
end Go.Proofs.YtbbnheiibkcgiabDoor.cy

/- Two charts as arguments of a law whose answer is a chart: what the walk of the law needs in a region whose order is drawn. -/
namespace Go.Proofs.YtbbnheiibkcgiabDoor.cj
open Go.RowKit Go.Proofs.YtbbnheiibkcgiabDoor.sl Go.Proofs.YtbbnheiibkcgiabDoor.br
set_option linter.unusedVariables false

theorem _root_.Go.Proofs.YtbbnheiibkcgiabDoor.cm.InfsN.chg {w w' : World} {B lo hi : Nat} {v : Value} {xs : List ro.V} (h : cm.InfsN w B v xs) (c : Chg lo hi w w') (h1 : B ≤ lo ∨ hi ≤ lo) : cm.InfsN w' B v xs := by
  rcases h with h | ⟨hp, b, off, cap, F, hv, hb, hc⟩
  · exact .inl h
  · exact .inr ⟨hp, b, off, cap, F, hv, hb, fun j hj => ⟨(hc j hj).1.blk c.size (c.block b (hc j hj).1.lt (by omega)), (hc j hj).2.1.chg c h1, (hc j hj).2.2⟩⟩
theorem _root_.Go.Proofs.YtbbnheiibkcgiabDoor.cm.InfsN.mono {w : World} {B B' : Nat} {v : Value} {xs : List ro.V} (h : cm.InfsN w B v xs) (hB : B ≤ B') : cm.InfsN w B' v xs := by
  rcases h with h | ⟨hp, b, off, cap, F, hv, hb, hc⟩
  · exact .inl h
  · exact .inr ⟨hp, b, off, cap, F, hv, by omega, fun j hj => ⟨(hc j hj).1, (hc j hj).2.1.mono hB, (hc j hj).2.2⟩⟩

/-- What is kept in W since Wn: both boxes and their rows, and all memory. -/
def Kc (w Wn : World) (a0 a1 : Int) (v0 : Value) (xs0 : List ro.V) (v1 : Value) (xs1 : List ro.V) (W : World) : Prop :=
  (ro.Infs W w.heap.size v0 xs0 ∧ ro.Infs W w.heap.size v1 xs1 ∧ Wn.heap.size ≤ W.heap.size ∧ Below Wn.heap.size Wn W) ∧ w.heap.size + 1 < Wn.heap.size ∧
  W.cell? ⟨w.heap.size, 0, none⟩ = some (.int .i64 a0) ∧ W.cell? ⟨w.heap.size, 1, none⟩ = some v0 ∧ W.cell? ⟨w.heap.size + 1, 0, none⟩ = some (.int .i64 a1) ∧ W.cell? ⟨w.heap.size + 1, 1, none⟩ = some v1
theorem Kc.below {w Wn W W' : World} {a0 a1 : Int} {v0 v1 : Value} {xs0 xs1 : List ro.V} (h : Kc w Wn a0 a1 v0 xs0 v1 xs1 W) (b : Below W.heap.size W W') : Kc w Wn a0 a1 v0 xs0 v1 xs1 W' := by
  obtain ⟨⟨i0, i1, hs, hb⟩, hl, c0, c1, c2, c3⟩ := h
  refine ⟨⟨i0.chg (Chg.ofBelow (lo := 0) b) (.inr (Nat.zero_le _)), i1.chg (Chg.ofBelow (lo := 0) b) (.inr (Nat.zero_le _)), Nat.le_trans hs b.size, hb.trans (b.mono hs)⟩, hl, ?_, ?_, ?_, ?_⟩
  · exact (b.cell (p := ⟨w.heap.size, 0, none⟩) (by show w.heap.size < W.heap.size; omega)).trans c0
  · exact (b.cell (p := ⟨w.heap.size, 1, none⟩) (by show w.heap.size < W.heap.size; omega)).trans c1
  · exact (b.cell (p := ⟨w.heap.size + 1, 0, none⟩) (by show w.heap.size + 1 < W.heap.size; omega)).trans c2
  · exact (b.cell (p := ⟨w.heap.size + 1, 1, none⟩) (by show w.heap.size + 1 < W.heap.size; omega)).trans c3
theorem Kc.alloc {w Wn W : World} {a0 a1 : Int} {v0 v1 : Value} {xs0 xs1 : List ro.V} (h : Kc w Wn a0 a1 v0 xs0 v1 xs1 W) (o : Obj) : Kc w Wn a0 a1 v0 xs0 v1 xs1 (W.alloc o) := h.below ((Below.refl _ _).alloc (Nat.le_refl _) o)
theorem Kc.drew {w Wn W : World} {a0 a1 : Int} {v0 v1 : Value} {xs0 xs1 : List ro.V} (h : Kc w Wn a0 a1 v0 xs0 v1 xs1 W) : Kc w Wn a0 a1 v0 xs0 v1 xs1 W.drew := h.below (Below.refl _ _).drew

def Ic (W : World) (v : Value) (xs : List ro.V) : Prop := ∃ B, B ≤ W.heap.size ∧ cm.InfsN W B v xs
theorem Ic.below {W W' : World} {v : Value} {xs : List ro.V} (h : Ic W v xs) (b : Below W.heap.size W W') : Ic W' v xs := by
  obtain ⟨B, h1, h2⟩ := h
  exact ⟨B, Nat.le_trans h1 b.size, h2.chg (Chg.ofBelow (lo := 0) b) (.inr (Nat.zero_le _))⟩
theorem Ic.alloc {W : World} {v : Value} {xs : List ro.V} (h : Ic W v xs) (o : Obj) : Ic (W.alloc o) v xs := h.below ((Below.refl _ _).alloc (Nat.le_refl _) o)
theorem Ic.drew {W : World} {v : Value} {xs : List ro.V} (h : Ic W v xs) : Ic W.drew v xs := h.below (Below.refl _ _).drew

theorem toCq (a : Int) (v : Value) (xs : List ro.V) (hq : ro.Small xs) (W : World) (B : Nat) (hi : ro.Infs W B v xs) (hB : B ≤ W.heap.size) :
    Calls Tryd.prog 7 #[.agg #[.int .i64 a, v]] W fun e W' => ∃ f', e = .returned (.agg #[.int .i64 a, f']) ∧ Ic W' f' xs ∧ (∃ ao cap, f' = .slice ao xs.length cap) ∧ Below W.heap.size W W' := by
  refine (ct.toC a xs v _ _ hi hB hq).mono ?_
  rintro e W' ⟨f', rfl, o, b⟩
  exact ⟨f', rfl, ⟨_, Nat.le_refl _, o.infsN⟩, ro.iown_val o, b⟩

/-- The answer in a box of its own, in X. -/
def Rc (Wn : World) (sr : Int) (zr : List ro.V) (g : Nat) (ao : Option Addr) (cap : Nat) (X : World) : Prop :=
  X.cell? ⟨g, 0, none⟩ = some (.int .i64 sr) ∧ X.cell? ⟨g, 1, none⟩ = some (.slice ao zr.length cap) ∧ ro.IOwn X Wn.heap.size X.heap.size (.slice ao zr.length cap) zr ∧ Wn.heap.size ≤ g ∧ g < X.heap.size ∧ Below Wn.heap.size Wn X
theorem meetA {Wn Y : World} {sr : Int} {zr : List ro.V} {lo : Nat} {ao : Option Addr} {cap : Nat} (hb : Below Wn.heap.size Wn Y) (o : ro.IOwn Y lo Y.heap.size (.slice ao zr.length cap) zr) (hlo : Wn.heap.size ≤ lo) :
    Rc Wn sr zr Y.heap.size ao cap (Y.alloc (.cells #[.int .i64 sr, .slice ao zr.length cap] 28)) := by
  refine ⟨World.cell?_alloc_at _ _ _ _ rfl, World.cell?_alloc_at _ _ _ _ rfl, ?_, hb.size, by simp, hb.alloc hb.size _⟩
  exact ((o.chg (Chg.ofBelow (lo := 0) ((Below.refl Y.heap.size Y).alloc (Nat.le_refl _) _)) (.inr (.inr (Nat.zero_le _)))).lo hlo).hi (by simp) (Nat.le_refl _)
theorem meetB {Wn Y : World} {sr : Int} {zr : List ro.V} {lo : Nat} {ao : Option Addr} {cap : Nat} (hb : Below Wn.heap.size Wn Y) (o : ro.IOwn Y lo Y.heap.size (.slice ao zr.length cap) zr) (hlo : Wn.heap.size ≤ lo) (g : Nat) (hg1 : Wn.heap.size ≤ g) (hg2 : g < lo) (hg3 : g < Y.heap.size) {x0 x1 : Value} (c0 : Y.cell? ⟨g, 0, none⟩ = some x0) (c1 : Y.cell? ⟨g, 1, none⟩ = some x1) :
    Rc Wn sr zr g ao cap ((Y.setCell ⟨g, 0, none⟩ (.int .i64 sr)).setCell ⟨g, 1, none⟩ (.slice ao zr.length cap)) := by
  refine ⟨(World.cell?_setCell_other _ _ _ _ (by simp)).trans (World.cell?_setCell_same _ _ _ c0), World.cell?_setCell_same _ _ _ ((World.cell?_setCell_other _ _ _ _ (by simp)).trans c1), ?_, hg1, by simpa using hg3, (hb.setCell hg1 _).setCell hg1 _⟩
  exact ((ct.iown_other (ct.iown_other o g 0 _ (.inl hg2)) g 1 _ (.inl hg2)).lo hlo).hi (by simp) (Nat.le_refl _)

theorem keep2 {Y : World} {g b q : Nat} {x y : Value} (h : b < g) : ((Y.setCell ⟨g, 0, none⟩ x).setCell ⟨g, 1, none⟩ y).cell? ⟨b, q, none⟩ = Y.cell? ⟨b, q, none⟩ :=
  (World.cell?_setCell_other _ _ _ _ (fun e => by injection e with e1; omega)).trans (World.cell?_setCell_other _ _ _ _ (fun e => by injection e with e1; omega))
theorem markC2 (s : Int) (xs : List ro.V) (f : Value) (lo hi : Nat) (k0 : Int) (w : World) (ho : ro.IOwn w lo hi f xs) (hq : ro.Small xs) (ht : ss.tot (ro.prs xs) ≤ 1048576) (hk0 : 0 ≤ k0) (hk1 : k0 ≤ 100000000) :
    Calls Tryd.prog 10 #[.agg #[.int .i64 s, f], .int .i64 k0] w fun e w' => ∃ k1 : Int, e = .returned (.int .i64 k1) ∧ (0 ≤ k1 ∧ k1 ≤ k0 + 10000000) ∧ Chg lo hi w w' := by
  have hB := (Below.refl w.heap.size w).alloc (Nat.le_refl _) (.cells #[.int .i64 s, f] 28)
  have hC0 : Chg lo hi w (w.alloc (.cells #[.int .i64 s, f] 28)) := ⟨hB.os, hB.tape, hB.output, hB.size, fun k hk _ => hB.block k hk⟩
  have HM := hid (ct.markWS xs f lo hi k0 _ (ho.chg (Chg.ofBelow (lo := 0) hB) (.inr (.inr (Nat.zero_le _)))) hq ht hk0 (by omega))
  have HC0 := hid hC0
  obtain ⟨ao, cap, hv⟩ := ro.infs_val ho.infs
  have hpb := ct.preW_bound xs ht hq.len xs.length (Nat.le_refl _)
  have hkp : 0 ≤ k0 + (ct.preW xs xs.length : Int) ∧ k0 + (ct.preW xs xs.length : Int) ≤ k0 + 10000000 := by omega
  clear hB hC0 ho hq ht
  generalize ct.preW xs xs.length = t at *
  generalize xs.length = n at *
  subst hv
  go_enter Tryd.func10, Tryd.ntmps10
  go_wp2_with fail
  refine HM.out.mono ?_
  rintro e w1 ⟨rfl, c1⟩
  have HC := hid (HC0.out.trans c1)
  clear c1
  go_wp2
  go_ret
  exact ⟨_, rfl, hkp, HC.out⟩

end Go.Proofs.YtbbnheiibkcgiabDoor.cj

/- BesideCharts of both sides in the order of arguments that the law's generator wants. -/
namespace Go.Proofs.YtbbnheiibkcgiabDoor.cj
open Go.RowKit Go.Proofs.YtbbnheiibkcgiabDoor.sl Go.Proofs.YtbbnheiibkcgiabDoor.br
set_option linter.unusedVariables false

theorem sBS (c : Int) (xs : List ro.V) (d : Int) (ys : List ro.V) (f u : Value) (B C : Nat) (w : World) (ha : cm.InfsN w B f xs) (hB : B ≤ w.heap.size) (hb : cm.InfsN w C u ys) (hC : C ≤ w.heap.size) (hq : ro.Small xs) (hq2 : ro.Small ys) :
    Calls Tryd.prog 12 #[.agg #[.int .i64 c, f], .agg #[.int .i64 d, u]] w fun e w' => ∃ ao cap, e = .returned (.tuple #[.agg #[.int .i64 (cy.bsC c xs d ys), .slice ao (cy.bsR c xs d ys).length cap], .int .i64 (cy.bsK c xs d ys)]) ∧ ro.IOwn w' w.heap.size w'.heap.size (.slice ao (cy.bsR c xs d ys).length cap) (cy.bsR c xs d ys) ∧ Below w.heap.size w w' :=
  cy.specBS c xs f d ys u w.heap.size w (ha.mono hB) (hb.mono hC) (Nat.le_refl _) hq hq2
theorem iBS (c : Int) (xs : List ro.V) (d : Int) (ys : List ro.V) (f u : Value) (B C : Nat) (w : World) (ha : cm.InfsN w B f xs) (hB : B ≤ w.heap.size) (hb : cm.InfsN w C u ys) (hC : C ≤ w.heap.size) (hq : ro.Small xs) (hq2 : ro.Small ys) (hT : stb.Tab w) :
    Calls Tryd.prog 13 #[.agg #[.int .i64 c, f], .agg #[.int .i64 d, u]] w fun e w' => ∃ ao cap, e = .returned (.tuple #[.agg #[.int .i64 (cy.bsC c xs d ys), .slice ao (cy.bsR c xs d ys).length cap], .int .i64 (cy.bsK c xs d ys)]) ∧ ro.IOwn w' w.heap.size w'.heap.size (.slice ao (cy.bsR c xs d ys).length cap) (cy.bsR c xs d ys) ∧ Below w.heap.size w w' :=
  cy.implBS c xs f d ys u w.heap.size w (ha.mono hB) (hb.mono hC) (Nat.le_refl _) hq hq2 hT
end Go.Proofs.YtbbnheiibkcgiabDoor.cj
