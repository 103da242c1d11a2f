/-
  The reduced word of a word: contracts of the product over its letters, and of reducedWord.
-/
import Derived.Test.YtedajefapddekaaFr3
import Derived.Test.YtedajefapddekaaMp
namespace Go.Proofs.Ytedajefapddekaa.fr
open Go.RowKit Go.Proofs.Ytedajefapddekaa.sl Go.Proofs.Ytedajefapddekaa.pm Go.Proofs.Ytedajefapddekaa.bw Go.Proofs.Ytedajefapddekaa.br Go.Proofs.Ytedajefapddekaa.fv Go.Proofs.Ytedajefapddekaa.fn
set_option linter.unusedVariables false
attribute [local go_sem] Oper.semAt_some

theorem abides_drew {β : Type} {B : Nat} {J : β → World → Prop} (h : AbidesFrom B J) (s : β) (W : World) (hs : J s W) : J s W.drew :=
  h s W _ none hs ⟨rfl, rfl, rfl, Nat.le_refl _, fun _ _ _ => rfl⟩ (fun r e => by cases e)

theorem chunk_stops (F : Fence) (n : Nat) (hF : F.fn 131) (hro : F.round = none) (hn : 1 ≤ n) (Bs Bn n₀ b off len cap : Nat) (hlen : len ≤ 1000000) (hcap : len ≤ cap ∧ cap ≤ 9223372036854775807) (h1 : Bs < n₀) (h2 : Bn < n₀)
    (w : World) (hz1 : Bs < w.heap.size) (hz2 : Bn < w.heap.size) (hBs : w.cell? ⟨Bs, 0, none⟩ = some (.slice (some ⟨b, off, none⟩) len cap)) (hBn : w.cell? ⟨Bn, 0, none⟩ = some (.int .i64 1)) :
    SeqStopsK F n Try.prog 131 #[.pointer (some ⟨Bs, 0, none⟩), .pointer (some ⟨Bn, 0, none⟩)] (enc b off len) (Below n₀) (fun ys => ys.map (fun i => i.val) = List.range len) (fun _ => True) len w := fun l J Jx W hW hJ _ hY h0 =>
  chunk1 F n hF hro hn l Bs Bn n₀ b off len cap hlen hcap h1 h2 J Jx (abides_drew hJ) hY W ((hW.cell (p := ⟨Bs, 0, none⟩) hz1).trans hBs) ((hW.cell (p := ⟨Bn, 0, none⟩) hz2).trans hBn) h0

set_option maxRecDepth 100000 in
set_option maxHeartbeats 2000000 in
/-- .. at a word without letters: no round. -/
theorem chunk0 (F : Fence) (n : Nat) (hF : F.fn 131) (hro : F.round = none) (l Bs Bn cap : Nat) (ao : Option Addr) (J : List (Fin 0) → World → Prop) (W : World) (hBs : W.cell? ⟨Bs, 0, none⟩ = some (.slice ao 0 cap)) (h0 : J [] W) :
    CallsIn F n Try.prog 131 #[.func (.yield l) #[] #[], .pointer (some ⟨Bs, 0, none⟩), .pointer (some ⟨Bn, 0, none⟩)] W fun e W' => (∃ v, e = .returned v) ∧ J [] W' := by
  refine callsIn_of_wp Try.func131 rfl hF ?_ hro
  simp only [Try.ntmps131, List.size_toArray, List.length_cons, List.length_nil, Nat.reduceAdd, Nat.reduceSub, Array.replicate_succ, Array.replicate_zero, List.push_toArray, List.append_toArray, List.nil_append, List.cons_append]
  gi_wp2
  gi_loopw [4] (fun i wr => i = .int .i64 0 ∧ J [] wr ∧ wr.cell? ⟨Bs, 0, none⟩ = some (.slice ao 0 cap)) (fun _ _ => 0)
  case atStart => exact ⟨rfl, h0, hBs⟩
  case round =>
    obtain ⟨rfl, hJs, hb⟩ := hrel
    gi_wp2
    go_end0
    exact ⟨⟨_, rfl⟩, hJs⟩
theorem chunk0_stops (F : Fence) (n : Nat) (hF : F.fn 131) (hro : F.round = none) (Bs Bn n₀ cap : Nat) (ao : Option Addr) (w : World) (hz1 : Bs < w.heap.size) (hBs : w.cell? ⟨Bs, 0, none⟩ = some (.slice ao 0 cap)) :
    SeqStopsK F n Try.prog 131 #[.pointer (some ⟨Bs, 0, none⟩), .pointer (some ⟨Bn, 0, none⟩)] (enc 0 0 0) (Below n₀) (fun ys => ys.map (fun i => i.val) = List.range 0) (fun _ => True) 0 w := fun l J Jx W hW hJ _ hY h0 =>
  (chunk0 F n hF hro l Bs Bn cap ao J W ((hW.cell (p := ⟨Bs, 0, none⟩) hz1).trans hBs) h0).mono fun e W' ⟨he, hj⟩ => ⟨he, .inl ⟨[], rfl, hj⟩⟩

/-- slices.Chunk(s, 1): both are boxed. -/
theorem chunk (ao : Option Addr) (len cap : Nat) (w : World) :
    Calls Try.prog 113 #[.slice ao len cap, .int .i64 1] w fun e w' => e = .returned (.func (.func 131) #[] #[.pointer (some ⟨w.heap.size, 0, none⟩), .pointer (some ⟨w.heap.size + 1, 0, none⟩)]) ∧ w' = (w.alloc (.cells #[.slice ao len cap] 30)).alloc (.cells #[.int .i64 1] 3) := by
  go_enter Try.func113, Try.ntmps113
  go_wp2
  go_ret
  exact ⟨rfl, rfl⟩

/-- The stack between two rounds. -/
def StI {n : Nat} (xs : List Int) (w : World) (pre : List (Fin n)) (W : World) : Prop := (∃ v, Boxed W w.heap.size 150 v ∧ W.ownsRow w.heap.size 2 1 v (stk xs pre).length ((stk xs pre).map (Value.int .i64)) ∧ True) ∧ Below w.heap.size w W

set_option maxRecDepth 100000 in
set_option maxHeartbeats 4000000 in
theorem product (xs : List Int) (n Bs Bn b off : Nat) (hn : n = xs.length) (w : World)
    (hseq : ∀ W : World, Below w.heap.size w W → w.heap.size ≤ W.heap.size → SeqStopsK Fence.wide (3 - 1) Try.prog 131 #[.pointer (some ⟨Bs, 0, none⟩), .pointer (some ⟨Bn, 0, none⟩)] (enc b off n) (Below w.heap.size) (fun ys => ys.map (fun i => i.val) = List.range n) (fun _ => True) n W)
    (hb : b < w.heap.size ∨ n = 0) (hc : ∀ j, j < n → w.cell? ⟨b, off + j, none⟩ = some (.int .i64 (xs.getD j 0))) (hlen : n ≤ 1000000) (hs : Small xs) :
    Calls Try.prog 112 #[.func (.func 131) #[] #[.pointer (some ⟨Bs, 0, none⟩), .pointer (some ⟨Bn, 0, none⟩)]] w fun e W' => ∃ v, e = .returned v ∧ sl.Own W' w.heap.size W'.heap.size v (redL xs) ∧ Below w.heap.size w W' := by
  refine (callsIn_wide (n := 3)).1 ?_
  have hro : Fence.wide.round = none := rfl
  refine callsIn_of_wp_marks Try.func112 rfl trivial ?_ hro
  simp only [Try.ntmps112, List.size_toArray, List.length_cons, List.length_nil, Nat.reduceAdd, Nat.reduceSub, Array.replicate_succ, Array.replicate_zero, List.push_toArray, List.append_toArray, List.nil_append, List.cons_append]
  gi_wp2
  have bO := Boxed.new w 150 (.slice none 0 0)
  have hB0 : Below w.heap.size w (w.alloc (.cells #[.slice none 0 0] 150)) := (Below.refl _ w).alloc (Nat.le_refl _) _
  refine wpIn_rangeFunc_ownG hro (by omega) (gf := 131) (lb := #[.pointer (some ⟨Bs, 0, none⟩), .pointer (some ⟨Bn, 0, none⟩)]) rfl trivial (enters_of Try.func131 (by kernel_rfl) rfl)
    (hseq _ hB0 (by simp)) belowK_t (belowK_b (by simp)) (Below.refl _ _) (fun _ => rfl)
    (StI xs w)
    (fun _ _ _ => False)
    (OwnFrom.and (Own.from (holdsRow_own w.heap.size w.heap.size 150 2 1 (fun pre => (stk xs pre).length) (fun pre => (stk xs pre).map (Value.int .i64)) (fun _ _ => True)) _) (ownFrom_below (Nat.le_refl _) (by simp)))
    (fun _ _ _ _ _ hs _ _ => hs)
    ⟨⟨_, bO, World.ownsRow_nil _ _ _ _, trivial⟩, hB0⟩
    (fun x => { tmps := #[.func (.func 131) #[] #[.pointer (some ⟨Bs, 0, none⟩), .pointer (some ⟨Bn, 0, none⟩)], undef, .slice none 0 0, .pointer (some ⟨w.heap.size, 0, none⟩), .slice (some ⟨b, off + x.val, none⟩) 1 1, .func (.func 131) #[] #[.pointer (some ⟨Bs, 0, none⟩), .pointer (some ⟨Bn, 0, none⟩)], .slice (some ⟨b, off + x.val, none⟩) 1 1, undef, undef, undef], defers := [] }) ?assign ?body ?done ?stop
  case assign =>
    intro l x W K hK
    simp only [enc]
    gi_wp2
    exact hK
  case body =>
    rintro l pre x W ⟨⟨v, hv, hrow, _⟩, hB⟩ hlt
    have hbb : b < w.heap.size := by have := x.isLt; omega
    have hcx : W.cell? ⟨b, off + x.val, none⟩ = some (.int .i64 (xs.getD x.val 0)) := (hB.cell (p := ⟨b, off + x.val, none⟩) hbb).trans (hc x.val x.isLt)
    have hsx := hs x.val (by rw [← hn]; exact x.isLt)
    have hsl := stk_len xs pre
    have hsize := hB.size
    have hP := push (stk xs pre) [xs.getD x.val 0] v w.heap.size w.heap.size w.heap.size b (off + x.val) 1 W hv hrow hsize (Nat.le_refl _)
      (.inr ⟨by simp, b, off + x.val, 1, rfl, hbb, fun j hj => by
        obtain rfl : j = 0 := by simpa using hj
        simpa using hcx⟩) hsize ⟨by simp, by omega⟩ (by omega) (by simp) (fun j hj => by
        obtain rfl : j = 0 := by simpa using hj
        simpa using hsx)
    simp only [List.length_cons, List.length_nil, Nat.zero_add] at hP
    have HP := hid hP
    clear hP hcx hsx
    have hd : 1 ≤ 3 - 1 - 1 := by omega
    gi_wp2_with (refine ⟨trivial, ?_⟩; gi_at_call 130; refine (CallsIn.inRound l (callsIn_wide.2 HP.out)).mono ?_; rintro e w' ⟨⟨r, rfl⟩, v', c, hcc, hbx, hrw, hko, hbe⟩)
    rw [push_one hcc, ← stk_snoc] at hrw
    exact ⟨hko.from _, hbe, ⟨⟨v', hbx, hrw, trivial⟩, hB.trans hbe⟩⟩
  case done =>
    rintro D ys W hD hys ⟨⟨v, hv, hrow, _⟩, hB⟩ hK
    have hc' := hv.cell
    have hb2 := hB.trans (belowK_b (w := w) (Nat.le_refl _) W D _ (.deferred none) (by simp at hD; omega) hK rfl rfl)
    have hr2 := ownsRow_putObj hrow (.deferred none) hK rfl
    rw [stk_all hn ys hys] at hr2
    gi_wp2
    refine ⟨by simp, .inl ⟨_, _, rfl, run_takeDeferred hK, ?_⟩⟩
    exact ⟨_, results_tmp rfl _ _ _, v, rfl, sl.Own.mk' hr2, hb2⟩
  case stop =>
    rintro D c pre W _ _ h _
    exact h.elim

/-- The reduced word. -/
theorem reduced (xs : List Int) (v : Value) (B : Nat) (w : World) (ha : Ints w B v xs) (hB : B ≤ w.heap.size) (hcp : ∃ ao cap, v = .slice ao xs.length cap ∧ xs.length ≤ cap ∧ cap ≤ 9223372036854775807) (hn : xs.length ≤ 1000000) (hs : Small xs) :
    Calls Try.prog 76 #[v] w fun e w' => ∃ v', e = .returned v' ∧ sl.Own w' w.heap.size w'.heap.size v' (redL xs) ∧ Below w.heap.size w w' := by
  obtain ⟨ao, cap, rfl, hc1, hc2⟩ := hcp
  have hb := box2 (Below.refl _ ((w.alloc (.cells #[.slice ao xs.length cap] 30)).alloc (.cells #[.int .i64 1] 3)))
  have d0 := hb.1 0
  have e0 := (hb.2.1 0).1
  have hbel := hb.2.2.1
  have hsz := hb.2.2.2
  simp only [List.getElem?_toArray, List.getElem?_cons_zero] at d0 e0
  generalize hW : ((w.alloc (.cells #[.slice ao xs.length cap] 30)).alloc (.cells #[.int .i64 1] 3)) = W at *
  have HP : Hid (Calls Try.prog 112 #[.func (.func 131) #[] #[.pointer (some ⟨w.heap.size, 0, none⟩), .pointer (some ⟨w.heap.size + 1, 0, none⟩)]] W fun e W' => ∃ v, e = .returned v ∧ sl.Own W' W.heap.size W'.heap.size v (redL xs) ∧ Below W.heap.size W W') := hid (by
    rcases ha with ⟨rfl, _⟩ | ⟨hp, b, off, cap', hv, hb', hc⟩
    · exact product [] 0 w.heap.size (w.heap.size + 1) 0 0 rfl W (fun X hX hsX => chunk0_stops Fence.wide _ trivial rfl _ _ _ cap ao X (by omega) ((hX.cell (p := ⟨w.heap.size, 0, none⟩) (by show w.heap.size < W.heap.size; omega)).trans d0)) (.inr rfl) (fun j hj => by omega) (by omega) hs
    · simp only [Value.slice.injEq] at hv
      obtain ⟨rfl, _, rfl⟩ := hv
      refine product xs xs.length w.heap.size (w.heap.size + 1) b off rfl W (fun X hX hsX => chunk_stops Fence.wide _ trivial rfl (by omega) _ _ _ b off xs.length cap hn ⟨hc1, hc2⟩ (by omega) (by omega) X (by omega) (by omega) ((hX.cell (p := ⟨w.heap.size, 0, none⟩) (by show w.heap.size < W.heap.size; omega)).trans d0) ((hX.cell (p := ⟨w.heap.size + 1, 0, none⟩) (by show w.heap.size + 1 < W.heap.size; omega)).trans e0)) (.inl (by omega)) (fun j hj => ?_) hn hs
      exact (hbel.cell (p := ⟨b, off + j, none⟩) (by show b < w.heap.size; omega)).trans (hc j hj))
  generalize redL xs = zs at *
  generalize xs.length = n at *
  go_enter Try.func76, Try.ntmps76
  go_wp2_with fail
  refine (chunk ao n cap w).mono ?_
  rintro e w1 ⟨rfl, rfl⟩
  rw [hW]
  go_wp2_with fail
  refine HP.out.mono ?_
  rintro e w2 ⟨v2, rfl, o2, b2⟩
  have HO := hid (o2.lo (lo' := w.heap.size) (by omega))
  have HB := hid (hbel.trans (b2.mono (by omega)))
  clear o2 b2 HP hbel hb
  go_wp2
  go_ret
  exact ⟨v2, rfl, HO.out, HB.out⟩
end Go.Proofs.Ytedajefapddekaa.fr
