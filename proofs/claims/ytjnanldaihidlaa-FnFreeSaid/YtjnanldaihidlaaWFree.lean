/-
  The walk of the law FnFree.
-/
import Derived.Test.YtjnanldaihidlaaFm
import Derived.Test.YtjnanldaihidlaaSf
namespace Go.Proofs.Ytjnanldaihidlaa.wfree
open Go.RowKit Go.Proofs.Ytjnanldaihidlaa.sl Go.Proofs.Ytjnanldaihidlaa.fn Go.Proofs.Ytjnanldaihidlaa.fv Go.Proofs.Ytjnanldaihidlaa.fr Go.Proofs.Ytjnanldaihidlaa.sr Go.Proofs.Ytjnanldaihidlaa.fm Go.Proofs.Ytjnanldaihidlaa.sf
set_option linter.unusedVariables false

theorem longQ (n cap : Nat) (ao : Option Addr) (q : Bool) (hq : decide ((1048576 : Int) < (n : Int)) = q) (w : World) :
    Calls Try.prog 13 #[.slice ao n cap] w fun e w' => e = .returned (.bool q) ∧ w' = w := by
  cases q
  · go_enter Try.func13, Try.ntmps13
    go_wp2
    go_ret
    exact ⟨rfl, rfl⟩
  · go_enter Try.func13, Try.ntmps13
    go_wp2
    go_ret
    exact ⟨rfl, rfl⟩
/-- A list that a call may read, of a value that it may take apart. -/
structure In (w : World) (v : Value) (xs : List Int) : Prop where
  rd : Ints w w.heap.size v xs
  nl : NilOk v
  cp : CapOk v
theorem In.of {w : World} {lo hi : Nat} {v : Value} {xs : List Int} (o : sl.Own w lo hi v xs) : In w v xs := ⟨o.ints.mono o.2.2, nilok_own o, capok_own o⟩
theorem In.below {w w' : World} {v : Value} {xs : List Int} (h : In w v xs) (b : Below w.heap.size w w') : In w' v xs := ⟨(h.rd.chg (Chg.ofBelow (lo := 0) b) (.inr (Nat.zero_le _))).mono b.size, h.nl, h.cp⟩
theorem redC {n : Int} {a r : List Int} {q : Bool} (hv : frB n a = q) (hr : frW n a (bw.redL a) = r) (hl : a.length ≤ 1000) (v : Value) (w : World) (h : In w v a) :
    Calls Try.prog 15 #[.int .i64 n, v] w fun e w' => ∃ v', e = .returned (.tuple #[v', .bool q]) ∧ sl.Own w' w.heap.size w'.heap.size v' r ∧ Below w.heap.size w w' := by
  have := implFreeReduce n a v _ w h.rd (Nat.le_refl _) (by omega) h.cp
  rwa [hv, hr] at this
theorem invC {n : Int} {a r : List Int} {q : Bool} (hv : frB n a = q) (hr : frW n a (invR a) = r) (hl : a.length ≤ 1000) (v : Value) (w : World) (h : In w v a) :
    Calls Try.prog 16 #[.int .i64 n, v] w fun e w' => ∃ v', e = .returned (.tuple #[v', .bool q]) ∧ sl.Own w' w.heap.size w'.heap.size v' r ∧ Below w.heap.size w w' := by
  have := implFreeInverse n a v _ w h.rd (Nat.le_refl _) (by omega) h.cp
  rwa [hv, hr] at this
theorem okC {n : Int} {a : List Int} {q : Bool} (hv : frB n a = q) (hl : a.length ≤ 1000) (v : Value) (w : World) (h : In w v a) :
    Calls Try.prog 17 #[.int .i64 n, v] w fun e w' => e = .returned (.bool q) ∧ Below w.heap.size w w' := by
  have := specFree n a v _ w h.rd (Nat.le_refl _) (by omega)
  rwa [hv] at this
theorem textC {n : Int} {a : List Int} {t : ByteArray} (ht : ft.ftT n a = t) (hl : a.length ≤ 1000) (v : Value) (w : World) (h : In w v a) :
    Calls Try.prog 18 #[.int .i64 n, v] w fun e w' => e = .returned (.string t) ∧ Below w.heap.size w w' := by
  have := ft.implFreeText n a v _ w h.rd (Nat.le_refl _) (by omega)
  rwa [ht] at this
theorem joinC {n : Int} {a b r : List Int} {c : Int} (hr : fjC n a b = c ∧ fjW n a b = r) (hl : a.length ≤ 1000) (hm : b.length ≤ 1000) (v u : Value) (w : World) (h : In w v a) (k : In w u b) :
    Calls Try.prog 19 #[.int .i64 n, v, u] w fun e w' => ∃ v', e = .returned (.tuple #[v', .int .i64 c]) ∧ sl.Own w' w.heap.size w'.heap.size v' r ∧ Below w.heap.size w w' := by
  have := implFreeJoin n a b v u _ _ w h.rd k.rd (Nat.le_refl _) (Nat.le_refl _) (by omega) (by omega) h.nl k.nl h.cp k.cp
  rwa [hr.1, hr.2] at this
theorem coreC {n : Int} {a c m : List Int} {q : Bool} (hv : frB n a = q) (hc : fcA n a = c) (hm : fcB n a = m) (hl : a.length ≤ 1000) (v : Value) (w : World) (h : In w v a) :
    Calls Try.prog 20 #[.int .i64 n, v] w fun e w' => ∃ vA vB k, e = .returned (.tuple #[vA, vB, .bool q]) ∧ w.heap.size ≤ k ∧ sl.Own w' w.heap.size k vA c ∧ sl.Own w' k w'.heap.size vB m ∧ Below w.heap.size w w' := by
  have := implFreeCore n a v _ w h.rd (Nat.le_refl _) (by omega) h.cp
  rwa [hv, hc, hm] at this
theorem readC {n : Int} {t : ByteArray} {r : List Int} {q : Bool} (hr : rfOk n t = q ∧ rfW n t = r) (hs : t.size ≤ 1048576) (w : World) :
    Calls Try.prog 21 #[.int .i64 n, .string t] w fun e w' => ∃ v', e = .returned (.tuple #[v', .bool q]) ∧ sl.Own w' w.heap.size w'.heap.size v' r ∧ Below w.heap.size w w' := by
  have := implReadFree n t w hs
  rwa [hr.1, hr.2] at this
theorem numC {a : List Int} (hl : a.length ≤ 20000) (v u : Value) (w : World) (h : In w v a) (k : In w u a) :
    Calls Try.prog 22 #[v, u] w fun e w' => e = .returned (.bool true) ∧ Below w.heap.size w w' :=
  (numsQ a a v u _ _ w h.rd k.rd (by omega) (by omega)).mono fun _ _ h => ⟨by rw [h.1, sameB_self], by obtain ⟨q, hq⟩ := h.2; rw [hq]; exact bdrewN (Below.refl _ _) q⟩

set_option maxRecDepth 100000 in
set_option maxHeartbeats 4000000 in
theorem law (b0 : Option Addr) (cap0 n : Nat) (w : World) (hb : Bytes w w.heap.size (.slice b0 n cap0) n) :
    Calls Try.prog 3 #[.slice b0 n cap0] w fun e w' => e = .returned (.bool true) ∧ Below w.heap.size w w' := by
  have HBy := hid hb
  clear hb
  by_cases hbig : n ≤ 1048576
  · have hd : decide ((1048576 : Int) < (n : Int)) = false := by simp; omega
    go_enter Try.func3, Try.ntmps3
    go_wp2_with fail
    refine (longQ n cap0 b0 false hd w).mono ?_
    rintro e w0 ⟨rfl, rfl⟩
    go_wp2_with fail
    refine (freeDraw n _ w0 HBy.out hbig).mono ?_
    rintro e W1 ⟨N, ua, ub, a, b, k, rfl, hN1, hN2, hla, hlb, o1, o2, b1⟩
    have hla2 : a.length ≤ 1000 := by omega
    have hlb2 : b.length ≤ 1000 := by omega
    have Ia : Hid (In W1 ua a) := hid (In.of o1)
    have Ib : Hid (In W1 ub b) := hid (In.of o2)
    have C1 := hid b1
    clear o1 o2 b1 HBy hd
    cases hva : frB N a
    · have HT := hid (ft.ft_bad hva)
      have HR0 := hid hva
      clear hva
      go_wp2_with fail
      refine (redC HR0.out rfl hla2 (ua) W1 Ia.out).mono ?_
      rintro e W2 ⟨v2, rfl, o2, b2⟩
      have Ia2 : Hid (In W2 (ua) a) := hid (Ia.out.below b2)
      have Ib2 : Hid (In W2 (ub) b) := hid (Ib.out.below b2)
      have C2 := hid (C1.out.trans (b2.mono (by have := C1.out.size; omega)))
      clear Ia Ib C1 b2
      go_wp2_with fail
      refine (invC HR0.out rfl hla2 (ua) W2 Ia2.out).mono ?_
      rintro e W3 ⟨v3, rfl, o3, b3⟩
      have Ia3 : Hid (In W3 (ua) a) := hid (Ia2.out.below b3)
      have Ib3 : Hid (In W3 (ub) b) := hid (Ib2.out.below b3)
      have C3 := hid (C2.out.trans (b3.mono (by have := C2.out.size; omega)))
      clear Ia2 Ib2 C2 b3
      go_wp2_with fail
      refine (okC HR0.out hla2 (ua) W3 Ia3.out).mono ?_
      rintro e W4 ⟨rfl, b4⟩
      have Ia4 : Hid (In W4 (ua) a) := hid (Ia3.out.below b4)
      have Ib4 : Hid (In W4 (ub) b) := hid (Ib3.out.below b4)
      have C4 := hid (C3.out.trans (b4.mono (by have := C3.out.size; omega)))
      clear Ia3 Ib3 C3 b4
      go_wp2_with fail
      refine (textC HT.out hla2 (ua) W4 Ia4.out).mono ?_
      rintro e W5 ⟨rfl, b5⟩
      have Ia5 : Hid (In W5 (ua) a) := hid (Ia4.out.below b5)
      have Ib5 : Hid (In W5 (ub) b) := hid (Ib4.out.below b5)
      have C5 := hid (C4.out.trans (b5.mono (by have := C4.out.size; omega)))
      clear Ia4 Ib4 C4 b5
      go_wp2
      go_ret
      exact ⟨rfl, C5.out⟩
    · obtain ⟨R, y, c, m, ic, l, p, t, code, hf⟩ := facts (b := b) hva hla2
      have HF := hid hf
      have hlR := hf.lR
      have hly := hf.ly
      have hlc := hf.lc
      have hlm := hf.lm
      have hli := hf.li
      have hll := hf.ll
      have hlp := hf.lp
      have HLen := hid hf.len
      clear hva hf
      go_wp2_with fail
      refine (redC HF.out.va HF.out.r1 hla2 (ua) W1 Ia.out).mono ?_
      rintro e W2 ⟨v2, rfl, o2, b2⟩
      obtain ⟨aoR, cpR, hvR⟩ := br.own_val o2
      subst hvR
      have Ia2 : Hid (In W2 (ua) a) := hid (Ia.out.below b2)
      have Ib2 : Hid (In W2 (ub) b) := hid (Ib.out.below b2)
      have IR2 : Hid (In W2 (.slice aoR (R).length cpR) R) := hid (In.of o2)
      have C2 := hid (C1.out.trans (b2.mono (by have := C1.out.size; omega)))
      clear Ia Ib o2 C1 b2
      go_wp2_with fail
      refine (invC HF.out.va HF.out.r2 hla2 (ua) W2 Ia2.out).mono ?_
      rintro e W3 ⟨v3, rfl, o3, b3⟩
      obtain ⟨aoy, cpy, hvy⟩ := br.own_val o3
      subst hvy
      have Ia3 : Hid (In W3 (ua) a) := hid (Ia2.out.below b3)
      have Ib3 : Hid (In W3 (ub) b) := hid (Ib2.out.below b3)
      have IR3 : Hid (In W3 (.slice aoR (R).length cpR) R) := hid (IR2.out.below b3)
      have Iy3 : Hid (In W3 (.slice aoy (y).length cpy) y) := hid (In.of o3)
      have C3 := hid (C2.out.trans (b3.mono (by have := C2.out.size; omega)))
      clear Ia2 Ib2 IR2 o3 C2 b3
      go_wp2_with fail
      refine (okC HF.out.va hla2 (ua) W3 Ia3.out).mono ?_
      rintro e W4 ⟨rfl, b4⟩
      have Ia4 : Hid (In W4 (ua) a) := hid (Ia3.out.below b4)
      have Ib4 : Hid (In W4 (ub) b) := hid (Ib3.out.below b4)
      have IR4 : Hid (In W4 (.slice aoR (R).length cpR) R) := hid (IR3.out.below b4)
      have Iy4 : Hid (In W4 (.slice aoy (y).length cpy) y) := hid (Iy3.out.below b4)
      have C4 := hid (C3.out.trans (b4.mono (by have := C3.out.size; omega)))
      clear Ia3 Ib3 IR3 Iy3 C3 b4
      go_wp2_with fail
      refine (joinC HF.out.j1 hla2 hly (ua) (.slice aoy (y).length cpy) W4 Ia4.out Iy4.out).mono ?_
      rintro e W5 ⟨v5, rfl, o5, b5⟩
      obtain ⟨aou, cpu, hvu⟩ := br.own_val o5
      subst hvu
      have Ia5 : Hid (In W5 (ua) a) := hid (Ia4.out.below b5)
      have Ib5 : Hid (In W5 (ub) b) := hid (Ib4.out.below b5)
      have IR5 : Hid (In W5 (.slice aoR (R).length cpR) R) := hid (IR4.out.below b5)
      have Iy5 : Hid (In W5 (.slice aoy (y).length cpy) y) := hid (Iy4.out.below b5)
      have Iu5 : Hid (In W5 (.slice aou (([] : List Int)).length cpu) ([] : List Int)) := hid (In.of o5)
      have C5 := hid (C4.out.trans (b5.mono (by have := C4.out.size; omega)))
      clear Ia4 Ib4 IR4 Iy4 o5 C4 b5
      go_wp2_with fail
      refine (coreC HF.out.va HF.out.ca HF.out.cb hla2 (ua) W5 Ia5.out).mono ?_
      rintro e W6 ⟨vA6, vB6, k6, rfl, hk6, oA6, oB6, b6⟩
      obtain ⟨aoc, cpc, hvc⟩ := br.own_val oA6
      subst hvc
      obtain ⟨aom, cpm, hvm⟩ := br.own_val oB6
      subst hvm
      have Ia6 : Hid (In W6 (ua) a) := hid (Ia5.out.below b6)
      have Ib6 : Hid (In W6 (ub) b) := hid (Ib5.out.below b6)
      have IR6 : Hid (In W6 (.slice aoR (R).length cpR) R) := hid (IR5.out.below b6)
      have Iy6 : Hid (In W6 (.slice aoy (y).length cpy) y) := hid (Iy5.out.below b6)
      have Iu6 : Hid (In W6 (.slice aou (([] : List Int)).length cpu) ([] : List Int)) := hid (Iu5.out.below b6)
      have Ic6 : Hid (In W6 (.slice aoc (c).length cpc) c) := hid (In.of oA6)
      have Im6 : Hid (In W6 (.slice aom (m).length cpm) m) := hid (In.of oB6)
      have C6 := hid (C5.out.trans (b6.mono (by have := C5.out.size; omega)))
      clear Ia5 Ib5 IR5 Iy5 Iu5 oA6 oB6 C5 b6
      go_wp2_with fail
      refine (invC HF.out.vc HF.out.r3 hlc (.slice aoc (c).length cpc) W6 Ic6.out).mono ?_
      rintro e W7 ⟨v7, rfl, o7, b7⟩
      obtain ⟨aoi, cpi, hvi⟩ := br.own_val o7
      subst hvi
      have Ia7 : Hid (In W7 (ua) a) := hid (Ia6.out.below b7)
      have Ib7 : Hid (In W7 (ub) b) := hid (Ib6.out.below b7)
      have IR7 : Hid (In W7 (.slice aoR (R).length cpR) R) := hid (IR6.out.below b7)
      have Iy7 : Hid (In W7 (.slice aoy (y).length cpy) y) := hid (Iy6.out.below b7)
      have Iu7 : Hid (In W7 (.slice aou (([] : List Int)).length cpu) ([] : List Int)) := hid (Iu6.out.below b7)
      have Ic7 : Hid (In W7 (.slice aoc (c).length cpc) c) := hid (Ic6.out.below b7)
      have Im7 : Hid (In W7 (.slice aom (m).length cpm) m) := hid (Im6.out.below b7)
      have Ii7 : Hid (In W7 (.slice aoi (ic).length cpi) ic) := hid (In.of o7)
      have C7 := hid (C6.out.trans (b7.mono (by have := C6.out.size; omega)))
      clear Ia6 Ib6 IR6 Iy6 Iu6 Ic6 Im6 o7 C6 b7
      go_wp2_with fail
      refine (joinC HF.out.j2 hlc hlm (.slice aoc (c).length cpc) (.slice aom (m).length cpm) W7 Ic7.out Im7.out).mono ?_
      rintro e W8 ⟨v8, rfl, o8, b8⟩
      obtain ⟨aol, cpl, hvl⟩ := br.own_val o8
      subst hvl
      have Ia8 : Hid (In W8 (ua) a) := hid (Ia7.out.below b8)
      have Ib8 : Hid (In W8 (ub) b) := hid (Ib7.out.below b8)
      have IR8 : Hid (In W8 (.slice aoR (R).length cpR) R) := hid (IR7.out.below b8)
      have Iy8 : Hid (In W8 (.slice aoy (y).length cpy) y) := hid (Iy7.out.below b8)
      have Iu8 : Hid (In W8 (.slice aou (([] : List Int)).length cpu) ([] : List Int)) := hid (Iu7.out.below b8)
      have Ic8 : Hid (In W8 (.slice aoc (c).length cpc) c) := hid (Ic7.out.below b8)
      have Im8 : Hid (In W8 (.slice aom (m).length cpm) m) := hid (Im7.out.below b8)
      have Ii8 : Hid (In W8 (.slice aoi (ic).length cpi) ic) := hid (Ii7.out.below b8)
      have Il8 : Hid (In W8 (.slice aol (l).length cpl) l) := hid (In.of o8)
      have C8 := hid (C7.out.trans (b8.mono (by have := C7.out.size; omega)))
      clear Ia7 Ib7 IR7 Iy7 Iu7 Ic7 Im7 Ii7 o8 C7 b8
      go_wp2_with fail
      refine (joinC HF.out.j3 hll hli (.slice aol (l).length cpl) (.slice aoi (ic).length cpi) W8 Il8.out Ii8.out).mono ?_
      rintro e W9 ⟨v9, rfl, o9, b9⟩
      obtain ⟨aow, cpw, hvw⟩ := br.own_val o9
      subst hvw
      have Ia9 : Hid (In W9 (ua) a) := hid (Ia8.out.below b9)
      have Ib9 : Hid (In W9 (ub) b) := hid (Ib8.out.below b9)
      have IR9 : Hid (In W9 (.slice aoR (R).length cpR) R) := hid (IR8.out.below b9)
      have Iy9 : Hid (In W9 (.slice aoy (y).length cpy) y) := hid (Iy8.out.below b9)
      have Iu9 : Hid (In W9 (.slice aou (([] : List Int)).length cpu) ([] : List Int)) := hid (Iu8.out.below b9)
      have Ic9 : Hid (In W9 (.slice aoc (c).length cpc) c) := hid (Ic8.out.below b9)
      have Im9 : Hid (In W9 (.slice aom (m).length cpm) m) := hid (Im8.out.below b9)
      have Ii9 : Hid (In W9 (.slice aoi (ic).length cpi) ic) := hid (Ii8.out.below b9)
      have Il9 : Hid (In W9 (.slice aol (l).length cpl) l) := hid (Il8.out.below b9)
      have Iw9 : Hid (In W9 (.slice aow (R).length cpw) R) := hid (In.of o9)
      have C9 := hid (C8.out.trans (b9.mono (by have := C8.out.size; omega)))
      clear Ia8 Ib8 IR8 Iy8 Iu8 Ic8 Im8 Ii8 Il8 o9 C8 b9
      go_wp2_with fail
      refine (textC HF.out.tx hla2 (ua) W9 Ia9.out).mono ?_
      rintro e W10 ⟨rfl, b10⟩
      have Ia10 : Hid (In W10 (ua) a) := hid (Ia9.out.below b10)
      have Ib10 : Hid (In W10 (ub) b) := hid (Ib9.out.below b10)
      have IR10 : Hid (In W10 (.slice aoR (R).length cpR) R) := hid (IR9.out.below b10)
      have Iy10 : Hid (In W10 (.slice aoy (y).length cpy) y) := hid (Iy9.out.below b10)
      have Iu10 : Hid (In W10 (.slice aou (([] : List Int)).length cpu) ([] : List Int)) := hid (Iu9.out.below b10)
      have Ic10 : Hid (In W10 (.slice aoc (c).length cpc) c) := hid (Ic9.out.below b10)
      have Im10 : Hid (In W10 (.slice aom (m).length cpm) m) := hid (Im9.out.below b10)
      have Ii10 : Hid (In W10 (.slice aoi (ic).length cpi) ic) := hid (Ii9.out.below b10)
      have Il10 : Hid (In W10 (.slice aol (l).length cpl) l) := hid (Il9.out.below b10)
      have Iw10 : Hid (In W10 (.slice aow (R).length cpw) R) := hid (Iw9.out.below b10)
      have C10 := hid (C9.out.trans (b10.mono (by have := C9.out.size; omega)))
      clear Ia9 Ib9 IR9 Iy9 Iu9 Ic9 Im9 Ii9 Il9 Iw9 C9 b10
      go_wp2_with fail
      refine (readC HF.out.rd HF.out.ts W10).mono ?_
      rintro e W11 ⟨v11, rfl, o11, b11⟩
      obtain ⟨aoz, cpz, hvz⟩ := br.own_val o11
      subst hvz
      have Ia11 : Hid (In W11 (ua) a) := hid (Ia10.out.below b11)
      have Ib11 : Hid (In W11 (ub) b) := hid (Ib10.out.below b11)
      have IR11 : Hid (In W11 (.slice aoR (R).length cpR) R) := hid (IR10.out.below b11)
      have Iy11 : Hid (In W11 (.slice aoy (y).length cpy) y) := hid (Iy10.out.below b11)
      have Iu11 : Hid (In W11 (.slice aou (([] : List Int)).length cpu) ([] : List Int)) := hid (Iu10.out.below b11)
      have Ic11 : Hid (In W11 (.slice aoc (c).length cpc) c) := hid (Ic10.out.below b11)
      have Im11 : Hid (In W11 (.slice aom (m).length cpm) m) := hid (Im10.out.below b11)
      have Ii11 : Hid (In W11 (.slice aoi (ic).length cpi) ic) := hid (Ii10.out.below b11)
      have Il11 : Hid (In W11 (.slice aol (l).length cpl) l) := hid (Il10.out.below b11)
      have Iw11 : Hid (In W11 (.slice aow (R).length cpw) R) := hid (Iw10.out.below b11)
      have Iz11 : Hid (In W11 (.slice aoz (a).length cpz) a) := hid (In.of o11)
      have C11 := hid (C10.out.trans (b11.mono (by have := C10.out.size; omega)))
      clear Ia10 Ib10 IR10 Iy10 Iu10 Ic10 Im10 Ii10 Il10 Iw10 o11 C10 b11
      have hlen1 : (R.length : Int) = 2 * (c.length : Int) + (m.length : Int) := by have := HLen.out; omega
      have hlen2 : ((R.length : Int) == 2 * (c.length : Int) + (m.length : Int)) = true := by simpa using hlen1
      have hlen3 : ((R.length : Int) != 2 * (c.length : Int) + (m.length : Int)) = false := by simpa using hlen1
      clear hlen1
      go_wp2_with fail
      refine (numC (by omega) (.slice aow (R).length cpw) (.slice aoR (R).length cpR) W11 Iw11.out IR11.out).mono ?_
      rintro e W12 ⟨rfl, b12⟩
      have Ia12 : Hid (In W12 (ua) a) := hid (Ia11.out.below b12)
      have Ib12 : Hid (In W12 (ub) b) := hid (Ib11.out.below b12)
      have IR12 : Hid (In W12 (.slice aoR (R).length cpR) R) := hid (IR11.out.below b12)
      have Iy12 : Hid (In W12 (.slice aoy (y).length cpy) y) := hid (Iy11.out.below b12)
      have Iu12 : Hid (In W12 (.slice aou (([] : List Int)).length cpu) ([] : List Int)) := hid (Iu11.out.below b12)
      have Ic12 : Hid (In W12 (.slice aoc (c).length cpc) c) := hid (Ic11.out.below b12)
      have Im12 : Hid (In W12 (.slice aom (m).length cpm) m) := hid (Im11.out.below b12)
      have Ii12 : Hid (In W12 (.slice aoi (ic).length cpi) ic) := hid (Ii11.out.below b12)
      have Il12 : Hid (In W12 (.slice aol (l).length cpl) l) := hid (Il11.out.below b12)
      have Iw12 : Hid (In W12 (.slice aow (R).length cpw) R) := hid (Iw11.out.below b12)
      have Iz12 : Hid (In W12 (.slice aoz (a).length cpz) a) := hid (Iz11.out.below b12)
      have C12 := hid (C11.out.trans (b12.mono (by have := C11.out.size; omega)))
      clear Ia11 Ib11 IR11 Iy11 Iu11 Ic11 Im11 Ii11 Il11 Iw11 Iz11 C11 b12
      go_wp2_with fail
      refine (numC (by omega) (.slice aoz (a).length cpz) (ua) W12 Iz12.out Ia12.out).mono ?_
      rintro e W13 ⟨rfl, b13⟩
      have Ia13 : Hid (In W13 (ua) a) := hid (Ia12.out.below b13)
      have Ib13 : Hid (In W13 (ub) b) := hid (Ib12.out.below b13)
      have IR13 : Hid (In W13 (.slice aoR (R).length cpR) R) := hid (IR12.out.below b13)
      have Iy13 : Hid (In W13 (.slice aoy (y).length cpy) y) := hid (Iy12.out.below b13)
      have Iu13 : Hid (In W13 (.slice aou (([] : List Int)).length cpu) ([] : List Int)) := hid (Iu12.out.below b13)
      have Ic13 : Hid (In W13 (.slice aoc (c).length cpc) c) := hid (Ic12.out.below b13)
      have Im13 : Hid (In W13 (.slice aom (m).length cpm) m) := hid (Im12.out.below b13)
      have Ii13 : Hid (In W13 (.slice aoi (ic).length cpi) ic) := hid (Ii12.out.below b13)
      have Il13 : Hid (In W13 (.slice aol (l).length cpl) l) := hid (Il12.out.below b13)
      have Iw13 : Hid (In W13 (.slice aow (R).length cpw) R) := hid (Iw12.out.below b13)
      have Iz13 : Hid (In W13 (.slice aoz (a).length cpz) a) := hid (Iz12.out.below b13)
      have C13 := hid (C12.out.trans (b13.mono (by have := C12.out.size; omega)))
      clear Ia12 Ib12 IR12 Iy12 Iu12 Ic12 Im12 Ii12 Il12 Iw12 Iz12 C12 b13
      go_wp2_with fail
      refine (joinC HF.out.j4 hla2 hlb2 (ua) (ub) W13 Ia13.out Ib13.out).mono ?_
      rintro e W14 ⟨v14, rfl, o14, b14⟩
      obtain ⟨aop, cpp, hvp⟩ := br.own_val o14
      subst hvp
      have Ia14 : Hid (In W14 (ua) a) := hid (Ia13.out.below b14)
      have Ib14 : Hid (In W14 (ub) b) := hid (Ib13.out.below b14)
      have IR14 : Hid (In W14 (.slice aoR (R).length cpR) R) := hid (IR13.out.below b14)
      have Iy14 : Hid (In W14 (.slice aoy (y).length cpy) y) := hid (Iy13.out.below b14)
      have Iu14 : Hid (In W14 (.slice aou (([] : List Int)).length cpu) ([] : List Int)) := hid (Iu13.out.below b14)
      have Ic14 : Hid (In W14 (.slice aoc (c).length cpc) c) := hid (Ic13.out.below b14)
      have Im14 : Hid (In W14 (.slice aom (m).length cpm) m) := hid (Im13.out.below b14)
      have Ii14 : Hid (In W14 (.slice aoi (ic).length cpi) ic) := hid (Ii13.out.below b14)
      have Il14 : Hid (In W14 (.slice aol (l).length cpl) l) := hid (Il13.out.below b14)
      have Iw14 : Hid (In W14 (.slice aow (R).length cpw) R) := hid (Iw13.out.below b14)
      have Iz14 : Hid (In W14 (.slice aoz (a).length cpz) a) := hid (Iz13.out.below b14)
      have Ip14 : Hid (In W14 (.slice aop (p).length cpp) p) := hid (In.of o14)
      have C14 := hid (C13.out.trans (b14.mono (by have := C13.out.size; omega)))
      clear Ia13 Ib13 IR13 Iy13 Iu13 Ic13 Im13 Ii13 Il13 Iw13 Iz13 o14 C13 b14
      go_wp2_with fail
      refine (joinC HF.out.j5 hlR hlb2 (.slice aoR (R).length cpR) (ub) W14 IR14.out Ib14.out).mono ?_
      rintro e W15 ⟨v15, rfl, o15, b15⟩
      obtain ⟨aoq, cpq, hvq⟩ := br.own_val o15
      subst hvq
      have Ia15 : Hid (In W15 (ua) a) := hid (Ia14.out.below b15)
      have Ib15 : Hid (In W15 (ub) b) := hid (Ib14.out.below b15)
      have IR15 : Hid (In W15 (.slice aoR (R).length cpR) R) := hid (IR14.out.below b15)
      have Iy15 : Hid (In W15 (.slice aoy (y).length cpy) y) := hid (Iy14.out.below b15)
      have Iu15 : Hid (In W15 (.slice aou (([] : List Int)).length cpu) ([] : List Int)) := hid (Iu14.out.below b15)
      have Ic15 : Hid (In W15 (.slice aoc (c).length cpc) c) := hid (Ic14.out.below b15)
      have Im15 : Hid (In W15 (.slice aom (m).length cpm) m) := hid (Im14.out.below b15)
      have Ii15 : Hid (In W15 (.slice aoi (ic).length cpi) ic) := hid (Ii14.out.below b15)
      have Il15 : Hid (In W15 (.slice aol (l).length cpl) l) := hid (Il14.out.below b15)
      have Iw15 : Hid (In W15 (.slice aow (R).length cpw) R) := hid (Iw14.out.below b15)
      have Iz15 : Hid (In W15 (.slice aoz (a).length cpz) a) := hid (Iz14.out.below b15)
      have Ip15 : Hid (In W15 (.slice aop (p).length cpp) p) := hid (Ip14.out.below b15)
      have Iq15 : Hid (In W15 (.slice aoq (p).length cpq) p) := hid (In.of o15)
      have C15 := hid (C14.out.trans (b15.mono (by have := C14.out.size; omega)))
      clear Ia14 Ib14 IR14 Iy14 Iu14 Ic14 Im14 Ii14 Il14 Iw14 Iz14 Ip14 o15 C14 b15
      go_wp2_with fail
      refine (numC (by omega) (.slice aop (p).length cpp) (.slice aoq (p).length cpq) W15 Ip15.out Iq15.out).mono ?_
      rintro e W16 ⟨rfl, b16⟩
      have Ia16 : Hid (In W16 (ua) a) := hid (Ia15.out.below b16)
      have Ib16 : Hid (In W16 (ub) b) := hid (Ib15.out.below b16)
      have IR16 : Hid (In W16 (.slice aoR (R).length cpR) R) := hid (IR15.out.below b16)
      have Iy16 : Hid (In W16 (.slice aoy (y).length cpy) y) := hid (Iy15.out.below b16)
      have Iu16 : Hid (In W16 (.slice aou (([] : List Int)).length cpu) ([] : List Int)) := hid (Iu15.out.below b16)
      have Ic16 : Hid (In W16 (.slice aoc (c).length cpc) c) := hid (Ic15.out.below b16)
      have Im16 : Hid (In W16 (.slice aom (m).length cpm) m) := hid (Im15.out.below b16)
      have Ii16 : Hid (In W16 (.slice aoi (ic).length cpi) ic) := hid (Ii15.out.below b16)
      have Il16 : Hid (In W16 (.slice aol (l).length cpl) l) := hid (Il15.out.below b16)
      have Iw16 : Hid (In W16 (.slice aow (R).length cpw) R) := hid (Iw15.out.below b16)
      have Iz16 : Hid (In W16 (.slice aoz (a).length cpz) a) := hid (Iz15.out.below b16)
      have Ip16 : Hid (In W16 (.slice aop (p).length cpp) p) := hid (Ip15.out.below b16)
      have Iq16 : Hid (In W16 (.slice aoq (p).length cpq) p) := hid (Iq15.out.below b16)
      have C16 := hid (C15.out.trans (b16.mono (by have := C15.out.size; omega)))
      clear Ia15 Ib15 IR15 Iy15 Iu15 Ic15 Im15 Ii15 Il15 Iw15 Iz15 Ip15 Iq15 C15 b16
      go_wp2
      go_ret
      exact ⟨rfl, C16.out⟩
  · have hd : decide ((1048576 : Int) < (n : Int)) = true := by simp; omega
    go_enter Try.func3, Try.ntmps3
    go_wp2_with fail
    refine (longQ n cap0 b0 true hd w).mono ?_
    rintro e w0 ⟨rfl, rfl⟩
    go_wp2
    go_ret
    exact ⟨rfl, Below.refl _ _⟩

end Go.Proofs.Ytjnanldaihidlaa.wfree
