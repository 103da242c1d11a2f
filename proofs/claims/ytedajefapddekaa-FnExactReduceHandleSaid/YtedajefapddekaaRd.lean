/-
  Contracts of ReduceBraid, of the program and of its model.
-/
import Derived.Test.YtedajefapddekaaIv
import Derived.ArgAppend
namespace Go.Proofs.Ytedajefapddekaa.br
open Go.RowKit Go.Proofs.Ytedajefapddekaa.sl Go.Proofs.Ytedajefapddekaa.pm Go.Proofs.Ytedajefapddekaa.bw Go.Proofs.Ytedajefapddekaa.fn

def rdcW (s : Int) (xs : List Int) : List Int := wordOk s xs (redL xs)
theorem rdcW_len (s : Int) (xs : List Int) : (rdcW s xs).length ≤ 1000 := by
  cases h : okB s xs
  · rw [rdcW, wordOk_no h]; simp
  · rw [rdcW, wordOk_yes h]
    have := (ok_parts h).2.2.1
    have := redL_len xs
    omega

/-- A slice that is cut down. -/
theorem own_cut {w : World} {lo hi n cap m : Nat} {ao : Option Addr} {xs : List Int} (o : Own w lo hi (.slice ao n cap) xs) (hm : m ≤ xs.length) : Own w lo hi (.slice ao m cap) (xs.take m) := by
  obtain ⟨hown, hlt, hhi⟩ := o
  refine ⟨?_, ?_, hhi⟩
  · have hl : (xs.take m).length = m := by simp; omega
    rw [hl]
    refine ⟨by simp; omega, ?_⟩
    rcases hown.2 with ⟨h1, h2⟩ | ⟨g, c, cur, h1, h2, h3, h4, h5, h6, h7⟩
    · cases h1
      obtain rfl : m = 0 := by omega
      exact .inl ⟨rfl, rfl⟩
    · cases h1
      refine .inr ⟨g, cap, cur, rfl, h2, h3, by omega, h5, h6, ?_⟩
      have e : cur.toList.take (m * 1) = (cur.toList.take (xs.length * 1)).take m := by rw [List.take_take]; congr 1; omega
      rw [e, h7, List.map_take]
  · intro g hg
    cases ao with
    | none => cases hg
    | some a => exact hlt g hg

theorem own_caps {w : World} {lo hi n cap : Nat} {ao : Option Addr} {xs : List Int} (o : Own w lo hi (.slice ao n cap) xs) : n ≤ cap ∧ cap ≤ 9223372036854775807 := by
  rcases o.1.2 with ⟨h1, h2⟩ | ⟨g, c, cur, h1, h2, h3, h4, h5, _⟩
  · cases h1; omega
  · cases h1; unfold maxLen at h5; omega

/-- append(s[:len:len], x): the slice is full, so there is a new block. -/
theorem wp_appendFull {ops : Array Oper} {rest : List Oper} {o : Oper} {a : Act} {Q : Exit → Act → World → Prop} {w : World} (hgd : o.guard = none) (s x : Operand) (T : TypeId) (hT : Try.prog.underlying T = some (.slice 2))
    (hop : o.op = .call { callee := .builtin .append, args := #[s, x], argTypes := #[T, T] })
    (lo hi : Nat) (ao : Option Addr) (n cap : Nat) (xs : List Int) (x0 : Int) (ho : Own w lo hi (.slice ao n cap) xs) (hn' : n = xs.length) (hs : a.eval s = .slice ao n n) (b0 : Nat) (hb0 : b0 = w.heap.size) (hx : a.eval x = .slice (some ⟨b0, 0, none⟩) 1 1) (hn : xs.length ≤ 1099511627776)
    (hK : ∀ v' w', Own w' w.heap.size w'.heap.size v' (xs ++ [x0]) → Below w.heap.size w w' → wpList Try.prog ops Q rest (a.put o.dst v') w') : wpList Try.prog ops Q (o :: rest) a (w.alloc (.cells #[.int .i64 x0] 2)) := by
  subst hb0
  obtain ⟨i0, hi', hz0, hz1, hz2⟩ := info_parts info64
  have hown := ho.1.alloc (.cells #[.int .i64 x0] 2)
  refine wpList_append_grows _ hgd s x T hop 2 i0 (.int .i64 0) 1 8 hT hi' hz0 hz1 hz2 rfl (by decide) ao n n (xs.map (Value.int .i64)) hs ?_ (by simp [hn']) ?_ ⟨w.heap.size, 0, none⟩ 1 1 [.int .i64 x0] hx rfl ?_ ?_ (by omega) ?_ ?_ ?_
  · intro h
    rcases ho.1.2 with ⟨h1, h2⟩ | ⟨g, c, cur, h1, _⟩
    · exact ⟨by omega, by omega⟩
    · rw [h] at h1; cases h1
  · intro b hb j u hj
    subst hb
    rcases ho.1.2 with ⟨h1, h2⟩ | ⟨g, c, cur, h1, _⟩
    · cases h1
    · simp only [Value.slice.injEq, Option.some.injEq] at h1
      obtain ⟨rfl, rfl, rfl⟩ := h1
      have hjl : j < xs.length := by
        have := (List.getElem?_eq_some_iff.1 hj).1
        simpa using this
      have h2 := ((own_al ho (.cells #[.int .i64 x0] 2)).at' j hjl).1
      rw [Addr.add_lit, Nat.zero_add, h2]
      simp only [List.getElem?_map, List.getElem?_eq_getElem hjl, Option.map_some, Option.some.injEq] at hj
      rw [← hj]
      simp [List.getD, List.getElem?_eq_getElem hjl]
  · intro j u hj
    match j, hj with
    | 0, hj =>
      simp only [List.getElem?_cons_zero, Option.some.injEq] at hj
      subst hj
      rw [Addr.add_lit, World.cell?_alloc_at _ _ _ _ rfl]; rfl
  · intro u hu; simp at hu; subst hu; rfl
  · unfold maxLen; omega
  · omega
  · intro v' w' h1 h2
    have hsz : w.heap.size + 1 ≤ w'.heap.size := by have := h2.size; simpa using this
    have e : (xs ++ [x0]).length = n + 1 := by simp [hn']
    refine hK v' w' ((Own.mk' (lo := (w.alloc (.cells #[.int .i64 x0] 2)).heap.size) (by rw [e, List.map_append]; exact h1)).lo (by simp)) ?_
    exact ((Below.refl w.heap.size w).alloc (Nat.le_refl _) _).trans ((below_grown h2).mono (by simp))

theorem infoLS : Try.prog.underlying 128 = some (.slice 2) := by kernel_rfl

set_option maxHeartbeats 400000 in
theorem implPush (x : Int) (hx : -100 ≤ x ∧ x ≤ 100) (v : Value) (lo hi : Nat) (st : List Int) (w : World) (ho : Own w lo hi v st) (hlo : lo ≤ w.heap.size) (hn : st.length ≤ 1099511627776) :
    Calls Try.prog 111 #[v, .int .i64 x] w fun e w' => ∃ v', e = .returned v' ∧ Own w' lo w'.heap.size v' (push st x) ∧ Below w.heap.size w w' := by
  obtain ⟨hx0, hx1⟩ := hx
  obtain ⟨ao, cap, rfl⟩ := own_val ho
  have HO := hid ho
  by_cases h0 : st = []
  · subst h0
    have HP : Hid (push [] x = [x]) := hid rfl
    rw [HP.out]
    clear ho
    go_enter Try.func111, Try.ntmps111
    go_wp2_with (at_builtin; refine wp_appendFull rfl _ _ 128 infoLS rfl lo hi ao 0 cap [] x HO.out rfl rfl w.heap.size rfl rfl (by simp) ?_; intro v' w1 o1 b1)
    go_ret
    exact ⟨_, rfl, o1.lo hlo, b1⟩
  · obtain ⟨n, hnn⟩ : ∃ n, st.length = n + 1 := ⟨st.length - 1, by have := List.length_pos_iff.2 h0; omega⟩
    obtain ⟨g, c, hv, _, _⟩ : ∃ g c, (Value.slice ao st.length cap) = .slice (some ⟨g, 0, none⟩) st.length c ∧ lo ≤ g ∧ g < hi := by
      rcases ho.1.2 with ⟨h, h1⟩ | ⟨g, c, cur, h, hg, _⟩
      · omega
      · exact ⟨g, c, h, hg, ho.2.1 g (by rw [h]; rfl)⟩
    simp only [Value.slice.injEq] at hv
    obtain ⟨rfl, _, rfl⟩ := hv
    have h1 := (ho.at' n (by omega)).1
    have HL := hid hnn
    rw [hnn] at HO hn ⊢
    have hcc := (own_caps HO.out).1
    have hcm := (own_caps HO.out).2
    clear ho hnn h0
    by_cases he : st.getD n 0 = -x
    · have HP : Hid (push st x = st.take n) := hid (push_pop st x n HL.out he)
      rw [he] at h1
      rw [HP.out]
      clear he
      go_enter Try.func111, Try.ntmps111
      go_wp2
      go_ret
      have hc := own_cut HO.out (m := n) (by rw [HL.out]; omega)
      exact ⟨_, rfl, hc.hi hc.2.2 (Nat.le_refl _), Below.refl _ _⟩
    · have HP : Hid (push st x = st ++ [x]) := hid (push_app st x n HL.out he)
      have hd : (st.getD n 0 == -x) = false := by simpa using he
      rw [HP.out]
      clear he
      generalize st.getD n 0 = y at *
      go_enter Try.func111, Try.ntmps111
      go_wp2_with (at_builtin; refine wp_appendFull rfl _ _ 128 infoLS rfl lo hi (some ⟨g, 0, none⟩) (n + 1) cap st x HO.out HL.out.symm rfl w.heap.size rfl rfl (by rw [HL.out]; omega) ?_; intro v' w1 o1 b1)
      go_ret
      exact ⟨_, rfl, o1.lo hlo, b1⟩

theorem redTo_len' (xs : List Int) (k : Nat) (h : k ≤ xs.length) (h40 : xs.length ≤ 40) : (redTo xs k).length ≤ 1099511627776 := by
  have := redTo_len xs k h
  omega

set_option maxHeartbeats 800000 in
theorem implReduce (s : Int) (xs : List Int) (v : Value) (B : Nat) (w : World) (ha : Ints w B v xs) (hB : B ≤ w.heap.size) (hn : xs.length ≤ 1099511627776) :
    Calls Try.prog 73 #[.agg #[.int .i64 s, v]] w fun e w' => ∃ ao cap, e = .returned (.agg #[.int .i64 (strOk s xs), .slice ao (rdcW s xs).length cap]) ∧ Own w' w.heap.size w'.heap.size (.slice ao (rdcW s xs).length cap) (rdcW s xs) ∧ Below w.heap.size w w' := by
  obtain ⟨ao, cap, hv⟩ := ints_val ha
  obtain ⟨n, hnn⟩ : ∃ n, n = xs.length := ⟨_, rfl⟩
  rw [← hnn] at hv
  subst hv
  have HA := hid ha
  have HN := hid hnn
  clear ha hnn
  have HV := hid (implValidB s xs (.slice ao n cap) B ((w.alloc (.cells #[.int .i64 s, .slice ao n cap] 39)).alloc (.cells #[.int .i64 0, .slice none 0 0] 39)) (ints_al (ints_al HA.out _) _) (by simp; omega) hn)
  cases h : okB s xs
  · have HW : Hid (rdcW s xs = [] ∧ strOk s xs = 0) := hid ⟨by rw [rdcW, wordOk_no h], strOk_no h⟩
    rw [h] at HV
    rw [HW.out.1, HW.out.2, List.length_nil]
    clear h
    go_enter Try.func73, Try.ntmps73
    go_wp2_with fail
    refine HV.out.mono ?_
    rintro e w1 ⟨rfl, b1⟩
    have HB1 := hid (box2 b1)
    have r0 := (HB1.out.2.1 0).1
    have r1 := (HB1.out.2.1 1).1
    have f0 := (HB1.out.2.1 0).2
    have f1 := (HB1.out.2.1 1).2
    have hz := HB1.out.2.2.2
    simp at r0 r1
    clear b1 HV
    go_wp2
    refine bodyPost_ret (v := .agg #[.int .i64 0, .slice none 0 0]) (by simp [results, Try.results73, go_sem, r0, r1]) rfl ⟨none, 0, rfl, Own.nil _ _, ?_⟩
    exact (HB1.out.2.2.1.setCell (by simp) _).setCell (by simp) _
  · have HW : Hid (rdcW s xs = redL xs ∧ strOk s xs = s) := hid ⟨by rw [rdcW, wordOk_yes h], strOk_yes h⟩
    have HK := hid (ok_small h)
    have hl : n ≤ 40 := by rw [HN.out]; exact (ok_parts h).2.2.1
    rw [h] at HV
    rw [HW.out.1, HW.out.2]
    obtain ⟨m, hm⟩ : ∃ m, m = (redL xs).length := ⟨_, rfl⟩
    rw [← hm]
    have HM := hid hm.symm
    clear h hm
    go_enter Try.func73, Try.ntmps73
    go_wp2_with fail
    refine HV.out.mono ?_
    rintro e w1 ⟨rfl, b1⟩
    have HB1 := hid (box2 b1)
    have d0 := HB1.out.1 0
    have d1 := HB1.out.1 1
    have r0 := (HB1.out.2.1 0).1
    have r1 := (HB1.out.2.1 1).1
    have f0 := (HB1.out.2.1 0).2
    have f1 := (HB1.out.2.1 1).2
    have hz := HB1.out.2.2.2
    simp at d0 d1 r0 r1
    have HA1 := hid (HA.out.chg (Chg.ofBelow (lo := 0) HB1.out.2.2.1) (.inr (Nat.zero_le _)))
    clear b1 HV HA
    go_wp2
    go_loopw [3, 13] (fun u i wr => ∃ k : Nat, k ≤ n ∧ i = .int .i64 k ∧ (∃ ao cap, u = .slice ao (redTo xs k).length cap) ∧ Own wr (w.heap.size + 2) wr.heap.size u (redTo xs k) ∧ Below (w.heap.size + 2) w1 wr)
      (fun _ i _ => n - (intOf i).toNat)
    case atStart => exact ⟨0, Nat.zero_le _, rfl, ⟨none, 0, rfl⟩, Own.nil _ _, Below.refl _ _⟩
    case round =>
      obtain ⟨k, hk, rfl, ⟨ao2, cap2, rfl⟩, hown, hbel⟩ := hrel
      have HO := hid hown
      have HB := hid hbel
      have hzr := hbel.size
      clear hown hbel
      by_cases hlt : k < n
      · rcases HA1.out with ⟨hx, _⟩ | ⟨hp, b, off, cap', hv, hb, hc⟩
        · rw [HN.out, hx] at hlt; simp at hlt
        · simp only [Value.slice.injEq] at hv
          obtain ⟨rfl, hlen, rfl⟩ := hv
          clear hlen
          have h1 : wr.cell? ⟨b, off + k, none⟩ = some (.int .i64 (xs.getD k 0)) := (HB.out.cell (p := ⟨b, off + k, none⟩) (by show b < _; omega)).trans (hc k (by rw [← HN.out]; exact hlt))
          have hx := HK.out k (by rw [← HN.out]; exact hlt)
          have HS := hid (redTo_succ xs k (by rw [← HN.out]; exact hlt))
          have hle := redTo_len' xs k (by rw [← HN.out]; omega) (by rw [← HN.out]; exact hl)
          clear hc hp
          generalize xs.getD k 0 = x at *
          have HP := hid (implPush x hx (.slice ao2 (redTo xs k).length cap2) (w.heap.size + 2) wr.heap.size (redTo xs k) wr HO.out (by omega) hle)
          rw [← HS.out] at HP
          generalize (redTo xs k).length = mk at *
          go_wp2_with fail
          refine HP.out.mono ?_
          rintro e w2 ⟨v2, rfl, o2, b2⟩
          have HO2 := hid o2
          have HB2 := hid (HB.out.trans (b2.mono (by omega)))
          obtain ⟨ao3, cap3, rfl⟩ := own_val o2
          clear o2 b2
          generalize hm3 : (redTo xs (k + 1)).length = m3 at *
          have HM3 := hid hm3
          clear hm3
          go_wp2
          go_roundw
          case rel => exact ⟨k + 1, by omega, by go_num, ⟨ao3, cap3, by rw [HM3.out]⟩, HO2.out, HB2.out⟩
          case measure => simp [intOf]; omega
      · obtain rfl : k = n := by omega
        have HS : Hid (redTo xs k = redL xs) := hid (by rw [HN.out]; exact redTo_all xs)
        rw [HS.out, HM.out] at HO ⊢
        have x0 := (HB.out.cell (p := ⟨w.heap.size, 0, none⟩) (by show w.heap.size < _; omega)).trans d0
        have y0 := (HB.out.cell (p := ⟨w.heap.size + 1, 0, none⟩) (by show w.heap.size + 1 < _; omega)).trans r0
        have y1 := (HB.out.cell (p := ⟨w.heap.size + 1, 1, none⟩) (by show w.heap.size + 1 < _; omega)).trans r1
        have q0 := (HB.out.frozen (p := ⟨w.heap.size + 1, 0, none⟩) (by show w.heap.size + 1 < _; omega)).trans f0
        have q1 := (HB.out.frozen (p := ⟨w.heap.size + 1, 1, none⟩) (by show w.heap.size + 1 < _; omega)).trans f1
        clear d0 d1 r0 r1 f0 f1
        go_wp2
        show bodyPost Try.prog Try.f73 _ Exit.ret _ _
        refine bodyPost_ret (v := .agg #[.int .i64 s, .slice ao2 m cap2]) (by simp [results, Try.results73, go_sem, y0, y1]) rfl ?_
        refine ⟨_, _, rfl, ?_, ?_⟩
        · have h := own_other (own_other HO.out (w.heap.size + 1) 0 (.int .i64 s) (by omega)) (w.heap.size + 1) 1 (.slice ao2 m cap2) (by omega)
          have h2 := h.lo (lo' := w.heap.size) (by omega)
          simpa using h2
        · exact ((HB1.out.2.2.1.trans (HB.out.mono (by omega))).setCell (by simp) _).setCell (by simp) _

set_option maxHeartbeats 800000 in
theorem specRed (xs : List Int) (v : Value) (B : Nat) (w : World) (ha : Ints w B v xs) (hB : B ≤ w.heap.size) (hn : xs.length ≤ 40) (hb : ∀ j, j < xs.length → -100 ≤ xs.getD j 0 ∧ xs.getD j 0 ≤ 100) :
    Calls Try.prog 66 #[v] w fun e w' => ∃ v', e = .returned v' ∧ Own w' w.heap.size w'.heap.size v' (redL xs) ∧ Below w.heap.size w w' := by
  rcases ha with ⟨rfl, ao, cap, rfl⟩ | ⟨hp, b, off, cap, rfl, hbb, hc⟩
  · go_enter Try.func66, Try.ntmps66
    go_wp2
    refine wp_loop_rounds 1 ?_
    rw [rounds_succ]
    go_wp2
    go_ret
    exact ⟨_, rfl, Own.built w _ rfl, (Below.refl _ _).alloc (Nat.le_refl _) _⟩
  · obtain ⟨n, hnn⟩ : ∃ n, n = xs.length := ⟨_, rfl⟩
    rw [← hnn] at hp hc hn hb ⊢
    have HN := hid hnn
    have HC := hid hc
    have HBd := hid hb
    clear hnn hc hb
    go_enter Try.func66, Try.ntmps66
    go_wp2
    go_loopw [3, 4] (fun u i wr => ∃ k : Nat, k ≤ n ∧ i = .int .i64 k ∧ Own wr w.heap.size wr.heap.size u (redTo xs k) ∧ Below w.heap.size w wr)
      (fun _ i _ => n - (intOf i).toNat)
    case atStart => exact ⟨0, Nat.zero_le _, rfl, Own.built w _ rfl, (Below.refl _ _).alloc (Nat.le_refl _) _⟩
    case round =>
      obtain ⟨k, hk, rfl, hown, hbel⟩ := hrel
      have HO := hid hown
      have HB := hid hbel
      have hsz := hbel.size
      obtain ⟨ao2, cap2, rfl⟩ := own_val hown
      by_cases hlt : k < n
      · have hbx := HBd.out k hlt
        have h1 : wr.cell? ⟨b, off + k, none⟩ = some (.int .i64 (xs.getD k 0)) := (HB.out.cell (p := ⟨b, off + k, none⟩) (by show b < _; omega)).trans (HC.out k hlt)
        have HS := hid (redTo_succ xs k (by rw [← HN.out]; exact hlt))
        have hle := redTo_len xs k (by rw [← HN.out]; omega)
        generalize xs.getD k 0 = x at *
        by_cases h0 : redTo xs k = []
        · rw [h0] at HO HS
          rw [h0, List.length_nil]
          have HP : Hid (redTo xs (k + 1) = [] ++ [x]) := hid (by rw [HS.out]; rfl)
          clear hown hbel h0 HS hle
          go_wp2
          go_quiet (fail)
          have HO' : Hid (Own (wr.drewN nq) w.heap.size (wr.drewN nq).heap.size (.slice ao2 0 cap2) []) := hid (HO.out.drewN nq)
          have HB' : Hid (Below w.heap.size w (wr.drewN nq)) := hid (bdrewN HB.out nq)
          have h1' : (wr.drewN nq).cell? ⟨b, off + k, none⟩ = some (.int .i64 x) := h1
          have hsz' : w.heap.size ≤ (wr.drewN nq).heap.size := hsz
          generalize wr.drewN nq = wq at *
          clear h1 hsz HO HB
          go_wp2_with (at_builtin; refine wp_append rfl _ _ rfl w.heap.size wq.heap.size _ [] x HO'.out rfl rfl hsz' (by simp) ?_; intro v' w1 hown1 hchg1 hsz1)
          have HO1 := hid hown1
          have HB1 := hid (HB'.out.trans (hchg1.below (Nat.le_refl _) hsz'))
          clear hown1 hchg1
          go_wp2
          go_roundw
          case rel => exact ⟨k + 1, by omega, by go_num, by rw [HP.out]; exact HO1.out, HB1.out⟩
          case measure => simp [intOf]; omega
        · obtain ⟨m, hm⟩ : ∃ m, (redTo xs k).length = m + 1 := ⟨(redTo xs k).length - 1, by have := List.length_pos_iff.2 h0; omega⟩
          obtain ⟨g, hg⟩ : ∃ g, ao2 = some ⟨g, 0, none⟩ := by
            rcases hown.1.2 with ⟨h, h1⟩ | ⟨g, c, cur, h, _⟩
            · omega
            · cases h; exact ⟨g, rfl⟩
          subst hg
          have h2 := (hown.at' m (by omega)).1
          have hcc := (own_caps hown).1
          have hcm := (own_caps hown).2
          have HL := hid hm
          rw [hm] at HO hle hcc ⊢
          clear hown hbel h0 hm
          by_cases he : (redTo xs k).getD m 0 = -x
          · have HP : Hid (redTo xs (k + 1) = (redTo xs k).take m) := hid (by rw [HS.out]; exact push_pop _ x m HL.out he)
            rw [he] at h2
            clear he
            go_wp2
            go_quiet (fail)
            have HB' : Hid (Below w.heap.size w (wr.drewN nq)) := hid (bdrewN HB.out nq)
            have hc := own_cut (HO.out.drewN nq) (m := m) (by rw [HL.out]; omega)
            have HO' := hid (hc.hi (hi' := (wr.drewN nq).heap.size) (Nat.le_refl _) (Nat.le_refl _))
            clear hc
            generalize wr.drewN nq = wq at *
            go_wp2
            go_roundw
            case rel => exact ⟨k + 1, by omega, by go_num, by rw [HP.out]; exact HO'.out, HB'.out⟩
            case measure => simp [intOf]; omega
          · have HP : Hid (redTo xs (k + 1) = redTo xs k ++ [x]) := hid (by rw [HS.out]; exact push_app _ x m HL.out he)
            have hd : ((redTo xs k).getD m 0 == -x) = false := by simpa using he
            clear he
            generalize (redTo xs k).getD m 0 = y at *
            go_wp2
            go_quiet (fail)
            have HO' := hid (HO.out.drewN nq)
            have HB' : Hid (Below w.heap.size w (wr.drewN nq)) := hid (bdrewN HB.out nq)
            have h1' : (wr.drewN nq).cell? ⟨b, off + k, none⟩ = some (.int .i64 x) := h1
            have hsz' : w.heap.size ≤ (wr.drewN nq).heap.size := hsz
            have HO'' : Hid (Own (wr.drewN nq) w.heap.size (wr.drewN nq).heap.size (.slice (some ⟨g, 0, none⟩) (m + 1) cap2) (redTo xs k)) := HO'
            generalize wr.drewN nq = wq at *
            clear h1 h2 hsz HO HB HO'
            go_wp2_with (at_builtin; refine wp_append rfl _ _ rfl w.heap.size wq.heap.size _ (redTo xs k) x HO''.out rfl rfl hsz' (by rw [HL.out]; omega) ?_; intro v' w1 hown1 hchg1 hsz1)
            have HO1 := hid hown1
            have HB1 := hid (HB'.out.trans (hchg1.below (Nat.le_refl _) hsz'))
            clear hown1 hchg1
            go_wp2
            go_roundw
            case rel => exact ⟨k + 1, by omega, by go_num, by rw [HP.out]; exact HO1.out, HB1.out⟩
            case measure => simp [intOf]; omega
      · obtain rfl : k = n := by omega
        have HS : Hid (redTo xs k = redL xs) := hid (by rw [HN.out]; exact redTo_all xs)
        clear hown hbel
        generalize (redTo xs k).length = m at *
        go_wp2
        go_ret
        exact ⟨_, rfl, by rw [← HS.out]; exact HO.out, HB.out⟩

end Go.Proofs.Ytedajefapddekaa.br
