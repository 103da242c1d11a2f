/-
  NeedOf of the model: the open group, and both sums.
-/
import Derived.Test.YtiacfejileeieabDoorNd1
import Derived.Test.YtiacfejileeieabDoorPvs
namespace Go.Proofs.YtiacfejileeieabDoor.pc
open Go.RowKit Go.Sort Go.Proofs.YtiacfejileeieabDoor.sl Go.Proofs.YtiacfejileeieabDoor.st
set_option linter.unusedVariables false
set_option linter.unusedSimpArgs false
set_option maxRecDepth 100000

theorem cnt_zero : ∀ (ys : List V), cnt ys = 0 → ∀ j, j < ys.length → opn (ys.getD j oz) = false
  | [], _, j, hj => by simp at hj
  | x :: r, h, 0, hj => by
    rw [cnt] at h
    cases ho : opn x
    · simpa [List.getD] using ho
    · rw [ho] at h; simp at h
  | x :: r, h, j + 1, hj => by
    rw [cnt] at h
    have := cnt_zero r (by omega) j (by simpa using hj)
    simpa [List.getD] using this
/-- An open group is an outer piece. -/
theorem opn_outer : ∀ (n : Nat) (xs : List V), xs.length = n → arP 0 xs = true → ∀ k, k < xs.length → opn (xs.getD k oz) = true → arP 0 (xs.drop k) = true := by
  intro n
  induction n using Nat.strongRecOn with
  | _ n ih =>
    intro xs hn h k hk ho
    cases xs with
    | nil => simp at hk
    | cons x r =>
      cases k with
      | zero => exact h
      | succ j =>
        rw [arP_cons] at h
        simp only [Bool.and_eq_true, decide_eq_true_eq] at h
        obtain ⟨h1, h2, h3, h4⟩ := h
        have hj : j < r.length := by simpa using hk
        have ho' : opn (r.getD j oz) = true := by simpa [List.getD] using ho
        rw [List.drop_succ_cons]
        by_cases hi : j < ins x r
        · exfalso
          have e1 := cnt_in _ _ 1 rfl (by omega) h3
          have e2 := cnt_zero _ e1 j (by rw [List.length_take]; omega)
          have e3 : (r.take (ins x r)).getD j oz = r.getD j oz := by simp [List.getD, List.getElem?_take, hi]
          rw [e3, ho'] at e2
          cases e2
        · have e4 : (r.drop (ins x r)).getD (j - ins x r) oz = r.getD j oz := by
            simp only [List.getD, List.getElem?_drop]
            rw [show ins x r + (j - ins x r) = j from by omega]
          have := ih (r.drop (ins x r)).length (by rw [List.length_drop]; simp at hn; omega) _ rfl h4 (j - ins x r) (by rw [List.length_drop]; omega) (by rw [e4]; exact ho')
          rw [List.drop_drop] at this
          rwa [show ins x r + (j - ins x r) = j from by omega] at this
theorem part_at {xs : List V} {k : Nat} (hk : k < xs.length) (h : ∀ j, j < k → opn (xs.getD j oz) = false) (ho : opn (xs.getD k oz) = true) : part xs = inside xs k := by
  have h1 : ∀ (q : Nat) (ys : List V), q < ys.length → (∀ j, j < q → opn (ys.getD j oz) = false) → opn (ys.getD q oz) = true → part ys = (ys.drop (q + 1)).take (ins (ys.getD q oz) (ys.drop (q + 1))) := by
    intro q
    induction q with
    | zero =>
      intro ys hq _ ho
      cases ys with
      | nil => simp at hq
      | cons x r =>
        have hx : opn x = true := by simpa [List.getD] using ho
        rw [part, if_pos hx]
        simp [List.getD]
    | succ q ih =>
      intro ys hq hb ho
      cases ys with
      | nil => simp at hq
      | cons x r =>
        have hx : opn x = false := by have := hb 0 (by omega); simpa [List.getD] using this
        rw [part, if_neg (by rw [hx]; simp)]
        have := ih r (by simpa using hq) (fun j hj => by have := hb (j + 1) (by omega); simpa [List.getD] using this) (by simpa [List.getD] using ho)
        rw [this]
        simp [List.getD]
  exact h1 k xs hk h ho
theorem part_no {xs : List V} (h : ∀ j, j < xs.length → opn (xs.getD j oz) = false) : part xs = [] := by
  induction xs with
  | nil => rfl
  | cons x r ih =>
    have hx : opn x = false := by have := h 0 (by simp); simpa [List.getD] using this
    rw [part, if_neg (by rw [hx]; simp)]
    exact ih (fun j hj => by have := h (j + 1) (by simpa using hj); simpa [List.getD] using this)
theorem okP_parts {xs : List V} (h : okP xs = true) : xs.length ≤ 24 ∧ arP 0 xs = true ∧ cnt xs ≤ 1 := by
  simpa [okP, and_assoc] using h
/-- What NeedOf answers. -/
def ndA (xs : List V) : Int := if okP xs = true then sumP tk xs else 0
def ndB (xs : List V) : Int := if okP xs = true then sumP tk (part xs) else 0
theorem nd_no {xs : List V} (h : okP xs = false) : ndA xs = 0 ∧ ndB xs = 0 := by simp [ndA, ndB, h]
theorem nd_yes {xs : List V} (h : okP xs = true) : ndA xs = sumP tk xs ∧ ndB xs = sumP tk (part xs) := by simp [ndA, ndB, h]

def OpnR (w : World) (B : Nat) (xs : List V) (e : Ending) : Prop := ∃ (u : Value) (q : Bool), e = .returned (.tuple #[u, .bool q]) ∧ OpsC w B u (part xs)
set_option maxHeartbeats 4000000 in
theorem specOpen (xs : List V) (v : Value) (B : Nat) (w : World) (ha : OpsC w B v xs) (hB : B ≤ w.heap.size) (hlen : xs.length ≤ 24) (har : arP 0 xs = true) :
    Calls Tryd.prog 24 #[v] w fun e w' => OpnR w B xs e ∧ w = w' := by
  rcases ha with ⟨rfl, ao, cap, rfl, hao⟩ | ⟨hp, b, off, cap, rfl, hcap, hcm, hb, hc⟩
  · go_enter Tryd.func24, Tryd.ntmps24
    go_wp2
    refine wp_loop_rounds 1 ?_
    rw [rounds_succ]
    go_wp2
    go_ret2
    exact ⟨⟨_, _, rfl, .inl ⟨rfl, none, 0, rfl, fun _ => rfl⟩⟩, rfl⟩
  · have HIn := hid (fun k (hk : k < xs.length) => insV_ops (w := w) (B := B) (xs := xs) (b := b) (off := off) (cap := cap) hb hcap hcm hc k hk)
    have HOu := hid (fun k (hk : k < xs.length) ho => arP_at (opn_outer xs.length xs rfl har k hk ho) hk)
    have HPa := hid (fun k (hk : k < xs.length) h ho => part_at (xs := xs) hk h ho)
    have HPn := hid (fun h => part_no (xs := xs) h)
    have HIl := hid (fun k (hk : k < xs.length) => nx_le xs k hk)
    obtain ⟨n, hnn⟩ : ∃ n, n = xs.length := ⟨_, rfl⟩
    rw [← hnn] at hp hlen HOu HIn HPa HPn HIl hcap ⊢
    have HC := hid (fun j (h : j < n) => hc j (by rw [← hnn]; exact h))
    clear hnn hc har
    go_enter Tryd.func24, Tryd.ntmps24
    go_wp2
    go_loop [4] (fun i => ∃ k : Nat, k ≤ n ∧ i = .int .i64 k ∧ Hid (∀ j, j < k → opn (xs.getD j oz) = false)) (fun i => n - (intOf i).toNat)
    case atStart => exact ⟨0, Nat.zero_le _, rfl, hid fun j hj => by omega⟩
    case round =>
      obtain ⟨k, hk, rfl, HG⟩ := hrel
      by_cases hlt : k < n
      · have HA := HC.out k hlt
        have c0 := HA.c0
        have c1 := HA.c1
        have c2 := HA.c2
        have hi1 := HIn.out k hlt
        have hvi : insV xs b off cap k = .slice (some ⟨b, if cap = k + 1 then off else off + (k + 1) * 3, none⟩) (inside xs k).length (cap - (k + 1)) := by rw [insV, inside_len]
        rw [hvi] at hi1
        have HIk := hid hi1
        have hnl := HIl.out k hlt
        rw [nx_in] at hnl
        cases ho : opn (xs.getD k oz)
        · have HG2 : Hid (∀ j, j < k + 1 → opn (xs.getD j oz) = false) := hid (fun j hj => by
            rcases Nat.lt_or_ge j k with h | h
            · exact HG.out j h
            · obtain rfl : j = k := by omega
              exact ho)
          clear hi1 hvi HA
          have hoo : ¬ ((xs.getD k oz).a0 = 12 ∧ (xs.getD k oz).a1 = 0) := by
            intro h
            rw [opn, grp, h.1, h.2] at ho
            simp at ho
          clear ho
          generalize inside xs k = ys at *
          generalize xs.getD k oz = z at *
          obtain ⟨z0, z1, z2⟩ := z
          simp only at c0 c1 c2 hoo
          by_cases h12 : z0 = 12
          · have e12 : (z0 == 12) = true := by simpa using h12
            have e0 : (z1 == 0) = false := by simp; omega
            clear hoo
            subst h12
            go_wp2
            go_round
            case rel => exact ⟨k + 1, by omega, by go_num, HG2⟩
            case measure => simp [intOf]; omega
          · have e12 : (z0 == 12) = false := by simpa using h12
            clear hoo h12
            go_wp2
            go_round
            case rel => exact ⟨k + 1, by omega, by go_num, HG2⟩
            case measure => simp [intOf]; omega
        · obtain ⟨hv, ha2, _, _⟩ := HOu.out k hlt ho
          have HP := hid (HPa.out k hlt HG.out ho)
          rw [opn, Bool.and_eq_true, decide_eq_true_eq, grp, decide_eq_true_eq] at ho
          obtain ⟨h12, h0⟩ := ho
          clear hi1 hvi HA hv
          generalize inside xs k = ys at *
          generalize xs.getD k oz = z at *
          obtain ⟨z0, z1, z2⟩ := z
          simp only at c0 c1 c2 h12 h0 ha2
          obtain ⟨m, hm⟩ : ∃ m, m = ys.length := ⟨_, rfl⟩
          rw [← hm] at ha2 HIk hnl
          clear hm
          subst h12 h0 ha2
          have i1 : IntKind.i64.wrap ((k : Int) + 1) = (k : Int) + 1 := IntWalk.i64_in _ (by omega)
          have i2 : IntKind.i64.wrap ((k : Int) + 1 + (m : Int)) = (k : Int) + 1 + (m : Int) := IntWalk.i64_in _ (by omega)
          by_cases hck : cap = k + 1
          · rw [if_pos hck, hck, Nat.sub_self] at HIk
            go_wp2
            go_ret2
            exact ⟨⟨_, _, rfl, by rw [HP.out]; first | exact HIk.out | simpa using HIk.out⟩, rfl⟩
          · rw [if_neg hck] at HIk
            go_wp2
            go_ret2
            exact ⟨⟨_, _, rfl, by rw [HP.out]; exact HIk.out⟩, rfl⟩
      · obtain rfl : k = n := by omega
        have HP := hid (HPn.out HG.out)
        go_wp2
        go_ret2
        exact ⟨⟨_, _, rfl, by rw [HP.out]; exact .inl ⟨rfl, none, 0, rfl, fun _ => rfl⟩⟩, rfl⟩

set_option maxHeartbeats 2000000 in
theorem specNd (xs : List V) (v : Value) (B : Nat) (w : World) (ha : OpsC w B v xs) (hB : B ≤ w.heap.size) (hq : Small xs) :
    Calls Tryd.prog 8 #[v] w fun e w' => e = .returned (.tuple #[.int .i64 (ndA xs), .int .i64 (ndB xs), .bool (okP xs)]) ∧ Below w.heap.size w w' := by
  have HV := hid (specOkP xs v B w ha.ops hq)
  cases hok : okP xs
  · obtain ⟨f1, f2⟩ := nd_no hok
    have HF := hid f1
    have HG := hid f2
    rw [hok] at HV
    obtain ⟨ao, cap, rfl⟩ := opsC_val ha
    clear ha hok f1 f2 hq
    generalize xs.length = n at *
    go_enter Tryd.func8, Tryd.ntmps8
    go_wp2_with fail
    refine HV.out.mono ?_
    rintro e w1 ⟨rfl, b1⟩
    have HB1 := hid b1
    clear b1
    go_wp2
    refine bodyPost_ret (v := .tuple #[.int .i64 0, .int .i64 0, .bool false]) (by simp [results, Tryd.results8, go_sem]) rfl ⟨?_, ?_⟩
    · rw [HF.out, HG.out]
    · exact HB1.out
  · obtain ⟨f1, f2⟩ := nd_yes hok
    obtain ⟨p1, p2, p3⟩ := okP_parts hok
    have HF := hid f1
    have HG := hid f2
    rw [hok] at HV
    have HO := hid (fun W (h : OpsC W B v xs) (hb : B ≤ W.heap.size) => specOpen xs v B W h hb p1 p2)
    have HS1 := hid (fun W (h : OpsC W B v xs) (hb : B ≤ W.heap.size) => specSumC xs.length xs v B 0 W rfl h hb p1 p2)
    have HS2 := hid (fun u W (h : OpsC W B u (part xs)) (hb : B ≤ W.heap.size) => specSumC (part xs).length (part xs) u B 1 W rfl h hb (by have := part_len xs; omega) (part_ok xs.length xs rfl p2))
    have HA := hid ha
    obtain ⟨ao, cap, hv⟩ := opsC_val ha
    clear ha hok f1 f2 hq
    generalize sumP tk xs = s1 at *
    generalize sumP tk (part xs) = s2 at *
    obtain ⟨n, hn⟩ : ∃ n, n = xs.length := ⟨_, rfl⟩
    rw [← hn] at hv
    clear hn p1 p2 p3
    subst hv
    go_enter Tryd.func8, Tryd.ntmps8
    go_wp2_with fail
    refine HV.out.mono ?_
    rintro e w1 ⟨rfl, b1⟩
    have HB1 := hid b1
    have HA1 := hid (HA.out.below b1)
    have hs1 := b1.size
    clear b1
    go_wp2_with fail
    refine (HO.out _ HA1.out (by omega)).mono ?_
    rintro e w2 ⟨⟨u, q, rfl, hu⟩, rfl⟩
    obtain ⟨ua, uc, huv⟩ := opsC_val hu
    have HU := hid hu
    clear hu
    generalize (part xs).length = pl at *
    subst huv
    go_wp2_with fail
    refine (HS1.out _ HA1.out (by omega)).mono ?_
    rintro e w3 ⟨rfl, b3⟩
    have HB3 := hid (HB1.out.trans (b3.mono hs1))
    have HU3 := hid (HU.out.below b3)
    have hs3 := HB3.out.size
    clear b3
    go_wp2_with fail
    refine (HS2.out _ _ HU3.out (by omega)).mono ?_
    rintro e w4 ⟨rfl, b4⟩
    have HB4 := hid (HB3.out.trans (b4.mono hs3))
    clear b4
    go_wp2
    refine bodyPost_ret (v := .tuple #[.int .i64 s1, .int .i64 s2, .bool true]) (by simp [results, Tryd.results8, go_sem]) rfl ⟨?_, ?_⟩
    · rw [HF.out, HG.out]
    · exact HB4.out
end Go.Proofs.YtiacfejileeieabDoor.pc
