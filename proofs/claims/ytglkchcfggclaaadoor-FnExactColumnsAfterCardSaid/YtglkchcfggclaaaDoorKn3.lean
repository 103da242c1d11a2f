/-
  StacksAfter of the program.
-/
import Derived.Test.YtglkchcfggclaaaDoorKn2
import Derived.Test.YtglkchcfggclaaaDoorH1
namespace Go.Proofs.YtglkchcfggclaaaDoor.kn
open Go.RowKit Go.Proofs.YtglkchcfggclaaaDoor.sl Go.Proofs.YtglkchcfggclaaaDoor.st
set_option linter.unusedVariables false

theorem sa0 {ss ks : List Int} (h : saC ss ks = 0) : stks ss = true ∧ lst ks = true ∧ tkS ks = (ss.length : Int) ∧ ¬ 8 < mdS ks ∧ badTo ss ks ks.length = false := by
  cases h1 : stks ss
  · rw [sa1 h1] at h; omega
  cases h2 : lst ks
  · rw [sa2 h2] at h; omega
  by_cases h3 : tkS ks = (ss.length : Int)
  · by_cases h4 : 8 < mdS ks
    · rw [sa4 h1 h2 h3 h4] at h; omega
    · cases h5 : badTo ss ks ks.length
      · exact ⟨rfl, rfl, h3, h4, rfl⟩
      · rw [sa5 h1 h2 h3 h4 h5] at h; omega
  · rw [sa3 h1 h2 h3] at h; omega
theorem kl_ms {ss ks : List Int} {L : List Kn} (h : KL ss ks ks.length L) (hk : lst ks = true) : ∀ k ∈ L, k.ms.length ≤ 8 := by
  intro k hm
  obtain ⟨j, hj⟩ := List.getElem?_of_mem hm
  have hl : j < ks.length := by rw [← h.len]; exact (List.getElem?_eq_some_iff.1 hj).1
  have h2 := (lst_parts hk).2 j hl
  have h3 := mkC_len h2 (tkn ss ks j)
  have h4 := md_bound h2
  rw [(h.at_ j k hj).2, mdn]
  omega
theorem saW_no {ss ks : List Int} (h : saC ss ks ≠ 0) : saW ss ks = [] := by simp [saW, h]
theorem saW_yes {ss ks : List Int} (h : saC ss ks = 0) : saW ss ks = aftTo ss ks ks.length := by simp [saW, h]
theorem saW_len (ss ks : List Int) : (saW ss ks).length ≤ 8 := by
  by_cases h : saC ss ks = 0
  · obtain ⟨_, h2, _, h4, _⟩ := sa0 h
    rw [saW_yes h]
    have := aftTo_len (ss := ss) (lst_parts h2).2 ks.length (Nat.le_refl _)
    rw [sF_all] at this
    have h5 : mdS ks = bw.sumL (ks.map md) := by rw [mdS, h2]; rfl
    omega
  · rw [saW_no h]; simp

set_option maxRecDepth 20000 in
theorem implSA (ss ks : List Int) (v u : Value) (B C : Nat) (w : World) (ha : Ints w B v ss) (hb : Ints w C u ks) (hB : B ≤ w.heap.size) (hC : C ≤ w.heap.size) (hn : ss.length ≤ 1099511627776) (hm : ks.length ≤ 1099511627776) (hca : fn.CapOk v) (hcb : fn.CapOk u) (hT : stb.Tab w) :
    Calls Tryd.prog 28 #[v, u] w fun e w' => ∃ v', e = .returned (.tuple #[v', .int .i64 (saC ss ks)]) ∧ sl.Own w' w.heap.size w'.heap.size v' (saW ss ks) ∧ Below w.heap.size w w' := by
  obtain ⟨ao, cap, hv⟩ := br.ints_val ha
  obtain ⟨bo, cbp, hu⟩ := br.ints_val hb
  have HK := hid (implKnit ss ks v u B C w ha hB hn ⟨ha, ao, cap, hv, (hca _ _ _ hv).1, (hca _ _ _ hv).2⟩ hb hC hm hT)
  have H0 := hid (fun h => @sa0 ss ks h)
  have HW1 := hid (fun h => @saW_no ss ks h)
  have HW2 := hid (fun h => @saW_yes ss ks h)
  clear ha hb hca hcb hT
  generalize ss.length = n at *
  subst hv
  obtain ⟨m, hmm⟩ : ∃ m, m = ks.length := ⟨_, rfl⟩
  rw [← hmm] at hu
  have HMm := hid hmm
  subst hu
  clear hmm hn hm
  go_enter Tryd.func28, Tryd.ntmps28
  go_wp2_with fail
  refine HK.out.mono ?_
  rintro e w1 ⟨v', rfl, hkp, b1⟩
  have B1 := hid b1
  have hz1 := b1.size
  clear b1 HK
  rcases hkp with ⟨hc, rfl⟩ | ⟨hc, L, hkr, hkl, hone⟩
  · have HWn := hid (HW1.out hc)
    have e1 : (saC ss ks == 0) = false := by simpa using hc
    have e2 : (saC ss ks != 0) = true := by simpa using hc
    clear HW1 HW2 H0 hc
    obtain ⟨c, hcc⟩ : ∃ c, saC ss ks = c := ⟨_, rfl⟩
    rw [hcc] at e1 e2 ⊢
    have HCC := hid hcc
    clear hcc
    go_wp2
    go_ret2
    exact ⟨.slice none 0 0, by rw [HCC.out]; rfl, by rw [HWn.out]; exact (Own.nil w1 w.heap.size), B1.out⟩
  · have h0 := H0.out hc
    have HWn := hid (HW2.out hc)
    have hl := hkl.len
    have HMd := hid (implMade L v' w.heap.size B w1 hkr (by rw [hl]; exact (lst_parts h0.2.1).1) (kl_ms hkl h0.2.1) hone)
    rw [catTo_aft hkl L.length (by omega), hl, ← HWn.out] at HMd
    clear HW1 HW2 H0 hkl hone hl h0
    rw [hc]
    have hc0 := hid hc
    obtain ⟨ra, rc, hrv⟩ := hkr.val
    clear hkr hc
    generalize L.length = ln at *
    subst hrv
    go_wp2_with fail
    refine HMd.out.mono ?_
    rintro e w2 ⟨v2, rfl, o2, b2⟩
    have O2 := hid o2
    have B2 := hid (B1.out.trans (b2.mono hz1))
    clear o2 b2
    go_wp2
    go_ret2
    exact ⟨v2, by rw [hc0.out] ; rfl, O2.out.lo hz1, B2.out⟩
end Go.Proofs.YtglkchcfggclaaaDoor.kn
