/-
  CourseOf of the program.
-/
import Derived.Test.YtlhpipcmebmpdabCo0
import Derived.Laws.EntriesVeiled
namespace Go.Proofs.Ytlhpipcmebmpdab.mc
open Go.RowKit Go.Sort Go.Maps Go.Proofs.Ytlhpipcmebmpdab.sl Go.Proofs.Ytlhpipcmebmpdab.br Go.Proofs.Ytlhpipcmebmpdab.fn Go.Proofs.Ytlhpipcmebmpdab.ss Go.Proofs.Ytlhpipcmebmpdab.fb
set_option linter.unusedVariables false
set_option linter.unusedSimpArgs false

def coR (a p : Int) (m : Mch) (x : Int) : Int := if askC a p m x = 0 then co m.ls x.toNat else 0

def FV (s : Nat) : Value := .func (.func 67) #[] #[.pointer (some ⟨s + 2, 0, none⟩), .pointer (some ⟨s, 0, none⟩), .pointer (some ⟨s + 3, 0, none⟩)]
set_option maxRecDepth 100000 in
set_option maxHeartbeats 4000000 in
theorem coursesC (fp g off cap B : Nat) (ls : List nf.V) (W : World) (c0 : W.cell? ⟨fp, 0, none⟩ = some (.slice (some ⟨g, off, none⟩) ls.length cap)) (hg : g < W.heap.size) (hB : B ≤ W.heap.size)
    (hi : ∃ F : Nat → Value, ∀ j, j < ls.length → W.cell? ⟨g, off + j * 6 + 5, none⟩ = some (F j) ∧ Ints W B (F j) (ls.getD j nf.iz).ps) :
    Calls Try.prog 39 #[.pointer (some ⟨fp, 0, none⟩)] W fun e w' => e = .returned (FV W.heap.size) ∧ CP (W.heap.size + 1) (W.heap.size + 2) W.heap.size (W.heap.size + 3) fp g off cap B ls w' ∧ CK w' (W.heap.size + 1) ls.length ls (fun _ => false) ∧ Below W.heap.size W w' := by
  have hmm := @run_makeMap Try.prog
  have hfp := World.block_lt_of_cell? W _ c0
  unfold FV
  have HC0 := hid c0
  have HI := hid hi
  clear c0 hi
  go_enter Try.func39, Try.ntmps39
  go_wp2
  go_ret
  refine ⟨rfl, ?_⟩
  obtain ⟨V1, h1⟩ : ∃ V, V = W.alloc (.cells #[.pointer (some ⟨fp, 0, none⟩)] 58) := ⟨_, rfl⟩
  obtain ⟨V2, h2⟩ : ∃ V, V = V1.alloc (.map #[] 0) := ⟨_, rfl⟩
  obtain ⟨V3, h3⟩ : ∃ V, V = V2.alloc (.cells #[.map (some (W.heap.size + 1))] 82) := ⟨_, rfl⟩
  obtain ⟨V4, h4⟩ : ∃ V, V = V3.alloc (.cells #[.func (.func 67) #[] #[.pointer (some ⟨W.heap.size + 1 + 1, 0, none⟩), .pointer (some ⟨W.heap.size, 0, none⟩), .pointer (some ⟨W.heap.size + 1 + 1 + 1, 0, none⟩)]] 61) := ⟨_, rfl⟩
  have s1 : V1.heap.size = W.heap.size + 1 := by rw [h1]; simp
  have s2 : V2.heap.size = W.heap.size + 2 := by rw [h2]; simp [s1]
  have s3 : V3.heap.size = W.heap.size + 3 := by rw [h3]; simp [s2]
  have b1 : Below W.heap.size W V1 := by rw [h1]; exact (Below.refl _ _).alloc (Nat.le_refl _) _
  have b2 : Below W.heap.size W V2 := by rw [h2]; exact b1.alloc (by omega) _
  have b3 : Below W.heap.size W V3 := by rw [h3]; exact b2.alloc (by omega) _
  have b4 : Below W.heap.size W V4 := by rw [h4]; exact b3.alloc (by omega) _
  have c34 : Below V3.heap.size V3 V4 := by rw [h4]; exact (Below.refl _ _).alloc (Nat.le_refl _) _
  have c24 : Below V2.heap.size V2 V4 := ((by rw [h3]; exact (Below.refl _ _).alloc (Nat.le_refl _) _ : Below V2.heap.size V2 V3)).trans (c34.mono (by omega))
  have c14 : Below V1.heap.size V1 V4 := ((by rw [h2]; exact (Below.refl _ _).alloc (Nat.le_refl _) _ : Below V1.heap.size V1 V2)).trans (c24.mono (by omega))
  rw [← h1, ← h2, ← h3, ← h4]
  obtain ⟨F, hF⟩ := HI.out
  refine ⟨⟨?_, ?_, ?_, ?_, ⟨F, fun j hj => ⟨?_, ?_⟩⟩, ?_⟩, ?_, b4⟩
  · rw [c34.cell (p := ⟨W.heap.size + 2, 0, none⟩) (by show W.heap.size + 2 < _; omega), h3]; exact World.cell?_alloc_at _ _ _ _ (by show W.heap.size + 2 = _; omega)
  · rw [c14.cell (p := ⟨W.heap.size, 0, none⟩) (by show W.heap.size < _; omega), h1]; exact World.cell?_alloc_at _ _ _ _ rfl
  · rw [h4]; exact World.cell?_alloc_at _ _ _ _ (by show W.heap.size + 3 = _; omega)
  · exact (b4.cell (p := ⟨fp, 0, none⟩) hfp).trans HC0.out
  · exact (b4.cell (p := ⟨g, off + j * 6 + 5, none⟩) hg).trans (hF j hj).1
  · exact (hF j hj).2.chg (Chg.ofBelow (lo := 0) b4) (.inr (Nat.zero_le _))
  · exact ⟨by omega, by omega, by omega, by omega, by omega, by omega⟩
  · have := ck_made V1 ls.length ls
    rw [← h2, s1] at this
    exact this.kept (grownN c24) (by simp)

set_option maxRecDepth 100000 in
set_option maxHeartbeats 4000000 in
theorem implCo (a p : Int) (m : Mch) (x : Int) (f0 f1 f2 f3 f4 : Value) (B : Nat) (w : World) (ha : MInC w B f0 f1 f2 f3 f4 m) (hB : B ≤ w.heap.size) (hq : Small m) :
    Calls Try.prog 11 #[.agg #[.int .i64 a, .int .i64 p, f0, f1, f2, f3, f4], .int .i64 x] w fun e w' => e = .returned (.tuple #[.int .i64 (coR a p m x), .int .i64 (askC a p m x)]) ∧ Below w.heap.size w w' := by
  have HW := hid (fun W (hb : Below w.heap.size w W) => fabW a p m x f0 f1 f2 f3 f4 B W (ha.below hb) (Nat.le_trans hB hb.size) hq)
  have HAsk := hid (@ask_ok a p m x)
  have HInf := hid (fun (X : World) (h : Below w.heap.size w X) => (ha.below h).rd.h3)
  obtain ⟨y, hy⟩ : ∃ y, y = coR a p m x := ⟨_, rfl⟩
  obtain ⟨d, hd⟩ : ∃ d, d = askC a p m x := ⟨_, rfl⟩
  rw [← hy, ← hd]
  unfold coR at hy
  rw [← hd] at hy HW HAsk
  have HX1 := hid hy
  obtain ⟨⟨a0, k0, rfl⟩, ⟨a1, k1, rfl⟩, ⟨a2, k2, rfl⟩, ⟨a3, k3, rfl⟩, ⟨a4, k4, rfl⟩⟩ := ha.vals
  clear ha hq hy hd
  generalize m.fr.length = n0 at *
  generalize m.bk.length = n1 at *
  generalize m.cs.length = n2 at *
  obtain ⟨n3, hn3⟩ : ∃ n, n = m.ls.length := ⟨_, rfl⟩
  have HN3 := hid hn3
  rw [← hn3] at HW HInf ⊢
  generalize m.dr.length = n4 at *
  have HX := hid (bx_new w 34 a p (.slice a0 n0 k0) (.slice a1 n1 k1) (.slice a2 n2 k2) (.slice a3 n3 k3) (.slice a4 n4 k4))
  clear hn3
  go_enter Try.func11, Try.ntmps11
  go_wp2_with fail
  generalize (w.alloc (.cells #[.int .i64 a, .int .i64 p, .slice a0 n0 k0, .slice a1 n1 k1, .slice a2 n2 k2, .slice a3 n3 k3, .slice a4 n4 k4] 34)) = W1 at *
  refine (HW.out W1 HX.out.b0).mono ?_
  rintro e W2 (⟨hne, rfl, b2⟩ | ⟨h0, fp, cb, bL, bD, base, n, D, rfl, hF⟩)
  · obtain rfl : y = 0 := by rw [HX1.out, if_neg hne]
    have HB := hid (HX.out.b0.trans (b2.mono HX.out.b0.size))
    have hnb : (d == 0) = false := by simp [hne]
    have hnd : decide (d = 0) = false := decide_eq_false hne
    clear b2 HW
    go_wp2
    go_ret2
    exact ⟨rfl, HB.out⟩
  · subst h0
    obtain ⟨hok, hx0, hx1⟩ := HAsk.out rfl
    have hl3 := ls_len (okM_parts hok)
    have hxs : y = co m.ls x.toNat := by rw [HX1.out, if_pos rfl]
    have HB := hid (HX.out.b0.trans (hF.bl.mono HX.out.b0.size))
    obtain ⟨xn, rfl⟩ := Int.eq_ofNat_of_zero_le hx0
    rw [Int.toNat_natCast] at hxs
    have hI := HInf.out W2 HB.out
    rcases hI with ⟨hnil, _⟩ | ⟨hp, g, off, cap, F, hv, hg, hc⟩
    · exfalso
      rw [hnil] at hx1
      simp at hx1
      omega
    · have hc0 := hF.c0
      rw [hv] at hc0
      have hbw : w.heap.size ≤ W2.heap.size := HB.out.size
      have HY := hid (coursesC fp g off cap B m.ls W2 hc0 (by omega) (by omega) ⟨F, fun j hj => ⟨(hc j hj).1.c5, (hc j hj).2⟩⟩)
      have HCC := hid (fun W h1 h2 => courseC (W2.heap.size + 1) (W2.heap.size + 2) W2.heap.size (W2.heap.size + 3) fp g off cap B m.ls (fun k hk => (par_ok (okM_parts hok) k hk).2.2) hl3 (fun k hk => (par_ok (okM_parts hok) k hk).1) xn (by omega) (fun _ => false) W h1 h2)
      have HXs := hid hxs
      unfold FV at HY
      clear hF HW hxs HX1 hx0 hx1 hl3 hok HAsk HInf hc0 hv hc
      go_wp2_with fail
      refine HY.out.mono ?_
      rintro e W3 ⟨rfl, hcp, hck, b3⟩
      have HZ := hid (HCC.out W3 hcp hck)
      have HB3 := hid (HB.out.trans (b3.mono hbw))
      clear hcp hck b3 HY HCC
      go_wp2_with fail
      refine HZ.out.mono ?_
      rintro e W4 ⟨rfl, hkm, _⟩
      have HB4 := hid (HB3.out.trans (hkm.below (m := w.heap.size) HB3.out.size (by omega)))
      clear hkm HZ
      go_wp2
      go_ret2
      exact ⟨by rw [HXs.out]; rfl, HB4.out⟩
end Go.Proofs.Ytlhpipcmebmpdab.mc
