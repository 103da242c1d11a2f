/-
  ReadDecimal: the library's two errors out of the list that a row lays; the program's contract.
-/
import Derived.Test.YtbonccflocogbaaDoorRdn
import Derived.Stop.LaidErr
namespace Go.Proofs.YtbonccflocogbaaDoor.rn
open Go.RowKit

theorem gRange : Tryd.prog.globalNamed "strconv.ErrRange" = some 2 := by kernel_rfl
theorem gSyn : Tryd.prog.globalNamed "strconv.ErrSyntax" = some 1 := by kernel_rfl
theorem gRangeT : (Tryd.prog.globals[2]?).map (·.type) = some 46 := by kernel_rfl
theorem gSynT : (Tryd.prog.globals[1]?).map (·.type) = some 46 := by kernel_rfl
theorem star : "*" ++ "errors.errorString" = "*errors.errorString" := by decide
theorem rowE (u : TypeId) (h : Tryd.prog.typeName? 3 u = some "*errors.errorString") : u = 99 :=
  typeName_ptr_named (nm := "errors.errorString") (by rw [star]; kernel_rfl) (by kernel_rfl) (by decide) u (by rw [star]; exact h)
theorem cellsE : Tryd.prog.cellsOf 101 = 1 := by kernel_rfl
theorem cellsS : Tryd.prog.cellsOf 9 = 1 := by kernel_rfl

def HasErr (w : World) (n : String) : Prop := ∃ tp p, w.var? Tryd.prog n = some #[.iface tp p]

theorem errs {w : World} {x y z : String × DataW Unit}
    (hp : ((x :: y :: z :: ("strconv.ErrRange", Rows.laid_strconv_ErrRange) :: ("strconv.ErrSyntax", Rows.laid_strconv_ErrSyntax) :: []).all fun x => x.2.handleName?.isNone) = true)
    (h : laidMetH Tryd.prog (x :: y :: z :: ("strconv.ErrRange", Rows.laid_strconv_ErrRange) :: ("strconv.ErrSyntax", Rows.laid_strconv_ErrSyntax) :: []) w) :
    HasErr w "strconv.ErrRange" ∧ HasErr w "strconv.ErrSyntax" := by
  rw [MakeChecks.laidMetH_plain _ _ _ hp] at h
  have h3 := h.tail.tail.tail
  obtain ⟨a1, s1, hv1, _⟩ := laid_sentinel h3 gRange gRangeT Tryd.underlying46 rowE Tryd.underlying99 Tryd.underlying101 rfl rfl Tryd.underlying9 cellsE cellsS
  obtain ⟨a2, s2, hv2, _⟩ := laid_sentinel h3.tail gSyn gSynT Tryd.underlying46 rowE Tryd.underlying99 Tryd.underlying101 rfl rfl Tryd.underlying9 cellsE cellsS
  exact ⟨⟨_, _, hv1⟩, ⟨_, _, hv2⟩⟩

theorem carryV {w w' : World} {n : String} {g : Nat} (hg : Tryd.prog.globalNamed n = some g) (h : HasErr w n) (hb : Below w.heap.size w w') : HasErr w' n := by
  obtain ⟨tp, p, hv⟩ := h
  exact ⟨tp, p, var?_below hb hg (block_lt_of_cell (a := ⟨g, 0, none⟩) (v := .iface tp p) (by rw [World.var?_cell hg hv 0]; rfl)) hv⟩
theorem carryR {w w' : World} (h : HasErr w "strconv.ErrRange") (hb : Below w.heap.size w w') : HasErr w' "strconv.ErrRange" := carryV gRange h hb
theorem carryS {w w' : World} (h : HasErr w "strconv.ErrSyntax") (hb : Below w.heap.size w w') : HasErr w' "strconv.ErrSyntax" := carryV gSyn h hb

theorem specNumber (s : ByteArray) (hs : s.size ≤ 1048576) (w : World) :
    Calls Tryd.prog 10 #[.string s] w fun e w' => e = .returned (.tuple #[.int .i64 (nu.rdN s.data.toList), .bool (nu.rdOk s.data.toList)]) ∧ Below w.heap.size w w' := by
  by_cases h0 : s.size = 0
  · obtain rfl : s = ByteArray.empty := by rcases s with ⟨⟨l⟩⟩; simp [ByteArray.size] at h0; subst h0; rfl
    have hF : nu.rdOk ByteArray.empty.data.toList = false := rd_len (by simp [nu.rest])
    rw [rd_false_of hF, hF]
    exact spec0 w
  · by_cases h45 : s[0].toNat = 45
    · exact specMinus s (by omega) hs h45 w
    · exact specPlain s (by omega) hs h45 w

theorem rd_none {s : ByteArray} (h : ∀ v, Lib.parseIntB 64 s.data.toList ≠ .ok v) : nu.rdOk s.data.toList = false := by
  cases hq : nu.rdOk s.data.toList
  · rfl
  · exact absurd (nu.rd_no_parse hq) (h _)
theorem rd_else {s : ByteArray} {v : Int} (h : Lib.parseIntB 64 s.data.toList = .ok v) (h2 : ¬ (-999999999 ≤ v ∧ v ≤ 999999999) ∨ ¬ Lib.itoa v = s.data.toList) : nu.rdOk s.data.toList = false := by
  cases hq : nu.rdOk s.data.toList
  · rfl
  · exfalso
    have h3 := nu.rd_no_parse hq
    rw [h] at h3
    obtain ⟨_, _, hi, h0, h1⟩ := nu.rd_parts hq
    have h4 : v = nu.num s.data.toList := by injection h3
    rcases h2 with h2 | h2
    · exact h2 (by omega)
    · exact h2 (by rw [h4]; exact hi)

set_option maxHeartbeats 800000 in
theorem implRead (s : ByteArray) (hs : s.size ≤ 1048576) (w : World) (hT : Lib.TabIs Tryd.prog w "internal/strconv.uint64pow10" .u64 Lib.pow10Tab) (hR : HasErr w "strconv.ErrRange") (hS : HasErr w "strconv.ErrSyntax") :
    Calls Tryd.prog 13 #[.string s] w fun e w' => e = .returned (.tuple #[.int .i64 (nu.rdN s.data.toList), .bool (nu.rdOk s.data.toList)]) ∧ Below w.heap.size w w' := by
  by_cases hok : ∃ v, Lib.parseIntB 64 s.data.toList = .ok v
  · obtain ⟨v, hv⟩ := hok
    have HP := hid (Tryd.strconv_ParseInt_10_at64_ok s (by omega) v hv w)
    by_cases hin : -999999999 ≤ v ∧ v ≤ 999999999
    · have hd : decide (-999999999 ≤ v ∧ v ≤ 999999999) = true := decide_eq_true hin
      have HW := hid (within64 v (-999999999) 999999999)
      rw [hd] at HW
      have HD : Hid (∀ w1 : World, Below w.heap.size w w1 → _) := hid (fun w1 hb => lt.implDecimal v w1 (by omega) (by omega) (lt.carry hT hb))
      obtain ⟨hin0, hin1⟩ := hin
      by_cases hit : Lib.itoa v = s.data.toList
      · have hq := nu.rd_of_parse hv hin0 hin1 hit
        have HQ : Hid (nu.rdN s.data.toList = v ∧ nu.rdOk s.data.toList = true) := hid ⟨by rw [rd_true_of hq.1, hq.2], hq.1⟩
        rw [hit, bytes_eta] at HD
        clear hq hit hv hd hR hS
        go_enter Tryd.func13, Tryd.ntmps13
        go_wp2_with fail
        refine HP.out.mono ?_
        rintro e w1 ⟨rfl, hb⟩
        have hb1 : Below w.heap.size w w1 := by
          rcases hb with rfl | ⟨t, rfl⟩
          · exact Below.refl _ _
          · exact Go.Joins.below_bytesWorld _ _ _ _ (Nat.le_refl _)
        clear hb
        go_wp2_with (first | (go_at_call 25; refine (HW.out _).mono ?_; rintro e w' ⟨rfl, rfl⟩) | fail)
        refine (HD.out _ hb1).mono ?_
        rintro e w2 ⟨rfl, hb2⟩
        go_wp2
        refine bodyPost_ret (v := .tuple #[.int .i64 v, .bool true]) (by simp [results, Tryd.results13, go_sem]) rfl ⟨by rw [HQ.out.1, HQ.out.2], hb1.trans (hb2.mono hb1.size)⟩
      · have hq := rd_else hv (.inr hit)
        have HQ : Hid (nu.rdN s.data.toList = 0 ∧ nu.rdOk s.data.toList = false) := hid ⟨rd_false_of hq, hq⟩
        obtain ⟨u, hu⟩ : ∃ u : ByteArray, u = ⟨(Lib.itoa v).toArray⟩ := ⟨_, rfl⟩
        rw [← hu] at HD
        have hus : ¬ u = s := fun h => hit (by rw [← h, hu])
        have hus1 : (u.toList == s.toList) = false := bytes_ne hus
        clear hq hit hv hd hR hS hu
        go_enter Tryd.func13, Tryd.ntmps13
        go_wp2_with fail
        refine HP.out.mono ?_
        rintro e w1 ⟨rfl, hb⟩
        have hb1 : Below w.heap.size w w1 := by
          rcases hb with rfl | ⟨t, rfl⟩
          · exact Below.refl _ _
          · exact Go.Joins.below_bytesWorld _ _ _ _ (Nat.le_refl _)
        clear hb
        go_wp2_with (first | (go_at_call 25; refine (HW.out _).mono ?_; rintro e w' ⟨rfl, rfl⟩) | fail)
        refine (HD.out _ hb1).mono ?_
        rintro e w2 ⟨rfl, hb2⟩
        go_wp2
        refine bodyPost_ret (v := .tuple #[.int .i64 0, .bool false]) (by simp [results, Tryd.results13, go_sem]) rfl ⟨by rw [HQ.out.1, HQ.out.2], hb1.trans (hb2.mono hb1.size)⟩
    · have hd : decide (-999999999 ≤ v ∧ v ≤ 999999999) = false := decide_eq_false hin
      have HW := hid (within64 v (-999999999) 999999999)
      rw [hd] at HW
      have hq := rd_else hv (.inl hin)
      have HQ : Hid (nu.rdN s.data.toList = 0 ∧ nu.rdOk s.data.toList = false) := hid ⟨rd_false_of hq, hq⟩
      clear hq hv hd hR hS hin
      go_enter Tryd.func13, Tryd.ntmps13
      go_wp2_with fail
      refine HP.out.mono ?_
      rintro e w1 ⟨rfl, hb⟩
      have hb1 : Below w.heap.size w w1 := by
        rcases hb with rfl | ⟨t, rfl⟩
        · exact Below.refl _ _
        · exact Go.Joins.below_bytesWorld _ _ _ _ (Nat.le_refl _)
      clear hb
      go_wp2_with (go_at_call 25; refine (HW.out _).mono ?_; rintro e w' ⟨rfl, rfl⟩)
      refine bodyPost_ret (v := .tuple #[.int .i64 0, .bool false]) (by simp [results, Tryd.results13, go_sem]) rfl ⟨by rw [HQ.out.1, HQ.out.2], hb1⟩
  · have hno : ∀ v, Lib.parseIntB 64 s.data.toList ≠ .ok v := fun v h => hok ⟨v, h⟩
    have hq := rd_none hno
    have HQ : Hid (nu.rdN s.data.toList = 0 ∧ nu.rdOk s.data.toList = false) := hid ⟨rd_false_of hq, hq⟩
    have HC : Hid (∃ n T, Calls Tryd.prog 24 #[.string s, .int .i64 10, .int .i64 64] w fun e w' => ∃ N, e = .returned (.tuple #[.int .i64 n, .iface T (.pointer (some ⟨N, 0, none⟩))]) ∧ Below w.heap.size w w') := hid (by
      by_cases hr : Lib.parseIntB 64 s.data.toList = .range
      · obtain ⟨tp, p, hv⟩ := hR
        refine ⟨Lib.intSat 64 s.data.toList, 78, (Tryd.strconv_ParseInt_10_at64_range_var s (by omega) hr tp p w hv).mono ?_⟩
        rintro e w1 ⟨N, h1, _, _, h4⟩
        exact ⟨N, h1, h4⟩
      · obtain ⟨tp, p, hv⟩ := hS
        refine ⟨0, 78, (Tryd.strconv_ParseInt_10_at64_syntax_var s (by omega) ⟨hno, hr⟩ tp p w hv).mono ?_⟩
        rintro e w1 ⟨N, h1, _, _, h4⟩
        exact ⟨N, h1, h4⟩)
    clear hq hno hok hR hS hT
    obtain ⟨n, T, hc⟩ := HC.out
    have HC2 := hid hc
    clear hc HC
    go_enter Tryd.func13, Tryd.ntmps13
    go_wp2_with fail
    refine HC2.out.mono ?_
    rintro e w1 ⟨N, rfl, hb⟩
    go_wp2
    refine bodyPost_ret (v := .tuple #[.int .i64 0, .bool false]) (by simp [results, Tryd.results13, go_sem]) rfl ⟨by rw [HQ.out.1, HQ.out.2], hb⟩
end Go.Proofs.YtbonccflocogbaaDoor.rn
