/- The walk of the law of texts of costs: it returns true for all inputs, and nothing that was there changes. Conditions: the library's table of powers of ten reads as its text lays it, its limit of short texts as some number. -/
import Derived.Test.YtgnphlegbbplcaaDoorTextDraw2
namespace Go.Proofs.YtgnphlegbbplcaaDoor
open Go.RowKit
set_option maxHeartbeats 1000000
set_option maxRecDepth 100000
set_option linter.unusedVariables false

def PSome (us : List Int) (w : World) (e : Ending) (w' : World) : Prop := ∃ y, e = .returned (.tuple #[y, .bool true]) ∧ w'.ownsRow w.heap.size 3 1 y us.length (us.map (Value.int .i64)) ∧ Below w.heap.size w w'
def PNone (w : World) (e : Ending) (w' : World) : Prop := ∃ y, e = .returned (.tuple #[y, .bool false]) ∧ w'.ownsRow w.heap.size 3 1 y ([] : List Int).length (([] : List Int).map (Value.int .i64)) ∧ Below w.heap.size w w'
theorem iParses_some (s : ByteArray) (w : World) (hs : s.size ≤ 1048576) (hm : MaxC w) (us : List Int) (h : parsesF s.data.toList = some us) : Calls Tryd.prog 11 #[.string s] w fun e w' => PSome us w e w' := by
  have := iParses_any s w hs hm; rw [h] at this
  exact this.mono fun e w' ⟨y, h1, h2, h3, _⟩ => ⟨y, h1, h2, h3⟩
theorem iParses_none (s : ByteArray) (w : World) (hs : s.size ≤ 1048576) (hm : MaxC w) (h : parsesF s.data.toList = none) : Calls Tryd.prog 11 #[.string s] w fun e w' => PNone w e w' := by
  have := iParses_any s w hs hm; rw [h] at this
  exact this.mono fun e w' ⟨y, h1, h2, h3, _⟩ => ⟨y, h1, h2, h3⟩
theorem sParses_some (s : ByteArray) (w : World) (hs : s.size ≤ 1048576) (us : List Int) (h : parsesF s.data.toList = some us) : Calls Tryd.prog 14 #[.string s] w fun e w' => PSome us w e w' := by
  have := sParses_any s w hs; rw [h] at this
  exact this.mono fun e w' ⟨y, h1, h2, h3, _⟩ => ⟨y, h1, h2, h3⟩
theorem sParses_none (s : ByteArray) (w : World) (hs : s.size ≤ 1048576) (h : parsesF s.data.toList = none) : Calls Tryd.prog 14 #[.string s] w fun e w' => PNone w e w' := by
  have := sParses_any s w hs; rw [h] at this
  exact this.mono fun e w' ⟨y, h1, h2, h3, _⟩ => ⟨y, h1, h2, h3⟩
theorem parses_few {l : List UInt8} {us : List Int} (h : parsesF l = some us) : us.length ≤ l.length + 1 := by
  by_cases hn : l = []
  · subst hn; rw [parsesF_nil] at h; cases h; simp
  · rw [parsesF_ne hn] at h
    have := pF_len _ _ h
    have := pieces_few 32 l
    omega
/-- FormatCosts at a row of the call's own, its text known. -/
theorem fmts_own (w : World) (base : Nat) (x : Value) (vs : List Int) (t : ByteArray) (hn : vs.length ≤ 1048576) (h : w.ownsRow base 3 1 x vs.length (vs.map (Value.int .i64))) (ht : t.data.toList = costsF vs) (h10 : Tab10 w) (hB : 3 < w.heap.size) :
    Calls Tryd.prog 8 #[x] w fun e w' => e = .returned (.string t) ∧ Below w.heap.size w w' := by
  obtain ⟨A, cap, rfl, hc, hi⟩ := own_ints h (by unfold maxLen; omega)
  have e : t = ⟨(costsF vs).toArray⟩ := by apply Go.WideShapes.bytes_inj; rw [ht]
  rw [e]
  exact fmts_any A cap vs w hi hn h10 hB
theorem sFmts_own (w : World) (base : Nat) (x : Value) (vs : List Int) (t : ByteArray) (hn : vs.length ≤ 1048576) (h : w.ownsRow base 3 1 x vs.length (vs.map (Value.int .i64))) (ht : t.data.toList = costsF vs) :
    Calls Tryd.prog 9 #[x] w fun e w' => e = .returned (.string t) ∧ Below w.heap.size w w' := by
  obtain ⟨A, cap, rfl, hc, hi⟩ := own_ints h (by unfold maxLen; omega)
  have e : t = ⟨(costsF vs).toArray⟩ := by apply Go.WideShapes.bytes_inj; rw [ht]
  rw [e]
  exact sFmts_any A cap vs w hi hn
theorem sums_own (w : World) (base : Nat) (x : Value) (vs : List Int) (v : Int) (hn : vs.length ≤ 1048576) (h : w.ownsRow base 3 1 x vs.length (vs.map (Value.int .i64))) (hv : sumF 0 vs = v) :
    Calls Tryd.prog 10 #[x] w fun e w' => e = .returned (.int .i64 v) ∧ w = w' := by
  obtain ⟨A, cap, rfl, hc, hi⟩ := own_ints h (by unfold maxLen; omega)
  rw [← hv]
  exact sumCosts_any A cap _ vs w hi
theorem fmt_is (a : Int) (u : ByteArray) (w : World) (ht : Tab10 w) (h : fmtF a = u.data.toList) : Calls Tryd.prog 18 #[.int .i64 a] w fun e w' => e = .returned (.string u) ∧ Below w.heap.size w w' := by
  have e : u = ⟨(fmtF a).toArray⟩ := by apply Go.WideShapes.bytes_inj; rw [h]
  rw [e]; exact fmt_any a w ht
theorem sumF_bound : ∀ (zs : List Int) (acc : Int), 0 ≤ acc → allV zs = true → 0 ≤ sumF acc zs
  | [], acc, h, _ => h
  | z :: zs, acc, h, hv => by
    have hz : vld z = true := by simp [allV] at hv; exact hv.1
    have hzs : allV zs = true := by simp [allV] at hv ⊢; exact hv.2
    have := vld_t hz
    rw [sumF_t hz]
    exact sumF_bound zs _ (by omega) hzs

theorem FnCostText_walk (A : Option Addr) (cap : Nat) (zs : List Int) (A' : Option Addr) (cap' : Nat) (ys : List Int) (w : World) (hz : IRow .u8 w w.heap.size A zs) (hc : zs.length ≤ cap) (hwf : ∀ z ∈ zs, (Lit.int .u8 z).wf = true) (hy : IRow .u8 w w.heap.size A' ys) (hc' : ys.length ≤ cap') (hwf' : ∀ z ∈ ys, (Lit.int .u8 z).wf = true) (ht : Tab10 w) (hB : 3 < w.heap.size) (hsh : w.ShapedOpen Tryd.prog) :
    Calls Tryd.prog 3 #[.slice A zs.length cap, .slice A' ys.length cap'] w fun e w' => e = .returned (.bool true) ∧ Below w.heap.size w w' := by
  have hl1 := hz.len
  have hl2 := hy.len
  have HZ : Hid (∀ z ∈ zs, 0 ≤ z ∧ z ≤ 255) := fun z hz => bounds_u8 (hwf z hz)
  have HY : Hid (∀ z ∈ ys, 0 ≤ z ∧ z ≤ 255) := fun z hz => bounds_u8 (hwf' z hz)
  have HT := Lib.hid ht
  have HM := Lib.hid (maxC_of_shaped hsh)
  clear hwf hwf' ht hsh
  by_cases hs1 : (1048576 : Int) < (zs.length : Int)
  · go_enter Tryd.func3, Tryd.ntmps3
    go_wp2_with fail
    go_ret
    exact ⟨rfl, Below.refl _ _⟩
  by_cases hs2 : (1048576 : Int) < (ys.length : Int)
  · go_enter Tryd.func3, Tryd.ntmps3
    go_wp2_with fail
    go_ret
    exact ⟨rfl, Below.refl _ _⟩
  go_enter Tryd.func3, Tryd.ntmps3
  go_wp2_with fail
  refine (drawFmts_any _ _ _ _ hz hc HZ.out).mono ?_
  rintro e w1 ⟨x, vs, rfl, ho1, h4, hb1⟩
  have HO1 := Lib.hid ho1
  obtain ⟨t, hte⟩ : ∃ t : ByteArray, t.data.toList = costsF vs := ⟨⟨(costsF vs).toArray⟩, rfl⟩
  have HTE := Lib.hid hte
  clear ho1 hte
  go_wp2_with fail
  refine (fmts_own _ _ _ _ t (by omega) HO1.out HTE.out (tab10_below HT.out hb1 hB) (Nat.lt_of_lt_of_le hB hb1.size)).mono ?_
  rintro e w2 ⟨rfl, hb2⟩
  have HB2 := Lib.hid (below_on' hb1 hb2)
  have HO2 := Lib.hid (own_under HO1.out hb2)
  clear hb1 hb2
  go_wp2_with fail
  refine (sFmts_own _ _ _ _ t (by omega) HO2.out HTE.out).mono ?_
  rintro e w3 ⟨rfl, hb3⟩
  have HB3 := Lib.hid (below_on' HB2.out hb3)
  have HO3 := Lib.hid (own_under HO2.out hb3)
  clear hb3
  have hts : t.size ≤ 1048576 := by
    have h1 : t.size = (costsF vs).length := by rw [← HTE.out]; simp
    have h2 : (costsF vs).length ≤ 8 * vs.length := by
      unfold costsF
      split
      · exact costs_len vs
      · simp
    omega
  rcases Bool.eq_false_or_eq_true (allV vs) with hv | hv
  case' inl =>
    obtain ⟨sv, hsv⟩ : ∃ sv, sumF 0 vs = sv := ⟨_, rfl⟩
    have hs0 : 0 ≤ sv := by rw [← hsv]; exact sumF_bound vs 0 (by omega) hv
    have HSV := Lib.hid hsv
    have HPS : Hid (parsesF t.data.toList = some vs) := by show _ = _; rw [HTE.out]; exact parses_costs hv
    clear hsv hv
    go_wp2_with fail
    refine (sums_own _ _ _ _ _ (by omega) HO3.out HSV.out).mono ?_
    rintro e w' ⟨rfl, rfl⟩
    go_wp2_with fail
    refine (iParses_some _ _ hts (HM.out.below HB3.out HM.out.lt) vs HPS.out).mono ?_
    rintro e w4 ⟨y, rfl, ho4, hb4⟩
    have HB4 := Lib.hid (below_on' HB3.out hb4)
    have HO4 := Lib.hid (own_under HO3.out hb4)
    have HY4 := Lib.hid ho4
    clear ho4 hb4
    go_wp2_with fail
    refine (same_own _ _ _ _ _ _ (by omega) HY4.out HO4.out).mono ?_
    rintro e w5 ⟨rfl, m5, rfl⟩
    have HB := Lib.hid (below_dr HB4.out m5)
  case' inr =>
    have hsv : sumF 0 vs = -1 := by rw [sumF_eq, hv]; simp
    have HSV := Lib.hid hsv
    have hnil : t.data.toList = [] := by rw [HTE.out, costsF_no hv]
    have hne : t.toList.isEmpty = true := by rw [ByteArray.toList_eq, hnil]; rfl
    have HPS : Hid (parsesF t.data.toList = some []) := by show _ = _; rw [hnil]; rfl
    clear hsv hv hnil
    go_wp2_with fail
    refine (sums_own _ _ _ _ _ (by omega) HO3.out HSV.out).mono ?_
    rintro e w' ⟨rfl, rfl⟩
    go_wp2_with fail
    refine (iParses_some _ _ hts (HM.out.below HB3.out HM.out.lt) [] HPS.out).mono ?_
    rintro e w4 ⟨y, rfl, ho4, hb4⟩
    have HB := Lib.hid (below_on' HB3.out hb4)
    clear ho4 hb4
  all_goals
    have hyB := (hy.below HB.out).more HB.out.size
    go_wp2_with fail
    refine (drawT_any _ _ _ _ hyB hc' HY.out).mono ?_
    rintro e w6 ⟨tx, rfl, htx, hb6⟩
    have HB6 := Lib.hid (below_on' HB.out hb6)
    clear hb6 hyB HB
    have HB := HB6
    clear HB6
    rcases hr2 : parsesF tx.data.toList with _ | us2
    · have HP2 := Lib.hid hr2
      clear hr2
      go_wp2_with fail
      refine (iParses_none _ _ (by omega) (HM.out.below HB.out HM.out.lt) HP2.out).mono ?_
      rintro e w7 ⟨y1, rfl, ho7, hb7⟩
      have HB7 := Lib.hid (below_on' HB.out hb7)
      have HO7 := Lib.hid ho7
      clear ho7 hb7
      go_wp2_with fail
      refine (sParses_none _ _ (by omega) HP2.out).mono ?_
      rintro e w8 ⟨y2, rfl, ho8, hb8⟩
      have HB8 := Lib.hid (below_on' HB7.out hb8)
      have HO7' := Lib.hid (own_under HO7.out hb8)
      have HO8 := Lib.hid ho8
      clear ho8 hb8
      have hy8 := (hy.below HB8.out).more HB8.out.size
      go_wp2_with fail
      refine (draw1_any _ _ _ _ hy8 hc' HY.out).mono ?_
      rintro e w9 ⟨u, rfl, hu, hb9⟩
      have HB9 := Lib.hid (below_on' HB8.out hb9)
      have HO7'' := Lib.hid (own_under HO7'.out hb9)
      have HO8' := Lib.hid (own_under HO8.out hb9)
      have hu63 : u.size ≤ 9223372036854775807 := by omega
      clear hb9 hy8
      rcases hru : readF u.data.toList with _ | a
      · have HRU := Lib.hid hru
        clear hru
        go_wp2_with fail
        refine (parse_bad _ _ hu63 HRU.out).mono ?_
        rintro e w10 ⟨rfl, hb10⟩
        have HB10 := Lib.hid (below_on' HB9.out hb10)
        have HO7a := Lib.hid (own_under HO7''.out hb10)
        have HO8a := Lib.hid (own_under HO8'.out hb10)
        clear hb10
        go_wp2_with fail
        refine (sParse_bad _ _ hu63 HRU.out).mono ?_
        rintro e w' ⟨rfl, rfl⟩
        go_wp2_with fail
        refine (same_own _ _ _ _ _ _ (by simp) HO7a.out HO8a.out).mono ?_
        rintro e w11 ⟨rfl, m11, rfl⟩
        have HB11 := Lib.hid (below_dr HB10.out m11)
        have HB12 := HB11
        have HB13 := HB12
        go_wp2_with fail
        go_ret
        exact ⟨rfl, HB13.out⟩
      · have HRU := Lib.hid hru
        clear hru
        go_wp2_with fail
        refine (parse_good _ _ hu63 _ HRU.out).mono ?_
        rintro e w10 ⟨rfl, hb10⟩
        have HB10 := Lib.hid (below_on' HB9.out hb10)
        have HO7a := Lib.hid (own_under HO7''.out hb10)
        have HO8a := Lib.hid (own_under HO8'.out hb10)
        clear hb10
        go_wp2_with fail
        refine (sParse_good _ _ hu63 _ HRU.out).mono ?_
        rintro e w' ⟨rfl, rfl⟩
        go_wp2_with fail
        refine (same_own _ _ _ _ _ _ (by simp) HO7a.out HO8a.out).mono ?_
        rintro e w11 ⟨rfl, m11, rfl⟩
        have HB11 := Lib.hid (below_dr HB10.out m11)
        have HB12 := HB11
        go_wp2_with fail
        refine (fmt_is _ u _ (tab10_below HT.out HB12.out hB) (fmt_read HRU.out).2).mono ?_
        rintro e w13 ⟨rfl, hb13⟩
        have HB13 := Lib.hid (below_on' HB12.out hb13)
        go_wp2_with fail
        go_ret
        exact ⟨rfl, HB13.out⟩
    · have HP2 := Lib.hid hr2
      have HTX := Lib.hid (costs_parses hr2).2.symm
      have hl2' : us2.length ≤ 1001 := by have h1 := parses_few hr2; have h2 : tx.data.toList.length = tx.size := by simp
                                          omega
      clear hr2
      go_wp2_with fail
      refine (iParses_some _ _ (by omega) (HM.out.below HB.out HM.out.lt) us2 HP2.out).mono ?_
      rintro e w7 ⟨y1, rfl, ho7, hb7⟩
      have HB7 := Lib.hid (below_on' HB.out hb7)
      have HO7 := Lib.hid ho7
      clear ho7 hb7
      go_wp2_with fail
      refine (sParses_some _ _ (by omega) us2 HP2.out).mono ?_
      rintro e w8 ⟨y2, rfl, ho8, hb8⟩
      have HB8 := Lib.hid (below_on' HB7.out hb8)
      have HO7' := Lib.hid (own_under HO7.out hb8)
      have HO8 := Lib.hid ho8
      clear ho8 hb8
      have hy8 := (hy.below HB8.out).more HB8.out.size
      go_wp2_with fail
      refine (draw1_any _ _ _ _ hy8 hc' HY.out).mono ?_
      rintro e w9 ⟨u, rfl, hu, hb9⟩
      have HB9 := Lib.hid (below_on' HB8.out hb9)
      have HO7'' := Lib.hid (own_under HO7'.out hb9)
      have HO8' := Lib.hid (own_under HO8.out hb9)
      have hu63 : u.size ≤ 9223372036854775807 := by omega
      clear hb9 hy8
      rcases hru : readF u.data.toList with _ | a
      · have HRU := Lib.hid hru
        clear hru
        go_wp2_with fail
        refine (parse_bad _ _ hu63 HRU.out).mono ?_
        rintro e w10 ⟨rfl, hb10⟩
        have HB10 := Lib.hid (below_on' HB9.out hb10)
        have HO7a := Lib.hid (own_under HO7''.out hb10)
        have HO8a := Lib.hid (own_under HO8'.out hb10)
        clear hb10
        go_wp2_with fail
        refine (sParse_bad _ _ hu63 HRU.out).mono ?_
        rintro e w' ⟨rfl, rfl⟩
        go_wp2_with fail
        refine (same_own _ _ _ _ _ _ (by omega) HO7a.out HO8a.out).mono ?_
        rintro e w11 ⟨rfl, m11, rfl⟩
        have HB11 := Lib.hid (below_dr HB10.out m11)
        go_wp2_with fail
        refine (fmts_own _ _ _ _ tx (by omega) (own_dr HO7a.out m11) HTX.out (tab10_below HT.out HB11.out hB) (Nat.lt_of_lt_of_le hB HB11.out.size)).mono ?_
        rintro e w12 ⟨rfl, hb12⟩
        have HB12 := Lib.hid (below_on' HB11.out hb12)
        clear hb12
        have HB13 := HB12
        go_wp2_with fail
        go_ret
        exact ⟨rfl, HB13.out⟩
      · have HRU := Lib.hid hru
        clear hru
        go_wp2_with fail
        refine (parse_good _ _ hu63 _ HRU.out).mono ?_
        rintro e w10 ⟨rfl, hb10⟩
        have HB10 := Lib.hid (below_on' HB9.out hb10)
        have HO7a := Lib.hid (own_under HO7''.out hb10)
        have HO8a := Lib.hid (own_under HO8'.out hb10)
        clear hb10
        go_wp2_with fail
        refine (sParse_good _ _ hu63 _ HRU.out).mono ?_
        rintro e w' ⟨rfl, rfl⟩
        go_wp2_with fail
        refine (same_own _ _ _ _ _ _ (by omega) HO7a.out HO8a.out).mono ?_
        rintro e w11 ⟨rfl, m11, rfl⟩
        have HB11 := Lib.hid (below_dr HB10.out m11)
        go_wp2_with fail
        refine (fmts_own _ _ _ _ tx (by omega) (own_dr HO7a.out m11) HTX.out (tab10_below HT.out HB11.out hB) (Nat.lt_of_lt_of_le hB HB11.out.size)).mono ?_
        rintro e w12 ⟨rfl, hb12⟩
        have HB12 := Lib.hid (below_on' HB11.out hb12)
        clear hb12
        go_wp2_with fail
        refine (fmt_is _ u _ (tab10_below HT.out HB12.out hB) (fmt_read HRU.out).2).mono ?_
        rintro e w13 ⟨rfl, hb13⟩
        have HB13 := Lib.hid (below_on' HB12.out hb13)
        go_wp2_with fail
        go_ret
        exact ⟨rfl, HB13.out⟩

end Go.Proofs.YtgnphlegbbplcaaDoor
