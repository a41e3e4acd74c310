/- The walk of the law of sums and lesser ones: it returns true for all inputs, and nothing that was there changes. No condition. -/
import Derived.Test.YtgnphlegbbplcaaCosts2
import Derived.Test.YtgnphlegbbplcaaDraw2
import Derived.OpenShut
namespace Go.Proofs.Ytgnphlegbbplcaa
open Go.RowKit
set_option maxHeartbeats 1000000
set_option linter.unusedVariables false

theorem two_ok {a b : Int} (ha : vld a = true) (hb : vld b = true) : allV [a, b] = true := by simp [allV, ha, hb]
theorem below_on {w0 w w' : World} (h : Below w0.heap.size w0 w) (h' : Below w.heap.size w w') : Below w0.heap.size w0 w' := h.trans (h'.mono h.size)
theorem addCost_is (a b s : Int) (w0 w : World) (ha : vld a = true) (hb : vld b = true) (hs : min (a + b) 1000000 = s) (hbel : Below w0.heap.size w0 w) :
    Calls Try.prog 14 #[.int .i64 a, .int .i64 b] w fun e w' => e = .returned (.int .i64 s) ∧ Below w0.heap.size w0 w' :=
  (addCost_any a b w).mono fun e w' ⟨he, h⟩ => ⟨by rw [he, sumF_two ha hb, hs], below_on hbel h⟩
theorem minCost_is (a b s : Int) (w0 w : World) (ha : vld a = true) (hb : vld b = true) (hs : min a b = s) (hbel : Below w0.heap.size w0 w) :
    Calls Try.prog 15 #[.int .i64 a, .int .i64 b] w fun e w' => e = .returned (.int .i64 s) ∧ Below w0.heap.size w0 w' :=
  (minCost_any a b w).mono fun e w' ⟨he, h⟩ => ⟨by rw [he, leastF_two ha hb, hs], below_on hbel h⟩
theorem sAddCost_is (a b s : Int) (w0 w : World) (ha : vld a = true) (hb : vld b = true) (hs : min (a + b) 1000000 = s) (hbel : Below w0.heap.size w0 w) :
    Calls Try.prog 16 #[.int .i64 a, .int .i64 b] w fun e w' => e = .returned (.int .i64 s) ∧ Below w0.heap.size w0 w' :=
  (sAddCost_any a b w).mono fun e w' ⟨he, h⟩ => ⟨by rw [he, sumF_two ha hb, hs], below_on hbel h⟩
theorem sMinCost_is (a b s : Int) (w0 w : World) (ha : vld a = true) (hb : vld b = true) (hs : min a b = s) (hbel : Below w0.heap.size w0 w) :
    Calls Try.prog 17 #[.int .i64 a, .int .i64 b] w fun e w' => e = .returned (.int .i64 s) ∧ Below w0.heap.size w0 w' :=
  (sMinCost_any a b w).mono fun e w' ⟨he, h⟩ => ⟨by rw [he, leastF_two ha hb, hs], below_on hbel h⟩
theorem addCost_no (a b : Int) (w0 w : World) (h : allV [a, b] = false) (hbel : Below w0.heap.size w0 w) :
    Calls Try.prog 14 #[.int .i64 a, .int .i64 b] w fun e w' => e = .returned (.int .i64 (-1)) ∧ Below w0.heap.size w0 w' :=
  (addCost_any a b w).mono fun e w' ⟨he, h'⟩ => ⟨by rw [he, sumF_two_f h], below_on hbel h'⟩
theorem minCost_no (a b : Int) (w0 w : World) (h : allV [a, b] = false) (hbel : Below w0.heap.size w0 w) :
    Calls Try.prog 15 #[.int .i64 a, .int .i64 b] w fun e w' => e = .returned (.int .i64 (-1)) ∧ Below w0.heap.size w0 w' :=
  (minCost_any a b w).mono fun e w' ⟨he, h'⟩ => ⟨by rw [he, leastF_two_f h], below_on hbel h'⟩
theorem sAddCost_no (a b : Int) (w0 w : World) (h : allV [a, b] = false) (hbel : Below w0.heap.size w0 w) :
    Calls Try.prog 16 #[.int .i64 a, .int .i64 b] w fun e w' => e = .returned (.int .i64 (-1)) ∧ Below w0.heap.size w0 w' :=
  (sAddCost_any a b w).mono fun e w' ⟨he, h'⟩ => ⟨by rw [he, sumF_two_f h], below_on hbel h'⟩
theorem sMinCost_no (a b : Int) (w0 w : World) (h : allV [a, b] = false) (hbel : Below w0.heap.size w0 w) :
    Calls Try.prog 17 #[.int .i64 a, .int .i64 b] w fun e w' => e = .returned (.int .i64 (-1)) ∧ Below w0.heap.size w0 w' :=
  (sMinCost_any a b w).mono fun e w' ⟨he, h'⟩ => ⟨by rw [he, leastF_two_f h], below_on hbel h'⟩

theorem byte_of_wf {zs : List Int} (h : ∀ z ∈ zs, (Lit.int .u8 z).wf = true) : ∀ z ∈ zs, 0 ≤ z ∧ z ≤ 255 := by
  intro z hz
  exact bounds_u8 (h z hz)

theorem FnAddCost_walk (A : Option Addr) (cap : Nat) (zs : List Int) (A' : Option Addr) (cap' : Nat) (ys : List Int) (w : World) (hz : IRow .u8 w w.heap.size A zs) (hc : zs.length ≤ cap) (hwf : ∀ z ∈ zs, (Lit.int .u8 z).wf = true) (hy : IRow .u8 w w.heap.size A' ys) (hc' : ys.length ≤ cap') (hwf' : ∀ z ∈ ys, (Lit.int .u8 z).wf = true) :
    Calls Try.prog 3 #[.slice A zs.length cap, .slice A' ys.length cap'] w fun e w' => e = .returned (.bool true) ∧ Below w.heap.size w w' := by
  have hl1 := hz.len
  have hl2 := hy.len
  have HB := Lib.hid (byte_of_wf hwf)
  have HB' := Lib.hid (byte_of_wf hwf')
  clear hwf hwf'
  by_cases hs1 : (1048576 : Int) < (zs.length : Int)
  · go_enter Try.func3, Try.ntmps3
    go_wp2_with fail
    go_ret
    exact ⟨rfl, Below.refl _ _⟩
  by_cases hs2 : (1048576 : Int) < (ys.length : Int)
  · go_enter Try.func3, Try.ntmps3
    go_wp2_with fail
    go_ret
    exact ⟨rfl, Below.refl _ _⟩
  go_enter Try.func3, Try.ntmps3
  go_wp2_with fail
  refine (drawAdd_any _ _ _ _ hz hc HB.out).mono ?_
  rintro e w1 ⟨a, b, rfl, hfa, hfb, hbel⟩
  clear hfa hfb
  rcases Bool.eq_false_or_eq_true (allV [a, b]) with h | h
  · obtain ⟨ha, hb⟩ := allV_two h
    obtain ⟨a0, a1⟩ := vld_t ha
    obtain ⟨b0, b1⟩ := vld_t hb
    have VA := Lib.hid ha
    have VB := Lib.hid hb
    clear h ha hb
    obtain ⟨s, hs⟩ : ∃ s, min (a + b) 1000000 = s := ⟨_, rfl⟩
    obtain ⟨m, hm⟩ : ∃ m, min a b = m := ⟨_, rfl⟩
    have s0 : 0 ≤ s := by omega
    have sa : a ≤ s := by omega
    have sb : b ≤ s := by omega
    have VM := Lib.hid (vld_yes (c := m) (by omega))
    have VS := Lib.hid (vld_yes (c := s) (by omega))
    have V0 := Lib.hid (vld_yes (c := 0) (by omega))
    have VN := Lib.hid (vld_yes (c := 1000000) (by omega))
    have VI := Lib.hid (vld_yes (c := 1) (by omega))
    have hsr : min (b + a) 1000000 = s := by omega
    have ha0 : min (a + 0) 1000000 = a := by omega
    have han : min a 1000000 = a := by omega
    have ham : min (a + 1000000) 1000000 = 1000000 := by omega
    have HS := Lib.hid hs
    have HM := Lib.hid hm
    have HSR := Lib.hid hsr
    have HA0 := Lib.hid ha0
    have HAN := Lib.hid han
    have HAM := Lib.hid ham
    clear hs hm hsr ha0 han ham
    go_wp2_with fail
    refine (addCost_is _ _ s _ _ VA.out VB.out HS.out hbel).mono ?_
    clear hbel
    rintro e w11 ⟨rfl, hbel⟩
    go_wp2_with fail
    refine (minCost_is _ _ m _ _ VA.out VB.out HM.out hbel).mono ?_
    clear hbel
    rintro e w12 ⟨rfl, hbel⟩
    go_wp2_with fail
    refine (sAddCost_is _ _ s _ _ VA.out VB.out HS.out hbel).mono ?_
    clear hbel
    rintro e w13 ⟨rfl, hbel⟩
    go_wp2_with fail
    refine (sMinCost_is _ _ m _ _ VA.out VB.out HM.out hbel).mono ?_
    clear hbel
    rintro e w14 ⟨rfl, hbel⟩
    go_wp2_with fail
    have hy1 := (hy.below hbel).more hbel.size
    refine (drawMin_any _ _ _ _ hy1 hc' HB'.out).mono ?_
    rintro e w2 ⟨c, d, rfl, hfc, hfd, hb2⟩
    have hbel2 := below_on hbel hb2
    clear hfc hfd hb2 hbel hy1
    have hbel := hbel2
    clear hbel2
    rcases vld_cases c with hc | hc
    · obtain ⟨c0, c1⟩ := vld_t hc
      have VC := Lib.hid hc
      clear hc
      go_wp2_with fail
      refine (cValid_t _ _ VC.out).mono ?_
      rintro e w' ⟨rfl, rfl⟩
      obtain ⟨l, hl⟩ : ∃ l, min (m + c) 1000000 = l := ⟨_, rfl⟩
      obtain ⟨x1, hx1⟩ : ∃ x, min (a + c) 1000000 = x := ⟨_, rfl⟩
      obtain ⟨x2, hx2⟩ : ∃ x, min (b + c) 1000000 = x := ⟨_, rfl⟩
      obtain ⟨y, hy⟩ : ∃ y, min (s + c) 1000000 = y := ⟨_, rfl⟩
      have hxl : min x1 x2 = l := by have := HS.out; have := HM.out; omega
      have hys : min (a + x2) 1000000 = y := by have := HS.out; have := HM.out; omega
      have V1 := Lib.hid (vld_yes (c := x1) (by omega))
      have V2 := Lib.hid (vld_yes (c := x2) (by omega))
      have HL := Lib.hid hl
      have HX1 := Lib.hid hx1
      have HX2 := Lib.hid hx2
      have HY := Lib.hid hy
      have HXL := Lib.hid hxl
      have HYS := Lib.hid hys
      clear hl hx1 hx2 hy hxl hys
      go_wp2_with fail
      refine (minCost_is _ _ m _ _ VA.out VB.out HM.out hbel).mono ?_
      clear hbel
      rintro e w15 ⟨rfl, hbel⟩
      go_wp2_with fail
      refine (addCost_is _ _ l _ _ VM.out VC.out HL.out hbel).mono ?_
      clear hbel
      rintro e w16 ⟨rfl, hbel⟩
      go_wp2_with fail
      refine (addCost_is _ _ x1 _ _ VA.out VC.out HX1.out hbel).mono ?_
      clear hbel
      rintro e w17 ⟨rfl, hbel⟩
      go_wp2_with fail
      refine (addCost_is _ _ x2 _ _ VB.out VC.out HX2.out hbel).mono ?_
      clear hbel
      rintro e w18 ⟨rfl, hbel⟩
      go_wp2_with fail
      refine (minCost_is _ _ l _ _ V1.out V2.out HXL.out hbel).mono ?_
      clear hbel
      rintro e w19 ⟨rfl, hbel⟩
      go_wp2_with fail
      refine (addCost_is _ _ s _ _ VB.out VA.out HSR.out hbel).mono ?_
      clear hbel
      rintro e w20 ⟨rfl, hbel⟩
      go_wp2_with fail
      refine (addCost_is _ _ y _ _ VS.out VC.out HY.out hbel).mono ?_
      clear hbel
      rintro e w21 ⟨rfl, hbel⟩
      go_wp2_with fail
      refine (addCost_is _ _ x2 _ _ VB.out VC.out HX2.out hbel).mono ?_
      clear hbel
      rintro e w22 ⟨rfl, hbel⟩
      go_wp2_with fail
      refine (addCost_is _ _ y _ _ VA.out V2.out HYS.out hbel).mono ?_
      clear hbel
      rintro e w23 ⟨rfl, hbel⟩
      go_wp2_with fail
      all_goals
        refine (addCost_is _ _ a _ _ VA.out V0.out HA0.out hbel).mono ?_
        clear hbel
        rintro e w24 ⟨rfl, hbel⟩
        go_wp2_with fail
        refine (minCost_is _ _ a _ _ VA.out VN.out HAN.out hbel).mono ?_
        clear hbel
        rintro e w25 ⟨rfl, hbel⟩
        go_wp2_with fail
        refine (addCost_is _ _ 1000000 _ _ VA.out VN.out HAM.out hbel).mono ?_
        clear hbel
        rintro e w26 ⟨rfl, hbel⟩
        go_wp2_with fail
        go_ret
        exact ⟨rfl, hbel⟩
    · have VC := Lib.hid hc
      clear hc
      go_wp2_with fail
      refine (cValid_f _ _ VC.out).mono ?_
      rintro e w' ⟨rfl, rfl⟩
      obtain ⟨l, hl⟩ : ∃ l, min (m + 1) 1000000 = l := ⟨_, rfl⟩
      obtain ⟨x1, hx1⟩ : ∃ x, min (a + 1) 1000000 = x := ⟨_, rfl⟩
      obtain ⟨x2, hx2⟩ : ∃ x, min (b + 1) 1000000 = x := ⟨_, rfl⟩
      obtain ⟨y, hy⟩ : ∃ y, min (s + 1) 1000000 = y := ⟨_, rfl⟩
      have hxl : min x1 x2 = l := by have := HS.out; have := HM.out; omega
      have hys : min (a + x2) 1000000 = y := by have := HS.out; have := HM.out; omega
      have V1 := Lib.hid (vld_yes (c := x1) (by omega))
      have V2 := Lib.hid (vld_yes (c := x2) (by omega))
      have HL := Lib.hid hl
      have HX1 := Lib.hid hx1
      have HX2 := Lib.hid hx2
      have HY := Lib.hid hy
      have HXL := Lib.hid hxl
      have HYS := Lib.hid hys
      clear hl hx1 hx2 hy hxl hys
      go_wp2_with fail
      refine (minCost_is _ _ m _ _ VA.out VB.out HM.out hbel).mono ?_
      clear hbel
      rintro e w27 ⟨rfl, hbel⟩
      go_wp2_with fail
      refine (addCost_is _ _ l _ _ VM.out VI.out HL.out hbel).mono ?_
      clear hbel
      rintro e w28 ⟨rfl, hbel⟩
      go_wp2_with fail
      refine (addCost_is _ _ x1 _ _ VA.out VI.out HX1.out hbel).mono ?_
      clear hbel
      rintro e w29 ⟨rfl, hbel⟩
      go_wp2_with fail
      refine (addCost_is _ _ x2 _ _ VB.out VI.out HX2.out hbel).mono ?_
      clear hbel
      rintro e w30 ⟨rfl, hbel⟩
      go_wp2_with fail
      refine (minCost_is _ _ l _ _ V1.out V2.out HXL.out hbel).mono ?_
      clear hbel
      rintro e w31 ⟨rfl, hbel⟩
      go_wp2_with fail
      refine (addCost_is _ _ s _ _ VB.out VA.out HSR.out hbel).mono ?_
      clear hbel
      rintro e w32 ⟨rfl, hbel⟩
      go_wp2_with fail
      refine (addCost_is _ _ y _ _ VS.out VI.out HY.out hbel).mono ?_
      clear hbel
      rintro e w33 ⟨rfl, hbel⟩
      go_wp2_with fail
      refine (addCost_is _ _ x2 _ _ VB.out VI.out HX2.out hbel).mono ?_
      clear hbel
      rintro e w34 ⟨rfl, hbel⟩
      go_wp2_with fail
      refine (addCost_is _ _ y _ _ VA.out V2.out HYS.out hbel).mono ?_
      clear hbel
      rintro e w35 ⟨rfl, hbel⟩
      go_wp2_with fail
      all_goals
        refine (addCost_is _ _ a _ _ VA.out V0.out HA0.out hbel).mono ?_
        clear hbel
        rintro e w36 ⟨rfl, hbel⟩
        go_wp2_with fail
        refine (minCost_is _ _ a _ _ VA.out VN.out HAN.out hbel).mono ?_
        clear hbel
        rintro e w37 ⟨rfl, hbel⟩
        go_wp2_with fail
        refine (addCost_is _ _ 1000000 _ _ VA.out VN.out HAM.out hbel).mono ?_
        clear hbel
        rintro e w38 ⟨rfl, hbel⟩
        go_wp2_with fail
        go_ret
        exact ⟨rfl, hbel⟩
  · have HH := Lib.hid h
    clear h
    go_wp2_with fail
    refine (addCost_no _ _ _ _ HH.out hbel).mono ?_
    clear hbel
    rintro e w39 ⟨rfl, hbel⟩
    go_wp2_with fail
    refine (minCost_no _ _ _ _ HH.out hbel).mono ?_
    clear hbel
    rintro e w40 ⟨rfl, hbel⟩
    go_wp2_with fail
    refine (sAddCost_no _ _ _ _ HH.out hbel).mono ?_
    clear hbel
    rintro e w41 ⟨rfl, hbel⟩
    go_wp2_with fail
    refine (sMinCost_no _ _ _ _ HH.out hbel).mono ?_
    clear hbel
    rintro e w42 ⟨rfl, hbel⟩
    go_wp2_with fail
    refine (sAddCost_no _ _ _ _ HH.out hbel).mono ?_
    clear hbel
    rintro e w43 ⟨rfl, hbel⟩
    go_wp2_with fail
    refine (sMinCost_no _ _ _ _ HH.out hbel).mono ?_
    clear hbel
    rintro e w44 ⟨rfl, hbel⟩
    go_wp2_with fail
    go_ret
    exact ⟨rfl, hbel⟩

end Go.Proofs.Ytgnphlegbbplcaa
