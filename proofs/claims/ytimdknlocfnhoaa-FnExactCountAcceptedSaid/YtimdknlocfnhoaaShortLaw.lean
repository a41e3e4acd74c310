/- The model's count of the short words that are accepted, and its costliest one of them; nothing that was there changes. No condition. The walk of the exact law of CountAccepted: it returns true for all arguments; nothing that was there changes. No condition. The walk of the exact law of CostliestWord: it returns true for all arguments; nothing that was there changes. No condition. -/
import Derived.Test.YtimdknlocfnhoaaWordsS
import Derived.Test.YtimdknlocfnhoaaShortI
import Derived.Test.YtimdknlocfnhoaaCostM
import Derived.Test.YtimdknlocfnhoaaAutS
import Derived.Test.YtimdknlocfnhoaaToC
import Derived.Deep.RegionHeld3
namespace Go.Proofs.Ytimdknlocfnhoaa
open Go.RowKit
set_option maxHeartbeats 4000000
set_option maxRecDepth 100000
set_option linter.unusedVariables false

theorem sCount_any (m : Int) (A1 A2 A3 : Option Addr) (c1 c2 c3 : Nat) (xs ys : List Int) (ss : List StepD) (k : Int) (r : Int) (w : World) (hx : Ints w w.heap.size A1 xs) (hy : Ints w w.heap.size A2 ys) (hs : SRow w w.heap.size A3 ss) (hr : countR m xs ys ss k = r) :
    Calls Try.prog 16 #[.agg #[.int .i64 m, .slice A1 xs.length c1, .slice A2 ys.length c2, .slice A3 ss.length c3], .int .i64 k] w fun e w' => e = .returned (.int .i64 r) ∧ Hid (Below w.heap.size w w') := by
  have HX0 := Lib.hid (ints_al hx (.cells #[.int .i64 m, .slice A1 xs.length c1, .slice A2 ys.length c2, .slice A3 ss.length c3] 37))
  have HY0 := Lib.hid (ints_al hy (.cells #[.int .i64 m, .slice A1 xs.length c1, .slice A2 ys.length c2, .slice A3 ss.length c3] 37))
  have HS0 := Lib.hid (hs.al (.cells #[.int .i64 m, .slice A1 xs.length c1, .slice A2 ys.length c2, .slice A3 ss.length c3] 37))
  have K0 := Lib.hid (Blk.new w 37 #[.int .i64 m, .slice A1 xs.length c1, .slice A2 ys.length c2, .slice A3 ss.length c3])
  have B0 := Lib.hid (below_a1 w (.cells #[.int .i64 m, .slice A1 xs.length c1, .slice A2 ys.length c2, .slice A3 ss.length c3] 37))
  clear hx hy hs
  obtain ⟨b, hb⟩ : ∃ b, autoOk m xs ys ss = b := ⟨_, rfl⟩
  have HOK := Lib.hid hb
  obtain ⟨b2, hb2⟩ : ∃ b, shortOk k = b := ⟨_, rfl⟩
  have HSK := Lib.hid hb2
  have hl1 : decide (0 ≤ k ∧ k ≤ 7) = b2 := by rw [← hb2]; unfold shortOk; exact Bool.decide_and _ _
  have HL1 := Lib.hid hl1
  clear hb hb2 hl1
  go_enter Try.func16, Try.ntmps16
  go_wp2_with fail
  generalize w.alloc (.cells #[.int .i64 m, .slice A1 xs.length c1, .slice A2 ys.length c2, .slice A3 ss.length c3] 37) = w0 at HX0 HY0 HS0 K0 B0 ⊢
  refine (sAutomatonValid_is _ _ _ _ _ _ _ _ _ _ b _ HX0.out HY0.out HS0.out HOK.out).mono ?_
  rintro e w1 ⟨rfl, hb1⟩
  have B1 := Lib.hid (below_on B0.out hb1.out)
  have K1 := Lib.hid (blk_b K0.out hb1.out)
  have HX1 := Lib.hid ((HX0.out.below hb1.out).more hb1.out.size)
  have HY1 := Lib.hid ((HY0.out.below hb1.out).more hb1.out.size)
  have HS1 := Lib.hid (HS0.out.on hb1.out)
  clear HX0 HY0 HS0 K0 B0 hb1
  cases b
  · obtain rfl : r = -1 := by rw [← hr, countR_none (by rw [HOK.out]; rfl)]
    clear hr
    go_wp2_with fail
    go_ret
    exact ⟨rfl, B1.out⟩
  go_wp2_with fail
  refine (l1In_is _ _ _ b2 _ HL1.out).mono ?_
  rintro e wz ⟨rfl, rfl⟩
  cases b2
  · obtain rfl : r = -1 := by rw [← hr, countR_none (by rw [HOK.out, HSK.out]; rfl)]
    clear hr
    go_wp2_with fail
    go_ret
    exact ⟨rfl, B1.out⟩
  obtain ⟨n, rfl, n1, n2, hxi, hyi, _, hsi⟩ := auto_in HOK.out
  obtain ⟨k, rfl, hk7⟩ := shortOk_in HSK.out
  have HR : Hid (r = (tally (costW n xs ys ss) (wordsTo (k + 1)) : Int)) := by rw [← hr, countR_some HOK.out HSK.out]; exact rfl
  clear hr
  have HSI := Lib.hid hsi
  have HXI := Lib.hid hxi
  have HYI := Lib.hid hyi
  clear hsi hxi hyi HOK HSK HL1
  go_wp2_with fail
  refine (l4Words_any k _ hk7).mono ?_
  rintro e w2 ⟨x, rfl, hrow, hb2⟩
  obtain ⟨L, hL⟩ : ∃ L, L = wordsTo (k + 1) := ⟨_, rfl⟩
  have hLl : L.length + 1 = 2 ^ (k + 1) := by rw [hL]; exact wordsTo_len _
  have hL1 : 1 ≤ L.length := by
    have : 2 ^ 1 ≤ 2 ^ (k + 1) := Nat.pow_le_pow_right (by omega) (by omega)
    omega
  have hL2 : L.length ≤ 256 := by
    have : 2 ^ (k + 1) ≤ 2 ^ 8 := Nat.pow_le_pow_right (by omega) (by omega)
    omega
  have hLok : ∀ s ∈ L, s.size ≤ 7 ∧ s.data.toList.all isAB = true := by rw [hL]; exact wordsTo_ok _ (by omega)
  rw [← hL] at hrow HR
  obtain ⟨g, cap, rfl, hg0, hgw, hcap, hcm⟩ := row_form hrow hL1
  have B2 := Lib.hid (below_on B1.out hb2)
  have K2 := Lib.hid (blk_b K1.out hb2)
  have HX2 := Lib.hid ((HX1.out.below hb2).more hb2.size)
  have HY2 := Lib.hid ((HY1.out.below hb2).more hb2.size)
  have HS2 := Lib.hid (HS1.out.on hb2)
  have HROW := Lib.hid hrow
  have HLOK := Lib.hid hLok
  have hg00 : w.heap.size ≤ g := Nat.le_trans B1.out.size hg0
  clear hrow hb2 hLok hL hLl B1 K1 HX1 HY1 HS1 hg0
  go_wp2_with fail
  go_loopw [5, 19] (fun a i wr => ∃ (q : Nat), q ≤ L.length ∧ i = .int .i64 q ∧ a = .int .i64 (tally (costW n xs ys ss) (L.take q)) ∧ Hid (Below w2.heap.size w2 wr)) (fun _ i _ => L.length - (intOf i).toNat)
  case atStart => exact ⟨0, Nat.zero_le _, rfl, rfl, Lib.hid (Below.refl _ _)⟩
  case round =>
    obtain ⟨q, hq, rfl, rfl, hbr⟩ := hrel
    by_cases hlt : q < L.length
    · obtain ⟨s, hs⟩ : ∃ s, L[q] = s := ⟨_, rfl⟩
      have hsm : s ∈ L := by rw [← hs]; exact List.getElem_mem _
      obtain ⟨hs1, hs2⟩ := HLOK.out s hsm
      have hld : w2.cell? ⟨g, q, none⟩ = some (.string s) := by
        have h := HROW.out.cells (g := g) rfl q (.string s) (by rw [List.getElem?_map, List.getElem?_eq_getElem hlt, hs]; rfl)
        have e : ((⟨g, 0, none⟩ : Addr).add q) = ⟨g, q, none⟩ := by rw [Addr.add_lit, Nat.zero_add]
        rwa [e] at h
      have hldr : wr.cell? ⟨g, q, none⟩ = some (.string s) := (grown_of_below hbr.out).cell hld (by simp)
      have hgr : g < wr.heap.size := Nat.lt_of_lt_of_le hgw hbr.out.size
      have htk : L.take (q + 1) = L.take q ++ [s] := by rw [← hs]; exact List.take_succ_eq_append_getElem hlt
      have HTK := Lib.hid htk
      have HS2' := Lib.hid hs2
      obtain ⟨z, hz⟩ : ∃ z, costF n xs ys ss s.data.toList = z := ⟨_, rfl⟩
      have HZ := Lib.hid hz
      have KR := Lib.hid (blk_b K2.out hbr.out)
      obtain ⟨k0, k1, k2, k3⟩ := four_cells KR.out
      have kl := Blk.lt KR.out
      have hq1 : (q : Int) < (L.length : Int) := by omega
      obtain ⟨tn, htn⟩ : ∃ tn, tally (costW n xs ys ss) (L.take q) = tn := ⟨_, rfl⟩
      have htl : tn ≤ 256 := by rw [← htn]; have := tally_le (costW n xs ys ss) (L.take q); simp at this; omega
      have hyes : z < 1000000 → tally (costW n xs ys ss) (L.take (q + 1)) = tn + 1 := fun h => by
        rw [htk, ← htn]; exact tally_yes (show costW n xs ys ss s < 1000000 by unfold costW; rw [hz]; exact h)
      have hno : ¬ z < 1000000 → tally (costW n xs ys ss) (L.take (q + 1)) = tn := fun h => by
        rw [htk, ← htn]; exact tally_no (show ¬ costW n xs ys ss s < 1000000 by unfold costW; rw [hz]; exact h)
      have HYES := Lib.hid hyes
      have HNO := Lib.hid hno
      rw [htn]
      clear hyes hno htn
      clear hld hs htk hsm hs2 hz
      go_wp2_with fail
      refine (l4Cost_any n _ _ _ _ _ _ xs ys ss s z _ n1 n2 ((HX2.out.below hbr.out).more hbr.out.size) ((HY2.out.below hbr.out).more hbr.out.size) (HS2.out.on hbr.out) HXI.out HYI.out HSI.out (by omega) HS2'.out HZ.out).mono ?_
      rintro e w3 ⟨rfl, hb3⟩
      have BR3 := Lib.hid (below_on hbr.out hb3.out)
      clear hb3 k0 k1 k2 k3
      by_cases hzl : z < 1000000
      · have HT := Lib.hid (HYES.out hzl)
        clear HYES HNO
        go_wp2_with fail
        go_roundw
        case rel => exact ⟨q + 1, by omega, by go_num, by rw [HT.out]; go_num, BR3⟩
        case measure => simp [intOf]; omega
      · have HT := Lib.hid (HNO.out (by omega))
        clear HYES HNO
        go_wp2_with fail
        go_roundw
        case rel => exact ⟨q + 1, by omega, by go_num, by rw [HT.out], BR3⟩
        case measure => simp [intOf]; omega
    · have hqL : q = L.length := by omega
      subst hqL
      go_wp2_with fail
      go_ret
      exact ⟨by rw [HR.out, List.take_length]; rfl, below_on B2.out hbr.out⟩

theorem sBest_any (m : Int) (A1 A2 A3 : Option Addr) (c1 c2 c3 : Nat) (xs ys : List Int) (ss : List StepD) (k : Int) (w : World) (hx : Ints w w.heap.size A1 xs) (hy : Ints w w.heap.size A2 ys) (hs : SRow w w.heap.size A3 ss) :
    Calls Try.prog 12 #[.agg #[.int .i64 m, .slice A1 xs.length c1, .slice A2 ys.length c2, .slice A3 ss.length c3], .int .i64 k] w fun e w' => e = .returned (.tuple #[.string (bestR m xs ys ss k).1, .bool (bestR m xs ys ss k).2]) ∧ Hid (Below w.heap.size w w') := by
  have HX0 := Lib.hid (ints_al hx (.cells #[.int .i64 m, .slice A1 xs.length c1, .slice A2 ys.length c2, .slice A3 ss.length c3] 37))
  have HY0 := Lib.hid (ints_al hy (.cells #[.int .i64 m, .slice A1 xs.length c1, .slice A2 ys.length c2, .slice A3 ss.length c3] 37))
  have HS0 := Lib.hid (hs.al (.cells #[.int .i64 m, .slice A1 xs.length c1, .slice A2 ys.length c2, .slice A3 ss.length c3] 37))
  have K0 := Lib.hid (Blk.new w 37 #[.int .i64 m, .slice A1 xs.length c1, .slice A2 ys.length c2, .slice A3 ss.length c3])
  have B0 := Lib.hid (below_a1 w (.cells #[.int .i64 m, .slice A1 xs.length c1, .slice A2 ys.length c2, .slice A3 ss.length c3] 37))
  clear hx hy hs
  obtain ⟨b, hb⟩ : ∃ b, autoOk m xs ys ss = b := ⟨_, rfl⟩
  have HOK := Lib.hid hb
  obtain ⟨b2, hb2⟩ : ∃ b, shortOk k = b := ⟨_, rfl⟩
  have HSK := Lib.hid hb2
  have hl1 : decide (0 ≤ k ∧ k ≤ 7) = b2 := by rw [← hb2]; unfold shortOk; exact Bool.decide_and _ _
  have HL1 := Lib.hid hl1
  clear hb hb2 hl1
  go_enter Try.func12, Try.ntmps12
  go_wp2_with fail
  generalize w.alloc (.cells #[.int .i64 m, .slice A1 xs.length c1, .slice A2 ys.length c2, .slice A3 ss.length c3] 37) = w0 at HX0 HY0 HS0 K0 B0 ⊢
  refine (sAutomatonValid_is _ _ _ _ _ _ _ _ _ _ b _ HX0.out HY0.out HS0.out HOK.out).mono ?_
  rintro e w1 ⟨rfl, hb1⟩
  have B1 := Lib.hid (below_on B0.out hb1.out)
  have K1 := Lib.hid (blk_b K0.out hb1.out)
  have HX1 := Lib.hid ((HX0.out.below hb1.out).more hb1.out.size)
  have HY1 := Lib.hid ((HY0.out.below hb1.out).more hb1.out.size)
  have HS1 := Lib.hid (HS0.out.on hb1.out)
  clear HX0 HY0 HS0 K0 B0 hb1
  cases b
  · have HN := Lib.hid (bestR_none (m := m) (xs := xs) (ys := ys) (ss := ss) (k := k) (by rw [HOK.out]; rfl))
    go_wp2_with fail
    go_ret2
    exact ⟨by rw [HN.out]; rfl, B1.out⟩
  go_wp2_with fail
  refine (l1In_is _ _ _ b2 _ HL1.out).mono ?_
  rintro e wz ⟨rfl, rfl⟩
  cases b2
  · have HN := Lib.hid (bestR_none (m := m) (xs := xs) (ys := ys) (ss := ss) (k := k) (by rw [HOK.out, HSK.out]; rfl))
    go_wp2_with fail
    go_ret2
    exact ⟨by rw [HN.out]; rfl, B1.out⟩
  obtain ⟨n, rfl, n1, n2, hxi, hyi, _, hsi⟩ := auto_in HOK.out
  obtain ⟨k, rfl, hk7⟩ := shortOk_in HSK.out
  have HR : Hid (bestR n xs ys ss k = ((bestW (costW n xs ys ss) (wordsTo (k + 1))).1, decide (-1 < (bestW (costW n xs ys ss) (wordsTo (k + 1))).2))) := bestR_some HOK.out HSK.out
  have HSI := Lib.hid hsi
  have HXI := Lib.hid hxi
  have HYI := Lib.hid hyi
  clear hsi hxi hyi HOK HSK HL1
  go_wp2_with fail
  refine (l4Words_any k _ hk7).mono ?_
  rintro e w2 ⟨x, rfl, hrow, hb2⟩
  obtain ⟨L, hL⟩ : ∃ L, L = wordsTo (k + 1) := ⟨_, rfl⟩
  have hLl : L.length + 1 = 2 ^ (k + 1) := by rw [hL]; exact wordsTo_len _
  have hL1 : 1 ≤ L.length := by
    have : 2 ^ 1 ≤ 2 ^ (k + 1) := Nat.pow_le_pow_right (by omega) (by omega)
    omega
  have hL2 : L.length ≤ 256 := by
    have : 2 ^ (k + 1) ≤ 2 ^ 8 := Nat.pow_le_pow_right (by omega) (by omega)
    omega
  have hLok : ∀ s ∈ L, s.size ≤ 7 ∧ s.data.toList.all isAB = true := by rw [hL]; exact wordsTo_ok _ (by omega)
  rw [← hL] at hrow HR
  obtain ⟨g, cap, rfl, hg0, hgw, hcap, hcm⟩ := row_form hrow hL1
  have B2 := Lib.hid (below_on B1.out hb2)
  have K2 := Lib.hid (blk_b K1.out hb2)
  have HX2 := Lib.hid ((HX1.out.below hb2).more hb2.size)
  have HY2 := Lib.hid ((HY1.out.below hb2).more hb2.size)
  have HS2 := Lib.hid (HS1.out.on hb2)
  have HROW := Lib.hid hrow
  have HLOK := Lib.hid hLok
  have hg00 : w.heap.size ≤ g := Nat.le_trans B1.out.size hg0
  clear hrow hb2 hLok hL hLl B1 K1 HX1 HY1 HS1 hg0
  go_wp2_with fail
  go_loopw [6, 7, 22] (fun a c i wr => ∃ (q : Nat), q ≤ L.length ∧ i = .int .i64 q ∧ a = .string (bestW (costW n xs ys ss) (L.take q)).1 ∧ c = .int .i64 (bestW (costW n xs ys ss) (L.take q)).2 ∧ Hid (Below w2.heap.size w2 wr)) (fun _ _ i _ => L.length - (intOf i).toNat)
  case atStart => exact ⟨0, Nat.zero_le _, rfl, rfl, rfl, Lib.hid (Below.refl _ _)⟩
  case round =>
    obtain ⟨q, hq, rfl, rfl, rfl, hbr⟩ := hrel
    by_cases hlt : q < L.length
    · obtain ⟨s, hs⟩ : ∃ s, L[q] = s := ⟨_, rfl⟩
      have hsm : s ∈ L := by rw [← hs]; exact List.getElem_mem _
      obtain ⟨hs1, hs2⟩ := HLOK.out s hsm
      have hld : w2.cell? ⟨g, q, none⟩ = some (.string s) := by
        have h := HROW.out.cells (g := g) rfl q (.string s) (by rw [List.getElem?_map, List.getElem?_eq_getElem hlt, hs]; rfl)
        have e : ((⟨g, 0, none⟩ : Addr).add q) = ⟨g, q, none⟩ := by rw [Addr.add_lit, Nat.zero_add]
        rwa [e] at h
      have hldr : wr.cell? ⟨g, q, none⟩ = some (.string s) := (grown_of_below hbr.out).cell hld (by simp)
      have hgr : g < wr.heap.size := Nat.lt_of_lt_of_le hgw hbr.out.size
      have htk : L.take (q + 1) = L.take q ++ [s] := by rw [← hs]; exact List.take_succ_eq_append_getElem hlt
      have HTK := Lib.hid htk
      have HS2' := Lib.hid hs2
      obtain ⟨z, hz⟩ : ∃ z, costF n xs ys ss s.data.toList = z := ⟨_, rfl⟩
      have HZ := Lib.hid hz
      have KR := Lib.hid (blk_b K2.out hbr.out)
      obtain ⟨k0, k1, k2, k3⟩ := four_cells KR.out
      have kl := Blk.lt KR.out
      have hq1 : (q : Int) < (L.length : Int) := by omega
      obtain ⟨bs, bc, hbb⟩ : ∃ bs bc, bestW (costW n xs ys ss) (L.take q) = (bs, bc) := ⟨_, _, rfl⟩
      have hz' : costW n xs ys ss s = z := hz
      have hyes : z < 1000000 → bc < z → bestW (costW n xs ys ss) (L.take (q + 1)) = (s, z) := fun h h' => by
        rw [htk, ← hz']; exact bestW_yes (by rw [hz']; exact h) (by rw [hz', hbb]; exact h')
      have hno : ¬ (z < 1000000 ∧ bc < z) → bestW (costW n xs ys ss) (L.take (q + 1)) = (bs, bc) := fun h => by
        rw [htk, ← hbb]; exact bestW_no (by rw [hz', hbb]; exact h)
      have HYES := Lib.hid hyes
      have HNO := Lib.hid hno
      rw [hbb]
      clear hyes hno hbb hz'
      clear hld hs htk hsm hs2 hz
      go_wp2_with fail
      refine (l4Cost_any n _ _ _ _ _ _ xs ys ss s z _ n1 n2 ((HX2.out.below hbr.out).more hbr.out.size) ((HY2.out.below hbr.out).more hbr.out.size) (HS2.out.on hbr.out) HXI.out HYI.out HSI.out (by omega) HS2'.out HZ.out).mono ?_
      rintro e w3 ⟨rfl, hb3⟩
      have BR3 := Lib.hid (below_on hbr.out hb3.out)
      clear hb3 k0 k1 k2 k3
      by_cases hzl : z < 1000000
      · by_cases hgt : bc < z
        · have HT := Lib.hid (HYES.out hzl hgt)
          clear HYES HNO
          go_wp2_with fail
          go_roundw
          case rel => exact ⟨q + 1, by omega, by go_num, by rw [HT.out], by rw [HT.out], BR3⟩
          case measure => simp [intOf]; omega
        · have HT := Lib.hid (HNO.out (by omega))
          clear HYES HNO
          go_wp2_with fail
          go_roundw
          case rel => exact ⟨q + 1, by omega, by go_num, by rw [HT.out], by rw [HT.out], BR3⟩
          case measure => simp [intOf]; omega
      · have HT := Lib.hid (HNO.out (by omega))
        clear HYES HNO
        go_wp2_with fail
        go_roundw
        case rel => exact ⟨q + 1, by omega, by go_num, by rw [HT.out], by rw [HT.out], BR3⟩
        case measure => simp [intOf]; omega
    · have hqL : q = L.length := by omega
      subst hqL
      go_wp2_with fail
      go_ret2
      refine ⟨?_, below_on B2.out hbr.out⟩
      rw [HR.out, List.take_length]
      have e : decide (-1 < (bestW (costW n xs ys ss) L).2) = decide (0 ≤ (bestW (costW n xs ys ss) L).2) := decide_eq_decide.2 (by omega)
      rw [e]
      rfl
end Go.Proofs.Ytimdknlocfnhoaa
namespace Go.Proofs.Ytimdknlocfnhoaa
open Go.RowKit
set_option maxHeartbeats 4000000
set_option maxRecDepth 100000
set_option linter.unusedVariables false

theorem FnExactCountAccepted_walk (m : Int) (A1 : Option Addr) (c1 : Nat) (xs : List Int) (A2 : Option Addr) (c2 : Nat) (ys : List Int) (A3 : Option Addr) (c3 : Nat) (ss : List StepD) (k : Int) (hkf : (Lit.int .i64 k).wf = true) (w : World) (hx : IRow .i64 w w.heap.size A1 xs) (hy : IRow .i64 w w.heap.size A2 ys) (hs : SRow w w.heap.size A3 ss) :
    Calls Try.prog 5 #[.agg #[.int .i64 m, .slice A1 xs.length c1, .slice A2 ys.length c2, .slice A3 ss.length c3], .int .i64 k] w fun e w' => e = .returned (.bool true) ∧ Below w.heap.size w w' := by
  have lx := hx.len
  have ly := hy.len
  have ls := hs.1
  have lt := Lib.hid hs.2.1
  obtain ⟨r, hr⟩ : ∃ r, countR m xs ys ss k = r := ⟨_, rfl⟩
  have HR := Lib.hid hr
  have HX := Lib.hid hx
  have HY := Lib.hid hy
  have HS := Lib.hid hs
  have B0 := Lib.hid (below_a1 w (.cells #[.int .i64 m, .slice A1 xs.length c1, .slice A2 ys.length c2, .slice A3 ss.length c3] 31))
  have K0 := Lib.hid (Blk.new w 31 #[.int .i64 m, .slice A1 xs.length c1, .slice A2 ys.length c2, .slice A3 ss.length c3])
  clear hr hx hy hs
  go_enter Try.func5, Try.ntmps5
  go_wp2_with fail
  refine (szAutomaton_any _ _ _ _ _ _ _ _ _ _ _ lx ly (HS.out.on B0.out)).mono ?_
  rintro e w1 ⟨v, rfl, v0, v1, hv, hb1⟩
  have B1 := Lib.hid (below_on B0.out hb1.out)
  have K1 := Lib.hid (blk_b K0.out hb1.out)
  clear B0 K0 hb1
  by_cases hvn : v < 0
  · go_wp2_with fail
    go_ret
    exact ⟨rfl, B1.out⟩
  obtain ⟨sx, sy, sz⟩ := hv (by omega)
  clear hv
  obtain ⟨k0, k1, k2, k3⟩ := four_cells K1.out
  have kl := Blk.lt K1.out
  go_wp2_with fail
  refine (toAutomaton_any _ _ _ _ _ _ _ _ _ _ _ ((HX.out.below B1.out).more B1.out.size) ((HY.out.below B1.out).more B1.out.size) (HS.out.on B1.out) sx sy sz).mono ?_
  rintro e w2 ⟨g1, g2, g3, rfl, I1, I2, S3, hb2⟩
  have B2 := Lib.hid (below_on B1.out hb2.out)
  have K2 := Lib.hid (blk_b K1.out hb2.out)
  clear B1 K1 hb2 k0 k1 k2 k3 kl
  go_wp2_with fail
  refine (sCount_any _ _ _ _ _ _ _ _ _ _ k r _ I1.out I2.out (S3.out.row ls lt.out) HR.out).mono ?_
  rintro e w3 ⟨rfl, hb3⟩
  have B3 := Lib.hid (below_on B2.out hb3.out)
  have K3 := Lib.hid (blk_b K2.out hb3.out)
  clear B2 K2 hb3 I1 I2 S3
  obtain ⟨k0, k1, k2, k3⟩ := four_cells K3.out
  have kl := Blk.lt K3.out
  go_wp2_with fail
  refine (toAutomaton_any _ _ _ _ _ _ _ _ _ _ _ ((HX.out.below B3.out).more B3.out.size) ((HY.out.below B3.out).more B3.out.size) (HS.out.on B3.out) sx sy sz).mono ?_
  rintro e w4 ⟨h1, h2, h3, rfl, J1, J2, T3, hb4⟩
  have B4 := Lib.hid (below_al (below_on B3.out hb4.out) (Nat.le_refl _) (.cells #[.int .i64 m, .slice (some ⟨h1, 0, none⟩) xs.length xs.length, .slice (some ⟨h2, 0, none⟩) ys.length ys.length, .slice (some ⟨h3, 0, none⟩) ss.length ss.length] 37))
  have K4 := Lib.hid ((blk_b K3.out hb4.out).alloc (.cells #[.int .i64 m, .slice (some ⟨h1, 0, none⟩) xs.length xs.length, .slice (some ⟨h2, 0, none⟩) ys.length ys.length, .slice (some ⟨h3, 0, none⟩) ss.length ss.length] 37))
  have X4 := Lib.hid (Blk.new w4 37 #[.int .i64 m, .slice (some ⟨h1, 0, none⟩) xs.length xs.length, .slice (some ⟨h2, 0, none⟩) ys.length ys.length, .slice (some ⟨h3, 0, none⟩) ss.length ss.length])
  have P1 := Lib.hid (ints_al J1.out (.cells #[.int .i64 m, .slice (some ⟨h1, 0, none⟩) xs.length xs.length, .slice (some ⟨h2, 0, none⟩) ys.length ys.length, .slice (some ⟨h3, 0, none⟩) ss.length ss.length] 37))
  have P2 := Lib.hid (ints_al J2.out (.cells #[.int .i64 m, .slice (some ⟨h1, 0, none⟩) xs.length xs.length, .slice (some ⟨h2, 0, none⟩) ys.length ys.length, .slice (some ⟨h3, 0, none⟩) ss.length ss.length] 37))
  have P3 := Lib.hid ((T3.out.row ls lt.out).al (.cells #[.int .i64 m, .slice (some ⟨h1, 0, none⟩) xs.length xs.length, .slice (some ⟨h2, 0, none⟩) ys.length ys.length, .slice (some ⟨h3, 0, none⟩) ss.length ss.length] 37))
  clear B3 K3 hb4 J1 J2 T3 k0 k1 k2 k3 kl
  go_wp2_with fail
  refine (iCount_any _ _ _ _ _ _ _ _ _ _ k r _ P1.out P2.out P3.out HR.out).mono ?_
  rintro e w5 ⟨rfl, hb5⟩
  have B5 := Lib.hid (below_on B4.out hb5.out)
  have K5 := Lib.hid (blk_b K4.out hb5.out)
  have X5 := Lib.hid (blk_b X4.out hb5.out)
  have Q1 := Lib.hid ((P1.out.below hb5.out).more hb5.out.size)
  have Q2 := Lib.hid ((P2.out.below hb5.out).more hb5.out.size)
  have Q3 := Lib.hid (P3.out.on hb5.out)
  obtain ⟨V, hV⟩ : ∃ V, V = w4.heap.size := ⟨_, rfl⟩
  rw [← hV] at X5 ⊢
  clear hV B4 K4 X4 P1 P2 P3 hb5
  have KS : Hid (∀ w', Below w5.heap.size w5 w' → (Hid (Below w5.heap.size w5 w') ∧ w'.cell? ⟨w.heap.size, 0, none⟩ = some (.int .i64 m) ∧ w'.cell? ⟨w.heap.size, 1, none⟩ = some (.slice A1 xs.length c1) ∧ w'.cell? ⟨w.heap.size, 2, none⟩ = some (.slice A2 ys.length c2) ∧ w'.cell? ⟨w.heap.size, 3, none⟩ = some (.slice A3 ss.length c3) ∧ w'.cell? ⟨V, 0, none⟩ = some (.int .i64 m) ∧ w'.cell? ⟨V, 1, none⟩ = some (.slice (some ⟨h1, 0, none⟩) xs.length xs.length) ∧ w'.cell? ⟨V, 2, none⟩ = some (.slice (some ⟨h2, 0, none⟩) ys.length ys.length) ∧ w'.cell? ⟨V, 3, none⟩ = some (.slice (some ⟨h3, 0, none⟩) ss.length ss.length))) := fun w' h => by
    have a := blk_b K5.out h
    have v := blk_b X5.out h
    exact ⟨h, a.cell 0, a.cell 1, a.cell 2, a.cell 3, v.cell 0, v.cell 1, v.cell 2, v.cell 3⟩
  go_wp2_with fail
  have hS0 := KS.out w5.drew ((Below.refl _ _).drew)
  go_region_held3 (fun w' => Hid (Below w5.heap.size w5 w') ∧ w'.cell? ⟨w.heap.size, 0, none⟩ = some (.int .i64 m) ∧ w'.cell? ⟨w.heap.size, 1, none⟩ = some (.slice A1 xs.length c1) ∧ w'.cell? ⟨w.heap.size, 2, none⟩ = some (.slice A2 ys.length c2) ∧ w'.cell? ⟨w.heap.size, 3, none⟩ = some (.slice A3 ss.length c3) ∧ w'.cell? ⟨V, 0, none⟩ = some (.int .i64 m) ∧ w'.cell? ⟨V, 1, none⟩ = some (.slice (some ⟨h1, 0, none⟩) xs.length xs.length) ∧ w'.cell? ⟨V, 2, none⟩ = some (.slice (some ⟨h2, 0, none⟩) ys.length ys.length) ∧ w'.cell? ⟨V, 3, none⟩ = some (.slice (some ⟨h3, 0, none⟩) ss.length ss.length)) (first | with_reducible assumption | skip)
    (first
      | (go_at_call 13; refine (toAutomaton_any _ _ _ _ _ _ _ _ _ _ _ ((HX.out.below (below_on B5.out hS0.1.out)).more (below_on B5.out hS0.1.out).size) ((HY.out.below (below_on B5.out hS0.1.out)).more (below_on B5.out hS0.1.out).size) (HS.out.on (below_on B5.out hS0.1.out)) sx sy sz).mono ?_; rintro e w6 ⟨i1, i2, i3, rfl, U1, U2, U3, hb6⟩; have hS1 := KS.out _ (below_on hS0.1.out hb6.out))
      | (go_at_call 15; refine (eqAutomaton_eq _ _ _ _ _ _ _ _ _ _ _ _ _ _ _ _ _ ((Q1.out.below hS1.1.out).more hS1.1.out.size) ((Q2.out.below hS1.1.out).more hS1.1.out.size) (Q3.out.on hS1.1.out) U1.out U2.out (U3.out.row ls lt.out)).mono ?_; rintro e w7 ⟨rfl, hb7⟩; have hS2 := KS.out _ (below_on hS1.1.out hb7.out)))
  go_wp2_with fail
  go_ret
  exact ⟨rfl, below_on B5.out hS2.1.out⟩
end Go.Proofs.Ytimdknlocfnhoaa
namespace Go.Proofs.Ytimdknlocfnhoaa
open Go.RowKit
set_option maxHeartbeats 4000000
set_option maxRecDepth 100000
set_option linter.unusedVariables false

theorem FnExactCostliestWord_walk (m : Int) (A1 : Option Addr) (c1 : Nat) (xs : List Int) (A2 : Option Addr) (c2 : Nat) (ys : List Int) (A3 : Option Addr) (c3 : Nat) (ss : List StepD) (k : Int) (hkf : (Lit.int .i64 k).wf = true) (w : World) (hx : IRow .i64 w w.heap.size A1 xs) (hy : IRow .i64 w w.heap.size A2 ys) (hs : SRow w w.heap.size A3 ss) :
    Calls Try.prog 4 #[.agg #[.int .i64 m, .slice A1 xs.length c1, .slice A2 ys.length c2, .slice A3 ss.length c3], .int .i64 k] w fun e w' => e = .returned (.bool true) ∧ Below w.heap.size w w' := by
  have lx := hx.len
  have ly := hy.len
  have ls := hs.1
  have lt := Lib.hid hs.2.1
  obtain ⟨r1, r2, hr⟩ : ∃ r1 r2, bestR m xs ys ss k = (r1, r2) := ⟨_, _, rfl⟩
  have HSP := fun (A1 A2 A3 : Option Addr) (c1 c2 c3 : Nat) (w : World) hx hy hs => sBest_any m A1 A2 A3 c1 c2 c3 xs ys ss k w hx hy hs
  have HIP := fun (A1 A2 A3 : Option Addr) (c1 c2 c3 : Nat) (w : World) hx hy hs => iBest_any m A1 A2 A3 c1 c2 c3 xs ys ss k w hx hy hs
  rw [hr] at HSP HIP
  have HS1 := Lib.hid HSP
  have HI1 := Lib.hid HIP
  have HX := Lib.hid hx
  have HY := Lib.hid hy
  have HS := Lib.hid hs
  have B0 := Lib.hid (below_a1 w (.cells #[.int .i64 m, .slice A1 xs.length c1, .slice A2 ys.length c2, .slice A3 ss.length c3] 31))
  have K0 := Lib.hid (Blk.new w 31 #[.int .i64 m, .slice A1 xs.length c1, .slice A2 ys.length c2, .slice A3 ss.length c3])
  clear hr hx hy hs HSP HIP
  go_enter Try.func4, Try.ntmps4
  go_wp2_with fail
  refine (szAutomaton_any _ _ _ _ _ _ _ _ _ _ _ lx ly (HS.out.on B0.out)).mono ?_
  rintro e w1 ⟨v, rfl, v0, v1, hv, hb1⟩
  have B1 := Lib.hid (below_on B0.out hb1.out)
  have K1 := Lib.hid (blk_b K0.out hb1.out)
  clear B0 K0 hb1
  by_cases hvn : v < 0
  · go_wp2_with fail
    go_ret
    exact ⟨rfl, B1.out⟩
  obtain ⟨sx, sy, sz⟩ := hv (by omega)
  clear hv
  obtain ⟨k0, k1, k2, k3⟩ := four_cells K1.out
  have kl := Blk.lt K1.out
  go_wp2_with fail
  refine (toAutomaton_any _ _ _ _ _ _ _ _ _ _ _ ((HX.out.below B1.out).more B1.out.size) ((HY.out.below B1.out).more B1.out.size) (HS.out.on B1.out) sx sy sz).mono ?_
  rintro e w2 ⟨g1, g2, g3, rfl, I1, I2, S3, hb2⟩
  have B2 := Lib.hid (below_on B1.out hb2.out)
  have K2 := Lib.hid (blk_b K1.out hb2.out)
  clear B1 K1 hb2 k0 k1 k2 k3 kl
  go_wp2_with fail
  refine (HS1.out _ _ _ _ _ _ _ I1.out I2.out (S3.out.row ls lt.out)).mono ?_
  rintro e w3 ⟨rfl, hb3⟩
  have B3 := Lib.hid (below_on B2.out hb3.out)
  have K3 := Lib.hid (blk_b K2.out hb3.out)
  clear B2 K2 hb3 I1 I2 S3
  obtain ⟨k0, k1, k2, k3⟩ := four_cells K3.out
  have kl := Blk.lt K3.out
  go_wp2_with fail
  refine (toAutomaton_any _ _ _ _ _ _ _ _ _ _ _ ((HX.out.below B3.out).more B3.out.size) ((HY.out.below B3.out).more B3.out.size) (HS.out.on B3.out) sx sy sz).mono ?_
  rintro e w4 ⟨h1, h2, h3, rfl, J1, J2, T3, hb4⟩
  have B4 := Lib.hid (below_al (below_on B3.out hb4.out) (Nat.le_refl _) (.cells #[.int .i64 m, .slice (some ⟨h1, 0, none⟩) xs.length xs.length, .slice (some ⟨h2, 0, none⟩) ys.length ys.length, .slice (some ⟨h3, 0, none⟩) ss.length ss.length] 37))
  have K4 := Lib.hid ((blk_b K3.out hb4.out).alloc (.cells #[.int .i64 m, .slice (some ⟨h1, 0, none⟩) xs.length xs.length, .slice (some ⟨h2, 0, none⟩) ys.length ys.length, .slice (some ⟨h3, 0, none⟩) ss.length ss.length] 37))
  have X4 := Lib.hid (Blk.new w4 37 #[.int .i64 m, .slice (some ⟨h1, 0, none⟩) xs.length xs.length, .slice (some ⟨h2, 0, none⟩) ys.length ys.length, .slice (some ⟨h3, 0, none⟩) ss.length ss.length])
  have P1 := Lib.hid (ints_al J1.out (.cells #[.int .i64 m, .slice (some ⟨h1, 0, none⟩) xs.length xs.length, .slice (some ⟨h2, 0, none⟩) ys.length ys.length, .slice (some ⟨h3, 0, none⟩) ss.length ss.length] 37))
  have P2 := Lib.hid (ints_al J2.out (.cells #[.int .i64 m, .slice (some ⟨h1, 0, none⟩) xs.length xs.length, .slice (some ⟨h2, 0, none⟩) ys.length ys.length, .slice (some ⟨h3, 0, none⟩) ss.length ss.length] 37))
  have P3 := Lib.hid ((T3.out.row ls lt.out).al (.cells #[.int .i64 m, .slice (some ⟨h1, 0, none⟩) xs.length xs.length, .slice (some ⟨h2, 0, none⟩) ys.length ys.length, .slice (some ⟨h3, 0, none⟩) ss.length ss.length] 37))
  clear B3 K3 hb4 J1 J2 T3 k0 k1 k2 k3 kl
  go_wp2_with fail
  refine (HI1.out _ _ _ _ _ _ _ P1.out P2.out P3.out).mono ?_
  rintro e w5 ⟨rfl, hb5⟩
  have B5 := Lib.hid (below_on B4.out hb5.out)
  have K5 := Lib.hid (blk_b K4.out hb5.out)
  have X5 := Lib.hid (blk_b X4.out hb5.out)
  have Q1 := Lib.hid ((P1.out.below hb5.out).more hb5.out.size)
  have Q2 := Lib.hid ((P2.out.below hb5.out).more hb5.out.size)
  have Q3 := Lib.hid (P3.out.on hb5.out)
  obtain ⟨V, hV⟩ : ∃ V, V = w4.heap.size := ⟨_, rfl⟩
  rw [← hV] at X5 ⊢
  clear hV B4 K4 X4 P1 P2 P3 hb5
  have KS : Hid (∀ w', Below w5.heap.size w5 w' → (Hid (Below w5.heap.size w5 w') ∧ w'.cell? ⟨w.heap.size, 0, none⟩ = some (.int .i64 m) ∧ w'.cell? ⟨w.heap.size, 1, none⟩ = some (.slice A1 xs.length c1) ∧ w'.cell? ⟨w.heap.size, 2, none⟩ = some (.slice A2 ys.length c2) ∧ w'.cell? ⟨w.heap.size, 3, none⟩ = some (.slice A3 ss.length c3) ∧ w'.cell? ⟨V, 0, none⟩ = some (.int .i64 m) ∧ w'.cell? ⟨V, 1, none⟩ = some (.slice (some ⟨h1, 0, none⟩) xs.length xs.length) ∧ w'.cell? ⟨V, 2, none⟩ = some (.slice (some ⟨h2, 0, none⟩) ys.length ys.length) ∧ w'.cell? ⟨V, 3, none⟩ = some (.slice (some ⟨h3, 0, none⟩) ss.length ss.length))) := fun w' h => by
    have a := blk_b K5.out h
    have v := blk_b X5.out h
    exact ⟨h, a.cell 0, a.cell 1, a.cell 2, a.cell 3, v.cell 0, v.cell 1, v.cell 2, v.cell 3⟩
  go_wp2_with fail
  have hS0 := KS.out w5.drew ((Below.refl _ _).drew)
  go_region_held3 (fun w' => Hid (Below w5.heap.size w5 w') ∧ w'.cell? ⟨w.heap.size, 0, none⟩ = some (.int .i64 m) ∧ w'.cell? ⟨w.heap.size, 1, none⟩ = some (.slice A1 xs.length c1) ∧ w'.cell? ⟨w.heap.size, 2, none⟩ = some (.slice A2 ys.length c2) ∧ w'.cell? ⟨w.heap.size, 3, none⟩ = some (.slice A3 ss.length c3) ∧ w'.cell? ⟨V, 0, none⟩ = some (.int .i64 m) ∧ w'.cell? ⟨V, 1, none⟩ = some (.slice (some ⟨h1, 0, none⟩) xs.length xs.length) ∧ w'.cell? ⟨V, 2, none⟩ = some (.slice (some ⟨h2, 0, none⟩) ys.length ys.length) ∧ w'.cell? ⟨V, 3, none⟩ = some (.slice (some ⟨h3, 0, none⟩) ss.length ss.length)) (first | with_reducible assumption | skip)
    (first
      | (go_at_call 13; refine (toAutomaton_any _ _ _ _ _ _ _ _ _ _ _ ((HX.out.below (below_on B5.out hS0.1.out)).more (below_on B5.out hS0.1.out).size) ((HY.out.below (below_on B5.out hS0.1.out)).more (below_on B5.out hS0.1.out).size) (HS.out.on (below_on B5.out hS0.1.out)) sx sy sz).mono ?_; rintro e w6 ⟨i1, i2, i3, rfl, U1, U2, U3, hb6⟩; have hS1 := KS.out _ (below_on hS0.1.out hb6.out))
      | (go_at_call 15; refine (eqAutomaton_eq _ _ _ _ _ _ _ _ _ _ _ _ _ _ _ _ _ ((Q1.out.below hS1.1.out).more hS1.1.out.size) ((Q2.out.below hS1.1.out).more hS1.1.out.size) (Q3.out.on hS1.1.out) U1.out U2.out (U3.out.row ls lt.out)).mono ?_; rintro e w7 ⟨rfl, hb7⟩; have hS2 := KS.out _ (below_on hS1.1.out hb7.out)))
  go_wp2_with fail
  go_ret
  exact ⟨rfl, below_on B5.out hS2.1.out⟩
end Go.Proofs.Ytimdknlocfnhoaa
