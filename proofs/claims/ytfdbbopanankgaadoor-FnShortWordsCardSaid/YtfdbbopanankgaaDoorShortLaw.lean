/- The model's count of the short words that are accepted, and its costliest one of them; nothing that was there changes. No condition. The walk of the exact law of CountAccepted: it returns true for all arguments; nothing that was there changes. No condition. The walk of the exact law of CostliestWord: it returns true for all arguments; nothing that was there changes. No condition. -/
import Derived.Test.YtfdbbopanankgaaDoorWordsS
import Derived.Test.YtfdbbopanankgaaDoorShortI
import Derived.Test.YtfdbbopanankgaaDoorCostM
import Derived.Test.YtfdbbopanankgaaDoorAutS
import Derived.Test.YtfdbbopanankgaaDoorToC
import Derived.Deep.RegionHeld3
namespace Go.Proofs.YtfdbbopanankgaaDoor
open Go.RowKit
set_option maxHeartbeats 4000000
set_option maxRecDepth 100000
set_option linter.unusedVariables false

theorem sCount_any (m : Int) (A1 A2 A3 : Option Addr) (c1 c2 c3 : Nat) (xs ys : List Int) (ss : List StepD) (k : Int) (r : Int) (w : World) (hx : Ints w w.heap.size A1 xs) (hy : Ints w w.heap.size A2 ys) (hs : SRow w w.heap.size A3 ss) (hr : countR m xs ys ss k = r) :
    Calls Tryd.prog 10 #[.agg #[.int .i64 m, .slice A1 xs.length c1, .slice A2 ys.length c2, .slice A3 ss.length c3], .int .i64 k] w fun e w' => e = .returned (.int .i64 r) ∧ Hid (Below w.heap.size w w') := by
  have HX0 := Lib.hid (ints_al hx (.cells #[.int .i64 m, .slice A1 xs.length c1, .slice A2 ys.length c2, .slice A3 ss.length c3] 26))
  have HY0 := Lib.hid (ints_al hy (.cells #[.int .i64 m, .slice A1 xs.length c1, .slice A2 ys.length c2, .slice A3 ss.length c3] 26))
  have HS0 := Lib.hid (hs.al (.cells #[.int .i64 m, .slice A1 xs.length c1, .slice A2 ys.length c2, .slice A3 ss.length c3] 26))
  have K0 := Lib.hid (Blk.new w 26 #[.int .i64 m, .slice A1 xs.length c1, .slice A2 ys.length c2, .slice A3 ss.length c3])
  have B0 := Lib.hid (below_a1 w (.cells #[.int .i64 m, .slice A1 xs.length c1, .slice A2 ys.length c2, .slice A3 ss.length c3] 26))
  clear hx hy hs
  obtain ⟨b, hb⟩ : ∃ b, autoOk m xs ys ss = b := ⟨_, rfl⟩
  have HOK := Lib.hid hb
  obtain ⟨b2, hb2⟩ : ∃ b, shortOk k = b := ⟨_, rfl⟩
  have HSK := Lib.hid hb2
  have hl1 : decide (0 ≤ k ∧ k ≤ 7) = b2 := by rw [← hb2]; unfold shortOk; exact Bool.decide_and _ _
  have HL1 := Lib.hid hl1
  clear hb hb2 hl1
  go_enter Tryd.func10, Tryd.ntmps10
  go_wp2_with fail
  generalize w.alloc (.cells #[.int .i64 m, .slice A1 xs.length c1, .slice A2 ys.length c2, .slice A3 ss.length c3] 26) = w0 at HX0 HY0 HS0 K0 B0 ⊢
  refine (sAutomatonValid_is _ _ _ _ _ _ _ _ _ _ b _ HX0.out HY0.out HS0.out HOK.out).mono ?_
  rintro e w1 ⟨rfl, hb1⟩
  have B1 := Lib.hid (below_on B0.out hb1.out)
  have K1 := Lib.hid (blk_b K0.out hb1.out)
  have HX1 := Lib.hid ((HX0.out.below hb1.out).more hb1.out.size)
  have HY1 := Lib.hid ((HY0.out.below hb1.out).more hb1.out.size)
  have HS1 := Lib.hid (HS0.out.on hb1.out)
  clear HX0 HY0 HS0 K0 B0 hb1
  cases b
  · obtain rfl : r = -1 := by rw [← hr, countR_none (by rw [HOK.out]; rfl)]
    clear hr
    go_wp2_with fail
    go_ret
    exact ⟨rfl, B1.out⟩
  go_wp2_with fail
  refine (l1In_is _ _ _ b2 _ HL1.out).mono ?_
  rintro e wz ⟨rfl, rfl⟩
  cases b2
  · obtain rfl : r = -1 := by rw [← hr, countR_none (by rw [HOK.out, HSK.out]; rfl)]
    clear hr
    go_wp2_with fail
    go_ret
    exact ⟨rfl, B1.out⟩
  obtain ⟨n, rfl, n1, n2, hxi, hyi, _, hsi⟩ := auto_in HOK.out
  obtain ⟨k, rfl, hk7⟩ := shortOk_in HSK.out
  have HR : Hid (r = (tally (costW n xs ys ss) (wordsTo (k + 1)) : Int)) := by rw [← hr, countR_some HOK.out HSK.out]; exact rfl
  clear hr
  have HSI := Lib.hid hsi
  have HXI := Lib.hid hxi
  have HYI := Lib.hid hyi
  clear hsi hxi hyi HOK HSK HL1
  go_wp2_with fail
  refine (l4Words_any k _ hk7).mono ?_
  rintro e w2 ⟨x, rfl, hrow, hb2⟩
  obtain ⟨L, hL⟩ : ∃ L, L = wordsTo (k + 1) := ⟨_, rfl⟩
  have hLl : L.length + 1 = 2 ^ (k + 1) := by rw [hL]; exact wordsTo_len _
  have hL1 : 1 ≤ L.length := by
    have : 2 ^ 1 ≤ 2 ^ (k + 1) := Nat.pow_le_pow_right (by omega) (by omega)
    omega
  have hL2 : L.length ≤ 256 := by
    have : 2 ^ (k + 1) ≤ 2 ^ 8 := Nat.pow_le_pow_right (by omega) (by omega)
    omega
  have hLok : ∀ s ∈ L, s.size ≤ 7 ∧ s.data.toList.all isAB = true := by rw [hL]; exact wordsTo_ok _ (by omega)
  rw [← hL] at hrow HR
  obtain ⟨g, cap, rfl, hg0, hgw, hcap, hcm⟩ := row_form hrow hL1
  have B2 := Lib.hid (below_on B1.out hb2)
  have K2 := Lib.hid (blk_b K1.out hb2)
  have HX2 := Lib.hid ((HX1.out.below hb2).more hb2.size)
  have HY2 := Lib.hid ((HY1.out.below hb2).more hb2.size)
  have HS2 := Lib.hid (HS1.out.on hb2)
  have HROW := Lib.hid hrow
  have HLOK := Lib.hid hLok
  have hg00 : w.heap.size ≤ g := Nat.le_trans B1.out.size hg0
  clear hrow hb2 hLok hL hLl B1 K1 HX1 HY1 HS1 hg0
  go_wp2_with fail
  go_loopw [5, 19] (fun a i wr => ∃ (q : Nat), q ≤ L.length ∧ i = .int .i64 q ∧ a = .int .i64 (tally (costW n xs ys ss) (L.take q)) ∧ Hid (Below w2.heap.size w2 wr)) (fun _ i _ => L.length - (intOf i).toNat)
  case atStart => exact ⟨0, Nat.zero_le _, rfl, rfl, Lib.hid (Below.refl _ _)⟩
  case round =>
    obtain ⟨q, hq, rfl, rfl, hbr⟩ := hrel
    by_cases hlt : q < L.length
    · obtain ⟨s, hs⟩ : ∃ s, L[q] = s := ⟨_, rfl⟩
      have hsm : s ∈ L := by rw [← hs]; exact List.getElem_mem _
      obtain ⟨hs1, hs2⟩ := HLOK.out s hsm
      have hld : w2.cell? ⟨g, q, none⟩ = some (.string s) := by
        have h := HROW.out.cells (g := g) rfl q (.string s) (by rw [List.getElem?_map, List.getElem?_eq_getElem hlt, hs]; rfl)
        have e : ((⟨g, 0, none⟩ : Addr).add q) = ⟨g, q, none⟩ := by rw [Addr.add_lit, Nat.zero_add]
        rwa [e] at h
      have hldr : wr.cell? ⟨g, q, none⟩ = some (.string s) := (grown_of_below hbr.out).cell hld (by simp)
      have hgr : g < wr.heap.size := Nat.lt_of_lt_of_le hgw hbr.out.size
      have htk : L.take (q + 1) = L.take q ++ [s] := by rw [← hs]; exact List.take_succ_eq_append_getElem hlt
      have HTK := Lib.hid htk
      have HS2' := Lib.hid hs2
      obtain ⟨z, hz⟩ : ∃ z, costF n xs ys ss s.data.toList = z := ⟨_, rfl⟩
      have HZ := Lib.hid hz
      have KR := Lib.hid (blk_b K2.out hbr.out)
      obtain ⟨k0, k1, k2, k3⟩ := four_cells KR.out
      have kl := Blk.lt KR.out
      have hq1 : (q : Int) < (L.length : Int) := by omega
      obtain ⟨tn, htn⟩ : ∃ tn, tally (costW n xs ys ss) (L.take q) = tn := ⟨_, rfl⟩
      have htl : tn ≤ 256 := by rw [← htn]; have := tally_le (costW n xs ys ss) (L.take q); simp at this; omega
      have hyes : z < 1000000 → tally (costW n xs ys ss) (L.take (q + 1)) = tn + 1 := fun h => by
        rw [htk, ← htn]; exact tally_yes (show costW n xs ys ss s < 1000000 by unfold costW; rw [hz]; exact h)
      have hno : ¬ z < 1000000 → tally (costW n xs ys ss) (L.take (q + 1)) = tn := fun h => by
        rw [htk, ← htn]; exact tally_no (show ¬ costW n xs ys ss s < 1000000 by unfold costW; rw [hz]; exact h)
      have HYES := Lib.hid hyes
      have HNO := Lib.hid hno
      rw [htn]
      clear hyes hno htn
      clear hld hs htk hsm hs2 hz
      go_wp2_with fail
      refine (l4Cost_any n _ _ _ _ _ _ xs ys ss s z _ n1 n2 ((HX2.out.below hbr.out).more hbr.out.size) ((HY2.out.below hbr.out).more hbr.out.size) (HS2.out.on hbr.out) HXI.out HYI.out HSI.out (by omega) HS2'.out HZ.out).mono ?_
      rintro e w3 ⟨rfl, hb3⟩
      have BR3 := Lib.hid (below_on hbr.out hb3.out)
      clear hb3 k0 k1 k2 k3
      by_cases hzl : z < 1000000
      · have HT := Lib.hid (HYES.out hzl)
        clear HYES HNO
        go_wp2_with fail
        go_roundw
        case rel => exact ⟨q + 1, by omega, by go_num, by rw [HT.out]; go_num, BR3⟩
        case measure => simp [intOf]; omega
      · have HT := Lib.hid (HNO.out (by omega))
        clear HYES HNO
        go_wp2_with fail
        go_roundw
        case rel => exact ⟨q + 1, by omega, by go_num, by rw [HT.out], BR3⟩
        case measure => simp [intOf]; omega
    · have hqL : q = L.length := by omega
      subst hqL
      go_wp2_with fail
      go_ret
      exact ⟨by rw [HR.out, List.take_length]; rfl, below_on B2.out hbr.out⟩

theorem sBest_any (m : Int) (A1 A2 A3 : Option Addr) (c1 c2 c3 : Nat) (xs ys : List Int) (ss : List StepD) (k : Int) (w : World) (hx : Ints w w.heap.size A1 xs) (hy : Ints w w.heap.size A2 ys) (hs : SRow w w.heap.size A3 ss) :
    Calls Tryd.prog 6 #[.agg #[.int .i64 m, .slice A1 xs.length c1, .slice A2 ys.length c2, .slice A3 ss.length c3], .int .i64 k] w fun e w' => e = .returned (.tuple #[.string (bestR m xs ys ss k).1, .bool (bestR m xs ys ss k).2]) ∧ Hid (Below w.heap.size w w') := by
  have HX0 := Lib.hid (ints_al hx (.cells #[.int .i64 m, .slice A1 xs.length c1, .slice A2 ys.length c2, .slice A3 ss.length c3] 26))
  have HY0 := Lib.hid (ints_al hy (.cells #[.int .i64 m, .slice A1 xs.length c1, .slice A2 ys.length c2, .slice A3 ss.length c3] 26))
  have HS0 := Lib.hid (hs.al (.cells #[.int .i64 m, .slice A1 xs.length c1, .slice A2 ys.length c2, .slice A3 ss.length c3] 26))
  have K0 := Lib.hid (Blk.new w 26 #[.int .i64 m, .slice A1 xs.length c1, .slice A2 ys.length c2, .slice A3 ss.length c3])
  have B0 := Lib.hid (below_a1 w (.cells #[.int .i64 m, .slice A1 xs.length c1, .slice A2 ys.length c2, .slice A3 ss.length c3] 26))
  clear hx hy hs
  obtain ⟨b, hb⟩ : ∃ b, autoOk m xs ys ss = b := ⟨_, rfl⟩
  have HOK := Lib.hid hb
  obtain ⟨b2, hb2⟩ : ∃ b, shortOk k = b := ⟨_, rfl⟩
  have HSK := Lib.hid hb2
  have hl1 : decide (0 ≤ k ∧ k ≤ 7) = b2 := by rw [← hb2]; unfold shortOk; exact Bool.decide_and _ _
  have HL1 := Lib.hid hl1
  clear hb hb2 hl1
  go_enter Tryd.func6, Tryd.ntmps6
  go_wp2_with fail
  generalize w.alloc (.cells #[.int .i64 m, .slice A1 xs.length c1, .slice A2 ys.length c2, .slice A3 ss.length c3] 26) = w0 at HX0 HY0 HS0 K0 B0 ⊢
  refine (sAutomatonValid_is _ _ _ _ _ _ _ _ _ _ b _ HX0.out HY0.out HS0.out HOK.out).mono ?_
  rintro e w1 ⟨rfl, hb1⟩
  have B1 := Lib.hid (below_on B0.out hb1.out)
  have K1 := Lib.hid (blk_b K0.out hb1.out)
  have HX1 := Lib.hid ((HX0.out.below hb1.out).more hb1.out.size)
  have HY1 := Lib.hid ((HY0.out.below hb1.out).more hb1.out.size)
  have HS1 := Lib.hid (HS0.out.on hb1.out)
  clear HX0 HY0 HS0 K0 B0 hb1
  cases b
  · have HN := Lib.hid (bestR_none (m := m) (xs := xs) (ys := ys) (ss := ss) (k := k) (by rw [HOK.out]; rfl))
    go_wp2_with fail
    go_ret2
    exact ⟨by rw [HN.out]; rfl, B1.out⟩
  go_wp2_with fail
  refine (l1In_is _ _ _ b2 _ HL1.out).mono ?_
  rintro e wz ⟨rfl, rfl⟩
  cases b2
  · have HN := Lib.hid (bestR_none (m := m) (xs := xs) (ys := ys) (ss := ss) (k := k) (by rw [HOK.out, HSK.out]; rfl))
    go_wp2_with fail
    go_ret2
    exact ⟨by rw [HN.out]; rfl, B1.out⟩
  obtain ⟨n, rfl, n1, n2, hxi, hyi, _, hsi⟩ := auto_in HOK.out
  obtain ⟨k, rfl, hk7⟩ := shortOk_in HSK.out
  have HR : Hid (bestR n xs ys ss k = ((bestW (costW n xs ys ss) (wordsTo (k + 1))).1, decide (-1 < (bestW (costW n xs ys ss) (wordsTo (k + 1))).2))) := bestR_some HOK.out HSK.out
  have HSI := Lib.hid hsi
  have HXI := Lib.hid hxi
  have HYI := Lib.hid hyi
  clear hsi hxi hyi HOK HSK HL1
  go_wp2_with fail
  refine (l4Words_any k _ hk7).mono ?_
  rintro e w2 ⟨x, rfl, hrow, hb2⟩
  obtain ⟨L, hL⟩ : ∃ L, L = wordsTo (k + 1) := ⟨_, rfl⟩
  have hLl : L.length + 1 = 2 ^ (k + 1) := by rw [hL]; exact wordsTo_len _
  have hL1 : 1 ≤ L.length := by
    have : 2 ^ 1 ≤ 2 ^ (k + 1) := Nat.pow_le_pow_right (by omega) (by omega)
    omega
  have hL2 : L.length ≤ 256 := by
    have : 2 ^ (k + 1) ≤ 2 ^ 8 := Nat.pow_le_pow_right (by omega) (by omega)
    omega
  have hLok : ∀ s ∈ L, s.size ≤ 7 ∧ s.data.toList.all isAB = true := by rw [hL]; exact wordsTo_ok _ (by omega)
  rw [← hL] at hrow HR
  obtain ⟨g, cap, rfl, hg0, hgw, hcap, hcm⟩ := row_form hrow hL1
  have B2 := Lib.hid (below_on B1.out hb2)
  have K2 := Lib.hid (blk_b K1.out hb2)
  have HX2 := Lib.hid ((HX1.out.below hb2).more hb2.size)
  have HY2 := Lib.hid ((HY1.out.below hb2).more hb2.size)
  have HS2 := Lib.hid (HS1.out.on hb2)
  have HROW := Lib.hid hrow
  have HLOK := Lib.hid hLok
  have hg00 : w.heap.size ≤ g := Nat.le_trans B1.out.size hg0
  clear hrow hb2 hLok hL hLl B1 K1 HX1 HY1 HS1 hg0
  go_wp2_with fail
  go_loopw [6, 7, 22] (fun a c i wr => ∃ (q : Nat), q ≤ L.length ∧ i = .int .i64 q ∧ a = .string (bestW (costW n xs ys ss) (L.take q)).1 ∧ c = .int .i64 (bestW (costW n xs ys ss) (L.take q)).2 ∧ Hid (Below w2.heap.size w2 wr)) (fun _ _ i _ => L.length - (intOf i).toNat)
  case atStart => exact ⟨0, Nat.zero_le _, rfl, rfl, rfl, Lib.hid (Below.refl _ _)⟩
  case round =>
    obtain ⟨q, hq, rfl, rfl, rfl, hbr⟩ := hrel
    by_cases hlt : q < L.length
    · obtain ⟨s, hs⟩ : ∃ s, L[q] = s := ⟨_, rfl⟩
      have hsm : s ∈ L := by rw [← hs]; exact List.getElem_mem _
      obtain ⟨hs1, hs2⟩ := HLOK.out s hsm
      have hld : w2.cell? ⟨g, q, none⟩ = some (.string s) := by
        have h := HROW.out.cells (g := g) rfl q (.string s) (by rw [List.getElem?_map, List.getElem?_eq_getElem hlt, hs]; rfl)
        have e : ((⟨g, 0, none⟩ : Addr).add q) = ⟨g, q, none⟩ := by rw [Addr.add_lit, Nat.zero_add]
        rwa [e] at h
      have hldr : wr.cell? ⟨g, q, none⟩ = some (.string s) := (grown_of_below hbr.out).cell hld (by simp)
      have hgr : g < wr.heap.size := Nat.lt_of_lt_of_le hgw hbr.out.size
      have htk : L.take (q + 1) = L.take q ++ [s] := by rw [← hs]; exact List.take_succ_eq_append_getElem hlt
      have HTK := Lib.hid htk
      have HS2' := Lib.hid hs2
      obtain ⟨z, hz⟩ : ∃ z, costF n xs ys ss s.data.toList = z := ⟨_, rfl⟩
      have HZ := Lib.hid hz
      have KR := Lib.hid (blk_b K2.out hbr.out)
      obtain ⟨k0, k1, k2, k3⟩ := four_cells KR.out
      have kl := Blk.lt KR.out
      have hq1 : (q : Int) < (L.length : Int) := by omega
      obtain ⟨bs, bc, hbb⟩ : ∃ bs bc, bestW (costW n xs ys ss) (L.take q) = (bs, bc) := ⟨_, _, rfl⟩
      have hz' : costW n xs ys ss s = z := hz
      have hyes : z < 1000000 → bc < z → bestW (costW n xs ys ss) (L.take (q + 1)) = (s, z) := fun h h' => by
        rw [htk, ← hz']; exact bestW_yes (by rw [hz']; exact h) (by rw [hz', hbb]; exact h')
      have hno : ¬ (z < 1000000 ∧ bc < z) → bestW (costW n xs ys ss) (L.take (q + 1)) = (bs, bc) := fun h => by
        rw [htk, ← hbb]; exact bestW_no (by rw [hz', hbb]; exact h)
      have HYES := Lib.hid hyes
      have HNO := Lib.hid hno
      rw [hbb]
      clear hyes hno hbb hz'
      clear hld hs htk hsm hs2 hz
      go_wp2_with fail
      refine (l4Cost_any n _ _ _ _ _ _ xs ys ss s z _ n1 n2 ((HX2.out.below hbr.out).more hbr.out.size) ((HY2.out.below hbr.out).more hbr.out.size) (HS2.out.on hbr.out) HXI.out HYI.out HSI.out (by omega) HS2'.out HZ.out).mono ?_
      rintro e w3 ⟨rfl, hb3⟩
      have BR3 := Lib.hid (below_on hbr.out hb3.out)
      clear hb3 k0 k1 k2 k3
      by_cases hzl : z < 1000000
      · by_cases hgt : bc < z
        · have HT := Lib.hid (HYES.out hzl hgt)
          clear HYES HNO
          go_wp2_with fail
          go_roundw
          case rel => exact ⟨q + 1, by omega, by go_num, by rw [HT.out], by rw [HT.out], BR3⟩
          case measure => simp [intOf]; omega
        · have HT := Lib.hid (HNO.out (by omega))
          clear HYES HNO
          go_wp2_with fail
          go_roundw
          case rel => exact ⟨q + 1, by omega, by go_num, by rw [HT.out], by rw [HT.out], BR3⟩
          case measure => simp [intOf]; omega
      · have HT := Lib.hid (HNO.out (by omega))
        clear HYES HNO
        go_wp2_with fail
        go_roundw
        case rel => exact ⟨q + 1, by omega, by go_num, by rw [HT.out], by rw [HT.out], BR3⟩
        case measure => simp [intOf]; omega
    · have hqL : q = L.length := by omega
      subst hqL
      go_wp2_with fail
      go_ret2
      refine ⟨?_, below_on B2.out hbr.out⟩
      rw [HR.out, List.take_length]
      have e : decide (-1 < (bestW (costW n xs ys ss) L).2) = decide (0 ≤ (bestW (costW n xs ys ss) L).2) := decide_eq_decide.2 (by omega)
      rw [e]
      rfl
end Go.Proofs.YtfdbbopanankgaaDoor
namespace Go.Proofs.YtfdbbopanankgaaDoor
open Go.RowKit
set_option maxHeartbeats 4000000
set_option maxRecDepth 100000
set_option linter.unusedVariables false

end Go.Proofs.YtfdbbopanankgaaDoor
namespace Go.Proofs.YtfdbbopanankgaaDoor
open Go.RowKit
set_option maxHeartbeats 4000000
set_option maxRecDepth 100000
set_option linter.unusedVariables false

end Go.Proofs.YtfdbbopanankgaaDoor
