/- CostOf, the model's: the least cost from starts to finals in the product of the letters' matrices; nothing that was there changes. Condition: the text is no longer than a length. CostOf, the program's and the model's: the least cost of a word, or -1; nothing that was there changes. Condition: the text is no longer than a length. -/
import Derived.Test.YtfdbbopanankgaaDoorWordM
import Derived.Test.YtfdbbopanankgaaDoorAlong
import Derived.Deep.RegionHeld3
namespace Go.Proofs.YtfdbbopanankgaaDoor
open Go.RowKit
set_option maxHeartbeats 4000000
set_option maxRecDepth 100000
set_option linter.unusedVariables false

theorem l4Least_any (n p x3 c1 c2 c3 cap : Nat) (A1 A2 A3 A : Option Addr) (xs ys zs : List Int) (r : Int) (w : World) (n1 : 1 ≤ n) (n2 : n ≤ 4) (hp : p = n * n) (hl : zs.length = p) (hx : Ints w w.heap.size A1 xs) (hy : Ints w w.heap.size A2 ys) (hz : Ints w w.heap.size A zs) (hxi : ∀ x ∈ xs, 0 ≤ x ∧ x < (n : Int)) (hyi : ∀ y ∈ ys, 0 ≤ y ∧ y < (n : Int)) (hr : leastXF n zs ys 1000000 xs = r) :
    Calls Tryd.prog 36 #[.agg #[.int .i64 n, .slice A1 xs.length c1, .slice A2 ys.length c2, .slice A3 x3 c3], .agg #[.int .i64 n, .slice A p cap]] w fun e w' => e = .returned (.int .i64 r) ∧ Hid (Below w.heap.size w w') := by
  have p1 : p ≤ 16 := by
    rw [hp]
    calc n * n ≤ 4 * 4 := Nat.mul_le_mul n2 n2
      _ = 16 := rfl
  have lx := hx.len
  have ly := hy.len
  have HP := Lib.hid hp
  have HL := Lib.hid hl
  have HR := Lib.hid hr
  have HXI := Lib.hid hxi
  have HYI := Lib.hid hyi
  have HB := Lib.hid (below_a2 w (.cells #[.int .i64 n, .slice A1 xs.length c1, .slice A2 ys.length c2, .slice A3 x3 c3] 26) (.cells #[.int .i64 n, .slice A p cap] 80))
  have HX := Lib.hid (ints_al (ints_al hx (.cells #[.int .i64 n, .slice A1 xs.length c1, .slice A2 ys.length c2, .slice A3 x3 c3] 26)) (.cells #[.int .i64 n, .slice A p cap] 80))
  have HY := Lib.hid (ints_al (ints_al hy (.cells #[.int .i64 n, .slice A1 xs.length c1, .slice A2 ys.length c2, .slice A3 x3 c3] 26)) (.cells #[.int .i64 n, .slice A p cap] 80))
  have HZ := Lib.hid (ints_al (ints_al hz (.cells #[.int .i64 n, .slice A1 xs.length c1, .slice A2 ys.length c2, .slice A3 x3 c3] 26)) (.cells #[.int .i64 n, .slice A p cap] 80))
  have KA := Lib.hid ((Blk.new w 26 #[.int .i64 n, .slice A1 xs.length c1, .slice A2 ys.length c2, .slice A3 x3 c3]).alloc (.cells #[.int .i64 n, .slice A p cap] 80))
  have KM : Hid (Blk ((w.alloc (.cells #[.int .i64 n, .slice A1 xs.length c1, .slice A2 ys.length c2, .slice A3 x3 c3] 26)).alloc (.cells #[.int .i64 n, .slice A p cap] 80)) (w.heap.size + 1) 80 #[.int .i64 n, .slice A p cap]) := blk_new (by simp)
  clear hp hl hr hxi hyi hx hy hz
  go_enter Tryd.func36, Tryd.ntmps36
  go_wp2_with fail
  generalize (w.alloc (.cells #[.int .i64 n, .slice A1 xs.length c1, .slice A2 ys.length c2, .slice A3 x3 c3] 26)).alloc (.cells #[.int .i64 n, .slice A p cap] 80) = w2 at HB HX HY HZ KA KM ⊢
  obtain ⟨k0, k1, k2, k3⟩ := four_cells KA.out
  obtain ⟨m0, m1⟩ := two_cells KM.out
  go_loop [5, 13] (fun a i => ∃ (k : Nat) (acc : Int), k ≤ xs.length ∧ i = .int .i64 k ∧ a = .int .i64 acc ∧ Hid (leastXF n zs ys acc (xs.drop k) = r)) (fun _ i => xs.length - (intOf i).toNat)
  case atStart => exact ⟨0, 1000000, Nat.zero_le _, rfl, rfl, HR⟩
  case round =>
    obtain ⟨k, acc, hk, rfl, rfl, hm⟩ := hrel
    by_cases hlt : k < xs.length
    · obtain ⟨b, off, x, rfl, hbB, hc, hd, hg⟩ := HX.out.at_ hlt
      obtain ⟨x0, x4⟩ := HXI.out x (getD_mem hlt hg)
      obtain ⟨i, rfl⟩ : ∃ i : Nat, x = (i : Int) := ⟨x.toNat, by omega⟩
      have hi : i < n := by omega
      have HN : Hid (leastXF n zs ys (leastYF n zs i acc ys) (xs.drop (k + 1)) = r) := by
        show _ = _
        have h := hm.out
        rw [hd] at h
        exact h
      have hk1 : (k : Int) < (xs.length : Int) := by omega
      have hk0 : (0 : Int) ≤ (k : Int) := by omega
      obtain ⟨z, hz⟩ : ∃ z, z = i * n := ⟨_, rfl⟩
      have HZI := Lib.hid hz
      have hzp : z < p := by rw [hz, HP.out]; have := at_lt hi (show 0 < n by omega); omega
      have e1 : wrap64 ((i : Int) * (n : Int)) = (z : Int) := by rw [← Int.natCast_mul, ← hz]; exact w64_nat (by omega)
      clear hm hd hg x0 x4 hz
      go_wp2_with fail
      go_loop [5, 20] (fun a j => ∃ (q : Nat) (acc' : Int), q ≤ ys.length ∧ j = .int .i64 q ∧ a = .int .i64 acc' ∧ Hid (leastXF n zs ys (leastYF n zs i acc' (ys.drop q)) (xs.drop (k + 1)) = r)) (fun _ j => ys.length - (intOf j).toNat)
      case atStart => exact ⟨0, acc, Nat.zero_le _, rfl, rfl, HN⟩
      case round =>
        obtain ⟨q, acc', hq, rfl, rfl, hm⟩ := hrel
        by_cases hqt : q < ys.length
        · obtain ⟨b', off', y, rfl, hbB', hc', hd', hg'⟩ := HY.out.at_ hqt
          obtain ⟨y0, y4⟩ := HYI.out y (getD_mem hqt hg')
          obtain ⟨u, rfl⟩ : ∃ u : Nat, y = (u : Int) := ⟨y.toNat, by omega⟩
          have hu : u < n := by omega
          obtain ⟨v, hv⟩ : ∃ v, v = z + u := ⟨_, rfl⟩
          have hvp : v < p := by rw [hv, HZI.out, HP.out]; exact at_lt hi hu
          obtain ⟨b3, off3, y3, rfl, hb3, hc3, _, hg3⟩ := HZ.out.at_ (k := v) (by rw [HL.out]; exact hvp)
          have hq1 : (q : Int) < (ys.length : Int) := by omega
          have hq0 : (0 : Int) ≤ (q : Int) := by omega
          have e2 : (z : Int) + (u : Int) = (v : Int) := by omega
          have v0 : (0 : Int) ≤ (v : Int) := by omega
          have v1 : (v : Int) < (p : Int) := by omega
          have HN2 : Hid (leastXF n zs ys (leastYF n zs i (min acc' y3) (ys.drop (q + 1))) (xs.drop (k + 1)) = r) := by
            show _ = _
            have h := hm.out
            rw [hd'] at h
            have e : ((i : Int) * n + (u : Int)).toNat = v := by rw [← Int.natCast_mul, ← HZI.out]; omega
            unfold leastYF at h
            rw [e, hg3] at h
            exact h
          clear hm hd' hg' y0 y4 hv hg3
          go_wp2_with fail
          go_round
          case rel => exact ⟨q + 1, min acc' y3, by omega, by go_num, rfl, HN2⟩
          case measure => simp [intOf]; omega
        · have HN3 : Hid (leastXF n zs ys acc' (xs.drop (k + 1)) = r) := by
            show _ = _
            have h := hm.out
            rw [List.drop_of_length_le (by omega)] at h
            exact h
          go_wp2_with fail
          go_round
          case rel => exact ⟨k + 1, acc', by omega, by go_num, rfl, HN3⟩
          case measure => simp [intOf]; omega
    · have HN : Hid (acc = r) := by
        show _ = _
        have h := hm.out
        rw [List.drop_of_length_le (by omega)] at h
        exact h
      go_wp2_with fail
      go_ret
      exact ⟨ret_int HN.out, HB⟩
end Go.Proofs.YtfdbbopanankgaaDoor
namespace Go.Proofs.YtfdbbopanankgaaDoor
open Go.RowKit
set_option maxHeartbeats 4000000
set_option maxRecDepth 100000
set_option linter.unusedVariables false

def costR (m : Int) (xs ys : List Int) (ss : List StepD) (l : ByteArray) : Int := if autoOk m xs ys ss = true ∧ wordOk l = true then costF m.toNat xs ys ss l.data.toList else -1
theorem costR_some {n : Nat} {xs ys : List Int} {ss : List StepD} {l : ByteArray} (h : autoOk n xs ys ss = true) (hl : wordOk l = true) : costR n xs ys ss l = costF n xs ys ss l.data.toList := by
  unfold costR; rw [if_pos ⟨h, hl⟩]; rfl
theorem costR_none {m : Int} {xs ys : List Int} {ss : List StepD} {l : ByteArray} (h : (autoOk m xs ys ss && wordOk l) = false) : costR m xs ys ss l = -1 := by
  unfold costR; rw [if_neg (by rintro ⟨h1, h2⟩; rw [h1, h2] at h; cases h)]

theorem iCostOf_any (m : Int) (A1 A2 A3 : Option Addr) (c1 c2 c3 : Nat) (xs ys : List Int) (ss : List StepD) (l : ByteArray) (r : Int) (hll : l.size ≤ maxLen) (w : World) (hx : Ints w w.heap.size A1 xs) (hy : Ints w w.heap.size A2 ys) (hs : SRow w w.heap.size A3 ss) (hr : costR m xs ys ss l = r) :
    Calls Tryd.prog 11 #[.agg #[.int .i64 m, .slice A1 xs.length c1, .slice A2 ys.length c2, .slice A3 ss.length c3], .string l] w fun e w' => e = .returned (.int .i64 r) ∧ Hid (Below w.heap.size w w') := by
  have hl9 : l.size ≤ 9223372036854775807 := by unfold maxLen at hll; omega
  have HX0 := Lib.hid (ints_al hx (.cells #[.int .i64 m, .slice A1 xs.length c1, .slice A2 ys.length c2, .slice A3 ss.length c3] 26))
  have HY0 := Lib.hid (ints_al hy (.cells #[.int .i64 m, .slice A1 xs.length c1, .slice A2 ys.length c2, .slice A3 ss.length c3] 26))
  have HS := Lib.hid (hs.al (.cells #[.int .i64 m, .slice A1 xs.length c1, .slice A2 ys.length c2, .slice A3 ss.length c3] 26))
  clear hx hy hs
  obtain ⟨b, hb⟩ : ∃ b, (autoOk m xs ys ss && wordOk l) = b := ⟨_, rfl⟩
  cases b
  · have HOK := Lib.hid hb
    obtain rfl : r = -1 := by rw [← hr, costR_none hb]
    clear hb hr
    go_enter Tryd.func11, Tryd.ntmps11
    go_wp2_with fail
    refine (readerOf_no _ _ _ _ _ _ _ _ _ _ _ _ hl9 HX0.out HY0.out HS.out HOK.out).mono ?_
    rintro e w1 ⟨rfl, hb1⟩
    have B1 := Lib.hid (below_on (below_a1 w _) hb1.out)
    clear hb1 HX0 HY0 HS
    go_wp2_with fail
    go_ret
    exact ⟨rfl, below_al B1.out (Nat.le_refl _) _⟩
  · rw [Bool.and_eq_true] at hb
    obtain ⟨hok, hwk⟩ := hb
    obtain ⟨n, rfl, n1, n2, hxi, _, _, hsi⟩ := auto_in hok
    obtain ⟨hl1, hl2⟩ := wordOk_in hwk
    have HR : Hid (costF n xs ys ss l.data.toList = r) := by rw [← hr, costR_some hok hwk]; exact rfl
    have HOK := Lib.hid hok
    have HWK := Lib.hid hwk
    have HSI := Lib.hid hsi
    have HXI := Lib.hid hxi
    have HL2 := Lib.hid hl2
    clear hok hwk hsi hl2 hxi hr
    go_enter Tryd.func11, Tryd.ntmps11
    go_wp2_with fail
    refine (readerOf_ok _ _ _ _ _ _ _ _ _ _ _ _ hl9 HX0.out HY0.out HS.out HOK.out HWK.out).mono ?_
    rintro e w1 ⟨M, rfl, hM, hmap, hb1⟩
    have B1 := Lib.hid (below_on (below_a1 w _) hb1.out)
    have B2 := Lib.hid (below_al B1.out (Nat.le_refl _) (.cells #[.int .i64 n, .bool (hasB xs 0), .bool (hasB xs 1), .bool (hasB xs 2), .bool (hasB xs 3), .bool (hasB ys 0), .bool (hasB ys 1), .bool (hasB ys 2), .bool (hasB ys 3), .map (some M)] 45))
    have M2 := Lib.hid (hmap.out.kept (World.grownBy_alloc w1 (.cells #[.int .i64 n, .bool (hasB xs 0), .bool (hasB xs 1), .bool (hasB xs 2), .bool (hasB xs 3), .bool (hasB ys 0), .bool (hasB ys 1), .bool (hasB ys 2), .bool (hasB ys 3), .map (some M)] 45) none) (by simp))
    clear hb1 HX0 HY0 HS hmap hM
    go_wp2_with fail
    refine (costOf_any n M _ _ _ _ _ _ _ _ _ xs ys ss l _ n2 HXI.out HSI.out hl1 HL2.out rfl rfl M2.out).mono ?_
    rintro e w3 ⟨rfl, hb3⟩
    have B3 := Lib.hid (below_on B2.out hb3)
    rw [HR.out]
    clear hb3 B1 B2 M2
    go_wp2_with fail
    go_ret
    exact ⟨rfl, B3.out⟩

theorem l4Cost_any (n : Nat) (A1 A2 A3 : Option Addr) (c1 c2 c3 : Nat) (xs ys : List Int) (ss : List StepD) (l : ByteArray) (r : Int) (w : World) (n1 : 1 ≤ n) (n2 : n ≤ 4) (hx : Ints w w.heap.size A1 xs) (hy : Ints w w.heap.size A2 ys) (hs : SRow w w.heap.size A3 ss) (hxi : ∀ x ∈ xs, 0 ≤ x ∧ x < (n : Int)) (hyi : ∀ y ∈ ys, 0 ≤ y ∧ y < (n : Int)) (hok : ∀ s ∈ ss, stepOk n s = true) (hl1 : l.size ≤ 1000) (hl2 : l.data.toList.all isAB = true) (hr : costF n xs ys ss l.data.toList = r) :
    Calls Tryd.prog 21 #[.agg #[.int .i64 n, .slice A1 xs.length c1, .slice A2 ys.length c2, .slice A3 ss.length c3], .string l] w fun e w' => e = .returned (.int .i64 r) ∧ Hid (Below w.heap.size w w') := by
  obtain ⟨p, hp⟩ : ∃ p, p = n * n := ⟨_, rfl⟩
  have HP := Lib.hid hp
  have HXI := Lib.hid hxi
  have HYI := Lib.hid hyi
  have HOK := Lib.hid hok
  have HL2 := Lib.hid hl2
  have hlp : (prodL n ss l.data.toList).length = p := by rw [(prodL_ok n1 n2 hok l.data.toList).len, hp]
  have HLP := Lib.hid hlp
  have HR : Hid (leastXF n (prodL n ss l.data.toList) ys 1000000 xs = r) := by
    show _ = _
    rw [cost_eq n2 hxi hyi hok, hr]
  have HX0 := Lib.hid (ints_al hx (.cells #[.int .i64 n, .slice A1 xs.length c1, .slice A2 ys.length c2, .slice A3 ss.length c3] 26))
  have HY0 := Lib.hid (ints_al hy (.cells #[.int .i64 n, .slice A1 xs.length c1, .slice A2 ys.length c2, .slice A3 ss.length c3] 26))
  have HS0 := Lib.hid (hs.al (.cells #[.int .i64 n, .slice A1 xs.length c1, .slice A2 ys.length c2, .slice A3 ss.length c3] 26))
  have K0 := Lib.hid (Blk.new w 26 #[.int .i64 n, .slice A1 xs.length c1, .slice A2 ys.length c2, .slice A3 ss.length c3])
  have B0 := Lib.hid (below_a1 w (.cells #[.int .i64 n, .slice A1 xs.length c1, .slice A2 ys.length c2, .slice A3 ss.length c3] 26))
  clear hx hy hs hxi hyi hok hl2 hr hp hlp
  go_enter Tryd.func21, Tryd.ntmps21
  go_wp2_with fail
  generalize w.alloc (.cells #[.int .i64 n, .slice A1 xs.length c1, .slice A2 ys.length c2, .slice A3 ss.length c3] 26) = w1 at HX0 HY0 HS0 K0 B0 ⊢
  have KS : Hid (∀ w', Below w1.heap.size w1 w' → (Hid (Below w1.heap.size w1 w') ∧ w'.cell? ⟨w.heap.size, 0, none⟩ = some (.int .i64 n) ∧ w'.cell? ⟨w.heap.size, 1, none⟩ = some (.slice A1 xs.length c1) ∧ w'.cell? ⟨w.heap.size, 2, none⟩ = some (.slice A2 ys.length c2) ∧ w'.cell? ⟨w.heap.size, 3, none⟩ = some (.slice A3 ss.length c3))) := fun w' h => by
    have a := blk_b K0.out h
    exact ⟨h, a.cell 0, a.cell 1, a.cell 2, a.cell 3⟩
  have hS0 := KS.out w1.drew ((Below.refl _ _).drew)
  go_region_held3 (fun w' => Hid (Below w1.heap.size w1 w') ∧ w'.cell? ⟨w.heap.size, 0, none⟩ = some (.int .i64 n) ∧ w'.cell? ⟨w.heap.size, 1, none⟩ = some (.slice A1 xs.length c1) ∧ w'.cell? ⟨w.heap.size, 2, none⟩ = some (.slice A2 ys.length c2) ∧ w'.cell? ⟨w.heap.size, 3, none⟩ = some (.slice A3 ss.length c3)) (first | with_reducible assumption | skip)
    (first
      | (go_at_call 37; refine (l4Matrix_any n _ _ _ _ _ _ _ _ ss l _ n1 n2 (HS0.out.on hS0.1.out) HOK.out hl1 HL2.out).mono ?_; rintro e w3 ⟨_, rfl, ⟨x, rfl, hox, hlx⟩, hb3⟩; obtain ⟨A, cap, rfl, _, hi3⟩ := own_ints hox (by unfold maxLen; omega); rw [HLP.out]; have hS1 := KS.out _ (below_on hS0.1.out hb3))
      | (go_at_call 36; refine (l4Least_any n p _ _ _ _ _ _ _ _ _ xs ys (prodL n ss l.data.toList) r _ n1 n2 HP.out HLP.out ((HX0.out.below hS1.1.out).more hS1.1.out.size) ((HY0.out.below hS1.1.out).more hS1.1.out.size) hi3 HXI.out HYI.out HR.out).mono ?_; rintro e w4 ⟨rfl, hb4⟩; have hS2 := KS.out _ (below_on hS1.1.out hb4.out)))
  go_wp2_with fail
  go_ret
  exact ⟨rfl, below_on B0.out hS2.1.out⟩

end Go.Proofs.YtfdbbopanankgaaDoor
