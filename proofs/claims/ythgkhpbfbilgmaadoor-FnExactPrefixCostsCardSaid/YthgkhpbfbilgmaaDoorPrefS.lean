/- PrefixCosts, the model's: the costs of all beginnings of a word. Condition: the text is no longer than a length. -/
import Derived.Test.YthgkhpbfbilgmaaDoorPref
namespace Go.Proofs.YthgkhpbfbilgmaaDoor
open Go.RowKit
set_option maxHeartbeats 4000000
set_option maxRecDepth 100000
set_option linter.unusedVariables false

theorem extract_list (l : ByteArray) (k : Nat) : (l.extract 0 k).data.toList = l.data.toList.take k := by
  rw [ByteArray.data_extract, Array.toList_extract]
  simp [List.extract]
theorem begs_snoc (n : Nat) (xs ys : List Int) (ss : List StepD) (l : List UInt8) (k : Nat) : begs n xs ys ss l (k + 1) = begs n xs ys ss l k ++ [costF n xs ys ss (l.take k)] := by
  unfold begs
  rw [List.range_succ, List.map_append]; rfl
theorem sPrefix_any (m : Int) (A1 A2 A3 : Option Addr) (c1 c2 c3 : Nat) (xs ys : List Int) (ss : List StepD) (l : ByteArray) (hll : l.size ≤ maxLen) (w : World) (hx : Ints w w.heap.size A1 xs) (hy : Ints w w.heap.size A2 ys) (hs : SRow w w.heap.size A3 ss) :
    Calls Tryd.prog 22 #[.agg #[.int .i64 m, .slice A1 xs.length c1, .slice A2 ys.length c2, .slice A3 ss.length c3], .string l] w fun e w' => LEnd (prefR m xs ys ss l) w e w' := by
  have hl9 : l.size ≤ 9223372036854775807 := by unfold maxLen at hll; omega
  have HX0 := Lib.hid (ints_al hx (.cells #[.int .i64 m, .slice A1 xs.length c1, .slice A2 ys.length c2, .slice A3 ss.length c3] 34))
  have HY0 := Lib.hid (ints_al hy (.cells #[.int .i64 m, .slice A1 xs.length c1, .slice A2 ys.length c2, .slice A3 ss.length c3] 34))
  have HS := Lib.hid (hs.al (.cells #[.int .i64 m, .slice A1 xs.length c1, .slice A2 ys.length c2, .slice A3 ss.length c3] 34))
  have K0 := Lib.hid (Blk.new w 34 #[.int .i64 m, .slice A1 xs.length c1, .slice A2 ys.length c2, .slice A3 ss.length c3])
  have B0 := Lib.hid (below_a1 w (.cells #[.int .i64 m, .slice A1 xs.length c1, .slice A2 ys.length c2, .slice A3 ss.length c3] 34))
  clear hx hy hs
  obtain ⟨b, hb⟩ : ∃ b, (autoOk m xs ys ss && wordOk l) = b := ⟨_, rfl⟩
  have HOK := Lib.hid hb
  obtain ⟨w1, hw1⟩ : ∃ w1, w1 = w.alloc (.cells #[.int .i64 m, .slice A1 xs.length c1, .slice A2 ys.length c2, .slice A3 ss.length c3] 34) := ⟨_, rfl⟩
  have hs1 : w1.heap.size = w.heap.size + 1 := by rw [hw1]; simp
  rw [← hw1] at HX0 HY0 HS K0 B0
  go_enter Tryd.func22, Tryd.ntmps22
  go_wp2_with fail
  rw [← hw1]
  obtain ⟨L, hL⟩ : ∃ L, L = w.heap.size + 1 := ⟨_, rfl⟩
  rw [← hL] at hs1 ⊢
  have L1 : Hid ((w1.alloc (.cells #[] 3)).ownsRow L 3 1 (.slice (some ⟨L, 0, none⟩) 0 0) 0 []) := by
    have h := World.ownsRow_lit (e := 3) (size := 1) w1 #[] 0 (Nat.le_refl _) (Nat.zero_le _) rfl
    rw [hs1] at h
    exact h
  have B1 := Lib.hid (below_a1 w1 (.cells #[] 3))
  have HL := Lib.hid hs1
  have kL : w.heap.size < L := by omega
  clear hw1 hs1 hL
  refine (l4Asked_is _ _ _ _ _ _ _ _ _ _ _ b _ hl9 (ints_al HX0.out _) (ints_al HY0.out _) (HS.out.al _) HOK.out).mono ?_
  rintro e w2 ⟨rfl, hb2⟩
  have L2 := Lib.hid (own_under L1.out hb2.out)
  have B2 := Lib.hid (below_on B1.out hb2.out)
  clear hb2 L1 B1
  cases b
  · have HR := Lib.hid (prefR_none hb)
    clear hb
    go_wp2_with fail
    go_ret2
    exact LEnd.bad HR.out (own_base L2.out (Nat.le_of_lt kL)) (below_on B0.out B2.out)
  · rw [Bool.and_eq_true] at hb
    obtain ⟨hok, hwk⟩ := hb
    obtain ⟨n, rfl, n1, n2, hxi, hyi, _, hsi⟩ := auto_in hok
    obtain ⟨hl1, hl2⟩ := wordOk_in hwk
    have HR := Lib.hid (prefR_some hok hwk)
    have HSI := Lib.hid hsi
    have HXI := Lib.hid hxi
    have HYI := Lib.hid hyi
    have HL2 := Lib.hid hl2
    obtain ⟨i0, hi, hz0, hz1, hz2⟩ := info_parts info_int
    have ZI := Lib.hid hi
    have Z0 := Lib.hid hz0
    have Z1 := Lib.hid hz1
    have Z2 := Lib.hid hz2
    clear hok hwk hsi hl2 hxi hyi hi hz0 hz1 hz2
    have K : Hid (∀ w', Below w1.heap.size w1 w' → (Hid (Below w1.heap.size w1 w') ∧ w'.cell? ⟨w.heap.size, 0, none⟩ = some (.int .i64 n) ∧ w'.cell? ⟨w.heap.size, 1, none⟩ = some (.slice A1 xs.length c1) ∧ w'.cell? ⟨w.heap.size, 2, none⟩ = some (.slice A2 ys.length c2) ∧ w'.cell? ⟨w.heap.size, 3, none⟩ = some (.slice A3 ss.length c3))) := fun w' h => by
      have a := K0.out.below h (Blk.lt K0.out)
      exact ⟨h, a.cell 0, a.cell 1, a.cell 2, a.cell 3⟩
    have hls : wrap64 ((l.size : Int) + 1) = ((l.size + 1 : Nat) : Int) := by rw [show ((l.size : Int) + 1) = ((l.size + 1 : Nat) : Int) by omega]; exact w64_nat (by omega)
    go_wp2_with fail
    go_loopw [6, 17] (fun v i wr => ∃ (k cap : Nat) (A : Option Addr), k ≤ l.size + 1 ∧ v = .slice A k cap ∧ i = .int .i64 k ∧ Hid (wr.ownsRow L 3 1 (.slice A k cap) k ((begs n xs ys ss l.data.toList k).map (Value.int .i64))) ∧ Hid (Below w1.heap.size w1 wr)) (fun _ i _ => l.size + 1 - (intOf i).toNat)
    case atStart => exact ⟨0, 0, _, Nat.zero_le _, rfl, rfl, L2, B2⟩
    case round =>
      obtain ⟨k, cap, A, hk, rfl, rfl, hown, hbw⟩ := hrel
      by_cases hlt : k < l.size + 1
      · have hk0 : (0 : Int) ≤ (k : Int) := by omega
        have hk1 : (k : Int) ≤ (l.size : Int) := by omega
        have hk2 : (k : Int) < ((l.size + 1 : Nat) : Int) := by omega
        obtain ⟨z, hz⟩ : ∃ z, costF n xs ys ss (l.extract 0 k).data.toList = z := ⟨_, rfl⟩
        have HZ := Lib.hid hz
        have HSN : Hid (begs n xs ys ss l.data.toList (k + 1) = begs n xs ys ss l.data.toList k ++ [z]) := by
          show _ = _
          rw [begs_snoc, ← hz, extract_list]
        have hle : (l.extract 0 k).size ≤ 1000 := by rw [ByteArray.size_extract]; omega
        have hae : (l.extract 0 k).data.toList.all isAB = true := by
          rw [extract_list]
          exact List.all_eq_true.2 (fun x hx => List.all_eq_true.1 HL2.out x (List.mem_of_mem_take hx))
        have HAE := Lib.hid hae
        have hS0 := K.out wr.drew hbw.out.drew
        clear hz hae
        go_upto_region 7 with fail
        refine wp_region_Z (S := fun w' => Hid (Below w1.heap.size w1 w') ∧ w'.cell? ⟨w.heap.size, 0, none⟩ = some (.int .i64 n) ∧ w'.cell? ⟨w.heap.size, 1, none⟩ = some (.slice A1 xs.length c1) ∧ w'.cell? ⟨w.heap.size, 2, none⟩ = some (.slice A2 ys.length c2) ∧ w'.cell? ⟨w.heap.size, 3, none⟩ = some (.slice A3 ss.length c3)) (by kernel_rfl) hS0 (fun hS => ?_)
        clear hS0
        refine wpAnyZ_take (i := 0) (v := ?vp0) rfl (by kernel_rfl) (by kernel_rfl) (by kernel_rfl) (by kernel_rfl) (fun _ _ _ h => h) (Or.inl ⟨by rfl, ?yp0⟩) (by with_reducible assumption) ?rp0
        case yp0 => (intro w hSw; (try dsimp only at hSw); go_simp; (try with_reducible rfl))
        simp only [Act.put, List.setIfInBounds_toArray]
        refine wpAnyZ_take (i := 1) (v := ?vp1) rfl (by kernel_rfl) (by kernel_rfl) (by kernel_rfl) (by kernel_rfl) (fun _ _ _ h => h) (Or.inl ⟨by rfl, ?yp1⟩) (by with_reducible assumption) ?rp1
        case yp1 => (intro w hSw; (try dsimp only at hSw); go_simp; (try with_reducible rfl))
        simp only [Act.put]
        refine wpAnyZ_take (i := 2) (v := ?vp2) rfl (by kernel_rfl) (by kernel_rfl) (by kernel_rfl) (by kernel_rfl) (fun _ _ _ h => h) (Or.inl ⟨by rfl, ?yp2⟩) (by with_reducible assumption) ?rp2
        case yp2 => (intro w hSw; (try dsimp only at hSw); go_simp; (try with_reducible rfl))
        simp only [Act.put]
        refine wpAnyZ_take (i := 3) (v := ?vp3) rfl (by kernel_rfl) (by kernel_rfl) (by kernel_rfl) (by kernel_rfl) (fun _ _ _ h => h) (Or.inl ⟨by rfl, ?yp3⟩) (by with_reducible assumption) ?rp3
        case yp3 => (intro w hSw; (try dsimp only at hSw); go_simp; (try with_reducible rfl))
        simp only [Act.put]
        refine wpAnyZ_take (i := 4) (v := ?vp4) rfl (by kernel_rfl) (by kernel_rfl) (by kernel_rfl) (by kernel_rfl) (fun _ _ _ h => h) (Or.inl ⟨by rfl, ?yp4⟩) (by with_reducible assumption) ?rp4
        case yp4 => (intro w hSw; (try dsimp only at hSw); go_simp; (try with_reducible rfl))
        simp only [Act.put]
        refine wpAnyZ_step (i := 5) (by kernel_rfl) rfl ?_
        intro K1 hK1
        go_simp
        refine (l4Cost_any n _ _ _ _ _ _ xs ys ss (l.extract 0 k) z _ n1 n2 ((HX0.out.below hS.1.out).more hS.1.out.size) ((HY0.out.below hS.1.out).more hS.1.out.size) (HS.out.on hS.1.out) HXI.out HYI.out HSI.out hle HAE.out HZ.out).mono ?_
        rintro e w4 ⟨rfl, hb4⟩
        have B4 := Lib.hid (below_on hS.1.out hb4.out)
        have O4 := Lib.hid (own_under (show wr.drew.ownsRow _ _ _ _ _ _ from hown.out) hb4.out)
        refine hK1.out _ _ (K.out _ B4.out) (fun hS1 => ?_)
        clear hK1 hb4 hS hown hbw
        (try simp only [Act.put])
        refine wpAnyZ_step (i := 6) (by kernel_rfl) rfl ?_
        intro K2 hK2
        go_simp
        have B5 := Lib.hid (below_al B4.out (Nat.le_refl _) (.cells #[.int .i64 z] 3))
        refine hK2.out _ _ (K.out _ B5.out) (fun hS2 => ?_)
        clear hK2 hS1
        (try simp only [Act.put])
        refine wpAnyZ_step (i := 7) (by kernel_rfl) rfl ?_
        intro K3 hK3
        have hszL : L ≤ w4.heap.size + 1 := by have := B4.out.size; have := HL.out; omega
        refine step_append_lies _ rfl _ _ 23 rfl L 3 i0 (.int .i64 0) 1 8 Tryd.underlying23 ZI.out Z0.out Z1.out Z2.out rfl (by decide) _ _ _ rfl (O4.out.alloc _) ⟨w4.heap.size, 0, none⟩ 1 1 [.int .i64 z] rfl rfl (news_one ((Blk.new _ _ _).cell 0)) (by simp [Value.oneCell']) (by omega) (by unfold maxLen; omega) (by omega) (by simp; omega) _ rfl ?_
        intro g' cap' w6 hown' hgrow hat hlt'
        have B6 : Hid (Below w1.heap.size w1 w6) := B5.out.grown hgrow B5.out.size (fun j hj => by have := (O4.out.lt j hj).1; have := HL.out; omega)
        have O6 : Hid (w6.ownsRow L 3 1 (.slice (some ⟨g', 0, none⟩) (k + 1) cap') (k + 1) ((begs n xs ys ss l.data.toList (k + 1)).map (Value.int .i64))) := by
          show World.ownsRow _ _ _ _ _ _ _
          rw [HSN.out, ← int_snoc]
          exact hown'
        refine hK3.out _ _ (K.out _ B6.out) (fun hS3 => ?_)
        clear hK3 hS2 hown' hgrow hat hlt' O4 B4 B5 hszL
        (try simp only [Act.put])
        refine wpAnyZ_last (i := 8) (by kernel_rfl) rfl (by kernel_rfl) ?_
        intro K4 hK4
        go_simp
        refine hK4.out _ _ ?_
        clear hK4
        go_wp2_with fail
        go_roundw
        case rel => exact ⟨k + 1, cap', _, by omega, rfl, by go_num, O6, B6⟩
        case measure => simp [intOf]; omega
      · obtain rfl : k = l.size + 1 := by omega
        go_wp2_with fail
        refine bodyPost_ret (results_2 rfl (Gives.tmp rfl) (Gives.tmp rfl)) rfl ?_
        refine LEnd.good HR.out ?_ (below_on' B0.out hbw.out) (by rw [begs_len]; omega)
        rw [begs_len]
        exact own_base hown.out (Nat.le_of_lt kL)
end Go.Proofs.YthgkhpbfbilgmaaDoor
