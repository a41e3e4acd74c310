/- CostOfRun, the program's and the model's: the cost of a list of states as a run, or -1; nothing that was there changes. Conditions: the text is no longer than a length, the list's numbers are numbers of the kind. -/
import Derived.Test.YthgkhpbfbilgmaaDoorRunI
namespace Go.Proofs.YthgkhpbfbilgmaaDoor
open Go.RowKit
set_option maxHeartbeats 4000000
set_option maxRecDepth 100000
set_option linter.unusedVariables false

def runR (m : Int) (xs ys : List Int) (ss : List StepD) (l : ByteArray) (zs : List Int) : Int := if autoOk m xs ys ss = true ∧ wordOk l = true then (runO (costAt ss) xs ys l zs).getD (-1) else -1
theorem runR_some {n : Nat} {xs ys : List Int} {ss : List StepD} {l : ByteArray} {zs : List Int} (h : autoOk n xs ys ss = true) (hl : wordOk l = true) : runR n xs ys ss l zs = (runO (costAt ss) xs ys l zs).getD (-1) := by
  unfold runR; rw [if_pos ⟨h, hl⟩]
theorem runR_none {m : Int} {xs ys : List Int} {ss : List StepD} {l : ByteArray} {zs : List Int} (h : (autoOk m xs ys ss && wordOk l) = false) : runR m xs ys ss l zs = -1 := by
  unfold runR; rw [if_neg (by rintro ⟨h1, h2⟩; rw [h1, h2] at h; cases h)]

theorem iCostOfRun_any (m : Int) (A1 A2 A3 Az : Option Addr) (c1 c2 c3 cz : Nat) (xs ys zs : List Int) (ss : List StepD) (l : ByteArray) (r : Int) (hll : l.size ≤ maxLen) (w : World) (hx : Ints w w.heap.size A1 xs) (hy : Ints w w.heap.size A2 ys) (hs : SRow w w.heap.size A3 ss) (hz : Ints w w.heap.size Az zs) (hwf : ∀ z ∈ zs, (Lit.int .i64 z).wf = true) (hr : runR m xs ys ss l zs = r) :
    Calls Tryd.prog 29 #[.agg #[.int .i64 m, .slice A1 xs.length c1, .slice A2 ys.length c2, .slice A3 ss.length c3], .string l, .slice Az zs.length cz] w fun e w' => e = .returned (.int .i64 r) ∧ Hid (Below w.heap.size w w') := by
  have hl9 : l.size ≤ 9223372036854775807 := by unfold maxLen at hll; omega
  have HX0 := Lib.hid (ints_al hx (.cells #[.int .i64 m, .slice A1 xs.length c1, .slice A2 ys.length c2, .slice A3 ss.length c3] 34))
  have HY0 := Lib.hid (ints_al hy (.cells #[.int .i64 m, .slice A1 xs.length c1, .slice A2 ys.length c2, .slice A3 ss.length c3] 34))
  have HS := Lib.hid (hs.al (.cells #[.int .i64 m, .slice A1 xs.length c1, .slice A2 ys.length c2, .slice A3 ss.length c3] 34))
  have HZ0 := Lib.hid (ints_al hz (.cells #[.int .i64 m, .slice A1 xs.length c1, .slice A2 ys.length c2, .slice A3 ss.length c3] 34))
  have HWF := Lib.hid hwf
  clear hx hy hs hz hwf
  obtain ⟨b, hb⟩ : ∃ b, (autoOk m xs ys ss && wordOk l) = b := ⟨_, rfl⟩
  cases b
  · have HOK := Lib.hid hb
    obtain rfl : r = -1 := by rw [← hr, runR_none hb]
    clear hb hr
    go_enter Tryd.func29, Tryd.ntmps29
    go_wp2_with fail
    refine (readerOf_no _ _ _ _ _ _ _ _ _ _ _ _ hl9 HX0.out HY0.out HS.out HOK.out).mono ?_
    rintro e w1 ⟨rfl, hb1⟩
    have B1 := Lib.hid (below_on (below_a1 w _) hb1.out)
    clear hb1 HX0 HY0 HS
    go_wp2_with fail
    go_ret
    exact ⟨rfl, below_al B1.out (Nat.le_refl _) _⟩
  · rw [Bool.and_eq_true] at hb
    obtain ⟨hok, hwk⟩ := hb
    obtain ⟨n, rfl, n1, n2, hxi, hyi, _, hsi⟩ := auto_in hok
    obtain ⟨hl1, hl2⟩ := wordOk_in hwk
    obtain ⟨o, ho⟩ : ∃ o, runO (costAt ss) xs ys l zs = o := ⟨_, rfl⟩
    have HO := Lib.hid ho
    have HR : Hid (o.getD (-1) = r) := by rw [← hr, runR_some hok hwk, ho]; exact rfl
    have HOK := Lib.hid hok
    have HWK := Lib.hid hwk
    have HSI := Lib.hid hsi
    have HXI := Lib.hid hxi
    have HYI := Lib.hid hyi
    have HL2 := Lib.hid hl2
    clear hok hwk hsi hl2 hxi hyi hr ho
    go_enter Tryd.func29, Tryd.ntmps29
    go_wp2_with fail
    refine (readerOf_ok _ _ _ _ _ _ _ _ _ _ _ _ hl9 HX0.out HY0.out HS.out HOK.out HWK.out).mono ?_
    rintro e w1 ⟨M, rfl, hM, hmap, hb1⟩
    have B1 := Lib.hid (below_on (below_a1 w _) hb1.out)
    have B2 := Lib.hid (below_al B1.out (Nat.le_refl _) (.cells #[.int .i64 n, .bool (hasB xs 0), .bool (hasB xs 1), .bool (hasB xs 2), .bool (hasB xs 3), .bool (hasB ys 0), .bool (hasB ys 1), .bool (hasB ys 2), .bool (hasB ys 3), .map (some M)] 58))
    have M2 := Lib.hid (hmap.out.kept (World.grownBy_alloc w1 (.cells #[.int .i64 n, .bool (hasB xs 0), .bool (hasB xs 1), .bool (hasB xs 2), .bool (hasB xs 3), .bool (hasB ys 0), .bool (hasB ys 1), .bool (hasB ys 2), .bool (hasB ys 3), .map (some M)] 58) none) (by simp))
    have Z2 := Lib.hid (ints_al ((HZ0.out.below hb1.out).more hb1.out.size) (.cells #[.int .i64 n, .bool (hasB xs 0), .bool (hasB xs 1), .bool (hasB xs 2), .bool (hasB xs 3), .bool (hasB ys 0), .bool (hasB ys 1), .bool (hasB ys 2), .bool (hasB ys 3), .map (some M)] 58))
    clear hb1 HX0 HY0 HS hmap hM HZ0
    go_wp2_with fail
    refine (costOfRun_any n M _ xs ys ss l zs Az cz o _ n2 HXI.out HYI.out HSI.out hl1 HL2.out Z2.out HWF.out M2.out HO.out).mono ?_
    rintro e w3 ⟨rfl, hb3⟩
    have B3 := Lib.hid (below_on B2.out hb3)
    clear hb3 B1 B2 M2 Z2
    cases o
    · obtain rfl : -1 = r := HR.out
      go_wp2_with fail
      go_ret
      exact ⟨rfl, B3.out⟩
    · rename_i a
      obtain rfl : a = r := HR.out
      go_wp2_with fail
      go_ret
      exact ⟨rfl, B3.out⟩

theorem hasB_cons (x : Int) (zs : List Int) (q : Int) : hasB (x :: zs) q = (decide (q = x) || hasB zs q) := by
  unfold hasB; rw [List.contains_cons]; rfl
theorem l4In_any (A : Option Addr) (cap B : Nat) (zs : List Int) (q : Int) (b : Bool) (w : World) (hz : Ints w B A zs) (hb : hasB zs q = b) :
    Calls Tryd.prog 47 #[.slice A zs.length cap, .int .i64 q] w fun e w' => e = .returned (.bool b) ∧ w = w' := by
  have hl := hz.len
  have HZ := Lib.hid hz
  have HB := Lib.hid hb
  clear hz hb
  go_enter Tryd.func47, Tryd.ntmps47
  go_wp2_with fail
  go_loop [9] (fun i => ∃ k : Nat, k ≤ zs.length ∧ i = .int .i64 k ∧ Hid (hasB (zs.drop k) q = b)) (fun i => zs.length - (intOf i).toNat)
  case atStart => exact ⟨0, Nat.zero_le _, rfl, HB⟩
  case round =>
    obtain ⟨k, hk, rfl, hm⟩ := hrel
    by_cases hlt : k < zs.length
    · obtain ⟨b', off, x, rfl, hbB, hc, hd, hg⟩ := HZ.out.at_ hlt
      have hm' := hm.out
      rw [hd, hasB_cons] at hm'
      have hk1 : (k : Int) < (zs.length : Int) := by omega
      have hk0 : (0 : Int) ≤ (k : Int) := by omega
      by_cases e : q = x
      · subst e
        have eb : b = true := by rw [← hm']; simp
        subst eb
        clear hm hm' hd hg
        go_wp2_with fail
        go_ret
        exact ⟨rfl, rfl⟩
      · have HN : Hid (hasB (zs.drop (k + 1)) q = b) := by
          show _ = _
          rw [← hm']; simp [e]
        have hne : ¬ x = q := fun h => e h.symm
        clear hm hm' hd hg e
        go_wp2_with fail
        go_round
        case rel => exact ⟨k + 1, by omega, by go_num, HN⟩
        case measure => simp [intOf]; omega
    · have eb : b = false := by
        have h := hm.out
        rw [List.drop_of_length_le (by omega)] at h
        rw [← h]; rfl
      subst eb
      clear hm
      go_wp2_with fail
      go_ret
      exact ⟨rfl, rfl⟩

theorem ext_one {l : ByteArray} {k : Nat} (hk : k < l.size) : l.extract k (k + 1) = ltr (l[k]'hk) := by
  apply Go.WideShapes.bytes_inj
  rw [ByteArray.data_extract, Array.toList_extract]
  show (l.data.toList.extract k (k + 1)) = [l[k]]
  have h : k < l.data.toList.length := by rw [← Lib.size_eq]; exact hk
  rw [List.extract_eq_take_drop, List.drop_eq_getElem_cons h, show k + 1 - k = 1 by omega]
  rfl
theorem sCostOfRun_any (m : Int) (A1 A2 A3 Az : Option Addr) (c1 c2 c3 cz : Nat) (xs ys zs : List Int) (ss : List StepD) (l : ByteArray) (r : Int) (hll : l.size ≤ maxLen) (w : World) (hx : Ints w w.heap.size A1 xs) (hy : Ints w w.heap.size A2 ys) (hs : SRow w w.heap.size A3 ss) (hz : Ints w w.heap.size Az zs) (hr : runR m xs ys ss l zs = r) :
    Calls Tryd.prog 27 #[.agg #[.int .i64 m, .slice A1 xs.length c1, .slice A2 ys.length c2, .slice A3 ss.length c3], .string l, .slice Az zs.length cz] w fun e w' => e = .returned (.int .i64 r) ∧ Hid (Below w.heap.size w w') := by
  have hl9 : l.size ≤ 9223372036854775807 := by unfold maxLen at hll; omega
  have hzl := hz.len
  have hsl := hs.1
  have HX := Lib.hid (ints_al hx (.cells #[.int .i64 m, .slice A1 xs.length c1, .slice A2 ys.length c2, .slice A3 ss.length c3] 34))
  have HY := Lib.hid (ints_al hy (.cells #[.int .i64 m, .slice A1 xs.length c1, .slice A2 ys.length c2, .slice A3 ss.length c3] 34))
  have HS := Lib.hid (hs.al (.cells #[.int .i64 m, .slice A1 xs.length c1, .slice A2 ys.length c2, .slice A3 ss.length c3] 34))
  have HZ := Lib.hid (ints_al hz (.cells #[.int .i64 m, .slice A1 xs.length c1, .slice A2 ys.length c2, .slice A3 ss.length c3] 34))
  have B0 := Lib.hid (below_a1 w (.cells #[.int .i64 m, .slice A1 xs.length c1, .slice A2 ys.length c2, .slice A3 ss.length c3] 34))
  have K0 := Lib.hid (Blk.new w 34 #[.int .i64 m, .slice A1 xs.length c1, .slice A2 ys.length c2, .slice A3 ss.length c3])
  clear hx hy hs hz
  go_enter Tryd.func27, Tryd.ntmps27
  go_wp2_with fail
  generalize w.alloc (.cells #[.int .i64 m, .slice A1 xs.length c1, .slice A2 ys.length c2, .slice A3 ss.length c3] 34) = w1 at HX HY HS HZ B0 K0 ⊢
  have KM : Hid (∀ w', Below w1.heap.size w1 w' → (Hid (Below w1.heap.size w1 w') ∧ w'.cell? ⟨w.heap.size, 0, none⟩ = some (.int .i64 m) ∧ w'.cell? ⟨w.heap.size, 1, none⟩ = some (.slice A1 xs.length c1) ∧ w'.cell? ⟨w.heap.size, 2, none⟩ = some (.slice A2 ys.length c2) ∧ w'.cell? ⟨w.heap.size, 3, none⟩ = some (.slice A3 ss.length c3))) := fun w' h => by
    have a := blk_b K0.out h
    exact ⟨h, a.cell 0, a.cell 1, a.cell 2, a.cell 3⟩
  have hS0 := KM.out w1.drew ((Below.refl _ _).drew)
  obtain ⟨b, hb⟩ : ∃ b, (autoOk m xs ys ss && wordOk l) = b := ⟨_, rfl⟩
  have HBB := Lib.hid hb
  cases b
  · obtain rfl : r = -1 := by rw [← hr, runR_none hb]
    clear hb hr
    refine wp_region_Z (S := fun w' => Hid (Below w1.heap.size w1 w') ∧ w'.cell? ⟨w.heap.size, 0, none⟩ = some (.int .i64 m) ∧ w'.cell? ⟨w.heap.size, 1, none⟩ = some (.slice A1 xs.length c1) ∧ w'.cell? ⟨w.heap.size, 2, none⟩ = some (.slice A2 ys.length c2) ∧ w'.cell? ⟨w.heap.size, 3, none⟩ = some (.slice A3 ss.length c3)) (by kernel_rfl) hS0 (fun hS => ?_)
    clear hS0
    refine wpAnyZ_take (i := 0) (v := ?vaa0) rfl (by kernel_rfl) (by kernel_rfl) (by kernel_rfl) (by kernel_rfl) (fun _ _ _ h => h) (Or.inl ⟨by rfl, ?yaa0⟩) (by with_reducible assumption) ?raa0
    case yaa0 => (intro w hSw; (try dsimp only at hSw); go_simp; (try with_reducible rfl))
    simp only [Act.put, List.setIfInBounds_toArray]
    refine wpAnyZ_take (i := 1) (v := ?vaa1) rfl (by kernel_rfl) (by kernel_rfl) (by kernel_rfl) (by kernel_rfl) (fun _ _ _ h => h) (Or.inl ⟨by rfl, ?yaa1⟩) (by with_reducible assumption) ?raa1
    case yaa1 => (intro w hSw; (try dsimp only at hSw); go_simp; (try with_reducible rfl))
    simp only [Act.put]
    refine wpAnyZ_step (i := 2) (by kernel_rfl) rfl ?_
    intro K2 hK2
    go_simp
    refine (l4Asked_is _ _ _ _ _ _ _ _ _ _ _ false _ hl9 ((HX.out.below hS.1.out).more hS.1.out.size) ((HY.out.below hS.1.out).more hS.1.out.size) (HS.out.on hS.1.out) HBB.out).mono ?_
    rintro e w3 ⟨rfl, hb3⟩
    have B3 := Lib.hid (below_on hS.1.out hb3.out)
    refine hK2.out _ _ (KM.out _ B3.out) (fun hS3 => ?_)
    clear hK2 hb3 hS B3
    have hS := hS3
    clear hS3
    (try simp only [Act.put])
    refine wpAnyZ_take (i := 3) (v := ?vab3) rfl (by kernel_rfl) (by kernel_rfl) (by kernel_rfl) (by kernel_rfl) (fun _ _ _ h => h) (Or.inl ⟨by kernel_rfl, ?yab3⟩) (by with_reducible assumption) ?rab3
    case yab3 => (intro w hSw; (try dsimp only at hSw); go_simp; (try with_reducible rfl))
    simp only [Act.put]
    refine wpAnyZ_take (i := 4) (v := ?vab4) rfl (by kernel_rfl) (by kernel_rfl) (by kernel_rfl) (by kernel_rfl) (fun _ _ _ h => h) (Or.inl ⟨by kernel_rfl, ?yab4⟩) (by with_reducible assumption) ?rab4
    case yab4 => (intro w hSw; (try dsimp only at hSw); go_simp; (try with_reducible rfl))
    simp only [Act.put]
    refine wpAnyZ_take (i := 5) (v := undef) rfl (by kernel_rfl) (by kernel_rfl) (by kernel_rfl) (by kernel_rfl) (fun _ _ _ h => h) (Or.inr ⟨by kernel_rfl, rfl⟩) (by with_reducible assumption) ?rac5
    simp only [Act.put]
    refine wpAnyZ_take (i := 6) (v := undef) rfl (by kernel_rfl) (by kernel_rfl) (by kernel_rfl) (by kernel_rfl) (fun _ _ _ h => h) (Or.inr ⟨by kernel_rfl, rfl⟩) (by with_reducible assumption) ?rac6
    simp only [Act.put]
    refine wpAnyZ_take (i := 7) (v := undef) rfl (by kernel_rfl) (by kernel_rfl) (by kernel_rfl) (by kernel_rfl) (fun _ _ _ h => h) (Or.inr ⟨by kernel_rfl, rfl⟩) (by with_reducible assumption) ?rac7
    simp only [Act.put]
    refine wpAnyZ_take (i := 8) (v := undef) rfl (by kernel_rfl) (by kernel_rfl) (by kernel_rfl) (by kernel_rfl) (fun _ _ _ h => h) (Or.inr ⟨by kernel_rfl, rfl⟩) (by with_reducible assumption) ?rac8
    simp only [Act.put]
    refine wpAnyZ_take (i := 9) (v := undef) rfl (by kernel_rfl) (by kernel_rfl) (by kernel_rfl) (by kernel_rfl) (fun _ _ _ h => h) (Or.inr ⟨by kernel_rfl, rfl⟩) (by with_reducible assumption) ?rac9
    simp only [Act.put]
    refine wpAnyZ_take (i := 10) (v := undef) rfl (by kernel_rfl) (by kernel_rfl) (by kernel_rfl) (by kernel_rfl) (fun _ _ _ h => h) (Or.inr ⟨by kernel_rfl, rfl⟩) (by with_reducible assumption) ?rac10
    simp only [Act.put]
    refine wpAnyZ_take (i := 11) (v := ?vad11) rfl (by kernel_rfl) (by kernel_rfl) (by kernel_rfl) (by kernel_rfl) (fun _ _ _ h => h) (Or.inl ⟨by kernel_rfl, ?yad11⟩) (by with_reducible assumption) ?rad11
    case yad11 => (intro w hSw; (try dsimp only at hSw); go_simp; (try with_reducible rfl))
    simp only [Act.put]
    refine wpAnyZ_take (i := 12) (v := ?vad12) rfl (by kernel_rfl) (by kernel_rfl) (by kernel_rfl) (by kernel_rfl) (fun _ _ _ h => h) (Or.inl ⟨by kernel_rfl, ?yad12⟩) (by with_reducible assumption) ?rad12
    case yad12 => (intro w hSw; (try dsimp only at hSw); go_simp; (try with_reducible rfl))
    simp only [Act.put]
    refine wpAnyZ_take (i := 13) (v := undef) rfl (by kernel_rfl) (by kernel_rfl) (by kernel_rfl) (by kernel_rfl) (fun _ _ _ h => h) (Or.inr ⟨by kernel_rfl, rfl⟩) (by with_reducible assumption) ?rae13
    simp only [Act.put]
    refine wpAnyZ_take (i := 14) (v := undef) rfl (by kernel_rfl) (by kernel_rfl) (by kernel_rfl) (by kernel_rfl) (fun _ _ _ h => h) (Or.inr ⟨by kernel_rfl, rfl⟩) (by with_reducible assumption) ?rae14
    simp only [Act.put]
    refine wpAnyZ_take (i := 15) (v := undef) rfl (by kernel_rfl) (by kernel_rfl) (by kernel_rfl) (by kernel_rfl) (fun _ _ _ h => h) (Or.inr ⟨by kernel_rfl, rfl⟩) (by with_reducible assumption) ?rae15
    simp only [Act.put]
    refine wpAnyZ_take (i := 16) (v := undef) rfl (by kernel_rfl) (by kernel_rfl) (by kernel_rfl) (by kernel_rfl) (fun _ _ _ h => h) (Or.inr ⟨by kernel_rfl, rfl⟩) (by with_reducible assumption) ?rae16
    simp only [Act.put]
    refine wpAnyZ_take (i := 17) (v := undef) rfl (by kernel_rfl) (by kernel_rfl) (by kernel_rfl) (by kernel_rfl) (fun _ _ _ h => h) (Or.inr ⟨by kernel_rfl, rfl⟩) (by with_reducible assumption) ?rae17
    simp only [Act.put]
    refine wpAnyZ_take (i := 18) (v := undef) rfl (by kernel_rfl) (by kernel_rfl) (by kernel_rfl) (by kernel_rfl) (fun _ _ _ h => h) (Or.inr ⟨by kernel_rfl, rfl⟩) (by with_reducible assumption) ?rae18
    simp only [Act.put]
    refine wpAnyZ_take (i := 19) (v := undef) rfl (by kernel_rfl) (by kernel_rfl) (by kernel_rfl) (by kernel_rfl) (fun _ _ _ h => h) (Or.inr ⟨by kernel_rfl, rfl⟩) (by with_reducible assumption) ?rae19
    simp only [Act.put]
    refine wpAnyZ_take (i := 20) (v := ?vaf20) rfl (by kernel_rfl) (by kernel_rfl) (by kernel_rfl) (by kernel_rfl) (fun _ _ _ h => h) (Or.inl ⟨by kernel_rfl, ?yaf20⟩) (by with_reducible assumption) ?raf20
    case yaf20 => (intro w hSw; (try dsimp only at hSw); go_simp; (try with_reducible rfl))
    simp only [Act.put]
    refine wpAnyZ_take (i := 21) (v := ?vaf21) rfl (by kernel_rfl) (by kernel_rfl) (by kernel_rfl) (by kernel_rfl) (fun _ _ _ h => h) (Or.inl ⟨by kernel_rfl, ?yaf21⟩) (by with_reducible assumption) ?raf21
    case yaf21 => (intro w hSw; (try dsimp only at hSw); go_simp; (try with_reducible rfl))
    simp only [Act.put]
    refine wpAnyZ_take (i := 22) (v := undef) rfl (by kernel_rfl) (by kernel_rfl) (by kernel_rfl) (by kernel_rfl) (fun _ _ _ h => h) (Or.inr ⟨by kernel_rfl, rfl⟩) (by with_reducible assumption) ?rag22
    simp only [Act.put]
    refine wpAnyZ_take (i := 23) (v := undef) rfl (by kernel_rfl) (by kernel_rfl) (by kernel_rfl) (by kernel_rfl) (fun _ _ _ h => h) (Or.inr ⟨by kernel_rfl, rfl⟩) (by with_reducible assumption) ?rag23
    simp only [Act.put]
    refine wpAnyZ_take (i := 24) (v := undef) rfl (by kernel_rfl) (by kernel_rfl) (by kernel_rfl) (by kernel_rfl) (fun _ _ _ h => h) (Or.inr ⟨by kernel_rfl, rfl⟩) (by with_reducible assumption) ?rag24
    simp only [Act.put]
    refine wpAnyZ_take (i := 25) (v := undef) rfl (by kernel_rfl) (by kernel_rfl) (by kernel_rfl) (by kernel_rfl) (fun _ _ _ h => h) (Or.inr ⟨by kernel_rfl, rfl⟩) (by with_reducible assumption) ?rag25
    simp only [Act.put]
    refine wpAnyZ_take (i := 26) (v := undef) rfl (by kernel_rfl) (by kernel_rfl) (by kernel_rfl) (by kernel_rfl) (fun _ _ _ h => h) (Or.inr ⟨by kernel_rfl, rfl⟩) (by with_reducible assumption) ?rag26
    simp only [Act.put]
    refine wpAnyZ_take (i := 27) (v := undef) rfl (by kernel_rfl) (by kernel_rfl) (by kernel_rfl) (by kernel_rfl) (fun _ _ _ h => h) (Or.inr ⟨by kernel_rfl, rfl⟩) (by with_reducible assumption) ?rag27
    simp only [Act.put]
    refine wpAnyZ_take (i := 28) (v := undef) rfl (by kernel_rfl) (by kernel_rfl) (by kernel_rfl) (by kernel_rfl) (fun _ _ _ h => h) (Or.inr ⟨by kernel_rfl, rfl⟩) (by with_reducible assumption) ?rag28
    simp only [Act.put]
    refine wpAnyZ_take (i := 29) (v := undef) rfl (by kernel_rfl) (by kernel_rfl) (by kernel_rfl) (by kernel_rfl) (fun _ _ _ h => h) (Or.inr ⟨by kernel_rfl, rfl⟩) (by with_reducible assumption) ?rag29
    simp only [Act.put]
    refine wpAnyZ_take (i := 30) (v := undef) rfl (by kernel_rfl) (by kernel_rfl) (by kernel_rfl) (by kernel_rfl) (fun _ _ _ h => h) (Or.inr ⟨by kernel_rfl, rfl⟩) (by with_reducible assumption) ?rag30
    simp only [Act.put]
    refine wpAnyZ_last (i := 31) (by kernel_rfl) rfl (by kernel_rfl) ?_
    intro K31 hK31
    go_simp
    refine hK31.out _ _ ?_
    clear hK31
    go_wp2_with fail
    go_ret
    exact ⟨rfl, below_on' B0.out hS.1.out⟩
  · rw [Bool.and_eq_true] at hb
    obtain ⟨hok, hwk⟩ := hb
    obtain ⟨n, rfl, n1, n2, hxi, hyi, hs24, hsi⟩ := auto_in hok
    obtain ⟨hl1, hl2⟩ := wordOk_in hwk
    have HPW := Lib.hid (auto_pw hok)
    obtain ⟨o, ho⟩ : ∃ o, runO (costAt ss) xs ys l zs = o := ⟨_, rfl⟩
    have HR : Hid (o.getD (-1) = r) := by rw [← hr, runR_some hok hwk, ho]; exact rfl
    have HSI := Lib.hid hsi
    have HL2 := Lib.hid hl2
    have hwl : IntKind.i64.wrap ((l.size : Int) + 1) = (l.size : Int) + 1 := IntWalk.i64_in _ (by omega)
    clear hok hwk hsi hl2 hxi hyi hr
    by_cases hlen : zs.length = l.size + 1
    · obtain ⟨zb, zo, z0, rfl, hzb, hc0, _, hg0⟩ := HZ.out.at_ (k := 0) (by omega)
      obtain ⟨_, _, ze, he, _, hce, _, hge⟩ := HZ.out.at_ (k := l.size) (by omega)
      cases he
      simp at hc0
      have heq : ((zs.length : Int) != ((l.size : Int) + 1)) = false := by rw [hlen]; simp
      have i0 : (0 : Int) < (zs.length : Int) := by omega
      have i0n : 0 < zs.length := by omega
      have ien : l.size < zs.length := by omega
      have ie : (l.size : Int) < (zs.length : Int) := by omega
      have KZ : Hid (∀ w', Below w1.heap.size w1 w' → (Hid (Below w1.heap.size w1 w') ∧ w'.cell? ⟨w.heap.size, 0, none⟩ = some (.int .i64 n) ∧ w'.cell? ⟨w.heap.size, 1, none⟩ = some (.slice A1 xs.length c1) ∧ w'.cell? ⟨w.heap.size, 2, none⟩ = some (.slice A2 ys.length c2) ∧ w'.cell? ⟨w.heap.size, 3, none⟩ = some (.slice A3 ss.length c3) ∧ w'.cell? ⟨zb, zo, none⟩ = some (.int .i64 z0) ∧ w'.cell? ⟨zb, zo + l.size, none⟩ = some (.int .i64 ze))) := fun w' h => by
        obtain ⟨s0, s1, s2, s3, s4⟩ := KM.out w' h
        exact ⟨s0, s1, s2, s3, s4, (h.cell (p := ⟨zb, zo, none⟩) hzb).trans hc0, (h.cell (p := ⟨zb, zo + l.size, none⟩) hzb).trans hce⟩
      have hS1 := KZ.out w1.drew ((Below.refl _ _).drew)
      clear hS0
      obtain ⟨b0, hb0⟩ : ∃ b, hasB xs z0 = b := ⟨_, rfl⟩
      obtain ⟨be, hbe⟩ : ∃ b, hasB ys ze = b := ⟨_, rfl⟩
      have HB0 := Lib.hid hb0
      have HBE := Lib.hid hbe
      have HLEN := Lib.hid hlen
      have HG0 := Lib.hid hg0
      have HGE := Lib.hid hge
      have HO := Lib.hid ho
      clear hc0 hce hb0 hbe hlen hg0 hge ho
      cases b0
      · have e : o = none := by
          rw [← HO.out]; unfold runO; rw [if_neg (fun h => by have h2 := h.2.1; rw [HG0.out, HB0.out] at h2; cases h2)]
        subst e
        obtain rfl : -1 = r := HR.out
        refine wp_region_Z (S := fun w' => Hid (Below w1.heap.size w1 w') ∧ w'.cell? ⟨w.heap.size, 0, none⟩ = some (.int .i64 n) ∧ w'.cell? ⟨w.heap.size, 1, none⟩ = some (.slice A1 xs.length c1) ∧ w'.cell? ⟨w.heap.size, 2, none⟩ = some (.slice A2 ys.length c2) ∧ w'.cell? ⟨w.heap.size, 3, none⟩ = some (.slice A3 ss.length c3) ∧ w'.cell? ⟨zb, zo, none⟩ = some (.int .i64 z0) ∧ w'.cell? ⟨zb, zo + l.size, none⟩ = some (.int .i64 ze)) (by kernel_rfl) hS1 (fun hS => ?_)
        clear hS1
        refine wpAnyZ_take (i := 0) (v := ?vca0) rfl (by kernel_rfl) (by kernel_rfl) (by kernel_rfl) (by kernel_rfl) (fun _ _ _ h => h) (Or.inl ⟨by rfl, ?yca0⟩) (by with_reducible assumption) ?rca0
        case yca0 => (intro w hSw; (try dsimp only at hSw); go_simp; (try with_reducible rfl))
        simp only [Act.put, List.setIfInBounds_toArray]
        refine wpAnyZ_take (i := 1) (v := ?vca1) rfl (by kernel_rfl) (by kernel_rfl) (by kernel_rfl) (by kernel_rfl) (fun _ _ _ h => h) (Or.inl ⟨by rfl, ?yca1⟩) (by with_reducible assumption) ?rca1
        case yca1 => (intro w hSw; (try dsimp only at hSw); go_simp; (try with_reducible rfl))
        simp only [Act.put]
        refine wpAnyZ_step (i := 2) (by kernel_rfl) rfl ?_
        intro K2 hK2
        go_simp
        refine (l4Asked_is _ _ _ _ _ _ _ _ _ _ _ true _ hl9 ((HX.out.below hS.1.out).more hS.1.out.size) ((HY.out.below hS.1.out).more hS.1.out.size) (HS.out.on hS.1.out) HBB.out).mono ?_
        rintro e w3 ⟨rfl, hb3⟩
        have B3 := Lib.hid (below_on hS.1.out hb3.out)
        refine hK2.out _ _ (KZ.out _ B3.out) (fun hS3 => ?_)
        clear hK2 hb3 hS B3
        have hS := hS3
        clear hS3
        (try simp only [Act.put])
        refine wpAnyZ_take (i := 3) (v := ?vcb3) rfl (by kernel_rfl) (by kernel_rfl) (by kernel_rfl) (by kernel_rfl) (fun _ _ _ h => h) (Or.inl ⟨by kernel_rfl, ?ycb3⟩) (by with_reducible assumption) ?rcb3
        case ycb3 => (intro w hSw; (try dsimp only at hSw); go_simp; (try with_reducible rfl))
        simp only [Act.put]
        refine wpAnyZ_take (i := 4) (v := ?vcb4) rfl (by kernel_rfl) (by kernel_rfl) (by kernel_rfl) (by kernel_rfl) (fun _ _ _ h => h) (Or.inl ⟨by kernel_rfl, ?ycb4⟩) (by with_reducible assumption) ?rcb4
        case ycb4 => (intro w hSw; (try dsimp only at hSw); go_simp; (try with_reducible rfl))
        simp only [Act.put]
        refine wpAnyZ_take (i := 5) (v := ?vcc5) rfl (by kernel_rfl) (by kernel_rfl) (by kernel_rfl) (by kernel_rfl) (fun _ _ _ h => h) (Or.inl ⟨by kernel_rfl, ?ycc5⟩) (by with_reducible assumption) ?rcc5
        case ycc5 => (intro w hSw; (try dsimp only at hSw); go_simp; (try with_reducible rfl))
        simp only [Act.put]
        refine wpAnyZ_take (i := 6) (v := ?vcc6) rfl (by kernel_rfl) (by kernel_rfl) (by kernel_rfl) (by kernel_rfl) (fun _ _ _ h => h) (Or.inl ⟨by kernel_rfl, ?ycc6⟩) (by with_reducible assumption) ?rcc6
        case ycc6 => (intro w hSw; (try dsimp only at hSw); go_simp; (try with_reducible rfl))
        simp only [Act.put]
        refine wpAnyZ_take (i := 7) (v := ?vcc7) rfl (by kernel_rfl) (by kernel_rfl) (by kernel_rfl) (by kernel_rfl) (fun _ _ _ h => h) (Or.inl ⟨by kernel_rfl, ?ycc7⟩) (by with_reducible assumption) ?rcc7
        case ycc7 => (intro w hSw; (try dsimp only at hSw); go_simp; (try with_reducible rfl))
        simp only [Act.put]
        refine wpAnyZ_take (i := 8) (v := ?vcc8) rfl (by kernel_rfl) (by kernel_rfl) (by kernel_rfl) (by kernel_rfl) (fun _ _ _ h => h) (Or.inl ⟨by kernel_rfl, ?ycc8⟩) (by with_reducible assumption) ?rcc8
        case ycc8 => (intro w hSw; (try dsimp only at hSw); go_simp; (try with_reducible rfl))
        simp only [Act.put]
        refine wpAnyZ_take (i := 9) (v := ?vcc9) rfl (by kernel_rfl) (by kernel_rfl) (by kernel_rfl) (by kernel_rfl) (fun _ _ _ h => h) (Or.inl ⟨by kernel_rfl, ?ycc9⟩) (by with_reducible assumption) ?rcc9
        case ycc9 => (intro w hSw; (try dsimp only at hSw); go_simp; (try with_reducible rfl))
        simp only [Act.put]
        refine wpAnyZ_take (i := 10) (v := ?vcc10) rfl (by kernel_rfl) (by kernel_rfl) (by kernel_rfl) (by kernel_rfl) (fun _ _ _ h => h) (Or.inl ⟨by kernel_rfl, ?ycc10⟩) (by with_reducible assumption) ?rcc10
        case ycc10 => (intro w hSw; (try dsimp only at hSw); go_simp; (try with_reducible rfl))
        simp only [Act.put]
        refine wpAnyZ_take (i := 11) (v := ?vcc11) rfl (by kernel_rfl) (by kernel_rfl) (by kernel_rfl) (by kernel_rfl) (fun _ _ _ h => h) (Or.inl ⟨by kernel_rfl, ?ycc11⟩) (by with_reducible assumption) ?rcc11
        case ycc11 => (intro w hSw; (try dsimp only at hSw); go_simp; (try with_reducible rfl))
        simp only [Act.put]
        refine wpAnyZ_take (i := 12) (v := ?vcc12) rfl (by kernel_rfl) (by kernel_rfl) (by kernel_rfl) (by kernel_rfl) (fun _ _ _ h => h) (Or.inl ⟨by kernel_rfl, ?ycc12⟩) (by with_reducible assumption) ?rcc12
        case ycc12 => (intro w hSw; (try dsimp only at hSw); go_simp; (try with_reducible rfl))
        simp only [Act.put]
        refine wpAnyZ_take (i := 13) (v := ?vce13) rfl (by kernel_rfl) (by kernel_rfl) (by kernel_rfl) (by kernel_rfl) (fun _ _ _ h => h) (Or.inl ⟨by kernel_rfl, ?yce13⟩) (by with_reducible assumption) ?rce13
        case yce13 => (intro w hSw; (try dsimp only at hSw); go_simp; (try with_reducible rfl))
        simp only [Act.put]
        refine wpAnyZ_take (i := 14) (v := ?vce14) rfl (by kernel_rfl) (by kernel_rfl) (by kernel_rfl) (by kernel_rfl) (fun _ _ _ h => h) (Or.inl ⟨by kernel_rfl, ?yce14⟩) (by with_reducible assumption) ?rce14
        case yce14 => (intro w hSw; (try dsimp only at hSw); go_simp; (try with_reducible rfl))
        simp only [Act.put]
        refine wpAnyZ_take (i := 15) (v := ?vce15) rfl (by kernel_rfl) (by kernel_rfl) (by kernel_rfl) (by kernel_rfl) (fun _ _ _ h => h) (Or.inl ⟨by kernel_rfl, ?yce15⟩) (by with_reducible assumption) ?rce15
        case yce15 => (intro w hSw; (try dsimp only at hSw); go_simp; (try with_reducible rfl))
        simp only [Act.put]
        refine wpAnyZ_take (i := 16) (v := ?vce16) rfl (by kernel_rfl) (by kernel_rfl) (by kernel_rfl) (by kernel_rfl) (fun _ _ _ h => h) (Or.inl ⟨by kernel_rfl, ?yce16⟩) (by with_reducible assumption) ?rce16
        case yce16 => (intro w hSw; (try dsimp only at hSw); go_simp; (try with_reducible rfl))
        simp only [Act.put]
        refine wpAnyZ_take (i := 17) (v := ?vce17) rfl (by kernel_rfl) (by kernel_rfl) (by kernel_rfl) (by kernel_rfl) (fun _ _ _ h => h) (Or.inl ⟨by kernel_rfl, ?yce17⟩) (by with_reducible assumption) ?rce17
        case yce17 => (intro w hSw; (try dsimp only at hSw); go_simp; (try with_reducible rfl))
        simp only [Act.put]
        refine wpAnyZ_step (i := 18) (by kernel_rfl) rfl ?_
        intro K18 hK18
        go_simp
        refine (l4In_any _ _ _ _ z0 false _ (HX.out.below hS.1.out) HB0.out).mono ?_
        rintro e w4 ⟨rfl, rfl⟩
        refine hK18.out _ _ hS (fun hS3 => ?_)
        clear hK18 hS3
        (try simp only [Act.put])
        refine wpAnyZ_take (i := 19) (v := ?vcf19) rfl (by kernel_rfl) (by kernel_rfl) (by kernel_rfl) (by kernel_rfl) (fun _ _ _ h => h) (Or.inl ⟨by kernel_rfl, ?ycf19⟩) (by with_reducible assumption) ?rcf19
        case ycf19 => (intro w hSw; (try dsimp only at hSw); go_simp; (try with_reducible rfl))
        simp only [Act.put]
        refine wpAnyZ_take (i := 20) (v := ?vcf20) rfl (by kernel_rfl) (by kernel_rfl) (by kernel_rfl) (by kernel_rfl) (fun _ _ _ h => h) (Or.inl ⟨by kernel_rfl, ?ycf20⟩) (by with_reducible assumption) ?rcf20
        case ycf20 => (intro w hSw; (try dsimp only at hSw); go_simp; (try with_reducible rfl))
        simp only [Act.put]
        refine wpAnyZ_take (i := 21) (v := ?vcf21) rfl (by kernel_rfl) (by kernel_rfl) (by kernel_rfl) (by kernel_rfl) (fun _ _ _ h => h) (Or.inl ⟨by kernel_rfl, ?ycf21⟩) (by with_reducible assumption) ?rcf21
        case ycf21 => (intro w hSw; (try dsimp only at hSw); go_simp; (try with_reducible rfl))
        simp only [Act.put]
        refine wpAnyZ_take (i := 22) (v := undef) rfl (by kernel_rfl) (by kernel_rfl) (by kernel_rfl) (by kernel_rfl) (fun _ _ _ h => h) (Or.inr ⟨by kernel_rfl, rfl⟩) (by with_reducible assumption) ?rcg22
        simp only [Act.put]
        refine wpAnyZ_take (i := 23) (v := undef) rfl (by kernel_rfl) (by kernel_rfl) (by kernel_rfl) (by kernel_rfl) (fun _ _ _ h => h) (Or.inr ⟨by kernel_rfl, rfl⟩) (by with_reducible assumption) ?rcg23
        simp only [Act.put]
        refine wpAnyZ_take (i := 24) (v := undef) rfl (by kernel_rfl) (by kernel_rfl) (by kernel_rfl) (by kernel_rfl) (fun _ _ _ h => h) (Or.inr ⟨by kernel_rfl, rfl⟩) (by with_reducible assumption) ?rcg24
        simp only [Act.put]
        refine wpAnyZ_take (i := 25) (v := undef) rfl (by kernel_rfl) (by kernel_rfl) (by kernel_rfl) (by kernel_rfl) (fun _ _ _ h => h) (Or.inr ⟨by kernel_rfl, rfl⟩) (by with_reducible assumption) ?rcg25
        simp only [Act.put]
        refine wpAnyZ_take (i := 26) (v := undef) rfl (by kernel_rfl) (by kernel_rfl) (by kernel_rfl) (by kernel_rfl) (fun _ _ _ h => h) (Or.inr ⟨by kernel_rfl, rfl⟩) (by with_reducible assumption) ?rcg26
        simp only [Act.put]
        refine wpAnyZ_take (i := 27) (v := undef) rfl (by kernel_rfl) (by kernel_rfl) (by kernel_rfl) (by kernel_rfl) (fun _ _ _ h => h) (Or.inr ⟨by kernel_rfl, rfl⟩) (by with_reducible assumption) ?rcg27
        simp only [Act.put]
        refine wpAnyZ_take (i := 28) (v := undef) rfl (by kernel_rfl) (by kernel_rfl) (by kernel_rfl) (by kernel_rfl) (fun _ _ _ h => h) (Or.inr ⟨by kernel_rfl, rfl⟩) (by with_reducible assumption) ?rcg28
        simp only [Act.put]
        refine wpAnyZ_take (i := 29) (v := undef) rfl (by kernel_rfl) (by kernel_rfl) (by kernel_rfl) (by kernel_rfl) (fun _ _ _ h => h) (Or.inr ⟨by kernel_rfl, rfl⟩) (by with_reducible assumption) ?rcg29
        simp only [Act.put]
        refine wpAnyZ_take (i := 30) (v := undef) rfl (by kernel_rfl) (by kernel_rfl) (by kernel_rfl) (by kernel_rfl) (fun _ _ _ h => h) (Or.inr ⟨by kernel_rfl, rfl⟩) (by with_reducible assumption) ?rcg30
        simp only [Act.put]
        refine wpAnyZ_last (i := 31) (by kernel_rfl) rfl (by kernel_rfl) ?_
        intro K31 hK31
        go_simp
        refine hK31.out _ _ ?_
        clear hK31
        go_wp2_with fail
        go_ret
        exact ⟨rfl, below_on' B0.out hS.1.out⟩
      · cases be
        · have e : o = none := by
            rw [← HO.out]; unfold runO; rw [if_neg (fun h => by have h2 := h.2.2; rw [HGE.out, HBE.out] at h2; cases h2)]
          subst e
          obtain rfl : -1 = r := HR.out
          refine wp_region_Z (S := fun w' => Hid (Below w1.heap.size w1 w') ∧ w'.cell? ⟨w.heap.size, 0, none⟩ = some (.int .i64 n) ∧ w'.cell? ⟨w.heap.size, 1, none⟩ = some (.slice A1 xs.length c1) ∧ w'.cell? ⟨w.heap.size, 2, none⟩ = some (.slice A2 ys.length c2) ∧ w'.cell? ⟨w.heap.size, 3, none⟩ = some (.slice A3 ss.length c3) ∧ w'.cell? ⟨zb, zo, none⟩ = some (.int .i64 z0) ∧ w'.cell? ⟨zb, zo + l.size, none⟩ = some (.int .i64 ze)) (by kernel_rfl) hS1 (fun hS => ?_)
          clear hS1
          refine wpAnyZ_take (i := 0) (v := ?vda0) rfl (by kernel_rfl) (by kernel_rfl) (by kernel_rfl) (by kernel_rfl) (fun _ _ _ h => h) (Or.inl ⟨by rfl, ?yda0⟩) (by with_reducible assumption) ?rda0
          case yda0 => (intro w hSw; (try dsimp only at hSw); go_simp; (try with_reducible rfl))
          simp only [Act.put, List.setIfInBounds_toArray]
          refine wpAnyZ_take (i := 1) (v := ?vda1) rfl (by kernel_rfl) (by kernel_rfl) (by kernel_rfl) (by kernel_rfl) (fun _ _ _ h => h) (Or.inl ⟨by rfl, ?yda1⟩) (by with_reducible assumption) ?rda1
          case yda1 => (intro w hSw; (try dsimp only at hSw); go_simp; (try with_reducible rfl))
          simp only [Act.put]
          refine wpAnyZ_step (i := 2) (by kernel_rfl) rfl ?_
          intro K2 hK2
          go_simp
          refine (l4Asked_is _ _ _ _ _ _ _ _ _ _ _ true _ hl9 ((HX.out.below hS.1.out).more hS.1.out.size) ((HY.out.below hS.1.out).more hS.1.out.size) (HS.out.on hS.1.out) HBB.out).mono ?_
          rintro e w3 ⟨rfl, hb3⟩
          have B3 := Lib.hid (below_on hS.1.out hb3.out)
          refine hK2.out _ _ (KZ.out _ B3.out) (fun hS3 => ?_)
          clear hK2 hb3 hS B3
          have hS := hS3
          clear hS3
          (try simp only [Act.put])
          refine wpAnyZ_take (i := 3) (v := ?vdb3) rfl (by kernel_rfl) (by kernel_rfl) (by kernel_rfl) (by kernel_rfl) (fun _ _ _ h => h) (Or.inl ⟨by kernel_rfl, ?ydb3⟩) (by with_reducible assumption) ?rdb3
          case ydb3 => (intro w hSw; (try dsimp only at hSw); go_simp; (try with_reducible rfl))
          simp only [Act.put]
          refine wpAnyZ_take (i := 4) (v := ?vdb4) rfl (by kernel_rfl) (by kernel_rfl) (by kernel_rfl) (by kernel_rfl) (fun _ _ _ h => h) (Or.inl ⟨by kernel_rfl, ?ydb4⟩) (by with_reducible assumption) ?rdb4
          case ydb4 => (intro w hSw; (try dsimp only at hSw); go_simp; (try with_reducible rfl))
          simp only [Act.put]
          refine wpAnyZ_take (i := 5) (v := ?vdc5) rfl (by kernel_rfl) (by kernel_rfl) (by kernel_rfl) (by kernel_rfl) (fun _ _ _ h => h) (Or.inl ⟨by kernel_rfl, ?ydc5⟩) (by with_reducible assumption) ?rdc5
          case ydc5 => (intro w hSw; (try dsimp only at hSw); go_simp; (try with_reducible rfl))
          simp only [Act.put]
          refine wpAnyZ_take (i := 6) (v := ?vdc6) rfl (by kernel_rfl) (by kernel_rfl) (by kernel_rfl) (by kernel_rfl) (fun _ _ _ h => h) (Or.inl ⟨by kernel_rfl, ?ydc6⟩) (by with_reducible assumption) ?rdc6
          case ydc6 => (intro w hSw; (try dsimp only at hSw); go_simp; (try with_reducible rfl))
          simp only [Act.put]
          refine wpAnyZ_take (i := 7) (v := ?vdc7) rfl (by kernel_rfl) (by kernel_rfl) (by kernel_rfl) (by kernel_rfl) (fun _ _ _ h => h) (Or.inl ⟨by kernel_rfl, ?ydc7⟩) (by with_reducible assumption) ?rdc7
          case ydc7 => (intro w hSw; (try dsimp only at hSw); go_simp; (try with_reducible rfl))
          simp only [Act.put]
          refine wpAnyZ_take (i := 8) (v := ?vdc8) rfl (by kernel_rfl) (by kernel_rfl) (by kernel_rfl) (by kernel_rfl) (fun _ _ _ h => h) (Or.inl ⟨by kernel_rfl, ?ydc8⟩) (by with_reducible assumption) ?rdc8
          case ydc8 => (intro w hSw; (try dsimp only at hSw); go_simp; (try with_reducible rfl))
          simp only [Act.put]
          refine wpAnyZ_take (i := 9) (v := ?vdc9) rfl (by kernel_rfl) (by kernel_rfl) (by kernel_rfl) (by kernel_rfl) (fun _ _ _ h => h) (Or.inl ⟨by kernel_rfl, ?ydc9⟩) (by with_reducible assumption) ?rdc9
          case ydc9 => (intro w hSw; (try dsimp only at hSw); go_simp; (try with_reducible rfl))
          simp only [Act.put]
          refine wpAnyZ_take (i := 10) (v := ?vdc10) rfl (by kernel_rfl) (by kernel_rfl) (by kernel_rfl) (by kernel_rfl) (fun _ _ _ h => h) (Or.inl ⟨by kernel_rfl, ?ydc10⟩) (by with_reducible assumption) ?rdc10
          case ydc10 => (intro w hSw; (try dsimp only at hSw); go_simp; (try with_reducible rfl))
          simp only [Act.put]
          refine wpAnyZ_take (i := 11) (v := ?vdc11) rfl (by kernel_rfl) (by kernel_rfl) (by kernel_rfl) (by kernel_rfl) (fun _ _ _ h => h) (Or.inl ⟨by kernel_rfl, ?ydc11⟩) (by with_reducible assumption) ?rdc11
          case ydc11 => (intro w hSw; (try dsimp only at hSw); go_simp; (try with_reducible rfl))
          simp only [Act.put]
          refine wpAnyZ_take (i := 12) (v := ?vdc12) rfl (by kernel_rfl) (by kernel_rfl) (by kernel_rfl) (by kernel_rfl) (fun _ _ _ h => h) (Or.inl ⟨by kernel_rfl, ?ydc12⟩) (by with_reducible assumption) ?rdc12
          case ydc12 => (intro w hSw; (try dsimp only at hSw); go_simp; (try with_reducible rfl))
          simp only [Act.put]
          refine wpAnyZ_take (i := 13) (v := ?vde13) rfl (by kernel_rfl) (by kernel_rfl) (by kernel_rfl) (by kernel_rfl) (fun _ _ _ h => h) (Or.inl ⟨by kernel_rfl, ?yde13⟩) (by with_reducible assumption) ?rde13
          case yde13 => (intro w hSw; (try dsimp only at hSw); go_simp; (try with_reducible rfl))
          simp only [Act.put]
          refine wpAnyZ_take (i := 14) (v := ?vde14) rfl (by kernel_rfl) (by kernel_rfl) (by kernel_rfl) (by kernel_rfl) (fun _ _ _ h => h) (Or.inl ⟨by kernel_rfl, ?yde14⟩) (by with_reducible assumption) ?rde14
          case yde14 => (intro w hSw; (try dsimp only at hSw); go_simp; (try with_reducible rfl))
          simp only [Act.put]
          refine wpAnyZ_take (i := 15) (v := ?vde15) rfl (by kernel_rfl) (by kernel_rfl) (by kernel_rfl) (by kernel_rfl) (fun _ _ _ h => h) (Or.inl ⟨by kernel_rfl, ?yde15⟩) (by with_reducible assumption) ?rde15
          case yde15 => (intro w hSw; (try dsimp only at hSw); go_simp; (try with_reducible rfl))
          simp only [Act.put]
          refine wpAnyZ_take (i := 16) (v := ?vde16) rfl (by kernel_rfl) (by kernel_rfl) (by kernel_rfl) (by kernel_rfl) (fun _ _ _ h => h) (Or.inl ⟨by kernel_rfl, ?yde16⟩) (by with_reducible assumption) ?rde16
          case yde16 => (intro w hSw; (try dsimp only at hSw); go_simp; (try with_reducible rfl))
          simp only [Act.put]
          refine wpAnyZ_take (i := 17) (v := ?vde17) rfl (by kernel_rfl) (by kernel_rfl) (by kernel_rfl) (by kernel_rfl) (fun _ _ _ h => h) (Or.inl ⟨by kernel_rfl, ?yde17⟩) (by with_reducible assumption) ?rde17
          case yde17 => (intro w hSw; (try dsimp only at hSw); go_simp; (try with_reducible rfl))
          simp only [Act.put]
          refine wpAnyZ_step (i := 18) (by kernel_rfl) rfl ?_
          intro K18 hK18
          go_simp
          refine (l4In_any _ _ _ _ z0 true _ (HX.out.below hS.1.out) HB0.out).mono ?_
          rintro e w4 ⟨rfl, rfl⟩
          refine hK18.out _ _ hS (fun hS3 => ?_)
          clear hK18 hS3
          (try simp only [Act.put])
          refine wpAnyZ_take (i := 19) (v := ?vdf19) rfl (by kernel_rfl) (by kernel_rfl) (by kernel_rfl) (by kernel_rfl) (fun _ _ _ h => h) (Or.inl ⟨by kernel_rfl, ?ydf19⟩) (by with_reducible assumption) ?rdf19
          case ydf19 => (intro w hSw; (try dsimp only at hSw); go_simp; (try with_reducible rfl))
          simp only [Act.put]
          refine wpAnyZ_take (i := 20) (v := ?vdf20) rfl (by kernel_rfl) (by kernel_rfl) (by kernel_rfl) (by kernel_rfl) (fun _ _ _ h => h) (Or.inl ⟨by kernel_rfl, ?ydf20⟩) (by with_reducible assumption) ?rdf20
          case ydf20 => (intro w hSw; (try dsimp only at hSw); go_simp; (try with_reducible rfl))
          simp only [Act.put]
          refine wpAnyZ_take (i := 21) (v := ?vdf21) rfl (by kernel_rfl) (by kernel_rfl) (by kernel_rfl) (by kernel_rfl) (fun _ _ _ h => h) (Or.inl ⟨by kernel_rfl, ?ydf21⟩) (by with_reducible assumption) ?rdf21
          case ydf21 => (intro w hSw; (try dsimp only at hSw); go_simp; (try with_reducible rfl))
          simp only [Act.put]
          refine wpAnyZ_take (i := 22) (v := ?vdg22) rfl (by kernel_rfl) (by kernel_rfl) (by kernel_rfl) (by kernel_rfl) (fun _ _ _ h => h) (Or.inl ⟨by kernel_rfl, ?ydg22⟩) (by with_reducible assumption) ?rdg22
          case ydg22 => (intro w hSw; (try dsimp only at hSw); go_simp; (try with_reducible rfl))
          simp only [Act.put]
          refine wpAnyZ_take (i := 23) (v := ?vdg23) rfl (by kernel_rfl) (by kernel_rfl) (by kernel_rfl) (by kernel_rfl) (fun _ _ _ h => h) (Or.inl ⟨by kernel_rfl, ?ydg23⟩) (by with_reducible assumption) ?rdg23
          case ydg23 => (intro w hSw; (try dsimp only at hSw); go_simp; (try with_reducible rfl))
          simp only [Act.put]
          refine wpAnyZ_take (i := 24) (v := ?vdg24) rfl (by kernel_rfl) (by kernel_rfl) (by kernel_rfl) (by kernel_rfl) (fun _ _ _ h => h) (Or.inl ⟨by kernel_rfl, ?ydg24⟩) (by with_reducible assumption) ?rdg24
          case ydg24 => (intro w hSw; (try dsimp only at hSw); go_simp; (try with_reducible rfl))
          simp only [Act.put]
          refine wpAnyZ_take (i := 25) (v := ?vdg25) rfl (by kernel_rfl) (by kernel_rfl) (by kernel_rfl) (by kernel_rfl) (fun _ _ _ h => h) (Or.inl ⟨by kernel_rfl, ?ydg25⟩) (by with_reducible assumption) ?rdg25
          case ydg25 => (intro w hSw; (try dsimp only at hSw); go_simp; (try with_reducible rfl))
          simp only [Act.put]
          refine wpAnyZ_take (i := 26) (v := ?vdg26) rfl (by kernel_rfl) (by kernel_rfl) (by kernel_rfl) (by kernel_rfl) (fun _ _ _ h => h) (Or.inl ⟨by kernel_rfl, ?ydg26⟩) (by with_reducible assumption) ?rdg26
          case ydg26 => (intro w hSw; (try dsimp only at hSw); go_simp; (try with_reducible rfl))
          simp only [Act.put]
          refine wpAnyZ_take (i := 27) (v := ?vdg27) rfl (by kernel_rfl) (by kernel_rfl) (by kernel_rfl) (by kernel_rfl) (fun _ _ _ h => h) (Or.inl ⟨by kernel_rfl, ?ydg27⟩) (by with_reducible assumption) ?rdg27
          case ydg27 => (intro w hSw; (try dsimp only at hSw); go_simp; (try with_reducible rfl))
          simp only [Act.put]
          refine wpAnyZ_take (i := 28) (v := ?vdg28) rfl (by kernel_rfl) (by kernel_rfl) (by kernel_rfl) (by kernel_rfl) (fun _ _ _ h => h) (Or.inl ⟨by kernel_rfl, ?ydg28⟩) (by with_reducible assumption) ?rdg28
          case ydg28 => (intro w hSw; (try dsimp only at hSw); go_simp; (try with_reducible rfl))
          simp only [Act.put]
          refine wpAnyZ_step (i := 29) (by kernel_rfl) rfl ?_
          intro K29 hK29
          go_simp
          refine (l4In_any _ _ _ _ ze false _ (HY.out.below hS.1.out) HBE.out).mono ?_
          rintro e w4 ⟨rfl, rfl⟩
          refine hK29.out _ _ hS (fun hS3 => ?_)
          clear hK29 hS3
          (try simp only [Act.put])
          refine wpAnyZ_take (i := 30) (v := ?vdh30) rfl (by kernel_rfl) (by kernel_rfl) (by kernel_rfl) (by kernel_rfl) (fun _ _ _ h => h) (Or.inl ⟨by kernel_rfl, ?ydh30⟩) (by with_reducible assumption) ?rdh30
          case ydh30 => (intro w hSw; (try dsimp only at hSw); go_simp; (try with_reducible rfl))
          simp only [Act.put]
          refine wpAnyZ_last (i := 31) (by kernel_rfl) rfl (by kernel_rfl) ?_
          intro K31 hK31
          go_simp
          refine hK31.out _ _ ?_
          clear hK31
          go_wp2_with fail
          go_ret
          exact ⟨rfl, below_on' B0.out hS.1.out⟩
        · have hro : runF (stP (costAt ss) l zs) l.size = o := by
            rw [← HO.out]; unfold runO; rw [if_pos ⟨HLEN.out, by rw [HG0.out, HB0.out], by rw [HGE.out, HBE.out]⟩]
          have HRO := Lib.hid hro
          clear hro
          refine wp_region_Z (S := fun w' => Hid (Below w1.heap.size w1 w') ∧ w'.cell? ⟨w.heap.size, 0, none⟩ = some (.int .i64 n) ∧ w'.cell? ⟨w.heap.size, 1, none⟩ = some (.slice A1 xs.length c1) ∧ w'.cell? ⟨w.heap.size, 2, none⟩ = some (.slice A2 ys.length c2) ∧ w'.cell? ⟨w.heap.size, 3, none⟩ = some (.slice A3 ss.length c3) ∧ w'.cell? ⟨zb, zo, none⟩ = some (.int .i64 z0) ∧ w'.cell? ⟨zb, zo + l.size, none⟩ = some (.int .i64 ze)) (by kernel_rfl) hS1 (fun hS => ?_)
          clear hS1
          refine wpAnyZ_take (i := 0) (v := ?vea0) rfl (by kernel_rfl) (by kernel_rfl) (by kernel_rfl) (by kernel_rfl) (fun _ _ _ h => h) (Or.inl ⟨by rfl, ?yea0⟩) (by with_reducible assumption) ?rea0
          case yea0 => (intro w hSw; (try dsimp only at hSw); go_simp; (try with_reducible rfl))
          simp only [Act.put, List.setIfInBounds_toArray]
          refine wpAnyZ_take (i := 1) (v := ?vea1) rfl (by kernel_rfl) (by kernel_rfl) (by kernel_rfl) (by kernel_rfl) (fun _ _ _ h => h) (Or.inl ⟨by rfl, ?yea1⟩) (by with_reducible assumption) ?rea1
          case yea1 => (intro w hSw; (try dsimp only at hSw); go_simp; (try with_reducible rfl))
          simp only [Act.put]
          refine wpAnyZ_step (i := 2) (by kernel_rfl) rfl ?_
          intro K2 hK2
          go_simp
          refine (l4Asked_is _ _ _ _ _ _ _ _ _ _ _ true _ hl9 ((HX.out.below hS.1.out).more hS.1.out.size) ((HY.out.below hS.1.out).more hS.1.out.size) (HS.out.on hS.1.out) HBB.out).mono ?_
          rintro e w3 ⟨rfl, hb3⟩
          have B3 := Lib.hid (below_on hS.1.out hb3.out)
          refine hK2.out _ _ (KZ.out _ B3.out) (fun hS3 => ?_)
          clear hK2 hb3 hS B3
          have hS := hS3
          clear hS3
          (try simp only [Act.put])
          refine wpAnyZ_take (i := 3) (v := ?veb3) rfl (by kernel_rfl) (by kernel_rfl) (by kernel_rfl) (by kernel_rfl) (fun _ _ _ h => h) (Or.inl ⟨by kernel_rfl, ?yeb3⟩) (by with_reducible assumption) ?reb3
          case yeb3 => (intro w hSw; (try dsimp only at hSw); go_simp; (try with_reducible rfl))
          simp only [Act.put]
          refine wpAnyZ_take (i := 4) (v := ?veb4) rfl (by kernel_rfl) (by kernel_rfl) (by kernel_rfl) (by kernel_rfl) (fun _ _ _ h => h) (Or.inl ⟨by kernel_rfl, ?yeb4⟩) (by with_reducible assumption) ?reb4
          case yeb4 => (intro w hSw; (try dsimp only at hSw); go_simp; (try with_reducible rfl))
          simp only [Act.put]
          refine wpAnyZ_take (i := 5) (v := ?vec5) rfl (by kernel_rfl) (by kernel_rfl) (by kernel_rfl) (by kernel_rfl) (fun _ _ _ h => h) (Or.inl ⟨by kernel_rfl, ?yec5⟩) (by with_reducible assumption) ?rec5
          case yec5 => (intro w hSw; (try dsimp only at hSw); go_simp; (try with_reducible rfl))
          simp only [Act.put]
          refine wpAnyZ_take (i := 6) (v := ?vec6) rfl (by kernel_rfl) (by kernel_rfl) (by kernel_rfl) (by kernel_rfl) (fun _ _ _ h => h) (Or.inl ⟨by kernel_rfl, ?yec6⟩) (by with_reducible assumption) ?rec6
          case yec6 => (intro w hSw; (try dsimp only at hSw); go_simp; (try with_reducible rfl))
          simp only [Act.put]
          refine wpAnyZ_take (i := 7) (v := ?vec7) rfl (by kernel_rfl) (by kernel_rfl) (by kernel_rfl) (by kernel_rfl) (fun _ _ _ h => h) (Or.inl ⟨by kernel_rfl, ?yec7⟩) (by with_reducible assumption) ?rec7
          case yec7 => (intro w hSw; (try dsimp only at hSw); go_simp; (try with_reducible rfl))
          simp only [Act.put]
          refine wpAnyZ_take (i := 8) (v := ?vec8) rfl (by kernel_rfl) (by kernel_rfl) (by kernel_rfl) (by kernel_rfl) (fun _ _ _ h => h) (Or.inl ⟨by kernel_rfl, ?yec8⟩) (by with_reducible assumption) ?rec8
          case yec8 => (intro w hSw; (try dsimp only at hSw); go_simp; (try with_reducible rfl))
          simp only [Act.put]
          refine wpAnyZ_take (i := 9) (v := ?vec9) rfl (by kernel_rfl) (by kernel_rfl) (by kernel_rfl) (by kernel_rfl) (fun _ _ _ h => h) (Or.inl ⟨by kernel_rfl, ?yec9⟩) (by with_reducible assumption) ?rec9
          case yec9 => (intro w hSw; (try dsimp only at hSw); go_simp; (try with_reducible rfl))
          simp only [Act.put]
          refine wpAnyZ_take (i := 10) (v := ?vec10) rfl (by kernel_rfl) (by kernel_rfl) (by kernel_rfl) (by kernel_rfl) (fun _ _ _ h => h) (Or.inl ⟨by kernel_rfl, ?yec10⟩) (by with_reducible assumption) ?rec10
          case yec10 => (intro w hSw; (try dsimp only at hSw); go_simp; (try with_reducible rfl))
          simp only [Act.put]
          refine wpAnyZ_take (i := 11) (v := ?vec11) rfl (by kernel_rfl) (by kernel_rfl) (by kernel_rfl) (by kernel_rfl) (fun _ _ _ h => h) (Or.inl ⟨by kernel_rfl, ?yec11⟩) (by with_reducible assumption) ?rec11
          case yec11 => (intro w hSw; (try dsimp only at hSw); go_simp; (try with_reducible rfl))
          simp only [Act.put]
          refine wpAnyZ_take (i := 12) (v := ?vec12) rfl (by kernel_rfl) (by kernel_rfl) (by kernel_rfl) (by kernel_rfl) (fun _ _ _ h => h) (Or.inl ⟨by kernel_rfl, ?yec12⟩) (by with_reducible assumption) ?rec12
          case yec12 => (intro w hSw; (try dsimp only at hSw); go_simp; (try with_reducible rfl))
          simp only [Act.put]
          refine wpAnyZ_take (i := 13) (v := ?vee13) rfl (by kernel_rfl) (by kernel_rfl) (by kernel_rfl) (by kernel_rfl) (fun _ _ _ h => h) (Or.inl ⟨by kernel_rfl, ?yee13⟩) (by with_reducible assumption) ?ree13
          case yee13 => (intro w hSw; (try dsimp only at hSw); go_simp; (try with_reducible rfl))
          simp only [Act.put]
          refine wpAnyZ_take (i := 14) (v := ?vee14) rfl (by kernel_rfl) (by kernel_rfl) (by kernel_rfl) (by kernel_rfl) (fun _ _ _ h => h) (Or.inl ⟨by kernel_rfl, ?yee14⟩) (by with_reducible assumption) ?ree14
          case yee14 => (intro w hSw; (try dsimp only at hSw); go_simp; (try with_reducible rfl))
          simp only [Act.put]
          refine wpAnyZ_take (i := 15) (v := ?vee15) rfl (by kernel_rfl) (by kernel_rfl) (by kernel_rfl) (by kernel_rfl) (fun _ _ _ h => h) (Or.inl ⟨by kernel_rfl, ?yee15⟩) (by with_reducible assumption) ?ree15
          case yee15 => (intro w hSw; (try dsimp only at hSw); go_simp; (try with_reducible rfl))
          simp only [Act.put]
          refine wpAnyZ_take (i := 16) (v := ?vee16) rfl (by kernel_rfl) (by kernel_rfl) (by kernel_rfl) (by kernel_rfl) (fun _ _ _ h => h) (Or.inl ⟨by kernel_rfl, ?yee16⟩) (by with_reducible assumption) ?ree16
          case yee16 => (intro w hSw; (try dsimp only at hSw); go_simp; (try with_reducible rfl))
          simp only [Act.put]
          refine wpAnyZ_take (i := 17) (v := ?vee17) rfl (by kernel_rfl) (by kernel_rfl) (by kernel_rfl) (by kernel_rfl) (fun _ _ _ h => h) (Or.inl ⟨by kernel_rfl, ?yee17⟩) (by with_reducible assumption) ?ree17
          case yee17 => (intro w hSw; (try dsimp only at hSw); go_simp; (try with_reducible rfl))
          simp only [Act.put]
          refine wpAnyZ_step (i := 18) (by kernel_rfl) rfl ?_
          intro K18 hK18
          go_simp
          refine (l4In_any _ _ _ _ z0 true _ (HX.out.below hS.1.out) HB0.out).mono ?_
          rintro e w4 ⟨rfl, rfl⟩
          refine hK18.out _ _ hS (fun hS3 => ?_)
          clear hK18 hS3
          (try simp only [Act.put])
          refine wpAnyZ_take (i := 19) (v := ?vef19) rfl (by kernel_rfl) (by kernel_rfl) (by kernel_rfl) (by kernel_rfl) (fun _ _ _ h => h) (Or.inl ⟨by kernel_rfl, ?yef19⟩) (by with_reducible assumption) ?ref19
          case yef19 => (intro w hSw; (try dsimp only at hSw); go_simp; (try with_reducible rfl))
          simp only [Act.put]
          refine wpAnyZ_take (i := 20) (v := ?vef20) rfl (by kernel_rfl) (by kernel_rfl) (by kernel_rfl) (by kernel_rfl) (fun _ _ _ h => h) (Or.inl ⟨by kernel_rfl, ?yef20⟩) (by with_reducible assumption) ?ref20
          case yef20 => (intro w hSw; (try dsimp only at hSw); go_simp; (try with_reducible rfl))
          simp only [Act.put]
          refine wpAnyZ_take (i := 21) (v := ?vef21) rfl (by kernel_rfl) (by kernel_rfl) (by kernel_rfl) (by kernel_rfl) (fun _ _ _ h => h) (Or.inl ⟨by kernel_rfl, ?yef21⟩) (by with_reducible assumption) ?ref21
          case yef21 => (intro w hSw; (try dsimp only at hSw); go_simp; (try with_reducible rfl))
          simp only [Act.put]
          refine wpAnyZ_take (i := 22) (v := ?veg22) rfl (by kernel_rfl) (by kernel_rfl) (by kernel_rfl) (by kernel_rfl) (fun _ _ _ h => h) (Or.inl ⟨by kernel_rfl, ?yeg22⟩) (by with_reducible assumption) ?reg22
          case yeg22 => (intro w hSw; (try dsimp only at hSw); go_simp; (try with_reducible rfl))
          simp only [Act.put]
          refine wpAnyZ_take (i := 23) (v := ?veg23) rfl (by kernel_rfl) (by kernel_rfl) (by kernel_rfl) (by kernel_rfl) (fun _ _ _ h => h) (Or.inl ⟨by kernel_rfl, ?yeg23⟩) (by with_reducible assumption) ?reg23
          case yeg23 => (intro w hSw; (try dsimp only at hSw); go_simp; (try with_reducible rfl))
          simp only [Act.put]
          refine wpAnyZ_take (i := 24) (v := ?veg24) rfl (by kernel_rfl) (by kernel_rfl) (by kernel_rfl) (by kernel_rfl) (fun _ _ _ h => h) (Or.inl ⟨by kernel_rfl, ?yeg24⟩) (by with_reducible assumption) ?reg24
          case yeg24 => (intro w hSw; (try dsimp only at hSw); go_simp; (try with_reducible rfl))
          simp only [Act.put]
          refine wpAnyZ_take (i := 25) (v := ?veg25) rfl (by kernel_rfl) (by kernel_rfl) (by kernel_rfl) (by kernel_rfl) (fun _ _ _ h => h) (Or.inl ⟨by kernel_rfl, ?yeg25⟩) (by with_reducible assumption) ?reg25
          case yeg25 => (intro w hSw; (try dsimp only at hSw); go_simp; (try with_reducible rfl))
          simp only [Act.put]
          refine wpAnyZ_take (i := 26) (v := ?veg26) rfl (by kernel_rfl) (by kernel_rfl) (by kernel_rfl) (by kernel_rfl) (fun _ _ _ h => h) (Or.inl ⟨by kernel_rfl, ?yeg26⟩) (by with_reducible assumption) ?reg26
          case yeg26 => (intro w hSw; (try dsimp only at hSw); go_simp; (try with_reducible rfl))
          simp only [Act.put]
          refine wpAnyZ_take (i := 27) (v := ?veg27) rfl (by kernel_rfl) (by kernel_rfl) (by kernel_rfl) (by kernel_rfl) (fun _ _ _ h => h) (Or.inl ⟨by kernel_rfl, ?yeg27⟩) (by with_reducible assumption) ?reg27
          case yeg27 => (intro w hSw; (try dsimp only at hSw); go_simp; (try with_reducible rfl))
          simp only [Act.put]
          refine wpAnyZ_take (i := 28) (v := ?veg28) rfl (by kernel_rfl) (by kernel_rfl) (by kernel_rfl) (by kernel_rfl) (fun _ _ _ h => h) (Or.inl ⟨by kernel_rfl, ?yeg28⟩) (by with_reducible assumption) ?reg28
          case yeg28 => (intro w hSw; (try dsimp only at hSw); go_simp; (try with_reducible rfl))
          simp only [Act.put]
          refine wpAnyZ_step (i := 29) (by kernel_rfl) rfl ?_
          intro K29 hK29
          go_simp
          refine (l4In_any _ _ _ _ ze true _ (HY.out.below hS.1.out) HBE.out).mono ?_
          rintro e w4 ⟨rfl, rfl⟩
          refine hK29.out _ _ hS (fun hS3 => ?_)
          clear hK29 hS3
          (try simp only [Act.put])
          refine wpAnyZ_take (i := 30) (v := ?veh30) rfl (by kernel_rfl) (by kernel_rfl) (by kernel_rfl) (by kernel_rfl) (fun _ _ _ h => h) (Or.inl ⟨by kernel_rfl, ?yeh30⟩) (by with_reducible assumption) ?reh30
          case yeh30 => (intro w hSw; (try dsimp only at hSw); go_simp; (try with_reducible rfl))
          simp only [Act.put]
          refine wpAnyZ_last (i := 31) (by kernel_rfl) rfl (by kernel_rfl) ?_
          intro K31 hK31
          go_simp
          refine hK31.out _ _ ?_
          clear hK31
          clear i0 i0n ie ien hwl heq
          have B3 := Lib.hid hS.1.out
          clear hS
          go_wp2_with fail
          go_loopw [7, 46] (fun v i wr => ∃ (k : Nat) (a : Int), k ≤ l.size ∧ v = .int .i64 a ∧ i = .int .i64 k ∧ Hid (runF (stP (costAt ss) l zs) k = some a) ∧ Hid (Below w1.heap.size w1 wr)) (fun _ i _ => l.size - (intOf i).toNat)
          case atStart => exact ⟨0, 0, Nat.zero_le _, rfl, rfl, rfl, B3⟩
          case round =>
            obtain ⟨k, a, hk, rfl, rfl, ha, hbw⟩ := hrel
            by_cases hlt : k < l.size
            · obtain ⟨ch, hcc⟩ : ∃ c, l[k]'hlt = c := ⟨_, rfl⟩
              obtain ⟨k1, hk1⟩ : ∃ k1, k1 = k + 1 := ⟨_, rfl⟩
              have hkz : k < zs.length := by rw [HLEN.out]; omega
              have hkz1 : k1 < zs.length := by rw [HLEN.out]; omega
              obtain ⟨_, _, q0, he, _, hq0, _, hg0⟩ := HZ.out.at_ (k := k) hkz
              cases he
              obtain ⟨_, _, q1, he, _, hq1, _, hg1⟩ := HZ.out.at_ (k := k1) hkz1
              cases he
              have hst : stP (costAt ss) l zs k = costAt ss q0 (ltr ch) q1 := by
                unfold stP
                rw [hg0, ← hk1, hg1, letter_at hlt, hcc]
              have hex : l.extract k k1 = ltr ch := by rw [hk1, ext_one hlt, hcc]
              obtain ⟨ha0, ha3⟩ := runF_in (fun k c h => by have := costAt_in HSI.out h; omega) ha.out
              have HST := Lib.hid hst
              have HEX := Lib.hid hex
              have HQ0 := Lib.hid hq0
              have HQ1 := Lib.hid hq1
              have HK1 := Lib.hid hk1
              have i0 : (0 : Int) ≤ (k : Int) := by omega
              have i1 : (k : Int) < (l.size : Int) := by omega
              have a3 := (K0.out.below hbw.out (Blk.lt K0.out)).cell 3
              simp at a3
              clear hst hex hq0 hq1 hk1 hg0 hg1 hcc
              go_wp2_with fail
              go_loopw [7, 9, 52] (fun v f j wi => ∃ (jn : Nat) (a' : Int) (fd : Bool), jn ≤ ss.length ∧ v = .int .i64 a' ∧ f = .bool fd ∧ j = .int .i64 jn ∧ Hid (costAt (ss.take jn) q0 (ltr ch) q1 = if fd then some (a' - a) else none) ∧ (fd = false → a' = a) ∧ Hid (Below w1.heap.size w1 wi)) (fun _ _ j _ => ss.length - (intOf j).toNat)
              case atStart => exact ⟨0, a, false, Nat.zero_le _, rfl, rfl, rfl, rfl, fun _ => rfl, hbw⟩
              case round =>
                clear hbw a3
                obtain ⟨jn, a', fd, hj, rfl, rfl, rfl, hca, hfa, hbi⟩ := hrel
                by_cases hjt : jn < ss.length
                · obtain ⟨sb, so, s, rfl, hsb, hat, hsz, hd, hg⟩ := HS.out.at_ hjt
                  obtain ⟨x0, x1, x2, x3⟩ := hat.below hbi.out hsb
                  have hmem : s ∈ ss := by
                    have e : ss[jn] = s := by rw [List.getD_eq_getElem?_getD, List.getElem?_eq_getElem hjt] at hg; exact hg
                    rw [← e]; exact List.getElem_mem _
                  obtain ⟨sc, hsc, hsc3⟩ : ∃ c : Nat, s.co = (c : Int) ∧ c ≤ 3 := by
                    obtain ⟨_, _, c, _, _, _, _, h1, h2, _⟩ := stepOk_in (HSI.out s hmem)
                    exact ⟨c, h1, h2⟩
                  have HG := Lib.hid hg
                  have HSC := Lib.hid hsc
                  have BW := Lib.hid (below_al hbi.out (Nat.le_refl _) (.cells #[.int .i64 s.fr, .string s.le, .int .i64 s.to_, .int .i64 s.co] 81))
                  have V1 := Lib.hid (Blk.new wr 81 #[.int .i64 s.fr, .string s.le, .int .i64 s.to_, .int .i64 s.co])
                  have j0 : (0 : Int) ≤ (jn : Int) := by omega
                  have j1 : (jn : Int) < (ss.length : Int) := by omega
                  clear hmem hat hd hg hbi hsc
                  obtain ⟨W, hW⟩ : ∃ W, W = wr.alloc (.cells #[.int .i64 s.fr, .string s.le, .int .i64 s.to_, .int .i64 s.co] 81) := ⟨_, rfl⟩
                  obtain ⟨V, hV⟩ : ∃ V, V = wr.heap.size := ⟨_, rfl⟩
                  have HWE := Lib.hid hW
                  have HVE := Lib.hid hV
                  rw [← hW] at BW V1
                  rw [← hV] at V1
                  clear hW hV
                  go_upto_region 11 with fail
                  rw [← HVE.out, ← HWE.out]
                  clear HVE HWE x0 x1 x2 x3 j0 j1
                  go_cut [82] (fun c wx => c = .bool (decide (q0 = s.fr ∧ (ltr ch).data = s.le.data ∧ q1 = s.to_)) ∧ Hid (Below w1.heap.size w1 wx) ∧ Hid (Blk wx V 81 #[.int .i64 s.fr, .string s.le, .int .i64 s.to_, .int .i64 s.co]))
                  case first =>
                    have hx0 := (BW.out.cell (p := ⟨zb, zo + k, none⟩) hzb).trans HQ0.out
                    have hx1 := (BW.out.cell (p := ⟨zb, zo + k1, none⟩) hzb).trans HQ1.out
                    have hS0 : W.drew.cell? ⟨V, 0, none⟩ = some (.int .i64 s.fr) ∧ W.drew.cell? ⟨V, 1, none⟩ = some (.string s.le) ∧ W.drew.cell? ⟨V, 2, none⟩ = some (.int .i64 s.to_) ∧ W.drew.cell? ⟨zb, zo + k, none⟩ = some (.int .i64 q0) ∧ W.drew.cell? ⟨zb, zo + k1, none⟩ = some (.int .i64 q1) := ⟨V1.out.cell 0, V1.out.cell 1, V1.out.cell 2, hx0, hx1⟩
                    have hex := HEX.out
                    have l0 : (k : Int) < (zs.length : Int) := by omega
                    have l1 : (k1 : Int) < (zs.length : Int) := by omega
                    have l2 : (0 : Int) ≤ (k1 : Int) := by omega
                    have hk1 := HK1.out
                    have l3 : (k1 : Int) ≤ (l.size : Int) := by omega
                    have l4 : (k : Int) ≤ (k1 : Int) := by omega
                    have hwk : IntKind.i64.wrap ((k : Int) + 1) = (k1 : Int) := by rw [show ((k : Int) + 1) = (k1 : Int) by omega]; exact IntWalk.i64_in _ (by omega)
                    have V2 : Hid (Blk W.drew V 81 #[.int .i64 s.fr, .string s.le, .int .i64 s.to_, .int .i64 s.co]) := V1.out
                    have BW2 := Lib.hid BW.out.drew
                    clear hx0 hx1 hk1 V1 BW
                    by_cases e0 : s.fr = q0
                    · have h0 : (s.fr == q0) = true := by rw [e0]; simp
                      by_cases e1 : s.le = ltr ch
                      · have h1 : (s.le.toList == (ltr ch).toList) = true := by rw [e1]; simp
                        obtain ⟨bt, hbt⟩ : ∃ b, (s.to_ == q1) = b := ⟨_, rfl⟩
                        have hd : decide (q0 = s.fr ∧ (ltr ch).data = s.le.data ∧ q1 = s.to_) = bt := by
                          rw [← hbt, e0, e1]; simp [eq_comm, Bool.beq_eq_decide_eq]
                        have HD := Lib.hid hd
                        clear e0 e1 hd
                        refine wp_region_Z (S := fun w' => w'.cell? ⟨V, 0, none⟩ = some (.int .i64 s.fr) ∧ w'.cell? ⟨V, 1, none⟩ = some (.string s.le) ∧ w'.cell? ⟨V, 2, none⟩ = some (.int .i64 s.to_) ∧ w'.cell? ⟨zb, zo + k, none⟩ = some (.int .i64 q0) ∧ w'.cell? ⟨zb, zo + k1, none⟩ = some (.int .i64 q1)) (by kernel_rfl) hS0 (fun hS => ?_)
                        clear hS0
                        refine wpAnyZ_take (i := 0) (v := ?vfa0) rfl (by kernel_rfl) (by kernel_rfl) (by kernel_rfl) (by kernel_rfl) (fun _ _ _ h => h) (Or.inl ⟨by rfl, ?yfa0⟩) (by with_reducible assumption) ?rfa0
                        case yfa0 => (intro w hSw; (try dsimp only at hSw); go_simp; (try with_reducible rfl))
                        simp only [Act.put, List.setIfInBounds_toArray]
                        refine wpAnyZ_take (i := 1) (v := ?vfa1) rfl (by kernel_rfl) (by kernel_rfl) (by kernel_rfl) (by kernel_rfl) (fun _ _ _ h => h) (Or.inl ⟨by rfl, ?yfa1⟩) (by with_reducible assumption) ?rfa1
                        case yfa1 => (intro w hSw; (try dsimp only at hSw); go_simp; (try with_reducible rfl))
                        simp only [Act.put]
                        refine wpAnyZ_take (i := 2) (v := ?vfa2) rfl (by kernel_rfl) (by kernel_rfl) (by kernel_rfl) (by kernel_rfl) (fun _ _ _ h => h) (Or.inl ⟨by rfl, ?yfa2⟩) (by with_reducible assumption) ?rfa2
                        case yfa2 => (intro w hSw; (try dsimp only at hSw); go_simp; (try with_reducible rfl))
                        simp only [Act.put]
                        refine wpAnyZ_take (i := 3) (v := ?vfa3) rfl (by kernel_rfl) (by kernel_rfl) (by kernel_rfl) (by kernel_rfl) (fun _ _ _ h => h) (Or.inl ⟨by rfl, ?yfa3⟩) (by with_reducible assumption) ?rfa3
                        case yfa3 => (intro w hSw; (try dsimp only at hSw); go_simp; (try with_reducible rfl))
                        simp only [Act.put]
                        refine wpAnyZ_take (i := 4) (v := ?vfa4) rfl (by kernel_rfl) (by kernel_rfl) (by kernel_rfl) (by kernel_rfl) (fun _ _ _ h => h) (Or.inl ⟨by rfl, ?yfa4⟩) (by with_reducible assumption) ?rfa4
                        case yfa4 => (intro w hSw; (try dsimp only at hSw); go_simp; (try with_reducible rfl))
                        simp only [Act.put]
                        refine wpAnyZ_take (i := 5) (v := ?vfa5) rfl (by kernel_rfl) (by kernel_rfl) (by kernel_rfl) (by kernel_rfl) (fun _ _ _ h => h) (Or.inl ⟨by rfl, ?yfa5⟩) (by with_reducible assumption) ?rfa5
                        case yfa5 => (intro w hSw; (try dsimp only at hSw); go_simp; (try with_reducible rfl))
                        simp only [Act.put]
                        refine wpAnyZ_take (i := 6) (v := ?vfa6) rfl (by kernel_rfl) (by kernel_rfl) (by kernel_rfl) (by kernel_rfl) (fun _ _ _ h => h) (Or.inl ⟨by rfl, ?yfa6⟩) (by with_reducible assumption) ?rfa6
                        case yfa6 => (intro w hSw; (try dsimp only at hSw); go_simp; (try with_reducible rfl))
                        simp only [Act.put]
                        refine wpAnyZ_take (i := 7) (v := ?vfa7) rfl (by kernel_rfl) (by kernel_rfl) (by kernel_rfl) (by kernel_rfl) (fun _ _ _ h => h) (Or.inl ⟨by rfl, ?yfa7⟩) (by with_reducible assumption) ?rfa7
                        case yfa7 => (intro w hSw; (try dsimp only at hSw); go_simp; (try with_reducible rfl))
                        simp only [Act.put]
                        refine wpAnyZ_take (i := 8) (v := ?vfb8) rfl (by kernel_rfl) (by kernel_rfl) (by kernel_rfl) (by kernel_rfl) (fun _ _ _ h => h) (Or.inl ⟨by kernel_rfl, ?yfb8⟩) (by with_reducible assumption) ?rfb8
                        case yfb8 => (intro w hSw; (try dsimp only at hSw); go_simp; (try with_reducible rfl))
                        simp only [Act.put]
                        refine wpAnyZ_take (i := 9) (v := ?vfb9) rfl (by kernel_rfl) (by kernel_rfl) (by kernel_rfl) (by kernel_rfl) (fun _ _ _ h => h) (Or.inl ⟨by kernel_rfl, ?yfb9⟩) (by with_reducible assumption) ?rfb9
                        case yfb9 => (intro w hSw; (try dsimp only at hSw); go_simp; (try with_reducible rfl))
                        simp only [Act.put]
                        refine wpAnyZ_take (i := 10) (v := ?vfb10) rfl (by kernel_rfl) (by kernel_rfl) (by kernel_rfl) (by kernel_rfl) (fun _ _ _ h => h) (Or.inl ⟨by kernel_rfl, ?yfb10⟩) (by with_reducible assumption) ?rfb10
                        case yfb10 => (intro w hSw; (try dsimp only at hSw); go_simp; (try with_reducible rfl))
                        simp only [Act.put]
                        refine wpAnyZ_take (i := 11) (v := ?vfb11) rfl (by kernel_rfl) (by kernel_rfl) (by kernel_rfl) (by kernel_rfl) (fun _ _ _ h => h) (Or.inl ⟨by kernel_rfl, ?yfb11⟩) (by with_reducible assumption) ?rfb11
                        case yfb11 => (intro w hSw; (try dsimp only at hSw); go_simp; (try with_reducible rfl))
                        simp only [Act.put]
                        refine wpAnyZ_take (i := 12) (v := ?vfb12) rfl (by kernel_rfl) (by kernel_rfl) (by kernel_rfl) (by kernel_rfl) (fun _ _ _ h => h) (Or.inl ⟨by kernel_rfl, ?yfb12⟩) (by with_reducible assumption) ?rfb12
                        case yfb12 => (intro w hSw; (try dsimp only at hSw); go_simp; (try with_reducible rfl))
                        simp only [Act.put]
                        refine wpAnyZ_take (i := 13) (v := ?vfb13) rfl (by kernel_rfl) (by kernel_rfl) (by kernel_rfl) (by kernel_rfl) (fun _ _ _ h => h) (Or.inl ⟨by kernel_rfl, ?yfb13⟩) (by with_reducible assumption) ?rfb13
                        case yfb13 => (intro w hSw; (try dsimp only at hSw); go_simp; (try with_reducible rfl))
                        simp only [Act.put]
                        refine wpAnyZ_take (i := 14) (v := ?vfb14) rfl (by kernel_rfl) (by kernel_rfl) (by kernel_rfl) (by kernel_rfl) (fun _ _ _ h => h) (Or.inl ⟨by kernel_rfl, ?yfb14⟩) (by with_reducible assumption) ?rfb14
                        case yfb14 => (intro w hSw; (try dsimp only at hSw); go_simp; (try with_reducible rfl))
                        simp only [Act.put]
                        refine wpAnyZ_take (i := 15) (v := ?vfb15) rfl (by kernel_rfl) (by kernel_rfl) (by kernel_rfl) (by kernel_rfl) (fun _ _ _ h => h) (Or.inl ⟨by kernel_rfl, ?yfb15⟩) (by with_reducible assumption) ?rfb15
                        case yfb15 => (intro w hSw; (try dsimp only at hSw); go_simp; (try with_reducible rfl))
                        simp only [Act.put]
                        refine wpAnyZ_take (i := 16) (v := ?vfb16) rfl (by kernel_rfl) (by kernel_rfl) (by kernel_rfl) (by kernel_rfl) (fun _ _ _ h => h) (Or.inl ⟨by kernel_rfl, ?yfb16⟩) (by with_reducible assumption) ?rfb16
                        case yfb16 => (intro w hSw; (try dsimp only at hSw); go_simp; (try with_reducible rfl))
                        simp only [Act.put]
                        refine wpAnyZ_take (i := 17) (v := ?vfb17) rfl (by kernel_rfl) (by kernel_rfl) (by kernel_rfl) (by kernel_rfl) (fun _ _ _ h => h) (Or.inl ⟨by kernel_rfl, ?yfb17⟩) (by with_reducible assumption) ?rfb17
                        case yfb17 => (intro w hSw; (try dsimp only at hSw); go_simp; (try with_reducible rfl))
                        simp only [Act.put]
                        refine wpAnyZ_take (i := 18) (v := ?vfb18) rfl (by kernel_rfl) (by kernel_rfl) (by kernel_rfl) (by kernel_rfl) (fun _ _ _ h => h) (Or.inl ⟨by kernel_rfl, ?yfb18⟩) (by with_reducible assumption) ?rfb18
                        case yfb18 => (intro w hSw; (try dsimp only at hSw); go_simp; (try with_reducible rfl))
                        simp only [Act.put]
                        refine wpAnyZ_take (i := 19) (v := ?vfb19) rfl (by kernel_rfl) (by kernel_rfl) (by kernel_rfl) (by kernel_rfl) (fun _ _ _ h => h) (Or.inl ⟨by kernel_rfl, ?yfb19⟩) (by with_reducible assumption) ?rfb19
                        case yfb19 => (intro w hSw; (try dsimp only at hSw); go_simp; (try with_reducible rfl))
                        simp only [Act.put]
                        refine wpAnyZ_take (i := 20) (v := ?vfb20) rfl (by kernel_rfl) (by kernel_rfl) (by kernel_rfl) (by kernel_rfl) (fun _ _ _ h => h) (Or.inl ⟨by kernel_rfl, ?yfb20⟩) (by with_reducible assumption) ?rfb20
                        case yfb20 => (intro w hSw; (try dsimp only at hSw); go_simp; (try with_reducible rfl))
                        simp only [Act.put]
                        refine wpAnyZ_take (i := 21) (v := ?vfb21) rfl (by kernel_rfl) (by kernel_rfl) (by kernel_rfl) (by kernel_rfl) (fun _ _ _ h => h) (Or.inl ⟨by kernel_rfl, ?yfb21⟩) (by with_reducible assumption) ?rfb21
                        case yfb21 => (intro w hSw; (try dsimp only at hSw); go_simp; (try with_reducible rfl))
                        simp only [Act.put]
                        refine wpAnyZ_take (i := 22) (v := ?vfb22) rfl (by kernel_rfl) (by kernel_rfl) (by kernel_rfl) (by kernel_rfl) (fun _ _ _ h => h) (Or.inl ⟨by kernel_rfl, ?yfb22⟩) (by with_reducible assumption) ?rfb22
                        case yfb22 => (intro w hSw; (try dsimp only at hSw); go_simp; (try with_reducible rfl))
                        simp only [Act.put]
                        refine wpAnyZ_take (i := 23) (v := ?vfb23) rfl (by kernel_rfl) (by kernel_rfl) (by kernel_rfl) (by kernel_rfl) (fun _ _ _ h => h) (Or.inl ⟨by kernel_rfl, ?yfb23⟩) (by with_reducible assumption) ?rfb23
                        case yfb23 => (intro w hSw; (try dsimp only at hSw); go_simp; (try with_reducible rfl))
                        simp only [Act.put]
                        refine wpAnyZ_take (i := 24) (v := ?vfb24) rfl (by kernel_rfl) (by kernel_rfl) (by kernel_rfl) (by kernel_rfl) (fun _ _ _ h => h) (Or.inl ⟨by kernel_rfl, ?yfb24⟩) (by with_reducible assumption) ?rfb24
                        case yfb24 => (intro w hSw; (try dsimp only at hSw); go_simp; (try with_reducible rfl))
                        simp only [Act.put]
                        refine wpAnyZ_take (i := 25) (v := ?vfb25) rfl (by kernel_rfl) (by kernel_rfl) (by kernel_rfl) (by kernel_rfl) (fun _ _ _ h => h) (Or.inl ⟨by kernel_rfl, ?yfb25⟩) (by with_reducible assumption) ?rfb25
                        case yfb25 => (intro w hSw; (try dsimp only at hSw); go_simp; (try with_reducible rfl))
                        simp only [Act.put]
                        refine wpAnyZ_last (i := 26) (by kernel_rfl) rfl (by kernel_rfl) ?_
                        intro K26 hK26
                        go_simp
                        refine hK26.out _ _ ?_
                        clear hK26
                        go_wp2_with fail
                        go_meet
                        exact ⟨by rw [HD.out], BW2, V2⟩
                      · have h1 : (s.le.toList == (ltr ch).toList) = false := bytes_ne e1
                        have hd : decide (q0 = s.fr ∧ (ltr ch).data = s.le.data ∧ q1 = s.to_) = false := decide_eq_false (fun h => e1 (Go.WideShapes.bytes_inj (by rw [h.2.1])))
                        have HD := Lib.hid hd
                        clear e0 e1 hd
                        refine wp_region_Z (S := fun w' => w'.cell? ⟨V, 0, none⟩ = some (.int .i64 s.fr) ∧ w'.cell? ⟨V, 1, none⟩ = some (.string s.le) ∧ w'.cell? ⟨V, 2, none⟩ = some (.int .i64 s.to_) ∧ w'.cell? ⟨zb, zo + k, none⟩ = some (.int .i64 q0) ∧ w'.cell? ⟨zb, zo + k1, none⟩ = some (.int .i64 q1)) (by kernel_rfl) hS0 (fun hS => ?_)
                        clear hS0
                        refine wpAnyZ_take (i := 0) (v := ?vfc0) rfl (by kernel_rfl) (by kernel_rfl) (by kernel_rfl) (by kernel_rfl) (fun _ _ _ h => h) (Or.inl ⟨by rfl, ?yfc0⟩) (by with_reducible assumption) ?rfc0
                        case yfc0 => (intro w hSw; (try dsimp only at hSw); go_simp; (try with_reducible rfl))
                        simp only [Act.put, List.setIfInBounds_toArray]
                        refine wpAnyZ_take (i := 1) (v := ?vfc1) rfl (by kernel_rfl) (by kernel_rfl) (by kernel_rfl) (by kernel_rfl) (fun _ _ _ h => h) (Or.inl ⟨by rfl, ?yfc1⟩) (by with_reducible assumption) ?rfc1
                        case yfc1 => (intro w hSw; (try dsimp only at hSw); go_simp; (try with_reducible rfl))
                        simp only [Act.put]
                        refine wpAnyZ_take (i := 2) (v := ?vfc2) rfl (by kernel_rfl) (by kernel_rfl) (by kernel_rfl) (by kernel_rfl) (fun _ _ _ h => h) (Or.inl ⟨by rfl, ?yfc2⟩) (by with_reducible assumption) ?rfc2
                        case yfc2 => (intro w hSw; (try dsimp only at hSw); go_simp; (try with_reducible rfl))
                        simp only [Act.put]
                        refine wpAnyZ_take (i := 3) (v := ?vfc3) rfl (by kernel_rfl) (by kernel_rfl) (by kernel_rfl) (by kernel_rfl) (fun _ _ _ h => h) (Or.inl ⟨by rfl, ?yfc3⟩) (by with_reducible assumption) ?rfc3
                        case yfc3 => (intro w hSw; (try dsimp only at hSw); go_simp; (try with_reducible rfl))
                        simp only [Act.put]
                        refine wpAnyZ_take (i := 4) (v := ?vfc4) rfl (by kernel_rfl) (by kernel_rfl) (by kernel_rfl) (by kernel_rfl) (fun _ _ _ h => h) (Or.inl ⟨by rfl, ?yfc4⟩) (by with_reducible assumption) ?rfc4
                        case yfc4 => (intro w hSw; (try dsimp only at hSw); go_simp; (try with_reducible rfl))
                        simp only [Act.put]
                        refine wpAnyZ_take (i := 5) (v := ?vfc5) rfl (by kernel_rfl) (by kernel_rfl) (by kernel_rfl) (by kernel_rfl) (fun _ _ _ h => h) (Or.inl ⟨by rfl, ?yfc5⟩) (by with_reducible assumption) ?rfc5
                        case yfc5 => (intro w hSw; (try dsimp only at hSw); go_simp; (try with_reducible rfl))
                        simp only [Act.put]
                        refine wpAnyZ_take (i := 6) (v := ?vfc6) rfl (by kernel_rfl) (by kernel_rfl) (by kernel_rfl) (by kernel_rfl) (fun _ _ _ h => h) (Or.inl ⟨by rfl, ?yfc6⟩) (by with_reducible assumption) ?rfc6
                        case yfc6 => (intro w hSw; (try dsimp only at hSw); go_simp; (try with_reducible rfl))
                        simp only [Act.put]
                        refine wpAnyZ_take (i := 7) (v := ?vfc7) rfl (by kernel_rfl) (by kernel_rfl) (by kernel_rfl) (by kernel_rfl) (fun _ _ _ h => h) (Or.inl ⟨by rfl, ?yfc7⟩) (by with_reducible assumption) ?rfc7
                        case yfc7 => (intro w hSw; (try dsimp only at hSw); go_simp; (try with_reducible rfl))
                        simp only [Act.put]
                        refine wpAnyZ_take (i := 8) (v := ?vfd8) rfl (by kernel_rfl) (by kernel_rfl) (by kernel_rfl) (by kernel_rfl) (fun _ _ _ h => h) (Or.inl ⟨by kernel_rfl, ?yfd8⟩) (by with_reducible assumption) ?rfd8
                        case yfd8 => (intro w hSw; (try dsimp only at hSw); go_simp; (try with_reducible rfl))
                        simp only [Act.put]
                        refine wpAnyZ_take (i := 9) (v := ?vfd9) rfl (by kernel_rfl) (by kernel_rfl) (by kernel_rfl) (by kernel_rfl) (fun _ _ _ h => h) (Or.inl ⟨by kernel_rfl, ?yfd9⟩) (by with_reducible assumption) ?rfd9
                        case yfd9 => (intro w hSw; (try dsimp only at hSw); go_simp; (try with_reducible rfl))
                        simp only [Act.put]
                        refine wpAnyZ_take (i := 10) (v := ?vfd10) rfl (by kernel_rfl) (by kernel_rfl) (by kernel_rfl) (by kernel_rfl) (fun _ _ _ h => h) (Or.inl ⟨by kernel_rfl, ?yfd10⟩) (by with_reducible assumption) ?rfd10
                        case yfd10 => (intro w hSw; (try dsimp only at hSw); go_simp; (try with_reducible rfl))
                        simp only [Act.put]
                        refine wpAnyZ_take (i := 11) (v := ?vfd11) rfl (by kernel_rfl) (by kernel_rfl) (by kernel_rfl) (by kernel_rfl) (fun _ _ _ h => h) (Or.inl ⟨by kernel_rfl, ?yfd11⟩) (by with_reducible assumption) ?rfd11
                        case yfd11 => (intro w hSw; (try dsimp only at hSw); go_simp; (try with_reducible rfl))
                        simp only [Act.put]
                        refine wpAnyZ_take (i := 12) (v := ?vfd12) rfl (by kernel_rfl) (by kernel_rfl) (by kernel_rfl) (by kernel_rfl) (fun _ _ _ h => h) (Or.inl ⟨by kernel_rfl, ?yfd12⟩) (by with_reducible assumption) ?rfd12
                        case yfd12 => (intro w hSw; (try dsimp only at hSw); go_simp; (try with_reducible rfl))
                        simp only [Act.put]
                        refine wpAnyZ_take (i := 13) (v := ?vfd13) rfl (by kernel_rfl) (by kernel_rfl) (by kernel_rfl) (by kernel_rfl) (fun _ _ _ h => h) (Or.inl ⟨by kernel_rfl, ?yfd13⟩) (by with_reducible assumption) ?rfd13
                        case yfd13 => (intro w hSw; (try dsimp only at hSw); go_simp; (try with_reducible rfl))
                        simp only [Act.put]
                        refine wpAnyZ_take (i := 14) (v := ?vfd14) rfl (by kernel_rfl) (by kernel_rfl) (by kernel_rfl) (by kernel_rfl) (fun _ _ _ h => h) (Or.inl ⟨by kernel_rfl, ?yfd14⟩) (by with_reducible assumption) ?rfd14
                        case yfd14 => (intro w hSw; (try dsimp only at hSw); go_simp; (try with_reducible rfl))
                        simp only [Act.put]
                        refine wpAnyZ_take (i := 15) (v := ?vfd15) rfl (by kernel_rfl) (by kernel_rfl) (by kernel_rfl) (by kernel_rfl) (fun _ _ _ h => h) (Or.inl ⟨by kernel_rfl, ?yfd15⟩) (by with_reducible assumption) ?rfd15
                        case yfd15 => (intro w hSw; (try dsimp only at hSw); go_simp; (try with_reducible rfl))
                        simp only [Act.put]
                        refine wpAnyZ_take (i := 16) (v := ?vfd16) rfl (by kernel_rfl) (by kernel_rfl) (by kernel_rfl) (by kernel_rfl) (fun _ _ _ h => h) (Or.inl ⟨by kernel_rfl, ?yfd16⟩) (by with_reducible assumption) ?rfd16
                        case yfd16 => (intro w hSw; (try dsimp only at hSw); go_simp; (try with_reducible rfl))
                        simp only [Act.put]
                        refine wpAnyZ_take (i := 17) (v := ?vfd17) rfl (by kernel_rfl) (by kernel_rfl) (by kernel_rfl) (by kernel_rfl) (fun _ _ _ h => h) (Or.inl ⟨by kernel_rfl, ?yfd17⟩) (by with_reducible assumption) ?rfd17
                        case yfd17 => (intro w hSw; (try dsimp only at hSw); go_simp; (try with_reducible rfl))
                        simp only [Act.put]
                        refine wpAnyZ_take (i := 18) (v := undef) rfl (by kernel_rfl) (by kernel_rfl) (by kernel_rfl) (by kernel_rfl) (fun _ _ _ h => h) (Or.inr ⟨by kernel_rfl, rfl⟩) (by with_reducible assumption) ?rfe18
                        simp only [Act.put]
                        refine wpAnyZ_take (i := 19) (v := undef) rfl (by kernel_rfl) (by kernel_rfl) (by kernel_rfl) (by kernel_rfl) (fun _ _ _ h => h) (Or.inr ⟨by kernel_rfl, rfl⟩) (by with_reducible assumption) ?rfe19
                        simp only [Act.put]
                        refine wpAnyZ_take (i := 20) (v := undef) rfl (by kernel_rfl) (by kernel_rfl) (by kernel_rfl) (by kernel_rfl) (fun _ _ _ h => h) (Or.inr ⟨by kernel_rfl, rfl⟩) (by with_reducible assumption) ?rfe20
                        simp only [Act.put]
                        refine wpAnyZ_take (i := 21) (v := undef) rfl (by kernel_rfl) (by kernel_rfl) (by kernel_rfl) (by kernel_rfl) (fun _ _ _ h => h) (Or.inr ⟨by kernel_rfl, rfl⟩) (by with_reducible assumption) ?rfe21
                        simp only [Act.put]
                        refine wpAnyZ_take (i := 22) (v := undef) rfl (by kernel_rfl) (by kernel_rfl) (by kernel_rfl) (by kernel_rfl) (fun _ _ _ h => h) (Or.inr ⟨by kernel_rfl, rfl⟩) (by with_reducible assumption) ?rfe22
                        simp only [Act.put]
                        refine wpAnyZ_take (i := 23) (v := undef) rfl (by kernel_rfl) (by kernel_rfl) (by kernel_rfl) (by kernel_rfl) (fun _ _ _ h => h) (Or.inr ⟨by kernel_rfl, rfl⟩) (by with_reducible assumption) ?rfe23
                        simp only [Act.put]
                        refine wpAnyZ_take (i := 24) (v := undef) rfl (by kernel_rfl) (by kernel_rfl) (by kernel_rfl) (by kernel_rfl) (fun _ _ _ h => h) (Or.inr ⟨by kernel_rfl, rfl⟩) (by with_reducible assumption) ?rfe24
                        simp only [Act.put]
                        refine wpAnyZ_take (i := 25) (v := undef) rfl (by kernel_rfl) (by kernel_rfl) (by kernel_rfl) (by kernel_rfl) (fun _ _ _ h => h) (Or.inr ⟨by kernel_rfl, rfl⟩) (by with_reducible assumption) ?rfe25
                        simp only [Act.put]
                        refine wpAnyZ_last (i := 26) (by kernel_rfl) rfl (by kernel_rfl) ?_
                        intro K26 hK26
                        go_simp
                        refine hK26.out _ _ ?_
                        clear hK26
                        go_wp2_with fail
                        go_meet
                        exact ⟨by rw [HD.out], BW2, V2⟩
                    · have h0 : (s.fr == q0) = false := by rw [beq_eq_false_iff_ne]; exact e0
                      have hd : decide (q0 = s.fr ∧ (ltr ch).data = s.le.data ∧ q1 = s.to_) = false := decide_eq_false (fun h => e0 h.1.symm)
                      have HD := Lib.hid hd
                      clear e0 hd
                      refine wp_region_Z (S := fun w' => w'.cell? ⟨V, 0, none⟩ = some (.int .i64 s.fr) ∧ w'.cell? ⟨V, 1, none⟩ = some (.string s.le) ∧ w'.cell? ⟨V, 2, none⟩ = some (.int .i64 s.to_) ∧ w'.cell? ⟨zb, zo + k, none⟩ = some (.int .i64 q0) ∧ w'.cell? ⟨zb, zo + k1, none⟩ = some (.int .i64 q1)) (by kernel_rfl) hS0 (fun hS => ?_)
                      clear hS0
                      refine wpAnyZ_take (i := 0) (v := ?vff0) rfl (by kernel_rfl) (by kernel_rfl) (by kernel_rfl) (by kernel_rfl) (fun _ _ _ h => h) (Or.inl ⟨by rfl, ?yff0⟩) (by with_reducible assumption) ?rff0
                      case yff0 => (intro w hSw; (try dsimp only at hSw); go_simp; (try with_reducible rfl))
                      simp only [Act.put, List.setIfInBounds_toArray]
                      refine wpAnyZ_take (i := 1) (v := ?vff1) rfl (by kernel_rfl) (by kernel_rfl) (by kernel_rfl) (by kernel_rfl) (fun _ _ _ h => h) (Or.inl ⟨by rfl, ?yff1⟩) (by with_reducible assumption) ?rff1
                      case yff1 => (intro w hSw; (try dsimp only at hSw); go_simp; (try with_reducible rfl))
                      simp only [Act.put]
                      refine wpAnyZ_take (i := 2) (v := ?vff2) rfl (by kernel_rfl) (by kernel_rfl) (by kernel_rfl) (by kernel_rfl) (fun _ _ _ h => h) (Or.inl ⟨by rfl, ?yff2⟩) (by with_reducible assumption) ?rff2
                      case yff2 => (intro w hSw; (try dsimp only at hSw); go_simp; (try with_reducible rfl))
                      simp only [Act.put]
                      refine wpAnyZ_take (i := 3) (v := ?vff3) rfl (by kernel_rfl) (by kernel_rfl) (by kernel_rfl) (by kernel_rfl) (fun _ _ _ h => h) (Or.inl ⟨by rfl, ?yff3⟩) (by with_reducible assumption) ?rff3
                      case yff3 => (intro w hSw; (try dsimp only at hSw); go_simp; (try with_reducible rfl))
                      simp only [Act.put]
                      refine wpAnyZ_take (i := 4) (v := ?vff4) rfl (by kernel_rfl) (by kernel_rfl) (by kernel_rfl) (by kernel_rfl) (fun _ _ _ h => h) (Or.inl ⟨by rfl, ?yff4⟩) (by with_reducible assumption) ?rff4
                      case yff4 => (intro w hSw; (try dsimp only at hSw); go_simp; (try with_reducible rfl))
                      simp only [Act.put]
                      refine wpAnyZ_take (i := 5) (v := ?vff5) rfl (by kernel_rfl) (by kernel_rfl) (by kernel_rfl) (by kernel_rfl) (fun _ _ _ h => h) (Or.inl ⟨by rfl, ?yff5⟩) (by with_reducible assumption) ?rff5
                      case yff5 => (intro w hSw; (try dsimp only at hSw); go_simp; (try with_reducible rfl))
                      simp only [Act.put]
                      refine wpAnyZ_take (i := 6) (v := ?vff6) rfl (by kernel_rfl) (by kernel_rfl) (by kernel_rfl) (by kernel_rfl) (fun _ _ _ h => h) (Or.inl ⟨by rfl, ?yff6⟩) (by with_reducible assumption) ?rff6
                      case yff6 => (intro w hSw; (try dsimp only at hSw); go_simp; (try with_reducible rfl))
                      simp only [Act.put]
                      refine wpAnyZ_take (i := 7) (v := ?vff7) rfl (by kernel_rfl) (by kernel_rfl) (by kernel_rfl) (by kernel_rfl) (fun _ _ _ h => h) (Or.inl ⟨by rfl, ?yff7⟩) (by with_reducible assumption) ?rff7
                      case yff7 => (intro w hSw; (try dsimp only at hSw); go_simp; (try with_reducible rfl))
                      simp only [Act.put]
                      refine wpAnyZ_take (i := 8) (v := undef) rfl (by kernel_rfl) (by kernel_rfl) (by kernel_rfl) (by kernel_rfl) (fun _ _ _ h => h) (Or.inr ⟨by kernel_rfl, rfl⟩) (by with_reducible assumption) ?rfg8
                      simp only [Act.put]
                      refine wpAnyZ_take (i := 9) (v := undef) rfl (by kernel_rfl) (by kernel_rfl) (by kernel_rfl) (by kernel_rfl) (fun _ _ _ h => h) (Or.inr ⟨by kernel_rfl, rfl⟩) (by with_reducible assumption) ?rfg9
                      simp only [Act.put]
                      refine wpAnyZ_take (i := 10) (v := undef) rfl (by kernel_rfl) (by kernel_rfl) (by kernel_rfl) (by kernel_rfl) (fun _ _ _ h => h) (Or.inr ⟨by kernel_rfl, rfl⟩) (by with_reducible assumption) ?rfg10
                      simp only [Act.put]
                      refine wpAnyZ_take (i := 11) (v := undef) rfl (by kernel_rfl) (by kernel_rfl) (by kernel_rfl) (by kernel_rfl) (fun _ _ _ h => h) (Or.inr ⟨by kernel_rfl, rfl⟩) (by with_reducible assumption) ?rfg11
                      simp only [Act.put]
                      refine wpAnyZ_take (i := 12) (v := undef) rfl (by kernel_rfl) (by kernel_rfl) (by kernel_rfl) (by kernel_rfl) (fun _ _ _ h => h) (Or.inr ⟨by kernel_rfl, rfl⟩) (by with_reducible assumption) ?rfg12
                      simp only [Act.put]
                      refine wpAnyZ_take (i := 13) (v := undef) rfl (by kernel_rfl) (by kernel_rfl) (by kernel_rfl) (by kernel_rfl) (fun _ _ _ h => h) (Or.inr ⟨by kernel_rfl, rfl⟩) (by with_reducible assumption) ?rfg13
                      simp only [Act.put]
                      refine wpAnyZ_take (i := 14) (v := undef) rfl (by kernel_rfl) (by kernel_rfl) (by kernel_rfl) (by kernel_rfl) (fun _ _ _ h => h) (Or.inr ⟨by kernel_rfl, rfl⟩) (by with_reducible assumption) ?rfg14
                      simp only [Act.put]
                      refine wpAnyZ_take (i := 15) (v := undef) rfl (by kernel_rfl) (by kernel_rfl) (by kernel_rfl) (by kernel_rfl) (fun _ _ _ h => h) (Or.inr ⟨by kernel_rfl, rfl⟩) (by with_reducible assumption) ?rfg15
                      simp only [Act.put]
                      refine wpAnyZ_take (i := 16) (v := ?vfh16) rfl (by kernel_rfl) (by kernel_rfl) (by kernel_rfl) (by kernel_rfl) (fun _ _ _ h => h) (Or.inl ⟨by kernel_rfl, ?yfh16⟩) (by with_reducible assumption) ?rfh16
                      case yfh16 => (intro w hSw; (try dsimp only at hSw); go_simp; (try with_reducible rfl))
                      simp only [Act.put]
                      refine wpAnyZ_take (i := 17) (v := ?vfh17) rfl (by kernel_rfl) (by kernel_rfl) (by kernel_rfl) (by kernel_rfl) (fun _ _ _ h => h) (Or.inl ⟨by kernel_rfl, ?yfh17⟩) (by with_reducible assumption) ?rfh17
                      case yfh17 => (intro w hSw; (try dsimp only at hSw); go_simp; (try with_reducible rfl))
                      simp only [Act.put]
                      refine wpAnyZ_take (i := 18) (v := undef) rfl (by kernel_rfl) (by kernel_rfl) (by kernel_rfl) (by kernel_rfl) (fun _ _ _ h => h) (Or.inr ⟨by kernel_rfl, rfl⟩) (by with_reducible assumption) ?rfi18
                      simp only [Act.put]
                      refine wpAnyZ_take (i := 19) (v := undef) rfl (by kernel_rfl) (by kernel_rfl) (by kernel_rfl) (by kernel_rfl) (fun _ _ _ h => h) (Or.inr ⟨by kernel_rfl, rfl⟩) (by with_reducible assumption) ?rfi19
                      simp only [Act.put]
                      refine wpAnyZ_take (i := 20) (v := undef) rfl (by kernel_rfl) (by kernel_rfl) (by kernel_rfl) (by kernel_rfl) (fun _ _ _ h => h) (Or.inr ⟨by kernel_rfl, rfl⟩) (by with_reducible assumption) ?rfi20
                      simp only [Act.put]
                      refine wpAnyZ_take (i := 21) (v := undef) rfl (by kernel_rfl) (by kernel_rfl) (by kernel_rfl) (by kernel_rfl) (fun _ _ _ h => h) (Or.inr ⟨by kernel_rfl, rfl⟩) (by with_reducible assumption) ?rfi21
                      simp only [Act.put]
                      refine wpAnyZ_take (i := 22) (v := undef) rfl (by kernel_rfl) (by kernel_rfl) (by kernel_rfl) (by kernel_rfl) (fun _ _ _ h => h) (Or.inr ⟨by kernel_rfl, rfl⟩) (by with_reducible assumption) ?rfi22
                      simp only [Act.put]
                      refine wpAnyZ_take (i := 23) (v := undef) rfl (by kernel_rfl) (by kernel_rfl) (by kernel_rfl) (by kernel_rfl) (fun _ _ _ h => h) (Or.inr ⟨by kernel_rfl, rfl⟩) (by with_reducible assumption) ?rfi23
                      simp only [Act.put]
                      refine wpAnyZ_take (i := 24) (v := undef) rfl (by kernel_rfl) (by kernel_rfl) (by kernel_rfl) (by kernel_rfl) (fun _ _ _ h => h) (Or.inr ⟨by kernel_rfl, rfl⟩) (by with_reducible assumption) ?rfi24
                      simp only [Act.put]
                      refine wpAnyZ_take (i := 25) (v := undef) rfl (by kernel_rfl) (by kernel_rfl) (by kernel_rfl) (by kernel_rfl) (fun _ _ _ h => h) (Or.inr ⟨by kernel_rfl, rfl⟩) (by with_reducible assumption) ?rfi25
                      simp only [Act.put]
                      refine wpAnyZ_last (i := 26) (by kernel_rfl) rfl (by kernel_rfl) ?_
                      intro K26 hK26
                      go_simp
                      refine hK26.out _ _ ?_
                      clear hK26
                      go_wp2_with fail
                      go_meet
                      exact ⟨by rw [HD.out], BW2, V2⟩
                  case rest =>
                  obtain ⟨rfl, hbx, hvx⟩ := hcut
                  by_cases hh : q0 = s.fr ∧ (ltr ch).data = s.le.data ∧ q1 = s.to_
                  · have hle : ltr ch = s.le := Go.WideShapes.bytes_inj (by rw [hh.2.1])
                    have hfr : costAt (ss.take jn) q0 (ltr ch) q1 = none := by rw [hh.1, hle, hh.2.2]; exact costAt_fresh HPW.out hjt HG.out
                    have hN : costAt (ss.take (jn + 1)) q0 (ltr ch) q1 = some s.co := by rw [costAt_take hjt HG.out]; unfold updC; rw [if_pos hh]
                    cases fd
                    · obtain rfl := hfa rfl
                      have HN : Hid (costAt (ss.take (jn + 1)) q0 (ltr ch) q1 = if true then some (a' + s.co - a') else none) := by
                        show _ = _
                        rw [hN, show a' + s.co - a' = s.co by omega]; rfl
                      have hdt : decide (q0 = s.fr ∧ (ltr ch).data = s.le.data ∧ q1 = s.to_) = true := decide_eq_true hh
                      rw [hdt]
                      obtain ⟨v0, v1, v2, v3⟩ := four_cells hvx.out
                      have hwa : wrap64 (a' + s.co) = a' + s.co := by rw [HSC.out]; unfold wrap64; omega
                      clear hdt hh hle hfr hN hca hfa
                      go_wp2_with fail
                      go_roundw
                      case rel => exact ⟨jn + 1, a' + s.co, true, by omega, by rw [hwa], rfl, by go_num, HN, fun h => (by cases h), hbx⟩
                      case measure => simp [intOf]; omega
                    · have h := hca.out
                      rw [hfr] at h
                      cases h
                  · have HN : Hid (costAt (ss.take (jn + 1)) q0 (ltr ch) q1 = if fd then some (a' - a) else none) := by
                      show _ = _
                      rw [costAt_take hjt HG.out]; unfold updC; rw [if_neg hh]; exact hca.out
                    have hdt : decide (q0 = s.fr ∧ (ltr ch).data = s.le.data ∧ q1 = s.to_) = false := decide_eq_false hh
                    rw [hdt]
                    clear hdt hh hca
                    go_wp2_with fail
                    go_roundw
                    case rel => exact ⟨jn + 1, a', fd, by omega, rfl, rfl, by go_num, HN, hfa, hbx⟩
                    case measure => simp [intOf]; omega
                · have hjl : ss.take jn = ss := List.take_of_length_le (by omega)
                  have HC : Hid (costAt ss q0 (ltr ch) q1 = if fd then some (a' - a) else none) := by
                    show _ = _
                    rw [← hca.out, hjl]
                  have hb' := hbi
                  clear hca hjl
                  cases fd
                  · have er : o = none := by
                      rw [← HRO.out]
                      exact runF_gone (runF_none (by rw [HST.out, HC.out]; rfl)) _ (by omega)
                    subst er
                    obtain rfl : -1 = r := HR.out
                    go_wp2_with fail
                    go_ret
                    exact ⟨rfl, below_on' B0.out hbi.out⟩
                  · have HAN : Hid (runF (stP (costAt ss) l zs) (k + 1) = some a') := by
                      have h := runF_some ha.out (show stP (costAt ss) l zs k = some (a' - a) by rw [HST.out, HC.out]; rfl)
                      rw [show a + (a' - a) = a' by omega] at h
                      exact h
                    go_wp2_with fail
                    go_roundw
                    case rel => exact ⟨k + 1, a', by omega, rfl, by go_num, HAN, hbi⟩
                    case measure => simp [intOf]; omega
            · have hkl : k = l.size := by omega
              have er : o = some a := by rw [← HRO.out, ← hkl]; exact ha.out
              subst er
              obtain rfl : a = r := HR.out
              clear ha
              go_wp2_with fail
              go_ret
              exact ⟨rfl, below_on' B0.out hbw.out⟩
    · have e : o = none := by
        rw [← ho]; unfold runO; rw [if_neg (fun h => hlen h.1)]
      subst e
      obtain rfl : -1 = r := HR.out
      have hne : ((zs.length : Int) != ((l.size : Int) + 1)) = true := by rw [bne_iff_ne]; omega
      refine wp_region_Z (S := fun w' => Hid (Below w1.heap.size w1 w') ∧ w'.cell? ⟨w.heap.size, 0, none⟩ = some (.int .i64 n) ∧ w'.cell? ⟨w.heap.size, 1, none⟩ = some (.slice A1 xs.length c1) ∧ w'.cell? ⟨w.heap.size, 2, none⟩ = some (.slice A2 ys.length c2) ∧ w'.cell? ⟨w.heap.size, 3, none⟩ = some (.slice A3 ss.length c3)) (by kernel_rfl) hS0 (fun hS => ?_)
      clear hS0
      refine wpAnyZ_take (i := 0) (v := ?vba0) rfl (by kernel_rfl) (by kernel_rfl) (by kernel_rfl) (by kernel_rfl) (fun _ _ _ h => h) (Or.inl ⟨by rfl, ?yba0⟩) (by with_reducible assumption) ?rba0
      case yba0 => (intro w hSw; (try dsimp only at hSw); go_simp; (try with_reducible rfl))
      simp only [Act.put, List.setIfInBounds_toArray]
      refine wpAnyZ_take (i := 1) (v := ?vba1) rfl (by kernel_rfl) (by kernel_rfl) (by kernel_rfl) (by kernel_rfl) (fun _ _ _ h => h) (Or.inl ⟨by rfl, ?yba1⟩) (by with_reducible assumption) ?rba1
      case yba1 => (intro w hSw; (try dsimp only at hSw); go_simp; (try with_reducible rfl))
      simp only [Act.put]
      refine wpAnyZ_step (i := 2) (by kernel_rfl) rfl ?_
      intro K2 hK2
      go_simp
      refine (l4Asked_is _ _ _ _ _ _ _ _ _ _ _ true _ hl9 ((HX.out.below hS.1.out).more hS.1.out.size) ((HY.out.below hS.1.out).more hS.1.out.size) (HS.out.on hS.1.out) HBB.out).mono ?_
      rintro e w3 ⟨rfl, hb3⟩
      have B3 := Lib.hid (below_on hS.1.out hb3.out)
      refine hK2.out _ _ (KM.out _ B3.out) (fun hS3 => ?_)
      clear hK2 hb3 hS B3
      have hS := hS3
      clear hS3
      (try simp only [Act.put])
      refine wpAnyZ_take (i := 3) (v := ?vbb3) rfl (by kernel_rfl) (by kernel_rfl) (by kernel_rfl) (by kernel_rfl) (fun _ _ _ h => h) (Or.inl ⟨by kernel_rfl, ?ybb3⟩) (by with_reducible assumption) ?rbb3
      case ybb3 => (intro w hSw; (try dsimp only at hSw); go_simp; (try with_reducible rfl))
      simp only [Act.put]
      refine wpAnyZ_take (i := 4) (v := ?vbb4) rfl (by kernel_rfl) (by kernel_rfl) (by kernel_rfl) (by kernel_rfl) (fun _ _ _ h => h) (Or.inl ⟨by kernel_rfl, ?ybb4⟩) (by with_reducible assumption) ?rbb4
      case ybb4 => (intro w hSw; (try dsimp only at hSw); go_simp; (try with_reducible rfl))
      simp only [Act.put]
      refine wpAnyZ_take (i := 5) (v := ?vbc5) rfl (by kernel_rfl) (by kernel_rfl) (by kernel_rfl) (by kernel_rfl) (fun _ _ _ h => h) (Or.inl ⟨by kernel_rfl, ?ybc5⟩) (by with_reducible assumption) ?rbc5
      case ybc5 => (intro w hSw; (try dsimp only at hSw); go_simp; (try with_reducible rfl))
      simp only [Act.put]
      refine wpAnyZ_take (i := 6) (v := ?vbc6) rfl (by kernel_rfl) (by kernel_rfl) (by kernel_rfl) (by kernel_rfl) (fun _ _ _ h => h) (Or.inl ⟨by kernel_rfl, ?ybc6⟩) (by with_reducible assumption) ?rbc6
      case ybc6 => (intro w hSw; (try dsimp only at hSw); go_simp; (try with_reducible rfl))
      simp only [Act.put]
      refine wpAnyZ_take (i := 7) (v := ?vbc7) rfl (by kernel_rfl) (by kernel_rfl) (by kernel_rfl) (by kernel_rfl) (fun _ _ _ h => h) (Or.inl ⟨by kernel_rfl, ?ybc7⟩) (by with_reducible assumption) ?rbc7
      case ybc7 => (intro w hSw; (try dsimp only at hSw); go_simp; (try with_reducible rfl))
      simp only [Act.put]
      refine wpAnyZ_take (i := 8) (v := ?vbc8) rfl (by kernel_rfl) (by kernel_rfl) (by kernel_rfl) (by kernel_rfl) (fun _ _ _ h => h) (Or.inl ⟨by kernel_rfl, ?ybc8⟩) (by with_reducible assumption) ?rbc8
      case ybc8 => (intro w hSw; (try dsimp only at hSw); go_simp; (try with_reducible rfl))
      simp only [Act.put]
      refine wpAnyZ_take (i := 9) (v := ?vbc9) rfl (by kernel_rfl) (by kernel_rfl) (by kernel_rfl) (by kernel_rfl) (fun _ _ _ h => h) (Or.inl ⟨by kernel_rfl, ?ybc9⟩) (by with_reducible assumption) ?rbc9
      case ybc9 => (intro w hSw; (try dsimp only at hSw); go_simp; (try with_reducible rfl))
      simp only [Act.put]
      refine wpAnyZ_take (i := 10) (v := ?vbc10) rfl (by kernel_rfl) (by kernel_rfl) (by kernel_rfl) (by kernel_rfl) (fun _ _ _ h => h) (Or.inl ⟨by kernel_rfl, ?ybc10⟩) (by with_reducible assumption) ?rbc10
      case ybc10 => (intro w hSw; (try dsimp only at hSw); go_simp; (try with_reducible rfl))
      simp only [Act.put]
      refine wpAnyZ_take (i := 11) (v := ?vbc11) rfl (by kernel_rfl) (by kernel_rfl) (by kernel_rfl) (by kernel_rfl) (fun _ _ _ h => h) (Or.inl ⟨by kernel_rfl, ?ybc11⟩) (by with_reducible assumption) ?rbc11
      case ybc11 => (intro w hSw; (try dsimp only at hSw); go_simp; (try with_reducible rfl))
      simp only [Act.put]
      refine wpAnyZ_take (i := 12) (v := ?vbc12) rfl (by kernel_rfl) (by kernel_rfl) (by kernel_rfl) (by kernel_rfl) (fun _ _ _ h => h) (Or.inl ⟨by kernel_rfl, ?ybc12⟩) (by with_reducible assumption) ?rbc12
      case ybc12 => (intro w hSw; (try dsimp only at hSw); go_simp; (try with_reducible rfl))
      simp only [Act.put]
      refine wpAnyZ_take (i := 13) (v := undef) rfl (by kernel_rfl) (by kernel_rfl) (by kernel_rfl) (by kernel_rfl) (fun _ _ _ h => h) (Or.inr ⟨by kernel_rfl, rfl⟩) (by with_reducible assumption) ?rbe13
      simp only [Act.put]
      refine wpAnyZ_take (i := 14) (v := undef) rfl (by kernel_rfl) (by kernel_rfl) (by kernel_rfl) (by kernel_rfl) (fun _ _ _ h => h) (Or.inr ⟨by kernel_rfl, rfl⟩) (by with_reducible assumption) ?rbe14
      simp only [Act.put]
      refine wpAnyZ_take (i := 15) (v := undef) rfl (by kernel_rfl) (by kernel_rfl) (by kernel_rfl) (by kernel_rfl) (fun _ _ _ h => h) (Or.inr ⟨by kernel_rfl, rfl⟩) (by with_reducible assumption) ?rbe15
      simp only [Act.put]
      refine wpAnyZ_take (i := 16) (v := undef) rfl (by kernel_rfl) (by kernel_rfl) (by kernel_rfl) (by kernel_rfl) (fun _ _ _ h => h) (Or.inr ⟨by kernel_rfl, rfl⟩) (by with_reducible assumption) ?rbe16
      simp only [Act.put]
      refine wpAnyZ_take (i := 17) (v := undef) rfl (by kernel_rfl) (by kernel_rfl) (by kernel_rfl) (by kernel_rfl) (fun _ _ _ h => h) (Or.inr ⟨by kernel_rfl, rfl⟩) (by with_reducible assumption) ?rbe17
      simp only [Act.put]
      refine wpAnyZ_take (i := 18) (v := undef) rfl (by kernel_rfl) (by kernel_rfl) (by kernel_rfl) (by kernel_rfl) (fun _ _ _ h => h) (Or.inr ⟨by kernel_rfl, rfl⟩) (by with_reducible assumption) ?rbe18
      simp only [Act.put]
      refine wpAnyZ_take (i := 19) (v := undef) rfl (by kernel_rfl) (by kernel_rfl) (by kernel_rfl) (by kernel_rfl) (fun _ _ _ h => h) (Or.inr ⟨by kernel_rfl, rfl⟩) (by with_reducible assumption) ?rbe19
      simp only [Act.put]
      refine wpAnyZ_take (i := 20) (v := ?vbf20) rfl (by kernel_rfl) (by kernel_rfl) (by kernel_rfl) (by kernel_rfl) (fun _ _ _ h => h) (Or.inl ⟨by kernel_rfl, ?ybf20⟩) (by with_reducible assumption) ?rbf20
      case ybf20 => (intro w hSw; (try dsimp only at hSw); go_simp; (try with_reducible rfl))
      simp only [Act.put]
      refine wpAnyZ_take (i := 21) (v := ?vbf21) rfl (by kernel_rfl) (by kernel_rfl) (by kernel_rfl) (by kernel_rfl) (fun _ _ _ h => h) (Or.inl ⟨by kernel_rfl, ?ybf21⟩) (by with_reducible assumption) ?rbf21
      case ybf21 => (intro w hSw; (try dsimp only at hSw); go_simp; (try with_reducible rfl))
      simp only [Act.put]
      refine wpAnyZ_take (i := 22) (v := undef) rfl (by kernel_rfl) (by kernel_rfl) (by kernel_rfl) (by kernel_rfl) (fun _ _ _ h => h) (Or.inr ⟨by kernel_rfl, rfl⟩) (by with_reducible assumption) ?rbg22
      simp only [Act.put]
      refine wpAnyZ_take (i := 23) (v := undef) rfl (by kernel_rfl) (by kernel_rfl) (by kernel_rfl) (by kernel_rfl) (fun _ _ _ h => h) (Or.inr ⟨by kernel_rfl, rfl⟩) (by with_reducible assumption) ?rbg23
      simp only [Act.put]
      refine wpAnyZ_take (i := 24) (v := undef) rfl (by kernel_rfl) (by kernel_rfl) (by kernel_rfl) (by kernel_rfl) (fun _ _ _ h => h) (Or.inr ⟨by kernel_rfl, rfl⟩) (by with_reducible assumption) ?rbg24
      simp only [Act.put]
      refine wpAnyZ_take (i := 25) (v := undef) rfl (by kernel_rfl) (by kernel_rfl) (by kernel_rfl) (by kernel_rfl) (fun _ _ _ h => h) (Or.inr ⟨by kernel_rfl, rfl⟩) (by with_reducible assumption) ?rbg25
      simp only [Act.put]
      refine wpAnyZ_take (i := 26) (v := undef) rfl (by kernel_rfl) (by kernel_rfl) (by kernel_rfl) (by kernel_rfl) (fun _ _ _ h => h) (Or.inr ⟨by kernel_rfl, rfl⟩) (by with_reducible assumption) ?rbg26
      simp only [Act.put]
      refine wpAnyZ_take (i := 27) (v := undef) rfl (by kernel_rfl) (by kernel_rfl) (by kernel_rfl) (by kernel_rfl) (fun _ _ _ h => h) (Or.inr ⟨by kernel_rfl, rfl⟩) (by with_reducible assumption) ?rbg27
      simp only [Act.put]
      refine wpAnyZ_take (i := 28) (v := undef) rfl (by kernel_rfl) (by kernel_rfl) (by kernel_rfl) (by kernel_rfl) (fun _ _ _ h => h) (Or.inr ⟨by kernel_rfl, rfl⟩) (by with_reducible assumption) ?rbg28
      simp only [Act.put]
      refine wpAnyZ_take (i := 29) (v := undef) rfl (by kernel_rfl) (by kernel_rfl) (by kernel_rfl) (by kernel_rfl) (fun _ _ _ h => h) (Or.inr ⟨by kernel_rfl, rfl⟩) (by with_reducible assumption) ?rbg29
      simp only [Act.put]
      refine wpAnyZ_take (i := 30) (v := undef) rfl (by kernel_rfl) (by kernel_rfl) (by kernel_rfl) (by kernel_rfl) (fun _ _ _ h => h) (Or.inr ⟨by kernel_rfl, rfl⟩) (by with_reducible assumption) ?rbg30
      simp only [Act.put]
      refine wpAnyZ_last (i := 31) (by kernel_rfl) rfl (by kernel_rfl) ?_
      intro K31 hK31
      go_simp
      refine hK31.out _ _ ?_
      clear hK31
      go_wp2_with fail
      go_ret
      exact ⟨rfl, below_on' B0.out hS.1.out⟩
end Go.Proofs.YthgkhpbfbilgmaaDoor
