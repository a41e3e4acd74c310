/- Short words: how many letters they have, and an automaton that is to read all of them as the program's machine, and whether both are valid. The program's iterator over all short words: what it owes a loop. Condition: at most seven letters. -/
import Derived.Test.YtlfffoglldobeaaMach2
import Derived.Test.YtlfffoglldobeaaWords
import Derived.Test.YtlfffoglldobeaaAlong
namespace Go.Proofs.Ytlfffoglldobeaa
open Go.RowKit
set_option maxHeartbeats 4000000
set_option maxRecDepth 100000
set_option linter.unusedVariables false

/-! How many letters short words have. -/
def shortOk (k : Int) : Bool := decide (0 ≤ k) && decide (k ≤ 7)
theorem shortOk_in {k : Int} (h : shortOk k = true) : ∃ n : Nat, k = n ∧ n ≤ 7 := by
  unfold shortOk at h
  simp only [Bool.and_eq_true, decide_eq_true_eq] at h
  exact ⟨k.toNat, by omega, by omega⟩
theorem shortOk_no {k : Int} (h : shortOk k = false) : k < 0 ∨ 7 < k := by
  unfold shortOk at h
  simp only [Bool.and_eq_false_iff, decide_eq_false_iff_not] at h
  omega

theorem shortValid_is (k : Int) (b : Bool) (w : World) (h : shortOk k = b) :
    Calls Try.prog 37 #[.int .i64 k] w fun e w' => e = .returned (.bool b) ∧ Hid (Below w.heap.size w w') := by
  have B0 := Lib.hid (Below.refl w.heap.size w)
  cases b
  · rcases shortOk_no h with h1 | h1
    · clear h
      go_enter Try.func37, Try.ntmps37
      go_wp2_with fail
      go_ret
      exact ⟨rfl, B0⟩
    · have h0 : 0 ≤ k := by omega
      have h2 : decide (k ≤ 7) = false := decide_eq_false (by omega)
      have H2 := Lib.hid h2
      clear h h2
      go_enter Try.func37, Try.ntmps37
      go_wp2_with fail
      go_ret
      exact ⟨by show Ending.returned (.bool (decide (k ≤ 7))) = _; rw [H2.out], B0⟩
  · obtain ⟨n, rfl, hn⟩ := shortOk_in h
    have h0 : (0 : Int) ≤ (n : Int) := by omega
    have h1 : (n : Int) ≤ 7 := by omega
    clear h
    go_enter Try.func37, Try.ntmps37
    go_wp2_with fail
    go_ret
    exact ⟨rfl, B0⟩

theorem shortReader_no (m : Int) (A1 A2 A3 : Option Addr) (c1 c2 c3 : Nat) (xs ys : List Int) (ss : List StepD) (k : Int) (w : World) (hx : Ints w w.heap.size A1 xs) (hy : Ints w w.heap.size A2 ys) (hs : SRow w w.heap.size A3 ss) (hok : (autoOk m xs ys ss && shortOk k) = false) :
    Calls Try.prog 21 #[.agg #[.int .i64 m, .slice A1 xs.length c1, .slice A2 ys.length c2, .slice A3 ss.length c3], .int .i64 k] w fun e w' => e = .returned (.tuple #[.agg #[.int .i64 0, .bool false, .bool false, .bool false, .bool false, .bool false, .bool false, .bool false, .bool false, .map none], .bool false]) ∧ Hid (Below w.heap.size w w') := by
  have HX0 := Lib.hid (ints_al (ints_al hx (.cells #[.int .i64 m, .slice A1 xs.length c1, .slice A2 ys.length c2, .slice A3 ss.length c3] 32)) (.cells #[.int .i64 0, .bool false, .bool false, .bool false, .bool false, .bool false, .bool false, .bool false, .bool false, .map none] 51))
  have HY0 := Lib.hid (ints_al (ints_al hy (.cells #[.int .i64 m, .slice A1 xs.length c1, .slice A2 ys.length c2, .slice A3 ss.length c3] 32)) (.cells #[.int .i64 0, .bool false, .bool false, .bool false, .bool false, .bool false, .bool false, .bool false, .bool false, .map none] 51))
  have HS := Lib.hid ((hs.al (.cells #[.int .i64 m, .slice A1 xs.length c1, .slice A2 ys.length c2, .slice A3 ss.length c3] 32)).al (.cells #[.int .i64 0, .bool false, .bool false, .bool false, .bool false, .bool false, .bool false, .bool false, .bool false, .map none] 51))
  clear hx hy hs
  obtain ⟨ok, hok'⟩ : ∃ b, autoOk m xs ys ss = b := ⟨_, rfl⟩
  rw [hok'] at hok
  have HOK := Lib.hid hok'
  have HWK := Lib.hid hok
  clear hok hok'
  cases ok
  · clear HWK
    go_enter Try.func21, Try.ntmps21
    go_wp2_with fail
    refine (machineOf_no _ _ _ _ _ _ _ _ _ _ _ HX0.out HY0.out HS.out HOK.out).mono ?_
    rintro e w1 ⟨rfl, hb1⟩
    have B1 := Lib.hid (below_on (below_a2 w _ _) hb1.out)
    have R1 : Hid (Blk w1 (w.heap.size + 1) 51 #[.int .i64 0, .bool false, .bool false, .bool false, .bool false, .bool false, .bool false, .bool false, .bool false, .map none]) := (blk_new (by simp)).below hb1.out (by simp)
    have hw1 := Blk.lt R1.out
    clear hb1 HX0 HY0 HS
    go_upto_region 3 with fail
    obtain ⟨w2, hw2⟩ : ∃ w2, w2 = w1.alloc (.cells #[.int .i64 0, .bool false, .bool false, .bool false, .bool false, .bool false, .bool false, .bool false, .bool false, .map none] 51) := ⟨_, rfl⟩
    have R2 : Hid (Blk w2 (w.heap.size + 1) 51 #[.int .i64 0, .bool false, .bool false, .bool false, .bool false, .bool false, .bool false, .bool false, .bool false, .map none]) := by rw [hw2]; exact R1.out.alloc _
    have B2 : Hid (Below w.heap.size w w2) := by rw [hw2]; exact below_al B1.out (Nat.le_refl _) _
    rw [← hw2]
    clear hw2 R1 B1 hw1
    obtain ⟨d0, d1, d2, d3, d4, d5, d6, d7, d8, d9⟩ := ten_cells R2.out
    obtain ⟨f0, f1, f2, f3, f4, f5, f6, f7, f8, f9⟩ := ten_frozen R2.out
    go_wp2_with fail
    have HF := ten_blk R2.out (.int .i64 0) (.bool false) (.bool false) (.bool false) (.bool false) (.bool false) (.bool false) (.bool false) (.bool false) (.map none)
    have HG := ten_grow w2 (w.heap.size + 1) (.int .i64 0) (.bool false) (.bool false) (.bool false) (.bool false) (.bool false) (.bool false) (.bool false) (.bool false) (.map none)
    refine bodyPost_ret (results_2 rfl (gives_mach (g := w.heap.size + 1) rfl HF) (Gives.tmp rfl)) rfl ?_
    exact ⟨rfl, B2.out.grown HG B2.out.size (fun j hj => by cases hj; omega)⟩
  · have HW : Hid (shortOk k = false) := by have h := HWK.out; rwa [Bool.true_and] at h
    clear HWK
    go_enter Try.func21, Try.ntmps21
    go_wp2_with fail
    refine (machineOf_ok _ _ _ _ _ _ _ _ _ _ _ HX0.out HY0.out HS.out HOK.out).mono ?_
    rintro e w1 ⟨M, rfl, hM, _, hb1⟩
    have B1 := Lib.hid (below_on (below_a2 w _ _) hb1.out)
    have R1 : Hid (Blk w1 (w.heap.size + 1) 51 #[.int .i64 0, .bool false, .bool false, .bool false, .bool false, .bool false, .bool false, .bool false, .bool false, .map none]) := (blk_new (by simp)).below hb1.out (by simp)
    have hw1 := Blk.lt R1.out
    clear hb1 HX0 HY0 HS hM
    go_wp2_with fail
    refine (shortValid_is _ false _ HW.out).mono ?_
    rintro e w2 ⟨rfl, hb2⟩
    have R2 := Lib.hid (blk_b (R1.out.alloc _) hb2.out)
    have B2 := Lib.hid (below_on (below_al B1.out (Nat.le_refl _) _) hb2.out)
    have hw2 := Blk.lt R2.out
    clear hb2 R1 B1 hw1
    obtain ⟨d0, d1, d2, d3, d4, d5, d6, d7, d8, d9⟩ := ten_cells R2.out
    obtain ⟨f0, f1, f2, f3, f4, f5, f6, f7, f8, f9⟩ := ten_frozen R2.out
    go_wp2_with fail
    have HF := ten_blk R2.out (.int .i64 0) (.bool false) (.bool false) (.bool false) (.bool false) (.bool false) (.bool false) (.bool false) (.bool false) (.map none)
    have HG := ten_grow w2 (w.heap.size + 1) (.int .i64 0) (.bool false) (.bool false) (.bool false) (.bool false) (.bool false) (.bool false) (.bool false) (.bool false) (.map none)
    refine bodyPost_ret (results_2 rfl (gives_mach (g := w.heap.size + 1) rfl HF) (Gives.tmp rfl)) rfl ?_
    exact ⟨rfl, B2.out.grown HG B2.out.size (fun j hj => by cases hj; omega)⟩

theorem shortReader_ok (m : Int) (A1 A2 A3 : Option Addr) (c1 c2 c3 : Nat) (xs ys : List Int) (ss : List StepD) (k : Int) (w : World) (hx : Ints w w.heap.size A1 xs) (hy : Ints w w.heap.size A2 ys) (hs : SRow w w.heap.size A3 ss) (hok : autoOk m xs ys ss = true) (hwk : shortOk k = true) :
    Calls Try.prog 21 #[.agg #[.int .i64 m, .slice A1 xs.length c1, .slice A2 ys.length c2, .slice A3 ss.length c3], .int .i64 k] w fun e w' => MachEnd m xs ys ss w e w' := by
  have HX0 := Lib.hid (ints_al (ints_al hx (.cells #[.int .i64 m, .slice A1 xs.length c1, .slice A2 ys.length c2, .slice A3 ss.length c3] 32)) (.cells #[.int .i64 0, .bool false, .bool false, .bool false, .bool false, .bool false, .bool false, .bool false, .bool false, .map none] 51))
  have HY0 := Lib.hid (ints_al (ints_al hy (.cells #[.int .i64 m, .slice A1 xs.length c1, .slice A2 ys.length c2, .slice A3 ss.length c3] 32)) (.cells #[.int .i64 0, .bool false, .bool false, .bool false, .bool false, .bool false, .bool false, .bool false, .bool false, .map none] 51))
  have HS := Lib.hid ((hs.al (.cells #[.int .i64 m, .slice A1 xs.length c1, .slice A2 ys.length c2, .slice A3 ss.length c3] 32)).al (.cells #[.int .i64 0, .bool false, .bool false, .bool false, .bool false, .bool false, .bool false, .bool false, .bool false, .map none] 51))
  have HOK := Lib.hid hok
  have HW := Lib.hid hwk
  clear hx hy hs hok hwk
  go_enter Try.func21, Try.ntmps21
  go_wp2_with fail
  refine (machineOf_ok _ _ _ _ _ _ _ _ _ _ _ HX0.out HY0.out HS.out HOK.out).mono ?_
  rintro e w1 ⟨M, rfl, hM, hmap, hb1⟩
  have B1 := Lib.hid (below_on (below_a2 w _ _) hb1.out)
  have R1 : Hid (Blk w1 (w.heap.size + 1) 51 #[.int .i64 0, .bool false, .bool false, .bool false, .bool false, .bool false, .bool false, .bool false, .bool false, .map none]) := (blk_new (by simp)).below hb1.out (by simp)
  have hMw : w.heap.size + 1 < M := by simp at hM; omega
  have hw1 := Blk.lt R1.out
  clear hb1 HX0 HY0 HS hM
  go_wp2_with fail
  refine (shortValid_is _ true _ HW.out).mono ?_
  rintro e w2 ⟨rfl, hb2⟩
  have R2 := Lib.hid (blk_b (R1.out.alloc (.cells #[.int .i64 m, .bool (hasB xs 0), .bool (hasB xs 1), .bool (hasB xs 2), .bool (hasB xs 3), .bool (hasB ys 0), .bool (hasB ys 1), .bool (hasB ys 2), .bool (hasB ys 3), .map (some M)] 51)) hb2.out)
  have B2 := Lib.hid (below_on (below_al B1.out (Nat.le_refl _) (.cells #[.int .i64 m, .bool (hasB xs 0), .bool (hasB xs 1), .bool (hasB xs 2), .bool (hasB xs 3), .bool (hasB ys 0), .bool (hasB ys 1), .bool (hasB ys 2), .bool (hasB ys 3), .map (some M)] 51)) hb2.out)
  have P2 := Lib.hid (blk_b (Blk.new w1 51 #[.int .i64 m, .bool (hasB xs 0), .bool (hasB xs 1), .bool (hasB xs 2), .bool (hasB xs 3), .bool (hasB ys 0), .bool (hasB ys 1), .bool (hasB ys 2), .bool (hasB ys 3), .map (some M)]) hb2.out)
  have C2 := Lib.hid ((hmap.out.kept (World.grownBy_alloc w1 (.cells #[.int .i64 m, .bool (hasB xs 0), .bool (hasB xs 1), .bool (hasB xs 2), .bool (hasB xs 3), .bool (hasB ys 0), .bool (hasB ys 1), .bool (hasB ys 2), .bool (hasB ys 3), .map (some M)] 51) none) (by simp)).below hb2.out)
  have hw2 := Blk.lt R2.out
  have hne : ¬ w1.heap.size = w.heap.size + 1 := by omega
  obtain ⟨P, hP⟩ : ∃ P, P = w1.heap.size := ⟨_, rfl⟩
  rw [← hP] at P2 hne ⊢
  clear hb2 R1 B1 hw1 hmap hP
  obtain ⟨p0, p1, p2, p3, p4, p5, p6, p7, p8, p9⟩ := ten_cells P2.out
  obtain ⟨d0, d1, d2, d3, d4, d5, d6, d7, d8, d9⟩ := ten_cells R2.out
  obtain ⟨f0, f1, f2, f3, f4, f5, f6, f7, f8, f9⟩ := ten_frozen R2.out
  go_wp2_with fail
  have HF := ten_blk R2.out (.int .i64 m) (.bool (hasB xs 0)) (.bool (hasB xs 1)) (.bool (hasB xs 2)) (.bool (hasB xs 3)) (.bool (hasB ys 0)) (.bool (hasB ys 1)) (.bool (hasB ys 2)) (.bool (hasB ys 3)) (.map (some M))
  have HG := ten_grow w2 (w.heap.size + 1) (.int .i64 m) (.bool (hasB xs 0)) (.bool (hasB xs 1)) (.bool (hasB xs 2)) (.bool (hasB xs 3)) (.bool (hasB ys 0)) (.bool (hasB ys 1)) (.bool (hasB ys 2)) (.bool (hasB ys 3)) (.map (some M))
  refine bodyPost_ret (results_2 rfl (gives_mach (g := w.heap.size + 1) rfl HF) (Gives.tmp rfl)) rfl ?_
  exact ⟨M, rfl, by omega, Lib.hid (C2.out.kept HG (by intro e; cases e; omega)), Lib.hid (B2.out.grown HG B2.out.size (fun j hj => by cases hj; omega))⟩
end Go.Proofs.Ytlfffoglldobeaa
namespace Go.Proofs.Ytlfffoglldobeaa
open Go.RowKit Go.Shelf
attribute [local go_sem] Oper.semAt_some
set_option maxHeartbeats 4000000
set_option maxRecDepth 100000
set_option linter.unusedVariables false

theorem shortWords_any (n : Nat) (w : World) :
    Calls Try.prog 22 #[.int .i64 n] w fun e w' => e = .returned (.func (.func 38) #[] #[.pointer (some ⟨w.heap.size, 0, none⟩)]) ∧ w' = w.alloc (.cells #[.int .i64 n] 3) := by
  go_enter Try.func22, Try.ntmps22
  go_wp2_with fail
  go_ret
  exact ⟨rfl, rfl⟩

/-! The words as pairs: how many letters, which bits. -/
def wv (x : Nat × Nat) : ByteArray := wordB (min x.1 7) x.2
theorem wv_size (x : Nat × Nat) : (wv x).size ≤ 7 := by unfold wv; rw [wordB_size]; exact Nat.min_le_right _ _
theorem wv_ab (x : Nat × Nat) : (wv x).data.toList.all isAB = true := wordB_ab _ _
theorem wv_eq {k b : Nat} (h : k ≤ 7) : wv (k, b) = wordB k b := by unfold wv; rw [Nat.min_eq_left h]
def levelP (k m : Nat) : List (Nat × Nat) := (List.range m).map (fun b => (k, b))
theorem levelP_len (k m : Nat) : (levelP k m).length = m := by unfold levelP; simp
theorem levelP_snoc (k m : Nat) : levelP k (m + 1) = levelP k m ++ [(k, m)] := by unfold levelP; rw [List.range_succ, List.map_append]; rfl
def wordsP : Nat → List (Nat × Nat)
  | 0 => []
  | k + 1 => wordsP k ++ levelP k (2 ^ k)
theorem wordsP_succ (k : Nat) : wordsP (k + 1) = wordsP k ++ levelP k (2 ^ k) := rfl
theorem wordsP_len : ∀ k, (wordsP k).length + 1 = 2 ^ k
  | 0 => rfl
  | k + 1 => by unfold wordsP; rw [List.length_append, levelP_len, Nat.pow_succ]; have := wordsP_len k; omega
theorem wordsP_wv : ∀ k, k ≤ 8 → (wordsP k).map wv = wordsTo k
  | 0, _ => rfl
  | k + 1, h => by
    unfold wordsP wordsTo
    rw [List.map_append, wordsP_wv k (by omega)]
    unfold levelP levelW
    rw [List.map_map]
    congr 1
    exact List.map_congr_left fun b _ => wv_eq (by omega)

theorem words_seq (n nb m : Nat) (w : World) (hn : n ≤ 7) (hm : 2 ≤ m) (hnb : Blk w nb 3 #[.int .i64 n]) :
    SeqOwn Fence.wide m Try.prog 38 #[.pointer (some ⟨nb, 0, none⟩)] (fun x : Nat × Nat => #[.string (wv x)]) (fun j => j = nb) (fun vs => vs = wordsP (n + 1)) 256 w := by
  intro l J W hW hJ hN hY h0
  have A0 := Lib.hid (hnb.below hW (Blk.lt hnb))
  have h1 : 1 ≤ m := by omega
  have HJ := Lib.hid hJ
  have HN := Lib.hid hN
  have HY := Lib.hid hY
  have H0 := Lib.hid h0
  have a0 := A0.out.cell 0
  simp at a0
  have hnn : (n : Int) + 1 ≤ 8 := by omega
  clear hnb hW hJ hN hY h0
  refine callsIn_of_wp Try.func38 rfl trivial ?_ rfl
  simp only [Try.ntmps38, List.size_toArray, List.length_cons, List.length_nil, Nat.reduceAdd, Nat.reduceSub, Array.replicate_succ, Array.replicate_zero, List.push_toArray, List.append_toArray, List.nil_append, List.cons_append]
  gi_wp2_with fail
  gi_loopw [7] (fun i wr => ∃ k : Nat, k ≤ n + 1 ∧ i = .int .i64 k ∧ Hid (J [] (wordsP k) wr) ∧ Hid (Blk wr nb 3 #[.int .i64 n])) (fun i _ => n + 1 - (intOf i).toNat)
  case atStart => exact ⟨0, by omega, rfl, H0, A0⟩
  case round =>
    obtain ⟨k, hk, rfl, hj, ha⟩ := hrel
    by_cases hlt : k < n + 1
    · have hk1 : (k : Int) < (n : Int) + 1 := by omega
      obtain ⟨p, hp⟩ : ∃ p, p = 2 ^ k := ⟨_, rfl⟩
      have hp1 : p ≤ 128 := by
        rw [hp]
        exact Nat.pow_le_pow_right (by omega) (show k ≤ 7 by omega)
      have hpe : (2 : Int) ^ k = (p : Int) := by rw [hp, Int.natCast_pow]; rfl
      have HP := Lib.hid hp
      have HPE := Lib.hid hpe
      clear hp hpe
      gi_wp2_with fail
      rw [HPE.out, w64_nat (p := p) (by omega)]
      gi_loopw [12] (fun i wr => ∃ b : Nat, b ≤ p ∧ i = .int .i64 b ∧ Hid (J [] (wordsP k ++ levelP k b) wr) ∧ Hid (Blk wr nb 3 #[.int .i64 n])) (fun i _ => p - (intOf i).toNat)
      case atStart =>
        refine ⟨0, Nat.zero_le _, rfl, ?_, ha⟩
        show J [] (wordsP k ++ levelP k 0) _
        have e : levelP k 0 = [] := rfl
        rw [e, List.append_nil]
        exact hj.out
      case round =>
        obtain ⟨b, hb, rfl, hj2, ha2⟩ := hrel
        by_cases hbt : b < p
        · have hb1 : (b : Int) < (p : Int) := by omega
          have hb7 : b < 128 := by omega
          have hk7 : k ≤ 7 := by omega
          gi_wp2_with fail
          refine ⟨trivial, ?_⟩
          refine (callsIn_wide.2 (wordOf_any k b _ hk7 hb7)).mono ?_
          rintro e W1 ⟨rfl, hb1⟩
          have J1 := Lib.hid (HJ.out _ _ _ _ none hj2.out (grown_of_below hb1) (fun r e => by cases e))
          have A1 := Lib.hid (ha2.out.below hb1 (Blk.lt ha2.out))
          have hlen : (wordsP k ++ levelP k b).length < 256 := by
            rw [List.length_append, levelP_len]
            have := wordsP_len k
            rw [← HP.out] at this
            omega
          clear hj2 ha2 hb1
          gi_wp2_with fail
          obtain ⟨fn, tmps, assign, body, hy, hR⟩ := HY.out _ _ (k, b) _ J1.out hlen
          rw [wv_eq hk7] at hy
          rw [hy]
          gi_wp2_with fail
          refine hR.mono ?_
          rintro e W3 ⟨rfl, hJ3, hk3⟩
          have J3 : Hid (J [] (wordsP k ++ levelP k (b + 1)) W3) := by
            show J _ _ _
            rw [levelP_snoc, ← List.append_assoc]
            exact hJ3
          have A3 := Lib.hid (Blk.trans_ (hk3.2 nb (Or.inr rfl)) A1.out)
          clear hy hR hJ3 hk3 J1 A1 fn tmps assign body
          gi_wp2_with fail
          go_roundw
          case rel => exact ⟨b + 1, by omega, by go_num, J3, A3⟩
          case measure => simp [intOf]; omega
        · have hbp : b = p := by omega
          subst hbp
          gi_wp2_with fail
          go_roundw
          case rel =>
            refine ⟨k + 1, by omega, by go_num, ?_, ha2⟩
            show J [] (wordsP (k + 1)) _
            rw [wordsP_succ, ← HP.out]
            exact hj2.out
          case measure => simp [intOf]; omega
    · have hkn : k = n + 1 := by omega
      subst hkn
      gi_wp2_with fail
      go_end0
      exact ⟨⟨_, rfl⟩, [], _, rfl, hj.out⟩
end Go.Proofs.Ytlfffoglldobeaa
