/- Short words: how many letters they have, and an automaton that is to read all of them as the program's machine, and whether both are valid. The program's iterator over all short words: what it owes a loop. Condition: at most seven letters. The program's count of the short words that are accepted; nothing that was there changes. No condition. The program's costliest one of the short words that are accepted; nothing that was there changes. No condition. -/
import Derived.Test.YtfdbbopanankgaaDoorMach2
import Derived.Test.YtfdbbopanankgaaDoorWords
import Derived.Test.YtfdbbopanankgaaDoorAlong
namespace Go.Proofs.YtfdbbopanankgaaDoor
open Go.RowKit
set_option maxHeartbeats 4000000
set_option maxRecDepth 100000
set_option linter.unusedVariables false

/-! How many letters short words have. -/
def shortOk (k : Int) : Bool := decide (0 ≤ k) && decide (k ≤ 7)
theorem shortOk_in {k : Int} (h : shortOk k = true) : ∃ n : Nat, k = n ∧ n ≤ 7 := by
  unfold shortOk at h
  simp only [Bool.and_eq_true, decide_eq_true_eq] at h
  exact ⟨k.toNat, by omega, by omega⟩
theorem shortOk_no {k : Int} (h : shortOk k = false) : k < 0 ∨ 7 < k := by
  unfold shortOk at h
  simp only [Bool.and_eq_false_iff, decide_eq_false_iff_not] at h
  omega

theorem shortValid_is (k : Int) (b : Bool) (w : World) (h : shortOk k = b) :
    Calls Tryd.prog 22 #[.int .i64 k] w fun e w' => e = .returned (.bool b) ∧ Hid (Below w.heap.size w w') := by
  have B0 := Lib.hid (Below.refl w.heap.size w)
  cases b
  · rcases shortOk_no h with h1 | h1
    · clear h
      go_enter Tryd.func22, Tryd.ntmps22
      go_wp2_with fail
      go_ret
      exact ⟨rfl, B0⟩
    · have h0 : 0 ≤ k := by omega
      have h2 : decide (k ≤ 7) = false := decide_eq_false (by omega)
      have H2 := Lib.hid h2
      clear h h2
      go_enter Tryd.func22, Tryd.ntmps22
      go_wp2_with fail
      go_ret
      exact ⟨by show Ending.returned (.bool (decide (k ≤ 7))) = _; rw [H2.out], B0⟩
  · obtain ⟨n, rfl, hn⟩ := shortOk_in h
    have h0 : (0 : Int) ≤ (n : Int) := by omega
    have h1 : (n : Int) ≤ 7 := by omega
    clear h
    go_enter Tryd.func22, Tryd.ntmps22
    go_wp2_with fail
    go_ret
    exact ⟨rfl, B0⟩

theorem shortReader_no (m : Int) (A1 A2 A3 : Option Addr) (c1 c2 c3 : Nat) (xs ys : List Int) (ss : List StepD) (k : Int) (w : World) (hx : Ints w w.heap.size A1 xs) (hy : Ints w w.heap.size A2 ys) (hs : SRow w w.heap.size A3 ss) (hok : (autoOk m xs ys ss && shortOk k) = false) :
    Calls Tryd.prog 15 #[.agg #[.int .i64 m, .slice A1 xs.length c1, .slice A2 ys.length c2, .slice A3 ss.length c3], .int .i64 k] w fun e w' => e = .returned (.tuple #[.agg #[.int .i64 0, .bool false, .bool false, .bool false, .bool false, .bool false, .bool false, .bool false, .bool false, .map none], .bool false]) ∧ Hid (Below w.heap.size w w') := by
  have HX0 := Lib.hid (ints_al (ints_al hx (.cells #[.int .i64 m, .slice A1 xs.length c1, .slice A2 ys.length c2, .slice A3 ss.length c3] 26)) (.cells #[.int .i64 0, .bool false, .bool false, .bool false, .bool false, .bool false, .bool false, .bool false, .bool false, .map none] 45))
  have HY0 := Lib.hid (ints_al (ints_al hy (.cells #[.int .i64 m, .slice A1 xs.length c1, .slice A2 ys.length c2, .slice A3 ss.length c3] 26)) (.cells #[.int .i64 0, .bool false, .bool false, .bool false, .bool false, .bool false, .bool false, .bool false, .bool false, .map none] 45))
  have HS := Lib.hid ((hs.al (.cells #[.int .i64 m, .slice A1 xs.length c1, .slice A2 ys.length c2, .slice A3 ss.length c3] 26)).al (.cells #[.int .i64 0, .bool false, .bool false, .bool false, .bool false, .bool false, .bool false, .bool false, .bool false, .map none] 45))
  clear hx hy hs
  obtain ⟨ok, hok'⟩ : ∃ b, autoOk m xs ys ss = b := ⟨_, rfl⟩
  rw [hok'] at hok
  have HOK := Lib.hid hok'
  have HWK := Lib.hid hok
  clear hok hok'
  cases ok
  · clear HWK
    go_enter Tryd.func15, Tryd.ntmps15
    go_wp2_with fail
    refine (machineOf_no _ _ _ _ _ _ _ _ _ _ _ HX0.out HY0.out HS.out HOK.out).mono ?_
    rintro e w1 ⟨rfl, hb1⟩
    have B1 := Lib.hid (below_on (below_a2 w _ _) hb1.out)
    have R1 : Hid (Blk w1 (w.heap.size + 1) 45 #[.int .i64 0, .bool false, .bool false, .bool false, .bool false, .bool false, .bool false, .bool false, .bool false, .map none]) := (blk_new (by simp)).below hb1.out (by simp)
    have hw1 := Blk.lt R1.out
    clear hb1 HX0 HY0 HS
    go_upto_region 3 with fail
    obtain ⟨w2, hw2⟩ : ∃ w2, w2 = w1.alloc (.cells #[.int .i64 0, .bool false, .bool false, .bool false, .bool false, .bool false, .bool false, .bool false, .bool false, .map none] 45) := ⟨_, rfl⟩
    have R2 : Hid (Blk w2 (w.heap.size + 1) 45 #[.int .i64 0, .bool false, .bool false, .bool false, .bool false, .bool false, .bool false, .bool false, .bool false, .map none]) := by rw [hw2]; exact R1.out.alloc _
    have B2 : Hid (Below w.heap.size w w2) := by rw [hw2]; exact below_al B1.out (Nat.le_refl _) _
    rw [← hw2]
    clear hw2 R1 B1 hw1
    obtain ⟨d0, d1, d2, d3, d4, d5, d6, d7, d8, d9⟩ := ten_cells R2.out
    obtain ⟨f0, f1, f2, f3, f4, f5, f6, f7, f8, f9⟩ := ten_frozen R2.out
    go_wp2_with fail
    have HF := ten_blk R2.out (.int .i64 0) (.bool false) (.bool false) (.bool false) (.bool false) (.bool false) (.bool false) (.bool false) (.bool false) (.map none)
    have HG := ten_grow w2 (w.heap.size + 1) (.int .i64 0) (.bool false) (.bool false) (.bool false) (.bool false) (.bool false) (.bool false) (.bool false) (.bool false) (.map none)
    refine bodyPost_ret (results_2 rfl (gives_mach (g := w.heap.size + 1) rfl HF) (Gives.tmp rfl)) rfl ?_
    exact ⟨rfl, B2.out.grown HG B2.out.size (fun j hj => by cases hj; omega)⟩
  · have HW : Hid (shortOk k = false) := by have h := HWK.out; rwa [Bool.true_and] at h
    clear HWK
    go_enter Tryd.func15, Tryd.ntmps15
    go_wp2_with fail
    refine (machineOf_ok _ _ _ _ _ _ _ _ _ _ _ HX0.out HY0.out HS.out HOK.out).mono ?_
    rintro e w1 ⟨M, rfl, hM, _, hb1⟩
    have B1 := Lib.hid (below_on (below_a2 w _ _) hb1.out)
    have R1 : Hid (Blk w1 (w.heap.size + 1) 45 #[.int .i64 0, .bool false, .bool false, .bool false, .bool false, .bool false, .bool false, .bool false, .bool false, .map none]) := (blk_new (by simp)).below hb1.out (by simp)
    have hw1 := Blk.lt R1.out
    clear hb1 HX0 HY0 HS hM
    go_wp2_with fail
    refine (shortValid_is _ false _ HW.out).mono ?_
    rintro e w2 ⟨rfl, hb2⟩
    have R2 := Lib.hid (blk_b (R1.out.alloc _) hb2.out)
    have B2 := Lib.hid (below_on (below_al B1.out (Nat.le_refl _) _) hb2.out)
    have hw2 := Blk.lt R2.out
    clear hb2 R1 B1 hw1
    obtain ⟨d0, d1, d2, d3, d4, d5, d6, d7, d8, d9⟩ := ten_cells R2.out
    obtain ⟨f0, f1, f2, f3, f4, f5, f6, f7, f8, f9⟩ := ten_frozen R2.out
    go_wp2_with fail
    have HF := ten_blk R2.out (.int .i64 0) (.bool false) (.bool false) (.bool false) (.bool false) (.bool false) (.bool false) (.bool false) (.bool false) (.map none)
    have HG := ten_grow w2 (w.heap.size + 1) (.int .i64 0) (.bool false) (.bool false) (.bool false) (.bool false) (.bool false) (.bool false) (.bool false) (.bool false) (.map none)
    refine bodyPost_ret (results_2 rfl (gives_mach (g := w.heap.size + 1) rfl HF) (Gives.tmp rfl)) rfl ?_
    exact ⟨rfl, B2.out.grown HG B2.out.size (fun j hj => by cases hj; omega)⟩

theorem shortReader_ok (m : Int) (A1 A2 A3 : Option Addr) (c1 c2 c3 : Nat) (xs ys : List Int) (ss : List StepD) (k : Int) (w : World) (hx : Ints w w.heap.size A1 xs) (hy : Ints w w.heap.size A2 ys) (hs : SRow w w.heap.size A3 ss) (hok : autoOk m xs ys ss = true) (hwk : shortOk k = true) :
    Calls Tryd.prog 15 #[.agg #[.int .i64 m, .slice A1 xs.length c1, .slice A2 ys.length c2, .slice A3 ss.length c3], .int .i64 k] w fun e w' => MachEnd m xs ys ss w e w' := by
  have HX0 := Lib.hid (ints_al (ints_al hx (.cells #[.int .i64 m, .slice A1 xs.length c1, .slice A2 ys.length c2, .slice A3 ss.length c3] 26)) (.cells #[.int .i64 0, .bool false, .bool false, .bool false, .bool false, .bool false, .bool false, .bool false, .bool false, .map none] 45))
  have HY0 := Lib.hid (ints_al (ints_al hy (.cells #[.int .i64 m, .slice A1 xs.length c1, .slice A2 ys.length c2, .slice A3 ss.length c3] 26)) (.cells #[.int .i64 0, .bool false, .bool false, .bool false, .bool false, .bool false, .bool false, .bool false, .bool false, .map none] 45))
  have HS := Lib.hid ((hs.al (.cells #[.int .i64 m, .slice A1 xs.length c1, .slice A2 ys.length c2, .slice A3 ss.length c3] 26)).al (.cells #[.int .i64 0, .bool false, .bool false, .bool false, .bool false, .bool false, .bool false, .bool false, .bool false, .map none] 45))
  have HOK := Lib.hid hok
  have HW := Lib.hid hwk
  clear hx hy hs hok hwk
  go_enter Tryd.func15, Tryd.ntmps15
  go_wp2_with fail
  refine (machineOf_ok _ _ _ _ _ _ _ _ _ _ _ HX0.out HY0.out HS.out HOK.out).mono ?_
  rintro e w1 ⟨M, rfl, hM, hmap, hb1⟩
  have B1 := Lib.hid (below_on (below_a2 w _ _) hb1.out)
  have R1 : Hid (Blk w1 (w.heap.size + 1) 45 #[.int .i64 0, .bool false, .bool false, .bool false, .bool false, .bool false, .bool false, .bool false, .bool false, .map none]) := (blk_new (by simp)).below hb1.out (by simp)
  have hMw : w.heap.size + 1 < M := by simp at hM; omega
  have hw1 := Blk.lt R1.out
  clear hb1 HX0 HY0 HS hM
  go_wp2_with fail
  refine (shortValid_is _ true _ HW.out).mono ?_
  rintro e w2 ⟨rfl, hb2⟩
  have R2 := Lib.hid (blk_b (R1.out.alloc (.cells #[.int .i64 m, .bool (hasB xs 0), .bool (hasB xs 1), .bool (hasB xs 2), .bool (hasB xs 3), .bool (hasB ys 0), .bool (hasB ys 1), .bool (hasB ys 2), .bool (hasB ys 3), .map (some M)] 45)) hb2.out)
  have B2 := Lib.hid (below_on (below_al B1.out (Nat.le_refl _) (.cells #[.int .i64 m, .bool (hasB xs 0), .bool (hasB xs 1), .bool (hasB xs 2), .bool (hasB xs 3), .bool (hasB ys 0), .bool (hasB ys 1), .bool (hasB ys 2), .bool (hasB ys 3), .map (some M)] 45)) hb2.out)
  have P2 := Lib.hid (blk_b (Blk.new w1 45 #[.int .i64 m, .bool (hasB xs 0), .bool (hasB xs 1), .bool (hasB xs 2), .bool (hasB xs 3), .bool (hasB ys 0), .bool (hasB ys 1), .bool (hasB ys 2), .bool (hasB ys 3), .map (some M)]) hb2.out)
  have C2 := Lib.hid ((hmap.out.kept (World.grownBy_alloc w1 (.cells #[.int .i64 m, .bool (hasB xs 0), .bool (hasB xs 1), .bool (hasB xs 2), .bool (hasB xs 3), .bool (hasB ys 0), .bool (hasB ys 1), .bool (hasB ys 2), .bool (hasB ys 3), .map (some M)] 45) none) (by simp)).below hb2.out)
  have hw2 := Blk.lt R2.out
  have hne : ¬ w1.heap.size = w.heap.size + 1 := by omega
  obtain ⟨P, hP⟩ : ∃ P, P = w1.heap.size := ⟨_, rfl⟩
  rw [← hP] at P2 hne ⊢
  clear hb2 R1 B1 hw1 hmap hP
  obtain ⟨p0, p1, p2, p3, p4, p5, p6, p7, p8, p9⟩ := ten_cells P2.out
  obtain ⟨d0, d1, d2, d3, d4, d5, d6, d7, d8, d9⟩ := ten_cells R2.out
  obtain ⟨f0, f1, f2, f3, f4, f5, f6, f7, f8, f9⟩ := ten_frozen R2.out
  go_wp2_with fail
  have HF := ten_blk R2.out (.int .i64 m) (.bool (hasB xs 0)) (.bool (hasB xs 1)) (.bool (hasB xs 2)) (.bool (hasB xs 3)) (.bool (hasB ys 0)) (.bool (hasB ys 1)) (.bool (hasB ys 2)) (.bool (hasB ys 3)) (.map (some M))
  have HG := ten_grow w2 (w.heap.size + 1) (.int .i64 m) (.bool (hasB xs 0)) (.bool (hasB xs 1)) (.bool (hasB xs 2)) (.bool (hasB xs 3)) (.bool (hasB ys 0)) (.bool (hasB ys 1)) (.bool (hasB ys 2)) (.bool (hasB ys 3)) (.map (some M))
  refine bodyPost_ret (results_2 rfl (gives_mach (g := w.heap.size + 1) rfl HF) (Gives.tmp rfl)) rfl ?_
  exact ⟨M, rfl, by omega, Lib.hid (C2.out.kept HG (by intro e; cases e; omega)), Lib.hid (B2.out.grown HG B2.out.size (fun j hj => by cases hj; omega))⟩
end Go.Proofs.YtfdbbopanankgaaDoor
namespace Go.Proofs.YtfdbbopanankgaaDoor
open Go.RowKit Go.Shelf
attribute [local go_sem] Oper.semAt_some
set_option maxHeartbeats 4000000
set_option maxRecDepth 100000
set_option linter.unusedVariables false

theorem shortWords_any (n : Nat) (w : World) :
    Calls Tryd.prog 16 #[.int .i64 n] w fun e w' => e = .returned (.func (.func 29) #[] #[.pointer (some ⟨w.heap.size, 0, none⟩)]) ∧ w' = w.alloc (.cells #[.int .i64 n] 3) := by
  go_enter Tryd.func16, Tryd.ntmps16
  go_wp2_with fail
  go_ret
  exact ⟨rfl, rfl⟩

/-! The words as pairs: how many letters, which bits. -/
def wv (x : Nat × Nat) : ByteArray := wordB (min x.1 7) x.2
theorem wv_size (x : Nat × Nat) : (wv x).size ≤ 7 := by unfold wv; rw [wordB_size]; exact Nat.min_le_right _ _
theorem wv_ab (x : Nat × Nat) : (wv x).data.toList.all isAB = true := wordB_ab _ _
theorem wv_eq {k b : Nat} (h : k ≤ 7) : wv (k, b) = wordB k b := by unfold wv; rw [Nat.min_eq_left h]
def levelP (k m : Nat) : List (Nat × Nat) := (List.range m).map (fun b => (k, b))
theorem levelP_len (k m : Nat) : (levelP k m).length = m := by unfold levelP; simp
theorem levelP_snoc (k m : Nat) : levelP k (m + 1) = levelP k m ++ [(k, m)] := by unfold levelP; rw [List.range_succ, List.map_append]; rfl
def wordsP : Nat → List (Nat × Nat)
  | 0 => []
  | k + 1 => wordsP k ++ levelP k (2 ^ k)
theorem wordsP_succ (k : Nat) : wordsP (k + 1) = wordsP k ++ levelP k (2 ^ k) := rfl
theorem wordsP_len : ∀ k, (wordsP k).length + 1 = 2 ^ k
  | 0 => rfl
  | k + 1 => by unfold wordsP; rw [List.length_append, levelP_len, Nat.pow_succ]; have := wordsP_len k; omega
theorem wordsP_wv : ∀ k, k ≤ 8 → (wordsP k).map wv = wordsTo k
  | 0, _ => rfl
  | k + 1, h => by
    unfold wordsP wordsTo
    rw [List.map_append, wordsP_wv k (by omega)]
    unfold levelP levelW
    rw [List.map_map]
    congr 1
    exact List.map_congr_left fun b _ => wv_eq (by omega)

theorem words_seq (n nb m : Nat) (w : World) (hn : n ≤ 7) (hm : 2 ≤ m) (hnb : Blk w nb 3 #[.int .i64 n]) :
    SeqOwn Fence.wide m Tryd.prog 29 #[.pointer (some ⟨nb, 0, none⟩)] (fun x : Nat × Nat => #[.string (wv x)]) (fun j => j = nb) (fun vs => vs = wordsP (n + 1)) 256 w := by
  intro l J W hW hJ hN hY h0
  have A0 := Lib.hid (hnb.below hW (Blk.lt hnb))
  have h1 : 1 ≤ m := by omega
  have HJ := Lib.hid hJ
  have HN := Lib.hid hN
  have HY := Lib.hid hY
  have H0 := Lib.hid h0
  have a0 := A0.out.cell 0
  simp at a0
  have hnn : (n : Int) + 1 ≤ 8 := by omega
  clear hnb hW hJ hN hY h0
  refine callsIn_of_wp Tryd.func29 rfl trivial ?_ rfl
  simp only [Tryd.ntmps29, List.size_toArray, List.length_cons, List.length_nil, Nat.reduceAdd, Nat.reduceSub, Array.replicate_succ, Array.replicate_zero, List.push_toArray, List.append_toArray, List.nil_append, List.cons_append]
  gi_wp2_with fail
  gi_loopw [7] (fun i wr => ∃ k : Nat, k ≤ n + 1 ∧ i = .int .i64 k ∧ Hid (J [] (wordsP k) wr) ∧ Hid (Blk wr nb 3 #[.int .i64 n])) (fun i _ => n + 1 - (intOf i).toNat)
  case atStart => exact ⟨0, by omega, rfl, H0, A0⟩
  case round =>
    obtain ⟨k, hk, rfl, hj, ha⟩ := hrel
    by_cases hlt : k < n + 1
    · have hk1 : (k : Int) < (n : Int) + 1 := by omega
      obtain ⟨p, hp⟩ : ∃ p, p = 2 ^ k := ⟨_, rfl⟩
      have hp1 : p ≤ 128 := by
        rw [hp]
        exact Nat.pow_le_pow_right (by omega) (show k ≤ 7 by omega)
      have hpe : (2 : Int) ^ k = (p : Int) := by rw [hp, Int.natCast_pow]; rfl
      have HP := Lib.hid hp
      have HPE := Lib.hid hpe
      clear hp hpe
      gi_wp2_with fail
      rw [HPE.out, w64_nat (p := p) (by omega)]
      gi_loopw [12] (fun i wr => ∃ b : Nat, b ≤ p ∧ i = .int .i64 b ∧ Hid (J [] (wordsP k ++ levelP k b) wr) ∧ Hid (Blk wr nb 3 #[.int .i64 n])) (fun i _ => p - (intOf i).toNat)
      case atStart =>
        refine ⟨0, Nat.zero_le _, rfl, ?_, ha⟩
        show J [] (wordsP k ++ levelP k 0) _
        have e : levelP k 0 = [] := rfl
        rw [e, List.append_nil]
        exact hj.out
      case round =>
        obtain ⟨b, hb, rfl, hj2, ha2⟩ := hrel
        by_cases hbt : b < p
        · have hb1 : (b : Int) < (p : Int) := by omega
          have hb7 : b < 128 := by omega
          have hk7 : k ≤ 7 := by omega
          gi_wp2_with fail
          refine ⟨trivial, ?_⟩
          refine (callsIn_wide.2 (wordOf_any k b _ hk7 hb7)).mono ?_
          rintro e W1 ⟨rfl, hb1⟩
          have J1 := Lib.hid (HJ.out _ _ _ _ none hj2.out (grown_of_below hb1) (fun r e => by cases e))
          have A1 := Lib.hid (ha2.out.below hb1 (Blk.lt ha2.out))
          have hlen : (wordsP k ++ levelP k b).length < 256 := by
            rw [List.length_append, levelP_len]
            have := wordsP_len k
            rw [← HP.out] at this
            omega
          clear hj2 ha2 hb1
          gi_wp2_with fail
          obtain ⟨fn, tmps, assign, body, hy, hR⟩ := HY.out _ _ (k, b) _ J1.out hlen
          rw [wv_eq hk7] at hy
          rw [hy]
          gi_wp2_with fail
          refine hR.mono ?_
          rintro e W3 ⟨rfl, hJ3, hk3⟩
          have J3 : Hid (J [] (wordsP k ++ levelP k (b + 1)) W3) := by
            show J _ _ _
            rw [levelP_snoc, ← List.append_assoc]
            exact hJ3
          have A3 := Lib.hid (Blk.trans_ (hk3.2 nb (Or.inr rfl)) A1.out)
          clear hy hR hJ3 hk3 J1 A1 fn tmps assign body
          gi_wp2_with fail
          go_roundw
          case rel => exact ⟨b + 1, by omega, by go_num, J3, A3⟩
          case measure => simp [intOf]; omega
        · have hbp : b = p := by omega
          subst hbp
          gi_wp2_with fail
          go_roundw
          case rel =>
            refine ⟨k + 1, by omega, by go_num, ?_, ha2⟩
            show J [] (wordsP (k + 1)) _
            rw [wordsP_succ, ← HP.out]
            exact hj2.out
          case measure => simp [intOf]; omega
    · have hkn : k = n + 1 := by omega
      subst hkn
      gi_wp2_with fail
      go_end0
      exact ⟨⟨_, rfl⟩, [], _, rfl, hj.out⟩
end Go.Proofs.YtfdbbopanankgaaDoor
namespace Go.Proofs.YtfdbbopanankgaaDoor
open Go.RowKit Go.Shelf
attribute [local go_sem] Oper.semAt_some
set_option maxHeartbeats 4000000
set_option maxRecDepth 100000
set_option linter.unusedVariables false

/-! How many of some words cost less than what can't be had. -/
def tally (f : ByteArray → Int) (l : List ByteArray) : Nat := (l.filter (fun s => decide (f s < 1000000))).length
theorem tally_le (f : ByteArray → Int) (l : List ByteArray) : tally f l ≤ l.length := List.length_filter_le _ _
theorem tally_yes {f : ByteArray → Int} {l : List ByteArray} {s : ByteArray} (h : f s < 1000000) : tally f (l ++ [s]) = tally f l + 1 := by
  unfold tally; rw [List.filter_append]; simp [h]
theorem tally_no {f : ByteArray → Int} {l : List ByteArray} {s : ByteArray} (h : ¬ f s < 1000000) : tally f (l ++ [s]) = tally f l := by
  unfold tally; rw [List.filter_append]; simp [h]
def costW (n : Nat) (xs ys : List Int) (ss : List StepD) (s : ByteArray) : Int := costF n xs ys ss s.data.toList
def countR (m : Int) (xs ys : List Int) (ss : List StepD) (k : Int) : Int := if autoOk m xs ys ss = true ∧ shortOk k = true then (tally (costW m.toNat xs ys ss) (wordsTo (k.toNat + 1)) : Int) else -1
theorem countR_some {n k : Nat} {xs ys : List Int} {ss : List StepD} (h : autoOk n xs ys ss = true) (hk : shortOk k = true) : countR n xs ys ss k = (tally (costW n xs ys ss) (wordsTo (k + 1)) : Int) := by
  unfold countR; rw [if_pos ⟨h, hk⟩]; rfl
theorem countR_none {m : Int} {xs ys : List Int} {ss : List StepD} {k : Int} (h : (autoOk m xs ys ss && shortOk k) = false) : countR m xs ys ss k = -1 := by
  unfold countR; rw [if_neg (by rintro ⟨h1, h2⟩; rw [h1, h2] at h; cases h)]

theorem iCount_any (m : Int) (A1 A2 A3 : Option Addr) (c1 c2 c3 : Nat) (xs ys : List Int) (ss : List StepD) (k : Int) (r : Int) (w : World) (hx : Ints w w.heap.size A1 xs) (hy : Ints w w.heap.size A2 ys) (hs : SRow w w.heap.size A3 ss) (hr : countR m xs ys ss k = r) :
    Calls Tryd.prog 7 #[.agg #[.int .i64 m, .slice A1 xs.length c1, .slice A2 ys.length c2, .slice A3 ss.length c3], .int .i64 k] w fun e w' => e = .returned (.int .i64 r) ∧ Hid (Below w.heap.size w w') := by
  have HX0 := Lib.hid (ints_al hx (.cells #[.int .i64 m, .slice A1 xs.length c1, .slice A2 ys.length c2, .slice A3 ss.length c3] 26))
  have HY0 := Lib.hid (ints_al hy (.cells #[.int .i64 m, .slice A1 xs.length c1, .slice A2 ys.length c2, .slice A3 ss.length c3] 26))
  have HS := Lib.hid (hs.al (.cells #[.int .i64 m, .slice A1 xs.length c1, .slice A2 ys.length c2, .slice A3 ss.length c3] 26))
  clear hx hy hs
  obtain ⟨b, hb⟩ : ∃ b, (autoOk m xs ys ss && shortOk k) = b := ⟨_, rfl⟩
  cases b
  · have HOK := Lib.hid hb
    obtain rfl : r = -1 := by rw [← hr, countR_none hb]
    clear hb hr
    go_enter Tryd.func7, Tryd.ntmps7
    go_wp2_with fail
    refine (shortReader_no _ _ _ _ _ _ _ _ _ _ _ _ HX0.out HY0.out HS.out HOK.out).mono ?_
    rintro e w1 ⟨rfl, hb1⟩
    have B1 := Lib.hid (below_on (below_a1 w _) hb1.out)
    clear hb1 HX0 HY0 HS
    go_wp2_with fail
    go_ret
    exact ⟨rfl, below_al B1.out (Nat.le_refl _) _⟩
  · rw [Bool.and_eq_true] at hb
    obtain ⟨hok, hwk⟩ := hb
    obtain ⟨n, rfl, n1, n2, hxi, _, _, hsi⟩ := auto_in hok
    obtain ⟨k, rfl, hk7⟩ := shortOk_in hwk
    have HR := Lib.hid (countR_some hok hwk)
    rw [hr] at HR
    have HOK := Lib.hid hok
    have HWK := Lib.hid hwk
    have HSI := Lib.hid hsi
    have HXI := Lib.hid hxi
    clear hok hwk hsi hxi hr
    refine (callsIn_wide (n := 4)).1 ?_
    refine callsIn_of_wp_marks Tryd.func7 rfl trivial ?_ rfl
    simp only [Tryd.ntmps7, List.size_toArray, List.length_cons, List.length_nil, Nat.reduceAdd, Nat.reduceSub, Array.replicate_succ, Array.replicate_zero, List.push_toArray, List.append_toArray, List.nil_append, List.cons_append]
    gi_wp2_with fail
    refine ⟨trivial, ?_⟩
    refine (callsIn_wide.2 (shortReader_ok _ _ _ _ _ _ _ _ _ _ _ _ HX0.out HY0.out HS.out HOK.out HWK.out)).mono ?_
    rintro e w1 ⟨M, rfl, hM, hmap, hb1⟩
    have B1 := Lib.hid (below_on (below_a1 w _) hb1.out)
    have hMw := hmap.out.lt
    obtain ⟨cnt, hmap2⟩ : ∃ c, CMap w1 M c (costAt ss) := ⟨_, hmap.out⟩
    have MM := Lib.hid hmap2
    clear hb1 HX0 HY0 HS hM hmap hmap2
    gi_wp2_with fail
    refine ⟨trivial, ?_⟩
    refine (callsIn_wide.2 (shortWords_any k _)).mono ?_
    rintro e W0 ⟨rfl, hW0⟩
    simp only [World.size_alloc] at hW0 ⊢
    have mX : Hid (Blk W0 w1.heap.size 45 #[.int .i64 n, .bool (hasB xs 0), .bool (hasB xs 1), .bool (hasB xs 2), .bool (hasB xs 3), .bool (hasB ys 0), .bool (hasB ys 1), .bool (hasB ys 2), .bool (hasB ys 3), .map (some M)]) := by rw [hW0]; exact ((Blk.new w1 _ _).alloc _).alloc _
    have mT : Hid (Blk W0 (w1.heap.size + 1) 3 #[.int .i64 0]) := by rw [hW0]; exact (blk_new (by simp)).alloc _
    have mB : Hid (Blk W0 (w1.heap.size + 1 + 1) 3 #[.int .i64 k]) := by rw [hW0]; exact blk_new (by simp)
    have hB1 : Below w1.heap.size w1 W0 := by rw [hW0]; exact below_a3 w1 _ _ _
    have hB0 : Hid (Below w.heap.size w W0) := below_on B1.out hB1
    have MM0 := Lib.hid (MM.out.below hB1)
    have hsz : W0.heap.size = w1.heap.size + 3 := by rw [hW0]; simp
    have hw1 : w.heap.size ≤ w1.heap.size := B1.out.size
    clear MM hW0 hB1 B1
    obtain ⟨X, hX⟩ : ∃ T, T = w1.heap.size := ⟨_, rfl⟩
    obtain ⟨T, hT⟩ : ∃ T, T = w1.heap.size + 1 := ⟨_, rfl⟩
    obtain ⟨nb, hnb⟩ : ∃ T, T = w1.heap.size + 1 + 1 := ⟨_, rfl⟩
    rw [← hT] at mT
    rw [← hnb] at mB
    rw [← hX] at mX
    rw [← hnb, ← hT, ← hX]
    have kT0 : w.heap.size ≤ X := by omega
    have kT1 : X < T := by omega
    have kT2 : T < nb := by omega
    have kT4 : nb < W0.heap.size := by omega
    have kM : M < X := by omega
    have HSEQ := words_seq k nb 3 W0 hk7 (by omega) mB.out
    clear hT hnb hX mB hsz hw1 hMw
    gi_wp2_with fail
    refine wpIn_over rfl (by omega) (gf := 29) rfl trivial (enters_of Tryd.func29 (by kernel_rfl) rfl) HSEQ
      (fun j hj => by have : j = nb := hj; omega) (Below.refl _ _) (fun _ => rfl)
      (fun J pre W => (∀ j ∈ J, W0.heap.size ≤ j) ∧ Blk W X 45 #[.int .i64 n, .bool (hasB xs 0), .bool (hasB xs 1), .bool (hasB xs 2), .bool (hasB xs 3), .bool (hasB ys 0), .bool (hasB ys 1), .bool (hasB ys 2), .bool (hasB ys 3), .map (some M)] ∧ Blk W T 3 #[.int .i64 (tally (costW n xs ys ss) (pre.map wv))] ∧ CMap W M cnt (costAt ss) ∧ Below w.heap.size w W ∧ W0.heap.size ≤ W.heap.size)
      (fun J s A D row h hg hr => by
        obtain ⟨h1, h2, h3, h4, h5, h6⟩ := h
        have ne : ∀ k, k < W0.heap.size → some k ≠ row := fun k hk e => by
          rcases hr k e.symm with h | h | h
          · have := h1 k h; omega
          · omega
          · omega
        exact ⟨h1, h2.stay hg (ne _ (by omega)), h3.stay hg (ne _ (by omega)), h4.kept hg (ne _ (by omega)), h5.grown hg h5.size (fun j hj => by
          rcases hr j hj with h | h | h
          · have := h1 j h; omega
          · omega
          · omega), Nat.le_trans h6 hg.size⟩)
      (fun J s A D j h hg hj1 hj2 => by
        obtain ⟨h1, h2, h3, h4, h5, h6⟩ := h
        exact ⟨fun i hi => by
          rcases List.mem_cons.1 hi with rfl | hi
          · omega
          · exact h1 i hi, h2.stay hg (by simp), h3.stay hg (by simp), h4.kept hg (by simp), h5.grown hg h5.size (fun j hj => by cases hj), Nat.le_trans h6 hg.size⟩)
      ⟨fun j hj => (by cases hj), mX.out, mT.out, MM0.out, hB0.out, Nat.le_refl _⟩
      (fun J pre x a' W => a' = { tmps := #[(.agg #[.int .i64 n, .slice A1 xs.length c1, .slice A2 ys.length c2, .slice A3 ss.length c3]), .int .i64 k, .pointer (some ⟨w.heap.size, 0, none⟩), undef, .int .i64 0, .pointer (some ⟨X, 0, none⟩), .bool true, .pointer (some ⟨T, 0, none⟩), .string (wv x), (.tuple #[.agg #[.int .i64 n, .bool (hasB xs 0), .bool (hasB xs 1), .bool (hasB xs 2), .bool (hasB xs 3), .bool (hasB ys 0), .bool (hasB ys 1), .bool (hasB ys 2), .bool (hasB ys 3), .map (some M)], .bool true]), (.agg #[.int .i64 n, .slice A1 xs.length c1, .slice A2 ys.length c2, .slice A3 ss.length c3]), .int .i64 k, (.tuple #[.agg #[.int .i64 n, .bool (hasB xs 0), .bool (hasB xs 1), .bool (hasB xs 2), .bool (hasB xs 3), .bool (hasB ys 0), .bool (hasB ys 1), .bool (hasB ys 2), .bool (hasB ys 3), .map (some M)], .bool true]), .agg #[.int .i64 n, .bool (hasB xs 0), .bool (hasB xs 1), .bool (hasB xs 2), .bool (hasB xs 3), .bool (hasB ys 0), .bool (hasB ys 1), .bool (hasB ys 2), .bool (hasB ys 3), .map (some M)], .bool true, .bool true, .bool false, .int .i64 k, .func (.func 29) #[] #[.pointer (some ⟨nb, 0, none⟩)], .string (wv x), undef, undef, undef, undef, undef, undef, undef], defers := [] } ∧ (∀ j ∈ J, W0.heap.size ≤ j) ∧ Blk W X 45 #[.int .i64 n, .bool (hasB xs 0), .bool (hasB xs 1), .bool (hasB xs 2), .bool (hasB xs 3), .bool (hasB ys 0), .bool (hasB ys 1), .bool (hasB ys 2), .bool (hasB ys 3), .map (some M)] ∧ Blk W T 3 #[.int .i64 (tally (costW n xs ys ss) (pre.map wv))] ∧ CMap W M cnt (costAt ss) ∧ Below w.heap.size w W ∧ W0.heap.size ≤ W.heap.size)
      (fun J pre x a' A D h hg => by
        obtain ⟨g3, h1, h2, h3, h4, h5, h6⟩ := h
        exact ⟨g3, h1, h2.stay hg (fun e => by have := Option.some.inj e; omega), h3.stay hg (fun e => by have := Option.some.inj e; omega), h4.kept hg (fun e => by have := Option.some.inj e; omega), h5.grown hg h5.size (fun j hj => by have := Option.some.inj hj; omega), Nat.le_trans h6 hg.size⟩)
      ?assign ?body ?done
    case assign =>
      rintro q J pre x W K hI hXb hsb hlen hK
      gi_wp2_with fail
      exact hK _ _ ⟨rfl, hI⟩ ⟨Nat.le_refl _, fun j hj => rfl⟩
    case body =>
      rintro q J pre x a' W ⟨rfl, h1, h2, h3, h4, h5, h6⟩ hXb hsb hlen
      obtain ⟨z, hz⟩ : ∃ z, costF n xs ys ss (wv x).data.toList = z := ⟨_, rfl⟩
      obtain ⟨tn, htn⟩ : ∃ tn, tally (costW n xs ys ss) (pre.map wv) = tn := ⟨_, rfl⟩
      have htl : tn ≤ 256 := by rw [← htn]; have := tally_le (costW n xs ys ss) (pre.map wv); simp at this; omega
      have hzy : z < 1000000 → tally (costW n xs ys ss) ((pre ++ [x]).map wv) = tn + 1 := fun h => by
        rw [List.map_append, ← htn]; exact tally_yes (show costW n xs ys ss (wv x) < 1000000 by unfold costW; rw [hz]; exact h)
      have hzn : ¬ z < 1000000 → tally (costW n xs ys ss) ((pre ++ [x]).map wv) = tn := fun h => by
        rw [List.map_append, ← htn]; exact tally_no (show ¬ costW n xs ys ss (wv x) < 1000000 by unfold costW; rw [hz]; exact h)
      rw [htn] at h3
      have HZ := Lib.hid hz
      have HZY := Lib.hid hzy
      have HZN := Lib.hid hzn
      have H1 := Lib.hid h1
      have HXB := Lib.hid hXb
      have H2 := Lib.hid h2
      have H3 := Lib.hid h3
      have H4 := Lib.hid h4
      have H5 := Lib.hid h5
      have hsx : (wv x).size ≤ 1000 := by have := wv_size x; omega
      clear hz htn hzy hzn h1 hXb h3 h4 h5
      obtain ⟨d0, d1, d2, d3, d4, d5, d6, d7, d8, d9⟩ := ten_cells h2
      gi_wp2_with fail
      refine ⟨trivial, ?_⟩
      refine (CallsIn.inRound q (callsIn_wide.2 (costOf_any n M _ _ _ _ _ _ _ _ _ xs ys ss (wv x) _ n2 HXI.out HSI.out hsx (wv_ab x) rfl rfl H4.out))).mono ?_
      rintro e W1 ⟨rfl, hb1⟩
      rw [HZ.out]
      have hbW : W.heap.size ≤ W1.heap.size := hb1.size
      have H21 := Lib.hid (H2.out.below hb1 (Blk.lt H2.out))
      have H31 := Lib.hid (H3.out.below hb1 (Blk.lt H3.out))
      have H41 := Lib.hid (H4.out.below hb1)
      have H51 := Lib.hid (H5.out.trans (hb1.mono H5.out.size))
      have c0 := H31.out.cell 0
      have f0 := H31.out.frozen 0
      simp at c0
      clear d0 d1 d2 d3 d4 d5 d6 d7 d8 d9 h2
      have HB1 := Lib.hid hb1
      clear hb1
      by_cases hlt : z < 1000000
      · have HT := Lib.hid (HZY.out hlt)
        clear HZY HZN
        gi_wp2_with fail
        have hg : W1.grownBy (W1.setCell ⟨T, 0, none⟩ (.int .i64 ((tn : Int) + 1))) (some T) := grow_set W1 T 0 _
        refine ⟨⟨Nat.le_trans hbW hg.size, fun j hj => ?_⟩, H1.out, H21.out.stay hg (fun e => by have := Option.some.inj e; omega), ?_, H41.out.kept hg (fun e => by have := Option.some.inj e; omega), H51.out.grown hg H51.out.size (fun j hj => by have := Option.some.inj hj; omega), Nat.le_trans h6 (Nat.le_trans hbW hg.size)⟩
        · have hjW : j < W.heap.size := by
            rcases hj with hj | hj | hj | hj
            · exact (HXB.out j hj).2
            · have : j = nb := hj
              omega
            · omega
            · omega
          have hjT : j ≠ T := by
            rcases hj with hj | hj | hj | hj
            · have := HXB.out j hj; omega
            · have : j = nb := hj
              omega
            · omega
            · omega
          exact (hg.block j (by omega) (fun e => hjT (Option.some.inj e))).trans (HB1.out.block j hjW)
        · have e : (tally (costW n xs ys ss) ((pre ++ [x]).map wv) : Int) = (tn : Int) + 1 := by rw [HT.out]; rfl
          rw [e]
          exact H31.out.set_ 0 (.int .i64 ((tn : Int) + 1))
      · have HT := Lib.hid (HZN.out (by omega))
        clear HZY HZN
        gi_wp2_with fail
        refine ⟨⟨hbW, fun j hj => ?_⟩, H1.out, H21.out, ?_, H41.out, H51.out, Nat.le_trans h6 hbW⟩
        · have hjW : j < W.heap.size := by
            rcases hj with hj | hj | hj | hj
            · exact (HXB.out j hj).2
            · have : j = nb := hj
              omega
            · omega
            · omega
          exact HB1.out.block j hjW
        · rw [HT.out]
          exact H31.out
    case done =>
      rintro J vs W hvs ⟨h1, h2, h3, h4, h5, h6⟩ hK
      have hlast : (vs.map wv) = wordsTo (k + 1) := by rw [hvs, wordsP_wv _ (by omega)]
      rw [hlast] at h3
      have c0 := h3.cell 0
      simp at c0
      have HK := Lib.hid hK
      have H5 := Lib.hid h5
      clear hlast hvs h1 h2 h3 h4 h5 hK
      gi_wp2_with fail
      refine ⟨by simp, .inl ⟨_, _, rfl, run_takeDeferred HK.out, ?_⟩⟩
      exact ⟨_, results_tmp rfl _ _ _, by rw [← HR.out]; rfl, Lib.hid (H5.out.grown (grownBy_putObj' W _ _) H5.out.size (fun j hj => by have := Option.some.inj hj; have := hB0.out.size; omega))⟩
end Go.Proofs.YtfdbbopanankgaaDoor
namespace Go.Proofs.YtfdbbopanankgaaDoor
open Go.RowKit Go.Shelf
attribute [local go_sem] Oper.semAt_some
set_option maxHeartbeats 4000000
set_option maxRecDepth 100000
set_option linter.unusedVariables false

/-! The first one of some words that cost most below what can't be had. -/
def bestStep (f : ByteArray → Int) (b : ByteArray × Int) (s : ByteArray) : ByteArray × Int := if f s < 1000000 ∧ b.2 < f s then (s, f s) else b
def bestW (f : ByteArray → Int) (l : List ByteArray) : ByteArray × Int := l.foldl (bestStep f) (⟨#[]⟩, -1)
theorem bestW_yes {f : ByteArray → Int} {l : List ByteArray} {s : ByteArray} (h : f s < 1000000) (h2 : (bestW f l).2 < f s) : bestW f (l ++ [s]) = (s, f s) := by
  have e : bestW f (l ++ [s]) = bestStep f (bestW f l) s := by unfold bestW; rw [List.foldl_append]; rfl
  rw [e]; unfold bestStep; rw [if_pos ⟨h, h2⟩]
theorem bestW_no {f : ByteArray → Int} {l : List ByteArray} {s : ByteArray} (h : ¬ (f s < 1000000 ∧ (bestW f l).2 < f s)) : bestW f (l ++ [s]) = bestW f l := by
  have e : bestW f (l ++ [s]) = bestStep f (bestW f l) s := by unfold bestW; rw [List.foldl_append]; rfl
  rw [e]; unfold bestStep; rw [if_neg h]
def bestR (m : Int) (xs ys : List Int) (ss : List StepD) (k : Int) : ByteArray × Bool := if autoOk m xs ys ss = true ∧ shortOk k = true then ((bestW (costW m.toNat xs ys ss) (wordsTo (k.toNat + 1))).1, decide (-1 < (bestW (costW m.toNat xs ys ss) (wordsTo (k.toNat + 1))).2)) else (⟨#[]⟩, false)
theorem bestR_some {n k : Nat} {xs ys : List Int} {ss : List StepD} (h : autoOk n xs ys ss = true) (hk : shortOk k = true) : bestR n xs ys ss k = ((bestW (costW n xs ys ss) (wordsTo (k + 1))).1, decide (-1 < (bestW (costW n xs ys ss) (wordsTo (k + 1))).2)) := by
  unfold bestR; rw [if_pos ⟨h, hk⟩]; rfl
theorem bestR_none {m : Int} {xs ys : List Int} {ss : List StepD} {k : Int} (h : (autoOk m xs ys ss && shortOk k) = false) : bestR m xs ys ss k = (⟨#[]⟩, false) := by
  unfold bestR; rw [if_neg (by rintro ⟨h1, h2⟩; rw [h1, h2] at h; cases h)]

theorem iBest_any (m : Int) (A1 A2 A3 : Option Addr) (c1 c2 c3 : Nat) (xs ys : List Int) (ss : List StepD) (k : Int) (w : World) (hx : Ints w w.heap.size A1 xs) (hy : Ints w w.heap.size A2 ys) (hs : SRow w w.heap.size A3 ss) :
    Calls Tryd.prog 5 #[.agg #[.int .i64 m, .slice A1 xs.length c1, .slice A2 ys.length c2, .slice A3 ss.length c3], .int .i64 k] w fun e w' => e = .returned (.tuple #[.string (bestR m xs ys ss k).1, .bool (bestR m xs ys ss k).2]) ∧ Hid (Below w.heap.size w w') := by
  have HX0 := Lib.hid (ints_al hx (.cells #[.int .i64 m, .slice A1 xs.length c1, .slice A2 ys.length c2, .slice A3 ss.length c3] 26))
  have HY0 := Lib.hid (ints_al hy (.cells #[.int .i64 m, .slice A1 xs.length c1, .slice A2 ys.length c2, .slice A3 ss.length c3] 26))
  have HS := Lib.hid (hs.al (.cells #[.int .i64 m, .slice A1 xs.length c1, .slice A2 ys.length c2, .slice A3 ss.length c3] 26))
  clear hx hy hs
  obtain ⟨b, hb⟩ : ∃ b, (autoOk m xs ys ss && shortOk k) = b := ⟨_, rfl⟩
  cases b
  · have HOK := Lib.hid hb
    rw [bestR_none hb]
    clear hb
    go_enter Tryd.func5, Tryd.ntmps5
    go_wp2_with fail
    refine (shortReader_no _ _ _ _ _ _ _ _ _ _ _ _ HX0.out HY0.out HS.out HOK.out).mono ?_
    rintro e w1 ⟨rfl, hb1⟩
    have B1 := Lib.hid (below_on (below_a1 w _) hb1.out)
    clear hb1 HX0 HY0 HS
    go_wp2_with fail
    go_ret2
    exact ⟨rfl, below_al B1.out (Nat.le_refl _) _⟩
  · rw [Bool.and_eq_true] at hb
    obtain ⟨hok, hwk⟩ := hb
    obtain ⟨n, rfl, n1, n2, hxi, _, _, hsi⟩ := auto_in hok
    obtain ⟨k, rfl, hk7⟩ := shortOk_in hwk
    rw [bestR_some hok hwk]
    have HOK := Lib.hid hok
    have HWK := Lib.hid hwk
    have HSI := Lib.hid hsi
    have HXI := Lib.hid hxi
    clear hok hwk hsi hxi
    refine (callsIn_wide (n := 4)).1 ?_
    refine callsIn_of_wp_marks Tryd.func5 rfl trivial ?_ rfl
    simp only [Tryd.ntmps5, List.size_toArray, List.length_cons, List.length_nil, Nat.reduceAdd, Nat.reduceSub, Array.replicate_succ, Array.replicate_zero, List.push_toArray, List.append_toArray, List.nil_append, List.cons_append]
    gi_wp2_with fail
    refine ⟨trivial, ?_⟩
    refine (callsIn_wide.2 (shortReader_ok _ _ _ _ _ _ _ _ _ _ _ _ HX0.out HY0.out HS.out HOK.out HWK.out)).mono ?_
    rintro e w1 ⟨M, rfl, hM, hmap, hb1⟩
    have B1 := Lib.hid (below_on (below_a1 w _) hb1.out)
    have hMw := hmap.out.lt
    obtain ⟨cnt, hmap2⟩ : ∃ c, CMap w1 M c (costAt ss) := ⟨_, hmap.out⟩
    have MM := Lib.hid hmap2
    clear hb1 HX0 HY0 HS hM hmap hmap2
    gi_wp2_with fail
    refine ⟨trivial, ?_⟩
    refine (callsIn_wide.2 (shortWords_any k _)).mono ?_
    rintro e W0 ⟨rfl, hW0⟩
    simp only [World.size_alloc] at hW0 ⊢
    have mX : Hid (Blk W0 w1.heap.size 45 #[.int .i64 n, .bool (hasB xs 0), .bool (hasB xs 1), .bool (hasB xs 2), .bool (hasB xs 3), .bool (hasB ys 0), .bool (hasB ys 1), .bool (hasB ys 2), .bool (hasB ys 3), .map (some M)]) := by rw [hW0]; exact (((Blk.new w1 _ _).alloc _).alloc _).alloc _
    have mT : Hid (Blk W0 (w1.heap.size + 1) 9 #[.string ⟨#[]⟩]) := by rw [hW0]; exact ((blk_new (by simp)).alloc _).alloc _
    have mC : Hid (Blk W0 (w1.heap.size + 1 + 1) 48 #[.int .i64 (-1)]) := by rw [hW0]; exact (blk_new (by simp)).alloc _
    have mB : Hid (Blk W0 (w1.heap.size + 1 + 1 + 1) 3 #[.int .i64 k]) := by rw [hW0]; exact blk_new (by simp)
    have hB1 : Below w1.heap.size w1 W0 := by rw [hW0]; exact below_al (below_a3 w1 _ _ _) (Nat.le_refl _) _
    have hB0 : Hid (Below w.heap.size w W0) := below_on B1.out hB1
    have MM0 := Lib.hid (MM.out.below hB1)
    have hsz : W0.heap.size = w1.heap.size + 4 := by rw [hW0]; simp
    have hw1 : w.heap.size ≤ w1.heap.size := B1.out.size
    clear MM hW0 hB1 B1
    obtain ⟨X, hX⟩ : ∃ T, T = w1.heap.size := ⟨_, rfl⟩
    obtain ⟨Tw, hT⟩ : ∃ T, T = w1.heap.size + 1 := ⟨_, rfl⟩
    obtain ⟨Tc, hC⟩ : ∃ T, T = w1.heap.size + 1 + 1 := ⟨_, rfl⟩
    obtain ⟨nb, hnb⟩ : ∃ T, T = w1.heap.size + 1 + 1 + 1 := ⟨_, rfl⟩
    rw [← hT] at mT
    rw [← hC] at mC
    rw [← hnb] at mB
    rw [← hX] at mX
    rw [← hnb, ← hC, ← hT, ← hX]
    have kT0 : w.heap.size ≤ X := by omega
    have kT1 : X < Tw := by omega
    have kT2 : Tw < Tc := by omega
    have kT3 : Tc < nb := by omega
    have kT4 : nb < W0.heap.size := by omega
    have kM : M < X := by omega
    have HSEQ := words_seq k nb 3 W0 hk7 (by omega) mB.out
    clear hT hC hnb hX mB hsz hw1 hMw
    gi_wp2_with fail
    refine wpIn_over rfl (by omega) (gf := 29) rfl trivial (enters_of Tryd.func29 (by kernel_rfl) rfl) HSEQ
      (fun j hj => by have : j = nb := hj; omega) (Below.refl _ _) (fun _ => rfl)
      (fun J pre W => (∀ j ∈ J, W0.heap.size ≤ j) ∧ Blk W X 45 #[.int .i64 n, .bool (hasB xs 0), .bool (hasB xs 1), .bool (hasB xs 2), .bool (hasB xs 3), .bool (hasB ys 0), .bool (hasB ys 1), .bool (hasB ys 2), .bool (hasB ys 3), .map (some M)] ∧ Blk W Tw 9 #[.string (bestW (costW n xs ys ss) (pre.map wv)).1] ∧ Blk W Tc 48 #[.int .i64 (bestW (costW n xs ys ss) (pre.map wv)).2] ∧ CMap W M cnt (costAt ss) ∧ Below w.heap.size w W ∧ W0.heap.size ≤ W.heap.size)
      (fun J s A D row h hg hr => by
        obtain ⟨h1, h2, h3, h3c, h4, h5, h6⟩ := h
        have ne : ∀ k, k < W0.heap.size → some k ≠ row := fun k hk e => by
          rcases hr k e.symm with h | h | h
          · have := h1 k h; omega
          · omega
          · omega
        exact ⟨h1, h2.stay hg (ne _ (by omega)), h3.stay hg (ne _ (by omega)), h3c.stay hg (ne _ (by omega)), h4.kept hg (ne _ (by omega)), h5.grown hg h5.size (fun j hj => by
          rcases hr j hj with h | h | h
          · have := h1 j h; omega
          · omega
          · omega), Nat.le_trans h6 hg.size⟩)
      (fun J s A D j h hg hj1 hj2 => by
        obtain ⟨h1, h2, h3, h3c, h4, h5, h6⟩ := h
        exact ⟨fun i hi => by
          rcases List.mem_cons.1 hi with rfl | hi
          · omega
          · exact h1 i hi, h2.stay hg (by simp), h3.stay hg (by simp), h3c.stay hg (by simp), h4.kept hg (by simp), h5.grown hg h5.size (fun j hj => by cases hj), Nat.le_trans h6 hg.size⟩)
      ⟨fun j hj => (by cases hj), mX.out, mT.out, mC.out, MM0.out, hB0.out, Nat.le_refl _⟩
      (fun J pre x a' W => a' = { tmps := #[(.agg #[.int .i64 n, .slice A1 xs.length c1, .slice A2 ys.length c2, .slice A3 ss.length c3]), .int .i64 k, .pointer (some ⟨w.heap.size, 0, none⟩), undef, .string ⟨#[]⟩, .bool false, .pointer (some ⟨X, 0, none⟩), .bool true, .pointer (some ⟨Tw, 0, none⟩), .pointer (some ⟨Tc, 0, none⟩), .string (wv x), undef, (.tuple #[.agg #[.int .i64 n, .bool (hasB xs 0), .bool (hasB xs 1), .bool (hasB xs 2), .bool (hasB xs 3), .bool (hasB ys 0), .bool (hasB ys 1), .bool (hasB ys 2), .bool (hasB ys 3), .map (some M)], .bool true]), (.agg #[.int .i64 n, .slice A1 xs.length c1, .slice A2 ys.length c2, .slice A3 ss.length c3]), .int .i64 k, (.tuple #[.agg #[.int .i64 n, .bool (hasB xs 0), .bool (hasB xs 1), .bool (hasB xs 2), .bool (hasB xs 3), .bool (hasB ys 0), .bool (hasB ys 1), .bool (hasB ys 2), .bool (hasB ys 3), .map (some M)], .bool true]), .agg #[.int .i64 n, .bool (hasB xs 0), .bool (hasB xs 1), .bool (hasB xs 2), .bool (hasB xs 3), .bool (hasB ys 0), .bool (hasB ys 1), .bool (hasB ys 2), .bool (hasB ys 3), .map (some M)], .bool true, .bool true, .bool false, .int .i64 k, .func (.func 29) #[] #[.pointer (some ⟨nb, 0, none⟩)], .string (wv x), undef, undef, undef, undef, undef, undef, undef, undef, undef, undef, undef, undef, undef, undef, undef], defers := [] } ∧ (∀ j ∈ J, W0.heap.size ≤ j) ∧ Blk W X 45 #[.int .i64 n, .bool (hasB xs 0), .bool (hasB xs 1), .bool (hasB xs 2), .bool (hasB xs 3), .bool (hasB ys 0), .bool (hasB ys 1), .bool (hasB ys 2), .bool (hasB ys 3), .map (some M)] ∧ Blk W Tw 9 #[.string (bestW (costW n xs ys ss) (pre.map wv)).1] ∧ Blk W Tc 48 #[.int .i64 (bestW (costW n xs ys ss) (pre.map wv)).2] ∧ CMap W M cnt (costAt ss) ∧ Below w.heap.size w W ∧ W0.heap.size ≤ W.heap.size)
      (fun J pre x a' A D h hg => by
        obtain ⟨g3, h1, h2, h3, h3c, h4, h5, h6⟩ := h
        exact ⟨g3, h1, h2.stay hg (fun e => by have := Option.some.inj e; omega), h3.stay hg (fun e => by have := Option.some.inj e; omega), h3c.stay hg (fun e => by have := Option.some.inj e; omega), h4.kept hg (fun e => by have := Option.some.inj e; omega), h5.grown hg h5.size (fun j hj => by have := Option.some.inj hj; omega), Nat.le_trans h6 hg.size⟩)
      ?assign ?body ?done
    case assign =>
      rintro q J pre x W K hI hXb hsb hlen hK
      gi_wp2_with fail
      exact hK _ _ ⟨rfl, hI⟩ ⟨Nat.le_refl _, fun j hj => rfl⟩
    case body =>
      rintro q J pre x a' W ⟨rfl, h1, h2, h3, h3c, h4, h5, h6⟩ hXb hsb hlen
      obtain ⟨z, hz⟩ : ∃ z, costF n xs ys ss (wv x).data.toList = z := ⟨_, rfl⟩
      have hz' : costW n xs ys ss (wv x) = z := hz
      obtain ⟨bs, bc, hbb⟩ : ∃ bs bc, bestW (costW n xs ys ss) (pre.map wv) = (bs, bc) := ⟨_, _, rfl⟩
      have hyes : z < 1000000 → bc < z → bestW (costW n xs ys ss) ((pre ++ [x]).map wv) = (wv x, z) := fun h h' => by
        rw [List.map_append, ← hz']; exact bestW_yes (by rw [hz']; exact h) (by rw [hz', hbb]; exact h')
      have hno : ¬ (z < 1000000 ∧ bc < z) → bestW (costW n xs ys ss) ((pre ++ [x]).map wv) = (bs, bc) := fun h => by
        rw [List.map_append, ← hbb]; exact bestW_no (by rw [hz', hbb]; exact h)
      rw [hbb] at h3 h3c
      have h3 : Blk W Tw 9 #[.string bs] := h3
      have h3c : Blk W Tc 48 #[.int .i64 bc] := h3c
      have HZ := Lib.hid hz
      have HYES := Lib.hid hyes
      have HNO := Lib.hid hno
      have H1 := Lib.hid h1
      have HXB := Lib.hid hXb
      have H2 := Lib.hid h2
      have H3 := Lib.hid h3
      have H3C := Lib.hid h3c
      have H4 := Lib.hid h4
      have H5 := Lib.hid h5
      have hsx : (wv x).size ≤ 1000 := by have := wv_size x; omega
      clear hz hz' hbb hyes hno h1 hXb h3 h3c h4 h5
      obtain ⟨d0, d1, d2, d3, d4, d5, d6, d7, d8, d9⟩ := ten_cells h2
      gi_wp2_with fail
      refine ⟨trivial, ?_⟩
      refine (CallsIn.inRound q (callsIn_wide.2 (costOf_any n M _ _ _ _ _ _ _ _ _ xs ys ss (wv x) _ n2 HXI.out HSI.out hsx (wv_ab x) rfl rfl H4.out))).mono ?_
      rintro e W1 ⟨rfl, hb1⟩
      rw [HZ.out]
      have hbW : W.heap.size ≤ W1.heap.size := hb1.size
      have H21 := Lib.hid (H2.out.below hb1 (Blk.lt H2.out))
      have H31 := Lib.hid (H3.out.below hb1 (Blk.lt H3.out))
      have H3C1 := Lib.hid (H3C.out.below hb1 (Blk.lt H3C.out))
      have H41 := Lib.hid (H4.out.below hb1)
      have H51 := Lib.hid (H5.out.trans (hb1.mono H5.out.size))
      have f0 := H31.out.frozen 0
      have fc0 := H3C1.out.frozen 0
      have cw0 := H31.out.cell 0
      have cc0 := H3C1.out.cell 0
      simp at cw0 cc0
      clear d0 d1 d2 d3 d4 d5 d6 d7 d8 d9 h2
      have HB1 := Lib.hid hb1
      clear hb1
      have hkeep : ∀ j, (j ∈ J ∨ j = nb ∨ j = W0.heap.size ∨ j = W0.heap.size + 1) → j < W.heap.size ∧ j ≠ Tw ∧ j ≠ Tc := fun j hj => by
        rcases hj with hj | hj | hj | hj
        · have := HXB.out j hj; omega
        · omega
        · omega
        · omega
      have HKEEP := Lib.hid hkeep
      clear hkeep
      have hNO : Hid (¬ (z < 1000000 ∧ bc < z) → overPost W0.heap.size (fun j => j = nb) (fun J pre W => (∀ j ∈ J, W0.heap.size ≤ j) ∧ Blk W X 45 #[.int .i64 n, .bool (hasB xs 0), .bool (hasB xs 1), .bool (hasB xs 2), .bool (hasB xs 3), .bool (hasB ys 0), .bool (hasB ys 1), .bool (hasB ys 2), .bool (hasB ys 3), .map (some M)] ∧ Blk W Tw 9 #[.string (bestW (costW n xs ys ss) (pre.map wv)).1] ∧ Blk W Tc 48 #[.int .i64 (bestW (costW n xs ys ss) (pre.map wv)).2] ∧ CMap W M cnt (costAt ss) ∧ Below w.heap.size w W ∧ W0.heap.size ≤ W.heap.size) J (pre ++ [x]) W .normal { tmps := #[], defers := [] } W1) := fun h => by
        have hb := HNO.out h
        refine ⟨⟨hbW, fun j hj => HB1.out.block j (HKEEP.out j hj).1⟩, H1.out, H21.out, ?_, ?_, H41.out, H51.out, Nat.le_trans h6 hbW⟩
        · rw [hb]; exact H31.out
        · rw [hb]; exact H3C1.out
      by_cases hlt : z < 1000000
      · by_cases hgt : bc < z
        · have HT := Lib.hid (HYES.out hlt hgt)
          clear HYES HNO hNO
          gi_wp2_with fail
          have hg1 : W1.grownBy (W1.setCell ⟨Tw, 0, none⟩ (.string (wv x))) (some Tw) := grow_set W1 Tw 0 _
          have hg2 : (W1.setCell ⟨Tw, 0, none⟩ (.string (wv x))).grownBy ((W1.setCell ⟨Tw, 0, none⟩ (.string (wv x))).setCell ⟨Tc, 0, none⟩ (.int .i64 z)) (some Tc) := grow_set _ Tc 0 _
          have hsz : W.heap.size ≤ ((W1.setCell ⟨Tw, 0, none⟩ (.string (wv x))).setCell ⟨Tc, 0, none⟩ (.int .i64 z)).heap.size := Nat.le_trans hbW (Nat.le_trans hg1.size hg2.size)
          have neXw : some X ≠ some Tw := fun e => by have := Option.some.inj e; omega
          have neXc : some X ≠ some Tc := fun e => by have := Option.some.inj e; omega
          have neMw : some M ≠ some Tw := fun e => by have := Option.some.inj e; omega
          have neMc : some M ≠ some Tc := fun e => by have := Option.some.inj e; omega
          have newc : some Tw ≠ some Tc := fun e => by have := Option.some.inj e; omega
          have necw : some Tc ≠ some Tw := fun e => by have := Option.some.inj e; omega
          refine ⟨⟨hsz, fun j hj => ?_⟩, H1.out, (H21.out.stay hg1 neXw).stay hg2 neXc, ?_, ?_, (H41.out.kept hg1 neMw).kept hg2 neMc, (H51.out.grown hg1 H51.out.size (fun j hj => by have := Option.some.inj hj; omega)).grown hg2 (by have := H51.out.size; have := hg1.size; omega) (fun j hj => by have := Option.some.inj hj; omega), Nat.le_trans h6 hsz⟩
          · obtain ⟨k1, k2, k3⟩ := HKEEP.out j hj
            exact (hg2.block j (by have := hg1.size; omega) (fun e => k3 (Option.some.inj e))).trans ((hg1.block j (by omega) (fun e => k2 (Option.some.inj e))).trans (HB1.out.block j k1))
          · rw [HT.out]
            exact (H31.out.set_ 0 (.string (wv x))).stay hg2 newc
          · rw [HT.out]
            exact (H3C1.out.stay hg1 necw).set_ 0 (.int .i64 z)
        · have HT := Lib.hid (hNO.out (by omega))
          clear HYES HNO hNO
          gi_wp2_with fail
          exact HT.out
      · have HT := Lib.hid (hNO.out (by omega))
        clear HYES HNO hNO
        gi_wp2_with fail
        exact HT.out
    case done =>
      rintro J vs W hvs ⟨h1, h2, h3, h3c, h4, h5, h6⟩ hK
      have hlast : (vs.map wv) = wordsTo (k + 1) := by rw [hvs, wordsP_wv _ (by omega)]
      rw [hlast] at h3 h3c
      obtain ⟨bs, bc, hbb⟩ : ∃ bs bc, bestW (costW n xs ys ss) (wordsTo (k + 1)) = (bs, bc) := ⟨_, _, rfl⟩
      rw [hbb] at h3 h3c
      have HBB := Lib.hid hbb
      have cw0 := h3.cell 0
      have cc0 := h3c.cell 0
      simp at cw0 cc0
      have HK := Lib.hid hK
      have H5 := Lib.hid h5
      clear hbb hlast hvs h1 h2 h3 h3c h4 h5 hK
      gi_wp2_with fail
      gi_region
      gi_wp2_with fail
      refine ⟨by simp, .inl ⟨_, _, rfl, run_takeDeferred HK.out, ?_⟩⟩
      exact ⟨_, results_2 rfl (Gives.tmp rfl) (Gives.tmp rfl), by rw [HBB.out]; rfl, Lib.hid (H5.out.drew.grown (grownBy_putObj' W.drew _ _) H5.out.drew.size (fun j hj => by have := Option.some.inj hj; have := hB0.out.size; omega))⟩
end Go.Proofs.YtfdbbopanankgaaDoor
