/- The letters of an automaton's steps, the program's: sorted and made one by the library; nothing that was there changes. No condition. -/
import Derived.Test.YtampdgnijenghaaLettersS
import Derived.Test.YtampdgnijenghaaLettersP
import Derived.Test.YtampdgnijenghaaJoin
import Derived.Sort.OwnSorted
namespace Go.Proofs.Ytampdgnijenghaa
open Go.RowKit Go.Sort
set_option maxHeartbeats 4000000
set_option maxRecDepth 100000
set_option linter.unusedVariables false

theorem blk_stayL {w w' : World} {g : Nat} {t : TypeId} {cs : Array Value} {row : Option Nat} (h : Blk w g t cs) (hg : w.grownBy w' row) (hne : some g ≠ row) : Blk w' g t cs := (hg.block g (Blk.lt h) hne).trans h
theorem info_stringL : (Try.prog.info? 9).map (fun i => (i.zero, i.size, i.bytes)) = some (some (.string ByteArray.empty), 1, 16) := by kernel_rfl
/-- The letters, each a text. -/
def letL (ss : List StepD) : List (List UInt8) := ss.map (fun s => s.le.data.toList)
theorem letL_len (ss : List StepD) : (letL ss).length = ss.length := by simp [letL]
theorem letL_enc (ss : List StepD) : (letL ss).map encStr = ss.map (fun s => Value.string s.le) := by
  unfold letL
  rw [List.map_map]
  exact List.map_congr_left fun s _ => by show Value.string ⟨s.le.data.toList.toArray⟩ = _; simp
theorem letL_two {n : Nat} {ss : List StepD} (h : ∀ s ∈ ss, stepOk n s = true) : ∀ x ∈ letL ss, x = LA ∨ x = LB := by
  intro x hx
  obtain ⟨s, hs, rfl⟩ := List.mem_map.1 hx
  rcases stepOk_l (h s hs) with e | e
  · left; rw [e]
  · right; rw [e]
theorem letL_has (c : UInt8) (ss : List StepD) : hasLet c ss = true ↔ [c] ∈ letL ss := by
  unfold hasLet letL
  simp [List.any_eq_true]
theorem letL_compact {n : Nat} {ss : List StepD} (h : ∀ s ∈ ss, stepOk n s = true) : Lib.compact ((letL ss).mergeSort fun x y => decide (x ≤ y)) = (ltrsL ss).map (fun c => [c]) := by
  rw [letters_sorted _ (letL_two h)]
  unfold ltrsL partL
  have ha := letL_has 97 ss
  have hb := letL_has 98 ss
  rw [List.map_append]
  congr 1
  · by_cases e : hasLet 97 ss = true
    · rw [if_pos e, if_pos (ha.1 e)]; rfl
    · rw [if_neg e, if_neg (fun h => e (ha.2 h))]; rfl
  · by_cases e : hasLet 98 ss = true
    · rw [if_pos e, if_pos (hb.1 e)]; rfl
    · rw [if_neg e, if_neg (fun h => e (hb.2 h))]; rfl
theorem ltrs_cases (ss : List StepD) : ltrsL ss = [] ∨ ltrsL ss = [97] ∨ ltrsL ss = [98] ∨ ltrsL ss = [97, 98] := by
  unfold ltrsL partL
  rcases hasLet 97 ss with _ | _ <;> rcases hasLet 98 ss with _ | _ <;> simp

theorem compact_le (zs : List (List UInt8)) : (Lib.compact zs).length ≤ zs.length := by
  unfold Lib.compact Lib.compactUpTo
  rw [List.length_map]
  exact Nat.le_trans (List.length_filter_le _ _) (by simp)

theorem iLetters_yes (n c1 c2 c3 : Nat) (A1 A2 A3 : Option Addr) (xs ys : List Int) (ss : List StepD) (w : World) (hx : Ints w w.heap.size A1 xs) (hy : Ints w w.heap.size A2 ys) (hs : SRow w w.heap.size A3 ss) (hok : autoOk n xs ys ss = true) (hsl : ss.length ≤ 24) (hsi : ∀ s ∈ ss, stepOk n s = true) :
    Calls Try.prog 7 #[.agg #[.int .i64 n, .slice A1 xs.length c1, .slice A2 ys.length c2, .slice A3 ss.length c3]] w fun e w' => e = .returned (.string ⟨(ltrsL ss).toArray⟩) ∧ Hid (Below w.heap.size w w') := by
  have HX0 := Lib.hid (ints_al hx (.cells #[.int .i64 n, .slice A1 xs.length c1, .slice A2 ys.length c2, .slice A3 ss.length c3] 30))
  have HY0 := Lib.hid (ints_al hy (.cells #[.int .i64 n, .slice A1 xs.length c1, .slice A2 ys.length c2, .slice A3 ss.length c3] 30))
  have HS0 := Lib.hid (hs.al (.cells #[.int .i64 n, .slice A1 xs.length c1, .slice A2 ys.length c2, .slice A3 ss.length c3] 30))
  have K0 := Lib.hid (Blk.new w 30 #[.int .i64 n, .slice A1 xs.length c1, .slice A2 ys.length c2, .slice A3 ss.length c3])
  have B0 := Lib.hid (below_a1 w (.cells #[.int .i64 n, .slice A1 xs.length c1, .slice A2 ys.length c2, .slice A3 ss.length c3] 30))
  have HOK := Lib.hid hok
  have HS := Lib.hid hs
  have HCP := Lib.hid (letL_compact hsi)
  obtain ⟨i0, hi, hz0, hz1, hz2⟩ := info_parts info_stringL
  have hb2 : i0.bytes * ss.length ≤ 281474976710656 := by rw [hz2]; omega
  have hm : ss.length ≤ maxLen := by unfold maxLen; omega
  have ZI := Lib.hid hi
  have Z0 := Lib.hid hz0
  have Z1 := Lib.hid hz1
  have HB2 := Lib.hid hb2
  have HM := Lib.hid hm
  clear hi hz0 hz1 hz2 hb2 hm hx hy hs hok hsi
  go_enter Try.func7, Try.ntmps7
  go_wp2_with fail
  refine (iAutomatonValid_is _ _ _ _ _ _ _ _ _ _ true _ HX0.out HY0.out HS0.out HOK.out).mono ?_
  rintro e w1 ⟨rfl, hb1⟩
  have B1 := Lib.hid (below_on B0.out hb1.out)
  have K1 := Lib.hid (blk_b K0.out hb1.out)
  obtain ⟨k0, k1, k2, k3⟩ := four_cells K1.out
  have kl := Blk.lt K1.out
  clear HX0 HY0 HS0 K0 B0 hb1
  go_wp2_with (first | (at_make; refine wpList_make_full _ rfl _ _ 36 rfl w.heap.size 9 i0 (.string ByteArray.empty) 1 Try.underlying36 ZI.out Z0.out Z1.out _ _ _ _ ss.length rfl rfl rfl rfl HB2.out HM.out B1.out.size ?_; intro w2 hown hgr; have K2 := Lib.hid (blk_stayL K1.out hgr (by simp)); obtain ⟨m0, m1, m2, m3⟩ := four_cells K2.out; have ml := Blk.lt K2.out) | fail)
  obtain ⟨G, hG⟩ : ∃ G, G = w1.heap.size := ⟨_, rfl⟩
  have B2 : Hid (Below w.heap.size w w2) := B1.out.grown hgr B1.out.size (fun j hj => by cases hj)
  rw [← hG] at hown ⊢
  have hGw : w.heap.size < G := by rw [hG]; exact kl
  have hgw2 : G < w2.heap.size := by
    have := (hown.lt G rfl).2
    exact this
  have HOWN := Lib.hid hown
  clear hown hgr B1 K1 k0 k1 k2 k3 kl m0 m1 m2 m3 ml hG
  go_loopw [16] (fun i wr => ∃ (k : Nat) (cs : List Value), k ≤ ss.length ∧ i = .int .i64 k ∧ Hid (wr.ownsRow w.heap.size 9 1 (.slice (some ⟨G, 0, none⟩) ss.length ss.length) ss.length cs) ∧ Hid (cs.take k = (ss.take k).map (fun s => Value.string s.le)) ∧ Hid (Below w.heap.size w wr)) (fun i _ => ss.length - (intOf i).toNat)
  case atStart => exact ⟨0, _, Nat.zero_le _, rfl, HOWN, rfl, B2⟩
  case round =>
    clear HOWN B2 K2
    obtain ⟨k, cs, hk, rfl, hown, htk, hb⟩ := hrel
    have HCS : Hid (cs.length = ss.length) := by have := hown.out.1; show _ = _; omega
    by_cases hlt : k < ss.length
    · obtain ⟨b, off, s, e, hbN, hst, hsl', _, hsg⟩ := (HS.out.below hb.out).at_ hlt
      obtain ⟨q0, q1, q2, q3⟩ := hst
      subst e
      have hk0 : (0 : Int) ≤ (k : Int) := by omega
      have hk1 : (k : Int) < (ss.length : Int) := by omega
      have O1 := Lib.hid (hown.out.alloc (.cells #[.int .i64 s.fr, .string s.le, .int .i64 s.to_, .int .i64 s.co] 38))
      obtain ⟨u0, hcell⟩ : ∃ u0, wr.cell? ⟨G, k, none⟩ = some u0 := ⟨_, by rw [hown.out.cellAt k (by omega), List.getElem?_eq_getElem (by have := HCS.out; omega)]⟩
      have hfr := hown.out.frozenAt k
      have hgl : G < wr.heap.size := (hown.out.lt G rfl).2
      obtain ⟨hst, hgs⟩ := hown.out.stored k (.string s.le)
      have HST := Lib.hid hst
      have HG := Lib.hid hgs
      have HT : Hid ((ss.take (k + 1)).map (fun s => Value.string s.le) = (ss.take k).map (fun s => Value.string s.le) ++ [.string s.le]) := by
        show _ = _
        rw [take_stL hlt hsg, List.map_append]; rfl
      clear hsg hst hgs O1
      go_wp2_with fail
      go_roundw
      case rel => exact ⟨k + 1, _, by omega, by go_num, Lib.hid (HST.out.alloc _), by show _ = _; rw [take_set_snoc _ _ _ (by have := HCS.out; omega), htk.out, HT.out], Lib.hid (below_al (hb.out.grown HG.out hb.out.size (fun j hj => by have := Option.some.inj hj; omega)) (Nat.le_refl _) _)⟩
      case measure => simp [intOf]; omega
    · have hkl : k = ss.length := by omega
      have hcs : cs = (letL ss).map encStr := by
        have h1 := htk.out
        have h2 := HCS.out
        rw [List.take_of_length_le (by omega), hkl, List.take_length] at h1
        rw [h1, letL_enc]
      have ho := hown.out
      rw [hcs] at ho
      have hl2 := letL_len ss
      go_wp2_with fail
      obtain ⟨N, hN⟩ : ∃ N, N = ss.length := ⟨_, rfl⟩
      rw [← hN] at ho hsl hl2 ⊢
      obtain ⟨L, hL⟩ : ∃ L, L = letL ss := ⟨_, rfl⟩
      rw [← hL] at ho hl2 HCP
      rcases ho.2 with ⟨hnil, _⟩ | ⟨g, cap, cur, hv, hbase, hblk, h1, h2, h3, h4⟩
      · cases hnil
      cases hv
      have hold := holds_of_block (ss := L) hblk (by rw [hl2, ← Nat.mul_one N]; exact h4)
      have hgs : G < wr.heap.size := (Array.getElem?_eq_some_iff.1 hblk).1
      have hB := Lib.hid hb.out
      have HLE := Lib.hid hl2
      have CS := Try.slices_Sort_string G 0 N L wr hold hgs (by omega)
      rw [hl2] at CS
      clear hown htk hb hcs HCS hkl hlt hk hL
      refine CS.mono ?_
      rintro e w4 ⟨rfl, q, os, hw4⟩
      have hs4 : ∀ ts : List (List UInt8), ts.length = L.length → w4 = grow (putRow encStr (Sort.ahead wr q) G 0 ts.toArray) os → w4.ownsRow w.heap.size 9 1 (.slice (some ⟨G, 0, none⟩) N N) N (ts.map encStr) ∧ w4.heap[G]? = some (.cells (putCells encStr 0 ts.toArray cur) 9 (0, 0)) := fun ts hts e => by
        subst e
        have h := ownsRow_sorted (w := wr) (n := q) (os := os) hts hbase hblk (by rw [hl2]; exact h1) h2 h3
        rw [hl2] at h
        exact ⟨h, heap_sorted _ hblk⟩
      obtain ⟨O4, hblk4⟩ := hs4 (L.mergeSort fun x y => decide (x ≤ y)) (by simp) hw4
      have hg4 : wr.grownBy w4 (some G) := by rw [hw4]; exact grownBy_sorted _
      have B4 := Lib.hid (hB.out.grown hg4 hB.out.size (fun j hj => by have := Option.some.inj hj; omega))
      obtain ⟨Z, hZ⟩ : ∃ Z, Z = L.mergeSort fun x y => decide (x ≤ y) := ⟨_, rfl⟩
      rw [← hZ] at O4 hblk4
      have hZl : Z.length = N := by rw [hZ]; simp [hl2]
      have hcz : (putCells encStr 0 Z.toArray cur).size = N * 1 := by simp [putCells, h3]
      have hold4 := holds_of_block (ss := Z) hblk4 (by
        have := take_putCells cur Z (by rw [hZl]; omega)
        exact this)
      have CC := Try.slices_Compact_string G 0 N Z w4 hold4 (by omega) (by omega)
      rw [hZl] at CC
      rw [← hZ] at HCP
      have HZL := Lib.hid hZl
      have HCC := Lib.hid CC
      have HB4 := Lib.hid hblk4
      have HCZ := Lib.hid hcz
      clear hs4 hw4 hg4 CS hold hgs hZ hblk CC hblk4 hcz hold4 O4 h3 h4 hZl
      go_wp2_with fail
      subst hN
      refine HCC.out.mono ?_
      rintro e w5 ⟨rfl, q5, hw5⟩
      have hblk4 := HB4.out
      have hcz := HCZ.out
      have hZl := HZL.out
      obtain ⟨N, hN⟩ : ∃ N, N = ss.length := ⟨_, rfl⟩
      rw [← hN] at hcz hZl hw5 ⊢
      have HN := Lib.hid hN
      clear hN
      obtain ⟨D, hD⟩ : ∃ D, D = Lib.compact Z := ⟨_, rfl⟩
      rw [← hD] at hw5 HCP ⊢
      have hDN : D.length ≤ N := by rw [hD, ← hZl]; exact compact_le Z
      have hg5 : w4.grownBy w5 (some G) := by
        have h := grownBy_sorted (w := w4) (g := G) (n := q5) (os := #[]) (D ++ List.replicate (N - D.length) []).toArray
        rw [grow_empty] at h
        rw [hw5]
        exact h
      have hblk5 : w5.heap[G]? = some (.cells (putCells encStr 0 (D ++ List.replicate (N - D.length) []).toArray (putCells encStr 0 Z.toArray cur)) 9 (0, 0)) := by
        have h := heap_sorted (n := q5) (os := #[]) (D ++ List.replicate (N - D.length) []).toArray hblk4
        rw [grow_empty] at h
        rw [hw5]
        exact h
      have B5 := Lib.hid (B4.out.grown hg5 B4.out.size (fun j hj => by have := Option.some.inj hj; omega))
      have hcell : ∀ (j : Nat) (x : List UInt8), D[j]? = some x → w5.cell? ⟨G, j, none⟩ = some (.string ⟨x.toArray⟩) := fun j x hj => by
        have hjD : j < D.length := (List.getElem?_eq_some_iff.1 hj).1
        rw [Lib.cell_of_heap hblk5]
        have h1 := take_putCells (putCells encStr 0 Z.toArray cur) (D ++ List.replicate (N - D.length) []) (by simp [hcz]; omega)
        have h2 := congrArg (·[j]?) h1
        simp only [List.length_append, List.length_replicate] at h2
        rw [List.getElem?_take_of_lt (by omega), Array.getElem?_toList, List.getElem?_map, List.getElem?_append_left hjD, hj] at h2
        simpa [encStr] using h2
      have hGw5 : G < w5.heap.size := (Array.getElem?_eq_some_iff.1 hblk5).1
      have HCELL := Lib.hid hcell
      clear hblk5 hg5 hw5 hD hblk4 hcell B4 hcz hZl HZL HB4 HCZ
      rcases ltrs_cases ss with hc | hc | hc | hc
      · have eD : D = [] := by rw [HCP.out, hc]; rfl
        subst eD
        have HC := Lib.hid hc
        clear hc
        go_wp2_with fail
        refine (join_none _ _ _).mono ?_
        rintro e w6 ⟨rfl, rfl⟩
        go_wp2_with fail
        go_ret
        exact ⟨by rw [HC.out]; rfl, B5⟩
      · have eD : D = [[97]] := by rw [HCP.out, hc]; rfl
        subst eD
        have d0 := HCELL.out 0 [97] rfl
        have HC := Lib.hid hc
        clear hc
        go_wp2_with fail
        refine (join_one G _ _ _ d0).mono ?_
        rintro e w6 ⟨rfl, rfl⟩
        go_wp2_with fail
        go_ret
        exact ⟨by rw [HC.out]; rfl, B5⟩
      · have eD : D = [[98]] := by rw [HCP.out, hc]; rfl
        subst eD
        have d0 := HCELL.out 0 [98] rfl
        have HC := Lib.hid hc
        clear hc
        go_wp2_with fail
        refine (join_one G _ _ _ d0).mono ?_
        rintro e w6 ⟨rfl, rfl⟩
        go_wp2_with fail
        go_ret
        exact ⟨by rw [HC.out]; rfl, B5⟩
      · have eD : D = [[97], [98]] := by rw [HCP.out, hc]; rfl
        subst eD
        have d0 := HCELL.out 0 [97] rfl
        have d1 := HCELL.out 1 [98] rfl
        have HC := Lib.hid hc
        clear hc
        go_wp2_with fail
        refine (join_ab G _ _ hDN hGw5 d0 d1).mono ?_
        rintro e w6 ⟨rfl, hb6⟩
        have B6 := Lib.hid (below_on B5.out hb6)
        clear hb6
        go_wp2_with fail
        go_ret
        exact ⟨by rw [HC.out]; rfl, B6⟩

theorem iLetters_any (m : Int) (A1 A2 A3 : Option Addr) (c1 c2 c3 : Nat) (xs ys : List Int) (ss : List StepD) (r : ByteArray) (w : World) (hx : Ints w w.heap.size A1 xs) (hy : Ints w w.heap.size A2 ys) (hs : SRow w w.heap.size A3 ss) (hr : lettersR m xs ys ss = r) :
    Calls Try.prog 7 #[.agg #[.int .i64 m, .slice A1 xs.length c1, .slice A2 ys.length c2, .slice A3 ss.length c3]] w fun e w' => e = .returned (.string r) ∧ Hid (Below w.heap.size w w') := by
  obtain ⟨b, hb⟩ : ∃ b, autoOk m xs ys ss = b := ⟨_, rfl⟩
  cases b
  · rw [← hr, lettersR_no hb]
    have HX0 := Lib.hid (ints_al hx (.cells #[.int .i64 m, .slice A1 xs.length c1, .slice A2 ys.length c2, .slice A3 ss.length c3] 30))
    have HY0 := Lib.hid (ints_al hy (.cells #[.int .i64 m, .slice A1 xs.length c1, .slice A2 ys.length c2, .slice A3 ss.length c3] 30))
    have HS0 := Lib.hid (hs.al (.cells #[.int .i64 m, .slice A1 xs.length c1, .slice A2 ys.length c2, .slice A3 ss.length c3] 30))
    have B0 := Lib.hid (below_a1 w (.cells #[.int .i64 m, .slice A1 xs.length c1, .slice A2 ys.length c2, .slice A3 ss.length c3] 30))
    have HOK := Lib.hid hb
    clear hx hy hs hb hr
    go_enter Try.func7, Try.ntmps7
    go_wp2_with fail
    refine (iAutomatonValid_is _ _ _ _ _ _ _ _ _ _ false _ HX0.out HY0.out HS0.out HOK.out).mono ?_
    rintro e w1 ⟨rfl, hb1⟩
    have B1 := Lib.hid (below_on B0.out hb1.out)
    go_wp2_with fail
    go_ret
    exact ⟨rfl, B1⟩
  · rw [← hr, lettersR_yes hb]
    obtain ⟨n, rfl, hl, hsi⟩ := letAuto_in hb
    exact iLetters_yes n c1 c2 c3 A1 A2 A3 xs ys ss w hx hy hs hb hl hsi
end Go.Proofs.Ytampdgnijenghaa
