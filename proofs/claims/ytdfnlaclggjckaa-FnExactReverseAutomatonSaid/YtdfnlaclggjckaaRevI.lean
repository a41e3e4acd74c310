/- The program's automaton whose steps go back: a new one of the call's own. Condition: none. -/
import Derived.Test.YtdfnlaclggjckaaAutR
import Derived.Test.YtdfnlaclggjckaaCostP
import Derived.Test.YtdfnlaclggjckaaTurned
namespace Go.Proofs.Ytdfnlaclggjckaa
open Go.RowKit
set_option maxHeartbeats 4000000
set_option maxRecDepth 100000
set_option linter.unusedVariables false

theorem iRev_any (m : Int) (A1 A2 A3 : Option Addr) (c1 c2 c3 : Nat) (xs ys : List Int) (ss : List StepD) (w : World) (hx : Ints w w.heap.size A1 xs) (hy : Ints w w.heap.size A2 ys) (hs : SRow w w.heap.size A3 ss) :
    Calls Try.prog 38 #[.agg #[.int .i64 m, .slice A1 xs.length c1, .slice A2 ys.length c2, .slice A3 ss.length c3]] w fun e w' => AEnd (revV m xs ys ss) w e w' := by
  have HX0 := Lib.hid (ints_al (ints_al hx (.cells #[.int .i64 m, .slice A1 xs.length c1, .slice A2 ys.length c2, .slice A3 ss.length c3] 29)) (.cells #[.int .i64 0, .slice none 0 0, .slice none 0 0, .slice none 0 0] 29))
  have HY0 := Lib.hid (ints_al (ints_al hy (.cells #[.int .i64 m, .slice A1 xs.length c1, .slice A2 ys.length c2, .slice A3 ss.length c3] 29)) (.cells #[.int .i64 0, .slice none 0 0, .slice none 0 0, .slice none 0 0] 29))
  have HS := Lib.hid ((hs.al (.cells #[.int .i64 m, .slice A1 xs.length c1, .slice A2 ys.length c2, .slice A3 ss.length c3] 29)).al (.cells #[.int .i64 0, .slice none 0 0, .slice none 0 0, .slice none 0 0] 29))
  clear hx hy hs
  obtain ⟨ok, hok⟩ : ∃ b, autoOk m xs ys ss = b := ⟨_, rfl⟩
  have HOK := Lib.hid hok
  cases ok
  · have HR : revV m xs ys ss = noneV := by unfold revV; rw [if_neg (by rw [hok]; decide)]
    rw [HR]
    clear hok HR
    go_enter Try.func38, Try.ntmps38
    go_wp2_with fail
    refine (machineOf_no _ _ _ _ _ _ _ _ _ _ _ HX0.out HY0.out HS.out HOK.out).mono ?_
    rintro e w1 ⟨rfl, hb1⟩
    have B1 := Lib.hid (below_on (below_a2 w _ _) hb1.out)
    have R1 : Hid (Blk w1 (w.heap.size + 1) 29 #[.int .i64 0, .slice none 0 0, .slice none 0 0, .slice none 0 0]) := (blk_new (by simp)).below hb1.out (by simp)
    clear hb1 HX0 HY0 HS
    have hw1 := Blk.lt R1.out
    obtain ⟨R, hR⟩ : ∃ R, R = w.heap.size + 1 := ⟨_, rfl⟩
    rw [← hR] at R1 hw1
    rw [← hR]
    have hwR : w.heap.size ≤ R := by omega
    clear hR
    have hw1s := B1.out.size
    obtain ⟨d0, d1, d2, d3⟩ := four_cells R1.out
    obtain ⟨f0, f1, f2, f3⟩ := four_frozen R1.out
    go_wp2_with fail
    have HF := Blk.alloc (four_set R1.out (.int .i64 0) (.slice none 0 0) (.slice none 0 0) (.slice none 0 0)) (.cells #[.int .i64 0, .bool false, .bool false, .bool false, .bool false, .bool false, .bool false, .bool false, .bool false, .map none] 58)
    have HB := below_al (B1.out.grown (four_grow w1 R (.int .i64 0) (.slice none 0 0) (.slice none 0 0) (.slice none 0 0)) hw1s (fun j hj => by cases hj; exact hwR)) (Nat.le_refl _) (.cells #[.int .i64 0, .bool false, .bool false, .bool false, .bool false, .bool false, .bool false, .bool false, .bool false, .map none] 58)
    refine bodyPost_ret (results_2 rfl (Gives.row (g := R) rfl HF Try.underlying29 rfl (by kernel_rfl)) (Gives.tmp rfl)) rfl ?_
    exact ⟨_, _, _, rfl, AOwn.none _ _, HB⟩
  · obtain ⟨n, hmn, n1, n4, hxi, hyi, hsl, hsi⟩ := auto_in hok
    subst hmn
    obtain ⟨hmx, hmy⟩ := auto_mk hok
    have EX := Lib.hid (selB_has n4 hmx)
    have EY := Lib.hid (selB_has n4 hmy)
    have HMV := Lib.hid (auto_mv hok)
    obtain ⟨zs, hzs⟩ : ∃ zs, zs = putsL (ss.map swS) := ⟨_, rfl⟩
    have HR : revV (n : Int) xs ys ss = ⟨n, ys, xs, zs, true⟩ := by unfold revV; rw [if_pos hok, hzs]
    have HEQ : Hid (∀ us : List StepD, us.Pairwise (fun s t => code s < code t) → (∀ s, s ∈ us ↔ mvOk s ∧ costAt ss s.to_ s.le s.fr = some s.co) → us = zs) := fun us h1 h2 => by rw [hzs]; exact rev_eq hok h1 h2
    rw [HR]
    clear hok HR hxi hyi hsi hmx hmy hzs
    go_enter Try.func38, Try.ntmps38
    go_wp2_with fail
    refine (machineOf_ok _ _ _ _ _ _ _ _ _ _ _ HX0.out HY0.out HS.out HOK.out).mono ?_
    rintro e w1 ⟨M, rfl, hM, hmap, hb1⟩
    have B1 := Lib.hid (below_on (below_a2 w _ _) hb1.out)
    have R1 : Hid (Blk w1 (w.heap.size + 1) 29 #[.int .i64 0, .slice none 0 0, .slice none 0 0, .slice none 0 0]) := (blk_new (by simp)).below hb1.out (by simp)
    obtain ⟨R, hR⟩ : ∃ R, R = w.heap.size + 1 := ⟨_, rfl⟩
    rw [← hR] at R1
    rw [← hR]
    have hwR : w.heap.size ≤ R := by omega
    have hRw := Blk.lt R1.out
    clear hR hb1 HX0 HY0 HS hM
    have MP := Lib.hid hmap.out
    clear hmap
    go_upto_region 4 with fail
    have MP2 := Lib.hid (MP.out.kept (World.grownBy_alloc w1 (.cells #[.int .i64 n, .bool (hasB xs 0), .bool (hasB xs 1), .bool (hasB xs 2), .bool (hasB xs 3), .bool (hasB ys 0), .bool (hasB ys 1), .bool (hasB ys 2), .bool (hasB ys 3), .map (some M)] 58) none) (by simp))
    have R2 := Lib.hid (R1.out.alloc (.cells #[.int .i64 n, .bool (hasB xs 0), .bool (hasB xs 1), .bool (hasB xs 2), .bool (hasB xs 3), .bool (hasB ys 0), .bool (hasB ys 1), .bool (hasB ys 2), .bool (hasB ys 3), .map (some M)] 58))
    have B2 := Lib.hid (below_al B1.out (Nat.le_refl _) (.cells #[.int .i64 n, .bool (hasB xs 0), .bool (hasB xs 1), .bool (hasB xs 2), .bool (hasB xs 3), .bool (hasB ys 0), .bool (hasB ys 1), .bool (hasB ys 2), .bool (hasB ys 3), .map (some M)] 58))
    clear MP R1 B1
    go_wp2_with fail
    refine (mturned_any n M ss.length _ _ _ _ _ _ _ _ (costAt ss) _ MP2.out (by omega)).mono ?_
    rintro e w3 ⟨M', rfl, hb3, hM', hmap'⟩
    have MP3 := Lib.hid hmap'
    have R3 := Lib.hid (blk_b R2.out hb3)
    have B3 := Lib.hid (below_on B2.out hb3)
    clear hb3 hM' hmap' MP2 R2 B2
    go_wp2_with fail
    refine (automaton_any n M' ss.length _ _ _ _ _ _ _ _ (fun f l t => costAt ss t l f) _ MP3.out (by omega) (fun f l t c _ h => by obtain ⟨a, b, d, e, g⟩ := cost_mv (d := c) HMV.out h; exact ⟨d, e, a, b, g⟩)).mono ?_
    rintro e w4 ⟨x1, x2, x3, us, rfl, ho, hlen, hpw, hmem, hb4⟩
    have hus := HEQ.out us hpw hmem
    subst hus
    have R4 := Lib.hid (blk_b R3.out hb4.out)
    have B4 := Lib.hid (below_on B3.out hb4.out)
    have OW := ho.out
    rw [EY.out, EX.out] at OW
    have O4 := Lib.hid OW
    obtain ⟨⟨E1, k1, e1, _⟩, ⟨E2, k2, e2, _⟩, ⟨E3, k3, e3, _⟩⟩ := OW.read
    subst e1
    subst e2
    subst e3
    have L4 : Hid (∀ j, (Value.slice E1 ys.length k1).ownBlock = some j ∨ (Value.slice E2 xs.length k2).ownBlock = some j ∨ (Value.slice E3 us.length k3).ownBlock = some j → w3.heap.size ≤ j) := fun j hj => by
      obtain ⟨h1, h2, h3, _⟩ := OW
      rcases hj with hj | hj | hj
      · exact (h1.lt j hj).1
      · exact (h2.lt j hj).1
      · exact (h3.lt j hj).1
    have hR3 := Blk.lt R3.out
    have hw3 := B3.out.size
    have hw4 := B4.out.size
    clear ho hmem hb4 OW MP3 R3 B3
    obtain ⟨d0, d1, d2, d3⟩ := four_cells R4.out
    obtain ⟨f0, f1, f2, f3⟩ := four_frozen R4.out
    go_wp2_with fail
    have HF := four_set R4.out (.int .i64 n) (.slice E1 ys.length k1) (.slice E2 xs.length k2) (.slice E3 us.length k3)
    have HG := four_grow w4 R (.int .i64 n) (.slice E1 ys.length k1) (.slice E2 xs.length k2) (.slice E3 us.length k3)
    refine bodyPost_ret (results_2 rfl (Gives.row (g := R) rfl HF Try.underlying29 rfl (by kernel_rfl)) (Gives.tmp rfl)) rfl ?_
    obtain ⟨h1, h2, h3, h4⟩ := O4.out
    refine ⟨_, _, _, rfl, ⟨own_base (h1.kept HG (own_ne (fun j hj e => by cases e; have := L4.out _ (Or.inl hj); omega))) hw3, own_base (h2.kept HG (own_ne (fun j hj e => by cases e; have := L4.out _ (Or.inr (Or.inl hj)); omega))) hw3, own4_base (h3.kept HG (own_ne (fun j hj e => by cases e; have := L4.out _ (Or.inr (Or.inr hj)); omega))) hw3, h4⟩, B4.out.grown HG hw4 (fun j hj => by cases hj; exact hwR)⟩
end Go.Proofs.Ytdfnlaclggjckaa
