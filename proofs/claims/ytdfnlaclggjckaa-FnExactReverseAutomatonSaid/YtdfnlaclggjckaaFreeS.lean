/- The model's automaton with just those steps that cost nothing. Condition: as for its copy. -/
import Derived.Test.YtdfnlaclggjckaaOwnA
import Derived.Test.YtdfnlaclggjckaaAutS
namespace Go.Proofs.Ytdfnlaclggjckaa
open Go.RowKit
set_option maxHeartbeats 4000000
set_option maxRecDepth 100000
set_option linter.unusedVariables false

def freeL (ss : List StepD) : List StepD := ss.filter (fun s => decide (s.co = 0))
def freeV (m : Int) (xs ys : List Int) (ss : List StepD) : AutV := if autoOk m xs ys ss = true then ⟨m, xs, ys, freeL ss, true⟩ else noneV
theorem freeL_snoc (ss : List StepD) (s : StepD) : freeL (ss ++ [s]) = if s.co = 0 then freeL ss ++ [s] else freeL ss := by
  unfold freeL
  rw [List.filter_append]
  by_cases h : s.co = 0
  · simp [h]
  · simp [h]
theorem freeL_len (ss : List StepD) : (freeL ss).length ≤ ss.length := List.length_filter_le _ _
theorem take_snoc_s {ss : List StepD} {k : Nat} {s : StepD} (hk : k < ss.length) (hs : ss.getD k default = s) : ss.take (k + 1) = ss.take k ++ [s] := by
  rw [List.take_succ_eq_append_getElem hk]
  rw [List.getD_eq_getElem?_getD, List.getElem?_eq_getElem hk] at hs
  simp at hs
  rw [hs]

theorem lit_news2 (w : World) (o : Obj) (cs : Array Value) (t : TypeId) : ∀ j u, cs.toList[j]? = some u → ((w.alloc o).alloc (.cells cs t)).cell? ((⟨w.heap.size + 1, 0, none⟩ : Addr).add j) = some u :=
  World.news_of_block (by have := heap_alloc_new (w.alloc o) (.cells cs t); rwa [World.size_alloc] at this)
theorem irow_nil (w : World) (B : Nat) (A : Option Addr) : Ints w B A [] := ⟨Nat.zero_le _, fun h => absurd h (by simp)⟩
theorem own_low {w w' : World} {B N n k : Nat} {t : TypeId} {x : Value} {xs : List Value} (h : w.ownsRow B t k x n xs) (hb : Below N w w') (hl : ∀ j, x.ownBlock = some j → j < N) : w'.ownsRow B t k x n xs := by
  rcases h with ⟨h1, h2 | ⟨g, cap, cur, rfl, hB, hg, rest⟩⟩
  · exact ⟨h1, .inl h2⟩
  · exact ⟨h1, .inr ⟨g, cap, cur, rfl, hB, (hb.block g (hl g rfl)).trans hg, rest⟩⟩
theorem sFree_any (m : Int) (a1 a2 a3 : Addr) (c1 c2 c3 : Nat) (xs ys : List Int) (ss : List StepD) (w : World) (hx : Ints w w.heap.size (some a1) xs) (hy : Ints w w.heap.size (some a2) ys) (hs : SRow w w.heap.size (some a3) ss) (lx : xs.length ≤ 1048576) (ly : ys.length ≤ 1048576) (ls : ss.length ≤ 1048576) :
    Calls Try.prog 39 #[.agg #[.int .i64 m, .slice (some a1) xs.length c1, .slice (some a2) ys.length c2, .slice (some a3) ss.length c3]] w fun e w' => SEnd (freeV m xs ys ss) w e w' := by
  obtain ⟨j0, kj, kz0, kz1, kz2⟩ := info_step'
  have Y0 := Lib.hid kz0
  have Y1 := Lib.hid kz1
  have Y2 := Lib.hid kz2
  have YI := Lib.hid kj
  obtain ⟨r, hr⟩ : ∃ r, autoOk m xs ys ss = r := ⟨_, rfl⟩
  have HR := Lib.hid hr
  have HX := Lib.hid hx
  have HY := Lib.hid hy
  have HS := Lib.hid hs
  clear kz0 kz1 kz2 kj hx hy hs
  unfold freeV
  rw [hr]
  clear hr
  go_enter Try.func39, Try.ntmps39
  go_upto_region 1 with fail
  obtain ⟨A, hA⟩ : ∃ A, A = w.heap.size := ⟨_, rfl⟩
  obtain ⟨R, hR⟩ : ∃ R, R = w.heap.size + 1 := ⟨_, rfl⟩
  obtain ⟨w1, hw1⟩ : ∃ w1, w1 = (w.alloc (.cells #[.int .i64 m, .slice (some a1) xs.length c1, .slice (some a2) ys.length c2, .slice (some a3) ss.length c3] 29)).alloc (.cells #[.int .i64 0, .slice none 0 0, .slice none 0 0, .slice none 0 0] 29) := ⟨_, rfl⟩
  have A1 : Hid (Blk w1 A 29 #[.int .i64 m, .slice (some a1) xs.length c1, .slice (some a2) ys.length c2, .slice (some a3) ss.length c3]) := by rw [hw1, hA]; exact (Blk.new _ _ _).alloc _
  have R1 : Hid (Blk w1 R 29 #[.int .i64 0, .slice none 0 0, .slice none 0 0, .slice none 0 0]) := by rw [hw1, hR]; exact blk_new (by simp)
  have B1 : Hid (Below w.heap.size w w1) := by rw [hw1]; exact below_a2 w _ _
  rw [← hw1, ← hR, ← hA]
  have hs1 : w1.heap.size = R + 1 := by rw [hw1, hR]; simp
  have hAR : A < R := by omega
  have hwA : w.heap.size ≤ A := by omega
  have hR1 : R < w1.heap.size := by omega
  clear hw1 hA hR hs1
  obtain ⟨p0, p1, p2, p3⟩ := four_cells A1.out
  go_wp2_with fail
  refine (sOwn_any m a1 a2 a3 c1 c2 c3 xs ys ss _ ((HX.out.below B1.out).more B1.out.size) ((HY.out.below B1.out).more B1.out.size) ((HS.out.below B1.out).more B1.out.size) lx ly ls).mono ?_
  rintro e w2 ⟨x1, x2, x3, rfl, O2, hb2⟩
  have A2 := Lib.hid (blk_b A1.out hb2.out)
  have R2 := Lib.hid (blk_b R1.out hb2.out)
  have B2 := Lib.hid (below_on B1.out hb2.out)
  have RD2 := Lib.hid O2.out.read
  have L2 : Hid (∀ j, x1.ownBlock = some j ∨ x2.ownBlock = some j ∨ x3.ownBlock = some j → R < j ∧ j < w2.heap.size) := fun j hj => by
    obtain ⟨h1, h2, h3, _⟩ := O2.out
    rcases hj with hj | hj | hj
    · have := h1.lt j hj; omega
    · have := h2.lt j hj; omega
    · have := h3.lt j hj; omega
  obtain ⟨E1, k1, e1, _, _⟩ := own_ints O2.out.1 (by unfold maxLen; omega)
  obtain ⟨E2, k2, e2, _, _⟩ := own_ints O2.out.2.1 (by unfold maxLen; omega)
  obtain ⟨E3, k3, e3, _⟩ := own_read4 O2.out.2.2.1 rfl (by omega) HS.out.2.1
  subst e1
  subst e2
  subst e3
  have hA2 := Blk.lt A2.out
  clear p0 p1 p2 p3 A1 R1 B1 hb2
  obtain ⟨f0, f1, f2, f3⟩ := four_frozen A2.out
  obtain ⟨p0, p1, p2, p3⟩ := four_cells A2.out
  go_upto_region 2 with fail
  obtain ⟨w3, hw3⟩ : ∃ w3, w3 = (((w2.setCell ⟨A, 0, none⟩ (.int .i64 m)).setCell ⟨A, 1, none⟩ (.slice E1 xs.length k1)).setCell ⟨A, 2, none⟩ (.slice E2 ys.length k2)).setCell ⟨A, 3, none⟩ (.slice E3 ss.length k3) := ⟨_, rfl⟩
  have hg3 : w2.grownBy w3 (some A) := by rw [hw3]; exact four_grow _ _ _ _ _ _
  have A3 : Hid (Blk w3 A 29 #[.int .i64 m, .slice E1 xs.length k1, .slice E2 ys.length k2, .slice E3 ss.length k3]) := by rw [hw3]; exact four_set A2.out _ _ _ _
  rw [← hw3]
  clear hw3
  have R3 := Lib.hid (R2.out.stay hg3 (by intro e; cases e; omega))
  have B3 := Lib.hid (B2.out.grown hg3 B2.out.size (fun j hj => by cases hj; exact hwA))
  have O3 : Hid (AOwn w3 w1.heap.size (.slice E1 xs.length k1) (.slice E2 ys.length k2) (.slice E3 ss.length k3) xs ys ss) := by
    obtain ⟨h1, h2, h3, h4⟩ := O2.out
    exact ⟨h1.kept hg3 (own_ne (fun j hj e => by cases e; have := L2.out _ (Or.inl hj); omega)), h2.kept hg3 (own_ne (fun j hj e => by cases e; have := L2.out _ (Or.inr (Or.inl hj)); omega)), h3.kept hg3 (own_ne (fun j hj e => by cases e; have := L2.out _ (Or.inr (Or.inr hj)); omega)), h4⟩
  clear p0 p1 p2 p3 f0 f1 f2 f3 A2 R2 B2 O2 RD2 L2 hg3 hA2
  obtain ⟨p0, p1, p2, p3⟩ := four_cells A3.out
  obtain ⟨⟨_, _, e1, i1⟩, ⟨_, _, e2, i2⟩, ⟨_, _, e3, i3⟩⟩ := O3.out.read
  cases e1
  cases e2
  cases e3
  have I1 := Lib.hid i1
  have I2 := Lib.hid i2
  have I3 := Lib.hid i3
  clear i1 i2 i3
  go_wp2_with fail
  refine (sAutomatonValid_is m E1 E2 E3 k1 k2 k3 xs ys ss r _ I1.out I2.out I3.out HR.out).mono ?_
  rintro e w4 ⟨rfl, hb4⟩
  have A4 := Lib.hid (blk_b A3.out hb4.out)
  have R4 := Lib.hid (blk_b R3.out hb4.out)
  have B4 := Lib.hid (below_on B3.out hb4.out)
  have O4 := Lib.hid (O3.out.under hb4.out)
  clear p0 p1 p2 p3 A3 R3 B3 O3 I1 I2 I3 hb4
  have hA4 := Blk.lt A4.out
  have hR4 := Blk.lt R4.out
  have hwR4 := B4.out.size
  cases r
  · obtain ⟨f0, f1, f2, f3⟩ := four_frozen R4.out
    obtain ⟨r0, r1, r2, r3⟩ := four_cells R4.out
    go_wp2_with fail
    have HF := four_set R4.out (.int .i64 0) (.slice none 0 0) (.slice none 0 0) (.slice none 0 0)
    have HG := four_grow w4 R (.int .i64 0) (.slice none 0 0) (.slice none 0 0) (.slice none 0 0)
    refine bodyPost_ret (results_2 rfl (Gives.row (g := R) rfl HF Try.underlying29 rfl (by kernel_rfl)) (.tmp rfl)) rfl ?_
    exact ⟨_, _, _, rfl, ⟨⟨none, 0, rfl, irow_nil _ _ _⟩, ⟨none, 0, rfl, irow_nil _ _ _⟩, ⟨none, 0, rfl, SRow.nil _ _ _⟩⟩, B4.out.grown HG hwR4 (fun j hj => by cases hj; omega)⟩
  · obtain ⟨p0, p1, p2, p3⟩ := four_cells A4.out
    go_upto_region 5 with fail
    obtain ⟨N, hN⟩ : ∃ N, N = w4.heap.size := ⟨_, rfl⟩
    obtain ⟨V, hV⟩ : ∃ V, V = w4.heap.size + 1 := ⟨_, rfl⟩
    rw [← hV, ← hN]
    obtain ⟨w5, hw5⟩ : ∃ w5, w5 = (w4.alloc (.cells #[] 73)).alloc (.cells #[.int .i64 m, .slice E1 xs.length k1, .slice E2 ys.length k2, .slice (some ⟨N, 0, none⟩) 0 0] 29) := ⟨_, rfl⟩
    have hb5 : Below w4.heap.size w4 w5 := by rw [hw5]; exact below_a2 w4 _ _
    have V5 : Hid (Blk w5 V 29 #[.int .i64 m, .slice E1 xs.length k1, .slice E2 ys.length k2, .slice (some ⟨N, 0, none⟩) 0 0]) := by rw [hw5, hV]; exact blk_new (by simp)
    have N5 : Hid (w5.ownsRow N 73 4 (.slice (some ⟨N, 0, none⟩) 0 0) 0 (flatS [])) := by rw [hw5, hN]; exact World.ownsRow.alloc (World.ownsRow_made w4 #[] 0 (Nat.le_refl _) (by unfold maxLen; omega) rfl) _
    rw [← hw5]
    have A5 := Lib.hid (blk_b A4.out hb5)
    have R5 := Lib.hid (blk_b R4.out hb5)
    have B5 := Lib.hid (below_on B4.out hb5)
    have O5 := Lib.hid (O4.out.under hb5)
    have L5 : Hid (∀ j, (Value.slice E1 xs.length k1).ownBlock = some j ∨ (Value.slice E2 ys.length k2).ownBlock = some j ∨ (Value.slice E3 ss.length k3).ownBlock = some j → R < j ∧ j < N) := fun j hj => by
      obtain ⟨h1, h2, h3, _⟩ := O4.out
      rcases hj with hj | hj | hj
      · have := h1.lt j hj; omega
      · have := h2.lt j hj; omega
      · have := h3.lt j hj; omega
    have hRN : R < N := by omega
    have hNV : N < V := by omega
    have hwN : w.heap.size ≤ N := by omega
    have hN5 : N ≤ w5.heap.size := by rw [hN]; exact hb5.size
    obtain ⟨⟨_, _, e1, i1⟩, ⟨_, _, e2, i2⟩, ⟨_, _, e3, i3⟩⟩ := O4.out.read
    cases e1
    cases e2
    cases e3
    have S5 : Hid (SRow w5 N E3 ss) := by rw [hN]; exact i3.below hb5
    clear i1 i2 i3 hw5 hb5 p0 p1 p2 p3 A4 R4 B4 O4 hA4 hR4 hwR4 hN hV
    obtain ⟨p0, p1, p2, p3⟩ := four_cells A5.out
    go_wp2_with fail
    clear p0 p1 p2 p3
    go_loopw [24] (fun i wr => ∃ (k n : Nat) (E : Option Addr) (cap : Nat) (us : List StepD), k ≤ ss.length ∧ n ≤ k ∧ i = .int .i64 k ∧ Hid (us = freeL (ss.take k)) ∧ Hid (us.length = n) ∧ Hid (Blk wr V 29 #[.int .i64 m, .slice E1 xs.length k1, .slice E2 ys.length k2, .slice E n cap]) ∧ Hid (wr.ownsRow N 73 4 (.slice E n cap) n (flatS us)) ∧ Hid (Below N w5 wr)) (fun i _ => ss.length - (intOf i).toNat)
    case atStart => exact ⟨0, 0, some ⟨N, 0, none⟩, 0, [], by omega, by omega, rfl, rfl, rfl, V5, N5, Below.refl _ _⟩
    case round =>
      obtain ⟨k, n, E, cap, us, hk, hnk, rfl, hus, hul, hv, hown, hbw⟩ := hrel
      have hVw := Blk.lt hv.out
      have hNw : N ≤ wr.heap.size := Nat.le_trans hN5 hbw.out.size
      by_cases hlt : k < ss.length
      · obtain ⟨b, off, s, e, hbN, hst, hsl, _, hsg⟩ := (S5.out.below hbw.out).at_ hlt
        obtain ⟨q0, q1, q2, q3⟩ := hst
        subst e
        have HSG := Lib.hid hsg
        have hk0 : (0 : Int) ≤ (k : Int) := by omega
        have hk1 : (k : Int) < (ss.length : Int) := by omega
        clear hsg
        by_cases h0 : s.co = 0
        · have hb : (s.co == 0) = true := by simp [h0]
          obtain ⟨p0, p1, p2, p3⟩ := four_cells hv.out
          have HU : Hid (us ++ [s] = freeL (ss.take (k + 1))) := by show _ = _; rw [take_snoc_s hlt HSG.out, freeL_snoc, if_pos h0, hus.out]
          clear h0
          go_wp2_with (first
            | (at_builtin; refine wpList_append_lies _ rfl _ _ 27 rfl N 73 j0 (.agg #[.int .i64 0, .string ByteArray.empty, .int .i64 0, .int .i64 0]) 4 40 Try.underlying27 YI.out Y0.out Y1.out Y2.out rfl (by decide) _ _ _ rfl (World.ownsRow.alloc (World.ownsRow.alloc hown.out _) _) _ 1 1 (stepC s) rfl rfl ?g1 ?g2 (by decide) ?g3 ?g4 ?g5 _ rfl ?_)
            | fail)
          case g1 => exact lit_news2 wr _ #[.int .i64 s.fr, .string s.le, .int .i64 s.to_, .int .i64 s.co] _
          case g2 => intro u hu; simp [stepC] at hu; rcases hu with rfl | rfl | rfl | rfl <;> rfl
          case g3 => unfold maxLen; omega
          case g4 => omega
          case g5 => simp; omega
          intro g cap' w6 hown' hgrow hat hlt'
          have hb6 : Below N w5 w6 := ((hbw.out.alloc (by omega) _).alloc (by simp; omega) _).grown hgrow (by simp; omega) (fun j hj => (hown.out.lt j hj).1)
          have V6 : Hid (Blk w6 V 29 #[.int .i64 m, .slice E1 xs.length k1, .slice E2 ys.length k2, .slice E n cap]) := Blk.stay ((hv.out.alloc _).alloc _) hgrow (own_ne_blk hown.out hv.out (by decide))
          have hVg : ¬ V = g := fun e => by
            subst e
            exact own_ne_blk hown' V6.out (by decide) rfl
          have B6 := Lib.hid (hb6.setCell (p := ⟨V, 3, none⟩) (show N ≤ V by omega) (.slice (some ⟨g, 0, none⟩) (n + 1) cap'))
          have O6 := Lib.hid (hown'.kept (grow_set w6 V 3 (.slice (some ⟨g, 0, none⟩) (n + 1) cap')) (own_ne (fun j hj e => by cases e; cases hj; exact hVg rfl)))
          rw [← flatS_snoc] at O6
          have V7 := Lib.hid (V6.out.set_ 3 (.slice (some ⟨g, 0, none⟩) (n + 1) cap'))
          have HL6 : Hid ((us ++ [s]).length = n + 1) := by show _ = _; rw [List.length_append, hul.out]; rfl
          clear p0 p1 p2 p3 q0 q1 q2 q3 hown' hgrow hat hlt' hown hbw hv hb6 hVg hus hul
          obtain ⟨p0, p1, p2, p3⟩ := four_cells V6.out
          obtain ⟨f0, f1, f2, f3⟩ := four_frozen V6.out
          go_wp2_with fail
          go_roundw
          case rel => exact ⟨k + 1, n + 1, _, cap', us ++ [s], by omega, by omega, by go_num, HU, HL6, V7, O6, B6⟩
          case measure => simp [intOf]; omega
        · have hb : (s.co == 0) = false := by simp [h0]
          have HU : Hid (us = freeL (ss.take (k + 1))) := by show _ = _; rw [take_snoc_s hlt HSG.out, freeL_snoc, if_neg h0, hus.out]
          clear h0
          go_wp2_with fail
          go_roundw
          case rel => exact ⟨k + 1, n, E, cap, us, by omega, by omega, by go_num, HU, hul, hv.out.alloc _, hown.out.alloc _, hbw.out.alloc (by omega) _⟩
          case measure => simp [intOf]; omega
      · have hkn : k = ss.length := by omega
        have HE : Hid (us = freeL ss) := by show _ = _; rw [hus.out, hkn, List.take_length]
        have Rr : Hid (Blk wr R 29 #[.int .i64 0, .slice none 0 0, .slice none 0 0, .slice none 0 0]) := Blk.below R5.out hbw.out hRN
        obtain ⟨p0, p1, p2, p3⟩ := four_cells hv.out
        obtain ⟨f0, f1, f2, f3⟩ := four_frozen Rr.out
        obtain ⟨r0, r1, r2, r3⟩ := four_cells Rr.out
        have hk1 : ¬ (k : Int) < (ss.length : Int) := by omega
        go_wp2_with fail
        have HF := four_set Rr.out (.int .i64 m) (.slice E1 xs.length k1) (.slice E2 ys.length k2) (.slice E n cap)
        have HG := four_grow wr R (.int .i64 m) (.slice E1 xs.length k1) (.slice E2 ys.length k2) (.slice E n cap)
        refine bodyPost_ret (results_2 rfl (Gives.row (g := R) rfl HF Try.underlying29 rfl (by kernel_rfl)) (.tmp rfl)) rfl ?_
        obtain ⟨o1, o2, o3, o4⟩ := O5.out
        have P1 := own_low o1 hbw.out (fun j hj => (L5.out j (Or.inl hj)).2)
        have P2 := own_low o2 hbw.out (fun j hj => (L5.out j (Or.inr (Or.inl hj))).2)
        have P1 := P1.kept HG (own_ne (fun j hj e => by cases e; have := (L5.out _ (Or.inl hj)).1; omega))
        have P2 := P2.kept HG (own_ne (fun j hj e => by cases e; have := (L5.out _ (Or.inr (Or.inl hj))).1; omega))
        have P3 := hown.out.kept HG (own_ne (fun j hj e => by cases e; have := (hown.out.lt _ hj).1; omega))
        obtain ⟨_, _, e1, _, i1⟩ := own_ints P1 (by unfold maxLen; omega)
        obtain ⟨_, _, e2, _, i2⟩ := own_ints P2 (by unfold maxLen; omega)
        cases e1
        cases e2
        obtain ⟨_, _, e3, i3⟩ := own_read4 P3 hul.out (by omega) (fun s hs => by
          rw [HE.out] at hs
          exact HS.out.2.1 s (List.mem_filter.1 hs).1)
        refine ⟨_, _, _, rfl, ⟨⟨_, _, rfl, i1⟩, ⟨_, _, rfl, i2⟩, ?_⟩, ?_⟩
        · show ∃ A c, Value.slice E n cap = .slice A (freeL ss).length c ∧ SRow _ _ A (freeL ss)
          rw [← HE.out]
          exact ⟨_, _, e3, i3⟩
        · exact ((B5.out.trans (hbw.out.mono hwN)).grown HG (by omega) (fun j hj => by cases hj; omega))
end Go.Proofs.Ytdfnlaclggjckaa
