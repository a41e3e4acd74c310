/- The program's machine whose steps go back: its map is made by the call, out of the other one's entries in whatever order they come. Condition: the map's costs are numbers of the kind. -/
import Derived.Test.YtjnbdpejgbbfdaaIdx
namespace Go.Proofs.Ytjnbdpejgbbfdaa
open Go.RowKit
set_option maxHeartbeats 4000000
set_option maxRecDepth 100000
set_option linter.unusedVariables false

/-- What the turned map tells when the entries of `left` are still to come. -/
def TurnP (F : FF) (left : LF) (G : FF) : Prop := ∀ f l t, kwf f l t → G f l t = if left t l f then none else F t l f
theorem turn_start (F : FF) : TurnP F (fun f l t => (F f l t).isSome) (fun _ _ _ => none) := fun f l t hk => by
  rcases h : F t l f with _ | c <;> simp [h]
theorem turn_take {F : FF} {left : LF} {G : FF} {f t c : Int} {l : ByteArray} (h : TurnP F left G) (hF : F f l t = some c) : TurnP F (strike left f l t) (updC G t l f c) := fun f' l' t' hk => by
  unfold updC strike
  by_cases e : f' = t ∧ l'.data = l.data ∧ t' = f
  · obtain ⟨rfl, e2, rfl⟩ := e
    have : l' = l := by cases l'; cases l; simp at e2; rw [e2]
    subst this
    simp [hF]
  · rw [if_neg e, h f' l' t' hk, decide_eq_false (fun hh => e ⟨hh.2.2, hh.2.1, hh.1⟩)]
    simp
theorem turn_done {F : FF} {left : LF} {G : FF} (h : TurnP F left G) (h0 : ∀ f l t, kwf f l t → left f l t = false) : ∀ f l t, kwf f l t → G f l t = F t l f := fun f l t hk => by
  rw [h f l t hk, h0 t l f ⟨hk.2.2, hk.2.1, hk.1⟩]; rfl

theorem mturned_any (n M cnt : Nat) (b0 b1 b2 b3 b4 b5 b6 b7 : Bool) (F : FF) (w : World) (hM : CMap w M cnt F) (hc : cnt ≤ 1000) :
    Calls Try.prog 34 #[.agg #[.int .i64 n, .bool b0, .bool b1, .bool b2, .bool b3, .bool b4, .bool b5, .bool b6, .bool b7, .map (some M)]] w fun e w' => ∃ M', e = .returned (.agg #[.int .i64 n, .bool b4, .bool b5, .bool b6, .bool b7, .bool b0, .bool b1, .bool b2, .bool b3, .map (some M')]) ∧ Below w.heap.size w w' ∧ w.heap.size ≤ M' ∧ CMap w' M' cnt (fun f l t => F t l f) := by
  have MM := Lib.hid hM
  have hMw := hM.lt
  have hmm := @run_makeMap Try.prog
  clear hM
  go_enter Try.func34, Try.ntmps34
  go_upto_region 2 with fail
  obtain ⟨R, hR⟩ : ∃ R, R = w.heap.size + 1 := ⟨_, rfl⟩
  obtain ⟨N, hN⟩ : ∃ N, N = w.heap.size + 1 + 1 := ⟨_, rfl⟩
  obtain ⟨T, hT⟩ : ∃ T, T = w.heap.size + 1 + 1 + 1 := ⟨_, rfl⟩
  rw [← hT, ← hN, ← hR]
  obtain ⟨w2, hw2⟩ : ∃ w2, w2 = (((w.alloc (.cells #[.int .i64 n, .bool b0, .bool b1, .bool b2, .bool b3, .bool b4, .bool b5, .bool b6, .bool b7, .map (some M)] 46)).alloc (.cells #[.int .i64 0, .bool false, .bool false, .bool false, .bool false, .bool false, .bool false, .bool false, .bool false, .map none] 46)).alloc (.map #[] 0)).alloc (.cells #[.int .i64 n, .bool b4, .bool b5, .bool b6, .bool b7, .bool b0, .bool b1, .bool b2, .bool b3, .map (some N)] 46) := ⟨_, rfl⟩
  have A2 : Hid (Blk w2 w.heap.size 46 #[.int .i64 n, .bool b0, .bool b1, .bool b2, .bool b3, .bool b4, .bool b5, .bool b6, .bool b7, .map (some M)]) := by rw [hw2]; exact (((Blk.new w _ _).alloc _).alloc _).alloc _
  have R2 : Hid (Blk w2 R 46 #[.int .i64 0, .bool false, .bool false, .bool false, .bool false, .bool false, .bool false, .bool false, .bool false, .map none]) := by rw [hw2, hR]; exact ((blk_new (by simp)).alloc _).alloc _
  have N2 : Hid (CMap w2 N 0 (fun _ _ _ => none)) := by
    have h := CMap.made ((w.alloc (.cells #[.int .i64 n, .bool b0, .bool b1, .bool b2, .bool b3, .bool b4, .bool b5, .bool b6, .bool b7, .map (some M)] 46)).alloc (.cells #[.int .i64 0, .bool false, .bool false, .bool false, .bool false, .bool false, .bool false, .bool false, .bool false, .map none] 46))
    simp only [World.size_alloc] at h
    rw [hw2, hN]
    exact h.kept (World.grownBy_alloc _ _ none) (by simp)
  have T2 : Hid (Blk w2 T 46 #[.int .i64 n, .bool b4, .bool b5, .bool b6, .bool b7, .bool b0, .bool b1, .bool b2, .bool b3, .map (some N)]) := by rw [hw2, hT]; exact blk_new (by simp)
  have B2 : Hid (Below w.heap.size w w2) := by
    show Below _ _ _
    rw [hw2]; exact below_al (below_a3 w _ _ _) (Nat.le_refl _) _
  have M2 := Lib.hid (MM.out.below B2.out)
  have hs2 : T + 1 = w2.heap.size := by rw [hw2, hT]; simp
  rw [← hw2]
  have kR : w.heap.size < R := by omega
  have kN : R < N := by omega
  have kT : N < T := by omega
  clear hw2 hR hN hT MM hmm
  have hMN : M < w.heap.size := hMw
  have pc9 := A2.out.cell 9
  simp at pc9
  go_wp2_with (first
    | (at_range; refine wpList_range_c _ rfl _ rfl M cnt F rfl M2.out ?_; intro w3 cn hran hgr hs3)
    | fail)
  go_frame
  rw [← hs2]
  rw [← hs2] at hran
  have hs4 : w3.heap.size = T + 2 := by omega
  have R3 := Lib.hid (R2.out.stay hgr (by simp))
  have T3 := Lib.hid (T2.out.stay hgr (by simp))
  have N3 := Lib.hid (N2.out.kept hgr (by simp))
  have B3 : Hid (Below w.heap.size w w3) := B2.out.grown hgr B2.out.size (fun j hj => by cases hj)
  have RA := Lib.hid hran
  have hcn : cn ≤ cnt := hran.cnt_le
  clear A2 R2 N2 T2 B2 M2 hran hgr pc9
  go_loopw [5] (fun _ wr => ∃ (left : LF) (cn : Nat) (k : Nat) (G : FF), k + cn ≤ cnt ∧ Hid (CRan wr M (T + 1) cnt F left cn) ∧ Hid (TurnP F left G) ∧ Hid (CMap wr N k G) ∧ Hid (Blk wr R 46 #[.int .i64 0, .bool false, .bool false, .bool false, .bool false, .bool false, .bool false, .bool false, .bool false, .map none]) ∧ Hid (Blk wr T 46 #[.int .i64 n, .bool b4, .bool b5, .bool b6, .bool b7, .bool b0, .bool b1, .bool b2, .bool b3, .map (some N)]) ∧ Hid (Below w.heap.size w wr)) (fun _ wr => wr.rangeLeft M (T + 1))
  case atStart => exact ⟨_, _, 0, _, by omega, RA, turn_start F, N3, R3, T3, B3⟩
  case round =>
    obtain ⟨left, cn, k, G, hk, hra, htp, hn, hr, ht, hbw⟩ := hrel
    go_wp2_with (first
      | (at_next; refine wpList_next_c _ rfl _ rfl M (T + 1) cnt F left cn rfl hra.out ?_ ?_)
      | fail)
    · intro hl0
      have N4 : Hid (CMap wr N cnt (fun f l t => F t l f)) := (hn.out.alike (turn_done htp.out hl0)).mono (by omega)
      have HT := Lib.hid ht.out
      have HR := Lib.hid hr.out
      clear hn hra htp hr ht
      obtain ⟨p0, p1, p2, p3, p4, p5, p6, p7, p8, p9⟩ := ten_cells HT.out
      obtain ⟨r0, r1, r2, r3, r4, r5, r6, r7, r8, r9⟩ := ten_cells HR.out
      obtain ⟨f0, f1, f2, f3, f4, f5, f6, f7, f8, f9⟩ := ten_frozen HR.out
      go_wp2_with fail
      have HF := ten_blk HR.out (.int .i64 n) (.bool b4) (.bool b5) (.bool b6) (.bool b7) (.bool b0) (.bool b1) (.bool b2) (.bool b3) (.map (some N))
      have HG := ten_grow wr R (.int .i64 n) (.bool b4) (.bool b5) (.bool b6) (.bool b7) (.bool b0) (.bool b1) (.bool b2) (.bool b3) (.map (some N))
      refine bodyPost_ret (results_1 rfl (gives_mach (g := R) rfl HF)) rfl ?_
      exact ⟨N, rfl, hbw.out.grown HG hbw.out.size (fun j hj => by cases hj; omega), by omega, N4.out.kept HG (by intro e; cases e; omega)⟩
    · intro f le t c w4 cn' hkw hFs hlf hwc hra' hlt hgr hsz hen
      have R4 := Lib.hid (hr.out.stay hgr (by intro e; cases e; omega))
      have T4 := Lib.hid (ht.out.stay hgr (by intro e; cases e; omega))
      have N4 := Lib.hid (hn.out.kept hgr (by intro e; cases e; omega))
      have B4 := Lib.hid (hbw.out.grown hgr hbw.out.size (fun j hj => by cases hj; omega))
      have HCN : Hid (cn' < wr.rangeLeft M (T + 1)) := by show _ < _; rw [hra.out.left_eq]; exact hlt
      have RA4 := Lib.hid hra'
      have hr4 := RA4.out.lt
      have hkw' : kwf t le f := ⟨hkw.2.2, hkw.2.1, hkw.1⟩
      have hk1 : k + 1 + cn' ≤ cnt := by omega
      clear hr ht hn hbw hgr hra hra' hlt hsz
      go_upto_region 5 with fail
      have hs2' : w2.heap.size = T + 1 := hs2.symm
      rw [hs2'] at RA4 hr4
      clear hs2'
      obtain ⟨V, hV⟩ : ∃ V, V = w4.heap.size := ⟨_, rfl⟩
      have P5 : Hid (Blk (w4.alloc (.cells #[.int .i64 f, .string le, .int .i64 t] 64)) V 64 #[.int .i64 f, .string le, .int .i64 t]) := by rw [hV]; exact Blk.new _ _ _
      have R5 := Lib.hid (R4.out.alloc (.cells #[.int .i64 f, .string le, .int .i64 t] 64))
      have T5 := Lib.hid (T4.out.alloc (.cells #[.int .i64 f, .string le, .int .i64 t] 64))
      have N5 := Lib.hid (N4.out.kept (World.grownBy_alloc w4 (.cells #[.int .i64 f, .string le, .int .i64 t] 64) none) (by simp))
      have RA5 := Lib.hid (RA4.out.kept (World.grownBy_alloc w4 (.cells #[.int .i64 f, .string le, .int .i64 t] 64) none) (by simp) (by simp))
      have B5 := Lib.hid (below_al B4.out (Nat.le_refl _) (.cells #[.int .i64 f, .string le, .int .i64 t] 64))
      rw [← hV]
      generalize w4.alloc (.cells #[.int .i64 f, .string le, .int .i64 t] 64) = w5 at P5 R5 T5 N5 RA5 B5 ⊢
      have p0 := P5.out.cell 0
      have p1 := P5.out.cell 1
      have p2 := P5.out.cell 2
      have t9 := T5.out.cell 9
      simp at p0 p1 p2 t9
      clear R4 T4 N4 B4 RA4 hen hr4 hV P5
      go_wp2_with (first
        | (at_mapUpdate; refine wpList_store _ rfl _ _ _ rfl N k G rfl N5.out (by unfold maxLen; omega) t f le rfl hkw' c rfl hwc ?_; intro w6 hn6 hg6)
        | fail)
      have R6 := Lib.hid (R5.out.stay hg6 (by intro e; cases e; omega))
      have T6 := Lib.hid (T5.out.stay hg6 (by intro e; cases e; omega))
      have RA6 := Lib.hid (RA5.out.kept hg6 (by intro e; cases e; omega) (by intro e; cases e; omega))
      have B6 := Lib.hid (B5.out.grown hg6 B5.out.size (fun j hj => by cases hj; omega))
      have N6 := Lib.hid hn6
      have T7 := Lib.hid (turn_take htp.out hFs)
      clear hn6 hg6 R5 T5 RA5 B5 N5
      go_roundw
      case rel =>
        (try rw [← hs2])
        exact ⟨_, _, _, _, _, _, _, _, _, _, _, _, _, _, _, _, _, ⟨_, cn', k + 1, _, hk1, RA6, T7, N6, R6, T6, B6⟩, rfl⟩
      case measure => rw [RA6.out.left_eq]; exact HCN.out
end Go.Proofs.Ytjnbdpejgbbfdaa
