/- A drawn matrix: a valid one of the size that is asked, in new memory; nothing that was there changes but the reader. -/
import Derived.Test.YtonnolpjfjbjpaaDoorSpecMul
import Derived.Test.YtonnolpjfjbjpaaDoorCopyM
import Derived.Test.YtonnolpjfjbjpaaDoorLastOp
import Derived.Test.YtonnolpjfjbjpaaDoorDraw1
namespace Go.Proofs.YtonnolpjfjbjpaaDoor
open Go.RowKit
set_option maxHeartbeats 2000000
set_option maxRecDepth 100000
set_option linter.unusedVariables false

/-- What a drawing function leaves that returns a valid matrix of the size N. -/
def DrawnM (B g : Nat) (A : Option Addr) (cap : Nat) (zs : List Int) (p K N : Nat) (w : World) (e : Ending) (w' : World) : Prop :=
  ∃ (v : Value) (vs : List Int) (q : Nat), e = .returned v ∧ MatOwn w' w.heap.size v N vs ∧ MV N vs ∧ q ≤ p + K ∧ Rd w' B g A cap zs q ∧ w.grownBy w' (some g)

theorem all_vld {vs : List Int} (h : ∀ z ∈ vs, 0 ≤ z ∧ z ≤ 1000000) : allV vs = true := by
  unfold allV
  rw [List.all_eq_true]
  intro z hz
  have := h z hz
  simp [vld, this]

theorem mat_fin_g {w3 : World} {R base base' cap n : Nat} {t : TypeId} {m : Int} {zs : List Int} {A : Option Addr} {u0 u1 : Value} (hn : zs.length = n) (rc : Blk w3 R t #[u0, u1]) (ho : w3.ownsRow base 3 1 (.slice A n cap) n (zs.map (Value.int .i64))) (hR : R < base) (hb : base' ≤ base) (hl : zs.length ≤ 1048577) :
    Blk ((w3.setCell ⟨R, 0, none⟩ (.int .i64 m)).setCell ⟨R, 1, none⟩ (.slice A n cap)) R t #[.int .i64 m, .slice A n cap] ∧ MatOwn ((w3.setCell ⟨R, 0, none⟩ (.int .i64 m)).setCell ⟨R, 1, none⟩ (.slice A n cap)) base' (.agg #[.int .i64 m, .slice A n cap]) m zs := by
  subst hn
  exact ⟨(rc.set_ 0 _).set_ 1 _, _, rfl, own_base (own_far (own_far ho (grow_set w3 R 0 _) hR) (grow_set _ R 1 _) hR) hb, hl⟩

theorem l2Draw_any (w : World) (B g : Nat) (A : Option Addr) (cap : Nat) (zs : List Int) (q0 N : Nat) (h : Rd w B g A cap zs q0) (hq0 : q0 + 16 ≤ 1000000000000) (n1 : 1 ≤ N) (n2 : N ≤ 4) :
    Calls Tryd.prog 29 #[.pointer (some ⟨g, 0, none⟩), .int .i64 N] w fun e w' => DrawnM B g A cap zs q0 16 N w e w' := by
  obtain ⟨p, hp⟩ : ∃ p, p = N * N := ⟨_, rfl⟩
  have p1 : p ≤ 16 := by
    rw [hp]
    calc N * N ≤ 4 * 4 := Nat.mul_le_mul n2 n2
      _ = 16 := rfl
  have h1 : wrap64 ((N : Int) * (N : Int)) = (p : Int) := by rw [← Int.natCast_mul, ← hp]; exact w64_nat (by omega)
  have HP := Lib.hid hp
  have hgw := h.lt
  clear hp
  go_enter Tryd.func29, Tryd.ntmps29
  go_wp2_with fail
  rw [h1]
  clear h1
  obtain ⟨V, hV⟩ : ∃ V, V = w.heap.size + 1 := ⟨_, rfl⟩
  obtain ⟨w2, hw2⟩ : ∃ w2, w2 = (w.alloc (.cells #[.int .i64 0, .slice none 0 0] 25)).alloc (.cells #[.int .i64 N, .slice none 0 0] 25) := ⟨_, rfl⟩
  have R2 : Hid (Blk w2 w.heap.size 25 #[.int .i64 0, .slice none 0 0]) := by rw [hw2]; exact (Blk.new _ _ _).alloc _
  have V2 : Hid (Blk w2 V 25 #[.int .i64 N, .slice none 0 0]) := by rw [hw2, hV]; exact blk_new (by simp)
  have D2 : Hid (Rd w2 B g A cap zs q0) := by rw [hw2]; exact (h.alloc _).alloc _
  have G2 : Hid (w.grownBy w2 (some g)) := by rw [hw2]; exact grow_below_any (below_a2 w _ _) _
  have hs2 : V < w2.heap.size := Blk.lt V2.out
  have hVg : ¬ V = g := by omega
  have hRg : ¬ w.heap.size = g := by omega
  have hRV : w.heap.size < V := by omega
  rw [← hw2, ← hV]
  clear hw2 hV h
  obtain ⟨i0, hi, hz0, hz1, hz2⟩ := info_parts info_int
  have Z0 := Lib.hid hz0
  have Z1 := Lib.hid hz1
  have Z2 := Lib.hid hz2
  have ZI := Lib.hid hi
  clear hz0 hz1 hz2 hi
  go_loopg [11] p (fun gh i wr => ∃ (k q : Nat) (Ao : Option Addr) (capo : Nat) (vs : List Int), k ≤ p ∧ gh = p - k ∧ i = .int .i64 k ∧ Hid (q ≤ q0 + k) ∧ Hid (vs.length = k) ∧ Hid (∀ z ∈ vs, 0 ≤ z ∧ z ≤ 1000000) ∧ Hid (Blk wr w.heap.size 25 #[.int .i64 0, .slice none 0 0]) ∧ Hid (Blk wr V 25 #[.int .i64 N, .slice Ao k capo]) ∧ Hid (wr.ownsRow w2.heap.size 3 1 (.slice Ao k capo) k (vs.map (Value.int .i64))) ∧ Hid (Rd wr B g A cap zs q) ∧ Hid (w.grownBy wr (some g)) ∧ Hid (w2.heap.size ≤ wr.heap.size))
  case atStart => exact ⟨0, q0, none, 0, [], Nat.zero_le _, rfl, rfl, Nat.le_refl _, rfl, (fun z hz => by cases hz), R2, V2, World.ownsRow_nil _ _ _ _, D2, G2, Nat.le_refl _⟩
  case round =>
    obtain ⟨k, q, Ao, capo, vs, hk, rfl, rfl, hq, hvl, hvb, hr, hv, hown, hrd, hg2, hsz⟩ := hrel
    by_cases hlt : k < p
    · have KS : Hid (∀ w', Blk w' V 25 #[.int .i64 N, .slice Ao k capo] → Hid (Blk w' V 25 #[.int .i64 N, .slice Ao k capo]) ∧ w'.cell? ⟨V, 1, none⟩ = some (.slice Ao k capo)) := fun w' h => ⟨h, h.cell 1⟩
      have hS0 := KS.out wr.drew hv.out
      have D3 := Lib.hid ((hrd.out.grown (grow_drew wr none) (fun k hk => by cases hk)).alloc (.cells ([1000000, 0, 1, 1000000, 2, 1, 0, 5, 700000].map (Value.int .i64)).toArray 3))
      have hq1 : q + 1 ≤ 1000000000000 := by have := hq.out; omega
      have hlg : ¬ wr.heap.size = g := by have := hrd.out.lt; omega
      go_wp2_with fail
      refine wp_region_Z (S := fun w' => Hid (Blk w' V 25 #[.int .i64 N, .slice Ao k capo]) ∧ w'.cell? ⟨V, 1, none⟩ = some (.slice Ao k capo)) (by kernel_rfl) hS0 (fun hS => ?_)
      clear hS0
      refine wpAnyZ_take (i := 0) (v := ?vb0) rfl (by kernel_rfl) (by kernel_rfl) (by kernel_rfl) (by kernel_rfl) (fun _ _ _ h => h) (Or.inl ⟨by rfl, ?yb0⟩) (by with_reducible assumption) ?rb0
      case yb0 => (intro w hSw; (try dsimp only at hSw); go_simp; (try with_reducible rfl))
      simp only [Act.put, List.setIfInBounds_toArray]
      refine wpAnyZ_take (i := 1) (v := ?vb1) rfl (by kernel_rfl) (by kernel_rfl) (by kernel_rfl) (by kernel_rfl) (fun _ _ _ h => h) (Or.inl ⟨by rfl, ?yb1⟩) (by with_reducible assumption) ?rb1
      case yb1 => (intro w hSw; (try dsimp only at hSw); go_simp; (try with_reducible rfl))
      simp only [Act.put]
      refine wpAnyZ_take (i := 2) (v := ?vb2) rfl (by kernel_rfl) (by kernel_rfl) (by kernel_rfl) (by kernel_rfl) (fun _ _ _ h => h) (Or.inl ⟨by rfl, ?yb2⟩) (by with_reducible assumption) ?rb2
      case yb2 => (intro w hSw; (try dsimp only at hSw); go_simp; (try with_reducible rfl))
      simp only [Act.put]
      refine wpAnyZ_step (i := 3) (by kernel_rfl) rfl ?_
      intro K1 hK1
      go_simp
      refine hK1.out _ _ (KS.out _ ((show Blk wr.drew V 25 _ from hv.out).alloc _)) (fun hS1 => ?_)
      clear hK1 hS
      (try simp only [Act.put])
      refine wpAnyZ_step (i := 4) (by kernel_rfl) rfl ?_
      intro K2 hK2
      go_simp
      refine (num_of _ B g wr.heap.size A cap zs q 9 [1000000, 0, 1, 1000000, 2, 1, 0, 5, 700000] D3.out hq1 rfl (by decide) (by decide) hlg (row_lit wr.drew [1000000, 0, 1, 1000000, 2, 1, 0, 5, 700000])).mono ?_
      rintro e w4 ⟨x, q4, rfl, hx, hq4, hrd4, hg4⟩
      have V4 := Lib.hid (Blk.grown ((show Blk wr.drew V 25 _ from hv.out).alloc _) hg4 hVg)
      have R4 := Lib.hid (Blk.grown ((show Blk wr.drew w.heap.size 25 _ from hr.out).alloc _) hg4 hRg)
      have O4 := Lib.hid (own_far ((own_dr hown.out 1).alloc (.cells ([1000000, 0, 1, 1000000, 2, 1, 0, 5, 700000].map (Value.int .i64)).toArray 3)) hg4 (by omega))
      have G4 := Lib.hid (grow_trans hg2.out (grow_trans (grow_trans (grow_drew wr (some g)) (World.grownBy_alloc wr.drew (.cells ([1000000, 0, 1, 1000000, 2, 1, 0, 5, 700000].map (Value.int .i64)).toArray 3) (some g))) hg4))
      have D4 := Lib.hid hrd4
      have hsz4 : w2.heap.size ≤ w4.heap.size := by have h1 := hg4.size; have h2 := hsz.out; simp at h1; omega
      have hxb : 0 ≤ x ∧ x ≤ 1000000 := by simp only [List.mem_cons, List.mem_nil_iff, or_false] at hx; omega
      have hq5 : q4 ≤ q0 + (k + 1) := by have := hq.out; omega
      refine hK2.out _ _ (KS.out _ V4.out) (fun hS2 => ?_)
      clear hK2 hS1 hrd4 hg4 hx D3
      (try simp only [Act.put])
      refine wpAnyZ_step (i := 5) (by kernel_rfl) rfl ?_
      intro K3 hK3
      go_simp
      refine hK3.out _ _ (KS.out _ (V4.out.alloc _)) (fun hS3 => ?_)
      clear hK3 hS2
      (try simp only [Act.put])
      refine wpAnyZ_step (i := 6) (by kernel_rfl) rfl ?_
      intro K4 hK4
      refine step_append_lies _ rfl _ _ 23 rfl w2.heap.size 3 i0 (.int .i64 0) 1 8 Tryd.underlying23 ZI.out Z0.out Z1.out Z2.out rfl (by decide) _ k _ rfl (O4.out.alloc (.cells #[.int .i64 x] 3)) ⟨w4.heap.size, 0, none⟩ 1 1 [.int .i64 x] rfl rfl (lit_cell w4 0 _ _) (by intro u hu; simp at hu; subst hu; rfl) (by decide) (by unfold maxLen; omega) (by omega) (by simp; omega) _ rfl ?_
      intro g5 cap5 w5 hown' hgrow _ _
      have hrow : ∀ j, (Value.slice Ao k capo).ownBlock = some j → w2.heap.size ≤ j := fun j hj => (O4.out.lt j hj).1
      have V5 := Lib.hid (app_blk (m := 0) V4.out hgrow hs2 hrow)
      have R5 := Lib.hid (app_blk (m := 0) R4.out hgrow (by omega : w.heap.size < w2.heap.size) hrow)
      have G5 := Lib.hid (grow_own (grow_trans G4.out (World.grownBy_alloc w4 (.cells #[.int .i64 x] 3) (some g))) hgrow (fun j hj => by have := hrow j hj; omega))
      have D5 := Lib.hid ((D4.out.alloc (.cells #[.int .i64 x] 3)).grown hgrow (fun j hj => by have := hrow j hj; omega))
      have hsz5 : w2.heap.size ≤ w5.heap.size := by have h1 := hgrow.size; simp at h1; omega
      refine hK4.out _ _ (KS.out _ V5.out) (fun hS4 => ?_)
      clear hK4 hS3
      (try simp only [Act.put])
      refine wpAnyZ_take (i := 7) (v := ?vc7) rfl (by kernel_rfl) (by kernel_rfl) (by kernel_rfl) (by kernel_rfl) (fun _ _ _ h => h) (Or.inl ⟨by rfl, ?yc7⟩) (by with_reducible assumption) ?rc7
      case yc7 => (intro w hSw; (try dsimp only at hSw); go_simp; (try with_reducible rfl))
      simp only [Act.put]
      have hown6 := own_cast hown' rfl (show _ = ((vs ++ [x]).map (Value.int .i64)) by rw [int_snoc])
      obtain ⟨x0, x1⟩ := two_cells V5.out
      obtain ⟨f0, f1⟩ := two_frozen V5.out
      have V6 := Lib.hid (V5.out.set_ 1 (.slice (some ⟨g5, 0, none⟩) (k + 1) cap5))
      have R6 := Lib.hid (R5.out.other V 1 (.slice (some ⟨g5, 0, none⟩) (k + 1) cap5) (by omega))
      have O6 := Lib.hid (own_far hown6 (grow_set w5 V 1 (.slice (some ⟨g5, 0, none⟩) (k + 1) cap5)) hs2)
      have G6 := Lib.hid (grow_own G5.out (grow_set w5 V 1 (.slice (some ⟨g5, 0, none⟩) (k + 1) cap5)) (fun j hj => by cases hj; omega))
      have D6 := Lib.hid (D5.out.grown (grow_set w5 V 1 (.slice (some ⟨g5, 0, none⟩) (k + 1) cap5)) (fun j hj => by cases hj; omega))
      have L6 : Hid ((vs ++ [x]).length = k + 1) := by show _ = _; have := hvl.out; simp; omega
      have B6 : Hid (∀ z ∈ vs ++ [x], 0 ≤ z ∧ z ≤ 1000000) := fun z hz => by
        rcases List.mem_append.1 hz with hz | hz
        · exact hvb.out z hz
        · rw [List.mem_singleton.1 hz]; exact hxb
      have S6 : Hid (w2.heap.size ≤ (w5.setCell ⟨V, 1, none⟩ (.slice (some ⟨g5, 0, none⟩) (k + 1) cap5)).heap.size) := by show _ ≤ _; have := (grow_set w5 V 1 (.slice (some ⟨g5, 0, none⟩) (k + 1) cap5)).size; omega
      clear hown' hgrow hown6 hrow hS4
      refine wpAnyZ_last (i := 8) (by kernel_rfl) rfl (by kernel_rfl) ?_
      intro K5 hK5
      go_simp
      refine hK5.out _ _ ?_
      clear hK5
      go_wp2_with fail
      go_roundg (p - (k + 1))
      case rel => exact ⟨k + 1, q4, some ⟨g5, 0, none⟩, cap5, vs ++ [x], by omega, rfl, by go_num, hq5, L6, B6, R6, V6, O6, D6, G6, S6⟩
      case measure => omega
    · obtain rfl : p = k := by omega
      obtain ⟨a0, a1⟩ := two_cells hv.out
      obtain ⟨d0, d1⟩ := two_cells hr.out
      obtain ⟨f0, f1⟩ := two_frozen hr.out
      go_wp2_with fail
      have HF := mat_fin_g (m := (N : Int)) (base' := w.heap.size) hvl.out hr.out hown.out (by omega) (by omega) (by have := hvl.out; omega)
      have D7 := (hrd.out.grown (grow_set wr w.heap.size 0 (.int .i64 N)) (fun j hj => by cases hj; omega)).grown (grow_set _ w.heap.size 1 (.slice Ao p capo)) (fun j hj => by cases hj; omega)
      have G7 := grow_own (grow_own hg2.out (grow_set wr w.heap.size 0 (.int .i64 N)) (fun j hj => by cases hj; omega)) (grow_set _ w.heap.size 1 (.slice Ao p capo)) (fun j hj => by cases hj; omega)
      refine bodyPost_ret (results_1 rfl (gives_mat (g := w.heap.size) rfl HF.1)) rfl ?_
      exact ⟨_, vs, q, rfl, HF.2, ⟨n1, n2, by rw [hvl.out]; exact HP.out, all_vld hvb.out⟩, by have := hq.out; omega, D7, G7⟩
end Go.Proofs.YtonnolpjfjbjpaaDoor
