/- A matrix of grades that may be spoilt. -/
import Derived.Test.YtaiplhddbmhodaaDrawB
import Derived.Test.YtaiplhddbmhodaaGDraw
namespace Go.Proofs.Ytaiplhddbmhodaa
open Go.RowKit
set_option maxHeartbeats 2000000
set_option maxRecDepth 100000
set_option linter.unusedVariables false

theorem l6Bad_any (w : World) (base B g : Nat) (A : Option Addr) (cap : Nat) (zs : List Int) (q0 : Nat) (N : Int) (n : Nat) (A0 : Option Addr) (cap0 : Nat) (vs : List Int) (h : Rd w B g A cap zs q0) (hq0 : q0 + 2 ≤ 1000000000000) (hvl : vs.length = n) (n1 : 1 ≤ n) (n2 : n ≤ 17)
    (ho : w.ownsRow base 3 1 (.slice A0 n cap0) n (vs.map (Value.int .i64))) (hgb : g < base) (hbw : base ≤ w.heap.size) :
    Calls Try.prog 19 #[.pointer (some ⟨g, 0, none⟩), .agg #[.int .i64 N, .slice A0 n cap0]] w fun e w' => DrawnA base B g A cap zs q0 2 w e w' := by
  obtain ⟨i0, hi, hz0, hz1, hz2⟩ := info_parts info_int
  have Z0 := Lib.hid hz0
  have Z1 := Lib.hid hz1
  have Z2 := Lib.hid hz2
  have ZI := Lib.hid hi
  clear hz0 hz1 hz2 hi
  have hgw := h.lt
  have hrow0 : ∀ j, (Value.slice A0 n cap0).ownBlock = some j → j < w.heap.size := fun j hj => (ho.lt j hj).2
  go_enter Try.func19, Try.ntmps19
  go_wp2_with fail
  refine (pick_any _ _ _ _ _ _ _ _ ((h.alloc _).alloc _) (by omega)).mono ?_
  rintro e w2 ⟨v, rfl, v0, v1, hoff, hrd⟩
  have D2 := Lib.hid (hrd (by omega))
  have M2 := Lib.hid (show Blk w2 w.heap.size 25 #[.int .i64 N, .slice A0 n cap0] from hoff.blk ((Blk.new _ _ _).alloc _) (by omega))
  have R2 := Lib.hid (show Blk w2 (w.heap.size + 1) 25 #[.int .i64 0, .slice none 0 0] from hoff.blk (blk_new (by simp)) (by omega))
  have G2 := Lib.hid (grow_trans (grow_below_any (below_a2 w (.cells #[.int .i64 N, .slice A0 n cap0] 25) (.cells #[.int .i64 0, .slice none 0 0] 25)) (some g)) hoff.grown)
  have O2 := Lib.hid (own_far ((ho.alloc (.cells #[.int .i64 N, .slice A0 n cap0] 25)).alloc (.cells #[.int .i64 0, .slice none 0 0] 25)) hoff.grown hgb)
  clear hrd hoff v0 v1 h ho
  obtain ⟨R, hR⟩ : ∃ R, R = w.heap.size + 1 := ⟨_, rfl⟩
  rw [← hR] at R2
  rw [← hR]
  have hRw : w.heap.size < R := by omega
  have hR2 := Blk.lt R2.out
  -- the common end: the box's size and row at a world w9
  have fin : ∀ (w9 : World) (m : Int) (x : Option Addr) (k capx q : Nat) (us : List Int), us.length = k → (1 ≤ k ∧ k ≤ 18) → w9.ownsRow base 3 1 (.slice x k capx) k (us.map (Value.int .i64)) → (∀ j, (Value.slice x k capx).ownBlock = some j → j ≠ R) → Blk w9 R 25 #[.int .i64 0, .slice none 0 0] → q ≤ q0 + 2 → Rd w9 B g A cap zs q → w.grownBy w9 (some g) →
      Blk ((w9.setCell ⟨R, 0, none⟩ (.int .i64 m)).setCell ⟨R, 1, none⟩ (.slice x k capx)) R 25 #[.int .i64 m, .slice x k capx] ∧ DrawnA base B g A cap zs q0 2 w (.returned (.agg #[.int .i64 m, .slice x k capx])) ((w9.setCell ⟨R, 0, none⟩ (.int .i64 m)).setCell ⟨R, 1, none⟩ (.slice x k capx)) := by
    intro w9 m x k capx q us hk hk17 hown hne hblk hq hrd9 hg9
    subst hk
    have hd : (Value.slice x us.length capx).ownBlock = none ∨ (Value.slice x us.length capx).ownBlock ≠ some R := by
      rcases h0 : (Value.slice x us.length capx).ownBlock with _ | j
      · exact Or.inl rfl
      · right
        intro he
        cases he
        exact hne R h0 rfl
    refine ⟨(hblk.set_ 0 _).set_ 1 _, _, m, us, q, rfl, ⟨_, rfl, (hown.kept (grow_set w9 R 0 _) hd).kept (grow_set _ R 1 _) hd, by omega⟩, hk17, hq, ?_, ?_⟩
    · exact (hrd9.grown (grow_set w9 R 0 _) (fun j hj => by cases hj; omega)).grown (grow_set _ R 1 _) (fun j hj => by cases hj; omega)
    · exact grow_own (grow_own hg9 (grow_set w9 R 0 _) (fun j hj => by cases hj; omega)) (grow_set _ R 1 _) (fun j hj => by cases hj; omega)
  have FIN := Lib.hid fin
  clear fin hR
  obtain ⟨m0, m1⟩ := two_cells M2.out
  obtain ⟨mf0, mf1⟩ := two_frozen M2.out
  by_cases hv0 : v = 0
  · subst hv0
    have O2' := O2.out
    rw [← hvl] at O2'
    obtain ⟨_, _, he, hnc, hi⟩ := own_ints O2' (by unfold maxLen; omega)
    cases he
    obtain ⟨b, off, z, rfl, _, _, _, _⟩ := hi.at_ (k := 0) (by omega)
    obtain ⟨o2, ho2⟩ : ∃ o2, o2 = if cap0 = 1 then off else off + 1 := ⟨_, rfl⟩
    have hif : (if cap0 = 1 then some (⟨b, off, none⟩ : Addr) else some ⟨b, off + 1, none⟩) = some ⟨b, o2, none⟩ := by rw [ho2]; split <;> rfl
    have hsrc : Hid (∀ (w' : World), w2.grownBy w' (some g) → b ≠ g → ∀ (j : Nat) u, (vs.tail.map (Value.int .i64))[j]? = some u → w'.cell? ((⟨b, o2, none⟩ : Addr).add j) = some u) := by
      intro w' hg' hbg j u hj
      rw [List.getElem?_map] at hj
      have hjn : j < vs.tail.length := by
        rcases Nat.lt_or_ge j vs.tail.length with h' | h'
        · exact h'
        · rw [List.getElem?_eq_none h'] at hj; cases hj
      have hjn' : j + 1 < vs.length := by simp at hjn; omega
      rw [List.getElem?_tail, List.getElem?_eq_getElem hjn'] at hj
      cases hj
      obtain ⟨b', off', z', he, hbs, hc, _, hz'⟩ := (hi.at_ (k := j + 1) hjn')
      cases he
      rw [List.getD_eq_getElem?_getD, List.getElem?_eq_getElem hjn'] at hz'
      rw [if_neg (by omega)] at ho2
      subst ho2
      have e : (⟨b, off + 1, none⟩ : Addr).add j = ⟨b, off + (j + 1), none⟩ := by by_cases h0 : j = 0 <;> simp [Addr.add, h0]; omega
      simp at hz'
      rw [e, hz']
      exact ((hg'.cell_far ⟨b, off + (j + 1), none⟩ hbs (by simpa using hbg))).trans hc
    have hbg : b ≠ g := by
      have h2 := (O2.out.lt b rfl).1
      omega
    have hDs := D2.out.lt
    have hMs := Blk.lt M2.out
    have D3 := Lib.hid ((D2.out.grown (grow_drew w2 none) (fun k hk => by cases hk)).alloc (.cells ([4, -1, 1000000].map (Value.int .i64)).toArray 3))
    have hlg : ¬ w2.heap.size = g := by omega
    have KS : Hid (∀ w', Blk w' w.heap.size 25 #[.int .i64 N, .slice (some ⟨b, off, none⟩) n cap0] → Hid (Blk w' w.heap.size 25 #[.int .i64 N, .slice (some ⟨b, off, none⟩) n cap0]) ∧ w'.cell? ⟨w.heap.size, 0, none⟩ = some (.int .i64 N) ∧ w'.cell? ⟨w.heap.size, 1, none⟩ = some (.slice (some ⟨b, off, none⟩) n cap0)) := fun w' h => ⟨h, h.cell 0, h.cell 1⟩
    have hS0 := KS.out w2.drew M2.out
    have i1 : (1 : Int) ≤ (n : Int) := by omega
    have i2 : (n : Int) ≤ (cap0 : Int) := by omega
    have HIF := Lib.hid hif
    clear O2' hi hif ho2
    go_wp2_with fail
    refine wp_region_Z (S := fun w' => Hid (Blk w' w.heap.size 25 #[.int .i64 N, .slice (some ⟨b, off, none⟩) n cap0]) ∧ w'.cell? ⟨w.heap.size, 0, none⟩ = some (.int .i64 N) ∧ w'.cell? ⟨w.heap.size, 1, none⟩ = some (.slice (some ⟨b, off, none⟩) n cap0)) (by kernel_rfl) hS0 (fun hS => ?_)
    clear hS0
    refine wpAnyZ_take (i := 0) (v := ?vb0) rfl (by kernel_rfl) (by kernel_rfl) (by kernel_rfl) (by kernel_rfl) (fun _ _ _ h => h) (Or.inl ⟨by rfl, ?yb0⟩) (by with_reducible assumption) ?rb0
    case yb0 => (intro w hSw; (try dsimp only at hSw); go_simp; (try with_reducible rfl))
    simp only [Act.put, List.setIfInBounds_toArray]
    refine wpAnyZ_take (i := 1) (v := ?vb1) rfl (by kernel_rfl) (by kernel_rfl) (by kernel_rfl) (by kernel_rfl) (fun _ _ _ h => h) (Or.inl ⟨by rfl, ?yb1⟩) (by with_reducible assumption) ?rb1
    case yb1 => (intro w hSw; (try dsimp only at hSw); go_simp; (try with_reducible rfl))
    simp only [Act.put]
    refine wpAnyZ_take (i := 2) (v := ?vb2) rfl (by kernel_rfl) (by kernel_rfl) (by kernel_rfl) (by kernel_rfl) (fun _ _ _ h => h) (Or.inl ⟨by rfl, ?yb2⟩) (by with_reducible assumption) ?rb2
    case yb2 => (intro w hSw; (try dsimp only at hSw); go_simp; (try with_reducible rfl))
    simp only [Act.put]
    refine wpAnyZ_take (i := 6) (v := ?vb6) rfl (by kernel_rfl) (by kernel_rfl) (by kernel_rfl) (by kernel_rfl) (fun _ _ _ h => h) (Or.inl ⟨by rfl, ?yb6⟩) (by with_reducible assumption) ?rb6
    case yb6 => (intro w hSw; (try dsimp only at hSw); go_simp; (try with_reducible rfl))
    simp only [Act.put]
    refine wpAnyZ_take (i := 7) (v := ?vb7) rfl (by kernel_rfl) (by kernel_rfl) (by kernel_rfl) (by kernel_rfl) (fun _ _ _ h => h) (Or.inl ⟨by rfl, ?yb7⟩) (by with_reducible assumption) ?rb7
    case yb7 => (intro w hSw; (try dsimp only at hSw); go_simp; (try with_reducible rfl))
    simp only [Act.put]
    refine wpAnyZ_take (i := 8) (v := ?vb8) rfl (by kernel_rfl) (by kernel_rfl) (by kernel_rfl) (by kernel_rfl) (fun _ _ _ h => h) (Or.inl ⟨by rfl, ?yb8⟩) (by with_reducible assumption) ?rb8
    case yb8 => (intro w hSw; (try dsimp only at hSw); go_simp; (try with_reducible rfl))
    simp only [Act.put]
    refine wpAnyZ_step (i := 3) (by kernel_rfl) rfl ?_
    intro K1 hK1
    go_simp
    refine hK1.out _ _ (KS.out _ ((show Blk w2.drew w.heap.size 25 _ from M2.out).alloc _)) (fun hS1 => ?_)
    clear hK1 hS
    (try simp only [Act.put])
    refine wpAnyZ_step (i := 4) (by kernel_rfl) rfl ?_
    intro K2 hK2
    go_simp
    refine (num_of _ B g w2.heap.size A cap zs (q0 + 1) 3 [4, -1, 1000000] D3.out (by omega) rfl (by decide) (by decide) hlg (row_lit w2.drew [4, -1, 1000000])).mono ?_
    rintro e w4 ⟨x, q4, rfl, hx, hq4, hrd4, hg4⟩
    have M4 := Lib.hid (Blk.grown ((show Blk w2.drew w.heap.size 25 _ from M2.out).alloc (.cells ([4, -1, 1000000].map (Value.int .i64)).toArray 3)) hg4 (by omega))
    have R4 := Lib.hid (Blk.grown ((show Blk w2.drew R 25 _ from R2.out).alloc (.cells ([4, -1, 1000000].map (Value.int .i64)).toArray 3)) hg4 (by omega))
    have H4 := Lib.hid (grow_trans (grow_trans (grow_drew w2 (some g)) (World.grownBy_alloc w2.drew (.cells ([4, -1, 1000000].map (Value.int .i64)).toArray 3) (some g))) hg4)
    have D4 := Lib.hid hrd4
    have hs4 : w2.heap.size + 1 ≤ w4.heap.size := by have := hg4.size; simp at this; omega
    have OL := Lib.hid ((World.ownsRow_lit w4 #[.int .i64 x] 1 (Nat.le_refl _) (by decide) rfl : (w4.alloc (.cells #[.int .i64 x] 3)).ownsRow w4.heap.size 3 1 (.slice (some ⟨w4.heap.size, 0, none⟩) 1 1) 1 [.int .i64 x]))
    refine hK2.out _ _ (KS.out _ M4.out) (fun hS2 => ?_)
    clear hK2 hS1 hrd4 hg4 hx D3
    (try simp only [Act.put])
    refine wpAnyZ_step (i := 5) (by kernel_rfl) rfl ?_
    intro K3 hK3
    go_simp
    refine hK3.out _ _ (KS.out _ (M4.out.alloc _)) (fun hS3 => ?_)
    clear hK3 hS2
    (try simp only [Act.put])
    refine wpAnyZ_step (i := 9) (by kernel_rfl) rfl ?_
    intro K4 hK4
    refine step_append_any rfl _ _ 23 rfl w4.heap.size 3 i0 (.int .i64 0) 1 8 Try.underlying23 ZI.out Z0.out Z1.out Z2.out rfl (by decide) _ 1 _ rfl OL.out ⟨b, o2, none⟩ (n - 1) (cap0 - 1) (vs.tail.map (Value.int .i64)) (show Value.slice (if cap0 = 1 then some ⟨b, off, none⟩ else some ⟨b, off + 1, none⟩) (n - 1) (cap0 - 1) = .slice (some ⟨b, o2, none⟩) (n - 1) (cap0 - 1) by rw [HIF.out]) (by simp; omega) (hsrc.out _ (grow_trans H4.out (World.grownBy_alloc w4 _ _)) hbg) (by intro u hu; obtain ⟨y, _, rfl⟩ := List.mem_map.1 hu; rfl) (by unfold maxLen; omega) (by omega) (by simp) ?_
    intro v'' w5 ho5 hg5
    have hg5' : (w4.alloc (.cells #[.int .i64 x] 3)).grownBy w5 (some w4.heap.size) := hg5
    have M5 := Lib.hid (Blk.grown (M4.out.alloc (.cells #[.int .i64 x] 3)) hg5' (by omega))
    have R5 := Lib.hid (Blk.grown (R4.out.alloc (.cells #[.int .i64 x] 3)) hg5' (by omega))
    have D5 := Lib.hid ((D4.out.alloc (.cells #[.int .i64 x] 3)).grown hg5' (fun j hj => by cases hj; omega))
    have G5 := Lib.hid (grow_own (grow_trans (grow_trans G2.out H4.out) (World.grownBy_alloc w4 (.cells #[.int .i64 x] 3) (some g))) hg5' (fun j hj => by cases hj; have := G2.out.size; omega))
    have hl1 : (x :: vs.tail).length = n := by simp; omega
    have ho6 := own_cast ho5 (show _ = (x :: vs.tail).length by rw [hl1]; omega) (show _ = ((x :: vs.tail).map (Value.int .i64)) by rfl)
    obtain ⟨A5, cap5, rfl⟩ := slice_own ho6 (by rw [hl1]; unfold maxLen; omega)
    rw [hl1] at ho6 ⊢
    have O5 := Lib.hid ho6
    refine hK4.out _ _ (KS.out _ M5.out) (fun hS4 => ?_)
    clear hK4 hS3 ho5 hg5 ho6 hg5' OL hsrc
    (try simp only [Act.put])
    refine wpAnyZ_take (i := 10) (v := ?vc10) rfl (by kernel_rfl) (by kernel_rfl) (by kernel_rfl) (by kernel_rfl) (fun _ _ _ h => h) (Or.inl ⟨by rfl, ?yc10⟩) (by with_reducible assumption) ?rc10
    case yc10 => (intro w hSw; (try dsimp only at hSw); go_simp; (try with_reducible rfl))
    simp only [Act.put]
    clear hS4
    obtain ⟨m0, m1⟩ := two_cells M5.out
    obtain ⟨mf0, mf1⟩ := two_frozen M5.out
    obtain ⟨c0, c1⟩ := two_cells R5.out
    obtain ⟨f0, f1⟩ := two_frozen R5.out
    have hMR : ¬ w.heap.size = R := by omega
    have hRM : ¬ R = w.heap.size := by omega
    have hwb : base ≤ w4.heap.size := by have := G2.out.size; omega
    refine wpAnyZ_last (i := 11) (by kernel_rfl) rfl (by kernel_rfl) ?_
    intro K5 hK5
    go_simp
    refine hK5.out _ _ ?_
    clear hK5
    have HF := Lib.hid (FIN.out w5 N A5 n cap5 q4 (x :: vs.tail) hl1 (by omega) (own_base O5.out hwb) (fun j hj => by have := (O5.out.lt j hj).1; omega) R5.out (by omega) D5.out G5.out)
    go_wp2_with fail
    all_goals
      refine bodyPost_ret (results_1 rfl (gives_mat (g := R) rfl HF.out.1)) rfl ?_
      exact HF.out.2
  · by_cases hv1 : v = 1
    · subst hv1
      have D3 := Lib.hid ((D2.out.grown (grow_drew w2 none) (fun k hk => by cases hk)).alloc (.cells ([0, 5, 1].map (Value.int .i64)).toArray 3))
      have hlg : ¬ w2.heap.size = g := by have := D2.out.lt; omega
      have KS : Hid (∀ w', Blk w' w.heap.size 25 #[.int .i64 N, .slice A0 n cap0] → Hid (Blk w' w.heap.size 25 #[.int .i64 N, .slice A0 n cap0]) ∧ w'.cell? ⟨w.heap.size, 1, none⟩ = some (.slice A0 n cap0)) := fun w' h => ⟨h, h.cell 1⟩
      have hS0 := KS.out w2.drew M2.out
      go_wp2_with fail
      refine wp_region_Z (S := fun w' => Hid (Blk w' w.heap.size 25 #[.int .i64 N, .slice A0 n cap0]) ∧ w'.cell? ⟨w.heap.size, 1, none⟩ = some (.slice A0 n cap0)) (by kernel_rfl) hS0 (fun hS => ?_)
      clear hS0
      refine wpAnyZ_take (i := 0) (v := ?vd0) rfl (by kernel_rfl) (by kernel_rfl) (by kernel_rfl) (by kernel_rfl) (fun _ _ _ h => h) (Or.inl ⟨by rfl, ?yd0⟩) (by with_reducible assumption) ?rd0
      case yd0 => (intro w hSw; (try dsimp only at hSw); go_simp; (try with_reducible rfl))
      simp only [Act.put, List.setIfInBounds_toArray]
      refine wpAnyZ_take (i := 3) (v := ?vd3) rfl (by kernel_rfl) (by kernel_rfl) (by kernel_rfl) (by kernel_rfl) (fun _ _ _ h => h) (Or.inl ⟨by rfl, ?yd3⟩) (by with_reducible assumption) ?rd3
      case yd3 => (intro w hSw; (try dsimp only at hSw); go_simp; (try with_reducible rfl))
      simp only [Act.put]
      refine wpAnyZ_take (i := 4) (v := ?vd4) rfl (by kernel_rfl) (by kernel_rfl) (by kernel_rfl) (by kernel_rfl) (fun _ _ _ h => h) (Or.inl ⟨by rfl, ?yd4⟩) (by with_reducible assumption) ?rd4
      case yd4 => (intro w hSw; (try dsimp only at hSw); go_simp; (try with_reducible rfl))
      simp only [Act.put]
      refine wpAnyZ_step (i := 1) (by kernel_rfl) rfl ?_
      intro K1 hK1
      go_simp
      refine hK1.out _ _ (KS.out _ ((show Blk w2.drew w.heap.size 25 _ from M2.out).alloc _)) (fun hS1 => ?_)
      clear hK1 hS
      (try simp only [Act.put])
      refine wpAnyZ_step (i := 2) (by kernel_rfl) rfl ?_
      intro K2 hK2
      go_simp
      refine (num_of _ B g w2.heap.size A cap zs (q0 + 1) 3 [0, 5, 1] D3.out (by omega) rfl (by decide) (by decide) hlg (row_lit w2.drew [0, 5, 1])).mono ?_
      rintro e w4 ⟨x, q4, rfl, hx, hq4, hrd4, hg4⟩
      have M4 := Lib.hid (Blk.grown ((show Blk w2.drew w.heap.size 25 _ from M2.out).alloc (.cells ([0, 5, 1].map (Value.int .i64)).toArray 3)) hg4 (by omega))
      have R4 := Lib.hid (Blk.grown ((show Blk w2.drew R 25 _ from R2.out).alloc (.cells ([0, 5, 1].map (Value.int .i64)).toArray 3)) hg4 (by omega))
      have G4 := Lib.hid (grow_trans G2.out (grow_trans (grow_trans (grow_drew w2 (some g)) (World.grownBy_alloc w2.drew (.cells ([0, 5, 1].map (Value.int .i64)).toArray 3) (some g))) hg4))
      have O4 := Lib.hid (own_far ((own_dr O2.out 1).alloc (.cells ([0, 5, 1].map (Value.int .i64)).toArray 3)) hg4 hgb)
      have D4 := Lib.hid hrd4
      refine hK2.out _ _ (KS.out _ M4.out) (fun hS2 => ?_)
      clear hK2 hS1 hrd4 hg4 hx D3
      (try simp only [Act.put])
      refine wpAnyZ_take (i := 5) (v := ?ve5) rfl (by kernel_rfl) (by kernel_rfl) (by kernel_rfl) (by kernel_rfl) (fun _ _ _ h => h) (Or.inl ⟨by rfl, ?ye5⟩) (by with_reducible assumption) ?re5
      case ye5 => (intro w hSw; (try dsimp only at hSw); go_simp; (try with_reducible rfl))
      simp only [Act.put]
      clear hS2
      obtain ⟨m0, m1⟩ := two_cells M4.out
      obtain ⟨mf0, mf1⟩ := two_frozen M4.out
      obtain ⟨c0, c1⟩ := two_cells R4.out
      obtain ⟨f0, f1⟩ := two_frozen R4.out
      have hMR : ¬ w.heap.size = R := by omega
      have hRM : ¬ R = w.heap.size := by omega
      refine wpAnyZ_last (i := 6) (by kernel_rfl) rfl (by kernel_rfl) ?_
      intro K5 hK5
      go_simp
      refine hK5.out _ _ ?_
      clear hK5
      have HF := Lib.hid (FIN.out w4 x A0 n cap0 q4 vs hvl (by omega) O4.out (fun j hj => by have := hrow0 j hj; omega) R4.out (by omega) D4.out G4.out)
      go_wp2_with fail
      all_goals
        refine bodyPost_ret (results_1 rfl (gives_mat (g := R) rfl HF.out.1)) rfl ?_
        exact HF.out.2
    · have b0 : (v == 0) = false := by rw [beq_eq_false_iff_ne]; exact hv0
      have b1 : (v == 1) = false := by rw [beq_eq_false_iff_ne]; exact hv1
      obtain ⟨c0, c1⟩ := two_cells R2.out
      obtain ⟨f0, f1⟩ := two_frozen R2.out
      go_wp2_with fail
      have HF := FIN.out w2 N A0 n cap0 (q0 + 1) vs hvl (by omega) O2.out (fun j hj => by have := hrow0 j hj; omega) R2.out (by omega) D2.out G2.out
      refine bodyPost_ret (results_1 rfl (gives_mat (g := R) rfl HF.1)) rfl ?_
      exact HF.2
end Go.Proofs.Ytaiplhddbmhodaa
