/- The unit square, and squares turned: each the plain function of its numbers, in new memory; nothing that was there changes. -/
import Derived.Test.YtidahhfpnhmkgabSq3
import Derived.Deep.LoopGhost
namespace Go.Proofs.Ytidahhfpnhmkgab
open Go.RowKit
set_option maxHeartbeats 1000000
set_option linter.unusedVariables false
theorem getD_set (cs : List Int) (j q : Nat) (v : Int) (hj : j < cs.length) : (cs.set j v).getD q 0 = if q = j then v else cs.getD q 0 := by
  rw [List.getD_eq_getElem?_getD, List.getElem?_set]
  by_cases h : j = q
  · subst h; simp [hj]
  · rw [if_neg h, if_neg (fun e => h e.symm), List.getD_eq_getElem?_getD]
theorem eq_of_getD {xs ys : List Int} (hl : xs.length = ys.length) (h : ∀ q, q < xs.length → xs.getD q 0 = ys.getD q 0) : xs = ys := by
  apply List.ext_getElem hl
  intro q h1 h2
  have := h q h1
  rwa [List.getD_eq_getElem?_getD, List.getElem?_eq_getElem h1, List.getD_eq_getElem?_getD, List.getElem?_eq_getElem h2] at this
theorem unitL_at {n q : Nat} (hq : q < n * n) : (unitL n).getD q 0 = if q / n = q % n then 0 else 1000000 := by
  unfold unitL; rw [ofF_getD _ hq]; rfl
theorem grown_dr {w w' : World} {r : Option Nat} (h : w.grownBy w' r) (m : Nat) : w.grownBy (w'.drewN m) r := ⟨h.os, h.tape, h.output, h.size, h.block⟩

theorem unitSquare_any (n p : Nat) (w : World) (n1 : 1 ≤ n) (n2 : n ≤ 4) (hp : Hid (p = n * n)) (p1 : p ≤ 16) :
    Calls Try.prog 40 #[.agg ringV, .int .i64 n] w fun e w' => ∃ g, e = .returned (sqV n (.slice (some ⟨g, 0, none⟩) p p)) ∧ Below w.heap.size w w' ∧ w.heap.size ≤ g ∧ Sq w' g (unitL n) := by
  unfold ringV
  go_enter Try.func40, Try.ntmps40
  go_wp2_with fail
  refine (newSquare_any n p _ n1 n2 hp.out).mono ?_
  rintro e w1 ⟨g, rfl, hb1, hg1, hsq⟩
  unfold sqV
  have sA : Blk w1 w.heap.size 52 ringV := ((Blk.new w _ _).alloc _).below hb1 (by simp; omega)
  have rA : Blk w1 (w.heap.size + 1) 55 #[.nilFunc, .int .i64 0, .nilFunc, .int .i64 0, .int .i64 0, .slice none 0 0] := (blk_new (by simp)).below hb1 (by simp)
  have hgr : w.heap.size + 1 < g := by simp at hg1; omega
  have hb0 := below_on (below_a2 w _ _) hb1
  clear hb1 hg1
  go_wp2_with fail
  obtain ⟨w2, hw2⟩ : ∃ w2, w2 = w1.alloc (.cells (sqC n (.slice (some ⟨g, 0, none⟩) p p)) 55) := ⟨_, rfl⟩
  have v2 : Blk w2 w1.heap.size 55 (sqC n (.slice (some ⟨g, 0, none⟩) p p)) := by rw [hw2]; exact Blk.new _ _ _
  have r2 : Blk w2 (w.heap.size + 1) 55 #[.nilFunc, .int .i64 0, .nilFunc, .int .i64 0, .int .i64 0, .slice none 0 0] := by rw [hw2]; exact rA.alloc _
  have s2 : Blk w2 w.heap.size 52 ringV := by rw [hw2]; exact sA.alloc _
  have q2 : Sq w2 g (List.replicate p 0) := by rw [hw2]; exact Blk.alloc hsq _
  have b2 : Below w.heap.size w w2 := by rw [hw2]; exact hb0.alloc hb0.size _
  have hgs : ¬ w1.heap.size = g := by have := Blk.lt hsq; omega
  unfold sqC at hw2
  rw [← hw2]
  obtain ⟨S, hS⟩ : ∃ S, S = w1.heap.size := ⟨_, rfl⟩
  rw [← hS] at v2 hgs
  rw [← hS]
  have V2 := Lib.hid v2
  have R2 := Lib.hid r2
  have S2 := Lib.hid s2
  have Q2 := Lib.hid q2
  have B2 := Lib.hid b2
  have HL : Hid ((unitL n).length = p) := by show _ = _; unfold unitL; rw [ofF_len, hp.out]
  clear hw2 hS v2 r2 s2 q2 b2 sA rA hsq hb0
  go_loopg [13] n (fun gh i wr => ∃ (r : Nat) (cs : List Int), r ≤ n ∧ gh = n - r ∧ i = .int .i64 r ∧ Hid (cs.length = p) ∧ Hid (∀ q, q < r * n → cs.getD q 0 = (unitL n).getD q 0) ∧ Hid (Sq wr g cs) ∧ Hid (w2.grownBy wr (some g)))
  case atStart => exact ⟨0, List.replicate p 0, Nat.zero_le _, rfl, rfl, List.length_replicate, (fun q hq => by rw [Nat.zero_mul] at hq; omega), Q2, World.grownBy.refl _ _⟩
  case round =>
    obtain ⟨r, cs, hr, rfl, rfl, hcl, hpre, hsq, hg2⟩ := hrel
    by_cases hlt : r < n
    · obtain ⟨a0, a1, a2, a3, a4, a5⟩ := six_cells (show Blk wr S 55 #[_, _, _, _, _, _] from V2.out.grown hg2.out hgs)
      obtain ⟨P, hP⟩ : ∃ P, P = r * n := ⟨_, rfl⟩
      have hPn : P + n ≤ p := by
        have : (r + 1) * n ≤ n * n := Nat.mul_le_mul_right n hlt
        rw [Nat.succ_mul] at this
        rw [hP, hp.out]; exact this
      have HP := Lib.hid hP
      clear hP
      go_wp2_with fail
      refine (row_is g n p r P n1 n2 hlt HP.out hPn _).mono ?_
      rintro e w3 ⟨rfl, hb3⟩
      have G3 := Lib.hid (grow_trans hg2.out (grow_below_any hb3 (some g)))
      have Q3 := Lib.hid (Nm.below hsq.out hb3)
      clear hb3 a0 a1 a2 a3 a4 a5
      go_wp2_with fail
      go_loopg [21] n (fun gi i wi => ∃ (c : Nat) (ds : List Int), c ≤ n ∧ gi = n - c ∧ i = .int .i64 c ∧ Hid (ds.length = p) ∧ Hid (∀ q, q < P → ds.getD q 0 = (unitL n).getD q 0) ∧ Hid (∀ q, P ≤ q → q < P + c → ds.getD q 0 = 1000000) ∧ Hid (Sq wi g ds) ∧ Hid (w2.grownBy wi (some g)))
      case atStart => exact ⟨0, cs, Nat.zero_le _, rfl, rfl, hcl, (fun q hq => hpre.out q (by rw [← HP.out]; exact hq)), (fun q h1 h2 => by omega), Q3, G3⟩
      case round =>
        obtain ⟨c, ds, hc, rfl, rfl, hdl, hd1, hd2, hsq2, hg3⟩ := hrel
        by_cases hlc : c < n
        · have e3 := (S2.out.grown hg3.out (by omega)).cell 3
          simp [ringV] at e3
          have hcell := hsq2.out.at_ (k := P + c) (by have := hdl.out; omega)
          have hfr := hsq2.out.fz (P + c)
          have Q4 := Lib.hid (hsq2.out.set_ (P + c) 1000000)
          have G4 := Lib.hid (grow_trans hg3.out (grow_set wr g (P + c) (.int .i64 1000000)))
          have D1 : Hid (∀ q, q < P → (ds.set (P + c) 1000000).getD q 0 = (unitL n).getD q 0) := fun q hq => by rw [getD_set _ _ _ _ (by have := hdl.out; omega), if_neg (by omega)]; exact hd1.out q hq
          have D2 : Hid (∀ q, P ≤ q → q < P + (c + 1) → (ds.set (P + c) 1000000).getD q 0 = 1000000) := fun q h1 h2 => by
            rw [getD_set _ _ _ _ (by have := hdl.out; omega)]
            by_cases e : q = P + c
            · rw [if_pos e]
            · rw [if_neg e]; exact hd2.out q h1 (by omega)
          go_wp2_with fail
          go_roundg (n - (c + 1))
          case rel => exact ⟨c + 1, ds.set (P + c) 1000000, by omega, rfl, by go_num, by show _ = _; rw [List.length_set]; exact hdl.out, D1, D2, Q4, G4⟩
          case measure => omega
        · obtain rfl : c = n := by omega
          have e1 := (S2.out.grown hg3.out (by omega)).cell 1
          simp [ringV] at e1
          have hcell := hsq2.out.at_ (k := P + r) (by have := hdl.out; omega)
          have hfr := hsq2.out.fz (P + r)
          have Q4 := Lib.hid (hsq2.out.set_ (P + r) 0)
          have G4 := Lib.hid (grow_trans hg3.out (grow_set wr g (P + r) (.int .i64 0)))
          have D1 : Hid (∀ q, q < (r + 1) * c → (ds.set (P + r) 0).getD q 0 = (unitL c).getD q 0) := fun q hq => by
            rw [Nat.succ_mul, ← HP.out] at hq
            rw [getD_set _ _ _ _ (by have := hdl.out; omega)]
            by_cases h1 : q < P
            · rw [if_neg (by omega)]; exact hd1.out q h1
            · have hqe : q = r * c + (q - P) := by rw [← HP.out]; omega
              have hqp : q < c * c := by rw [← hp.out]; omega
              rw [unitL_at hqp, hqe, at_div (by omega), at_mod (by omega), ← hqe]
              by_cases e : q = P + r
              · rw [if_pos e, if_pos (by omega)]
              · rw [if_neg e, if_neg (by omega)]; exact hd2.out q (by omega) (by omega)
          go_wp2_with fail
          go_roundg (c - (r + 1))
          case rel => exact ⟨r + 1, ds.set (P + r) 0, by omega, rfl, by go_num, by show _ = _; rw [List.length_set]; exact hdl.out, D1, Q4, G4⟩
          case measure => omega
    · obtain rfl : r = n := by omega
      have hrr := R2.out.grown hg2.out (by omega)
      have hvr := V2.out.grown hg2.out hgs
      obtain ⟨a0, a1, a2, a3, a4, a5⟩ := six_cells (show Blk wr S 55 #[_, _, _, _, _, _] from hvr)
      obtain ⟨d0, d1, d2, d3, d4, d5⟩ := six_cells hrr
      obtain ⟨f0, f1, f2, f3, f4, f5⟩ := six_frozen hrr
      have HRR := Lib.hid hrr
      have HZS : Hid (cs = unitL r) := eq_of_getD (by rw [hcl.out, HL.out]) (fun q hq => hpre.out q (by rw [← hp.out, ← hcl.out]; exact hq))
      clear hrr hvr
      go_wp2_with fail
      refine bodyPost_ret (results_1 rfl (Gives.row (g := w.heap.size + 1) rfl (blk_six HRR.out) Try.underlying55 rfl (by kernel_rfl))) rfl ?_
      refine ⟨g, rfl, ?_, by omega, ?_⟩
      · exact (B2.out.grown hg2.out B2.out.size (fun j hj => by cases hj; omega)).grown (grow_six _ _ _ _ _ _ _ _) (by have := hg2.out.size; have := B2.out.size; omega) (fun j hj => by cases hj; omega)
      · rw [← HZS.out]
        exact Blk.grown hsq.out (grow_six _ _ _ _ _ _ _ _) (by omega)
end Go.Proofs.Ytidahhfpnhmkgab
