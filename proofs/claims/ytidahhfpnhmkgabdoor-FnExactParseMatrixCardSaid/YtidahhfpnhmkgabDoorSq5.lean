/- Squares turned: the plain function of their numbers, in new memory; nothing that was there changes. -/
import Derived.Test.YtidahhfpnhmkgabDoorSq4
namespace Go.Proofs.YtidahhfpnhmkgabDoor
open Go.RowKit
set_option maxHeartbeats 1000000
set_option linter.unusedVariables false
theorem turnL_at {n a b : Nat} (zs : List Int) (ha : a < n) (hb : b < n) : (turnL n zs).getD (a * n + b) 0 = zs.getD (b * n + a) 0 := by
  have h := cel_ofF (turnF (cel n zs)) ha hb
  exact h
theorem turned_any (n p g : Nat) (zs : List Int) (w : World) (n1 : 1 ≤ n) (n2 : n ≤ 4) (hp : Hid (p = n * n)) (hz : Hid (zs.length = p)) (p1 : p ≤ 16) (hq : Sq w g zs) :
    Calls Tryd.prog 44 #[sqV n (.slice (some ⟨g, 0, none⟩) p p)] w fun e w' => ∃ g', e = .returned (sqV n (.slice (some ⟨g', 0, none⟩) p p)) ∧ Below w.heap.size w w' ∧ w.heap.size ≤ g' ∧ Sq w' g' (turnL n zs) := by
  unfold sqV
  go_enter Tryd.func44, Tryd.ntmps44
  go_wp2_with fail
  refine (newSquare_any n p _ n1 n2 hp.out).mono ?_
  rintro e w1 ⟨g', rfl, hb1, hg1, hsq⟩
  unfold sqV
  have sA : Blk w1 w.heap.size 68 (sqC n (.slice (some ⟨g, 0, none⟩) p p)) := ((Blk.new w _ _).alloc _).below hb1 (by simp; omega)
  have rA : Blk w1 (w.heap.size + 1) 68 #[.nilFunc, .int .i64 0, .nilFunc, .int .i64 0, .int .i64 0, .slice none 0 0] := (blk_new (by simp)).below hb1 (by simp)
  have hgr : w.heap.size + 1 < g' := by simp at hg1; omega
  have hb0 := below_on (below_a2 w _ _) hb1
  have hgw := Blk.lt hq
  have qA := hq.below hb0
  have hc4 : ∀ o, (w1.alloc o).cell? ⟨w.heap.size, 4, none⟩ = some (.int .i64 n) := fun o => (sA.alloc o).cell 4
  clear hb1 hg1
  go_wp2_with fail
  obtain ⟨w2, hw2⟩ : ∃ w2, w2 = w1.alloc (.cells (sqC n (.slice (some ⟨g', 0, none⟩) p p)) 68) := ⟨_, rfl⟩
  have v2 : Blk w2 w1.heap.size 68 (sqC n (.slice (some ⟨g', 0, none⟩) p p)) := by rw [hw2]; exact Blk.new _ _ _
  have r2 : Blk w2 (w.heap.size + 1) 68 #[.nilFunc, .int .i64 0, .nilFunc, .int .i64 0, .int .i64 0, .slice none 0 0] := by rw [hw2]; exact rA.alloc _
  have s2 : Blk w2 w.heap.size 68 (sqC n (.slice (some ⟨g, 0, none⟩) p p)) := by rw [hw2]; exact sA.alloc _
  have q2 : Sq w2 g' (List.replicate p 0) := by rw [hw2]; exact Blk.alloc hsq _
  have z2 : Sq w2 g zs := by rw [hw2]; exact Blk.alloc qA _
  have b2 : Below w.heap.size w w2 := by rw [hw2]; exact hb0.alloc hb0.size _
  have hgs : ¬ w1.heap.size = g' := by have := Blk.lt hsq; omega
  unfold sqC at hw2
  rw [← hw2]
  obtain ⟨S, hS⟩ : ∃ S, S = w1.heap.size := ⟨_, rfl⟩
  rw [← hS] at v2 hgs
  rw [← hS]
  have V2 := Lib.hid v2
  have R2 := Lib.hid r2
  have S2 := Lib.hid s2
  have Q2 := Lib.hid q2
  have Z2 := Lib.hid z2
  have B2 := Lib.hid b2
  have HL : Hid ((turnL n zs).length = p) := by show _ = _; unfold turnL; rw [ofF_len, hp.out]
  have HG := Lib.hid (show ∀ j, j < w.heap.size + 2 → ¬ j = g' from fun j hj => by omega)
  clear hw2 hS v2 r2 s2 q2 z2 b2 sA rA hsq hb0 qA hq hc4
  go_loopg [14] n (fun gh i wr => ∃ (r : Nat) (cs : List Int), r ≤ n ∧ gh = n - r ∧ i = .int .i64 r ∧ Hid (cs.length = p) ∧ Hid (∀ a b, a < n → b < r → cs.getD (a * n + b) 0 = zs.getD (b * n + a) 0) ∧ Hid (Sq wr g' cs) ∧ Hid (w2.grownBy wr (some g')))
  case atStart => exact ⟨0, List.replicate p 0, Nat.zero_le _, rfl, rfl, List.length_replicate, (fun a b _ hb => by omega), Q2, World.grownBy.refl _ _⟩
  case round =>
    obtain ⟨r, cs, hr, rfl, rfl, hcl, hpre, hsq, hg2⟩ := hrel
    by_cases hlt : r < n
    · obtain ⟨a0, a1, a2, a3, a4, a5⟩ := six_cells (show Blk wr w.heap.size 68 #[_, _, _, _, _, _] from S2.out.grown hg2.out (by omega))
      obtain ⟨P, hP⟩ : ∃ P, P = r * n := ⟨_, rfl⟩
      have hPn : P + n ≤ p := by
        have : (r + 1) * n ≤ n * n := Nat.mul_le_mul_right n hlt
        rw [Nat.succ_mul] at this
        rw [hP, hp.out]; exact this
      have HP := Lib.hid hP
      clear hP
      go_wp2_with fail
      refine (row_is g n p r P n1 n2 hlt HP.out hPn _).mono ?_
      rintro e w3 ⟨rfl, hb3⟩
      have G3 := Lib.hid (grow_trans hg2.out (grow_below_any hb3 (some g')))
      have Q3 := Lib.hid (Nm.below hsq.out hb3)
      clear hb3 a0 a1 a2 a3 a4 a5
      go_wp2_with fail
      go_loopg [21] n (fun gi i wi => ∃ (c : Nat) (ds : List Int), c ≤ n ∧ gi = n - c ∧ i = .int .i64 c ∧ Hid (ds.length = p) ∧ Hid (∀ a b, a < n → b < r → ds.getD (a * n + b) 0 = zs.getD (b * n + a) 0) ∧ Hid (∀ a, a < c → ds.getD (a * n + r) 0 = zs.getD (r * n + a) 0) ∧ Hid (Sq wi g' ds) ∧ Hid (w2.grownBy wi (some g')))
      case atStart => exact ⟨0, cs, Nat.zero_le _, rfl, rfl, hcl, hpre, (fun a ha => by omega), Q3, G3⟩
      case round =>
        obtain ⟨c, ds, hc, rfl, rfl, hdl, hd1, hd2, hsq2, hg3⟩ := hrel
        by_cases hlc : c < n
        · have hzc := Nm.at_ (k := P + c) (Blk.grown Z2.out hg3.out (by omega)) (by have := hz.out; omega)
          obtain ⟨z, hze⟩ : ∃ z, z = zs.getD (P + c) 0 := ⟨_, rfl⟩
          rw [← hze] at hzc
          have HZ := Lib.hid hze
          obtain ⟨a0, a1, a2, a3, a4, a5⟩ := six_cells (show Blk wr S 68 #[_, _, _, _, _, _] from V2.out.grown hg3.out hgs)
          obtain ⟨P', hP'⟩ : ∃ P', P' = c * n := ⟨_, rfl⟩
          have hPn' : P' + n ≤ p := by
            have : (c + 1) * n ≤ n * n := Nat.mul_le_mul_right n hlc
            rw [Nat.succ_mul] at this
            rw [hP', hp.out]; exact this
          have HP' := Lib.hid hP'
          clear hP' hze
          go_wp2_with fail
          refine (row_is g' n p c P' n1 n2 hlc HP'.out hPn' _).mono ?_
          rintro e w4 ⟨rfl, hb4⟩
          have hsq4 := Lib.hid (Nm.below hsq2.out hb4)
          have G4 := Lib.hid (grow_trans hg3.out (grow_below_any hb4 (some g')))
          clear hb4 a0 a1 a2 a3 a4 a5 hzc
          have hcell := hsq4.out.at_ (k := P' + r) (by have := hdl.out; omega)
          have hfr := hsq4.out.fz (P' + r)
          have Q5 := Lib.hid (hsq4.out.set_ (P' + r) z)
          have G5 := Lib.hid (grow_trans G4.out (grow_set w4 g' (P' + r) (.int .i64 z)))
          have HN : Hid (∀ a b, a < n → b < n → a * n + b = P' + r → a = c ∧ b = r) := fun a b ha hb e => by
            rw [HP'.out] at e
            have h1 := congrArg (· / n) e
            have h2 := congrArg (· % n) e
            simp only [at_div hb, at_div hlt, at_mod hb, at_mod hlt] at h1 h2
            exact ⟨h1, h2⟩
          have D1 : Hid (∀ a b, a < n → b < r → (ds.set (P' + r) z).getD (a * n + b) 0 = zs.getD (b * n + a) 0) := fun a b ha hb => by
            rw [getD_set _ _ _ _ (by have := hdl.out; omega), if_neg (fun e => by have := (HN.out a b ha (by omega) e).2; omega)]
            exact hd1.out a b ha hb
          have D2 : Hid (∀ a, a < c + 1 → (ds.set (P' + r) z).getD (a * n + r) 0 = zs.getD (r * n + a) 0) := fun a ha => by
            rw [getD_set _ _ _ _ (by have := hdl.out; omega)]
            by_cases e : a * n + r = P' + r
            · have := (HN.out a r (by omega) hlt e).1
              subst this
              rw [if_pos e, HZ.out, HP.out]
            · rw [if_neg e]
              exact hd2.out a (by
                rcases Nat.lt_or_ge a c with h | h
                · exact h
                · have : a = c := by omega
                  subst this
                  rw [HP'.out] at e
                  exact absurd rfl e)
          go_wp2_with fail
          go_roundg (n - (c + 1))
          case rel => exact ⟨c + 1, ds.set (P' + r) z, by omega, rfl, by go_num, by show _ = _; rw [List.length_set]; exact hdl.out, D1, D2, Q5, G5⟩
          case measure => omega
        · obtain rfl : c = n := by omega
          have D1 : Hid (∀ a b, a < c → b < r + 1 → ds.getD (a * c + b) 0 = zs.getD (b * c + a) 0) := fun a b ha hb => by
            by_cases e : b = r
            · subst e; exact hd2.out a ha
            · exact hd1.out a b ha (by omega)
          go_wp2_with fail
          go_roundg (c - (r + 1))
          case rel => exact ⟨r + 1, ds, by omega, rfl, by go_num, hdl, D1, hsq2, hg3⟩
          case measure => omega
    · obtain rfl : r = n := by omega
      have hrr := R2.out.grown hg2.out (by omega)
      have hvr := V2.out.grown hg2.out hgs
      obtain ⟨a0, a1, a2, a3, a4, a5⟩ := six_cells (show Blk wr S 68 #[_, _, _, _, _, _] from hvr)
      obtain ⟨d0, d1, d2, d3, d4, d5⟩ := six_cells hrr
      obtain ⟨f0, f1, f2, f3, f4, f5⟩ := six_frozen hrr
      have HRR := Lib.hid hrr
      have HZS : Hid (cs = turnL r zs) := eq_of_getD (by rw [hcl.out, HL.out]) (fun q hq => by
        have hq' : q < r * r := by rw [← hp.out, ← hcl.out]; exact hq
        have h1 := div_lt_ hq'
        have h2 := mod_lt_ hq'
        have h3 := hpre.out (q / r) (q % r) h1 h2
        have h4 := turnL_at zs h1 h2
        have e : q / r * r + q % r = q := by rw [Nat.mul_comm, Nat.div_add_mod]
        rw [e] at h3 h4
        rw [h3, h4])
      clear hrr hvr
      go_wp2_with fail
      refine bodyPost_ret (results_1 rfl (Gives.row (g := w.heap.size + 1) rfl (blk_six HRR.out) Tryd.underlying68 rfl (by kernel_rfl))) rfl ?_
      refine ⟨g', rfl, ?_, by omega, ?_⟩
      · exact (B2.out.grown hg2.out B2.out.size (fun j hj => by cases hj; omega)).grown (grow_six _ _ _ _ _ _ _ _) (by have := hg2.out.size; have := B2.out.size; omega) (fun j hj => by cases hj; omega)
      · rw [← HZS.out]
        exact Blk.grown hsq.out (grow_six _ _ _ _ _ _ _ _) (by omega)
end Go.Proofs.YtidahhfpnhmkgabDoor
