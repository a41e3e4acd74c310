/- What the model's functions of matrices return: the plain functions of their numbers, in new memory; nothing that was there changes. TurnMatrix and MinMatrix, as the model has them: the plain functions of their numbers, in new memory; nothing that was there changes. MinMatrix, as the model has it: the plain function of its numbers, in new memory; nothing that was there changes. -/
import Derived.Test.YtfdbbopanankgaaDoorFace
import Derived.Deep.QuietTactic
import Derived.BigQuiet
import Derived.Deep.RegionHeld3
import Derived.Deep.AppendLies
import Derived.Test.YtfdbbopanankgaaDoorLastOp
import Derived.Test.YtfdbbopanankgaaDoorPlain
namespace Go.Proofs.YtfdbbopanankgaaDoor
open Go.RowKit
set_option maxHeartbeats 1000000
set_option maxRecDepth 100000
set_option linter.unusedVariables false

theorem tmod_nat' (p L : Nat) : Int.tmod (p : Int) (L : Int) = ((p % L : Nat) : Int) := (Int.ofNat_tmod p L).symm
theorem tdiv_nat' (p L : Nat) : Int.tdiv (p : Int) (L : Int) = ((p / L : Nat) : Int) := (Int.ofNat_tdiv p L).symm
theorem take_snoc {zs : List Int} {k : Nat} {z : Int} (hk : k < zs.length) (hz : zs.getD k 0 = z) : zs.take (k + 1) = zs.take k ++ [z] := by
  rw [List.take_succ_eq_append_getElem hk]
  rw [List.getD_eq_getElem?_getD, List.getElem?_eq_getElem hk] at hz
  rw [← hz]; rfl
theorem own_cast {w : World} {base n n' : Nat} {t : TypeId} {x : Value} {xs ys : List Value} (h : w.ownsRow base t 1 x n xs) (hn : n = n') (hx : xs = ys) : w.ownsRow base t 1 x n' ys := by subst hn; subst hx; exact h

theorem app_grown {w2 wr w5 : World} {V m : Nat} {o : Obj} {row : Option Nat} (hg : w2.grownBy wr (some V)) (hgrow : ((wr.drewN m).alloc o).grownBy w5 row) (hrow : ∀ j, row = some j → w2.heap.size ≤ j) : w2.grownBy w5 (some V) :=
  grow_own (grow_trans (grown_dr hg m) (World.grownBy_alloc _ _ _)) hgrow hrow
theorem app_blk {w2 wr w5 : World} {V m : Nat} {o : Obj} {row : Option Nat} {t : TypeId} {cs : Array Value} (hv : Blk wr V t cs) (hgrow : ((wr.drewN m).alloc o).grownBy w5 row) (hV : V < w2.heap.size) (hrow : ∀ j, row = some j → w2.heap.size ≤ j) : Blk w5 V t cs :=
  (hgrow.block V (Blk.lt ((hv.drewN m).alloc o)) (fun e => by have := hrow V e.symm; omega)).trans ((hv.drewN m).alloc o)
theorem lit_cell (w : World) (m : Nat) (t : TypeId) (v : Value) : ∀ (j : Nat) u, [v][j]? = some u → ((w.drewN m).alloc (.cells #[v] t)).cell? ((⟨w.heap.size, 0, none⟩ : Addr).add j) = some u := by
  intro j u hj
  cases j with
  | zero => simp at hj; subst hj; exact (Blk.new (w.drewN m) t #[v]).cell 0
  | succ j => simp at hj
theorem slice_own {w : World} {base : Nat} {v : Value} {vs : List Int} (h : w.ownsRow base 3 1 v vs.length (vs.map (Value.int .i64))) (hm : vs.length ≤ maxLen) : ∃ A cap, v = .slice A vs.length cap := by
  obtain ⟨A, cap, e, _⟩ := own_ints h hm
  exact ⟨A, cap, e⟩

theorem mat_fin_n {w w3 : World} {R base cap n : Nat} {t : TypeId} {m : Int} {zs : List Int} {A : Option Addr} {u0 u1 : Value} (hn : zs.length = n) (rc : Blk w3 R t #[u0, u1]) (ho : w3.ownsRow base 3 1 (.slice A n cap) n (zs.map (Value.int .i64))) (hR : R < base) (hw : w.heap.size ≤ R) (hb : Below w.heap.size w w3) (hl : zs.length ≤ 1048577) :
    Blk ((w3.setCell ⟨R, 0, none⟩ (.int .i64 m)).setCell ⟨R, 1, none⟩ (.slice A n cap)) R t #[.int .i64 m, .slice A n cap] ∧ MatOwn ((w3.setCell ⟨R, 0, none⟩ (.int .i64 m)).setCell ⟨R, 1, none⟩ (.slice A n cap)) w.heap.size (.agg #[.int .i64 m, .slice A n cap]) m zs ∧ Below w.heap.size w ((w3.setCell ⟨R, 0, none⟩ (.int .i64 m)).setCell ⟨R, 1, none⟩ (.slice A n cap)) := by
  subst hn; exact mat_fin rc ho hR hw hb hl

theorem l2Unit_any (N : Nat) (w : World) (n1 : 1 ≤ N) (n2 : N ≤ 4) :
    Calls Tryd.prog 52 #[.int .i64 N] w fun e w' => ∃ v, e = .returned v ∧ MatOwn w' w.heap.size v N (unitL N) ∧ Below w.heap.size w w' := by
  obtain ⟨p, hp⟩ : ∃ p, p = N * N := ⟨_, rfl⟩
  have p1 : p ≤ 16 := by
    rw [hp]
    calc N * N ≤ 4 * 4 := Nat.mul_le_mul n2 n2
      _ = 16 := rfl
  have h1 : wrap64 ((N : Int) * (N : Int)) = (p : Int) := by rw [← Int.natCast_mul, ← hp]; exact w64_nat (by omega)
  have HP := Lib.hid hp
  clear hp
  go_enter Tryd.func52, Tryd.ntmps52
  go_wp2_with fail
  obtain ⟨w2, hw2⟩ : ∃ w2, w2 = (w.alloc (.cells #[.int .i64 0, .slice none 0 0] 80)).alloc (.cells #[.int .i64 N, .slice none 0 0] 80) := ⟨_, rfl⟩
  have r2 : Blk w2 w.heap.size 80 #[.int .i64 0, .slice none 0 0] := by rw [hw2]; exact (Blk.new _ _ _).alloc _
  have v2 : Blk w2 (w.heap.size + 1) 80 #[.int .i64 N, .slice none 0 0] := by rw [hw2]; exact blk_new (by simp)
  have b2 : Below w.heap.size w w2 := by rw [hw2]; exact below_a2 _ _ _
  rw [← hw2, h1]
  clear h1
  have R2 := Lib.hid r2
  have V2 := Lib.hid v2
  have B2 := Lib.hid b2
  have hs2 : w.heap.size + 1 < w2.heap.size := Blk.lt v2
  have HL : Hid ((unitL N).length = p) := by show _ = _; unfold unitL; rw [ofF_len, HP.out]
  have HU : Hid (∀ k, k < p → (unitL N).getD k 0 = if k / N = k % N then 0 else 1000000) := fun k hk => unitL_at (by rw [← HP.out]; exact hk)
  obtain ⟨i0, hi, hz0, hz1, hz2⟩ := info_parts info_int
  have Z0 := Lib.hid hz0
  have Z1 := Lib.hid hz1
  have Z2 := Lib.hid hz2
  have ZI := Lib.hid hi
  have hN0 : ¬ N = 0 := by omega
  have hN0b : ((N : Int) == 0) = false := by rw [beq_eq_false_iff_ne]; omega
  clear hw2 r2 v2 b2 hz0 hz1 hz2 hi
  go_loopw [10] (fun i wr => ∃ (k : Nat) (A : Option Addr) (cap : Nat), k ≤ p ∧ i = .int .i64 k ∧ Hid (Blk wr (w.heap.size + 1) 80 #[.int .i64 N, .slice A k cap]) ∧ Hid (wr.ownsRow w2.heap.size 3 1 (.slice A k cap) k (((unitL N).take k).map (Value.int .i64))) ∧ Hid (w2.grownBy wr (some (w.heap.size + 1)))) (fun i _ => p - (intOf i).toNat)
  case atStart => exact ⟨0, none, 0, Nat.zero_le _, rfl, V2, World.ownsRow_nil _ _ _ _, World.grownBy.refl _ _⟩
  case round =>
    obtain ⟨k, A, cap, hk, rfl, hv, hown, hg2⟩ := hrel
    by_cases hlt : k < p
    · obtain ⟨c0, c1⟩ := two_cells hv.out
      have e1 := tdiv_nat' k N
      have e2 := tmod_nat' k N
      obtain ⟨q, hq⟩ : ∃ q, q = k / N := ⟨_, rfl⟩
      obtain ⟨r, hr⟩ : ∃ r, r = k % N := ⟨_, rfl⟩
      have hqk : q ≤ k := by rw [hq]; exact Nat.div_le_self _ _
      have d3 : IntKind.i64.wrap (q : Int) = (q : Int) := IntWalk.i64_in _ (by omega)
      have HU2 := HU.out k hlt
      rw [← hq, ← hr] at HU2
      rw [← hq] at e1
      rw [← hr] at e2
      have HU3 := Lib.hid HU2
      clear hq hr HU2
      rcases Bool.eq_false_or_eq_true ((q : Int) == (r : Int)) with hqr | hqr
      · have HZ : Hid ((unitL N).getD k 0 = 0) := by have := beq_iff_eq.1 hqr; show _ = _; rw [HU3.out, if_pos (by omega)]
        go_wp2_with fail
        go_quiet (fail)
        clear e1 e2 d3
        go_wp2_with (at_builtin; refine wpList_append_own _ rfl _ _ 23 rfl w2.heap.size 3 i0 (.int .i64 0) 1 8 Tryd.underlying23 ZI.out Z0.out Z1.out Z2.out rfl (by decide) _ _ _ rfl ((own_dr hown.out nq).alloc _) ⟨wr.heap.size, 0, none⟩ 1 1 [.int .i64 0] rfl rfl ?c1 ?c2 ?c3 ?c4 ?c5 ?_)
        case c1 => exact lit_cell wr nq _ _
        case c2 => intro u hu; simp at hu; subst hu; rfl
        case c3 => unfold maxLen; omega
        case c4 => omega
        case c5 => have := hg2.out.size; simp; omega
        · intro v' w5 hown' hgrow _
          have hrow : ∀ j, (Value.slice A k cap).ownBlock = some j → w2.heap.size ≤ j := fun j hj => (hown.out.lt j hj).1
          have G5 := Lib.hid (app_grown hg2.out hgrow hrow)
          have V5 := Lib.hid (app_blk hv.out hgrow hs2 hrow)
          have hl1 : (((unitL N).take k) ++ [0]).length = k + 1 := by have := HL.out; simp; omega
          have hown5 := own_cast hown' hl1.symm (show _ = (((unitL N).take k) ++ [0]).map (Value.int .i64) by rw [← List.map_take, int_snoc])
          obtain ⟨A5, cap5, rfl⟩ := slice_own hown5 (by rw [hl1]; unfold maxLen; omega)
          have hown6 := own_cast hown' rfl (show _ = (((unitL N).take (k + 1)).map (Value.int .i64)) by rw [← List.map_take, take_snoc (by have := HL.out; omega) HZ.out, int_snoc])
          rw [hl1] at hown6 ⊢
          obtain ⟨e0, e1⟩ := two_cells V5.out
          obtain ⟨f0, f1⟩ := two_frozen V5.out
          have V6 := Lib.hid (V5.out.set_ 1 (.slice A5 (k + 1) cap5))
          have O6 := Lib.hid (own_far hown6 (grow_set w5 (w.heap.size + 1) 1 (.slice A5 (k + 1) cap5)) hs2)
          have G6 := Lib.hid (grow_trans G5.out (grow_set w5 (w.heap.size + 1) 1 (.slice A5 (k + 1) cap5)))
          clear hown' hgrow hown5 hown6 hrow c0 c1
          go_wp2_with fail
          go_roundw
          case rel => exact ⟨k + 1, A5, cap5, by omega, by go_num, V6.out, O6.out, G6.out⟩
          case measure => simp [intOf]; omega
      · have HZ : Hid ((unitL N).getD k 0 = 1000000) := by have := beq_eq_false_iff_ne.1 hqr; show _ = _; rw [HU3.out, if_neg (by omega)]
        go_wp2_with fail
        go_quiet (fail)
        clear e1 e2 d3
        go_wp2_with (at_builtin; refine wpList_append_own _ rfl _ _ 23 rfl w2.heap.size 3 i0 (.int .i64 0) 1 8 Tryd.underlying23 ZI.out Z0.out Z1.out Z2.out rfl (by decide) _ _ _ rfl ((own_dr hown.out nq).alloc _) ⟨wr.heap.size, 0, none⟩ 1 1 [.int .i64 1000000] rfl rfl ?c1 ?c2 ?c3 ?c4 ?c5 ?_)
        case c1 => exact lit_cell wr nq _ _
        case c2 => intro u hu; simp at hu; subst hu; rfl
        case c3 => unfold maxLen; omega
        case c4 => omega
        case c5 => have := hg2.out.size; simp; omega
        · intro v' w5 hown' hgrow _
          have hrow : ∀ j, (Value.slice A k cap).ownBlock = some j → w2.heap.size ≤ j := fun j hj => (hown.out.lt j hj).1
          have G5 := Lib.hid (app_grown hg2.out hgrow hrow)
          have V5 := Lib.hid (app_blk hv.out hgrow hs2 hrow)
          have hl1 : (((unitL N).take k) ++ [1000000]).length = k + 1 := by have := HL.out; simp; omega
          have hown5 := own_cast hown' hl1.symm (show _ = (((unitL N).take k) ++ [1000000]).map (Value.int .i64) by rw [← List.map_take, int_snoc])
          obtain ⟨A5, cap5, rfl⟩ := slice_own hown5 (by rw [hl1]; unfold maxLen; omega)
          have hown6 := own_cast hown' rfl (show _ = (((unitL N).take (k + 1)).map (Value.int .i64)) by rw [← List.map_take, take_snoc (by have := HL.out; omega) HZ.out, int_snoc])
          rw [hl1] at hown6 ⊢
          obtain ⟨e0, e1⟩ := two_cells V5.out
          obtain ⟨f0, f1⟩ := two_frozen V5.out
          have V6 := Lib.hid (V5.out.set_ 1 (.slice A5 (k + 1) cap5))
          have O6 := Lib.hid (own_far hown6 (grow_set w5 (w.heap.size + 1) 1 (.slice A5 (k + 1) cap5)) hs2)
          have G6 := Lib.hid (grow_trans G5.out (grow_set w5 (w.heap.size + 1) 1 (.slice A5 (k + 1) cap5)))
          clear hown' hgrow hown5 hown6 hrow c0 c1
          go_wp2_with fail
          go_roundw
          case rel => exact ⟨k + 1, A5, cap5, by omega, by go_num, V6.out, O6.out, G6.out⟩
          case measure => simp [intOf]; omega
    · have hrr := R2.out.grown hg2.out (by omega)
      obtain ⟨a0, a1⟩ := two_cells hv.out
      obtain ⟨d0, d1⟩ := two_cells hrr
      obtain ⟨f0, f1⟩ := two_frozen hrr
      have hkp : k = p := by omega
      have HO : Hid (wr.ownsRow w2.heap.size 3 1 (.slice A k cap) k ((unitL N).map (Value.int .i64))) := by
        have h := hown.out
        rw [List.take_of_length_le (by have := HL.out; omega)] at h
        exact h
      have RR := Lib.hid hrr
      have HB := Lib.hid (B2.out.grown hg2.out B2.out.size (fun j hj => by cases hj; omega))
      have HK : Hid ((unitL N).length = k) := HL.out.trans hkp.symm
      clear hrr hkp
      go_wp2_with fail
      have HF := mat_fin_n (w := w) (m := (N : Int)) HK.out RR.out HO.out (by omega) (Nat.le_refl _) HB.out (by have := HL.out; omega)
      refine bodyPost_ret (results_1 rfl (gives_mat (g := w.heap.size) rfl HF.1)) rfl ?_
      exact ⟨_, rfl, HF.2.1, HF.2.2⟩
end Go.Proofs.YtfdbbopanankgaaDoor
namespace Go.Proofs.YtfdbbopanankgaaDoor
open Go.RowKit
set_option maxHeartbeats 1000000
set_option maxRecDepth 100000
set_option linter.unusedVariables false

theorem i64_small {n : Nat} (h : n < 16) : IntKind.i64.wrap (n : Int) = (n : Int) := IntWalk.i64_in _ (by omega)
end Go.Proofs.YtfdbbopanankgaaDoor
namespace Go.Proofs.YtfdbbopanankgaaDoor
open Go.RowKit
set_option maxHeartbeats 1000000
set_option maxRecDepth 100000
set_option linter.unusedVariables false

end Go.Proofs.YtfdbbopanankgaaDoor
