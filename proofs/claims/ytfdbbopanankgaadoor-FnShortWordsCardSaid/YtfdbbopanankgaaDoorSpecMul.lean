/- MulMatrix, as the model has it: the plain function of its numbers, in new memory; nothing that was there changes. -/
import Derived.Test.YtfdbbopanankgaaDoorSpecMin
import Derived.Deep.LoopGhost
namespace Go.Proofs.YtfdbbopanankgaaDoor
open Go.RowKit
set_option maxHeartbeats 2000000
set_option maxRecDepth 100000
set_option linter.unusedVariables false

theorem l1Add_is (a b v : Int) (w : World) (ha : 0 ≤ a) (ha' : a ≤ 1000000) (hb : 0 ≤ b) (hb' : b ≤ 1000000) (hv : min (a + b) 1000000 = v) :
    Calls Tryd.prog 63 #[.int .i64 a, .int .i64 b] w fun e w' => e = .returned (.int .i64 v) ∧ w = w' := by
  subst hv; exact l1Add_any a b w ha ha' hb hb'

theorem mulL_at (N : Nat) (zs ys : List Int) {k : Nat} (hk : k < N * N) : (mulL N zs ys).getD k 0 = dot (fun l => zs.getD (k / N * N + l) 0) (fun l => ys.getD (l * N + k % N) 0) N := by
  unfold mulL; rw [ofF_getD _ hk]; rfl

theorem l2Mul_any (N p : Nat) (A A' : Option Addr) (cap cap' : Nat) (zs ys : List Int) (w : World) (n1 : 1 ≤ N) (n2 : N ≤ 4) (p1 : p ≤ 16) (HP : Hid (p = N * N)) (HLP : Hid (zs.length = p)) (HLQ : Hid (ys.length = p)) (HZR : Hid (InR N (cel N zs))) (HYR : Hid (InR N (cel N ys))) (hz : Ints w w.heap.size A zs) (hy : Ints w w.heap.size A' ys) :
    Calls Tryd.prog 54 #[.agg #[.int .i64 N, .slice A p cap], .agg #[.int .i64 N, .slice A' p cap']] w fun e w' => ∃ v, e = .returned v ∧ MatOwn w' w.heap.size v N (mulL N zs ys) ∧ Below w.heap.size w w' := by
  have h1 : wrap64 ((N : Int) * (N : Int)) = (p : Int) := by rw [← Int.natCast_mul, ← HP.out]; exact w64_nat (by omega)
  go_enter Tryd.func54, Tryd.ntmps54
  go_wp2_with fail
  rw [h1]
  clear h1
  obtain ⟨V, hV⟩ : ∃ V, V = w.heap.size + 1 + 1 + 1 := ⟨_, rfl⟩
  obtain ⟨w2, hw2⟩ : ∃ w2, w2 = (((w.alloc (.cells #[.int .i64 N, .slice A p cap] 80)).alloc (.cells #[.int .i64 N, .slice A' p cap'] 80)).alloc (.cells #[.int .i64 0, .slice none 0 0] 80)).alloc (.cells #[.int .i64 N, .slice none 0 0] 80) := ⟨_, rfl⟩
  have v2 : Blk w2 V 80 #[.int .i64 N, .slice none 0 0] := by rw [hw2, hV]; exact blk_new (by simp)
  have P2 : Hid (Blk w2 w.heap.size 80 #[.int .i64 N, .slice A p cap]) := by rw [hw2]; exact (((Blk.new _ _ _).alloc _).alloc _).alloc _
  have Q2 : Hid (Blk w2 (w.heap.size + 1) 80 #[.int .i64 N, .slice A' p cap']) := by rw [hw2]; exact ((blk_new (by simp)).alloc _).alloc _
  have R2 : Hid (Blk w2 (w.heap.size + 1 + 1) 80 #[.int .i64 0, .slice none 0 0]) := by rw [hw2]; exact (blk_new (by simp)).alloc _
  have B2 : Hid (Below w.heap.size w w2) := by rw [hw2]; exact below_al (below_a3 _ _ _ _) (Nat.le_refl _) _
  have hVr : w.heap.size + 1 + 1 < V := by rw [hV]; omega
  have V2 := Lib.hid v2
  have hs2 : V < w2.heap.size := Blk.lt v2
  rw [← hw2, ← hV]
  clear hw2 hV v2
  have HL : Hid ((mulL N zs ys).length = p) := by show _ = _; unfold mulL; rw [ofF_len, HP.out]
  have hN0 : ¬ N = 0 := by omega
  have hN0b : ((N : Int) == 0) = false := by rw [beq_eq_false_iff_ne]; omega
  obtain ⟨i0, hi, hz0, hz1, hz2⟩ := info_parts info_int
  have Z0 := Lib.hid hz0
  have Z1 := Lib.hid hz1
  have Z2 := Lib.hid hz2
  have ZI := Lib.hid hi
  have HZ0 := Lib.hid hz
  have HY0 := Lib.hid hy
  clear hz0 hz1 hz2 hi hz hy
  go_loopg [19] p (fun gh i wr => ∃ (k : Nat) (Ao : Option Addr) (capo : Nat), k ≤ p ∧ gh = p - k ∧ i = .int .i64 k ∧ Hid (Blk wr V 80 #[.int .i64 N, .slice Ao k capo]) ∧ Hid (wr.ownsRow w2.heap.size 3 1 (.slice Ao k capo) k (((mulL N zs ys).take k).map (Value.int .i64))) ∧ Hid (w2.grownBy wr (some V)))
  case atStart => exact ⟨0, none, 0, Nat.zero_le _, rfl, rfl, V2, World.ownsRow_nil _ _ _ _, World.grownBy.refl _ _⟩
  case round =>
    obtain ⟨k, Ao, capo, hk, rfl, rfl, hv, hown, hg2⟩ := hrel
    by_cases hlt : k < p
    · have hkN : k < N * N := by rw [← HP.out]; exact hlt
      have hd1 := div_lt_ hkN
      have hd2 := mod_lt_ hkN
      have HM : Hid ((mulL N zs ys).getD k 0 = dot (fun l => zs.getD (k / N * N + l) 0) (fun l => ys.getD (l * N + k % N) 0) N) := mulL_at N zs ys hkN
      have e1 := tdiv_nat' k N
      have e2 := tmod_nat' k N
      obtain ⟨q, hq⟩ : ∃ q, q = k / N := ⟨_, rfl⟩
      obtain ⟨r, hr⟩ : ∃ r, r = k % N := ⟨_, rfl⟩
      rw [← hq] at hd1 e1 HM
      rw [← hr] at hd2 e2 HM
      obtain ⟨x, hx⟩ : ∃ x, x = q * N := ⟨_, rfl⟩
      have hxN : ∀ l, l < N → x + l < p := fun l hl => by rw [hx, HP.out]; exact at_lt hd1 hl
      rw [← hx] at HM
      have hrN : ∀ l, l < N → l * N + r < p := fun l hl => by rw [HP.out]; exact at_lt hl hd2
      have HZc : Hid (∀ l, l < N → 0 ≤ zs.getD (x + l) 0 ∧ zs.getD (x + l) 0 ≤ 1000000) := fun l hl => by rw [hx]; exact HZR.out q l hd1 hl
      have HYc : Hid (∀ l, l < N → 0 ≤ ys.getD (l * N + r) 0 ∧ ys.getD (l * N + r) 0 ≤ 1000000) := fun l hl => HYR.out l r hl hd2
      obtain ⟨F, hF⟩ : ∃ F : Nat → Int, F = fun l => zs.getD (x + l) 0 := ⟨_, rfl⟩
      obtain ⟨G, hG⟩ : ∃ G : Nat → Int, G = fun l => ys.getD (l * N + r) 0 := ⟨_, rfl⟩
      rw [← hF, ← hG] at HM
      have hq8 : q < 16 := by omega
      have hx8 : x < 16 := by have := hxN 0 (by omega); omega
      have HX := Lib.hid hx
      have HXN := Lib.hid hxN
      have HRN := Lib.hid hrN
      have HFe := Lib.hid hF
      have HGe := Lib.hid hG
      have d3 : IntKind.i64.wrap (q : Int) = (q : Int) := i64_small hq8
      obtain ⟨a0, a1⟩ := two_cells (P2.out.grown hg2.out (by omega))
      clear hq hr hx hxN hrN hF hG
      go_wp2_with fail
      go_quiet (fail)
      clear e1 e2 d3
      go_wp2_with fail
      obtain ⟨w3, hw3⟩ : ∃ w3, w3 = wr.drewN nq := ⟨_, rfl⟩
      have V3 : Hid (Blk w3 V 80 #[.int .i64 N, .slice Ao k capo]) := by rw [hw3]; exact hv.out.drewN nq
      have O3 : Hid (w3.ownsRow w2.heap.size 3 1 (.slice Ao k capo) k (((mulL N zs ys).take k).map (Value.int .i64))) := by rw [hw3]; exact own_dr hown.out nq
      have G3 : Hid (w2.grownBy w3 (some V)) := by rw [hw3]; exact grown_dr hg2.out nq
      rw [← hw3]
      clear hw3 hv hown hg2 a0 a1
      go_loopg [32, 9] N (fun gi i c wi => ∃ (l : Nat) (c0 : Int), l ≤ N ∧ gi = N - l ∧ i = .int .i64 l ∧ c = .int .i64 c0 ∧ Hid (c0 = dot F G l) ∧ Hid (Below w3.heap.size w3 wi))
      case atStart => exact ⟨0, 1000000, Nat.zero_le _, rfl, rfl, rfl, rfl, Below.refl _ _⟩
      case round =>
        obtain ⟨l, c0, hl, rfl, rfl, rfl, hc0, hbi⟩ := hrel
        have G4 := Lib.hid (grow_trans G3.out (grow_below_any hbi.out (some V)))
        by_cases hll : l < N
        · have hi1 := HXN.out l hll
          have hi2 := HRN.out l hll
          have hlN : l < 16 := by omega
          obtain ⟨s1, hs1⟩ : ∃ s1, s1 = x + l := ⟨_, rfl⟩
          obtain ⟨y, hyy⟩ : ∃ y, y = l * N := ⟨_, rfl⟩
          rw [← hyy] at hi2
          rw [← hs1] at hi1
          obtain ⟨s2, hs2'⟩ : ∃ s2, s2 = y + r := ⟨_, rfl⟩
          rw [← hs2'] at hi2
          have hy8 : y < 16 := by omega
          have hs18 : s1 < 16 := by omega
          have hs28 : s2 < 16 := by omega
          obtain ⟨b, off, u, rfl, hbB, hcu, _, hgu⟩ := HZ0.out.at_ (k := s1) (by have := HLP.out; omega)
          obtain ⟨b', off', v, rfl, hbB', hcv, _, hgv⟩ := HY0.out.at_ (k := s2) (by have := HLQ.out; omega)
          have hu := HZc.out l hll
          have hv := HYc.out l hll
          rw [← hs1, hgu] at hu
          rw [← hyy, ← hs2', hgv] at hv
          obtain ⟨t, ht⟩ : ∃ t, min (u + v) 1000000 = t := ⟨_, rfl⟩
          obtain ⟨z, hz⟩ : ∃ z, z = min c0 t := ⟨_, rfl⟩
          have HD : Hid (z = dot F G (l + 1)) := by
            show _ = _
            have f1 : F l = u := by rw [HFe.out]; show zs.getD (x + l) 0 = u; rw [← hs1]; exact hgu
            have f2 : G l = v := by rw [HGe.out]; show ys.getD (l * N + r) 0 = v; rw [← hyy, ← hs2']; exact hgv
            rw [hz, ← ht, hc0.out]
            show _ = min (dot F G l) (min (F l + G l) 1000000)
            rw [f1, f2]
          have hm1 : (if t < c0 then t else c0) = z := by rw [hz]; split <;> omega
          have hm2 : (if t < c0 then Value.int .i64 t else Value.int .i64 c0) = Value.int .i64 z := by rw [← hm1]; split <;> rfl
          have HT := Lib.hid ht
          have j1 : (s1 : Int) < (p : Int) := by omega
          have j2 : (0 : Int) ≤ (s1 : Int) := by omega
          have j3 : (s2 : Int) < (p : Int) := by omega
          have j4 : (0 : Int) ≤ (s2 : Int) := by omega
          have P4 := P2.out.grown G4.out (by omega)
          have Q4 := Q2.out.grown G4.out (by omega)
          obtain ⟨a0, a1⟩ := two_cells P4
          have a3 := Q4.cell 1
          simp at a3
          have hB4 := B2.out.grown G4.out B2.out.size (fun j hj => by cases hj; omega)
          have c1 := (hB4.cell (p := ⟨b, off + s1, none⟩) hbB).trans hcu
          have c2 := (hB4.cell (p := ⟨b', off' + s2, none⟩) hbB').trans hcv
          have e3 : IntKind.i64.wrap ((q : Int) * (N : Int)) = (x : Int) := by rw [← Int.natCast_mul, ← HX.out]; exact i64_small hx8
          have e4 : IntKind.i64.wrap ((x : Int) + (l : Int)) = (s1 : Int) := by rw [← Int.natCast_add, ← hs1]; exact i64_small hs18
          have e5 : IntKind.i64.wrap ((l : Int) * (N : Int)) = (y : Int) := by rw [← Int.natCast_mul, ← hyy]; exact i64_small hy8
          have e6 : IntKind.i64.wrap ((y : Int) + (r : Int)) = (s2 : Int) := by rw [← Int.natCast_add, ← hs2']; exact i64_small hs28
          clear P4 Q4 hB4 hcu hcv hgu hgv hs1 hyy hs2' hz ht
          go_wp2_with fail
          go_quiet ((go_at_call 63; exact Calls.quiet_of_same ((l1Add_is u v t _ hu.1 hu.2 hv.1 hv.2 HT.out).mono (fun _ _ h => ⟨h.1, h.2.symm⟩))))
          clear e3 e4 e5 e6 hm1
          go_wp2_with fail
          go_roundg (N - (l + 1))
          case rel => exact ⟨l + 1, z, by omega, rfl, by go_num, (by first | rfl | simp [hm2]), HD, Lib.hid ⟨hbi.out.os, hbi.out.tape, hbi.out.output, hbi.out.size, hbi.out.block⟩⟩
          case measure => omega
        · obtain rfl : N = l := by omega
          have V4 := Lib.hid (V3.out.below hbi.out (Blk.lt V3.out))
          have O4 := Lib.hid (own_under O3.out hbi.out)
          have HZ : Hid ((mulL N zs ys).getD k 0 = c0) := by show _ = _; rw [HM.out, hc0.out]
          have hrow : ∀ j, (Value.slice Ao k capo).ownBlock = some j → w2.heap.size ≤ j := fun j hj => (O3.out.lt j hj).1
          obtain ⟨a0, a1⟩ := two_cells V4.out
          clear hbi hrow
          go_wp2_with (at_builtin; refine wpList_append_own _ rfl _ _ 23 rfl w2.heap.size 3 i0 (.int .i64 0) 1 8 Tryd.underlying23 ZI.out Z0.out Z1.out Z2.out rfl (by decide) _ _ _ rfl (O4.out.alloc _) ⟨_, 0, none⟩ 1 1 [.int .i64 c0] rfl rfl ?c1 ?c2 ?c3 ?c4 ?c5 ?_)
          case c1 => exact lit_cell wr 0 _ _
          case c2 => intro u hu; simp at hu; subst hu; rfl
          case c3 => unfold maxLen; omega
          case c4 => omega
          case c5 => have := G4.out.size; simp; omega
          · intro v' w5 hown' hgrow _
            have hrow : ∀ j, (Value.slice Ao k capo).ownBlock = some j → w2.heap.size ≤ j := fun j hj => (O4.out.lt j hj).1
            have G5 := Lib.hid (app_grown (m := 0) G4.out hgrow hrow)
            have V5 := Lib.hid (app_blk (m := 0) V4.out hgrow hs2 hrow)
            have hl1 : (((mulL N zs ys).take k) ++ [c0]).length = k + 1 := by have := HL.out; simp; omega
            have hown5 := own_cast hown' hl1.symm (show _ = (((mulL N zs ys).take k) ++ [c0]).map (Value.int .i64) by rw [← List.map_take, int_snoc])
            obtain ⟨A5, cap5, rfl⟩ := slice_own hown5 (by rw [hl1]; unfold maxLen; omega)
            have hown6 := own_cast hown' rfl (show _ = (((mulL N zs ys).take (k + 1)).map (Value.int .i64)) by rw [← List.map_take, take_snoc (by have := HL.out; omega) HZ.out, int_snoc])
            rw [hl1] at hown6 ⊢
            obtain ⟨x0, x1⟩ := two_cells V5.out
            obtain ⟨f0, f1⟩ := two_frozen V5.out
            have V6 := Lib.hid (V5.out.set_ 1 (.slice A5 (k + 1) cap5))
            have O6 := Lib.hid (own_far hown6 (grow_set w5 V 1 (.slice A5 (k + 1) cap5)) hs2)
            have G6 := Lib.hid (grow_trans G5.out (grow_set w5 V 1 (.slice A5 (k + 1) cap5)))
            clear hown' hgrow hown5 hown6 hrow a0 a1
            go_wp2_with fail
            go_roundg (p - (k + 1))
            case rel => exact ⟨k + 1, A5, cap5, by omega, rfl, by go_num, V6.out, O6.out, G6.out⟩
            case measure => omega
    · have hrr := R2.out.grown hg2.out (by omega)
      obtain ⟨a0, a1⟩ := two_cells hv.out
      obtain ⟨d0, d1⟩ := two_cells hrr
      obtain ⟨f0, f1⟩ := two_frozen hrr
      have hkp : k = p := by omega
      have HO : Hid (wr.ownsRow w2.heap.size 3 1 (.slice Ao k capo) k ((mulL N zs ys).map (Value.int .i64))) := by
        have h := hown.out
        rw [List.take_of_length_le (by have := HL.out; omega)] at h
        exact h
      have RR := Lib.hid hrr
      have HB := Lib.hid (B2.out.grown hg2.out B2.out.size (fun j hj => by cases hj; omega))
      have HK : Hid ((mulL N zs ys).length = k) := HL.out.trans hkp.symm
      clear hrr hkp
      go_wp2_with fail
      have HF := mat_fin_n (w := w) (m := (N : Int)) HK.out RR.out HO.out (by omega) (by omega) HB.out (by have := HL.out; omega)
      refine bodyPost_ret (results_1 rfl (gives_mat (g := w.heap.size + 1 + 1) rfl HF.1)) rfl ?_
      exact ⟨_, rfl, HF.2.1, HF.2.2⟩

end Go.Proofs.YtfdbbopanankgaaDoor
