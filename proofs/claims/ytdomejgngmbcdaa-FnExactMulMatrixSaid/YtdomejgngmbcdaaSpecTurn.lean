/- TurnMatrix and MinMatrix, as the model has them: the plain functions of their numbers, in new memory; nothing that was there changes. -/
import Derived.Test.YtdomejgngmbcdaaSpec
import Derived.Deep.RegionHeld3
import Derived.Deep.AppendLies
import Derived.Test.YtdomejgngmbcdaaLastOp
import Derived.Test.YtdomejgngmbcdaaOpen
namespace Go.Proofs.Ytdomejgngmbcdaa
open Go.RowKit
set_option maxHeartbeats 1000000
set_option maxRecDepth 100000
set_option linter.unusedVariables false

theorem sMatrixValid_p (m : Int) (A : Option Addr) (cap p : Nat) (zs : List Int) (r : Bool) (w : World) (hl : zs.length = p) (hz : Ints w w.heap.size A zs) (hr : matOk m zs = r) :
    Calls Try.prog 32 #[.agg #[.int .i64 m, .slice A p cap]] w fun e w' => e = .returned (.bool r) ∧ Below w.heap.size w w' := by
  subst hl; exact sMatrixValid_is m A cap zs r w hz hr
theorem i64_small {n : Nat} (h : n < 16) : IntKind.i64.wrap (n : Int) = (n : Int) := IntWalk.i64_in _ (by omega)
theorem sTurn_any (m : Int) (A : Option Addr) (cap : Nat) (zs : List Int) (w : World) (hz : Ints w w.heap.size A zs) :
    Calls Try.prog 38 #[.agg #[.int .i64 m, .slice A zs.length cap]] w fun e w' => MEnd (turnR m zs) w e w' := by
  rcases Bool.eq_false_or_eq_true (matOk m zs) with hok | hok
  · obtain ⟨N, rfl, mv⟩ := matOk_t hok
    have n1 := mv.lo
    have n2 := mv.hi
    obtain ⟨p, hp⟩ : ∃ p, p = zs.length := ⟨_, rfl⟩
    have p1 : p ≤ 16 := by rw [hp]; exact mv.few
    have HR : Hid (turnR (N : Int) zs = some ((N : Int), turnL N zs)) := by show _ = _; unfold turnR; rw [if_pos hok]; rfl
    have HP : Hid (p = N * N) := hp.trans mv.len
    have HLP : Hid (zs.length = p) := hp.symm
    have HOK := Lib.hid hok
    rw [← hp]
    clear hp mv hok
    go_enter Try.func38, Try.ntmps38
    go_wp2_with fail
    refine (sMatrixValid_p _ _ _ _ _ _ _ HLP.out (ints_al (ints_al hz _) _) HOK.out).mono ?_
    rintro e w1 ⟨rfl, hb1⟩
    have pA : Blk w1 w.heap.size 25 #[.int .i64 N, .slice A p cap] := ((Blk.new w _ _).alloc _).below hb1 (by simp; omega)
    have rA : Blk w1 (w.heap.size + 1) 25 #[.int .i64 0, .slice none 0 0] := (blk_new (by simp)).below hb1 (by simp)
    have B1 := Lib.hid (below_on (below_a2 w _ _) hb1)
    have c0 : ∀ o, (w1.alloc o).cell? ⟨w.heap.size, 0, none⟩ = some (.int .i64 N) := fun o => (pA.alloc o).cell 0
    have c1 : ∀ o, (w1.alloc o).cell? ⟨w.heap.size, 1, none⟩ = some (.slice A p cap) := fun o => (pA.alloc o).cell 1
    obtain ⟨c2, c3⟩ := two_cells pA
    have PA := Lib.hid pA
    have RA := Lib.hid rA
    clear hb1 pA rA
    go_wp2_with fail
    obtain ⟨V, hV⟩ : ∃ V, V = w1.heap.size := ⟨_, rfl⟩
    obtain ⟨w2, hw2⟩ : ∃ w2, w2 = w1.alloc (.cells #[.int .i64 N, .slice none 0 0] 25) := ⟨_, rfl⟩
    have v2 : Blk w2 V 25 #[.int .i64 N, .slice none 0 0] := by rw [hw2, hV]; exact Blk.new _ _ _
    have P2 : Hid (Blk w2 w.heap.size 25 #[.int .i64 N, .slice A p cap]) := by rw [hw2]; exact PA.out.alloc _
    have R2 : Hid (Blk w2 (w.heap.size + 1) 25 #[.int .i64 0, .slice none 0 0]) := by rw [hw2]; exact RA.out.alloc _
    have B2 : Hid (Below w.heap.size w w2) := by rw [hw2]; exact below_al B1.out (Nat.le_refl _) _
    have hVr : w.heap.size + 1 < V := by rw [hV]; exact Blk.lt RA.out
    have V2 := Lib.hid v2
    have hs2 : V < w2.heap.size := Blk.lt v2
    rw [← hw2, ← hV]
    clear hw2 hV v2 c0 c1 c2 c3
    have HL : Hid ((turnL N zs).length = p) := by show _ = _; unfold turnL; rw [ofF_len, HP.out]
    have hN0 : ¬ N = 0 := by omega
    have hN0b : ((N : Int) == 0) = false := by rw [beq_eq_false_iff_ne]; omega
    obtain ⟨i0, hi, hz0, hz1, hz2⟩ := info_parts info_int
    have Z0 := Lib.hid hz0
    have Z1 := Lib.hid hz1
    have Z2 := Lib.hid hz2
    have ZI := Lib.hid hi
    have HZ0 := Lib.hid hz
    clear hz0 hz1 hz2 hi hz
    go_loopw [16] (fun i wr => ∃ (k : Nat) (A' : Option Addr) (cap' : Nat), k ≤ p ∧ i = .int .i64 k ∧ Hid (Blk wr V 25 #[.int .i64 N, .slice A' k cap']) ∧ Hid (wr.ownsRow w2.heap.size 3 1 (.slice A' k cap') k (((turnL N zs).take k).map (Value.int .i64))) ∧ Hid (w2.grownBy wr (some V))) (fun i _ => p - (intOf i).toNat)
    case atStart => exact ⟨0, none, 0, Nat.zero_le _, rfl, V2, World.ownsRow_nil _ _ _ _, World.grownBy.refl _ _⟩
    case round =>
      obtain ⟨k, A', cap', hk, rfl, hv, hown, hg2⟩ := hrel
      by_cases hlt : k < p
      · have hkN : k < N * N := by rw [← HP.out]; exact hlt
        have hd1 := div_lt_ hkN
        have hd2 := mod_lt_ hkN
        have e1 := tdiv_nat' k N
        have e2 := tmod_nat' k N
        obtain ⟨q, hq⟩ : ∃ q, q = k / N := ⟨_, rfl⟩
        obtain ⟨r, hr⟩ : ∃ r, r = k % N := ⟨_, rfl⟩
        rw [← hq] at hd1 e1
        rw [← hr] at hd2 e2
        obtain ⟨x, hx⟩ : ∃ x, x = r * N := ⟨_, rfl⟩
        have hxq' : x + q < p := by rw [hx, HP.out]; exact at_lt hd2 hd1
        obtain ⟨y, hy⟩ : ∃ y, y = x + q := ⟨_, rfl⟩
        have hxq : y < p := by omega
        have HT : Hid ((turnL N zs).getD k 0 = zs.getD y 0) := by
          have h := turnL_at zs hd1 hd2
          have e : q * N + r = k := by rw [hq, hr, Nat.mul_comm, Nat.div_add_mod]
          rw [e, ← hx, ← hy] at h
          exact h
        obtain ⟨b, off, z, rfl, hbB, hcz, _, hgz⟩ := HZ0.out.at_ (k := y) (by have := HLP.out; omega)
        have HGZ : Hid ((turnL N zs).getD k 0 = z) := HT.out.trans hgz
        have i1 : (y : Int) < (p : Int) := by omega
        have i2 : (0 : Int) ≤ (y : Int) := by omega
        have keep : ∀ w', w2.grownBy w' (some V) → w'.heap[V]? = wr.heap[V]? → (Hid (w2.grownBy w' (some V) ∧ w'.heap[V]? = wr.heap[V]?) ∧ w'.cell? ⟨w.heap.size, 0, none⟩ = some (.int .i64 N) ∧ w'.cell? ⟨w.heap.size, 1, none⟩ = some (.slice (some ⟨b, off, none⟩) p cap) ∧ w'.cell? ⟨V, 1, none⟩ = some (.slice A' k cap') ∧ w'.cell? ⟨b, off + y, none⟩ = some (.int .i64 z)) := by
          intro w' h hV
          have p0 := P2.out.grown h (by omega)
          have v0 : Blk w' V 25 #[.int .i64 N, .slice A' k cap'] := hV.trans hv.out
          have hb := B2.out.grown h B2.out.size (fun j hj => by cases hj; omega)
          exact ⟨⟨h, hV⟩, p0.cell 0, p0.cell 1, v0.cell 1, (hb.cell (p := ⟨b, off + y, none⟩) hbB).trans hcz⟩
        have K := Lib.hid keep
        have hq8 : q < 16 := by omega
        have hx8 : x < 16 := by omega
        have hy8 : y < 16 := by omega
        have hS0 := K.out wr.drew (grow_trans hg2.out (grow_drew _ _)) rfl
        have e3 : wrap64 ((r : Int) * (N : Int)) = (x : Int) := by rw [← Int.natCast_mul, ← hx]; exact w64_nat (Nat.lt_of_lt_of_le hx8 (by decide))
        have e3' : IntKind.i64.wrap ((r : Int) * (N : Int)) = (x : Int) := by rw [← Int.natCast_mul, ← hx]; exact i64_small hx8
        have e4 : IntKind.i64.wrap ((x : Int) + (q : Int)) = (y : Int) := by rw [← Int.natCast_add, ← hy]; exact i64_small hy8
        have d3 : IntKind.i64.wrap (q : Int) = (q : Int) := i64_small hq8
        clear keep hq hr hx hy hcz hgz hxq'
        go_wp2_with fail
        refine wp_region_Z (S := fun w' => (Hid (w2.grownBy w' (some V) ∧ w'.heap[V]? = wr.heap[V]?) ∧ w'.cell? ⟨w.heap.size, 0, none⟩ = some (.int .i64 N) ∧ w'.cell? ⟨w.heap.size, 1, none⟩ = some (.slice (some ⟨b, off, none⟩) p cap) ∧ w'.cell? ⟨V, 1, none⟩ = some (.slice A' k cap') ∧ w'.cell? ⟨b, off + y, none⟩ = some (.int .i64 z))) (by kernel_rfl) hS0 (fun hS => ?_)
        clear hS0
        refine wpAnyZ_take (i := 0) (v := ?vz0) rfl (by kernel_rfl) (by kernel_rfl) (by kernel_rfl) (by kernel_rfl) (fun _ _ _ h => h) (Or.inl ⟨by rfl, ?yz0⟩) (by with_reducible assumption) ?rz0
        case yz0 => (intro w hSw; (try dsimp only at hSw); go_simp; (try with_reducible rfl))
        simp only [Act.put, List.setIfInBounds_toArray]
        refine wpAnyZ_take (i := 1) (v := ?vz1) rfl (by kernel_rfl) (by kernel_rfl) (by kernel_rfl) (by kernel_rfl) (fun _ _ _ h => h) (Or.inl ⟨by rfl, ?yz1⟩) (by with_reducible assumption) ?rz1
        case yz1 => (intro w hSw; (try dsimp only at hSw); go_simp; (try with_reducible rfl))
        simp only [Act.put]
        refine wpAnyZ_take (i := 2) (v := ?vz2) rfl (by kernel_rfl) (by kernel_rfl) (by kernel_rfl) (by kernel_rfl) (fun _ _ _ h => h) (Or.inl ⟨by rfl, ?yz2⟩) (by with_reducible assumption) ?rz2
        case yz2 => (intro w hSw; (try dsimp only at hSw); go_simp; (try with_reducible rfl))
        simp only [Act.put]
        refine wpAnyZ_take (i := 3) (v := ?vz3) rfl (by kernel_rfl) (by kernel_rfl) (by kernel_rfl) (by kernel_rfl) (fun _ _ _ h => h) (Or.inl ⟨by rfl, ?yz3⟩) (by with_reducible assumption) ?rz3
        case yz3 => (intro w hSw; (try dsimp only at hSw); go_simp; (try with_reducible rfl))
        simp only [Act.put]
        refine wpAnyZ_take (i := 4) (v := ?vz4) rfl (by kernel_rfl) (by kernel_rfl) (by kernel_rfl) (by kernel_rfl) (fun _ _ _ h => h) (Or.inl ⟨by rfl, ?yz4⟩) (by with_reducible assumption) ?rz4
        case yz4 => (intro w hSw; (try dsimp only at hSw); go_simp; (try with_reducible rfl))
        simp only [Act.put]
        refine wpAnyZ_take (i := 5) (v := ?vz5) rfl (by kernel_rfl) (by kernel_rfl) (by kernel_rfl) (by kernel_rfl) (fun _ _ _ h => h) (Or.inl ⟨by rfl, ?yz5⟩) (by with_reducible assumption) ?rz5
        case yz5 => (intro w hSw; (try dsimp only at hSw); go_simp; (try with_reducible rfl))
        simp only [Act.put]
        refine wpAnyZ_take (i := 6) (v := ?vz6) rfl (by kernel_rfl) (by kernel_rfl) (by kernel_rfl) (by kernel_rfl) (fun _ _ _ h => h) (Or.inl ⟨by rfl, ?yz6⟩) (by with_reducible assumption) ?rz6
        case yz6 => (intro w hSw; (try dsimp only at hSw); go_simp; (try with_reducible rfl))
        simp only [Act.put]
        refine wpAnyZ_take (i := 7) (v := ?vz7) rfl (by kernel_rfl) (by kernel_rfl) (by kernel_rfl) (by kernel_rfl) (fun _ _ _ h => h) (Or.inl ⟨by rfl, ?yz7⟩) (by with_reducible assumption) ?rz7
        case yz7 => (intro w hSw; (try dsimp only at hSw); go_simp; (try with_reducible rfl))
        simp only [Act.put]
        refine wpAnyZ_take (i := 8) (v := ?vz8) rfl (by kernel_rfl) (by kernel_rfl) (by kernel_rfl) (by kernel_rfl) (fun _ _ _ h => h) (Or.inl ⟨by rfl, ?yz8⟩) (by with_reducible assumption) ?rz8
        case yz8 => (intro w hSw; (try dsimp only at hSw); go_simp; (try with_reducible rfl))
        simp only [Act.put]
        refine wpAnyZ_take (i := 9) (v := ?vz9) rfl (by kernel_rfl) (by kernel_rfl) (by kernel_rfl) (by kernel_rfl) (fun _ _ _ h => h) (Or.inl ⟨by rfl, ?yz9⟩) (by with_reducible assumption) ?rz9
        case yz9 => (intro w hSw; (try dsimp only at hSw); go_simp; (try with_reducible rfl))
        simp only [Act.put]
        refine wpAnyZ_take (i := 10) (v := ?vz10) rfl (by kernel_rfl) (by kernel_rfl) (by kernel_rfl) (by kernel_rfl) (fun _ _ _ h => h) (Or.inl ⟨by rfl, ?yz10⟩) (by with_reducible assumption) ?rz10
        case yz10 => (intro w hSw; (try dsimp only at hSw); go_simp; (try with_reducible rfl))
        simp only [Act.put]
        refine wpAnyZ_take (i := 11) (v := ?vz11) rfl (by kernel_rfl) (by kernel_rfl) (by kernel_rfl) (by kernel_rfl) (fun _ _ _ h => h) (Or.inl ⟨by rfl, ?yz11⟩) (by with_reducible assumption) ?rz11
        case yz11 => (intro w hSw; (try dsimp only at hSw); go_simp; (try with_reducible rfl))
        simp only [Act.put]
        refine wpAnyZ_take (i := 12) (v := ?vz12) rfl (by kernel_rfl) (by kernel_rfl) (by kernel_rfl) (by kernel_rfl) (fun _ _ _ h => h) (Or.inl ⟨by rfl, ?yz12⟩) (by with_reducible assumption) ?rz12
        case yz12 => (intro w hSw; (try dsimp only at hSw); go_simp; (try with_reducible rfl))
        simp only [Act.put]
        refine wpAnyZ_take (i := 13) (v := ?vz13) rfl (by kernel_rfl) (by kernel_rfl) (by kernel_rfl) (by kernel_rfl) (fun _ _ _ h => h) (Or.inl ⟨by rfl, ?yz13⟩) (by with_reducible assumption) ?rz13
        case yz13 => (intro w hSw; (try dsimp only at hSw); go_simp; (try with_reducible rfl))
        simp only [Act.put]
        refine wpAnyZ_take (i := 14) (v := ?vz14) rfl (by kernel_rfl) (by kernel_rfl) (by kernel_rfl) (by kernel_rfl) (fun _ _ _ h => h) (Or.inl ⟨by rfl, ?yz14⟩) (by with_reducible assumption) ?rz14
        case yz14 => (intro w hSw; (try dsimp only at hSw); go_simp; (try with_reducible rfl))
        simp only [Act.put]
        refine wpAnyZ_take (i := 15) (v := ?vz15) rfl (by kernel_rfl) (by kernel_rfl) (by kernel_rfl) (by kernel_rfl) (fun _ _ _ h => h) (Or.inl ⟨by rfl, ?yz15⟩) (by with_reducible assumption) ?rz15
        case yz15 => (intro w hSw; (try dsimp only at hSw); go_simp; (try with_reducible rfl))
        simp only [Act.put]
        refine wpAnyZ_take (i := 16) (v := ?vz16) rfl (by kernel_rfl) (by kernel_rfl) (by kernel_rfl) (by kernel_rfl) (fun _ _ _ h => h) (Or.inl ⟨by rfl, ?yz16⟩) (by with_reducible assumption) ?rz16
        case yz16 => (intro w hSw; (try dsimp only at hSw); go_simp; (try with_reducible rfl))
        simp only [Act.put]
        refine wpAnyZ_take (i := 17) (v := ?vz17) rfl (by kernel_rfl) (by kernel_rfl) (by kernel_rfl) (by kernel_rfl) (fun _ _ _ h => h) (Or.inl ⟨by rfl, ?yz17⟩) (by with_reducible assumption) ?rz17
        case yz17 => (intro w hSw; (try dsimp only at hSw); go_simp; (try with_reducible rfl))
        simp only [Act.put]
        clear e1 e2 e3 e3' e4 d3
        have hVw : V < wr.heap.size := Blk.lt hv.out
        refine wpAnyZ_step (i := 18) (by kernel_rfl) rfl ?_
        intro K1 hK1
        go_simp
        refine hK1.out _ _ (K.out _ (grow_trans hg2.out (grow_trans (grow_drew wr (some V)) (World.grownBy_alloc wr.drew _ (some V)))) (Below.heap_alloc wr.drew _ V hVw)) (fun hS1 => ?_)
        clear hK1
        refine wpAnyZ_step (i := 19) (by kernel_rfl) rfl ?_
        intro K2 hK2
        refine step_append_lies _ rfl _ _ 23 rfl w2.heap.size 3 i0 (.int .i64 0) 1 8 Try.underlying23 ZI.out Z0.out Z1.out Z2.out rfl (by decide) _ k _ rfl ((own_dr hown.out 1).alloc (.cells #[.int .i64 z] 3)) ⟨wr.heap.size, 0, none⟩ 1 1 [.int .i64 z] rfl rfl (lit_cell wr 1 _ _) (by intro u hu; simp at hu; subst hu; rfl) (by decide) (by unfold maxLen; omega) (by omega) (by have := hg2.out.size; simp; omega) _ rfl ?_
        intro g cap5 w5 hown' hgrow _ _
        have hrow : ∀ j, (Value.slice A' k cap').ownBlock = some j → w2.heap.size ≤ j := fun j hj => (hown.out.lt j hj).1
        have G5 := Lib.hid (app_grown (m := 1) hg2.out hgrow hrow)
        have V5 := Lib.hid (app_blk (m := 1) hv.out hgrow hs2 hrow)
        refine hK2.out _ _ (K.out _ G5.out (V5.out.trans hv.out.symm)) (fun hS2 => ?_)
        clear hK2 hS1
        simp only [Act.put]
        refine wpAnyZ_take (i := 20) (v := ?vz20) rfl (by kernel_rfl) (by kernel_rfl) (by kernel_rfl) (by kernel_rfl) (fun _ _ _ h => h) (Or.inl ⟨by rfl, ?yz20⟩) (by with_reducible assumption) ?rz20
        case yz20 => (intro w hSw; (try dsimp only at hSw); go_simp; (try with_reducible rfl))
        simp only [Act.put]
        have hl1 : (((turnL N zs).take k) ++ [z]).length = k + 1 := by have := HL.out; simp; omega
        have hown6 := own_cast hown' rfl (show _ = (((turnL N zs).take (k + 1)).map (Value.int .i64)) by rw [take_snoc (by have := HL.out; omega) HGZ.out, int_snoc])
        obtain ⟨x0, x1⟩ := two_cells V5.out
        obtain ⟨f0, f1⟩ := two_frozen V5.out
        have V6 := Lib.hid (V5.out.set_ 1 (.slice (some ⟨g, 0, none⟩) (k + 1) cap5))
        have O6 := Lib.hid (own_far hown6 (grow_set w5 V 1 (.slice (some ⟨g, 0, none⟩) (k + 1) cap5)) hs2)
        have G6 := Lib.hid (grow_trans G5.out (grow_set w5 V 1 (.slice (some ⟨g, 0, none⟩) (k + 1) cap5)))
        clear hown' hgrow hown6 hrow hS2
        refine wpAnyZ_last (i := 21) (by kernel_rfl) rfl (by kernel_rfl) ?_
        intro K3 hK3
        go_simp
        refine hK3.out _ _ ?_
        clear hK3
        go_wp2_with fail
        go_roundw
        case rel => exact ⟨k + 1, some ⟨g, 0, none⟩, cap5, by omega, by go_num, V6.out, O6.out, G6.out⟩
        case measure => simp [intOf]; omega
      · have hrr := R2.out.grown hg2.out (by omega)
        obtain ⟨a0, a1⟩ := two_cells hv.out
        obtain ⟨d0, d1⟩ := two_cells hrr
        obtain ⟨f0, f1⟩ := two_frozen hrr
        have hkp : k = p := by omega
        have HO : Hid (wr.ownsRow w2.heap.size 3 1 (.slice A' k cap') k ((turnL N zs).map (Value.int .i64))) := by
          have h := hown.out
          rw [List.take_of_length_le (by have := HL.out; omega)] at h
          exact h
        have RR := Lib.hid hrr
        have HB := Lib.hid (B2.out.grown hg2.out B2.out.size (fun j hj => by cases hj; omega))
        have HK : Hid ((turnL N zs).length = k) := HL.out.trans hkp.symm
        clear hrr hkp
        go_wp2_with fail
        have HF := mat_fin_n (w := w) (m := (N : Int)) HK.out RR.out HO.out (by omega) (Nat.le_succ _) HB.out (by have := HL.out; omega)
        refine bodyPost_ret (results_2 rfl (gives_mat (g := w.heap.size + 1) rfl HF.1) (.tmp rfl)) rfl ?_
        exact MEnd.some_ HR.out HF.2.1 HF.2.2
  · have HR : Hid (turnR m zs = none) := by show _ = _; unfold turnR; rw [if_neg (by rw [hok]; decide)]
    have HOK := Lib.hid hok
    clear hok
    go_enter Try.func38, Try.ntmps38
    go_wp2_with fail
    refine (sMatrixValid_is _ _ _ _ _ _ (ints_al (ints_al hz _) _) HOK.out).mono ?_
    rintro e w1 ⟨rfl, hb1⟩
    have hb0 := below_on (below_a2 w _ _) hb1
    have rA : Blk w1 (w.heap.size + 1) 25 #[.int .i64 0, .slice none 0 0] := (blk_new (by simp)).below hb1 (by simp)
    obtain ⟨c0, c1⟩ := two_cells rA
    obtain ⟨f0, f1⟩ := two_frozen rA
    have RA := Lib.hid rA
    have HB := Lib.hid hb0
    clear hb1 hb0 rA
    go_wp2_with fail
    refine bodyPost_ret (results_2 rfl (gives_mat (g := w.heap.size + 1) rfl ((RA.out.set_ 0 _).set_ 1 _)) (.tmp rfl)) rfl ?_
    exact MEnd.none_ HR.out ((HB.out.setCell (p := ⟨_, 0, none⟩) (Nat.le_succ _) _).setCell (p := ⟨_, 1, none⟩) (Nat.le_succ _) _)
end Go.Proofs.Ytdomejgngmbcdaa
