/- The text of a matrix of grades, the model's and the program's: the same bytes; nothing that was there changes. No condition. -/
import Derived.Test.YtmdddjiegjcekaaGVal
import Derived.Test.YtmdddjiegjcekaaGTxt
import Derived.Test.YtmdddjiegjcekaaGJoin
import Derived.Test.YtmdddjiegjcekaaSpec
import Derived.Deep.RegionHeld3
namespace Go.Proofs.Ytmdddjiegjcekaa
open Go.RowKit
set_option maxHeartbeats 4000000
set_option maxRecDepth 100000
set_option linter.unusedVariables false

def GEnd (l : List UInt8) (w : World) (e : Ending) (w' : World) : Prop := e = .returned (.string ⟨l.toArray⟩) ∧ Below w.heap.size w w'
theorem GEnd.mk_ {l l' : List UInt8} {w w' : World} (h : l = l') (hb : Below w.heap.size w w') : GEnd l w (.returned (.string ⟨l'.toArray⟩)) w' := by subst h; exact ⟨rfl, hb⟩
theorem GEnd.str {l : List UInt8} {t : ByteArray} {w w' : World} (h : t.data.toList = l) (hb : Below w.heap.size w w') : GEnd l w (.returned (.string t)) w' := by subst h; exact ⟨rfl, hb⟩
theorem sGradesValid_q (m : Int) (A : Option Addr) (cap p : Nat) (zs : List Int) (r : Bool) (w : World) (hl : zs.length = p) (hz : Ints w w.heap.size A zs) (hr : gradeOk m zs = r) :
    Calls Try.prog 10 #[.agg #[.int .i64 m, .slice A p cap]] w fun e w' => e = .returned (.bool r) ∧ Below w.heap.size w w' := by
  subst hl; exact sGradesValid_is m A cap zs r w hz hr
theorem gch_4 {z : Int} (h : 0 ≤ z ∧ z ≤ 3) : z = 0 ∨ z = 1 ∨ z = 2 ∨ z = 3 := by omega
theorem letter_is (z : Int) (w : World) (h : 0 ≤ z ∧ z ≤ 3) :
    Calls Try.prog 14 #[.int .i64 z] w fun e w' => (∃ t : ByteArray, e = .returned (.string t) ∧ t.data.toList = [gch z]) ∧ w = w' := by
  rcases gch_4 h with rfl | rfl | rfl | rfl
  all_goals
    clear h
    go_enter Try.func14, Try.ntmps14
    go_wp2
    go_ret
    exact ⟨⟨_, rfl, by first | rfl | decide⟩, rfl⟩

theorem sFmtG_any (m : Int) (A : Option Addr) (cap : Nat) (zs : List Int) (w : World) (hz : Ints w w.heap.size A zs) :
    Calls Try.prog 5 #[.agg #[.int .i64 m, .slice A zs.length cap]] w fun e w' => GEnd (gtxt m zs) w e w' := by
  rcases Bool.eq_false_or_eq_true (gradeOk m zs) with hok | hok
  · obtain ⟨N, rfl, gv⟩ := gradeOk_t hok
    have n1 := gv.lo
    have n2 := gv.hi
    obtain ⟨p, hp⟩ : ∃ p, p = N * N := ⟨_, rfl⟩
    have p1 : p ≤ 16 := by rw [hp]; exact gv.mv.sq
    have HP := Lib.hid hp
    have hlp : zs.length = p := by rw [gv.len, hp]
    have HLP := Lib.hid hlp
    have HZB : Hid (∀ q, q < p → 0 ≤ zs.getD q 0 ∧ zs.getD q 0 ≤ 3) := fun q hq => gv.at_ hp hq
    have HX : Hid (gtxt (N : Int) zs = tx N zs p) := by show _ = _; rw [gtxt_ok hok, HP.out, tx_all n1 gv.len]
    have HOK := Lib.hid hok
    have hN0 : ¬ N = 0 := by omega
    have hN0b : ((N : Int) == 0) = false := by rw [beq_eq_false_iff_ne]; omega
    rw [hlp]
    clear gv hok hp hlp
    go_enter Try.func5, Try.ntmps5
    go_wp2_with fail
    refine (sGradesValid_q _ _ _ _ _ true _ HLP.out (ints_al hz _) HOK.out).mono ?_
    rintro e w1 ⟨rfl, hb1⟩
    have pA : Blk w1 w.heap.size 27 #[.int .i64 N, .slice A p cap] := (Blk.new w _ _).below hb1 (by simp)
    obtain ⟨a0, a1⟩ := two_cells pA
    have HB := Lib.hid (below_on (below_a1 w _) hb1)
    have HZ := Lib.hid ((hz.below HB.out).more HB.out.size)
    clear hb1 pA hz
    go_wp2_with fail
    go_loop [12, 3] (fun i s => ∃ (k : Nat) (t : ByteArray), k ≤ p ∧ i = .int .i64 k ∧ s = .string t ∧ Hid (t.data.toList = tx N zs k) ∧ t.size ≤ 2 * k) (fun i _ => p - (intOf i).toNat)
    case atStart => exact ⟨0, ByteArray.empty, Nat.zero_le _, rfl, rfl, rfl, Nat.le_refl _⟩
    case round =>
      obtain ⟨k, t, hk, rfl, rfl, ht, hts⟩ := hrel
      by_cases hlt : k < p
      · obtain ⟨b, off, z, rfl, hbB, hc, hd, hgz'⟩ := HZ.out.at_ (k := k) (by have := HLP.out; omega)
        have hzb := HZB.out k hlt
        rw [hgz'] at hzb
        have hgz := Lib.hid hgz'
        have e2 := tmod_nat' k N
        obtain ⟨r, hr⟩ : ∃ r, r = k % N := ⟨_, rfl⟩
        rw [← hr] at e2
        have HRM := Lib.hid hr
        have i0 : (0 : Int) ≤ (k : Int) := by omega
        have i1 : (k : Int) < (p : Int) := by omega
        clear hd hgz' hr
        by_cases h0 : 0 < k
        · have h0' : (0 : Int) < (k : Int) := by omega
          rcases Bool.eq_false_or_eq_true ((r : Int) == 0) with hr0 | hr0
          · have HM : Hid (0 < k ∧ k % N = 0) := ⟨h0, by have := beq_iff_eq.1 hr0; have := HRM.out; omega⟩
            clear h0
            rcases gch_4 hzb with rfl | rfl | rfl | rfl
            all_goals
              clear hzb
              go_wp2_with fail
              go_round
              case rel =>
                refine ⟨k + 1, _, by omega, by go_num, rfl, ?_, ?_⟩
                · show _ = tx N zs k ++ ((if 0 < k ∧ k % N = 0 then [47] else []) ++ [gch (zs.getD k 0)])
                  rw [if_pos HM.out, hgz.out, ByteArray.data_append, Array.toList_append, ByteArray.data_append, Array.toList_append, ht.out, List.append_assoc]
                  first | rfl | decide
                · rw [ByteArray.size_append, ByteArray.size_append]
                  show t.size + 1 + 1 ≤ 2 * (k + 1)
                  omega
              case measure => simp [intOf]; omega
          · have HM : Hid (¬ (0 < k ∧ k % N = 0)) := fun h => by have h1 := beq_eq_false_iff_ne.1 hr0; have := HRM.out; have := h.2; omega
            clear h0
            rcases gch_4 hzb with rfl | rfl | rfl | rfl
            all_goals
              clear hzb
              go_wp2_with fail
              go_round
              case rel =>
                refine ⟨k + 1, _, by omega, by go_num, rfl, ?_, ?_⟩
                · show _ = tx N zs k ++ ((if 0 < k ∧ k % N = 0 then [47] else []) ++ [gch (zs.getD k 0)])
                  rw [if_neg HM.out, hgz.out, ByteArray.data_append, Array.toList_append, ht.out]
                  first | rfl | decide
                · rw [ByteArray.size_append]
                  show t.size + 1 ≤ 2 * (k + 1)
                  omega
              case measure => simp [intOf]; omega
        · have h0' : ¬ (0 : Int) < (k : Int) := by omega
          have HM : Hid (¬ (0 < k ∧ k % N = 0)) := fun h => h0 h.1
          clear h0
          rcases gch_4 hzb with rfl | rfl | rfl | rfl
          all_goals
            clear hzb
            go_wp2_with fail
            go_round
            case rel =>
              refine ⟨k + 1, _, by omega, by go_num, rfl, ?_, ?_⟩
              · show _ = tx N zs k ++ ((if 0 < k ∧ k % N = 0 then [47] else []) ++ [gch (zs.getD k 0)])
                rw [if_neg HM.out, hgz.out, ByteArray.data_append, Array.toList_append, ht.out]
                first | rfl | decide
              · rw [ByteArray.size_append]
                show t.size + 1 ≤ 2 * (k + 1)
                omega
            case measure => simp [intOf]; omega
      · have HF : Hid (t.data.toList = gtxt (N : Int) zs) := by show _ = _; rw [ht.out, HX.out]; congr 1; omega
        go_wp2_with fail
        go_ret
        exact GEnd.str HF.out HB.out
  · have HOK := Lib.hid hok
    have HF := Lib.hid (gtxt_no hok)
    clear hok
    go_enter Try.func5, Try.ntmps5
    go_wp2_with fail
    refine (sGradesValid_is _ _ _ _ _ _ (ints_al hz _) HOK.out).mono ?_
    rintro e w1 ⟨rfl, hb1⟩
    have HB := Lib.hid (below_on (below_a1 w _) hb1)
    clear hb1 hz
    go_wp2_with fail
    go_ret
    exact GEnd.mk_ HF.out HB.out

theorem info_st : (Try.prog.info? 9).map (fun i => (i.zero, i.size, i.bytes)) = some (some (.string ByteArray.empty), 1, 16) := by kernel_rfl
theorem made_str (n : Nat) : madeCells #[Value.string ByteArray.empty] n = ((List.replicate n ([] : List UInt8)).map bw).toArray := by
  apply Array.ext
  · simp [size_madeCells]
  · intro i h1 h2
    simp [madeCells, Nat.mod_one, bw]
    rfl
theorem iFmtG_any (m : Int) (A : Option Addr) (cap : Nat) (zs : List Int) (w : World) (hz : Ints w w.heap.size A zs) :
    Calls Try.prog 7 #[.agg #[.int .i64 m, .slice A zs.length cap]] w fun e w' => GEnd (gtxt m zs) w e w' := by
  rcases Bool.eq_false_or_eq_true (gradeOk m zs) with hok | hok
  · obtain ⟨N, rfl, gv⟩ := gradeOk_t hok
    have n1 := gv.lo
    have n2 := gv.hi
    obtain ⟨p, hp⟩ : ∃ p, p = N * N := ⟨_, rfl⟩
    have p1 : p ≤ 16 := by rw [hp]; exact gv.mv.sq
    have HP := Lib.hid hp
    have hlp : zs.length = p := by rw [gv.len, hp]
    have HLP := Lib.hid hlp
    have HZB : Hid (∀ q, q < p → 0 ≤ zs.getD q 0 ∧ zs.getD q 0 ≤ 3) := fun q hq => gv.at_ hp hq
    have HX := Lib.hid (gtxt_ok hok)
    have HOK := Lib.hid hok
    have hmk : ∀ w : World, (Instr.makeSlice 43 (.int .i64 (N : Int)) (.int .i64 (N : Int))).run Try.prog w = .ok (.slice (some ⟨w.heap.size, 0, none⟩) N N) (w.alloc (.cells (madeCells #[.string ByteArray.empty] N) 9)) :=
      fun w => run_make_row' 43 9 (.string ByteArray.empty) 16 Try.underlying43 info_st rfl .i64 .i64 N (by omega) (by omega) w
    rw [hlp]
    clear gv hok hp hlp
    go_enter Try.func7, Try.ntmps7
    go_wp2_with fail
    refine (gradeSquare_ok N p A cap zs _ n1 n2 HP HLP HOK (ints_al hz _)).mono ?_
    rintro e w1 ⟨g, rfl, hb1, hg1, hq1⟩
    unfold gsqV
    have HB := Lib.hid (below_on (below_a1 w _) hb1)
    have Q1 := Lib.hid hq1
    clear hb1 hq1 hz
    go_wp2_with fail
    obtain ⟨T, hT⟩ : ∃ T, T = w1.heap.size := ⟨_, rfl⟩
    obtain ⟨G, hG⟩ : ∃ G, G = T + 1 := ⟨_, rfl⟩
    obtain ⟨w2, hw2⟩ : ∃ w2, w2 = (w1.alloc (.cells #[.func (.func 30) #[] #[], .int .i64 0, .func (.func 31) #[] #[], .int .i64 3, .int .i64 N, .slice (some ⟨g, 0, none⟩) p p] 40)).alloc (.cells (madeCells #[.string ByteArray.empty] N) 9) := ⟨_, rfl⟩
    have X2 : Hid (Blk w2 T 40 #[.func (.func 30) #[] #[], .int .i64 0, .func (.func 31) #[] #[], .int .i64 3, .int .i64 N, .slice (some ⟨g, 0, none⟩) p p]) := by rw [hw2, hT]; exact (Blk.new _ _ _).alloc _
    have Q2 : Hid (GSq w2 g zs) := by rw [hw2]; exact Blk.alloc (Blk.alloc Q1.out _) _
    have S2 : Hid (Blk w2 G 9 ((List.replicate N ([] : List UInt8)).map bw).toArray) := by rw [hw2, hG, hT, ← made_str]; exact blk_new (by simp)
    have B2 : Hid (Below w.heap.size w w2) := by rw [hw2]; exact below_al (below_al HB.out (Nat.le_refl _) _) (Nat.le_refl _) _
    have hTG : T < G := by omega
    have hgG : g < G := by have := Blk.lt Q1.out; omega
    have hwT : w.heap.size ≤ T := by have := HB.out.size; omega
    rw [← hw2, ← hT, ← hG]
    clear hw2 hT hG hmk
    have LENR : Hid (∀ i, i < N → (i + 1) * N ≤ zs.length) := fun i hi => by rw [HLP.out, HP.out]; exact Nat.mul_le_mul_right N hi
    go_loopw [21] (fun i wr => ∃ (k : Nat) (L : List (List UInt8)), k ≤ N ∧ i = .int .i64 k ∧ Hid (L.length = N) ∧ Hid (∀ q, q < N → L.getD q [] = if q < k then rowT N zs q else []) ∧ Hid (Blk wr G 9 (L.map bw).toArray) ∧ Hid (w2.grownBy wr (some G))) (fun i _ => N - (intOf i).toNat)
    case atStart => exact ⟨0, List.replicate N [], Nat.zero_le _, rfl, List.length_replicate, (fun q hq => by rw [if_neg (by omega), List.getD_eq_getElem?_getD, List.getElem?_replicate, if_pos hq]; rfl), S2, World.grownBy.refl _ _⟩
    case round =>
      obtain ⟨k, L, hk, rfl, hLl, hL, hs, hg2⟩ := hrel
      by_cases hlt : k < N
      · obtain ⟨q, hq⟩ : ∃ q, q = k * N := ⟨_, rfl⟩
        have hqN : q + N ≤ p := by
          have := LENR.out k hlt
          rw [Nat.succ_mul, ← hq, HLP.out] at this
          exact this
        have HQ := Lib.hid hq
        obtain ⟨a0, a1, a2, a3, a4, a5⟩ := six_cells (X2.out.grown hg2.out (by omega))
        clear hq
        go_wp2_with fail
        refine (g_row_is g N p k q n1 n2 hlt HQ.out hqN _).mono ?_
        rintro e w3 ⟨rfl, hb3⟩
        have S3 := Lib.hid (blk_b hs.out hb3)
        have G3 := Lib.hid (grow_trans hg2.out (grow_below_any hb3 (some G)))
        have HL0 : Hid (L.getD k [] = (rowT N zs k).take 0) := by show _ = _; rw [hL.out k hlt, if_neg (by omega), List.take_zero]
        clear hb3 a0 a1 a2 a3 a4 a5
        go_wp2_with fail
        go_loopw [28] (fun i wi => ∃ (j : Nat) (R : List (List UInt8)), j ≤ N ∧ i = .int .i64 j ∧ Hid (R.length = N) ∧ Hid (∀ q, q < N → ¬ q = k → R.getD q [] = L.getD q []) ∧ Hid (R.getD k [] = (rowT N zs k).take j) ∧ Hid (Blk wi G 9 (R.map bw).toArray) ∧ Hid (w2.grownBy wi (some G))) (fun i _ => N - (intOf i).toNat)
        case atStart => exact ⟨0, L, Nat.zero_le _, rfl, hLl, (fun _ _ _ => rfl), HL0, S3, G3⟩
        case round =>
          obtain ⟨j, R, hj, rfl, hRl, hR1, hR2, hsi, hgi⟩ := hrel
          by_cases hlj : j < N
          · obtain ⟨z, hze⟩ : ∃ z, zs.getD (q + j) 0 = z := ⟨_, rfl⟩
            have hzb := HZB.out (q + j) (by omega)
            have hcz := Nm.at_ (k := q + j) (Blk.grown Q2.out hgi.out (by omega)) (by have := HLP.out; omega)
            rw [hze] at hzb hcz
            have HZE := Lib.hid hze
            obtain ⟨v, hv⟩ : ∃ v : ByteArray, v = ⟨(R.getD k []).toArray⟩ := ⟨_, rfl⟩
            have HV := Lib.hid hv
            have hcell0 : wr.cell? ⟨G, k, none⟩ = some (.string v) := by rw [hv]; exact str_cell hsi.out (by have := hRl.out; omega)
            have hfr0 : wr.frozen? ⟨G, k, none⟩ = false := hsi.out.frozen k
            have HVL : Hid (v.size ≤ 4) := by
              show v.size ≤ 4
              rw [hv, hR2.out]
              have := rowT_len (LENR.out k hlt)
              show ((rowT N zs k).take j).toArray.size ≤ 4
              simp; omega
            have hvs := HVL.out
            have i0 : (0 : Int) ≤ (k : Int) := by omega
            have i1 : (k : Int) < (N : Int) := by omega
            have i2 : (0 : Int) ≤ (j : Int) := by omega
            have i3 : (j : Int) < (N : Int) := by omega
            clear hze hv
            go_wp2_with fail
            have hS0 : wr.drew.cell? ⟨G, k, none⟩ = some (.string v) := hcell0
            refine wp_region_Z (S := fun w' => w'.cell? ⟨G, k, none⟩ = some (.string v)) (by kernel_rfl) hS0 (fun hS => ?_)
            clear hS0 hcell0
            refine wpAnyZ_take (i := 0) (v := ?va0) rfl (by kernel_rfl) (by kernel_rfl) (by kernel_rfl) (by kernel_rfl) (fun _ _ _ h => h) (Or.inl ⟨by rfl, ?ya0⟩) (by with_reducible assumption) ?ra0
            case ya0 => (intro w hSw; (try dsimp only at hSw); go_simp; (try with_reducible rfl))
            simp only [Act.put, List.setIfInBounds_toArray]
            refine wpAnyZ_take (i := 1) (v := ?va1) rfl (by kernel_rfl) (by kernel_rfl) (by kernel_rfl) (by kernel_rfl) (fun _ _ _ h => h) (Or.inl ⟨by rfl, ?ya1⟩) (by with_reducible assumption) ?ra1
            case ya1 => (intro w hSw; (try dsimp only at hSw); go_simp; (try with_reducible rfl))
            simp only [Act.put]
            refine wpAnyZ_take (i := 2) (v := ?va2) rfl (by kernel_rfl) (by kernel_rfl) (by kernel_rfl) (by kernel_rfl) (fun _ _ _ h => h) (Or.inl ⟨by rfl, ?ya2⟩) (by with_reducible assumption) ?ra2
            case ya2 => (intro w hSw; (try dsimp only at hSw); go_simp; (try with_reducible rfl))
            simp only [Act.put]
            refine wpAnyZ_take (i := 3) (v := ?va3) rfl (by kernel_rfl) (by kernel_rfl) (by kernel_rfl) (by kernel_rfl) (fun _ _ _ h => h) (Or.inl ⟨by rfl, ?ya3⟩) (by with_reducible assumption) ?ra3
            case ya3 => (intro w hSw; (try dsimp only at hSw); go_simp; (try with_reducible rfl))
            simp only [Act.put]
            refine wpAnyZ_take (i := 4) (v := ?va4) rfl (by kernel_rfl) (by kernel_rfl) (by kernel_rfl) (by kernel_rfl) (fun _ _ _ h => h) (Or.inl ⟨by rfl, ?ya4⟩) (by with_reducible assumption) ?ra4
            case ya4 => (intro w hSw; (try dsimp only at hSw); go_simp; (try with_reducible rfl))
            simp only [Act.put]
            (try simp only [Act.put])
            refine wpAnyZ_step (i := 5) (by kernel_rfl) rfl ?_
            intro K1 hK1
            go_simp
            refine (letter_is z _ hzb).mono ?_
            rintro e w4 ⟨⟨u, rfl, hu⟩, rfl⟩
            have hus1 : u.size = 1 := by have h1 := congrArg List.length hu; simpa using h1
            have husz : ¬ 9223372036854775807 < v.size + u.size := by omega
            clear hus1
            refine hK1.out _ _ hS (fun hS1 => ?_)
            clear hK1 hS
            (try simp only [Act.put])
            refine wpAnyZ_take (i := 6) (v := ?vb6) rfl (by kernel_rfl) (by kernel_rfl) (by kernel_rfl) (by kernel_rfl) (fun _ _ _ h => h) (Or.inl ⟨by rfl, ?yb6⟩) (by with_reducible assumption) ?rb6
            case yb6 => (intro w hSw; (try dsimp only at hSw); go_simp; (try rw [if_neg husz]); (try rfl))
            simp only [Act.put]
            refine wpAnyZ_take (i := 7) (v := ?vb7) rfl (by kernel_rfl) (by kernel_rfl) (by kernel_rfl) (by kernel_rfl) (fun _ _ _ h => h) (Or.inl ⟨by rfl, ?yb7⟩) (by with_reducible assumption) ?rb7
            case yb7 => (intro w hSw; (try dsimp only at hSw); go_simp; (try with_reducible rfl))
            simp only [Act.put]
            (try simp only [Act.put])
            refine wpAnyZ_last (i := 8) (by kernel_rfl) rfl (by kernel_rfl) ?_
            intro K2 hK2
            have hcell := hS1
            go_simp
            refine hK2.out _ _ ?_
            clear hK2 hS1
            obtain ⟨x, hx⟩ : ∃ x, x = (rowT N zs k).take (j + 1) := ⟨_, rfl⟩
            have hvx : v ++ u = ⟨x.toArray⟩ := by
              apply ByteArray.ext
              apply Array.ext'
              rw [ByteArray.data_append, Array.toList_append, hu, HV.out, hx, rowT_snoc (LENR.out k hlt) hlj, ← HQ.out, HZE.out]
              show (R.getD k []) ++ [gch z] = _
              rw [hR2.out]
            have S4 := Lib.hid (str_set hsi.out k x)
            have HX4 := Lib.hid hvx
            have G4 := Lib.hid (grown_dr (grow_trans hgi.out (grow_set wr G k (bw x))) 1)
            have D1 : Hid (∀ q, q < N → ¬ q = k → (R.set k x).getD q [] = L.getD q []) := fun q hq hne => by rw [getD_setL _ _ _ _ (by have := hRl.out; omega), if_neg hne]; exact hR1.out q hq hne
            have D2 : Hid ((R.set k x).getD k [] = (rowT N zs k).take (j + 1)) := by show _ = _; rw [getD_setL _ _ _ _ (by have := hRl.out; omega), if_pos rfl, hx]
            clear hx hvx hcell hfr0 hu
            rw [HX4.out]
            go_wp2_with fail
            go_roundw
            case rel => exact ⟨j + 1, R.set k x, by omega, by go_num, by show _ = _; rw [List.length_set]; exact hRl.out, D1, D2, S4.out, G4.out⟩
            case measure => simp [intOf]; omega
          · have D1 : Hid (∀ q, q < N → R.getD q [] = if q < k + 1 then rowT N zs q else []) := fun q hq => by
              by_cases e : q = k
              · subst e
                rw [hR2.out, if_pos (by omega), List.take_of_length_le (by rw [rowT_len (LENR.out q hlt)]; omega)]
              · rw [hR1.out q hq e, hL.out q hq]
                by_cases e2 : q < k
                · rw [if_pos e2, if_pos (by omega)]
                · rw [if_neg e2, if_neg (by omega)]
            go_wp2_with fail
            go_roundw
            case rel => exact ⟨k + 1, R, by omega, by go_num, hRl, D1, hsi, hgi⟩
            case measure => simp [intOf]; omega
      · have HLe : Hid (L = rowsT N zs N) := by
          show _ = _
          apply List.ext_getElem (by rw [hLl.out, rowsT_len])
          intro q h1 h2
          have hq : q < N := by rw [← hLl.out]; exact h1
          have h3 := hL.out q hq
          rw [if_pos (by omega), ← rowsT_at zs hq, List.getD_eq_getElem?_getD, List.getElem?_eq_getElem h1, List.getD_eq_getElem?_getD, List.getElem?_eq_getElem h2] at h3
          exact h3
        have HJ := Lib.hid (join_rows G N (rowsT N zs N) wr (rowsT_len N zs N) n1 n2 (fun x hx => by
          obtain ⟨i, hi, rfl⟩ := List.mem_map.1 hx
          rw [rowT_len (LENR.out i (List.mem_range.1 hi))]; exact n2) (Blk.lt hs.out) (fun q hq => by
          rw [← HLe.out]; exact str_cell hs.out (by have := hLl.out; omega)))
        have HBf := Lib.hid (B2.out.grown hg2.out B2.out.size (fun j hj => by cases hj; omega))
        go_wp2_with fail
        refine HJ.out.mono ?_
        rintro e w5 ⟨rfl, hb5⟩
        go_wp2_with fail
        go_ret
        exact GEnd.mk_ HX.out (below_on HBf.out hb5)
  · have HOK := Lib.hid hok
    have HF := Lib.hid (gtxt_no hok)
    clear hok
    go_enter Try.func7, Try.ntmps7
    go_wp2_with fail
    refine (gradeSquare_no m A cap zs _ (ints_al hz _) HOK.out).mono ?_
    rintro e w1 ⟨rfl, hb1⟩
    have HB := Lib.hid (below_on (below_a1 w _) hb1)
    clear hb1 hz
    go_wp2_with fail
    go_ret
    exact GEnd.mk_ HF.out (below_al HB.out (Nat.le_refl _) _)

end Go.Proofs.Ytmdddjiegjcekaa
