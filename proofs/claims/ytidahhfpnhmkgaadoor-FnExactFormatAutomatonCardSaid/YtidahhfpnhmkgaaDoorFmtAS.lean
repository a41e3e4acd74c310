/- The text of an automaton, the model's: the same bytes as the program's; nothing that was there changes. Condition: at most 2^20 of each. -/
import Derived.Test.YtidahhfpnhmkgaaDoorFmtA
namespace Go.Proofs.YtidahhfpnhmkgaaDoor
open Go.RowKit
set_option maxHeartbeats 4000000
set_option maxRecDepth 100000
set_option linter.unusedVariables false

/-- What stands ahead of the steps. -/
def preB (m : Int) (xs ys : List Int) : ByteArray := (((((⟨(digF m).toArray⟩ ++ ⟨#[59]⟩) ++ ⟨(numF xs).toArray⟩) ++ ⟨#[59]⟩) ++ ⟨(numF ys).toArray⟩) ++ ⟨#[59]⟩)
theorem pre_join (m : Int) (xs ys : List Int) (t : List UInt8) : (preB m xs ys).data.toList ++ t = Lib.join [digF m, numF xs, numF ys, t] [59] := by
  unfold preB
  simp [ByteArray.data_append, Lib.join_cons, Lib.joinTail]
theorem preB_size (m : Int) (xs ys : List Int) : (preB m xs ys).size = (digF m).length + 1 + (numF xs).length + 1 + (numF ys).length + 1 := by
  unfold preB
  rw [ByteArray.size_append, ByteArray.size_append, ByteArray.size_append, ByteArray.size_append, ByteArray.size_append]
  show (digF m).toArray.size + 1 + (numF xs).toArray.size + 1 + (numF ys).toArray.size + 1 = _
  simp
theorem add_stepB (t : ByteArray) (s : StepD) : (((((t ++ ⟨(digF s.fr).toArray⟩) ++ s.le) ++ ⟨(digF s.to_).toArray⟩) ++ ⟨#[58]⟩) ++ ⟨(digF s.co).toArray⟩ : ByteArray).size = t.size + (digF s.fr).length + s.le.size + (digF s.to_).length + 1 + (digF s.co).length := by
  rw [ByteArray.size_append, ByteArray.size_append, ByteArray.size_append, ByteArray.size_append, ByteArray.size_append]
  show t.size + (digF s.fr).toArray.size + s.le.size + (digF s.to_).toArray.size + 1 + (digF s.co).toArray.size = _
  simp
theorem sFmtA_any (m : Int) (A1 A2 A3 : Option Addr) (c1 c2 c3 : Nat) (xs ys : List Int) (ss : List StepD) (w : World) (hx : Ints w w.heap.size A1 xs) (hy : Ints w w.heap.size A2 ys) (hs : SRow w w.heap.size A3 ss) (lx : xs.length ≤ 1048576) (ly : ys.length ≤ 1048576) (ls : ss.length ≤ 1048576) :
    Calls Tryd.prog 6 #[.agg #[.int .i64 m, .slice A1 xs.length c1, .slice A2 ys.length c2, .slice A3 ss.length c3]] w fun e w' => FmtEnd (autoF m xs ys ss) w e w' := by
  obtain ⟨r, hr⟩ : ∃ r, autoOk m xs ys ss = r := ⟨_, rfl⟩
  have HR := Lib.hid hr
  have B0 := Lib.hid (below_a1 w (.cells #[.int .i64 m, .slice A1 xs.length c1, .slice A2 ys.length c2, .slice A3 ss.length c3] 30))
  have K0 := Lib.hid (Blk.new w 30 #[.int .i64 m, .slice A1 xs.length c1, .slice A2 ys.length c2, .slice A3 ss.length c3])
  have HX := Lib.hid hx
  have HY := Lib.hid hy
  have HS := Lib.hid hs
  clear hr hx hy hs
  go_enter Tryd.func6, Tryd.ntmps6
  go_wp2_with fail
  refine (sAutomatonValid_is _ _ _ _ _ _ _ _ _ _ r _ ((HX.out.below B0.out).more B0.out.size) ((HY.out.below B0.out).more B0.out.size) (HS.out.on B0.out) HR.out).mono ?_
  rintro e W ⟨rfl, hb1⟩
  have B1 := Lib.hid (below_on B0.out hb1.out)
  have K1 := Lib.hid (blk_b K0.out hb1.out)
  clear B0 K0 hb1
  rcases Bool.eq_false_or_eq_true r with h | h
  all_goals subst h
  rotate_left
  · have HF : Hid (autoF m xs ys ss = []) := by show _ = _; unfold autoF; rw [HR.out]; rfl
    go_wp2_with fail
    go_ret
    exact FmtEnd.mk_ (l' := []) HF.out B1.out
  have HF : Hid (autoF m xs ys ss = Lib.join [digF m, numF xs, numF ys, stepsT ss] [59]) := by show _ = _; unfold autoF; rw [HR.out]; rfl
  obtain ⟨p1, p2, p3, p4, p5⟩ := auto_parts HR.out
  have P1 := Lib.hid p1
  have P2 := Lib.hid p2
  have P3 := Lib.hid p3
  have P4 := Lib.hid p4
  have L1 := Lib.hid (digF_len p1)
  have L2 := Lib.hid (numF_len p2)
  have L3 := Lib.hid (numF_len p3)
  have L4 := Lib.hid (stepsT_len p4)
  have L5 := Lib.hid p5
  clear p1 p2 p3 p4 p5
  go_upto_region 3 with fail
  have KS : Hid (∀ w', Below W.heap.size W w' → (Hid (Below W.heap.size W w') ∧ w'.cell? ⟨w.heap.size, 0, none⟩ = some (.int .i64 m) ∧ w'.cell? ⟨w.heap.size, 1, none⟩ = some (.slice A1 xs.length c1) ∧ w'.cell? ⟨w.heap.size, 2, none⟩ = some (.slice A2 ys.length c2) ∧ w'.cell? ⟨w.heap.size, 3, none⟩ = some (.slice A3 ss.length c3))) := fun w' h => by
    have v := blk_b K1.out h
    exact ⟨h, v.cell 0, v.cell 1, v.cell 2, v.cell 3⟩
  have hS0 := KS.out W.drew ((Below.refl _ _).drew)
  have d1 := L1.out
  have d2 := L2.out
  have d3 := L3.out
  have a1 : ¬ 9223372036854775807 < (digF m).length + 1 := by omega
  have a2 : ¬ 9223372036854775807 < (digF m).length + 1 + (numF xs).length := by omega
  have a3 : ¬ 9223372036854775807 < (digF m).length + 1 + (numF xs).length + 1 := by omega
  have a4 : ¬ 9223372036854775807 < (digF m).length + 1 + (numF xs).length + 1 + (numF ys).length := by omega
  have a5 : ¬ 9223372036854775807 < (digF m).length + 1 + (numF xs).length + 1 + (numF ys).length + 1 := by omega
  clear d1 d2 d3
  refine wp_region_Z (S := fun w' => Hid (Below W.heap.size W w') ∧ w'.cell? ⟨w.heap.size, 0, none⟩ = some (.int .i64 m) ∧ w'.cell? ⟨w.heap.size, 1, none⟩ = some (.slice A1 xs.length c1) ∧ w'.cell? ⟨w.heap.size, 2, none⟩ = some (.slice A2 ys.length c2) ∧ w'.cell? ⟨w.heap.size, 3, none⟩ = some (.slice A3 ss.length c3)) (by kernel_rfl) hS0 (fun hS => ?_)
  clear hS0
  refine wpAnyZ_take (i := 0) (v := ?vkp0) rfl (by kernel_rfl) (by kernel_rfl) (by kernel_rfl) (by kernel_rfl) (fun _ _ _ h => h) (Or.inl ⟨by kernel_rfl, ?ykp0⟩) (by with_reducible assumption) ?rkp0
  case ykp0 => (intro w hSw; (try dsimp only at hSw); go_simp; (try with_reducible rfl))
  simp only [Act.put, List.setIfInBounds_toArray]
  refine wpAnyZ_take (i := 1) (v := ?vkp1) rfl (by kernel_rfl) (by kernel_rfl) (by kernel_rfl) (by kernel_rfl) (fun _ _ _ h => h) (Or.inl ⟨by kernel_rfl, ?ykp1⟩) (by with_reducible assumption) ?rkp1
  case ykp1 => (intro w hSw; (try dsimp only at hSw); go_simp; (try with_reducible rfl))
  simp only [Act.put]
  refine wpAnyZ_take (i := 4) (v := ?vkp4) rfl (by kernel_rfl) (by kernel_rfl) (by kernel_rfl) (by kernel_rfl) (fun _ _ _ h => h) (Or.inl ⟨by kernel_rfl, ?ykp4⟩) (by with_reducible assumption) ?rkp4
  case ykp4 => (intro w hSw; (try dsimp only at hSw); go_simp; (try with_reducible rfl))
  simp only [Act.put]
  refine wpAnyZ_take (i := 5) (v := ?vkp5) rfl (by kernel_rfl) (by kernel_rfl) (by kernel_rfl) (by kernel_rfl) (fun _ _ _ h => h) (Or.inl ⟨by kernel_rfl, ?ykp5⟩) (by with_reducible assumption) ?rkp5
  case ykp5 => (intro w hSw; (try dsimp only at hSw); go_simp; (try with_reducible rfl))
  simp only [Act.put]
  refine wpAnyZ_take (i := 9) (v := ?vkp9) rfl (by kernel_rfl) (by kernel_rfl) (by kernel_rfl) (by kernel_rfl) (fun _ _ _ h => h) (Or.inl ⟨by kernel_rfl, ?ykp9⟩) (by with_reducible assumption) ?rkp9
  case ykp9 => (intro w hSw; (try dsimp only at hSw); go_simp; (try with_reducible rfl))
  simp only [Act.put]
  refine wpAnyZ_take (i := 10) (v := ?vkp10) rfl (by kernel_rfl) (by kernel_rfl) (by kernel_rfl) (by kernel_rfl) (fun _ _ _ h => h) (Or.inl ⟨by kernel_rfl, ?ykp10⟩) (by with_reducible assumption) ?rkp10
  case ykp10 => (intro w hSw; (try dsimp only at hSw); go_simp; (try with_reducible rfl))
  simp only [Act.put]
  refine wpAnyZ_step (i := 2) (by kernel_rfl) rfl ?_
  intro K2 hK2
  go_simp
  refine (dec_one _ _ P1.out).mono ?_
  rintro e w5 ⟨rfl, hb5⟩
  have hSa := KS.out _ (below_on hS.1.out hb5)
  refine hK2.out _ _ hSa (fun hS1 => ?_)
  clear hSa hS
  clear hK2
  (try simp only [Act.put])
  refine wpAnyZ_take (i := 3) (v := ?vkq3) rfl (by kernel_rfl) (by kernel_rfl) (by kernel_rfl) (by kernel_rfl) (fun _ _ _ h => h) (Or.inl ⟨by kernel_rfl, ?ykq3⟩) (by with_reducible assumption) ?rkq3
  case ykq3 => (intro w hSw; (try dsimp only at hSw); go_simp; (try with_reducible rfl))
  simp only [Act.put]
  refine wpAnyZ_step (i := 6) (by kernel_rfl) rfl ?_
  intro K6 hK6
  go_simp
  refine (numsS_any _ _ _ _ ((HX.out.below (below_on B1.out hS1.1.out)).more (below_on B1.out hS1.1.out).size) lx P2.out).mono ?_
  rintro e w6 ⟨rfl, hb6⟩
  have hSa := KS.out _ (below_on hS1.1.out hb6)
  refine hK6.out _ _ hSa (fun hS2 => ?_)
  clear hSa hS1
  clear hK6
  (try simp only [Act.put])
  refine wpAnyZ_take (i := 7) (v := ?vkr7) rfl (by kernel_rfl) (by kernel_rfl) (by kernel_rfl) (by kernel_rfl) (fun _ _ _ h => h) (Or.inl ⟨by kernel_rfl, ?ykr7⟩) (by with_reducible assumption) ?rkr7
  case ykr7 => (intro w hSw; (try dsimp only at hSw); go_simp; (try with_reducible rfl))
  simp only [Act.put]
  refine wpAnyZ_take (i := 8) (v := ?vkr8) rfl (by kernel_rfl) (by kernel_rfl) (by kernel_rfl) (by kernel_rfl) (fun _ _ _ h => h) (Or.inl ⟨by kernel_rfl, ?ykr8⟩) (by with_reducible assumption) ?rkr8
  case ykr8 => (intro w hSw; (try dsimp only at hSw); go_simp; (try with_reducible rfl))
  simp only [Act.put]
  refine wpAnyZ_step (i := 11) (by kernel_rfl) rfl ?_
  intro K11 hK11
  go_simp
  refine (numsS_any _ _ _ _ ((HY.out.below (below_on B1.out hS2.1.out)).more (below_on B1.out hS2.1.out).size) ly P3.out).mono ?_
  rintro e w7 ⟨rfl, hb7⟩
  have hSa := KS.out _ (below_on hS2.1.out hb7)
  refine hK11.out _ _ hSa (fun hS3 => ?_)
  clear hSa hS2
  clear hK11
  (try simp only [Act.put])
  refine wpAnyZ_take (i := 12) (v := ?vks12) rfl (by kernel_rfl) (by kernel_rfl) (by kernel_rfl) (by kernel_rfl) (fun _ _ _ h => h) (Or.inl ⟨by kernel_rfl, ?yks12⟩) (by with_reducible assumption) ?rks12
  case yks12 => (intro w hSw; (try dsimp only at hSw); go_simp; (try with_reducible rfl))
  simp only [Act.put]
  refine wpAnyZ_take (i := 13) (v := ?vks13) rfl (by kernel_rfl) (by kernel_rfl) (by kernel_rfl) (by kernel_rfl) (fun _ _ _ h => h) (Or.inl ⟨by kernel_rfl, ?yks13⟩) (by with_reducible assumption) ?rks13
  case yks13 => (intro w hSw; (try dsimp only at hSw); go_simp; (try with_reducible rfl))
  simp only [Act.put]
  refine wpAnyZ_last (i := 14) (by kernel_rfl) rfl (by kernel_rfl) ?_
  intro K14 hK14
  go_simp
  refine hK14.out _ _ ?_
  clear hK14
  have B3 := Lib.hid (below_on B1.out hS3.1.out)
  have K3 := Lib.hid (blk_b K1.out hS3.1.out)
  clear KS hS3 a1 a2 a3 a4 a5
  have hpre : (((((⟨(digF m).toArray⟩ ++ ⟨#[59]⟩) ++ ⟨(numF xs).toArray⟩) ++ ⟨#[59]⟩) ++ ⟨(numF ys).toArray⟩) ++ ⟨#[59]⟩ : ByteArray) = preB m xs ys := rfl
  rw [hpre]
  clear hpre
  obtain ⟨T, hT⟩ : ∃ T, T = preB m xs ys := ⟨_, rfl⟩
  have HT := Lib.hid hT
  have hTs : T.size ≤ 4194320 := by rw [hT, preB_size]; have := L1.out; have := L2.out; have := L3.out; omega
  have h24 := L5.out
  rw [← hT]
  clear hT
  obtain ⟨b0, b1, b2, b3⟩ := four_cells K3.out
  have kl := Blk.lt K3.out
  go_wp2_with fail
  go_loopw [3, 26] (fun x i wr => ∃ (k : Nat) (t : ByteArray), k ≤ ss.length ∧ i = .int .i64 k ∧ x = .string t ∧ Hid (t.data.toList = T.data.toList ++ Lib.join ((ss.take k).map stepT) [32]) ∧ t.size ≤ 4194320 + 6 * k ∧ Hid (Below w.heap.size w wr)) (fun _ i _ => ss.length - (intOf i).toNat)
  case atStart => exact ⟨0, T, Nat.zero_le _, rfl, rfl, Lib.hid (by simp [Lib.join_nil]), by omega, B3.out⟩
  case round =>
    obtain ⟨k, t, hk, rfl, rfl, htt, hts, hb⟩ := hrel
    clear B3 K3 B1 K1 b0 b1 b2 b3 kl
    by_cases hlt : k < ss.length
    · obtain ⟨b, off, s, rfl, hbB, hat, hsz, hdr, hg⟩ := HS.out.at_ hlt
      obtain ⟨q0, q1, q2, q3⟩ := hat.below hb.out hbB
      have HN := Lib.hid (stake_next hlt hg)
      have HSS := Lib.hid (P4.out s (List.mem_of_mem_drop (i := k) (by rw [hdr]; simp)))
      have B5 := Lib.hid (below_al hb.out (Nat.le_refl _) (.cells #[.int .i64 s.fr, .string s.le, .int .i64 s.to_, .int .i64 s.co] 44))
      have V1 := Lib.hid (Blk.new wr 44 #[.int .i64 s.fr, .string s.le, .int .i64 s.to_, .int .i64 s.co])
      clear hat hdr hg hb
      obtain ⟨W2, hW⟩ : ∃ W, W = wr.alloc (.cells #[.int .i64 s.fr, .string s.le, .int .i64 s.to_, .int .i64 s.co] 44) := ⟨_, rfl⟩
      obtain ⟨V, hV⟩ : ∃ V, V = wr.heap.size := ⟨_, rfl⟩
      have HWE := Lib.hid hW
      have HVE := Lib.hid hV
      rw [← hW] at B5 V1
      rw [← hV] at V1
      clear hW hV
      have KS : Hid (∀ w', Below W2.heap.size W2 w' → (Hid (Below W2.heap.size W2 w') ∧ w'.cell? ⟨V, 0, none⟩ = some (.int .i64 s.fr) ∧ w'.cell? ⟨V, 1, none⟩ = some (.string s.le) ∧ w'.cell? ⟨V, 2, none⟩ = some (.int .i64 s.to_) ∧ w'.cell? ⟨V, 3, none⟩ = some (.int .i64 s.co))) := fun w' h => by
        have v := blk_b V1.out h
        exact ⟨h, v.cell 0, v.cell 1, v.cell 2, v.cell 3⟩
      obtain ⟨f1, f2, f3, f4⟩ := HSS.out
      have F1 := Lib.hid f1
      have F2 := Lib.hid f2
      have F3 := Lib.hid f3
      have d1 := digF_len f1
      have d2 := digF_len f2
      have d3 := digF_len f3
      have g1 : ((digF s.fr).toArray).size = 1 := by simpa using d1
      have e1 : ((digF s.fr).toArray).size = 1 := by simpa using d1
      have D1 := Lib.hid d1
      have D2 := Lib.hid d2
      have D3 := Lib.hid d3
      have D4 := Lib.hid f4
      clear f1 f2 f3 f4 d1 d2 d3 g1 e1
      by_cases h0 : k = 0
      · have hk0 : ¬ (0 : Int) < (k : Int) := by omega
        have HTN : Hid ((t.data.toList ++ stepT s) = T.data.toList ++ Lib.join ((ss.take (k + 1)).map stepT) [32]) := by show _ = _; rw [HN.out, htt.out, h0]; simp [Lib.join_nil, Lib.join_one]
        have h9 : ¬ 9223372036854775807 < t.size + 1 := by omega
        have a1 : ¬ 9223372036854775807 < t.size + (digF s.fr).length := by have := D1.out; have := D2.out; have := D3.out; have := D4.out; omega
        have a2 : ¬ 9223372036854775807 < t.size + (digF s.fr).length + s.le.size := by have := D1.out; have := D2.out; have := D3.out; have := D4.out; omega
        have a3 : ¬ 9223372036854775807 < t.size + (digF s.fr).length + s.le.size + (digF s.to_).length := by have := D1.out; have := D2.out; have := D3.out; have := D4.out; omega
        have a4 : ¬ 9223372036854775807 < t.size + (digF s.fr).length + s.le.size + (digF s.to_).length + 1 := by have := D1.out; have := D2.out; have := D3.out; have := D4.out; omega
        have a5 : ¬ 9223372036854775807 < t.size + (digF s.fr).length + s.le.size + (digF s.to_).length + 1 + (digF s.co).length := by have := D1.out; have := D2.out; have := D3.out; have := D4.out; omega
        clear h0
        go_upto_region 9 with fail
        rw [← HVE.out, ← HWE.out]
        clear q0 q1 q2 q3
        have hS0 := KS.out W2.drew ((Below.refl _ _).drew)
        refine wp_region_Z (S := fun w' => Hid (Below W2.heap.size W2 w') ∧ w'.cell? ⟨V, 0, none⟩ = some (.int .i64 s.fr) ∧ w'.cell? ⟨V, 1, none⟩ = some (.string s.le) ∧ w'.cell? ⟨V, 2, none⟩ = some (.int .i64 s.to_) ∧ w'.cell? ⟨V, 3, none⟩ = some (.int .i64 s.co)) (by kernel_rfl) hS0 (fun hS => ?_)
        clear hS0
        refine wpAnyZ_take (i := 0) (v := ?vzp0) rfl (by kernel_rfl) (by kernel_rfl) (by kernel_rfl) (by kernel_rfl) (fun _ _ _ h => h) (Or.inl ⟨by kernel_rfl, ?yzp0⟩) (by with_reducible assumption) ?rzp0
        case yzp0 => (intro w hSw; (try dsimp only at hSw); go_simp; (try with_reducible rfl))
        simp only [Act.put, List.setIfInBounds_toArray]
        refine wpAnyZ_take (i := 1) (v := ?vzp1) rfl (by kernel_rfl) (by kernel_rfl) (by kernel_rfl) (by kernel_rfl) (fun _ _ _ h => h) (Or.inl ⟨by kernel_rfl, ?yzp1⟩) (by with_reducible assumption) ?rzp1
        case yzp1 => (intro w hSw; (try dsimp only at hSw); go_simp; (try with_reducible rfl))
        simp only [Act.put]
        refine wpAnyZ_take (i := 2) (v := ?vzp2) rfl (by kernel_rfl) (by kernel_rfl) (by kernel_rfl) (by kernel_rfl) (fun _ _ _ h => h) (Or.inl ⟨by kernel_rfl, ?yzp2⟩) (by with_reducible assumption) ?rzp2
        case yzp2 => (intro w hSw; (try dsimp only at hSw); go_simp; (try with_reducible rfl))
        simp only [Act.put]
        refine wpAnyZ_take (i := 5) (v := ?vzp5) rfl (by kernel_rfl) (by kernel_rfl) (by kernel_rfl) (by kernel_rfl) (fun _ _ _ h => h) (Or.inl ⟨by kernel_rfl, ?yzp5⟩) (by with_reducible assumption) ?rzp5
        case yzp5 => (intro w hSw; (try dsimp only at hSw); go_simp; (try with_reducible rfl))
        simp only [Act.put]
        refine wpAnyZ_take (i := 6) (v := ?vzp6) rfl (by kernel_rfl) (by kernel_rfl) (by kernel_rfl) (by kernel_rfl) (fun _ _ _ h => h) (Or.inl ⟨by kernel_rfl, ?yzp6⟩) (by with_reducible assumption) ?rzp6
        case yzp6 => (intro w hSw; (try dsimp only at hSw); go_simp; (try with_reducible rfl))
        simp only [Act.put]
        refine wpAnyZ_take (i := 8) (v := ?vzp8) rfl (by kernel_rfl) (by kernel_rfl) (by kernel_rfl) (by kernel_rfl) (fun _ _ _ h => h) (Or.inl ⟨by kernel_rfl, ?yzp8⟩) (by with_reducible assumption) ?rzp8
        case yzp8 => (intro w hSw; (try dsimp only at hSw); go_simp; (try with_reducible rfl))
        simp only [Act.put]
        refine wpAnyZ_take (i := 9) (v := ?vzp9) rfl (by kernel_rfl) (by kernel_rfl) (by kernel_rfl) (by kernel_rfl) (fun _ _ _ h => h) (Or.inl ⟨by kernel_rfl, ?yzp9⟩) (by with_reducible assumption) ?rzp9
        case yzp9 => (intro w hSw; (try dsimp only at hSw); go_simp; (try with_reducible rfl))
        simp only [Act.put]
        refine wpAnyZ_take (i := 13) (v := ?vzp13) rfl (by kernel_rfl) (by kernel_rfl) (by kernel_rfl) (by kernel_rfl) (fun _ _ _ h => h) (Or.inl ⟨by kernel_rfl, ?yzp13⟩) (by with_reducible assumption) ?rzp13
        case yzp13 => (intro w hSw; (try dsimp only at hSw); go_simp; (try with_reducible rfl))
        simp only [Act.put]
        refine wpAnyZ_take (i := 14) (v := ?vzp14) rfl (by kernel_rfl) (by kernel_rfl) (by kernel_rfl) (by kernel_rfl) (fun _ _ _ h => h) (Or.inl ⟨by kernel_rfl, ?yzp14⟩) (by with_reducible assumption) ?rzp14
        case yzp14 => (intro w hSw; (try dsimp only at hSw); go_simp; (try with_reducible rfl))
        simp only [Act.put]
        refine wpAnyZ_step (i := 3) (by kernel_rfl) rfl ?_
        intro K3 hK3
        go_simp
        refine (dec_one _ _ F1.out).mono ?_
        rintro e w5 ⟨rfl, hb5⟩
        have hSa := KS.out _ (below_on hS.1.out hb5)
        refine hK3.out _ _ hSa (fun hS1 => ?_)
        clear hSa hS
        clear hK3
        (try simp only [Act.put])
        refine wpAnyZ_take (i := 4) (v := ?vzq4) rfl (by kernel_rfl) (by kernel_rfl) (by kernel_rfl) (by kernel_rfl) (fun _ _ _ h => h) (Or.inl ⟨by kernel_rfl, ?yzq4⟩) (by with_reducible assumption) ?rzq4
        case yzq4 => (intro w hSw; (try dsimp only at hSw); go_simp; (try with_reducible rfl))
        simp only [Act.put]
        refine wpAnyZ_take (i := 7) (v := ?vzq7) rfl (by kernel_rfl) (by kernel_rfl) (by kernel_rfl) (by kernel_rfl) (fun _ _ _ h => h) (Or.inl ⟨by kernel_rfl, ?yzq7⟩) (by with_reducible assumption) ?rzq7
        case yzq7 => (intro w hSw; (try dsimp only at hSw); go_simp; (try with_reducible rfl))
        simp only [Act.put]
        refine wpAnyZ_step (i := 10) (by kernel_rfl) rfl ?_
        intro K10 hK10
        go_simp
        refine (dec_one _ _ F2.out).mono ?_
        rintro e w6 ⟨rfl, hb6⟩
        have hSa := KS.out _ (below_on hS1.1.out hb6)
        refine hK10.out _ _ hSa (fun hS2 => ?_)
        clear hSa hS1
        clear hK10
        (try simp only [Act.put])
        refine wpAnyZ_take (i := 11) (v := ?vzr11) rfl (by kernel_rfl) (by kernel_rfl) (by kernel_rfl) (by kernel_rfl) (fun _ _ _ h => h) (Or.inl ⟨by kernel_rfl, ?yzr11⟩) (by with_reducible assumption) ?rzr11
        case yzr11 => (intro w hSw; (try dsimp only at hSw); go_simp; (try with_reducible rfl))
        simp only [Act.put]
        refine wpAnyZ_take (i := 12) (v := ?vzr12) rfl (by kernel_rfl) (by kernel_rfl) (by kernel_rfl) (by kernel_rfl) (fun _ _ _ h => h) (Or.inl ⟨by kernel_rfl, ?yzr12⟩) (by with_reducible assumption) ?rzr12
        case yzr12 => (intro w hSw; (try dsimp only at hSw); go_simp; (try with_reducible rfl))
        simp only [Act.put]
        refine wpAnyZ_step (i := 15) (by kernel_rfl) rfl ?_
        intro K15 hK15
        go_simp
        refine (dec_one _ _ F3.out).mono ?_
        rintro e w7 ⟨rfl, hb7⟩
        have hSa := KS.out _ (below_on hS2.1.out hb7)
        refine hK15.out _ _ hSa (fun hS3 => ?_)
        clear hSa hS2
        clear hK15
        (try simp only [Act.put])
        refine wpAnyZ_take (i := 16) (v := ?vzs16) rfl (by kernel_rfl) (by kernel_rfl) (by kernel_rfl) (by kernel_rfl) (fun _ _ _ h => h) (Or.inl ⟨by kernel_rfl, ?yzs16⟩) (by with_reducible assumption) ?rzs16
        case yzs16 => (intro w hSw; (try dsimp only at hSw); go_simp; (try with_reducible rfl))
        simp only [Act.put]
        refine wpAnyZ_last (i := 17) (by kernel_rfl) rfl (by kernel_rfl) ?_
        intro K17 hK17
        go_simp
        refine hK17.out _ _ ?_
        clear hK17
        have HB7 := Lib.hid (below_on B5.out hS3.1.out)
        clear KS hS3 a1 a2 a3 a4 a5 h9
        go_wp2_with fail
        go_roundw
        case rel =>
          refine ⟨k + 1, _, by omega, by go_num, rfl, ?_, ?_, HB7.out⟩
          · show _ = _
            rw [← HTN.out]
            unfold stepT stepB
            simp [ByteArray.data_append]
          · have h1 := D1.out; have h2 := D2.out; have h3 := D3.out; have h4 := D4.out
            rw [add_stepB]; omega
        case measure => simp [intOf]; omega
      · have hk0 : (0 : Int) < (k : Int) := by omega
        have HTN : Hid ((t.data.toList ++ [32] ++ stepT s) = T.data.toList ++ Lib.join ((ss.take (k + 1)).map stepT) [32]) := by show _ = _; rw [HN.out, List.map_append, List.map_cons, List.map_nil, join_snoc _ _ (by intro he; have h := congrArg List.length he; rw [List.length_map, List.length_take, List.length_nil] at h; omega), htt.out]; simp
        have h9 : ¬ 9223372036854775807 < t.size + 1 := by omega
        have a1 : ¬ 9223372036854775807 < t.size + 1 + (digF s.fr).length := by have := D1.out; have := D2.out; have := D3.out; have := D4.out; omega
        have a2 : ¬ 9223372036854775807 < t.size + 1 + (digF s.fr).length + s.le.size := by have := D1.out; have := D2.out; have := D3.out; have := D4.out; omega
        have a3 : ¬ 9223372036854775807 < t.size + 1 + (digF s.fr).length + s.le.size + (digF s.to_).length := by have := D1.out; have := D2.out; have := D3.out; have := D4.out; omega
        have a4 : ¬ 9223372036854775807 < t.size + 1 + (digF s.fr).length + s.le.size + (digF s.to_).length + 1 := by have := D1.out; have := D2.out; have := D3.out; have := D4.out; omega
        have a5 : ¬ 9223372036854775807 < t.size + 1 + (digF s.fr).length + s.le.size + (digF s.to_).length + 1 + (digF s.co).length := by have := D1.out; have := D2.out; have := D3.out; have := D4.out; omega
        clear h0
        go_upto_region 9 with fail
        rw [← HVE.out, ← HWE.out]
        clear q0 q1 q2 q3
        have hS0 := KS.out W2.drew ((Below.refl _ _).drew)
        refine wp_region_Z (S := fun w' => Hid (Below W2.heap.size W2 w') ∧ w'.cell? ⟨V, 0, none⟩ = some (.int .i64 s.fr) ∧ w'.cell? ⟨V, 1, none⟩ = some (.string s.le) ∧ w'.cell? ⟨V, 2, none⟩ = some (.int .i64 s.to_) ∧ w'.cell? ⟨V, 3, none⟩ = some (.int .i64 s.co)) (by kernel_rfl) hS0 (fun hS => ?_)
        clear hS0
        refine wpAnyZ_take (i := 0) (v := ?vyp0) rfl (by kernel_rfl) (by kernel_rfl) (by kernel_rfl) (by kernel_rfl) (fun _ _ _ h => h) (Or.inl ⟨by kernel_rfl, ?yyp0⟩) (by with_reducible assumption) ?ryp0
        case yyp0 => (intro w hSw; (try dsimp only at hSw); go_simp; (try with_reducible rfl))
        simp only [Act.put, List.setIfInBounds_toArray]
        refine wpAnyZ_take (i := 1) (v := ?vyp1) rfl (by kernel_rfl) (by kernel_rfl) (by kernel_rfl) (by kernel_rfl) (fun _ _ _ h => h) (Or.inl ⟨by kernel_rfl, ?yyp1⟩) (by with_reducible assumption) ?ryp1
        case yyp1 => (intro w hSw; (try dsimp only at hSw); go_simp; (try with_reducible rfl))
        simp only [Act.put]
        refine wpAnyZ_take (i := 2) (v := ?vyp2) rfl (by kernel_rfl) (by kernel_rfl) (by kernel_rfl) (by kernel_rfl) (fun _ _ _ h => h) (Or.inl ⟨by kernel_rfl, ?yyp2⟩) (by with_reducible assumption) ?ryp2
        case yyp2 => (intro w hSw; (try dsimp only at hSw); go_simp; (try with_reducible rfl))
        simp only [Act.put]
        refine wpAnyZ_take (i := 5) (v := ?vyp5) rfl (by kernel_rfl) (by kernel_rfl) (by kernel_rfl) (by kernel_rfl) (fun _ _ _ h => h) (Or.inl ⟨by kernel_rfl, ?yyp5⟩) (by with_reducible assumption) ?ryp5
        case yyp5 => (intro w hSw; (try dsimp only at hSw); go_simp; (try with_reducible rfl))
        simp only [Act.put]
        refine wpAnyZ_take (i := 6) (v := ?vyp6) rfl (by kernel_rfl) (by kernel_rfl) (by kernel_rfl) (by kernel_rfl) (fun _ _ _ h => h) (Or.inl ⟨by kernel_rfl, ?yyp6⟩) (by with_reducible assumption) ?ryp6
        case yyp6 => (intro w hSw; (try dsimp only at hSw); go_simp; (try with_reducible rfl))
        simp only [Act.put]
        refine wpAnyZ_take (i := 8) (v := ?vyp8) rfl (by kernel_rfl) (by kernel_rfl) (by kernel_rfl) (by kernel_rfl) (fun _ _ _ h => h) (Or.inl ⟨by kernel_rfl, ?yyp8⟩) (by with_reducible assumption) ?ryp8
        case yyp8 => (intro w hSw; (try dsimp only at hSw); go_simp; (try with_reducible rfl))
        simp only [Act.put]
        refine wpAnyZ_take (i := 9) (v := ?vyp9) rfl (by kernel_rfl) (by kernel_rfl) (by kernel_rfl) (by kernel_rfl) (fun _ _ _ h => h) (Or.inl ⟨by kernel_rfl, ?yyp9⟩) (by with_reducible assumption) ?ryp9
        case yyp9 => (intro w hSw; (try dsimp only at hSw); go_simp; (try with_reducible rfl))
        simp only [Act.put]
        refine wpAnyZ_take (i := 13) (v := ?vyp13) rfl (by kernel_rfl) (by kernel_rfl) (by kernel_rfl) (by kernel_rfl) (fun _ _ _ h => h) (Or.inl ⟨by kernel_rfl, ?yyp13⟩) (by with_reducible assumption) ?ryp13
        case yyp13 => (intro w hSw; (try dsimp only at hSw); go_simp; (try with_reducible rfl))
        simp only [Act.put]
        refine wpAnyZ_take (i := 14) (v := ?vyp14) rfl (by kernel_rfl) (by kernel_rfl) (by kernel_rfl) (by kernel_rfl) (fun _ _ _ h => h) (Or.inl ⟨by kernel_rfl, ?yyp14⟩) (by with_reducible assumption) ?ryp14
        case yyp14 => (intro w hSw; (try dsimp only at hSw); go_simp; (try with_reducible rfl))
        simp only [Act.put]
        refine wpAnyZ_step (i := 3) (by kernel_rfl) rfl ?_
        intro K3 hK3
        go_simp
        refine (dec_one _ _ F1.out).mono ?_
        rintro e w5 ⟨rfl, hb5⟩
        have hSa := KS.out _ (below_on hS.1.out hb5)
        refine hK3.out _ _ hSa (fun hS1 => ?_)
        clear hSa hS
        clear hK3
        (try simp only [Act.put])
        refine wpAnyZ_take (i := 4) (v := ?vyq4) rfl (by kernel_rfl) (by kernel_rfl) (by kernel_rfl) (by kernel_rfl) (fun _ _ _ h => h) (Or.inl ⟨by kernel_rfl, ?yyq4⟩) (by with_reducible assumption) ?ryq4
        case yyq4 => (intro w hSw; (try dsimp only at hSw); go_simp; (try with_reducible rfl))
        simp only [Act.put]
        refine wpAnyZ_take (i := 7) (v := ?vyq7) rfl (by kernel_rfl) (by kernel_rfl) (by kernel_rfl) (by kernel_rfl) (fun _ _ _ h => h) (Or.inl ⟨by kernel_rfl, ?yyq7⟩) (by with_reducible assumption) ?ryq7
        case yyq7 => (intro w hSw; (try dsimp only at hSw); go_simp; (try with_reducible rfl))
        simp only [Act.put]
        refine wpAnyZ_step (i := 10) (by kernel_rfl) rfl ?_
        intro K10 hK10
        go_simp
        refine (dec_one _ _ F2.out).mono ?_
        rintro e w6 ⟨rfl, hb6⟩
        have hSa := KS.out _ (below_on hS1.1.out hb6)
        refine hK10.out _ _ hSa (fun hS2 => ?_)
        clear hSa hS1
        clear hK10
        (try simp only [Act.put])
        refine wpAnyZ_take (i := 11) (v := ?vyr11) rfl (by kernel_rfl) (by kernel_rfl) (by kernel_rfl) (by kernel_rfl) (fun _ _ _ h => h) (Or.inl ⟨by kernel_rfl, ?yyr11⟩) (by with_reducible assumption) ?ryr11
        case yyr11 => (intro w hSw; (try dsimp only at hSw); go_simp; (try with_reducible rfl))
        simp only [Act.put]
        refine wpAnyZ_take (i := 12) (v := ?vyr12) rfl (by kernel_rfl) (by kernel_rfl) (by kernel_rfl) (by kernel_rfl) (fun _ _ _ h => h) (Or.inl ⟨by kernel_rfl, ?yyr12⟩) (by with_reducible assumption) ?ryr12
        case yyr12 => (intro w hSw; (try dsimp only at hSw); go_simp; (try with_reducible rfl))
        simp only [Act.put]
        refine wpAnyZ_step (i := 15) (by kernel_rfl) rfl ?_
        intro K15 hK15
        go_simp
        refine (dec_one _ _ F3.out).mono ?_
        rintro e w7 ⟨rfl, hb7⟩
        have hSa := KS.out _ (below_on hS2.1.out hb7)
        refine hK15.out _ _ hSa (fun hS3 => ?_)
        clear hSa hS2
        clear hK15
        (try simp only [Act.put])
        refine wpAnyZ_take (i := 16) (v := ?vys16) rfl (by kernel_rfl) (by kernel_rfl) (by kernel_rfl) (by kernel_rfl) (fun _ _ _ h => h) (Or.inl ⟨by kernel_rfl, ?yys16⟩) (by with_reducible assumption) ?rys16
        case yys16 => (intro w hSw; (try dsimp only at hSw); go_simp; (try with_reducible rfl))
        simp only [Act.put]
        refine wpAnyZ_last (i := 17) (by kernel_rfl) rfl (by kernel_rfl) ?_
        intro K17 hK17
        go_simp
        refine hK17.out _ _ ?_
        clear hK17
        have HB7 := Lib.hid (below_on B5.out hS3.1.out)
        clear KS hS3 a1 a2 a3 a4 a5 h9
        go_wp2_with fail
        go_roundw
        case rel =>
          refine ⟨k + 1, _, by omega, by go_num, rfl, ?_, ?_, HB7.out⟩
          · show _ = _
            rw [← HTN.out]
            unfold stepT stepB
            simp [ByteArray.data_append]
          · have h1 := D1.out; have h2 := D2.out; have h3 := D3.out; have h4 := D4.out
            rw [add_stepB, ByteArray.size_append]
            show t.size + 1 + (digF s.fr).length + s.le.size + (digF s.to_).length + 1 + (digF s.co).length ≤ _
            omega
        case measure => simp [intOf]; omega
    · have HE : Hid (t.data.toList = autoF m xs ys ss) := by
        show _ = _
        rw [htt.out, HT.out, HF.out, List.take_of_length_le (by omega), pre_join]
        rfl
      go_wp2_with fail
      go_ret
      have e : t = ⟨(autoF m xs ys ss).toArray⟩ := by apply Go.WideShapes.bytes_inj; rw [HE.out]
      rw [e]
      exact ⟨rfl, hb.out⟩
end Go.Proofs.YtidahhfpnhmkgaaDoor
