/- The texts of automata, the program's and the model's: the same bytes; nothing that was there changes. Condition: at most 2^20 of each. -/
import Derived.Test.YtidahhfpnhmkgaaDoorStepsF
namespace Go.Proofs.YtidahhfpnhmkgaaDoor
open Go.RowKit
set_option maxHeartbeats 4000000
set_option maxRecDepth 100000
set_option linter.unusedVariables false

theorem marks_all : ∀ (zs : List Int) (n last : Int), -1 ≤ last → n ≤ 4 → marksF n last zs = true → ∀ z ∈ zs, 0 ≤ z ∧ z < 10
  | [], _, _, _, _, _, z, hz => by cases hz
  | p :: ps, n, last, h1, h4, h, z, hz => by
    unfold marksF at h
    simp only [Bool.and_eq_true, decide_eq_true_eq] at h
    rcases List.mem_cons.1 hz with rfl | hz
    · omega
    · exact marks_all ps n p (by omega) h4 h.2.2 z hz
theorem steps_all : ∀ (ss : List StepD) (n : Int) (p : Option StepD), stepsF n p ss = true → ∀ s ∈ ss, stepOk n s = true
  | [], _, _, _, s, hs => by cases hs
  | t :: ss, n, none, h, s, hs => by
    unfold stepsF at h
    simp only [Bool.and_eq_true] at h
    rcases List.mem_cons.1 hs with rfl | hs
    · exact h.1
    · exact steps_all ss n (some t) h.2 s hs
  | t :: ss, n, some q, h, s, hs => by
    unfold stepsF at h
    simp only [Bool.and_eq_true] at h
    rcases List.mem_cons.1 hs with rfl | hs
    · exact h.1
    · exact steps_all ss n (some t) h.2.2 s hs
theorem short_of {n : Int} {s : StepD} (h4 : n ≤ 4) (h : stepOk n s = true) : ShortS s := by
  have hl := stepOk_l h
  unfold stepOk at h
  simp only [Bool.and_eq_true, decide_eq_true_eq] at h
  refine ⟨by omega, by omega, by omega, ?_⟩
  rcases hl with e | e
  · rw [e]; rfl
  · rw [e]; rfl
def autoF (m : Int) (xs ys : List Int) (ss : List StepD) : List UInt8 := if autoOk m xs ys ss = true then Lib.join [digF m, numF xs, numF ys, stepsT ss] [59] else []
theorem auto_parts {m : Int} {xs ys : List Int} {ss : List StepD} (h : autoOk m xs ys ss = true) : (0 ≤ m ∧ m < 10) ∧ (∀ z ∈ xs, 0 ≤ z ∧ z < 10) ∧ (∀ z ∈ ys, 0 ≤ z ∧ z < 10) ∧ (∀ s ∈ ss, ShortS s) ∧ ss.length ≤ 24 := by
  unfold autoOk at h
  simp only [Bool.and_eq_true, decide_eq_true_eq] at h
  obtain ⟨⟨m1, m2⟩, hx, hy, h24, hs⟩ := h
  exact ⟨by omega, marks_all xs m (-1) (by omega) m2 hx, marks_all ys m (-1) (by omega) m2 hy, fun s h => short_of m2 (steps_all ss m none hs s h), h24⟩
theorem numF_len {zs : List Int} (h : ∀ z ∈ zs, 0 ≤ z ∧ z < 10) : (numF zs).length ≤ 2 * zs.length := by
  have h1 := join_len1 (zs.map digF) 1 32 (fun x hx => by obtain ⟨z, hz, rfl⟩ := List.mem_map.1 hx; rw [digF_len (h z hz)]; exact Nat.le_refl _)
  rw [List.length_map] at h1; unfold numF; omega
theorem stepsT_len {ss : List StepD} (h : ∀ s ∈ ss, ShortS s) : (stepsT ss).length ≤ 6 * ss.length := by
  have h1 := join_len1 (ss.map stepT) 5 32 (fun x hx => by obtain ⟨z, hz, rfl⟩ := List.mem_map.1 hx; rw [stepT_len (h z hz)]; exact Nat.le_refl _)
  rw [List.length_map] at h1; unfold stepsT; omega

theorem iFmtA_any (m : Int) (A1 A2 A3 : Option Addr) (c1 c2 c3 : Nat) (xs ys : List Int) (ss : List StepD) (w : World) (hx : Ints w w.heap.size A1 xs) (hy : Ints w w.heap.size A2 ys) (hs : SRow w w.heap.size A3 ss) (lx : xs.length ≤ 1048576) (ly : ys.length ≤ 1048576) (ls : ss.length ≤ 1048576) :
    Calls Tryd.prog 8 #[.agg #[.int .i64 m, .slice A1 xs.length c1, .slice A2 ys.length c2, .slice A3 ss.length c3]] w fun e w' => FmtEnd (autoF m xs ys ss) w e w' := by
  obtain ⟨r, hr⟩ : ∃ r, autoOk m xs ys ss = r := ⟨_, rfl⟩
  have HR := Lib.hid hr
  have B0 := Lib.hid (below_a1 w (.cells #[.int .i64 m, .slice A1 xs.length c1, .slice A2 ys.length c2, .slice A3 ss.length c3] 30))
  have K0 := Lib.hid (Blk.new w 30 #[.int .i64 m, .slice A1 xs.length c1, .slice A2 ys.length c2, .slice A3 ss.length c3])
  have HX := Lib.hid hx
  have HY := Lib.hid hy
  have HS := Lib.hid hs
  clear hr hx hy hs
  go_enter Tryd.func8, Tryd.ntmps8
  go_wp2_with fail
  refine (iAutomatonValid_is _ _ _ _ _ _ _ _ _ _ r _ ((HX.out.below B0.out).more B0.out.size) ((HY.out.below B0.out).more B0.out.size) (HS.out.on B0.out) HR.out).mono ?_
  rintro e W ⟨rfl, hb1⟩
  have B1 := Lib.hid (below_on B0.out hb1.out)
  have K1 := Lib.hid (blk_b K0.out hb1.out)
  clear B0 K0 hb1
  rcases Bool.eq_false_or_eq_true r with h | h
  all_goals subst h
  rotate_left
  · have HF : Hid (autoF m xs ys ss = []) := by show _ = _; unfold autoF; rw [HR.out]; rfl
    go_wp2_with fail
    go_ret
    exact FmtEnd.mk_ (l' := []) HF.out B1.out
  have HF : Hid (autoF m xs ys ss = Lib.join [digF m, numF xs, numF ys, stepsT ss] [59]) := by show _ = _; unfold autoF; rw [HR.out]; rfl
  obtain ⟨p1, p2, p3, p4, p5⟩ := auto_parts HR.out
  have P1 := Lib.hid p1
  have P2 := Lib.hid p2
  have P3 := Lib.hid p3
  have P4 := Lib.hid p4
  have L1 := Lib.hid (digF_len p1)
  have L2 := Lib.hid (numF_len p2)
  have L3 := Lib.hid (numF_len p3)
  have L4 := Lib.hid (stepsT_len p4)
  clear p1 p2 p3 p4 p5
  go_upto_region 3 with fail
  have KS : Hid (∀ w', Below W.heap.size W w' → (Hid (Below W.heap.size W w') ∧ w'.cell? ⟨w.heap.size, 0, none⟩ = some (.int .i64 m) ∧ w'.cell? ⟨w.heap.size, 1, none⟩ = some (.slice A1 xs.length c1) ∧ w'.cell? ⟨w.heap.size, 2, none⟩ = some (.slice A2 ys.length c2) ∧ w'.cell? ⟨w.heap.size, 3, none⟩ = some (.slice A3 ss.length c3))) := fun w' h => by
    have v := blk_b K1.out h
    exact ⟨h, v.cell 0, v.cell 1, v.cell 2, v.cell 3⟩
  have hS0 := KS.out W.drew ((Below.refl _ _).drew)
  refine wp_region_Z (S := fun w' => Hid (Below W.heap.size W w') ∧ w'.cell? ⟨w.heap.size, 0, none⟩ = some (.int .i64 m) ∧ w'.cell? ⟨w.heap.size, 1, none⟩ = some (.slice A1 xs.length c1) ∧ w'.cell? ⟨w.heap.size, 2, none⟩ = some (.slice A2 ys.length c2) ∧ w'.cell? ⟨w.heap.size, 3, none⟩ = some (.slice A3 ss.length c3)) (by kernel_rfl) hS0 (fun hS => ?_)
  clear hS0
  refine wpAnyZ_take (i := 0) (v := ?vjp0) rfl (by kernel_rfl) (by kernel_rfl) (by kernel_rfl) (by kernel_rfl) (fun _ _ _ h => h) (Or.inl ⟨by kernel_rfl, ?yjp0⟩) (by with_reducible assumption) ?rjp0
  case yjp0 => (intro w hSw; (try dsimp only at hSw); go_simp; (try with_reducible rfl))
  simp only [Act.put, List.setIfInBounds_toArray]
  refine wpAnyZ_take (i := 1) (v := ?vjp1) rfl (by kernel_rfl) (by kernel_rfl) (by kernel_rfl) (by kernel_rfl) (fun _ _ _ h => h) (Or.inl ⟨by kernel_rfl, ?yjp1⟩) (by with_reducible assumption) ?rjp1
  case yjp1 => (intro w hSw; (try dsimp only at hSw); go_simp; (try with_reducible rfl))
  simp only [Act.put]
  refine wpAnyZ_take (i := 3) (v := ?vjp3) rfl (by kernel_rfl) (by kernel_rfl) (by kernel_rfl) (by kernel_rfl) (fun _ _ _ h => h) (Or.inl ⟨by kernel_rfl, ?yjp3⟩) (by with_reducible assumption) ?rjp3
  case yjp3 => (intro w hSw; (try dsimp only at hSw); go_simp; (try with_reducible rfl))
  simp only [Act.put]
  refine wpAnyZ_take (i := 4) (v := ?vjp4) rfl (by kernel_rfl) (by kernel_rfl) (by kernel_rfl) (by kernel_rfl) (fun _ _ _ h => h) (Or.inl ⟨by kernel_rfl, ?yjp4⟩) (by with_reducible assumption) ?rjp4
  case yjp4 => (intro w hSw; (try dsimp only at hSw); go_simp; (try with_reducible rfl))
  simp only [Act.put]
  refine wpAnyZ_take (i := 6) (v := ?vjp6) rfl (by kernel_rfl) (by kernel_rfl) (by kernel_rfl) (by kernel_rfl) (fun _ _ _ h => h) (Or.inl ⟨by kernel_rfl, ?yjp6⟩) (by with_reducible assumption) ?rjp6
  case yjp6 => (intro w hSw; (try dsimp only at hSw); go_simp; (try with_reducible rfl))
  simp only [Act.put]
  refine wpAnyZ_take (i := 7) (v := ?vjp7) rfl (by kernel_rfl) (by kernel_rfl) (by kernel_rfl) (by kernel_rfl) (fun _ _ _ h => h) (Or.inl ⟨by kernel_rfl, ?yjp7⟩) (by with_reducible assumption) ?rjp7
  case yjp7 => (intro w hSw; (try dsimp only at hSw); go_simp; (try with_reducible rfl))
  simp only [Act.put]
  refine wpAnyZ_take (i := 9) (v := ?vjp9) rfl (by kernel_rfl) (by kernel_rfl) (by kernel_rfl) (by kernel_rfl) (fun _ _ _ h => h) (Or.inl ⟨by kernel_rfl, ?yjp9⟩) (by with_reducible assumption) ?rjp9
  case yjp9 => (intro w hSw; (try dsimp only at hSw); go_simp; (try with_reducible rfl))
  simp only [Act.put]
  refine wpAnyZ_take (i := 10) (v := ?vjp10) rfl (by kernel_rfl) (by kernel_rfl) (by kernel_rfl) (by kernel_rfl) (fun _ _ _ h => h) (Or.inl ⟨by kernel_rfl, ?yjp10⟩) (by with_reducible assumption) ?rjp10
  case yjp10 => (intro w hSw; (try dsimp only at hSw); go_simp; (try with_reducible rfl))
  simp only [Act.put]
  refine wpAnyZ_step (i := 2) (by kernel_rfl) rfl ?_
  intro K2 hK2
  go_simp
  refine (itoa_small _ _ P1.out).mono ?_
  rintro e w5 ⟨rfl, rfl⟩
  refine hK2.out _ _ hS (fun hS1 => ?_)
  clear hS
  clear hK2
  (try simp only [Act.put])
  refine wpAnyZ_step (i := 5) (by kernel_rfl) rfl ?_
  intro K5 hK5
  go_simp
  refine (numsI_any _ _ _ _ ((HX.out.below (below_on B1.out hS1.1.out)).more (below_on B1.out hS1.1.out).size) lx P2.out).mono ?_
  rintro e w6 ⟨rfl, hb6⟩
  have hSa := KS.out _ (below_on hS1.1.out hb6)
  refine hK5.out _ _ hSa (fun hS2 => ?_)
  clear hSa hS1
  clear hK5
  (try simp only [Act.put])
  refine wpAnyZ_step (i := 8) (by kernel_rfl) rfl ?_
  intro K8 hK8
  go_simp
  refine (numsI_any _ _ _ _ ((HY.out.below (below_on B1.out hS2.1.out)).more (below_on B1.out hS2.1.out).size) ly P3.out).mono ?_
  rintro e w7 ⟨rfl, hb7⟩
  have hSa := KS.out _ (below_on hS2.1.out hb7)
  refine hK8.out _ _ hSa (fun hS3 => ?_)
  clear hSa hS2
  clear hK8
  (try simp only [Act.put])
  refine wpAnyZ_step (i := 11) (by kernel_rfl) rfl ?_
  intro K11 hK11
  go_simp
  refine (stepsI_any _ _ _ _ (HS.out.on (below_on B1.out hS3.1.out)) ls P4.out).mono ?_
  rintro e w8 ⟨rfl, hb8⟩
  have hSa := KS.out _ (below_on hS3.1.out hb8)
  refine hK11.out _ _ hSa (fun hS4 => ?_)
  clear hSa hS3
  clear hK11
  (try simp only [Act.put])
  refine wpAnyZ_step (i := 12) (by kernel_rfl) rfl ?_
  intro K12 hK12
  go_simp
  have hSa := KS.out _ (below_al hS4.1.out (Nat.le_refl _) (.cells #[.string ⟨(digF m).toArray⟩, .string ⟨(numF xs).toArray⟩, .string ⟨(numF ys).toArray⟩, .string ⟨(stepsT ss).toArray⟩] 9))
  refine hK12.out _ _ hSa (fun hS5 => ?_)
  clear hSa hK12
  (try simp only [Act.put])
  refine wpAnyZ_last (i := 13) (by kernel_rfl) rfl (by kernel_rfl) ?_
  intro K13 hK13
  go_simp
  refine hK13.out _ _ ?_
  clear hK13
  have HB8 := Lib.hid (below_on B1.out hS4.1.out)
  have HC := Lib.hid (Blk.new w8 9 #[.string ⟨(digF m).toArray⟩, .string ⟨(numF xs).toArray⟩, .string ⟨(numF ys).toArray⟩, .string ⟨(stepsT ss).toArray⟩])
  clear KS hS4 hS5
  have hcells : ∀ (j : Nat) x, ([⟨(digF m).toArray⟩, ⟨(numF xs).toArray⟩, ⟨(numF ys).toArray⟩, ⟨(stepsT ss).toArray⟩] : List ByteArray)[j]? = some x → (w8.alloc (.cells #[.string ⟨(digF m).toArray⟩, .string ⟨(numF xs).toArray⟩, .string ⟨(numF ys).toArray⟩, .string ⟨(stepsT ss).toArray⟩] 9)).cell? ⟨w8.heap.size, 0 + j, none⟩ = some (.string x) := by
    intro j x hj
    rw [Nat.zero_add, HC.out.cell j]
    match j, hj with
    | 0, hj => simp at hj; subst hj; rfl
    | 1, hj => simp at hj; subst hj; rfl
    | 2, hj => simp at hj; subst hj; rfl
    | 3, hj => simp at hj; subst hj; rfl
  have hJ := Tryd.strings_Join w8.heap.size 0 4 [⟨(digF m).toArray⟩, ⟨(numF xs).toArray⟩, ⟨(numF ys).toArray⟩, ⟨(stepsT ss).toArray⟩] ⟨#[59]⟩ _ hcells (by simp) (by simp) (Nat.le_refl _) (by
    have h1 := join_len1 [digF m, numF xs, numF ys, stepsT ss] 6291456 59 (fun x hx => by
      have := L1.out; have := L2.out; have := L3.out; have := L4.out
      rcases List.mem_cons.1 hx with rfl | hx
      · omega
      rcases List.mem_cons.1 hx with rfl | hx
      · omega
      rcases List.mem_cons.1 hx with rfl | hx
      · omega
      rcases List.mem_cons.1 hx with rfl | hx
      · omega
      cases hx)
    have h2 : (Lib.join [digF m, numF xs, numF ys, stepsT ss] [59]).length ≤ 25165828 := by simpa using h1
    show (Lib.join [digF m, numF xs, numF ys, stepsT ss] [59]).length ≤ _
    omega)
  have HJ := Lib.hid hJ
  clear hJ hcells
  go_wp2_with fail
  refine HJ.out.mono ?_
  rintro e w9 ⟨rfl, hb9⟩
  go_wp2_with fail
  go_ret
  exact FmtEnd.mk_ HF.out (below_on (below_al HB8.out (Nat.le_refl _) _) hb9)
end Go.Proofs.YtidahhfpnhmkgaaDoor
