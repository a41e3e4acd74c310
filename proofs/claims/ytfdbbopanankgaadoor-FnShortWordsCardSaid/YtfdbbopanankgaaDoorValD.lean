/- What makes steps and lists of states valid: the plain functions, and the program's and the model's. Conditions: as each says. What makes one step valid, the program's and the model's. No condition. What makes one step valid, as the model has it, and which of two valid steps comes first. Conditions: one to four states; the letters are a or b. What makes a list of states valid, the program's and the model's. Condition: one to four states. -/
import Derived.Test.YtfdbbopanankgaaDoorEqA
import Derived.Deep.RegionHeld3
import Derived.Deep.DeepCutAuto
namespace Go.Proofs.YtfdbbopanankgaaDoor
open Go.RowKit
set_option maxHeartbeats 1000000
set_option maxRecDepth 100000
set_option linter.unusedVariables false

theorem three_ints (w : World) (a b c : Int) (t : TypeId) : Ints (w.alloc (.cells #[.int .i64 a, .int .i64 b, .int .i64 c] t)) (w.heap.size + 1) (some ⟨w.heap.size, 0, none⟩) [a, b, c] :=
  ⟨by simp [maxLen], fun _ => ⟨w.heap.size, 0, rfl, by omega, fun k hk => by
    have hk3 : k = 0 ∨ k = 1 ∨ k = 2 := by simp at hk; omega
    rw [Nat.zero_add, (Blk.new w t _).cell k]
    rcases hk3 with rfl | rfl | rfl <;> rfl⟩⟩
/-- The order of two steps as the program tells it. -/
def cmpS (s t : StepD) : Int := orF [cmpI s.fr t.fr, Lib.compareBytes s.le.data.toList t.le.data.toList, cmpI s.to_ t.to_]
theorem compareSteps_any (s t : StepD) (w : World) :
    Calls Tryd.prog 60 #[stepV s, stepV t] w fun e w' => e = .returned (.int .i64 (cmpS s t)) ∧ Hid (Below w.heap.size w w') := by
  unfold stepV
  go_enter Tryd.func60, Tryd.ntmps60
  go_wp2_with fail
  obtain ⟨W, hW⟩ : ∃ W, W = (w.alloc (.cells #[.int .i64 s.fr, .string s.le, .int .i64 s.to_, .int .i64 s.co] 75)).alloc (.cells #[.int .i64 t.fr, .string t.le, .int .i64 t.to_, .int .i64 t.co] 75) := ⟨_, rfl⟩
  have HA : Hid (Blk W w.heap.size 75 #[.int .i64 s.fr, .string s.le, .int .i64 s.to_, .int .i64 s.co]) := by rw [hW]; exact (Blk.new _ _ _).alloc _
  have HB : Hid (Blk W (w.heap.size + 1) 75 #[.int .i64 t.fr, .string t.le, .int .i64 t.to_, .int .i64 t.co]) := by rw [hW]; exact blk_new (by simp)
  have HBW : Hid (Below w.heap.size w W) := by rw [hW]; exact below_a2 _ _ _
  rw [← hW]
  clear hW
  have KS : ∀ w', Blk w' w.heap.size 75 #[.int .i64 s.fr, .string s.le, .int .i64 s.to_, .int .i64 s.co] → Blk w' (w.heap.size + 1) 75 #[.int .i64 t.fr, .string t.le, .int .i64 t.to_, .int .i64 t.co] → (w'.cell? ⟨w.heap.size, 0, none⟩ = some (.int .i64 s.fr) ∧ w'.cell? ⟨w.heap.size, 1, none⟩ = some (.string s.le) ∧ w'.cell? ⟨w.heap.size, 2, none⟩ = some (.int .i64 s.to_) ∧ w'.cell? ⟨w.heap.size + 1, 0, none⟩ = some (.int .i64 t.fr) ∧ w'.cell? ⟨w.heap.size + 1, 1, none⟩ = some (.string t.le) ∧ w'.cell? ⟨w.heap.size + 1, 2, none⟩ = some (.int .i64 t.to_)) := fun w' h1 h2 => ⟨h1.cell 0, h1.cell 1, h1.cell 2, h2.cell 0, h2.cell 1, h2.cell 2⟩
  have hS0 := KS W.drew HA.out HB.out
  have KD : Hid (∀ o, (((W.alloc o).drew).cell? ⟨w.heap.size, 0, none⟩ = some (.int .i64 s.fr) ∧ ((W.alloc o).drew).cell? ⟨w.heap.size, 1, none⟩ = some (.string s.le) ∧ ((W.alloc o).drew).cell? ⟨w.heap.size, 2, none⟩ = some (.int .i64 s.to_) ∧ ((W.alloc o).drew).cell? ⟨w.heap.size + 1, 0, none⟩ = some (.int .i64 t.fr) ∧ ((W.alloc o).drew).cell? ⟨w.heap.size + 1, 1, none⟩ = some (.string t.le) ∧ ((W.alloc o).drew).cell? ⟨w.heap.size + 1, 2, none⟩ = some (.int .i64 t.to_))) := fun o => KS _ (HA.out.alloc o) (HB.out.alloc o)
  have HI : Hid (Ints ((W.alloc (.cells #[.int .i64 (cmpI s.fr t.fr), .int .i64 (Lib.compareBytes s.le.data.toList t.le.data.toList), .int .i64 (cmpI s.to_ t.to_)] 3)).drew) (W.heap.size + 1) (some ⟨W.heap.size, 0, none⟩) [cmpI s.fr t.fr, Lib.compareBytes s.le.data.toList t.le.data.toList, cmpI s.to_ t.to_]) := three_ints W _ _ _ _
  clear KS
  go_region_held3 (fun w' => w'.cell? ⟨w.heap.size, 0, none⟩ = some (.int .i64 s.fr) ∧ w'.cell? ⟨w.heap.size, 1, none⟩ = some (.string s.le) ∧ w'.cell? ⟨w.heap.size, 2, none⟩ = some (.int .i64 s.to_) ∧ w'.cell? ⟨w.heap.size + 1, 0, none⟩ = some (.int .i64 t.fr) ∧ w'.cell? ⟨w.heap.size + 1, 1, none⟩ = some (.string t.le) ∧ w'.cell? ⟨w.heap.size + 1, 2, none⟩ = some (.int .i64 t.to_)) (first | with_reducible assumption | with_reducible exact KD.out _ | skip)
    (first
      | (go_at_call_of 76 (Value.int .i64 s.fr); refine (cmpI_any s.fr t.fr _).mono ?_; rintro e w1 ⟨rfl, rfl⟩)
      | (go_at_call_of 76 (Value.int .i64 s.to_); refine (cmpI_any s.to_ t.to_ _).mono ?_; rintro e w2 ⟨rfl, rfl⟩)
      | (go_at_call 77; refine (compare_any s.le t.le _).mono ?_; rintro e w3 ⟨rfl, rfl⟩)
      | (go_at_call 75; refine (or_any _ 3 _ _ _ HI.out).mono ?_; rintro e w4 ⟨rfl, rfl⟩))
  all_goals
    go_wp2_with fail
    go_ret
    exact ⟨rfl, (below_al HBW.out (Nat.le_refl _) _).drew⟩
end Go.Proofs.YtfdbbopanankgaaDoor
namespace Go.Proofs.YtfdbbopanankgaaDoor
open Go.RowKit
set_option maxHeartbeats 1000000
set_option maxRecDepth 100000
set_option linter.unusedVariables false

def letOk (le : ByteArray) : Bool := (le.toList == [97]) || (le.toList == [98])
def stepOk (n : Int) (s : StepD) : Bool := decide (0 ≤ s.fr ∧ s.fr < n) && (decide (0 ≤ s.to_ ∧ s.to_ < n) && (letOk s.le && decide (0 ≤ s.co ∧ s.co ≤ 3)))
theorem letterValid_is (le : ByteArray) (r : Bool) (w : World) (hr : letOk le = r) :
    Calls Tryd.prog 74 #[.string le] w fun e w' => e = .returned (.bool r) ∧ w = w' := by
  unfold letOk at hr
  rcases Bool.eq_false_or_eq_true (le.toList == [97]) with h1 | h1
  · have e : r = true := by rw [← hr, h1]; rfl
    subst e
    clear hr
    go_enter Tryd.func74, Tryd.ntmps74
    go_wp2_with fail
    go_ret
    exact ⟨rfl, rfl⟩
  · rcases Bool.eq_false_or_eq_true (le.toList == [98]) with h2 | h2
    · have e : r = true := by rw [← hr, h1, h2]; rfl
      subst e
      clear hr
      go_enter Tryd.func74, Tryd.ntmps74
      go_wp2_with fail
      go_ret
      exact ⟨rfl, rfl⟩
    · have e : r = false := by rw [← hr, h1, h2]; rfl
      subst e
      clear hr
      go_enter Tryd.func74, Tryd.ntmps74
      go_wp2_with fail
      go_ret
      exact ⟨rfl, rfl⟩

theorem stepValid_is (s : StepD) (n : Int) (r : Bool) (w : World) (hr : stepOk n s = r) :
    Calls Tryd.prog 59 #[stepV s, .int .i64 n] w fun e w' => e = .returned (.bool r) ∧ Hid (Below w.heap.size w w') := by
  unfold stepOk at hr
  obtain ⟨bf, hbf⟩ : ∃ b, decide (0 ≤ s.fr ∧ s.fr < n) = b := ⟨_, rfl⟩
  obtain ⟨bt, hbt⟩ : ∃ b, decide (0 ≤ s.to_ ∧ s.to_ < n) = b := ⟨_, rfl⟩
  obtain ⟨bl, hbl⟩ : ∃ b, letOk s.le = b := ⟨_, rfl⟩
  rw [hbf, hbt, hbl] at hr
  have HR := Lib.hid hr
  have HF := Lib.hid hbf
  have HT := Lib.hid hbt
  have HL := Lib.hid hbl
  have HK := Lib.hid (Blk.new w 75 #[.int .i64 s.fr, .string s.le, .int .i64 s.to_, .int .i64 s.co])
  have HB := Lib.hid (below_a1 w (.cells #[.int .i64 s.fr, .string s.le, .int .i64 s.to_, .int .i64 s.co] 75))
  clear hr hbf hbt hbl
  unfold stepV
  go_enter Tryd.func59, Tryd.ntmps59
  go_upto_region 1 with fail
  go_cut [5, 6] (fun x y wx => x = .bool bf ∧ y = .bool bt ∧ Hid (Blk wx w.heap.size 75 #[.int .i64 s.fr, .string s.le, .int .i64 s.to_, .int .i64 s.co]) ∧ Hid (Below w.heap.size w wx))
  case first =>
    have dec2 : ∀ p : Prop, [Decidable p] → (p ∧ decide p = true) ∨ (¬ p ∧ decide p = false) := fun p _ => by by_cases h : p; exact Or.inl ⟨h, decide_eq_true h⟩; exact Or.inr ⟨h, decide_eq_false h⟩
    rcases dec2 (0 ≤ s.fr) with ⟨f0, f0'⟩ | ⟨f0, f0'⟩
    all_goals rcases dec2 (s.fr < n) with ⟨f1, f1'⟩ | ⟨f1, f1'⟩
    all_goals rcases dec2 (0 ≤ s.to_) with ⟨t0, t0'⟩ | ⟨t0, t0'⟩
    all_goals rcases dec2 (s.to_ < n) with ⟨t1, t1'⟩ | ⟨t1, t1'⟩
    all_goals
      clear dec2
      have ef := HF.out
      have et := HT.out
      simp only [f0, f1, t0, t1, and_true, and_false, and_self, decide_true, decide_false] at ef et
      subst ef
      subst et
      go_wp2_with fail
      go_quiet (fail)
      go_wp2_with fail
      go_meet
      exact ⟨by first | rfl | rw [f1'] | rw [f0'], by first | rfl | rw [t1'] | rw [t0'], HK.out, by first | exact HB.out | exact HB.out.drew | exact below_dN HB.out _⟩
  case rest =>
    obtain ⟨rfl, rfl, K2, B2⟩ := hcut
    clear HK HB
    obtain ⟨k0, k1, k2, k3⟩ := four_cells K2.out
    rcases Bool.eq_false_or_eq_true bf with h | h
    all_goals subst h
    all_goals rcases Bool.eq_false_or_eq_true bt with h | h
    all_goals subst h
    rotate_left
    all_goals first
      | (have e : r = false := by rw [← HR.out]; simp
         subst e
         go_wp2_with fail
         go_ret
         exact ⟨rfl, B2.out⟩)
      | skip
    go_wp2_with fail
    refine (letterValid_is _ bl _ HL.out).mono ?_
    rintro e w' ⟨rfl, rfl⟩
    rcases Bool.eq_false_or_eq_true bl with h | h
    · subst h
      by_cases c0 : 0 ≤ s.co
      · by_cases c1 : s.co ≤ 3
        · have e : r = true := by rw [← HR.out]; simp [c0, c1]
          subst e
          go_wp2_with fail
          go_ret
          exact ⟨rfl, B2.out⟩
        · have e : r = false := by rw [← HR.out]; simp [c1]
          subst e
          go_wp2_with fail
          go_ret
          exact ⟨ret_bool (decide_eq_false (by omega)), B2.out⟩
      · have e : r = false := by rw [← HR.out]; simp [c0]
        subst e
        go_wp2_with fail
        go_ret
        exact ⟨rfl, B2.out⟩
    · subst h
      have e : r = false := by rw [← HR.out]; simp
      subst e
      go_wp2_with fail
      go_ret
      exact ⟨rfl, B2.out⟩
end Go.Proofs.YtfdbbopanankgaaDoor
namespace Go.Proofs.YtfdbbopanankgaaDoor
open Go.RowKit
set_option maxHeartbeats 1000000
set_option maxRecDepth 100000
set_option linter.unusedVariables false

theorem l1In_is (a lo hi : Int) (r : Bool) (w : World) (hr : decide (lo ≤ a ∧ a ≤ hi) = r) :
    Calls Tryd.prog 19 #[.int .i64 a, .int .i64 lo, .int .i64 hi] w fun e w' => e = .returned (.bool r) ∧ w = w' := by
  rw [← hr]; exact l1In_any a lo hi w
theorem below_dec (x n : Int) : decide (0 ≤ x ∧ x ≤ n - 1) = decide (0 ≤ x ∧ x < n) := by
  apply decide_eq_decide.2
  omega
theorem l3Step_is (s : StepD) (n : Int) (r : Bool) (w : World) (n1 : 1 ≤ n) (n2 : n ≤ 4) (hr : stepOk n s = r) :
    Calls Tryd.prog 34 #[.int .i64 n, stepV s] w fun e w' => e = .returned (.bool r) ∧ Hid (Below w.heap.size w w') := by
  unfold stepOk at hr
  obtain ⟨bf, hbf⟩ : ∃ b, decide (0 ≤ s.fr ∧ s.fr < n) = b := ⟨_, rfl⟩
  obtain ⟨bt, hbt⟩ : ∃ b, decide (0 ≤ s.to_ ∧ s.to_ < n) = b := ⟨_, rfl⟩
  obtain ⟨bl, hbl⟩ : ∃ b, letOk s.le = b := ⟨_, rfl⟩
  obtain ⟨bc, hbc⟩ : ∃ b, decide (0 ≤ s.co ∧ s.co ≤ 3) = b := ⟨_, rfl⟩
  rw [hbf, hbt, hbl, hbc] at hr
  have HR := Lib.hid hr
  have HF := Lib.hid ((below_dec s.fr n).trans hbf)
  have HT := Lib.hid ((below_dec s.to_ n).trans hbt)
  have HC := Lib.hid hbc
  unfold letOk at hbl
  obtain ⟨b7, h7⟩ : ∃ b, (s.le.toList == [97]) = b := ⟨_, rfl⟩
  obtain ⟨b8, h8⟩ : ∃ b, (s.le.toList == [98]) = b := ⟨_, rfl⟩
  rw [h7, h8] at hbl
  have HL := Lib.hid hbl
  have HB := Lib.hid (below_a1 w (.cells #[.int .i64 s.fr, .string s.le, .int .i64 s.to_, .int .i64 s.co] 75))
  clear hr hbf hbt hbl hbc
  unfold stepV
  go_enter Tryd.func34, Tryd.ntmps34
  go_wp2_with fail
  refine (l1In_is _ _ _ bf _ HF.out).mono ?_
  rintro e w' ⟨rfl, rfl⟩
  rcases Bool.eq_false_or_eq_true bf with h | h
  all_goals subst h
  rotate_left
  · have e : r = false := by rw [← HR.out]; simp
    subst e
    go_wp2_with fail
    go_ret
    exact ⟨rfl, HB.out⟩
  go_wp2_with fail
  refine (l1In_is _ _ _ bt _ HT.out).mono ?_
  rintro e w' ⟨rfl, rfl⟩
  rcases Bool.eq_false_or_eq_true bt with h | h
  all_goals subst h
  rotate_left
  · have e : r = false := by rw [← HR.out]; simp
    subst e
    go_wp2_with fail
    go_ret
    exact ⟨rfl, HB.out⟩
  go_wp2_with fail
  refine (l1In_is _ _ _ bc _ HC.out).mono ?_
  rintro e w' ⟨rfl, rfl⟩
  rcases Bool.eq_false_or_eq_true bc with h | h
  all_goals subst h
  rotate_left
  · have e : r = false := by rw [← HR.out]; simp
    subst e
    go_wp2_with fail
    go_ret
    exact ⟨rfl, HB.out⟩
  rcases Bool.eq_false_or_eq_true b7 with h | h
  · subst h
    have e : r = true := by rw [← HR.out, ← HL.out]; simp
    subst e
    go_wp2_with fail
    go_ret
    exact ⟨rfl, HB.out⟩
  · subst h
    rcases Bool.eq_false_or_eq_true b8 with h | h
    · subst h
      have e : r = true := by rw [← HR.out, ← HL.out]; simp
      subst e
      go_wp2_with fail
      go_ret
      exact ⟨rfl, HB.out⟩
    · subst h
      have e : r = false := by rw [← HR.out, ← HL.out]; simp
      subst e
      go_wp2_with fail
      go_ret
      exact ⟨rfl, HB.out⟩

/-- A letter. -/
def IsL (le : ByteArray) : Prop := le = ⟨#[97]⟩ ∨ le = ⟨#[98]⟩
theorem isL_of {le : ByteArray} (h : letOk le = true) : IsL le := by
  unfold letOk at h
  rw [ByteArray.toList_eq] at h
  rw [Bool.or_eq_true] at h
  rcases h with h | h
  · left; apply Go.WideShapes.bytes_inj; exact eq_of_beq h
  · right; apply Go.WideShapes.bytes_inj; exact eq_of_beq h
/-- Which of two steps comes first. -/
def befS (s t : StepD) : Bool := decide (cmpS s t < 0)
theorem l3Before_is (s t : StepD) (r : Bool) (w : World) (hs : IsL s.le) (ht : IsL t.le) (hr : befS s t = r) :
    Calls Tryd.prog 35 #[stepV s, stepV t] w fun e w' => e = .returned (.bool r) ∧ Hid (Below w.heap.size w w') := by
  obtain ⟨sf, sl, st, sc⟩ := s
  obtain ⟨tf, tl, tt, tc⟩ := t
  simp only at hs ht
  unfold stepV
  have hcmp : ∀ x y : Int, (x < y ∧ cmpI x y = -1) ∨ (¬ x < y ∧ y < x ∧ cmpI x y = 1) ∨ (x = y ∧ cmpI x y = 0) := fun x y => by
    unfold cmpI
    by_cases h1 : x < y
    · exact Or.inl ⟨h1, by rw [if_pos h1]⟩
    · by_cases h2 : y < x
      · exact Or.inr (Or.inl ⟨h1, h2, by rw [if_neg h1, if_pos h2]⟩)
      · exact Or.inr (Or.inr ⟨by omega, by rw [if_neg h1, if_neg h2]⟩)
  unfold befS cmpS at hr
  simp only at hr
  rcases hcmp sf tf with ⟨h1, h2⟩ | ⟨h1, h1', h2⟩ | ⟨h1, h2⟩
  · have hb : (sf != tf) = true := by rw [bne_iff_ne]; omega
    rw [h2] at hr
    have e : r = true := by rw [← hr]; simp [orF]
    subst e
    clear hr h2 hcmp hs ht
    go_enter Tryd.func35, Tryd.ntmps35
    go_wp2_with fail
    go_ret
    exact ⟨rfl, below_a2 _ _ _⟩
  · have hb : (sf != tf) = true := by rw [bne_iff_ne]; omega
    rw [h2] at hr
    have e : r = false := by rw [← hr]; simp [orF]
    subst e
    clear hr h2 hcmp hs ht
    go_enter Tryd.func35, Tryd.ntmps35
    go_wp2_with fail
    go_ret
    exact ⟨by first | rfl | exact ret_bool (decide_eq_false (by omega)), below_a2 _ _ _⟩
  · subst h1
    rw [h2] at hr
    have hcc : (Lib.compareBytes [97] [98] = -1) ∧ (Lib.compareBytes [98] [97] = 1) ∧ (Lib.compareBytes [97] [97] = 0) ∧ (Lib.compareBytes [98] [98] = 0) := by decide
    obtain ⟨hab, hba, haa, hbb⟩ := hcc
    rcases hs with rfl | rfl
    all_goals rcases ht with rfl | rfl
    all_goals simp only at hr
    · rw [haa] at hr
      rcases hcmp st tt with ⟨g1, g2⟩ | ⟨g1, g1', g2⟩ | ⟨g1, g2⟩
      all_goals
        rw [g2] at hr
        simp [orF] at hr
        subst hr
        clear g2 hcmp hab hba haa hbb h2
        go_enter Tryd.func35, Tryd.ntmps35
        go_wp2_with fail
        go_ret
        exact ⟨by first | rfl | exact ret_bool (decide_eq_true (by omega)) | exact ret_bool (decide_eq_false (by omega)), below_a2 _ _ _⟩
    · rw [hab] at hr
      simp [orF] at hr
      subst hr
      clear hcmp hab hba haa hbb h2
      go_enter Tryd.func35, Tryd.ntmps35
      go_wp2_with fail
      go_ret
      exact ⟨rfl, below_a2 _ _ _⟩
    · rw [hba] at hr
      simp [orF] at hr
      subst hr
      clear hcmp hab hba haa hbb h2
      go_enter Tryd.func35, Tryd.ntmps35
      go_wp2_with fail
      go_ret
      exact ⟨rfl, below_a2 _ _ _⟩
    · rw [hbb] at hr
      rcases hcmp st tt with ⟨g1, g2⟩ | ⟨g1, g1', g2⟩ | ⟨g1, g2⟩
      all_goals
        rw [g2] at hr
        simp [orF] at hr
        subst hr
        clear g2 hcmp hab hba haa hbb h2
        go_enter Tryd.func35, Tryd.ntmps35
        go_wp2_with fail
        go_ret
        exact ⟨by first | rfl | exact ret_bool (decide_eq_true (by omega)) | exact ret_bool (decide_eq_false (by omega)), below_a2 _ _ _⟩
end Go.Proofs.YtfdbbopanankgaaDoor
namespace Go.Proofs.YtfdbbopanankgaaDoor
open Go.RowKit
set_option maxHeartbeats 1000000
set_option maxRecDepth 100000
set_option linter.unusedVariables false

def marksF (n last : Int) : List Int → Bool
  | [] => true
  | p :: ps => decide (last < p) && (decide (p < n) && marksF n p ps)
theorem marks_go {n last p : Int} (ps : List Int) (h1 : last < p) (h2 : p < n) : marksF n last (p :: ps) = marksF n p ps := by simp [marksF, h1, h2]
theorem marks_lo {n last p : Int} (ps : List Int) (h1 : ¬ last < p) : marksF n last (p :: ps) = false := by simp [marksF, h1]
theorem marks_hi {n last p : Int} (ps : List Int) (h1 : ¬ p < n) : marksF n last (p :: ps) = false := by simp [marksF, h1]
theorem listValid_is (A : Option Addr) (cap B : Nat) (zs : List Int) (n : Int) (r : Bool) (w : World) (hz : Ints w B A zs) (hr : marksF n (-1) zs = r) :
    Calls Tryd.prog 58 #[.slice A zs.length cap, .int .i64 n] w fun e w' => e = .returned (.bool r) ∧ w = w' := by
  have hl := hz.len
  have HR := Lib.hid hr
  clear hr
  go_enter Tryd.func58, Tryd.ntmps58
  go_wp2_with fail
  go_loop [5, 10] (fun l i => ∃ (k : Nat) (last : Int), k ≤ zs.length ∧ i = .int .i64 k ∧ l = .int .i64 last ∧ Hid (r = marksF n last (zs.drop k))) (fun _ i => zs.length - (intOf i).toNat)
  case atStart => exact ⟨0, -1, Nat.zero_le _, rfl, rfl, HR.out.symm⟩
  case round =>
    obtain ⟨k, last, hk, rfl, rfl, hm⟩ := hrel
    by_cases hlt : k < zs.length
    · obtain ⟨b, off, z, rfl, _, hc, hd, _⟩ := hz.at_ hlt
      have HD := Lib.hid hd
      clear hd
      by_cases h1 : last < z
      · have h1' : ¬ z ≤ last := by omega
        by_cases h2 : z < n
        · have h2' : ¬ n ≤ z := by omega
          have HM : Hid (r = marksF n z (zs.drop (k + 1))) := by show _ = _; rw [hm.out, HD.out, marks_go _ h1 h2]
          go_wp2_with fail
          go_round
          case rel => exact ⟨k + 1, z, by omega, by go_num, rfl, HM⟩
          case measure => simp [intOf]; omega
        · have h2' : n ≤ z := by omega
          have HM : Hid (r = false) := by show _ = _; rw [hm.out, HD.out, marks_hi _ h2]
          go_wp2_with fail
          go_ret
          exact ⟨ret_bool HM.out.symm, rfl⟩
      · have h1' : z ≤ last := by omega
        have HM : Hid (r = false) := by show _ = _; rw [hm.out, HD.out, marks_lo _ h1]
        go_wp2_with fail
        go_ret
        exact ⟨ret_bool HM.out.symm, rfl⟩
    · have HM : Hid (r = true) := by show _ = _; rw [hm.out, List.drop_of_length_le (by omega)]; rfl
      go_wp2_with fail
      go_ret
      exact ⟨ret_bool HM.out.symm, rfl⟩

theorem l3Marks_is (A : Option Addr) (cap B : Nat) (zs : List Int) (n : Int) (r : Bool) (w : World) (n1 : 1 ≤ n) (n2 : n ≤ 4) (hz : Ints w B A zs) (hr : marksF n (-1) zs = r) :
    Calls Tryd.prog 33 #[.int .i64 n, .slice A zs.length cap] w fun e w' => e = .returned (.bool r) ∧ w = w' := by
  have hl := hz.len
  have HR := Lib.hid hr
  clear hr
  go_enter Tryd.func33, Tryd.ntmps33
  go_wp2_with fail
  go_loop [9] (fun i => ∃ (k : Nat) (last : Int), k ≤ zs.length ∧ i = .int .i64 k ∧ -1 ≤ last ∧ Hid (k = 0 → last = -1) ∧ Hid (∀ j, k = j + 1 → 0 ≤ last ∧ zs.getD j 0 = last) ∧ Hid (r = marksF n last (zs.drop k))) (fun i => zs.length - (intOf i).toNat)
  case atStart => exact ⟨0, -1, Nat.zero_le _, rfl, by omega, fun _ => rfl, fun j hj => absurd hj (by omega), HR.out.symm⟩
  case round =>
    obtain ⟨k, last, hk, rfl, hl1, hz0, hzj, hm⟩ := hrel
    by_cases hlt : k < zs.length
    · obtain ⟨b, off, z, rfl, _, hc, hd, hg⟩ := hz.at_ hlt
      have HD := Lib.hid hd
      have HG := Lib.hid hg
      clear hd hg
      by_cases h2 : 0 ≤ z ∧ z < n
      · obtain ⟨h20, h21⟩ := h2
        have hin : decide ((0 : Int) ≤ z ∧ z ≤ n - 1) = true := decide_eq_true ⟨h20, by omega⟩
        have HIN := Lib.hid hin
        clear hin
        rcases Nat.eq_zero_or_pos k with hk0 | hk0
        · have hk0' : ¬ (0 : Int) < (k : Int) := by omega
          have HM : Hid (r = marksF n z (zs.drop (k + 1))) := by show _ = _; rw [hm.out, HD.out, marks_go _ (by rw [hz0.out hk0]; omega) h21]
          have HJ : Hid (∀ j, k + 1 = j + 1 → 0 ≤ z ∧ zs.getD j 0 = z) := fun j hj => by
            have e : j = k := by omega
            subst e; exact ⟨h20, HG.out⟩
          clear hk0
          go_wp2_with fail
          refine (l1In_is _ _ _ true _ HIN.out).mono ?_
          rintro e w' ⟨rfl, rfl⟩
          go_wp2_with fail
          go_round
          case rel => exact ⟨k + 1, z, by omega, by go_num, by omega, fun h => absurd h (by omega), HJ, HM⟩
          case measure => simp [intOf]; omega
        · obtain ⟨j, rfl⟩ : ∃ j, k = j + 1 := ⟨k - 1, by omega⟩
          obtain ⟨b', off', z', hbe, _, hc', _, hg'⟩ := hz.at_ (k := j) (by omega)
          cases hbe
          obtain ⟨hl0, hje⟩ := hzj.out j rfl
          have ez : z' = last := hg'.symm.trans hje
          subst ez
          have hk0' : (0 : Int) < ((j + 1 : Nat) : Int) := by omega
          have hj1 : ((j + 1 : Nat) : Int) - 1 = (j : Int) := by omega
          have hj2 : (0 : Int) ≤ (j : Int) := by omega
          have hj3 : (j : Int) < (zs.length : Int) := by omega
          clear hg' hje hzj hz0
          by_cases h1 : z' < z
          · have h1' : ¬ z ≤ z' := by omega
            have HM : Hid (r = marksF n z (zs.drop (j + 1 + 1))) := by show _ = _; rw [hm.out, HD.out, marks_go _ h1 h21]
            have HJ : Hid (∀ i, j + 1 + 1 = i + 1 → 0 ≤ z ∧ zs.getD i 0 = z) := fun i hi => by
              have e : i = j + 1 := by omega
              subst e; exact ⟨h20, HG.out⟩
            go_wp2_with fail
            refine (l1In_is _ _ _ true _ HIN.out).mono ?_
            rintro e w' ⟨rfl, rfl⟩
            go_wp2_with fail
            go_round
            case rel => exact ⟨j + 1 + 1, z, by omega, by go_num, by omega, fun h => absurd h (by omega), HJ, HM⟩
            case measure => simp [intOf]; omega
          · have h1' : z ≤ z' := by omega
            have HM : Hid (r = false) := by show _ = _; rw [hm.out, HD.out, marks_lo _ h1]
            go_wp2_with fail
            refine (l1In_is _ _ _ true _ HIN.out).mono ?_
            rintro e w' ⟨rfl, rfl⟩
            go_wp2_with fail
            go_ret
            exact ⟨ret_bool HM.out.symm, rfl⟩
      · have hin : decide ((0 : Int) ≤ z ∧ z ≤ n - 1) = false := decide_eq_false (fun h => h2 ⟨h.1, by omega⟩)
        have HIN := Lib.hid hin
        have HM : Hid (r = false) := by
          show _ = _
          rw [hm.out, HD.out]
          by_cases h21 : z < n
          · exact marks_lo _ (by omega)
          · exact marks_hi _ h21
        clear hin h2 hzj hz0
        go_wp2_with fail
        refine (l1In_is _ _ _ false _ HIN.out).mono ?_
        rintro e w' ⟨rfl, rfl⟩
        go_wp2_with fail
        go_ret
        exact ⟨ret_bool HM.out.symm, rfl⟩
    · have HM : Hid (r = true) := by show _ = _; rw [hm.out, List.drop_of_length_le (by omega)]; rfl
      go_wp2_with fail
      go_ret
      exact ⟨ret_bool HM.out.symm, rfl⟩
end Go.Proofs.YtfdbbopanankgaaDoor
