/- What makes one step valid, as the model has it, and which of two valid steps comes first. Conditions: one to four states; the letters are a or b. -/
import Derived.Test.YthgkhpbfbilgmaaDoorValB
namespace Go.Proofs.YthgkhpbfbilgmaaDoor
open Go.RowKit
set_option maxHeartbeats 1000000
set_option maxRecDepth 100000
set_option linter.unusedVariables false

theorem l1In_is (a lo hi : Int) (r : Bool) (w : World) (hr : decide (lo ≤ a ∧ a ≤ hi) = r) :
    Calls Tryd.prog 84 #[.int .i64 a, .int .i64 lo, .int .i64 hi] w fun e w' => e = .returned (.bool r) ∧ w = w' := by
  rw [← hr]; exact l1In_any a lo hi w
theorem below_dec (x n : Int) : decide (0 ≤ x ∧ x ≤ n - 1) = decide (0 ≤ x ∧ x < n) := by
  apply decide_eq_decide.2
  omega
theorem l3Step_is (s : StepD) (n : Int) (r : Bool) (w : World) (n1 : 1 ≤ n) (n2 : n ≤ 4) (hr : stepOk n s = r) :
    Calls Tryd.prog 86 #[.int .i64 n, stepV s] w fun e w' => e = .returned (.bool r) ∧ Hid (Below w.heap.size w w') := by
  unfold stepOk at hr
  obtain ⟨bf, hbf⟩ : ∃ b, decide (0 ≤ s.fr ∧ s.fr < n) = b := ⟨_, rfl⟩
  obtain ⟨bt, hbt⟩ : ∃ b, decide (0 ≤ s.to_ ∧ s.to_ < n) = b := ⟨_, rfl⟩
  obtain ⟨bl, hbl⟩ : ∃ b, letOk s.le = b := ⟨_, rfl⟩
  obtain ⟨bc, hbc⟩ : ∃ b, decide (0 ≤ s.co ∧ s.co ≤ 3) = b := ⟨_, rfl⟩
  rw [hbf, hbt, hbl, hbc] at hr
  have HR := Lib.hid hr
  have HF := Lib.hid ((below_dec s.fr n).trans hbf)
  have HT := Lib.hid ((below_dec s.to_ n).trans hbt)
  have HC := Lib.hid hbc
  unfold letOk at hbl
  obtain ⟨b7, h7⟩ : ∃ b, (s.le.toList == [97]) = b := ⟨_, rfl⟩
  obtain ⟨b8, h8⟩ : ∃ b, (s.le.toList == [98]) = b := ⟨_, rfl⟩
  rw [h7, h8] at hbl
  have HL := Lib.hid hbl
  have HB := Lib.hid (below_a1 w (.cells #[.int .i64 s.fr, .string s.le, .int .i64 s.to_, .int .i64 s.co] 81))
  clear hr hbf hbt hbl hbc
  unfold stepV
  go_enter Tryd.func86, Tryd.ntmps86
  go_wp2_with fail
  refine (l1In_is _ _ _ bf _ HF.out).mono ?_
  rintro e w' ⟨rfl, rfl⟩
  rcases Bool.eq_false_or_eq_true bf with h | h
  all_goals subst h
  rotate_left
  · have e : r = false := by rw [← HR.out]; simp
    subst e
    go_wp2_with fail
    go_ret
    exact ⟨rfl, HB.out⟩
  go_wp2_with fail
  refine (l1In_is _ _ _ bt _ HT.out).mono ?_
  rintro e w' ⟨rfl, rfl⟩
  rcases Bool.eq_false_or_eq_true bt with h | h
  all_goals subst h
  rotate_left
  · have e : r = false := by rw [← HR.out]; simp
    subst e
    go_wp2_with fail
    go_ret
    exact ⟨rfl, HB.out⟩
  go_wp2_with fail
  refine (l1In_is _ _ _ bc _ HC.out).mono ?_
  rintro e w' ⟨rfl, rfl⟩
  rcases Bool.eq_false_or_eq_true bc with h | h
  all_goals subst h
  rotate_left
  · have e : r = false := by rw [← HR.out]; simp
    subst e
    go_wp2_with fail
    go_ret
    exact ⟨rfl, HB.out⟩
  rcases Bool.eq_false_or_eq_true b7 with h | h
  · subst h
    have e : r = true := by rw [← HR.out, ← HL.out]; simp
    subst e
    go_wp2_with fail
    go_ret
    exact ⟨rfl, HB.out⟩
  · subst h
    rcases Bool.eq_false_or_eq_true b8 with h | h
    · subst h
      have e : r = true := by rw [← HR.out, ← HL.out]; simp
      subst e
      go_wp2_with fail
      go_ret
      exact ⟨rfl, HB.out⟩
    · subst h
      have e : r = false := by rw [← HR.out, ← HL.out]; simp
      subst e
      go_wp2_with fail
      go_ret
      exact ⟨rfl, HB.out⟩

/-- A letter. -/
def IsL (le : ByteArray) : Prop := le = ⟨#[97]⟩ ∨ le = ⟨#[98]⟩
theorem isL_of {le : ByteArray} (h : letOk le = true) : IsL le := by
  unfold letOk at h
  rw [ByteArray.toList_eq] at h
  rw [Bool.or_eq_true] at h
  rcases h with h | h
  · left; apply Go.WideShapes.bytes_inj; exact eq_of_beq h
  · right; apply Go.WideShapes.bytes_inj; exact eq_of_beq h
/-- Which of two steps comes first. -/
def befS (s t : StepD) : Bool := decide (cmpS s t < 0)
theorem l3Before_is (s t : StepD) (r : Bool) (w : World) (hs : IsL s.le) (ht : IsL t.le) (hr : befS s t = r) :
    Calls Tryd.prog 87 #[stepV s, stepV t] w fun e w' => e = .returned (.bool r) ∧ Hid (Below w.heap.size w w') := by
  obtain ⟨sf, sl, st, sc⟩ := s
  obtain ⟨tf, tl, tt, tc⟩ := t
  simp only at hs ht
  unfold stepV
  have hcmp : ∀ x y : Int, (x < y ∧ cmpI x y = -1) ∨ (¬ x < y ∧ y < x ∧ cmpI x y = 1) ∨ (x = y ∧ cmpI x y = 0) := fun x y => by
    unfold cmpI
    by_cases h1 : x < y
    · exact Or.inl ⟨h1, by rw [if_pos h1]⟩
    · by_cases h2 : y < x
      · exact Or.inr (Or.inl ⟨h1, h2, by rw [if_neg h1, if_pos h2]⟩)
      · exact Or.inr (Or.inr ⟨by omega, by rw [if_neg h1, if_neg h2]⟩)
  unfold befS cmpS at hr
  simp only at hr
  rcases hcmp sf tf with ⟨h1, h2⟩ | ⟨h1, h1', h2⟩ | ⟨h1, h2⟩
  · have hb : (sf != tf) = true := by rw [bne_iff_ne]; omega
    rw [h2] at hr
    have e : r = true := by rw [← hr]; simp [orF]
    subst e
    clear hr h2 hcmp hs ht
    go_enter Tryd.func87, Tryd.ntmps87
    go_wp2_with fail
    go_ret
    exact ⟨rfl, below_a2 _ _ _⟩
  · have hb : (sf != tf) = true := by rw [bne_iff_ne]; omega
    rw [h2] at hr
    have e : r = false := by rw [← hr]; simp [orF]
    subst e
    clear hr h2 hcmp hs ht
    go_enter Tryd.func87, Tryd.ntmps87
    go_wp2_with fail
    go_ret
    exact ⟨by first | rfl | exact ret_bool (decide_eq_false (by omega)), below_a2 _ _ _⟩
  · subst h1
    rw [h2] at hr
    have hcc : (Lib.compareBytes [97] [98] = -1) ∧ (Lib.compareBytes [98] [97] = 1) ∧ (Lib.compareBytes [97] [97] = 0) ∧ (Lib.compareBytes [98] [98] = 0) := by decide
    obtain ⟨hab, hba, haa, hbb⟩ := hcc
    rcases hs with rfl | rfl
    all_goals rcases ht with rfl | rfl
    all_goals simp only at hr
    · rw [haa] at hr
      rcases hcmp st tt with ⟨g1, g2⟩ | ⟨g1, g1', g2⟩ | ⟨g1, g2⟩
      all_goals
        rw [g2] at hr
        simp [orF] at hr
        subst hr
        clear g2 hcmp hab hba haa hbb h2
        go_enter Tryd.func87, Tryd.ntmps87
        go_wp2_with fail
        go_ret
        exact ⟨by first | rfl | exact ret_bool (decide_eq_true (by omega)) | exact ret_bool (decide_eq_false (by omega)), below_a2 _ _ _⟩
    · rw [hab] at hr
      simp [orF] at hr
      subst hr
      clear hcmp hab hba haa hbb h2
      go_enter Tryd.func87, Tryd.ntmps87
      go_wp2_with fail
      go_ret
      exact ⟨rfl, below_a2 _ _ _⟩
    · rw [hba] at hr
      simp [orF] at hr
      subst hr
      clear hcmp hab hba haa hbb h2
      go_enter Tryd.func87, Tryd.ntmps87
      go_wp2_with fail
      go_ret
      exact ⟨rfl, below_a2 _ _ _⟩
    · rw [hbb] at hr
      rcases hcmp st tt with ⟨g1, g2⟩ | ⟨g1, g1', g2⟩ | ⟨g1, g2⟩
      all_goals
        rw [g2] at hr
        simp [orF] at hr
        subst hr
        clear g2 hcmp hab hba haa hbb h2
        go_enter Tryd.func87, Tryd.ntmps87
        go_wp2_with fail
        go_ret
        exact ⟨by first | rfl | exact ret_bool (decide_eq_true (by omega)) | exact ret_bool (decide_eq_false (by omega)), below_a2 _ _ _⟩
end Go.Proofs.YthgkhpbfbilgmaaDoor
