/- What makes one step valid, the program's and the model's. No condition. -/
import Derived.Test.YthgkhpbfbilgmaaDoorValA
import Derived.Deep.DeepCutAuto
namespace Go.Proofs.YthgkhpbfbilgmaaDoor
open Go.RowKit
set_option maxHeartbeats 1000000
set_option maxRecDepth 100000
set_option linter.unusedVariables false

def letOk (le : ByteArray) : Bool := (le.toList == [97]) || (le.toList == [98])
def stepOk (n : Int) (s : StepD) : Bool := decide (0 ≤ s.fr ∧ s.fr < n) && (decide (0 ≤ s.to_ ∧ s.to_ < n) && (letOk s.le && decide (0 ≤ s.co ∧ s.co ≤ 3)))
theorem letterValid_is (le : ByteArray) (r : Bool) (w : World) (hr : letOk le = r) :
    Calls Tryd.prog 112 #[.string le] w fun e w' => e = .returned (.bool r) ∧ w = w' := by
  unfold letOk at hr
  rcases Bool.eq_false_or_eq_true (le.toList == [97]) with h1 | h1
  · have e : r = true := by rw [← hr, h1]; rfl
    subst e
    clear hr
    go_enter Tryd.func112, Tryd.ntmps112
    go_wp2_with fail
    go_ret
    exact ⟨rfl, rfl⟩
  · rcases Bool.eq_false_or_eq_true (le.toList == [98]) with h2 | h2
    · have e : r = true := by rw [← hr, h1, h2]; rfl
      subst e
      clear hr
      go_enter Tryd.func112, Tryd.ntmps112
      go_wp2_with fail
      go_ret
      exact ⟨rfl, rfl⟩
    · have e : r = false := by rw [← hr, h1, h2]; rfl
      subst e
      clear hr
      go_enter Tryd.func112, Tryd.ntmps112
      go_wp2_with fail
      go_ret
      exact ⟨rfl, rfl⟩

theorem stepValid_is (s : StepD) (n : Int) (r : Bool) (w : World) (hr : stepOk n s = r) :
    Calls Tryd.prog 104 #[stepV s, .int .i64 n] w fun e w' => e = .returned (.bool r) ∧ Hid (Below w.heap.size w w') := by
  unfold stepOk at hr
  obtain ⟨bf, hbf⟩ : ∃ b, decide (0 ≤ s.fr ∧ s.fr < n) = b := ⟨_, rfl⟩
  obtain ⟨bt, hbt⟩ : ∃ b, decide (0 ≤ s.to_ ∧ s.to_ < n) = b := ⟨_, rfl⟩
  obtain ⟨bl, hbl⟩ : ∃ b, letOk s.le = b := ⟨_, rfl⟩
  rw [hbf, hbt, hbl] at hr
  have HR := Lib.hid hr
  have HF := Lib.hid hbf
  have HT := Lib.hid hbt
  have HL := Lib.hid hbl
  have HK := Lib.hid (Blk.new w 81 #[.int .i64 s.fr, .string s.le, .int .i64 s.to_, .int .i64 s.co])
  have HB := Lib.hid (below_a1 w (.cells #[.int .i64 s.fr, .string s.le, .int .i64 s.to_, .int .i64 s.co] 81))
  clear hr hbf hbt hbl
  unfold stepV
  go_enter Tryd.func104, Tryd.ntmps104
  go_upto_region 1 with fail
  go_cut [5, 6] (fun x y wx => x = .bool bf ∧ y = .bool bt ∧ Hid (Blk wx w.heap.size 81 #[.int .i64 s.fr, .string s.le, .int .i64 s.to_, .int .i64 s.co]) ∧ Hid (Below w.heap.size w wx))
  case first =>
    have dec2 : ∀ p : Prop, [Decidable p] → (p ∧ decide p = true) ∨ (¬ p ∧ decide p = false) := fun p _ => by by_cases h : p; exact Or.inl ⟨h, decide_eq_true h⟩; exact Or.inr ⟨h, decide_eq_false h⟩
    rcases dec2 (0 ≤ s.fr) with ⟨f0, f0'⟩ | ⟨f0, f0'⟩
    all_goals rcases dec2 (s.fr < n) with ⟨f1, f1'⟩ | ⟨f1, f1'⟩
    all_goals rcases dec2 (0 ≤ s.to_) with ⟨t0, t0'⟩ | ⟨t0, t0'⟩
    all_goals rcases dec2 (s.to_ < n) with ⟨t1, t1'⟩ | ⟨t1, t1'⟩
    all_goals
      clear dec2
      have ef := HF.out
      have et := HT.out
      simp only [f0, f1, t0, t1, and_true, and_false, and_self, decide_true, decide_false] at ef et
      subst ef
      subst et
      go_wp2_with fail
      go_quiet (fail)
      go_wp2_with fail
      go_meet
      exact ⟨by first | rfl | rw [f1'] | rw [f0'], by first | rfl | rw [t1'] | rw [t0'], HK.out, by first | exact HB.out | exact HB.out.drew | exact below_dN HB.out _⟩
  case rest =>
    obtain ⟨rfl, rfl, K2, B2⟩ := hcut
    clear HK HB
    obtain ⟨k0, k1, k2, k3⟩ := four_cells K2.out
    rcases Bool.eq_false_or_eq_true bf with h | h
    all_goals subst h
    all_goals rcases Bool.eq_false_or_eq_true bt with h | h
    all_goals subst h
    rotate_left
    all_goals first
      | (have e : r = false := by rw [← HR.out]; simp
         subst e
         go_wp2_with fail
         go_ret
         exact ⟨rfl, B2.out⟩)
      | skip
    go_wp2_with fail
    refine (letterValid_is _ bl _ HL.out).mono ?_
    rintro e w' ⟨rfl, rfl⟩
    rcases Bool.eq_false_or_eq_true bl with h | h
    · subst h
      by_cases c0 : 0 ≤ s.co
      · by_cases c1 : s.co ≤ 3
        · have e : r = true := by rw [← HR.out]; simp [c0, c1]
          subst e
          go_wp2_with fail
          go_ret
          exact ⟨rfl, B2.out⟩
        · have e : r = false := by rw [← HR.out]; simp [c1]
          subst e
          go_wp2_with fail
          go_ret
          exact ⟨ret_bool (decide_eq_false (by omega)), B2.out⟩
      · have e : r = false := by rw [← HR.out]; simp [c0]
        subst e
        go_wp2_with fail
        go_ret
        exact ⟨rfl, B2.out⟩
    · subst h
      have e : r = false := by rw [← HR.out]; simp
      subst e
      go_wp2_with fail
      go_ret
      exact ⟨rfl, B2.out⟩
end Go.Proofs.YthgkhpbfbilgmaaDoor
