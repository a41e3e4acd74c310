/- The walk of the law of sums of lists: it returns true for all inputs, and nothing that was there changes. No condition. -/
import Derived.Test.YtgnphlegbbplcaaDraw3
import Derived.Test.YtgnphlegbbplcaaAddLaw
import Derived.Test.YtgnphlegbbplcaaTimesLaw
namespace Go.Proofs.Ytgnphlegbbplcaa
open Go.RowKit
set_option maxHeartbeats 1000000
set_option linter.unusedVariables false

/-- What the drawing of a list leaves for its caller. -/
def DrawnC (w : World) (e : Ending) (w' : World) : Prop :=
  ∃ (A : Option Addr) (cap : Nat) (vs : List Int), e = .returned (.slice A vs.length cap) ∧ vs.length ≤ cap ∧ Ints w' w'.heap.size A vs ∧ vs.length ≤ 4 ∧ (∀ z ∈ vs, fits z) ∧ Below w.heap.size w w'

theorem drawSums_any (A : Option Addr) (cap : Nat) (zs : List Int) (w : World) (hz : IRow .u8 w w.heap.size A zs) (hc : zs.length ≤ cap) (hb : ∀ z ∈ zs, 0 ≤ z ∧ z ≤ 255) :
    Calls Try.prog 24 #[.slice A zs.length cap] w fun e w' => DrawnC w e w' := by
  have HB := Lib.hid hb
  clear hb
  go_enter Try.func24, Try.ntmps24
  go_wp2_with fail
  refine (open_any _ _ _ _ hz hc HB.out).mono ?_
  rintro e w1 ⟨A1, cap1, ys, rfl, hrd, hbel⟩
  go_wp2_with fail
  refine (costs_any _ _ _ _ _ _ _ hrd (by omega)).mono ?_
  rintro e w2 ⟨x, vs, q, rfl, hown, h4, hfit, hq, hrd2, hg2⟩
  obtain ⟨A2, cap2, rfl, hc2, hi2⟩ := own_ints hown (by unfold maxLen; omega)
  have HI := Lib.hid hi2
  have HF := Lib.hid hfit
  clear hi2 hfit hown hrd2 hq
  go_wp2_with fail
  go_ret
  exact ⟨A2, cap2, vs, rfl, hc2, HI.out, h4, HF.out, hbel.trans (grow_below hg2 (Nat.le_refl _) hbel.size)⟩

/-! Sums of parts. -/
theorem sumF_ok {zs : List Int} (h : allV zs = true) : ∀ acc, 0 ≤ acc → acc ≤ 1000000 → acc ≤ sumF acc zs ∧ sumF acc zs ≤ 1000000 ∧ ∀ c, 0 ≤ c → c ≤ 1000000 → sumF (min (acc + c) 1000000) zs = min (sumF acc zs + c) 1000000 := by
  induction zs with
  | nil => intro acc h0 h1; refine ⟨by simp [sumF], by simpa [sumF] using h1, fun c c0 c1 => by simp [sumF]⟩
  | cons z zs ih =>
    intro acc h0 h1
    have hz : vld z = true := by simp [allV] at h; exact h.1
    have hzs : allV zs = true := by simp [allV] at h ⊢; exact h.2
    obtain ⟨z0, z1⟩ := vld_t hz
    rw [sumF_t hz]
    obtain ⟨i1, i2, i3⟩ := ih hzs (min (acc + z) 1000000) (by omega) (by omega)
    refine ⟨by omega, i2, fun c c0 c1 => ?_⟩
    rw [sumF_t hz]
    have e : min (min (acc + c) 1000000 + z) 1000000 = min (min (acc + z) 1000000 + c) 1000000 := by omega
    rw [e]
    exact i3 c c0 c1
theorem sumF_append {xs ys : List Int} (hx : allV xs = true) (hy : allV ys = true) : sumF 0 (xs ++ ys) = min (sumF 0 xs + sumF 0 ys) 1000000 := by
  have key : ∀ (xs : List Int) (acc : Int), allV xs = true → sumF acc (xs ++ ys) = sumF (sumF acc xs) ys := by
    intro xs
    induction xs with
    | nil => intro acc _; rfl
    | cons z zs ih =>
      intro acc h
      have hz : vld z = true := by simp [allV] at h; exact h.1
      have hzs : allV zs = true := by simp [allV] at h ⊢; exact h.2
      rw [List.cons_append, sumF_t hz, sumF_t hz, ih _ hzs]
  rw [key xs 0 hx]
  obtain ⟨a1, a2, a3⟩ := sumF_ok hx 0 (by omega) (by omega)
  obtain ⟨b1, b2, b3⟩ := sumF_ok hy 0 (by omega) (by omega)
  have := b3 (sumF 0 xs) (by omega) a2
  have e : min (0 + sumF 0 xs) 1000000 = sumF 0 xs := by omega
  rw [e] at this
  rw [this]
  omega
theorem leastF_ok {zs : List Int} (h : allV zs = true) : ∀ acc, 0 ≤ acc → acc ≤ 1000000 → 0 ≤ leastF acc zs ∧ leastF acc zs ≤ acc ∧ leastF acc zs = min acc (leastF 1000000 zs) := by
  induction zs with
  | nil => intro acc h0 h1; refine ⟨by simpa [leastF] using h0, by simp [leastF], by simp [leastF]; omega⟩
  | cons z zs ih =>
    intro acc h0 h1
    have hz : vld z = true := by simp [allV] at h; exact h.1
    have hzs : allV zs = true := by simp [allV] at h ⊢; exact h.2
    obtain ⟨z0, z1⟩ := vld_t hz
    rw [leastF_t hz, leastF_t hz]
    obtain ⟨i1, i2, i3⟩ := ih hzs (min acc z) (by omega) (by omega)
    obtain ⟨j1, j2, j3⟩ := ih hzs (min 1000000 z) (by omega) (by omega)
    refine ⟨i1, by omega, by omega⟩
theorem leastF_append {xs ys : List Int} (hx : allV xs = true) (hy : allV ys = true) : leastF 1000000 (xs ++ ys) = min (leastF 1000000 xs) (leastF 1000000 ys) := by
  have key : ∀ (xs : List Int) (acc : Int), allV xs = true → leastF acc (xs ++ ys) = leastF (leastF acc xs) ys := by
    intro xs
    induction xs with
    | nil => intro acc _; rfl
    | cons z zs ih =>
      intro acc h
      have hz : vld z = true := by simp [allV] at h; exact h.1
      have hzs : allV zs = true := by simp [allV] at h ⊢; exact h.2
      rw [List.cons_append, leastF_t hz, leastF_t hz, ih _ hzs]
  rw [key xs _ hx]
  obtain ⟨a1, a2, a3⟩ := leastF_ok hx 1000000 (by omega) (by omega)
  exact (leastF_ok hy (leastF 1000000 xs) a1 a2).2.2
theorem allV_app {xs ys : List Int} (h : allV (xs ++ ys) = true) : allV xs = true ∧ allV ys = true := by
  simp [allV] at h ⊢; exact h
theorem between {zs : List Int} (h : allV zs = true) {z : Int} (hz : z ∈ zs) : leastF 1000000 zs ≤ z ∧ z ≤ sumF 0 zs := by
  obtain ⟨xs, ys, rfl⟩ := List.append_of_mem hz
  obtain ⟨hx, hzy⟩ := allV_app h
  have hvz : vld z = true := by simp [allV] at hzy; exact hzy.1
  have hy : allV ys = true := by simp [allV] at hzy ⊢; exact hzy.2
  obtain ⟨z0, z1⟩ := vld_t hvz
  rw [leastF_append hx hzy, sumF_append hx hzy, leastF_t hvz, sumF_t hvz]
  obtain ⟨a1, a2, a3⟩ := leastF_ok hx 1000000 (by omega) (by omega)
  obtain ⟨b1, b2, b3⟩ := leastF_ok hy (min 1000000 z) (by omega) (by omega)
  obtain ⟨c1, c2, c3⟩ := sumF_ok hx 0 (by omega) (by omega)
  obtain ⟨d1, d2, d3⟩ := sumF_ok hy (min (0 + z) 1000000) (by omega) (by omega)
  omega

theorem leastCost_is (A : Option Addr) (cap B : Nat) (zs : List Int) (v : Int) (w : World) (hz : Ints w B A zs) (hv : leastF 1000000 zs = v) :
    Calls Try.prog 25 #[.slice A zs.length cap] w fun e w' => e = .returned (.int .i64 v) ∧ w = w' := by rw [← hv]; exact leastCost_any A cap B zs w hz
theorem sSumCosts_is (A : Option Addr) (cap B : Nat) (zs : List Int) (v : Int) (w : World) (hz : Ints w B A zs) (hv : sumF 0 zs = v) :
    Calls Try.prog 26 #[.slice A zs.length cap] w fun e w' => e = .returned (.int .i64 v) ∧ w = w' := by rw [← hv]; exact sSumCosts_any A cap B zs w hz
theorem sLeastCost_is (A : Option Addr) (cap B : Nat) (zs : List Int) (v : Int) (w : World) (hz : Ints w B A zs) (hv : leastF 1000000 zs = v) :
    Calls Try.prog 27 #[.slice A zs.length cap] w fun e w' => e = .returned (.int .i64 v) ∧ w = w' := by rw [← hv]; exact sLeastCost_any A cap B zs w hz

end Go.Proofs.Ytgnphlegbbplcaa
