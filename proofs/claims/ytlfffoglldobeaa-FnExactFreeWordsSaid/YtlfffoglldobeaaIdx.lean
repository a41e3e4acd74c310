/- Small things that many texts share: a state's truth out of a set of four, a block that stays, maps told alike. No condition. -/
import Derived.Test.YtlfffoglldobeaaMach2
namespace Go.Proofs.Ytlfffoglldobeaa
open Go.RowKit
set_option maxHeartbeats 400000
set_option maxRecDepth 100000
set_option linter.unusedVariables false

theorem four_cases {k : Nat} (h : k < 4) : k = 0 ∨ k = 1 ∨ k = 2 ∨ k = 3 := by omega
theorem idx0 (a b c d : Value) (w : World) : (Instr.index 48 (.agg #[a, b, c, d]) (.int .i64 0)).run Try.prog w = .ok a w := by kernel_rfl
theorem idx1 (a b c d : Value) (w : World) : (Instr.index 48 (.agg #[a, b, c, d]) (.int .i64 1)).run Try.prog w = .ok b w := by kernel_rfl
theorem idx2 (a b c d : Value) (w : World) : (Instr.index 48 (.agg #[a, b, c, d]) (.int .i64 2)).run Try.prog w = .ok c w := by kernel_rfl
theorem idx3 (a b c d : Value) (w : World) : (Instr.index 48 (.agg #[a, b, c, d]) (.int .i64 3)).run Try.prog w = .ok d w := by kernel_rfl

abbrev FF := Int → ByteArray → Int → Option Int
abbrev LF := Int → ByteArray → Int → Bool
theorem Blk.stay {w w' : World} {j : Nat} {t : TypeId} {cs : Array Value} {row : Option Nat} (h : Blk w j t cs) (hg : w.grownBy w' row) (hne : some j ≠ row) : Blk w' j t cs := (hg.block j (Blk.lt h) hne).trans h
theorem CRan.cnt_le {w : World} {M r n cnt : Nat} {F : Int → ByteArray → Int → Option Int} {left : Int → ByteArray → Int → Bool} (h : CRan w M r n F left cnt) : cnt ≤ n := by
  obtain ⟨D, L, h1, _, _⟩ := h
  obtain ⟨es, clock, since, seen, c0, _, _, hs, _, _, _, hl, _⟩ := h1
  rw [← hl]
  unfold leftOf
  exact Nat.le_trans Array.size_filter_le hs
theorem CMap.alike {w : World} {M n : Nat} {F G : Int → ByteArray → Int → Option Int} (h : CMap w M n F) (hg : ∀ f l t, kwf f l t → F f l t = G f l t) : CMap w M n G := by
  obtain ⟨D, h1, h2⟩ := h
  exact ⟨D, h1, fun f l t hk zd => by rw [h2 f l t hk zd, hg f l t hk]⟩
def swS (s : StepD) : StepD := ⟨s.to_, s.le, s.fr, s.co⟩
end Go.Proofs.Ytlfffoglldobeaa
