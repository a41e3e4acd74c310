/- The model's copy of an automaton: three new slices. Condition: the slices that it takes are at addresses, and no longer than a few. -/
import Derived.Test.YtfdbbopanankgaaDoorListA
import Derived.Test.YtfdbbopanankgaaDoorOwnK
import Derived.Test.YtfdbbopanankgaaDoorCopyM
namespace Go.Proofs.YtfdbbopanankgaaDoor
open Go.RowKit
set_option maxHeartbeats 4000000
set_option maxRecDepth 100000
set_option linter.unusedVariables false

theorem add_at (b off j : Nat) : (⟨b, off, none⟩ : Addr).add j = ⟨b, off + j, none⟩ := by
  unfold Addr.add
  split <;> simp_all
theorem news_ints {w : World} {B : Nat} {a : Addr} {zs : List Int} (h : Ints w B (some a) zs) : ∀ j u, (zs.map (Value.int .i64))[j]? = some u → w.cell? (a.add j) = some u := by
  intro j u hj
  have hl : j < zs.length := by
    rcases Nat.lt_or_ge j zs.length with h1 | h1
    · exact h1
    · rw [List.getElem?_eq_none (by simpa using h1)] at hj; cases hj
  obtain ⟨b, off, z, e, _, hc, _, hz⟩ := h.at_ hl
  cases e
  rw [add_at, hc, ← hz]
  rw [List.getElem?_map, List.getElem?_eq_getElem hl] at hj
  rw [List.getD_eq_getElem?_getD, List.getElem?_eq_getElem hl]
  simpa using hj
theorem news_steps {w : World} {B : Nat} {a : Addr} {ss : List StepD} (h : SRow w B (some a) ss) : ∀ j u, (flatS ss)[j]? = some u → w.cell? (a.add j) = some u := by
  intro j u hj
  have hl : j < ss.length * 4 := by
    rcases Nat.lt_or_ge j (ss.length * 4) with h1 | h1
    · exact h1
    · rw [List.getElem?_eq_none (by rw [flatS_len]; exact h1)] at hj; cases hj
  have hk : j / 4 < ss.length := by omega
  obtain ⟨b, off, s, e, _, hc, _, _, hs⟩ := h.at_ hk
  cases e
  obtain ⟨f0, f1, f2, f3⟩ := flatS_get ss (j / 4) hk
  rw [hs] at f0 f1 f2 f3
  obtain ⟨c0, c1, c2, c3⟩ := hc
  rw [add_at]
  have hc4 : j % 4 = 0 ∨ j % 4 = 1 ∨ j % 4 = 2 ∨ j % 4 = 3 := by omega
  rcases hc4 with c | c | c | c
  · have e : j = j / 4 * 4 := by omega
    rw [e, f0] at hj; cases hj; rw [e]; exact c0
  · have e : j = j / 4 * 4 + 1 := by omega
    rw [e, f1] at hj; cases hj; rw [e, ← Nat.add_assoc]; exact c1
  · have e : j = j / 4 * 4 + 2 := by omega
    rw [e, f2] at hj; cases hj; rw [e, ← Nat.add_assoc]; exact c2
  · have e : j = j / 4 * 4 + 3 := by omega
    rw [e, f3] at hj; cases hj; rw [e, ← Nat.add_assoc]; exact c3
theorem one_ints (zs : List Int) : ∀ u ∈ zs.map (Value.int .i64), u.oneCell' = true := fun u hu => by
  rw [List.mem_map] at hu
  obtain ⟨z, _, rfl⟩ := hu
  rfl
theorem one_steps (ss : List StepD) : ∀ u ∈ flatS ss, u.oneCell' = true := by
  induction ss with
  | nil => intro u hu; cases hu
  | cons s ss ih =>
    intro u hu
    simp [flatS] at hu
    rcases hu with rfl | rfl | rfl | rfl | h
    · rfl
    · rfl
    · rfl
    · rfl
    · exact ih u h
end Go.Proofs.YtfdbbopanankgaaDoor
