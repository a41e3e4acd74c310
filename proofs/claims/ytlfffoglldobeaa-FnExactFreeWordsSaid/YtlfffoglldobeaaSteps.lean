/- A slice of steps that came in, as my contracts take it: four cells a step. -/
import Derived.Test.YtlfffoglldobeaaOpen
import Derived.Test.YtlfffoglldobeaaCopy
import Derived.Deep.Slices
import Derived.Lib.SmallJoins
import Derived.Lib.Hide
namespace Go.Proofs.Ytlfffoglldobeaa
open Go.ChangeShapes Go.WideShapes Go.ChangeAt Go.RowKit Go.Deep
set_option linter.unusedVariables false

/-- A step's four fields. -/
structure StepD where
  fr : Int
  le : ByteArray
  to_ : Int
  co : Int
instance : Inhabited StepD := ⟨⟨0, ByteArray.empty, 0, 0⟩⟩
/-- The four cells behind an address hold this step. -/
def StepAt (w : World) (b o : Nat) (s : StepD) : Prop :=
  w.cell? ⟨b, o, none⟩ = some (.int .i64 s.fr) ∧ w.cell? ⟨b, o + 1, none⟩ = some (.string s.le) ∧ w.cell? ⟨b, o + 2, none⟩ = some (.int .i64 s.to_) ∧ w.cell? ⟨b, o + 3, none⟩ = some (.int .i64 s.co)
/-- A slice reads as these steps, below block B. -/
def SRow (w : World) (B : Nat) (A : Option Addr) (ss : List StepD) : Prop :=
  ss.length ≤ 9223372036854775807 ∧ (∀ s ∈ ss, s.le.size ≤ 9223372036854775807) ∧ (0 < ss.length → ∃ b off, A = some ⟨b, off, none⟩ ∧ b < B ∧ ∀ k, k < ss.length → StepAt w b (off + k * 4) (ss.getD k default))
theorem StepAt.below {w w' : World} {b o B : Nat} {s : StepD} (h : StepAt w b o s) (hb : Below B w w') (hB : b < B) : StepAt w' b o s :=
  ⟨(hb.cell (p := ⟨b, o, none⟩) hB).trans h.1, (hb.cell (p := ⟨b, o + 1, none⟩) hB).trans h.2.1, (hb.cell (p := ⟨b, o + 2, none⟩) hB).trans h.2.2.1, (hb.cell (p := ⟨b, o + 3, none⟩) hB).trans h.2.2.2⟩
theorem SRow.below {w w' : World} {B : Nat} {A : Option Addr} {ss : List StepD} (h : SRow w B A ss) (hb : Below B w w') : SRow w' B A ss :=
  ⟨h.1, h.2.1, fun hn => by
    obtain ⟨b, off, e, hB, hc⟩ := h.2.2 hn
    exact ⟨b, off, e, hB, fun k hk => (hc k hk).below hb hB⟩⟩
theorem SRow.more {w : World} {B B' : Nat} {A : Option Addr} {ss : List StepD} (h : SRow w B A ss) (hB : B ≤ B') : SRow w B' A ss :=
  ⟨h.1, h.2.1, fun hn => by
    obtain ⟨b, off, e, hb, hc⟩ := h.2.2 hn
    exact ⟨b, off, e, Nat.lt_of_lt_of_le hb hB, hc⟩⟩
theorem SRow.al {w : World} {A : Option Addr} {ss : List StepD} (h : SRow w w.heap.size A ss) (o : Obj) : SRow (w.alloc o) (w.alloc o).heap.size A ss :=
  (h.below ((Below.refl _ _).alloc (Nat.le_refl _) o)).more (by simp)
theorem SRow.on {w w' : World} {A : Option Addr} {ss : List StepD} (h : SRow w w.heap.size A ss) (hb : Below w.heap.size w w') : SRow w' w'.heap.size A ss := (h.below hb).more hb.size
theorem SRow.at_ {w : World} {B : Nat} {A : Option Addr} {ss : List StepD} (h : SRow w B A ss) {k : Nat} (hk : k < ss.length) :
    ∃ b off s, A = some ⟨b, off, none⟩ ∧ b < B ∧ StepAt w b (off + k * 4) s ∧ s.le.size ≤ 9223372036854775807 ∧ ss.drop k = s :: ss.drop (k + 1) ∧ ss.getD k default = s := by
  obtain ⟨b, off, e, hb, hc⟩ := h.2.2 (by omega)
  have hg : ss.getD k default = ss[k] := by rw [List.getD_eq_getElem?_getD, List.getElem?_eq_getElem hk]; rfl
  exact ⟨b, off, ss.getD k default, e, hb, hc k hk, by rw [hg]; exact h.2.1 _ (List.getElem_mem _), by rw [hg]; exact List.drop_eq_getElem_cons hk, rfl⟩
theorem SRow.nil (w : World) (B : Nat) (A : Option Addr) : SRow w B A [] := ⟨Nat.zero_le _, fun s hs => (by cases hs), fun h => absurd h (by simp)⟩

theorem srow_of_trod {H : Type} {enc : TypeId × Value → H} {P : Program} {w : World} {held : Bool} {t e : TypeId} {f0 f1 f2 f3 : Field} {fuel : Nat} {A : Option Addr} {len cap : Nat} {cs : List Value} {x : DataW H × List MemPlace}
    (ht : P.underlying t = some (.slice e)) (he : P.underlying e = some (.struct #[f0, f1, f2, f3])) (hone : oneCellFields P #[f0, f1, f2, f3] = true) (hC : P.cellsOf e = 4)
    (h0 : P.underlying f0.type = some (.int .i64)) (h1 : P.underlying f1.type = some .string) (h2 : P.underlying f2.type = some (.int .i64)) (h3 : P.underlying f3.type = some (.int .i64))
    (h : DataW.trod enc P w 0 (fun _ => true) held fuel t cs = some x) (hcs : cs = [.slice A len cap]) :
    ∃ ss : List StepD, len = ss.length ∧ ss.length ≤ cap ∧ SRow w w.heap.size A ss := by
  rcases Go.Deep.open_slice ht h with ⟨hn, _⟩ | ⟨a, l, c, m, n, D, Pl, hn, _, hl, hm, hmm, hx, hel⟩
  · rw [hcs] at hn
    simp at hn
    obtain ⟨rfl, rfl, rfl⟩ := hn
    exact ⟨[], rfl, Nat.zero_le _, SRow.nil _ _ _⟩
  · rw [hcs] at hn
    simp at hn
    obtain ⟨rfl, rfl, rfl⟩ := hn
    simp at hmm
    have each : ∀ i, i < m → ∃ s : StepD, (w.cell? (a.add (i * 4)) = some (.int .i64 s.fr) ∧ w.cell? (a.add (i * 4 + 1)) = some (.string s.le) ∧ w.cell? (a.add (i * 4 + 2)) = some (.int .i64 s.to_) ∧ w.cell? (a.add (i * 4 + 3)) = some (.int .i64 s.co)) ∧ s.le.size ≤ 9223372036854775807 := by
      intro i hi
      obtain ⟨cs', g1, g2⟩ := hel i hi
      rw [hC] at g1
      obtain ⟨_, hlen, hcell⟩ := World.cells?_some g1
      obtain ⟨y0, y1, y2, y3, k, _, _, u0, u1, u2, u3⟩ := Joins.trod_struct4 he g2
      obtain ⟨o0, k0⟩ := hone_of hone 0 f0 rfl
      obtain ⟨o1, k1⟩ := hone_of hone 1 f1 rfl
      obtain ⟨o2, k2⟩ := hone_of hone 2 f2 rfl
      obtain ⟨o3, k3⟩ := hone_of hone 3 f3 rfl
      match cs', hlen with
      | [v0, v1, v2, v3], _ =>
        simp [o0, o1, o2, o3, k0, k1, k2, k3] at u0 u1 u2 u3
        obtain ⟨n0, e0, _, _⟩ := DataW.trod_int h0 u0
        obtain ⟨s1, e1, _, hs1⟩ := DataW.trod_string h1 u1
        obtain ⟨n2, e2, _, _⟩ := DataW.trod_int h2 u2
        obtain ⟨n3, e3, _, _⟩ := DataW.trod_int h3 u3
        simp at e0 e1 e2 e3
        subst e0 e1 e2 e3
        have g0 := hcell 0 (by omega)
        have g1' := hcell 1 (by omega)
        have g2' := hcell 2 (by omega)
        have g3 := hcell 3 (by omega)
        rw [Go.Deep.add_add] at g0 g1' g2' g3
        exact ⟨⟨n0, s1, n2, n3⟩, ⟨by simpa using g0, by simpa using g1', by simpa using g2', by simpa using g3⟩, by unfold maxLen at hs1; exact hs1⟩
    obtain ⟨F, hF⟩ := Go.Deep.choose_lt each
    have hlm : len ≤ m := by omega
    refine ⟨(List.range len).map F, by simp, by simpa using hl, ⟨by simp; unfold maxLen at hm; omega, fun s hs => ?_, fun hn => ?_⟩⟩
    · obtain ⟨i, hi, rfl⟩ := List.mem_map.1 hs
      exact (hF i (by have := List.mem_range.1 hi; omega)).2
    · simp at hn
      obtain ⟨b, off, spot⟩ := a
      have hc0 := (hF 0 (by omega)).1.1
      have hspot : spot = none := by simpa [Addr.add] using World.cell?_spot hc0
      subst hspot
      have hadd : ∀ k, (⟨b, off, none⟩ : Addr).add k = ⟨b, off + k, none⟩ := fun k => by unfold Addr.add; by_cases h : k = 0 <;> simp [h]
      refine ⟨b, off, rfl, ?_, fun k hk => ?_⟩
      · rw [hadd] at hc0; exact lt_of_cell? hc0
      · simp at hk
        have hg : ((List.range len).map F).getD k default = F k := by rw [List.getD_eq_getElem?_getD, List.getElem?_map, List.getElem?_range hk]; rfl
        obtain ⟨q0, q1, q2, q3⟩ := (hF k (by omega)).1
        rw [hadd] at q0 q1 q2 q3
        rw [hg]
        exact ⟨q0, by rw [Nat.add_assoc]; exact q1, by rw [Nat.add_assoc]; exact q2, by rw [Nat.add_assoc]; exact q3⟩
end Go.Proofs.Ytlfffoglldobeaa
