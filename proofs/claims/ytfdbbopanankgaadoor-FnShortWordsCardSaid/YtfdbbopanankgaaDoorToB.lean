/- A slice of steps that came in, as my contracts take it: four cells a step. A block of steps known whole: its cells, a step stored, a new one made. No condition. The sizes of steps and automata, as the exact laws ask for them: what is no less than 0 bounds all lists. No condition. Copies of steps and automata, as the exact laws make them: the same fields in new memory. No condition but the sizes. A copy of an automaton, and two automata held against each other, as the exact laws do. No condition but the sizes. -/
import Derived.Test.YtfdbbopanankgaaDoorPlain
import Derived.Test.YtfdbbopanankgaaDoorCopy
import Derived.Deep.Slices
import Derived.Lib.SmallJoins
import Derived.Lib.Hide
import Derived.Test.YtfdbbopanankgaaDoorDrawKit
import Derived.Deep.OwnRows
import Derived.Test.YtfdbbopanankgaaDoorMats
import Derived.WalkKit
import Derived.Deep.RegionHeld3
import Derived.Deep.QuietTactic
namespace Go.Proofs.YtfdbbopanankgaaDoor
open Go.ChangeShapes Go.WideShapes Go.ChangeAt Go.RowKit Go.Deep
set_option linter.unusedVariables false

/-- A step's four fields. -/
structure StepD where
  fr : Int
  le : ByteArray
  to_ : Int
  co : Int
instance : Inhabited StepD := ⟨⟨0, ByteArray.empty, 0, 0⟩⟩
/-- The four cells behind an address hold this step. -/
def StepAt (w : World) (b o : Nat) (s : StepD) : Prop :=
  w.cell? ⟨b, o, none⟩ = some (.int .i64 s.fr) ∧ w.cell? ⟨b, o + 1, none⟩ = some (.string s.le) ∧ w.cell? ⟨b, o + 2, none⟩ = some (.int .i64 s.to_) ∧ w.cell? ⟨b, o + 3, none⟩ = some (.int .i64 s.co)
/-- A slice reads as these steps, below block B. -/
def SRow (w : World) (B : Nat) (A : Option Addr) (ss : List StepD) : Prop :=
  ss.length ≤ 9223372036854775807 ∧ (∀ s ∈ ss, s.le.size ≤ 9223372036854775807) ∧ (0 < ss.length → ∃ b off, A = some ⟨b, off, none⟩ ∧ b < B ∧ ∀ k, k < ss.length → StepAt w b (off + k * 4) (ss.getD k default))
theorem StepAt.below {w w' : World} {b o B : Nat} {s : StepD} (h : StepAt w b o s) (hb : Below B w w') (hB : b < B) : StepAt w' b o s :=
  ⟨(hb.cell (p := ⟨b, o, none⟩) hB).trans h.1, (hb.cell (p := ⟨b, o + 1, none⟩) hB).trans h.2.1, (hb.cell (p := ⟨b, o + 2, none⟩) hB).trans h.2.2.1, (hb.cell (p := ⟨b, o + 3, none⟩) hB).trans h.2.2.2⟩
theorem SRow.below {w w' : World} {B : Nat} {A : Option Addr} {ss : List StepD} (h : SRow w B A ss) (hb : Below B w w') : SRow w' B A ss :=
  ⟨h.1, h.2.1, fun hn => by
    obtain ⟨b, off, e, hB, hc⟩ := h.2.2 hn
    exact ⟨b, off, e, hB, fun k hk => (hc k hk).below hb hB⟩⟩
theorem SRow.more {w : World} {B B' : Nat} {A : Option Addr} {ss : List StepD} (h : SRow w B A ss) (hB : B ≤ B') : SRow w B' A ss :=
  ⟨h.1, h.2.1, fun hn => by
    obtain ⟨b, off, e, hb, hc⟩ := h.2.2 hn
    exact ⟨b, off, e, Nat.lt_of_lt_of_le hb hB, hc⟩⟩
theorem SRow.al {w : World} {A : Option Addr} {ss : List StepD} (h : SRow w w.heap.size A ss) (o : Obj) : SRow (w.alloc o) (w.alloc o).heap.size A ss :=
  (h.below ((Below.refl _ _).alloc (Nat.le_refl _) o)).more (by simp)
theorem SRow.on {w w' : World} {A : Option Addr} {ss : List StepD} (h : SRow w w.heap.size A ss) (hb : Below w.heap.size w w') : SRow w' w'.heap.size A ss := (h.below hb).more hb.size
theorem SRow.at_ {w : World} {B : Nat} {A : Option Addr} {ss : List StepD} (h : SRow w B A ss) {k : Nat} (hk : k < ss.length) :
    ∃ b off s, A = some ⟨b, off, none⟩ ∧ b < B ∧ StepAt w b (off + k * 4) s ∧ s.le.size ≤ 9223372036854775807 ∧ ss.drop k = s :: ss.drop (k + 1) ∧ ss.getD k default = s := by
  obtain ⟨b, off, e, hb, hc⟩ := h.2.2 (by omega)
  have hg : ss.getD k default = ss[k] := by rw [List.getD_eq_getElem?_getD, List.getElem?_eq_getElem hk]; rfl
  exact ⟨b, off, ss.getD k default, e, hb, hc k hk, by rw [hg]; exact h.2.1 _ (List.getElem_mem _), by rw [hg]; exact List.drop_eq_getElem_cons hk, rfl⟩
theorem SRow.nil (w : World) (B : Nat) (A : Option Addr) : SRow w B A [] := ⟨Nat.zero_le _, fun s hs => (by cases hs), fun h => absurd h (by simp)⟩

theorem srow_of_trod {H : Type} {enc : TypeId × Value → H} {P : Program} {w : World} {held : Bool} {t e : TypeId} {f0 f1 f2 f3 : Field} {fuel : Nat} {A : Option Addr} {len cap : Nat} {cs : List Value} {x : DataW H × List MemPlace}
    (ht : P.underlying t = some (.slice e)) (he : P.underlying e = some (.struct #[f0, f1, f2, f3])) (hone : oneCellFields P #[f0, f1, f2, f3] = true) (hC : P.cellsOf e = 4)
    (h0 : P.underlying f0.type = some (.int .i64)) (h1 : P.underlying f1.type = some .string) (h2 : P.underlying f2.type = some (.int .i64)) (h3 : P.underlying f3.type = some (.int .i64))
    (h : DataW.trod enc P w 0 (fun _ => true) held fuel t cs = some x) (hcs : cs = [.slice A len cap]) :
    ∃ ss : List StepD, len = ss.length ∧ ss.length ≤ cap ∧ SRow w w.heap.size A ss := by
  rcases Go.Deep.open_slice ht h with ⟨hn, _⟩ | ⟨a, l, c, m, n, D, Pl, hn, _, hl, hm, hmm, hx, hel⟩
  · rw [hcs] at hn
    simp at hn
    obtain ⟨rfl, rfl, rfl⟩ := hn
    exact ⟨[], rfl, Nat.zero_le _, SRow.nil _ _ _⟩
  · rw [hcs] at hn
    simp at hn
    obtain ⟨rfl, rfl, rfl⟩ := hn
    simp at hmm
    have each : ∀ i, i < m → ∃ s : StepD, (w.cell? (a.add (i * 4)) = some (.int .i64 s.fr) ∧ w.cell? (a.add (i * 4 + 1)) = some (.string s.le) ∧ w.cell? (a.add (i * 4 + 2)) = some (.int .i64 s.to_) ∧ w.cell? (a.add (i * 4 + 3)) = some (.int .i64 s.co)) ∧ s.le.size ≤ 9223372036854775807 := by
      intro i hi
      obtain ⟨cs', g1, g2⟩ := hel i hi
      rw [hC] at g1
      obtain ⟨_, hlen, hcell⟩ := World.cells?_some g1
      obtain ⟨y0, y1, y2, y3, k, _, _, u0, u1, u2, u3⟩ := Joins.trod_struct4 he g2
      obtain ⟨o0, k0⟩ := hone_of hone 0 f0 rfl
      obtain ⟨o1, k1⟩ := hone_of hone 1 f1 rfl
      obtain ⟨o2, k2⟩ := hone_of hone 2 f2 rfl
      obtain ⟨o3, k3⟩ := hone_of hone 3 f3 rfl
      match cs', hlen with
      | [v0, v1, v2, v3], _ =>
        simp [o0, o1, o2, o3, k0, k1, k2, k3] at u0 u1 u2 u3
        obtain ⟨n0, e0, _, _⟩ := DataW.trod_int h0 u0
        obtain ⟨s1, e1, _, hs1⟩ := DataW.trod_string h1 u1
        obtain ⟨n2, e2, _, _⟩ := DataW.trod_int h2 u2
        obtain ⟨n3, e3, _, _⟩ := DataW.trod_int h3 u3
        simp at e0 e1 e2 e3
        subst e0 e1 e2 e3
        have g0 := hcell 0 (by omega)
        have g1' := hcell 1 (by omega)
        have g2' := hcell 2 (by omega)
        have g3 := hcell 3 (by omega)
        rw [Go.Deep.add_add] at g0 g1' g2' g3
        exact ⟨⟨n0, s1, n2, n3⟩, ⟨by simpa using g0, by simpa using g1', by simpa using g2', by simpa using g3⟩, by unfold maxLen at hs1; exact hs1⟩
    obtain ⟨F, hF⟩ := Go.Deep.choose_lt each
    have hlm : len ≤ m := by omega
    refine ⟨(List.range len).map F, by simp, by simpa using hl, ⟨by simp; unfold maxLen at hm; omega, fun s hs => ?_, fun hn => ?_⟩⟩
    · obtain ⟨i, hi, rfl⟩ := List.mem_map.1 hs
      exact (hF i (by have := List.mem_range.1 hi; omega)).2
    · simp at hn
      obtain ⟨b, off, spot⟩ := a
      have hc0 := (hF 0 (by omega)).1.1
      have hspot : spot = none := by simpa [Addr.add] using World.cell?_spot hc0
      subst hspot
      have hadd : ∀ k, (⟨b, off, none⟩ : Addr).add k = ⟨b, off + k, none⟩ := fun k => by unfold Addr.add; by_cases h : k = 0 <;> simp [h]
      refine ⟨b, off, rfl, ?_, fun k hk => ?_⟩
      · rw [hadd] at hc0; exact lt_of_cell? hc0
      · simp at hk
        have hg : ((List.range len).map F).getD k default = F k := by rw [List.getD_eq_getElem?_getD, List.getElem?_map, List.getElem?_range hk]; rfl
        obtain ⟨q0, q1, q2, q3⟩ := (hF k (by omega)).1
        rw [hadd] at q0 q1 q2 q3
        rw [hg]
        exact ⟨q0, by rw [Nat.add_assoc]; exact q1, by rw [Nat.add_assoc]; exact q2, by rw [Nat.add_assoc]; exact q3⟩
end Go.Proofs.YtfdbbopanankgaaDoor
namespace Go.Proofs.YtfdbbopanankgaaDoor
open Go.RowKit
set_option linter.unusedVariables false

def stepC (s : StepD) : List Value := [.int .i64 s.fr, .string s.le, .int .i64 s.to_, .int .i64 s.co]
def flatS : List StepD → List Value
  | [] => []
  | s :: ss => .int .i64 s.fr :: .string s.le :: .int .i64 s.to_ :: .int .i64 s.co :: flatS ss
theorem flatS_len : ∀ ss : List StepD, (flatS ss).length = ss.length * 4
  | [] => rfl
  | s :: ss => by simp [flatS, flatS_len ss]; omega
theorem flatS_get : ∀ (ss : List StepD) (k : Nat), k < ss.length → (flatS ss)[k * 4]? = some (.int .i64 (ss.getD k default).fr) ∧ (flatS ss)[k * 4 + 1]? = some (.string (ss.getD k default).le) ∧ (flatS ss)[k * 4 + 2]? = some (.int .i64 (ss.getD k default).to_) ∧ (flatS ss)[k * 4 + 3]? = some (.int .i64 (ss.getD k default).co)
  | [], k, h => by simp at h
  | s :: ss, 0, _ => by simp [flatS]
  | s :: ss, k + 1, h => by
    have ih := flatS_get ss k (by simpa using h)
    have e0 : (k + 1) * 4 = k * 4 + 4 := by omega
    have e1 : (k + 1) * 4 + 1 = (k * 4 + 1) + 4 := by omega
    have e2 : (k + 1) * 4 + 2 = (k * 4 + 2) + 4 := by omega
    have e3 : (k + 1) * 4 + 3 = (k * 4 + 3) + 4 := by omega
    rw [e1, e2, e3, e0]
    simp only [flatS, List.getElem?_cons_succ, List.getD_cons_succ]
    exact ih
theorem flatS_set : ∀ (ss : List StepD) (k : Nat) (s : StepD), k < ss.length → ((((flatS ss).set (k * 4) (.int .i64 s.fr)).set (k * 4 + 1) (.string s.le)).set (k * 4 + 2) (.int .i64 s.to_)).set (k * 4 + 3) (.int .i64 s.co) = flatS (ss.set k s)
  | [], k, s, h => by simp at h
  | t :: ss, 0, s, _ => by simp [flatS]
  | t :: ss, k + 1, s, h => by
    have ih := flatS_set ss k s (by simpa using h)
    have e0 : (k + 1) * 4 = k * 4 + 4 := by omega
    have e1 : (k + 1) * 4 + 1 = (k * 4 + 1) + 4 := by omega
    have e2 : (k + 1) * 4 + 2 = (k * 4 + 2) + 4 := by omega
    have e3 : (k + 1) * 4 + 3 = (k * 4 + 3) + 4 := by omega
    rw [e1, e2, e3, e0]
    simp only [flatS, List.set_cons_succ]
    rw [ih]
theorem flatS_new : ∀ n : Nat, flatS (List.replicate n default) = (List.replicate n (stepC default)).flatten
  | 0 => rfl
  | n + 1 => by rw [List.replicate_succ, List.replicate_succ, List.flatten_cons, ← flatS_new n]; rfl

def SBlk (w : World) (g : Nat) (t : TypeId) (ss : List StepD) : Prop := Blk w g t (flatS ss).toArray
theorem SBlk.at_ {w : World} {g : Nat} {t : TypeId} {ss : List StepD} (h : SBlk w g t ss) {k : Nat} (hk : k < ss.length) : StepAt w g (k * 4) (ss.getD k default) := by
  obtain ⟨h0, h1, h2, h3⟩ := flatS_get ss k hk
  refine ⟨?_, ?_, ?_, ?_⟩
  · rw [Blk.cell h, List.getElem?_toArray]; exact h0
  · rw [Blk.cell h, List.getElem?_toArray]; exact h1
  · rw [Blk.cell h, List.getElem?_toArray]; exact h2
  · rw [Blk.cell h, List.getElem?_toArray]; exact h3
theorem SBlk.fz {w : World} {g : Nat} {t : TypeId} {ss : List StepD} (h : SBlk w g t ss) (k : Nat) : w.frozen? ⟨g, k, none⟩ = false := Blk.frozen h k
theorem SBlk.below {w w' : World} {g : Nat} {t : TypeId} {ss : List StepD} (h : SBlk w g t ss) (hb : Below w.heap.size w w') : SBlk w' g t ss := Blk.below h hb (Blk.lt h)
theorem SBlk.row {w : World} {g : Nat} {t : TypeId} {ss : List StepD} (h : SBlk w g t ss) (hl : ss.length ≤ 9223372036854775807) (hs : ∀ s ∈ ss, s.le.size ≤ 9223372036854775807) : SRow w w.heap.size (some ⟨g, 0, none⟩) ss :=
  ⟨hl, hs, fun _ => ⟨g, 0, rfl, Blk.lt h, fun k hk => by rw [Nat.zero_add]; exact h.at_ hk⟩⟩
theorem SBlk.put {w : World} {g : Nat} {t : TypeId} {ss : List StepD} (h : SBlk w g t ss) (k : Nat) (s : StepD) (hk : k < ss.length) :
    SBlk ((((w.setCell ⟨g, k * 4, none⟩ (.int .i64 s.fr)).setCell ⟨g, k * 4 + 1, none⟩ (.string s.le)).setCell ⟨g, k * 4 + 2, none⟩ (.int .i64 s.to_)).setCell ⟨g, k * 4 + 3, none⟩ (.int .i64 s.co)) g t (ss.set k s) := by
  have h4 := (((Blk.set_ h (k * 4) (.int .i64 s.fr)).set_ (k * 4 + 1) (.string s.le)).set_ (k * 4 + 2) (.int .i64 s.to_)).set_ (k * 4 + 3) (.int .i64 s.co)
  unfold SBlk
  rw [← flatS_set ss k s hk]
  simpa using h4
theorem info_step : (Tryd.prog.info? 75).map (fun i => (i.zero, i.size, i.bytes)) = some (some (.agg #[.int .i64 0, .string ByteArray.empty, .int .i64 0, .int .i64 0]), 4, 40) := by kernel_rfl
theorem made_steps (n : Nat) : madeCells #[.int .i64 0, .string ByteArray.empty, .int .i64 0, .int .i64 0] (n * 4) = (flatS (List.replicate n default)).toArray := by
  apply Array.ext_getElem?
  intro i
  have hR : (flatS (List.replicate n default)).toArray[i]? = (flatS (List.replicate n default))[i]? := by simp
  rw [hR]
  by_cases hi : i < n * 4
  · have hk : i / 4 < n := by omega
    obtain ⟨h0, h1, h2, h3⟩ := flatS_get (List.replicate n default) (i / 4) (by simpa using hk)
    have hd : (List.replicate n (default : StepD)).getD (i / 4) default = default := by rw [List.getD_eq_getElem?_getD, List.getElem?_replicate, if_pos hk]; rfl
    rw [hd] at h0 h1 h2 h3
    have hm : i % 4 = 0 ∨ i % 4 = 1 ∨ i % 4 = 2 ∨ i % 4 = 3 := by omega
    rcases hm with hm | hm | hm | hm
    · have e : i = i / 4 * 4 := by omega
      rw [← e] at h0
      rw [h0]; simp [madeCells, hi, hm] <;> rfl
    · have e : i = i / 4 * 4 + 1 := by omega
      rw [← e] at h1
      rw [h1]; simp [madeCells, hi, hm] <;> rfl
    · have e : i = i / 4 * 4 + 2 := by omega
      rw [← e] at h2
      rw [h2]; simp [madeCells, hi, hm] <;> rfl
    · have e : i = i / 4 * 4 + 3 := by omega
      rw [← e] at h3
      rw [h3]; simp [madeCells, hi, hm] <;> rfl
  · rw [List.getElem?_eq_none (by rw [flatS_len]; simp; omega)]
    simp [madeCells, hi]
/-- make([]Step, n). -/
theorem make_steps (n : Nat) (hn : n ≤ 1048576) (w : World) :
    (Instr.makeSlice 24 (.int .i64 (n : Int)) (.int .i64 (n : Int))).run Tryd.prog w = .ok (.slice (some ⟨w.heap.size, 0, none⟩) n n) (w.alloc (.cells (flatS (List.replicate n default)).toArray 75)) := by
  obtain ⟨i, hi, hzz⟩ := Option.map_eq_some_iff.1 info_step
  simp only [Prod.mk.injEq] at hzz
  obtain ⟨hz, hs, hb⟩ := hzz
  have hb' : (i.bytes : Int) * (n : Int) ≤ 281474976710656 := by rw [hb]; omega
  have hr := run_make (P := Tryd.prog) w 24 75 i _ Tryd.underlying24 hi hz .i64 .i64 n n (by omega) (Int.le_refl _) hb' (by omega)
  simp only [Int.toNat_natCast, hs] at hr
  rw [← made_steps]
  exact hr
end Go.Proofs.YtfdbbopanankgaaDoor
namespace Go.Proofs.YtfdbbopanankgaaDoor
open Go.RowKit
set_option maxHeartbeats 1000000
set_option maxRecDepth 100000
set_option linter.unusedVariables false

theorem four_cells {w : World} {g : Nat} {t : TypeId} {u0 u1 u2 u3 : Value} (h : Blk w g t #[u0, u1, u2, u3]) :
    w.cell? ⟨g, 0, none⟩ = some u0 ∧ w.cell? ⟨g, 1, none⟩ = some u1 ∧ w.cell? ⟨g, 2, none⟩ = some u2 ∧ w.cell? ⟨g, 3, none⟩ = some u3 := ⟨h.cell 0, h.cell 1, h.cell 2, h.cell 3⟩
theorem four_frozen {w : World} {g : Nat} {t : TypeId} {cs : Array Value} (h : Blk w g t cs) :
    w.frozen? ⟨g, 0, none⟩ = false ∧ w.frozen? ⟨g, 1, none⟩ = false ∧ w.frozen? ⟨g, 2, none⟩ = false ∧ w.frozen? ⟨g, 3, none⟩ = false := ⟨h.frozen 0, h.frozen 1, h.frozen 2, h.frozen 3⟩

def stepV (s : StepD) : Value := .agg #[.int .i64 s.fr, .string s.le, .int .i64 s.to_, .int .i64 s.co]

/-- A size that is left. -/
def SzEnd (n : Nat) (left : Int) (w : World) (e : Ending) (w' : World) : Prop :=
  ∃ v : Int, e = .returned (.int .i64 v) ∧ -1 ≤ v ∧ v ≤ left ∧ (0 ≤ v → (n : Int) ≤ left) ∧ Hid (Below w.heap.size w w')

end Go.Proofs.YtfdbbopanankgaaDoor
namespace Go.Proofs.YtfdbbopanankgaaDoor
open Go.RowKit
set_option maxHeartbeats 1000000
set_option maxRecDepth 100000
set_option linter.unusedVariables false

theorem steps_set {ss us : List StepD} {k : Nat} {s : StepD} (hl : us.length = ss.length) (ht : us.take k = ss.take k) (hk : k < ss.length) (hs : ss.getD k default = s) : (us.set k s).take (k + 1) = ss.take (k + 1) := by
  have e : ss[k] = s := by rw [List.getD_eq_getElem?_getD, List.getElem?_eq_getElem hk] at hs; exact hs
  have h1 : k < (us.set k s).length := by rw [List.length_set, hl]; exact hk
  rw [List.take_succ_eq_append_getElem h1, List.take_succ_eq_append_getElem hk, e, List.getElem_set_self, List.take_set, List.set_eq_of_length_le (by simp; omega), ht]

end Go.Proofs.YtfdbbopanankgaaDoor
namespace Go.Proofs.YtfdbbopanankgaaDoor
open Go.RowKit
set_option maxHeartbeats 1000000
set_option maxRecDepth 100000
set_option linter.unusedVariables false

theorem sblk_other {w : World} {g : Nat} {t : TypeId} {ss : List StepD} (h : SBlk w g t ss) (k i : Nat) (v : Value) (hk : ¬ k = g) : SBlk (w.setCell ⟨k, i, none⟩ v) g t ss := Blk.other h k i v hk
theorem ints_on {w w' : World} {B : Nat} {A : Option Addr} {zs : List Int} (h : Ints w B A zs) (hB : B ≤ w.heap.size) (hb : Below w.heap.size w w') : Ints w' w'.heap.size A zs := (h.below (hb.mono hB)).more (Nat.le_trans hB hb.size)
theorem set_size (w : World) (a : Addr) (v : Value) : w.heap.size ≤ (w.setCell a v).heap.size := by simp [World.setCell]
/-- An automaton that a call has copied. -/
def CopA (m : Int) (xs ys : List Int) (ss : List StepD) (w : World) (e : Ending) (w' : World) : Prop :=
  ∃ g1 g2 g3, e = .returned (.agg #[.int .i64 m, .slice (some ⟨g1, 0, none⟩) xs.length xs.length, .slice (some ⟨g2, 0, none⟩) ys.length ys.length, .slice (some ⟨g3, 0, none⟩) ss.length ss.length]) ∧
    Hid (Ints w' w'.heap.size (some ⟨g1, 0, none⟩) xs) ∧ Hid (Ints w' w'.heap.size (some ⟨g2, 0, none⟩) ys) ∧ Hid (SBlk w' g3 75 ss) ∧ Hid (Below w.heap.size w w')
end Go.Proofs.YtfdbbopanankgaaDoor
