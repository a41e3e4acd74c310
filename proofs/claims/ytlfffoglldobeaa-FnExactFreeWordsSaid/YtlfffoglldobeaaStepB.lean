/- A block of steps known whole: its cells, a step stored, a new one made. No condition. -/
import Derived.Test.YtlfffoglldobeaaSteps
import Derived.Test.YtlfffoglldobeaaDrawKit
import Derived.Deep.OwnRows
namespace Go.Proofs.Ytlfffoglldobeaa
open Go.RowKit
set_option linter.unusedVariables false

def stepC (s : StepD) : List Value := [.int .i64 s.fr, .string s.le, .int .i64 s.to_, .int .i64 s.co]
def flatS : List StepD → List Value
  | [] => []
  | s :: ss => .int .i64 s.fr :: .string s.le :: .int .i64 s.to_ :: .int .i64 s.co :: flatS ss
theorem flatS_len : ∀ ss : List StepD, (flatS ss).length = ss.length * 4
  | [] => rfl
  | s :: ss => by simp [flatS, flatS_len ss]; omega
theorem flatS_get : ∀ (ss : List StepD) (k : Nat), k < ss.length → (flatS ss)[k * 4]? = some (.int .i64 (ss.getD k default).fr) ∧ (flatS ss)[k * 4 + 1]? = some (.string (ss.getD k default).le) ∧ (flatS ss)[k * 4 + 2]? = some (.int .i64 (ss.getD k default).to_) ∧ (flatS ss)[k * 4 + 3]? = some (.int .i64 (ss.getD k default).co)
  | [], k, h => by simp at h
  | s :: ss, 0, _ => by simp [flatS]
  | s :: ss, k + 1, h => by
    have ih := flatS_get ss k (by simpa using h)
    have e0 : (k + 1) * 4 = k * 4 + 4 := by omega
    have e1 : (k + 1) * 4 + 1 = (k * 4 + 1) + 4 := by omega
    have e2 : (k + 1) * 4 + 2 = (k * 4 + 2) + 4 := by omega
    have e3 : (k + 1) * 4 + 3 = (k * 4 + 3) + 4 := by omega
    rw [e1, e2, e3, e0]
    simp only [flatS, List.getElem?_cons_succ, List.getD_cons_succ]
    exact ih
theorem flatS_set : ∀ (ss : List StepD) (k : Nat) (s : StepD), k < ss.length → ((((flatS ss).set (k * 4) (.int .i64 s.fr)).set (k * 4 + 1) (.string s.le)).set (k * 4 + 2) (.int .i64 s.to_)).set (k * 4 + 3) (.int .i64 s.co) = flatS (ss.set k s)
  | [], k, s, h => by simp at h
  | t :: ss, 0, s, _ => by simp [flatS]
  | t :: ss, k + 1, s, h => by
    have ih := flatS_set ss k s (by simpa using h)
    have e0 : (k + 1) * 4 = k * 4 + 4 := by omega
    have e1 : (k + 1) * 4 + 1 = (k * 4 + 1) + 4 := by omega
    have e2 : (k + 1) * 4 + 2 = (k * 4 + 2) + 4 := by omega
    have e3 : (k + 1) * 4 + 3 = (k * 4 + 3) + 4 := by omega
    rw [e1, e2, e3, e0]
    simp only [flatS, List.set_cons_succ]
    rw [ih]
theorem flatS_new : ∀ n : Nat, flatS (List.replicate n default) = (List.replicate n (stepC default)).flatten
  | 0 => rfl
  | n + 1 => by rw [List.replicate_succ, List.replicate_succ, List.flatten_cons, ← flatS_new n]; rfl

def SBlk (w : World) (g : Nat) (t : TypeId) (ss : List StepD) : Prop := Blk w g t (flatS ss).toArray
theorem SBlk.at_ {w : World} {g : Nat} {t : TypeId} {ss : List StepD} (h : SBlk w g t ss) {k : Nat} (hk : k < ss.length) : StepAt w g (k * 4) (ss.getD k default) := by
  obtain ⟨h0, h1, h2, h3⟩ := flatS_get ss k hk
  refine ⟨?_, ?_, ?_, ?_⟩
  · rw [Blk.cell h, List.getElem?_toArray]; exact h0
  · rw [Blk.cell h, List.getElem?_toArray]; exact h1
  · rw [Blk.cell h, List.getElem?_toArray]; exact h2
  · rw [Blk.cell h, List.getElem?_toArray]; exact h3
theorem SBlk.fz {w : World} {g : Nat} {t : TypeId} {ss : List StepD} (h : SBlk w g t ss) (k : Nat) : w.frozen? ⟨g, k, none⟩ = false := Blk.frozen h k
theorem SBlk.below {w w' : World} {g : Nat} {t : TypeId} {ss : List StepD} (h : SBlk w g t ss) (hb : Below w.heap.size w w') : SBlk w' g t ss := Blk.below h hb (Blk.lt h)
theorem SBlk.row {w : World} {g : Nat} {t : TypeId} {ss : List StepD} (h : SBlk w g t ss) (hl : ss.length ≤ 9223372036854775807) (hs : ∀ s ∈ ss, s.le.size ≤ 9223372036854775807) : SRow w w.heap.size (some ⟨g, 0, none⟩) ss :=
  ⟨hl, hs, fun _ => ⟨g, 0, rfl, Blk.lt h, fun k hk => by rw [Nat.zero_add]; exact h.at_ hk⟩⟩
theorem SBlk.put {w : World} {g : Nat} {t : TypeId} {ss : List StepD} (h : SBlk w g t ss) (k : Nat) (s : StepD) (hk : k < ss.length) :
    SBlk ((((w.setCell ⟨g, k * 4, none⟩ (.int .i64 s.fr)).setCell ⟨g, k * 4 + 1, none⟩ (.string s.le)).setCell ⟨g, k * 4 + 2, none⟩ (.int .i64 s.to_)).setCell ⟨g, k * 4 + 3, none⟩ (.int .i64 s.co)) g t (ss.set k s) := by
  have h4 := (((Blk.set_ h (k * 4) (.int .i64 s.fr)).set_ (k * 4 + 1) (.string s.le)).set_ (k * 4 + 2) (.int .i64 s.to_)).set_ (k * 4 + 3) (.int .i64 s.co)
  unfold SBlk
  rw [← flatS_set ss k s hk]
  simpa using h4
theorem info_step : (Try.prog.info? 67).map (fun i => (i.zero, i.size, i.bytes)) = some (some (.agg #[.int .i64 0, .string ByteArray.empty, .int .i64 0, .int .i64 0]), 4, 40) := by kernel_rfl
theorem made_steps (n : Nat) : madeCells #[.int .i64 0, .string ByteArray.empty, .int .i64 0, .int .i64 0] (n * 4) = (flatS (List.replicate n default)).toArray := by
  apply Array.ext_getElem?
  intro i
  have hR : (flatS (List.replicate n default)).toArray[i]? = (flatS (List.replicate n default))[i]? := by simp
  rw [hR]
  by_cases hi : i < n * 4
  · have hk : i / 4 < n := by omega
    obtain ⟨h0, h1, h2, h3⟩ := flatS_get (List.replicate n default) (i / 4) (by simpa using hk)
    have hd : (List.replicate n (default : StepD)).getD (i / 4) default = default := by rw [List.getD_eq_getElem?_getD, List.getElem?_replicate, if_pos hk]; rfl
    rw [hd] at h0 h1 h2 h3
    have hm : i % 4 = 0 ∨ i % 4 = 1 ∨ i % 4 = 2 ∨ i % 4 = 3 := by omega
    rcases hm with hm | hm | hm | hm
    · have e : i = i / 4 * 4 := by omega
      rw [← e] at h0
      rw [h0]; simp [madeCells, hi, hm] <;> rfl
    · have e : i = i / 4 * 4 + 1 := by omega
      rw [← e] at h1
      rw [h1]; simp [madeCells, hi, hm] <;> rfl
    · have e : i = i / 4 * 4 + 2 := by omega
      rw [← e] at h2
      rw [h2]; simp [madeCells, hi, hm] <;> rfl
    · have e : i = i / 4 * 4 + 3 := by omega
      rw [← e] at h3
      rw [h3]; simp [madeCells, hi, hm] <;> rfl
  · rw [List.getElem?_eq_none (by rw [flatS_len]; simp; omega)]
    simp [madeCells, hi]
/-- make([]Step, n). -/
theorem make_steps (n : Nat) (hn : n ≤ 1048576) (w : World) :
    (Instr.makeSlice 30 (.int .i64 (n : Int)) (.int .i64 (n : Int))).run Try.prog w = .ok (.slice (some ⟨w.heap.size, 0, none⟩) n n) (w.alloc (.cells (flatS (List.replicate n default)).toArray 67)) := by
  obtain ⟨i, hi, hzz⟩ := Option.map_eq_some_iff.1 info_step
  simp only [Prod.mk.injEq] at hzz
  obtain ⟨hz, hs, hb⟩ := hzz
  have hb' : (i.bytes : Int) * (n : Int) ≤ 281474976710656 := by rw [hb]; omega
  have hr := run_make (P := Try.prog) w 30 67 i _ Try.underlying30 hi hz .i64 .i64 n n (by omega) (Int.le_refl _) hb' (by omega)
  simp only [Int.toNat_natCast, hs] at hr
  rw [← made_steps]
  exact hr
end Go.Proofs.Ytlfffoglldobeaa
