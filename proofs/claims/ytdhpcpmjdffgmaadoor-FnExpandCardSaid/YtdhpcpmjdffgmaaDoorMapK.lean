/- Maps from moves to costs that a call makes: what each key reads as, a store, a look-up that finds and one that doesn't. Conditions: the numbers are those of an int, a letter is no longer than a length. A map from moves to costs that the call made, ranged over: which moves are still to come. No condition. -/
import Derived.Test.YtdhpcpmjdffgmaaDoorProg
import Derived.WalkKit
import Derived.Lib.Hide
import Derived.Maps.OwnSet
import Derived.Maps.OwnOps
import Derived.Maps.Views
import Derived.DeepKeys4
import Derived.Maps.RangeWalk
namespace Go.Proofs.YtdhpcpmjdffgmaaDoor
open Go.RowKit Go.Maps Go.WideShapes
set_option maxHeartbeats 400000
set_option linter.unusedVariables false

theorem laidO : laidOutB Tryd.prog = true := by kernel_rfl
def moveV (f : Int) (l : ByteArray) (t : Int) : Value := .agg #[.int .i64 f, .string l, .int .i64 t]
def mkey (f : Int) (l : ByteArray) (t : Int) : Lit := .string (keyBytes [.int .i64 f, .string l.data.toList, .int .i64 t])
def kwf (f : Int) (l : ByteArray) (t : Int) : Prop := (Lit.int .i64 f).wf = true ∧ l.size ≤ maxLen ∧ (Lit.int .i64 t).wf = true

theorem move_size : ∃ d, Tryd.prog.types.size = d + 1 + 1 := ⟨Tryd.prog.types.size - 2, of_decide_eq_true (by kernel_rfl)⟩
theorem int_cells : Tryd.prog.cellsOf 3 = 1 := by kernel_rfl
theorem str_cells : Tryd.prog.cellsOf 9 = 1 := by kernel_rfl
/-- What a datum tells of each move. -/
def CIs (D : DataW Unit) (F : Int → ByteArray → Int → Option Int) : Prop := ∀ f l t, kwf f l t → ∀ zd, D.atKey (mkey f l t) zd = ((F f l t).map fun c => DataW.lit (.int .i64 c)).getD zd
def updC (F : Int → ByteArray → Int → Option Int) (f : Int) (l : ByteArray) (t c : Int) : Int → ByteArray → Int → Option Int := fun f' l' t' => if f' = f ∧ l'.data = l.data ∧ t' = t then some c else F f' l' t'
theorem zeroInt (w : World) : (zeroValue 3).run Tryd.prog w = .ok (.int .i64 0) w := by kernel_rfl

section
variable (w : World) {ops : Array Oper} {rest : List Oper} {o : Oper} {a : Act} {Q : Exit → Act → World → Prop}
end
end Go.Proofs.YtdhpcpmjdffgmaaDoor
namespace Go.Proofs.YtdhpcpmjdffgmaaDoor
open Go.RowKit Go.Maps Go.WideShapes
set_option maxHeartbeats 400000
set_option linter.unusedVariables false
set_option maxRecDepth 100000

theorem lits_int {d : Nat} {a : Value} {L : List Lit} (h : Tryd.prog.keyLits (d + 1) 3 [a] = some L) : ∃ n, a = .int .i64 n ∧ (Lit.int .i64 n).wf = true := by
  unfold Program.keyLits at h
  rw [Tryd.underlying3] at h
  cases a <;> simp at h
  obtain ⟨⟨rfl, hw⟩, _⟩ := h
  exact ⟨_, rfl, hw⟩
theorem lits_str {d : Nat} {a : Value} {L : List Lit} (h : Tryd.prog.keyLits (d + 1) 9 [a] = some L) : ∃ s, a = .string s ∧ s.size ≤ maxLen := by
  unfold Program.keyLits at h
  rw [Tryd.underlying9] at h
  cases a <;> simp at h
  exact ⟨_, rfl, h.1⟩
theorem three_of {l : List Value} (h : l.length = 3) : ∃ a b c, l = [a, b, c] := by
  match l, h with
  | [a, b, c], _ => exact ⟨a, b, c, rfl⟩
def strike (left : Int → ByteArray → Int → Bool) (f : Int) (l : ByteArray) (t : Int) : Int → ByteArray → Int → Bool := fun f' l' t' => left f' l' t' && !(decide (f' = f ∧ l'.data = l.data ∧ t' = t))
theorem CIs.some_of {D : DataW Unit} {F : Int → ByteArray → Int → Option Int} (h : CIs D F) {f t c : Int} {l : ByteArray} (hk : kwf f l t) (hat : ∀ zd, D.atKey (mkey f l t) zd = .lit (.int .i64 c)) : F f l t = some c := by
  rcases hF : F f l t with _ | c'
  · have h1 := h f l t hk .nil
    rw [hat, hF] at h1
    cases h1
  · have h1 := h f l t hk .nil
    rw [hat, hF] at h1
    simp at h1
    rw [h1]
theorem CIs.has_eq {D : DataW Unit} {F : Int → ByteArray → Int → Option Int} (h : CIs D F) {f t : Int} {l : ByteArray} (hk : kwf f l t) : Maps.has D (mkey f l t) = (F f l t).isSome := by
  rcases hF : F f l t with _ | c
  · exact has_false_of_atKey (fun zd => by rw [h f l t hk zd, hF]; rfl)
  · exact has_true_of_atKey (y := .lit (.int .i64 c)) (fun zd => by rw [h f l t hk zd, hF]; rfl)

section
variable (w : World) {ops : Array Oper} {rest : List Oper} {o : Oper} {a : Act} {Q : Exit → Act → World → Prop}
end
end Go.Proofs.YtdhpcpmjdffgmaaDoor
