/- Maps from moves to costs that a call makes: what each key reads as, a store, a look-up that finds and one that doesn't. Conditions: the numbers are those of an int, a letter is no longer than a length. -/
import Derived.Test.YthgkhpbfbilgmaaDoorProg
import Derived.WalkKit
import Derived.Lib.Hide
import Derived.Maps.OwnSet
import Derived.Maps.OwnOps
import Derived.Maps.Views
import Derived.DeepKeys4
namespace Go.Proofs.YthgkhpbfbilgmaaDoor
open Go.RowKit Go.Maps Go.WideShapes
set_option maxHeartbeats 400000
set_option linter.unusedVariables false

theorem laidO : laidOutB Tryd.prog = true := by kernel_rfl
theorem moveLaw : Keyed Tryd.prog 114 :=
  Keyed.of_law (deep_law_laid laidO (m := 4) (by decide) (of_decide_eq_true (by kernel_rfl)) (by kernel_rfl) (by kernel_rfl))

def moveV (f : Int) (l : ByteArray) (t : Int) : Value := .agg #[.int .i64 f, .string l, .int .i64 t]
def mkey (f : Int) (l : ByteArray) (t : Int) : Lit := .string (keyBytes [.int .i64 f, .string l.data.toList, .int .i64 t])
def kwf (f : Int) (l : ByteArray) (t : Int) : Prop := (Lit.int .i64 f).wf = true ∧ l.size ≤ maxLen ∧ (Lit.int .i64 t).wf = true

theorem move_size : ∃ d, Tryd.prog.types.size = d + 1 + 1 := ⟨Tryd.prog.types.size - 2, of_decide_eq_true (by kernel_rfl)⟩
theorem move_cut : (Tryd.prog.cutTypes.any (·.2 == 114)) = false := by kernel_rfl
theorem move_stood : Tryd.prog.stoodInHeld 114 = false := by kernel_rfl
theorem move_type : Tryd.prog.keyType 114 = true := by
  obtain ⟨d, hd⟩ := move_size
  unfold Program.keyType
  rw [hd]
  unfold Program.keyTypeAt
  simp only [Tryd.underlying114, move_cut, move_stood]
  unfold Program.keyTypeAt
  simp [Tryd.underlying3, Tryd.underlying9]
theorem move_cells : Tryd.prog.cellsOf 114 = 3 := by kernel_rfl
theorem int_cells : Tryd.prog.cellsOf 3 = 1 := by kernel_rfl
theorem str_cells : Tryd.prog.cellsOf 9 = 1 := by kernel_rfl
theorem key_move {f t : Int} {l : ByteArray} (h : kwf f l t) : keyOf Tryd.prog 114 (moveV f l t) = some (mkey f l t) := by
  obtain ⟨hf, hl, ht⟩ := h
  obtain ⟨d, hd⟩ := move_size
  unfold keyOf moveV mkey
  simp only [Tryd.underlying114, move_type, Value.formed, move_cells]
  rw [hd]
  unfold Program.keyLits
  simp only [Tryd.underlying114, move_cells, Value.cells]
  unfold Program.keyLits
  simp [Tryd.underlying3, Tryd.underlying9, int_cells, str_cells, hf, ht, hl]

theorem mkey_inj {f t f' t' : Int} {l l' : ByteArray} (h : kwf f l t) (h' : kwf f' l' t') (e : mkey f l t = mkey f' l' t') : f = f' ∧ l = l' ∧ t = t' := by
  have h1 := moveLaw.inj (key_move h) (by rw [e]; exact key_move h')
  simp [moveV] at h1
  exact h1

/-- What a datum tells of each move. -/
def CIs (D : DataW Unit) (F : Int → ByteArray → Int → Option Int) : Prop := ∀ f l t, kwf f l t → ∀ zd, D.atKey (mkey f l t) zd = ((F f l t).map fun c => DataW.lit (.int .i64 c)).getD zd
def updC (F : Int → ByteArray → Int → Option Int) (f : Int) (l : ByteArray) (t c : Int) : Int → ByteArray → Int → Option Int := fun f' l' t' => if f' = f ∧ l'.data = l.data ∧ t' = t then some c else F f' l' t'
theorem CIs.put {D : DataW Unit} {F : Int → ByteArray → Int → Option Int} (h : CIs D F) (hD : IsMap D) {f t : Int} {l : ByteArray} (hk : kwf f l t) (c : Int) : CIs (D.put (mkey f l t) (.lit (.int .i64 c))) (updC F f l t c) := by
  intro f' l' t' hk' zd
  unfold updC
  by_cases e : f' = f ∧ l'.data = l.data ∧ t' = t
  · rw [if_pos e]
    obtain ⟨rfl, e2, rfl⟩ := e
    have : l' = l := by cases l'; cases l; simp at e2; rw [e2]
    subst this
    rw [atKey_put_same hD (moveLaw.key (key_move hk))]
    rfl
  · rw [if_neg e, atKey_put_other (fun he => e (by obtain ⟨a, b, c⟩ := mkey_inj hk' hk he; exact ⟨a, by rw [b], c⟩))]
    exact h f' l' t' hk' zd
/-- Block M is a map of at most n entries that tells F. -/
def CMap (w : World) (M n : Nat) (F : Int → ByteArray → Int → Option Int) : Prop := ∃ D : DataW Unit, w.ownsMap Tryd.prog 114 (plainElem Tryd.prog 3) M n D ∧ CIs D F
theorem CMap.kept {w w' : World} {M n : Nat} {F : Int → ByteArray → Int → Option Int} {row : Option Nat} (h : CMap w M n F) (hg : w.grownBy w' row) (hne : some M ≠ row) : CMap w' M n F := by
  obtain ⟨D, h1, h2⟩ := h
  exact ⟨D, h1.kept hg hne, h2⟩
theorem CMap.lt {w : World} {M n : Nat} {F : Int → ByteArray → Int → Option Int} (h : CMap w M n F) : M < w.heap.size := by
  obtain ⟨D, h1, _⟩ := h
  exact h1.lt
theorem CMap.mono {w : World} {M n m : Nat} {F : Int → ByteArray → Int → Option Int} (h : CMap w M n F) (hm : n ≤ m) : CMap w M m F := by
  obtain ⟨D, h1, h2⟩ := h
  exact ⟨D, h1.mono hm, h2⟩
theorem CMap.below {w w' : World} {M n : Nat} {F : Int → ByteArray → Int → Option Int} (h : CMap w M n F) (hb : Below w.heap.size w w') : CMap w' M n F :=
  h.kept (row := none) ⟨hb.os, hb.tape, hb.output, hb.size, fun k hk _ => hb.block k hk⟩ (by simp)
theorem CMap.made (w : World) : CMap (w.alloc (.map #[] 0)) w.heap.size 0 (fun _ _ _ => none) :=
  ⟨.map [], World.ownsMap_made _ _ _ _, fun f l t _ zd => rfl⟩
theorem CMap.of_obj {w : World} {M : Nat} (h : w.heap[M]? = some (.map #[] 0)) : CMap w M 0 (fun _ _ _ => none) :=
  ⟨.map [], ⟨#[], 0, h, ⟨by simp, MapKept.stamped_empty 0, by simp⟩, Nat.le_refl _, rfl⟩, fun f l t _ zd => rfl⟩
theorem zeroInt (w : World) : (zeroValue 3).run Tryd.prog w = .ok (.int .i64 0) w := by kernel_rfl

theorem CMap.look_some {w : World} {M n : Nat} {F : Int → ByteArray → Int → Option Int} (h : CMap w M n F) {f t c : Int} {l : ByteArray} (hk : kwf f l t) (hF : F f l t = some c) :
    (Instr.lookup 56 (.map (some M)) (moveV f l t) true).run Tryd.prog w = .ok (.tuple #[.int .i64 c, .bool true]) w := by
  obtain ⟨D, h1, h2⟩ := h
  obtain ⟨v, ps, hrun, hv⟩ := h1.look_ok moveLaw Tryd.underlying56 (zeroInt w) (plainElem_int Tryd.underlying3 (by decide)) (key_move hk)
  have hat : ∀ zd, D.atKey (mkey f l t) zd = .lit (.int .i64 c) := fun zd => by rw [h2 f l t hk zd, hF]; rfl
  rw [hat] at hv
  obtain ⟨a, rfl, ha, _⟩ := plainElem_int_inv Tryd.underlying3 hv
  simp at ha
  obtain ⟨rfl, _⟩ := ha
  rw [hrun, has_true_of_atKey hat]
theorem CMap.look_none {w : World} {M n : Nat} {F : Int → ByteArray → Int → Option Int} (h : CMap w M n F) {f t : Int} {l : ByteArray} (hk : kwf f l t) (hF : F f l t = none) :
    (Instr.lookup 56 (.map (some M)) (moveV f l t) true).run Tryd.prog w = .ok (.tuple #[.int .i64 0, .bool false]) w := by
  obtain ⟨D, h1, h2⟩ := h
  obtain ⟨v, ps, hrun, hv⟩ := h1.look_ok moveLaw Tryd.underlying56 (zeroInt w) (plainElem_int Tryd.underlying3 (by decide)) (key_move hk)
  have hat : ∀ zd, D.atKey (mkey f l t) zd = zd := fun zd => by rw [h2 f l t hk zd, hF]; rfl
  rw [hat] at hv
  obtain ⟨a, rfl, ha, _⟩ := plainElem_int_inv Tryd.underlying3 hv
  simp at ha
  obtain ⟨rfl, _⟩ := ha
  rw [hrun, has_false_of_atKey hat]

section
variable (w : World) {ops : Array Oper} {rest : List Oper} {o : Oper} {a : Act} {Q : Exit → Act → World → Prop}
/-- A look-up with its truth, at the operation. -/
theorem wpList_look (hg : o.guard = none) (m x : Operand) (hop : o.op = Op.lookup 56 m x true) (M n : Nat) (F : Int → ByteArray → Int → Option Int)
    (hm : a.eval m = .map (some M)) (h : CMap w M n F) (f t : Int) (l : ByteArray) (hx : a.eval x = .agg #[.int .i64 f, .string l, .int .i64 t]) (hk : kwf f l t) (c : Int) (b : Bool) (hF : F f l t = if b then some c else none) (hc : b = false → c = 0)
    (hK : wpList Tryd.prog ops Q rest (a.put o.dst (.tuple #[.int .i64 c, .bool b])) w) : wpList Tryd.prog ops Q (o :: rest) a w := by
  refine wpList_plain hg fun K' hK' => ?_
  have hrun : (Instr.lookup 56 (.map (some M)) (moveV f l t) true).run Tryd.prog w = .ok (.tuple #[.int .i64 c, .bool b]) w := by
    cases b
    · rw [hc rfl]; exact h.look_none hk hF
    · exact h.look_some hk hF
  unfold moveV at hrun
  unfold Oper.wp
  simp [execOp, hop, hm, hx, hrun, Result.andThen]
  exact hK' _ _ hK
/-- A store, at the operation. -/
theorem wpList_store (hg : o.guard = none) (m x v : Operand) (hop : o.op = Op.mapUpdate 56 m x v) (M n : Nat) (F : Int → ByteArray → Int → Option Int)
    (hm : a.eval m = .map (some M)) (h : CMap w M n F) (hn : n < maxLen) (f t : Int) (l : ByteArray) (hx : a.eval x = .agg #[.int .i64 f, .string l, .int .i64 t]) (hk : kwf f l t) (c : Int) (hv : a.eval v = .int .i64 c) (hc : (Lit.int .i64 c).wf = true)
    (hK : ∀ w', CMap w' M (n + 1) (updC F f l t c) → w.grownBy w' (some M) → wpList Tryd.prog ops Q rest (a.put o.dst undef) w') : wpList Tryd.prog ops Q (o :: rest) a w := by
  obtain ⟨D, h1, h2⟩ := h
  refine wpList_mapUpdate_own w hg m x v _ hop 114 3 moveLaw Tryd.underlying56 (plainElem Tryd.prog 3) M n D hm h1 hn _ _ (mkey f l t) hx hv (key_move hk) (.lit (.int .i64 c)) [] (plainElem_int Tryd.underlying3 hc) ?_
  intro w' ho hgr
  exact hK w' ⟨_, ho, h2.put h1.isMap hk c⟩ hgr
end
end Go.Proofs.YthgkhpbfbilgmaaDoor
