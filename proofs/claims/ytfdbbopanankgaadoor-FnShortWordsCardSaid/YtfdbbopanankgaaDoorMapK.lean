/- Maps from moves to costs that a call makes: what each key reads as, a store, a look-up that finds and one that doesn't. Conditions: the numbers are those of an int, a letter is no longer than a length. A map from moves to costs that the call made, ranged over: which moves are still to come. No condition. -/
import Derived.Test.YtfdbbopanankgaaDoorProg
import Derived.WalkKit
import Derived.Lib.Hide
import Derived.Maps.OwnSet
import Derived.Maps.OwnOps
import Derived.Maps.Views
import Derived.DeepKeys4
import Derived.Maps.RangeWalk
namespace Go.Proofs.YtfdbbopanankgaaDoor
open Go.RowKit Go.Maps Go.WideShapes
set_option maxHeartbeats 400000
set_option linter.unusedVariables false

theorem laidO : laidOutB Tryd.prog = true := by kernel_rfl
theorem moveLaw : Keyed Tryd.prog 90 :=
  Keyed.of_law (deep_law_laid laidO (m := 4) (by decide) (of_decide_eq_true (by kernel_rfl)) (by kernel_rfl) (by kernel_rfl))

def moveV (f : Int) (l : ByteArray) (t : Int) : Value := .agg #[.int .i64 f, .string l, .int .i64 t]
def mkey (f : Int) (l : ByteArray) (t : Int) : Lit := .string (keyBytes [.int .i64 f, .string l.data.toList, .int .i64 t])
def kwf (f : Int) (l : ByteArray) (t : Int) : Prop := (Lit.int .i64 f).wf = true ∧ l.size ≤ maxLen ∧ (Lit.int .i64 t).wf = true

theorem move_size : ∃ d, Tryd.prog.types.size = d + 1 + 1 := ⟨Tryd.prog.types.size - 2, of_decide_eq_true (by kernel_rfl)⟩
theorem move_cut : (Tryd.prog.cutTypes.any (·.2 == 90)) = false := by kernel_rfl
theorem move_stood : Tryd.prog.stoodInHeld 90 = false := by kernel_rfl
theorem move_type : Tryd.prog.keyType 90 = true := by
  obtain ⟨d, hd⟩ := move_size
  unfold Program.keyType
  rw [hd]
  unfold Program.keyTypeAt
  simp only [Tryd.underlying90, move_cut, move_stood]
  unfold Program.keyTypeAt
  simp [Tryd.underlying3, Tryd.underlying9]
theorem move_cells : Tryd.prog.cellsOf 90 = 3 := by kernel_rfl
theorem int_cells : Tryd.prog.cellsOf 3 = 1 := by kernel_rfl
theorem str_cells : Tryd.prog.cellsOf 9 = 1 := by kernel_rfl
theorem key_move {f t : Int} {l : ByteArray} (h : kwf f l t) : keyOf Tryd.prog 90 (moveV f l t) = some (mkey f l t) := by
  obtain ⟨hf, hl, ht⟩ := h
  obtain ⟨d, hd⟩ := move_size
  unfold keyOf moveV mkey
  simp only [Tryd.underlying90, move_type, Value.formed, move_cells]
  rw [hd]
  unfold Program.keyLits
  simp only [Tryd.underlying90, move_cells, Value.cells]
  unfold Program.keyLits
  simp [Tryd.underlying3, Tryd.underlying9, int_cells, str_cells, hf, ht, hl]

theorem mkey_inj {f t f' t' : Int} {l l' : ByteArray} (h : kwf f l t) (h' : kwf f' l' t') (e : mkey f l t = mkey f' l' t') : f = f' ∧ l = l' ∧ t = t' := by
  have h1 := moveLaw.inj (key_move h) (by rw [e]; exact key_move h')
  simp [moveV] at h1
  exact h1

/-- What a datum tells of each move. -/
def CIs (D : DataW Unit) (F : Int → ByteArray → Int → Option Int) : Prop := ∀ f l t, kwf f l t → ∀ zd, D.atKey (mkey f l t) zd = ((F f l t).map fun c => DataW.lit (.int .i64 c)).getD zd
def updC (F : Int → ByteArray → Int → Option Int) (f : Int) (l : ByteArray) (t c : Int) : Int → ByteArray → Int → Option Int := fun f' l' t' => if f' = f ∧ l'.data = l.data ∧ t' = t then some c else F f' l' t'
theorem CIs.put {D : DataW Unit} {F : Int → ByteArray → Int → Option Int} (h : CIs D F) (hD : IsMap D) {f t : Int} {l : ByteArray} (hk : kwf f l t) (c : Int) : CIs (D.put (mkey f l t) (.lit (.int .i64 c))) (updC F f l t c) := by
  intro f' l' t' hk' zd
  unfold updC
  by_cases e : f' = f ∧ l'.data = l.data ∧ t' = t
  · rw [if_pos e]
    obtain ⟨rfl, e2, rfl⟩ := e
    have : l' = l := by cases l'; cases l; simp at e2; rw [e2]
    subst this
    rw [atKey_put_same hD (moveLaw.key (key_move hk))]
    rfl
  · rw [if_neg e, atKey_put_other (fun he => e (by obtain ⟨a, b, c⟩ := mkey_inj hk' hk he; exact ⟨a, by rw [b], c⟩))]
    exact h f' l' t' hk' zd
/-- Block M is a map of at most n entries that tells F. -/
def CMap (w : World) (M n : Nat) (F : Int → ByteArray → Int → Option Int) : Prop := ∃ D : DataW Unit, w.ownsMap Tryd.prog 90 (plainElem Tryd.prog 3) M n D ∧ CIs D F
theorem CMap.kept {w w' : World} {M n : Nat} {F : Int → ByteArray → Int → Option Int} {row : Option Nat} (h : CMap w M n F) (hg : w.grownBy w' row) (hne : some M ≠ row) : CMap w' M n F := by
  obtain ⟨D, h1, h2⟩ := h
  exact ⟨D, h1.kept hg hne, h2⟩
theorem CMap.lt {w : World} {M n : Nat} {F : Int → ByteArray → Int → Option Int} (h : CMap w M n F) : M < w.heap.size := by
  obtain ⟨D, h1, _⟩ := h
  exact h1.lt
theorem CMap.mono {w : World} {M n m : Nat} {F : Int → ByteArray → Int → Option Int} (h : CMap w M n F) (hm : n ≤ m) : CMap w M m F := by
  obtain ⟨D, h1, h2⟩ := h
  exact ⟨D, h1.mono hm, h2⟩
theorem CMap.below {w w' : World} {M n : Nat} {F : Int → ByteArray → Int → Option Int} (h : CMap w M n F) (hb : Below w.heap.size w w') : CMap w' M n F :=
  h.kept (row := none) ⟨hb.os, hb.tape, hb.output, hb.size, fun k hk _ => hb.block k hk⟩ (by simp)
theorem CMap.made (w : World) : CMap (w.alloc (.map #[] 0)) w.heap.size 0 (fun _ _ _ => none) :=
  ⟨.map [], World.ownsMap_made _ _ _ _, fun f l t _ zd => rfl⟩
theorem CMap.of_obj {w : World} {M : Nat} (h : w.heap[M]? = some (.map #[] 0)) : CMap w M 0 (fun _ _ _ => none) :=
  ⟨.map [], ⟨#[], 0, h, ⟨by simp, MapKept.stamped_empty 0, by simp⟩, Nat.le_refl _, rfl⟩, fun f l t _ zd => rfl⟩
theorem zeroInt (w : World) : (zeroValue 3).run Tryd.prog w = .ok (.int .i64 0) w := by kernel_rfl

theorem CMap.look_some {w : World} {M n : Nat} {F : Int → ByteArray → Int → Option Int} (h : CMap w M n F) {f t c : Int} {l : ByteArray} (hk : kwf f l t) (hF : F f l t = some c) :
    (Instr.lookup 43 (.map (some M)) (moveV f l t) true).run Tryd.prog w = .ok (.tuple #[.int .i64 c, .bool true]) w := by
  obtain ⟨D, h1, h2⟩ := h
  obtain ⟨v, ps, hrun, hv⟩ := h1.look_ok moveLaw Tryd.underlying43 (zeroInt w) (plainElem_int Tryd.underlying3 (by decide)) (key_move hk)
  have hat : ∀ zd, D.atKey (mkey f l t) zd = .lit (.int .i64 c) := fun zd => by rw [h2 f l t hk zd, hF]; rfl
  rw [hat] at hv
  obtain ⟨a, rfl, ha, _⟩ := plainElem_int_inv Tryd.underlying3 hv
  simp at ha
  obtain ⟨rfl, _⟩ := ha
  rw [hrun, has_true_of_atKey hat]
theorem CMap.look_none {w : World} {M n : Nat} {F : Int → ByteArray → Int → Option Int} (h : CMap w M n F) {f t : Int} {l : ByteArray} (hk : kwf f l t) (hF : F f l t = none) :
    (Instr.lookup 43 (.map (some M)) (moveV f l t) true).run Tryd.prog w = .ok (.tuple #[.int .i64 0, .bool false]) w := by
  obtain ⟨D, h1, h2⟩ := h
  obtain ⟨v, ps, hrun, hv⟩ := h1.look_ok moveLaw Tryd.underlying43 (zeroInt w) (plainElem_int Tryd.underlying3 (by decide)) (key_move hk)
  have hat : ∀ zd, D.atKey (mkey f l t) zd = zd := fun zd => by rw [h2 f l t hk zd, hF]; rfl
  rw [hat] at hv
  obtain ⟨a, rfl, ha, _⟩ := plainElem_int_inv Tryd.underlying3 hv
  simp at ha
  obtain ⟨rfl, _⟩ := ha
  rw [hrun, has_false_of_atKey hat]

section
variable (w : World) {ops : Array Oper} {rest : List Oper} {o : Oper} {a : Act} {Q : Exit → Act → World → Prop}
/-- A look-up with its truth, at the operation. -/
theorem wpList_look (hg : o.guard = none) (m x : Operand) (hop : o.op = Op.lookup 43 m x true) (M n : Nat) (F : Int → ByteArray → Int → Option Int)
    (hm : a.eval m = .map (some M)) (h : CMap w M n F) (f t : Int) (l : ByteArray) (hx : a.eval x = .agg #[.int .i64 f, .string l, .int .i64 t]) (hk : kwf f l t) (c : Int) (b : Bool) (hF : F f l t = if b then some c else none) (hc : b = false → c = 0)
    (hK : wpList Tryd.prog ops Q rest (a.put o.dst (.tuple #[.int .i64 c, .bool b])) w) : wpList Tryd.prog ops Q (o :: rest) a w := by
  refine wpList_plain hg fun K' hK' => ?_
  have hrun : (Instr.lookup 43 (.map (some M)) (moveV f l t) true).run Tryd.prog w = .ok (.tuple #[.int .i64 c, .bool b]) w := by
    cases b
    · rw [hc rfl]; exact h.look_none hk hF
    · exact h.look_some hk hF
  unfold moveV at hrun
  unfold Oper.wp
  simp [execOp, hop, hm, hx, hrun, Result.andThen]
  exact hK' _ _ hK
/-- A store, at the operation. -/
theorem wpList_store (hg : o.guard = none) (m x v : Operand) (hop : o.op = Op.mapUpdate 43 m x v) (M n : Nat) (F : Int → ByteArray → Int → Option Int)
    (hm : a.eval m = .map (some M)) (h : CMap w M n F) (hn : n < maxLen) (f t : Int) (l : ByteArray) (hx : a.eval x = .agg #[.int .i64 f, .string l, .int .i64 t]) (hk : kwf f l t) (c : Int) (hv : a.eval v = .int .i64 c) (hc : (Lit.int .i64 c).wf = true)
    (hK : ∀ w', CMap w' M (n + 1) (updC F f l t c) → w.grownBy w' (some M) → wpList Tryd.prog ops Q rest (a.put o.dst undef) w') : wpList Tryd.prog ops Q (o :: rest) a w := by
  obtain ⟨D, h1, h2⟩ := h
  refine wpList_mapUpdate_own w hg m x v _ hop 90 3 moveLaw Tryd.underlying43 (plainElem Tryd.prog 3) M n D hm h1 hn _ _ (mkey f l t) hx hv (key_move hk) (.lit (.int .i64 c)) [] (plainElem_int Tryd.underlying3 hc) ?_
  intro w' ho hgr
  exact hK w' ⟨_, ho, h2.put h1.isMap hk c⟩ hgr
end
end Go.Proofs.YtfdbbopanankgaaDoor
namespace Go.Proofs.YtfdbbopanankgaaDoor
open Go.RowKit Go.Maps Go.WideShapes
set_option maxHeartbeats 400000
set_option linter.unusedVariables false
set_option maxRecDepth 100000

theorem lits_int {d : Nat} {a : Value} {L : List Lit} (h : Tryd.prog.keyLits (d + 1) 3 [a] = some L) : ∃ n, a = .int .i64 n ∧ (Lit.int .i64 n).wf = true := by
  unfold Program.keyLits at h
  rw [Tryd.underlying3] at h
  cases a <;> simp at h
  obtain ⟨⟨rfl, hw⟩, _⟩ := h
  exact ⟨_, rfl, hw⟩
theorem lits_str {d : Nat} {a : Value} {L : List Lit} (h : Tryd.prog.keyLits (d + 1) 9 [a] = some L) : ∃ s, a = .string s ∧ s.size ≤ maxLen := by
  unfold Program.keyLits at h
  rw [Tryd.underlying9] at h
  cases a <;> simp at h
  exact ⟨_, rfl, h.1⟩
theorem three_of {l : List Value} (h : l.length = 3) : ∃ a b c, l = [a, b, c] := by
  match l, h with
  | [a, b, c], _ => exact ⟨a, b, c, rfl⟩
theorem move_inv {key : Value} {kl : Lit} (h : keyOf Tryd.prog 90 key = some kl) : ∃ x : Int × ByteArray × Int, key = moveV x.1 x.2.1 x.2.2 ∧ kwf x.1 x.2.1 x.2.2 := by
  obtain ⟨d, hd⟩ := move_size
  unfold keyOf at h
  simp only [Tryd.underlying90, move_type, Bool.true_and] at h
  by_cases hf : key.formed Tryd.prog 90 = true
  rotate_left
  · rw [if_neg hf] at h; cases h
  rw [if_pos hf] at h
  rw [hd] at h
  unfold Value.formed at hf
  simp only [Tryd.underlying90, move_cells] at hf
  split at hf
  · rename_i cs
    obtain ⟨l⟩ := cs
    obtain ⟨a, b, c, rfl⟩ := three_of (l := l) (by simpa using hf)
    unfold Program.keyLits at h
    simp only [Tryd.underlying90, move_cells, Value.cells] at h
    simp [int_cells, str_cells, Option.bind_eq_some_iff] at h
    obtain ⟨x, hx, y, ⟨z, hz, v, ⟨u, hu, rfl⟩, rfl⟩, rfl⟩ := h
    obtain ⟨f, rfl, hwf⟩ := lits_int hx
    obtain ⟨s, rfl, hws⟩ := lits_str hz
    obtain ⟨t, rfl, hwt⟩ := lits_int hu
    exact ⟨(f, s, t), rfl, hwf, hws, hwt⟩
  · cases hf
  · cases hf

theorem mkey_same {f l t f' l' t'} (h : kwf f l t) (h' : kwf f' l' t') : (mkey f' l' t').sameKey (mkey f l t) = decide (f' = f ∧ l'.data = l.data ∧ t' = t) := by
  have hk := moveLaw.key (key_move h)
  by_cases e : f' = f ∧ l'.data = l.data ∧ t' = t
  · rw [decide_eq_true e]
    obtain ⟨rfl, e2, rfl⟩ := e
    have : l' = l := by cases l'; cases l; simp at e2; rw [e2]
    subst this
    exact (WideAt.sameKey_iff hk).2 rfl
  · rw [decide_eq_false e]
    rcases hb : (mkey f' l' t').sameKey (mkey f l t) with _ | _
    · rfl
    · obtain ⟨a, b, c⟩ := mkey_inj h' h ((WideAt.sameKey_iff hk).1 hb)
      exact absurd ⟨a, by rw [b], c⟩ e
/-- The map in block M is ranged over by the iterator in block r; left: what is still to come. -/
def CRan (w : World) (M r n : Nat) (F : Int → ByteArray → Int → Option Int) (left : Int → ByteArray → Int → Bool) (cnt : Nat) : Prop :=
  ∃ (D : DataW Unit) (L : Lit → Bool), w.ranges Tryd.prog 90 (plainElem Tryd.prog 3) M r n D L cnt ∧ CIs D F ∧ ∀ f l t, kwf f l t → left f l t = L (mkey f l t)
def strike (left : Int → ByteArray → Int → Bool) (f : Int) (l : ByteArray) (t : Int) : Int → ByteArray → Int → Bool := fun f' l' t' => left f' l' t' && !(decide (f' = f ∧ l'.data = l.data ∧ t' = t))
theorem CRan.owns {w : World} {M r n cnt : Nat} {F : Int → ByteArray → Int → Option Int} {left : Int → ByteArray → Int → Bool} (h : CRan w M r n F left cnt) : CMap w M n F := by
  obtain ⟨D, L, h1, h2, _⟩ := h
  exact ⟨D, h1.owns, h2⟩
theorem CRan.left_eq {w : World} {M r n cnt : Nat} {F : Int → ByteArray → Int → Option Int} {left : Int → ByteArray → Int → Bool} (h : CRan w M r n F left cnt) : w.rangeLeft M r = cnt := by
  obtain ⟨D, L, h1, _, _⟩ := h
  exact h1.left_eq
theorem CRan.lt {w : World} {M r n cnt : Nat} {F : Int → ByteArray → Int → Option Int} {left : Int → ByteArray → Int → Bool} (h : CRan w M r n F left cnt) : r < w.heap.size := by
  obtain ⟨D, L, h1, _, _⟩ := h
  exact h1.lt
theorem CRan.kept {w w' : World} {M r n cnt : Nat} {F : Int → ByteArray → Int → Option Int} {left : Int → ByteArray → Int → Bool} {row : Option Nat} (h : CRan w M r n F left cnt) (hg : w.grownBy w' row) (hM : some M ≠ row) (hr : some r ≠ row) : CRan w' M r n F left cnt := by
  obtain ⟨D, L, h1, h2, h3⟩ := h
  exact ⟨D, L, h1.kept hg hM hr, h2, h3⟩
theorem CIs.some_of {D : DataW Unit} {F : Int → ByteArray → Int → Option Int} (h : CIs D F) {f t c : Int} {l : ByteArray} (hk : kwf f l t) (hat : ∀ zd, D.atKey (mkey f l t) zd = .lit (.int .i64 c)) : F f l t = some c := by
  rcases hF : F f l t with _ | c'
  · have h1 := h f l t hk .nil
    rw [hat, hF] at h1
    cases h1
  · have h1 := h f l t hk .nil
    rw [hat, hF] at h1
    simp at h1
    rw [h1]
theorem CIs.has_eq {D : DataW Unit} {F : Int → ByteArray → Int → Option Int} (h : CIs D F) {f t : Int} {l : ByteArray} (hk : kwf f l t) : Maps.has D (mkey f l t) = (F f l t).isSome := by
  rcases hF : F f l t with _ | c
  · exact has_false_of_atKey (fun zd => by rw [h f l t hk zd, hF]; rfl)
  · exact has_true_of_atKey (y := .lit (.int .i64 c)) (fun zd => by rw [h f l t hk zd, hF]; rfl)

section
variable (w : World) {ops : Array Oper} {rest : List Oper} {o : Oper} {a : Act} {Q : Exit → Act → World → Prop}
theorem wpList_range_c (hg : o.guard = none) (m : Operand) (hop : o.op = Op.range 43 m) (M n : Nat) (F : Int → ByteArray → Int → Option Int) (hm : a.eval m = .map (some M)) (h : CMap w M n F)
    (hK : ∀ w' cnt, CRan w' M w.heap.size n F (fun f l t => (F f l t).isSome) cnt → w.grownBy w' none → w'.heap.size = w.heap.size + 1 → wpList Tryd.prog ops Q rest (a.put o.dst (.pointer (some ⟨w.heap.size, 0, none⟩))) w') :
    wpList Tryd.prog ops Q (o :: rest) a w := by
  obtain ⟨D, h1, h2⟩ := h
  refine wpList_range_own w hg m _ hop 90 3 moveLaw Tryd.underlying43 (plainElem Tryd.prog 3) M n D hm h1 ?_
  intro w' hr hgr hs
  exact hK w' _ ⟨D, _, hr, h2, fun f l t hk => (h2.has_eq hk).symm⟩ hgr hs
theorem wpList_next_c (hg : o.guard = none) (it : Operand) (hop : o.op = Op.next it false) (M r n : Nat) (F : Int → ByteArray → Int → Option Int) (left : Int → ByteArray → Int → Bool) (cnt : Nat)
    (hit : a.eval it = .pointer (some ⟨r, 0, none⟩)) (h : CRan w M r n F left cnt)
    (hDone : (∀ f l t, kwf f l t → left f l t = false) → wpList Tryd.prog ops Q rest (a.put o.dst (.tuple #[.bool false])) w)
    (hMore : ∀ f l t c w' cnt', kwf f l t → F f l t = some c → left f l t = true → (Lit.int .i64 c).wf = true → CRan w' M r n F (strike left f l t) cnt' → cnt' < cnt → w.grownBy w' (some r) → w'.heap.size = w.heap.size →
      (Instr.entry (.pointer (some ⟨r, 0, none⟩))).run Tryd.prog w' = .ok (.tuple #[.agg #[.int .i64 f, .string l, .int .i64 t], .int .i64 c]) w' → wpList Tryd.prog ops Q rest (a.put o.dst (.tuple #[.bool true, .agg #[.int .i64 f, .string l, .int .i64 t], .int .i64 c])) w') :
    wpList Tryd.prog ops Q (o :: rest) a w := by
  obtain ⟨D, L, h1, h2, h3⟩ := h
  refine wpList_next_ranges w hg it hop 90 moveLaw (plainElem Tryd.prog 3) (fun x : Int × ByteArray × Int => moveV x.1 x.2.1 x.2.2) (Value.int .i64)
    (fun key kl hkey => by obtain ⟨x, hx, _⟩ := move_inv hkey; exact ⟨x, hx⟩) (fun v y hv => by obtain ⟨c, rfl, _⟩ := plainElem_int_inv Tryd.underlying3 hv; exact ⟨c, rfl⟩) M r n D L cnt hit h1
    (fun _ hl => hDone (fun f l t hk => by rw [h3 f l t hk, hl])) (fun x c kl y w' cnt' hkey hlk hv hat hrg hlt hgr hsz hen => ?_)
  obtain ⟨x', ex, hk⟩ := move_inv hkey
  obtain ⟨f, l, t⟩ := x
  obtain ⟨f', l', t'⟩ := x'
  simp [moveV] at ex
  obtain ⟨rfl, rfl, rfl⟩ := ex
  obtain ⟨c', ec, rfl, hwc⟩ := plainElem_int_inv Tryd.underlying3 hv
  cases ec
  have hkl : kl = mkey f l t := by have h4 := key_move hk; simp only [] at h4; rw [h4] at hkey; cases hkey; rfl
  subst hkl
  exact hMore f l t c w' cnt' hk (h2.some_of hk hat) (by rw [h3 f l t hk]; exact hlk) hwc
    ⟨D, _, hrg, h2, fun f' l' t' hk' => by unfold strike; rw [h3 f' l' t' hk', ← mkey_same hk hk']⟩ hlt hgr hsz hen
end
end Go.Proofs.YtfdbbopanankgaaDoor
