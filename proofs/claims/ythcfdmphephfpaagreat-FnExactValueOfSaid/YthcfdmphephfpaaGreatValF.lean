/- The value of an expression, the program's: the meaning of nodes in matrices of grades; in new memory; nothing that was there changes. No condition but that the arguments can be read. The meaning of nodes in matrices of grades: their value; in new memory; nothing that was there changes. The value of an expression and its grade, the program's; in new memory; nothing that was there changes. No condition but that the arguments can be read. -/
import Derived.Test.YthcfdmphephfpaaGreatMn
import Derived.Test.YthcfdmphephfpaaGreatOfW
import Derived.Test.YthcfdmphephfpaaGreatGFace
import Derived.Test.YthcfdmphephfpaaGreatPathT
import Derived.Laws.EntriesVeiled
import Derived.Test.YthcfdmphephfpaaGreatGBet
namespace Go.Proofs.YthcfdmphephfpaaGreat
open Go.RowKit
set_option maxHeartbeats 4000000
set_option maxRecDepth 100000
set_option linter.unusedVariables false

def litB (b : Bool) : ByteArray := ⟨#[chr b]⟩
/-- The value; none where something that is repeated is not idempotent. -/
def valueE (n : Nat) (ss : List StepD) : Ex → Option (List Int)
  | .lit b => some (grL (stepL n ss (litB b)))
  | .join x y => match valueE n ss x, valueE n ss y with
    | some a, some c => some (gmulL n a c)
    | _, _ => none
  | .rep x => match valueE n ss x with
    | some a => if gmulL n a a = a then some (stabL n a) else none
    | none => none
def vm (n : Nat) : Option (List Int) → Int × List Int
  | some a => ((n : Int), a)
  | none => (0, [])
theorem gr_vld (z : Int) : gvld (gr z) = true := by
  unfold gr
  split
  · decide
  · split <;> decide
theorem grL_GV {n : Nat} {zs : List Int} (h : MV n zs) : GV n (grL zs) :=
  ⟨h.lo, h.hi, by rw [grL_len]; exact h.len, by
    unfold gAll grL
    rw [List.all_map, List.all_eq_true]
    intro z _
    exact gr_vld z⟩
theorem value_GV {n : Nat} {ss : List StepD} (n1 : 1 ≤ n) (n2 : n ≤ 4) (hok : ∀ s ∈ ss, stepOk n s = true) : ∀ (x : Ex) (a : List Int), valueE n ss x = some a → GV n a
  | .lit b, a, h => by
    simp only [valueE, Option.some.injEq] at h
    subst h
    exact grL_GV (stepL_ok n1 n2 hok _)
  | .join x y, a, h => by
    simp only [valueE] at h
    cases hx : valueE n ss x with
    | none => rw [hx] at h; cases h
    | some u =>
      cases hy : valueE n ss y with
      | none => rw [hx, hy] at h; cases h
      | some v =>
        rw [hx, hy] at h
        simp only [Option.some.injEq] at h
        subst h
        exact gmulL_ok (value_GV n1 n2 hok x u hx) (value_GV n1 n2 hok y v hy)
  | .rep x, a, h => by
    simp only [valueE] at h
    cases hx : valueE n ss x with
    | none => rw [hx] at h; cases h
    | some u =>
      rw [hx] at h
      simp only at h
      split at h
      · simp only [Option.some.injEq] at h
        subst h
        exact stabL_ok (value_GV n1 n2 hok x u hx)
      · cases h
theorem zero_no : gradeOk 0 [] = false := by decide
theorem GV.ok {n : Nat} {a : List Int} (h : GV n a) : gradeOk (n : Int) a = true := gradeOk_mk h
/-- What the product of two values is. -/
theorem mul_vm {n : Nat} {ss : List StepD} (n1 : 1 ≤ n) (n2 : n ≤ 4) (hok : ∀ s ∈ ss, stepOk n s = true) (x y : Ex) :
    (gmulR (vm n (valueE n ss x)).1 (vm n (valueE n ss x)).2 (vm n (valueE n ss y)).1 (vm n (valueE n ss y)).2).getD (0, []) = vm n (valueE n ss (.join x y)) := by
  simp only [valueE]
  cases hx : valueE n ss x with
  | none => simp only [vm]; rw [gtwo_1 zero_no]; rfl
  | some u =>
    cases hy : valueE n ss y with
    | none => simp only [vm]; rw [gtwo_2 zero_no]; rfl
    | some v =>
      simp only [vm]
      rw [gtwo_4 (value_GV n1 n2 hok x u hx).ok (value_GV n1 n2 hok y v hy).ok]
      rfl
theorem stab_vm {n : Nat} {ss : List StepD} (n1 : 1 ≤ n) (n2 : n ≤ 4) (hok : ∀ s ∈ ss, stepOk n s = true) (x : Ex) :
    (gstabR (vm n (valueE n ss x)).1 (vm n (valueE n ss x)).2).getD (0, []) = vm n (valueE n ss (.rep x)) := by
  simp only [valueE]
  cases hx : valueE n ss x with
  | none =>
    simp only [vm]
    unfold gstabR idemB
    rw [zero_no]; rfl
  | some u =>
    simp only [vm]
    have hg := (value_GV n1 n2 hok x u hx).ok
    unfold gstabR idemB
    rw [hg]
    by_cases h : gmulL n u u = u
    · rw [if_pos h]
      simp [h]
    · rw [if_neg h]
      simp [h]
/-- What is left: a matrix in new memory. -/
def VEnd (p : Int × List Int) (w : World) (e : Ending) (w' : World) : Prop :=
  ∃ A cap, e = .returned (.agg #[.int .i64 p.1, .slice A p.2.length cap]) ∧ w'.ownsRow w.heap.size 3 1 (.slice A p.2.length cap) p.2.length (p.2.map (Value.int .i64)) ∧ p.2.length ≤ 1048577 ∧ Below w.heap.size w w'
theorem mend_open {r : Option (Int × List Int)} {p : Int × List Int} {w w' : World} {e : Ending} (h : MEnd r w e w') (hp : r.getD (0, []) = p) :
    ∃ A cap, e = .returned (.tuple #[.agg #[.int .i64 p.1, .slice A p.2.length cap], .bool r.isSome]) ∧ Hid (w'.ownsRow w.heap.size 3 1 (.slice A p.2.length cap) p.2.length (p.2.map (Value.int .i64))) ∧ p.2.length ≤ 1048577 ∧ Hid (Below w.heap.size w w') := by
  subst hp
  obtain ⟨v, rfl, ⟨x, rfl, ho, hl⟩, hb⟩ := h
  obtain ⟨A, cap, rfl, _, _⟩ := own_ints ho (by unfold maxLen; omega)
  exact ⟨A, cap, rfl, ho, hl, hb⟩
theorem own_I {w : World} {base cap : Nat} {A : Option Addr} {zs : List Int} (h : w.ownsRow base 3 1 (.slice A zs.length cap) zs.length (zs.map (Value.int .i64))) (hl : zs.length ≤ 1048577) : Ints w w.heap.size A zs := by
  obtain ⟨_, _, e, _, i⟩ := own_ints h (by unfold maxLen; omega)
  cases e
  exact i

/-! The three meanings. -/
theorem VEnd.mk {p : Int × List Int} {w w' : World} {A : Option Addr} {cap : Nat} (h : MatOwn w' w.heap.size (.agg #[.int .i64 p.1, .slice A p.2.length cap]) p.1 p.2) (hb : Below w.heap.size w w') : VEnd p w (.returned (.agg #[.int .i64 p.1, .slice A p.2.length cap])) w' := by
  obtain ⟨x, e, ho, hl⟩ := h
  cases e
  exact ⟨A, cap, rfl, ho, hl, hb⟩
/-- A result's variable gets the matrix that another variable holds. -/
theorem v_fin {w w2 : World} {R base cap : Nat} {t : TypeId} {m : Int} {zs : List Int} {A : Option Addr} {u0 u1 : Value} (o : Obj) (rc : Blk w2 R t #[u0, u1]) (ho : w2.ownsRow base 3 1 (.slice A zs.length cap) zs.length (zs.map (Value.int .i64))) (hR : R < base) (hw : w.heap.size ≤ R) (hb : Below w.heap.size w w2) (hl : zs.length ≤ 1048577) :
    Blk (((w2.alloc o).setCell ⟨R, 0, none⟩ (.int .i64 m)).setCell ⟨R, 1, none⟩ (.slice A zs.length cap)) R t #[.int .i64 m, .slice A zs.length cap] ∧ MatOwn (((w2.alloc o).setCell ⟨R, 0, none⟩ (.int .i64 m)).setCell ⟨R, 1, none⟩ (.slice A zs.length cap)) w.heap.size (.agg #[.int .i64 m, .slice A zs.length cap]) m zs ∧ Below w.heap.size w (((w2.alloc o).setCell ⟨R, 0, none⟩ (.int .i64 m)).setCell ⟨R, 1, none⟩ (.slice A zs.length cap)) :=
  mat_fin (rc.alloc o) (ho.alloc o) hR hw (below_al hb (Nat.le_refl _) o) hl
theorem gof_step {n : Nat} {ss : List StepD} (n1 : 1 ≤ n) (n2 : n ≤ 4) (hok : ∀ s ∈ ss, stepOk n s = true) (b : Bool) : (gofR (n : Int) (stepL n ss (litB b))).getD (0, []) = ((n : Int), grL (stepL n ss (litB b))) := by
  unfold gofR
  rw [if_pos (matOk_mk (stepL_ok n1 n2 hok _))]; rfl
theorem valLit_any (n M cnt p : Nat) (b0 b1 b2 b3 b4 b5 b6 b7 b : Bool) (ss : List StepD) (w : World) (n1 : 1 ≤ n) (n2 : n ≤ 4) (hok : ∀ s ∈ ss, stepOk n s = true) (hp : Blk w p 51 #[.int .i64 n, .bool b0, .bool b1, .bool b2, .bool b3, .bool b4, .bool b5, .bool b6, .bool b7, .map (some M)]) (hM : CMap w M cnt (costAt ss)) :
    Calls Tryz.prog 50 #[.string (litB b), .pointer (some ⟨p, 0, none⟩)] w fun e w' => VEnd ((n : Int), grL (stepL n ss (litB b))) w e w' := by
  obtain ⟨w1, hw1⟩ : ∃ w1, w1 = w.alloc (.cells #[.int .i64 0, .slice none 0 0] 28) := ⟨_, rfl⟩
  have R1 : Hid (Blk w1 w.heap.size 28 #[.int .i64 0, .slice none 0 0]) := by rw [hw1]; exact Blk.new _ _ _
  have B1 : Hid (Below w.heap.size w w1) := by rw [hw1]; exact below_a1 _ _
  have M1 : Hid (CMap w1 M cnt (costAt ss)) := by rw [hw1]; exact hM.kept (World.grownBy_alloc w _ none) (by simp)
  have P1 : Blk (w.alloc (.cells #[.int .i64 0, .slice none 0 0] 28)) p 51 #[.int .i64 n, .bool b0, .bool b1, .bool b2, .bool b3, .bool b4, .bool b5, .bool b6, .bool b7, .map (some M)] := hp.alloc _
  obtain ⟨p0, p1, p2, p3, p4, p5, p6, p7, p8, p9⟩ := ten_cells P1
  have hs1 : w.heap.size < w1.heap.size := by rw [hw1]; simp
  have HG := Lib.hid (gof_step n1 n2 hok b)
  clear hp hM hok P1
  go_enter Tryz.func50, Tryz.ntmps50
  go_wp2_with fail
  rw [← hw1]
  clear hw1 p0 p1 p2 p3 p4 p5 p6 p7 p8 p9
  refine (matrixI_any n M cnt _ _ _ _ _ _ _ _ (costAt ss) (litB b) (stepL n ss (litB b)) _ n1 n2 (by show 1 ≤ maxLen; decide) rfl M1.out).mono ?_
  rintro e w2 ⟨v, rfl, ⟨x, rfl, ho, hl⟩, hb⟩
  obtain ⟨A, cap, rfl, _, hi⟩ := own_ints ho (by unfold maxLen; omega)
  have B2 := Lib.hid (below_on B1.out hb)
  have R2 := Lib.hid (blk_b R1.out hb)
  have HI := Lib.hid hi
  have hs2 : w.heap.size < w2.heap.size := Nat.lt_of_lt_of_le hs1 hb.size
  clear ho hb hi
  go_wp2_with fail
  refine (iGradesOf_any _ _ _ _ _ HI.out).mono ?_
  intro e w3 hE
  obtain ⟨A', cap', rfl, ho3, hl3, hb3⟩ := mend_open hE HG.out
  have B3 := Lib.hid (below_on B2.out hb3.out)
  have R3 := Lib.hid (blk_b R2.out hb3.out)
  clear hE hb3 HI
  have d0 := fun o => (R3.out.alloc o).cell 0
  have d1 := fun o => (R3.out.alloc o).cell 1
  have f0 := fun o => (R3.out.alloc o).frozen 0
  have f1 := fun o => (R3.out.alloc o).frozen 1
  dsimp at d0 d1
  go_wp2_with fail
  have HF := v_fin (w := w) (m := (n : Int)) (.cells #[.int .i64 n, .slice A' (grL (stepL n ss (litB b))).length cap'] 28) R3.out ho3.out hs2 (Nat.le_refl _) B3.out hl3
  refine bodyPost_ret (results_1 rfl (gives_mat (g := w.heap.size) rfl HF.1)) rfl ?_
  exact VEnd.mk (p := ((n : Int), grL (stepL n ss (litB b)))) HF.2.1 HF.2.2
theorem valJoin_any (p q r : Int × List Int) (A A' : Option Addr) (cap cap' : Nat) (w : World) (hr : (gmulR p.1 p.2 q.1 q.2).getD (0, []) = r) (hz : Ints w w.heap.size A p.2) (hy : Ints w w.heap.size A' q.2) :
    Calls Tryz.prog 53 #[.agg #[.int .i64 p.1, .slice A p.2.length cap], .agg #[.int .i64 q.1, .slice A' q.2.length cap']] w fun e w' => VEnd r w e w' := by
  obtain ⟨m, zs⟩ := p
  obtain ⟨m', ys⟩ := q
  dsimp only at hr hz hy ⊢
  have HR := Lib.hid hr
  have R0 : Hid (Blk (((w.alloc (.cells #[.int .i64 m, .slice A zs.length cap] 28)).alloc (.cells #[.int .i64 m', .slice A' ys.length cap'] 28)).alloc (.cells #[.int .i64 0, .slice none 0 0] 28)) (w.heap.size + 1 + 1) 28 #[.int .i64 0, .slice none 0 0]) := blk_new (by simp)
  have B0 := Lib.hid (below_a3 w (.cells #[.int .i64 m, .slice A zs.length cap] 28) (.cells #[.int .i64 m', .slice A' ys.length cap'] 28) (.cells #[.int .i64 0, .slice none 0 0] 28))
  have HZ := Lib.hid (ints_al (ints_al (ints_al hz (.cells #[.int .i64 m, .slice A zs.length cap] 28)) (.cells #[.int .i64 m', .slice A' ys.length cap'] 28)) (.cells #[.int .i64 0, .slice none 0 0] 28))
  have HY := Lib.hid (ints_al (ints_al (ints_al hy (.cells #[.int .i64 m, .slice A zs.length cap] 28)) (.cells #[.int .i64 m', .slice A' ys.length cap'] 28)) (.cells #[.int .i64 0, .slice none 0 0] 28))
  clear hr hz hy
  go_enter Tryz.func53, Tryz.ntmps53
  go_wp2_with fail
  refine (iMulGrades_any _ _ _ _ _ _ _ _ _ HZ.out HY.out).mono ?_
  intro e w3 hE
  obtain ⟨A3, cap3, rfl, ho3, hl3, hb3⟩ := mend_open hE HR.out
  have hs3 : w.heap.size + 1 + 1 < (((w.alloc (.cells #[.int .i64 m, .slice A zs.length cap] 28)).alloc (.cells #[.int .i64 m', .slice A' ys.length cap'] 28)).alloc (.cells #[.int .i64 0, .slice none 0 0] 28)).heap.size := by simp
  have B3 := Lib.hid (below_on B0.out hb3.out)
  have R3 := Lib.hid (blk_b R0.out hb3.out)
  clear hE hb3 HZ HY R0 B0
  have d0 := fun o => (R3.out.alloc o).cell 0
  have d1 := fun o => (R3.out.alloc o).cell 1
  have f0 := fun o => (R3.out.alloc o).frozen 0
  have f1 := fun o => (R3.out.alloc o).frozen 1
  dsimp at d0 d1
  go_wp2_with fail
  have HF := v_fin (w := w) (m := r.1) (.cells #[.int .i64 r.1, .slice A3 r.2.length cap3] 28) R3.out ho3.out hs3 (by omega) B3.out hl3
  refine bodyPost_ret (results_1 rfl (gives_mat (g := w.heap.size + 1 + 1) rfl HF.1)) rfl ?_
  exact VEnd.mk HF.2.1 HF.2.2
theorem valRep_any (p r : Int × List Int) (A : Option Addr) (cap : Nat) (w : World) (hr : (gstabR p.1 p.2).getD (0, []) = r) (hz : Ints w w.heap.size A p.2) :
    Calls Tryz.prog 55 #[.agg #[.int .i64 p.1, .slice A p.2.length cap]] w fun e w' => VEnd r w e w' := by
  obtain ⟨m, zs⟩ := p
  dsimp only at hr hz ⊢
  have HR := Lib.hid hr
  have R0 : Hid (Blk ((w.alloc (.cells #[.int .i64 m, .slice A zs.length cap] 28)).alloc (.cells #[.int .i64 0, .slice none 0 0] 28)) (w.heap.size + 1) 28 #[.int .i64 0, .slice none 0 0]) := blk_new (by simp)
  have B0 := Lib.hid (below_a2 w (.cells #[.int .i64 m, .slice A zs.length cap] 28) (.cells #[.int .i64 0, .slice none 0 0] 28))
  have HZ := Lib.hid (ints_al (ints_al hz (.cells #[.int .i64 m, .slice A zs.length cap] 28)) (.cells #[.int .i64 0, .slice none 0 0] 28))
  clear hr hz
  go_enter Tryz.func55, Tryz.ntmps55
  go_wp2_with fail
  refine (iStabilise_any _ _ _ _ _ HZ.out).mono ?_
  intro e w3 hE
  obtain ⟨A3, cap3, rfl, ho3, hl3, hb3⟩ := mend_open hE HR.out
  have hs3 : w.heap.size + 1 < ((w.alloc (.cells #[.int .i64 m, .slice A zs.length cap] 28)).alloc (.cells #[.int .i64 0, .slice none 0 0] 28)).heap.size := by simp
  have B3 := Lib.hid (below_on B0.out hb3.out)
  have R3 := Lib.hid (blk_b R0.out hb3.out)
  clear hE hb3 HZ R0 B0
  have d0 := fun o => (R3.out.alloc o).cell 0
  have d1 := fun o => (R3.out.alloc o).cell 1
  have f0 := fun o => (R3.out.alloc o).frozen 0
  have f1 := fun o => (R3.out.alloc o).frozen 1
  dsimp at d0 d1
  go_wp2_with fail
  have HF := v_fin (w := w) (m := r.1) (.cells #[.int .i64 r.1, .slice A3 r.2.length cap3] 28) R3.out ho3.out hs3 (by omega) B3.out hl3
  refine bodyPost_ret (results_1 rfl (gives_mat (g := w.heap.size + 1) rfl HF.1)) rfl ?_
  exact VEnd.mk HF.2.1 HF.2.2
def meaningM (p : Nat) : Value := .agg #[.func (Fn.func 50) #[] #[.pointer (some ⟨p, 0, none⟩)], .func (Fn.func 53) #[] #[], .func (Fn.func 55) #[] #[]]
theorem values_any (n M : Nat) (b0 b1 b2 b3 b4 b5 b6 b7 : Bool) (w : World) :
    Calls Tryz.prog 24 #[.agg #[.int .i64 n, .bool b0, .bool b1, .bool b2, .bool b3, .bool b4, .bool b5, .bool b6, .bool b7, .map (some M)]] w fun e w' => ∃ p, e = .returned (meaningM p) ∧ w.heap.size ≤ p ∧ Blk w' p 51 #[.int .i64 n, .bool b0, .bool b1, .bool b2, .bool b3, .bool b4, .bool b5, .bool b6, .bool b7, .map (some M)] ∧ Below w.heap.size w w' := by
  unfold meaningM
  have hmf : ∀ (fn : Fn) (first cap : Array Value) (w : World), (Instr.makeFunc fn first cap).run Tryz.prog w = .ok (.func fn first cap) w := fun _ _ _ _ => rfl
  have HP : Hid (∀ o, Blk ((w.alloc (.cells #[.int .i64 n, .bool b0, .bool b1, .bool b2, .bool b3, .bool b4, .bool b5, .bool b6, .bool b7, .map (some M)] 51)).alloc o) w.heap.size 51 #[.int .i64 n, .bool b0, .bool b1, .bool b2, .bool b3, .bool b4, .bool b5, .bool b6, .bool b7, .map (some M)]) := fun o => (Blk.new _ _ _).alloc _
  have HB : Hid (∀ o, Below w.heap.size w ((w.alloc (.cells #[.int .i64 n, .bool b0, .bool b1, .bool b2, .bool b3, .bool b4, .bool b5, .bool b6, .bool b7, .map (some M)] 51)).alloc o)) := fun o => below_a2 _ _ _
  have HM : Hid (∀ cs, Blk ((w.alloc (.cells #[.int .i64 n, .bool b0, .bool b1, .bool b2, .bool b3, .bool b4, .bool b5, .bool b6, .bool b7, .map (some M)] 51)).alloc (.cells cs 60)) (w.heap.size + 1) 60 cs) := fun cs => blk_new (by simp)
  go_enter Tryz.func24, Tryz.ntmps24
  go_wp2_with fail
  refine bodyPost_ret (results_1 rfl (Gives.row (g := w.heap.size + 1) rfl (HM.out _) Tryz.underlying60 rfl (by kernel_rfl))) rfl ?_
  exact ⟨w.heap.size, rfl, Nat.le_refl _, HP.out _, HB.out _⟩
end Go.Proofs.YthcfdmphephfpaaGreat
namespace Go.Proofs.YthcfdmphephfpaaGreat
open Go.RowKit
set_option maxHeartbeats 4000000
set_option maxRecDepth 100000
set_option linter.unusedVariables false

/-- Two variables get the matrix, one behind the other. -/
theorem vv_fin {w w2 : World} {R V base cap : Nat} {m : Int} {zs : List Int} {A : Option Addr} {u0 u1 : Value} (rc : Blk w2 R 28 #[u0, u1]) (ho : w2.ownsRow base 3 1 (.slice A zs.length cap) zs.length (zs.map (Value.int .i64))) (hR : R < base) (hV : V < base) (hRV : ¬ R = V) (hw : w.heap.size ≤ R) (hwV : w.heap.size ≤ V) (hb : Below w.heap.size w w2) (hl : zs.length ≤ 1048577) :
    Blk ((((w2.setCell ⟨V, 0, none⟩ (.int .i64 m)).setCell ⟨V, 1, none⟩ (.slice A zs.length cap)).setCell ⟨R, 0, none⟩ (.int .i64 m)).setCell ⟨R, 1, none⟩ (.slice A zs.length cap)) R 28 #[.int .i64 m, .slice A zs.length cap] ∧ MatOwn ((((w2.setCell ⟨V, 0, none⟩ (.int .i64 m)).setCell ⟨V, 1, none⟩ (.slice A zs.length cap)).setCell ⟨R, 0, none⟩ (.int .i64 m)).setCell ⟨R, 1, none⟩ (.slice A zs.length cap)) w.heap.size (.agg #[.int .i64 m, .slice A zs.length cap]) m zs ∧ Below w.heap.size w ((((w2.setCell ⟨V, 0, none⟩ (.int .i64 m)).setCell ⟨V, 1, none⟩ (.slice A zs.length cap)).setCell ⟨R, 0, none⟩ (.int .i64 m)).setCell ⟨R, 1, none⟩ (.slice A zs.length cap)) := by
  have G := grow_trans (grow_set w2 V 0 (.int .i64 m)) (grow_set _ V 1 (.slice A zs.length cap))
  exact mat_fin ((rc.other V 0 _ (fun e => hRV e.symm)).other V 1 _ (fun e => hRV e.symm)) (own_far ho G hV) hR hw (hb.grown G hb.size (fun j hj => by cases hj; exact hwV)) hl
def OfM (n M cnt p : Nat) (b0 b1 b2 b3 b4 b5 b6 b7 : Bool) (ss : List StepD) (x : Ex) : Prop := ∀ w : World, Blk w p 51 #[.int .i64 n, .bool b0, .bool b1, .bool b2, .bool b3, .bool b4, .bool b5, .bool b6, .bool b7, .map (some M)] → CMap w M cnt (costAt ss) → Calls Tryz.prog 25 #[meaningM p, exV x] w fun e w' => VEnd (vm n (valueE n ss x)) w e w'
theorem ofM_lit (n M cnt p : Nat) (b0 b1 b2 b3 b4 b5 b6 b7 : Bool) (ss : List StepD) (n1 : 1 ≤ n) (n2 : n ≤ 4) (hok : ∀ s ∈ ss, stepOk n s = true) (b : Bool) : OfM n M cnt p b0 b1 b2 b3 b4 b5 b6 b7 ss (.lit b) := by
  intro w hp hM
  obtain ⟨w1, hw1⟩ : ∃ w1, w1 = ((w.alloc (.cells #[.func (Fn.func 50) #[] #[.pointer (some ⟨p, 0, none⟩)], .func (Fn.func 53) #[] #[], .func (Fn.func 55) #[] #[]] 60)).alloc (.cells #[.int .i64 0, .slice none 0 0] 28)).alloc (.cells #[.int .i64 0, .slice none 0 0] 28) := ⟨_, rfl⟩
  have HT : Hid (Blk w1 w.heap.size 60 #[.func (Fn.func 50) #[] #[.pointer (some ⟨p, 0, none⟩)], .func (Fn.func 53) #[] #[], .func (Fn.func 55) #[] #[]]) := by rw [hw1]; exact ((Blk.new _ _ _).alloc _).alloc _
  have HR : Hid (Blk w1 (w.heap.size + 1) 28 #[.int .i64 0, .slice none 0 0]) := by rw [hw1]; exact (blk_new (by simp)).alloc _
  have HV : Hid (Blk w1 (w.heap.size + 1 + 1) 28 #[.int .i64 0, .slice none 0 0]) := by rw [hw1]; exact blk_new (by simp)
  have HB : Hid (Below w.heap.size w w1) := by rw [hw1]; exact below_a3 _ _ _ _
  have HP : Hid (Blk w1 p 51 #[.int .i64 n, .bool b0, .bool b1, .bool b2, .bool b3, .bool b4, .bool b5, .bool b6, .bool b7, .map (some M)]) := by rw [hw1]; exact ((hp.alloc _).alloc _).alloc _
  have HM : Hid (CMap w1 M cnt (costAt ss)) := by rw [hw1]; exact ((hM.kept (World.grownBy_alloc w _ none) (by simp)).kept (World.grownBy_alloc _ _ none) (by simp)).kept (World.grownBy_alloc _ _ none) (by simp)
  have hs1 : w1.heap.size = w.heap.size + 3 := by rw [hw1]; simp
  have HOK := Lib.hid hok
  clear hp hM
  unfold meaningM exV
  have t1 := taLL
  go_enter Tryz.func25, Tryz.ntmps25
  go_wp2_with fail
  rw [← hw1]
  clear hw1
  have m0 := HT.out.cell 0
  have m1 := HT.out.cell 1
  have m2 := HT.out.cell 2
  dsimp at m0 m1 m2
  go_wp2_with fail
  refine (valLit_any n M cnt p _ _ _ _ _ _ _ _ b ss _ n1 n2 HOK.out HP.out HM.out).mono ?_
  rintro e w2 ⟨A, cap, rfl, ho, hl, hb⟩
  have HO := Lib.hid ho
  have B2 := Lib.hid (below_on HB.out hb)
  have RR := Lib.hid (blk_b HR.out hb)
  have VV := Lib.hid (blk_b HV.out hb)
  clear ho hb HR HV HB m0 m1 m2 HT
  obtain ⟨d0, d1⟩ := two_cells RR.out
  obtain ⟨e0, e1⟩ := two_frozen RR.out
  obtain ⟨v0_, v1_⟩ := two_cells VV.out
  obtain ⟨y0, y1⟩ := two_frozen VV.out
  go_wp2_with fail
  have HF := vv_fin (w := w) (m := (n : Int)) RR.out HO.out (show w.heap.size + 1 < w1.heap.size by omega) (show w.heap.size + 1 + 1 < w1.heap.size by omega) (by omega) (by omega) (by omega) B2.out hl
  refine bodyPost_ret (results_1 rfl (gives_mat (g := w.heap.size + 1) rfl HF.1)) rfl ?_
  exact VEnd.mk (p := ((n : Int), grL (stepL n ss (litB b)))) HF.2.1 HF.2.2
theorem ofM_join (n M cnt p : Nat) (b0 b1 b2 b3 b4 b5 b6 b7 : Bool) (ss : List StepD) (n1 : 1 ≤ n) (n2 : n ≤ 4) (hok : ∀ s ∈ ss, stepOk n s = true) (x y : Ex) (ihx : OfM n M cnt p b0 b1 b2 b3 b4 b5 b6 b7 ss x) (ihy : OfM n M cnt p b0 b1 b2 b3 b4 b5 b6 b7 ss y) : OfM n M cnt p b0 b1 b2 b3 b4 b5 b6 b7 ss (.join x y) := by
  intro w hp hM
  obtain ⟨w1, hw1⟩ : ∃ w1, w1 = ((w.alloc (.cells #[.func (Fn.func 50) #[] #[.pointer (some ⟨p, 0, none⟩)], .func (Fn.func 53) #[] #[], .func (Fn.func 55) #[] #[]] 60)).alloc (.cells #[.int .i64 0, .slice none 0 0] 28)).alloc (.cells #[.int .i64 0, .slice none 0 0] 28) := ⟨_, rfl⟩
  have HT : Hid (Blk w1 w.heap.size 60 #[.func (Fn.func 50) #[] #[.pointer (some ⟨p, 0, none⟩)], .func (Fn.func 53) #[] #[], .func (Fn.func 55) #[] #[]]) := by rw [hw1]; exact ((Blk.new _ _ _).alloc _).alloc _
  have HR : Hid (Blk w1 (w.heap.size + 1) 28 #[.int .i64 0, .slice none 0 0]) := by rw [hw1]; exact (blk_new (by simp)).alloc _
  have HV : Hid (Blk w1 (w.heap.size + 1 + 1) 28 #[.int .i64 0, .slice none 0 0]) := by rw [hw1]; exact blk_new (by simp)
  have HB : Hid (Below w.heap.size w w1) := by rw [hw1]; exact below_a3 _ _ _ _
  have HP : Hid (Blk w1 p 51 #[.int .i64 n, .bool b0, .bool b1, .bool b2, .bool b3, .bool b4, .bool b5, .bool b6, .bool b7, .map (some M)]) := by rw [hw1]; exact ((hp.alloc _).alloc _).alloc _
  have HM : Hid (CMap w1 M cnt (costAt ss)) := by rw [hw1]; exact ((hM.kept (World.grownBy_alloc w _ none) (by simp)).kept (World.grownBy_alloc _ _ none) (by simp)).kept (World.grownBy_alloc _ _ none) (by simp)
  have hs1 : w1.heap.size = w.heap.size + 3 := by rw [hw1]; simp
  have HOK := Lib.hid hok
  clear hp hM
  obtain ⟨t0, v0, hx0⟩ := exV_iface x
  obtain ⟨t1, v1, hx1⟩ := exV_iface y
  have hcx : ∀ w : World, Blk w p 51 #[.int .i64 n, .bool b0, .bool b1, .bool b2, .bool b3, .bool b4, .bool b5, .bool b6, .bool b7, .map (some M)] → CMap w M cnt (costAt ss) → Calls Tryz.prog 25 #[meaningM p, .iface t0 v0] w fun e w' => VEnd (vm n (valueE n ss x)) w e w' := by rw [← hx0]; exact ihx
  have hcy : ∀ w : World, Blk w p 51 #[.int .i64 n, .bool b0, .bool b1, .bool b2, .bool b3, .bool b4, .bool b5, .bool b6, .bool b7, .map (some M)] → CMap w M cnt (costAt ss) → Calls Tryz.prog 25 #[meaningM p, .iface t1 v1] w fun e w' => VEnd (vm n (valueE n ss y)) w e w' := by rw [← hx1]; exact ihy
  have hsh : exV (.join x y) = .iface 90 (.agg #[.iface t0 v0, .iface t1 v1]) := by show Value.iface _ (.agg #[exV x, exV y]) = _; rw [hx0, hx1]
  have HCX := Lib.hid hcx
  have HCY := Lib.hid hcy
  have HMUL := Lib.hid (mul_vm n1 n2 hok x y)
  obtain ⟨r, hr⟩ : ∃ r, r = vm n (valueE n ss (.join x y)) := ⟨_, rfl⟩
  rw [hsh, ← hr]
  rw [← hr] at HMUL
  clear hcx hx0 hsh ihx hr hcy hx1 ihy
  obtain ⟨px, hpx⟩ : ∃ px, px = vm n (valueE n ss x) := ⟨_, rfl⟩
  rw [← hpx] at HCX HMUL
  obtain ⟨py, hpy⟩ : ∃ py, py = vm n (valueE n ss y) := ⟨_, rfl⟩
  rw [← hpy] at HCY HMUL
  clear hpx hpy
  unfold meaningM at *
  obtain ⟨w2, hw2⟩ : ∃ w2, w2 = w1.alloc (.cells #[.iface t0 v0, .iface t1 v1] 90) := ⟨_, rfl⟩
  have HN2 : Hid (Blk w2 (w.heap.size + 1 + 1 + 1) 90 #[.iface t0 v0, .iface t1 v1]) := by rw [hw2]; exact blk_new (by omega)
  have HT2 : Hid (Blk w2 w.heap.size 60 #[.func (Fn.func 50) #[] #[.pointer (some ⟨p, 0, none⟩)], .func (Fn.func 53) #[] #[], .func (Fn.func 55) #[] #[]]) := by rw [hw2]; exact HT.out.alloc _
  have HR2 : Hid (Blk w2 (w.heap.size + 1) 28 #[.int .i64 0, .slice none 0 0]) := by rw [hw2]; exact HR.out.alloc _
  have HV2 : Hid (Blk w2 (w.heap.size + 1 + 1) 28 #[.int .i64 0, .slice none 0 0]) := by rw [hw2]; exact HV.out.alloc _
  have HB2 : Hid (Below w.heap.size w w2) := by rw [hw2]; exact below_al HB.out (Nat.le_refl _) _
  have HP2 : Hid (Blk w2 p 51 #[.int .i64 n, .bool b0, .bool b1, .bool b2, .bool b3, .bool b4, .bool b5, .bool b6, .bool b7, .map (some M)]) := by rw [hw2]; exact HP.out.alloc _
  have HM2 : Hid (CMap w2 M cnt (costAt ss)) := by rw [hw2]; exact HM.out.kept (World.grownBy_alloc w1 _ none) (by simp)
  have hs2 : w2.heap.size = w.heap.size + 4 := by rw [hw2]; simp; omega
  have HS2 := Lib.hid hs2
  have hww : w2 = (((w.alloc (.cells #[.func (Fn.func 50) #[] #[.pointer (some ⟨p, 0, none⟩)], .func (Fn.func 53) #[] #[], .func (Fn.func 55) #[] #[]] 60)).alloc (.cells #[.int .i64 0, .slice none 0 0] 28)).alloc (.cells #[.int .i64 0, .slice none 0 0] 28)).alloc (.cells #[.iface t0 v0, .iface t1 v1] 90) := by rw [hw2, hw1]
  clear HT HR HV HB HP HM hs1 hw1 hw2 hs2
  have tJL := taJL
  have tJJ := taJJ
  go_enter Tryz.func25, Tryz.ntmps25
  go_wp2_with fail
  rw [← hww]
  clear hww
  have KF : Hid (∀ w', Below w2.heap.size w2 w' → (Hid (Below w2.heap.size w2 w') ∧ w'.cell? ⟨w.heap.size, 0, none⟩ = some (.func (Fn.func 50) #[] #[.pointer (some ⟨p, 0, none⟩)]) ∧ w'.cell? ⟨w.heap.size, 1, none⟩ = some (.func (Fn.func 53) #[] #[]) ∧ w'.cell? ⟨w.heap.size, 2, none⟩ = some (.func (Fn.func 55) #[] #[]) ∧ w'.cell? ⟨w.heap.size + 1 + 1 + 1, 0, none⟩ = some (.iface t0 v0) ∧ w'.cell? ⟨w.heap.size + 1 + 1 + 1, 1, none⟩ = some (.iface t1 v1))) := fun w' h => by
    have km := HT2.out.below h HT2.out.lt
    have kn := HN2.out.below h HN2.out.lt
    exact ⟨h, km.cell 0, km.cell 1, km.cell 2, kn.cell 0, kn.cell 1⟩
  have hS0 := KF.out w2.drew ((Below.refl _ _).drew)
  refine wp_region_Z (S := fun w' => Hid (Below w2.heap.size w2 w') ∧ w'.cell? ⟨w.heap.size, 0, none⟩ = some (.func (Fn.func 50) #[] #[.pointer (some ⟨p, 0, none⟩)]) ∧ w'.cell? ⟨w.heap.size, 1, none⟩ = some (.func (Fn.func 53) #[] #[]) ∧ w'.cell? ⟨w.heap.size, 2, none⟩ = some (.func (Fn.func 55) #[] #[]) ∧ w'.cell? ⟨w.heap.size + 1 + 1 + 1, 0, none⟩ = some (.iface t0 v0) ∧ w'.cell? ⟨w.heap.size + 1 + 1 + 1, 1, none⟩ = some (.iface t1 v1)) (by kernel_rfl) hS0 (fun hS => ?_)
  clear hS0
  refine wpAnyZ_take (i := 0) (v := ?vu0) rfl (by kernel_rfl) (by kernel_rfl) (by kernel_rfl) (by kernel_rfl) (fun _ _ _ h => h) (Or.inl ⟨by rfl, ?yu0⟩) (by with_reducible assumption) ?ru0
  case yu0 => (intro w hSw; (try dsimp only at hSw); go_simp; (try with_reducible rfl))
  simp only [Act.put, List.setIfInBounds_toArray]
  refine wpAnyZ_take (i := 1) (v := ?vu1) rfl (by kernel_rfl) (by kernel_rfl) (by kernel_rfl) (by kernel_rfl) (fun _ _ _ h => h) (Or.inl ⟨by rfl, ?yu1⟩) (by with_reducible assumption) ?ru1
  case yu1 => (intro w hSw; (try dsimp only at hSw); go_simp; (try with_reducible rfl))
  simp only [Act.put]
  refine wpAnyZ_take (i := 2) (v := ?vu2) rfl (by kernel_rfl) (by kernel_rfl) (by kernel_rfl) (by kernel_rfl) (fun _ _ _ h => h) (Or.inl ⟨by rfl, ?yu2⟩) (by with_reducible assumption) ?ru2
  case yu2 => (intro w hSw; (try dsimp only at hSw); go_simp; (try with_reducible rfl))
  simp only [Act.put]
  refine wpAnyZ_take (i := 3) (v := ?vu3) rfl (by kernel_rfl) (by kernel_rfl) (by kernel_rfl) (by kernel_rfl) (fun _ _ _ h => h) (Or.inl ⟨by rfl, ?yu3⟩) (by with_reducible assumption) ?ru3
  case yu3 => (intro w hSw; (try dsimp only at hSw); go_simp; (try with_reducible rfl))
  simp only [Act.put]
  refine wpAnyZ_take (i := 4) (v := ?vu4) rfl (by kernel_rfl) (by kernel_rfl) (by kernel_rfl) (by kernel_rfl) (fun _ _ _ h => h) (Or.inl ⟨by rfl, ?yu4⟩) (by with_reducible assumption) ?ru4
  case yu4 => (intro w hSw; (try dsimp only at hSw); go_simp; (try with_reducible rfl))
  simp only [Act.put]
  refine wpAnyZ_take (i := 6) (v := ?vu6) rfl (by kernel_rfl) (by kernel_rfl) (by kernel_rfl) (by kernel_rfl) (fun _ _ _ h => h) (Or.inl ⟨by rfl, ?yu6⟩) (by with_reducible assumption) ?ru6
  case yu6 => (intro w hSw; (try dsimp only at hSw); go_simp; (try with_reducible rfl))
  simp only [Act.put]
  refine wpAnyZ_take (i := 7) (v := ?vu7) rfl (by kernel_rfl) (by kernel_rfl) (by kernel_rfl) (by kernel_rfl) (fun _ _ _ h => h) (Or.inl ⟨by rfl, ?yu7⟩) (by with_reducible assumption) ?ru7
  case yu7 => (intro w hSw; (try dsimp only at hSw); go_simp; (try with_reducible rfl))
  simp only [Act.put]
  refine wpAnyZ_take (i := 8) (v := ?vu8) rfl (by kernel_rfl) (by kernel_rfl) (by kernel_rfl) (by kernel_rfl) (fun _ _ _ h => h) (Or.inl ⟨by rfl, ?yu8⟩) (by with_reducible assumption) ?ru8
  case yu8 => (intro w hSw; (try dsimp only at hSw); go_simp; (try with_reducible rfl))
  simp only [Act.put]
  (try simp only [Act.put])
  refine wpAnyZ_step (i := 5) (by kernel_rfl) rfl ?_
  intro K1 hK1
  go_simp
  have D0 : Hid (Below w2.heap.size w2 w2.drew) := (Below.refl _ _).drew
  refine (HCX.out _ (HP2.out.below D0.out HP2.out.lt) (HM2.out.below D0.out)).mono ?_
  rintro e w3 ⟨A, cap, rfl, ho3, hl3, hb3⟩
  have D3 := Lib.hid (D0.out.trans (hb3.mono D0.out.size))
  have O3 := Lib.hid ho3
  clear hb3 ho3
  refine hK1.out _ _ (KF.out _ D3.out) (fun hS1 => ?_)
  clear hK1
  (try simp only [Act.put])
  refine wpAnyZ_step (i := 9) (by kernel_rfl) rfl ?_
  intro K2 hK2
  go_simp
  refine (HCY.out _ (HP2.out.below D3.out HP2.out.lt) (HM2.out.below D3.out)).mono ?_
  rintro e w4 ⟨A', cap', rfl, ho4, hl4, hb4⟩
  have D4 := Lib.hid (D3.out.trans (hb4.mono D3.out.size))
  have O34 := Lib.hid (own_under O3.out hb4)
  have O4 := Lib.hid ho4
  clear hb4 ho4 O3
  refine hK2.out _ _ (KF.out _ D4.out) (fun hS2 => ?_)
  clear hK2 hS1
  (try simp only [Act.put])
  refine wpAnyZ_step (i := 10) (by kernel_rfl) rfl ?_
  intro K3 hK3
  go_simp
  refine (valJoin_any px py r _ _ _ _ _ HMUL.out (own_I O34.out hl3) (own_I O4.out hl4)).mono ?_
  rintro e w5 ⟨A5, cap5, rfl, ho5, hl5, hb5⟩
  have D5 := Lib.hid (D4.out.trans (hb5.mono D4.out.size))
  have O5 := Lib.hid (own_base (base' := w2.heap.size) ho5 D4.out.size)
  clear hb5 ho5
  refine hK3.out _ _ (KF.out _ D5.out) (fun hS3 => ?_)
  clear hK3
  have RR := Lib.hid (HR2.out.below D5.out HR2.out.lt)
  have VV := Lib.hid (HV2.out.below D5.out HV2.out.lt)
  have B5 := Lib.hid (below_on HB2.out D5.out)
  obtain ⟨d0, d1⟩ := two_cells RR.out
  obtain ⟨e0, e1⟩ := two_frozen RR.out
  obtain ⟨v0_, v1_⟩ := two_cells VV.out
  obtain ⟨y0, y1⟩ := two_frozen VV.out
  (try simp only [Act.put])
  refine wpAnyZ_last (i := 11) (by kernel_rfl) rfl (by kernel_rfl) ?_
  intro K4 hK4
  go_simp
  refine hK4.out _ _ ?_
  clear hK4
  go_wp2_with fail
  have HF := vv_fin (w := w) (m := r.1) RR.out O5.out (show w.heap.size + 1 < w2.heap.size by have := HS2.out; omega) (show w.heap.size + 1 + 1 < w2.heap.size by have := HS2.out; omega) (by omega) (by omega) (by omega) B5.out hl5
  refine bodyPost_ret (results_1 rfl (gives_mat (g := w.heap.size + 1) rfl HF.1)) rfl ?_
  exact VEnd.mk HF.2.1 HF.2.2
theorem ofM_rep (n M cnt p : Nat) (b0 b1 b2 b3 b4 b5 b6 b7 : Bool) (ss : List StepD) (n1 : 1 ≤ n) (n2 : n ≤ 4) (hok : ∀ s ∈ ss, stepOk n s = true) (x : Ex) (ihx : OfM n M cnt p b0 b1 b2 b3 b4 b5 b6 b7 ss x) : OfM n M cnt p b0 b1 b2 b3 b4 b5 b6 b7 ss (.rep x) := by
  intro w hp hM
  obtain ⟨w1, hw1⟩ : ∃ w1, w1 = ((w.alloc (.cells #[.func (Fn.func 50) #[] #[.pointer (some ⟨p, 0, none⟩)], .func (Fn.func 53) #[] #[], .func (Fn.func 55) #[] #[]] 60)).alloc (.cells #[.int .i64 0, .slice none 0 0] 28)).alloc (.cells #[.int .i64 0, .slice none 0 0] 28) := ⟨_, rfl⟩
  have HT : Hid (Blk w1 w.heap.size 60 #[.func (Fn.func 50) #[] #[.pointer (some ⟨p, 0, none⟩)], .func (Fn.func 53) #[] #[], .func (Fn.func 55) #[] #[]]) := by rw [hw1]; exact ((Blk.new _ _ _).alloc _).alloc _
  have HR : Hid (Blk w1 (w.heap.size + 1) 28 #[.int .i64 0, .slice none 0 0]) := by rw [hw1]; exact (blk_new (by simp)).alloc _
  have HV : Hid (Blk w1 (w.heap.size + 1 + 1) 28 #[.int .i64 0, .slice none 0 0]) := by rw [hw1]; exact blk_new (by simp)
  have HB : Hid (Below w.heap.size w w1) := by rw [hw1]; exact below_a3 _ _ _ _
  have HP : Hid (Blk w1 p 51 #[.int .i64 n, .bool b0, .bool b1, .bool b2, .bool b3, .bool b4, .bool b5, .bool b6, .bool b7, .map (some M)]) := by rw [hw1]; exact ((hp.alloc _).alloc _).alloc _
  have HM : Hid (CMap w1 M cnt (costAt ss)) := by rw [hw1]; exact ((hM.kept (World.grownBy_alloc w _ none) (by simp)).kept (World.grownBy_alloc _ _ none) (by simp)).kept (World.grownBy_alloc _ _ none) (by simp)
  have hs1 : w1.heap.size = w.heap.size + 3 := by rw [hw1]; simp
  have HOK := Lib.hid hok
  clear hp hM
  obtain ⟨t0, v0, hx0⟩ := exV_iface x
  have hcx : ∀ w : World, Blk w p 51 #[.int .i64 n, .bool b0, .bool b1, .bool b2, .bool b3, .bool b4, .bool b5, .bool b6, .bool b7, .map (some M)] → CMap w M cnt (costAt ss) → Calls Tryz.prog 25 #[meaningM p, .iface t0 v0] w fun e w' => VEnd (vm n (valueE n ss x)) w e w' := by rw [← hx0]; exact ihx
  have hsh : exV (.rep x) = .iface 92 (.agg #[.iface t0 v0]) := by show Value.iface _ (.agg #[exV x]) = _; rw [hx0]
  have HCX := Lib.hid hcx
  have HST := Lib.hid (stab_vm n1 n2 hok x)
  obtain ⟨r, hr⟩ : ∃ r, r = vm n (valueE n ss (.rep x)) := ⟨_, rfl⟩
  rw [hsh, ← hr]
  rw [← hr] at HST
  clear hcx hx0 hsh ihx hr
  obtain ⟨px, hpx⟩ : ∃ px, px = vm n (valueE n ss x) := ⟨_, rfl⟩
  rw [← hpx] at HCX HST
  clear hpx
  unfold meaningM at *
  obtain ⟨w2, hw2⟩ : ∃ w2, w2 = w1.alloc (.cells #[.iface t0 v0] 92) := ⟨_, rfl⟩
  have HN2 : Hid (Blk w2 (w.heap.size + 1 + 1 + 1) 92 #[.iface t0 v0]) := by rw [hw2]; exact blk_new (by omega)
  have HT2 : Hid (Blk w2 w.heap.size 60 #[.func (Fn.func 50) #[] #[.pointer (some ⟨p, 0, none⟩)], .func (Fn.func 53) #[] #[], .func (Fn.func 55) #[] #[]]) := by rw [hw2]; exact HT.out.alloc _
  have HR2 : Hid (Blk w2 (w.heap.size + 1) 28 #[.int .i64 0, .slice none 0 0]) := by rw [hw2]; exact HR.out.alloc _
  have HV2 : Hid (Blk w2 (w.heap.size + 1 + 1) 28 #[.int .i64 0, .slice none 0 0]) := by rw [hw2]; exact HV.out.alloc _
  have HB2 : Hid (Below w.heap.size w w2) := by rw [hw2]; exact below_al HB.out (Nat.le_refl _) _
  have HP2 : Hid (Blk w2 p 51 #[.int .i64 n, .bool b0, .bool b1, .bool b2, .bool b3, .bool b4, .bool b5, .bool b6, .bool b7, .map (some M)]) := by rw [hw2]; exact HP.out.alloc _
  have HM2 : Hid (CMap w2 M cnt (costAt ss)) := by rw [hw2]; exact HM.out.kept (World.grownBy_alloc w1 _ none) (by simp)
  have hs2 : w2.heap.size = w.heap.size + 4 := by rw [hw2]; simp; omega
  have HS2 := Lib.hid hs2
  have hww : w2 = (((w.alloc (.cells #[.func (Fn.func 50) #[] #[.pointer (some ⟨p, 0, none⟩)], .func (Fn.func 53) #[] #[], .func (Fn.func 55) #[] #[]] 60)).alloc (.cells #[.int .i64 0, .slice none 0 0] 28)).alloc (.cells #[.int .i64 0, .slice none 0 0] 28)).alloc (.cells #[.iface t0 v0] 92) := by rw [hw2, hw1]
  clear HT HR HV HB HP HM hs1 hw1 hw2 hs2
  have tRL := taRL
  have tRJ := taRJ
  have tRR := taRR
  go_enter Tryz.func25, Tryz.ntmps25
  go_wp2_with fail
  rw [← hww]
  clear hww
  have KF : Hid (∀ w', Below w2.heap.size w2 w' → (Hid (Below w2.heap.size w2 w') ∧ w'.cell? ⟨w.heap.size, 0, none⟩ = some (.func (Fn.func 50) #[] #[.pointer (some ⟨p, 0, none⟩)]) ∧ w'.cell? ⟨w.heap.size, 1, none⟩ = some (.func (Fn.func 53) #[] #[]) ∧ w'.cell? ⟨w.heap.size, 2, none⟩ = some (.func (Fn.func 55) #[] #[]) ∧ w'.cell? ⟨w.heap.size + 1 + 1 + 1, 0, none⟩ = some (.iface t0 v0))) := fun w' h => by
    have km := HT2.out.below h HT2.out.lt
    have kn := HN2.out.below h HN2.out.lt
    exact ⟨h, km.cell 0, km.cell 1, km.cell 2, kn.cell 0⟩
  have hS0 := KF.out w2.drew ((Below.refl _ _).drew)
  refine wp_region_Z (S := fun w' => Hid (Below w2.heap.size w2 w') ∧ w'.cell? ⟨w.heap.size, 0, none⟩ = some (.func (Fn.func 50) #[] #[.pointer (some ⟨p, 0, none⟩)]) ∧ w'.cell? ⟨w.heap.size, 1, none⟩ = some (.func (Fn.func 53) #[] #[]) ∧ w'.cell? ⟨w.heap.size, 2, none⟩ = some (.func (Fn.func 55) #[] #[]) ∧ w'.cell? ⟨w.heap.size + 1 + 1 + 1, 0, none⟩ = some (.iface t0 v0)) (by kernel_rfl) hS0 (fun hS => ?_)
  clear hS0
  refine wpAnyZ_take (i := 0) (v := ?vu0) rfl (by kernel_rfl) (by kernel_rfl) (by kernel_rfl) (by kernel_rfl) (fun _ _ _ h => h) (Or.inl ⟨by rfl, ?yu0⟩) (by with_reducible assumption) ?ru0
  case yu0 => (intro w hSw; (try dsimp only at hSw); go_simp; (try with_reducible rfl))
  simp only [Act.put, List.setIfInBounds_toArray]
  refine wpAnyZ_take (i := 1) (v := ?vu1) rfl (by kernel_rfl) (by kernel_rfl) (by kernel_rfl) (by kernel_rfl) (fun _ _ _ h => h) (Or.inl ⟨by rfl, ?yu1⟩) (by with_reducible assumption) ?ru1
  case yu1 => (intro w hSw; (try dsimp only at hSw); go_simp; (try with_reducible rfl))
  simp only [Act.put]
  refine wpAnyZ_take (i := 2) (v := ?vu2) rfl (by kernel_rfl) (by kernel_rfl) (by kernel_rfl) (by kernel_rfl) (fun _ _ _ h => h) (Or.inl ⟨by rfl, ?yu2⟩) (by with_reducible assumption) ?ru2
  case yu2 => (intro w hSw; (try dsimp only at hSw); go_simp; (try with_reducible rfl))
  simp only [Act.put]
  refine wpAnyZ_take (i := 3) (v := ?vu3) rfl (by kernel_rfl) (by kernel_rfl) (by kernel_rfl) (by kernel_rfl) (fun _ _ _ h => h) (Or.inl ⟨by rfl, ?yu3⟩) (by with_reducible assumption) ?ru3
  case yu3 => (intro w hSw; (try dsimp only at hSw); go_simp; (try with_reducible rfl))
  simp only [Act.put]
  refine wpAnyZ_take (i := 4) (v := ?vu4) rfl (by kernel_rfl) (by kernel_rfl) (by kernel_rfl) (by kernel_rfl) (fun _ _ _ h => h) (Or.inl ⟨by rfl, ?yu4⟩) (by with_reducible assumption) ?ru4
  case yu4 => (intro w hSw; (try dsimp only at hSw); go_simp; (try with_reducible rfl))
  simp only [Act.put]
  (try simp only [Act.put])
  refine wpAnyZ_step (i := 5) (by kernel_rfl) rfl ?_
  intro K1 hK1
  go_simp
  have D0 : Hid (Below w2.heap.size w2 w2.drew) := (Below.refl _ _).drew
  refine (HCX.out _ (HP2.out.below D0.out HP2.out.lt) (HM2.out.below D0.out)).mono ?_
  rintro e w3 ⟨A, cap, rfl, ho3, hl3, hb3⟩
  have D3 := Lib.hid (D0.out.trans (hb3.mono D0.out.size))
  have O3 := Lib.hid ho3
  clear hb3 ho3
  refine hK1.out _ _ (KF.out _ D3.out) (fun hS1 => ?_)
  clear hK1
  (try simp only [Act.put])
  refine wpAnyZ_step (i := 6) (by kernel_rfl) rfl ?_
  intro K3 hK3
  go_simp
  refine (valRep_any px r _ _ _ HST.out (own_I O3.out hl3)).mono ?_
  rintro e w5 ⟨A5, cap5, rfl, ho5, hl5, hb5⟩
  have D5 := Lib.hid (D3.out.trans (hb5.mono D3.out.size))
  have O5 := Lib.hid (own_base (base' := w2.heap.size) ho5 D3.out.size)
  clear hb5 ho5
  refine hK3.out _ _ (KF.out _ D5.out) (fun hS3 => ?_)
  clear hK3
  have RR := Lib.hid (HR2.out.below D5.out HR2.out.lt)
  have VV := Lib.hid (HV2.out.below D5.out HV2.out.lt)
  have B5 := Lib.hid (below_on HB2.out D5.out)
  obtain ⟨d0, d1⟩ := two_cells RR.out
  obtain ⟨e0, e1⟩ := two_frozen RR.out
  obtain ⟨v0_, v1_⟩ := two_cells VV.out
  obtain ⟨y0, y1⟩ := two_frozen VV.out
  (try simp only [Act.put])
  refine wpAnyZ_last (i := 7) (by kernel_rfl) rfl (by kernel_rfl) ?_
  intro K4 hK4
  go_simp
  refine hK4.out _ _ ?_
  clear hK4
  go_wp2_with fail
  have HF := vv_fin (w := w) (m := r.1) RR.out O5.out (show w.heap.size + 1 < w2.heap.size by have := HS2.out; omega) (show w.heap.size + 1 + 1 < w2.heap.size by have := HS2.out; omega) (by omega) (by omega) (by omega) B5.out hl5
  refine bodyPost_ret (results_1 rfl (gives_mat (g := w.heap.size + 1) rfl HF.1)) rfl ?_
  exact VEnd.mk HF.2.1 HF.2.2
theorem ofM_all (n M cnt p : Nat) (b0 b1 b2 b3 b4 b5 b6 b7 : Bool) (ss : List StepD) (n1 : 1 ≤ n) (n2 : n ≤ 4) (hok : ∀ s ∈ ss, stepOk n s = true) : ∀ (x : Ex), OfM n M cnt p b0 b1 b2 b3 b4 b5 b6 b7 ss x
  | .lit b => ofM_lit n M cnt p b0 b1 b2 b3 b4 b5 b6 b7 ss n1 n2 hok b
  | .join x y => ofM_join n M cnt p b0 b1 b2 b3 b4 b5 b6 b7 ss n1 n2 hok x y (ofM_all n M cnt p b0 b1 b2 b3 b4 b5 b6 b7 ss n1 n2 hok x) (ofM_all n M cnt p b0 b1 b2 b3 b4 b5 b6 b7 ss n1 n2 hok y)
  | .rep x => ofM_rep n M cnt p b0 b1 b2 b3 b4 b5 b6 b7 ss n1 n2 hok x (ofM_all n M cnt p b0 b1 b2 b3 b4 b5 b6 b7 ss n1 n2 hok x)
end Go.Proofs.YthcfdmphephfpaaGreat
namespace Go.Proofs.YthcfdmphephfpaaGreat
open Go.RowKit
set_option maxHeartbeats 4000000
set_option maxRecDepth 100000
set_option linter.unusedVariables false

def valueR (m : Int) (xs ys : List Int) (ss : List StepD) (l : List UInt8) : Option (Int × List Int) :=
  if autoOk m xs ys ss = true then (nodeF l).bind fun x => (valueE m.toNat ss x).map fun a => (m, a) else none
theorem valueR_auto {m : Int} {xs ys : List Int} {ss : List StepD} {l : List UInt8} (h : autoOk m xs ys ss = false) : valueR m xs ys ss l = none := by unfold valueR; rw [if_neg (fun h' => by rw [h] at h'; cases h')]
theorem valueR_node {m : Int} {xs ys : List Int} {ss : List StepD} {l : List UInt8} (h : nodeF l = none) : valueR m xs ys ss l = none := by unfold valueR; rw [h]; split <;> rfl
theorem valueR_in {n : Nat} {xs ys : List Int} {ss : List StepD} {l : List UInt8} {x : Ex} (h : autoOk n xs ys ss = true) (hx : nodeF l = some x) : valueR n xs ys ss l = (valueE n ss x).map fun a => ((n : Int), a) := by
  unfold valueR
  rw [if_pos h, hx]; rfl
theorem vm_ok {n : Nat} {ss : List StepD} (n1 : 1 ≤ n) (n2 : n ≤ 4) (hok : ∀ s ∈ ss, stepOk n s = true) (x : Ex) : gradeOk (vm n (valueE n ss x)).1 (vm n (valueE n ss x)).2 = (valueE n ss x).isSome := by
  cases h : valueE n ss x with
  | none => exact zero_no
  | some a => exact (value_GV n1 n2 hok x a h).ok
theorem vm_map (n : Nat) (o : Option (List Int)) : (o.map fun a => ((n : Int), a)).getD (0, []) = vm n o ∧ (o.map fun a => ((n : Int), a)).isSome = o.isSome := by cases o <;> exact ⟨rfl, rfl⟩
theorem mend_of {r : Option (Int × List Int)} {w w' : World} {v : Value} {b : Bool} (hr : r.isSome = b) (ho : MatOwn w' w.heap.size v (r.getD (0, [])).1 (r.getD (0, [])).2) (hb : Below w.heap.size w w') : MEnd r w (.returned (.tuple #[v, .bool b])) w' := by
  subst hr; exact ⟨v, rfl, ho, hb⟩
theorem iValue_any (m : Int) (A1 A2 A3 : Option Addr) (c1 c2 c3 : Nat) (xs ys : List Int) (ss : List StepD) (l : ByteArray) (w : World) (hx : Ints w w.heap.size A1 xs) (hy : Ints w w.heap.size A2 ys) (hs : SRow w w.heap.size A3 ss) :
    Calls Tryz.prog 8 #[.agg #[.int .i64 m, .slice A1 xs.length c1, .slice A2 ys.length c2, .slice A3 ss.length c3], .string l] w fun e w' => MEnd (valueR m xs ys ss l.data.toList) w e w' := by
  have HX0 := Lib.hid (ints_al (ints_al hx (.cells #[.int .i64 m, .slice A1 xs.length c1, .slice A2 ys.length c2, .slice A3 ss.length c3] 33)) (.cells #[.int .i64 0, .slice none 0 0] 28))
  have HY0 := Lib.hid (ints_al (ints_al hy (.cells #[.int .i64 m, .slice A1 xs.length c1, .slice A2 ys.length c2, .slice A3 ss.length c3] 33)) (.cells #[.int .i64 0, .slice none 0 0] 28))
  have HS := Lib.hid ((hs.al (.cells #[.int .i64 m, .slice A1 xs.length c1, .slice A2 ys.length c2, .slice A3 ss.length c3] 33)).al (.cells #[.int .i64 0, .slice none 0 0] 28))
  clear hx hy hs
  cases hok : autoOk m xs ys ss with
  | false =>
    have HOK := Lib.hid hok
    have HR := Lib.hid (valueR_auto (l := l.data.toList) hok)
    clear hok
    go_enter Tryz.func8, Tryz.ntmps8
    go_wp2_with fail
    refine (mn_auto _ _ _ _ _ _ _ _ _ _ _ _ HX0.out HY0.out HS.out HOK.out).mono ?_
    rintro e w1 ⟨rfl, hb1⟩
    have B1 := Lib.hid (below_on (below_a2 w _ _) hb1.out)
    have R1 : Hid (Blk w1 (w.heap.size + 1) 28 #[.int .i64 0, .slice none 0 0]) := (blk_new (by simp)).below hb1.out (by simp)
    clear hb1 HX0 HY0 HS
    have rA : ∀ o, Blk (w1.alloc o) (w.heap.size + 1) 28 #[.int .i64 0, .slice none 0 0] := fun o => R1.out.alloc o
    have d0 := fun o => (rA o).cell 0
    have d1 := fun o => (rA o).cell 1
    have f0 := fun o => (rA o).frozen 0
    have f1 := fun o => (rA o).frozen 1
    dsimp at d0 d1
    clear rA
    go_wp2_with fail
    refine bodyPost_ret (results_2 rfl (gives_mat (g := w.heap.size + 1) rfl (((R1.out.alloc _).set_ 0 _).set_ 1 _)) (.tmp rfl)) rfl ?_
    exact MEnd.none_ HR.out (((below_al B1.out (Nat.le_refl _) _).setCell (p := ⟨_, 0, none⟩) (Nat.le_succ _) _).setCell (p := ⟨_, 1, none⟩) (Nat.le_succ _) _)
  | true =>
    cases hn : nodeF l.data.toList with
    | none =>
      have HOK := Lib.hid hok
      have HN := Lib.hid hn
      have HR := Lib.hid (valueR_node (m := m) (xs := xs) (ys := ys) (ss := ss) hn)
      clear hok hn
      go_enter Tryz.func8, Tryz.ntmps8
      go_wp2_with fail
      refine (mn_node _ _ _ _ _ _ _ _ _ _ _ _ HX0.out HY0.out HS.out HOK.out HN.out).mono ?_
      rintro e w1 ⟨rfl, hb1⟩
      have B1 := Lib.hid (below_on (below_a2 w _ _) hb1.out)
      have R1 : Hid (Blk w1 (w.heap.size + 1) 28 #[.int .i64 0, .slice none 0 0]) := (blk_new (by simp)).below hb1.out (by simp)
      clear hb1 HX0 HY0 HS
      have rA : ∀ o, Blk (w1.alloc o) (w.heap.size + 1) 28 #[.int .i64 0, .slice none 0 0] := fun o => R1.out.alloc o
      have d0 := fun o => (rA o).cell 0
      have d1 := fun o => (rA o).cell 1
      have f0 := fun o => (rA o).frozen 0
      have f1 := fun o => (rA o).frozen 1
      dsimp at d0 d1
      clear rA
      go_wp2_with fail
      refine bodyPost_ret (results_2 rfl (gives_mat (g := w.heap.size + 1) rfl (((R1.out.alloc _).set_ 0 _).set_ 1 _)) (.tmp rfl)) rfl ?_
      exact MEnd.none_ HR.out (((below_al B1.out (Nat.le_refl _) _).setCell (p := ⟨_, 0, none⟩) (Nat.le_succ _) _).setCell (p := ⟨_, 1, none⟩) (Nat.le_succ _) _)
    | some x =>
      obtain ⟨n, rfl, n1, n2, _, _, _, hsi⟩ := auto_in hok
      have HOK := Lib.hid hok
      have HN := Lib.hid hn
      have HSI := Lib.hid hsi
      have HR : Hid ((valueR (n : Int) xs ys ss l.data.toList).getD (0, []) = vm n (valueE n ss x) ∧ (valueR (n : Int) xs ys ss l.data.toList).isSome = (valueE n ss x).isSome) := by
        rw [valueR_in hok hn]; exact vm_map n _
      have HVO := Lib.hid (vm_ok n1 n2 hsi x)
      clear hok hn hsi
      go_enter Tryz.func8, Tryz.ntmps8
      go_wp2_with fail
      refine (mn_ok _ _ _ _ _ _ _ _ _ _ _ x _ HX0.out HY0.out HS.out HOK.out HN.out).mono ?_
      rintro e w1 ⟨M, rfl, hM, hmap, hb1⟩
      have B1 := Lib.hid (below_on (below_a2 w _ _) hb1.out)
      have R1 : Hid (Blk w1 (w.heap.size + 1) 28 #[.int .i64 0, .slice none 0 0]) := (blk_new (by simp)).below hb1.out (by simp)
      have hw1 : w.heap.size + 2 ≤ w1.heap.size := by have := hb1.out.size; simpa using this
      obtain ⟨w2, hw2⟩ : ∃ w2, w2 = w1.alloc (.cells #[.int .i64 n, .bool (hasB xs 0), .bool (hasB xs 1), .bool (hasB xs 2), .bool (hasB xs 3), .bool (hasB ys 0), .bool (hasB ys 1), .bool (hasB ys 2), .bool (hasB ys 3), .map (some M)] 51) := ⟨_, rfl⟩
      have R2 : Hid (Blk w2 (w.heap.size + 1) 28 #[.int .i64 0, .slice none 0 0]) := by rw [hw2]; exact R1.out.alloc _
      have B2 : Hid (Below w.heap.size w w2) := by rw [hw2]; exact below_al B1.out (Nat.le_refl _) _
      have C2 : Hid (CMap w2 M ss.length (costAt ss)) := by rw [hw2]; exact hmap.out.kept (World.grownBy_alloc w1 _ none) (by simp)
      have HW12 : Hid (w.heap.size + 2 ≤ w2.heap.size) := by rw [hw2]; show _ ≤ _; simp; omega
      obtain ⟨t0, v0, hx0⟩ := exV_iface x
      rw [hx0]
      clear hb1 HX0 HY0 HS hM hmap B1 R1
      go_wp2_with fail
      rw [← hw2]
      clear hw2 hw1
      refine (values_any n M _ _ _ _ _ _ _ _ _).mono ?_
      rintro e w3 ⟨p, rfl, hp0, hp, hb3⟩
      have B3 := Lib.hid (below_on B2.out hb3)
      have R3 := Lib.hid (blk_b R2.out hb3)
      have C3 := Lib.hid (C2.out.below hb3)
      have HP := Lib.hid hp
      have HW3 : Hid (w.heap.size + 2 ≤ w3.heap.size) := Nat.le_trans HW12.out hb3.size
      have hc := ofM_all n M ss.length p _ _ _ _ _ _ _ _ ss n1 n2 HSI.out x w3 hp C3.out
      rw [hx0] at hc
      have HC := Lib.hid hc
      clear hb3 hp hc R2 B2 C2 HW12
      go_wp2_with fail
      refine HC.out.mono ?_
      obtain ⟨r, hr⟩ : ∃ r, r = vm n (valueE n ss x) := ⟨_, rfl⟩
      rw [← hr] at HR HVO ⊢
      rintro e w4 ⟨A, cap, rfl, ho, hl, hb4⟩
      have B4 := Lib.hid (below_on B3.out hb4)
      have R4 := Lib.hid (blk_b R3.out hb4)
      have O4 := Lib.hid ho
      have HW4 := Lib.hid HW3.out
      have hW34 : w3.heap.size ≤ w4.heap.size := hb4.size
      obtain ⟨b, hbv⟩ : ∃ b, b = (valueE n ss x).isSome := ⟨_, rfl⟩
      rw [← hbv] at HR HVO
      clear ho hb4 hr HC B3 R3 C3 HP hbv
      obtain ⟨w5, hw5⟩ : ∃ w5, w5 = w4.alloc (.cells #[.int .i64 r.1, .slice A r.2.length cap] 28) := ⟨_, rfl⟩
      have V5 : Hid (Blk w5 w4.heap.size 28 #[.int .i64 r.1, .slice A r.2.length cap]) := by rw [hw5]; exact Blk.new _ _ _
      have R5 : Hid (Blk w5 (w.heap.size + 1) 28 #[.int .i64 0, .slice none 0 0]) := by rw [hw5]; exact R4.out.alloc _
      have O5 : Hid (w5.ownsRow w3.heap.size 3 1 (.slice A r.2.length cap) r.2.length (r.2.map (Value.int .i64))) := by rw [hw5]; exact O4.out.alloc _
      have B5 : Hid (Below w.heap.size w w5) := by rw [hw5]; exact below_al B4.out (Nat.le_refl _) _
      clear R4 O4 B4
      go_wp2_with fail
      rw [← hw5]
      clear hw5
      obtain ⟨V, hV⟩ : ∃ V, V = w4.heap.size := ⟨_, rfl⟩
      rw [← hV] at V5 ⊢
      have hRV : ¬ w.heap.size + 1 = V := by have := HW4.out; omega
      clear hV
      have hS0 : w5.drew.cell? ⟨V, 0, none⟩ = some (.int .i64 r.1) ∧ w5.drew.cell? ⟨V, 1, none⟩ = some (.slice A r.2.length cap) := ⟨V5.out.cell 0, V5.out.cell 1⟩
      refine wp_region_Z (S := fun w' => w'.cell? ⟨V, 0, none⟩ = some (.int .i64 r.1) ∧ w'.cell? ⟨V, 1, none⟩ = some (.slice A r.2.length cap)) (by kernel_rfl) hS0 (fun hS => ?_)
      clear hS0
      refine wpAnyZ_take (i := 0) (v := ?vu0) rfl (by kernel_rfl) (by kernel_rfl) (by kernel_rfl) (by kernel_rfl) (fun _ _ _ h => h) (Or.inl ⟨by rfl, ?yu0⟩) (by with_reducible assumption) ?ru0
      case yu0 => (intro w hSw; (try dsimp only at hSw); go_simp; (try with_reducible rfl))
      simp only [Act.put, List.setIfInBounds_toArray]
      refine wpAnyZ_take (i := 1) (v := ?vu1) rfl (by kernel_rfl) (by kernel_rfl) (by kernel_rfl) (by kernel_rfl) (fun _ _ _ h => h) (Or.inl ⟨by rfl, ?yu1⟩) (by with_reducible assumption) ?ru1
      case yu1 => (intro w hSw; (try dsimp only at hSw); go_simp; (try with_reducible rfl))
      simp only [Act.put]
      refine wpAnyZ_step (i := 2) (by kernel_rfl) rfl ?_
      intro K1 hK1
      go_simp
      have O5d : Hid (w5.drew.ownsRow w3.heap.size 3 1 (.slice A r.2.length cap) r.2.length (r.2.map (Value.int .i64))) := O5.out
      refine (iGradesValid_is r.1 A cap r.2 b _ (own_I O5d.out hl) HVO.out).mono ?_
      rintro e w6 ⟨rfl, hb6⟩
      have V6 := Lib.hid (blk_b (show Blk w5.drew V _ _ from V5.out) hb6)
      have R6 := Lib.hid (blk_b (show Blk w5.drew (w.heap.size + 1) _ _ from R5.out) hb6)
      have O6 := Lib.hid (own_under O5d.out hb6)
      have B6 := Lib.hid (below_on (B5.out.drew) hb6)
      clear hb6 V5 R5 O5 O5d B5
      refine hK1.out _ _ ⟨V6.out.cell 0, V6.out.cell 1⟩ (fun hS1 => ?_)
      clear hK1
      obtain ⟨d0, d1⟩ := two_cells R6.out
      obtain ⟨f0, f1⟩ := two_frozen R6.out
      (try simp only [Act.put])
      refine wpAnyZ_step (i := 3) (by kernel_rfl) rfl ?_
      intro K2 hK2
      go_simp
      have HF := mat_fin (w := w) (m := r.1) R6.out O6.out (show w.heap.size + 1 < w3.heap.size by have := HW4.out; omega) (by omega) B6.out hl
      refine hK2.out _ _ ⟨((V6.out.other (w.heap.size + 1) 0 _ hRV).other (w.heap.size + 1) 1 _ hRV).cell 0, ((V6.out.other (w.heap.size + 1) 0 _ hRV).other (w.heap.size + 1) 1 _ hRV).cell 1⟩ (fun hS2 => ?_)
      clear hK2
      (try simp only [Act.put])
      refine wpAnyZ_last (i := 4) (by kernel_rfl) rfl (by kernel_rfl) ?_
      intro K3 hK3
      go_simp
      refine hK3.out _ _ ?_
      clear hK3
      go_wp2_with fail
      refine bodyPost_ret (results_2 rfl (gives_mat (g := w.heap.size + 1) rfl HF.1) (.tmp rfl)) rfl ?_
      exact mend_of HR.out.2 (by rw [HR.out.1]; exact HF.2.1) HF.2.2
end Go.Proofs.YthcfdmphephfpaaGreat
