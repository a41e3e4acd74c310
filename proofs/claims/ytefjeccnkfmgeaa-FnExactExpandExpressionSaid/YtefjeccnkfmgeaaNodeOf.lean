/- A text as an expression's nodes, and whether it is one; nothing that was there changes. No condition. -/
import Derived.Test.YtefjeccnkfmgeaaNode
import Derived.WalkLawsBesides
import Derived.Defers
import Derived.Recover
namespace Go.Proofs.Ytefjeccnkfmgeaa
open Go.RowKit
set_option maxHeartbeats 2000000
set_option maxRecDepth 100000
set_option linter.unusedVariables false

/-- What the whole text is, at any length. -/
def allF (l : List UInt8) : Option Ex := match genF none l with
  | some (x, []) => some x
  | _ => none
theorem node_all {l : List UInt8} (h : l.length ≤ 120) : nodeF l = allF l := by unfold nodeF allF; rw [if_pos h]; rfl
theorem node_long {l : List UInt8} (h : ¬ l.length ≤ 120) : nodeF l = none := by unfold nodeF; rw [if_neg h]
theorem all_of {l : List UInt8} {x : Ex} {r : List UInt8} (h : genF none l = some (x, r)) : allF l = if r = [] then some x else none := by
  unfold allF
  rw [h]
  cases r <;> rfl
theorem all_none {l : List UInt8} (h : genF none l = none) : allF l = none := by unfold allF; rw [h]
def AllEnd (r : Option Ex) (A : Nat) (w : World) (e : Ending) (w' : World) : Prop :=
  Below A w w' ∧ ((∃ x, r = some x ∧ e = .returned (exV x)) ∨ (r = none ∧ ∃ v, e = .panicked [{ v := .iface 9 v, recovered := false }]))
theorem whole_any (A : Nat) (s : ByteArray) (w : World) (hb : Blk w A 51 #[.string s]) :
    Calls Try.prog 28 #[.pointer (some ⟨A, 0, none⟩)] w fun e w' => AllEnd (allF s.data.toList) A w e w' := by
  have HB := Lib.hid hb
  clear hb
  go_enter Try.func28, Try.ntmps28
  go_wp2_with fail
  refine (expr_any A s _ HB.out).mono ?_
  rintro e w1 ⟨hb1, ⟨x, l, q, hr, hq, rfl, hB1⟩ | ⟨hr, v, rfl⟩⟩
  · have HW := Lib.hid hb1
    have HR := Lib.hid (all_of hr)
    have c0 : w1.cell? ⟨A, 0, none⟩ = some (.string q) := hB1.cell 0
    clear hb1 hr hB1
    cases he : q.toList.isEmpty with
    | true =>
      have HE : Hid (l = []) := by rw [ByteArray.toList_eq, hq] at he; exact List.isEmpty_iff.1 he
      clear hq
      go_wp2_with fail
      go_ret
      exact ⟨HW.out, .inl ⟨x, by rw [HR.out, if_pos HE.out], rfl⟩⟩
    | false =>
      have HE : Hid (¬ l = []) := by
        rw [ByteArray.toList_eq, hq] at he
        intro e
        rw [e] at he
        cases he
      clear hq
      go_wp2_with fail
      exact ⟨rfl, HW.out, .inr ⟨by rw [HR.out, if_neg HE.out], _, rfl⟩⟩
  · have HW := Lib.hid hb1
    have HR := Lib.hid (all_none hr)
    clear hb1 hr
    go_wp2_with fail
    exact ⟨rfl, HW.out, .inr ⟨HR.out, _, rfl⟩⟩

/-! The deferred closure. -/
theorem catchN_panic (p q : Addr) (x : Value) (y : Bool) (u : TypeId) (pv : Value) (older : List PanicEntry) (w : World) (hpq : ¬ p = q) (hc : w.cell? p = some x) (hz : w.frozen? p = false) (hc' : w.cell? q = some (.bool y)) (hz' : w.frozen? q = false) :
    CallsD Try.prog 27 #[.pointer (some p), .pointer (some q)] (.panicking ({ v := .iface u pv, recovered := false } :: older)) w fun e u' w' =>
      e = .returned (.tuple #[]) ∧ u' = .panicking ({ v := .iface u pv, recovered := true } :: older) ∧ w' = (w.setCell p .nilIface).setCell q (.bool false) := by
  have hcq : (w.setCell p .nilIface).cell? q = some (.bool y) := by rw [World.cell?_setCell_other _ _ _ _ hpq]; exact hc'
  refine callsD_of_wpS Try.func27 rfl fun c₀ cs hu => ?_
  apply wpS_seq
  apply wpS_region
  simp [wpOpsS, go_sem, recoverD, hu, Try.ntmps27, Exit.thenS]
  refine wpS_cond (t := true) (by simp [Act.eval, Array.replicate]) ?_
  simp only [if_true]
  apply wpS_region
  simp [wpOpsS, go_sem, hc, hz, hcq, hz', bodyPostS, results, Try.results27]

theorem catchN_idle (p q : Addr) (w : World) :
    CallsD Try.prog 27 #[.pointer (some p), .pointer (some q)] .returning w fun e u' w' => e = .returned (.tuple #[]) ∧ u' = .returning ∧ w' = w := by
  refine callsD_of_wpS Try.func27 rfl fun c₀ cs hu => ?_
  apply wpS_seq
  apply wpS_region
  simp [wpOpsS, go_sem, recoverD, hu, Try.ntmps27, Exit.thenS]
  refine wpS_cond (t := false) (by simp [Act.eval, Array.replicate]) ?_
  simp only [Bool.false_eq_true, if_false]
  refine wpS_of_wp (wp_skip ?_)
  cases c₀
  simp_all [bodyPostS, results, Try.results27]

/-- The world in which the two results have been made. -/
def twoR (w : World) : World := (w.alloc (.cells #[.nilIface] 30)).alloc (.cells #[.bool false] 4)
theorem below2 (w : World) : Below w.heap.size w (twoR w) := ((Below.refl _ _).alloc (Nat.le_refl _) _).alloc (by simp) _
theorem nodeOf_long (s : ByteArray) (w : World) (hs : ¬ s.size ≤ 120) :
    Calls Try.prog 19 #[.string s] w fun e w' => e = .returned (.tuple #[.nilIface, .bool false]) ∧ Below w.heap.size w w' := by
  have hs' : (120 : Int) < (s.size : Int) := by omega
  have HB := Lib.hid (below2 w)
  go_enter_defers Try.func19, Try.ntmps19
  go_wp2_with fail
  simp [bodyPostD, Leaves, results, Try.results19, go_sem]
  exact HB.out

/-- In the world in which the reader has been made. -/
def rdW (w : World) (s : ByteArray) : World := (twoR w).alloc (.cells #[.string s] 51)
theorem rdW_size (w : World) (s : ByteArray) : (rdW w s).heap.size = w.heap.size + 3 := by unfold rdW twoR; simp
theorem rd_c0 (w : World) (s : ByteArray) : (rdW w s).cell? ⟨w.heap.size, 0, none⟩ = some .nilIface := by unfold rdW twoR; simp [go_sem]
theorem rd_c1 (w : World) (s : ByteArray) : (rdW w s).cell? ⟨w.heap.size + 1, 0, none⟩ = some (.bool false) := by unfold rdW twoR; simp [go_sem]
theorem rd_f0 (w : World) (s : ByteArray) : (rdW w s).frozen? ⟨w.heap.size, 0, none⟩ = false := by unfold rdW twoR; simp [go_sem]
theorem rd_f1 (w : World) (s : ByteArray) : (rdW w s).frozen? ⟨w.heap.size + 1, 0, none⟩ = false := by unfold rdW twoR; simp [go_sem]
theorem rd_below (w : World) (s : ByteArray) : Below w.heap.size w (rdW w s) := (below2 w).alloc (by unfold twoR; simp; omega) _
theorem nodeOf_good (s : ByteArray) (w : World) (hs : s.size ≤ 120) (x : Ex) (hx : allF s.data.toList = some x) :
    Calls Try.prog 19 #[.string s] w fun e w' => e = .returned (.tuple #[exV x, .bool true]) ∧ Below w.heap.size w w' := by
  have HV := Lib.hid hx
  clear hx
  have hs' : ¬ (120 : Int) < (s.size : Int) := by omega
  have HK : Hid (Blk (rdW w s) (w.heap.size + 2) 51 #[.string s]) := by
    have h := Blk.new (twoR w) 51 #[.string s]
    have e : (twoR w).heap.size = w.heap.size + 2 := by unfold twoR; simp
    rw [e] at h
    exact h
  have hmf : ∀ (fn : Fn) (first cap : Array Value) (w : World), (Instr.makeFunc fn first cap).run Try.prog w = .ok (.func fn first cap) w := fun _ _ _ _ => rfl
  go_enter_defers Try.func19, Try.ntmps19
  go_wp2_with fail
  refine (whole_any _ s _ HK.out).mono ?_
  rintro e w1 ⟨hb, ⟨x', hx', rfl⟩ | ⟨hn, h'⟩⟩
  · have e1 : x' = x := Option.some.inj (hx'.symm.trans HV.out)
    subst e1
    clear hx'
    have c0 : w1.cell? ⟨w.heap.size, 0, none⟩ = some .nilIface := (hb.cell (p := ⟨w.heap.size, 0, none⟩) (by show w.heap.size < w.heap.size + 2; omega)).trans (rd_c0 w s)
    have c1 : w1.cell? ⟨w.heap.size + 1, 0, none⟩ = some (.bool false) := (hb.cell (p := ⟨w.heap.size + 1, 0, none⟩) (by show w.heap.size + 1 < w.heap.size + 2; omega)).trans (rd_c1 w s)
    have f0 : w1.frozen? ⟨w.heap.size, 0, none⟩ = false := (hb.frozen (p := ⟨w.heap.size, 0, none⟩) (by show w.heap.size < w.heap.size + 2; omega)).trans (rd_f0 w s)
    have f1 : w1.frozen? ⟨w.heap.size + 1, 0, none⟩ = false := (hb.frozen (p := ⟨w.heap.size + 1, 0, none⟩) (by show w.heap.size + 1 < w.heap.size + 2; omega)).trans (rd_f1 w s)
    have hbw : Below w.heap.size w w1 := (rd_below w s).trans (hb.mono (by omega))
    have HB := Lib.hid hbw
    clear hb hbw
    obtain ⟨t0, v0, hx0⟩ := exV_iface x'
    rw [hx0]
    go_wp2
    refine leaves_cons (f := 27) (args := #[.pointer (some ⟨w.heap.size, 0, none⟩), .pointer (some ⟨w.heap.size + 1, 0, none⟩)]) (by simp) (by simp [go_sem]) ?_
    refine (catchN_idle ⟨w.heap.size, 0, none⟩ ⟨w.heap.size + 1, 0, none⟩ _).mono ?_
    rintro e u' w'' ⟨rfl, rfl, rfl⟩
    have hB := (HB.out.setCell (p := ⟨w.heap.size, 0, none⟩) (Nat.le_refl _) (.iface t0 v0)).setCell (p := ⟨w.heap.size + 1, 0, none⟩) (Nat.le_succ _) (.bool true)
    simp [Leaves, settle, results, Try.results19, go_sem, c0, c1]
    exact ⟨hx0.symm, hB⟩
  · rw [HV.out] at hn; cases hn
theorem nodeOf_bad (s : ByteArray) (w : World) (hs : s.size ≤ 120) (hx : allF s.data.toList = none) :
    Calls Try.prog 19 #[.string s] w fun e w' => e = .returned (.tuple #[.nilIface, .bool false]) ∧ Below w.heap.size w w' := by
  have HV := Lib.hid hx
  clear hx
  have hs' : ¬ (120 : Int) < (s.size : Int) := by omega
  have HK : Hid (Blk (rdW w s) (w.heap.size + 2) 51 #[.string s]) := by
    have h := Blk.new (twoR w) 51 #[.string s]
    have e : (twoR w).heap.size = w.heap.size + 2 := by unfold twoR; simp
    rw [e] at h
    exact h
  have hmf : ∀ (fn : Fn) (first cap : Array Value) (w : World), (Instr.makeFunc fn first cap).run Try.prog w = .ok (.func fn first cap) w := fun _ _ _ _ => rfl
  go_enter_defers Try.func19, Try.ntmps19
  go_wp2_with fail
  refine (whole_any _ s _ HK.out).mono ?_
  rintro e w1 ⟨hb, ⟨x', hx', rfl⟩ | ⟨hn, pv, rfl⟩⟩
  · rw [HV.out] at hx'; cases hx'
  · have c0 : w1.cell? ⟨w.heap.size, 0, none⟩ = some .nilIface := (hb.cell (p := ⟨w.heap.size, 0, none⟩) (by show w.heap.size < w.heap.size + 2; omega)).trans (rd_c0 w s)
    have c1 : w1.cell? ⟨w.heap.size + 1, 0, none⟩ = some (.bool false) := (hb.cell (p := ⟨w.heap.size + 1, 0, none⟩) (by show w.heap.size + 1 < w.heap.size + 2; omega)).trans (rd_c1 w s)
    have f0 : w1.frozen? ⟨w.heap.size, 0, none⟩ = false := (hb.frozen (p := ⟨w.heap.size, 0, none⟩) (by show w.heap.size < w.heap.size + 2; omega)).trans (rd_f0 w s)
    have f1 : w1.frozen? ⟨w.heap.size + 1, 0, none⟩ = false := (hb.frozen (p := ⟨w.heap.size + 1, 0, none⟩) (by show w.heap.size + 1 < w.heap.size + 2; omega)).trans (rd_f1 w s)
    have hbw : Below w.heap.size w w1 := (rd_below w s).trans (hb.mono (by omega))
    have HB := Lib.hid hbw
    clear hb hbw hn
    go_wp2
    refine leaves_cons (f := 27) (args := #[.pointer (some ⟨w.heap.size, 0, none⟩), .pointer (some ⟨w.heap.size + 1, 0, none⟩)]) (by simp) (by simp [go_sem]) ?_
    refine (catchN_panic ⟨w.heap.size, 0, none⟩ ⟨w.heap.size + 1, 0, none⟩ .nilIface false 9 pv [] _ (by simp) c0 f0 c1 f1).mono ?_
    rintro e u' w'' ⟨rfl, rfl, rfl⟩
    have hB := (HB.out.setCell (p := ⟨w.heap.size, 0, none⟩) (Nat.le_refl _) .nilIface).setCell (p := ⟨w.heap.size + 1, 0, none⟩) (Nat.le_succ _) (.bool false)
    simp [Leaves, settle, results, Try.results19, go_sem, c0, c1]
    exact hB
/-- A text's nodes. -/
theorem nodeOf_yes (s : ByteArray) (w : World) (x : Ex) (hx : nodeF s.data.toList = some x) :
    Calls Try.prog 19 #[.string s] w fun e w' => e = .returned (.tuple #[exV x, .bool true]) ∧ Below w.heap.size w w' := by
  by_cases h : s.data.toList.length ≤ 120
  · exact nodeOf_good s w (by rw [size_len]; exact h) x (by rw [← node_all h]; exact hx)
  · rw [node_long h] at hx; cases hx
theorem nodeOf_no (s : ByteArray) (w : World) (hx : nodeF s.data.toList = none) :
    Calls Try.prog 19 #[.string s] w fun e w' => e = .returned (.tuple #[.nilIface, .bool false]) ∧ Below w.heap.size w w' := by
  by_cases h : s.data.toList.length ≤ 120
  · exact nodeOf_bad s w (by rw [size_len]; exact h) (by rw [← node_all h]; exact hx)
  · exact nodeOf_long s w (by rw [size_len]; exact h)
end Go.Proofs.Ytefjeccnkfmgeaa
