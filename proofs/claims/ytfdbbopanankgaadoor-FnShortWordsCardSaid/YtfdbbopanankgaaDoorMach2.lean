/- The program's machines: sets of states, and an automaton as a machine: its numbers, its sets, and a map that tells each step's cost; in new memory; nothing that was there changes. No condition but that the automaton is valid, or that it isn't. An automaton as the program's machine: its numbers, its sets, and a map that tells each step's cost; in new memory; nothing that was there changes. No condition but that the automaton is valid, or that it isn't. -/
import Derived.Test.YtfdbbopanankgaaDoorAutS
import Derived.Test.YtfdbbopanankgaaDoorMapK
import Derived.Deep.RegionHeld3
import Derived.Deep.DeepCutAuto
import Derived.Test.YtfdbbopanankgaaDoorLastOp
namespace Go.Proofs.YtfdbbopanankgaaDoor
open Go.RowKit
set_option maxHeartbeats 2000000
set_option maxRecDepth 100000
set_option linter.unusedVariables false

def hasB (xs : List Int) (p : Int) : Bool := xs.contains p
def setC (xs : List Int) : Array Value := #[.bool (hasB xs 0), .bool (hasB xs 1), .bool (hasB xs 2), .bool (hasB xs 3)]
theorem setC_snoc (xs : List Int) {q : Nat} (hq : q < 4) : (setC xs).setIfInBounds q (.bool true) = setC (xs ++ [(q : Int)]) := by
  have h : q = 0 ∨ q = 1 ∨ q = 2 ∨ q = 3 := by omega
  rcases h with rfl | rfl | rfl | rfl <;> simp [setC, hasB]
theorem setC_cell {w : World} {g : Nat} {t : TypeId} {xs : List Int} (h : Blk w g t (setC xs)) {q : Nat} (hq : q < 4) : w.cell? ⟨g, q, none⟩ = some (.bool (hasB xs q)) := by
  rw [h.cell q]
  have h : q = 0 ∨ q = 1 ∨ q = 2 ∨ q = 3 := by omega
  rcases h with rfl | rfl | rfl | rfl <;> rfl
theorem take_snoc_i {xs : List Int} {k : Nat} {z : Int} (hk : k < xs.length) (hz : xs.getD k 0 = z) : xs.take (k + 1) = xs.take k ++ [z] := by
  rw [List.take_succ_eq_append_getElem hk]
  rw [List.getD_eq_getElem?_getD, List.getElem?_eq_getElem hk] at hz
  simp at hz
  rw [hz]
theorem getD_mem {xs : List Int} {k : Nat} {z : Int} (hk : k < xs.length) (hz : xs.getD k 0 = z) : z ∈ xs := by
  rw [List.getD_eq_getElem?_getD, List.getElem?_eq_getElem hk] at hz
  simp at hz
  rw [← hz]
  exact List.getElem_mem _
theorem gives_set {tmps : Array Value} {w : World} {p : Tmp} {g : Nat} {t : TypeId} {a b c d : Value} (hp : tmps.getD p undef = .pointer (some ⟨g, 0, none⟩)) (hg : Blk w g t #[a, b, c, d]) : Gives Tryd.prog tmps w (.cell p 42) (.agg #[a, b, c, d]) :=
  Gives.row hp hg Tryd.underlying42 rfl (by kernel_rfl)

theorem setOf_any (A : Option Addr) (cap : Nat) (xs : List Int) (w : World) (hx : Ints w w.heap.size A xs) (hin : ∀ x ∈ xs, 0 ≤ x ∧ x < 4) :
    Calls Tryd.prog 46 #[.slice A xs.length cap] w fun e w' => e = .returned (.agg (setC xs)) ∧ Hid (Below w.heap.size w w') := by
  have hl := hx.len
  have HX := Lib.hid hx
  have HI := Lib.hid hin
  clear hx hin
  go_enter Tryd.func46, Tryd.ntmps46
  go_wp2_with fail
  go_loopw [8] (fun i wr => ∃ k : Nat, k ≤ xs.length ∧ i = .int .i64 k ∧ Hid (Blk wr (w.heap.size + 1) 42 (setC (xs.take k))) ∧ Hid (Blk wr w.heap.size 42 (setC [])) ∧ Hid (Below w.heap.size w wr)) (fun i _ => xs.length - (intOf i).toNat)
  case atStart => exact ⟨0, Nat.zero_le _, rfl, blk_new (by simp), (Blk.new _ _ _).alloc _, below_a2 _ _ _⟩
  case round =>
    obtain ⟨k, hk, rfl, hs, hr, hbw⟩ := hrel
    by_cases hlt : k < xs.length
    · obtain ⟨b, off, z, rfl, hbB, hc, _, hg⟩ := HX.out.at_ hlt
      obtain ⟨z0, z4⟩ := HI.out z (getD_mem hlt hg)
      obtain ⟨q, rfl⟩ : ∃ q : Nat, z = (q : Int) := ⟨z.toNat, by omega⟩
      have hq : q < 4 := by omega
      have hc' : wr.cell? ⟨b, off + k, none⟩ = some (.int .i64 q) := (hbw.out.cell (p := ⟨b, off + k, none⟩) hbB).trans hc
      have hcell := setC_cell hs.out hq
      have hfr := hs.out.frozen q
      have S3 : Hid (Blk (wr.setCell ⟨w.heap.size + 1, q, none⟩ (.bool true)) (w.heap.size + 1) 42 (setC (xs.take (k + 1)))) := by
        have h := hs.out.set_ q (.bool true)
        rw [setC_snoc _ hq, ← take_snoc_i hlt hg] at h
        exact h
      have R3 := Lib.hid (hr.out.other (w.heap.size + 1) q (.bool true) (by omega))
      have B3 := Lib.hid (hbw.out.setCell (p := ⟨w.heap.size + 1, q, none⟩) (by simp) (.bool true))
      clear hc hg hs hr
      go_wp2_with fail
      go_roundw
      case rel => exact ⟨k + 1, by omega, by go_num, S3, R3, B3⟩
      case measure => simp [intOf]; omega
    · have e : xs.take k = xs := List.take_of_length_le (by omega)
      have S3 := hs.out
      rw [e] at S3
      have c0 := setC_cell S3 (q := 0) (by omega)
      have c1 := setC_cell S3 (q := 1) (by omega)
      have c2 := setC_cell S3 (q := 2) (by omega)
      have c3 := setC_cell S3 (q := 3) (by omega)
      have f0 := hr.out.frozen 0
      have f1 := hr.out.frozen 1
      have f2 := hr.out.frozen 2
      have f3 := hr.out.frozen 3
      clear S3 e hs
      have d0 := setC_cell hr.out (q := 0) (by omega)
      have d1 := setC_cell hr.out (q := 1) (by omega)
      have d2 := setC_cell hr.out (q := 2) (by omega)
      have d3 := setC_cell hr.out (q := 3) (by omega)
      go_wp2_with fail
      have HF := (((hr.out.set_ 0 (.bool (hasB xs 0))).set_ 1 (.bool (hasB xs 1))).set_ 2 (.bool (hasB xs 2))).set_ 3 (.bool (hasB xs 3))
      refine bodyPost_ret (results_1 rfl (gives_set (g := w.heap.size) rfl HF)) rfl ?_
      exact ⟨rfl, (((hbw.out.setCell (p := ⟨w.heap.size, 0, none⟩) (Nat.le_refl _) _).setCell (p := ⟨w.heap.size, 1, none⟩) (Nat.le_refl _) _).setCell (p := ⟨w.heap.size, 2, none⟩) (Nat.le_refl _) _).setCell (p := ⟨w.heap.size, 3, none⟩) (Nat.le_refl _) _⟩
/-- What it costs to go by a letter, where the last one of several steps counts. -/
def costAt (ss : List StepD) : Int → ByteArray → Int → Option Int := ss.foldl (fun F s => updC F s.fr s.le s.to_ s.co) (fun _ _ _ => none)
theorem costAt_take {ss : List StepD} {k : Nat} {s : StepD} (hk : k < ss.length) (hs : ss.getD k default = s) : costAt (ss.take (k + 1)) = updC (costAt (ss.take k)) s.fr s.le s.to_ s.co := by
  have e : ss[k] = s := by rw [List.getD_eq_getElem?_getD, List.getElem?_eq_getElem hk] at hs; exact hs
  unfold costAt
  rw [List.take_succ_eq_append_getElem hk, List.foldl_append, e]
  rfl
theorem wf_small {k : Nat} (h : k ≤ 1000000) : (Lit.int .i64 (k : Int)).wf = true := by
  simp only [Lit.wf, IntKind.min, IntKind.max, IntKind.signed, IntKind.bits, Bool.and_eq_true, decide_eq_true_eq, if_true]
  omega
theorem wf_between {k : Int} (h0 : 0 ≤ k) (h : k ≤ 1000000) : (Lit.int .i64 k).wf = true := by
  obtain ⟨n, rfl⟩ := Int.eq_ofNat_of_zero_le h0
  exact wf_small (by omega)
theorem stepOk_in {n : Nat} {s : StepD} (h : stepOk n s = true) : ∃ i k c : Nat, s.fr = (i : Int) ∧ i < n ∧ s.to_ = (k : Int) ∧ k < n ∧ s.co = (c : Int) ∧ c ≤ 3 ∧ IsL s.le := by
  have hl := stepOk_l h
  unfold stepOk at h
  simp only [Bool.and_eq_true, decide_eq_true_eq] at h
  obtain ⟨⟨h1, h2⟩, ⟨h3, h4⟩, _, h5, h6⟩ := h
  exact ⟨s.fr.toNat, s.to_.toNat, s.co.toNat, by omega, by omega, by omega, by omega, by omega, by omega, hl⟩

theorem marks_in : ∀ {n last : Int} {xs : List Int}, marksF n last xs = true → ∀ x ∈ xs, last < x ∧ x < n
  | n, last, [], _, x, hx => by cases hx
  | n, last, p :: ps, h, x, hx => by
    by_cases h1 : last < p
    · by_cases h2 : p < n
      · rw [marks_go ps h1 h2] at h
        rcases List.mem_cons.1 hx with rfl | hx
        · exact ⟨h1, h2⟩
        · have := marks_in h x hx
          exact ⟨by omega, this.2⟩
      · rw [marks_hi ps h2] at h; cases h
    · rw [marks_lo ps h1] at h; cases h
theorem steps_in : ∀ {n : Int} {o : Option StepD} {ss : List StepD}, stepsF n o ss = true → ∀ s ∈ ss, stepOk n s = true
  | n, o, [], _, s, hs => by cases hs
  | n, none, t :: r, h, s, hs => by
    simp only [stepsF, Bool.and_eq_true] at h
    rcases List.mem_cons.1 hs with rfl | hs
    · exact h.1
    · exact steps_in h.2 s hs
  | n, some q, t :: r, h, s, hs => by
    simp only [stepsF, Bool.and_eq_true] at h
    rcases List.mem_cons.1 hs with rfl | hs
    · exact h.1
    · exact steps_in h.2.2 s hs
theorem auto_in {m : Int} {xs ys : List Int} {ss : List StepD} (h : autoOk m xs ys ss = true) : ∃ n : Nat, m = (n : Int) ∧ 1 ≤ n ∧ n ≤ 4 ∧ (∀ x ∈ xs, 0 ≤ x ∧ x < m) ∧ (∀ y ∈ ys, 0 ≤ y ∧ y < m) ∧ ss.length ≤ 24 ∧ ∀ s ∈ ss, stepOk m s = true := by
  unfold autoOk at h
  simp only [Bool.and_eq_true, decide_eq_true_eq] at h
  obtain ⟨⟨h1, h2⟩, h3, h4, h5, h6⟩ := h
  exact ⟨m.toNat, by omega, by omega, by omega, fun x hx => by have := marks_in h3 x hx; omega, fun x hx => by have := marks_in h4 x hx; omega, h5, steps_in h6⟩

theorem ten_cells {w : World} {g : Nat} {t : TypeId} {u0 u1 u2 u3 u4 u5 u6 u7 u8 u9 : Value} (h : Blk w g t #[u0, u1, u2, u3, u4, u5, u6, u7, u8, u9]) :
    w.cell? ⟨g, 0, none⟩ = some u0 ∧ w.cell? ⟨g, 1, none⟩ = some u1 ∧ w.cell? ⟨g, 2, none⟩ = some u2 ∧ w.cell? ⟨g, 3, none⟩ = some u3 ∧ w.cell? ⟨g, 4, none⟩ = some u4 ∧ w.cell? ⟨g, 5, none⟩ = some u5 ∧ w.cell? ⟨g, 6, none⟩ = some u6 ∧ w.cell? ⟨g, 7, none⟩ = some u7 ∧ w.cell? ⟨g, 8, none⟩ = some u8 ∧ w.cell? ⟨g, 9, none⟩ = some u9 :=
  ⟨h.cell 0, h.cell 1, h.cell 2, h.cell 3, h.cell 4, h.cell 5, h.cell 6, h.cell 7, h.cell 8, h.cell 9⟩
theorem ten_frozen {w : World} {g : Nat} {t : TypeId} {cs : Array Value} (h : Blk w g t cs) :
    w.frozen? ⟨g, 0, none⟩ = false ∧ w.frozen? ⟨g, 1, none⟩ = false ∧ w.frozen? ⟨g, 2, none⟩ = false ∧ w.frozen? ⟨g, 3, none⟩ = false ∧ w.frozen? ⟨g, 4, none⟩ = false ∧ w.frozen? ⟨g, 5, none⟩ = false ∧ w.frozen? ⟨g, 6, none⟩ = false ∧ w.frozen? ⟨g, 7, none⟩ = false ∧ w.frozen? ⟨g, 8, none⟩ = false ∧ w.frozen? ⟨g, 9, none⟩ = false :=
  ⟨h.frozen 0, h.frozen 1, h.frozen 2, h.frozen 3, h.frozen 4, h.frozen 5, h.frozen 6, h.frozen 7, h.frozen 8, h.frozen 9⟩
def ten (w : World) (g : Nat) (v0 v1 v2 v3 v4 v5 v6 v7 v8 v9 : Value) : World := (((((((((w.setCell ⟨g, 0, none⟩ v0).setCell ⟨g, 1, none⟩ v1).setCell ⟨g, 2, none⟩ v2).setCell ⟨g, 3, none⟩ v3).setCell ⟨g, 4, none⟩ v4).setCell ⟨g, 5, none⟩ v5).setCell ⟨g, 6, none⟩ v6).setCell ⟨g, 7, none⟩ v7).setCell ⟨g, 8, none⟩ v8).setCell ⟨g, 9, none⟩ v9
theorem ten_grow (w : World) (g : Nat) (v0 v1 v2 v3 v4 v5 v6 v7 v8 v9 : Value) : w.grownBy (ten w g v0 v1 v2 v3 v4 v5 v6 v7 v8 v9) (some g) := by
  unfold ten
  exact grow_trans (grow_trans (grow_trans (grow_trans (grow_trans (grow_trans (grow_trans (grow_trans (grow_trans (grow_set _ g 0 v0) (grow_set _ g 1 v1)) (grow_set _ g 2 v2)) (grow_set _ g 3 v3)) (grow_set _ g 4 v4)) (grow_set _ g 5 v5)) (grow_set _ g 6 v6)) (grow_set _ g 7 v7)) (grow_set _ g 8 v8)) (grow_set _ g 9 v9)
theorem ten_blk {w : World} {g : Nat} {t : TypeId} {u0 u1 u2 u3 u4 u5 u6 u7 u8 u9 : Value} (h : Blk w g t #[u0, u1, u2, u3, u4, u5, u6, u7, u8, u9]) (v0 v1 v2 v3 v4 v5 v6 v7 v8 v9 : Value) : Blk (ten w g v0 v1 v2 v3 v4 v5 v6 v7 v8 v9) g t #[v0, v1, v2, v3, v4, v5, v6, v7, v8, v9] := by
  unfold ten
  have h0 : Blk _ g t #[v0, u1, u2, u3, u4, u5, u6, u7, u8, u9] := h.set_ 0 v0
  have h1 : Blk _ g t #[v0, v1, u2, u3, u4, u5, u6, u7, u8, u9] := h0.set_ 1 v1
  have h2 : Blk _ g t #[v0, v1, v2, u3, u4, u5, u6, u7, u8, u9] := h1.set_ 2 v2
  have h3 : Blk _ g t #[v0, v1, v2, v3, u4, u5, u6, u7, u8, u9] := h2.set_ 3 v3
  have h4 : Blk _ g t #[v0, v1, v2, v3, v4, u5, u6, u7, u8, u9] := h3.set_ 4 v4
  have h5 : Blk _ g t #[v0, v1, v2, v3, v4, v5, u6, u7, u8, u9] := h4.set_ 5 v5
  have h6 : Blk _ g t #[v0, v1, v2, v3, v4, v5, v6, u7, u8, u9] := h5.set_ 6 v6
  have h7 : Blk _ g t #[v0, v1, v2, v3, v4, v5, v6, v7, u8, u9] := h6.set_ 7 v7
  have h8 : Blk _ g t #[v0, v1, v2, v3, v4, v5, v6, v7, v8, u9] := h7.set_ 8 v8
  have h9 : Blk _ g t #[v0, v1, v2, v3, v4, v5, v6, v7, v8, v9] := h8.set_ 9 v9
  exact h9
theorem gives_mach {tmps : Array Value} {w : World} {p : Tmp} {g : Nat} {t : TypeId} {v0 v1 v2 v3 v4 v5 v6 v7 v8 v9 : Value} (hp : tmps.getD p undef = .pointer (some ⟨g, 0, none⟩)) (hg : Blk w g t #[v0, v1, v2, v3, v4, v5, v6, v7, v8, v9]) : Gives Tryd.prog tmps w (.cell p 45) (.agg #[v0, v1, v2, v3, v4, v5, v6, v7, v8, v9]) :=
  Gives.row hp hg Tryd.underlying45 rfl (by kernel_rfl)

theorem setOf_x (A : Option Addr) (cap : Nat) (xs : List Int) (w : World) (hx : Ints w w.heap.size A xs) (hin : ∀ x ∈ xs, 0 ≤ x ∧ x < 4) :
    Calls Tryd.prog 46 #[.slice A xs.length cap] w fun e w' => e = .returned (.agg #[.bool (hasB xs 0), .bool (hasB xs 1), .bool (hasB xs 2), .bool (hasB xs 3)]) ∧ Hid (Below w.heap.size w w') := setOf_any A cap xs w hx hin
theorem blk_gr {w w' : World} {g j : Nat} {t : TypeId} {cs : Array Value} (h : Blk w j t cs) (hg : w.grownBy w' (some g)) (hne : ¬ j = g) : Blk w' j t cs :=
  (hg.block j h.lt (fun e => hne (by cases e; rfl))).trans h
end Go.Proofs.YtfdbbopanankgaaDoor
namespace Go.Proofs.YtfdbbopanankgaaDoor
open Go.RowKit
set_option maxHeartbeats 2000000
set_option maxRecDepth 100000
set_option linter.unusedVariables false

/-- What machineOf leaves of a valid automaton. -/
def MachEnd (m : Int) (xs ys : List Int) (ss : List StepD) (w : World) (e : Ending) (w' : World) : Prop :=
  ∃ M, e = .returned (.tuple #[.agg #[.int .i64 m, .bool (hasB xs 0), .bool (hasB xs 1), .bool (hasB xs 2), .bool (hasB xs 3), .bool (hasB ys 0), .bool (hasB ys 1), .bool (hasB ys 2), .bool (hasB ys 3), .map (some M)], .bool true]) ∧ w.heap.size ≤ M ∧ Hid (CMap w' M ss.length (costAt ss)) ∧ Hid (Below w.heap.size w w')
theorem map_at {w : World} {g : Nat} (h : g = w.heap.size) : (w.alloc (.map #[] 0)).heap[g]? = some (.map #[] 0) := by subst h; exact heap_alloc_new w _
/-- What is known behind the statement that makes the machine. -/
def MachAt (w1 wx : World) (P M : Nat) (m : Int) (xs ys : List Int) : Prop :=
  Below w1.heap.size w1 wx ∧ w1.heap.size ≤ P ∧ w1.heap.size ≤ M ∧ Blk wx P 45 #[.int .i64 m, .bool (hasB xs 0), .bool (hasB xs 1), .bool (hasB xs 2), .bool (hasB xs 3), .bool (hasB ys 0), .bool (hasB ys 1), .bool (hasB ys 2), .bool (hasB ys 3), .map (some M)] ∧ wx.heap[M]? = some (.map #[] 0)
theorem mach_at {w1 W : World} {P M : Nat} {m : Int} {xs ys : List Int} {u0 u1 u2 u3 u4 u5 u6 u7 u8 u9 : Value} (hb : Below w1.heap.size w1 W) (hP : w1.heap.size ≤ P) (hM : w1.heap.size ≤ M) (hk : Blk W P 45 #[u0, u1, u2, u3, u4, u5, u6, u7, u8, u9]) (hm : W.heap[M]? = some (.map #[] 0)) :
    MachAt w1 (ten W P (.int .i64 m) (.bool (hasB xs 0)) (.bool (hasB xs 1)) (.bool (hasB xs 2)) (.bool (hasB xs 3)) (.bool (hasB ys 0)) (.bool (hasB ys 1)) (.bool (hasB ys 2)) (.bool (hasB ys 3)) (.map (some M))) P M m xs ys := by
  have hg := ten_grow W P (.int .i64 m) (.bool (hasB xs 0)) (.bool (hasB xs 1)) (.bool (hasB xs 2)) (.bool (hasB xs 3)) (.bool (hasB ys 0)) (.bool (hasB ys 1)) (.bool (hasB ys 2)) (.bool (hasB ys 3)) (.map (some M))
  refine ⟨hb.grown hg hb.size (fun j hj => by cases hj; exact hP), hP, hM, ten_blk hk _ _ _ _ _ _ _ _ _ _, ?_⟩
  rw [hg.block M (Array.getElem?_eq_some_iff.1 hm).1 (fun e => by cases e; rw [hk] at hm; cases hm)]
  exact hm
theorem mach_new {w1 W : World} {P M : Nat} {m : Int} {xs ys : List Int} (hb : Below w1.heap.size w1 W) (hP : P = W.heap.size) (hM : w1.heap.size ≤ M) (hm : W.heap[M]? = some (.map #[] 0)) :
    MachAt w1 (W.alloc (.cells #[.int .i64 m, .bool (hasB xs 0), .bool (hasB xs 1), .bool (hasB xs 2), .bool (hasB xs 3), .bool (hasB ys 0), .bool (hasB ys 1), .bool (hasB ys 2), .bool (hasB ys 3), .map (some M)] 45)) P M m xs ys := by
  subst hP
  exact ⟨below_al hb (Nat.le_refl _) _, hb.size, hM, Blk.new _ _ _, (Below.heap_alloc W _ M (Array.getElem?_eq_some_iff.1 hm).1).trans hm⟩
theorem mach_new2 {w1 W : World} {P M : Nat} {m : Int} {xs ys : List Int} (hb : Below w1.heap.size w1 W) (hP : P = W.heap.size) (hM : M = W.heap.size + 1) :
    MachAt w1 ((W.alloc (.cells #[.int .i64 m, .bool (hasB xs 0), .bool (hasB xs 1), .bool (hasB xs 2), .bool (hasB xs 3), .bool (hasB ys 0), .bool (hasB ys 1), .bool (hasB ys 2), .bool (hasB ys 3), .map (some M)] 45)).alloc (.map #[] 0)) P M m xs ys := by
  subst hP
  subst hM
  exact ⟨below_al (below_al hb (Nat.le_refl _) _) (Nat.le_refl _) _, hb.size, Nat.le_succ_of_le hb.size, (Blk.new _ _ _).alloc _, map_at (by simp)⟩
theorem map_new (w : World) : (w.alloc (.map #[] 0)).heap[w.heap.size]? = some (.map #[] 0) := heap_alloc_new w _
theorem map_al {w : World} {M : Nat} (h : w.heap[M]? = some (.map #[] 0)) (o : Obj) : (w.alloc o).heap[M]? = some (.map #[] 0) := (Below.heap_alloc w o M (Array.getElem?_eq_some_iff.1 h).1).trans h
theorem map_b {w w' : World} {M : Nat} (h : w.heap[M]? = some (.map #[] 0)) (hb : Below w.heap.size w w') : w'.heap[M]? = some (.map #[] 0) := (hb.block M (Array.getElem?_eq_some_iff.1 h).1).trans h

theorem machineOf_ok (m : Int) (A1 A2 A3 : Option Addr) (c1 c2 c3 : Nat) (xs ys : List Int) (ss : List StepD) (w : World) (hx : Ints w w.heap.size A1 xs) (hy : Ints w w.heap.size A2 ys) (hs : SRow w w.heap.size A3 ss) (hok : autoOk m xs ys ss = true) :
    Calls Tryd.prog 28 #[.agg #[.int .i64 m, .slice A1 xs.length c1, .slice A2 ys.length c2, .slice A3 ss.length c3]] w fun e w' => MachEnd m xs ys ss w e w' := by
  obtain ⟨n, hmn, n1, n2, hxi, hyi, hsl, hsi⟩ := auto_in hok
  have hl := hs.1
  have HX0 := Lib.hid (ints_al (ints_al hx (.cells #[.int .i64 m, .slice A1 xs.length c1, .slice A2 ys.length c2, .slice A3 ss.length c3] 26)) (.cells #[.int .i64 0, .bool false, .bool false, .bool false, .bool false, .bool false, .bool false, .bool false, .bool false, .map none] 45))
  have HY0 := Lib.hid (ints_al (ints_al hy (.cells #[.int .i64 m, .slice A1 xs.length c1, .slice A2 ys.length c2, .slice A3 ss.length c3] 26)) (.cells #[.int .i64 0, .bool false, .bool false, .bool false, .bool false, .bool false, .bool false, .bool false, .bool false, .map none] 45))
  have HX := Lib.hid hx
  have HY := Lib.hid hy
  have HS := Lib.hid hs
  have HOK := Lib.hid hok
  have HXI : Hid (∀ x ∈ xs, 0 ≤ x ∧ x < 4) := fun x hx => by have := hxi x hx; omega
  have HYI : Hid (∀ x ∈ ys, 0 ≤ x ∧ x < 4) := fun x hx => by have := hyi x hx; omega
  have HSI : Hid (∀ s ∈ ss, stepOk (n : Int) s = true) := fun s hs => by rw [← hmn]; exact hsi s hs
  clear hx hy hs hok hxi hyi hsi hmn
  go_enter Tryd.func28, Tryd.ntmps28
  go_wp2_with fail
  refine (iAutomatonValid_is _ _ _ _ _ _ _ _ _ _ true _ HX0.out HY0.out ((HS.out.al _).al _) HOK.out).mono ?_
  rintro e w1 ⟨rfl, hb1⟩
  have B1 := Lib.hid (below_on (below_a2 w _ _) hb1.out)
  have A1b : Hid (Blk w1 w.heap.size 26 #[.int .i64 m, .slice A1 xs.length c1, .slice A2 ys.length c2, .slice A3 ss.length c3]) := ((Blk.new w _ _).alloc _).below hb1.out (by simp; omega)
  have R1b : Hid (Blk w1 (w.heap.size + 1) 45 #[.int .i64 0, .bool false, .bool false, .bool false, .bool false, .bool false, .bool false, .bool false, .bool false, .map none]) := (blk_new (by simp)).below hb1.out (by simp)
  have hw1 := Blk.lt R1b.out
  clear HX0 HY0 hb1
  have keep : ∀ w', Below w1.heap.size w1 w' → (Hid (Below w1.heap.size w1 (w')) ∧ (w').cell? ⟨w.heap.size, 0, none⟩ = some (.int .i64 m) ∧ (w').cell? ⟨w.heap.size, 1, none⟩ = some (.slice A1 xs.length c1) ∧ (w').cell? ⟨w.heap.size, 2, none⟩ = some (.slice A2 ys.length c2) ∧ (w').cell? ⟨w.heap.size, 3, none⟩ = some (.slice A3 ss.length c3)) := fun w' h => by
    have a := blk_b A1b.out h
    exact ⟨h, a.cell 0, a.cell 1, a.cell 2, a.cell 3⟩
  have KXS : Hid (∀ w', (Hid (Below w1.heap.size w1 (w')) ∧ (w').cell? ⟨w.heap.size, 0, none⟩ = some (.int .i64 m) ∧ (w').cell? ⟨w.heap.size, 1, none⟩ = some (.slice A1 xs.length c1) ∧ (w').cell? ⟨w.heap.size, 2, none⟩ = some (.slice A2 ys.length c2) ∧ (w').cell? ⟨w.heap.size, 3, none⟩ = some (.slice A3 ss.length c3)) → Ints w' w'.heap.size A1 xs) := fun w' h => by have hb := below_on B1.out h.1.out; exact (HX.out.below hb).more hb.size
  have KYS : Hid (∀ w', (Hid (Below w1.heap.size w1 (w')) ∧ (w').cell? ⟨w.heap.size, 0, none⟩ = some (.int .i64 m) ∧ (w').cell? ⟨w.heap.size, 1, none⟩ = some (.slice A1 xs.length c1) ∧ (w').cell? ⟨w.heap.size, 2, none⟩ = some (.slice A2 ys.length c2) ∧ (w').cell? ⟨w.heap.size, 3, none⟩ = some (.slice A3 ss.length c3)) → Ints w' w'.heap.size A2 ys) := fun w' h => by have hb := below_on B1.out h.1.out; exact (HY.out.below hb).more hb.size
  have KB : Hid (∀ w' w'', (Hid (Below w1.heap.size w1 (w')) ∧ (w').cell? ⟨w.heap.size, 0, none⟩ = some (.int .i64 m) ∧ (w').cell? ⟨w.heap.size, 1, none⟩ = some (.slice A1 xs.length c1) ∧ (w').cell? ⟨w.heap.size, 2, none⟩ = some (.slice A2 ys.length c2) ∧ (w').cell? ⟨w.heap.size, 3, none⟩ = some (.slice A3 ss.length c3)) → Below w'.heap.size w' w'' → (Hid (Below w1.heap.size w1 (w'')) ∧ (w'').cell? ⟨w.heap.size, 0, none⟩ = some (.int .i64 m) ∧ (w'').cell? ⟨w.heap.size, 1, none⟩ = some (.slice A1 xs.length c1) ∧ (w'').cell? ⟨w.heap.size, 2, none⟩ = some (.slice A2 ys.length c2) ∧ (w'').cell? ⟨w.heap.size, 3, none⟩ = some (.slice A3 ss.length c3))) := fun w' w'' h hb => keep _ (below_on h.1.out hb)
  have KA : Hid (∀ w' o, (Hid (Below w1.heap.size w1 (w')) ∧ (w').cell? ⟨w.heap.size, 0, none⟩ = some (.int .i64 m) ∧ (w').cell? ⟨w.heap.size, 1, none⟩ = some (.slice A1 xs.length c1) ∧ (w').cell? ⟨w.heap.size, 2, none⟩ = some (.slice A2 ys.length c2) ∧ (w').cell? ⟨w.heap.size, 3, none⟩ = some (.slice A3 ss.length c3)) → (Hid (Below w1.heap.size w1 (w'.alloc o)) ∧ (w'.alloc o).cell? ⟨w.heap.size, 0, none⟩ = some (.int .i64 m) ∧ (w'.alloc o).cell? ⟨w.heap.size, 1, none⟩ = some (.slice A1 xs.length c1) ∧ (w'.alloc o).cell? ⟨w.heap.size, 2, none⟩ = some (.slice A2 ys.length c2) ∧ (w'.alloc o).cell? ⟨w.heap.size, 3, none⟩ = some (.slice A3 ss.length c3))) := fun w' o h => keep _ (below_al h.1.out (Nat.le_refl _) o)
  have KC : Hid (∀ w' b i v, w1.heap.size ≤ b → (Hid (Below w1.heap.size w1 (w')) ∧ (w').cell? ⟨w.heap.size, 0, none⟩ = some (.int .i64 m) ∧ (w').cell? ⟨w.heap.size, 1, none⟩ = some (.slice A1 xs.length c1) ∧ (w').cell? ⟨w.heap.size, 2, none⟩ = some (.slice A2 ys.length c2) ∧ (w').cell? ⟨w.heap.size, 3, none⟩ = some (.slice A3 ss.length c3)) → (Hid (Below w1.heap.size w1 (w'.setCell ⟨b, i, none⟩ v)) ∧ (w'.setCell ⟨b, i, none⟩ v).cell? ⟨w.heap.size, 0, none⟩ = some (.int .i64 m) ∧ (w'.setCell ⟨b, i, none⟩ v).cell? ⟨w.heap.size, 1, none⟩ = some (.slice A1 xs.length c1) ∧ (w'.setCell ⟨b, i, none⟩ v).cell? ⟨w.heap.size, 2, none⟩ = some (.slice A2 ys.length c2) ∧ (w'.setCell ⟨b, i, none⟩ v).cell? ⟨w.heap.size, 3, none⟩ = some (.slice A3 ss.length c3))) := fun w' b i v hb h => keep _ (h.1.out.setCell (p := ⟨b, i, none⟩) hb v)
  have KD : Hid (∀ o, (Hid (Below w1.heap.size w1 ((w1.alloc o).drew)) ∧ ((w1.alloc o).drew).cell? ⟨w.heap.size, 0, none⟩ = some (.int .i64 m) ∧ ((w1.alloc o).drew).cell? ⟨w.heap.size, 1, none⟩ = some (.slice A1 xs.length c1) ∧ ((w1.alloc o).drew).cell? ⟨w.heap.size, 2, none⟩ = some (.slice A2 ys.length c2) ∧ ((w1.alloc o).drew).cell? ⟨w.heap.size, 3, none⟩ = some (.slice A3 ss.length c3))) := fun o => keep _ (below_al (Below.refl _ _) (Nat.le_refl _) o).drew
  have KK := Lib.hid keep
  have hS0 := keep w1.drew ((Below.refl _ _).drew)
  have hmm := @run_makeMap Tryd.prog
  clear keep
  obtain ⟨k0, k1, k2, k3⟩ := four_cells A1b.out
  go_wp2_with fail
  go_upto_region 3 with fail
  go_cut [4] (fun s1 wx => ∃ (P M : Nat), s1 = .pointer (some ⟨P, 0, none⟩) ∧ Hid (MachAt w1 wx P M m xs ys))
  case first =>
    clear k0 k1 k2 k3
    refine wp_region_Z (S := fun w' => Hid (Below w1.heap.size w1 (w')) ∧ (w').cell? ⟨w.heap.size, 0, none⟩ = some (.int .i64 m) ∧ (w').cell? ⟨w.heap.size, 1, none⟩ = some (.slice A1 xs.length c1) ∧ (w').cell? ⟨w.heap.size, 2, none⟩ = some (.slice A2 ys.length c2) ∧ (w').cell? ⟨w.heap.size, 3, none⟩ = some (.slice A3 ss.length c3)) (by kernel_rfl) hS0 (fun hS => ?_)
    clear hS0
    refine wpAnyZ_take (i := 0) (v := ?vm0) rfl (by kernel_rfl) (by kernel_rfl) (by kernel_rfl) (by kernel_rfl) (fun _ _ _ h => h) (Or.inl ⟨by rfl, ?ym0⟩) (by with_reducible assumption) ?rm0
    case ym0 => (intro w hSw; (try dsimp only at hSw); go_simp; (try with_reducible rfl))
    simp only [Act.put, List.setIfInBounds_toArray]
    refine wpAnyZ_take (i := 1) (v := ?vm1) rfl (by kernel_rfl) (by kernel_rfl) (by kernel_rfl) (by kernel_rfl) (fun _ _ _ h => h) (Or.inl ⟨by rfl, ?ym1⟩) (by with_reducible assumption) ?rm1
    case ym1 => (intro w hSw; (try dsimp only at hSw); go_simp; (try with_reducible rfl))
    simp only [Act.put]
    refine wpAnyZ_take (i := 2) (v := ?vm2) rfl (by kernel_rfl) (by kernel_rfl) (by kernel_rfl) (by kernel_rfl) (fun _ _ _ h => h) (Or.inl ⟨by rfl, ?ym2⟩) (by with_reducible assumption) ?rm2
    case ym2 => (intro w hSw; (try dsimp only at hSw); go_simp; (try with_reducible rfl))
    simp only [Act.put]
    refine wpAnyZ_take (i := 3) (v := ?vm3) rfl (by kernel_rfl) (by kernel_rfl) (by kernel_rfl) (by kernel_rfl) (fun _ _ _ h => h) (Or.inl ⟨by rfl, ?ym3⟩) (by with_reducible assumption) ?rm3
    case ym3 => (intro w hSw; (try dsimp only at hSw); go_simp; (try with_reducible rfl))
    simp only [Act.put]
    refine wpAnyZ_take (i := 5) (v := ?vm5) rfl (by kernel_rfl) (by kernel_rfl) (by kernel_rfl) (by kernel_rfl) (fun _ _ _ h => h) (Or.inl ⟨by rfl, ?ym5⟩) (by with_reducible assumption) ?rm5
    case ym5 => (intro w hSw; (try dsimp only at hSw); go_simp; (try with_reducible rfl))
    simp only [Act.put]
    refine wpAnyZ_take (i := 6) (v := ?vm6) rfl (by kernel_rfl) (by kernel_rfl) (by kernel_rfl) (by kernel_rfl) (fun _ _ _ h => h) (Or.inl ⟨by rfl, ?ym6⟩) (by with_reducible assumption) ?rm6
    case ym6 => (intro w hSw; (try dsimp only at hSw); go_simp; (try with_reducible rfl))
    simp only [Act.put]
    refine wpAnyZ_fork (rs := [4, 8, 10]) (by kernel_rfl) (by decide) ?_
    intro i hi
    simp only [List.mem_cons, List.not_mem_nil, or_false] at hi
    rcases hi with rfl | rfl | rfl
    · refine ⟨_, rfl, fun K1 hK1 => ?_⟩
      go_simp
      refine (setOf_x _ _ _ _ (KXS.out _ hS) HXI.out).mono ?_
      rintro e x1 ⟨rfl, hb1⟩
      have Bx1 := Lib.hid (below_on (Below.refl _ _).drew hb1.out)
      refine hK1.out _ _ (KK.out _ Bx1.out) (fun hS1 => ?_)
      clear hK1
      refine wpAnyZ_fork (rs := [7, 8, 10]) (by kernel_rfl) (by decide) ?_
      intro i hi
      simp only [List.mem_cons, List.not_mem_nil, or_false] at hi
      rcases hi with rfl | rfl | rfl
      · refine ⟨_, rfl, fun K2 hK2 => ?_⟩
        go_simp
        refine (setOf_x _ _ _ _ (KYS.out _ hS1) HYI.out).mono ?_
        rintro e x2 ⟨rfl, hb2⟩
        have Bx2 := Lib.hid (below_on Bx1.out hb2.out)
        refine hK2.out _ _ (KK.out _ Bx2.out) (fun hS2 => ?_)
        clear hK2
        refine wpAnyZ_fork (rs := [8, 10]) (by kernel_rfl) (by decide) ?_
        intro i hi
        simp only [List.mem_cons, List.not_mem_nil, or_false] at hi
        rcases hi with rfl | rfl
        · refine ⟨_, rfl, fun K3 hK3 => ?_⟩
          go_simp
          refine hK3.out _ _ (KK.out _ (below_al Bx2.out (Nat.le_refl _) (.map #[] 0))) (fun hS3 => ?_)
          clear hK3
          refine wpAnyZ_take (i := 9) (v := ?vt49) rfl (by kernel_rfl) (by kernel_rfl) (by kernel_rfl) (by kernel_rfl) (fun _ _ _ h => h) (Or.inl ⟨by rfl, ?yt49⟩) (by with_reducible assumption) ?rt49
          case yt49 => (intro w hSw; (try dsimp only at hSw); go_simp; (try with_reducible rfl))
          simp only [Act.put]
          refine wpAnyZ_step (i := 10) (by kernel_rfl) rfl ?_
          intro K5 hK5
          go_simp
          refine hK5.out _ _ (KK.out _ (below_al (below_al Bx2.out (Nat.le_refl _) (.map #[] 0)) (Nat.le_refl _) (.cells #[.int .i64 0, .bool false, .bool false, .bool false, .bool false, .bool false, .bool false, .bool false, .bool false, .map none] 45))) (fun hS5 => ?_)
          clear hK5
          have QP6 : Hid (Blk ((x2.alloc (.map #[] 0)).alloc (.cells #[.int .i64 0, .bool false, .bool false, .bool false, .bool false, .bool false, .bool false, .bool false, .bool false, .map none] 45)) (x2.heap.size + 1) 45 #[.int .i64 0, .bool false, .bool false, .bool false, .bool false, .bool false, .bool false, .bool false, .bool false, .map none]) := (blk_new (by simp))
          have QM6 : Hid ((((x2.alloc (.map #[] 0)).alloc (.cells #[.int .i64 0, .bool false, .bool false, .bool false, .bool false, .bool false, .bool false, .bool false, .bool false, .map none] 45))).heap[x2.heap.size]? = some (.map #[] 0)) := (show (((x2.alloc (.map #[] 0)).alloc (.cells #[.int .i64 0, .bool false, .bool false, .bool false, .bool false, .bool false, .bool false, .bool false, .bool false, .map none] 45))).heap[x2.heap.size]? = some (.map #[] 0) from (map_al (map_at (by simp)) (.cells #[.int .i64 0, .bool false, .bool false, .bool false, .bool false, .bool false, .bool false, .bool false, .bool false, .map none] 45)))
          obtain ⟨q0, q1, q2, q3, q4, q5, q6, q7, q8, q9⟩ := ten_cells QP6.out
          obtain ⟨f0, f1, f2, f3, f4, f5, f6, f7, f8, f9⟩ := ten_frozen QP6.out
          refine wpAnyZ_last (i := 11) (by kernel_rfl) rfl (by kernel_rfl) ?_
          intro R6 hR6
          go_simp
          refine hR6.out _ _ ?_
          clear hR6 q0 q1 q2 q3 q4 q5 q6 q7 q8 q9 f0 f1 f2 f3 f4 f5 f6 f7 f8 f9
          go_wp2_with fail
          go_meet
          exact ⟨x2.heap.size + 1, x2.heap.size, rfl, Lib.hid (mach_new (P := x2.heap.size + 1) (M := x2.heap.size) (below_al Bx2.out (Nat.le_refl _) (.map #[] 0)) (by simp) (by have := B1.out.size; have := Bx1.out.size; have := hb1.out.size; (try simp at this); have := Bx2.out.size; have := hb2.out.size; (try simp at this); omega) (map_at (by simp)))⟩
        · refine ⟨_, rfl, fun K7 hK7 => ?_⟩
          go_simp
          refine hK7.out _ _ (KK.out _ (below_al Bx2.out (Nat.le_refl _) (.cells #[.int .i64 0, .bool false, .bool false, .bool false, .bool false, .bool false, .bool false, .bool false, .bool false, .map none] 45))) (fun hS7 => ?_)
          clear hK7
          refine wpAnyZ_step (i := 8) (by kernel_rfl) rfl ?_
          intro K8 hK8
          go_simp
          refine hK8.out _ _ (KK.out _ (below_al (below_al Bx2.out (Nat.le_refl _) (.cells #[.int .i64 0, .bool false, .bool false, .bool false, .bool false, .bool false, .bool false, .bool false, .bool false, .map none] 45)) (Nat.le_refl _) (.map #[] 0))) (fun hS8 => ?_)
          clear hK8
          refine wpAnyZ_step (i := 9) (by kernel_rfl) rfl ?_
          intro L9 hL9
          go_simp
          refine hL9.out _ _ hS8 (fun _ => ?_)
          clear hL9
          have QP9 : Hid (Blk ((x2.alloc (.cells #[.int .i64 0, .bool false, .bool false, .bool false, .bool false, .bool false, .bool false, .bool false, .bool false, .map none] 45)).alloc (.map #[] 0)) (x2.heap.size) 45 #[.int .i64 0, .bool false, .bool false, .bool false, .bool false, .bool false, .bool false, .bool false, .bool false, .map none]) := (Blk.alloc (blk_new (by simp)) (.map #[] 0))
          have QM9 : Hid ((((x2.alloc (.cells #[.int .i64 0, .bool false, .bool false, .bool false, .bool false, .bool false, .bool false, .bool false, .bool false, .map none] 45)).alloc (.map #[] 0))).heap[x2.heap.size + 1]? = some (.map #[] 0)) := (show (((x2.alloc (.cells #[.int .i64 0, .bool false, .bool false, .bool false, .bool false, .bool false, .bool false, .bool false, .bool false, .map none] 45)).alloc (.map #[] 0))).heap[x2.heap.size + 1]? = some (.map #[] 0) from (map_at (by simp)))
          obtain ⟨q0, q1, q2, q3, q4, q5, q6, q7, q8, q9⟩ := ten_cells QP9.out
          obtain ⟨f0, f1, f2, f3, f4, f5, f6, f7, f8, f9⟩ := ten_frozen QP9.out
          refine wpAnyZ_last (i := 11) (by kernel_rfl) rfl (by kernel_rfl) ?_
          intro R9 hR9
          go_simp
          refine hR9.out _ _ ?_
          clear hR9 q0 q1 q2 q3 q4 q5 q6 q7 q8 q9 f0 f1 f2 f3 f4 f5 f6 f7 f8 f9
          go_wp2_with fail
          go_meet
          exact ⟨x2.heap.size, x2.heap.size + 1, rfl, Lib.hid (mach_new2 Bx2.out (by simp) (by simp))⟩
      · refine ⟨_, rfl, fun K10 hK10 => ?_⟩
        go_simp
        refine hK10.out _ _ (KK.out _ (below_al Bx1.out (Nat.le_refl _) (.map #[] 0))) (fun hS10 => ?_)
        clear hK10
        refine wpAnyZ_fork (rs := [7, 10]) (by kernel_rfl) (by decide) ?_
        intro i hi
        simp only [List.mem_cons, List.not_mem_nil, or_false] at hi
        rcases hi with rfl | rfl
        · refine ⟨_, rfl, fun K11 hK11 => ?_⟩
          go_simp
          refine (setOf_x _ _ _ _ (KYS.out _ hS10) HYI.out).mono ?_
          rintro e x11 ⟨rfl, hb11⟩
          have Bx11 := Lib.hid (below_on (below_al Bx1.out (Nat.le_refl _) (.map #[] 0)) hb11.out)
          have Mx11 : Hid (x11.heap[x1.heap.size]? = some (.map #[] 0)) := map_b (show ((x1.alloc (.map #[] 0))).heap[x1.heap.size]? = some (.map #[] 0) from (map_at (by simp))) hb11.out
          refine hK11.out _ _ (KK.out _ Bx11.out) (fun hS11 => ?_)
          clear hK11
          refine wpAnyZ_take (i := 9) (v := ?vt129) rfl (by kernel_rfl) (by kernel_rfl) (by kernel_rfl) (by kernel_rfl) (fun _ _ _ h => h) (Or.inl ⟨by rfl, ?yt129⟩) (by with_reducible assumption) ?rt129
          case yt129 => (intro w hSw; (try dsimp only at hSw); go_simp; (try with_reducible rfl))
          simp only [Act.put]
          refine wpAnyZ_step (i := 10) (by kernel_rfl) rfl ?_
          intro K13 hK13
          go_simp
          refine hK13.out _ _ (KK.out _ (below_al Bx11.out (Nat.le_refl _) (.cells #[.int .i64 0, .bool false, .bool false, .bool false, .bool false, .bool false, .bool false, .bool false, .bool false, .map none] 45))) (fun hS13 => ?_)
          clear hK13
          have QP14 : Hid (Blk (x11.alloc (.cells #[.int .i64 0, .bool false, .bool false, .bool false, .bool false, .bool false, .bool false, .bool false, .bool false, .map none] 45)) (x11.heap.size) 45 #[.int .i64 0, .bool false, .bool false, .bool false, .bool false, .bool false, .bool false, .bool false, .bool false, .map none]) := (blk_new (by simp))
          have QM14 : Hid (((x11.alloc (.cells #[.int .i64 0, .bool false, .bool false, .bool false, .bool false, .bool false, .bool false, .bool false, .bool false, .map none] 45))).heap[x1.heap.size]? = some (.map #[] 0)) := (show ((x11.alloc (.cells #[.int .i64 0, .bool false, .bool false, .bool false, .bool false, .bool false, .bool false, .bool false, .bool false, .map none] 45))).heap[x1.heap.size]? = some (.map #[] 0) from (map_al Mx11.out (.cells #[.int .i64 0, .bool false, .bool false, .bool false, .bool false, .bool false, .bool false, .bool false, .bool false, .map none] 45)))
          obtain ⟨q0, q1, q2, q3, q4, q5, q6, q7, q8, q9⟩ := ten_cells QP14.out
          obtain ⟨f0, f1, f2, f3, f4, f5, f6, f7, f8, f9⟩ := ten_frozen QP14.out
          refine wpAnyZ_last (i := 11) (by kernel_rfl) rfl (by kernel_rfl) ?_
          intro R14 hR14
          go_simp
          refine hR14.out _ _ ?_
          clear hR14 q0 q1 q2 q3 q4 q5 q6 q7 q8 q9 f0 f1 f2 f3 f4 f5 f6 f7 f8 f9
          go_wp2_with fail
          go_meet
          exact ⟨x11.heap.size, x1.heap.size, rfl, Lib.hid (mach_new (P := x11.heap.size) (M := x1.heap.size) Bx11.out (by simp) (by have := B1.out.size; have := Bx1.out.size; have := hb1.out.size; (try simp at this); have := Bx11.out.size; have := hb11.out.size; (try simp at this); omega) Mx11.out)⟩
        · refine ⟨_, rfl, fun K15 hK15 => ?_⟩
          go_simp
          refine hK15.out _ _ (KK.out _ (below_al (below_al Bx1.out (Nat.le_refl _) (.map #[] 0)) (Nat.le_refl _) (.cells #[.int .i64 0, .bool false, .bool false, .bool false, .bool false, .bool false, .bool false, .bool false, .bool false, .map none] 45))) (fun hS15 => ?_)
          clear hK15
          refine wpAnyZ_step (i := 7) (by kernel_rfl) rfl ?_
          intro K16 hK16
          go_simp
          refine (setOf_x _ _ _ _ (KYS.out _ hS15) HYI.out).mono ?_
          rintro e x16 ⟨rfl, hb16⟩
          have Bx16 := Lib.hid (below_on (below_al (below_al Bx1.out (Nat.le_refl _) (.map #[] 0)) (Nat.le_refl _) (.cells #[.int .i64 0, .bool false, .bool false, .bool false, .bool false, .bool false, .bool false, .bool false, .bool false, .map none] 45)) hb16.out)
          have Mx16 : Hid (x16.heap[x1.heap.size]? = some (.map #[] 0)) := map_b (show (((x1.alloc (.map #[] 0)).alloc (.cells #[.int .i64 0, .bool false, .bool false, .bool false, .bool false, .bool false, .bool false, .bool false, .bool false, .map none] 45))).heap[x1.heap.size]? = some (.map #[] 0) from (map_al (map_at (by simp)) (.cells #[.int .i64 0, .bool false, .bool false, .bool false, .bool false, .bool false, .bool false, .bool false, .bool false, .map none] 45))) hb16.out
          have Px16 : Hid (Blk x16 (x1.heap.size + 1) 45 #[.int .i64 0, .bool false, .bool false, .bool false, .bool false, .bool false, .bool false, .bool false, .bool false, .map none]) := blk_b (show Blk (((x1.alloc (.map #[] 0)).alloc (.cells #[.int .i64 0, .bool false, .bool false, .bool false, .bool false, .bool false, .bool false, .bool false, .bool false, .map none] 45))) (x1.heap.size + 1) 45 #[.int .i64 0, .bool false, .bool false, .bool false, .bool false, .bool false, .bool false, .bool false, .bool false, .map none] from (blk_new (by simp))) hb16.out
          refine hK16.out _ _ (KK.out _ Bx16.out) (fun hS16 => ?_)
          clear hK16
          refine wpAnyZ_step (i := 9) (by kernel_rfl) rfl ?_
          intro L17 hL17
          go_simp
          refine hL17.out _ _ hS16 (fun _ => ?_)
          clear hL17
          have QP17 := Lib.hid (Px16.out)
          have QM17 : Hid ((x16).heap[x1.heap.size]? = some (.map #[] 0)) := (show (x16).heap[x1.heap.size]? = some (.map #[] 0) from Mx16.out)
          obtain ⟨q0, q1, q2, q3, q4, q5, q6, q7, q8, q9⟩ := ten_cells QP17.out
          obtain ⟨f0, f1, f2, f3, f4, f5, f6, f7, f8, f9⟩ := ten_frozen QP17.out
          refine wpAnyZ_last (i := 11) (by kernel_rfl) rfl (by kernel_rfl) ?_
          intro R17 hR17
          go_simp
          refine hR17.out _ _ ?_
          clear hR17 q0 q1 q2 q3 q4 q5 q6 q7 q8 q9 f0 f1 f2 f3 f4 f5 f6 f7 f8 f9
          go_wp2_with fail
          go_meet
          exact ⟨x1.heap.size + 1, x1.heap.size, rfl, Lib.hid (mach_at (P := x1.heap.size + 1) (M := x1.heap.size) Bx16.out (by have := B1.out.size; have := Bx1.out.size; have := hb1.out.size; (try simp at this); have := Bx16.out.size; have := hb16.out.size; (try simp at this); omega) (by have := B1.out.size; have := Bx1.out.size; have := hb1.out.size; (try simp at this); have := Bx16.out.size; have := hb16.out.size; (try simp at this); omega) QP17.out QM17.out)⟩
      · refine ⟨_, rfl, fun K18 hK18 => ?_⟩
        go_simp
        refine hK18.out _ _ (KK.out _ (below_al Bx1.out (Nat.le_refl _) (.cells #[.int .i64 0, .bool false, .bool false, .bool false, .bool false, .bool false, .bool false, .bool false, .bool false, .map none] 45))) (fun hS18 => ?_)
        clear hK18
        refine wpAnyZ_fork (rs := [7, 8]) (by kernel_rfl) (by decide) ?_
        intro i hi
        simp only [List.mem_cons, List.not_mem_nil, or_false] at hi
        rcases hi with rfl | rfl
        · refine ⟨_, rfl, fun K19 hK19 => ?_⟩
          go_simp
          refine (setOf_x _ _ _ _ (KYS.out _ hS18) HYI.out).mono ?_
          rintro e x19 ⟨rfl, hb19⟩
          have Bx19 := Lib.hid (below_on (below_al Bx1.out (Nat.le_refl _) (.cells #[.int .i64 0, .bool false, .bool false, .bool false, .bool false, .bool false, .bool false, .bool false, .bool false, .map none] 45)) hb19.out)
          have Px19 : Hid (Blk x19 (x1.heap.size) 45 #[.int .i64 0, .bool false, .bool false, .bool false, .bool false, .bool false, .bool false, .bool false, .bool false, .map none]) := blk_b (show Blk ((x1.alloc (.cells #[.int .i64 0, .bool false, .bool false, .bool false, .bool false, .bool false, .bool false, .bool false, .bool false, .map none] 45))) (x1.heap.size) 45 #[.int .i64 0, .bool false, .bool false, .bool false, .bool false, .bool false, .bool false, .bool false, .bool false, .map none] from (blk_new (by simp))) hb19.out
          refine hK19.out _ _ (KK.out _ Bx19.out) (fun hS19 => ?_)
          clear hK19
          refine wpAnyZ_step (i := 8) (by kernel_rfl) rfl ?_
          intro K20 hK20
          go_simp
          refine hK20.out _ _ (KK.out _ (below_al Bx19.out (Nat.le_refl _) (.map #[] 0))) (fun hS20 => ?_)
          clear hK20
          refine wpAnyZ_step (i := 9) (by kernel_rfl) rfl ?_
          intro L21 hL21
          go_simp
          refine hL21.out _ _ hS20 (fun _ => ?_)
          clear hL21
          have QP21 : Hid (Blk (x19.alloc (.map #[] 0)) (x1.heap.size) 45 #[.int .i64 0, .bool false, .bool false, .bool false, .bool false, .bool false, .bool false, .bool false, .bool false, .map none]) := (Blk.alloc Px19.out (.map #[] 0))
          have QM21 : Hid (((x19.alloc (.map #[] 0))).heap[x19.heap.size]? = some (.map #[] 0)) := (show ((x19.alloc (.map #[] 0))).heap[x19.heap.size]? = some (.map #[] 0) from (map_at (by simp)))
          obtain ⟨q0, q1, q2, q3, q4, q5, q6, q7, q8, q9⟩ := ten_cells QP21.out
          obtain ⟨f0, f1, f2, f3, f4, f5, f6, f7, f8, f9⟩ := ten_frozen QP21.out
          refine wpAnyZ_last (i := 11) (by kernel_rfl) rfl (by kernel_rfl) ?_
          intro R21 hR21
          go_simp
          refine hR21.out _ _ ?_
          clear hR21 q0 q1 q2 q3 q4 q5 q6 q7 q8 q9 f0 f1 f2 f3 f4 f5 f6 f7 f8 f9
          go_wp2_with fail
          go_meet
          exact ⟨x1.heap.size, x19.heap.size, rfl, Lib.hid (mach_at (P := x1.heap.size) (M := x19.heap.size) (below_al Bx19.out (Nat.le_refl _) (.map #[] 0)) (by have := B1.out.size; have := Bx1.out.size; have := hb1.out.size; (try simp at this); have := Bx19.out.size; have := hb19.out.size; (try simp at this); omega) (by have := B1.out.size; have := Bx1.out.size; have := hb1.out.size; (try simp at this); have := Bx19.out.size; have := hb19.out.size; (try simp at this); omega) QP21.out QM21.out)⟩
        · refine ⟨_, rfl, fun K22 hK22 => ?_⟩
          go_simp
          refine hK22.out _ _ (KK.out _ (below_al (below_al Bx1.out (Nat.le_refl _) (.cells #[.int .i64 0, .bool false, .bool false, .bool false, .bool false, .bool false, .bool false, .bool false, .bool false, .map none] 45)) (Nat.le_refl _) (.map #[] 0))) (fun hS22 => ?_)
          clear hK22
          refine wpAnyZ_step (i := 7) (by kernel_rfl) rfl ?_
          intro K23 hK23
          go_simp
          refine (setOf_x _ _ _ _ (KYS.out _ hS22) HYI.out).mono ?_
          rintro e x23 ⟨rfl, hb23⟩
          have Bx23 := Lib.hid (below_on (below_al (below_al Bx1.out (Nat.le_refl _) (.cells #[.int .i64 0, .bool false, .bool false, .bool false, .bool false, .bool false, .bool false, .bool false, .bool false, .map none] 45)) (Nat.le_refl _) (.map #[] 0)) hb23.out)
          have Mx23 : Hid (x23.heap[x1.heap.size + 1]? = some (.map #[] 0)) := map_b (show (((x1.alloc (.cells #[.int .i64 0, .bool false, .bool false, .bool false, .bool false, .bool false, .bool false, .bool false, .bool false, .map none] 45)).alloc (.map #[] 0))).heap[x1.heap.size + 1]? = some (.map #[] 0) from (map_at (by simp))) hb23.out
          have Px23 : Hid (Blk x23 (x1.heap.size) 45 #[.int .i64 0, .bool false, .bool false, .bool false, .bool false, .bool false, .bool false, .bool false, .bool false, .map none]) := blk_b (show Blk (((x1.alloc (.cells #[.int .i64 0, .bool false, .bool false, .bool false, .bool false, .bool false, .bool false, .bool false, .bool false, .map none] 45)).alloc (.map #[] 0))) (x1.heap.size) 45 #[.int .i64 0, .bool false, .bool false, .bool false, .bool false, .bool false, .bool false, .bool false, .bool false, .map none] from (Blk.alloc (blk_new (by simp)) (.map #[] 0))) hb23.out
          refine hK23.out _ _ (KK.out _ Bx23.out) (fun hS23 => ?_)
          clear hK23
          refine wpAnyZ_step (i := 9) (by kernel_rfl) rfl ?_
          intro L24 hL24
          go_simp
          refine hL24.out _ _ hS23 (fun _ => ?_)
          clear hL24
          have QP24 := Lib.hid (Px23.out)
          have QM24 : Hid ((x23).heap[x1.heap.size + 1]? = some (.map #[] 0)) := (show (x23).heap[x1.heap.size + 1]? = some (.map #[] 0) from Mx23.out)
          obtain ⟨q0, q1, q2, q3, q4, q5, q6, q7, q8, q9⟩ := ten_cells QP24.out
          obtain ⟨f0, f1, f2, f3, f4, f5, f6, f7, f8, f9⟩ := ten_frozen QP24.out
          refine wpAnyZ_last (i := 11) (by kernel_rfl) rfl (by kernel_rfl) ?_
          intro R24 hR24
          go_simp
          refine hR24.out _ _ ?_
          clear hR24 q0 q1 q2 q3 q4 q5 q6 q7 q8 q9 f0 f1 f2 f3 f4 f5 f6 f7 f8 f9
          go_wp2_with fail
          go_meet
          exact ⟨x1.heap.size, x1.heap.size + 1, rfl, Lib.hid (mach_at (P := x1.heap.size) (M := x1.heap.size + 1) Bx23.out (by have := B1.out.size; have := Bx1.out.size; have := hb1.out.size; (try simp at this); have := Bx23.out.size; have := hb23.out.size; (try simp at this); omega) (by have := B1.out.size; have := Bx1.out.size; have := hb1.out.size; (try simp at this); have := Bx23.out.size; have := hb23.out.size; (try simp at this); omega) QP24.out QM24.out)⟩
    · refine ⟨_, rfl, fun K25 hK25 => ?_⟩
      go_simp
      refine hK25.out _ _ (KK.out _ (below_al (Below.refl _ _) (Nat.le_refl _) (.map #[] 0)).drew) (fun hS25 => ?_)
      clear hK25
      refine wpAnyZ_fork (rs := [4, 10]) (by kernel_rfl) (by decide) ?_
      intro i hi
      simp only [List.mem_cons, List.not_mem_nil, or_false] at hi
      rcases hi with rfl | rfl
      · refine ⟨_, rfl, fun K26 hK26 => ?_⟩
        go_simp
        refine (setOf_x _ _ _ _ (KXS.out _ hS25) HXI.out).mono ?_
        rintro e x26 ⟨rfl, hb26⟩
        have Bx26 := Lib.hid (below_on (below_al (Below.refl _ _) (Nat.le_refl _) (.map #[] 0)).drew hb26.out)
        have Mx26 : Hid (x26.heap[w1.heap.size]? = some (.map #[] 0)) := map_b (show ((w1.alloc (.map #[] 0)).drew).heap[w1.heap.size]? = some (.map #[] 0) from (map_at (by simp))) hb26.out
        refine hK26.out _ _ (KK.out _ Bx26.out) (fun hS26 => ?_)
        clear hK26
        refine wpAnyZ_fork (rs := [7, 10]) (by kernel_rfl) (by decide) ?_
        intro i hi
        simp only [List.mem_cons, List.not_mem_nil, or_false] at hi
        rcases hi with rfl | rfl
        · refine ⟨_, rfl, fun K27 hK27 => ?_⟩
          go_simp
          refine (setOf_x _ _ _ _ (KYS.out _ hS26) HYI.out).mono ?_
          rintro e x27 ⟨rfl, hb27⟩
          have Bx27 := Lib.hid (below_on Bx26.out hb27.out)
          have Mx27 : Hid (x27.heap[w1.heap.size]? = some (.map #[] 0)) := map_b (show (x26).heap[w1.heap.size]? = some (.map #[] 0) from Mx26.out) hb27.out
          refine hK27.out _ _ (KK.out _ Bx27.out) (fun hS27 => ?_)
          clear hK27
          refine wpAnyZ_take (i := 9) (v := ?vt289) rfl (by kernel_rfl) (by kernel_rfl) (by kernel_rfl) (by kernel_rfl) (fun _ _ _ h => h) (Or.inl ⟨by rfl, ?yt289⟩) (by with_reducible assumption) ?rt289
          case yt289 => (intro w hSw; (try dsimp only at hSw); go_simp; (try with_reducible rfl))
          simp only [Act.put]
          refine wpAnyZ_step (i := 10) (by kernel_rfl) rfl ?_
          intro K29 hK29
          go_simp
          refine hK29.out _ _ (KK.out _ (below_al Bx27.out (Nat.le_refl _) (.cells #[.int .i64 0, .bool false, .bool false, .bool false, .bool false, .bool false, .bool false, .bool false, .bool false, .map none] 45))) (fun hS29 => ?_)
          clear hK29
          have QP30 : Hid (Blk (x27.alloc (.cells #[.int .i64 0, .bool false, .bool false, .bool false, .bool false, .bool false, .bool false, .bool false, .bool false, .map none] 45)) (x27.heap.size) 45 #[.int .i64 0, .bool false, .bool false, .bool false, .bool false, .bool false, .bool false, .bool false, .bool false, .map none]) := (blk_new (by simp))
          have QM30 : Hid (((x27.alloc (.cells #[.int .i64 0, .bool false, .bool false, .bool false, .bool false, .bool false, .bool false, .bool false, .bool false, .map none] 45))).heap[w1.heap.size]? = some (.map #[] 0)) := (show ((x27.alloc (.cells #[.int .i64 0, .bool false, .bool false, .bool false, .bool false, .bool false, .bool false, .bool false, .bool false, .map none] 45))).heap[w1.heap.size]? = some (.map #[] 0) from (map_al Mx27.out (.cells #[.int .i64 0, .bool false, .bool false, .bool false, .bool false, .bool false, .bool false, .bool false, .bool false, .map none] 45)))
          obtain ⟨q0, q1, q2, q3, q4, q5, q6, q7, q8, q9⟩ := ten_cells QP30.out
          obtain ⟨f0, f1, f2, f3, f4, f5, f6, f7, f8, f9⟩ := ten_frozen QP30.out
          refine wpAnyZ_last (i := 11) (by kernel_rfl) rfl (by kernel_rfl) ?_
          intro R30 hR30
          go_simp
          refine hR30.out _ _ ?_
          clear hR30 q0 q1 q2 q3 q4 q5 q6 q7 q8 q9 f0 f1 f2 f3 f4 f5 f6 f7 f8 f9
          go_wp2_with fail
          go_meet
          exact ⟨x27.heap.size, w1.heap.size, rfl, Lib.hid (mach_new (P := x27.heap.size) (M := w1.heap.size) Bx27.out (by simp) (by have := B1.out.size; have := Bx26.out.size; have := hb26.out.size; (try simp at this); have := Bx27.out.size; have := hb27.out.size; (try simp at this); omega) Mx27.out)⟩
        · refine ⟨_, rfl, fun K31 hK31 => ?_⟩
          go_simp
          refine hK31.out _ _ (KK.out _ (below_al Bx26.out (Nat.le_refl _) (.cells #[.int .i64 0, .bool false, .bool false, .bool false, .bool false, .bool false, .bool false, .bool false, .bool false, .map none] 45))) (fun hS31 => ?_)
          clear hK31
          refine wpAnyZ_step (i := 7) (by kernel_rfl) rfl ?_
          intro K32 hK32
          go_simp
          refine (setOf_x _ _ _ _ (KYS.out _ hS31) HYI.out).mono ?_
          rintro e x32 ⟨rfl, hb32⟩
          have Bx32 := Lib.hid (below_on (below_al Bx26.out (Nat.le_refl _) (.cells #[.int .i64 0, .bool false, .bool false, .bool false, .bool false, .bool false, .bool false, .bool false, .bool false, .map none] 45)) hb32.out)
          have Mx32 : Hid (x32.heap[w1.heap.size]? = some (.map #[] 0)) := map_b (show ((x26.alloc (.cells #[.int .i64 0, .bool false, .bool false, .bool false, .bool false, .bool false, .bool false, .bool false, .bool false, .map none] 45))).heap[w1.heap.size]? = some (.map #[] 0) from (map_al Mx26.out (.cells #[.int .i64 0, .bool false, .bool false, .bool false, .bool false, .bool false, .bool false, .bool false, .bool false, .map none] 45))) hb32.out
          have Px32 : Hid (Blk x32 (x26.heap.size) 45 #[.int .i64 0, .bool false, .bool false, .bool false, .bool false, .bool false, .bool false, .bool false, .bool false, .map none]) := blk_b (show Blk ((x26.alloc (.cells #[.int .i64 0, .bool false, .bool false, .bool false, .bool false, .bool false, .bool false, .bool false, .bool false, .map none] 45))) (x26.heap.size) 45 #[.int .i64 0, .bool false, .bool false, .bool false, .bool false, .bool false, .bool false, .bool false, .bool false, .map none] from (blk_new (by simp))) hb32.out
          refine hK32.out _ _ (KK.out _ Bx32.out) (fun hS32 => ?_)
          clear hK32
          refine wpAnyZ_step (i := 9) (by kernel_rfl) rfl ?_
          intro L33 hL33
          go_simp
          refine hL33.out _ _ hS32 (fun _ => ?_)
          clear hL33
          have QP33 := Lib.hid (Px32.out)
          have QM33 : Hid ((x32).heap[w1.heap.size]? = some (.map #[] 0)) := (show (x32).heap[w1.heap.size]? = some (.map #[] 0) from Mx32.out)
          obtain ⟨q0, q1, q2, q3, q4, q5, q6, q7, q8, q9⟩ := ten_cells QP33.out
          obtain ⟨f0, f1, f2, f3, f4, f5, f6, f7, f8, f9⟩ := ten_frozen QP33.out
          refine wpAnyZ_last (i := 11) (by kernel_rfl) rfl (by kernel_rfl) ?_
          intro R33 hR33
          go_simp
          refine hR33.out _ _ ?_
          clear hR33 q0 q1 q2 q3 q4 q5 q6 q7 q8 q9 f0 f1 f2 f3 f4 f5 f6 f7 f8 f9
          go_wp2_with fail
          go_meet
          exact ⟨x26.heap.size, w1.heap.size, rfl, Lib.hid (mach_at (P := x26.heap.size) (M := w1.heap.size) Bx32.out (by have := B1.out.size; have := Bx26.out.size; have := hb26.out.size; (try simp at this); have := Bx32.out.size; have := hb32.out.size; (try simp at this); omega) (by have := B1.out.size; have := Bx26.out.size; have := hb26.out.size; (try simp at this); have := Bx32.out.size; have := hb32.out.size; (try simp at this); omega) QP33.out QM33.out)⟩
      · refine ⟨_, rfl, fun K34 hK34 => ?_⟩
        go_simp
        refine hK34.out _ _ (KK.out _ (below_al (below_al (Below.refl _ _) (Nat.le_refl _) (.map #[] 0)) (Nat.le_refl _) (.cells #[.int .i64 0, .bool false, .bool false, .bool false, .bool false, .bool false, .bool false, .bool false, .bool false, .map none] 45)).drew) (fun hS34 => ?_)
        clear hK34
        refine wpAnyZ_step (i := 4) (by kernel_rfl) rfl ?_
        intro K35 hK35
        go_simp
        refine (setOf_x _ _ _ _ (KXS.out _ hS34) HXI.out).mono ?_
        rintro e x35 ⟨rfl, hb35⟩
        have Bx35 := Lib.hid (below_on (below_al (below_al (Below.refl _ _) (Nat.le_refl _) (.map #[] 0)) (Nat.le_refl _) (.cells #[.int .i64 0, .bool false, .bool false, .bool false, .bool false, .bool false, .bool false, .bool false, .bool false, .map none] 45)).drew hb35.out)
        have Mx35 : Hid (x35.heap[w1.heap.size]? = some (.map #[] 0)) := map_b (show (((w1.alloc (.map #[] 0)).alloc (.cells #[.int .i64 0, .bool false, .bool false, .bool false, .bool false, .bool false, .bool false, .bool false, .bool false, .map none] 45)).drew).heap[w1.heap.size]? = some (.map #[] 0) from (map_al (map_at (by simp)) (.cells #[.int .i64 0, .bool false, .bool false, .bool false, .bool false, .bool false, .bool false, .bool false, .bool false, .map none] 45))) hb35.out
        have Px35 : Hid (Blk x35 (w1.heap.size + 1) 45 #[.int .i64 0, .bool false, .bool false, .bool false, .bool false, .bool false, .bool false, .bool false, .bool false, .map none]) := blk_b (show Blk (((w1.alloc (.map #[] 0)).alloc (.cells #[.int .i64 0, .bool false, .bool false, .bool false, .bool false, .bool false, .bool false, .bool false, .bool false, .map none] 45)).drew) (w1.heap.size + 1) 45 #[.int .i64 0, .bool false, .bool false, .bool false, .bool false, .bool false, .bool false, .bool false, .bool false, .map none] from (blk_new (by simp))) hb35.out
        refine hK35.out _ _ (KK.out _ Bx35.out) (fun hS35 => ?_)
        clear hK35
        refine wpAnyZ_step (i := 7) (by kernel_rfl) rfl ?_
        intro K36 hK36
        go_simp
        refine (setOf_x _ _ _ _ (KYS.out _ hS35) HYI.out).mono ?_
        rintro e x36 ⟨rfl, hb36⟩
        have Bx36 := Lib.hid (below_on Bx35.out hb36.out)
        have Mx36 : Hid (x36.heap[w1.heap.size]? = some (.map #[] 0)) := map_b (show (x35).heap[w1.heap.size]? = some (.map #[] 0) from Mx35.out) hb36.out
        have Px36 : Hid (Blk x36 (w1.heap.size + 1) 45 #[.int .i64 0, .bool false, .bool false, .bool false, .bool false, .bool false, .bool false, .bool false, .bool false, .map none]) := blk_b (show Blk (x35) (w1.heap.size + 1) 45 #[.int .i64 0, .bool false, .bool false, .bool false, .bool false, .bool false, .bool false, .bool false, .bool false, .map none] from Px35.out) hb36.out
        refine hK36.out _ _ (KK.out _ Bx36.out) (fun hS36 => ?_)
        clear hK36
        refine wpAnyZ_step (i := 9) (by kernel_rfl) rfl ?_
        intro L37 hL37
        go_simp
        refine hL37.out _ _ hS36 (fun _ => ?_)
        clear hL37
        have QP37 := Lib.hid (Px36.out)
        have QM37 : Hid ((x36).heap[w1.heap.size]? = some (.map #[] 0)) := (show (x36).heap[w1.heap.size]? = some (.map #[] 0) from Mx36.out)
        obtain ⟨q0, q1, q2, q3, q4, q5, q6, q7, q8, q9⟩ := ten_cells QP37.out
        obtain ⟨f0, f1, f2, f3, f4, f5, f6, f7, f8, f9⟩ := ten_frozen QP37.out
        refine wpAnyZ_last (i := 11) (by kernel_rfl) rfl (by kernel_rfl) ?_
        intro R37 hR37
        go_simp
        refine hR37.out _ _ ?_
        clear hR37 q0 q1 q2 q3 q4 q5 q6 q7 q8 q9 f0 f1 f2 f3 f4 f5 f6 f7 f8 f9
        go_wp2_with fail
        go_meet
        exact ⟨w1.heap.size + 1, w1.heap.size, rfl, Lib.hid (mach_at (P := w1.heap.size + 1) (M := w1.heap.size) Bx36.out (by have := B1.out.size; have := Bx35.out.size; have := hb35.out.size; (try simp at this); have := Bx36.out.size; have := hb36.out.size; (try simp at this); omega) (by have := B1.out.size; have := Bx35.out.size; have := hb35.out.size; (try simp at this); have := Bx36.out.size; have := hb36.out.size; (try simp at this); omega) QP37.out QM37.out)⟩
    · refine ⟨_, rfl, fun K38 hK38 => ?_⟩
      go_simp
      refine hK38.out _ _ (KK.out _ (below_al (Below.refl _ _) (Nat.le_refl _) (.cells #[.int .i64 0, .bool false, .bool false, .bool false, .bool false, .bool false, .bool false, .bool false, .bool false, .map none] 45)).drew) (fun hS38 => ?_)
      clear hK38
      refine wpAnyZ_fork (rs := [4, 8]) (by kernel_rfl) (by decide) ?_
      intro i hi
      simp only [List.mem_cons, List.not_mem_nil, or_false] at hi
      rcases hi with rfl | rfl
      · refine ⟨_, rfl, fun K39 hK39 => ?_⟩
        go_simp
        refine (setOf_x _ _ _ _ (KXS.out _ hS38) HXI.out).mono ?_
        rintro e x39 ⟨rfl, hb39⟩
        have Bx39 := Lib.hid (below_on (below_al (Below.refl _ _) (Nat.le_refl _) (.cells #[.int .i64 0, .bool false, .bool false, .bool false, .bool false, .bool false, .bool false, .bool false, .bool false, .map none] 45)).drew hb39.out)
        have Px39 : Hid (Blk x39 (w1.heap.size) 45 #[.int .i64 0, .bool false, .bool false, .bool false, .bool false, .bool false, .bool false, .bool false, .bool false, .map none]) := blk_b (show Blk ((w1.alloc (.cells #[.int .i64 0, .bool false, .bool false, .bool false, .bool false, .bool false, .bool false, .bool false, .bool false, .map none] 45)).drew) (w1.heap.size) 45 #[.int .i64 0, .bool false, .bool false, .bool false, .bool false, .bool false, .bool false, .bool false, .bool false, .map none] from (blk_new (by simp))) hb39.out
        refine hK39.out _ _ (KK.out _ Bx39.out) (fun hS39 => ?_)
        clear hK39
        refine wpAnyZ_fork (rs := [7, 8]) (by kernel_rfl) (by decide) ?_
        intro i hi
        simp only [List.mem_cons, List.not_mem_nil, or_false] at hi
        rcases hi with rfl | rfl
        · refine ⟨_, rfl, fun K40 hK40 => ?_⟩
          go_simp
          refine (setOf_x _ _ _ _ (KYS.out _ hS39) HYI.out).mono ?_
          rintro e x40 ⟨rfl, hb40⟩
          have Bx40 := Lib.hid (below_on Bx39.out hb40.out)
          have Px40 : Hid (Blk x40 (w1.heap.size) 45 #[.int .i64 0, .bool false, .bool false, .bool false, .bool false, .bool false, .bool false, .bool false, .bool false, .map none]) := blk_b (show Blk (x39) (w1.heap.size) 45 #[.int .i64 0, .bool false, .bool false, .bool false, .bool false, .bool false, .bool false, .bool false, .bool false, .map none] from Px39.out) hb40.out
          refine hK40.out _ _ (KK.out _ Bx40.out) (fun hS40 => ?_)
          clear hK40
          refine wpAnyZ_step (i := 8) (by kernel_rfl) rfl ?_
          intro K41 hK41
          go_simp
          refine hK41.out _ _ (KK.out _ (below_al Bx40.out (Nat.le_refl _) (.map #[] 0))) (fun hS41 => ?_)
          clear hK41
          refine wpAnyZ_step (i := 9) (by kernel_rfl) rfl ?_
          intro L42 hL42
          go_simp
          refine hL42.out _ _ hS41 (fun _ => ?_)
          clear hL42
          have QP42 : Hid (Blk (x40.alloc (.map #[] 0)) (w1.heap.size) 45 #[.int .i64 0, .bool false, .bool false, .bool false, .bool false, .bool false, .bool false, .bool false, .bool false, .map none]) := (Blk.alloc Px40.out (.map #[] 0))
          have QM42 : Hid (((x40.alloc (.map #[] 0))).heap[x40.heap.size]? = some (.map #[] 0)) := (show ((x40.alloc (.map #[] 0))).heap[x40.heap.size]? = some (.map #[] 0) from (map_at (by simp)))
          obtain ⟨q0, q1, q2, q3, q4, q5, q6, q7, q8, q9⟩ := ten_cells QP42.out
          obtain ⟨f0, f1, f2, f3, f4, f5, f6, f7, f8, f9⟩ := ten_frozen QP42.out
          refine wpAnyZ_last (i := 11) (by kernel_rfl) rfl (by kernel_rfl) ?_
          intro R42 hR42
          go_simp
          refine hR42.out _ _ ?_
          clear hR42 q0 q1 q2 q3 q4 q5 q6 q7 q8 q9 f0 f1 f2 f3 f4 f5 f6 f7 f8 f9
          go_wp2_with fail
          go_meet
          exact ⟨w1.heap.size, x40.heap.size, rfl, Lib.hid (mach_at (P := w1.heap.size) (M := x40.heap.size) (below_al Bx40.out (Nat.le_refl _) (.map #[] 0)) (by have := B1.out.size; have := Bx39.out.size; have := hb39.out.size; (try simp at this); have := Bx40.out.size; have := hb40.out.size; (try simp at this); omega) (by have := B1.out.size; have := Bx39.out.size; have := hb39.out.size; (try simp at this); have := Bx40.out.size; have := hb40.out.size; (try simp at this); omega) QP42.out QM42.out)⟩
        · refine ⟨_, rfl, fun K43 hK43 => ?_⟩
          go_simp
          refine hK43.out _ _ (KK.out _ (below_al Bx39.out (Nat.le_refl _) (.map #[] 0))) (fun hS43 => ?_)
          clear hK43
          refine wpAnyZ_step (i := 7) (by kernel_rfl) rfl ?_
          intro K44 hK44
          go_simp
          refine (setOf_x _ _ _ _ (KYS.out _ hS43) HYI.out).mono ?_
          rintro e x44 ⟨rfl, hb44⟩
          have Bx44 := Lib.hid (below_on (below_al Bx39.out (Nat.le_refl _) (.map #[] 0)) hb44.out)
          have Mx44 : Hid (x44.heap[x39.heap.size]? = some (.map #[] 0)) := map_b (show ((x39.alloc (.map #[] 0))).heap[x39.heap.size]? = some (.map #[] 0) from (map_at (by simp))) hb44.out
          have Px44 : Hid (Blk x44 (w1.heap.size) 45 #[.int .i64 0, .bool false, .bool false, .bool false, .bool false, .bool false, .bool false, .bool false, .bool false, .map none]) := blk_b (show Blk ((x39.alloc (.map #[] 0))) (w1.heap.size) 45 #[.int .i64 0, .bool false, .bool false, .bool false, .bool false, .bool false, .bool false, .bool false, .bool false, .map none] from (Blk.alloc Px39.out (.map #[] 0))) hb44.out
          refine hK44.out _ _ (KK.out _ Bx44.out) (fun hS44 => ?_)
          clear hK44
          refine wpAnyZ_step (i := 9) (by kernel_rfl) rfl ?_
          intro L45 hL45
          go_simp
          refine hL45.out _ _ hS44 (fun _ => ?_)
          clear hL45
          have QP45 := Lib.hid (Px44.out)
          have QM45 : Hid ((x44).heap[x39.heap.size]? = some (.map #[] 0)) := (show (x44).heap[x39.heap.size]? = some (.map #[] 0) from Mx44.out)
          obtain ⟨q0, q1, q2, q3, q4, q5, q6, q7, q8, q9⟩ := ten_cells QP45.out
          obtain ⟨f0, f1, f2, f3, f4, f5, f6, f7, f8, f9⟩ := ten_frozen QP45.out
          refine wpAnyZ_last (i := 11) (by kernel_rfl) rfl (by kernel_rfl) ?_
          intro R45 hR45
          go_simp
          refine hR45.out _ _ ?_
          clear hR45 q0 q1 q2 q3 q4 q5 q6 q7 q8 q9 f0 f1 f2 f3 f4 f5 f6 f7 f8 f9
          go_wp2_with fail
          go_meet
          exact ⟨w1.heap.size, x39.heap.size, rfl, Lib.hid (mach_at (P := w1.heap.size) (M := x39.heap.size) Bx44.out (by have := B1.out.size; have := Bx39.out.size; have := hb39.out.size; (try simp at this); have := Bx44.out.size; have := hb44.out.size; (try simp at this); omega) (by have := B1.out.size; have := Bx39.out.size; have := hb39.out.size; (try simp at this); have := Bx44.out.size; have := hb44.out.size; (try simp at this); omega) QP45.out QM45.out)⟩
      · refine ⟨_, rfl, fun K46 hK46 => ?_⟩
        go_simp
        refine hK46.out _ _ (KK.out _ (below_al (below_al (Below.refl _ _) (Nat.le_refl _) (.cells #[.int .i64 0, .bool false, .bool false, .bool false, .bool false, .bool false, .bool false, .bool false, .bool false, .map none] 45)) (Nat.le_refl _) (.map #[] 0)).drew) (fun hS46 => ?_)
        clear hK46
        refine wpAnyZ_step (i := 4) (by kernel_rfl) rfl ?_
        intro K47 hK47
        go_simp
        refine (setOf_x _ _ _ _ (KXS.out _ hS46) HXI.out).mono ?_
        rintro e x47 ⟨rfl, hb47⟩
        have Bx47 := Lib.hid (below_on (below_al (below_al (Below.refl _ _) (Nat.le_refl _) (.cells #[.int .i64 0, .bool false, .bool false, .bool false, .bool false, .bool false, .bool false, .bool false, .bool false, .map none] 45)) (Nat.le_refl _) (.map #[] 0)).drew hb47.out)
        have Mx47 : Hid (x47.heap[w1.heap.size + 1]? = some (.map #[] 0)) := map_b (show (((w1.alloc (.cells #[.int .i64 0, .bool false, .bool false, .bool false, .bool false, .bool false, .bool false, .bool false, .bool false, .map none] 45)).alloc (.map #[] 0)).drew).heap[w1.heap.size + 1]? = some (.map #[] 0) from (map_at (by simp))) hb47.out
        have Px47 : Hid (Blk x47 (w1.heap.size) 45 #[.int .i64 0, .bool false, .bool false, .bool false, .bool false, .bool false, .bool false, .bool false, .bool false, .map none]) := blk_b (show Blk (((w1.alloc (.cells #[.int .i64 0, .bool false, .bool false, .bool false, .bool false, .bool false, .bool false, .bool false, .bool false, .map none] 45)).alloc (.map #[] 0)).drew) (w1.heap.size) 45 #[.int .i64 0, .bool false, .bool false, .bool false, .bool false, .bool false, .bool false, .bool false, .bool false, .map none] from (Blk.alloc (blk_new (by simp)) (.map #[] 0))) hb47.out
        refine hK47.out _ _ (KK.out _ Bx47.out) (fun hS47 => ?_)
        clear hK47
        refine wpAnyZ_step (i := 7) (by kernel_rfl) rfl ?_
        intro K48 hK48
        go_simp
        refine (setOf_x _ _ _ _ (KYS.out _ hS47) HYI.out).mono ?_
        rintro e x48 ⟨rfl, hb48⟩
        have Bx48 := Lib.hid (below_on Bx47.out hb48.out)
        have Mx48 : Hid (x48.heap[w1.heap.size + 1]? = some (.map #[] 0)) := map_b (show (x47).heap[w1.heap.size + 1]? = some (.map #[] 0) from Mx47.out) hb48.out
        have Px48 : Hid (Blk x48 (w1.heap.size) 45 #[.int .i64 0, .bool false, .bool false, .bool false, .bool false, .bool false, .bool false, .bool false, .bool false, .map none]) := blk_b (show Blk (x47) (w1.heap.size) 45 #[.int .i64 0, .bool false, .bool false, .bool false, .bool false, .bool false, .bool false, .bool false, .bool false, .map none] from Px47.out) hb48.out
        refine hK48.out _ _ (KK.out _ Bx48.out) (fun hS48 => ?_)
        clear hK48
        refine wpAnyZ_step (i := 9) (by kernel_rfl) rfl ?_
        intro L49 hL49
        go_simp
        refine hL49.out _ _ hS48 (fun _ => ?_)
        clear hL49
        have QP49 := Lib.hid (Px48.out)
        have QM49 : Hid ((x48).heap[w1.heap.size + 1]? = some (.map #[] 0)) := (show (x48).heap[w1.heap.size + 1]? = some (.map #[] 0) from Mx48.out)
        obtain ⟨q0, q1, q2, q3, q4, q5, q6, q7, q8, q9⟩ := ten_cells QP49.out
        obtain ⟨f0, f1, f2, f3, f4, f5, f6, f7, f8, f9⟩ := ten_frozen QP49.out
        refine wpAnyZ_last (i := 11) (by kernel_rfl) rfl (by kernel_rfl) ?_
        intro R49 hR49
        go_simp
        refine hR49.out _ _ ?_
        clear hR49 q0 q1 q2 q3 q4 q5 q6 q7 q8 q9 f0 f1 f2 f3 f4 f5 f6 f7 f8 f9
        go_wp2_with fail
        go_meet
        exact ⟨w1.heap.size, w1.heap.size + 1, rfl, Lib.hid (mach_at (P := w1.heap.size) (M := w1.heap.size + 1) Bx48.out (by have := B1.out.size; have := Bx47.out.size; have := hb47.out.size; (try simp at this); have := Bx48.out.size; have := hb48.out.size; (try simp at this); omega) (by have := B1.out.size; have := Bx47.out.size; have := hb47.out.size; (try simp at this); have := Bx48.out.size; have := hb48.out.size; (try simp at this); omega) QP49.out QM49.out)⟩
  case rest =>
    obtain ⟨P, M, rfl, hM⟩ := hcut
    obtain ⟨hb2, hP, hMs, hPk, hMo⟩ := hM.out
    have BC := Lib.hid (below_on B1.out hb2)
    have AC := Lib.hid (blk_b A1b.out hb2)
    have RC := Lib.hid (blk_b R1b.out hb2)
    have PC : Hid (Blk wc P 45 #[.int .i64 m, .bool (hasB xs 0), .bool (hasB xs 1), .bool (hasB xs 2), .bool (hasB xs 3), .bool (hasB ys 0), .bool (hasB ys 1), .bool (hasB ys 2), .bool (hasB ys 3), .map (some M)]) := hPk
    have MC := Lib.hid (CMap.of_obj hMo)
    have hMlt := (Array.getElem?_eq_some_iff.1 hMo).1
    have hPM : ¬ P = M := by
      intro e
      subst e
      rw [hPk] at hMo
      cases hMo
    have hwm : w.heap.size + 1 < M := by omega
    clear hM hb2 hPk hMo B1 A1b R1b HX HY HXI HYI HOK KXS KYS KB KA KC KD KK hS0 hmm k0 k1 k2 k3
    obtain ⟨k0, k1, k2, k3⟩ := four_cells AC.out
    go_wp2_with fail
    clear k0 k1 k2 k3
    go_loopw [24] (fun i wr => ∃ k : Nat, k ≤ ss.length ∧ i = .int .i64 k ∧ Hid (CMap wr M k (costAt (ss.take k))) ∧ Hid (wc.grownBy wr (some M))) (fun i _ => ss.length - (intOf i).toNat)
    case atStart => exact ⟨0, Nat.zero_le _, rfl, MC, World.grownBy.refl _ _⟩
    case round =>
      obtain ⟨k, hk, rfl, hc, hg⟩ := hrel
      by_cases hlt : k < ss.length
      · obtain ⟨b, off, s, rfl, hbB, hat, hsz, _, hgs⟩ := HS.out.at_ hlt
        have hB := BC.out.grown hg.out BC.out.size (fun j hj => by cases hj; omega)
        obtain ⟨s0, s1, s2, s3⟩ := hat.below hB hbB
        have HT := Lib.hid (costAt_take hlt hgs)
        have hmem : s ∈ ss := by
          have h := hgs
          rw [List.getD_eq_getElem?_getD, List.getElem?_eq_getElem hlt] at h
          simp at h; rw [← h]; exact List.getElem_mem _
        obtain ⟨a, t, c, e1, ha, e2, ht, e3, hc3, hle⟩ := stepOk_in (HSI.out s hmem)
        have HW : Hid (kwf s.fr s.le s.to_) := ⟨wf_between (by omega) (by omega), (by rcases hle with h | h <;> rw [h] <;> decide), wf_between (by omega) (by omega)⟩
        have HWC := Lib.hid (wf_between (k := s.co) (by omega) (by omega))
        have hPw := Blk.lt (blk_gr PC.out hg.out hPM)
        have pc9 := (blk_gr PC.out hg.out hPM).cell 9
        simp at pc9
        have hi0 : (0 : Int) ≤ (k : Int) := by omega
        have hi1 : (k : Int) < (ss.length : Int) := by omega
        clear hB hat hgs hmem e1 ha e2 ht e3 hc3 hle
        go_wp2_with (at_mapUpdate; refine wpList_store _ rfl _ _ _ rfl M k (costAt (ss.take k)) rfl (hc.out.kept (World.grownBy_alloc _ _ none) (by simp)) (by unfold maxLen; omega) s.fr s.to_ s.le rfl HW.out s.co rfl HWC.out ?_)
        intro w5 hc5 hg5
        have C5 : Hid (CMap w5 M (k + 1) (costAt (ss.take (k + 1)))) := by show CMap _ _ _ _; rw [HT.out]; exact hc5
        have G5 := Lib.hid (grow_trans (grow_trans hg.out (World.grownBy_alloc _ _ _)) hg5)
        clear hc5 hg5 pc9 s0 s1 s2 s3
        go_wp2_with fail
        go_roundw
        case rel => exact ⟨k + 1, by omega, by go_num, C5, G5⟩
        case measure => simp [intOf]; omega
      · have hkl : k = ss.length := by omega
        have CF : Hid (CMap wr M ss.length (costAt ss)) := by
          have h := hc.out
          rw [List.take_of_length_le (by omega), hkl] at h
          exact h
        have HB := Lib.hid (BC.out.grown hg.out BC.out.size (fun j hj => by cases hj; omega))
        have PP := Lib.hid (blk_gr PC.out hg.out hPM)
        have RR := Lib.hid (blk_gr RC.out hg.out (by omega))
        have HME := Lib.hid hkl
        clear hkl hc hg
        obtain ⟨p0, p1, p2, p3, p4, p5, p6, p7, p8, p9⟩ := ten_cells PP.out
        obtain ⟨r0, r1, r2, r3, r4, r5, r6, r7, r8, r9⟩ := ten_cells RR.out
        obtain ⟨f0, f1, f2, f3, f4, f5, f6, f7, f8, f9⟩ := ten_frozen RR.out
        go_wp2_with fail
        have HF := ten_blk RR.out (.int .i64 m) (.bool (hasB xs 0)) (.bool (hasB xs 1)) (.bool (hasB xs 2)) (.bool (hasB xs 3)) (.bool (hasB ys 0)) (.bool (hasB ys 1)) (.bool (hasB ys 2)) (.bool (hasB ys 3)) (.map (some M))
        have HG := ten_grow wr (w.heap.size + 1) (.int .i64 m) (.bool (hasB xs 0)) (.bool (hasB xs 1)) (.bool (hasB xs 2)) (.bool (hasB xs 3)) (.bool (hasB ys 0)) (.bool (hasB ys 1)) (.bool (hasB ys 2)) (.bool (hasB ys 3)) (.map (some M))
        refine bodyPost_ret (results_2 rfl (gives_mach (g := w.heap.size + 1) rfl HF) (Gives.tmp rfl)) rfl ?_
        exact ⟨M, rfl, by omega, Lib.hid (CF.out.kept HG (by intro e; cases e; omega)), Lib.hid (HB.out.grown HG HB.out.size (fun j hj => by cases hj; omega))⟩

theorem machineOf_no (m : Int) (A1 A2 A3 : Option Addr) (c1 c2 c3 : Nat) (xs ys : List Int) (ss : List StepD) (w : World) (hx : Ints w w.heap.size A1 xs) (hy : Ints w w.heap.size A2 ys) (hs : SRow w w.heap.size A3 ss) (hok : autoOk m xs ys ss = false) :
    Calls Tryd.prog 28 #[.agg #[.int .i64 m, .slice A1 xs.length c1, .slice A2 ys.length c2, .slice A3 ss.length c3]] w fun e w' => e = .returned (.tuple #[.agg #[.int .i64 0, .bool false, .bool false, .bool false, .bool false, .bool false, .bool false, .bool false, .bool false, .map none], .bool false]) ∧ Hid (Below w.heap.size w w') := by
  have HX0 := Lib.hid (ints_al (ints_al hx (.cells #[.int .i64 m, .slice A1 xs.length c1, .slice A2 ys.length c2, .slice A3 ss.length c3] 26)) (.cells #[.int .i64 0, .bool false, .bool false, .bool false, .bool false, .bool false, .bool false, .bool false, .bool false, .map none] 45))
  have HY0 := Lib.hid (ints_al (ints_al hy (.cells #[.int .i64 m, .slice A1 xs.length c1, .slice A2 ys.length c2, .slice A3 ss.length c3] 26)) (.cells #[.int .i64 0, .bool false, .bool false, .bool false, .bool false, .bool false, .bool false, .bool false, .bool false, .map none] 45))
  have HS := Lib.hid ((hs.al (.cells #[.int .i64 m, .slice A1 xs.length c1, .slice A2 ys.length c2, .slice A3 ss.length c3] 26)).al (.cells #[.int .i64 0, .bool false, .bool false, .bool false, .bool false, .bool false, .bool false, .bool false, .bool false, .map none] 45))
  have HOK := Lib.hid hok
  clear hx hy hs hok
  go_enter Tryd.func28, Tryd.ntmps28
  go_wp2_with fail
  refine (iAutomatonValid_is _ _ _ _ _ _ _ _ _ _ false _ HX0.out HY0.out HS.out HOK.out).mono ?_
  rintro e w1 ⟨rfl, hb1⟩
  have B1 := Lib.hid (below_on (below_a2 w _ _) hb1.out)
  have R1 : Hid (Blk w1 (w.heap.size + 1) 45 #[.int .i64 0, .bool false, .bool false, .bool false, .bool false, .bool false, .bool false, .bool false, .bool false, .map none]) := (blk_new (by simp)).below hb1.out (by simp)
  obtain ⟨r0, r1, r2, r3, r4, r5, r6, r7, r8, r9⟩ := ten_cells R1.out
  obtain ⟨f0, f1, f2, f3, f4, f5, f6, f7, f8, f9⟩ := ten_frozen R1.out
  clear hb1
  go_wp2_with fail
  have HF := ten_blk R1.out (.int .i64 0) (.bool false) (.bool false) (.bool false) (.bool false) (.bool false) (.bool false) (.bool false) (.bool false) (.map none)
  have HG := ten_grow w1 (w.heap.size + 1) (.int .i64 0) (.bool false) (.bool false) (.bool false) (.bool false) (.bool false) (.bool false) (.bool false) (.bool false) (.map none)
  refine bodyPost_ret (results_2 rfl (gives_mach (g := w.heap.size + 1) rfl HF) (Gives.tmp rfl)) rfl ?_
  exact ⟨rfl, Lib.hid (B1.out.grown HG B1.out.size (fun j hj => by cases hj; omega))⟩
end Go.Proofs.YtfdbbopanankgaaDoor
