/- The program's machines: sets of states, and an automaton as a machine: its numbers, its sets, and a map that tells each step's cost; in new memory; nothing that was there changes. No condition but that the automaton is valid, or that it isn't. -/
import Derived.Test.YtlfffoglldobeaaAutS
import Derived.Test.YtlfffoglldobeaaMapK
import Derived.Deep.RegionHeld3
namespace Go.Proofs.Ytlfffoglldobeaa
open Go.RowKit
set_option maxHeartbeats 2000000
set_option maxRecDepth 100000
set_option linter.unusedVariables false

def hasB (xs : List Int) (p : Int) : Bool := xs.contains p
def setC (xs : List Int) : Array Value := #[.bool (hasB xs 0), .bool (hasB xs 1), .bool (hasB xs 2), .bool (hasB xs 3)]
theorem setC_snoc (xs : List Int) {q : Nat} (hq : q < 4) : (setC xs).setIfInBounds q (.bool true) = setC (xs ++ [(q : Int)]) := by
  have h : q = 0 ∨ q = 1 ∨ q = 2 ∨ q = 3 := by omega
  rcases h with rfl | rfl | rfl | rfl <;> simp [setC, hasB]
theorem setC_cell {w : World} {g : Nat} {t : TypeId} {xs : List Int} (h : Blk w g t (setC xs)) {q : Nat} (hq : q < 4) : w.cell? ⟨g, q, none⟩ = some (.bool (hasB xs q)) := by
  rw [h.cell q]
  have h : q = 0 ∨ q = 1 ∨ q = 2 ∨ q = 3 := by omega
  rcases h with rfl | rfl | rfl | rfl <;> rfl
theorem take_snoc_i {xs : List Int} {k : Nat} {z : Int} (hk : k < xs.length) (hz : xs.getD k 0 = z) : xs.take (k + 1) = xs.take k ++ [z] := by
  rw [List.take_succ_eq_append_getElem hk]
  rw [List.getD_eq_getElem?_getD, List.getElem?_eq_getElem hk] at hz
  simp at hz
  rw [hz]
theorem getD_mem {xs : List Int} {k : Nat} {z : Int} (hk : k < xs.length) (hz : xs.getD k 0 = z) : z ∈ xs := by
  rw [List.getD_eq_getElem?_getD, List.getElem?_eq_getElem hk] at hz
  simp at hz
  rw [← hz]
  exact List.getElem_mem _
theorem gives_set {tmps : Array Value} {w : World} {p : Tmp} {g : Nat} {t : TypeId} {a b c d : Value} (hp : tmps.getD p undef = .pointer (some ⟨g, 0, none⟩)) (hg : Blk w g t #[a, b, c, d]) : Gives Try.prog tmps w (.cell p 48) (.agg #[a, b, c, d]) :=
  Gives.row hp hg Try.underlying48 rfl (by kernel_rfl)

theorem setOf_any (A : Option Addr) (cap : Nat) (xs : List Int) (w : World) (hx : Ints w w.heap.size A xs) (hin : ∀ x ∈ xs, 0 ≤ x ∧ x < 4) :
    Calls Try.prog 47 #[.slice A xs.length cap] w fun e w' => e = .returned (.agg (setC xs)) ∧ Hid (Below w.heap.size w w') := by
  have hl := hx.len
  have HX := Lib.hid hx
  have HI := Lib.hid hin
  clear hx hin
  go_enter Try.func47, Try.ntmps47
  go_wp2_with fail
  go_loopw [8] (fun i wr => ∃ k : Nat, k ≤ xs.length ∧ i = .int .i64 k ∧ Hid (Blk wr (w.heap.size + 1) 48 (setC (xs.take k))) ∧ Hid (Blk wr w.heap.size 48 (setC [])) ∧ Hid (Below w.heap.size w wr)) (fun i _ => xs.length - (intOf i).toNat)
  case atStart => exact ⟨0, Nat.zero_le _, rfl, blk_new (by simp), (Blk.new _ _ _).alloc _, below_a2 _ _ _⟩
  case round =>
    obtain ⟨k, hk, rfl, hs, hr, hbw⟩ := hrel
    by_cases hlt : k < xs.length
    · obtain ⟨b, off, z, rfl, hbB, hc, _, hg⟩ := HX.out.at_ hlt
      obtain ⟨z0, z4⟩ := HI.out z (getD_mem hlt hg)
      obtain ⟨q, rfl⟩ : ∃ q : Nat, z = (q : Int) := ⟨z.toNat, by omega⟩
      have hq : q < 4 := by omega
      have hc' : wr.cell? ⟨b, off + k, none⟩ = some (.int .i64 q) := (hbw.out.cell (p := ⟨b, off + k, none⟩) hbB).trans hc
      have hcell := setC_cell hs.out hq
      have hfr := hs.out.frozen q
      have S3 : Hid (Blk (wr.setCell ⟨w.heap.size + 1, q, none⟩ (.bool true)) (w.heap.size + 1) 48 (setC (xs.take (k + 1)))) := by
        have h := hs.out.set_ q (.bool true)
        rw [setC_snoc _ hq, ← take_snoc_i hlt hg] at h
        exact h
      have R3 := Lib.hid (hr.out.other (w.heap.size + 1) q (.bool true) (by omega))
      have B3 := Lib.hid (hbw.out.setCell (p := ⟨w.heap.size + 1, q, none⟩) (by simp) (.bool true))
      clear hc hg hs hr
      go_wp2_with fail
      go_roundw
      case rel => exact ⟨k + 1, by omega, by go_num, S3, R3, B3⟩
      case measure => simp [intOf]; omega
    · have e : xs.take k = xs := List.take_of_length_le (by omega)
      have S3 := hs.out
      rw [e] at S3
      have c0 := setC_cell S3 (q := 0) (by omega)
      have c1 := setC_cell S3 (q := 1) (by omega)
      have c2 := setC_cell S3 (q := 2) (by omega)
      have c3 := setC_cell S3 (q := 3) (by omega)
      have f0 := hr.out.frozen 0
      have f1 := hr.out.frozen 1
      have f2 := hr.out.frozen 2
      have f3 := hr.out.frozen 3
      clear S3 e hs
      have d0 := setC_cell hr.out (q := 0) (by omega)
      have d1 := setC_cell hr.out (q := 1) (by omega)
      have d2 := setC_cell hr.out (q := 2) (by omega)
      have d3 := setC_cell hr.out (q := 3) (by omega)
      go_wp2_with fail
      have HF := (((hr.out.set_ 0 (.bool (hasB xs 0))).set_ 1 (.bool (hasB xs 1))).set_ 2 (.bool (hasB xs 2))).set_ 3 (.bool (hasB xs 3))
      refine bodyPost_ret (results_1 rfl (gives_set (g := w.heap.size) rfl HF)) rfl ?_
      exact ⟨rfl, (((hbw.out.setCell (p := ⟨w.heap.size, 0, none⟩) (Nat.le_refl _) _).setCell (p := ⟨w.heap.size, 1, none⟩) (Nat.le_refl _) _).setCell (p := ⟨w.heap.size, 2, none⟩) (Nat.le_refl _) _).setCell (p := ⟨w.heap.size, 3, none⟩) (Nat.le_refl _) _⟩
/-- What it costs to go by a letter, where the last one of several steps counts. -/
def costAt (ss : List StepD) : Int → ByteArray → Int → Option Int := ss.foldl (fun F s => updC F s.fr s.le s.to_ s.co) (fun _ _ _ => none)
theorem costAt_take {ss : List StepD} {k : Nat} {s : StepD} (hk : k < ss.length) (hs : ss.getD k default = s) : costAt (ss.take (k + 1)) = updC (costAt (ss.take k)) s.fr s.le s.to_ s.co := by
  have e : ss[k] = s := by rw [List.getD_eq_getElem?_getD, List.getElem?_eq_getElem hk] at hs; exact hs
  unfold costAt
  rw [List.take_succ_eq_append_getElem hk, List.foldl_append, e]
  rfl
theorem wf_small {k : Nat} (h : k ≤ 1000000) : (Lit.int .i64 (k : Int)).wf = true := by
  simp only [Lit.wf, IntKind.min, IntKind.max, IntKind.signed, IntKind.bits, Bool.and_eq_true, decide_eq_true_eq, if_true]
  omega
theorem wf_between {k : Int} (h0 : 0 ≤ k) (h : k ≤ 1000000) : (Lit.int .i64 k).wf = true := by
  obtain ⟨n, rfl⟩ := Int.eq_ofNat_of_zero_le h0
  exact wf_small (by omega)
theorem stepOk_in {n : Nat} {s : StepD} (h : stepOk n s = true) : ∃ i k c : Nat, s.fr = (i : Int) ∧ i < n ∧ s.to_ = (k : Int) ∧ k < n ∧ s.co = (c : Int) ∧ c ≤ 3 ∧ IsL s.le := by
  have hl := stepOk_l h
  unfold stepOk at h
  simp only [Bool.and_eq_true, decide_eq_true_eq] at h
  obtain ⟨⟨h1, h2⟩, ⟨h3, h4⟩, _, h5, h6⟩ := h
  exact ⟨s.fr.toNat, s.to_.toNat, s.co.toNat, by omega, by omega, by omega, by omega, by omega, by omega, hl⟩

theorem marks_in : ∀ {n last : Int} {xs : List Int}, marksF n last xs = true → ∀ x ∈ xs, last < x ∧ x < n
  | n, last, [], _, x, hx => by cases hx
  | n, last, p :: ps, h, x, hx => by
    by_cases h1 : last < p
    · by_cases h2 : p < n
      · rw [marks_go ps h1 h2] at h
        rcases List.mem_cons.1 hx with rfl | hx
        · exact ⟨h1, h2⟩
        · have := marks_in h x hx
          exact ⟨by omega, this.2⟩
      · rw [marks_hi ps h2] at h; cases h
    · rw [marks_lo ps h1] at h; cases h
theorem steps_in : ∀ {n : Int} {o : Option StepD} {ss : List StepD}, stepsF n o ss = true → ∀ s ∈ ss, stepOk n s = true
  | n, o, [], _, s, hs => by cases hs
  | n, none, t :: r, h, s, hs => by
    simp only [stepsF, Bool.and_eq_true] at h
    rcases List.mem_cons.1 hs with rfl | hs
    · exact h.1
    · exact steps_in h.2 s hs
  | n, some q, t :: r, h, s, hs => by
    simp only [stepsF, Bool.and_eq_true] at h
    rcases List.mem_cons.1 hs with rfl | hs
    · exact h.1
    · exact steps_in h.2.2 s hs
theorem auto_in {m : Int} {xs ys : List Int} {ss : List StepD} (h : autoOk m xs ys ss = true) : ∃ n : Nat, m = (n : Int) ∧ 1 ≤ n ∧ n ≤ 4 ∧ (∀ x ∈ xs, 0 ≤ x ∧ x < m) ∧ (∀ y ∈ ys, 0 ≤ y ∧ y < m) ∧ ss.length ≤ 24 ∧ ∀ s ∈ ss, stepOk m s = true := by
  unfold autoOk at h
  simp only [Bool.and_eq_true, decide_eq_true_eq] at h
  obtain ⟨⟨h1, h2⟩, h3, h4, h5, h6⟩ := h
  exact ⟨m.toNat, by omega, by omega, by omega, fun x hx => by have := marks_in h3 x hx; omega, fun x hx => by have := marks_in h4 x hx; omega, h5, steps_in h6⟩

theorem ten_cells {w : World} {g : Nat} {t : TypeId} {u0 u1 u2 u3 u4 u5 u6 u7 u8 u9 : Value} (h : Blk w g t #[u0, u1, u2, u3, u4, u5, u6, u7, u8, u9]) :
    w.cell? ⟨g, 0, none⟩ = some u0 ∧ w.cell? ⟨g, 1, none⟩ = some u1 ∧ w.cell? ⟨g, 2, none⟩ = some u2 ∧ w.cell? ⟨g, 3, none⟩ = some u3 ∧ w.cell? ⟨g, 4, none⟩ = some u4 ∧ w.cell? ⟨g, 5, none⟩ = some u5 ∧ w.cell? ⟨g, 6, none⟩ = some u6 ∧ w.cell? ⟨g, 7, none⟩ = some u7 ∧ w.cell? ⟨g, 8, none⟩ = some u8 ∧ w.cell? ⟨g, 9, none⟩ = some u9 :=
  ⟨h.cell 0, h.cell 1, h.cell 2, h.cell 3, h.cell 4, h.cell 5, h.cell 6, h.cell 7, h.cell 8, h.cell 9⟩
theorem ten_frozen {w : World} {g : Nat} {t : TypeId} {cs : Array Value} (h : Blk w g t cs) :
    w.frozen? ⟨g, 0, none⟩ = false ∧ w.frozen? ⟨g, 1, none⟩ = false ∧ w.frozen? ⟨g, 2, none⟩ = false ∧ w.frozen? ⟨g, 3, none⟩ = false ∧ w.frozen? ⟨g, 4, none⟩ = false ∧ w.frozen? ⟨g, 5, none⟩ = false ∧ w.frozen? ⟨g, 6, none⟩ = false ∧ w.frozen? ⟨g, 7, none⟩ = false ∧ w.frozen? ⟨g, 8, none⟩ = false ∧ w.frozen? ⟨g, 9, none⟩ = false :=
  ⟨h.frozen 0, h.frozen 1, h.frozen 2, h.frozen 3, h.frozen 4, h.frozen 5, h.frozen 6, h.frozen 7, h.frozen 8, h.frozen 9⟩
def ten (w : World) (g : Nat) (v0 v1 v2 v3 v4 v5 v6 v7 v8 v9 : Value) : World := (((((((((w.setCell ⟨g, 0, none⟩ v0).setCell ⟨g, 1, none⟩ v1).setCell ⟨g, 2, none⟩ v2).setCell ⟨g, 3, none⟩ v3).setCell ⟨g, 4, none⟩ v4).setCell ⟨g, 5, none⟩ v5).setCell ⟨g, 6, none⟩ v6).setCell ⟨g, 7, none⟩ v7).setCell ⟨g, 8, none⟩ v8).setCell ⟨g, 9, none⟩ v9
theorem ten_grow (w : World) (g : Nat) (v0 v1 v2 v3 v4 v5 v6 v7 v8 v9 : Value) : w.grownBy (ten w g v0 v1 v2 v3 v4 v5 v6 v7 v8 v9) (some g) := by
  unfold ten
  exact grow_trans (grow_trans (grow_trans (grow_trans (grow_trans (grow_trans (grow_trans (grow_trans (grow_trans (grow_set _ g 0 v0) (grow_set _ g 1 v1)) (grow_set _ g 2 v2)) (grow_set _ g 3 v3)) (grow_set _ g 4 v4)) (grow_set _ g 5 v5)) (grow_set _ g 6 v6)) (grow_set _ g 7 v7)) (grow_set _ g 8 v8)) (grow_set _ g 9 v9)
theorem ten_blk {w : World} {g : Nat} {t : TypeId} {u0 u1 u2 u3 u4 u5 u6 u7 u8 u9 : Value} (h : Blk w g t #[u0, u1, u2, u3, u4, u5, u6, u7, u8, u9]) (v0 v1 v2 v3 v4 v5 v6 v7 v8 v9 : Value) : Blk (ten w g v0 v1 v2 v3 v4 v5 v6 v7 v8 v9) g t #[v0, v1, v2, v3, v4, v5, v6, v7, v8, v9] := by
  unfold ten
  have h0 : Blk _ g t #[v0, u1, u2, u3, u4, u5, u6, u7, u8, u9] := h.set_ 0 v0
  have h1 : Blk _ g t #[v0, v1, u2, u3, u4, u5, u6, u7, u8, u9] := h0.set_ 1 v1
  have h2 : Blk _ g t #[v0, v1, v2, u3, u4, u5, u6, u7, u8, u9] := h1.set_ 2 v2
  have h3 : Blk _ g t #[v0, v1, v2, v3, u4, u5, u6, u7, u8, u9] := h2.set_ 3 v3
  have h4 : Blk _ g t #[v0, v1, v2, v3, v4, u5, u6, u7, u8, u9] := h3.set_ 4 v4
  have h5 : Blk _ g t #[v0, v1, v2, v3, v4, v5, u6, u7, u8, u9] := h4.set_ 5 v5
  have h6 : Blk _ g t #[v0, v1, v2, v3, v4, v5, v6, u7, u8, u9] := h5.set_ 6 v6
  have h7 : Blk _ g t #[v0, v1, v2, v3, v4, v5, v6, v7, u8, u9] := h6.set_ 7 v7
  have h8 : Blk _ g t #[v0, v1, v2, v3, v4, v5, v6, v7, v8, u9] := h7.set_ 8 v8
  have h9 : Blk _ g t #[v0, v1, v2, v3, v4, v5, v6, v7, v8, v9] := h8.set_ 9 v9
  exact h9
theorem gives_mach {tmps : Array Value} {w : World} {p : Tmp} {g : Nat} {t : TypeId} {v0 v1 v2 v3 v4 v5 v6 v7 v8 v9 : Value} (hp : tmps.getD p undef = .pointer (some ⟨g, 0, none⟩)) (hg : Blk w g t #[v0, v1, v2, v3, v4, v5, v6, v7, v8, v9]) : Gives Try.prog tmps w (.cell p 51) (.agg #[v0, v1, v2, v3, v4, v5, v6, v7, v8, v9]) :=
  Gives.row hp hg Try.underlying51 rfl (by kernel_rfl)

theorem setOf_x (A : Option Addr) (cap : Nat) (xs : List Int) (w : World) (hx : Ints w w.heap.size A xs) (hin : ∀ x ∈ xs, 0 ≤ x ∧ x < 4) :
    Calls Try.prog 47 #[.slice A xs.length cap] w fun e w' => e = .returned (.agg #[.bool (hasB xs 0), .bool (hasB xs 1), .bool (hasB xs 2), .bool (hasB xs 3)]) ∧ Hid (Below w.heap.size w w') := setOf_any A cap xs w hx hin
theorem blk_gr {w w' : World} {g j : Nat} {t : TypeId} {cs : Array Value} (h : Blk w j t cs) (hg : w.grownBy w' (some g)) (hne : ¬ j = g) : Blk w' j t cs :=
  (hg.block j h.lt (fun e => hne (by cases e; rfl))).trans h
end Go.Proofs.Ytlfffoglldobeaa
