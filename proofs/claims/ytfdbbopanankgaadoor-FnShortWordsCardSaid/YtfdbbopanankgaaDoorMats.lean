/- What a call returns, read off its frame: results that are structs lie in blocks of the call's own. No condition. Contracts of what the laws do with matrices (their size in values, copies, comparisons, marks), and of what a valid matrix is, the program's and the model's: each returns the plain function of its arguments; nothing that was there changes but what is marked. Conditions: at most 2^20 numbers where they are copied. -/
import Derived.Test.YtfdbbopanankgaaDoorDrawKit
import Derived.Test.YtfdbbopanankgaaDoorOwn
import Derived.Test.YtfdbbopanankgaaDoorCostV
import Derived.Test.YtfdbbopanankgaaDoorMat
namespace Go.Proofs.YtfdbbopanankgaaDoor
open Go.RowKit

/-- A result's place gives the value v. -/
inductive Gives (P : Program) (tmps : Array Value) (w : World) : ResultVar → Value → Prop
  | tmp {t : Tmp} {v : Value} (h : tmps[t]?.getD undef = v) : Gives P tmps w (.tmp t) v
  | cell {p : Tmp} {ty : TypeId} {a : Addr} {v : Value} (hp : tmps[p]?.getD undef = .pointer (some a)) (hl : (loadVar ty a).run P w = .ok v w) : Gives P tmps w (.cell p ty) v
section
variable {P : Program} {tmps : Array Value} {w : World} {fn : Func}
theorem Gives.row {p : Tmp} {ty : TypeId} {g : Nat} {t : TypeId} {cs : Array Value} {d : TypeDesc} (hp : tmps.getD p undef = .pointer (some ⟨g, 0, none⟩)) (hg : Blk w g t cs) (hu : P.underlying ty = some d)
    (hd : (match d with | .struct _ | .array _ _ => true | _ => false) = true) (hi : (P.info? ty).map (·.size) = some cs.size) : Gives P tmps w (.cell p ty) (.agg cs) :=
  .cell (by simpa using hp) (run_loadVar_row w g t ty cs (0, 0) d hg hu hd hi)
theorem results_1 {a : ResultVar} {v : Value} (h : fn.results = #[a]) (ha : Gives P tmps w a v) : (results fn tmps).run P w = .ok v w := by
  cases ha with
  | tmp h0 => simp [results, h, h0]
  | cell p0 l0 => simp [results, h, p0, asAddr, l0]
theorem results_2 {a b : ResultVar} {v u : Value} (h : fn.results = #[a, b]) (ha : Gives P tmps w a v) (hb : Gives P tmps w b u) : (results fn tmps).run P w = .ok (.tuple #[v, u]) w := by
  cases ha with
  | tmp h0 =>
    cases hb with
    | tmp h1 => simp [results, h, h0, h1]
    | cell p1 l1 => simp [results, h, h0, p1, asAddr, l1]
  | cell p0 l0 =>
    cases hb with
    | tmp h1 => simp [results, h, p0, asAddr, l0, h1]
    | cell p1 l1 => simp [results, h, p0, asAddr, l0, p1, l1]
theorem results_3 {a b c : ResultVar} {v u t : Value} (h : fn.results = #[a, b, c]) (ha : Gives P tmps w a v) (hb : Gives P tmps w b u) (hc : Gives P tmps w c t) : (results fn tmps).run P w = .ok (.tuple #[v, u, t]) w := by
  cases ha with
  | tmp h0 =>
    cases hb with
    | tmp h1 =>
      cases hc with
      | tmp h2 => simp [results, h, h0, h1, h2]
      | cell p2 l2 => simp [results, h, h0, h1, p2, asAddr, l2]
    | cell p1 l1 =>
      cases hc with
      | tmp h2 => simp [results, h, h0, p1, asAddr, l1, h2]
      | cell p2 l2 => simp [results, h, h0, p1, asAddr, l1, p2, l2]
  | cell p0 l0 =>
    cases hb with
    | tmp h1 =>
      cases hc with
      | tmp h2 => simp [results, h, p0, asAddr, l0, h1, h2]
      | cell p2 l2 => simp [results, h, p0, asAddr, l0, h1, p2, l2]
    | cell p1 l1 =>
      cases hc with
      | tmp h2 => simp [results, h, p0, asAddr, l0, p1, l1, h2]
      | cell p2 l2 => simp [results, h, p0, asAddr, l0, p1, l1, p2, l2]
end
theorem gives_mat {tmps : Array Value} {w : World} {p : Tmp} {g : Nat} {t : TypeId} {x y : Value} (hp : tmps.getD p undef = .pointer (some ⟨g, 0, none⟩)) (hg : Blk w g t #[x, y]) : Gives Tryd.prog tmps w (.cell p 80) (.agg #[x, y]) :=
  Gives.row hp hg Tryd.underlying80 rfl (by kernel_rfl)
theorem two_cells {w : World} {g : Nat} {t : TypeId} {u0 u1 : Value} (h : Blk w g t #[u0, u1]) : w.cell? ⟨g, 0, none⟩ = some u0 ∧ w.cell? ⟨g, 1, none⟩ = some u1 := ⟨h.cell 0, h.cell 1⟩
theorem two_frozen {w : World} {g : Nat} {t : TypeId} {cs : Array Value} (h : Blk w g t cs) : w.frozen? ⟨g, 0, none⟩ = false ∧ w.frozen? ⟨g, 1, none⟩ = false := ⟨h.frozen 0, h.frozen 1⟩
theorem cells_below {w w' : World} {g : Nat} {t : TypeId} {u0 u1 : Value} (h : Blk w g t #[u0, u1]) (hb : Below w.heap.size w w') : w'.cell? ⟨g, 0, none⟩ = some u0 ∧ w'.cell? ⟨g, 1, none⟩ = some u1 := two_cells (h.below hb (Blk.lt h))
end Go.Proofs.YtfdbbopanankgaaDoor
namespace Go.Proofs.YtfdbbopanankgaaDoor
open Go.RowKit
set_option maxHeartbeats 1000000
set_option linter.unusedVariables false

/-- A matrix as a value: its size m, its numbers zs. -/
def MatIn (w : World) (v : Value) (m : Int) (zs : List Int) : Prop := ∃ A cap, v = .agg #[.int .i64 m, .slice A zs.length cap] ∧ zs.length ≤ cap ∧ Ints w w.heap.size A zs
theorem MatIn.below {w w' : World} {v : Value} {m : Int} {zs : List Int} (h : MatIn w v m zs) (hb : Below w.heap.size w w') : MatIn w' v m zs := by
  obtain ⟨A, cap, e, hc, hi⟩ := h
  exact ⟨A, cap, e, hc, (hi.below hb).more hb.size⟩
/-- .. in memory of the call's own. -/
def MatOwn (w : World) (base : Nat) (v : Value) (m : Int) (zs : List Int) : Prop := ∃ x, v = .agg #[.int .i64 m, x] ∧ w.ownsRow base 3 1 x zs.length (zs.map (Value.int .i64)) ∧ zs.length ≤ 1048577
theorem MatOwn.in_ {w : World} {base : Nat} {v : Value} {m : Int} {zs : List Int} (h : MatOwn w base v m zs) : MatIn w v m zs := by
  obtain ⟨x, e, ho, hl⟩ := h
  obtain ⟨A, cap, rfl, hc, hi⟩ := own_ints ho (by unfold maxLen; omega)
  exact ⟨A, cap, e, hc, hi⟩
theorem MatOwn.below {w w' : World} {base : Nat} {v : Value} {m : Int} {zs : List Int} (h : MatOwn w base v m zs) (hb : Below w.heap.size w w') : MatOwn w' base v m zs := by
  obtain ⟨x, e, ho, hl⟩ := h
  exact ⟨x, e, own_under ho hb, hl⟩
theorem below_al {B : Nat} {w w' : World} (h : Below B w w') (hB : B ≤ w.heap.size) (o : Obj) : Below B w (w'.alloc o) := h.alloc (Nat.le_trans hB h.size) o
theorem ints_al {w : World} {A : Option Addr} {zs : List Int} (h : Ints w w.heap.size A zs) (o : Obj) : Ints (w.alloc o) (w.alloc o).heap.size A zs :=
  (h.below ((Below.refl _ _).alloc (Nat.le_refl _) o)).more (by simp)
theorem below_on {w0 w w' : World} (h : Below w0.heap.size w0 w) (h' : Below w.heap.size w w') : Below w0.heap.size w0 w' := h.trans (h'.mono h.size)
theorem below_a1 (w : World) (o : Obj) : Below w.heap.size w (w.alloc o) := (Below.refl _ _).alloc (Nat.le_refl _) o
theorem below_a2 (w : World) (o o' : Obj) : Below w.heap.size w ((w.alloc o).alloc o') := below_al (below_a1 w o) (Nat.le_refl _) o'
theorem below_a3 (w : World) (o o' o'' : Obj) : Below w.heap.size w (((w.alloc o).alloc o').alloc o'') := below_al (below_a2 w o o') (Nat.le_refl _) o''

theorem blk_b {w w' : World} {g : Nat} {t : TypeId} {cs : Array Value} (h : Blk w g t cs) (hb : Below w.heap.size w w') : Blk w' g t cs := h.below hb (Blk.lt h)

theorem blk_new {w : World} {g : Nat} {t : TypeId} {cs : Array Value} (h : g = w.heap.size) : Blk (w.alloc (.cells cs t)) g t cs := by subst h; exact Blk.new _ _ _
theorem ints_set {w : World} {B g : Nat} {zs : List Int} (h : Ints w B (some ⟨g, 0, none⟩) zs) (k i : Nat) (v : Value) (hne : ¬ k = g) : Ints (w.setCell ⟨k, i, none⟩ v) B (some ⟨g, 0, none⟩) zs :=
  ⟨h.1, fun hn => by
    obtain ⟨b, off, e, hb, hc⟩ := h.2 hn
    cases e
    exact ⟨_, _, rfl, hb, fun j hj => (World.cell?_of_block (Below.heap_setCell w ⟨k, i, none⟩ v g (fun e => hne e.symm))).trans (hc j hj)⟩⟩
theorem Blk.other {w : World} {g : Nat} {t : TypeId} {cs : Array Value} (h : Blk w g t cs) (k i : Nat) (v : Value) (hk : ¬ k = g) : Blk (w.setCell ⟨k, i, none⟩ v) g t cs :=
  (Below.heap_setCell w ⟨k, i, none⟩ v g (fun e => hk e.symm)).trans h
theorem grow_set (w : World) (g i : Nat) (v : Value) : w.grownBy (w.setCell ⟨g, i, none⟩ v) (some g) :=
  ⟨rfl, rfl, rfl, by simp [World.setCell], fun k hk hr => Below.heap_setCell w ⟨g, i, none⟩ v k (fun e => hr (by rw [e]))⟩
theorem copied_own {w w' : World} {zs : List Int} {e : Ending} (h : Copied w zs e w') : ∃ g, e = .returned (.slice (some ⟨g, 0, none⟩) zs.length zs.length) ∧ Below w.heap.size w w' ∧ w.heap.size ≤ g ∧ Ints w' w'.heap.size (some ⟨g, 0, none⟩) zs := h

theorem sizeValid_t (m : Int) (w : World) (m1 : 1 ≤ m) (m2 : m ≤ 4) :
    Calls Tryd.prog 57 #[.int .i64 m] w fun e w' => e = .returned (.bool true) ∧ w = w' := by
  go_enter Tryd.func57, Tryd.ntmps57
  go_wp2
  go_ret
  exact ⟨rfl, rfl⟩
theorem sizeValid_f (m : Int) (w : World) (h : ¬ (1 ≤ m ∧ m ≤ 4)) :
    Calls Tryd.prog 57 #[.int .i64 m] w fun e w' => e = .returned (.bool false) ∧ w = w' := by
  by_cases h1 : 1 ≤ m
  · have h2 : ¬ m ≤ 4 := fun h2 => h ⟨h1, h2⟩
    clear h
    go_enter Tryd.func57, Tryd.ntmps57
    go_wp2
    go_ret
    exact ⟨rfl, rfl⟩
  · clear h
    go_enter Tryd.func57, Tryd.ntmps57
    go_wp2
    go_ret
    exact ⟨rfl, rfl⟩

end Go.Proofs.YtfdbbopanankgaaDoor
