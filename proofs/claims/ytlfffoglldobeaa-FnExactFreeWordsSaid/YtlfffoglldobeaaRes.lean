/- What a call returns, read off its frame: results that are structs lie in blocks of the call's own. No condition. -/
import Derived.Test.YtlfffoglldobeaaDrawKit
namespace Go.Proofs.Ytlfffoglldobeaa
open Go.RowKit

/-- A result's place gives the value v. -/
inductive Gives (P : Program) (tmps : Array Value) (w : World) : ResultVar → Value → Prop
  | tmp {t : Tmp} {v : Value} (h : tmps[t]?.getD undef = v) : Gives P tmps w (.tmp t) v
  | cell {p : Tmp} {ty : TypeId} {a : Addr} {v : Value} (hp : tmps[p]?.getD undef = .pointer (some a)) (hl : (loadVar ty a).run P w = .ok v w) : Gives P tmps w (.cell p ty) v
section
variable {P : Program} {tmps : Array Value} {w : World} {fn : Func}
theorem Gives.row {p : Tmp} {ty : TypeId} {g : Nat} {t : TypeId} {cs : Array Value} {d : TypeDesc} (hp : tmps.getD p undef = .pointer (some ⟨g, 0, none⟩)) (hg : Blk w g t cs) (hu : P.underlying ty = some d)
    (hd : (match d with | .struct _ | .array _ _ => true | _ => false) = true) (hi : (P.info? ty).map (·.size) = some cs.size) : Gives P tmps w (.cell p ty) (.agg cs) :=
  .cell (by simpa using hp) (run_loadVar_row w g t ty cs (0, 0) d hg hu hd hi)
theorem results_1 {a : ResultVar} {v : Value} (h : fn.results = #[a]) (ha : Gives P tmps w a v) : (results fn tmps).run P w = .ok v w := by
  cases ha with
  | tmp h0 => simp [results, h, h0]
  | cell p0 l0 => simp [results, h, p0, asAddr, l0]
theorem results_2 {a b : ResultVar} {v u : Value} (h : fn.results = #[a, b]) (ha : Gives P tmps w a v) (hb : Gives P tmps w b u) : (results fn tmps).run P w = .ok (.tuple #[v, u]) w := by
  cases ha with
  | tmp h0 =>
    cases hb with
    | tmp h1 => simp [results, h, h0, h1]
    | cell p1 l1 => simp [results, h, h0, p1, asAddr, l1]
  | cell p0 l0 =>
    cases hb with
    | tmp h1 => simp [results, h, p0, asAddr, l0, h1]
    | cell p1 l1 => simp [results, h, p0, asAddr, l0, p1, l1]
theorem results_3 {a b c : ResultVar} {v u t : Value} (h : fn.results = #[a, b, c]) (ha : Gives P tmps w a v) (hb : Gives P tmps w b u) (hc : Gives P tmps w c t) : (results fn tmps).run P w = .ok (.tuple #[v, u, t]) w := by
  cases ha with
  | tmp h0 =>
    cases hb with
    | tmp h1 =>
      cases hc with
      | tmp h2 => simp [results, h, h0, h1, h2]
      | cell p2 l2 => simp [results, h, h0, h1, p2, asAddr, l2]
    | cell p1 l1 =>
      cases hc with
      | tmp h2 => simp [results, h, h0, p1, asAddr, l1, h2]
      | cell p2 l2 => simp [results, h, h0, p1, asAddr, l1, p2, l2]
  | cell p0 l0 =>
    cases hb with
    | tmp h1 =>
      cases hc with
      | tmp h2 => simp [results, h, p0, asAddr, l0, h1, h2]
      | cell p2 l2 => simp [results, h, p0, asAddr, l0, h1, p2, l2]
    | cell p1 l1 =>
      cases hc with
      | tmp h2 => simp [results, h, p0, asAddr, l0, p1, l1, h2]
      | cell p2 l2 => simp [results, h, p0, asAddr, l0, p1, l1, p2, l2]
end
theorem gives_mat {tmps : Array Value} {w : World} {p : Tmp} {g : Nat} {t : TypeId} {x y : Value} (hp : tmps.getD p undef = .pointer (some ⟨g, 0, none⟩)) (hg : Blk w g t #[x, y]) : Gives Try.prog tmps w (.cell p 72) (.agg #[x, y]) :=
  Gives.row hp hg Try.underlying72 rfl (by kernel_rfl)
theorem two_cells {w : World} {g : Nat} {t : TypeId} {u0 u1 : Value} (h : Blk w g t #[u0, u1]) : w.cell? ⟨g, 0, none⟩ = some u0 ∧ w.cell? ⟨g, 1, none⟩ = some u1 := ⟨h.cell 0, h.cell 1⟩
theorem two_frozen {w : World} {g : Nat} {t : TypeId} {cs : Array Value} (h : Blk w g t cs) : w.frozen? ⟨g, 0, none⟩ = false ∧ w.frozen? ⟨g, 1, none⟩ = false := ⟨h.frozen 0, h.frozen 1⟩
theorem cells_below {w w' : World} {g : Nat} {t : TypeId} {u0 u1 : Value} (h : Blk w g t #[u0, u1]) (hb : Below w.heap.size w w') : w'.cell? ⟨g, 0, none⟩ = some u0 ∧ w'.cell? ⟨g, 1, none⟩ = some u1 := two_cells (h.below hb (Blk.lt h))
end Go.Proofs.Ytlfffoglldobeaa
