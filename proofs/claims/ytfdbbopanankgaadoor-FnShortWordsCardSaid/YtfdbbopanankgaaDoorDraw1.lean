/- The opening of a reader, a number of a list, a cost: each drawn number fits its kind; the reader goes on; nothing that was there changes. Condition: at most 10^12 draws. -/
import Derived.Test.YtfdbbopanankgaaDoorDrawKit
namespace Go.Proofs.YtfdbbopanankgaaDoor
open Go.RowKit
set_option maxHeartbeats 1000000
set_option linter.unusedVariables false

theorem Off.grown {g : Nat} {w w' : World} (h : Off g w w') : w.grownBy w' (some g) :=
  ⟨h.os, h.tape, h.output, by rw [h.size]; exact Nat.le_refl _, fun k hk hr => h.block k (fun e => hr (by rw [e]))⟩
theorem Rd.alloc {w : World} {B g : Nat} {A : Option Addr} {cap : Nat} {zs : List Int} {p : Nat} (h : Rd w B g A cap zs p) (o : Obj) : Rd (w.alloc o) B g A cap zs p :=
  ⟨h.blk.alloc o, h.row.below ((Below.refl _ _).alloc (by have := h.far; have := h.blk.lt; omega) o), h.far, h.few, h.byte, h.pos⟩
theorem Rd.lt {w : World} {B g : Nat} {A : Option Addr} {cap : Nat} {zs : List Int} {p : Nat} (h : Rd w B g A cap zs p) : g < w.heap.size := h.blk.lt

/-- What the opening leaves. -/
def Opened (w : World) (e : Ending) (w' : World) : Prop :=
  ∃ A cap zs, e = .returned (.pointer (some ⟨w.heap.size, 0, none⟩)) ∧ Rd w' w.heap.size w.heap.size A cap zs 0 ∧ Below w.heap.size w w'

theorem open_any (A : Option Addr) (cap : Nat) (zs : List Int) (w : World) (hz : IRow .u8 w w.heap.size A zs) (hc : zs.length ≤ cap) (hb : ∀ z ∈ zs, 0 ≤ z ∧ z ≤ 255) :
    Calls Tryd.prog 12 #[.slice A zs.length cap] w fun e w' => Opened w e w' := by
  have hl := hz.len
  have HB := Lib.hid hb
  clear hb
  by_cases hs : 2000 < zs.length
  · have hs' : (2000 : Int) < (zs.length : Int) := by omega
    obtain ⟨L, hL⟩ : ∃ L, L = zs.length := ⟨_, rfl⟩
    have HL := Lib.hid hL
    rw [← hL] at hs' hs hl hc
    rw [← hL]
    clear hL
    go_enter Tryd.func12, Tryd.ntmps12
    go_wp2
    go_ret
    refine ⟨A, cap, zs.take 2000, rfl, ⟨?_, ?_, Nat.le_refl _, by simp; omega, fun z hz' => HB.out z (List.mem_of_mem_take hz'), by omega⟩, (Below.refl _ _).alloc (Nat.le_refl _) _⟩
    · have e : (zs.take 2000).length = 2000 := by rw [List.length_take, ← HL.out]; omega
      rw [e]
      exact Blk.new _ _ _
    · exact (hz.take 2000).below ((Below.refl _ _).alloc (Nat.le_refl _) _)
  · have hs' : ¬ (2000 : Int) < (zs.length : Int) := by omega
    go_enter Tryd.func12, Tryd.ntmps12
    go_wp2
    go_ret
    exact ⟨A, cap, zs, rfl, ⟨Blk.new _ _ _, hz.below ((Below.refl _ _).alloc (Nat.le_refl _) _), Nat.le_refl _, by omega, HB.out, by omega⟩, (Below.refl _ _).alloc (Nat.le_refl _) _⟩

/-- What a drawing function leaves that returns a number: P of it; the reader at most K steps on; nothing else has turned. -/
def DrawnN (B g : Nat) (A : Option Addr) (cap : Nat) (zs : List Int) (p K : Nat) (P : Int → Prop) (w : World) (e : Ending) (w' : World) : Prop :=
  ∃ (v : Int) (q : Nat), e = .returned (.int .i64 v) ∧ P v ∧ q ≤ p + K ∧ Rd w' B g A cap zs q ∧ w.grownBy w' (some g)

theorem num_of (w : World) (B g l : Nat) (A : Option Addr) (cap : Nat) (zs : List Int) (p n : Nat) (vs : List Int) (h : Rd w B g A cap zs p) (hp : p + 1 ≤ 1000000000000) (hn : n = vs.length) (h1 : 1 ≤ n) (hN : n ≤ 1000) (hlg : ¬ l = g)
    (hrow : ∀ k, k < n → w.cell? ⟨l, k, none⟩ = some (.int .i64 (vs.getD k 0))) :
    Calls Tryd.prog 27 #[.pointer (some ⟨g, 0, none⟩), .slice (some ⟨l, 0, none⟩) n n] w fun e w' => DrawnN B g A cap zs p 1 (fun v => v ∈ vs) w e w' := by
  have HR := Lib.hid hrow
  have HN := Lib.hid hn
  clear hrow hn
  have hn' : (n : Int) ≤ 1000000000000 := by omega
  go_enter Tryd.func27, Tryd.ntmps27
  go_wp2_with fail
  refine (pick_any _ _ _ _ _ _ _ _ h hn').mono ?_
  rintro e w1 ⟨v, rfl, v0, v1, hoff, hrd⟩
  obtain ⟨k, rfl⟩ := Int.eq_ofNat_of_zero_le v0
  have hkn : k < n := by have := v1 (by omega); omega
  have hrd1 := hrd hp
  clear hrd v1
  have hl0 := HR.out 0 (by omega)
  have hcell : w1.cell? ⟨l, k, none⟩ = some (.int .i64 (vs.getD k 0)) := (World.cell?_of_block (hoff.block l hlg)).trans (HR.out k hkn)
  obtain ⟨x, hx⟩ : ∃ x, x = vs.getD k 0 := ⟨_, rfl⟩
  rw [← hx] at hcell
  have HX := Lib.hid hx
  clear hx hl0
  have HO := Lib.hid hoff
  have HD := Lib.hid hrd1
  clear hoff hrd1 v0
  go_wp2
  go_ret
  refine ⟨x, p + 1, rfl, ?_, Nat.le_refl _, HD.out, HO.out.grown⟩
  rw [HX.out, List.getD_eq_getElem?_getD, List.getElem?_eq_getElem (by rw [← HN.out]; exact hkn)]
  exact List.getElem_mem _

def fits (v : Int) : Prop := -9223372036854775808 ≤ v ∧ v ≤ 9223372036854775807
def Pfit (v : Int) : Prop := fits v

theorem Rd.grown {w w' : World} {B g : Nat} {A : Option Addr} {cap : Nat} {zs : List Int} {p : Nat} {row : Option Nat} (h : Rd w B g A cap zs p) (hg : w.grownBy w' row) (hr : ∀ k, row = some k → g < k) : Rd w' B g A cap zs p :=
  ⟨(hg.block g h.lt (fun e => by have := hr g e.symm; omega)).trans h.blk,
   h.row.below ((Below.refl _ _).grown hg (by have := h.far; have := h.lt; omega) (fun k hk => by have := hr k hk; have := h.far; omega)), h.far, h.few, h.byte, h.pos⟩
/-- A literal row's cells. -/
theorem row_lit (w : World) (vs : List Int) : ∀ k, k < vs.length → (w.alloc (.cells (vs.map (Value.int .i64)).toArray 3)).cell? ⟨w.heap.size, k, none⟩ = some (.int .i64 (vs.getD k 0)) := by
  intro k hk
  rw [(Blk.new w 3 _).cell k]
  rw [List.getElem?_toArray, List.getElem?_map, List.getElem?_eq_getElem hk, List.getD_eq_getElem?_getD, List.getElem?_eq_getElem hk]
  rfl

end Go.Proofs.YtfdbbopanankgaaDoor
