/- Plain mathematics of costs: sums and least ones of lists of numbers, each with a limit; no condition. A slice of integers that came in, as my contracts take it. -/
import Derived.WalkKit
import Derived.Lib.Hide
import Derived.Deep.Quiet
import Derived.ProofKit
import Derived.OpenShut
namespace Go.Proofs.YtfdbbopanankgaaDoor
open Go.RowKit

def vld (c : Int) : Bool := decide (0 ≤ c ∧ c ≤ 1000000)
theorem vld_t {c : Int} (h : vld c = true) : 0 ≤ c ∧ c ≤ 1000000 := by simpa [vld] using h
theorem vld_f {c : Int} (h : vld c = false) : c < 0 ∨ 1000000 < c := by
  simp [vld] at h; omega
theorem vld_yes {c : Int} (h : 0 ≤ c ∧ c ≤ 1000000) : vld c = true := by simpa [vld] using h
theorem vld_no {c : Int} (h : c < 0 ∨ 1000000 < c) : vld c = false := by simp [vld]; omega
theorem vld_cases (c : Int) : vld c = true ∨ vld c = false := by cases vld c <;> simp

def sumF : Int → List Int → Int
  | acc, [] => acc
  | acc, z :: zs => if vld z = true then sumF (min (acc + z) 1000000) zs else -1
def leastF : Int → List Int → Int
  | acc, [] => acc
  | acc, z :: zs => if vld z = true then leastF (min acc z) zs else -1
def allV (zs : List Int) : Bool := zs.all vld
def sumS : Int → List Int → Int
  | acc, [] => acc
  | acc, z :: zs => sumS (min (acc + z) 1000000) zs
def leastS : Int → List Int → Int
  | acc, [] => acc
  | acc, z :: zs => leastS (min acc z) zs

theorem allV_nil : allV [] = true := rfl
theorem allV_t {z : Int} {zs : List Int} (h : vld z = true) : allV (z :: zs) = allV zs := by simp [allV, h]
theorem allV_f {z : Int} {zs : List Int} (h : vld z = false) : allV (z :: zs) = false := by simp [allV, h]
theorem sumF_t {acc z : Int} {zs : List Int} (h : vld z = true) : sumF acc (z :: zs) = sumF (min (acc + z) 1000000) zs := by simp [sumF, h]
theorem sumF_f {acc z : Int} {zs : List Int} (h : vld z = false) : sumF acc (z :: zs) = -1 := by simp [sumF, h]
theorem leastF_t {acc z : Int} {zs : List Int} (h : vld z = true) : leastF acc (z :: zs) = leastF (min acc z) zs := by simp [leastF, h]
theorem leastF_f {acc z : Int} {zs : List Int} (h : vld z = false) : leastF acc (z :: zs) = -1 := by simp [leastF, h]
theorem sumF_eq (zs : List Int) : ∀ acc, sumF acc zs = if allV zs = true then sumS acc zs else -1 := by
  induction zs with
  | nil => intro acc; simp [sumF, sumS, allV]
  | cons z zs ih =>
    intro acc
    rcases vld_cases z with h | h
    · rw [sumF_t h, allV_t h, ih]; rfl
    · rw [sumF_f h, allV_f h]; simp
theorem leastF_eq (zs : List Int) : ∀ acc, leastF acc zs = if allV zs = true then leastS acc zs else -1 := by
  induction zs with
  | nil => intro acc; simp [leastF, leastS, allV]
  | cons z zs ih =>
    intro acc
    rcases vld_cases z with h | h
    · rw [leastF_t h, allV_t h, ih]; rfl
    · rw [leastF_f h, allV_f h]; simp

/-- Two costs. -/
theorem sumF_two {a b : Int} (ha : vld a = true) (hb : vld b = true) : sumF 0 [a, b] = min (a + b) 1000000 := by
  rw [sumF_t ha, sumF_t hb]; have := vld_t ha; simp only [sumF]; omega
theorem sumF_two_f {a b : Int} (h : allV [a, b] = false) : sumF 0 [a, b] = -1 := by rw [sumF_eq, h]; simp
theorem leastF_two {a b : Int} (ha : vld a = true) (hb : vld b = true) : leastF 1000000 [a, b] = min a b := by
  rw [leastF_t ha, leastF_t hb]; have := vld_t ha; have := vld_t hb; simp only [leastF]; omega
theorem leastF_two_f {a b : Int} (h : allV [a, b] = false) : leastF 1000000 [a, b] = -1 := by rw [leastF_eq, h]; simp
theorem allV_two {a b : Int} (h : allV [a, b] = true) : vld a = true ∧ vld b = true := by simpa [allV] using h

/-- So many times a cost. -/
def timesF (n a : Int) : Int := if n < 0 ∨ vld a = false then -1 else if a = 0 then 0 else if 1000000 / a < n then 1000000 else n * a

/-- What a slice of integers of one kind reads as: its block lies below B, cell after cell the numbers zs, each fitting its kind. -/
def IRow (kd : IntKind) (w : World) (B : Nat) (A : Option Addr) (zs : List Int) : Prop :=
  zs.length ≤ maxLen ∧ (0 < zs.length → ∃ b off, A = some ⟨b, off, none⟩ ∧ b < B ∧ ∀ k, k < zs.length → w.cell? ⟨b, off + k, none⟩ = some (.int kd (zs.getD k 0)))
abbrev Ints := IRow .i64
section
variable {kd : IntKind} {w w' : World} {B B' : Nat} {A : Option Addr} {zs : List Int}
theorem IRow.len (h : IRow kd w B A zs) : zs.length ≤ 9223372036854775807 := by have := h.1; unfold maxLen at this; exact this
theorem IRow.at_ (h : IRow kd w B A zs) {k : Nat} (hk : k < zs.length) :
    ∃ b off z, A = some ⟨b, off, none⟩ ∧ b < B ∧ w.cell? ⟨b, off + k, none⟩ = some (.int kd z) ∧ zs.drop k = z :: zs.drop (k + 1) ∧ zs.getD k 0 = z := by
  obtain ⟨b, off, e, hb, hc⟩ := h.2 (by omega)
  refine ⟨b, off, zs.getD k 0, e, hb, hc k hk, ?_, rfl⟩
  rw [List.drop_eq_getElem_cons hk, List.getD_eq_getElem?_getD, List.getElem?_eq_getElem hk]; rfl
theorem IRow.keep (h : IRow kd w B A zs) (hk : ∀ p : Addr, p.block < B → w'.cell? p = w.cell? p) : IRow kd w' B A zs :=
  ⟨h.1, fun hn => by
    obtain ⟨b, off, e, hb, hc⟩ := h.2 hn
    exact ⟨b, off, e, hb, fun k hk' => (hk ⟨b, off + k, none⟩ hb).trans (hc k hk')⟩⟩
theorem IRow.more (h : IRow kd w B A zs) (hB : B ≤ B') : IRow kd w B' A zs :=
  ⟨h.1, fun hn => by
    obtain ⟨b, off, e, hb, hc⟩ := h.2 hn
    exact ⟨b, off, e, by omega, hc⟩⟩
theorem IRow.below (h : IRow kd w B A zs) (hb : Below B w w') : IRow kd w' B A zs := h.keep fun _ hp => hb.cell hp
theorem IRow.drew (h : IRow kd w B A zs) : IRow kd w.drew B A zs := h
theorem IRow.drewN (h : IRow kd w B A zs) (k : Nat) : IRow kd (w.drewN k) B A zs := h
/-- Any part of it. -/
theorem IRow.take (h : IRow kd w B A zs) (n : Nat) : IRow kd w B A (zs.take n) :=
  ⟨by have := h.1; simp; omega, fun hn => by
    obtain ⟨b, off, e, hb, hc⟩ := h.2 (by simp at hn; omega)
    refine ⟨b, off, e, hb, fun k hk => ?_⟩
    simp at hk
    rw [hc k (by omega), List.getD_eq_getElem?_getD, List.getD_eq_getElem?_getD, List.getElem?_take_of_lt (by omega)]⟩
end
theorem ret_int {k : IntKind} {a b : Int} (h : a = b) : Ending.returned (.int k a) = .returned (.int k b) := by rw [h]
theorem ret_bool {a b : Bool} (h : a = b) : Ending.returned (.bool a) = .returned (.bool b) := by rw [h]

theorem grow_trans {r : Option Nat} {a b c : World} (h : a.grownBy b r) (k : b.grownBy c r) : a.grownBy c r :=
  ⟨k.os.trans h.os, k.tape.trans h.tape, k.output.trans h.output, Nat.le_trans h.size k.size, fun i hi hr => (k.block i (Nat.lt_of_lt_of_le hi h.size) hr).trans (h.block i hi hr)⟩

theorem grow_below {g B : Nat} {w w' : World} (h : w.grownBy w' (some g)) (hB : B ≤ g) (hs : B ≤ w.heap.size) : Below B w w' := (Below.refl _ _).grown h hs (fun k hk => by cases hk; exact hB)

end Go.Proofs.YtfdbbopanankgaaDoor
namespace Go.Proofs.YtfdbbopanankgaaDoor
open Go.ChangeShapes Go.WideShapes Go.ChangeAt Go.RowKit

theorem lt_of_cell? {w : World} {a : Addr} {v : Value} (h : w.cell? a = some v) : a.block < w.heap.size := by
  unfold World.cell? at h
  rcases Nat.lt_or_ge a.block w.heap.size with h' | h'
  · exact h'
  · rw [Array.getElem?_eq_none h'] at h
    cases h

theorem irow_of_trod {H : Type} {enc : TypeId × Value → H} {P : Program} {w : World} {held : Bool} {t e : TypeId} {k : IntKind} {fuel : Nat} {A : Option Addr} {len cap : Nat} {cs : List Value} {x : DataW H × List MemPlace}
    (ht : P.underlying t = some (.slice e)) (he : P.underlying e = some (.int k)) (hc : P.cellsOf e = 1)
    (h : DataW.trod enc P w 0 (fun _ => true) held fuel t cs = some x) (hcs : cs = [.slice A len cap]) :
    ∃ zs : List Int, len = zs.length ∧ zs.length ≤ cap ∧ IRow k w w.heap.size A zs ∧ ∀ z ∈ zs, (Lit.int k z).wf = true := by
  rcases open_ints ht he hc h with ⟨h1, _⟩ | ⟨a, l, c, zs, h1, _, hl, hm, hz, hx, hcell, hwz⟩
  · rw [hcs] at h1
    simp at h1
    obtain ⟨rfl, rfl, rfl⟩ := h1
    exact ⟨[], rfl, Nat.zero_le _, ⟨Nat.zero_le _, fun h0 => absurd h0 (by simp)⟩, fun z hz => by cases hz⟩
  · rw [hcs] at h1
    simp at h1
    obtain ⟨rfl, rfl, rfl⟩ := h1
    simp at hz
    refine ⟨zs.take len, by simp; omega, by simp; omega, ⟨by simp; omega, fun h0 => ?_⟩, fun z hz => hwz z (List.mem_of_mem_take hz)⟩
    simp at h0
    obtain ⟨b, off, spot⟩ := a
    have hc0 := hcell 0 (by omega)
    have hspot : spot = none := by simpa [Addr.add] using World.cell?_spot hc0
    subst hspot
    refine ⟨b, off, rfl, ?_, fun i hi => ?_⟩
    · have h0c : w.cell? ⟨b, off, none⟩ = some (.int k (zs.getD 0 0)) := by simpa [Addr.add] using hc0
      exact lt_of_cell? h0c
    · simp at hi
      have := hcell i (by omega)
      have e2 : (⟨b, off, none⟩ : Addr).add i = ⟨b, off + i, none⟩ := by
        unfold Addr.add
        by_cases h : i = 0 <;> simp [h]
      rw [e2] at this
      rw [this, List.getD_eq_getElem?_getD, List.getD_eq_getElem?_getD, List.getElem?_take_of_lt (by omega)]

end Go.Proofs.YtfdbbopanankgaaDoor
