/- Words for the reader of drawn inputs: its block, its bytes, what a pick leaves. No condition. The draw of a number below n: whatever the reader holds, the number lies from 0 below n (0 for n below 1), and the reader goes a step on. Condition: at most 10^12 draws, n at most 10^12. -/
import Derived.Test.YtfdbbopanankgaaDoorRows
import Derived.Test.YtfdbbopanankgaaDoorPlain
import Derived.WalkKit
import Derived.Lib.Hide
import Derived.Handy
import Derived.RegionTactic
import Derived.BigQuiet
import Derived.IntWalk
namespace Go.Proofs.YtfdbbopanankgaaDoor
open Go.RowKit

/-- A block known whole. -/
def Blk (w : World) (g : Nat) (t : TypeId) (cs : Array Value) : Prop := w.heap[g]? = some (.cells cs t (0, 0))
section
variable {w w' : World} {g : Nat} {t : TypeId} {cs : Array Value}
theorem Blk.lt (h : Blk w g t cs) : g < w.heap.size := by
  rcases Nat.lt_or_ge g w.heap.size with hlt | hge
  · exact hlt
  · unfold Blk at h; rw [Array.getElem?_eq_none hge] at h; cases h
theorem Blk.cell (h : Blk w g t cs) (i : Nat) : w.cell? ⟨g, i, none⟩ = cs[i]? := cell_of_row w g i cs t (0, 0) h
theorem Blk.frozen (h : Blk w g t cs) (i : Nat) : w.frozen? ⟨g, i, none⟩ = false := by
  unfold Blk at h
  simp [World.frozen?, h]
theorem Blk.new (w : World) (t : TypeId) (cs : Array Value) : Blk (w.alloc (.cells cs t)) w.heap.size t cs := heap_alloc_new w _
theorem Blk.drewN (h : Blk w g t cs) (n : Nat) : Blk (w.drewN n) g t cs := h
theorem Blk.alloc (h : Blk w g t cs) (o : Obj) : Blk (w.alloc o) g t cs := (Below.heap_alloc w o g h.lt).trans h
theorem Blk.set_ (h : Blk w g t cs) (i : Nat) (u : Value) : Blk (w.setCell ⟨g, i, none⟩ u) g t (cs.setIfInBounds i u) := by
  unfold Blk at h ⊢
  simp [World.setCell, Array.getElem?_modify, h]
theorem Blk.below {B : Nat} (h : Blk w g t cs) (hb : Below B w w') (hg : g < B) : Blk w' g t cs := (hb.block g hg).trans h
end

/-- The reader at block g: its bytes zs lie below B, p of them have been asked for. -/
structure Rd (w : World) (B g : Nat) (A : Option Addr) (cap : Nat) (zs : List Int) (p : Nat) : Prop where
  blk : Blk w g 60 #[.slice A zs.length cap, .int .i64 (p : Int)]
  row : IRow .u8 w B A zs
  far : B ≤ g
  few : zs.length ≤ 2000
  byte : ∀ z ∈ zs, 0 ≤ z ∧ z ≤ 255
  pos : p ≤ 1000000000000

/-- Nothing has turned but block g; no block is new. -/
structure Off (g : Nat) (w w' : World) : Prop where
  os : w'.os = w.os
  tape : w'.tape = w.tape
  output : w'.output = w.output
  size : w'.heap.size = w.heap.size
  block : ∀ k, k ≠ g → w'.heap[k]? = w.heap[k]?
theorem Off.below {g B : Nat} {w w' : World} (h : Off g w w') (hB : B ≤ g) : Below B w w' := ⟨h.os, h.tape, h.output, by rw [h.size]; exact Nat.le_refl _, fun k hk => h.block k (by omega)⟩
theorem Off.set_ (w : World) (g i m : Nat) (u : Value) : Off g w ((w.setCell ⟨g, i, none⟩ u).drewN m) :=
  ⟨rfl, rfl, rfl, by simp [World.setCell, World.drewN], fun k hk => Below.heap_setCell w ⟨g, i, none⟩ u k hk⟩
theorem Off.blk {g k : Nat} {w w' : World} {t : TypeId} {cs : Array Value} (h : Off g w w') (hb : Blk w k t cs) (hk : k ≠ g) : Blk w' k t cs := (h.block k hk).trans hb

/-- What a pick leaves: a number below n, the reader a step on. -/
def Picked (B g : Nat) (A : Option Addr) (cap : Nat) (zs : List Int) (p : Nat) (n : Int) (w : World) (e : Ending) (w' : World) : Prop :=
  ∃ v : Int, e = .returned (.int .i64 v) ∧ 0 ≤ v ∧ (1 ≤ n → v < n) ∧ Off g w w' ∧ (p + 1 ≤ 1000000000000 → Rd w' B g A cap zs (p + 1))

theorem Picked.mk_ {B g : Nat} {A : Option Addr} {cap : Nat} {zs : List Int} {p : Nat} {n : Int} {w : World} (h : Rd w B g A cap zs p) (v : Int) (m : Nat) (h0 : 0 ≤ v) (h1 : 1 ≤ n → v < n) :
    Picked B g A cap zs p n w (.returned (.int .i64 v)) ((w.setCell ⟨g, 1, none⟩ (.int .i64 ((p : Int) + 1))).drewN m) :=
  ⟨v, rfl, h0, h1, Off.set_ w g 1 m _, fun hp => ⟨by
    have := (h.blk.set_ 1 (.int .i64 ((p : Int) + 1))).drewN m
    simpa using this, (h.row.below ((Off.set_ w g 1 m _).below h.far)), h.far, h.few, h.byte, hp⟩⟩
theorem Picked.same {B g : Nat} {A : Option Addr} {cap : Nat} {zs : List Int} {p : Nat} {n : Int} {w : World} (h : Rd w B g A cap zs p) (v : Int) (h0 : 0 ≤ v) (h1 : 1 ≤ n → v < n) :
    Picked B g A cap zs p n w (.returned (.int .i64 v)) (w.setCell ⟨g, 1, none⟩ (.int .i64 ((p : Int) + 1))) := Picked.mk_ h v 0 h0 h1

end Go.Proofs.YtfdbbopanankgaaDoor
namespace Go.Proofs.YtfdbbopanankgaaDoor
open Go.RowKit
set_option maxHeartbeats 1000000
set_option maxRecDepth 100000
set_option linter.unusedVariables false

theorem wrap_i64_nat (a : Nat) (h : a < 9223372036854775808) : IntKind.i64.wrap (a : Int) = (a : Int) := IntWalk.i64_in _ (by omega)
theorem bits_xor_i64_nat (a b : Nat) (ha : a < 4611686018427387904) (hb : b < 4611686018427387904) :
    bits .xor .i64 (a : Int) (b : Int) = ((a ^^^ b : Nat) : Int) := by
  have hx : a ^^^ b < 2 ^ 62 := Nat.xor_lt_two_pow (by omega) (by omega)
  have h1 : (BitVec.ofInt 64 (a : Int)).toNat = a := by
    rw [BitVec.ofInt_natCast, BitVec.toNat_ofNat]; exact Nat.mod_eq_of_lt (by omega)
  have h2 : (BitVec.ofInt 64 (b : Int)).toNat = b := by
    rw [BitVec.ofInt_natCast, BitVec.toNat_ofNat]; exact Nat.mod_eq_of_lt (by omega)
  show IntKind.i64.wrap ((BitVec.ofInt 64 (a : Int) ^^^ BitVec.ofInt 64 (b : Int)).toNat : Int) = _
  rw [BitVec.toNat_xor, h1, h2]
  exact wrap_i64_nat _ (by omega)
theorem bits_xor_i64 (a b : Int) (h1 : 0 ≤ a) (h2 : a < 4611686018427387904) (h3 : 0 ≤ b) (h4 : b < 4611686018427387904) : bits .xor .i64 a b = ((a.toNat ^^^ b.toNat : Nat) : Int) := by
  obtain ⟨A, rfl⟩ := Int.eq_ofNat_of_zero_le h1
  obtain ⟨B, rfl⟩ := Int.eq_ofNat_of_zero_le h3
  simpa using bits_xor_i64_nat A B (by omega) (by omega)

theorem pick_far_core (w : World) (g b off cap L p r1 r2 q : Nat) (z1 z2 n : Int) (hn : 1 ≤ n) (hn' : n ≤ 1000000000000) (hk : ¬ (p : Int) < (L : Int)) (hL : ¬ L = 0) (hLb : ((L : Int) == 0) = false) (few : L ≤ 2000) (hp : p ≤ 1000000000000)
    (c0 : w.cell? ⟨g, 0, none⟩ = some (.slice (some ⟨b, off, none⟩) L cap)) (c1 : w.cell? ⟨g, 1, none⟩ = some (.int .i64 (p : Int))) (f1 : w.frozen? ⟨g, 1, none⟩ = false)
    (hc1 : w.cell? ⟨b, off + r1, none⟩ = some (.int .u8 z1)) (hc2 : w.cell? ⟨b, off + r2, none⟩ = some (.int .u8 z2)) (hbg : ¬ b = g) (hbg' : ¬ g = b)
    (h1 : Int.tmod (p : Int) (L : Int) = (r1 : Int)) (h2 : Int.tmod ((p : Int) * 7 + 3) (L : Int) = (r2 : Int)) (h3 : Int.tdiv (p : Int) (L : Int) = (q : Int)) (l1 : (r1 : Int) < (L : Int)) (l2 : (r2 : Int) < (L : Int)) (l3 : q ≤ p)
    (e1 : 0 ≤ z1) (e2 : z1 ≤ 255) (e3 : 0 ≤ z2) (e4 : z2 ≤ 255) :
    Calls Tryd.prog 40 #[.pointer (some ⟨g, 0, none⟩), .int .i64 n] w fun e w' => ∃ v m, e = .returned (.int .i64 v) ∧ 0 ≤ v ∧ v < n ∧ w' = (w.setCell ⟨g, 1, none⟩ (.int .i64 ((p : Int) + 1))).drewN m := by
  have H1 := Lib.hid h1
  have H2 := Lib.hid h2
  have H3 := Lib.hid h3
  clear h1 h2 h3
  go_enter Tryd.func40, Tryd.ntmps40
  go_wp2
  have a1 : IntKind.i64.wrap ((p : Int) * 7) = (p : Int) * 7 := IntWalk.i64_in _ (by omega)
  have a2 : IntKind.i64.wrap ((p : Int) * 7 + 3) = (p : Int) * 7 + 3 := IntWalk.i64_in _ (by omega)
  have a3 : IntKind.i64.wrap (z1 * 131) = z1 * 131 := IntWalk.i64_in _ (by omega)
  have a4 : IntKind.i64.wrap (z2 * 1117) = z2 * 1117 := IntWalk.i64_in _ (by omega)
  have a5 : IntKind.i64.wrap (z1 * 131 + z2 * 1117) = z1 * 131 + z2 * 1117 := IntWalk.i64_in _ (by omega)
  have a6 : IntKind.i64.wrap ((p : Int) * 29) = (p : Int) * 29 := IntWalk.i64_in _ (by omega)
  have a7 : IntKind.i64.wrap (z1 * 131 + z2 * 1117 + (p : Int) * 29) = z1 * 131 + z2 * 1117 + (p : Int) * 29 := IntWalk.i64_in _ (by omega)
  have a8 : IntKind.i64.wrap ((q : Int) * 53) = (q : Int) * 53 := IntWalk.i64_in _ (by omega)
  have a9 : IntKind.i64.wrap (z1 * 131 + z2 * 1117 + (p : Int) * 29 + (q : Int) * 53) = z1 * 131 + z2 * 1117 + (p : Int) * 29 + (q : Int) * 53 := IntWalk.i64_in _ (by omega)
  have d1 : IntKind.i64.wrap z1 = z1 := IntWalk.i64_in _ (by omega)
  have d2 : IntKind.i64.wrap z2 = z2 := IntWalk.i64_in _ (by omega)
  have d3 : IntKind.i64.wrap (q : Int) = (q : Int) := IntWalk.i64_in _ (by omega)
  have b1 := H1.out
  have b2 := H2.out
  have b3 := H3.out
  go_quiet (fail)
  clear a1 a2 a3 a4 a5 a6 a7 a8 a9 d1 d2 d3 b1 b2 b3
  have x0 : 0 ≤ z1 * 131 + z2 * 1117 + (p : Int) * 29 + (q : Int) * 53 := by omega
  have x1 : z1 * 131 + z2 * 1117 + (p : Int) * 29 + (q : Int) * 53 ≤ 1000000000000000 := by omega
  generalize z1 * 131 + z2 * 1117 + (p : Int) * 29 + (q : Int) * 53 = x at *
  have hb := bits_xor_i64 x (x / 64) x0 (by omega) (by omega) (by omega)
  go_wp2
  go_ret
  refine ⟨_, nq, rfl, ?_, ?_, rfl⟩
  · exact Int.emod_nonneg _ (by omega)
  · exact Int.emod_lt_of_pos _ (by omega)

theorem pick_near_core (w : World) (g b off cap L p : Nat) (z n : Int) (hn : 1 ≤ n) (hn' : n ≤ 1000000000000) (hk : (p : Int) < (L : Int)) (hL : ¬ L = 0) (hLb : ((L : Int) == 0) = false) (few : L ≤ 2000)
    (c0 : w.cell? ⟨g, 0, none⟩ = some (.slice (some ⟨b, off, none⟩) L cap)) (c1 : w.cell? ⟨g, 1, none⟩ = some (.int .i64 (p : Int))) (f1 : w.frozen? ⟨g, 1, none⟩ = false)
    (hc1 : w.cell? ⟨b, off + p, none⟩ = some (.int .u8 z)) (hbg : ¬ b = g) (hbg' : ¬ g = b) (e1 : 0 ≤ z) (e2 : z ≤ 255) :
    Calls Tryd.prog 40 #[.pointer (some ⟨g, 0, none⟩), .int .i64 n] w fun e w' => ∃ v, e = .returned (.int .i64 v) ∧ 0 ≤ v ∧ v < n ∧ w' = w.setCell ⟨g, 1, none⟩ (.int .i64 ((p : Int) + 1)) := by
  go_enter Tryd.func40, Tryd.ntmps40
  go_wp2
  go_ret
  refine ⟨_, rfl, ?_, ?_, rfl⟩
  · first | exact Int.tmod_nonneg _ (by omega) | exact Int.emod_nonneg _ (by omega)
  · first | exact Int.tmod_lt_of_pos _ (by omega) | exact Int.emod_lt_of_pos _ (by omega)

theorem pick_low_core (w : World) (g p : Nat) (n : Int) (v0 : Value) (hn : n < 1) (hp : p ≤ 1000000000000)
    (c1 : w.cell? ⟨g, 1, none⟩ = some (.int .i64 (p : Int))) (f1 : w.frozen? ⟨g, 1, none⟩ = false) :
    Calls Tryd.prog 40 #[.pointer (some ⟨g, 0, none⟩), .int .i64 n] w fun e w' => e = .returned (.int .i64 0) ∧ w' = w.setCell ⟨g, 1, none⟩ (.int .i64 ((p : Int) + 1)) := by
  go_enter Tryd.func40, Tryd.ntmps40
  go_wp2
  go_ret
  exact ⟨rfl, rfl⟩
theorem pick_none_core (w : World) (g p cap : Nat) (A : Option Addr) (n : Int) (hn : 1 ≤ n) (hp : p ≤ 1000000000000)
    (c0 : w.cell? ⟨g, 0, none⟩ = some (.slice A 0 cap)) (c1 : w.cell? ⟨g, 1, none⟩ = some (.int .i64 (p : Int))) (f1 : w.frozen? ⟨g, 1, none⟩ = false) :
    Calls Tryd.prog 40 #[.pointer (some ⟨g, 0, none⟩), .int .i64 n] w fun e w' => e = .returned (.int .i64 0) ∧ w' = w.setCell ⟨g, 1, none⟩ (.int .i64 ((p : Int) + 1)) := by
  go_enter Tryd.func40, Tryd.ntmps40
  go_wp2
  go_ret
  exact ⟨rfl, rfl⟩

theorem tmod_nat (p L : Nat) : Int.tmod (p : Int) (L : Int) = ((p % L : Nat) : Int) := (Int.ofNat_tmod p L).symm
theorem tdiv_nat (p L : Nat) : Int.tdiv (p : Int) (L : Int) = ((p / L : Nat) : Int) := (Int.ofNat_tdiv p L).symm

/-- ANY PICK. -/
theorem pick_any (w : World) (B g : Nat) (A : Option Addr) (cap : Nat) (zs : List Int) (p : Nat) (n : Int) (h : Rd w B g A cap zs p) (hn' : n ≤ 1000000000000) :
    Calls Tryd.prog 40 #[.pointer (some ⟨g, 0, none⟩), .int .i64 n] w fun e w' => Picked B g A cap zs p n w e w' := by
  have c0 : w.cell? ⟨g, 0, none⟩ = some (.slice A zs.length cap) := h.blk.cell 0
  have c1 : w.cell? ⟨g, 1, none⟩ = some (.int .i64 (p : Int)) := h.blk.cell 1
  have f1 : w.frozen? ⟨g, 1, none⟩ = false := h.blk.frozen 1
  by_cases hn : n < 1
  · refine (pick_low_core w g p n .nilIface hn h.pos c1 f1).mono ?_
    rintro e w' ⟨rfl, rfl⟩
    exact Picked.same h 0 (by omega) (by omega)
  · by_cases hz : zs.length = 0
    · rw [hz] at c0
      refine (pick_none_core w g p cap A n (by omega) h.pos c0 c1 f1).mono ?_
      rintro e w' ⟨rfl, rfl⟩
      exact Picked.same h 0 (by omega) (by omega)
    · have hz' : 0 < zs.length := by omega
      have hzb : ((zs.length : Int) == 0) = false := by rw [beq_eq_false_iff_ne]; omega
      by_cases hk : p < zs.length
      · obtain ⟨b, off, z, rfl, hb1, hc1, _, hg1⟩ := h.row.at_ hk
        have hbz := h.byte z (by rw [← hg1, List.getD_eq_getElem?_getD, List.getElem?_eq_getElem hk]; exact List.getElem_mem _)
        have hfar := h.far
        refine (pick_near_core w g b off cap zs.length p z n (by omega) hn' (by omega) hz hzb h.few c0 c1 f1 hc1 (by omega) (by omega) hbz.1 hbz.2).mono ?_
        rintro e w' ⟨v, rfl, v0, v1, rfl⟩
        exact Picked.same h v v0 (fun _ => v1)
      · have m1 : p % zs.length < zs.length := Nat.mod_lt _ hz'
        have m2 : (p * 7 + 3) % zs.length < zs.length := Nat.mod_lt _ hz'
        obtain ⟨b, off, z1, rfl, hb1, hc1, _, hg1⟩ := h.row.at_ m1
        obtain ⟨b', off', z2, hA, _, hc2, _, hg2⟩ := h.row.at_ m2
        cases hA
        have hB1 := h.byte z1 (by rw [← hg1, List.getD_eq_getElem?_getD, List.getElem?_eq_getElem m1]; exact List.getElem_mem _)
        have hB2 := h.byte z2 (by rw [← hg2, List.getD_eq_getElem?_getD, List.getElem?_eq_getElem m2]; exact List.getElem_mem _)
        have hfar := h.far
        have t2 : Int.tmod ((p : Int) * 7 + 3) (zs.length : Int) = (((p * 7 + 3) % zs.length : Nat) : Int) := by
          rw [← tmod_nat]; congr 1
        refine (pick_far_core w g b off cap zs.length p _ _ _ z1 z2 n (by omega) hn' (by omega) hz hzb h.few h.pos c0 c1 f1 hc1 hc2 (by omega) (by omega) (tmod_nat _ _) t2 (tdiv_nat _ _) (by omega) (by omega) (Nat.div_le_self _ _) hB1.1 hB1.2 hB2.1 hB2.2).mono ?_
        rintro e w' ⟨v, m, rfl, v0, v1, rfl⟩
        exact Picked.mk_ h v m v0 (fun _ => v1)

end Go.Proofs.YtfdbbopanankgaaDoor
