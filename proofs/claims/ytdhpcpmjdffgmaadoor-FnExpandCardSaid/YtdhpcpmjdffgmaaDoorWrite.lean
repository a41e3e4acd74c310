/- An expansion written into a builder, the program's. Condition: what is written is short. -/
import Derived.Test.YtdhpcpmjdffgmaaDoorBld
import Derived.Test.YtdhpcpmjdffgmaaDoorOwn
import Derived.Test.YtdhpcpmjdffgmaaDoorExpS
namespace Go.Proofs.YtdhpcpmjdffgmaaDoor
open Go.RowKit
set_option maxHeartbeats 2000000
set_option maxRecDepth 100000
set_option linter.unusedVariables false

theorem blk_set {w : World} {g : Nat} {t : TypeId} {cs : Array Value} (h : Blk w g t cs) (b i : Nat) (v : Value) (hk : ¬ g = b) : Blk (w.setCell ⟨b, i, none⟩ v) g t cs :=
  (Below.heap_setCell w ⟨b, i, none⟩ v g hk).trans h
/-- What is kept where a builder is written to: each block of another type than bytes, the builder's own left out. -/
def Keeps (b : Nat) (w w' : World) : Prop := ∀ k t cs, Blk w k t cs → t ≠ 5 → ¬ k = b → Blk w' k t cs
theorem Keeps.refl (b : Nat) (w : World) : Keeps b w w := fun _ _ _ h _ _ => h
theorem Keeps.trans {b : Nat} {w w' w'' : World} (h : Keeps b w w') (h' : Keeps b w' w'') : Keeps b w w'' := fun k t cs hk ht hb => h' k t cs (h k t cs hk ht hb) ht hb
theorem Keeps.alloc {b : Nat} {w w' : World} (h : Keeps b w w') (o : Obj) : Keeps b w (w'.alloc o) := fun k t cs hk ht hb => (h k t cs hk ht hb).alloc o
theorem bld_checkP (B b : Nat) (bs : List Value) (w : World) (h : Lib.IsBuilder 70 5 B b bs w) :
    Calls Tryd.prog 88 #[.pointer (some ⟨b, 0, none⟩)] w fun e w' => e = .returned (.tuple #[]) ∧ (Lib.BuilderAt 70 5 B b (.pointer (some ⟨b, 0, none⟩)) bs w' ∧ Below B w w' ∧ Keeps b w w') := by
  rcases h with h | h
  · refine (bld_fresh b w h.cell0 h.shape h.frozen0).mono ?_
    rintro e w' ⟨rfl, rfl⟩
    exact ⟨rfl, h.used _, (Below.refl B w).setCell (p := ⟨b, 0, none⟩) h.1 _, fun k t cs hk _ hb => blk_set hk _ _ _ hb⟩
  · refine (bld_used b w h.cell0).mono ?_
    rintro e w' ⟨rfl, rfl⟩
    exact ⟨rfl, h, Below.refl B _, Keeps.refl _ _⟩
theorem bld_writeP (B b : Nat) (bs : List Value) (s : ByteArray) (w : World) (h : Lib.IsBuilder 70 5 B b bs w) (hlen : bs.length + s.size ≤ 140737488355328) (hBw : B ≤ w.heap.size) :
    Calls Tryd.prog 87 #[.pointer (some ⟨b, 0, none⟩), .string s] w fun e w' => e = .returned (.tuple #[.int .i64 s.size, .nilIface]) ∧ (Lib.BuilderAt 70 5 B b (.pointer (some ⟨b, 0, none⟩)) (bs ++ Lib.strCells s) w' ∧ Below B w w' ∧ Keeps b w w') := by
  obtain ⟨i0, hi, hz0, hz1, hz2⟩ := info_parts info_byte
  have hne9 : 70 ≠ 5 := by decide
  go_enter Tryd.func87, Tryd.ntmps87
  go_wp2_with fail
  refine (bld_checkP B b bs _ h).mono ?_
  rintro e w1 ⟨rfl, h1, hb1, hk1⟩
  obtain ⟨hB, v, hbk, hown, hne⟩ := h1
  have c0 : w1.cell? ⟨b, 0, none⟩ = some (.pointer (some ⟨b, 0, none⟩)) := by rw [Lib.cell_of_heap hbk]; rfl
  have c1 : w1.cell? ⟨b, 1, none⟩ = some v := by rw [Lib.cell_of_heap hbk]; rfl
  have HK1 := Lib.hid hk1
  clear hk1
  go_wp2_with (first | (at_builtin; refine Lib.wpList_append_own_string _ rfl _ _ 22 9 rfl B 5 i0 Tryd.underlying22 Tryd.underlying9 hi hz0 hz1 hz2 _ _ _ rfl hown s rfl ?c3 ?c4 ?c5 ?_) | fail)
  case c3 => unfold maxLen; omega
  case c4 => omega
  case c5 => have := hb1.size; omega
  intro v' w2 hown' hgrow _
  have hlt : b < w1.heap.size := (Array.getElem?_eq_some_iff.1 hbk).1
  have hb2 : w2.heap[b]? = some (.cells #[.pointer (some ⟨b, 0, none⟩), v] 70 (0, 0)) := by
    rw [hgrow.block b hlt (fun e => hne e.symm)]
    exact hbk
  have HK2 : Hid (Keeps b w w2) := fun k t cs hk ht hb => by
    have h3 : Blk w1 k t cs := HK1.out k t cs hk ht hb
    exact (hgrow.block k h3.lt (own_other hown h3 (fun e => ht e.symm))).trans h3
  have d0 : w2.cell? ⟨b, 0, none⟩ = some (.pointer (some ⟨b, 0, none⟩)) := by rw [Lib.cell_of_heap hb2]; rfl
  have d1 : w2.cell? ⟨b, 1, none⟩ = some v := by rw [Lib.cell_of_heap hb2]; rfl
  have f1 : w2.frozen? ⟨b, 1, none⟩ = false := Lib.frozen_of_heap hb2 1
  obtain ⟨ao, n', cap, rfl⟩ : ∃ ao n' cap, v' = .slice ao n' cap := by
    rcases hown'.2 with ⟨hv, _⟩ | ⟨g, cap, cur, hv, _⟩
    · exact ⟨_, _, _, hv⟩
    · exact ⟨_, _, _, hv⟩
  go_wp2_with fail
  go_ret2
  refine ⟨rfl, ?_, ?_, fun k t cs hk ht hb => blk_set (HK2.out k t cs hk ht hb) _ _ _ hb⟩
  · exact Lib.BuilderAt.put (T := 70) (e := 5) hB hb2 (bs' := bs ++ Lib.strCells s) (by simpa [Lib.strCells_length] using hown') hne9
  · exact (hb1.grown hgrow (by have := hb1.size; omega) (fun k hk => (hown.lt k hk).1)).setCell (p := ⟨b, 1, none⟩) hB _

theorem bldAt_alloc {B b : Nat} {p : Value} {bs : List Value} {w : World} (h : Lib.BuilderAt 70 5 B b p bs w) (o : Obj) : Lib.BuilderAt 70 5 B b p bs (w.alloc o) := by
  obtain ⟨hB, v, hbk, hown, hne⟩ := h
  exact ⟨hB, v, (Blk.alloc hbk o), own_under hown ((Below.refl _ _).alloc (Nat.le_refl _) o), hne⟩
theorem bld_alloc {B b : Nat} {bs : List Value} {w : World} (h : Lib.IsBuilder 70 5 B b bs w) (o : Obj) : Lib.IsBuilder 70 5 B b bs (w.alloc o) := by
  rcases h with h | h
  · exact .inl (bldAt_alloc h o)
  · exact .inr (bldAt_alloc h o)
/-! Nodes: their types, their values, the methods that write them. -/
def tyW : Ex → TypeId
  | .lit _ => 75
  | .join _ _ => 77
  | .rep _ => 79
def rvW : Ex → Value
  | .lit b => .string ⟨#[chr b]⟩
  | .join x y => .agg #[exV x, exV y]
  | .rep x => .agg #[exV x]
def fnW : Ex → FuncId
  | .lit _ => 86
  | .join _ _ => 90
  | .rep _ => 91
theorem exV_is (x : Ex) : exV x = .iface (tyW x) (rvW x) := by cases x <;> rfl
theorem methodL (k : Nat) (v : Value) (w : World) : (method (k + 1) 75 v "loop.example/distanceautomata/impl.write").run Tryd.prog w = .ok (86, v) w := by kernel_rfl
theorem methodJ (k : Nat) (v : Value) (w : World) : (method (k + 1) 77 v "loop.example/distanceautomata/impl.write").run Tryd.prog w = .ok (90, v) w := by kernel_rfl
theorem methodR (k : Nat) (v : Value) (w : World) : (method (k + 1) 79 v "loop.example/distanceautomata/impl.write").run Tryd.prog w = .ok (91, v) w := by kernel_rfl
theorem methodW (k : Nat) (x : Ex) (w : World) : (method (k + 1) (tyW x) (rvW x) "loop.example/distanceautomata/impl.write").run Tryd.prog w = .ok (fnW x, rvW x) w := by
  cases x
  · exact methodL k _ w
  · exact methodJ k _ w
  · exact methodR k _ w
theorem enterL (args : Array Value) (w : World) : (callFunc 86 args).run Tryd.prog w = .ok (.enter 86 args) w := by kernel_rfl
theorem enterJ (args : Array Value) (w : World) : (callFunc 90 args).run Tryd.prog w = .ok (.enter 90 args) w := by kernel_rfl
theorem enterR (args : Array Value) (w : World) : (callFunc 91 args).run Tryd.prog w = .ok (.enter 91 args) w := by kernel_rfl
theorem enterW (x : Ex) (args : Array Value) (w : World) : (callFunc (fnW x) args).run Tryd.prog w = .ok (.enter (fnW x) args) w := by
  cases x
  · exact enterL args w
  · exact enterJ args w
  · exact enterR args w
def WrEnd (n B b : Nat) (l : List UInt8) (x : Ex) (w : World) (e : Ending) (w' : World) : Prop :=
  e = .returned (.tuple #[]) ∧ Lib.IsBuilder 70 5 B b (Lib.byteCells (l ++ expE n x)) w' ∧ Below B w w' ∧ Keeps b w w'
def WX (n : Nat) (x : Ex) : Prop := ∀ (B b : Nat) (l : List UInt8) (w : World), Lib.IsBuilder 70 5 B b (Lib.byteCells l) w → B ≤ w.heap.size → b < w.heap.size → l.length + (expE n x).length ≤ 1000000 →
  Calls Tryd.prog (fnW x) #[rvW x, .pointer (some ⟨b, 0, none⟩), .int .i64 n] w fun e w' => WrEnd n B b l x w e w'
theorem write_lit (n : Nat) (c : Bool) : WX n (.lit c) := by
  intro B b l w hI hB hb hl
  have HI := Lib.hid hI
  have HL := Lib.hid hl
  unfold fnW rvW
  clear hI hl
  go_enter Tryd.func86, Tryd.ntmps86
  go_wp2_with fail
  refine (bld_writeP B b _ ⟨#[chr c]⟩ _ HI.out (by rw [Lib.byteCells_length]; have := HL.out; simp [ByteArray.size, expE] at this ⊢; omega) hB).mono ?_
  rintro e w' ⟨rfl, h1, h2, h3⟩
  go_wp2_with fail
  go_end0
  refine ⟨rfl, ?_, h2, h3⟩
  rw [Lib.byteCells_append]
  exact Or.inr h1
theorem write_join (n : Nat) (x y : Ex) (ihx : WX n x) (ihy : WX n y) : WX n (.join x y) := by
  intro B b l w hI hB hb hl
  have HX := Lib.hid ihx
  have HY := Lib.hid ihy
  have HL : Hid (l.length + ((expE n x).length + (expE n y).length) ≤ 1000000) := by simp only [expE, List.length_append] at hl; exact hl
  have hsh : rvW (.join x y) = .agg #[.iface (tyW x) (rvW x), .iface (tyW y) (rvW y)] := by show Value.agg _ = _; rw [exV_is x, exV_is y]
  rw [hsh]
  show Calls Tryd.prog 90 _ _ _
  obtain ⟨w1, hw1⟩ : ∃ w1, w1 = w.alloc (.cells #[.iface (tyW x) (rvW x), .iface (tyW y) (rvW y)] 77) := ⟨_, rfl⟩
  have hbk : Blk w1 w.heap.size 77 #[.iface (tyW x) (rvW x), .iface (tyW y) (rvW y)] := by rw [hw1]; exact Blk.new _ _ _
  have HI : Hid (Lib.IsBuilder 70 5 B b (Lib.byteCells l) w1) := by rw [hw1]; exact bld_alloc hI _
  have HB : Hid (Below B w w1) := by rw [hw1]; exact (Below.refl _ _).alloc hB _
  have HK : Hid (Keeps b w w1) := by rw [hw1]; exact (Keeps.refl _ _).alloc _
  have hs1 : w1.heap.size = w.heap.size + 1 := by rw [hw1]; simp
  have m0 := hbk.cell 0
  have m1 := hbk.cell 1
  dsimp at m0 m1
  have HBK := Lib.hid hbk
  have hne : ¬ w.heap.size = b := by omega
  clear hI hl hsh ihx ihy hbk
  go_enter Tryd.func90, Tryd.ntmps90
  go_wp2_with fail
  rw [← hw1]
  clear hw1
  go_wp2_with fail
  rw [methodW]
  simp only [Result.andThen]
  rw [enterW, Oper.upon_enter]
  refine (HX.out B b l _ HI.out (by omega) (by omega) (by have := HL.out; omega)).mono ?_
  rintro e w2 ⟨rfl, hI2, hB2, hK2⟩
  have HI2 := Lib.hid hI2
  have HB2 := Lib.hid (HB.out.trans hB2)
  have HK2 := Lib.hid (HK.out.trans hK2)
  have hbk2 := hK2 _ _ _ HBK.out (by decide) hne
  have hs2 : w.heap.size + 1 ≤ w2.heap.size := by rw [← hs1]; exact hB2.size
  have n1 := hbk2.cell 1
  dsimp at n1
  clear hI2 hB2 hK2 hbk2 m0 m1
  go_wp2_with fail
  rw [methodW]
  simp only [Result.andThen]
  rw [enterW, Oper.upon_enter]
  refine (HY.out B b (l ++ expE n x) _ HI2.out (by omega) (by omega) (by have := HL.out; rw [List.length_append]; omega)).mono ?_
  rintro e w3 ⟨rfl, hI3, hB3, hK3⟩
  have HI3 := Lib.hid hI3
  have HB3 := Lib.hid (HB2.out.trans hB3)
  have HK3 := Lib.hid (HK2.out.trans hK3)
  clear hI3 hB3 hK3
  go_wp2_with fail
  go_end0
  refine ⟨rfl, ?_, HB3.out, HK3.out⟩
  have := HI3.out
  rw [List.append_assoc] at this
  exact this
theorem write_rep (n : Nat) (x : Ex) (hx1 : 1 ≤ (expE n x).length) (ihx : WX n x) : WX n (.rep x) := by
  intro B b l w hI hB hb hl
  have HX := Lib.hid ihx
  have hl' : l.length + n * (expE n x).length ≤ 1000000 := by simp only [expE, repL_len] at hl; exact hl
  have hn : n ≤ 1000000 := by
    have := Nat.le_mul_of_pos_right n hx1
    omega
  have HL := Lib.hid hl'
  have hsh : rvW (.rep x) = .agg #[.iface (tyW x) (rvW x)] := by show Value.agg _ = _; rw [exV_is x]
  rw [hsh]
  show Calls Tryd.prog 91 _ _ _
  obtain ⟨w1, hw1⟩ : ∃ w1, w1 = w.alloc (.cells #[.iface (tyW x) (rvW x)] 79) := ⟨_, rfl⟩
  have hbk : Blk w1 w.heap.size 79 #[.iface (tyW x) (rvW x)] := by rw [hw1]; exact Blk.new _ _ _
  have HI : Hid (Lib.IsBuilder 70 5 B b (Lib.byteCells l) w1) := by rw [hw1]; exact bld_alloc hI _
  have HB : Hid (Below B w w1) := by rw [hw1]; exact (Below.refl _ _).alloc hB _
  have HK : Hid (Keeps b w w1) := by rw [hw1]; exact (Keeps.refl _ _).alloc _
  have hs1 : w1.heap.size = w.heap.size + 1 := by rw [hw1]; simp
  have HBK := Lib.hid hbk
  have hne : ¬ w.heap.size = b := by omega
  clear hI hl hl' hsh ihx hbk
  go_enter Tryd.func91, Tryd.ntmps91
  go_wp2_with fail
  rw [← hw1]
  clear hw1
  go_loopw [7] (fun i wr => ∃ k : Nat, k ≤ n ∧ i = .int .i64 k ∧ Hid (Lib.IsBuilder 70 5 B b (Lib.byteCells (l ++ repL k (expE n x))) wr) ∧ Hid (Below B w wr) ∧ Hid (Keeps b w wr) ∧ Hid (Blk wr w.heap.size 79 #[.iface (tyW x) (rvW x)]) ∧ Hid (w.heap.size + 1 ≤ wr.heap.size)) (fun i _ => n - (intOf i).toNat)
  case atStart => exact ⟨0, by omega, rfl, (by rw [repL_zero, List.append_nil]; exact HI.out), HB.out, HK.out, HBK.out, by show _ ≤ _; omega⟩
  case round =>
    obtain ⟨k, hk, rfl, hI, hB', hK, hBk, hS⟩ := hrel
    by_cases hlt : k < n
    · have hlt' : (k : Int) < (n : Int) := by omega
      have m0 := hBk.out.cell 0
      dsimp at m0
      have hkl : k * (expE n x).length + (expE n x).length ≤ n * (expE n x).length := by
        have := Nat.mul_le_mul_right (expE n x).length (show k + 1 ≤ n by omega)
        rw [Nat.succ_mul] at this
        exact this
      have HKL := Lib.hid hkl
      clear hkl
      go_wp2_with fail
      rw [methodW]
      simp only [Result.andThen]
      rw [enterW, Oper.upon_enter]
      refine (HX.out B b _ _ hI.out (by have := hS.out; omega) (by have := hS.out; omega) (by have := HL.out; have := HKL.out; rw [List.length_append, repL_len]; omega)).mono ?_
      rintro e w2 ⟨rfl, hI2, hB2, hK2⟩
      have HI2 := Lib.hid hI2
      have HB2 := Lib.hid (hB'.out.trans hB2)
      have HK2 := Lib.hid (hK.out.trans hK2)
      have HBK2 := Lib.hid (hK2 _ _ _ hBk.out (by decide) hne)
      have HS2 : Hid (w.heap.size + 1 ≤ w2.heap.size) := by have := hS.out; have := hB2.size; show _ ≤ _; omega
      clear hI2 hB2 hK2 m0
      go_wp2_with fail
      go_roundw
      case rel => exact ⟨k + 1, by omega, by go_num, (by rw [repL_succ, ← List.append_assoc]; exact HI2.out), HB2.out, HK2.out, HBK2.out, HS2.out⟩
      case measure => simp [intOf]; omega
    · have hlt' : ¬ (k : Int) < (n : Int) := by omega
      have : k = n := by omega
      subst this
      go_wp2_with fail
      go_end0
      exact ⟨rfl, hI.out, hB'.out, hK.out⟩
theorem expE_pos {n : Nat} (hn : 1 ≤ n) : ∀ x : Ex, 1 ≤ (expE n x).length
  | .lit b => by simp [expE]
  | .join x y => by
    have := expE_pos hn x
    simp only [expE, List.length_append]; omega
  | .rep x => by
    have h := expE_pos hn x
    simp only [expE, repL_len]
    exact Nat.le_trans h (Nat.le_mul_of_pos_left _ hn)
theorem write_all (n : Nat) (hn : 1 ≤ n) : ∀ x : Ex, WX n x
  | .lit c => write_lit n c
  | .join x y => write_join n x y (write_all n hn x) (write_all n hn y)
  | .rep x => write_rep n x (expE_pos hn x) (write_all n hn x)
end Go.Proofs.YtdhpcpmjdffgmaaDoor
