/- How many repeated parts lie within each other: the meaning of nodes in numbers. Nothing that was there changes. No condition. The weight of nodes, each letter as much, so many times for what is repeated: the meaning of nodes in costs. Nothing that was there changes. Conditions: a letter's weight is a cost, the times are no less than 0. -/
import Derived.Test.YtdhpcpmjdffgmaaDoorNodeOf
import Derived.Test.YtdhpcpmjdffgmaaDoorLastOp
import Derived.Shelf.RegionOpen
import Derived.Test.YtdhpcpmjdffgmaaDoorCosts2
namespace Go.Proofs.YtdhpcpmjdffgmaaDoor
open Go.RowKit
set_option maxHeartbeats 4000000
set_option maxRecDepth 100000
set_option linter.unusedVariables false

def depthE : Ex → Int
  | .lit _ => 0
  | .join x y => max (depthE x) (depthE y)
  | .rep x => depthE x + 1
def sizeE : Ex → Nat
  | .lit _ => 1
  | .join x y => sizeE x + sizeE y
  | .rep x => sizeE x + 3
theorem depth_le : ∀ x : Ex, 0 ≤ depthE x ∧ depthE x ≤ (sizeE x : Int)
  | .lit _ => ⟨Int.le_refl _, by simp [depthE, sizeE]⟩
  | .join x y => by
    obtain ⟨a, b⟩ := depth_le x
    obtain ⟨c, d⟩ := depth_le y
    simp only [depthE, sizeE]
    omega
  | .rep x => by
    obtain ⟨a, b⟩ := depth_le x
    simp only [depthE, sizeE]
    omega
theorem taLL (v : Value) (w : World) : (Instr.typeAssert (.iface 75 v) 38 75 true).run Tryd.prog w = .ok (.tuple #[v, .bool true]) w := by kernel_rfl
theorem taJL (v : Value) (w : World) : (Instr.typeAssert (.iface 77 v) 38 75 true).run Tryd.prog w = .ok (.tuple #[.string ⟨#[]⟩, .bool false]) w := by kernel_rfl
theorem taJJ (v : Value) (w : World) : (Instr.typeAssert (.iface 77 v) 38 77 true).run Tryd.prog w = .ok (.tuple #[v, .bool true]) w := by kernel_rfl
theorem taRL (v : Value) (w : World) : (Instr.typeAssert (.iface 79 v) 38 75 true).run Tryd.prog w = .ok (.tuple #[.string ⟨#[]⟩, .bool false]) w := by kernel_rfl
theorem taRJ (v : Value) (w : World) : (Instr.typeAssert (.iface 79 v) 38 77 true).run Tryd.prog w = .ok (.tuple #[.agg #[.nilIface, .nilIface], .bool false]) w := by kernel_rfl
theorem taRR (v : Value) (w : World) : (Instr.typeAssert (.iface 79 v) 38 79 true).run Tryd.prog w = .ok (.tuple #[v, .bool true]) w := by kernel_rfl
theorem dLetter_any (s : ByteArray) (w : World) :
    Calls Tryd.prog 33 #[.string s] w fun e w' => e = .returned (.int .i64 0) ∧ w' = w := by
  go_enter Tryd.func33, Tryd.ntmps33
  go_wp2_with fail
  go_ret
  exact ⟨rfl, rfl⟩
theorem dJoined_any (a b v : Int) (w : World) (hv : max a b = v) :
    Calls Tryd.prog 34 #[.int .i64 a, .int .i64 b] w fun e w' => e = .returned (.int .i64 v) ∧ w' = w := by
  subst hv
  by_cases h : a < b
  · have hm : max a b = b := by omega
    rw [hm]
    go_enter Tryd.func34, Tryd.ntmps34
    go_wp2_with fail
    go_ret
    exact ⟨rfl, rfl⟩
  · have hm : max a b = a := by omega
    rw [hm]
    go_enter Tryd.func34, Tryd.ntmps34
    go_wp2_with fail
    go_ret
    exact ⟨rfl, rfl⟩
theorem dRepeated_any (a : Int) (w : World) (h0 : 0 ≤ a) (h1 : a ≤ 1000000) :
    Calls Tryd.prog 35 #[.int .i64 a] w fun e w' => e = .returned (.int .i64 (a + 1)) ∧ w' = w := by
  have h2 : (0 : Int) ≤ a + 1 := by omega
  have h3 : a + 1 ≤ 1000001 := by omega
  go_enter Tryd.func35, Tryd.ntmps35
  go_wp2_with fail
  go_ret
  exact ⟨rfl, rfl⟩

def meaningD : Value := .agg #[.func (Fn.func 33) #[] #[], .func (Fn.func 34) #[] #[], .func (Fn.func 35) #[] #[]]
def OfD (x : Ex) : Prop := ∀ w : World, Calls Tryd.prog 22 #[meaningD, exV x] w fun e w' => e = .returned (.int .i64 (depthE x)) ∧ Below w.heap.size w w'
theorem ofD_lit (b : Bool) : OfD (.lit b) := by
  intro w
  obtain ⟨w1, hw1⟩ : ∃ w1, w1 = w.alloc (.cells #[.func (Fn.func 33) #[] #[], .func (Fn.func 34) #[] #[], .func (Fn.func 35) #[] #[]] 47) := ⟨_, rfl⟩
  have HM : Hid (Blk w1 w.heap.size 47 #[.func (Fn.func 33) #[] #[], .func (Fn.func 34) #[] #[], .func (Fn.func 35) #[] #[]]) := by rw [hw1]; exact Blk.new _ _ _
  have HB : Hid (Below w.heap.size w w1) := by rw [hw1]; exact (Below.refl _ _).alloc (Nat.le_refl _) _
  unfold meaningD exV
  have t1 := taLL
  have hal := hw1
  go_enter Tryd.func22, Tryd.ntmps22
  go_wp2_with fail
  rw [← hw1]
  clear hal hw1
  have m0 := HM.out.cell 0
  have m1 := HM.out.cell 1
  have m2 := HM.out.cell 2
  dsimp at m0 m1 m2
  go_wp2_with fail
  refine (dLetter_any _ _).mono ?_
  rintro e w' ⟨rfl, rfl⟩
  go_wp2_with fail
  go_ret
  exact ⟨rfl, HB.out⟩
theorem ofD_join (x y : Ex) (ihx : OfD x) (ihy : OfD y) : OfD (.join x y) := by
  intro w
  obtain ⟨w1, hw1⟩ : ∃ w1, w1 = w.alloc (.cells #[.func (Fn.func 33) #[] #[], .func (Fn.func 34) #[] #[], .func (Fn.func 35) #[] #[]] 47) := ⟨_, rfl⟩
  have HM : Hid (Blk w1 w.heap.size 47 #[.func (Fn.func 33) #[] #[], .func (Fn.func 34) #[] #[], .func (Fn.func 35) #[] #[]]) := by rw [hw1]; exact Blk.new _ _ _
  have HB : Hid (Below w.heap.size w w1) := by rw [hw1]; exact (Below.refl _ _).alloc (Nat.le_refl _) _
  have HX := Lib.hid ihx
  have HY := Lib.hid ihy
  have hxv : ∃ v, exV x = v := ⟨_, rfl⟩
  obtain ⟨t0, v0, hx0⟩ := exV_iface x
  obtain ⟨t1, v1, hx1⟩ := exV_iface y
  have hcx : ∀ w : World, Calls Tryd.prog 22 #[meaningD, .iface t0 v0] w fun e w' => e = .returned (.int .i64 (depthE x)) ∧ Below w.heap.size w w' := by rw [← hx0]; exact ihx
  have hcy : ∀ w : World, Calls Tryd.prog 22 #[meaningD, .iface t1 v1] w fun e w' => e = .returned (.int .i64 (depthE y)) ∧ Below w.heap.size w w' := by rw [← hx1]; exact ihy
  have hsh : exV (.join x y) = .iface 77 (.agg #[.iface t0 v0, .iface t1 v1]) := by show Value.iface _ (.agg #[exV x, exV y]) = _; rw [hx0, hx1]
  have HCX := Lib.hid hcx
  have HCY := Lib.hid hcy
  rw [hsh]
  clear HX hxv hcx hx0 hsh ihx HY hcy hx1 ihy
  unfold meaningD at *
  obtain ⟨w2, hw2⟩ : ∃ w2, w2 = w1.alloc (.cells #[.iface t0 v0, .iface t1 v1] 77) := ⟨_, rfl⟩
  have hs1 : w1.heap.size = w.heap.size + 1 := by rw [hw1]; simp
  have HN2 : Hid (Blk w2 (w.heap.size + 1) 77 #[.iface t0 v0, .iface t1 v1]) := by rw [hw2, ← hs1]; exact Blk.new _ _ _
  have HM2 : Hid (Blk w2 w.heap.size 47 #[.func (Fn.func 33) #[] #[], .func (Fn.func 34) #[] #[], .func (Fn.func 35) #[] #[]]) := by rw [hw2]; exact HM.out.alloc _
  have HB2 : Hid (Below w.heap.size w w2) := by rw [hw2]; exact HB.out.alloc (by omega) _
  have hww : w2 = (w.alloc (.cells #[.func (Fn.func 33) #[] #[], .func (Fn.func 34) #[] #[], .func (Fn.func 35) #[] #[]] 47)).alloc (.cells #[.iface t0 v0, .iface t1 v1] 77) := by rw [hw2, hw1]
  clear HM HB hs1 hw1 hw2
  have tJL := taJL
  have tJJ := taJJ
  go_enter Tryd.func22, Tryd.ntmps22
  go_wp2_with fail
  rw [← hww]
  clear hww
  have KF : Hid (∀ w', Below w2.heap.size w2 w' → (Hid (Below w2.heap.size w2 w') ∧ w'.cell? ⟨w.heap.size, 0, none⟩ = some (.func (Fn.func 33) #[] #[]) ∧ w'.cell? ⟨w.heap.size, 1, none⟩ = some (.func (Fn.func 34) #[] #[]) ∧ w'.cell? ⟨w.heap.size, 2, none⟩ = some (.func (Fn.func 35) #[] #[]) ∧ w'.cell? ⟨w.heap.size + 1, 0, none⟩ = some (.iface t0 v0) ∧ w'.cell? ⟨w.heap.size + 1, 1, none⟩ = some (.iface t1 v1))) := fun w' h => by
    have km := HM2.out.below h HM2.out.lt
    have kn := HN2.out.below h HN2.out.lt
    exact ⟨h, km.cell 0, km.cell 1, km.cell 2, kn.cell 0, kn.cell 1⟩
  have hS0 := KF.out w2.drew ((Below.refl _ _).drew)
  refine wp_region_Z (S := fun w' => Hid (Below w2.heap.size w2 w') ∧ w'.cell? ⟨w.heap.size, 0, none⟩ = some (.func (Fn.func 33) #[] #[]) ∧ w'.cell? ⟨w.heap.size, 1, none⟩ = some (.func (Fn.func 34) #[] #[]) ∧ w'.cell? ⟨w.heap.size, 2, none⟩ = some (.func (Fn.func 35) #[] #[]) ∧ w'.cell? ⟨w.heap.size + 1, 0, none⟩ = some (.iface t0 v0) ∧ w'.cell? ⟨w.heap.size + 1, 1, none⟩ = some (.iface t1 v1)) (by kernel_rfl) hS0 (fun hS => ?_)
  clear hS0
  refine wpAnyZ_take (i := 0) (v := ?vu0) rfl (by kernel_rfl) (by kernel_rfl) (by kernel_rfl) (by kernel_rfl) (fun _ _ _ h => h) (Or.inl ⟨by rfl, ?yu0⟩) (by with_reducible assumption) ?ru0
  case yu0 => (intro w hSw; (try dsimp only at hSw); go_simp; (try with_reducible rfl))
  simp only [Act.put, List.setIfInBounds_toArray]
  refine wpAnyZ_take (i := 1) (v := ?vu1) rfl (by kernel_rfl) (by kernel_rfl) (by kernel_rfl) (by kernel_rfl) (fun _ _ _ h => h) (Or.inl ⟨by rfl, ?yu1⟩) (by with_reducible assumption) ?ru1
  case yu1 => (intro w hSw; (try dsimp only at hSw); go_simp; (try with_reducible rfl))
  simp only [Act.put]
  refine wpAnyZ_take (i := 2) (v := ?vu2) rfl (by kernel_rfl) (by kernel_rfl) (by kernel_rfl) (by kernel_rfl) (fun _ _ _ h => h) (Or.inl ⟨by rfl, ?yu2⟩) (by with_reducible assumption) ?ru2
  case yu2 => (intro w hSw; (try dsimp only at hSw); go_simp; (try with_reducible rfl))
  simp only [Act.put]
  refine wpAnyZ_take (i := 3) (v := ?vu3) rfl (by kernel_rfl) (by kernel_rfl) (by kernel_rfl) (by kernel_rfl) (fun _ _ _ h => h) (Or.inl ⟨by rfl, ?yu3⟩) (by with_reducible assumption) ?ru3
  case yu3 => (intro w hSw; (try dsimp only at hSw); go_simp; (try with_reducible rfl))
  simp only [Act.put]
  refine wpAnyZ_take (i := 4) (v := ?vu4) rfl (by kernel_rfl) (by kernel_rfl) (by kernel_rfl) (by kernel_rfl) (fun _ _ _ h => h) (Or.inl ⟨by rfl, ?yu4⟩) (by with_reducible assumption) ?ru4
  case yu4 => (intro w hSw; (try dsimp only at hSw); go_simp; (try with_reducible rfl))
  simp only [Act.put]
  refine wpAnyZ_take (i := 6) (v := ?vu6) rfl (by kernel_rfl) (by kernel_rfl) (by kernel_rfl) (by kernel_rfl) (fun _ _ _ h => h) (Or.inl ⟨by rfl, ?yu6⟩) (by with_reducible assumption) ?ru6
  case yu6 => (intro w hSw; (try dsimp only at hSw); go_simp; (try with_reducible rfl))
  simp only [Act.put]
  refine wpAnyZ_take (i := 7) (v := ?vu7) rfl (by kernel_rfl) (by kernel_rfl) (by kernel_rfl) (by kernel_rfl) (fun _ _ _ h => h) (Or.inl ⟨by rfl, ?yu7⟩) (by with_reducible assumption) ?ru7
  case yu7 => (intro w hSw; (try dsimp only at hSw); go_simp; (try with_reducible rfl))
  simp only [Act.put]
  refine wpAnyZ_take (i := 8) (v := ?vu8) rfl (by kernel_rfl) (by kernel_rfl) (by kernel_rfl) (by kernel_rfl) (fun _ _ _ h => h) (Or.inl ⟨by rfl, ?yu8⟩) (by with_reducible assumption) ?ru8
  case yu8 => (intro w hSw; (try dsimp only at hSw); go_simp; (try with_reducible rfl))
  simp only [Act.put]
  (try simp only [Act.put])
  refine wpAnyZ_step (i := 5) (by kernel_rfl) rfl ?_
  intro K1 hK1
  go_simp
  have D0 : Hid (Below w2.heap.size w2 w2.drew) := (Below.refl _ _).drew
  refine (HCX.out _).mono ?_
  rintro e w3 ⟨rfl, hb3⟩
  have D3 := Lib.hid (D0.out.trans (hb3.mono D0.out.size))
  clear hb3
  refine hK1.out _ _ (KF.out _ D3.out) (fun hS1 => ?_)
  clear hK1
  (try simp only [Act.put])
  refine wpAnyZ_step (i := 9) (by kernel_rfl) rfl ?_
  intro K2 hK2
  go_simp
  refine (HCY.out _).mono ?_
  rintro e w4 ⟨rfl, hb4⟩
  have D4 := Lib.hid (D3.out.trans (hb4.mono D3.out.size))
  clear hb4
  refine hK2.out _ _ (KF.out _ D4.out) (fun hS2 => ?_)
  clear hK2 hS1
  (try simp only [Act.put])
  refine wpAnyZ_step (i := 10) (by kernel_rfl) rfl ?_
  intro K3 hK3
  go_simp
  refine (dJoined_any _ _ (depthE (.join x y)) _ rfl).mono ?_
  rintro e w5 ⟨rfl, rfl⟩
  refine hK3.out _ _ (KF.out _ D4.out) (fun hS3 => ?_)
  clear hK3
  (try simp only [Act.put])
  refine wpAnyZ_last (i := 11) (by kernel_rfl) rfl (by kernel_rfl) ?_
  intro K4 hK4
  go_simp
  refine hK4.out _ _ ?_
  clear hK4
  go_wp2_with fail
  go_ret
  exact ⟨rfl, HB2.out.trans (D4.out.mono HB2.out.size)⟩
theorem ofD_rep (x : Ex) (hx : sizeE x ≤ 1000000) (ihx : OfD x) : OfD (.rep x) := by
  intro w
  obtain ⟨w1, hw1⟩ : ∃ w1, w1 = w.alloc (.cells #[.func (Fn.func 33) #[] #[], .func (Fn.func 34) #[] #[], .func (Fn.func 35) #[] #[]] 47) := ⟨_, rfl⟩
  have HM : Hid (Blk w1 w.heap.size 47 #[.func (Fn.func 33) #[] #[], .func (Fn.func 34) #[] #[], .func (Fn.func 35) #[] #[]]) := by rw [hw1]; exact Blk.new _ _ _
  have HB : Hid (Below w.heap.size w w1) := by rw [hw1]; exact (Below.refl _ _).alloc (Nat.le_refl _) _
  have HX := Lib.hid ihx
  have hxv : ∃ v, exV x = v := ⟨_, rfl⟩
  obtain ⟨t0, v0, hx0⟩ := exV_iface x
  have hcx : ∀ w : World, Calls Tryd.prog 22 #[meaningD, .iface t0 v0] w fun e w' => e = .returned (.int .i64 (depthE x)) ∧ Below w.heap.size w w' := by rw [← hx0]; exact ihx
  have hsh : exV (.rep x) = .iface 79 (.agg #[.iface t0 v0]) := by show Value.iface _ (.agg #[exV x]) = _; rw [hx0]
  have HCX := Lib.hid hcx
  rw [hsh]
  clear HX hxv hcx hx0 hsh ihx
  unfold meaningD at *
  obtain ⟨w2, hw2⟩ : ∃ w2, w2 = w1.alloc (.cells #[.iface t0 v0] 79) := ⟨_, rfl⟩
  have hs1 : w1.heap.size = w.heap.size + 1 := by rw [hw1]; simp
  have HN2 : Hid (Blk w2 (w.heap.size + 1) 79 #[.iface t0 v0]) := by rw [hw2, ← hs1]; exact Blk.new _ _ _
  have HM2 : Hid (Blk w2 w.heap.size 47 #[.func (Fn.func 33) #[] #[], .func (Fn.func 34) #[] #[], .func (Fn.func 35) #[] #[]]) := by rw [hw2]; exact HM.out.alloc _
  have HB2 : Hid (Below w.heap.size w w2) := by rw [hw2]; exact HB.out.alloc (by omega) _
  have hww : w2 = (w.alloc (.cells #[.func (Fn.func 33) #[] #[], .func (Fn.func 34) #[] #[], .func (Fn.func 35) #[] #[]] 47)).alloc (.cells #[.iface t0 v0] 79) := by rw [hw2, hw1]
  clear HM HB hs1 hw1 hw2
  have tRL := taRL
  have tRJ := taRJ
  have tRR := taRR
  go_enter Tryd.func22, Tryd.ntmps22
  go_wp2_with fail
  rw [← hww]
  clear hww
  have KF : Hid (∀ w', Below w2.heap.size w2 w' → (Hid (Below w2.heap.size w2 w') ∧ w'.cell? ⟨w.heap.size, 0, none⟩ = some (.func (Fn.func 33) #[] #[]) ∧ w'.cell? ⟨w.heap.size, 1, none⟩ = some (.func (Fn.func 34) #[] #[]) ∧ w'.cell? ⟨w.heap.size, 2, none⟩ = some (.func (Fn.func 35) #[] #[]) ∧ w'.cell? ⟨w.heap.size + 1, 0, none⟩ = some (.iface t0 v0))) := fun w' h => by
    have km := HM2.out.below h HM2.out.lt
    have kn := HN2.out.below h HN2.out.lt
    exact ⟨h, km.cell 0, km.cell 1, km.cell 2, kn.cell 0⟩
  have hS0 := KF.out w2.drew ((Below.refl _ _).drew)
  refine wp_region_Z (S := fun w' => Hid (Below w2.heap.size w2 w') ∧ w'.cell? ⟨w.heap.size, 0, none⟩ = some (.func (Fn.func 33) #[] #[]) ∧ w'.cell? ⟨w.heap.size, 1, none⟩ = some (.func (Fn.func 34) #[] #[]) ∧ w'.cell? ⟨w.heap.size, 2, none⟩ = some (.func (Fn.func 35) #[] #[]) ∧ w'.cell? ⟨w.heap.size + 1, 0, none⟩ = some (.iface t0 v0)) (by kernel_rfl) hS0 (fun hS => ?_)
  clear hS0
  refine wpAnyZ_take (i := 0) (v := ?vu0) rfl (by kernel_rfl) (by kernel_rfl) (by kernel_rfl) (by kernel_rfl) (fun _ _ _ h => h) (Or.inl ⟨by rfl, ?yu0⟩) (by with_reducible assumption) ?ru0
  case yu0 => (intro w hSw; (try dsimp only at hSw); go_simp; (try with_reducible rfl))
  simp only [Act.put, List.setIfInBounds_toArray]
  refine wpAnyZ_take (i := 1) (v := ?vu1) rfl (by kernel_rfl) (by kernel_rfl) (by kernel_rfl) (by kernel_rfl) (fun _ _ _ h => h) (Or.inl ⟨by rfl, ?yu1⟩) (by with_reducible assumption) ?ru1
  case yu1 => (intro w hSw; (try dsimp only at hSw); go_simp; (try with_reducible rfl))
  simp only [Act.put]
  refine wpAnyZ_take (i := 2) (v := ?vu2) rfl (by kernel_rfl) (by kernel_rfl) (by kernel_rfl) (by kernel_rfl) (fun _ _ _ h => h) (Or.inl ⟨by rfl, ?yu2⟩) (by with_reducible assumption) ?ru2
  case yu2 => (intro w hSw; (try dsimp only at hSw); go_simp; (try with_reducible rfl))
  simp only [Act.put]
  refine wpAnyZ_take (i := 3) (v := ?vu3) rfl (by kernel_rfl) (by kernel_rfl) (by kernel_rfl) (by kernel_rfl) (fun _ _ _ h => h) (Or.inl ⟨by rfl, ?yu3⟩) (by with_reducible assumption) ?ru3
  case yu3 => (intro w hSw; (try dsimp only at hSw); go_simp; (try with_reducible rfl))
  simp only [Act.put]
  refine wpAnyZ_take (i := 4) (v := ?vu4) rfl (by kernel_rfl) (by kernel_rfl) (by kernel_rfl) (by kernel_rfl) (fun _ _ _ h => h) (Or.inl ⟨by rfl, ?yu4⟩) (by with_reducible assumption) ?ru4
  case yu4 => (intro w hSw; (try dsimp only at hSw); go_simp; (try with_reducible rfl))
  simp only [Act.put]
  (try simp only [Act.put])
  refine wpAnyZ_step (i := 5) (by kernel_rfl) rfl ?_
  intro K1 hK1
  go_simp
  have D0 : Hid (Below w2.heap.size w2 w2.drew) := (Below.refl _ _).drew
  refine (HCX.out _).mono ?_
  rintro e w3 ⟨rfl, hb3⟩
  have D3 := Lib.hid (D0.out.trans (hb3.mono D0.out.size))
  clear hb3
  refine hK1.out _ _ (KF.out _ D3.out) (fun hS1 => ?_)
  clear hK1
  (try simp only [Act.put])
  refine wpAnyZ_step (i := 6) (by kernel_rfl) rfl ?_
  intro K3 hK3
  go_simp
  refine (dRepeated_any _ _ (depth_le x).1 (by have := (depth_le x).2; omega)).mono ?_
  rintro e w5 ⟨rfl, rfl⟩
  refine hK3.out _ _ (KF.out _ D3.out) (fun hS3 => ?_)
  clear hK3
  (try simp only [Act.put])
  refine wpAnyZ_last (i := 7) (by kernel_rfl) rfl (by kernel_rfl) ?_
  intro K4 hK4
  go_simp
  refine hK4.out _ _ ?_
  clear hK4
  go_wp2_with fail
  go_ret
  exact ⟨rfl, HB2.out.trans (D3.out.mono HB2.out.size)⟩
theorem ofD_all : ∀ (x : Ex), sizeE x ≤ 1000000 → OfD x
  | .lit b, _ => ofD_lit b
  | .join x y, h => ofD_join x y (ofD_all x (by simp only [sizeE] at h; omega)) (ofD_all y (by simp only [sizeE] at h; omega))
  | .rep x, h => ofD_rep x (by simp only [sizeE] at h; omega) (ofD_all x (by simp only [sizeE] at h; omega))
end Go.Proofs.YtdhpcpmjdffgmaaDoor
namespace Go.Proofs.YtdhpcpmjdffgmaaDoor
open Go.RowKit
set_option maxHeartbeats 4000000
set_option maxRecDepth 100000
set_option linter.unusedVariables false

def weightE (l n : Int) : Ex → Int
  | .lit _ => l
  | .join x y => min (weightE l n x + weightE l n y) 1000000
  | .rep x => timesF n (weightE l n x)
theorem timesF_vld {n a : Int} (hn : 0 ≤ n) (h0 : 0 ≤ a) (h1 : a ≤ 1000000) : 0 ≤ timesF n a ∧ timesF n a ≤ 1000000 := by
  have hv : vld a = true := vld_yes ⟨h0, h1⟩
  by_cases hz : a = 0
  · rw [timesF_zero hn hv hz]; omega
  · by_cases ho : 1000000 / a < n
    · rw [timesF_over hn hv hz ho]; omega
    · rw [timesF_in hn hv hz ho]
      exact ⟨Int.mul_nonneg hn h0, Int.mul_le_of_le_ediv (by omega) (by omega)⟩
theorem weight_vld {l n : Int} (h0 : 0 ≤ l) (h1 : l ≤ 1000000) (hn : 0 ≤ n) : ∀ x : Ex, 0 ≤ weightE l n x ∧ weightE l n x ≤ 1000000
  | .lit _ => ⟨h0, h1⟩
  | .join x y => by
    have := weight_vld h0 h1 hn x
    have := weight_vld h0 h1 hn y
    simp only [weightE]
    omega
  | .rep x => timesF_vld hn (weight_vld h0 h1 hn x).1 (weight_vld h0 h1 hn x).2
theorem wLetter_any (p : Nat) (l : Int) (s : ByteArray) (w : World) (hp : Blk w p 60 #[.int .i64 l]) :
    Calls Tryd.prog 44 #[.string s, .pointer (some ⟨p, 0, none⟩)] w fun e w' => e = .returned (.int .i64 l) ∧ w' = w := by
  have c0 : w.cell? ⟨p, 0, none⟩ = some (.int .i64 l) := hp.cell 0
  go_enter Tryd.func44, Tryd.ntmps44
  go_wp2_with fail
  go_ret
  exact ⟨rfl, rfl⟩
theorem wRepeated_any (q : Nat) (n a : Int) (w : World) (hq : Blk w q 3 #[.int .i64 n]) (hn : 0 ≤ n) (h0 : 0 ≤ a) (h1 : a ≤ 1000000) :
    Calls Tryd.prog 46 #[.int .i64 a, .pointer (some ⟨q, 0, none⟩)] w fun e w' => e = .returned (.int .i64 (timesF n a)) ∧ w' = w := by
  have c0 : w.cell? ⟨q, 0, none⟩ = some (.int .i64 n) := hq.cell 0
  have hv : vld a = true := vld_yes ⟨h0, h1⟩
  go_enter Tryd.func46, Tryd.ntmps46
  go_wp2_with fail
  refine (cTimes_any n a _ hn hv).mono ?_
  rintro e w' ⟨rfl, rfl⟩
  go_wp2_with fail
  go_ret
  exact ⟨rfl, rfl⟩

def meaningW (p q : Nat) : Value := .agg #[.func (Fn.func 44) #[] #[.pointer (some ⟨p, 0, none⟩)], .func (Fn.func 45) #[] #[], .func (Fn.func 46) #[] #[.pointer (some ⟨q, 0, none⟩)]]
def OfW (p q : Nat) (l n : Int) (x : Ex) : Prop := ∀ w : World, Blk w p 60 #[.int .i64 l] → Blk w q 3 #[.int .i64 n] → Calls Tryd.prog 30 #[meaningW p q, exV x] w fun e w' => e = .returned (.int .i64 (weightE l n x)) ∧ Below w.heap.size w w'
theorem ofW_lit (p q : Nat) (l n : Int) (h0 : 0 ≤ l) (h1 : l ≤ 1000000) (hn : 0 ≤ n) (b : Bool) : OfW p q l n (.lit b) := by
  intro w hp hq
  obtain ⟨w1, hw1⟩ : ∃ w1, w1 = w.alloc (.cells #[.func (Fn.func 44) #[] #[.pointer (some ⟨p, 0, none⟩)], .func (Fn.func 45) #[] #[], .func (Fn.func 46) #[] #[.pointer (some ⟨q, 0, none⟩)]] 65) := ⟨_, rfl⟩
  have HM : Hid (Blk w1 w.heap.size 65 #[.func (Fn.func 44) #[] #[.pointer (some ⟨p, 0, none⟩)], .func (Fn.func 45) #[] #[], .func (Fn.func 46) #[] #[.pointer (some ⟨q, 0, none⟩)]]) := by rw [hw1]; exact Blk.new _ _ _
  have HB : Hid (Below w.heap.size w w1) := by rw [hw1]; exact (Below.refl _ _).alloc (Nat.le_refl _) _
  have HP : Hid (Blk w1 p 60 #[.int .i64 l]) := by rw [hw1]; exact hp.alloc _
  have HQ : Hid (Blk w1 q 3 #[.int .i64 n]) := by rw [hw1]; exact hq.alloc _
  clear hp hq
  unfold meaningW exV
  have t1 := taLL
  have hal := hw1
  go_enter Tryd.func30, Tryd.ntmps30
  go_wp2_with fail
  rw [← hw1]
  clear hal hw1
  have m0 := HM.out.cell 0
  have m1 := HM.out.cell 1
  have m2 := HM.out.cell 2
  dsimp at m0 m1 m2
  go_wp2_with fail
  refine (wLetter_any p l _ _ HP.out).mono ?_
  rintro e w' ⟨rfl, rfl⟩
  go_wp2_with fail
  go_ret
  exact ⟨rfl, HB.out⟩
theorem ofW_join (p q : Nat) (l n : Int) (h0 : 0 ≤ l) (h1 : l ≤ 1000000) (hn : 0 ≤ n) (x y : Ex) (ihx : OfW p q l n x) (ihy : OfW p q l n y) : OfW p q l n (.join x y) := by
  intro w hp hq
  obtain ⟨w1, hw1⟩ : ∃ w1, w1 = w.alloc (.cells #[.func (Fn.func 44) #[] #[.pointer (some ⟨p, 0, none⟩)], .func (Fn.func 45) #[] #[], .func (Fn.func 46) #[] #[.pointer (some ⟨q, 0, none⟩)]] 65) := ⟨_, rfl⟩
  have HM : Hid (Blk w1 w.heap.size 65 #[.func (Fn.func 44) #[] #[.pointer (some ⟨p, 0, none⟩)], .func (Fn.func 45) #[] #[], .func (Fn.func 46) #[] #[.pointer (some ⟨q, 0, none⟩)]]) := by rw [hw1]; exact Blk.new _ _ _
  have HB : Hid (Below w.heap.size w w1) := by rw [hw1]; exact (Below.refl _ _).alloc (Nat.le_refl _) _
  have HP : Hid (Blk w1 p 60 #[.int .i64 l]) := by rw [hw1]; exact hp.alloc _
  have HQ : Hid (Blk w1 q 3 #[.int .i64 n]) := by rw [hw1]; exact hq.alloc _
  clear hp hq
  have HX := Lib.hid ihx
  have HY := Lib.hid ihy
  have hwx := weight_vld h0 h1 hn x
  have hwy := weight_vld h0 h1 hn y
  have hxv : ∃ v, exV x = v := ⟨_, rfl⟩
  obtain ⟨t0, v0, hx0⟩ := exV_iface x
  obtain ⟨t1, v1, hx1⟩ := exV_iface y
  have hcx : ∀ w : World, Blk w p 60 #[.int .i64 l] → Blk w q 3 #[.int .i64 n] → Calls Tryd.prog 30 #[meaningW p q, .iface t0 v0] w fun e w' => e = .returned (.int .i64 (weightE l n x)) ∧ Below w.heap.size w w' := by rw [← hx0]; exact ihx
  have hcy : ∀ w : World, Blk w p 60 #[.int .i64 l] → Blk w q 3 #[.int .i64 n] → Calls Tryd.prog 30 #[meaningW p q, .iface t1 v1] w fun e w' => e = .returned (.int .i64 (weightE l n y)) ∧ Below w.heap.size w w' := by rw [← hx1]; exact ihy
  have hsh : exV (.join x y) = .iface 77 (.agg #[.iface t0 v0, .iface t1 v1]) := by show Value.iface _ (.agg #[exV x, exV y]) = _; rw [hx0, hx1]
  have HCX := Lib.hid hcx
  have HCY := Lib.hid hcy
  rw [hsh]
  clear HX hxv hcx hx0 hsh ihx HY hcy hx1 ihy
  unfold meaningW at *
  obtain ⟨w2, hw2⟩ : ∃ w2, w2 = w1.alloc (.cells #[.iface t0 v0, .iface t1 v1] 77) := ⟨_, rfl⟩
  have hs1 : w1.heap.size = w.heap.size + 1 := by rw [hw1]; simp
  have HN2 : Hid (Blk w2 (w.heap.size + 1) 77 #[.iface t0 v0, .iface t1 v1]) := by rw [hw2, ← hs1]; exact Blk.new _ _ _
  have HM2 : Hid (Blk w2 w.heap.size 65 #[.func (Fn.func 44) #[] #[.pointer (some ⟨p, 0, none⟩)], .func (Fn.func 45) #[] #[], .func (Fn.func 46) #[] #[.pointer (some ⟨q, 0, none⟩)]]) := by rw [hw2]; exact HM.out.alloc _
  have HB2 : Hid (Below w.heap.size w w2) := by rw [hw2]; exact HB.out.alloc (by omega) _
  have HP2 : Hid (Blk w2 p 60 #[.int .i64 l]) := by rw [hw2]; exact HP.out.alloc _
  have HQ2 : Hid (Blk w2 q 3 #[.int .i64 n]) := by rw [hw2]; exact HQ.out.alloc _
  have hww : w2 = (w.alloc (.cells #[.func (Fn.func 44) #[] #[.pointer (some ⟨p, 0, none⟩)], .func (Fn.func 45) #[] #[], .func (Fn.func 46) #[] #[.pointer (some ⟨q, 0, none⟩)]] 65)).alloc (.cells #[.iface t0 v0, .iface t1 v1] 77) := by rw [hw2, hw1]
  clear HM HB hs1 hw1 hw2 HP HQ
  have tJL := taJL
  have tJJ := taJJ
  go_enter Tryd.func30, Tryd.ntmps30
  go_wp2_with fail
  rw [← hww]
  clear hww
  have KF : Hid (∀ w', Below w2.heap.size w2 w' → (Hid (Below w2.heap.size w2 w') ∧ w'.cell? ⟨w.heap.size, 0, none⟩ = some (.func (Fn.func 44) #[] #[.pointer (some ⟨p, 0, none⟩)]) ∧ w'.cell? ⟨w.heap.size, 1, none⟩ = some (.func (Fn.func 45) #[] #[]) ∧ w'.cell? ⟨w.heap.size, 2, none⟩ = some (.func (Fn.func 46) #[] #[.pointer (some ⟨q, 0, none⟩)]) ∧ w'.cell? ⟨w.heap.size + 1, 0, none⟩ = some (.iface t0 v0) ∧ w'.cell? ⟨w.heap.size + 1, 1, none⟩ = some (.iface t1 v1))) := fun w' h => by
    have km := HM2.out.below h HM2.out.lt
    have kn := HN2.out.below h HN2.out.lt
    exact ⟨h, km.cell 0, km.cell 1, km.cell 2, kn.cell 0, kn.cell 1⟩
  have hS0 := KF.out w2.drew ((Below.refl _ _).drew)
  refine wp_region_Z (S := fun w' => Hid (Below w2.heap.size w2 w') ∧ w'.cell? ⟨w.heap.size, 0, none⟩ = some (.func (Fn.func 44) #[] #[.pointer (some ⟨p, 0, none⟩)]) ∧ w'.cell? ⟨w.heap.size, 1, none⟩ = some (.func (Fn.func 45) #[] #[]) ∧ w'.cell? ⟨w.heap.size, 2, none⟩ = some (.func (Fn.func 46) #[] #[.pointer (some ⟨q, 0, none⟩)]) ∧ w'.cell? ⟨w.heap.size + 1, 0, none⟩ = some (.iface t0 v0) ∧ w'.cell? ⟨w.heap.size + 1, 1, none⟩ = some (.iface t1 v1)) (by kernel_rfl) hS0 (fun hS => ?_)
  clear hS0
  refine wpAnyZ_take (i := 0) (v := ?vu0) rfl (by kernel_rfl) (by kernel_rfl) (by kernel_rfl) (by kernel_rfl) (fun _ _ _ h => h) (Or.inl ⟨by rfl, ?yu0⟩) (by with_reducible assumption) ?ru0
  case yu0 => (intro w hSw; (try dsimp only at hSw); go_simp; (try with_reducible rfl))
  simp only [Act.put, List.setIfInBounds_toArray]
  refine wpAnyZ_take (i := 1) (v := ?vu1) rfl (by kernel_rfl) (by kernel_rfl) (by kernel_rfl) (by kernel_rfl) (fun _ _ _ h => h) (Or.inl ⟨by rfl, ?yu1⟩) (by with_reducible assumption) ?ru1
  case yu1 => (intro w hSw; (try dsimp only at hSw); go_simp; (try with_reducible rfl))
  simp only [Act.put]
  refine wpAnyZ_take (i := 2) (v := ?vu2) rfl (by kernel_rfl) (by kernel_rfl) (by kernel_rfl) (by kernel_rfl) (fun _ _ _ h => h) (Or.inl ⟨by rfl, ?yu2⟩) (by with_reducible assumption) ?ru2
  case yu2 => (intro w hSw; (try dsimp only at hSw); go_simp; (try with_reducible rfl))
  simp only [Act.put]
  refine wpAnyZ_take (i := 3) (v := ?vu3) rfl (by kernel_rfl) (by kernel_rfl) (by kernel_rfl) (by kernel_rfl) (fun _ _ _ h => h) (Or.inl ⟨by rfl, ?yu3⟩) (by with_reducible assumption) ?ru3
  case yu3 => (intro w hSw; (try dsimp only at hSw); go_simp; (try with_reducible rfl))
  simp only [Act.put]
  refine wpAnyZ_take (i := 4) (v := ?vu4) rfl (by kernel_rfl) (by kernel_rfl) (by kernel_rfl) (by kernel_rfl) (fun _ _ _ h => h) (Or.inl ⟨by rfl, ?yu4⟩) (by with_reducible assumption) ?ru4
  case yu4 => (intro w hSw; (try dsimp only at hSw); go_simp; (try with_reducible rfl))
  simp only [Act.put]
  refine wpAnyZ_take (i := 6) (v := ?vu6) rfl (by kernel_rfl) (by kernel_rfl) (by kernel_rfl) (by kernel_rfl) (fun _ _ _ h => h) (Or.inl ⟨by rfl, ?yu6⟩) (by with_reducible assumption) ?ru6
  case yu6 => (intro w hSw; (try dsimp only at hSw); go_simp; (try with_reducible rfl))
  simp only [Act.put]
  refine wpAnyZ_take (i := 7) (v := ?vu7) rfl (by kernel_rfl) (by kernel_rfl) (by kernel_rfl) (by kernel_rfl) (fun _ _ _ h => h) (Or.inl ⟨by rfl, ?yu7⟩) (by with_reducible assumption) ?ru7
  case yu7 => (intro w hSw; (try dsimp only at hSw); go_simp; (try with_reducible rfl))
  simp only [Act.put]
  refine wpAnyZ_take (i := 8) (v := ?vu8) rfl (by kernel_rfl) (by kernel_rfl) (by kernel_rfl) (by kernel_rfl) (fun _ _ _ h => h) (Or.inl ⟨by rfl, ?yu8⟩) (by with_reducible assumption) ?ru8
  case yu8 => (intro w hSw; (try dsimp only at hSw); go_simp; (try with_reducible rfl))
  simp only [Act.put]
  (try simp only [Act.put])
  refine wpAnyZ_step (i := 5) (by kernel_rfl) rfl ?_
  intro K1 hK1
  go_simp
  have D0 : Hid (Below w2.heap.size w2 w2.drew) := (Below.refl _ _).drew
  refine (HCX.out _ (HP2.out.below D0.out HP2.out.lt) (HQ2.out.below D0.out HQ2.out.lt)).mono ?_
  rintro e w3 ⟨rfl, hb3⟩
  have D3 := Lib.hid (D0.out.trans (hb3.mono D0.out.size))
  clear hb3
  refine hK1.out _ _ (KF.out _ D3.out) (fun hS1 => ?_)
  clear hK1
  (try simp only [Act.put])
  refine wpAnyZ_step (i := 9) (by kernel_rfl) rfl ?_
  intro K2 hK2
  go_simp
  refine (HCY.out _ (HP2.out.below D3.out HP2.out.lt) (HQ2.out.below D3.out HQ2.out.lt)).mono ?_
  rintro e w4 ⟨rfl, hb4⟩
  have D4 := Lib.hid (D3.out.trans (hb4.mono D3.out.size))
  clear hb4
  refine hK2.out _ _ (KF.out _ D4.out) (fun hS2 => ?_)
  clear hK2 hS1
  (try simp only [Act.put])
  refine wpAnyZ_step (i := 10) (by kernel_rfl) rfl ?_
  intro K3 hK3
  go_simp
  refine (plus_any _ _ _ hwx.1 hwx.2 hwy.1 hwy.2).mono ?_
  rintro e w5 ⟨rfl, rfl⟩
  refine hK3.out _ _ (KF.out _ D4.out) (fun hS3 => ?_)
  clear hK3
  (try simp only [Act.put])
  refine wpAnyZ_last (i := 11) (by kernel_rfl) rfl (by kernel_rfl) ?_
  intro K4 hK4
  go_simp
  refine hK4.out _ _ ?_
  clear hK4
  go_wp2_with fail
  go_ret
  exact ⟨rfl, HB2.out.trans (D4.out.mono HB2.out.size)⟩
theorem ofW_rep (p q : Nat) (l n : Int) (h0 : 0 ≤ l) (h1 : l ≤ 1000000) (hn : 0 ≤ n) (x : Ex) (ihx : OfW p q l n x) : OfW p q l n (.rep x) := by
  intro w hp hq
  obtain ⟨w1, hw1⟩ : ∃ w1, w1 = w.alloc (.cells #[.func (Fn.func 44) #[] #[.pointer (some ⟨p, 0, none⟩)], .func (Fn.func 45) #[] #[], .func (Fn.func 46) #[] #[.pointer (some ⟨q, 0, none⟩)]] 65) := ⟨_, rfl⟩
  have HM : Hid (Blk w1 w.heap.size 65 #[.func (Fn.func 44) #[] #[.pointer (some ⟨p, 0, none⟩)], .func (Fn.func 45) #[] #[], .func (Fn.func 46) #[] #[.pointer (some ⟨q, 0, none⟩)]]) := by rw [hw1]; exact Blk.new _ _ _
  have HB : Hid (Below w.heap.size w w1) := by rw [hw1]; exact (Below.refl _ _).alloc (Nat.le_refl _) _
  have HP : Hid (Blk w1 p 60 #[.int .i64 l]) := by rw [hw1]; exact hp.alloc _
  have HQ : Hid (Blk w1 q 3 #[.int .i64 n]) := by rw [hw1]; exact hq.alloc _
  clear hp hq
  have HX := Lib.hid ihx
  have hwx := weight_vld h0 h1 hn x
  have hxv : ∃ v, exV x = v := ⟨_, rfl⟩
  obtain ⟨t0, v0, hx0⟩ := exV_iface x
  have hcx : ∀ w : World, Blk w p 60 #[.int .i64 l] → Blk w q 3 #[.int .i64 n] → Calls Tryd.prog 30 #[meaningW p q, .iface t0 v0] w fun e w' => e = .returned (.int .i64 (weightE l n x)) ∧ Below w.heap.size w w' := by rw [← hx0]; exact ihx
  have hsh : exV (.rep x) = .iface 79 (.agg #[.iface t0 v0]) := by show Value.iface _ (.agg #[exV x]) = _; rw [hx0]
  have HCX := Lib.hid hcx
  rw [hsh]
  clear HX hxv hcx hx0 hsh ihx
  unfold meaningW at *
  obtain ⟨w2, hw2⟩ : ∃ w2, w2 = w1.alloc (.cells #[.iface t0 v0] 79) := ⟨_, rfl⟩
  have hs1 : w1.heap.size = w.heap.size + 1 := by rw [hw1]; simp
  have HN2 : Hid (Blk w2 (w.heap.size + 1) 79 #[.iface t0 v0]) := by rw [hw2, ← hs1]; exact Blk.new _ _ _
  have HM2 : Hid (Blk w2 w.heap.size 65 #[.func (Fn.func 44) #[] #[.pointer (some ⟨p, 0, none⟩)], .func (Fn.func 45) #[] #[], .func (Fn.func 46) #[] #[.pointer (some ⟨q, 0, none⟩)]]) := by rw [hw2]; exact HM.out.alloc _
  have HB2 : Hid (Below w.heap.size w w2) := by rw [hw2]; exact HB.out.alloc (by omega) _
  have HP2 : Hid (Blk w2 p 60 #[.int .i64 l]) := by rw [hw2]; exact HP.out.alloc _
  have HQ2 : Hid (Blk w2 q 3 #[.int .i64 n]) := by rw [hw2]; exact HQ.out.alloc _
  have hww : w2 = (w.alloc (.cells #[.func (Fn.func 44) #[] #[.pointer (some ⟨p, 0, none⟩)], .func (Fn.func 45) #[] #[], .func (Fn.func 46) #[] #[.pointer (some ⟨q, 0, none⟩)]] 65)).alloc (.cells #[.iface t0 v0] 79) := by rw [hw2, hw1]
  clear HM HB hs1 hw1 hw2 HP HQ
  have tRL := taRL
  have tRJ := taRJ
  have tRR := taRR
  go_enter Tryd.func30, Tryd.ntmps30
  go_wp2_with fail
  rw [← hww]
  clear hww
  have KF : Hid (∀ w', Below w2.heap.size w2 w' → (Hid (Below w2.heap.size w2 w') ∧ w'.cell? ⟨w.heap.size, 0, none⟩ = some (.func (Fn.func 44) #[] #[.pointer (some ⟨p, 0, none⟩)]) ∧ w'.cell? ⟨w.heap.size, 1, none⟩ = some (.func (Fn.func 45) #[] #[]) ∧ w'.cell? ⟨w.heap.size, 2, none⟩ = some (.func (Fn.func 46) #[] #[.pointer (some ⟨q, 0, none⟩)]) ∧ w'.cell? ⟨w.heap.size + 1, 0, none⟩ = some (.iface t0 v0))) := fun w' h => by
    have km := HM2.out.below h HM2.out.lt
    have kn := HN2.out.below h HN2.out.lt
    exact ⟨h, km.cell 0, km.cell 1, km.cell 2, kn.cell 0⟩
  have hS0 := KF.out w2.drew ((Below.refl _ _).drew)
  refine wp_region_Z (S := fun w' => Hid (Below w2.heap.size w2 w') ∧ w'.cell? ⟨w.heap.size, 0, none⟩ = some (.func (Fn.func 44) #[] #[.pointer (some ⟨p, 0, none⟩)]) ∧ w'.cell? ⟨w.heap.size, 1, none⟩ = some (.func (Fn.func 45) #[] #[]) ∧ w'.cell? ⟨w.heap.size, 2, none⟩ = some (.func (Fn.func 46) #[] #[.pointer (some ⟨q, 0, none⟩)]) ∧ w'.cell? ⟨w.heap.size + 1, 0, none⟩ = some (.iface t0 v0)) (by kernel_rfl) hS0 (fun hS => ?_)
  clear hS0
  refine wpAnyZ_take (i := 0) (v := ?vu0) rfl (by kernel_rfl) (by kernel_rfl) (by kernel_rfl) (by kernel_rfl) (fun _ _ _ h => h) (Or.inl ⟨by rfl, ?yu0⟩) (by with_reducible assumption) ?ru0
  case yu0 => (intro w hSw; (try dsimp only at hSw); go_simp; (try with_reducible rfl))
  simp only [Act.put, List.setIfInBounds_toArray]
  refine wpAnyZ_take (i := 1) (v := ?vu1) rfl (by kernel_rfl) (by kernel_rfl) (by kernel_rfl) (by kernel_rfl) (fun _ _ _ h => h) (Or.inl ⟨by rfl, ?yu1⟩) (by with_reducible assumption) ?ru1
  case yu1 => (intro w hSw; (try dsimp only at hSw); go_simp; (try with_reducible rfl))
  simp only [Act.put]
  refine wpAnyZ_take (i := 2) (v := ?vu2) rfl (by kernel_rfl) (by kernel_rfl) (by kernel_rfl) (by kernel_rfl) (fun _ _ _ h => h) (Or.inl ⟨by rfl, ?yu2⟩) (by with_reducible assumption) ?ru2
  case yu2 => (intro w hSw; (try dsimp only at hSw); go_simp; (try with_reducible rfl))
  simp only [Act.put]
  refine wpAnyZ_take (i := 3) (v := ?vu3) rfl (by kernel_rfl) (by kernel_rfl) (by kernel_rfl) (by kernel_rfl) (fun _ _ _ h => h) (Or.inl ⟨by rfl, ?yu3⟩) (by with_reducible assumption) ?ru3
  case yu3 => (intro w hSw; (try dsimp only at hSw); go_simp; (try with_reducible rfl))
  simp only [Act.put]
  refine wpAnyZ_take (i := 4) (v := ?vu4) rfl (by kernel_rfl) (by kernel_rfl) (by kernel_rfl) (by kernel_rfl) (fun _ _ _ h => h) (Or.inl ⟨by rfl, ?yu4⟩) (by with_reducible assumption) ?ru4
  case yu4 => (intro w hSw; (try dsimp only at hSw); go_simp; (try with_reducible rfl))
  simp only [Act.put]
  (try simp only [Act.put])
  refine wpAnyZ_step (i := 5) (by kernel_rfl) rfl ?_
  intro K1 hK1
  go_simp
  have D0 : Hid (Below w2.heap.size w2 w2.drew) := (Below.refl _ _).drew
  refine (HCX.out _ (HP2.out.below D0.out HP2.out.lt) (HQ2.out.below D0.out HQ2.out.lt)).mono ?_
  rintro e w3 ⟨rfl, hb3⟩
  have D3 := Lib.hid (D0.out.trans (hb3.mono D0.out.size))
  clear hb3
  refine hK1.out _ _ (KF.out _ D3.out) (fun hS1 => ?_)
  clear hK1
  (try simp only [Act.put])
  refine wpAnyZ_step (i := 6) (by kernel_rfl) rfl ?_
  intro K3 hK3
  go_simp
  refine (wRepeated_any q n _ _ (HQ2.out.below D3.out HQ2.out.lt) hn hwx.1 hwx.2).mono ?_
  rintro e w5 ⟨rfl, rfl⟩
  refine hK3.out _ _ (KF.out _ D3.out) (fun hS3 => ?_)
  clear hK3
  (try simp only [Act.put])
  refine wpAnyZ_last (i := 7) (by kernel_rfl) rfl (by kernel_rfl) ?_
  intro K4 hK4
  go_simp
  refine hK4.out _ _ ?_
  clear hK4
  go_wp2_with fail
  go_ret
  exact ⟨rfl, HB2.out.trans (D3.out.mono HB2.out.size)⟩
theorem ofW_all (p q : Nat) (l n : Int) (h0 : 0 ≤ l) (h1 : l ≤ 1000000) (hn : 0 ≤ n) : ∀ (x : Ex), OfW p q l n x
  | .lit b => ofW_lit p q l n h0 h1 hn b
  | .join x y => ofW_join p q l n h0 h1 hn x y (ofW_all p q l n h0 h1 hn x) (ofW_all p q l n h0 h1 hn y)
  | .rep x => ofW_rep p q l n h0 h1 hn x (ofW_all p q l n h0 h1 hn x)
end Go.Proofs.YtdhpcpmjdffgmaaDoor
