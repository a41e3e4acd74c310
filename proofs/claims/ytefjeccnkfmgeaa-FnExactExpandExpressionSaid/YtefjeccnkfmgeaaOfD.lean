/- How many repeated parts lie within each other: the meaning of nodes in numbers. Nothing that was there changes. No condition. -/
import Derived.Test.YtefjeccnkfmgeaaNodeOf
import Derived.Test.YtefjeccnkfmgeaaLastOp
import Derived.Shelf.RegionOpen
namespace Go.Proofs.Ytefjeccnkfmgeaa
open Go.RowKit
set_option maxHeartbeats 4000000
set_option maxRecDepth 100000
set_option linter.unusedVariables false

def depthE : Ex → Int
  | .lit _ => 0
  | .join x y => max (depthE x) (depthE y)
  | .rep x => depthE x + 1
def sizeE : Ex → Nat
  | .lit _ => 1
  | .join x y => sizeE x + sizeE y
  | .rep x => sizeE x + 3
theorem depth_le : ∀ x : Ex, 0 ≤ depthE x ∧ depthE x ≤ (sizeE x : Int)
  | .lit _ => ⟨Int.le_refl _, by simp [depthE, sizeE]⟩
  | .join x y => by
    obtain ⟨a, b⟩ := depth_le x
    obtain ⟨c, d⟩ := depth_le y
    simp only [depthE, sizeE]
    omega
  | .rep x => by
    obtain ⟨a, b⟩ := depth_le x
    simp only [depthE, sizeE]
    omega
theorem taLL (v : Value) (w : World) : (Instr.typeAssert (.iface 53 v) 30 53 true).run Try.prog w = .ok (.tuple #[v, .bool true]) w := by kernel_rfl
theorem taJL (v : Value) (w : World) : (Instr.typeAssert (.iface 55 v) 30 53 true).run Try.prog w = .ok (.tuple #[.string ⟨#[]⟩, .bool false]) w := by kernel_rfl
theorem taJJ (v : Value) (w : World) : (Instr.typeAssert (.iface 55 v) 30 55 true).run Try.prog w = .ok (.tuple #[v, .bool true]) w := by kernel_rfl
theorem taRL (v : Value) (w : World) : (Instr.typeAssert (.iface 57 v) 30 53 true).run Try.prog w = .ok (.tuple #[.string ⟨#[]⟩, .bool false]) w := by kernel_rfl
theorem taRJ (v : Value) (w : World) : (Instr.typeAssert (.iface 57 v) 30 55 true).run Try.prog w = .ok (.tuple #[.agg #[.nilIface, .nilIface], .bool false]) w := by kernel_rfl
theorem taRR (v : Value) (w : World) : (Instr.typeAssert (.iface 57 v) 30 57 true).run Try.prog w = .ok (.tuple #[v, .bool true]) w := by kernel_rfl
theorem dLetter_any (s : ByteArray) (w : World) :
    Calls Try.prog 29 #[.string s] w fun e w' => e = .returned (.int .i64 0) ∧ w' = w := by
  go_enter Try.func29, Try.ntmps29
  go_wp2_with fail
  go_ret
  exact ⟨rfl, rfl⟩
theorem dJoined_any (a b v : Int) (w : World) (hv : max a b = v) :
    Calls Try.prog 30 #[.int .i64 a, .int .i64 b] w fun e w' => e = .returned (.int .i64 v) ∧ w' = w := by
  subst hv
  by_cases h : a < b
  · have hm : max a b = b := by omega
    rw [hm]
    go_enter Try.func30, Try.ntmps30
    go_wp2_with fail
    go_ret
    exact ⟨rfl, rfl⟩
  · have hm : max a b = a := by omega
    rw [hm]
    go_enter Try.func30, Try.ntmps30
    go_wp2_with fail
    go_ret
    exact ⟨rfl, rfl⟩
theorem dRepeated_any (a : Int) (w : World) (h0 : 0 ≤ a) (h1 : a ≤ 1000000) :
    Calls Try.prog 31 #[.int .i64 a] w fun e w' => e = .returned (.int .i64 (a + 1)) ∧ w' = w := by
  have h2 : (0 : Int) ≤ a + 1 := by omega
  have h3 : a + 1 ≤ 1000001 := by omega
  go_enter Try.func31, Try.ntmps31
  go_wp2_with fail
  go_ret
  exact ⟨rfl, rfl⟩

def meaningD : Value := .agg #[.func (Fn.func 29) #[] #[], .func (Fn.func 30) #[] #[], .func (Fn.func 31) #[] #[]]
def OfD (x : Ex) : Prop := ∀ w : World, Calls Try.prog 21 #[meaningD, exV x] w fun e w' => e = .returned (.int .i64 (depthE x)) ∧ Below w.heap.size w w'
theorem ofD_lit (b : Bool) : OfD (.lit b) := by
  intro w
  obtain ⟨w1, hw1⟩ : ∃ w1, w1 = w.alloc (.cells #[.func (Fn.func 29) #[] #[], .func (Fn.func 30) #[] #[], .func (Fn.func 31) #[] #[]] 36) := ⟨_, rfl⟩
  have HM : Hid (Blk w1 w.heap.size 36 #[.func (Fn.func 29) #[] #[], .func (Fn.func 30) #[] #[], .func (Fn.func 31) #[] #[]]) := by rw [hw1]; exact Blk.new _ _ _
  have HB : Hid (Below w.heap.size w w1) := by rw [hw1]; exact (Below.refl _ _).alloc (Nat.le_refl _) _
  unfold meaningD exV
  have t1 := taLL
  have hal := hw1
  go_enter Try.func21, Try.ntmps21
  go_wp2_with fail
  rw [← hw1]
  clear hal hw1
  have m0 := HM.out.cell 0
  have m1 := HM.out.cell 1
  have m2 := HM.out.cell 2
  dsimp at m0 m1 m2
  go_wp2_with fail
  refine (dLetter_any _ _).mono ?_
  rintro e w' ⟨rfl, rfl⟩
  go_wp2_with fail
  go_ret
  exact ⟨rfl, HB.out⟩
theorem ofD_join (x y : Ex) (ihx : OfD x) (ihy : OfD y) : OfD (.join x y) := by
  intro w
  obtain ⟨w1, hw1⟩ : ∃ w1, w1 = w.alloc (.cells #[.func (Fn.func 29) #[] #[], .func (Fn.func 30) #[] #[], .func (Fn.func 31) #[] #[]] 36) := ⟨_, rfl⟩
  have HM : Hid (Blk w1 w.heap.size 36 #[.func (Fn.func 29) #[] #[], .func (Fn.func 30) #[] #[], .func (Fn.func 31) #[] #[]]) := by rw [hw1]; exact Blk.new _ _ _
  have HB : Hid (Below w.heap.size w w1) := by rw [hw1]; exact (Below.refl _ _).alloc (Nat.le_refl _) _
  have HX := Lib.hid ihx
  have HY := Lib.hid ihy
  have hxv : ∃ v, exV x = v := ⟨_, rfl⟩
  obtain ⟨t0, v0, hx0⟩ := exV_iface x
  obtain ⟨t1, v1, hx1⟩ := exV_iface y
  have hcx : ∀ w : World, Calls Try.prog 21 #[meaningD, .iface t0 v0] w fun e w' => e = .returned (.int .i64 (depthE x)) ∧ Below w.heap.size w w' := by rw [← hx0]; exact ihx
  have hcy : ∀ w : World, Calls Try.prog 21 #[meaningD, .iface t1 v1] w fun e w' => e = .returned (.int .i64 (depthE y)) ∧ Below w.heap.size w w' := by rw [← hx1]; exact ihy
  have hsh : exV (.join x y) = .iface 55 (.agg #[.iface t0 v0, .iface t1 v1]) := by show Value.iface _ (.agg #[exV x, exV y]) = _; rw [hx0, hx1]
  have HCX := Lib.hid hcx
  have HCY := Lib.hid hcy
  rw [hsh]
  clear HX hxv hcx hx0 hsh ihx HY hcy hx1 ihy
  unfold meaningD at *
  obtain ⟨w2, hw2⟩ : ∃ w2, w2 = w1.alloc (.cells #[.iface t0 v0, .iface t1 v1] 55) := ⟨_, rfl⟩
  have hs1 : w1.heap.size = w.heap.size + 1 := by rw [hw1]; simp
  have HN2 : Hid (Blk w2 (w.heap.size + 1) 55 #[.iface t0 v0, .iface t1 v1]) := by rw [hw2, ← hs1]; exact Blk.new _ _ _
  have HM2 : Hid (Blk w2 w.heap.size 36 #[.func (Fn.func 29) #[] #[], .func (Fn.func 30) #[] #[], .func (Fn.func 31) #[] #[]]) := by rw [hw2]; exact HM.out.alloc _
  have HB2 : Hid (Below w.heap.size w w2) := by rw [hw2]; exact HB.out.alloc (by omega) _
  have hww : w2 = (w.alloc (.cells #[.func (Fn.func 29) #[] #[], .func (Fn.func 30) #[] #[], .func (Fn.func 31) #[] #[]] 36)).alloc (.cells #[.iface t0 v0, .iface t1 v1] 55) := by rw [hw2, hw1]
  clear HM HB hs1 hw1 hw2
  have tJL := taJL
  have tJJ := taJJ
  go_enter Try.func21, Try.ntmps21
  go_wp2_with fail
  rw [← hww]
  clear hww
  have KF : Hid (∀ w', Below w2.heap.size w2 w' → (Hid (Below w2.heap.size w2 w') ∧ w'.cell? ⟨w.heap.size, 0, none⟩ = some (.func (Fn.func 29) #[] #[]) ∧ w'.cell? ⟨w.heap.size, 1, none⟩ = some (.func (Fn.func 30) #[] #[]) ∧ w'.cell? ⟨w.heap.size, 2, none⟩ = some (.func (Fn.func 31) #[] #[]) ∧ w'.cell? ⟨w.heap.size + 1, 0, none⟩ = some (.iface t0 v0) ∧ w'.cell? ⟨w.heap.size + 1, 1, none⟩ = some (.iface t1 v1))) := fun w' h => by
    have km := HM2.out.below h HM2.out.lt
    have kn := HN2.out.below h HN2.out.lt
    exact ⟨h, km.cell 0, km.cell 1, km.cell 2, kn.cell 0, kn.cell 1⟩
  have hS0 := KF.out w2.drew ((Below.refl _ _).drew)
  refine wp_region_Z (S := fun w' => Hid (Below w2.heap.size w2 w') ∧ w'.cell? ⟨w.heap.size, 0, none⟩ = some (.func (Fn.func 29) #[] #[]) ∧ w'.cell? ⟨w.heap.size, 1, none⟩ = some (.func (Fn.func 30) #[] #[]) ∧ w'.cell? ⟨w.heap.size, 2, none⟩ = some (.func (Fn.func 31) #[] #[]) ∧ w'.cell? ⟨w.heap.size + 1, 0, none⟩ = some (.iface t0 v0) ∧ w'.cell? ⟨w.heap.size + 1, 1, none⟩ = some (.iface t1 v1)) (by kernel_rfl) hS0 (fun hS => ?_)
  clear hS0
  refine wpAnyZ_take (i := 0) (v := ?vu0) rfl (by kernel_rfl) (by kernel_rfl) (by kernel_rfl) (by kernel_rfl) (fun _ _ _ h => h) (Or.inl ⟨by rfl, ?yu0⟩) (by with_reducible assumption) ?ru0
  case yu0 => (intro w hSw; (try dsimp only at hSw); go_simp; (try with_reducible rfl))
  simp only [Act.put, List.setIfInBounds_toArray]
  refine wpAnyZ_take (i := 1) (v := ?vu1) rfl (by kernel_rfl) (by kernel_rfl) (by kernel_rfl) (by kernel_rfl) (fun _ _ _ h => h) (Or.inl ⟨by rfl, ?yu1⟩) (by with_reducible assumption) ?ru1
  case yu1 => (intro w hSw; (try dsimp only at hSw); go_simp; (try with_reducible rfl))
  simp only [Act.put]
  refine wpAnyZ_take (i := 2) (v := ?vu2) rfl (by kernel_rfl) (by kernel_rfl) (by kernel_rfl) (by kernel_rfl) (fun _ _ _ h => h) (Or.inl ⟨by rfl, ?yu2⟩) (by with_reducible assumption) ?ru2
  case yu2 => (intro w hSw; (try dsimp only at hSw); go_simp; (try with_reducible rfl))
  simp only [Act.put]
  refine wpAnyZ_take (i := 3) (v := ?vu3) rfl (by kernel_rfl) (by kernel_rfl) (by kernel_rfl) (by kernel_rfl) (fun _ _ _ h => h) (Or.inl ⟨by rfl, ?yu3⟩) (by with_reducible assumption) ?ru3
  case yu3 => (intro w hSw; (try dsimp only at hSw); go_simp; (try with_reducible rfl))
  simp only [Act.put]
  refine wpAnyZ_take (i := 4) (v := ?vu4) rfl (by kernel_rfl) (by kernel_rfl) (by kernel_rfl) (by kernel_rfl) (fun _ _ _ h => h) (Or.inl ⟨by rfl, ?yu4⟩) (by with_reducible assumption) ?ru4
  case yu4 => (intro w hSw; (try dsimp only at hSw); go_simp; (try with_reducible rfl))
  simp only [Act.put]
  refine wpAnyZ_take (i := 6) (v := ?vu6) rfl (by kernel_rfl) (by kernel_rfl) (by kernel_rfl) (by kernel_rfl) (fun _ _ _ h => h) (Or.inl ⟨by rfl, ?yu6⟩) (by with_reducible assumption) ?ru6
  case yu6 => (intro w hSw; (try dsimp only at hSw); go_simp; (try with_reducible rfl))
  simp only [Act.put]
  refine wpAnyZ_take (i := 7) (v := ?vu7) rfl (by kernel_rfl) (by kernel_rfl) (by kernel_rfl) (by kernel_rfl) (fun _ _ _ h => h) (Or.inl ⟨by rfl, ?yu7⟩) (by with_reducible assumption) ?ru7
  case yu7 => (intro w hSw; (try dsimp only at hSw); go_simp; (try with_reducible rfl))
  simp only [Act.put]
  refine wpAnyZ_take (i := 8) (v := ?vu8) rfl (by kernel_rfl) (by kernel_rfl) (by kernel_rfl) (by kernel_rfl) (fun _ _ _ h => h) (Or.inl ⟨by rfl, ?yu8⟩) (by with_reducible assumption) ?ru8
  case yu8 => (intro w hSw; (try dsimp only at hSw); go_simp; (try with_reducible rfl))
  simp only [Act.put]
  (try simp only [Act.put])
  refine wpAnyZ_step (i := 5) (by kernel_rfl) rfl ?_
  intro K1 hK1
  go_simp
  have D0 : Hid (Below w2.heap.size w2 w2.drew) := (Below.refl _ _).drew
  refine (HCX.out _).mono ?_
  rintro e w3 ⟨rfl, hb3⟩
  have D3 := Lib.hid (D0.out.trans (hb3.mono D0.out.size))
  clear hb3
  refine hK1.out _ _ (KF.out _ D3.out) (fun hS1 => ?_)
  clear hK1
  (try simp only [Act.put])
  refine wpAnyZ_step (i := 9) (by kernel_rfl) rfl ?_
  intro K2 hK2
  go_simp
  refine (HCY.out _).mono ?_
  rintro e w4 ⟨rfl, hb4⟩
  have D4 := Lib.hid (D3.out.trans (hb4.mono D3.out.size))
  clear hb4
  refine hK2.out _ _ (KF.out _ D4.out) (fun hS2 => ?_)
  clear hK2 hS1
  (try simp only [Act.put])
  refine wpAnyZ_step (i := 10) (by kernel_rfl) rfl ?_
  intro K3 hK3
  go_simp
  refine (dJoined_any _ _ (depthE (.join x y)) _ rfl).mono ?_
  rintro e w5 ⟨rfl, rfl⟩
  refine hK3.out _ _ (KF.out _ D4.out) (fun hS3 => ?_)
  clear hK3
  (try simp only [Act.put])
  refine wpAnyZ_last (i := 11) (by kernel_rfl) rfl (by kernel_rfl) ?_
  intro K4 hK4
  go_simp
  refine hK4.out _ _ ?_
  clear hK4
  go_wp2_with fail
  go_ret
  exact ⟨rfl, HB2.out.trans (D4.out.mono HB2.out.size)⟩
theorem ofD_rep (x : Ex) (hx : sizeE x ≤ 1000000) (ihx : OfD x) : OfD (.rep x) := by
  intro w
  obtain ⟨w1, hw1⟩ : ∃ w1, w1 = w.alloc (.cells #[.func (Fn.func 29) #[] #[], .func (Fn.func 30) #[] #[], .func (Fn.func 31) #[] #[]] 36) := ⟨_, rfl⟩
  have HM : Hid (Blk w1 w.heap.size 36 #[.func (Fn.func 29) #[] #[], .func (Fn.func 30) #[] #[], .func (Fn.func 31) #[] #[]]) := by rw [hw1]; exact Blk.new _ _ _
  have HB : Hid (Below w.heap.size w w1) := by rw [hw1]; exact (Below.refl _ _).alloc (Nat.le_refl _) _
  have HX := Lib.hid ihx
  have hxv : ∃ v, exV x = v := ⟨_, rfl⟩
  obtain ⟨t0, v0, hx0⟩ := exV_iface x
  have hcx : ∀ w : World, Calls Try.prog 21 #[meaningD, .iface t0 v0] w fun e w' => e = .returned (.int .i64 (depthE x)) ∧ Below w.heap.size w w' := by rw [← hx0]; exact ihx
  have hsh : exV (.rep x) = .iface 57 (.agg #[.iface t0 v0]) := by show Value.iface _ (.agg #[exV x]) = _; rw [hx0]
  have HCX := Lib.hid hcx
  rw [hsh]
  clear HX hxv hcx hx0 hsh ihx
  unfold meaningD at *
  obtain ⟨w2, hw2⟩ : ∃ w2, w2 = w1.alloc (.cells #[.iface t0 v0] 57) := ⟨_, rfl⟩
  have hs1 : w1.heap.size = w.heap.size + 1 := by rw [hw1]; simp
  have HN2 : Hid (Blk w2 (w.heap.size + 1) 57 #[.iface t0 v0]) := by rw [hw2, ← hs1]; exact Blk.new _ _ _
  have HM2 : Hid (Blk w2 w.heap.size 36 #[.func (Fn.func 29) #[] #[], .func (Fn.func 30) #[] #[], .func (Fn.func 31) #[] #[]]) := by rw [hw2]; exact HM.out.alloc _
  have HB2 : Hid (Below w.heap.size w w2) := by rw [hw2]; exact HB.out.alloc (by omega) _
  have hww : w2 = (w.alloc (.cells #[.func (Fn.func 29) #[] #[], .func (Fn.func 30) #[] #[], .func (Fn.func 31) #[] #[]] 36)).alloc (.cells #[.iface t0 v0] 57) := by rw [hw2, hw1]
  clear HM HB hs1 hw1 hw2
  have tRL := taRL
  have tRJ := taRJ
  have tRR := taRR
  go_enter Try.func21, Try.ntmps21
  go_wp2_with fail
  rw [← hww]
  clear hww
  have KF : Hid (∀ w', Below w2.heap.size w2 w' → (Hid (Below w2.heap.size w2 w') ∧ w'.cell? ⟨w.heap.size, 0, none⟩ = some (.func (Fn.func 29) #[] #[]) ∧ w'.cell? ⟨w.heap.size, 1, none⟩ = some (.func (Fn.func 30) #[] #[]) ∧ w'.cell? ⟨w.heap.size, 2, none⟩ = some (.func (Fn.func 31) #[] #[]) ∧ w'.cell? ⟨w.heap.size + 1, 0, none⟩ = some (.iface t0 v0))) := fun w' h => by
    have km := HM2.out.below h HM2.out.lt
    have kn := HN2.out.below h HN2.out.lt
    exact ⟨h, km.cell 0, km.cell 1, km.cell 2, kn.cell 0⟩
  have hS0 := KF.out w2.drew ((Below.refl _ _).drew)
  refine wp_region_Z (S := fun w' => Hid (Below w2.heap.size w2 w') ∧ w'.cell? ⟨w.heap.size, 0, none⟩ = some (.func (Fn.func 29) #[] #[]) ∧ w'.cell? ⟨w.heap.size, 1, none⟩ = some (.func (Fn.func 30) #[] #[]) ∧ w'.cell? ⟨w.heap.size, 2, none⟩ = some (.func (Fn.func 31) #[] #[]) ∧ w'.cell? ⟨w.heap.size + 1, 0, none⟩ = some (.iface t0 v0)) (by kernel_rfl) hS0 (fun hS => ?_)
  clear hS0
  refine wpAnyZ_take (i := 0) (v := ?vu0) rfl (by kernel_rfl) (by kernel_rfl) (by kernel_rfl) (by kernel_rfl) (fun _ _ _ h => h) (Or.inl ⟨by rfl, ?yu0⟩) (by with_reducible assumption) ?ru0
  case yu0 => (intro w hSw; (try dsimp only at hSw); go_simp; (try with_reducible rfl))
  simp only [Act.put, List.setIfInBounds_toArray]
  refine wpAnyZ_take (i := 1) (v := ?vu1) rfl (by kernel_rfl) (by kernel_rfl) (by kernel_rfl) (by kernel_rfl) (fun _ _ _ h => h) (Or.inl ⟨by rfl, ?yu1⟩) (by with_reducible assumption) ?ru1
  case yu1 => (intro w hSw; (try dsimp only at hSw); go_simp; (try with_reducible rfl))
  simp only [Act.put]
  refine wpAnyZ_take (i := 2) (v := ?vu2) rfl (by kernel_rfl) (by kernel_rfl) (by kernel_rfl) (by kernel_rfl) (fun _ _ _ h => h) (Or.inl ⟨by rfl, ?yu2⟩) (by with_reducible assumption) ?ru2
  case yu2 => (intro w hSw; (try dsimp only at hSw); go_simp; (try with_reducible rfl))
  simp only [Act.put]
  refine wpAnyZ_take (i := 3) (v := ?vu3) rfl (by kernel_rfl) (by kernel_rfl) (by kernel_rfl) (by kernel_rfl) (fun _ _ _ h => h) (Or.inl ⟨by rfl, ?yu3⟩) (by with_reducible assumption) ?ru3
  case yu3 => (intro w hSw; (try dsimp only at hSw); go_simp; (try with_reducible rfl))
  simp only [Act.put]
  refine wpAnyZ_take (i := 4) (v := ?vu4) rfl (by kernel_rfl) (by kernel_rfl) (by kernel_rfl) (by kernel_rfl) (fun _ _ _ h => h) (Or.inl ⟨by rfl, ?yu4⟩) (by with_reducible assumption) ?ru4
  case yu4 => (intro w hSw; (try dsimp only at hSw); go_simp; (try with_reducible rfl))
  simp only [Act.put]
  (try simp only [Act.put])
  refine wpAnyZ_step (i := 5) (by kernel_rfl) rfl ?_
  intro K1 hK1
  go_simp
  have D0 : Hid (Below w2.heap.size w2 w2.drew) := (Below.refl _ _).drew
  refine (HCX.out _).mono ?_
  rintro e w3 ⟨rfl, hb3⟩
  have D3 := Lib.hid (D0.out.trans (hb3.mono D0.out.size))
  clear hb3
  refine hK1.out _ _ (KF.out _ D3.out) (fun hS1 => ?_)
  clear hK1
  (try simp only [Act.put])
  refine wpAnyZ_step (i := 6) (by kernel_rfl) rfl ?_
  intro K3 hK3
  go_simp
  refine (dRepeated_any _ _ (depth_le x).1 (by have := (depth_le x).2; omega)).mono ?_
  rintro e w5 ⟨rfl, rfl⟩
  refine hK3.out _ _ (KF.out _ D3.out) (fun hS3 => ?_)
  clear hK3
  (try simp only [Act.put])
  refine wpAnyZ_last (i := 7) (by kernel_rfl) rfl (by kernel_rfl) ?_
  intro K4 hK4
  go_simp
  refine hK4.out _ _ ?_
  clear hK4
  go_wp2_with fail
  go_ret
  exact ⟨rfl, HB2.out.trans (D3.out.mono HB2.out.size)⟩
theorem ofD_all : ∀ (x : Ex), sizeE x ≤ 1000000 → OfD x
  | .lit b, _ => ofD_lit b
  | .join x y, h => ofD_join x y (ofD_all x (by simp only [sizeE] at h; omega)) (ofD_all y (by simp only [sizeE] at h; omega))
  | .rep x, h => ofD_rep x (by simp only [sizeE] at h; omega) (ofD_all x (by simp only [sizeE] at h; omega))
end Go.Proofs.Ytefjeccnkfmgeaa
