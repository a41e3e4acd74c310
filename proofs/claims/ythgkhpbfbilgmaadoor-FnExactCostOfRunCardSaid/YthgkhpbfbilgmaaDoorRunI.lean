/- The program's cost of a list of states as a run by a word. Conditions: at most four states, steps between them, each for a move of its own; a word of the two letters. -/
import Derived.Test.YthgkhpbfbilgmaaDoorCostM
namespace Go.Proofs.YthgkhpbfbilgmaaDoor
open Go.RowKit
set_option maxHeartbeats 4000000
set_option maxRecDepth 100000
set_option linter.unusedVariables false

/-- What the step behind letter k costs, if the list is to be a run. -/
def stP (F : Int → ByteArray → Int → Option Int) (l : ByteArray) (zs : List Int) (k : Nat) : Option Int := F (zs.getD k 0) (ltr (l.data.toList.getD k 0)) (zs.getD (k + 1) 0)
def runF (st : Nat → Option Int) : Nat → Option Int
  | 0 => some 0
  | k + 1 => match runF st k with | none => none | some a => (st k).map (a + ·)
theorem runF_some {st : Nat → Option Int} {k : Nat} {a c : Int} (h : runF st k = some a) (hc : st k = some c) : runF st (k + 1) = some (a + c) := by simp [runF, h, hc]
theorem runF_none {st : Nat → Option Int} {k : Nat} (hc : st k = none) : runF st (k + 1) = none := by
  unfold runF; rw [hc]; cases runF st k <;> rfl
theorem runF_gone {st : Nat → Option Int} {k : Nat} (h : runF st k = none) : ∀ m, k ≤ m → runF st m = none
  | 0, hm => by obtain rfl : k = 0 := by omega
                exact h
  | m + 1, hm => by
    by_cases e : k = m + 1
    · rw [← e]; exact h
    · have ih := runF_gone h m (by omega)
      unfold runF; rw [ih]
theorem runF_in {st : Nat → Option Int} (hst : ∀ k c, st k = some c → 0 ≤ c ∧ c ≤ 3) : ∀ {k : Nat} {a : Int}, runF st k = some a → 0 ≤ a ∧ a ≤ 3 * k
  | 0, a, h => by cases h; omega
  | k + 1, a, h => by
    unfold runF at h
    rcases h1 : runF st k with _ | a' <;> rw [h1] at h
    · cases h
    · rcases h2 : st k with _ | c <;> rw [h2] at h
      · cases h
      · have e : a' + c = a := by simpa using h
        have := runF_in hst h1
        have := hst k c h2
        omega
def runO (F : Int → ByteArray → Int → Option Int) (xs ys : List Int) (l : ByteArray) (zs : List Int) : Option Int := if zs.length = l.size + 1 ∧ hasB xs (zs.getD 0 0) = true ∧ hasB ys (zs.getD l.size 0) = true then runF (stP F l zs) l.size else none

theorem letter_at {l : ByteArray} {k : Nat} (hk : k < l.size) : l.data.toList.getD k 0 = l[k] := by
  have hl : k < l.data.toList.length := by rw [← Lib.size_eq]; exact hk
  rw [List.getD_eq_getElem?_getD, List.getElem?_eq_getElem hl]; rfl
theorem hasB_in {xs : List Int} {n : Int} (h : ∀ x ∈ xs, 0 ≤ x ∧ x < n) {p : Int} (hp : hasB xs p = true) : 0 ≤ p ∧ p < n := h p (by unfold hasB at hp; simpa using hp)
theorem has_any (xs : List Int) (n p : Int) (b : Bool) (w : World) (hn : n ≤ 4) (hx : ∀ x ∈ xs, 0 ≤ x ∧ x < n) (hb : hasB xs p = b) :
    Calls Tryd.prog 76 #[.agg #[.bool (hasB xs 0), .bool (hasB xs 1), .bool (hasB xs 2), .bool (hasB xs 3)], .int .i64 p] w fun e w' => e = .returned (.bool b) ∧ Below w.heap.size w w' := by
  have B0 := Lib.hid (below_a1 w (.cells #[.bool (hasB xs 0), .bool (hasB xs 1), .bool (hasB xs 2), .bool (hasB xs 3)] 55))
  by_cases h0 : 0 ≤ p
  · by_cases h4 : p < 4
    · obtain ⟨k, rfl⟩ : ∃ k : Nat, p = (k : Int) := ⟨p.toNat, by omega⟩
      have hk : k < 4 := by omega
      have HB := Lib.hid hb
      clear hb
      rcases four_cases hk with rfl | rfl | rfl | rfl
      all_goals
        go_enter Tryd.func76, Tryd.ntmps76
        go_wp2_with fail
        go_ret
        exact ⟨by rw [← HB.out]; rfl, B0.out⟩
    · have e : b = false := by
        cases b
        · rfl
        · have := hasB_in hx hb; omega
      subst e
      clear hb hx
      go_enter Tryd.func76, Tryd.ntmps76
      go_wp2_with fail
      go_ret
      exact ⟨rfl, B0.out⟩
  · have e : b = false := by
      cases b
      · rfl
      · have := hasB_in hx hb; omega
    subst e
    clear hb hx
    go_enter Tryd.func76, Tryd.ntmps76
    go_wp2_with fail
    go_ret
    exact ⟨rfl, B0.out⟩

theorem costOfRun_any (n M cnt : Nat) (xs ys : List Int) (ss : List StepD) (l : ByteArray) (zs : List Int) (Az : Option Addr) (cz : Nat) (r : Option Int) (w : World) (n2 : n ≤ 4) (hx : ∀ x ∈ xs, 0 ≤ x ∧ x < (n : Int)) (hy : ∀ y ∈ ys, 0 ≤ y ∧ y < (n : Int)) (hok : ∀ s ∈ ss, stepOk n s = true) (hs : l.size ≤ 1000) (hw : l.data.toList.all isAB = true) (hz : Ints w w.heap.size Az zs) (hwf : ∀ z ∈ zs, (Lit.int .i64 z).wf = true) (hM : CMap w M cnt (costAt ss)) (hr : runO (costAt ss) xs ys l zs = r) :
    Calls Tryd.prog 48 #[.agg #[.int .i64 n, .bool (hasB xs 0), .bool (hasB xs 1), .bool (hasB xs 2), .bool (hasB xs 3), .bool (hasB ys 0), .bool (hasB ys 1), .bool (hasB ys 2), .bool (hasB ys 3), .map (some M)], .string l, .slice Az zs.length cz] w fun e w' => e = .returned (.tuple #[.int .i64 (r.getD 0), .bool r.isSome]) ∧ Below w.heap.size w w' := by
  have HX := Lib.hid hx
  have HY := Lib.hid hy
  have HOK := Lib.hid hok
  have HW := Lib.hid hw
  have HWF := Lib.hid hwf
  have hzl := hz.len
  have hMw := hM.lt
  have B0 := Lib.hid (below_a1 w (.cells #[.int .i64 n, .bool (hasB xs 0), .bool (hasB xs 1), .bool (hasB xs 2), .bool (hasB xs 3), .bool (hasB ys 0), .bool (hasB ys 1), .bool (hasB ys 2), .bool (hasB ys 3), .map (some M)] 58))
  have K0 := Lib.hid (Blk.new w 58 #[.int .i64 n, .bool (hasB xs 0), .bool (hasB xs 1), .bool (hasB xs 2), .bool (hasB xs 3), .bool (hasB ys 0), .bool (hasB ys 1), .bool (hasB ys 2), .bool (hasB ys 3), .map (some M)])
  have HZ := Lib.hid (ints_al hz (.cells #[.int .i64 n, .bool (hasB xs 0), .bool (hasB xs 1), .bool (hasB xs 2), .bool (hasB xs 3), .bool (hasB ys 0), .bool (hasB ys 1), .bool (hasB ys 2), .bool (hasB ys 3), .map (some M)] 58))
  have MM := Lib.hid (hM.kept (World.grownBy_alloc w (.cells #[.int .i64 n, .bool (hasB xs 0), .bool (hasB xs 1), .bool (hasB xs 2), .bool (hasB xs 3), .bool (hasB ys 0), .bool (hasB ys 1), .bool (hasB ys 2), .bool (hasB ys 3), .map (some M)] 58) none) (by simp))
  clear hx hy hok hw hwf hz hM
  go_enter Tryd.func48, Tryd.ntmps48
  go_wp2_with fail
  generalize w.alloc (.cells #[.int .i64 n, .bool (hasB xs 0), .bool (hasB xs 1), .bool (hasB xs 2), .bool (hasB xs 3), .bool (hasB ys 0), .bool (hasB ys 1), .bool (hasB ys 2), .bool (hasB ys 3), .map (some M)] 58) = w1 at B0 K0 HZ MM ⊢
  have KS : Hid (∀ w', Below w1.heap.size w1 w' → (Hid (Below w1.heap.size w1 w') ∧ w'.cell? ⟨w.heap.size, 1, none⟩ = some (.bool (hasB xs 0)) ∧ w'.cell? ⟨w.heap.size, 2, none⟩ = some (.bool (hasB xs 1)) ∧ w'.cell? ⟨w.heap.size, 3, none⟩ = some (.bool (hasB xs 2)) ∧ w'.cell? ⟨w.heap.size, 4, none⟩ = some (.bool (hasB xs 3)) ∧ w'.cell? ⟨w.heap.size, 5, none⟩ = some (.bool (hasB ys 0)) ∧ w'.cell? ⟨w.heap.size, 6, none⟩ = some (.bool (hasB ys 1)) ∧ w'.cell? ⟨w.heap.size, 7, none⟩ = some (.bool (hasB ys 2)) ∧ w'.cell? ⟨w.heap.size, 8, none⟩ = some (.bool (hasB ys 3)))) := fun w' h => by
    have a := blk_b K0.out h
    exact ⟨h, a.cell 1, a.cell 2, a.cell 3, a.cell 4, a.cell 5, a.cell 6, a.cell 7, a.cell 8⟩
  have hS0 := KS.out w1.drew ((Below.refl _ _).drew)
  have hn4 : (n : Int) ≤ 4 := by omega
  have hwl : IntKind.i64.wrap ((l.size : Int) + 1) = (l.size : Int) + 1 := IntWalk.i64_in _ (by omega)
  by_cases hlen : zs.length = l.size + 1
  · obtain ⟨zb, zo, z0, rfl, hzb, hc0, _, hg0⟩ := HZ.out.at_ (k := 0) (by omega)
    obtain ⟨_, _, ze, he, _, hce, _, hge⟩ := HZ.out.at_ (k := l.size) (by omega)
    cases he
    simp at hc0
    have heq : ((zs.length : Int) != ((l.size : Int) + 1)) = false := by rw [hlen]; simp
    have i0 : (0 : Int) < (zs.length : Int) := by omega
    have i0n : 0 < zs.length := by omega
    have ien : l.size < zs.length := by omega
    have ie : (l.size : Int) < (zs.length : Int) := by omega
    have KZ : Hid (∀ w', Below w1.heap.size w1 w' → (Hid (Below w1.heap.size w1 w') ∧ w'.cell? ⟨w.heap.size, 1, none⟩ = some (.bool (hasB xs 0)) ∧ w'.cell? ⟨w.heap.size, 2, none⟩ = some (.bool (hasB xs 1)) ∧ w'.cell? ⟨w.heap.size, 3, none⟩ = some (.bool (hasB xs 2)) ∧ w'.cell? ⟨w.heap.size, 4, none⟩ = some (.bool (hasB xs 3)) ∧ w'.cell? ⟨w.heap.size, 5, none⟩ = some (.bool (hasB ys 0)) ∧ w'.cell? ⟨w.heap.size, 6, none⟩ = some (.bool (hasB ys 1)) ∧ w'.cell? ⟨w.heap.size, 7, none⟩ = some (.bool (hasB ys 2)) ∧ w'.cell? ⟨w.heap.size, 8, none⟩ = some (.bool (hasB ys 3)) ∧ w'.cell? ⟨zb, zo, none⟩ = some (.int .i64 z0) ∧ w'.cell? ⟨zb, zo + l.size, none⟩ = some (.int .i64 ze))) := fun w' h => by
      have s := KS.out w' h
      obtain ⟨s0, s1, s2, s3, s4, s5, s6, s7, s8⟩ := s
      exact ⟨s0, s1, s2, s3, s4, s5, s6, s7, s8, (h.cell (p := ⟨zb, zo, none⟩) hzb).trans hc0, (h.cell (p := ⟨zb, zo + l.size, none⟩) hzb).trans hce⟩
    have hS1 := KZ.out w1.drew ((Below.refl _ _).drew)
    clear hS0
    obtain ⟨b0, hb0⟩ : ∃ b, hasB xs z0 = b := ⟨_, rfl⟩
    obtain ⟨be, hbe⟩ : ∃ b, hasB ys ze = b := ⟨_, rfl⟩
    have HB0 := Lib.hid hb0
    have HBE := Lib.hid hbe
    have HLEN := Lib.hid hlen
    have HG0 := Lib.hid hg0
    have HGE := Lib.hid hge
    clear hc0 hce hb0 hbe hlen hg0 hge
    cases b0
    · have e : r = none := by
        rw [← hr]; unfold runO; rw [if_neg (fun h => by have h2 := h.2.1; rw [HG0.out, HB0.out] at h2; cases h2)]
      subst e
      clear hr
      refine wp_region_Z (S := fun w' => Hid (Below w1.heap.size w1 w') ∧ w'.cell? ⟨w.heap.size, 1, none⟩ = some (.bool (hasB xs 0)) ∧ w'.cell? ⟨w.heap.size, 2, none⟩ = some (.bool (hasB xs 1)) ∧ w'.cell? ⟨w.heap.size, 3, none⟩ = some (.bool (hasB xs 2)) ∧ w'.cell? ⟨w.heap.size, 4, none⟩ = some (.bool (hasB xs 3)) ∧ w'.cell? ⟨w.heap.size, 5, none⟩ = some (.bool (hasB ys 0)) ∧ w'.cell? ⟨w.heap.size, 6, none⟩ = some (.bool (hasB ys 1)) ∧ w'.cell? ⟨w.heap.size, 7, none⟩ = some (.bool (hasB ys 2)) ∧ w'.cell? ⟨w.heap.size, 8, none⟩ = some (.bool (hasB ys 3)) ∧ w'.cell? ⟨zb, zo, none⟩ = some (.int .i64 z0) ∧ w'.cell? ⟨zb, zo + l.size, none⟩ = some (.int .i64 ze)) (by kernel_rfl) hS1 (fun hS => ?_)
      clear hS1
      refine wpAnyZ_take (i := 0) (v := ?ve0) rfl (by kernel_rfl) (by kernel_rfl) (by kernel_rfl) (by kernel_rfl) (fun _ _ _ h => h) (Or.inl ⟨by rfl, ?ye0⟩) (by with_reducible assumption) ?re0
      case ye0 => (intro w hSw; (try dsimp only at hSw); go_simp; (try with_reducible rfl))
      simp only [Act.put, List.setIfInBounds_toArray]
      refine wpAnyZ_take (i := 1) (v := ?ve1) rfl (by kernel_rfl) (by kernel_rfl) (by kernel_rfl) (by kernel_rfl) (fun _ _ _ h => h) (Or.inl ⟨by rfl, ?ye1⟩) (by with_reducible assumption) ?re1
      case ye1 => (intro w hSw; (try dsimp only at hSw); go_simp; (try with_reducible rfl))
      simp only [Act.put]
      refine wpAnyZ_take (i := 2) (v := ?ve2) rfl (by kernel_rfl) (by kernel_rfl) (by kernel_rfl) (by kernel_rfl) (fun _ _ _ h => h) (Or.inl ⟨by rfl, ?ye2⟩) (by with_reducible assumption) ?re2
      case ye2 => (intro w hSw; (try dsimp only at hSw); go_simp; (try with_reducible rfl))
      simp only [Act.put]
      refine wpAnyZ_take (i := 3) (v := ?ve3) rfl (by kernel_rfl) (by kernel_rfl) (by kernel_rfl) (by kernel_rfl) (fun _ _ _ h => h) (Or.inl ⟨by rfl, ?ye3⟩) (by with_reducible assumption) ?re3
      case ye3 => (intro w hSw; (try dsimp only at hSw); go_simp; (try with_reducible rfl))
      simp only [Act.put]
      refine wpAnyZ_take (i := 4) (v := ?ve4) rfl (by kernel_rfl) (by kernel_rfl) (by kernel_rfl) (by kernel_rfl) (fun _ _ _ h => h) (Or.inl ⟨by rfl, ?ye4⟩) (by with_reducible assumption) ?re4
      case ye4 => (intro w hSw; (try dsimp only at hSw); go_simp; (try with_reducible rfl))
      simp only [Act.put]
      refine wpAnyZ_take (i := 5) (v := ?ve5) rfl (by kernel_rfl) (by kernel_rfl) (by kernel_rfl) (by kernel_rfl) (fun _ _ _ h => h) (Or.inl ⟨by rfl, ?ye5⟩) (by with_reducible assumption) ?re5
      case ye5 => (intro w hSw; (try dsimp only at hSw); go_simp; (try with_reducible rfl))
      simp only [Act.put]
      refine wpAnyZ_take (i := 6) (v := ?ve6) rfl (by kernel_rfl) (by kernel_rfl) (by kernel_rfl) (by kernel_rfl) (fun _ _ _ h => h) (Or.inl ⟨by rfl, ?ye6⟩) (by with_reducible assumption) ?re6
      case ye6 => (intro w hSw; (try dsimp only at hSw); go_simp; (try with_reducible rfl))
      simp only [Act.put]
      refine wpAnyZ_take (i := 7) (v := ?vf7) rfl (by kernel_rfl) (by kernel_rfl) (by kernel_rfl) (by kernel_rfl) (fun _ _ _ h => h) (Or.inl ⟨by kernel_rfl, ?yf7⟩) (by with_reducible assumption) ?rf7
      case yf7 => (intro w hSw; (try dsimp only at hSw); go_simp; (try with_reducible rfl))
      simp only [Act.put]
      refine wpAnyZ_take (i := 8) (v := ?vf8) rfl (by kernel_rfl) (by kernel_rfl) (by kernel_rfl) (by kernel_rfl) (fun _ _ _ h => h) (Or.inl ⟨by kernel_rfl, ?yf8⟩) (by with_reducible assumption) ?rf8
      case yf8 => (intro w hSw; (try dsimp only at hSw); go_simp; (try with_reducible rfl))
      simp only [Act.put]
      refine wpAnyZ_take (i := 9) (v := ?vf9) rfl (by kernel_rfl) (by kernel_rfl) (by kernel_rfl) (by kernel_rfl) (fun _ _ _ h => h) (Or.inl ⟨by kernel_rfl, ?yf9⟩) (by with_reducible assumption) ?rf9
      case yf9 => (intro w hSw; (try dsimp only at hSw); go_simp; (try with_reducible rfl))
      simp only [Act.put]
      refine wpAnyZ_take (i := 10) (v := ?vf10) rfl (by kernel_rfl) (by kernel_rfl) (by kernel_rfl) (by kernel_rfl) (fun _ _ _ h => h) (Or.inl ⟨by kernel_rfl, ?yf10⟩) (by with_reducible assumption) ?rf10
      case yf10 => (intro w hSw; (try dsimp only at hSw); go_simp; (try with_reducible rfl))
      simp only [Act.put]
      refine wpAnyZ_take (i := 11) (v := ?vf11) rfl (by kernel_rfl) (by kernel_rfl) (by kernel_rfl) (by kernel_rfl) (fun _ _ _ h => h) (Or.inl ⟨by kernel_rfl, ?yf11⟩) (by with_reducible assumption) ?rf11
      case yf11 => (intro w hSw; (try dsimp only at hSw); go_simp; (try with_reducible rfl))
      simp only [Act.put]
      refine wpAnyZ_step (i := 12) (by kernel_rfl) rfl ?_
      intro K12 hK12
      go_simp
      refine (has_any xs n z0 false _ hn4 HX.out HB0.out).mono ?_
      rintro e w3 ⟨rfl, hb3⟩
      have B3 := Lib.hid (below_on hS.1.out hb3)
      refine hK12.out _ _ (KZ.out _ B3.out) (fun hS3 => ?_)
      clear hK12 hb3 hS B3
      have hS := hS3
      clear hS3
      (try simp only [Act.put])
      refine wpAnyZ_take (i := 13) (v := ?vg13) rfl (by kernel_rfl) (by kernel_rfl) (by kernel_rfl) (by kernel_rfl) (fun _ _ _ h => h) (Or.inl ⟨by kernel_rfl, ?yg13⟩) (by with_reducible assumption) ?rg13
      case yg13 => (intro w hSw; (try dsimp only at hSw); go_simp; (try with_reducible rfl))
      simp only [Act.put]
      refine wpAnyZ_take (i := 14) (v := ?vg14) rfl (by kernel_rfl) (by kernel_rfl) (by kernel_rfl) (by kernel_rfl) (fun _ _ _ h => h) (Or.inl ⟨by kernel_rfl, ?yg14⟩) (by with_reducible assumption) ?rg14
      case yg14 => (intro w hSw; (try dsimp only at hSw); go_simp; (try with_reducible rfl))
      simp only [Act.put]
      refine wpAnyZ_take (i := 15) (v := ?vg15) rfl (by kernel_rfl) (by kernel_rfl) (by kernel_rfl) (by kernel_rfl) (fun _ _ _ h => h) (Or.inl ⟨by kernel_rfl, ?yg15⟩) (by with_reducible assumption) ?rg15
      case yg15 => (intro w hSw; (try dsimp only at hSw); go_simp; (try with_reducible rfl))
      simp only [Act.put]
      refine wpAnyZ_take (i := 16) (v := undef) rfl (by kernel_rfl) (by kernel_rfl) (by kernel_rfl) (by kernel_rfl) (fun _ _ _ h => h) (Or.inr ⟨by kernel_rfl, rfl⟩) (by with_reducible assumption) ?rh16
      simp only [Act.put]
      refine wpAnyZ_take (i := 17) (v := undef) rfl (by kernel_rfl) (by kernel_rfl) (by kernel_rfl) (by kernel_rfl) (fun _ _ _ h => h) (Or.inr ⟨by kernel_rfl, rfl⟩) (by with_reducible assumption) ?rh17
      simp only [Act.put]
      refine wpAnyZ_take (i := 18) (v := undef) rfl (by kernel_rfl) (by kernel_rfl) (by kernel_rfl) (by kernel_rfl) (fun _ _ _ h => h) (Or.inr ⟨by kernel_rfl, rfl⟩) (by with_reducible assumption) ?rh18
      simp only [Act.put]
      refine wpAnyZ_take (i := 19) (v := undef) rfl (by kernel_rfl) (by kernel_rfl) (by kernel_rfl) (by kernel_rfl) (fun _ _ _ h => h) (Or.inr ⟨by kernel_rfl, rfl⟩) (by with_reducible assumption) ?rh19
      simp only [Act.put]
      refine wpAnyZ_take (i := 20) (v := undef) rfl (by kernel_rfl) (by kernel_rfl) (by kernel_rfl) (by kernel_rfl) (fun _ _ _ h => h) (Or.inr ⟨by kernel_rfl, rfl⟩) (by with_reducible assumption) ?rh20
      simp only [Act.put]
      refine wpAnyZ_take (i := 21) (v := undef) rfl (by kernel_rfl) (by kernel_rfl) (by kernel_rfl) (by kernel_rfl) (fun _ _ _ h => h) (Or.inr ⟨by kernel_rfl, rfl⟩) (by with_reducible assumption) ?rh21
      simp only [Act.put]
      refine wpAnyZ_take (i := 22) (v := undef) rfl (by kernel_rfl) (by kernel_rfl) (by kernel_rfl) (by kernel_rfl) (fun _ _ _ h => h) (Or.inr ⟨by kernel_rfl, rfl⟩) (by with_reducible assumption) ?rh22
      simp only [Act.put]
      refine wpAnyZ_take (i := 23) (v := undef) rfl (by kernel_rfl) (by kernel_rfl) (by kernel_rfl) (by kernel_rfl) (fun _ _ _ h => h) (Or.inr ⟨by kernel_rfl, rfl⟩) (by with_reducible assumption) ?rh23
      simp only [Act.put]
      refine wpAnyZ_take (i := 24) (v := undef) rfl (by kernel_rfl) (by kernel_rfl) (by kernel_rfl) (by kernel_rfl) (fun _ _ _ h => h) (Or.inr ⟨by kernel_rfl, rfl⟩) (by with_reducible assumption) ?rh24
      simp only [Act.put]
      refine wpAnyZ_last (i := 25) (by kernel_rfl) rfl (by kernel_rfl) ?_
      intro K25 hK25
      go_simp
      refine hK25.out _ _ ?_
      clear hK25
      go_wp2_with fail
      go_ret2
      exact ⟨rfl, below_on' B0.out hS.1.out⟩
    · cases be
      · have e : r = none := by
          rw [← hr]; unfold runO; rw [if_neg (fun h => by have h2 := h.2.2; rw [HGE.out, HBE.out] at h2; cases h2)]
        subst e
        clear hr
        refine wp_region_Z (S := fun w' => Hid (Below w1.heap.size w1 w') ∧ w'.cell? ⟨w.heap.size, 1, none⟩ = some (.bool (hasB xs 0)) ∧ w'.cell? ⟨w.heap.size, 2, none⟩ = some (.bool (hasB xs 1)) ∧ w'.cell? ⟨w.heap.size, 3, none⟩ = some (.bool (hasB xs 2)) ∧ w'.cell? ⟨w.heap.size, 4, none⟩ = some (.bool (hasB xs 3)) ∧ w'.cell? ⟨w.heap.size, 5, none⟩ = some (.bool (hasB ys 0)) ∧ w'.cell? ⟨w.heap.size, 6, none⟩ = some (.bool (hasB ys 1)) ∧ w'.cell? ⟨w.heap.size, 7, none⟩ = some (.bool (hasB ys 2)) ∧ w'.cell? ⟨w.heap.size, 8, none⟩ = some (.bool (hasB ys 3)) ∧ w'.cell? ⟨zb, zo, none⟩ = some (.int .i64 z0) ∧ w'.cell? ⟨zb, zo + l.size, none⟩ = some (.int .i64 ze)) (by kernel_rfl) hS1 (fun hS => ?_)
        clear hS1
        refine wpAnyZ_take (i := 0) (v := ?vi0) rfl (by kernel_rfl) (by kernel_rfl) (by kernel_rfl) (by kernel_rfl) (fun _ _ _ h => h) (Or.inl ⟨by rfl, ?yi0⟩) (by with_reducible assumption) ?ri0
        case yi0 => (intro w hSw; (try dsimp only at hSw); go_simp; (try with_reducible rfl))
        simp only [Act.put, List.setIfInBounds_toArray]
        refine wpAnyZ_take (i := 1) (v := ?vi1) rfl (by kernel_rfl) (by kernel_rfl) (by kernel_rfl) (by kernel_rfl) (fun _ _ _ h => h) (Or.inl ⟨by rfl, ?yi1⟩) (by with_reducible assumption) ?ri1
        case yi1 => (intro w hSw; (try dsimp only at hSw); go_simp; (try with_reducible rfl))
        simp only [Act.put]
        refine wpAnyZ_take (i := 2) (v := ?vi2) rfl (by kernel_rfl) (by kernel_rfl) (by kernel_rfl) (by kernel_rfl) (fun _ _ _ h => h) (Or.inl ⟨by rfl, ?yi2⟩) (by with_reducible assumption) ?ri2
        case yi2 => (intro w hSw; (try dsimp only at hSw); go_simp; (try with_reducible rfl))
        simp only [Act.put]
        refine wpAnyZ_take (i := 3) (v := ?vi3) rfl (by kernel_rfl) (by kernel_rfl) (by kernel_rfl) (by kernel_rfl) (fun _ _ _ h => h) (Or.inl ⟨by rfl, ?yi3⟩) (by with_reducible assumption) ?ri3
        case yi3 => (intro w hSw; (try dsimp only at hSw); go_simp; (try with_reducible rfl))
        simp only [Act.put]
        refine wpAnyZ_take (i := 4) (v := ?vi4) rfl (by kernel_rfl) (by kernel_rfl) (by kernel_rfl) (by kernel_rfl) (fun _ _ _ h => h) (Or.inl ⟨by rfl, ?yi4⟩) (by with_reducible assumption) ?ri4
        case yi4 => (intro w hSw; (try dsimp only at hSw); go_simp; (try with_reducible rfl))
        simp only [Act.put]
        refine wpAnyZ_take (i := 5) (v := ?vi5) rfl (by kernel_rfl) (by kernel_rfl) (by kernel_rfl) (by kernel_rfl) (fun _ _ _ h => h) (Or.inl ⟨by rfl, ?yi5⟩) (by with_reducible assumption) ?ri5
        case yi5 => (intro w hSw; (try dsimp only at hSw); go_simp; (try with_reducible rfl))
        simp only [Act.put]
        refine wpAnyZ_take (i := 6) (v := ?vi6) rfl (by kernel_rfl) (by kernel_rfl) (by kernel_rfl) (by kernel_rfl) (fun _ _ _ h => h) (Or.inl ⟨by rfl, ?yi6⟩) (by with_reducible assumption) ?ri6
        case yi6 => (intro w hSw; (try dsimp only at hSw); go_simp; (try with_reducible rfl))
        simp only [Act.put]
        refine wpAnyZ_take (i := 7) (v := ?vj7) rfl (by kernel_rfl) (by kernel_rfl) (by kernel_rfl) (by kernel_rfl) (fun _ _ _ h => h) (Or.inl ⟨by kernel_rfl, ?yj7⟩) (by with_reducible assumption) ?rj7
        case yj7 => (intro w hSw; (try dsimp only at hSw); go_simp; (try with_reducible rfl))
        simp only [Act.put]
        refine wpAnyZ_take (i := 8) (v := ?vj8) rfl (by kernel_rfl) (by kernel_rfl) (by kernel_rfl) (by kernel_rfl) (fun _ _ _ h => h) (Or.inl ⟨by kernel_rfl, ?yj8⟩) (by with_reducible assumption) ?rj8
        case yj8 => (intro w hSw; (try dsimp only at hSw); go_simp; (try with_reducible rfl))
        simp only [Act.put]
        refine wpAnyZ_take (i := 9) (v := ?vj9) rfl (by kernel_rfl) (by kernel_rfl) (by kernel_rfl) (by kernel_rfl) (fun _ _ _ h => h) (Or.inl ⟨by kernel_rfl, ?yj9⟩) (by with_reducible assumption) ?rj9
        case yj9 => (intro w hSw; (try dsimp only at hSw); go_simp; (try with_reducible rfl))
        simp only [Act.put]
        refine wpAnyZ_take (i := 10) (v := ?vj10) rfl (by kernel_rfl) (by kernel_rfl) (by kernel_rfl) (by kernel_rfl) (fun _ _ _ h => h) (Or.inl ⟨by kernel_rfl, ?yj10⟩) (by with_reducible assumption) ?rj10
        case yj10 => (intro w hSw; (try dsimp only at hSw); go_simp; (try with_reducible rfl))
        simp only [Act.put]
        refine wpAnyZ_take (i := 11) (v := ?vj11) rfl (by kernel_rfl) (by kernel_rfl) (by kernel_rfl) (by kernel_rfl) (fun _ _ _ h => h) (Or.inl ⟨by kernel_rfl, ?yj11⟩) (by with_reducible assumption) ?rj11
        case yj11 => (intro w hSw; (try dsimp only at hSw); go_simp; (try with_reducible rfl))
        simp only [Act.put]
        refine wpAnyZ_step (i := 12) (by kernel_rfl) rfl ?_
        intro K12 hK12
        go_simp
        refine (has_any xs n z0 true _ hn4 HX.out HB0.out).mono ?_
        rintro e w3 ⟨rfl, hb3⟩
        have B3 := Lib.hid (below_on hS.1.out hb3)
        refine hK12.out _ _ (KZ.out _ B3.out) (fun hS3 => ?_)
        clear hK12 hb3 hS B3
        have hS := hS3
        clear hS3
        (try simp only [Act.put])
        refine wpAnyZ_take (i := 13) (v := ?vk13) rfl (by kernel_rfl) (by kernel_rfl) (by kernel_rfl) (by kernel_rfl) (fun _ _ _ h => h) (Or.inl ⟨by kernel_rfl, ?yk13⟩) (by with_reducible assumption) ?rk13
        case yk13 => (intro w hSw; (try dsimp only at hSw); go_simp; (try with_reducible rfl))
        simp only [Act.put]
        refine wpAnyZ_take (i := 14) (v := ?vk14) rfl (by kernel_rfl) (by kernel_rfl) (by kernel_rfl) (by kernel_rfl) (fun _ _ _ h => h) (Or.inl ⟨by kernel_rfl, ?yk14⟩) (by with_reducible assumption) ?rk14
        case yk14 => (intro w hSw; (try dsimp only at hSw); go_simp; (try with_reducible rfl))
        simp only [Act.put]
        refine wpAnyZ_take (i := 15) (v := ?vk15) rfl (by kernel_rfl) (by kernel_rfl) (by kernel_rfl) (by kernel_rfl) (fun _ _ _ h => h) (Or.inl ⟨by kernel_rfl, ?yk15⟩) (by with_reducible assumption) ?rk15
        case yk15 => (intro w hSw; (try dsimp only at hSw); go_simp; (try with_reducible rfl))
        simp only [Act.put]
        refine wpAnyZ_take (i := 16) (v := ?vl16) rfl (by kernel_rfl) (by kernel_rfl) (by kernel_rfl) (by kernel_rfl) (fun _ _ _ h => h) (Or.inl ⟨by kernel_rfl, ?yl16⟩) (by with_reducible assumption) ?rl16
        case yl16 => (intro w hSw; (try dsimp only at hSw); go_simp; (try with_reducible rfl))
        simp only [Act.put]
        refine wpAnyZ_take (i := 17) (v := ?vl17) rfl (by kernel_rfl) (by kernel_rfl) (by kernel_rfl) (by kernel_rfl) (fun _ _ _ h => h) (Or.inl ⟨by kernel_rfl, ?yl17⟩) (by with_reducible assumption) ?rl17
        case yl17 => (intro w hSw; (try dsimp only at hSw); go_simp; (try with_reducible rfl))
        simp only [Act.put]
        refine wpAnyZ_take (i := 18) (v := ?vl18) rfl (by kernel_rfl) (by kernel_rfl) (by kernel_rfl) (by kernel_rfl) (fun _ _ _ h => h) (Or.inl ⟨by kernel_rfl, ?yl18⟩) (by with_reducible assumption) ?rl18
        case yl18 => (intro w hSw; (try dsimp only at hSw); go_simp; (try with_reducible rfl))
        simp only [Act.put]
        refine wpAnyZ_take (i := 19) (v := ?vl19) rfl (by kernel_rfl) (by kernel_rfl) (by kernel_rfl) (by kernel_rfl) (fun _ _ _ h => h) (Or.inl ⟨by kernel_rfl, ?yl19⟩) (by with_reducible assumption) ?rl19
        case yl19 => (intro w hSw; (try dsimp only at hSw); go_simp; (try with_reducible rfl))
        simp only [Act.put]
        refine wpAnyZ_take (i := 20) (v := ?vl20) rfl (by kernel_rfl) (by kernel_rfl) (by kernel_rfl) (by kernel_rfl) (fun _ _ _ h => h) (Or.inl ⟨by kernel_rfl, ?yl20⟩) (by with_reducible assumption) ?rl20
        case yl20 => (intro w hSw; (try dsimp only at hSw); go_simp; (try with_reducible rfl))
        simp only [Act.put]
        refine wpAnyZ_take (i := 21) (v := ?vl21) rfl (by kernel_rfl) (by kernel_rfl) (by kernel_rfl) (by kernel_rfl) (fun _ _ _ h => h) (Or.inl ⟨by kernel_rfl, ?yl21⟩) (by with_reducible assumption) ?rl21
        case yl21 => (intro w hSw; (try dsimp only at hSw); go_simp; (try with_reducible rfl))
        simp only [Act.put]
        refine wpAnyZ_take (i := 22) (v := ?vl22) rfl (by kernel_rfl) (by kernel_rfl) (by kernel_rfl) (by kernel_rfl) (fun _ _ _ h => h) (Or.inl ⟨by kernel_rfl, ?yl22⟩) (by with_reducible assumption) ?rl22
        case yl22 => (intro w hSw; (try dsimp only at hSw); go_simp; (try with_reducible rfl))
        simp only [Act.put]
        refine wpAnyZ_step (i := 23) (by kernel_rfl) rfl ?_
        intro K23 hK23
        go_simp
        refine (has_any ys n ze false _ hn4 HY.out HBE.out).mono ?_
        rintro e w3 ⟨rfl, hb3⟩
        have B3 := Lib.hid (below_on hS.1.out hb3)
        refine hK23.out _ _ (KZ.out _ B3.out) (fun hS3 => ?_)
        clear hK23 hb3 hS B3
        have hS := hS3
        clear hS3
        (try simp only [Act.put])
        refine wpAnyZ_take (i := 24) (v := ?vm24) rfl (by kernel_rfl) (by kernel_rfl) (by kernel_rfl) (by kernel_rfl) (fun _ _ _ h => h) (Or.inl ⟨by kernel_rfl, ?ym24⟩) (by with_reducible assumption) ?rm24
        case ym24 => (intro w hSw; (try dsimp only at hSw); go_simp; (try with_reducible rfl))
        simp only [Act.put]
        refine wpAnyZ_last (i := 25) (by kernel_rfl) rfl (by kernel_rfl) ?_
        intro K25 hK25
        go_simp
        refine hK25.out _ _ ?_
        clear hK25
        go_wp2_with fail
        go_ret2
        exact ⟨rfl, below_on' B0.out hS.1.out⟩
      · have e : runF (stP (costAt ss) l zs) l.size = r := by
          rw [← hr]; unfold runO; rw [if_pos ⟨HLEN.out, by rw [HG0.out, HB0.out], by rw [HGE.out, HBE.out]⟩]
        have HR := Lib.hid e
        clear hr e
        refine wp_region_Z (S := fun w' => Hid (Below w1.heap.size w1 w') ∧ w'.cell? ⟨w.heap.size, 1, none⟩ = some (.bool (hasB xs 0)) ∧ w'.cell? ⟨w.heap.size, 2, none⟩ = some (.bool (hasB xs 1)) ∧ w'.cell? ⟨w.heap.size, 3, none⟩ = some (.bool (hasB xs 2)) ∧ w'.cell? ⟨w.heap.size, 4, none⟩ = some (.bool (hasB xs 3)) ∧ w'.cell? ⟨w.heap.size, 5, none⟩ = some (.bool (hasB ys 0)) ∧ w'.cell? ⟨w.heap.size, 6, none⟩ = some (.bool (hasB ys 1)) ∧ w'.cell? ⟨w.heap.size, 7, none⟩ = some (.bool (hasB ys 2)) ∧ w'.cell? ⟨w.heap.size, 8, none⟩ = some (.bool (hasB ys 3)) ∧ w'.cell? ⟨zb, zo, none⟩ = some (.int .i64 z0) ∧ w'.cell? ⟨zb, zo + l.size, none⟩ = some (.int .i64 ze)) (by kernel_rfl) hS1 (fun hS => ?_)
        clear hS1
        refine wpAnyZ_take (i := 0) (v := ?vn0) rfl (by kernel_rfl) (by kernel_rfl) (by kernel_rfl) (by kernel_rfl) (fun _ _ _ h => h) (Or.inl ⟨by rfl, ?yn0⟩) (by with_reducible assumption) ?rn0
        case yn0 => (intro w hSw; (try dsimp only at hSw); go_simp; (try with_reducible rfl))
        simp only [Act.put, List.setIfInBounds_toArray]
        refine wpAnyZ_take (i := 1) (v := ?vn1) rfl (by kernel_rfl) (by kernel_rfl) (by kernel_rfl) (by kernel_rfl) (fun _ _ _ h => h) (Or.inl ⟨by rfl, ?yn1⟩) (by with_reducible assumption) ?rn1
        case yn1 => (intro w hSw; (try dsimp only at hSw); go_simp; (try with_reducible rfl))
        simp only [Act.put]
        refine wpAnyZ_take (i := 2) (v := ?vn2) rfl (by kernel_rfl) (by kernel_rfl) (by kernel_rfl) (by kernel_rfl) (fun _ _ _ h => h) (Or.inl ⟨by rfl, ?yn2⟩) (by with_reducible assumption) ?rn2
        case yn2 => (intro w hSw; (try dsimp only at hSw); go_simp; (try with_reducible rfl))
        simp only [Act.put]
        refine wpAnyZ_take (i := 3) (v := ?vn3) rfl (by kernel_rfl) (by kernel_rfl) (by kernel_rfl) (by kernel_rfl) (fun _ _ _ h => h) (Or.inl ⟨by rfl, ?yn3⟩) (by with_reducible assumption) ?rn3
        case yn3 => (intro w hSw; (try dsimp only at hSw); go_simp; (try with_reducible rfl))
        simp only [Act.put]
        refine wpAnyZ_take (i := 4) (v := ?vn4) rfl (by kernel_rfl) (by kernel_rfl) (by kernel_rfl) (by kernel_rfl) (fun _ _ _ h => h) (Or.inl ⟨by rfl, ?yn4⟩) (by with_reducible assumption) ?rn4
        case yn4 => (intro w hSw; (try dsimp only at hSw); go_simp; (try with_reducible rfl))
        simp only [Act.put]
        refine wpAnyZ_take (i := 5) (v := ?vn5) rfl (by kernel_rfl) (by kernel_rfl) (by kernel_rfl) (by kernel_rfl) (fun _ _ _ h => h) (Or.inl ⟨by rfl, ?yn5⟩) (by with_reducible assumption) ?rn5
        case yn5 => (intro w hSw; (try dsimp only at hSw); go_simp; (try with_reducible rfl))
        simp only [Act.put]
        refine wpAnyZ_take (i := 6) (v := ?vn6) rfl (by kernel_rfl) (by kernel_rfl) (by kernel_rfl) (by kernel_rfl) (fun _ _ _ h => h) (Or.inl ⟨by rfl, ?yn6⟩) (by with_reducible assumption) ?rn6
        case yn6 => (intro w hSw; (try dsimp only at hSw); go_simp; (try with_reducible rfl))
        simp only [Act.put]
        refine wpAnyZ_take (i := 7) (v := ?vo7) rfl (by kernel_rfl) (by kernel_rfl) (by kernel_rfl) (by kernel_rfl) (fun _ _ _ h => h) (Or.inl ⟨by kernel_rfl, ?yo7⟩) (by with_reducible assumption) ?ro7
        case yo7 => (intro w hSw; (try dsimp only at hSw); go_simp; (try with_reducible rfl))
        simp only [Act.put]
        refine wpAnyZ_take (i := 8) (v := ?vo8) rfl (by kernel_rfl) (by kernel_rfl) (by kernel_rfl) (by kernel_rfl) (fun _ _ _ h => h) (Or.inl ⟨by kernel_rfl, ?yo8⟩) (by with_reducible assumption) ?ro8
        case yo8 => (intro w hSw; (try dsimp only at hSw); go_simp; (try with_reducible rfl))
        simp only [Act.put]
        refine wpAnyZ_take (i := 9) (v := ?vo9) rfl (by kernel_rfl) (by kernel_rfl) (by kernel_rfl) (by kernel_rfl) (fun _ _ _ h => h) (Or.inl ⟨by kernel_rfl, ?yo9⟩) (by with_reducible assumption) ?ro9
        case yo9 => (intro w hSw; (try dsimp only at hSw); go_simp; (try with_reducible rfl))
        simp only [Act.put]
        refine wpAnyZ_take (i := 10) (v := ?vo10) rfl (by kernel_rfl) (by kernel_rfl) (by kernel_rfl) (by kernel_rfl) (fun _ _ _ h => h) (Or.inl ⟨by kernel_rfl, ?yo10⟩) (by with_reducible assumption) ?ro10
        case yo10 => (intro w hSw; (try dsimp only at hSw); go_simp; (try with_reducible rfl))
        simp only [Act.put]
        refine wpAnyZ_take (i := 11) (v := ?vo11) rfl (by kernel_rfl) (by kernel_rfl) (by kernel_rfl) (by kernel_rfl) (fun _ _ _ h => h) (Or.inl ⟨by kernel_rfl, ?yo11⟩) (by with_reducible assumption) ?ro11
        case yo11 => (intro w hSw; (try dsimp only at hSw); go_simp; (try with_reducible rfl))
        simp only [Act.put]
        refine wpAnyZ_step (i := 12) (by kernel_rfl) rfl ?_
        intro K12 hK12
        go_simp
        refine (has_any xs n z0 true _ hn4 HX.out HB0.out).mono ?_
        rintro e w3 ⟨rfl, hb3⟩
        have B3 := Lib.hid (below_on hS.1.out hb3)
        refine hK12.out _ _ (KZ.out _ B3.out) (fun hS3 => ?_)
        clear hK12 hb3 hS B3
        have hS := hS3
        clear hS3
        (try simp only [Act.put])
        refine wpAnyZ_take (i := 13) (v := ?vp13) rfl (by kernel_rfl) (by kernel_rfl) (by kernel_rfl) (by kernel_rfl) (fun _ _ _ h => h) (Or.inl ⟨by kernel_rfl, ?yp13⟩) (by with_reducible assumption) ?rp13
        case yp13 => (intro w hSw; (try dsimp only at hSw); go_simp; (try with_reducible rfl))
        simp only [Act.put]
        refine wpAnyZ_take (i := 14) (v := ?vp14) rfl (by kernel_rfl) (by kernel_rfl) (by kernel_rfl) (by kernel_rfl) (fun _ _ _ h => h) (Or.inl ⟨by kernel_rfl, ?yp14⟩) (by with_reducible assumption) ?rp14
        case yp14 => (intro w hSw; (try dsimp only at hSw); go_simp; (try with_reducible rfl))
        simp only [Act.put]
        refine wpAnyZ_take (i := 15) (v := ?vp15) rfl (by kernel_rfl) (by kernel_rfl) (by kernel_rfl) (by kernel_rfl) (fun _ _ _ h => h) (Or.inl ⟨by kernel_rfl, ?yp15⟩) (by with_reducible assumption) ?rp15
        case yp15 => (intro w hSw; (try dsimp only at hSw); go_simp; (try with_reducible rfl))
        simp only [Act.put]
        refine wpAnyZ_take (i := 16) (v := ?vq16) rfl (by kernel_rfl) (by kernel_rfl) (by kernel_rfl) (by kernel_rfl) (fun _ _ _ h => h) (Or.inl ⟨by kernel_rfl, ?yq16⟩) (by with_reducible assumption) ?rq16
        case yq16 => (intro w hSw; (try dsimp only at hSw); go_simp; (try with_reducible rfl))
        simp only [Act.put]
        refine wpAnyZ_take (i := 17) (v := ?vq17) rfl (by kernel_rfl) (by kernel_rfl) (by kernel_rfl) (by kernel_rfl) (fun _ _ _ h => h) (Or.inl ⟨by kernel_rfl, ?yq17⟩) (by with_reducible assumption) ?rq17
        case yq17 => (intro w hSw; (try dsimp only at hSw); go_simp; (try with_reducible rfl))
        simp only [Act.put]
        refine wpAnyZ_take (i := 18) (v := ?vq18) rfl (by kernel_rfl) (by kernel_rfl) (by kernel_rfl) (by kernel_rfl) (fun _ _ _ h => h) (Or.inl ⟨by kernel_rfl, ?yq18⟩) (by with_reducible assumption) ?rq18
        case yq18 => (intro w hSw; (try dsimp only at hSw); go_simp; (try with_reducible rfl))
        simp only [Act.put]
        refine wpAnyZ_take (i := 19) (v := ?vq19) rfl (by kernel_rfl) (by kernel_rfl) (by kernel_rfl) (by kernel_rfl) (fun _ _ _ h => h) (Or.inl ⟨by kernel_rfl, ?yq19⟩) (by with_reducible assumption) ?rq19
        case yq19 => (intro w hSw; (try dsimp only at hSw); go_simp; (try with_reducible rfl))
        simp only [Act.put]
        refine wpAnyZ_take (i := 20) (v := ?vq20) rfl (by kernel_rfl) (by kernel_rfl) (by kernel_rfl) (by kernel_rfl) (fun _ _ _ h => h) (Or.inl ⟨by kernel_rfl, ?yq20⟩) (by with_reducible assumption) ?rq20
        case yq20 => (intro w hSw; (try dsimp only at hSw); go_simp; (try with_reducible rfl))
        simp only [Act.put]
        refine wpAnyZ_take (i := 21) (v := ?vq21) rfl (by kernel_rfl) (by kernel_rfl) (by kernel_rfl) (by kernel_rfl) (fun _ _ _ h => h) (Or.inl ⟨by kernel_rfl, ?yq21⟩) (by with_reducible assumption) ?rq21
        case yq21 => (intro w hSw; (try dsimp only at hSw); go_simp; (try with_reducible rfl))
        simp only [Act.put]
        refine wpAnyZ_take (i := 22) (v := ?vq22) rfl (by kernel_rfl) (by kernel_rfl) (by kernel_rfl) (by kernel_rfl) (fun _ _ _ h => h) (Or.inl ⟨by kernel_rfl, ?yq22⟩) (by with_reducible assumption) ?rq22
        case yq22 => (intro w hSw; (try dsimp only at hSw); go_simp; (try with_reducible rfl))
        simp only [Act.put]
        refine wpAnyZ_step (i := 23) (by kernel_rfl) rfl ?_
        intro K23 hK23
        go_simp
        refine (has_any ys n ze true _ hn4 HY.out HBE.out).mono ?_
        rintro e w3 ⟨rfl, hb3⟩
        have B3 := Lib.hid (below_on hS.1.out hb3)
        refine hK23.out _ _ (KZ.out _ B3.out) (fun hS3 => ?_)
        clear hK23 hb3 hS B3
        have hS := hS3
        clear hS3
        (try simp only [Act.put])
        refine wpAnyZ_take (i := 24) (v := ?vr24) rfl (by kernel_rfl) (by kernel_rfl) (by kernel_rfl) (by kernel_rfl) (fun _ _ _ h => h) (Or.inl ⟨by kernel_rfl, ?yr24⟩) (by with_reducible assumption) ?rr24
        case yr24 => (intro w hSw; (try dsimp only at hSw); go_simp; (try with_reducible rfl))
        simp only [Act.put]
        refine wpAnyZ_last (i := 25) (by kernel_rfl) rfl (by kernel_rfl) ?_
        intro K25 hK25
        go_simp
        refine hK25.out _ _ ?_
        clear hK25
        clear i0 i0n ie ien hwl heq
        have B3 := Lib.hid hS.1.out
        clear hS
        go_wp2_with fail
        obtain ⟨I, hI⟩ : ∃ I, I = w3.heap.size := ⟨_, rfl⟩
        have B4 : Hid (Below w1.heap.size w1 (w3.iter l 0)) := below_al B3.out (Nat.le_refl _) (.stringIter l 0)
        have I4 : Hid ((w3.iter l 0).heap[I]? = some (.stringIter l 0)) := by
          show _ = _
          rw [hI]; exact heap_alloc_new w3 (.stringIter l 0)
        have hI1 : w1.heap.size ≤ I := by rw [hI]; exact B3.out.size
        rw [← hI]
        generalize w3.iter l 0 = w4 at *
        clear hI B3
        go_loopw [8] (fun v wr => ∃ (k : Nat) (a : Int), k ≤ l.size ∧ v = .int .i64 a ∧ Hid (runF (stP (costAt ss) l zs) k = some a) ∧ Hid (wr.heap[I]? = some (.stringIter l k)) ∧ Hid (Below w1.heap.size w1 wr)) (fun _ wr => l.size - wr.iterPos I)
        case atStart => exact ⟨0, 0, Nat.zero_le _, rfl, rfl, I4, B4⟩
        case round =>
          obtain ⟨k, a, hk, rfl, ha, hit, hbw⟩ := hrel
          have hmu : wr.iterPos I = k := by simp [World.iterPos, hit.out]
          have HMU := Lib.hid hmu
          clear hmu
          by_cases hlt : k < l.size
          · obtain ⟨ch, hcc⟩ : ∃ c, l[k]'hlt = c := ⟨_, rfl⟩
            have hab := word_at HW.out hlt
            have hsm := ab_small hab
            have hnx := fun ty => Lib.run_next_ascii_at (P := Tryd.prog) wr I l k ty hit.out hlt hsm
            rw [hcc] at hab hnx
            have hcv := conv_ltr hab
            have hgi : wr.grownBy (wr.iterAt I l (k + 1)) (some I) := ⟨rfl, rfl, rfl, by rw [Lib.iterAt_size]; exact Nat.le_refl _, fun j _ hne => Lib.iterAt_other wr I j l (k + 1) (fun e => hne (by rw [e]))⟩
            have B5 := Lib.hid (hbw.out.grown hgi hbw.out.size (fun j hj => by have := Option.some.inj hj; omega))
            have I5 := Lib.hid (Lib.iterAt_heap wr I l k (k + 1) hit.out)
            have hm5 : (wr.iterAt I l (k + 1)).iterPos I = k + 1 := by simp [World.iterPos, I5.out]
            have HM5 := Lib.hid hm5
            obtain ⟨k1, hk1⟩ : ∃ k1, k1 = k + 1 := ⟨_, rfl⟩
            have hkz : k < zs.length := by rw [HLEN.out]; omega
            have hkz1 : k1 < zs.length := by rw [HLEN.out]; omega
            obtain ⟨_, _, q0, he, _, hq0, _, hg0⟩ := HZ.out.at_ (k := k) hkz
            cases he
            obtain ⟨_, _, q1, he, _, hq1, _, hg1⟩ := HZ.out.at_ (k := k1) hkz1
            cases he
            have hst : stP (costAt ss) l zs k = costAt ss q0 (ltr ch) q1 := by
              unfold stP
              rw [hg0, ← hk1, hg1, letter_at hlt, hcc]
            have hkw : kwf q0 (ltr ch) q1 := ⟨HWF.out q0 (getD_mem hkz hg0), by unfold maxLen; show 1 ≤ _; omega, HWF.out q1 (getD_mem hkz1 hg1)⟩
            obtain ⟨cc, b, hF, hc0⟩ : ∃ (c : Int) (b : Bool), costAt ss q0 (ltr ch) q1 = (if b then some c else none) ∧ (b = false → c = 0) := by
              rcases h : costAt ss q0 (ltr ch) q1 with _ | c
              · exact ⟨0, false, rfl, fun _ => rfl⟩
              · exact ⟨c, true, rfl, fun h => by cases h⟩
            have hlk : ∀ w', CMap w' M cnt (costAt ss) → (Instr.lookup 56 (.map (some M)) (.agg #[.int .i64 q0, .string (ltr ch), .int .i64 q1]) true).run Tryd.prog w' = .ok (.tuple #[.int .i64 cc, .bool b]) w' := fun w' h => by
              cases b
              · rw [hc0 rfl]; exact h.look_none hkw hF
              · exact h.look_some hkw hF
            have i1 : (k : Int) < (zs.length : Int) := by omega
            have i2 : (k1 : Int) < (zs.length : Int) := by omega
            have i3 : (0 : Int) ≤ (k : Int) := by omega
            have i4 : (0 : Int) ≤ (k1 : Int) := by omega
            have hwk : IntKind.i64.wrap ((k : Int) + 1) = (k1 : Int) := by rw [show ((k : Int) + 1) = (k1 : Int) by omega]; exact IntWalk.i64_in _ (by omega)
            have HST := Lib.hid hst
            have HFF := Lib.hid hF
            generalize wr.iterAt I l (k + 1) = w5 at *
            have M5 := Lib.hid (MM.out.below B5.out)
            have a9 := (K0.out.below B5.out (Blk.lt K0.out)).cell 9
            simp at a9
            have hz0 := (B5.out.cell (p := ⟨zb, zo + k, none⟩) hzb).trans hq0
            have hz1 := (B5.out.cell (p := ⟨zb, zo + k1, none⟩) hzb).trans hq1
            have HK1 := Lib.hid hk1
            clear hit hbw hsm hcc hab hgi hm5 hq0 hq1 hg0 hg1 hst hF hc0 hk1
            go_wp2_with fail
            have hS0 : Hid (CMap w5.drew M cnt (costAt ss)) ∧ w5.drew.cell? ⟨w.heap.size, 9, none⟩ = some (.map (some M)) ∧ w5.drew.cell? ⟨zb, zo + k, none⟩ = some (.int .i64 q0) ∧ w5.drew.cell? ⟨zb, zo + k1, none⟩ = some (.int .i64 q1) := ⟨M5.out, a9, hz0, hz1⟩
            refine wp_region_Z (S := fun w' => Hid (CMap w' M cnt (costAt ss)) ∧ w'.cell? ⟨w.heap.size, 9, none⟩ = some (.map (some M)) ∧ w'.cell? ⟨zb, zo + k, none⟩ = some (.int .i64 q0) ∧ w'.cell? ⟨zb, zo + k1, none⟩ = some (.int .i64 q1)) (by kernel_rfl) hS0 (fun hS => ?_)
            clear hS0 a9 hz0 hz1
            refine wpAnyZ_take (i := 0) (v := ?vs0) rfl (by kernel_rfl) (by kernel_rfl) (by kernel_rfl) (by kernel_rfl) (fun _ _ _ h => h) (Or.inl ⟨by rfl, ?ys0⟩) (by with_reducible assumption) ?rs0
            case ys0 => (intro w hSw; (try dsimp only at hSw); go_simp; (try with_reducible rfl))
            simp only [Act.put, List.setIfInBounds_toArray]
            refine wpAnyZ_take (i := 1) (v := ?vs1) rfl (by kernel_rfl) (by kernel_rfl) (by kernel_rfl) (by kernel_rfl) (fun _ _ _ h => h) (Or.inl ⟨by rfl, ?ys1⟩) (by with_reducible assumption) ?rs1
            case ys1 => (intro w hSw; (try dsimp only at hSw); go_simp; (try with_reducible rfl))
            simp only [Act.put]
            refine wpAnyZ_take (i := 2) (v := ?vs2) rfl (by kernel_rfl) (by kernel_rfl) (by kernel_rfl) (by kernel_rfl) (fun _ _ _ h => h) (Or.inl ⟨by rfl, ?ys2⟩) (by with_reducible assumption) ?rs2
            case ys2 => (intro w hSw; (try dsimp only at hSw); go_simp; (try with_reducible rfl))
            simp only [Act.put]
            refine wpAnyZ_take (i := 3) (v := ?vs3) rfl (by kernel_rfl) (by kernel_rfl) (by kernel_rfl) (by kernel_rfl) (fun _ _ _ h => h) (Or.inl ⟨by rfl, ?ys3⟩) (by with_reducible assumption) ?rs3
            case ys3 => (intro w hSw; (try dsimp only at hSw); go_simp; (try with_reducible rfl))
            simp only [Act.put]
            refine wpAnyZ_take (i := 4) (v := ?vs4) rfl (by kernel_rfl) (by kernel_rfl) (by kernel_rfl) (by kernel_rfl) (fun _ _ _ h => h) (Or.inl ⟨by rfl, ?ys4⟩) (by with_reducible assumption) ?rs4
            case ys4 => (intro w hSw; (try dsimp only at hSw); go_simp; (try with_reducible rfl))
            simp only [Act.put]
            refine wpAnyZ_take (i := 5) (v := ?vs5) rfl (by kernel_rfl) (by kernel_rfl) (by kernel_rfl) (by kernel_rfl) (fun _ _ _ h => h) (Or.inl ⟨by rfl, ?ys5⟩) (by with_reducible assumption) ?rs5
            case ys5 => (intro w hSw; (try dsimp only at hSw); go_simp; (try with_reducible rfl))
            simp only [Act.put]
            refine wpAnyZ_take (i := 6) (v := ?vs6) rfl (by kernel_rfl) (by kernel_rfl) (by kernel_rfl) (by kernel_rfl) (fun _ _ _ h => h) (Or.inl ⟨by rfl, ?ys6⟩) (by with_reducible assumption) ?rs6
            case ys6 => (intro w hSw; (try dsimp only at hSw); go_simp; (try with_reducible rfl))
            simp only [Act.put]
            refine wpAnyZ_take (i := 7) (v := ?vs7) rfl (by kernel_rfl) (by kernel_rfl) (by kernel_rfl) (by kernel_rfl) (fun _ _ _ h => h) (Or.inl ⟨by rfl, ?ys7⟩) (by with_reducible assumption) ?rs7
            case ys7 => (intro w hSw; (try dsimp only at hSw); go_simp; (try with_reducible rfl))
            simp only [Act.put]
            refine wpAnyZ_take (i := 8) (v := ?vs8) rfl (by kernel_rfl) (by kernel_rfl) (by kernel_rfl) (by kernel_rfl) (fun _ _ _ h => h) (Or.inl ⟨by rfl, ?ys8⟩) (by with_reducible assumption) ?rs8
            case ys8 => (intro w hSw; (try dsimp only at hSw); go_simp; (try with_reducible rfl))
            simp only [Act.put]
            refine wpAnyZ_take (i := 9) (v := ?vs9) rfl (by kernel_rfl) (by kernel_rfl) (by kernel_rfl) (by kernel_rfl) (fun _ _ _ h => h) (Or.inl ⟨by rfl, ?ys9⟩) (by with_reducible assumption) ?rs9
            case ys9 => (intro w hSw; (try dsimp only at hSw); go_simp; (try with_reducible rfl))
            simp only [Act.put]
            refine wpAnyZ_take (i := 10) (v := ?vs10) rfl (by kernel_rfl) (by kernel_rfl) (by kernel_rfl) (by kernel_rfl) (fun _ _ _ h => h) (Or.inl ⟨by rfl, ?ys10⟩) (by with_reducible assumption) ?rs10
            case ys10 => (intro w hSw; (try dsimp only at hSw); go_simp; (try with_reducible rfl))
            simp only [Act.put]
            refine wpAnyZ_take (i := 11) (v := ?vs11) rfl (by kernel_rfl) (by kernel_rfl) (by kernel_rfl) (by kernel_rfl) (fun _ _ _ h => h) (Or.inl ⟨by rfl, ?ys11⟩) (by with_reducible assumption) ?rs11
            case ys11 => (intro w hSw; (try dsimp only at hSw); go_simp; (try with_reducible rfl))
            simp only [Act.put]
            refine wpAnyZ_take (i := 12) (v := ?vs12) rfl (by kernel_rfl) (by kernel_rfl) (by kernel_rfl) (by kernel_rfl) (fun _ _ _ h => h) (Or.inl ⟨by rfl, ?ys12⟩) (by with_reducible assumption) ?rs12
            case ys12 => (intro w hSw; (try dsimp only at hSw); go_simp; (try with_reducible rfl))
            simp only [Act.put]
            refine wpAnyZ_take (i := 13) (v := ?vs13) rfl (by kernel_rfl) (by kernel_rfl) (by kernel_rfl) (by kernel_rfl) (fun _ _ _ h => h) (Or.inl ⟨by rfl, ?ys13⟩) (by with_reducible assumption) ?rs13
            case ys13 => (intro w hSw; (try dsimp only at hSw); go_simp; (try with_reducible rfl))
            simp only [Act.put]
            refine wpAnyZ_take (i := 14) (v := ?vt14) rfl (by kernel_rfl) (by kernel_rfl) (by kernel_rfl) (by kernel_rfl) (fun _ _ _ h => h) (Or.inl ⟨by rfl, ?yt14⟩) (by with_reducible assumption) ?rt14
            case yt14 => (intro w hSw; (try dsimp only at hSw); have hlk' := hlk w hSw.1.out; go_simp; (try with_reducible rfl))
            simp only [Act.put]
            refine wpAnyZ_take (i := 15) (v := ?vu15) rfl (by kernel_rfl) (by kernel_rfl) (by kernel_rfl) (by kernel_rfl) (fun _ _ _ h => h) (Or.inl ⟨by rfl, ?yu15⟩) (by with_reducible assumption) ?ru15
            case yu15 => (intro w hSw; (try dsimp only at hSw); go_simp; (try with_reducible rfl))
            simp only [Act.put]
            refine wpAnyZ_take (i := 16) (v := ?vu16) rfl (by kernel_rfl) (by kernel_rfl) (by kernel_rfl) (by kernel_rfl) (fun _ _ _ h => h) (Or.inl ⟨by rfl, ?yu16⟩) (by with_reducible assumption) ?ru16
            case yu16 => (intro w hSw; (try dsimp only at hSw); go_simp; (try with_reducible rfl))
            simp only [Act.put]
            refine wpAnyZ_take (i := 17) (v := ?vu17) rfl (by kernel_rfl) (by kernel_rfl) (by kernel_rfl) (by kernel_rfl) (fun _ _ _ h => h) (Or.inl ⟨by rfl, ?yu17⟩) (by with_reducible assumption) ?ru17
            case yu17 => (intro w hSw; (try dsimp only at hSw); go_simp; (try with_reducible rfl))
            simp only [Act.put]
            refine wpAnyZ_step (i := 18) (by kernel_rfl) rfl ?_
            intro K18 hK18
            go_simp
            refine hK18.out _ _ hS (fun hS2 => ?_)
            clear hK18 hS
            (try simp only [Act.put])
            refine wpAnyZ_last (i := 19) (by kernel_rfl) rfl (by kernel_rfl) ?_
            intro K19 hK19
            go_simp
            refine hK19.out _ _ ?_
            clear hK19 hS2 hlk hwk i1 i2 i3 i4 hnx hcv
            cases b
            · have er : r = none := by
                rw [← HR.out]
                exact runF_gone (runF_none (by rw [HST.out, HFF.out]; rfl)) _ (by omega)
              subst er
              go_wp2_with fail
              go_ret2
              exact ⟨rfl, below_on' B0.out B5.out.drew⟩
            · have hci : costAt ss q0 (ltr ch) q1 = some cc := HFF.out
              obtain ⟨_, _, _, _, hc0, hc3⟩ := costAt_in HOK.out hci
              obtain ⟨ha0, ha3⟩ := runF_in (fun k c h => by have := costAt_in HOK.out h; omega) ha.out
              have HAN : Hid (runF (stP (costAt ss) l zs) (k + 1) = some (a + cc)) := runF_some ha.out (by rw [HST.out]; exact hci)
              have hmin : min (a + cc) 1000000 = a + cc := by omega
              have I6 : Hid (w5.drew.heap[I]? = some (.stringIter l (k + 1))) := I5.out
              have B6 := Lib.hid B5.out.drew
              have HM6 : Hid (w5.drew.iterPos I = k + 1) := HM5.out
              go_wp2_with fail
              refine (plus_any a cc _ (by omega) (by omega) hc0 (by omega)).mono ?_
              rintro e w6 ⟨rfl, rfl⟩
              rw [hmin]
              clear hmin
              go_wp2_with fail
              go_roundw
              case rel => exact ⟨k + 1, a + cc, by omega, rfl, HAN, I6, B6⟩
              case measure => rw [HM6.out, HMU.out]; omega
          · have hkl : k = l.size := by omega
            have hnx := fun ty => Lib.run_next_end_at (P := Tryd.prog) wr I l k ty hit.out hlt
            have er : r = some a := by rw [← HR.out, ← hkl]; exact ha.out
            subst er
            clear hit ha
            go_wp2_with fail
            go_ret2
            exact ⟨rfl, below_on' B0.out hbw.out⟩
  · have e : r = none := by
      rw [← hr]; unfold runO; rw [if_neg (fun h => hlen h.1)]
    subst e
    have hne : ((zs.length : Int) != ((l.size : Int) + 1)) = true := by rw [bne_iff_ne]; omega
    refine wp_region_Z (S := fun w' => Hid (Below w1.heap.size w1 w') ∧ w'.cell? ⟨w.heap.size, 1, none⟩ = some (.bool (hasB xs 0)) ∧ w'.cell? ⟨w.heap.size, 2, none⟩ = some (.bool (hasB xs 1)) ∧ w'.cell? ⟨w.heap.size, 3, none⟩ = some (.bool (hasB xs 2)) ∧ w'.cell? ⟨w.heap.size, 4, none⟩ = some (.bool (hasB xs 3)) ∧ w'.cell? ⟨w.heap.size, 5, none⟩ = some (.bool (hasB ys 0)) ∧ w'.cell? ⟨w.heap.size, 6, none⟩ = some (.bool (hasB ys 1)) ∧ w'.cell? ⟨w.heap.size, 7, none⟩ = some (.bool (hasB ys 2)) ∧ w'.cell? ⟨w.heap.size, 8, none⟩ = some (.bool (hasB ys 3))) (by kernel_rfl) hS0 (fun hS => ?_)
    clear hS0
    refine wpAnyZ_take (i := 0) (v := ?va0) rfl (by kernel_rfl) (by kernel_rfl) (by kernel_rfl) (by kernel_rfl) (fun _ _ _ h => h) (Or.inl ⟨by rfl, ?ya0⟩) (by with_reducible assumption) ?ra0
    case ya0 => (intro w hSw; (try dsimp only at hSw); go_simp; (try with_reducible rfl))
    simp only [Act.put, List.setIfInBounds_toArray]
    refine wpAnyZ_take (i := 1) (v := ?va1) rfl (by kernel_rfl) (by kernel_rfl) (by kernel_rfl) (by kernel_rfl) (fun _ _ _ h => h) (Or.inl ⟨by rfl, ?ya1⟩) (by with_reducible assumption) ?ra1
    case ya1 => (intro w hSw; (try dsimp only at hSw); go_simp; (try with_reducible rfl))
    simp only [Act.put]
    refine wpAnyZ_take (i := 2) (v := ?va2) rfl (by kernel_rfl) (by kernel_rfl) (by kernel_rfl) (by kernel_rfl) (fun _ _ _ h => h) (Or.inl ⟨by rfl, ?ya2⟩) (by with_reducible assumption) ?ra2
    case ya2 => (intro w hSw; (try dsimp only at hSw); go_simp; (try with_reducible rfl))
    simp only [Act.put]
    refine wpAnyZ_take (i := 3) (v := ?va3) rfl (by kernel_rfl) (by kernel_rfl) (by kernel_rfl) (by kernel_rfl) (fun _ _ _ h => h) (Or.inl ⟨by rfl, ?ya3⟩) (by with_reducible assumption) ?ra3
    case ya3 => (intro w hSw; (try dsimp only at hSw); go_simp; (try with_reducible rfl))
    simp only [Act.put]
    refine wpAnyZ_take (i := 4) (v := ?va4) rfl (by kernel_rfl) (by kernel_rfl) (by kernel_rfl) (by kernel_rfl) (fun _ _ _ h => h) (Or.inl ⟨by rfl, ?ya4⟩) (by with_reducible assumption) ?ra4
    case ya4 => (intro w hSw; (try dsimp only at hSw); go_simp; (try with_reducible rfl))
    simp only [Act.put]
    refine wpAnyZ_take (i := 5) (v := ?va5) rfl (by kernel_rfl) (by kernel_rfl) (by kernel_rfl) (by kernel_rfl) (fun _ _ _ h => h) (Or.inl ⟨by rfl, ?ya5⟩) (by with_reducible assumption) ?ra5
    case ya5 => (intro w hSw; (try dsimp only at hSw); go_simp; (try with_reducible rfl))
    simp only [Act.put]
    refine wpAnyZ_take (i := 6) (v := ?va6) rfl (by kernel_rfl) (by kernel_rfl) (by kernel_rfl) (by kernel_rfl) (fun _ _ _ h => h) (Or.inl ⟨by rfl, ?ya6⟩) (by with_reducible assumption) ?ra6
    case ya6 => (intro w hSw; (try dsimp only at hSw); go_simp; (try with_reducible rfl))
    simp only [Act.put]
    refine wpAnyZ_take (i := 7) (v := undef) rfl (by kernel_rfl) (by kernel_rfl) (by kernel_rfl) (by kernel_rfl) (fun _ _ _ h => h) (Or.inr ⟨by kernel_rfl, rfl⟩) (by with_reducible assumption) ?rb7
    simp only [Act.put]
    refine wpAnyZ_take (i := 8) (v := undef) rfl (by kernel_rfl) (by kernel_rfl) (by kernel_rfl) (by kernel_rfl) (fun _ _ _ h => h) (Or.inr ⟨by kernel_rfl, rfl⟩) (by with_reducible assumption) ?rb8
    simp only [Act.put]
    refine wpAnyZ_take (i := 9) (v := undef) rfl (by kernel_rfl) (by kernel_rfl) (by kernel_rfl) (by kernel_rfl) (fun _ _ _ h => h) (Or.inr ⟨by kernel_rfl, rfl⟩) (by with_reducible assumption) ?rb9
    simp only [Act.put]
    refine wpAnyZ_take (i := 10) (v := undef) rfl (by kernel_rfl) (by kernel_rfl) (by kernel_rfl) (by kernel_rfl) (fun _ _ _ h => h) (Or.inr ⟨by kernel_rfl, rfl⟩) (by with_reducible assumption) ?rb10
    simp only [Act.put]
    refine wpAnyZ_take (i := 11) (v := undef) rfl (by kernel_rfl) (by kernel_rfl) (by kernel_rfl) (by kernel_rfl) (fun _ _ _ h => h) (Or.inr ⟨by kernel_rfl, rfl⟩) (by with_reducible assumption) ?rb11
    simp only [Act.put]
    refine wpAnyZ_take (i := 12) (v := undef) rfl (by kernel_rfl) (by kernel_rfl) (by kernel_rfl) (by kernel_rfl) (fun _ _ _ h => h) (Or.inr ⟨by kernel_rfl, rfl⟩) (by with_reducible assumption) ?rb12
    simp only [Act.put]
    refine wpAnyZ_take (i := 13) (v := undef) rfl (by kernel_rfl) (by kernel_rfl) (by kernel_rfl) (by kernel_rfl) (fun _ _ _ h => h) (Or.inr ⟨by kernel_rfl, rfl⟩) (by with_reducible assumption) ?rb13
    simp only [Act.put]
    refine wpAnyZ_take (i := 14) (v := ?vc14) rfl (by kernel_rfl) (by kernel_rfl) (by kernel_rfl) (by kernel_rfl) (fun _ _ _ h => h) (Or.inl ⟨by kernel_rfl, ?yc14⟩) (by with_reducible assumption) ?rc14
    case yc14 => (intro w hSw; (try dsimp only at hSw); go_simp; (try with_reducible rfl))
    simp only [Act.put]
    refine wpAnyZ_take (i := 15) (v := ?vc15) rfl (by kernel_rfl) (by kernel_rfl) (by kernel_rfl) (by kernel_rfl) (fun _ _ _ h => h) (Or.inl ⟨by kernel_rfl, ?yc15⟩) (by with_reducible assumption) ?rc15
    case yc15 => (intro w hSw; (try dsimp only at hSw); go_simp; (try with_reducible rfl))
    simp only [Act.put]
    refine wpAnyZ_take (i := 16) (v := undef) rfl (by kernel_rfl) (by kernel_rfl) (by kernel_rfl) (by kernel_rfl) (fun _ _ _ h => h) (Or.inr ⟨by kernel_rfl, rfl⟩) (by with_reducible assumption) ?rd16
    simp only [Act.put]
    refine wpAnyZ_take (i := 17) (v := undef) rfl (by kernel_rfl) (by kernel_rfl) (by kernel_rfl) (by kernel_rfl) (fun _ _ _ h => h) (Or.inr ⟨by kernel_rfl, rfl⟩) (by with_reducible assumption) ?rd17
    simp only [Act.put]
    refine wpAnyZ_take (i := 18) (v := undef) rfl (by kernel_rfl) (by kernel_rfl) (by kernel_rfl) (by kernel_rfl) (fun _ _ _ h => h) (Or.inr ⟨by kernel_rfl, rfl⟩) (by with_reducible assumption) ?rd18
    simp only [Act.put]
    refine wpAnyZ_take (i := 19) (v := undef) rfl (by kernel_rfl) (by kernel_rfl) (by kernel_rfl) (by kernel_rfl) (fun _ _ _ h => h) (Or.inr ⟨by kernel_rfl, rfl⟩) (by with_reducible assumption) ?rd19
    simp only [Act.put]
    refine wpAnyZ_take (i := 20) (v := undef) rfl (by kernel_rfl) (by kernel_rfl) (by kernel_rfl) (by kernel_rfl) (fun _ _ _ h => h) (Or.inr ⟨by kernel_rfl, rfl⟩) (by with_reducible assumption) ?rd20
    simp only [Act.put]
    refine wpAnyZ_take (i := 21) (v := undef) rfl (by kernel_rfl) (by kernel_rfl) (by kernel_rfl) (by kernel_rfl) (fun _ _ _ h => h) (Or.inr ⟨by kernel_rfl, rfl⟩) (by with_reducible assumption) ?rd21
    simp only [Act.put]
    refine wpAnyZ_take (i := 22) (v := undef) rfl (by kernel_rfl) (by kernel_rfl) (by kernel_rfl) (by kernel_rfl) (fun _ _ _ h => h) (Or.inr ⟨by kernel_rfl, rfl⟩) (by with_reducible assumption) ?rd22
    simp only [Act.put]
    refine wpAnyZ_take (i := 23) (v := undef) rfl (by kernel_rfl) (by kernel_rfl) (by kernel_rfl) (by kernel_rfl) (fun _ _ _ h => h) (Or.inr ⟨by kernel_rfl, rfl⟩) (by with_reducible assumption) ?rd23
    simp only [Act.put]
    refine wpAnyZ_take (i := 24) (v := undef) rfl (by kernel_rfl) (by kernel_rfl) (by kernel_rfl) (by kernel_rfl) (fun _ _ _ h => h) (Or.inr ⟨by kernel_rfl, rfl⟩) (by with_reducible assumption) ?rd24
    simp only [Act.put]
    refine wpAnyZ_last (i := 25) (by kernel_rfl) rfl (by kernel_rfl) ?_
    intro K25 hK25
    go_simp
    refine hK25.out _ _ ?_
    clear hK25
    go_wp2_with fail
    go_ret2
    exact ⟨rfl, below_on' B0.out hS.1.out⟩
end Go.Proofs.YthgkhpbfbilgmaaDoor
