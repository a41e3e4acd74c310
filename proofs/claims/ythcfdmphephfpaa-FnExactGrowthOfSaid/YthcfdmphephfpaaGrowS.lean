/- The costs of an expression's expansions, the program's; in new memory; nothing that was there changes. No condition but that the arguments can be read. The costs of an expression's expansions, the model's; in new memory; nothing that was there changes. Condition: the text is no longer than 2^20. -/
import Derived.Test.YthcfdmphephfpaaExpand
import Derived.Test.YthcfdmphephfpaaCostM
import Derived.Test.YthcfdmphephfpaaCopyM
namespace Go.Proofs.Ythcfdmphephfpaa
open Go.RowKit
set_option maxHeartbeats 4000000
set_option maxRecDepth 100000
set_option linter.unusedVariables false

/-- The costs of the expansions with 1, 2 and so on times. -/
def growL (n : Nat) (xs ys : List Int) (ss : List StepD) (x : Ex) : Nat → Option (List Int)
  | 0 => some []
  | k + 1 => match growL n xs ys ss x k, expX x (k + 1 : Nat) with
    | some vs, some w => some (vs ++ [costF n xs ys ss w])
    | _, _ => none
def growR (m : Int) (xs ys : List Int) (ss : List StepD) (l : List UInt8) (k : Int) : Option (List Int) :=
  if autoOk m xs ys ss = true ∧ 0 ≤ k ∧ k ≤ 20 then (nodeF l).bind fun x => growL m.toNat xs ys ss x k.toNat else none
theorem growR_auto {m : Int} {xs ys : List Int} {ss : List StepD} {l : List UInt8} {k : Int} (h : autoOk m xs ys ss = false) : growR m xs ys ss l k = none := by unfold growR; rw [if_neg (fun h' => by rw [h] at h'; cases h'.1)]
theorem growR_node {m : Int} {xs ys : List Int} {ss : List StepD} {l : List UInt8} {k : Int} (h : nodeF l = none) : growR m xs ys ss l k = none := by unfold growR; rw [h]; split <;> rfl
theorem growR_out {m : Int} {xs ys : List Int} {ss : List StepD} {l : List UInt8} {k : Int} (h : k < 0 ∨ 20 < k) : growR m xs ys ss l k = none := by unfold growR; rw [if_neg (by omega)]
theorem growR_in {n : Nat} {xs ys : List Int} {ss : List StepD} {l : List UInt8} {k : Nat} {x : Ex} (h : autoOk n xs ys ss = true) (hk : k ≤ 20) (hx : nodeF l = some x) : growR n xs ys ss l k = growL n xs ys ss x k := by
  unfold growR
  rw [if_pos ⟨h, by omega, by omega⟩, hx]; rfl
theorem grow_len {n : Nat} {xs ys : List Int} {ss : List StepD} {x : Ex} : ∀ (k : Nat) (vs : List Int), growL n xs ys ss x k = some vs → vs.length = k
  | 0, vs, h => by cases h; rfl
  | k + 1, vs, h => by
    simp only [growL] at h
    cases hg : growL n xs ys ss x k with
    | none => rw [hg] at h; cases h
    | some us =>
      cases he : expX x (k + 1 : Nat) with
      | none => rw [hg, he] at h; cases h
      | some w =>
        rw [hg, he] at h
        simp only [Option.some.injEq] at h
        rw [← h, List.length_append, grow_len k us hg]; rfl
theorem grow_stop {n : Nat} {xs ys : List Int} {ss : List StepD} {x : Ex} {k : Nat} (he : expX x (k + 1 : Nat) = none) : ∀ j, k < j → growL n xs ys ss x j = none
  | 0, h => by omega
  | j + 1, h => by
    simp only [growL]
    by_cases e : k = j
    · subst e; rw [he]; cases growL n xs ys ss x k <;> rfl
    · rw [grow_stop he j (by omega)]
theorem grow_on {n : Nat} {xs ys : List Int} {ss : List StepD} {x : Ex} {k : Nat} {vs : List Int} {w : List UInt8} (hg : growL n xs ys ss x k = some vs) (he : expX x (k + 1 : Nat) = some w) : growL n xs ys ss x (k + 1) = some (vs ++ [costF n xs ys ss w]) := by simp only [growL, hg, he]
theorem expE_ab (n : Nat) : ∀ x : Ex, (expE n x).all isAB = true
  | .lit b => by cases b <;> rfl
  | .join x y => by rw [expE, List.all_append, expE_ab n x, expE_ab n y]; rfl
  | .rep x => by
    rw [expE]
    unfold repL
    rw [List.all_flatten, List.all_replicate]
    rw [expE_ab n x]; simp
theorem expX_word {x : Ex} {n : Int} {w : List UInt8} (h : expX x n = some w) : w.length ≤ 1000 ∧ w.all isAB = true := by
  unfold expX at h
  split at h
  · rename_i h1
    simp only [Option.some.injEq] at h
    subst h
    exact ⟨h1.2, expE_ab _ x⟩
  · cases h
/-- What is left: a list and true, or none and false. -/
def GEnd (r : Option (List Int)) (w : World) (e : Ending) (w' : World) : Prop :=
  ∃ x, e = .returned (.tuple #[x, .bool r.isSome]) ∧ w'.ownsRow w.heap.size 3 1 x (r.getD []).length ((r.getD []).map (Value.int .i64)) ∧ Below w.heap.size w w' ∧ (r.getD []).length ≤ 1001
theorem GEnd.bad {r : Option (List Int)} {w w' : World} {x : Value} (hr : r = none) (ho : w'.ownsRow w.heap.size 3 1 x 0 []) (hb : Below w.heap.size w w') : GEnd r w (.returned (.tuple #[x, .bool false])) w' := by
  subst hr; exact ⟨x, rfl, ho, hb, Nat.zero_le _⟩
theorem GEnd.good {r : Option (List Int)} {w w' : World} {x : Value} {vs : List Int} (hr : r = some vs) (ho : w'.ownsRow w.heap.size 3 1 x vs.length (vs.map (Value.int .i64))) (hb : Below w.heap.size w w') (hl : vs.length ≤ 1001) : GEnd r w (.returned (.tuple #[x, .bool true])) w' := by
  subst hr; exact ⟨x, rfl, ho, hb, hl⟩
/-- A list as a block of its own. -/
def IB (w : World) (G : Nat) (cs : List Int) : Prop := Blk w G 3 (cs.map (Value.int .i64)).toArray
theorem IB.set_ {w : World} {G : Nat} {cs : List Int} (h : IB w G cs) (k : Nat) (v : Int) : IB (w.setCell ⟨G, k, none⟩ (.int .i64 v)) G (cs.set k v) := by
  have := Blk.set_ h k (.int .i64 v)
  unfold IB
  rw [List.map_set, ← List.setIfInBounds_toArray]
  exact this
theorem IB.at_ {w : World} {G : Nat} {cs : List Int} (h : IB w G cs) {k : Nat} (hk : k < cs.length) : w.cell? ⟨G, k, none⟩ = some (.int .i64 (cs[k]'hk)) := by
  rw [Blk.cell h k]
  simp [hk]
theorem IB.own {w : World} {G B : Nat} {cs : List Int} (h : IB w G cs) (hB : B ≤ G) (hl : cs.length ≤ 1001) : w.ownsRow B 3 1 (.slice (some ⟨G, 0, none⟩) cs.length cs.length) cs.length (cs.map (Value.int .i64)) := by
  refine ⟨by simp, .inr ⟨G, cs.length, _, rfl, hB, h, Nat.le_refl _, by unfold maxLen; omega, by simp, ?_⟩⟩
  simp only [Nat.mul_one]
  exact List.take_of_length_le (by simp)
theorem made_ints (p : Nat) : madeCells #[.int .i64 0] p = ((List.replicate p (0 : Int)).map (Value.int .i64)).toArray := by
  apply Array.ext
  · simp [size_madeCells]
  · intro i h1 h2
    simp [madeCells, Nat.mod_one]
/-- The machine and the nodes, where both are valid. -/
theorem mn_ok (m : Int) (A1 A2 A3 : Option Addr) (c1 c2 c3 : Nat) (xs ys : List Int) (ss : List StepD) (l : ByteArray) (x : Ex) (w : World) (hx : Ints w w.heap.size A1 xs) (hy : Ints w w.heap.size A2 ys) (hs : SRow w w.heap.size A3 ss) (hok : autoOk m xs ys ss = true) (hn : nodeF l.data.toList = some x) :
    Calls Try.prog 22 #[.agg #[.int .i64 m, .slice A1 xs.length c1, .slice A2 ys.length c2, .slice A3 ss.length c3], .string l] w fun e w' =>
      ∃ M, e = .returned (.tuple #[.agg #[.int .i64 m, .bool (hasB xs 0), .bool (hasB xs 1), .bool (hasB xs 2), .bool (hasB xs 3), .bool (hasB ys 0), .bool (hasB ys 1), .bool (hasB ys 2), .bool (hasB ys 3), .map (some M)], exV x, .bool true]) ∧ w.heap.size ≤ M ∧ Hid (CMap w' M ss.length (costAt ss)) ∧ Hid (Below w.heap.size w w') := by
  have HX0 := Lib.hid (ints_al (ints_al hx (.cells #[.int .i64 m, .slice A1 xs.length c1, .slice A2 ys.length c2, .slice A3 ss.length c3] 31)) (.cells #[.int .i64 0, .bool false, .bool false, .bool false, .bool false, .bool false, .bool false, .bool false, .bool false, .map none] 51))
  have HY0 := Lib.hid (ints_al (ints_al hy (.cells #[.int .i64 m, .slice A1 xs.length c1, .slice A2 ys.length c2, .slice A3 ss.length c3] 31)) (.cells #[.int .i64 0, .bool false, .bool false, .bool false, .bool false, .bool false, .bool false, .bool false, .bool false, .map none] 51))
  have HS := Lib.hid ((hs.al (.cells #[.int .i64 m, .slice A1 xs.length c1, .slice A2 ys.length c2, .slice A3 ss.length c3] 31)).al (.cells #[.int .i64 0, .bool false, .bool false, .bool false, .bool false, .bool false, .bool false, .bool false, .bool false, .map none] 51))
  have HOK := Lib.hid hok
  have HN := Lib.hid hn
  clear hx hy hs hok hn
  go_enter Try.func22, Try.ntmps22
  go_wp2_with fail
  refine (machineOf_ok _ _ _ _ _ _ _ _ _ _ _ HX0.out HY0.out HS.out HOK.out).mono ?_
  rintro e w1 ⟨M, rfl, hM, hmap, hb1⟩
  have B1 := Lib.hid (below_on (below_a2 w _ _) hb1.out)
  have R1 : Hid (Blk w1 (w.heap.size + 1) 51 #[.int .i64 0, .bool false, .bool false, .bool false, .bool false, .bool false, .bool false, .bool false, .bool false, .map none]) := (blk_new (by simp)).below hb1.out (by simp)
  have hMw : w.heap.size + 1 < M := by simp at hM; omega
  have hw1 := Blk.lt R1.out
  clear hb1 HX0 HY0 HS hM
  go_wp2_with fail
  refine (nodeOf_yes _ _ x HN.out).mono ?_
  rintro e w2 ⟨rfl, hb2⟩
  have R2 := Lib.hid (blk_b (R1.out.alloc (.cells #[.int .i64 m, .bool (hasB xs 0), .bool (hasB xs 1), .bool (hasB xs 2), .bool (hasB xs 3), .bool (hasB ys 0), .bool (hasB ys 1), .bool (hasB ys 2), .bool (hasB ys 3), .map (some M)] 51)) hb2)
  have B2 := Lib.hid (below_on (below_al B1.out (Nat.le_refl _) (.cells #[.int .i64 m, .bool (hasB xs 0), .bool (hasB xs 1), .bool (hasB xs 2), .bool (hasB xs 3), .bool (hasB ys 0), .bool (hasB ys 1), .bool (hasB ys 2), .bool (hasB ys 3), .map (some M)] 51)) hb2)
  have P2 := Lib.hid (blk_b (Blk.new w1 51 #[.int .i64 m, .bool (hasB xs 0), .bool (hasB xs 1), .bool (hasB xs 2), .bool (hasB xs 3), .bool (hasB ys 0), .bool (hasB ys 1), .bool (hasB ys 2), .bool (hasB ys 3), .map (some M)]) hb2)
  have C2 := Lib.hid ((hmap.out.kept (World.grownBy_alloc w1 (.cells #[.int .i64 m, .bool (hasB xs 0), .bool (hasB xs 1), .bool (hasB xs 2), .bool (hasB xs 3), .bool (hasB ys 0), .bool (hasB ys 1), .bool (hasB ys 2), .bool (hasB ys 3), .map (some M)] 51) none) (by simp)).below hb2)
  have hw2 := Blk.lt R2.out
  have hne : ¬ w1.heap.size = w.heap.size + 1 := by omega
  obtain ⟨P, hP⟩ : ∃ P, P = w1.heap.size := ⟨_, rfl⟩
  rw [← hP] at P2 hne ⊢
  clear hb2 R1 B1 hw1 hmap hP
  obtain ⟨p0, p1, p2, p3, p4, p5, p6, p7, p8, p9⟩ := ten_cells P2.out
  obtain ⟨d0, d1, d2, d3, d4, d5, d6, d7, d8, d9⟩ := ten_cells R2.out
  obtain ⟨f0, f1, f2, f3, f4, f5, f6, f7, f8, f9⟩ := ten_frozen R2.out
  obtain ⟨t0, v0, hx0⟩ := exV_iface x
  rw [hx0]
  go_wp2_with fail
  have HF := ten_blk R2.out (.int .i64 m) (.bool (hasB xs 0)) (.bool (hasB xs 1)) (.bool (hasB xs 2)) (.bool (hasB xs 3)) (.bool (hasB ys 0)) (.bool (hasB ys 1)) (.bool (hasB ys 2)) (.bool (hasB ys 3)) (.map (some M))
  have HG := ten_grow w2 (w.heap.size + 1) (.int .i64 m) (.bool (hasB xs 0)) (.bool (hasB xs 1)) (.bool (hasB xs 2)) (.bool (hasB xs 3)) (.bool (hasB ys 0)) (.bool (hasB ys 1)) (.bool (hasB ys 2)) (.bool (hasB ys 3)) (.map (some M))
  refine bodyPost_ret (results_3 rfl (gives_mach (g := w.heap.size + 1) rfl HF) (Gives.tmp rfl) (Gives.tmp rfl)) rfl ?_
  rw [hx0]
  exact ⟨M, rfl, by omega, Lib.hid (C2.out.kept HG (by intro e; cases e; omega)), Lib.hid (B2.out.grown HG B2.out.size (fun j hj => by cases hj; omega))⟩
theorem mn_auto (m : Int) (A1 A2 A3 : Option Addr) (c1 c2 c3 : Nat) (xs ys : List Int) (ss : List StepD) (l : ByteArray) (w : World) (hx : Ints w w.heap.size A1 xs) (hy : Ints w w.heap.size A2 ys) (hs : SRow w w.heap.size A3 ss) (hok : autoOk m xs ys ss = false) :
    Calls Try.prog 22 #[.agg #[.int .i64 m, .slice A1 xs.length c1, .slice A2 ys.length c2, .slice A3 ss.length c3], .string l] w fun e w' => e = .returned (.tuple #[.agg #[.int .i64 0, .bool false, .bool false, .bool false, .bool false, .bool false, .bool false, .bool false, .bool false, .map none], .nilIface, .bool false]) ∧ Hid (Below w.heap.size w w') := by
  have HX0 := Lib.hid (ints_al (ints_al hx (.cells #[.int .i64 m, .slice A1 xs.length c1, .slice A2 ys.length c2, .slice A3 ss.length c3] 31)) (.cells #[.int .i64 0, .bool false, .bool false, .bool false, .bool false, .bool false, .bool false, .bool false, .bool false, .map none] 51))
  have HY0 := Lib.hid (ints_al (ints_al hy (.cells #[.int .i64 m, .slice A1 xs.length c1, .slice A2 ys.length c2, .slice A3 ss.length c3] 31)) (.cells #[.int .i64 0, .bool false, .bool false, .bool false, .bool false, .bool false, .bool false, .bool false, .bool false, .map none] 51))
  have HS := Lib.hid ((hs.al (.cells #[.int .i64 m, .slice A1 xs.length c1, .slice A2 ys.length c2, .slice A3 ss.length c3] 31)).al (.cells #[.int .i64 0, .bool false, .bool false, .bool false, .bool false, .bool false, .bool false, .bool false, .bool false, .map none] 51))
  have HOK := Lib.hid hok
  clear hx hy hs hok
  go_enter Try.func22, Try.ntmps22
  go_wp2_with fail
  refine (machineOf_no _ _ _ _ _ _ _ _ _ _ _ HX0.out HY0.out HS.out HOK.out).mono ?_
  rintro e w1 ⟨rfl, hb1⟩
  have B1 := Lib.hid (below_on (below_a2 w _ _) hb1.out)
  have R1 : Hid (Blk w1 (w.heap.size + 1) 51 #[.int .i64 0, .bool false, .bool false, .bool false, .bool false, .bool false, .bool false, .bool false, .bool false, .map none]) := (blk_new (by simp)).below hb1.out (by simp)
  clear hb1 HX0 HY0 HS
  go_wp2_with fail
  cases hn : nodeF l.data.toList with
  | none =>
    refine (nodeOf_no _ _ hn).mono ?_
    rintro e w2 ⟨rfl, hb2⟩
    have R2 := Lib.hid (blk_b (R1.out.alloc (.cells #[.int .i64 0, .bool false, .bool false, .bool false, .bool false, .bool false, .bool false, .bool false, .bool false, .map none] 51)) hb2)
    have B2 := Lib.hid (below_on (below_al B1.out (Nat.le_refl _) (.cells #[.int .i64 0, .bool false, .bool false, .bool false, .bool false, .bool false, .bool false, .bool false, .bool false, .map none] 51)) hb2)
    clear hb2 R1 B1
    obtain ⟨d0, d1, d2, d3, d4, d5, d6, d7, d8, d9⟩ := ten_cells R2.out
    obtain ⟨f0, f1, f2, f3, f4, f5, f6, f7, f8, f9⟩ := ten_frozen R2.out
    go_wp2_with fail
    have HF := ten_blk R2.out (.int .i64 0) (.bool false) (.bool false) (.bool false) (.bool false) (.bool false) (.bool false) (.bool false) (.bool false) (.map none)
    have HG := ten_grow w2 (w.heap.size + 1) (.int .i64 0) (.bool false) (.bool false) (.bool false) (.bool false) (.bool false) (.bool false) (.bool false) (.bool false) (.map none)
    refine bodyPost_ret (results_3 rfl (gives_mach (g := w.heap.size + 1) rfl HF) (Gives.tmp rfl) (Gives.tmp rfl)) rfl ?_
    exact ⟨rfl, Lib.hid (B2.out.grown HG B2.out.size (fun j hj => by cases hj; omega))⟩
  | some x =>
    refine (nodeOf_yes _ _ x hn).mono ?_
    rintro e w2 ⟨rfl, hb2⟩
    have R2 := Lib.hid (blk_b (R1.out.alloc (.cells #[.int .i64 0, .bool false, .bool false, .bool false, .bool false, .bool false, .bool false, .bool false, .bool false, .map none] 51)) hb2)
    have B2 := Lib.hid (below_on (below_al B1.out (Nat.le_refl _) (.cells #[.int .i64 0, .bool false, .bool false, .bool false, .bool false, .bool false, .bool false, .bool false, .bool false, .map none] 51)) hb2)
    clear hb2 R1 B1
    obtain ⟨d0, d1, d2, d3, d4, d5, d6, d7, d8, d9⟩ := ten_cells R2.out
    obtain ⟨f0, f1, f2, f3, f4, f5, f6, f7, f8, f9⟩ := ten_frozen R2.out
    obtain ⟨t0, v0, hx0⟩ := exV_iface x
    rw [hx0]
    go_wp2_with fail
    have HF := ten_blk R2.out (.int .i64 0) (.bool false) (.bool false) (.bool false) (.bool false) (.bool false) (.bool false) (.bool false) (.bool false) (.map none)
    have HG := ten_grow w2 (w.heap.size + 1) (.int .i64 0) (.bool false) (.bool false) (.bool false) (.bool false) (.bool false) (.bool false) (.bool false) (.bool false) (.map none)
    refine bodyPost_ret (results_3 rfl (gives_mach (g := w.heap.size + 1) rfl HF) (Gives.tmp rfl) (Gives.tmp rfl)) rfl ?_
    exact ⟨rfl, Lib.hid (B2.out.grown HG B2.out.size (fun j hj => by cases hj; omega))⟩
theorem mn_node (m : Int) (A1 A2 A3 : Option Addr) (c1 c2 c3 : Nat) (xs ys : List Int) (ss : List StepD) (l : ByteArray) (w : World) (hx : Ints w w.heap.size A1 xs) (hy : Ints w w.heap.size A2 ys) (hs : SRow w w.heap.size A3 ss) (hok : autoOk m xs ys ss = true) (hn : nodeF l.data.toList = none) :
    Calls Try.prog 22 #[.agg #[.int .i64 m, .slice A1 xs.length c1, .slice A2 ys.length c2, .slice A3 ss.length c3], .string l] w fun e w' => e = .returned (.tuple #[.agg #[.int .i64 0, .bool false, .bool false, .bool false, .bool false, .bool false, .bool false, .bool false, .bool false, .map none], .nilIface, .bool false]) ∧ Hid (Below w.heap.size w w') := by
  have HX0 := Lib.hid (ints_al (ints_al hx (.cells #[.int .i64 m, .slice A1 xs.length c1, .slice A2 ys.length c2, .slice A3 ss.length c3] 31)) (.cells #[.int .i64 0, .bool false, .bool false, .bool false, .bool false, .bool false, .bool false, .bool false, .bool false, .map none] 51))
  have HY0 := Lib.hid (ints_al (ints_al hy (.cells #[.int .i64 m, .slice A1 xs.length c1, .slice A2 ys.length c2, .slice A3 ss.length c3] 31)) (.cells #[.int .i64 0, .bool false, .bool false, .bool false, .bool false, .bool false, .bool false, .bool false, .bool false, .map none] 51))
  have HS := Lib.hid ((hs.al (.cells #[.int .i64 m, .slice A1 xs.length c1, .slice A2 ys.length c2, .slice A3 ss.length c3] 31)).al (.cells #[.int .i64 0, .bool false, .bool false, .bool false, .bool false, .bool false, .bool false, .bool false, .bool false, .map none] 51))
  have HOK := Lib.hid hok
  have HN := Lib.hid hn
  clear hx hy hs hok hn
  go_enter Try.func22, Try.ntmps22
  go_wp2_with fail
  refine (machineOf_ok _ _ _ _ _ _ _ _ _ _ _ HX0.out HY0.out HS.out HOK.out).mono ?_
  rintro e w1 ⟨M, rfl, hM, hmap, hb1⟩
  have B1 := Lib.hid (below_on (below_a2 w _ _) hb1.out)
  have R1 : Hid (Blk w1 (w.heap.size + 1) 51 #[.int .i64 0, .bool false, .bool false, .bool false, .bool false, .bool false, .bool false, .bool false, .bool false, .map none]) := (blk_new (by simp)).below hb1.out (by simp)
  clear hb1 HX0 HY0 HS hM
  go_wp2_with fail
  refine (nodeOf_no _ _ HN.out).mono ?_
  rintro e w2 ⟨rfl, hb2⟩
  have R2 := Lib.hid (blk_b (R1.out.alloc (.cells #[.int .i64 m, .bool (hasB xs 0), .bool (hasB xs 1), .bool (hasB xs 2), .bool (hasB xs 3), .bool (hasB ys 0), .bool (hasB ys 1), .bool (hasB ys 2), .bool (hasB ys 3), .map (some M)] 51)) hb2)
  have B2 := Lib.hid (below_on (below_al B1.out (Nat.le_refl _) (.cells #[.int .i64 m, .bool (hasB xs 0), .bool (hasB xs 1), .bool (hasB xs 2), .bool (hasB xs 3), .bool (hasB ys 0), .bool (hasB ys 1), .bool (hasB ys 2), .bool (hasB ys 3), .map (some M)] 51)) hb2)
  clear hb2 R1 B1
  obtain ⟨d0, d1, d2, d3, d4, d5, d6, d7, d8, d9⟩ := ten_cells R2.out
  obtain ⟨f0, f1, f2, f3, f4, f5, f6, f7, f8, f9⟩ := ten_frozen R2.out
  go_wp2_with fail
  have HF := ten_blk R2.out (.int .i64 0) (.bool false) (.bool false) (.bool false) (.bool false) (.bool false) (.bool false) (.bool false) (.bool false) (.map none)
  have HG := ten_grow w2 (w.heap.size + 1) (.int .i64 0) (.bool false) (.bool false) (.bool false) (.bool false) (.bool false) (.bool false) (.bool false) (.bool false) (.map none)
  refine bodyPost_ret (results_3 rfl (gives_mach (g := w.heap.size + 1) rfl HF) (Gives.tmp rfl) (Gives.tmp rfl)) rfl ?_
  exact ⟨rfl, Lib.hid (B2.out.grown HG B2.out.size (fun j hj => by cases hj; omega))⟩
theorem take_set (vs : List Int) (p j : Nat) (v : Int) (hj : j < p) (hl : vs.length = j) : (vs ++ List.replicate (p - j) 0).set j v = (vs ++ [v]) ++ List.replicate (p - (j + 1)) 0 := by
  have e : p - j = (p - (j + 1)) + 1 := by omega
  rw [e, List.replicate_succ, List.set_append]
  rw [if_neg (by omega), hl, Nat.sub_self, List.set_cons_zero, List.append_assoc]
  rfl
theorem iGrowth_any (m : Int) (A1 A2 A3 : Option Addr) (c1 c2 c3 : Nat) (xs ys : List Int) (ss : List StepD) (l : ByteArray) (k : Int) (w : World) (hx : Ints w w.heap.size A1 xs) (hy : Ints w w.heap.size A2 ys) (hs : SRow w w.heap.size A3 ss) :
    Calls Try.prog 7 #[.agg #[.int .i64 m, .slice A1 xs.length c1, .slice A2 ys.length c2, .slice A3 ss.length c3], .string l, .int .i64 k] w fun e w' => GEnd (growR m xs ys ss l.data.toList k) w e w' := by
  have HX0 := Lib.hid (ints_al hx (.cells #[.int .i64 m, .slice A1 xs.length c1, .slice A2 ys.length c2, .slice A3 ss.length c3] 31))
  have HY0 := Lib.hid (ints_al hy (.cells #[.int .i64 m, .slice A1 xs.length c1, .slice A2 ys.length c2, .slice A3 ss.length c3] 31))
  have HS := Lib.hid (hs.al (.cells #[.int .i64 m, .slice A1 xs.length c1, .slice A2 ys.length c2, .slice A3 ss.length c3] 31))
  clear hx hy hs
  cases hok : autoOk m xs ys ss with
  | false =>
    have HOK := Lib.hid hok
    have HR := Lib.hid (growR_auto (l := l.data.toList) (k := k) hok)
    clear hok
    go_enter Try.func7, Try.ntmps7
    go_wp2_with fail
    refine (mn_auto _ _ _ _ _ _ _ _ _ _ _ _ HX0.out HY0.out HS.out HOK.out).mono ?_
    rintro e w1 ⟨rfl, hb1⟩
    have B1 := Lib.hid (below_on (below_a1 w _) hb1.out)
    clear hb1 HX0 HY0 HS
    go_wp2_with fail
    go_ret2
    exact GEnd.bad HR.out (World.ownsRow_nil _ _ _ _) (below_al B1.out (Nat.le_refl _) _)
  | true =>
    cases hn : nodeF l.data.toList with
    | none =>
      have HOK := Lib.hid hok
      have HN := Lib.hid hn
      have HR := Lib.hid (growR_node (m := m) (xs := xs) (ys := ys) (ss := ss) (k := k) hn)
      clear hok hn
      go_enter Try.func7, Try.ntmps7
      go_wp2_with fail
      refine (mn_node _ _ _ _ _ _ _ _ _ _ _ _ HX0.out HY0.out HS.out HOK.out HN.out).mono ?_
      rintro e w1 ⟨rfl, hb1⟩
      have B1 := Lib.hid (below_on (below_a1 w _) hb1.out)
      clear hb1 HX0 HY0 HS
      go_wp2_with fail
      go_ret2
      exact GEnd.bad HR.out (World.ownsRow_nil _ _ _ _) (below_al B1.out (Nat.le_refl _) _)
    | some x =>
      obtain ⟨n, rfl, n1, n2, hxi, _, _, hsi⟩ := auto_in hok
      have HOK := Lib.hid hok
      have HN := Lib.hid hn
      have HSI := Lib.hid hsi
      have HXI := Lib.hid hxi
      clear hok hn hsi hxi
      go_enter Try.func7, Try.ntmps7
      go_wp2_with fail
      refine (mn_ok _ _ _ _ _ _ _ _ _ _ _ x _ HX0.out HY0.out HS.out HOK.out HN.out).mono ?_
      rintro e w1 ⟨M, rfl, hM, hmap, hb1⟩
      have B1 := Lib.hid (below_on (below_a1 w _) hb1.out)
      have hw1 : w.heap.size + 1 ≤ w1.heap.size := by have := hb1.out.size; simpa using this
      obtain ⟨w2, hw2⟩ : ∃ w2, w2 = w1.alloc (.cells #[.int .i64 n, .bool (hasB xs 0), .bool (hasB xs 1), .bool (hasB xs 2), .bool (hasB xs 3), .bool (hasB ys 0), .bool (hasB ys 1), .bool (hasB ys 2), .bool (hasB ys 3), .map (some M)] 51) := ⟨_, rfl⟩
      have P2 : Hid (Blk w2 w1.heap.size 51 #[.int .i64 n, .bool (hasB xs 0), .bool (hasB xs 1), .bool (hasB xs 2), .bool (hasB xs 3), .bool (hasB ys 0), .bool (hasB ys 1), .bool (hasB ys 2), .bool (hasB ys 3), .map (some M)]) := by rw [hw2]; exact Blk.new _ _ _
      have B2 : Hid (Below w.heap.size w w2) := by rw [hw2]; exact below_al B1.out (Nat.le_refl _) _
      have C2 : Hid (CMap w2 M ss.length (costAt ss)) := by rw [hw2]; exact hmap.out.kept (World.grownBy_alloc w1 _ none) (by simp)
      have hMlt : M < w1.heap.size := hmap.out.lt
      obtain ⟨P, hP⟩ : ∃ P, P = w1.heap.size := ⟨_, rfl⟩
      have hs2 : w2.heap.size = P + 1 := by rw [hw2, hP]; simp
      obtain ⟨t0, v0, hx0⟩ := exV_iface x
      rw [← hP] at P2 hMlt
      clear hb1 HX0 HY0 HS hM hmap B1
      by_cases hlo : k < 0
      · have HR := Lib.hid (growR_out (m := (n : Int)) (xs := xs) (ys := ys) (ss := ss) (l := l.data.toList) (.inl hlo : k < 0 ∨ 20 < k))
        rw [hx0]
        go_wp2_with fail
        rw [← hw2]
        go_ret2
        exact GEnd.bad HR.out (World.ownsRow_nil _ _ _ _) B2.out
      by_cases hhi : 20 < k
      · have HR := Lib.hid (growR_out (m := (n : Int)) (xs := xs) (ys := ys) (ss := ss) (l := l.data.toList) (.inr hhi : k < 0 ∨ 20 < k))
        rw [hx0]
        go_wp2_with fail
        rw [← hw2]
        go_ret2
        exact GEnd.bad HR.out (World.ownsRow_nil _ _ _ _) B2.out
      obtain ⟨p, rfl⟩ : ∃ p : Nat, k = (p : Int) := ⟨k.toNat, by omega⟩
      have hp : p ≤ 20 := by omega
      have HR := Lib.hid (growR_in (l := l.data.toList) HOK.out hp HN.out)
      have hmk : ∀ w : World, (Instr.makeSlice 22 (.int .i64 (p : Int)) (.int .i64 (p : Int))).run Try.prog w = .ok (.slice (some ⟨w.heap.size, 0, none⟩) p p) (w.alloc (.cells (madeCells #[.int .i64 0] p) 3)) :=
        fun w => run_make_row' 22 3 (.int .i64 0) 8 Try.underlying22 info_int' rfl .i64 .i64 p (by omega) (by omega) w
      obtain ⟨w3, hw3⟩ : ∃ w3, w3 = w2.alloc (.cells (madeCells #[.int .i64 0] p) 3) := ⟨_, rfl⟩
      obtain ⟨G, hG⟩ : ∃ G, G = w2.heap.size := ⟨_, rfl⟩
      have hG1 : G = w1.heap.size + 1 := by rw [hG, hw2]; simp
      have I3 : Hid (IB w3 G (List.replicate p 0)) := by rw [hw3, hG, made_ints]; exact Blk.new _ _ _
      have P3 : Hid (Blk w3 P 51 #[.int .i64 n, .bool (hasB xs 0), .bool (hasB xs 1), .bool (hasB xs 2), .bool (hasB xs 3), .bool (hasB ys 0), .bool (hasB ys 1), .bool (hasB ys 2), .bool (hasB ys 3), .map (some M)]) := by rw [hw3]; exact P2.out.alloc _
      have B3 : Hid (Below w.heap.size w w3) := by rw [hw3]; exact below_al B2.out (Nat.le_refl _) _
      have C3 : Hid (CMap w3 M ss.length (costAt ss)) := by rw [hw3]; exact C2.out.kept (World.grownBy_alloc w2 _ none) (by simp)
      have hGP : ¬ P = G := by omega
      have hGM : ¬ M = G := by omega
      have hGw : w.heap.size ≤ G := by omega
      have hs3 : G < w3.heap.size := by rw [hw3, hG]; simp
      have hcx : ∀ (j : Nat) (w : World), j < p → Calls Try.prog 23 #[.iface t0 v0, .int .i64 ((j : Int) + 1)] w fun e w' => e = .returned (exRet (expX x ((j + 1 : Nat) : Int))) ∧ Below w.heap.size w w' := fun j w hj => by
        have h := expansion_any x ((j + 1 : Nat) : Int) w (by omega)
        rw [hx0] at h
        exact h
      have HCX := Lib.hid hcx
      rw [hx0]
      clear hcx hs2
      go_wp2_with fail
      rw [← hw2]
      go_wp2_with fail
      rw [← hw3, ← hG1, ← hP]
      clear hw2 hw3 hG hG1 hmk P2 B2 C2 hP hw1 hMlt
      go_loopw [36] (fun i wr => ∃ (j : Nat) (vs : List Int), j ≤ p ∧ i = .int .i64 j ∧ Hid (growL n xs ys ss x j = some vs) ∧ Hid (IB wr G (vs ++ List.replicate (p - j) 0)) ∧ Hid (Blk wr P 51 #[.int .i64 n, .bool (hasB xs 0), .bool (hasB xs 1), .bool (hasB xs 2), .bool (hasB xs 3), .bool (hasB ys 0), .bool (hasB ys 1), .bool (hasB ys 2), .bool (hasB ys 3), .map (some M)]) ∧ Hid (Below w.heap.size w wr) ∧ Hid (CMap wr M ss.length (costAt ss)) ∧ Hid (w3.heap.size ≤ wr.heap.size)) (fun i _ => p - (intOf i).toNat)
      case atStart => exact ⟨0, [], by omega, rfl, rfl, I3.out, P3.out, B3.out, C3.out, Nat.le_refl _⟩
      case round =>
        clear I3 P3 B3 C3
        obtain ⟨j, vs, hj, rfl, hg, hI, hP, hB, hC, hS⟩ := hrel
        by_cases hlt : j < p
        · have hlt' : (j : Int) < (p : Int) := by omega
          have hj0 : (0 : Int) ≤ (j : Int) := by omega
          have hj1 : (j : Int) + 1 ≤ 21 := by omega
          go_wp2_with fail
          refine (HCX.out j _ hlt).mono ?_
          rintro e w4 ⟨rfl, hb4⟩
          have hI4 : Hid (IB w4 G (vs ++ List.replicate (p - j) 0)) := blk_b hI.out hb4
          have hP4 := Lib.hid (blk_b hP.out hb4)
          have hB4 := Lib.hid (below_on hB.out hb4)
          have hC4 := Lib.hid (hC.out.below hb4)
          have hS4 : Hid (w3.heap.size ≤ w4.heap.size) := Nat.le_trans hS.out hb4.size
          clear hI hP hB hC hS hb4
          cases hx : expX x ((j + 1 : Nat) : Int) with
          | none =>
            have HRN : Hid (growR (n : Int) xs ys ss l.data.toList (p : Int) = none) := HR.out.trans (grow_stop hx p hlt)
            simp only [exRet]
            go_wp2_with fail
            go_ret2
            exact GEnd.bad HRN.out (World.ownsRow_nil _ _ _ _) hB4.out
          | some u =>
            have HGN := Lib.hid (grow_on hg.out hx)
            obtain ⟨hu1, hu2⟩ := expX_word hx
            have HU2 := Lib.hid hu2
            obtain ⟨p0, p1, p2, p3, p4, p5, p6, p7, p8, p9⟩ := ten_cells hP4.out
            have hvl : vs.length = j := grow_len j vs hg.out
            have HVL := Lib.hid hvl
            simp only [exRet]
            clear hx hu2 hvl
            go_wp2_with fail
            refine (costOf_any n M _ _ _ _ _ _ _ _ _ xs ys ss ⟨u.toArray⟩ _ n2 HXI.out HSI.out (by rw [size_len]; exact hu1) HU2.out rfl rfl hC4.out).mono ?_
            rintro e w5 ⟨rfl, hb5⟩
            have hI5 : Hid (IB w5 G (vs ++ List.replicate (p - j) 0)) := blk_b hI4.out hb5
            have hP5 := Lib.hid (blk_b hP4.out hb5)
            have hB5 := Lib.hid (below_on hB4.out hb5)
            have hC5 := Lib.hid (hC4.out.below hb5)
            have hS5 : Hid (w3.heap.size ≤ w5.heap.size) := Nat.le_trans hS4.out hb5.size
            clear hI4 hP4 hB4 hC4 hS4 hb5 p0 p1 p2 p3 p4 p5 p6 p7 p8 p9
            obtain ⟨v, hv⟩ : ∃ v, v = costF n xs ys ss u := ⟨_, rfl⟩
            have eu : costF n xs ys ss (⟨u.toArray⟩ : ByteArray).data.toList = v := by rw [hv]
            rw [eu]
            have HV := Lib.hid hv
            clear eu hv
            have hcell := hI5.out.at_ (k := j) (by rw [List.length_append, HVL.out, List.length_replicate]; omega)
            have hfr : w5.frozen? ⟨G, j, none⟩ = false := Blk.frozen hI5.out j
            go_wp2_with fail
            go_roundw
            case rel =>
              refine ⟨j + 1, vs ++ [v], by omega, by go_num, (by rw [HV.out]; exact HGN.out), ?_, ?_, hB5.out.setCell (p := ⟨G, j, none⟩) hGw _, hC5.out.kept (grow_set w5 G j (.int .i64 v)) (by intro e; cases e; exact hGM rfl), ?_⟩
              · have h := hI5.out.set_ j v
                rw [take_set vs p j v hlt HVL.out] at h
                exact h
              · exact (Below.heap_setCell w5 ⟨G, j, none⟩ _ P hGP).trans hP5.out
              · have := hS5.out; show w3.heap.size ≤ _; simpa using this
            case measure => simp [intOf]; omega
        · have hlt' : ¬ (j : Int) < (p : Int) := by omega
          have : j = p := by omega
          subst this
          have hvl : vs.length = j := grow_len j vs hg.out
          have HE : Hid (IB wr G vs) := by have h := hI.out; rw [Nat.sub_self, List.replicate_zero, List.append_nil] at h; exact h
          go_wp2_with fail
          go_ret2
          have ho := HE.out.own (B := w.heap.size) hGw (by omega)
          rw [hvl] at ho
          exact GEnd.good (HR.out.trans hg.out) (by rw [hvl]; exact ho) hB.out (by omega)
end Go.Proofs.Ythcfdmphephfpaa
namespace Go.Proofs.Ythcfdmphephfpaa
open Go.RowKit
set_option maxHeartbeats 4000000
set_option maxRecDepth 100000
set_option linter.unusedVariables false

theorem expR_node {l : List UInt8} {n : Int} {u : List UInt8} (h : expR l n = some u) : ∃ x, nodeF l = some x ∧ expX x n = some u := by
  unfold expR at h
  cases hn : nodeF l with
  | none => rw [hn] at h; cases h
  | some x => rw [hn] at h; exact ⟨x, rfl, h⟩
theorem snoc_map_ (vs : List Int) (a : Int) : vs.map (Value.int .i64) ++ [.int .i64 a] = (vs ++ [a]).map (Value.int .i64) := by simp
theorem sGrowth_any (m : Int) (A1 A2 A3 : Option Addr) (c1 c2 c3 : Nat) (xs ys : List Int) (ss : List StepD) (l : ByteArray) (k : Int) (hll : l.size ≤ 1048576) (hk9 : k ≤ 9223372036854775807) (w : World) (hx : Ints w w.heap.size A1 xs) (hy : Ints w w.heap.size A2 ys) (hs : SRow w w.heap.size A3 ss) :
    Calls Try.prog 5 #[.agg #[.int .i64 m, .slice A1 xs.length c1, .slice A2 ys.length c2, .slice A3 ss.length c3], .string l, .int .i64 k] w fun e w' => GEnd (growR m xs ys ss l.data.toList k) w e w' := by
  obtain ⟨i0, hi, hz0, hz1, hz2⟩ := info_parts info_int
  have ZI := Lib.hid hi
  have Z0 := Lib.hid hz0
  have Z1 := Lib.hid hz1
  have Z2 := Lib.hid hz2
  clear hi hz0 hz1 hz2
  have HX0 := Lib.hid (ints_al hx (.cells #[.int .i64 m, .slice A1 xs.length c1, .slice A2 ys.length c2, .slice A3 ss.length c3] 31))
  have HY0 := Lib.hid (ints_al hy (.cells #[.int .i64 m, .slice A1 xs.length c1, .slice A2 ys.length c2, .slice A3 ss.length c3] 31))
  have HS := Lib.hid (hs.al (.cells #[.int .i64 m, .slice A1 xs.length c1, .slice A2 ys.length c2, .slice A3 ss.length c3] 31))
  have K0 := Lib.hid (Blk.new w 31 #[.int .i64 m, .slice A1 xs.length c1, .slice A2 ys.length c2, .slice A3 ss.length c3])
  have B0 := Lib.hid (below_a1 w (.cells #[.int .i64 m, .slice A1 xs.length c1, .slice A2 ys.length c2, .slice A3 ss.length c3] 31))
  clear hx hy hs
  obtain ⟨ok, hok⟩ : ∃ ok, autoOk m xs ys ss = ok := ⟨_, rfl⟩
  have HOK := Lib.hid hok
  obtain ⟨w1, hw1⟩ : ∃ w1, w1 = w.alloc (.cells #[.int .i64 m, .slice A1 xs.length c1, .slice A2 ys.length c2, .slice A3 ss.length c3] 31) := ⟨_, rfl⟩
  have hs1 : w1.heap.size = w.heap.size + 1 := by rw [hw1]; simp
  rw [← hw1] at HX0 HY0 HS K0 B0
  go_enter Try.func5, Try.ntmps5
  go_wp2_with fail
  rw [← hw1]
  obtain ⟨L, hL⟩ : ∃ L, L = w.heap.size + 1 := ⟨_, rfl⟩
  rw [← hL] at hs1 ⊢
  have L1 : Hid ((w1.alloc (.cells #[] 3)).ownsRow L 3 1 (.slice (some ⟨L, 0, none⟩) 0 0) 0 []) := by
    have h := World.ownsRow_lit (e := 3) (size := 1) w1 #[] 0 (Nat.le_refl _) (Nat.zero_le _) rfl
    rw [hs1] at h
    exact h
  have B1 := Lib.hid (below_a1 w1 (.cells #[] 3))
  have kL : w.heap.size < L := by omega
  have HLW1 : Hid (L = w1.heap.size) := hs1.symm
  clear hw1 hs1 hL
  refine (sAutomatonValid_is _ _ _ _ _ _ _ _ _ _ ok _ (ints_al HX0.out _) (ints_al HY0.out _) (HS.out.al _) HOK.out).mono ?_
  rintro e w2 ⟨rfl, hb2⟩
  have L2 := Lib.hid (own_under L1.out hb2.out)
  have B2 := Lib.hid (below_on B1.out hb2.out)
  have hw2L : L + 1 ≤ w2.heap.size := by have := hb2.out.size; simp at this; have := HLW1.out; omega
  clear hb2 L1 B1
  cases ok with
  | false =>
    have HR := Lib.hid (growR_auto (l := l.data.toList) (k := k) hok)
    clear hok
    go_wp2_with fail
    go_ret2
    exact GEnd.bad HR.out (own_base L2.out (Nat.le_of_lt kL)) (below_on B0.out B2.out)
  | true =>
    obtain ⟨n, rfl, n1, n2, hxi, hyi, _, hsi⟩ := auto_in hok
    have HSI := Lib.hid hsi
    have HXI := Lib.hid hxi
    have HYI := Lib.hid hyi
    clear hok hsi hxi hyi
    go_wp2_with fail
    refine (l1In_any k 0 20 _).mono ?_
    rintro e w3 ⟨rfl, rfl⟩
    by_cases hin : 0 ≤ k ∧ k ≤ 20
    · rw [decide_eq_true hin]
      obtain ⟨p, rfl⟩ : ∃ p : Nat, k = (p : Int) := ⟨k.toNat, by omega⟩
      have hp : p ≤ 20 := by omega
      clear hin hk9
      go_wp2_with fail
      go_loopw [8, 9] (fun o i wr => ∃ (j : Nat) (vs : List Int), j ≤ p ∧ i = .int .i64 ((j : Int) + 1) ∧ vs.length = j ∧ Hid (∀ x, nodeF l.data.toList = some x → growL n xs ys ss x j = some vs) ∧ Hid (nodeF l.data.toList = none → j = 0) ∧ Hid (wr.ownsRow L 3 1 o vs.length (vs.map (Value.int .i64))) ∧ Hid (Below w1.heap.size w1 wr) ∧ Hid (L ≤ wr.heap.size)) (fun _ i _ => p + 1 - (intOf i).toNat)
      case atStart => exact ⟨0, [], by omega, rfl, rfl, fun x _ => rfl, fun _ => rfl, L2.out, B2.out, by show _ ≤ _; omega⟩
      case round =>
        obtain ⟨j, vs, hj, rfl, hvl, hg, hn0, ho, hb, hsz⟩ := hrel
        have HK := Lib.hid (K0.out.below hb.out (Blk.lt K0.out))
        obtain ⟨k0, k1, k2, k3⟩ := four_cells HK.out
        by_cases hlt : j < p
        · have hlt' : (j : Int) + 1 ≤ (p : Int) := by omega
          have hj2 : (j : Int) + 1 ≤ 21 := by omega
          have hj3 : (0 : Int) ≤ (j : Int) + 1 := by omega
          have hj4 : (j : Int) + 1 + 1 ≤ 22 := by omega
          have hj5 : (0 : Int) ≤ (j : Int) + 1 + 1 := by omega
          have hcx := fun w => sExpand_is l ((j : Int) + 1) w (by omega) hll
          have HCX := Lib.hid hcx
          clear hcx
          go_wp2_with fail
          refine (HCX.out _).mono ?_
          rintro e w4 ⟨rfl, hb4⟩
          have O4 := Lib.hid (own_under ho.out hb4)
          have B4 := Lib.hid (below_on hb.out hb4)
          have S4 : Hid (L ≤ w4.heap.size) := Nat.le_trans hsz.out hb4.size
          clear hb4 k0 k1 k2 k3 ho hb hsz HK
          have ej : ((j : Int) + 1) = ((j + 1 : Nat) : Int) := by omega
          cases hx : expR l.data.toList ((j : Int) + 1) with
          | none =>
            have HRN : Hid (growR (n : Int) xs ys ss l.data.toList (p : Int) = none) := by
              show _ = _
              cases hn : nodeF l.data.toList with
              | none => exact growR_node hn
              | some x =>
                rw [growR_in HOK.out hp hn]
                refine grow_stop (k := j) ?_ p hlt
                unfold expR at hx
                rw [hn, ej] at hx
                exact hx
            simp only [exRet]
            clear hx ej
            go_wp2_with fail
            go_ret2
            refine GEnd.bad HRN.out ?_ (below_al (below_on B0.out B4.out) (Nat.le_refl _) _)
            have h := World.ownsRow_lit (e := 3) (size := 1) w4 #[] 0 (Nat.le_refl _) (Nat.zero_le _) rfl
            exact own_base h (by have := S4.out; omega)
          | some u =>
            obtain ⟨x, hn, hxu⟩ := expR_node hx
            rw [ej] at hxu
            have HGN : Hid (∀ y, nodeF l.data.toList = some y → growL n xs ys ss y (j + 1) = some (vs ++ [costF n xs ys ss u])) := fun y hy => by
              rw [hn] at hy
              cases hy
              exact grow_on (hg.out x hn) hxu
            have HNN : Hid (nodeF l.data.toList = none → j + 1 = 0) := fun h => by rw [hn] at h; cases h
            obtain ⟨hu1, hu2⟩ := expX_word hxu
            have HU2 := Lib.hid hu2
            have HK4 := Lib.hid (K0.out.below B4.out (Blk.lt K0.out))
            obtain ⟨k0, k1, k2, k3⟩ := four_cells HK4.out
            simp only [exRet]
            clear hx hxu hn hu2 hg hn0 HCX ej
            go_wp2_with fail
            refine (l4Cost_any n _ _ _ _ _ _ xs ys ss ⟨u.toArray⟩ (costF n xs ys ss u) _ n1 n2 ((HX0.out.below B4.out).more B4.out.size) ((HY0.out.below B4.out).more B4.out.size) (HS.out.on B4.out) HXI.out HYI.out HSI.out (by rw [size_len]; exact hu1) HU2.out rfl).mono ?_
            rintro e w5 ⟨rfl, hb5⟩
            have O5 := Lib.hid (own_under O4.out hb5.out)
            have B5 := Lib.hid (below_on B4.out hb5.out)
            have S5 : Hid (L ≤ w5.heap.size) := Nat.le_trans S4.out hb5.out.size
            obtain ⟨a, ha⟩ : ∃ a, a = costF n xs ys ss u := ⟨_, rfl⟩
            rw [← ha] at HGN ⊢
            clear hb5 k0 k1 k2 k3 O4 B4 S4 HK4 ha
            go_wp2_with (at_builtin; refine wpList_append_own _ rfl _ _ 22 rfl L 3 i0 (.int .i64 0) 1 8 Try.underlying22 ZI.out Z0.out Z1.out Z2.out rfl (by decide) _ _ _ rfl (O5.out.alloc _) ⟨w5.heap.size, 0, none⟩ 1 1 [.int .i64 a] rfl rfl ?c1 ?c2 ?c3 ?c4 ?c5 ?_)
            case c1 =>
              intro j u hj
              match j, hj with
              | 0, hj => simp at hj; subst hj; simp [Addr.add]
            case c2 => intro u hu; simp at hu; subst hu; rfl
            case c3 => unfold maxLen; omega
            case c4 => omega
            case c5 => have := S5.out; simp; omega
            · intro v' w6 hown' hgrow _
              have hb6 : Below w1.heap.size w1 w6 := (below_al B5.out (Nat.le_refl _) (.cells #[.int .i64 a] 3)).grown hgrow (by have := B5.out.size; simp; omega) (fun j hj => by have := (O5.out.lt j hj).1; have := HLW1.out; omega)
              have hs6 : L ≤ w6.heap.size := by have := hb6.size; have := HLW1.out; omega
              rw [snoc_map_] at hown'
              have O6 := Lib.hid hown'
              have B6 := Lib.hid hb6
              have S6 := Lib.hid hs6
              clear hown' hgrow hb6 hs6
              go_wp2
              go_roundw
              case rel =>
                refine ⟨j + 1, vs ++ [a], by omega, by go_num, by rw [List.length_append, hvl]; rfl, HGN.out, HNN.out, ?_, B6.out, S6.out⟩
                show w6.ownsRow _ _ _ _ (vs ++ [a]).length _
                rw [List.length_append, hvl]
                exact O6.out
              case measure => simp [intOf]; omega
        · have hlt' : ¬ (j : Int) + 1 ≤ (p : Int) := by omega
          have : j = p := by omega
          subst this
          obtain ⟨b, hb'⟩ : ∃ b, validB l.data.toList = b := ⟨_, rfl⟩
          have HV := Lib.hid hb'
          have HVN := Lib.hid ((valid_node l.data.toList).symm.trans hb')
          clear hb' k0 k1 k2 k3
          go_wp2_with fail
          refine (sValid_is l b _ hll HV.out).mono ?_
          rintro e w4 ⟨rfl, rfl⟩
          go_wp2_with fail
          go_ret2
          cases hn : nodeF l.data.toList with
          | none =>
            have hbf : b = false := by have := HVN.out; rw [hn] at this; exact this.symm
            subst hbf
            have hj0 := hn0.out hn
            subst hj0
            have hv0 : vs = [] := List.length_eq_zero_iff.1 hvl
            subst hv0
            exact GEnd.bad (growR_node hn) (own_base ho.out (Nat.le_of_lt kL)) (below_on B0.out hb.out)
          | some x =>
            have hbf : b = true := by have := HVN.out; rw [hn] at this; exact this.symm
            subst hbf
            exact GEnd.good ((growR_in HOK.out hp hn).trans (hg.out x hn)) (own_base ho.out (Nat.le_of_lt kL)) (below_on B0.out hb.out) (by omega)
    · rw [decide_eq_false hin]
      have HR := Lib.hid (growR_out (m := (n : Int)) (xs := xs) (ys := ys) (ss := ss) (l := l.data.toList) (show k < 0 ∨ 20 < k by omega))
      clear hin
      go_wp2_with fail
      go_ret2
      exact GEnd.bad HR.out (own_base L2.out (Nat.le_of_lt kL)) (below_on B0.out B2.out)
end Go.Proofs.Ythcfdmphephfpaa
