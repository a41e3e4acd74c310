/- Squares of grades as keys that are compared; whether one is its own square; what becomes of one that is repeated: each the plain function of its numbers; nothing that was there changes. -/
import Derived.Test.YthcfdmphephfpaaGreatGVal
import Derived.Laws.Tables
namespace Go.Proofs.YthcfdmphephfpaaGreat
open Go.RowKit
set_option maxHeartbeats 2000000
set_option maxRecDepth 100000
set_option linter.unusedVariables false

def keyL (zs : List Int) : List Int := zs ++ List.replicate (16 - zs.length) 0
def keyC (zs : List Int) : Array Value := ((keyL zs).map (Value.int .i64)).toArray
theorem keyL_len {zs : List Int} (h : zs.length ≤ 16) : (keyL zs).length = 16 := by simp [keyL]; omega
theorem keyL_inj {xs ys : List Int} (h : xs.length = ys.length) : (keyL xs = keyL ys) ↔ xs = ys := by
  constructor
  · intro e
    exact (List.append_inj e h).1
  · intro e; rw [e]
theorem keyC_size {zs : List Int} (h : zs.length ≤ 16) : (keyC zs).size = 16 := by simp [keyC, keyL_len h]
theorem eq_items (xs ys : List Int) (w : World) (hx : xs.length = 16) (hy : ys.length = 16) : ∀ is : List Nat, (∀ i ∈ is, i < 16) →
    (Op.eqItems 9999 93 1 (xs.map (Value.int .i64)).toArray (ys.map (Value.int .i64)).toArray is).run Tryz.prog w = .ok (is.all fun i => xs.getD i 0 == ys.getD i 0) w
  | [], _ => by simp [Op.eqItems]
  | i :: is, h => by
    have hi := h i (by simp)
    have hp : Tryz.prog.plainKey 93 = true := by kernel_rfl
    have pu : ∀ zs : List Int, zs.length = 16 → (part 93 (zs.map (Value.int .i64)).toArray (i * 1)).run Tryz.prog w = .ok (.int .i64 (zs.getD i 0)) w := fun zs hz =>
      run_part_plain w hp (by rw [Nat.mul_one, List.getElem?_toArray, List.getElem?_map, List.getElem?_eq_getElem (by omega), List.getD_eq_getElem?_getD, List.getElem?_eq_getElem (by omega)]; rfl)
    have e := run_equalIn_int w 9998 93 .i64 .i64 (xs.getD i 0) (ys.getD i 0) Tryz.underlying93
    have ih := eq_items xs ys w hx hy is (fun j hj => h j (by simp [hj]))
    simp only [Op.eqItems, Sem.run_bind, pu xs hx, pu ys hy, e, Result.andThen_ok]
    rw [List.all_cons]
    rcases (xs.getD i 0 == ys.getD i 0) with _ | _
    · rfl
    · simp only [Bool.not_true, Bool.true_and, ih, Bool.false_eq_true, if_false]
theorem eq_key (xs ys : List Int) (r : Bool) (w : World) (hx : xs.length = 16) (hy : ys.length = 16) (hr : decide (xs = ys) = r) :
    (Op.equalIn 10000 131 (.agg (xs.map (Value.int .i64)).toArray) (.agg (ys.map (Value.int .i64)).toArray)).run Tryz.prog w = .ok r w := by
  obtain ⟨i, hi⟩ : ∃ i, Tryz.prog.info? 93 = some i := Option.isSome_iff_exists.1 (by kernel_rfl)
  have hc : Tryz.prog.cellsOf 93 = 1 := by kernel_rfl
  rw [run_equalIn_array w 9999 _ _ Tryz.underlying131 hi, hc, eq_items xs ys w hx hy _ (fun i hi => by simpa using hi), ← hr]
  congr 1
  rw [Bool.eq_iff_iff, List.all_eq_true, decide_eq_true_eq]
  constructor
  · intro h
    exact eq_of_getD (by omega) (fun q hq => by have := h q (by simp; omega); simpa using this)
  · intro h q _
    rw [h]; simp
theorem eq_keyC (xs ys : List Int) (r : Bool) (w : World) (hx : (keyL xs).length = 16) (hy : (keyL ys).length = 16) (hr : decide (keyL xs = keyL ys) = r) :
    (Op.equalIn 10000 131 (.agg (keyC xs)) (.agg (keyC ys))).run Tryz.prog w = .ok r w := eq_key (keyL xs) (keyL ys) r w hx hy hr

theorem keyOf_is (n p g : Nat) (zs : List Int) (w : World) (p1 : p ≤ 16) (hz : Hid (zs.length = p)) (hq : GSq w g zs) :
    Calls Tryz.prog 86 #[gsqV n (.slice (some ⟨g, 0, none⟩) p p)] w fun e w' => e = .returned (.agg (keyC zs)) ∧ Below w.heap.size w w' := by
  have hgw := Blk.lt hq
  unfold gsqV
  go_enter Tryz.func86, Tryz.ntmps86
  go_wp2_with fail
  generalize hw3 : World.alloc (World.alloc (World.alloc w _) _) _ = w3
  have S3 : Blk w3 w.heap.size 101 (gsqC n (.slice (some ⟨g, 0, none⟩) p p)) := by rw [← hw3]; exact ((Blk.new w _ _).alloc _).alloc _
  have R3 : Blk w3 (w.heap.size + 1) 131 (((List.replicate 16 (0 : Int)).map (Value.int .i64)).toArray) := by rw [← hw3]; exact (blk_new (by simp)).alloc _
  have K3 : Blk w3 (w.heap.size + 1 + 1) 131 (((List.replicate 16 (0 : Int)).map (Value.int .i64)).toArray) := by rw [← hw3]; exact blk_new (by simp)
  have Q3 : GSq w3 g zs := by rw [← hw3]; exact ((Blk.alloc (Blk.alloc (Blk.alloc hq _) _) _))
  have B3 : Below w.heap.size w w3 := by rw [← hw3]; exact below_a3 _ _ _ _
  obtain ⟨w4, hw4⟩ : ∃ w4, w4 = w3.drew := ⟨_, rfl⟩
  have hS0 : Hid (w3.drew = w4) ∧ w3.drew.cell? ⟨w.heap.size, 5, none⟩ = some (.slice (some ⟨g, 0, none⟩) p p) := ⟨hw4.symm, S3.cell 5⟩
  have R4 : Hid (Blk w4 (w.heap.size + 1) 131 (((List.replicate 16 (0 : Int)).map (Value.int .i64)).toArray)) := by rw [hw4]; exact R3.drewN 1
  have K4 : Hid (Blk w4 (w.heap.size + 1 + 1) 131 (((List.replicate 16 (0 : Int)).map (Value.int .i64)).toArray)) := by rw [hw4]; exact K3.drewN 1
  have Q4 : Hid (GSq w4 g zs) := by rw [hw4]; exact Blk.drewN Q3 1
  have B4 : Hid (Below w.heap.size w w4) := by rw [hw4]; exact B3.drew
  obtain ⟨K, hK⟩ : ∃ K, K = w.heap.size + 1 + 1 := ⟨_, rfl⟩
  rw [← hK] at K4 ⊢
  have hKR : w.heap.size + 1 < K := by omega
  clear hK hw3 hw4 S3 R3 K3 Q3 B3 hq
  refine wp_region_Z (S := fun w' => Hid (w' = w4) ∧ w'.cell? ⟨w.heap.size, 5, none⟩ = some (.slice (some ⟨g, 0, none⟩) p p)) (by kernel_rfl) hS0 (fun hS => ?_)
  clear hS0
  refine wpAnyZ_take (i := 0) (v := ?vb0) rfl (by kernel_rfl) (by kernel_rfl) (by kernel_rfl) (by kernel_rfl) (fun _ _ _ h => h) (Or.inl ⟨by rfl, ?yb0⟩) (by with_reducible assumption) ?rb0
  case yb0 => (intro w hSw; (try dsimp only at hSw); go_simp; (try with_reducible rfl))
  simp only [Act.put, List.getElem_toArray, List.getElem_cons_zero, List.setIfInBounds_toArray]
  refine wpAnyZ_take (i := 1) (v := ?vb1) rfl (by kernel_rfl) (by kernel_rfl) (by kernel_rfl) (by kernel_rfl) (fun _ _ _ h => h) (Or.inl ⟨by rfl, ?yb1⟩) (by with_reducible assumption) ?rb1
  case yb1 => (intro w hSw; (try dsimp only at hSw); go_simp; (try with_reducible rfl))
  simp only [Act.put, List.getElem_toArray, List.getElem_cons_succ, List.getElem_cons_zero]
  refine wpAnyZ_take (i := 2) (v := ?vb2) rfl (by kernel_rfl) (by kernel_rfl) (by kernel_rfl) (by kernel_rfl) (fun _ _ _ h => h) (Or.inl ⟨by rfl, ?yb2⟩) (by with_reducible assumption) ?rb2
  case yb2 => (intro w hSw; (try dsimp only at hSw); go_simp; (try with_reducible rfl))
  simp only [Act.put, List.getElem_toArray, List.getElem_cons_succ, List.getElem_cons_zero]
  rw [hS.1.out]
  clear hS
  refine wpAnyZ_last (i := 3) (by kernel_rfl) rfl (by kernel_rfl) ?_
  intro K5 hK5
  refine step_copy_into rfl _ _ _ _ rfl 93 Tryz.underlying99 (by kernel_rfl) K 0 16 16 ⟨g, 0, none⟩ p p rfl rfl _ _ K4.out (zs.map (Value.int .i64)) (by rw [List.length_map, hz.out]; exact (Nat.min_eq_left p1).symm) ?_ (by simp; have := hz.out; omega) (by intro v hv; simp at hv; obtain ⟨x, _, rfl⟩ := hv; rfl) ?_
  · intro j v hj
    rw [List.getElem?_map] at hj
    have hjn : j < zs.length := by
      rcases Nat.lt_or_ge j zs.length with h' | h'
      · exact h'
      · rw [List.getElem?_eq_none h'] at hj; cases hj
    rw [List.getElem?_eq_getElem hjn] at hj
    cases hj
    have hcj := Q4.out.at_ hjn
    rw [List.getD_eq_getElem?_getD, List.getElem?_eq_getElem hjn] at hcj
    have e : (⟨g, 0, none⟩ : Addr).add j = ⟨g, j, none⟩ := by by_cases h0 : j = 0 <;> simp [Addr.add, h0]
    rw [e]
    simpa using hcj
  rw [put_map]
  have hput : put (List.replicate 16 (0 : Int)) 0 zs = keyL zs := by
    unfold put keyL
    rw [List.take_zero, List.nil_append, Nat.zero_add, List.drop_replicate]
  rw [hput]
  have K6 : Hid (Blk (w4.setRow K ((keyL zs).map (Value.int .i64)).toArray) K 131 (keyC zs)) := setRow_heap w4 K _ _ _ _ K4.out
  have G6 := Lib.hid (grow_setRow w4 K ((keyL zs).map (Value.int .i64)).toArray)
  generalize w4.setRow K ((keyL zs).map (Value.int .i64)).toArray = w6 at K6 G6 ⊢
  have R6 := Lib.hid (R4.out.grown G6.out (by omega))
  have B6 := Lib.hid (B4.out.grown G6.out B4.out.size (fun j hj => by cases hj; omega))
  have hks : (keyC zs).size = 16 := keyC_size (by rw [hz.out]; exact p1)
  have HI : Hid ((Tryz.prog.info? 131).map (·.size) = some (keyC zs).size) := by show _ = _; rw [hks]; kernel_rfl
  have HO : Hid ((((List.replicate 16 (0 : Int)).map (Value.int .i64)).toArray).size = (keyC zs).size) := by show _ = _; rw [hks]; simp
  have H1 : Hid ((keyC zs).all (·.oneCell') = true) := by
    show _ = _
    rw [Array.all_eq_true]
    intro i hi
    simp only [keyC, List.getElem_toArray, List.getElem_map]
    rfl
  refine hK5.out _ _ ?_
  clear hK5 hput hks R4 K4 G6 Q4
  go_wp2_with (first
    | (refine wpList_load_row rfl 131 _ rfl K rfl 131 (keyC zs) (0, 0) _ K6.out Tryz.underlying131 rfl HI.out ?_)
    | (refine wpList_store_row rfl 131 _ _ rfl (w.heap.size + 1) (keyC zs) rfl rfl 131 _ R6.out HI.out HO.out H1.out ?_)
    | fail)
  have R7 : Blk (w6.setRow (w.heap.size + 1) (keyC zs)) (w.heap.size + 1) 131 (keyC zs) := setRow_heap w6 (w.heap.size + 1) _ _ _ _ R6.out
  refine bodyPost_ret (results_1 rfl (Gives.row (g := w.heap.size + 1) rfl R7 Tryz.underlying131 rfl HI.out)) rfl ?_
  exact ⟨rfl, below_setRow B6.out (by omega) _⟩
end Go.Proofs.YthcfdmphephfpaaGreat
