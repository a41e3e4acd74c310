/- The states of a set, listed: a new slice of the call's own. No condition. -/
import Derived.Test.YtjnbdpejgbbfdaaIdx
import Derived.Test.YtjnbdpejgbbfdaaMarkB
import Derived.Deep.AppendLies
namespace Go.Proofs.Ytjnbdpejgbbfdaa
open Go.RowKit
set_option maxHeartbeats 4000000
set_option maxRecDepth 100000
set_option linter.unusedVariables false

def bAt (b0 b1 b2 b3 : Bool) : Nat → Bool
  | 0 => b0
  | 1 => b1
  | 2 => b2
  | 3 => b3
  | _ => false
/-- Which of the first k numbers a set of four has, in their order. -/
def selB (f : Nat → Bool) : Nat → List Int
  | 0 => []
  | k + 1 => if f k = true then selB f k ++ [(k : Int)] else selB f k
theorem selB_t {f : Nat → Bool} {k : Nat} (h : f k = true) : selB f (k + 1) = selB f k ++ [(k : Int)] := by rw [selB, if_pos h]
theorem selB_f {f : Nat → Bool} {k : Nat} (h : f k = false) : selB f (k + 1) = selB f k := by rw [selB, if_neg (by rw [h]; decide)]
theorem selB_len (f : Nat → Bool) : ∀ k, (selB f k).length ≤ k
  | 0 => Nat.le_refl _
  | k + 1 => by
    have := selB_len f k
    rcases h : f k with _ | _
    · rw [selB_f h]; omega
    · rw [selB_t h]; simp; omega
theorem selB_mem (f : Nat → Bool) : ∀ k (x : Int), x ∈ selB f k ↔ ∃ j : Nat, j < k ∧ f j = true ∧ x = (j : Int)
  | 0, x => by simp [selB]
  | k + 1, x => by
    have ih := selB_mem f k x
    rcases h : f k with _ | _
    · rw [selB_f h, ih]
      exact ⟨fun ⟨j, a, b, c⟩ => ⟨j, by omega, b, c⟩, fun ⟨j, a, b, c⟩ => by
        rcases Nat.lt_or_ge j k with h2 | h2
        · exact ⟨j, h2, b, c⟩
        · have e : j = k := by omega
          rw [e, h] at b
          cases b⟩
    · rw [selB_t h, List.mem_append, ih, List.mem_singleton]
      constructor
      · rintro (⟨j, a, b, c⟩ | rfl)
        · exact ⟨j, by omega, b, c⟩
        · exact ⟨k, by omega, h, rfl⟩
      · rintro ⟨j, a, b, c⟩
        rcases Nat.lt_or_ge j k with h2 | h2
        · exact Or.inl ⟨j, h2, b, c⟩
        · have : j = k := by omega
          subst this; exact Or.inr c
theorem selB_pw (f : Nat → Bool) : ∀ k, (selB f k).Pairwise (· < ·)
  | 0 => List.Pairwise.nil
  | k + 1 => by
    have ih := selB_pw f k
    rcases h : f k with _ | _
    · rw [selB_f h]; exact ih
    · rw [selB_t h, List.pairwise_append]
      refine ⟨ih, List.pairwise_singleton _ _, fun x hx y hy => ?_⟩
      obtain ⟨j, a, b, rfl⟩ := (selB_mem f k x).1 hx
      rw [List.mem_singleton] at hy
      subst hy
      omega
theorem int_ext : ∀ (us vs : List Int), us.Pairwise (· < ·) → vs.Pairwise (· < ·) → (∀ s, s ∈ us ↔ s ∈ vs) → us = vs
  | [], [], _, _, _ => rfl
  | [], v :: vs, _, _, h => absurd ((h v).2 (by simp)) (by simp)
  | u :: us, [], _, _, h => absurd ((h u).1 (by simp)) (by simp)
  | u :: us, v :: vs, hu, hv, h => by
    rw [List.pairwise_cons] at hu hv
    have e : u = v := by
      rcases List.mem_cons.1 ((h u).1 (by simp)) with e | e
      · exact e
      · rcases List.mem_cons.1 ((h v).2 (by simp)) with f | f
        · exact f.symm
        · have h1 := hv.1 u e
          have h2 := hu.1 v f
          omega
    subst e
    rw [int_ext us vs hu.2 hv.2 (fun s => ⟨fun hs => by
      rcases List.mem_cons.1 ((h s).1 (List.mem_cons_of_mem _ hs)) with e | e
      · subst e; have := hu.1 s hs; omega
      · exact e, fun hs => by
      rcases List.mem_cons.1 ((h s).2 (List.mem_cons_of_mem _ hs)) with e | e
      · subst e; have := hv.1 s hs; omega
      · exact e⟩)]
theorem marks_pw : ∀ {n last : Int} {xs : List Int}, marksF n last xs = true → xs.Pairwise (· < ·)
  | n, last, [], _ => List.Pairwise.nil
  | n, last, x :: xs, h => by
    unfold marksF at h
    simp only [Bool.and_eq_true, decide_eq_true_eq] at h
    exact List.pairwise_cons.2 ⟨fun y hy => (marks_in h.2.2 y hy).1, marks_pw h.2.2⟩
/-- The states of a list in ascending order are those of its set. -/
theorem selB_has {n : Nat} {xs : List Int} (n4 : n ≤ 4) (h : marksF (n : Int) (-1) xs = true) : selB (bAt (hasB xs 0) (hasB xs 1) (hasB xs 2) (hasB xs 3)) 4 = xs := by
  refine int_ext _ _ (selB_pw _ _) (marks_pw h) (fun x => ?_)
  rw [selB_mem]
  constructor
  · rintro ⟨j, a, b, rfl⟩
    have hj : j = 0 ∨ j = 1 ∨ j = 2 ∨ j = 3 := by omega
    rcases hj with rfl | rfl | rfl | rfl <;> exact List.contains_iff_mem.1 b
  · intro hx
    have h1 := marks_in h x hx
    have hj : x = 0 ∨ x = 1 ∨ x = 2 ∨ x = 3 := by omega
    rcases hj with rfl | rfl | rfl | rfl
    · exact ⟨0, by omega, List.contains_iff_mem.2 hx, rfl⟩
    · exact ⟨1, by omega, List.contains_iff_mem.2 hx, rfl⟩
    · exact ⟨2, by omega, List.contains_iff_mem.2 hx, rfl⟩
    · exact ⟨3, by omega, List.contains_iff_mem.2 hx, rfl⟩

theorem snoc_own {w : World} {B n : Nat} {x : Value} {zs : List Int} {z : Int} (h : w.ownsRow B 3 1 x n (zs.map (Value.int .i64) ++ [.int .i64 z])) (hn : n = zs.length + 1) : w.ownsRow B 3 1 x (zs ++ [z]).length ((zs ++ [z]).map (Value.int .i64)) := by
  subst hn
  rw [List.map_append, List.length_append]
  exact h
theorem lit_news (w : World) (cs : Array Value) (t : TypeId) : ∀ j u, cs.toList[j]? = some u → (w.alloc (.cells cs t)).cell? ((⟨w.heap.size, 0, none⟩ : Addr).add j) = some u := World.news_of_block (heap_alloc_new w _)
theorem info_step' : ∃ i, Try.prog.info? 58 = some i ∧ i.zero = some (.agg #[.int .i64 0, .string ByteArray.empty, .int .i64 0, .int .i64 0]) ∧ i.size = 4 ∧ i.bytes = 40 := by
  have h := info_step
  rw [Option.map_eq_some_iff] at h
  obtain ⟨i, h1, h2⟩ := h
  simp only [Prod.mk.injEq] at h2
  exact ⟨i, h1, h2.1, h2.2.1, h2.2.2⟩
theorem flatS_snoc (ss : List StepD) (s : StepD) : flatS (ss ++ [s]) = flatS ss ++ stepC s := by
  induction ss with
  | nil => simp [flatS, stepC]
  | cons t ts ih => simp [flatS, ih]
theorem list_any (b0 b1 b2 b3 : Bool) (w : World) :
    Calls Try.prog 21 #[.agg #[.bool b0, .bool b1, .bool b2, .bool b3]] w fun e w' => ∃ x, e = .returned x ∧ Hid (w'.ownsRow w.heap.size 3 1 x (selB (bAt b0 b1 b2 b3) 4).length ((selB (bAt b0 b1 b2 b3) 4).map (Value.int .i64))) ∧ Hid (Below w.heap.size w w') := by
  obtain ⟨i0, hi, hz0, hz1, hz2⟩ := info_parts info_int
  have Z0 := Lib.hid hz0
  have Z1 := Lib.hid hz1
  have Z2 := Lib.hid hz2
  have ZI := Lib.hid hi
  clear hz0 hz1 hz2 hi
  obtain ⟨f, hf⟩ : ∃ f, f = bAt b0 b1 b2 b3 := ⟨_, rfl⟩
  have H0 : Hid (f 0 = b0) := by rw [hf]; exact Lib.hid rfl
  have H1 : Hid (f 1 = b1) := by rw [hf]; exact Lib.hid rfl
  have H2 : Hid (f 2 = b2) := by rw [hf]; exact Lib.hid rfl
  have H3 : Hid (f 3 = b3) := by rw [hf]; exact Lib.hid rfl
  rw [← hf]
  clear hf
  go_enter Try.func21, Try.ntmps21
  go_wp2_with fail
  have B0 := Lib.hid (below_a1 w (.cells #[.bool b0, .bool b1, .bool b2, .bool b3] 43))
  have hs0 : w.heap.size ≤ (w.alloc (.cells #[.bool b0, .bool b1, .bool b2, .bool b3] 43)).heap.size := B0.out.size
  generalize w.alloc (.cells #[.bool b0, .bool b1, .bool b2, .bool b3] 43) = w2 at B0 hs0 ⊢
  go_loopw [3, 7] (fun x i wr => ∃ (k : Nat) (zs : List Int), k ≤ 4 ∧ i = .int .i64 k ∧ Hid (zs = selB f k) ∧ zs.length ≤ k ∧ Hid (wr.ownsRow w.heap.size 3 1 x zs.length (zs.map (Value.int .i64))) ∧ Hid (Below w.heap.size w wr)) (fun _ i _ => 4 - (intOf i).toNat)
  case atStart => exact ⟨0, [], by omega, rfl, rfl, by simp, World.ownsRow_nil _ _ _ _, B0⟩
  case round =>
    obtain ⟨k, zs, hk, rfl, hzs, hzl, hown, hbw⟩ := hrel
    have hws : w.heap.size ≤ wr.heap.size := hbw.out.size
    have hk5 : k = 0 ∨ k = 1 ∨ k = 2 ∨ k = 3 ∨ k = 4 := by omega
    rcases hk5 with rfl | rfl | rfl | rfl | rfl
    · have ix := idx0 (.bool b0) (.bool b1) (.bool b2) (.bool b3)
      cases b0
      · go_wp2_with fail
        go_roundw
        case rel => exact ⟨1, zs, by omega, by go_num, Lib.hid (by rw [hzs.out]; exact (selB_f (k := 0) H0.out).symm), by omega, hown, hbw⟩
        case measure => simp [intOf]
      · go_wp2_with (first | (at_builtin; refine wpList_append_lies _ rfl _ _ 22 rfl w.heap.size 3 i0 (.int .i64 0) 1 8 Try.underlying22 ZI.out Z0.out Z1.out Z2.out rfl (by decide) _ _ _ rfl (World.ownsRow.alloc hown.out _) ⟨wr.heap.size, 0, none⟩ 1 1 [.int .i64 0] rfl rfl ?a0 ?b0 (by decide) ?c0 ?d0 ?e0 _ rfl ?_) | fail)
        case a0 => exact lit_news wr #[.int .i64 0] _
        case b0 => intro u hu; simp at hu; subst hu; rfl
        case c0 => unfold maxLen; omega
        case d0 => omega
        case e0 => simp; omega
        · intro g cap w5 hown' hgrow hat hlt
          have O5 := Lib.hid (snoc_own hown' rfl)
          have B5 : Hid (Below w.heap.size w w5) := (hbw.out.alloc hbw.out.size _).grown hgrow (hbw.out.alloc hbw.out.size _).size (fun j hj => (hown.out.lt j hj).1)
          have E5 : Hid (zs ++ [0] = selB f 1) := Lib.hid (by rw [hzs.out]; exact (selB_t (k := 0) H0.out).symm)
          clear hown' hgrow hat hlt hown hbw
          go_wp2_with fail
          go_roundw
          case rel => exact ⟨1, _, by omega, by go_num, E5, by rw [List.length_append, List.length_singleton]; omega, O5, B5⟩
          case measure => simp [intOf]
    · have ix := idx1 (.bool b0) (.bool b1) (.bool b2) (.bool b3)
      cases b1
      · go_wp2_with fail
        go_roundw
        case rel => exact ⟨2, zs, by omega, by go_num, Lib.hid (by rw [hzs.out]; exact (selB_f (k := 1) H1.out).symm), by omega, hown, hbw⟩
        case measure => simp [intOf]
      · go_wp2_with (first | (at_builtin; refine wpList_append_lies _ rfl _ _ 22 rfl w.heap.size 3 i0 (.int .i64 0) 1 8 Try.underlying22 ZI.out Z0.out Z1.out Z2.out rfl (by decide) _ _ _ rfl (World.ownsRow.alloc hown.out _) ⟨wr.heap.size, 0, none⟩ 1 1 [.int .i64 1] rfl rfl ?a1 ?b1 (by decide) ?c1 ?d1 ?e1 _ rfl ?_) | fail)
        case a1 => exact lit_news wr #[.int .i64 1] _
        case b1 => intro u hu; simp at hu; subst hu; rfl
        case c1 => unfold maxLen; omega
        case d1 => omega
        case e1 => simp; omega
        · intro g cap w5 hown' hgrow hat hlt
          have O5 := Lib.hid (snoc_own hown' rfl)
          have B5 : Hid (Below w.heap.size w w5) := (hbw.out.alloc hbw.out.size _).grown hgrow (hbw.out.alloc hbw.out.size _).size (fun j hj => (hown.out.lt j hj).1)
          have E5 : Hid (zs ++ [1] = selB f 2) := Lib.hid (by rw [hzs.out]; exact (selB_t (k := 1) H1.out).symm)
          clear hown' hgrow hat hlt hown hbw
          go_wp2_with fail
          go_roundw
          case rel => exact ⟨2, _, by omega, by go_num, E5, by rw [List.length_append, List.length_singleton]; omega, O5, B5⟩
          case measure => simp [intOf]
    · have ix := idx2 (.bool b0) (.bool b1) (.bool b2) (.bool b3)
      cases b2
      · go_wp2_with fail
        go_roundw
        case rel => exact ⟨3, zs, by omega, by go_num, Lib.hid (by rw [hzs.out]; exact (selB_f (k := 2) H2.out).symm), by omega, hown, hbw⟩
        case measure => simp [intOf]
      · go_wp2_with (first | (at_builtin; refine wpList_append_lies _ rfl _ _ 22 rfl w.heap.size 3 i0 (.int .i64 0) 1 8 Try.underlying22 ZI.out Z0.out Z1.out Z2.out rfl (by decide) _ _ _ rfl (World.ownsRow.alloc hown.out _) ⟨wr.heap.size, 0, none⟩ 1 1 [.int .i64 2] rfl rfl ?a2 ?b2 (by decide) ?c2 ?d2 ?e2 _ rfl ?_) | fail)
        case a2 => exact lit_news wr #[.int .i64 2] _
        case b2 => intro u hu; simp at hu; subst hu; rfl
        case c2 => unfold maxLen; omega
        case d2 => omega
        case e2 => simp; omega
        · intro g cap w5 hown' hgrow hat hlt
          have O5 := Lib.hid (snoc_own hown' rfl)
          have B5 : Hid (Below w.heap.size w w5) := (hbw.out.alloc hbw.out.size _).grown hgrow (hbw.out.alloc hbw.out.size _).size (fun j hj => (hown.out.lt j hj).1)
          have E5 : Hid (zs ++ [2] = selB f 3) := Lib.hid (by rw [hzs.out]; exact (selB_t (k := 2) H2.out).symm)
          clear hown' hgrow hat hlt hown hbw
          go_wp2_with fail
          go_roundw
          case rel => exact ⟨3, _, by omega, by go_num, E5, by rw [List.length_append, List.length_singleton]; omega, O5, B5⟩
          case measure => simp [intOf]
    · have ix := idx3 (.bool b0) (.bool b1) (.bool b2) (.bool b3)
      cases b3
      · go_wp2_with fail
        go_roundw
        case rel => exact ⟨4, zs, by omega, by go_num, Lib.hid (by rw [hzs.out]; exact (selB_f (k := 3) H3.out).symm), by omega, hown, hbw⟩
        case measure => simp [intOf]
      · go_wp2_with (first | (at_builtin; refine wpList_append_lies _ rfl _ _ 22 rfl w.heap.size 3 i0 (.int .i64 0) 1 8 Try.underlying22 ZI.out Z0.out Z1.out Z2.out rfl (by decide) _ _ _ rfl (World.ownsRow.alloc hown.out _) ⟨wr.heap.size, 0, none⟩ 1 1 [.int .i64 3] rfl rfl ?a3 ?b3 (by decide) ?c3 ?d3 ?e3 _ rfl ?_) | fail)
        case a3 => exact lit_news wr #[.int .i64 3] _
        case b3 => intro u hu; simp at hu; subst hu; rfl
        case c3 => unfold maxLen; omega
        case d3 => omega
        case e3 => simp; omega
        · intro g cap w5 hown' hgrow hat hlt
          have O5 := Lib.hid (snoc_own hown' rfl)
          have B5 : Hid (Below w.heap.size w w5) := (hbw.out.alloc hbw.out.size _).grown hgrow (hbw.out.alloc hbw.out.size _).size (fun j hj => (hown.out.lt j hj).1)
          have E5 : Hid (zs ++ [3] = selB f 4) := Lib.hid (by rw [hzs.out]; exact (selB_t (k := 3) H3.out).symm)
          clear hown' hgrow hat hlt hown hbw
          go_wp2_with fail
          go_roundw
          case rel => exact ⟨4, _, by omega, by go_num, E5, by rw [List.length_append, List.length_singleton]; omega, O5, B5⟩
          case measure => simp [intOf]
    · go_wp2_with fail
      go_ret
      exact ⟨_, rfl, by rw [← hzs.out]; exact hown, hbw⟩
end Go.Proofs.Ytjnbdpejgbbfdaa
