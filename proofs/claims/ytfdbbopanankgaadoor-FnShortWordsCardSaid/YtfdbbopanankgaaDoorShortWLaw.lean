/- Plain mathematics of short words: they stand in their order, and the first one of the greatest cost is told. No condition. The model's drawn automaton with a number of letters; in new memory; nothing that was there changes. No condition. The walk of the law of short words: it returns true for all inputs, and nothing that was there changes. No condition. -/
import Derived.Test.YtfdbbopanankgaaDoorShortI
import Derived.Test.YtfdbbopanankgaaDoorWordsS
import Derived.Test.YtfdbbopanankgaaDoorBadA
import Derived.Test.YtfdbbopanankgaaDoorShortLaw
import Derived.Test.YtfdbbopanankgaaDoorWordsC
import Derived.Test.YtfdbbopanankgaaDoorAVar
import Derived.Test.YtfdbbopanankgaaDoorStrs
import Derived.OpenShut
namespace Go.Proofs.YtfdbbopanankgaaDoor
open Go.RowKit
set_option linter.unusedVariables false

theorem less_app : ∀ (p q x y : List UInt8), p.length = q.length → Op.bytesLess p q = true → Op.bytesLess (p ++ x) (q ++ y) = true
  | [], [], _, _, _, h => by simp [Op.bytesLess] at h
  | a :: p, b :: q, x, y, hl, h => by
    simp only [List.cons_append, Op.bytesLess, Bool.or_eq_true, Bool.and_eq_true] at h ⊢
    rcases h with h | ⟨h1, h2⟩
    · exact Or.inl h
    · exact Or.inr ⟨h1, less_app p q x y (by simpa using hl) h2⟩
  | [], _ :: _, _, _, hl, _ => by simp at hl
  | _ :: _, [], _, _, hl, _ => by simp at hl
theorem less_last : ∀ (p : List UInt8) (a b : UInt8), a < b → Op.bytesLess (p ++ [a]) (p ++ [b]) = true
  | [], a, b, h => by simp [Op.bytesLess, h]
  | c :: p, a, b, h => by
    simp only [List.cons_append, Op.bytesLess, Bool.or_eq_true, Bool.and_eq_true]
    exact Or.inr ⟨beq_self_eq_true c, less_last p a b h⟩
theorem less_not : ∀ (p q : List UInt8), Op.bytesLess p q = true → Op.bytesLess q p = false ∧ (q == p) = false
  | [], [], h => by simp [Op.bytesLess] at h
  | a :: p, b :: q, h => by
    simp only [Op.bytesLess, Bool.or_eq_true, Bool.and_eq_true, decide_eq_true_eq, beq_iff_eq] at h
    rcases h with h | ⟨rfl, h⟩
    · have h1 : ¬ b < a := UInt8.lt_asymm h
      have h2 : b ≠ a := fun e => by rw [e] at h; exact absurd h (UInt8.lt_irrefl _)
      refine ⟨?_, ?_⟩
      · simp [Op.bytesLess, h1, h2]
      · rw [beq_eq_false_iff_ne]
        intro e
        injection e with e1 _
        exact h2 e1
    · have ih := less_not p q h
      refine ⟨?_, ?_⟩
      · simp only [Op.bytesLess, ih.1, Bool.and_false, Bool.or_false, decide_eq_false_iff_not]
        exact UInt8.lt_irrefl _
      · rw [beq_eq_false_iff_ne]
        intro e
        injection e with _ e2
        rw [e2] at ih
        simp at ih
  | [], b :: q, _ => by
    refine ⟨rfl, ?_⟩
    rw [beq_eq_false_iff_ne]; intro e; cases e
  | _ :: _, [], h => by simp [Op.bytesLess] at h
theorem wordL_less : ∀ (k b : Nat), b + 1 < 2 ^ k → Op.bytesLess (wordL k b) (wordL k (b + 1)) = true
  | 0, b, h => by simp at h
  | k + 1, b, h => by
    unfold wordL
    rw [Nat.pow_succ] at h
    by_cases hb : b % 2 = 1
    · have e1 : (b + 1) / 2 = b / 2 + 1 := by omega
      rw [e1]
      exact less_app _ _ _ _ (by rw [wordL_len, wordL_len]) (wordL_less k (b / 2) (by omega))
    · have e1 : (b + 1) / 2 = b / 2 := by omega
      have e2 : (b + 1) % 2 = 1 := by omega
      rw [e1, if_neg hb, if_pos e2]
      exact less_last _ _ _ (by decide)
theorem level_at {k m i : Nat} (h : i < m) : (levelW k m)[i]? = some (wordB k i) := by
  unfold levelW
  rw [List.getElem?_map, List.getElem?_range h]; rfl
/-- Each word but the first one is behind the one before it: longer, or as long and later in the order of texts. -/
theorem words_order : ∀ (k i : Nat) (s t : ByteArray), (wordsTo k)[i]? = some s → (wordsTo k)[i + 1]? = some t → ¬ t.size < s.size ∧ (t.size = s.size → (Op.bytesLess t.toList s.toList || t.toList == s.toList) = false)
  | 0, i, s, t, h, _ => by cases h
  | k + 1, i, s, t, hs, ht => by
    rw [wordsTo_succ] at hs ht
    have hl : i + 1 < (wordsTo k ++ levelW k (2 ^ k)).length := (List.getElem?_eq_some_iff.1 ht).1
    rw [List.length_append, levelW_len] at hl
    by_cases h1 : i + 1 < (wordsTo k).length
    · rw [List.getElem?_append_left (by omega)] at hs
      rw [List.getElem?_append_left h1] at ht
      exact words_order k i s t hs ht
    · rw [List.getElem?_append_right (by omega)] at ht
      rw [level_at (by omega)] at ht
      obtain rfl := Option.some.inj ht
      by_cases h2 : i < (wordsTo k).length
      · have hi : i + 1 = (wordsTo k).length := by omega
        rw [List.getElem?_append_left h2] at hs
        -- the last word of the level before
        cases k with
        | zero => simp [wordsTo] at h2
        | succ j =>
          rw [wordsTo_succ] at hs
          have hp : 0 < 2 ^ j := Nat.pos_of_ne_zero (by simp)
          have hlw : (wordsTo (j + 1)).length = (wordsTo j).length + 2 ^ j := by rw [wordsTo_succ, List.length_append, levelW_len]
          rw [List.getElem?_append_right (by omega), level_at (by omega)] at hs
          obtain rfl := Option.some.inj hs
          rw [wordB_size, wordB_size]
          exact ⟨by omega, fun h => by omega⟩
      · rw [List.getElem?_append_right (by omega), level_at (by omega)] at hs
        obtain rfl := Option.some.inj hs
        rw [wordB_size, wordB_size]
        refine ⟨by omega, fun _ => ?_⟩
        have e : i + 1 - (wordsTo k).length = (i - (wordsTo k).length) + 1 := by omega
        rw [e]
        have h3 := less_not _ _ (wordL_less k (i - (wordsTo k).length) (by omega))
        rw [ByteArray.toList_eq, ByteArray.toList_eq]
        unfold wordB
        simp only
        rw [h3.1, h3.2]; rfl

/-- What is told of some words: none is accepted, or the first one of the greatest cost. -/
def Best (f : ByteArray → Int) (l : List ByteArray) (b : ByteArray × Int) : Prop :=
  (b.2 = -1 ∧ ∀ s ∈ l, ¬ f s < 1000000) ∨ (0 ≤ b.2 ∧ f b.1 = b.2 ∧ b.2 < 1000000 ∧ ∃ l1 l2, l = l1 ++ b.1 :: l2 ∧ (∀ s ∈ l1, f s < 1000000 → f s < b.2) ∧ ∀ s ∈ l, f s < 1000000 → f s ≤ b.2)
theorem best_is {f : ByteArray → Int} (h0 : ∀ s, 0 ≤ f s) : ∀ (n : Nat) (l : List ByteArray), l.length = n → Best f l (bestW f l)
  | 0, l, hl => by
    rw [List.eq_nil_of_length_eq_zero hl]
    exact Or.inl ⟨rfl, fun s hs => by cases hs⟩
  | n + 1, l, hl => by
    have hne : l ≠ [] := fun e => by rw [e] at hl; cases hl
    have e : l = l.dropLast ++ [l.getLast hne] := (List.dropLast_concat_getLast hne).symm
    have ih := best_is h0 n l.dropLast (by simp; omega)
    obtain ⟨m, hm⟩ : ∃ m, l.dropLast = m := ⟨_, rfl⟩
    obtain ⟨t, ht⟩ : ∃ t, l.getLast hne = t := ⟨_, rfl⟩
    rw [hm, ht] at e
    rw [hm] at ih
    rw [e]
    have hf := h0 t
    by_cases h1 : f t < 1000000 ∧ (bestW f m).2 < f t
    · rw [bestW_yes h1.1 h1.2]
      refine Or.inr ⟨hf, rfl, h1.1, m, [], rfl, ?_, ?_⟩
      · intro s hs hs1
        rcases ih with ⟨_, h2⟩ | ⟨_, _, _, _, _, _, _, h2⟩
        · exact absurd hs1 (h2 s hs)
        · have := h2 s hs hs1; show f s < f t; omega
      · intro s hs hs1
        rcases List.mem_append.1 hs with hs | hs
        · rcases ih with ⟨_, h2⟩ | ⟨_, _, _, _, _, _, _, h2⟩
          · exact absurd hs1 (h2 s hs)
          · have := h2 s hs hs1; show f s ≤ f t; omega
        · rw [List.mem_singleton.1 hs]; exact Int.le_refl _
    · rw [bestW_no h1]
      rcases ih with ⟨h2, h3⟩ | ⟨h2, h3, h4, l1, l2, h5, h6, h7⟩
      · refine Or.inl ⟨h2, fun s hs => ?_⟩
        rcases List.mem_append.1 hs with hs | hs
        · exact h3 s hs
        · rw [List.mem_singleton.1 hs]
          intro h8
          exact h1 ⟨h8, by omega⟩
      · refine Or.inr ⟨h2, h3, h4, l1, l2 ++ [t], by have h8 := congrArg (fun z => z ++ [t]) h5; simpa using h8, h6, fun s hs hs1 => ?_⟩
        rcases List.mem_append.1 hs with hs | hs
        · exact h7 s hs hs1
        · rw [List.mem_singleton.1 hs] at hs1 ⊢
          by_cases h8 : (bestW f m).2 < f t
          · exact absurd ⟨hs1, h8⟩ h1
          · omega
/-- All that the law of short words asks for, of the first costliest one W of cost c. -/
structure BestAt (f : ByteArray → Int) (l : List ByteArray) (W : ByteArray) (c : Int) (p : Nat) : Prop where
  cost : f W = c
  can : c < 1000000
  pos : p < l.length
  here : l[p]? = some W
  most : ∀ (q : Nat) (s : ByteArray), l[q]? = some s → f s < 1000000 → f s ≤ c
  first : ∀ (q : Nat) (s : ByteArray), l[q]? = some s → f s = c → p ≤ q
theorem best_at {f : ByteArray → Int} (h0 : ∀ s, 0 ≤ f s) (l : List ByteArray) : ((bestW f l).2 = -1 ∧ ∀ (q : Nat) (s : ByteArray), l[q]? = some s → ¬ f s < 1000000) ∨ (0 ≤ (bestW f l).2 ∧ ∃ p, BestAt f l (bestW f l).1 (bestW f l).2 p) := by
  rcases best_is h0 _ l rfl with ⟨h1, h2⟩ | ⟨h1, h2, h3, l1, l2, h4, h5, h6⟩
  · exact Or.inl ⟨h1, fun q s hs => h2 s (List.mem_of_getElem? hs)⟩
  · refine Or.inr ⟨h1, l1.length, h2, h3, ?_, ?_, fun q s hs => h6 s (List.mem_of_getElem? hs), fun q s hs hc => ?_⟩
    · have := congrArg List.length h4; simp at this; omega
    · have h7 : (l1 ++ (bestW f l).1 :: l2)[l1.length]? = some (bestW f l).1 := by
        rw [List.getElem?_append_right (Nat.le_refl _), Nat.sub_self]; rfl
      rw [← h4] at h7
      exact h7
    · by_cases hq : q < l1.length
      · exfalso
        have h7 : (l1 ++ (bestW f l).1 :: l2)[q]? = some s := by rw [← h4]; exact hs
        rw [List.getElem?_append_left hq] at h7
        have := h5 s (List.mem_of_getElem? h7) (by omega)
        omega
      · omega
/-- Whether some word is accepted. -/
theorem tally_pos {f : ByteArray → Int} {l : List ByteArray} {q : Nat} {s : ByteArray} (h : l[q]? = some s) (hs : f s < 1000000) : 0 < tally f l := by
  unfold tally
  exact List.length_pos_iff_exists_mem.2 ⟨s, List.mem_filter.2 ⟨List.mem_of_getElem? h, by simpa using hs⟩⟩
theorem tally_none {f : ByteArray → Int} {l : List ByteArray} (h : ∀ (q : Nat) (s : ByteArray), l[q]? = some s → ¬ f s < 1000000) : tally f l = 0 := by
  unfold tally
  rw [List.length_eq_zero_iff, List.filter_eq_nil_iff]
  intro s hs
  obtain ⟨q, hq⟩ := List.mem_iff_getElem?.1 hs
  simpa using h q s hq
end Go.Proofs.YtfdbbopanankgaaDoor
namespace Go.Proofs.YtfdbbopanankgaaDoor
open Go.RowKit
set_option maxHeartbeats 4000000
set_option maxRecDepth 100000
set_option linter.unusedVariables false

theorem l4Short_any (w : World) (B g : Nat) (A : Option Addr) (cap : Nat) (zs : List Int) (p : Nat) (h : Rd w B g A cap zs p) (hp : p + 2 ≤ 1000000000000) :
    Calls Tryd.prog 14 #[.pointer (some ⟨g, 0, none⟩)] w fun e w' => DrawnN B g A cap zs p 1 (fun v => -1 ≤ v ∧ v ≤ 8) w e w' := by
  have hgw := h.lt
  go_enter Tryd.func14, Tryd.ntmps14
  go_wp2_with fail
  have hlg : ¬ w.heap.size = g := by omega
  refine (num_of _ B g w.heap.size A cap zs _ 8 [3, 2, 4, 1, 0, 5, -1, 8] (h.alloc _) (by omega) rfl (by decide) (by decide) hlg (row_lit w [3, 2, 4, 1, 0, 5, -1, 8])).mono ?_
  rintro e w5 ⟨n, q5, rfl, hn, hq, hD, hG⟩
  have hn9 : -1 ≤ n ∧ n ≤ 8 := by
    simp at hn
    rcases hn with rfl | rfl | rfl | rfl | rfl | rfl | rfl | rfl <;> decide
  have D := Lib.hid hD
  have G := Lib.hid (grow_trans (World.grownBy_alloc w _ (some g)) hG)
  clear hn hD hG h
  go_wp2_with fail
  go_ret
  exact ⟨n, q5, rfl, hn9, hq, D.out, G.out⟩
def DrawnZN (w : World) (e : Ending) (w' : World) : Prop :=
  ∃ (m : Int) (x1 x2 x3 : Value) (xs ys : List Int) (ss : List StepD) (k : Int), e = .returned (.tuple #[.agg #[.int .i64 m, x1, x2, x3], .int .i64 k]) ∧ Hid (AOwn w' w.heap.size x1 x2 x3 xs ys ss) ∧ Hid (AFew2 xs ys ss) ∧ (-1 ≤ k ∧ k ≤ 8) ∧ Hid (Below w.heap.size w w')
theorem drawCW_any (A : Option Addr) (cap : Nat) (zs : List Int) (w : World) (hz : IRow .u8 w w.heap.size A zs) (hc : zs.length ≤ cap) (hb : ∀ z ∈ zs, 0 ≤ z ∧ z ≤ 255) :
    Calls Tryd.prog 4 #[.slice A zs.length cap] w fun e w' => DrawnZN w e w' := by
  have HB := Lib.hid hb
  have HZ := Lib.hid hz
  clear hb hz
  go_enter Tryd.func4, Tryd.ntmps4
  go_wp2_with fail
  obtain ⟨w2, hw2⟩ : ∃ w2, w2 = w.alloc (.cells #[.int .i64 0, .slice none 0 0, .slice none 0 0, .slice none 0 0] 26) := ⟨_, rfl⟩
  have B2 : Hid (Below w.heap.size w w2) := by rw [hw2]; exact below_a1 _ _
  have R2 : Hid (Blk w2 w.heap.size 26 #[.int .i64 0, .slice none 0 0, .slice none 0 0, .slice none 0 0]) := by rw [hw2]; exact Blk.new _ _ _
  rw [← hw2]
  clear hw2
  have Z2 := Lib.hid ((HZ.out.below B2.out).more B2.out.size)
  refine (open_any A cap zs w2 Z2.out hc HB.out).mono ?_
  rintro e w3 ⟨A1, cap1, bs, rfl, hrd, hbel⟩
  have hU := Blk.lt R2.out
  have R3 := Lib.hid (blk_b R2.out hbel)
  have B3 := Lib.hid (below_on B2.out hbel)
  have D3 := Lib.hid hrd
  have hs3 : w2.heap.size ≤ w3.heap.size := hbel.size
  clear hbel hrd
  obtain ⟨g, hg⟩ : ∃ g, g = w2.heap.size := ⟨_, rfl⟩
  rw [← hg]
  rw [← hg] at D3
  have hg0 : w.heap.size < g := by omega
  clear hg hU
  go_wp2_with fail
  refine (any_any _ _ _ _ _ _ _ D3.out (by omega)).mono ?_
  rintro e w4 ⟨m, x1, x2, x3, xs, ys, ss, q, rfl, ho, hf, hq, hD, hG⟩
  obtain ⟨E1, c1, E2, c2, E3, c3, rfl, rfl, rfl⟩ := ho.out.forms
  obtain ⟨P, hP⟩ : ∃ P, P = w4.heap.size := ⟨_, rfl⟩
  obtain ⟨w5, hw5⟩ : ∃ w5, w5 = w4.alloc (.cells #[.int .i64 m, .slice E1 xs.length c1, .slice E2 ys.length c2, .slice E3 ss.length c3] 26) := ⟨_, rfl⟩
  have hg3 := D3.out.lt
  have R5 : Hid (Blk w5 w.heap.size 26 #[.int .i64 0, .slice none 0 0, .slice none 0 0, .slice none 0 0]) := by rw [hw5]; exact (R3.out.stay hG.out (fun e => by cases e; omega)).alloc _
  have P5 : Hid (Blk w5 P 26 #[.int .i64 m, .slice E1 xs.length c1, .slice E2 ys.length c2, .slice E3 ss.length c3]) := by rw [hw5, hP]; exact Blk.new _ _ _
  have B5 : Hid (Below w.heap.size w w5) := by rw [hw5]; exact below_al (B3.out.grown hG.out B3.out.size (fun j hj => by cases hj; omega)) (Nat.le_refl _) _
  have D5 : Hid (Rd w5 g g A1 cap1 bs q) := by rw [hw5]; exact hD.out.alloc _
  have O5 : Hid (AOwn w5 w3.heap.size (.slice E1 xs.length c1) (.slice E2 ys.length c2) (.slice E3 ss.length c3) xs ys ss) := by rw [hw5]; exact ho.out.grown (World.grownBy_alloc _ _ (some g)) hg3
  have hw34 : w3.heap.size ≤ w4.heap.size := hG.out.size
  have hRP : w.heap.size < P := by rw [hP]; omega
  have hPg : ¬ P = g := by rw [hP]; omega
  have hw3 : w.heap.size ≤ w3.heap.size := B3.out.size
  clear ho hD hG D3 R3 B3
  go_upto_region 3 with fail
  rw [← hw5, ← hP]
  clear hw5 hP
  have gd : w5.grownBy w5.drew none := ⟨rfl, rfl, rfl, Nat.le_refl _, fun _ _ _ => rfl⟩
  have gd' : w5.grownBy w5.drew (some g) := ⟨rfl, rfl, rfl, Nat.le_refl _, fun _ _ _ => rfl⟩
  have hRP' : ¬ w.heap.size = P := by omega
  have D5d := Lib.hid (D5.out.grown gd (fun j hj => by cases hj))
  have P5d := Lib.hid (P5.out.stay gd (by simp))
  have R5d := Lib.hid (R5.out.stay gd (by simp))
  have O5d := Lib.hid (O5.out.grown gd' hg3)
  have B5d : Hid (Below w.heap.size w w5.drew) := Lib.hid (B5.out.drew)
  clear D5 P5 R5 O5 B5
  have hS0 : w5.drew.cell? ⟨P, 0, none⟩ = some (.int .i64 m) ∧ w5.drew.cell? ⟨P, 1, none⟩ = some (.slice E1 xs.length c1) ∧ w5.drew.cell? ⟨P, 2, none⟩ = some (.slice E2 ys.length c2) ∧ w5.drew.cell? ⟨P, 3, none⟩ = some (.slice E3 ss.length c3) := ⟨P5d.out.cell 0, P5d.out.cell 1, P5d.out.cell 2, P5d.out.cell 3⟩
  refine wp_region_Z (S := fun w' => w'.cell? ⟨P, 0, none⟩ = some (.int .i64 m) ∧ w'.cell? ⟨P, 1, none⟩ = some (.slice E1 xs.length c1) ∧ w'.cell? ⟨P, 2, none⟩ = some (.slice E2 ys.length c2) ∧ w'.cell? ⟨P, 3, none⟩ = some (.slice E3 ss.length c3)) (by kernel_rfl) hS0 (fun hS => ?_)
  clear hS0
  refine wpAnyZ_take (i := 0) (v := ?vd0) rfl (by kernel_rfl) (by kernel_rfl) (by kernel_rfl) (by kernel_rfl) (fun _ _ _ h => h) (Or.inl ⟨by kernel_rfl, ?yd0⟩) (by with_reducible assumption) ?rd0
  case yd0 => (intro w hSw; (try dsimp only at hSw); go_simp; (try with_reducible rfl))
  simp only [Act.put, List.setIfInBounds_toArray]
  refine wpAnyZ_take (i := 1) (v := ?vd1) rfl (by kernel_rfl) (by kernel_rfl) (by kernel_rfl) (by kernel_rfl) (fun _ _ _ h => h) (Or.inl ⟨by kernel_rfl, ?yd1⟩) (by with_reducible assumption) ?rd1
  case yd1 => (intro w hSw; (try dsimp only at hSw); go_simp; (try with_reducible rfl))
  simp only [Act.put]
  refine wpAnyZ_step (i := 2) (by kernel_rfl) rfl ?_
  intro K2 hK2
  go_simp
  refine (l4Short_any w5.drew _ g _ _ _ q D5d.out (by omega)).mono ?_
  rintro e w6 ⟨k, q6, rfl, hk, hq6, hD6, hG6⟩
  have P6 := Lib.hid (P5d.out.stay hG6 (fun e => hPg (Option.some.inj e)))
  have R6 := Lib.hid (R5d.out.stay hG6 (fun e => by cases e; omega))
  have O6 := Lib.hid (O5d.out.grown hG6 hg3)
  have B6 : Hid (Below w.heap.size w w6) := B5d.out.grown hG6 B5d.out.size (fun j hj => by cases hj; omega)
  have hk' : -1 ≤ k ∧ k ≤ 8 := hk
  refine hK2.out _ _ ⟨P6.out.cell 0, P6.out.cell 1, P6.out.cell 2, P6.out.cell 3⟩ (fun hS1 => ?_)
  clear hK2 hk hq6 hD6 hG6 hS P5d R5d O5d D5d B5d
  (try simp only [Act.put])
  obtain ⟨f0, f1, f2, f3⟩ := four_frozen R6.out
  obtain ⟨d0, d1, d2, d3⟩ := four_cells R6.out
  refine wpAnyZ_step (i := 3) (by kernel_rfl) rfl ?_
  intro K3 hK3
  go_simp
  have P7 := Lib.hid ((((P6.out.other w.heap.size 0 (.int .i64 m) hRP').other w.heap.size 1 (.slice E1 xs.length c1) hRP').other w.heap.size 2 (.slice E2 ys.length c2) hRP').other w.heap.size 3 (.slice E3 ss.length c3) hRP')
  refine hK3.out _ _ ⟨P7.out.cell 0, P7.out.cell 1, P7.out.cell 2, P7.out.cell 3⟩ (fun hS2 => ?_)
  clear hK3 hS1
  (try simp only [Act.put])
  refine wpAnyZ_last (i := 4) (by kernel_rfl) rfl (by kernel_rfl) ?_
  intro K4 hK4
  go_simp
  refine hK4.out _ _ ?_
  clear hK4
  go_wp2_with fail
  refine bodyPost_ret (results_2 rfl (Gives.row (g := w.heap.size) rfl (four_set R6.out _ _ _ _) Tryd.underlying26 rfl (by kernel_rfl)) (Gives.tmp rfl)) rfl ?_
  exact ⟨m, _, _, _, xs, ys, ss, k, rfl, (aown_four O6.out R6.out m _ _ _).base hw3, hf, hk', B6.out.grown (fourV_grow _ w.heap.size m _ _ _) B6.out.size (fun j hj => by cases hj; exact Nat.le_refl _)⟩
end Go.Proofs.YtfdbbopanankgaaDoor
namespace Go.Proofs.YtfdbbopanankgaaDoor
open Go.RowKit
set_option maxHeartbeats 8000000
set_option maxRecDepth 100000
set_option linter.unusedVariables false

/-- All that the law of short words asks for. -/
structure ShortAll (f : ByteArray → Int) (L : List ByteArray) (W : ByteArray) (cw : Int) (p : Nat) (ok : Bool) (cnt : Int) : Prop where
  most : ∀ (q : Nat) (s : ByteArray), L[q]? = some s → f s < 1000000 → p < L.length ∧ f s ≤ cw ∧ (f s = cw → p ≤ q) ∧ (s = W → p ≤ q)
  here : ∀ s, L[p]? = some s → s = W ∧ f s = cw
  some_ : p < L.length → f W = cw
  can : p < L.length → cw < 1000000
  fin : ok = decide (p < L.length)
  num : cnt = (tally f L : Int)
  pos : decide (0 < cnt) = ok
theorem short_all {n k : Nat} {xs ys : List Int} {ss : List StepD} (h : autoOk n xs ys ss = true) (hk : shortOk k = true) (h0 : ∀ s, 0 ≤ costW n xs ys ss s) : ∃ cw p, ShortAll (costW n xs ys ss) (wordsTo (k + 1)) (bestR n xs ys ss k).1 cw p (bestR n xs ys ss k).2 (countR n xs ys ss k) := by
  rw [bestR_some h hk, countR_some h hk]
  rcases best_at h0 (wordsTo (k + 1)) with ⟨h1, h2⟩ | ⟨h1, p, hp⟩
  · refine ⟨0, (wordsTo (k + 1)).length, fun q s hs hc => absurd hc (h2 q s hs), fun s hs => ?_, fun h => by omega, fun h => by omega, ?_, rfl, ?_⟩
    · rw [List.getElem?_eq_none (Nat.le_refl _)] at hs; cases hs
    · rw [h1]; simp
    · rw [h1, tally_none h2]; rfl
  · refine ⟨_, p, fun q s hs hc => ⟨hp.pos, hp.most q s hs hc, hp.first q s hs, fun e => hp.first q s hs (by rw [e]; exact hp.cost)⟩, fun s hs => ?_, fun _ => hp.cost, fun _ => hp.can, ?_, rfl, ?_⟩
    · rw [hp.here] at hs
      obtain rfl := Option.some.inj hs
      exact ⟨rfl, hp.cost⟩
    · have h3 := hp.pos
      rw [decide_eq_true h3, decide_eq_true (by omega)]
    · have h3 := tally_pos (f := costW n xs ys ss) hp.here (by rw [hp.cost]; exact hp.can)
      rw [decide_eq_true (by omega), decide_eq_true (by omega)]
/-- A list of texts is a slice, .. -/
theorem str_slice {w : World} {base n : Nat} {t : TypeId} {x : Value} {cs : List Value} (h : w.ownsRow base t 1 x n cs) : ∃ A cap, x = .slice A n cap := by
  rcases str_form h with ⟨rfl, _, A, cap, e, _⟩ | ⟨_, g, cap, e, _⟩
  · exact ⟨A, cap, e⟩
  · exact ⟨_, cap, e⟩
theorem str_at {w : World} {base n cap : Nat} {A : Option Addr} {t : TypeId} {cs : List Value} (h : w.ownsRow base t 1 (.slice A n cap) n cs) (hn : 0 < n) : ∃ g, A = some ⟨g, 0, none⟩ := by
  rcases str_form h with ⟨h0, _⟩ | ⟨_, g, cap', e, _⟩
  · omega
  · injection e with e _ _
    exact ⟨g, e⟩
theorem toList_inj {a b : ByteArray} (h : a.toList = b.toList) : a = b := by
  rw [ByteArray.toList_eq, ByteArray.toList_eq] at h
  exact ByteArray.ext (Array.toList_inj.1 h)
theorem bool_id (b : Bool) : (b == b) = true := by cases b <;> rfl
theorem costW_pos {n : Nat} {xs ys : List Int} {ss : List StepD} (h : autoOk n xs ys ss = true) (s : ByteArray) : 0 ≤ costW n xs ys ss s := by
  obtain ⟨n', hn, n1, n2, hx, hy, _, hs⟩ := auto_in h
  obtain rfl : n = n' := by omega
  unfold costW costF
  exact (le_leastV _ _ _ _).2 ⟨by omega, fun k hk hky => ((alongV_in hx hs s.data.toList) k).1⟩
theorem FnShortWords_walk (A : Option Addr) (cap : Nat) (zs : List Int) (w : World) (hz : IRow .u8 w w.heap.size A zs) (hc : zs.length ≤ cap) (hwf : ∀ z ∈ zs, (Lit.int .u8 z).wf = true) :
    Calls Tryd.prog 3 #[.slice A zs.length cap] w fun e w' => e = .returned (.bool true) ∧ Below w.heap.size w w' := by
  have hl1 := hz.len
  have HB := Lib.hid (show ∀ z ∈ zs, 0 ≤ z ∧ z ≤ 255 from fun z hz => bounds_u8 (hwf z hz))
  clear hwf
  by_cases hs1 : (1048576 : Int) < (zs.length : Int)
  · go_enter Tryd.func3, Tryd.ntmps3
    go_wp2_with fail
    go_ret
    exact ⟨rfl, Below.refl _ _⟩
  go_enter Tryd.func3, Tryd.ntmps3
  go_wp2_with fail
  refine (drawCW_any _ _ _ _ hz hc HB.out).mono ?_
  rintro e w1 ⟨m, x1, x2, x3, xs, ys, ss, k, rfl, ho, hf, hk8, hb1⟩
  obtain ⟨A1, c1, A2, c2, A3, c3, rfl, rfl, rfl⟩ := ho.out.forms
  have R1 := Lib.hid (AR.of ho.out)
  obtain ⟨W, hW⟩ : ∃ W, (bestR m xs ys ss k).1 = W := ⟨_, rfl⟩
  obtain ⟨ok, hok⟩ : ∃ b, (bestR m xs ys ss k).2 = b := ⟨_, rfl⟩
  obtain ⟨cnt, hcnt⟩ : ∃ c, countR m xs ys ss k = c := ⟨_, rfl⟩
  obtain ⟨sk, hsk⟩ : ∃ b, shortOk k = b := ⟨_, rfl⟩
  obtain ⟨L, hL⟩ : ∃ L, shortR k = L := ⟨_, rfl⟩
  have hI1 := fun w0 (h : AR w0 A1 A2 A3 xs ys ss) => iBest_any m A1 A2 A3 c1 c2 c3 xs ys ss k w0 h.i1 h.i2 h.s3
  have hS1 := fun w0 (h : AR w0 A1 A2 A3 xs ys ss) => sBest_any m A1 A2 A3 c1 c2 c3 xs ys ss k w0 h.i1 h.i2 h.s3
  have hI2 := fun w0 => iShortWords_any k w0
  have hS2 := fun w0 => sShortWords_any k w0
  unfold SWEnd at hI2 hS2
  rw [hW, hok] at hI1 hS1
  rw [hL, hsk] at hI2 hS2
  have HI1 := Lib.hid hI1
  have HS1 := Lib.hid hS1
  have HI2 := Lib.hid hI2
  have HS2 := Lib.hid hS2
  have HC := Lib.hid hcnt
  have HW := Lib.hid hW
  have HO := Lib.hid hok
  have HSK := Lib.hid hsk
  have HL := Lib.hid hL
  clear hI1 hS1 hI2 hS2 hcnt hW hok hsk hL
  have V1 := Lib.hid (AV.new rfl R1.out (m := m) (c1 := c1) (c2 := c2) (c3 := c3))
  have B1 := Lib.hid (below_al hb1.out (Nat.le_refl _) (AO m A1 A2 A3 c1 c2 c3 xs ys ss))
  clear R1 ho hb1 hf hz hc HB
  go_wp2_with fail
  refine (HI1.out _ V1.out.2).mono ?_
  rintro e w2 ⟨rfl, Hk⟩
  have V2 := Lib.hid (V1.out.below Hk.out)
  have B2 := Lib.hid (below_on B1.out Hk.out)
  clear V1 B1 Hk
  obtain ⟨x0, x1, x2, x3⟩ := V2.out.cells
  have xl := V2.out.lt
  go_wp2_with fail
  refine (HS1.out _ V2.out.2).mono ?_
  rintro e w3 ⟨rfl, Hk⟩
  have V3 := Lib.hid (V2.out.below Hk.out)
  have B3 := Lib.hid (below_on B2.out Hk.out)
  clear V2 B2 Hk x0 x1 x2 x3 xl
  obtain ⟨x0, x1, x2, x3⟩ := V3.out.cells
  have xl := V3.out.lt
  go_wp2_with fail
  refine (iCount_any m A1 A2 A3 c1 c2 c3 xs ys ss k cnt _ V3.out.2.i1 V3.out.2.i2 V3.out.2.s3 HC.out).mono ?_
  rintro e w4 ⟨rfl, Hk⟩
  have V4 := Lib.hid (V3.out.below Hk.out)
  have B4 := Lib.hid (below_on B3.out Hk.out)
  clear V3 B3 Hk x0 x1 x2 x3 xl
  go_wp2_with fail
  refine (HI2.out _).mono ?_
  rintro e w5 ⟨x, rfl, hox, Hk⟩
  have V5 := Lib.hid (V4.out.below Hk)
  have B5 := Lib.hid (below_on B4.out Hk)
  have OX := Lib.hid hox
  clear V4 B4 Hk hox
  go_wp2_with fail
  refine (HS2.out _).mono ?_
  rintro e w6 ⟨y, rfl, hoy, Hk⟩
  have V6 := Lib.hid (V5.out.below Hk)
  have B6 := Lib.hid (below_on B5.out Hk)
  have OX6 := Lib.hid (own_under OX.out Hk)
  have OY := Lib.hid hoy
  clear V5 B5 Hk hoy OX
  obtain ⟨AX, capx, rfl⟩ := str_slice OX6.out
  obtain ⟨AY, capy, rfl⟩ := str_slice OY.out
  obtain ⟨x0, x1, x2, x3⟩ := V6.out.cells
  have xl := V6.out.lt
  go_wp2_with fail
  refine (sCount_any m A1 A2 A3 c1 c2 c3 xs ys ss k cnt _ V6.out.2.i1 V6.out.2.i2 V6.out.2.s3 HC.out).mono ?_
  rintro e w7 ⟨rfl, Hk⟩
  have V7 := Lib.hid (V6.out.below Hk.out)
  have B7 := Lib.hid (below_on B6.out Hk.out)
  have OX7 := Lib.hid (own_under OX6.out Hk.out)
  have OY7 := Lib.hid (own_under OY.out Hk.out)
  clear V6 B6 OX6 OY Hk x0 x1 x2 x3 xl
  obtain ⟨bb, hbb⟩ : ∃ bb, (autoOk m xs ys ss && shortOk k) = bb := ⟨_, rfl⟩
  cases bb
  · obtain rfl : cnt = -1 := by rw [← HC.out]; exact countR_none hbb
    obtain rfl : ok = false := by rw [← HO.out, bestR_none hbb]
    clear hbb
    obtain ⟨x0, x1, x2, x3⟩ := V7.out.cells
    have xl := V7.out.lt
    go_wp2_with fail
    refine (sCount_any m A1 A2 A3 c1 c2 c3 xs ys ss k (-1) _ V7.out.2.i1 V7.out.2.i2 V7.out.2.s3 HC.out).mono ?_
    rintro e w8 ⟨rfl, Hk⟩
    have B8 := Lib.hid (below_on B7.out Hk.out)
    clear V7 B7 OX7 OY7 Hk x0 x1 x2 x3 xl
    go_wp2_with fail
    go_ret
    exact ⟨rfl, B8.out⟩
  rw [Bool.and_eq_true] at hbb
  obtain ⟨hok, hks⟩ := hbb
  obtain ⟨n, rfl, n1, n2, _, _, _, _⟩ := auto_in hok
  obtain ⟨k, rfl, hk7⟩ := shortOk_in hks
  obtain ⟨cw, p, hall⟩ := short_all hok hks (costW_pos hok)
  rw [HW.out, HO.out, HC.out, ← shortR_yes hks, HL.out] at hall
  have HALL := Lib.hid hall
  have HCC := Lib.hid HC.out
  obtain ⟨f, hf⟩ : ∃ f, f = costW n xs ys ss := ⟨_, rfl⟩
  rw [← hf] at HALL
  have hLok : ∀ s ∈ L, s.size ≤ 7 ∧ wordOk s = true := by
    rw [← HL.out, shortR_yes hks]
    intro s hs
    obtain ⟨h1, h2⟩ := wordsTo_ok _ (by omega) s hs
    refine ⟨by omega, ?_⟩
    unfold wordOk
    rw [Bool.and_eq_true, decide_eq_true_eq]
    exact ⟨by omega, h2⟩
  have HCO : Hid (∀ s ∈ L, costR n xs ys ss s = f s) := fun s hs => by rw [costR_some hok (hLok s hs).2, hf]; rfl
  have HLK := Lib.hid hLok
  have hLl : L.length ≤ 256 := by rw [← HL.out]; exact (shortR_ok k).2
  have ORD : Hid (∀ i s t, L[i]? = some s → L[i + 1]? = some t → ¬ t.size < s.size ∧ (t.size = s.size → (Op.bytesLess t.toList s.toList || t.toList == s.toList) = false)) := by
    show ∀ _, _
    rw [← HL.out, shortR_yes hks]
    exact fun i s t => words_order (k + 1) i s t
  have hL0 : 0 < L.length := by
    rw [← HL.out, shortR_yes hks]
    have := wordsTo_len (k + 1)
    have : 2 ^ 1 ≤ 2 ^ (k + 1) := Nat.pow_le_pow_right (by omega) (by omega)
    omega
  have hcnt0 : ¬ cnt < 0 := by rw [HALL.out.num]; omega
  have hcnt9 : cnt ≤ 256 := by rw [HALL.out.num]; have := tally_le f L; omega
  obtain ⟨gx, rfl⟩ := str_at OX7.out hL0
  obtain ⟨gy, rfl⟩ := str_at OY7.out hL0
  have HCW : Hid (p < L.length → costR n xs ys ss W = cw) := fun h => by
    obtain ⟨s, hs⟩ : ∃ s, L[p]? = some s := ⟨_, List.getElem?_eq_getElem h⟩
    obtain ⟨rfl, e⟩ := HALL.out.here s hs
    rw [HCO.out _ (List.mem_of_getElem? hs), e]
  have HWS : Hid (p < L.length → W.size ≤ maxLen) := fun h => by
    obtain ⟨s, hs⟩ : ∃ s, L[p]? = some s := ⟨_, List.getElem?_eq_getElem h⟩
    obtain ⟨rfl, e⟩ := HALL.out.here s hs
    have := (HLK.out _ (List.mem_of_getElem? hs)).1
    unfold maxLen; omega
  have HCE : Hid (cnt = (tally f L : Int)) := HALL.out.num
  have HFI : Hid (ok = decide (p < L.length)) := HALL.out.fin
  have HPO : Hid (decide (0 < cnt) = ok) := HALL.out.pos
  have HL0 := Lib.hid hL0
  have hsk : sk = true := by rw [← HSK.out, hks]
  subst hsk
  clear hall hf hLok hok hks HI1 HS1 HI2 HS2 HC HW HO HSK HL hL0
  obtain ⟨x0, x1, x2, x3⟩ := V7.out.cells
  have xl := V7.out.lt
  go_wp2_with fail
  go_loopw [14, 15, 116] (fun x y i wr => ∃ q : Nat, q ≤ L.length ∧ x = .int .i64 (tally f (L.take q)) ∧ y = .bool (decide (p < q)) ∧ i = .int .i64 q ∧ Hid (Below w7.heap.size w7 wr)) (fun _ _ i _ => L.length - (intOf i).toNat)
  case atStart => exact ⟨0, Nat.zero_le _, by simp [tally], by simp, rfl, Below.refl _ _⟩
  case round =>
    obtain ⟨q, hq, rfl, rfl, rfl, HBr⟩ := hrel
    obtain ⟨tn, htn⟩ : ∃ tn, tally f (L.take q) = tn := ⟨_, rfl⟩
    have htn9 : tn ≤ 256 := by
      have h1 := tally_le f (L.take q)
      have h2 : (L.take q).length ≤ L.length := by rw [List.length_take]; omega
      omega
    obtain ⟨sb, hsb⟩ : ∃ sb, decide (p < q) = sb := ⟨_, rfl⟩
    rw [htn, hsb]
    have HTN := Lib.hid htn
    have HSB := Lib.hid hsb
    clear htn hsb
    have VR := Lib.hid (V7.out.below HBr.out)
    have OXR := Lib.hid (own_under OX7.out HBr.out)
    have OYR := Lib.hid (own_under OY7.out HBr.out)
    by_cases hlt : q < L.length
    · obtain ⟨s, hs⟩ : ∃ s, L[q]? = some s := ⟨_, List.getElem?_eq_getElem hlt⟩
      have hx : wr.cell? ⟨gx, q, none⟩ = some (.string s) := str_cell OXR.out hs
      have hsl : s.size ≤ maxLen := by have := (HLK.out s (List.mem_of_getElem? hs)).1; unfold maxLen; omega
      have HS := Lib.hid hs
      have HSL := Lib.hid hsl
      have hlt' : (q : Int) < (L.length : Int) := by omega
      clear hs hsl
      obtain ⟨x0, x1, x2, x3⟩ := VR.out.cells
      have xl := VR.out.lt
      go_wp2_with fail
      refine (iCost_r (f s) HSL.out VR.out.2 (HCO.out s (List.mem_of_getElem? HS.out))).mono ?_
      rintro e w9 ⟨rfl, Hk⟩
      have VR9 := Lib.hid (VR.out.below Hk.out)
      have B9 := Lib.hid (below_on HBr.out Hk.out)
      have OX9 := Lib.hid (own_under OXR.out Hk.out)
      have OY9 := Lib.hid (own_under OYR.out Hk.out)
      clear VR OXR OYR HBr Hk x0 x1 x2 x3 xl hx
      have hy : w9.cell? ⟨gy, q, none⟩ = some (.string s) := str_cell OY9.out HS.out
      obtain ⟨c, hc⟩ : ∃ c, f s = c := ⟨_, rfl⟩
      rw [hc]
      have HFC := Lib.hid hc
      clear hc
      have hs7 : s.size ≤ 7 := (HLK.out s (List.mem_of_getElem? HS.out)).1
      go_upto_region 17 with fail
      go_cut [164] (fun cc wx => cc = .bool false ∧ wx = w9)
      case first =>
        rcases Nat.eq_zero_or_pos q with rfl | hq0
        · go_wp2_with fail
          go_meet
          exact ⟨rfl, rfl⟩
        · obtain ⟨r, rfl⟩ : ∃ r, q = r + 1 := ⟨q - 1, by omega⟩
          obtain ⟨t, ht⟩ : ∃ t, L[r]? = some t := ⟨_, List.getElem?_eq_getElem (by omega)⟩
          have hxr : w9.cell? ⟨gx, r, none⟩ = some (.string t) := str_cell OX9.out ht
          have ht7 : t.size ≤ 7 := (HLK.out t (List.mem_of_getElem? ht)).1
          have hO := ORD.out r t s ht HS.out
          have ho1 : (t.size : Int) ≤ (s.size : Int) := by have := hO.1; omega
          by_cases hsz : s.size = t.size
          · have ho2 := hO.2 hsz
            have hsz' : (s.size : Int) = (t.size : Int) := by omega
            clear hO ht hsz
            go_wp2_with fail
            go_meet
            first | exact ⟨rfl, rfl⟩ | exact ⟨by rw [decide_eq_false (by omega)], rfl⟩
          · have hsz' : ¬ (s.size : Int) = (t.size : Int) := by omega
            clear hO ht hsz
            go_wp2_with fail
            go_meet
            first | exact ⟨rfl, rfl⟩ | exact ⟨by rw [decide_eq_false (by omega)], rfl⟩
      case rest =>
        obtain ⟨rfl, rfl⟩ := hcut
        clear hy OX9 OY9
        have hq1 : (q : Int) + 1 ≤ 256 := by omega
        have HTQ : Hid (L.take (q + 1) = L.take q ++ [s]) := by show _ = _; rw [List.take_add_one, HS.out]; rfl
        by_cases hN : c < 1000000
        · have HTY : Hid (tally f (L.take (q + 1)) = tn + 1) := by show _ = _; rw [HTQ.out, tally_yes (by rw [HFC.out]; exact hN), HTN.out]
          have hm := HALL.out.most q s HS.out (by rw [HFC.out]; exact hN)
          rw [HFC.out] at hm
          obtain ⟨hpl, hm1, hm2, hm3⟩ := hm
          have HCW2 := Lib.hid (HCW.out hpl)
          have HWS2 := Lib.hid (HWS.out hpl)
          obtain ⟨x0, x1, x2, x3⟩ := VR9.out.cells
          have xl := VR9.out.lt
          rcases Nat.lt_trichotomy q p with h | rfl | h
          · have hc1 : c < cw := by
              have : ¬ c = cw := fun e => by have := hm2 e; omega
              omega
            have hsW : ¬ s = W := fun e => by have := hm3 e; omega
            have hsW2 : ¬ s.toList = W.toList := fun e => hsW (toList_inj e)
            obtain rfl : sb = false := by rw [← HSB.out]; exact decide_eq_false (by omega)
            clear hm1 hm2 hm3 hsW
            go_wp2_with fail
            refine (iCost_r cw HWS2.out VR9.out.2 HCW2.out).mono ?_
            rintro e w10 ⟨rfl, Hk⟩
            have V10 := Lib.hid (VR9.out.below Hk.out)
            have B10 := Lib.hid (below_on B9.out Hk.out)
            clear VR9 B9 Hk x0 x1 x2 x3 xl
            obtain ⟨x0, x1, x2, x3⟩ := V10.out.cells
            have xl := V10.out.lt
            go_wp2_with fail
            refine (iCost_r cw HWS2.out V10.out.2 HCW2.out).mono ?_
            rintro e w11 ⟨rfl, Hk⟩
            have B11 := Lib.hid (below_on B10.out Hk.out)
            clear V10 B10 Hk x0 x1 x2 x3 xl
            go_wp2_with fail
            go_roundw
            case rel => exact ⟨q + 1, by omega, by rw [HTY.out]; rfl, by rw [decide_eq_false (by omega), beq_eq_false_iff_ne.2 hsW2], by go_num, B11⟩
            case measure => simp [intOf]; omega
          · obtain ⟨rfl, hcq⟩ := HALL.out.here s HS.out
            obtain rfl : c = cw := by rw [← HFC.out]; exact hcq
            obtain rfl : sb = false := by rw [← HSB.out]; exact decide_eq_false (by omega)
            clear hm1 hm2 hm3 hcq
            go_wp2_with fail
            refine (iCost_r c HWS2.out VR9.out.2 HCW2.out).mono ?_
            rintro e w10 ⟨rfl, Hk⟩
            have V10 := Lib.hid (VR9.out.below Hk.out)
            have B10 := Lib.hid (below_on B9.out Hk.out)
            clear VR9 B9 Hk x0 x1 x2 x3 xl
            obtain ⟨x0, x1, x2, x3⟩ := V10.out.cells
            have xl := V10.out.lt
            go_wp2_with fail
            refine (iCost_r c HWS2.out V10.out.2 HCW2.out).mono ?_
            rintro e w11 ⟨rfl, Hk⟩
            have B11 := Lib.hid (below_on B10.out Hk.out)
            clear V10 B10 Hk x0 x1 x2 x3 xl
            go_wp2_with fail
            go_roundw
            case rel => exact ⟨q + 1, by omega, by rw [HTY.out]; rfl, by rw [decide_eq_true (by omega)], by go_num, B11⟩
            case measure => simp [intOf]; omega
          · obtain rfl : sb = true := by rw [← HSB.out]; exact decide_eq_true (by omega)
            clear hm2 hm3
            go_wp2_with fail
            refine (iCost_r cw HWS2.out VR9.out.2 HCW2.out).mono ?_
            rintro e w10 ⟨rfl, Hk⟩
            have V10 := Lib.hid (VR9.out.below Hk.out)
            have B10 := Lib.hid (below_on B9.out Hk.out)
            clear VR9 B9 Hk x0 x1 x2 x3 xl
            obtain ⟨x0, x1, x2, x3⟩ := V10.out.cells
            have xl := V10.out.lt
            go_wp2_with fail
            refine (iCost_r cw HWS2.out V10.out.2 HCW2.out).mono ?_
            rintro e w11 ⟨rfl, Hk⟩
            have B11 := Lib.hid (below_on B10.out Hk.out)
            clear V10 B10 Hk x0 x1 x2 x3 xl
            go_wp2_with fail
            all_goals (go_roundw; (case rel => exact ⟨q + 1, by omega, by rw [HTY.out]; rfl, by rw [decide_eq_true (by omega)], by go_num, B11⟩); (case measure => simp [intOf]; omega))
        · have HTY : Hid (tally f (L.take (q + 1)) = tn) := by show _ = _; rw [HTQ.out, tally_no (by rw [HFC.out]; exact hN), HTN.out]
          have HSQ : Hid (decide (p < q + 1) = sb) := by
            show _ = _
            rw [← HSB.out]
            have : p ≠ q := fun e => by
              obtain ⟨_, hcq⟩ := HALL.out.here s (by rw [e]; exact HS.out)
              have := HALL.out.can (by omega)
              have := HFC.out
              omega
            by_cases h : p < q
            · rw [decide_eq_true h, decide_eq_true (by omega)]
            · rw [decide_eq_false h, decide_eq_false (by omega)]
          go_wp2_with fail
          go_roundw
          case rel => exact ⟨q + 1, by omega, by rw [HTY.out], by rw [HSQ.out], by go_num, B9⟩
          case measure => simp [intOf]; omega
    · obtain rfl : q = L.length := by omega
      rw [List.take_length] at HTN
      obtain rfl : cnt = (tn : Int) := by rw [HCE.out, HTN.out]
      obtain rfl : sb = ok := by rw [HFI.out, HSB.out]
      by_cases h0 : (0 : Int) < (tn : Int)
      · obtain rfl : sb = true := by rw [← HPO.out]; exact decide_eq_true h0
        go_wp2_with fail
        go_ret
        exact ⟨rfl, below_on B7.out HBr.out⟩
      · obtain rfl : sb = false := by rw [← HPO.out]; exact decide_eq_false h0
        go_wp2_with fail
        go_ret
        exact ⟨rfl, below_on B7.out HBr.out⟩
end Go.Proofs.YtfdbbopanankgaaDoor
