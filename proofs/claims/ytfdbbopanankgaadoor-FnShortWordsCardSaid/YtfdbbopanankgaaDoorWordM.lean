/- The product of the matrices of a word's letters, the program's: in new memory; nothing that was there changes. Conditions: one to four states, steps between them, a word. The product of the matrices of a word's letters, the model's: in new memory; nothing that was there changes. Conditions: one to four states, steps between them, a word. WordMatrix, the program's and the model's: the product of the letters' matrices, in new memory; nothing that was there changes. Condition: the text is no longer than a length. -/
import Derived.Test.YtfdbbopanankgaaDoorPathT
import Derived.Test.YtfdbbopanankgaaDoorSq7
import Derived.Test.YtfdbbopanankgaaDoorMarkA
import Derived.Lib.OthersKept
import Derived.Test.YtfdbbopanankgaaDoorSpecMul
import Derived.Test.YtfdbbopanankgaaDoorLastOp
import Derived.Test.YtfdbbopanankgaaDoorToC
import Derived.Test.YtfdbbopanankgaaDoorReader
import Derived.Test.YtfdbbopanankgaaDoorStepM
namespace Go.Proofs.YtfdbbopanankgaaDoor
open Go.RowKit
set_option maxHeartbeats 4000000
set_option maxRecDepth 100000
set_option linter.unusedVariables false

theorem CMap.same {w w' : World} {M n : Nat} {F : Int → ByteArray → Int → Option Int} (h : CMap w M n F) (he : w'.heap[M]? = w.heap[M]?) : CMap w' M n F := by
  obtain ⟨D, ⟨es, c, h1, h2⟩, h3⟩ := h
  exact ⟨D, ⟨es, c, he.trans h1, h2⟩, h3⟩
theorem word_at {s : ByteArray} (h : s.data.toList.all isAB = true) {k : Nat} (hk : k < s.size) : isAB (s[k]'hk) = true := by
  have hl : k < s.data.toList.length := by rw [← Lib.size_eq]; exact hk
  exact List.all_eq_true.1 h _ (List.getElem_mem (l := s.data.toList) hl)
theorem take_snoc_b {s : ByteArray} {k : Nat} (hk : k < s.size) : s.data.toList.take (k + 1) = s.data.toList.take k ++ [s[k]'hk] := by
  have hl : k < s.data.toList.length := by rw [← Lib.size_eq]; exact hk
  rw [List.take_succ_eq_append_getElem hl]; rfl
theorem conv_ltr {b : UInt8} (h : isAB b = true) (w : World) : (convert 21 9 (.int .i32 (b.toNat : Int))).run Tryd.prog w = .ok (.string (ltr b)) w := by
  rcases isAB_cases h with rfl | rfl <;> kernel_rfl
theorem ab_small {b : UInt8} (h : isAB b = true) : b.toNat < 128 := by
  rcases isAB_cases h with rfl | rfl <;> decide
theorem sq_mv {n p : Nat} {zs : List Int} (h : MV n zs) (hp : p = n * n) : (zs.length = p) ∧ ∀ q, q < p → 0 ≤ zs.getD q 0 ∧ zs.getD q 0 ≤ 1000000 := ⟨by rw [h.len, hp], fun q hq => by
  have hl : q < zs.length := by rw [h.len, ← hp]; exact hq
  rw [List.getD_eq_getElem?_getD, List.getElem?_eq_getElem hl]
  exact vld_t (List.all_eq_true.1 h.all _ (List.getElem_mem hl))⟩
theorem Blk.trans_ {w w' : World} {j : Nat} {t : TypeId} {cs : Array Value} (he : w'.heap[j]? = w.heap[j]?) (h : Blk w j t cs) : Blk w' j t cs := he.trans h
def six (w : World) (g : Nat) (v0 v1 v2 v3 v4 v5 : Value) : World := (((((w.setCell ⟨g, 0, none⟩ v0).setCell ⟨g, 1, none⟩ v1).setCell ⟨g, 2, none⟩ v2).setCell ⟨g, 3, none⟩ v3).setCell ⟨g, 4, none⟩ v4).setCell ⟨g, 5, none⟩ v5
theorem six_grow (w : World) (g : Nat) (v0 v1 v2 v3 v4 v5 : Value) : w.grownBy (six w g v0 v1 v2 v3 v4 v5) (some g) := by
  unfold six
  exact grow_trans (grow_trans (grow_trans (grow_trans (grow_trans (grow_set _ g 0 v0) (grow_set _ g 1 v1)) (grow_set _ g 2 v2)) (grow_set _ g 3 v3)) (grow_set _ g 4 v4)) (grow_set _ g 5 v5)
theorem six_blk {w : World} {g : Nat} {t : TypeId} {u0 u1 u2 u3 u4 u5 : Value} (h : Blk w g t #[u0, u1, u2, u3, u4, u5]) (v0 v1 v2 v3 v4 v5 : Value) : Blk (six w g v0 v1 v2 v3 v4 v5) g t #[v0, v1, v2, v3, v4, v5] := by
  unfold six
  have h0 : Blk _ g t #[v0, u1, u2, u3, u4, u5] := h.set_ 0 v0
  have h1 : Blk _ g t #[v0, v1, u2, u3, u4, u5] := h0.set_ 1 v1
  have h2 : Blk _ g t #[v0, v1, v2, u3, u4, u5] := h1.set_ 2 v2
  have h3 : Blk _ g t #[v0, v1, v2, v3, u4, u5] := h2.set_ 3 v3
  have h4 : Blk _ g t #[v0, v1, v2, v3, v4, u5] := h3.set_ 4 v4
  exact h4.set_ 5 v5
theorem Ins.iter {B T k : Nat} {w w' : World} (h : Ins B T w w') (s : ByteArray) (q : Nat) (h1 : B ≤ k) (h2 : k < T) : Ins B T w (w'.iterAt k s q) :=
  h.trans ⟨rfl, rfl, rfl, by rw [Lib.iterAt_size]; exact Nat.le_refl _, fun j _ ho => Lib.iterAt_other w' k j s q (by omega)⟩
theorem Ins.below_ {B T : Nat} {w w' w'' : World} (h : Ins B T w w') (hb : Below w'.heap.size w' w'') : Ins B T w w'' :=
  h.trans ⟨hb.os, hb.tape, hb.output, hb.size, fun j hj _ => hb.block j hj⟩

end Go.Proofs.YtfdbbopanankgaaDoor
namespace Go.Proofs.YtfdbbopanankgaaDoor
open Go.RowKit
set_option maxHeartbeats 8000000
set_option maxRecDepth 100000
set_option linter.unusedVariables false

section
variable {P : Program} {ops : Array Oper} {Q : Exit → Act → World → Prop} {md : Region.Mode} {S : World → Prop}
/-- A drawn region by what holds of whatever is listed: each move may use that the rest goes on from what holds behind it. -/
theorem wpAnyZ_ind (J : Nat → Array Bool → Act → World → Prop)
    (h : ∀ fuel listed a w, (∀ l' a' w', J fuel l' a' w' → wpAnyZ P md ops Q S fuel l' a' w') → J (fuel + 1) listed a w → wpAnyZ P md ops Q S (fuel + 1) listed a w)
    (h0 : ∀ l a w, J 0 l a w → False) : ∀ fuel listed a w, J fuel listed a w → wpAnyZ P md ops Q S fuel listed a w
  | 0, l, a, w, hJ => (h0 l a w hJ).elim
  | fuel + 1, l, a, w, hJ => h fuel l a w (fun l' a' w' hJ' => wpAnyZ_ind J h h0 fuel l' a' w' hJ') hJ
end
theorem MatOwn.on_ {w w' : World} {base : Nat} {v : Value} {m : Int} {zs : List Int} (h : MatOwn w base v m zs) (hb : Below w.heap.size w w') : MatOwn w' base v m zs := by
  obtain ⟨x, e, ho, hl⟩ := h
  exact ⟨x, e, own_under ho hb, hl⟩
theorem MatOwn.base_ {w : World} {base base' : Nat} {v : Value} {m : Int} {zs : List Int} (h : MatOwn w base v m zs) (hb : base' ≤ base) : MatOwn w base' v m zs := by
  obtain ⟨x, e, ho, hl⟩ := h
  exact ⟨x, e, own_base ho hb, hl⟩
theorem own_ints_p {w : World} {base p cap : Nat} {A : Option Addr} {zs : List Int} (h : w.ownsRow base 3 1 (.slice A p cap) p (zs.map (Value.int .i64))) (hl : zs.length = p) (hm : p ≤ maxLen) : Ints w w.heap.size A zs := by
  subst hl
  obtain ⟨_, _, e, _, i⟩ := own_ints h hm
  cases e
  exact i
/-- A matrix's variable. -/
def MV0 (w : World) (lo : Nat) (v : Value) : Prop := ∃ X, v = .pointer (some ⟨X, 0, none⟩) ∧ lo ≤ X ∧ Blk w X 80 #[.int .i64 0, .slice none 0 0]
theorem MV0.below {w w' : World} {lo : Nat} {v : Value} (h : MV0 w lo v) (hb : Below w.heap.size w w') : MV0 w' lo v := by
  obtain ⟨X, e, hl, hk⟩ := h
  exact ⟨X, e, hl, blk_b hk hb⟩
theorem MV0.ne {w : World} {lo : Nat} {v : Value} (h : MV0 w lo v) : ¬ v = .pointer (some ⟨w.heap.size, 0, none⟩) := by
  obtain ⟨X, rfl, hl, hk⟩ := h
  intro e
  cases e
  have := Blk.lt hk
  omega
/-- What is known while the two matrices and their variables are made. -/
def XY (w2 : World) (n : Nat) (za zb : List Int) (b1 b3 a4 a5 : Bool) (v6 v7 v13 v15 : Value) (w : World) : Prop :=
  Hid (Below w2.heap.size w2 w) ∧ (b1 = true → MatOwn w w2.heap.size v13 n za) ∧ (b3 = true → MatOwn w w2.heap.size v15 n zb) ∧ (a4 = true → MV0 w w2.heap.size v6) ∧ (a5 = true → MV0 w w2.heap.size v7) ∧ (a4 = true → a5 = true → ¬ v6 = v7)
theorem XY.on {w2 w w' : World} {n : Nat} {za zb : List Int} {b1 b3 a4 a5 : Bool} {v6 v7 v13 v15 : Value} (h : XY w2 n za zb b1 b3 a4 a5 v6 v7 v13 v15 w) (hb : Below w.heap.size w w') : XY w2 n za zb b1 b3 a4 a5 v6 v7 v13 v15 w' :=
  ⟨below_on h.1.out hb, fun e => (h.2.1 e).on_ hb, fun e => (h.2.2.1 e).on_ hb, fun e => (h.2.2.2.1 e).below hb, fun e => (h.2.2.2.2.1 e).below hb, h.2.2.2.2.2⟩
theorem XY.m1 {w2 w : World} {n : Nat} {za zb : List Int} {b1 b3 a4 a5 : Bool} {v6 v7 v13 v15 v : Value} (h : XY w2 n za zb b1 b3 a4 a5 v6 v7 v13 v15 w) (hv : MatOwn w w2.heap.size v n za) : XY w2 n za zb true b3 a4 a5 v6 v7 v v15 w := ⟨h.1, fun _ => hv, h.2.2⟩
theorem XY.m3 {w2 w : World} {n : Nat} {za zb : List Int} {b1 b3 a4 a5 : Bool} {v6 v7 v13 v15 v : Value} (h : XY w2 n za zb b1 b3 a4 a5 v6 v7 v13 v15 w) (hv : MatOwn w w2.heap.size v n zb) : XY w2 n za zb b1 true a4 a5 v6 v7 v13 v w := ⟨h.1, h.2.1, fun _ => hv, h.2.2.2⟩
theorem XY.a4 {w2 w : World} {n : Nat} {za zb : List Int} {b1 b3 a5 : Bool} {v6 v7 v13 v15 : Value} (h : XY w2 n za zb b1 b3 false a5 v6 v7 v13 v15 w) : XY w2 n za zb b1 b3 true a5 (.pointer (some ⟨w.heap.size, 0, none⟩)) v7 v13 v15 (w.alloc (.cells #[.int .i64 0, .slice none 0 0] 80)) := by
  have h' := h.on (below_a1 w (.cells #[.int .i64 0, .slice none 0 0] 80))
  exact ⟨h'.1, h'.2.1, h'.2.2.1, fun _ => ⟨_, rfl, h.1.out.size, Blk.new _ _ _⟩, h'.2.2.2.2.1, fun _ e5 he => (h.2.2.2.2.1 e5).ne he.symm⟩
theorem XY.a5 {w2 w : World} {n : Nat} {za zb : List Int} {b1 b3 a4 : Bool} {v6 v7 v13 v15 : Value} (h : XY w2 n za zb b1 b3 a4 false v6 v7 v13 v15 w) : XY w2 n za zb b1 b3 a4 true v6 (.pointer (some ⟨w.heap.size, 0, none⟩)) v13 v15 (w.alloc (.cells #[.int .i64 0, .slice none 0 0] 80)) := by
  have h' := h.on (below_a1 w (.cells #[.int .i64 0, .slice none 0 0] 80))
  exact ⟨h'.1, h'.2.1, h'.2.2.1, h'.2.2.2.1, fun _ => ⟨_, rfl, h.1.out.size, Blk.new _ _ _⟩, fun e4 _ he => (h.2.2.2.1 e4).ne he⟩

theorem l4Matrix_any (n x1 x2 c1 c2 c3 : Nat) (A1 A2 A3 : Option Addr) (ss : List StepD) (s : ByteArray) (w : World) (n1 : 1 ≤ n) (n2 : n ≤ 4) (hs : SRow w w.heap.size A3 ss) (hok : ∀ s ∈ ss, stepOk n s = true) (hsz : s.size ≤ 1000) (hw : s.data.toList.all isAB = true) :
    Calls Tryd.prog 37 #[.agg #[.int .i64 n, .slice A1 x1 c1, .slice A2 x2 c2, .slice A3 ss.length c3], .string s] w fun e w' => ∃ v, e = .returned v ∧ MatOwn w' w.heap.size v n (prodL n ss s.data.toList) ∧ Below w.heap.size w w' := by
  obtain ⟨p, hp⟩ : ∃ p, p = n * n := ⟨_, rfl⟩
  have p1 : p ≤ 16 := by
    rw [hp]
    calc n * n ≤ 4 * 4 := Nat.mul_le_mul n2 n2
      _ = 16 := rfl
  have HP := Lib.hid hp
  have HOK := Lib.hid hok
  have HW := Lib.hid hw
  have HS := Lib.hid hs
  clear hok hw hs hp
  go_enter Tryd.func37, Tryd.ntmps37
  go_wp2_with fail
  refine (l2Unit_any n _ n1 n2).mono ?_
  rintro e w1 ⟨v1, rfl, ho1, hb1⟩
  obtain ⟨x, rfl, hox, hlx⟩ := ho1
  obtain ⟨A, cap, rfl, _, hi1⟩ := own_ints hox (by unfold maxLen; omega)
  have hul : (unitL n).length = p := by unfold unitL; rw [ofF_len, HP.out]
  rw [hul]
  rw [hul] at hox
  have P1 : Hid (Blk w1 w.heap.size 26 #[.int .i64 n, .slice A1 x1 c1, .slice A2 x2 c2, .slice A3 ss.length c3]) := ((Blk.new w _ _).alloc _).below hb1 (by simp; omega)
  have R1 : Hid (Blk w1 (w.heap.size + 1) 80 #[.int .i64 0, .slice none 0 0]) := (blk_new (by simp)).below hb1 (by simp)
  have B1 := Lib.hid (below_on (below_a2 w _ _) hb1)
  have O1 := Lib.hid (own_base hox (show w.heap.size + 1 + 1 ≤ _ by simp))
  clear hb1 hi1 hox hlx hul
  go_wp2_with fail
  obtain ⟨V, hV⟩ : ∃ V, V = w1.heap.size := ⟨_, rfl⟩
  obtain ⟨w2, hw2⟩ : ∃ w2, w2 = w1.alloc (.cells #[.int .i64 n, .slice A p cap] 80) := ⟨_, rfl⟩
  have P2 : Hid (Blk w2 w.heap.size 26 #[.int .i64 n, .slice A1 x1 c1, .slice A2 x2 c2, .slice A3 ss.length c3]) := by rw [hw2]; exact P1.out.alloc _
  have R2 : Hid (Blk w2 (w.heap.size + 1) 80 #[.int .i64 0, .slice none 0 0]) := by rw [hw2]; exact R1.out.alloc _
  have V2 : Hid (Blk w2 V 80 #[.int .i64 n, .slice A p cap]) := by rw [hw2, hV]; exact Blk.new _ _ _
  have O2 : Hid (w2.ownsRow (w.heap.size + 1 + 1) 3 1 (.slice A p cap) p ((unitL n).map (Value.int .i64))) := by rw [hw2]; exact O1.out.alloc _
  have B2 : Hid (Below w.heap.size w w2) := by rw [hw2]; exact below_al B1.out (Nat.le_refl _) _
  have hwV : w.heap.size + 1 < V := by rw [hV]; exact Blk.lt R1.out
  have hVw : V < w2.heap.size := Blk.lt V2.out
  rw [← hw2, ← hV]
  clear hw2 hV P1 R1 O1 B1
  have K : Hid (∀ w', Below w2.heap.size w2 w' → (Hid (Below w2.heap.size w2 w') ∧ w'.cell? ⟨w.heap.size, 0, none⟩ = some (.int .i64 n) ∧ w'.cell? ⟨w.heap.size, 1, none⟩ = some (.slice A1 x1 c1) ∧ w'.cell? ⟨w.heap.size, 2, none⟩ = some (.slice A2 x2 c2) ∧ w'.cell? ⟨w.heap.size, 3, none⟩ = some (.slice A3 ss.length c3))) := fun w' h => by
    have a := blk_b P2.out h
    exact ⟨h, a.cell 0, a.cell 1, a.cell 2, a.cell 3⟩
  have KS : Hid (∀ w', Below w2.heap.size w2 w' → SRow w' w'.heap.size A3 ss) := fun w' h => HS.out.on (below_on B2.out h)
  have hS0 := K.out w2.drew ((Below.refl _ _).drew)
  refine wp_region_Z (S := fun w' => Hid (Below w2.heap.size w2 w') ∧ w'.cell? ⟨w.heap.size, 0, none⟩ = some (.int .i64 n) ∧ w'.cell? ⟨w.heap.size, 1, none⟩ = some (.slice A1 x1 c1) ∧ w'.cell? ⟨w.heap.size, 2, none⟩ = some (.slice A2 x2 c2) ∧ w'.cell? ⟨w.heap.size, 3, none⟩ = some (.slice A3 ss.length c3)) (by kernel_rfl) hS0 (fun hS => ?_)
  clear hS0
  refine wpAnyZ_take (i := 0) (v := ?vm0) rfl (by kernel_rfl) (by kernel_rfl) (by kernel_rfl) (by kernel_rfl) (fun _ _ _ h => h) (Or.inl ⟨by rfl, ?ym0⟩) (by with_reducible assumption) ?rm0
  case ym0 => (intro w hSw; (try dsimp only at hSw); go_simp; (try with_reducible rfl))
  simp only [Act.put, List.setIfInBounds_toArray]
  refine wpAnyZ_take (i := 2) (v := ?vm2) rfl (by kernel_rfl) (by kernel_rfl) (by kernel_rfl) (by kernel_rfl) (fun _ _ _ h => h) (Or.inl ⟨by rfl, ?ym2⟩) (by with_reducible assumption) ?rm2
  case ym2 => (intro w hSw; (try dsimp only at hSw); go_simp; (try with_reducible rfl))
  simp only [Act.put]

  refine wpAnyZ_ind (fun fuel listed a w' => ∃ (b1 b3 a4 a5 : Bool) (v6 v7 v13 v15 : Value), listed = #[true, b1, true, b3, a4, a5, false, false] ∧ a = { tmps := #[.agg #[.int .i64 n, .slice A1 x1 c1, .slice A2 x2 c2, .slice A3 ss.length c3], .string s, .pointer (some ⟨w.heap.size, 0, none⟩), undef, .pointer (some ⟨w.heap.size + 1, 0, none⟩), .pointer (some ⟨V, 0, none⟩), v6, v7, undef, .pointer (some ⟨w.heap.size, 0, none⟩), .int .i64 n, .agg #[.int .i64 n, .slice A p cap], .agg #[.int .i64 n, .slice A1 x1 c1, .slice A2 x2 c2, .slice A3 ss.length c3], v13, .agg #[.int .i64 n, .slice A1 x1 c1, .slice A2 x2 c2, .slice A3 ss.length c3], v15, undef, undef, undef, undef, undef, undef, undef, undef, undef, undef, undef, undef, undef, undef, undef, undef, undef], defers := [] } ∧ fuel = (if b1 then 0 else 1) + (if b3 then 0 else 1) + (if a4 then 0 else 1) + (if a5 then 0 else 1) + 2 ∧ (b3 = true → b1 = true) ∧ XY w2 n (stepL n ss ⟨#[97]⟩) (stepL n ss ⟨#[98]⟩) b1 b3 a4 a5 v6 v7 v13 v15 w') ?_ ?_ _ _ _ _ ⟨false, false, false, false, undef, undef, undef, undef, rfl, rfl, rfl, fun h => h, (Below.refl _ _).drew, (fun h => by cases h), (fun h => by cases h), (fun h => by cases h), (fun h => by cases h), (fun h => by cases h)⟩
  rotate_left
  · rintro l a w' ⟨b1, b3, a4, a5, v6, v7, v13, v15, _, _, hf, _⟩
    omega
  clear hS
  rintro fuel listed a w5 ih ⟨b1, b3, a4, a5, v6, v7, v13, v15, rfl, rfl, hfu, hb31, hJ⟩
  have HIH := Lib.hid ih
  have HJ := Lib.hid hJ
  clear ih hJ
  cases b1 <;> cases b3 <;> cases a4 <;> cases a5
  · skip
    refine wpAnyZ_fork (rs := [1, 4, 5]) (by kernel_rfl) (by decide) ?_
    intro i hi
    simp only [List.mem_cons, List.not_mem_nil, or_false] at hi
    rcases hi with rfl | rfl | rfl
    · refine ⟨_, rfl, fun K1 hK1 => ?_⟩
      go_simp
      refine (l3Matrix_any n _ _ _ _ _ _ _ _ ss _ _ _ n1 n2 (KS.out _ HJ.out.1.out) HOK.out (Or.inl rfl) rfl).mono ?_
      rintro e w6 ⟨v, rfl, ho6, hb6⟩
      have hbb := below_on HJ.out.1.out hb6
      refine hK1.out _ _ (K.out _ hbb) (fun _ => ?_)
      exact HIH.out _ _ _ ⟨true, false, false, false, v6, v7, v, v15, rfl, rfl, by simp at hfu ⊢; omega, by decide, (HJ.out.on hb6).m1 (ho6.base_ HJ.out.1.out.size)⟩
    · refine ⟨_, rfl, fun K1 hK1 => ?_⟩
      go_simp
      refine hK1.out _ _ (K.out _ (below_al HJ.out.1.out (Nat.le_refl _) _)) (fun _ => ?_)
      exact HIH.out _ _ _ ⟨false, false, true, false, _, v7, v13, v15, rfl, rfl, by simp at hfu ⊢; omega, by decide, HJ.out.a4⟩
    · refine ⟨_, rfl, fun K1 hK1 => ?_⟩
      go_simp
      refine hK1.out _ _ (K.out _ (below_al HJ.out.1.out (Nat.le_refl _) _)) (fun _ => ?_)
      exact HIH.out _ _ _ ⟨false, false, false, true, v6, _, v13, v15, rfl, rfl, by simp at hfu ⊢; omega, by decide, HJ.out.a5⟩
  · skip
    refine wpAnyZ_fork (rs := [1, 4]) (by kernel_rfl) (by decide) ?_
    intro i hi
    simp only [List.mem_cons, List.not_mem_nil, or_false] at hi
    rcases hi with rfl | rfl
    · refine ⟨_, rfl, fun K1 hK1 => ?_⟩
      go_simp
      refine (l3Matrix_any n _ _ _ _ _ _ _ _ ss _ _ _ n1 n2 (KS.out _ HJ.out.1.out) HOK.out (Or.inl rfl) rfl).mono ?_
      rintro e w6 ⟨v, rfl, ho6, hb6⟩
      have hbb := below_on HJ.out.1.out hb6
      refine hK1.out _ _ (K.out _ hbb) (fun _ => ?_)
      exact HIH.out _ _ _ ⟨true, false, false, true, v6, v7, v, v15, rfl, rfl, by simp at hfu ⊢; omega, by decide, (HJ.out.on hb6).m1 (ho6.base_ HJ.out.1.out.size)⟩
    · refine ⟨_, rfl, fun K1 hK1 => ?_⟩
      go_simp
      refine hK1.out _ _ (K.out _ (below_al HJ.out.1.out (Nat.le_refl _) _)) (fun _ => ?_)
      exact HIH.out _ _ _ ⟨false, false, true, true, _, v7, v13, v15, rfl, rfl, by simp at hfu ⊢; omega, by decide, HJ.out.a4⟩
  · skip
    refine wpAnyZ_fork (rs := [1, 5]) (by kernel_rfl) (by decide) ?_
    intro i hi
    simp only [List.mem_cons, List.not_mem_nil, or_false] at hi
    rcases hi with rfl | rfl
    · refine ⟨_, rfl, fun K1 hK1 => ?_⟩
      go_simp
      refine (l3Matrix_any n _ _ _ _ _ _ _ _ ss _ _ _ n1 n2 (KS.out _ HJ.out.1.out) HOK.out (Or.inl rfl) rfl).mono ?_
      rintro e w6 ⟨v, rfl, ho6, hb6⟩
      have hbb := below_on HJ.out.1.out hb6
      refine hK1.out _ _ (K.out _ hbb) (fun _ => ?_)
      exact HIH.out _ _ _ ⟨true, false, true, false, v6, v7, v, v15, rfl, rfl, by simp at hfu ⊢; omega, by decide, (HJ.out.on hb6).m1 (ho6.base_ HJ.out.1.out.size)⟩
    · refine ⟨_, rfl, fun K1 hK1 => ?_⟩
      go_simp
      refine hK1.out _ _ (K.out _ (below_al HJ.out.1.out (Nat.le_refl _) _)) (fun _ => ?_)
      exact HIH.out _ _ _ ⟨false, false, true, true, v6, _, v13, v15, rfl, rfl, by simp at hfu ⊢; omega, by decide, HJ.out.a5⟩
  · skip
    refine wpAnyZ_step (i := 1) (by kernel_rfl) rfl ?_
    intro K1 hK1
    go_simp
    refine (l3Matrix_any n _ _ _ _ _ _ _ _ ss _ _ _ n1 n2 (KS.out _ HJ.out.1.out) HOK.out (Or.inl rfl) rfl).mono ?_
    rintro e w6 ⟨v, rfl, ho6, hb6⟩
    have hbb := below_on HJ.out.1.out hb6
    refine hK1.out _ _ (K.out _ hbb) (fun _ => ?_)
    exact HIH.out _ _ _ ⟨true, false, true, true, v6, v7, v, v15, rfl, rfl, by simp at hfu ⊢; omega, by decide, (HJ.out.on hb6).m1 (ho6.base_ HJ.out.1.out.size)⟩
  · exact absurd (hb31 rfl) (by decide)
  · exact absurd (hb31 rfl) (by decide)
  · exact absurd (hb31 rfl) (by decide)
  · exact absurd (hb31 rfl) (by decide)
  · skip
    refine wpAnyZ_fork (rs := [3, 4, 5]) (by kernel_rfl) (by decide) ?_
    intro i hi
    simp only [List.mem_cons, List.not_mem_nil, or_false] at hi
    rcases hi with rfl | rfl | rfl
    · refine ⟨_, rfl, fun K1 hK1 => ?_⟩
      go_simp
      refine (l3Matrix_any n _ _ _ _ _ _ _ _ ss _ _ _ n1 n2 (KS.out _ HJ.out.1.out) HOK.out (Or.inr rfl) rfl).mono ?_
      rintro e w6 ⟨v, rfl, ho6, hb6⟩
      have hbb := below_on HJ.out.1.out hb6
      refine hK1.out _ _ (K.out _ hbb) (fun _ => ?_)
      exact HIH.out _ _ _ ⟨true, true, false, false, v6, v7, v13, v, rfl, rfl, by simp at hfu ⊢; omega, by decide, (HJ.out.on hb6).m3 (ho6.base_ HJ.out.1.out.size)⟩
    · refine ⟨_, rfl, fun K1 hK1 => ?_⟩
      go_simp
      refine hK1.out _ _ (K.out _ (below_al HJ.out.1.out (Nat.le_refl _) _)) (fun _ => ?_)
      exact HIH.out _ _ _ ⟨true, false, true, false, _, v7, v13, v15, rfl, rfl, by simp at hfu ⊢; omega, by decide, HJ.out.a4⟩
    · refine ⟨_, rfl, fun K1 hK1 => ?_⟩
      go_simp
      refine hK1.out _ _ (K.out _ (below_al HJ.out.1.out (Nat.le_refl _) _)) (fun _ => ?_)
      exact HIH.out _ _ _ ⟨true, false, false, true, v6, _, v13, v15, rfl, rfl, by simp at hfu ⊢; omega, by decide, HJ.out.a5⟩
  · skip
    refine wpAnyZ_fork (rs := [3, 4]) (by kernel_rfl) (by decide) ?_
    intro i hi
    simp only [List.mem_cons, List.not_mem_nil, or_false] at hi
    rcases hi with rfl | rfl
    · refine ⟨_, rfl, fun K1 hK1 => ?_⟩
      go_simp
      refine (l3Matrix_any n _ _ _ _ _ _ _ _ ss _ _ _ n1 n2 (KS.out _ HJ.out.1.out) HOK.out (Or.inr rfl) rfl).mono ?_
      rintro e w6 ⟨v, rfl, ho6, hb6⟩
      have hbb := below_on HJ.out.1.out hb6
      refine hK1.out _ _ (K.out _ hbb) (fun _ => ?_)
      exact HIH.out _ _ _ ⟨true, true, false, true, v6, v7, v13, v, rfl, rfl, by simp at hfu ⊢; omega, by decide, (HJ.out.on hb6).m3 (ho6.base_ HJ.out.1.out.size)⟩
    · refine ⟨_, rfl, fun K1 hK1 => ?_⟩
      go_simp
      refine hK1.out _ _ (K.out _ (below_al HJ.out.1.out (Nat.le_refl _) _)) (fun _ => ?_)
      exact HIH.out _ _ _ ⟨true, false, true, true, _, v7, v13, v15, rfl, rfl, by simp at hfu ⊢; omega, by decide, HJ.out.a4⟩
  · skip
    refine wpAnyZ_fork (rs := [3, 5]) (by kernel_rfl) (by decide) ?_
    intro i hi
    simp only [List.mem_cons, List.not_mem_nil, or_false] at hi
    rcases hi with rfl | rfl
    · refine ⟨_, rfl, fun K1 hK1 => ?_⟩
      go_simp
      refine (l3Matrix_any n _ _ _ _ _ _ _ _ ss _ _ _ n1 n2 (KS.out _ HJ.out.1.out) HOK.out (Or.inr rfl) rfl).mono ?_
      rintro e w6 ⟨v, rfl, ho6, hb6⟩
      have hbb := below_on HJ.out.1.out hb6
      refine hK1.out _ _ (K.out _ hbb) (fun _ => ?_)
      exact HIH.out _ _ _ ⟨true, true, true, false, v6, v7, v13, v, rfl, rfl, by simp at hfu ⊢; omega, by decide, (HJ.out.on hb6).m3 (ho6.base_ HJ.out.1.out.size)⟩
    · refine ⟨_, rfl, fun K1 hK1 => ?_⟩
      go_simp
      refine hK1.out _ _ (K.out _ (below_al HJ.out.1.out (Nat.le_refl _) _)) (fun _ => ?_)
      exact HIH.out _ _ _ ⟨true, false, true, true, v6, _, v13, v15, rfl, rfl, by simp at hfu ⊢; omega, by decide, HJ.out.a5⟩
  · skip
    refine wpAnyZ_step (i := 3) (by kernel_rfl) rfl ?_
    intro K1 hK1
    go_simp
    refine (l3Matrix_any n _ _ _ _ _ _ _ _ ss _ _ _ n1 n2 (KS.out _ HJ.out.1.out) HOK.out (Or.inr rfl) rfl).mono ?_
    rintro e w6 ⟨v, rfl, ho6, hb6⟩
    have hbb := below_on HJ.out.1.out hb6
    refine hK1.out _ _ (K.out _ hbb) (fun _ => ?_)
    exact HIH.out _ _ _ ⟨true, true, true, true, v6, v7, v13, v, rfl, rfl, by simp at hfu ⊢; omega, by decide, (HJ.out.on hb6).m3 (ho6.base_ HJ.out.1.out.size)⟩
  · skip
    refine wpAnyZ_fork (rs := [4, 5]) (by kernel_rfl) (by decide) ?_
    intro i hi
    simp only [List.mem_cons, List.not_mem_nil, or_false] at hi
    rcases hi with rfl | rfl
    · refine ⟨_, rfl, fun K1 hK1 => ?_⟩
      go_simp
      refine hK1.out _ _ (K.out _ (below_al HJ.out.1.out (Nat.le_refl _) _)) (fun _ => ?_)
      exact HIH.out _ _ _ ⟨true, true, true, false, _, v7, v13, v15, rfl, rfl, by simp at hfu ⊢; omega, by decide, HJ.out.a4⟩
    · refine ⟨_, rfl, fun K1 hK1 => ?_⟩
      go_simp
      refine hK1.out _ _ (K.out _ (below_al HJ.out.1.out (Nat.le_refl _) _)) (fun _ => ?_)
      exact HIH.out _ _ _ ⟨true, true, false, true, v6, _, v13, v15, rfl, rfl, by simp at hfu ⊢; omega, by decide, HJ.out.a5⟩
  · skip
    refine wpAnyZ_step (i := 4) (by kernel_rfl) rfl ?_
    intro K1 hK1
    go_simp
    refine hK1.out _ _ (K.out _ (below_al HJ.out.1.out (Nat.le_refl _) _)) (fun _ => ?_)
    exact HIH.out _ _ _ ⟨true, true, true, true, _, v7, v13, v15, rfl, rfl, by simp at hfu ⊢; omega, by decide, HJ.out.a4⟩
  · skip
    refine wpAnyZ_step (i := 5) (by kernel_rfl) rfl ?_
    intro K1 hK1
    go_simp
    refine hK1.out _ _ (K.out _ (below_al HJ.out.1.out (Nat.le_refl _) _)) (fun _ => ?_)
    exact HIH.out _ _ _ ⟨true, true, true, true, v6, _, v13, v15, rfl, rfl, by simp at hfu ⊢; omega, by decide, HJ.out.a5⟩
  · skip
    obtain rfl : fuel = 1 := by simp at hfu; omega
    obtain ⟨hb5, h13, h15, h6, h7, hne⟩ := HJ.out
    have hza : (stepL n ss ⟨#[97]⟩).length = p := by rw [stepL_len, HP.out]
    have hzb : (stepL n ss ⟨#[98]⟩).length = p := by rw [stepL_len, HP.out]
    have HMA := Lib.hid (stepL_ok n1 n2 HOK.out ⟨#[97]⟩)
    have HMB := Lib.hid (stepL_ok n1 n2 HOK.out ⟨#[98]⟩)
    have m13 := h13 rfl
    have m15 := h15 rfl
    obtain ⟨za, eza⟩ : ∃ za, za = stepL n ss ⟨#[97]⟩ := ⟨_, rfl⟩
    obtain ⟨zb, ezb⟩ : ∃ zb, zb = stepL n ss ⟨#[98]⟩ := ⟨_, rfl⟩
    have EZA := Lib.hid eza
    have EZB := Lib.hid ezb
    rw [← eza] at hza HMA m13
    rw [← ezb] at hzb HMB m15
    obtain ⟨xa, rfl, hoa, hla⟩ := m13
    obtain ⟨xb, rfl, hob, hlb⟩ := m15
    obtain ⟨AA, capA, rfl, _, _⟩ := own_ints hoa (by unfold maxLen; omega)
    obtain ⟨AB, capB, rfl, _, _⟩ := own_ints hob (by unfold maxLen; omega)
    have HZA := Lib.hid hza
    have HZB := Lib.hid hzb
    rw [hza] at hoa ⊢
    rw [hzb] at hob ⊢
    have OA5 := Lib.hid hoa
    have OB5 := Lib.hid hob
    obtain ⟨X, rfl, hX, kX⟩ := h6 rfl
    obtain ⟨Y, rfl, hY, kY⟩ := h7 rfl
    have hXY : ¬ X = Y := fun e => hne rfl rfl (by rw [e])
    have hYX : ¬ Y = X := fun e => hXY e.symm
    have KX := Lib.hid kX
    have KY := Lib.hid kY
    clear h13 h15 h6 h7 hne hoa hob hza hzb eza ezb hla hlb kX kY HIH HJ hb31 hfu
    obtain ⟨q0, q1⟩ := two_cells KX.out
    obtain ⟨f0, f1⟩ := two_frozen KX.out
    refine wpAnyZ_step (i := 6) (by kernel_rfl) rfl ?_
    intro K1 hK1
    go_simp
    have hb6 := (hb5.out.setCell (p := ⟨X, 0, none⟩) hX (.int .i64 n)).setCell (p := ⟨X, 1, none⟩) hX (.slice AA p capA)
    refine hK1.out _ _ (K.out _ hb6) (fun _ => ?_)
    clear hK1 q0 q1 f0 f1
    have KX6 : Hid (Blk ((w5.setCell ⟨X, 0, none⟩ (.int .i64 n)).setCell ⟨X, 1, none⟩ (.slice AA p capA)) X 80 #[.int .i64 n, .slice AA p capA]) := (KX.out.set_ 0 _).set_ 1 _
    have KY6 := Lib.hid ((KY.out.other X 0 (.int .i64 n) hXY).other X 1 (.slice AA p capA) hXY)
    have OA6 := Lib.hid (own_set_g (own_set_g OA5.out KX.out (by decide) 0 (.int .i64 n)) (KX.out.set_ 0 (.int .i64 n)) (by decide) 1 (.slice AA p capA))
    have OB6 := Lib.hid (own_set_g (own_set_g OB5.out KX.out (by decide) 0 (.int .i64 n)) (KX.out.set_ 0 (.int .i64 n)) (by decide) 1 (.slice AA p capA))
    clear KX KY OA5 OB5 hb5
    generalize (w5.setCell ⟨X, 0, none⟩ (.int .i64 n)).setCell ⟨X, 1, none⟩ (.slice AA p capA) = w6 at KX6 KY6 OA6 OB6 hb6 ⊢
    obtain ⟨q0, q1⟩ := two_cells KY6.out
    obtain ⟨f0, f1⟩ := two_frozen KY6.out
    refine wpAnyZ_last (i := 7) (by kernel_rfl) rfl (by kernel_rfl) ?_
    intro R hR
    go_simp
    refine hR.out _ _ ?_
    clear hR q0 q1 f0 f1
    have hb7 := (hb6.setCell (p := ⟨Y, 0, none⟩) hY (.int .i64 n)).setCell (p := ⟨Y, 1, none⟩) hY (.slice AB p capB)
    have KY7 : Hid (Blk ((w6.setCell ⟨Y, 0, none⟩ (.int .i64 n)).setCell ⟨Y, 1, none⟩ (.slice AB p capB)) Y 80 #[.int .i64 n, .slice AB p capB]) := (KY6.out.set_ 0 _).set_ 1 _
    have KX7 := Lib.hid ((KX6.out.other Y 0 (.int .i64 n) hYX).other Y 1 (.slice AB p capB) hYX)
    have OA7 := Lib.hid (own_set_g (own_set_g OA6.out KY6.out (by decide) 0 (.int .i64 n)) (KY6.out.set_ 0 (.int .i64 n)) (by decide) 1 (.slice AB p capB))
    have OB7 := Lib.hid (own_set_g (own_set_g OB6.out KY6.out (by decide) 0 (.int .i64 n)) (KY6.out.set_ 0 (.int .i64 n)) (by decide) 1 (.slice AB p capB))
    clear KX6 KY6 OA6 OB6 hb6
    generalize (w6.setCell ⟨Y, 0, none⟩ (.int .i64 n)).setCell ⟨Y, 1, none⟩ (.slice AB p capB) = w7 at KX7 KY7 OA7 OB7 hb7 ⊢
    have B7 := Lib.hid (below_on B2.out hb7)
    have R7 := Lib.hid (blk_b R2.out hb7)
    have V7 := Lib.hid (blk_b V2.out hb7)
    have O7 : Hid (w7.ownsRow (w.heap.size + 1 + 1) 3 1 (.slice A p cap) p ((prodL n ss (s.data.toList.take 0)).map (Value.int .i64))) := own_under O2.out hb7
    have hw27 : w2.heap.size ≤ w7.heap.size := hb7.size
    clear hb7 P2 R2 V2 O2 B2 K KS
    have hlen : s.data.toList.length = s.size := (Lib.size_eq s).symm
    have HLEN := Lib.hid hlen
    clear hlen
    have KK : Hid (∀ w', w7.grownBy w' (some V) → (Ints w' w'.heap.size AA za ∧ Ints w' w'.heap.size AB zb) ∧ w'.cell? ⟨X, 0, none⟩ = some (.int .i64 n) ∧ w'.cell? ⟨X, 1, none⟩ = some (.slice AA p capA) ∧ w'.cell? ⟨Y, 0, none⟩ = some (.int .i64 n) ∧ w'.cell? ⟨Y, 1, none⟩ = some (.slice AB p capB)) := fun w' h => by
      have fa : ∀ {x : Value} {n : Nat} {xs : List Value}, w7.ownsRow w2.heap.size 3 1 x n xs → w'.ownsRow w2.heap.size 3 1 x n xs := fun {x n xs} ho => ho.kept h (by
        rcases h0 : x.ownBlock with _ | j
        · exact Or.inl rfl
        · right; intro he; cases he; have := (ho.lt V h0).1; omega)
      have i1 := own_ints_p (fa OA7.out) HZA.out (by unfold maxLen; omega)
      have i2 := own_ints_p (fa OB7.out) HZB.out (by unfold maxLen; omega)
      have kx := KX7.out.grown h (by omega)
      have ky := KY7.out.grown h (by omega)
      exact ⟨⟨i1, i2⟩, kx.cell 0, kx.cell 1, ky.cell 0, ky.cell 1⟩
    go_wp2_with fail
    go_loopw [18] (fun i wr => ∃ (k : Nat) (A' : Option Addr) (cap' : Nat), k ≤ s.size ∧ i = .int .i64 k ∧ Hid (Blk wr V 80 #[.int .i64 n, .slice A' p cap']) ∧ Hid (wr.ownsRow (w.heap.size + 1 + 1) 3 1 (.slice A' p cap') p ((prodL n ss (s.data.toList.take k)).map (Value.int .i64))) ∧ Hid (w7.grownBy wr (some V))) (fun i _ => s.size - (intOf i).toNat)
    case atStart => exact ⟨0, A, cap, Nat.zero_le _, rfl, V7, O7, World.grownBy.refl _ _⟩
    case round =>
      obtain ⟨k, A', cap', hk, rfl, hv, hown, hg⟩ := hrel
      by_cases hlt : k < s.size
      · have hk1 : (k : Int) < (s.size : Int) := by omega
        have hk0 : (0 : Int) ≤ (k : Int) := by omega
        obtain ⟨⟨ia, ib⟩, x0, x1, y0, y1⟩ := KK.out _ hg.out
        obtain ⟨v0, v1⟩ := two_cells hv.out
        have HMP := Lib.hid (prodL_ok n1 n2 HOK.out (s.data.toList.take k))
        have HPL : Hid ((prodL n ss (s.data.toList.take k)).length = p) := by show _ = _; rw [HMP.out.len, HP.out]
        have ip := own_ints_p hown.out HPL.out (by unfold maxLen; omega)
        have IA := Lib.hid ia
        have IB := Lib.hid ib
        have IP := Lib.hid ip
        obtain ⟨c, hc⟩ : ∃ c, s[k]'hlt = c := ⟨_, rfl⟩
        have hab := word_at HW.out hlt
        have HTK := Lib.hid (take_snoc_b hlt)
        rw [hc] at hab HTK
        have hwv : w.heap.size + 1 + 1 ≤ wr.heap.size := by have := Blk.lt hv.out; omega
        clear ia ib ip
        rcases isAB_cases hab with rfl | rfl
        · have e7 : (((s[k]'hlt).toNat : Int) == 97) = true := by rw [hc]; rfl
          have HN : Hid (mulL n (prodL n ss (s.data.toList.take k)) za = prodL n ss (s.data.toList.take (k + 1))) := by show _ = _; rw [HTK.out, prodL_snoc, EZA.out]; rfl
          clear hc hab
          go_wp2_with fail
          refine (l2Mul_any n p _ _ _ _ _ _ _ n1 n2 p1 HP HPL HZA HMP.out.in_ HMA.out.in_ IP.out IA.out).mono ?_
          rintro e w8 ⟨v8, rfl, ho8, hb8⟩
          rw [HN.out] at ho8
          have HPN : Hid ((prodL n ss (s.data.toList.take (k + 1))).length = p) := by show _ = _; rw [(prodL_ok n1 n2 HOK.out (s.data.toList.take (k + 1))).len, HP.out]
          obtain ⟨x8, rfl, hox8, hlx8⟩ := ho8
          obtain ⟨A8, cap8, rfl, _, _⟩ := own_ints hox8 (by unfold maxLen; omega)
          rw [HPN.out] at hox8 ⊢
          have V8 := Lib.hid (blk_b hv.out hb8)
          have O8 := Lib.hid (own_base hox8 hwv)
          have G8 : Hid (w7.grownBy w8 (some V)) := grow_trans hg.out (grow_of_below hb8 (some V))
          clear hb8 hox8 hlx8 v0 v1 x0 x1 y0 y1 hv hown hg
          obtain ⟨v0, v1⟩ := two_cells V8.out
          obtain ⟨f0, f1⟩ := two_frozen V8.out
          have V9 : Hid (Blk ((w8.setCell ⟨V, 0, none⟩ (.int .i64 n)).setCell ⟨V, 1, none⟩ (.slice A8 p cap8)) V 80 #[.int .i64 n, .slice A8 p cap8]) := (V8.out.set_ 0 _).set_ 1 _
          have O9 := Lib.hid (own_set_g (own_set_g O8.out V8.out (by decide) 0 (.int .i64 n)) (V8.out.set_ 0 (.int .i64 n)) (by decide) 1 (.slice A8 p cap8))
          have G9 := Lib.hid (grow_trans (grow_trans G8.out (grow_set w8 V 0 (.int .i64 n))) (grow_set _ V 1 (.slice A8 p cap8)))
          go_wp2_with fail
          go_roundw
          case rel => exact ⟨k + 1, A8, cap8, by omega, by go_num, V9, O9, G9⟩
          case measure => simp [intOf]; omega
        · have e7 : (((s[k]'hlt).toNat : Int) == 97) = false := by rw [hc]; rfl
          have HN : Hid (mulL n (prodL n ss (s.data.toList.take k)) zb = prodL n ss (s.data.toList.take (k + 1))) := by show _ = _; rw [HTK.out, prodL_snoc, EZB.out]; rfl
          clear hc hab
          go_wp2_with fail
          refine (l2Mul_any n p _ _ _ _ _ _ _ n1 n2 p1 HP HPL HZB HMP.out.in_ HMB.out.in_ IP.out IB.out).mono ?_
          rintro e w8 ⟨v8, rfl, ho8, hb8⟩
          rw [HN.out] at ho8
          have HPN : Hid ((prodL n ss (s.data.toList.take (k + 1))).length = p) := by show _ = _; rw [(prodL_ok n1 n2 HOK.out (s.data.toList.take (k + 1))).len, HP.out]
          obtain ⟨x8, rfl, hox8, hlx8⟩ := ho8
          obtain ⟨A8, cap8, rfl, _, _⟩ := own_ints hox8 (by unfold maxLen; omega)
          rw [HPN.out] at hox8 ⊢
          have V8 := Lib.hid (blk_b hv.out hb8)
          have O8 := Lib.hid (own_base hox8 hwv)
          have G8 : Hid (w7.grownBy w8 (some V)) := grow_trans hg.out (grow_of_below hb8 (some V))
          clear hb8 hox8 hlx8 v0 v1 x0 x1 y0 y1 hv hown hg
          obtain ⟨v0, v1⟩ := two_cells V8.out
          obtain ⟨f0, f1⟩ := two_frozen V8.out
          have V9 : Hid (Blk ((w8.setCell ⟨V, 0, none⟩ (.int .i64 n)).setCell ⟨V, 1, none⟩ (.slice A8 p cap8)) V 80 #[.int .i64 n, .slice A8 p cap8]) := (V8.out.set_ 0 _).set_ 1 _
          have O9 := Lib.hid (own_set_g (own_set_g O8.out V8.out (by decide) 0 (.int .i64 n)) (V8.out.set_ 0 (.int .i64 n)) (by decide) 1 (.slice A8 p cap8))
          have G9 := Lib.hid (grow_trans (grow_trans G8.out (grow_set w8 V 0 (.int .i64 n))) (grow_set _ V 1 (.slice A8 p cap8)))
          go_wp2_with fail
          go_roundw
          case rel => exact ⟨k + 1, A8, cap8, by omega, by go_num, V9, O9, G9⟩
          case measure => simp [intOf]; omega
      · have hk1 : ¬ (k : Int) < (s.size : Int) := by omega
        have HN : Hid (prodL n ss (s.data.toList.take k) = prodL n ss s.data.toList) := by show _ = _; rw [List.take_of_length_le (by have := HLEN.out; omega)]
        have hown2 := hown.out
        rw [HN.out] at hown2
        have RR := Lib.hid (R7.out.grown hg.out (by omega))
        have HB := Lib.hid (B7.out.grown hg.out B7.out.size (fun j hj => by cases hj; omega))
        have HO := Lib.hid hown2
        have HML := Lib.hid (prodL_ok n1 n2 HOK.out s.data.toList)
        have HPL : Hid ((prodL n ss s.data.toList).length = p) := by show _ = _; rw [HML.out.len, HP.out]
        obtain ⟨a0, a1⟩ := two_cells hv.out
        obtain ⟨d0, d1⟩ := two_cells RR.out
        obtain ⟨f0, f1⟩ := two_frozen RR.out
        clear hv hown hown2 hg
        go_wp2_with fail
        have HF := mat_fin_n (w := w) (m := (n : Int)) HPL.out RR.out HO.out (by omega) (by omega) HB.out (by have := HPL.out; omega)
        refine bodyPost_ret (results_1 rfl (gives_mat (g := w.heap.size + 1) rfl HF.1)) rfl ?_
        exact ⟨_, rfl, HF.2.1, HF.2.2⟩
end Go.Proofs.YtfdbbopanankgaaDoor
namespace Go.Proofs.YtfdbbopanankgaaDoor
open Go.RowKit
set_option maxHeartbeats 4000000
set_option maxRecDepth 100000
set_option linter.unusedVariables false

def wordR (m : Int) (xs ys : List Int) (ss : List StepD) (l : ByteArray) : Option (Int × List Int) := if autoOk m xs ys ss = true ∧ wordOk l = true then some (m, prodL m.toNat ss l.data.toList) else none
theorem wordR_some {n : Nat} {xs ys : List Int} {ss : List StepD} {l : ByteArray} (h : autoOk n xs ys ss = true) (hl : wordOk l = true) : wordR n xs ys ss l = some ((n : Int), prodL n ss l.data.toList) := by
  unfold wordR; rw [if_pos ⟨h, hl⟩]; rfl
theorem wordR_none {m : Int} {xs ys : List Int} {ss : List StepD} {l : ByteArray} (h : (autoOk m xs ys ss && wordOk l) = false) : wordR m xs ys ss l = none := by
  unfold wordR; rw [if_neg (by rintro ⟨h1, h2⟩; rw [h1, h2] at h; cases h)]
theorem wordOk_in {l : ByteArray} (h : wordOk l = true) : l.size ≤ 1000 ∧ l.data.toList.all isAB = true := by
  unfold wordOk at h
  rw [Bool.and_eq_true, decide_eq_true_eq] at h
  exact h

end Go.Proofs.YtfdbbopanankgaaDoor
