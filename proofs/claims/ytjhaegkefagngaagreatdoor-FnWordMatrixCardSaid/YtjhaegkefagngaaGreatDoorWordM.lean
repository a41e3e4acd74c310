/- The product of the matrices of a word's letters, the program's: in new memory; nothing that was there changes. Conditions: one to four states, steps between them, a word. The product of the matrices of a word's letters, the model's: in new memory; nothing that was there changes. Conditions: one to four states, steps between them, a word. WordMatrix, the program's and the model's: the product of the letters' matrices, in new memory; nothing that was there changes. Condition: the text is no longer than a length. -/
import Derived.Test.YtjhaegkefagngaaGreatDoorPathT
import Derived.Test.YtjhaegkefagngaaGreatDoorSq7
import Derived.Test.YtjhaegkefagngaaGreatDoorMarkA
import Derived.Lib.OthersKept
import Derived.Test.YtjhaegkefagngaaGreatDoorSpecMul
import Derived.Test.YtjhaegkefagngaaGreatDoorLastOp
import Derived.Test.YtjhaegkefagngaaGreatDoorToC
import Derived.Test.YtjhaegkefagngaaGreatDoorReader
import Derived.Test.YtjhaegkefagngaaGreatDoorStepM
namespace Go.Proofs.YtjhaegkefagngaaGreatDoor
open Go.RowKit
set_option maxHeartbeats 4000000
set_option maxRecDepth 100000
set_option linter.unusedVariables false

theorem CMap.same {w w' : World} {M n : Nat} {F : Int → ByteArray → Int → Option Int} (h : CMap w M n F) (he : w'.heap[M]? = w.heap[M]?) : CMap w' M n F := by
  obtain ⟨D, ⟨es, c, h1, h2⟩, h3⟩ := h
  exact ⟨D, ⟨es, c, he.trans h1, h2⟩, h3⟩
theorem word_at {s : ByteArray} (h : s.data.toList.all isAB = true) {k : Nat} (hk : k < s.size) : isAB (s[k]'hk) = true := by
  have hl : k < s.data.toList.length := by rw [← Lib.size_eq]; exact hk
  exact List.all_eq_true.1 h _ (List.getElem_mem (l := s.data.toList) hl)
theorem take_snoc_b {s : ByteArray} {k : Nat} (hk : k < s.size) : s.data.toList.take (k + 1) = s.data.toList.take k ++ [s[k]'hk] := by
  have hl : k < s.data.toList.length := by rw [← Lib.size_eq]; exact hk
  rw [List.take_succ_eq_append_getElem hl]; rfl
theorem conv_ltr {b : UInt8} (h : isAB b = true) (w : World) : (convert 21 9 (.int .i32 (b.toNat : Int))).run Tryz.prog w = .ok (.string (ltr b)) w := by
  rcases isAB_cases h with rfl | rfl <;> kernel_rfl
theorem ab_small {b : UInt8} (h : isAB b = true) : b.toNat < 128 := by
  rcases isAB_cases h with rfl | rfl <;> decide
theorem sq_mv {n p : Nat} {zs : List Int} (h : MV n zs) (hp : p = n * n) : (zs.length = p) ∧ ∀ q, q < p → 0 ≤ zs.getD q 0 ∧ zs.getD q 0 ≤ 1000000 := ⟨by rw [h.len, hp], fun q hq => by
  have hl : q < zs.length := by rw [h.len, ← hp]; exact hq
  rw [List.getD_eq_getElem?_getD, List.getElem?_eq_getElem hl]
  exact vld_t (List.all_eq_true.1 h.all _ (List.getElem_mem hl))⟩
theorem Blk.trans_ {w w' : World} {j : Nat} {t : TypeId} {cs : Array Value} (he : w'.heap[j]? = w.heap[j]?) (h : Blk w j t cs) : Blk w' j t cs := he.trans h
def six (w : World) (g : Nat) (v0 v1 v2 v3 v4 v5 : Value) : World := (((((w.setCell ⟨g, 0, none⟩ v0).setCell ⟨g, 1, none⟩ v1).setCell ⟨g, 2, none⟩ v2).setCell ⟨g, 3, none⟩ v3).setCell ⟨g, 4, none⟩ v4).setCell ⟨g, 5, none⟩ v5
theorem six_grow (w : World) (g : Nat) (v0 v1 v2 v3 v4 v5 : Value) : w.grownBy (six w g v0 v1 v2 v3 v4 v5) (some g) := by
  unfold six
  exact grow_trans (grow_trans (grow_trans (grow_trans (grow_trans (grow_set _ g 0 v0) (grow_set _ g 1 v1)) (grow_set _ g 2 v2)) (grow_set _ g 3 v3)) (grow_set _ g 4 v4)) (grow_set _ g 5 v5)
theorem six_blk {w : World} {g : Nat} {t : TypeId} {u0 u1 u2 u3 u4 u5 : Value} (h : Blk w g t #[u0, u1, u2, u3, u4, u5]) (v0 v1 v2 v3 v4 v5 : Value) : Blk (six w g v0 v1 v2 v3 v4 v5) g t #[v0, v1, v2, v3, v4, v5] := by
  unfold six
  have h0 : Blk _ g t #[v0, u1, u2, u3, u4, u5] := h.set_ 0 v0
  have h1 : Blk _ g t #[v0, v1, u2, u3, u4, u5] := h0.set_ 1 v1
  have h2 : Blk _ g t #[v0, v1, v2, u3, u4, u5] := h1.set_ 2 v2
  have h3 : Blk _ g t #[v0, v1, v2, v3, u4, u5] := h2.set_ 3 v3
  have h4 : Blk _ g t #[v0, v1, v2, v3, v4, u5] := h3.set_ 4 v4
  exact h4.set_ 5 v5
theorem Ins.iter {B T k : Nat} {w w' : World} (h : Ins B T w w') (s : ByteArray) (q : Nat) (h1 : B ≤ k) (h2 : k < T) : Ins B T w (w'.iterAt k s q) :=
  h.trans ⟨rfl, rfl, rfl, by rw [Lib.iterAt_size]; exact Nat.le_refl _, fun j _ ho => Lib.iterAt_other w' k j s q (by omega)⟩
theorem Ins.below_ {B T : Nat} {w w' w'' : World} (h : Ins B T w w') (hb : Below w'.heap.size w' w'') : Ins B T w w'' :=
  h.trans ⟨hb.os, hb.tape, hb.output, hb.size, fun j hj _ => hb.block j hj⟩

theorem product_any (n p M cnt : Nat) (b0 b1 b2 b3 b4 b5 b6 b7 : Bool) (ss : List StepD) (s : ByteArray) (w : World) (n1 : 1 ≤ n) (n2 : n ≤ 4) (hp : p = n * n) (hok : ∀ s ∈ ss, stepOk n s = true) (hs : s.size ≤ 1000) (hw : s.data.toList.all isAB = true) (hM : CMap w M cnt (costAt ss)) :
    Calls Tryz.prog 23 #[.agg #[.int .i64 n, .bool b0, .bool b1, .bool b2, .bool b3, .bool b4, .bool b5, .bool b6, .bool b7, .map (some M)], .string s] w fun e w' => ∃ g, e = .returned (sqV n (.slice (some ⟨g, 0, none⟩) p p)) ∧ Below w.heap.size w w' ∧ w.heap.size ≤ g ∧ Sq w' g (prodL n ss s.data.toList) := by
  have p1 : p ≤ 16 := by
    rw [hp]
    calc n * n ≤ 4 * 4 := Nat.mul_le_mul n2 n2
      _ = 16 := rfl
  have HP := Lib.hid hp
  have HOK := Lib.hid hok
  have HW := Lib.hid hw
  have MM := Lib.hid hM
  have hMw := hM.lt
  clear hp hok hw hM
  go_enter Tryz.func23, Tryz.ntmps23
  go_wp2_with fail
  refine (costRing_any _).mono ?_
  rintro e w1 ⟨rfl, hb1⟩
  obtain ⟨A, hA⟩ : ∃ A, A = w.heap.size := ⟨_, rfl⟩
  have B1 := Lib.hid (below_on (below_a2 w (.cells #[.int .i64 n, .bool b0, .bool b1, .bool b2, .bool b3, .bool b4, .bool b5, .bool b6, .bool b7, .map (some M)] 52) (.cells #[.nilFunc, .int .i64 0, .nilFunc, .int .i64 0, .int .i64 0, .slice none 0 0] 61)) hb1)
  have A1 : Hid (Blk w1 w.heap.size 52 #[.int .i64 n, .bool b0, .bool b1, .bool b2, .bool b3, .bool b4, .bool b5, .bool b6, .bool b7, .map (some M)]) := ((Blk.new w _ _).alloc _).below hb1 (by simp; omega)
  have R1 : Hid (Blk w1 (w.heap.size + 1) 61 #[.nilFunc, .int .i64 0, .nilFunc, .int .i64 0, .int .i64 0, .slice none 0 0]) := (blk_new (by simp)).below hb1 (by simp)
  have hw1 := Blk.lt R1.out
  have hw0 : w.heap.size < w1.heap.size := by omega
  have a0 := A1.out.cell 0
  simp at a0
  unfold ringV
  clear hb1
  go_wp2_with fail
  refine (unitSquare_any n p _ n1 n2 HP p1).mono ?_
  rintro e w2 ⟨g2, rfl, hb2, hg2, hq2⟩
  have B2 := Lib.hid (below_on (below_al B1.out (Nat.le_refl _) (.cells #[.func (.func 65) #[] #[], .int .i64 0, .func (.func 66) #[] #[], .int .i64 1000000] 58)) hb2)
  have A2 := Lib.hid (blk_b (A1.out.alloc (.cells #[.func (.func 65) #[] #[], .int .i64 0, .func (.func 66) #[] #[], .int .i64 1000000] 58)) hb2)
  have R2 := Lib.hid (blk_b (R1.out.alloc (.cells #[.func (.func 65) #[] #[], .int .i64 0, .func (.func 66) #[] #[], .int .i64 1000000] 58)) hb2)
  have G2 := Lib.hid (blk_b (Blk.new w1 58 #[.func (.func 65) #[] #[], .int .i64 0, .func (.func 66) #[] #[], .int .i64 1000000]) hb2)
  have Q2 := Lib.hid hq2
  obtain ⟨GB, hGB⟩ : ∃ G, G = w1.heap.size := ⟨_, rfl⟩
  rw [← hGB] at G2 ⊢
  have hg2w := Blk.lt hq2
  have hg20 : w.heap.size + 1 < g2 := by simp at hg2; omega
  unfold sqV
  clear hb2 hq2 hg2 a0 hGB A1 R1 B1
  go_wp2_with fail
  obtain ⟨V, hV⟩ : ∃ V, V = w2.heap.size := ⟨_, rfl⟩
  obtain ⟨I, hI⟩ : ∃ I, I = w2.heap.size + 1 := ⟨_, rfl⟩
  obtain ⟨w3, hw3⟩ : ∃ w3, w3 = (w2.alloc (.cells #[.func (.func 65) #[] #[], .int .i64 0, .func (.func 66) #[] #[], .int .i64 1000000, .int .i64 n, .slice (some ⟨g2, 0, none⟩) p p] 61)).iter s 0 := ⟨_, rfl⟩
  have A3 : Hid (Blk w3 w.heap.size 52 #[.int .i64 n, .bool b0, .bool b1, .bool b2, .bool b3, .bool b4, .bool b5, .bool b6, .bool b7, .map (some M)]) := by rw [hw3]; exact (A2.out.alloc _).alloc _
  have R3 : Hid (Blk w3 (w.heap.size + 1) 61 #[.nilFunc, .int .i64 0, .nilFunc, .int .i64 0, .int .i64 0, .slice none 0 0]) := by rw [hw3]; exact (R2.out.alloc _).alloc _
  have G3 : Hid (Blk w3 GB 58 #[.func (.func 65) #[] #[], .int .i64 0, .func (.func 66) #[] #[], .int .i64 1000000]) := by rw [hw3]; exact (G2.out.alloc _).alloc _
  have V3 : Hid (Blk w3 V 61 #[.func (.func 65) #[] #[], .int .i64 0, .func (.func 66) #[] #[], .int .i64 1000000, .int .i64 n, .slice (some ⟨g2, 0, none⟩) p p]) := by rw [hw3, hV]; exact (Blk.new _ _ _).alloc _
  have Q3 : Hid (Sq w3 g2 (unitL n)) := by rw [hw3]; exact Blk.alloc (Blk.alloc Q2.out _) _
  have I3 : Hid (w3.heap[I]? = some (.stringIter s 0)) := by
    show _ = _
    rw [hw3, hI]
    have h := heap_alloc_new (w2.alloc (.cells #[.func (.func 65) #[] #[], .int .i64 0, .func (.func 66) #[] #[], .int .i64 1000000, .int .i64 n, .slice (some ⟨g2, 0, none⟩) p p] 61)) (.stringIter s 0)
    rw [World.size_alloc] at h
    exact h
  have B3 : Hid (Below w.heap.size w w3) := by rw [hw3]; exact below_al (below_al B2.out (Nat.le_refl _) _) (Nat.le_refl _) _
  have MM3 : Hid (CMap w3 M cnt (costAt ss)) := MM.out.below B3.out
  have hw3s : V + 2 ≤ w3.heap.size := by rw [hw3, hV]; simp [World.iter]
  have hIV1 : V < I := by omega
  have hIV2 : I < V + 2 := by omega
  have hGBV : GB < V := by have := Blk.lt G2.out; omega
  have hgV : g2 < V := by omega
  have hwV : w.heap.size + 1 < V := by have := Blk.lt R2.out; omega
  rw [← hw3, ← hI, ← hV]
  clear hw3 hV hI A2 R2 G2 Q2 B2 hg2w MM hw1 hw0
  go_loopw [8] (fun _ wr => ∃ (k g : Nat), k ≤ s.size ∧ (g < V ∨ I < g) ∧ w.heap.size + 1 < g ∧ Hid (wr.heap[I]? = some (.stringIter s k)) ∧ Hid (Blk wr V 61 #[.func (.func 65) #[] #[], .int .i64 0, .func (.func 66) #[] #[], .int .i64 1000000, .int .i64 n, .slice (some ⟨g, 0, none⟩) p p]) ∧ Hid (Sq wr g (prodL n ss (s.data.toList.take k))) ∧ Hid (Ins V (I + 1) w3 wr)) (fun _ wr => s.size - wr.iterPos I)
  case atStart => exact ⟨0, g2, Nat.zero_le _, Or.inl hgV, hg20, I3, V3, Q3, rfl, rfl, rfl, Nat.le_refl _, fun _ _ _ => rfl⟩
  case round =>
    obtain ⟨k, g, hk, hgo, hgw, hit, hv, hq, hins⟩ := hrel
    have hmu : wr.iterPos I = k := by simp [World.iterPos, hit.out]
    have HMU := Lib.hid hmu
    clear hmu
    by_cases hlt : k < s.size
    · obtain ⟨c, hc⟩ : ∃ c, s[k]'hlt = c := ⟨_, rfl⟩
      have hab := word_at HW.out hlt
      have hsm := ab_small hab
      have hnx := fun ty => Lib.run_next_ascii_at (P := Tryz.prog) wr I s k ty hit.out hlt hsm
      rw [hc] at hab hnx
      have hcv := conv_ltr hab
      have HTK := Lib.hid (take_snoc_b hlt)
      rw [hc] at HTK
      have HAB := Lib.hid hab
      have V1 := Lib.hid (Blk.trans_ (Lib.iterAt_other wr I V s (k + 1) (by omega)) hv.out)
      have Q1 : Hid (Sq (wr.iterAt I s (k + 1)) g (prodL n ss (s.data.toList.take k))) := Blk.trans_ (Lib.iterAt_other wr I g s (k + 1) (by omega)) hq.out
      have J1 := Lib.hid (hins.out.iter (k := I) s (k + 1) (by omega) (by omega))
      have I1 := Lib.hid (Lib.iterAt_heap wr I s k (k + 1) hit.out)
      clear hit hv hq hins hsm hc hab
      generalize wr.iterAt I s (k + 1) = W1 at hnx V1 Q1 J1 I1
      have A1 := Lib.hid (J1.out.blk A3.out (Or.inl (by omega)))
      have G1 := Lib.hid (J1.out.blk G3.out (Or.inl hGBV))
      have M1 := Lib.hid (MM3.out.same (J1.out.2.2.2.2 M (by omega) (Or.inl (by omega))))
      have K : Hid (∀ w', Below W1.heap.size W1 w' → (Hid (Below W1.heap.size W1 w') ∧ w'.cell? ⟨V, 0, none⟩ = some (.func (.func 65) #[] #[]) ∧ w'.cell? ⟨V, 1, none⟩ = some (.int .i64 0) ∧ w'.cell? ⟨V, 2, none⟩ = some (.func (.func 66) #[] #[]) ∧ w'.cell? ⟨V, 3, none⟩ = some (.int .i64 1000000) ∧ w'.cell? ⟨V, 4, none⟩ = some (.int .i64 n) ∧ w'.cell? ⟨V, 5, none⟩ = some (.slice (some ⟨g, 0, none⟩) p p) ∧ w'.cell? ⟨GB, 0, none⟩ = some (.func (.func 65) #[] #[]) ∧ w'.cell? ⟨GB, 1, none⟩ = some (.int .i64 0) ∧ w'.cell? ⟨GB, 2, none⟩ = some (.func (.func 66) #[] #[]) ∧ w'.cell? ⟨GB, 3, none⟩ = some (.int .i64 1000000) ∧ w'.cell? ⟨w.heap.size, 0, none⟩ = some (.int .i64 n) ∧ w'.cell? ⟨w.heap.size, 1, none⟩ = some (.bool b0) ∧ w'.cell? ⟨w.heap.size, 2, none⟩ = some (.bool b1) ∧ w'.cell? ⟨w.heap.size, 3, none⟩ = some (.bool b2) ∧ w'.cell? ⟨w.heap.size, 4, none⟩ = some (.bool b3) ∧ w'.cell? ⟨w.heap.size, 5, none⟩ = some (.bool b4) ∧ w'.cell? ⟨w.heap.size, 6, none⟩ = some (.bool b5) ∧ w'.cell? ⟨w.heap.size, 7, none⟩ = some (.bool b6) ∧ w'.cell? ⟨w.heap.size, 8, none⟩ = some (.bool b7) ∧ w'.cell? ⟨w.heap.size, 9, none⟩ = some (.map (some M)))) := fun w' h => by
        have v := blk_b V1.out h
        have a := blk_b A1.out h
        have r := blk_b G1.out h
        exact ⟨h, v.cell 0, v.cell 1, v.cell 2, v.cell 3, v.cell 4, v.cell 5, r.cell 0, r.cell 1, r.cell 2, r.cell 3, a.cell 0, a.cell 1, a.cell 2, a.cell 3, a.cell 4, a.cell 5, a.cell 6, a.cell 7, a.cell 8, a.cell 9⟩
      have hS0 := K.out W1.drew ((Below.refl _ _).drew)
      go_wp2_with fail
      refine wp_region_Z (S := fun w' => Hid (Below W1.heap.size W1 w') ∧ w'.cell? ⟨V, 0, none⟩ = some (.func (.func 65) #[] #[]) ∧ w'.cell? ⟨V, 1, none⟩ = some (.int .i64 0) ∧ w'.cell? ⟨V, 2, none⟩ = some (.func (.func 66) #[] #[]) ∧ w'.cell? ⟨V, 3, none⟩ = some (.int .i64 1000000) ∧ w'.cell? ⟨V, 4, none⟩ = some (.int .i64 n) ∧ w'.cell? ⟨V, 5, none⟩ = some (.slice (some ⟨g, 0, none⟩) p p) ∧ w'.cell? ⟨GB, 0, none⟩ = some (.func (.func 65) #[] #[]) ∧ w'.cell? ⟨GB, 1, none⟩ = some (.int .i64 0) ∧ w'.cell? ⟨GB, 2, none⟩ = some (.func (.func 66) #[] #[]) ∧ w'.cell? ⟨GB, 3, none⟩ = some (.int .i64 1000000) ∧ w'.cell? ⟨w.heap.size, 0, none⟩ = some (.int .i64 n) ∧ w'.cell? ⟨w.heap.size, 1, none⟩ = some (.bool b0) ∧ w'.cell? ⟨w.heap.size, 2, none⟩ = some (.bool b1) ∧ w'.cell? ⟨w.heap.size, 3, none⟩ = some (.bool b2) ∧ w'.cell? ⟨w.heap.size, 4, none⟩ = some (.bool b3) ∧ w'.cell? ⟨w.heap.size, 5, none⟩ = some (.bool b4) ∧ w'.cell? ⟨w.heap.size, 6, none⟩ = some (.bool b5) ∧ w'.cell? ⟨w.heap.size, 7, none⟩ = some (.bool b6) ∧ w'.cell? ⟨w.heap.size, 8, none⟩ = some (.bool b7) ∧ w'.cell? ⟨w.heap.size, 9, none⟩ = some (.map (some M))) (by kernel_rfl) hS0 (fun hS => ?_)
      clear hS0
      refine wpAnyZ_take (i := 1) (v := ?vp1) rfl (by kernel_rfl) (by kernel_rfl) (by kernel_rfl) (by kernel_rfl) (fun _ _ _ h => h) (Or.inl ⟨by rfl, ?yp1⟩) (by with_reducible assumption) ?rp1
      case yp1 => (intro w hSw; (try dsimp only at hSw); go_simp; (try with_reducible rfl))
      simp only [Act.put, List.setIfInBounds_toArray]
      refine wpAnyZ_take (i := 2) (v := ?vp2) rfl (by kernel_rfl) (by kernel_rfl) (by kernel_rfl) (by kernel_rfl) (fun _ _ _ h => h) (Or.inl ⟨by rfl, ?yp2⟩) (by with_reducible assumption) ?rp2
      case yp2 => (intro w hSw; (try dsimp only at hSw); go_simp; (try with_reducible rfl))
      simp only [Act.put]
      refine wpAnyZ_take (i := 3) (v := ?vp3) rfl (by kernel_rfl) (by kernel_rfl) (by kernel_rfl) (by kernel_rfl) (fun _ _ _ h => h) (Or.inl ⟨by rfl, ?yp3⟩) (by with_reducible assumption) ?rp3
      case yp3 => (intro w hSw; (try dsimp only at hSw); go_simp; (try with_reducible rfl))
      simp only [Act.put]
      refine wpAnyZ_take (i := 4) (v := ?vp4) rfl (by kernel_rfl) (by kernel_rfl) (by kernel_rfl) (by kernel_rfl) (fun _ _ _ h => h) (Or.inl ⟨by rfl, ?yp4⟩) (by with_reducible assumption) ?rp4
      case yp4 => (intro w hSw; (try dsimp only at hSw); go_simp; (try with_reducible rfl))
      simp only [Act.put]
      refine wpAnyZ_take (i := 0) (v := ?vp0) rfl (by kernel_rfl) (by kernel_rfl) (by kernel_rfl) (by kernel_rfl) (fun _ _ _ h => h) (Or.inl ⟨by rfl, ?yp0⟩) (by with_reducible assumption) ?rp0
      case yp0 => (intro w hSw; (try dsimp only at hSw); go_simp; (try with_reducible rfl))
      simp only [Act.put]
      refine wpAnyZ_step (i := 5) (by kernel_rfl) rfl ?_
      intro K1 hK1
      go_simp
      refine (matrixI_any n M cnt _ _ _ _ _ _ _ _ _ (ltr c) (stepL n ss (ltr c)) _ n1 n2 (by unfold maxLen; show 1 ≤ _; omega) rfl (M1.out.below ((Below.refl _ _).drew))).mono ?_
      rintro e w4 ⟨v4, rfl, ho4, hb4⟩
      obtain ⟨zs, hzs⟩ : ∃ zs, zs = stepL n ss (ltr c) := ⟨_, rfl⟩
      have HMZ := Lib.hid (stepL_ok n1 n2 HOK.out (ltr c))
      rw [← hzs] at ho4 HMZ
      have HZS := Lib.hid hzs
      obtain ⟨x4, rfl, hox4, hlx4⟩ := ho4
      obtain ⟨A4, cap4, rfl, _, hi4⟩ := own_ints hox4 (by unfold maxLen; omega)
      obtain ⟨hzl, hzb⟩ := sq_mv HMZ.out HP.out
      have HZL := Lib.hid hzl
      have HZB := Lib.hid hzb
      rw [hzl]
      have hbw4 := below_on ((Below.refl _ _).drew) hb4
      have hS4 := K.out _ hbw4
      refine hK1.out _ _ hS4 (fun hS1 => ?_)
      clear hK1 hS4 hS hox4 hlx4 hzs hzl hzb
      refine wpAnyZ_step (i := 6) (by kernel_rfl) rfl ?_
      intro K2 hK2
      go_simp
      refine (squareOf_any n p cap4 A4 zs _ n1 n2 HP.out HZL.out hi4).mono ?_
      rintro e w5 ⟨g5, rfl, hb5, hg5, hq5⟩
      have hbw5 := below_on hbw4 hb5
      have hS5 := K.out _ hbw5
      refine hK2.out _ _ hS5 (fun hS2 => ?_)
      clear hK2 hS5 hS1 hi4
      refine wpAnyZ_step (i := 7) (by kernel_rfl) rfl ?_
      intro K3 hK3
      go_simp
      have HMP := Lib.hid (prodL_ok n1 n2 HOK.out (s.data.toList.take k))
      obtain ⟨hpl, hpb⟩ := sq_mv HMP.out HP.out
      refine (times_any n p g g5 (prodL n ss (s.data.toList.take k)) zs _ n1 n2 HP hpl HZL p1 hpb HZB (blk_b Q1.out hbw5) hq5).mono ?_
      rintro e w6 ⟨g6, rfl, hb6, hg6, hq6⟩
      have hbw6 := below_on hbw5 hb6
      have hS6 := K.out _ hbw6
      unfold sqV
      refine hK3.out _ _ hS6 (fun hS3 => ?_)
      clear hK3 hS6 hS2 hq5
      have V6 := Lib.hid (blk_b V1.out hbw6)
      have I6 := Lib.hid ((hbw6.block I (Array.getElem?_eq_some_iff.1 I1.out).1).trans I1.out)
      have J6 := Lib.hid (J1.out.below_ hbw6)
      have Q6 := Lib.hid hq6
      have hVg : ¬ V = g6 := by have := Blk.lt V1.out; have := hbw5.size; omega
      have hIg : I < g6 := by have := (Array.getElem?_eq_some_iff.1 I1.out).1; have := hbw5.size; omega
      have HQN : Hid (mulL n (prodL n ss (s.data.toList.take k)) zs = prodL n ss (s.data.toList.take (k + 1))) := by
        show _ = _
        rw [HTK.out, prodL_snoc, ← HZS.out]
      obtain ⟨q0, q1, q2, q3, q4, q5⟩ := six_cells V6.out
      obtain ⟨f0, f1, f2, f3, f4, f5⟩ := six_frozen V6.out
      refine wpAnyZ_last (i := 8) (by kernel_rfl) rfl (by kernel_rfl) ?_
      intro R hR
      go_simp
      refine hR.out _ _ ?_
      clear hR q0 q1 q2 q3 q4 q5 f0 f1 f2 f3 f4 f5 hS3 hq6 hpl hpb
      have VN := Lib.hid (six_blk V6.out (.func (.func 65) #[] #[]) (.int .i64 0) (.func (.func 66) #[] #[]) (.int .i64 1000000) (.int .i64 n) (.slice (some ⟨g6, 0, none⟩) p p))
      have GN := six_grow w6 V (.func (.func 65) #[] #[]) (.int .i64 0) (.func (.func 66) #[] #[]) (.int .i64 1000000) (.int .i64 n) (.slice (some ⟨g6, 0, none⟩) p p)
      have I7 := Lib.hid ((GN.block I (Array.getElem?_eq_some_iff.1 I6.out).1 (by intro e; cases e; omega)).trans I6.out)
      have Q7 : Hid (Sq (six w6 V (.func (.func 65) #[] #[]) (.int .i64 0) (.func (.func 66) #[] #[]) (.int .i64 1000000) (.int .i64 n) (.slice (some ⟨g6, 0, none⟩) p p)) g6 (prodL n ss (s.data.toList.take (k + 1)))) := by
        rw [← HQN.out]
        exact Blk.trans_ (GN.block g6 (Blk.lt Q6.out) (by intro e; cases e; omega)) Q6.out
      have J7 := Lib.hid (J6.out.trans (Ins.of_grow GN (fun j e => by cases e; omega)))
      have hm7 : (six w6 V (.func (.func 65) #[] #[]) (.int .i64 0) (.func (.func 66) #[] #[]) (.int .i64 1000000) (.int .i64 n) (.slice (some ⟨g6, 0, none⟩) p p)).iterPos I = k + 1 := by simp [World.iterPos, I7.out]
      clear GN hb4 hb5 hb6 hbw4 hbw5 hbw6
      go_wp2_with fail
      go_roundw
      case rel => exact ⟨k + 1, g6, by omega, Or.inr hIg, by omega, I7, VN, Q7, J7⟩
      case measure =>
        have hm8 := hm7
        unfold six at hm8
        rw [hm8, HMU.out]; omega
    · have hkl : k = s.size := by omega
      have hnx := fun ty => Lib.run_next_end_at (P := Tryz.prog) wr I s k ty hit.out hlt
      have HQ : Hid (Sq wr g (prodL n ss s.data.toList)) := by
        have h := hq.out
        rw [List.take_of_length_le (by rw [← Lib.size_eq]; omega)] at h
        exact h
      have R7 := Lib.hid (hins.out.blk R3.out (Or.inl (by omega)))
      have B7 := Lib.hid (hins.out.below B3.out (by omega) B3.out.size)
      clear hkl hit hins hq
      obtain ⟨q0, q1, q2, q3, q4, q5⟩ := six_cells hv.out
      obtain ⟨d0, d1, d2, d3, d4, d5⟩ := six_cells R7.out
      obtain ⟨f0, f1, f2, f3, f4, f5⟩ := six_frozen R7.out
      go_wp2_with fail
      have HF := six_blk R7.out (.func (.func 65) #[] #[]) (.int .i64 0) (.func (.func 66) #[] #[]) (.int .i64 1000000) (.int .i64 n) (.slice (some ⟨g, 0, none⟩) p p)
      have HG := six_grow wr (w.heap.size + 1) (.func (.func 65) #[] #[]) (.int .i64 0) (.func (.func 66) #[] #[]) (.int .i64 1000000) (.int .i64 n) (.slice (some ⟨g, 0, none⟩) p p)
      refine bodyPost_ret (results_1 rfl (gives_sq (g := w.heap.size + 1) rfl HF)) rfl ?_
      refine ⟨g, rfl, B7.out.grown HG B7.out.size (fun j hj => by cases hj; omega), ?_, ?_⟩
      · omega
      · exact Blk.trans_ (HG.block g (Blk.lt HQ.out) (by intro e; cases e; omega)) HQ.out
end Go.Proofs.YtjhaegkefagngaaGreatDoor
namespace Go.Proofs.YtjhaegkefagngaaGreatDoor
open Go.RowKit
set_option maxHeartbeats 8000000
set_option maxRecDepth 100000
set_option linter.unusedVariables false

section
variable {P : Program} {ops : Array Oper} {Q : Exit → Act → World → Prop} {md : Region.Mode} {S : World → Prop}
/-- A drawn region by what holds of whatever is listed: each move may use that the rest goes on from what holds behind it. -/
theorem wpAnyZ_ind (J : Nat → Array Bool → Act → World → Prop)
    (h : ∀ fuel listed a w, (∀ l' a' w', J fuel l' a' w' → wpAnyZ P md ops Q S fuel l' a' w') → J (fuel + 1) listed a w → wpAnyZ P md ops Q S (fuel + 1) listed a w)
    (h0 : ∀ l a w, J 0 l a w → False) : ∀ fuel listed a w, J fuel listed a w → wpAnyZ P md ops Q S fuel listed a w
  | 0, l, a, w, hJ => (h0 l a w hJ).elim
  | fuel + 1, l, a, w, hJ => h fuel l a w (fun l' a' w' hJ' => wpAnyZ_ind J h h0 fuel l' a' w' hJ') hJ
end
theorem MatOwn.on_ {w w' : World} {base : Nat} {v : Value} {m : Int} {zs : List Int} (h : MatOwn w base v m zs) (hb : Below w.heap.size w w') : MatOwn w' base v m zs := by
  obtain ⟨x, e, ho, hl⟩ := h
  exact ⟨x, e, own_under ho hb, hl⟩
theorem MatOwn.base_ {w : World} {base base' : Nat} {v : Value} {m : Int} {zs : List Int} (h : MatOwn w base v m zs) (hb : base' ≤ base) : MatOwn w base' v m zs := by
  obtain ⟨x, e, ho, hl⟩ := h
  exact ⟨x, e, own_base ho hb, hl⟩
theorem own_ints_p {w : World} {base p cap : Nat} {A : Option Addr} {zs : List Int} (h : w.ownsRow base 3 1 (.slice A p cap) p (zs.map (Value.int .i64))) (hl : zs.length = p) (hm : p ≤ maxLen) : Ints w w.heap.size A zs := by
  subst hl
  obtain ⟨_, _, e, _, i⟩ := own_ints h hm
  cases e
  exact i
/-- A matrix's variable. -/
def MV0 (w : World) (lo : Nat) (v : Value) : Prop := ∃ X, v = .pointer (some ⟨X, 0, none⟩) ∧ lo ≤ X ∧ Blk w X 30 #[.int .i64 0, .slice none 0 0]
theorem MV0.below {w w' : World} {lo : Nat} {v : Value} (h : MV0 w lo v) (hb : Below w.heap.size w w') : MV0 w' lo v := by
  obtain ⟨X, e, hl, hk⟩ := h
  exact ⟨X, e, hl, blk_b hk hb⟩
theorem MV0.ne {w : World} {lo : Nat} {v : Value} (h : MV0 w lo v) : ¬ v = .pointer (some ⟨w.heap.size, 0, none⟩) := by
  obtain ⟨X, rfl, hl, hk⟩ := h
  intro e
  cases e
  have := Blk.lt hk
  omega
/-- What is known while the two matrices and their variables are made. -/
def XY (w2 : World) (n : Nat) (za zb : List Int) (b1 b3 a4 a5 : Bool) (v6 v7 v13 v15 : Value) (w : World) : Prop :=
  Hid (Below w2.heap.size w2 w) ∧ (b1 = true → MatOwn w w2.heap.size v13 n za) ∧ (b3 = true → MatOwn w w2.heap.size v15 n zb) ∧ (a4 = true → MV0 w w2.heap.size v6) ∧ (a5 = true → MV0 w w2.heap.size v7) ∧ (a4 = true → a5 = true → ¬ v6 = v7)
theorem XY.on {w2 w w' : World} {n : Nat} {za zb : List Int} {b1 b3 a4 a5 : Bool} {v6 v7 v13 v15 : Value} (h : XY w2 n za zb b1 b3 a4 a5 v6 v7 v13 v15 w) (hb : Below w.heap.size w w') : XY w2 n za zb b1 b3 a4 a5 v6 v7 v13 v15 w' :=
  ⟨below_on h.1.out hb, fun e => (h.2.1 e).on_ hb, fun e => (h.2.2.1 e).on_ hb, fun e => (h.2.2.2.1 e).below hb, fun e => (h.2.2.2.2.1 e).below hb, h.2.2.2.2.2⟩
theorem XY.m1 {w2 w : World} {n : Nat} {za zb : List Int} {b1 b3 a4 a5 : Bool} {v6 v7 v13 v15 v : Value} (h : XY w2 n za zb b1 b3 a4 a5 v6 v7 v13 v15 w) (hv : MatOwn w w2.heap.size v n za) : XY w2 n za zb true b3 a4 a5 v6 v7 v v15 w := ⟨h.1, fun _ => hv, h.2.2⟩
theorem XY.m3 {w2 w : World} {n : Nat} {za zb : List Int} {b1 b3 a4 a5 : Bool} {v6 v7 v13 v15 v : Value} (h : XY w2 n za zb b1 b3 a4 a5 v6 v7 v13 v15 w) (hv : MatOwn w w2.heap.size v n zb) : XY w2 n za zb b1 true a4 a5 v6 v7 v13 v w := ⟨h.1, h.2.1, fun _ => hv, h.2.2.2⟩
theorem XY.a4 {w2 w : World} {n : Nat} {za zb : List Int} {b1 b3 a5 : Bool} {v6 v7 v13 v15 : Value} (h : XY w2 n za zb b1 b3 false a5 v6 v7 v13 v15 w) : XY w2 n za zb b1 b3 true a5 (.pointer (some ⟨w.heap.size, 0, none⟩)) v7 v13 v15 (w.alloc (.cells #[.int .i64 0, .slice none 0 0] 30)) := by
  have h' := h.on (below_a1 w (.cells #[.int .i64 0, .slice none 0 0] 30))
  exact ⟨h'.1, h'.2.1, h'.2.2.1, fun _ => ⟨_, rfl, h.1.out.size, Blk.new _ _ _⟩, h'.2.2.2.2.1, fun _ e5 he => (h.2.2.2.2.1 e5).ne he.symm⟩
theorem XY.a5 {w2 w : World} {n : Nat} {za zb : List Int} {b1 b3 a4 : Bool} {v6 v7 v13 v15 : Value} (h : XY w2 n za zb b1 b3 a4 false v6 v7 v13 v15 w) : XY w2 n za zb b1 b3 a4 true v6 (.pointer (some ⟨w.heap.size, 0, none⟩)) v13 v15 (w.alloc (.cells #[.int .i64 0, .slice none 0 0] 30)) := by
  have h' := h.on (below_a1 w (.cells #[.int .i64 0, .slice none 0 0] 30))
  exact ⟨h'.1, h'.2.1, h'.2.2.1, h'.2.2.2.1, fun _ => ⟨_, rfl, h.1.out.size, Blk.new _ _ _⟩, fun e4 _ he => (h.2.2.2.1 e4).ne he⟩

theorem l4Matrix_any (n x1 x2 c1 c2 c3 : Nat) (A1 A2 A3 : Option Addr) (ss : List StepD) (s : ByteArray) (w : World) (n1 : 1 ≤ n) (n2 : n ≤ 4) (hs : SRow w w.heap.size A3 ss) (hok : ∀ s ∈ ss, stepOk n s = true) (hsz : s.size ≤ 1000) (hw : s.data.toList.all isAB = true) :
    Calls Tryz.prog 26 #[.agg #[.int .i64 n, .slice A1 x1 c1, .slice A2 x2 c2, .slice A3 ss.length c3], .string s] w fun e w' => ∃ v, e = .returned v ∧ MatOwn w' w.heap.size v n (prodL n ss s.data.toList) ∧ Below w.heap.size w w' := by
  obtain ⟨p, hp⟩ : ∃ p, p = n * n := ⟨_, rfl⟩
  have p1 : p ≤ 16 := by
    rw [hp]
    calc n * n ≤ 4 * 4 := Nat.mul_le_mul n2 n2
      _ = 16 := rfl
  have HP := Lib.hid hp
  have HOK := Lib.hid hok
  have HW := Lib.hid hw
  have HS := Lib.hid hs
  clear hok hw hs hp
  go_enter Tryz.func26, Tryz.ntmps26
  go_wp2_with fail
  refine (l2Unit_any n _ n1 n2).mono ?_
  rintro e w1 ⟨v1, rfl, ho1, hb1⟩
  obtain ⟨x, rfl, hox, hlx⟩ := ho1
  obtain ⟨A, cap, rfl, _, hi1⟩ := own_ints hox (by unfold maxLen; omega)
  have hul : (unitL n).length = p := by unfold unitL; rw [ofF_len, HP.out]
  rw [hul]
  rw [hul] at hox
  have P1 : Hid (Blk w1 w.heap.size 26 #[.int .i64 n, .slice A1 x1 c1, .slice A2 x2 c2, .slice A3 ss.length c3]) := ((Blk.new w _ _).alloc _).below hb1 (by simp; omega)
  have R1 : Hid (Blk w1 (w.heap.size + 1) 30 #[.int .i64 0, .slice none 0 0]) := (blk_new (by simp)).below hb1 (by simp)
  have B1 := Lib.hid (below_on (below_a2 w _ _) hb1)
  have O1 := Lib.hid (own_base hox (show w.heap.size + 1 + 1 ≤ _ by simp))
  clear hb1 hi1 hox hlx hul
  go_wp2_with fail
  obtain ⟨V, hV⟩ : ∃ V, V = w1.heap.size := ⟨_, rfl⟩
  obtain ⟨w2, hw2⟩ : ∃ w2, w2 = w1.alloc (.cells #[.int .i64 n, .slice A p cap] 30) := ⟨_, rfl⟩
  have P2 : Hid (Blk w2 w.heap.size 26 #[.int .i64 n, .slice A1 x1 c1, .slice A2 x2 c2, .slice A3 ss.length c3]) := by rw [hw2]; exact P1.out.alloc _
  have R2 : Hid (Blk w2 (w.heap.size + 1) 30 #[.int .i64 0, .slice none 0 0]) := by rw [hw2]; exact R1.out.alloc _
  have V2 : Hid (Blk w2 V 30 #[.int .i64 n, .slice A p cap]) := by rw [hw2, hV]; exact Blk.new _ _ _
  have O2 : Hid (w2.ownsRow (w.heap.size + 1 + 1) 3 1 (.slice A p cap) p ((unitL n).map (Value.int .i64))) := by rw [hw2]; exact O1.out.alloc _
  have B2 : Hid (Below w.heap.size w w2) := by rw [hw2]; exact below_al B1.out (Nat.le_refl _) _
  have hwV : w.heap.size + 1 < V := by rw [hV]; exact Blk.lt R1.out
  have hVw : V < w2.heap.size := Blk.lt V2.out
  rw [← hw2, ← hV]
  clear hw2 hV P1 R1 O1 B1
  have K : Hid (∀ w', Below w2.heap.size w2 w' → (Hid (Below w2.heap.size w2 w') ∧ w'.cell? ⟨w.heap.size, 0, none⟩ = some (.int .i64 n) ∧ w'.cell? ⟨w.heap.size, 1, none⟩ = some (.slice A1 x1 c1) ∧ w'.cell? ⟨w.heap.size, 2, none⟩ = some (.slice A2 x2 c2) ∧ w'.cell? ⟨w.heap.size, 3, none⟩ = some (.slice A3 ss.length c3))) := fun w' h => by
    have a := blk_b P2.out h
    exact ⟨h, a.cell 0, a.cell 1, a.cell 2, a.cell 3⟩
  have KS : Hid (∀ w', Below w2.heap.size w2 w' → SRow w' w'.heap.size A3 ss) := fun w' h => HS.out.on (below_on B2.out h)
  have hS0 := K.out w2.drew ((Below.refl _ _).drew)
  refine wp_region_Z (S := fun w' => Hid (Below w2.heap.size w2 w') ∧ w'.cell? ⟨w.heap.size, 0, none⟩ = some (.int .i64 n) ∧ w'.cell? ⟨w.heap.size, 1, none⟩ = some (.slice A1 x1 c1) ∧ w'.cell? ⟨w.heap.size, 2, none⟩ = some (.slice A2 x2 c2) ∧ w'.cell? ⟨w.heap.size, 3, none⟩ = some (.slice A3 ss.length c3)) (by kernel_rfl) hS0 (fun hS => ?_)
  clear hS0
  refine wpAnyZ_take (i := 0) (v := ?vm0) rfl (by kernel_rfl) (by kernel_rfl) (by kernel_rfl) (by kernel_rfl) (fun _ _ _ h => h) (Or.inl ⟨by rfl, ?ym0⟩) (by with_reducible assumption) ?rm0
  case ym0 => (intro w hSw; (try dsimp only at hSw); go_simp; (try with_reducible rfl))
  simp only [Act.put, List.setIfInBounds_toArray]
  refine wpAnyZ_take (i := 2) (v := ?vm2) rfl (by kernel_rfl) (by kernel_rfl) (by kernel_rfl) (by kernel_rfl) (fun _ _ _ h => h) (Or.inl ⟨by rfl, ?ym2⟩) (by with_reducible assumption) ?rm2
  case ym2 => (intro w hSw; (try dsimp only at hSw); go_simp; (try with_reducible rfl))
  simp only [Act.put]

  refine wpAnyZ_ind (fun fuel listed a w' => ∃ (b1 b3 a4 a5 : Bool) (v6 v7 v13 v15 : Value), listed = #[true, b1, true, b3, a4, a5, false, false] ∧ a = { tmps := #[.agg #[.int .i64 n, .slice A1 x1 c1, .slice A2 x2 c2, .slice A3 ss.length c3], .string s, .pointer (some ⟨w.heap.size, 0, none⟩), undef, .pointer (some ⟨w.heap.size + 1, 0, none⟩), .pointer (some ⟨V, 0, none⟩), v6, v7, undef, .pointer (some ⟨w.heap.size, 0, none⟩), .int .i64 n, .agg #[.int .i64 n, .slice A p cap], .agg #[.int .i64 n, .slice A1 x1 c1, .slice A2 x2 c2, .slice A3 ss.length c3], v13, .agg #[.int .i64 n, .slice A1 x1 c1, .slice A2 x2 c2, .slice A3 ss.length c3], v15, undef, undef, undef, undef, undef, undef, undef, undef, undef, undef, undef, undef, undef, undef, undef, undef, undef], defers := [] } ∧ fuel = (if b1 then 0 else 1) + (if b3 then 0 else 1) + (if a4 then 0 else 1) + (if a5 then 0 else 1) + 2 ∧ (b3 = true → b1 = true) ∧ XY w2 n (stepL n ss ⟨#[97]⟩) (stepL n ss ⟨#[98]⟩) b1 b3 a4 a5 v6 v7 v13 v15 w') ?_ ?_ _ _ _ _ ⟨false, false, false, false, undef, undef, undef, undef, rfl, rfl, rfl, fun h => h, (Below.refl _ _).drew, (fun h => by cases h), (fun h => by cases h), (fun h => by cases h), (fun h => by cases h), (fun h => by cases h)⟩
  rotate_left
  · rintro l a w' ⟨b1, b3, a4, a5, v6, v7, v13, v15, _, _, hf, _⟩
    omega
  clear hS
  rintro fuel listed a w5 ih ⟨b1, b3, a4, a5, v6, v7, v13, v15, rfl, rfl, hfu, hb31, hJ⟩
  have HIH := Lib.hid ih
  have HJ := Lib.hid hJ
  clear ih hJ
  cases b1 <;> cases b3 <;> cases a4 <;> cases a5
  · skip
    refine wpAnyZ_fork (rs := [1, 4, 5]) (by kernel_rfl) (by decide) ?_
    intro i hi
    simp only [List.mem_cons, List.not_mem_nil, or_false] at hi
    rcases hi with rfl | rfl | rfl
    · refine ⟨_, rfl, fun K1 hK1 => ?_⟩
      go_simp
      refine (l3Matrix_any n _ _ _ _ _ _ _ _ ss _ _ _ n1 n2 (KS.out _ HJ.out.1.out) HOK.out (Or.inl rfl) rfl).mono ?_
      rintro e w6 ⟨v, rfl, ho6, hb6⟩
      have hbb := below_on HJ.out.1.out hb6
      refine hK1.out _ _ (K.out _ hbb) (fun _ => ?_)
      exact HIH.out _ _ _ ⟨true, false, false, false, v6, v7, v, v15, rfl, rfl, by simp at hfu ⊢; omega, by decide, (HJ.out.on hb6).m1 (ho6.base_ HJ.out.1.out.size)⟩
    · refine ⟨_, rfl, fun K1 hK1 => ?_⟩
      go_simp
      refine hK1.out _ _ (K.out _ (below_al HJ.out.1.out (Nat.le_refl _) _)) (fun _ => ?_)
      exact HIH.out _ _ _ ⟨false, false, true, false, _, v7, v13, v15, rfl, rfl, by simp at hfu ⊢; omega, by decide, HJ.out.a4⟩
    · refine ⟨_, rfl, fun K1 hK1 => ?_⟩
      go_simp
      refine hK1.out _ _ (K.out _ (below_al HJ.out.1.out (Nat.le_refl _) _)) (fun _ => ?_)
      exact HIH.out _ _ _ ⟨false, false, false, true, v6, _, v13, v15, rfl, rfl, by simp at hfu ⊢; omega, by decide, HJ.out.a5⟩
  · skip
    refine wpAnyZ_fork (rs := [1, 4]) (by kernel_rfl) (by decide) ?_
    intro i hi
    simp only [List.mem_cons, List.not_mem_nil, or_false] at hi
    rcases hi with rfl | rfl
    · refine ⟨_, rfl, fun K1 hK1 => ?_⟩
      go_simp
      refine (l3Matrix_any n _ _ _ _ _ _ _ _ ss _ _ _ n1 n2 (KS.out _ HJ.out.1.out) HOK.out (Or.inl rfl) rfl).mono ?_
      rintro e w6 ⟨v, rfl, ho6, hb6⟩
      have hbb := below_on HJ.out.1.out hb6
      refine hK1.out _ _ (K.out _ hbb) (fun _ => ?_)
      exact HIH.out _ _ _ ⟨true, false, false, true, v6, v7, v, v15, rfl, rfl, by simp at hfu ⊢; omega, by decide, (HJ.out.on hb6).m1 (ho6.base_ HJ.out.1.out.size)⟩
    · refine ⟨_, rfl, fun K1 hK1 => ?_⟩
      go_simp
      refine hK1.out _ _ (K.out _ (below_al HJ.out.1.out (Nat.le_refl _) _)) (fun _ => ?_)
      exact HIH.out _ _ _ ⟨false, false, true, true, _, v7, v13, v15, rfl, rfl, by simp at hfu ⊢; omega, by decide, HJ.out.a4⟩
  · skip
    refine wpAnyZ_fork (rs := [1, 5]) (by kernel_rfl) (by decide) ?_
    intro i hi
    simp only [List.mem_cons, List.not_mem_nil, or_false] at hi
    rcases hi with rfl | rfl
    · refine ⟨_, rfl, fun K1 hK1 => ?_⟩
      go_simp
      refine (l3Matrix_any n _ _ _ _ _ _ _ _ ss _ _ _ n1 n2 (KS.out _ HJ.out.1.out) HOK.out (Or.inl rfl) rfl).mono ?_
      rintro e w6 ⟨v, rfl, ho6, hb6⟩
      have hbb := below_on HJ.out.1.out hb6
      refine hK1.out _ _ (K.out _ hbb) (fun _ => ?_)
      exact HIH.out _ _ _ ⟨true, false, true, false, v6, v7, v, v15, rfl, rfl, by simp at hfu ⊢; omega, by decide, (HJ.out.on hb6).m1 (ho6.base_ HJ.out.1.out.size)⟩
    · refine ⟨_, rfl, fun K1 hK1 => ?_⟩
      go_simp
      refine hK1.out _ _ (K.out _ (below_al HJ.out.1.out (Nat.le_refl _) _)) (fun _ => ?_)
      exact HIH.out _ _ _ ⟨false, false, true, true, v6, _, v13, v15, rfl, rfl, by simp at hfu ⊢; omega, by decide, HJ.out.a5⟩
  · skip
    refine wpAnyZ_step (i := 1) (by kernel_rfl) rfl ?_
    intro K1 hK1
    go_simp
    refine (l3Matrix_any n _ _ _ _ _ _ _ _ ss _ _ _ n1 n2 (KS.out _ HJ.out.1.out) HOK.out (Or.inl rfl) rfl).mono ?_
    rintro e w6 ⟨v, rfl, ho6, hb6⟩
    have hbb := below_on HJ.out.1.out hb6
    refine hK1.out _ _ (K.out _ hbb) (fun _ => ?_)
    exact HIH.out _ _ _ ⟨true, false, true, true, v6, v7, v, v15, rfl, rfl, by simp at hfu ⊢; omega, by decide, (HJ.out.on hb6).m1 (ho6.base_ HJ.out.1.out.size)⟩
  · exact absurd (hb31 rfl) (by decide)
  · exact absurd (hb31 rfl) (by decide)
  · exact absurd (hb31 rfl) (by decide)
  · exact absurd (hb31 rfl) (by decide)
  · skip
    refine wpAnyZ_fork (rs := [3, 4, 5]) (by kernel_rfl) (by decide) ?_
    intro i hi
    simp only [List.mem_cons, List.not_mem_nil, or_false] at hi
    rcases hi with rfl | rfl | rfl
    · refine ⟨_, rfl, fun K1 hK1 => ?_⟩
      go_simp
      refine (l3Matrix_any n _ _ _ _ _ _ _ _ ss _ _ _ n1 n2 (KS.out _ HJ.out.1.out) HOK.out (Or.inr rfl) rfl).mono ?_
      rintro e w6 ⟨v, rfl, ho6, hb6⟩
      have hbb := below_on HJ.out.1.out hb6
      refine hK1.out _ _ (K.out _ hbb) (fun _ => ?_)
      exact HIH.out _ _ _ ⟨true, true, false, false, v6, v7, v13, v, rfl, rfl, by simp at hfu ⊢; omega, by decide, (HJ.out.on hb6).m3 (ho6.base_ HJ.out.1.out.size)⟩
    · refine ⟨_, rfl, fun K1 hK1 => ?_⟩
      go_simp
      refine hK1.out _ _ (K.out _ (below_al HJ.out.1.out (Nat.le_refl _) _)) (fun _ => ?_)
      exact HIH.out _ _ _ ⟨true, false, true, false, _, v7, v13, v15, rfl, rfl, by simp at hfu ⊢; omega, by decide, HJ.out.a4⟩
    · refine ⟨_, rfl, fun K1 hK1 => ?_⟩
      go_simp
      refine hK1.out _ _ (K.out _ (below_al HJ.out.1.out (Nat.le_refl _) _)) (fun _ => ?_)
      exact HIH.out _ _ _ ⟨true, false, false, true, v6, _, v13, v15, rfl, rfl, by simp at hfu ⊢; omega, by decide, HJ.out.a5⟩
  · skip
    refine wpAnyZ_fork (rs := [3, 4]) (by kernel_rfl) (by decide) ?_
    intro i hi
    simp only [List.mem_cons, List.not_mem_nil, or_false] at hi
    rcases hi with rfl | rfl
    · refine ⟨_, rfl, fun K1 hK1 => ?_⟩
      go_simp
      refine (l3Matrix_any n _ _ _ _ _ _ _ _ ss _ _ _ n1 n2 (KS.out _ HJ.out.1.out) HOK.out (Or.inr rfl) rfl).mono ?_
      rintro e w6 ⟨v, rfl, ho6, hb6⟩
      have hbb := below_on HJ.out.1.out hb6
      refine hK1.out _ _ (K.out _ hbb) (fun _ => ?_)
      exact HIH.out _ _ _ ⟨true, true, false, true, v6, v7, v13, v, rfl, rfl, by simp at hfu ⊢; omega, by decide, (HJ.out.on hb6).m3 (ho6.base_ HJ.out.1.out.size)⟩
    · refine ⟨_, rfl, fun K1 hK1 => ?_⟩
      go_simp
      refine hK1.out _ _ (K.out _ (below_al HJ.out.1.out (Nat.le_refl _) _)) (fun _ => ?_)
      exact HIH.out _ _ _ ⟨true, false, true, true, _, v7, v13, v15, rfl, rfl, by simp at hfu ⊢; omega, by decide, HJ.out.a4⟩
  · skip
    refine wpAnyZ_fork (rs := [3, 5]) (by kernel_rfl) (by decide) ?_
    intro i hi
    simp only [List.mem_cons, List.not_mem_nil, or_false] at hi
    rcases hi with rfl | rfl
    · refine ⟨_, rfl, fun K1 hK1 => ?_⟩
      go_simp
      refine (l3Matrix_any n _ _ _ _ _ _ _ _ ss _ _ _ n1 n2 (KS.out _ HJ.out.1.out) HOK.out (Or.inr rfl) rfl).mono ?_
      rintro e w6 ⟨v, rfl, ho6, hb6⟩
      have hbb := below_on HJ.out.1.out hb6
      refine hK1.out _ _ (K.out _ hbb) (fun _ => ?_)
      exact HIH.out _ _ _ ⟨true, true, true, false, v6, v7, v13, v, rfl, rfl, by simp at hfu ⊢; omega, by decide, (HJ.out.on hb6).m3 (ho6.base_ HJ.out.1.out.size)⟩
    · refine ⟨_, rfl, fun K1 hK1 => ?_⟩
      go_simp
      refine hK1.out _ _ (K.out _ (below_al HJ.out.1.out (Nat.le_refl _) _)) (fun _ => ?_)
      exact HIH.out _ _ _ ⟨true, false, true, true, v6, _, v13, v15, rfl, rfl, by simp at hfu ⊢; omega, by decide, HJ.out.a5⟩
  · skip
    refine wpAnyZ_step (i := 3) (by kernel_rfl) rfl ?_
    intro K1 hK1
    go_simp
    refine (l3Matrix_any n _ _ _ _ _ _ _ _ ss _ _ _ n1 n2 (KS.out _ HJ.out.1.out) HOK.out (Or.inr rfl) rfl).mono ?_
    rintro e w6 ⟨v, rfl, ho6, hb6⟩
    have hbb := below_on HJ.out.1.out hb6
    refine hK1.out _ _ (K.out _ hbb) (fun _ => ?_)
    exact HIH.out _ _ _ ⟨true, true, true, true, v6, v7, v13, v, rfl, rfl, by simp at hfu ⊢; omega, by decide, (HJ.out.on hb6).m3 (ho6.base_ HJ.out.1.out.size)⟩
  · skip
    refine wpAnyZ_fork (rs := [4, 5]) (by kernel_rfl) (by decide) ?_
    intro i hi
    simp only [List.mem_cons, List.not_mem_nil, or_false] at hi
    rcases hi with rfl | rfl
    · refine ⟨_, rfl, fun K1 hK1 => ?_⟩
      go_simp
      refine hK1.out _ _ (K.out _ (below_al HJ.out.1.out (Nat.le_refl _) _)) (fun _ => ?_)
      exact HIH.out _ _ _ ⟨true, true, true, false, _, v7, v13, v15, rfl, rfl, by simp at hfu ⊢; omega, by decide, HJ.out.a4⟩
    · refine ⟨_, rfl, fun K1 hK1 => ?_⟩
      go_simp
      refine hK1.out _ _ (K.out _ (below_al HJ.out.1.out (Nat.le_refl _) _)) (fun _ => ?_)
      exact HIH.out _ _ _ ⟨true, true, false, true, v6, _, v13, v15, rfl, rfl, by simp at hfu ⊢; omega, by decide, HJ.out.a5⟩
  · skip
    refine wpAnyZ_step (i := 4) (by kernel_rfl) rfl ?_
    intro K1 hK1
    go_simp
    refine hK1.out _ _ (K.out _ (below_al HJ.out.1.out (Nat.le_refl _) _)) (fun _ => ?_)
    exact HIH.out _ _ _ ⟨true, true, true, true, _, v7, v13, v15, rfl, rfl, by simp at hfu ⊢; omega, by decide, HJ.out.a4⟩
  · skip
    refine wpAnyZ_step (i := 5) (by kernel_rfl) rfl ?_
    intro K1 hK1
    go_simp
    refine hK1.out _ _ (K.out _ (below_al HJ.out.1.out (Nat.le_refl _) _)) (fun _ => ?_)
    exact HIH.out _ _ _ ⟨true, true, true, true, v6, _, v13, v15, rfl, rfl, by simp at hfu ⊢; omega, by decide, HJ.out.a5⟩
  · skip
    obtain rfl : fuel = 1 := by simp at hfu; omega
    obtain ⟨hb5, h13, h15, h6, h7, hne⟩ := HJ.out
    have hza : (stepL n ss ⟨#[97]⟩).length = p := by rw [stepL_len, HP.out]
    have hzb : (stepL n ss ⟨#[98]⟩).length = p := by rw [stepL_len, HP.out]
    have HMA := Lib.hid (stepL_ok n1 n2 HOK.out ⟨#[97]⟩)
    have HMB := Lib.hid (stepL_ok n1 n2 HOK.out ⟨#[98]⟩)
    have m13 := h13 rfl
    have m15 := h15 rfl
    obtain ⟨za, eza⟩ : ∃ za, za = stepL n ss ⟨#[97]⟩ := ⟨_, rfl⟩
    obtain ⟨zb, ezb⟩ : ∃ zb, zb = stepL n ss ⟨#[98]⟩ := ⟨_, rfl⟩
    have EZA := Lib.hid eza
    have EZB := Lib.hid ezb
    rw [← eza] at hza HMA m13
    rw [← ezb] at hzb HMB m15
    obtain ⟨xa, rfl, hoa, hla⟩ := m13
    obtain ⟨xb, rfl, hob, hlb⟩ := m15
    obtain ⟨AA, capA, rfl, _, _⟩ := own_ints hoa (by unfold maxLen; omega)
    obtain ⟨AB, capB, rfl, _, _⟩ := own_ints hob (by unfold maxLen; omega)
    have HZA := Lib.hid hza
    have HZB := Lib.hid hzb
    rw [hza] at hoa ⊢
    rw [hzb] at hob ⊢
    have OA5 := Lib.hid hoa
    have OB5 := Lib.hid hob
    obtain ⟨X, rfl, hX, kX⟩ := h6 rfl
    obtain ⟨Y, rfl, hY, kY⟩ := h7 rfl
    have hXY : ¬ X = Y := fun e => hne rfl rfl (by rw [e])
    have hYX : ¬ Y = X := fun e => hXY e.symm
    have KX := Lib.hid kX
    have KY := Lib.hid kY
    clear h13 h15 h6 h7 hne hoa hob hza hzb eza ezb hla hlb kX kY HIH HJ hb31 hfu
    obtain ⟨q0, q1⟩ := two_cells KX.out
    obtain ⟨f0, f1⟩ := two_frozen KX.out
    refine wpAnyZ_step (i := 6) (by kernel_rfl) rfl ?_
    intro K1 hK1
    go_simp
    have hb6 := (hb5.out.setCell (p := ⟨X, 0, none⟩) hX (.int .i64 n)).setCell (p := ⟨X, 1, none⟩) hX (.slice AA p capA)
    refine hK1.out _ _ (K.out _ hb6) (fun _ => ?_)
    clear hK1 q0 q1 f0 f1
    have KX6 : Hid (Blk ((w5.setCell ⟨X, 0, none⟩ (.int .i64 n)).setCell ⟨X, 1, none⟩ (.slice AA p capA)) X 30 #[.int .i64 n, .slice AA p capA]) := (KX.out.set_ 0 _).set_ 1 _
    have KY6 := Lib.hid ((KY.out.other X 0 (.int .i64 n) hXY).other X 1 (.slice AA p capA) hXY)
    have OA6 := Lib.hid (own_set_g (own_set_g OA5.out KX.out (by decide) 0 (.int .i64 n)) (KX.out.set_ 0 (.int .i64 n)) (by decide) 1 (.slice AA p capA))
    have OB6 := Lib.hid (own_set_g (own_set_g OB5.out KX.out (by decide) 0 (.int .i64 n)) (KX.out.set_ 0 (.int .i64 n)) (by decide) 1 (.slice AA p capA))
    clear KX KY OA5 OB5 hb5
    generalize (w5.setCell ⟨X, 0, none⟩ (.int .i64 n)).setCell ⟨X, 1, none⟩ (.slice AA p capA) = w6 at KX6 KY6 OA6 OB6 hb6 ⊢
    obtain ⟨q0, q1⟩ := two_cells KY6.out
    obtain ⟨f0, f1⟩ := two_frozen KY6.out
    refine wpAnyZ_last (i := 7) (by kernel_rfl) rfl (by kernel_rfl) ?_
    intro R hR
    go_simp
    refine hR.out _ _ ?_
    clear hR q0 q1 f0 f1
    have hb7 := (hb6.setCell (p := ⟨Y, 0, none⟩) hY (.int .i64 n)).setCell (p := ⟨Y, 1, none⟩) hY (.slice AB p capB)
    have KY7 : Hid (Blk ((w6.setCell ⟨Y, 0, none⟩ (.int .i64 n)).setCell ⟨Y, 1, none⟩ (.slice AB p capB)) Y 30 #[.int .i64 n, .slice AB p capB]) := (KY6.out.set_ 0 _).set_ 1 _
    have KX7 := Lib.hid ((KX6.out.other Y 0 (.int .i64 n) hYX).other Y 1 (.slice AB p capB) hYX)
    have OA7 := Lib.hid (own_set_g (own_set_g OA6.out KY6.out (by decide) 0 (.int .i64 n)) (KY6.out.set_ 0 (.int .i64 n)) (by decide) 1 (.slice AB p capB))
    have OB7 := Lib.hid (own_set_g (own_set_g OB6.out KY6.out (by decide) 0 (.int .i64 n)) (KY6.out.set_ 0 (.int .i64 n)) (by decide) 1 (.slice AB p capB))
    clear KX6 KY6 OA6 OB6 hb6
    generalize (w6.setCell ⟨Y, 0, none⟩ (.int .i64 n)).setCell ⟨Y, 1, none⟩ (.slice AB p capB) = w7 at KX7 KY7 OA7 OB7 hb7 ⊢
    have B7 := Lib.hid (below_on B2.out hb7)
    have R7 := Lib.hid (blk_b R2.out hb7)
    have V7 := Lib.hid (blk_b V2.out hb7)
    have O7 : Hid (w7.ownsRow (w.heap.size + 1 + 1) 3 1 (.slice A p cap) p ((prodL n ss (s.data.toList.take 0)).map (Value.int .i64))) := own_under O2.out hb7
    have hw27 : w2.heap.size ≤ w7.heap.size := hb7.size
    clear hb7 P2 R2 V2 O2 B2 K KS
    have hlen : s.data.toList.length = s.size := (Lib.size_eq s).symm
    have HLEN := Lib.hid hlen
    clear hlen
    have KK : Hid (∀ w', w7.grownBy w' (some V) → (Ints w' w'.heap.size AA za ∧ Ints w' w'.heap.size AB zb) ∧ w'.cell? ⟨X, 0, none⟩ = some (.int .i64 n) ∧ w'.cell? ⟨X, 1, none⟩ = some (.slice AA p capA) ∧ w'.cell? ⟨Y, 0, none⟩ = some (.int .i64 n) ∧ w'.cell? ⟨Y, 1, none⟩ = some (.slice AB p capB)) := fun w' h => by
      have fa : ∀ {x : Value} {n : Nat} {xs : List Value}, w7.ownsRow w2.heap.size 3 1 x n xs → w'.ownsRow w2.heap.size 3 1 x n xs := fun {x n xs} ho => ho.kept h (by
        rcases h0 : x.ownBlock with _ | j
        · exact Or.inl rfl
        · right; intro he; cases he; have := (ho.lt V h0).1; omega)
      have i1 := own_ints_p (fa OA7.out) HZA.out (by unfold maxLen; omega)
      have i2 := own_ints_p (fa OB7.out) HZB.out (by unfold maxLen; omega)
      have kx := KX7.out.grown h (by omega)
      have ky := KY7.out.grown h (by omega)
      exact ⟨⟨i1, i2⟩, kx.cell 0, kx.cell 1, ky.cell 0, ky.cell 1⟩
    go_wp2_with fail
    go_loopw [18] (fun i wr => ∃ (k : Nat) (A' : Option Addr) (cap' : Nat), k ≤ s.size ∧ i = .int .i64 k ∧ Hid (Blk wr V 30 #[.int .i64 n, .slice A' p cap']) ∧ Hid (wr.ownsRow (w.heap.size + 1 + 1) 3 1 (.slice A' p cap') p ((prodL n ss (s.data.toList.take k)).map (Value.int .i64))) ∧ Hid (w7.grownBy wr (some V))) (fun i _ => s.size - (intOf i).toNat)
    case atStart => exact ⟨0, A, cap, Nat.zero_le _, rfl, V7, O7, World.grownBy.refl _ _⟩
    case round =>
      obtain ⟨k, A', cap', hk, rfl, hv, hown, hg⟩ := hrel
      by_cases hlt : k < s.size
      · have hk1 : (k : Int) < (s.size : Int) := by omega
        have hk0 : (0 : Int) ≤ (k : Int) := by omega
        obtain ⟨⟨ia, ib⟩, x0, x1, y0, y1⟩ := KK.out _ hg.out
        obtain ⟨v0, v1⟩ := two_cells hv.out
        have HMP := Lib.hid (prodL_ok n1 n2 HOK.out (s.data.toList.take k))
        have HPL : Hid ((prodL n ss (s.data.toList.take k)).length = p) := by show _ = _; rw [HMP.out.len, HP.out]
        have ip := own_ints_p hown.out HPL.out (by unfold maxLen; omega)
        have IA := Lib.hid ia
        have IB := Lib.hid ib
        have IP := Lib.hid ip
        obtain ⟨c, hc⟩ : ∃ c, s[k]'hlt = c := ⟨_, rfl⟩
        have hab := word_at HW.out hlt
        have HTK := Lib.hid (take_snoc_b hlt)
        rw [hc] at hab HTK
        have hwv : w.heap.size + 1 + 1 ≤ wr.heap.size := by have := Blk.lt hv.out; omega
        clear ia ib ip
        rcases isAB_cases hab with rfl | rfl
        · have e7 : (((s[k]'hlt).toNat : Int) == 97) = true := by rw [hc]; rfl
          have HN : Hid (mulL n (prodL n ss (s.data.toList.take k)) za = prodL n ss (s.data.toList.take (k + 1))) := by show _ = _; rw [HTK.out, prodL_snoc, EZA.out]; rfl
          clear hc hab
          go_wp2_with fail
          refine (l2Mul_any n p _ _ _ _ _ _ _ n1 n2 p1 HP HPL HZA HMP.out.in_ HMA.out.in_ IP.out IA.out).mono ?_
          rintro e w8 ⟨v8, rfl, ho8, hb8⟩
          rw [HN.out] at ho8
          have HPN : Hid ((prodL n ss (s.data.toList.take (k + 1))).length = p) := by show _ = _; rw [(prodL_ok n1 n2 HOK.out (s.data.toList.take (k + 1))).len, HP.out]
          obtain ⟨x8, rfl, hox8, hlx8⟩ := ho8
          obtain ⟨A8, cap8, rfl, _, _⟩ := own_ints hox8 (by unfold maxLen; omega)
          rw [HPN.out] at hox8 ⊢
          have V8 := Lib.hid (blk_b hv.out hb8)
          have O8 := Lib.hid (own_base hox8 hwv)
          have G8 : Hid (w7.grownBy w8 (some V)) := grow_trans hg.out (grow_of_below hb8 (some V))
          clear hb8 hox8 hlx8 v0 v1 x0 x1 y0 y1 hv hown hg
          obtain ⟨v0, v1⟩ := two_cells V8.out
          obtain ⟨f0, f1⟩ := two_frozen V8.out
          have V9 : Hid (Blk ((w8.setCell ⟨V, 0, none⟩ (.int .i64 n)).setCell ⟨V, 1, none⟩ (.slice A8 p cap8)) V 30 #[.int .i64 n, .slice A8 p cap8]) := (V8.out.set_ 0 _).set_ 1 _
          have O9 := Lib.hid (own_set_g (own_set_g O8.out V8.out (by decide) 0 (.int .i64 n)) (V8.out.set_ 0 (.int .i64 n)) (by decide) 1 (.slice A8 p cap8))
          have G9 := Lib.hid (grow_trans (grow_trans G8.out (grow_set w8 V 0 (.int .i64 n))) (grow_set _ V 1 (.slice A8 p cap8)))
          go_wp2_with fail
          go_roundw
          case rel => exact ⟨k + 1, A8, cap8, by omega, by go_num, V9, O9, G9⟩
          case measure => simp [intOf]; omega
        · have e7 : (((s[k]'hlt).toNat : Int) == 97) = false := by rw [hc]; rfl
          have HN : Hid (mulL n (prodL n ss (s.data.toList.take k)) zb = prodL n ss (s.data.toList.take (k + 1))) := by show _ = _; rw [HTK.out, prodL_snoc, EZB.out]; rfl
          clear hc hab
          go_wp2_with fail
          refine (l2Mul_any n p _ _ _ _ _ _ _ n1 n2 p1 HP HPL HZB HMP.out.in_ HMB.out.in_ IP.out IB.out).mono ?_
          rintro e w8 ⟨v8, rfl, ho8, hb8⟩
          rw [HN.out] at ho8
          have HPN : Hid ((prodL n ss (s.data.toList.take (k + 1))).length = p) := by show _ = _; rw [(prodL_ok n1 n2 HOK.out (s.data.toList.take (k + 1))).len, HP.out]
          obtain ⟨x8, rfl, hox8, hlx8⟩ := ho8
          obtain ⟨A8, cap8, rfl, _, _⟩ := own_ints hox8 (by unfold maxLen; omega)
          rw [HPN.out] at hox8 ⊢
          have V8 := Lib.hid (blk_b hv.out hb8)
          have O8 := Lib.hid (own_base hox8 hwv)
          have G8 : Hid (w7.grownBy w8 (some V)) := grow_trans hg.out (grow_of_below hb8 (some V))
          clear hb8 hox8 hlx8 v0 v1 x0 x1 y0 y1 hv hown hg
          obtain ⟨v0, v1⟩ := two_cells V8.out
          obtain ⟨f0, f1⟩ := two_frozen V8.out
          have V9 : Hid (Blk ((w8.setCell ⟨V, 0, none⟩ (.int .i64 n)).setCell ⟨V, 1, none⟩ (.slice A8 p cap8)) V 30 #[.int .i64 n, .slice A8 p cap8]) := (V8.out.set_ 0 _).set_ 1 _
          have O9 := Lib.hid (own_set_g (own_set_g O8.out V8.out (by decide) 0 (.int .i64 n)) (V8.out.set_ 0 (.int .i64 n)) (by decide) 1 (.slice A8 p cap8))
          have G9 := Lib.hid (grow_trans (grow_trans G8.out (grow_set w8 V 0 (.int .i64 n))) (grow_set _ V 1 (.slice A8 p cap8)))
          go_wp2_with fail
          go_roundw
          case rel => exact ⟨k + 1, A8, cap8, by omega, by go_num, V9, O9, G9⟩
          case measure => simp [intOf]; omega
      · have hk1 : ¬ (k : Int) < (s.size : Int) := by omega
        have HN : Hid (prodL n ss (s.data.toList.take k) = prodL n ss s.data.toList) := by show _ = _; rw [List.take_of_length_le (by have := HLEN.out; omega)]
        have hown2 := hown.out
        rw [HN.out] at hown2
        have RR := Lib.hid (R7.out.grown hg.out (by omega))
        have HB := Lib.hid (B7.out.grown hg.out B7.out.size (fun j hj => by cases hj; omega))
        have HO := Lib.hid hown2
        have HML := Lib.hid (prodL_ok n1 n2 HOK.out s.data.toList)
        have HPL : Hid ((prodL n ss s.data.toList).length = p) := by show _ = _; rw [HML.out.len, HP.out]
        obtain ⟨a0, a1⟩ := two_cells hv.out
        obtain ⟨d0, d1⟩ := two_cells RR.out
        obtain ⟨f0, f1⟩ := two_frozen RR.out
        clear hv hown hown2 hg
        go_wp2_with fail
        have HF := mat_fin_n (w := w) (m := (n : Int)) HPL.out RR.out HO.out (by omega) (by omega) HB.out (by have := HPL.out; omega)
        refine bodyPost_ret (results_1 rfl (gives_mat (g := w.heap.size + 1) rfl HF.1)) rfl ?_
        exact ⟨_, rfl, HF.2.1, HF.2.2⟩
end Go.Proofs.YtjhaegkefagngaaGreatDoor
namespace Go.Proofs.YtjhaegkefagngaaGreatDoor
open Go.RowKit
set_option maxHeartbeats 4000000
set_option maxRecDepth 100000
set_option linter.unusedVariables false

def wordR (m : Int) (xs ys : List Int) (ss : List StepD) (l : ByteArray) : Option (Int × List Int) := if autoOk m xs ys ss = true ∧ wordOk l = true then some (m, prodL m.toNat ss l.data.toList) else none
theorem wordR_some {n : Nat} {xs ys : List Int} {ss : List StepD} {l : ByteArray} (h : autoOk n xs ys ss = true) (hl : wordOk l = true) : wordR n xs ys ss l = some ((n : Int), prodL n ss l.data.toList) := by
  unfold wordR; rw [if_pos ⟨h, hl⟩]; rfl
theorem wordR_none {m : Int} {xs ys : List Int} {ss : List StepD} {l : ByteArray} (h : (autoOk m xs ys ss && wordOk l) = false) : wordR m xs ys ss l = none := by
  unfold wordR; rw [if_neg (by rintro ⟨h1, h2⟩; rw [h1, h2] at h; cases h)]
theorem wordOk_in {l : ByteArray} (h : wordOk l = true) : l.size ≤ 1000 ∧ l.data.toList.all isAB = true := by
  unfold wordOk at h
  rw [Bool.and_eq_true, decide_eq_true_eq] at h
  exact h

theorem iWordMatrix_any (m : Int) (A1 A2 A3 : Option Addr) (c1 c2 c3 : Nat) (xs ys : List Int) (ss : List StepD) (l : ByteArray) (hll : l.size ≤ maxLen) (w : World) (hx : Ints w w.heap.size A1 xs) (hy : Ints w w.heap.size A2 ys) (hs : SRow w w.heap.size A3 ss) :
    Calls Tryz.prog 6 #[.agg #[.int .i64 m, .slice A1 xs.length c1, .slice A2 ys.length c2, .slice A3 ss.length c3], .string l] w fun e w' => MEnd (wordR m xs ys ss l) w e w' := by
  have hl9 : l.size ≤ 9223372036854775807 := by unfold maxLen at hll; omega
  have HX0 := Lib.hid (ints_al (ints_al hx (.cells #[.int .i64 m, .slice A1 xs.length c1, .slice A2 ys.length c2, .slice A3 ss.length c3] 26)) (.cells #[.int .i64 0, .slice none 0 0] 30))
  have HY0 := Lib.hid (ints_al (ints_al hy (.cells #[.int .i64 m, .slice A1 xs.length c1, .slice A2 ys.length c2, .slice A3 ss.length c3] 26)) (.cells #[.int .i64 0, .slice none 0 0] 30))
  have HS := Lib.hid ((hs.al (.cells #[.int .i64 m, .slice A1 xs.length c1, .slice A2 ys.length c2, .slice A3 ss.length c3] 26)).al (.cells #[.int .i64 0, .slice none 0 0] 30))
  clear hx hy hs
  obtain ⟨b, hb⟩ : ∃ b, (autoOk m xs ys ss && wordOk l) = b := ⟨_, rfl⟩
  cases b
  · have HOK := Lib.hid hb
    have HR := Lib.hid (wordR_none hb)
    clear hb
    go_enter Tryz.func6, Tryz.ntmps6
    go_wp2_with fail
    refine (readerOf_no _ _ _ _ _ _ _ _ _ _ _ _ hl9 HX0.out HY0.out HS.out HOK.out).mono ?_
    rintro e w1 ⟨rfl, hb1⟩
    have B1 := Lib.hid (below_on (below_a2 w _ _) hb1.out)
    have R1 : Hid (Blk w1 (w.heap.size + 1) 30 #[.int .i64 0, .slice none 0 0]) := (blk_new (by simp)).below hb1.out (by simp)
    have hw1 := Blk.lt R1.out
    clear hb1 HX0 HY0 HS
    obtain ⟨d0, d1⟩ := two_cells R1.out
    obtain ⟨f0, f1⟩ := two_frozen R1.out
    go_wp2_with fail
    have HF := ((R1.out.set_ 0 (.int .i64 0)).set_ 1 (.slice none 0 0)).alloc (.cells #[.int .i64 0, .bool false, .bool false, .bool false, .bool false, .bool false, .bool false, .bool false, .bool false, .map none] 52)
    refine bodyPost_ret (results_2 rfl (gives_mat (g := w.heap.size + 1) rfl HF) (Gives.tmp rfl)) rfl ?_
    exact MEnd.none_ HR.out (below_al ((B1.out.setCell (p := ⟨_, 0, none⟩) (Nat.le_succ _) _).setCell (p := ⟨_, 1, none⟩) (Nat.le_succ _) _) (Nat.le_refl _) _)
  · rw [Bool.and_eq_true] at hb
    obtain ⟨hok, hwk⟩ := hb
    obtain ⟨n, rfl, n1, n2, _, _, _, hsi⟩ := auto_in hok
    obtain ⟨hl1, hl2⟩ := wordOk_in hwk
    obtain ⟨p, hp⟩ : ∃ p, p = n * n := ⟨_, rfl⟩
    have p1 : p ≤ 16 := by
      rw [hp]
      calc n * n ≤ 4 * 4 := Nat.mul_le_mul n2 n2
        _ = 16 := rfl
    have HP := Lib.hid hp
    have HR := Lib.hid (wordR_some hok hwk)
    have HOK := Lib.hid hok
    have HWK := Lib.hid hwk
    have HSI := Lib.hid hsi
    have HL2 := Lib.hid hl2
    clear hok hwk hsi hl2 hp
    go_enter Tryz.func6, Tryz.ntmps6
    go_wp2_with fail
    refine (readerOf_ok _ _ _ _ _ _ _ _ _ _ _ _ hl9 HX0.out HY0.out HS.out HOK.out HWK.out).mono ?_
    rintro e w1 ⟨M, rfl, hM, hmap, hb1⟩
    have B1 := Lib.hid (below_on (below_a2 w _ _) hb1.out)
    have R1 : Hid (Blk w1 (w.heap.size + 1) 30 #[.int .i64 0, .slice none 0 0]) := (blk_new (by simp)).below hb1.out (by simp)
    clear hb1 HX0 HY0 HS
    have hw1 := Blk.lt R1.out
    have R2 := Lib.hid (R1.out.alloc (.cells #[.int .i64 n, .bool (hasB xs 0), .bool (hasB xs 1), .bool (hasB xs 2), .bool (hasB xs 3), .bool (hasB ys 0), .bool (hasB ys 1), .bool (hasB ys 2), .bool (hasB ys 3), .map (some M)] 52))
    have B2 := Lib.hid (below_al B1.out (Nat.le_refl _) (.cells #[.int .i64 n, .bool (hasB xs 0), .bool (hasB xs 1), .bool (hasB xs 2), .bool (hasB xs 3), .bool (hasB ys 0), .bool (hasB ys 1), .bool (hasB ys 2), .bool (hasB ys 3), .map (some M)] 52))
    have M2 := Lib.hid (hmap.out.kept (World.grownBy_alloc w1 (.cells #[.int .i64 n, .bool (hasB xs 0), .bool (hasB xs 1), .bool (hasB xs 2), .bool (hasB xs 3), .bool (hasB ys 0), .bool (hasB ys 1), .bool (hasB ys 2), .bool (hasB ys 3), .map (some M)] 52) none) (by simp))
    clear hmap hM
    go_wp2_with fail
    refine (product_any n p M _ _ _ _ _ _ _ _ _ ss l _ n1 n2 HP.out HSI.out hl1 HL2.out M2.out).mono ?_
    rintro e w3 ⟨g, rfl, hb3, hg3, hq3⟩
    have R3 := Lib.hid (blk_b R2.out hb3)
    have B3 := Lib.hid (below_on B2.out hb3)
    have HPL : Hid (p = (prodL n ss l.data.toList).length) := by show _ = _; rw [(prodL_ok n1 n2 HSI.out l.data.toList).len, HP.out]
    have Q3 := Lib.hid hq3
    clear hb3 hg3 hq3 R1 B1 R2 B2 M2
    go_wp2_with fail
    refine (matrix_any n p g _ _ HPL p1 Q3.out).mono ?_
    rintro e w4 ⟨_, rfl, ⟨x, rfl, hox, hlx⟩, hb4⟩
    obtain ⟨A, cap, rfl, _, _⟩ := own_ints hox (by unfold maxLen; omega)
    have R4 := Lib.hid (blk_b R3.out hb4)
    have B4 := Lib.hid (below_on B3.out hb4)
    have O4 := Lib.hid (own_base hox (show w.heap.size ≤ _ from B3.out.size))
    clear hb4 hox
    obtain ⟨d0, d1⟩ := two_cells R4.out
    obtain ⟨f0, f1⟩ := two_frozen R4.out
    go_wp2_with fail
    have HF := (R4.out.set_ 0 (.int .i64 n)).set_ 1 (.slice A (prodL n ss l.data.toList).length cap)
    refine bodyPost_ret (results_2 rfl (gives_mat (g := w.heap.size + 1) rfl HF) (Gives.tmp rfl)) rfl ?_
    exact MEnd.some_ HR.out (mat_set (n := 0) ⟨_, rfl, O4.out, hlx⟩ R4.out _ _) ((B4.out.setCell (p := ⟨_, 0, none⟩) (Nat.le_succ _) _).setCell (p := ⟨_, 1, none⟩) (Nat.le_succ _) _)

theorem l4Asked_is (m : Int) (A1 A2 A3 : Option Addr) (c1 c2 c3 : Nat) (xs ys : List Int) (ss : List StepD) (l : ByteArray) (b : Bool) (w : World) (hl9 : l.size ≤ 9223372036854775807) (hx : Ints w w.heap.size A1 xs) (hy : Ints w w.heap.size A2 ys) (hs : SRow w w.heap.size A3 ss) (hb : (autoOk m xs ys ss && wordOk l) = b) :
    Calls Tryz.prog 25 #[.agg #[.int .i64 m, .slice A1 xs.length c1, .slice A2 ys.length c2, .slice A3 ss.length c3], .string l] w fun e w' => e = .returned (.bool b) ∧ Hid (Below w.heap.size w w') := by
  have HX0 := Lib.hid (ints_al hx (.cells #[.int .i64 m, .slice A1 xs.length c1, .slice A2 ys.length c2, .slice A3 ss.length c3] 26))
  have HY0 := Lib.hid (ints_al hy (.cells #[.int .i64 m, .slice A1 xs.length c1, .slice A2 ys.length c2, .slice A3 ss.length c3] 26))
  have HS := Lib.hid (hs.al (.cells #[.int .i64 m, .slice A1 xs.length c1, .slice A2 ys.length c2, .slice A3 ss.length c3] 26))
  have HB := Lib.hid hb
  obtain ⟨b1, h1⟩ : ∃ b1, autoOk m xs ys ss = b1 := ⟨_, rfl⟩
  obtain ⟨b2, h2⟩ : ∃ b2, wordOk l = b2 := ⟨_, rfl⟩
  have H1 := Lib.hid h1
  have H2 := Lib.hid h2
  rw [h1, h2] at hb
  have HBB := Lib.hid hb
  clear hx hy hs hb h1 h2
  go_enter Tryz.func25, Tryz.ntmps25
  go_wp2_with fail
  refine (sAutomatonValid_is _ _ _ _ _ _ _ _ _ _ b1 _ HX0.out HY0.out HS.out H1.out).mono ?_
  rintro e w1 ⟨rfl, hb1⟩
  have B1 := Lib.hid (below_on (below_a1 w _) hb1.out)
  clear hb1 HX0 HY0 HS
  cases b1
  · have e : b = false := by rw [← HBB.out]; rfl
    subst e
    go_wp2_with fail
    go_ret
    exact ⟨rfl, B1⟩
  · have e : b = b2 := by rw [← HBB.out]; rfl
    subst e
    go_wp2_with fail
    refine (sWordValid_is l b _ hl9 H2.out).mono ?_
    rintro e w' ⟨rfl, rfl⟩
    go_wp2_with fail
    go_ret
    exact ⟨rfl, B1⟩

theorem sWordMatrix_any (m : Int) (A1 A2 A3 : Option Addr) (c1 c2 c3 : Nat) (xs ys : List Int) (ss : List StepD) (l : ByteArray) (hll : l.size ≤ maxLen) (w : World) (hx : Ints w w.heap.size A1 xs) (hy : Ints w w.heap.size A2 ys) (hs : SRow w w.heap.size A3 ss) :
    Calls Tryz.prog 7 #[.agg #[.int .i64 m, .slice A1 xs.length c1, .slice A2 ys.length c2, .slice A3 ss.length c3], .string l] w fun e w' => MEnd (wordR m xs ys ss l) w e w' := by
  have hl9 : l.size ≤ 9223372036854775807 := by unfold maxLen at hll; omega
  have HX0 := Lib.hid (ints_al (ints_al hx (.cells #[.int .i64 m, .slice A1 xs.length c1, .slice A2 ys.length c2, .slice A3 ss.length c3] 26)) (.cells #[.int .i64 0, .slice none 0 0] 30))
  have HY0 := Lib.hid (ints_al (ints_al hy (.cells #[.int .i64 m, .slice A1 xs.length c1, .slice A2 ys.length c2, .slice A3 ss.length c3] 26)) (.cells #[.int .i64 0, .slice none 0 0] 30))
  have HS := Lib.hid ((hs.al (.cells #[.int .i64 m, .slice A1 xs.length c1, .slice A2 ys.length c2, .slice A3 ss.length c3] 26)).al (.cells #[.int .i64 0, .slice none 0 0] 30))
  clear hx hy hs
  obtain ⟨b, hb⟩ : ∃ b, (autoOk m xs ys ss && wordOk l) = b := ⟨_, rfl⟩
  have HOK := Lib.hid hb
  go_enter Tryz.func7, Tryz.ntmps7
  go_wp2_with fail
  refine (l4Asked_is _ _ _ _ _ _ _ _ _ _ _ b _ hl9 HX0.out HY0.out HS.out HOK.out).mono ?_
  rintro e w1 ⟨rfl, hb1⟩
  have B1 := Lib.hid (below_on (below_a2 w _ _) hb1.out)
  have P1 : Hid (Blk w1 w.heap.size 26 #[.int .i64 m, .slice A1 xs.length c1, .slice A2 ys.length c2, .slice A3 ss.length c3]) := ((Blk.new w _ _).alloc _).below hb1.out (by simp; omega)
  have R1 : Hid (Blk w1 (w.heap.size + 1) 30 #[.int .i64 0, .slice none 0 0]) := (blk_new (by simp)).below hb1.out (by simp)
  have S1 := Lib.hid (HS.out.on hb1.out)
  clear hb1 HX0 HY0 HS
  cases b
  · have HR := Lib.hid (wordR_none hb)
    clear hb
    obtain ⟨d0, d1⟩ := two_cells R1.out
    obtain ⟨f0, f1⟩ := two_frozen R1.out
    go_wp2_with fail
    have HF := (R1.out.set_ 0 (.int .i64 0)).set_ 1 (.slice none 0 0)
    refine bodyPost_ret (results_2 rfl (gives_mat (g := w.heap.size + 1) rfl HF) (Gives.tmp rfl)) rfl ?_
    exact MEnd.none_ HR.out ((B1.out.setCell (p := ⟨_, 0, none⟩) (Nat.le_succ _) _).setCell (p := ⟨_, 1, none⟩) (Nat.le_succ _) _)
  · rw [Bool.and_eq_true] at hb
    obtain ⟨hok, hwk⟩ := hb
    obtain ⟨n, rfl, n1, n2, _, _, _, hsi⟩ := auto_in hok
    obtain ⟨hl1, hl2⟩ := wordOk_in hwk
    have HR := Lib.hid (wordR_some hok hwk)
    have HSI := Lib.hid hsi
    have HL2 := Lib.hid hl2
    clear hok hwk hsi hl2
    obtain ⟨k0, k1, k2, k3⟩ := four_cells P1.out
    go_wp2_with fail
    refine (l4Matrix_any n _ _ _ _ _ _ _ _ ss l _ n1 n2 S1.out HSI.out hl1 HL2.out).mono ?_
    rintro e w3 ⟨_, rfl, ⟨x, rfl, hox, hlx⟩, hb3⟩
    obtain ⟨A, cap, rfl, _, _⟩ := own_ints hox (by unfold maxLen; omega)
    have R3 := Lib.hid (blk_b R1.out hb3)
    have B3 := Lib.hid (below_on B1.out hb3)
    have O3 := Lib.hid (own_base hox (show w.heap.size ≤ _ from B1.out.size))
    clear hb3 hox k0 k1 k2 k3 P1
    obtain ⟨d0, d1⟩ := two_cells R3.out
    obtain ⟨f0, f1⟩ := two_frozen R3.out
    go_wp2_with fail
    have HF := (R3.out.set_ 0 (.int .i64 n)).set_ 1 (.slice A (prodL n ss l.data.toList).length cap)
    refine bodyPost_ret (results_2 rfl (gives_mat (g := w.heap.size + 1) rfl HF) (Gives.tmp rfl)) rfl ?_
    exact MEnd.some_ HR.out (mat_set (n := 0) ⟨_, rfl, O3.out, hlx⟩ R3.out _ _) ((B3.out.setCell (p := ⟨_, 0, none⟩) (Nat.le_succ _) _).setCell (p := ⟨_, 1, none⟩) (Nat.le_succ _) _)
end Go.Proofs.YtjhaegkefagngaaGreatDoor
