/- The product of the matrices of a word's letters, the program's: in new memory; nothing that was there changes. Conditions: one to four states, steps between them, a word. -/
import Derived.Test.YthgkhpbfbilgmaaDoorPathT
import Derived.Test.YthgkhpbfbilgmaaDoorSq7
import Derived.Test.YthgkhpbfbilgmaaDoorMarkA
import Derived.Lib.OthersKept
namespace Go.Proofs.YthgkhpbfbilgmaaDoor
open Go.RowKit
set_option maxHeartbeats 4000000
set_option maxRecDepth 100000
set_option linter.unusedVariables false

theorem CMap.same {w w' : World} {M n : Nat} {F : Int → ByteArray → Int → Option Int} (h : CMap w M n F) (he : w'.heap[M]? = w.heap[M]?) : CMap w' M n F := by
  obtain ⟨D, ⟨es, c, h1, h2⟩, h3⟩ := h
  exact ⟨D, ⟨es, c, he.trans h1, h2⟩, h3⟩
theorem word_at {s : ByteArray} (h : s.data.toList.all isAB = true) {k : Nat} (hk : k < s.size) : isAB (s[k]'hk) = true := by
  have hl : k < s.data.toList.length := by rw [← Lib.size_eq]; exact hk
  exact List.all_eq_true.1 h _ (List.getElem_mem (l := s.data.toList) hl)
theorem take_snoc_b {s : ByteArray} {k : Nat} (hk : k < s.size) : s.data.toList.take (k + 1) = s.data.toList.take k ++ [s[k]'hk] := by
  have hl : k < s.data.toList.length := by rw [← Lib.size_eq]; exact hk
  rw [List.take_succ_eq_append_getElem hl]; rfl
theorem conv_ltr {b : UInt8} (h : isAB b = true) (w : World) : (convert 21 9 (.int .i32 (b.toNat : Int))).run Tryd.prog w = .ok (.string (ltr b)) w := by
  rcases isAB_cases h with rfl | rfl <;> kernel_rfl
theorem ab_small {b : UInt8} (h : isAB b = true) : b.toNat < 128 := by
  rcases isAB_cases h with rfl | rfl <;> decide
theorem sq_mv {n p : Nat} {zs : List Int} (h : MV n zs) (hp : p = n * n) : (zs.length = p) ∧ ∀ q, q < p → 0 ≤ zs.getD q 0 ∧ zs.getD q 0 ≤ 1000000 := ⟨by rw [h.len, hp], fun q hq => by
  have hl : q < zs.length := by rw [h.len, ← hp]; exact hq
  rw [List.getD_eq_getElem?_getD, List.getElem?_eq_getElem hl]
  exact vld_t (List.all_eq_true.1 h.all _ (List.getElem_mem hl))⟩
theorem Blk.trans_ {w w' : World} {j : Nat} {t : TypeId} {cs : Array Value} (he : w'.heap[j]? = w.heap[j]?) (h : Blk w j t cs) : Blk w' j t cs := he.trans h
def six (w : World) (g : Nat) (v0 v1 v2 v3 v4 v5 : Value) : World := (((((w.setCell ⟨g, 0, none⟩ v0).setCell ⟨g, 1, none⟩ v1).setCell ⟨g, 2, none⟩ v2).setCell ⟨g, 3, none⟩ v3).setCell ⟨g, 4, none⟩ v4).setCell ⟨g, 5, none⟩ v5
theorem six_grow (w : World) (g : Nat) (v0 v1 v2 v3 v4 v5 : Value) : w.grownBy (six w g v0 v1 v2 v3 v4 v5) (some g) := by
  unfold six
  exact grow_trans (grow_trans (grow_trans (grow_trans (grow_trans (grow_set _ g 0 v0) (grow_set _ g 1 v1)) (grow_set _ g 2 v2)) (grow_set _ g 3 v3)) (grow_set _ g 4 v4)) (grow_set _ g 5 v5)
theorem six_blk {w : World} {g : Nat} {t : TypeId} {u0 u1 u2 u3 u4 u5 : Value} (h : Blk w g t #[u0, u1, u2, u3, u4, u5]) (v0 v1 v2 v3 v4 v5 : Value) : Blk (six w g v0 v1 v2 v3 v4 v5) g t #[v0, v1, v2, v3, v4, v5] := by
  unfold six
  have h0 : Blk _ g t #[v0, u1, u2, u3, u4, u5] := h.set_ 0 v0
  have h1 : Blk _ g t #[v0, v1, u2, u3, u4, u5] := h0.set_ 1 v1
  have h2 : Blk _ g t #[v0, v1, v2, u3, u4, u5] := h1.set_ 2 v2
  have h3 : Blk _ g t #[v0, v1, v2, v3, u4, u5] := h2.set_ 3 v3
  have h4 : Blk _ g t #[v0, v1, v2, v3, v4, u5] := h3.set_ 4 v4
  exact h4.set_ 5 v5
theorem Ins.iter {B T k : Nat} {w w' : World} (h : Ins B T w w') (s : ByteArray) (q : Nat) (h1 : B ≤ k) (h2 : k < T) : Ins B T w (w'.iterAt k s q) :=
  h.trans ⟨rfl, rfl, rfl, by rw [Lib.iterAt_size]; exact Nat.le_refl _, fun j _ ho => Lib.iterAt_other w' k j s q (by omega)⟩
theorem Ins.below_ {B T : Nat} {w w' w'' : World} (h : Ins B T w w') (hb : Below w'.heap.size w' w'') : Ins B T w w'' :=
  h.trans ⟨hb.os, hb.tape, hb.output, hb.size, fun j hj _ => hb.block j hj⟩

theorem product_any (n p M cnt : Nat) (b0 b1 b2 b3 b4 b5 b6 b7 : Bool) (ss : List StepD) (s : ByteArray) (w : World) (n1 : 1 ≤ n) (n2 : n ≤ 4) (hp : p = n * n) (hok : ∀ s ∈ ss, stepOk n s = true) (hs : s.size ≤ 1000) (hw : s.data.toList.all isAB = true) (hM : CMap w M cnt (costAt ss)) :
    Calls Tryd.prog 39 #[.agg #[.int .i64 n, .bool b0, .bool b1, .bool b2, .bool b3, .bool b4, .bool b5, .bool b6, .bool b7, .map (some M)], .string s] w fun e w' => ∃ g, e = .returned (sqV n (.slice (some ⟨g, 0, none⟩) p p)) ∧ Below w.heap.size w w' ∧ w.heap.size ≤ g ∧ Sq w' g (prodL n ss s.data.toList) := by
  have p1 : p ≤ 16 := by
    rw [hp]
    calc n * n ≤ 4 * 4 := Nat.mul_le_mul n2 n2
      _ = 16 := rfl
  have HP := Lib.hid hp
  have HOK := Lib.hid hok
  have HW := Lib.hid hw
  have MM := Lib.hid hM
  have hMw := hM.lt
  clear hp hok hw hM
  go_enter Tryd.func39, Tryd.ntmps39
  go_wp2_with fail
  refine (costRing_any _).mono ?_
  rintro e w1 ⟨rfl, hb1⟩
  obtain ⟨A, hA⟩ : ∃ A, A = w.heap.size := ⟨_, rfl⟩
  have B1 := Lib.hid (below_on (below_a2 w (.cells #[.int .i64 n, .bool b0, .bool b1, .bool b2, .bool b3, .bool b4, .bool b5, .bool b6, .bool b7, .map (some M)] 58) (.cells #[.nilFunc, .int .i64 0, .nilFunc, .int .i64 0, .int .i64 0, .slice none 0 0] 67)) hb1)
  have A1 : Hid (Blk w1 w.heap.size 58 #[.int .i64 n, .bool b0, .bool b1, .bool b2, .bool b3, .bool b4, .bool b5, .bool b6, .bool b7, .map (some M)]) := ((Blk.new w _ _).alloc _).below hb1 (by simp; omega)
  have R1 : Hid (Blk w1 (w.heap.size + 1) 67 #[.nilFunc, .int .i64 0, .nilFunc, .int .i64 0, .int .i64 0, .slice none 0 0]) := (blk_new (by simp)).below hb1 (by simp)
  have hw1 := Blk.lt R1.out
  have hw0 : w.heap.size < w1.heap.size := by omega
  have a0 := A1.out.cell 0
  simp at a0
  unfold ringV
  clear hb1
  go_wp2_with fail
  refine (unitSquare_any n p _ n1 n2 HP p1).mono ?_
  rintro e w2 ⟨g2, rfl, hb2, hg2, hq2⟩
  have B2 := Lib.hid (below_on (below_al B1.out (Nat.le_refl _) (.cells #[.func (.func 77) #[] #[], .int .i64 0, .func (.func 91) #[] #[], .int .i64 1000000] 64)) hb2)
  have A2 := Lib.hid (blk_b (A1.out.alloc (.cells #[.func (.func 77) #[] #[], .int .i64 0, .func (.func 91) #[] #[], .int .i64 1000000] 64)) hb2)
  have R2 := Lib.hid (blk_b (R1.out.alloc (.cells #[.func (.func 77) #[] #[], .int .i64 0, .func (.func 91) #[] #[], .int .i64 1000000] 64)) hb2)
  have G2 := Lib.hid (blk_b (Blk.new w1 64 #[.func (.func 77) #[] #[], .int .i64 0, .func (.func 91) #[] #[], .int .i64 1000000]) hb2)
  have Q2 := Lib.hid hq2
  obtain ⟨GB, hGB⟩ : ∃ G, G = w1.heap.size := ⟨_, rfl⟩
  rw [← hGB] at G2 ⊢
  have hg2w := Blk.lt hq2
  have hg20 : w.heap.size + 1 < g2 := by simp at hg2; omega
  unfold sqV
  clear hb2 hq2 hg2 a0 hGB A1 R1 B1
  go_wp2_with fail
  obtain ⟨V, hV⟩ : ∃ V, V = w2.heap.size := ⟨_, rfl⟩
  obtain ⟨I, hI⟩ : ∃ I, I = w2.heap.size + 1 := ⟨_, rfl⟩
  obtain ⟨w3, hw3⟩ : ∃ w3, w3 = (w2.alloc (.cells #[.func (.func 77) #[] #[], .int .i64 0, .func (.func 91) #[] #[], .int .i64 1000000, .int .i64 n, .slice (some ⟨g2, 0, none⟩) p p] 67)).iter s 0 := ⟨_, rfl⟩
  have A3 : Hid (Blk w3 w.heap.size 58 #[.int .i64 n, .bool b0, .bool b1, .bool b2, .bool b3, .bool b4, .bool b5, .bool b6, .bool b7, .map (some M)]) := by rw [hw3]; exact (A2.out.alloc _).alloc _
  have R3 : Hid (Blk w3 (w.heap.size + 1) 67 #[.nilFunc, .int .i64 0, .nilFunc, .int .i64 0, .int .i64 0, .slice none 0 0]) := by rw [hw3]; exact (R2.out.alloc _).alloc _
  have G3 : Hid (Blk w3 GB 64 #[.func (.func 77) #[] #[], .int .i64 0, .func (.func 91) #[] #[], .int .i64 1000000]) := by rw [hw3]; exact (G2.out.alloc _).alloc _
  have V3 : Hid (Blk w3 V 67 #[.func (.func 77) #[] #[], .int .i64 0, .func (.func 91) #[] #[], .int .i64 1000000, .int .i64 n, .slice (some ⟨g2, 0, none⟩) p p]) := by rw [hw3, hV]; exact (Blk.new _ _ _).alloc _
  have Q3 : Hid (Sq w3 g2 (unitL n)) := by rw [hw3]; exact Blk.alloc (Blk.alloc Q2.out _) _
  have I3 : Hid (w3.heap[I]? = some (.stringIter s 0)) := by
    show _ = _
    rw [hw3, hI]
    have h := heap_alloc_new (w2.alloc (.cells #[.func (.func 77) #[] #[], .int .i64 0, .func (.func 91) #[] #[], .int .i64 1000000, .int .i64 n, .slice (some ⟨g2, 0, none⟩) p p] 67)) (.stringIter s 0)
    rw [World.size_alloc] at h
    exact h
  have B3 : Hid (Below w.heap.size w w3) := by rw [hw3]; exact below_al (below_al B2.out (Nat.le_refl _) _) (Nat.le_refl _) _
  have MM3 : Hid (CMap w3 M cnt (costAt ss)) := MM.out.below B3.out
  have hw3s : V + 2 ≤ w3.heap.size := by rw [hw3, hV]; simp [World.iter]
  have hIV1 : V < I := by omega
  have hIV2 : I < V + 2 := by omega
  have hGBV : GB < V := by have := Blk.lt G2.out; omega
  have hgV : g2 < V := by omega
  have hwV : w.heap.size + 1 < V := by have := Blk.lt R2.out; omega
  rw [← hw3, ← hI, ← hV]
  clear hw3 hV hI A2 R2 G2 Q2 B2 hg2w MM hw1 hw0
  go_loopw [8] (fun _ wr => ∃ (k g : Nat), k ≤ s.size ∧ (g < V ∨ I < g) ∧ w.heap.size + 1 < g ∧ Hid (wr.heap[I]? = some (.stringIter s k)) ∧ Hid (Blk wr V 67 #[.func (.func 77) #[] #[], .int .i64 0, .func (.func 91) #[] #[], .int .i64 1000000, .int .i64 n, .slice (some ⟨g, 0, none⟩) p p]) ∧ Hid (Sq wr g (prodL n ss (s.data.toList.take k))) ∧ Hid (Ins V (I + 1) w3 wr)) (fun _ wr => s.size - wr.iterPos I)
  case atStart => exact ⟨0, g2, Nat.zero_le _, Or.inl hgV, hg20, I3, V3, Q3, rfl, rfl, rfl, Nat.le_refl _, fun _ _ _ => rfl⟩
  case round =>
    obtain ⟨k, g, hk, hgo, hgw, hit, hv, hq, hins⟩ := hrel
    have hmu : wr.iterPos I = k := by simp [World.iterPos, hit.out]
    have HMU := Lib.hid hmu
    clear hmu
    by_cases hlt : k < s.size
    · obtain ⟨c, hc⟩ : ∃ c, s[k]'hlt = c := ⟨_, rfl⟩
      have hab := word_at HW.out hlt
      have hsm := ab_small hab
      have hnx := fun ty => Lib.run_next_ascii_at (P := Tryd.prog) wr I s k ty hit.out hlt hsm
      rw [hc] at hab hnx
      have hcv := conv_ltr hab
      have HTK := Lib.hid (take_snoc_b hlt)
      rw [hc] at HTK
      have HAB := Lib.hid hab
      have V1 := Lib.hid (Blk.trans_ (Lib.iterAt_other wr I V s (k + 1) (by omega)) hv.out)
      have Q1 : Hid (Sq (wr.iterAt I s (k + 1)) g (prodL n ss (s.data.toList.take k))) := Blk.trans_ (Lib.iterAt_other wr I g s (k + 1) (by omega)) hq.out
      have J1 := Lib.hid (hins.out.iter (k := I) s (k + 1) (by omega) (by omega))
      have I1 := Lib.hid (Lib.iterAt_heap wr I s k (k + 1) hit.out)
      clear hit hv hq hins hsm hc hab
      generalize wr.iterAt I s (k + 1) = W1 at hnx V1 Q1 J1 I1
      have A1 := Lib.hid (J1.out.blk A3.out (Or.inl (by omega)))
      have G1 := Lib.hid (J1.out.blk G3.out (Or.inl hGBV))
      have M1 := Lib.hid (MM3.out.same (J1.out.2.2.2.2 M (by omega) (Or.inl (by omega))))
      have K : Hid (∀ w', Below W1.heap.size W1 w' → (Hid (Below W1.heap.size W1 w') ∧ w'.cell? ⟨V, 0, none⟩ = some (.func (.func 77) #[] #[]) ∧ w'.cell? ⟨V, 1, none⟩ = some (.int .i64 0) ∧ w'.cell? ⟨V, 2, none⟩ = some (.func (.func 91) #[] #[]) ∧ w'.cell? ⟨V, 3, none⟩ = some (.int .i64 1000000) ∧ w'.cell? ⟨V, 4, none⟩ = some (.int .i64 n) ∧ w'.cell? ⟨V, 5, none⟩ = some (.slice (some ⟨g, 0, none⟩) p p) ∧ w'.cell? ⟨GB, 0, none⟩ = some (.func (.func 77) #[] #[]) ∧ w'.cell? ⟨GB, 1, none⟩ = some (.int .i64 0) ∧ w'.cell? ⟨GB, 2, none⟩ = some (.func (.func 91) #[] #[]) ∧ w'.cell? ⟨GB, 3, none⟩ = some (.int .i64 1000000) ∧ w'.cell? ⟨w.heap.size, 0, none⟩ = some (.int .i64 n) ∧ w'.cell? ⟨w.heap.size, 1, none⟩ = some (.bool b0) ∧ w'.cell? ⟨w.heap.size, 2, none⟩ = some (.bool b1) ∧ w'.cell? ⟨w.heap.size, 3, none⟩ = some (.bool b2) ∧ w'.cell? ⟨w.heap.size, 4, none⟩ = some (.bool b3) ∧ w'.cell? ⟨w.heap.size, 5, none⟩ = some (.bool b4) ∧ w'.cell? ⟨w.heap.size, 6, none⟩ = some (.bool b5) ∧ w'.cell? ⟨w.heap.size, 7, none⟩ = some (.bool b6) ∧ w'.cell? ⟨w.heap.size, 8, none⟩ = some (.bool b7) ∧ w'.cell? ⟨w.heap.size, 9, none⟩ = some (.map (some M)))) := fun w' h => by
        have v := blk_b V1.out h
        have a := blk_b A1.out h
        have r := blk_b G1.out h
        exact ⟨h, v.cell 0, v.cell 1, v.cell 2, v.cell 3, v.cell 4, v.cell 5, r.cell 0, r.cell 1, r.cell 2, r.cell 3, a.cell 0, a.cell 1, a.cell 2, a.cell 3, a.cell 4, a.cell 5, a.cell 6, a.cell 7, a.cell 8, a.cell 9⟩
      have hS0 := K.out W1.drew ((Below.refl _ _).drew)
      go_wp2_with fail
      refine wp_region_Z (S := fun w' => Hid (Below W1.heap.size W1 w') ∧ w'.cell? ⟨V, 0, none⟩ = some (.func (.func 77) #[] #[]) ∧ w'.cell? ⟨V, 1, none⟩ = some (.int .i64 0) ∧ w'.cell? ⟨V, 2, none⟩ = some (.func (.func 91) #[] #[]) ∧ w'.cell? ⟨V, 3, none⟩ = some (.int .i64 1000000) ∧ w'.cell? ⟨V, 4, none⟩ = some (.int .i64 n) ∧ w'.cell? ⟨V, 5, none⟩ = some (.slice (some ⟨g, 0, none⟩) p p) ∧ w'.cell? ⟨GB, 0, none⟩ = some (.func (.func 77) #[] #[]) ∧ w'.cell? ⟨GB, 1, none⟩ = some (.int .i64 0) ∧ w'.cell? ⟨GB, 2, none⟩ = some (.func (.func 91) #[] #[]) ∧ w'.cell? ⟨GB, 3, none⟩ = some (.int .i64 1000000) ∧ w'.cell? ⟨w.heap.size, 0, none⟩ = some (.int .i64 n) ∧ w'.cell? ⟨w.heap.size, 1, none⟩ = some (.bool b0) ∧ w'.cell? ⟨w.heap.size, 2, none⟩ = some (.bool b1) ∧ w'.cell? ⟨w.heap.size, 3, none⟩ = some (.bool b2) ∧ w'.cell? ⟨w.heap.size, 4, none⟩ = some (.bool b3) ∧ w'.cell? ⟨w.heap.size, 5, none⟩ = some (.bool b4) ∧ w'.cell? ⟨w.heap.size, 6, none⟩ = some (.bool b5) ∧ w'.cell? ⟨w.heap.size, 7, none⟩ = some (.bool b6) ∧ w'.cell? ⟨w.heap.size, 8, none⟩ = some (.bool b7) ∧ w'.cell? ⟨w.heap.size, 9, none⟩ = some (.map (some M))) (by kernel_rfl) hS0 (fun hS => ?_)
      clear hS0
      refine wpAnyZ_take (i := 1) (v := ?vp1) rfl (by kernel_rfl) (by kernel_rfl) (by kernel_rfl) (by kernel_rfl) (fun _ _ _ h => h) (Or.inl ⟨by rfl, ?yp1⟩) (by with_reducible assumption) ?rp1
      case yp1 => (intro w hSw; (try dsimp only at hSw); go_simp; (try with_reducible rfl))
      simp only [Act.put, List.setIfInBounds_toArray]
      refine wpAnyZ_take (i := 2) (v := ?vp2) rfl (by kernel_rfl) (by kernel_rfl) (by kernel_rfl) (by kernel_rfl) (fun _ _ _ h => h) (Or.inl ⟨by rfl, ?yp2⟩) (by with_reducible assumption) ?rp2
      case yp2 => (intro w hSw; (try dsimp only at hSw); go_simp; (try with_reducible rfl))
      simp only [Act.put]
      refine wpAnyZ_take (i := 3) (v := ?vp3) rfl (by kernel_rfl) (by kernel_rfl) (by kernel_rfl) (by kernel_rfl) (fun _ _ _ h => h) (Or.inl ⟨by rfl, ?yp3⟩) (by with_reducible assumption) ?rp3
      case yp3 => (intro w hSw; (try dsimp only at hSw); go_simp; (try with_reducible rfl))
      simp only [Act.put]
      refine wpAnyZ_take (i := 4) (v := ?vp4) rfl (by kernel_rfl) (by kernel_rfl) (by kernel_rfl) (by kernel_rfl) (fun _ _ _ h => h) (Or.inl ⟨by rfl, ?yp4⟩) (by with_reducible assumption) ?rp4
      case yp4 => (intro w hSw; (try dsimp only at hSw); go_simp; (try with_reducible rfl))
      simp only [Act.put]
      refine wpAnyZ_take (i := 0) (v := ?vp0) rfl (by kernel_rfl) (by kernel_rfl) (by kernel_rfl) (by kernel_rfl) (fun _ _ _ h => h) (Or.inl ⟨by rfl, ?yp0⟩) (by with_reducible assumption) ?rp0
      case yp0 => (intro w hSw; (try dsimp only at hSw); go_simp; (try with_reducible rfl))
      simp only [Act.put]
      refine wpAnyZ_step (i := 5) (by kernel_rfl) rfl ?_
      intro K1 hK1
      go_simp
      refine (matrixI_any n M cnt _ _ _ _ _ _ _ _ _ (ltr c) (stepL n ss (ltr c)) _ n1 n2 (by unfold maxLen; show 1 ≤ _; omega) rfl (M1.out.below ((Below.refl _ _).drew))).mono ?_
      rintro e w4 ⟨v4, rfl, ho4, hb4⟩
      obtain ⟨zs, hzs⟩ : ∃ zs, zs = stepL n ss (ltr c) := ⟨_, rfl⟩
      have HMZ := Lib.hid (stepL_ok n1 n2 HOK.out (ltr c))
      rw [← hzs] at ho4 HMZ
      have HZS := Lib.hid hzs
      obtain ⟨x4, rfl, hox4, hlx4⟩ := ho4
      obtain ⟨A4, cap4, rfl, _, hi4⟩ := own_ints hox4 (by unfold maxLen; omega)
      obtain ⟨hzl, hzb⟩ := sq_mv HMZ.out HP.out
      have HZL := Lib.hid hzl
      have HZB := Lib.hid hzb
      rw [hzl]
      have hbw4 := below_on ((Below.refl _ _).drew) hb4
      have hS4 := K.out _ hbw4
      refine hK1.out _ _ hS4 (fun hS1 => ?_)
      clear hK1 hS4 hS hox4 hlx4 hzs hzl hzb
      refine wpAnyZ_step (i := 6) (by kernel_rfl) rfl ?_
      intro K2 hK2
      go_simp
      refine (squareOf_any n p cap4 A4 zs _ n1 n2 HP.out HZL.out hi4).mono ?_
      rintro e w5 ⟨g5, rfl, hb5, hg5, hq5⟩
      have hbw5 := below_on hbw4 hb5
      have hS5 := K.out _ hbw5
      refine hK2.out _ _ hS5 (fun hS2 => ?_)
      clear hK2 hS5 hS1 hi4
      refine wpAnyZ_step (i := 7) (by kernel_rfl) rfl ?_
      intro K3 hK3
      go_simp
      have HMP := Lib.hid (prodL_ok n1 n2 HOK.out (s.data.toList.take k))
      obtain ⟨hpl, hpb⟩ := sq_mv HMP.out HP.out
      refine (times_any n p g g5 (prodL n ss (s.data.toList.take k)) zs _ n1 n2 HP hpl HZL p1 hpb HZB (blk_b Q1.out hbw5) hq5).mono ?_
      rintro e w6 ⟨g6, rfl, hb6, hg6, hq6⟩
      have hbw6 := below_on hbw5 hb6
      have hS6 := K.out _ hbw6
      unfold sqV
      refine hK3.out _ _ hS6 (fun hS3 => ?_)
      clear hK3 hS6 hS2 hq5
      have V6 := Lib.hid (blk_b V1.out hbw6)
      have I6 := Lib.hid ((hbw6.block I (Array.getElem?_eq_some_iff.1 I1.out).1).trans I1.out)
      have J6 := Lib.hid (J1.out.below_ hbw6)
      have Q6 := Lib.hid hq6
      have hVg : ¬ V = g6 := by have := Blk.lt V1.out; have := hbw5.size; omega
      have hIg : I < g6 := by have := (Array.getElem?_eq_some_iff.1 I1.out).1; have := hbw5.size; omega
      have HQN : Hid (mulL n (prodL n ss (s.data.toList.take k)) zs = prodL n ss (s.data.toList.take (k + 1))) := by
        show _ = _
        rw [HTK.out, prodL_snoc, ← HZS.out]
      obtain ⟨q0, q1, q2, q3, q4, q5⟩ := six_cells V6.out
      obtain ⟨f0, f1, f2, f3, f4, f5⟩ := six_frozen V6.out
      refine wpAnyZ_last (i := 8) (by kernel_rfl) rfl (by kernel_rfl) ?_
      intro R hR
      go_simp
      refine hR.out _ _ ?_
      clear hR q0 q1 q2 q3 q4 q5 f0 f1 f2 f3 f4 f5 hS3 hq6 hpl hpb
      have VN := Lib.hid (six_blk V6.out (.func (.func 77) #[] #[]) (.int .i64 0) (.func (.func 91) #[] #[]) (.int .i64 1000000) (.int .i64 n) (.slice (some ⟨g6, 0, none⟩) p p))
      have GN := six_grow w6 V (.func (.func 77) #[] #[]) (.int .i64 0) (.func (.func 91) #[] #[]) (.int .i64 1000000) (.int .i64 n) (.slice (some ⟨g6, 0, none⟩) p p)
      have I7 := Lib.hid ((GN.block I (Array.getElem?_eq_some_iff.1 I6.out).1 (by intro e; cases e; omega)).trans I6.out)
      have Q7 : Hid (Sq (six w6 V (.func (.func 77) #[] #[]) (.int .i64 0) (.func (.func 91) #[] #[]) (.int .i64 1000000) (.int .i64 n) (.slice (some ⟨g6, 0, none⟩) p p)) g6 (prodL n ss (s.data.toList.take (k + 1)))) := by
        rw [← HQN.out]
        exact Blk.trans_ (GN.block g6 (Blk.lt Q6.out) (by intro e; cases e; omega)) Q6.out
      have J7 := Lib.hid (J6.out.trans (Ins.of_grow GN (fun j e => by cases e; omega)))
      have hm7 : (six w6 V (.func (.func 77) #[] #[]) (.int .i64 0) (.func (.func 91) #[] #[]) (.int .i64 1000000) (.int .i64 n) (.slice (some ⟨g6, 0, none⟩) p p)).iterPos I = k + 1 := by simp [World.iterPos, I7.out]
      clear GN hb4 hb5 hb6 hbw4 hbw5 hbw6
      go_wp2_with fail
      go_roundw
      case rel => exact ⟨k + 1, g6, by omega, Or.inr hIg, by omega, I7, VN, Q7, J7⟩
      case measure =>
        have hm8 := hm7
        unfold six at hm8
        rw [hm8, HMU.out]; omega
    · have hkl : k = s.size := by omega
      have hnx := fun ty => Lib.run_next_end_at (P := Tryd.prog) wr I s k ty hit.out hlt
      have HQ : Hid (Sq wr g (prodL n ss s.data.toList)) := by
        have h := hq.out
        rw [List.take_of_length_le (by rw [← Lib.size_eq]; omega)] at h
        exact h
      have R7 := Lib.hid (hins.out.blk R3.out (Or.inl (by omega)))
      have B7 := Lib.hid (hins.out.below B3.out (by omega) B3.out.size)
      clear hkl hit hins hq
      obtain ⟨q0, q1, q2, q3, q4, q5⟩ := six_cells hv.out
      obtain ⟨d0, d1, d2, d3, d4, d5⟩ := six_cells R7.out
      obtain ⟨f0, f1, f2, f3, f4, f5⟩ := six_frozen R7.out
      go_wp2_with fail
      have HF := six_blk R7.out (.func (.func 77) #[] #[]) (.int .i64 0) (.func (.func 91) #[] #[]) (.int .i64 1000000) (.int .i64 n) (.slice (some ⟨g, 0, none⟩) p p)
      have HG := six_grow wr (w.heap.size + 1) (.func (.func 77) #[] #[]) (.int .i64 0) (.func (.func 91) #[] #[]) (.int .i64 1000000) (.int .i64 n) (.slice (some ⟨g, 0, none⟩) p p)
      refine bodyPost_ret (results_1 rfl (gives_sq (g := w.heap.size + 1) rfl HF)) rfl ?_
      refine ⟨g, rfl, B7.out.grown HG B7.out.size (fun j hj => by cases hj; omega), ?_, ?_⟩
      · omega
      · exact Blk.trans_ (HG.block g (Blk.lt HQ.out) (by intro e; cases e; omega)) HQ.out
end Go.Proofs.YthgkhpbfbilgmaaDoor
