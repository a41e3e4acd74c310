/- The product of the matrices of a word's letters, the program's: in new memory; nothing that was there changes. Conditions: one to four states, steps between them, a word. -/
import Derived.Test.YtlfffoglldobeaaPathT
import Derived.Test.YtlfffoglldobeaaSq7
import Derived.Test.YtlfffoglldobeaaMarkA
import Derived.Lib.OthersKept
namespace Go.Proofs.Ytlfffoglldobeaa
open Go.RowKit
set_option maxHeartbeats 4000000
set_option maxRecDepth 100000
set_option linter.unusedVariables false

theorem CMap.same {w w' : World} {M n : Nat} {F : Int → ByteArray → Int → Option Int} (h : CMap w M n F) (he : w'.heap[M]? = w.heap[M]?) : CMap w' M n F := by
  obtain ⟨D, ⟨es, c, h1, h2⟩, h3⟩ := h
  exact ⟨D, ⟨es, c, he.trans h1, h2⟩, h3⟩
theorem word_at {s : ByteArray} (h : s.data.toList.all isAB = true) {k : Nat} (hk : k < s.size) : isAB (s[k]'hk) = true := by
  have hl : k < s.data.toList.length := by rw [← Lib.size_eq]; exact hk
  exact List.all_eq_true.1 h _ (List.getElem_mem (l := s.data.toList) hl)
theorem take_snoc_b {s : ByteArray} {k : Nat} (hk : k < s.size) : s.data.toList.take (k + 1) = s.data.toList.take k ++ [s[k]'hk] := by
  have hl : k < s.data.toList.length := by rw [← Lib.size_eq]; exact hk
  rw [List.take_succ_eq_append_getElem hl]; rfl
theorem conv_ltr {b : UInt8} (h : isAB b = true) (w : World) : (convert 21 9 (.int .i32 (b.toNat : Int))).run Try.prog w = .ok (.string (ltr b)) w := by
  rcases isAB_cases h with rfl | rfl <;> kernel_rfl
theorem ab_small {b : UInt8} (h : isAB b = true) : b.toNat < 128 := by
  rcases isAB_cases h with rfl | rfl <;> decide
theorem sq_mv {n p : Nat} {zs : List Int} (h : MV n zs) (hp : p = n * n) : (zs.length = p) ∧ ∀ q, q < p → 0 ≤ zs.getD q 0 ∧ zs.getD q 0 ≤ 1000000 := ⟨by rw [h.len, hp], fun q hq => by
  have hl : q < zs.length := by rw [h.len, ← hp]; exact hq
  rw [List.getD_eq_getElem?_getD, List.getElem?_eq_getElem hl]
  exact vld_t (List.all_eq_true.1 h.all _ (List.getElem_mem hl))⟩
theorem Blk.trans_ {w w' : World} {j : Nat} {t : TypeId} {cs : Array Value} (he : w'.heap[j]? = w.heap[j]?) (h : Blk w j t cs) : Blk w' j t cs := he.trans h
def six (w : World) (g : Nat) (v0 v1 v2 v3 v4 v5 : Value) : World := (((((w.setCell ⟨g, 0, none⟩ v0).setCell ⟨g, 1, none⟩ v1).setCell ⟨g, 2, none⟩ v2).setCell ⟨g, 3, none⟩ v3).setCell ⟨g, 4, none⟩ v4).setCell ⟨g, 5, none⟩ v5
theorem six_grow (w : World) (g : Nat) (v0 v1 v2 v3 v4 v5 : Value) : w.grownBy (six w g v0 v1 v2 v3 v4 v5) (some g) := by
  unfold six
  exact grow_trans (grow_trans (grow_trans (grow_trans (grow_trans (grow_set _ g 0 v0) (grow_set _ g 1 v1)) (grow_set _ g 2 v2)) (grow_set _ g 3 v3)) (grow_set _ g 4 v4)) (grow_set _ g 5 v5)
theorem six_blk {w : World} {g : Nat} {t : TypeId} {u0 u1 u2 u3 u4 u5 : Value} (h : Blk w g t #[u0, u1, u2, u3, u4, u5]) (v0 v1 v2 v3 v4 v5 : Value) : Blk (six w g v0 v1 v2 v3 v4 v5) g t #[v0, v1, v2, v3, v4, v5] := by
  unfold six
  have h0 : Blk _ g t #[v0, u1, u2, u3, u4, u5] := h.set_ 0 v0
  have h1 : Blk _ g t #[v0, v1, u2, u3, u4, u5] := h0.set_ 1 v1
  have h2 : Blk _ g t #[v0, v1, v2, u3, u4, u5] := h1.set_ 2 v2
  have h3 : Blk _ g t #[v0, v1, v2, v3, u4, u5] := h2.set_ 3 v3
  have h4 : Blk _ g t #[v0, v1, v2, v3, v4, u5] := h3.set_ 4 v4
  exact h4.set_ 5 v5
theorem Ins.iter {B T k : Nat} {w w' : World} (h : Ins B T w w') (s : ByteArray) (q : Nat) (h1 : B ≤ k) (h2 : k < T) : Ins B T w (w'.iterAt k s q) :=
  h.trans ⟨rfl, rfl, rfl, by rw [Lib.iterAt_size]; exact Nat.le_refl _, fun j _ ho => Lib.iterAt_other w' k j s q (by omega)⟩
theorem Ins.below_ {B T : Nat} {w w' w'' : World} (h : Ins B T w w') (hb : Below w'.heap.size w' w'') : Ins B T w w'' :=
  h.trans ⟨hb.os, hb.tape, hb.output, hb.size, fun j hj _ => hb.block j hj⟩

end Go.Proofs.Ytlfffoglldobeaa
