/- Rows of texts that lie in a block known whole, and the library's joining of up to four of them with strokes between them: what was there stands. Condition: short texts. -/
import Derived.Test.YtmdddjiegjcekaaMats
import Derived.Lib.Join
import Derived.Test.YtmdddjiegjcekaaShelf
namespace Go.Proofs.Ytmdddjiegjcekaa
open Go.RowKit
set_option maxHeartbeats 4000000
set_option maxRecDepth 100000
set_option linter.unusedVariables false

def bw (l : List UInt8) : Value := .string ⟨l.toArray⟩
theorem str_cell {w : World} {g k : Nat} {t : TypeId} {L : List (List UInt8)} (h : Blk w g t (L.map bw).toArray) (hk : k < L.length) : w.cell? ⟨g, k, none⟩ = some (.string ⟨(L.getD k []).toArray⟩) := by
  rw [h.cell k, List.getElem?_toArray, List.getElem?_map, List.getElem?_eq_getElem hk, List.getD_eq_getElem?_getD, List.getElem?_eq_getElem hk]; rfl
theorem str_set {w : World} {g : Nat} {t : TypeId} {L : List (List UInt8)} (h : Blk w g t (L.map bw).toArray) (k : Nat) (x : List UInt8) : Blk (w.setCell ⟨g, k, none⟩ (bw x)) g t ((L.set k x).map bw).toArray := by
  have h2 := h.set_ k (bw x)
  rw [List.map_set]
  simpa using h2
theorem getD_setL {α : Type} (cs : List (List α)) (j q : Nat) (v : List α) (hj : j < cs.length) : (cs.set j v).getD q [] = if q = j then v else cs.getD q [] := by
  rw [List.getD_eq_getElem?_getD, List.getElem?_set]
  by_cases h : j = q
  · subst h; simp [hj]
  · rw [if_neg h, if_neg (fun e => h e.symm), List.getD_eq_getElem?_getD]
theorem join_few4 (L : List (List UInt8)) (h : ∀ x ∈ L, x.length ≤ 4) : (Lib.join L [47]).length ≤ 5 * L.length := by
  cases L with
  | nil => simp [Lib.join_nil]
  | cons a r =>
    rw [Lib.join_length]
    have : ∀ r : List (List UInt8), (∀ x ∈ r, x.length ≤ 4) → Lib.lens r ≤ 4 * r.length := by
      intro r
      induction r with
      | nil => intro _; simp [Lib.lens]
      | cons b r ih =>
        intro hh
        have hb := hh b (by simp)
        have := ih (fun x hx => hh x (by simp [hx]))
        simp [Lib.lens] at this ⊢
        omega
    have h1 := this (a :: r) h
    simp at h1 ⊢
    omega
theorem join_rows (g n : Nat) (L : List (List UInt8)) (w : World) (hn : L.length = n) (n1 : 1 ≤ n) (n2 : n ≤ 4) (hl : ∀ x ∈ L, x.length ≤ 4) (hg : g < w.heap.size) (hc : ∀ k, k < n → w.cell? ⟨g, k, none⟩ = some (.string ⟨(L.getD k []).toArray⟩)) :
    Calls Try.prog 15 #[.slice (some ⟨g, 0, none⟩) n n, .string ⟨#[47]⟩] w fun e w' => e = .returned (.string ⟨(Lib.join L [47]).toArray⟩) ∧ Below w.heap.size w w' := by
  have hmap : (L.map (fun l => (⟨l.toArray⟩ : ByteArray))).map (·.data.toList) = L := by rw [List.map_map]; exact List.map_id' _
  have h0 := join_few4 L hl
  have hcells : ∀ (j : Nat) x, (L.map (fun l => (⟨l.toArray⟩ : ByteArray)))[j]? = some x → w.cell? ⟨g, 0 + j, none⟩ = some (.string x) := by
    intro j x hj
    rw [List.getElem?_map] at hj
    have hjl : j < L.length := by
      rcases Nat.lt_or_ge j L.length with h | h
      · exact h
      · rw [List.getElem?_eq_none h] at hj; cases hj
    have h1 := hc j (by omega)
    rw [List.getElem?_eq_getElem hjl] at hj
    cases hj
    rw [Nat.zero_add, h1, List.getD_eq_getElem?_getD, List.getElem?_eq_getElem hjl]
    rfl
  have hj := Try.strings_Join g 0 n (L.map (fun l => (⟨l.toArray⟩ : ByteArray))) ⟨#[47]⟩ w hcells hg (by rw [List.length_map]; omega) (by rw [List.length_map]; omega) (by rw [hmap]; show (Lib.join L [47]).length ≤ _; omega)
  rw [hmap, List.length_map, hn] at hj
  exact hj
end Go.Proofs.Ytmdddjiegjcekaa
