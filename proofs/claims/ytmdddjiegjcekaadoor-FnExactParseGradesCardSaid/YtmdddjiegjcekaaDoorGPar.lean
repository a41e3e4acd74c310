/- Plain mathematics of what a text of grades reads as; and where a letter stands among the four, the model's search and the library's. No condition. -/
import Derived.Test.YtmdddjiegjcekaaDoorGTxt
import Derived.Test.YtmdddjiegjcekaaDoorParses
namespace Go.Proofs.YtmdddjiegjcekaaDoor
open Go.RowKit
set_option maxHeartbeats 1000000
set_option maxRecDepth 100000
set_option linter.unusedVariables false

/-- The grade of a letter, -1 if it has none. -/
def fndI (c : Int) : Int := if c = 48 then 0 else if c = 49 then 1 else if c = 119 then 2 else if c = 45 then 3 else -1
def fnd (c : UInt8) : Int := fndI c.toNat
def fnds (L : List (List UInt8)) : List Int := L.flatten.map fnd
def lensOk (n : Nat) (L : List (List UInt8)) : Bool := L.all fun r => decide (r.length = n)
/-- What a text of a matrix of grades reads as. -/
def parseG (l : List UInt8) : Option (Int × List Int) := if lensOk (cutL 47 l).length (cutL 47 l) = true ∧ gradeOk ((cutL 47 l).length : Int) (fnds (cutL 47 l)) = true then some (((cutL 47 l).length : Int), fnds (cutL 47 l)) else none
theorem parseG_len {l : List UInt8} {n : Nat} (hn : (cutL 47 l).length = n) {p : List UInt8} (hp : p ∈ cutL 47 l) (h : ¬ p.length = n) : parseG l = none := by
  unfold parseG
  rw [if_neg]
  rintro ⟨h1, _⟩
  rw [hn] at h1
  exact h (by simpa using List.all_eq_true.1 h1 p hp)
theorem parseG_bad {l : List UInt8} {n : Nat} {vs : List Int} (hn : (cutL 47 l).length = n) (hv : vs = fnds (cutL 47 l)) (h : gradeOk (n : Int) vs = false) : parseG l = none := by
  unfold parseG
  rw [if_neg]
  rintro ⟨_, h2⟩
  rw [hn, ← hv, h] at h2
  cases h2
theorem parseG_ok {l : List UInt8} {n : Nat} {vs : List Int} (hn : (cutL 47 l).length = n) (hv : vs = fnds (cutL 47 l)) (hl : lensOk n (cutL 47 l) = true) (h : gradeOk (n : Int) vs = true) : parseG l = some ((n : Int), vs) := by
  unfold parseG
  rw [hn, ← hv, if_pos ⟨hl, h⟩]
theorem parseG_big {l : List UInt8} {n : Nat} (hn : (cutL 47 l).length = n) (h : ¬ n ≤ 4) : parseG l = none :=
  parseG_bad hn rfl (gradeOk_mat (matOk_size (by omega)))
theorem fnds_snoc {Q : List (List UInt8)} {k : Nat} {p : List UInt8} (hd : Q.drop k = p :: Q.drop (k + 1)) : fnds (Q.take (k + 1)) = fnds (Q.take k) ++ p.map fnd := by
  have hk : k < Q.length := by
    rcases Nat.lt_or_ge k Q.length with h | h
    · exact h
    · rw [List.drop_of_length_le h] at hd; cases hd
  have hp : Q[k] = p := by
    have := List.drop_eq_getElem_cons hk
    rw [hd] at this
    injection this with h1 h2
    exact h1.symm
  unfold fnds
  rw [List.take_succ_eq_append_getElem hk, List.flatten_append, List.map_append, hp]
  simp
theorem lens_snoc {Q : List (List UInt8)} {k n : Nat} {p : List UInt8} (hd : Q.drop k = p :: Q.drop (k + 1)) (h : lensOk n (Q.take k) = true) (hp : p.length = n) : lensOk n (Q.take (k + 1)) = true := by
  have hk : k < Q.length := by
    rcases Nat.lt_or_ge k Q.length with h | h
    · exact h
    · rw [List.drop_of_length_le h] at hd; cases hd
  have hq : Q[k] = p := by
    have := List.drop_eq_getElem_cons hk
    rw [hd] at this
    injection this with h1 h2
    exact h1.symm
  unfold lensOk at h ⊢
  rw [List.take_succ_eq_append_getElem hk, List.all_append, h, hq]
  simp [hp]
theorem mem_of_drop {α : Type} {Q : List α} {k : Nat} {p : α} (hd : Q.drop k = p :: Q.drop (k + 1)) : p ∈ Q := List.mem_of_mem_drop (i := k) (by rw [hd]; simp)
theorem map_snoc (p : List UInt8) {j : Nat} (hj : j < p.length) : (p.take (j + 1)).map fnd = (p.take j).map fnd ++ [fnd p[j]] := by
  rw [List.take_succ_eq_append_getElem hj, List.map_append]; rfl

theorem l13Find_is (c v : Int) (w : World) (hv : fndI c = v) :
    Calls Tryd.prog 10 #[.string ⟨#[48, 49, 119, 45]⟩, .int .u8 c] w fun e w' => e = .returned (.int .i64 v) ∧ w = w' := by
  by_cases h0 : c = 48
  · subst h0
    have hv' : v = 0 := by rw [← hv]; rfl
    subst hv'
    clear hv
    go_enter Tryd.func10, Tryd.ntmps10
    go_wp2
    refine wp_loop_rounds 1 ?_
    rw [rounds_succ]
    go_wp2
    go_ret
    exact ⟨rfl, rfl⟩
  have b0 : ((({ data := #[48, 49, 119, 45] } : ByteArray)[0].toNat : Int) == c) = false := by show ((48 : Int) == c) = false; rw [beq_eq_false_iff_ne]; omega
  by_cases h1 : c = 49
  · subst h1
    have hv' : v = 1 := by rw [← hv]; rfl
    subst hv'
    clear hv
    go_enter Tryd.func10, Tryd.ntmps10
    go_wp2
    refine wp_loop_rounds 2 ?_
    rw [rounds_succ]
    go_wp2
    rw [rounds_succ]
    go_wp2
    go_ret
    exact ⟨rfl, rfl⟩
  have b1 : ((({ data := #[48, 49, 119, 45] } : ByteArray)[1].toNat : Int) == c) = false := by show ((49 : Int) == c) = false; rw [beq_eq_false_iff_ne]; omega
  by_cases h2 : c = 119
  · subst h2
    have hv' : v = 2 := by rw [← hv]; rfl
    subst hv'
    clear hv
    go_enter Tryd.func10, Tryd.ntmps10
    go_wp2
    refine wp_loop_rounds 3 ?_
    rw [rounds_succ]
    go_wp2
    rw [rounds_succ]
    go_wp2
    rw [rounds_succ]
    go_wp2
    go_ret
    exact ⟨rfl, rfl⟩
  have b2 : ((({ data := #[48, 49, 119, 45] } : ByteArray)[2].toNat : Int) == c) = false := by show ((119 : Int) == c) = false; rw [beq_eq_false_iff_ne]; omega
  by_cases h3 : c = 45
  · subst h3
    have hv' : v = 3 := by rw [← hv]; rfl
    subst hv'
    clear hv
    go_enter Tryd.func10, Tryd.ntmps10
    go_wp2
    refine wp_loop_rounds 4 ?_
    rw [rounds_succ]
    go_wp2
    rw [rounds_succ]
    go_wp2
    rw [rounds_succ]
    go_wp2
    rw [rounds_succ]
    go_wp2
    go_ret
    exact ⟨rfl, rfl⟩
  have b3 : ((({ data := #[48, 49, 119, 45] } : ByteArray)[3].toNat : Int) == c) = false := by show ((45 : Int) == c) = false; rw [beq_eq_false_iff_ne]; omega
  have hv' : v = -1 := by rw [← hv]; unfold fndI; rw [if_neg h0, if_neg h1, if_neg h2, if_neg h3]
  subst hv'
  clear hv h0 h1 h2 h3
  go_enter Tryd.func10, Tryd.ntmps10
  go_wp2
  refine wp_loop_rounds 5 ?_
  rw [rounds_succ]
  go_wp2
  rw [rounds_succ]
  go_wp2
  rw [rounds_succ]
  go_wp2
  rw [rounds_succ]
  go_wp2
  rw [rounds_succ]
  go_wp2
  go_ret
  exact ⟨rfl, rfl⟩
theorem iByte_is (c : UInt8) (w : World) :
    Calls Tryd.prog 14 #[.string ⟨#[48, 49, 119, 45]⟩, .int .u8 (c.toNat : Int)] w fun e w' => e = .returned (.int .i64 (fnd c)) ∧ w = w' := by
  refine (Tryd.strings_IndexByte ⟨#[48, 49, 119, 45]⟩ (c.toNat : Int) w).mono ?_
  rintro e w' ⟨rfl, rfl⟩
  refine ⟨ret_int ?_, rfl⟩
  have hc : ((c.toNat : Int).toNat.toUInt8) = c := by
    rw [Int.toNat_natCast]
    exact UInt8.ofNat_toNat
  rw [hc]
  have h : ∀ n : Fin 256, Lib.indexByte [48, 49, 119, 45] (UInt8.ofNat n.val) = fnd (UInt8.ofNat n.val) := by decide
  have h1 := h ⟨c.toNat, c.toNat_lt⟩
  rwa [show UInt8.ofNat c.toNat = c from UInt8.ofNat_toNat] at h1
end Go.Proofs.YtmdddjiegjcekaaDoor
