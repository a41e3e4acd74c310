/- Tools for drawn texts; two lists held against each other; nothing that was there changes. Condition: the bytes can be read. -/
import Derived.Test.YtonnolpjfjbjpaaDoorRound
import Derived.Test.YtonnolpjfjbjpaaDoorParsesLaw
namespace Go.Proofs.YtonnolpjfjbjpaaDoor
open Go.RowKit
set_option maxHeartbeats 1000000
set_option maxRecDepth 100000
set_option linter.unusedVariables false

theorem daSame_any (A A' : Option Addr) (cap cap' B B' : Nat) (zs : List Int) (w : World) (hz : Ints w B A zs) (hy : Ints w B' A' zs) :
    Calls Tryd.prog 28 #[.slice A zs.length cap, .slice A' zs.length cap'] w fun e w' => e = .returned (.bool true) ∧ ∃ m, w' = w.drewN m := by
  have hl := hz.len
  go_enter Tryd.func28, Tryd.ntmps28
  go_wp2
  go_loopw [11] (fun i wr => ∃ (k m : Nat), k ≤ zs.length ∧ i = .int .i64 k ∧ wr = w.drewN m) (fun i _ => zs.length - (intOf i).toNat)
  case atStart => exact ⟨0, 0, Nat.zero_le _, rfl, rfl⟩
  case round =>
    obtain ⟨k, m, hk, rfl, rfl⟩ := hrel
    by_cases hlt : k < zs.length
    · obtain ⟨b, off, z, rfl, hbB, hc, hd, hg⟩ := hz.at_ hlt
      obtain ⟨b', off', y, rfl, hbB', hc', hd', hg'⟩ := hy.at_ hlt
      have ezy : y = z := hg'.symm.trans hg
      subst ezy
      clear hd hg hd' hg'
      have hi0 : (0 : Int) ≤ (k : Int) := by omega
      have hi1 : (k : Int) < (zs.length : Int) := by omega
      go_wp2
      go_quiet (fail)
      go_wp2
      go_roundw
      case rel => exact ⟨k + 1, _, by omega, by go_num, rfl⟩
      case measure => simp [intOf]; omega
    · go_wp2
      go_ret
      exact ⟨rfl, _, rfl⟩
theorem same_own (w : World) (base base' : Nat) (x y : Value) (vs : List Int) (hn : vs.length ≤ 1048577) (h : w.ownsRow base 3 1 x vs.length (vs.map (Value.int .i64))) (h' : w.ownsRow base' 3 1 y vs.length (vs.map (Value.int .i64))) :
    Calls Tryd.prog 28 #[x, y] w fun e w' => e = .returned (.bool true) ∧ ∃ m, w' = w.drewN m := by
  obtain ⟨A, cap, rfl, hc, hi⟩ := own_ints h (by unfold maxLen; omega)
  obtain ⟨A', cap', rfl, hc', hi'⟩ := own_ints h' (by unfold maxLen; omega)
  exact daSame_any A A' cap cap' _ _ vs w hi hi'

/-- What a drawing function leaves that returns a text of a list. -/
def DrawnS (B g : Nat) (A : Option Addr) (cap : Nat) (zs : List Int) (p K : Nat) (P : ByteArray → Prop) (w : World) (e : Ending) (w' : World) : Prop :=
  ∃ (v : ByteArray) (q : Nat), e = .returned (.string v) ∧ P v ∧ q ≤ p + K ∧ Rd w' B g A cap zs q ∧ w.grownBy w' (some g)

theorem of_of (w : World) (B g l : Nat) (A : Option Addr) (cap : Nat) (zs : List Int) (p n : Nat) (vs : List ByteArray) (h : Rd w B g A cap zs p) (hp : p + 1 ≤ 1000000000000) (hn : n = vs.length) (h1 : 1 ≤ n) (hN : n ≤ 1000) (hlg : ¬ l = g)
    (hrow : ∀ k, k < n → w.cell? ⟨l, k, none⟩ = some (.string (vs.getD k ByteArray.empty))) :
    Calls Tryd.prog 31 #[.pointer (some ⟨g, 0, none⟩), .slice (some ⟨l, 0, none⟩) n n] w fun e w' => DrawnS B g A cap zs p 1 (fun v => v ∈ vs) w e w' := by
  have HR := Lib.hid hrow
  have HN := Lib.hid hn
  clear hrow hn
  have hn' : (n : Int) ≤ 1000000000000 := by omega
  go_enter Tryd.func31, Tryd.ntmps31
  go_wp2_with fail
  refine (pick_any _ _ _ _ _ _ _ _ h hn').mono ?_
  rintro e w1 ⟨v, rfl, v0, v1, hoff, hrd⟩
  obtain ⟨k, rfl⟩ := Int.eq_ofNat_of_zero_le v0
  have hkn : k < n := by have := v1 (by omega); omega
  have hrd1 := hrd hp
  clear hrd v1
  have hcell : w1.cell? ⟨l, k, none⟩ = some (.string (vs.getD k ByteArray.empty)) := (World.cell?_of_block (hoff.block l hlg)).trans (HR.out k hkn)
  obtain ⟨x, hx⟩ : ∃ x, x = vs.getD k ByteArray.empty := ⟨_, rfl⟩
  rw [← hx] at hcell
  have HX := Lib.hid hx
  have HO := Lib.hid hoff
  have HD := Lib.hid hrd1
  clear hx hoff hrd1 v0
  go_wp2
  go_ret
  refine ⟨x, p + 1, rfl, ?_, Nat.le_refl _, HD.out, HO.out.grown⟩
  rw [HX.out, List.getD_eq_getElem?_getD, List.getElem?_eq_getElem (by rw [← HN.out]; exact hkn)]
  exact List.getElem_mem _
theorem row_strs (w : World) (vs : List ByteArray) : ∀ k, k < vs.length → (w.alloc (.cells (vs.map Value.string).toArray 9)).cell? ⟨w.heap.size, k, none⟩ = some (.string (vs.getD k ByteArray.empty)) := by
  intro k hk
  rw [(Blk.new w 9 _).cell k]
  rw [List.getElem?_toArray, List.getElem?_map, List.getElem?_eq_getElem hk, List.getD_eq_getElem?_getD, List.getElem?_eq_getElem hk]
  rfl

end Go.Proofs.YtonnolpjfjbjpaaDoor
