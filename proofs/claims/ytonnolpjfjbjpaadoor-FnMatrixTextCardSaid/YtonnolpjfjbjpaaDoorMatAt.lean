/- A matrix in a variable, with a row of its own, through a walk of many calls; what the program's and the model's functions leave, put so. No condition. -/
import Derived.Test.YtonnolpjfjbjpaaDoorFaceMul
import Derived.Test.YtonnolpjfjbjpaaDoorSpecMul
import Derived.Test.YtonnolpjfjbjpaaDoorVK
namespace Go.Proofs.YtonnolpjfjbjpaaDoor
open Go.RowKit
set_option maxHeartbeats 1000000
set_option maxRecDepth 100000
set_option linter.unusedVariables false

/-- What a function leaves that returns a matrix, put for a walk (its size under a name of its own: two equal values in two blocks stall the walk). -/
def REnd (m : Int) (zs : List Int) (ok : Bool) (w : World) (e : Ending) (w' : World) : Prop :=
  ∃ (k : Int) (A : Option Addr) (cap : Nat), e = .returned (.tuple #[.agg #[.int .i64 k, .slice A zs.length cap], .bool ok]) ∧ Hid (k = m) ∧ Hid (OwnI w' A cap zs) ∧ zs.length ≤ 1048577 ∧ Hid (Below w.heap.size w w')
theorem MEnd.form {r : Option (Int × List Int)} {w w' : World} {e : Ending} {m : Int} {zs : List Int} {ok : Bool} (h : MEnd r w e w') (h1 : (r.getD (0, [])).1 = m) (h2 : (r.getD (0, [])).2 = zs) (h3 : r.isSome = ok) : REnd m zs ok w e w' := by
  obtain ⟨v, rfl, ⟨x, rfl, ho, hl⟩, hb⟩ := h
  rw [h2] at ho hl
  obtain ⟨A, cap, rfl, _, _⟩ := own_ints ho (by unfold maxLen; omega)
  rw [h3]
  exact ⟨_, A, cap, rfl, h1, own_base ho (Nat.zero_le _), hl, hb⟩
theorem iTurn_r (m mr : Int) (zs rs : List Int) (ok : Bool) (A : Option Addr) (cap : Nat) (w : World) (hz : OwnI w A cap zs) (hl : zs.length ≤ 1048577) (h1 : ((turnR m zs).getD (0, [])).1 = mr) (h2 : ((turnR m zs).getD (0, [])).2 = rs) (h3 : (turnR m zs).isSome = ok) :
    Calls Tryd.prog 14 #[.agg #[.int .i64 m, .slice A zs.length cap]] w fun e w' => REnd mr rs ok w e w' :=
  (iTurn_any m A cap zs w (hz.ints hl)).mono fun e w' h => h.form h1 h2 h3
theorem iValid_r (m : Int) (zs : List Int) (ok : Bool) (A : Option Addr) (cap : Nat) (w : World) (hz : OwnI w A cap zs) (hl : zs.length ≤ 1048577) (h1 : matOk m zs = ok) :
    Calls Tryd.prog 8 #[.agg #[.int .i64 m, .slice A zs.length cap]] w fun e w' => e = .returned (.bool ok) ∧ Hid (Below w.heap.size w w') :=
  (iMatrixValid_is m A cap zs ok w (hz.ints hl) h1).mono fun e w' h => h

theorem da_loop (A A' : Option Addr) (cap cap' B B' : Nat) (zs : List Int) (w : World) (hz : Ints w B A zs) (hy : Ints w B' A' zs) :
    Calls Tryd.prog 28 #[.slice A zs.length cap, .slice A' zs.length cap'] w fun e w' => e = .returned (.bool true) ∧ ∃ m, w' = w.drewN m := by
  have hl := hz.len
  go_enter Tryd.func28, Tryd.ntmps28
  go_wp2
  go_loopw [11] (fun i wr => ∃ (k m : Nat), k ≤ zs.length ∧ i = .int .i64 k ∧ wr = w.drewN m) (fun i _ => zs.length - (intOf i).toNat)
  case atStart => exact ⟨0, 0, Nat.zero_le _, rfl, rfl⟩
  case round =>
    obtain ⟨k, m, hk, rfl, rfl⟩ := hrel
    by_cases hlt : k < zs.length
    · obtain ⟨b, off, z, rfl, hbB, hc, hd, hg⟩ := hz.at_ hlt
      obtain ⟨b', off', y, rfl, hbB', hc', hd', hg'⟩ := hy.at_ hlt
      have ezy : y = z := hg'.symm.trans hg
      subst ezy
      clear hd hg hd' hg'
      have hi0 : (0 : Int) ≤ (k : Int) := by omega
      have hi1 : (k : Int) < (zs.length : Int) := by omega
      go_wp2
      go_quiet (fail)
      go_wp2
      go_roundw
      case rel => exact ⟨k + 1, _, by omega, by go_num, rfl⟩
      case measure => simp [intOf]; omega
    · go_wp2
      go_ret
      exact ⟨rfl, _, rfl⟩
theorem da_r (k k' : Int) (zs : List Int) (A A' : Option Addr) (cap cap' : Nat) (w : World) (hk : k = k') (hz : OwnI w A cap zs) (hy : OwnI w A' cap' zs) (hl : zs.length ≤ 1048577) :
    Calls Tryd.prog 10 #[.agg #[.int .i64 k, .slice A zs.length cap], .agg #[.int .i64 k', .slice A' zs.length cap']] w fun e w' => e = .returned (.bool true) ∧ Hid (Below w.heap.size w w') := by
  subst hk
  have HZ := Lib.hid (hz.ints hl)
  have HY := Lib.hid (hy.ints hl)
  clear hz hy
  go_enter Tryd.func10, Tryd.ntmps10
  go_wp2_with fail
  refine (da_loop _ _ _ _ _ _ _ _ (ints_al (ints_al HZ.out _) _) (ints_al (ints_al HY.out _) _)).mono ?_
  rintro e w' ⟨rfl, k, rfl⟩
  go_wp2_with fail
  go_ret
  exact ⟨rfl, Lib.hid (⟨rfl, rfl, rfl, by simp; omega, fun j hj => (below_a2 w _ _).block j hj⟩)⟩
end Go.Proofs.YtonnolpjfjbjpaaDoor
