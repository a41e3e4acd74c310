/- Matrices marked and held, as the laws do it. Condition: at most 2^20 and one numbers. -/
import Derived.Test.YtmdddjiegjcekaaDoorMats
namespace Go.Proofs.YtmdddjiegjcekaaDoor
open Go.RowKit
set_option maxHeartbeats 1000000
set_option linter.unusedVariables false

theorem mark_from (w : World) (base g n cap : Nat) (k0 : Int) (cs : List Value) (hn : n ≤ 1048577) (h0 : 0 ≤ k0) (h1 : k0 ≤ 1099511627776) (h : w.ownsRow base 3 1 (.slice (some ⟨g, 0, none⟩) n cap) n cs) :
    Calls Tryd.prog 17 #[.slice (some ⟨g, 0, none⟩) n cap, .int .i64 k0] w fun e w' => e = .returned (.int .i64 (k0 + n)) ∧ w.grownBy w' (some g) := by
  have H := Lib.hid h
  clear h
  go_enter Tryd.func17, Tryd.ntmps17
  go_wp2
  go_loopw [1, 5] (fun q i wr => ∃ (k : Nat) (cs : List Value), k ≤ n ∧ i = .int .i64 k ∧ q = .int .i64 (k0 + (k : Int)) ∧ Hid (wr.ownsRow base 3 1 (.slice (some ⟨g, 0, none⟩) n cap) n cs) ∧ Hid (w.grownBy wr (some g))) (fun _ i _ => n - (intOf i).toNat)
  case atStart => exact ⟨0, cs, Nat.zero_le _, rfl, congrArg (Value.int .i64) (by simp), H.out, World.grownBy.refl _ _⟩
  case round =>
    obtain ⟨k, cs, hk, rfl, rfl, hown, hg⟩ := hrel
    have HCS : Hid (cs.length = n) := by have := hown.out.1; show _ = _; omega
    by_cases hlt : k < n
    · obtain ⟨u0, hcell⟩ : ∃ u0, wr.cell? ⟨g, k, none⟩ = some u0 := ⟨_, by rw [hown.out.cellAt k (by omega), List.getElem?_eq_getElem (by have := HCS.out; omega)]⟩
      have hfr := hown.out.frozenAt k
      obtain ⟨hst, hgs⟩ := hown.out.stored k (.int .i64 (k0 + (k : Int)))
      have HST := Lib.hid hst
      have HG := Lib.hid (grow_trans hg.out hgs)
      clear hst hgs
      go_wp2
      go_roundw
      case rel => exact ⟨k + 1, _, by omega, by go_num, congrArg (Value.int .i64) (by simp; omega), HST.out, HG.out⟩
      case measure => simp [intOf]; omega
    · have hkn : k = n := by omega
      have HK := Lib.hid hkn
      clear hkn
      go_wp2
      go_ret
      exact ⟨ret_int (by rw [HK.out]), hg.out⟩

theorem mark_some (w : World) (base n : Nat) (x : Value) (k0 : Int) (cs : List Value) (hn : n ≤ 1048577) (h0 : 0 ≤ k0) (h1 : k0 ≤ 1099511627776) (h : w.ownsRow base 3 1 x n cs) :
    Calls Tryd.prog 17 #[x, .int .i64 k0] w fun e w' => e = .returned (.int .i64 (k0 + n)) ∧ w.grownBy w' x.ownBlock := by
  rcases h.2 with ⟨rfl, rfl⟩ | ⟨g, cap, cur, rfl, hr⟩
  · go_enter Tryd.func17, Tryd.ntmps17
    go_wp2
    refine wp_loop_rounds 1 ?_
    rw [rounds_succ]
    go_wp2
    go_ret
    exact ⟨ret_int (by simp), World.grownBy.refl _ _⟩
  · exact mark_from w base g n cap k0 cs hn h0 h1 h

/-- A matrix marked from 1 on. -/
theorem markMatrix_own (w : World) (base n cap : Nat) (m : Int) (A : Option Addr) (cs : List Value) (hn : n ≤ 1048577) (h : w.ownsRow base 3 1 (.slice A n cap) n cs) :
    Calls Tryd.prog 7 #[.agg #[.int .i64 m, .slice A n cap], .int .i64 1] w fun e w' => e = .returned (.int .i64 ((n : Int) + 1)) ∧ w'.ownsRow base 3 1 (.slice A n cap) n ((ms n).map (Value.int .i64)) ∧ w.grownBy w' (Value.slice A n cap).ownBlock := by
  have H := Lib.hid (h.alloc (.cells #[.int .i64 m, .slice A n cap] 24))
  go_enter Tryd.func7, Tryd.ntmps7
  go_wp2_with fail
  refine (mark_own _ _ _ _ _ hn H.out).mono ?_
  rintro e w1 ⟨rfl, ho, hg⟩
  have HG := Lib.hid (grow_trans (World.grownBy_alloc w _ _) hg)
  have HO := Lib.hid ho
  clear ho hg h
  go_wp2_with fail
  go_ret
  exact ⟨rfl, HO.out, HG.out⟩
theorem markMatrix_some (w : World) (base n cap : Nat) (m k0 : Int) (A : Option Addr) (cs : List Value) (hn : n ≤ 1048577) (h0 : 0 ≤ k0) (h1 : k0 ≤ 1099511627776) (h : w.ownsRow base 3 1 (.slice A n cap) n cs) :
    Calls Tryd.prog 7 #[.agg #[.int .i64 m, .slice A n cap], .int .i64 k0] w fun e w' => e = .returned (.int .i64 (k0 + n)) ∧ w.grownBy w' (Value.slice A n cap).ownBlock := by
  have H := Lib.hid (h.alloc (.cells #[.int .i64 m, .slice A n cap] 24))
  go_enter Tryd.func7, Tryd.ntmps7
  go_wp2_with fail
  refine (mark_some _ _ _ _ _ _ hn h0 h1 H.out).mono ?_
  rintro e w1 ⟨rfl, hg⟩
  have HG := Lib.hid (grow_trans (World.grownBy_alloc w _ _) hg)
  clear hg h
  go_wp2_with fail
  go_ret
  exact ⟨rfl, HG.out⟩
theorem heldMatrix_own (w : World) (base n cap : Nat) (m : Int) (A : Option Addr) (hn : n ≤ 1048577) (h : w.ownsRow base 3 1 (.slice A n cap) n ((ms n).map (Value.int .i64))) :
    Calls Tryd.prog 8 #[.agg #[.int .i64 m, .slice A n cap], .int .i64 1] w fun e w' => e = .returned (.int .i64 ((n : Int) + 1)) ∧ Below w.heap.size w w' := by
  have H := Lib.hid (h.alloc (.cells #[.int .i64 m, .slice A n cap] 24))
  go_enter Tryd.func8, Tryd.ntmps8
  go_wp2_with fail
  refine (held_own _ _ _ _ hn H.out).mono ?_
  rintro e w1 ⟨rfl, rfl⟩
  clear h
  go_wp2_with fail
  go_ret
  exact ⟨rfl, below_a1 _ _⟩
end Go.Proofs.YtmdddjiegjcekaaDoor
