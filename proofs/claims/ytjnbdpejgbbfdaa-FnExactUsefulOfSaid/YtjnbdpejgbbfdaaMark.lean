/- Matrices marked and held, as the laws do it. Condition: at most 2^20 and one numbers. -/
import Derived.Test.YtjnbdpejgbbfdaaMats
namespace Go.Proofs.Ytjnbdpejgbbfdaa
open Go.RowKit
set_option maxHeartbeats 1000000
set_option linter.unusedVariables false

theorem mark_from (w : World) (base g n cap : Nat) (k0 : Int) (cs : List Value) (hn : n ≤ 1048577) (h0 : 0 ≤ k0) (h1 : k0 ≤ 1099511627776) (h : w.ownsRow base 3 1 (.slice (some ⟨g, 0, none⟩) n cap) n cs) :
    Calls Try.prog 11 #[.slice (some ⟨g, 0, none⟩) n cap, .int .i64 k0] w fun e w' => e = .returned (.int .i64 (k0 + n)) ∧ w.grownBy w' (some g) := by
  have H := Lib.hid h
  clear h
  go_enter Try.func11, Try.ntmps11
  go_wp2
  go_loopw [1, 5] (fun q i wr => ∃ (k : Nat) (cs : List Value), k ≤ n ∧ i = .int .i64 k ∧ q = .int .i64 (k0 + (k : Int)) ∧ Hid (wr.ownsRow base 3 1 (.slice (some ⟨g, 0, none⟩) n cap) n cs) ∧ Hid (w.grownBy wr (some g))) (fun _ i _ => n - (intOf i).toNat)
  case atStart => exact ⟨0, cs, Nat.zero_le _, rfl, congrArg (Value.int .i64) (by simp), H.out, World.grownBy.refl _ _⟩
  case round =>
    obtain ⟨k, cs, hk, rfl, rfl, hown, hg⟩ := hrel
    have HCS : Hid (cs.length = n) := by have := hown.out.1; show _ = _; omega
    by_cases hlt : k < n
    · obtain ⟨u0, hcell⟩ : ∃ u0, wr.cell? ⟨g, k, none⟩ = some u0 := ⟨_, by rw [hown.out.cellAt k (by omega), List.getElem?_eq_getElem (by have := HCS.out; omega)]⟩
      have hfr := hown.out.frozenAt k
      obtain ⟨hst, hgs⟩ := hown.out.stored k (.int .i64 (k0 + (k : Int)))
      have HST := Lib.hid hst
      have HG := Lib.hid (grow_trans hg.out hgs)
      clear hst hgs
      go_wp2
      go_roundw
      case rel => exact ⟨k + 1, _, by omega, by go_num, congrArg (Value.int .i64) (by simp; omega), HST.out, HG.out⟩
      case measure => simp [intOf]; omega
    · have hkn : k = n := by omega
      have HK := Lib.hid hkn
      clear hkn
      go_wp2
      go_ret
      exact ⟨ret_int (by rw [HK.out]), hg.out⟩

theorem mark_some (w : World) (base n : Nat) (x : Value) (k0 : Int) (cs : List Value) (hn : n ≤ 1048577) (h0 : 0 ≤ k0) (h1 : k0 ≤ 1099511627776) (h : w.ownsRow base 3 1 x n cs) :
    Calls Try.prog 11 #[x, .int .i64 k0] w fun e w' => e = .returned (.int .i64 (k0 + n)) ∧ w.grownBy w' x.ownBlock := by
  rcases h.2 with ⟨rfl, rfl⟩ | ⟨g, cap, cur, rfl, hr⟩
  · go_enter Try.func11, Try.ntmps11
    go_wp2
    refine wp_loop_rounds 1 ?_
    rw [rounds_succ]
    go_wp2
    go_ret
    exact ⟨ret_int (by simp), World.grownBy.refl _ _⟩
  · exact mark_from w base g n cap k0 cs hn h0 h1 h

end Go.Proofs.Ytjnbdpejgbbfdaa
