/- Matrices marked and held, as the laws do it. Condition: at most 2^20 and one numbers. A matrix copied into memory of the call's own, as the laws do it. Condition: at most 2^20 numbers. -/
import Derived.Test.YtlfffoglldobeaaMats
namespace Go.Proofs.Ytlfffoglldobeaa
open Go.RowKit
set_option maxHeartbeats 1000000
set_option linter.unusedVariables false

theorem mark_from (w : World) (base g n cap : Nat) (k0 : Int) (cs : List Value) (hn : n ≤ 1048577) (h0 : 0 ≤ k0) (h1 : k0 ≤ 1099511627776) (h : w.ownsRow base 3 1 (.slice (some ⟨g, 0, none⟩) n cap) n cs) :
    Calls Try.prog 26 #[.slice (some ⟨g, 0, none⟩) n cap, .int .i64 k0] w fun e w' => e = .returned (.int .i64 (k0 + n)) ∧ w.grownBy w' (some g) := by
  have H := Lib.hid h
  clear h
  go_enter Try.func26, Try.ntmps26
  go_wp2
  go_loopw [1, 5] (fun q i wr => ∃ (k : Nat) (cs : List Value), k ≤ n ∧ i = .int .i64 k ∧ q = .int .i64 (k0 + (k : Int)) ∧ Hid (wr.ownsRow base 3 1 (.slice (some ⟨g, 0, none⟩) n cap) n cs) ∧ Hid (w.grownBy wr (some g))) (fun _ i _ => n - (intOf i).toNat)
  case atStart => exact ⟨0, cs, Nat.zero_le _, rfl, congrArg (Value.int .i64) (by simp), H.out, World.grownBy.refl _ _⟩
  case round =>
    obtain ⟨k, cs, hk, rfl, rfl, hown, hg⟩ := hrel
    have HCS : Hid (cs.length = n) := by have := hown.out.1; show _ = _; omega
    by_cases hlt : k < n
    · obtain ⟨u0, hcell⟩ : ∃ u0, wr.cell? ⟨g, k, none⟩ = some u0 := ⟨_, by rw [hown.out.cellAt k (by omega), List.getElem?_eq_getElem (by have := HCS.out; omega)]⟩
      have hfr := hown.out.frozenAt k
      obtain ⟨hst, hgs⟩ := hown.out.stored k (.int .i64 (k0 + (k : Int)))
      have HST := Lib.hid hst
      have HG := Lib.hid (grow_trans hg.out hgs)
      clear hst hgs
      go_wp2
      go_roundw
      case rel => exact ⟨k + 1, _, by omega, by go_num, congrArg (Value.int .i64) (by simp; omega), HST.out, HG.out⟩
      case measure => simp [intOf]; omega
    · have hkn : k = n := by omega
      have HK := Lib.hid hkn
      clear hkn
      go_wp2
      go_ret
      exact ⟨ret_int (by rw [HK.out]), hg.out⟩

theorem mark_some (w : World) (base n : Nat) (x : Value) (k0 : Int) (cs : List Value) (hn : n ≤ 1048577) (h0 : 0 ≤ k0) (h1 : k0 ≤ 1099511627776) (h : w.ownsRow base 3 1 x n cs) :
    Calls Try.prog 26 #[x, .int .i64 k0] w fun e w' => e = .returned (.int .i64 (k0 + n)) ∧ w.grownBy w' x.ownBlock := by
  rcases h.2 with ⟨rfl, rfl⟩ | ⟨g, cap, cur, rfl, hr⟩
  · go_enter Try.func26, Try.ntmps26
    go_wp2
    refine wp_loop_rounds 1 ?_
    rw [rounds_succ]
    go_wp2
    go_ret
    exact ⟨ret_int (by simp), World.grownBy.refl _ _⟩
  · exact mark_from w base g n cap k0 cs hn h0 h1 h

end Go.Proofs.Ytlfffoglldobeaa
namespace Go.Proofs.Ytlfffoglldobeaa
open Go.RowKit
set_option maxHeartbeats 1000000
set_option linter.unusedVariables false

theorem own_base {w : World} {base base' n : Nat} {t : TypeId} {x : Value} {xs : List Value} (h : w.ownsRow base t 1 x n xs) (hb : base' ≤ base) : w.ownsRow base' t 1 x n xs := by
  refine ⟨h.1, ?_⟩
  rcases h.2 with h0 | ⟨g, cap, cur, h1, h2, h3⟩
  · exact Or.inl h0
  · exact Or.inr ⟨g, cap, cur, h1, Nat.le_trans hb h2, h3⟩
theorem toIntS_own (A : Option Addr) (cap : Nat) (zs : List Int) (w : World) (hz : Ints w w.heap.size A zs) (hr : zs.length ≤ 1099511627776) :
    Calls Try.prog 19 #[.slice A zs.length cap] w fun e w' => ∃ g, e = .returned (.slice (some ⟨g, 0, none⟩) zs.length zs.length) ∧ Below w.heap.size w w' ∧ w.heap.size ≤ g ∧ w'.ownsRow w.heap.size 3 1 (.slice (some ⟨g, 0, none⟩) zs.length zs.length) zs.length (zs.map (Value.int .i64)) := by
  have hl := hz.len
  obtain ⟨i0, hi, hz0, hz1, hz2⟩ := info_parts info_int
  have hb2 : i0.bytes * zs.length ≤ 281474976710656 := by rw [hz2]; omega
  have hm : zs.length ≤ maxLen := hz.1
  have Z0 := Lib.hid hz0
  have Z1 := Lib.hid hz1
  have Z2 := Lib.hid hz2
  have ZI := Lib.hid hi
  have HM := Lib.hid hm
  clear hz0 hz1 hz2 hi hm
  have HB2 := Lib.hid hb2
  clear hb2
  go_enter Try.func19, Try.ntmps19
  go_wp2_with (at_make; refine wpList_make_full _ rfl _ _ 22 rfl w.heap.size 3 i0 (.int .i64 0) 1 Try.underlying22 ZI.out Z0.out Z1.out _ _ _ _ zs.length rfl rfl rfl rfl HB2.out HM.out (Nat.le_refl _) ?_; intro w1 hown hgr)
  have hb1 : Below w.heap.size w w1 := (Below.refl _ _).grown hgr (Nat.le_refl _) (fun k hk => by cases hk)
  have HOWN := Lib.hid hown
  clear hown hgr
  go_loopw [4] (fun i wr => ∃ (k : Nat) (cs : List Value), k ≤ zs.length ∧ i = .int .i64 k ∧ wr.ownsRow w.heap.size 3 1 (.slice (some ⟨w.heap.size, 0, none⟩) zs.length zs.length) zs.length cs ∧ cs.take k = (zs.take k).map (Value.int .i64) ∧ Below w.heap.size w wr) (fun i _ => zs.length - (intOf i).toNat)
  case atStart => exact ⟨0, _, Nat.zero_le _, rfl, HOWN.out, rfl, hb1⟩
  case round =>
    obtain ⟨k, cs, hk, rfl, hown, htk, hb⟩ := hrel
    have HO := Lib.hid hown
    have HT := Lib.hid htk
    clear htk HOWN hb1
    by_cases hlt : k < zs.length
    · obtain ⟨b, off, z, rfl, hbB, hc, hd, hg⟩ := hz.at_ hlt
      have hc' : wr.cell? ⟨b, off + k, none⟩ = some (.int .i64 z) := (hb.cell (p := ⟨b, off + k, none⟩) hbB).trans hc
      have hsz : cs.length = zs.length := by have := hown.1; omega
      obtain ⟨u0, hcell⟩ : ∃ u0, wr.cell? ⟨w.heap.size, k, none⟩ = some u0 := ⟨_, by rw [hown.cellAt k (by omega), List.getElem?_eq_getElem (by omega)]⟩
      have hfr := hown.frozenAt k
      obtain ⟨hst, hgs⟩ := hown.stored k (.int .i64 z)
      have HST := Lib.hid hst
      have hb' : Below w.heap.size w (wr.setCell ⟨w.heap.size, k, none⟩ (.int .i64 z)) := hb.setCell (Nat.le_refl _) _
      have HD := Lib.hid hd
      have HG := Lib.hid hg
      have HS := Lib.hid hsz
      have HB' := Lib.hid hb'
      clear hown hst hgs hd hg hc hsz hb'
      go_wp2
      go_roundw
      case rel =>
        refine ⟨k + 1, _, by omega, by go_num, HST.out, ?_, HB'.out⟩
        rw [take_set_snoc _ _ _ (by rw [HS.out]; omega), HT.out, List.take_succ_eq_append_getElem (by omega), List.map_append]
        have e : zs[k] = z := by have := HG.out; rw [List.getD_eq_getElem?_getD, List.getElem?_eq_getElem hlt] at this; exact this
        rw [e]; rfl
      case measure => simp [intOf]; omega
    · have hsz : cs.length = zs.length := by have := hown.1; omega
      have HS := Lib.hid hsz
      clear hown hsz
      go_wp2
      go_ret
      have hcs : cs = zs.map (Value.int .i64) := by
        have := HT.out
        rwa [List.take_of_length_le (by rw [HS.out]; omega), List.take_of_length_le (by omega)] at this
      refine ⟨_, rfl, hb, Nat.le_refl _, ?_⟩
      rw [← hcs]
      exact HO.out

end Go.Proofs.Ytlfffoglldobeaa
