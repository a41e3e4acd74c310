/- The walk of the law of sums of lists: it returns true for all inputs, and nothing that was there changes. No condition. -/
import Derived.Test.YtgnphlegbbplcaaSums
import Derived.Deep.RegionHeld3
import Derived.Deep.RegionWith
namespace Go.Proofs.Ytgnphlegbbplcaa
open Go.RowKit
set_option maxHeartbeats 1000000
set_option linter.unusedVariables false

theorem IRow.drop {kd : IntKind} {w : World} {B : Nat} {b off : Nat} {zs : List Int} (h : IRow kd w B (some ⟨b, off, none⟩) zs) (n : Nat) : IRow kd w B (some ⟨b, off + n, none⟩) (zs.drop n) :=
  ⟨by have := h.1; simp; omega, fun hn => by
    obtain ⟨b', off', e, hb, hc⟩ := h.2 (by simp at hn; omega)
    cases e
    refine ⟨_, _, rfl, hb, fun k hk => ?_⟩
    simp at hk
    rw [Nat.add_assoc, hc (n + k) (by omega), List.getD_eq_getElem?_getD, List.getD_eq_getElem?_getD, List.getElem?_drop]⟩
theorem sumCosts_len (A : Option Addr) (cap B n : Nat) (zs : List Int) (v : Int) (w0 w : World) (hz : Ints w B A zs) (hv : sumF 0 zs = v) (hn : n = zs.length) (hbel : Below w0.heap.size w0 w) :
    Calls Try.prog 23 #[.slice A n cap] w fun e w' => e = .returned (.int .i64 v) ∧ w = w' := by rw [hn]; exact sumCosts_is A cap B zs v w hz hv
theorem leastCost_len (A : Option Addr) (cap B n : Nat) (zs : List Int) (v : Int) (w0 w : World) (hz : Ints w B A zs) (hv : leastF 1000000 zs = v) (hn : n = zs.length) (hbel : Below w0.heap.size w0 w) :
    Calls Try.prog 25 #[.slice A n cap] w fun e w' => e = .returned (.int .i64 v) ∧ w = w' := by rw [hn]; exact leastCost_is A cap B zs v w hz hv

theorem addCost_on (a b v : Int) (w1 w : World) (ha : vld a = true) (hb : vld b = true) (hv : min (a + b) 1000000 = v) (hs : Hid (Below w1.heap.size w1 w)) :
    Calls Try.prog 14 #[.int .i64 a, .int .i64 b] w fun e w' => e = .returned (.int .i64 v) ∧ Hid (Below w1.heap.size w1 w') := addCost_is a b v w1 w ha hb hv hs.out
theorem minCost_on (a b v : Int) (w1 w : World) (ha : vld a = true) (hb : vld b = true) (hv : min a b = v) (hs : Hid (Below w1.heap.size w1 w)) :
    Calls Try.prog 15 #[.int .i64 a, .int .i64 b] w fun e w' => e = .returned (.int .i64 v) ∧ Hid (Below w1.heap.size w1 w') := minCost_is a b v w1 w ha hb hv hs.out
theorem sumCosts_on (A : Option Addr) (cap B n : Nat) (zs : List Int) (v : Int) (w1 w : World) (hz : Ints w1 w1.heap.size A zs) (hv : sumF 0 zs = v) (hn : n = zs.length) (hs : Hid (Below w1.heap.size w1 w)) :
    Calls Try.prog 23 #[.slice A n cap] w fun e w' => e = .returned (.int .i64 v) ∧ w' = w ∧ Hid (Below w1.heap.size w1 w') := by
  rw [hn]; exact (sumCosts_is A cap _ zs v w (hz.below hs.out) hv).mono fun e w' ⟨h1, h2⟩ => ⟨h1, h2.symm, by rw [← h2]; exact hs⟩
theorem leastCost_on (A : Option Addr) (cap B n : Nat) (zs : List Int) (v : Int) (w1 w : World) (hz : Ints w1 w1.heap.size A zs) (hv : leastF 1000000 zs = v) (hn : n = zs.length) (hs : Hid (Below w1.heap.size w1 w)) :
    Calls Try.prog 25 #[.slice A n cap] w fun e w' => e = .returned (.int .i64 v) ∧ w' = w ∧ Hid (Below w1.heap.size w1 w') := by
  rw [hn]; exact (leastCost_is A cap _ zs v w (hz.below hs.out) hv).mono fun e w' ⟨h1, h2⟩ => ⟨h1, h2.symm, by rw [← h2]; exact hs⟩

theorem FnSums_walk (A : Option Addr) (cap : Nat) (zs : List Int) (w : World) (hz : IRow .u8 w w.heap.size A zs) (hc : zs.length ≤ cap) (hwf : ∀ z ∈ zs, (Lit.int .u8 z).wf = true) :
    Calls Try.prog 5 #[.slice A zs.length cap] w fun e w' => e = .returned (.bool true) ∧ Below w.heap.size w w' := by
  have hl1 := hz.len
  have HB := Lib.hid (byte_of_wf hwf)
  clear hwf
  by_cases hs1 : (1048576 : Int) < (zs.length : Int)
  · go_enter Try.func5, Try.ntmps5
    go_wp2_with fail
    go_ret
    exact ⟨rfl, Below.refl _ _⟩
  go_enter Try.func5, Try.ntmps5
  go_wp2_with fail
  refine (drawSums_any _ _ _ _ hz hc HB.out).mono ?_
  rintro e w1 ⟨A1, cap1, vs, rfl, hc1, hi1, h4, hfit, hbel⟩
  clear hfit
  obtain ⟨s, hs⟩ : ∃ s, sumF 0 vs = s := ⟨_, rfl⟩
  obtain ⟨m, hm⟩ : ∃ m, leastF 1000000 vs = m := ⟨_, rfl⟩
  have HI := Lib.hid hi1
  rcases Bool.eq_false_or_eq_true (allV vs) with hv | hv
  · have hbt : ∀ z ∈ vs, m ≤ z ∧ z ≤ s := by intro z hz; rw [← hs, ← hm]; exact between hv hz
    have s0 : 0 ≤ s := by have := sumF_ok hv 0 (by omega) (by omega); omega
    have HS := Lib.hid hs
    have HM := Lib.hid hm
    have HV := Lib.hid hv
    have HT := Lib.hid hbt
    have hl : vs.length ≤ 9223372036854775807 := by omega
    clear hs hm hv hi1 hbt
    go_wp2_with (first | (go_at_call 23; refine (sumCosts_is _ _ _ _ _ _ HI.out HS.out).mono ?_; rintro e w' ⟨rfl, rfl⟩) | (go_at_call 25; refine (leastCost_is _ _ _ _ _ _ HI.out HM.out).mono ?_; rintro e w' ⟨rfl, rfl⟩) | (go_at_call 26; refine (sSumCosts_is _ _ _ _ _ _ HI.out HS.out).mono ?_; rintro e w' ⟨rfl, rfl⟩) | (go_at_call 27; refine (sLeastCost_is _ _ _ _ _ _ HI.out HM.out).mono ?_; rintro e w' ⟨rfl, rfl⟩))
    go_loop [52] (fun i => ∃ k : Nat, k ≤ vs.length ∧ i = .int .i64 k) (fun i => vs.length - (intOf i).toNat)
    case atStart => exact ⟨0, Nat.zero_le _, rfl⟩
    case round =>
      obtain ⟨k, hk, rfl⟩ := hrel
      by_cases hlt : k < vs.length
      · obtain ⟨b, off, z, rfl, hbB, hcell, hd, hg⟩ := HI.out.at_ hlt
        have hmem : z ∈ vs := List.mem_of_mem_drop (i := k) (by rw [hd]; simp)
        have hvz := Lib.hid (allV_at HV.out hd)
        obtain ⟨t1, t2⟩ := HT.out z hmem
        clear hd hg hmem
        go_wp2_with (go_at_call 19; refine (cValid_t _ _ hvz.out).mono ?_; rintro e w' ⟨rfl, rfl⟩)
        go_round
        case rel => exact ⟨k + 1, by omega, by go_num⟩
        case measure => simp [intOf]; omega
      · go_wp2_with fail
        by_cases hL : 0 < vs.length
        · obtain ⟨b, off, _, rfl, hbB, _, _, _⟩ := HI.out.at_ hL
          obtain ⟨H, hH⟩ : ∃ H : Nat, H = vs.length / 2 := ⟨_, rfl⟩
          have hHi : (vs.length : Int) / 2 = (H : Int) := by omega
          have hHl : H ≤ vs.length := by omega
          have hcap : ¬ cap1 = H := by omega
          have hva := (allV_app (xs := vs.take H) (ys := vs.drop H) (by rw [List.take_append_drop]; exact HV.out))
          obtain ⟨sa, hsa⟩ : ∃ x, sumF 0 (vs.take H) = x := ⟨_, rfl⟩
          obtain ⟨sb, hsb⟩ : ∃ x, sumF 0 (vs.drop H) = x := ⟨_, rfl⟩
          obtain ⟨la, hla⟩ : ∃ x, leastF 1000000 (vs.take H) = x := ⟨_, rfl⟩
          obtain ⟨lb, hlb⟩ : ∃ x, leastF 1000000 (vs.drop H) = x := ⟨_, rfl⟩
          have hss : min (sa + sb) 1000000 = s := by rw [← hsa, ← hsb, ← sumF_append hva.1 hva.2, List.take_append_drop]; exact HS.out
          have hmm : min la lb = m := by rw [← hla, ← hlb, ← leastF_append hva.1 hva.2, List.take_append_drop]; exact HM.out
          have A1 := sumF_ok hva.1 0 (by omega) (by omega)
          have A2 := sumF_ok hva.2 0 (by omega) (by omega)
          have A3 := leastF_ok hva.1 1000000 (by omega) (by omega)
          have A4 := leastF_ok hva.2 1000000 (by omega) (by omega)
          rw [hsa] at A1
          rw [hsb] at A2
          rw [hla] at A3
          rw [hlb] at A4
          have V1 := Lib.hid (vld_yes (c := sa) (by omega))
          have V2 := Lib.hid (vld_yes (c := sb) (by omega))
          have V3 := Lib.hid (vld_yes (c := la) (by omega))
          have V4 := Lib.hid (vld_yes (c := lb) (by omega))
          have e1 : H = (vs.take H).length := by simp; omega
          obtain ⟨L, hLe⟩ : ∃ L, L = vs.length := ⟨_, rfl⟩
          have e2 : L - H = (vs.drop H).length := by rw [hLe]; simp
          have E1 := Lib.hid e1
          have E2 := Lib.hid e2
          have HSA := Lib.hid hsa
          have HSB := Lib.hid hsb
          have HLA := Lib.hid hla
          have HLB := Lib.hid hlb
          have HSS := Lib.hid hss
          have HMM := Lib.hid hmm
          have HLE := Lib.hid hLe
          rw [← hLe] at hl hHi hHl hL h4 hc1
          rw [← hLe, hHi]
          have hl0 : (0 : Int) ≤ (H : Int) := by omega
          have hl1' : (H : Int) ≤ (L : Int) := by omega
          have hl2' : (H : Int) ≤ (cap1 : Int) := by omega
          clear A1 A2 A3 A4 e1 e2 hsa hsb hla hlb hss hmm hLe hva hH hlt hHi
          have hS0 : Hid (Below w1.heap.size w1 w1.drew) := (Below.refl _ _).drew
          go_region_held3 (fun w' => Hid (Below w1.heap.size w1 w')) (first | assumption | skip)
            (first
              | (go_at_call_of 23 (Value.slice (some ⟨b, off, none⟩) H cap1); refine (sumCosts_on _ _ 0 _ _ _ _ _ (HI.out.take H) HSA.out E1.out (by assumption)).mono ?_; rintro e w' ⟨rfl, rfl, hS1⟩)
              | (go_at_call 23; refine (sumCosts_on _ _ 0 _ _ _ _ _ (HI.out.drop H) HSB.out E2.out (by assumption)).mono ?_; rintro e w' ⟨rfl, rfl, hS1⟩)
              | (go_at_call 14; refine (addCost_on _ _ _ _ _ V1.out V2.out HSS.out (by assumption)).mono ?_; rintro e w' ⟨rfl, hS1⟩)
              | (go_at_call_of 25 (Value.slice (some ⟨b, off, none⟩) H cap1); refine (leastCost_on _ _ 0 _ _ _ _ _ (HI.out.take H) HLA.out E1.out (by assumption)).mono ?_; rintro e w' ⟨rfl, rfl, hS1⟩)
              | (go_at_call 25; refine (leastCost_on _ _ 0 _ _ _ _ _ (HI.out.drop H) HLB.out E2.out (by assumption)).mono ?_; rintro e w' ⟨rfl, rfl, hS1⟩)
              | (go_at_call 15; refine (minCost_on _ _ _ _ _ V3.out V4.out HMM.out (by assumption)).mono ?_; rintro e w' ⟨rfl, hS1⟩))
          go_wp2_with fail
          go_ret
          exact ⟨rfl, hbel.trans (hS1.out.mono hbel.size)⟩
        · have hnil : vs = [] := List.eq_nil_of_length_eq_zero (by omega)
          subst hnil
          have hs0 : s = 0 := HS.out.symm
          have hm0 : m = 1000000 := HM.out.symm
          subst hs0
          subst hm0
          have hS0 : Hid (Below w1.heap.size w1 w1.drew) := (Below.refl _ _).drew
          have V0 := Lib.hid (vld_yes (c := 0) (by omega))
          have VN := Lib.hid (vld_yes (c := 1000000) (by omega))
          have h00 := Lib.hid (show min ((0 : Int) + 0) 1000000 = 0 by omega)
          have hNN := Lib.hid (show min (1000000 : Int) 1000000 = 1000000 by omega)
          have hE : ∀ A2, Hid (Ints w1 w1.heap.size A2 []) := fun A2 => ⟨Nat.zero_le _, fun h0 => absurd h0 (by simp)⟩
          have HE := Lib.hid hE
          clear hE h4 hl hk hlt hL hc1
          by_cases hcap : cap1 = 0
          all_goals
            go_region_held3 (fun w' => Hid (Below w1.heap.size w1 w')) (first | assumption | skip)
              (first
                | (go_at_call 23; refine (sumCosts_on _ _ 0 0 [] 0 _ _ (HE.out _).out rfl rfl (by assumption)).mono ?_; rintro e w' ⟨rfl, rfl, hS1⟩)
                | (go_at_call 14; refine (addCost_on _ _ _ _ _ V0.out V0.out h00.out (by assumption)).mono ?_; rintro e w' ⟨rfl, hS1⟩)
                | (go_at_call 25; refine (leastCost_on _ _ 0 0 [] 1000000 _ _ (HE.out _).out rfl rfl (by assumption)).mono ?_; rintro e w' ⟨rfl, rfl, hS1⟩)
                | (go_at_call 15; refine (minCost_on _ _ _ _ _ VN.out VN.out hNN.out (by assumption)).mono ?_; rintro e w' ⟨rfl, hS1⟩))
            go_wp2_with fail
            go_ret
            exact ⟨rfl, hbel.trans (hS1.out.mono hbel.size)⟩
  · have e1 : s = -1 := by rw [← hs, sumF_eq, hv]; simp
    have e2 : m = -1 := by rw [← hm, leastF_eq, hv]; simp
    subst e1
    subst e2
    have HS := Lib.hid hs
    have HM := Lib.hid hm
    clear hs hm hv hi1
    go_wp2_with (first | (go_at_call 23; refine (sumCosts_is _ _ _ _ _ _ HI.out HS.out).mono ?_; rintro e w' ⟨rfl, rfl⟩) | (go_at_call 25; refine (leastCost_is _ _ _ _ _ _ HI.out HM.out).mono ?_; rintro e w' ⟨rfl, rfl⟩) | (go_at_call 26; refine (sSumCosts_is _ _ _ _ _ _ HI.out HS.out).mono ?_; rintro e w' ⟨rfl, rfl⟩) | (go_at_call 27; refine (sLeastCost_is _ _ _ _ _ _ HI.out HM.out).mono ?_; rintro e w' ⟨rfl, rfl⟩))
    go_ret
    exact ⟨rfl, hbel⟩

end Go.Proofs.Ytgnphlegbbplcaa
