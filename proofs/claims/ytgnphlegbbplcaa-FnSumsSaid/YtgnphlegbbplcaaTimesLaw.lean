/- The walk of the law of times: it returns true for all inputs, and nothing that was there changes. No condition. -/
import Derived.Test.YtgnphlegbbplcaaAddLaw
import Derived.Test.YtgnphlegbbplcaaCopy
namespace Go.Proofs.Ytgnphlegbbplcaa
open Go.RowKit
set_option maxHeartbeats 1000000
set_option linter.unusedVariables false

theorem timesF_min {n a : Int} (hn : 0 ≤ n) (hv : vld a = true) : timesF n a = min (n * a) 1000000 := by
  obtain ⟨a0, a1⟩ := vld_t hv
  by_cases hz : a = 0
  · rw [timesF_zero hn hv hz, hz]; omega
  · by_cases ho : 1000000 / a < n
    · rw [timesF_over hn hv hz ho]
      have h1 : 1000000 < (1000000 / a + 1) * a := by
        have := Int.lt_ediv_add_one_mul_self 1000000 (show 0 < a by omega)
        exact this
      have h2 : (1000000 / a + 1) * a ≤ n * a := Int.mul_le_mul_of_nonneg_right (by omega) a0
      omega
    · rw [timesF_in hn hv hz ho]
      have := times_in (n := n) (a := a) (by omega) hn (by omega)
      omega
theorem sumF_rep {a : Int} (hv : vld a = true) (k : Nat) : ∀ acc, 0 ≤ acc → acc ≤ 1000000 → sumF acc (List.replicate k a) = min (acc + k * a) 1000000 := by
  obtain ⟨a0, a1⟩ := vld_t hv
  induction k with
  | zero => intro acc h0 h1; simp [sumF]; omega
  | succ k ih =>
    intro acc h0 h1
    rw [List.replicate_succ, sumF_t hv, ih _ (by omega) (by omega)]
    have e : ((k + 1 : Nat) : Int) * a = (k : Int) * a + a := by rw [Int.natCast_add, Int.add_mul]; simp
    rw [e]
    have : 0 ≤ (k : Int) * a := Int.mul_nonneg (by omega) a0
    omega
theorem times_len {a : Int} (hv : vld a = true) (k : Nat) : timesF (k : Int) a = sumF 0 (List.replicate k a) := by
  rw [timesF_min (by omega) hv, sumF_rep hv k 0 (by omega) (by omega)]; simp
theorem times_next {n a : Int} (hn : 0 ≤ n) (hv : vld a = true) : timesF (n + 1) a = min (timesF n a + a) 1000000 := by
  obtain ⟨a0, a1⟩ := vld_t hv
  rw [timesF_min (by omega) hv, timesF_min hn hv]
  have e : (n + 1) * a = n * a + a := by rw [Int.add_mul]; simp
  rw [e]
  have : 0 ≤ n * a := Int.mul_nonneg hn a0
  omega
theorem times_vld {n a : Int} (hn : 0 ≤ n) (hv : vld a = true) : vld (timesF n a) = true := by
  obtain ⟨a0, a1⟩ := vld_t hv
  have : 0 ≤ n * a := Int.mul_nonneg hn a0
  rw [timesF_min hn hv]
  exact vld_yes (by omega)

theorem timesCost_is (n a v : Int) (w : World) (hv : timesF n a = v) :
    Calls Try.prog 21 #[.int .i64 n, .int .i64 a] w fun e w' => e = .returned (.int .i64 v) ∧ w = w' := by rw [← hv]; exact timesCost_any n a w
theorem sTimesCost_is (n a v : Int) (w : World) (hv : timesF n a = v) :
    Calls Try.prog 22 #[.int .i64 n, .int .i64 a] w fun e w' => e = .returned (.int .i64 v) ∧ w = w' := by rw [← hv]; exact sTimesCost_any n a w
theorem sumCosts_is (A : Option Addr) (cap B : Nat) (zs : List Int) (v : Int) (w : World) (hz : Ints w B A zs) (hv : sumF 0 zs = v) :
    Calls Try.prog 23 #[.slice A zs.length cap] w fun e w' => e = .returned (.int .i64 v) ∧ w = w' := by rw [← hv]; exact sumCosts_any A cap B zs w hz

/-- A row of the call's own, as my contracts take it. -/
theorem own_ints {w : World} {base : Nat} {t : TypeId} {v : Value} {vs : List Int} (h : w.ownsRow base t 1 v vs.length (vs.map (Value.int .i64))) (hm : vs.length ≤ maxLen) :
    ∃ A cap, v = .slice A vs.length cap ∧ vs.length ≤ cap ∧ Ints w w.heap.size A vs := by
  rcases h.2 with ⟨hv, hx⟩ | ⟨g, cap, cur, hv, hb, hg, hnc, hcm, hcs, htake⟩
  · have hvs : vs = [] := by simpa using hx
    subst hvs
    exact ⟨none, 0, hv, Nat.le_refl _, ⟨Nat.zero_le _, fun h0 => absurd h0 (by simp)⟩⟩
  · subst hv
    exact ⟨_, cap, rfl, hnc, ints_of_own h hm rfl rfl⟩
theorem rep_snoc (k : Nat) (u : Value) : List.replicate k u ++ [u] = List.replicate (k + 1) u := by
  rw [List.replicate_succ']

theorem FnTimesCost_walk (A : Option Addr) (cap : Nat) (zs : List Int) (A' : Option Addr) (cap' : Nat) (ys : List Int) (w : World) (hz : IRow .u8 w w.heap.size A zs) (hc : zs.length ≤ cap) (hwf : ∀ z ∈ zs, (Lit.int .u8 z).wf = true) (hy : IRow .u8 w w.heap.size A' ys) (hc' : ys.length ≤ cap') (hwf' : ∀ z ∈ ys, (Lit.int .u8 z).wf = true) :
    Calls Try.prog 4 #[.slice A zs.length cap, .slice A' ys.length cap'] w fun e w' => e = .returned (.bool true) ∧ Below w.heap.size w w' := by
  have hl1 := hz.len
  have hl2 := hy.len
  have HB := Lib.hid (byte_of_wf hwf)
  clear hwf hwf' hy
  obtain ⟨i0, hi, hz0, hz1, hz2⟩ := info_parts info_int
  have Z0 := Lib.hid hz0
  have Z1 := Lib.hid hz1
  have Z2 := Lib.hid hz2
  have ZI := Lib.hid hi
  clear hz0 hz1 hz2 hi
  by_cases hs1 : (1048576 : Int) < (zs.length : Int)
  · go_enter Try.func4, Try.ntmps4
    go_wp2_with fail
    go_ret
    exact ⟨rfl, Below.refl _ _⟩
  by_cases hs2 : (1048576 : Int) < (ys.length : Int)
  · go_enter Try.func4, Try.ntmps4
    go_wp2_with fail
    go_ret
    exact ⟨rfl, Below.refl _ _⟩
  go_enter Try.func4, Try.ntmps4
  go_wp2_with fail
  refine (drawTimes_any _ _ _ _ hz hc HB.out).mono ?_
  rintro e w1 ⟨n, a, rfl, hfn, hfa, hbel⟩
  by_cases hbad : n < 0 ∨ vld a = false
  · have HT := Lib.hid (timesF_no hbad)
    clear hbad hfn hfa
    go_wp2_with (first | (go_at_call 21; refine (timesCost_is _ _ _ _ HT.out).mono ?_; rintro e w' ⟨rfl, rfl⟩) | (go_at_call 22; refine (sTimesCost_is _ _ _ _ HT.out).mono ?_; rintro e w' ⟨rfl, rfl⟩))
    go_ret
    exact ⟨rfl, hbel⟩
  have hn0 : 0 ≤ n := by
    rcases Int.lt_or_le n 0 with h | h
    · exact absurd (Or.inl h) hbad
    · exact h
  have hva : vld a = true := by
    rcases vld_cases a with h | h
    · exact h
    · exact absurd (Or.inr h) hbad
  clear hbad hfa
  have hvb := times_vld hn0 hva
  have hnx := times_next hn0 hva
  obtain ⟨v, hv⟩ : ∃ v, timesF n a = v := ⟨_, rfl⟩
  obtain ⟨u, hu⟩ : ∃ u, timesF (n + 1) a = u := ⟨_, rfl⟩
  rw [hv] at hvb hnx
  rw [hu] at hnx
  have v0 := (vld_t hvb).1
  have HV := Lib.hid hv
  have HU := Lib.hid hu
  have HX := Lib.hid hnx.symm
  have VA := Lib.hid hva
  have VB := Lib.hid hvb
  clear hv hu hnx hva hvb
  obtain ⟨hfn0, hfn1⟩ := hfn
  go_wp2_with fail
  refine (timesCost_is _ _ _ _ HV.out).mono ?_
  rintro e w' ⟨rfl, rfl⟩
  go_wp2_with fail
  refine (sTimesCost_is _ _ _ _ HV.out).mono ?_
  rintro e w' ⟨rfl, rfl⟩
  go_wp2_with fail
  go_loopw [8, 43] (fun x i wr => ∃ k : Nat, k ≤ ys.length % 9 ∧ i = .int .i64 k ∧ wr.ownsRow w.heap.size 3 1 x k (List.replicate k (Value.int .i64 a)) ∧ Below w.heap.size w wr) (fun _ i _ => ys.length % 9 - (intOf i).toNat)
  case atStart => exact ⟨0, Nat.zero_le _, rfl, World.ownsRow_lit _ _ 0 hbel.size (Nat.zero_le _) rfl, hbel.alloc hbel.size _⟩
  case round =>
    obtain ⟨k, hk, rfl, hown, hb⟩ := hrel
    have hk9 : ys.length % 9 < 9 := Nat.mod_lt _ (by omega)
    have HO := Lib.hid hown
    have HBB := Lib.hid hb
    clear hbel
    by_cases hlt : k < ys.length % 9
    · go_wp2_with (at_builtin; refine wpList_append_own _ rfl _ _ 28 rfl w.heap.size 3 i0 (.int .i64 0) 1 8 Try.underlying28 ZI.out Z0.out Z1.out Z2.out rfl (by decide) _ _ _ rfl (HO.out.alloc _) ⟨wr.heap.size, 0, none⟩ 1 1 [.int .i64 a] rfl rfl ?c1 ?c2 ?c3 ?c4 ?c5 ?_)
      case c1 =>
        intro j u hj
        match j, hj with
        | 0, hj => simp at hj; subst hj; simp [Addr.add]
      case c2 => intro u hu; simp at hu; subst hu; rfl
      case c3 => unfold maxLen; omega
      case c4 => omega
      case c5 => have := HBB.out.size; simp; omega
      · intro v' w2 hown' hgrow _
        have hb2 : Below w.heap.size w w2 := (HBB.out.alloc HBB.out.size _).grown hgrow (by have := HBB.out.size; simp; omega) (fun g hg => (HO.out.lt g hg).1)
        rw [rep_snoc] at hown'
        have HO2 := Lib.hid hown'
        have HB2 := Lib.hid hb2
        clear hown' hgrow hb2 hown hb
        go_wp2
        go_roundw
        case rel => exact ⟨k + 1, by omega, by go_num, HO2.out, HB2.out⟩
        case measure => simp [intOf]; omega
    · obtain ⟨A2, cap2, rfl, hc2, hi2⟩ := own_ints (vs := List.replicate k a) (by rw [List.length_replicate, List.map_replicate]; exact HO.out) (by rw [List.length_replicate]; unfold maxLen; omega)
      have hlen : (List.replicate k a).length = k := List.length_replicate
      obtain ⟨z, hzs⟩ : ∃ z, sumF 0 (List.replicate k a) = z := ⟨_, rfl⟩
      have HZ := Lib.hid hzs
      have HZ' : Hid (timesF (k : Int) a = z) := (times_len VA.out k).trans hzs
      have HL := Lib.hid hlen
      have hsum := sumCosts_is A2 cap2 _ (List.replicate k a) z wr hi2 hzs
      rw [hlen] at hsum
      have HS := Lib.hid hsum
      have hlk : (List.replicate k a).length = k := HL.out
      have hk63 : (k : Int) ≤ 8 := by omega
      rw [hlk]
      clear hzs hlen hi2 hc2 hown hb hsum hlk
      rcases Bool.eq_false_or_eq_true (n == 9223372036854775807) with hmax | hmax
      · go_wp2_with fail
        refine (timesCost_is _ _ _ _ HZ'.out).mono ?_
        rintro e w' ⟨rfl, rfl⟩
        go_wp2_with fail
        refine HS.out.mono ?_
        rintro e w' ⟨rfl, rfl⟩
        go_wp2_with fail
        go_ret
        exact ⟨rfl, HBB.out⟩
      · have hlt1 : n < 9223372036854775807 := by
          rw [beq_eq_false_iff_ne] at hmax; omega
        go_wp2_with fail
        refine (timesCost_is _ _ _ _ HZ'.out).mono ?_
        rintro e w' ⟨rfl, rfl⟩
        go_wp2_with fail
        refine HS.out.mono ?_
        rintro e w' ⟨rfl, rfl⟩
        go_wp2_with fail
        refine (timesCost_is _ _ _ _ HU.out).mono ?_
        rintro e w' ⟨rfl, rfl⟩
        go_wp2_with fail
        refine (addCost_is _ _ _ _ _ VB.out VA.out HX.out HBB.out).mono ?_
        rintro e w4 ⟨rfl, hb4⟩
        go_wp2_with fail
        go_ret
        exact ⟨rfl, hb4⟩

end Go.Proofs.Ytgnphlegbbplcaa
