/- A slice of ints copied, and two slices compared, as the laws do it: the copy is new memory that reads as the same numbers; the comparison tells whether the numbers are the same. Condition of the copy: at most 2^40 numbers. -/
import Derived.Test.YtlfffoglldobeaaRows
import Derived.Test.YtlfffoglldobeaaPlain
import Derived.WalkKit
import Derived.Lib.Hide
import Derived.Handy
import Derived.RegionTactic
import Derived.BigQuiet
namespace Go.Proofs.Ytlfffoglldobeaa
open Go.RowKit
set_option maxHeartbeats 400000
set_option linter.unusedVariables false

theorem info_int : (Try.prog.info? 3).map (fun i => (i.zero, i.size, i.bytes)) = some (some (.int .i64 0), 1, 8) := by kernel_rfl

/-- What a call that copies leaves: a new row that reads as the numbers. -/
def Copied (w : World) (zs : List Int) (e : Ending) (w' : World) : Prop :=
  ∃ g, e = .returned (.slice (some ⟨g, 0, none⟩) zs.length zs.length) ∧ Below w.heap.size w w' ∧ w.heap.size ≤ g ∧ Ints w' w'.heap.size (some ⟨g, 0, none⟩) zs

theorem ints_of_own {w : World} {base : Nat} {t : TypeId} {g n cap : Nat} {cs : List Value} {zs : List Int} (h : w.ownsRow base t 1 (.slice (some ⟨g, 0, none⟩) n cap) n cs) (hm : n ≤ maxLen) (hn : n = zs.length) (hc : cs = zs.map (Value.int .i64)) :
    Ints w w.heap.size (some ⟨g, 0, none⟩) zs := by
  subst hn
  refine ⟨hm, fun h0 => ⟨g, 0, rfl, (h.lt g rfl).2, fun k hk => ?_⟩⟩
  rw [Nat.zero_add, h.cellAt k (by omega), hc, List.getElem?_map, List.getElem?_eq_getElem hk, List.getD_eq_getElem?_getD, List.getElem?_eq_getElem hk]
  rfl

theorem take_set_snoc {α : Type} (cs : List α) (k : Nat) (u : α) (h : k < cs.length) : (cs.set k u).take (k + 1) = cs.take k ++ [u] := by
  rw [List.take_succ_eq_append_getElem (by simpa using h)]
  simp only [List.getElem_set_self]
  rw [List.take_set, List.set_eq_of_length_le (by simp; omega)]

theorem toIntS_any (A : Option Addr) (cap : Nat) (zs : List Int) (w : World) (hz : Ints w w.heap.size A zs) (hr : zs.length ≤ 1099511627776) :
    Calls Try.prog 19 #[.slice A zs.length cap] w fun e w' => Copied w zs e w' := by
  have hl := hz.len
  obtain ⟨i0, hi, hz0, hz1, hz2⟩ := info_parts info_int
  have hb2 : i0.bytes * zs.length ≤ 281474976710656 := by rw [hz2]; omega
  have hm : zs.length ≤ maxLen := hz.1
  have Z0 := Lib.hid hz0
  have Z1 := Lib.hid hz1
  have Z2 := Lib.hid hz2
  have ZI := Lib.hid hi
  have HM := Lib.hid hm
  clear hz0 hz1 hz2 hi hm
  have HB2 := Lib.hid hb2
  clear hb2
  go_enter Try.func19, Try.ntmps19
  go_wp2_with (at_make; refine wpList_make_full _ rfl _ _ 22 rfl w.heap.size 3 i0 (.int .i64 0) 1 Try.underlying22 ZI.out Z0.out Z1.out _ _ _ _ zs.length rfl rfl rfl rfl HB2.out HM.out (Nat.le_refl _) ?_; intro w1 hown hgr)
  have hb1 : Below w.heap.size w w1 := (Below.refl _ _).grown hgr (Nat.le_refl _) (fun k hk => by cases hk)
  have HOWN := Lib.hid hown
  clear hown hgr
  go_loopw [4] (fun i wr => ∃ (k : Nat) (cs : List Value), k ≤ zs.length ∧ i = .int .i64 k ∧ wr.ownsRow w.heap.size 3 1 (.slice (some ⟨w.heap.size, 0, none⟩) zs.length zs.length) zs.length cs ∧ cs.take k = (zs.take k).map (Value.int .i64) ∧ Below w.heap.size w wr) (fun i _ => zs.length - (intOf i).toNat)
  case atStart => exact ⟨0, _, Nat.zero_le _, rfl, HOWN.out, rfl, hb1⟩
  case round =>
    obtain ⟨k, cs, hk, rfl, hown, htk, hb⟩ := hrel
    have HO := Lib.hid hown
    have HT := Lib.hid htk
    clear htk HOWN hb1
    by_cases hlt : k < zs.length
    · obtain ⟨b, off, z, rfl, hbB, hc, hd, hg⟩ := hz.at_ hlt
      have hc' : wr.cell? ⟨b, off + k, none⟩ = some (.int .i64 z) := (hb.cell (p := ⟨b, off + k, none⟩) hbB).trans hc
      have hsz : cs.length = zs.length := by have := hown.1; omega
      obtain ⟨u0, hcell⟩ : ∃ u0, wr.cell? ⟨w.heap.size, k, none⟩ = some u0 := ⟨_, by rw [hown.cellAt k (by omega), List.getElem?_eq_getElem (by omega)]⟩
      have hfr := hown.frozenAt k
      obtain ⟨hst, hgs⟩ := hown.stored k (.int .i64 z)
      have HST := Lib.hid hst
      have hb' : Below w.heap.size w (wr.setCell ⟨w.heap.size, k, none⟩ (.int .i64 z)) := hb.setCell (Nat.le_refl _) _
      have HD := Lib.hid hd
      have HG := Lib.hid hg
      have HS := Lib.hid hsz
      have HB' := Lib.hid hb'
      clear hown hst hgs hd hg hc hsz hb'
      go_wp2
      go_roundw
      case rel =>
        refine ⟨k + 1, _, by omega, by go_num, HST.out, ?_, HB'.out⟩
        rw [take_set_snoc _ _ _ (by rw [HS.out]; omega), HT.out, List.take_succ_eq_append_getElem (by omega), List.map_append]
        have e : zs[k] = z := by have := HG.out; rw [List.getD_eq_getElem?_getD, List.getElem?_eq_getElem hlt] at this; exact this
        rw [e]; rfl
      case measure => simp [intOf]; omega
    · have hsz : cs.length = zs.length := by have := hown.1; omega
      have HS := Lib.hid hsz
      clear hown hsz
      go_wp2
      go_ret
      refine ⟨_, rfl, hb, Nat.le_refl _, ints_of_own HO.out HM.out rfl ?_⟩
      have := HT.out
      rwa [List.take_of_length_le (by rw [HS.out]; omega), List.take_of_length_le (by omega)] at this

/-- Two slices compared. -/
theorem eqIntS_len (A A' : Option Addr) (n n' cap cap' : Nat) (w : World) (hne : ¬ n = n') (hl : n ≤ 9223372036854775807) (hl' : n' ≤ 9223372036854775807) :
    Calls Try.prog 24 #[.slice A n cap, .slice A' n' cap'] w fun e w' => e = .returned (.bool false) ∧ ∃ m, w' = w.drewN m := by
  have hnb : (((n : Int)) == (n' : Int)) = false := by rw [beq_eq_false_iff_ne]; omega
  have hnc : (((n : Int)) != (n' : Int)) = true := by rw [bne_iff_ne]; omega
  go_enter Try.func24, Try.ntmps24
  go_wp2
  go_ret
  exact ⟨rfl, 0, rfl⟩

theorem eqIntS_any (A A' : Option Addr) (cap cap' B B' : Nat) (zs ys : List Int) (w : World) (hz : Ints w B A zs) (hy : Ints w B' A' ys) :
    Calls Try.prog 24 #[.slice A zs.length cap, .slice A' ys.length cap'] w fun e w' => e = .returned (.bool (decide (zs = ys))) ∧ ∃ m, w' = w.drewN m := by
  have hl := hz.len
  have hl' := hy.len
  by_cases hn : zs.length = ys.length
  · have HN := Lib.hid hn
    have hnc : (((zs.length : Int)) != (ys.length : Int)) = false := by rw [bne_eq_false_iff_eq]; omega
    clear hn
    go_enter Try.func24, Try.ntmps24
    go_wp2
    go_loopw [5] (fun i wr => ∃ (k m : Nat), k ≤ zs.length ∧ i = .int .i64 k ∧ zs.take k = ys.take k ∧ wr = w.drewN m) (fun i _ => zs.length - (intOf i).toNat)
    case atStart => exact ⟨0, 0, Nat.zero_le _, rfl, rfl, rfl⟩
    case round =>
      obtain ⟨k, m, hk, rfl, ht, rfl⟩ := hrel
      have HT := Lib.hid ht
      clear ht
      by_cases hlt : k < zs.length
      · have hlt' : k < ys.length := by rw [← HN.out]; exact hlt
        obtain ⟨b, off, z, rfl, hbB, hc, hd, hg⟩ := hz.at_ hlt
        obtain ⟨b', off', y, rfl, hbB', hc', hd', hg'⟩ := hy.at_ hlt'
        have ez : zs[k] = z := by rw [List.getD_eq_getElem?_getD, List.getElem?_eq_getElem hlt] at hg; exact hg
        have ey : ys[k] = y := by rw [List.getD_eq_getElem?_getD, List.getElem?_eq_getElem hlt'] at hg'; exact hg'
        have EZ := Lib.hid ez
        have EY := Lib.hid ey
        clear hd hg hd' hg' ez ey
        have hi0 : (0 : Int) ≤ (k : Int) := by omega
        have hi1 : (k : Int) < (zs.length : Int) := by omega
        have hi2 : (k : Int) < (ys.length : Int) := by omega
        by_cases hzy : z = y
        · have HZY := Lib.hid hzy
          have hbb : (z != y) = false := by simpa using hzy
          clear hzy
          go_wp2
          go_quiet (fail)
          go_wp2
          go_roundw
          case rel => exact ⟨k + 1, _, by omega, by go_num, by rw [List.take_succ_eq_append_getElem hlt, List.take_succ_eq_append_getElem hlt', HT.out, EZ.out, EY.out, HZY.out], rfl⟩
          case measure => simp [intOf]; omega
        · have HZY := Lib.hid hzy
          have hbb : (z != y) = true := by simpa using hzy
          clear hzy
          go_wp2
          go_quiet (fail)
          go_wp2
          go_ret
          refine ⟨ret_bool ?_, _, World.drewN_drewN _ _ _⟩
          symm
          rw [decide_eq_false_iff_not]
          intro he
          subst he
          exact HZY.out (EZ.out.symm.trans EY.out)
      · go_wp2
        go_ret
        refine ⟨ret_bool ?_, _, rfl⟩
        have h1 := HT.out
        rw [List.take_of_length_le (by omega), List.take_of_length_le (by rw [← HN.out]; omega)] at h1
        simp [h1]
  · refine (eqIntS_len A A' _ _ cap cap' w hn hl hl').mono fun e w' ⟨he, hw⟩ => ⟨?_, hw⟩
    rw [he]
    refine ret_bool ?_
    symm
    rw [decide_eq_false_iff_not]
    intro he
    exact hn (by rw [he])

end Go.Proofs.Ytlfffoglldobeaa
