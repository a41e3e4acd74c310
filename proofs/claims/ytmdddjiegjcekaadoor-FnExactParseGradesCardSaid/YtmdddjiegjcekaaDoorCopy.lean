/- A slice of ints copied, and two slices compared, as the laws do it: the copy is new memory that reads as the same numbers; the comparison tells whether the numbers are the same. Condition of the copy: at most 2^40 numbers. -/
import Derived.Test.YtmdddjiegjcekaaDoorRows
import Derived.Test.YtmdddjiegjcekaaDoorPlain
import Derived.WalkKit
import Derived.Lib.Hide
import Derived.Handy
import Derived.RegionTactic
import Derived.BigQuiet
namespace Go.Proofs.YtmdddjiegjcekaaDoor
open Go.RowKit
set_option maxHeartbeats 400000
set_option linter.unusedVariables false

theorem info_int : (Tryd.prog.info? 3).map (fun i => (i.zero, i.size, i.bytes)) = some (some (.int .i64 0), 1, 8) := by kernel_rfl

/-- What a call that copies leaves: a new row that reads as the numbers. -/
def Copied (w : World) (zs : List Int) (e : Ending) (w' : World) : Prop :=
  ∃ g, e = .returned (.slice (some ⟨g, 0, none⟩) zs.length zs.length) ∧ Below w.heap.size w w' ∧ w.heap.size ≤ g ∧ Ints w' w'.heap.size (some ⟨g, 0, none⟩) zs

theorem ints_of_own {w : World} {base : Nat} {t : TypeId} {g n cap : Nat} {cs : List Value} {zs : List Int} (h : w.ownsRow base t 1 (.slice (some ⟨g, 0, none⟩) n cap) n cs) (hm : n ≤ maxLen) (hn : n = zs.length) (hc : cs = zs.map (Value.int .i64)) :
    Ints w w.heap.size (some ⟨g, 0, none⟩) zs := by
  subst hn
  refine ⟨hm, fun h0 => ⟨g, 0, rfl, (h.lt g rfl).2, fun k hk => ?_⟩⟩
  rw [Nat.zero_add, h.cellAt k (by omega), hc, List.getElem?_map, List.getElem?_eq_getElem hk, List.getD_eq_getElem?_getD, List.getElem?_eq_getElem hk]
  rfl

theorem take_set_snoc {α : Type} (cs : List α) (k : Nat) (u : α) (h : k < cs.length) : (cs.set k u).take (k + 1) = cs.take k ++ [u] := by
  rw [List.take_succ_eq_append_getElem (by simpa using h)]
  simp only [List.getElem_set_self]
  rw [List.take_set, List.set_eq_of_length_le (by simp; omega)]

/-- Two slices compared. -/
theorem eqIntS_len (A A' : Option Addr) (n n' cap cap' : Nat) (w : World) (hne : ¬ n = n') (hl : n ≤ 9223372036854775807) (hl' : n' ≤ 9223372036854775807) :
    Calls Tryd.prog 16 #[.slice A n cap, .slice A' n' cap'] w fun e w' => e = .returned (.bool false) ∧ ∃ m, w' = w.drewN m := by
  have hnb : (((n : Int)) == (n' : Int)) = false := by rw [beq_eq_false_iff_ne]; omega
  have hnc : (((n : Int)) != (n' : Int)) = true := by rw [bne_iff_ne]; omega
  go_enter Tryd.func16, Tryd.ntmps16
  go_wp2
  go_ret
  exact ⟨rfl, 0, rfl⟩

theorem eqIntS_any (A A' : Option Addr) (cap cap' B B' : Nat) (zs ys : List Int) (w : World) (hz : Ints w B A zs) (hy : Ints w B' A' ys) :
    Calls Tryd.prog 16 #[.slice A zs.length cap, .slice A' ys.length cap'] w fun e w' => e = .returned (.bool (decide (zs = ys))) ∧ ∃ m, w' = w.drewN m := by
  have hl := hz.len
  have hl' := hy.len
  by_cases hn : zs.length = ys.length
  · have HN := Lib.hid hn
    have hnc : (((zs.length : Int)) != (ys.length : Int)) = false := by rw [bne_eq_false_iff_eq]; omega
    clear hn
    go_enter Tryd.func16, Tryd.ntmps16
    go_wp2
    go_loopw [5] (fun i wr => ∃ (k m : Nat), k ≤ zs.length ∧ i = .int .i64 k ∧ zs.take k = ys.take k ∧ wr = w.drewN m) (fun i _ => zs.length - (intOf i).toNat)
    case atStart => exact ⟨0, 0, Nat.zero_le _, rfl, rfl, rfl⟩
    case round =>
      obtain ⟨k, m, hk, rfl, ht, rfl⟩ := hrel
      have HT := Lib.hid ht
      clear ht
      by_cases hlt : k < zs.length
      · have hlt' : k < ys.length := by rw [← HN.out]; exact hlt
        obtain ⟨b, off, z, rfl, hbB, hc, hd, hg⟩ := hz.at_ hlt
        obtain ⟨b', off', y, rfl, hbB', hc', hd', hg'⟩ := hy.at_ hlt'
        have ez : zs[k] = z := by rw [List.getD_eq_getElem?_getD, List.getElem?_eq_getElem hlt] at hg; exact hg
        have ey : ys[k] = y := by rw [List.getD_eq_getElem?_getD, List.getElem?_eq_getElem hlt'] at hg'; exact hg'
        have EZ := Lib.hid ez
        have EY := Lib.hid ey
        clear hd hg hd' hg' ez ey
        have hi0 : (0 : Int) ≤ (k : Int) := by omega
        have hi1 : (k : Int) < (zs.length : Int) := by omega
        have hi2 : (k : Int) < (ys.length : Int) := by omega
        by_cases hzy : z = y
        · have HZY := Lib.hid hzy
          have hbb : (z != y) = false := by simpa using hzy
          clear hzy
          go_wp2
          go_quiet (fail)
          go_wp2
          go_roundw
          case rel => exact ⟨k + 1, _, by omega, by go_num, by rw [List.take_succ_eq_append_getElem hlt, List.take_succ_eq_append_getElem hlt', HT.out, EZ.out, EY.out, HZY.out], rfl⟩
          case measure => simp [intOf]; omega
        · have HZY := Lib.hid hzy
          have hbb : (z != y) = true := by simpa using hzy
          clear hzy
          go_wp2
          go_quiet (fail)
          go_wp2
          go_ret
          refine ⟨ret_bool ?_, _, World.drewN_drewN _ _ _⟩
          symm
          rw [decide_eq_false_iff_not]
          intro he
          subst he
          exact HZY.out (EZ.out.symm.trans EY.out)
      · go_wp2
        go_ret
        refine ⟨ret_bool ?_, _, rfl⟩
        have h1 := HT.out
        rw [List.take_of_length_le (by omega), List.take_of_length_le (by rw [← HN.out]; omega)] at h1
        simp [h1]
  · refine (eqIntS_len A A' _ _ cap cap' w hn hl hl').mono fun e w' ⟨he, hw⟩ => ⟨?_, hw⟩
    rw [he]
    refine ret_bool ?_
    symm
    rw [decide_eq_false_iff_not]
    intro he
    exact hn (by rw [he])

end Go.Proofs.YtmdddjiegjcekaaDoor
