/- A drawn text of a list of costs: at most 1000 bytes; nothing that was there changes. Condition: the bytes can be read. -/
import Derived.Test.YtgnphlegbbplcaaDoorTextDraws
import Derived.Deep.RegionWith
import Derived.IntWalk
namespace Go.Proofs.YtgnphlegbbplcaaDoor
open Go.RowKit
set_option maxHeartbeats 1000000
set_option maxRecDepth 100000
set_option linter.unusedVariables false

theorem Rd.below {w w' : World} {B g C : Nat} {A : Option Addr} {cap : Nat} {zs : List Int} {p : Nat} (h : Rd w B g A cap zs p) (hb : Below C w w') (hC : g < C) : Rd w' B g A cap zs p :=
  ⟨h.blk.below hb hC, h.row.below (hb.mono (by have := h.far; omega)), h.far, h.few, h.byte, h.pos⟩
/-- The reader on, nothing that was there changed. -/
def DS (n : Nat) (w : World) (g : Nat) (A : Option Addr) (cap : Nat) (zs : List Int) (w' : World) : Prop := ∃ q, q ≤ n ∧ Rd w' w.heap.size g A cap zs q ∧ Below w.heap.size w w'

theorem DS.drew {n : Nat} {w w' : World} {g cap : Nat} {A : Option Addr} {zs : List Int} (h : DS n w g A cap zs w') : DS n w g A cap zs w'.drew := by
  obtain ⟨q, hq, hr, hb⟩ := h
  exact ⟨q, hq, ⟨hr.blk, hr.row, hr.far, hr.few, hr.byte, hr.pos⟩, hb.drew⟩
theorem DS.alloc {n : Nat} {w w' : World} {g cap : Nat} {A : Option Addr} {zs : List Int} (h : DS n w g A cap zs w') (o : Obj) : DS n w g A cap zs (w'.alloc o) := by
  obtain ⟨q, hq, hr, hb⟩ := h
  exact ⟨q, hq, hr.alloc o, hb.alloc hb.size o⟩

theorem of_here (n : Nat) (hn : n ≤ 1000) (w w5 : World) (A : Option Addr) (cap : Nat) (zs : List Int) (h : DS n w w.heap.size A cap zs w5) :
    Calls Tryd.prog 31 #[.pointer (some ⟨w.heap.size, 0, none⟩), .slice (some ⟨w5.heap.size, 0, none⟩) 5 5] (w5.alloc (.cells #[.string ⟨#[]⟩, .string ⟨#[32]⟩, .string ⟨#[48]⟩, .string ⟨#[45]⟩, .string ⟨#[120]⟩] 9)).drew
      fun e w' => ∃ u : ByteArray, e = .returned (.string u) ∧ u.size ≤ 1 ∧ DS (n + 1) w w.heap.size A cap zs w' := by
  obtain ⟨q, hq, hr, hb⟩ := h
  have hlt := hr.lt
  have hr2 := hr.alloc (.cells #[.string ⟨#[]⟩, .string ⟨#[32]⟩, .string ⟨#[48]⟩, .string ⟨#[45]⟩, .string ⟨#[120]⟩] 9)
  have hc := of_of ((w5.alloc (.cells #[.string ⟨#[]⟩, .string ⟨#[32]⟩, .string ⟨#[48]⟩, .string ⟨#[45]⟩, .string ⟨#[120]⟩] 9)).drew) w.heap.size w.heap.size w5.heap.size A cap zs q 5 [⟨#[]⟩, ⟨#[32]⟩, ⟨#[48]⟩, ⟨#[45]⟩, ⟨#[120]⟩] ⟨hr2.blk, hr2.row, hr2.far, hr2.few, hr2.byte, hr2.pos⟩ (by omega) rfl (by omega) (by omega) (by omega) (row_strs w5 [⟨#[]⟩, ⟨#[32]⟩, ⟨#[48]⟩, ⟨#[45]⟩, ⟨#[120]⟩])
  refine hc.mono ?_
  rintro e w' ⟨u, q', rfl, hu, hq', hrd, hg⟩
  refine ⟨u, rfl, ?_, q', ?_, hrd, ?_⟩
  · have hall : ∀ u ∈ ([⟨#[]⟩, ⟨#[32]⟩, ⟨#[48]⟩, ⟨#[45]⟩, ⟨#[120]⟩] : List ByteArray), u.size ≤ 1 := by decide
    exact hall u hu
  · omega
  · have hb2 : Below w.heap.size w (w5.alloc (.cells #[.string ⟨#[]⟩, .string ⟨#[32]⟩, .string ⟨#[48]⟩, .string ⟨#[45]⟩, .string ⟨#[120]⟩] 9)).drew := (hb.alloc hb.size _).drew
    exact hb2.trans (grow_below hg (Nat.le_refl _) hb2.size)
theorem pick_here (n : Nat) (hn : n ≤ 1000) (w w5 : World) (A : Option Addr) (cap : Nat) (zs : List Int) (h : DS n w w.heap.size A cap zs w5) :
    Calls Tryd.prog 30 #[.pointer (some ⟨w.heap.size, 0, none⟩), .int .i64 2] w5
      fun e w' => ∃ v : Int, e = .returned (.int .i64 v) ∧ 0 ≤ v ∧ v < 2 ∧ DS (n + 1) w w.heap.size A cap zs w' := by
  obtain ⟨q, hq, hr, hb⟩ := h
  refine (pick_any _ _ _ _ _ _ _ _ hr (by omega)).mono ?_
  rintro e w' ⟨v, rfl, v0, v1, hoff, hrd⟩
  exact ⟨v, rfl, v0, by have := v1 (by omega); omega, q + 1, by omega, hrd (by omega), hb.trans (grow_below hoff.grown (Nat.le_refl _) hb.size)⟩

theorem wrap_kv (k L : Nat) (v : Int) (hk : k ≤ L) (hL : L ≤ 32) (h0 : 0 ≤ v) (h1 : v < 2) : IntKind.i64.wrap ((k : Int) + v) = (k : Int) + v := IntWalk.i64_in _ (by omega)
theorem min_at (L k : Nat) (v : Int) (hk : k ≤ L) (h0 : 0 ≤ v) (h1 : v < 2) : ∃ m : Nat, (if (L : Int) < (k : Int) + v then (L : Int) else (k : Int) + v) = (m : Int) ∧ m ≤ L ∧ (m : Int) ≤ (L : Int) := by
  by_cases h : (L : Int) < (k : Int) + v
  · exact ⟨L, by rw [if_pos h], Nat.le_refl _, by omega⟩
  · exact ⟨((k : Int) + v).toNat, by rw [if_neg h]; omega, by omega, by omega⟩
theorem drawT_any (A : Option Addr) (cap : Nat) (zs : List Int) (w : World) (hz : IRow .u8 w w.heap.size A zs) (hc : zs.length ≤ cap) (hb : ∀ z ∈ zs, 0 ≤ z ∧ z ≤ 255) :
    Calls Tryd.prog 13 #[.slice A zs.length cap] w fun e w' => DrawnT w e w' := by
  have HB := Lib.hid hb
  clear hb
  go_enter Tryd.func13, Tryd.ntmps13
  go_wp2_with fail
  refine (open_any _ _ _ _ hz hc HB.out).mono ?_
  rintro e w1 ⟨A1, cap1, ys, rfl, hrd, hbel⟩
  go_wp2_with fail
  refine (costs_any _ _ _ _ _ _ _ hrd (by omega)).mono ?_
  rintro e w2 ⟨x, vs, q, rfl, hown, h4, hfit, hq, hrd2, hg2⟩
  have hb2 := hbel.trans (grow_below hg2 (Nat.le_refl _) hbel.size)
  obtain ⟨A2, cap2, rfl, hc2, hi2⟩ := own_ints hown (by unfold maxLen; omega)
  go_wp2_with fail
  refine (sFmts_any _ _ _ _ hi2 (by omega)).mono ?_
  rintro e w3 ⟨rfl, hb3⟩
  have hrd3 := hrd2.below hb3 hrd2.lt
  have hb3' := hb2.trans (hb3.mono hb2.size)
  obtain ⟨t, ht⟩ : ∃ t : ByteArray, t = ⟨(costsF vs).toArray⟩ := ⟨_, rfl⟩
  have hts : t.size ≤ 32 := by
    have h1 : t.size = (costsF vs).length := by rw [ht]; show (costsF vs).toArray.size = _; simp
    have h2 : (costsF vs).length ≤ 8 * vs.length := by
      unfold costsF
      split
      · exact costs_len vs
      · simp
    omega
  have HR3 := Lib.hid hrd3
  have HB3 := Lib.hid hb3'
  rw [← ht]
  clear ht hrd3 hb3' hb3 hi2 hown hb2 hrd2 hfit hg2 hrd HB hz
  go_wp2_with fail
  refine (pick_any _ _ _ _ _ _ _ _ HR3.out (by omega)).mono ?_
  rintro e w4 ⟨v2, rfl, v20, v21, hoff4, hrd4⟩
  have HR4 := Lib.hid (hrd4 (by omega))
  have HB4 := Lib.hid (HB3.out.trans (grow_below hoff4.grown (Nat.le_refl _) HB3.out.size))
  clear hrd4 hoff4 v20 v21
  rcases Bool.eq_false_or_eq_true (v2 == 0) with hv | hv
  · go_wp2_with fail
    go_ret
    exact ⟨t, rfl, by omega, HB4.out⟩
  · go_wp2_with fail
    refine (pick_any _ _ _ _ _ _ _ _ HR4.out (by omega)).mono ?_
    rintro e w5 ⟨vk, rfl, vk0, vk1, hoff5, hrd5⟩
    obtain ⟨k, rfl⟩ := Int.eq_ofNat_of_zero_le vk0
    have hkt : k ≤ t.size := by have := vk1 (by omega); omega
    have HR5 := Lib.hid (hrd5 (by omega))
    have HB5 := Lib.hid (HB4.out.trans (grow_below hoff5.grown (Nat.le_refl _) HB4.out.size))
    clear hrd5 hoff5 vk0 vk1
    have hDS : DS 100 w w.heap.size A1 cap1 ys w5 := ⟨_, by omega, HR5.out, HB5.out⟩
    have hDS0 := hDS.drew
    have hk1 : (0 : Int) ≤ (k : Int) := by omega
    have hk2 : (k : Int) ≤ (t.size : Int) := by omega
    go_wp2_with fail
    go_region_with (first
        | (go_at_call 31; refine (of_here 100 (by omega) _ _ _ _ _ hDS).mono ?_; rintro e w6 ⟨u, rfl, hu, hS6⟩)
        | (go_at_call 30; refine (pick_here 101 (by omega) _ _ _ _ _ (by assumption)).mono ?_; rintro e w7 ⟨v, rfl, hv0, hv1, hS7⟩; have hw := wrap_kv k t.size v hkt hts hv0 hv1; obtain ⟨m, hm, hm1, hm2⟩ := min_at t.size k v hkt hv0 hv1))
    all_goals
      go_wp2_with fail
      go_ret
      obtain ⟨_, _, _, hb7⟩ := hS7
      refine ⟨_, rfl, ?_, ?_⟩
      · rw [ByteArray.size_append, ByteArray.size_append, ByteArray.size_extract, ByteArray.size_extract]; omega
      · first | exact hb7 | exact hb7.drew

end Go.Proofs.YtgnphlegbbplcaaDoor
