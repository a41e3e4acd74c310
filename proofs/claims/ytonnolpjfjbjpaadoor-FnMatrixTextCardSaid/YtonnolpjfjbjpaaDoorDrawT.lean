/- A drawn text of a matrix: at most 1000 bytes; nothing that was there changes. Condition: the bytes can be read. -/
import Derived.Test.YtonnolpjfjbjpaaDoorTextKit
import Derived.Test.YtonnolpjfjbjpaaDoorDrawF
import Derived.Test.YtonnolpjfjbjpaaDoorFmtM
import Derived.Deep.RegionWith
import Derived.IntWalk
namespace Go.Proofs.YtonnolpjfjbjpaaDoor
open Go.RowKit
set_option maxHeartbeats 2000000
set_option maxRecDepth 100000
set_option linter.unusedVariables false

def DrawnTM (w : World) (e : Ending) (w' : World) : Prop := ∃ v : ByteArray, e = .returned (.string v) ∧ v.size ≤ 1000 ∧ Below w.heap.size w w'
theorem Rd.below {w w' : World} {B g C : Nat} {A : Option Addr} {cap : Nat} {zs : List Int} {p : Nat} (h : Rd w B g A cap zs p) (hb : Below C w w') (hC : g < C) : Rd w' B g A cap zs p :=
  ⟨h.blk.below hb hC, h.row.below (hb.mono (by have := h.far; omega)), h.far, h.few, h.byte, h.pos⟩
/-- The reader on, nothing that was there changed. -/
def DS (n : Nat) (w : World) (g : Nat) (A : Option Addr) (cap : Nat) (zs : List Int) (w' : World) : Prop := ∃ q, q ≤ n ∧ Rd w' w.heap.size g A cap zs q ∧ Below w.heap.size w w'

theorem DS.drew {n : Nat} {w w' : World} {g cap : Nat} {A : Option Addr} {zs : List Int} (h : DS n w g A cap zs w') : DS n w g A cap zs w'.drew := by
  obtain ⟨q, hq, hr, hb⟩ := h
  exact ⟨q, hq, ⟨hr.blk, hr.row, hr.far, hr.few, hr.byte, hr.pos⟩, hb.drew⟩
theorem DS.alloc {n : Nat} {w w' : World} {g cap : Nat} {A : Option Addr} {zs : List Int} (h : DS n w g A cap zs w') (o : Obj) : DS n w g A cap zs (w'.alloc o) := by
  obtain ⟨q, hq, hr, hb⟩ := h
  exact ⟨q, hq, hr.alloc o, hb.alloc hb.size o⟩

theorem of_hereM (n : Nat) (hn : n ≤ 1000) (w w5 : World) (A : Option Addr) (cap : Nat) (zs : List Int) (h : DS n w w.heap.size A cap zs w5) :
    Calls Tryd.prog 31 #[.pointer (some ⟨w.heap.size, 0, none⟩), .slice (some ⟨w5.heap.size, 0, none⟩) 5 5] (w5.alloc (.cells #[.string ⟨#[]⟩, .string ⟨#[32]⟩, .string ⟨#[47]⟩, .string ⟨#[48]⟩, .string ⟨#[45]⟩] 9)).drew
      fun e w' => ∃ u : ByteArray, e = .returned (.string u) ∧ u.size ≤ 1 ∧ DS (n + 1) w w.heap.size A cap zs w' := by
  obtain ⟨q, hq, hr, hb⟩ := h
  have hlt := hr.lt
  have hr2 := hr.alloc (.cells #[.string ⟨#[]⟩, .string ⟨#[32]⟩, .string ⟨#[47]⟩, .string ⟨#[48]⟩, .string ⟨#[45]⟩] 9)
  have hc := of_of ((w5.alloc (.cells #[.string ⟨#[]⟩, .string ⟨#[32]⟩, .string ⟨#[47]⟩, .string ⟨#[48]⟩, .string ⟨#[45]⟩] 9)).drew) w.heap.size w.heap.size w5.heap.size A cap zs q 5 [⟨#[]⟩, ⟨#[32]⟩, ⟨#[47]⟩, ⟨#[48]⟩, ⟨#[45]⟩] ⟨hr2.blk, hr2.row, hr2.far, hr2.few, hr2.byte, hr2.pos⟩ (by omega) rfl (by omega) (by omega) (by omega) (row_strs w5 [⟨#[]⟩, ⟨#[32]⟩, ⟨#[47]⟩, ⟨#[48]⟩, ⟨#[45]⟩])
  refine hc.mono ?_
  rintro e w' ⟨u, q', rfl, hu, hq', hrd, hg⟩
  refine ⟨u, rfl, ?_, q', ?_, hrd, ?_⟩
  · have hall : ∀ u ∈ ([⟨#[]⟩, ⟨#[32]⟩, ⟨#[47]⟩, ⟨#[48]⟩, ⟨#[45]⟩] : List ByteArray), u.size ≤ 1 := by decide
    exact hall u hu
  · omega
  · have hb2 : Below w.heap.size w (w5.alloc (.cells #[.string ⟨#[]⟩, .string ⟨#[32]⟩, .string ⟨#[47]⟩, .string ⟨#[48]⟩, .string ⟨#[45]⟩] 9)).drew := (hb.alloc hb.size _).drew
    exact hb2.trans (grow_below hg (Nat.le_refl _) hb2.size)
theorem pick_hereM (n : Nat) (hn : n ≤ 1000) (w w5 : World) (A : Option Addr) (cap : Nat) (zs : List Int) (h : DS n w w.heap.size A cap zs w5) :
    Calls Tryd.prog 30 #[.pointer (some ⟨w.heap.size, 0, none⟩), .int .i64 2] w5
      fun e w' => ∃ v : Int, e = .returned (.int .i64 v) ∧ 0 ≤ v ∧ v < 2 ∧ DS (n + 1) w w.heap.size A cap zs w' := by
  obtain ⟨q, hq, hr, hb⟩ := h
  refine (pick_any _ _ _ _ _ _ _ _ hr (by omega)).mono ?_
  rintro e w' ⟨v, rfl, v0, v1, hoff, hrd⟩
  exact ⟨v, rfl, v0, by have := v1 (by omega); omega, q + 1, by omega, hrd (by omega), hb.trans (grow_below hoff.grown (Nat.le_refl _) hb.size)⟩

theorem kv_at (L k : Nat) (v : Int) (hk : k < L) (hL : L ≤ 200) (h0 : 0 ≤ v) (h1 : v < 2) : ∃ m : Nat, IntKind.i64.wrap ((k : Int) + v) = (m : Int) ∧ m ≤ L ∧ (m : Int) ≤ (L : Int) ∧ (0 : Int) ≤ (m : Int) :=
  ⟨((k : Int) + v).toNat, by rw [IntWalk.i64_in _ (by omega)]; omega, by omega, by omega, by omega⟩
theorem matF_ne {N : Nat} {vs : List Int} (h : matOk (N : Int) vs = true) : ¬ matF (N : Int) vs = [] := by
  intro he
  have h1 := parse_mat h
  rw [he] at h1
  have h2 : parseM [] = none := by rfl
  rw [h2] at h1
  cases h1
theorem drawTM_any (A : Option Addr) (cap : Nat) (zs : List Int) (w : World) (hz : IRow .u8 w w.heap.size A zs) (hc : zs.length ≤ cap) (hb : ∀ z ∈ zs, 0 ≤ z ∧ z ≤ 255) :
    Calls Tryd.prog 11 #[.slice A zs.length cap] w fun e w' => DrawnTM w e w' := by
  have HB := Lib.hid hb
  clear hb
  go_enter Tryd.func11, Tryd.ntmps11
  go_wp2_with fail
  refine (open_any _ _ _ _ hz hc HB.out).mono ?_
  rintro e w1 ⟨A1, cap1, ys, rfl, hrd, hbel⟩
  go_wp2_with fail
  refine (pick_any _ _ _ _ _ _ _ _ hrd (by omega)).mono ?_
  rintro e w1b ⟨v, rfl, v0, v1, hoff, hrdb⟩
  obtain ⟨k, rfl⟩ := Int.eq_ofNat_of_zero_le v0
  have hk4 : k < 4 := by have := v1 (by omega); omega
  obtain ⟨N, hN⟩ : ∃ N, N = 1 + k := ⟨_, rfl⟩
  have n1 : 1 ≤ N := by omega
  have n2 : N ≤ 4 := by omega
  have h1N : 1 + (k : Int) = (N : Int) := by omega
  have hrd1b := hrdb (by omega)
  have hb1b := hbel.trans (grow_below hoff.grown (Nat.le_refl _) hbel.size)
  clear hN hoff v0 v1 hrdb
  go_wp2_with fail
  refine (l2Draw_any _ _ _ _ _ _ _ N hrd1b (by omega) n1 n2).mono ?_
  rintro e w2 ⟨_, vs, q, rfl, ⟨x2, rfl, hown, hl3⟩, mv, hq, hrd2, hg2⟩
  have hb2 := hb1b.trans (grow_below hg2 (Nat.le_refl _) hb1b.size)
  obtain ⟨A2, cap2, rfl, hc2, hi2⟩ := own_ints hown (by unfold maxLen; omega)
  have hok := matOk_mk mv
  have hfew := mv.few
  clear h1N
  go_wp2_with fail
  refine (sFmtM_any _ _ _ _ _ hi2 hc2).mono ?_
  rintro e w3 ⟨rfl, hb3⟩
  have hrd3 := hrd2.below hb3 hrd2.lt
  have hb3' := hb2.trans (hb3.mono hb2.size)
  obtain ⟨t, ht⟩ : ∃ t : ByteArray, t = ⟨(matF (N : Int) vs).toArray⟩ := ⟨_, rfl⟩
  have hts : t.size ≤ 200 := by
    have h1 : t.size = (matF (N : Int) vs).length := by rw [ht]; show (matF (N : Int) vs).toArray.size = _; simp
    rw [matF_ok hok] at h1
    have h2 := join_len32 _ (rows_len32 (p := N * N) rfl mv.len n2)
    rw [rowsF_len] at h2
    omega
  have hts1 : 1 ≤ t.size := by
    have h1 : t.size = (matF (N : Int) vs).length := by rw [ht]; show (matF (N : Int) vs).toArray.size = _; simp
    have h2 : ¬ (matF (N : Int) vs).length = 0 := fun h0 => matF_ne hok (List.eq_nil_of_length_eq_zero h0)
    omega
  have HR3 := Lib.hid hrd3
  have HB3 := Lib.hid hb3'
  rw [← ht]
  clear ht hrd3 hb3' hb3 hi2 hown hb2 hrd2 hg2 hrd HB hz mv hok hfew hb1b hrd1b hc2 hl3
  go_wp2_with fail
  refine (pick_any _ _ _ _ _ _ _ _ HR3.out (by omega)).mono ?_
  rintro e w4 ⟨v2, rfl, v20, v21, hoff4, hrd4⟩
  have HR4 := Lib.hid (hrd4 (by omega))
  have HB4 := Lib.hid (HB3.out.trans (grow_below hoff4.grown (Nat.le_refl _) HB3.out.size))
  clear hrd4 hoff4 v20 v21
  rcases Bool.eq_false_or_eq_true (v2 == 0) with hv | hv
  · go_wp2_with fail
    go_ret
    exact ⟨t, rfl, by omega, HB4.out⟩
  · go_wp2_with fail
    refine (pick_any _ _ _ _ _ _ _ _ HR4.out (by omega)).mono ?_
    rintro e w5 ⟨vk, rfl, vk0, vk1, hoff5, hrd5⟩
    obtain ⟨k, rfl⟩ := Int.eq_ofNat_of_zero_le vk0
    have hkt : k < t.size := by have := vk1 (by omega); omega
    have HR5 := Lib.hid (hrd5 (by omega))
    have HB5 := Lib.hid (HB4.out.trans (grow_below hoff5.grown (Nat.le_refl _) HB4.out.size))
    clear hrd5 hoff5 vk0 vk1
    have hDS : DS 100 w w.heap.size A1 cap1 ys w5 := ⟨_, by omega, HR5.out, HB5.out⟩
    have hDS0 := hDS.drew
    have hk1 : (0 : Int) ≤ (k : Int) := by omega
    have hk2 : (k : Int) ≤ (t.size : Int) := by omega
    go_wp2_with fail
    go_region_with (first
        | (go_at_call 31; refine (of_hereM 100 (by omega) _ _ _ _ _ hDS).mono ?_; rintro e w6 ⟨u, rfl, hu, hS6⟩)
        | (go_at_call 30; refine (pick_hereM 101 (by omega) _ _ _ _ _ (by assumption)).mono ?_; rintro e w7 ⟨v, rfl, hv0, hv1, hS7⟩; obtain ⟨m, hm, hm1, hm2, hm3⟩ := kv_at t.size k v hkt hts hv0 hv1))
    all_goals
      go_wp2_with fail
      go_ret
      obtain ⟨_, _, _, hb7⟩ := hS7
      refine ⟨_, rfl, ?_, ?_⟩
      · rw [ByteArray.size_append, ByteArray.size_append, ByteArray.size_extract, ByteArray.size_extract]; omega
      · first | exact hb7 | exact hb7.drew

end Go.Proofs.YtonnolpjfjbjpaaDoor
