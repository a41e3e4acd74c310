/- The model's drawn expressions: a text of one to 65 bytes; nothing that was there changes but the reader's place. No condition but that the reader is not at its end of counting. -/
import Derived.Test.YtdhpcpmjdffgmaaDoorDraw1
import Derived.Test.YtdhpcpmjdffgmaaDoorLastOp
import Derived.Test.YtdhpcpmjdffgmaaDoorMats
import Derived.Deep.DeepCutAuto
import Derived.Deep.CutRange
namespace Go.Proofs.YtdhpcpmjdffgmaaDoor
open Go.RowKit
set_option maxHeartbeats 4000000
set_option maxRecDepth 100000
set_option linter.unusedVariables false

/-- What a drawing function leaves that returns a text of a list. -/
def DrawnE (B g : Nat) (A : Option Addr) (cap : Nat) (zs : List Int) (p K : Nat) (P : ByteArray → Prop) (w : World) (e : Ending) (w' : World) : Prop :=
  ∃ (v : ByteArray) (q : Nat), e = .returned (.string v) ∧ P v ∧ q ≤ p + K ∧ Rd w' B g A cap zs q ∧ w.grownBy w' (some g)

theorem ofE_any (w : World) (B g l : Nat) (A : Option Addr) (cap : Nat) (zs : List Int) (p n : Nat) (vs : List ByteArray) (h : Rd w B g A cap zs p) (hp : p + 1 ≤ 1000000000000) (hn : n = vs.length) (h1 : 1 ≤ n) (hN : n ≤ 1000) (hlg : ¬ l = g)
    (hrow : ∀ k, k < n → w.cell? ⟨l, k, none⟩ = some (.string (vs.getD k ByteArray.empty))) :
    Calls Tryd.prog 26 #[.pointer (some ⟨g, 0, none⟩), .slice (some ⟨l, 0, none⟩) n n] w fun e w' => DrawnE B g A cap zs p 1 (fun v => v ∈ vs) w e w' := by
  have HR := Lib.hid hrow
  have HN := Lib.hid hn
  clear hrow hn
  have hn' : (n : Int) ≤ 1000000000000 := by omega
  go_enter Tryd.func26, Tryd.ntmps26
  go_wp2_with fail
  refine (pick_any _ _ _ _ _ _ _ _ h hn').mono ?_
  rintro e w1 ⟨v, rfl, v0, v1, hoff, hrd⟩
  obtain ⟨k, rfl⟩ := Int.eq_ofNat_of_zero_le v0
  have hkn : k < n := by have := v1 (by omega); omega
  have hrd1 := hrd hp
  clear hrd v1
  have hcell : w1.cell? ⟨l, k, none⟩ = some (.string (vs.getD k ByteArray.empty)) := (World.cell?_of_block (hoff.block l hlg)).trans (HR.out k hkn)
  obtain ⟨x, hx⟩ : ∃ x, x = vs.getD k ByteArray.empty := ⟨_, rfl⟩
  rw [← hx] at hcell
  have HX := Lib.hid hx
  have HO := Lib.hid hoff
  have HD := Lib.hid hrd1
  clear hx hoff hrd1 v0
  go_wp2
  go_ret
  refine ⟨x, p + 1, rfl, ?_, Nat.le_refl _, HD.out, HO.out.grown⟩
  rw [HX.out, List.getD_eq_getElem?_getD, List.getElem?_eq_getElem (by rw [← HN.out]; exact hkn)]
  exact List.getElem_mem _
theorem rowE_strs (w : World) (vs : List ByteArray) : ∀ k, k < vs.length → (w.alloc (.cells (vs.map Value.string).toArray 9)).cell? ⟨w.heap.size, k, none⟩ = some (.string (vs.getD k ByteArray.empty)) := by
  intro k hk
  rw [(Blk.new w 9 _).cell k]
  rw [List.getElem?_toArray, List.getElem?_map, List.getElem?_eq_getElem hk, List.getD_eq_getElem?_getD, List.getElem?_eq_getElem hk]
  rfl

theorem l7Draw0_any (w : World) (B g : Nat) (A : Option Addr) (cap : Nat) (zs : List Int) (p : Nat) (h : Rd w B g A cap zs p) (hp : p + 20 ≤ 1000000000000) :
    Calls Tryd.prog 24 #[.pointer (some ⟨g, 0, none⟩), .int .i64 0] w fun e w' => DrawnE B g A cap zs p 4 (fun s => 1 ≤ s.size ∧ s.size ≤ 3) w e w' := by
  have hgw := h.lt
  go_enter Tryd.func24, Tryd.ntmps24
  go_wp2_with fail
  refine (pick_any _ _ _ _ _ _ _ _ h (by omega)).mono ?_
  rintro e w1 ⟨v, rfl, v0, v1, hoff, hrd⟩
  obtain ⟨c, rfl⟩ := Int.eq_ofNat_of_zero_le v0
  have hc : c ≤ 2 := by have := v1 (by omega); omega
  have hc2 : (c : Int) ≤ 2 := by omega
  have D1 := Lib.hid (hrd (by omega))
  have G1 := Lib.hid hoff.grown
  have hw1 : g < w1.heap.size := Nat.lt_of_lt_of_le hgw hoff.grown.size
  clear hrd hoff v0 v1 h
  go_wp2_with fail
  go_loopw [5, 9] (fun u i wr => ∃ (k r : Nat) (s : ByteArray), k ≤ c + 1 ∧ u = .string s ∧ i = .int .i64 k ∧ k ≤ s.size ∧ s.size ≤ k * 1 ∧ r ≤ p + 1 + k * 1 ∧ Hid (Rd wr B g A cap zs r) ∧ Hid (w.grownBy wr (some g)) ∧ g < wr.heap.size) (fun _ i _ => c + 1 - (intOf i).toNat)
  case atStart => exact ⟨0, p + 1, ⟨#[]⟩, Nat.zero_le _, rfl, rfl, Nat.zero_le _, by show (0 : Nat) ≤ _; exact Nat.zero_le _, by omega, D1, G1, hw1⟩
  case round =>
    obtain ⟨k, r, s, hk, rfl, rfl, hsk, hss, hrk, D2, G2, hgr⟩ := hrel
    by_cases hlt : k < c + 1
    · have hk1 : (k : Int) < 1 + (c : Int) := by omega
      have hk2 : (k : Int) < (c : Int) + 1 := by omega
      clear D1 G1
      go_wp2_with fail
      have hlg : ¬ wr.heap.size = g := by omega
      refine (ofE_any _ B g wr.heap.size A cap zs _ 2 [⟨#[97]⟩, ⟨#[98]⟩] (D2.out.alloc _) (by omega) rfl (by decide) (by decide) hlg (rowE_strs wr [⟨#[97]⟩, ⟨#[98]⟩])).mono ?_
      rintro e w3 ⟨x, q, rfl, hx, hq, hD3, hG3⟩
      have hx1 : x.size = 1 := by
        simp at hx
        rcases hx with rfl | rfl <;> rfl
      have hq' : q ≤ r + 1 := hq
      have D4 := Lib.hid hD3
      have G4 := Lib.hid (grow_trans G2.out (grow_trans (World.grownBy_alloc wr _ (some g)) hG3))
      have hg4 : g < w3.heap.size := by have := hG3.size; simp at this; omega
      clear hx hq hD3 hG3 D2 G2
      go_wp2_with fail
      go_roundw
      case rel => exact ⟨k + 1, q, s ++ x, by omega, rfl, by go_num, by rw [ByteArray.size_append]; omega, by rw [ByteArray.size_append]; omega, by omega, D4, G4, hg4⟩
      case measure => simp [intOf]; omega
    · obtain rfl : k = c + 1 := by omega
      go_wp2_with fail
      go_ret
      exact ⟨s, r, rfl, ⟨by omega, by omega⟩, by omega, D2.out, G2.out⟩
theorem l7Draw1_any (w : World) (B g : Nat) (A : Option Addr) (cap : Nat) (zs : List Int) (p : Nat) (h : Rd w B g A cap zs p) (hp : p + 60 ≤ 1000000000000) :
    Calls Tryd.prog 24 #[.pointer (some ⟨g, 0, none⟩), .int .i64 1] w fun e w' => DrawnE B g A cap zs p 16 (fun s => 1 ≤ s.size ∧ s.size ≤ 18) w e w' := by
  have hgw := h.lt
  go_enter Tryd.func24, Tryd.ntmps24
  go_wp2_with fail
  refine (pick_any _ _ _ _ _ _ _ _ h (by omega)).mono ?_
  rintro e w1 ⟨v, rfl, v0, v1, hoff, hrd⟩
  obtain ⟨c, rfl⟩ := Int.eq_ofNat_of_zero_le v0
  have hc : c ≤ 2 := by have := v1 (by omega); omega
  have hc2 : (c : Int) ≤ 2 := by omega
  have D1 := Lib.hid (hrd (by omega))
  have G1 := Lib.hid hoff.grown
  have hw1 : g < w1.heap.size := Nat.lt_of_lt_of_le hgw hoff.grown.size
  clear hrd hoff v0 v1 h
  go_wp2_with fail
  go_loopw [5, 9] (fun u i wr => ∃ (k r : Nat) (s : ByteArray), k ≤ c + 1 ∧ u = .string s ∧ i = .int .i64 k ∧ k ≤ s.size ∧ s.size ≤ k * 6 ∧ r ≤ p + 1 + k * 5 ∧ Hid (Rd wr B g A cap zs r) ∧ Hid (w.grownBy wr (some g)) ∧ g < wr.heap.size) (fun _ i _ => c + 1 - (intOf i).toNat)
  case atStart => exact ⟨0, p + 1, ⟨#[]⟩, Nat.zero_le _, rfl, rfl, Nat.zero_le _, by show (0 : Nat) ≤ _; exact Nat.zero_le _, by omega, D1, G1, hw1⟩
  case round =>
    obtain ⟨k, r, s, hk, rfl, rfl, hsk, hss, hrk, D2, G2, hgr⟩ := hrel
    by_cases hlt : k < c + 1
    · have hk1 : (k : Int) < 1 + (c : Int) := by omega
      have hk2 : (k : Int) < (c : Int) + 1 := by omega
      clear D1 G1
      go_wp2_with fail
      refine (pick_any _ _ _ _ _ _ _ _ D2.out (by omega)).mono ?_
      rintro e w2 ⟨v, rfl, v0, v1, hoff, hrd⟩
      have D3 := Lib.hid (hrd (by omega))
      have G3 := Lib.hid (grow_trans G2.out hoff.grown)
      have hg3 : g < w2.heap.size := Nat.lt_of_lt_of_le hgr hoff.grown.size
      clear hrd hoff v0 v1 D2 G2
      rcases Bool.eq_false_or_eq_true (v == 0) with hv | hv
      · go_wp2_with fail
        refine (l7Draw0_any w2 B g A cap zs _ D3.out (by omega)).mono ?_
        rintro e w3 ⟨x, q, rfl, hx, hq, hD3, hG3⟩
        have hx1 : 1 ≤ x.size ∧ x.size ≤ 3 := hx
        have hq' : q ≤ r + 1 + 4 := hq
        have D4 := Lib.hid hD3
        have G4 := Lib.hid (grow_trans G3.out hG3)
        have hg4 : g < w3.heap.size := Nat.lt_of_lt_of_le hg3 hG3.size
        clear hx hq hD3 hG3 D3 G3
        go_wp2_with fail
        go_roundw
        case rel => exact ⟨k + 1, q, _, by omega, rfl, by go_num, by simp only [ByteArray.size_append]; have : (⟨#[40]⟩ : ByteArray).size = 1 := rfl; have : (⟨#[41, 35]⟩ : ByteArray).size = 2 := rfl; omega, by simp only [ByteArray.size_append]; have : (⟨#[40]⟩ : ByteArray).size = 1 := rfl; have : (⟨#[41, 35]⟩ : ByteArray).size = 2 := rfl; omega, by omega, D4, G4, hg4⟩
        case measure => simp [intOf]; omega
      · go_wp2_with fail
        have hlg : ¬ w2.heap.size = g := by omega
        refine (ofE_any _ B g w2.heap.size A cap zs _ 2 [⟨#[97]⟩, ⟨#[98]⟩] (D3.out.alloc _) (by omega) rfl (by decide) (by decide) hlg (rowE_strs w2 [⟨#[97]⟩, ⟨#[98]⟩])).mono ?_
        rintro e w3 ⟨x, q, rfl, hx, hq, hD3, hG3⟩
        have hx1 : x.size = 1 := by
          simp at hx
          rcases hx with rfl | rfl <;> rfl
        have hq' : q ≤ r + 1 + 1 := hq
        have D4 := Lib.hid hD3
        have G4 := Lib.hid (grow_trans G3.out (grow_trans (World.grownBy_alloc w2 _ (some g)) hG3))
        have hg4 : g < w3.heap.size := by have := hG3.size; simp at this; omega
        clear hx hq hD3 hG3 D3 G3
        go_wp2_with fail
        go_roundw
        case rel => exact ⟨k + 1, q, s ++ x, by omega, rfl, by go_num, by rw [ByteArray.size_append]; omega, by rw [ByteArray.size_append]; omega, by omega, D4, G4, hg4⟩
        case measure => simp [intOf]; omega
    · obtain rfl : k = c + 1 := by omega
      go_wp2_with fail
      go_ret
      exact ⟨s, r, rfl, ⟨by omega, by omega⟩, by omega, D2.out, G2.out⟩
theorem l7Draw2_any (w : World) (B g : Nat) (A : Option Addr) (cap : Nat) (zs : List Int) (p : Nat) (h : Rd w B g A cap zs p) (hp : p + 150 ≤ 1000000000000) :
    Calls Tryd.prog 24 #[.pointer (some ⟨g, 0, none⟩), .int .i64 2] w fun e w' => DrawnE B g A cap zs p 52 (fun s => 1 ≤ s.size ∧ s.size ≤ 63) w e w' := by
  have hgw := h.lt
  go_enter Tryd.func24, Tryd.ntmps24
  go_wp2_with fail
  refine (pick_any _ _ _ _ _ _ _ _ h (by omega)).mono ?_
  rintro e w1 ⟨v, rfl, v0, v1, hoff, hrd⟩
  obtain ⟨c, rfl⟩ := Int.eq_ofNat_of_zero_le v0
  have hc : c ≤ 2 := by have := v1 (by omega); omega
  have hc2 : (c : Int) ≤ 2 := by omega
  have D1 := Lib.hid (hrd (by omega))
  have G1 := Lib.hid hoff.grown
  have hw1 : g < w1.heap.size := Nat.lt_of_lt_of_le hgw hoff.grown.size
  clear hrd hoff v0 v1 h
  go_wp2_with fail
  go_loopw [5, 9] (fun u i wr => ∃ (k r : Nat) (s : ByteArray), k ≤ c + 1 ∧ u = .string s ∧ i = .int .i64 k ∧ k ≤ s.size ∧ s.size ≤ k * 21 ∧ r ≤ p + 1 + k * 17 ∧ Hid (Rd wr B g A cap zs r) ∧ Hid (w.grownBy wr (some g)) ∧ g < wr.heap.size) (fun _ i _ => c + 1 - (intOf i).toNat)
  case atStart => exact ⟨0, p + 1, ⟨#[]⟩, Nat.zero_le _, rfl, rfl, Nat.zero_le _, by show (0 : Nat) ≤ _; exact Nat.zero_le _, by omega, D1, G1, hw1⟩
  case round =>
    obtain ⟨k, r, s, hk, rfl, rfl, hsk, hss, hrk, D2, G2, hgr⟩ := hrel
    by_cases hlt : k < c + 1
    · have hk1 : (k : Int) < 1 + (c : Int) := by omega
      have hk2 : (k : Int) < (c : Int) + 1 := by omega
      clear D1 G1
      go_wp2_with fail
      refine (pick_any _ _ _ _ _ _ _ _ D2.out (by omega)).mono ?_
      rintro e w2 ⟨v, rfl, v0, v1, hoff, hrd⟩
      have D3 := Lib.hid (hrd (by omega))
      have G3 := Lib.hid (grow_trans G2.out hoff.grown)
      have hg3 : g < w2.heap.size := Nat.lt_of_lt_of_le hgr hoff.grown.size
      clear hrd hoff v0 v1 D2 G2
      rcases Bool.eq_false_or_eq_true (v == 0) with hv | hv
      · go_wp2_with fail
        refine (l7Draw1_any w2 B g A cap zs _ D3.out (by omega)).mono ?_
        rintro e w3 ⟨x, q, rfl, hx, hq, hD3, hG3⟩
        have hx1 : 1 ≤ x.size ∧ x.size ≤ 18 := hx
        have hq' : q ≤ r + 1 + 16 := hq
        have D4 := Lib.hid hD3
        have G4 := Lib.hid (grow_trans G3.out hG3)
        have hg4 : g < w3.heap.size := Nat.lt_of_lt_of_le hg3 hG3.size
        clear hx hq hD3 hG3 D3 G3
        go_wp2_with fail
        go_roundw
        case rel => exact ⟨k + 1, q, _, by omega, rfl, by go_num, by simp only [ByteArray.size_append]; have : (⟨#[40]⟩ : ByteArray).size = 1 := rfl; have : (⟨#[41, 35]⟩ : ByteArray).size = 2 := rfl; omega, by simp only [ByteArray.size_append]; have : (⟨#[40]⟩ : ByteArray).size = 1 := rfl; have : (⟨#[41, 35]⟩ : ByteArray).size = 2 := rfl; omega, by omega, D4, G4, hg4⟩
        case measure => simp [intOf]; omega
      · go_wp2_with fail
        have hlg : ¬ w2.heap.size = g := by omega
        refine (ofE_any _ B g w2.heap.size A cap zs _ 2 [⟨#[97]⟩, ⟨#[98]⟩] (D3.out.alloc _) (by omega) rfl (by decide) (by decide) hlg (rowE_strs w2 [⟨#[97]⟩, ⟨#[98]⟩])).mono ?_
        rintro e w3 ⟨x, q, rfl, hx, hq, hD3, hG3⟩
        have hx1 : x.size = 1 := by
          simp at hx
          rcases hx with rfl | rfl <;> rfl
        have hq' : q ≤ r + 1 + 1 := hq
        have D4 := Lib.hid hD3
        have G4 := Lib.hid (grow_trans G3.out (grow_trans (World.grownBy_alloc w2 _ (some g)) hG3))
        have hg4 : g < w3.heap.size := by have := hG3.size; simp at this; omega
        clear hx hq hD3 hG3 D3 G3
        go_wp2_with fail
        go_roundw
        case rel => exact ⟨k + 1, q, s ++ x, by omega, rfl, by go_num, by rw [ByteArray.size_append]; omega, by rw [ByteArray.size_append]; omega, by omega, D4, G4, hg4⟩
        case measure => simp [intOf]; omega
    · obtain rfl : k = c + 1 := by omega
      go_wp2_with fail
      go_ret
      exact ⟨s, r, rfl, ⟨by omega, by omega⟩, by omega, D2.out, G2.out⟩
theorem l7DrawN_any (w : World) (B g : Nat) (A : Option Addr) (cap : Nat) (zs : List Int) (p : Nat) (v : Int) (v0 : 0 ≤ v) (v2 : v ≤ 2) (h : Rd w B g A cap zs p) (hp : p + 150 ≤ 1000000000000) :
    Calls Tryd.prog 24 #[.pointer (some ⟨g, 0, none⟩), .int .i64 v] w fun e w' => DrawnE B g A cap zs p 52 (fun s => 1 ≤ s.size ∧ s.size ≤ 63) w e w' := by
  have hv : v = 0 ∨ v = 1 ∨ v = 2 := by omega
  rcases hv with rfl | rfl | rfl
  · refine (l7Draw0_any w B g A cap zs p h (by omega)).mono ?_
    rintro e w' ⟨x, q, rfl, hx, hq, hD, hG⟩
    exact ⟨x, q, rfl, ⟨hx.1, by have := hx.2; omega⟩, by omega, hD, hG⟩
  · refine (l7Draw1_any w B g A cap zs p h (by omega)).mono ?_
    rintro e w' ⟨x, q, rfl, hx, hq, hD, hG⟩
    exact ⟨x, q, rfl, ⟨hx.1, by have := hx.2; omega⟩, by omega, hD, hG⟩
  · exact l7Draw2_any w B g A cap zs p h hp
theorem l7Text_any (w : World) (B g : Nat) (A : Option Addr) (cap : Nat) (zs : List Int) (p : Nat) (h : Rd w B g A cap zs p) (hp : p + 200 ≤ 1000000000000) :
    Calls Tryd.prog 15 #[.pointer (some ⟨g, 0, none⟩)] w fun e w' => DrawnE B g A cap zs p 60 (fun s => s.size ≤ 65) w e w' := by
  have hgw := h.lt
  go_enter Tryd.func15, Tryd.ntmps15
  go_wp2_with fail
  refine (pick_any _ _ _ _ _ _ _ _ h (by omega)).mono ?_
  rintro e w1 ⟨v, rfl, v0, v1, hoff, hrd⟩
  have hv2 : v ≤ 2 := by have := v1 (by omega); omega
  have D1 := Lib.hid (hrd (by omega))
  have G1 := Lib.hid hoff.grown
  have hg1 : g < w1.heap.size := Nat.lt_of_lt_of_le hgw hoff.grown.size
  clear hrd hoff v1 h
  go_wp2_with fail
  refine (l7DrawN_any w1 B g A cap zs _ v v0 hv2 D1.out (by omega)).mono ?_
  rintro e w2 ⟨s, q2, rfl, hs, hq2, hD2, hG2⟩
  have D2 := Lib.hid hD2
  have G2 := Lib.hid (grow_trans G1.out hG2)
  have hg2 : g < w2.heap.size := Nat.lt_of_lt_of_le hg1 hG2.size
  have hs1 : 1 ≤ s.size := hs.1
  have hs2 : s.size ≤ 63 := hs.2
  clear hs hD2 hG2 D1 G1 v0 hv2
  go_wp2_with fail
  refine (pick_any _ _ _ _ _ _ _ _ D2.out (by omega)).mono ?_
  rintro e w3 ⟨v', rfl, v0, v1, hoff, hrd⟩
  have D3 := Lib.hid (hrd (by omega))
  have G3 := Lib.hid (grow_trans G2.out hoff.grown)
  have hg3 : g < w3.heap.size := Nat.lt_of_lt_of_le hg2 hoff.grown.size
  clear hrd hoff v1 D2 G2
  by_cases hv : 0 < v'
  · go_wp2_with fail
    go_ret
    exact ⟨s, q2 + 1, rfl, by show s.size ≤ 65; omega, by omega, D3.out, G3.out⟩
  go_wp2_with fail
  refine (pick_any _ _ _ _ _ _ _ _ D3.out (by omega)).mono ?_
  rintro e w4 ⟨v4, rfl, u0, u1, hoff, hrd⟩
  obtain ⟨k, rfl⟩ := Int.eq_ofNat_of_zero_le u0
  have hk : k < s.size := by have := u1 (by omega); omega
  have hk0 : (0 : Int) ≤ (k : Int) := by omega
  have hk1 : (k : Int) ≤ (s.size : Int) := by omega
  have gd : w4.grownBy w4.drew none := ⟨rfl, rfl, rfl, Nat.le_refl _, fun _ _ _ => rfl⟩
  have gd' : w4.grownBy w4.drew (some g) := ⟨rfl, rfl, rfl, Nat.le_refl _, fun _ _ _ => rfl⟩
  have D4 := Lib.hid ((hrd (by omega)).grown gd (fun j hj => by cases hj))
  have G4 := Lib.hid (grow_trans (grow_trans G3.out hoff.grown) gd')
  have hg4 : g < w4.drew.heap.size := Nat.lt_of_lt_of_le hg3 hoff.grown.size
  clear hrd hoff u0 u1 D3 G3 v0 hv
  go_upto_region 5 with fail
  refine wp_region_Z (S := fun w' => True) (by kernel_rfl) trivial (fun hS => ?_)
  refine wpAnyZ_take (i := 0) (v := ?vt0) rfl (by kernel_rfl) (by kernel_rfl) (by kernel_rfl) (by kernel_rfl) (fun _ _ _ h => h) (Or.inl ⟨by kernel_rfl, ?yt0⟩) (by with_reducible assumption) ?rt0
  case yt0 => (intro w hSw; (try dsimp only at hSw); go_simp; (try with_reducible rfl))
  simp only [Act.put, List.setIfInBounds_toArray]
  refine wpAnyZ_take (i := 1) (v := ?vt1) rfl (by kernel_rfl) (by kernel_rfl) (by kernel_rfl) (by kernel_rfl) (fun _ _ _ h => h) (Or.inl ⟨by kernel_rfl, ?yt1⟩) (by with_reducible assumption) ?rt1
  case yt1 => (intro w hSw; (try dsimp only at hSw); go_simp; (try with_reducible rfl))
  simp only [Act.put]
  refine wpAnyZ_take (i := 2) (v := ?vt2) rfl (by kernel_rfl) (by kernel_rfl) (by kernel_rfl) (by kernel_rfl) (fun _ _ _ h => h) (Or.inl ⟨by kernel_rfl, ?yt2⟩) (by with_reducible assumption) ?rt2
  case yt2 => (intro w hSw; (try dsimp only at hSw); go_simp; (try with_reducible rfl))
  simp only [Act.put]
  refine wpAnyZ_take (i := 3) (v := ?vt3) rfl (by kernel_rfl) (by kernel_rfl) (by kernel_rfl) (by kernel_rfl) (fun _ _ _ h => h) (Or.inl ⟨by kernel_rfl, ?yt3⟩) (by with_reducible assumption) ?rt3
  case yt3 => (intro w hSw; (try dsimp only at hSw); go_simp; (try with_reducible rfl))
  simp only [Act.put]
  refine wpAnyZ_take (i := 7) (v := ?vt7) rfl (by kernel_rfl) (by kernel_rfl) (by kernel_rfl) (by kernel_rfl) (fun _ _ _ h => h) (Or.inl ⟨by kernel_rfl, ?yt7⟩) (by with_reducible assumption) ?rt7
  case yt7 => (intro w hSw; (try dsimp only at hSw); go_simp; (try with_reducible rfl))
  simp only [Act.put]
  refine wpAnyZ_take (i := 8) (v := ?vt8) rfl (by kernel_rfl) (by kernel_rfl) (by kernel_rfl) (by kernel_rfl) (fun _ _ _ h => h) (Or.inl ⟨by kernel_rfl, ?yt8⟩) (by with_reducible assumption) ?rt8
  case yt8 => (intro w hSw; (try dsimp only at hSw); go_simp; (try with_reducible rfl))
  simp only [Act.put]
  refine wpAnyZ_take (i := 9) (v := ?vt9) rfl (by kernel_rfl) (by kernel_rfl) (by kernel_rfl) (by kernel_rfl) (fun _ _ _ h => h) (Or.inl ⟨by kernel_rfl, ?yt9⟩) (by with_reducible assumption) ?rt9
  case yt9 => (intro w hSw; (try dsimp only at hSw); go_simp; (try with_reducible rfl))
  simp only [Act.put]
  refine wpAnyZ_step (i := 4) (by kernel_rfl) rfl ?_
  intro K4 hK4
  go_simp
  refine hK4.out _ _ trivial (fun _ => ?_)
  clear hK4
  (try simp only [Act.put])
  refine wpAnyZ_step (i := 5) (by kernel_rfl) rfl ?_
  intro K5 hK5
  go_simp
  have hlg : ¬ w4.drew.heap.size = g := by omega
  refine (ofE_any _ B g w4.drew.heap.size A cap zs _ 6 [⟨#[]⟩, ⟨#[40]⟩, ⟨#[41]⟩, ⟨#[35]⟩, ⟨#[41, 35]⟩, ⟨#[99]⟩] (D4.out.alloc _) (by omega) rfl (by decide) (by decide) hlg (rowE_strs w4.drew [⟨#[]⟩, ⟨#[40]⟩, ⟨#[41]⟩, ⟨#[35]⟩, ⟨#[41, 35]⟩, ⟨#[99]⟩])).mono ?_
  rintro e w5 ⟨x, q5, rfl, hx, hq5, hD5, hG5⟩
  have hx1 : x.size ≤ 2 := by
    simp at hx
    rcases hx with rfl | rfl | rfl | rfl | rfl | rfl <;> decide
  have hq5' : q5 ≤ q2 + 1 + 1 + 1 := hq5
  have D5 := Lib.hid hD5
  have G5 := Lib.hid (grow_trans G4.out (grow_trans (World.grownBy_alloc w4.drew _ (some g)) hG5))
  have hq6 : ¬ 9223372036854775807 < min k s.size + x.size := by omega
  refine hK5.out _ _ trivial (fun _ => ?_)
  clear hK5 hx hq5 hD5 hG5 D4 G4
  (try simp only [Act.put])
  refine wpAnyZ_take (i := 6) (v := ?vt6) rfl (by kernel_rfl) (by kernel_rfl) (by kernel_rfl) (by kernel_rfl) (fun _ _ _ h => h) (Or.inl ⟨by kernel_rfl, ?yt6⟩) (by with_reducible assumption) ?rt6
  case yt6 => (intro w hSw; (try dsimp only at hSw); go_simp; (try with_reducible rfl))
  simp only [Act.put]
  refine wpAnyZ_step (i := 10) (by kernel_rfl) rfl ?_
  intro K10 hK10
  go_simp
  refine (pick_any _ _ _ _ _ _ _ _ D5.out (by omega)).mono ?_
  rintro e w6 ⟨v6, rfl, y0, y1, hoff, hrd⟩
  obtain ⟨j, rfl⟩ := Int.eq_ofNat_of_zero_le y0
  have hj : j ≤ 1 := by have := y1 (by omega); omega
  have D6 := Lib.hid (hrd (by omega))
  have G6 := Lib.hid (grow_trans G5.out hoff.grown)
  have WRJ : Hid (IntKind.i64.wrap ((k : Int) + (j : Int)) = (k : Int) + (j : Int)) := IntWalk.i64_in _ (by omega)
  have hkj0 : (0 : Int) ≤ (k : Int) + (j : Int) := by omega
  have hkj1 : (k : Int) + (j : Int) ≤ (s.size : Int) := by omega
  have hkj2 : ((k : Int) + (j : Int)).toNat = k + j := by omega
  have hq7 : ¬ 9223372036854775807 < min k s.size + x.size + (s.size - (k + j)) := by omega
  refine hK10.out _ _ trivial (fun _ => ?_)
  clear hK10 y0 y1 hoff hrd D5 G5
  (try simp only [Act.put])
  refine wpAnyZ_take (i := 11) (v := .int .i64 ((k : Int) + (j : Int))) rfl (by kernel_rfl) (by kernel_rfl) (by kernel_rfl) (by kernel_rfl) (fun _ _ _ h => h) (Or.inl ⟨by kernel_rfl, ?yt11⟩) (by with_reducible assumption) ?rt11
  case yt11 => (intro w hSw; (try dsimp only at hSw); go_simp; (try with_reducible rfl); exact WRJ.out)
  simp only [Act.put]
  refine wpAnyZ_take (i := 12) (v := ?vt12) rfl (by kernel_rfl) (by kernel_rfl) (by kernel_rfl) (by kernel_rfl) (fun _ _ _ h => h) (Or.inl ⟨by kernel_rfl, ?yt12⟩) (by with_reducible assumption) ?rt12
  case yt12 => (intro w hSw; (try dsimp only at hSw); go_simp; (try with_reducible rfl))
  simp only [Act.put]
  refine wpAnyZ_take (i := 13) (v := ?vt13) rfl (by kernel_rfl) (by kernel_rfl) (by kernel_rfl) (by kernel_rfl) (fun _ _ _ h => h) (Or.inl ⟨by kernel_rfl, ?yt13⟩) (by with_reducible assumption) ?rt13
  case yt13 => (intro w hSw; (try dsimp only at hSw); go_simp; (try with_reducible rfl))
  simp only [Act.put]
  refine wpAnyZ_last (i := 14) (by kernel_rfl) rfl (by kernel_rfl) ?_
  intro K14 hK14
  go_simp
  refine hK14.out _ _ ?_
  clear hK14
  go_wp2_with fail
  go_ret
  refine ⟨_, q5 + 1, rfl, ?_, by omega, D6.out, G6.out⟩
  show ByteArray.size _ ≤ 65
  simp only [ByteArray.size_append, ByteArray.size_extract]
  omega

/-- What a drawing function leaves that opens the bytes and draws an expression. -/
def DrawnX (w : World) (e : Ending) (w' : World) : Prop := ∃ s : ByteArray, e = .returned (.string s) ∧ s.size ≤ 65 ∧ Hid (Below w.heap.size w w')
theorem drawDO_any (A : Option Addr) (cap : Nat) (zs : List Int) (w : World) (hz : IRow .u8 w w.heap.size A zs) (hc : zs.length ≤ cap) (hb : ∀ z ∈ zs, 0 ≤ z ∧ z ≤ 255) :
    Calls Tryd.prog 11 #[.slice A zs.length cap] w fun e w' => DrawnX w e w' := by
  have HB := Lib.hid hb
  clear hb
  go_enter Tryd.func11, Tryd.ntmps11
  go_wp2_with fail
  refine (open_any A cap zs w hz hc HB.out).mono ?_
  rintro e w3 ⟨A1, cap1, bs, rfl, hrd, hbel⟩
  have B3 := Lib.hid hbel
  have D3 := Lib.hid hrd
  clear hbel hrd
  go_wp2_with fail
  refine (l7Text_any _ _ _ _ _ _ _ D3.out (by omega)).mono ?_
  rintro e w4 ⟨s, q, rfl, hs, hq, hD, hG⟩
  have hs' : s.size ≤ 65 := hs
  have B4 : Hid (Below w.heap.size w w4) := B3.out.grown hG B3.out.size (fun j hj => by cases hj; exact Nat.le_refl _)
  clear hs hq hD hG
  go_wp2_with fail
  go_ret
  exact ⟨s, rfl, hs', B4⟩
/-- .. and a number. -/
def DrawnXN (w : World) (e : Ending) (w' : World) : Prop := ∃ (s : ByteArray) (n : Int), e = .returned (.tuple #[.string s, .int .i64 n]) ∧ s.size ≤ 65 ∧ n ≤ 9223372036854775807 ∧ Hid (Below w.heap.size w w')
theorem drawEE_any (A : Option Addr) (cap : Nat) (zs : List Int) (w : World) (hz : IRow .u8 w w.heap.size A zs) (hc : zs.length ≤ cap) (hb : ∀ z ∈ zs, 0 ≤ z ∧ z ≤ 255) :
    Calls Tryd.prog 4 #[.slice A zs.length cap] w fun e w' => DrawnXN w e w' := by
  have HB := Lib.hid hb
  clear hb
  go_enter Tryd.func4, Tryd.ntmps4
  go_wp2_with fail
  refine (open_any A cap zs w hz hc HB.out).mono ?_
  rintro e w3 ⟨A1, cap1, bs, rfl, hrd, hbel⟩
  have B3 := Lib.hid hbel
  have D3 := Lib.hid hrd
  clear hbel hrd
  go_wp2_with fail
  refine (l7Text_any _ _ _ _ _ _ _ D3.out (by omega)).mono ?_
  rintro e w4 ⟨s, q, rfl, hs, hq, hD, hG⟩
  have hs' : s.size ≤ 65 := hs
  have hgl : w.heap.size < w4.heap.size := Nat.lt_of_lt_of_le D3.out.lt hG.size
  have B4 : Hid (Below w.heap.size w w4) := B3.out.grown hG B3.out.size (fun j hj => by cases hj; exact Nat.le_refl _)
  have D4 := Lib.hid hD
  have hq' : q ≤ 60 := by omega
  clear hs hq hD hG D3 B3
  go_wp2_with fail
  have hlg : ¬ w4.heap.size = w.heap.size := by omega
  refine (num_of _ _ w.heap.size w4.heap.size _ _ _ _ 8 [1, 2, 3, 0, 5, -1, 40, 9223372036854775807] (D4.out.alloc _) (by omega) rfl (by decide) (by decide) hlg (row_lit w4 [1, 2, 3, 0, 5, -1, 40, 9223372036854775807])).mono ?_
  rintro e w5 ⟨n, q5, rfl, hn, _, _, hG5⟩
  have hn9 : n ≤ 9223372036854775807 := by
    simp at hn
    rcases hn with rfl | rfl | rfl | rfl | rfl | rfl | rfl | rfl <;> decide
  have B5 : Hid (Below w.heap.size w w5) := (below_al B4.out (by omega) _).grown hG5 (below_al B4.out (by omega) _).size (fun j hj => by cases hj; exact Nat.le_refl _)
  clear hn hG5
  go_wp2_with fail
  go_ret2
  exact ⟨s, n, rfl, hs', hn9, B5⟩
end Go.Proofs.YtdhpcpmjdffgmaaDoor
