/- A matrix copied into memory of the call's own, as the laws do it. Condition: at most 2^20 numbers. -/
import Derived.Test.YteanpmeelphhbaaMark
namespace Go.Proofs.Yteanpmeelphhbaa
open Go.RowKit
set_option maxHeartbeats 1000000
set_option linter.unusedVariables false

theorem own_base {w : World} {base base' n : Nat} {t : TypeId} {x : Value} {xs : List Value} (h : w.ownsRow base t 1 x n xs) (hb : base' ≤ base) : w.ownsRow base' t 1 x n xs := by
  refine ⟨h.1, ?_⟩
  rcases h.2 with h0 | ⟨g, cap, cur, h1, h2, h3⟩
  · exact Or.inl h0
  · exact Or.inr ⟨g, cap, cur, h1, Nat.le_trans hb h2, h3⟩
theorem toIntS_own (A : Option Addr) (cap : Nat) (zs : List Int) (w : World) (hz : Ints w w.heap.size A zs) (hr : zs.length ≤ 1099511627776) :
    Calls Try.prog 26 #[.slice A zs.length cap] w fun e w' => ∃ g, e = .returned (.slice (some ⟨g, 0, none⟩) zs.length zs.length) ∧ Below w.heap.size w w' ∧ w.heap.size ≤ g ∧ w'.ownsRow w.heap.size 3 1 (.slice (some ⟨g, 0, none⟩) zs.length zs.length) zs.length (zs.map (Value.int .i64)) := by
  have hl := hz.len
  obtain ⟨i0, hi, hz0, hz1, hz2⟩ := info_parts info_int
  have hb2 : i0.bytes * zs.length ≤ 281474976710656 := by rw [hz2]; omega
  have hm : zs.length ≤ maxLen := hz.1
  have Z0 := Lib.hid hz0
  have Z1 := Lib.hid hz1
  have Z2 := Lib.hid hz2
  have ZI := Lib.hid hi
  have HM := Lib.hid hm
  clear hz0 hz1 hz2 hi hm
  have HB2 := Lib.hid hb2
  clear hb2
  go_enter Try.func26, Try.ntmps26
  go_wp2_with (at_make; refine wpList_make_full _ rfl _ _ 22 rfl w.heap.size 3 i0 (.int .i64 0) 1 Try.underlying22 ZI.out Z0.out Z1.out _ _ _ _ zs.length rfl rfl rfl rfl HB2.out HM.out (Nat.le_refl _) ?_; intro w1 hown hgr)
  have hb1 : Below w.heap.size w w1 := (Below.refl _ _).grown hgr (Nat.le_refl _) (fun k hk => by cases hk)
  have HOWN := Lib.hid hown
  clear hown hgr
  go_loopw [4] (fun i wr => ∃ (k : Nat) (cs : List Value), k ≤ zs.length ∧ i = .int .i64 k ∧ wr.ownsRow w.heap.size 3 1 (.slice (some ⟨w.heap.size, 0, none⟩) zs.length zs.length) zs.length cs ∧ cs.take k = (zs.take k).map (Value.int .i64) ∧ Below w.heap.size w wr) (fun i _ => zs.length - (intOf i).toNat)
  case atStart => exact ⟨0, _, Nat.zero_le _, rfl, HOWN.out, rfl, hb1⟩
  case round =>
    obtain ⟨k, cs, hk, rfl, hown, htk, hb⟩ := hrel
    have HO := Lib.hid hown
    have HT := Lib.hid htk
    clear htk HOWN hb1
    by_cases hlt : k < zs.length
    · obtain ⟨b, off, z, rfl, hbB, hc, hd, hg⟩ := hz.at_ hlt
      have hc' : wr.cell? ⟨b, off + k, none⟩ = some (.int .i64 z) := (hb.cell (p := ⟨b, off + k, none⟩) hbB).trans hc
      have hsz : cs.length = zs.length := by have := hown.1; omega
      obtain ⟨u0, hcell⟩ : ∃ u0, wr.cell? ⟨w.heap.size, k, none⟩ = some u0 := ⟨_, by rw [hown.cellAt k (by omega), List.getElem?_eq_getElem (by omega)]⟩
      have hfr := hown.frozenAt k
      obtain ⟨hst, hgs⟩ := hown.stored k (.int .i64 z)
      have HST := Lib.hid hst
      have hb' : Below w.heap.size w (wr.setCell ⟨w.heap.size, k, none⟩ (.int .i64 z)) := hb.setCell (Nat.le_refl _) _
      have HD := Lib.hid hd
      have HG := Lib.hid hg
      have HS := Lib.hid hsz
      have HB' := Lib.hid hb'
      clear hown hst hgs hd hg hc hsz hb'
      go_wp2
      go_roundw
      case rel =>
        refine ⟨k + 1, _, by omega, by go_num, HST.out, ?_, HB'.out⟩
        rw [take_set_snoc _ _ _ (by rw [HS.out]; omega), HT.out, List.take_succ_eq_append_getElem (by omega), List.map_append]
        have e : zs[k] = z := by have := HG.out; rw [List.getD_eq_getElem?_getD, List.getElem?_eq_getElem hlt] at this; exact this
        rw [e]; rfl
      case measure => simp [intOf]; omega
    · have hsz : cs.length = zs.length := by have := hown.1; omega
      have HS := Lib.hid hsz
      clear hown hsz
      go_wp2
      go_ret
      have hcs : cs = zs.map (Value.int .i64) := by
        have := HT.out
        rwa [List.take_of_length_le (by rw [HS.out]; omega), List.take_of_length_le (by omega)] at this
      refine ⟨_, rfl, hb, Nat.le_refl _, ?_⟩
      rw [← hcs]
      exact HO.out

theorem toMatrix_own (m : Int) (A : Option Addr) (cap : Nat) (zs : List Int) (w : World) (hz : Ints w w.heap.size A zs) (hs : zs.length ≤ 1048576) :
    Calls Try.prog 10 #[.agg #[.int .i64 m, .slice A zs.length cap]] w fun e w' => ∃ g, e = .returned (.agg #[.int .i64 m, .slice (some ⟨g, 0, none⟩) zs.length zs.length]) ∧ w'.ownsRow w.heap.size 3 1 (.slice (some ⟨g, 0, none⟩) zs.length zs.length) zs.length (zs.map (Value.int .i64)) ∧ Below w.heap.size w w' := by
  have hl := hz.len
  go_enter Try.func10, Try.ntmps10
  go_wp2_with fail
  refine (toIntS_own _ _ _ _ (ints_al (ints_al (ints_al hz _) _) _) (by omega)).mono ?_
  rintro e w1 ⟨g, rfl, hb, hg, hi⟩
  have b1 : Blk w1 (w.heap.size + 1) 27 #[.int .i64 0, .slice none 0 0] := ((blk_new (by simp)).alloc _).below hb (by simp)
  have b2 : Blk w1 (w.heap.size + 1 + 1) 27 #[.int .i64 m, .slice none 0 0] := (blk_new (by simp)).below hb (by simp)
  have c10 := b1.cell 0
  have c11 := b1.cell 1
  have c20 := b2.cell 0
  have c21 := b2.cell 1
  have f10 := b1.frozen 0
  have f11 := b1.frozen 1
  have f21 := b2.frozen 1
  simp at c10 c11 c20 c21
  have hb' := below_on (below_a3 w _ _ _) hb
  have HI := Lib.hid hi
  have HB := Lib.hid hb'
  have hgn : w.heap.size + 1 + 1 < g := by simp at hg; omega
  have B1 := Lib.hid b1
  clear hb hg hi b1 b2 hb'
  go_wp2
  have B2 := ((B1.out.other (w.heap.size + 1 + 1) 1 (.slice (some ⟨g, 0, none⟩) zs.length zs.length) (by omega)).set_ 0 (.int .i64 m)).set_ 1 (.slice (some ⟨g, 0, none⟩) zs.length zs.length)
  refine bodyPost_ret (results_1 rfl (gives_mat (g := w.heap.size + 1) rfl B2)) rfl ?_
  have hgb : (((w.alloc (.cells #[.int .i64 m, .slice A zs.length cap] 24)).alloc (.cells #[.int .i64 0, .slice none 0 0] 27)).alloc (.cells #[.int .i64 m, .slice none 0 0] 27)).heap.size = w.heap.size + 1 + 1 + 1 := by simp
  have h2 := HI.out
  rw [hgb] at h2
  have h3 := own_far (own_far (own_far h2 (grow_set w1 (w.heap.size + 1 + 1) 1 (.slice (some ⟨g, 0, none⟩) zs.length zs.length)) (by omega)) (grow_set _ (w.heap.size + 1) 0 (.int .i64 m)) (by omega)) (grow_set _ (w.heap.size + 1) 1 (.slice (some ⟨g, 0, none⟩) zs.length zs.length)) (by omega)
  have hb3 := ((HB.out.setCell (p := ⟨w.heap.size + 1 + 1, 1, none⟩) (by simp; omega) (.slice (some ⟨g, 0, none⟩) zs.length zs.length)).setCell (p := ⟨w.heap.size + 1, 0, none⟩) (by simp) (.int .i64 m)).setCell (p := ⟨w.heap.size + 1, 1, none⟩) (by simp) (.slice (some ⟨g, 0, none⟩) zs.length zs.length)
  exact ⟨g, rfl, own_base h3 (by omega), hb3⟩

end Go.Proofs.Yteanpmeelphhbaa
