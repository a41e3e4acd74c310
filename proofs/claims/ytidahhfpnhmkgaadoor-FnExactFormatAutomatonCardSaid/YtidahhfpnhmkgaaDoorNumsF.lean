/- Texts of states, the program's and the model's: the same bytes; nothing that was there changes. Condition: numbers from 0 to 9. -/
import Derived.Test.YtidahhfpnhmkgaaDoorFmts
import Derived.Test.YtidahhfpnhmkgaaDoorEqA
namespace Go.Proofs.YtidahhfpnhmkgaaDoor
open Go.RowKit
set_option maxHeartbeats 2000000
set_option maxRecDepth 100000
set_option linter.unusedVariables false

def digF (z : Int) : List UInt8 := Lib.decDigits z.toNat
theorem digF_len {z : Int} (h : 0 ≤ z ∧ z < 10) : (digF z).length = 1 := by unfold digF; rw [dec_small (by omega)]; rfl
theorem digF_nat (k : Nat) : digF (k : Int) = Lib.decDigits k := by unfold digF; rw [Int.toNat_natCast]
/-- The bytes of the text of numbers. -/
def numF (zs : List Int) : List UInt8 := Lib.join (zs.map digF) [32]
theorem join_len1 (l : List (List UInt8)) (K : Nat) (c : UInt8) (h : ∀ x ∈ l, x.length ≤ K) : (Lib.join l [c]).length ≤ (K + 1) * l.length := by
  have ht : ∀ r : List (List UInt8), (∀ x ∈ r, x.length ≤ K) → (Lib.joinTail [c] r).length ≤ (K + 1) * r.length := by
    intro r
    induction r with
    | nil => intro _; simp [Lib.joinTail]
    | cons b r ih =>
      intro hh
      have hb := hh b (by simp)
      have h2 := ih (fun x hx => hh x (by simp [hx]))
      have e : (K + 1) * (b :: r).length = (K + 1) * r.length + (K + 1) := by rw [List.length_cons, Nat.mul_succ]
      rw [e]
      simp [Lib.joinTail] at h2 ⊢
      omega
  cases l with
  | nil => simp [Lib.join_nil]
  | cons a r =>
    rw [Lib.join_cons, List.length_append]
    have ha := h a (by simp)
    have hr := ht r (fun x hx => h x (by simp [hx]))
    have e : (K + 1) * (a :: r).length = (K + 1) * r.length + (K + 1) := by rw [List.length_cons, Nat.mul_succ]
    omega
theorem itoa_small (z : Int) (w : World) (h : 0 ≤ z ∧ z < 10) : Calls Tryd.prog 22 #[.int .i64 z] w fun e w' => e = .returned (.string ⟨(digF z).toArray⟩) ∧ w = w' := by
  obtain ⟨k, rfl⟩ := Int.eq_ofNat_of_zero_le h.1
  rw [digF_nat]
  exact (Tryd.strconv_Itoa_small k (by omega) w).mono fun e w' hh => ⟨hh.1, hh.2.symm⟩
theorem dec_one (z : Int) (w : World) (h : 0 ≤ z ∧ z < 10) : Calls Tryd.prog 17 #[.int .i64 z] w fun e w' => FmtEnd (digF z) w e w' := by
  obtain ⟨k, rfl⟩ := Int.eq_ofNat_of_zero_le h.1
  rw [digF_nat]
  exact (dec_any k w (by omega)).mono fun e w' hh => hh

theorem numsI_any (A : Option Addr) (cap : Nat) (zs : List Int) (w : World) (hz : Ints w w.heap.size A zs) (hlen : zs.length ≤ 1048576) (hd : ∀ z ∈ zs, 0 ≤ z ∧ z < 10) :
    Calls Tryd.prog 23 #[.slice A zs.length cap] w fun e w' => FmtEnd (numF zs) w e w' := by
  have hl := hz.len
  obtain ⟨i0, hi, hz0, hz1, hz2⟩ := info_parts info_str
  have hb2 : i0.bytes * zs.length ≤ 281474976710656 := by rw [hz2]; omega
  have Z0 := Lib.hid hz0
  have Z1 := Lib.hid hz1
  have ZI := Lib.hid hi
  have HM := Lib.hid (show zs.length ≤ maxLen by unfold maxLen; omega)
  have HB2 := Lib.hid hb2
  have HD := Lib.hid hd
  clear hz0 hz1 hz2 hi hb2 hd
  go_enter Tryd.func23, Tryd.ntmps23
  go_wp2_with (at_make; refine wpList_make_full _ rfl _ _ 48 rfl w.heap.size 9 i0 (.string ByteArray.empty) 1 Tryd.underlying48 ZI.out Z0.out Z1.out _ _ _ _ zs.length rfl rfl rfl rfl HB2.out HM.out (Nat.le_refl _) ?_; intro w1 hown hgr)
  have hb1 : Below w.heap.size w w1 := (Below.refl _ _).grown hgr (Nat.le_refl _) (fun k hk => by cases hk)
  have HOWN := Lib.hid hown
  clear hown hgr
  go_loopw [11] (fun i wr => ∃ (k : Nat) (cs : List Value), k ≤ zs.length ∧ i = .int .i64 k ∧ Hid (wr.ownsRow w.heap.size 9 1 (.slice (some ⟨w.heap.size, 0, none⟩) zs.length zs.length) zs.length cs) ∧ Hid (cs.take k = (zs.take k).map (fun z => Value.string ⟨(digF z).toArray⟩)) ∧ Below w.heap.size w wr) (fun i _ => zs.length - (intOf i).toNat)
  case atStart => exact ⟨0, _, Nat.zero_le _, rfl, HOWN.out, rfl, hb1⟩
  case round =>
    obtain ⟨k, cs, hk, rfl, hown, htk, hb⟩ := hrel
    have hsz : cs.length = zs.length := by have := hown.out.1; omega
    by_cases hlt : k < zs.length
    · obtain ⟨b, off, z, rfl, hbB, hc, hdr, hg⟩ := hz.at_ hlt
      have hc' : wr.cell? ⟨b, off + k, none⟩ = some (.int .i64 z) := (hb.cell (p := ⟨b, off + k, none⟩) hbB).trans hc
      have HN := Lib.hid (take_next hlt hg)
      have HZ := Lib.hid (HD.out z (List.mem_of_mem_drop (i := k) (by rw [hdr]; simp)))
      have HS := Lib.hid hsz
      obtain ⟨u0, hcell⟩ : ∃ u0, wr.cell? ⟨w.heap.size, k, none⟩ = some u0 := ⟨_, by rw [hown.out.cellAt k (by omega), List.getElem?_eq_getElem (by omega)]⟩
      have hfr := hown.out.frozenAt k
      obtain ⟨hst, _⟩ := hown.out.stored k (Value.string ⟨(digF z).toArray⟩)
      have HST := Lib.hid hst
      have HBW := Lib.hid (hb.setCell (p := ⟨w.heap.size, k, none⟩) (Nat.le_refl _) (Value.string ⟨(digF z).toArray⟩))
      clear hdr hg hc HOWN hb1 hsz hst
      go_wp2_with fail
      refine (itoa_small _ _ HZ.out).mono ?_
      rintro e w2 ⟨rfl, rfl⟩
      go_wp2_with fail
      go_roundw
      case rel =>
        refine ⟨k + 1, _, by omega, by go_num, HST.out, ?_, HBW.out⟩
        show _ = _
        rw [take_set_snoc _ _ _ (by have := HS.out; omega), htk.out, HN.out, List.map_append]
        rfl
      case measure => simp [intOf]; omega
    · have hcs : cs = zs.map (fun z => Value.string ⟨(digF z).toArray⟩) := by have := htk.out; rwa [List.take_of_length_le (by omega), List.take_of_length_le (by omega)] at this
      have hcells : ∀ (j : Nat) x, (zs.map (fun z => (⟨(digF z).toArray⟩ : ByteArray)))[j]? = some x → wr.cell? ⟨w.heap.size, 0 + j, none⟩ = some (.string x) := by
        intro j x hj
        rw [List.getElem?_map] at hj
        have hjl : j < zs.length := by
          rcases Nat.lt_or_ge j zs.length with h | h
          · exact h
          · rw [List.getElem?_eq_none h] at hj; cases hj
        rw [Nat.zero_add, hown.out.cellAt j (by omega), hcs, List.getElem?_map]
        rw [List.getElem?_eq_getElem hjl] at hj ⊢
        cases hj
        rfl
      have hmap : (zs.map (fun z => (⟨(digF z).toArray⟩ : ByteArray))).map (·.data.toList) = zs.map digF := by rw [List.map_map]; rfl
      have hj := Tryd.strings_Join w.heap.size 0 zs.length (zs.map (fun z => (⟨(digF z).toArray⟩ : ByteArray))) ⟨#[32]⟩ wr hcells ((hown.out.lt w.heap.size rfl).2) (by rw [List.length_map]; omega) (by rw [List.length_map]; exact Nat.le_refl _) (by rw [hmap]; have h1 := join_len1 (zs.map digF) 1 32 (fun x hx => by obtain ⟨z, hz, rfl⟩ := List.mem_map.1 hx; rw [digF_len (HD.out z hz)]; exact Nat.le_refl _); rw [List.length_map] at h1; show (Lib.join (zs.map digF) [32]).length ≤ _; omega)
      rw [hmap, List.length_map] at hj
      have HJ := Lib.hid hj
      clear hj hcells hmap hcs hsz HOWN hb1
      go_wp2_with fail
      refine HJ.out.mono ?_
      rintro e w3 ⟨rfl, hb3⟩
      go_wp2_with fail
      go_ret
      exact ⟨rfl, hb.trans (hb3.mono hb.size)⟩

theorem numsS_any (A : Option Addr) (cap : Nat) (zs : List Int) (w : World) (hz : Ints w w.heap.size A zs) (hlen : zs.length ≤ 1048576) (hd : ∀ z ∈ zs, 0 ≤ z ∧ z < 10) :
    Calls Tryd.prog 18 #[.slice A zs.length cap] w fun e w' => FmtEnd (numF zs) w e w' := by
  have hl := hz.len
  have HD := Lib.hid hd
  clear hd
  go_enter Tryd.func18, Tryd.ntmps18
  go_wp2
  go_loopw [3, 8] (fun s i wr => ∃ (k : Nat) (t : ByteArray), k ≤ zs.length ∧ i = .int .i64 k ∧ s = .string t ∧ Hid (t.data.toList = Lib.join ((zs.take k).map digF) [32]) ∧ t.size ≤ 2 * k ∧ Below w.heap.size w wr) (fun _ i _ => zs.length - (intOf i).toNat)
  case atStart => exact ⟨0, ByteArray.empty, Nat.zero_le _, rfl, rfl, rfl, Nat.le_refl _, Below.refl _ _⟩
  case round =>
    obtain ⟨k, t, hk, rfl, rfl, hd, ht, hb⟩ := hrel
    by_cases hlt : k < zs.length
    · obtain ⟨b, off, z, rfl, hbB, hc, hdr, hg⟩ := hz.at_ hlt
      have hc' : wr.cell? ⟨b, off + k, none⟩ = some (.int .i64 z) := (hb.cell (p := ⟨b, off + k, none⟩) hbB).trans hc
      have HN := Lib.hid (take_next hlt hg)
      have hz9 := HD.out z (List.mem_of_mem_drop (i := k) (by rw [hdr]; simp))
      have HZ := Lib.hid hz9
      have hfl := digF_len hz9
      have hfl' : (digF z).length ≤ 1 := by omega
      clear hdr hg hc hz9 hfl
      by_cases h0 : k = 0
      · have ht0 : t.data.toList = [] := by rw [hd.out, h0]; rfl
        have HT0 := Lib.hid ht0
        have h0' : ¬ (0 : Int) < (k : Int) := by omega
        have H0 := Lib.hid h0
        clear ht0 h0
        go_wp2_with fail
        refine (dec_one _ _ HZ.out).mono ?_
        rintro e w2 ⟨rfl, hb2⟩
        go_wp2_with fail
        go_roundw
        case rel =>
          refine ⟨k + 1, _, by omega, by go_num, rfl, ?_, ?_, hb.trans (hb2.mono hb.size)⟩
          · show _ = _
            rw [HN.out, List.map_append, H0.out, List.take_zero, ByteArray.data_append, Array.toList_append, HT0.out]
            simp [Lib.join_one]
          · rw [ByteArray.size_append]; show t.size + (digF z).toArray.size ≤ 2 * (k + 1); simp; omega
        case measure => simp [intOf]; omega
      · have h0' : (0 : Int) < (k : Int) := by omega
        go_wp2_with fail
        refine (dec_one _ _ HZ.out).mono ?_
        rintro e w2 ⟨rfl, hb2⟩
        go_wp2_with fail
        go_roundw
        case rel =>
          refine ⟨k + 1, _, by omega, by go_num, rfl, ?_, ?_, hb.trans (hb2.mono hb.size)⟩
          · show _ = _
            rw [HN.out, List.map_append, List.map_cons, List.map_nil, join_snoc _ _ (by intro he; have h := congrArg List.length he; rw [List.length_map, List.length_take, List.length_nil] at h; omega), ← hd.out]
            simp [ByteArray.data_append]
          · rw [ByteArray.size_append, ByteArray.size_append]; show t.size + 1 + (digF z).toArray.size ≤ 2 * (k + 1); simp; omega
        case measure => simp [intOf]; omega
    · go_wp2
      go_ret
      have e : t = ⟨(numF zs).toArray⟩ := by
        apply Go.WideShapes.bytes_inj
        rw [hd.out, List.take_of_length_le (by omega)]
        rfl
      rw [e]
      exact ⟨rfl, hb⟩
end Go.Proofs.YtidahhfpnhmkgaaDoor
