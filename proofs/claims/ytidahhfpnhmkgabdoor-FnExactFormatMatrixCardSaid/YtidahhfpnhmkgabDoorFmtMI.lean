/- The text of a matrix of costs, as the program has it: the plain bytes; nothing that was there changes. Conditions: the slice's capacity is no less than its length; the library's table of powers of ten reads as its text lays it. -/
import Derived.Test.YtidahhfpnhmkgabDoorFmtM
namespace Go.Proofs.YtidahhfpnhmkgabDoor
open Go.RowKit
set_option maxHeartbeats 1000000
set_option maxRecDepth 100000
set_option linter.unusedVariables false

def bv (l : List UInt8) : Value := .string ⟨l.toArray⟩
theorem rows_len32 {n p : Nat} {zs : List Int} (hp : p = n * n) (hl : zs.length = p) (n2 : n ≤ 4) : ∀ x ∈ rowsF n zs n, x.length ≤ 32 := by
  intro x hx
  unfold rowsF at hx
  obtain ⟨i, hi, rfl⟩ := List.mem_map.1 hx
  have := costsF_few (rowL n zs i)
  rw [rowL_len hp hl (List.mem_range.1 hi)] at this
  omega
theorem join_len32 (l : List (List UInt8)) (h : ∀ x ∈ l, x.length ≤ 32) : (Lib.join l [47]).length ≤ 33 * l.length := by
  cases l with
  | nil => simp [Lib.join_nil]
  | cons a r =>
    rw [Lib.join_cons, List.length_append]
    have ha := h a (by simp)
    have hr : (Lib.joinTail [47] r).length ≤ 33 * r.length := by
      have : ∀ r : List (List UInt8), (∀ x ∈ r, x.length ≤ 32) → (Lib.joinTail [47] r).length ≤ 33 * r.length := by
        intro r
        induction r with
        | nil => intro _; simp [Lib.joinTail]
        | cons b r ih =>
          intro hh
          have hb := hh b (by simp)
          have := ih (fun x hx => hh x (by simp [hx]))
          simp [Lib.joinTail] at this ⊢
          omega
      exact this r (fun x hx => h x (by simp [hx]))
    simp; omega
theorem iFmtM_any (m : Int) (A : Option Addr) (cap : Nat) (zs : List Int) (w : World) (hz : Ints w w.heap.size A zs) (hc : zs.length ≤ cap) (ht : Tab10 w) (hB : 3 < w.heap.size) :
    Calls Tryd.prog 7 #[.agg #[.int .i64 m, .slice A zs.length cap]] w fun e w' => FmtEnd (matF m zs) w e w' := by
  have HT := Lib.hid ht
  clear ht
  rcases Bool.eq_false_or_eq_true (matOk m zs) with hok | hok
  · obtain ⟨N, rfl, mv⟩ := matOk_t hok
    have n1 := mv.lo
    have n2 := mv.hi
    have HF := Lib.hid (matF_ok hok)
    have HOK := Lib.hid hok
    obtain ⟨p, hp⟩ : ∃ p, p = N * N := ⟨_, rfl⟩
    have p1 : p ≤ 16 := by rw [hp]; exact mv.sq
    have hlp : zs.length = p := by rw [mv.len, hp]
    have hp0 : 0 < p := by rw [hp]; exact Nat.mul_pos n1 n1
    obtain ⟨b, off, z0, rfl, hbB, hx1, hx2, hx3⟩ := hz.at_ (k := 0) (by omega)
    obtain ⟨i0, hi, hz0, hz1, hz2⟩ := info_parts info_str
    have hb2 : i0.bytes * N ≤ 281474976710656 := by rw [hz2]; omega
    have Z0 := Lib.hid hz0
    have Z1 := Lib.hid hz1
    have ZI := Lib.hid hi
    have HM := Lib.hid (show N ≤ maxLen by unfold maxLen; omega)
    have HB2 := Lib.hid hb2
    have HP := Lib.hid hp
    have HLP := Lib.hid hlp
    have HZ := Lib.hid hz
    have hcp : p ≤ cap := by omega
    rw [hlp]
    clear hx1 hx2 hx3 hp hlp mv hok hz hc z0 hz0 hz1 hz2 hi hb2
    go_enter Tryd.func7, Tryd.ntmps7
    go_wp2_with fail
    refine (iMatrixValid_p _ _ _ _ _ true _ HLP.out (ints_al HZ.out _) HOK.out).mono ?_
    rintro e w2 ⟨rfl, hv2⟩
    have R2 := Lib.hid (blk_b (Blk.new w 25 #[.int .i64 N, .slice (some ⟨b, off, none⟩) p cap]) hv2)
    have B2 := Lib.hid (below_on (below_a1 w _) hv2)
    have S2 := Lib.hid B2.out.size
    clear hv2
    obtain ⟨c0, c1⟩ := two_cells R2.out
    go_wp2_with (at_make; refine wpList_make_full _ rfl _ _ 46 rfl w.heap.size 9 i0 (.string ByteArray.empty) 1 Tryd.underlying46 ZI.out Z0.out Z1.out _ _ _ _ N rfl rfl rfl rfl HB2.out HM.out S2.out ?_; intro w3 hown hgr)
    have hb3 : Below w.heap.size w w3 := B2.out.grown hgr S2.out (fun k hk => by cases hk)
    obtain ⟨g, hg⟩ : ∃ g, g = w2.heap.size := ⟨_, rfl⟩
    rw [← hg] at hown ⊢
    have hgw : w.heap.size ≤ g := by have := S2.out; omega
    have HOWN := Lib.hid hown
    have HB3 := Lib.hid hb3
    have R3 := Lib.hid (blk_g R2.out hgr (fun he => by cases he))
    clear hown hgr c0 c1 hb3 hg
    go_loopw [13] (fun i wr => ∃ (k : Nat) (cs : List Value), k ≤ N ∧ i = .int .i64 k ∧ Hid (wr.ownsRow w.heap.size 9 1 (.slice (some ⟨g, 0, none⟩) N N) N cs) ∧ Hid (cs.take k = (rowsF N zs k).map bv) ∧ Hid (Below w.heap.size w wr) ∧ Hid (Blk wr w.heap.size 25 #[.int .i64 N, .slice (some ⟨b, off, none⟩) p cap])) (fun i _ => N - (intOf i).toNat)
    case atStart => exact ⟨0, _, Nat.zero_le _, rfl, HOWN.out, rfl, HB3.out, R3.out⟩
    case round =>
      obtain ⟨k, cs, hk, rfl, hown, htk, hb, hr⟩ := hrel
      obtain ⟨c0, c1⟩ := two_cells hr.out
      have HCS : Hid (cs.length = N) := by have := hown.out.1; show _ = _; omega
      by_cases hlt : k < N
      · obtain ⟨q, hq⟩ : ∃ q, q = k * N := ⟨_, rfl⟩
        have hqp := kn_le HP.out hlt hq
        have HQ := Lib.hid hq
        have HL := Lib.hid (rowL_len HP.out HLP.out hlt)
        have HI : Hid (Ints wr wr.heap.size (some ⟨b, off + q, none⟩) (rowL N zs k)) := by show IRow _ _ _ _ _; rw [rowL, ← hq]; exact irow_part ((HZ.out.below hb.out).more hb.out.size) q N
        clear hq HOWN HB3 R3 R2 B2
        go_wp2_with fail
        refine (rowOf_int b off p cap k N q n1 n2 hlt HQ.out (by omega) _).mono ?_
        rintro e w4 ⟨rfl, rfl⟩
        go_wp2_with fail
        refine (fmts_n _ _ _ _ _ HL.out (by omega) HI.out (tab10_below HT.out hb.out hB) (Nat.lt_of_lt_of_le hB hb.out.size)).mono ?_
        rintro e w5 ⟨rfl, hb5⟩
        have hO := own_below hown.out hb5
        obtain ⟨u0, hcell⟩ : ∃ u0, w5.cell? ⟨g, k, none⟩ = some u0 := ⟨_, by rw [hO.cellAt k (by omega), List.getElem?_eq_getElem (by have := HCS.out; omega)]⟩
        have hfr := hO.frozenAt k
        obtain ⟨hst, _⟩ := hO.stored k (bv (costsF (rowL N zs k)))
        have HST := Lib.hid hst
        have HBW := Lib.hid ((below_on hb.out hb5).setCell (p := ⟨g, k, none⟩) hgw (bv (costsF (rowL N zs k))))
        have hRg : ¬ g = w.heap.size := by
          intro he
          have h1 := (blk_b hr.out hb5)
          have h2 := own_other hO h1 (by decide)
          exact h2 (by rw [he]; rfl)
        have HRW := Lib.hid ((blk_b hr.out hb5).other g k (bv (costsF (rowL N zs k))) hRg)
        clear hO hst c0 c1
        go_wp2_with fail
        go_roundw
        case rel =>
          refine ⟨k + 1, _, by omega, by go_num, HST.out, ?_, HBW.out, HRW.out⟩
          show _ = _
          rw [take_set_snoc _ _ _ (by have := HCS.out; omega), htk.out, rowsF_succ, List.map_append]
          rfl
        case measure => simp [intOf]; omega
      · have hkN : k = N := by omega
        have hcs : cs = (rowsF N zs N).map bv := by have h := htk.out; rw [hkN] at h; have := HCS.out; rwa [List.take_of_length_le (by omega)] at h
        have hcells : ∀ (j : Nat) x, ((rowsF N zs N).map (fun l => (⟨l.toArray⟩ : ByteArray)))[j]? = some x → wr.cell? ⟨g, 0 + j, none⟩ = some (.string x) := by
          intro j x hj
          rw [List.getElem?_map] at hj
          have hjl : j < (rowsF N zs N).length := by
            rcases Nat.lt_or_ge j (rowsF N zs N).length with h | h
            · exact h
            · rw [List.getElem?_eq_none h] at hj; cases hj
          have hjN : j < N := by rw [rowsF_len] at hjl; exact hjl
          rw [Nat.zero_add, hown.out.cellAt j (by omega), hcs, List.getElem?_map]
          rw [List.getElem?_eq_getElem hjl] at hj ⊢
          cases hj
          rfl
        have hmap : ((rowsF N zs N).map (fun l => (⟨l.toArray⟩ : ByteArray))).map (·.data.toList) = rowsF N zs N := by rw [List.map_map]; exact List.map_id' _
        have hj := Tryd.strings_Join g 0 N ((rowsF N zs N).map (fun l => (⟨l.toArray⟩ : ByteArray))) ⟨#[47]⟩ wr hcells ((hown.out.lt g rfl).2) (by rw [List.length_map, rowsF_len]; omega) (by rw [List.length_map, rowsF_len]; exact Nat.le_refl _) (by rw [hmap]; have h1 := join_len32 _ (rows_len32 HP.out HLP.out n2); rw [rowsF_len] at h1; show (Lib.join (rowsF N zs N) [47]).length ≤ _; omega)
        rw [hmap, List.length_map, rowsF_len] at hj
        have HJ := Lib.hid hj
        clear hj hcells hmap hcs HOWN HB3 R3 R2 B2 c0 c1
        go_wp2_with fail
        refine HJ.out.mono ?_
        rintro e w5 ⟨rfl, hb5⟩
        go_wp2_with fail
        go_ret
        exact FmtEnd.mk_ HF.out (below_on hb.out hb5)
  · have HF := Lib.hid (matF_no hok)
    have HOK := Lib.hid hok
    clear hok
    go_enter Tryd.func7, Tryd.ntmps7
    go_wp2_with fail
    refine (iMatrixValid_is _ _ _ _ false _ (ints_al hz _) HOK.out).mono ?_
    rintro e w2 ⟨rfl, hv2⟩
    go_wp2_with fail
    go_ret
    exact FmtEnd.mk_ (l' := []) HF.out (below_on (below_a1 _ _) hv2)
end Go.Proofs.YtidahhfpnhmkgabDoor
