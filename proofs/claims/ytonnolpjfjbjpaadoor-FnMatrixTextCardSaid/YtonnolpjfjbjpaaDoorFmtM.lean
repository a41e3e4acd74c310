/- The texts of matrices of costs, the program's and the model's: each returns the same bytes; nothing that was there changes. Conditions: the slice's capacity is no less than its length; the library's table of powers of ten reads as its text lays it. The text of a matrix of costs, as the program has it: the plain bytes; nothing that was there changes. Conditions: the slice's capacity is no less than its length; the library's table of powers of ten reads as its text lays it. -/
import Derived.Test.YtonnolpjfjbjpaaDoorMText
import Derived.Test.YtonnolpjfjbjpaaDoorSpecMin
import Derived.Test.YtonnolpjfjbjpaaDoorFmts
import Derived.Test.YtonnolpjfjbjpaaDoorVar
namespace Go.Proofs.YtonnolpjfjbjpaaDoor
open Go.RowKit
set_option maxHeartbeats 1000000
set_option maxRecDepth 100000
set_option linter.unusedVariables false

theorem irow_part {kd : IntKind} {w : World} {B b off : Nat} {zs : List Int} (h : IRow kd w B (some ⟨b, off, none⟩) zs) (n m : Nat) : IRow kd w B (some ⟨b, off + n, none⟩) ((zs.drop n).take m) :=
  ⟨by have := h.1; simp; omega, fun hn => by
    have hl : n < zs.length := by simp at hn; omega
    obtain ⟨b', off', e, hb, hc⟩ := h.2 (by omega)
    cases e
    refine ⟨_, _, rfl, hb, fun k hk => ?_⟩
    simp at hk
    rw [Nat.add_assoc, hc (n + k) (by omega), List.getD_eq_getElem?_getD, List.getD_eq_getElem?_getD, List.getElem?_take, if_pos (by omega), List.getElem?_drop]⟩
theorem rowL_len {n p k : Nat} {zs : List Int} (hp : p = n * n) (hl : zs.length = p) (hk : k < n) : (rowL n zs k).length = n := by
  unfold rowL
  have h1 : k * n + n ≤ n * n := by rw [← Nat.succ_mul]; exact Nat.mul_le_mul_right n hk
  rw [List.length_take, List.length_drop]; omega
theorem kn_le {n p k q : Nat} (hp : p = n * n) (hk : k < n) (hq : q = k * n) : q + n ≤ p := by
  rw [hq, hp, ← Nat.succ_mul]; exact Nat.mul_le_mul_right n hk
theorem kn_wrap {n p k q r : Nat} (hp : p = n * n) (p1 : p ≤ 16) (hk : k < n) (hq : q = k * n) (hr : r = q + n) : wrap64 ((k : Int) * (n : Int)) = (q : Int) ∧ wrap64 (((k : Int) + 1) * (n : Int)) = (r : Int) := by
  have h0 := kn_le hp hk hq
  constructor
  · rw [← Int.natCast_mul, ← hq]; exact w64_nat (by omega)
  · have e : ((k : Int) + 1) * (n : Int) = ((r : Nat) : Int) := by rw [Int.add_mul, Int.one_mul, ← Int.natCast_mul, ← hq, hr]; simp
    rw [e]; exact w64_nat (by omega)
theorem costsF_few (zs : List Int) : (costsF zs).length ≤ 8 * zs.length := by
  unfold costsF
  split
  · exact costs_len zs
  · simp
theorem sFmts_n (A : Option Addr) (cap n : Nat) (zs : List Int) (w : World) (hn : zs.length = n) (n4 : n ≤ 16) (hz : Ints w w.heap.size A zs) :
    Calls Tryd.prog 24 #[.slice A n cap] w fun e w' => FmtEnd (costsF zs) w e w' := by subst hn; exact sFmts_any A cap zs w hz (by omega)
theorem fmts_n (A : Option Addr) (cap n : Nat) (zs : List Int) (w : World) (hn : zs.length = n) (n4 : n ≤ 16) (hz : Ints w w.heap.size A zs) (ht : Tab10 w) (hB : 3 < w.heap.size) :
    Calls Tryd.prog 18 #[.slice A n cap] w fun e w' => FmtEnd (costsF zs) w e w' := by subst hn; exact fmts_any A cap zs w hz (by omega) ht hB
theorem rowOf_int (b off n cap i s p : Nat) (s1 : 1 ≤ s) (s2 : s ≤ 4) (hi : i < s) (hp : p = i * s) (hc : p + s ≤ cap) (w : World) :
    Calls Tryd.prog 19 #[.slice (some ⟨b, off, none⟩) n cap, .int .i64 s, .int .i64 i] w fun e w' => e = .returned (.slice (some ⟨b, off + p, none⟩) s s) ∧ w = w' := by
  have p1 : p ≤ 16 := by
    rw [hp]
    calc i * s ≤ 4 * 4 := Nat.mul_le_mul (by omega) s2
      _ = 16 := rfl
  have h1 : wrap64 ((i : Int) * (s : Int)) = (p : Int) := by rw [← Int.natCast_mul, ← hp]; exact w64_nat (by omega)
  have h2 : wrap64 (((i : Int) + 1) * (s : Int)) = ((p + s : Nat) : Int) := by
    have e : ((i : Int) + 1) * (s : Int) = ((p + s : Nat) : Int) := by rw [Int.add_mul, Int.one_mul, ← Int.natCast_mul, ← hp]; simp
    rw [e]; exact w64_nat (by omega)
  obtain ⟨q, hq⟩ : ∃ q, q = p + s := ⟨_, rfl⟩
  rw [← hq] at h2
  have H1 := Lib.hid h1
  have c1 : (0 : Int) ≤ (q : Int) := by omega
  have c2 : (q : Int) ≤ (cap : Int) := by omega
  have c3 : (p : Int) ≤ (q : Int) := by omega
  have c4 : (0 : Int) ≤ (p : Int) := by omega
  have c5 : ¬ q = p := by omega
  have c6 : q - p = s := by omega
  clear H1 hp hc hq
  go_enter Tryd.func19, Tryd.ntmps19
  go_wp2
  go_ret
  exact ⟨rfl, rfl⟩

theorem sFmtM_any (m : Int) (A : Option Addr) (cap : Nat) (zs : List Int) (w : World) (hz : Ints w w.heap.size A zs) (hc : zs.length ≤ cap) :
    Calls Tryd.prog 7 #[.agg #[.int .i64 m, .slice A zs.length cap]] w fun e w' => FmtEnd (matF m zs) w e w' := by
  rcases Bool.eq_false_or_eq_true (matOk m zs) with hok | hok
  · obtain ⟨N, rfl, mv⟩ := matOk_t hok
    have n1 := mv.lo
    have n2 := mv.hi
    have HF := Lib.hid (matF_ok hok)
    have HOK := Lib.hid hok
    obtain ⟨p, hp⟩ : ∃ p, p = N * N := ⟨_, rfl⟩
    have p1 : p ≤ 16 := by rw [hp]; exact mv.sq
    have hlp : zs.length = p := by rw [mv.len, hp]
    have hp0 : 0 < p := by rw [hp]; exact Nat.mul_pos n1 n1
    obtain ⟨b, off, z0, rfl, hbB, hx1, hx2, hx3⟩ := hz.at_ (k := 0) (by omega)
    have HP := Lib.hid hp
    have HLP := Lib.hid hlp
    have HZ := Lib.hid hz
    have hcp : p ≤ cap := by omega
    rw [hlp]
    clear hx1 hx2 hx3 hp hlp mv hok hz hc z0
    go_enter Tryd.func7, Tryd.ntmps7
    go_wp2_with fail
    go_loopw [3, 4] (fun s i wr => ∃ (k : Nat) (t : ByteArray), k ≤ N ∧ i = .int .i64 k ∧ s = .string t ∧ Hid (t.data.toList = Lib.join (rowsF N zs k) [47]) ∧ t.size ≤ 40 * k ∧ Hid (Below w.heap.size w wr) ∧ Hid (Blk wr w.heap.size 25 #[.int .i64 N, .slice (some ⟨b, off, none⟩) p cap])) (fun _ i _ => N - (intOf i).toNat)
    case atStart => exact ⟨0, ByteArray.empty, Nat.zero_le _, rfl, rfl, rfl, Nat.le_refl _, below_a1 _ _, Blk.new _ _ _⟩
    case round =>
      obtain ⟨k, t, hk, rfl, rfl, ht, hts, hb, hr⟩ := hrel
      obtain ⟨c0, c1⟩ := two_cells hr.out
      have hz1 := Lib.hid ((HZ.out.below hb.out).more hb.out.size)
      go_wp2_with fail
      refine (sMatrixValid_p _ _ _ _ _ true _ HLP.out hz1.out HOK.out).mono ?_
      rintro e w2 ⟨rfl, hb2⟩
      have hr2 := Lib.hid (blk_b hr.out hb2)
      have hz2 := Lib.hid ((hz1.out.below hb2).more hb2.size)
      have hB2 := Lib.hid (below_on hb.out hb2)
      clear hr hz1 hb hb2 c0 c1
      obtain ⟨c0, c1⟩ := two_cells hr2.out
      by_cases hlt : k < N
      · obtain ⟨q, hq⟩ : ∃ q, q = k * N := ⟨_, rfl⟩
        obtain ⟨r, hr⟩ : ∃ r, r = q + N := ⟨_, rfl⟩
        have HW := Lib.hid (kn_wrap HP.out p1 hlt hq hr)
        have hqp := kn_le HP.out hlt hq
        have e1 : (0 : Int) ≤ (r : Int) := by omega
        have e2 : (r : Int) ≤ (cap : Int) := by omega
        have e3 : (q : Int) ≤ (r : Int) := by omega
        have e4 : (0 : Int) ≤ (q : Int) := by omega
        have e5 : ¬ cap = q := by omega
        have e6 : r - q = N := by omega
        have hl0 : (0 : Int) ≤ (k : Int) := by omega
        have hl1 : (k : Int) < (N : Int) := by omega
        have HL := Lib.hid (rowL_len HP.out HLP.out hlt)
        have hfl : (costsF (rowL N zs k)).length ≤ 32 := by have := costsF_few (rowL N zs k); rw [HL.out] at this; omega
        have HI : Hid (Ints w2 w2.heap.size (some ⟨b, off + q, none⟩) (rowL N zs k)) := by show IRow _ _ _ _ _; rw [rowL, ← hq]; exact irow_part hz2.out q N
        clear hq hr hz2 hqp
        by_cases h0 : k = 0
        · have h0' : ¬ (0 : Int) < (k : Int) := by omega
          have H0 := Lib.hid h0
          have ht0 : t.data.toList = [] := by rw [ht.out, h0]; rfl
          have HT0 := Lib.hid ht0
          clear ht0 h0
          obtain ⟨h1, h2⟩ := HW.out
          go_wp2_with fail
          clear h1 h2
          refine (sFmts_n _ _ _ _ _ HL.out (by omega) HI.out).mono ?_
          rintro e w3 ⟨rfl, hb3⟩
          go_wp2_with fail
          go_roundw
          case rel =>
            refine ⟨k + 1, _, by omega, by go_num, rfl, ?_, ?_, below_on hB2.out hb3, blk_b hr2.out hb3⟩
            · show _ = _
              rw [rowsF_succ, H0.out, ByteArray.data_append, Array.toList_append, HT0.out]
              simp [rowsF, Lib.join_one]
            · rw [ByteArray.size_append]; show t.size + (costsF (rowL N zs k)).toArray.size ≤ 40 * (k + 1); simp; omega
          case measure => simp [intOf]; omega
        · have h0' : (0 : Int) < (k : Int) := by omega
          obtain ⟨h1, h2⟩ := HW.out
          go_wp2_with fail
          clear h1 h2
          refine (sFmts_n _ _ _ _ _ HL.out (by omega) HI.out).mono ?_
          rintro e w3 ⟨rfl, hb3⟩
          go_wp2_with fail
          go_roundw
          case rel =>
            refine ⟨k + 1, _, by omega, by go_num, rfl, ?_, ?_, below_on hB2.out hb3, blk_b hr2.out hb3⟩
            rotate_left
            · rw [ByteArray.size_append, ByteArray.size_append]; show t.size + 1 + (costsF (rowL N zs k)).toArray.size ≤ 40 * (k + 1); simp; omega
            show _ = _
            rw [rowsF_succ, join_snoc _ _ (by intro he; have h := congrArg List.length he; rw [rowsF_len] at h; simp at h; omega), ← ht.out]
            simp [ByteArray.data_append]
          case measure => simp [intOf]; omega
      · go_wp2_with fail
        go_ret
        have hkN : k = N := by omega
        have e : t = ⟨(matF (N : Int) zs).toArray⟩ := by
          apply Go.WideShapes.bytes_inj
          rw [ht.out, HF.out, hkN]
        rw [e]
        exact ⟨rfl, hB2.out⟩
  · have HF := Lib.hid (matF_no hok)
    have HOK := Lib.hid hok
    clear hok
    go_enter Tryd.func7, Tryd.ntmps7
    go_wp2_with fail
    have hz1 := ints_al hz (.cells #[.int .i64 m, .slice A zs.length cap] 25)
    go_loopw [3, 4] (fun s i wr => s = .string ByteArray.empty ∧ i = .int .i64 0 ∧ wr = w.alloc (.cells #[.int .i64 m, .slice A zs.length cap] 25)) (fun _ i _ => 0)
    case atStart => exact ⟨rfl, rfl, rfl⟩
    case round =>
      obtain ⟨rfl, rfl, rfl⟩ := hrel
      go_wp2_with fail
      refine (sMatrixValid_is _ _ _ _ false _ hz1 HOK.out).mono ?_
      rintro e w2 ⟨rfl, hb2⟩
      go_wp2_with fail
      go_ret
      exact FmtEnd.mk_ (l' := []) HF.out (below_on (below_a1 _ _) hb2)
end Go.Proofs.YtonnolpjfjbjpaaDoor
namespace Go.Proofs.YtonnolpjfjbjpaaDoor
open Go.RowKit
set_option maxHeartbeats 1000000
set_option maxRecDepth 100000
set_option linter.unusedVariables false

def bv (l : List UInt8) : Value := .string ⟨l.toArray⟩
theorem rows_len32 {n p : Nat} {zs : List Int} (hp : p = n * n) (hl : zs.length = p) (n2 : n ≤ 4) : ∀ x ∈ rowsF n zs n, x.length ≤ 32 := by
  intro x hx
  unfold rowsF at hx
  obtain ⟨i, hi, rfl⟩ := List.mem_map.1 hx
  have := costsF_few (rowL n zs i)
  rw [rowL_len hp hl (List.mem_range.1 hi)] at this
  omega
theorem join_len32 (l : List (List UInt8)) (h : ∀ x ∈ l, x.length ≤ 32) : (Lib.join l [47]).length ≤ 33 * l.length := by
  cases l with
  | nil => simp [Lib.join_nil]
  | cons a r =>
    rw [Lib.join_cons, List.length_append]
    have ha := h a (by simp)
    have hr : (Lib.joinTail [47] r).length ≤ 33 * r.length := by
      have : ∀ r : List (List UInt8), (∀ x ∈ r, x.length ≤ 32) → (Lib.joinTail [47] r).length ≤ 33 * r.length := by
        intro r
        induction r with
        | nil => intro _; simp [Lib.joinTail]
        | cons b r ih =>
          intro hh
          have hb := hh b (by simp)
          have := ih (fun x hx => hh x (by simp [hx]))
          simp [Lib.joinTail] at this ⊢
          omega
      exact this r (fun x hx => h x (by simp [hx]))
    simp; omega
theorem iFmtM_any (m : Int) (A : Option Addr) (cap : Nat) (zs : List Int) (w : World) (hz : Ints w w.heap.size A zs) (hc : zs.length ≤ cap) (ht : Tab10 w) (hB : 3 < w.heap.size) :
    Calls Tryd.prog 5 #[.agg #[.int .i64 m, .slice A zs.length cap]] w fun e w' => FmtEnd (matF m zs) w e w' := by
  have HT := Lib.hid ht
  clear ht
  rcases Bool.eq_false_or_eq_true (matOk m zs) with hok | hok
  · obtain ⟨N, rfl, mv⟩ := matOk_t hok
    have n1 := mv.lo
    have n2 := mv.hi
    have HF := Lib.hid (matF_ok hok)
    have HOK := Lib.hid hok
    obtain ⟨p, hp⟩ : ∃ p, p = N * N := ⟨_, rfl⟩
    have p1 : p ≤ 16 := by rw [hp]; exact mv.sq
    have hlp : zs.length = p := by rw [mv.len, hp]
    have hp0 : 0 < p := by rw [hp]; exact Nat.mul_pos n1 n1
    obtain ⟨b, off, z0, rfl, hbB, hx1, hx2, hx3⟩ := hz.at_ (k := 0) (by omega)
    obtain ⟨i0, hi, hz0, hz1, hz2⟩ := info_parts info_str
    have hb2 : i0.bytes * N ≤ 281474976710656 := by rw [hz2]; omega
    have Z0 := Lib.hid hz0
    have Z1 := Lib.hid hz1
    have ZI := Lib.hid hi
    have HM := Lib.hid (show N ≤ maxLen by unfold maxLen; omega)
    have HB2 := Lib.hid hb2
    have HP := Lib.hid hp
    have HLP := Lib.hid hlp
    have HZ := Lib.hid hz
    have hcp : p ≤ cap := by omega
    rw [hlp]
    clear hx1 hx2 hx3 hp hlp mv hok hz hc z0 hz0 hz1 hz2 hi hb2
    go_enter Tryd.func5, Tryd.ntmps5
    go_wp2_with fail
    refine (iMatrixValid_p _ _ _ _ _ true _ HLP.out (ints_al HZ.out _) HOK.out).mono ?_
    rintro e w2 ⟨rfl, hv2⟩
    have R2 := Lib.hid (blk_b (Blk.new w 25 #[.int .i64 N, .slice (some ⟨b, off, none⟩) p cap]) hv2)
    have B2 := Lib.hid (below_on (below_a1 w _) hv2)
    have S2 := Lib.hid B2.out.size
    clear hv2
    obtain ⟨c0, c1⟩ := two_cells R2.out
    go_wp2_with (at_make; refine wpList_make_full _ rfl _ _ 40 rfl w.heap.size 9 i0 (.string ByteArray.empty) 1 Tryd.underlying40 ZI.out Z0.out Z1.out _ _ _ _ N rfl rfl rfl rfl HB2.out HM.out S2.out ?_; intro w3 hown hgr)
    have hb3 : Below w.heap.size w w3 := B2.out.grown hgr S2.out (fun k hk => by cases hk)
    obtain ⟨g, hg⟩ : ∃ g, g = w2.heap.size := ⟨_, rfl⟩
    rw [← hg] at hown ⊢
    have hgw : w.heap.size ≤ g := by have := S2.out; omega
    have HOWN := Lib.hid hown
    have HB3 := Lib.hid hb3
    have R3 := Lib.hid (blk_g R2.out hgr (fun he => by cases he))
    clear hown hgr c0 c1 hb3 hg
    go_loopw [13] (fun i wr => ∃ (k : Nat) (cs : List Value), k ≤ N ∧ i = .int .i64 k ∧ Hid (wr.ownsRow w.heap.size 9 1 (.slice (some ⟨g, 0, none⟩) N N) N cs) ∧ Hid (cs.take k = (rowsF N zs k).map bv) ∧ Hid (Below w.heap.size w wr) ∧ Hid (Blk wr w.heap.size 25 #[.int .i64 N, .slice (some ⟨b, off, none⟩) p cap])) (fun i _ => N - (intOf i).toNat)
    case atStart => exact ⟨0, _, Nat.zero_le _, rfl, HOWN.out, rfl, HB3.out, R3.out⟩
    case round =>
      obtain ⟨k, cs, hk, rfl, hown, htk, hb, hr⟩ := hrel
      obtain ⟨c0, c1⟩ := two_cells hr.out
      have HCS : Hid (cs.length = N) := by have := hown.out.1; show _ = _; omega
      by_cases hlt : k < N
      · obtain ⟨q, hq⟩ : ∃ q, q = k * N := ⟨_, rfl⟩
        have hqp := kn_le HP.out hlt hq
        have HQ := Lib.hid hq
        have HL := Lib.hid (rowL_len HP.out HLP.out hlt)
        have HI : Hid (Ints wr wr.heap.size (some ⟨b, off + q, none⟩) (rowL N zs k)) := by show IRow _ _ _ _ _; rw [rowL, ← hq]; exact irow_part ((HZ.out.below hb.out).more hb.out.size) q N
        clear hq HOWN HB3 R3 R2 B2
        go_wp2_with fail
        refine (rowOf_int b off p cap k N q n1 n2 hlt HQ.out (by omega) _).mono ?_
        rintro e w4 ⟨rfl, rfl⟩
        go_wp2_with fail
        refine (fmts_n _ _ _ _ _ HL.out (by omega) HI.out (tab10_below HT.out hb.out hB) (Nat.lt_of_lt_of_le hB hb.out.size)).mono ?_
        rintro e w5 ⟨rfl, hb5⟩
        have hO := own_below hown.out hb5
        obtain ⟨u0, hcell⟩ : ∃ u0, w5.cell? ⟨g, k, none⟩ = some u0 := ⟨_, by rw [hO.cellAt k (by omega), List.getElem?_eq_getElem (by have := HCS.out; omega)]⟩
        have hfr := hO.frozenAt k
        obtain ⟨hst, _⟩ := hO.stored k (bv (costsF (rowL N zs k)))
        have HST := Lib.hid hst
        have HBW := Lib.hid ((below_on hb.out hb5).setCell (p := ⟨g, k, none⟩) hgw (bv (costsF (rowL N zs k))))
        have hRg : ¬ g = w.heap.size := by
          intro he
          have h1 := (blk_b hr.out hb5)
          have h2 := own_other hO h1 (by decide)
          exact h2 (by rw [he]; rfl)
        have HRW := Lib.hid ((blk_b hr.out hb5).other g k (bv (costsF (rowL N zs k))) hRg)
        clear hO hst c0 c1
        go_wp2_with fail
        go_roundw
        case rel =>
          refine ⟨k + 1, _, by omega, by go_num, HST.out, ?_, HBW.out, HRW.out⟩
          show _ = _
          rw [take_set_snoc _ _ _ (by have := HCS.out; omega), htk.out, rowsF_succ, List.map_append]
          rfl
        case measure => simp [intOf]; omega
      · have hkN : k = N := by omega
        have hcs : cs = (rowsF N zs N).map bv := by have h := htk.out; rw [hkN] at h; have := HCS.out; rwa [List.take_of_length_le (by omega)] at h
        have hcells : ∀ (j : Nat) x, ((rowsF N zs N).map (fun l => (⟨l.toArray⟩ : ByteArray)))[j]? = some x → wr.cell? ⟨g, 0 + j, none⟩ = some (.string x) := by
          intro j x hj
          rw [List.getElem?_map] at hj
          have hjl : j < (rowsF N zs N).length := by
            rcases Nat.lt_or_ge j (rowsF N zs N).length with h | h
            · exact h
            · rw [List.getElem?_eq_none h] at hj; cases hj
          have hjN : j < N := by rw [rowsF_len] at hjl; exact hjl
          rw [Nat.zero_add, hown.out.cellAt j (by omega), hcs, List.getElem?_map]
          rw [List.getElem?_eq_getElem hjl] at hj ⊢
          cases hj
          rfl
        have hmap : ((rowsF N zs N).map (fun l => (⟨l.toArray⟩ : ByteArray))).map (·.data.toList) = rowsF N zs N := by rw [List.map_map]; exact List.map_id' _
        have hj := Tryd.strings_Join g 0 N ((rowsF N zs N).map (fun l => (⟨l.toArray⟩ : ByteArray))) ⟨#[47]⟩ wr hcells ((hown.out.lt g rfl).2) (by rw [List.length_map, rowsF_len]; omega) (by rw [List.length_map, rowsF_len]; exact Nat.le_refl _) (by rw [hmap]; have h1 := join_len32 _ (rows_len32 HP.out HLP.out n2); rw [rowsF_len] at h1; show (Lib.join (rowsF N zs N) [47]).length ≤ _; omega)
        rw [hmap, List.length_map, rowsF_len] at hj
        have HJ := Lib.hid hj
        clear hj hcells hmap hcs HOWN HB3 R3 R2 B2 c0 c1
        go_wp2_with fail
        refine HJ.out.mono ?_
        rintro e w5 ⟨rfl, hb5⟩
        go_wp2_with fail
        go_ret
        exact FmtEnd.mk_ HF.out (below_on hb.out hb5)
  · have HF := Lib.hid (matF_no hok)
    have HOK := Lib.hid hok
    clear hok
    go_enter Tryd.func5, Tryd.ntmps5
    go_wp2_with fail
    refine (iMatrixValid_is _ _ _ _ false _ (ints_al hz _) HOK.out).mono ?_
    rintro e w2 ⟨rfl, hv2⟩
    go_wp2_with fail
    go_ret
    exact FmtEnd.mk_ (l' := []) HF.out (below_on (below_a1 _ _) hv2)
end Go.Proofs.YtonnolpjfjbjpaaDoor
