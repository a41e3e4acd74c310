/- The texts of matrices of costs, the program's and the model's: each returns the same bytes; nothing that was there changes. Conditions: the slice's capacity is no less than its length; the library's table of powers of ten reads as its text lays it. -/
import Derived.Test.YtidahhfpnhmkgabDoorMText
import Derived.Test.YtidahhfpnhmkgabDoorSpecTurn
import Derived.Test.YtidahhfpnhmkgabDoorFmts
import Derived.Test.YtidahhfpnhmkgabDoorVar
namespace Go.Proofs.YtidahhfpnhmkgabDoor
open Go.RowKit
set_option maxHeartbeats 1000000
set_option maxRecDepth 100000
set_option linter.unusedVariables false

theorem irow_part {kd : IntKind} {w : World} {B b off : Nat} {zs : List Int} (h : IRow kd w B (some ⟨b, off, none⟩) zs) (n m : Nat) : IRow kd w B (some ⟨b, off + n, none⟩) ((zs.drop n).take m) :=
  ⟨by have := h.1; simp; omega, fun hn => by
    have hl : n < zs.length := by simp at hn; omega
    obtain ⟨b', off', e, hb, hc⟩ := h.2 (by omega)
    cases e
    refine ⟨_, _, rfl, hb, fun k hk => ?_⟩
    simp at hk
    rw [Nat.add_assoc, hc (n + k) (by omega), List.getD_eq_getElem?_getD, List.getD_eq_getElem?_getD, List.getElem?_take, if_pos (by omega), List.getElem?_drop]⟩
theorem rowL_len {n p k : Nat} {zs : List Int} (hp : p = n * n) (hl : zs.length = p) (hk : k < n) : (rowL n zs k).length = n := by
  unfold rowL
  have h1 : k * n + n ≤ n * n := by rw [← Nat.succ_mul]; exact Nat.mul_le_mul_right n hk
  rw [List.length_take, List.length_drop]; omega
theorem kn_le {n p k q : Nat} (hp : p = n * n) (hk : k < n) (hq : q = k * n) : q + n ≤ p := by
  rw [hq, hp, ← Nat.succ_mul]; exact Nat.mul_le_mul_right n hk
theorem kn_wrap {n p k q r : Nat} (hp : p = n * n) (p1 : p ≤ 16) (hk : k < n) (hq : q = k * n) (hr : r = q + n) : wrap64 ((k : Int) * (n : Int)) = (q : Int) ∧ wrap64 (((k : Int) + 1) * (n : Int)) = (r : Int) := by
  have h0 := kn_le hp hk hq
  constructor
  · rw [← Int.natCast_mul, ← hq]; exact w64_nat (by omega)
  · have e : ((k : Int) + 1) * (n : Int) = ((r : Nat) : Int) := by rw [Int.add_mul, Int.one_mul, ← Int.natCast_mul, ← hq, hr]; simp
    rw [e]; exact w64_nat (by omega)
theorem costsF_few (zs : List Int) : (costsF zs).length ≤ 8 * zs.length := by
  unfold costsF
  split
  · exact costs_len zs
  · simp
theorem sFmts_n (A : Option Addr) (cap n : Nat) (zs : List Int) (w : World) (hn : zs.length = n) (n4 : n ≤ 16) (hz : Ints w w.heap.size A zs) :
    Calls Tryd.prog 31 #[.slice A n cap] w fun e w' => FmtEnd (costsF zs) w e w' := by subst hn; exact sFmts_any A cap zs w hz (by omega)
theorem fmts_n (A : Option Addr) (cap n : Nat) (zs : List Int) (w : World) (hn : zs.length = n) (n4 : n ≤ 16) (hz : Ints w w.heap.size A zs) (ht : Tab10 w) (hB : 3 < w.heap.size) :
    Calls Tryd.prog 25 #[.slice A n cap] w fun e w' => FmtEnd (costsF zs) w e w' := by subst hn; exact fmts_any A cap zs w hz (by omega) ht hB
theorem rowOf_int (b off n cap i s p : Nat) (s1 : 1 ≤ s) (s2 : s ≤ 4) (hi : i < s) (hp : p = i * s) (hc : p + s ≤ cap) (w : World) :
    Calls Tryd.prog 26 #[.slice (some ⟨b, off, none⟩) n cap, .int .i64 s, .int .i64 i] w fun e w' => e = .returned (.slice (some ⟨b, off + p, none⟩) s s) ∧ w = w' := by
  have p1 : p ≤ 16 := by
    rw [hp]
    calc i * s ≤ 4 * 4 := Nat.mul_le_mul (by omega) s2
      _ = 16 := rfl
  have h1 : wrap64 ((i : Int) * (s : Int)) = (p : Int) := by rw [← Int.natCast_mul, ← hp]; exact w64_nat (by omega)
  have h2 : wrap64 (((i : Int) + 1) * (s : Int)) = ((p + s : Nat) : Int) := by
    have e : ((i : Int) + 1) * (s : Int) = ((p + s : Nat) : Int) := by rw [Int.add_mul, Int.one_mul, ← Int.natCast_mul, ← hp]; simp
    rw [e]; exact w64_nat (by omega)
  obtain ⟨q, hq⟩ : ∃ q, q = p + s := ⟨_, rfl⟩
  rw [← hq] at h2
  have H1 := Lib.hid h1
  have c1 : (0 : Int) ≤ (q : Int) := by omega
  have c2 : (q : Int) ≤ (cap : Int) := by omega
  have c3 : (p : Int) ≤ (q : Int) := by omega
  have c4 : (0 : Int) ≤ (p : Int) := by omega
  have c5 : ¬ q = p := by omega
  have c6 : q - p = s := by omega
  clear H1 hp hc hq
  go_enter Tryd.func26, Tryd.ntmps26
  go_wp2
  go_ret
  exact ⟨rfl, rfl⟩

theorem sFmtM_any (m : Int) (A : Option Addr) (cap : Nat) (zs : List Int) (w : World) (hz : Ints w w.heap.size A zs) (hc : zs.length ≤ cap) :
    Calls Tryd.prog 9 #[.agg #[.int .i64 m, .slice A zs.length cap]] w fun e w' => FmtEnd (matF m zs) w e w' := by
  rcases Bool.eq_false_or_eq_true (matOk m zs) with hok | hok
  · obtain ⟨N, rfl, mv⟩ := matOk_t hok
    have n1 := mv.lo
    have n2 := mv.hi
    have HF := Lib.hid (matF_ok hok)
    have HOK := Lib.hid hok
    obtain ⟨p, hp⟩ : ∃ p, p = N * N := ⟨_, rfl⟩
    have p1 : p ≤ 16 := by rw [hp]; exact mv.sq
    have hlp : zs.length = p := by rw [mv.len, hp]
    have hp0 : 0 < p := by rw [hp]; exact Nat.mul_pos n1 n1
    obtain ⟨b, off, z0, rfl, hbB, hx1, hx2, hx3⟩ := hz.at_ (k := 0) (by omega)
    have HP := Lib.hid hp
    have HLP := Lib.hid hlp
    have HZ := Lib.hid hz
    have hcp : p ≤ cap := by omega
    rw [hlp]
    clear hx1 hx2 hx3 hp hlp mv hok hz hc z0
    go_enter Tryd.func9, Tryd.ntmps9
    go_wp2_with fail
    go_loopw [3, 4] (fun s i wr => ∃ (k : Nat) (t : ByteArray), k ≤ N ∧ i = .int .i64 k ∧ s = .string t ∧ Hid (t.data.toList = Lib.join (rowsF N zs k) [47]) ∧ t.size ≤ 40 * k ∧ Hid (Below w.heap.size w wr) ∧ Hid (Blk wr w.heap.size 25 #[.int .i64 N, .slice (some ⟨b, off, none⟩) p cap])) (fun _ i _ => N - (intOf i).toNat)
    case atStart => exact ⟨0, ByteArray.empty, Nat.zero_le _, rfl, rfl, rfl, Nat.le_refl _, below_a1 _ _, Blk.new _ _ _⟩
    case round =>
      obtain ⟨k, t, hk, rfl, rfl, ht, hts, hb, hr⟩ := hrel
      obtain ⟨c0, c1⟩ := two_cells hr.out
      have hz1 := Lib.hid ((HZ.out.below hb.out).more hb.out.size)
      go_wp2_with fail
      refine (sMatrixValid_p _ _ _ _ _ true _ HLP.out hz1.out HOK.out).mono ?_
      rintro e w2 ⟨rfl, hb2⟩
      have hr2 := Lib.hid (blk_b hr.out hb2)
      have hz2 := Lib.hid ((hz1.out.below hb2).more hb2.size)
      have hB2 := Lib.hid (below_on hb.out hb2)
      clear hr hz1 hb hb2 c0 c1
      obtain ⟨c0, c1⟩ := two_cells hr2.out
      by_cases hlt : k < N
      · obtain ⟨q, hq⟩ : ∃ q, q = k * N := ⟨_, rfl⟩
        obtain ⟨r, hr⟩ : ∃ r, r = q + N := ⟨_, rfl⟩
        have HW := Lib.hid (kn_wrap HP.out p1 hlt hq hr)
        have hqp := kn_le HP.out hlt hq
        have e1 : (0 : Int) ≤ (r : Int) := by omega
        have e2 : (r : Int) ≤ (cap : Int) := by omega
        have e3 : (q : Int) ≤ (r : Int) := by omega
        have e4 : (0 : Int) ≤ (q : Int) := by omega
        have e5 : ¬ cap = q := by omega
        have e6 : r - q = N := by omega
        have hl0 : (0 : Int) ≤ (k : Int) := by omega
        have hl1 : (k : Int) < (N : Int) := by omega
        have HL := Lib.hid (rowL_len HP.out HLP.out hlt)
        have hfl : (costsF (rowL N zs k)).length ≤ 32 := by have := costsF_few (rowL N zs k); rw [HL.out] at this; omega
        have HI : Hid (Ints w2 w2.heap.size (some ⟨b, off + q, none⟩) (rowL N zs k)) := by show IRow _ _ _ _ _; rw [rowL, ← hq]; exact irow_part hz2.out q N
        clear hq hr hz2 hqp
        by_cases h0 : k = 0
        · have h0' : ¬ (0 : Int) < (k : Int) := by omega
          have H0 := Lib.hid h0
          have ht0 : t.data.toList = [] := by rw [ht.out, h0]; rfl
          have HT0 := Lib.hid ht0
          clear ht0 h0
          obtain ⟨h1, h2⟩ := HW.out
          go_wp2_with fail
          clear h1 h2
          refine (sFmts_n _ _ _ _ _ HL.out (by omega) HI.out).mono ?_
          rintro e w3 ⟨rfl, hb3⟩
          go_wp2_with fail
          go_roundw
          case rel =>
            refine ⟨k + 1, _, by omega, by go_num, rfl, ?_, ?_, below_on hB2.out hb3, blk_b hr2.out hb3⟩
            · show _ = _
              rw [rowsF_succ, H0.out, ByteArray.data_append, Array.toList_append, HT0.out]
              simp [rowsF, Lib.join_one]
            · rw [ByteArray.size_append]; show t.size + (costsF (rowL N zs k)).toArray.size ≤ 40 * (k + 1); simp; omega
          case measure => simp [intOf]; omega
        · have h0' : (0 : Int) < (k : Int) := by omega
          obtain ⟨h1, h2⟩ := HW.out
          go_wp2_with fail
          clear h1 h2
          refine (sFmts_n _ _ _ _ _ HL.out (by omega) HI.out).mono ?_
          rintro e w3 ⟨rfl, hb3⟩
          go_wp2_with fail
          go_roundw
          case rel =>
            refine ⟨k + 1, _, by omega, by go_num, rfl, ?_, ?_, below_on hB2.out hb3, blk_b hr2.out hb3⟩
            rotate_left
            · rw [ByteArray.size_append, ByteArray.size_append]; show t.size + 1 + (costsF (rowL N zs k)).toArray.size ≤ 40 * (k + 1); simp; omega
            show _ = _
            rw [rowsF_succ, join_snoc _ _ (by intro he; have h := congrArg List.length he; rw [rowsF_len] at h; simp at h; omega), ← ht.out]
            simp [ByteArray.data_append]
          case measure => simp [intOf]; omega
      · go_wp2_with fail
        go_ret
        have hkN : k = N := by omega
        have e : t = ⟨(matF (N : Int) zs).toArray⟩ := by
          apply Go.WideShapes.bytes_inj
          rw [ht.out, HF.out, hkN]
        rw [e]
        exact ⟨rfl, hB2.out⟩
  · have HF := Lib.hid (matF_no hok)
    have HOK := Lib.hid hok
    clear hok
    go_enter Tryd.func9, Tryd.ntmps9
    go_wp2_with fail
    have hz1 := ints_al hz (.cells #[.int .i64 m, .slice A zs.length cap] 25)
    go_loopw [3, 4] (fun s i wr => s = .string ByteArray.empty ∧ i = .int .i64 0 ∧ wr = w.alloc (.cells #[.int .i64 m, .slice A zs.length cap] 25)) (fun _ i _ => 0)
    case atStart => exact ⟨rfl, rfl, rfl⟩
    case round =>
      obtain ⟨rfl, rfl, rfl⟩ := hrel
      go_wp2_with fail
      refine (sMatrixValid_is _ _ _ _ false _ hz1 HOK.out).mono ?_
      rintro e w2 ⟨rfl, hb2⟩
      go_wp2_with fail
      go_ret
      exact FmtEnd.mk_ (l' := []) HF.out (below_on (below_a1 _ _) hb2)
end Go.Proofs.YtidahhfpnhmkgabDoor
