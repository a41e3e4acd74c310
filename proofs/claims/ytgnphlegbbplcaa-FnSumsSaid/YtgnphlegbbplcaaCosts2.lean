/- Contracts of the exported cost functions and of their models: each returns the plain function of its arguments; nothing that was there changes. No condition but that the slices can be read. -/
import Derived.Test.YtgnphlegbbplcaaCosts
namespace Go.Proofs.Ytgnphlegbbplcaa
open Go.RowKit
set_option maxHeartbeats 400000

theorem two_ints (a b : Int) (w : World) : Ints (w.alloc (.cells #[.int .i64 a, .int .i64 b] 3)) (w.heap.size + 1) (some ⟨w.heap.size, 0, none⟩) [a, b] :=
  ⟨by simp [maxLen], fun _ => ⟨w.heap.size, 0, rfl, by omega, fun k hk => by
    have hk2 : k = 0 ∨ k = 1 := by simp at hk; omega
    rcases hk2 with rfl | rfl <;> simp [go_sem]⟩⟩

theorem sumOf_two (a b : Int) (w : World) : Calls Try.prog 35 #[.slice (some ⟨w.heap.size, 0, none⟩) 2 2] (w.alloc (.cells #[.int .i64 a, .int .i64 b] 3)) fun e w' => e = .returned (.int .i64 (sumF 0 [a, b])) ∧ w.alloc (.cells #[.int .i64 a, .int .i64 b] 3) = w' :=
  sumOf_any _ 2 _ [a, b] _ (two_ints a b w)
theorem leastOf_two (a b : Int) (w : World) : Calls Try.prog 36 #[.slice (some ⟨w.heap.size, 0, none⟩) 2 2] (w.alloc (.cells #[.int .i64 a, .int .i64 b] 3)) fun e w' => e = .returned (.int .i64 (leastF 1000000 [a, b])) ∧ w.alloc (.cells #[.int .i64 a, .int .i64 b] 3) = w' :=
  leastOf_any _ 2 _ [a, b] _ (two_ints a b w)
theorem l1All_two (a b : Int) (r : Bool) (hr : allV [a, b] = r) (w : World) : Calls Try.prog 37 #[.slice (some ⟨w.heap.size, 0, none⟩) 2 2] (w.alloc (.cells #[.int .i64 a, .int .i64 b] 3)) fun e w' => e = .returned (.bool r) ∧ w.alloc (.cells #[.int .i64 a, .int .i64 b] 3) = w' := by
  rw [← hr]; exact l1All_any _ 2 _ [a, b] _ (two_ints a b w)

theorem addCost_any (a b : Int) (w : World) :
    Calls Try.prog 14 #[.int .i64 a, .int .i64 b] w fun e w' => e = .returned (.int .i64 (sumF 0 [a, b])) ∧ Below w.heap.size w w' := by
  go_enter Try.func14, Try.ntmps14
  go_wp2_with (go_at_call 35; refine (sumOf_two _ _ _).mono ?_; rintro e w' ⟨rfl, rfl⟩)
  go_ret
  exact ⟨rfl, (Below.refl _ _).alloc (Nat.le_refl _) _⟩
theorem minCost_any (a b : Int) (w : World) :
    Calls Try.prog 15 #[.int .i64 a, .int .i64 b] w fun e w' => e = .returned (.int .i64 (leastF 1000000 [a, b])) ∧ Below w.heap.size w w' := by
  go_enter Try.func15, Try.ntmps15
  go_wp2_with (go_at_call 36; refine (leastOf_two _ _ _).mono ?_; rintro e w' ⟨rfl, rfl⟩)
  go_ret
  exact ⟨rfl, (Below.refl _ _).alloc (Nat.le_refl _) _⟩

theorem sAddCost_any (a b : Int) (w : World) :
    Calls Try.prog 16 #[.int .i64 a, .int .i64 b] w fun e w' => e = .returned (.int .i64 (sumF 0 [a, b])) ∧ Below w.heap.size w w' := by
  rcases Bool.eq_false_or_eq_true (allV [a, b]) with h | h
  · obtain ⟨ha, hb⟩ := allV_two h
    have HS := Lib.hid (sumF_two ha hb)
    have HH := Lib.hid h
    obtain ⟨a0, a1⟩ := vld_t ha
    obtain ⟨b0, b1⟩ := vld_t hb
    clear h ha hb
    go_enter Try.func16, Try.ntmps16
    go_wp2_with (first | (go_at_call 37; refine (l1All_two _ _ true HH.out _).mono ?_; rintro e w' ⟨rfl, rfl⟩) | (go_at_call 38; refine (l1Add_any _ _ _ a0 a1 b0 b1).mono ?_; rintro e w' ⟨rfl, rfl⟩))
    go_ret
    exact ⟨ret_int (by rw [HS.out]), (Below.refl _ _).alloc (Nat.le_refl _) _⟩
  · have HS := Lib.hid (sumF_two_f h)
    have HH := Lib.hid h
    clear h
    go_enter Try.func16, Try.ntmps16
    go_wp2_with (go_at_call 37; refine (l1All_two _ _ false HH.out _).mono ?_; rintro e w' ⟨rfl, rfl⟩)
    go_ret
    exact ⟨ret_int (by rw [HS.out]), (Below.refl _ _).alloc (Nat.le_refl _) _⟩
theorem sMinCost_any (a b : Int) (w : World) :
    Calls Try.prog 17 #[.int .i64 a, .int .i64 b] w fun e w' => e = .returned (.int .i64 (leastF 1000000 [a, b])) ∧ Below w.heap.size w w' := by
  rcases Bool.eq_false_or_eq_true (allV [a, b]) with h | h
  · obtain ⟨ha, hb⟩ := allV_two h
    have HS := Lib.hid (leastF_two ha hb)
    have HH := Lib.hid h
    clear h ha hb
    go_enter Try.func17, Try.ntmps17
    go_wp2_with (go_at_call 37; refine (l1All_two _ _ true HH.out _).mono ?_; rintro e w' ⟨rfl, rfl⟩)
    all_goals
      go_ret
      exact ⟨ret_int (by rw [HS.out]; first | omega | (split <;> omega)), (Below.refl _ _).alloc (Nat.le_refl _) _⟩
  · have HS := Lib.hid (leastF_two_f h)
    have HH := Lib.hid h
    clear h
    go_enter Try.func17, Try.ntmps17
    go_wp2_with (go_at_call 37; refine (l1All_two _ _ false HH.out _).mono ?_; rintro e w' ⟨rfl, rfl⟩)
    go_ret
    exact ⟨ret_int (by rw [HS.out]), (Below.refl _ _).alloc (Nat.le_refl _) _⟩

theorem sumCosts_any (A : Option Addr) (cap B : Nat) (zs : List Int) (w : World) (hz : Ints w B A zs) :
    Calls Try.prog 23 #[.slice A zs.length cap] w fun e w' => e = .returned (.int .i64 (sumF 0 zs)) ∧ w = w' := by
  go_enter Try.func23, Try.ntmps23
  go_wp2_with (go_at_call 35; refine (sumOf_any _ _ _ _ _ hz).mono ?_; rintro e w' ⟨rfl, rfl⟩)
  go_ret
  exact ⟨rfl, rfl⟩
theorem leastCost_any (A : Option Addr) (cap B : Nat) (zs : List Int) (w : World) (hz : Ints w B A zs) :
    Calls Try.prog 25 #[.slice A zs.length cap] w fun e w' => e = .returned (.int .i64 (leastF 1000000 zs)) ∧ w = w' := by
  go_enter Try.func25, Try.ntmps25
  go_wp2_with (go_at_call 36; refine (leastOf_any _ _ _ _ _ hz).mono ?_; rintro e w' ⟨rfl, rfl⟩)
  go_ret
  exact ⟨rfl, rfl⟩

theorem allV_at {zs : List Int} (h : allV zs = true) {k : Nat} {z : Int} (hd : zs.drop k = z :: zs.drop (k + 1)) : vld z = true := by
  have hm : z ∈ zs := List.mem_of_mem_drop (i := k) (by rw [hd]; simp)
  exact List.all_eq_true.1 h z hm
theorem l1All_is (A : Option Addr) (cap B : Nat) (zs : List Int) (r : Bool) (hr : allV zs = r) (w : World) (hz : Ints w B A zs) :
    Calls Try.prog 37 #[.slice A zs.length cap] w fun e w' => e = .returned (.bool r) ∧ w = w' := by
  rw [← hr]; exact l1All_any A cap B zs w hz

theorem sSumCosts_any (A : Option Addr) (cap B : Nat) (zs : List Int) (w : World) (hz : Ints w B A zs) :
    Calls Try.prog 26 #[.slice A zs.length cap] w fun e w' => e = .returned (.int .i64 (sumF 0 zs)) ∧ w = w' := by
  have hl := hz.len
  have HE := Lib.hid (sumF_eq zs 0)
  rcases Bool.eq_false_or_eq_true (allV zs) with h | h
  · have HH := Lib.hid h
    clear h
    go_enter Try.func26, Try.ntmps26
    go_wp2_with (go_at_call 37; refine (l1All_is _ _ _ _ true HH.out _ hz).mono ?_; rintro e w' ⟨rfl, rfl⟩)
    go_loop [3, 11] (fun s i => ∃ (k : Nat) (acc : Int), k ≤ zs.length ∧ i = .int .i64 k ∧ s = .int .i64 acc ∧ 0 ≤ acc ∧ acc ≤ 1000000 ∧ sumS 0 zs = sumS acc (zs.drop k)) (fun _ i => zs.length - (intOf i).toNat)
    case atStart => exact ⟨0, 0, Nat.zero_le _, rfl, rfl, by omega, by omega, rfl⟩
    case round =>
      obtain ⟨k, acc, hk, rfl, rfl, h0, h1, hr⟩ := hrel
      have HR := Lib.hid hr
      clear hr
      by_cases hlt : k < zs.length
      · obtain ⟨b, off, z, rfl, _, hc, hd, _⟩ := hz.at_ hlt
        have hv := vld_t (allV_at HH.out hd)
        obtain ⟨v0, v1⟩ := hv
        have HD := Lib.hid hd
        clear hd
        go_wp2_with (go_at_call 38; refine (l1Add_any _ _ _ h0 h1 v0 v1).mono ?_; rintro e w' ⟨rfl, rfl⟩)
        go_round
        case rel => exact ⟨k + 1, min (acc + z) 1000000, by omega, by go_num, rfl, by omega, by omega, by rw [HR.out, HD.out]; rfl⟩
        case measure => simp [intOf]; omega
      · go_wp2
        go_ret
        exact ⟨ret_int (by rw [HE.out, HH.out, HR.out, List.drop_of_length_le (by omega)]; rfl), rfl⟩
  · have HH := Lib.hid h
    clear h
    go_enter Try.func26, Try.ntmps26
    go_wp2_with (go_at_call 37; refine (l1All_is _ _ _ _ false HH.out _ hz).mono ?_; rintro e w' ⟨rfl, rfl⟩)
    go_ret
    exact ⟨ret_int (by rw [HE.out, HH.out]; simp), rfl⟩
theorem sLeastCost_any (A : Option Addr) (cap B : Nat) (zs : List Int) (w : World) (hz : Ints w B A zs) :
    Calls Try.prog 27 #[.slice A zs.length cap] w fun e w' => e = .returned (.int .i64 (leastF 1000000 zs)) ∧ w = w' := by
  have hl := hz.len
  have HE := Lib.hid (leastF_eq zs 1000000)
  rcases Bool.eq_false_or_eq_true (allV zs) with h | h
  · have HH := Lib.hid h
    clear h
    go_enter Try.func27, Try.ntmps27
    go_wp2_with (go_at_call 37; refine (l1All_is _ _ _ _ true HH.out _ hz).mono ?_; rintro e w' ⟨rfl, rfl⟩)
    go_loop [3, 11] (fun s i => ∃ (k : Nat) (acc : Int), k ≤ zs.length ∧ i = .int .i64 k ∧ s = .int .i64 acc ∧ 0 ≤ acc ∧ acc ≤ 1000000 ∧ leastS 1000000 zs = leastS acc (zs.drop k)) (fun _ i => zs.length - (intOf i).toNat)
    case atStart => exact ⟨0, 1000000, Nat.zero_le _, rfl, rfl, by omega, by omega, rfl⟩
    case round =>
      obtain ⟨k, acc, hk, rfl, rfl, h0, h1, hr⟩ := hrel
      have HR := Lib.hid hr
      clear hr
      by_cases hlt : k < zs.length
      · obtain ⟨b, off, z, rfl, _, hc, hd, _⟩ := hz.at_ hlt
        have hv := vld_t (allV_at HH.out hd)
        obtain ⟨v0, v1⟩ := hv
        have HD := Lib.hid hd
        clear hd
        go_wp2
        go_round
        case rel => exact ⟨k + 1, min acc z, by omega, by go_num, congrArg (Value.int .i64) (by split <;> omega), by omega, by omega, by rw [HR.out, HD.out]; rfl⟩
        case measure => simp [intOf]; omega
      · go_wp2
        go_ret
        exact ⟨ret_int (by rw [HE.out, HH.out, HR.out, List.drop_of_length_le (by omega)]; rfl), rfl⟩
  · have HH := Lib.hid h
    clear h
    go_enter Try.func27, Try.ntmps27
    go_wp2_with (go_at_call 37; refine (l1All_is _ _ _ _ false HH.out _ hz).mono ?_; rintro e w' ⟨rfl, rfl⟩)
    go_ret
    exact ⟨ret_int (by rw [HE.out, HH.out]; simp), rfl⟩

/-! Times. -/
theorem times_in {n a : Int} (ha : 0 < a) (hn : 0 ≤ n) (h : n ≤ 1000000 / a) : 0 ≤ n * a ∧ n * a ≤ 1000000 :=
  ⟨Int.mul_nonneg hn (by omega), Int.mul_le_of_le_ediv ha h⟩
theorem timesF_no {n a : Int} (h : n < 0 ∨ vld a = false) : timesF n a = -1 := by unfold timesF; rw [if_pos h]
theorem timesF_zero {n a : Int} (hn : 0 ≤ n) (hv : vld a = true) (h : a = 0) : timesF n a = 0 := by unfold timesF; rw [if_neg (by rw [hv]; simp; omega), if_pos h]
theorem timesF_over {n a : Int} (hn : 0 ≤ n) (hv : vld a = true) (h : ¬ a = 0) (ho : 1000000 / a < n) : timesF n a = 1000000 := by unfold timesF; rw [if_neg (by rw [hv]; simp; omega), if_neg h, if_pos ho]
theorem timesF_in {n a : Int} (hn : 0 ≤ n) (hv : vld a = true) (h : ¬ a = 0) (ho : ¬ 1000000 / a < n) : timesF n a = n * a := by unfold timesF; rw [if_neg (by rw [hv]; simp; omega), if_neg h, if_neg ho]

theorem times_any (n a : Int) (w : World) (hn : 0 ≤ n) (hv : vld a = true) :
    Calls Try.prog 42 #[.int .i64 a, .int .i64 n] w fun e w' => e = .returned (.int .i64 (timesF n a)) ∧ w = w' := by
  obtain ⟨a0, a1⟩ := vld_t hv
  by_cases hz : a = 0
  · have HF := Lib.hid (timesF_zero hn hv hz)
    subst hz
    clear hv
    go_enter Try.func42, Try.ntmps42
    go_wp2
    go_ret
    exact ⟨ret_int (by rw [HF.out]), rfl⟩
  · have hp : 1 ≤ a := by omega
    by_cases ho : 1000000 / a < n
    · have HF := Lib.hid (timesF_over hn hv hz ho)
      clear hv
      go_enter Try.func42, Try.ntmps42
      go_wp2
      go_ret
      exact ⟨ret_int (by rw [HF.out]), rfl⟩
    · have HF := Lib.hid (timesF_in hn hv hz ho)
      obtain ⟨t0, t1⟩ := times_in (n := n) (a := a) (by omega) hn (by omega)
      clear hv
      go_enter Try.func42, Try.ntmps42
      go_wp2
      go_ret
      exact ⟨ret_int (by rw [HF.out]), rfl⟩

theorem timesCost_any (n a : Int) (w : World) :
    Calls Try.prog 21 #[.int .i64 n, .int .i64 a] w fun e w' => e = .returned (.int .i64 (timesF n a)) ∧ w = w' := by
  by_cases hn : n < 0
  · have HF := Lib.hid (timesF_no (a := a) (Or.inl hn))
    go_enter Try.func21, Try.ntmps21
    go_wp2_with fail
    go_ret
    exact ⟨ret_int (by rw [HF.out]), rfl⟩
  · rcases vld_cases a with hv | hv
    · have HV := Lib.hid hv
      clear hv
      go_enter Try.func21, Try.ntmps21
      go_wp2_with (first | (go_at_call 39; refine (valid_t _ _ HV.out).mono ?_; rintro e w' ⟨rfl, rfl⟩) | (go_at_call 42; refine (times_any _ _ _ (by omega) HV.out).mono ?_; rintro e w' ⟨rfl, rfl⟩))
      go_ret
      exact ⟨rfl, rfl⟩
    · have HF := Lib.hid (timesF_no (n := n) (Or.inr hv))
      have HV := Lib.hid hv
      clear hv
      go_enter Try.func21, Try.ntmps21
      go_wp2_with (go_at_call 39; refine (valid_f _ _ HV.out).mono ?_; rintro e w' ⟨rfl, rfl⟩)
      go_ret
      exact ⟨ret_int (by rw [HF.out]), rfl⟩

theorem sTimesCost_any (n a : Int) (w : World) :
    Calls Try.prog 22 #[.int .i64 n, .int .i64 a] w fun e w' => e = .returned (.int .i64 (timesF n a)) ∧ w = w' := by
  by_cases hn : n < 0
  · have HF := Lib.hid (timesF_no (a := a) (Or.inl hn))
    go_enter Try.func22, Try.ntmps22
    go_wp2_with fail
    go_ret
    exact ⟨ret_int (by rw [HF.out]), rfl⟩
  · rcases vld_cases a with hv | hv
    · obtain ⟨a0, a1⟩ := vld_t hv
      by_cases hz : a = 0
      · have HF := Lib.hid (timesF_zero (n := n) (by omega) hv hz)
        have HV := Lib.hid hv
        subst hz
        clear hv
        go_enter Try.func22, Try.ntmps22
        go_wp2_with (go_at_call 28; refine (sValid_t _ _ HV.out).mono ?_; rintro e w' ⟨rfl, rfl⟩)
        all_goals
          go_ret
          exact ⟨ret_int (by rw [HF.out]), rfl⟩
      · have hp : 1 ≤ a := by omega
        have hzb : (a == 0) = false := by simpa using hz
        by_cases ho : 1000000 / a < n
        · have HF := Lib.hid (timesF_over (by omega) hv hz ho)
          have HV := Lib.hid hv
          clear hv
          have hnb : (n == 0) = false := by
            have : 0 ≤ 1000000 / a := Int.ediv_nonneg (by omega) (by omega)
            rw [beq_eq_false_iff_ne]; omega
          go_enter Try.func22, Try.ntmps22
          go_wp2_with (go_at_call 28; refine (sValid_t _ _ HV.out).mono ?_; rintro e w' ⟨rfl, rfl⟩)
          all_goals
            go_ret
            exact ⟨ret_int (by rw [HF.out]), rfl⟩
        · have HF := Lib.hid (timesF_in (by omega) hv hz ho)
          have HV := Lib.hid hv
          clear hv
          obtain ⟨t0, t1⟩ := times_in (n := n) (a := a) (by omega) (by omega) (by omega)
          by_cases hn0 : n = 0
          · have H0 := Lib.hid hn0
            have hnb : (n == 0) = true := by simpa using hn0
            clear hn0
            go_enter Try.func22, Try.ntmps22
            go_wp2_with (go_at_call 28; refine (sValid_t _ _ HV.out).mono ?_; rintro e w' ⟨rfl, rfl⟩)
            all_goals
              go_ret
              exact ⟨ret_int (by rw [HF.out, H0.out]; simp), rfl⟩
          · have hnb : (n == 0) = false := by simpa using hn0
            go_enter Try.func22, Try.ntmps22
            go_wp2_with (go_at_call 28; refine (sValid_t _ _ HV.out).mono ?_; rintro e w' ⟨rfl, rfl⟩)
            all_goals
              go_ret
              exact ⟨ret_int (by rw [HF.out]), rfl⟩
    · have HF := Lib.hid (timesF_no (n := n) (Or.inr hv))
      have HV := Lib.hid hv
      clear hv
      go_enter Try.func22, Try.ntmps22
      go_wp2_with (go_at_call 28; refine (sValid_f _ _ HV.out).mono ?_; rintro e w' ⟨rfl, rfl⟩)
      go_ret
      exact ⟨ret_int (by rw [HF.out]), rfl⟩

end Go.Proofs.Ytgnphlegbbplcaa
