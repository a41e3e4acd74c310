/- Where an expression in a text ends, and whether a text is an expression, the model's; the world stays as it is. Condition: the text is no longer than a length. The first part of an expression and the rest, the model's; nothing that was there changes. Conditions: the text begins with a part; it is no longer than 2^20. -/
import Derived.Test.YtdhpcpmjdffgmaaDoorNodeOf
import Derived.Handy
import Derived.Deep.QuietTactic
import Derived.BigQuiet
namespace Go.Proofs.YtdhpcpmjdffgmaaDoor
open Go.RowKit
set_option maxHeartbeats 2000000
set_option maxRecDepth 100000
set_option linter.unusedVariables false

theorem be_t {c d : UInt8} (h : c = d) : ((c.toNat : Int) == (d.toNat : Int)) = true := by rw [h]; simp
theorem be_f {c d : UInt8} (h : ¬ c = d) : ((c.toNat : Int) == (d.toNat : Int)) = false := by
  rw [beq_eq_false_iff_ne]
  intro e
  exact h (UInt8.toNat_inj.1 (by omega))
theorem bn_t {c d : UInt8} (h : ¬ c = d) : ((c.toNat : Int) != (d.toNat : Int)) = true := by rw [bne, be_f h]; rfl
theorem bn_f {c d : UInt8} (h : c = d) : ((c.toNat : Int) != (d.toNat : Int)) = false := by rw [bne, be_t h]; rfl
/-- Where it ends, b: something has been read. -/
def contF (n : Nat) (b : Bool) (l : List UInt8) : Int := match P l with
  | some (t, r) => if (b || t.any) = true then (n : Int) - (r.length : Int) else -1
  | none => -1
def endI (s : ByteArray) (k : Nat) : Int := contF s.size false (s.data.toList.drop k)
theorem cont_nil (n : Nat) : contF n true [] = n := by simp [contF, P_nil]
theorem cont_nil0 (n : Nat) : contF n false [] = -1 := by simp [contF, P_nil, Tx.any]
theorem cont_close (n : Nat) (l : List UInt8) : contF n true (41 :: l) = (n : Int) - (l.length + 1 : Nat) := by simp [contF, P_close]
theorem cont_close0 (n : Nat) (l : List UInt8) : contF n false (41 :: l) = -1 := by simp [contF, P_close, Tx.any]
theorem cont_lit (n : Nat) (b b' : Bool) (l : List UInt8) : contF n b (chr b' :: l) = contF n true l := by
  unfold contF
  rw [P_lit]
  cases hp : P l with
  | none => rfl
  | some p => simp [Tx.any]
theorem cont_bad (n : Nat) (b : Bool) {c : UInt8} (l : List UInt8) (h1 : c ≠ 41) (h2 : c ≠ 97) (h3 : c ≠ 98) (h4 : c ≠ 40) : contF n b (c :: l) = -1 := by
  unfold contF
  rw [P_bad l h1 h2 h3 h4]
/-- Behind an opening bracket: nothing fits. -/
theorem cont_open_no {n : Nat} {b : Bool} {l : List UInt8} (h : contF n false l < 0) (hl : l.length ≤ n) : contF n b (40 :: l) = -1 := by
  unfold contF at h ⊢
  rw [P_open]
  cases hp : P l with
  | none => rfl
  | some p =>
    obtain ⟨i, r⟩ := p
    rw [hp] at h
    have hr := (P_spec hp).2.2.2
    cases hi : i.any with
    | true =>
      simp only [hi, Bool.or_true, if_true] at h
      exfalso; omega
    | false =>
      cases r with
      | nil => rfl
      | cons d r =>
        cases r with
        | nil => rfl
        | cons d' r => simp only [hi, Bool.false_eq_true, and_false, if_false]
/-- Behind an opening bracket: something fits, up to r. -/
theorem cont_open_at {n : Nat} {l : List UInt8} (h : ¬ contF n false l < 0) : ∃ i r, P l = some (i, r) ∧ i.any = true ∧ contF n false l = (n : Int) - (r.length : Int) ∧ r.length ≤ l.length ∧ ∃ m, r = l.drop m := by
  unfold contF at h ⊢
  cases hp : P l with
  | none => rw [hp] at h; exact absurd (by decide : (-1 : Int) < 0) h
  | some p =>
    obtain ⟨i, r⟩ := p
    rw [hp] at h
    obtain ⟨e1, _, _, e4⟩ := P_spec hp
    cases hi : i.any with
    | false => simp [hi] at h
    | true => exact ⟨i, r, rfl, hi, by simp [hi], e4, i.text.length, by rw [e1]; simp⟩
theorem cont_open_short {n : Nat} {b : Bool} {l r : List UInt8} {i : Tx} (hp : P l = some (i, r)) (hr : r.length < 2) : contF n b (40 :: l) = -1 := by
  unfold contF
  rw [P_open, hp]
  cases r with
  | nil => rfl
  | cons d r =>
    cases r with
    | nil => rfl
    | cons d' r => simp only [List.length_cons] at hr; omega
theorem cont_open_odd {n : Nat} {b : Bool} {l r : List UInt8} {i : Tx} {d d' : UInt8} (hp : P l = some (i, d :: d' :: r)) (hd : ¬ (d = 41 ∧ d' = 35)) : contF n b (40 :: l) = -1 := by
  unfold contF
  rw [P_open, hp]
  have : ¬ (d = 41 ∧ d' = 35 ∧ i.any = true) := fun h => hd ⟨h.1, h.2.1⟩
  simp only [if_neg this]
theorem cont_open_on {n : Nat} {b : Bool} {l r : List UInt8} {i : Tx} (hp : P l = some (i, 41 :: 35 :: r)) (hi : i.any = true) : contF n b (40 :: l) = contF n true r := by
  unfold contF
  rw [P_open, hp]
  simp only [hi, and_self, if_true]
  cases hq : P r with
  | none => rfl
  | some q => simp [Tx.any]
def EN (n : Nat) : Prop := ∀ (s : ByteArray) (k : Nat) (w : World), s.size ≤ 1048576 → k ≤ s.size → s.size - k < n →
  Calls Tryd.prog 20 #[.string s, .int .i64 k] w fun e w' => e = .returned (.int .i64 (endI s k)) ∧ w' = w
theorem ret_of {x y : Int} (h : x = y) : Ending.returned (.int .i64 x) = .returned (.int .i64 y) := by rw [h]
theorem drop_at (s : ByteArray) (k : Nat) (h : k < s.size) : s.data.toList.drop k = s[k] :: s.data.toList.drop (k + 1) := by
  have hk : k < s.data.toList.length := by rw [← size_len]; exact h
  rw [List.drop_eq_getElem_cons hk]
  rfl
theorem endC (n : Nat) (ih : EN n) : EN (n + 1) := by
  intro s k0 w hs hk0 hn
  have HI := Lib.hid ih
  have HN := Lib.hid hn
  have hsl : s.data.toList.length = s.size := (size_len s).symm
  have HSL := Lib.hid hsl
  clear ih hn hsl
  go_enter Tryd.func20, Tryd.ntmps20
  go_wp2_with fail
  go_loopw [1] (fun i wr => ∃ k : Nat, k0 ≤ k ∧ k ≤ s.size ∧ i = .int .i64 k ∧ wr = w ∧ Hid (endI s k0 = contF s.size (decide (k0 < k)) (s.data.toList.drop k))) (fun i _ => s.size - (intOf i).toNat)
  case atStart => exact ⟨k0, Nat.le_refl _, hk0, rfl, rfl, by show _ = _; rw [decide_eq_false (Nat.lt_irrefl _)]; rfl⟩
  case round =>
    obtain ⟨k, hk, hks, rfl, rfl, hR⟩ := hrel
    by_cases hlt : k < s.size
    · have hlt' : (k : Int) < (s.size : Int) := by omega
      have hk0' : (0 : Int) ≤ (k : Int) := by omega
      have hD := Lib.hid (drop_at s k hlt)
      obtain ⟨c, hc⟩ : ∃ c, c = s[k]'hlt := ⟨_, rfl⟩
      have HC := Lib.hid hc
      by_cases h1 : c = 41
      · have b1 : (((s[k]'hlt).toNat : Int) != 41) = false := bn_f (d := 41) (by rw [← hc]; exact h1)
        by_cases hkk : k0 < k
        · have hne : ((k : Int) == (k0 : Int)) = false := by rw [beq_eq_false_iff_ne]; omega
          have HE : Hid (endI s k0 = (k : Int)) := by
            show _ = _
            rw [hR.out, hD.out, ← HC.out, h1, decide_eq_true hkk, cont_close, List.length_drop, HSL.out]
            omega
          clear hR hc
          go_wp2_with fail
          go_ret
          exact ⟨ret_of HE.out.symm, rfl⟩
        · have : k = k0 := by omega
          subst this
          have hne : ((k : Int) == (k : Int)) = true := by simp
          have HE : Hid (endI s k = -1) := by
            show _ = _
            rw [hR.out, hD.out, ← HC.out, h1, decide_eq_false hkk, cont_close0]
          clear hR hc
          go_wp2_with fail
          go_ret
          exact ⟨ret_of HE.out.symm, rfl⟩
      · have b1 : (((s[k]'hlt).toNat : Int) != 41) = true := bn_t (d := 41) (by rw [← hc]; exact h1)
        by_cases h2 : c = 97
        · have b2 : (((s[k]'hlt).toNat : Int) == 97) = true := be_t (d := 97) (by rw [← hc]; exact h2)
          have HR : Hid (endI s k0 = contF s.size (decide (k0 < k + 1)) (s.data.toList.drop (k + 1))) := by
            show _ = _
            rw [hR.out, hD.out, ← HC.out, h2, decide_eq_true (show k0 < k + 1 by omega)]
            exact cont_lit _ _ true _
          clear hR hc
          go_wp2_with fail
          go_roundw
          case rel => exact ⟨k + 1, by omega, by omega, by go_num, trivial, HR.out⟩
          case measure => simp [intOf]; omega
        · have b2 : (((s[k]'hlt).toNat : Int) == 97) = false := be_f (d := 97) (by rw [← hc]; exact h2)
          by_cases h3 : c = 98
          · have b3 : (((s[k]'hlt).toNat : Int) == 98) = true := be_t (d := 98) (by rw [← hc]; exact h3)
            have HR : Hid (endI s k0 = contF s.size (decide (k0 < k + 1)) (s.data.toList.drop (k + 1))) := by
              show _ = _
              rw [hR.out, hD.out, ← HC.out, h3, decide_eq_true (show k0 < k + 1 by omega)]
              exact cont_lit _ _ false _
            clear hR hc
            go_wp2_with fail
            go_roundw
            case rel => exact ⟨k + 1, by omega, by omega, by go_num, trivial, HR.out⟩
            case measure => simp [intOf]; omega
          · have b3 : (((s[k]'hlt).toNat : Int) == 98) = false := be_f (d := 98) (by rw [← hc]; exact h3)
            by_cases h4 : c = 40
            · have b4 : (((s[k]'hlt).toNat : Int) == 40) = true := be_t (d := 40) (by rw [← hc]; exact h4)
              have HO : Hid (endI s k0 = contF s.size (decide (k0 < k)) (40 :: s.data.toList.drop (k + 1))) := by
                show _ = _
                rw [hR.out, hD.out, ← HC.out, h4]
              have hcall := HI.out s (k + 1) wr hs (by omega) (by have := HN.out; omega)
              have ek : (((k + 1 : Nat)) : Int) = (k : Int) + 1 := by omega
              rw [ek] at hcall
              have HCALL := Lib.hid hcall
              obtain ⟨j, hj⟩ : ∃ j, j = endI s (k + 1) := ⟨_, rfl⟩
              have HJ := Lib.hid hj
              clear hR hc hcall
              go_wp2_with fail
              refine HCALL.out.mono ?_
              rintro e w' ⟨rfl, rfl⟩
              rw [← hj]
              clear hj
              by_cases hj0 : j < 0
              · have HE : Hid (endI s k0 = -1) := by
                  show _ = _
                  rw [HO.out]
                  exact cont_open_no (by have := HJ.out; unfold endI at this; rw [← this]; exact hj0) (by rw [List.length_drop, HSL.out]; omega)
                go_wp2_with fail
                go_ret
                exact ⟨ret_of HE.out.symm, rfl⟩
              · obtain ⟨i, r, hp, hi, he, hr, m, hm⟩ := cont_open_at (n := s.size) (l := s.data.toList.drop (k + 1)) (by have := HJ.out; unfold endI at this; rw [← this]; exact hj0)
                have hje : j = (s.size : Int) - (r.length : Int) := by rw [HJ.out]; exact he
                rw [List.length_drop, HSL.out] at hr
                obtain ⟨j', hj'⟩ : ∃ j' : Nat, j = (j' : Int) := ⟨j.toNat, by omega⟩
                subst hj'
                have hrl : r.length = s.size - j' := by omega
                have hrd : r = s.data.toList.drop j' := by
                  rw [List.drop_drop] at hm
                  have h5 : r.length = s.data.toList.length - (k + 1 + m) := by rw [hm, List.length_drop]
                  by_cases h6 : k + 1 + m ≤ s.size
                  · rw [hm]; congr 1; rw [HSL.out] at h5; omega
                  · have h8 : r.length = 0 := by rw [h5, HSL.out]; omega
                    have h9 : j' = s.size := by omega
                    rw [List.length_eq_zero_iff.1 h8, h9, List.drop_of_length_le (by rw [HSL.out]; exact Nat.le_refl _)]
                have HP := Lib.hid hp
                have HIA := Lib.hid hi
                have HRL := Lib.hid hrl
                have HRD := Lib.hid hrd
                have hj0b : ¬ (j' : Int) < 0 := hj0
                have hjk : k + 1 ≤ j' := by omega
                have hjs : (j' : Int) + 1 ≤ 1048577 := by omega
                have hj1 : (0 : Int) ≤ (j' : Int) + 1 := by omega
                clear hp hi he hr hm hje hrl hrd
                by_cases h5 : j' + 1 < s.size
                · have d0 : j' < s.size := by omega
                  have h5' : ¬ (s.size : Int) ≤ (j' : Int) + 1 := by omega
                  have i0 : (0 : Int) ≤ (j' : Int) := by omega
                  have i1 : (j' : Int) < (s.size : Int) := by omega
                  have i2 : (0 : Int) ≤ (j' : Int) + 1 := by omega
                  have i3 : (j' : Int) + 1 < (s.size : Int) := by omega
                  have HRR : Hid (r = s[j']'d0 :: s[j' + 1]'h5 :: s.data.toList.drop (j' + 2)) := by
                    show _ = _
                    rw [HRD.out, drop_at s j' d0, drop_at s (j' + 1) h5]
                  by_cases h6 : s[j']'d0 = 41
                  · have b6 : (((s[j']'d0).toNat : Int) != 41) = false := bn_f (d := 41) h6
                    by_cases h7 : s[j' + 1]'h5 = 35
                    · have b7 : (((s[j' + 1]'h5).toNat : Int) != 35) = false := bn_f (d := 35) h7
                      have HE : Hid (endI s k0 = contF s.size (decide (k0 < j' + 2)) (s.data.toList.drop (j' + 2))) := by
                        show _ = _
                        rw [HO.out, cont_open_on (r := s.data.toList.drop (j' + 2)) (i := i) (by rw [HP.out, HRR.out, h6, h7]) HIA.out, decide_eq_true (by omega)]
                      have i4 : (j' : Int) + 2 ≤ (s.size : Int) := by omega
                      have i5 : (0 : Int) ≤ (j' : Int) + 2 := by omega
                      clear h6 h7 hjs hj1
                      go_wp2_with fail
                      go_roundw
                      case rel => exact ⟨j' + 2, by omega, by omega, by go_num, trivial, HE.out⟩
                      case measure => simp [intOf]; omega
                    · have b7 : (((s[j' + 1]'h5).toNat : Int) != 35) = true := bn_t (d := 35) h7
                      have HE : Hid (endI s k0 = -1) := by
                        show _ = _
                        rw [HO.out]
                        exact cont_open_odd (r := s.data.toList.drop (j' + 2)) (i := i) (by rw [HP.out, HRR.out]) (fun h => h7 h.2)
                      go_wp2_with fail
                      go_ret
                      exact ⟨ret_of HE.out.symm, rfl⟩
                  · have b6 : (((s[j']'d0).toNat : Int) != 41) = true := bn_t (d := 41) h6
                    have HE : Hid (endI s k0 = -1) := by
                      show _ = _
                      rw [HO.out]
                      exact cont_open_odd (r := s.data.toList.drop (j' + 2)) (i := i) (by rw [HP.out, HRR.out]) (fun h => h6 h.1)
                    go_wp2_with fail
                    go_ret
                    exact ⟨ret_of HE.out.symm, rfl⟩
                · have h5' : (s.size : Int) ≤ (j' : Int) + 1 := by omega
                  have HE : Hid (endI s k0 = -1) := by
                    show _ = _
                    rw [HO.out]
                    exact cont_open_short HP.out (by have := HRL.out; omega)
                  go_wp2_with fail
                  go_ret
                  exact ⟨ret_of HE.out.symm, rfl⟩
            · have b4 : (((s[k]'hlt).toNat : Int) == 40) = false := be_f (d := 40) (by rw [← hc]; exact h4)
              have HE : Hid (endI s k0 = -1) := by
                show _ = _
                rw [hR.out, hD.out, ← HC.out]
                exact cont_bad _ _ _ h1 h2 h3 h4
              clear hR hc
              go_wp2_with fail
              go_ret
              exact ⟨ret_of HE.out.symm, rfl⟩
    · have hlt' : ¬ (k : Int) < (s.size : Int) := by omega
      have hd : s.data.toList.drop k = [] := by rw [List.drop_of_length_le]; rw [HSL.out]; omega
      by_cases hkk : k0 < k
      · have hne : ((k : Int) == (k0 : Int)) = false := by rw [beq_eq_false_iff_ne]; omega
        have HE : Hid (endI s k0 = (k : Int)) := by
          show _ = _
          rw [hR.out, hd, decide_eq_true hkk, cont_nil]
          omega
        clear hR hd
        go_wp2_with fail
        go_ret
        exact ⟨ret_of HE.out.symm, rfl⟩
      · have : k = k0 := by omega
        subst this
        have hne : ((k : Int) == (k : Int)) = true := by simp
        have HE : Hid (endI s k = -1) := by
          show _ = _
          rw [hR.out, hd, decide_eq_false hkk, cont_nil0]
        clear hR hd
        go_wp2_with fail
        go_ret
        exact ⟨ret_of HE.out.symm, rfl⟩
theorem end_all : ∀ n, EN n
  | 0 => fun s k w _ _ h => absurd h (by omega)
  | n + 1 => endC n (end_all n)
theorem end_any (s : ByteArray) (k : Nat) (w : World) (hs : s.size ≤ 1048576) (hk : k ≤ s.size) :
    Calls Tryd.prog 20 #[.string s, .int .i64 k] w fun e w' => e = .returned (.int .i64 (endI s k)) ∧ w' = w := end_all (s.size - k + 1) s k w hs hk (by omega)
end Go.Proofs.YtdhpcpmjdffgmaaDoor
namespace Go.Proofs.YtdhpcpmjdffgmaaDoor
open Go.RowKit
set_option maxHeartbeats 2000000
set_option maxRecDepth 100000
set_option linter.unusedVariables false

theorem below_dr0 {B : Nat} {a w : World} (h : Below B a w) (m : Nat) : Below B a (w.drewN m) := ⟨h.os, h.tape, h.output, h.size, h.block⟩
theorem ext_mid (s : ByteArray) (a b : Nat) : (s.extract a b).data.toList = (s.data.toList.drop a).take (b - a) := by
  rw [ByteArray.data_extract, Array.toList_extract, List.extract_eq_take_drop]
theorem next_lit (s : ByteArray) (b : Bool) (l : List UInt8) (w : World) (hl : s.data.toList = chr b :: l) :
    Calls Tryd.prog 32 #[.string s] w fun e w' => ∃ p q : ByteArray, p.data.toList = [chr b] ∧ q.data.toList = l ∧ e = .returned (.tuple #[.string p, .bool false, .string q]) ∧ Below w.heap.size w w' := by
  have hsz : s.size = l.length + 1 := by rw [size_len, hl]; rfl
  have h0 : 0 < s.size := by omega
  have h0' : (0 : Int) < (s.size : Int) := by omega
  have h1' : (1 : Int) ≤ (s.size : Int) := by omega
  have hc : s[0]'h0 = chr b := by
    have := drop_at s 0 h0
    rw [List.drop_zero, hl] at this
    injection this with h1 h2
    exact h1.symm
  have e1 : (((s[0]'h0).toNat : Int) != 40) = true := bn_t (d := 40) (by rw [hc]; cases b <;> decide)
  have P1 : Hid ((s.extract 0 1).data.toList = [chr b]) := by show _ = _; rw [ext_mid, hl]; rfl
  have P2 : Hid ((s.extract 1 s.size).data.toList = l) := by show _ = _; rw [ext_suf, hl]; rfl
  clear hl hsz hc
  go_enter Tryd.func32, Tryd.ntmps32
  go_wp2_with fail
  go_quiet (fail)
  go_wp2_with fail
  refine bodyPost_ret (v := .tuple #[.string (s.extract 0 1), .bool false, .string (s.extract 1 s.size)]) (by simp [results, Tryd.results32, go_sem]) rfl ?_
  exact ⟨_, _, P1.out, P2.out, rfl, below_dr0 (Below.refl _ _) _⟩
theorem end_rep {s : ByteArray} {i : Tx} {l : List UInt8} (hi : i.any = true) (hg : i.good = true) (hl : s.data.toList = 40 :: (i.text ++ (41 :: 35 :: l))) :
    endI s 1 = ((i.text.length + 1 : Nat) : Int) ∧ i.text.length + 3 ≤ s.size := by
  have hsz : s.size = i.text.length + l.length + 3 := by rw [size_len, hl]; simp; omega
  have hd : s.data.toList.drop 1 = i.text ++ (41 :: 35 :: l) := by rw [hl]; rfl
  unfold endI contF
  rw [hd, P_text i _ hg (.inr ⟨_, rfl⟩)]
  simp only [hi, Bool.or_true, if_true, List.length_cons]
  omega
theorem next_rep (s : ByteArray) (i : Tx) (l : List UInt8) (w : World) (hs : s.size ≤ 1048576) (hi : i.any = true) (hg : i.good = true) (hl : s.data.toList = 40 :: (i.text ++ (41 :: 35 :: l))) :
    Calls Tryd.prog 32 #[.string s] w fun e w' => ∃ p q : ByteArray, p.data.toList = i.text ∧ q.data.toList = l ∧ e = .returned (.tuple #[.string p, .bool true, .string q]) ∧ Below w.heap.size w w' := by
  obtain ⟨he, hz⟩ := end_rep hi hg hl
  obtain ⟨j, hj⟩ : ∃ j, j = i.text.length + 1 := ⟨_, rfl⟩
  have hjs : j + 2 ≤ s.size := by omega
  have h0 : 0 < s.size := by omega
  have h0' : (0 : Int) < (s.size : Int) := by omega
  have h1' : (1 : Int) ≤ (j : Int) := by omega
  have h2' : (j : Int) ≤ (s.size : Int) := by omega
  have h3' : (j : Int) + 2 ≤ (s.size : Int) := by omega
  have h4' : (0 : Int) ≤ (j : Int) + 2 := by omega
  have hc : s[0]'h0 = 40 := by
    have := drop_at s 0 h0
    rw [List.drop_zero, hl] at this
    injection this with h1 h2
    exact h1.symm
  have e1 : (((s[0]'h0).toNat : Int) != 40) = false := bn_f (d := 40) hc
  have P1 : Hid ((s.extract 1 j).data.toList = i.text) := by show _ = _; rw [ext_mid, hl, hj]; simp
  have P2 : Hid ((s.extract (j + 2) s.size).data.toList = l) := by
    show _ = _
    rw [ext_suf, hl, hj]
    have e : i.text.length + 1 + 2 = (i.text.length + 2) + 1 := by omega
    rw [e, List.drop_succ_cons, List.drop_append]
    have e2 : i.text.length + 2 - i.text.length = 2 := by omega
    rw [e2, List.drop_of_length_le (by omega)]
    rfl
  have hcall := end_any s 1 w hs (by omega)
  rw [he, ← hj] at hcall
  have e0 : ((1 : Nat) : Int) = 1 := rfl
  rw [e0] at hcall
  have HCALL := Lib.hid hcall
  clear hl hc he hz hj hcall e0 hi hg
  go_enter Tryd.func32, Tryd.ntmps32
  go_wp2_with fail
  refine HCALL.out.mono ?_
  rintro e w' ⟨rfl, rfl⟩
  go_wp2_with fail
  go_quiet (fail)
  go_wp2_with fail
  refine bodyPost_ret (v := .tuple #[.string (s.extract 1 j), .bool true, .string (s.extract (j + 2) s.size)]) (by simp [results, Tryd.results32, go_sem]) rfl ?_
  exact ⟨_, _, P1.out, P2.out, rfl, below_dr0 (Below.refl _ _) _⟩
end Go.Proofs.YtdhpcpmjdffgmaaDoor
