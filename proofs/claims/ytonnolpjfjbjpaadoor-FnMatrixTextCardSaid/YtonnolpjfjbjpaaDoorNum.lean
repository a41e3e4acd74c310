/- The model's reading of a number of at most 17 digits: it returns the number and true, or 0 and false; nothing changes. No condition. -/
import Derived.Test.YtonnolpjfjbjpaaDoorRows
import Derived.Test.YtonnolpjfjbjpaaDoorDigits
import Derived.WalkLawsBesides
import Derived.WalkSpells
import Derived.Handy
import Derived.Deep.DeepCutAuto
import Derived.BigQuiet
import Derived.Lib.IndexBytes
namespace Go.Proofs.YtonnolpjfjbjpaaDoor
open Go.RowKit
set_option maxHeartbeats 1000000
set_option linter.unusedVariables false

def NumEnd (r : Option Int) (e : Ending) : Prop := e = .returned (.tuple #[.int .i64 (r.getD 0), .bool r.isSome])
theorem NumEnd.bad {r : Option Int} (h : r = none) : NumEnd r (.returned (.tuple #[.int .i64 0, .bool false])) := by rw [h]; rfl
theorem NumEnd.good {r : Option Int} {v : Int} (h : r = some v) : NumEnd r (.returned (.tuple #[.int .i64 v, .bool true])) := by rw [h]; rfl

theorem num_neg (s t : ByteArray) (ht : s.extract 1 s.size = t) (w : World) (hs : s.size ≤ 9223372036854775807) (h1 : 0 < s.size) (h2 : ((s[0].toNat : Int) == 45) = true) :
    Calls Tryd.prog 64 #[.string s] w fun e w' => NumEnd (numBody true t.data.toList) e ∧ w = w' := by
  have htl : t.size ≤ 9223372036854775807 := by rw [← ht, ByteArray.size_extract]; omega
  go_enter Tryd.func64, Tryd.ntmps64
  go_upto_if 15 with (fail)
  go_cut [0] (fun x wx => x = .string t ∧ wx = w)
  case first =>
    go_wp2
    go_meet
    case rel => exact ⟨rfl, rfl⟩
  case rest =>
    obtain ⟨rfl, rfl⟩ := hcut
    clear h2 h1 hs ht
    by_cases c0 : t.size = 0
    · have HE := Lib.hid (numBody_empty (neg := true) c0)
      have c0b : ((t.size : Int) == 0) = true := by rw [beq_iff_eq]; omega
      have HC := Lib.hid c0
      clear c0
      go_wp2
      go_ret2
      exact ⟨NumEnd.bad HE.out, rfl⟩
    · have c0b : ((t.size : Int) == 0) = false := by rw [beq_eq_false_iff_ne]; omega
      have c0' : 0 < t.size := by omega
      by_cases c1 : 17 < t.size
      · have HE := Lib.hid (numBody_long (neg := true) c1)
        have c1' : (17 : Int) < (t.size : Int) := by omega
        go_wp2
        go_ret2
        exact ⟨NumEnd.bad HE.out, rfl⟩
      · have c1' : ¬ (17 : Int) < (t.size : Int) := by omega
        have hb0 : (t[0].toNat : Int) < 256 := by have := t[0].toNat_lt; omega
        by_cases c2 : (t[0].toNat : Int) = 48
        · have HE := Lib.hid (numBody_zero (neg := true) c0' (by omega) c2 (Or.inr rfl))
          have c2b : ((t[0].toNat : Int) == 48) = true := by rw [beq_iff_eq]; exact c2
          clear c2
          by_cases c3 : (1 : Int) < (t.size : Int)
          · go_wp2
            go_ret2
            exact ⟨NumEnd.bad HE.out, rfl⟩
          · go_wp2
            go_ret2
            exact ⟨NumEnd.bad HE.out, rfl⟩
        · have HL := Lib.hid (numBody_loop (neg := true) c0' (by omega) (Or.inl c2))
          have c2b : ((t[0].toNat : Int) == 48) = false := by rw [beq_eq_false_iff_ne]; exact c2
          clear c2
          go_wp2
          go_loop [5, 6] (fun n i => ∃ (k : Nat) (acc : Int), k ≤ t.size ∧ i = .int .i64 k ∧ n = .int .i64 acc ∧ 0 ≤ acc ∧ acc ≤ 100000000000000000 ∧ Hid (acc < ((10 ^ k : Nat) : Int)) ∧ numLoop 0 t.data.toList = numLoop acc (t.data.toList.drop k)) (fun _ i => t.size - (intOf i).toNat)
          case atStart => exact ⟨0, 0, Nat.zero_le _, rfl, rfl, by omega, by omega, by show (0 : Int) < ((10 ^ 0 : Nat) : Int); decide, rfl⟩
          case round =>
            obtain ⟨k, acc, hk, rfl, rfl, h0, h9, hp, hr⟩ := hrel
            have HR := Lib.hid hr
            clear hr
            by_cases hlt : k < t.size
            · have HD := Lib.hid (drop_byte t k hlt)
              have hbk : (t[k].toNat : Int) < 256 := by have := t[k].toNat_lt; omega
              have hbn : (0 : Int) ≤ (t[k].toNat : Int) := by omega
              by_cases hlo : (t[k].toNat : Int) < 48
              · go_wp2
                go_ret2
                exact ⟨NumEnd.bad (by rw [HL.out, HR.out, HD.out, numLoop_bad (isDig_low hlo)]; rfl), rfl⟩
              · by_cases hhi : 57 < (t[k].toNat : Int)
                · go_wp2
                  go_ret2
                  exact ⟨NumEnd.bad (by rw [HL.out, HR.out, HD.out, numLoop_bad (isDig_high hhi)]; rfl), rfl⟩
                · have HG := Lib.hid (isDig_yes (b := t[k]) (by omega) (by omega))
                  have hp' : Hid (acc * 10 + ((t[k].toNat : Int) - 48) < ((10 ^ (k + 1) : Nat) : Int)) := dig_bound hp.out (by omega)
                  have hq : acc * 10 + ((t[k].toNat : Int) - 48) ≤ 100000000000000000 := pow_bound hp'.out (by omega)
                  go_wp2
                  go_round
                  case rel => exact ⟨k + 1, _, by omega, by go_num, rfl, by omega, hq, hp', by rw [HR.out, HD.out, numLoop_on HG.out]⟩
                  case measure => simp [intOf]; omega
            · have HD := Lib.hid (drop_end t k hlt)
              go_wp2
              go_ret2
              exact ⟨NumEnd.good (by rw [HL.out, HR.out, HD.out]; rfl), rfl⟩

theorem num_pos (t : ByteArray) (w : World) (htl : t.size ≤ 9223372036854775807) (h2 : t.size = 0 ∨ ∃ h : 0 < t.size, ((t[0].toNat : Int) == 45) = false) :
    Calls Tryd.prog 64 #[.string t] w fun e w' => NumEnd (numBody false t.data.toList) e ∧ w = w' := by
  rcases h2 with h2 | ⟨hpos, h2⟩
  · have HE := Lib.hid (numBody_empty (neg := false) h2)
    have c0b : ((t.size : Int) == 0) = true := by rw [beq_iff_eq]; omega
    have c0c : ¬ (0 : Int) < (t.size : Int) := by omega
    clear h2
    go_enter Tryd.func64, Tryd.ntmps64
    go_wp2
    go_ret2
    exact ⟨NumEnd.bad HE.out, rfl⟩
  · go_enter Tryd.func64, Tryd.ntmps64
    by_cases c0 : t.size = 0
    · have HE := Lib.hid (numBody_empty (neg := false) c0)
      have c0b : ((t.size : Int) == 0) = true := by rw [beq_iff_eq]; omega
      have HC := Lib.hid c0
      clear c0
      go_wp2
      go_ret2
      exact ⟨NumEnd.bad HE.out, rfl⟩
    · have c0b : ((t.size : Int) == 0) = false := by rw [beq_eq_false_iff_ne]; omega
      have c0' : 0 < t.size := by omega
      by_cases c1 : 17 < t.size
      · have HE := Lib.hid (numBody_long (neg := false) c1)
        have c1' : (17 : Int) < (t.size : Int) := by omega
        go_wp2
        go_ret2
        exact ⟨NumEnd.bad HE.out, rfl⟩
      · have c1' : ¬ (17 : Int) < (t.size : Int) := by omega
        have hb0 : (t[0].toNat : Int) < 256 := by have := t[0].toNat_lt; omega
        by_cases c2 : (t[0].toNat : Int) = 48
        · have c2b : ((t[0].toNat : Int) == 48) = true := by rw [beq_iff_eq]; exact c2
          by_cases c3 : 1 < t.size
          · have HE := Lib.hid (numBody_zero (neg := false) c0' (by omega) c2 (Or.inl c3))
            have c3' : (1 : Int) < (t.size : Int) := by omega
            clear c2
            go_wp2
            go_ret2
            exact ⟨NumEnd.bad HE.out, rfl⟩
          · have HL := Lib.hid (numBody_loop (neg := false) c0' (by omega) (Or.inr ⟨by omega, rfl⟩))
            have c3' : ¬ (1 : Int) < (t.size : Int) := by omega
            clear c2
            go_wp2
            go_loop [5, 6] (fun n i => ∃ (k : Nat) (acc : Int), k ≤ t.size ∧ i = .int .i64 k ∧ n = .int .i64 acc ∧ 0 ≤ acc ∧ acc ≤ 100000000000000000 ∧ Hid (acc < ((10 ^ k : Nat) : Int)) ∧ numLoop 0 t.data.toList = numLoop acc (t.data.toList.drop k)) (fun _ i => t.size - (intOf i).toNat)
            case atStart => exact ⟨0, 0, Nat.zero_le _, rfl, rfl, by omega, by omega, by show (0 : Int) < ((10 ^ 0 : Nat) : Int); decide, rfl⟩
            case round =>
              obtain ⟨k, acc, hk, rfl, rfl, h0, h9, hp, hr⟩ := hrel
              have HR := Lib.hid hr
              clear hr
              by_cases hlt : k < t.size
              · have HD := Lib.hid (drop_byte t k hlt)
                have hbk : (t[k].toNat : Int) < 256 := by have := t[k].toNat_lt; omega
                have hbn : (0 : Int) ≤ (t[k].toNat : Int) := by omega
                by_cases hlo : (t[k].toNat : Int) < 48
                · go_wp2
                  go_ret2
                  exact ⟨NumEnd.bad (by rw [HL.out, HR.out, HD.out, numLoop_bad (isDig_low hlo)]; rfl), rfl⟩
                · by_cases hhi : 57 < (t[k].toNat : Int)
                  · go_wp2
                    go_ret2
                    exact ⟨NumEnd.bad (by rw [HL.out, HR.out, HD.out, numLoop_bad (isDig_high hhi)]; rfl), rfl⟩
                  · have HG := Lib.hid (isDig_yes (b := t[k]) (by omega) (by omega))
                    have hp' : Hid (acc * 10 + ((t[k].toNat : Int) - 48) < ((10 ^ (k + 1) : Nat) : Int)) := dig_bound hp.out (by omega)
                    have hq : acc * 10 + ((t[k].toNat : Int) - 48) ≤ 100000000000000000 := pow_bound hp'.out (by omega)
                    go_wp2
                    go_round
                    case rel => exact ⟨k + 1, _, by omega, by go_num, rfl, by omega, hq, hp', by rw [HR.out, HD.out, numLoop_on HG.out]⟩
                    case measure => simp [intOf]; omega
              · have HD := Lib.hid (drop_end t k hlt)
                go_wp2
                go_ret2
                exact ⟨NumEnd.good (by rw [HL.out, HR.out, HD.out]; rfl), rfl⟩
        · have HL := Lib.hid (numBody_loop (neg := false) c0' (by omega) (Or.inl c2))
          have c2b : ((t[0].toNat : Int) == 48) = false := by rw [beq_eq_false_iff_ne]; exact c2
          clear c2
          go_wp2
          go_loop [5, 6] (fun n i => ∃ (k : Nat) (acc : Int), k ≤ t.size ∧ i = .int .i64 k ∧ n = .int .i64 acc ∧ 0 ≤ acc ∧ acc ≤ 100000000000000000 ∧ Hid (acc < ((10 ^ k : Nat) : Int)) ∧ numLoop 0 t.data.toList = numLoop acc (t.data.toList.drop k)) (fun _ i => t.size - (intOf i).toNat)
          case atStart => exact ⟨0, 0, Nat.zero_le _, rfl, rfl, by omega, by omega, by show (0 : Int) < ((10 ^ 0 : Nat) : Int); decide, rfl⟩
          case round =>
            obtain ⟨k, acc, hk, rfl, rfl, h0, h9, hp, hr⟩ := hrel
            have HR := Lib.hid hr
            clear hr
            by_cases hlt : k < t.size
            · have HD := Lib.hid (drop_byte t k hlt)
              have hbk : (t[k].toNat : Int) < 256 := by have := t[k].toNat_lt; omega
              have hbn : (0 : Int) ≤ (t[k].toNat : Int) := by omega
              by_cases hlo : (t[k].toNat : Int) < 48
              · go_wp2
                go_ret2
                exact ⟨NumEnd.bad (by rw [HL.out, HR.out, HD.out, numLoop_bad (isDig_low hlo)]; rfl), rfl⟩
              · by_cases hhi : 57 < (t[k].toNat : Int)
                · go_wp2
                  go_ret2
                  exact ⟨NumEnd.bad (by rw [HL.out, HR.out, HD.out, numLoop_bad (isDig_high hhi)]; rfl), rfl⟩
                · have HG := Lib.hid (isDig_yes (b := t[k]) (by omega) (by omega))
                  have hp' : Hid (acc * 10 + ((t[k].toNat : Int) - 48) < ((10 ^ (k + 1) : Nat) : Int)) := dig_bound hp.out (by omega)
                  have hq : acc * 10 + ((t[k].toNat : Int) - 48) ≤ 100000000000000000 := pow_bound hp'.out (by omega)
                  go_wp2
                  go_round
                  case rel => exact ⟨k + 1, _, by omega, by go_num, rfl, by omega, hq, hp', by rw [HR.out, HD.out, numLoop_on HG.out]⟩
                  case measure => simp [intOf]; omega
            · have HD := Lib.hid (drop_end t k hlt)
              go_wp2
              go_ret2
              exact ⟨NumEnd.good (by rw [HL.out, HR.out, HD.out]; rfl), rfl⟩

theorem num_any (s : ByteArray) (w : World) (hs : s.size ≤ 9223372036854775807) :
    Calls Tryd.prog 64 #[.string s] w fun e w' => NumEnd (numF s.data.toList) e ∧ w = w' := by
  unfold numF
  by_cases h0 : s.size = 0
  · rw [if_neg (by rw [List.eq_nil_of_length_eq_zero (l := s.data.toList) (by simpa using h0)]; simp)]
    exact num_pos s w hs (.inl h0)
  · have hp : 0 < s.size := by omega
    by_cases h1 : s[0] = 45
    · rw [if_pos (by rw [head_byte s hp, h1])]
      have := num_neg s _ rfl w hs hp (by rw [h1]; rfl)
      rw [Lib.extract_to_end] at this
      exact this
    · rw [if_neg (by rw [head_byte s hp]; simpa using h1)]
      exact num_pos s w hs (.inr ⟨hp, by rw [beq_eq_false_iff_ne]; intro he; exact h1 (byte_eq (by rw [he]; rfl))⟩)

end Go.Proofs.YtonnolpjfjbjpaaDoor
