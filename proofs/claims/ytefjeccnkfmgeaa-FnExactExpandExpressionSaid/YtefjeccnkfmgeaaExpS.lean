/- The expansion of an expression, the model's; nothing that was there changes. Conditions: the text is no longer than 2^20; what is repeated stands once at least. -/
import Derived.Test.YtefjeccnkfmgeaaExpP
namespace Go.Proofs.Ytefjeccnkfmgeaa
open Go.RowKit
set_option maxHeartbeats 4000000
set_option maxRecDepth 100000
set_option linter.unusedVariables false

def XN (n m : Nat) : Prop := ∀ (t : Tx) (s : ByteArray) (w : World), t.good = true → t.text.length < m → s.data.toList = t.text → s.size ≤ 120 →
  Calls Try.prog 22 #[.string s, .int .i64 n] w fun e w' => ∃ q : ByteArray, e = .returned (.string q) ∧ Tells (expT n t) q.data.toList ∧ q.size ≤ 1000 + 1000 * t.text.length ∧ Below w.heap.size w w'
theorem expandC (n m : Nat) (hn1 : 1 ≤ n) (hn2 : n ≤ 9223372036854775807) (ih : XN n m) : XN n (m + 1) := by
  intro t s w hg hm hs hz
  have HI := Lib.hid ih
  have HN := Lib.hid hm
  have HG := Lib.hid hg
  have HS := Lib.hid hs
  have HZ := Lib.hid hz
  clear ih hm hg hs hz
  go_enter Try.func22, Try.ntmps22
  go_wp2_with fail
  go_loopw [0, 5] (fun e oo wr => ∃ (s' : ByteArray) (r : Tx) (o : ByteArray), e = .string s' ∧ oo = .string o ∧ Hid (s'.data.toList = r.text) ∧ Hid (r.good = true) ∧ Hid (r.text.length ≤ t.text.length) ∧ Hid (s'.size ≤ 120) ∧ Hid (expT n t = o.data.toList ++ expT n r ∨ (1000 < o.data.toList.length ∧ 1000 < (expT n t).length)) ∧ Hid (o.size ≤ 1000 + 1000 * t.text.length) ∧ Hid (Below w.heap.size w wr)) (fun e _ _ => szV e)
  case atStart => exact ⟨s, t, ⟨#[]⟩, rfl, rfl, HS.out, HG.out, Nat.le_refl _, HZ.out, .inl rfl, Nat.zero_le _, Below.refl _ _⟩
  case round =>
    obtain ⟨s', r0, o, rfl, rfl, hs, hg, hle, hz, hI, hob, hb⟩ := hrel
    by_cases ho : o.size ≤ 1000
    · have ho' : (o.size : Int) ≤ 1000 := by omega
      have HIO : Hid (expT n t = o.data.toList ++ expT n r0) := by
        rcases hI.out with h | ⟨h, _⟩
        · exact h
        · rw [← size_len] at h; omega
      cases r0 with
      | nil =>
        have he : s'.toList.isEmpty = true := by rw [ByteArray.toList_eq, hs.out]; rfl
        have HE : Hid (Tells (expT n t) o.data.toList) := by
          have h : expT n t = o.data.toList := by rw [HIO.out]; simp [expT]
          show Tells _ _
          rw [h]
          exact ⟨fun _ => rfl, fun h => by omega⟩
        clear HIO
        go_wp2_with fail
        go_ret
        exact ⟨o, rfl, HE.out, hob.out, hb.out⟩
      | lit b r =>
        have he : s'.toList.isEmpty = false := by rw [ByteArray.toList_eq, hs.out]; rfl
        go_wp2_with fail
        refine (next_lit s' b r.text _ hs.out).mono ?_
        rintro e w1 ⟨q, qr, hp, hq, rfl, hb1⟩
        have HB1 := Lib.hid (hb.out.trans (hb1.mono hb.out.size))
        have HQR := Lib.hid hq
        have HRG := Lib.hid hg.out
        have HQRL : Hid (qr.size < s'.size) := by
          show _ < _
          rw [size_len, size_len, hq, hs.out]; simp [Tx.text]
        have HQRZ : Hid (qr.size ≤ 120) := by have := HQRL.out; have := hz.out; show _ ≤ _; omega
        have hq1 : q.size = 1 := by rw [size_len, hp]; rfl
        have HLE : Hid (r.text.length ≤ t.text.length) := by have := hle.out; simp only [Tx.text, List.length_cons] at this; show _ ≤ _; omega
        have HQB : Hid (q.size ≤ 1000 * t.text.length) := by have := hle.out; simp only [Tx.text, List.length_cons] at this; show _ ≤ _; omega
        have HTL : Hid (Tells q.data.toList q.data.toList) := ⟨fun _ => rfl, fun h => by omega⟩
        have HFO : Hid (expT n t = o.data.toList ++ (repL 1 q.data.toList ++ expT n r)) := by
          show _ = _
          rw [HIO.out, repL_one, hp]; rfl
        clear hb1 hq he hp HIO hI
        go_wp2_with fail
        go_loopw [11, 5] (fun kk oo wr2 => ∃ (k : Nat) (o' : ByteArray), kk = .int .i64 k ∧ oo = .string o' ∧ k ≤ 1 ∧ Hid (o'.data.toList = o.data.toList ++ repL k q.data.toList) ∧ Hid (o'.size ≤ 1000 + q.size) ∧ wr2 = w1) (fun kk _ _ => 1 - (intOf kk).toNat)
        case atStart => exact ⟨0, o, rfl, rfl, by omega, (by show _ = _; rw [repL_zero, List.append_nil]), (by show o.size ≤ 1000 + q.size; omega), rfl⟩
        case round =>
          obtain ⟨k, o', rfl, rfl, hk, hO, hOZ, rfl⟩ := hrel
          by_cases hkt : k < 1
          · have hkt' : (k : Int) < (1 : Int) := by omega
            have hk0 : (0 : Int) ≤ (k : Int) := by omega
            have hkn : (k : Int) + 1 ≤ 9223372036854775807 := by omega
            by_cases ho : o'.size ≤ 1000
            · have ho' : (o'.size : Int) ≤ 1000 := by omega
              have hcat : ¬ 9223372036854775807 < o'.size + q.size := by omega
              go_wp2_with fail
              go_roundw
              case rel => exact ⟨k + 1, o' ++ q, by go_num, rfl, by omega, (by show _ = _; rw [ByteArray.data_append, Array.toList_append, hO.out, repL_succ, List.append_assoc]), (by show (o' ++ q).size ≤ 1000 + q.size; rw [ByteArray.size_append]; omega), trivial⟩
              case measure => simp [intOf]; omega
            · have ho' : ¬ (o'.size : Int) ≤ 1000 := by omega
              have HFIN := Lib.hid (step_fin (k := k) HFO.out HTL.out (Nat.le_refl 1) hk (.inr (by rw [← hO.out, ← size_len]; omega)))
              go_wp2_with fail
              go_roundw
              case rel => exact ⟨qr, r, o', rfl, rfl, HQR.out, HRG.out, HLE.out, HQRZ.out, (by rw [hO.out]; exact HFIN.out), (by have := hOZ.out; have := HQB.out; show o'.size ≤ _; omega), HB1.out⟩
              case measure => exact HQRL.out
          · have hkt' : ¬ (k : Int) < (1 : Int) := by omega
            have hkT : k = 1 := by omega
            have HFIN := Lib.hid (step_fin (k := k) HFO.out HTL.out (Nat.le_refl 1) hk (.inl hkT))
            go_wp2_with fail
            go_roundw
            case rel => exact ⟨qr, r, o', rfl, rfl, HQR.out, HRG.out, HLE.out, HQRZ.out, (by rw [hO.out]; exact HFIN.out), (by have := hOZ.out; have := HQB.out; show o'.size ≤ _; omega), HB1.out⟩
            case measure => exact HQRL.out
      | rep i r =>
        have he : s'.toList.isEmpty = false := by rw [ByteArray.toList_eq, hs.out]; rfl
        have hgg := hg.out
        simp only [Tx.good, Bool.and_eq_true] at hgg
        obtain ⟨⟨hia, hig⟩, hrg⟩ := hgg
        have HIG := Lib.hid hig
        have HIA := Lib.hid hia
        have HRG := Lib.hid hrg
        clear hig hia hrg
        go_wp2_with fail
        refine (next_rep s' i r.text _ (by have := hz.out; omega) HIA.out HIG.out hs.out).mono ?_
        rintro e w1 ⟨p, qr, hp, hq, rfl, hb1⟩
        have HB0 := Lib.hid (hb.out.trans (hb1.mono hb.out.size))
        have HP := Lib.hid hp
        have HQR := Lib.hid hq
        have HQRL : Hid (qr.size < s'.size) := by
          show _ < _
          rw [size_len, size_len, hq, hs.out]; simp [Tx.text]; omega
        have HPZ : Hid (p.size ≤ 120) := by
          have h1 := hz.out
          show _ ≤ _
          rw [size_len, hs.out] at h1
          rw [size_len, hp]; simp [Tx.text] at h1; omega
        have HQRZ : Hid (qr.size ≤ 120) := by have := HQRL.out; have := hz.out; show _ ≤ _; omega
        have HLE : Hid (r.text.length ≤ t.text.length) := by have := hle.out; simp only [Tx.text, List.length_cons, List.length_append] at this; show _ ≤ _; omega
        have HIT : Hid (i.text.length + 3 ≤ t.text.length) := by have := hle.out; simp only [Tx.text, List.length_cons, List.length_append] at this; show _ ≤ _; omega
        have HIL : Hid (i.text.length < m) := by have := HIT.out; have := HN.out; show _ < _; omega
        have HTS : Hid (t.text.length ≤ 120) := by
          have := HZ.out
          show _ ≤ _
          rw [size_len, HS.out] at this
          exact this
        clear hb1 hp hq he
        go_wp2_with fail
        refine (HI.out i p _ HIG.out HIL.out HP.out HPZ.out).mono ?_
        rintro e w2 ⟨q, rfl, hT, hqz, hb2⟩
        have HB1 := Lib.hid (HB0.out.trans (hb2.mono HB0.out.size))
        have HTL := Lib.hid hT
        have HQB : Hid (q.size ≤ 1000 * t.text.length) := by have := HIT.out; show _ ≤ _; omega
        have hq1 : q.size ≤ 1000000 := by have := HQB.out; have := HTS.out; omega
        have HFO : Hid (expT n t = o.data.toList ++ (repL n (expT n i) ++ expT n r)) := HIO.out
        clear hb2 hT hqz HIO hI
        go_wp2_with fail
        go_loopw [11, 5] (fun kk oo wr2 => ∃ (k : Nat) (o' : ByteArray), kk = .int .i64 k ∧ oo = .string o' ∧ k ≤ n ∧ Hid (o'.data.toList = o.data.toList ++ repL k q.data.toList) ∧ Hid (o'.size ≤ 1000 + q.size) ∧ wr2 = w2) (fun kk _ _ => n - (intOf kk).toNat)
        case atStart => exact ⟨0, o, rfl, rfl, by omega, (by show _ = _; rw [repL_zero, List.append_nil]), (by show o.size ≤ 1000 + q.size; omega), rfl⟩
        case round =>
          obtain ⟨k, o', rfl, rfl, hk, hO, hOZ, rfl⟩ := hrel
          by_cases hkt : k < n
          · have hkt' : (k : Int) < (n : Int) := by omega
            have hk0 : (0 : Int) ≤ (k : Int) := by omega
            have hkn : (k : Int) + 1 ≤ 9223372036854775807 := by omega
            by_cases ho : o'.size ≤ 1000
            · have ho' : (o'.size : Int) ≤ 1000 := by omega
              have hcat : ¬ 9223372036854775807 < o'.size + q.size := by omega
              go_wp2_with fail
              go_roundw
              case rel => exact ⟨k + 1, o' ++ q, by go_num, rfl, by omega, (by show _ = _; rw [ByteArray.data_append, Array.toList_append, hO.out, repL_succ, List.append_assoc]), (by show (o' ++ q).size ≤ 1000 + q.size; rw [ByteArray.size_append]; omega), trivial⟩
              case measure => simp [intOf]; omega
            · have ho' : ¬ (o'.size : Int) ≤ 1000 := by omega
              have HFIN := Lib.hid (step_fin (k := k) HFO.out HTL.out hn1 hk (.inr (by rw [← hO.out, ← size_len]; omega)))
              go_wp2_with fail
              go_roundw
              case rel => exact ⟨qr, r, o', rfl, rfl, HQR.out, HRG.out, HLE.out, HQRZ.out, (by rw [hO.out]; exact HFIN.out), (by have := hOZ.out; have := HQB.out; show o'.size ≤ _; omega), HB1.out⟩
              case measure => exact HQRL.out
          · have hkt' : ¬ (k : Int) < (n : Int) := by omega
            have hkT : k = n := by omega
            have HFIN := Lib.hid (step_fin (k := k) HFO.out HTL.out hn1 hk (.inl hkT))
            go_wp2_with fail
            go_roundw
            case rel => exact ⟨qr, r, o', rfl, rfl, HQR.out, HRG.out, HLE.out, HQRZ.out, (by rw [hO.out]; exact HFIN.out), (by have := hOZ.out; have := HQB.out; show o'.size ≤ _; omega), HB1.out⟩
            case measure => exact HQRL.out
    · have ho' : ¬ (o.size : Int) ≤ 1000 := by omega
      have HE : Hid (Tells (expT n t) o.data.toList) := by
        have h9 : 1000 < o.data.toList.length := by rw [← size_len]; omega
        refine ⟨fun h => ?_, fun _ => h9⟩
        rcases hI.out with h' | ⟨_, h'⟩
        · rw [h', List.length_append] at h; omega
        · omega
      cases he : s'.toList.isEmpty with
      | true =>
        go_wp2_with fail
        go_ret
        exact ⟨o, rfl, HE.out, hob.out, hb.out⟩
      | false =>
        go_wp2_with fail
        go_ret
        exact ⟨o, rfl, HE.out, hob.out, hb.out⟩
theorem expand_all (n : Nat) (hn1 : 1 ≤ n) (hn2 : n ≤ 9223372036854775807) : ∀ m, XN n m
  | 0 => fun t s w _ h => absurd h (by omega)
  | m + 1 => expandC n m hn1 hn2 (expand_all n hn1 hn2 m)
end Go.Proofs.Ytefjeccnkfmgeaa
