/- Copies of steps and automata, as the exact laws make them: the same fields in new memory. No condition but the sizes. -/
import Derived.Test.YthgkhpbfbilgmaaDoorSzA
namespace Go.Proofs.YthgkhpbfbilgmaaDoor
open Go.RowKit
set_option maxHeartbeats 1000000
set_option maxRecDepth 100000
set_option linter.unusedVariables false

theorem toStep_any (s : StepD) (w : World) :
    Calls Tryd.prog 63 #[stepV s] w fun e w' => e = .returned (stepV s) ∧ Hid (Below w.heap.size w w') := by
  unfold stepV
  go_enter Tryd.func63, Tryd.ntmps63
  go_wp2_with fail
  refine bodyPost_ret (results_1 rfl (Gives.row (g := w.heap.size + 1) rfl ((blk_new (by simp)).alloc _) Tryd.underlying81 rfl (by kernel_rfl))) rfl ?_
  exact ⟨rfl, below_a3 _ _ _ _⟩

theorem steps_set {ss us : List StepD} {k : Nat} {s : StepD} (hl : us.length = ss.length) (ht : us.take k = ss.take k) (hk : k < ss.length) (hs : ss.getD k default = s) : (us.set k s).take (k + 1) = ss.take (k + 1) := by
  have e : ss[k] = s := by rw [List.getD_eq_getElem?_getD, List.getElem?_eq_getElem hk] at hs; exact hs
  have h1 : k < (us.set k s).length := by rw [List.length_set, hl]; exact hk
  rw [List.take_succ_eq_append_getElem h1, List.take_succ_eq_append_getElem hk, e, List.getElem_set_self, List.take_set, List.set_eq_of_length_le (by simp; omega), ht]

theorem toStepS_any (A : Option Addr) (cap : Nat) (ss : List StepD) (w : World) (hs : SRow w w.heap.size A ss) (hn : ss.length ≤ 1048576) :
    Calls Tryd.prog 37 #[.slice A ss.length cap] w fun e w' => ∃ g, e = .returned (.slice (some ⟨g, 0, none⟩) ss.length ss.length) ∧ w.heap.size ≤ g ∧ Hid (SBlk w' g 81 ss) ∧ Hid (Below w.heap.size w w') := by
  obtain ⟨n, hln⟩ : ∃ n, n = ss.length := ⟨_, rfl⟩
  have hmk := fun w => make_steps n (by omega) w
  have HS := Lib.hid hs
  have HN := Lib.hid hln
  rw [← hln]
  rw [← hln] at hn
  clear hs hln
  go_enter Tryd.func37, Tryd.ntmps37
  go_wp2_with fail
  go_loopw [4] (fun i wr => ∃ (k : Nat) (us : List StepD), k ≤ n ∧ i = .int .i64 k ∧ Hid (us.length = n) ∧ Hid (us.take k = ss.take k) ∧ Hid (SBlk wr w.heap.size 81 us) ∧ Hid (Below w.heap.size w wr)) (fun i _ => n - (intOf i).toNat)
  case atStart => exact ⟨0, List.replicate n default, Nat.zero_le _, rfl, Lib.hid (by simp), Lib.hid (by simp), Blk.new _ _ _, below_a1 _ _⟩
  case round =>
    obtain ⟨k, us, hk, rfl, hul, htk, hsb, hbw⟩ := hrel
    clear hmk
    by_cases hlt : k < n
    · obtain ⟨b, off, s, rfl, hbB, hat, hsz, _, hg⟩ := HS.out.at_ (k := k) (by rw [← HN.out]; exact hlt)
      have HG := Lib.hid hg
      clear hg
      obtain ⟨q0, q1, q2, q3⟩ := hat.below hbw.out hbB
      clear hat
      go_wp2_with fail
      refine (toStep_any s _).mono ?_
      rintro e w2 ⟨rfl, hb2⟩
      have S2 := Lib.hid (hsb.out.below hb2.out)
      have HB := Lib.hid (below_on hbw.out hb2.out)
      have hku : k < us.length := by rw [hul.out]; exact hlt
      have S3 := Lib.hid (S2.out.put k s hku)
      have HB3 := Lib.hid ((((HB.out.setCell (p := ⟨w.heap.size, k * 4, none⟩) (Nat.le_refl _) (.int .i64 s.fr)).setCell (p := ⟨w.heap.size, k * 4 + 1, none⟩) (Nat.le_refl _) (.string s.le)).setCell (p := ⟨w.heap.size, k * 4 + 2, none⟩) (Nat.le_refl _) (.int .i64 s.to_)).setCell (p := ⟨w.heap.size, k * 4 + 3, none⟩) (Nat.le_refl _) (.int .i64 s.co))
      have HT := Lib.hid (steps_set (hul.out.trans HN.out) htk.out (by rw [← HN.out]; exact hlt) HG.out)
      have HU : Hid ((us.set k s).length = n) := by show _ = _; rw [List.length_set, hul.out]
      clear q0 q1 q2 q3 hku
      obtain ⟨q0, q1, q2, q3⟩ := S2.out.at_ (k := k) (by rw [hul.out]; exact hlt)
      have z0 := S2.out.fz (k * 4)
      have z1 := S2.out.fz (k * 4 + 1)
      have z2 := S2.out.fz (k * 4 + 2)
      have z3 := S2.out.fz (k * 4 + 3)
      unfold stepV
      go_wp2_with fail
      go_roundw
      case rel => exact ⟨k + 1, us.set k s, by omega, by go_num, HU, HT, S3, HB3⟩
      case measure => simp [intOf]; omega
    · have e : us = ss := by
        have h := htk.out
        rwa [List.take_of_length_le (by rw [hul.out]; omega), List.take_of_length_le (by rw [← HN.out]; omega)] at h
      subst e
      go_wp2_with fail
      go_ret
      exact ⟨_, rfl, Nat.le_refl _, hsb, hbw⟩
end Go.Proofs.YthgkhpbfbilgmaaDoor
