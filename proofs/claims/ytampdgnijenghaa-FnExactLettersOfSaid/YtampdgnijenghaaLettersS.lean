/- The letters of an automaton's steps, the model's; nothing that was there changes. No condition. -/
import Derived.Test.YtampdgnijenghaaAutS
namespace Go.Proofs.Ytampdgnijenghaa
open Go.RowKit
set_option maxHeartbeats 4000000
set_option maxRecDepth 100000
set_option linter.unusedVariables false

/-! Plain: which letters there are. -/
def hasLet (c : UInt8) (ss : List StepD) : Bool := ss.any (fun s => decide (s.le.data.toList = [c]))
def partL (c : UInt8) (ss : List StepD) : List UInt8 := if hasLet c ss then [c] else []
def ltrsL (ss : List StepD) : List UInt8 := partL 97 ss ++ partL 98 ss
def lettersR (m : Int) (xs ys : List Int) (ss : List StepD) : ByteArray := if autoOk m xs ys ss = true then ⟨(ltrsL ss).toArray⟩ else ⟨#[]⟩
theorem lettersR_yes {m : Int} {xs ys : List Int} {ss : List StepD} (h : autoOk m xs ys ss = true) : lettersR m xs ys ss = ⟨(ltrsL ss).toArray⟩ := by unfold lettersR; rw [if_pos h]
theorem lettersR_no {m : Int} {xs ys : List Int} {ss : List StepD} (h : autoOk m xs ys ss = false) : lettersR m xs ys ss = ⟨#[]⟩ := by unfold lettersR; rw [if_neg (by rw [h]; decide)]
theorem take_stL {ss : List StepD} {k : Nat} {s : StepD} (hk : k < ss.length) (hs : ss.getD k default = s) : ss.take (k + 1) = ss.take k ++ [s] := by
  rw [List.take_succ_eq_append_getElem hk]
  rw [List.getD_eq_getElem?_getD, List.getElem?_eq_getElem hk] at hs
  rw [← hs]; rfl
theorem hasLet_next {c : UInt8} {ss : List StepD} {k : Nat} {s : StepD} (hk : k < ss.length) (hs : ss.getD k default = s) : hasLet c (ss.take (k + 1)) = (hasLet c (ss.take k) || decide (s.le.data.toList = [c])) := by
  rw [take_stL hk hs]
  unfold hasLet
  rw [List.any_append]
  simp

theorem pl_aa : decide ((⟨#[97]⟩ : ByteArray).data.toList = [97]) = true := by decide
theorem pl_ab : decide ((⟨#[97]⟩ : ByteArray).data.toList = [98]) = false := by decide
theorem pl_ba : decide ((⟨#[98]⟩ : ByteArray).data.toList = [97]) = false := by decide
theorem pl_bb : decide ((⟨#[98]⟩ : ByteArray).data.toList = [98]) = true := by decide

theorem sLetters_yes (n c1 c2 c3 : Nat) (A1 A2 A3 : Option Addr) (xs ys : List Int) (ss : List StepD) (w : World) (hx : Ints w w.heap.size A1 xs) (hy : Ints w w.heap.size A2 ys) (hs : SRow w w.heap.size A3 ss) (hok : autoOk n xs ys ss = true) (hsi : ∀ s ∈ ss, stepOk n s = true) :
    Calls Try.prog 5 #[.agg #[.int .i64 n, .slice A1 xs.length c1, .slice A2 ys.length c2, .slice A3 ss.length c3]] w fun e w' => e = .returned (.string ⟨(ltrsL ss).toArray⟩) ∧ Hid (Below w.heap.size w w') := by
  have K0 : Hid (Blk ((w.alloc (.cells #[.int .i64 n, .slice A1 xs.length c1, .slice A2 ys.length c2, .slice A3 ss.length c3] 30)).alloc (.cells #[.string ⟨#[97]⟩, .string ⟨#[98]⟩] 9)) w.heap.size 30 #[.int .i64 n, .slice A1 xs.length c1, .slice A2 ys.length c2, .slice A3 ss.length c3]) := (Blk.new w _ _).alloc _
  have L0 : Hid (Blk ((w.alloc (.cells #[.int .i64 n, .slice A1 xs.length c1, .slice A2 ys.length c2, .slice A3 ss.length c3] 30)).alloc (.cells #[.string ⟨#[97]⟩, .string ⟨#[98]⟩] 9)) (w.heap.size + 1) 9 #[.string ⟨#[97]⟩, .string ⟨#[98]⟩]) := blk_new (by simp)
  have B0 := Lib.hid (below_a2 w (.cells #[.int .i64 n, .slice A1 xs.length c1, .slice A2 ys.length c2, .slice A3 ss.length c3] 30) (.cells #[.string ⟨#[97]⟩, .string ⟨#[98]⟩] 9))
  have HX := Lib.hid hx
  have HY := Lib.hid hy
  have HS := Lib.hid hs
  have HOK := Lib.hid hok
  have HSI := Lib.hid hsi
  have ls := hs.1
  have x1 : ((⟨#[97]⟩ : ByteArray).extract 0 1).toList = [97] := by rw [ByteArray.toList_eq]; rfl
  have x2 : ((⟨#[98]⟩ : ByteArray).extract 0 1).toList = [98] := by rw [ByteArray.toList_eq]; rfl
  have x3 : ((⟨#[97, 98]⟩ : ByteArray).extract 1 2).toList = [98] := by rw [ByteArray.toList_eq]; rfl
  clear hx hy hs hok hsi
  go_enter Try.func5, Try.ntmps5
  go_wp2_with fail
  generalize (w.alloc (.cells #[.int .i64 n, .slice A1 xs.length c1, .slice A2 ys.length c2, .slice A3 ss.length c3] 30)).alloc (.cells #[.string ⟨#[97]⟩, .string ⟨#[98]⟩] 9) = w2 at K0 L0 B0 ⊢
  obtain ⟨L, hL⟩ : ∃ L, L = w.heap.size + 1 := ⟨_, rfl⟩
  rw [← hL] at L0 ⊢
  have hLw : w.heap.size < L := by omega
  clear hL
  go_loopw [3, 10] (fun x i wr => (i = .int .i64 0 ∧ x = .string ⟨#[]⟩ ∨ i = .int .i64 1 ∧ (hasLet 97 ss = false ∧ x = .string ⟨#[]⟩ ∨ hasLet 97 ss = true ∧ x = .string ⟨#[97]⟩) ∨ i = .int .i64 2 ∧ x = .string ⟨(ltrsL ss).toArray⟩) ∧ Hid (Blk wr w.heap.size 30 #[.int .i64 n, .slice A1 xs.length c1, .slice A2 ys.length c2, .slice A3 ss.length c3]) ∧ Hid (Blk wr L 9 #[.string ⟨#[97]⟩, .string ⟨#[98]⟩]) ∧ Hid (Below w.heap.size w wr)) (fun _ i _ => 2 - (intOf i).toNat)
  case atStart => exact ⟨Or.inl ⟨rfl, rfl⟩, K0, L0, B0⟩
  case round =>
    clear K0 L0 B0
    obtain ⟨hcase, h0, hl, hb⟩ := hrel
    have lc0 := hl.out.cell 0
    have lc1 := hl.out.cell 1
    simp at lc0 lc1
    have llt := Blk.lt hl.out
    obtain ⟨k0, k1, k2, k3⟩ := four_cells h0.out
    have kl := Blk.lt h0.out
    rcases hcase with ⟨rfl, rfl⟩ | ⟨rfl, hx1⟩ | ⟨rfl, rfl⟩
    · go_wp2_with fail
      clear k0 k1 k2 k3 kl lc0 lc1 llt
      go_loopw [3, 17] (fun x i wr => ∃ j : Nat, j ≤ ss.length ∧ i = .int .i64 j ∧ (hasLet 97 (ss.take j) = false ∧ x = .string ⟨#[]⟩ ∨ hasLet 97 (ss.take j) = true ∧ x = .string ⟨#[97]⟩) ∧ Hid (Blk wr w.heap.size 30 #[.int .i64 n, .slice A1 xs.length c1, .slice A2 ys.length c2, .slice A3 ss.length c3]) ∧ Hid (Blk wr L 9 #[.string ⟨#[97]⟩, .string ⟨#[98]⟩]) ∧ Hid (Below w.heap.size w wr)) (fun _ i _ => ss.length - (intOf i).toNat)
      case atStart => exact ⟨0, Nat.zero_le _, rfl, Or.inl ⟨rfl, rfl⟩, h0, hl, hb⟩
      case round =>
        clear h0 hl hb
        obtain ⟨j, hj, rfl, hx, h0, hl, hb⟩ := hrel
        by_cases hjt : j < ss.length
        · obtain ⟨b, off, s, e, hbN, hst, hsl, _, hsg⟩ := (HS.out.below hb.out).at_ hjt
          obtain ⟨q0, q1, q2, q3⟩ := hst
          subst e
          have hsm : s ∈ ss := by
            rw [← hsg, List.getD_eq_getElem?_getD, List.getElem?_eq_getElem hjt]; exact List.getElem_mem _
          have hle := stepOk_l (HSI.out s hsm)
          have HN := hasLet_next (c := 97) hjt hsg
          have hj0 : (0 : Int) ≤ (j : Int) := by omega
          have hj1 : (j : Int) < (ss.length : Int) := by omega
          obtain ⟨k0, k1, k2, k3⟩ := four_cells h0.out
          have kl := Blk.lt h0.out
          have BA := Lib.hid (below_al hb.out (Nat.le_refl _) (.cells #[.int .i64 s.fr, .string s.le, .int .i64 s.to_, .int .i64 s.co] 38))
          have PA : Hid (Blk (wr.alloc (.cells #[.int .i64 s.fr, .string s.le, .int .i64 s.to_, .int .i64 s.co] 38)) wr.heap.size 38 #[.int .i64 s.fr, .string s.le, .int .i64 s.to_, .int .i64 s.co]) := Blk.new _ _ _
          have KA := Lib.hid (h0.out.alloc (.cells #[.int .i64 s.fr, .string s.le, .int .i64 s.to_, .int .i64 s.co] 38))
          have LA := Lib.hid (hl.out.alloc (.cells #[.int .i64 s.fr, .string s.le, .int .i64 s.to_, .int .i64 s.co] 38))
          have HNH := Lib.hid HN
          clear hsm hsg HN
          rcases hle with hle | hle <;> rcases hx with hx | hx
          · -- 97 False
            obtain ⟨hh, rfl⟩ := hx
            have HH : Hid (hasLet 97 (ss.take (j + 1)) = true) := by
              show _ = _
              rw [HNH.out, hh, hle]; decide
            rw [hle] at q1 PA BA KA LA
            clear hh
            go_wp2_with fail
            refine (sAutomatonValid_is _ _ _ _ _ _ _ _ _ _ true _ ((HX.out.below BA.out).more BA.out.size) ((HY.out.below BA.out).more BA.out.size) (HS.out.on BA.out) HOK.out).mono ?_
            rintro e w3 ⟨rfl, hb3⟩
            have P3 := blk_b PA.out hb3.out
            have p1 := P3.cell 1
            have K3 := Lib.hid (blk_b KA.out hb3.out)
            have L3 := Lib.hid (blk_b LA.out hb3.out)
            have B3 := Lib.hid (below_on BA.out hb3.out)
            clear P3 PA KA LA BA hb3 q0 q1 q2 q3 k0 k1 k2 k3 kl
            go_wp2_with fail
            go_roundw
            case rel => exact ⟨j + 1, by omega, by go_num, Or.inr ⟨HH.out, rfl⟩, K3, L3, B3⟩
            case measure => simp [intOf]; omega
          · -- 97 True
            obtain ⟨hh, rfl⟩ := hx
            have HH : Hid (hasLet 97 (ss.take (j + 1)) = true) := by
              show _ = _
              rw [HNH.out, hh, hle]; decide
            rw [hle] at q1 PA BA KA LA
            clear hh
            go_wp2_with fail
            refine (sAutomatonValid_is _ _ _ _ _ _ _ _ _ _ true _ ((HX.out.below BA.out).more BA.out.size) ((HY.out.below BA.out).more BA.out.size) (HS.out.on BA.out) HOK.out).mono ?_
            rintro e w3 ⟨rfl, hb3⟩
            have P3 := blk_b PA.out hb3.out
            have p1 := P3.cell 1
            have K3 := Lib.hid (blk_b KA.out hb3.out)
            have L3 := Lib.hid (blk_b LA.out hb3.out)
            have B3 := Lib.hid (below_on BA.out hb3.out)
            clear P3 PA KA LA BA hb3 q0 q1 q2 q3 k0 k1 k2 k3 kl
            go_wp2_with fail
            go_roundw
            case rel => exact ⟨j + 1, by omega, by go_num, Or.inr ⟨HH.out, rfl⟩, K3, L3, B3⟩
            case measure => simp [intOf]; omega
          · -- 98 False
            obtain ⟨hh, rfl⟩ := hx
            have HH : Hid (hasLet 97 (ss.take (j + 1)) = false) := by
              show _ = _
              rw [HNH.out, hh, hle]; decide
            rw [hle] at q1 PA BA KA LA
            clear hh
            go_wp2_with fail
            refine (sAutomatonValid_is _ _ _ _ _ _ _ _ _ _ true _ ((HX.out.below BA.out).more BA.out.size) ((HY.out.below BA.out).more BA.out.size) (HS.out.on BA.out) HOK.out).mono ?_
            rintro e w3 ⟨rfl, hb3⟩
            have P3 := blk_b PA.out hb3.out
            have p1 := P3.cell 1
            have K3 := Lib.hid (blk_b KA.out hb3.out)
            have L3 := Lib.hid (blk_b LA.out hb3.out)
            have B3 := Lib.hid (below_on BA.out hb3.out)
            clear P3 PA KA LA BA hb3 q0 q1 q2 q3 k0 k1 k2 k3 kl
            go_wp2_with fail
            go_roundw
            case rel => exact ⟨j + 1, by omega, by go_num, Or.inl ⟨HH.out, rfl⟩, K3, L3, B3⟩
            case measure => simp [intOf]; omega
          · -- 98 True
            obtain ⟨hh, rfl⟩ := hx
            have HH : Hid (hasLet 97 (ss.take (j + 1)) = true) := by
              show _ = _
              rw [HNH.out, hh, hle]; decide
            rw [hle] at q1 PA BA KA LA
            clear hh
            go_wp2_with fail
            refine (sAutomatonValid_is _ _ _ _ _ _ _ _ _ _ true _ ((HX.out.below BA.out).more BA.out.size) ((HY.out.below BA.out).more BA.out.size) (HS.out.on BA.out) HOK.out).mono ?_
            rintro e w3 ⟨rfl, hb3⟩
            have P3 := blk_b PA.out hb3.out
            have p1 := P3.cell 1
            have K3 := Lib.hid (blk_b KA.out hb3.out)
            have L3 := Lib.hid (blk_b LA.out hb3.out)
            have B3 := Lib.hid (below_on BA.out hb3.out)
            clear P3 PA KA LA BA hb3 q0 q1 q2 q3 k0 k1 k2 k3 kl
            go_wp2_with fail
            go_roundw
            case rel => exact ⟨j + 1, by omega, by go_num, Or.inr ⟨HH.out, rfl⟩, K3, L3, B3⟩
            case measure => simp [intOf]; omega
        · have hjl : j = ss.length := by omega
          subst hjl
          rw [List.take_length] at hx
          rcases hx with ⟨hh, rfl⟩ | ⟨hh, rfl⟩
          · have HH := Lib.hid hh
            clear hh
            go_wp2_with fail
            go_roundw
            case rel => exact ⟨Or.inr (Or.inl ⟨rfl, Or.inl ⟨HH.out, rfl⟩⟩), h0, hl, hb⟩
            case measure => simp [intOf]
          · have HH := Lib.hid hh
            clear hh
            go_wp2_with fail
            go_roundw
            case rel => exact ⟨Or.inr (Or.inl ⟨rfl, Or.inr ⟨HH.out, rfl⟩⟩), h0, hl, hb⟩
            case measure => simp [intOf]
    · rcases hx1 with ⟨h97, rfl⟩ | ⟨h97, rfl⟩
      · have H97 := Lib.hid h97
        clear h97
        go_wp2_with fail
        clear k0 k1 k2 k3 kl lc0 lc1 llt
        go_loopw [3, 17] (fun x i wr => ∃ j : Nat, j ≤ ss.length ∧ i = .int .i64 j ∧ (hasLet 98 (ss.take j) = false ∧ x = .string ⟨#[]⟩ ∨ hasLet 98 (ss.take j) = true ∧ x = .string ⟨#[98]⟩) ∧ Hid (Blk wr w.heap.size 30 #[.int .i64 n, .slice A1 xs.length c1, .slice A2 ys.length c2, .slice A3 ss.length c3]) ∧ Hid (Blk wr L 9 #[.string ⟨#[97]⟩, .string ⟨#[98]⟩]) ∧ Hid (Below w.heap.size w wr)) (fun _ i _ => ss.length - (intOf i).toNat)
        case atStart => exact ⟨0, Nat.zero_le _, rfl, Or.inl ⟨rfl, rfl⟩, h0, hl, hb⟩
        case round =>
          clear h0 hl hb
          obtain ⟨j, hj, rfl, hx, h0, hl, hb⟩ := hrel
          by_cases hjt : j < ss.length
          · obtain ⟨b, off, s, e, hbN, hst, hsl, _, hsg⟩ := (HS.out.below hb.out).at_ hjt
            obtain ⟨q0, q1, q2, q3⟩ := hst
            subst e
            have hsm : s ∈ ss := by
              rw [← hsg, List.getD_eq_getElem?_getD, List.getElem?_eq_getElem hjt]; exact List.getElem_mem _
            have hle := stepOk_l (HSI.out s hsm)
            have HN := hasLet_next (c := 98) hjt hsg
            have hj0 : (0 : Int) ≤ (j : Int) := by omega
            have hj1 : (j : Int) < (ss.length : Int) := by omega
            obtain ⟨k0, k1, k2, k3⟩ := four_cells h0.out
            have kl := Blk.lt h0.out
            have BA := Lib.hid (below_al hb.out (Nat.le_refl _) (.cells #[.int .i64 s.fr, .string s.le, .int .i64 s.to_, .int .i64 s.co] 38))
            have PA : Hid (Blk (wr.alloc (.cells #[.int .i64 s.fr, .string s.le, .int .i64 s.to_, .int .i64 s.co] 38)) wr.heap.size 38 #[.int .i64 s.fr, .string s.le, .int .i64 s.to_, .int .i64 s.co]) := Blk.new _ _ _
            have KA := Lib.hid (h0.out.alloc (.cells #[.int .i64 s.fr, .string s.le, .int .i64 s.to_, .int .i64 s.co] 38))
            have LA := Lib.hid (hl.out.alloc (.cells #[.int .i64 s.fr, .string s.le, .int .i64 s.to_, .int .i64 s.co] 38))
            have HNH := Lib.hid HN
            clear hsm hsg HN
            rcases hle with hle | hle <;> rcases hx with hx | hx
            · -- 97 False
              obtain ⟨hh, rfl⟩ := hx
              have HH : Hid (hasLet 98 (ss.take (j + 1)) = false) := by
                show _ = _
                rw [HNH.out, hh, hle]; decide
              rw [hle] at q1 PA BA KA LA
              clear hh
              go_wp2_with fail
              refine (sAutomatonValid_is _ _ _ _ _ _ _ _ _ _ true _ ((HX.out.below BA.out).more BA.out.size) ((HY.out.below BA.out).more BA.out.size) (HS.out.on BA.out) HOK.out).mono ?_
              rintro e w3 ⟨rfl, hb3⟩
              have P3 := blk_b PA.out hb3.out
              have p1 := P3.cell 1
              have K3 := Lib.hid (blk_b KA.out hb3.out)
              have L3 := Lib.hid (blk_b LA.out hb3.out)
              have B3 := Lib.hid (below_on BA.out hb3.out)
              clear P3 PA KA LA BA hb3 q0 q1 q2 q3 k0 k1 k2 k3 kl
              go_wp2_with fail
              go_roundw
              case rel => exact ⟨j + 1, by omega, by go_num, Or.inl ⟨HH.out, rfl⟩, K3, L3, B3⟩
              case measure => simp [intOf]; omega
            · -- 97 True
              obtain ⟨hh, rfl⟩ := hx
              have HH : Hid (hasLet 98 (ss.take (j + 1)) = true) := by
                show _ = _
                rw [HNH.out, hh, hle]; decide
              rw [hle] at q1 PA BA KA LA
              clear hh
              go_wp2_with fail
              refine (sAutomatonValid_is _ _ _ _ _ _ _ _ _ _ true _ ((HX.out.below BA.out).more BA.out.size) ((HY.out.below BA.out).more BA.out.size) (HS.out.on BA.out) HOK.out).mono ?_
              rintro e w3 ⟨rfl, hb3⟩
              have P3 := blk_b PA.out hb3.out
              have p1 := P3.cell 1
              have K3 := Lib.hid (blk_b KA.out hb3.out)
              have L3 := Lib.hid (blk_b LA.out hb3.out)
              have B3 := Lib.hid (below_on BA.out hb3.out)
              clear P3 PA KA LA BA hb3 q0 q1 q2 q3 k0 k1 k2 k3 kl
              go_wp2_with fail
              go_roundw
              case rel => exact ⟨j + 1, by omega, by go_num, Or.inr ⟨HH.out, rfl⟩, K3, L3, B3⟩
              case measure => simp [intOf]; omega
            · -- 98 False
              obtain ⟨hh, rfl⟩ := hx
              have HH : Hid (hasLet 98 (ss.take (j + 1)) = true) := by
                show _ = _
                rw [HNH.out, hh, hle]; decide
              rw [hle] at q1 PA BA KA LA
              clear hh
              go_wp2_with fail
              refine (sAutomatonValid_is _ _ _ _ _ _ _ _ _ _ true _ ((HX.out.below BA.out).more BA.out.size) ((HY.out.below BA.out).more BA.out.size) (HS.out.on BA.out) HOK.out).mono ?_
              rintro e w3 ⟨rfl, hb3⟩
              have P3 := blk_b PA.out hb3.out
              have p1 := P3.cell 1
              have K3 := Lib.hid (blk_b KA.out hb3.out)
              have L3 := Lib.hid (blk_b LA.out hb3.out)
              have B3 := Lib.hid (below_on BA.out hb3.out)
              clear P3 PA KA LA BA hb3 q0 q1 q2 q3 k0 k1 k2 k3 kl
              go_wp2_with fail
              go_roundw
              case rel => exact ⟨j + 1, by omega, by go_num, Or.inr ⟨HH.out, rfl⟩, K3, L3, B3⟩
              case measure => simp [intOf]; omega
            · -- 98 True
              obtain ⟨hh, rfl⟩ := hx
              have HH : Hid (hasLet 98 (ss.take (j + 1)) = true) := by
                show _ = _
                rw [HNH.out, hh, hle]; decide
              rw [hle] at q1 PA BA KA LA
              clear hh
              go_wp2_with fail
              refine (sAutomatonValid_is _ _ _ _ _ _ _ _ _ _ true _ ((HX.out.below BA.out).more BA.out.size) ((HY.out.below BA.out).more BA.out.size) (HS.out.on BA.out) HOK.out).mono ?_
              rintro e w3 ⟨rfl, hb3⟩
              have P3 := blk_b PA.out hb3.out
              have p1 := P3.cell 1
              have K3 := Lib.hid (blk_b KA.out hb3.out)
              have L3 := Lib.hid (blk_b LA.out hb3.out)
              have B3 := Lib.hid (below_on BA.out hb3.out)
              clear P3 PA KA LA BA hb3 q0 q1 q2 q3 k0 k1 k2 k3 kl
              go_wp2_with fail
              go_roundw
              case rel => exact ⟨j + 1, by omega, by go_num, Or.inr ⟨HH.out, rfl⟩, K3, L3, B3⟩
              case measure => simp [intOf]; omega
          · have hjl : j = ss.length := by omega
            subst hjl
            rw [List.take_length] at hx
            rcases hx with ⟨hh, rfl⟩ | ⟨hh, rfl⟩
            · have HE : Hid (ltrsL ss = []) := by show _ = _; unfold ltrsL partL; rw [H97.out, hh]; rfl
              clear hh
              go_wp2_with fail
              go_roundw
              case rel => exact ⟨Or.inr (Or.inr ⟨rfl, by rw [HE.out]⟩), h0, hl, hb⟩
              case measure => simp [intOf]
            · have HE : Hid (ltrsL ss = [98]) := by show _ = _; unfold ltrsL partL; rw [H97.out, hh]; rfl
              clear hh
              go_wp2_with fail
              go_roundw
              case rel => exact ⟨Or.inr (Or.inr ⟨rfl, by rw [HE.out]⟩), h0, hl, hb⟩
              case measure => simp [intOf]
      · have H97 := Lib.hid h97
        clear h97
        go_wp2_with fail
        clear k0 k1 k2 k3 kl lc0 lc1 llt
        go_loopw [3, 17] (fun x i wr => ∃ j : Nat, j ≤ ss.length ∧ i = .int .i64 j ∧ (hasLet 98 (ss.take j) = false ∧ x = .string ⟨#[97]⟩ ∨ hasLet 98 (ss.take j) = true ∧ x = .string ⟨#[97, 98]⟩) ∧ Hid (Blk wr w.heap.size 30 #[.int .i64 n, .slice A1 xs.length c1, .slice A2 ys.length c2, .slice A3 ss.length c3]) ∧ Hid (Blk wr L 9 #[.string ⟨#[97]⟩, .string ⟨#[98]⟩]) ∧ Hid (Below w.heap.size w wr)) (fun _ i _ => ss.length - (intOf i).toNat)
        case atStart => exact ⟨0, Nat.zero_le _, rfl, Or.inl ⟨rfl, rfl⟩, h0, hl, hb⟩
        case round =>
          clear h0 hl hb
          obtain ⟨j, hj, rfl, hx, h0, hl, hb⟩ := hrel
          by_cases hjt : j < ss.length
          · obtain ⟨b, off, s, e, hbN, hst, hsl, _, hsg⟩ := (HS.out.below hb.out).at_ hjt
            obtain ⟨q0, q1, q2, q3⟩ := hst
            subst e
            have hsm : s ∈ ss := by
              rw [← hsg, List.getD_eq_getElem?_getD, List.getElem?_eq_getElem hjt]; exact List.getElem_mem _
            have hle := stepOk_l (HSI.out s hsm)
            have HN := hasLet_next (c := 98) hjt hsg
            have hj0 : (0 : Int) ≤ (j : Int) := by omega
            have hj1 : (j : Int) < (ss.length : Int) := by omega
            obtain ⟨k0, k1, k2, k3⟩ := four_cells h0.out
            have kl := Blk.lt h0.out
            have BA := Lib.hid (below_al hb.out (Nat.le_refl _) (.cells #[.int .i64 s.fr, .string s.le, .int .i64 s.to_, .int .i64 s.co] 38))
            have PA : Hid (Blk (wr.alloc (.cells #[.int .i64 s.fr, .string s.le, .int .i64 s.to_, .int .i64 s.co] 38)) wr.heap.size 38 #[.int .i64 s.fr, .string s.le, .int .i64 s.to_, .int .i64 s.co]) := Blk.new _ _ _
            have KA := Lib.hid (h0.out.alloc (.cells #[.int .i64 s.fr, .string s.le, .int .i64 s.to_, .int .i64 s.co] 38))
            have LA := Lib.hid (hl.out.alloc (.cells #[.int .i64 s.fr, .string s.le, .int .i64 s.to_, .int .i64 s.co] 38))
            have HNH := Lib.hid HN
            clear hsm hsg HN
            rcases hle with hle | hle <;> rcases hx with hx | hx
            · -- 97 False
              obtain ⟨hh, rfl⟩ := hx
              have HH : Hid (hasLet 98 (ss.take (j + 1)) = false) := by
                show _ = _
                rw [HNH.out, hh, hle]; decide
              rw [hle] at q1 PA BA KA LA
              clear hh
              go_wp2_with fail
              refine (sAutomatonValid_is _ _ _ _ _ _ _ _ _ _ true _ ((HX.out.below BA.out).more BA.out.size) ((HY.out.below BA.out).more BA.out.size) (HS.out.on BA.out) HOK.out).mono ?_
              rintro e w3 ⟨rfl, hb3⟩
              have P3 := blk_b PA.out hb3.out
              have p1 := P3.cell 1
              have K3 := Lib.hid (blk_b KA.out hb3.out)
              have L3 := Lib.hid (blk_b LA.out hb3.out)
              have B3 := Lib.hid (below_on BA.out hb3.out)
              clear P3 PA KA LA BA hb3 q0 q1 q2 q3 k0 k1 k2 k3 kl
              go_wp2_with fail
              go_roundw
              case rel => exact ⟨j + 1, by omega, by go_num, Or.inl ⟨HH.out, rfl⟩, K3, L3, B3⟩
              case measure => simp [intOf]; omega
            · -- 97 True
              obtain ⟨hh, rfl⟩ := hx
              have HH : Hid (hasLet 98 (ss.take (j + 1)) = true) := by
                show _ = _
                rw [HNH.out, hh, hle]; decide
              rw [hle] at q1 PA BA KA LA
              clear hh
              go_wp2_with fail
              refine (sAutomatonValid_is _ _ _ _ _ _ _ _ _ _ true _ ((HX.out.below BA.out).more BA.out.size) ((HY.out.below BA.out).more BA.out.size) (HS.out.on BA.out) HOK.out).mono ?_
              rintro e w3 ⟨rfl, hb3⟩
              have P3 := blk_b PA.out hb3.out
              have p1 := P3.cell 1
              have K3 := Lib.hid (blk_b KA.out hb3.out)
              have L3 := Lib.hid (blk_b LA.out hb3.out)
              have B3 := Lib.hid (below_on BA.out hb3.out)
              clear P3 PA KA LA BA hb3 q0 q1 q2 q3 k0 k1 k2 k3 kl
              go_wp2_with fail
              go_roundw
              case rel => exact ⟨j + 1, by omega, by go_num, Or.inr ⟨HH.out, rfl⟩, K3, L3, B3⟩
              case measure => simp [intOf]; omega
            · -- 98 False
              obtain ⟨hh, rfl⟩ := hx
              have HH : Hid (hasLet 98 (ss.take (j + 1)) = true) := by
                show _ = _
                rw [HNH.out, hh, hle]; decide
              rw [hle] at q1 PA BA KA LA
              clear hh
              go_wp2_with fail
              refine (sAutomatonValid_is _ _ _ _ _ _ _ _ _ _ true _ ((HX.out.below BA.out).more BA.out.size) ((HY.out.below BA.out).more BA.out.size) (HS.out.on BA.out) HOK.out).mono ?_
              rintro e w3 ⟨rfl, hb3⟩
              have P3 := blk_b PA.out hb3.out
              have p1 := P3.cell 1
              have K3 := Lib.hid (blk_b KA.out hb3.out)
              have L3 := Lib.hid (blk_b LA.out hb3.out)
              have B3 := Lib.hid (below_on BA.out hb3.out)
              clear P3 PA KA LA BA hb3 q0 q1 q2 q3 k0 k1 k2 k3 kl
              go_wp2_with fail
              go_roundw
              case rel => exact ⟨j + 1, by omega, by go_num, Or.inr ⟨HH.out, rfl⟩, K3, L3, B3⟩
              case measure => simp [intOf]; omega
            · -- 98 True
              obtain ⟨hh, rfl⟩ := hx
              have HH : Hid (hasLet 98 (ss.take (j + 1)) = true) := by
                show _ = _
                rw [HNH.out, hh, hle]; decide
              rw [hle] at q1 PA BA KA LA
              clear hh
              go_wp2_with fail
              refine (sAutomatonValid_is _ _ _ _ _ _ _ _ _ _ true _ ((HX.out.below BA.out).more BA.out.size) ((HY.out.below BA.out).more BA.out.size) (HS.out.on BA.out) HOK.out).mono ?_
              rintro e w3 ⟨rfl, hb3⟩
              have P3 := blk_b PA.out hb3.out
              have p1 := P3.cell 1
              have K3 := Lib.hid (blk_b KA.out hb3.out)
              have L3 := Lib.hid (blk_b LA.out hb3.out)
              have B3 := Lib.hid (below_on BA.out hb3.out)
              clear P3 PA KA LA BA hb3 q0 q1 q2 q3 k0 k1 k2 k3 kl
              go_wp2_with fail
              go_roundw
              case rel => exact ⟨j + 1, by omega, by go_num, Or.inr ⟨HH.out, rfl⟩, K3, L3, B3⟩
              case measure => simp [intOf]; omega
          · have hjl : j = ss.length := by omega
            subst hjl
            rw [List.take_length] at hx
            rcases hx with ⟨hh, rfl⟩ | ⟨hh, rfl⟩
            · have HE : Hid (ltrsL ss = [97]) := by show _ = _; unfold ltrsL partL; rw [H97.out, hh]; rfl
              clear hh
              go_wp2_with fail
              go_roundw
              case rel => exact ⟨Or.inr (Or.inr ⟨rfl, by rw [HE.out]⟩), h0, hl, hb⟩
              case measure => simp [intOf]
            · have HE : Hid (ltrsL ss = [97, 98]) := by show _ = _; unfold ltrsL partL; rw [H97.out, hh]; rfl
              clear hh
              go_wp2_with fail
              go_roundw
              case rel => exact ⟨Or.inr (Or.inr ⟨rfl, by rw [HE.out]⟩), h0, hl, hb⟩
              case measure => simp [intOf]
    · clear k0 k1 k2 k3 kl lc0 lc1 llt
      go_wp2_with fail
      go_ret
      exact ⟨rfl, hb⟩

theorem sLetters_no (m : Int) (c1 c2 c3 : Nat) (A1 A2 A3 : Option Addr) (xs ys : List Int) (ss : List StepD) (w : World) (hx : Ints w w.heap.size A1 xs) (hy : Ints w w.heap.size A2 ys) (hs : SRow w w.heap.size A3 ss) (hok : autoOk m xs ys ss = false) :
    Calls Try.prog 5 #[.agg #[.int .i64 m, .slice A1 xs.length c1, .slice A2 ys.length c2, .slice A3 ss.length c3]] w fun e w' => e = .returned (.string ⟨#[]⟩) ∧ Hid (Below w.heap.size w w') := by
  have K0 : Hid (Blk ((w.alloc (.cells #[.int .i64 m, .slice A1 xs.length c1, .slice A2 ys.length c2, .slice A3 ss.length c3] 30)).alloc (.cells #[.string ⟨#[97]⟩, .string ⟨#[98]⟩] 9)) w.heap.size 30 #[.int .i64 m, .slice A1 xs.length c1, .slice A2 ys.length c2, .slice A3 ss.length c3]) := (Blk.new w _ _).alloc _
  have L0 : Hid (Blk ((w.alloc (.cells #[.int .i64 m, .slice A1 xs.length c1, .slice A2 ys.length c2, .slice A3 ss.length c3] 30)).alloc (.cells #[.string ⟨#[97]⟩, .string ⟨#[98]⟩] 9)) (w.heap.size + 1) 9 #[.string ⟨#[97]⟩, .string ⟨#[98]⟩]) := blk_new (by simp)
  have B0 := Lib.hid (below_a2 w (.cells #[.int .i64 m, .slice A1 xs.length c1, .slice A2 ys.length c2, .slice A3 ss.length c3] 30) (.cells #[.string ⟨#[97]⟩, .string ⟨#[98]⟩] 9))
  have HX := Lib.hid hx
  have HY := Lib.hid hy
  have HS := Lib.hid hs
  have HOK := Lib.hid hok
  have ls := hs.1
  clear hx hy hs hok
  go_enter Try.func5, Try.ntmps5
  go_wp2_with fail
  generalize (w.alloc (.cells #[.int .i64 m, .slice A1 xs.length c1, .slice A2 ys.length c2, .slice A3 ss.length c3] 30)).alloc (.cells #[.string ⟨#[97]⟩, .string ⟨#[98]⟩] 9) = w2 at K0 L0 B0 ⊢
  obtain ⟨L, hL⟩ : ∃ L, L = w.heap.size + 1 := ⟨_, rfl⟩
  rw [← hL] at L0 ⊢
  have hLw : w.heap.size < L := by omega
  clear hL
  go_loopw [3, 10] (fun x i wr => ∃ k : Nat, k ≤ 2 ∧ i = .int .i64 k ∧ x = .string ⟨#[]⟩ ∧ Hid (Blk wr w.heap.size 30 #[.int .i64 m, .slice A1 xs.length c1, .slice A2 ys.length c2, .slice A3 ss.length c3]) ∧ Hid (Blk wr L 9 #[.string ⟨#[97]⟩, .string ⟨#[98]⟩]) ∧ Hid (Below w.heap.size w wr)) (fun _ i _ => 2 - (intOf i).toNat)
  case atStart => exact ⟨0, Nat.zero_le _, rfl, rfl, K0, L0, B0⟩
  case round =>
    clear K0 L0 B0
    obtain ⟨k, hk, rfl, rfl, h0, hl, hb⟩ := hrel
    by_cases hlt : k < 2
    · have hk1 : (k : Int) < 2 := by omega
      have hk0 : (0 : Int) ≤ (k : Int) := by omega
      obtain ⟨y, hy⟩ : ∃ y, wr.cell? ⟨L, k, none⟩ = some (.string y) := by
        rw [hl.out.cell k]
        rcases (show k = 0 ∨ k = 1 by omega) with rfl | rfl
        · exact ⟨_, rfl⟩
        · exact ⟨_, rfl⟩
      have llt := Blk.lt hl.out
      obtain ⟨k0, k1, k2, k3⟩ := four_cells h0.out
      have kl := Blk.lt h0.out
      go_wp2_with fail
      clear k0 k1 k2 k3 kl hy llt
      go_loopw [3, 17] (fun x i wr => ∃ j : Nat, j ≤ ss.length ∧ i = .int .i64 j ∧ x = .string ⟨#[]⟩ ∧ Hid (Blk wr w.heap.size 30 #[.int .i64 m, .slice A1 xs.length c1, .slice A2 ys.length c2, .slice A3 ss.length c3]) ∧ Hid (Blk wr L 9 #[.string ⟨#[97]⟩, .string ⟨#[98]⟩]) ∧ Hid (Below w.heap.size w wr)) (fun _ i _ => ss.length - (intOf i).toNat)
      case atStart => exact ⟨0, Nat.zero_le _, rfl, rfl, h0, hl, hb⟩
      case round =>
        clear h0 hl hb
        obtain ⟨j, hj, rfl, rfl, h0, hl, hb⟩ := hrel
        by_cases hjt : j < ss.length
        · obtain ⟨b, off, s, e, hbN, hst, hsl, _, hsg⟩ := (HS.out.below hb.out).at_ hjt
          obtain ⟨q0, q1, q2, q3⟩ := hst
          subst e
          have hj0 : (0 : Int) ≤ (j : Int) := by omega
          have hj1 : (j : Int) < (ss.length : Int) := by omega
          obtain ⟨k0, k1, k2, k3⟩ := four_cells h0.out
          have kl := Blk.lt h0.out
          have BA := Lib.hid (below_al hb.out (Nat.le_refl _) (.cells #[.int .i64 s.fr, .string s.le, .int .i64 s.to_, .int .i64 s.co] 38))
          have KA := Lib.hid (h0.out.alloc (.cells #[.int .i64 s.fr, .string s.le, .int .i64 s.to_, .int .i64 s.co] 38))
          have LA := Lib.hid (hl.out.alloc (.cells #[.int .i64 s.fr, .string s.le, .int .i64 s.to_, .int .i64 s.co] 38))
          clear hsg
          go_wp2_with fail
          refine (sAutomatonValid_is _ _ _ _ _ _ _ _ _ _ false _ ((HX.out.below BA.out).more BA.out.size) ((HY.out.below BA.out).more BA.out.size) (HS.out.on BA.out) HOK.out).mono ?_
          rintro e w3 ⟨rfl, hb3⟩
          have K3 := Lib.hid (blk_b KA.out hb3.out)
          have L3 := Lib.hid (blk_b LA.out hb3.out)
          have B3 := Lib.hid (below_on BA.out hb3.out)
          clear KA LA BA hb3 q0 q1 q2 q3 k0 k1 k2 k3 kl
          go_wp2_with fail
          go_roundw
          case rel => exact ⟨j + 1, by omega, by go_num, rfl, K3, L3, B3⟩
          case measure => simp [intOf]; omega
        · go_wp2_with fail
          go_roundw
          case rel => exact ⟨k + 1, by omega, by go_num, rfl, h0, hl, hb⟩
          case measure => simp [intOf]; omega
    · go_wp2_with fail
      go_ret
      exact ⟨rfl, hb⟩

theorem letAuto_in {m : Int} {xs ys : List Int} {ss : List StepD} (h : autoOk m xs ys ss = true) : ∃ n : Nat, m = (n : Int) ∧ ss.length ≤ 24 ∧ ∀ s ∈ ss, stepOk n s = true := by
  have hst : ∀ (o : Option StepD) (l : List StepD), stepsF m o l = true → ∀ s ∈ l, stepOk m s = true := by
    intro o l
    induction l generalizing o with
    | nil => intro _ s hs; cases hs
    | cons t r ih =>
      intro h s hs
      cases o with
      | none =>
        simp only [stepsF, Bool.and_eq_true] at h
        rcases List.mem_cons.1 hs with rfl | hs
        · exact h.1
        · exact ih _ h.2 s hs
      | some q =>
        simp only [stepsF, Bool.and_eq_true] at h
        rcases List.mem_cons.1 hs with rfl | hs
        · exact h.1
        · exact ih _ h.2.2 s hs
  unfold autoOk at h
  simp only [Bool.and_eq_true, decide_eq_true_eq] at h
  obtain ⟨⟨h1, h2⟩, h3, h4, h5, h6⟩ := h
  have e : m = (m.toNat : Int) := by omega
  exact ⟨m.toNat, e, h5, fun s hs => by rw [← e]; exact hst _ _ h6 s hs⟩

theorem sLetters_any (m : Int) (A1 A2 A3 : Option Addr) (c1 c2 c3 : Nat) (xs ys : List Int) (ss : List StepD) (r : ByteArray) (w : World) (hx : Ints w w.heap.size A1 xs) (hy : Ints w w.heap.size A2 ys) (hs : SRow w w.heap.size A3 ss) (hr : lettersR m xs ys ss = r) :
    Calls Try.prog 5 #[.agg #[.int .i64 m, .slice A1 xs.length c1, .slice A2 ys.length c2, .slice A3 ss.length c3]] w fun e w' => e = .returned (.string r) ∧ Hid (Below w.heap.size w w') := by
  obtain ⟨b, hb⟩ : ∃ b, autoOk m xs ys ss = b := ⟨_, rfl⟩
  cases b
  · rw [← hr, lettersR_no hb]
    exact sLetters_no m c1 c2 c3 A1 A2 A3 xs ys ss w hx hy hs hb
  · rw [← hr, lettersR_yes hb]
    obtain ⟨n, rfl, _, hsi⟩ := letAuto_in hb
    exact sLetters_yes n c1 c2 c3 A1 A2 A3 xs ys ss w hx hy hs hb hsi
end Go.Proofs.Ytampdgnijenghaa
