/- The walk of the law of expansions: it returns true for all inputs, and nothing that was there changes. No condition. -/
import Derived.Test.YtdhpcpmjdffgmaaDoorExprP
import Derived.Test.YtdhpcpmjdffgmaaDoorDrawEx
import Derived.Test.YtdhpcpmjdffgmaaDoorReader
import Derived.OpenShut
namespace Go.Proofs.YtdhpcpmjdffgmaaDoor
open Go.RowKit
set_option maxHeartbeats 8000000
set_option maxRecDepth 100000
set_option linter.unusedVariables false

theorem iExp_w (s : ByteArray) (n : Int) (W : ByteArray) (ok : Bool) (w : World) (hn9 : n ≤ 9223372036854775807) (h1 : bw ((expR s.data.toList n).getD []) = W) (h2 : (expR s.data.toList n).isSome = ok) :
    Calls Tryd.prog 5 #[.string s, .int .i64 n] w fun e w' => e = .returned (.tuple #[.string W, .bool ok]) ∧ Hid (Below w.heap.size w w') := by
  refine (iExpand_is s n w hn9).mono ?_
  rintro e w' ⟨rfl, hb⟩
  subst h1
  subst h2
  refine ⟨?_, hb⟩
  cases expR s.data.toList n <;> rfl
theorem sExp_w (s : ByteArray) (n : Int) (W : ByteArray) (ok : Bool) (w : World) (hn9 : n ≤ 9223372036854775807) (hs : s.size ≤ 1048576) (h1 : bw ((expR s.data.toList n).getD []) = W) (h2 : (expR s.data.toList n).isSome = ok) :
    Calls Tryd.prog 6 #[.string s, .int .i64 n] w fun e w' => e = .returned (.tuple #[.string W, .bool ok]) ∧ Hid (Below w.heap.size w w') := by
  refine (sExpand_is s n w hn9 hs).mono ?_
  rintro e w' ⟨rfl, hb⟩
  subst h1
  subst h2
  refine ⟨?_, hb⟩
  cases expR s.data.toList n <;> rfl
theorem iVal_w (s : ByteArray) (b : Bool) (w : World) (hb : validB s.data.toList = b) :
    Calls Tryd.prog 7 #[.string s] w fun e w' => e = .returned (.bool b) ∧ Hid (Below w.heap.size w w') := iValid_is s b w hb
theorem iDep_w (s : ByteArray) (d : Int) (w : World) (hd : depthR s.data.toList = d) :
    Calls Tryd.prog 9 #[.string s] w fun e w' => e = .returned (.int .i64 d) ∧ Hid (Below w.heap.size w w') := by
  subst hd; exact iDepth_is s w
theorem sDep_w (s : ByteArray) (d : Int) (w : World) (hs : s.size ≤ 1048576) (hd : depthR s.data.toList = d) :
    Calls Tryd.prog 10 #[.string s] w fun e w' => e = .returned (.int .i64 d) ∧ w' = w := by
  subst hd; exact sDepth_is s w hs
theorem iRep_w (s R : ByteArray) (w : World) (hs : s.size ≤ 1048576) (hr : repS s = R) :
    Calls Tryd.prog 12 #[.string s] w fun e w' => e = .returned (.string R) ∧ Hid (Below w.heap.size w w') := by
  subst hr; exact iRepeat_is s w hs
theorem ba_ne {W : ByteArray} (h : 0 < W.size) : ¬ W.toList = [] := by
  intro e
  rw [ByteArray.toList_eq] at e
  have h2 : W.data.toList.length = W.size := by simp
  rw [e] at h2
  simp at h2
  omega
theorem FnExpand_walk (A : Option Addr) (cap : Nat) (zs : List Int) (A' : Option Addr) (cap' : Nat) (zs' : List Int) (w : World) (hz : IRow .u8 w w.heap.size A zs) (hc : zs.length ≤ cap) (hwf : ∀ z ∈ zs, (Lit.int .u8 z).wf = true) (hz' : IRow .u8 w w.heap.size A' zs') (hc' : zs'.length ≤ cap') (hwf' : ∀ z ∈ zs', (Lit.int .u8 z).wf = true) :
    Calls Tryd.prog 3 #[.slice A zs.length cap, .slice A' zs'.length cap'] w fun e w' => e = .returned (.bool true) ∧ Below w.heap.size w w' := by
  have hl1 := hz.len
  have hl1' := hz'.len
  have HB := Lib.hid (show ∀ z ∈ zs, 0 ≤ z ∧ z ≤ 255 from fun z hz => bounds_u8 (hwf z hz))
  have HB' := Lib.hid (show ∀ z ∈ zs', 0 ≤ z ∧ z ≤ 255 from fun z hz => bounds_u8 (hwf' z hz))
  have HZ' := Lib.hid hz'
  clear hwf hwf' hz'
  by_cases hs1 : (1048576 : Int) < (zs.length : Int)
  · go_enter Tryd.func3, Tryd.ntmps3
    go_wp2_with fail
    go_ret
    exact ⟨rfl, Below.refl _ _⟩
  by_cases hs2 : (1048576 : Int) < (zs'.length : Int)
  · go_enter Tryd.func3, Tryd.ntmps3
    go_wp2_with fail
    go_ret
    exact ⟨rfl, Below.refl _ _⟩
  go_enter Tryd.func3, Tryd.ntmps3
  go_wp2_with fail
  refine (drawEE_any _ _ _ _ hz hc HB.out).mono ?_
  rintro e w1 ⟨s, n, rfl, hs65, hn9, B1⟩
  have hs20 : s.size ≤ 1048576 := by omega
  obtain ⟨r, hr⟩ : ∃ r, expR s.data.toList n = r := ⟨_, rfl⟩
  obtain ⟨W, hW⟩ : ∃ W, bw (r.getD []) = W := ⟨_, rfl⟩
  obtain ⟨ok, hok⟩ : ∃ ok, r.isSome = ok := ⟨_, rfl⟩
  obtain ⟨b, hb⟩ : ∃ b, validB s.data.toList = b := ⟨_, rfl⟩
  obtain ⟨d, hd⟩ : ∃ d, depthR s.data.toList = d := ⟨_, rfl⟩
  have HR := Lib.hid hr
  have HW := Lib.hid hW
  have HO := Lib.hid hok
  have HV := Lib.hid hb
  have HD := Lib.hid hd
  clear hr hW hok hb hd hz hc HB
  go_wp2_with fail
  refine (iExp_w s n W ok _ hn9 (by rw [HR.out]; exact HW.out) (by rw [HR.out]; exact HO.out)).mono ?_
  rintro e w2 ⟨rfl, Hk⟩
  have B2 := Lib.hid (below_on B1.out Hk.out)
  clear B1 Hk
  go_wp2_with fail
  refine (sExp_w s n W ok _ hn9 hs20 (by rw [HR.out]; exact HW.out) (by rw [HR.out]; exact HO.out)).mono ?_
  rintro e w3 ⟨rfl, Hk⟩
  have B3 := Lib.hid (below_on B2.out Hk.out)
  clear B2 Hk
  cases ok
  · obtain rfl : W = ⟨#[]⟩ := by
      rw [← HW.out]
      have h := HO.out
      cases r with
      | none => rfl
      | some x => cases h
    go_wp2_with fail
    refine (iVal_w s b _ HV.out).mono ?_
    rintro e w4 ⟨rfl, Hk⟩
    have B4 := Lib.hid (below_on B3.out Hk.out)
    clear B3 Hk
    go_wp2_with fail
    refine (sValid_is s b _ hs20 HV.out).mono ?_
    rintro e w4' ⟨rfl, rfl⟩
    go_wp2_with fail
    refine (iDep_w s d _ HD.out).mono ?_
    rintro e w5 ⟨rfl, Hk⟩
    have B5 := Lib.hid (below_on B4.out Hk.out)
    clear B4 Hk
    go_wp2_with fail
    refine (sDep_w s d _ hs20 HD.out).mono ?_
    rintro e w5' ⟨rfl, rfl⟩
    go_wp2_with fail
    refine (iVal_w s b _ HV.out).mono ?_
    rintro e w6 ⟨rfl, Hk⟩
    have B6 := Lib.hid (below_on B5.out Hk.out)
    clear B5 Hk
    go_wp2_with fail
    refine (sValid_is s b _ hs20 HV.out).mono ?_
    rintro e w6' ⟨rfl, rfl⟩
    go_wp2_with fail
    refine (iDep_w s d _ HD.out).mono ?_
    rintro e w7 ⟨rfl, Hk⟩
    have B7 := Lib.hid (below_on B6.out Hk.out)
    clear B6 Hk
    go_wp2_with fail
    refine (sDep_w s d _ hs20 HD.out).mono ?_
    rintro e w7' ⟨rfl, rfl⟩
    go_wp2_with fail
    go_ret
    exact ⟨rfl, B7.out⟩
  · obtain ⟨q, rfl⟩ : ∃ q, r = some q := by
      have h := HO.out
      cases r with
      | none => cases h
      | some x => exact ⟨x, rfl⟩
    have EL := Lib.hid (exp_law HR.out)
    obtain rfl : b = true := HV.out.symm.trans EL.out.valid
    have HQ : Hid (W = bw q) := HW.out.symm
    have hWs : W.size = q.length := by rw [HQ.out, bw_size]
    have hq0 := EL.out.some_
    have hq1 := EL.out.few
    have hn1 := EL.out.num
    have hd0 : 0 ≤ d := by rw [← HD.out]; exact EL.out.deep
    have hd120 : d ≤ 120 := by rw [← HD.out]; exact EL.out.shallow
    have WNE : Hid (¬ W.toList = []) := ba_ne (by omega)
    obtain ⟨R, hR⟩ : ∃ R, repS s = R := ⟨_, rfl⟩
    have HRp := Lib.hid hR
    have hRs : 0 < R.size := by
      rw [← hR, ← repS_yes EL.out.valid (by omega), rep_size]; omega
    have RNE : Hid (¬ R.toList = []) := ba_ne hRs
    clear hR HO
    go_wp2_with fail
    refine (iVal_w s true _ HV.out).mono ?_
    rintro e w4 ⟨rfl, Hk⟩
    have B4 := Lib.hid (below_on B3.out Hk.out)
    clear B3 Hk
    go_wp2_with fail
    refine (sValid_is s true _ hs20 HV.out).mono ?_
    rintro e w4' ⟨rfl, rfl⟩
    go_wp2_with fail
    refine (iDep_w s d _ HD.out).mono ?_
    rintro e w5 ⟨rfl, Hk⟩
    have B5 := Lib.hid (below_on B4.out Hk.out)
    clear B4 Hk
    go_wp2_with fail
    refine (sDep_w s d _ hs20 HD.out).mono ?_
    rintro e w5' ⟨rfl, rfl⟩
    have Z5 := Lib.hid ((HZ'.out.below B5.out).more B5.out.size)
    go_wp2_with fail
    refine (drawDO_any _ _ _ _ Z5.out hc' HB'.out).mono ?_
    rintro e w6 ⟨f, rfl, hf65, Hk⟩
    have B6 := Lib.hid (below_on B5.out Hk.out)
    clear B5 Hk Z5 HZ' hc' HB'
    obtain ⟨r2, hr2⟩ : ∃ r, expR f.data.toList n = r := ⟨_, rfl⟩
    obtain ⟨V, hV⟩ : ∃ V, bw (r2.getD []) = V := ⟨_, rfl⟩
    obtain ⟨fine, hfine⟩ : ∃ ok, r2.isSome = ok := ⟨_, rfl⟩
    have HR2 := Lib.hid hr2
    have HV2 := Lib.hid hV
    have HF2 := Lib.hid hfine
    have hVs : V.size ≤ 1000 := by
      rw [← hV, bw_size]
      cases hx : r2 with
      | none => exact Nat.zero_le _
      | some x =>
        rw [hx] at hr2
        exact (exp_law hr2).few
    obtain ⟨r3, hr3⟩ : ∃ r, expR (s ++ f).data.toList n = r := ⟨_, rfl⟩
    obtain ⟨U, hU⟩ : ∃ U, bw (r3.getD []) = U := ⟨_, rfl⟩
    obtain ⟨good, hgood⟩ : ∃ ok, r3.isSome = ok := ⟨_, rfl⟩
    have HR3 := Lib.hid hr3
    have HU3 := Lib.hid hU
    have HG3 := Lib.hid hgood
    have hcat : ¬ 9223372036854775807 < s.size + f.size := by omega
    clear hr2 hV hfine hr3 hU hgood
    go_wp2_with fail
    refine (iExp_w f n V fine _ hn9 (by rw [HR2.out]; exact HV2.out) (by rw [HR2.out]; exact HF2.out)).mono ?_
    rintro e w7 ⟨rfl, Hk⟩
    have B7 := Lib.hid (below_on B6.out Hk.out)
    clear B6 Hk
    go_wp2_with fail
    refine (iExp_w (s ++ f) n U good _ hn9 (by rw [HR3.out]; exact HU3.out) (by rw [HR3.out]; exact HG3.out)).mono ?_
    rintro e w8 ⟨rfl, Hk⟩
    have B8 := Lib.hid (below_on B7.out Hk.out)
    clear B7 Hk
    go_wp2_with fail
    refine (iRep_w s R _ hs20 HRp.out).mono ?_
    rintro e w9 ⟨rfl, Hk⟩
    have B9 := Lib.hid (below_on B8.out Hk.out)
    clear B8 Hk
    go_upto_region 12 with fail
    go_cut [125] (fun c wx => ∃ bb : Bool, c = .bool bb ∧ (bb = true → n < 6 ∧ W.size < 100) ∧ wx = w9)
    case first =>
      have rne := RNE.out
      by_cases hn6 : n < 6
      · by_cases hw100 : W.size < 100
        · have hw1 : (W.size : Int) < 100 := by omega
          go_wp2_with fail
          go_meet
          exact ⟨_, rfl, fun _ => ⟨hn6, hw100⟩, rfl⟩
        · have hw1 : ¬ (W.size : Int) < 100 := by omega
          go_wp2_with fail
          go_meet
          exact ⟨_, rfl, fun h => (by first | cases h | (simp at h; omega)), rfl⟩
      · go_wp2_with fail
        go_meet
        exact ⟨_, rfl, fun h => (by first | cases h | (simp at h; omega)), rfl⟩
    obtain ⟨bb, rfl, hbb, rfl⟩ := hcut
    have HBB := Lib.hid hbb
    clear hbb
    go_upto_if 125 with fail
    go_cut [] (fun wx => Hid (Below w.heap.size w wx))
    case first =>
      cases bb
      · go_wp2_with fail
        go_meet
        exact B9
      · obtain ⟨hn6, hw100⟩ := HBB.out rfl
        · have hw1 : (W.size : Int) < 100 := by omega
          obtain ⟨k, rfl⟩ := Int.eq_ofNat_of_zero_le (show 0 ≤ n by omega)
          have hk5 : k ≤ 5 := by omega
          have hkq : k * q.length ≤ 495 := Nat.le_trans (Nat.mul_le_mul hk5 (show q.length ≤ 99 by omega)) (by decide)
          have ERP := EL.out.rep (by omega) (by rw [Int.toNat_natCast]; omega)
          rw [Int.toNat_natCast, HRp.out] at ERP
          have ER1 := Lib.hid ERP.1
          have ER2 := Lib.hid ERP.2
          clear ERP
          go_wp2_with fail
          go_loopw [17, 127] (fun t i wr => ∃ (j : Nat), j ≤ k ∧ i = .int .i64 j ∧ t = .string (bw (repL j q)) ∧ wr = wc) (fun _ i _ => k - (intOf i).toNat)
          case atStart => exact ⟨0, Nat.zero_le _, rfl, rfl, rfl⟩
          case round =>
            obtain ⟨j, hj, rfl, rfl, rfl⟩ := hrel
            by_cases hlt : j < k
            · have hjk : (j : Int) < (k : Int) := by omega
              obtain ⟨T, hT⟩ : ∃ T, bw (repL j q) = T := ⟨_, rfl⟩
              have hTs : T.size ≤ 495 := by
                rw [← hT, bw_size, repL_len]
                exact Nat.le_trans (Nat.mul_le_mul_right _ hj) hkq
              have HT := Lib.hid hT
              have hcat2 : ¬ 9223372036854775807 < T.size + W.size := by omega
              rw [hT]
              clear hT
              go_wp2_with fail
              go_roundw
              case rel => exact ⟨j + 1, by omega, by go_num, by rw [← HT.out, HQ.out, bw_app, ← repL_succ], by first | trivial | rfl⟩
              case measure => simp [intOf]; omega
            · obtain rfl : j = k := by omega
              obtain ⟨T, hT⟩ : ∃ T, bw (repL j q) = T := ⟨_, rfl⟩
              have HT := Lib.hid hT
              rw [hT]
              clear hT
              go_wp2_with fail
              refine (iExp_w R j T true _ hn9 (by rw [ER1.out]; exact HT.out) (by rw [ER1.out]; rfl)).mono ?_
              rintro e w10 ⟨rfl, Hk⟩
              have B10 := Lib.hid (below_on B9.out Hk.out)
              clear B9 Hk
              go_wp2_with fail
              refine (iDep_w R (d + 1) _ (by rw [ER2.out, HD.out])).mono ?_
              rintro e w11 ⟨rfl, Hk⟩
              have B11 := Lib.hid (below_on B10.out Hk.out)
              clear B10 Hk
              go_wp2_with fail
              refine (iDep_w s d _ HD.out).mono ?_
              rintro e w12 ⟨rfl, Hk⟩
              have B12 := Lib.hid (below_on B11.out Hk.out)
              clear B11 Hk
              go_wp2_with fail
              go_meet
              exact B12
    clear B9 HRp RNE hRs
    have wne := WNE.out
    have hd9 : (0 : Int) ≤ d := hd0
    go_wp2_with fail
    refine (iWordValid_is W true _ (by omega) (by rw [HQ.out]; exact EL.out.word)).mono ?_
    rintro e w13 ⟨rfl, Hk⟩
    have B13 := Lib.hid (below_on hcut.out Hk.out)
    clear hcut Hk
    have LASTD : Hid (∀ w', Calls Tryd.prog 9 #[.string s] w' fun e w'' => e = .returned (.int .i64 d) ∧ Hid (Below w'.heap.size w' w'')) := fun w' => iDep_w s d w' HD.out
    have WS : Hid (d = 0 → W = s) := fun h0 => by rw [HQ.out]; exact EL.out.flat (by rw [HD.out]; exact h0)
    have DONE : Hid (fine = true → s.size + f.size ≤ 120 → W.size + V.size ≤ 1000 → good = true ∧ U = W ++ V) := fun hf h1 h2 => by
      rw [hf] at HF2
      cases hr2 : r2 with
      | none => rw [hr2] at HF2; cases HF2.out
      | some v =>
        have e2 := HR2.out
        rw [hr2] at e2
        have hVv : V = bw v := by rw [← HV2.out, hr2]; rfl
        have h3 := EL.out.join f v e2 h1 (by rw [hVv, bw_size] at h2; omega)
        have h4 : r3 = some (q ++ v) := HR3.out.symm.trans h3
        constructor
        · rw [← HG3.out, h4]; rfl
        · rw [← HU3.out, h4, HQ.out, hVv, bw_app]; rfl
    clear HR HW HV HR2 HV2 HF2 HR3 HU3 HG3 EL WNE HQ HD
    have hsf : (0 : Int) ≤ (s.size : Int) + (f.size : Int) := by omega
    have hWb : W.size ≤ 1000 := by omega
    clear hWs hq0 hq1
    cases fine
    · by_cases hdp : 0 < d
      · go_wp2_with fail
        refine (LASTD.out _).mono ?_
        rintro e w14 ⟨rfl, Hk⟩
        have B14 := Lib.hid (below_on B13.out Hk.out)
        go_wp2_with fail
        go_ret
        exact ⟨by first | (simp; done) | simp [wne], B14.out⟩
      · obtain rfl : W = s := WS.out (by omega)
        go_wp2_with fail
        refine (LASTD.out _).mono ?_
        rintro e w14 ⟨rfl, Hk⟩
        have B14 := Lib.hid (below_on B13.out Hk.out)
        go_wp2_with fail
        go_ret
        exact ⟨by first | (simp; done) | simp [wne], B14.out⟩
    · by_cases h120 : s.size + f.size ≤ 120
      · by_cases h1000 : W.size + V.size ≤ 1000
        · obtain ⟨rfl, rfl⟩ := DONE.out rfl h120 h1000
          have k1 : ¬ 120 < (s.size : Int) + (f.size : Int) := by omega
          have k2 : ¬ 1000 < (W.size : Int) + (V.size : Int) := by omega
          have k3 : ¬ 9223372036854775807 < W.size + V.size := by omega
          by_cases hdp : 0 < d
          · go_wp2_with fail
            refine (LASTD.out _).mono ?_
            rintro e w14 ⟨rfl, Hk⟩
            have B14 := Lib.hid (below_on B13.out Hk.out)
            go_wp2_with fail
            go_ret
            exact ⟨by first | (simp; done) | simp [wne], B14.out⟩
          · obtain rfl : W = s := WS.out (by omega)
            go_wp2_with fail
            refine (LASTD.out _).mono ?_
            rintro e w14 ⟨rfl, Hk⟩
            have B14 := Lib.hid (below_on B13.out Hk.out)
            go_wp2_with fail
            go_ret
            exact ⟨by first | (simp; done) | simp [wne], B14.out⟩
        · have k1 : ¬ 120 < (s.size : Int) + (f.size : Int) := by omega
          have k2 : 1000 < (W.size : Int) + (V.size : Int) := by omega
          by_cases hdp : 0 < d
          · go_wp2_with fail
            refine (LASTD.out _).mono ?_
            rintro e w14 ⟨rfl, Hk⟩
            have B14 := Lib.hid (below_on B13.out Hk.out)
            go_wp2_with fail
            go_ret
            exact ⟨by first | (simp; done) | simp [wne], B14.out⟩
          · obtain rfl : W = s := WS.out (by omega)
            go_wp2_with fail
            refine (LASTD.out _).mono ?_
            rintro e w14 ⟨rfl, Hk⟩
            have B14 := Lib.hid (below_on B13.out Hk.out)
            go_wp2_with fail
            go_ret
            exact ⟨by first | (simp; done) | simp [wne], B14.out⟩
      · have k1 : 120 < (s.size : Int) + (f.size : Int) := by omega
        by_cases hdp : 0 < d
        · go_wp2_with fail
          refine (LASTD.out _).mono ?_
          rintro e w14 ⟨rfl, Hk⟩
          have B14 := Lib.hid (below_on B13.out Hk.out)
          go_wp2_with fail
          go_ret
          exact ⟨by first | (simp; done) | simp [wne], B14.out⟩
        · obtain rfl : W = s := WS.out (by omega)
          go_wp2_with fail
          refine (LASTD.out _).mono ?_
          rintro e w14 ⟨rfl, Hk⟩
          have B14 := Lib.hid (below_on B13.out Hk.out)
          go_wp2_with fail
          go_ret
          exact ⟨by first | (simp; done) | simp [wne], B14.out⟩
end Go.Proofs.YtdhpcpmjdffgmaaDoor
