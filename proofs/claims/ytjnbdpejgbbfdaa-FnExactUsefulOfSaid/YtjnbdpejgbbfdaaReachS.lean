/- The model's states that are reached by steps from some, in as many rounds as there are states; nothing that was there changes. Conditions: at most four states, valid steps, starts that are states. -/
import Derived.Test.YtjnbdpejgbbfdaaReachI
import Derived.Test.YtjnbdpejgbbfdaaAutS
namespace Go.Proofs.Ytjnbdpejgbbfdaa
open Go.RowKit
set_option maxHeartbeats 4000000
set_option maxRecDepth 100000
set_option linter.unusedVariables false

def setL (xs : List Int) : VB := fun q => hasB xs q
theorem take_st {ss : List StepD} {k : Nat} {s : StepD} (hk : k < ss.length) (hs : ss.getD k default = s) : ss.take (k + 1) = ss.take k ++ [s] := by
  rw [List.take_succ_eq_append_getElem hk]
  rw [List.getD_eq_getElem?_getD, List.getElem?_eq_getElem hk] at hs
  rw [← hs]; rfl
theorem setL_take {zs : List Int} {k q : Nat} (hk : k < zs.length) (hg : zs.getD k 0 = (q : Int)) : setL (zs.take (k + 1)) = putB (setL (zs.take k)) q true := by
  have e : zs.take (k + 1) = zs.take k ++ [(q : Int)] := by
    rw [List.take_succ_eq_append_getElem hk]
    rw [List.getD_eq_getElem?_getD, List.getElem?_eq_getElem hk] at hg
    rw [← hg]; rfl
  funext i
  unfold setL putB hasB
  rw [e]
  by_cases h : i = q
  · subst h; simp
  · have : ¬ (i : Int) = (q : Int) := by omega
    rw [if_neg h]
    simp [this]

theorem l3Reach_there (n x1 x2 c1 c2 c3 cap : Nat) (A1 A2 A3 A : Option Addr) (zs : List Int) (ss : List StepD) (w : World) (n2 : n ≤ 4) (hz : Ints w w.heap.size A zs) (hs : SRow w w.heap.size A3 ss) (hzi : ∀ z ∈ zs, 0 ≤ z ∧ z < (n : Int)) (hok : ∀ s ∈ ss, stepOk n s = true) :
    Calls Try.prog 16 #[.agg #[.int .i64 n, .slice A1 x1 c1, .slice A2 x2 c2, .slice A3 ss.length c3], .slice A zs.length cap, .bool false] w fun e w' => e = .returned (.agg (vecB (rrounds ss (setL zs) n))) ∧ Hid (Below w.heap.size w w') := by
  have K0 : Hid (Blk (((w.alloc (.cells #[.int .i64 n, .slice A1 x1 c1, .slice A2 x2 c2, .slice A3 ss.length c3] 30)).alloc (.cells (vecB (fun _ => false)) 39)).alloc (.cells (vecB (fun _ => false)) 39)) w.heap.size 30 #[.int .i64 n, .slice A1 x1 c1, .slice A2 x2 c2, .slice A3 ss.length c3]) := ((Blk.new w _ _).alloc _).alloc _
  have K1 : Hid (Blk (((w.alloc (.cells #[.int .i64 n, .slice A1 x1 c1, .slice A2 x2 c2, .slice A3 ss.length c3] 30)).alloc (.cells (vecB (fun _ => false)) 39)).alloc (.cells (vecB (fun _ => false)) 39)) (w.heap.size + 1) 39 (vecB (fun _ => false))) := (blk_new (by simp)).alloc _
  have K2 : Hid (Blk (((w.alloc (.cells #[.int .i64 n, .slice A1 x1 c1, .slice A2 x2 c2, .slice A3 ss.length c3] 30)).alloc (.cells (vecB (fun _ => false)) 39)).alloc (.cells (vecB (fun _ => false)) 39)) (w.heap.size + 1 + 1) 39 (vecB (fun _ => false))) := blk_new (by simp)
  have B0 := Lib.hid (below_a3 w (.cells #[.int .i64 n, .slice A1 x1 c1, .slice A2 x2 c2, .slice A3 ss.length c3] 30) (.cells (vecB (fun _ => false)) 39) (.cells (vecB (fun _ => false)) 39))
  have HZ := Lib.hid hz
  have HS := Lib.hid hs
  have HZI := Lib.hid hzi
  have HOK := Lib.hid hok
  have lz := hz.len
  have ls := hs.1
  clear hz hs hzi hok
  have ev : (#[.bool false, .bool false, .bool false, .bool false] : Array Value) = vecB (fun _ => false) := rfl
  go_enter Try.func16, Try.ntmps16
  go_wp2_with fail
  try rw [ev]
  obtain ⟨w3, hw3⟩ : ∃ w3, w3 = ((w.alloc (.cells #[.int .i64 n, .slice A1 x1 c1, .slice A2 x2 c2, .slice A3 ss.length c3] 30)).alloc (.cells (vecB (fun _ => false)) 39)).alloc (.cells (vecB (fun _ => false)) 39) := ⟨_, rfl⟩
  rw [← hw3] at K0 K1 K2 B0
  try rw [← hw3]
  obtain ⟨R, hR⟩ : ∃ R, R = w.heap.size + 1 := ⟨_, rfl⟩
  obtain ⟨G, hG⟩ : ∃ G, G = w.heap.size + 1 + 1 := ⟨_, rfl⟩
  rw [← hG] at K2 ⊢
  rw [← hR] at K1 ⊢
  have hRw : w.heap.size < R := by omega
  have hGR : R < G := by omega
  clear hR hG hw3 ev
  go_loopw [14] (fun i wr => ∃ k : Nat, k ≤ zs.length ∧ i = .int .i64 k ∧ Hid (Blk wr G 39 (vecB (setL (zs.take k)))) ∧ Hid (Blk wr w.heap.size 30 #[.int .i64 n, .slice A1 x1 c1, .slice A2 x2 c2, .slice A3 ss.length c3]) ∧ Hid (Blk wr R 39 (vecB (fun _ => false))) ∧ Hid (Below w.heap.size w wr)) (fun i _ => zs.length - (intOf i).toNat)
  case atStart => exact ⟨0, Nat.zero_le _, rfl, K2, K0, K1, B0⟩
  case round =>
    obtain ⟨k, hk, rfl, hg, h0, h1, hb⟩ := hrel
    have hGw := Blk.lt hg.out
    by_cases hlt : k < zs.length
    · obtain ⟨b, off, z, rfl, hbB, hc, hd, hgz⟩ := (HZ.out.below hb.out).at_ hlt
      obtain ⟨z0, z1⟩ := HZI.out z (getD_mem hlt hgz)
      obtain ⟨q, rfl⟩ : ∃ q : Nat, z = (q : Int) := ⟨z.toNat, by omega⟩
      have hq4 : q < 4 := by omega
      have hq0 : (0 : Int) ≤ (q : Int) := by omega
      have hq1 : (q : Int) < 4 := by omega
      have hk0 : (0 : Int) ≤ (k : Int) := by omega
      have hk1 : (k : Int) < (zs.length : Int) := by omega
      have hcell := vecB_cell hg.out hq4
      have hfr := hg.out.frozen q
      have HT : Hid (setL (zs.take (k + 1)) = putB (setL (zs.take k)) q true) := setL_take hlt hgz
      clear hd hgz z0 z1
      go_wp2_with fail
      have hgs : wr.grownBy (wr.setCell ⟨G, q, none⟩ (.bool true)) (some G) := grow_set wr G q _
      go_roundw
      case rel =>
        refine ⟨k + 1, by omega, by go_num, ?_, Lib.hid (h0.out.stay hgs (by intro e; cases e; omega)), Lib.hid (h1.out.stay hgs (by intro e; cases e; omega)), Lib.hid (hb.out.grown hgs hb.out.size (fun j hj => by cases hj; omega))⟩
        show Blk _ _ _ _
        rw [HT.out, ← vecB_set _ hq4]
        exact hg.out.set_ q (.bool true)
      case measure => simp [intOf]; omega
    · have hkz : k = zs.length := by omega
      have hg' := hg.out
      rw [hkz, List.take_length] at hg'
      have HG := Lib.hid hg'
      clear hg' hg
      obtain ⟨k0, k1, k2, k3⟩ := four_cells h0.out
      have kl := Blk.lt h0.out
      go_wp2_with fail
      clear k0 k1 k2 k3 kl
      go_loopw [23] (fun i wr => ∃ k : Nat, k ≤ n ∧ i = .int .i64 k ∧ Hid (Blk wr G 39 (vecB (rrounds ss (setL zs) k))) ∧ Hid (Blk wr w.heap.size 30 #[.int .i64 n, .slice A1 x1 c1, .slice A2 x2 c2, .slice A3 ss.length c3]) ∧ Hid (Blk wr R 39 (vecB (fun _ => false))) ∧ Hid (Below w.heap.size w wr)) (fun i _ => n - (intOf i).toNat)
      case atStart => exact ⟨0, Nat.zero_le _, rfl, HG, h0, h1, hb⟩
      case round =>
        clear h0 h1 hb HG hlt hkz hk hGw
        obtain ⟨k, hk, rfl, hg, h0, h1, hb⟩ := hrel
        by_cases hlt : k < n
        · have hk1 : (k : Int) < (n : Int) := by omega
          obtain ⟨k0, k1, k2, k3⟩ := four_cells h0.out
          have kl := Blk.lt h0.out
          obtain ⟨u, hu⟩ : ∃ u, rrounds ss (setL zs) k = u := ⟨_, rfl⟩
          have HU := Lib.hid hu
          rw [hu] at hg
          clear hu
          go_wp2_with fail
          clear k0 k1 k2 k3 kl
          go_loopw [28] (fun i wr => ∃ j : Nat, j ≤ ss.length ∧ i = .int .i64 j ∧ Hid (Blk wr G 39 (vecB ((ss.take j).foldl rstep u))) ∧ Hid (Blk wr w.heap.size 30 #[.int .i64 n, .slice A1 x1 c1, .slice A2 x2 c2, .slice A3 ss.length c3]) ∧ Hid (Blk wr R 39 (vecB (fun _ => false))) ∧ Hid (Below w.heap.size w wr)) (fun i _ => ss.length - (intOf i).toNat)
          case atStart => exact ⟨0, Nat.zero_le _, rfl, hg, h0, h1, hb⟩
          case round =>
            clear h0 h1 hb hg
            obtain ⟨j, hj, rfl, hg, h0, h1, hb⟩ := hrel
            have hGw := Blk.lt hg.out
            by_cases hjt : j < ss.length
            · obtain ⟨b, off, s, e, hbN, hst, hsl, _, hsg⟩ := (HS.out.below hb.out).at_ hjt
              obtain ⟨q0, q1, q2, q3⟩ := hst
              subst e
              have hsm : s ∈ ss := by
                rw [← hsg, List.getD_eq_getElem?_getD, List.getElem?_eq_getElem hjt]; exact List.getElem_mem _
              obtain ⟨p, q, c, e1, p4, e2, q4, e3, c4, _⟩ := stepOk_in (HOK.out s hsm)
              obtain ⟨v, hv⟩ : ∃ v, (ss.take j).foldl rstep u = v := ⟨_, rfl⟩
              rw [hv] at hg
              have HT : Hid ((ss.take (j + 1)).foldl rstep u = rstep v s) := by
                show _ = _
                rw [take_st hjt hsg, List.foldl_append, hv]; rfl
              have hp0 : (0 : Int) ≤ (p : Int) := by omega
              have hp1 : (p : Int) < 4 := by omega
              have hp4 : p < 4 := by omega
              have hq0 : (0 : Int) ≤ (q : Int) := by omega
              have hq1 : (q : Int) < 4 := by omega
              have hq4 : q < 4 := by omega
              have hj0 : (0 : Int) ≤ (j : Int) := by omega
              have hj1 : (j : Int) < (ss.length : Int) := by omega
              rw [e1] at q0
              rw [e2] at q2
              have cp := vecB_cell hg.out hp4
              have cq := vecB_cell hg.out hq4
              have fq := hg.out.frozen q
              have ep : s.fr.toNat = p := by omega
              have eq : s.to_.toNat = q := by omega
              clear hsg hsm hv e1 e2 e3 c4 p4 q4
              by_cases hvp : v p = true
              · have HV : Hid (rstep v s = putB v q true) := by
                  show _ = _
                  unfold rstep 
                  skip
                  rw [ep, eq, if_pos hvp]; rfl
                rw [hvp] at cp
                clear ep eq
                go_wp2_with fail
                have hgs : wr.grownBy (wr.setCell ⟨G, q, none⟩ (.bool true)) (some G) := grow_set wr G _ _
                have hXG : some w.heap.size ≠ some G := fun e => by have := Option.some.inj e; omega
                have hRG : some R ≠ some G := fun e => by have := Option.some.inj e; omega
                have hjB : ∀ j, some G = some j → w.heap.size ≤ j := fun j hj => by have := Option.some.inj hj; omega
                go_roundw
                case rel =>
                  refine ⟨j + 1, by omega, by go_num, ?_, Lib.hid ((Blk.stay h0.out hgs hXG).alloc _), Lib.hid ((Blk.stay h1.out hgs hRG).alloc _), Lib.hid (below_al (hb.out.grown hgs hb.out.size hjB) (Nat.le_refl _) _)⟩
                  show Blk _ _ _ _
                  rw [HT.out, HV.out, ← vecB_set _ hq4]
                  exact Blk.alloc (Blk.set_ hg.out q (.bool true)) _
                case measure => simp [intOf]; omega
              · have hvf : v p = false := by simpa using hvp
                have HV : Hid (rstep v s = v) := by
                  show _ = _
                  unfold rstep 
                  skip
                  rw [ep, if_neg hvp]
                rw [hvf] at cp
                clear ep eq hvp
                go_wp2_with fail
                go_roundw
                case rel =>
                  refine ⟨j + 1, by omega, by go_num, ?_, Lib.hid (h0.out.alloc _), Lib.hid (h1.out.alloc _), Lib.hid (below_al hb.out (Nat.le_refl _) _)⟩
                  show Blk _ _ _ _
                  rw [HT.out, HV.out]
                  exact Blk.alloc hg.out _
                case measure => simp [intOf]; omega
            · have hjl : j = ss.length := by omega
              have hg' := hg.out
              rw [hjl, List.take_of_length_le (by simp)] at hg'
              have HG := Lib.hid hg'
              clear hg' hg
              go_wp2_with fail
              go_roundw
              case rel =>
                refine ⟨k + 1, by omega, by go_num, ?_, h0, h1, hb⟩
                show Blk _ _ _ (vecB (rround ss (rrounds ss (setL zs) k)))
                rw [HU.out]
                exact HG.out
              case measure => simp [intOf]; omega
        · have hkn : k = n := by omega
          subst hkn
          obtain ⟨r, hr⟩ : ∃ r, rrounds ss (setL zs) k = r := ⟨_, rfl⟩
          rw [hr] at hg
          have HRR := Lib.hid hr
          have H1 := Lib.hid h1.out
          clear hr
          obtain ⟨c0, c1', c2', c3'⟩ := four_cells hg.out
          obtain ⟨d0, d1, d2, d3⟩ := four_cells H1.out
          obtain ⟨f0, f1, f2, f3⟩ := four_frozen H1.out
          go_wp2_with fail
          have HF4 := ((((H1.out.set_ 0 (.bool (r 0))).set_ 1 (.bool (r 1))).set_ 2 (.bool (r 2))).set_ 3 (.bool (r 3)))
          refine bodyPost_ret (results_1 rfl (Gives.row (g := R) rfl HF4 Try.underlying39 rfl (by kernel_rfl))) rfl ?_
          exact ⟨by rw [HRR.out]; rfl, hb.out.grown (four_grow_ _ _ _ _ _ _) hb.out.size (fun j hj => by cases hj; omega)⟩

theorem l3Reach_back (n x1 x2 c1 c2 c3 cap : Nat) (A1 A2 A3 A : Option Addr) (zs : List Int) (ss : List StepD) (w : World) (n2 : n ≤ 4) (hz : Ints w w.heap.size A zs) (hs : SRow w w.heap.size A3 ss) (hzi : ∀ z ∈ zs, 0 ≤ z ∧ z < (n : Int)) (hok : ∀ s ∈ ss, stepOk n s = true) :
    Calls Try.prog 16 #[.agg #[.int .i64 n, .slice A1 x1 c1, .slice A2 x2 c2, .slice A3 ss.length c3], .slice A zs.length cap, .bool true] w fun e w' => e = .returned (.agg (vecB (rrounds (ss.map swS) (setL zs) n))) ∧ Hid (Below w.heap.size w w') := by
  have K0 : Hid (Blk (((w.alloc (.cells #[.int .i64 n, .slice A1 x1 c1, .slice A2 x2 c2, .slice A3 ss.length c3] 30)).alloc (.cells (vecB (fun _ => false)) 39)).alloc (.cells (vecB (fun _ => false)) 39)) w.heap.size 30 #[.int .i64 n, .slice A1 x1 c1, .slice A2 x2 c2, .slice A3 ss.length c3]) := ((Blk.new w _ _).alloc _).alloc _
  have K1 : Hid (Blk (((w.alloc (.cells #[.int .i64 n, .slice A1 x1 c1, .slice A2 x2 c2, .slice A3 ss.length c3] 30)).alloc (.cells (vecB (fun _ => false)) 39)).alloc (.cells (vecB (fun _ => false)) 39)) (w.heap.size + 1) 39 (vecB (fun _ => false))) := (blk_new (by simp)).alloc _
  have K2 : Hid (Blk (((w.alloc (.cells #[.int .i64 n, .slice A1 x1 c1, .slice A2 x2 c2, .slice A3 ss.length c3] 30)).alloc (.cells (vecB (fun _ => false)) 39)).alloc (.cells (vecB (fun _ => false)) 39)) (w.heap.size + 1 + 1) 39 (vecB (fun _ => false))) := blk_new (by simp)
  have B0 := Lib.hid (below_a3 w (.cells #[.int .i64 n, .slice A1 x1 c1, .slice A2 x2 c2, .slice A3 ss.length c3] 30) (.cells (vecB (fun _ => false)) 39) (.cells (vecB (fun _ => false)) 39))
  have HZ := Lib.hid hz
  have HS := Lib.hid hs
  have HZI := Lib.hid hzi
  have HOK := Lib.hid hok
  have lz := hz.len
  have ls := hs.1
  clear hz hs hzi hok
  have ev : (#[.bool false, .bool false, .bool false, .bool false] : Array Value) = vecB (fun _ => false) := rfl
  go_enter Try.func16, Try.ntmps16
  go_wp2_with fail
  try rw [ev]
  obtain ⟨w3, hw3⟩ : ∃ w3, w3 = ((w.alloc (.cells #[.int .i64 n, .slice A1 x1 c1, .slice A2 x2 c2, .slice A3 ss.length c3] 30)).alloc (.cells (vecB (fun _ => false)) 39)).alloc (.cells (vecB (fun _ => false)) 39) := ⟨_, rfl⟩
  rw [← hw3] at K0 K1 K2 B0
  try rw [← hw3]
  obtain ⟨R, hR⟩ : ∃ R, R = w.heap.size + 1 := ⟨_, rfl⟩
  obtain ⟨G, hG⟩ : ∃ G, G = w.heap.size + 1 + 1 := ⟨_, rfl⟩
  rw [← hG] at K2 ⊢
  rw [← hR] at K1 ⊢
  have hRw : w.heap.size < R := by omega
  have hGR : R < G := by omega
  clear hR hG hw3 ev
  go_loopw [14] (fun i wr => ∃ k : Nat, k ≤ zs.length ∧ i = .int .i64 k ∧ Hid (Blk wr G 39 (vecB (setL (zs.take k)))) ∧ Hid (Blk wr w.heap.size 30 #[.int .i64 n, .slice A1 x1 c1, .slice A2 x2 c2, .slice A3 ss.length c3]) ∧ Hid (Blk wr R 39 (vecB (fun _ => false))) ∧ Hid (Below w.heap.size w wr)) (fun i _ => zs.length - (intOf i).toNat)
  case atStart => exact ⟨0, Nat.zero_le _, rfl, K2, K0, K1, B0⟩
  case round =>
    obtain ⟨k, hk, rfl, hg, h0, h1, hb⟩ := hrel
    have hGw := Blk.lt hg.out
    by_cases hlt : k < zs.length
    · obtain ⟨b, off, z, rfl, hbB, hc, hd, hgz⟩ := (HZ.out.below hb.out).at_ hlt
      obtain ⟨z0, z1⟩ := HZI.out z (getD_mem hlt hgz)
      obtain ⟨q, rfl⟩ : ∃ q : Nat, z = (q : Int) := ⟨z.toNat, by omega⟩
      have hq4 : q < 4 := by omega
      have hq0 : (0 : Int) ≤ (q : Int) := by omega
      have hq1 : (q : Int) < 4 := by omega
      have hk0 : (0 : Int) ≤ (k : Int) := by omega
      have hk1 : (k : Int) < (zs.length : Int) := by omega
      have hcell := vecB_cell hg.out hq4
      have hfr := hg.out.frozen q
      have HT : Hid (setL (zs.take (k + 1)) = putB (setL (zs.take k)) q true) := setL_take hlt hgz
      clear hd hgz z0 z1
      go_wp2_with fail
      have hgs : wr.grownBy (wr.setCell ⟨G, q, none⟩ (.bool true)) (some G) := grow_set wr G q _
      go_roundw
      case rel =>
        refine ⟨k + 1, by omega, by go_num, ?_, Lib.hid (h0.out.stay hgs (by intro e; cases e; omega)), Lib.hid (h1.out.stay hgs (by intro e; cases e; omega)), Lib.hid (hb.out.grown hgs hb.out.size (fun j hj => by cases hj; omega))⟩
        show Blk _ _ _ _
        rw [HT.out, ← vecB_set _ hq4]
        exact hg.out.set_ q (.bool true)
      case measure => simp [intOf]; omega
    · have hkz : k = zs.length := by omega
      have hg' := hg.out
      rw [hkz, List.take_length] at hg'
      have HG := Lib.hid hg'
      clear hg' hg
      obtain ⟨k0, k1, k2, k3⟩ := four_cells h0.out
      have kl := Blk.lt h0.out
      go_wp2_with fail
      clear k0 k1 k2 k3 kl
      go_loopw [23] (fun i wr => ∃ k : Nat, k ≤ n ∧ i = .int .i64 k ∧ Hid (Blk wr G 39 (vecB (rrounds (ss.map swS) (setL zs) k))) ∧ Hid (Blk wr w.heap.size 30 #[.int .i64 n, .slice A1 x1 c1, .slice A2 x2 c2, .slice A3 ss.length c3]) ∧ Hid (Blk wr R 39 (vecB (fun _ => false))) ∧ Hid (Below w.heap.size w wr)) (fun i _ => n - (intOf i).toNat)
      case atStart => exact ⟨0, Nat.zero_le _, rfl, HG, h0, h1, hb⟩
      case round =>
        clear h0 h1 hb HG hlt hkz hk hGw
        obtain ⟨k, hk, rfl, hg, h0, h1, hb⟩ := hrel
        by_cases hlt : k < n
        · have hk1 : (k : Int) < (n : Int) := by omega
          obtain ⟨k0, k1, k2, k3⟩ := four_cells h0.out
          have kl := Blk.lt h0.out
          obtain ⟨u, hu⟩ : ∃ u, rrounds (ss.map swS) (setL zs) k = u := ⟨_, rfl⟩
          have HU := Lib.hid hu
          rw [hu] at hg
          clear hu
          go_wp2_with fail
          clear k0 k1 k2 k3 kl
          go_loopw [28] (fun i wr => ∃ j : Nat, j ≤ ss.length ∧ i = .int .i64 j ∧ Hid (Blk wr G 39 (vecB (((ss.map swS).take j).foldl rstep u))) ∧ Hid (Blk wr w.heap.size 30 #[.int .i64 n, .slice A1 x1 c1, .slice A2 x2 c2, .slice A3 ss.length c3]) ∧ Hid (Blk wr R 39 (vecB (fun _ => false))) ∧ Hid (Below w.heap.size w wr)) (fun i _ => ss.length - (intOf i).toNat)
          case atStart => exact ⟨0, Nat.zero_le _, rfl, hg, h0, h1, hb⟩
          case round =>
            clear h0 h1 hb hg
            obtain ⟨j, hj, rfl, hg, h0, h1, hb⟩ := hrel
            have hGw := Blk.lt hg.out
            by_cases hjt : j < ss.length
            · obtain ⟨b, off, s, e, hbN, hst, hsl, _, hsg⟩ := (HS.out.below hb.out).at_ hjt
              obtain ⟨q0, q1, q2, q3⟩ := hst
              subst e
              have hsm : s ∈ ss := by
                rw [← hsg, List.getD_eq_getElem?_getD, List.getElem?_eq_getElem hjt]; exact List.getElem_mem _
              obtain ⟨p, q, c, e1, p4, e2, q4, e3, c4, _⟩ := stepOk_in (HOK.out s hsm)
              obtain ⟨v, hv⟩ : ∃ v, ((ss.map swS).take j).foldl rstep u = v := ⟨_, rfl⟩
              rw [hv] at hg
              have HT : Hid (((ss.map swS).take (j + 1)).foldl rstep u = rstep v (swS s)) := by
                show _ = _
                rw [← List.map_take, take_st hjt hsg, List.map_append, List.foldl_append, List.map_take, hv]; rfl
              have hp0 : (0 : Int) ≤ (p : Int) := by omega
              have hp1 : (p : Int) < 4 := by omega
              have hp4 : p < 4 := by omega
              have hq0 : (0 : Int) ≤ (q : Int) := by omega
              have hq1 : (q : Int) < 4 := by omega
              have hq4 : q < 4 := by omega
              have hj0 : (0 : Int) ≤ (j : Int) := by omega
              have hj1 : (j : Int) < (ss.length : Int) := by omega
              rw [e1] at q0
              rw [e2] at q2
              have cp := vecB_cell hg.out hp4
              have cq := vecB_cell hg.out hq4
              have fq := hg.out.frozen p
              have ep : s.fr.toNat = p := by omega
              have eq : s.to_.toNat = q := by omega
              clear hsg hsm hv e1 e2 e3 c4 p4 q4
              by_cases hvp : v q = true
              · have HV : Hid (rstep v (swS s) = putB v p true) := by
                  show _ = _
                  unfold rstep swS
                  dsimp only
                  rw [ep, eq, if_pos hvp]; rfl
                rw [hvp] at cq
                clear ep eq
                go_wp2_with fail
                have hgs : wr.grownBy (wr.setCell ⟨G, p, none⟩ (.bool true)) (some G) := grow_set wr G _ _
                have hXG : some w.heap.size ≠ some G := fun e => by have := Option.some.inj e; omega
                have hRG : some R ≠ some G := fun e => by have := Option.some.inj e; omega
                have hjB : ∀ j, some G = some j → w.heap.size ≤ j := fun j hj => by have := Option.some.inj hj; omega
                go_roundw
                case rel =>
                  refine ⟨j + 1, by omega, by go_num, ?_, Lib.hid ((Blk.stay h0.out hgs hXG).alloc _), Lib.hid ((Blk.stay h1.out hgs hRG).alloc _), Lib.hid (below_al (hb.out.grown hgs hb.out.size hjB) (Nat.le_refl _) _)⟩
                  show Blk _ _ _ _
                  rw [HT.out, HV.out, ← vecB_set _ hp4]
                  exact Blk.alloc (Blk.set_ hg.out p (.bool true)) _
                case measure => simp [intOf]; omega
              · have hvf : v q = false := by simpa using hvp
                have HV : Hid (rstep v (swS s) = v) := by
                  show _ = _
                  unfold rstep swS
                  dsimp only
                  rw [eq, if_neg hvp]
                rw [hvf] at cq
                clear ep eq hvp
                go_wp2_with fail
                go_roundw
                case rel =>
                  refine ⟨j + 1, by omega, by go_num, ?_, Lib.hid (h0.out.alloc _), Lib.hid (h1.out.alloc _), Lib.hid (below_al hb.out (Nat.le_refl _) _)⟩
                  show Blk _ _ _ _
                  rw [HT.out, HV.out]
                  exact Blk.alloc hg.out _
                case measure => simp [intOf]; omega
            · have hjl : j = ss.length := by omega
              have hg' := hg.out
              rw [hjl, List.take_of_length_le (by simp)] at hg'
              have HG := Lib.hid hg'
              clear hg' hg
              go_wp2_with fail
              go_roundw
              case rel =>
                refine ⟨k + 1, by omega, by go_num, ?_, h0, h1, hb⟩
                show Blk _ _ _ (vecB (rround (ss.map swS) (rrounds (ss.map swS) (setL zs) k)))
                rw [HU.out]
                exact HG.out
              case measure => simp [intOf]; omega
        · have hkn : k = n := by omega
          subst hkn
          obtain ⟨r, hr⟩ : ∃ r, rrounds (ss.map swS) (setL zs) k = r := ⟨_, rfl⟩
          rw [hr] at hg
          have HRR := Lib.hid hr
          have H1 := Lib.hid h1.out
          clear hr
          obtain ⟨c0, c1', c2', c3'⟩ := four_cells hg.out
          obtain ⟨d0, d1, d2, d3⟩ := four_cells H1.out
          obtain ⟨f0, f1, f2, f3⟩ := four_frozen H1.out
          go_wp2_with fail
          have HF4 := ((((H1.out.set_ 0 (.bool (r 0))).set_ 1 (.bool (r 1))).set_ 2 (.bool (r 2))).set_ 3 (.bool (r 3)))
          refine bodyPost_ret (results_1 rfl (Gives.row (g := R) rfl HF4 Try.underlying39 rfl (by kernel_rfl))) rfl ?_
          exact ⟨by rw [HRR.out]; rfl, hb.out.grown (four_grow_ _ _ _ _ _ _) hb.out.size (fun j hj => by cases hj; omega)⟩
end Go.Proofs.Ytjnbdpejgbbfdaa
