/- The matrix of the steps by a letter, the program's out of its map and the model's out of the steps: the plain function of their numbers, in new memory; nothing that was there changes. Conditions: one to four states, steps between them. StepMatrix, the program's and the model's: the plain function of the automaton and the letter, in new memory; nothing that was there changes. No condition. -/
import Derived.Test.YtfdbbopanankgaaDoorMach2
import Derived.Test.YtfdbbopanankgaaDoorSpecMin
import Derived.Test.YtfdbbopanankgaaDoorAutS
import Derived.Test.YtfdbbopanankgaaDoorCopyM
namespace Go.Proofs.YtfdbbopanankgaaDoor
open Go.RowKit
set_option maxHeartbeats 2000000
set_option maxRecDepth 100000
set_option linter.unusedVariables false

def cellF (F : Int → ByteArray → Int → Option Int) (l : ByteArray) : MF := fun i k => (F i l k).getD 1000000
def stepL (n : Nat) (ss : List StepD) (l : ByteArray) : List Int := ofF n (cellF (costAt ss) l)
theorem stepL_len (n : Nat) (ss : List StepD) (l : ByteArray) : (stepL n ss l).length = n * n := ofF_len _ _
theorem ofF_at {n i k : Nat} (f : MF) (hi : i < n) (hk : k < n) : (ofF n f).getD (i * n + k) 0 = f i k := cel_ofF f hi hk

theorem updC_same {F : Int → ByteArray → Int → Option Int} {f t c : Int} {l : ByteArray} : updC F f l t c f l t = some c := by unfold updC; rw [if_pos ⟨rfl, rfl, rfl⟩]
theorem updC_other {F : Int → ByteArray → Int → Option Int} {f t c f' t' : Int} {l l' : ByteArray} (h : ¬ (f' = f ∧ l'.data = l.data ∧ t' = t)) : updC F f l t c f' l' t' = F f' l' t' := by unfold updC; rw [if_neg h]
theorem cell_set {cs : List Int} {F : Int → ByteArray → Int → Option Int} {n p i k : Nat} {c : Int} {l : ByteArray} (hp : p = n * n) (hl : cs.length = p) (hi : i < n) (hk : k < n)
    (h : ∀ a b : Nat, a < n → b < n → cs.getD (a * n + b) 0 = cellF F l a b) : ∀ a b : Nat, a < n → b < n → (cs.set (i * n + k) c).getD (a * n + b) 0 = cellF (updC F i l k c) l a b := by
  intro a b ha hb
  rw [getD_set _ _ _ _ (by rw [hl, hp]; exact at_lt hi hk)]
  unfold cellF
  by_cases e : a = i ∧ b = k
  · obtain ⟨rfl, rfl⟩ := e
    rw [if_pos rfl, updC_same]; rfl
  · rw [if_neg, updC_other]
    · exact h a b ha hb
    · rintro ⟨h1, _, h2⟩
      exact e ⟨by omega, by omega⟩
    · intro he
      have h1 := congrArg (· / n) he
      have h2 := congrArg (· % n) he
      simp only [at_div hb, at_div hk, at_mod hb, at_mod hk] at h1 h2
      exact e ⟨h1, h2⟩
theorem cell_skip {cs : List Int} {F : Int → ByteArray → Int → Option Int} {n i k : Nat} {c : Int} {l l' : ByteArray} (hne : ¬ l.data = l'.data)
    (h : ∀ a b : Nat, a < n → b < n → cs.getD (a * n + b) 0 = cellF F l a b) : ∀ a b : Nat, a < n → b < n → cs.getD (a * n + b) 0 = cellF (updC F i l' k c) l a b := by
  intro a b ha hb
  unfold cellF
  rw [updC_other (fun he => hne he.2.1)]
  exact h a b ha hb

theorem grow_far {w w' : World} {r : Option Nat} (h : w.grownBy w' r) (g i : Nat) (v : Value) (hg : w.heap.size ≤ g) : w.grownBy (w'.setCell ⟨g, i, none⟩ v) r := by
  have s := grow_set w' g i v
  exact ⟨s.os.trans h.os, s.tape.trans h.tape, s.output.trans h.output, Nat.le_trans h.size s.size, fun j hj hne => (s.block j (Nat.lt_of_lt_of_le hj h.size) (fun e => by cases e; omega)).trans (h.block j hj hne)⟩
theorem l3Matrix_any (n x1 x2 c1 c2 c3 : Nat) (A1 A2 A3 : Option Addr) (ss : List StepD) (l : ByteArray) (zs : List Int) (w : World) (n1 : 1 ≤ n) (n2 : n ≤ 4) (hs : SRow w w.heap.size A3 ss) (hok : ∀ s ∈ ss, stepOk n s = true) (hl : IsL l) (hz : zs = stepL n ss l) :
    Calls Tryd.prog 53 #[.agg #[.int .i64 n, .slice A1 x1 c1, .slice A2 x2 c2, .slice A3 ss.length c3], .string l] w fun e w' => ∃ v, e = .returned v ∧ MatOwn w' w.heap.size v n zs ∧ Below w.heap.size w w' := by
  obtain ⟨p, hp⟩ : ∃ p, p = n * n := ⟨_, rfl⟩
  have p1 : p ≤ 16 := by
    rw [hp]
    calc n * n ≤ 4 * 4 := Nat.mul_le_mul n2 n2
      _ = 16 := rfl
  have p0 : 1 ≤ p := by
    rw [hp]
    calc 1 = 1 * 1 := rfl
      _ ≤ n * n := Nat.mul_le_mul n1 n1
  have h1 : wrap64 ((n : Int) * (n : Int)) = (p : Int) := by rw [← Int.natCast_mul, ← hp]; exact w64_nat (by omega)
  have hlen := hs.1
  have HP := Lib.hid hp
  have HS := Lib.hid hs
  have HOK := Lib.hid hok
  have HZ := Lib.hid hz
  obtain ⟨i0, hi, hz0, hz1, hz2⟩ := info_parts info_int
  have Z0 := Lib.hid hz0
  have Z1 := Lib.hid hz1
  have Z2 := Lib.hid hz2
  have ZI := Lib.hid hi
  clear hp hs hok hz hz0 hz1 hz2 hi
  go_enter Tryd.func53, Tryd.ntmps53
  go_wp2_with fail
  obtain ⟨V, hV⟩ : ∃ V, V = w.heap.size + 1 + 1 := ⟨_, rfl⟩
  obtain ⟨w2, hw2⟩ : ∃ w2, w2 = ((w.alloc (.cells #[.int .i64 n, .slice A1 x1 c1, .slice A2 x2 c2, .slice A3 ss.length c3] 26)).alloc (.cells #[.int .i64 0, .slice none 0 0] 80)).alloc (.cells #[.int .i64 n, .slice none 0 0] 80) := ⟨_, rfl⟩
  have P2 : Hid (Blk w2 w.heap.size 26 #[.int .i64 n, .slice A1 x1 c1, .slice A2 x2 c2, .slice A3 ss.length c3]) := by rw [hw2]; exact ((Blk.new _ _ _).alloc _).alloc _
  have R2 : Hid (Blk w2 (w.heap.size + 1) 80 #[.int .i64 0, .slice none 0 0]) := by rw [hw2]; exact (blk_new (by simp)).alloc _
  have V2 : Hid (Blk w2 V 80 #[.int .i64 n, .slice none 0 0]) := by rw [hw2, hV]; exact blk_new (by simp)
  have B2 : Hid (Below w.heap.size w w2) := by rw [hw2]; exact below_a3 _ _ _ _
  have hVw : w.heap.size + 1 < V := by omega
  have hs2 : V < w2.heap.size := Blk.lt V2.out
  rw [← hw2, ← hV, h1]
  clear hw2 hV h1
  have HU : Hid (∀ q, q < p → (List.replicate p (1000000 : Int)).getD q 0 = 1000000) := fun q hq => by rw [List.getD_eq_getElem?_getD, List.getElem?_replicate, if_pos hq]; rfl
  obtain ⟨us, hus⟩ : ∃ us, us = List.replicate p (1000000 : Int) := ⟨_, rfl⟩
  have HUL : Hid (us.length = p) := by show _ = _; rw [hus]; simp
  rw [← hus] at HU
  clear hus
  go_loopw [16] (fun i wr => ∃ (k : Nat) (A : Option Addr) (cap : Nat), k ≤ p ∧ i = .int .i64 k ∧ Hid (Blk wr V 80 #[.int .i64 n, .slice A k cap]) ∧ Hid (wr.ownsRow w2.heap.size 3 1 (.slice A k cap) k ((us.take k).map (Value.int .i64))) ∧ Hid (w2.grownBy wr (some V))) (fun i _ => p - (intOf i).toNat)
  case atStart => exact ⟨0, none, 0, Nat.zero_le _, rfl, V2, World.ownsRow_nil _ _ _ _, World.grownBy.refl _ _⟩
  case round =>
    obtain ⟨k, A, cap, hk, rfl, hv, hown, hg⟩ := hrel
    by_cases hlt : k < p
    · have HZK := Lib.hid (HU.out k hlt)
      obtain ⟨a0, a1⟩ := two_cells hv.out
      go_wp2_with (at_builtin; refine wpList_append_own _ rfl _ _ 23 rfl w2.heap.size 3 i0 (.int .i64 0) 1 8 Tryd.underlying23 ZI.out Z0.out Z1.out Z2.out rfl (by decide) _ _ _ rfl (hown.out.alloc _) ⟨_, 0, none⟩ 1 1 [.int .i64 1000000] rfl rfl ?c1 ?c2 ?c3 ?c4 ?c5 ?_)
      case c1 => exact lit_cell wr 0 _ _
      case c2 => intro u hu; simp at hu; subst hu; rfl
      case c3 => unfold maxLen; omega
      case c4 => omega
      case c5 => have := hg.out.size; simp; omega
      · intro v' w5 hown' hgrow _
        have hrow : ∀ j', (Value.slice A k cap).ownBlock = some j' → w2.heap.size ≤ j' := fun j' hj' => (hown.out.lt j' hj').1
        have G5 := Lib.hid (app_grown (m := 0) hg.out hgrow hrow)
        have V5 := Lib.hid (app_blk (m := 0) hv.out hgrow hs2 hrow)
        have hl1 : ((us.take k) ++ [1000000]).length = k + 1 := by have := HUL.out; simp; omega
        have hown5 := own_cast hown' hl1.symm (show _ = ((us.take k) ++ [1000000]).map (Value.int .i64) by rw [← List.map_take, int_snoc])
        obtain ⟨A5, cap5, rfl⟩ := slice_own hown5 (by rw [hl1]; unfold maxLen; omega)
        have hown6 := own_cast hown' rfl (show _ = ((us.take (k + 1)).map (Value.int .i64)) by rw [← List.map_take, take_snoc (by have := HUL.out; omega) HZK.out, int_snoc])
        rw [hl1] at hown6 ⊢
        obtain ⟨x0, x1⟩ := two_cells V5.out
        obtain ⟨f0, f1⟩ := two_frozen V5.out
        have V6 := Lib.hid (V5.out.set_ 1 (.slice A5 (k + 1) cap5))
        have O6 := Lib.hid (own_far hown6 (grow_set w5 V 1 (.slice A5 (k + 1) cap5)) hs2)
        have G6 := Lib.hid (grow_trans G5.out (grow_set w5 V 1 (.slice A5 (k + 1) cap5)))
        clear hown' hgrow hown5 hown6 hrow a0 a1
        go_wp2_with fail
        go_roundw
        case rel => exact ⟨k + 1, A5, cap5, by omega, by go_num, V6, O6, G6⟩
        case measure => simp [intOf]; omega
    · obtain rfl : p = k := by omega
      have HO : Hid (wr.ownsRow w2.heap.size 3 1 (.slice A p cap) p (us.map (Value.int .i64))) := by
        have h := hown.out
        rw [List.take_of_length_le (by have := HUL.out; omega)] at h
        exact h
      obtain ⟨g, hgA, hgs⟩ : ∃ g, A = some ⟨g, 0, none⟩ ∧ w2.heap.size ≤ g := by
        rcases HO.out.2 with ⟨h0, hx⟩ | ⟨g, c, cur, h0, hb, _⟩
        · exfalso; have := HO.out.1; have h3 := HUL.out; rw [← List.length_map (f := Value.int .i64), hx] at h3; simp at h3; omega
        · cases h0; exact ⟨g, rfl, hb⟩
      subst hgA
      have P3 := Lib.hid (P2.out.grown hg.out (by omega))
      obtain ⟨q0, q1, q2, q3⟩ := four_cells P3.out
      have HC0 : Hid (∀ a b : Nat, a < n → b < n → us.getD (a * n + b) 0 = cellF (costAt (ss.take 0)) l a b) := fun a b ha hb => HU.out _ (by rw [HP.out]; exact at_lt ha hb)
      clear hown hk
      go_wp2_with fail
      go_loopw [27] (fun i wq => ∃ (j : Nat) (cs : List Int), j ≤ ss.length ∧ i = .int .i64 j ∧ Hid (cs.length = p) ∧ Hid (∀ a b : Nat, a < n → b < n → cs.getD (a * n + b) 0 = cellF (costAt (ss.take j)) l a b) ∧ Hid (Blk wq V 80 #[.int .i64 n, .slice (some ⟨g, 0, none⟩) p cap]) ∧ Hid (wq.ownsRow w2.heap.size 3 1 (.slice (some ⟨g, 0, none⟩) p cap) p (cs.map (Value.int .i64))) ∧ Hid (w2.grownBy wq (some V))) (fun i _ => ss.length - (intOf i).toNat)
      case atStart => exact ⟨0, us, Nat.zero_le _, rfl, HUL, HC0, hv, HO, hg⟩
      case round =>
        clear hv HO hg P3 q0 q1 q2 q3
        obtain ⟨j, cs, hj, rfl, hcl, hcs, hv, hown, hg⟩ := hrel
        by_cases hjl : j < ss.length
        · obtain ⟨b, off, s, rfl, hbB, hat, hsz, _, hgs⟩ := HS.out.at_ hjl
          have HT := Lib.hid (costAt_take hjl hgs)
          have hmem : s ∈ ss := by
            have h := hgs
            rw [List.getD_eq_getElem?_getD, List.getElem?_eq_getElem hjl] at h
            simp at h; rw [← h]; exact List.getElem_mem _
          obtain ⟨i, k, c, e1, hi, e2, hk, e3, hc, hle⟩ := stepOk_in (HOK.out s hmem)
          obtain ⟨fr, le, tt, co⟩ := s
          dsimp only at e1 e2 e3 hle HT
          subst e1 e2 e3
          have hB := B2.out.grown hg.out B2.out.size (fun i hi => by cases hi; omega)
          obtain ⟨s0, s1, s2, s3⟩ := hat.below hB hbB
          dsimp only at s0 s1 s2 s3
          have hVq := Blk.lt hv.out
          have hgq : g < wr.heap.size := (hown.out.lt g rfl).2
          have hwr : w.heap.size < wr.heap.size := by omega
          have P3 := P2.out.grown hg.out (by omega)
          have pc0 := P3.cell 0
          have pc3 := P3.cell 3
          simp at pc0 pc3
          obtain ⟨a0, a1⟩ := two_cells hv.out
          have hi0 : (0 : Int) ≤ (j : Int) := by omega
          have hi1 : (j : Int) < (ss.length : Int) := by omega
          obtain ⟨x, hx⟩ : ∃ x, x = i * n := ⟨_, rfl⟩
          obtain ⟨y, hy⟩ : ∃ y, y = x + k := ⟨_, rfl⟩
          have hyp : y < p := by rw [hy, hx, HP.out]; exact at_lt hi hk
          have e1 : wrap64 ((i : Int) * (n : Int)) = (x : Int) := by rw [← Int.natCast_mul, ← hx]; exact w64_nat (by omega)
          have e2 : (x : Int) + (k : Int) = (y : Int) := by omega
          have j0 : (0 : Int) ≤ (y : Int) := by omega
          have j1 : (y : Int) < (p : Int) := by omega
          have HY : Hid (i * n + k = y) := by show _ = _; rw [hy, hx]
          clear hB hat hgs hmem P3 hx hy
          rcases hle with rfl | rfl
          · rcases hl with rfl | rfl
            · have hq0 : wr.cell? ⟨g, y, none⟩ = some (.int .i64 (cs.getD y 0)) := by
                rw [hown.out.cellAt y (by omega), List.getElem?_map, List.getD_eq_getElem?_getD, List.getElem?_eq_getElem (by rw [hcl.out]; exact hyp)]; rfl
              have hq1 : wr.frozen? ⟨g, y, none⟩ = false := hown.out.frozenAt y
              have HCL : Hid ((cs.set y (c : Int)).length = p) := by show _ = _; rw [List.length_set]; exact hcl.out
              have HCS : Hid (∀ a b : Nat, a < n → b < n → (cs.set y (c : Int)).getD (a * n + b) 0 = cellF (costAt (ss.take (j + 1))) ⟨#[97]⟩ a b) := by
                show ∀ a b : Nat, a < n → b < n → _
                rw [HT.out, ← HY.out]
                exact cell_set HP.out hcl.out hi hk hcs.out
              have HO := Lib.hid ((own_cast (hown.out.stored y (.int .i64 c)).1 rfl (List.map_set).symm).alloc (.cells #[.int .i64 i, .string ⟨#[97]⟩, .int .i64 k, .int .i64 c] 75))
              have HV := Lib.hid ((hv.out.other g y (.int .i64 c) (by omega)).alloc (.cells #[.int .i64 i, .string ⟨#[97]⟩, .int .i64 k, .int .i64 c] 75))
              have HG := Lib.hid (grow_trans (grow_far hg.out g y (.int .i64 c) hgs) (World.grownBy_alloc _ (.cells #[.int .i64 i, .string ⟨#[97]⟩, .int .i64 k, .int .i64 c] 75) (some V)))
              clear hcl hcs hown hv hg
              go_wp2_with fail
              go_roundw
              case rel => exact ⟨j + 1, cs.set y (c : Int), by omega, by go_num, HCL, HCS, HV, HO, HG⟩
              case measure => simp [intOf]; omega
            · have HCS : Hid (∀ a b : Nat, a < n → b < n → cs.getD (a * n + b) 0 = cellF (costAt (ss.take (j + 1))) ⟨#[98]⟩ a b) := by
                show ∀ a b : Nat, a < n → b < n → _
                rw [HT.out]
                exact cell_skip (by decide) hcs.out
              have HO := Lib.hid (hown.out.alloc (.cells #[.int .i64 i, .string ⟨#[97]⟩, .int .i64 k, .int .i64 c] 75))
              have HV := Lib.hid (hv.out.alloc (.cells #[.int .i64 i, .string ⟨#[97]⟩, .int .i64 k, .int .i64 c] 75))
              have HG := Lib.hid (grow_trans hg.out (World.grownBy_alloc wr (.cells #[.int .i64 i, .string ⟨#[97]⟩, .int .i64 k, .int .i64 c] 75) (some V)))
              clear hcs hown hv hg
              go_wp2_with fail
              go_roundw
              case rel => exact ⟨j + 1, cs, by omega, by go_num, hcl, HCS, HV, HO, HG⟩
              case measure => simp [intOf]; omega
          · rcases hl with rfl | rfl
            · have HCS : Hid (∀ a b : Nat, a < n → b < n → cs.getD (a * n + b) 0 = cellF (costAt (ss.take (j + 1))) ⟨#[97]⟩ a b) := by
                show ∀ a b : Nat, a < n → b < n → _
                rw [HT.out]
                exact cell_skip (by decide) hcs.out
              have HO := Lib.hid (hown.out.alloc (.cells #[.int .i64 i, .string ⟨#[98]⟩, .int .i64 k, .int .i64 c] 75))
              have HV := Lib.hid (hv.out.alloc (.cells #[.int .i64 i, .string ⟨#[98]⟩, .int .i64 k, .int .i64 c] 75))
              have HG := Lib.hid (grow_trans hg.out (World.grownBy_alloc wr (.cells #[.int .i64 i, .string ⟨#[98]⟩, .int .i64 k, .int .i64 c] 75) (some V)))
              clear hcs hown hv hg
              go_wp2_with fail
              go_roundw
              case rel => exact ⟨j + 1, cs, by omega, by go_num, hcl, HCS, HV, HO, HG⟩
              case measure => simp [intOf]; omega
            · have hq0 : wr.cell? ⟨g, y, none⟩ = some (.int .i64 (cs.getD y 0)) := by
                rw [hown.out.cellAt y (by omega), List.getElem?_map, List.getD_eq_getElem?_getD, List.getElem?_eq_getElem (by rw [hcl.out]; exact hyp)]; rfl
              have hq1 : wr.frozen? ⟨g, y, none⟩ = false := hown.out.frozenAt y
              have HCL : Hid ((cs.set y (c : Int)).length = p) := by show _ = _; rw [List.length_set]; exact hcl.out
              have HCS : Hid (∀ a b : Nat, a < n → b < n → (cs.set y (c : Int)).getD (a * n + b) 0 = cellF (costAt (ss.take (j + 1))) ⟨#[98]⟩ a b) := by
                show ∀ a b : Nat, a < n → b < n → _
                rw [HT.out, ← HY.out]
                exact cell_set HP.out hcl.out hi hk hcs.out
              have HO := Lib.hid ((own_cast (hown.out.stored y (.int .i64 c)).1 rfl (List.map_set).symm).alloc (.cells #[.int .i64 i, .string ⟨#[98]⟩, .int .i64 k, .int .i64 c] 75))
              have HV := Lib.hid ((hv.out.other g y (.int .i64 c) (by omega)).alloc (.cells #[.int .i64 i, .string ⟨#[98]⟩, .int .i64 k, .int .i64 c] 75))
              have HG := Lib.hid (grow_trans (grow_far hg.out g y (.int .i64 c) hgs) (World.grownBy_alloc _ (.cells #[.int .i64 i, .string ⟨#[98]⟩, .int .i64 k, .int .i64 c] 75) (some V)))
              clear hcl hcs hown hv hg
              go_wp2_with fail
              go_roundw
              case rel => exact ⟨j + 1, cs.set y (c : Int), by omega, by go_num, HCL, HCS, HV, HO, HG⟩
              case measure => simp [intOf]; omega
        · have HC : Hid (cs = zs) := by
            show cs = zs
            have h := hcs.out
            rw [List.take_of_length_le (by omega)] at h
            refine eq_of_getD (by rw [hcl.out, HZ.out, stepL_len, HP.out]) (fun q hq => ?_)
            have hqp : q < n * n := by rw [← HP.out, ← hcl.out]; exact hq
            have e := h (q / n) (q % n) (div_lt_ hqp) (mod_lt_ hqp)
            have e4 : q / n * n + q % n = q := by rw [Nat.mul_comm, Nat.div_add_mod]
            rw [e4] at e
            rw [e, HZ.out]
            unfold stepL
            rw [ofF_getD _ hqp]
          have RR := Lib.hid (R2.out.grown hg.out (by omega))
          have HO : Hid (wr.ownsRow w2.heap.size 3 1 (.slice (some ⟨g, 0, none⟩) p cap) p (zs.map (Value.int .i64))) := by have h := hown.out; rw [HC.out] at h; exact h
          have HB := Lib.hid (B2.out.grown hg.out B2.out.size (fun j hj => by cases hj; omega))
          have HZL : Hid (zs.length = p) := by show _ = _; rw [← HC.out]; exact hcl.out
          obtain ⟨a0, a1⟩ := two_cells hv.out
          obtain ⟨d0, d1⟩ := two_cells RR.out
          obtain ⟨f0, f1⟩ := two_frozen RR.out
          clear hv hown hg
          go_wp2_with fail
          have HF := mat_fin_n (w := w) (m := (n : Int)) HZL.out RR.out HO.out (by omega) (by omega) HB.out (by have := HZL.out; omega)
          refine bodyPost_ret (results_1 rfl (gives_mat (g := w.heap.size + 1) rfl HF.1)) rfl ?_
          exact ⟨_, rfl, HF.2.1, HF.2.2⟩
end Go.Proofs.YtfdbbopanankgaaDoor
namespace Go.Proofs.YtfdbbopanankgaaDoor
open Go.RowKit
set_option maxHeartbeats 4000000
set_option maxRecDepth 100000
set_option linter.unusedVariables false

def stepR (m : Int) (xs ys : List Int) (ss : List StepD) (l : ByteArray) : Option (Int × List Int) := if autoOk m xs ys ss = true ∧ letOk l = true then some (m, stepL m.toNat ss l) else none
theorem stepR_some {n : Nat} {xs ys : List Int} {ss : List StepD} {l : ByteArray} (h : autoOk n xs ys ss = true) (hl : letOk l = true) : stepR n xs ys ss l = some ((n : Int), stepL n ss l) := by
  unfold stepR; rw [if_pos ⟨h, hl⟩]; rfl
theorem stepR_none {m : Int} {xs ys : List Int} {ss : List StepD} {l : ByteArray} (h : ¬ (autoOk m xs ys ss = true ∧ letOk l = true)) : stepR m xs ys ss l = none := by
  unfold stepR; rw [if_neg h]
theorem mat_set {w : World} {base n R : Nat} {v : Value} {m : Int} {zs : List Int} (h : MatOwn w base v m zs) {u0 u1 : Value} (rc : Blk w R 80 #[u0, u1]) (v0 v1 : Value) : MatOwn ((w.setCell ⟨R, 0, none⟩ v0).setCell ⟨R, 1, none⟩ v1) base v m zs := by
  obtain ⟨x, rfl, ho, hl⟩ := h
  refine ⟨x, rfl, ?_, hl⟩
  have h1 := own_other ho rc (by decide)
  have k1 : ∀ i u, (w.setCell ⟨R, i, none⟩ u).ownsRow base 3 1 x zs.length (zs.map (Value.int .i64)) := fun i u => ho.kept (grow_set w R i u) (by
    rcases h0 : x.ownBlock with _ | j
    · exact Or.inl rfl
    · right; intro he; exact h1 (by rw [h0]; exact he.symm))
  have rc' : Blk (w.setCell ⟨R, 0, none⟩ v0) R 80 _ := rc.set_ 0 v0
  have h2 := own_other (k1 0 v0) rc' (by decide)
  exact (k1 0 v0).kept (grow_set _ R 1 v1) (by
    rcases h0 : x.ownBlock with _ | j
    · exact Or.inl rfl
    · right; intro he; exact h2 (by rw [h0]; exact he.symm))

end Go.Proofs.YtfdbbopanankgaaDoor
