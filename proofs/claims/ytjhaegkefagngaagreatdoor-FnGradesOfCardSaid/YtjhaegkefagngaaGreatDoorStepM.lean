/- The matrix of the steps by a letter, the program's out of its map and the model's out of the steps: the plain function of their numbers, in new memory; nothing that was there changes. Conditions: one to four states, steps between them. StepMatrix, the program's and the model's: the plain function of the automaton and the letter, in new memory; nothing that was there changes. No condition. -/
import Derived.Test.YtjhaegkefagngaaGreatDoorMach2
import Derived.Test.YtjhaegkefagngaaGreatDoorSpecMin
import Derived.Test.YtjhaegkefagngaaGreatDoorAutS
import Derived.Test.YtjhaegkefagngaaGreatDoorCopyM
namespace Go.Proofs.YtjhaegkefagngaaGreatDoor
open Go.RowKit
set_option maxHeartbeats 2000000
set_option maxRecDepth 100000
set_option linter.unusedVariables false

def cellF (F : Int → ByteArray → Int → Option Int) (l : ByteArray) : MF := fun i k => (F i l k).getD 1000000
def stepL (n : Nat) (ss : List StepD) (l : ByteArray) : List Int := ofF n (cellF (costAt ss) l)
theorem stepL_len (n : Nat) (ss : List StepD) (l : ByteArray) : (stepL n ss l).length = n * n := ofF_len _ _
theorem ofF_at {n i k : Nat} (f : MF) (hi : i < n) (hk : k < n) : (ofF n f).getD (i * n + k) 0 = f i k := cel_ofF f hi hk

theorem matrixI_any (n M cnt : Nat) (b0 b1 b2 b3 b4 b5 b6 b7 : Bool) (F : Int → ByteArray → Int → Option Int) (l : ByteArray) (zs : List Int) (w : World) (n1 : 1 ≤ n) (n2 : n ≤ 4) (hl : l.size ≤ maxLen) (hz : zs = ofF n (cellF F l)) (hM : CMap w M cnt F) :
    Calls Tryz.prog 40 #[.agg #[.int .i64 n, .bool b0, .bool b1, .bool b2, .bool b3, .bool b4, .bool b5, .bool b6, .bool b7, .map (some M)], .string l] w fun e w' => ∃ v, e = .returned v ∧ MatOwn w' w.heap.size v n zs ∧ Below w.heap.size w w' := by
  obtain ⟨p, hp⟩ : ∃ p, p = n * n := ⟨_, rfl⟩
  have p1 : p ≤ 16 := by
    rw [hp]
    calc n * n ≤ 4 * 4 := Nat.mul_le_mul n2 n2
      _ = 16 := rfl
  have HP := Lib.hid hp
  have HL : Hid (zs.length = p) := by show _ = _; rw [hz, ofF_len, hp]
  have HAT : Hid (∀ i k : Nat, i < n → k < n → zs.getD (i * n + k) 0 = cellF F l i k) := fun i k hi hk => by rw [hz]; exact ofF_at _ hi hk
  have HLL := Lib.hid hl
  have MM := Lib.hid hM
  obtain ⟨i0, hi, hz0, hz1, hz2⟩ := info_parts info_int
  have Z0 := Lib.hid hz0
  have Z1 := Lib.hid hz1
  have Z2 := Lib.hid hz2
  have ZI := Lib.hid hi
  clear hz0 hz1 hz2 hi hp hz hl hM
  go_enter Tryz.func40, Tryz.ntmps40
  go_wp2_with fail
  obtain ⟨V, hV⟩ : ∃ V, V = w.heap.size + 1 + 1 := ⟨_, rfl⟩
  obtain ⟨w2, hw2⟩ : ∃ w2, w2 = ((w.alloc (.cells #[.int .i64 n, .bool b0, .bool b1, .bool b2, .bool b3, .bool b4, .bool b5, .bool b6, .bool b7, .map (some M)] 52)).alloc (.cells #[.int .i64 0, .slice none 0 0] 30)).alloc (.cells #[.int .i64 n, .slice none 0 0] 30) := ⟨_, rfl⟩
  have P2 : Hid (Blk w2 w.heap.size 52 #[.int .i64 n, .bool b0, .bool b1, .bool b2, .bool b3, .bool b4, .bool b5, .bool b6, .bool b7, .map (some M)]) := by rw [hw2]; exact ((Blk.new _ _ _).alloc _).alloc _
  have R2 : Hid (Blk w2 (w.heap.size + 1) 30 #[.int .i64 0, .slice none 0 0]) := by rw [hw2]; exact (blk_new (by simp)).alloc _
  have V2 : Hid (Blk w2 V 30 #[.int .i64 n, .slice none 0 0]) := by rw [hw2, hV]; exact blk_new (by simp)
  have B2 : Hid (Below w.heap.size w w2) := by rw [hw2]; exact below_a3 _ _ _ _
  have hMw := MM.out.lt
  have hVw : w.heap.size + 1 < V := by omega
  have hs2 : V < w2.heap.size := Blk.lt V2.out
  rw [← hw2, ← hV]
  clear hw2 hV
  go_loopg [15] n (fun g i wr => ∃ (k q : Nat) (A : Option Addr) (cap : Nat), k ≤ n ∧ g = n - k ∧ i = .int .i64 k ∧ Hid (q = k * n) ∧ Hid (Blk wr V 30 #[.int .i64 n, .slice A q cap]) ∧ Hid (wr.ownsRow w2.heap.size 3 1 (.slice A q cap) q ((zs.take q).map (Value.int .i64))) ∧ Hid (w2.grownBy wr (some V)))
  case atStart => exact ⟨0, 0, none, 0, Nat.zero_le _, rfl, rfl, Lib.hid (by simp), V2, World.ownsRow_nil _ _ _ _, World.grownBy.refl _ _⟩
  case round =>
    obtain ⟨k, q, A, cap, hk, rfl, rfl, hq, hv, hown, hg⟩ := hrel
    have P3 := Lib.hid (P2.out.grown hg.out (by omega))
    have pc0 := P3.out.cell 0
    simp at pc0
    by_cases hlt : k < n
    · go_wp2_with fail
      go_loopg [20] n (fun g i wi => ∃ (j u : Nat) (A' : Option Addr) (cap' : Nat), j ≤ n ∧ g = n - j ∧ i = .int .i64 j ∧ Hid (u = k * n + j) ∧ Hid (Blk wi V 30 #[.int .i64 n, .slice A' u cap']) ∧ Hid (wi.ownsRow w2.heap.size 3 1 (.slice A' u cap') u ((zs.take u).map (Value.int .i64))) ∧ Hid (w2.grownBy wi (some V)))
      case atStart => exact ⟨0, q, A, cap, Nat.zero_le _, rfl, rfl, Lib.hid (by have := hq.out; omega), hv, hown, hg⟩
      case round =>
        clear hv hown hg P3 pc0
        obtain ⟨j, u, A', cap', hj, rfl, rfl, hu, hv, hown, hg⟩ := hrel
        by_cases hjl : j < n
        · have hup : u < p := by rw [hu.out, HP.out]; exact at_lt hlt hjl
          have P3 := Lib.hid (P2.out.grown hg.out (by omega))
          have M3 := Lib.hid ((MM.out.below (B2.out.mono (Nat.le_refl _))).kept hg.out (by intro he; cases he; omega))
          have hat := HAT.out k j hlt hjl
          rw [← hu.out] at hat
          unfold cellF at hat
          have hkw : Hid (kwf (k : Int) l (j : Int)) := ⟨wf_small (by omega), HLL.out, wf_small (by omega)⟩
          obtain ⟨c, b, z, hF, hc0, hz1, hz2, hz⟩ : ∃ (c : Int) (b : Bool) (z : Int), F k l j = (if b then some c else none) ∧ (b = false → c = 0) ∧ (b = true → z = c) ∧ (b = false → z = 1000000) ∧ zs.getD u 0 = z := by
            rcases hr : F k l j with _ | c
            · exact ⟨0, false, 1000000, rfl, fun _ => rfl, (fun h => by cases h), fun _ => rfl, by rw [hat, hr]; rfl⟩
            · exact ⟨c, true, c, rfl, (fun h => by cases h), fun _ => rfl, (fun h => by cases h), by rw [hat, hr]; rfl⟩
          have HF := Lib.hid hF
          have HC0 := Lib.hid hc0
          have HZ := Lib.hid hz
          have pc0 := P3.out.cell 0
          have pc9 := P3.out.cell 9
          simp at pc0 pc9
          obtain ⟨a0, a1⟩ := two_cells hv.out
          clear hF hc0 hz hat
          cases b
          · obtain rfl := hz2 rfl
            clear hz1 hz2
            go_wp2_with (first
              | (at_lookup; refine wpList_look _ rfl _ _ rfl M cnt F rfl M3.out _ _ _ rfl hkw.out c false HF.out HC0.out ?_)
              | (at_builtin; refine wpList_append_own _ rfl _ _ 23 rfl w2.heap.size 3 i0 (.int .i64 0) 1 8 Tryz.underlying23 ZI.out Z0.out Z1.out Z2.out rfl (by decide) _ _ _ rfl (hown.out.alloc _) ⟨_, 0, none⟩ 1 1 [.int .i64 1000000] rfl rfl ?c1 ?c2 ?c3 ?c4 ?c5 ?_))
            all_goals (first | (intro v' w5 hown' hgrow _; skip) | exact lit_cell wr 0 _ _ | rfl | (unfold maxLen; omega) | omega | (have := hg.out.size; simp; omega))
            · have hrow : ∀ j', (Value.slice A' u cap').ownBlock = some j' → w2.heap.size ≤ j' := fun j' hj' => (hown.out.lt j' hj').1
              have G5 := Lib.hid (app_grown (m := 0) hg.out hgrow hrow)
              have V5 := Lib.hid (app_blk (m := 0) hv.out hgrow hs2 hrow)
              have hl1 : ((zs.take u) ++ [1000000]).length = u + 1 := by have := HL.out; simp; omega
              have hown5 := own_cast hown' hl1.symm (show _ = ((zs.take u) ++ [1000000]).map (Value.int .i64) by rw [← List.map_take, int_snoc])
              obtain ⟨A5, cap5, rfl⟩ := slice_own hown5 (by rw [hl1]; unfold maxLen; omega)
              have hown6 := own_cast hown' rfl (show _ = ((zs.take (u + 1)).map (Value.int .i64)) by rw [← List.map_take, take_snoc (by have := HL.out; omega) HZ.out, int_snoc])
              rw [hl1] at hown6 ⊢
              obtain ⟨x0, x1⟩ := two_cells V5.out
              obtain ⟨f0, f1⟩ := two_frozen V5.out
              have V6 := Lib.hid (V5.out.set_ 1 (.slice A5 (u + 1) cap5))
              have O6 := Lib.hid (own_far hown6 (grow_set w5 V 1 (.slice A5 (u + 1) cap5)) hs2)
              have G6 := Lib.hid (grow_trans G5.out (grow_set w5 V 1 (.slice A5 (u + 1) cap5)))
              have HU1 : Hid (u + 1 = k * n + (j + 1)) := by show _ = _; rw [hu.out]; omega
              clear hown' hgrow hown5 hown6 hrow a0 a1 pc0 pc9
              go_wp2_with fail
              go_roundg (n - (j + 1))
              case rel => exact ⟨j + 1, u + 1, A5, cap5, by omega, rfl, by go_num, HU1, V6, O6, G6⟩
              case measure => omega
          · obtain rfl := hz1 rfl
            clear hz1 hz2
            go_wp2_with (first
              | (at_lookup; refine wpList_look _ rfl _ _ rfl M cnt F rfl M3.out _ _ _ rfl hkw.out z true HF.out HC0.out ?_)
              | (at_builtin; refine wpList_append_own _ rfl _ _ 23 rfl w2.heap.size 3 i0 (.int .i64 0) 1 8 Tryz.underlying23 ZI.out Z0.out Z1.out Z2.out rfl (by decide) _ _ _ rfl (hown.out.alloc _) ⟨_, 0, none⟩ 1 1 [.int .i64 z] rfl rfl ?d1 ?d2 ?d3 ?d4 ?d5 ?_))
            all_goals (first | (intro v' w5 hown' hgrow _; skip) | exact lit_cell wr 0 _ _ | rfl | (unfold maxLen; omega) | omega | (have := hg.out.size; simp; omega))
            · have hrow : ∀ j', (Value.slice A' u cap').ownBlock = some j' → w2.heap.size ≤ j' := fun j' hj' => (hown.out.lt j' hj').1
              have G5 := Lib.hid (app_grown (m := 0) hg.out hgrow hrow)
              have V5 := Lib.hid (app_blk (m := 0) hv.out hgrow hs2 hrow)
              have hl1 : ((zs.take u) ++ [z]).length = u + 1 := by have := HL.out; simp; omega
              have hown5 := own_cast hown' hl1.symm (show _ = ((zs.take u) ++ [z]).map (Value.int .i64) by rw [← List.map_take, int_snoc])
              obtain ⟨A5, cap5, rfl⟩ := slice_own hown5 (by rw [hl1]; unfold maxLen; omega)
              have hown6 := own_cast hown' rfl (show _ = ((zs.take (u + 1)).map (Value.int .i64)) by rw [← List.map_take, take_snoc (by have := HL.out; omega) HZ.out, int_snoc])
              rw [hl1] at hown6 ⊢
              obtain ⟨x0, x1⟩ := two_cells V5.out
              obtain ⟨f0, f1⟩ := two_frozen V5.out
              have V6 := Lib.hid (V5.out.set_ 1 (.slice A5 (u + 1) cap5))
              have O6 := Lib.hid (own_far hown6 (grow_set w5 V 1 (.slice A5 (u + 1) cap5)) hs2)
              have G6 := Lib.hid (grow_trans G5.out (grow_set w5 V 1 (.slice A5 (u + 1) cap5)))
              have HU1 : Hid (u + 1 = k * n + (j + 1)) := by show _ = _; rw [hu.out]; omega
              clear hown' hgrow hown5 hown6 hrow a0 a1 pc0 pc9
              go_wp2_with fail
              go_roundg (n - (j + 1))
              case rel => exact ⟨j + 1, u + 1, A5, cap5, by omega, rfl, by go_num, HU1, V6, O6, G6⟩
              case measure => omega
        · obtain rfl : n = j := by omega
          have HU1 : Hid (u = (k + 1) * n) := by show _ = _; rw [hu.out, Nat.succ_mul]
          go_wp2_with fail
          go_roundg (n - (k + 1))
          case rel => exact ⟨k + 1, u, A', cap', by omega, rfl, by go_num, HU1, hv, hown, hg⟩
          case measure => omega
    · obtain rfl : n = k := by omega
      have hqp : q = p := hq.out.trans HP.out.symm
      subst hqp
      have RR := Lib.hid (R2.out.grown hg.out (by omega))
      have HO : Hid (wr.ownsRow w2.heap.size 3 1 (.slice A q cap) q (zs.map (Value.int .i64))) := by
        have h := hown.out
        rw [List.take_of_length_le (by have := HL.out; omega)] at h
        exact h
      have HB := Lib.hid (B2.out.grown hg.out B2.out.size (fun j hj => by cases hj; omega))
      obtain ⟨a0, a1⟩ := two_cells hv.out
      obtain ⟨d0, d1⟩ := two_cells RR.out
      obtain ⟨f0, f1⟩ := two_frozen RR.out
      go_wp2_with fail
      have HF := mat_fin_n (w := w) (m := (n : Int)) HL.out RR.out HO.out (by omega) (by omega) HB.out (by have := HL.out; omega)
      refine bodyPost_ret (results_1 rfl (gives_mat (g := w.heap.size + 1) rfl HF.1)) rfl ?_
      exact ⟨_, rfl, HF.2.1, HF.2.2⟩

theorem updC_same {F : Int → ByteArray → Int → Option Int} {f t c : Int} {l : ByteArray} : updC F f l t c f l t = some c := by unfold updC; rw [if_pos ⟨rfl, rfl, rfl⟩]
theorem updC_other {F : Int → ByteArray → Int → Option Int} {f t c f' t' : Int} {l l' : ByteArray} (h : ¬ (f' = f ∧ l'.data = l.data ∧ t' = t)) : updC F f l t c f' l' t' = F f' l' t' := by unfold updC; rw [if_neg h]
theorem cell_set {cs : List Int} {F : Int → ByteArray → Int → Option Int} {n p i k : Nat} {c : Int} {l : ByteArray} (hp : p = n * n) (hl : cs.length = p) (hi : i < n) (hk : k < n)
    (h : ∀ a b : Nat, a < n → b < n → cs.getD (a * n + b) 0 = cellF F l a b) : ∀ a b : Nat, a < n → b < n → (cs.set (i * n + k) c).getD (a * n + b) 0 = cellF (updC F i l k c) l a b := by
  intro a b ha hb
  rw [getD_set _ _ _ _ (by rw [hl, hp]; exact at_lt hi hk)]
  unfold cellF
  by_cases e : a = i ∧ b = k
  · obtain ⟨rfl, rfl⟩ := e
    rw [if_pos rfl, updC_same]; rfl
  · rw [if_neg, updC_other]
    · exact h a b ha hb
    · rintro ⟨h1, _, h2⟩
      exact e ⟨by omega, by omega⟩
    · intro he
      have h1 := congrArg (· / n) he
      have h2 := congrArg (· % n) he
      simp only [at_div hb, at_div hk, at_mod hb, at_mod hk] at h1 h2
      exact e ⟨h1, h2⟩
theorem cell_skip {cs : List Int} {F : Int → ByteArray → Int → Option Int} {n i k : Nat} {c : Int} {l l' : ByteArray} (hne : ¬ l.data = l'.data)
    (h : ∀ a b : Nat, a < n → b < n → cs.getD (a * n + b) 0 = cellF F l a b) : ∀ a b : Nat, a < n → b < n → cs.getD (a * n + b) 0 = cellF (updC F i l' k c) l a b := by
  intro a b ha hb
  unfold cellF
  rw [updC_other (fun he => hne he.2.1)]
  exact h a b ha hb

theorem grow_far {w w' : World} {r : Option Nat} (h : w.grownBy w' r) (g i : Nat) (v : Value) (hg : w.heap.size ≤ g) : w.grownBy (w'.setCell ⟨g, i, none⟩ v) r := by
  have s := grow_set w' g i v
  exact ⟨s.os.trans h.os, s.tape.trans h.tape, s.output.trans h.output, Nat.le_trans h.size s.size, fun j hj hne => (s.block j (Nat.lt_of_lt_of_le hj h.size) (fun e => by cases e; omega)).trans (h.block j hj hne)⟩
theorem l3Matrix_any (n x1 x2 c1 c2 c3 : Nat) (A1 A2 A3 : Option Addr) (ss : List StepD) (l : ByteArray) (zs : List Int) (w : World) (n1 : 1 ≤ n) (n2 : n ≤ 4) (hs : SRow w w.heap.size A3 ss) (hok : ∀ s ∈ ss, stepOk n s = true) (hl : IsL l) (hz : zs = stepL n ss l) :
    Calls Tryz.prog 55 #[.agg #[.int .i64 n, .slice A1 x1 c1, .slice A2 x2 c2, .slice A3 ss.length c3], .string l] w fun e w' => ∃ v, e = .returned v ∧ MatOwn w' w.heap.size v n zs ∧ Below w.heap.size w w' := by
  obtain ⟨p, hp⟩ : ∃ p, p = n * n := ⟨_, rfl⟩
  have p1 : p ≤ 16 := by
    rw [hp]
    calc n * n ≤ 4 * 4 := Nat.mul_le_mul n2 n2
      _ = 16 := rfl
  have p0 : 1 ≤ p := by
    rw [hp]
    calc 1 = 1 * 1 := rfl
      _ ≤ n * n := Nat.mul_le_mul n1 n1
  have h1 : wrap64 ((n : Int) * (n : Int)) = (p : Int) := by rw [← Int.natCast_mul, ← hp]; exact w64_nat (by omega)
  have hlen := hs.1
  have HP := Lib.hid hp
  have HS := Lib.hid hs
  have HOK := Lib.hid hok
  have HZ := Lib.hid hz
  obtain ⟨i0, hi, hz0, hz1, hz2⟩ := info_parts info_int
  have Z0 := Lib.hid hz0
  have Z1 := Lib.hid hz1
  have Z2 := Lib.hid hz2
  have ZI := Lib.hid hi
  clear hp hs hok hz hz0 hz1 hz2 hi
  go_enter Tryz.func55, Tryz.ntmps55
  go_wp2_with fail
  obtain ⟨V, hV⟩ : ∃ V, V = w.heap.size + 1 + 1 := ⟨_, rfl⟩
  obtain ⟨w2, hw2⟩ : ∃ w2, w2 = ((w.alloc (.cells #[.int .i64 n, .slice A1 x1 c1, .slice A2 x2 c2, .slice A3 ss.length c3] 26)).alloc (.cells #[.int .i64 0, .slice none 0 0] 30)).alloc (.cells #[.int .i64 n, .slice none 0 0] 30) := ⟨_, rfl⟩
  have P2 : Hid (Blk w2 w.heap.size 26 #[.int .i64 n, .slice A1 x1 c1, .slice A2 x2 c2, .slice A3 ss.length c3]) := by rw [hw2]; exact ((Blk.new _ _ _).alloc _).alloc _
  have R2 : Hid (Blk w2 (w.heap.size + 1) 30 #[.int .i64 0, .slice none 0 0]) := by rw [hw2]; exact (blk_new (by simp)).alloc _
  have V2 : Hid (Blk w2 V 30 #[.int .i64 n, .slice none 0 0]) := by rw [hw2, hV]; exact blk_new (by simp)
  have B2 : Hid (Below w.heap.size w w2) := by rw [hw2]; exact below_a3 _ _ _ _
  have hVw : w.heap.size + 1 < V := by omega
  have hs2 : V < w2.heap.size := Blk.lt V2.out
  rw [← hw2, ← hV, h1]
  clear hw2 hV h1
  have HU : Hid (∀ q, q < p → (List.replicate p (1000000 : Int)).getD q 0 = 1000000) := fun q hq => by rw [List.getD_eq_getElem?_getD, List.getElem?_replicate, if_pos hq]; rfl
  obtain ⟨us, hus⟩ : ∃ us, us = List.replicate p (1000000 : Int) := ⟨_, rfl⟩
  have HUL : Hid (us.length = p) := by show _ = _; rw [hus]; simp
  rw [← hus] at HU
  clear hus
  go_loopw [16] (fun i wr => ∃ (k : Nat) (A : Option Addr) (cap : Nat), k ≤ p ∧ i = .int .i64 k ∧ Hid (Blk wr V 30 #[.int .i64 n, .slice A k cap]) ∧ Hid (wr.ownsRow w2.heap.size 3 1 (.slice A k cap) k ((us.take k).map (Value.int .i64))) ∧ Hid (w2.grownBy wr (some V))) (fun i _ => p - (intOf i).toNat)
  case atStart => exact ⟨0, none, 0, Nat.zero_le _, rfl, V2, World.ownsRow_nil _ _ _ _, World.grownBy.refl _ _⟩
  case round =>
    obtain ⟨k, A, cap, hk, rfl, hv, hown, hg⟩ := hrel
    by_cases hlt : k < p
    · have HZK := Lib.hid (HU.out k hlt)
      obtain ⟨a0, a1⟩ := two_cells hv.out
      go_wp2_with (at_builtin; refine wpList_append_own _ rfl _ _ 23 rfl w2.heap.size 3 i0 (.int .i64 0) 1 8 Tryz.underlying23 ZI.out Z0.out Z1.out Z2.out rfl (by decide) _ _ _ rfl (hown.out.alloc _) ⟨_, 0, none⟩ 1 1 [.int .i64 1000000] rfl rfl ?c1 ?c2 ?c3 ?c4 ?c5 ?_)
      case c1 => exact lit_cell wr 0 _ _
      case c2 => intro u hu; simp at hu; subst hu; rfl
      case c3 => unfold maxLen; omega
      case c4 => omega
      case c5 => have := hg.out.size; simp; omega
      · intro v' w5 hown' hgrow _
        have hrow : ∀ j', (Value.slice A k cap).ownBlock = some j' → w2.heap.size ≤ j' := fun j' hj' => (hown.out.lt j' hj').1
        have G5 := Lib.hid (app_grown (m := 0) hg.out hgrow hrow)
        have V5 := Lib.hid (app_blk (m := 0) hv.out hgrow hs2 hrow)
        have hl1 : ((us.take k) ++ [1000000]).length = k + 1 := by have := HUL.out; simp; omega
        have hown5 := own_cast hown' hl1.symm (show _ = ((us.take k) ++ [1000000]).map (Value.int .i64) by rw [← List.map_take, int_snoc])
        obtain ⟨A5, cap5, rfl⟩ := slice_own hown5 (by rw [hl1]; unfold maxLen; omega)
        have hown6 := own_cast hown' rfl (show _ = ((us.take (k + 1)).map (Value.int .i64)) by rw [← List.map_take, take_snoc (by have := HUL.out; omega) HZK.out, int_snoc])
        rw [hl1] at hown6 ⊢
        obtain ⟨x0, x1⟩ := two_cells V5.out
        obtain ⟨f0, f1⟩ := two_frozen V5.out
        have V6 := Lib.hid (V5.out.set_ 1 (.slice A5 (k + 1) cap5))
        have O6 := Lib.hid (own_far hown6 (grow_set w5 V 1 (.slice A5 (k + 1) cap5)) hs2)
        have G6 := Lib.hid (grow_trans G5.out (grow_set w5 V 1 (.slice A5 (k + 1) cap5)))
        clear hown' hgrow hown5 hown6 hrow a0 a1
        go_wp2_with fail
        go_roundw
        case rel => exact ⟨k + 1, A5, cap5, by omega, by go_num, V6, O6, G6⟩
        case measure => simp [intOf]; omega
    · obtain rfl : p = k := by omega
      have HO : Hid (wr.ownsRow w2.heap.size 3 1 (.slice A p cap) p (us.map (Value.int .i64))) := by
        have h := hown.out
        rw [List.take_of_length_le (by have := HUL.out; omega)] at h
        exact h
      obtain ⟨g, hgA, hgs⟩ : ∃ g, A = some ⟨g, 0, none⟩ ∧ w2.heap.size ≤ g := by
        rcases HO.out.2 with ⟨h0, hx⟩ | ⟨g, c, cur, h0, hb, _⟩
        · exfalso; have := HO.out.1; have h3 := HUL.out; rw [← List.length_map (f := Value.int .i64), hx] at h3; simp at h3; omega
        · cases h0; exact ⟨g, rfl, hb⟩
      subst hgA
      have P3 := Lib.hid (P2.out.grown hg.out (by omega))
      obtain ⟨q0, q1, q2, q3⟩ := four_cells P3.out
      have HC0 : Hid (∀ a b : Nat, a < n → b < n → us.getD (a * n + b) 0 = cellF (costAt (ss.take 0)) l a b) := fun a b ha hb => HU.out _ (by rw [HP.out]; exact at_lt ha hb)
      clear hown hk
      go_wp2_with fail
      go_loopw [27] (fun i wq => ∃ (j : Nat) (cs : List Int), j ≤ ss.length ∧ i = .int .i64 j ∧ Hid (cs.length = p) ∧ Hid (∀ a b : Nat, a < n → b < n → cs.getD (a * n + b) 0 = cellF (costAt (ss.take j)) l a b) ∧ Hid (Blk wq V 30 #[.int .i64 n, .slice (some ⟨g, 0, none⟩) p cap]) ∧ Hid (wq.ownsRow w2.heap.size 3 1 (.slice (some ⟨g, 0, none⟩) p cap) p (cs.map (Value.int .i64))) ∧ Hid (w2.grownBy wq (some V))) (fun i _ => ss.length - (intOf i).toNat)
      case atStart => exact ⟨0, us, Nat.zero_le _, rfl, HUL, HC0, hv, HO, hg⟩
      case round =>
        clear hv HO hg P3 q0 q1 q2 q3
        obtain ⟨j, cs, hj, rfl, hcl, hcs, hv, hown, hg⟩ := hrel
        by_cases hjl : j < ss.length
        · obtain ⟨b, off, s, rfl, hbB, hat, hsz, _, hgs⟩ := HS.out.at_ hjl
          have HT := Lib.hid (costAt_take hjl hgs)
          have hmem : s ∈ ss := by
            have h := hgs
            rw [List.getD_eq_getElem?_getD, List.getElem?_eq_getElem hjl] at h
            simp at h; rw [← h]; exact List.getElem_mem _
          obtain ⟨i, k, c, e1, hi, e2, hk, e3, hc, hle⟩ := stepOk_in (HOK.out s hmem)
          obtain ⟨fr, le, tt, co⟩ := s
          dsimp only at e1 e2 e3 hle HT
          subst e1 e2 e3
          have hB := B2.out.grown hg.out B2.out.size (fun i hi => by cases hi; omega)
          obtain ⟨s0, s1, s2, s3⟩ := hat.below hB hbB
          dsimp only at s0 s1 s2 s3
          have hVq := Blk.lt hv.out
          have hgq : g < wr.heap.size := (hown.out.lt g rfl).2
          have hwr : w.heap.size < wr.heap.size := by omega
          have P3 := P2.out.grown hg.out (by omega)
          have pc0 := P3.cell 0
          have pc3 := P3.cell 3
          simp at pc0 pc3
          obtain ⟨a0, a1⟩ := two_cells hv.out
          have hi0 : (0 : Int) ≤ (j : Int) := by omega
          have hi1 : (j : Int) < (ss.length : Int) := by omega
          obtain ⟨x, hx⟩ : ∃ x, x = i * n := ⟨_, rfl⟩
          obtain ⟨y, hy⟩ : ∃ y, y = x + k := ⟨_, rfl⟩
          have hyp : y < p := by rw [hy, hx, HP.out]; exact at_lt hi hk
          have e1 : wrap64 ((i : Int) * (n : Int)) = (x : Int) := by rw [← Int.natCast_mul, ← hx]; exact w64_nat (by omega)
          have e2 : (x : Int) + (k : Int) = (y : Int) := by omega
          have j0 : (0 : Int) ≤ (y : Int) := by omega
          have j1 : (y : Int) < (p : Int) := by omega
          have HY : Hid (i * n + k = y) := by show _ = _; rw [hy, hx]
          clear hB hat hgs hmem P3 hx hy
          rcases hle with rfl | rfl
          · rcases hl with rfl | rfl
            · have hq0 : wr.cell? ⟨g, y, none⟩ = some (.int .i64 (cs.getD y 0)) := by
                rw [hown.out.cellAt y (by omega), List.getElem?_map, List.getD_eq_getElem?_getD, List.getElem?_eq_getElem (by rw [hcl.out]; exact hyp)]; rfl
              have hq1 : wr.frozen? ⟨g, y, none⟩ = false := hown.out.frozenAt y
              have HCL : Hid ((cs.set y (c : Int)).length = p) := by show _ = _; rw [List.length_set]; exact hcl.out
              have HCS : Hid (∀ a b : Nat, a < n → b < n → (cs.set y (c : Int)).getD (a * n + b) 0 = cellF (costAt (ss.take (j + 1))) ⟨#[97]⟩ a b) := by
                show ∀ a b : Nat, a < n → b < n → _
                rw [HT.out, ← HY.out]
                exact cell_set HP.out hcl.out hi hk hcs.out
              have HO := Lib.hid ((own_cast (hown.out.stored y (.int .i64 c)).1 rfl (List.map_set).symm).alloc (.cells #[.int .i64 i, .string ⟨#[97]⟩, .int .i64 k, .int .i64 c] 112))
              have HV := Lib.hid ((hv.out.other g y (.int .i64 c) (by omega)).alloc (.cells #[.int .i64 i, .string ⟨#[97]⟩, .int .i64 k, .int .i64 c] 112))
              have HG := Lib.hid (grow_trans (grow_far hg.out g y (.int .i64 c) hgs) (World.grownBy_alloc _ (.cells #[.int .i64 i, .string ⟨#[97]⟩, .int .i64 k, .int .i64 c] 112) (some V)))
              clear hcl hcs hown hv hg
              go_wp2_with fail
              go_roundw
              case rel => exact ⟨j + 1, cs.set y (c : Int), by omega, by go_num, HCL, HCS, HV, HO, HG⟩
              case measure => simp [intOf]; omega
            · have HCS : Hid (∀ a b : Nat, a < n → b < n → cs.getD (a * n + b) 0 = cellF (costAt (ss.take (j + 1))) ⟨#[98]⟩ a b) := by
                show ∀ a b : Nat, a < n → b < n → _
                rw [HT.out]
                exact cell_skip (by decide) hcs.out
              have HO := Lib.hid (hown.out.alloc (.cells #[.int .i64 i, .string ⟨#[97]⟩, .int .i64 k, .int .i64 c] 112))
              have HV := Lib.hid (hv.out.alloc (.cells #[.int .i64 i, .string ⟨#[97]⟩, .int .i64 k, .int .i64 c] 112))
              have HG := Lib.hid (grow_trans hg.out (World.grownBy_alloc wr (.cells #[.int .i64 i, .string ⟨#[97]⟩, .int .i64 k, .int .i64 c] 112) (some V)))
              clear hcs hown hv hg
              go_wp2_with fail
              go_roundw
              case rel => exact ⟨j + 1, cs, by omega, by go_num, hcl, HCS, HV, HO, HG⟩
              case measure => simp [intOf]; omega
          · rcases hl with rfl | rfl
            · have HCS : Hid (∀ a b : Nat, a < n → b < n → cs.getD (a * n + b) 0 = cellF (costAt (ss.take (j + 1))) ⟨#[97]⟩ a b) := by
                show ∀ a b : Nat, a < n → b < n → _
                rw [HT.out]
                exact cell_skip (by decide) hcs.out
              have HO := Lib.hid (hown.out.alloc (.cells #[.int .i64 i, .string ⟨#[98]⟩, .int .i64 k, .int .i64 c] 112))
              have HV := Lib.hid (hv.out.alloc (.cells #[.int .i64 i, .string ⟨#[98]⟩, .int .i64 k, .int .i64 c] 112))
              have HG := Lib.hid (grow_trans hg.out (World.grownBy_alloc wr (.cells #[.int .i64 i, .string ⟨#[98]⟩, .int .i64 k, .int .i64 c] 112) (some V)))
              clear hcs hown hv hg
              go_wp2_with fail
              go_roundw
              case rel => exact ⟨j + 1, cs, by omega, by go_num, hcl, HCS, HV, HO, HG⟩
              case measure => simp [intOf]; omega
            · have hq0 : wr.cell? ⟨g, y, none⟩ = some (.int .i64 (cs.getD y 0)) := by
                rw [hown.out.cellAt y (by omega), List.getElem?_map, List.getD_eq_getElem?_getD, List.getElem?_eq_getElem (by rw [hcl.out]; exact hyp)]; rfl
              have hq1 : wr.frozen? ⟨g, y, none⟩ = false := hown.out.frozenAt y
              have HCL : Hid ((cs.set y (c : Int)).length = p) := by show _ = _; rw [List.length_set]; exact hcl.out
              have HCS : Hid (∀ a b : Nat, a < n → b < n → (cs.set y (c : Int)).getD (a * n + b) 0 = cellF (costAt (ss.take (j + 1))) ⟨#[98]⟩ a b) := by
                show ∀ a b : Nat, a < n → b < n → _
                rw [HT.out, ← HY.out]
                exact cell_set HP.out hcl.out hi hk hcs.out
              have HO := Lib.hid ((own_cast (hown.out.stored y (.int .i64 c)).1 rfl (List.map_set).symm).alloc (.cells #[.int .i64 i, .string ⟨#[98]⟩, .int .i64 k, .int .i64 c] 112))
              have HV := Lib.hid ((hv.out.other g y (.int .i64 c) (by omega)).alloc (.cells #[.int .i64 i, .string ⟨#[98]⟩, .int .i64 k, .int .i64 c] 112))
              have HG := Lib.hid (grow_trans (grow_far hg.out g y (.int .i64 c) hgs) (World.grownBy_alloc _ (.cells #[.int .i64 i, .string ⟨#[98]⟩, .int .i64 k, .int .i64 c] 112) (some V)))
              clear hcl hcs hown hv hg
              go_wp2_with fail
              go_roundw
              case rel => exact ⟨j + 1, cs.set y (c : Int), by omega, by go_num, HCL, HCS, HV, HO, HG⟩
              case measure => simp [intOf]; omega
        · have HC : Hid (cs = zs) := by
            show cs = zs
            have h := hcs.out
            rw [List.take_of_length_le (by omega)] at h
            refine eq_of_getD (by rw [hcl.out, HZ.out, stepL_len, HP.out]) (fun q hq => ?_)
            have hqp : q < n * n := by rw [← HP.out, ← hcl.out]; exact hq
            have e := h (q / n) (q % n) (div_lt_ hqp) (mod_lt_ hqp)
            have e4 : q / n * n + q % n = q := by rw [Nat.mul_comm, Nat.div_add_mod]
            rw [e4] at e
            rw [e, HZ.out]
            unfold stepL
            rw [ofF_getD _ hqp]
          have RR := Lib.hid (R2.out.grown hg.out (by omega))
          have HO : Hid (wr.ownsRow w2.heap.size 3 1 (.slice (some ⟨g, 0, none⟩) p cap) p (zs.map (Value.int .i64))) := by have h := hown.out; rw [HC.out] at h; exact h
          have HB := Lib.hid (B2.out.grown hg.out B2.out.size (fun j hj => by cases hj; omega))
          have HZL : Hid (zs.length = p) := by show _ = _; rw [← HC.out]; exact hcl.out
          obtain ⟨a0, a1⟩ := two_cells hv.out
          obtain ⟨d0, d1⟩ := two_cells RR.out
          obtain ⟨f0, f1⟩ := two_frozen RR.out
          clear hv hown hg
          go_wp2_with fail
          have HF := mat_fin_n (w := w) (m := (n : Int)) HZL.out RR.out HO.out (by omega) (by omega) HB.out (by have := HZL.out; omega)
          refine bodyPost_ret (results_1 rfl (gives_mat (g := w.heap.size + 1) rfl HF.1)) rfl ?_
          exact ⟨_, rfl, HF.2.1, HF.2.2⟩
end Go.Proofs.YtjhaegkefagngaaGreatDoor
namespace Go.Proofs.YtjhaegkefagngaaGreatDoor
open Go.RowKit
set_option maxHeartbeats 4000000
set_option maxRecDepth 100000
set_option linter.unusedVariables false

def stepR (m : Int) (xs ys : List Int) (ss : List StepD) (l : ByteArray) : Option (Int × List Int) := if autoOk m xs ys ss = true ∧ letOk l = true then some (m, stepL m.toNat ss l) else none
theorem stepR_some {n : Nat} {xs ys : List Int} {ss : List StepD} {l : ByteArray} (h : autoOk n xs ys ss = true) (hl : letOk l = true) : stepR n xs ys ss l = some ((n : Int), stepL n ss l) := by
  unfold stepR; rw [if_pos ⟨h, hl⟩]; rfl
theorem stepR_none {m : Int} {xs ys : List Int} {ss : List StepD} {l : ByteArray} (h : ¬ (autoOk m xs ys ss = true ∧ letOk l = true)) : stepR m xs ys ss l = none := by
  unfold stepR; rw [if_neg h]
theorem mat_set {w : World} {base n R : Nat} {v : Value} {m : Int} {zs : List Int} (h : MatOwn w base v m zs) {u0 u1 : Value} (rc : Blk w R 30 #[u0, u1]) (v0 v1 : Value) : MatOwn ((w.setCell ⟨R, 0, none⟩ v0).setCell ⟨R, 1, none⟩ v1) base v m zs := by
  obtain ⟨x, rfl, ho, hl⟩ := h
  refine ⟨x, rfl, ?_, hl⟩
  have h1 := own_other ho rc (by decide)
  have k1 : ∀ i u, (w.setCell ⟨R, i, none⟩ u).ownsRow base 3 1 x zs.length (zs.map (Value.int .i64)) := fun i u => ho.kept (grow_set w R i u) (by
    rcases h0 : x.ownBlock with _ | j
    · exact Or.inl rfl
    · right; intro he; exact h1 (by rw [h0]; exact he.symm))
  have rc' : Blk (w.setCell ⟨R, 0, none⟩ v0) R 30 _ := rc.set_ 0 v0
  have h2 := own_other (k1 0 v0) rc' (by decide)
  exact (k1 0 v0).kept (grow_set _ R 1 v1) (by
    rcases h0 : x.ownBlock with _ | j
    · exact Or.inl rfl
    · right; intro he; exact h2 (by rw [h0]; exact he.symm))

theorem iStepMatrix_any (m : Int) (A1 A2 A3 : Option Addr) (c1 c2 c3 : Nat) (xs ys : List Int) (ss : List StepD) (l : ByteArray) (w : World) (hx : Ints w w.heap.size A1 xs) (hy : Ints w w.heap.size A2 ys) (hs : SRow w w.heap.size A3 ss) :
    Calls Tryz.prog 16 #[.agg #[.int .i64 m, .slice A1 xs.length c1, .slice A2 ys.length c2, .slice A3 ss.length c3], .string l] w fun e w' => MEnd (stepR m xs ys ss l) w e w' := by
  have HX0 := Lib.hid (ints_al (ints_al hx (.cells #[.int .i64 m, .slice A1 xs.length c1, .slice A2 ys.length c2, .slice A3 ss.length c3] 26)) (.cells #[.int .i64 0, .slice none 0 0] 30))
  have HY0 := Lib.hid (ints_al (ints_al hy (.cells #[.int .i64 m, .slice A1 xs.length c1, .slice A2 ys.length c2, .slice A3 ss.length c3] 26)) (.cells #[.int .i64 0, .slice none 0 0] 30))
  have HS := Lib.hid ((hs.al (.cells #[.int .i64 m, .slice A1 xs.length c1, .slice A2 ys.length c2, .slice A3 ss.length c3] 26)).al (.cells #[.int .i64 0, .slice none 0 0] 30))
  clear hx hy hs
  obtain ⟨ok, hok⟩ : ∃ b, autoOk m xs ys ss = b := ⟨_, rfl⟩
  obtain ⟨lk, hlk⟩ : ∃ b, letOk l = b := ⟨_, rfl⟩
  have HOK := Lib.hid hok
  have HLK := Lib.hid hlk
  cases ok
  · have HR : Hid (stepR m xs ys ss l = none) := stepR_none (fun h => by rw [HOK.out] at h; cases h.1)
    clear hok hlk
    go_enter Tryz.func16, Tryz.ntmps16
    go_wp2_with fail
    refine (machineOf_no _ _ _ _ _ _ _ _ _ _ _ HX0.out HY0.out HS.out HOK.out).mono ?_
    rintro e w1 ⟨rfl, hb1⟩
    have B1 := Lib.hid (below_on (below_a2 w _ _) hb1.out)
    have R1 : Hid (Blk w1 (w.heap.size + 1) 30 #[.int .i64 0, .slice none 0 0]) := (blk_new (by simp)).below hb1.out (by simp)
    clear hb1 HX0 HY0 HS
    have hw1 := Blk.lt R1.out
    have R2 := Lib.hid (R1.out.alloc (.cells #[.int .i64 0, .bool false, .bool false, .bool false, .bool false, .bool false, .bool false, .bool false, .bool false, .map none] 52))
    have B2 := Lib.hid (below_al B1.out (Nat.le_refl _) (.cells #[.int .i64 0, .bool false, .bool false, .bool false, .bool false, .bool false, .bool false, .bool false, .bool false, .map none] 52))
    obtain ⟨d0, d1⟩ := two_cells R1.out
    obtain ⟨f0, f1⟩ := two_frozen R1.out
    go_wp2_with fail
    have HF := ((R1.out.set_ 0 (.int .i64 0)).set_ 1 (.slice none 0 0)).alloc (.cells #[.int .i64 0, .bool false, .bool false, .bool false, .bool false, .bool false, .bool false, .bool false, .bool false, .map none] 52)
    refine bodyPost_ret (results_2 rfl (gives_mat (g := w.heap.size + 1) rfl HF) (Gives.tmp rfl)) rfl ?_
    exact MEnd.none_ HR.out (below_al ((B1.out.setCell (p := ⟨_, 0, none⟩) (Nat.le_succ _) _).setCell (p := ⟨_, 1, none⟩) (Nat.le_succ _) _) (Nat.le_refl _) _)
  · obtain ⟨n, rfl, n1, n2, hxi, hyi, hsl, hsi⟩ := auto_in hok
    have HSI := Lib.hid hsi
    clear hxi hyi hsi hsl hok hlk
    go_enter Tryz.func16, Tryz.ntmps16
    go_wp2_with fail
    refine (machineOf_ok _ _ _ _ _ _ _ _ _ _ _ HX0.out HY0.out HS.out HOK.out).mono ?_
    rintro e w1 ⟨M, rfl, hM, hmap, hb1⟩
    have B1 := Lib.hid (below_on (below_a2 w _ _) hb1.out)
    have R1 : Hid (Blk w1 (w.heap.size + 1) 30 #[.int .i64 0, .slice none 0 0]) := (blk_new (by simp)).below hb1.out (by simp)
    clear hb1 HX0 HY0 HS
    have hw1 := Blk.lt R1.out
    have hMw := hmap.out.lt
    have R2 := Lib.hid (R1.out.alloc (.cells #[.int .i64 n, .bool (hasB xs 0), .bool (hasB xs 1), .bool (hasB xs 2), .bool (hasB xs 3), .bool (hasB ys 0), .bool (hasB ys 1), .bool (hasB ys 2), .bool (hasB ys 3), .map (some M)] 52))
    have B2 := Lib.hid (below_al B1.out (Nat.le_refl _) (.cells #[.int .i64 n, .bool (hasB xs 0), .bool (hasB xs 1), .bool (hasB xs 2), .bool (hasB xs 3), .bool (hasB ys 0), .bool (hasB ys 1), .bool (hasB ys 2), .bool (hasB ys 3), .map (some M)] 52))
    have M2 := Lib.hid (hmap.out.kept (World.grownBy_alloc w1 (.cells #[.int .i64 n, .bool (hasB xs 0), .bool (hasB xs 1), .bool (hasB xs 2), .bool (hasB xs 3), .bool (hasB ys 0), .bool (hasB ys 1), .bool (hasB ys 2), .bool (hasB ys 3), .map (some M)] 52) none) (by simp))
    clear hmap hM
    cases lk
    · have HR : Hid (stepR n xs ys ss l = none) := stepR_none (fun h => by rw [HLK.out] at h; cases h.2)
      obtain ⟨d0, d1⟩ := two_cells R1.out
      obtain ⟨f0, f1⟩ := two_frozen R1.out
      go_wp2_with fail
      refine (letterValid_is _ false _ HLK.out).mono ?_
      rintro e w' ⟨rfl, rfl⟩
      go_wp2_with fail
      have HF := ((R1.out.set_ 0 (.int .i64 0)).set_ 1 (.slice none 0 0)).alloc (.cells #[.int .i64 n, .bool (hasB xs 0), .bool (hasB xs 1), .bool (hasB xs 2), .bool (hasB xs 3), .bool (hasB ys 0), .bool (hasB ys 1), .bool (hasB ys 2), .bool (hasB ys 3), .map (some M)] 52)
      refine bodyPost_ret (results_2 rfl (gives_mat (g := w.heap.size + 1) rfl HF) (Gives.tmp rfl)) rfl ?_
      exact MEnd.none_ HR.out (below_al ((B1.out.setCell (p := ⟨_, 0, none⟩) (Nat.le_succ _) _).setCell (p := ⟨_, 1, none⟩) (Nat.le_succ _) _) (Nat.le_refl _) _)
    · have HR : Hid (stepR n xs ys ss l = some ((n : Int), stepL n ss l)) := stepR_some HOK.out HLK.out
      have hll : Hid (l.size ≤ maxLen) := by
        rcases isL_of HLK.out with h | h <;> (show _ ≤ _; rw [h]; decide)
      go_wp2_with fail
      refine (letterValid_is _ true _ HLK.out).mono ?_
      rintro e w' ⟨rfl, rfl⟩
      go_wp2_with fail
      refine (matrixI_any n M _ _ _ _ _ _ _ _ _ _ l (stepL n ss l) _ n1 n2 hll.out rfl M2.out).mono ?_
      rintro e w3 ⟨v, rfl, ho3, hb3⟩
      obtain ⟨x, rfl, hox, hlx⟩ := ho3
      have R3 := Lib.hid (R2.out.below hb3 (Blk.lt R2.out))
      have B3 := Lib.hid (below_on B2.out hb3)
      have O3 : Hid (MatOwn w3 w.heap.size (.agg #[.int .i64 n, x]) n (stepL n ss l)) := ⟨x, rfl, own_base hox (by simp; omega), hlx⟩
      obtain ⟨A, cap, rfl, _, _⟩ := own_ints hox (by unfold maxLen; omega)
      clear hb3 hox
      obtain ⟨d0, d1⟩ := two_cells R3.out
      obtain ⟨f0, f1⟩ := two_frozen R3.out
      go_wp2_with fail
      have HF := (R3.out.set_ 0 (.int .i64 n)).set_ 1 (.slice A (stepL n ss l).length cap)
      refine bodyPost_ret (results_2 rfl (gives_mat (g := w.heap.size + 1) rfl HF) (Gives.tmp rfl)) rfl ?_
      exact MEnd.some_ HR.out (mat_set (n := 0) O3.out R3.out _ _) ((B3.out.setCell (p := ⟨_, 0, none⟩) (Nat.le_succ _) _).setCell (p := ⟨_, 1, none⟩) (Nat.le_succ _) _)

end Go.Proofs.YtjhaegkefagngaaGreatDoor
