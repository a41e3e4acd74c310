/- Two sets of four states compared. The program's sets of states: what two have in common, what is reached over a map that is ranged over in whatever order; nothing that was there changes. Condition: the map's moves lie between the four states. -/
import Derived.Test.YtjnbdpejgbbfdaaReachP
import Derived.ChangeKeysEq
import Derived.WalkKit
import Derived.Test.YtjnbdpejgbbfdaaTurned
import Derived.Test.YtjnbdpejgbbfdaaMarkA
namespace Go.Proofs.Ytjnbdpejgbbfdaa
open Go.RowKit
set_option maxHeartbeats 1000000
set_option maxRecDepth 100000
theorem info_bool : ∃ i, Try.prog.info? 4 = some i := by
  have h : (Try.prog.info? 4).isSome = true := by kernel_rfl
  exact Option.isSome_iff_exists.1 h
theorem eq_four (u v : Nat → Bool) (w : World) : (Op.equalIn 10000 43 (.agg #[.bool (u 0), .bool (u 1), .bool (u 2), .bool (u 3)]) (.agg #[.bool (v 0), .bool (v 1), .bool (v 2), .bool (v 3)])).run Try.prog w = .ok (u 0 == v 0 && (u 1 == v 1 && (u 2 == v 2 && u 3 == v 3))) w := by
  obtain ⟨i, hi⟩ := info_bool
  have hp : Try.prog.plainKey 4 = true := by kernel_rfl
  have hc : Try.prog.cellsOf 4 = 1 := by kernel_rfl
  rw [run_equalIn_array w 9999 _ _ Try.underlying43 hi]
  have hr : List.range 4 = [0, 1, 2, 3] := rfl
  have pu : ∀ (a b c d : Value) (k : Nat) (x : Value), (#[a, b, c, d] : Array Value)[k]? = some x → (part 4 #[a, b, c, d] k).run Try.prog w = .ok x w := fun a b c d k x h => run_part_plain w hp h
  have e : ∀ x y : Bool, (Op.equalIn 9999 4 (.bool x) (.bool y)).run Try.prog w = .ok (x == y) w := fun x y => run_equalIn_bool w 9998 _ x y Try.underlying4
  rw [hr, hc]
  have u0 := pu (.bool (u 0)) (.bool (u 1)) (.bool (u 2)) (.bool (u 3)) 0 (.bool (u 0)) rfl
  have u1 := pu (.bool (u 0)) (.bool (u 1)) (.bool (u 2)) (.bool (u 3)) 1 (.bool (u 1)) rfl
  have u2 := pu (.bool (u 0)) (.bool (u 1)) (.bool (u 2)) (.bool (u 3)) 2 (.bool (u 2)) rfl
  have u3 := pu (.bool (u 0)) (.bool (u 1)) (.bool (u 2)) (.bool (u 3)) 3 (.bool (u 3)) rfl
  have v0 := pu (.bool (v 0)) (.bool (v 1)) (.bool (v 2)) (.bool (v 3)) 0 (.bool (v 0)) rfl
  have v1 := pu (.bool (v 0)) (.bool (v 1)) (.bool (v 2)) (.bool (v 3)) 1 (.bool (v 1)) rfl
  have v2 := pu (.bool (v 0)) (.bool (v 1)) (.bool (v 2)) (.bool (v 3)) 2 (.bool (v 2)) rfl
  have v3 := pu (.bool (v 0)) (.bool (v 1)) (.bool (v 2)) (.bool (v 3)) 3 (.bool (v 3)) rfl
  rcases h0 : (u 0 == v 0) with _ | _ <;> rcases h1 : (u 1 == v 1) with _ | _ <;> rcases h2 : (u 2 == v 2) with _ | _ <;> rcases h3 : (u 3 == v 3) with _ | _ <;> simp [Op.eqItems, u0, u1, u2, u3, v0, v1, v2, v3, e, h0, h1, h2, h3]
theorem same_four {u v : Nat → Bool} (h : (u 0 == v 0 && (u 1 == v 1 && (u 2 == v 2 && u 3 == v 3))) = true) : ∀ q, q < 4 → u q = v q := by
  simp only [Bool.and_eq_true, beq_iff_eq] at h
  obtain ⟨h0, h1, h2, h3⟩ := h
  intro q hq
  match q, hq with
  | 0, _ => exact h0
  | 1, _ => exact h1
  | 2, _ => exact h2
  | 3, _ => exact h3
end Go.Proofs.Ytjnbdpejgbbfdaa
namespace Go.Proofs.Ytjnbdpejgbbfdaa
open Go.RowKit
set_option maxHeartbeats 4000000
set_option maxRecDepth 100000
set_option linter.unusedVariables false

def vecB (u : VB) : Array Value := #[.bool (u 0), .bool (u 1), .bool (u 2), .bool (u 3)]
def putB (u : VB) (q : Nat) (b : Bool) : VB := fun i => if i = q then b else u i
theorem fourB {q : Nat} (h : q < 4) : q = 0 ∨ q = 1 ∨ q = 2 ∨ q = 3 := by omega
theorem vecB_set (u : VB) {q : Nat} (h : q < 4) (b : Bool) : (vecB u).setIfInBounds q (.bool b) = vecB (putB u q b) := by
  rcases fourB h with rfl | rfl | rfl | rfl <;> simp [vecB, putB]
theorem vecB_cell {w : World} {g : Nat} {t : TypeId} {u : VB} (h : Blk w g t (vecB u)) {q : Nat} (hq : q < 4) : w.cell? ⟨g, q, none⟩ = some (.bool (u q)) := by
  rw [h.cell q]
  rcases fourB hq with rfl | rfl | rfl | rfl <;> rfl
theorem vecB_congr {u v : VB} (h : ∀ q, q < 4 → u q = v q) : vecB u = vecB v := by
  unfold vecB; rw [h 0 (by omega), h 1 (by omega), h 2 (by omega), h 3 (by omega)]
def andB (a b : VB) (k : Nat) : VB := fun q => if q < k then a q && b q else a q
theorem andB_put (a b : VB) (k : Nat) : putB (andB a b k) k (a k && b k) = andB a b (k + 1) := by
  funext q
  unfold putB andB
  by_cases h : q = k
  · subst h; simp
  · rw [if_neg h]
    by_cases h2 : q < k
    · rw [if_pos h2, if_pos (by omega)]
    · rw [if_neg h2, if_neg (by omega)]
theorem common_any (a b : VB) (w : World) :
    Calls Try.prog 33 #[.agg (vecB a), .agg (vecB b)] w fun e w' => e = .returned (.agg (vecB (fun q => a q && b q))) ∧ Below w.heap.size w w' := by
  have K0 : Hid (Blk (((w.alloc (.cells (vecB a) 43)).alloc (.cells (vecB b) 43)).alloc (.cells (vecB (fun _ => false)) 43)) w.heap.size 43 (vecB a)) := ((Blk.new w _ _).alloc _).alloc _
  have K1 : Hid (Blk (((w.alloc (.cells (vecB a) 43)).alloc (.cells (vecB b) 43)).alloc (.cells (vecB (fun _ => false)) 43)) (w.heap.size + 1) 43 (vecB b)) := (blk_new (by simp)).alloc _
  have K2 : Hid (Blk (((w.alloc (.cells (vecB a) 43)).alloc (.cells (vecB b) 43)).alloc (.cells (vecB (fun _ => false)) 43)) (w.heap.size + 1 + 1) 43 (vecB (fun _ => false))) := blk_new (by simp)
  have B0 := Lib.hid (below_a3 w (.cells (vecB a) 43) (.cells (vecB b) 43) (.cells (vecB (fun _ => false)) 43))
  have ev : (#[.bool false, .bool false, .bool false, .bool false] : Array Value) = vecB (fun _ => false) := rfl
  obtain ⟨G, hG⟩ : ∃ G, G = w.heap.size := ⟨_, rfl⟩
  obtain ⟨H, hH⟩ : ∃ G, G = w.heap.size + 1 := ⟨_, rfl⟩
  obtain ⟨R, hR⟩ : ∃ G, G = w.heap.size + 1 + 1 := ⟨_, rfl⟩
  rw [← hR] at K2
  rw [← hH] at K1
  rw [← hG] at K0
  go_enter Try.func33, Try.ntmps33
  go_wp2_with fail
  rw [← hR, ← hH]
  generalize ((w.alloc (.cells (vecB a) 43)).alloc (.cells (vecB b) 43)).alloc (.cells (vecB (fun _ => false)) 43) = w3 at K0 K1 K2 B0 ⊢
  have hwG : w.heap.size = G := hG.symm
  have hGH : G < H := by omega
  have hHR : H < R := by omega
  rw [hwG] at B0 ⊢
  have HWG := Lib.hid hwG
  clear ev hG hH hR hwG
  go_loopw [6] (fun i wr => ∃ k : Nat, k ≤ 4 ∧ i = .int .i64 k ∧ Hid (Blk wr G 43 (vecB (andB a b k))) ∧ Hid (Blk wr H 43 (vecB b)) ∧ Hid (Blk wr R 43 (vecB (fun _ => false))) ∧ Hid (Below G w wr)) (fun i _ => 4 - (intOf i).toNat)
  case atStart => exact ⟨0, Nat.zero_le _, rfl, K0, K1, K2, B0⟩
  case round =>
    obtain ⟨k, hk, rfl, hg, hh, hr, hb⟩ := hrel
    by_cases hlt : k < 4
    · have hk0 : (0 : Int) ≤ (k : Int) := by omega
      have hk1 : (k : Int) < 4 := by omega
      have cg := vecB_cell hg.out hlt
      have ch := vecB_cell hh.out hlt
      have fg := hg.out.frozen k
      have ea : andB a b k k = a k := by unfold andB; rw [if_neg (Nat.lt_irrefl _)]
      rw [ea] at cg
      have HP := Lib.hid (andB_put a b k)
      clear ea
      rcases hak : a k with _ | _
      · rw [hak] at cg HP
        go_wp2_with fail
        have hgs : wr.grownBy (wr.setCell ⟨G, k, none⟩ (.bool false)) (some G) := grow_set wr G k _
        go_roundw
        case rel =>
          refine ⟨k + 1, by omega, by go_num, ?_, Lib.hid (hh.out.stay hgs (by intro e; cases e; omega)), Lib.hid (hr.out.stay hgs (by intro e; cases e; omega)), Lib.hid (hb.out.setCell (p := ⟨G, k, none⟩) (Nat.le_refl _) _)⟩
          show Blk _ _ _ _
          rw [← HP.out, ← vecB_set _ hlt]
          exact hg.out.set_ k (.bool false)
        case measure => simp [intOf]; omega
      · rw [hak] at cg HP
        obtain ⟨y, hy⟩ : ∃ y, b k = y := ⟨_, rfl⟩
        rw [hy] at ch HP
        clear hy
        go_wp2_with fail
        have hgs : wr.grownBy (wr.setCell ⟨G, k, none⟩ (.bool y)) (some G) := grow_set wr G k _
        go_roundw
        case rel =>
          refine ⟨k + 1, by omega, by go_num, ?_, Lib.hid (hh.out.stay hgs (by intro e; cases e; omega)), Lib.hid (hr.out.stay hgs (by intro e; cases e; omega)), Lib.hid (hb.out.setCell (p := ⟨G, k, none⟩) (Nat.le_refl _) _)⟩
          show Blk _ _ _ _
          have e : (true && y) = y := by cases y <;> rfl
          rw [← HP.out, e, ← vecB_set _ hlt]
          exact hg.out.set_ k (.bool y)
        case measure => simp [intOf]; omega
    · have hk4 : k = 4 := by omega
      subst hk4
      have e4 : vecB (andB a b 4) = vecB (fun q => a q && b q) := vecB_congr (fun q hq => by unfold andB; rw [if_pos hq])
      rw [e4] at hg
      obtain ⟨u, hu⟩ : ∃ u : VB, (fun q => a q && b q) = u := ⟨_, rfl⟩
      rw [hu] at hg
      have HU := Lib.hid hu
      clear e4 hu
      obtain ⟨c0, c1, c2, c3⟩ := four_cells hg.out
      obtain ⟨d0, d1, d2, d3⟩ := four_cells hr.out
      obtain ⟨f0, f1, f2, f3⟩ := four_frozen hr.out
      go_wp2_with fail
      have HF4 := ((((hr.out.set_ 0 (.bool (u 0))).set_ 1 (.bool (u 1))).set_ 2 (.bool (u 2))).set_ 3 (.bool (u 3)))
      refine bodyPost_ret (results_1 rfl (gives_set (g := R) rfl HF4)) rfl ?_
      refine ⟨by rw [HU.out]; rfl, ?_⟩
      rw [HWG.out]
      exact (((hb.out.setCell (p := ⟨_, 0, none⟩) (by simp; omega) _).setCell (p := ⟨_, 1, none⟩) (by simp; omega) _).setCell (p := ⟨_, 2, none⟩) (by simp; omega) _).setCell (p := ⟨_, 3, none⟩) (by simp; omega) _

/-! Reaching. -/
def edgeF (F : FF) (p q : Nat) : Prop := ∃ l c, kwf p l q ∧ F p l q = some c
structure RInv (F : FF) (A S : VB) (left : LF) (u : VB) : Prop where
  sup : ∀ q, S q = true → u q = true
  sound : ∀ q, u q = true → Rch (edgeF F) A q
  done : ∀ (f t : Nat) (l : ByteArray) (c : Int), kwf f l t → F f l t = some c → left f l t = false → S f = true → u t = true
theorem RInv.start {F : FF} {A S : VB} (h : ∀ q, S q = true → Rch (edgeF F) A q) : RInv F A S (fun f l t => (F f l t).isSome) S :=
  ⟨fun _ h => h, h, fun f t l c _ hF hl _ => by rw [hF] at hl; cases hl⟩
theorem RInv.take {F : FF} {A S : VB} {left : LF} {u : VB} (h : RInv F A S left u) {f t : Nat} {l : ByteArray} {c : Int} (hk : kwf f l t) (hF : F f l t = some c) : RInv F A S (strike left f l t) (putB u t (u t || u f)) := by
  refine ⟨fun q hq => ?_, fun q hq => ?_, fun f' t' l' c' hk' hF' hl' hS => ?_⟩
  · unfold putB
    split
    · rename_i e; subst e; rw [h.sup q hq]; rfl
    · exact h.sup q hq
  · unfold putB at hq
    split at hq
    · rename_i e
      subst e
      rcases hu : u q with _ | _
      · rw [hu, Bool.false_or] at hq
        exact Rch.step (h.sound f hq) ⟨l, c, hk, hF⟩
      · exact h.sound q hu
    · exact h.sound q hq
  · unfold strike at hl'
    unfold putB
    rcases hlf : left f' l' t' with _ | _
    · have := h.done f' t' l' c' hk' hF' hlf hS
      split
      · rename_i e; subst e; rw [this]; rfl
      · exact this
    · rw [hlf, Bool.true_and] at hl'
      simp only [Bool.not_eq_false', decide_eq_true_eq] at hl'
      obtain ⟨e1, _, e3⟩ := hl'
      have e1' : f' = f := by omega
      have e3' : t' = t := by omega
      subst e1'
      subst e3'
      rw [if_pos rfl, h.sup _ hS]
      simp
theorem RInv.stop {F : FF} {A S : VB} {left : LF} {u : VB} (h : RInv F A S left u) (h0 : ∀ f l t, kwf f l t → left f l t = false) (hA : ∀ q, A q = true → S q = true) (hin : ∀ q, Rch (edgeF F) A q → q < 4) (he : ∀ q, q < 4 → u q = S q) : IsRch (edgeF F) A S := by
  have e : u = S := by
    funext q
    by_cases hq : q < 4
    · exact he q hq
    · rcases hs : S q with _ | _
      · rcases hu : u q with _ | _
        · rfl
        · exact absurd (hin q (h.sound q hu)) hq
      · exact absurd (hin q (h.sound q (h.sup q hs))) hq
  subst e
  exact ⟨hA, fun p q hp hE => by obtain ⟨l, c, hk, hF⟩ := hE; exact h.done p q l c hk hF (h0 _ _ _ hk) hp, h.sound⟩

def readB (w : World) (g : Nat) : VB := fun q => match w.cell? ⟨g, q, none⟩ with
  | some (.bool b) => b
  | _ => false
theorem grow_drew_ (w : World) (r : Option Nat) : w.grownBy w.drew r := ⟨rfl, rfl, rfl, Nat.le_refl _, fun _ _ _ => rfl⟩
theorem four_grow_ (w : World) (g : Nat) (v0 v1 v2 v3 : Value) : w.grownBy ((((w.setCell ⟨g, 0, none⟩ v0).setCell ⟨g, 1, none⟩ v1).setCell ⟨g, 2, none⟩ v2).setCell ⟨g, 3, none⟩ v3) (some g) := grow_trans (grow_trans (grow_trans (grow_set _ g 0 _) (grow_set _ g 1 _)) (grow_set _ g 2 _)) (grow_set _ g 3 _)
theorem read_cnt {w : World} {g : Nat} {t : TypeId} {u : VB} (h : Blk w g t (vecB u)) : cnt4 (readB w g) = cnt4 u := by
  unfold cnt4 readB
  rw [vecB_cell h (show 0 < 4 by omega), vecB_cell h (show 1 < 4 by omega), vecB_cell h (show 2 < 4 by omega), vecB_cell h (show 3 < 4 by omega)]

theorem reached_any (n M cnt : Nat) (A : VB) (b4 b5 b6 b7 : Bool) (F : FF) (w : World) (hA : ∀ q, A q = true → q < 4) (hF : ∀ f l t c, F f l t = some c → 0 ≤ f ∧ f < 4 ∧ 0 ≤ t ∧ t < 4) (hM : CMap w M cnt F) :
    Calls Try.prog 32 #[.agg #[.int .i64 n, .bool (A 0), .bool (A 1), .bool (A 2), .bool (A 3), .bool b4, .bool b5, .bool b6, .bool b7, .map (some M)]] w fun e w' => ∃ R, e = .returned (.agg (vecB R)) ∧ Hid (IsRch (edgeF F) A R) ∧ Hid (Below w.heap.size w w') := by
  have hMw := hM.lt
  have MM := Lib.hid hM
  have HF := Lib.hid hF
  have HIN : Hid (∀ q, Rch (edgeF F) A q → q < 4) := fun q h => by
    induction h with
    | base h => exact hA _ h
    | step h e ih =>
      obtain ⟨l, c, _, hc⟩ := e
      have := hF _ _ _ _ hc
      omega
  clear hM hF
  have K0 : Hid (Blk (((w.alloc (.cells #[.int .i64 n, .bool (A 0), .bool (A 1), .bool (A 2), .bool (A 3), .bool b4, .bool b5, .bool b6, .bool b7, .map (some M)] 46)).alloc (.cells #[.bool false, .bool false, .bool false, .bool false] 43)).alloc (.cells #[.bool (A 0), .bool (A 1), .bool (A 2), .bool (A 3)] 43)) w.heap.size 46 #[.int .i64 n, .bool (A 0), .bool (A 1), .bool (A 2), .bool (A 3), .bool b4, .bool b5, .bool b6, .bool b7, .map (some M)]) := ((Blk.new w _ _).alloc _).alloc _
  have K1 : Hid (Blk (((w.alloc (.cells #[.int .i64 n, .bool (A 0), .bool (A 1), .bool (A 2), .bool (A 3), .bool b4, .bool b5, .bool b6, .bool b7, .map (some M)] 46)).alloc (.cells #[.bool false, .bool false, .bool false, .bool false] 43)).alloc (.cells #[.bool (A 0), .bool (A 1), .bool (A 2), .bool (A 3)] 43)) (w.heap.size + 1) 43 (vecB (fun _ => false))) := (blk_new (by simp)).alloc _
  have K2 : Hid (Blk (((w.alloc (.cells #[.int .i64 n, .bool (A 0), .bool (A 1), .bool (A 2), .bool (A 3), .bool b4, .bool b5, .bool b6, .bool b7, .map (some M)] 46)).alloc (.cells #[.bool false, .bool false, .bool false, .bool false] 43)).alloc (.cells #[.bool (A 0), .bool (A 1), .bool (A 2), .bool (A 3)] 43)) (w.heap.size + 1 + 1) 43 (vecB A)) := blk_new (by simp)
  have B0 := Lib.hid (below_a3 w (.cells #[.int .i64 n, .bool (A 0), .bool (A 1), .bool (A 2), .bool (A 3), .bool b4, .bool b5, .bool b6, .bool b7, .map (some M)] 46) (.cells #[.bool false, .bool false, .bool false, .bool false] 43) (.cells #[.bool (A 0), .bool (A 1), .bool (A 2), .bool (A 3)] 43))
  have M0 : Hid (CMap (((w.alloc (.cells #[.int .i64 n, .bool (A 0), .bool (A 1), .bool (A 2), .bool (A 3), .bool b4, .bool b5, .bool b6, .bool b7, .map (some M)] 46)).alloc (.cells #[.bool false, .bool false, .bool false, .bool false] 43)).alloc (.cells #[.bool (A 0), .bool (A 1), .bool (A 2), .bool (A 3)] 43)) M cnt F) := MM.out.below B0.out
  go_enter Try.func32, Try.ntmps32
  go_wp2_with fail
  generalize ((w.alloc (.cells #[.int .i64 n, .bool (A 0), .bool (A 1), .bool (A 2), .bool (A 3), .bool b4, .bool b5, .bool b6, .bool b7, .map (some M)] 46)).alloc (.cells #[.bool false, .bool false, .bool false, .bool false] 43)).alloc (.cells #[.bool (A 0), .bool (A 1), .bool (A 2), .bool (A 3)] 43) = w3 at K0 K1 K2 B0 M0 ⊢
  obtain ⟨R, hR⟩ : ∃ R, R = w.heap.size + 1 := ⟨_, rfl⟩
  obtain ⟨T, hT⟩ : ∃ T, T = w.heap.size + 1 + 1 := ⟨_, rfl⟩
  rw [← hT] at K2 ⊢
  rw [← hR] at K1 ⊢
  have hRw : w.heap.size < R := by omega
  have hTR : R < T := by omega
  clear hR hT MM
  go_loopw [] (fun wr => ∃ S : VB, Hid (∀ q, A q = true → S q = true) ∧ Hid (∀ q, S q = true → Rch (edgeF F) A q) ∧ Hid (Blk wr T 43 (vecB S)) ∧ Hid (Blk wr w.heap.size 46 #[.int .i64 n, .bool (A 0), .bool (A 1), .bool (A 2), .bool (A 3), .bool b4, .bool b5, .bool b6, .bool b7, .map (some M)]) ∧ Hid (Blk wr R 43 (vecB (fun _ => false))) ∧ Hid (CMap wr M cnt F) ∧ Hid (Below w.heap.size w wr)) (fun wr => 4 - cnt4 (readB wr T))
  case atStart => exact ⟨A, fun q h => h, fun q h => Rch.base h, K2, K0, K1, M0, B0⟩
  case round =>
    clear K0 K1 K2 B0 M0
    obtain ⟨S, hsA, hsR, ht, hx, hr, hm, hb⟩ := hrel
    have HMS : Hid (cnt4 (readB wr T) = cnt4 S) := read_cnt ht.out
    obtain ⟨c0, c1, c2, c3⟩ := four_cells ht.out
    have pc9 := hx.out.cell 9
    simp at pc9
    go_upto_region 3 with fail
    have U2 : Hid (Blk (wr.alloc (.cells #[.bool (S 0), .bool (S 1), .bool (S 2), .bool (S 3)] 43)) wr.heap.size 43 (vecB S)) := Blk.new wr _ _
    have T2 := Lib.hid (ht.out.alloc (.cells #[.bool (S 0), .bool (S 1), .bool (S 2), .bool (S 3)] 43))
    have X2 := Lib.hid (hx.out.alloc (.cells #[.bool (S 0), .bool (S 1), .bool (S 2), .bool (S 3)] 43))
    have R2 := Lib.hid (hr.out.alloc (.cells #[.bool (S 0), .bool (S 1), .bool (S 2), .bool (S 3)] 43))
    have M2 := Lib.hid (hm.out.kept (World.grownBy_alloc wr (.cells #[.bool (S 0), .bool (S 1), .bool (S 2), .bool (S 3)] 43) none) (by simp))
    have B2 := Lib.hid (below_al hb.out (Nat.le_refl _) (.cells #[.bool (S 0), .bool (S 1), .bool (S 2), .bool (S 3)] 43))
    obtain ⟨G, hG⟩ : ∃ G, G = wr.heap.size := ⟨_, rfl⟩
    have hs2 : G + 1 = (wr.alloc (.cells #[.bool (S 0), .bool (S 1), .bool (S 2), .bool (S 3)] 43)).heap.size := by rw [hG]; exact (World.size_alloc _ _).symm
    have hTw := Blk.lt ht.out
    rw [← hG] at U2 hTw ⊢
    generalize wr.alloc (.cells #[.bool (S 0), .bool (S 1), .bool (S 2), .bool (S 3)] 43) = w2 at U2 T2 X2 R2 M2 B2 hs2 ⊢
    have hMG : M < G := by omega
    have pc9 := X2.out.cell 9
    simp at pc9
    clear ht hx hr hm hb c0 c1 c2 c3 hG
    go_wp2_with (first
      | (at_range; refine wpList_range_c _ rfl _ rfl M cnt F rfl M2.out ?_; intro w3 cn hran hgr hs3)
      | fail)
    go_frame
    rw [← hs2]
    rw [← hs2] at hran
    have hs4 : w3.heap.size = G + 2 := by omega
    have U3 := Lib.hid (U2.out.stay hgr (by simp))
    have T3 := Lib.hid (T2.out.stay hgr (by simp))
    have X3 := Lib.hid (X2.out.stay hgr (by simp))
    have R3 := Lib.hid (R2.out.stay hgr (by simp))
    have B3 : Hid (Below w.heap.size w w3) := B2.out.grown hgr B2.out.size (fun j hj => by cases hj)
    have RA := Lib.hid hran
    clear U2 T2 X2 R2 B2 M2 hran hgr pc9
    go_loopw [5] (fun _ wq => ∃ (left : LF) (cn : Nat) (u : VB), Hid (CRan wq M (G + 1) cnt F left cn) ∧ Hid (RInv F A S left u) ∧ Hid (Blk wq G 43 (vecB u)) ∧ Hid (Ins G (G + 2) w3 wq)) (fun _ wq => wq.rangeLeft M (G + 1))
    case atStart => exact ⟨_, _, S, RA, RInv.start hsR.out, U3, rfl, rfl, rfl, Nat.le_refl _, fun _ _ _ => rfl⟩
    case round =>
      obtain ⟨left, cn, u, hra, hri, hu, hins⟩ := hrel
      go_wp2_with (first
        | (at_next; refine wpList_next_c _ rfl _ rfl M (G + 1) cnt F left cn rfl hra.out ?_ ?_)
        | fail)
      · intro hl0
        have T4 := Lib.hid (hins.out.blk T3.out (Or.inl (by omega)))
        have X4 := Lib.hid (hins.out.blk X3.out (Or.inl (by omega)))
        have R4 := Lib.hid (hins.out.blk R3.out (Or.inl (by omega)))
        have B4 := Lib.hid (hins.out.below B3.out (by omega) B3.out.size)
        have M4 := Lib.hid hra.out.owns
        have HL0 := Lib.hid hl0
        obtain ⟨u0, u1, u2, u3⟩ := four_cells hu.out
        obtain ⟨t0, t1, t2, t3⟩ := four_cells T4.out
        clear hins hl0 hra
        go_wp2_with fail
        rw [eq_four u S]
        simp only [Result.andThen]
        rw [Oper.upon_value]
        rcases hc : (u 0 == S 0 && (u 1 == S 1 && (u 2 == S 2 && u 3 == S 3))) with _ | _
        · have HU := Lib.hid hu.out
          have HNE : Hid (u ≠ S) := fun e => by
            rw [e] at hc
            simp at hc
          clear hc
          obtain ⟨f0, f1, f2, f3⟩ := four_frozen T4.out
          go_wp2_with fail
          have HF4 := Lib.hid ((((T4.out.set_ 0 (.bool (u 0))).set_ 1 (.bool (u 1))).set_ 2 (.bool (u 2))).set_ 3 (.bool (u 3)))
          have hg := four_grow_ wr T (.bool (u 0)) (.bool (u 1)) (.bool (u 2)) (.bool (u 3))
          have hlt4 : cnt4 S < cnt4 u := cnt4_lt hri.out.sup (fun q h => HIN.out q (hri.out.sound q h)) (fun e => HNE.out e.symm)
          have hle4 : cnt4 u ≤ 4 := cnt4_le u 4 (fun q h => HIN.out q (hri.out.sound q h)) (Nat.le_refl _)
          go_roundw
          case rel =>
            exact ⟨u, fun q h => hri.out.sup q (hsA.out q h), hri.out.sound, HF4, Lib.hid (X4.out.stay hg (by intro e; cases e; omega)), Lib.hid (R4.out.stay hg (by intro e; cases e; omega)), Lib.hid (M4.out.kept hg (by intro e; cases e; omega)), Lib.hid (B4.out.grown hg B4.out.size (fun j hj => by cases hj; omega))⟩
          case measure =>
            have h1 := read_cnt (u := u) HF4.out
            rw [h1, HMS.out]
            omega
        · have HIS : Hid (IsRch (edgeF F) A S) := hri.out.stop HL0.out hsA.out HIN.out (same_four hc)
          clear hc
          obtain ⟨d0, d1, d2, d3⟩ := four_cells R4.out
          obtain ⟨f0, f1, f2, f3⟩ := four_frozen R4.out
          go_wp2_with fail
          have HF4 := ((((R4.out.set_ 0 (.bool (S 0))).set_ 1 (.bool (S 1))).set_ 2 (.bool (S 2))).set_ 3 (.bool (S 3)))
          refine bodyPost_ret (results_1 rfl (gives_set (g := R) rfl HF4)) rfl ?_
          exact ⟨S, rfl, HIS, Lib.hid (B4.out.grown (four_grow_ _ _ _ _ _ _) B4.out.size (fun j hj => by cases hj; omega))⟩
      · intro f le t c w4 cn' hk hFs hlf hwc hra' hlt hgr hsz hen
        obtain ⟨f0, f1, t0, t1⟩ := HF.out _ _ _ _ hFs
        obtain ⟨f, rfl⟩ : ∃ i : Nat, f = (i : Int) := ⟨f.toNat, by omega⟩
        obtain ⟨t, rfl⟩ : ∃ i : Nat, t = (i : Int) := ⟨t.toNat, by omega⟩
        have hf4 : f < 4 := by omega
        have ht4 : t < 4 := by omega
        have HTK : Hid (RInv F A S (strike left f le t) (putB u t (u t || u f))) := hri.out.take hk hFs
        have U4 := Lib.hid (hu.out.stay hgr (by intro e; cases e; omega))
        have J4 := Lib.hid (hins.out.trans (Ins.of_grow hgr (fun j e => by cases e; omega)))
        have hG4 := Blk.lt U4.out
        have HCN : Hid (cn' < wr.rangeLeft M (G + 1)) := by show _ < _; rw [hra.out.left_eq]; exact hlt
        have RA4 := Lib.hid hra'
        have hr4 := RA4.out.lt
        clear hu hins hgr hra hra' hlt hsz f0 t0 hri
        go_upto_region 6 with fail
        have hs2' : w2.heap.size = G + 1 := hs2.symm
        rw [hs2'] at RA4 hr4
        clear hs2'
        obtain ⟨V, hV⟩ : ∃ V, V = w4.heap.size := ⟨_, rfl⟩
        have P5 : Hid (Blk (w4.alloc (.cells #[.int .i64 f, .string le, .int .i64 t] 64)) V 64 #[.int .i64 f, .string le, .int .i64 t]) := by rw [hV]; exact Blk.new _ _ _
        have U5 := Lib.hid (U4.out.alloc (.cells #[.int .i64 f, .string le, .int .i64 t] 64))
        have RA5 := Lib.hid (RA4.out.kept (World.grownBy_alloc w4 (.cells #[.int .i64 f, .string le, .int .i64 t] 64) none) (by simp) (by simp))
        have J5 := Lib.hid (J4.out.trans (Ins.of_grow (B := G) (T := G + 2) (World.grownBy_alloc w4 (.cells #[.int .i64 f, .string le, .int .i64 t] 64) none) (fun j e => by cases e)))
        have hGV : G + 2 ≤ V := by omega
        rw [← hV]
        generalize w4.alloc (.cells #[.int .i64 f, .string le, .int .i64 t] 64) = w5 at P5 U5 RA5 J5 ⊢
        have p0 := P5.out.cell 0
        have p2 := P5.out.cell 2
        simp at p0 p2
        have gt := vecB_cell U5.out ht4
        have gf0 := vecB_cell U5.out hf4
        obtain ⟨y, hy⟩ : ∃ y, u f = y := ⟨_, rfl⟩
        rw [hy] at gf0 HTK
        have i0 : (0 : Int) ≤ (f : Int) := by omega
        have i1 : (f : Int) < 4 := by omega
        have i2 : (0 : Int) ≤ (t : Int) := by omega
        have i3 : (t : Int) < 4 := by omega
        clear U4 J4 RA4 hV hen hr4 hG4 hy
        rcases hut : u t with _ | _
        · rw [hut] at gt HTK
          rw [Bool.false_or] at HTK
          clear hut
          go_wp2_with fail
          have hS0 : Hid (w5.drew = w5.drew) ∧ w5.drew.cell? ⟨V, 0, none⟩ = some (.int .i64 f) ∧ w5.drew.cell? ⟨V, 2, none⟩ = some (.int .i64 t) ∧ w5.drew.cell? ⟨G, t, none⟩ = some (.bool false) ∧ w5.drew.cell? ⟨G, f, none⟩ = some (.bool y) := ⟨rfl, p0, p2, gt, gf0⟩
          refine wp_region_Z (S := fun w' => Hid (w' = w5.drew) ∧ w'.cell? ⟨V, 0, none⟩ = some (.int .i64 f) ∧ w'.cell? ⟨V, 2, none⟩ = some (.int .i64 t) ∧ w'.cell? ⟨G, t, none⟩ = some (.bool false) ∧ w'.cell? ⟨G, f, none⟩ = some (.bool y)) (by kernel_rfl) hS0 (fun hS => ?_)
          clear hS0
          refine wpAnyZ_take (i := 0) (v := ?vq0) rfl (by kernel_rfl) (by kernel_rfl) (by kernel_rfl) (by kernel_rfl) (fun _ _ _ h => h) (Or.inl ⟨by rfl, ?yq0⟩) (by with_reducible assumption) ?rq0
          case yq0 => (intro w hSw; (try dsimp only at hSw); go_simp; (try with_reducible rfl))
          simp only [Act.put, List.setIfInBounds_toArray]
          refine wpAnyZ_take (i := 1) (v := ?vq1) rfl (by kernel_rfl) (by kernel_rfl) (by kernel_rfl) (by kernel_rfl) (fun _ _ _ h => h) (Or.inl ⟨by rfl, ?yq1⟩) (by with_reducible assumption) ?rq1
          case yq1 => (intro w hSw; (try dsimp only at hSw); go_simp; (try with_reducible rfl))
          simp only [Act.put]
          refine wpAnyZ_take (i := 2) (v := ?vq2) rfl (by kernel_rfl) (by kernel_rfl) (by kernel_rfl) (by kernel_rfl) (fun _ _ _ h => h) (Or.inl ⟨by rfl, ?yq2⟩) (by with_reducible assumption) ?rq2
          case yq2 => (intro w hSw; (try dsimp only at hSw); go_simp; (try with_reducible rfl))
          simp only [Act.put]
          refine wpAnyZ_take (i := 3) (v := ?vq3) rfl (by kernel_rfl) (by kernel_rfl) (by kernel_rfl) (by kernel_rfl) (fun _ _ _ h => h) (Or.inl ⟨by rfl, ?yq3⟩) (by with_reducible assumption) ?rq3
          case yq3 => (intro w hSw; (try dsimp only at hSw); go_simp; (try with_reducible rfl))
          simp only [Act.put]
          refine wpAnyZ_take (i := 4) (v := ?vq4) rfl (by kernel_rfl) (by kernel_rfl) (by kernel_rfl) (by kernel_rfl) (fun _ _ _ h => h) (Or.inl ⟨by rfl, ?yq4⟩) (by with_reducible assumption) ?rq4
          case yq4 => (intro w hSw; (try dsimp only at hSw); go_simp; (try with_reducible rfl))
          simp only [Act.put]
          refine wpAnyZ_take (i := 5) (v := ?vq5) rfl (by kernel_rfl) (by kernel_rfl) (by kernel_rfl) (by kernel_rfl) (fun _ _ _ h => h) (Or.inl ⟨by rfl, ?yq5⟩) (by with_reducible assumption) ?rq5
          case yq5 => (intro w hSw; (try dsimp only at hSw); go_simp; (try with_reducible rfl))
          simp only [Act.put]
          refine wpAnyZ_take (i := 6) (v := ?vq6) rfl (by kernel_rfl) (by kernel_rfl) (by kernel_rfl) (by kernel_rfl) (fun _ _ _ h => h) (Or.inl ⟨by rfl, ?yq6⟩) (by with_reducible assumption) ?rq6
          case yq6 => (intro w hSw; (try dsimp only at hSw); go_simp; (try with_reducible rfl))
          simp only [Act.put]
          refine wpAnyZ_take (i := 7) (v := ?vq7) rfl (by kernel_rfl) (by kernel_rfl) (by kernel_rfl) (by kernel_rfl) (fun _ _ _ h => h) (Or.inl ⟨by kernel_rfl, ?yq7⟩) (by with_reducible assumption) ?rq7
          case yq7 => (intro w hSw; (try dsimp only at hSw); go_simp; (try with_reducible rfl))
          simp only [Act.put]
          refine wpAnyZ_take (i := 8) (v := ?vq8) rfl (by kernel_rfl) (by kernel_rfl) (by kernel_rfl) (by kernel_rfl) (fun _ _ _ h => h) (Or.inl ⟨by kernel_rfl, ?yq8⟩) (by with_reducible assumption) ?rq8
          case yq8 => (intro w hSw; (try dsimp only at hSw); go_simp; (try with_reducible rfl))
          simp only [Act.put]
          refine wpAnyZ_take (i := 9) (v := ?vq9) rfl (by kernel_rfl) (by kernel_rfl) (by kernel_rfl) (by kernel_rfl) (fun _ _ _ h => h) (Or.inl ⟨by kernel_rfl, ?yq9⟩) (by with_reducible assumption) ?rq9
          case yq9 => (intro w hSw; (try dsimp only at hSw); go_simp; (try with_reducible rfl))
          simp only [Act.put]
          refine wpAnyZ_take (i := 10) (v := ?vq10) rfl (by kernel_rfl) (by kernel_rfl) (by kernel_rfl) (by kernel_rfl) (fun _ _ _ h => h) (Or.inl ⟨by kernel_rfl, ?yq10⟩) (by with_reducible assumption) ?rq10
          case yq10 => (intro w hSw; (try dsimp only at hSw); go_simp; (try with_reducible rfl))
          simp only [Act.put]
          refine wpAnyZ_take (i := 11) (v := ?vq11) rfl (by kernel_rfl) (by kernel_rfl) (by kernel_rfl) (by kernel_rfl) (fun _ _ _ h => h) (Or.inl ⟨by rfl, ?yq11⟩) (by with_reducible assumption) ?rq11
          case yq11 => (intro w hSw; (try dsimp only at hSw); go_simp; (try with_reducible rfl))
          simp only [Act.put]
          refine wpAnyZ_take (i := 12) (v := ?vq12) rfl (by kernel_rfl) (by kernel_rfl) (by kernel_rfl) (by kernel_rfl) (fun _ _ _ h => h) (Or.inl ⟨by rfl, ?yq12⟩) (by with_reducible assumption) ?rq12
          case yq12 => (intro w hSw; (try dsimp only at hSw); go_simp; (try with_reducible rfl))
          simp only [Act.put]
          have gf : w5.frozen? ⟨G, t, none⟩ = false := U5.out.frozen t
          have hg6 : w5.grownBy (w5.setCell ⟨G, t, none⟩ (.bool y)).drew (some G) := grow_trans (grow_set w5 G t (.bool y)) (grow_drew_ _ (some G))
          have RA6 := Lib.hid (RA5.out.kept hg6 (by intro e; cases e; omega) (by simp))
          have J6 := Lib.hid (J5.out.trans (Ins.of_grow (B := G) (T := G + 2) hg6 (fun j e => by cases e; omega)))
          have U6 : Hid (Blk (w5.setCell ⟨G, t, none⟩ (.bool y)).drew G 43 (vecB (putB u t y))) := by
            have h := U5.out.set_ t (.bool y)
            rw [vecB_set u ht4] at h
            exact h
          clear hg6 P5 U5 RA5 J5
          refine wpAnyZ_last (i := 13) (by kernel_rfl) rfl (by kernel_rfl) ?_
          intro K3 hK3
          go_simp
          refine hK3.out _ _ ?_
          clear hK3
          go_wp2_with fail
          go_roundw
          case rel => exact ⟨_, ⟨cn', by rw [← hs2]; exact RA6⟩, _, HTK, U6⟩
          case measure => rw [← hs2, RA6.out.left_eq]; exact HCN.out
        · rw [hut] at gt HTK
          rw [Bool.true_or] at HTK
          clear hut
          go_wp2_with fail
          have hS0 : Hid (w5.drew = w5.drew) ∧ w5.drew.cell? ⟨V, 0, none⟩ = some (.int .i64 f) ∧ w5.drew.cell? ⟨V, 2, none⟩ = some (.int .i64 t) ∧ w5.drew.cell? ⟨G, t, none⟩ = some (.bool true) ∧ w5.drew.cell? ⟨G, f, none⟩ = some (.bool y) := ⟨rfl, p0, p2, gt, gf0⟩
          refine wp_region_Z (S := fun w' => Hid (w' = w5.drew) ∧ w'.cell? ⟨V, 0, none⟩ = some (.int .i64 f) ∧ w'.cell? ⟨V, 2, none⟩ = some (.int .i64 t) ∧ w'.cell? ⟨G, t, none⟩ = some (.bool true) ∧ w'.cell? ⟨G, f, none⟩ = some (.bool y)) (by kernel_rfl) hS0 (fun hS => ?_)
          clear hS0
          refine wpAnyZ_take (i := 0) (v := ?vp0) rfl (by kernel_rfl) (by kernel_rfl) (by kernel_rfl) (by kernel_rfl) (fun _ _ _ h => h) (Or.inl ⟨by rfl, ?yp0⟩) (by with_reducible assumption) ?rp0
          case yp0 => (intro w hSw; (try dsimp only at hSw); go_simp; (try with_reducible rfl))
          simp only [Act.put, List.setIfInBounds_toArray]
          refine wpAnyZ_take (i := 1) (v := ?vp1) rfl (by kernel_rfl) (by kernel_rfl) (by kernel_rfl) (by kernel_rfl) (fun _ _ _ h => h) (Or.inl ⟨by rfl, ?yp1⟩) (by with_reducible assumption) ?rp1
          case yp1 => (intro w hSw; (try dsimp only at hSw); go_simp; (try with_reducible rfl))
          simp only [Act.put]
          refine wpAnyZ_take (i := 2) (v := ?vp2) rfl (by kernel_rfl) (by kernel_rfl) (by kernel_rfl) (by kernel_rfl) (fun _ _ _ h => h) (Or.inl ⟨by rfl, ?yp2⟩) (by with_reducible assumption) ?rp2
          case yp2 => (intro w hSw; (try dsimp only at hSw); go_simp; (try with_reducible rfl))
          simp only [Act.put]
          refine wpAnyZ_take (i := 3) (v := ?vp3) rfl (by kernel_rfl) (by kernel_rfl) (by kernel_rfl) (by kernel_rfl) (fun _ _ _ h => h) (Or.inl ⟨by rfl, ?yp3⟩) (by with_reducible assumption) ?rp3
          case yp3 => (intro w hSw; (try dsimp only at hSw); go_simp; (try with_reducible rfl))
          simp only [Act.put]
          refine wpAnyZ_take (i := 4) (v := ?vp4) rfl (by kernel_rfl) (by kernel_rfl) (by kernel_rfl) (by kernel_rfl) (fun _ _ _ h => h) (Or.inl ⟨by rfl, ?yp4⟩) (by with_reducible assumption) ?rp4
          case yp4 => (intro w hSw; (try dsimp only at hSw); go_simp; (try with_reducible rfl))
          simp only [Act.put]
          refine wpAnyZ_take (i := 5) (v := ?vp5) rfl (by kernel_rfl) (by kernel_rfl) (by kernel_rfl) (by kernel_rfl) (fun _ _ _ h => h) (Or.inl ⟨by rfl, ?yp5⟩) (by with_reducible assumption) ?rp5
          case yp5 => (intro w hSw; (try dsimp only at hSw); go_simp; (try with_reducible rfl))
          simp only [Act.put]
          refine wpAnyZ_take (i := 6) (v := ?vp6) rfl (by kernel_rfl) (by kernel_rfl) (by kernel_rfl) (by kernel_rfl) (fun _ _ _ h => h) (Or.inl ⟨by rfl, ?yp6⟩) (by with_reducible assumption) ?rp6
          case yp6 => (intro w hSw; (try dsimp only at hSw); go_simp; (try with_reducible rfl))
          simp only [Act.put]
          refine wpAnyZ_take (i := 7) (v := undef) rfl (by kernel_rfl) (by kernel_rfl) (by kernel_rfl) (by kernel_rfl) (fun _ _ _ h => h) (Or.inr ⟨by kernel_rfl, rfl⟩) (by with_reducible assumption) ?_
          simp only [Act.put]
          refine wpAnyZ_take (i := 8) (v := undef) rfl (by kernel_rfl) (by kernel_rfl) (by kernel_rfl) (by kernel_rfl) (fun _ _ _ h => h) (Or.inr ⟨by kernel_rfl, rfl⟩) (by with_reducible assumption) ?_
          simp only [Act.put]
          refine wpAnyZ_take (i := 9) (v := undef) rfl (by kernel_rfl) (by kernel_rfl) (by kernel_rfl) (by kernel_rfl) (fun _ _ _ h => h) (Or.inr ⟨by kernel_rfl, rfl⟩) (by with_reducible assumption) ?_
          simp only [Act.put]
          refine wpAnyZ_take (i := 10) (v := undef) rfl (by kernel_rfl) (by kernel_rfl) (by kernel_rfl) (by kernel_rfl) (fun _ _ _ h => h) (Or.inr ⟨by kernel_rfl, rfl⟩) (by with_reducible assumption) ?_
          simp only [Act.put]
          refine wpAnyZ_take (i := 11) (v := ?vp11) rfl (by kernel_rfl) (by kernel_rfl) (by kernel_rfl) (by kernel_rfl) (fun _ _ _ h => h) (Or.inl ⟨by rfl, ?yp11⟩) (by with_reducible assumption) ?rp11
          case yp11 => (intro w hSw; (try dsimp only at hSw); go_simp; (try with_reducible rfl))
          simp only [Act.put]
          refine wpAnyZ_take (i := 12) (v := ?vp12) rfl (by kernel_rfl) (by kernel_rfl) (by kernel_rfl) (by kernel_rfl) (fun _ _ _ h => h) (Or.inl ⟨by rfl, ?yp12⟩) (by with_reducible assumption) ?rp12
          case yp12 => (intro w hSw; (try dsimp only at hSw); go_simp; (try with_reducible rfl))
          simp only [Act.put]
          have gf : w5.frozen? ⟨G, t, none⟩ = false := U5.out.frozen t
          have hg6 : w5.grownBy (w5.setCell ⟨G, t, none⟩ (.bool true)).drew (some G) := grow_trans (grow_set w5 G t (.bool true)) (grow_drew_ _ (some G))
          have RA6 := Lib.hid (RA5.out.kept hg6 (by intro e; cases e; omega) (by simp))
          have J6 := Lib.hid (J5.out.trans (Ins.of_grow (B := G) (T := G + 2) hg6 (fun j e => by cases e; omega)))
          have U6 : Hid (Blk (w5.setCell ⟨G, t, none⟩ (.bool true)).drew G 43 (vecB (putB u t true))) := by
            have h := U5.out.set_ t (.bool true)
            rw [vecB_set u ht4] at h
            exact h
          clear hg6 P5 U5 RA5 J5
          refine wpAnyZ_last (i := 13) (by kernel_rfl) rfl (by kernel_rfl) ?_
          intro K3 hK3
          go_simp
          refine hK3.out _ _ ?_
          clear hK3
          go_wp2_with fail
          go_roundw
          case rel => exact ⟨_, ⟨cn', by rw [← hs2]; exact RA6⟩, _, HTK, U6⟩
          case measure => rw [← hs2, RA6.out.left_eq]; exact HCN.out
end Go.Proofs.Ytjnbdpejgbbfdaa
