/- Rows of steps and automata of the call's own, marked and held, as the laws do it; automata as results. Conditions: at most 2^20 and one of each. -/
import Derived.Test.YtjnbdpejgbbfdaaMarkA
import Derived.Test.YtjnbdpejgbbfdaaEqA
namespace Go.Proofs.Ytjnbdpejgbbfdaa
open Go.RowKit
set_option maxHeartbeats 2000000
set_option maxRecDepth 100000
set_option linter.unusedVariables false

/-- Block g holds the steps ss, and behind them whatever. -/
def SX (w : World) (g : Nat) (t : TypeId) (ss : List StepD) (ex : List Value) : Prop := Blk w g t (flatS ss ++ ex).toArray
theorem SX.at_ {w : World} {g : Nat} {t : TypeId} {ss : List StepD} {ex : List Value} (h : SX w g t ss ex) {k : Nat} (hk : k < ss.length) : StepAt w g (k * 4) (ss.getD k default) := by
  obtain ⟨h0, h1, h2, h3⟩ := flatS_get ss k hk
  have hl := flatS_len ss
  refine ⟨?_, ?_, ?_, ?_⟩
  · rw [Blk.cell h, List.getElem?_toArray, List.getElem?_append_left (by omega)]; exact h0
  · rw [Blk.cell h, List.getElem?_toArray, List.getElem?_append_left (by omega)]; exact h1
  · rw [Blk.cell h, List.getElem?_toArray, List.getElem?_append_left (by omega)]; exact h2
  · rw [Blk.cell h, List.getElem?_toArray, List.getElem?_append_left (by omega)]; exact h3
theorem SX.fz {w : World} {g : Nat} {t : TypeId} {ss : List StepD} {ex : List Value} (h : SX w g t ss ex) (k : Nat) : w.frozen? ⟨g, k, none⟩ = false := Blk.frozen h k
theorem SX.below {w w' : World} {g : Nat} {t : TypeId} {ss : List StepD} {ex : List Value} (h : SX w g t ss ex) (hb : Below w.heap.size w w') : SX w' g t ss ex := Blk.below h hb (Blk.lt h)
theorem SX.of_set {w : World} {g : Nat} {t : TypeId} {ss us : List StepD} {ex : List Value} (h : SX w g t ss ex) {i : Nat} {u : Value} (hi : i < ss.length * 4) (he : (flatS ss).set i u = flatS us) : SX (w.setCell ⟨g, i, none⟩ u) g t us ex := by
  have h1 := Blk.set_ h i u
  unfold SX
  rw [← he, ← List.set_append_left _ _ (by rw [flatS_len]; exact hi)]
  simpa using h1
theorem SX.own {w : World} {B g n cap : Nat} {ss : List StepD} (h : w.ownsRow B 58 4 (.slice (some ⟨g, 0, none⟩) n cap) n (flatS ss)) :
    ∃ ex, SX w g 58 ss ex ∧ (flatS ss ++ ex).length = cap * 4 ∧ n ≤ cap ∧ cap ≤ maxLen ∧ B ≤ g ∧ ss.length = n := by
  have hl := h.1
  rcases h.2 with ⟨hv, _⟩ | ⟨g', cap', cur, hv, hb, hg, h1, h2, h3, h4⟩
  · cases hv
  · cases hv
    have e : cur.toList = flatS ss ++ cur.toList.drop (n * 4) := by rw [← h4, List.take_append_drop]
    refine ⟨cur.toList.drop (n * 4), ?_, ?_, h1, h2, hb, by rw [flatS_len] at hl; omega⟩
    · unfold SX Blk
      rw [← e]
      exact hg
    · rw [← e]; simpa using h3
theorem SX.to_own {w : World} {B g n cap : Nat} {us : List StepD} {ex : List Value} (h : SX w g 58 us ex) (hc : us.length * 4 + ex.length = cap * 4) (hn : us.length = n) (h1 : n ≤ cap) (h2 : cap ≤ maxLen) (hB : B ≤ g) :
    w.ownsRow B 58 4 (.slice (some ⟨g, 0, none⟩) n cap) n (flatS us) := by
  refine ⟨by rw [flatS_len, hn], .inr ⟨g, cap, _, rfl, hB, h, h1, h2, ?_, ?_⟩⟩
  · simp [flatS_len]; omega
  · show (flatS us ++ ex).take (n * 4) = _
    rw [List.take_append_of_le_length (by rw [flatS_len, hn]; exact Nat.le_refl _), List.take_of_length_le (by rw [flatS_len, hn]; exact Nat.le_refl _)]

theorem own4_under {w w' : World} {base n : Nat} {t : TypeId} {x : Value} {xs : List Value} (h : w.ownsRow base t 4 x n xs) (hb : Below w.heap.size w w') : w'.ownsRow base t 4 x n xs := by
  refine h.kept (row := none) ⟨hb.os, hb.tape, hb.output, hb.size, fun k hk _ => hb.block k hk⟩ ?_
  cases x.ownBlock
  · exact Or.inl rfl
  · exact Or.inr (by simp)
theorem own4_base {w : World} {base base' n : Nat} {t : TypeId} {x : Value} {xs : List Value} (h : w.ownsRow base t 4 x n xs) (hb : base' ≤ base) : w.ownsRow base' t 4 x n xs := by
  rcases h with ⟨h1, h2 | ⟨g, cap, cur, hv, hg, rest⟩⟩
  · exact ⟨h1, .inl h2⟩
  · exact ⟨h1, .inr ⟨g, cap, cur, hv, Nat.le_trans hb hg, rest⟩⟩
/-- Two rows of different element types share no block, whatever their strides. -/
theorem own_apart {w : World} {B B' n n' k k' : Nat} {t t' : TypeId} {x x' : Value} {xs xs' : List Value} (h : w.ownsRow B t k x n xs) (h' : w.ownsRow B' t' k' x' n' xs') (hne : t ≠ t') : x.ownBlock = none ∨ x.ownBlock ≠ x'.ownBlock := by
  rcases h.2 with ⟨rfl, _⟩ | ⟨g, cap, cur, rfl, _, hg, _⟩
  · exact Or.inl rfl
  · rcases h'.2 with ⟨rfl, _⟩ | ⟨g', cap', cur', rfl, _, hg', _⟩
    · exact Or.inr (by simp [Value.ownBlock])
    · right
      intro e
      simp [Value.ownBlock] at e
      subst e
      rw [hg] at hg'
      injection hg' with hg'
      injection hg' with _ ht
      exact hne ht

theorem own_ne_blk {w : World} {B n k j : Nat} {t t' : TypeId} {x : Value} {xs : List Value} {cs : Array Value} (h : w.ownsRow B t k x n xs) (hj : Blk w j t' cs) (hne : t ≠ t') : some j ≠ x.ownBlock := by
  rcases h.2 with ⟨rfl, _⟩ | ⟨g, cap, cur, rfl, _, hg, _⟩
  · simp [Value.ownBlock]
  · intro e
    simp [Value.ownBlock] at e
    subst e
    unfold Blk at hj
    rw [hg] at hj
    injection hj with hj
    injection hj with _ ht
    exact hne ht
theorem markStepX_any (g k0 n cap : Nat) (t : TypeId) (ss : List StepD) (ex : List Value) (w : World) (hn : n ≤ 1048577) (h0 : 1 ≤ k0) (h1 : k0 ≤ 1099511627776) (hl : ss.length = n) (hs : SX w g t ss ex) :
    Calls Try.prog 23 #[.slice (some ⟨g, 0, none⟩) n cap, .int .i64 k0] w fun e w' => e = .returned (.int .i64 ((k0 + 4 * n : Nat) : Int)) ∧ Hid (SX w' g t (markS k0 n) ex) ∧ Hid (w.grownBy w' (some g)) := by
  have HL := Lib.hid hl
  have HS := Lib.hid hs
  clear hl hs
  go_enter Try.func23, Try.ntmps23
  go_wp2_with fail
  go_loopw [1, 5] (fun q i wr => ∃ (j : Nat) (us : List StepD), j ≤ n ∧ i = .int .i64 j ∧ q = .int .i64 ((k0 + 4 * j : Nat) : Int) ∧ Hid (us.length = n) ∧ Hid (us.take j = markS k0 j) ∧ Hid (SX wr g t us ex) ∧ Hid (w.grownBy wr (some g))) (fun _ i _ => n - (intOf i).toNat)
  case atStart => exact ⟨0, ss, Nat.zero_le _, rfl, rfl, HL, Lib.hid (by simp [markS]), HS, World.grownBy.refl _ _⟩
  case round =>
    obtain ⟨j, us, hj, rfl, rfl, hul, htk, hsb, hg⟩ := hrel
    by_cases hlt : j < n
    · have hju : j < us.length := by rw [hul.out]; exact hlt
      obtain ⟨q0, q1, q2, q3⟩ := hsb.out.at_ hju
      have z0 := hsb.out.fz (j * 4)
      have z1 := hsb.out.fz (j * 4 + 1)
      have z2 := hsb.out.fz (j * 4 + 2)
      have z3 := hsb.out.fz (j * 4 + 3)
      have hi0 : (0 : Int) ≤ (j : Int) := by omega
      have hi1 : (j : Int) < (n : Int) := by omega
      have SA := Lib.hid (SX.of_set hsb.out (by omega) (flatS_set0 us j ((k0 : Int) + 4 * (j : Int)) hju))
      have HJ := Lib.hid hju
      clear hju
      go_wp2_with fail
      refine (markText_i _ (k0 + 4 * j + 1) _ (by omega) (by omega) (by omega)).mono ?_
      rintro e w3 ⟨rfl, hb3⟩
      have S3 := Lib.hid (SA.out.below hb3.out)
      have G3 : Hid (w.grownBy w3 (some g)) := grow_trans (grow_trans hg.out (grow_set wr g (j * 4) _)) (grow_of_below hb3.out (some g))
      clear q0 q1 q2 q3 z0 z1 z2 z3 SA hb3 hsb hg
      obtain ⟨q0, q1, q2, q3⟩ := S3.out.at_ (k := j) (by rw [List.length_set]; exact HJ.out)
      have z0 := S3.out.fz (j * 4)
      have z1 := S3.out.fz (j * 4 + 1)
      have z2 := S3.out.fz (j * 4 + 2)
      have z3 := S3.out.fz (j * 4 + 3)
      go_wp2_with fail
      go_roundw
      case rel =>
        have h1 : j < (us.set j { us.getD j default with fr := (k0 : Int) + 4 * (j : Int) }).length := by rw [List.length_set]; exact HJ.out
        have hj' := HJ.out
        have X := SX.of_set (SX.of_set (SX.of_set S3.out (by simp only [List.length_set]; omega) (flatS_set1 _ j (mtx (k0 + 4 * j + 1)) h1)) (by simp only [List.length_set]; omega) (flatS_set2 _ j ((k0 : Int) + 4 * (j : Int) + 1 + 1) (by rw [List.length_set]; exact h1))) (by simp only [List.length_set]; omega) (flatS_set3 _ j ((k0 : Int) + 4 * (j : Int) + 1 + 1 + 1) (by rw [List.length_set, List.length_set]; exact h1))
        rw [set_four HJ.out] at X
        exact ⟨j + 1, _, by omega, by go_num, congrArg (Value.int .i64) (by omega), Lib.hid (by rw [List.length_set]; exact hul.out), Lib.hid (take_mark hul.out hlt htk.out (by rw [StepD.mk.injEq]; exact ⟨by omega, rfl, by omega, by omega⟩)), Lib.hid X, Lib.hid (grow_trans (grow_trans (grow_trans G3.out (grow_set _ g _ _)) (grow_set _ g _ _)) (grow_set _ g _ _))⟩
      case measure => simp [intOf]; omega
    · have hjn : j = n := by omega
      have e : us = markS k0 n := by
        have h := htk.out
        rwa [List.take_of_length_le (by rw [hul.out]; omega), hjn] at h
      have HF := Lib.hid (show SX wr g t (markS k0 n) ex by rw [← e]; exact hsb.out)
      have HJN := Lib.hid hjn
      clear e hjn hsb
      go_wp2_with fail
      go_ret
      exact ⟨ret_int (by rw [HJN.out]), HF, hg⟩
theorem bytes_self (t : ByteArray) : (t.toList == t.toList) = true := by simp
theorem dec_le : ∀ k : Nat, (Lib.decDigits k).length ≤ k + 1 := fun k => by
  induction k using Nat.strongRecOn with
  | ind k ih =>
    by_cases h : 9 < k
    · rw [dec_big h, List.length_append]
      have := ih (k / 10) (by omega)
      simp
      omega
    · rw [dec_small h]; simp
theorem mtx_small (k : Nat) (h : k ≤ 1099511627776000) : (mtx k).size ≤ 9223372036854775807 := by
  unfold mtx
  rw [ByteArray.size_append]
  have := dec_le k
  show 1 + (Lib.decDigits k).toArray.size ≤ _
  simp
  omega
/-! Numbers marked and held from any number on. -/
def msk (k0 n : Nat) : List Int := (List.range n).map fun (i : Nat) => ((k0 + i : Nat) : Int)
theorem msk_len (k0 n : Nat) : (msk k0 n).length = n := by simp [msk]
theorem msk_at {k0 n k : Nat} (h : k < n) : (msk k0 n).getD k 0 = ((k0 + k : Nat) : Int) := by
  rw [List.getD_eq_getElem?_getD, List.getElem?_eq_getElem (by rw [msk_len]; exact h)]; simp [msk]
theorem msk_next (k0 k : Nat) : msk k0 k ++ [((k0 + k : Nat) : Int)] = msk k0 (k + 1) := by simp [msk, List.range_succ]
theorem markV_row (w : World) (base g n cap k0 : Nat) (cs : List Value) (hn : n ≤ 1048577) (h1 : k0 ≤ 1099511627776) (h : w.ownsRow base 3 1 (.slice (some ⟨g, 0, none⟩) n cap) n cs) :
    Calls Try.prog 11 #[.slice (some ⟨g, 0, none⟩) n cap, .int .i64 (k0 : Int)] w fun e w' => e = .returned (.int .i64 ((k0 + n : Nat) : Int)) ∧ w'.ownsRow base 3 1 (.slice (some ⟨g, 0, none⟩) n cap) n ((msk k0 n).map (Value.int .i64)) ∧ w.grownBy w' (some g) := by
  have H := Lib.hid h
  clear h
  go_enter Try.func11, Try.ntmps11
  go_wp2
  go_loopw [1, 5] (fun q i wr => ∃ (k : Nat) (cs : List Value), k ≤ n ∧ i = .int .i64 k ∧ q = .int .i64 ((k0 + k : Nat) : Int) ∧ Hid (wr.ownsRow base 3 1 (.slice (some ⟨g, 0, none⟩) n cap) n cs) ∧ Hid (cs.take k = (msk k0 k).map (Value.int .i64)) ∧ Hid (w.grownBy wr (some g))) (fun _ i _ => n - (intOf i).toNat)
  case atStart => exact ⟨0, cs, Nat.zero_le _, rfl, rfl, H.out, rfl, World.grownBy.refl _ _⟩
  case round =>
    obtain ⟨k, cs, hk, rfl, rfl, hown, htk, hg⟩ := hrel
    have HCS : Hid (cs.length = n) := by have := hown.out.1; show _ = _; omega
    by_cases hlt : k < n
    · obtain ⟨u0, hcell⟩ : ∃ u0, wr.cell? ⟨g, k, none⟩ = some u0 := ⟨_, by rw [hown.out.cellAt k (by omega), List.getElem?_eq_getElem (by have := HCS.out; omega)]⟩
      have hfr := hown.out.frozenAt k
      obtain ⟨hst, hgs⟩ := hown.out.stored k (.int .i64 ((k0 : Int) + (k : Int)))
      have HST := Lib.hid hst
      have HG := Lib.hid (grow_trans hg.out hgs)
      clear hst hgs
      go_wp2
      go_roundw
      case rel => exact ⟨k + 1, _, by omega, by go_num, congrArg (Value.int .i64) (by omega), HST.out, by show _ = _; rw [take_set_snoc _ _ _ (by have := HCS.out; omega), htk.out, ← msk_next]; simp, HG.out⟩
      case measure => simp [intOf]; omega
    · have hkn : k = n := by omega
      have hcs : cs = (msk k0 n).map (Value.int .i64) := by have := htk.out; have h2 := HCS.out; rw [List.take_of_length_le (by omega), hkn] at this; exact this
      have HF := hown.out
      rw [hcs] at HF
      have HF2 := Lib.hid HF
      have HK := Lib.hid hkn
      clear HF hcs hkn
      go_wp2
      go_ret
      exact ⟨ret_int (by rw [HK.out]), HF2.out, hg.out⟩
theorem markV_own (w : World) (base n k0 : Nat) (x : Value) (cs : List Value) (hn : n ≤ 1048577) (h1 : k0 ≤ 1099511627776) (h : w.ownsRow base 3 1 x n cs) :
    Calls Try.prog 11 #[x, .int .i64 (k0 : Int)] w fun e w' => e = .returned (.int .i64 ((k0 + n : Nat) : Int)) ∧ w'.ownsRow base 3 1 x n ((msk k0 n).map (Value.int .i64)) ∧ w.grownBy w' x.ownBlock := by
  rcases h.2 with ⟨rfl, rfl⟩ | ⟨g, cap, cur, rfl, hr⟩
  · go_enter Try.func11, Try.ntmps11
    go_wp2
    refine wp_loop_rounds 1 ?_
    rw [rounds_succ]
    go_wp2
    go_ret
    exact ⟨rfl, World.ownsRow_nil _ _ _ _, World.grownBy.refl _ _⟩
  · exact markV_row w base g n cap k0 cs hn h1 h
theorem markV_one (w : World) (base n : Nat) (x : Value) (cs : List Value) (hn : n ≤ 1048577) (h : w.ownsRow base 3 1 x n cs) :
    Calls Try.prog 11 #[x, .int .i64 1] w fun e w' => e = .returned (.int .i64 ((1 + n : Nat) : Int)) ∧ w'.ownsRow base 3 1 x n ((msk 1 n).map (Value.int .i64)) ∧ w.grownBy w' x.ownBlock := markV_own w base n 1 x cs hn (by omega) h
theorem heldV_any (w : World) (B : Nat) (A : Option Addr) (cap n k0 : Nat) (hn : n ≤ 1048577) (h1 : k0 ≤ 1099511627776) (hz : Ints w B A (msk k0 n)) :
    Calls Try.prog 12 #[.slice A n cap, .int .i64 (k0 : Int)] w fun e w' => e = .returned (.int .i64 ((k0 + n : Nat) : Int)) ∧ w = w' := by
  go_enter Try.func12, Try.ntmps12
  go_wp2
  go_loop [1, 5] (fun q i => ∃ k : Nat, k ≤ n ∧ i = .int .i64 k ∧ q = .int .i64 ((k0 + k : Nat) : Int)) (fun _ i => n - (intOf i).toNat)
  case atStart => exact ⟨0, Nat.zero_le _, rfl, rfl⟩
  case round =>
    obtain ⟨k, hk, rfl, rfl⟩ := hrel
    by_cases hlt : k < n
    · obtain ⟨b, off, z, rfl, hbB, hc, hd, hg⟩ := hz.at_ (k := k) (by rw [msk_len]; exact hlt)
      rw [msk_at hlt] at hg
      have hg' : (k0 : Int) + (k : Int) = z := by omega
      subst hg'
      clear hd hg
      go_wp2
      go_round
      case rel => exact ⟨k + 1, by omega, by go_num, congrArg (Value.int .i64) (by omega)⟩
      case measure => simp [intOf]; omega
    · have HK := Lib.hid (show k = n by omega)
      go_wp2
      go_ret
      exact ⟨ret_int (by rw [HK.out]), rfl⟩
theorem heldV_own (w : World) (base n k0 : Nat) (x : Value) (hn : n ≤ 1048577) (h1 : k0 ≤ 1099511627776) (h : w.ownsRow base 3 1 x n ((msk k0 n).map (Value.int .i64))) :
    Calls Try.prog 12 #[x, .int .i64 (k0 : Int)] w fun e w' => e = .returned (.int .i64 ((k0 + n : Nat) : Int)) ∧ w = w' := by
  have h' : w.ownsRow base 3 1 x (msk k0 n).length ((msk k0 n).map (Value.int .i64)) := by rw [msk_len]; exact h
  obtain ⟨A, cap, rfl, hc, hi⟩ := own_ints h' (by rw [msk_len]; unfold maxLen; omega)
  rw [msk_len]
  exact heldV_any w _ A cap n k0 hn h1 hi
theorem heldV_one (w : World) (base n : Nat) (x : Value) (hn : n ≤ 1048577) (h : w.ownsRow base 3 1 x n ((msk 1 n).map (Value.int .i64))) :
    Calls Try.prog 12 #[x, .int .i64 1] w fun e w' => e = .returned (.int .i64 ((1 + n : Nat) : Int)) ∧ w = w' := heldV_own w base n 1 x hn (by omega) h
theorem markSt_own (w : World) (base n k0 : Nat) (x : Value) (ss : List StepD) (hn : n ≤ 1048577) (h0 : 1 ≤ k0) (h1 : k0 ≤ 1099511627776) (h : w.ownsRow base 58 4 x n (flatS ss)) :
    Calls Try.prog 23 #[x, .int .i64 (k0 : Int)] w fun e w' => e = .returned (.int .i64 ((k0 + 4 * n : Nat) : Int)) ∧ w'.ownsRow base 58 4 x n (flatS (markS k0 n)) ∧ w.grownBy w' x.ownBlock := by
  rcases h.2 with ⟨rfl, rfl⟩ | ⟨g, cap, cur, rfl, hr⟩
  · go_enter Try.func23, Try.ntmps23
    go_wp2
    refine wp_loop_rounds 1 ?_
    rw [rounds_succ]
    go_wp2
    go_ret
    exact ⟨rfl, World.ownsRow_nil _ _ _ _, World.grownBy.refl _ _⟩
  · obtain ⟨ex, hs, hc, h2, h3, hB, hl⟩ := SX.own h
    refine (markStepX_any g k0 n cap _ ss ex w hn h0 h1 hl hs).mono ?_
    rintro e w' ⟨rfl, hs', hg⟩
    exact ⟨rfl, hs'.out.to_own (by rw [markS_len]; rw [List.length_append, flatS_len, hl] at hc; exact hc) (markS_len _ _) h2 h3 hB, hg.out⟩
/-! Automata as results. -/
/-- An automaton's three slices read as these lists, out of blocks below B. -/
def ARead (w : World) (B : Nat) (x1 x2 x3 : Value) (xs ys : List Int) (ss : List StepD) : Prop :=
  (∃ A c, x1 = .slice A xs.length c ∧ Ints w B A xs) ∧ (∃ A c, x2 = .slice A ys.length c ∧ Ints w B A ys) ∧ (∃ A c, x3 = .slice A ss.length c ∧ SRow w B A ss)
theorem ARead.below {w w' : World} {B : Nat} {x1 x2 x3 : Value} {xs ys : List Int} {ss : List StepD} (h : ARead w B x1 x2 x3 xs ys ss) (hb : Below B w w') : ARead w' B x1 x2 x3 xs ys ss := by
  obtain ⟨⟨A, c, h1, h2⟩, ⟨A', c', h3, h4⟩, ⟨A'', c'', h5, h6⟩⟩ := h
  exact ⟨⟨A, c, h1, h2.below hb⟩, ⟨A', c', h3, h4.below hb⟩, ⟨A'', c'', h5, h6.below hb⟩⟩
theorem ARead.more {w : World} {B B' : Nat} {x1 x2 x3 : Value} {xs ys : List Int} {ss : List StepD} (h : ARead w B x1 x2 x3 xs ys ss) (hb : B ≤ B') : ARead w B' x1 x2 x3 xs ys ss := by
  obtain ⟨⟨A, c, h1, h2⟩, ⟨A', c', h3, h4⟩, ⟨A'', c'', h5, h6⟩⟩ := h
  exact ⟨⟨A, c, h1, h2.more hb⟩, ⟨A', c', h3, h4.more hb⟩, ⟨A'', c'', h5, h6.more hb⟩⟩
/-- An automaton's three slices are the call's own, no two share a block. -/
def AOwn (w : World) (B : Nat) (x1 x2 x3 : Value) (xs ys : List Int) (ss : List StepD) : Prop :=
  w.ownsRow B 3 1 x1 xs.length (xs.map (Value.int .i64)) ∧ w.ownsRow B 3 1 x2 ys.length (ys.map (Value.int .i64)) ∧ w.ownsRow B 58 4 x3 ss.length (flatS ss) ∧ (x1.ownBlock = none ∨ x1.ownBlock ≠ x2.ownBlock) ∧
  xs.length ≤ 1048577 ∧ ys.length ≤ 1048577 ∧ ss.length ≤ 1048577 ∧ ∀ s ∈ ss, s.le.size ≤ 9223372036854775807
theorem AOwn.under {w w' : World} {B : Nat} {x1 x2 x3 : Value} {xs ys : List Int} {ss : List StepD} (h : AOwn w B x1 x2 x3 xs ys ss) (hb : Below w.heap.size w w') : AOwn w' B x1 x2 x3 xs ys ss := by
  obtain ⟨h1, h2, h3, h4⟩ := h
  exact ⟨own_under h1 hb, own_under h2 hb, own4_under h3 hb, h4⟩
theorem own_read4 {w : World} {B n : Nat} {x : Value} {ss : List StepD} (h : w.ownsRow B 58 4 x n (flatS ss)) (hn : ss.length = n) (h1 : n ≤ 1048577) (hs : ∀ s ∈ ss, s.le.size ≤ 9223372036854775807) : ∃ A c, x = .slice A ss.length c ∧ SRow w w.heap.size A ss := by
  rcases h.2 with ⟨rfl, rfl⟩ | ⟨g, cap, cur, rfl, hr⟩
  · have e : ss = [] := by cases ss; rfl; simp at hn
    subst e
    exact ⟨none, 0, rfl, SRow.nil _ _ _⟩
  · obtain ⟨ex, hx, _⟩ := SX.own h
    refine ⟨_, cap, by rw [hn], by omega, hs, fun _ => ⟨g, 0, rfl, Blk.lt hx, fun k hk => by rw [Nat.zero_add]; exact hx.at_ hk⟩⟩
theorem AOwn.read {w : World} {B : Nat} {x1 x2 x3 : Value} {xs ys : List Int} {ss : List StepD} (h : AOwn w B x1 x2 x3 xs ys ss) : ARead w w.heap.size x1 x2 x3 xs ys ss := by
  obtain ⟨h1, h2, h3, _, l1, l2, l3, l4⟩ := h
  obtain ⟨A, c, e, _, i⟩ := own_ints h1 (by unfold maxLen; omega)
  obtain ⟨A', c', e', _, i'⟩ := own_ints h2 (by unfold maxLen; omega)
  obtain ⟨A'', c'', e'', i''⟩ := own_read4 h3 rfl l3 l4
  exact ⟨⟨A, c, e, i⟩, ⟨A', c', e', i'⟩, ⟨A'', c'', e'', i''⟩⟩
theorem eqA_read (m : Int) (x1 x2 x3 y1 y2 y3 : Value) (xs ys : List Int) (ss : List StepD) (w : World) (B : Nat) (hB : B ≤ w.heap.size) (h : ARead w w.heap.size x1 x2 x3 xs ys ss) (h' : ARead w B y1 y2 y3 xs ys ss) :
    Calls Try.prog 9 #[.agg #[.int .i64 m, x1, x2, x3], .agg #[.int .i64 m, y1, y2, y3]] w fun e w' => e = .returned (.bool true) ∧ Below w.heap.size w w' := by
  obtain ⟨⟨A, c, rfl, h2⟩, ⟨A', c', rfl, h4⟩, ⟨A'', c'', rfl, h6⟩⟩ := h
  obtain ⟨⟨D, d, rfl, i2⟩, ⟨D', d', rfl, i4⟩, ⟨D'', d'', rfl, i6⟩⟩ := h'.more hB
  exact (eqAutomaton_eq m A A' A'' D D' D'' c c' c'' d d' d'' xs ys ss w h2 h4 h6 i2 i4 i6).mono fun e w' ⟨he, hb⟩ => ⟨he, hb.out⟩
theorem Ins.under {B T P : Nat} {w w' : World} (h : Ins B T w w') (hP : P ≤ B) (hw : P ≤ w.heap.size) : Below P w w' :=
  ⟨h.1, h.2.1, h.2.2.1, h.2.2.2.1, fun k hk => h.2.2.2.2 k (Nat.lt_of_lt_of_le hk hw) (Or.inl (Nat.lt_of_lt_of_le hk hP))⟩
theorem Ins.own4 {B T base n : Nat} {w w' : World} {t : TypeId} {x : Value} {xs : List Value} (h : Ins B T w w') (hx : w.ownsRow base t 4 x n xs) (ho : ∀ j, x.ownBlock = some j → j < B ∨ T ≤ j) : w'.ownsRow base t 4 x n xs := by
  rcases hx with ⟨h1, h2 | ⟨g, cap, cur, rfl, hb, hg, hr⟩⟩
  · exact ⟨h1, Or.inl h2⟩
  · exact ⟨h1, Or.inr ⟨g, cap, cur, rfl, hb, (h.2.2.2.2 g (Array.getElem?_eq_some_iff.1 hg).1 (ho g rfl)).trans hg, hr⟩⟩
theorem Ins.aown {B T E : Nat} {w w' : World} {x1 x2 x3 : Value} {xs ys : List Int} {ss : List StepD} (h : Ins B T w w') (ha : AOwn w E x1 x2 x3 xs ys ss) (hT : T ≤ E) : AOwn w' E x1 x2 x3 xs ys ss := by
  obtain ⟨h1, h2, h3, h4⟩ := ha
  exact ⟨h.own h1 (fun j hj => Or.inr (Nat.le_trans hT (h1.lt j hj).1)), h.own h2 (fun j hj => Or.inr (Nat.le_trans hT (h2.lt j hj).1)), h.own4 h3 (fun j hj => Or.inr (Nat.le_trans hT (h3.lt j hj).1)), h4⟩
/-- An automaton and a truth as an answer. -/
structure AutV where
  m : Int
  xs : List Int
  ys : List Int
  ss : List StepD
  ok : Bool
def AEnd (r : AutV) (w : World) (e : Ending) (w' : World) : Prop :=
  ∃ x1 x2 x3, e = .returned (.tuple #[.agg #[.int .i64 r.m, x1, x2, x3], .bool r.ok]) ∧ AOwn w' w.heap.size x1 x2 x3 r.xs r.ys r.ss ∧ Below w.heap.size w w'
def SEnd (r : AutV) (w : World) (e : Ending) (w' : World) : Prop :=
  ∃ x1 x2 x3, e = .returned (.tuple #[.agg #[.int .i64 r.m, x1, x2, x3], .bool r.ok]) ∧ ARead w' w'.heap.size x1 x2 x3 r.xs r.ys r.ss ∧ Below w.heap.size w w'
def noneV : AutV := ⟨0, [], [], [], false⟩
theorem AOwn.none (w : World) (B : Nat) : AOwn w B (.slice none 0 0) (.slice none 0 0) (.slice none 0 0) [] [] [] :=
  ⟨World.ownsRow_nil _ _ _ _, World.ownsRow_nil _ _ _ _, World.ownsRow_nil _ _ _ _, Or.inl rfl, by simp, by simp, by simp, fun s hs => by cases hs⟩
/-- The marks of an automaton with so many of each. -/
def AMark (w : World) (B : Nat) (x1 x2 x3 : Value) (a1 a2 a3 : Nat) : Prop := AOwn w B x1 x2 x3 (msk 1 a1) (msk (1 + a1) a2) (markS (1 + a1 + a2) a3)
theorem markA_own (m : Int) (x1 x2 x3 : Value) (xs ys : List Int) (ss : List StepD) (B : Nat) (w : World) (hB : B ≤ w.heap.size) (h : AOwn w B x1 x2 x3 xs ys ss) :
    Calls Try.prog 10 #[.agg #[.int .i64 m, x1, x2, x3], .int .i64 1] w fun e w' => e = .returned (.int .i64 ((1 + xs.length + ys.length + 4 * ss.length : Nat) : Int)) ∧ AMark w' B x1 x2 x3 xs.length ys.length ss.length ∧ Below B w w' ∧ ∀ j cs, Blk w j 30 cs → Blk w' j 30 cs := by
  obtain ⟨hx, hy, hz, hd, l1, l2, l3, _⟩ := h
  have hz1 : x3.ownBlock = none ∨ x3.ownBlock ≠ x1.ownBlock := own_apart hz hx (by decide)
  have hz2 : x3.ownBlock = none ∨ x3.ownBlock ≠ x2.ownBlock := own_apart hz hy (by decide)
  have hxz : x1.ownBlock = none ∨ x1.ownBlock ≠ x3.ownBlock := own_apart hx hz (by decide)
  have hyz : x2.ownBlock = none ∨ x2.ownBlock ≠ x3.ownBlock := own_apart hy hz (by decide)
  have hyx : x2.ownBlock = none ∨ x2.ownBlock ≠ x1.ownBlock := by
    rcases hd with hd | hd
    · rcases h2 : x2.ownBlock with _ | j
      · exact Or.inl rfl
      · exact Or.inr (by rw [hd]; simp)
    · exact Or.inr (fun e => hd e.symm)
  have X0 := Lib.hid (hx.alloc (.cells #[.int .i64 m, x1, x2, x3] 30))
  have Y0 := Lib.hid (hy.alloc (.cells #[.int .i64 m, x1, x2, x3] 30))
  have Z0 := Lib.hid (hz.alloc (.cells #[.int .i64 m, x1, x2, x3] 30))
  have P0 : Hid (Blk (w.alloc (.cells #[.int .i64 m, x1, x2, x3] 30)) w.heap.size 30 #[.int .i64 m, x1, x2, x3]) := Blk.new _ _ _
  have I0 : Hid (Below B w (w.alloc (.cells #[.int .i64 m, x1, x2, x3] 30))) := ((Below.refl _ w).alloc (Nat.le_refl _) _).mono hB
  have xB : Hid (∀ j, x1.ownBlock = some j → B ≤ j ∧ j < w.heap.size) := fun j hj => hx.lt j hj
  have yB : Hid (∀ j, x2.ownBlock = some j → B ≤ j ∧ j < w.heap.size) := fun j hj => hy.lt j hj
  have zB : Hid (∀ j, x3.ownBlock = some j → B ≤ j ∧ j < w.heap.size) := fun j hj => hz.lt j hj
  have KX : Hid (∀ W : World, W.ownsRow B 3 1 x1 xs.length (xs.map (Value.int .i64)) → ∀ j cs, Blk W j 30 cs → some j ≠ x1.ownBlock) := fun W hW j cs hj => own_ne_blk hW hj (by decide)
  have KY : Hid (∀ W : World, W.ownsRow B 3 1 x2 ys.length (ys.map (Value.int .i64)) → ∀ j cs, Blk W j 30 cs → some j ≠ x2.ownBlock) := fun W hW j cs hj => own_ne_blk hW hj (by decide)
  have KZ : Hid (∀ W : World, W.ownsRow B 58 4 x3 ss.length (flatS ss) → ∀ j cs, Blk W j 30 cs → some j ≠ x3.ownBlock) := fun W hW j cs hj => own_ne_blk hW hj (by decide)
  have KK : Hid (∀ j cs, Blk w j 30 cs → Blk (w.alloc (.cells #[.int .i64 m, x1, x2, x3] 30)) j 30 cs ∧ some j ≠ x1.ownBlock ∧ some j ≠ x2.ownBlock ∧ some j ≠ x3.ownBlock) := fun j cs hj => ⟨Blk.alloc hj _, KX.out w hx j cs hj, KY.out w hy j cs hj, KZ.out w hz j cs hj⟩
  clear KX KY KZ
  have HXY := Lib.hid hd
  have HYX := Lib.hid hyx
  have HXZ := Lib.hid hxz
  have HYZ := Lib.hid hyz
  have HZ1 := Lib.hid hz1
  have HZ2 := Lib.hid hz2
  obtain ⟨n1, hn1⟩ : ∃ n, n = xs.length := ⟨_, rfl⟩
  obtain ⟨n2, hn2⟩ : ∃ n, n = ys.length := ⟨_, rfl⟩
  obtain ⟨n3, hn3⟩ : ∃ n, n = ss.length := ⟨_, rfl⟩
  rw [← hn1] at l1 X0 ⊢
  rw [← hn2] at l2 Y0 ⊢
  rw [← hn3] at l3 Z0 ⊢
  clear hx hy hz hd hz1 hz2 hyx hxz hyz hn1 hn2 hn3
  go_enter Try.func10, Try.ntmps10
  go_wp2_with fail
  refine (markV_one _ _ n1 _ _ l1 X0.out).mono ?_
  rintro e w1 ⟨rfl, hx1, hg1⟩
  have I1 := Lib.hid (I0.out.grown hg1 (by simp; omega) (fun j hj => (xB.out j hj).1))
  have P1 : Hid (Blk w1 w.heap.size 30 #[.int .i64 m, x1, x2, x3]) := (hg1.block _ (by simp) (fun e => by have := (xB.out _ e.symm).2; omega)).trans P0.out
  have K1 : Hid (∀ j cs, Blk w j 30 cs → Blk w1 j 30 cs ∧ some j ≠ x2.ownBlock ∧ some j ≠ x3.ownBlock) := fun j cs hj => by
    obtain ⟨a, b, c, d⟩ := KK.out j cs hj
    exact ⟨(hg1.block j (Blk.lt a) b).trans a, c, d⟩
  clear KK
  have X1 := Lib.hid hx1
  have Y1 := Lib.hid (Y0.out.kept hg1 HYX.out)
  have Z1 := Lib.hid (Z0.out.kept hg1 HZ1.out)
  clear X0 Y0 Z0 P0 I0 hg1 hx1
  obtain ⟨p0, p1, p2, p3⟩ := four_cells P1.out
  go_wp2_with fail
  refine (markV_own _ _ n2 (1 + n1) _ _ l2 (by omega) Y1.out).mono ?_
  rintro e w2 ⟨rfl, hy2, hg2⟩
  have I2 := Lib.hid (I1.out.grown hg2 (by have := Blk.lt P1.out; omega) (fun j hj => (yB.out j hj).1))
  have P2 : Hid (Blk w2 w.heap.size 30 #[.int .i64 m, x1, x2, x3]) := (hg2.block _ (Blk.lt P1.out) (fun e => by have := (yB.out _ e.symm).2; omega)).trans P1.out
  have K2 : Hid (∀ j cs, Blk w j 30 cs → Blk w2 j 30 cs ∧ some j ≠ x3.ownBlock) := fun j cs hj => by
    obtain ⟨a, c, d⟩ := K1.out j cs hj
    exact ⟨(hg2.block j (Blk.lt a) c).trans a, d⟩
  clear K1
  have X2 := Lib.hid (X1.out.kept hg2 HXY.out)
  have Y2 := Lib.hid hy2
  have Z2 := Lib.hid (Z1.out.kept hg2 HZ2.out)
  clear X1 Y1 Z1 P1 I1 hg2 hy2 p0 p1 p2 p3
  obtain ⟨p0, p1, p2, p3⟩ := four_cells P2.out
  go_wp2_with fail
  refine (markSt_own _ _ n3 (1 + n1 + n2) _ ss l3 (by omega) (by omega) Z2.out).mono ?_
  rintro e w3 ⟨rfl, hz3, hg3⟩
  have I3 := Lib.hid (I2.out.grown hg3 (by have := Blk.lt P2.out; omega) (fun j hj => (zB.out j hj).1))
  have K3 : Hid (∀ j cs, Blk w j 30 cs → Blk w3 j 30 cs) := fun j cs hj => by
    obtain ⟨a, d⟩ := K2.out j cs hj
    exact (hg3.block j (Blk.lt a) d).trans a
  clear K2
  have X3 := Lib.hid (X2.out.kept hg3 HXZ.out)
  have Y3 := Lib.hid (Y2.out.kept hg3 HYZ.out)
  have Z3 := Lib.hid hz3
  clear X2 Y2 Z2 P2 I2 hg3 hz3 p0 p1 p2 p3
  go_wp2_with fail
  go_ret
  refine ⟨rfl, ⟨by rw [msk_len]; exact X3.out, by rw [msk_len]; exact Y3.out, by rw [markS_len]; exact Z3.out, HXY.out, by rw [msk_len]; exact l1, by rw [msk_len]; exact l2, by rw [markS_len]; exact l3, fun s hs => ?_⟩, I3.out, K3.out⟩
  unfold markS at hs
  rw [List.mem_map] at hs
  obtain ⟨i, hi, rfl⟩ := hs
  rw [List.mem_range] at hi
  exact mtx_small (1 + n1 + n2 + 4 * i + 1) (by omega)
end Go.Proofs.Ytjnbdpejgbbfdaa
