/- A list marked and held, and the walk of the exact law of ParseCosts: it returns true for all texts, and nothing that was there changes. Condition: the library's limit of short texts reads as some number. -/
import Derived.Test.YtgnphlegbbplcaaDoorParses
import Derived.Test.YtgnphlegbbplcaaDoorDraw3
namespace Go.Proofs.YtgnphlegbbplcaaDoor
open Go.RowKit
set_option maxHeartbeats 1000000
set_option linter.unusedVariables false

/-- 1, 2, 3 and so on. -/
def ms (n : Nat) : List Int := (List.range n).map fun (i : Nat) => (i : Int) + 1
theorem ms_len (n : Nat) : (ms n).length = n := by simp [ms]
theorem ms_at {n k : Nat} (h : k < n) : (ms n).getD k 0 = (k : Int) + 1 := by
  rw [List.getD_eq_getElem?_getD, List.getElem?_eq_getElem (by rw [ms_len]; exact h)]; simp [ms]
theorem ms_next (k : Nat) : ms k ++ [(k : Int) + 1] = ms (k + 1) := by simp [ms, List.range_succ]

theorem mark_row (w : World) (base g n cap : Nat) (cs : List Value) (hn : n ≤ 1048577) (h : w.ownsRow base 3 1 (.slice (some ⟨g, 0, none⟩) n cap) n cs) :
    Calls Tryd.prog 22 #[.slice (some ⟨g, 0, none⟩) n cap, .int .i64 1] w fun e w' => e = .returned (.int .i64 ((n : Int) + 1)) ∧ w'.ownsRow base 3 1 (.slice (some ⟨g, 0, none⟩) n cap) n ((ms n).map (Value.int .i64)) ∧ w.grownBy w' (some g) := by
  have H := Lib.hid h
  clear h
  go_enter Tryd.func22, Tryd.ntmps22
  go_wp2
  go_loopw [1, 5] (fun q i wr => ∃ (k : Nat) (cs : List Value), k ≤ n ∧ i = .int .i64 k ∧ q = .int .i64 ((k : Int) + 1) ∧ Hid (wr.ownsRow base 3 1 (.slice (some ⟨g, 0, none⟩) n cap) n cs) ∧ Hid (cs.take k = (ms k).map (Value.int .i64)) ∧ Hid (w.grownBy wr (some g))) (fun _ i _ => n - (intOf i).toNat)
  case atStart => exact ⟨0, cs, Nat.zero_le _, rfl, rfl, H.out, rfl, World.grownBy.refl _ _⟩
  case round =>
    obtain ⟨k, cs, hk, rfl, rfl, hown, htk, hg⟩ := hrel
    have HCS : Hid (cs.length = n) := by have := hown.out.1; show _ = _; omega
    by_cases hlt : k < n
    · obtain ⟨u0, hcell⟩ : ∃ u0, wr.cell? ⟨g, k, none⟩ = some u0 := ⟨_, by rw [hown.out.cellAt k (by omega), List.getElem?_eq_getElem (by have := HCS.out; omega)]⟩
      have hfr := hown.out.frozenAt k
      obtain ⟨hst, hgs⟩ := hown.out.stored k (.int .i64 ((k : Int) + 1))
      have HST := Lib.hid hst
      have HG := Lib.hid (grow_trans hg.out hgs)
      clear hst hgs
      go_wp2
      go_roundw
      case rel => exact ⟨k + 1, _, by omega, by go_num, by go_num, HST.out, by show _ = _; rw [take_set_snoc _ _ _ (by have := HCS.out; omega), htk.out, ← ms_next]; simp, HG.out⟩
      case measure => simp [intOf]; omega
    · have hkn : k = n := by omega
      have hcs : cs = (ms n).map (Value.int .i64) := by have := htk.out; have h2 := HCS.out; rw [List.take_of_length_le (by omega), hkn] at this; exact this
      have HF := hown.out
      rw [hcs] at HF
      have HF2 := Lib.hid HF
      have HK := Lib.hid hkn
      clear HF hcs hkn
      go_wp2
      go_ret
      exact ⟨ret_int (by rw [HK.out]), HF2.out, hg.out⟩

theorem mark_own (w : World) (base n : Nat) (x : Value) (cs : List Value) (hn : n ≤ 1048577) (h : w.ownsRow base 3 1 x n cs) :
    Calls Tryd.prog 22 #[x, .int .i64 1] w fun e w' => e = .returned (.int .i64 ((n : Int) + 1)) ∧ w'.ownsRow base 3 1 x n ((ms n).map (Value.int .i64)) ∧ w.grownBy w' x.ownBlock := by
  rcases h.2 with ⟨rfl, rfl⟩ | ⟨g, cap, cur, rfl, hr⟩
  · go_enter Tryd.func22, Tryd.ntmps22
    go_wp2
    refine wp_loop_rounds 1 ?_
    rw [rounds_succ]
    go_wp2
    go_ret
    exact ⟨rfl, World.ownsRow_nil _ _ _ _, World.grownBy.refl _ _⟩
  · exact mark_row w base g n cap cs hn h

theorem held_any (w : World) (B : Nat) (A : Option Addr) (cap n : Nat) (hn : n ≤ 1048577) (zs : List Int) (hz : Ints w B A zs) (hl : zs.length = n) (hm : ∀ k, k < n → zs.getD k 0 = (k : Int) + 1) :
    Calls Tryd.prog 23 #[.slice A n cap, .int .i64 1] w fun e w' => e = .returned (.int .i64 ((n : Int) + 1)) ∧ w = w' := by
  have HM := Lib.hid hm
  have HL := Lib.hid hl
  clear hm hl
  go_enter Tryd.func23, Tryd.ntmps23
  go_wp2
  go_loop [1, 5] (fun q i => ∃ k : Nat, k ≤ n ∧ i = .int .i64 k ∧ q = .int .i64 ((k : Int) + 1)) (fun _ i => n - (intOf i).toNat)
  case atStart => exact ⟨0, Nat.zero_le _, rfl, rfl⟩
  case round =>
    obtain ⟨k, hk, rfl, rfl⟩ := hrel
    by_cases hlt : k < n
    · obtain ⟨b, off, z, rfl, hbB, hc, hd, hg⟩ := hz.at_ (k := k) (by rw [HL.out]; exact hlt)
      rw [HM.out k hlt] at hg
      subst hg
      clear hd
      go_wp2
      go_round
      case rel => exact ⟨k + 1, by omega, by go_num, by go_num⟩
      case measure => simp [intOf]; omega
    · have HK := Lib.hid (show k = n by omega)
      go_wp2
      go_ret
      exact ⟨ret_int (by rw [HK.out]), rfl⟩
theorem held_own (w : World) (base n : Nat) (x : Value) (hn : n ≤ 1048577) (h : w.ownsRow base 3 1 x n ((ms n).map (Value.int .i64))) :
    Calls Tryd.prog 23 #[x, .int .i64 1] w fun e w' => e = .returned (.int .i64 ((n : Int) + 1)) ∧ w = w' := by
  have h' : w.ownsRow base 3 1 x (ms n).length ((ms n).map (Value.int .i64)) := by rw [ms_len]; exact h
  obtain ⟨A, cap, rfl, hc, hi⟩ := own_ints h' (by rw [ms_len]; unfold maxLen; omega)
  rw [ms_len]
  exact held_any w _ A cap n hn (ms n) hi (ms_len n) (fun k hk => ms_at hk)

theorem eq_own (w : World) (base base' : Nat) (x y : Value) (vs : List Int) (hn : vs.length ≤ 1048577) (h : w.ownsRow base 3 1 x vs.length (vs.map (Value.int .i64))) (h' : w.ownsRow base' 3 1 y vs.length (vs.map (Value.int .i64))) :
    Calls Tryd.prog 21 #[x, y] w fun e w' => e = .returned (.bool true) ∧ ∃ m, w' = w.drewN m := by
  obtain ⟨A, cap, rfl, hc, hi⟩ := own_ints h (by unfold maxLen; omega)
  obtain ⟨A', cap', rfl, hc', hi'⟩ := own_ints h' (by unfold maxLen; omega)
  exact (eqIntS_any A A' cap cap' _ _ vs vs w hi hi').mono fun e w' ⟨he, hw⟩ => ⟨by rw [he, decide_eq_true rfl], hw⟩

theorem below_on' {w0 w w' : World} (h : Below w0.heap.size w0 w) (h' : Below w.heap.size w w') : Below w0.heap.size w0 w' := h.trans (h'.mono h.size)
theorem below_dr {B : Nat} {a w : World} (h : Below B a w) (m : Nat) : Below B a (w.drewN m) := ⟨h.os, h.tape, h.output, h.size, h.block⟩
theorem own_dr {w : World} {base n : Nat} {t : TypeId} {x : Value} {xs : List Value} (h : w.ownsRow base t 1 x n xs) (m : Nat) : (w.drewN m).ownsRow base t 1 x n xs := h

theorem FnExactParseCosts_walk (s : ByteArray) (hm : s.size ≤ maxLen) (w : World) (hsh : w.ShapedOpen Tryd.prog) :
    Calls Tryd.prog 6 #[.string s] w fun e w' => e = .returned (.bool true) ∧ Below w.heap.size w w' := by
  have hs : s.size ≤ 9223372036854775807 := by unfold maxLen at hm; exact hm
  have hM0 := maxC_of_shaped hsh
  clear hm hsh
  by_cases hb : (1048576 : Int) < (s.size : Int)
  · clear hM0
    go_enter Tryd.func6, Tryd.ntmps6
    go_wp2_with fail
    go_ret
    exact ⟨rfl, Below.refl _ _⟩
  · have hs' : s.size ≤ 1048576 := by omega
    have HM0 := Lib.hid hM0
    clear hM0
    obtain ⟨r, hr⟩ : ∃ r, r = parsesF s.data.toList := ⟨_, rfl⟩
    obtain ⟨vs, hvs⟩ : ∃ vs, vs = r.getD [] := ⟨_, rfl⟩
    obtain ⟨ok, hok⟩ : ∃ ok, ok = r.isSome := ⟨_, rfl⟩
    have hS := fun w0 => sParses_any s w0 hs'
    have hI := fun w0 => iParses_any s w0 hs'
    rw [← hr] at hS hI
    unfold PEnd at hS hI
    rw [← hvs, ← hok] at hS hI
    have HS := Lib.hid hS
    have HI := Lib.hid hI
    clear hS hI hr hvs hok
    go_enter Tryd.func6, Tryd.ntmps6
    go_wp2_with fail
    refine (HS.out w).mono ?_
    rintro e w1 ⟨x0, rfl, ho0, hb1, hv7⟩
    have HO0 := Lib.hid ho0
    have HM1 := Lib.hid (HM0.out.below hb1 HM0.out.lt)
    clear ho0
    go_wp2_with fail
    refine (HI.out w1 HM1.out).mono ?_
    rintro e w2 ⟨x1, rfl, ho1, hb2, _⟩
    have HO0' := Lib.hid (own_under HO0.out hb2)
    have HO1 := Lib.hid ho1
    have HB2 := Lib.hid (below_on' hb1 hb2)
    have HM2 := Lib.hid (HM1.out.below hb2 HM1.out.lt)
    have HS12 := Lib.hid hb2.size
    clear ho1
    go_wp2_with fail
    refine (eq_own _ _ _ _ _ _ hv7 HO1.out HO0'.out).mono ?_
    rintro e w3 ⟨rfl, m3, rfl⟩
    go_wp2_with fail
    refine (mark_own _ _ _ _ _ hv7 (own_dr HO1.out m3)).mono ?_
    rintro e w4 ⟨rfl, ho4, hg4⟩
    have hne : x0.ownBlock = none ∨ x0.ownBlock ≠ x1.ownBlock := by
      rcases h0 : x0.ownBlock with _ | j
      · exact Or.inl rfl
      · right
        intro he
        have h1 := (HO0.out.lt j h0).2
        have h2 := (HO1.out.lt j he.symm).1
        omega
    have HO04 := Lib.hid ((own_dr HO0'.out m3).kept hg4 hne)
    have HO14 := Lib.hid ho4
    have HB4 := Lib.hid ((below_dr HB2.out m3).grown hg4 (by show w.heap.size ≤ w2.heap.size; exact HB2.out.size) (fun k hk => by have := (HO1.out.lt k hk).1; have := hb1.size; omega))
    have HM4 : Hid (MaxC w4) := HM0.out.below HB4.out HM0.out.lt
    clear ho4 hg4 hne
    go_wp2_with fail
    refine (held_own _ _ _ _ hv7 HO14.out).mono ?_
    rintro e w' ⟨rfl, rfl⟩
    go_wp2_with fail
    refine (HI.out w4 HM4.out).mono ?_
    rintro e w5 ⟨x2, rfl, ho2, hb5, _⟩
    have HO05 := Lib.hid (own_under HO04.out hb5)
    have HO15 := Lib.hid (own_under HO14.out hb5)
    have HO25 := Lib.hid ho2
    have HB5 := Lib.hid (below_on' HB4.out hb5)
    clear ho2
    go_wp2_with fail
    refine (eq_own _ _ _ _ _ _ hv7 HO25.out HO05.out).mono ?_
    rintro e w6 ⟨rfl, m6, rfl⟩
    go_wp2_with fail
    refine (held_own _ _ _ _ hv7 (own_dr HO15.out m6)).mono ?_
    rintro e w' ⟨rfl, rfl⟩
    go_wp2_with fail
    go_ret
    exact ⟨rfl, below_dr HB5.out m6⟩

end Go.Proofs.YtgnphlegbbplcaaDoor
