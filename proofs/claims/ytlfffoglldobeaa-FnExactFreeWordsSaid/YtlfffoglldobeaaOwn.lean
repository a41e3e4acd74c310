/- Rows of numbers of the call's own: opened, kept, marked, held and compared. Conditions: at most 2^20 and one numbers where they are marked. -/
import Derived.Test.YtlfffoglldobeaaCopy
namespace Go.Proofs.Ytlfffoglldobeaa
open Go.RowKit
set_option maxHeartbeats 1000000
set_option linter.unusedVariables false

theorem grow_own {g : Nat} {row : Option Nat} {w a b : World} (h : w.grownBy a (some g)) (k : a.grownBy b row) (hr : ∀ j, row = some j → w.heap.size ≤ j) : w.grownBy b (some g) :=
  ⟨k.os.trans h.os, k.tape.trans h.tape, k.output.trans h.output, Nat.le_trans h.size k.size, fun i hi hne => (k.block i (Nat.lt_of_lt_of_le hi h.size) (fun e => by have := hr i e.symm; omega)).trans (h.block i hi hne)⟩
theorem own_far {w w' : World} {base g n : Nat} {t : TypeId} {x : Value} {xs : List Value} (h : w.ownsRow base t 1 x n xs) (hg : w.grownBy w' (some g)) (hlt : g < base) : w'.ownsRow base t 1 x n xs := by
  refine h.kept hg ?_
  rcases ho : x.ownBlock with _ | j
  · exact Or.inl rfl
  · right
    have := (h.lt j ho).1
    intro he
    cases he
    omega
/-- A row of the call's own, as my contracts take it. -/
theorem own_ints {w : World} {base : Nat} {t : TypeId} {v : Value} {vs : List Int} (h : w.ownsRow base t 1 v vs.length (vs.map (Value.int .i64))) (hm : vs.length ≤ maxLen) :
    ∃ A cap, v = .slice A vs.length cap ∧ vs.length ≤ cap ∧ Ints w w.heap.size A vs := by
  rcases h.2 with ⟨hv, hx⟩ | ⟨g, cap, cur, hv, hb, hg, hnc, hcm, hcs, htake⟩
  · have hvs : vs = [] := by simpa using hx
    subst hvs
    exact ⟨none, 0, hv, Nat.le_refl _, ⟨Nat.zero_le _, fun h0 => absurd h0 (by simp)⟩⟩
  · subst hv
    exact ⟨_, cap, rfl, hnc, ints_of_own h hm rfl rfl⟩
theorem snoc_map (vs : List Int) (a : Int) : vs.map (Value.int .i64) ++ [.int .i64 a] = (vs ++ [a]).map (Value.int .i64) := by simp
/-- Two rows of different element types share no block. -/
theorem own_other {w : World} {base n g : Nat} {t t' : TypeId} {x : Value} {xs : List Value} {cur : Array Value} {fz : Nat × Nat} (h : w.ownsRow base t 1 x n xs) (hg : w.heap[g]? = some (.cells cur t' fz)) (hne : t ≠ t') : some g ≠ x.ownBlock := by
  rcases h.2 with ⟨rfl, _⟩ | ⟨g', cap, cur', rfl, _, hh, _⟩
  · simp [Value.ownBlock]
  · intro he
    simp [Value.ownBlock] at he
    subst he
    rw [hh] at hg
    injection hg with hg
    injection hg with _ ht
    exact hne ht
theorem int_snoc (vs : List Int) (a : Int) : vs.map (Value.int .i64) ++ [.int .i64 a] = (vs ++ [a]).map (Value.int .i64) := by simp
theorem own_under {w w' : World} {base n : Nat} {t : TypeId} {x : Value} {xs : List Value} (h : w.ownsRow base t 1 x n xs) (hb : Below w.heap.size w w') : w'.ownsRow base t 1 x n xs := by
  refine h.kept (row := none) ⟨hb.os, hb.tape, hb.output, hb.size, fun k hk _ => hb.block k hk⟩ ?_
  cases x.ownBlock
  · exact Or.inl rfl
  · exact Or.inr (by simp)
/-- 1, 2, 3 and so on. -/
def ms (n : Nat) : List Int := (List.range n).map fun (i : Nat) => (i : Int) + 1
theorem ms_len (n : Nat) : (ms n).length = n := by simp [ms]
theorem ms_at {n k : Nat} (h : k < n) : (ms n).getD k 0 = (k : Int) + 1 := by
  rw [List.getD_eq_getElem?_getD, List.getElem?_eq_getElem (by rw [ms_len]; exact h)]; simp [ms]
theorem ms_next (k : Nat) : ms k ++ [(k : Int) + 1] = ms (k + 1) := by simp [ms, List.range_succ]
theorem mark_row (w : World) (base g n cap : Nat) (cs : List Value) (hn : n ≤ 1048577) (h : w.ownsRow base 3 1 (.slice (some ⟨g, 0, none⟩) n cap) n cs) :
    Calls Try.prog 26 #[.slice (some ⟨g, 0, none⟩) n cap, .int .i64 1] w fun e w' => e = .returned (.int .i64 ((n : Int) + 1)) ∧ w'.ownsRow base 3 1 (.slice (some ⟨g, 0, none⟩) n cap) n ((ms n).map (Value.int .i64)) ∧ w.grownBy w' (some g) := by
  have H := Lib.hid h
  clear h
  go_enter Try.func26, Try.ntmps26
  go_wp2
  go_loopw [1, 5] (fun q i wr => ∃ (k : Nat) (cs : List Value), k ≤ n ∧ i = .int .i64 k ∧ q = .int .i64 ((k : Int) + 1) ∧ Hid (wr.ownsRow base 3 1 (.slice (some ⟨g, 0, none⟩) n cap) n cs) ∧ Hid (cs.take k = (ms k).map (Value.int .i64)) ∧ Hid (w.grownBy wr (some g))) (fun _ i _ => n - (intOf i).toNat)
  case atStart => exact ⟨0, cs, Nat.zero_le _, rfl, rfl, H.out, rfl, World.grownBy.refl _ _⟩
  case round =>
    obtain ⟨k, cs, hk, rfl, rfl, hown, htk, hg⟩ := hrel
    have HCS : Hid (cs.length = n) := by have := hown.out.1; show _ = _; omega
    by_cases hlt : k < n
    · obtain ⟨u0, hcell⟩ : ∃ u0, wr.cell? ⟨g, k, none⟩ = some u0 := ⟨_, by rw [hown.out.cellAt k (by omega), List.getElem?_eq_getElem (by have := HCS.out; omega)]⟩
      have hfr := hown.out.frozenAt k
      obtain ⟨hst, hgs⟩ := hown.out.stored k (.int .i64 ((k : Int) + 1))
      have HST := Lib.hid hst
      have HG := Lib.hid (grow_trans hg.out hgs)
      clear hst hgs
      go_wp2
      go_roundw
      case rel => exact ⟨k + 1, _, by omega, by go_num, by go_num, HST.out, by show _ = _; rw [take_set_snoc _ _ _ (by have := HCS.out; omega), htk.out, ← ms_next]; simp, HG.out⟩
      case measure => simp [intOf]; omega
    · have hkn : k = n := by omega
      have hcs : cs = (ms n).map (Value.int .i64) := by have := htk.out; have h2 := HCS.out; rw [List.take_of_length_le (by omega), hkn] at this; exact this
      have HF := hown.out
      rw [hcs] at HF
      have HF2 := Lib.hid HF
      have HK := Lib.hid hkn
      clear HF hcs hkn
      go_wp2
      go_ret
      exact ⟨ret_int (by rw [HK.out]), HF2.out, hg.out⟩
theorem mark_own (w : World) (base n : Nat) (x : Value) (cs : List Value) (hn : n ≤ 1048577) (h : w.ownsRow base 3 1 x n cs) :
    Calls Try.prog 26 #[x, .int .i64 1] w fun e w' => e = .returned (.int .i64 ((n : Int) + 1)) ∧ w'.ownsRow base 3 1 x n ((ms n).map (Value.int .i64)) ∧ w.grownBy w' x.ownBlock := by
  rcases h.2 with ⟨rfl, rfl⟩ | ⟨g, cap, cur, rfl, hr⟩
  · go_enter Try.func26, Try.ntmps26
    go_wp2
    refine wp_loop_rounds 1 ?_
    rw [rounds_succ]
    go_wp2
    go_ret
    exact ⟨rfl, World.ownsRow_nil _ _ _ _, World.grownBy.refl _ _⟩
  · exact mark_row w base g n cap cs hn h
theorem eq_own (w : World) (base base' : Nat) (x y : Value) (vs : List Int) (hn : vs.length ≤ 1048577) (h : w.ownsRow base 3 1 x vs.length (vs.map (Value.int .i64))) (h' : w.ownsRow base' 3 1 y vs.length (vs.map (Value.int .i64))) :
    Calls Try.prog 24 #[x, y] w fun e w' => e = .returned (.bool true) ∧ ∃ m, w' = w.drewN m := by
  obtain ⟨A, cap, rfl, hc, hi⟩ := own_ints h (by unfold maxLen; omega)
  obtain ⟨A', cap', rfl, hc', hi'⟩ := own_ints h' (by unfold maxLen; omega)
  exact (eqIntS_any A A' cap cap' _ _ vs vs w hi hi').mono fun e w' ⟨he, hw⟩ => ⟨by rw [he, decide_eq_true rfl], hw⟩
theorem below_on' {w0 w w' : World} (h : Below w0.heap.size w0 w) (h' : Below w.heap.size w w') : Below w0.heap.size w0 w' := h.trans (h'.mono h.size)
theorem below_dr {B : Nat} {a w : World} (h : Below B a w) (m : Nat) : Below B a (w.drewN m) := ⟨h.os, h.tape, h.output, h.size, h.block⟩
theorem own_dr {w : World} {base n : Nat} {t : TypeId} {x : Value} {xs : List Value} (h : w.ownsRow base t 1 x n xs) (m : Nat) : (w.drewN m).ownsRow base t 1 x n xs := h

end Go.Proofs.Ytlfffoglldobeaa
