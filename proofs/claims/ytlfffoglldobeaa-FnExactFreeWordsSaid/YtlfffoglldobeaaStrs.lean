/- Rows of texts of the call's own: compared with their like, marked, held. Conditions: at most 2^20 and one texts. -/
import Derived.Test.YtlfffoglldobeaaOwn
import Derived.Test.YtlfffoglldobeaaMarkA
import Derived.Deep.RegionHeld3
namespace Go.Proofs.Ytlfffoglldobeaa
open Go.RowKit
set_option maxHeartbeats 4000000
set_option maxRecDepth 100000
set_option linter.unusedVariables false

theorem str_cell {w : World} {base n g cap : Nat} {t : TypeId} {vs : List ByteArray} (h : w.ownsRow base t 1 (.slice (some ⟨g, 0, none⟩) n cap) n (vs.map Value.string)) {k : Nat} {s : ByteArray} (hk : vs[k]? = some s) : w.cell? ⟨g, k, none⟩ = some (.string s) := by
  have h := h.cells (g := g) rfl k (.string s) (by rw [List.getElem?_map, hk]; rfl)
  have e : ((⟨g, 0, none⟩ : Addr).add k) = ⟨g, k, none⟩ := by rw [Addr.add_lit, Nat.zero_add]
  rwa [e] at h
/-- What a row looks like. -/
theorem str_form {w : World} {base n : Nat} {t : TypeId} {x : Value} {cs : List Value} (h : w.ownsRow base t 1 x n cs) : (n = 0 ∧ cs = [] ∧ ∃ A cap, x = .slice A 0 cap ∧ (A = none → cap = 0)) ∨ (0 < n ∧ ∃ g cap, x = .slice (some ⟨g, 0, none⟩) n cap ∧ g < w.heap.size ∧ n ≤ maxLen) := by
  rcases Nat.eq_zero_or_pos n with h0 | h0
  · left
    subst h0
    have hl := h.1
    refine ⟨rfl, List.eq_nil_of_length_eq_zero (by omega), ?_⟩
    rcases h.2 with ⟨rfl, _⟩ | ⟨g, cap, cur, rfl, _⟩
    · exact ⟨none, 0, rfl, fun _ => rfl⟩
    · exact ⟨some ⟨g, 0, none⟩, cap, rfl, fun e => by cases e⟩
  · right
    refine ⟨h0, ?_⟩
    rcases h.2 with ⟨_, e⟩ | ⟨g, cap, cur, rfl, hb, hg, hnc, hcm, _⟩
    · omega
    · exact ⟨g, cap, rfl, (Array.getElem?_eq_some_iff.1 hg).1, Nat.le_trans hnc hcm⟩

theorem eqStr_own (w : World) (base base' n : Nat) (x y : Value) (vs : List ByteArray) (hl : vs.length = n) (hs : ∀ s ∈ vs, s.size ≤ 1000) (h : w.ownsRow base 9 1 x n (vs.map Value.string)) (h' : w.ownsRow base' 9 1 y n (vs.map Value.string)) :
    Calls Try.prog 8 #[x, y] w fun e w' => e = .returned (.bool true) ∧ ∃ m, w' = w.drewN m := by
  rcases str_form h with ⟨h0, hc, A, cap, rfl, _⟩ | ⟨h0, g, cap, rfl, hgw, hn⟩
  · subst h0
    rcases str_form h' with ⟨_, _, A', cap', rfl, _⟩ | ⟨h1, _⟩
    · clear h h'
      go_enter Try.func8, Try.ntmps8
      go_wp2_with fail
      refine wp_loop_rounds 1 ?_
      rw [rounds_succ]
      go_wp2_with fail
      go_ret
      exact ⟨rfl, 0, rfl⟩
    · omega
  · rcases str_form h' with ⟨h1, _⟩ | ⟨_, g', cap', rfl, hgw', _⟩
    · omega
    have H := Lib.hid h
    have H' := Lib.hid h'
    have HS := Lib.hid hs
    have HL := Lib.hid hl
    clear h h' hs hl
    have hn9 : (n : Int) ≤ 9223372036854775807 := by unfold maxLen at hn; omega
    go_enter Try.func8, Try.ntmps8
    go_wp2_with fail
    go_loopw [5] (fun i wr => ∃ (k m : Nat), k ≤ n ∧ i = .int .i64 k ∧ wr = w.drewN m) (fun i _ => n - (intOf i).toNat)
    case atStart => exact ⟨0, 0, Nat.zero_le _, rfl, rfl⟩
    case round =>
      obtain ⟨k, m, hk, rfl, rfl⟩ := hrel
      by_cases hlt : k < n
      · have hkl : k < vs.length := by rw [HL.out]; exact hlt
        obtain ⟨s, hs⟩ : ∃ s, vs[k] = s := ⟨_, rfl⟩
        have hk? : vs[k]? = some s := by rw [List.getElem?_eq_getElem hkl, hs]
        have c1 := str_cell H.out hk?
        have c2 := str_cell H'.out hk?
        have hsz : s.size ≤ 1000 := HS.out s (by rw [← hs]; exact List.getElem_mem _)
        clear hs hk? hkl
        have hi0 : (0 : Int) ≤ (k : Int) := by omega
        have hi1 : (k : Int) < (n : Int) := by omega
        go_wp2_with fail
        go_quiet (fail)
        go_wp2_with fail
        go_roundw
        case rel => exact ⟨k + 1, _, by omega, by go_num, rfl⟩
        case measure => simp [intOf]; omega
      · go_wp2_with fail
        go_ret
        exact ⟨rfl, m, rfl⟩

/-- The marks: one for each text. -/
def mks (n : Nat) : List ByteArray := (List.range n).map fun i => mtx (i + 1)
theorem mks_len (n : Nat) : (mks n).length = n := by simp [mks]
theorem mks_at {n k : Nat} (h : k < n) : (mks n)[k]? = some (mtx (k + 1)) := by simp [mks, h]
theorem mks_next (k : Nat) : (mks k).map Value.string ++ [.string (mtx (k + 1))] = (mks (k + 1)).map Value.string := by simp [mks, List.range_succ]

theorem markStr_row (w : World) (base g n cap : Nat) (cs : List Value) (hn : n ≤ 1048577) (h : w.ownsRow base 9 1 (.slice (some ⟨g, 0, none⟩) n cap) n cs) :
    Calls Try.prog 11 #[.slice (some ⟨g, 0, none⟩) n cap, .int .i64 1] w fun e w' => e = .returned (.int .i64 ((n : Int) + 1)) ∧ w'.ownsRow base 9 1 (.slice (some ⟨g, 0, none⟩) n cap) n ((mks n).map Value.string) ∧ w.grownBy w' (some g) := by
  have H := Lib.hid h
  clear h
  go_enter Try.func11, Try.ntmps11
  go_wp2_with fail
  go_loopw [1, 5] (fun q i wr => ∃ (k : Nat) (cs : List Value), k ≤ n ∧ i = .int .i64 k ∧ q = .int .i64 ((k : Int) + 1) ∧ Hid (wr.ownsRow base 9 1 (.slice (some ⟨g, 0, none⟩) n cap) n cs) ∧ Hid (cs.take k = (mks k).map Value.string) ∧ Hid (w.grownBy wr (some g))) (fun _ i _ => n - (intOf i).toNat)
  case atStart => exact ⟨0, cs, Nat.zero_le _, rfl, rfl, H, rfl, World.grownBy.refl _ _⟩
  case round =>
    obtain ⟨k, cs, hk, rfl, rfl, hown, htk, hg⟩ := hrel
    have HCS : Hid (cs.length = n) := by have := hown.out.1; show _ = _; omega
    by_cases hlt : k < n
    · have hi1 : (k : Int) < (n : Int) := by omega
      go_wp2_with fail
      refine (markText_i _ (k + 1) _ (by omega) (by omega) (by omega)).mono ?_
      rintro e W1 ⟨rfl, hb1⟩
      have O1 := Lib.hid (own_under hown.out hb1.out)
      obtain ⟨u0, hcell⟩ : ∃ u0, W1.cell? ⟨g, k, none⟩ = some u0 := ⟨_, by rw [O1.out.cellAt k (by omega), List.getElem?_eq_getElem (by have := HCS.out; omega)]⟩
      have hfr := O1.out.frozenAt k
      obtain ⟨hst, hgs⟩ := O1.out.stored k (.string (mtx (k + 1)))
      have HST := Lib.hid hst
      have HG := Lib.hid (grow_trans (grow_trans hg.out (grow_of_below hb1.out _)) hgs)
      clear hst hgs hb1 hown hg
      go_wp2_with fail
      go_roundw
      case rel => exact ⟨k + 1, _, by omega, by go_num, by go_num, HST, by show _ = _; rw [take_set_snoc _ _ _ (by have := HCS.out; omega), htk.out, ← mks_next], HG⟩
      case measure => simp [intOf]; omega
    · have hkn : k = n := by omega
      have hcs : cs = (mks n).map Value.string := by have := htk.out; have h2 := HCS.out; rw [List.take_of_length_le (by omega), hkn] at this; exact this
      have HF := hown.out
      rw [hcs] at HF
      have HF2 := Lib.hid HF
      have HK := Lib.hid hkn
      clear HF hcs hkn
      go_wp2_with fail
      go_ret
      exact ⟨ret_int (by rw [HK.out]), HF2.out, hg.out⟩
theorem markStr_own (w : World) (base n : Nat) (x : Value) (cs : List Value) (hn : n ≤ 1048577) (h : w.ownsRow base 9 1 x n cs) :
    Calls Try.prog 11 #[x, .int .i64 1] w fun e w' => e = .returned (.int .i64 ((n : Int) + 1)) ∧ w'.ownsRow base 9 1 x n ((mks n).map Value.string) ∧ w.grownBy w' x.ownBlock := by
  rcases h.2 with ⟨rfl, rfl⟩ | ⟨g, cap, cur, rfl, hr⟩
  · go_enter Try.func11, Try.ntmps11
    go_wp2_with fail
    refine wp_loop_rounds 1 ?_
    rw [rounds_succ]
    go_wp2_with fail
    go_ret
    exact ⟨rfl, World.ownsRow_nil _ _ _ _, World.grownBy.refl _ _⟩
  · exact markStr_row w base g n cap cs hn h

theorem heldStr_own (w : World) (base n : Nat) (x : Value) (hn : n ≤ 1048577) (h : w.ownsRow base 9 1 x n ((mks n).map Value.string)) :
    Calls Try.prog 12 #[x, .int .i64 1] w fun e w' => e = .returned (.int .i64 ((n : Int) + 1)) ∧ Hid (Below w.heap.size w w') := by
  rcases str_form h with ⟨h0, hc, A, cap, rfl, _⟩ | ⟨h0, g, cap, rfl, hgw, hn⟩
  · subst h0
    clear h
    go_enter Try.func12, Try.ntmps12
    go_wp2_with fail
    refine wp_loop_rounds 1 ?_
    rw [rounds_succ]
    go_wp2_with fail
    go_ret
    exact ⟨rfl, Below.refl _ _⟩
  · have H := Lib.hid h
    clear h
    go_enter Try.func12, Try.ntmps12
    go_wp2_with fail
    go_loopw [1, 5] (fun q i wr => ∃ (k : Nat), k ≤ n ∧ i = .int .i64 k ∧ q = .int .i64 ((k : Int) + 1) ∧ Hid (Below w.heap.size w wr)) (fun _ i _ => n - (intOf i).toNat)
    case atStart => exact ⟨0, Nat.zero_le _, rfl, rfl, Below.refl _ _⟩
    case round =>
      obtain ⟨k, hk, rfl, rfl, hb⟩ := hrel
      by_cases hlt : k < n
      · have c1 := str_cell (own_under H.out hb.out) (mks_at hlt)
        have hi0 : (0 : Int) ≤ (k : Int) := by omega
        have hi1 : (k : Int) < (n : Int) := by omega
        have K : Hid (∀ w', Below wr.heap.size wr w' → (Hid (Below wr.heap.size wr w') ∧ w'.cell? ⟨g, k, none⟩ = some (.string (mtx (k + 1))))) := fun w' h => ⟨h, str_cell (own_under (own_under H.out hb.out) h) (mks_at hlt)⟩
        have hS0 := K.out wr.drew ((Below.refl _ _).drew)
        go_wp2_with fail
        go_region_held3 (fun w' => Hid (Below wr.heap.size wr w') ∧ w'.cell? ⟨g, k, none⟩ = some (.string (mtx (k + 1)))) (first | with_reducible assumption | skip)
          (first | (go_at_call 28; refine (markText_i _ (k + 1) _ (by omega) (by omega) (by omega)).mono ?_; rintro e w3 ⟨rfl, hb3⟩; have hS1 := K.out _ (below_on hS0.1.out hb3.out)))
        have B3 := Lib.hid (below_on hb.out hS1.1.out)
        clear hS0 hS1 K hb
        go_wp2_with fail
        go_roundw
        case rel => exact ⟨k + 1, by omega, by go_num, by go_num, B3⟩
        case measure => simp [intOf]; omega
      · have hkn : k = n := by omega
        have HK := Lib.hid hkn
        clear hkn
        go_wp2_with fail
        go_ret
        exact ⟨ret_int (by rw [HK.out]), hb⟩
end Go.Proofs.Ytlfffoglldobeaa
