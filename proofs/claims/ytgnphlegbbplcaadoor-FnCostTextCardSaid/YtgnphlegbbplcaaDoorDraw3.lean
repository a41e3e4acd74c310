/- A drawn list of numbers: at most four, each fits its kind; the reader goes on; nothing that was there changes. Condition: at most 10^12 draws. -/
import Derived.Test.YtgnphlegbbplcaaDoorDrawCost
import Derived.Test.YtgnphlegbbplcaaDoorCopy
import Derived.Test.YtgnphlegbbplcaaDoorCostA
namespace Go.Proofs.YtgnphlegbbplcaaDoor
open Go.RowKit
set_option maxHeartbeats 1000000
set_option linter.unusedVariables false

theorem Rd.grown {w w' : World} {B g : Nat} {A : Option Addr} {cap : Nat} {zs : List Int} {p : Nat} {row : Option Nat} (h : Rd w B g A cap zs p) (hg : w.grownBy w' row) (hr : ∀ k, row = some k → g < k) : Rd w' B g A cap zs p :=
  ⟨(hg.block g h.lt (fun e => by have := hr g e.symm; omega)).trans h.blk,
   h.row.below ((Below.refl _ _).grown hg (by have := h.far; have := h.lt; omega) (fun k hk => by have := hr k hk; have := h.far; omega)), h.far, h.few, h.byte, h.pos⟩
theorem grow_own {g : Nat} {row : Option Nat} {w a b : World} (h : w.grownBy a (some g)) (k : a.grownBy b row) (hr : ∀ j, row = some j → w.heap.size ≤ j) : w.grownBy b (some g) :=
  ⟨k.os.trans h.os, k.tape.trans h.tape, k.output.trans h.output, Nat.le_trans h.size k.size, fun i hi hne => (k.block i (Nat.lt_of_lt_of_le hi h.size) (fun e => by have := hr i e.symm; omega)).trans (h.block i hi hne)⟩

/-- What a drawing function leaves that returns a list. -/
def DrawnL (B g : Nat) (A : Option Addr) (cap : Nat) (zs : List Int) (p K : Nat) (w : World) (e : Ending) (w' : World) : Prop :=
  ∃ (x : Value) (vs : List Int) (q : Nat), e = .returned x ∧ w'.ownsRow w.heap.size 3 1 x vs.length (vs.map (Value.int .i64)) ∧ vs.length ≤ 4 ∧ (∀ z ∈ vs, fits z) ∧ q ≤ p + K ∧ Rd w' B g A cap zs q ∧ w.grownBy w' (some g)

theorem own_far {w w' : World} {base g n : Nat} {t : TypeId} {x : Value} {xs : List Value} (h : w.ownsRow base t 1 x n xs) (hg : w.grownBy w' (some g)) (hlt : g < base) : w'.ownsRow base t 1 x n xs := by
  refine h.kept hg ?_
  rcases ho : x.ownBlock with _ | j
  · exact Or.inl rfl
  · right
    have := (h.lt j ho).1
    intro he
    cases he
    omega

/-- A row of the call's own, as my contracts take it. -/
theorem own_ints {w : World} {base : Nat} {t : TypeId} {v : Value} {vs : List Int} (h : w.ownsRow base t 1 v vs.length (vs.map (Value.int .i64))) (hm : vs.length ≤ maxLen) :
    ∃ A cap, v = .slice A vs.length cap ∧ vs.length ≤ cap ∧ Ints w w.heap.size A vs := by
  rcases h.2 with ⟨hv, hx⟩ | ⟨g, cap, cur, hv, hb, hg, hnc, hcm, hcs, htake⟩
  · have hvs : vs = [] := by simpa using hx
    subst hvs
    exact ⟨none, 0, hv, Nat.le_refl _, ⟨Nat.zero_le _, fun h0 => absurd h0 (by simp)⟩⟩
  · subst hv
    exact ⟨_, cap, rfl, hnc, ints_of_own h hm rfl rfl⟩
theorem snoc_map (vs : List Int) (a : Int) : vs.map (Value.int .i64) ++ [.int .i64 a] = (vs ++ [a]).map (Value.int .i64) := by simp

theorem costs_any (w : World) (B g : Nat) (A : Option Addr) (cap : Nat) (zs : List Int) (p : Nat) (h : Rd w B g A cap zs p) (hp : p + 20 ≤ 1000000000000) :
    Calls Tryd.prog 24 #[.pointer (some ⟨g, 0, none⟩)] w fun e w' => DrawnL B g A cap zs p 20 w e w' := by
  obtain ⟨i0, hi, hz0, hz1, hz2⟩ := info_parts info_int
  have Z0 := Lib.hid hz0
  have Z1 := Lib.hid hz1
  have Z2 := Lib.hid hz2
  have ZI := Lib.hid hi
  clear hz0 hz1 hz2 hi
  have hgw := h.lt
  go_enter Tryd.func24, Tryd.ntmps24
  go_wp2_with fail
  refine (pick_any _ _ _ _ _ _ _ _ (h.alloc _) (by omega)).mono ?_
  rintro e w1 ⟨v8, rfl, v80, v81, hoff, hrd⟩
  have hrd1 := hrd (by omega)
  have G1 := Lib.hid (grow_trans (World.grownBy_alloc w _ (some g)) hoff.grown)
  have O1 := Lib.hid ((World.ownsRow_lit w #[] 0 (Nat.le_refl _) (Nat.zero_le _) rfl : (w.alloc (.cells #[] 3)).ownsRow w.heap.size 3 1 (.slice (some ⟨w.heap.size, 0, none⟩) 0 0) 0 []).kept hoff.grown (by simp [Value.ownBlock]; omega))
  clear hrd hoff v80 v81
  rcases Bool.eq_false_or_eq_true (v8 == 0) with hbad | hbad
  · go_wp2_with fail
    refine (pick_any _ _ _ _ _ _ _ _ hrd1 (by omega)).mono ?_
    rintro e w2 ⟨v5, rfl, v50, v51, hoff2, hrd2⟩
    have hrd2' := hrd2 (by omega)
    have v5lt := v51 (by omega)
    obtain ⟨N, rfl⟩ := Int.eq_ofNat_of_zero_le v50
    have G2 := Lib.hid (grow_trans G1.out hoff2.grown)
    have O2 := Lib.hid (O1.out.kept hoff2.grown (by simp [Value.ownBlock]; omega))
    have R2 := Lib.hid hrd2'
    clear hrd2 hoff2 v50 v51 hrd2'
    go_wp2_with fail
    go_loopw [3, 12] (fun x i wr => ∃ (k : Nat) (vs : List Int) (q : Nat), k ≤ N ∧ i = .int .i64 k ∧ vs.length = k ∧ wr.ownsRow w.heap.size 3 1 x vs.length (vs.map (Value.int .i64)) ∧ (∀ z ∈ vs, fits z) ∧ q ≤ p + 2 + 3 * k ∧ Rd wr B g A cap zs q ∧ w.grownBy wr (some g)) (fun _ i _ => N - (intOf i).toNat)
    case atStart => exact ⟨0, [], p + 1 + 1, Nat.zero_le _, rfl, rfl, O2.out, (fun z hz => by cases hz), by omega, R2.out, G2.out⟩
    case round =>
      obtain ⟨k, vs, q, hk, rfl, hlen, hown, hfit, hq, hrd, hgr⟩ := hrel
      have HO := Lib.hid hown
      have HF := Lib.hid hfit
      have HR := Lib.hid hrd
      have HG := Lib.hid hgr
      have HL := Lib.hid hlen
      clear hown hfit hrd hgr hlen
      by_cases hlt : k < N
      · go_wp2_with fail
        refine (cost_any _ _ _ _ _ _ _ HR.out (by omega)).mono ?_
        rintro e w3 ⟨a, q3, rfl, hfa, hq3, hrd3, hg3⟩
        have O3 := Lib.hid (own_far HO.out hg3 hgw)
        have G3 := Lib.hid (grow_trans HG.out hg3)
        have R3 := Lib.hid hrd3
        have FA := Lib.hid hfa
        clear hrd3 hg3 hfa
        go_wp2_with (at_builtin; refine wpList_append_own _ rfl _ _ 23 rfl w.heap.size 3 i0 (.int .i64 0) 1 8 Tryd.underlying23 ZI.out Z0.out Z1.out Z2.out rfl (by decide) _ _ _ rfl (O3.out.alloc _) ⟨w3.heap.size, 0, none⟩ 1 1 [.int .i64 a] rfl rfl ?c1 ?c2 ?c3 ?c4 ?c5 ?_)
        case c1 =>
          intro j u hj
          match j, hj with
          | 0, hj => simp at hj; subst hj; simp [Addr.add]
        case c2 => intro u hu; simp at hu; subst hu; rfl
        case c3 => have := HL.out; unfold maxLen; omega
        case c4 => have := HL.out; omega
        case c5 => have := G3.out.size; simp; omega
        · intro v' w5 hown' hgrow _
          have hg5 := grow_own (grow_trans G3.out (World.grownBy_alloc _ _ _)) hgrow (fun j hj => (O3.out.lt j hj).1)
          have hr5 := (R3.out.alloc (.cells #[.int .i64 a] 3)).grown hgrow (fun j hj => by have := (O3.out.lt j hj).1; omega)
          rw [snoc_map] at hown'
          have O5 := Lib.hid hown'
          have G5 := Lib.hid hg5
          have R5 := Lib.hid hr5
          clear hown' hgrow hg5 hr5
          go_wp2
          go_roundw
          case rel =>
            refine ⟨k + 1, vs ++ [a], q3, by omega, by go_num, by rw [List.length_append, HL.out]; rfl, ?_, ?_, by omega, R5.out, G5.out⟩
            · rw [List.length_append]; exact O5.out
            · intro z hz
              rcases List.mem_append.1 hz with hz | hz
              · exact HF.out z hz
              · rw [List.mem_singleton.1 hz]; exact FA.out
          case measure => simp [intOf]; omega
      · go_wp2
        go_ret
        exact ⟨_, vs, q, rfl, HO.out, by have := HL.out; omega, HF.out, by omega, HR.out, HG.out⟩

  · go_wp2_with fail
    refine (pick_any _ _ _ _ _ _ _ _ hrd1 (by omega)).mono ?_
    rintro e w2 ⟨v5, rfl, v50, v51, hoff2, hrd2⟩
    have hrd2' := hrd2 (by omega)
    have v5lt := v51 (by omega)
    obtain ⟨N, rfl⟩ := Int.eq_ofNat_of_zero_le v50
    have G2 := Lib.hid (grow_trans G1.out hoff2.grown)
    have O2 := Lib.hid (O1.out.kept hoff2.grown (by simp [Value.ownBlock]; omega))
    have R2 := Lib.hid hrd2'
    clear hrd2 hoff2 v50 v51 hrd2'
    go_wp2_with fail
    go_loopw [3, 12] (fun x i wr => ∃ (k : Nat) (vs : List Int) (q : Nat), k ≤ N ∧ i = .int .i64 k ∧ vs.length = k ∧ wr.ownsRow w.heap.size 3 1 x vs.length (vs.map (Value.int .i64)) ∧ (∀ z ∈ vs, fits z) ∧ q ≤ p + 2 + 3 * k ∧ Rd wr B g A cap zs q ∧ w.grownBy wr (some g)) (fun _ i _ => N - (intOf i).toNat)
    case atStart => exact ⟨0, [], p + 1 + 1, Nat.zero_le _, rfl, rfl, O2.out, (fun z hz => by cases hz), by omega, R2.out, G2.out⟩
    case round =>
      obtain ⟨k, vs, q, hk, rfl, hlen, hown, hfit, hq, hrd, hgr⟩ := hrel
      have HO := Lib.hid hown
      have HF := Lib.hid hfit
      have HR := Lib.hid hrd
      have HG := Lib.hid hgr
      have HL := Lib.hid hlen
      clear hown hfit hrd hgr hlen
      by_cases hlt : k < N
      · go_wp2_with fail
        refine (cost_any _ _ _ _ _ _ _ HR.out (by omega)).mono ?_
        rintro e w3 ⟨a, q3, rfl, hfa, hq3, hrd3, hg3⟩
        have O3 := Lib.hid (own_far HO.out hg3 hgw)
        have G3 := Lib.hid (grow_trans HG.out hg3)
        have R3 := Lib.hid hrd3
        have FA := Lib.hid hfa
        clear hrd3 hg3 hfa
        rcases vld_cases a with hv | hv
        · have HV := Lib.hid hv
          clear hv
          go_wp2_with fail
          refine (sValid_t _ _ HV.out).mono ?_
          rintro e w' ⟨rfl, rfl⟩
          go_wp2_with (at_builtin; refine wpList_append_own _ rfl _ _ 23 rfl w.heap.size 3 i0 (.int .i64 0) 1 8 Tryd.underlying23 ZI.out Z0.out Z1.out Z2.out rfl (by decide) _ _ _ rfl (O3.out.alloc _) ⟨w3.heap.size, 0, none⟩ 1 1 [.int .i64 a] rfl rfl ?c1 ?c2 ?c3 ?c4 ?c5 ?_)
          case c1 =>
            intro j u hj
            match j, hj with
            | 0, hj => simp at hj; subst hj; simp [Addr.add]
          case c2 => intro u hu; simp at hu; subst hu; rfl
          case c3 => have := HL.out; unfold maxLen; omega
          case c4 => have := HL.out; omega
          case c5 => have := G3.out.size; simp; omega
          · intro v' w5 hown' hgrow _
            have hg5 := grow_own (grow_trans G3.out (World.grownBy_alloc _ _ _)) hgrow (fun j hj => (O3.out.lt j hj).1)
            have hr5 := (R3.out.alloc (.cells #[.int .i64 a] 3)).grown hgrow (fun j hj => by have := (O3.out.lt j hj).1; omega)
            rw [snoc_map] at hown'
            have O5 := Lib.hid hown'
            have G5 := Lib.hid hg5
            have R5 := Lib.hid hr5
            clear hown' hgrow hg5 hr5
            go_wp2
            go_roundw
            case rel =>
              refine ⟨k + 1, vs ++ [a], q3, by omega, by go_num, by rw [List.length_append, HL.out]; rfl, ?_, ?_, by omega, R5.out, G5.out⟩
              · rw [List.length_append]; exact O5.out
              · intro z hz
                rcases List.mem_append.1 hz with hz | hz
                · exact HF.out z hz
                · rw [List.mem_singleton.1 hz]; exact FA.out
            case measure => simp [intOf]; omega
        · have HV := Lib.hid hv
          clear hv
          go_wp2_with fail
          refine (sValid_f _ _ HV.out).mono ?_
          rintro e w' ⟨rfl, rfl⟩
          go_wp2_with fail
          refine (pick_any _ _ _ _ _ _ _ _ R3.out (by omega)).mono ?_
          rintro e w4 ⟨a4, rfl, a40, a41, hoff4, hrd4⟩
          have a4lt : a4 < 4 := a41 (by omega)
          have O4 := Lib.hid (own_far O3.out hoff4.grown hgw)
          have G4 := Lib.hid (grow_trans G3.out hoff4.grown)
          have R4 := Lib.hid (hrd4 (by omega))
          have F4 : Hid (fits a4) := ⟨by omega, by omega⟩
          clear hrd4 hoff4 a41
          go_wp2_with (at_builtin; refine wpList_append_own _ rfl _ _ 23 rfl w.heap.size 3 i0 (.int .i64 0) 1 8 Tryd.underlying23 ZI.out Z0.out Z1.out Z2.out rfl (by decide) _ _ _ rfl (O4.out.alloc _) ⟨w4.heap.size, 0, none⟩ 1 1 [.int .i64 a4] rfl rfl ?c1 ?c2 ?c3 ?c4 ?c5 ?_)
          case c1 =>
            intro j u hj
            match j, hj with
            | 0, hj => simp at hj; subst hj; simp [Addr.add]
          case c2 => intro u hu; simp at hu; subst hu; rfl
          case c3 => have := HL.out; unfold maxLen; omega
          case c4 => have := HL.out; omega
          case c5 => have := G4.out.size; simp; omega
          · intro v' w5 hown' hgrow _
            have hg5 := grow_own (grow_trans G4.out (World.grownBy_alloc _ _ _)) hgrow (fun j hj => (O4.out.lt j hj).1)
            have hr5 := (R4.out.alloc (.cells #[.int .i64 a4] 3)).grown hgrow (fun j hj => by have := (O4.out.lt j hj).1; omega)
            rw [snoc_map] at hown'
            have O5 := Lib.hid hown'
            have G5 := Lib.hid hg5
            have R5 := Lib.hid hr5
            clear hown' hgrow hg5 hr5
            go_wp2
            go_roundw
            case rel =>
              refine ⟨k + 1, vs ++ [a4], (q3 + 1), by omega, by go_num, by rw [List.length_append, HL.out]; rfl, ?_, ?_, by omega, R5.out, G5.out⟩
              · rw [List.length_append]; exact O5.out
              · intro z hz
                rcases List.mem_append.1 hz with hz | hz
                · exact HF.out z hz
                · rw [List.mem_singleton.1 hz]; exact F4.out
            case measure => simp [intOf]; omega
      · go_wp2
        go_ret
        exact ⟨_, vs, q, rfl, HO.out, by have := HL.out; omega, HF.out, by omega, HR.out, HG.out⟩

end Go.Proofs.YtgnphlegbbplcaaDoor
