/- The reader of expressions: a part, an expression, the whole text: what the text reads as, or a panic. Nothing that was there ahead of the reader changes. No condition. -/
import Derived.Test.YtefjeccnkfmgeaaTake
import Derived.Handy
namespace Go.Proofs.Ytefjeccnkfmgeaa
open Go.RowKit
set_option maxHeartbeats 2000000
set_option maxRecDepth 100000
set_option linter.unusedVariables false

/-- An expression as the program's nodes. -/
def exV : Ex → Value
  | .lit b => .iface 53 (.string ⟨#[chr b]⟩)
  | .join x y => .iface 55 (.agg #[exV x, exV y])
  | .rep x => .iface 57 (.agg #[exV x])
theorem exV_iface (x : Ex) : ∃ t v, exV x = .iface t v := by cases x <;> exact ⟨_, _, rfl⟩
/-- How a reader ends. -/
def RdEnd (r : Option (Ex × List UInt8)) (A : Nat) (w : World) (e : Ending) (w' : World) : Prop :=
  Below A w w' ∧ ((∃ x l, ∃ q : ByteArray, r = some (x, l) ∧ q.data.toList = l ∧ e = .returned (exV x) ∧ Blk w' A 51 #[.string q]) ∨ (r = none ∧ ∃ v, e = .panicked [{ v := .iface 9 v, recovered := false }]))
theorem RdEnd.bad {r : Option (Ex × List UInt8)} {A : Nat} {w w' : World} {v : Value} (h : r = none) (hb : Below A w w') : RdEnd r A w (.panicked [{ v := .iface 9 v, recovered := false }]) w' := ⟨hb, .inr ⟨h, _, rfl⟩⟩
theorem RdEnd.good {r : Option (Ex × List UInt8)} {A : Nat} {w w' : World} {x : Ex} {l : List UInt8} {q : ByteArray} {v : Value} (h : r = some (x, l)) (hq : q.data.toList = l) (hv : v = exV x) (hb : Below A w w') (hB : Blk w' A 51 #[.string q]) : RdEnd r A w (.returned v) w' := ⟨hb, .inl ⟨x, l, q, h, hq, by rw [hv], hB⟩⟩
/-- The letters in the order in which they are asked for. -/
def mkL (k : Nat) : ByteArray := ⟨#[chr (k == 0)]⟩
theorem mkL_list (k : Nat) : (mkL k).data.toList = [chr (k == 0)] := rfl
theorem pre_one (c : UInt8) (l : List UInt8) : [c].isPrefixOf l = true ↔ ∃ l', l = c :: l' := by
  rw [List.isPrefixOf_iff_prefix]
  constructor
  · rintro ⟨l', h⟩; exact ⟨l', h.symm⟩
  · rintro ⟨l', h⟩; exact ⟨l', h.symm⟩
theorem part_lit (b : Bool) (l : List UInt8) : partF (chr b :: l) = some (.lit b, l) := by cases b <;> first | exact part_a l | exact part_b l
/-- No letter in front. -/
theorem part_no {l : List UInt8} (ha : [chr true].isPrefixOf l = false) (hb : [chr false].isPrefixOf l = false) (ho : [40].isPrefixOf l = false) : partF l = none := by
  cases l with
  | nil => rfl
  | cons c l =>
    have f : ∀ d : UInt8, [d].isPrefixOf (c :: l) = false → c ≠ d := fun d h e => by
      subst e
      simp [List.isPrefixOf] at h
    exact part_bad l (f 97 ha) (f 98 hb) (f 40 ho)
theorem behind_no {x : Ex} {l : List UInt8} (hp : [41, 35].isPrefixOf l = false) : behindF (some (x, l)) = none := by
  cases l with
  | nil => rfl
  | cons d l =>
    cases l with
    | nil => rfl
    | cons d' l =>
      have : ¬ (d = 41 ∧ d' = 35) := by
        rintro ⟨rfl, rfl⟩
        simp [List.isPrefixOf] at hp
      simp [behindF, this]
theorem behind_yes (x : Ex) (l : List UInt8) : behindF (some (x, [41, 35] ++ l)) = some (.rep x, l) := by simp [behindF]
def EC (n : Nat) : Prop := ∀ (A : Nat) (s : ByteArray) (w : World), s.size < n → Blk w A 51 #[.string s] →
  Calls Try.prog 40 #[.pointer (some ⟨A, 0, none⟩)] w fun e w' => RdEnd (genF none s.data.toList) A w e w'
theorem set_below {A : Nat} {w w' : World} (h : Below A w w') (v : Value) : Below A w (w'.setCell ⟨A, 0, none⟩ v) := h.setCell (Nat.le_refl _) v

theorem partC (n : Nat) (ih : EC n) (A : Nat) (s : ByteArray) (w : World) (hs : s.size ≤ n) (hb : Blk w A 51 #[.string s]) :
    Calls Try.prog 42 #[.pointer (some ⟨A, 0, none⟩)] w fun e w' => RdEnd (partF s.data.toList) A w e w' := by
  have hA : A < w.heap.size := hb.lt
  obtain ⟨w1, hw1⟩ : ∃ w1, w1 = w.alloc (.cells #[.string ⟨#[97]⟩, .string ⟨#[98]⟩] 9) := ⟨_, rfl⟩
  obtain ⟨G, hG⟩ : ∃ G, G = w.heap.size := ⟨_, rfl⟩
  have HG : Hid (Blk w1 G 9 #[.string ⟨#[97]⟩, .string ⟨#[98]⟩]) := by rw [hw1, hG]; exact Blk.new _ _ _
  have HB : Hid (Blk w1 A 51 #[.string s]) := by rw [hw1]; exact hb.alloc _
  have HW : Hid (Below A w w1) := by rw [hw1]; exact (Below.refl _ _).alloc (by omega) _
  have hAG : ¬ A = G := by omega
  have HGA : Hid (¬ G = A) := fun e => hAG e.symm
  have HI := Lib.hid ih
  have HS := Lib.hid hs
  clear hb ih hs
  go_enter Try.func42, Try.ntmps42
  go_wp2_with fail
  rw [← hw1, ← hG]
  clear hw1 hG hA
  go_loopw [8] (fun i wr => ∃ k : Nat, k ≤ 2 ∧ i = .int .i64 k ∧ Hid (0 < k → [chr true].isPrefixOf s.data.toList = false) ∧ Hid (1 < k → [chr false].isPrefixOf s.data.toList = false) ∧ Hid (Blk wr A 51 #[.string s]) ∧ Hid (Blk wr G 9 #[.string ⟨#[97]⟩, .string ⟨#[98]⟩]) ∧ Hid (Below A w wr)) (fun i _ => 2 - (intOf i).toNat)
  case atStart => exact ⟨0, by omega, rfl, fun h => absurd h (by omega), fun h => absurd h (by omega), HB.out, HG.out, HW.out⟩
  case round =>
    obtain ⟨k, hk, rfl, h0, h1, hB, hGG, hW⟩ := hrel
    clear HB HG HW
    by_cases hlt : (k : Int) < 2
    · have hk0 : (0 : Int) ≤ (k : Int) := by omega
      have hcell : wr.cell? ⟨G, k, none⟩ = some (.string (mkL k)) := by
        rw [hGG.out.cell k]
        rcases (show k = 0 ∨ k = 1 by omega) with rfl | rfl <;> rfl
      cases hp : (mkL k).data.toList.isPrefixOf s.data.toList with
      | true =>
        obtain ⟨l, hl⟩ := (pre_one _ _).1 hp
        have HL := Lib.hid hl
        clear hp hl
        go_wp2_with fail
        refine (take_yes A s (mkL k) l _ hB.out (HL.out.trans rfl)).mono ?_
        rintro e w' ⟨q, hq, rfl, rfl⟩
        have HQ := Lib.hid hq
        clear hq
        go_wp2_with fail
        go_ret
        exact RdEnd.good (x := .lit (k == 0)) (l := l) (q := q) (by rw [HL.out]; exact part_lit _ _) HQ.out rfl (set_below hW.out _) (hB.out.set_ 0 (.string q))
      | false =>
        have HP := Lib.hid hp
        clear hp
        go_wp2_with fail
        refine (take_no A s (mkL k) _ hB.out HP.out).mono ?_
        rintro e w' ⟨rfl, rfl⟩
        go_wp2_with fail
        go_roundw
        case rel =>
          refine ⟨k + 1, by omega, by first | rfl | (congr 1), fun _ => ?_, fun h => ?_, hB.out.set_ 0 (.string s), ?_, set_below hW.out _⟩
          · rcases (show k = 0 ∨ k = 1 by omega) with rfl | rfl
            · exact HP.out
            · exact h0.out (by omega)
          · have : k = 1 := by omega
            subst this
            exact HP.out
          · exact (Below.heap_setCell _ _ _ _ HGA.out).trans hGG.out
        case measure => simp [intOf]; omega
    · have hk2 : k = 2 := by omega
      subst hk2
      have ha := h0.out (by omega)
      have hb := h1.out (by omega)
      have HA := Lib.hid ha
      have HB := Lib.hid hb
      clear h0 h1 ha hb hGG
      cases hp : [40].isPrefixOf s.data.toList with
      | false =>
        have HP := Lib.hid hp
        clear hp
        go_wp2_with fail
        refine (need_no A s ⟨#[40]⟩ _ (by decide) hB.out HP.out).mono ?_
        rintro e w' ⟨⟨v, rfl⟩, rfl⟩
        go_wp2_with fail
        exact ⟨rfl, RdEnd.bad (part_no HA.out HB.out HP.out) (set_below hW.out _)⟩
      | true =>
        obtain ⟨l, hl⟩ := (pre_one _ _).1 hp
        have HL := Lib.hid hl
        clear hp hl
        go_wp2_with fail
        refine (need_yes A s ⟨#[40]⟩ l _ hB.out HL.out).mono ?_
        rintro e w' ⟨q, hq, rfl, rfl⟩
        have hqs : q.size < n := by
          have h1 : s.size = (40 :: l).length := by rw [size_len, HL.out]
          have h2 : q.size = l.length := by rw [size_len, hq]
          have := HS.out
          simp at h1; omega
        have HQ := Lib.hid hq
        have HQS := Lib.hid hqs
        obtain ⟨w2, hw2⟩ : ∃ w2, w2 = wr.setCell ⟨A, 0, none⟩ (.string q) := ⟨_, rfl⟩
        have hB2 : Hid (Blk w2 A 51 #[.string q]) := by rw [hw2]; exact hB.out.set_ 0 (.string q)
        have hW2 : Hid (Below A w w2) := by rw [hw2]; exact set_below hW.out _
        rw [← hw2]
        clear hw2 hq hqs hB hW
        go_wp2_with fail
        refine (HI.out A q _ HQS.out hB2.out).mono ?_
        rintro e w3 ⟨hb3, ⟨x, l3, q3, hr3, hq3, rfl, hB3⟩ | ⟨hr3, v, rfl⟩⟩
        · have HB3 := Lib.hid hB3
          have HW3 : Hid (Below A w w3) := hW2.out.trans hb3
          have HR3 : Hid (partF s.data.toList = behindF (some (x, l3))) := by rw [HL.out, part_open, ← HQ.out]; exact congrArg behindF hr3
          have HQ3 := Lib.hid hq3
          clear hB3 hb3 hr3 hq3 hW2 hB2
          cases hp : [41, 35].isPrefixOf l3 with
          | false =>
            have HP := Lib.hid hp
            clear hp
            go_wp2_with fail
            refine (need_no A q3 ⟨#[41, 35]⟩ _ (by decide) HB3.out (by rw [HQ3.out]; exact HP.out)).mono ?_
            rintro e w' ⟨⟨v, rfl⟩, rfl⟩
            go_wp2_with fail
            refine ⟨rfl, RdEnd.bad (HR3.out.trans ?_) (set_below HW3.out _)⟩
            exact behind_no HP.out
          | true =>
            obtain ⟨l4, hl4⟩ := List.isPrefixOf_iff_prefix.1 hp
            have HL4 := Lib.hid hl4
            clear hp hl4
            go_wp2_with fail
            refine (need_yes A q3 ⟨#[41, 35]⟩ l4 _ HB3.out (by rw [HQ3.out, ← HL4.out])).mono ?_
            rintro e w' ⟨q5, hq5, rfl, rfl⟩
            have HQ5 := Lib.hid hq5
            clear hq5
            obtain ⟨t0, v0, hx0⟩ := exV_iface x
            rw [hx0]
            go_wp2_with fail
            go_ret
            exact RdEnd.good (v := .iface 57 (.agg #[.iface t0 v0])) (x := .rep x) (l := l4) (q := q5) (HR3.out.trans (by rw [← HL4.out]; exact behind_yes _ _)) HQ5.out (by show _ = Value.iface _ (.agg #[exV x]); rw [hx0]) (set_below HW3.out _) (HB3.out.set_ 0 (.string q5))
        · have HW3 : Hid (Below A w w3) := hW2.out.trans hb3
          have HR3 : Hid (partF s.data.toList = none) := by rw [HL.out, part_open, ← HQ.out]; exact congrArg behindF hr3
          clear hb3 hr3 hW2 hB2
          go_wp2_with fail
          exact ⟨rfl, RdEnd.bad HR3.out HW3.out⟩

theorem behind_len {x x' : Ex} {l l' : List UInt8} (h : behindF (some (x, l)) = some (x', l')) : l'.length < l.length := by
  cases l with
  | nil => cases h
  | cons d l =>
    cases l with
    | nil => cases h
    | cons d' l =>
      simp only [behindF] at h
      split at h
      · simp only [Option.some.injEq, Prod.mk.injEq] at h
        obtain ⟨_, rfl⟩ := h
        simp only [List.length_cons]; omega
      · cases h
theorem gen_len {acc : Option Ex} {l r : List UInt8} {x : Ex} (h : genF acc l = some (x, r)) : r.length ≤ l.length := by
  unfold genF at h
  cases hp : P l with
  | none => rw [hp] at h; cases h
  | some p =>
    obtain ⟨t, r'⟩ := p
    rw [hp] at h
    have hl := (P_spec hp).2.2.2
    cases hE : endB r' with
    | false => simp [hE] at h
    | true =>
      cases ht : t.ex acc with
      | none => simp [hE, ht] at h
      | some y =>
        simp [hE, ht] at h
        obtain ⟨_, rfl⟩ := h
        exact hl
theorem part_len {l r : List UInt8} {y : Ex} (h : partF l = some (y, r)) : r.length < l.length := by
  cases l with
  | nil => cases h
  | cons c l =>
    by_cases h2 : c = 97
    · subst h2
      rw [part_a] at h
      simp only [Option.some.injEq, Prod.mk.injEq] at h
      obtain ⟨_, rfl⟩ := h
      exact Nat.lt_succ_self _
    by_cases h3 : c = 98
    · subst h3
      rw [part_b] at h
      simp only [Option.some.injEq, Prod.mk.injEq] at h
      obtain ⟨_, rfl⟩ := h
      exact Nat.lt_succ_self _
    by_cases h4 : c = 40
    · subst h4
      rw [part_open] at h
      cases hg : genF none l with
      | none => rw [hg] at h; cases h
      | some p =>
        obtain ⟨x, l1⟩ := p
        rw [hg] at h
        have h1 := behind_len h
        have h2 := gen_len hg
        simp only [List.length_cons]; omega
    · rw [part_bad l h2 h3 h4] at h; cases h
def szAt (A : Nat) (w : World) : Nat := match w.cell? ⟨A, 0, none⟩ with
  | some (.string q) => q.size
  | _ => 0
theorem szAt_of {A : Nat} {w : World} {q : ByteArray} {t : TypeId} (h : Blk w A t #[.string q]) : szAt A w = q.size := by
  unfold szAt
  rw [h.cell 0]
  rfl
theorem end_empty {q : ByteArray} (h : q.toList.isEmpty = true) : endB q.data.toList = true := by
  rw [ByteArray.toList_eq] at h
  unfold endB
  rw [h]; rfl
theorem end_of {q : ByteArray} {b : Bool} (h : q.toList.isEmpty = false) (hb : [41, 35].isPrefixOf q.data.toList = b) : endB q.data.toList = b := by
  rw [ByteArray.toList_eq] at h
  unfold endB
  rw [h, hb]; rfl
theorem exprC (n : Nat) (ih : EC n) : EC (n + 1) := by
  intro A s w hs hb
  have HI := Lib.hid ih
  have HB := Lib.hid hb
  have hsn : s.size ≤ n := by omega
  have HS := Lib.hid hsn
  clear ih hb hs hsn
  go_enter Try.func40, Try.ntmps40
  go_wp2_with fail
  refine (partC n HI.out A s _ HS.out HB.out).mono ?_
  rintro e w1 ⟨hb1, ⟨x, l, q, hr, hq, rfl, hB1⟩ | ⟨hr, v, rfl⟩⟩
  · have HB1 := Lib.hid hB1
    have HW1 := Lib.hid hb1
    have HR : Hid (genF none s.data.toList = genF (some x) q.data.toList) := by rw [gen_part none _ (.inl rfl), hr, hq]; rfl
    have HQ : Hid (q.size ≤ n) := by
      have h1 := part_len hr
      have h2 : q.size = l.length := by rw [size_len, hq]
      have h3 := HS.out
      rw [size_len] at h3
      show q.size ≤ n
      omega
    clear hB1 hb1 hr hq HB
    go_wp2_with fail
    go_loopw [3] (fun i wr => ∃ (x : Ex) (q : ByteArray), i = exV x ∧ Hid (genF none s.data.toList = genF (some x) q.data.toList) ∧ Hid (q.size ≤ n) ∧ Hid (Blk wr A 51 #[.string q]) ∧ Hid (Below A w wr)) (fun _ wr => szAt A wr)
    case atStart => exact ⟨x, q, rfl, HR.out, HQ.out, HB1.out, HW1.out⟩
    case round =>
      clear HR HQ HB1 HW1
      obtain ⟨x, q, rfl, hR, hQ, hB, hW⟩ := hrel
      have c0 : wr.cell? ⟨A, 0, none⟩ = some (.string q) := hB.out.cell 0
      cases he : q.toList.isEmpty with
      | true =>
        go_wp2_with fail
        go_ret
        exact RdEnd.good (x := x) (q := q) (hR.out.trans (gen_end (end_empty he))) rfl rfl hW.out hB.out
      | false =>
        cases hp : [41, 35].isPrefixOf q.data.toList with
        | true =>
          have HP := Lib.hid hp
          clear hp
          go_wp2_with fail
          refine (sHasPrefix_is q ⟨#[41, 35]⟩ true _ HP.out).mono ?_
          rintro e w' ⟨rfl, rfl⟩
          go_wp2_with fail
          go_ret
          exact RdEnd.good (x := x) (q := q) (hR.out.trans (gen_end (end_of he HP.out))) rfl rfl hW.out hB.out
        | false =>
          have HP := Lib.hid hp
          have HE := Lib.hid (end_of he hp)
          clear hp
          go_wp2_with fail
          refine (sHasPrefix_is q ⟨#[41, 35]⟩ false _ HP.out).mono ?_
          rintro e w' ⟨rfl, rfl⟩
          clear c0 he
          go_wp2_with fail
          refine (partC n HI.out A q _ hQ.out hB.out).mono ?_
          rintro e w2 ⟨hb2, ⟨y, l2, q2, hr2, hq2, rfl, hB2⟩ | ⟨hr2, v, rfl⟩⟩
          · have HB2 := Lib.hid hB2
            have HW2 := Lib.hid (hW.out.trans hb2)
            have HR2 : Hid (genF none s.data.toList = genF (some (.join x y)) q2.data.toList) := by rw [hR.out, gen_part (some x) _ (.inr HE.out), hr2, hq2]; rfl
            have hlt : q2.size < q.size := by
              have h1 := part_len hr2
              have h2 : q2.size = l2.length := by rw [size_len, hq2]
              rw [size_len q]
              omega
            have HLT := Lib.hid hlt
            have hm1 := szAt_of hB2
            clear hB2 hb2 hr2 hq2 hlt
            obtain ⟨t0, v0, hx0⟩ := exV_iface x
            obtain ⟨t1, v1, hx1⟩ := exV_iface y
            rw [hx0, hx1]
            go_wp2_with fail
            go_roundw
            case rel => exact ⟨.join x y, q2, (by show _ = Value.iface _ (.agg #[exV x, exV y]); rw [hx0, hx1]), HR2.out, by have := hQ.out; have := HLT.out; show q2.size ≤ n; omega, HB2.out, HW2.out⟩
            case measure => rw [hm1, szAt_of hB.out]; exact HLT.out
          · have HW2 := Lib.hid (hW.out.trans hb2)
            have HR2 : Hid (genF none s.data.toList = none) := by rw [hR.out, gen_part (some x) _ (.inr HE.out), hr2]; rfl
            clear hb2 hr2
            go_wp2_with fail
            exact ⟨rfl, RdEnd.bad HR2.out HW2.out⟩
  · have HW1 := Lib.hid hb1
    have HR : Hid (genF none s.data.toList = none) := by rw [gen_part none _ (.inl rfl), hr]; rfl
    clear hb1 hr
    go_wp2_with fail
    exact ⟨rfl, RdEnd.bad HR.out HW1.out⟩
theorem expr_all : ∀ n, EC n
  | 0 => fun A s w h => absurd h (by omega)
  | n + 1 => exprC n (expr_all n)
theorem expr_any (A : Nat) (s : ByteArray) (w : World) (hb : Blk w A 51 #[.string s]) :
    Calls Try.prog 40 #[.pointer (some ⟨A, 0, none⟩)] w fun e w' => RdEnd (genF none s.data.toList) A w e w' := expr_all (s.size + 1) A s w (by omega) hb
end Go.Proofs.Ytefjeccnkfmgeaa
